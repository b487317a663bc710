/-
  One object of any of the four models, as data: its steps, its bytes, its text; no program.
-/
import Derived.Test.YtbnhcggjcdipeaaGreatDoorWD00
import Derived.BigQuiet
import Derived.Test.YtbnhcggjcdipeaaGreatDoorWD08
import Derived.Test.YtbnhcggjcdipeaaGreatDoorWD22
import Derived.Test.YtbnhcggjcdipeaaGreatDoorWD11
import Derived.Test.YtbnhcggjcdipeaaGreatDoorWD16
import Derived.Test.YtbnhcggjcdipeaaGreatDoorWD03
import Derived.Test.YtbnhcggjcdipeaaGreatDoorWD09
import Derived.Test.YtbnhcggjcdipeaaGreatDoorWD07
import Derived.Test.YtbnhcggjcdipeaaGreatDoorWD20
set_option linter.unusedSimpArgs false
set_option linter.unusedVariables false
namespace Go.Proofs.YtbnhcggjcdipeaaGreatDoor
open Go.RowKit
inductive Md where
  | rg (s : Int)
  | qu (l : List Int)
  | mp (m : Kv)
  | lk (s : Int)
def Md.model : Md → Int
  | .rg _ => 0
  | .qu _ => 1
  | .mp _ => 2
  | .lk _ => 3
def mdInit (m : Int) : Md := if m = 0 then .rg 0 else if m = 1 then .qu [] else if m = 2 then .mp kv0 else .lk 0
def Md.In : Md → Prop
  | .rg s => 0 ≤ s ∧ s < 65536
  | .qu l => U16s l
  | .mp m => KvIn m
  | .lk s => 0 ≤ s ∧ s ≤ 16
/-- How long its list is. -/
def Md.len : Md → Nat
  | .qu l => l.length
  | _ => 0
/-- A step, if it is one of the model's. -/
def mdY : Md → Int → Opn → Md × Ans
  | .rg s, _, x => (.rg (rgX s x).1, (rgX s x).2.1)
  | .qu l, _, x => (.qu (quX l x).1, (quX l x).2.1)
  | .mp m, _, x => (.mp (ksX m x).1, (ksX m x).2.1)
  | .lk s, c, x => (.lk (lkX s c x).1, (lkX s c x).2.1)
/-- A step of a client's operation: the state behind it, the answer, the error. -/
def mdX (S : Md) (c : Int) (x : Opn) : Md × Ans × Int :=
  if 15 < c then (S, ⟨0, 0⟩, 2) else if opChk S.model x = 0 then ((mdY S c x).1, (mdY S c x).2, 0) else (S, ⟨0, 0⟩, 10)
def kvBy (m : Kv) : List UInt8 := (kvBn m).map fun n => UInt8.ofNat n.toNat
/-- Its bytes. -/
def mdB : Md → List UInt8
  | .rg s => rgB s
  | .qu l => quB l
  | .mp m => kvBy m
  | .lk s => lkB s
/-- Texts with a space between each two. -/
def spT : List (List UInt8) → List UInt8
  | [] => []
  | [x] => x
  | x :: y :: r => x ++ 32 :: spT (y :: r)
/-- The text of a key and its number. -/
def itT (x : It) : List UInt8 := dec x.k ++ 58 :: dec x.v
def freeT : List UInt8 := [102, 114, 101, 101]
def heldT : List UInt8 := [104, 101, 108, 100, 32, 98, 121, 32]
/-- Its text. -/
def mdT : Md → List UInt8
  | .rg s => dec s
  | .qu l => 91 :: (spT (l.map dec) ++ [93])
  | .mp m => 123 :: (spT ((itOf 0 m).map itT) ++ [125])
  | .lk s => if s = 0 then freeT else heldT ++ dec (s - 1)
theorem mdInit_in (m : Int) : (mdInit m).In := by
  unfold mdInit
  split
  · exact ⟨by decide, by decide⟩
  · split
    · exact fun v hv => by cases hv
    · split
      · exact kv0_in
      · exact ⟨by decide, by decide⟩
theorem mdInit_len (m : Int) : (mdInit m).len = 0 := by
  unfold mdInit
  split
  · rfl
  · split
    · rfl
    · split <;> rfl
theorem mdInit_model {m : Int} (h0 : 0 ≤ m) (h1 : m ≤ 3) : (mdInit m).model = m := by
  unfold mdInit
  split
  · rename_i h; exact h.symm
  · split
    · rename_i h; exact h.symm
    · split
      · rename_i h; exact h.symm
      · show (3 : Int) = m; omega
theorem Md.model_in (S : Md) : 0 ≤ S.model ∧ S.model ≤ 3 := by cases S <;> simp [Md.model]
theorem mdX_err (S : Md) (c : Int) (x : Opn) : (mdX S c x).2.2 = if 15 < c then 2 else opChk S.model x := by
  unfold mdX
  split
  · rfl
  · rcases opChk_or S.model x with h | h
    · rw [if_pos h, h]
    · rw [if_neg (by omega), h]
theorem mdY_model (S : Md) (c : Int) (x : Opn) : (mdY S c x).1.model = S.model := by cases S <;> rfl
theorem mdX_model (S : Md) (c : Int) (x : Opn) : (mdX S c x).1.model = S.model := by
  unfold mdX
  split
  · rfl
  · split
    · exact mdY_model S c x
    · rfl
/-- What an operation of a model is. -/
theorem chk_of {m : Int} {x : Opn} (h : opChk m x = 0) : Good x ∧ opM x.f = m := by
  unfold opChk at h
  split at h
  · rename_i h2
    simp only [Bool.and_eq_true, beq_iff_eq] at h2
    exact ⟨(good_iff x).1 h2.1, h2.2⟩
  · cases h
theorem chk_f {m : Int} {x : Opn} (h : opChk m x = 0) : (m = 0 ∧ (x.f = 1 ∨ x.f = 2 ∨ x.f = 3)) ∨ (m = 1 ∧ (x.f = 4 ∨ x.f = 5)) ∨ (m = 2 ∧ (x.f = 6 ∨ x.f = 7 ∨ x.f = 8 ∨ x.f = 9)) ∨ (m = 3 ∧ (x.f = 10 ∨ x.f = 11)) := by
  obtain ⟨hg, hm⟩ := chk_of h
  rcases is_cases hg.is with h | h | h | h | h | h | h | h | h | h | h <;> rw [h] at hm <;> simp [opM] at hm <;> omega
/-- The error that the model itself tells. -/
def mdE : Md → Int → Opn → Int
  | .rg s, _, x => (rgX s x).2.2
  | .qu l, _, x => (quX l x).2.2
  | .mp m, _, x => (ksX m x).2.2
  | .lk s, c, x => (lkX s c x).2.2
theorem mdY_err {S : Md} (hS : S.In) {c : Int} (hc : c ≤ 15) {x : Opn} (h : opChk S.model x = 0) : mdE S c x = 0 := by
  have hf := chk_f h
  have hg := (chk_of h).1
  cases S with
  | rg s =>
    simp only [Md.model] at hf
    show (rgX s x).2.2 = 0
    rcases rgX_err s x with h | h
    · exact h
    · exfalso
      unfold rgX at h
      rcases (by omega : x.f = 1 ∨ x.f = 2 ∨ x.f = 3) with hf | hf | hf <;> rw [hf] at h
      · simp at h
      · simp at h
      · simp only [if_true] at h
        split at h
        · rename_i h2; cases h2
        · split at h
          · rename_i h2; cases h2
          · split at h <;> cases h
  | qu l => show (quX l x).2.2 = 0; rw [quX_err]; exact h
  | mp m =>
    simp only [Md.model] at hf
    show (ksX m x).2.2 = 0
    unfold ksX
    rw [if_neg (by have := hg.k; omega)]
    split
    · rfl
    · split
      · split <;> rfl
      · split
        · rfl
        · split
          · rfl
          · split <;> rfl
  | lk s =>
    show (lkX s c x).2.2 = 0
    have hs : s ≤ 16 := hS.2
    rcases lkX_ways s c x with h1 | h1 | h1 | h1 | h1 | h1
    · have h' : opChk 3 x = 0 := h; omega
    · omega
    · rw [h1.2.2.2.2.2]
    · rw [h1.2.2.2.2.2]
    · rw [h1.2.2.2.2.2]
    · rw [h1.2.2.2.2.2]
theorem mdY_in {S : Md} (hS : S.In) {c : Int} (h0 : 0 ≤ c) (h1 : c ≤ 15) {x : Opn} (hx : x.In) : (mdY S c x).1.In := by
  cases S with
  | rg s => exact rgX_st hS hx
  | qu l => exact quX_in hS hx
  | mp m => exact ksX_in hS hx
  | lk s =>
    have hs : 0 ≤ s ∧ s ≤ 16 := hS
    show 0 ≤ (lkX s c x).1 ∧ (lkX s c x).1 ≤ 16
    rcases lkX_ways s c x with h1 | h1 | h1 | h1 | h1 | h1
    · rw [h1.2]; exact hs
    · rw [h1.2.2]; exact hs
    · rw [h1.2.2.2.2.2]; simp only; omega
    · rw [h1.2.2.2.2.2]; exact hs
    · rw [h1.2.2.2.2.2]; simp only; omega
    · rw [h1.2.2.2.2.2]; exact hs
theorem mdX_in {S : Md} (hS : S.In) {c : Int} (h0 : 0 ≤ c) {x : Opn} (hx : x.In) : (mdX S c x).1.In := by
  unfold mdX
  split
  · exact hS
  · split
    · exact mdY_in hS h0 (by omega) hx
    · exact hS
theorem mdY_len (S : Md) (c : Int) (x : Opn) : (mdY S c x).1.len ≤ S.len + 1 := by
  cases S with
  | qu l => exact quX_len l x
  | _ => exact Nat.zero_le _
theorem mdX_len (S : Md) (c : Int) (x : Opn) : (mdX S c x).1.len ≤ S.len + 1 := by
  unfold mdX
  split
  · exact Nat.le_succ _
  · split
    · exact mdY_len S c x
    · exact Nat.le_succ _
end Go.Proofs.YtbnhcggjcdipeaaGreatDoor
/-
  An object's bytes and its text tell which state of its model it is in; no program.
-/
namespace Go.Proofs.YtbnhcggjcdipeaaGreatDoor
open Go.RowKit
theorem kvBy_nb {m : Kv} (h : KvIn m) : nb (kvBy m) = kvBn m := by
  have hu := kvBn_u8 h
  unfold nb kvBy
  rw [List.map_map]
  conv => rhs; rw [← List.map_id (kvBn m)]
  refine List.map_congr_left fun n hn => ?_
  have := hu n hn
  simp only [Function.comp, UInt8.toNat_ofNat', id]
  omega
theorem kvBy_str {m : Kv} (h : KvIn m) : strOfNums (kvBn m) = bs (kvBy m) := by rw [← kvBy_nb h, str_nb]
theorem kvBy_inj {m n : Kv} (hm : KvIn m) (hn : KvIn n) (h : kvBy m = kvBy n) : m = n := by
  have e : kvBn m = kvBn n := by rw [← kvBy_nb hm, ← kvBy_nb hn, h]
  have := kvD_enc hm
  rw [e, kvD_enc hn] at this
  exact (congrArg Prod.fst this).symm
/-- States of one model are the same just if their bytes are. -/
theorem mdB_inj {S T : Md} (hS : S.In) (hT : T.In) (hm : S.model = T.model) : mdB S = mdB T ↔ S = T := by
  refine ⟨fun h => ?_, fun h => by rw [h]⟩
  cases S <;> cases T <;> simp only [Md.model] at hm <;> first | (exfalso; revert hm; decide) | skip
  · rename_i a b
    have : rgB a = rgB b := h
    rw [← rgN_rgB (show 0 ≤ a ∧ a < 65536 from hS), ← rgN_rgB (show 0 ≤ b ∧ b < 65536 from hT), this]
  · rename_i a b
    rw [(quB_inj a b hS hT).1 h]
  · rename_i a b
    rw [kvBy_inj hS hT h]
  · rename_i a b
    have h2 : lkB a = lkB b := h
    have ha : 0 ≤ a ∧ a ≤ 16 := hS
    have hb : 0 ≤ b ∧ b ≤ 16 := hT
    have := congrArg nb h2
    rw [nb_lkB ha.1 (by omega), nb_lkB hb.1 (by omega)] at this
    simp at this
    rw [this]
theorem dec_ne' (a : Int) : dec a ≠ [] := dec_ne _
theorem dec_no (a : Int) {c : UInt8} (hc : c.toNat < 48 ∨ 57 < c.toNat) : c ∉ dec a := fun h => by
  have := dec_digits a.toNat c h
  unfold isDig at this
  omega
def spR : List (List UInt8) → List UInt8
  | [] => []
  | x :: r => 32 :: spT (x :: r)
theorem spT_cons (x : List UInt8) (r : List (List UInt8)) : spT (x :: r) = x ++ spR r := by
  cases r with
  | nil => show x = x ++ []; simp
  | cons y r => rfl
theorem spT_snoc : ∀ (l : List (List UInt8)) (x : List UInt8), spT (l ++ [x]) = spT l ++ (if l = [] then [] else [32]) ++ x
  | [], x => by simp [spT]
  | [a], x => by simp [spT]
  | a :: b :: r, x => by
    have ih := spT_snoc (b :: r) x
    rw [if_neg (by simp)] at ih ⊢
    show a ++ 32 :: spT (b :: r ++ [x]) = a ++ 32 :: spT (b :: r) ++ [32] ++ x
    rw [ih]
    simp
theorem spT_ne {x : List UInt8} {r : List (List UInt8)} (h : x ≠ []) : spT (x :: r) ≠ [] := by
  rw [spT_cons]
  intro e
  exact h (List.append_eq_nil_iff.1 e).1
theorem itT_word (x : It) : itT x ≠ [] ∧ (32 : UInt8) ∉ itT x := by
  refine ⟨fun h => dec_ne' x.k (List.append_eq_nil_iff.1 h).1, fun h => ?_⟩
  rcases List.mem_append.1 h with h | h
  · exact dec_no _ (by decide) h
  · rcases List.mem_cons.1 h with h | h
    · exact absurd h (by decide)
    · exact dec_no _ (by decide) h
theorem itOf_mem : ∀ (n : Nat) (m : Kv), ∀ x ∈ itOf n m, ∃ k : Nat, m[k]? = some (some x.v)
  | n, [], x, h => by cases h
  | n, none :: r, x, h => by
    obtain ⟨k, hk⟩ := itOf_mem (n + 1) r x h
    exact ⟨k + 1, by simpa using hk⟩
  | n, some v :: r, x, h => by
    rcases List.mem_cons.1 h with rfl | h
    · exact ⟨0, rfl⟩
    · obtain ⟨k, hk⟩ := itOf_mem (n + 1) r x h
      exact ⟨k + 1, by simpa using hk⟩
end Go.Proofs.YtbnhcggjcdipeaaGreatDoor
/-
  The document's numbers in decimal digits.
-/
namespace Go.Proofs.YtbnhcggjcdipeaaGreatDoor
open Go.RowKit
theorem digit13 (c : Nat) : strOfNums [48 + (c : Int) % 10] = bs [UInt8.ofNat (48 + c % 10)] := by
  have : (48 + (c : Int) % 10).toNat = 48 + c % 10 := by omega
  simp [strOfNums, bs, this]
set_option maxHeartbeats 1000000
set_option maxRecDepth 100000
theorem r13Digits_nat (w : World) (m : Nat) (hm : m < 65536) : Calls Tryz.prog 59 #[.int .i64 m] w fun e w' => e = .returned (.string (bs (Lib.decDigits m))) ∧ Keeps [] w w' := by
  have hlen := dec_length_le 4 m (by omega)
  go_enter Tryz.func59, Tryz.ntmps59
  go_wp2_with fail
  go_loopw [0, 3] (fun n s wr => ∃ (c : Nat) (t : List UInt8), n = .int .i64 c ∧ s = .string (bs t) ∧ Lib.decDigits c ++ t = Lib.decDigits m ∧ c ≤ m ∧ Keeps [] w wr) (fun n _ _ => (intOf n).toNat)
  case atStart => exact ⟨m, [], rfl, rfl, by simp, Nat.le_refl _, Keeps.refl _ _⟩
  case round =>
    obtain ⟨c, t, rfl, rfl, ht, hcm, hk⟩ := hrel
    have htl : t.length ≤ 10 := by have := congrArg List.length ht; rw [List.length_append] at this; omega
    have hs1 : (bs t).size ≤ 10 := by rw [bs_size]; exact htl
    have hcv := text1_at (W := wr) rfl (48 + (c : Int) % 10)
    have hs2 : (strOfNums [48 + (c : Int) % 10]).size ≤ 1 := by rw [strOfNums_size]; simp
    have e2 : strOfNums [48 + (c : Int) % 10] ++ bs t = bs (UInt8.ofNat (48 + c % 10) :: t) := by rw [digit13, bs_app]; rfl
    have E2 := Lib.hid e2; clear e2
    have hm1 : (c : Int).tmod 10 = (c : Int) % 10 := Int.tmod_eq_emod_of_nonneg (by omega)
    have hm2 : (c : Int).tdiv 10 = (c : Int) / 10 := Int.tdiv_eq_ediv_of_nonneg (by omega)
    have hw1 : IntKind.i64.wrap ((c : Int) % 10) = (c : Int) % 10 := by simp [IntKind.wrap, IntKind.signed, IntKind.bits]; omega
    have hw2 : IntKind.i64.wrap (48 + (c : Int) % 10) = 48 + (c : Int) % 10 := by simp [IntKind.wrap, IntKind.signed, IntKind.bits]; omega
    have hw3 : IntKind.u8.wrap (48 + (c : Int) % 10) = 48 + (c : Int) % 10 := by simp [IntKind.wrap, IntKind.signed, IntKind.bits]; omega
    have hw4 : IntKind.i64.wrap ((c : Int) / 10) = (c : Int) / 10 := by simp [IntKind.wrap, IntKind.signed, IntKind.bits]; omega
    generalize hT : strOfNums [48 + (c : Int) % 10] = T at *
    generalize hS : bs t = S at *
    clear hT hS
    by_cases hlt : c < 10
    · have e3 : UInt8.ofNat (48 + c % 10) :: t = Lib.decDigits m := by rw [← ht, dec_small hlt]; rfl
      rw [e3] at E2
      have hq : (c : Int) / 10 = 0 := by omega
      clear e3
      go_wp2_with fail
      go_ret
      exact ⟨by rw [← E2.out]; rfl, hk.alloc _⟩
    · have e3 : Lib.decDigits (c / 10) ++ (UInt8.ofNat (48 + c % 10) :: t) = Lib.decDigits m := by rw [← ht, dec_big hlt]; simp
      have hq : ((c : Int) / 10 == 0) = false := by simp; omega
      go_wp2_with fail
      go_roundw
      case rel => exact ⟨c / 10, _, by congr 1, by rw [← E2.out], e3, by omega, hk.alloc _⟩
      case measure => simp [intOf]; omega
theorem r13Digits_any (w : World) (n : Int) (n0 : 0 ≤ n) (n1 : n < 65536) : Calls Tryz.prog 59 #[.int .i64 n] w fun e w' => e = .returned (.string (bs (dec n))) ∧ Keeps [] w w' := by
  obtain ⟨m, rfl⟩ := Int.eq_ofNat_of_zero_le n0
  exact r13Digits_nat w m (by omega)
end Go.Proofs.YtbnhcggjcdipeaaGreatDoor
/-
  Any struct by its cells, references and all: loads, stores; the document's object in memory.
-/
namespace Go.Proofs.YtbnhcggjcdipeaaGreatDoor
open Go.RowKit
set_option maxRecDepth 100000
/-- A struct's type, and how many cells it has. -/
structure SK where
  T : TypeId
  s : Nat
  d : TypeDesc
  und : Tryz.prog.underlying T = some d
  row : d.isRow = true
  size : (Tryz.prog.info? T).map (·.size) = some s
/-- Cells of one such struct. -/
def SK.Ok (R : SK) (A : List Value) : Prop := A.length = R.s ∧ ∀ v ∈ A, v.oneCell' = true
theorem SK.Ok.all {R : SK} {A : List Value} (h : R.Ok A) : A.toArray.all (·.oneCell') = true := by rw [← Array.all_toList, List.all_eq_true]; exact h.2
section
variable {ops : Array Oper} {rest : List Oper} {o : Oper} {a : Act} {w : World} {K : Act → World → Prop} {Q : Exit → Act → World → Prop} {S : World → Prop}
theorem SK.wp_load (R : SK) {x : Operand} (ho : o.op = .load R.T x) {g off : Nat} {A : List Value} (hA : R.Ok A) (hx : a.eval x = .pointer (some ⟨g, off, none⟩)) (hr : w.rangeAt g off A) (h : K (a.put o.dst (.agg A.toArray)) w) : o.wp Tryz.prog a w K Q :=
  wp_load_mid R.T x ho g off hx A _ hr R.und R.row (by rw [R.size, hA.1]) h
theorem SK.wpList_load (R : SK) {dst : Option Tmp} {ty : TypeId} {pos : String} {after : Array Edge} {gd : Option (Nat × Bool)} {x : Operand} {g off : Nat} {A : List Value} (hA : R.Ok A)
    (hw : Region.wanted { dst := dst, op := .load R.T x, type := ty, pos := pos, after := after, guard := gd } (yielded ops a.tmps) = true)
    (hx : a.eval x = .pointer (some ⟨g, off, none⟩)) (hr : w.rangeAt g off A) (h : wpList Tryz.prog ops Q rest (a.put dst (.agg A.toArray)) w) :
    wpList Tryz.prog ops Q ({ dst := dst, op := .load R.T x, type := ty, pos := pos, after := after, guard := gd } :: rest) a w :=
  wpList_step fun _ hK => by
    rw [if_pos hw]
    exact R.wp_load rfl hA hx hr (hK _ _ h)
theorem SK.yields (R : SK) {A : List Value} (hA : R.Ok A) (hw : Region.wanted o (yielded ops a.tmps) = true) (x : Operand) (ho : o.op = .load R.T x) (g off : Nat) (hx : a.eval x = .pointer (some ⟨g, off, none⟩)) (hS : ∀ w, S w → w.rangeAt g off A) :
    YieldsIf Tryz.prog ops S o (.agg A.toArray) a :=
  yieldsIf_load_mid (P := Tryz.prog) hw R.T x ho g off hx A _ hS R.und R.row (by rw [R.size, hA.1])
theorem SK.wp_put (R : SK) {x y : Operand} (ho : o.op = .store R.T x y) {g : Nat} {old A : List Value} (hA : R.Ok A) (hO : R.Ok old) {t : TypeId}
    (hx : a.eval x = .pointer (some ⟨g, 0, none⟩)) (hy : a.eval y = .agg A.toArray) (hg : w.heap[g]? = some (.cells old.toArray t (0, 0)))
    (h : ∀ W, W.heap[g]? = some (.cells A.toArray t (0, 0)) → Keeps [g] w W → K (a.put o.dst undef) W) : o.wp Tryz.prog a w K Q :=
  wp_store_row R.T x y ho g A.toArray hx hy t old.toArray hg (by rw [R.size, List.size_toArray, hA.1]) (by rw [List.size_toArray, List.size_toArray, hA.1, hO.1]) hA.all (h _ (setRow_heap w g old.toArray A.toArray t (0, 0) hg) ((Keeps.refl [g] w).setRow g _ (.inl (by simp))))
theorem SK.wpList_put (R : SK) {dst : Option Tmp} {ty : TypeId} {pos : String} {after : Array Edge} {x y : Operand} {g : Nat} {old A : List Value} (hA : R.Ok A) (hO : R.Ok old) {t : TypeId}
    (hx : a.eval x = .pointer (some ⟨g, 0, none⟩)) (hy : a.eval y = .agg A.toArray) (hg : w.heap[g]? = some (.cells old.toArray t (0, 0)))
    (h : ∀ W, W.heap[g]? = some (.cells A.toArray t (0, 0)) → Keeps [g] w W → wpList Tryz.prog ops Q rest (a.put dst undef) W) :
    wpList Tryz.prog ops Q ({ dst := dst, op := .store R.T x y, type := ty, pos := pos, after := after, guard := none } :: rest) a w :=
  wpList_plain rfl fun _ hK => R.wp_put rfl hA hO hx hy hg (fun W h1 h2 => hK _ _ (h W h1 h2))
/-- One cell of a struct is stored. -/
theorem run_put13 {ty : TypeId} (hi : (Tryz.prog.info? ty).map (·.size) = some 1) {g j : Nat} {v : Value} {A : Array Value} {t : TypeId} (hg : w.heap[g]? = some (.cells A t (0, 0))) (hj : j < A.size) (h1 : v.oneCell' = true) :
    (storeVar ty ⟨g, j, none⟩ v).run Tryz.prog w = .ok () (w.setCell ⟨g, j, none⟩ v) := by
  have hcell : w.cell? ⟨g, j, none⟩ = some A[j] := by simp [World.cell?, hg, hj]
  have hfr : w.frozen? ⟨g, j, none⟩ = false := by simp [World.frozen?, hg]
  have := run_storeCells_cells (P := Tryz.prog) g j [v] 0 w (fun k hk => by
    obtain rfl : k = 0 := by simpa using hk
    show (w.cell? ⟨g, j, none⟩).isSome = true
    rw [hcell]; rfl) (fun k hk => by
    obtain rfl : k = 0 := by simpa using hk
    exact hfr) (fun u hu => by simp at hu; subst hu; exact h1)
  have hc : v.cells = #[v] := by cases v <;> first | rfl | cases h1
  cases hq : Tryz.prog.info? ty with
  | none => simp [hq] at hi
  | some i =>
    have hs : i.size = 1 := by simpa [hq] using hi
    simp only [Nat.add_zero] at this
    simp [storeVar, sizeOf, typeInfo, hq, hc, hs, this]
    rfl
theorem wpList_put1 {dst : Option Tmp} {ty t2 : TypeId} {pos : String} {after : Array Edge} {x y : Operand} {g j : Nat} {v : Value} {A : List Value} {t : TypeId} (hi : (Tryz.prog.info? ty).map (·.size) = some 1)
    (hx : a.eval x = .pointer (some ⟨g, j, none⟩)) (hy : a.eval y = v) (hg : w.heap[g]? = some (.cells A.toArray t (0, 0))) (hj : j < A.length) (h1 : v.oneCell' = true)
    (h : ∀ W, W.heap[g]? = some (.cells (A.set j v).toArray t (0, 0)) → Keeps [g] w W → wpList Tryz.prog ops Q rest (a.put dst undef) W) :
    wpList Tryz.prog ops Q ({ dst := dst, op := .store ty x y, type := t2, pos := pos, after := after, guard := none } :: rest) a w :=
  wpList_plain rfl fun _ hK => by
    unfold Oper.wp execOp
    simp only [hx, hy, Instr.storeAt, Instr.sureAddr, Sem.run_bind, Sem.run_pure, Result.andThen_ok, run_put13 hi hg (by simpa using hj) h1]
    refine hK _ _ (h _ ?_ ((Keeps.refl [g] w).setCell _ _ (.inl (by simp))))
    have := heap_setCell_same w g j _ t v hg
    simpa using this
end
/-- Cells that stand in a block. -/
theorem block_range {w : World} {g : Nat} {A : List Value} {t : TypeId} (h : w.heap[g]? = some (.cells A.toArray t (0, 0))) : w.rangeAt g 0 A := fun j v hv => by
  rw [Nat.zero_add]
  exact cell_lit h j (by simpa using hv)
theorem results_sk {fn : Func} {p : Tmp} (R : SK) (h : fn.results = #[.cell p R.T]) (tmps : Array Value) (w : World) (b : Nat) {A : List Value} (hA : R.Ok A) {t : TypeId}
    (hp : tmps.getD p undef = .pointer (some ⟨b, 0, none⟩)) (hb : w.heap[b]? = some (.cells A.toArray t (0, 0))) : (results fn tmps).run Tryz.prog w = .ok (.agg A.toArray) w := by
  have h1 : (loadVar R.T ⟨b, 0, none⟩).run Tryz.prog w = .ok (.agg A.toArray) w := run_loadVar_mid w b 0 R.T A _ (block_range hb) R.und R.row (by rw [R.size, hA.1])
  have hp' : tmps[p]?.getD undef = .pointer (some ⟨b, 0, none⟩) := by simpa using hp
  simp only [results, h]
  simp [Sem.run_bind, Result.andThen, hp', asAddr, h1]
/-- A struct and a number are handed back. -/
theorem results_sk1 {fn : Func} {p u : Tmp} (R : SK) (h : fn.results = #[.cell p R.T, .tmp u]) (tmps : Array Value) (w : World) (b : Nat) {A : List Value} (hA : R.Ok A) {t : TypeId}
    (hp : tmps.getD p undef = .pointer (some ⟨b, 0, none⟩)) (hb : w.heap[b]? = some (.cells A.toArray t (0, 0))) : (results fn tmps).run Tryz.prog w = .ok (.tuple #[.agg A.toArray, tmps.getD u undef]) w := by
  have h1 : (loadVar R.T ⟨b, 0, none⟩).run Tryz.prog w = .ok (.agg A.toArray) w := run_loadVar_mid w b 0 R.T A _ (block_range hb) R.und R.row (by rw [R.size, hA.1])
  have hp' : tmps[p]?.getD undef = .pointer (some ⟨b, 0, none⟩) := by simpa using hp
  simp only [results, h]
  simp [Sem.run_bind, Result.andThen, hp', asAddr, h1]
/-- A struct, an answer, a number are handed back. -/
theorem results_sk3 {fn : Func} {p q u : Tmp} (R : SK) (h : fn.results = #[.cell p R.T, .cell q 25, .tmp u]) (tmps : Array Value) (w : World) (b c : Nat) {A : List Value} (hA : R.Ok A) (y : Ans) {t t2 : TypeId}
    (hp : tmps.getD p undef = .pointer (some ⟨b, 0, none⟩)) (hb : w.heap[b]? = some (.cells A.toArray t (0, 0)))
    (hq : tmps.getD q undef = .pointer (some ⟨c, 0, none⟩)) (hc : w.heap[c]? = some (.cells (ansC y).toArray t2 (0, 0))) :
    (results fn tmps).run Tryz.prog w = .ok (.tuple #[.agg A.toArray, .agg (ansC y).toArray, tmps.getD u undef]) w := by
  have h1 : (loadVar R.T ⟨b, 0, none⟩).run Tryz.prog w = .ok (.agg A.toArray) w := run_loadVar_mid w b 0 R.T A _ (block_range hb) R.und R.row (by rw [R.size, hA.1])
  have h2 : (loadVar 25 ⟨c, 0, none⟩).run Tryz.prog w = .ok (.agg (ansC y).toArray) w := run_loadVar_row w c t2 25 _ _ _ hc Tryz.underlying25 rfl (by kernel_rfl)
  have hp' : tmps[p]?.getD undef = .pointer (some ⟨b, 0, none⟩) := by simpa using hp
  have hq' : tmps[q]?.getD undef = .pointer (some ⟨c, 0, none⟩) := by simpa using hq
  simp only [results, h]
  simp [Sem.run_bind, Result.andThen, hp', hq', asAddr, h1, h2]
/-- The document's object. -/
def skD : SK := { T := 81, s := 5, d := _, und := Tryz.underlying81, row := rfl, size := by kernel_rfl }
/-- An answer. -/
def skR : SK := { T := 25, s := 2, d := _, und := Tryz.underlying25, row := rfl, size := by kernel_rfl }
theorem ansC_ok (y : Ans) : skR.Ok (ansC y) := ⟨rfl, ansC_one y⟩
def Md.n : Md → Int
  | .rg s => s
  | _ => 0
def Md.hold : Md → Int
  | .lk s => s - 1
  | _ => -1
def Md.list : Md → List Int
  | .qu l => l
  | _ => []
def Md.items : Md → List It → Prop
  | .mp m, t => Rel m t
  | _, t => t = []
/-- Its cells. -/
def mdC (S : Md) (q m : Value) : List Value := [.int .u8 S.model, .int .u16 S.n, q, m, .int .i64 S.hold]
section
variable {ops : Array Oper} {rest : List Oper} {a : Act} {w : World} {Q : Exit → Act → World → Prop}
theorem wpList_loadD {dst : Option Tmp} {ty : TypeId} {pos : String} {after : Array Edge} {gd : Option (Nat × Bool)} {x : Operand} {g off : Nat} {A : List Value} (hA : skD.Ok A)
    (hw : Region.wanted { dst := dst, op := .load 81 x, type := ty, pos := pos, after := after, guard := gd } (yielded ops a.tmps) = true)
    (hx : a.eval x = .pointer (some ⟨g, off, none⟩)) (hr : w.rangeAt g off A) (h : wpList Tryz.prog ops Q rest (a.put dst (.agg A.toArray)) w) :
    wpList Tryz.prog ops Q ({ dst := dst, op := .load 81 x, type := ty, pos := pos, after := after, guard := gd } :: rest) a w := skD.wpList_load hA hw hx hr h
theorem wpList_putD {dst : Option Tmp} {ty : TypeId} {pos : String} {after : Array Edge} {x y : Operand} {g : Nat} {old A : List Value} (hA : skD.Ok A) (hO : skD.Ok old) {t : TypeId}
    (hx : a.eval x = .pointer (some ⟨g, 0, none⟩)) (hy : a.eval y = .agg A.toArray) (hg : w.heap[g]? = some (.cells old.toArray t (0, 0)))
    (h : ∀ W, W.heap[g]? = some (.cells A.toArray t (0, 0)) → Keeps [g] w W → wpList Tryz.prog ops Q rest (a.put dst undef) W) :
    wpList Tryz.prog ops Q ({ dst := dst, op := .store 81 x y, type := ty, pos := pos, after := after, guard := none } :: rest) a w := skD.wpList_put hA hO hx hy hg h
end
/-- Its lists lie there. -/
structure D13 (w : World) (S : Md) (q m : Value) : Prop where
  q : rkU.In w.heap.size w q S.list
  m : ∃ t, rkI.In w.heap.size w m t ∧ S.items t
theorem D13.new {w w' : World} {S : Md} {q m : Value} (h : D13 w S q m) (hk : Keeps [] w w') : D13 w' S q m := by
  obtain ⟨t, h1, h2⟩ := h.m
  exact ⟨(h.q.new hk (Nat.le_refl _)).more hk.size, t, (h1.new hk (Nat.le_refl _)).more hk.size, h2⟩
theorem D13.ok {w : World} {S : Md} {q m : Value} (h : D13 w S q m) : skD.Ok (mdC S q m) := by
  obtain ⟨t, h1, _⟩ := h.m
  obtain ⟨a, c, rfl, -⟩ := h.q
  obtain ⟨b, d, rfl, -⟩ := h1
  refine ⟨rfl, fun v hv => ?_⟩
  simp only [mdC, List.mem_cons, List.not_mem_nil, or_false] at hv
  rcases hv with rfl | rfl | rfl | rfl | rfl <;> rfl
theorem D13.keeps {w w' : World} {S : Md} {q m : Value} {F : List Nat} (h : D13 w S q m) (hk : Keeps F w w') (hq : S.list ≠ [] → ∀ p ∈ own q, p ∉ F) (hm : ∀ t, S.items t → t ≠ [] → ∀ p ∈ own m, p ∉ F) : D13 w' S q m := by
  obtain ⟨t, h1, h2⟩ := h.m
  exact ⟨(h.q.keeps hk hq).more hk.size, t, (h1.keeps hk (hm t h2)).more hk.size, h2⟩
theorem D13.old_q {w : World} {S : Md} {q m : Value} (h : D13 w S q m) (hn : S.list ≠ []) : ∀ p ∈ own q, p < w.heap.size := h.q.old hn
theorem Md.items_two {S : Md} {t u : List It} (h : S.items t) (h2 : S.items u) (hn : t ≠ []) : u ≠ [] := by
  cases S with
  | mp a =>
    intro e
    subst e
    have r1 : Rel a t := h
    have r2 : Rel a [] := h2
    cases t with
    | nil => exact hn rfl
    | cons y r =>
      have hk := r1.keys y (by simp)
      have e1 := r1.look y.k.toNat (by omega)
      have e2 := r2.look y.k.toNat (by omega)
      rw [show ((y.k.toNat : Nat) : Int) = y.k by omega] at e1 e2
      rw [← e2] at e1
      simp [itLook] at e1
  | rg a => exact absurd (show t = [] from h) hn
  | qu a => exact absurd (show t = [] from h) hn
  | lk a => exact absurd (show t = [] from h) hn
theorem D13.old_m {w : World} {S : Md} {q m : Value} (h : D13 w S q m) {t : List It} (ht : S.items t) (hn : t ≠ []) : ∀ p ∈ own m, p < w.heap.size := by
  obtain ⟨u, h1, h2⟩ := h.m
  exact h1.old (Md.items_two ht h2 hn)
/-- The zero object. -/
def mdC0 : List Value := [.int .u8 0, .int .u16 0, .slice none 0 0, .slice none 0 0, .int .i64 0]
theorem mdC0_ok : skD.Ok mdC0 := ⟨rfl, fun v hv => by
  simp only [mdC0, List.mem_cons, List.not_mem_nil, or_false] at hv
  rcases hv with rfl | rfl | rfl | rfl | rfl <;> rfl⟩
theorem nil_in (w : World) {α : Type} (R : RK α) : R.In w.heap.size w (.slice none 0 0) [] := ⟨none, 0, rfl, Nat.le_refl _, by decide, fun h => absurd rfl h⟩
theorem Md.items_nil {S : Md} (h : ∀ m, S ≠ .mp m) : S.items [] := by
  cases S with
  | mp m => exact absurd rfl (h m)
  | _ => rfl
theorem nodup_lt : ∀ (n : Nat) (l : List Int), l.Nodup → (∀ x ∈ l, 0 ≤ x ∧ x < n) → l.length ≤ n
  | 0, l, _, h => by
    cases l with
    | nil => simp
    | cons a r => have := h a (by simp); omega
  | n + 1, l, hd, h => by
    by_cases hm : (n : Int) ∈ l
    · have h1 := nodup_lt n (l.erase (n : Int)) (hd.erase (n : Int)) (fun x hx => by
        have := h x (List.mem_of_mem_erase hx)
        have hne : x ≠ n := (hd.mem_erase_iff.1 hx).1
        omega)
      have := List.length_erase_of_mem hm
      omega
    · have := nodup_lt n l hd (fun x hx => by
        have := h x hx
        have hne : x ≠ n := fun e => hm (e ▸ hx)
        omega)
      omega
theorem Rel.few {m : Kv} {t : List It} (h : Rel m t) : t.length ≤ 8 := by
  have := nodup_lt 8 (t.map (·.k)) h.nodup (fun x hx => by obtain ⟨y, hy, rfl⟩ := List.mem_map.1 hx; exact h.keys y hy)
  simpa using this
theorem rel_kv0 : Rel kv0 [] := rel_items kv0_in
theorem D13.init (w : World) (m : Int) : D13 w (mdInit m) (.slice none 0 0) (.slice none 0 0) := by
  refine ⟨?_, [], nil_in w rkI, ?_⟩
  · have : (mdInit m).list = [] := by
      unfold mdInit
      split
      · rfl
      · split
        · rfl
        · split <;> rfl
    rw [this]
    exact nil_in w rkU
  · unfold mdInit
    split
    · rfl
    · split
      · rfl
      · split
        · exact rel_kv0
        · rfl
end Go.Proofs.YtbnhcggjcdipeaaGreatDoor
/-
  The document's object: New, Encode, Same.
-/
namespace Go.Proofs.YtbnhcggjcdipeaaGreatDoor
open Go.RowKit
theorem mdC_init {m : Int} (h0 : 0 ≤ m) (h1 : m ≤ 3) : mdC (mdInit m) (.slice none 0 0) (.slice none 0 0) = [.int .u8 m, .int .u16 0, .slice none 0 0, .slice none 0 0, .int .i64 (-1)] := by
  rcases (by omega : m = 0 ∨ m = 1 ∨ m = 2 ∨ m = 3) with rfl | rfl | rfl | rfl <;> rfl
set_option maxHeartbeats 8000000
set_option maxRecDepth 100000
theorem r13New_any (w : World) (m : Int) (h0 : 0 ≤ m) (h1 : m < 256) : Calls Tryz.prog 31 #[.int .u8 m] w fun e w' =>
    e = .returned (.tuple #[.agg (if m ≤ 3 then mdC (mdInit m) (.slice none 0 0) (.slice none 0 0) else mdC0).toArray, .int .i64 (if m ≤ 3 then 0 else 10)]) ∧ Keeps [] w w' := by
  have HN := Lib.hid (fun A => heap_alloc_new w (.cells A 81))
  have HK := Lib.hid (fun A => (show Keeps [] w (w.alloc (.cells A 81)) from (Keeps.refl _ _).alloc _))
  by_cases h : m ≤ 3
  · rw [if_pos h, if_pos h, mdC_init h0 h]
    have z : decide (3 < m) = false := decide_eq_false (by omega)
    have HO := Lib.hid (mdC_init h0 h ▸ (D13.init w m).ok)
    clear h0 h1 h
    go_enter Tryz.func31, Tryz.ntmps31
    go_wp2_with fail
    try simp only [Exit.inBlock, Exit.then]
    exact bodyPost_ret (results_sk1 skD rfl _ _ w.heap.size HO.out rfl (HN.out _)) rfl ⟨rfl, HK.out _⟩
  · rw [if_neg h, if_neg h]
    have z : decide (3 < m) = true := decide_eq_true (by omega)
    clear h0 h1 h
    go_enter Tryz.func31, Tryz.ntmps31
    go_wp2_with fail
    try simp only [Exit.inBlock, Exit.then]
    exact bodyPost_ret (results_sk1 skD rfl _ _ w.heap.size mdC0_ok rfl (HN.out _)) rfl ⟨rfl, HK.out _⟩
/-- Two bytes as a text. -/
theorem conv_two (w : World) {g : Nat} (hg : g = w.heap.size) {a b : Int} (ha : 0 ≤ a ∧ a < 256) (hb : 0 ≤ b ∧ b < 256) : (convert 109 9 (.slice (some ⟨g, 0, none⟩) 2 2)).run Tryz.prog (w.alloc (.cells #[.int .u8 a, .int .u8 b] 5)) = .ok (.string (bs [UInt8.ofNat a.toNat, UInt8.ofNat b.toNat])) (w.alloc (.cells #[.int .u8 a, .int .u8 b] 5)) := by
  subst hg
  have e : nb [UInt8.ofNat a.toNat, UInt8.ofNat b.toNat] = [a, b] := by
    simp only [nb, List.map_cons, List.map_nil, UInt8.toNat_ofNat', List.cons.injEq, and_true]
    omega
  rw [← str_nb]
  have := run_convert_bytes_arg (w.alloc (.cells #[.int .u8 a, .int .u8 b] 5)) 109 5 Tryz.underlying109 Tryz.underlying5 w.heap.size 0 2 2 (nb [UInt8.ofNat a.toNat, UInt8.ofNat b.toNat]) (by rw [e]; rfl) (fun i hi => by
    rw [e]
    rcases (by omega : i = 0 ∨ i = 1) with rfl | rfl
    · exact cell_lit (heap_alloc_new w (.cells #[.int .u8 a, .int .u8 b] 5)) 0 rfl
    · exact cell_lit (heap_alloc_new w (.cells #[.int .u8 a, .int .u8 b] 5)) 1 rfl) 9 Tryz.underlying9
  exact this
theorem conv_oneAt (w : World) {g : Nat} (hg : g = w.heap.size) {s : Int} (h0 : 0 ≤ s) (h1 : s < 256) : (convert 109 9 (.slice (some ⟨g, 0, none⟩) 1 1)).run Tryz.prog (w.alloc (.cells #[.int .u8 s] 5)) = .ok (.string (bs (lkB s))) (w.alloc (.cells #[.int .u8 s] 5)) := by
  subst hg
  exact conv_one w h0 h1
theorem r13Encode_any (w : World) {S : Md} (hS : S.In) (hl : S.len ≤ 10000) {q m : Value} (hD : D13 w S q m) : Calls Tryz.prog 38 #[.agg (mdC S q m).toArray] w fun e w' => e = .returned (.string (bs (mdB S))) ∧ Keeps [] w w' := by
  have hk : Keeps [] w (w.alloc (.cells #[.int .u8 S.model, .int .u16 S.n, q, m, .int .i64 S.hold] 81)) := (Keeps.refl _ _).alloc _
  have hn := heap_alloc_new w (.cells #[.int .u8 S.model, .int .u16 S.n, q, m, .int .i64 S.hold] 81)
  have HD := Lib.hid (hD.new hk)
  obtain ⟨aq, cq, rfl, -⟩ := id hD.q
  obtain ⟨t, ht, hti⟩ := id hD.m
  obtain ⟨am, cm, rfl, -⟩ := id ht
  have HK := Lib.hid hk
  have HM := Lib.hid S.model_in
  unfold mdC
  cases S with
  | rg s =>
    have hs : 0 ≤ s ∧ s < 65536 := hS
    have hcv := conv_two (w.alloc (.cells #[.int .u8 0, .int .u16 s, .slice aq (0 : Nat) cq, .slice am t.length cm, .int .i64 (-1)] 81)) (g := w.heap.size + 1) (Array.size_push _).symm (a := s / 256) (b := s % 256) (by omega) (by omega)
    have e1 : s.tdiv 256 = s / 256 := Int.tdiv_eq_ediv_of_nonneg (by omega)
    have e2 : s.tmod 256 = s % 256 := Int.tmod_eq_emod_of_nonneg (by omega)
    have e3 : IntKind.u16.wrap (s / 256) = s / 256 := by simp [IntKind.wrap, IntKind.signed, IntKind.bits]; omega
    have e4 : IntKind.u16.wrap (s % 256) = s % 256 := by simp [IntKind.wrap, IntKind.signed, IntKind.bits]; try omega
    have e5 : IntKind.u8.wrap (s / 256) = s / 256 := by simp [IntKind.wrap, IntKind.signed, IntKind.bits]; omega
    have e6 : IntKind.u8.wrap (s % 256) = s % 256 := by simp [IntKind.wrap, IntKind.signed, IntKind.bits]; try omega
    have HK2 := Lib.hid (HK.out.alloc (.cells #[.int .u8 (s / 256), .int .u8 (s % 256)] 5))
    clear hn hk hD hS hs
    simp only [Md.model, Md.n, Md.hold, Md.list, List.length_nil] at *
    go_enter Tryz.func38, Tryz.ntmps38
    go_wp2_with fail
    go_ret
    exact ⟨rfl, HK2.out⟩
  | qu l =>
    have hu : U16s l := hS
    have HE := Lib.hid (r10Encode_any _ HD.out.q hl hu)
    clear hn hk hD hS hu
    simp only [Md.model, Md.n, Md.hold, Md.list] at *
    go_enter Tryz.func38, Tryz.ntmps38
    go_wp2_with fail
    refine HE.out.mono ?_; rintro e w1 ⟨rfl, hk1⟩
    have HK1 := Lib.hid (HK.out.trans hk1 (FSub.refl _ _))
    clear hk1
    go_wp2_with fail
    go_ret
    exact ⟨rfl, HK1.out⟩
  | mp m =>
    have hm : KvIn m := hS
    have HE := Lib.hid (r11Encode_any _ (show Rel m t from hti) ((ht.new hk (Nat.le_refl _)).more hk.size) (by have := (show Rel m t from hti).few; omega))
    rw [kvBy_str hm] at HE
    clear hn hk hD hS hm
    simp only [Md.model, Md.n, Md.hold, Md.list, List.length_nil] at *
    go_enter Tryz.func38, Tryz.ntmps38
    go_wp2_with fail
    refine HE.out.mono ?_; rintro e w1 ⟨rfl, hk1⟩
    have HK1 := Lib.hid (HK.out.trans hk1 (FSub.refl _ _))
    clear hk1
    go_wp2_with fail
    go_ret
    exact ⟨rfl, HK1.out⟩
  | lk s =>
    have hs : 0 ≤ s ∧ s ≤ 16 := hS
    have hcv := conv_oneAt (w.alloc (.cells #[.int .u8 3, .int .u16 0, .slice aq (0 : Nat) cq, .slice am t.length cm, .int .i64 (s - 1)] 81)) (g := w.heap.size + 1) (Array.size_push _).symm (s := s) (by omega) (by omega)
    have e1 : s - 1 + 1 = s := by omega
    have e3 : IntKind.i64.wrap s = s := by simp [IntKind.wrap, IntKind.signed, IntKind.bits]; omega
    have e5 : IntKind.u8.wrap s = s := by simp [IntKind.wrap, IntKind.signed, IntKind.bits]; omega
    have HK2 := Lib.hid (HK.out.alloc (.cells #[.int .u8 s] 5))
    clear hn hk hD hS hs
    simp only [Md.model, Md.n, Md.hold, Md.list, List.length_nil] at *
    go_enter Tryz.func38, Tryz.ntmps38
    go_wp2_with fail
    go_ret
    exact ⟨rfl, HK2.out⟩
end Go.Proofs.YtbnhcggjcdipeaaGreatDoor
/-
  The document's object: Same.
-/
namespace Go.Proofs.YtbnhcggjcdipeaaGreatDoor
open Go.RowKit
set_option maxHeartbeats 8000000
set_option maxRecDepth 100000
theorem bs_beq (l m : List UInt8) : ((bs l).toList == (bs m).toList) = decide (l = m) := by
  rw [toL_bs, toL_bs]
  by_cases h : l = m
  · subst h; simp
  · rw [decide_eq_false h]
    simpa using h
theorem two_blocks (w : World) (A B : Array Value) (t u : TypeId) : ((w.alloc (.cells A t)).alloc (.cells B u)).heap.size = w.heap.size + 2 := by
  rw [show ((w.alloc (.cells A t)).alloc (.cells B u)).heap.size = (w.alloc (.cells A t)).heap.size + 1 from Array.size_push _, show (w.alloc (.cells A t)).heap.size = w.heap.size + 1 from Array.size_push _]
theorem r13Same_any (w : World) {S T : Md} (hS : S.In) (hl : S.len ≤ 10000) (hT : T.In) (hlt : T.len ≤ 10000) {q m q2 m2 : Value} (hD : D13 w S q m) (hE : D13 w T q2 m2) :
    Calls Tryz.prog 66 #[.agg (mdC S q m).toArray, .agg (mdC T q2 m2).toArray] w fun e w' => e = .returned (.bool (decide (S.model = T.model ∧ mdB S = mdB T))) ∧ Keeps [] w w' := by
  obtain ⟨-, h0, h1, hk⟩ := two_vars w (mdC S q m).toArray (mdC T q2 m2).toArray 81 81
  have HK := Lib.hid hk; have H0 := Lib.hid h0; have H1 := Lib.hid h1
  have HD := Lib.hid (hD.new hk); have HE := Lib.hid (hE.new hk)
  obtain ⟨R, hR⟩ : ∃ R, R = w.heap.size := ⟨_, rfl⟩
  have HRR := Lib.hid hR
  rw [← hR] at H0 H1
  have HES := Lib.hid (fun w' (h : Keeps [] ((w.alloc (.cells (mdC S q m).toArray 81)).alloc (.cells (mdC T q2 m2).toArray 81)) w') => r13Encode_any w' hS hl (HD.out.new h))
  have HET := Lib.hid (fun w' (h : Keeps [] ((w.alloc (.cells (mdC S q m).toArray 81)).alloc (.cells (mdC T q2 m2).toArray 81)) w') => r13Encode_any w' hT hlt (HE.out.new h))
  have HQ := Lib.hid hD.ok; have HQ2 := Lib.hid hE.ok
  have tb := bs_beq (mdB S) (mdB T)
  obtain ⟨D, hDD⟩ : ∃ D, D = decide (S.model = T.model ∧ mdB S = mdB T) := ⟨_, rfl⟩
  rw [← hDD]
  have HDD := Lib.hid hDD
  clear hDD
  clear hk h0 h1 hD hE hR hS hT hl hlt
  go_enter Tryz.func66, Tryz.ntmps66
  go_wp2_with fail
  rw [← HRR.out]
  generalize (w.alloc (.cells (mdC S q m).toArray 81)).alloc (.cells (mdC T q2 m2).toArray 81) = W at *
  obtain ⟨S0, hS⟩ : ∃ S0 : World → Prop, S0 = fun y => Keeps [] W y := ⟨_, rfl⟩
  have HSE := Lib.hid hS
  have hSD : S0 W.drew := by rw [hS]; exact (Keeps.refl _ _).drew
  have HS0 := Lib.hid (fun (w' : World) (hh : S0 w') => show w'.rangeAt R 0 (mdC S q m) from by rw [hS] at hh; exact fun j v hv => hh.cell (block_range H0.out j v hv) (by simp))
  have HS1 := Lib.hid (fun (w' : World) (hh : S0 w') => show w'.rangeAt (R + 1) 0 (mdC T q2 m2) from by rw [hS] at hh; exact fun j v hv => hh.cell (block_range H1.out j v hv) (by simp))
  have HC0 := Lib.hid (fun (w' : World) (hh : S0 w') => show w'.cell? ⟨R, 0, none⟩ = some (.int .u8 S.model) from HS0.out w' hh 0 _ rfl)
  have HC1 := Lib.hid (fun (w' : World) (hh : S0 w') => show w'.cell? ⟨R + 1, 0, none⟩ = some (.int .u8 T.model) from HS1.out w' hh 0 _ rfl)
  clear hS
  by_cases hm : S.model = T.model
  · have tm : (S.model == T.model) = true := by simpa using hm
    obtain rfl : D = decide (mdB S = mdB T) := by rw [HDD.out]; simp [hm]
    clear hm
    generalize S.model = sm at *
    generalize T.model = tmo at *
    refine wp_region_noPanic ?_
    refine wp_region_held_drew (S := S0) (by kernel_rfl) hSD (fun hHeld => ?_)
    refine tw 0 (h := ?_); try simp only [Act.put, lsA, lsZ, lsS]
    refine tk 1 (y := by exact Or.inl ⟨by rfl, by intro w hSw; have q0 := HC0.out w hSw; go_simp; try with_reducible rfl⟩) (h := ?_); try simp only [Act.put, lsA, lsZ, lsS]
    refine tw 2 (h := ?_); try simp only [Act.put, lsA, lsZ, lsS]
    refine tk 3 (y := by exact Or.inl ⟨by rfl, by intro w hSw; have q0 := HC1.out w hSw; go_simp; try with_reducible rfl⟩) (h := ?_); try simp only [Act.put, lsA, lsZ, lsS]
    refine tw 4 (h := ?_); try simp only [Act.put, lsA, lsZ, lsS]
    refine tw 5 (h := ?_); try simp only [Act.put, lsA, lsZ, lsS]
    refine tk 6 (y := by exact skD.yields HQ.out rfl _ rfl R 0 rfl HS0.out) (h := ?_); try simp only [Act.put, lsA, lsZ, lsS]
    refine tk 8 (y := by exact skD.yields HQ2.out rfl _ rfl (R + 1) 0 rfl HS1.out) (h := ?_); try simp only [Act.put, lsA, lsZ, lsS]
    refine rp 7 (h := fun K hK => ?_)
    refine wp_call9 38 _ _ rfl [.agg (mdC S q m).toArray] rfl Tryz.func38 (by kernel_rfl) (by kernel_rfl) ((HES.out _ ((Keeps.refl [] W).drew)).mono ?_)
    rintro e y1 ⟨rfl, hk1⟩
    refine ⟨_, rfl, ?_⟩
    have HY1 := Lib.hid (((Keeps.refl [] W).drew).trans hk1 (FSub.refl _ _))
    clear hk1
    refine hK.out _ _ (by rw [HSE.out]; exact HY1.out) (fun hHeld => ?_); clear hK K; try simp only [Act.put, lsA, lsZ, lsS]
    refine rp 9 (h := fun K hK => ?_)
    refine wp_call9 38 _ _ rfl [.agg (mdC T q2 m2).toArray] rfl Tryz.func38 (by kernel_rfl) (by kernel_rfl) ((HET.out _ HY1.out).mono ?_)
    rintro e y2 ⟨rfl, hk2⟩
    refine ⟨_, rfl, ?_⟩
    have HY2 := Lib.hid (HY1.out.trans hk2 (FSub.refl _ _))
    clear hk2
    refine hK.out _ _ (by rw [HSE.out]; exact HY2.out) (fun hHeld => ?_); clear hK K; try simp only [Act.put, lsA, lsZ, lsS]
    refine tw 10 (h := ?_); try simp only [Act.put, lsA, lsZ, lsS]
    refine tw 11 (h := ?_); try simp only [Act.put, lsA, lsZ, lsS]
    refine tw 12 (h := ?_); try simp only [Act.put, lsA, lsZ, lsS]
    refine wpAnyH_done (by kernel_rfl) ?_ _
    refine NoPanic.normal ?_
    go_wp2_with fail
    go_ret
    exact ⟨by first | rfl | simp [tb], HK.out.trans HY2.out (FSub.refl _ _)⟩
  · have tm : (S.model == T.model) = false := by simpa using hm
    obtain rfl : D = false := by rw [HDD.out]; exact decide_eq_false (fun h => hm h.1)
    clear hm
    generalize S.model = sm at *
    generalize T.model = tmo at *
    refine wp_region_noPanic ?_
    refine wp_region_held_drew (S := S0) (by kernel_rfl) hSD (fun hHeld => ?_)
    refine tw 0 (h := ?_); try simp only [Act.put, lsA, lsZ, lsS]
    refine tk 1 (y := by exact Or.inl ⟨by rfl, by intro w hSw; have q0 := HC0.out w hSw; go_simp; try with_reducible rfl⟩) (h := ?_); try simp only [Act.put, lsA, lsZ, lsS]
    refine tw 2 (h := ?_); try simp only [Act.put, lsA, lsZ, lsS]
    refine tk 3 (y := by exact Or.inl ⟨by rfl, by intro w hSw; have q0 := HC1.out w hSw; go_simp; try with_reducible rfl⟩) (h := ?_); try simp only [Act.put, lsA, lsZ, lsS]
    refine tw 4 (h := ?_); try simp only [Act.put, lsA, lsZ, lsS]
    refine tw 5 (h := ?_); try simp only [Act.put, lsA, lsZ, lsS]
    refine tk 6 (y := by exact Or.inr ⟨by rfl, rfl⟩) (h := ?_); try simp only [Act.put, lsA, lsZ, lsS]
    refine tk 7 (y := by exact Or.inr ⟨by rfl, rfl⟩) (h := ?_); try simp only [Act.put, lsA, lsZ, lsS]
    refine tk 8 (y := by exact Or.inr ⟨by rfl, rfl⟩) (h := ?_); try simp only [Act.put, lsA, lsZ, lsS]
    refine tk 9 (y := by exact Or.inr ⟨by rfl, rfl⟩) (h := ?_); try simp only [Act.put, lsA, lsZ, lsS]
    refine tk 10 (y := by exact Or.inr ⟨by rfl, rfl⟩) (h := ?_); try simp only [Act.put, lsA, lsZ, lsS]
    refine tw 11 (h := ?_); try simp only [Act.put, lsA, lsZ, lsS]
    refine tw 12 (h := ?_); try simp only [Act.put, lsA, lsZ, lsS]
    refine wpAnyH_done (by kernel_rfl) ?_ _
    refine NoPanic.normal ?_
    go_wp2_with fail
    go_ret
    exact ⟨rfl, HK.out.drew⟩
end Go.Proofs.YtbnhcggjcdipeaaGreatDoor
/-
  The document's object: Step.
-/
namespace Go.Proofs.YtbnhcggjcdipeaaGreatDoor
open Go.RowKit
theorem four_vars (w : World) (A B C D : Array Value) (t u v x : TypeId) {W : World} (hW : W = (((w.alloc (.cells A t)).alloc (.cells B u)).alloc (.cells C v)).alloc (.cells D x)) :
    W.heap[w.heap.size]? = some (.cells A t (0, 0)) ∧ W.heap[w.heap.size + 1]? = some (.cells B u (0, 0)) ∧ W.heap[w.heap.size + 1 + 1]? = some (.cells C v (0, 0)) ∧ W.heap[w.heap.size + 1 + 1 + 1]? = some (.cells D x (0, 0)) ∧ W.heap.size = w.heap.size + 4 ∧ Keeps [] w W := by
  subst hW
  obtain ⟨_, a1, a2, a3⟩ := two_vars w A B t u
  have e2 := two_blocks w A B t u
  obtain ⟨_, b1, b2, b3⟩ := two_vars ((w.alloc (.cells A t)).alloc (.cells B u)) C D v x
  have e4 := two_blocks ((w.alloc (.cells A t)).alloc (.cells B u)) C D v x
  rw [e2] at b1 b2 e4
  exact ⟨b3.heap a1 (by simp), b3.heap a2 (by simp), b1, b2, e4, a3.trans b3 (FSub.refl _ _)⟩
set_option maxHeartbeats 8000000
set_option maxRecDepth 100000
end Go.Proofs.YtbnhcggjcdipeaaGreatDoor
/-
  The document's object: Text.
-/
namespace Go.Proofs.YtbnhcggjcdipeaaGreatDoor
open Go.RowKit
theorem bs_cat (l m : List UInt8) : bs l ++ bs m = bs (l ++ m) := (bs_app l m).symm
theorem spT_len : ∀ {l : List (List UInt8)} {n : Nat}, (∀ x ∈ l, x.length ≤ n) → (spT l).length ≤ l.length * (n + 1)
  | [], _, _ => by simp [spT]
  | [x], n, h => by have := h x (by simp); simp [spT]; omega
  | x :: y :: r, n, h => by
    have h1 := h x (by simp)
    have h2 := spT_len (l := y :: r) (n := n) (fun z hz => h z (List.mem_cons_of_mem _ hz))
    show (x ++ 32 :: spT (y :: r)).length ≤ _
    rw [List.length_append, List.length_cons, List.length_cons, Nat.add_mul]
    omega
theorem dec_len5 {v : Int} (h : v < 65536) : (dec v).length ≤ 5 := by
  have := dec_length_le 4 v.toNat (by omega)
  exact this
/-- One number more. -/
theorem spT_next {l : List Int} {k : Nat} (hk : k < l.length) : spT ((l.take (k + 1)).map dec) = spT ((l.take k).map dec) ++ (if k = 0 then [] else [32]) ++ dec (l.getD k 0) := by
  rw [take_nextD 0 hk, List.map_append, List.map_cons, List.map_nil, spT_snoc]
  congr 2
  have : (l.take k).map dec = [] ↔ k = 0 := by
    rw [List.map_eq_nil_iff, List.take_eq_nil_iff]
    constructor
    · rintro (h | h)
      · exact h
      · rw [h] at hk; simp at hk
    · exact fun h => .inl h
  by_cases h : k = 0
  · rw [if_pos h, if_pos (this.2 h)]
  · rw [if_neg h, if_neg (fun e => h (this.1 e))]
theorem itT_len {x : It} (h0 : 0 ≤ x.k) (h1 : x.k < 8) (h2 : x.v < 65536) : (itT x).length ≤ 7 := by
  have a := dec_length_le 0 x.k.toNat (by omega)
  have b := dec_len5 h2
  show (dec x.k ++ 58 :: dec x.v).length ≤ 7
  rw [List.length_append, List.length_cons]
  have a' : (dec x.k).length ≤ 1 := a
  omega
/-- The items of a map's first keys. -/
def mpT (a : Kv) (k : Nat) : List UInt8 := spT ((itOf 0 (a.take k)).map itT)
theorem mpT_len {a : Kv} (h : KvIn a) {k : Nat} (hk : k ≤ 8) : (mpT a k).length ≤ 64 := by
  have h1 := itOf_len 0 (a.take k)
  have h2 : (a.take k).length ≤ 8 := by rw [List.length_take]; omega
  have h3 := spT_len (l := (itOf 0 (a.take k)).map itT) (n := 7) (fun x hx => by
    obtain ⟨y, hy, rfl⟩ := List.mem_map.1 hx
    have hy1 := itOf_keys 0 (a.take k) y hy
    obtain ⟨j, hj⟩ := itOf_mem 0 (a.take k) y hy
    have hv := h.rng j y.v (by rw [List.getElem?_take] at hj; split at hj <;> first | exact hj | cases hj)
    exact itT_len (by omega) (by omega) hv.2)
  rw [List.length_map] at h3
  calc _ ≤ (itOf 0 (a.take k)).length * (7 + 1) := h3
    _ ≤ 8 * 8 := Nat.mul_le_mul_right 8 (by omega)
    _ = 64 := rfl
theorem mpT_none {a : Kv} {k : Nat} (hk : k < a.length) (h : a.getD k none = none) : mpT a (k + 1) = mpT a k := by
  unfold mpT
  rw [itOf_next hk, h]
  simp
theorem mpT_some {a : Kv} {k : Nat} (hk : k < a.length) {v : Int} (h : a.getD k none = some v) : mpT a (k + 1) = mpT a k ++ (if mpT a k = [] then [] else [32]) ++ itT ⟨k, v⟩ := by
  unfold mpT
  rw [itOf_next hk, h, List.map_append, List.map_cons, List.map_nil, spT_snoc]
  congr 2
  cases he : (itOf 0 (a.take k)).map itT with
  | nil => rfl
  | cons x r =>
    rw [if_neg (by simp), if_neg]
    have hx : x ≠ [] := by
      have : x ∈ (itOf 0 (a.take k)).map itT := by rw [he]; simp
      obtain ⟨y, _, rfl⟩ := List.mem_map.1 this
      exact (itT_word y).1
    exact spT_ne hx
/-- Which item has a key, if any. -/
theorem at_key {a : Kv} {t : List It} (h : Rel a t) {k : Nat} (hk : k < 8) : ∃ J : Nat, (∀ i (hi : i < t.length), i ≠ J → t[i].k ≠ k) ∧
    ((t.length ≤ J ∧ mpT a (k + 1) = mpT a k) ∨ ∃ hJ : J < t.length, t[J].k = k ∧ (0 ≤ t[J].v ∧ t[J].v < 65536) ∧ mpT a (k + 1) = mpT a k ++ (if mpT a k = [] then [] else [32]) ++ itT t[J]) := by
  have hl : k < a.length := by rw [h.in_.len]; exact hk
  rcases rel_idx h hk with ⟨h1, h2⟩ | ⟨v, i, h1, h2, h3, h4⟩
  · exact ⟨t.length, fun i hi _ => idx_none h2 _ (List.getElem_mem hi), .inl ⟨Nat.le_refl _, mpT_none hl h1⟩⟩
  · obtain ⟨h5, h6⟩ := itIdx_some h2
    refine ⟨i, fun j hj hne e => hne ?_, .inr ⟨h5, h6, ?_, ?_⟩⟩
    · have hn := h.nodup
      have e2 : (t.map (·.k))[j]'(by simpa using hj) = (t.map (·.k))[i]'(by simpa using h5) := by simp [e, h6]
      exact (List.getElem_inj hn).1 e2
    · rw [List.getD_eq_getElem?_getD, List.getElem?_eq_getElem h5] at h4
      have h4' : t[i].v = v := h4
      rw [h4']
      exact h.in_.get h1
    · rw [mpT_some hl h1]
      congr 1
      rw [List.getD_eq_getElem?_getD, List.getElem?_eq_getElem h5] at h4
      have h4' : t[i].v = v := h4
      rw [← h4', ← h6]
section
variable {ops : Array Oper} {S : World → Prop} {o : Oper} {a : Act}
theorem yields_indexI (hw : Region.wanted o (yielded ops a.tmps) = true) (x y : Operand) (ho : o.op = .indexAddr 79 x y) (g of n c k : Nat) (hx : a.eval x = .slice (some ⟨g, of, none⟩) n c) (hy : a.eval y = .int .i64 k) (hk : k < n) :
    YieldsIf Tryz.prog ops S o (.pointer (some ⟨g, of + k * 2, none⟩)) a :=
  Or.inl ⟨hw, by
    have hk2 : (k : Int) < n := by omega
    intro w _
    unfold execOp
    simp only [ho, hx, hy]
    go_simp⟩
end
set_option maxHeartbeats 8000000
set_option maxRecDepth 100000
theorem r13Text_any (w : World) {S : Md} (hS : S.In) (hl : S.len ≤ 10000) {q m : Value} (hD : D13 w S q m) : Calls Tryz.prog 60 #[.agg (mdC S q m).toArray] w fun e w' => e = .returned (.string (bs (mdT S))) ∧ Keeps [] w w' := by
  have hn := heap_alloc_new w (.cells (mdC S q m).toArray 81)
  have hk : Keeps [] w (w.alloc (.cells (mdC S q m).toArray 81)) := (Keeps.refl _ _).alloc _
  have HK := Lib.hid hk; have HD := Lib.hid (hD.new hk)
  have HR := Lib.hid (block_range hn)
  cases S with
  | rg s =>
    have hs : 0 ≤ s ∧ s < 65536 := hS
    have HT := Lib.hid (fun w => r13Digits_any w s hs.1 hs.2)
    have c0 := (cell_lit hn 0 rfl : World.cell? _ _ = some (Value.int .u8 0))
    have c1 := (cell_lit hn 1 rfl : World.cell? _ _ = some (Value.int .u16 s))
    have e1 : IntKind.i64.wrap s = s := by simp [IntKind.wrap, IntKind.signed, IntKind.bits]; omega
    clear hn hk hD hS hs
    go_enter Tryz.func60, Tryz.ntmps60
    go_wp2_with fail
    refine (HT.out _).mono ?_; rintro e w1 ⟨rfl, hk1⟩
    have HK1 := Lib.hid (HK.out.trans hk1 (FSub.refl _ _))
    clear hk1 c0 c1
    go_wp2_with fail
    go_ret
    exact ⟨rfl, HK1.out⟩
  | qu l =>
    have hu : U16s l := hS
    have hln : l.length ≤ 10000 := hl
    have HQ := Lib.hid (show rkU.In (w.alloc (.cells (mdC (.qu l) q m).toArray 81)).heap.size (w.alloc (.cells (mdC (.qu l) q m).toArray 81)) q l from HD.out.q)
    obtain ⟨aq, cq, rfl, hcq, hmq, -⟩ := id HQ.out
    have c0 := (cell_lit hn 0 rfl : World.cell? _ _ = some (Value.int .u8 1))
    have HU := Lib.hid hu
    have HC2 := Lib.hid (cell_lit hn 2 rfl : World.cell? _ _ = some (Value.slice aq l.length cq))
    have HLN := Lib.hid hln
    have HM := Lib.hid (fun k => (spT_len (l := (l.take k).map dec) (n := 5) (fun x hx => by
      obtain ⟨v, hv, rfl⟩ := List.mem_map.1 hx
      exact dec_len5 (hu v (List.mem_of_mem_take hv)).2)))
    clear hn hk hD hS hl hu hln
    go_enter Tryz.func60, Tryz.ntmps60
    go_wp2_with fail
    generalize w.alloc (.cells (mdC (.qu l) (.slice aq l.length cq) m).toArray 81) = W at *
    go_loopw [3, 4] (fun z i wr => ∃ k : Nat, i = .int .i64 k ∧ k ≤ l.length ∧ z = .string (bs (spT ((l.take k).map dec))) ∧ Keeps [] W wr) (fun _ i _ => l.length - (intOf i).toNat)
    case atStart => exact ⟨0, rfl, Nat.zero_le _, rfl, Keeps.refl _ _⟩
    case round =>
      obtain ⟨k, rfl, hk, rfl, hkw⟩ := hrel
      have c2 : wr.cell? ⟨w.heap.size, 2, none⟩ = some (.slice aq l.length cq) := hkw.cell HC2.out (by simp)
      have hm := HM.out k
      have hs1 : (bs (spT ((l.take k).map dec))).size ≤ 60000 := by
        rw [bs_size]
        have := List.length_take_le k l
        have := HLN.out
        rw [List.length_map] at hm
        have h3 : (l.take k).length ≤ 10000 := by rw [List.length_take]; omega
        calc _ ≤ (l.take k).length * (5 + 1) := hm
          _ ≤ 10000 * 6 := Nat.mul_le_mul_right 6 h3
          _ = 60000 := rfl
      have HKW := Lib.hid hkw
      clear hm hkw
      by_cases hlt : k < l.length
      · obtain ⟨b1, o1, rfl, _, d1⟩ := U16.at (HQ.out.new HKW.out (Nat.le_refl _)) hlt
        have HX := Lib.hid (HU.out _ (getD_in 0 hlt))
        have HN := Lib.hid (spT_next hlt)
        generalize l.getD k 0 = X at *
        have HT := Lib.hid (fun w => r13Digits_any w X HX.out.1 HX.out.2)
        have e1 : IntKind.i64.wrap X = X := by have := HX.out; simp [IntKind.wrap, IntKind.signed, IntKind.bits]; omega
        have hs2 : (bs (dec X)).size ≤ 5 := by rw [bs_size]; exact dec_len5 HX.out.2
        by_cases h0 : k = 0
        · have z : ¬ (0 : Int) < (k : Int) := by omega
          have E := Lib.hid (show bs (spT ((l.take k).map dec)) ++ bs (dec X) = bs (spT ((l.take (k + 1)).map dec)) from by rw [bs_cat, HN.out, if_pos h0]; simp)
          generalize bs (spT ((l.take k).map dec)) = TS at *
          generalize bs (dec X) = SD at *
          clear h0
          go_wp2_with fail
          refine (HT.out _).mono ?_; rintro e w1 ⟨rfl, hk1⟩
          have HK1 := Lib.hid (HKW.out.trans hk1 (FSub.refl _ _))
          clear hk1 c2 d1
          go_wp2_with fail
          go_roundw
          case rel => exact ⟨k + 1, by go_num, by omega, by rw [← E.out], HK1.out⟩
          case measure => simp [intOf]; omega
        · have z : (0 : Int) < (k : Int) := by omega
          have E := Lib.hid (show bs (spT ((l.take k).map dec)) ++ ⟨#[32]⟩ ++ bs (dec X) = bs (spT ((l.take (k + 1)).map dec)) from by
            rw [show (⟨#[32]⟩ : ByteArray) = bs [32] from rfl, bs_cat, bs_cat, HN.out, if_neg h0])
          generalize bs (spT ((l.take k).map dec)) = TS at *
          generalize bs (dec X) = SD at *
          clear h0
          have hs3 : (TS ++ ⟨#[32]⟩).size ≤ 60001 := by rw [ByteArray.size_append]; show TS.size + 1 ≤ _; omega
          go_wp2_with fail
          refine (HT.out _).mono ?_; rintro e w1 ⟨rfl, hk1⟩
          have HK1 := Lib.hid (HKW.out.trans hk1 (FSub.refl _ _))
          clear hk1 c2 d1
          go_wp2_with fail
          go_roundw
          case rel => exact ⟨k + 1, by go_num, by omega, by rw [← E.out], HK1.out⟩
          case measure => simp [intOf]; omega
      · obtain rfl : k = l.length := by omega
        have E := Lib.hid (show ⟨#[91]⟩ ++ bs (spT ((l.take l.length).map dec)) ++ ⟨#[93]⟩ = bs (mdT (.qu l)) from by
          rw [List.take_length, show (⟨#[91]⟩ : ByteArray) = bs [91] from rfl, show (⟨#[93]⟩ : ByteArray) = bs [93] from rfl, bs_cat, bs_cat]
          simp [mdT])
        generalize bs (spT ((l.take l.length).map dec)) = TS at *
        have hs3 : (⟨#[91]⟩ ++ TS : ByteArray).size ≤ 60001 := by rw [ByteArray.size_append]; show 1 + TS.size ≤ _; omega
        go_wp2_with fail
        go_ret
        exact ⟨by rw [← E.out]; rfl, HK.out.trans HKW.out (FSub.refl _ _)⟩
  | mp a =>
    have ha : KvIn a := hS
    obtain ⟨t, ht, hti⟩ := id HD.out.m
    replace hti : Rel a t := hti
    have hf := hti.few
    obtain ⟨am, cm, rfl, hcm, hmm, -⟩ := id ht
    have c0 := (cell_lit hn 0 rfl : World.cell? _ _ = some (Value.int .u8 2))
    have HC3 := Lib.hid (cell_lit hn 3 rfl : World.cell? _ _ = some (Value.slice am t.length cm))
    have HTI := Lib.hid ht; have HRL := Lib.hid hti; have HLEN := Lib.hid (fun k hk => mpT_len ha (k := k) hk)
    clear hn hk hD hS hl ht hti
    go_enter Tryz.func60, Tryz.ntmps60
    go_wp2_with fail
    generalize w.alloc (.cells (mdC (.mp a) q (.slice am t.length cm)).toArray 81) = W at *
    go_loopw [5, 6] (fun z i wr => ∃ k : Nat, i = .int .i64 k ∧ k ≤ 8 ∧ z = .string (bs (mpT a k)) ∧ Keeps [] W wr) (fun _ i _ => 8 - (intOf i).toNat)
    case atStart => exact ⟨0, rfl, Nat.zero_le _, rfl, Keeps.refl _ _⟩
    case round =>
      obtain ⟨k, rfl, hk, rfl, hkw⟩ := hrel
      have HKW := Lib.hid hkw
      by_cases hlt : k < 8
      · obtain ⟨J, hJ1, hJ2⟩ := at_key HRL.out hlt
        have HJ1 := Lib.hid hJ1; have HJ2 := Lib.hid hJ2
        have HL0 := Lib.hid (HLEN.out k (by omega)); have HL1 := Lib.hid (HLEN.out (k + 1) (by omega))
        have z8 : (k : Int) < 8 := by omega
        clear hJ1 hJ2 hkw
        go_wp2_with fail
        go_loopw [5, 7] (fun z i wr => ∃ j : Nat, i = .int .i64 j ∧ j ≤ t.length ∧ z = .string (bs (if j ≤ J then mpT a k else mpT a (k + 1))) ∧ Keeps [] W wr) (fun _ i _ => t.length - (intOf i).toNat)
        case atStart => exact ⟨0, rfl, Nat.zero_le _, by rw [if_pos (Nat.zero_le _)], HKW.out⟩
        case round =>
          obtain ⟨j, rfl, hj, rfl, hkq⟩ := hrel
          have HKQ := Lib.hid hkq
          have c3 : wr.cell? ⟨w.heap.size, 3, none⟩ = some (.slice am t.length cm) := hkq.cell HC3.out (by simp)
          by_cases hjt : j < t.length
          · obtain ⟨b1, o1, rfl, _, hr1⟩ := It.at (HTI.out.new hkq (Nat.le_refl _)) hjt
            have HR1 := Lib.hid hr1
            have d0 : wr.cell? ⟨b1, o1 + j * 2, none⟩ = some (.int .u8 t[j].k) := hr1 0 _ rfl
            have hkeys := HRL.out.keys t[j] (List.getElem_mem hjt)
            have e1 : IntKind.i64.wrap t[j].k = t[j].k := by simp [IntKind.wrap, IntKind.signed, IntKind.bits]; omega
            have zj : (j : Int) < t.length := by omega
            clear hr1 hkq
            by_cases hJ : j = J
            · subst hJ
              rw [if_pos (Nat.le_refl _)]
              have hj2 := HJ2.out
              have HEND := Lib.hid (show bs (if j + 1 ≤ j then mpT a k else mpT a (k + 1)) = bs (mpT a (k + 1)) from by rw [if_neg (by omega)])
              obtain ⟨hk1, hrv, hk2⟩ : t[j].k = k ∧ (0 ≤ t[j].v ∧ t[j].v < 65536) ∧ mpT a (k + 1) = mpT a k ++ (if mpT a k = [] then [] else [32]) ++ itT t[j] := by
                rcases hj2 with ⟨h, _⟩ | ⟨_, h1, h2, h3⟩
                · omega
                · exact ⟨h1, h2, h3⟩
              have zk : (t[j].k != (k : Int)) = false := by simpa using hk1
              have HD1 := Lib.hid (show wr.cell? ⟨b1, o1 + j * 2 + 1, none⟩ = some (.int .u16 t[j].v) from HR1.out 1 _ rfl)
              have HT1 := Lib.hid (fun w => r13Digits_any w k (by omega) (by omega))
              have HT2 := Lib.hid (fun w => r13Digits_any w t[j].v hrv.1 hrv.2)
              have e2 : IntKind.i64.wrap t[j].v = t[j].v := by simp [IntKind.wrap, IntKind.signed, IntKind.bits]; omega
              have hs1 : (bs (mpT a k)).size ≤ 64 := by rw [bs_size]; exact HL0.out
              have hs2 : (bs (dec k)).size ≤ 5 := by rw [bs_size]; exact dec_len5 (by omega)
              have hs3 : (bs (dec t[j].v)).size ≤ 5 := by rw [bs_size]; exact dec_len5 hrv.2
              have HC3r := Lib.hid c3
              have hem : (bs (mpT a k)).toList.isEmpty = decide (mpT a k = []) := by rw [toL_bs]; cases mpT a k <;> rfl
              have hit : itT t[j] = dec k ++ 58 :: dec t[j].v := by rw [← hk1]; rfl
              rw [hit] at hk2
              by_cases hE : mpT a k = []
              · rw [decide_eq_true hE] at hem
                rw [if_pos hE] at hk2
                have E := Lib.hid (show bs (mpT a k) ++ bs (dec k) ++ ⟨#[58]⟩ ++ bs (dec t[j].v) = bs (mpT a (k + 1)) from by
                  rw [show (⟨#[58]⟩ : ByteArray) = bs [58] from rfl, bs_cat, bs_cat, bs_cat, hk2]; simp)
                generalize bs (mpT a k) = TS at *
                generalize bs (mpT a (k + 1)) = TE at *
                generalize bs (dec k) = SK at *
                generalize bs (dec t[j].v) = SV at *
                generalize t[j].v = vv at *
                generalize t[j].k = kk at *
                clear hE hk2 hit hk1 hrv hkeys hj2
                go_wp2_with fail
                have q1 : ¬ 9223372036854775807 < TS.size + SK.size := by omega
                have q2 : ¬ 9223372036854775807 < TS.size + SK.size + 1 := by omega
                have q3 : ¬ 9223372036854775807 < TS.size + SK.size + 1 + SV.size := by omega
                obtain ⟨S0, hS0⟩ : ∃ S0 : World → Prop, S0 = fun y => Keeps [] wr y := ⟨_, rfl⟩
                have HSE := Lib.hid hS0
                have hSD : S0 wr.drew := by rw [hS0]; exact (Keeps.refl _ _).drew
                have HS3 := Lib.hid (fun (w' : World) (hh : S0 w') => show w'.cell? ⟨w.heap.size, 3, none⟩ = some (.slice (some ⟨b1, o1, none⟩) t.length cm) from by rw [hS0] at hh; exact hh.cell HC3r.out (by simp))
                have HS4 := Lib.hid (fun (w' : World) (hh : S0 w') => show w'.cell? ⟨b1, o1 + j * 2 + 1, none⟩ = some (.int .u16 vv) from by rw [hS0] at hh; exact hh.cell HD1.out (by simp))
                clear hS0
                refine wp_region_noPanic ?_
                refine wp_region_held_drew (S := S0) (by kernel_rfl) hSD (fun hHeld => ?_)
                refine tw 0 (h := ?_); try simp only [Act.put, lsA, lsZ, lsS]
                refine tw 1 (h := ?_); try simp only [Act.put, lsA, lsZ, lsS]
                refine tw 5 (h := ?_); try simp only [Act.put, lsA, lsZ, lsS]
                refine tk 6 (y := by exact Or.inl ⟨by rfl, by intro w hSw; have q0 := HS3.out w hSw; go_simp; try with_reducible rfl⟩) (h := ?_); try simp only [Act.put, lsA, lsZ, lsS]
                refine tw 7 (h := ?_); try simp only [Act.put, lsA, lsZ, lsS]
                refine tk 8 (y := by exact yields_indexI rfl _ _ rfl b1 o1 t.length cm j rfl rfl hjt) (h := ?_); try simp only [Act.put, lsA, lsZ, lsS]
                refine tw 9 (h := ?_); try simp only [Act.put, lsA, lsZ, lsS]
                refine tk 10 (y := by exact Or.inl ⟨by rfl, by intro w hSw; have q0 := HS4.out w hSw; go_simp; try with_reducible rfl⟩) (h := ?_); try simp only [Act.put, lsA, lsZ, lsS]
                refine tw 11 (h := ?_); try simp only [Act.put, lsA, lsZ, lsS]
                refine rp 2 (h := fun K hK => ?_)
                refine wp_call9 59 _ _ rfl [.int .i64 k] rfl Tryz.func59 (by kernel_rfl) (by kernel_rfl) ((HT1.out _).mono ?_)
                rintro e y1 ⟨rfl, hk1⟩
                refine ⟨_, rfl, ?_⟩
                have HY1 := Lib.hid (((Keeps.refl [] wr).drew).trans hk1 (FSub.refl _ _))
                clear hk1
                refine hK.out _ _ (by rw [HSE.out]; exact HY1.out) (fun hHeld => ?_); clear hK K; try simp only [Act.put, lsA, lsZ, lsS]
                refine tw 3 (h := ?_); try simp only [Act.put, lsA, lsZ, lsS]
                refine tw 4 (h := ?_); try simp only [Act.put, lsA, lsZ, lsS]
                refine rp 12 (h := fun K hK => ?_)
                refine wp_call9 59 _ _ rfl [.int .i64 vv] rfl Tryz.func59 (by kernel_rfl) (by kernel_rfl) ((HT2.out _).mono ?_)
                rintro e y2 ⟨rfl, hk2⟩
                refine ⟨_, rfl, ?_⟩
                have HY2 := Lib.hid (HY1.out.trans hk2 (FSub.refl _ _))
                clear hk2
                refine hK.out _ _ (by rw [HSE.out]; exact HY2.out) (fun hHeld => ?_); clear hK K; try simp only [Act.put, lsA, lsZ, lsS]
                refine tw 13 (h := ?_); try simp only [Act.put, lsA, lsZ, lsS]
                refine tw 14 (h := ?_); try simp only [Act.put, lsA, lsZ, lsS]
                refine wpAnyH_done (by kernel_rfl) ?_ _
                refine NoPanic.normal ?_
                go_wp2_with fail
                go_roundw
                case rel => exact ⟨j + 1, by go_num, by omega, by rw [HEND.out, ← E.out], HKQ.out.trans HY2.out (FSub.refl _ _)⟩
                case measure => simp [intOf]; omega
              · rw [decide_eq_false hE] at hem
                rw [if_neg hE] at hk2
                have E := Lib.hid (show bs (mpT a k) ++ ⟨#[32]⟩ ++ bs (dec k) ++ ⟨#[58]⟩ ++ bs (dec t[j].v) = bs (mpT a (k + 1)) from by
                  rw [show (⟨#[58]⟩ : ByteArray) = bs [58] from rfl, show (⟨#[32]⟩ : ByteArray) = bs [32] from rfl, bs_cat, bs_cat, bs_cat, bs_cat, hk2]; simp)
                generalize bs (mpT a k) = TQ at *
                generalize bs (mpT a (k + 1)) = TE at *
                generalize bs (dec k) = SK at *
                generalize bs (dec t[j].v) = SV at *
                generalize t[j].v = vv at *
                generalize t[j].k = kk at *
                have hs4 : (TQ ++ ⟨#[32]⟩).size ≤ 65 := by rw [ByteArray.size_append]; show TQ.size + 1 ≤ _; omega
                clear hE hk2 hit hk1 hrv hkeys hj2
                go_wp2_with fail
                generalize TQ ++ ⟨#[32]⟩ = TS at *
                have q1 : ¬ 9223372036854775807 < TS.size + SK.size := by omega
                have q2 : ¬ 9223372036854775807 < TS.size + SK.size + 1 := by omega
                have q3 : ¬ 9223372036854775807 < TS.size + SK.size + 1 + SV.size := by omega
                obtain ⟨S0, hS0⟩ : ∃ S0 : World → Prop, S0 = fun y => Keeps [] wr y := ⟨_, rfl⟩
                have HSE := Lib.hid hS0
                have hSD : S0 wr.drew := by rw [hS0]; exact (Keeps.refl _ _).drew
                have HS3 := Lib.hid (fun (w' : World) (hh : S0 w') => show w'.cell? ⟨w.heap.size, 3, none⟩ = some (.slice (some ⟨b1, o1, none⟩) t.length cm) from by rw [hS0] at hh; exact hh.cell HC3r.out (by simp))
                have HS4 := Lib.hid (fun (w' : World) (hh : S0 w') => show w'.cell? ⟨b1, o1 + j * 2 + 1, none⟩ = some (.int .u16 vv) from by rw [hS0] at hh; exact hh.cell HD1.out (by simp))
                clear hS0
                refine wp_region_noPanic ?_
                refine wp_region_held_drew (S := S0) (by kernel_rfl) hSD (fun hHeld => ?_)
                refine tw 0 (h := ?_); try simp only [Act.put, lsA, lsZ, lsS]
                refine tw 1 (h := ?_); try simp only [Act.put, lsA, lsZ, lsS]
                refine tw 5 (h := ?_); try simp only [Act.put, lsA, lsZ, lsS]
                refine tk 6 (y := by exact Or.inl ⟨by rfl, by intro w hSw; have q0 := HS3.out w hSw; go_simp; try with_reducible rfl⟩) (h := ?_); try simp only [Act.put, lsA, lsZ, lsS]
                refine tw 7 (h := ?_); try simp only [Act.put, lsA, lsZ, lsS]
                refine tk 8 (y := by exact yields_indexI rfl _ _ rfl b1 o1 t.length cm j rfl rfl hjt) (h := ?_); try simp only [Act.put, lsA, lsZ, lsS]
                refine tw 9 (h := ?_); try simp only [Act.put, lsA, lsZ, lsS]
                refine tk 10 (y := by exact Or.inl ⟨by rfl, by intro w hSw; have q0 := HS4.out w hSw; go_simp; try with_reducible rfl⟩) (h := ?_); try simp only [Act.put, lsA, lsZ, lsS]
                refine tw 11 (h := ?_); try simp only [Act.put, lsA, lsZ, lsS]
                refine rp 2 (h := fun K hK => ?_)
                refine wp_call9 59 _ _ rfl [.int .i64 k] rfl Tryz.func59 (by kernel_rfl) (by kernel_rfl) ((HT1.out _).mono ?_)
                rintro e y1 ⟨rfl, hk1⟩
                refine ⟨_, rfl, ?_⟩
                have HY1 := Lib.hid (((Keeps.refl [] wr).drew).trans hk1 (FSub.refl _ _))
                clear hk1
                refine hK.out _ _ (by rw [HSE.out]; exact HY1.out) (fun hHeld => ?_); clear hK K; try simp only [Act.put, lsA, lsZ, lsS]
                refine tw 3 (h := ?_); try simp only [Act.put, lsA, lsZ, lsS]
                refine tw 4 (h := ?_); try simp only [Act.put, lsA, lsZ, lsS]
                refine rp 12 (h := fun K hK => ?_)
                refine wp_call9 59 _ _ rfl [.int .i64 vv] rfl Tryz.func59 (by kernel_rfl) (by kernel_rfl) ((HT2.out _).mono ?_)
                rintro e y2 ⟨rfl, hk2⟩
                refine ⟨_, rfl, ?_⟩
                have HY2 := Lib.hid (HY1.out.trans hk2 (FSub.refl _ _))
                clear hk2
                refine hK.out _ _ (by rw [HSE.out]; exact HY2.out) (fun hHeld => ?_); clear hK K; try simp only [Act.put, lsA, lsZ, lsS]
                refine tw 13 (h := ?_); try simp only [Act.put, lsA, lsZ, lsS]
                refine tw 14 (h := ?_); try simp only [Act.put, lsA, lsZ, lsS]
                refine wpAnyH_done (by kernel_rfl) ?_ _
                refine NoPanic.normal ?_
                go_wp2_with fail
                go_roundw
                case rel => exact ⟨j + 1, by go_num, by omega, by rw [HEND.out, ← E.out], HKQ.out.trans HY2.out (FSub.refl _ _)⟩
                case measure => simp [intOf]; omega
            · have zk : (t[j].k != (k : Int)) = true := by simpa using HJ1.out j hjt hJ
              have HSAME := Lib.hid (show (if j + 1 ≤ J then mpT a k else mpT a (k + 1)) = (if j ≤ J then mpT a k else mpT a (k + 1)) from by
                by_cases h : j ≤ J
                · rw [if_pos h, if_pos (by omega)]
                · rw [if_neg h, if_neg (by omega)])
              generalize (if j ≤ J then mpT a k else mpT a (k + 1)) = TT at *
              generalize t[j].k = kk at *
              go_wp2_with fail
              go_roundw
              case rel => exact ⟨j + 1, by go_num, by omega, by rw [HSAME.out], HKQ.out⟩
              case measure => simp [intOf]; omega
          · obtain rfl : j = t.length := by omega
            have HEND := Lib.hid (show (if t.length ≤ J then mpT a k else mpT a (k + 1)) = mpT a (k + 1) from by
              rcases HJ2.out with ⟨h, h2⟩ | ⟨h, _⟩
              · rw [if_pos h, h2]
              · rw [if_neg (by omega)])
            generalize (if t.length ≤ J then mpT a k else mpT a (k + 1)) = TT at *
            have zj : ¬ ((t.length : Nat) : Int) < t.length := by omega
            clear hjt hj hkq
            go_wp2_with fail
            go_roundw
            case rel => exact ⟨k + 1, by go_num, by omega, by rw [HEND.out], HKQ.out⟩
            case measure => simp [intOf]; omega
      · obtain rfl : k = 8 := by omega
        have E := Lib.hid (show ⟨#[123]⟩ ++ bs (mpT a 8) ++ ⟨#[125]⟩ = bs (mdT (.mp a)) from by
          rw [show (⟨#[123]⟩ : ByteArray) = bs [123] from rfl, show (⟨#[125]⟩ : ByteArray) = bs [125] from rfl, bs_cat, bs_cat]
          have : a.take 8 = a := List.take_of_length_le (by rw [HRL.out.in_.len]; exact Nat.le_refl _)
          simp [mdT, mpT, this])
        have hs1 : (bs (mpT a 8)).size ≤ 64 := by rw [bs_size]; exact HLEN.out 8 (Nat.le_refl _)
        generalize bs (mpT a 8) = TS at *
        have hs3 : (⟨#[123]⟩ ++ TS : ByteArray).size ≤ 65 := by rw [ByteArray.size_append]; show 1 + TS.size ≤ _; omega
        clear hlt hk hkw
        go_wp2_with fail
        go_ret
        exact ⟨by rw [← E.out]; rfl, HK.out.trans HKW.out (FSub.refl _ _)⟩
  | lk s =>
    have hs : 0 ≤ s ∧ s ≤ 16 := hS
    have c0 := (cell_lit hn 0 rfl : World.cell? _ _ = some (Value.int .u8 3))
    have c4 := (cell_lit hn 4 rfl : World.cell? _ _ = some (Value.int .i64 (s - 1)))
    by_cases h0 : s = 0
    · have e1 : mdT (.lk s) = freeT := if_pos h0
      rw [e1]
      have z : decide (s - 1 < 0) = true := decide_eq_true (by omega)
      clear hn hk hD hS hs h0 e1
      go_enter Tryz.func60, Tryz.ntmps60
      go_wp2_with fail
      go_ret
      exact ⟨rfl, HK.out⟩
    · have e1 : mdT (.lk s) = heldT ++ dec (s - 1) := if_neg h0
      rw [e1]
      have z : decide (s - 1 < 0) = false := decide_eq_false (by omega)
      have HT := Lib.hid (fun w => r13Digits_any w (s - 1) (by omega) (by omega))
      have hsz := dec_len5 (v := s - 1) (by omega)
      have hs1 : (bs (dec (s - 1))).size ≤ 5 := by rw [bs_size]; exact hsz
      have E := Lib.hid (bs_cat heldT (dec (s - 1)))
      clear hn hk hD hS hs h0 e1 hsz
      generalize hS0 : bs (dec (s - 1)) = SD at *
      go_enter Tryz.func60, Tryz.ntmps60
      go_wp2_with fail
      refine (HT.out _).mono ?_; rintro e w1 ⟨rfl, hk1⟩
      have HK1 := Lib.hid (HK.out.trans hk1 (FSub.refl _ _))
      clear hk1 c0 c4
      go_wp2_with fail
      go_ret
      exact ⟨by rw [← E.out]; rfl, HK1.out⟩
end Go.Proofs.YtbnhcggjcdipeaaGreatDoor
/-
  What the program's objects must tell; the law's alike, over any such program.
-/
namespace Go.Proofs.YtbnhcggjcdipeaaGreatDoor
open Go.RowKit
/-- The program's State: how many cells it has, and the zero one (to be set anew for each program). -/
def skM : SK := { T := 30, s := 1, d := _, und := Tryz.underlying30, row := rfl, size := by kernel_rfl }
def mdZ : List Value := [.nilIface]
/-- The same, as a walk shows it. -/
abbrev mdZA : Array Value := #[.nilIface]
theorem mdZ_ok : skM.Ok mdZ := ⟨rfl, fun v hv => by
  simp only [mdZ, List.mem_cons, List.not_mem_nil, or_false] at hv
  subst hv; rfl⟩
/-! What is told of an object, or of none. -/
def oModel : Option Md → Int
  | some S => S.model
  | none => 0
def oB : Option Md → List UInt8
  | some S => mdB S
  | none => []
def oT : Option Md → List UInt8
  | some S => mdT S
  | none => []
def oX : Option Md → Int → Opn → Option Md × Ans × Int
  | some S, c, x => (some (mdX S c x).1, (mdX S c x).2.1, (mdX S c x).2.2)
  | none, _, _ => (none, ⟨0, 0⟩, 1)
def oSame : Option Md → Option Md → Bool
  | some S, some T => decide (S.model = T.model ∧ mdB S = mdB T)
  | none, none => true
  | _, _ => false
def oInit : Option Md → Bool
  | some S => decide (mdB S = mdB (mdInit S.model))
  | none => false
def oLen : Option Md → Nat
  | some S => S.len
  | none => 0
def oNew (m : Int) : Option Md := if m ≤ 3 then some (mdInit m) else none
/-- What bytes are, of a model; the error. -/
def mdD (m : Int) (b : List UInt8) : Option Md × Int :=
  if m = 0 then (if b.length = 2 then (some (.rg (rgN b)), 0) else (none, 4))
  else if m = 1 then (if b.length % 2 = 1 then (none, 4) else (some (.qu (quN b)), 0))
  else if m = 2 then (if (kvD (nb b)).2 = 0 then (some (.mp (kvD (nb b)).1), 0) else (none, 4))
  else if m = 3 then (if (lkD b).2 = 0 then (some (.lk (lkD b).1), 0) else (none, 4))
  else (none, 10)
def mdIdle (m f : Int) : Bool := decide (m = 0 ∧ f = 1 ∨ m = 2 ∧ f = 6)
/-- What the program's objects tell; G: what its package-level variables hold. -/
structure MdProg (G : World → Prop) where
  At : World → Value → Option Md → Prop
  foot : Value → List Nat
  keepG : ∀ {w w' : World}, G w → Keeps [] w w' → G w'
  keep : ∀ {w w' : World} {F : List Nat} {st : Value} {O : Option Md}, At w st O → Keeps F w w' → (∀ q ∈ foot st, q ∉ F) → At w' st O
  old : ∀ {w : World} {st : Value} {O : Option Md}, At w st O → ∀ q ∈ foot st, q < w.heap.size
  cells : ∀ {w : World} {st : Value} {O : Option Md}, At w st O → ∃ A : List Value, st = .agg A.toArray ∧ skM.Ok A
  in_ : ∀ {w : World} {st : Value} {S : Md}, At w st (some S) → S.In
  zero : ∀ w, At w (.agg mdZ.toArray) none
  new : ∀ w m, G w → 0 ≤ m ∧ m < 256 → Calls Tryz.prog 30 #[.int .u8 m] w fun e w' => ∃ st, e = .returned (.tuple #[st, .int .i64 (if m ≤ 3 then 0 else 10)]) ∧ At w' st (oNew m) ∧ Keeps [] w w' ∧ ∀ q ∈ foot st, w.heap.size ≤ q
  model : ∀ w st O, G w → At w st O → Calls Tryz.prog 32 #[st] w fun e w' => e = .returned (.tuple #[.int .u8 (oModel O), .bool O.isSome]) ∧ Keeps [] w w'
  step : ∀ w st O c x, G w → At w st O → oLen O ≤ 1000 → 0 ≤ c ∧ c < 256 → x.In → Calls Tryz.prog 33 #[st, .int .u8 c, x.val] w fun e w' =>
    ∃ st', e = .returned (.tuple #[st', .agg (ansC (oX O c x).2.1).toArray, .int .i64 (oX O c x).2.2]) ∧ At w' st' (oX O c x).1 ∧ Keeps [] w w' ∧ FSub (foot st') (foot st) w.heap.size
  initial : ∀ w st O, G w → At w st O → oLen O ≤ 1000 → Calls Tryz.prog 41 #[st] w fun e w' => e = .returned (.bool (oInit O)) ∧ Keeps [] w w'
  enc : ∀ w st O, G w → At w st O → oLen O ≤ 1000 → Calls Tryz.prog 22 #[st] w fun e w' => e = .returned (.string (bs (oB O))) ∧ Keeps [] w w'
  text : ∀ w st O, G w → At w st O → oLen O ≤ 1000 → Calls Tryz.prog 48 #[st] w fun e w' => e = .returned (.string (bs (oT O))) ∧ Keeps [] w w'
variable {G : World → Prop}
/-- What its Same tells. -/
structure MdSame (R : MdProg G) : Prop where
  same : ∀ w st O st2 P, G w → R.At w st O → R.At w st2 P → oLen O ≤ 1000 → oLen P ≤ 1000 → Calls Tryz.prog 45 #[st, st2] w fun e w' => e = .returned (.bool (oSame O P)) ∧ Keeps [] w w'
/-- What its Decode tells. -/
structure MdDec (R : MdProg G) : Prop where
  dec : ∀ w m b, G w → 0 ≤ m ∧ m < 256 → b.length ≤ 1000 → Calls Tryz.prog 40 #[.int .u8 m, .string (bs b)] w fun e w' =>
    ∃ st, e = .returned (.tuple #[st, .int .i64 (mdD m b).2]) ∧ R.At w' st (mdD m b).1 ∧ Keeps [] w w' ∧ ∀ q ∈ R.foot st, w.heap.size ≤ q
theorem MdProg.new_ (R : MdProg G) {w w' : World} {st : Value} {O : Option Md} (h : R.At w st O) (hk : Keeps [] w w') : R.At w' st O := R.keep h hk (by simp)
section
variable {ops : Array Oper} {rest : List Oper} {a : Act} {w : World} {Q : Exit → Act → World → Prop}
theorem wpList_loadM {dst : Option Tmp} {ty : TypeId} {pos : String} {after : Array Edge} {gd : Option (Nat × Bool)} {x : Operand} {g off : Nat} {A : List Value} (hA : skM.Ok A)
    (hw : Region.wanted { dst := dst, op := .load 30 x, type := ty, pos := pos, after := after, guard := gd } (yielded ops a.tmps) = true)
    (hx : a.eval x = .pointer (some ⟨g, off, none⟩)) (hr : w.rangeAt g off A) (h : wpList Tryz.prog ops Q rest (a.put dst (.agg A.toArray)) w) :
    wpList Tryz.prog ops Q ({ dst := dst, op := .load 30 x, type := ty, pos := pos, after := after, guard := gd } :: rest) a w := skM.wpList_load hA hw hx hr h
theorem wpList_putM {dst : Option Tmp} {ty : TypeId} {pos : String} {after : Array Edge} {x y : Operand} {g : Nat} {old A : List Value} (hA : skM.Ok A) (hO : skM.Ok old) {t : TypeId}
    (hx : a.eval x = .pointer (some ⟨g, 0, none⟩)) (hy : a.eval y = .agg A.toArray) (hg : w.heap[g]? = some (.cells old.toArray t (0, 0)))
    (h : ∀ W, W.heap[g]? = some (.cells A.toArray t (0, 0)) → Keeps [g] w W → wpList Tryz.prog ops Q rest (a.put dst undef) W) :
    wpList Tryz.prog ops Q ({ dst := dst, op := .store 30 x y, type := ty, pos := pos, after := after, guard := none } :: rest) a w := skM.wpList_put hA hO hx hy hg h
end
end Go.Proofs.YtbnhcggjcdipeaaGreatDoor
/-
  The law's behind, over any program's objects.
-/
namespace Go.Proofs.YtbnhcggjcdipeaaGreatDoor
open Go.RowKit
set_option maxRecDepth 100000
section
variable {ops : Array Oper} {S : World → Prop} {o : Oper} {a : Act} {w : World} {K : Act → World → Prop} {Q : Exit → Act → World → Prop}
theorem run_allocM (w : World) : (Instr.alloc 30 true (.tuple #[])).run Tryz.prog w = .ok (.pointer (some ⟨w.heap.size, 0, none⟩)) (w.alloc (.cells mdZ.toArray 30)) := by kernel_rfl
theorem wp_allocM (ho : o.op = .alloc 30) (h : K (a.put o.dst (.pointer (some ⟨w.heap.size, 0, none⟩))) (w.alloc (.cells mdZ.toArray 30))) : o.wp Tryz.prog a w K Q := by
  unfold Oper.wp execOp
  simp only [ho, Sem.run_bind, run_allocM, Result.andThen_ok, Sem.run_pure]
  exact h
end
variable {G : World → Prop}
set_option maxHeartbeats 8000000
end Go.Proofs.YtbnhcggjcdipeaaGreatDoor
/-
  The law's behind of no model, and its awake, over any program's objects.
-/
namespace Go.Proofs.YtbnhcggjcdipeaaGreatDoor
open Go.RowKit
section
variable {ops : Array Oper} {rest : List Oper} {a : Act} {w : World} {Q : Exit → Act → World → Prop}
end
variable {G : World → Prop}
set_option maxHeartbeats 8000000
set_option maxRecDepth 100000
theorem dec_lit {n : Nat} (h : n < 10) : dec (n : Int) = [UInt8.ofNat (48 + n)] := by
  show Lib.decDigits n = _
  rw [dec_small h, Nat.mod_eq_of_lt h]
end Go.Proofs.YtbnhcggjcdipeaaGreatDoor
/-
  The law ModelSteps, over any program's objects.
-/
namespace Go.Proofs.YtbnhcggjcdipeaaGreatDoor
open Go.RowKit
set_option maxRecDepth 100000
section
variable {o : Oper} {a : Act} {w : World} {K : Act → World → Prop} {Q : Exit → Act → World → Prop}
end
section
variable {ops : Array Oper} {rest : List Oper} {a : Act} {w : World} {Q : Exit → Act → World → Prop}
theorem wpList_loadN13 {dst : Option Tmp} {ty : TypeId} {pos : String} {after : Array Edge} {gd : Option (Nat × Bool)} {x : Operand} {g : Nat} {y : Ans}
    (hw : Region.wanted { dst := dst, op := .load 25 x, type := ty, pos := pos, after := after, guard := gd } (yielded ops a.tmps) = true)
    (hx : a.eval x = .pointer (some ⟨g, 0, none⟩)) (hr : w.heap[g]? = some (.cells (ansC y).toArray 25 (0, 0))) (h : wpList Tryz.prog ops Q rest (a.put dst (.agg #[.int .u8 y.k, .int .u16 y.v])) w) :
    wpList Tryz.prog ops Q ({ dst := dst, op := .load 25 x, type := ty, pos := pos, after := after, guard := gd } :: rest) a w := skR.wpList_load (ansC_ok y) hw hx (block_range hr) h
end
/-- A region's end, told once: what it puts into which slot, and the facts. -/
theorem wp_join13 {P : Program} {c : Code} {Q : Exit → Act → World → Prop} {a : Act} {w : World} (f : Nat → Nat → Value → List Value → Act → Act) (F : Nat → Nat → Value → World → Prop)
    (h : c.wp P (fun e a' w' => e = .normal ∧ ∃ qa qb zv us, a' = f qa qb zv us a ∧ F qa qb zv w') a w)
    (k : ∀ qa qb zv us w', F qa qb zv w' → Q .normal (f qa qb zv us a) w') : c.wp P Q a w :=
  Code.wp_mono (fun e a' w' ⟨he, qa, qb, zv, us, ha, hf⟩ => by subst he; subst ha; exact k qa qb zv us w' hf) h
variable {G : World → Prop}
set_option maxHeartbeats 8000000
end Go.Proofs.YtbnhcggjcdipeaaGreatDoor
/-
  A world of eight objects of one model, as data: its steps, its bytes, its text; no program.
-/
namespace Go.Proofs.YtbnhcggjcdipeaaGreatDoor
open Go.RowKit
structure Wd where
  m : Int
  l : List Md
structure Wd.In (W : Wd) : Prop where
  m0 : 0 ≤ W.m
  m3 : W.m ≤ 3
  n : W.l.length = 8
  each : ∀ S ∈ W.l, S.model = W.m ∧ S.In
def wd0 (m : Int) : Wd := ⟨m, List.replicate 8 (mdInit m)⟩
def Wd.at (W : Wd) (o : Nat) : Md := W.l.getD o (mdInit W.m)
/-- None of its lists is longer. -/
def Wd.upto (W : Wd) (k : Nat) : Prop := ∀ S ∈ W.l, S.len ≤ k
/-- The object that an operation is told to. -/
def wObj (x : Opn) : Nat := if 7 < x.o then 0 else x.o.toNat
def Wd.put (W : Wd) (o : Nat) (S : Md) : Wd := ⟨W.m, W.l.set o S⟩
/-- A step: the world behind it, the answer, the error. -/
def wdX (W : Wd) (c : Int) (x : Opn) : Wd × Ans × Int :=
  if (mdX (W.at (wObj x)) c x).2.2 = 0 then (W.put (wObj x) (mdX (W.at (wObj x)) c x).1, (mdX (W.at (wObj x)) c x).2.1, 0)
  else (W, ⟨0, 0⟩, (mdX (W.at (wObj x)) c x).2.2)
theorem wObj_lt (x : Opn) : wObj x < 8 := by unfold wObj; split <;> omega
theorem wd0_in {m : Int} (h0 : 0 ≤ m) (h3 : m ≤ 3) : (wd0 m).In :=
  ⟨h0, h3, rfl, fun S hS => by rw [(List.mem_replicate.1 hS).2]; exact ⟨mdInit_model h0 h3, mdInit_in m⟩⟩
theorem wd0_upto (m : Int) (k : Nat) : (wd0 m).upto k := fun S hS => by rw [(List.mem_replicate.1 hS).2, mdInit_len]; exact Nat.zero_le _
theorem wd0_at (m : Int) (o : Nat) : (wd0 m).at o = mdInit m := by
  show (List.replicate 8 (mdInit m)).getD o (mdInit m) = _
  rw [List.getD_eq_getElem?_getD, List.getElem?_replicate]
  split <;> rfl
theorem Wd.at_mem {W : Wd} (h : W.In) {o : Nat} (ho : o < 8) : W.at o ∈ W.l := by
  have h1 : o < W.l.length := by rw [h.n]; exact ho
  have e : W.at o = W.l[o] := by show W.l.getD o _ = _; rw [List.getD_eq_getElem?_getD, List.getElem?_eq_getElem h1]; rfl
  rw [e]; exact List.getElem_mem h1
theorem Wd.at_in {W : Wd} (h : W.In) {o : Nat} (ho : o < 8) : (W.at o).model = W.m ∧ (W.at o).In := h.each _ (Wd.at_mem h ho)
theorem Wd.put_at {W : Wd} (h : W.In) {o : Nat} (ho : o < 8) (S : Md) (p : Nat) : (W.put o S).at p = if p = o then S else W.at p := by
  show (W.l.set o S).getD p (mdInit W.m) = if p = o then S else W.l.getD p (mdInit W.m)
  simp only [List.getD_eq_getElem?_getD, List.getElem?_set]
  have h1 : o < W.l.length := by rw [h.n]; exact ho
  by_cases hp : p = o
  · subst hp; simp [h1]
  · rw [if_neg (fun e => hp e.symm), if_neg hp]
theorem Wd.put_in {W : Wd} (h : W.In) {o : Nat} {S : Md} (hm : S.model = W.m) (hS : S.In) : (W.put o S).In :=
  ⟨h.m0, h.m3, by show (W.l.set o S).length = 8; rw [List.length_set, h.n], fun T hT => by
    rcases List.mem_or_eq_of_mem_set hT with h1 | h1
    · exact h.each T h1
    · rw [h1]; exact ⟨hm, hS⟩⟩
theorem Wd.put_upto {W : Wd} {k : Nat} (h : W.upto k) {o : Nat} {S : Md} (hS : S.len ≤ k) : (W.put o S).upto k := fun T hT => by
  rcases List.mem_or_eq_of_mem_set hT with h1 | h1
  · exact h T h1
  · rw [h1]; exact hS
/-- Worlds with the same objects are the same. -/
theorem Wd.ext_at {W V : Wd} (hW : W.In) (hV : V.In) (hm : W.m = V.m) (h : ∀ o, o < 8 → W.at o = V.at o) : W = V := by
  obtain ⟨m, l⟩ := W; obtain ⟨n, k⟩ := V
  simp only at hm
  subst hm
  have e : l = k := List.ext_getElem (by rw [hW.n, hV.n]) fun o h1 h2 => by
    have := h o (by have := hW.n; simp only at this; omega)
    simp only [Wd.at, List.getD_eq_getElem?_getD, List.getElem?_eq_getElem h1, List.getElem?_eq_getElem h2] at this
    exact this
  rw [e]
theorem wdX_err (W : Wd) (c : Int) (x : Opn) : (wdX W c x).2.2 = if 15 < c then 2 else opChk (W.at (wObj x)).model x := by
  rw [← mdX_err]
  unfold wdX
  split
  · rename_i h; exact h.symm
  · rfl
theorem wdX_bad {W : Wd} {c : Int} {x : Opn} (h : (wdX W c x).2.2 ≠ 0) : (wdX W c x).1 = W ∧ (wdX W c x).2.1 = ⟨0, 0⟩ := by
  unfold wdX at h ⊢
  split
  · rename_i h1; rw [if_pos h1] at h; exact absurd rfl h
  · exact ⟨rfl, rfl⟩
theorem wdX_ok {W : Wd} {c : Int} {x : Opn} (h : (wdX W c x).2.2 = 0) : (mdX (W.at (wObj x)) c x).2.2 = 0 ∧ wdX W c x = (W.put (wObj x) (mdX (W.at (wObj x)) c x).1, (mdX (W.at (wObj x)) c x).2.1, 0) := by
  have h1 : (mdX (W.at (wObj x)) c x).2.2 = 0 := by rw [mdX_err]; rw [wdX_err] at h; exact h
  refine ⟨h1, ?_⟩
  unfold wdX
  rw [if_pos h1]
theorem wdX_in {W : Wd} (h : W.In) {c : Int} (h0 : 0 ≤ c) {x : Opn} (hx : x.In) : (wdX W c x).1.In := by
  unfold wdX
  have h1 := Wd.at_in h (wObj_lt x)
  split
  · exact Wd.put_in h (by rw [mdX_model]; exact h1.1) (mdX_in h1.2 h0 hx)
  · exact h
theorem wdX_upto {W : Wd} (h : W.In) {k : Nat} (hk : W.upto k) (c : Int) (x : Opn) : (wdX W c x).1.upto (k + 1) := by
  unfold wdX
  split
  · have h1 := hk _ (Wd.at_mem h (wObj_lt x))
    exact Wd.put_upto (fun S hS => Nat.le_succ_of_le (hk S hS)) (Nat.le_trans (mdX_len _ c x) (by omega))
  · exact fun S hS => Nat.le_succ_of_le (hk S hS)
/-- Those that are listed: number and state. -/
def liW (m : Int) : Nat → List Md → List (Nat × Md)
  | _, [] => []
  | i, S :: r => if mdB S = mdB (mdInit m) then liW m (i + 1) r else (i, S) :: liW m (i + 1) r
def Wd.li (W : Wd) : List (Nat × Md) := liW W.m 0 W.l
def itB (p : Nat × Md) : List UInt8 := UInt8.ofNat p.1 :: UInt8.ofNat ((mdB p.2).length / 256) :: UInt8.ofNat ((mdB p.2).length % 256) :: mdB p.2
def wtT (p : Nat × Md) : List UInt8 := dec (p.1 : Int) ++ 61 :: mdT p.2
/-- Its bytes. -/
def wdB (W : Wd) : List UInt8 := W.li.flatMap itB
/-- Its text. -/
def wdT (W : Wd) : List UInt8 := if W.li = [] then [45] else spT (W.li.map wtT)
theorem liW_mem (m : Int) : ∀ (i : Nat) (l : List Md), ∀ p ∈ liW m i l, i ≤ p.1 ∧ p.1 < i + l.length ∧ p.2 ∈ l ∧ mdB p.2 ≠ mdB (mdInit m)
  | i, [], p, h => by cases h
  | i, S :: r, p, h => by
    unfold liW at h
    split at h
    · obtain ⟨h1, h2, h3, h4⟩ := liW_mem m (i + 1) r p h
      exact ⟨by omega, by simp only [List.length_cons]; omega, List.mem_cons_of_mem _ h3, h4⟩
    · rename_i hS
      rcases List.mem_cons.1 h with rfl | h
      · exact ⟨Nat.le_refl _, by simp only [List.length_cons]; omega, List.mem_cons_self, hS⟩
      · obtain ⟨h1, h2, h3, h4⟩ := liW_mem m (i + 1) r p h
        exact ⟨by omega, by simp only [List.length_cons]; omega, List.mem_cons_of_mem _ h3, h4⟩
/-- What is listed tells the states. -/
theorem liW_inj {m : Int} (hm : 0 ≤ m ∧ m ≤ 3) : ∀ (i : Nat) (l k : List Md), (∀ S ∈ l, S.model = m ∧ S.In) → (∀ S ∈ k, S.model = m ∧ S.In) → l.length = k.length → liW m i l = liW m i k → l = k
  | i, [], [], _, _, _, _ => rfl
  | i, [], _ :: _, _, _, h, _ => by cases h
  | i, _ :: _, [], _, _, h, _ => by cases h
  | i, S :: l, T :: k, hl, hk, hn, h => by
    have hn' : l.length = k.length := Nat.succ.inj hn
    have hl' := fun A hA => hl A (List.mem_cons_of_mem _ hA)
    have hk' := fun A hA => hk A (List.mem_cons_of_mem _ hA)
    have hS := hl S List.mem_cons_self
    have hT := hk T List.mem_cons_self
    have hi := mdInit_model hm.1 hm.2
    unfold liW at h
    split at h
    · rename_i h1
      split at h
      · rename_i h2
        rw [liW_inj hm (i + 1) l k hl' hk' hn' h, (mdB_inj hS.2 hT.2 (by rw [hS.1, hT.1])).1 (by rw [h1, h2])]
      · have := liW_mem m (i + 1) l (i, T) (by rw [h]; exact List.mem_cons_self)
        exact absurd this.1 (by simp)
    · split at h
      · have := liW_mem m (i + 1) k (i, S) (by rw [← h]; exact List.mem_cons_self)
        exact absurd this.1 (by simp)
      · simp only [List.cons.injEq, Prod.mk.injEq, true_and] at h
        rw [liW_inj hm (i + 1) l k hl' hk' hn' h.2, h.1]
theorem Wd.li_inj {W V : Wd} (hW : W.In) (hV : V.In) (hm : W.m = V.m) (h : W.li = V.li) : W = V := by
  obtain ⟨m, l⟩ := W; obtain ⟨n, k⟩ := V
  simp only at hm
  subst hm
  have e : l = k := liW_inj ⟨hW.m0, hW.m3⟩ 0 l k hW.each hV.each (by rw [hW.n, hV.n]) h
  rw [e]
theorem Wd.li_mem {W : Wd} (h : W.In) : ∀ p ∈ W.li, p.1 < 8 ∧ p.2.model = W.m ∧ p.2.In ∧ mdB p.2 ≠ mdB (mdInit W.m) := fun p hp => by
  obtain ⟨-, h2, h3, h4⟩ := liW_mem W.m 0 W.l p hp
  rw [h.n] at h2
  exact ⟨by omega, (h.each _ h3).1, (h.each _ h3).2, h4⟩
end Go.Proofs.YtbnhcggjcdipeaaGreatDoor
