/-
  One object of any of the four models, as data: its steps, its bytes, its text; no program.
-/
import Derived.Test.YtbnhcggjcdipeaaGreatDoorWS00
import Derived.BigQuiet
import Derived.Test.YtbnhcggjcdipeaaGreatDoorWS08
import Derived.Test.YtbnhcggjcdipeaaGreatDoorWS24
import Derived.Test.YtbnhcggjcdipeaaGreatDoorWS11
import Derived.Test.YtbnhcggjcdipeaaGreatDoorWS17
import Derived.Test.YtbnhcggjcdipeaaGreatDoorWS03
import Derived.Test.YtbnhcggjcdipeaaGreatDoorWS09
import Derived.Test.YtbnhcggjcdipeaaGreatDoorWS07
import Derived.Test.YtbnhcggjcdipeaaGreatDoorWS22
set_option linter.unusedSimpArgs false
set_option linter.unusedVariables false
namespace Go.Proofs.YtbnhcggjcdipeaaGreatDoor
open Go.RowKit
inductive Md where
  | rg (s : Int)
  | qu (l : List Int)
  | mp (m : Kv)
  | lk (s : Int)
def Md.model : Md → Int
  | .rg _ => 0
  | .qu _ => 1
  | .mp _ => 2
  | .lk _ => 3
def mdInit (m : Int) : Md := if m = 0 then .rg 0 else if m = 1 then .qu [] else if m = 2 then .mp kv0 else .lk 0
def Md.In : Md → Prop
  | .rg s => 0 ≤ s ∧ s < 65536
  | .qu l => U16s l
  | .mp m => KvIn m
  | .lk s => 0 ≤ s ∧ s ≤ 16
/-- How long its list is. -/
def Md.len : Md → Nat
  | .qu l => l.length
  | _ => 0
/-- A step, if it is one of the model's. -/
def mdY : Md → Int → Opn → Md × Ans
  | .rg s, _, x => (.rg (rgX s x).1, (rgX s x).2.1)
  | .qu l, _, x => (.qu (quX l x).1, (quX l x).2.1)
  | .mp m, _, x => (.mp (ksX m x).1, (ksX m x).2.1)
  | .lk s, c, x => (.lk (lkX s c x).1, (lkX s c x).2.1)
/-- A step of a client's operation: the state behind it, the answer, the error. -/
def mdX (S : Md) (c : Int) (x : Opn) : Md × Ans × Int :=
  if 15 < c then (S, ⟨0, 0⟩, 2) else if opChk S.model x = 0 then ((mdY S c x).1, (mdY S c x).2, 0) else (S, ⟨0, 0⟩, 10)
def kvBy (m : Kv) : List UInt8 := (kvBn m).map fun n => UInt8.ofNat n.toNat
/-- Its bytes. -/
def mdB : Md → List UInt8
  | .rg s => rgB s
  | .qu l => quB l
  | .mp m => kvBy m
  | .lk s => lkB s
/-- Texts with a space between each two. -/
def spT : List (List UInt8) → List UInt8
  | [] => []
  | [x] => x
  | x :: y :: r => x ++ 32 :: spT (y :: r)
/-- The text of a key and its number. -/
def itT (x : It) : List UInt8 := dec x.k ++ 58 :: dec x.v
def freeT : List UInt8 := [102, 114, 101, 101]
def heldT : List UInt8 := [104, 101, 108, 100, 32, 98, 121, 32]
/-- Its text. -/
def mdT : Md → List UInt8
  | .rg s => dec s
  | .qu l => 91 :: (spT (l.map dec) ++ [93])
  | .mp m => 123 :: (spT ((itOf 0 m).map itT) ++ [125])
  | .lk s => if s = 0 then freeT else heldT ++ dec (s - 1)
theorem mdInit_in (m : Int) : (mdInit m).In := by
  unfold mdInit
  split
  · exact ⟨by decide, by decide⟩
  · split
    · exact fun v hv => by cases hv
    · split
      · exact kv0_in
      · exact ⟨by decide, by decide⟩
theorem mdInit_len (m : Int) : (mdInit m).len = 0 := by
  unfold mdInit
  split
  · rfl
  · split
    · rfl
    · split <;> rfl
theorem mdInit_model {m : Int} (h0 : 0 ≤ m) (h1 : m ≤ 3) : (mdInit m).model = m := by
  unfold mdInit
  split
  · rename_i h; exact h.symm
  · split
    · rename_i h; exact h.symm
    · split
      · rename_i h; exact h.symm
      · show (3 : Int) = m; omega
theorem Md.model_in (S : Md) : 0 ≤ S.model ∧ S.model ≤ 3 := by cases S <;> simp [Md.model]
theorem mdX_err (S : Md) (c : Int) (x : Opn) : (mdX S c x).2.2 = if 15 < c then 2 else opChk S.model x := by
  unfold mdX
  split
  · rfl
  · rcases opChk_or S.model x with h | h
    · rw [if_pos h, h]
    · rw [if_neg (by omega), h]
theorem mdY_model (S : Md) (c : Int) (x : Opn) : (mdY S c x).1.model = S.model := by cases S <;> rfl
theorem mdX_model (S : Md) (c : Int) (x : Opn) : (mdX S c x).1.model = S.model := by
  unfold mdX
  split
  · rfl
  · split
    · exact mdY_model S c x
    · rfl
/-- What an operation of a model is. -/
theorem chk_of {m : Int} {x : Opn} (h : opChk m x = 0) : Good x ∧ opM x.f = m := by
  unfold opChk at h
  split at h
  · rename_i h2
    simp only [Bool.and_eq_true, beq_iff_eq] at h2
    exact ⟨(good_iff x).1 h2.1, h2.2⟩
  · cases h
theorem chk_f {m : Int} {x : Opn} (h : opChk m x = 0) : (m = 0 ∧ (x.f = 1 ∨ x.f = 2 ∨ x.f = 3)) ∨ (m = 1 ∧ (x.f = 4 ∨ x.f = 5)) ∨ (m = 2 ∧ (x.f = 6 ∨ x.f = 7 ∨ x.f = 8 ∨ x.f = 9)) ∨ (m = 3 ∧ (x.f = 10 ∨ x.f = 11)) := by
  obtain ⟨hg, hm⟩ := chk_of h
  rcases is_cases hg.is with h | h | h | h | h | h | h | h | h | h | h <;> rw [h] at hm <;> simp [opM] at hm <;> omega
/-- The error that the model itself tells. -/
def mdE : Md → Int → Opn → Int
  | .rg s, _, x => (rgX s x).2.2
  | .qu l, _, x => (quX l x).2.2
  | .mp m, _, x => (ksX m x).2.2
  | .lk s, c, x => (lkX s c x).2.2
theorem mdY_err {S : Md} (hS : S.In) {c : Int} (hc : c ≤ 15) {x : Opn} (h : opChk S.model x = 0) : mdE S c x = 0 := by
  have hf := chk_f h
  have hg := (chk_of h).1
  cases S with
  | rg s =>
    simp only [Md.model] at hf
    show (rgX s x).2.2 = 0
    rcases rgX_err s x with h | h
    · exact h
    · exfalso
      unfold rgX at h
      rcases (by omega : x.f = 1 ∨ x.f = 2 ∨ x.f = 3) with hf | hf | hf <;> rw [hf] at h
      · simp at h
      · simp at h
      · simp only [if_true] at h
        split at h
        · rename_i h2; cases h2
        · split at h
          · rename_i h2; cases h2
          · split at h <;> cases h
  | qu l => show (quX l x).2.2 = 0; rw [quX_err]; exact h
  | mp m =>
    simp only [Md.model] at hf
    show (ksX m x).2.2 = 0
    unfold ksX
    rw [if_neg (by have := hg.k; omega)]
    split
    · rfl
    · split
      · split <;> rfl
      · split
        · rfl
        · split
          · rfl
          · split <;> rfl
  | lk s =>
    show (lkX s c x).2.2 = 0
    have hs : s ≤ 16 := hS.2
    rcases lkX_ways s c x with h1 | h1 | h1 | h1 | h1 | h1
    · have h' : opChk 3 x = 0 := h; omega
    · omega
    · rw [h1.2.2.2.2.2]
    · rw [h1.2.2.2.2.2]
    · rw [h1.2.2.2.2.2]
    · rw [h1.2.2.2.2.2]
theorem mdY_in {S : Md} (hS : S.In) {c : Int} (h0 : 0 ≤ c) (h1 : c ≤ 15) {x : Opn} (hx : x.In) : (mdY S c x).1.In := by
  cases S with
  | rg s => exact rgX_st hS hx
  | qu l => exact quX_in hS hx
  | mp m => exact ksX_in hS hx
  | lk s =>
    have hs : 0 ≤ s ∧ s ≤ 16 := hS
    show 0 ≤ (lkX s c x).1 ∧ (lkX s c x).1 ≤ 16
    rcases lkX_ways s c x with h1 | h1 | h1 | h1 | h1 | h1
    · rw [h1.2]; exact hs
    · rw [h1.2.2]; exact hs
    · rw [h1.2.2.2.2.2]; simp only; omega
    · rw [h1.2.2.2.2.2]; exact hs
    · rw [h1.2.2.2.2.2]; simp only; omega
    · rw [h1.2.2.2.2.2]; exact hs
theorem mdX_in {S : Md} (hS : S.In) {c : Int} (h0 : 0 ≤ c) {x : Opn} (hx : x.In) : (mdX S c x).1.In := by
  unfold mdX
  split
  · exact hS
  · split
    · exact mdY_in hS h0 (by omega) hx
    · exact hS
theorem mdY_len (S : Md) (c : Int) (x : Opn) : (mdY S c x).1.len ≤ S.len + 1 := by
  cases S with
  | qu l => exact quX_len l x
  | _ => exact Nat.zero_le _
theorem mdX_len (S : Md) (c : Int) (x : Opn) : (mdX S c x).1.len ≤ S.len + 1 := by
  unfold mdX
  split
  · exact Nat.le_succ _
  · split
    · exact mdY_len S c x
    · exact Nat.le_succ _
end Go.Proofs.YtbnhcggjcdipeaaGreatDoor
/-
  An object's bytes and its text tell which state of its model it is in; no program.
-/
namespace Go.Proofs.YtbnhcggjcdipeaaGreatDoor
open Go.RowKit
theorem kvBy_nb {m : Kv} (h : KvIn m) : nb (kvBy m) = kvBn m := by
  have hu := kvBn_u8 h
  unfold nb kvBy
  rw [List.map_map]
  conv => rhs; rw [← List.map_id (kvBn m)]
  refine List.map_congr_left fun n hn => ?_
  have := hu n hn
  simp only [Function.comp, UInt8.toNat_ofNat', id]
  omega
theorem kvBy_str {m : Kv} (h : KvIn m) : strOfNums (kvBn m) = bs (kvBy m) := by rw [← kvBy_nb h, str_nb]
theorem kvBy_inj {m n : Kv} (hm : KvIn m) (hn : KvIn n) (h : kvBy m = kvBy n) : m = n := by
  have e : kvBn m = kvBn n := by rw [← kvBy_nb hm, ← kvBy_nb hn, h]
  have := kvD_enc hm
  rw [e, kvD_enc hn] at this
  exact (congrArg Prod.fst this).symm
/-- States of one model are the same just if their bytes are. -/
theorem mdB_inj {S T : Md} (hS : S.In) (hT : T.In) (hm : S.model = T.model) : mdB S = mdB T ↔ S = T := by
  refine ⟨fun h => ?_, fun h => by rw [h]⟩
  cases S <;> cases T <;> simp only [Md.model] at hm <;> first | (exfalso; revert hm; decide) | skip
  · rename_i a b
    have : rgB a = rgB b := h
    rw [← rgN_rgB (show 0 ≤ a ∧ a < 65536 from hS), ← rgN_rgB (show 0 ≤ b ∧ b < 65536 from hT), this]
  · rename_i a b
    rw [(quB_inj a b hS hT).1 h]
  · rename_i a b
    rw [kvBy_inj hS hT h]
  · rename_i a b
    have h2 : lkB a = lkB b := h
    have ha : 0 ≤ a ∧ a ≤ 16 := hS
    have hb : 0 ≤ b ∧ b ≤ 16 := hT
    have := congrArg nb h2
    rw [nb_lkB ha.1 (by omega), nb_lkB hb.1 (by omega)] at this
    simp at this
    rw [this]
theorem dec_ne' (a : Int) : dec a ≠ [] := dec_ne _
theorem dec_no (a : Int) {c : UInt8} (hc : c.toNat < 48 ∨ 57 < c.toNat) : c ∉ dec a := fun h => by
  have := dec_digits a.toNat c h
  unfold isDig at this
  omega
def spR : List (List UInt8) → List UInt8
  | [] => []
  | x :: r => 32 :: spT (x :: r)
theorem spT_cons (x : List UInt8) (r : List (List UInt8)) : spT (x :: r) = x ++ spR r := by
  cases r with
  | nil => show x = x ++ []; simp
  | cons y r => rfl
theorem spT_snoc : ∀ (l : List (List UInt8)) (x : List UInt8), spT (l ++ [x]) = spT l ++ (if l = [] then [] else [32]) ++ x
  | [], x => by simp [spT]
  | [a], x => by simp [spT]
  | a :: b :: r, x => by
    have ih := spT_snoc (b :: r) x
    rw [if_neg (by simp)] at ih ⊢
    show a ++ 32 :: spT (b :: r ++ [x]) = a ++ 32 :: spT (b :: r) ++ [32] ++ x
    rw [ih]
    simp
theorem spT_ne {x : List UInt8} {r : List (List UInt8)} (h : x ≠ []) : spT (x :: r) ≠ [] := by
  rw [spT_cons]
  intro e
  exact h (List.append_eq_nil_iff.1 e).1
theorem itT_word (x : It) : itT x ≠ [] ∧ (32 : UInt8) ∉ itT x := by
  refine ⟨fun h => dec_ne' x.k (List.append_eq_nil_iff.1 h).1, fun h => ?_⟩
  rcases List.mem_append.1 h with h | h
  · exact dec_no _ (by decide) h
  · rcases List.mem_cons.1 h with h | h
    · exact absurd h (by decide)
    · exact dec_no _ (by decide) h
theorem itOf_mem : ∀ (n : Nat) (m : Kv), ∀ x ∈ itOf n m, ∃ k : Nat, m[k]? = some (some x.v)
  | n, [], x, h => by cases h
  | n, none :: r, x, h => by
    obtain ⟨k, hk⟩ := itOf_mem (n + 1) r x h
    exact ⟨k + 1, by simpa using hk⟩
  | n, some v :: r, x, h => by
    rcases List.mem_cons.1 h with rfl | h
    · exact ⟨0, rfl⟩
    · obtain ⟨k, hk⟩ := itOf_mem (n + 1) r x h
      exact ⟨k + 1, by simpa using hk⟩
end Go.Proofs.YtbnhcggjcdipeaaGreatDoor
/-
  The document's numbers in decimal digits.
-/
namespace Go.Proofs.YtbnhcggjcdipeaaGreatDoor
open Go.RowKit
theorem digit13 (c : Nat) : strOfNums [48 + (c : Int) % 10] = bs [UInt8.ofNat (48 + c % 10)] := by
  have : (48 + (c : Int) % 10).toNat = 48 + c % 10 := by omega
  simp [strOfNums, bs, this]
set_option maxHeartbeats 1000000
set_option maxRecDepth 100000
theorem r13Digits_nat (w : World) (m : Nat) (hm : m < 65536) : Calls Tryz.prog 59 #[.int .i64 m] w fun e w' => e = .returned (.string (bs (Lib.decDigits m))) ∧ Keeps [] w w' := by
  have hlen := dec_length_le 4 m (by omega)
  go_enter Tryz.func59, Tryz.ntmps59
  go_wp2_with fail
  go_loopw [0, 3] (fun n s wr => ∃ (c : Nat) (t : List UInt8), n = .int .i64 c ∧ s = .string (bs t) ∧ Lib.decDigits c ++ t = Lib.decDigits m ∧ c ≤ m ∧ Keeps [] w wr) (fun n _ _ => (intOf n).toNat)
  case atStart => exact ⟨m, [], rfl, rfl, by simp, Nat.le_refl _, Keeps.refl _ _⟩
  case round =>
    obtain ⟨c, t, rfl, rfl, ht, hcm, hk⟩ := hrel
    have htl : t.length ≤ 10 := by have := congrArg List.length ht; rw [List.length_append] at this; omega
    have hs1 : (bs t).size ≤ 10 := by rw [bs_size]; exact htl
    have hcv := text1_at (W := wr) rfl (48 + (c : Int) % 10)
    have hs2 : (strOfNums [48 + (c : Int) % 10]).size ≤ 1 := by rw [strOfNums_size]; simp
    have e2 : strOfNums [48 + (c : Int) % 10] ++ bs t = bs (UInt8.ofNat (48 + c % 10) :: t) := by rw [digit13, bs_app]; rfl
    have E2 := Lib.hid e2; clear e2
    have hm1 : (c : Int).tmod 10 = (c : Int) % 10 := Int.tmod_eq_emod_of_nonneg (by omega)
    have hm2 : (c : Int).tdiv 10 = (c : Int) / 10 := Int.tdiv_eq_ediv_of_nonneg (by omega)
    have hw1 : IntKind.i64.wrap ((c : Int) % 10) = (c : Int) % 10 := by simp [IntKind.wrap, IntKind.signed, IntKind.bits]; omega
    have hw2 : IntKind.i64.wrap (48 + (c : Int) % 10) = 48 + (c : Int) % 10 := by simp [IntKind.wrap, IntKind.signed, IntKind.bits]; omega
    have hw3 : IntKind.u8.wrap (48 + (c : Int) % 10) = 48 + (c : Int) % 10 := by simp [IntKind.wrap, IntKind.signed, IntKind.bits]; omega
    have hw4 : IntKind.i64.wrap ((c : Int) / 10) = (c : Int) / 10 := by simp [IntKind.wrap, IntKind.signed, IntKind.bits]; omega
    generalize hT : strOfNums [48 + (c : Int) % 10] = T at *
    generalize hS : bs t = S at *
    clear hT hS
    by_cases hlt : c < 10
    · have e3 : UInt8.ofNat (48 + c % 10) :: t = Lib.decDigits m := by rw [← ht, dec_small hlt]; rfl
      rw [e3] at E2
      have hq : (c : Int) / 10 = 0 := by omega
      clear e3
      go_wp2_with fail
      go_ret
      exact ⟨by rw [← E2.out]; rfl, hk.alloc _⟩
    · have e3 : Lib.decDigits (c / 10) ++ (UInt8.ofNat (48 + c % 10) :: t) = Lib.decDigits m := by rw [← ht, dec_big hlt]; simp
      have hq : ((c : Int) / 10 == 0) = false := by simp; omega
      go_wp2_with fail
      go_roundw
      case rel => exact ⟨c / 10, _, by congr 1, by rw [← E2.out], e3, by omega, hk.alloc _⟩
      case measure => simp [intOf]; omega
theorem r13Digits_any (w : World) (n : Int) (n0 : 0 ≤ n) (n1 : n < 65536) : Calls Tryz.prog 59 #[.int .i64 n] w fun e w' => e = .returned (.string (bs (dec n))) ∧ Keeps [] w w' := by
  obtain ⟨m, rfl⟩ := Int.eq_ofNat_of_zero_le n0
  exact r13Digits_nat w m (by omega)
end Go.Proofs.YtbnhcggjcdipeaaGreatDoor
/-
  Any struct by its cells, references and all: loads, stores; the document's object in memory.
-/
namespace Go.Proofs.YtbnhcggjcdipeaaGreatDoor
open Go.RowKit
set_option maxRecDepth 100000
/-- A struct's type, and how many cells it has. -/
structure SK where
  T : TypeId
  s : Nat
  d : TypeDesc
  und : Tryz.prog.underlying T = some d
  row : d.isRow = true
  size : (Tryz.prog.info? T).map (·.size) = some s
/-- Cells of one such struct. -/
def SK.Ok (R : SK) (A : List Value) : Prop := A.length = R.s ∧ ∀ v ∈ A, v.oneCell' = true
theorem SK.Ok.all {R : SK} {A : List Value} (h : R.Ok A) : A.toArray.all (·.oneCell') = true := by rw [← Array.all_toList, List.all_eq_true]; exact h.2
section
variable {ops : Array Oper} {rest : List Oper} {o : Oper} {a : Act} {w : World} {K : Act → World → Prop} {Q : Exit → Act → World → Prop} {S : World → Prop}
theorem SK.wp_load (R : SK) {x : Operand} (ho : o.op = .load R.T x) {g off : Nat} {A : List Value} (hA : R.Ok A) (hx : a.eval x = .pointer (some ⟨g, off, none⟩)) (hr : w.rangeAt g off A) (h : K (a.put o.dst (.agg A.toArray)) w) : o.wp Tryz.prog a w K Q :=
  wp_load_mid R.T x ho g off hx A _ hr R.und R.row (by rw [R.size, hA.1]) h
theorem SK.wpList_load (R : SK) {dst : Option Tmp} {ty : TypeId} {pos : String} {after : Array Edge} {gd : Option (Nat × Bool)} {x : Operand} {g off : Nat} {A : List Value} (hA : R.Ok A)
    (hw : Region.wanted { dst := dst, op := .load R.T x, type := ty, pos := pos, after := after, guard := gd } (yielded ops a.tmps) = true)
    (hx : a.eval x = .pointer (some ⟨g, off, none⟩)) (hr : w.rangeAt g off A) (h : wpList Tryz.prog ops Q rest (a.put dst (.agg A.toArray)) w) :
    wpList Tryz.prog ops Q ({ dst := dst, op := .load R.T x, type := ty, pos := pos, after := after, guard := gd } :: rest) a w :=
  wpList_step fun _ hK => by
    rw [if_pos hw]
    exact R.wp_load rfl hA hx hr (hK _ _ h)
theorem SK.yields (R : SK) {A : List Value} (hA : R.Ok A) (hw : Region.wanted o (yielded ops a.tmps) = true) (x : Operand) (ho : o.op = .load R.T x) (g off : Nat) (hx : a.eval x = .pointer (some ⟨g, off, none⟩)) (hS : ∀ w, S w → w.rangeAt g off A) :
    YieldsIf Tryz.prog ops S o (.agg A.toArray) a :=
  yieldsIf_load_mid (P := Tryz.prog) hw R.T x ho g off hx A _ hS R.und R.row (by rw [R.size, hA.1])
theorem SK.wp_put (R : SK) {x y : Operand} (ho : o.op = .store R.T x y) {g : Nat} {old A : List Value} (hA : R.Ok A) (hO : R.Ok old) {t : TypeId}
    (hx : a.eval x = .pointer (some ⟨g, 0, none⟩)) (hy : a.eval y = .agg A.toArray) (hg : w.heap[g]? = some (.cells old.toArray t (0, 0)))
    (h : ∀ W, W.heap[g]? = some (.cells A.toArray t (0, 0)) → Keeps [g] w W → K (a.put o.dst undef) W) : o.wp Tryz.prog a w K Q :=
  wp_store_row R.T x y ho g A.toArray hx hy t old.toArray hg (by rw [R.size, List.size_toArray, hA.1]) (by rw [List.size_toArray, List.size_toArray, hA.1, hO.1]) hA.all (h _ (setRow_heap w g old.toArray A.toArray t (0, 0) hg) ((Keeps.refl [g] w).setRow g _ (.inl (by simp))))
theorem SK.wpList_put (R : SK) {dst : Option Tmp} {ty : TypeId} {pos : String} {after : Array Edge} {x y : Operand} {g : Nat} {old A : List Value} (hA : R.Ok A) (hO : R.Ok old) {t : TypeId}
    (hx : a.eval x = .pointer (some ⟨g, 0, none⟩)) (hy : a.eval y = .agg A.toArray) (hg : w.heap[g]? = some (.cells old.toArray t (0, 0)))
    (h : ∀ W, W.heap[g]? = some (.cells A.toArray t (0, 0)) → Keeps [g] w W → wpList Tryz.prog ops Q rest (a.put dst undef) W) :
    wpList Tryz.prog ops Q ({ dst := dst, op := .store R.T x y, type := ty, pos := pos, after := after, guard := none } :: rest) a w :=
  wpList_plain rfl fun _ hK => R.wp_put rfl hA hO hx hy hg (fun W h1 h2 => hK _ _ (h W h1 h2))
/-- One cell of a struct is stored. -/
theorem run_put13 {ty : TypeId} (hi : (Tryz.prog.info? ty).map (·.size) = some 1) {g j : Nat} {v : Value} {A : Array Value} {t : TypeId} (hg : w.heap[g]? = some (.cells A t (0, 0))) (hj : j < A.size) (h1 : v.oneCell' = true) :
    (storeVar ty ⟨g, j, none⟩ v).run Tryz.prog w = .ok () (w.setCell ⟨g, j, none⟩ v) := by
  have hcell : w.cell? ⟨g, j, none⟩ = some A[j] := by simp [World.cell?, hg, hj]
  have hfr : w.frozen? ⟨g, j, none⟩ = false := by simp [World.frozen?, hg]
  have := run_storeCells_cells (P := Tryz.prog) g j [v] 0 w (fun k hk => by
    obtain rfl : k = 0 := by simpa using hk
    show (w.cell? ⟨g, j, none⟩).isSome = true
    rw [hcell]; rfl) (fun k hk => by
    obtain rfl : k = 0 := by simpa using hk
    exact hfr) (fun u hu => by simp at hu; subst hu; exact h1)
  have hc : v.cells = #[v] := by cases v <;> first | rfl | cases h1
  cases hq : Tryz.prog.info? ty with
  | none => simp [hq] at hi
  | some i =>
    have hs : i.size = 1 := by simpa [hq] using hi
    simp only [Nat.add_zero] at this
    simp [storeVar, sizeOf, typeInfo, hq, hc, hs, this]
    rfl
theorem wpList_put1 {dst : Option Tmp} {ty t2 : TypeId} {pos : String} {after : Array Edge} {x y : Operand} {g j : Nat} {v : Value} {A : List Value} {t : TypeId} (hi : (Tryz.prog.info? ty).map (·.size) = some 1)
    (hx : a.eval x = .pointer (some ⟨g, j, none⟩)) (hy : a.eval y = v) (hg : w.heap[g]? = some (.cells A.toArray t (0, 0))) (hj : j < A.length) (h1 : v.oneCell' = true)
    (h : ∀ W, W.heap[g]? = some (.cells (A.set j v).toArray t (0, 0)) → Keeps [g] w W → wpList Tryz.prog ops Q rest (a.put dst undef) W) :
    wpList Tryz.prog ops Q ({ dst := dst, op := .store ty x y, type := t2, pos := pos, after := after, guard := none } :: rest) a w :=
  wpList_plain rfl fun _ hK => by
    unfold Oper.wp execOp
    simp only [hx, hy, Instr.storeAt, Instr.sureAddr, Sem.run_bind, Sem.run_pure, Result.andThen_ok, run_put13 hi hg (by simpa using hj) h1]
    refine hK _ _ (h _ ?_ ((Keeps.refl [g] w).setCell _ _ (.inl (by simp))))
    have := heap_setCell_same w g j _ t v hg
    simpa using this
end
/-- Cells that stand in a block. -/
theorem block_range {w : World} {g : Nat} {A : List Value} {t : TypeId} (h : w.heap[g]? = some (.cells A.toArray t (0, 0))) : w.rangeAt g 0 A := fun j v hv => by
  rw [Nat.zero_add]
  exact cell_lit h j (by simpa using hv)
theorem results_sk {fn : Func} {p : Tmp} (R : SK) (h : fn.results = #[.cell p R.T]) (tmps : Array Value) (w : World) (b : Nat) {A : List Value} (hA : R.Ok A) {t : TypeId}
    (hp : tmps.getD p undef = .pointer (some ⟨b, 0, none⟩)) (hb : w.heap[b]? = some (.cells A.toArray t (0, 0))) : (results fn tmps).run Tryz.prog w = .ok (.agg A.toArray) w := by
  have h1 : (loadVar R.T ⟨b, 0, none⟩).run Tryz.prog w = .ok (.agg A.toArray) w := run_loadVar_mid w b 0 R.T A _ (block_range hb) R.und R.row (by rw [R.size, hA.1])
  have hp' : tmps[p]?.getD undef = .pointer (some ⟨b, 0, none⟩) := by simpa using hp
  simp only [results, h]
  simp [Sem.run_bind, Result.andThen, hp', asAddr, h1]
/-- A struct and a number are handed back. -/
theorem results_sk1 {fn : Func} {p u : Tmp} (R : SK) (h : fn.results = #[.cell p R.T, .tmp u]) (tmps : Array Value) (w : World) (b : Nat) {A : List Value} (hA : R.Ok A) {t : TypeId}
    (hp : tmps.getD p undef = .pointer (some ⟨b, 0, none⟩)) (hb : w.heap[b]? = some (.cells A.toArray t (0, 0))) : (results fn tmps).run Tryz.prog w = .ok (.tuple #[.agg A.toArray, tmps.getD u undef]) w := by
  have h1 : (loadVar R.T ⟨b, 0, none⟩).run Tryz.prog w = .ok (.agg A.toArray) w := run_loadVar_mid w b 0 R.T A _ (block_range hb) R.und R.row (by rw [R.size, hA.1])
  have hp' : tmps[p]?.getD undef = .pointer (some ⟨b, 0, none⟩) := by simpa using hp
  simp only [results, h]
  simp [Sem.run_bind, Result.andThen, hp', asAddr, h1]
/-- A struct, an answer, a number are handed back. -/
theorem results_sk3 {fn : Func} {p q u : Tmp} (R : SK) (h : fn.results = #[.cell p R.T, .cell q 25, .tmp u]) (tmps : Array Value) (w : World) (b c : Nat) {A : List Value} (hA : R.Ok A) (y : Ans) {t t2 : TypeId}
    (hp : tmps.getD p undef = .pointer (some ⟨b, 0, none⟩)) (hb : w.heap[b]? = some (.cells A.toArray t (0, 0)))
    (hq : tmps.getD q undef = .pointer (some ⟨c, 0, none⟩)) (hc : w.heap[c]? = some (.cells (ansC y).toArray t2 (0, 0))) :
    (results fn tmps).run Tryz.prog w = .ok (.tuple #[.agg A.toArray, .agg (ansC y).toArray, tmps.getD u undef]) w := by
  have h1 : (loadVar R.T ⟨b, 0, none⟩).run Tryz.prog w = .ok (.agg A.toArray) w := run_loadVar_mid w b 0 R.T A _ (block_range hb) R.und R.row (by rw [R.size, hA.1])
  have h2 : (loadVar 25 ⟨c, 0, none⟩).run Tryz.prog w = .ok (.agg (ansC y).toArray) w := run_loadVar_row w c t2 25 _ _ _ hc Tryz.underlying25 rfl (by kernel_rfl)
  have hp' : tmps[p]?.getD undef = .pointer (some ⟨b, 0, none⟩) := by simpa using hp
  have hq' : tmps[q]?.getD undef = .pointer (some ⟨c, 0, none⟩) := by simpa using hq
  simp only [results, h]
  simp [Sem.run_bind, Result.andThen, hp', hq', asAddr, h1, h2]
/-- The document's object. -/
def skD : SK := { T := 81, s := 5, d := _, und := Tryz.underlying81, row := rfl, size := by kernel_rfl }
/-- An answer. -/
def skR : SK := { T := 25, s := 2, d := _, und := Tryz.underlying25, row := rfl, size := by kernel_rfl }
theorem ansC_ok (y : Ans) : skR.Ok (ansC y) := ⟨rfl, ansC_one y⟩
def Md.n : Md → Int
  | .rg s => s
  | _ => 0
def Md.hold : Md → Int
  | .lk s => s - 1
  | _ => -1
def Md.list : Md → List Int
  | .qu l => l
  | _ => []
def Md.items : Md → List It → Prop
  | .mp m, t => Rel m t
  | _, t => t = []
/-- Its cells. -/
def mdC (S : Md) (q m : Value) : List Value := [.int .u8 S.model, .int .u16 S.n, q, m, .int .i64 S.hold]
section
variable {ops : Array Oper} {rest : List Oper} {a : Act} {w : World} {Q : Exit → Act → World → Prop}
theorem wpList_loadD {dst : Option Tmp} {ty : TypeId} {pos : String} {after : Array Edge} {gd : Option (Nat × Bool)} {x : Operand} {g off : Nat} {A : List Value} (hA : skD.Ok A)
    (hw : Region.wanted { dst := dst, op := .load 81 x, type := ty, pos := pos, after := after, guard := gd } (yielded ops a.tmps) = true)
    (hx : a.eval x = .pointer (some ⟨g, off, none⟩)) (hr : w.rangeAt g off A) (h : wpList Tryz.prog ops Q rest (a.put dst (.agg A.toArray)) w) :
    wpList Tryz.prog ops Q ({ dst := dst, op := .load 81 x, type := ty, pos := pos, after := after, guard := gd } :: rest) a w := skD.wpList_load hA hw hx hr h
theorem wpList_putD {dst : Option Tmp} {ty : TypeId} {pos : String} {after : Array Edge} {x y : Operand} {g : Nat} {old A : List Value} (hA : skD.Ok A) (hO : skD.Ok old) {t : TypeId}
    (hx : a.eval x = .pointer (some ⟨g, 0, none⟩)) (hy : a.eval y = .agg A.toArray) (hg : w.heap[g]? = some (.cells old.toArray t (0, 0)))
    (h : ∀ W, W.heap[g]? = some (.cells A.toArray t (0, 0)) → Keeps [g] w W → wpList Tryz.prog ops Q rest (a.put dst undef) W) :
    wpList Tryz.prog ops Q ({ dst := dst, op := .store 81 x y, type := ty, pos := pos, after := after, guard := none } :: rest) a w := skD.wpList_put hA hO hx hy hg h
end
/-- Its lists lie there. -/
structure D13 (w : World) (S : Md) (q m : Value) : Prop where
  q : rkU.In w.heap.size w q S.list
  m : ∃ t, rkI.In w.heap.size w m t ∧ S.items t
theorem D13.new {w w' : World} {S : Md} {q m : Value} (h : D13 w S q m) (hk : Keeps [] w w') : D13 w' S q m := by
  obtain ⟨t, h1, h2⟩ := h.m
  exact ⟨(h.q.new hk (Nat.le_refl _)).more hk.size, t, (h1.new hk (Nat.le_refl _)).more hk.size, h2⟩
theorem D13.ok {w : World} {S : Md} {q m : Value} (h : D13 w S q m) : skD.Ok (mdC S q m) := by
  obtain ⟨t, h1, _⟩ := h.m
  obtain ⟨a, c, rfl, -⟩ := h.q
  obtain ⟨b, d, rfl, -⟩ := h1
  refine ⟨rfl, fun v hv => ?_⟩
  simp only [mdC, List.mem_cons, List.not_mem_nil, or_false] at hv
  rcases hv with rfl | rfl | rfl | rfl | rfl <;> rfl
theorem D13.keeps {w w' : World} {S : Md} {q m : Value} {F : List Nat} (h : D13 w S q m) (hk : Keeps F w w') (hq : S.list ≠ [] → ∀ p ∈ own q, p ∉ F) (hm : ∀ t, S.items t → t ≠ [] → ∀ p ∈ own m, p ∉ F) : D13 w' S q m := by
  obtain ⟨t, h1, h2⟩ := h.m
  exact ⟨(h.q.keeps hk hq).more hk.size, t, (h1.keeps hk (hm t h2)).more hk.size, h2⟩
theorem D13.old_q {w : World} {S : Md} {q m : Value} (h : D13 w S q m) (hn : S.list ≠ []) : ∀ p ∈ own q, p < w.heap.size := h.q.old hn
theorem Md.items_two {S : Md} {t u : List It} (h : S.items t) (h2 : S.items u) (hn : t ≠ []) : u ≠ [] := by
  cases S with
  | mp a =>
    intro e
    subst e
    have r1 : Rel a t := h
    have r2 : Rel a [] := h2
    cases t with
    | nil => exact hn rfl
    | cons y r =>
      have hk := r1.keys y (by simp)
      have e1 := r1.look y.k.toNat (by omega)
      have e2 := r2.look y.k.toNat (by omega)
      rw [show ((y.k.toNat : Nat) : Int) = y.k by omega] at e1 e2
      rw [← e2] at e1
      simp [itLook] at e1
  | rg a => exact absurd (show t = [] from h) hn
  | qu a => exact absurd (show t = [] from h) hn
  | lk a => exact absurd (show t = [] from h) hn
theorem D13.old_m {w : World} {S : Md} {q m : Value} (h : D13 w S q m) {t : List It} (ht : S.items t) (hn : t ≠ []) : ∀ p ∈ own m, p < w.heap.size := by
  obtain ⟨u, h1, h2⟩ := h.m
  exact h1.old (Md.items_two ht h2 hn)
/-- The zero object. -/
def mdC0 : List Value := [.int .u8 0, .int .u16 0, .slice none 0 0, .slice none 0 0, .int .i64 0]
theorem mdC0_ok : skD.Ok mdC0 := ⟨rfl, fun v hv => by
  simp only [mdC0, List.mem_cons, List.not_mem_nil, or_false] at hv
  rcases hv with rfl | rfl | rfl | rfl | rfl <;> rfl⟩
theorem nil_in (w : World) {α : Type} (R : RK α) : R.In w.heap.size w (.slice none 0 0) [] := ⟨none, 0, rfl, Nat.le_refl _, by decide, fun h => absurd rfl h⟩
theorem nodup_lt : ∀ (n : Nat) (l : List Int), l.Nodup → (∀ x ∈ l, 0 ≤ x ∧ x < n) → l.length ≤ n
  | 0, l, _, h => by
    cases l with
    | nil => simp
    | cons a r => have := h a (by simp); omega
  | n + 1, l, hd, h => by
    by_cases hm : (n : Int) ∈ l
    · have h1 := nodup_lt n (l.erase (n : Int)) (hd.erase (n : Int)) (fun x hx => by
        have := h x (List.mem_of_mem_erase hx)
        have hne : x ≠ n := (hd.mem_erase_iff.1 hx).1
        omega)
      have := List.length_erase_of_mem hm
      omega
    · have := nodup_lt n l hd (fun x hx => by
        have := h x hx
        have hne : x ≠ n := fun e => hm (e ▸ hx)
        omega)
      omega
theorem Rel.few {m : Kv} {t : List It} (h : Rel m t) : t.length ≤ 8 := by
  have := nodup_lt 8 (t.map (·.k)) h.nodup (fun x hx => by obtain ⟨y, hy, rfl⟩ := List.mem_map.1 hx; exact h.keys y hy)
  simpa using this
theorem rel_kv0 : Rel kv0 [] := rel_items kv0_in
theorem D13.init (w : World) (m : Int) : D13 w (mdInit m) (.slice none 0 0) (.slice none 0 0) := by
  refine ⟨?_, [], nil_in w rkI, ?_⟩
  · have : (mdInit m).list = [] := by
      unfold mdInit
      split
      · rfl
      · split
        · rfl
        · split <;> rfl
    rw [this]
    exact nil_in w rkU
  · unfold mdInit
    split
    · rfl
    · split
      · rfl
      · split
        · exact rel_kv0
        · rfl
end Go.Proofs.YtbnhcggjcdipeaaGreatDoor
/-
  The document's object: New, Encode, Same.
-/
namespace Go.Proofs.YtbnhcggjcdipeaaGreatDoor
open Go.RowKit
theorem mdC_init {m : Int} (h0 : 0 ≤ m) (h1 : m ≤ 3) : mdC (mdInit m) (.slice none 0 0) (.slice none 0 0) = [.int .u8 m, .int .u16 0, .slice none 0 0, .slice none 0 0, .int .i64 (-1)] := by
  rcases (by omega : m = 0 ∨ m = 1 ∨ m = 2 ∨ m = 3) with rfl | rfl | rfl | rfl <;> rfl
set_option maxHeartbeats 8000000
set_option maxRecDepth 100000
theorem r13New_any (w : World) (m : Int) (h0 : 0 ≤ m) (h1 : m < 256) : Calls Tryz.prog 31 #[.int .u8 m] w fun e w' =>
    e = .returned (.tuple #[.agg (if m ≤ 3 then mdC (mdInit m) (.slice none 0 0) (.slice none 0 0) else mdC0).toArray, .int .i64 (if m ≤ 3 then 0 else 10)]) ∧ Keeps [] w w' := by
  have HN := Lib.hid (fun A => heap_alloc_new w (.cells A 81))
  have HK := Lib.hid (fun A => (show Keeps [] w (w.alloc (.cells A 81)) from (Keeps.refl _ _).alloc _))
  by_cases h : m ≤ 3
  · rw [if_pos h, if_pos h, mdC_init h0 h]
    have z : decide (3 < m) = false := decide_eq_false (by omega)
    have HO := Lib.hid (mdC_init h0 h ▸ (D13.init w m).ok)
    clear h0 h1 h
    go_enter Tryz.func31, Tryz.ntmps31
    go_wp2_with fail
    try simp only [Exit.inBlock, Exit.then]
    exact bodyPost_ret (results_sk1 skD rfl _ _ w.heap.size HO.out rfl (HN.out _)) rfl ⟨rfl, HK.out _⟩
  · rw [if_neg h, if_neg h]
    have z : decide (3 < m) = true := decide_eq_true (by omega)
    clear h0 h1 h
    go_enter Tryz.func31, Tryz.ntmps31
    go_wp2_with fail
    try simp only [Exit.inBlock, Exit.then]
    exact bodyPost_ret (results_sk1 skD rfl _ _ w.heap.size mdC0_ok rfl (HN.out _)) rfl ⟨rfl, HK.out _⟩
/-- Two bytes as a text. -/
theorem conv_two (w : World) {g : Nat} (hg : g = w.heap.size) {a b : Int} (ha : 0 ≤ a ∧ a < 256) (hb : 0 ≤ b ∧ b < 256) : (convert 109 9 (.slice (some ⟨g, 0, none⟩) 2 2)).run Tryz.prog (w.alloc (.cells #[.int .u8 a, .int .u8 b] 5)) = .ok (.string (bs [UInt8.ofNat a.toNat, UInt8.ofNat b.toNat])) (w.alloc (.cells #[.int .u8 a, .int .u8 b] 5)) := by
  subst hg
  have e : nb [UInt8.ofNat a.toNat, UInt8.ofNat b.toNat] = [a, b] := by
    simp only [nb, List.map_cons, List.map_nil, UInt8.toNat_ofNat', List.cons.injEq, and_true]
    omega
  rw [← str_nb]
  have := run_convert_bytes_arg (w.alloc (.cells #[.int .u8 a, .int .u8 b] 5)) 109 5 Tryz.underlying109 Tryz.underlying5 w.heap.size 0 2 2 (nb [UInt8.ofNat a.toNat, UInt8.ofNat b.toNat]) (by rw [e]; rfl) (fun i hi => by
    rw [e]
    rcases (by omega : i = 0 ∨ i = 1) with rfl | rfl
    · exact cell_lit (heap_alloc_new w (.cells #[.int .u8 a, .int .u8 b] 5)) 0 rfl
    · exact cell_lit (heap_alloc_new w (.cells #[.int .u8 a, .int .u8 b] 5)) 1 rfl) 9 Tryz.underlying9
  exact this
theorem conv_oneAt (w : World) {g : Nat} (hg : g = w.heap.size) {s : Int} (h0 : 0 ≤ s) (h1 : s < 256) : (convert 109 9 (.slice (some ⟨g, 0, none⟩) 1 1)).run Tryz.prog (w.alloc (.cells #[.int .u8 s] 5)) = .ok (.string (bs (lkB s))) (w.alloc (.cells #[.int .u8 s] 5)) := by
  subst hg
  exact conv_one w h0 h1
theorem r13Encode_any (w : World) {S : Md} (hS : S.In) (hl : S.len ≤ 10000) {q m : Value} (hD : D13 w S q m) : Calls Tryz.prog 38 #[.agg (mdC S q m).toArray] w fun e w' => e = .returned (.string (bs (mdB S))) ∧ Keeps [] w w' := by
  have hk : Keeps [] w (w.alloc (.cells #[.int .u8 S.model, .int .u16 S.n, q, m, .int .i64 S.hold] 81)) := (Keeps.refl _ _).alloc _
  have hn := heap_alloc_new w (.cells #[.int .u8 S.model, .int .u16 S.n, q, m, .int .i64 S.hold] 81)
  have HD := Lib.hid (hD.new hk)
  obtain ⟨aq, cq, rfl, -⟩ := id hD.q
  obtain ⟨t, ht, hti⟩ := id hD.m
  obtain ⟨am, cm, rfl, -⟩ := id ht
  have HK := Lib.hid hk
  have HM := Lib.hid S.model_in
  unfold mdC
  cases S with
  | rg s =>
    have hs : 0 ≤ s ∧ s < 65536 := hS
    have hcv := conv_two (w.alloc (.cells #[.int .u8 0, .int .u16 s, .slice aq (0 : Nat) cq, .slice am t.length cm, .int .i64 (-1)] 81)) (g := w.heap.size + 1) (Array.size_push _).symm (a := s / 256) (b := s % 256) (by omega) (by omega)
    have e1 : s.tdiv 256 = s / 256 := Int.tdiv_eq_ediv_of_nonneg (by omega)
    have e2 : s.tmod 256 = s % 256 := Int.tmod_eq_emod_of_nonneg (by omega)
    have e3 : IntKind.u16.wrap (s / 256) = s / 256 := by simp [IntKind.wrap, IntKind.signed, IntKind.bits]; omega
    have e4 : IntKind.u16.wrap (s % 256) = s % 256 := by simp [IntKind.wrap, IntKind.signed, IntKind.bits]; try omega
    have e5 : IntKind.u8.wrap (s / 256) = s / 256 := by simp [IntKind.wrap, IntKind.signed, IntKind.bits]; omega
    have e6 : IntKind.u8.wrap (s % 256) = s % 256 := by simp [IntKind.wrap, IntKind.signed, IntKind.bits]; try omega
    have HK2 := Lib.hid (HK.out.alloc (.cells #[.int .u8 (s / 256), .int .u8 (s % 256)] 5))
    clear hn hk hD hS hs
    simp only [Md.model, Md.n, Md.hold, Md.list, List.length_nil] at *
    go_enter Tryz.func38, Tryz.ntmps38
    go_wp2_with fail
    go_ret
    exact ⟨rfl, HK2.out⟩
  | qu l =>
    have hu : U16s l := hS
    have HE := Lib.hid (r10Encode_any _ HD.out.q hl hu)
    clear hn hk hD hS hu
    simp only [Md.model, Md.n, Md.hold, Md.list] at *
    go_enter Tryz.func38, Tryz.ntmps38
    go_wp2_with fail
    refine HE.out.mono ?_; rintro e w1 ⟨rfl, hk1⟩
    have HK1 := Lib.hid (HK.out.trans hk1 (FSub.refl _ _))
    clear hk1
    go_wp2_with fail
    go_ret
    exact ⟨rfl, HK1.out⟩
  | mp m =>
    have hm : KvIn m := hS
    have HE := Lib.hid (r11Encode_any _ (show Rel m t from hti) ((ht.new hk (Nat.le_refl _)).more hk.size) (by have := (show Rel m t from hti).few; omega))
    rw [kvBy_str hm] at HE
    clear hn hk hD hS hm
    simp only [Md.model, Md.n, Md.hold, Md.list, List.length_nil] at *
    go_enter Tryz.func38, Tryz.ntmps38
    go_wp2_with fail
    refine HE.out.mono ?_; rintro e w1 ⟨rfl, hk1⟩
    have HK1 := Lib.hid (HK.out.trans hk1 (FSub.refl _ _))
    clear hk1
    go_wp2_with fail
    go_ret
    exact ⟨rfl, HK1.out⟩
  | lk s =>
    have hs : 0 ≤ s ∧ s ≤ 16 := hS
    have hcv := conv_oneAt (w.alloc (.cells #[.int .u8 3, .int .u16 0, .slice aq (0 : Nat) cq, .slice am t.length cm, .int .i64 (s - 1)] 81)) (g := w.heap.size + 1) (Array.size_push _).symm (s := s) (by omega) (by omega)
    have e1 : s - 1 + 1 = s := by omega
    have e3 : IntKind.i64.wrap s = s := by simp [IntKind.wrap, IntKind.signed, IntKind.bits]; omega
    have e5 : IntKind.u8.wrap s = s := by simp [IntKind.wrap, IntKind.signed, IntKind.bits]; omega
    have HK2 := Lib.hid (HK.out.alloc (.cells #[.int .u8 s] 5))
    clear hn hk hD hS hs
    simp only [Md.model, Md.n, Md.hold, Md.list, List.length_nil] at *
    go_enter Tryz.func38, Tryz.ntmps38
    go_wp2_with fail
    go_ret
    exact ⟨rfl, HK2.out⟩
end Go.Proofs.YtbnhcggjcdipeaaGreatDoor
/-
  The document's object: Same.
-/
namespace Go.Proofs.YtbnhcggjcdipeaaGreatDoor
open Go.RowKit
set_option maxHeartbeats 8000000
set_option maxRecDepth 100000
theorem bs_beq (l m : List UInt8) : ((bs l).toList == (bs m).toList) = decide (l = m) := by
  rw [toL_bs, toL_bs]
  by_cases h : l = m
  · subst h; simp
  · rw [decide_eq_false h]
    simpa using h
theorem two_blocks (w : World) (A B : Array Value) (t u : TypeId) : ((w.alloc (.cells A t)).alloc (.cells B u)).heap.size = w.heap.size + 2 := by
  rw [show ((w.alloc (.cells A t)).alloc (.cells B u)).heap.size = (w.alloc (.cells A t)).heap.size + 1 from Array.size_push _, show (w.alloc (.cells A t)).heap.size = w.heap.size + 1 from Array.size_push _]
theorem r13Same_any (w : World) {S T : Md} (hS : S.In) (hl : S.len ≤ 10000) (hT : T.In) (hlt : T.len ≤ 10000) {q m q2 m2 : Value} (hD : D13 w S q m) (hE : D13 w T q2 m2) :
    Calls Tryz.prog 66 #[.agg (mdC S q m).toArray, .agg (mdC T q2 m2).toArray] w fun e w' => e = .returned (.bool (decide (S.model = T.model ∧ mdB S = mdB T))) ∧ Keeps [] w w' := by
  obtain ⟨-, h0, h1, hk⟩ := two_vars w (mdC S q m).toArray (mdC T q2 m2).toArray 81 81
  have HK := Lib.hid hk; have H0 := Lib.hid h0; have H1 := Lib.hid h1
  have HD := Lib.hid (hD.new hk); have HE := Lib.hid (hE.new hk)
  obtain ⟨R, hR⟩ : ∃ R, R = w.heap.size := ⟨_, rfl⟩
  have HRR := Lib.hid hR
  rw [← hR] at H0 H1
  have HES := Lib.hid (fun w' (h : Keeps [] ((w.alloc (.cells (mdC S q m).toArray 81)).alloc (.cells (mdC T q2 m2).toArray 81)) w') => r13Encode_any w' hS hl (HD.out.new h))
  have HET := Lib.hid (fun w' (h : Keeps [] ((w.alloc (.cells (mdC S q m).toArray 81)).alloc (.cells (mdC T q2 m2).toArray 81)) w') => r13Encode_any w' hT hlt (HE.out.new h))
  have HQ := Lib.hid hD.ok; have HQ2 := Lib.hid hE.ok
  have tb := bs_beq (mdB S) (mdB T)
  obtain ⟨D, hDD⟩ : ∃ D, D = decide (S.model = T.model ∧ mdB S = mdB T) := ⟨_, rfl⟩
  rw [← hDD]
  have HDD := Lib.hid hDD
  clear hDD
  clear hk h0 h1 hD hE hR hS hT hl hlt
  go_enter Tryz.func66, Tryz.ntmps66
  go_wp2_with fail
  rw [← HRR.out]
  generalize (w.alloc (.cells (mdC S q m).toArray 81)).alloc (.cells (mdC T q2 m2).toArray 81) = W at *
  obtain ⟨S0, hS⟩ : ∃ S0 : World → Prop, S0 = fun y => Keeps [] W y := ⟨_, rfl⟩
  have HSE := Lib.hid hS
  have hSD : S0 W.drew := by rw [hS]; exact (Keeps.refl _ _).drew
  have HS0 := Lib.hid (fun (w' : World) (hh : S0 w') => show w'.rangeAt R 0 (mdC S q m) from by rw [hS] at hh; exact fun j v hv => hh.cell (block_range H0.out j v hv) (by simp))
  have HS1 := Lib.hid (fun (w' : World) (hh : S0 w') => show w'.rangeAt (R + 1) 0 (mdC T q2 m2) from by rw [hS] at hh; exact fun j v hv => hh.cell (block_range H1.out j v hv) (by simp))
  have HC0 := Lib.hid (fun (w' : World) (hh : S0 w') => show w'.cell? ⟨R, 0, none⟩ = some (.int .u8 S.model) from HS0.out w' hh 0 _ rfl)
  have HC1 := Lib.hid (fun (w' : World) (hh : S0 w') => show w'.cell? ⟨R + 1, 0, none⟩ = some (.int .u8 T.model) from HS1.out w' hh 0 _ rfl)
  clear hS
  by_cases hm : S.model = T.model
  · have tm : (S.model == T.model) = true := by simpa using hm
    obtain rfl : D = decide (mdB S = mdB T) := by rw [HDD.out]; simp [hm]
    clear hm
    generalize S.model = sm at *
    generalize T.model = tmo at *
    refine wp_region_noPanic ?_
    refine wp_region_held_drew (S := S0) (by kernel_rfl) hSD (fun hHeld => ?_)
    refine tw 0 (h := ?_)
    refine tk 1 (y := by exact Or.inl ⟨by rfl, by intro w hSw; have q0 := HC0.out w hSw; go_simp; try with_reducible rfl⟩) (h := ?_)
    refine tw 2 (h := ?_)
    refine tk 3 (y := by exact Or.inl ⟨by rfl, by intro w hSw; have q0 := HC1.out w hSw; go_simp; try with_reducible rfl⟩) (h := ?_)
    refine tw 4 (h := ?_)
    refine tw 5 (h := ?_)
    refine tk 6 (y := by exact skD.yields HQ.out rfl _ rfl R 0 rfl HS0.out) (h := ?_)
    refine tk 8 (y := by exact skD.yields HQ2.out rfl _ rfl (R + 1) 0 rfl HS1.out) (h := ?_)
    refine rp 7 (h := fun K hK => ?_)
    refine wp_call9 38 _ _ rfl [.agg (mdC S q m).toArray] rfl Tryz.func38 (by kernel_rfl) (by kernel_rfl) ((HES.out _ ((Keeps.refl [] W).drew)).mono ?_)
    rintro e y1 ⟨rfl, hk1⟩
    refine ⟨_, rfl, ?_⟩
    have HY1 := Lib.hid (((Keeps.refl [] W).drew).trans hk1 (FSub.refl _ _))
    clear hk1
    refine hK.out _ _ (by rw [HSE.out]; exact HY1.out) (fun hHeld => ?_); clear hK K; try simp only [Act.put, lsA, lsZ, lsS]
    refine rp 9 (h := fun K hK => ?_)
    refine wp_call9 38 _ _ rfl [.agg (mdC T q2 m2).toArray] rfl Tryz.func38 (by kernel_rfl) (by kernel_rfl) ((HET.out _ HY1.out).mono ?_)
    rintro e y2 ⟨rfl, hk2⟩
    refine ⟨_, rfl, ?_⟩
    have HY2 := Lib.hid (HY1.out.trans hk2 (FSub.refl _ _))
    clear hk2
    refine hK.out _ _ (by rw [HSE.out]; exact HY2.out) (fun hHeld => ?_); clear hK K; try simp only [Act.put, lsA, lsZ, lsS]
    refine tw 10 (h := ?_)
    refine tw 11 (h := ?_)
    refine tw 12 (h := ?_)
    refine wpAnyH_done (by kernel_rfl) ?_ _
    refine NoPanic.normal ?_
    go_wp2_with fail
    go_ret
    exact ⟨by first | rfl | simp [tb], HK.out.trans HY2.out (FSub.refl _ _)⟩
  · have tm : (S.model == T.model) = false := by simpa using hm
    obtain rfl : D = false := by rw [HDD.out]; exact decide_eq_false (fun h => hm h.1)
    clear hm
    generalize S.model = sm at *
    generalize T.model = tmo at *
    refine wp_region_noPanic ?_
    refine wp_region_held_drew (S := S0) (by kernel_rfl) hSD (fun hHeld => ?_)
    refine tw 0 (h := ?_)
    refine tk 1 (y := by exact Or.inl ⟨by rfl, by intro w hSw; have q0 := HC0.out w hSw; go_simp; try with_reducible rfl⟩) (h := ?_)
    refine tw 2 (h := ?_)
    refine tk 3 (y := by exact Or.inl ⟨by rfl, by intro w hSw; have q0 := HC1.out w hSw; go_simp; try with_reducible rfl⟩) (h := ?_)
    refine tw 4 (h := ?_)
    refine tw 5 (h := ?_)
    refine tk 6 (y := by exact Or.inr ⟨by rfl, rfl⟩) (h := ?_)
    refine tk 7 (y := by exact Or.inr ⟨by rfl, rfl⟩) (h := ?_)
    refine tk 8 (y := by exact Or.inr ⟨by rfl, rfl⟩) (h := ?_)
    refine tk 9 (y := by exact Or.inr ⟨by rfl, rfl⟩) (h := ?_)
    refine tk 10 (y := by exact Or.inr ⟨by rfl, rfl⟩) (h := ?_)
    refine tw 11 (h := ?_)
    refine tw 12 (h := ?_)
    refine wpAnyH_done (by kernel_rfl) ?_ _
    refine NoPanic.normal ?_
    go_wp2_with fail
    go_ret
    exact ⟨rfl, HK.out.drew⟩
end Go.Proofs.YtbnhcggjcdipeaaGreatDoor
/-
  The document's object: Step.
-/
namespace Go.Proofs.YtbnhcggjcdipeaaGreatDoor
open Go.RowKit
theorem four_vars (w : World) (A B C D : Array Value) (t u v x : TypeId) {W : World} (hW : W = (((w.alloc (.cells A t)).alloc (.cells B u)).alloc (.cells C v)).alloc (.cells D x)) :
    W.heap[w.heap.size]? = some (.cells A t (0, 0)) ∧ W.heap[w.heap.size + 1]? = some (.cells B u (0, 0)) ∧ W.heap[w.heap.size + 1 + 1]? = some (.cells C v (0, 0)) ∧ W.heap[w.heap.size + 1 + 1 + 1]? = some (.cells D x (0, 0)) ∧ W.heap.size = w.heap.size + 4 ∧ Keeps [] w W := by
  subst hW
  obtain ⟨_, a1, a2, a3⟩ := two_vars w A B t u
  have e2 := two_blocks w A B t u
  obtain ⟨_, b1, b2, b3⟩ := two_vars ((w.alloc (.cells A t)).alloc (.cells B u)) C D v x
  have e4 := two_blocks ((w.alloc (.cells A t)).alloc (.cells B u)) C D v x
  rw [e2] at b1 b2 e4
  exact ⟨b3.heap a1 (by simp), b3.heap a2 (by simp), b1, b2, e4, a3.trans b3 (FSub.refl _ _)⟩
set_option maxHeartbeats 8000000
set_option maxRecDepth 100000
/-- What the document's Step tells. -/
def Post13 (w : World) (S : Md) (q m : Value) (X : Md × Ans × Int) (e : Ending) (w' : World) : Prop :=
  ∃ q' m', e = .returned (.tuple #[.agg (mdC X.1 q' m').toArray, .agg (ansC X.2.1).toArray, .int .i64 X.2.2]) ∧ D13 w' X.1 q' m' ∧ Keeps [] w w' ∧
    (X.1.list ≠ [] → ∀ p ∈ own q', (S.list ≠ [] ∧ p ∈ own q) ∨ w.heap.size ≤ p) ∧ (∀ t, X.1.items t → t ≠ [] → ∀ p ∈ own m', ((∃ u, S.items u ∧ u ≠ []) ∧ p ∈ own m) ∨ w.heap.size ≤ p)
theorem r13Step_any (w : World) {S : Md} (hS : S.In) (hl : S.len ≤ 10000) {q m : Value} (hD : D13 w S q m) {c : Int} (hc : 0 ≤ c ∧ c < 256) (x : Opn) (hx : x.In) :
    Calls Tryz.prog 34 #[.agg (mdC S q m).toArray, .int .u8 c, x.val] w (Post13 w S q m (mdX S c x)) := by
  obtain ⟨h0, h1, h2, h3, hz, hk⟩ := four_vars w (mdC S q m).toArray #[.int .u8 x.f, .int .u8 x.o, .int .u8 x.k, .int .u16 x.a, .int .u16 x.b] #[.int .u8 0, .int .u16 0, .slice none 0 0, .slice none 0 0, .int .i64 0] #[.int .u8 0, .int .u16 0] 81 47 81 25 rfl
  have H0 := Lib.hid h0; have H1 := Lib.hid h1
  have H2 := Lib.hid (h2.trans (show some (Obj.cells _ _ _) = some (Obj.cells mdC0.toArray 81 (0, 0)) from rfl))
  have H3 := Lib.hid (h3.trans (show some (Obj.cells _ _ _) = some (Obj.cells (ansC ⟨0, 0⟩).toArray 25 (0, 0)) from rfl))
  have HK := Lib.hid hk; have HZ := Lib.hid hz
  have HD := Lib.hid (hD.new hk); have HQ := Lib.hid hD.ok
  have HDR := Lib.hid (block_range h0)
  have HOQ0 := Lib.hid (fun hn => hD.old_q hn)
  have HOM0 := Lib.hid (fun t ht hn => hD.old_m (t := t) ht hn)
  have c0 := (cell_lit h0 0 rfl : World.cell? _ _ = some (Value.int .u8 S.model))
  have HC := Lib.hid (fun w => r4Check_any w S.model x.f x.o x.k x.a x.b S.model_in.1 (by have := S.model_in.2; omega) hx)
  clear h0 h1 h2 h3 hz hk hD
  unfold Opn.val
  by_cases hc15 : 15 < c
  · have e : mdX S c x = (S, ⟨0, 0⟩, 2) := by unfold mdX; rw [if_pos hc15]
    rw [e]
    have z : decide (15 < c) = true := decide_eq_true hc15
    have HKB := HK; have HDB := HD
    have HRL := Lib.hid (show w.heap.size ≤ w.heap.size from Nat.le_refl _)
    clear e
    go_enter Tryz.func34, Tryz.ntmps34
    go_wp2_with (first
      | ((with_reducible refine wpList_loadD (g := w.heap.size) (off := 0) HQ.out ?_ ?_ HDR.out ?_); exact rfl; exact rfl)
      | ((with_reducible refine wpList_putD (g := w.heap.size + 1 + 1) (old := mdC0) (A := mdC S q m) HQ.out mdC0_ok ?_ ?_ H2.out ?_); exact rfl; exact rfl))
    intro W1 hW1 hk1
    have HS1 := Lib.hid hW1; have HB3 := Lib.hid (hk1.heap H3.out (by simp)); have HK1 := Lib.hid hk1
    clear hW1 hk1
    go_wp2_with ((with_reducible refine wpList_putR12 (g := w.heap.size + 1 + 1 + 1) (old := ⟨0, 0⟩) ⟨0, 0⟩ ?_ ?_ HB3.out ?_); exact rfl; exact rfl)
    intro W2 hW2 hk2
    have HW2 := Lib.hid hW2
    have HS2 := Lib.hid (hk2.heap HS1.out (by simp))
    have HK2 := Lib.hid ((HK1.out.more (G := [w.heap.size + 1 + 1, w.heap.size + 1 + 1 + 1]) (by simp)).step hk2 (by simp))
    clear hW2 hk2
    go_wp2_with fail
    try simp only [Exit.inBlock, Exit.then]
    exact bodyPost_ret (results_sk3 skD rfl _ _ (w.heap.size + 1 + 1) (w.heap.size + 1 + 1 + 1) HQ.out ⟨0, 0⟩ rfl HS2.out rfl HW2.out) rfl ⟨q, m, rfl, D13.keeps HDB.out HK2.out (fun hn p hp => by have := HOQ0.out hn p hp; simp; omega) (fun t ht hn p hp => by have := HOM0.out t ht hn p hp; simp; omega), HKB.out.trans HK2.out (fun q hq => .inr (by have := HRL.out; simp at hq; omega)), fun hn p hp => .inl ⟨hn, hp⟩, fun t ht hn p hp => .inl ⟨⟨t, ht, hn⟩, hp⟩⟩
  · have z : decide (15 < c) = false := decide_eq_false hc15
    rcases opChk_or S.model x with hq | hq
    · rw [hq] at HC
      have e : mdX S c x = ((mdY S c x).1, (mdY S c x).2, 0) := by unfold mdX; rw [if_neg hc15, if_pos hq]
      rw [e]
      have hf := chk_f hq
      have hle := mdY_err hS (show c ≤ 15 by omega) hq
      clear e
      have HF := Lib.hid hf; have HLE := Lib.hid hle; have HSS := Lib.hid hS; have HLL := Lib.hid hl; have HXI := Lib.hid hx; have HCI := Lib.hid hc
      clear hf hle hq hS hl hx hc
      go_enter Tryz.func34, Tryz.ntmps34
      go_wp2_with fail
      refine (HC.out _).mono ?_; rintro e w1 ⟨rfl, hk1⟩
      have HK1 := Lib.hid hk1
      have hxr : w1.rangeAt (w.heap.size + 1) 0 (opC x) := fun j v hv => by rw [Nat.zero_add]; exact hk1.cell (cell_lit H1.out j (by simpa [opC] using hv)) (by simp)
      have hdr : w1.rangeAt w.heap.size 0 (mdC S q m) := fun j v hv => hk1.cell (HDR.out j v hv) (by simp)
      have HXR := Lib.hid hxr
      have HDW := Lib.hid (HD.out.new hk1)
      have H2w := Lib.hid (hk1.heap H2.out (by simp)); have H3w := Lib.hid (hk1.heap H3.out (by simp))
      have HKB := Lib.hid (HK.out.trans hk1 (FSub.refl _ _))
      have HZ1 := Lib.hid (show w.heap.size + 4 ≤ w1.heap.size from by have := HZ.out; have := hk1.size; omega)
      have HDR1 := Lib.hid hdr
      clear hk1 hxr hdr HK1 HK HDR HD H1 H0 HZ H2 H3 c0 HC
      have HDR := HDR1; have H2 := H2w; have H3 := H3w; have HDB := HDW
      clear HDR1 H2w H3w HDW
      obtain ⟨R, hR⟩ : ∃ R, R = w.heap.size := ⟨_, rfl⟩
      have HRL := Lib.hid (show w.heap.size ≤ R from Nat.le_of_eq hR.symm)
      rw [← hR] at HDR H2 H3 HXR HZ1 HOQ0 HOM0 ⊢
      clear hR
      cases S with
      | rg s =>
        have hle := HLE.out
        have HST := Lib.hid (fun w => r9Step_any w s x)
        replace hle : (rgX s x).2.2 = 0 := hle
        rw [hle] at HST
        clear hle HLE HF
        simp only [Md.model] at *
        have HGS := Lib.hid (show (w1.alloc (.cells #[.int .u8 0, .int .u16 0, .slice none 0 0, .slice none 0 0, .int .i64 0] 81)).heap[w1.heap.size]? = some (.cells mdC0.toArray 81 (0, 0)) from heap_alloc_new w1 _)
        have HKS := Lib.hid (show Keeps [] w1 (w1.alloc (.cells #[.int .u8 0, .int .u16 0, .slice none 0 0, .slice none 0 0, .int .i64 0] 81)) from (Keeps.refl _ _).alloc _)
        go_wp2_with (first
          | ((with_reducible refine wpList_loadD (g := R) (off := 0) HQ.out ?_ ?_ HDR.out ?_); exact rfl; exact rfl)
          | ((with_reducible refine wpList_putD (g := w1.heap.size) (old := mdC0) (A := mdC (.rg s) q m) HQ.out mdC0_ok ?_ ?_ HGS.out ?_); exact rfl; exact rfl))
        intro w2 hW2 hk2
        have hk12 := HKS.out.trans' hk2 (Nat.le_refl _)
        have HG2 := Lib.hid hW2
        have HD2 := Lib.hid (fun j v hv => hk12.cell (HDR.out j v hv) (by simp))
        have HX2 := Lib.hid (fun j v hv => hk12.cell (HXR.out j v hv) (by simp))
        have H22 := Lib.hid (hk12.heap H2.out (by simp)); have H32 := Lib.hid (hk12.heap H3.out (by simp))
        have HK2 := Lib.hid (HKB.out.trans hk12 (FSub.refl _ _))
        have HDB2 := Lib.hid (HDB.out.new hk12); have HK12 := Lib.hid hk12
        obtain ⟨gs, hgs⟩ : ∃ gs, gs = w1.heap.size := ⟨_, rfl⟩
        have HSG := Lib.hid (show R + 4 ≤ gs ∧ gs < w2.heap.size from ⟨by have := HZ1.out; omega, by have := lt_of_block hW2; omega⟩)
        rw [← hgs] at HG2 ⊢
        clear hW2 hk2 hk12 HGS HKS HDR HXR H2 H3 HKB HDB HZ1 hgs
        have HRS := Lib.hid (show (w2.alloc (.cells #[.int .u8 0, .int .u16 0] 25)).heap[w2.heap.size]? = some (.cells (ansC ⟨0, 0⟩).toArray 25 (0, 0)) from heap_alloc_new w2 _)
        have HKR := Lib.hid (show Keeps [] w2 (w2.alloc (.cells #[.int .u8 0, .int .u16 0] 25)) from (Keeps.refl _ _).alloc _)
        go_wp2_with ((with_reducible refine wpList_putR12 (g := w2.heap.size) (old := ⟨0, 0⟩) ⟨0, 0⟩ ?_ ?_ HRS.out ?_); exact rfl; exact rfl)
        intro w3 hW3 hk3
        have hk23 := HKR.out.trans' hk3 (Nat.le_refl _)
        have HR3 := Lib.hid hW3
        have HG3 := Lib.hid (hk23.heap HG2.out (by simp))
        have HD3 := Lib.hid (show w3.rangeAt R 0 (mdC (.rg s) q m) from fun j v hv => hk23.cell (HD2.out j v hv) (by simp))
        have HX3 := Lib.hid (show w3.rangeAt (R + 1) 0 (opC x) from fun j v hv => hk23.cell (HX2.out j v hv) (by simp))
        have H23 := Lib.hid (hk23.heap H22.out (by simp)); have H33 := Lib.hid (hk23.heap H32.out (by simp))
        have HK3 := Lib.hid (HK2.out.trans hk23 (FSub.refl _ _))
        have HDB3 := Lib.hid (HDB2.out.new hk23); have HK13 := Lib.hid (HK12.out.trans hk23 (FSub.refl _ _))
        obtain ⟨gr, hgr⟩ : ∃ gr, gr = w2.heap.size := ⟨_, rfl⟩
        have HSR := Lib.hid (show gs < gr ∧ gr < w3.heap.size from ⟨by have := HSG.out; omega, by have := lt_of_block hW3; omega⟩)
        rw [← hgr] at HR3 ⊢
        clear hW3 hk3 hk23 HRS HKR HG2 HD2 HX2 H22 H32 HK2 HDB2 hgr
        have c0 : w3.cell? ⟨R, 0, none⟩ = some (.int .u8 0) := HD3.out 0 _ rfl
        have c1 : w3.cell? ⟨R, 1, none⟩ = some (.int .u16 s) := HD3.out 1 _ rfl
        go_wp2_with ((with_reducible refine wpList_loadP (g := R + 1) (off := 0) x ?_ ?_ HX3.out ?_); exact rfl; exact rfl)
        refine (HST.out w3).mono ?_; rintro e w4 ⟨rfl, hk4⟩
        have HG4 := Lib.hid (hk4.heap HG3.out (by simp)); have HR4 := Lib.hid (hk4.heap HR3.out (by simp))
        have H24 := Lib.hid (hk4.heap H23.out (by simp)); have H34 := Lib.hid (hk4.heap H33.out (by simp))
        have HK4 := Lib.hid (HK3.out.trans hk4 (FSub.refl _ _))
        have HDB4 := Lib.hid (HDB3.out.new hk4)
        clear hk4 HG3 HR3 H23 H33 HK3 HDB3 HD3 HX3 c0
        have HDN := Lib.hid (show D13 w4 (.rg (rgX s x).1) q m from ⟨HDB4.out.q, HDB4.out.m⟩)
        have HOQ := Lib.hid (show (Md.rg (rgX s x).1).list ≠ [] → ∀ p ∈ own q, p < R ∨ gr < p from fun h => absurd rfl h)
        have HOM := Lib.hid (show ∀ t, (Md.rg (rgX s x).1).items t → t ≠ [] → ∀ p ∈ own m, p < R ∨ gr < p from fun t ht hn => absurd ht hn)
        have HPQ := Lib.hid (show (Md.rg (rgX s x).1).list ≠ [] → ∀ p ∈ own q, ((Md.rg s).list ≠ [] ∧ p ∈ own q) ∨ w.heap.size ≤ p from fun h => absurd rfl h)
        have HPM := Lib.hid (show ∀ t, (Md.rg (rgX s x).1).items t → t ≠ [] → ∀ p ∈ own m, ((∃ u, (Md.rg s).items u ∧ u ≠ []) ∧ p ∈ own m) ∨ w.heap.size ≤ p from fun t ht hn => absurd ht hn)
        go_wp2_with ((with_reducible refine wpList_put1 (g := gs) (j := 1) (v := .int .u16 (rgX s x).1) (A := mdC (.rg s) q m) ?_ ?_ ?_ HG4.out ?_ ?_ ?_); exact (by kernel_rfl); exact rfl; exact rfl; exact (show (1 : Nat) < 5 by decide); exact rfl)
        intro W5 hW5 hk5
        have HG5 := Lib.hid (show W5.heap[gs]? = some (.cells (mdC (.rg (rgX s x).1) (q) (m)).toArray 81 (0, 0)) from hW5)
        have HR5 := Lib.hid (hk5.heap HR4.out (by have := HSR.out; simp; omega))
        have H25 := Lib.hid (hk5.heap H24.out (by have := HSG.out; simp; omega)); have H35 := Lib.hid (hk5.heap H34.out (by have := HSG.out; simp; omega))
        have HK5 := Lib.hid (HK4.out.trans hk5 (fun q hq => .inr (by have := HSG.out; have := HRL.out; simp at hq; omega)))
        have HD5 := Lib.hid (D13.keeps HDN.out hk5 (fun hn p hp => by have := HOQ.out hn p hp; have := HSG.out; have := HSR.out; simp; omega) (fun t ht hn p hp => by have := HOM.out t ht hn p hp; have := HSG.out; have := HSR.out; simp; omega))
        clear hW5 hk5 HG4 HR4 H24 H34 HK4 HDB4 HDN
        go_wp2_with ((with_reducible refine wpList_putR12 (g := gr) (old := ⟨0, 0⟩) ((rgX s x).2.1) ?_ ?_ HR5.out ?_); exact rfl; exact rfl)
        intro WT hW6 hk6
        have HBR := Lib.hid hW6
        have HBS := Lib.hid (hk6.heap HG5.out (by have := HSR.out; simp; omega))
        have HB2 := Lib.hid (hk6.heap H25.out (by have := HSG.out; have := HSR.out; simp; omega)); have HB3 := Lib.hid (hk6.heap H35.out (by have := HSG.out; have := HSR.out; simp; omega))
        have HKT := Lib.hid (HK5.out.trans hk6 (fun q hq => .inr (by have := HSG.out; have := HSR.out; have := HRL.out; simp at hq; omega)))
        have HDT := Lib.hid (D13.keeps HD5.out hk6 (fun hn p hp => by have := HOQ.out hn p hp; have := HSG.out; have := HSR.out; simp; omega) (fun t ht hn p hp => by have := HOM.out t ht hn p hp; have := HSG.out; have := HSR.out; simp; omega))
        have HQ1 := Lib.hid (HDT.out.ok)
        clear hW6 hk6 HG5 HR5 H25 H35 HK5 HD5
        go_wp2_with fail
        obtain ⟨S0, hS0⟩ : ∃ S0 : World → Prop, S0 = fun y => Keeps [R + 1 + 1, R + 1 + 1 + 1] WT y := ⟨_, rfl⟩
        have HSE := Lib.hid hS0
        have hSD : S0 WT.drew := by rw [hS0]; exact (Keeps.refl _ _).drew
        have HS0 := Lib.hid (fun (w' : World) (hh : S0 w') => show w'.rangeAt gs 0 (mdC (.rg (rgX s x).1) (q) (m)) from by rw [hS0] at hh; exact fun j v hv => hh.cell (block_range HBS.out j v hv) (by have := HSG.out; simp; omega))
        have HS1 := Lib.hid (fun (w' : World) (hh : S0 w') => show w'.rangeAt gr 0 (ansC ((rgX s x).2.1)) from by rw [hS0] at hh; exact fun j v hv => hh.cell (block_range HBR.out j v hv) (by have := HSG.out; have := HSR.out; simp; omega))
        clear hS0
        refine wp_region_noPanic ?_
        refine wp_region_held_drew (S := S0) (by kernel_rfl) hSD (fun hHeld => ?_)
        refine tk 0 (y := by exact skD.yields HQ1.out rfl _ rfl gs 0 rfl HS0.out) (h := ?_)
        refine tk 1 (y := by exact skR.yields (ansC_ok ((rgX s x).2.1)) rfl _ rfl gr 0 rfl HS1.out) (h := ?_)
        refine tw 2 (h := ?_)
        refine rp 3 (h := fun K hK => ?_)
        refine skD.wp_put rfl (g := R + 1 + 1) (old := mdC0) (A := mdC (.rg (rgX s x).1) (q) (m)) HQ1.out mdC0_ok rfl rfl (((Keeps.refl [] WT).drew).heap HB2.out (by simp)) (fun V6 hV6 hj6 => ?_)
        have HV6 := Lib.hid hV6
        have HJ6 := Lib.hid ((((Keeps.refl [] WT).drew).more (G := [R + 1 + 1, R + 1 + 1 + 1]) (by simp)).step hj6 (by simp))
        have HB36 := Lib.hid (hj6.heap (((Keeps.refl [] WT).drew).heap HB3.out (by simp)) (by simp))
        clear hV6 hj6
        refine hK.out _ _ (by rw [HSE.out]; exact HJ6.out) (fun hHeld => ?_); clear hK K; try simp only [Act.put, lsA, lsZ, lsS]
        refine rp 4 (h := fun K hK => ?_)
        refine wp_putN rfl (g := R + 1 + 1 + 1) (old := ⟨0, 0⟩) ((rgX s x).2.1) rfl rfl HB36.out (fun V7 hV7 hj7 => ?_)
        have HV7 := Lib.hid hV7
        have HS7 := Lib.hid (hj7.heap HV6.out (by simp))
        have HJ7 := Lib.hid (HJ6.out.step hj7 (by simp))
        clear hV7 hj7
        refine hK.out _ _ (by rw [HSE.out]; exact HJ7.out) (fun hHeld => ?_); clear hK K; try simp only [Act.put, lsA, lsZ, lsS]
        refine tw 5 (h := ?_)
        refine wpAnyH_done (by kernel_rfl) ?_ _
        refine NoPanic.normal ?_
        go_wp2_with fail
        try simp only [Exit.inBlock, Exit.then]
        refine bodyPost_ret (results_sk3 skD rfl _ _ (R + 1 + 1) (R + 1 + 1 + 1) HQ1.out ((rgX s x).2.1) rfl HS7.out rfl HV7.out) rfl ⟨q, m, rfl, ?_, HKT.out.trans HJ7.out (fun q hq => .inr (by have := HRL.out; simp at hq; omega)), HPQ.out, HPM.out⟩
        exact D13.keeps HDT.out HJ7.out (fun hn p hp => by have := HOQ.out hn p hp; have := HSG.out; have := HSR.out; simp; omega) (fun t ht hn p hp => by have := HOM.out t ht hn p hp; have := HSG.out; have := HSR.out; simp; omega)
      | qu l =>
        have hle := HLE.out
        have hll : l.length ≤ 10000 := HLL.out
        have HST := Lib.hid (fun w (v : Value) (h : rkU.In w.heap.size w v l) => r10Step_any w h (by omega) x HXI.out)
        replace hle : (quX l x).2.2 = 0 := hle
        unfold Post10 at HST
        rw [hle] at HST
        clear hle HLE HF hll
        simp only [Md.model] at *
        have HGS := Lib.hid (show (w1.alloc (.cells #[.int .u8 0, .int .u16 0, .slice none 0 0, .slice none 0 0, .int .i64 0] 81)).heap[w1.heap.size]? = some (.cells mdC0.toArray 81 (0, 0)) from heap_alloc_new w1 _)
        have HKS := Lib.hid (show Keeps [] w1 (w1.alloc (.cells #[.int .u8 0, .int .u16 0, .slice none 0 0, .slice none 0 0, .int .i64 0] 81)) from (Keeps.refl _ _).alloc _)
        go_wp2_with (first
          | ((with_reducible refine wpList_loadD (g := R) (off := 0) HQ.out ?_ ?_ HDR.out ?_); exact rfl; exact rfl)
          | ((with_reducible refine wpList_putD (g := w1.heap.size) (old := mdC0) (A := mdC (.qu l) q m) HQ.out mdC0_ok ?_ ?_ HGS.out ?_); exact rfl; exact rfl))
        intro w2 hW2 hk2
        have hk12 := HKS.out.trans' hk2 (Nat.le_refl _)
        have HG2 := Lib.hid hW2
        have HD2 := Lib.hid (fun j v hv => hk12.cell (HDR.out j v hv) (by simp))
        have HX2 := Lib.hid (fun j v hv => hk12.cell (HXR.out j v hv) (by simp))
        have H22 := Lib.hid (hk12.heap H2.out (by simp)); have H32 := Lib.hid (hk12.heap H3.out (by simp))
        have HK2 := Lib.hid (HKB.out.trans hk12 (FSub.refl _ _))
        have HDB2 := Lib.hid (HDB.out.new hk12); have HK12 := Lib.hid hk12
        obtain ⟨gs, hgs⟩ : ∃ gs, gs = w1.heap.size := ⟨_, rfl⟩
        have HSG := Lib.hid (show R + 4 ≤ gs ∧ gs < w2.heap.size from ⟨by have := HZ1.out; omega, by have := lt_of_block hW2; omega⟩)
        rw [← hgs] at HG2 ⊢
        clear hW2 hk2 hk12 HGS HKS HDR HXR H2 H3 HKB HDB HZ1 hgs
        have HRS := Lib.hid (show (w2.alloc (.cells #[.int .u8 0, .int .u16 0] 25)).heap[w2.heap.size]? = some (.cells (ansC ⟨0, 0⟩).toArray 25 (0, 0)) from heap_alloc_new w2 _)
        have HKR := Lib.hid (show Keeps [] w2 (w2.alloc (.cells #[.int .u8 0, .int .u16 0] 25)) from (Keeps.refl _ _).alloc _)
        go_wp2_with ((with_reducible refine wpList_putR12 (g := w2.heap.size) (old := ⟨0, 0⟩) ⟨0, 0⟩ ?_ ?_ HRS.out ?_); exact rfl; exact rfl)
        intro w3 hW3 hk3
        have hk23 := HKR.out.trans' hk3 (Nat.le_refl _)
        have HR3 := Lib.hid hW3
        have HG3 := Lib.hid (hk23.heap HG2.out (by simp))
        have HD3 := Lib.hid (show w3.rangeAt R 0 (mdC (.qu l) q m) from fun j v hv => hk23.cell (HD2.out j v hv) (by simp))
        have HX3 := Lib.hid (show w3.rangeAt (R + 1) 0 (opC x) from fun j v hv => hk23.cell (HX2.out j v hv) (by simp))
        have H23 := Lib.hid (hk23.heap H22.out (by simp)); have H33 := Lib.hid (hk23.heap H32.out (by simp))
        have HK3 := Lib.hid (HK2.out.trans hk23 (FSub.refl _ _))
        have HDB3 := Lib.hid (HDB2.out.new hk23); have HK13 := Lib.hid (HK12.out.trans hk23 (FSub.refl _ _))
        obtain ⟨gr, hgr⟩ : ∃ gr, gr = w2.heap.size := ⟨_, rfl⟩
        have HSR := Lib.hid (show gs < gr ∧ gr < w3.heap.size from ⟨by have := HSG.out; omega, by have := lt_of_block hW3; omega⟩)
        rw [← hgr] at HR3 ⊢
        clear hW3 hk3 hk23 HRS HKR HG2 HD2 HX2 H22 H32 HK2 HDB2 hgr
        have c0 : w3.cell? ⟨R, 0, none⟩ = some (.int .u8 1) := HD3.out 0 _ rfl
        have c2 : w3.cell? ⟨R, 2, none⟩ = some q := HD3.out 2 _ rfl
        go_wp2_with ((with_reducible refine wpList_loadP (g := R + 1) (off := 0) x ?_ ?_ HX3.out ?_); exact rfl; exact rfl)
        refine (HST.out w3 q HDB3.out.q).mono ?_; rintro e w4 ⟨v4, rfl, hin4, hk4, hf4⟩
        have HF4 := Lib.hid hf4; have HIN4 := Lib.hid hin4
        have HSW := Lib.hid (show gr < w3.heap.size from HSR.out.2)
        clear hin4 hf4 c2
        have HG4 := Lib.hid (hk4.heap HG3.out (by simp)); have HR4 := Lib.hid (hk4.heap HR3.out (by simp))
        have H24 := Lib.hid (hk4.heap H23.out (by simp)); have H34 := Lib.hid (hk4.heap H33.out (by simp))
        have HK4 := Lib.hid (HK3.out.trans hk4 (FSub.refl _ _))
        have HDB4 := Lib.hid (HDB3.out.new hk4)
        clear hk4 HG3 HR3 H23 H33 HK3 HDB3 HD3 HX3 c0
        have HDN := Lib.hid (show D13 w4 (.qu (quX l x).1) v4 m from ⟨HIN4.out, HDB4.out.m⟩)
        have HOQ := Lib.hid (show (Md.qu (quX l x).1).list ≠ [] → ∀ p ∈ own v4, p < R ∨ gr < p from fun h p hp => by
          rcases HF4.out h p hp with ⟨h1, h2⟩ | h1
          · exact .inl (HOQ0.out h1 p h2)
          · have := HSW.out; exact .inr (by omega))
        have HOM := Lib.hid (show ∀ t, (Md.qu (quX l x).1).items t → t ≠ [] → ∀ p ∈ own m, p < R ∨ gr < p from fun t ht hn => absurd ht hn)
        have HPQ := Lib.hid (show (Md.qu (quX l x).1).list ≠ [] → ∀ p ∈ own v4, ((Md.qu l).list ≠ [] ∧ p ∈ own q) ∨ w.heap.size ≤ p from fun h p hp => (HF4.out h p hp).imp id (fun h1 => by have := HSW.out; have := HSG.out; have := HSR.out; have := HRL.out; omega))
        have HPM := Lib.hid (show ∀ t, (Md.qu (quX l x).1).items t → t ≠ [] → ∀ p ∈ own m, ((∃ u, (Md.qu l).items u ∧ u ≠ []) ∧ p ∈ own m) ∨ w.heap.size ≤ p from fun t ht hn => absurd ht hn)
        have HV1 := Lib.hid (show v4.oneCell' = true from by obtain ⟨a4, c4, rfl, -⟩ := HIN4.out; rfl)
        clear HIN4 HF4
        go_wp2_with ((with_reducible refine wpList_put1 (g := gs) (j := 2) (v := v4) (A := mdC (.qu l) q m) ?_ ?_ ?_ HG4.out ?_ HV1.out ?_); exact (by kernel_rfl); exact rfl; exact rfl; exact (show (2 : Nat) < 5 by decide))
        intro W5 hW5 hk5
        have HG5 := Lib.hid (show W5.heap[gs]? = some (.cells (mdC (.qu (quX l x).1) (v4) (m)).toArray 81 (0, 0)) from hW5)
        have HR5 := Lib.hid (hk5.heap HR4.out (by have := HSR.out; simp; omega))
        have H25 := Lib.hid (hk5.heap H24.out (by have := HSG.out; simp; omega)); have H35 := Lib.hid (hk5.heap H34.out (by have := HSG.out; simp; omega))
        have HK5 := Lib.hid (HK4.out.trans hk5 (fun q hq => .inr (by have := HSG.out; have := HRL.out; simp at hq; omega)))
        have HD5 := Lib.hid (D13.keeps HDN.out hk5 (fun hn p hp => by have := HOQ.out hn p hp; have := HSG.out; have := HSR.out; simp; omega) (fun t ht hn p hp => by have := HOM.out t ht hn p hp; have := HSG.out; have := HSR.out; simp; omega))
        clear hW5 hk5 HG4 HR4 H24 H34 HK4 HDB4 HDN
        go_wp2_with ((with_reducible refine wpList_putR12 (g := gr) (old := ⟨0, 0⟩) ((quX l x).2.1) ?_ ?_ HR5.out ?_); exact rfl; exact rfl)
        intro WT hW6 hk6
        have HBR := Lib.hid hW6
        have HBS := Lib.hid (hk6.heap HG5.out (by have := HSR.out; simp; omega))
        have HB2 := Lib.hid (hk6.heap H25.out (by have := HSG.out; have := HSR.out; simp; omega)); have HB3 := Lib.hid (hk6.heap H35.out (by have := HSG.out; have := HSR.out; simp; omega))
        have HKT := Lib.hid (HK5.out.trans hk6 (fun q hq => .inr (by have := HSG.out; have := HSR.out; have := HRL.out; simp at hq; omega)))
        have HDT := Lib.hid (D13.keeps HD5.out hk6 (fun hn p hp => by have := HOQ.out hn p hp; have := HSG.out; have := HSR.out; simp; omega) (fun t ht hn p hp => by have := HOM.out t ht hn p hp; have := HSG.out; have := HSR.out; simp; omega))
        have HQ1 := Lib.hid (HDT.out.ok)
        clear hW6 hk6 HG5 HR5 H25 H35 HK5 HD5
        go_wp2_with fail
        obtain ⟨S0, hS0⟩ : ∃ S0 : World → Prop, S0 = fun y => Keeps [R + 1 + 1, R + 1 + 1 + 1] WT y := ⟨_, rfl⟩
        have HSE := Lib.hid hS0
        have hSD : S0 WT.drew := by rw [hS0]; exact (Keeps.refl _ _).drew
        have HS0 := Lib.hid (fun (w' : World) (hh : S0 w') => show w'.rangeAt gs 0 (mdC (.qu (quX l x).1) (v4) (m)) from by rw [hS0] at hh; exact fun j v hv => hh.cell (block_range HBS.out j v hv) (by have := HSG.out; simp; omega))
        have HS1 := Lib.hid (fun (w' : World) (hh : S0 w') => show w'.rangeAt gr 0 (ansC ((quX l x).2.1)) from by rw [hS0] at hh; exact fun j v hv => hh.cell (block_range HBR.out j v hv) (by have := HSG.out; have := HSR.out; simp; omega))
        clear hS0
        refine wp_region_noPanic ?_
        refine wp_region_held_drew (S := S0) (by kernel_rfl) hSD (fun hHeld => ?_)
        refine tk 0 (y := by exact skD.yields HQ1.out rfl _ rfl gs 0 rfl HS0.out) (h := ?_)
        refine tk 1 (y := by exact skR.yields (ansC_ok ((quX l x).2.1)) rfl _ rfl gr 0 rfl HS1.out) (h := ?_)
        refine tw 2 (h := ?_)
        refine rp 3 (h := fun K hK => ?_)
        refine skD.wp_put rfl (g := R + 1 + 1) (old := mdC0) (A := mdC (.qu (quX l x).1) (v4) (m)) HQ1.out mdC0_ok rfl rfl (((Keeps.refl [] WT).drew).heap HB2.out (by simp)) (fun V6 hV6 hj6 => ?_)
        have HV6 := Lib.hid hV6
        have HJ6 := Lib.hid ((((Keeps.refl [] WT).drew).more (G := [R + 1 + 1, R + 1 + 1 + 1]) (by simp)).step hj6 (by simp))
        have HB36 := Lib.hid (hj6.heap (((Keeps.refl [] WT).drew).heap HB3.out (by simp)) (by simp))
        clear hV6 hj6
        refine hK.out _ _ (by rw [HSE.out]; exact HJ6.out) (fun hHeld => ?_); clear hK K; try simp only [Act.put, lsA, lsZ, lsS]
        refine rp 4 (h := fun K hK => ?_)
        refine wp_putN rfl (g := R + 1 + 1 + 1) (old := ⟨0, 0⟩) ((quX l x).2.1) rfl rfl HB36.out (fun V7 hV7 hj7 => ?_)
        have HV7 := Lib.hid hV7
        have HS7 := Lib.hid (hj7.heap HV6.out (by simp))
        have HJ7 := Lib.hid (HJ6.out.step hj7 (by simp))
        clear hV7 hj7
        refine hK.out _ _ (by rw [HSE.out]; exact HJ7.out) (fun hHeld => ?_); clear hK K; try simp only [Act.put, lsA, lsZ, lsS]
        refine tw 5 (h := ?_)
        refine wpAnyH_done (by kernel_rfl) ?_ _
        refine NoPanic.normal ?_
        go_wp2_with fail
        try simp only [Exit.inBlock, Exit.then]
        refine bodyPost_ret (results_sk3 skD rfl _ _ (R + 1 + 1) (R + 1 + 1 + 1) HQ1.out ((quX l x).2.1) rfl HS7.out rfl HV7.out) rfl ⟨v4, m, rfl, ?_, HKT.out.trans HJ7.out (fun q hq => .inr (by have := HRL.out; simp at hq; omega)), HPQ.out, HPM.out⟩
        exact D13.keeps HDT.out HJ7.out (fun hn p hp => by have := HOQ.out hn p hp; have := HSG.out; have := HSR.out; simp; omega) (fun t ht hn p hp => by have := HOM.out t ht hn p hp; have := HSG.out; have := HSR.out; simp; omega)
      | mp a =>
        have hle := HLE.out
        obtain ⟨t, htm, hti⟩ := id HDB.out.m
        replace hti : Rel a t := hti
        have hst := hti.step HXI.out
        have hfew := hti.few
        have HST := Lib.hid (fun w (v : Value) (h : rkI.In w.heap.size w v t) => r11Step_any w h (by omega) x)
        replace hle : (ksX a x).2.2 = 0 := hle
        have HRS := Lib.hid hst.1; have HREL := Lib.hid hti
        unfold Post11 at HST
        rw [← hst.2, hle] at HST
        have HTM := Lib.hid (fun w' (hk : Keeps [] w1 w') => (htm.new hk (Nat.le_refl _)).more hk.size)
        clear hle HLE HF hti hst hfew htm
        simp only [Md.model] at *
        have HGS := Lib.hid (show (w1.alloc (.cells #[.int .u8 0, .int .u16 0, .slice none 0 0, .slice none 0 0, .int .i64 0] 81)).heap[w1.heap.size]? = some (.cells mdC0.toArray 81 (0, 0)) from heap_alloc_new w1 _)
        have HKS := Lib.hid (show Keeps [] w1 (w1.alloc (.cells #[.int .u8 0, .int .u16 0, .slice none 0 0, .slice none 0 0, .int .i64 0] 81)) from (Keeps.refl _ _).alloc _)
        go_wp2_with (first
          | ((with_reducible refine wpList_loadD (g := R) (off := 0) HQ.out ?_ ?_ HDR.out ?_); exact rfl; exact rfl)
          | ((with_reducible refine wpList_putD (g := w1.heap.size) (old := mdC0) (A := mdC (.mp a) q m) HQ.out mdC0_ok ?_ ?_ HGS.out ?_); exact rfl; exact rfl))
        intro w2 hW2 hk2
        have hk12 := HKS.out.trans' hk2 (Nat.le_refl _)
        have HG2 := Lib.hid hW2
        have HD2 := Lib.hid (fun j v hv => hk12.cell (HDR.out j v hv) (by simp))
        have HX2 := Lib.hid (fun j v hv => hk12.cell (HXR.out j v hv) (by simp))
        have H22 := Lib.hid (hk12.heap H2.out (by simp)); have H32 := Lib.hid (hk12.heap H3.out (by simp))
        have HK2 := Lib.hid (HKB.out.trans hk12 (FSub.refl _ _))
        have HDB2 := Lib.hid (HDB.out.new hk12); have HK12 := Lib.hid hk12
        obtain ⟨gs, hgs⟩ : ∃ gs, gs = w1.heap.size := ⟨_, rfl⟩
        have HSG := Lib.hid (show R + 4 ≤ gs ∧ gs < w2.heap.size from ⟨by have := HZ1.out; omega, by have := lt_of_block hW2; omega⟩)
        rw [← hgs] at HG2 ⊢
        clear hW2 hk2 hk12 HGS HKS HDR HXR H2 H3 HKB HDB HZ1 hgs
        have HRS := Lib.hid (show (w2.alloc (.cells #[.int .u8 0, .int .u16 0] 25)).heap[w2.heap.size]? = some (.cells (ansC ⟨0, 0⟩).toArray 25 (0, 0)) from heap_alloc_new w2 _)
        have HKR := Lib.hid (show Keeps [] w2 (w2.alloc (.cells #[.int .u8 0, .int .u16 0] 25)) from (Keeps.refl _ _).alloc _)
        go_wp2_with ((with_reducible refine wpList_putR12 (g := w2.heap.size) (old := ⟨0, 0⟩) ⟨0, 0⟩ ?_ ?_ HRS.out ?_); exact rfl; exact rfl)
        intro w3 hW3 hk3
        have hk23 := HKR.out.trans' hk3 (Nat.le_refl _)
        have HR3 := Lib.hid hW3
        have HG3 := Lib.hid (hk23.heap HG2.out (by simp))
        have HD3 := Lib.hid (show w3.rangeAt R 0 (mdC (.mp a) q m) from fun j v hv => hk23.cell (HD2.out j v hv) (by simp))
        have HX3 := Lib.hid (show w3.rangeAt (R + 1) 0 (opC x) from fun j v hv => hk23.cell (HX2.out j v hv) (by simp))
        have H23 := Lib.hid (hk23.heap H22.out (by simp)); have H33 := Lib.hid (hk23.heap H32.out (by simp))
        have HK3 := Lib.hid (HK2.out.trans hk23 (FSub.refl _ _))
        have HDB3 := Lib.hid (HDB2.out.new hk23); have HK13 := Lib.hid (HK12.out.trans hk23 (FSub.refl _ _))
        obtain ⟨gr, hgr⟩ : ∃ gr, gr = w2.heap.size := ⟨_, rfl⟩
        have HSR := Lib.hid (show gs < gr ∧ gr < w3.heap.size from ⟨by have := HSG.out; omega, by have := lt_of_block hW3; omega⟩)
        rw [← hgr] at HR3 ⊢
        clear hW3 hk3 hk23 HRS HKR HG2 HD2 HX2 H22 H32 HK2 HDB2 hgr
        have c0 : w3.cell? ⟨R, 0, none⟩ = some (.int .u8 2) := HD3.out 0 _ rfl
        have c3 : w3.cell? ⟨R, 3, none⟩ = some m := HD3.out 3 _ rfl
        go_wp2_with ((with_reducible refine wpList_loadP (g := R + 1) (off := 0) x ?_ ?_ HX3.out ?_); exact rfl; exact rfl)
        refine (HST.out w3 m (HTM.out w3 HK13.out)).mono ?_; rintro e w4 ⟨v4, rfl, hin4, hk4, hf4⟩
        have HF4 := Lib.hid hf4; have HIN4 := Lib.hid hin4
        have HSW := Lib.hid (show gr < w3.heap.size from HSR.out.2)
        clear hin4 hf4 c3
        have HG4 := Lib.hid (hk4.heap HG3.out (by simp)); have HR4 := Lib.hid (hk4.heap HR3.out (by simp))
        have H24 := Lib.hid (hk4.heap H23.out (by simp)); have H34 := Lib.hid (hk4.heap H33.out (by simp))
        have HK4 := Lib.hid (HK3.out.trans hk4 (FSub.refl _ _))
        have HDB4 := Lib.hid (HDB3.out.new hk4)
        clear hk4 HG3 HR3 H23 H33 HK3 HDB3 HD3 HX3 c0
        have HDN := Lib.hid (show D13 w4 (.mp (ksX a x).1) q v4 from ⟨HDB4.out.q, _, HIN4.out, HRS.out⟩)
        have HOQ := Lib.hid (show (Md.mp (ksX a x).1).list ≠ [] → ∀ p ∈ own q, p < R ∨ gr < p from fun h => absurd rfl h)
        have HOM := Lib.hid (show ∀ t2, (Md.mp (ksX a x).1).items t2 → t2 ≠ [] → ∀ p ∈ own v4, p < R ∨ gr < p from fun t2 ht hn p hp => by
          have hn2 : (kvX t x).1 ≠ [] := Md.items_two (S := .mp (ksX a x).1) ht HRS.out hn
          rcases HF4.out hn2 p hp with ⟨h1, h2⟩ | h1
          · exact .inl (HOM0.out t HREL.out h1 p h2)
          · have := HSW.out; exact .inr (by omega))
        have HV1 := Lib.hid (show v4.oneCell' = true from by obtain ⟨a4, c4, rfl, -⟩ := HIN4.out; rfl)
        have HPQ := Lib.hid (show (Md.mp (ksX a x).1).list ≠ [] → ∀ p ∈ own q, ((Md.mp a).list ≠ [] ∧ p ∈ own q) ∨ w.heap.size ≤ p from fun h => absurd rfl h)
        have HPM := Lib.hid (show ∀ t2, (Md.mp (ksX a x).1).items t2 → t2 ≠ [] → ∀ p ∈ own v4, ((∃ u, (Md.mp a).items u ∧ u ≠ []) ∧ p ∈ own m) ∨ w.heap.size ≤ p from fun t2 ht hn p hp => by
          have hn2 : (kvX t x).1 ≠ [] := Md.items_two (S := .mp (ksX a x).1) ht HRS.out hn
          rcases HF4.out hn2 p hp with ⟨h1, h2⟩ | h1
          · exact .inl ⟨⟨t, HREL.out, h1⟩, h2⟩
          · have := HSW.out; have := HSG.out; have := HSR.out; have := HRL.out; exact .inr (by omega))
        clear HIN4 HF4 HRS
        go_wp2_with ((with_reducible refine wpList_put1 (g := gs) (j := 3) (v := v4) (A := mdC (.mp a) q m) ?_ ?_ ?_ HG4.out ?_ HV1.out ?_); exact (by kernel_rfl); exact rfl; exact rfl; exact (show (3 : Nat) < 5 by decide))
        intro W5 hW5 hk5
        have HG5 := Lib.hid (show W5.heap[gs]? = some (.cells (mdC (.mp (ksX a x).1) (q) (v4)).toArray 81 (0, 0)) from hW5)
        have HR5 := Lib.hid (hk5.heap HR4.out (by have := HSR.out; simp; omega))
        have H25 := Lib.hid (hk5.heap H24.out (by have := HSG.out; simp; omega)); have H35 := Lib.hid (hk5.heap H34.out (by have := HSG.out; simp; omega))
        have HK5 := Lib.hid (HK4.out.trans hk5 (fun q hq => .inr (by have := HSG.out; have := HRL.out; simp at hq; omega)))
        have HD5 := Lib.hid (D13.keeps HDN.out hk5 (fun hn p hp => by have := HOQ.out hn p hp; have := HSG.out; have := HSR.out; simp; omega) (fun t ht hn p hp => by have := HOM.out t ht hn p hp; have := HSG.out; have := HSR.out; simp; omega))
        clear hW5 hk5 HG4 HR4 H24 H34 HK4 HDB4 HDN
        go_wp2_with ((with_reducible refine wpList_putR12 (g := gr) (old := ⟨0, 0⟩) ((ksX a x).2.1) ?_ ?_ HR5.out ?_); exact rfl; exact rfl)
        intro WT hW6 hk6
        have HBR := Lib.hid hW6
        have HBS := Lib.hid (hk6.heap HG5.out (by have := HSR.out; simp; omega))
        have HB2 := Lib.hid (hk6.heap H25.out (by have := HSG.out; have := HSR.out; simp; omega)); have HB3 := Lib.hid (hk6.heap H35.out (by have := HSG.out; have := HSR.out; simp; omega))
        have HKT := Lib.hid (HK5.out.trans hk6 (fun q hq => .inr (by have := HSG.out; have := HSR.out; have := HRL.out; simp at hq; omega)))
        have HDT := Lib.hid (D13.keeps HD5.out hk6 (fun hn p hp => by have := HOQ.out hn p hp; have := HSG.out; have := HSR.out; simp; omega) (fun t ht hn p hp => by have := HOM.out t ht hn p hp; have := HSG.out; have := HSR.out; simp; omega))
        have HQ1 := Lib.hid (HDT.out.ok)
        clear hW6 hk6 HG5 HR5 H25 H35 HK5 HD5
        go_wp2_with fail
        obtain ⟨S0, hS0⟩ : ∃ S0 : World → Prop, S0 = fun y => Keeps [R + 1 + 1, R + 1 + 1 + 1] WT y := ⟨_, rfl⟩
        have HSE := Lib.hid hS0
        have hSD : S0 WT.drew := by rw [hS0]; exact (Keeps.refl _ _).drew
        have HS0 := Lib.hid (fun (w' : World) (hh : S0 w') => show w'.rangeAt gs 0 (mdC (.mp (ksX a x).1) (q) (v4)) from by rw [hS0] at hh; exact fun j v hv => hh.cell (block_range HBS.out j v hv) (by have := HSG.out; simp; omega))
        have HS1 := Lib.hid (fun (w' : World) (hh : S0 w') => show w'.rangeAt gr 0 (ansC ((ksX a x).2.1)) from by rw [hS0] at hh; exact fun j v hv => hh.cell (block_range HBR.out j v hv) (by have := HSG.out; have := HSR.out; simp; omega))
        clear hS0
        refine wp_region_noPanic ?_
        refine wp_region_held_drew (S := S0) (by kernel_rfl) hSD (fun hHeld => ?_)
        refine tk 0 (y := by exact skD.yields HQ1.out rfl _ rfl gs 0 rfl HS0.out) (h := ?_)
        refine tk 1 (y := by exact skR.yields (ansC_ok ((ksX a x).2.1)) rfl _ rfl gr 0 rfl HS1.out) (h := ?_)
        refine tw 2 (h := ?_)
        refine rp 3 (h := fun K hK => ?_)
        refine skD.wp_put rfl (g := R + 1 + 1) (old := mdC0) (A := mdC (.mp (ksX a x).1) (q) (v4)) HQ1.out mdC0_ok rfl rfl (((Keeps.refl [] WT).drew).heap HB2.out (by simp)) (fun V6 hV6 hj6 => ?_)
        have HV6 := Lib.hid hV6
        have HJ6 := Lib.hid ((((Keeps.refl [] WT).drew).more (G := [R + 1 + 1, R + 1 + 1 + 1]) (by simp)).step hj6 (by simp))
        have HB36 := Lib.hid (hj6.heap (((Keeps.refl [] WT).drew).heap HB3.out (by simp)) (by simp))
        clear hV6 hj6
        refine hK.out _ _ (by rw [HSE.out]; exact HJ6.out) (fun hHeld => ?_); clear hK K; try simp only [Act.put, lsA, lsZ, lsS]
        refine rp 4 (h := fun K hK => ?_)
        refine wp_putN rfl (g := R + 1 + 1 + 1) (old := ⟨0, 0⟩) ((ksX a x).2.1) rfl rfl HB36.out (fun V7 hV7 hj7 => ?_)
        have HV7 := Lib.hid hV7
        have HS7 := Lib.hid (hj7.heap HV6.out (by simp))
        have HJ7 := Lib.hid (HJ6.out.step hj7 (by simp))
        clear hV7 hj7
        refine hK.out _ _ (by rw [HSE.out]; exact HJ7.out) (fun hHeld => ?_); clear hK K; try simp only [Act.put, lsA, lsZ, lsS]
        refine tw 5 (h := ?_)
        refine wpAnyH_done (by kernel_rfl) ?_ _
        refine NoPanic.normal ?_
        go_wp2_with fail
        try simp only [Exit.inBlock, Exit.then]
        refine bodyPost_ret (results_sk3 skD rfl _ _ (R + 1 + 1) (R + 1 + 1 + 1) HQ1.out ((ksX a x).2.1) rfl HS7.out rfl HV7.out) rfl ⟨q, v4, rfl, ?_, HKT.out.trans HJ7.out (fun q hq => .inr (by have := HRL.out; simp at hq; omega)), HPQ.out, HPM.out⟩
        exact D13.keeps HDT.out HJ7.out (fun hn p hp => by have := HOQ.out hn p hp; have := HSG.out; have := HSR.out; simp; omega) (fun t ht hn p hp => by have := HOM.out t ht hn p hp; have := HSG.out; have := HSR.out; simp; omega)
      | lk s =>
        have hle := HLE.out
        have hss : 0 ≤ s ∧ s ≤ 16 := HSS.out
        have HST := Lib.hid (fun w => r12Step_any w (h := s - 1) (s := s) (c := c) x rfl ⟨hss.1, by omega⟩ HCI.out HXI.out)
        replace hle : (lkX s c x).2.2 = 0 := hle
        rw [hle] at HST
        clear hle HLE HF hss
        simp only [Md.model] at *
        have HGS := Lib.hid (show (w1.alloc (.cells #[.int .u8 0, .int .u16 0, .slice none 0 0, .slice none 0 0, .int .i64 0] 81)).heap[w1.heap.size]? = some (.cells mdC0.toArray 81 (0, 0)) from heap_alloc_new w1 _)
        have HKS := Lib.hid (show Keeps [] w1 (w1.alloc (.cells #[.int .u8 0, .int .u16 0, .slice none 0 0, .slice none 0 0, .int .i64 0] 81)) from (Keeps.refl _ _).alloc _)
        go_wp2_with (first
          | ((with_reducible refine wpList_loadD (g := R) (off := 0) HQ.out ?_ ?_ HDR.out ?_); exact rfl; exact rfl)
          | ((with_reducible refine wpList_putD (g := w1.heap.size) (old := mdC0) (A := mdC (.lk s) q m) HQ.out mdC0_ok ?_ ?_ HGS.out ?_); exact rfl; exact rfl))
        intro w2 hW2 hk2
        have hk12 := HKS.out.trans' hk2 (Nat.le_refl _)
        have HG2 := Lib.hid hW2
        have HD2 := Lib.hid (fun j v hv => hk12.cell (HDR.out j v hv) (by simp))
        have HX2 := Lib.hid (fun j v hv => hk12.cell (HXR.out j v hv) (by simp))
        have H22 := Lib.hid (hk12.heap H2.out (by simp)); have H32 := Lib.hid (hk12.heap H3.out (by simp))
        have HK2 := Lib.hid (HKB.out.trans hk12 (FSub.refl _ _))
        have HDB2 := Lib.hid (HDB.out.new hk12); have HK12 := Lib.hid hk12
        obtain ⟨gs, hgs⟩ : ∃ gs, gs = w1.heap.size := ⟨_, rfl⟩
        have HSG := Lib.hid (show R + 4 ≤ gs ∧ gs < w2.heap.size from ⟨by have := HZ1.out; omega, by have := lt_of_block hW2; omega⟩)
        rw [← hgs] at HG2 ⊢
        clear hW2 hk2 hk12 HGS HKS HDR HXR H2 H3 HKB HDB HZ1 hgs
        have HRS := Lib.hid (show (w2.alloc (.cells #[.int .u8 0, .int .u16 0] 25)).heap[w2.heap.size]? = some (.cells (ansC ⟨0, 0⟩).toArray 25 (0, 0)) from heap_alloc_new w2 _)
        have HKR := Lib.hid (show Keeps [] w2 (w2.alloc (.cells #[.int .u8 0, .int .u16 0] 25)) from (Keeps.refl _ _).alloc _)
        go_wp2_with ((with_reducible refine wpList_putR12 (g := w2.heap.size) (old := ⟨0, 0⟩) ⟨0, 0⟩ ?_ ?_ HRS.out ?_); exact rfl; exact rfl)
        intro w3 hW3 hk3
        have hk23 := HKR.out.trans' hk3 (Nat.le_refl _)
        have HR3 := Lib.hid hW3
        have HG3 := Lib.hid (hk23.heap HG2.out (by simp))
        have HD3 := Lib.hid (show w3.rangeAt R 0 (mdC (.lk s) q m) from fun j v hv => hk23.cell (HD2.out j v hv) (by simp))
        have HX3 := Lib.hid (show w3.rangeAt (R + 1) 0 (opC x) from fun j v hv => hk23.cell (HX2.out j v hv) (by simp))
        have H23 := Lib.hid (hk23.heap H22.out (by simp)); have H33 := Lib.hid (hk23.heap H32.out (by simp))
        have HK3 := Lib.hid (HK2.out.trans hk23 (FSub.refl _ _))
        have HDB3 := Lib.hid (HDB2.out.new hk23); have HK13 := Lib.hid (HK12.out.trans hk23 (FSub.refl _ _))
        obtain ⟨gr, hgr⟩ : ∃ gr, gr = w2.heap.size := ⟨_, rfl⟩
        have HSR := Lib.hid (show gs < gr ∧ gr < w3.heap.size from ⟨by have := HSG.out; omega, by have := lt_of_block hW3; omega⟩)
        rw [← hgr] at HR3 ⊢
        clear hW3 hk3 hk23 HRS HKR HG2 HD2 HX2 H22 H32 HK2 HDB2 hgr
        have c0 : w3.cell? ⟨R, 0, none⟩ = some (.int .u8 3) := HD3.out 0 _ rfl
        have c4 : w3.cell? ⟨R, 4, none⟩ = some (.int .i64 (s - 1)) := HD3.out 4 _ rfl
        go_wp2_with ((with_reducible refine wpList_loadP (g := R + 1) (off := 0) x ?_ ?_ HX3.out ?_); exact rfl; exact rfl)
        refine (HST.out w3).mono ?_; rintro e w4 ⟨rfl, hk4⟩
        clear c4
        have HG4 := Lib.hid (hk4.heap HG3.out (by simp)); have HR4 := Lib.hid (hk4.heap HR3.out (by simp))
        have H24 := Lib.hid (hk4.heap H23.out (by simp)); have H34 := Lib.hid (hk4.heap H33.out (by simp))
        have HK4 := Lib.hid (HK3.out.trans hk4 (FSub.refl _ _))
        have HDB4 := Lib.hid (HDB3.out.new hk4)
        clear hk4 HG3 HR3 H23 H33 HK3 HDB3 HD3 HX3 c0
        have HDN := Lib.hid (show D13 w4 (.lk (lkX s c x).1) q m from ⟨HDB4.out.q, HDB4.out.m⟩)
        have HOQ := Lib.hid (show (Md.lk (lkX s c x).1).list ≠ [] → ∀ p ∈ own q, p < R ∨ gr < p from fun h => absurd rfl h)
        have HOM := Lib.hid (show ∀ t, (Md.lk (lkX s c x).1).items t → t ≠ [] → ∀ p ∈ own m, p < R ∨ gr < p from fun t ht hn => absurd ht hn)
        have HPQ := Lib.hid (show (Md.lk (lkX s c x).1).list ≠ [] → ∀ p ∈ own q, ((Md.lk s).list ≠ [] ∧ p ∈ own q) ∨ w.heap.size ≤ p from fun h => absurd rfl h)
        have HPM := Lib.hid (show ∀ t, (Md.lk (lkX s c x).1).items t → t ≠ [] → ∀ p ∈ own m, ((∃ u, (Md.lk s).items u ∧ u ≠ []) ∧ p ∈ own m) ∨ w.heap.size ≤ p from fun t ht hn => absurd ht hn)
        go_wp2_with ((with_reducible refine wpList_put1 (g := gs) (j := 4) (v := .int .i64 ((lkX s c x).1 - 1)) (A := mdC (.lk s) q m) ?_ ?_ ?_ HG4.out ?_ ?_ ?_); exact (by kernel_rfl); exact rfl; exact rfl; exact (show (4 : Nat) < 5 by decide); exact rfl)
        intro W5 hW5 hk5
        have HG5 := Lib.hid (show W5.heap[gs]? = some (.cells (mdC (.lk (lkX s c x).1) (q) (m)).toArray 81 (0, 0)) from hW5)
        have HR5 := Lib.hid (hk5.heap HR4.out (by have := HSR.out; simp; omega))
        have H25 := Lib.hid (hk5.heap H24.out (by have := HSG.out; simp; omega)); have H35 := Lib.hid (hk5.heap H34.out (by have := HSG.out; simp; omega))
        have HK5 := Lib.hid (HK4.out.trans hk5 (fun q hq => .inr (by have := HSG.out; have := HRL.out; simp at hq; omega)))
        have HD5 := Lib.hid (D13.keeps HDN.out hk5 (fun hn p hp => by have := HOQ.out hn p hp; have := HSG.out; have := HSR.out; simp; omega) (fun t ht hn p hp => by have := HOM.out t ht hn p hp; have := HSG.out; have := HSR.out; simp; omega))
        clear hW5 hk5 HG4 HR4 H24 H34 HK4 HDB4 HDN
        go_wp2_with ((with_reducible refine wpList_putR12 (g := gr) (old := ⟨0, 0⟩) ((lkX s c x).2.1) ?_ ?_ HR5.out ?_); exact rfl; exact rfl)
        intro WT hW6 hk6
        have HBR := Lib.hid hW6
        have HBS := Lib.hid (hk6.heap HG5.out (by have := HSR.out; simp; omega))
        have HB2 := Lib.hid (hk6.heap H25.out (by have := HSG.out; have := HSR.out; simp; omega)); have HB3 := Lib.hid (hk6.heap H35.out (by have := HSG.out; have := HSR.out; simp; omega))
        have HKT := Lib.hid (HK5.out.trans hk6 (fun q hq => .inr (by have := HSG.out; have := HSR.out; have := HRL.out; simp at hq; omega)))
        have HDT := Lib.hid (D13.keeps HD5.out hk6 (fun hn p hp => by have := HOQ.out hn p hp; have := HSG.out; have := HSR.out; simp; omega) (fun t ht hn p hp => by have := HOM.out t ht hn p hp; have := HSG.out; have := HSR.out; simp; omega))
        have HQ1 := Lib.hid (HDT.out.ok)
        clear hW6 hk6 HG5 HR5 H25 H35 HK5 HD5
        go_wp2_with fail
        obtain ⟨S0, hS0⟩ : ∃ S0 : World → Prop, S0 = fun y => Keeps [R + 1 + 1, R + 1 + 1 + 1] WT y := ⟨_, rfl⟩
        have HSE := Lib.hid hS0
        have hSD : S0 WT.drew := by rw [hS0]; exact (Keeps.refl _ _).drew
        have HS0 := Lib.hid (fun (w' : World) (hh : S0 w') => show w'.rangeAt gs 0 (mdC (.lk (lkX s c x).1) (q) (m)) from by rw [hS0] at hh; exact fun j v hv => hh.cell (block_range HBS.out j v hv) (by have := HSG.out; simp; omega))
        have HS1 := Lib.hid (fun (w' : World) (hh : S0 w') => show w'.rangeAt gr 0 (ansC ((lkX s c x).2.1)) from by rw [hS0] at hh; exact fun j v hv => hh.cell (block_range HBR.out j v hv) (by have := HSG.out; have := HSR.out; simp; omega))
        clear hS0
        refine wp_region_noPanic ?_
        refine wp_region_held_drew (S := S0) (by kernel_rfl) hSD (fun hHeld => ?_)
        refine tk 0 (y := by exact skD.yields HQ1.out rfl _ rfl gs 0 rfl HS0.out) (h := ?_)
        refine tk 1 (y := by exact skR.yields (ansC_ok ((lkX s c x).2.1)) rfl _ rfl gr 0 rfl HS1.out) (h := ?_)
        refine tw 2 (h := ?_)
        refine rp 3 (h := fun K hK => ?_)
        refine skD.wp_put rfl (g := R + 1 + 1) (old := mdC0) (A := mdC (.lk (lkX s c x).1) (q) (m)) HQ1.out mdC0_ok rfl rfl (((Keeps.refl [] WT).drew).heap HB2.out (by simp)) (fun V6 hV6 hj6 => ?_)
        have HV6 := Lib.hid hV6
        have HJ6 := Lib.hid ((((Keeps.refl [] WT).drew).more (G := [R + 1 + 1, R + 1 + 1 + 1]) (by simp)).step hj6 (by simp))
        have HB36 := Lib.hid (hj6.heap (((Keeps.refl [] WT).drew).heap HB3.out (by simp)) (by simp))
        clear hV6 hj6
        refine hK.out _ _ (by rw [HSE.out]; exact HJ6.out) (fun hHeld => ?_); clear hK K; try simp only [Act.put, lsA, lsZ, lsS]
        refine rp 4 (h := fun K hK => ?_)
        refine wp_putN rfl (g := R + 1 + 1 + 1) (old := ⟨0, 0⟩) ((lkX s c x).2.1) rfl rfl HB36.out (fun V7 hV7 hj7 => ?_)
        have HV7 := Lib.hid hV7
        have HS7 := Lib.hid (hj7.heap HV6.out (by simp))
        have HJ7 := Lib.hid (HJ6.out.step hj7 (by simp))
        clear hV7 hj7
        refine hK.out _ _ (by rw [HSE.out]; exact HJ7.out) (fun hHeld => ?_); clear hK K; try simp only [Act.put, lsA, lsZ, lsS]
        refine tw 5 (h := ?_)
        refine wpAnyH_done (by kernel_rfl) ?_ _
        refine NoPanic.normal ?_
        go_wp2_with fail
        try simp only [Exit.inBlock, Exit.then]
        refine bodyPost_ret (results_sk3 skD rfl _ _ (R + 1 + 1) (R + 1 + 1 + 1) HQ1.out ((lkX s c x).2.1) rfl HS7.out rfl HV7.out) rfl ⟨q, m, rfl, ?_, HKT.out.trans HJ7.out (fun q hq => .inr (by have := HRL.out; simp at hq; omega)), HPQ.out, HPM.out⟩
        exact D13.keeps HDT.out HJ7.out (fun hn p hp => by have := HOQ.out hn p hp; have := HSG.out; have := HSR.out; simp; omega) (fun t ht hn p hp => by have := HOM.out t ht hn p hp; have := HSG.out; have := HSR.out; simp; omega)
    · have e : mdX S c x = (S, ⟨0, 0⟩, 10) := by unfold mdX; rw [if_neg hc15, if_neg (by omega)]
      rw [e]
      rw [hq] at HC
      clear e hq
      go_enter Tryz.func34, Tryz.ntmps34
      go_wp2_with fail
      refine (HC.out _).mono ?_; rintro e w1 ⟨rfl, hk1⟩
      have HK1 := Lib.hid hk1
      have hxr : w1.rangeAt (w.heap.size + 1) 0 (opC x) := fun j v hv => by rw [Nat.zero_add]; exact hk1.cell (cell_lit H1.out j (by simpa [opC] using hv)) (by simp)
      have hdr : w1.rangeAt w.heap.size 0 (mdC S q m) := fun j v hv => hk1.cell (HDR.out j v hv) (by simp)
      have HXR := Lib.hid hxr
      have HDW := Lib.hid (HD.out.new hk1)
      have H2w := Lib.hid (hk1.heap H2.out (by simp)); have H3w := Lib.hid (hk1.heap H3.out (by simp))
      have HKB := Lib.hid (HK.out.trans hk1 (FSub.refl _ _))
      have HZ1 := Lib.hid (show w.heap.size + 4 ≤ w1.heap.size from by have := HZ.out; have := hk1.size; omega)
      have HDR1 := Lib.hid hdr
      clear hk1 hxr hdr HK1 HK HDR HD H1 H0 HZ H2 H3 c0 HC
      have HDR := HDR1; have H2 := H2w; have H3 := H3w; have HDB := HDW
      clear HDR1 H2w H3w HDW
      obtain ⟨R, hR⟩ : ∃ R, R = w.heap.size := ⟨_, rfl⟩
      have HRL := Lib.hid (show w.heap.size ≤ R from Nat.le_of_eq hR.symm)
      rw [← hR] at HDR H2 H3 HXR HZ1 HOQ0 HOM0 ⊢
      clear hR
      go_wp2_with (first
        | ((with_reducible refine wpList_loadD (g := R) (off := 0) HQ.out ?_ ?_ HDR.out ?_); exact rfl; exact rfl)
        | ((with_reducible refine wpList_putD (g := R + 1 + 1) (old := mdC0) (A := mdC S q m) HQ.out mdC0_ok ?_ ?_ H2.out ?_); exact rfl; exact rfl))
      intro W1 hW1 hk1
      have HS1 := Lib.hid hW1; have HB3 := Lib.hid (hk1.heap H3.out (by simp)); have HK1 := Lib.hid hk1
      clear hW1 hk1
      go_wp2_with ((with_reducible refine wpList_putR12 (g := R + 1 + 1 + 1) (old := ⟨0, 0⟩) ⟨0, 0⟩ ?_ ?_ HB3.out ?_); exact rfl; exact rfl)
      intro W2 hW2 hk2
      have HW2 := Lib.hid hW2
      have HS2 := Lib.hid (hk2.heap HS1.out (by simp))
      have HK2 := Lib.hid ((HK1.out.more (G := [R + 1 + 1, R + 1 + 1 + 1]) (by simp)).step hk2 (by simp))
      clear hW2 hk2
      go_wp2_with fail
      try simp only [Exit.inBlock, Exit.then]
      exact bodyPost_ret (results_sk3 skD rfl _ _ (R + 1 + 1) (R + 1 + 1 + 1) HQ.out ⟨0, 0⟩ rfl HS2.out rfl HW2.out) rfl ⟨q, m, rfl, D13.keeps HDB.out HK2.out (fun hn p hp => by have := HOQ0.out hn p hp; simp; omega) (fun t ht hn p hp => by have := HOM0.out t ht hn p hp; simp; omega), HKB.out.trans HK2.out (fun q hq => .inr (by have := HRL.out; simp at hq; omega)), fun hn p hp => .inl ⟨hn, hp⟩, fun t ht hn p hp => .inl ⟨⟨t, ht, hn⟩, hp⟩⟩
end Go.Proofs.YtbnhcggjcdipeaaGreatDoor
