/-
  One object of any of the four models, as data: its steps, its bytes, its text; no program.
-/
import Derived.BigQuiet
import Derived.Deep.RegionHeld3
import Derived.Test.YtbnhcggjcdipeaaGreatDoorWA08
import Derived.Test.YtbnhcggjcdipeaaGreatDoorWA24
import Derived.Test.YtbnhcggjcdipeaaGreatDoorWA11
import Derived.Test.YtbnhcggjcdipeaaGreatDoorWA17
import Derived.Test.YtbnhcggjcdipeaaGreatDoorWA03
import Derived.Test.YtbnhcggjcdipeaaGreatDoorWA07
import Derived.Test.YtbnhcggjcdipeaaGreatDoorWA09
import Derived.Test.YtbnhcggjcdipeaaGreatDoorWA22
set_option linter.unusedSimpArgs false
set_option linter.unusedVariables false
namespace Go.Proofs.YtbnhcggjcdipeaaGreatDoor
open Go.RowKit
inductive Md where
  | rg (s : Int)
  | qu (l : List Int)
  | mp (m : Kv)
  | lk (s : Int)
def Md.model : Md → Int
  | .rg _ => 0
  | .qu _ => 1
  | .mp _ => 2
  | .lk _ => 3
def mdInit (m : Int) : Md := if m = 0 then .rg 0 else if m = 1 then .qu [] else if m = 2 then .mp kv0 else .lk 0
def Md.In : Md → Prop
  | .rg s => 0 ≤ s ∧ s < 65536
  | .qu l => U16s l
  | .mp m => KvIn m
  | .lk s => 0 ≤ s ∧ s ≤ 16
/-- How long its list is. -/
def Md.len : Md → Nat
  | .qu l => l.length
  | _ => 0
/-- A step, if it is one of the model's. -/
def mdY : Md → Int → Opn → Md × Ans
  | .rg s, _, x => (.rg (rgX s x).1, (rgX s x).2.1)
  | .qu l, _, x => (.qu (quX l x).1, (quX l x).2.1)
  | .mp m, _, x => (.mp (ksX m x).1, (ksX m x).2.1)
  | .lk s, c, x => (.lk (lkX s c x).1, (lkX s c x).2.1)
/-- A step of a client's operation: the state behind it, the answer, the error. -/
def mdX (S : Md) (c : Int) (x : Opn) : Md × Ans × Int :=
  if 15 < c then (S, ⟨0, 0⟩, 2) else if opChk S.model x = 0 then ((mdY S c x).1, (mdY S c x).2, 0) else (S, ⟨0, 0⟩, 10)
def kvBy (m : Kv) : List UInt8 := (kvBn m).map fun n => UInt8.ofNat n.toNat
/-- Its bytes. -/
def mdB : Md → List UInt8
  | .rg s => rgB s
  | .qu l => quB l
  | .mp m => kvBy m
  | .lk s => lkB s
/-- Texts with a space between each two. -/
def spT : List (List UInt8) → List UInt8
  | [] => []
  | [x] => x
  | x :: y :: r => x ++ 32 :: spT (y :: r)
/-- The text of a key and its number. -/
def itT (x : It) : List UInt8 := dec x.k ++ 58 :: dec x.v
def freeT : List UInt8 := [102, 114, 101, 101]
def heldT : List UInt8 := [104, 101, 108, 100, 32, 98, 121, 32]
/-- Its text. -/
def mdT : Md → List UInt8
  | .rg s => dec s
  | .qu l => 91 :: (spT (l.map dec) ++ [93])
  | .mp m => 123 :: (spT ((itOf 0 m).map itT) ++ [125])
  | .lk s => if s = 0 then freeT else heldT ++ dec (s - 1)
theorem mdInit_in (m : Int) : (mdInit m).In := by
  unfold mdInit
  split
  · exact ⟨by decide, by decide⟩
  · split
    · exact fun v hv => by cases hv
    · split
      · exact kv0_in
      · exact ⟨by decide, by decide⟩
theorem mdInit_len (m : Int) : (mdInit m).len = 0 := by
  unfold mdInit
  split
  · rfl
  · split
    · rfl
    · split <;> rfl
theorem mdInit_model {m : Int} (h0 : 0 ≤ m) (h1 : m ≤ 3) : (mdInit m).model = m := by
  unfold mdInit
  split
  · rename_i h; exact h.symm
  · split
    · rename_i h; exact h.symm
    · split
      · rename_i h; exact h.symm
      · show (3 : Int) = m; omega
theorem Md.model_in (S : Md) : 0 ≤ S.model ∧ S.model ≤ 3 := by cases S <;> simp [Md.model]
theorem mdX_bad {S : Md} {c : Int} {x : Opn} (h : (mdX S c x).2.2 ≠ 0) : (mdX S c x).1 = S ∧ (mdX S c x).2.1 = ⟨0, 0⟩ := by
  unfold mdX at h ⊢
  split
  · exact ⟨rfl, rfl⟩
  · split
    · rename_i h1 h2; rw [if_neg h1, if_pos h2] at h; exact absurd rfl h
    · exact ⟨rfl, rfl⟩
theorem mdX_err (S : Md) (c : Int) (x : Opn) : (mdX S c x).2.2 = if 15 < c then 2 else opChk S.model x := by
  unfold mdX
  split
  · rfl
  · rcases opChk_or S.model x with h | h
    · rw [if_pos h, h]
    · rw [if_neg (by omega), h]
theorem mdY_model (S : Md) (c : Int) (x : Opn) : (mdY S c x).1.model = S.model := by cases S <;> rfl
theorem mdX_model (S : Md) (c : Int) (x : Opn) : (mdX S c x).1.model = S.model := by
  unfold mdX
  split
  · rfl
  · split
    · exact mdY_model S c x
    · rfl
/-- What an operation of a model is. -/
theorem chk_of {m : Int} {x : Opn} (h : opChk m x = 0) : Good x ∧ opM x.f = m := by
  unfold opChk at h
  split at h
  · rename_i h2
    simp only [Bool.and_eq_true, beq_iff_eq] at h2
    exact ⟨(good_iff x).1 h2.1, h2.2⟩
  · cases h
theorem chk_f {m : Int} {x : Opn} (h : opChk m x = 0) : (m = 0 ∧ (x.f = 1 ∨ x.f = 2 ∨ x.f = 3)) ∨ (m = 1 ∧ (x.f = 4 ∨ x.f = 5)) ∨ (m = 2 ∧ (x.f = 6 ∨ x.f = 7 ∨ x.f = 8 ∨ x.f = 9)) ∨ (m = 3 ∧ (x.f = 10 ∨ x.f = 11)) := by
  obtain ⟨hg, hm⟩ := chk_of h
  rcases is_cases hg.is with h | h | h | h | h | h | h | h | h | h | h <;> rw [h] at hm <;> simp [opM] at hm <;> omega
/-- The error that the model itself tells. -/
def mdE : Md → Int → Opn → Int
  | .rg s, _, x => (rgX s x).2.2
  | .qu l, _, x => (quX l x).2.2
  | .mp m, _, x => (ksX m x).2.2
  | .lk s, c, x => (lkX s c x).2.2
theorem mdY_err {S : Md} (hS : S.In) {c : Int} (hc : c ≤ 15) {x : Opn} (h : opChk S.model x = 0) : mdE S c x = 0 := by
  have hf := chk_f h
  have hg := (chk_of h).1
  cases S with
  | rg s =>
    simp only [Md.model] at hf
    show (rgX s x).2.2 = 0
    rcases rgX_err s x with h | h
    · exact h
    · exfalso
      unfold rgX at h
      rcases (by omega : x.f = 1 ∨ x.f = 2 ∨ x.f = 3) with hf | hf | hf <;> rw [hf] at h
      · simp at h
      · simp at h
      · simp only [if_true] at h
        split at h
        · rename_i h2; cases h2
        · split at h
          · rename_i h2; cases h2
          · split at h <;> cases h
  | qu l => show (quX l x).2.2 = 0; rw [quX_err]; exact h
  | mp m =>
    simp only [Md.model] at hf
    show (ksX m x).2.2 = 0
    unfold ksX
    rw [if_neg (by have := hg.k; omega)]
    split
    · rfl
    · split
      · split <;> rfl
      · split
        · rfl
        · split
          · rfl
          · split <;> rfl
  | lk s =>
    show (lkX s c x).2.2 = 0
    have hs : s ≤ 16 := hS.2
    rcases lkX_ways s c x with h1 | h1 | h1 | h1 | h1 | h1
    · have h' : opChk 3 x = 0 := h; omega
    · omega
    · rw [h1.2.2.2.2.2]
    · rw [h1.2.2.2.2.2]
    · rw [h1.2.2.2.2.2]
    · rw [h1.2.2.2.2.2]
theorem mdY_in {S : Md} (hS : S.In) {c : Int} (h0 : 0 ≤ c) (h1 : c ≤ 15) {x : Opn} (hx : x.In) : (mdY S c x).1.In := by
  cases S with
  | rg s => exact rgX_st hS hx
  | qu l => exact quX_in hS hx
  | mp m => exact ksX_in hS hx
  | lk s =>
    have hs : 0 ≤ s ∧ s ≤ 16 := hS
    show 0 ≤ (lkX s c x).1 ∧ (lkX s c x).1 ≤ 16
    rcases lkX_ways s c x with h1 | h1 | h1 | h1 | h1 | h1
    · rw [h1.2]; exact hs
    · rw [h1.2.2]; exact hs
    · rw [h1.2.2.2.2.2]; simp only; omega
    · rw [h1.2.2.2.2.2]; exact hs
    · rw [h1.2.2.2.2.2]; simp only; omega
    · rw [h1.2.2.2.2.2]; exact hs
theorem mdX_in {S : Md} (hS : S.In) {c : Int} (h0 : 0 ≤ c) {x : Opn} (hx : x.In) : (mdX S c x).1.In := by
  unfold mdX
  split
  · exact hS
  · split
    · exact mdY_in hS h0 (by omega) hx
    · exact hS
theorem mdY_len (S : Md) (c : Int) (x : Opn) : (mdY S c x).1.len ≤ S.len + 1 := by
  cases S with
  | qu l => exact quX_len l x
  | _ => exact Nat.zero_le _
theorem mdX_len (S : Md) (c : Int) (x : Opn) : (mdX S c x).1.len ≤ S.len + 1 := by
  unfold mdX
  split
  · exact Nat.le_succ _
  · split
    · exact mdY_len S c x
    · exact Nat.le_succ _
end Go.Proofs.YtbnhcggjcdipeaaGreatDoor
/-
  An object's bytes and its text tell which state of its model it is in; no program.
-/
namespace Go.Proofs.YtbnhcggjcdipeaaGreatDoor
open Go.RowKit
theorem kvBy_nb {m : Kv} (h : KvIn m) : nb (kvBy m) = kvBn m := by
  have hu := kvBn_u8 h
  unfold nb kvBy
  rw [List.map_map]
  conv => rhs; rw [← List.map_id (kvBn m)]
  refine List.map_congr_left fun n hn => ?_
  have := hu n hn
  simp only [Function.comp, UInt8.toNat_ofNat', id]
  omega
theorem kvBy_inj {m n : Kv} (hm : KvIn m) (hn : KvIn n) (h : kvBy m = kvBy n) : m = n := by
  have e : kvBn m = kvBn n := by rw [← kvBy_nb hm, ← kvBy_nb hn, h]
  have := kvD_enc hm
  rw [e, kvD_enc hn] at this
  exact (congrArg Prod.fst this).symm
/-- States of one model are the same just if their bytes are. -/
theorem mdB_inj {S T : Md} (hS : S.In) (hT : T.In) (hm : S.model = T.model) : mdB S = mdB T ↔ S = T := by
  refine ⟨fun h => ?_, fun h => by rw [h]⟩
  cases S <;> cases T <;> simp only [Md.model] at hm <;> first | (exfalso; revert hm; decide) | skip
  · rename_i a b
    have : rgB a = rgB b := h
    rw [← rgN_rgB (show 0 ≤ a ∧ a < 65536 from hS), ← rgN_rgB (show 0 ≤ b ∧ b < 65536 from hT), this]
  · rename_i a b
    rw [(quB_inj a b hS hT).1 h]
  · rename_i a b
    rw [kvBy_inj hS hT h]
  · rename_i a b
    have h2 : lkB a = lkB b := h
    have ha : 0 ≤ a ∧ a ≤ 16 := hS
    have hb : 0 ≤ b ∧ b ≤ 16 := hT
    have := congrArg nb h2
    rw [nb_lkB ha.1 (by omega), nb_lkB hb.1 (by omega)] at this
    simp at this
    rw [this]
theorem itOf_mem : ∀ (n : Nat) (m : Kv), ∀ x ∈ itOf n m, ∃ k : Nat, m[k]? = some (some x.v)
  | n, [], x, h => by cases h
  | n, none :: r, x, h => by
    obtain ⟨k, hk⟩ := itOf_mem (n + 1) r x h
    exact ⟨k + 1, by simpa using hk⟩
  | n, some v :: r, x, h => by
    rcases List.mem_cons.1 h with rfl | h
    · exact ⟨0, rfl⟩
    · obtain ⟨k, hk⟩ := itOf_mem (n + 1) r x h
      exact ⟨k + 1, by simpa using hk⟩
end Go.Proofs.YtbnhcggjcdipeaaGreatDoor
/-
  Any struct by its cells, references and all: loads, stores; the document's object in memory.
-/
namespace Go.Proofs.YtbnhcggjcdipeaaGreatDoor
open Go.RowKit
set_option maxRecDepth 100000
/-- A struct's type, and how many cells it has. -/
structure SK where
  T : TypeId
  s : Nat
  d : TypeDesc
  und : Tryz.prog.underlying T = some d
  row : d.isRow = true
  size : (Tryz.prog.info? T).map (·.size) = some s
/-- Cells of one such struct. -/
def SK.Ok (R : SK) (A : List Value) : Prop := A.length = R.s ∧ ∀ v ∈ A, v.oneCell' = true
theorem SK.Ok.all {R : SK} {A : List Value} (h : R.Ok A) : A.toArray.all (·.oneCell') = true := by rw [← Array.all_toList, List.all_eq_true]; exact h.2
section
variable {ops : Array Oper} {rest : List Oper} {o : Oper} {a : Act} {w : World} {K : Act → World → Prop} {Q : Exit → Act → World → Prop} {S : World → Prop}
theorem SK.wp_load (R : SK) {x : Operand} (ho : o.op = .load R.T x) {g off : Nat} {A : List Value} (hA : R.Ok A) (hx : a.eval x = .pointer (some ⟨g, off, none⟩)) (hr : w.rangeAt g off A) (h : K (a.put o.dst (.agg A.toArray)) w) : o.wp Tryz.prog a w K Q :=
  wp_load_mid R.T x ho g off hx A _ hr R.und R.row (by rw [R.size, hA.1]) h
theorem SK.wpList_load (R : SK) {dst : Option Tmp} {ty : TypeId} {pos : String} {after : Array Edge} {gd : Option (Nat × Bool)} {x : Operand} {g off : Nat} {A : List Value} (hA : R.Ok A)
    (hw : Region.wanted { dst := dst, op := .load R.T x, type := ty, pos := pos, after := after, guard := gd } (yielded ops a.tmps) = true)
    (hx : a.eval x = .pointer (some ⟨g, off, none⟩)) (hr : w.rangeAt g off A) (h : wpList Tryz.prog ops Q rest (a.put dst (.agg A.toArray)) w) :
    wpList Tryz.prog ops Q ({ dst := dst, op := .load R.T x, type := ty, pos := pos, after := after, guard := gd } :: rest) a w :=
  wpList_step fun _ hK => by
    rw [if_pos hw]
    exact R.wp_load rfl hA hx hr (hK _ _ h)
theorem SK.yields (R : SK) {A : List Value} (hA : R.Ok A) (hw : Region.wanted o (yielded ops a.tmps) = true) (x : Operand) (ho : o.op = .load R.T x) (g off : Nat) (hx : a.eval x = .pointer (some ⟨g, off, none⟩)) (hS : ∀ w, S w → w.rangeAt g off A) :
    YieldsIf Tryz.prog ops S o (.agg A.toArray) a :=
  yieldsIf_load_mid (P := Tryz.prog) hw R.T x ho g off hx A _ hS R.und R.row (by rw [R.size, hA.1])
theorem SK.wp_put (R : SK) {x y : Operand} (ho : o.op = .store R.T x y) {g : Nat} {old A : List Value} (hA : R.Ok A) (hO : R.Ok old) {t : TypeId}
    (hx : a.eval x = .pointer (some ⟨g, 0, none⟩)) (hy : a.eval y = .agg A.toArray) (hg : w.heap[g]? = some (.cells old.toArray t (0, 0)))
    (h : ∀ W, W.heap[g]? = some (.cells A.toArray t (0, 0)) → Keeps [g] w W → K (a.put o.dst undef) W) : o.wp Tryz.prog a w K Q :=
  wp_store_row R.T x y ho g A.toArray hx hy t old.toArray hg (by rw [R.size, List.size_toArray, hA.1]) (by rw [List.size_toArray, List.size_toArray, hA.1, hO.1]) hA.all (h _ (setRow_heap w g old.toArray A.toArray t (0, 0) hg) ((Keeps.refl [g] w).setRow g _ (.inl (by simp))))
theorem SK.wpList_put (R : SK) {dst : Option Tmp} {ty : TypeId} {pos : String} {after : Array Edge} {x y : Operand} {g : Nat} {old A : List Value} (hA : R.Ok A) (hO : R.Ok old) {t : TypeId}
    (hx : a.eval x = .pointer (some ⟨g, 0, none⟩)) (hy : a.eval y = .agg A.toArray) (hg : w.heap[g]? = some (.cells old.toArray t (0, 0)))
    (h : ∀ W, W.heap[g]? = some (.cells A.toArray t (0, 0)) → Keeps [g] w W → wpList Tryz.prog ops Q rest (a.put dst undef) W) :
    wpList Tryz.prog ops Q ({ dst := dst, op := .store R.T x y, type := ty, pos := pos, after := after, guard := none } :: rest) a w :=
  wpList_plain rfl fun _ hK => R.wp_put rfl hA hO hx hy hg (fun W h1 h2 => hK _ _ (h W h1 h2))
/-- One cell of a struct is stored. -/
theorem run_put13 {ty : TypeId} (hi : (Tryz.prog.info? ty).map (·.size) = some 1) {g j : Nat} {v : Value} {A : Array Value} {t : TypeId} (hg : w.heap[g]? = some (.cells A t (0, 0))) (hj : j < A.size) (h1 : v.oneCell' = true) :
    (storeVar ty ⟨g, j, none⟩ v).run Tryz.prog w = .ok () (w.setCell ⟨g, j, none⟩ v) := by
  have hcell : w.cell? ⟨g, j, none⟩ = some A[j] := by simp [World.cell?, hg, hj]
  have hfr : w.frozen? ⟨g, j, none⟩ = false := by simp [World.frozen?, hg]
  have := run_storeCells_cells (P := Tryz.prog) g j [v] 0 w (fun k hk => by
    obtain rfl : k = 0 := by simpa using hk
    show (w.cell? ⟨g, j, none⟩).isSome = true
    rw [hcell]; rfl) (fun k hk => by
    obtain rfl : k = 0 := by simpa using hk
    exact hfr) (fun u hu => by simp at hu; subst hu; exact h1)
  have hc : v.cells = #[v] := by cases v <;> first | rfl | cases h1
  cases hq : Tryz.prog.info? ty with
  | none => simp [hq] at hi
  | some i =>
    have hs : i.size = 1 := by simpa [hq] using hi
    simp only [Nat.add_zero] at this
    simp [storeVar, sizeOf, typeInfo, hq, hc, hs, this]
    rfl
end
/-- Cells that stand in a block. -/
theorem block_range {w : World} {g : Nat} {A : List Value} {t : TypeId} (h : w.heap[g]? = some (.cells A.toArray t (0, 0))) : w.rangeAt g 0 A := fun j v hv => by
  rw [Nat.zero_add]
  exact cell_lit h j (by simpa using hv)
theorem results_sk {fn : Func} {p : Tmp} (R : SK) (h : fn.results = #[.cell p R.T]) (tmps : Array Value) (w : World) (b : Nat) {A : List Value} (hA : R.Ok A) {t : TypeId}
    (hp : tmps.getD p undef = .pointer (some ⟨b, 0, none⟩)) (hb : w.heap[b]? = some (.cells A.toArray t (0, 0))) : (results fn tmps).run Tryz.prog w = .ok (.agg A.toArray) w := by
  have h1 : (loadVar R.T ⟨b, 0, none⟩).run Tryz.prog w = .ok (.agg A.toArray) w := run_loadVar_mid w b 0 R.T A _ (block_range hb) R.und R.row (by rw [R.size, hA.1])
  have hp' : tmps[p]?.getD undef = .pointer (some ⟨b, 0, none⟩) := by simpa using hp
  simp only [results, h]
  simp [Sem.run_bind, Result.andThen, hp', asAddr, h1]
/-- A struct and a number are handed back. -/
theorem results_sk1 {fn : Func} {p u : Tmp} (R : SK) (h : fn.results = #[.cell p R.T, .tmp u]) (tmps : Array Value) (w : World) (b : Nat) {A : List Value} (hA : R.Ok A) {t : TypeId}
    (hp : tmps.getD p undef = .pointer (some ⟨b, 0, none⟩)) (hb : w.heap[b]? = some (.cells A.toArray t (0, 0))) : (results fn tmps).run Tryz.prog w = .ok (.tuple #[.agg A.toArray, tmps.getD u undef]) w := by
  have h1 : (loadVar R.T ⟨b, 0, none⟩).run Tryz.prog w = .ok (.agg A.toArray) w := run_loadVar_mid w b 0 R.T A _ (block_range hb) R.und R.row (by rw [R.size, hA.1])
  have hp' : tmps[p]?.getD undef = .pointer (some ⟨b, 0, none⟩) := by simpa using hp
  simp only [results, h]
  simp [Sem.run_bind, Result.andThen, hp', asAddr, h1]
/-- A struct, an answer, a number are handed back. -/
theorem results_sk3 {fn : Func} {p q u : Tmp} (R : SK) (h : fn.results = #[.cell p R.T, .cell q 25, .tmp u]) (tmps : Array Value) (w : World) (b c : Nat) {A : List Value} (hA : R.Ok A) (y : Ans) {t t2 : TypeId}
    (hp : tmps.getD p undef = .pointer (some ⟨b, 0, none⟩)) (hb : w.heap[b]? = some (.cells A.toArray t (0, 0)))
    (hq : tmps.getD q undef = .pointer (some ⟨c, 0, none⟩)) (hc : w.heap[c]? = some (.cells (ansC y).toArray t2 (0, 0))) :
    (results fn tmps).run Tryz.prog w = .ok (.tuple #[.agg A.toArray, .agg (ansC y).toArray, tmps.getD u undef]) w := by
  have h1 : (loadVar R.T ⟨b, 0, none⟩).run Tryz.prog w = .ok (.agg A.toArray) w := run_loadVar_mid w b 0 R.T A _ (block_range hb) R.und R.row (by rw [R.size, hA.1])
  have h2 : (loadVar 25 ⟨c, 0, none⟩).run Tryz.prog w = .ok (.agg (ansC y).toArray) w := run_loadVar_row w c t2 25 _ _ _ hc Tryz.underlying25 rfl (by kernel_rfl)
  have hp' : tmps[p]?.getD undef = .pointer (some ⟨b, 0, none⟩) := by simpa using hp
  have hq' : tmps[q]?.getD undef = .pointer (some ⟨c, 0, none⟩) := by simpa using hq
  simp only [results, h]
  simp [Sem.run_bind, Result.andThen, hp', hq', asAddr, h1, h2]
/-- An answer. -/
def skR : SK := { T := 25, s := 2, d := _, und := Tryz.underlying25, row := rfl, size := by kernel_rfl }
theorem ansC_ok (y : Ans) : skR.Ok (ansC y) := ⟨rfl, ansC_one y⟩
section
variable {ops : Array Oper} {rest : List Oper} {a : Act} {w : World} {Q : Exit → Act → World → Prop}
end
end Go.Proofs.YtbnhcggjcdipeaaGreatDoor
/-
  The document's object: Same.
-/
namespace Go.Proofs.YtbnhcggjcdipeaaGreatDoor
open Go.RowKit
set_option maxHeartbeats 8000000
set_option maxRecDepth 100000
theorem bs_beq (l m : List UInt8) : ((bs l).toList == (bs m).toList) = decide (l = m) := by
  rw [toL_bs, toL_bs]
  by_cases h : l = m
  · subst h; simp
  · rw [decide_eq_false h]
    simpa using h
theorem two_blocks (w : World) (A B : Array Value) (t u : TypeId) : ((w.alloc (.cells A t)).alloc (.cells B u)).heap.size = w.heap.size + 2 := by
  rw [show ((w.alloc (.cells A t)).alloc (.cells B u)).heap.size = (w.alloc (.cells A t)).heap.size + 1 from Array.size_push _, show (w.alloc (.cells A t)).heap.size = w.heap.size + 1 from Array.size_push _]
end Go.Proofs.YtbnhcggjcdipeaaGreatDoor
/-
  The document's object: Step.
-/
namespace Go.Proofs.YtbnhcggjcdipeaaGreatDoor
open Go.RowKit
theorem four_vars (w : World) (A B C D : Array Value) (t u v x : TypeId) {W : World} (hW : W = (((w.alloc (.cells A t)).alloc (.cells B u)).alloc (.cells C v)).alloc (.cells D x)) :
    W.heap[w.heap.size]? = some (.cells A t (0, 0)) ∧ W.heap[w.heap.size + 1]? = some (.cells B u (0, 0)) ∧ W.heap[w.heap.size + 1 + 1]? = some (.cells C v (0, 0)) ∧ W.heap[w.heap.size + 1 + 1 + 1]? = some (.cells D x (0, 0)) ∧ W.heap.size = w.heap.size + 4 ∧ Keeps [] w W := by
  subst hW
  obtain ⟨_, a1, a2, a3⟩ := two_vars w A B t u
  have e2 := two_blocks w A B t u
  obtain ⟨_, b1, b2, b3⟩ := two_vars ((w.alloc (.cells A t)).alloc (.cells B u)) C D v x
  have e4 := two_blocks ((w.alloc (.cells A t)).alloc (.cells B u)) C D v x
  rw [e2] at b1 b2 e4
  exact ⟨b3.heap a1 (by simp), b3.heap a2 (by simp), b1, b2, e4, a3.trans b3 (FSub.refl _ _)⟩
set_option maxHeartbeats 8000000
set_option maxRecDepth 100000
end Go.Proofs.YtbnhcggjcdipeaaGreatDoor
/-
  The document's object: Text.
-/
namespace Go.Proofs.YtbnhcggjcdipeaaGreatDoor
open Go.RowKit
theorem bs_cat (l m : List UInt8) : bs l ++ bs m = bs (l ++ m) := (bs_app l m).symm
theorem spT_len : ∀ {l : List (List UInt8)} {n : Nat}, (∀ x ∈ l, x.length ≤ n) → (spT l).length ≤ l.length * (n + 1)
  | [], _, _ => by simp [spT]
  | [x], n, h => by have := h x (by simp); simp [spT]; omega
  | x :: y :: r, n, h => by
    have h1 := h x (by simp)
    have h2 := spT_len (l := y :: r) (n := n) (fun z hz => h z (List.mem_cons_of_mem _ hz))
    show (x ++ 32 :: spT (y :: r)).length ≤ _
    rw [List.length_append, List.length_cons, List.length_cons, Nat.add_mul]
    omega
theorem dec_len5 {v : Int} (h : v < 65536) : (dec v).length ≤ 5 := by
  have := dec_length_le 4 v.toNat (by omega)
  exact this
theorem itT_len {x : It} (h0 : 0 ≤ x.k) (h1 : x.k < 8) (h2 : x.v < 65536) : (itT x).length ≤ 7 := by
  have a := dec_length_le 0 x.k.toNat (by omega)
  have b := dec_len5 h2
  show (dec x.k ++ 58 :: dec x.v).length ≤ 7
  rw [List.length_append, List.length_cons]
  have a' : (dec x.k).length ≤ 1 := a
  omega
/-- The items of a map's first keys. -/
def mpT (a : Kv) (k : Nat) : List UInt8 := spT ((itOf 0 (a.take k)).map itT)
theorem mpT_len {a : Kv} (h : KvIn a) {k : Nat} (hk : k ≤ 8) : (mpT a k).length ≤ 64 := by
  have h1 := itOf_len 0 (a.take k)
  have h2 : (a.take k).length ≤ 8 := by rw [List.length_take]; omega
  have h3 := spT_len (l := (itOf 0 (a.take k)).map itT) (n := 7) (fun x hx => by
    obtain ⟨y, hy, rfl⟩ := List.mem_map.1 hx
    have hy1 := itOf_keys 0 (a.take k) y hy
    obtain ⟨j, hj⟩ := itOf_mem 0 (a.take k) y hy
    have hv := h.rng j y.v (by rw [List.getElem?_take] at hj; split at hj <;> first | exact hj | cases hj)
    exact itT_len (by omega) (by omega) hv.2)
  rw [List.length_map] at h3
  calc _ ≤ (itOf 0 (a.take k)).length * (7 + 1) := h3
    _ ≤ 8 * 8 := Nat.mul_le_mul_right 8 (by omega)
    _ = 64 := rfl
section
variable {ops : Array Oper} {S : World → Prop} {o : Oper} {a : Act}
end
set_option maxHeartbeats 8000000
set_option maxRecDepth 100000
end Go.Proofs.YtbnhcggjcdipeaaGreatDoor
/-
  What the program's objects must tell; the law's alike, over any such program.
-/
namespace Go.Proofs.YtbnhcggjcdipeaaGreatDoor
open Go.RowKit
/-- The program's State: how many cells it has, and the zero one (to be set anew for each program). -/
def skM : SK := { T := 30, s := 1, d := _, und := Tryz.underlying30, row := rfl, size := by kernel_rfl }
def mdZ : List Value := [.nilIface]
/-- The same, as a walk shows it. -/
abbrev mdZA : Array Value := #[.nilIface]
theorem mdZ_ok : skM.Ok mdZ := ⟨rfl, fun v hv => by
  simp only [mdZ, List.mem_cons, List.not_mem_nil, or_false] at hv
  subst hv; rfl⟩
/-! What is told of an object, or of none. -/
def oModel : Option Md → Int
  | some S => S.model
  | none => 0
def oB : Option Md → List UInt8
  | some S => mdB S
  | none => []
def oT : Option Md → List UInt8
  | some S => mdT S
  | none => []
def oX : Option Md → Int → Opn → Option Md × Ans × Int
  | some S, c, x => (some (mdX S c x).1, (mdX S c x).2.1, (mdX S c x).2.2)
  | none, _, _ => (none, ⟨0, 0⟩, 1)
def oSame : Option Md → Option Md → Bool
  | some S, some T => decide (S.model = T.model ∧ mdB S = mdB T)
  | none, none => true
  | _, _ => false
def oInit : Option Md → Bool
  | some S => decide (mdB S = mdB (mdInit S.model))
  | none => false
def oLen : Option Md → Nat
  | some S => S.len
  | none => 0
def oNew (m : Int) : Option Md := if m ≤ 3 then some (mdInit m) else none
/-- What bytes are, of a model; the error. -/
def mdD (m : Int) (b : List UInt8) : Option Md × Int :=
  if m = 0 then (if b.length = 2 then (some (.rg (rgN b)), 0) else (none, 4))
  else if m = 1 then (if b.length % 2 = 1 then (none, 4) else (some (.qu (quN b)), 0))
  else if m = 2 then (if (kvD (nb b)).2 = 0 then (some (.mp (kvD (nb b)).1), 0) else (none, 4))
  else if m = 3 then (if (lkD b).2 = 0 then (some (.lk (lkD b).1), 0) else (none, 4))
  else (none, 10)
def mdIdle (m f : Int) : Bool := decide (m = 0 ∧ f = 1 ∨ m = 2 ∧ f = 6)
/-- What the program's objects tell; G: what its package-level variables hold. -/
structure MdProg (G : World → Prop) where
  At : World → Value → Option Md → Prop
  foot : Value → List Nat
  keepG : ∀ {w w' : World}, G w → Keeps [] w w' → G w'
  keep : ∀ {w w' : World} {F : List Nat} {st : Value} {O : Option Md}, At w st O → Keeps F w w' → (∀ q ∈ foot st, q ∉ F) → At w' st O
  old : ∀ {w : World} {st : Value} {O : Option Md}, At w st O → ∀ q ∈ foot st, q < w.heap.size
  cells : ∀ {w : World} {st : Value} {O : Option Md}, At w st O → ∃ A : List Value, st = .agg A.toArray ∧ skM.Ok A
  in_ : ∀ {w : World} {st : Value} {S : Md}, At w st (some S) → S.In
  zero : ∀ w, At w (.agg mdZ.toArray) none
  new : ∀ w m, G w → 0 ≤ m ∧ m < 256 → Calls Tryz.prog 30 #[.int .u8 m] w fun e w' => ∃ st, e = .returned (.tuple #[st, .int .i64 (if m ≤ 3 then 0 else 10)]) ∧ At w' st (oNew m) ∧ Keeps [] w w' ∧ ∀ q ∈ foot st, w.heap.size ≤ q
  model : ∀ w st O, G w → At w st O → Calls Tryz.prog 32 #[st] w fun e w' => e = .returned (.tuple #[.int .u8 (oModel O), .bool O.isSome]) ∧ Keeps [] w w'
  step : ∀ w st O c x, G w → At w st O → oLen O ≤ 1000 → 0 ≤ c ∧ c < 256 → x.In → Calls Tryz.prog 33 #[st, .int .u8 c, x.val] w fun e w' =>
    ∃ st', e = .returned (.tuple #[st', .agg (ansC (oX O c x).2.1).toArray, .int .i64 (oX O c x).2.2]) ∧ At w' st' (oX O c x).1 ∧ Keeps [] w w' ∧ FSub (foot st') (foot st) w.heap.size
  initial : ∀ w st O, G w → At w st O → oLen O ≤ 1000 → Calls Tryz.prog 41 #[st] w fun e w' => e = .returned (.bool (oInit O)) ∧ Keeps [] w w'
  enc : ∀ w st O, G w → At w st O → oLen O ≤ 1000 → Calls Tryz.prog 22 #[st] w fun e w' => e = .returned (.string (bs (oB O))) ∧ Keeps [] w w'
  text : ∀ w st O, G w → At w st O → oLen O ≤ 1000 → Calls Tryz.prog 48 #[st] w fun e w' => e = .returned (.string (bs (oT O))) ∧ Keeps [] w w'
variable {G : World → Prop}
/-- What its Same tells. -/
structure MdSame (R : MdProg G) : Prop where
  same : ∀ w st O st2 P, G w → R.At w st O → R.At w st2 P → oLen O ≤ 1000 → oLen P ≤ 1000 → Calls Tryz.prog 45 #[st, st2] w fun e w' => e = .returned (.bool (oSame O P)) ∧ Keeps [] w w'
/-- What its Decode tells. -/
structure MdDec (R : MdProg G) : Prop where
  dec : ∀ w m b, G w → 0 ≤ m ∧ m < 256 → b.length ≤ 1000 → Calls Tryz.prog 40 #[.int .u8 m, .string (bs b)] w fun e w' =>
    ∃ st, e = .returned (.tuple #[st, .int .i64 (mdD m b).2]) ∧ R.At w' st (mdD m b).1 ∧ Keeps [] w w' ∧ ∀ q ∈ R.foot st, w.heap.size ≤ q
theorem MdProg.new_ (R : MdProg G) {w w' : World} {st : Value} {O : Option Md} (h : R.At w st O) (hk : Keeps [] w w') : R.At w' st O := R.keep h hk (by simp)
section
variable {ops : Array Oper} {rest : List Oper} {a : Act} {w : World} {Q : Exit → Act → World → Prop}
theorem wpList_loadM {dst : Option Tmp} {ty : TypeId} {pos : String} {after : Array Edge} {gd : Option (Nat × Bool)} {x : Operand} {g off : Nat} {A : List Value} (hA : skM.Ok A)
    (hw : Region.wanted { dst := dst, op := .load 30 x, type := ty, pos := pos, after := after, guard := gd } (yielded ops a.tmps) = true)
    (hx : a.eval x = .pointer (some ⟨g, off, none⟩)) (hr : w.rangeAt g off A) (h : wpList Tryz.prog ops Q rest (a.put dst (.agg A.toArray)) w) :
    wpList Tryz.prog ops Q ({ dst := dst, op := .load 30 x, type := ty, pos := pos, after := after, guard := gd } :: rest) a w := skM.wpList_load hA hw hx hr h
theorem wpList_putM {dst : Option Tmp} {ty : TypeId} {pos : String} {after : Array Edge} {x y : Operand} {g : Nat} {old A : List Value} (hA : skM.Ok A) (hO : skM.Ok old) {t : TypeId}
    (hx : a.eval x = .pointer (some ⟨g, 0, none⟩)) (hy : a.eval y = .agg A.toArray) (hg : w.heap[g]? = some (.cells old.toArray t (0, 0)))
    (h : ∀ W, W.heap[g]? = some (.cells A.toArray t (0, 0)) → Keeps [g] w W → wpList Tryz.prog ops Q rest (a.put dst undef) W) :
    wpList Tryz.prog ops Q ({ dst := dst, op := .store 30 x y, type := ty, pos := pos, after := after, guard := none } :: rest) a w := skM.wpList_put hA hO hx hy hg h
end
end Go.Proofs.YtbnhcggjcdipeaaGreatDoor
/-
  The law's behind, over any program's objects.
-/
namespace Go.Proofs.YtbnhcggjcdipeaaGreatDoor
open Go.RowKit
set_option maxRecDepth 100000
section
variable {ops : Array Oper} {S : World → Prop} {o : Oper} {a : Act} {w : World} {K : Act → World → Prop} {Q : Exit → Act → World → Prop}
theorem run_allocM (w : World) : (Instr.alloc 30 true (.tuple #[])).run Tryz.prog w = .ok (.pointer (some ⟨w.heap.size, 0, none⟩)) (w.alloc (.cells mdZ.toArray 30)) := by kernel_rfl
theorem wp_allocM (ho : o.op = .alloc 30) (h : K (a.put o.dst (.pointer (some ⟨w.heap.size, 0, none⟩))) (w.alloc (.cells mdZ.toArray 30))) : o.wp Tryz.prog a w K Q := by
  unfold Oper.wp execOp
  simp only [ho, Sem.run_bind, run_allocM, Result.andThen_ok, Sem.run_pure]
  exact h
end
variable {G : World → Prop}
set_option maxHeartbeats 8000000
end Go.Proofs.YtbnhcggjcdipeaaGreatDoor
/-
  The law's behind of no model, and its awake, over any program's objects.
-/
namespace Go.Proofs.YtbnhcggjcdipeaaGreatDoor
open Go.RowKit
section
variable {ops : Array Oper} {rest : List Oper} {a : Act} {w : World} {Q : Exit → Act → World → Prop}
end
variable {G : World → Prop}
set_option maxHeartbeats 8000000
set_option maxRecDepth 100000
theorem dec_lit {n : Nat} (h : n < 10) : dec (n : Int) = [UInt8.ofNat (48 + n)] := by
  show Lib.decDigits n = _
  rw [dec_small h, Nat.mod_eq_of_lt h]
end Go.Proofs.YtbnhcggjcdipeaaGreatDoor
/-
  The law ModelSteps, over any program's objects.
-/
namespace Go.Proofs.YtbnhcggjcdipeaaGreatDoor
open Go.RowKit
set_option maxRecDepth 100000
section
variable {o : Oper} {a : Act} {w : World} {K : Act → World → Prop} {Q : Exit → Act → World → Prop}
end
section
variable {ops : Array Oper} {rest : List Oper} {a : Act} {w : World} {Q : Exit → Act → World → Prop}
theorem wpList_loadN13 {dst : Option Tmp} {ty : TypeId} {pos : String} {after : Array Edge} {gd : Option (Nat × Bool)} {x : Operand} {g : Nat} {y : Ans}
    (hw : Region.wanted { dst := dst, op := .load 25 x, type := ty, pos := pos, after := after, guard := gd } (yielded ops a.tmps) = true)
    (hx : a.eval x = .pointer (some ⟨g, 0, none⟩)) (hr : w.heap[g]? = some (.cells (ansC y).toArray 25 (0, 0))) (h : wpList Tryz.prog ops Q rest (a.put dst (.agg #[.int .u8 y.k, .int .u16 y.v])) w) :
    wpList Tryz.prog ops Q ({ dst := dst, op := .load 25 x, type := ty, pos := pos, after := after, guard := gd } :: rest) a w := skR.wpList_load (ansC_ok y) hw hx (block_range hr) h
end
/-- A region's end, told once: what it puts into which slot, and the facts. -/
theorem wp_join13 {P : Program} {c : Code} {Q : Exit → Act → World → Prop} {a : Act} {w : World} (f : Nat → Nat → Value → List Value → Act → Act) (F : Nat → Nat → Value → World → Prop)
    (h : c.wp P (fun e a' w' => e = .normal ∧ ∃ qa qb zv us, a' = f qa qb zv us a ∧ F qa qb zv w') a w)
    (k : ∀ qa qb zv us w', F qa qb zv w' → Q .normal (f qa qb zv us a) w') : c.wp P Q a w :=
  Code.wp_mono (fun e a' w' ⟨he, qa, qb, zv, us, ha, hf⟩ => by subst he; subst ha; exact k qa qb zv us w' hf) h
variable {G : World → Prop}
set_option maxHeartbeats 8000000
end Go.Proofs.YtbnhcggjcdipeaaGreatDoor
/-
  A world of eight objects of one model, as data: its steps, its bytes, its text; no program.
-/
namespace Go.Proofs.YtbnhcggjcdipeaaGreatDoor
open Go.RowKit
structure Wd where
  m : Int
  l : List Md
structure Wd.In (W : Wd) : Prop where
  m0 : 0 ≤ W.m
  m3 : W.m ≤ 3
  n : W.l.length = 8
  each : ∀ S ∈ W.l, S.model = W.m ∧ S.In
def wd0 (m : Int) : Wd := ⟨m, List.replicate 8 (mdInit m)⟩
def Wd.at (W : Wd) (o : Nat) : Md := W.l.getD o (mdInit W.m)
/-- None of its lists is longer. -/
def Wd.upto (W : Wd) (k : Nat) : Prop := ∀ S ∈ W.l, S.len ≤ k
/-- The object that an operation is told to. -/
def wObj (x : Opn) : Nat := if 7 < x.o then 0 else x.o.toNat
def Wd.put (W : Wd) (o : Nat) (S : Md) : Wd := ⟨W.m, W.l.set o S⟩
/-- A step: the world behind it, the answer, the error. -/
def wdX (W : Wd) (c : Int) (x : Opn) : Wd × Ans × Int :=
  if (mdX (W.at (wObj x)) c x).2.2 = 0 then (W.put (wObj x) (mdX (W.at (wObj x)) c x).1, (mdX (W.at (wObj x)) c x).2.1, 0)
  else (W, ⟨0, 0⟩, (mdX (W.at (wObj x)) c x).2.2)
theorem wObj_lt (x : Opn) : wObj x < 8 := by unfold wObj; split <;> omega
theorem wd0_in {m : Int} (h0 : 0 ≤ m) (h3 : m ≤ 3) : (wd0 m).In :=
  ⟨h0, h3, rfl, fun S hS => by rw [(List.mem_replicate.1 hS).2]; exact ⟨mdInit_model h0 h3, mdInit_in m⟩⟩
theorem wd0_upto (m : Int) (k : Nat) : (wd0 m).upto k := fun S hS => by rw [(List.mem_replicate.1 hS).2, mdInit_len]; exact Nat.zero_le _
theorem wd0_at (m : Int) (o : Nat) : (wd0 m).at o = mdInit m := by
  show (List.replicate 8 (mdInit m)).getD o (mdInit m) = _
  rw [List.getD_eq_getElem?_getD, List.getElem?_replicate]
  split <;> rfl
theorem Wd.at_mem {W : Wd} (h : W.In) {o : Nat} (ho : o < 8) : W.at o ∈ W.l := by
  have h1 : o < W.l.length := by rw [h.n]; exact ho
  have e : W.at o = W.l[o] := by show W.l.getD o _ = _; rw [List.getD_eq_getElem?_getD, List.getElem?_eq_getElem h1]; rfl
  rw [e]; exact List.getElem_mem h1
theorem Wd.at_in {W : Wd} (h : W.In) {o : Nat} (ho : o < 8) : (W.at o).model = W.m ∧ (W.at o).In := h.each _ (Wd.at_mem h ho)
theorem Wd.put_at {W : Wd} (h : W.In) {o : Nat} (ho : o < 8) (S : Md) (p : Nat) : (W.put o S).at p = if p = o then S else W.at p := by
  show (W.l.set o S).getD p (mdInit W.m) = if p = o then S else W.l.getD p (mdInit W.m)
  simp only [List.getD_eq_getElem?_getD, List.getElem?_set]
  have h1 : o < W.l.length := by rw [h.n]; exact ho
  by_cases hp : p = o
  · subst hp; simp [h1]
  · rw [if_neg (fun e => hp e.symm), if_neg hp]
theorem Wd.put_in {W : Wd} (h : W.In) {o : Nat} {S : Md} (hm : S.model = W.m) (hS : S.In) : (W.put o S).In :=
  ⟨h.m0, h.m3, by show (W.l.set o S).length = 8; rw [List.length_set, h.n], fun T hT => by
    rcases List.mem_or_eq_of_mem_set hT with h1 | h1
    · exact h.each T h1
    · rw [h1]; exact ⟨hm, hS⟩⟩
theorem Wd.put_upto {W : Wd} {k : Nat} (h : W.upto k) {o : Nat} {S : Md} (hS : S.len ≤ k) : (W.put o S).upto k := fun T hT => by
  rcases List.mem_or_eq_of_mem_set hT with h1 | h1
  · exact h T h1
  · rw [h1]; exact hS
/-- Worlds with the same objects are the same. -/
theorem Wd.ext_at {W V : Wd} (hW : W.In) (hV : V.In) (hm : W.m = V.m) (h : ∀ o, o < 8 → W.at o = V.at o) : W = V := by
  obtain ⟨m, l⟩ := W; obtain ⟨n, k⟩ := V
  simp only at hm
  subst hm
  have e : l = k := List.ext_getElem (by rw [hW.n, hV.n]) fun o h1 h2 => by
    have := h o (by have := hW.n; simp only at this; omega)
    simp only [Wd.at, List.getD_eq_getElem?_getD, List.getElem?_eq_getElem h1, List.getElem?_eq_getElem h2] at this
    exact this
  rw [e]
theorem wdX_m (W : Wd) (c : Int) (x : Opn) : (wdX W c x).1.m = W.m := by unfold wdX; split <;> rfl
theorem wdX_err (W : Wd) (c : Int) (x : Opn) : (wdX W c x).2.2 = if 15 < c then 2 else opChk (W.at (wObj x)).model x := by
  rw [← mdX_err]
  unfold wdX
  split
  · rename_i h; exact h.symm
  · rfl
/-- The error doesn't hang on the states. -/
theorem wdX_err' {W : Wd} (h : W.In) (c : Int) (x : Opn) : (wdX W c x).2.2 = if 15 < c then 2 else opChk W.m x := by
  rw [wdX_err, (Wd.at_in h (wObj_lt x)).1]
theorem wdX_bad {W : Wd} {c : Int} {x : Opn} (h : (wdX W c x).2.2 ≠ 0) : (wdX W c x).1 = W ∧ (wdX W c x).2.1 = ⟨0, 0⟩ := by
  unfold wdX at h ⊢
  split
  · rename_i h1; rw [if_pos h1] at h; exact absurd rfl h
  · exact ⟨rfl, rfl⟩
theorem wdX_ok {W : Wd} {c : Int} {x : Opn} (h : (wdX W c x).2.2 = 0) : (mdX (W.at (wObj x)) c x).2.2 = 0 ∧ wdX W c x = (W.put (wObj x) (mdX (W.at (wObj x)) c x).1, (mdX (W.at (wObj x)) c x).2.1, 0) := by
  have h1 : (mdX (W.at (wObj x)) c x).2.2 = 0 := by rw [mdX_err]; rw [wdX_err] at h; exact h
  refine ⟨h1, ?_⟩
  unfold wdX
  rw [if_pos h1]
/-- An operation that is taken is told to its own object. -/
theorem wdX_obj {W : Wd} {c : Int} {x : Opn} (hx : x.In) (h : (wdX W c x).2.2 = 0) : x.o = (wObj x : Int) := by
  rw [wdX_err] at h
  split at h
  · cases h
  · have := (chk_of h).1.o
    have := hx.o0
    unfold wObj
    rw [if_neg (by omega)]
    omega
theorem wdX_in {W : Wd} (h : W.In) {c : Int} (h0 : 0 ≤ c) {x : Opn} (hx : x.In) : (wdX W c x).1.In := by
  unfold wdX
  have h1 := Wd.at_in h (wObj_lt x)
  split
  · exact Wd.put_in h (by rw [mdX_model]; exact h1.1) (mdX_in h1.2 h0 hx)
  · exact h
theorem wdX_upto {W : Wd} (h : W.In) {k : Nat} (hk : W.upto k) (c : Int) (x : Opn) : (wdX W c x).1.upto (k + 1) := by
  unfold wdX
  split
  · have h1 := hk _ (Wd.at_mem h (wObj_lt x))
    exact Wd.put_upto (fun S hS => Nat.le_succ_of_le (hk S hS)) (Nat.le_trans (mdX_len _ c x) (by omega))
  · exact fun S hS => Nat.le_succ_of_le (hk S hS)
/-- Those that are listed: number and state. -/
def liW (m : Int) : Nat → List Md → List (Nat × Md)
  | _, [] => []
  | i, S :: r => if mdB S = mdB (mdInit m) then liW m (i + 1) r else (i, S) :: liW m (i + 1) r
def Wd.li (W : Wd) : List (Nat × Md) := liW W.m 0 W.l
def itB (p : Nat × Md) : List UInt8 := UInt8.ofNat p.1 :: UInt8.ofNat ((mdB p.2).length / 256) :: UInt8.ofNat ((mdB p.2).length % 256) :: mdB p.2
def wtT (p : Nat × Md) : List UInt8 := dec (p.1 : Int) ++ 61 :: mdT p.2
/-- Its bytes. -/
def wdB (W : Wd) : List UInt8 := W.li.flatMap itB
/-- Its text. -/
def wdT (W : Wd) : List UInt8 := if W.li = [] then [45] else spT (W.li.map wtT)
theorem liW_mem (m : Int) : ∀ (i : Nat) (l : List Md), ∀ p ∈ liW m i l, i ≤ p.1 ∧ p.1 < i + l.length ∧ p.2 ∈ l ∧ mdB p.2 ≠ mdB (mdInit m)
  | i, [], p, h => by cases h
  | i, S :: r, p, h => by
    unfold liW at h
    split at h
    · obtain ⟨h1, h2, h3, h4⟩ := liW_mem m (i + 1) r p h
      exact ⟨by omega, by simp only [List.length_cons]; omega, List.mem_cons_of_mem _ h3, h4⟩
    · rename_i hS
      rcases List.mem_cons.1 h with rfl | h
      · exact ⟨Nat.le_refl _, by simp only [List.length_cons]; omega, List.mem_cons_self, hS⟩
      · obtain ⟨h1, h2, h3, h4⟩ := liW_mem m (i + 1) r p h
        exact ⟨by omega, by simp only [List.length_cons]; omega, List.mem_cons_of_mem _ h3, h4⟩
theorem Wd.li_mem {W : Wd} (h : W.In) : ∀ p ∈ W.li, p.1 < 8 ∧ p.2.model = W.m ∧ p.2.In ∧ mdB p.2 ≠ mdB (mdInit W.m) := fun p hp => by
  obtain ⟨-, h2, h3, h4⟩ := liW_mem W.m 0 W.l p hp
  rw [h.n] at h2
  exact ⟨by omega, (h.each _ h3).1, (h.each _ h3).2, h4⟩
end Go.Proofs.YtbnhcggjcdipeaaGreatDoor
/-
  A world's bytes and text tell it; what bytes are, as data; no program.
-/
namespace Go.Proofs.YtbnhcggjcdipeaaGreatDoor
open Go.RowKit
theorem mdB_short {S : Md} (h : S.In) {k : Nat} (hk : S.len ≤ k) : (mdB S).length ≤ 2 * k + 300 := by
  cases S with
  | rg s => show (rgB s).length ≤ _; rw [rgB_len]; omega
  | qu l => show (quB l).length ≤ _; rw [quB_len]; have : l.length ≤ k := hk; omega
  | mp m =>
    show ((kvBn m).map _).length ≤ _
    rw [List.length_map]
    have h1 := kvR_len m
    have h2 : m.length = 8 := h.1
    show (kvR m).length + 1 ≤ _
    omega
  | lk s => show 1 ≤ _; omega
/-- The object that the first byte names, and how many bytes its state has. -/
def bO (b : List UInt8) : Nat := (b.getD 0 0).toNat
def bL (b : List UInt8) : Nat := 256 * (b.getD 1 0).toNat + (b.getD 2 0).toNat
/-- What bytes are: n rounds at most, the states so far, the number last told. -/
def wdD (m : Int) : Nat → List Md → Int → List UInt8 → Option (List Md) × Int
  | 0, l, _, _ => (some l, 0)
  | n + 1, l, last, b =>
    if b = [] then (some l, 0)
    else if b.length < 3 ∨ b.length < 3 + bL b then (none, 5)
    else if 7 < bO b ∨ (bO b : Int) ≤ last then (none, 4)
    else match (mdD m ((b.drop 3).take (bL b))).1 with
      | none => (none, (mdD m ((b.drop 3).take (bL b))).2)
      | some S => if mdB S = mdB (mdInit m) then (none, 4) else wdD m n (l.set (bO b) S) (bO b) (b.drop (3 + bL b))
/-- The world that bytes are; the error. -/
def wdDec (m : Int) (b : List UInt8) : Option Wd × Int :=
  if m ≤ 3 then ((wdD m b.length (wd0 m).l (-1) b).1.map fun l => ⟨m, l⟩, (wdD m b.length (wd0 m).l (-1) b).2) else (none, 10)
theorem wdD_nil (m : Int) (n : Nat) (l : List Md) (last : Int) : wdD m n l last [] = (some l, 0) := by
  cases n with
  | zero => rfl
  | succ n => unfold wdD; rw [if_pos rfl]
/-- What an object's part says. -/
theorem itB_O {p : Nat × Md} (h : p.1 < 256) (r : List UInt8) : bO (itB p ++ r) = p.1 := by
  show (UInt8.ofNat p.1).toNat = p.1
  rw [UInt8.toNat_ofNat']; omega
theorem itB_L {p : Nat × Md} (h : (mdB p.2).length < 65536) (r : List UInt8) : bL (itB p ++ r) = (mdB p.2).length := by
  show 256 * (UInt8.ofNat ((mdB p.2).length / 256)).toNat + (UInt8.ofNat ((mdB p.2).length % 256)).toNat = _
  rw [UInt8.toNat_ofNat', UInt8.toNat_ofNat']; omega
theorem itB_len (p : Nat × Md) : (itB p).length = 3 + (mdB p.2).length := by simp [itB]; omega
end Go.Proofs.YtbnhcggjcdipeaaGreatDoor
/-
  A world's bytes are read back, and what was read has those bytes; no program.
-/
namespace Go.Proofs.YtbnhcggjcdipeaaGreatDoor
open Go.RowKit
theorem ofNat_toNat8 (x : UInt8) : UInt8.ofNat x.toNat = x := by
  have := x.toNat_lt
  apply UInt8.toNat_inj.1
  rw [UInt8.toNat_ofNat']; omega
theorem mdD_took {m : Int} {b : List UInt8} {S : Md} (h : (mdD m b).1 = some S) : S.model = m ∧ S.In ∧ mdB S = b ∧ (mdD m b).2 = 0 := by
  unfold mdD at h ⊢
  split at h
  · rename_i h1
    rw [if_pos h1]
    split at h
    · rename_i h2
      rw [if_pos h2]
      obtain rfl := Option.some.inj h
      refine ⟨h1.symm, ?_, rgB_rgN h2, rfl⟩
      match b, h2 with
      | [x, y], _ =>
        have hx := x.toNat_lt; have hy := y.toNat_lt
        show 0 ≤ (x.toNat : Int) * 256 + y.toNat ∧ (x.toNat : Int) * 256 + y.toNat < 65536
        omega
    · cases h
  · rename_i h1
    rw [if_neg h1]
    split at h
    · rename_i h1
      rw [if_pos h1]
      split at h
      · cases h
      · rename_i h2
        rw [if_neg h2]
        obtain rfl := Option.some.inj h
        exact ⟨h1.symm, quN_in b, quB_quN (by omega), rfl⟩
    · rename_i h1
      rw [if_neg h1]
      split at h
      · rename_i h1
        rw [if_pos h1]
        split at h
        · rename_i h2
          rw [if_pos h2]
          obtain rfl := Option.some.inj h
          refine ⟨h1.symm, kvD_in (nb_u8 b), ?_, rfl⟩
          show ((kvBn (kvD (nb b)).1).map fun n => UInt8.ofNat n.toNat) = b
          rw [kvD_back (nb_u8 b) h2]
          simp only [nb, List.map_map]
          conv => rhs; rw [← List.map_id b]
          exact List.map_congr_left fun x _ => by simp only [Function.comp, Int.toNat_natCast, ofNat_toNat8, id]
        · cases h
      · rename_i h1
        rw [if_neg h1]
        split at h
        · rename_i h1
          rw [if_pos h1]
          split at h
          · rename_i h2
            rw [if_pos h2]
            obtain rfl := Option.some.inj h
            by_cases hb : b.length = 1
            · match b, hb with
              | [x], _ =>
                rw [lkD_one] at h2 ⊢
                split at h2
                · rename_i hx
                  rw [if_pos hx]
                  refine ⟨h1.symm, ⟨Int.natCast_nonneg _, hx⟩, ?_, rfl⟩
                  show [UInt8.ofNat (x.toNat : Int).toNat] = [x]
                  rw [Int.toNat_natCast, ofNat_toNat8]
                · cases h2
            · rw [lkD_not hb] at h2; cases h2
          · cases h
        · cases h
theorem mdD_bk {S : Md} (h : S.In) : mdD S.model (mdB S) = (some S, 0) := by
  cases S with
  | rg s =>
    show (if (rgB s).length = 2 then (some (Md.rg (rgN (rgB s))), 0) else (none, 4)) = _
    rw [if_pos (rgB_len s), rgN_rgB h]
  | qu l =>
    show (if (quB l).length % 2 = 1 then (none, 4) else (some (Md.qu (quN (quB l))), 0)) = _
    rw [quB_len, if_neg (by omega), quN_quB h]
  | mp m =>
    show (if (kvD (nb (kvBy m))).2 = 0 then (some (Md.mp (kvD (nb (kvBy m))).1), 0) else (none, 4)) = _
    rw [kvBy_nb h, kvD_enc h]
    rfl
  | lk s =>
    have h1 : 0 ≤ s ∧ s ≤ 16 := h
    show (if (lkD [UInt8.ofNat s.toNat]).2 = 0 then (some (Md.lk (lkD [UInt8.ofNat s.toNat]).1), 0) else (none, 4)) = _
    have e : ((UInt8.ofNat s.toNat).toNat : Int) = s := by rw [UInt8.toNat_ofNat']; omega
    rw [lkD_one, e, if_pos h1.2]
    rfl
theorem mdB_long {S : Md} : S.len ≤ (mdB S).length := by
  cases S with
  | qu l => show l.length ≤ (quB l).length; rw [quB_len]; omega
  | _ => exact Nat.zero_le _
theorem wdD_go {m : Int} (h0 : 0 ≤ m) (h3 : m ≤ 3) : ∀ (r pre : List Md) (n : Nat) (last : Int), (∀ S ∈ r, S.model = m ∧ S.In ∧ S.len ≤ 20000) → pre.length + r.length ≤ 8 → last < pre.length → ((liW m pre.length r).flatMap itB).length ≤ n →
    wdD m n (pre ++ List.replicate r.length (mdInit m)) last ((liW m pre.length r).flatMap itB) = (some (pre ++ r), 0)
  | [], pre, n, last, _, _, _, _ => by
    show wdD m n (pre ++ []) last [] = (some (pre ++ []), 0)
    exact wdD_nil ..
  | S :: r, pre, n, last, hr, h8, hl, hn => by
    obtain ⟨s1, s2, s3⟩ := hr S List.mem_cons_self
    have hr' := fun A hA => hr A (List.mem_cons_of_mem _ hA)
    simp only [List.length_cons] at h8
    by_cases hS : mdB S = mdB (mdInit m)
    · have e : S = mdInit m := (mdB_inj s2 (mdInit_in m) (by rw [s1, mdInit_model h0 h3])).1 hS
      have ih := wdD_go h0 h3 r (pre ++ [S]) n last hr' (by simp; omega) (by simp; omega)
      unfold liW at hn ⊢
      rw [if_pos hS] at hn ⊢
      simp only [List.length_append, List.length_cons, List.length_nil, Nat.zero_add] at ih
      have ih2 := ih hn
      rw [List.append_assoc, List.append_assoc] at ih2
      rw [← e] at ih2 ⊢
      exact ih2
    · unfold liW at hn ⊢
      rw [if_neg hS] at hn ⊢
      rw [List.flatMap_cons] at hn ⊢
      have ih := fun n => wdD_go h0 h3 r (pre ++ [S]) n pre.length hr' (by simp; omega) (by simp only [List.length_append, List.length_cons, List.length_nil]; omega)
      simp only [List.length_append, List.length_cons, List.length_nil, Nat.zero_add] at ih
      generalize (liW m (pre.length + 1) r).flatMap itB = R at *
      have hb := mdB_short s2 s3
      have hO := itB_O (p := (pre.length, S)) (show pre.length < 256 by omega) R
      have hL := itB_L (p := (pre.length, S)) (show (mdB S).length < 65536 by omega) R
      have hlen := itB_len (pre.length, S)
      simp only at hO hL hlen
      have hd : (itB (pre.length, S) ++ R).drop 3 = mdB S ++ R := rfl
      have hd2 : (itB (pre.length, S) ++ R).drop (3 + (mdB S).length) = R := by
        rw [← List.drop_drop, hd, List.drop_left]
      rw [List.length_append] at hn
      obtain ⟨k, rfl⟩ : ∃ k, n = k + 1 := ⟨n - 1, by omega⟩
      unfold wdD
      rw [if_neg (by intro e; have := congrArg List.length e; rw [List.length_append, hlen, List.length_nil] at this; omega), if_neg (by rw [hL, List.length_append]; omega), if_neg (by rw [hO]; omega), hL, hd, List.take_left, hO, hd2]
      have hD : mdD m (mdB S) = (some S, 0) := by rw [← s1]; exact mdD_bk s2
      rw [hD]
      show (if mdB S = mdB (mdInit m) then _ else _) = _
      rw [if_neg hS]
      have e : (pre ++ List.replicate (S :: r).length (mdInit m)).set pre.length S = pre ++ [S] ++ List.replicate r.length (mdInit m) := by
        rw [List.set_append_right _ _ (Nat.le_refl _), Nat.sub_self, List.append_assoc]
        rfl
      rw [e, ih k (by omega), List.append_assoc]
      rfl
theorem wdDec_back {W : Wd} (h : W.In) (hu : W.upto 20000) : wdDec W.m (wdB W) = (some W, 0) := by
  have h1 := wdD_go h.m0 h.m3 W.l [] (wdB W).length (-1) (fun S hS => ⟨(h.each S hS).1, (h.each S hS).2, hu S hS⟩) (by simp [h.n]) (by simp) (Nat.le_refl _)
  rw [h.n] at h1
  unfold wdDec
  rw [if_pos h.m3]
  have h2 : wdD W.m (wdB W).length (wd0 W.m).l (-1) (wdB W) = (some W.l, 0) := h1
  rw [h2]
  rfl
end Go.Proofs.YtbnhcggjcdipeaaGreatDoor
/-
  Steps of unlike objects ask for no order: the worlds behind calls, as data; no program.
-/
namespace Go.Proofs.YtbnhcggjcdipeaaGreatDoor
open Go.RowKit
/-- A world behind calls: those that are told an error change nothing. -/
def bhW (W : Wd) : List Cl → Wd
  | [] => W
  | y :: l => bhW (wdX W y.c y.x).1 l
/-- A state behind calls. -/
def bhM (S : Md) : List Cl → Md
  | [] => S
  | y :: l => bhM (mdX S y.c y.x).1 l
def ofO (o : Nat) (l : List Cl) : List Cl := l.filter fun y => wObj y.x == o
theorem bhW_app : ∀ (W : Wd) (l k : List Cl), bhW W (l ++ k) = bhW (bhW W l) k
  | _, [], _ => rfl
  | W, y :: l, k => bhW_app (wdX W y.c y.x).1 l k
theorem bhW_next {W : Wd} {l : List Cl} {k : Nat} (hk : k < l.length) : bhW W (l.take (k + 1)) = (wdX (bhW W (l.take k)) l[k].c l[k].x).1 := by
  rw [List.take_add_one, List.getElem?_eq_getElem hk, Option.toList_some, bhW_app]
  rfl
theorem bhW_in : ∀ {W : Wd} (l : List Cl), W.In → (∀ y ∈ l, y.In) → (bhW W l).In
  | _, [], h, _ => h
  | W, y :: l, h, hl => bhW_in l (wdX_in h (hl y (by simp)).c0 (hl y (by simp)).x) (fun z hz => hl z (by simp [hz]))
theorem bhW_m : ∀ (W : Wd) (l : List Cl), (bhW W l).m = W.m
  | _, [] => rfl
  | W, y :: l => (bhW_m (wdX W y.c y.x).1 l).trans (wdX_m W y.c y.x)
theorem bhW_upto : ∀ {W : Wd} (l : List Cl) {k : Nat}, W.In → (∀ y ∈ l, y.In) → W.upto k → (bhW W l).upto (k + l.length)
  | _, [], _, _, _, h => h
  | W, y :: l, k, h, hl, hk => by
    have h1 := bhW_upto l (wdX_in h (hl y (by simp)).c0 (hl y (by simp)).x) (fun z hz => hl z (by simp [hz])) (wdX_upto h hk y.c y.x)
    intro S hS
    have := h1 S hS
    simp only [List.length_cons]
    omega
/-- A step changes its own object alone. -/
theorem wdX_at {W : Wd} (h : W.In) (c : Int) (x : Opn) (o : Nat) : (wdX W c x).1.at o = if wObj x = o then (mdX (W.at o) c x).1 else W.at o := by
  unfold wdX
  split
  · rw [Wd.put_at h (wObj_lt x)]
    by_cases e : o = wObj x
    · rw [if_pos e, if_pos e.symm, e]
    · rw [if_neg e, if_neg (fun h => e h.symm)]
  · rename_i h1
    by_cases e : wObj x = o
    · rw [if_pos e]
      rw [e] at h1
      exact ((mdX_bad h1).1).symm
    · rw [if_neg e]
theorem bhW_at : ∀ {W : Wd} (l : List Cl), W.In → (∀ y ∈ l, y.In) → ∀ o, (bhW W l).at o = bhM (W.at o) (ofO o l)
  | _, [], _, _, _ => rfl
  | W, y :: l, h, hl, o => by
    have ih := bhW_at l (wdX_in h (hl y (by simp)).c0 (hl y (by simp)).x) (fun z hz => hl z (by simp [hz])) o
    show (bhW (wdX W y.c y.x).1 l).at o = bhM (W.at o) ((y :: l).filter fun y => wObj y.x == o)
    rw [ih, wdX_at h]
    by_cases e : wObj y.x = o
    · rw [if_pos e, List.filter_cons_of_pos (by simpa using e)]
      rfl
    · rw [if_neg e, List.filter_cons_of_neg (by simpa using e)]
      rfl
theorem ofO_ofO (o p : Nat) (l : List Cl) : ofO o (ofO p l) = if o = p then ofO o l else [] := by
  unfold ofO
  rw [List.filter_filter]
  split
  · rename_i e; subst e
    exact List.filter_congr fun y _ => by simp
  · rename_i e
    exact List.filter_eq_nil_iff.2 fun y _ h => by simp at h; exact e (h.1.symm.trans h.2)
/-- The calls of objects 0 to k, one object's behind another's. -/
def sortO (k : Nat) (l : List Cl) : List Cl := (List.range k).flatMap fun o => ofO o l
theorem sortO_next (k : Nat) (l : List Cl) : sortO (k + 1) l = sortO k l ++ ofO k l := by
  unfold sortO
  rw [List.range_succ, List.flatMap_append]
  simp
theorem ofO_app (o : Nat) (l k : List Cl) : ofO o (l ++ k) = ofO o l ++ ofO o k := List.filter_append ..
theorem ofO_sortO (o : Nat) (l : List Cl) : ∀ k, ofO o (sortO k l) = if o < k then ofO o l else []
  | 0 => rfl
  | k + 1 => by
    rw [sortO_next, ofO_app, ofO_sortO o l k, ofO_ofO]
    by_cases h : o < k
    · rw [if_pos h, if_neg (by omega), if_pos (by omega), List.append_nil]
    · by_cases h2 : o = k
      · rw [if_neg h, if_pos h2, if_pos (by omega), List.nil_append]
      · rw [if_neg h, if_neg h2, if_neg (by omega)]; rfl
theorem ofO_mem {o : Nat} {l : List Cl} {y : Cl} (h : y ∈ ofO o l) : y ∈ l := (List.mem_filter.1 h).1
theorem sortO_mem {k : Nat} {l : List Cl} {y : Cl} (h : y ∈ sortO k l) : y ∈ l := by
  obtain ⟨o, _, h⟩ := List.mem_flatMap.1 h
  exact ofO_mem h
theorem ofO_len (o : Nat) (l : List Cl) : (ofO o l).length ≤ l.length := List.length_filter_le ..
/-- Object by object: the same world. -/
theorem bhW_sorted {W : Wd} (h : W.In) {l : List Cl} (hl : ∀ y ∈ l, y.In) : bhW W (sortO 8 l) = bhW W l := by
  have hs : ∀ y ∈ sortO 8 l, y.In := fun y hy => hl y (sortO_mem hy)
  refine Wd.ext_at (bhW_in _ h hs) (bhW_in _ h hl) (by rw [bhW_m, bhW_m]) fun o ho => ?_
  rw [bhW_at _ h hs, bhW_at _ h hl, ofO_sortO, if_pos ho]
/-- One object's calls alone: its state is the same. -/
theorem bhW_alone {W : Wd} (h : W.In) {l : List Cl} (hl : ∀ y ∈ l, y.In) (o : Nat) : (bhW W (ofO o l)).at o = (bhW W l).at o := by
  rw [bhW_at _ h (fun y hy => hl y (ofO_mem hy)), bhW_at _ h hl, ofO_ofO, if_pos rfl]
/-- An answer hangs on the own object alone. -/
theorem wdX_ans {W V : Wd} {c : Int} {x : Opn} (h : W.at (wObj x) = V.at (wObj x)) : (wdX W c x).2 = (wdX V c x).2 := by
  unfold wdX
  rw [h]
  split <;> rfl
/-- Whether a call is told an error doesn't hang on what was done. -/
theorem bhW_err {W V : Wd} (hW : W.In) (hV : V.In) (hm : W.m = V.m) (c : Int) (x : Opn) : (wdX W c x).2.2 = (wdX V c x).2.2 := by
  rw [wdX_err' hW, wdX_err' hV, hm]
end Go.Proofs.YtbnhcggjcdipeaaGreatDoor
/-
  What a step's call tells, whatever is stepped: its cells, what lasts, whose blocks; a region's end.
-/
namespace Go.Proofs.YtbnhcggjcdipeaaGreatDoor
open Go.RowKit
/-- Something in memory: its cells, what holds of it, which blocks are its own (Ap x p: all of them satisfy p). -/
structure Kept (β : Type) where
  cs : β → List Value
  P : β → World → Prop
  Ap : β → (Nat → Prop) → Prop
  keep : ∀ {x : β} {w w' : World} {F : List Nat}, P x w → Keeps F w w' → Ap x (fun q => q ∉ F) → P x w'
  old : ∀ {x : β} {w : World}, P x w → Ap x (fun q => q < w.heap.size)
  mono : ∀ {x : β} {p p' : Nat → Prop}, Ap x p → (∀ q, p q → p' q) → Ap x p'
  and_ : ∀ {x : β} {p p' : Nat → Prop}, Ap x p → Ap x p' → Ap x (fun q => p q ∧ p' q)
variable {β : Type}
theorem Kept.new (kp : Kept β) {x : β} {w w' : World} (h : kp.P x w) (hk : Keeps [] w w') : kp.P x w' := kp.keep h hk (kp.mono (kp.old h) (fun _ _ => by simp))
theorem Kept.put (kp : Kept β) {x : β} {w w' : World} {g : Nat} (h : kp.P x w) (hk : Keeps [g] w w') (hg : kp.Ap x (fun q => q ≠ g)) : kp.P x w' := kp.keep h hk (kp.mono hg (fun _ h => by simpa using h))
/-- What a step tells: the new thing, the answer, the error; ol: the old one's blocks. -/
def Post3 (kp : Kept β) (r : Ans) (e1 : Int) (ol : (Nat → Prop) → Prop) (w : World) (e : Ending) (w' : World) : Prop :=
  ∃ x : β, e = .returned (.tuple #[.agg (kp.cs x).toArray, .agg (ansC r).toArray, .int .i64 e1]) ∧ kp.P x w' ∧ Keeps [] w w' ∧ ∀ p : Nat → Prop, ol p → (∀ q, w.heap.size ≤ q → p q) → kp.Ap x p
/-- Behind a region that calls a step and lays its answers into two new blocks. -/
def Fin3 (kp : Kept β) (T : TypeId) (r : Ans) (ol : (Nat → Prop) → Prop) (V : World) (qa qb : Nat) (zv : Value) (w' : World) : Prop :=
  ∃ x : β, zv = .agg (kp.cs x).toArray ∧ w'.heap[qa]? = some (.cells (kp.cs x).toArray T (0, 0)) ∧ w'.heap[qb]? = some (.cells (ansC r).toArray 25 (0, 0)) ∧ kp.P x w' ∧ Keeps [] V w' ∧ V.heap.size ≤ qa ∧ V.heap.size ≤ qb ∧ qa ≠ qb ∧ (∀ p : Nat → Prop, ol p → (∀ q, V.heap.size ≤ q → p q) → kp.Ap x p) ∧ kp.Ap x (fun q => q ≠ qa ∧ q ≠ qb)
/-- The same with one new block, for the thing alone. -/
def Fin1 (kp : Kept β) (T : TypeId) (ol : (Nat → Prop) → Prop) (V : World) (qa : Nat) (zv : Value) (w' : World) : Prop :=
  ∃ x : β, zv = .agg (kp.cs x).toArray ∧ w'.heap[qa]? = some (.cells (kp.cs x).toArray T (0, 0)) ∧ kp.P x w' ∧ Keeps [] V w' ∧ V.heap.size ≤ qa ∧ (∀ p : Nat → Prop, ol p → (∀ q, V.heap.size ≤ q → p q) → kp.Ap x p) ∧ kp.Ap x (fun q => q ≠ qa)
end Go.Proofs.YtbnhcggjcdipeaaGreatDoor
/-
  The document's world: Objects.
-/
namespace Go.Proofs.YtbnhcggjcdipeaaGreatDoor
open Go.RowKit
set_option maxRecDepth 100000
set_option maxHeartbeats 8000000
theorem liW_cons (m : Int) (i : Nat) (S : Md) (r : List Md) : liW m i (S :: r) = if mdB S = mdB (mdInit m) then liW m (i + 1) r else (i, S) :: liW m (i + 1) r := rfl
theorem liW_app (m : Int) : ∀ (i : Nat) (l k : List Md), liW m i (l ++ k) = liW m i l ++ liW m (i + l.length) k
  | i, [], k => rfl
  | i, S :: l, k => by
    show liW m i (S :: (l ++ k)) = liW m i (S :: l) ++ _
    rw [liW_cons, liW_cons, liW_app m (i + 1) l k, show i + 1 + l.length = i + (S :: l).length by simp only [List.length_cons]; omega]
    split <;> rfl
theorem liW_next {m : Int} {l : List Md} {k : Nat} (hk : k < l.length) : liW m 0 (l.take (k + 1)) = liW m 0 (l.take k) ++ (if mdB (l.getD k (mdInit m)) = mdB (mdInit m) then [] else [(k, l.getD k (mdInit m))]) := by
  rw [List.take_add_one, List.getElem?_eq_getElem hk, Option.toList_some, liW_app, List.length_take, Nat.min_eq_left (Nat.le_of_lt hk), Nat.zero_add, List.getD_eq_getElem?_getD, List.getElem?_eq_getElem hk]
  rfl
theorem liW_len (m : Int) : ∀ (i : Nat) (l : List Md), (liW m i l).length ≤ l.length
  | i, [] => Nat.le_refl _
  | i, S :: l => by
    have := liW_len m (i + 1) l
    unfold liW
    split <;> simp only [List.length_cons] <;> omega
end Go.Proofs.YtbnhcggjcdipeaaGreatDoor
/-
  The document's world: Encode.
-/
namespace Go.Proofs.YtbnhcggjcdipeaaGreatDoor
open Go.RowKit
set_option maxRecDepth 100000
set_option maxHeartbeats 8000000
theorem liW_at {m : Int} : ∀ (i : Nat) (l : List Md), ∀ p ∈ liW m i l, l[p.1 - i]? = some p.2
  | i, [], p, h => by cases h
  | i, S :: r, p, h => by
    rw [liW_cons] at h
    have go : p ∈ liW m (i + 1) r → (S :: r)[p.1 - i]? = some p.2 := fun h => by
      have h1 := (liW_mem m (i + 1) r p h).1
      rw [show p.1 - i = (p.1 - (i + 1)) + 1 by omega, List.getElem?_cons_succ]
      exact liW_at (i + 1) r p h
    split at h
    · exact go h
    · rcases List.mem_cons.1 h with rfl | h
      · show (S :: r)[i - i]? = _
        rw [Nat.sub_self]; rfl
      · exact go h
theorem Wd.li_at {W : Wd} (p : Nat × Md) (h : p ∈ W.li) : p.2 = W.at p.1 := by
  have := liW_at 0 W.l p h
  show p.2 = W.l.getD p.1 _
  rw [List.getD_eq_getElem?_getD, show W.l[p.1]? = some p.2 from this]
  rfl
section
variable {ops : Array Oper} {S : World → Prop} {o : Oper} {a : Act}
end
end Go.Proofs.YtbnhcggjcdipeaaGreatDoor
/-
  The document's world: Text.
-/
namespace Go.Proofs.YtbnhcggjcdipeaaGreatDoor
open Go.RowKit
set_option maxRecDepth 100000
set_option maxHeartbeats 8000000
theorem mdT_short {S : Md} (h : S.In) {k : Nat} (hk : S.len ≤ k) : (mdT S).length ≤ 6 * k + 100 := by
  cases S with
  | rg s =>
    have := dec_len5 (v := s) h.2
    show (dec s).length ≤ _
    omega
  | qu l =>
    have h1 := spT_len (l := l.map dec) (n := 5) (fun x hx => by
      obtain ⟨v, hv, rfl⟩ := List.mem_map.1 hx
      exact dec_len5 (h v hv).2)
    rw [List.length_map] at h1
    have h2 : l.length ≤ k := hk
    have h3 : l.length * (5 + 1) ≤ k * 6 := Nat.mul_le_mul_right 6 h2
    simp only [mdT, List.length_append, List.length_cons, List.length_nil]
    omega
  | mp m =>
    have h1 := mpT_len (show KvIn m from h) (k := 8) (Nat.le_refl _)
    unfold mpT at h1
    rw [List.take_of_length_le (by rw [h.1]; exact Nat.le_refl _)] at h1
    simp only [mdT, List.length_append, List.length_cons, List.length_nil]
    omega
  | lk s =>
    have h1 : 0 ≤ s ∧ s ≤ 16 := h
    show (if s = 0 then freeT else heldT ++ dec (s - 1)).length ≤ _
    split
    · simp [freeT]
    · have := dec_len5 (v := s - 1) (by omega)
      rw [List.length_append]
      simp [heldT]
      omega
theorem wtT_len {p : Nat × Md} (h8 : p.1 < 8) (h : p.2.In) (hk : p.2.len ≤ 10000) : (wtT p).length ≤ 60110 := by
  have h1 := mdT_short h hk
  have h2 := dec_len5 (v := (p.1 : Int)) (by omega)
  show (dec (p.1 : Int) ++ 61 :: mdT p.2).length ≤ _
  rw [List.length_append, List.length_cons]
  omega
end Go.Proofs.YtbnhcggjcdipeaaGreatDoor
