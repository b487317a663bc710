/-
  One object of any of the four models, as data: its steps, its bytes, its text; no program.
-/
import Derived.BigQuiet
import Derived.Test.YtdachaekcjbfmaaGreatDoorMK08
import Derived.Test.YtdachaekcjbfmaaGreatDoorMK26
import Derived.Test.YtdachaekcjbfmaaGreatDoorMK11
import Derived.Test.YtdachaekcjbfmaaGreatDoorMK20
import Derived.Test.YtdachaekcjbfmaaGreatDoorMK03
import Derived.Test.YtdachaekcjbfmaaGreatDoorMK09
import Derived.Test.YtdachaekcjbfmaaGreatDoorMK07
import Derived.Test.YtdachaekcjbfmaaGreatDoorMK24
set_option linter.unusedSimpArgs false
set_option linter.unusedVariables false
namespace Go.Proofs.YtdachaekcjbfmaaGreatDoor
open Go.RowKit
inductive Md where
  | rg (s : Int)
  | qu (l : List Int)
  | mp (m : Kv)
  | lk (s : Int)
def Md.model : Md → Int
  | .rg _ => 0
  | .qu _ => 1
  | .mp _ => 2
  | .lk _ => 3
def mdInit (m : Int) : Md := if m = 0 then .rg 0 else if m = 1 then .qu [] else if m = 2 then .mp kv0 else .lk 0
def Md.In : Md → Prop
  | .rg s => 0 ≤ s ∧ s < 65536
  | .qu l => U16s l
  | .mp m => KvIn m
  | .lk s => 0 ≤ s ∧ s ≤ 16
/-- How long its list is. -/
def Md.len : Md → Nat
  | .qu l => l.length
  | _ => 0
/-- A step, if it is one of the model's. -/
def mdY : Md → Int → Opn → Md × Ans
  | .rg s, _, x => (.rg (rgX s x).1, (rgX s x).2.1)
  | .qu l, _, x => (.qu (quX l x).1, (quX l x).2.1)
  | .mp m, _, x => (.mp (ksX m x).1, (ksX m x).2.1)
  | .lk s, c, x => (.lk (lkX s c x).1, (lkX s c x).2.1)
/-- A step of a client's operation: the state behind it, the answer, the error. -/
def mdX (S : Md) (c : Int) (x : Opn) : Md × Ans × Int :=
  if 15 < c then (S, ⟨0, 0⟩, 2) else if opChk S.model x = 0 then ((mdY S c x).1, (mdY S c x).2, 0) else (S, ⟨0, 0⟩, 10)
def kvBy (m : Kv) : List UInt8 := (kvBn m).map fun n => UInt8.ofNat n.toNat
/-- Its bytes. -/
def mdB : Md → List UInt8
  | .rg s => rgB s
  | .qu l => quB l
  | .mp m => kvBy m
  | .lk s => lkB s
/-- Texts with a space between each two. -/
def spT : List (List UInt8) → List UInt8
  | [] => []
  | [x] => x
  | x :: y :: r => x ++ 32 :: spT (y :: r)
/-- The text of a key and its number. -/
def itT (x : It) : List UInt8 := dec x.k ++ 58 :: dec x.v
def freeT : List UInt8 := [102, 114, 101, 101]
def heldT : List UInt8 := [104, 101, 108, 100, 32, 98, 121, 32]
/-- Its text. -/
def mdT : Md → List UInt8
  | .rg s => dec s
  | .qu l => 91 :: (spT (l.map dec) ++ [93])
  | .mp m => 123 :: (spT ((itOf 0 m).map itT) ++ [125])
  | .lk s => if s = 0 then freeT else heldT ++ dec (s - 1)
theorem mdInit_len (m : Int) : (mdInit m).len = 0 := by
  unfold mdInit
  split
  · rfl
  · split
    · rfl
    · split <;> rfl
theorem mdInit_model {m : Int} (h0 : 0 ≤ m) (h1 : m ≤ 3) : (mdInit m).model = m := by
  unfold mdInit
  split
  · rename_i h; exact h.symm
  · split
    · rename_i h; exact h.symm
    · split
      · rename_i h; exact h.symm
      · show (3 : Int) = m; omega
theorem Md.model_in (S : Md) : 0 ≤ S.model ∧ S.model ≤ 3 := by cases S <;> simp [Md.model]
theorem mdX_bad {S : Md} {c : Int} {x : Opn} (h : (mdX S c x).2.2 ≠ 0) : (mdX S c x).1 = S ∧ (mdX S c x).2.1 = ⟨0, 0⟩ := by
  unfold mdX at h ⊢
  split
  · exact ⟨rfl, rfl⟩
  · split
    · rename_i h1 h2; rw [if_neg h1, if_pos h2] at h; exact absurd rfl h
    · exact ⟨rfl, rfl⟩
/-- What an operation of a model is. -/
theorem chk_of {m : Int} {x : Opn} (h : opChk m x = 0) : Good x ∧ opM x.f = m := by
  unfold opChk at h
  split at h
  · rename_i h2
    simp only [Bool.and_eq_true, beq_iff_eq] at h2
    exact ⟨(good_iff x).1 h2.1, h2.2⟩
  · cases h
theorem chk_f {m : Int} {x : Opn} (h : opChk m x = 0) : (m = 0 ∧ (x.f = 1 ∨ x.f = 2 ∨ x.f = 3)) ∨ (m = 1 ∧ (x.f = 4 ∨ x.f = 5)) ∨ (m = 2 ∧ (x.f = 6 ∨ x.f = 7 ∨ x.f = 8 ∨ x.f = 9)) ∨ (m = 3 ∧ (x.f = 10 ∨ x.f = 11)) := by
  obtain ⟨hg, hm⟩ := chk_of h
  rcases is_cases hg.is with h | h | h | h | h | h | h | h | h | h | h <;> rw [h] at hm <;> simp [opM] at hm <;> omega
/-- The error that the model itself tells. -/
def mdE : Md → Int → Opn → Int
  | .rg s, _, x => (rgX s x).2.2
  | .qu l, _, x => (quX l x).2.2
  | .mp m, _, x => (ksX m x).2.2
  | .lk s, c, x => (lkX s c x).2.2
theorem mdY_err {S : Md} (hS : S.In) {c : Int} (hc : c ≤ 15) {x : Opn} (h : opChk S.model x = 0) : mdE S c x = 0 := by
  have hf := chk_f h
  have hg := (chk_of h).1
  cases S with
  | rg s =>
    simp only [Md.model] at hf
    show (rgX s x).2.2 = 0
    rcases rgX_err s x with h | h
    · exact h
    · exfalso
      unfold rgX at h
      rcases (by omega : x.f = 1 ∨ x.f = 2 ∨ x.f = 3) with hf | hf | hf <;> rw [hf] at h
      · simp at h
      · simp at h
      · simp only [if_true] at h
        split at h
        · rename_i h2; cases h2
        · split at h
          · rename_i h2; cases h2
          · split at h <;> cases h
  | qu l => show (quX l x).2.2 = 0; rw [quX_err]; exact h
  | mp m =>
    simp only [Md.model] at hf
    show (ksX m x).2.2 = 0
    unfold ksX
    rw [if_neg (by have := hg.k; omega)]
    split
    · rfl
    · split
      · split <;> rfl
      · split
        · rfl
        · split
          · rfl
          · split <;> rfl
  | lk s =>
    show (lkX s c x).2.2 = 0
    have hs : s ≤ 16 := hS.2
    rcases lkX_ways s c x with h1 | h1 | h1 | h1 | h1 | h1
    · have h' : opChk 3 x = 0 := h; omega
    · omega
    · rw [h1.2.2.2.2.2]
    · rw [h1.2.2.2.2.2]
    · rw [h1.2.2.2.2.2]
    · rw [h1.2.2.2.2.2]
theorem mdY_in {S : Md} (hS : S.In) {c : Int} (h0 : 0 ≤ c) (h1 : c ≤ 15) {x : Opn} (hx : x.In) : (mdY S c x).1.In := by
  cases S with
  | rg s => exact rgX_st hS hx
  | qu l => exact quX_in hS hx
  | mp m => exact ksX_in hS hx
  | lk s =>
    have hs : 0 ≤ s ∧ s ≤ 16 := hS
    show 0 ≤ (lkX s c x).1 ∧ (lkX s c x).1 ≤ 16
    rcases lkX_ways s c x with h1 | h1 | h1 | h1 | h1 | h1
    · rw [h1.2]; exact hs
    · rw [h1.2.2]; exact hs
    · rw [h1.2.2.2.2.2]; simp only; omega
    · rw [h1.2.2.2.2.2]; exact hs
    · rw [h1.2.2.2.2.2]; simp only; omega
    · rw [h1.2.2.2.2.2]; exact hs
theorem mdY_len (S : Md) (c : Int) (x : Opn) : (mdY S c x).1.len ≤ S.len + 1 := by
  cases S with
  | qu l => exact quX_len l x
  | _ => exact Nat.zero_le _
theorem mdX_len (S : Md) (c : Int) (x : Opn) : (mdX S c x).1.len ≤ S.len + 1 := by
  unfold mdX
  split
  · exact Nat.le_succ _
  · split
    · exact mdY_len S c x
    · exact Nat.le_succ _
end Go.Proofs.YtdachaekcjbfmaaGreatDoor
/-
  An object's bytes and its text tell which state of its model it is in; no program.
-/
namespace Go.Proofs.YtdachaekcjbfmaaGreatDoor
open Go.RowKit
theorem kvBy_nb {m : Kv} (h : KvIn m) : nb (kvBy m) = kvBn m := by
  have hu := kvBn_u8 h
  unfold nb kvBy
  rw [List.map_map]
  conv => rhs; rw [← List.map_id (kvBn m)]
  refine List.map_congr_left fun n hn => ?_
  have := hu n hn
  simp only [Function.comp, UInt8.toNat_ofNat', id]
  omega
theorem itOf_mem : ∀ (n : Nat) (m : Kv), ∀ x ∈ itOf n m, ∃ k : Nat, m[k]? = some (some x.v)
  | n, [], x, h => by cases h
  | n, none :: r, x, h => by
    obtain ⟨k, hk⟩ := itOf_mem (n + 1) r x h
    exact ⟨k + 1, by simpa using hk⟩
  | n, some v :: r, x, h => by
    rcases List.mem_cons.1 h with rfl | h
    · exact ⟨0, rfl⟩
    · obtain ⟨k, hk⟩ := itOf_mem (n + 1) r x h
      exact ⟨k + 1, by simpa using hk⟩
end Go.Proofs.YtdachaekcjbfmaaGreatDoor
/-
  Any struct by its cells, references and all: loads, stores; the document's object in memory.
-/
namespace Go.Proofs.YtdachaekcjbfmaaGreatDoor
open Go.RowKit
set_option maxRecDepth 100000
/-- A struct's type, and how many cells it has. -/
structure SK where
  T : TypeId
  s : Nat
  d : TypeDesc
  und : Tryz.prog.underlying T = some d
  row : d.isRow = true
  size : (Tryz.prog.info? T).map (·.size) = some s
/-- Cells of one such struct. -/
def SK.Ok (R : SK) (A : List Value) : Prop := A.length = R.s ∧ ∀ v ∈ A, v.oneCell' = true
theorem SK.Ok.all {R : SK} {A : List Value} (h : R.Ok A) : A.toArray.all (·.oneCell') = true := by rw [← Array.all_toList, List.all_eq_true]; exact h.2
section
variable {ops : Array Oper} {rest : List Oper} {o : Oper} {a : Act} {w : World} {K : Act → World → Prop} {Q : Exit → Act → World → Prop} {S : World → Prop}
theorem SK.wp_load (R : SK) {x : Operand} (ho : o.op = .load R.T x) {g off : Nat} {A : List Value} (hA : R.Ok A) (hx : a.eval x = .pointer (some ⟨g, off, none⟩)) (hr : w.rangeAt g off A) (h : K (a.put o.dst (.agg A.toArray)) w) : o.wp Tryz.prog a w K Q :=
  wp_load_mid R.T x ho g off hx A _ hr R.und R.row (by rw [R.size, hA.1]) h
theorem SK.wpList_load (R : SK) {dst : Option Tmp} {ty : TypeId} {pos : String} {after : Array Edge} {gd : Option (Nat × Bool)} {x : Operand} {g off : Nat} {A : List Value} (hA : R.Ok A)
    (hw : Region.wanted { dst := dst, op := .load R.T x, type := ty, pos := pos, after := after, guard := gd } (yielded ops a.tmps) = true)
    (hx : a.eval x = .pointer (some ⟨g, off, none⟩)) (hr : w.rangeAt g off A) (h : wpList Tryz.prog ops Q rest (a.put dst (.agg A.toArray)) w) :
    wpList Tryz.prog ops Q ({ dst := dst, op := .load R.T x, type := ty, pos := pos, after := after, guard := gd } :: rest) a w :=
  wpList_step fun _ hK => by
    rw [if_pos hw]
    exact R.wp_load rfl hA hx hr (hK _ _ h)
theorem SK.yields (R : SK) {A : List Value} (hA : R.Ok A) (hw : Region.wanted o (yielded ops a.tmps) = true) (x : Operand) (ho : o.op = .load R.T x) (g off : Nat) (hx : a.eval x = .pointer (some ⟨g, off, none⟩)) (hS : ∀ w, S w → w.rangeAt g off A) :
    YieldsIf Tryz.prog ops S o (.agg A.toArray) a :=
  yieldsIf_load_mid (P := Tryz.prog) hw R.T x ho g off hx A _ hS R.und R.row (by rw [R.size, hA.1])
theorem SK.wp_put (R : SK) {x y : Operand} (ho : o.op = .store R.T x y) {g : Nat} {old A : List Value} (hA : R.Ok A) (hO : R.Ok old) {t : TypeId}
    (hx : a.eval x = .pointer (some ⟨g, 0, none⟩)) (hy : a.eval y = .agg A.toArray) (hg : w.heap[g]? = some (.cells old.toArray t (0, 0)))
    (h : ∀ W, W.heap[g]? = some (.cells A.toArray t (0, 0)) → Keeps [g] w W → K (a.put o.dst undef) W) : o.wp Tryz.prog a w K Q :=
  wp_store_row R.T x y ho g A.toArray hx hy t old.toArray hg (by rw [R.size, List.size_toArray, hA.1]) (by rw [List.size_toArray, List.size_toArray, hA.1, hO.1]) hA.all (h _ (setRow_heap w g old.toArray A.toArray t (0, 0) hg) ((Keeps.refl [g] w).setRow g _ (.inl (by simp))))
theorem SK.wpList_put (R : SK) {dst : Option Tmp} {ty : TypeId} {pos : String} {after : Array Edge} {x y : Operand} {g : Nat} {old A : List Value} (hA : R.Ok A) (hO : R.Ok old) {t : TypeId}
    (hx : a.eval x = .pointer (some ⟨g, 0, none⟩)) (hy : a.eval y = .agg A.toArray) (hg : w.heap[g]? = some (.cells old.toArray t (0, 0)))
    (h : ∀ W, W.heap[g]? = some (.cells A.toArray t (0, 0)) → Keeps [g] w W → wpList Tryz.prog ops Q rest (a.put dst undef) W) :
    wpList Tryz.prog ops Q ({ dst := dst, op := .store R.T x y, type := ty, pos := pos, after := after, guard := none } :: rest) a w :=
  wpList_plain rfl fun _ hK => R.wp_put rfl hA hO hx hy hg (fun W h1 h2 => hK _ _ (h W h1 h2))
end
/-- Cells that stand in a block. -/
theorem block_range {w : World} {g : Nat} {A : List Value} {t : TypeId} (h : w.heap[g]? = some (.cells A.toArray t (0, 0))) : w.rangeAt g 0 A := fun j v hv => by
  rw [Nat.zero_add]
  exact cell_lit h j (by simpa using hv)
theorem results_sk {fn : Func} {p : Tmp} (R : SK) (h : fn.results = #[.cell p R.T]) (tmps : Array Value) (w : World) (b : Nat) {A : List Value} (hA : R.Ok A) {t : TypeId}
    (hp : tmps.getD p undef = .pointer (some ⟨b, 0, none⟩)) (hb : w.heap[b]? = some (.cells A.toArray t (0, 0))) : (results fn tmps).run Tryz.prog w = .ok (.agg A.toArray) w := by
  have h1 : (loadVar R.T ⟨b, 0, none⟩).run Tryz.prog w = .ok (.agg A.toArray) w := run_loadVar_mid w b 0 R.T A _ (block_range hb) R.und R.row (by rw [R.size, hA.1])
  have hp' : tmps[p]?.getD undef = .pointer (some ⟨b, 0, none⟩) := by simpa using hp
  simp only [results, h]
  simp [Sem.run_bind, Result.andThen, hp', asAddr, h1]
/-- A struct and a number are handed back. -/
theorem results_sk1 {fn : Func} {p u : Tmp} (R : SK) (h : fn.results = #[.cell p R.T, .tmp u]) (tmps : Array Value) (w : World) (b : Nat) {A : List Value} (hA : R.Ok A) {t : TypeId}
    (hp : tmps.getD p undef = .pointer (some ⟨b, 0, none⟩)) (hb : w.heap[b]? = some (.cells A.toArray t (0, 0))) : (results fn tmps).run Tryz.prog w = .ok (.tuple #[.agg A.toArray, tmps.getD u undef]) w := by
  have h1 : (loadVar R.T ⟨b, 0, none⟩).run Tryz.prog w = .ok (.agg A.toArray) w := run_loadVar_mid w b 0 R.T A _ (block_range hb) R.und R.row (by rw [R.size, hA.1])
  have hp' : tmps[p]?.getD undef = .pointer (some ⟨b, 0, none⟩) := by simpa using hp
  simp only [results, h]
  simp [Sem.run_bind, Result.andThen, hp', asAddr, h1]
/-- A struct, an answer, a number are handed back. -/
theorem results_sk3 {fn : Func} {p q u : Tmp} (R : SK) (h : fn.results = #[.cell p R.T, .cell q 25, .tmp u]) (tmps : Array Value) (w : World) (b c : Nat) {A : List Value} (hA : R.Ok A) (y : Ans) {t t2 : TypeId}
    (hp : tmps.getD p undef = .pointer (some ⟨b, 0, none⟩)) (hb : w.heap[b]? = some (.cells A.toArray t (0, 0)))
    (hq : tmps.getD q undef = .pointer (some ⟨c, 0, none⟩)) (hc : w.heap[c]? = some (.cells (ansC y).toArray t2 (0, 0))) :
    (results fn tmps).run Tryz.prog w = .ok (.tuple #[.agg A.toArray, .agg (ansC y).toArray, tmps.getD u undef]) w := by
  have h1 : (loadVar R.T ⟨b, 0, none⟩).run Tryz.prog w = .ok (.agg A.toArray) w := run_loadVar_mid w b 0 R.T A _ (block_range hb) R.und R.row (by rw [R.size, hA.1])
  have h2 : (loadVar 25 ⟨c, 0, none⟩).run Tryz.prog w = .ok (.agg (ansC y).toArray) w := run_loadVar_row w c t2 25 _ _ _ hc Tryz.underlying25 rfl (by kernel_rfl)
  have hp' : tmps[p]?.getD undef = .pointer (some ⟨b, 0, none⟩) := by simpa using hp
  have hq' : tmps[q]?.getD undef = .pointer (some ⟨c, 0, none⟩) := by simpa using hq
  simp only [results, h]
  simp [Sem.run_bind, Result.andThen, hp', hq', asAddr, h1, h2]
/-- The document's object. -/
def skD : SK := { T := 36, s := 5, d := _, und := Tryz.underlying36, row := rfl, size := by kernel_rfl }
/-- An answer. -/
def skR : SK := { T := 25, s := 2, d := _, und := Tryz.underlying25, row := rfl, size := by kernel_rfl }
theorem ansC_ok (y : Ans) : skR.Ok (ansC y) := ⟨rfl, ansC_one y⟩
def Md.n : Md → Int
  | .rg s => s
  | _ => 0
def Md.hold : Md → Int
  | .lk s => s - 1
  | _ => -1
def Md.list : Md → List Int
  | .qu l => l
  | _ => []
def Md.items : Md → List It → Prop
  | .mp m, t => Rel m t
  | _, t => t = []
/-- Its cells. -/
def mdC (S : Md) (q m : Value) : List Value := [.int .u8 S.model, .int .u16 S.n, q, m, .int .i64 S.hold]
section
variable {ops : Array Oper} {rest : List Oper} {a : Act} {w : World} {Q : Exit → Act → World → Prop}
end
/-- Its lists lie there. -/
structure D13 (w : World) (S : Md) (q m : Value) : Prop where
  q : rkU.In w.heap.size w q S.list
  m : ∃ t, rkI.In w.heap.size w m t ∧ S.items t
theorem D13.new {w w' : World} {S : Md} {q m : Value} (h : D13 w S q m) (hk : Keeps [] w w') : D13 w' S q m := by
  obtain ⟨t, h1, h2⟩ := h.m
  exact ⟨(h.q.new hk (Nat.le_refl _)).more hk.size, t, (h1.new hk (Nat.le_refl _)).more hk.size, h2⟩
theorem D13.ok {w : World} {S : Md} {q m : Value} (h : D13 w S q m) : skD.Ok (mdC S q m) := by
  obtain ⟨t, h1, _⟩ := h.m
  obtain ⟨a, c, rfl, -⟩ := h.q
  obtain ⟨b, d, rfl, -⟩ := h1
  refine ⟨rfl, fun v hv => ?_⟩
  simp only [mdC, List.mem_cons, List.not_mem_nil, or_false] at hv
  rcases hv with rfl | rfl | rfl | rfl | rfl <;> rfl
theorem D13.keeps {w w' : World} {S : Md} {q m : Value} {F : List Nat} (h : D13 w S q m) (hk : Keeps F w w') (hq : S.list ≠ [] → ∀ p ∈ own q, p ∉ F) (hm : ∀ t, S.items t → t ≠ [] → ∀ p ∈ own m, p ∉ F) : D13 w' S q m := by
  obtain ⟨t, h1, h2⟩ := h.m
  exact ⟨(h.q.keeps hk hq).more hk.size, t, (h1.keeps hk (hm t h2)).more hk.size, h2⟩
theorem nil_in (w : World) {α : Type} (R : RK α) : R.In w.heap.size w (.slice none 0 0) [] := ⟨none, 0, rfl, Nat.le_refl _, by decide, fun h => absurd rfl h⟩
theorem rel_kv0 : Rel kv0 [] := rel_items kv0_in
theorem D13.init (w : World) (m : Int) : D13 w (mdInit m) (.slice none 0 0) (.slice none 0 0) := by
  refine ⟨?_, [], nil_in w rkI, ?_⟩
  · have : (mdInit m).list = [] := by
      unfold mdInit
      split
      · rfl
      · split
        · rfl
        · split <;> rfl
    rw [this]
    exact nil_in w rkU
  · unfold mdInit
    split
    · rfl
    · split
      · rfl
      · split
        · exact rel_kv0
        · rfl
end Go.Proofs.YtdachaekcjbfmaaGreatDoor
/-
  The document's object: Same.
-/
namespace Go.Proofs.YtdachaekcjbfmaaGreatDoor
open Go.RowKit
set_option maxHeartbeats 8000000
set_option maxRecDepth 100000
theorem bs_beq (l m : List UInt8) : ((bs l).toList == (bs m).toList) = decide (l = m) := by
  rw [toL_bs, toL_bs]
  by_cases h : l = m
  · subst h; simp
  · rw [decide_eq_false h]
    simpa using h
end Go.Proofs.YtdachaekcjbfmaaGreatDoor
/-
  The document's object: Text.
-/
namespace Go.Proofs.YtdachaekcjbfmaaGreatDoor
open Go.RowKit
theorem bs_cat (l m : List UInt8) : bs l ++ bs m = bs (l ++ m) := (bs_app l m).symm
theorem spT_len : ∀ {l : List (List UInt8)} {n : Nat}, (∀ x ∈ l, x.length ≤ n) → (spT l).length ≤ l.length * (n + 1)
  | [], _, _ => by simp [spT]
  | [x], n, h => by have := h x (by simp); simp [spT]; omega
  | x :: y :: r, n, h => by
    have h1 := h x (by simp)
    have h2 := spT_len (l := y :: r) (n := n) (fun z hz => h z (List.mem_cons_of_mem _ hz))
    show (x ++ 32 :: spT (y :: r)).length ≤ _
    rw [List.length_append, List.length_cons, List.length_cons, Nat.add_mul]
    omega
theorem dec_len5 {v : Int} (h : v < 65536) : (dec v).length ≤ 5 := by
  have := dec_length_le 4 v.toNat (by omega)
  exact this
theorem itT_len {x : It} (h0 : 0 ≤ x.k) (h1 : x.k < 8) (h2 : x.v < 65536) : (itT x).length ≤ 7 := by
  have a := dec_length_le 0 x.k.toNat (by omega)
  have b := dec_len5 h2
  show (dec x.k ++ 58 :: dec x.v).length ≤ 7
  rw [List.length_append, List.length_cons]
  have a' : (dec x.k).length ≤ 1 := a
  omega
/-- The items of a map's first keys. -/
def mpT (a : Kv) (k : Nat) : List UInt8 := spT ((itOf 0 (a.take k)).map itT)
theorem mpT_len {a : Kv} (h : KvIn a) {k : Nat} (hk : k ≤ 8) : (mpT a k).length ≤ 64 := by
  have h1 := itOf_len 0 (a.take k)
  have h2 : (a.take k).length ≤ 8 := by rw [List.length_take]; omega
  have h3 := spT_len (l := (itOf 0 (a.take k)).map itT) (n := 7) (fun x hx => by
    obtain ⟨y, hy, rfl⟩ := List.mem_map.1 hx
    have hy1 := itOf_keys 0 (a.take k) y hy
    obtain ⟨j, hj⟩ := itOf_mem 0 (a.take k) y hy
    have hv := h.rng j y.v (by rw [List.getElem?_take] at hj; split at hj <;> first | exact hj | cases hj)
    exact itT_len (by omega) (by omega) hv.2)
  rw [List.length_map] at h3
  calc _ ≤ (itOf 0 (a.take k)).length * (7 + 1) := h3
    _ ≤ 8 * 8 := Nat.mul_le_mul_right 8 (by omega)
    _ = 64 := rfl
section
variable {ops : Array Oper} {S : World → Prop} {o : Oper} {a : Act}
end
set_option maxHeartbeats 8000000
set_option maxRecDepth 100000
end Go.Proofs.YtdachaekcjbfmaaGreatDoor
/-
  What the program's objects must tell; the law's alike, over any such program.
-/
namespace Go.Proofs.YtdachaekcjbfmaaGreatDoor
open Go.RowKit
/-- The program's State: how many cells it has, and the zero one (to be set anew for each program). -/
def skM : SK := { T := 29, s := 1, d := _, und := Tryz.underlying29, row := rfl, size := by kernel_rfl }
def mdZ : List Value := [.nilIface]
/-- The same, as a walk shows it. -/
abbrev mdZA : Array Value := #[.nilIface]
theorem mdZ_ok : skM.Ok mdZ := ⟨rfl, fun v hv => by
  simp only [mdZ, List.mem_cons, List.not_mem_nil, or_false] at hv
  subst hv; rfl⟩
/-! What is told of an object, or of none. -/
def oModel : Option Md → Int
  | some S => S.model
  | none => 0
def oB : Option Md → List UInt8
  | some S => mdB S
  | none => []
def oT : Option Md → List UInt8
  | some S => mdT S
  | none => []
def oX : Option Md → Int → Opn → Option Md × Ans × Int
  | some S, c, x => (some (mdX S c x).1, (mdX S c x).2.1, (mdX S c x).2.2)
  | none, _, _ => (none, ⟨0, 0⟩, 1)
def oSame : Option Md → Option Md → Bool
  | some S, some T => decide (S.model = T.model ∧ mdB S = mdB T)
  | none, none => true
  | _, _ => false
def oInit : Option Md → Bool
  | some S => decide (mdB S = mdB (mdInit S.model))
  | none => false
def oLen : Option Md → Nat
  | some S => S.len
  | none => 0
def oNew (m : Int) : Option Md := if m ≤ 3 then some (mdInit m) else none
/-- What bytes are, of a model; the error. -/
def mdD (m : Int) (b : List UInt8) : Option Md × Int :=
  if m = 0 then (if b.length = 2 then (some (.rg (rgN b)), 0) else (none, 4))
  else if m = 1 then (if b.length % 2 = 1 then (none, 4) else (some (.qu (quN b)), 0))
  else if m = 2 then (if (kvD (nb b)).2 = 0 then (some (.mp (kvD (nb b)).1), 0) else (none, 4))
  else if m = 3 then (if (lkD b).2 = 0 then (some (.lk (lkD b).1), 0) else (none, 4))
  else (none, 10)
def mdIdle (m f : Int) : Bool := decide (m = 0 ∧ f = 1 ∨ m = 2 ∧ f = 6)
/-- What the program's objects tell; G: what its package-level variables hold. -/
structure MdProg (G : World → Prop) where
  At : World → Value → Option Md → Prop
  foot : Value → List Nat
  keepG : ∀ {w w' : World}, G w → Keeps [] w w' → G w'
  keep : ∀ {w w' : World} {F : List Nat} {st : Value} {O : Option Md}, At w st O → Keeps F w w' → (∀ q ∈ foot st, q ∉ F) → At w' st O
  old : ∀ {w : World} {st : Value} {O : Option Md}, At w st O → ∀ q ∈ foot st, q < w.heap.size
  cells : ∀ {w : World} {st : Value} {O : Option Md}, At w st O → ∃ A : List Value, st = .agg A.toArray ∧ skM.Ok A
  in_ : ∀ {w : World} {st : Value} {S : Md}, At w st (some S) → S.In
  zero : ∀ w, At w (.agg mdZ.toArray) none
  new : ∀ w m, G w → 0 ≤ m ∧ m < 256 → Calls Tryz.prog 9 #[.int .u8 m] w fun e w' => ∃ st, e = .returned (.tuple #[st, .int .i64 (if m ≤ 3 then 0 else 10)]) ∧ At w' st (oNew m) ∧ Keeps [] w w' ∧ ∀ q ∈ foot st, w.heap.size ≤ q
  model : ∀ w st O, G w → At w st O → Calls Tryz.prog 24 #[st] w fun e w' => e = .returned (.tuple #[.int .u8 (oModel O), .bool O.isSome]) ∧ Keeps [] w w'
  step : ∀ w st O c x, G w → At w st O → oLen O ≤ 1000 → 0 ≤ c ∧ c < 256 → x.In → Calls Tryz.prog 13 #[st, .int .u8 c, x.val] w fun e w' =>
    ∃ st', e = .returned (.tuple #[st', .agg (ansC (oX O c x).2.1).toArray, .int .i64 (oX O c x).2.2]) ∧ At w' st' (oX O c x).1 ∧ Keeps [] w w' ∧ FSub (foot st') (foot st) w.heap.size
  initial : ∀ w st O, G w → At w st O → oLen O ≤ 1000 → Calls Tryz.prog 22 #[st] w fun e w' => e = .returned (.bool (oInit O)) ∧ Keeps [] w w'
  enc : ∀ w st O, G w → At w st O → oLen O ≤ 1000 → Calls Tryz.prog 25 #[st] w fun e w' => e = .returned (.string (bs (oB O))) ∧ Keeps [] w w'
  text : ∀ w st O, G w → At w st O → oLen O ≤ 1000 → Calls Tryz.prog 21 #[st] w fun e w' => e = .returned (.string (bs (oT O))) ∧ Keeps [] w w'
variable {G : World → Prop}
/-- What its Fits tells. -/
structure MdFits (R : MdProg G) : Prop where
  fits : ∀ w st O c x r, G w → R.At w st O → oLen O ≤ 1000 → 0 ≤ c ∧ c < 256 → x.In → (0 ≤ r.k ∧ r.k < 256) ∧ (0 ≤ r.v ∧ r.v < 65536) → Calls Tryz.prog 15 #[st, .int .u8 c, x.val, .agg (ansC r).toArray] w fun e w' =>
    ∃ st', e = .returned (.tuple #[st', .bool (decide ((oX O c x).2.2 = 0 ∧ (oX O c x).2.1 = r))]) ∧ R.At w' st' (if (oX O c x).2.2 = 0 ∧ (oX O c x).2.1 = r then (oX O c x).1 else O) ∧ Keeps [] w w' ∧ FSub (R.foot st') (R.foot st) w.heap.size
/-- What its Same tells. -/
structure MdSame (R : MdProg G) : Prop where
  same : ∀ w st O st2 P, G w → R.At w st O → R.At w st2 P → oLen O ≤ 1000 → oLen P ≤ 1000 → Calls Tryz.prog 23 #[st, st2] w fun e w' => e = .returned (.bool (oSame O P)) ∧ Keeps [] w w'
/-- What its Decode tells. -/
structure MdDec (R : MdProg G) : Prop where
  dec : ∀ w m b, G w → 0 ≤ m ∧ m < 256 → b.length ≤ 1000 → Calls Tryz.prog 16 #[.int .u8 m, .string (bs b)] w fun e w' =>
    ∃ st, e = .returned (.tuple #[st, .int .i64 (mdD m b).2]) ∧ R.At w' st (mdD m b).1 ∧ Keeps [] w w' ∧ ∀ q ∈ R.foot st, w.heap.size ≤ q
/-- What its Idle tells. -/
structure MdIdle (G : World → Prop) : Prop where
  idle : ∀ w m f, G w → 0 ≤ m ∧ m < 256 → 0 ≤ f ∧ f < 256 → Calls Tryz.prog 18 #[.int .u8 m, .int .u8 f] w fun e w' => e = .returned (.bool (mdIdle m f)) ∧ Keeps [] w w'
theorem MdProg.new_ (R : MdProg G) {w w' : World} {st : Value} {O : Option Md} (h : R.At w st O) (hk : Keeps [] w w') : R.At w' st O := R.keep h hk (by simp)
/-- The state lies apart from blocks that are younger than it. -/
theorem MdProg.put (R : MdProg G) {w w' : World} {st : Value} {O : Option Md} (h : R.At w st O) {g : Nat} (hk : Keeps [g] w w') (hg : ∀ q ∈ R.foot st, q ≠ g) : R.At w' st O := R.keep h hk (fun q hq => by simpa using hg q hq)
section
variable {ops : Array Oper} {rest : List Oper} {a : Act} {w : World} {Q : Exit → Act → World → Prop}
theorem wpList_loadM {dst : Option Tmp} {ty : TypeId} {pos : String} {after : Array Edge} {gd : Option (Nat × Bool)} {x : Operand} {g off : Nat} {A : List Value} (hA : skM.Ok A)
    (hw : Region.wanted { dst := dst, op := .load 29 x, type := ty, pos := pos, after := after, guard := gd } (yielded ops a.tmps) = true)
    (hx : a.eval x = .pointer (some ⟨g, off, none⟩)) (hr : w.rangeAt g off A) (h : wpList Tryz.prog ops Q rest (a.put dst (.agg A.toArray)) w) :
    wpList Tryz.prog ops Q ({ dst := dst, op := .load 29 x, type := ty, pos := pos, after := after, guard := gd } :: rest) a w := skM.wpList_load hA hw hx hr h
theorem wpList_putM {dst : Option Tmp} {ty : TypeId} {pos : String} {after : Array Edge} {x y : Operand} {g : Nat} {old A : List Value} (hA : skM.Ok A) (hO : skM.Ok old) {t : TypeId}
    (hx : a.eval x = .pointer (some ⟨g, 0, none⟩)) (hy : a.eval y = .agg A.toArray) (hg : w.heap[g]? = some (.cells old.toArray t (0, 0)))
    (h : ∀ W, W.heap[g]? = some (.cells A.toArray t (0, 0)) → Keeps [g] w W → wpList Tryz.prog ops Q rest (a.put dst undef) W) :
    wpList Tryz.prog ops Q ({ dst := dst, op := .store 29 x y, type := ty, pos := pos, after := after, guard := none } :: rest) a w := skM.wpList_put hA hO hx hy hg h
end
end Go.Proofs.YtdachaekcjbfmaaGreatDoor
/-
  The law's behind, over any program's objects.
-/
namespace Go.Proofs.YtdachaekcjbfmaaGreatDoor
open Go.RowKit
set_option maxRecDepth 100000
theorem Tryz.infoC13 : (Tryz.prog.info? 46).map (fun i => (i.zero, i.size, i.bytes)) = some (some (.agg (clC clZero).toArray), 6, 10) := by kernel_rfl
/-- Calls of the law, side by side. -/
noncomputable def rkC13 : RK Cl :=
  { T := 46, Sl := 22, s := 6, b := 10, cs := clC, i := (info_parts Tryz.infoC13).choose, z := .agg (clC clZero).toArray,
    len := clC_len, one := clC_one, s0 := by decide, b1 := by decide, und := Tryz.underlying22,
    hi := (info_parts Tryz.infoC13).choose_spec.1, hz := (info_parts Tryz.infoC13).choose_spec.2.1, hs := (info_parts Tryz.infoC13).choose_spec.2.2.1, hb := (info_parts Tryz.infoC13).choose_spec.2.2.2, hzs := rfl }
theorem InC13_at {N : Nat} {w : World} {a : Option Addr} {n c : Nat} {l : List Cl} (h : rkC13.In N w (.slice a n c) l) {k : Nat} (hk : k < l.length) : ∃ bk o, a = some ⟨bk, o, none⟩ ∧ bk < N ∧ w.rangeAt bk (o + k * 6) (clC l[k]) := by
  obtain ⟨_, _, e, _, _, h⟩ := h
  simp at e
  obtain ⟨rfl, -, -⟩ := e
  obtain ⟨bk, o, e, hb, hr⟩ := h (fun e => by rw [e] at hk; simp at hk)
  exact ⟨bk, o, e, hb, hr k hk⟩
/-- The state behind calls; those that are refused are left out. -/
def bhS (S : Md) : List Cl → Md
  | [] => S
  | y :: l => bhS (mdX S y.c y.x).1 l
theorem bhS_app : ∀ (S : Md) (l m : List Cl), bhS S (l ++ m) = bhS (bhS S l) m
  | _, [], _ => rfl
  | S, y :: l, m => bhS_app (mdX S y.c y.x).1 l m
theorem bhS_next {S : Md} {l : List Cl} {k : Nat} (hk : k < l.length) : bhS S (l.take (k + 1)) = (mdX (bhS S (l.take k)) l[k].c l[k].x).1 := by
  rw [List.take_add_one, List.getElem?_eq_getElem hk, Option.toList_some, bhS_app]
  rfl
theorem bhS_len : ∀ (S : Md) (l : List Cl), (bhS S l).len ≤ S.len + l.length
  | _, [] => Nat.le_refl _
  | S, y :: l => by
    have h1 := bhS_len (mdX S y.c y.x).1 l
    have h2 := mdX_len S y.c y.x
    show (bhS (mdX S y.c y.x).1 l).len ≤ S.len + (l.length + 1)
    omega
section
variable {ops : Array Oper} {S : World → Prop} {o : Oper} {a : Act} {w : World} {K : Act → World → Prop} {Q : Exit → Act → World → Prop}
theorem run_allocM (w : World) : (Instr.alloc 29 true (.tuple #[])).run Tryz.prog w = .ok (.pointer (some ⟨w.heap.size, 0, none⟩)) (w.alloc (.cells mdZ.toArray 29)) := by kernel_rfl
theorem wp_allocM (ho : o.op = .alloc 29) (h : K (a.put o.dst (.pointer (some ⟨w.heap.size, 0, none⟩))) (w.alloc (.cells mdZ.toArray 29))) : o.wp Tryz.prog a w K Q := by
  unfold Oper.wp execOp
  simp only [ho, Sem.run_bind, run_allocM, Result.andThen_ok, Sem.run_pure]
  exact h
theorem yields_indexC13 (hw : Region.wanted o (yielded ops a.tmps) = true) (x y : Operand) (ho : o.op = .indexAddr 22 x y) (g of n c k : Nat) (hx : a.eval x = .slice (some ⟨g, of, none⟩) n c) (hy : a.eval y = .int .i64 k) (hk : k < n) :
    YieldsIf Tryz.prog ops S o (.pointer (some ⟨g, of + k * 6, none⟩)) a :=
  Or.inl ⟨hw, by
    have hk2 : (k : Int) < n := by omega
    intro w _
    unfold execOp
    simp only [ho, hx, hy]
    go_simp⟩
end
variable {G : World → Prop}
set_option maxHeartbeats 8000000
theorem behind13_any (R : MdProg G) (w : World) (hG : G w) {m : Int} (h0 : 0 ≤ m) (h3 : m ≤ 3) {v : Value} {l : List Cl} (hl : ∀ y ∈ l, y.In) (hI : rkC13.In w.heap.size w v l) (hn : l.length ≤ 900) :
    Calls Tryz.prog 20 #[.int .u8 m, v] w fun e w' => ∃ st, e = .returned (.tuple #[st, .bool true]) ∧ R.At w' st (some (bhS (mdInit m) l)) ∧ Keeps [] w w' ∧ ∀ q ∈ R.foot st, w.heap.size ≤ q := by
  obtain ⟨a, cp, rfl, hc, hm, -⟩ := id hI
  have HZ := Lib.hid (show (w.alloc (.cells mdZA 29)).heap[w.heap.size]? = some (.cells mdZ.toArray 29 (0, 0)) from heap_alloc_new w _)
  have HKZ := Lib.hid (show Keeps [] w (w.alloc (.cells mdZA 29)) from (Keeps.refl _ _).alloc _)
  have HN := Lib.hid (R.new _ m (R.keepG hG HKZ.out) ⟨h0, by omega⟩)
  rw [if_pos h3] at HN
  have ho : oNew m = some (mdInit m) := if_pos h3
  rw [ho] at HN
  have HIN := Lib.hid hI; have HLI := Lib.hid hl; have HGL := Lib.hid (fun w' (h : Keeps [] w w') => R.keepG hG h)
  have HLE := Lib.hid (fun k => show (bhS (mdInit m) (l.take k)).len ≤ 1000 from by
    have h1 := bhS_len (mdInit m) (l.take k)
    rw [mdInit_len] at h1
    have h2 : (l.take k).length ≤ l.length := by rw [List.length_take]; omega
    omega)
  clear hI hl hG ho
  generalize hn2 : l.length = n at *
  have HN2 := Lib.hid hn2
  clear hn2
  go_enter Tryz.func20, Tryz.ntmps20
  go_wp2_with fail
  refine HN.out.mono ?_; rintro e w1 ⟨st0, rfl, hat, hk1, hf0⟩
  obtain ⟨A0, rfl, hok0⟩ := R.cells hat
  have hz1 : (w.alloc (.cells mdZA 29)).heap.size = w.heap.size + 1 := Array.size_push _
  have HZ1 := Lib.hid (hk1.heap HZ.out (by simp))
  have HK1 := Lib.hid (HKZ.out.trans hk1 (FSub.refl _ _))
  have HOK0 := Lib.hid hok0
  have HC := Lib.hid (show (w1.alloc (.cells mdZA 29)).heap[w1.heap.size]? = some (.cells mdZ.toArray 29 (0, 0)) from heap_alloc_new w1 _)
  have HKC := Lib.hid (show Keeps [] w1 (w1.alloc (.cells mdZA 29)) from (Keeps.refl _ _).alloc _)
  have HA1 := Lib.hid (R.new_ hat HKC.out)
  have HF1 := Lib.hid (show ∀ q ∈ R.foot (.agg A0.toArray), w.heap.size < q ∧ q < w1.heap.size from fun q hq => ⟨by have := hf0 q hq; omega, R.old hat q hq⟩)
  have HSZ := Lib.hid (show w.heap.size < w1.heap.size from by have := hk1.size; omega)
  clear hat hk1 hf0 hok0 hz1 HN HZ HKZ
  go_wp2_with ((with_reducible refine wpList_putM (g := w1.heap.size) (old := mdZ) (A := A0) HOK0.out mdZ_ok ?_ ?_ HC.out ?_); exact rfl; exact rfl)
  intro w2 hW2 hk2
  have HB2 := Lib.hid hW2
  have HA2 := Lib.hid (R.put HA1.out hk2 (fun q hq => Nat.ne_of_lt (HF1.out q hq).2))
  have HK2 := Lib.hid (HK1.out.trans (HKC.out.trans' hk2 (Nat.le_refl _)) (FSub.refl _ _))
  have HZ2 := Lib.hid ((HKC.out.trans' hk2 (Nat.le_refl _)).heap HZ1.out (by simp))
  have HG2 := Lib.hid (show w.heap.size < w1.heap.size ∧ w1.heap.size < w2.heap.size from ⟨HSZ.out, lt_of_block hW2⟩)
  clear hW2 hk2 HC HKC HA1 HK1 HZ1 HSZ
  obtain ⟨g6, hg6⟩ : ∃ g6, g6 = w1.heap.size := ⟨_, rfl⟩
  rw [← hg6] at HB2 HF1 HG2 ⊢
  clear hg6
  go_wp2_with fail
  go_loopw [8] (fun i wr => ∃ (k : Nat) (A : List Value), i = .int .i64 k ∧ k ≤ n ∧ wr.heap[g6]? = some (.cells A.toArray 29 (0, 0)) ∧ R.At wr (.agg A.toArray) (some (bhS (mdInit m) (l.take k))) ∧ (∀ q ∈ R.foot (.agg A.toArray), w.heap.size < q ∧ q ≠ g6) ∧ wr.heap[w.heap.size]? = some (.cells mdZ.toArray 29 (0, 0)) ∧ Keeps [] w wr ∧ g6 < wr.heap.size) (fun i _ => n - (intOf i).toNat)
  case atStart => exact ⟨0, A0, rfl, by omega, HB2.out, HA2.out, fun q hq => ⟨(HF1.out q hq).1, Nat.ne_of_lt (HF1.out q hq).2⟩, HZ2.out, HK2.out, HG2.out.2⟩
  case round =>
    obtain ⟨k, A, rfl, hk, hb, hat, hft, hz, hkw, hsz⟩ := hrel
    have HB := Lib.hid hb; have HAT0 := Lib.hid hat; have HFT := Lib.hid hft; have HZR := Lib.hid hz; have HKW := Lib.hid hkw; have HSR := Lib.hid hsz
    have HOK := Lib.hid (show skM.Ok A from by
      obtain ⟨A', e, h⟩ := R.cells hat
      have : A = A' := by simpa using e
      rw [this]; exact h)
    have HG6 := Lib.hid HG2.out.1
    clear hb hat hft hz hkw hsz HA2 HB2 HK2 HZ2 HF1 HOK0
    by_cases hlt : k < n
    · have hkl : k < l.length := by have := HN2.out; omega
      obtain ⟨g, o, rfl, hg, hr⟩ := InC13_at (HIN.out.new HKW.out (Nat.le_refl _)) hkl
      have HRW := Lib.hid hr
      have HNX := Lib.hid (bhS_next (S := mdInit m) hkl)
      have HXI := Lib.hid (HLI.out l[k] (List.getElem_mem hkl))
      have HLK := Lib.hid (HLE.out k)
      have hb1 : (k : Int) < n := by omega
      have hb0 : 0 ≤ (k : Int) := by omega
      have HF0 := Lib.hid (fun q hq => R.old HAT0.out q hq)
      clear hr
      generalize l[k] = y at *
      generalize bhS (mdInit m) (l.take k) = S at *
      have HST := Lib.hid (fun w' (h : Keeps [] wr w') => R.step w' _ (some S) y.c y.x (HGL.out _ (HKW.out.trans h (FSub.refl _ _))) (R.new_ HAT0.out h) HLK.out ⟨HXI.out.c0, HXI.out.c1⟩ HXI.out.x)
      simp only [oX] at HST
      have HBAD := Lib.hid (fun h => (mdX_bad (S := S) (c := y.c) (x := y.x) h).1)
      generalize mdX S y.c y.x = X at *
      obtain ⟨S1, r, e1⟩ := X
      simp only at HST HNX HBAD
      go_wp2_with fail
      obtain ⟨S0, hS0⟩ : ∃ S0 : World → Prop, S0 = fun y => Keeps [] wr y := ⟨_, rfl⟩
      have HSE := Lib.hid hS0
      have hSD : S0 wr.drew := by rw [hS0]; exact (Keeps.refl _ _).drew
      have HSA := Lib.hid (fun (w' : World) (hh : S0 w') => show w'.rangeAt g6 0 A from by rw [hS0] at hh; exact fun j v hv => hh.cell (block_range HB.out j v hv) (by simp))
      have HSC := Lib.hid (fun (w' : World) (hh : S0 w') => show w'.cell? ⟨g, o + k * 6, none⟩ = some (.int .u8 y.c) from by rw [hS0] at hh; exact hh.cell (cl_parts HRW.out).1 (by simp))
      have HSX := Lib.hid (fun (w' : World) (hh : S0 w') => show w'.rangeAt g (o + k * 6 + 1) (opC y.x) from by rw [hS0] at hh; exact fun j v hv => hh.cell ((cl_parts HRW.out).2 j v hv) (by simp))
      clear hS0
      refine wp_region_noPanic ?_
      refine wp_region_held_drew (S := S0) (by kernel_rfl) hSD (fun hHeld => ?_)
      apply wpAnyH_take (i := 0)
      · simp only [List.getElem?_toArray]; rfl
      · kernel_rfl
      · kernel_rfl
      · kernel_rfl
      · exact fun _ _ _ h => h
      · exact skM.yields HOK.out rfl _ rfl g6 0 rfl HSA.out
      · assumption
      try simp only [Act.put, List.setIfInBounds_toArray, List.set_cons_zero, List.set_cons_succ]
      apply wpAnyH_take (i := 1)
      · simp only [List.getElem?_toArray]; rfl
      · kernel_rfl
      · kernel_rfl
      · kernel_rfl
      · exact fun _ _ _ h => h
      · exact Or.inl ⟨by rfl, by intro w hSw; go_simp; try with_reducible rfl⟩
      · assumption
      try simp only [Act.put, List.setIfInBounds_toArray, List.set_cons_zero, List.set_cons_succ]
      apply wpAnyH_take (i := 2)
      · simp only [List.getElem?_toArray]; rfl
      · kernel_rfl
      · kernel_rfl
      · kernel_rfl
      · exact fun _ _ _ h => h
      · exact Or.inl ⟨by rfl, by intro w hSw; go_simp; try with_reducible rfl⟩
      · assumption
      try simp only [Act.put, List.setIfInBounds_toArray, List.set_cons_zero, List.set_cons_succ]
      apply wpAnyH_take (i := 3)
      · simp only [List.getElem?_toArray]; rfl
      · kernel_rfl
      · kernel_rfl
      · kernel_rfl
      · exact fun _ _ _ h => h
      · exact yields_indexC13 rfl _ _ rfl g o n cp k rfl rfl hlt
      · assumption
      try simp only [Act.put, List.setIfInBounds_toArray, List.set_cons_zero, List.set_cons_succ]
      apply wpAnyH_take (i := 4)
      · simp only [List.getElem?_toArray]; rfl
      · kernel_rfl
      · kernel_rfl
      · kernel_rfl
      · exact fun _ _ _ h => h
      · exact Or.inl ⟨by rfl, by intro w hSw; go_simp; try with_reducible rfl⟩
      · assumption
      try simp only [Act.put, List.setIfInBounds_toArray, List.set_cons_zero, List.set_cons_succ]
      apply wpAnyH_take (i := 5)
      · simp only [List.getElem?_toArray]; rfl
      · kernel_rfl
      · kernel_rfl
      · kernel_rfl
      · exact fun _ _ _ h => h
      · exact Or.inl ⟨by rfl, by intro w hSw; have q0 := HSC.out w hSw; go_simp; try with_reducible rfl⟩
      · assumption
      try simp only [Act.put, List.setIfInBounds_toArray, List.set_cons_zero, List.set_cons_succ]
      apply wpAnyH_take (i := 6)
      · simp only [List.getElem?_toArray]; rfl
      · kernel_rfl
      · kernel_rfl
      · kernel_rfl
      · exact fun _ _ _ h => h
      · exact Or.inl ⟨by rfl, by intro w hSw; go_simp; try with_reducible rfl⟩
      · assumption
      try simp only [Act.put, List.setIfInBounds_toArray, List.set_cons_zero, List.set_cons_succ]
      apply wpAnyH_take (i := 7)
      · simp only [List.getElem?_toArray]; rfl
      · kernel_rfl
      · kernel_rfl
      · kernel_rfl
      · exact fun _ _ _ h => h
      · exact Or.inl ⟨by rfl, by intro w hSw; go_simp; try with_reducible rfl⟩
      · assumption
      try simp only [Act.put, List.setIfInBounds_toArray, List.set_cons_zero, List.set_cons_succ]
      apply wpAnyH_take (i := 8)
      · simp only [List.getElem?_toArray]; rfl
      · kernel_rfl
      · kernel_rfl
      · kernel_rfl
      · exact fun _ _ _ h => h
      · exact yields_indexC13 rfl _ _ rfl g o n cp k rfl rfl hlt
      · assumption
      try simp only [Act.put, List.setIfInBounds_toArray, List.set_cons_zero, List.set_cons_succ]
      apply wpAnyH_take (i := 9)
      · simp only [List.getElem?_toArray]; rfl
      · kernel_rfl
      · kernel_rfl
      · kernel_rfl
      · exact fun _ _ _ h => h
      · exact Or.inl ⟨by rfl, by intro w hSw; go_simp; try with_reducible rfl⟩
      · assumption
      try simp only [Act.put, List.setIfInBounds_toArray, List.set_cons_zero, List.set_cons_succ]
      apply wpAnyH_take (i := 10)
      · simp only [List.getElem?_toArray]; rfl
      · kernel_rfl
      · kernel_rfl
      · kernel_rfl
      · exact fun _ _ _ h => h
      · exact yields_loadP y.x rfl _ rfl g _ rfl HSX.out
      · assumption
      try simp only [Act.put, List.setIfInBounds_toArray, List.set_cons_zero, List.set_cons_succ]
      have HY := Lib.hid ((Keeps.refl [] wr).drew)
      generalize wr.drew = YC at *
      apply wpAnyH_ready (rs := [11, 16, 17])
      · kernel_rfl
      · simp
      apply AllReadyH.cons
      · simp only [List.getElem?_toArray]; rfl
      · intro K hK
        rw [if_pos (by rfl)]
        refine wp_call9 13 _ _ rfl [.agg A.toArray, .int .u8 y.c, y.x.val] rfl Tryz.func13 (by kernel_rfl) (by kernel_rfl) ((HST.out _ HY.out).mono ?_)
        rintro e YC ⟨st1, rfl, hat, hk, hf⟩
        refine ⟨_, rfl, ?_⟩
        try have HFA := Lib.hid (show ∀ q ∈ R.foot st1, q ≠ ga from fun q hq => by
          rcases hf q hq with h | h
          · have h1 := HF0.out q h; have h2 := HGA.out; omega
          · have := HLA.out; omega)
        try have HFB := Lib.hid (show ∀ q ∈ R.foot st1, q ≠ gb from fun q hq => by
          rcases hf q hq with h | h
          · have h1 := HF0.out q h; have h2 := HGB.out; omega
          · have := HLB.out; omega)
        have HFN := Lib.hid (show ∀ q ∈ R.foot st1, q ∈ R.foot (.agg A.toArray) ∨ wr.heap.size ≤ q from fun q hq => (hf q hq).imp id (fun h => Nat.le_trans HY.out.size h))
        try replace HBA := Lib.hid (hk.heap HBA.out (by simp))
        try replace HBB := Lib.hid (hk.heap HBB.out (by simp))
        try replace HAT := Lib.hid (R.new_ HAT.out hk)
        try replace HLA := Lib.hid (Nat.lt_of_lt_of_le HLA.out hk.size)
        try replace HLB := Lib.hid (Nat.lt_of_lt_of_le HLB.out hk.size)
        replace HY := Lib.hid (HY.out.trans hk (FSub.refl _ _))
        have HAT := Lib.hid hat
        obtain ⟨A1, rfl, hok1⟩ := R.cells hat
        have HOK1 := Lib.hid hok1
        clear hat hk hf hok1
        refine hK.out _ _ ?_ (fun hHeld => ?_)
        · exact (by rw [HSE.out]; exact HY.out)
        clear hK K
        try simp only [Act.put, List.setIfInBounds_toArray, List.set_cons_zero, List.set_cons_succ]
        apply wpAnyH_take (i := 12)
        · simp only [List.getElem?_toArray]; rfl
        · kernel_rfl
        · kernel_rfl
        · kernel_rfl
        · exact fun _ _ _ h => h
        · exact Or.inl ⟨by rfl, by intro w hSw; go_simp; try with_reducible rfl⟩
        · assumption
        try simp only [Act.put, List.setIfInBounds_toArray, List.set_cons_zero, List.set_cons_succ]
        apply wpAnyH_take (i := 13)
        · simp only [List.getElem?_toArray]; rfl
        · kernel_rfl
        · kernel_rfl
        · kernel_rfl
        · exact fun _ _ _ h => h
        · exact Or.inl ⟨by rfl, by intro w hSw; go_simp; try with_reducible rfl⟩
        · assumption
        try simp only [Act.put, List.setIfInBounds_toArray, List.set_cons_zero, List.set_cons_succ]
        apply wpAnyH_take (i := 14)
        · simp only [List.getElem?_toArray]; rfl
        · kernel_rfl
        · kernel_rfl
        · kernel_rfl
        · exact fun _ _ _ h => h
        · exact Or.inl ⟨by rfl, by intro w hSw; go_simp; try with_reducible rfl⟩
        · assumption
        try simp only [Act.put, List.setIfInBounds_toArray, List.set_cons_zero, List.set_cons_succ]
        apply wpAnyH_take (i := 15)
        · simp only [List.getElem?_toArray]; rfl
        · kernel_rfl
        · kernel_rfl
        · kernel_rfl
        · exact fun _ _ _ h => h
        · exact Or.inl ⟨by rfl, by intro w hSw; go_simp; try with_reducible rfl⟩
        · assumption
        try simp only [Act.put, List.setIfInBounds_toArray, List.set_cons_zero, List.set_cons_succ]
        apply wpAnyH_ready (rs := [16, 17])
        · kernel_rfl
        · simp
        apply AllReadyH.cons
        · simp only [List.getElem?_toArray]; rfl
        · intro K hK
          rw [if_pos (by rfl)]
          refine wp_allocM rfl ?_
          have hk : Keeps [] YC (YC.alloc (.cells mdZ.toArray 29)) := (Keeps.refl _ _).alloc _
          have hb := heap_alloc_new YC (.cells mdZ.toArray 29)
          try have HFA := Lib.hid (fun q hq => (show q ≠ YC.heap.size from Nat.ne_of_lt (R.old HAT.out q hq)))
          try have HAB := Lib.hid (show YC.heap.size ≠ gb from Nat.ne_of_gt HLB.out)
          have HGA := Lib.hid HY.out.size
          try replace HBA := Lib.hid (hk.heap HBA.out (by simp))
          try replace HBB := Lib.hid (hk.heap HBB.out (by simp))
          try replace HAT := Lib.hid (R.new_ HAT.out hk)
          try replace HLA := Lib.hid (Nat.lt_of_lt_of_le HLA.out hk.size)
          try replace HLB := Lib.hid (Nat.lt_of_lt_of_le HLB.out hk.size)
          replace HY := Lib.hid (HY.out.trans hk (FSub.refl _ _))
          have HBA := Lib.hid hb
          have HLA := Lib.hid (lt_of_block hb)
          clear hk hb
          generalize YC.heap.size = ga at *
          generalize YC.alloc (.cells mdZ.toArray 29) = YC at *
          refine hK.out _ _ ?_ (fun hHeld => ?_)
          · exact (by rw [HSE.out]; exact HY.out)
          clear hK K
          try simp only [Act.put, List.setIfInBounds_toArray, List.set_cons_zero, List.set_cons_succ]
          apply wpAnyH_ready (rs := [17])
          · kernel_rfl
          · simp
          apply AllReadyH.cons (hs := AllReadyH.nil)
          · simp only [List.getElem?_toArray]; rfl
          intro K hK
          rw [if_pos (by rfl)]
          refine wp_allocA _ _ _ _ rfl ?_
          have hk : Keeps [] YC (YC.alloc (.cells (ansC ⟨0, 0⟩).toArray 25)) := (Keeps.refl _ _).alloc _
          have hb := heap_alloc_new YC (.cells (ansC ⟨0, 0⟩).toArray 25)
          try have HFB := Lib.hid (fun q hq => (show q ≠ YC.heap.size from Nat.ne_of_lt (R.old HAT.out q hq)))
          try have HAB := Lib.hid (show ga ≠ YC.heap.size from Nat.ne_of_lt HLA.out)
          have HGB := Lib.hid HY.out.size
          try replace HBA := Lib.hid (hk.heap HBA.out (by simp))
          try replace HBB := Lib.hid (hk.heap HBB.out (by simp))
          try replace HAT := Lib.hid (R.new_ HAT.out hk)
          try replace HLA := Lib.hid (Nat.lt_of_lt_of_le HLA.out hk.size)
          try replace HLB := Lib.hid (Nat.lt_of_lt_of_le HLB.out hk.size)
          replace HY := Lib.hid (HY.out.trans hk (FSub.refl _ _))
          have HBB := Lib.hid hb
          have HLB := Lib.hid (lt_of_block hb)
          clear hk hb
          generalize YC.heap.size = gb at *
          generalize YC.alloc (.cells (ansC ⟨0, 0⟩).toArray 25) = YC at *
          refine hK.out _ _ ?_ (fun hHeld => ?_)
          · exact (by rw [HSE.out]; exact HY.out)
          clear hK K
          try simp only [Act.put, List.setIfInBounds_toArray, List.set_cons_zero, List.set_cons_succ]
          apply wpAnyH_ready (rs := [18])
          · kernel_rfl
          · simp
          apply AllReadyH.cons (hs := AllReadyH.nil)
          · simp only [List.getElem?_toArray]; rfl
          intro K hK
          rw [if_pos (by rfl)]
          refine skM.wp_put rfl (g := ga) (old := mdZ) (A := A1) HOK1.out mdZ_ok rfl rfl HBA.out (fun YC hV hk => ?_)
          replace HBA := Lib.hid hV
          replace HBB := Lib.hid (hk.heap HBB.out (by have := HAB.out; simp; exact fun e => this e.symm))
          replace HAT := Lib.hid (R.put HAT.out hk HFA.out)
          replace HY := Lib.hid (HY.out.trans' hk HGA.out)
          clear hV hk
          refine hK.out _ _ ?_ (fun hHeld => ?_)
          · exact (by rw [HSE.out]; exact HY.out)
          clear hK K
          try simp only [Act.put, List.setIfInBounds_toArray, List.set_cons_zero, List.set_cons_succ]
          apply wpAnyH_ready (rs := [19])
          · kernel_rfl
          · simp
          apply AllReadyH.cons (hs := AllReadyH.nil)
          · simp only [List.getElem?_toArray]; rfl
          intro K hK
          rw [if_pos (by rfl)]
          refine wp_putN rfl (g := gb) (old := ⟨0, 0⟩) r rfl rfl HBB.out (fun YC hV hk => ?_)
          replace HBB := Lib.hid hV
          replace HBA := Lib.hid (hk.heap HBA.out (by have := HAB.out; simpa using this))
          replace HAT := Lib.hid (R.put HAT.out hk HFB.out)
          replace HY := Lib.hid (HY.out.trans' hk HGB.out)
          clear hV hk
          refine hK.out _ _ ?_ (fun hHeld => ?_)
          · exact (by rw [HSE.out]; exact HY.out)
          clear hK K
          try simp only [Act.put, List.setIfInBounds_toArray, List.set_cons_zero, List.set_cons_succ]
          apply wpAnyH_take (i := 20)
          · simp only [List.getElem?_toArray]; rfl
          · kernel_rfl
          · kernel_rfl
          · kernel_rfl
          · exact fun _ _ _ h => h
          · exact Or.inl ⟨by rfl, by intro w hSw; go_simp; try with_reducible rfl⟩
          · assumption
          try simp only [Act.put, List.setIfInBounds_toArray, List.set_cons_zero, List.set_cons_succ]
          refine wpAnyH_done (by kernel_rfl) ?_ _
          refine NoPanic.normal ?_
          have HBG := Lib.hid (HY.out.heap HB.out (by simp))
          by_cases hx : e1 = 0
          · subst hx
            go_wp2_with (first
              | ((with_reducible refine wpList_loadM (g := ga) (off := 0) HOK1.out ?_ ?_ (block_range HBA.out) ?_); exact rfl; exact rfl)
              | ((with_reducible refine wpList_putM (g := g6) (old := A) (A := A1) HOK1.out HOK.out ?_ ?_ HBG.out ?_); exact rfl; exact rfl))
            intro YD hV hk
            have HVD := Lib.hid hV
            have HFG := Lib.hid (show ∀ q ∈ R.foot (.agg A1.toArray), w.heap.size < q ∧ q ≠ g6 from fun q hq => by
              rcases HFN.out q hq with h | h
              · exact HFT.out q h
              · have := HSR.out; have := HG6.out; exact ⟨by omega, by omega⟩)
            have HAD := Lib.hid (R.put HAT.out hk (fun q hq => (HFG.out q hq).2))
            have HZD := Lib.hid (hk.heap (HY.out.heap HZR.out (by simp)) (by have := HG6.out; simp; omega))
            have HKD := Lib.hid ((HKW.out.trans HY.out (FSub.refl _ _)).trans hk (fun q hq => .inr (by have := HG6.out; simp at hq; omega)))
            have HSD2 := Lib.hid (show g6 < YD.heap.size from lt_of_block hV)
            clear hV hk
            go_wp2_with fail
            go_roundw
            case rel => exact ⟨k + 1, A1, by go_num, by omega, HVD.out, by rw [HNX.out]; exact HAD.out, HFG.out, HZD.out, HKD.out, HSD2.out⟩
            case measure => simp [intOf]; omega
          · have q0 : (e1 == 0) = false := by simpa using hx
            have HEQ := Lib.hid (HBAD.out hx)
            clear hx
            go_wp2_with fail
            go_roundw
            case rel => exact ⟨k + 1, A, by go_num, by omega, HBG.out, by rw [HNX.out, HEQ.out]; exact R.new_ HAT0.out HY.out, HFT.out, HY.out.heap HZR.out (by simp), HKW.out.trans HY.out (FSub.refl _ _), Nat.lt_of_lt_of_le HSR.out HY.out.size⟩
            case measure => simp [intOf]; omega
        apply AllReadyH.cons (hs := AllReadyH.nil)
        · simp only [List.getElem?_toArray]; rfl
        intro K hK
        rw [if_pos (by rfl)]
        refine wp_allocA _ _ _ _ rfl ?_
        have hk : Keeps [] YC (YC.alloc (.cells (ansC ⟨0, 0⟩).toArray 25)) := (Keeps.refl _ _).alloc _
        have hb := heap_alloc_new YC (.cells (ansC ⟨0, 0⟩).toArray 25)
        try have HFB := Lib.hid (fun q hq => (show q ≠ YC.heap.size from Nat.ne_of_lt (R.old HAT.out q hq)))
        try have HAB := Lib.hid (show ga ≠ YC.heap.size from Nat.ne_of_lt HLA.out)
        have HGB := Lib.hid HY.out.size
        try replace HBA := Lib.hid (hk.heap HBA.out (by simp))
        try replace HBB := Lib.hid (hk.heap HBB.out (by simp))
        try replace HAT := Lib.hid (R.new_ HAT.out hk)
        try replace HLA := Lib.hid (Nat.lt_of_lt_of_le HLA.out hk.size)
        try replace HLB := Lib.hid (Nat.lt_of_lt_of_le HLB.out hk.size)
        replace HY := Lib.hid (HY.out.trans hk (FSub.refl _ _))
        have HBB := Lib.hid hb
        have HLB := Lib.hid (lt_of_block hb)
        clear hk hb
        generalize YC.heap.size = gb at *
        generalize YC.alloc (.cells (ansC ⟨0, 0⟩).toArray 25) = YC at *
        refine hK.out _ _ ?_ (fun hHeld => ?_)
        · exact (by rw [HSE.out]; exact HY.out)
        clear hK K
        try simp only [Act.put, List.setIfInBounds_toArray, List.set_cons_zero, List.set_cons_succ]
        apply wpAnyH_ready (rs := [16])
        · kernel_rfl
        · simp
        apply AllReadyH.cons (hs := AllReadyH.nil)
        · simp only [List.getElem?_toArray]; rfl
        intro K hK
        rw [if_pos (by rfl)]
        refine wp_allocM rfl ?_
        have hk : Keeps [] YC (YC.alloc (.cells mdZ.toArray 29)) := (Keeps.refl _ _).alloc _
        have hb := heap_alloc_new YC (.cells mdZ.toArray 29)
        try have HFA := Lib.hid (fun q hq => (show q ≠ YC.heap.size from Nat.ne_of_lt (R.old HAT.out q hq)))
        try have HAB := Lib.hid (show YC.heap.size ≠ gb from Nat.ne_of_gt HLB.out)
        have HGA := Lib.hid HY.out.size
        try replace HBA := Lib.hid (hk.heap HBA.out (by simp))
        try replace HBB := Lib.hid (hk.heap HBB.out (by simp))
        try replace HAT := Lib.hid (R.new_ HAT.out hk)
        try replace HLA := Lib.hid (Nat.lt_of_lt_of_le HLA.out hk.size)
        try replace HLB := Lib.hid (Nat.lt_of_lt_of_le HLB.out hk.size)
        replace HY := Lib.hid (HY.out.trans hk (FSub.refl _ _))
        have HBA := Lib.hid hb
        have HLA := Lib.hid (lt_of_block hb)
        clear hk hb
        generalize YC.heap.size = ga at *
        generalize YC.alloc (.cells mdZ.toArray 29) = YC at *
        refine hK.out _ _ ?_ (fun hHeld => ?_)
        · exact (by rw [HSE.out]; exact HY.out)
        clear hK K
        try simp only [Act.put, List.setIfInBounds_toArray, List.set_cons_zero, List.set_cons_succ]
        apply wpAnyH_ready (rs := [18])
        · kernel_rfl
        · simp
        apply AllReadyH.cons (hs := AllReadyH.nil)
        · simp only [List.getElem?_toArray]; rfl
        intro K hK
        rw [if_pos (by rfl)]
        refine skM.wp_put rfl (g := ga) (old := mdZ) (A := A1) HOK1.out mdZ_ok rfl rfl HBA.out (fun YC hV hk => ?_)
        replace HBA := Lib.hid hV
        replace HBB := Lib.hid (hk.heap HBB.out (by have := HAB.out; simp; exact fun e => this e.symm))
        replace HAT := Lib.hid (R.put HAT.out hk HFA.out)
        replace HY := Lib.hid (HY.out.trans' hk HGA.out)
        clear hV hk
        refine hK.out _ _ ?_ (fun hHeld => ?_)
        · exact (by rw [HSE.out]; exact HY.out)
        clear hK K
        try simp only [Act.put, List.setIfInBounds_toArray, List.set_cons_zero, List.set_cons_succ]
        apply wpAnyH_ready (rs := [19])
        · kernel_rfl
        · simp
        apply AllReadyH.cons (hs := AllReadyH.nil)
        · simp only [List.getElem?_toArray]; rfl
        intro K hK
        rw [if_pos (by rfl)]
        refine wp_putN rfl (g := gb) (old := ⟨0, 0⟩) r rfl rfl HBB.out (fun YC hV hk => ?_)
        replace HBB := Lib.hid hV
        replace HBA := Lib.hid (hk.heap HBA.out (by have := HAB.out; simpa using this))
        replace HAT := Lib.hid (R.put HAT.out hk HFB.out)
        replace HY := Lib.hid (HY.out.trans' hk HGB.out)
        clear hV hk
        refine hK.out _ _ ?_ (fun hHeld => ?_)
        · exact (by rw [HSE.out]; exact HY.out)
        clear hK K
        try simp only [Act.put, List.setIfInBounds_toArray, List.set_cons_zero, List.set_cons_succ]
        apply wpAnyH_take (i := 20)
        · simp only [List.getElem?_toArray]; rfl
        · kernel_rfl
        · kernel_rfl
        · kernel_rfl
        · exact fun _ _ _ h => h
        · exact Or.inl ⟨by rfl, by intro w hSw; go_simp; try with_reducible rfl⟩
        · assumption
        try simp only [Act.put, List.setIfInBounds_toArray, List.set_cons_zero, List.set_cons_succ]
        refine wpAnyH_done (by kernel_rfl) ?_ _
        refine NoPanic.normal ?_
        have HBG := Lib.hid (HY.out.heap HB.out (by simp))
        by_cases hx : e1 = 0
        · subst hx
          go_wp2_with (first
            | ((with_reducible refine wpList_loadM (g := ga) (off := 0) HOK1.out ?_ ?_ (block_range HBA.out) ?_); exact rfl; exact rfl)
            | ((with_reducible refine wpList_putM (g := g6) (old := A) (A := A1) HOK1.out HOK.out ?_ ?_ HBG.out ?_); exact rfl; exact rfl))
          intro YD hV hk
          have HVD := Lib.hid hV
          have HFG := Lib.hid (show ∀ q ∈ R.foot (.agg A1.toArray), w.heap.size < q ∧ q ≠ g6 from fun q hq => by
            rcases HFN.out q hq with h | h
            · exact HFT.out q h
            · have := HSR.out; have := HG6.out; exact ⟨by omega, by omega⟩)
          have HAD := Lib.hid (R.put HAT.out hk (fun q hq => (HFG.out q hq).2))
          have HZD := Lib.hid (hk.heap (HY.out.heap HZR.out (by simp)) (by have := HG6.out; simp; omega))
          have HKD := Lib.hid ((HKW.out.trans HY.out (FSub.refl _ _)).trans hk (fun q hq => .inr (by have := HG6.out; simp at hq; omega)))
          have HSD2 := Lib.hid (show g6 < YD.heap.size from lt_of_block hV)
          clear hV hk
          go_wp2_with fail
          go_roundw
          case rel => exact ⟨k + 1, A1, by go_num, by omega, HVD.out, by rw [HNX.out]; exact HAD.out, HFG.out, HZD.out, HKD.out, HSD2.out⟩
          case measure => simp [intOf]; omega
        · have q0 : (e1 == 0) = false := by simpa using hx
          have HEQ := Lib.hid (HBAD.out hx)
          clear hx
          go_wp2_with fail
          go_roundw
          case rel => exact ⟨k + 1, A, by go_num, by omega, HBG.out, by rw [HNX.out, HEQ.out]; exact R.new_ HAT0.out HY.out, HFT.out, HY.out.heap HZR.out (by simp), HKW.out.trans HY.out (FSub.refl _ _), Nat.lt_of_lt_of_le HSR.out HY.out.size⟩
          case measure => simp [intOf]; omega
      apply AllReadyH.cons
      · simp only [List.getElem?_toArray]; rfl
      · intro K hK
        rw [if_pos (by rfl)]
        refine wp_allocM rfl ?_
        have hk : Keeps [] YC (YC.alloc (.cells mdZ.toArray 29)) := (Keeps.refl _ _).alloc _
        have hb := heap_alloc_new YC (.cells mdZ.toArray 29)
        try have HFA := Lib.hid (fun q hq => (show q ≠ YC.heap.size from Nat.ne_of_lt (R.old HAT.out q hq)))
        try have HAB := Lib.hid (show YC.heap.size ≠ gb from Nat.ne_of_gt HLB.out)
        have HGA := Lib.hid HY.out.size
        try replace HBA := Lib.hid (hk.heap HBA.out (by simp))
        try replace HBB := Lib.hid (hk.heap HBB.out (by simp))
        try replace HAT := Lib.hid (R.new_ HAT.out hk)
        try replace HLA := Lib.hid (Nat.lt_of_lt_of_le HLA.out hk.size)
        try replace HLB := Lib.hid (Nat.lt_of_lt_of_le HLB.out hk.size)
        replace HY := Lib.hid (HY.out.trans hk (FSub.refl _ _))
        have HBA := Lib.hid hb
        have HLA := Lib.hid (lt_of_block hb)
        clear hk hb
        generalize YC.heap.size = ga at *
        generalize YC.alloc (.cells mdZ.toArray 29) = YC at *
        refine hK.out _ _ ?_ (fun hHeld => ?_)
        · exact (by rw [HSE.out]; exact HY.out)
        clear hK K
        try simp only [Act.put, List.setIfInBounds_toArray, List.set_cons_zero, List.set_cons_succ]
        apply wpAnyH_ready (rs := [11, 17])
        · kernel_rfl
        · simp
        apply AllReadyH.cons
        · simp only [List.getElem?_toArray]; rfl
        · intro K hK
          rw [if_pos (by rfl)]
          refine wp_call9 13 _ _ rfl [.agg A.toArray, .int .u8 y.c, y.x.val] rfl Tryz.func13 (by kernel_rfl) (by kernel_rfl) ((HST.out _ HY.out).mono ?_)
          rintro e YC ⟨st1, rfl, hat, hk, hf⟩
          refine ⟨_, rfl, ?_⟩
          try have HFA := Lib.hid (show ∀ q ∈ R.foot st1, q ≠ ga from fun q hq => by
            rcases hf q hq with h | h
            · have h1 := HF0.out q h; have h2 := HGA.out; omega
            · have := HLA.out; omega)
          try have HFB := Lib.hid (show ∀ q ∈ R.foot st1, q ≠ gb from fun q hq => by
            rcases hf q hq with h | h
            · have h1 := HF0.out q h; have h2 := HGB.out; omega
            · have := HLB.out; omega)
          have HFN := Lib.hid (show ∀ q ∈ R.foot st1, q ∈ R.foot (.agg A.toArray) ∨ wr.heap.size ≤ q from fun q hq => (hf q hq).imp id (fun h => Nat.le_trans HY.out.size h))
          try replace HBA := Lib.hid (hk.heap HBA.out (by simp))
          try replace HBB := Lib.hid (hk.heap HBB.out (by simp))
          try replace HAT := Lib.hid (R.new_ HAT.out hk)
          try replace HLA := Lib.hid (Nat.lt_of_lt_of_le HLA.out hk.size)
          try replace HLB := Lib.hid (Nat.lt_of_lt_of_le HLB.out hk.size)
          replace HY := Lib.hid (HY.out.trans hk (FSub.refl _ _))
          have HAT := Lib.hid hat
          obtain ⟨A1, rfl, hok1⟩ := R.cells hat
          have HOK1 := Lib.hid hok1
          clear hat hk hf hok1
          refine hK.out _ _ ?_ (fun hHeld => ?_)
          · exact (by rw [HSE.out]; exact HY.out)
          clear hK K
          try simp only [Act.put, List.setIfInBounds_toArray, List.set_cons_zero, List.set_cons_succ]
          apply wpAnyH_take (i := 12)
          · simp only [List.getElem?_toArray]; rfl
          · kernel_rfl
          · kernel_rfl
          · kernel_rfl
          · exact fun _ _ _ h => h
          · exact Or.inl ⟨by rfl, by intro w hSw; go_simp; try with_reducible rfl⟩
          · assumption
          try simp only [Act.put, List.setIfInBounds_toArray, List.set_cons_zero, List.set_cons_succ]
          apply wpAnyH_take (i := 13)
          · simp only [List.getElem?_toArray]; rfl
          · kernel_rfl
          · kernel_rfl
          · kernel_rfl
          · exact fun _ _ _ h => h
          · exact Or.inl ⟨by rfl, by intro w hSw; go_simp; try with_reducible rfl⟩
          · assumption
          try simp only [Act.put, List.setIfInBounds_toArray, List.set_cons_zero, List.set_cons_succ]
          apply wpAnyH_take (i := 14)
          · simp only [List.getElem?_toArray]; rfl
          · kernel_rfl
          · kernel_rfl
          · kernel_rfl
          · exact fun _ _ _ h => h
          · exact Or.inl ⟨by rfl, by intro w hSw; go_simp; try with_reducible rfl⟩
          · assumption
          try simp only [Act.put, List.setIfInBounds_toArray, List.set_cons_zero, List.set_cons_succ]
          apply wpAnyH_take (i := 15)
          · simp only [List.getElem?_toArray]; rfl
          · kernel_rfl
          · kernel_rfl
          · kernel_rfl
          · exact fun _ _ _ h => h
          · exact Or.inl ⟨by rfl, by intro w hSw; go_simp; try with_reducible rfl⟩
          · assumption
          try simp only [Act.put, List.setIfInBounds_toArray, List.set_cons_zero, List.set_cons_succ]
          apply wpAnyH_ready (rs := [17])
          · kernel_rfl
          · simp
          apply AllReadyH.cons (hs := AllReadyH.nil)
          · simp only [List.getElem?_toArray]; rfl
          intro K hK
          rw [if_pos (by rfl)]
          refine wp_allocA _ _ _ _ rfl ?_
          have hk : Keeps [] YC (YC.alloc (.cells (ansC ⟨0, 0⟩).toArray 25)) := (Keeps.refl _ _).alloc _
          have hb := heap_alloc_new YC (.cells (ansC ⟨0, 0⟩).toArray 25)
          try have HFB := Lib.hid (fun q hq => (show q ≠ YC.heap.size from Nat.ne_of_lt (R.old HAT.out q hq)))
          try have HAB := Lib.hid (show ga ≠ YC.heap.size from Nat.ne_of_lt HLA.out)
          have HGB := Lib.hid HY.out.size
          try replace HBA := Lib.hid (hk.heap HBA.out (by simp))
          try replace HBB := Lib.hid (hk.heap HBB.out (by simp))
          try replace HAT := Lib.hid (R.new_ HAT.out hk)
          try replace HLA := Lib.hid (Nat.lt_of_lt_of_le HLA.out hk.size)
          try replace HLB := Lib.hid (Nat.lt_of_lt_of_le HLB.out hk.size)
          replace HY := Lib.hid (HY.out.trans hk (FSub.refl _ _))
          have HBB := Lib.hid hb
          have HLB := Lib.hid (lt_of_block hb)
          clear hk hb
          generalize YC.heap.size = gb at *
          generalize YC.alloc (.cells (ansC ⟨0, 0⟩).toArray 25) = YC at *
          refine hK.out _ _ ?_ (fun hHeld => ?_)
          · exact (by rw [HSE.out]; exact HY.out)
          clear hK K
          try simp only [Act.put, List.setIfInBounds_toArray, List.set_cons_zero, List.set_cons_succ]
          apply wpAnyH_ready (rs := [18])
          · kernel_rfl
          · simp
          apply AllReadyH.cons (hs := AllReadyH.nil)
          · simp only [List.getElem?_toArray]; rfl
          intro K hK
          rw [if_pos (by rfl)]
          refine skM.wp_put rfl (g := ga) (old := mdZ) (A := A1) HOK1.out mdZ_ok rfl rfl HBA.out (fun YC hV hk => ?_)
          replace HBA := Lib.hid hV
          replace HBB := Lib.hid (hk.heap HBB.out (by have := HAB.out; simp; exact fun e => this e.symm))
          replace HAT := Lib.hid (R.put HAT.out hk HFA.out)
          replace HY := Lib.hid (HY.out.trans' hk HGA.out)
          clear hV hk
          refine hK.out _ _ ?_ (fun hHeld => ?_)
          · exact (by rw [HSE.out]; exact HY.out)
          clear hK K
          try simp only [Act.put, List.setIfInBounds_toArray, List.set_cons_zero, List.set_cons_succ]
          apply wpAnyH_ready (rs := [19])
          · kernel_rfl
          · simp
          apply AllReadyH.cons (hs := AllReadyH.nil)
          · simp only [List.getElem?_toArray]; rfl
          intro K hK
          rw [if_pos (by rfl)]
          refine wp_putN rfl (g := gb) (old := ⟨0, 0⟩) r rfl rfl HBB.out (fun YC hV hk => ?_)
          replace HBB := Lib.hid hV
          replace HBA := Lib.hid (hk.heap HBA.out (by have := HAB.out; simpa using this))
          replace HAT := Lib.hid (R.put HAT.out hk HFB.out)
          replace HY := Lib.hid (HY.out.trans' hk HGB.out)
          clear hV hk
          refine hK.out _ _ ?_ (fun hHeld => ?_)
          · exact (by rw [HSE.out]; exact HY.out)
          clear hK K
          try simp only [Act.put, List.setIfInBounds_toArray, List.set_cons_zero, List.set_cons_succ]
          apply wpAnyH_take (i := 20)
          · simp only [List.getElem?_toArray]; rfl
          · kernel_rfl
          · kernel_rfl
          · kernel_rfl
          · exact fun _ _ _ h => h
          · exact Or.inl ⟨by rfl, by intro w hSw; go_simp; try with_reducible rfl⟩
          · assumption
          try simp only [Act.put, List.setIfInBounds_toArray, List.set_cons_zero, List.set_cons_succ]
          refine wpAnyH_done (by kernel_rfl) ?_ _
          refine NoPanic.normal ?_
          have HBG := Lib.hid (HY.out.heap HB.out (by simp))
          by_cases hx : e1 = 0
          · subst hx
            go_wp2_with (first
              | ((with_reducible refine wpList_loadM (g := ga) (off := 0) HOK1.out ?_ ?_ (block_range HBA.out) ?_); exact rfl; exact rfl)
              | ((with_reducible refine wpList_putM (g := g6) (old := A) (A := A1) HOK1.out HOK.out ?_ ?_ HBG.out ?_); exact rfl; exact rfl))
            intro YD hV hk
            have HVD := Lib.hid hV
            have HFG := Lib.hid (show ∀ q ∈ R.foot (.agg A1.toArray), w.heap.size < q ∧ q ≠ g6 from fun q hq => by
              rcases HFN.out q hq with h | h
              · exact HFT.out q h
              · have := HSR.out; have := HG6.out; exact ⟨by omega, by omega⟩)
            have HAD := Lib.hid (R.put HAT.out hk (fun q hq => (HFG.out q hq).2))
            have HZD := Lib.hid (hk.heap (HY.out.heap HZR.out (by simp)) (by have := HG6.out; simp; omega))
            have HKD := Lib.hid ((HKW.out.trans HY.out (FSub.refl _ _)).trans hk (fun q hq => .inr (by have := HG6.out; simp at hq; omega)))
            have HSD2 := Lib.hid (show g6 < YD.heap.size from lt_of_block hV)
            clear hV hk
            go_wp2_with fail
            go_roundw
            case rel => exact ⟨k + 1, A1, by go_num, by omega, HVD.out, by rw [HNX.out]; exact HAD.out, HFG.out, HZD.out, HKD.out, HSD2.out⟩
            case measure => simp [intOf]; omega
          · have q0 : (e1 == 0) = false := by simpa using hx
            have HEQ := Lib.hid (HBAD.out hx)
            clear hx
            go_wp2_with fail
            go_roundw
            case rel => exact ⟨k + 1, A, by go_num, by omega, HBG.out, by rw [HNX.out, HEQ.out]; exact R.new_ HAT0.out HY.out, HFT.out, HY.out.heap HZR.out (by simp), HKW.out.trans HY.out (FSub.refl _ _), Nat.lt_of_lt_of_le HSR.out HY.out.size⟩
            case measure => simp [intOf]; omega
        apply AllReadyH.cons (hs := AllReadyH.nil)
        · simp only [List.getElem?_toArray]; rfl
        intro K hK
        rw [if_pos (by rfl)]
        refine wp_allocA _ _ _ _ rfl ?_
        have hk : Keeps [] YC (YC.alloc (.cells (ansC ⟨0, 0⟩).toArray 25)) := (Keeps.refl _ _).alloc _
        have hb := heap_alloc_new YC (.cells (ansC ⟨0, 0⟩).toArray 25)
        try have HFB := Lib.hid (fun q hq => (show q ≠ YC.heap.size from Nat.ne_of_lt (R.old HAT.out q hq)))
        try have HAB := Lib.hid (show ga ≠ YC.heap.size from Nat.ne_of_lt HLA.out)
        have HGB := Lib.hid HY.out.size
        try replace HBA := Lib.hid (hk.heap HBA.out (by simp))
        try replace HBB := Lib.hid (hk.heap HBB.out (by simp))
        try replace HAT := Lib.hid (R.new_ HAT.out hk)
        try replace HLA := Lib.hid (Nat.lt_of_lt_of_le HLA.out hk.size)
        try replace HLB := Lib.hid (Nat.lt_of_lt_of_le HLB.out hk.size)
        replace HY := Lib.hid (HY.out.trans hk (FSub.refl _ _))
        have HBB := Lib.hid hb
        have HLB := Lib.hid (lt_of_block hb)
        clear hk hb
        generalize YC.heap.size = gb at *
        generalize YC.alloc (.cells (ansC ⟨0, 0⟩).toArray 25) = YC at *
        refine hK.out _ _ ?_ (fun hHeld => ?_)
        · exact (by rw [HSE.out]; exact HY.out)
        clear hK K
        try simp only [Act.put, List.setIfInBounds_toArray, List.set_cons_zero, List.set_cons_succ]
        apply wpAnyH_ready (rs := [11])
        · kernel_rfl
        · simp
        apply AllReadyH.cons (hs := AllReadyH.nil)
        · simp only [List.getElem?_toArray]; rfl
        intro K hK
        rw [if_pos (by rfl)]
        refine wp_call9 13 _ _ rfl [.agg A.toArray, .int .u8 y.c, y.x.val] rfl Tryz.func13 (by kernel_rfl) (by kernel_rfl) ((HST.out _ HY.out).mono ?_)
        rintro e YC ⟨st1, rfl, hat, hk, hf⟩
        refine ⟨_, rfl, ?_⟩
        try have HFA := Lib.hid (show ∀ q ∈ R.foot st1, q ≠ ga from fun q hq => by
          rcases hf q hq with h | h
          · have h1 := HF0.out q h; have h2 := HGA.out; omega
          · have := HLA.out; omega)
        try have HFB := Lib.hid (show ∀ q ∈ R.foot st1, q ≠ gb from fun q hq => by
          rcases hf q hq with h | h
          · have h1 := HF0.out q h; have h2 := HGB.out; omega
          · have := HLB.out; omega)
        have HFN := Lib.hid (show ∀ q ∈ R.foot st1, q ∈ R.foot (.agg A.toArray) ∨ wr.heap.size ≤ q from fun q hq => (hf q hq).imp id (fun h => Nat.le_trans HY.out.size h))
        try replace HBA := Lib.hid (hk.heap HBA.out (by simp))
        try replace HBB := Lib.hid (hk.heap HBB.out (by simp))
        try replace HAT := Lib.hid (R.new_ HAT.out hk)
        try replace HLA := Lib.hid (Nat.lt_of_lt_of_le HLA.out hk.size)
        try replace HLB := Lib.hid (Nat.lt_of_lt_of_le HLB.out hk.size)
        replace HY := Lib.hid (HY.out.trans hk (FSub.refl _ _))
        have HAT := Lib.hid hat
        obtain ⟨A1, rfl, hok1⟩ := R.cells hat
        have HOK1 := Lib.hid hok1
        clear hat hk hf hok1
        refine hK.out _ _ ?_ (fun hHeld => ?_)
        · exact (by rw [HSE.out]; exact HY.out)
        clear hK K
        try simp only [Act.put, List.setIfInBounds_toArray, List.set_cons_zero, List.set_cons_succ]
        apply wpAnyH_take (i := 12)
        · simp only [List.getElem?_toArray]; rfl
        · kernel_rfl
        · kernel_rfl
        · kernel_rfl
        · exact fun _ _ _ h => h
        · exact Or.inl ⟨by rfl, by intro w hSw; go_simp; try with_reducible rfl⟩
        · assumption
        try simp only [Act.put, List.setIfInBounds_toArray, List.set_cons_zero, List.set_cons_succ]
        apply wpAnyH_take (i := 13)
        · simp only [List.getElem?_toArray]; rfl
        · kernel_rfl
        · kernel_rfl
        · kernel_rfl
        · exact fun _ _ _ h => h
        · exact Or.inl ⟨by rfl, by intro w hSw; go_simp; try with_reducible rfl⟩
        · assumption
        try simp only [Act.put, List.setIfInBounds_toArray, List.set_cons_zero, List.set_cons_succ]
        apply wpAnyH_take (i := 14)
        · simp only [List.getElem?_toArray]; rfl
        · kernel_rfl
        · kernel_rfl
        · kernel_rfl
        · exact fun _ _ _ h => h
        · exact Or.inl ⟨by rfl, by intro w hSw; go_simp; try with_reducible rfl⟩
        · assumption
        try simp only [Act.put, List.setIfInBounds_toArray, List.set_cons_zero, List.set_cons_succ]
        apply wpAnyH_take (i := 15)
        · simp only [List.getElem?_toArray]; rfl
        · kernel_rfl
        · kernel_rfl
        · kernel_rfl
        · exact fun _ _ _ h => h
        · exact Or.inl ⟨by rfl, by intro w hSw; go_simp; try with_reducible rfl⟩
        · assumption
        try simp only [Act.put, List.setIfInBounds_toArray, List.set_cons_zero, List.set_cons_succ]
        apply wpAnyH_ready (rs := [18])
        · kernel_rfl
        · simp
        apply AllReadyH.cons (hs := AllReadyH.nil)
        · simp only [List.getElem?_toArray]; rfl
        intro K hK
        rw [if_pos (by rfl)]
        refine skM.wp_put rfl (g := ga) (old := mdZ) (A := A1) HOK1.out mdZ_ok rfl rfl HBA.out (fun YC hV hk => ?_)
        replace HBA := Lib.hid hV
        replace HBB := Lib.hid (hk.heap HBB.out (by have := HAB.out; simp; exact fun e => this e.symm))
        replace HAT := Lib.hid (R.put HAT.out hk HFA.out)
        replace HY := Lib.hid (HY.out.trans' hk HGA.out)
        clear hV hk
        refine hK.out _ _ ?_ (fun hHeld => ?_)
        · exact (by rw [HSE.out]; exact HY.out)
        clear hK K
        try simp only [Act.put, List.setIfInBounds_toArray, List.set_cons_zero, List.set_cons_succ]
        apply wpAnyH_ready (rs := [19])
        · kernel_rfl
        · simp
        apply AllReadyH.cons (hs := AllReadyH.nil)
        · simp only [List.getElem?_toArray]; rfl
        intro K hK
        rw [if_pos (by rfl)]
        refine wp_putN rfl (g := gb) (old := ⟨0, 0⟩) r rfl rfl HBB.out (fun YC hV hk => ?_)
        replace HBB := Lib.hid hV
        replace HBA := Lib.hid (hk.heap HBA.out (by have := HAB.out; simpa using this))
        replace HAT := Lib.hid (R.put HAT.out hk HFB.out)
        replace HY := Lib.hid (HY.out.trans' hk HGB.out)
        clear hV hk
        refine hK.out _ _ ?_ (fun hHeld => ?_)
        · exact (by rw [HSE.out]; exact HY.out)
        clear hK K
        try simp only [Act.put, List.setIfInBounds_toArray, List.set_cons_zero, List.set_cons_succ]
        apply wpAnyH_take (i := 20)
        · simp only [List.getElem?_toArray]; rfl
        · kernel_rfl
        · kernel_rfl
        · kernel_rfl
        · exact fun _ _ _ h => h
        · exact Or.inl ⟨by rfl, by intro w hSw; go_simp; try with_reducible rfl⟩
        · assumption
        try simp only [Act.put, List.setIfInBounds_toArray, List.set_cons_zero, List.set_cons_succ]
        refine wpAnyH_done (by kernel_rfl) ?_ _
        refine NoPanic.normal ?_
        have HBG := Lib.hid (HY.out.heap HB.out (by simp))
        by_cases hx : e1 = 0
        · subst hx
          go_wp2_with (first
            | ((with_reducible refine wpList_loadM (g := ga) (off := 0) HOK1.out ?_ ?_ (block_range HBA.out) ?_); exact rfl; exact rfl)
            | ((with_reducible refine wpList_putM (g := g6) (old := A) (A := A1) HOK1.out HOK.out ?_ ?_ HBG.out ?_); exact rfl; exact rfl))
          intro YD hV hk
          have HVD := Lib.hid hV
          have HFG := Lib.hid (show ∀ q ∈ R.foot (.agg A1.toArray), w.heap.size < q ∧ q ≠ g6 from fun q hq => by
            rcases HFN.out q hq with h | h
            · exact HFT.out q h
            · have := HSR.out; have := HG6.out; exact ⟨by omega, by omega⟩)
          have HAD := Lib.hid (R.put HAT.out hk (fun q hq => (HFG.out q hq).2))
          have HZD := Lib.hid (hk.heap (HY.out.heap HZR.out (by simp)) (by have := HG6.out; simp; omega))
          have HKD := Lib.hid ((HKW.out.trans HY.out (FSub.refl _ _)).trans hk (fun q hq => .inr (by have := HG6.out; simp at hq; omega)))
          have HSD2 := Lib.hid (show g6 < YD.heap.size from lt_of_block hV)
          clear hV hk
          go_wp2_with fail
          go_roundw
          case rel => exact ⟨k + 1, A1, by go_num, by omega, HVD.out, by rw [HNX.out]; exact HAD.out, HFG.out, HZD.out, HKD.out, HSD2.out⟩
          case measure => simp [intOf]; omega
        · have q0 : (e1 == 0) = false := by simpa using hx
          have HEQ := Lib.hid (HBAD.out hx)
          clear hx
          go_wp2_with fail
          go_roundw
          case rel => exact ⟨k + 1, A, by go_num, by omega, HBG.out, by rw [HNX.out, HEQ.out]; exact R.new_ HAT0.out HY.out, HFT.out, HY.out.heap HZR.out (by simp), HKW.out.trans HY.out (FSub.refl _ _), Nat.lt_of_lt_of_le HSR.out HY.out.size⟩
          case measure => simp [intOf]; omega
      apply AllReadyH.cons (hs := AllReadyH.nil)
      · simp only [List.getElem?_toArray]; rfl
      intro K hK
      rw [if_pos (by rfl)]
      refine wp_allocA _ _ _ _ rfl ?_
      have hk : Keeps [] YC (YC.alloc (.cells (ansC ⟨0, 0⟩).toArray 25)) := (Keeps.refl _ _).alloc _
      have hb := heap_alloc_new YC (.cells (ansC ⟨0, 0⟩).toArray 25)
      try have HFB := Lib.hid (fun q hq => (show q ≠ YC.heap.size from Nat.ne_of_lt (R.old HAT.out q hq)))
      try have HAB := Lib.hid (show ga ≠ YC.heap.size from Nat.ne_of_lt HLA.out)
      have HGB := Lib.hid HY.out.size
      try replace HBA := Lib.hid (hk.heap HBA.out (by simp))
      try replace HBB := Lib.hid (hk.heap HBB.out (by simp))
      try replace HAT := Lib.hid (R.new_ HAT.out hk)
      try replace HLA := Lib.hid (Nat.lt_of_lt_of_le HLA.out hk.size)
      try replace HLB := Lib.hid (Nat.lt_of_lt_of_le HLB.out hk.size)
      replace HY := Lib.hid (HY.out.trans hk (FSub.refl _ _))
      have HBB := Lib.hid hb
      have HLB := Lib.hid (lt_of_block hb)
      clear hk hb
      generalize YC.heap.size = gb at *
      generalize YC.alloc (.cells (ansC ⟨0, 0⟩).toArray 25) = YC at *
      refine hK.out _ _ ?_ (fun hHeld => ?_)
      · exact (by rw [HSE.out]; exact HY.out)
      clear hK K
      try simp only [Act.put, List.setIfInBounds_toArray, List.set_cons_zero, List.set_cons_succ]
      apply wpAnyH_ready (rs := [11, 16])
      · kernel_rfl
      · simp
      apply AllReadyH.cons
      · simp only [List.getElem?_toArray]; rfl
      · intro K hK
        rw [if_pos (by rfl)]
        refine wp_call9 13 _ _ rfl [.agg A.toArray, .int .u8 y.c, y.x.val] rfl Tryz.func13 (by kernel_rfl) (by kernel_rfl) ((HST.out _ HY.out).mono ?_)
        rintro e YC ⟨st1, rfl, hat, hk, hf⟩
        refine ⟨_, rfl, ?_⟩
        try have HFA := Lib.hid (show ∀ q ∈ R.foot st1, q ≠ ga from fun q hq => by
          rcases hf q hq with h | h
          · have h1 := HF0.out q h; have h2 := HGA.out; omega
          · have := HLA.out; omega)
        try have HFB := Lib.hid (show ∀ q ∈ R.foot st1, q ≠ gb from fun q hq => by
          rcases hf q hq with h | h
          · have h1 := HF0.out q h; have h2 := HGB.out; omega
          · have := HLB.out; omega)
        have HFN := Lib.hid (show ∀ q ∈ R.foot st1, q ∈ R.foot (.agg A.toArray) ∨ wr.heap.size ≤ q from fun q hq => (hf q hq).imp id (fun h => Nat.le_trans HY.out.size h))
        try replace HBA := Lib.hid (hk.heap HBA.out (by simp))
        try replace HBB := Lib.hid (hk.heap HBB.out (by simp))
        try replace HAT := Lib.hid (R.new_ HAT.out hk)
        try replace HLA := Lib.hid (Nat.lt_of_lt_of_le HLA.out hk.size)
        try replace HLB := Lib.hid (Nat.lt_of_lt_of_le HLB.out hk.size)
        replace HY := Lib.hid (HY.out.trans hk (FSub.refl _ _))
        have HAT := Lib.hid hat
        obtain ⟨A1, rfl, hok1⟩ := R.cells hat
        have HOK1 := Lib.hid hok1
        clear hat hk hf hok1
        refine hK.out _ _ ?_ (fun hHeld => ?_)
        · exact (by rw [HSE.out]; exact HY.out)
        clear hK K
        try simp only [Act.put, List.setIfInBounds_toArray, List.set_cons_zero, List.set_cons_succ]
        apply wpAnyH_take (i := 12)
        · simp only [List.getElem?_toArray]; rfl
        · kernel_rfl
        · kernel_rfl
        · kernel_rfl
        · exact fun _ _ _ h => h
        · exact Or.inl ⟨by rfl, by intro w hSw; go_simp; try with_reducible rfl⟩
        · assumption
        try simp only [Act.put, List.setIfInBounds_toArray, List.set_cons_zero, List.set_cons_succ]
        apply wpAnyH_take (i := 13)
        · simp only [List.getElem?_toArray]; rfl
        · kernel_rfl
        · kernel_rfl
        · kernel_rfl
        · exact fun _ _ _ h => h
        · exact Or.inl ⟨by rfl, by intro w hSw; go_simp; try with_reducible rfl⟩
        · assumption
        try simp only [Act.put, List.setIfInBounds_toArray, List.set_cons_zero, List.set_cons_succ]
        apply wpAnyH_take (i := 14)
        · simp only [List.getElem?_toArray]; rfl
        · kernel_rfl
        · kernel_rfl
        · kernel_rfl
        · exact fun _ _ _ h => h
        · exact Or.inl ⟨by rfl, by intro w hSw; go_simp; try with_reducible rfl⟩
        · assumption
        try simp only [Act.put, List.setIfInBounds_toArray, List.set_cons_zero, List.set_cons_succ]
        apply wpAnyH_take (i := 15)
        · simp only [List.getElem?_toArray]; rfl
        · kernel_rfl
        · kernel_rfl
        · kernel_rfl
        · exact fun _ _ _ h => h
        · exact Or.inl ⟨by rfl, by intro w hSw; go_simp; try with_reducible rfl⟩
        · assumption
        try simp only [Act.put, List.setIfInBounds_toArray, List.set_cons_zero, List.set_cons_succ]
        apply wpAnyH_ready (rs := [16])
        · kernel_rfl
        · simp
        apply AllReadyH.cons (hs := AllReadyH.nil)
        · simp only [List.getElem?_toArray]; rfl
        intro K hK
        rw [if_pos (by rfl)]
        refine wp_allocM rfl ?_
        have hk : Keeps [] YC (YC.alloc (.cells mdZ.toArray 29)) := (Keeps.refl _ _).alloc _
        have hb := heap_alloc_new YC (.cells mdZ.toArray 29)
        try have HFA := Lib.hid (fun q hq => (show q ≠ YC.heap.size from Nat.ne_of_lt (R.old HAT.out q hq)))
        try have HAB := Lib.hid (show YC.heap.size ≠ gb from Nat.ne_of_gt HLB.out)
        have HGA := Lib.hid HY.out.size
        try replace HBA := Lib.hid (hk.heap HBA.out (by simp))
        try replace HBB := Lib.hid (hk.heap HBB.out (by simp))
        try replace HAT := Lib.hid (R.new_ HAT.out hk)
        try replace HLA := Lib.hid (Nat.lt_of_lt_of_le HLA.out hk.size)
        try replace HLB := Lib.hid (Nat.lt_of_lt_of_le HLB.out hk.size)
        replace HY := Lib.hid (HY.out.trans hk (FSub.refl _ _))
        have HBA := Lib.hid hb
        have HLA := Lib.hid (lt_of_block hb)
        clear hk hb
        generalize YC.heap.size = ga at *
        generalize YC.alloc (.cells mdZ.toArray 29) = YC at *
        refine hK.out _ _ ?_ (fun hHeld => ?_)
        · exact (by rw [HSE.out]; exact HY.out)
        clear hK K
        try simp only [Act.put, List.setIfInBounds_toArray, List.set_cons_zero, List.set_cons_succ]
        apply wpAnyH_ready (rs := [18])
        · kernel_rfl
        · simp
        apply AllReadyH.cons (hs := AllReadyH.nil)
        · simp only [List.getElem?_toArray]; rfl
        intro K hK
        rw [if_pos (by rfl)]
        refine skM.wp_put rfl (g := ga) (old := mdZ) (A := A1) HOK1.out mdZ_ok rfl rfl HBA.out (fun YC hV hk => ?_)
        replace HBA := Lib.hid hV
        replace HBB := Lib.hid (hk.heap HBB.out (by have := HAB.out; simp; exact fun e => this e.symm))
        replace HAT := Lib.hid (R.put HAT.out hk HFA.out)
        replace HY := Lib.hid (HY.out.trans' hk HGA.out)
        clear hV hk
        refine hK.out _ _ ?_ (fun hHeld => ?_)
        · exact (by rw [HSE.out]; exact HY.out)
        clear hK K
        try simp only [Act.put, List.setIfInBounds_toArray, List.set_cons_zero, List.set_cons_succ]
        apply wpAnyH_ready (rs := [19])
        · kernel_rfl
        · simp
        apply AllReadyH.cons (hs := AllReadyH.nil)
        · simp only [List.getElem?_toArray]; rfl
        intro K hK
        rw [if_pos (by rfl)]
        refine wp_putN rfl (g := gb) (old := ⟨0, 0⟩) r rfl rfl HBB.out (fun YC hV hk => ?_)
        replace HBB := Lib.hid hV
        replace HBA := Lib.hid (hk.heap HBA.out (by have := HAB.out; simpa using this))
        replace HAT := Lib.hid (R.put HAT.out hk HFB.out)
        replace HY := Lib.hid (HY.out.trans' hk HGB.out)
        clear hV hk
        refine hK.out _ _ ?_ (fun hHeld => ?_)
        · exact (by rw [HSE.out]; exact HY.out)
        clear hK K
        try simp only [Act.put, List.setIfInBounds_toArray, List.set_cons_zero, List.set_cons_succ]
        apply wpAnyH_take (i := 20)
        · simp only [List.getElem?_toArray]; rfl
        · kernel_rfl
        · kernel_rfl
        · kernel_rfl
        · exact fun _ _ _ h => h
        · exact Or.inl ⟨by rfl, by intro w hSw; go_simp; try with_reducible rfl⟩
        · assumption
        try simp only [Act.put, List.setIfInBounds_toArray, List.set_cons_zero, List.set_cons_succ]
        refine wpAnyH_done (by kernel_rfl) ?_ _
        refine NoPanic.normal ?_
        have HBG := Lib.hid (HY.out.heap HB.out (by simp))
        by_cases hx : e1 = 0
        · subst hx
          go_wp2_with (first
            | ((with_reducible refine wpList_loadM (g := ga) (off := 0) HOK1.out ?_ ?_ (block_range HBA.out) ?_); exact rfl; exact rfl)
            | ((with_reducible refine wpList_putM (g := g6) (old := A) (A := A1) HOK1.out HOK.out ?_ ?_ HBG.out ?_); exact rfl; exact rfl))
          intro YD hV hk
          have HVD := Lib.hid hV
          have HFG := Lib.hid (show ∀ q ∈ R.foot (.agg A1.toArray), w.heap.size < q ∧ q ≠ g6 from fun q hq => by
            rcases HFN.out q hq with h | h
            · exact HFT.out q h
            · have := HSR.out; have := HG6.out; exact ⟨by omega, by omega⟩)
          have HAD := Lib.hid (R.put HAT.out hk (fun q hq => (HFG.out q hq).2))
          have HZD := Lib.hid (hk.heap (HY.out.heap HZR.out (by simp)) (by have := HG6.out; simp; omega))
          have HKD := Lib.hid ((HKW.out.trans HY.out (FSub.refl _ _)).trans hk (fun q hq => .inr (by have := HG6.out; simp at hq; omega)))
          have HSD2 := Lib.hid (show g6 < YD.heap.size from lt_of_block hV)
          clear hV hk
          go_wp2_with fail
          go_roundw
          case rel => exact ⟨k + 1, A1, by go_num, by omega, HVD.out, by rw [HNX.out]; exact HAD.out, HFG.out, HZD.out, HKD.out, HSD2.out⟩
          case measure => simp [intOf]; omega
        · have q0 : (e1 == 0) = false := by simpa using hx
          have HEQ := Lib.hid (HBAD.out hx)
          clear hx
          go_wp2_with fail
          go_roundw
          case rel => exact ⟨k + 1, A, by go_num, by omega, HBG.out, by rw [HNX.out, HEQ.out]; exact R.new_ HAT0.out HY.out, HFT.out, HY.out.heap HZR.out (by simp), HKW.out.trans HY.out (FSub.refl _ _), Nat.lt_of_lt_of_le HSR.out HY.out.size⟩
          case measure => simp [intOf]; omega
      apply AllReadyH.cons (hs := AllReadyH.nil)
      · simp only [List.getElem?_toArray]; rfl
      intro K hK
      rw [if_pos (by rfl)]
      refine wp_allocM rfl ?_
      have hk : Keeps [] YC (YC.alloc (.cells mdZ.toArray 29)) := (Keeps.refl _ _).alloc _
      have hb := heap_alloc_new YC (.cells mdZ.toArray 29)
      try have HFA := Lib.hid (fun q hq => (show q ≠ YC.heap.size from Nat.ne_of_lt (R.old HAT.out q hq)))
      try have HAB := Lib.hid (show YC.heap.size ≠ gb from Nat.ne_of_gt HLB.out)
      have HGA := Lib.hid HY.out.size
      try replace HBA := Lib.hid (hk.heap HBA.out (by simp))
      try replace HBB := Lib.hid (hk.heap HBB.out (by simp))
      try replace HAT := Lib.hid (R.new_ HAT.out hk)
      try replace HLA := Lib.hid (Nat.lt_of_lt_of_le HLA.out hk.size)
      try replace HLB := Lib.hid (Nat.lt_of_lt_of_le HLB.out hk.size)
      replace HY := Lib.hid (HY.out.trans hk (FSub.refl _ _))
      have HBA := Lib.hid hb
      have HLA := Lib.hid (lt_of_block hb)
      clear hk hb
      generalize YC.heap.size = ga at *
      generalize YC.alloc (.cells mdZ.toArray 29) = YC at *
      refine hK.out _ _ ?_ (fun hHeld => ?_)
      · exact (by rw [HSE.out]; exact HY.out)
      clear hK K
      try simp only [Act.put, List.setIfInBounds_toArray, List.set_cons_zero, List.set_cons_succ]
      apply wpAnyH_ready (rs := [11])
      · kernel_rfl
      · simp
      apply AllReadyH.cons (hs := AllReadyH.nil)
      · simp only [List.getElem?_toArray]; rfl
      intro K hK
      rw [if_pos (by rfl)]
      refine wp_call9 13 _ _ rfl [.agg A.toArray, .int .u8 y.c, y.x.val] rfl Tryz.func13 (by kernel_rfl) (by kernel_rfl) ((HST.out _ HY.out).mono ?_)
      rintro e YC ⟨st1, rfl, hat, hk, hf⟩
      refine ⟨_, rfl, ?_⟩
      try have HFA := Lib.hid (show ∀ q ∈ R.foot st1, q ≠ ga from fun q hq => by
        rcases hf q hq with h | h
        · have h1 := HF0.out q h; have h2 := HGA.out; omega
        · have := HLA.out; omega)
      try have HFB := Lib.hid (show ∀ q ∈ R.foot st1, q ≠ gb from fun q hq => by
        rcases hf q hq with h | h
        · have h1 := HF0.out q h; have h2 := HGB.out; omega
        · have := HLB.out; omega)
      have HFN := Lib.hid (show ∀ q ∈ R.foot st1, q ∈ R.foot (.agg A.toArray) ∨ wr.heap.size ≤ q from fun q hq => (hf q hq).imp id (fun h => Nat.le_trans HY.out.size h))
      try replace HBA := Lib.hid (hk.heap HBA.out (by simp))
      try replace HBB := Lib.hid (hk.heap HBB.out (by simp))
      try replace HAT := Lib.hid (R.new_ HAT.out hk)
      try replace HLA := Lib.hid (Nat.lt_of_lt_of_le HLA.out hk.size)
      try replace HLB := Lib.hid (Nat.lt_of_lt_of_le HLB.out hk.size)
      replace HY := Lib.hid (HY.out.trans hk (FSub.refl _ _))
      have HAT := Lib.hid hat
      obtain ⟨A1, rfl, hok1⟩ := R.cells hat
      have HOK1 := Lib.hid hok1
      clear hat hk hf hok1
      refine hK.out _ _ ?_ (fun hHeld => ?_)
      · exact (by rw [HSE.out]; exact HY.out)
      clear hK K
      try simp only [Act.put, List.setIfInBounds_toArray, List.set_cons_zero, List.set_cons_succ]
      apply wpAnyH_take (i := 12)
      · simp only [List.getElem?_toArray]; rfl
      · kernel_rfl
      · kernel_rfl
      · kernel_rfl
      · exact fun _ _ _ h => h
      · exact Or.inl ⟨by rfl, by intro w hSw; go_simp; try with_reducible rfl⟩
      · assumption
      try simp only [Act.put, List.setIfInBounds_toArray, List.set_cons_zero, List.set_cons_succ]
      apply wpAnyH_take (i := 13)
      · simp only [List.getElem?_toArray]; rfl
      · kernel_rfl
      · kernel_rfl
      · kernel_rfl
      · exact fun _ _ _ h => h
      · exact Or.inl ⟨by rfl, by intro w hSw; go_simp; try with_reducible rfl⟩
      · assumption
      try simp only [Act.put, List.setIfInBounds_toArray, List.set_cons_zero, List.set_cons_succ]
      apply wpAnyH_take (i := 14)
      · simp only [List.getElem?_toArray]; rfl
      · kernel_rfl
      · kernel_rfl
      · kernel_rfl
      · exact fun _ _ _ h => h
      · exact Or.inl ⟨by rfl, by intro w hSw; go_simp; try with_reducible rfl⟩
      · assumption
      try simp only [Act.put, List.setIfInBounds_toArray, List.set_cons_zero, List.set_cons_succ]
      apply wpAnyH_take (i := 15)
      · simp only [List.getElem?_toArray]; rfl
      · kernel_rfl
      · kernel_rfl
      · kernel_rfl
      · exact fun _ _ _ h => h
      · exact Or.inl ⟨by rfl, by intro w hSw; go_simp; try with_reducible rfl⟩
      · assumption
      try simp only [Act.put, List.setIfInBounds_toArray, List.set_cons_zero, List.set_cons_succ]
      apply wpAnyH_ready (rs := [18])
      · kernel_rfl
      · simp
      apply AllReadyH.cons (hs := AllReadyH.nil)
      · simp only [List.getElem?_toArray]; rfl
      intro K hK
      rw [if_pos (by rfl)]
      refine skM.wp_put rfl (g := ga) (old := mdZ) (A := A1) HOK1.out mdZ_ok rfl rfl HBA.out (fun YC hV hk => ?_)
      replace HBA := Lib.hid hV
      replace HBB := Lib.hid (hk.heap HBB.out (by have := HAB.out; simp; exact fun e => this e.symm))
      replace HAT := Lib.hid (R.put HAT.out hk HFA.out)
      replace HY := Lib.hid (HY.out.trans' hk HGA.out)
      clear hV hk
      refine hK.out _ _ ?_ (fun hHeld => ?_)
      · exact (by rw [HSE.out]; exact HY.out)
      clear hK K
      try simp only [Act.put, List.setIfInBounds_toArray, List.set_cons_zero, List.set_cons_succ]
      apply wpAnyH_ready (rs := [19])
      · kernel_rfl
      · simp
      apply AllReadyH.cons (hs := AllReadyH.nil)
      · simp only [List.getElem?_toArray]; rfl
      intro K hK
      rw [if_pos (by rfl)]
      refine wp_putN rfl (g := gb) (old := ⟨0, 0⟩) r rfl rfl HBB.out (fun YC hV hk => ?_)
      replace HBB := Lib.hid hV
      replace HBA := Lib.hid (hk.heap HBA.out (by have := HAB.out; simpa using this))
      replace HAT := Lib.hid (R.put HAT.out hk HFB.out)
      replace HY := Lib.hid (HY.out.trans' hk HGB.out)
      clear hV hk
      refine hK.out _ _ ?_ (fun hHeld => ?_)
      · exact (by rw [HSE.out]; exact HY.out)
      clear hK K
      try simp only [Act.put, List.setIfInBounds_toArray, List.set_cons_zero, List.set_cons_succ]
      apply wpAnyH_take (i := 20)
      · simp only [List.getElem?_toArray]; rfl
      · kernel_rfl
      · kernel_rfl
      · kernel_rfl
      · exact fun _ _ _ h => h
      · exact Or.inl ⟨by rfl, by intro w hSw; go_simp; try with_reducible rfl⟩
      · assumption
      try simp only [Act.put, List.setIfInBounds_toArray, List.set_cons_zero, List.set_cons_succ]
      refine wpAnyH_done (by kernel_rfl) ?_ _
      refine NoPanic.normal ?_
      have HBG := Lib.hid (HY.out.heap HB.out (by simp))
      by_cases hx : e1 = 0
      · subst hx
        go_wp2_with (first
          | ((with_reducible refine wpList_loadM (g := ga) (off := 0) HOK1.out ?_ ?_ (block_range HBA.out) ?_); exact rfl; exact rfl)
          | ((with_reducible refine wpList_putM (g := g6) (old := A) (A := A1) HOK1.out HOK.out ?_ ?_ HBG.out ?_); exact rfl; exact rfl))
        intro YD hV hk
        have HVD := Lib.hid hV
        have HFG := Lib.hid (show ∀ q ∈ R.foot (.agg A1.toArray), w.heap.size < q ∧ q ≠ g6 from fun q hq => by
          rcases HFN.out q hq with h | h
          · exact HFT.out q h
          · have := HSR.out; have := HG6.out; exact ⟨by omega, by omega⟩)
        have HAD := Lib.hid (R.put HAT.out hk (fun q hq => (HFG.out q hq).2))
        have HZD := Lib.hid (hk.heap (HY.out.heap HZR.out (by simp)) (by have := HG6.out; simp; omega))
        have HKD := Lib.hid ((HKW.out.trans HY.out (FSub.refl _ _)).trans hk (fun q hq => .inr (by have := HG6.out; simp at hq; omega)))
        have HSD2 := Lib.hid (show g6 < YD.heap.size from lt_of_block hV)
        clear hV hk
        go_wp2_with fail
        go_roundw
        case rel => exact ⟨k + 1, A1, by go_num, by omega, HVD.out, by rw [HNX.out]; exact HAD.out, HFG.out, HZD.out, HKD.out, HSD2.out⟩
        case measure => simp [intOf]; omega
      · have q0 : (e1 == 0) = false := by simpa using hx
        have HEQ := Lib.hid (HBAD.out hx)
        clear hx
        go_wp2_with fail
        go_roundw
        case rel => exact ⟨k + 1, A, by go_num, by omega, HBG.out, by rw [HNX.out, HEQ.out]; exact R.new_ HAT0.out HY.out, HFT.out, HY.out.heap HZR.out (by simp), HKW.out.trans HY.out (FSub.refl _ _), Nat.lt_of_lt_of_le HSR.out HY.out.size⟩
        case measure => simp [intOf]; omega
    · obtain rfl : k = n := by omega
      have hall : l.take k = l := by rw [← HN2.out, List.take_length]
      have HAL := Lib.hid (show R.At wr (.agg A.toArray) (some (bhS (mdInit m) l)) from by have h := HAT0.out; rw [hall] at h; exact h)
      have hb1 : ¬ (k : Int) < k := by omega
      clear hall hlt hk
      go_wp2_with (first
        | ((with_reducible refine wpList_loadM (g := g6) (off := 0) HOK.out ?_ ?_ (block_range HB.out) ?_); exact rfl; exact rfl)
        | ((with_reducible refine wpList_putM (g := w.heap.size) (old := mdZ) (A := A) HOK.out mdZ_ok ?_ ?_ HZR.out ?_); exact rfl; exact rfl))
      intro YD hV hk
      have HVD := Lib.hid hV
      have HAD := Lib.hid (R.put HAL.out hk (fun q hq => by have := (HFT.out q hq).1; omega))
      have HKD := Lib.hid (HKW.out.trans hk (fun q hq => .inr (by simp at hq; omega)))
      clear hV hk
      go_wp2_with fail
      try simp only [Exit.inBlock, Exit.then]
      exact bodyPost_ret (results_sk1 skM rfl _ _ w.heap.size HOK.out rfl HVD.out) rfl ⟨_, rfl, HAD.out, HKD.out, fun q hq => by have := (HFT.out q hq).1; omega⟩
end Go.Proofs.YtdachaekcjbfmaaGreatDoor
/-
  The law's behind of no model, and its awake, over any program's objects.
-/
namespace Go.Proofs.YtdachaekcjbfmaaGreatDoor
open Go.RowKit
section
variable {ops : Array Oper} {rest : List Oper} {a : Act} {w : World} {Q : Exit → Act → World → Prop}
set_option maxRecDepth 100000 in
theorem wpList_litC13 {dst : Option Tmp} {ty : TypeId} {pos : String} {after : Array Edge} {n : Nat} {xs : Array (Nat × Operand)} (L : List Cl) (hn : n = L.length)
    (hx : (xs.toList.map fun p => (p.1, a.eval p.2)) = ((L.map fun y => Value.agg (clC y).toArray).zipIdx 0).map fun x => (x.2, x.1)) (hs : L.length ≤ 1000) (hp : 0 < L.length)
    (h : ∀ W, W.heap.size = w.heap.size + 1 → Keeps [] w W → rkC13.In W.heap.size W (.slice (some ⟨w.heap.size, 0, none⟩) n n) L → wpList Tryz.prog ops Q rest (a.put dst (.slice (some ⟨w.heap.size, 0, none⟩) n n)) W) :
    wpList Tryz.prog ops Q ({ dst := dst, op := .buildSlice 22 n xs, type := ty, pos := pos, after := after, guard := none } :: rest) a w := by
  subst hn
  refine wpList_plain rfl fun _ hK => rkC13.wp_buildL xs L rfl (by rw [Array.toList_map]; exact hx) (by show L.length * 6 ≤ 10000; omega) hp (hK _ _ (h _ (Array.size_push _) ((Keeps.refl [] w).alloc _) ?_))
  exact rkC13.lit_in (heap_alloc_new w _) (by rw [show (w.alloc _).heap.size = w.heap.size + 1 from Array.size_push _]; omega) (by omega)
end
variable {G : World → Prop}
set_option maxHeartbeats 8000000
set_option maxRecDepth 100000
def mwA : List Cl := [⟨0, ⟨7, 0, 3, 5, 0⟩⟩]
def mwB : List Cl := [⟨3, ⟨10, 0, 0, 0, 0⟩⟩]
theorem mwA_in : ∀ y ∈ mwA, y.In := by
  intro y hy
  simp only [mwA, List.mem_cons, List.not_mem_nil, or_false] at hy
  subst hy
  exact ⟨by decide, by decide, ⟨by decide, by decide, by decide, by decide, by decide, by decide, by decide, by decide, by decide, by decide⟩⟩
theorem mwB_in : ∀ y ∈ mwB, y.In := by
  intro y hy
  simp only [mwB, List.mem_cons, List.not_mem_nil, or_false] at hy
  subst hy
  exact cl_in (by decide) (by decide) (by decide) (by decide)
theorem dec_lit {n : Nat} (h : n < 10) : dec (n : Int) = [UInt8.ofNat (48 + n)] := by
  show Lib.decDigits n = _
  rw [dec_small h, Nat.mod_eq_of_lt h]
theorem mwA_X : bhS (mdInit 2) mwA = .mp (kv0.set 3 (some 5)) := rfl
theorem mwB_X : bhS (mdInit 3) mwB = .lk 4 := rfl
theorem mwA_T : bs (mdT (.mp (kv0.set 3 (some 5)))) = { data := #[123, 51, 58, 53, 125] } := by
  have e1 : dec 3 = [51] := dec_lit (n := 3) (by decide)
  have e2 : dec 5 = [53] := dec_lit (n := 5) (by decide)
  have e3 : itOf 0 (kv0.set 3 (some 5)) = [⟨3, 5⟩] := rfl
  show bs (123 :: (spT ((itOf 0 (kv0.set 3 (some 5))).map itT) ++ [125])) = _
  rw [e3]
  show bs (123 :: ((dec 3 ++ 58 :: dec 5) ++ [125])) = _
  rw [e1, e2]
  rfl
theorem mwB_T : bs (mdT (.lk 4)) = { data := #[104, 101, 108, 100, 32, 98, 121, 32, 51] } := by
  have e1 : dec 3 = [51] := dec_lit (n := 3) (by decide)
  show bs (heldT ++ dec 3) = _
  rw [e1]
  rfl
theorem mwA_B : bs (mdB (.mp (kv0.set 3 (some 5)))) = { data := #[8, 0, 5] } := rfl
theorem mwA_I : oInit (some (.mp (kv0.set 3 (some 5)))) = false := rfl
theorem awake13_any (R : MdProg G) (w : World) (hG : G w) : Calls Tryz.prog 11 #[] w fun e w' => e = .returned (.bool true) ∧ Keeps [] w w' := by
  have HG := Lib.hid (fun w' (h : Keeps [] w w') => R.keepG hG h)
  clear hG
  go_enter Tryz.func11, Tryz.ntmps11
  go_wp2_with ((with_reducible refine wpList_litC13 mwA ?_ ?_ ?_ ?_ ?_); exact rfl; exact rfl; exact (by decide); exact (by decide))
  intro w1 hz hk hi
  have HK1 := Lib.hid hk; have HI := Lib.hid hi; clear hz hk hi
  generalize w.heap.size = ga at *
  go_wp2_with fail
  refine (behind13_any R w1 (HG.out _ HK1.out) (m := 2) (by decide) (by decide) mwA_in HI.out (by decide)).mono ?_
  rw [mwA_X]
  rintro e w2 ⟨st, rfl, hat, hk, hf⟩
  obtain ⟨A, rfl, hok⟩ := R.cells hat
  have HK2 := Lib.hid (HK1.out.trans hk (FSub.refl _ _))
  have HOA := Lib.hid hok
  have HC := Lib.hid (show (w2.alloc (.cells mdZA 29)).heap[w2.heap.size]? = some (.cells mdZ.toArray 29 (0, 0)) from heap_alloc_new w2 _)
  have HKC := Lib.hid (show Keeps [] w2 (w2.alloc (.cells mdZA 29)) from (Keeps.refl _ _).alloc _)
  have HAT := Lib.hid (R.new_ hat HKC.out)
  have HFT := Lib.hid (fun q hq => R.old hat q hq)
  clear hat hk hf hok HK1 HI
  go_wp2_with ((with_reducible refine wpList_putM (g := w2.heap.size) (old := mdZ) (A := A) HOA.out mdZ_ok ?_ ?_ HC.out ?_); exact rfl; exact rfl)
  intro w3 hW hk
  have HBA := Lib.hid hW
  have HA3 := Lib.hid (R.put HAT.out hk (fun q hq => Nat.ne_of_lt (HFT.out q hq)))
  have HK3 := Lib.hid (HK2.out.trans (HKC.out.trans' hk (Nat.le_refl _)) (FSub.refl _ _))
  clear hW hk HC HKC HAT HK2 HFT
  generalize w2.heap.size = g1 at *
  go_wp2_with ((with_reducible refine wpList_litC13 mwB ?_ ?_ ?_ ?_ ?_); exact rfl; exact rfl; exact (by decide); exact (by decide))
  intro w4 hz hk hi
  have HI := Lib.hid hi
  have HA4 := Lib.hid (R.new_ HA3.out hk); have HB4 := Lib.hid (hk.heap HBA.out (by simp)); have HK4 := Lib.hid (HK3.out.trans hk (FSub.refl _ _))
  clear hz hk hi HA3 HBA HK3
  generalize w3.heap.size = gb at *
  go_wp2_with fail
  refine (behind13_any R w4 (HG.out _ HK4.out) (m := 3) (by decide) (by decide) mwB_in HI.out (by decide)).mono ?_
  rw [mwB_X]
  rintro e w5 ⟨st, rfl, hat, hk, hf⟩
  obtain ⟨B, rfl, hok⟩ := R.cells hat
  have HK5 := Lib.hid (HK4.out.trans hk (FSub.refl _ _))
  have HOB := Lib.hid hok
  have HA5 := Lib.hid (R.new_ HA4.out hk); have HB5 := Lib.hid (hk.heap HB4.out (by simp))
  have HC := Lib.hid (show (w5.alloc (.cells mdZA 29)).heap[w5.heap.size]? = some (.cells mdZ.toArray 29 (0, 0)) from heap_alloc_new w5 _)
  have HKC := Lib.hid (show Keeps [] w5 (w5.alloc (.cells mdZA 29)) from (Keeps.refl _ _).alloc _)
  have HAT := Lib.hid (R.new_ hat HKC.out)
  have HFT := Lib.hid (fun q hq => R.old hat q hq)
  have HFA := Lib.hid (fun q hq => R.old HA5.out q hq)
  have HL5 := Lib.hid (lt_of_block HB5.out)
  clear hat hk hf hok HA4 HB4 HK4 HI
  go_wp2_with ((with_reducible refine wpList_putM (g := w5.heap.size) (old := mdZ) (A := B) HOB.out mdZ_ok ?_ ?_ HC.out ?_); exact rfl; exact rfl)
  intro w6 hW hk
  have HBB := Lib.hid hW
  have HB6 := Lib.hid (R.put HAT.out hk (fun q hq => Nat.ne_of_lt (HFT.out q hq)))
  have HA6 := Lib.hid (R.put (R.new_ HA5.out HKC.out) hk (fun q hq => Nat.ne_of_lt (HFA.out q hq)))
  have HBA := Lib.hid (hk.heap (HKC.out.heap HB5.out (by simp)) (by have := HL5.out; simp; omega))
  have HK6 := Lib.hid (HK5.out.trans (HKC.out.trans' hk (Nat.le_refl _)) (FSub.refl _ _))
  clear hW hk HC HKC HAT HK5 HFT HA5 HB5 HFA HL5
  generalize w5.heap.size = g3 at *
  go_wp2_with (first
    | ((with_reducible refine wpList_loadM (g := g1) (off := 0) HOA.out ?_ ?_ (block_range HBA.out) ?_); exact rfl; exact rfl))
  have hT := R.text w6 _ _ (HG.out _ HK6.out) HA6.out (show Md.len (.mp (kv0.set 3 (some 5))) ≤ 1000 from by decide)
  simp only [oT, mwA_T] at hT
  refine hT.mono ?_; rintro e w7 ⟨rfl, hk⟩
  clear hT
  have HK7 := Lib.hid (HK6.out.trans hk (FSub.refl _ _)); have HA7 := Lib.hid (R.new_ HA6.out hk); have HB7 := Lib.hid (R.new_ HB6.out hk)
  have HP7 := Lib.hid (hk.heap HBA.out (by simp)); have HQ7 := Lib.hid (hk.heap HBB.out (by simp))
  clear hk HK6 HA6 HB6 HBA HBB
  go_wp2_with ((with_reducible refine wpList_loadM (g := g1) (off := 0) HOA.out ?_ ?_ (block_range HP7.out) ?_); exact rfl; exact rfl)
  have hT := R.enc w7 _ _ (HG.out _ HK7.out) HA7.out (show Md.len (.mp (kv0.set 3 (some 5))) ≤ 1000 from by decide)
  simp only [oB, mwA_B] at hT
  refine hT.mono ?_; rintro e w8 ⟨rfl, hk⟩
  clear hT
  have HK8 := Lib.hid (HK7.out.trans hk (FSub.refl _ _)); have HA8 := Lib.hid (R.new_ HA7.out hk); have HB8 := Lib.hid (R.new_ HB7.out hk)
  have HP8 := Lib.hid (hk.heap HP7.out (by simp)); have HQ8 := Lib.hid (hk.heap HQ7.out (by simp))
  clear hk HK7 HA7 HB7 HP7 HQ7
  go_wp2_with ((with_reducible refine wpList_loadM (g := g1) (off := 0) HOA.out ?_ ?_ (block_range HP8.out) ?_); exact rfl; exact rfl)
  have hT := R.initial w8 _ _ (HG.out _ HK8.out) HA8.out (show Md.len (.mp (kv0.set 3 (some 5))) ≤ 1000 from by decide)
  rw [mwA_I] at hT
  refine hT.mono ?_; rintro e w9 ⟨rfl, hk⟩
  clear hT
  have HK9 := Lib.hid (HK8.out.trans hk (FSub.refl _ _)); have HB9 := Lib.hid (R.new_ HB8.out hk)
  have HQ9 := Lib.hid (hk.heap HQ8.out (by simp))
  clear hk HK8 HA8 HB8 HP8 HQ8
  go_wp2_with ((with_reducible refine wpList_loadM (g := g3) (off := 0) HOB.out ?_ ?_ (block_range HQ9.out) ?_); exact rfl; exact rfl)
  have hT := R.text w9 _ _ (HG.out _ HK9.out) HB9.out (show Md.len (.lk 4) ≤ 1000 from by decide)
  simp only [oT, mwB_T] at hT
  refine hT.mono ?_; rintro e wa ⟨rfl, hk⟩
  clear hT
  have HKA := Lib.hid (HK9.out.trans hk (FSub.refl _ _))
  clear hk
  go_wp2_with fail
  go_ret
  exact ⟨rfl, HKA.out⟩
end Go.Proofs.YtdachaekcjbfmaaGreatDoor
