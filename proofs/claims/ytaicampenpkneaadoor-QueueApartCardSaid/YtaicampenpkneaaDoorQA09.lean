/-
  The document's queue: Step.
-/
import Derived.Deep.RegionHeld3
import Derived.Laws.Tables
import Derived.BigQuiet
import Derived.Test.YtaicampenpkneaaDoorQA08
import Derived.Test.YtaicampenpkneaaDoorQA07
set_option linter.unusedSimpArgs false
set_option linter.unusedVariables false
namespace Go.Proofs.YtaicampenpkneaaDoor
open Go.RowKit
section
variable {ops : Array Oper} {rest : List Oper} {a : Act} {w : World} {Q : Exit → Act → World → Prop}
theorem wpList_putN {dst : Option Tmp} {ty : TypeId} {pos : String} {after : Array Edge} {x y : Operand} {g : Nat} {old : Ans} (r : Ans) {t : TypeId}
    (hx : a.eval x = .pointer (some ⟨g, 0, none⟩)) (hy : a.eval y = .agg (ansC r).toArray) (hg : w.heap[g]? = some (.cells (ansC old).toArray t (0, 0)))
    (h : ∀ W, W.heap[g]? = some (.cells (ansC r).toArray t (0, 0)) → Keeps [g] w W → wpList Tryd.prog ops Q rest (a.put dst undef) W) :
    wpList Tryd.prog ops Q ({ dst := dst, op := .store 31 x y, type := ty, pos := pos, after := after, guard := none } :: rest) a w :=
  wpList_store_row rfl 31 x y rfl g (ansC r).toArray hx hy t (ansC old).toArray hg (by kernel_rfl) rfl (by rw [← Array.all_toList, List.all_eq_true]; exact ansC_one r) (h _ (setRow_heap w g (ansC old).toArray (ansC r).toArray t (0, 0) hg) ((Keeps.refl [g] w).setRow g _ (.inl (by simp))))
end
/-- The rest of a slice. -/
theorem U16.tail {N : Nat} {w : World} {bk o n c : Nat} {y : Int} {r : List Int} (h : rkU.In N w (.slice (some ⟨bk, o, none⟩) n c) (y :: r)) {A : Option Addr} (hA : (if c = 1 then some (⟨bk, o, none⟩ : Addr) else some ⟨bk, o + 1, none⟩) = A) : rkU.In N w (.slice A (n - 1) (c - 1)) r := by
  obtain ⟨a2, c2, e, hc, hm, h⟩ := h
  simp only [Value.slice.injEq] at e
  obtain ⟨rfl, rfl, rfl⟩ := e
  obtain ⟨b2, o2, e, hb, hr⟩ := h (by simp)
  simp only [Option.some.injEq, Addr.mk.injEq, and_true] at e
  obtain ⟨rfl, rfl⟩ := e
  refine ⟨A, c - 1, by simp, by simp at hc; omega, by omega, fun hn => ?_⟩
  have hlen : 0 < r.length := List.length_pos_iff.2 hn
  rw [if_neg (by simp at hc; omega)] at hA
  refine ⟨bk, o + 1, hA.symm, hb, fun j hj => ?_⟩
  have h2 := hr (j + 1) (by simp; omega)
  rw [show o + (j + 1) * rkU.s = o + 1 + j * rkU.s from by show o + (j + 1) * 1 = o + 1 + j * 1; omega] at h2
  exact h2
theorem U16.slice1 (w : World) {bk o n c : Nat} (hn : 1 ≤ n) (hc : n ≤ c) :
    (Instr.sliceAt 22 (.slice (some ⟨bk, o, none⟩) n c) (some (.int .i64 1)) none none).run Tryd.prog w = .ok (.slice (if c = 1 then some ⟨bk, o, none⟩ else some ⟨bk, o + 1, none⟩) (n - 1) (c - 1)) w := by
  have h1 : (1 : Int) ≤ n := by omega
  have h2 : (n : Int) ≤ c := by omega
  simp [go_sem, run_underlying Tryd.underlying22, h1, h2]
theorem yields_slice1 {ops : Array Oper} {S : World → Prop} {o : Oper} {a : Act} (hw : Region.wanted o (yielded ops a.tmps) = true) (x : Operand) (ho : o.op = .slice 22 x (some (.const (.int .i64 1))) none none) {v v' : Value} (hx : a.eval x = v)
    (hr : ∀ w, (Instr.sliceAt 22 v (some (.int .i64 1)) none none).run Tryd.prog w = .ok v' w) : YieldsIf Tryd.prog ops S o v' a :=
  Or.inl ⟨hw, by
    intro w _
    unfold execOp
    have hc : a.eval (.const (.int .i64 1)) = .int .i64 1 := rfl
    simp only [ho, hx, Option.map_some, Option.map_none, hc]
    have h := hr w
    simp [h, Result.andThen]⟩
set_option maxHeartbeats 8000000
set_option maxRecDepth 100000
end Go.Proofs.YtaicampenpkneaaDoor
/-
  The document's queue: Encode, Decode.
-/
namespace Go.Proofs.YtaicampenpkneaaDoor
open Go.RowKit
set_option maxHeartbeats 8000000
set_option maxRecDepth 100000
theorem wp_buildU {o : Oper} {a : Act} {w : World} {K : Act → World → Prop} {Q : Exit → Act → World → Prop} (x : Operand) (ho : o.op = .buildSlice 22 1 #[(0, x)]) {y : Int} (hx : a.eval x = .int .u16 y)
    (h : K (a.put o.dst (.slice (some ⟨w.heap.size, 0, none⟩) 1 1)) (w.alloc (.cells #[.int .u16 y] 23))) : o.wp Tryd.prog a w K Q := by
  refine wp_buildSlice 22 23 1 #[(0, x)] ho #[.int .u16 y] rkU.i _ rkU.und rkU.hi rkU.hz (by rw [rkU.hs]; decide) (by rw [rkU.hs]; decide) ?_ h
  rw [rkU.hs]
  have e : (#[(0, x)].map fun (i, z) => (i, a.eval z)).toList = [(0, a.eval x)] := by simp
  rw [e, hx, show rkU.s = 1 from rfl, show rkU.z = .int .u16 0 from rfl]
  simp [Instr.fill, Value.cells]
  rw [show Array.range 1 = #[0] from by decide]
  apply Array.ext'
  simp
theorem yields_idx {ops : Array Oper} {S : World → Prop} {o : Oper} {a : Act} (hw : Region.wanted o (yielded ops a.tmps) = true) (x y : Operand) (ho : o.op = .index 9 x y) {s z : Value} {i : Int} (hx : a.eval x = s) (hy : a.eval y = .int .i64 i)
    (hr : ∀ w, (Instr.index 9 s (.int .i64 i)).run Tryd.prog w = .ok z w) : YieldsIf Tryd.prog ops S o z a :=
  Or.inl ⟨hw, by
    intro w _
    unfold execOp
    have h := hr w
    simp only [ho, hx, hy, h, Sem.run_bind]
    simp [h, Result.andThen]⟩
theorem str_at10 (w : World) (b : List UInt8) (i : Nat) (hi : i < b.length) : (Instr.index 9 (.string (bs b)) (.int .i64 i)).run Tryd.prog w = .ok (.int .u8 (b.getD i 0).toNat) w := by
  have h1 : i < (bs b).size := by show i < b.toArray.size; simpa using hi
  have h2 : (bs b)[i]'h1 = b[i] := rfl
  simp [Instr.index, run_underlying Tryd.underlying9, asIntOf, part, go_sem, h1, List.getElem?_eq_getElem hi]
  rw [h2]
  rfl
end Go.Proofs.YtaicampenpkneaaDoor
/-
  What the program's queue must tell; the law's has, enq, deq, over any such queue.
-/
namespace Go.Proofs.YtaicampenpkneaaDoor
open Go.RowKit
/-- What the program's queue tells; G: what its package-level variables hold. -/
structure QuProg (G : World → Prop) where
  At : World → Value → List Int → Prop
  foot : Value → List Nat
  keepG : ∀ {w w' : World}, G w → Keeps [] w w' → G w'
  keep : ∀ {w w' : World} {F : List Nat} {st : Value} {l : List Int}, At w st l → Keeps F w w' → (∀ q ∈ foot st, q ∉ F) → At w' st l
  old : ∀ {w : World} {st : Value} {l : List Int}, At w st l → ∀ q ∈ foot st, q < w.heap.size
  one : ∀ {w : World} {st : Value} {l : List Int}, At w st l → ∃ z, st = .agg #[z] ∧ z.oneCell' = true
  zero : ∀ w, At w (.agg #[.slice none 0 0]) []
  new : ∀ w, G w → Calls Tryd.prog 24 #[] w fun e w' => ∃ st, e = .returned st ∧ At w' st [] ∧ Keeps [] w w' ∧ ∀ q ∈ foot st, w.heap.size ≤ q
  of : ∀ w N v l, G w → rkU.In N w v l → N ≤ w.heap.size → l.length ≤ 1000 → Calls Tryd.prog 11 #[v] w fun e w' => ∃ st, e = .returned st ∧ At w' st l ∧ Keeps [] w w' ∧ ∀ q ∈ foot st, w.heap.size ≤ q
  values : ∀ w st l, G w → At w st l → l.length ≤ 1000 → Calls Tryd.prog 15 #[st] w fun e w' => ∃ v, e = .returned v ∧ rkU.Own w.heap.size w' v l ∧ Keeps [] w w'
  step : ∀ w st l x, G w → At w st l → l.length ≤ 1000 → x.In → Calls Tryd.prog 12 #[st, x.val] w fun e w' =>
    ∃ st', e = .returned (.tuple #[st', .agg (ansC (quX l x).2.1).toArray, .int .i64 (quX l x).2.2]) ∧ At w' st' (quX l x).1 ∧ Keeps [] w w' ∧ FSub (foot st') (foot st) w.heap.size
  run : ∀ w st l v ops, G w → At w st l → l.length ≤ 1000 → (∀ x ∈ ops, x.In) → rkO.In w.heap.size w v ops → ops.length ≤ 1000 → Calls Tryd.prog 17 #[st, v] w fun e w' =>
    ∃ st' v', e = .returned (.tuple #[st', v', .int .i64 (stE quX l ops)]) ∧ At w' st' (stS quX l ops) ∧ rkA.In w'.heap.size w' v' (stL quX l ops) ∧ Keeps [] w w' ∧ FSub (foot st') (foot st) w.heap.size
  idle : ∀ w f, G w → 0 ≤ f ∧ f < 256 → Calls Tryd.prog 16 #[.int .u8 f] w fun e w' => e = .returned (.bool false) ∧ Keeps [] w w'
  enc : ∀ w st l, G w → At w st l → l.length ≤ 1000 → U16s l → Calls Tryd.prog 21 #[st] w fun e w' => e = .returned (.string (bs (quB l))) ∧ Keeps [] w w'
  dec : ∀ w b, G w → b.length ≤ 2000 → Calls Tryd.prog 19 #[.string (bs b)] w fun e w' =>
    ∃ st, e = .returned (.tuple #[st, .int .i64 (if b.length % 2 = 1 then 5 else 0)]) ∧ At w' st (if b.length % 2 = 1 then [] else quN b) ∧ Keeps [] w w' ∧ ∀ q ∈ foot st, w.heap.size ≤ q
  same : ∀ w st l st2 m, G w → At w st l → At w st2 m → l.length ≤ 1000 → m.length ≤ 1000 → Calls Tryd.prog 23 #[st, st2] w fun e w' => e = .returned (.bool (decide (l = m))) ∧ Keeps [] w w'
variable {G : World → Prop}
theorem QuProg.new_ (R : QuProg G) {w w' : World} {st : Value} {l : List Int} (h : R.At w st l) (hk : Keeps [] w w') : R.At w' st l := R.keep h hk (by simp)
set_option maxHeartbeats 8000000
set_option maxRecDepth 100000
theorem has10_any (R : QuProg G) (w : World) (hG : G w) {st v : Value} {l m : List Int} (hs : R.At w st l) (hl : l.length ≤ 1000) {M : Nat} (hm : rkU.In M w v m) (hM : M ≤ w.heap.size) :
    Calls Tryd.prog 25 #[st, v] w fun e w' => e = .returned (.bool (decide (l = m))) ∧ Keeps [] w w' := by
  obtain ⟨z, rfl, hz⟩ := R.one hs
  have HR := Lib.hid (fun w' h => R.values w' _ l (R.keepG hG h) (R.new_ hs h) hl)
  obtain ⟨a2, c2, rfl, hc2, hm2, -⟩ := id hm
  have HK0 := Lib.hid (show Keeps [] w (w.alloc (.cells #[z] 28)) from (Keeps.refl _ _).alloc _)
  have HIM := Lib.hid (fun w' h => hm.new (w' := w') h hM)
  clear hs hG hm hl
  go_enter Tryd.func25, Tryd.ntmps25
  go_wp2_with fail
  refine (HR.out _ HK0.out).mono ?_; rintro e w1 ⟨v1, rfl, ho1, hk1⟩
  have HK1 := Lib.hid (HK0.out.trans hk1 (FSub.refl _ _))
  have HI1 := Lib.hid ho1.in_
  have HI2 := Lib.hid (HIM.out _ HK1.out)
  obtain ⟨a1, c1, rfl, hc1, hm1⟩ := ho1.shape
  clear ho1 hk1 HR HK0 HIM
  by_cases hlen : l.length = m.length
  · rw [← hlen] at hc2 ⊢
    rw [← hlen] at HI2
    have HLE := Lib.hid hlen
    obtain ⟨D, hD⟩ : ∃ D, D = decide (l = m) := ⟨_, rfl⟩
    have HD := Lib.hid hD
    clear hlen hD
    go_wp2_with fail
    go_loopw [6] (fun i wr => ∃ k q : Nat, k ≤ l.length ∧ i = .int .i64 k ∧ l.take k = m.take k ∧ wr = w1.drewN q) (fun i _ => l.length - (intOf i).toNat)
    case atStart => exact ⟨0, 0, by omega, rfl, rfl, rfl⟩
    case round =>
      obtain ⟨k, q, hk, rfl, hp, rfl⟩ := hrel
      have HP := Lib.hid hp; clear hp
      by_cases hlt : k < l.length
      · obtain ⟨b1, o1, rfl, _, d1⟩ := U16.at HI1.out hlt
        obtain ⟨b2, o2, rfl, _, d2⟩ := U16.at (k := k) HI2.out (by have := HLE.out; omega)
        by_cases he : l.getD k 0 = m.getD k 0
        · rw [← he] at d2
          have HN := Lib.hid (take_next (m := m) hlt (by have := HLE.out; omega) HP.out he)
          clear he HP
          generalize l.getD k 0 = X at *
          have t2 : (X != X) = false := by simp
          go_wp2_with fail
          go_quiet (fail)
          go_wp2_with fail
          go_roundw
          case rel => exact ⟨k + 1, q + nq, by omega, by go_num, HN.out, rfl⟩
          case measure => simp [intOf]; omega
        · have HX := Lib.hid (show decide (l = m) = false from decide_eq_false (fun e => he (by rw [e])))
          clear HP
          generalize l.getD k 0 = X at *
          generalize m.getD k 0 = Y at *
          have t2 : (X != Y) = true := by simpa using he
          clear he
          go_wp2_with fail
          go_quiet (fail)
          go_wp2_with fail
          go_ret
          exact ⟨by rw [HX.out]; rfl, (HK1.out.drewN _).drewN _⟩
      · obtain rfl : k = l.length := by omega
        have HX := Lib.hid (show decide (l = m) = true from decide_eq_true (take_all HLE.out HP.out))
        clear HP
        go_wp2_with fail
        go_ret
        exact ⟨by rw [HX.out]; rfl, HK1.out.drewN _⟩
  · have HX := Lib.hid (show decide (l = m) = false from decide_eq_false (fun e => hlen (by rw [e])))
    have z : ¬ (l.length : Int) = (m.length : Int) := by omega
    clear HI1 HI2
    go_wp2_with fail
    go_ret
    exact ⟨by rw [HX.out]; rfl, HK1.out⟩
theorem enq10_any (w : World) (a : Int) : Calls Tryd.prog 26 #[.int .u16 a] w fun e w' => e = .returned (⟨4, 0, 0, a, 0⟩ : Opn).val ∧ Keeps [] w w' := by
  have h := heap_alloc_new w (.cells #[.int .u8 4, .int .u8 0, .int .u8 0, .int .u16 a, .int .u16 0] 25)
  have HN := Lib.hid h
  clear h
  go_enter Tryd.func26, Tryd.ntmps26
  go_wp2_with fail
  try simp only [Exit.inBlock, Exit.then]
  exact bodyPost_ret (results_cell_row (P := Tryd.prog) rfl _ _ _ _ _ _ _ rfl HN.out Tryd.underlying25 rfl (by kernel_rfl)) rfl ⟨rfl, (Keeps.refl _ _).alloc _⟩
theorem deq10_any (w : World) : Calls Tryd.prog 27 #[] w fun e w' => e = .returned (⟨5, 0, 0, 0, 0⟩ : Opn).val ∧ Keeps [] w w' := by
  have h := heap_alloc_new w (.cells #[.int .u8 5, .int .u8 0, .int .u8 0, .int .u16 0, .int .u16 0] 25)
  have HN := Lib.hid h
  clear h
  go_enter Tryd.func27, Tryd.ntmps27
  go_wp2_with fail
  try simp only [Exit.inBlock, Exit.then]
  exact bodyPost_ret (results_cell_row (P := Tryd.prog) rfl _ _ _ _ _ _ _ rfl HN.out Tryd.underlying25 rfl (by kernel_rfl)) rfl ⟨rfl, (Keeps.refl _ _).alloc _⟩
end Go.Proofs.YtaicampenpkneaaDoor
