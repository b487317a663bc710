/-
  A row, cut by three indices, and what is appended to it.
-/
import Derived.ArgAppend
import Derived.Test.YtaicampenpkneaaDoorQA12
set_option linter.unusedSimpArgs false
set_option linter.unusedVariables false
namespace Go.Proofs.YtaicampenpkneaaDoor
open Go.RowKit
theorem has10_true {G : World → Prop} (R : QuProg G) (w : World) (hG : G w) {st v : Value} {l : List Int} (hs : R.At w st l) (hl : l.length ≤ 1000) {M : Nat} (hm : rkU.In M w v l) (hM : M ≤ w.heap.size) :
    Calls Tryd.prog 25 #[st, v] w fun e w' => e = .returned (.bool true) ∧ Keeps [] w w' := by
  have h := has10_any R w hG hs hl hm hM
  rw [decide_eq_true (rfl : l = l)] at h
  exact h
theorem U16.own_form {base : Nat} {w : World} {v : Value} {l : List Int} (h : rkU.Own base w v l) : ∃ a c, v = .slice a l.length c ∧ l.length ≤ c ∧ c ≤ 9223372036854775807 ∧ ((a = none ∧ l = []) ∨ ∃ g, a = some ⟨g, 0, none⟩) := by
  have hs := h.shape
  rcases h.2 with ⟨rfl, hn⟩ | ⟨g, cap, cur, rfl, hb, hh, hc, hm, hcs, htk⟩
  · exact ⟨none, 0, by rw [hn], by omega, by decide, .inl ⟨rfl, List.eq_nil_of_length_eq_zero hn⟩⟩
  · exact ⟨_, cap, rfl, hc, by unfold maxLen at hm; omega, .inr ⟨g, rfl⟩⟩
theorem U16.cut3 {a : Option Addr} {n c : Nat} (ha : (a = none ∧ n = 0) ∨ ∃ g, a = some ⟨g, 0, none⟩) (hc : n ≤ c) (w : World) :
    (Instr.sliceAt 22 (.slice a n c) none (some (.int .i64 n)) (some (.int .i64 n))).run Tryd.prog w = .ok (.slice a n n) w := by
  have h1 : (n : Int) ≤ c := by omega
  rcases ha with ⟨rfl, rfl⟩ | ⟨g, rfl⟩
  · simp [go_sem, run_underlying Tryd.underlying22, h1]
  · simp [go_sem, run_underlying Tryd.underlying22, h1]
theorem yields_cut3 {ops : Array Oper} {S : World → Prop} {o : Oper} {a : Act} (hw : Region.wanted o (yielded ops a.tmps) = true) (x y z : Operand) (ho : o.op = .slice 22 x none (some y) (some z)) {v v' : Value} {n : Nat} (hx : a.eval x = v) (hy : a.eval y = .int .i64 n) (hz : a.eval z = .int .i64 n)
    (hr : ∀ w, (Instr.sliceAt 22 v none (some (.int .i64 n)) (some (.int .i64 n))).run Tryd.prog w = .ok v' w) : YieldsIf Tryd.prog ops S o v' a :=
  Or.inl ⟨hw, by
    intro w _
    unfold execOp
    simp only [ho, hx, hy, hz, Option.map_some, Option.map_none]
    have h := hr w
    simp [h, Result.andThen]⟩
theorem U16.grow {N : Nat} {W : World} {a : Option Addr} {l : List Int} {c : Nat} (hI : rkU.In N W (.slice a l.length c) l) (hN : N ≤ W.heap.size) (hl : l.length ≤ 1000) (ha : (a = none ∧ l = []) ∨ ∃ g, a = some ⟨g, 0, none⟩) (x : Int) :
    ∃ v' w', (Builtin.append_ #[22, 22] 22 #[.slice a l.length l.length, .slice (some ⟨W.heap.size, 0, none⟩) 1 1]).run Tryd.prog (W.alloc (.cells #[.int .u16 x] 23)) = .ok v' w' ∧ rkU.Own W.heap.size w' v' (l ++ [x]) ∧ Keeps [] W w' := by
  rcases ha with ⟨rfl, rfl⟩ | ⟨g, rfl⟩
  · obtain ⟨v', w', h1, h2, h3, -⟩ := rkU.append1 W W.heap.size (Nat.le_refl _) (.slice none 0 0) [] (RK.Own.nil _ _ _) x (by decide)
    exact ⟨v', w', h1, h2, h3⟩
  · have hk : Keeps [] W (W.alloc (.cells #[.int .u16 x] 23)) := (Keeps.refl _ _).alloc _
    have hI2 := hI.new hk hN
    have holds : ∀ j u, (rkU.row l)[j]? = some u → (W.alloc (.cells #[.int .u16 x] 23)).cell? ((⟨g, 0, none⟩ : Addr).add j) = some u := by
      intro j u hj
      rw [Addr.add_mid]
      obtain ⟨a2, c2, e, _, _, h⟩ := hI2
      by_cases h0 : l = []
      · subst h0; simp [RK.row] at hj
      · obtain ⟨bk, o, e2, _, hr⟩ := h h0
        simp only [Value.slice.injEq] at e
        obtain ⟨e3, -, -⟩ := e
        rw [← e3] at e2
        simp only [Option.some.injEq, Addr.mk.injEq, and_true] at e2
        obtain ⟨rfl, rfl⟩ := e2
        exact rkU.row_cells l 0 hr j u hj
    have hnews : ∀ j u, (rkU.row [x])[j]? = some u → (W.alloc (.cells #[.int .u16 x] 23)).cell? ((⟨W.heap.size, 0, none⟩ : Addr).add j) = some u := by
      intro j u hj
      rw [Addr.add_mid, Nat.zero_add]
      exact cell_lit (heap_alloc_new W (.cells #[.int .u16 x] 23)) j (by simpa [RK.row, rkU, u16C] using hj)
    obtain ⟨v', w', h1, h2, h3⟩ := run_append_arg_grows (P := Tryd.prog) (W.alloc (.cells #[.int .u16 x] 23)) 22 22 23 rkU.i _ rkU.s rkU.b rkU.und rkU.hi rkU.hz rkU.hs rkU.hb rkU.hzs rkU.s0 ⟨g, 0, none⟩ l.length l.length (rkU.row l) (rkU.row_len l) holds ⟨W.heap.size, 0, none⟩ 1 1 (rkU.row [x]) (rkU.row_len [x]) hnews (by omega)
      (by unfold maxLen; omega) (by show (l.length + 1) * 2 ≤ _; omega)
    refine ⟨v', w', h1, ?_, hk.trans ((Keeps.refl _ _).grown (v := .slice none 0 0) h3 (fun q hq => by simp [own, Value.ownBlock] at hq)) (FSub.refl _ _)⟩
    unfold RK.Own
    rw [rkU.row_app, List.length_append]
    exact row_up h2 (fun q hq => Nat.le_trans hk.size (row_base h2 q hq).1)
end Go.Proofs.YtaicampenpkneaaDoor
