/-
  When two states of a key map are the same.
-/
import Derived.DeepKeys
import Derived.Test.YtnmpekbkahkapaaKA08
import Derived.Test.YtnmpekbkahkapaaKA07
import Derived.Test.YtnmpekbkahkapaaKA06
set_option linter.unusedSimpArgs false
set_option linter.unusedVariables false
namespace Go.Proofs.Ytnmpekbkahkapaa
open Go.RowKit
/-- The numbers alone. -/
def kvT (vs : List Int) : Array Value := #[.int .u16 (vs.getD 0 0), .int .u16 (vs.getD 1 0), .int .u16 (vs.getD 2 0), .int .u16 (vs.getD 3 0), .int .u16 (vs.getD 4 0), .int .u16 (vs.getD 5 0), .int .u16 (vs.getD 6 0), .int .u16 (vs.getD 7 0)]
theorem part_h (w : World) (h : Int) (vs : List Int) : (part 5 (kvA h vs) 0).run Try.prog w = .ok (.int .u8 h) w := by kernel_rfl
theorem part_v (w : World) (h : Int) (vs : List Int) : (part 23 (kvA h vs) 1).run Try.prog w = .ok (.agg (kvT vs)) w := by kernel_rfl
theorem part_n (w : World) (vs : List Int) {i : Nat} (hi : i < 8) : (part 22 (kvT vs) (i * Try.prog.cellsOf 22)).run Try.prog w = .ok (.int .u16 (vs.getD i 0)) w := by
  rcases (by omega : i = 0 ∨ i = 1 ∨ i = 2 ∨ i = 3 ∨ i = 4 ∨ i = 5 ∨ i = 6 ∨ i = 7) with rfl | rfl | rfl | rfl | rfl | rfl | rfl | rfl <;> kernel_rfl
theorem eqItems_n (w : World) (d : Nat) (vs us : List Int) : ∀ is : List Nat, (∀ i ∈ is, i < 8) → (Op.eqItems (d + 1) 22 (Try.prog.cellsOf 22) (kvT vs) (kvT us) is).run Try.prog w = .ok (is.all fun i => vs.getD i 0 == us.getD i 0) w
  | [], _ => by simp [Op.eqItems]
  | i :: is, h => by
    simp only [Op.eqItems, Sem.run_bind, part_n w vs (h i (by simp)), part_n w us (h i (by simp)), Result.andThen_ok, run_equalIn_int w d 22 .u16 .u16 _ _ Try.underlying22]
    cases he : (vs.getD i 0 == us.getD i 0)
    · simp only [List.all_cons, he, Bool.not_false, if_true, Sem.run_pure, Bool.false_and]
    · have ih := eqItems_n w d vs us is (fun j hj => h j (by simp [hj]))
      simp only [List.all_cons, he, Bool.not_true, Bool.false_eq_true, if_false, ih, Bool.true_and]
theorem two_of_map {α β : Type} {g : α → β} {l : List α} {a b : β} (h : l.map g = [a, b]) : ∃ x y, l = [x, y] ∧ g x = a ∧ g y = b := by
  match l, h with
  | [x, y], h => simp at h; exact ⟨x, y, rfl, h.1, h.2⟩
theorem Try.fields11 : (Try.prog.fieldsOf 25).toList.map (fun f => (f.name != "_", f.type, f.offset)) = [(true, 5, 0), (true, 23, 1)] := by kernel_rfl
/-- Both sides are looked at number by number. -/
def kvEq (h h2 : Int) (vs us : List Int) : Bool := h == h2 && (List.range 8).all fun i => vs.getD i 0 == us.getD i 0
theorem kv_equalIn (w : World) (h h2 : Int) (vs us : List Int) : (Op.equalIn 10000 25 (.agg (kvA h vs)) (.agg (kvA h2 us))).run Try.prog w = .ok (kvEq h h2 vs us) w := by
  have hu : Try.prog.underlying 25 = some (.struct (Try.prog.fieldsOf 25)) := by kernel_rfl
  obtain ⟨f, g, hfs, hf, hg⟩ := two_of_map Try.fields11
  simp only [Prod.mk.injEq, bne_iff_ne] at hf hg
  obtain ⟨i, hi, -⟩ : ∃ i, Try.prog.info? 22 = some i ∧ True := by
    have h := Try.infoU16R
    cases hq : Try.prog.info? 22 with
    | none => rw [hq] at h; cases h
    | some i => exact ⟨i, rfl, trivial⟩
  rw [run_equalIn_struct w 9999 25 _ _ hu (by kernel_rfl), hfs]
  have harr := run_equalIn_array (P := Try.prog) w 9998 (kvT vs) (kvT us) Try.underlying23 hi
  simp only [Op.eqFields, if_pos hf.1, if_pos hg.1, hf.2.1, hf.2.2, hg.2.1, hg.2.2, Sem.run_bind, part_h, part_v, Result.andThen_ok, run_equalIn_int w 9998 5 .u8 .u8 _ _ Try.underlying5]
  unfold kvEq
  cases he : (h == h2)
  · simp
  · simp only [Bool.not_true, Bool.false_eq_true, if_false, Sem.run_bind, part_v, Result.andThen_ok, harr, eqItems_n w 9997 vs us (List.range 8) (fun i hi => List.mem_range.1 hi), Bool.true_and]
    cases (List.range 8).all fun i => vs.getD i 0 == us.getD i 0 <;> simp
theorem kvEq_same (h : Int) (vs : List Int) : kvEq h h vs vs = true := by simp [kvEq]
theorem kv_eql (w : World) (h h2 : Int) (vs us : List Int) : (binOp .eql 25 (.agg (kvA h vs)) (.agg (kvA h2 us))).run Try.prog w = .ok (.bool (kvEq h h2 vs us)) w := by
  rw [run_eql_struct, kv_equalIn]
  rfl
end Go.Proofs.Ytnmpekbkahkapaa
/-
  The law's items and alike, over any state.
-/
namespace Go.Proofs.Ytnmpekbkahkapaa
open Go.RowKit
set_option maxHeartbeats 8000000
set_option maxRecDepth 100000
section
variable {o : Oper} {a : Act} {w : World} {K : Act → World → Prop} {Q : Exit → Act → World → Prop}
theorem wp_put1 {T : TypeId} {x y : Operand} (ho : o.op = .store T x y) {g i : Nat} {z : Value} (hx : a.eval x = .pointer (some ⟨g, i, none⟩)) (hy : a.eval y = z) (hi : (Try.prog.info? T).map (·.size) = some 1) (h1 : z.oneCell' = true)
    (hc : (w.cell? ⟨g, i, none⟩).isSome = true) (hf : w.frozen? ⟨g, i, none⟩ = false) (h : K (a.put o.dst undef) (w.setCell ⟨g, i, none⟩ z)) : o.wp Try.prog a w K Q := by
  have hrun := run_put1 (P := Try.prog) w g i T z hi h1 hc hf
  unfold Oper.wp execOp
  simp only [ho, hx, hy, Instr.storeAt, Instr.sureAddr, Sem.run_bind, Sem.run_pure, Result.andThen_ok, hrun]
  exact h
end
end Go.Proofs.Ytnmpekbkahkapaa
