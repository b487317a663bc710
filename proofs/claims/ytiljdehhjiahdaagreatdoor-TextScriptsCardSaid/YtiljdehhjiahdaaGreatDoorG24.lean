/-
  The rest of what an event's kind needs; what fits.
-/
import Derived.Test.YtiljdehhjiahdaaGreatDoorG16
import Derived.Test.YtiljdehhjiahdaaGreatDoorG23
set_option linter.unusedSimpArgs false
set_option linter.unusedVariables false
namespace Go.Proofs.YtiljdehhjiahdaaGreatDoor
open Go.RowKit
theorem run_put1 {P : Program} (w : World) (b i : Nat) (T : TypeId) (v : Value) (hi : (P.info? T).map (·.size) = some 1) (h1 : v.oneCell' = true) (hc : (w.cell? ⟨b, i, none⟩).isSome = true) (hf : w.frozen? ⟨b, i, none⟩ = false) :
    (storeVar T ⟨b, i, none⟩ v).run P w = .ok () (w.setCell ⟨b, i, none⟩ v) := by
  have := run_storeCells_cells (P := P) b i [v] 0 w (fun j hj => by have : j = 0 := by simpa using hj
                                                                    subst this; simpa using hc) (fun j hj => by have : j = 0 := by simpa using hj
                                                                                                                subst this; simpa using hf) (fun u hu => by simp at hu; subst hu; exact h1)
  cases hq : P.info? T with
  | none => simp [hq] at hi
  | some k =>
    have hs : k.size = 1 := by simpa [hq] using hi
    have hv : v.cells = #[v] := by unfold Value.oneCell' at h1; cases v <;> simp_all [Value.cells]
    simp only [Nat.add_zero, World.setCells] at this
    simp [storeVar, sizeOf, typeInfo, hq, hv, hs, this]
section
variable {ops : Array Oper} {rest : List Oper} {a : Act} {w : World} {Q : Exit → Act → World → Prop}
theorem wpList_put_cell {dst : Option Tmp} {T ty : TypeId} {pos : String} {after : Array Edge} {x y : Operand} {b : Nat} {e : Ev} {tx rd : Value} {t : TypeId} {v : Value} (i : Nat) (e' : Ev) (tx' rd' : Value)
    (hx : a.eval x = .pointer (some ⟨b, i, none⟩)) (hy : a.eval y = v) (hg : w.heap[b]? = some (.cells (evC e tx rd) t (0, 0))) (hi : (Tryz.prog.info? T).map (·.size) = some 1) (h1 : v.oneCell' = true)
    (hc : ((evC e tx rd)[i]?).isSome = true) (hs : (evC e tx rd).setIfInBounds i v = evC e' tx' rd')
    (h : ∀ W, W.heap[b]? = some (.cells (evC e' tx' rd') t (0, 0)) → Keeps [b] w W → wpList Tryz.prog ops Q rest (a.put dst undef) W) :
    wpList Tryz.prog ops Q ({ dst := dst, op := .store T x y, type := ty, pos := pos, after := after, guard := none } :: rest) a w := by
  have hcell : (w.cell? ⟨b, i, none⟩).isSome = true := by
    cases hq : (evC e tx rd)[i]? with
    | none => rw [hq] at hc; cases hc
    | some u => rw [ev_cell hg i hq]; rfl
  have hrun := run_put1 (P := Tryz.prog) w b i T v hi h1 hcell (ev_thaw hg i)
  refine wpList_plain rfl fun K hK => ?_
  unfold Oper.wp execOp
  simp only [hx, hy, Instr.storeAt, Instr.sureAddr, Sem.run_bind, Sem.run_pure, Result.andThen_ok, hrun]
  exact hK _ _ (h _ (ev_set hg i v hs) ((Keeps.refl [b] w).own b i v))
end
set_option maxHeartbeats 4000000 in
set_option maxRecDepth 100000 in
theorem ofBegin_any (w : World) (x : Ev) (tx rd : Value) (h1 : tx.oneCell' = true) : Calls Tryz.prog 89 #[.agg (evC x tx rd)] w fun e w' =>
    e = .returned (.agg (evC { evWho x with t := x.t } tx (.slice none 0 0))) ∧ Keeps [] w w' := by
  have hX := heap_alloc_new w (.cells (evC x tx rd) 32)
  go_enter Tryz.func89, Tryz.ntmps89
  go_wp2_with ((with_reducible apply wpList_load_ev); exact rfl; (first | assumption | (refine heap_alloc_lt ?_; assumption) | (refine heap_alloc_lt (heap_alloc_lt ?_); assumption) | exact heap_alloc_at (by simp)); exact rfl)
  refine (ofWho_any _ x tx rd).mono ?_; rintro e w1 ⟨rfl, hk1⟩
  have hX1 := hk1.heap (heap_alloc_lt hX) (by simp)
  have hR1 := hk1.heap (heap_alloc2_new w _ _) (by simp)
  have hK1 := (((Keeps.refl [] w).alloc _).alloc _).trans hk1 (FSub.refl _ _)
  have hz1 := lt_of_block hR1
  clear hX hk1
  go_wp2_with ((with_reducible apply wpList_put_ev); exact rfl; exact rfl; (first | assumption | (refine heap_alloc_lt ?_; assumption) | (refine heap_alloc_lt (heap_alloc_lt ?_); assumption) | exact heap_alloc_at (by simp)); exact ⟨rfl, rfl⟩; exact rfl)
  intro W2 hb2 hk2
  have hX2 := hk2.heap (heap_alloc_lt hX1) (by simp; omega)
  have hR2 := hk2.heap (heap_alloc_lt hR1) (by simp; omega)
  have hK2 := (hK1.alloc _).trans hk2 (fun g hg => .inr (by have := hK1.size; simp at hg; omega))
  have c10 := ev_cell hX2 10 (evC_10 x tx rd)
  clear hX1 hR1 hK1 hk2 hX2
  go_wp2_with ((with_reducible apply wpList_put_cell (T := 27) 10 { evWho x with t := x.t } tx (.slice none 0 0)); exact rfl; exact rfl; assumption; kernel_rfl; assumption; exact rfl; exact rfl)
  intro W3 hb3 hk3
  have hR3 := hk3.heap hR2 (by simp; omega)
  have hK3 := hK2.trans hk3 (fun g hg => .inr (by simp at hg; omega))
  go_wp2_with (first | ((with_reducible apply wpList_load_ev); exact rfl; (first | assumption | (refine heap_alloc_lt ?_; assumption) | (refine heap_alloc_lt (heap_alloc_lt ?_); assumption) | exact heap_alloc_at (by simp)); exact rfl) | ((with_reducible apply wpList_put_ev); exact rfl; exact rfl; (first | assumption | (refine heap_alloc_lt ?_; assumption) | (refine heap_alloc_lt (heap_alloc_lt ?_); assumption) | exact heap_alloc_at (by simp)); exact ⟨rfl, rfl⟩; (refine evC_one _ ?_ ?_ <;> first | rfl | assumption)))
  intro W4 hb4 hk4
  go_wp2_with fail
  exact bodyPost_ret (results_ev rfl _ _ _ rfl hb4) rfl ⟨rfl, hK3.trans hk4 (fun g hg => .inr (by simp at hg; omega))⟩
set_option maxHeartbeats 4000000 in
set_option maxRecDepth 100000 in
theorem ofCommit_any (w : World) (x : Ev) (tx rd : Value) (h1 : rd.oneCell' = true) : Calls Tryz.prog 93 #[.agg (evC x tx rd)] w fun e w' =>
    e = .returned (.agg (evC { evWho x with r := x.r } (.slice none 0 0) rd)) ∧ Keeps [] w w' := by
  have hX := heap_alloc_new w (.cells (evC x tx rd) 32)
  go_enter Tryz.func93, Tryz.ntmps93
  go_wp2_with ((with_reducible apply wpList_load_ev); exact rfl; (first | assumption | (refine heap_alloc_lt ?_; assumption) | (refine heap_alloc_lt (heap_alloc_lt ?_); assumption) | exact heap_alloc_at (by simp)); exact rfl)
  refine (ofWho_any _ x tx rd).mono ?_; rintro e w1 ⟨rfl, hk1⟩
  have hX1 := hk1.heap (heap_alloc_lt hX) (by simp)
  have hR1 := hk1.heap (heap_alloc2_new w _ _) (by simp)
  have hK1 := (((Keeps.refl [] w).alloc _).alloc _).trans hk1 (FSub.refl _ _)
  have hz1 := lt_of_block hR1
  clear hX hk1
  go_wp2_with ((with_reducible apply wpList_put_ev); exact rfl; exact rfl; (first | assumption | (refine heap_alloc_lt ?_; assumption) | (refine heap_alloc_lt (heap_alloc_lt ?_); assumption) | exact heap_alloc_at (by simp)); exact ⟨rfl, rfl⟩; exact rfl)
  intro W2 hb2 hk2
  have hX2 := hk2.heap (heap_alloc_lt hX1) (by simp; omega)
  have hR2 := hk2.heap (heap_alloc_lt hR1) (by simp; omega)
  have hK2 := (hK1.alloc _).trans hk2 (fun g hg => .inr (by have := hK1.size; simp at hg; omega))
  have c11 := ev_cell hX2 11 (evC_11 x tx rd)
  clear hX1 hR1 hK1 hk2 hX2
  go_wp2_with ((with_reducible apply wpList_put_cell (T := 28) 11 { evWho x with r := x.r } (.slice none 0 0) rd); exact rfl; exact rfl; assumption; kernel_rfl; assumption; exact rfl; exact rfl)
  intro W3 hb3 hk3
  have hR3 := hk3.heap hR2 (by simp; omega)
  have hK3 := hK2.trans hk3 (fun g hg => .inr (by simp at hg; omega))
  go_wp2_with (first | ((with_reducible apply wpList_load_ev); exact rfl; (first | assumption | (refine heap_alloc_lt ?_; assumption) | (refine heap_alloc_lt (heap_alloc_lt ?_); assumption) | exact heap_alloc_at (by simp)); exact rfl) | ((with_reducible apply wpList_put_ev); exact rfl; exact rfl; (first | assumption | (refine heap_alloc_lt ?_; assumption) | (refine heap_alloc_lt (heap_alloc_lt ?_); assumption) | exact heap_alloc_at (by simp)); exact ⟨rfl, rfl⟩; (refine evC_one _ ?_ ?_ <;> first | rfl | assumption)))
  intro W4 hb4 hk4
  go_wp2_with fail
  exact bodyPost_ret (results_ev rfl _ _ _ rfl hb4) rfl ⟨rfl, hK3.trans hk4 (fun g hg => .inr (by simp at hg; omega))⟩
set_option maxHeartbeats 1000000 in
theorem fitsWho_any (w : World) (x : Ev) (tx rd : Value) : Calls Tryz.prog 86 #[.agg (evC x tx rd)] w fun e w' => e = .returned (.bool true) ∧ Keeps [] w w' := by
  go_enter Tryz.func86, Tryz.ntmps86
  go_wp2_with fail
  go_ret
  exact ⟨rfl, (Keeps.refl _ _).alloc _⟩
set_option maxHeartbeats 4000000 in
set_option maxRecDepth 100000 in
theorem fitsInvoke_any (w : World) (hG : Glob4 w) (x : Ev) (hx : x.o.In) (tx rd : Value) : Calls Tryz.prog 78 #[.agg (evC x tx rd)] w fun e w' => e = .returned (.bool (opGood x.o)) ∧ Keeps [] w w' := by
  have E3 := evC_3 x tx rd; have E4 := evC_4 x tx rd; have E5 := evC_5 x tx rd; have E6 := evC_6 x tx rd; have E7 := evC_7 x tx rd
  have hk0 := (Keeps.refl [] w).alloc (.cells (evC x tx rd) 32)
  rcases bool_two (opGood x.o) with hg | hg
  all_goals
    have hp := fun w hG => opPut_any w hG x.o.f x.o.o x.o.k x.o.a x.o.b hx
    have hE : opPutE ⟨x.o.f, x.o.o, x.o.k, x.o.a, x.o.b⟩ = opPutE x.o := rfl
    simp only [opPutE, hg, if_true, if_false, Bool.false_eq_true] at hp
    rw [hg]
    generalize strOfNums (opPut x.o) = S at *
    clear hE hg
    go_enter Tryz.func78, Tryz.ntmps78
    go_wp2_with fail
    refine (hp _ (hG.new hk0)).mono ?_; rintro e w1 ⟨rfl, hk1⟩
    go_wp2_with fail
    go_ret
    exact ⟨rfl, hk0.trans hk1 (FSub.refl _ _)⟩
set_option maxHeartbeats 4000000 in
set_option maxRecDepth 100000 in
theorem fitsReturn_any (w : World) (x : Ev) (h0 : 0 ≤ x.rk) (h1 : x.rk < 256) (tx rd : Value) : Calls Tryz.prog 82 #[.agg (evC x tx rd)] w fun e w' => e = .returned (.bool (rsGood x.rk x.rv)) ∧ Keeps [] w w' := by
  have E8 := evC_8 x tx rd; have E9 := evC_9 x tx rd
  have hk0 := (Keeps.refl [] w).alloc (.cells (evC x tx rd) 32)
  rcases bool_two (rsGood x.rk x.rv) with hg | hg
  all_goals
    have hp := fun w => Check_any w x.rk x.rv h0 h1
    simp only [rsErr, hg, if_true, if_false, Bool.false_eq_true] at hp
    rw [hg]
    clear hg
    go_enter Tryz.func82, Tryz.ntmps82
    go_wp2_with fail
    refine (hp _).mono ?_; rintro e w1 ⟨rfl, hk1⟩
    go_wp2_with fail
    go_ret
    exact ⟨rfl, hk0.trans hk1 (FSub.refl _ _)⟩
end Go.Proofs.YtiljdehhjiahdaaGreatDoor
/-
  The table of the kinds.
-/
namespace Go.Proofs.YtiljdehhjiahdaaGreatDoor
open Go.RowKit
def fn (k : Nat) : Value := .func (.func k) #[] #[]
/-- What is done with an event of a kind: what it needs, what fits, how it is written and read. -/
def kindOf (k : Int) : Array Value :=
  if k = 1 then #[fn 73, fn 74, fn 75, fn 76] else if k = 2 then #[fn 77, fn 78, fn 79, fn 80] else
  if k = 3 then #[fn 81, fn 82, fn 83, fn 84] else if k = 5 then #[fn 89, fn 90, fn 91, fn 92] else
  if k = 6 then #[fn 93, fn 94, fn 95, fn 96] else if k = 4 ∨ k = 7 then #[fn 85, fn 86, fn 87, fn 88] else #[.nilFunc, .nilFunc, .nilFunc, .nilFunc]
def kindsC : Array Value := #[.nilFunc, .nilFunc, .nilFunc, .nilFunc,
  fn 73, fn 74, fn 75, fn 76, fn 77, fn 78, fn 79, fn 80,
  fn 81, fn 82, fn 83, fn 84, fn 85, fn 86, fn 87, fn 88,
  fn 89, fn 90, fn 91, fn 92, fn 93, fn 94, fn 95, fn 96,
  fn 85, fn 86, fn 87, fn 88]
section
variable {ops : Array Oper} {rest : List Oper} {a : Act} {w : World} {Q : Exit → Act → World → Prop}
theorem wpList_put_row {dst : Option Tmp} {T ty : TypeId} {pos : String} {after : Array Edge} {x y : Operand} {g : Nat} {old cells : Array Value} {t : TypeId} (n : Nat)
    (hx : a.eval x = .pointer (some ⟨g, 0, none⟩)) (hy : a.eval y = .agg cells) (hg : w.heap[g]? = some (.cells old t (0, 0))) (hs : old.size = n ∧ cells.size = n) (hT : (Tryz.prog.info? T).map (·.size) = some n)
    (h1 : cells.toList.all (·.oneCell') = true) (h : ∀ W, W.heap[g]? = some (.cells cells t (0, 0)) → Keeps [g] w W → wpList Tryz.prog ops Q rest (a.put dst undef) W) :
    wpList Tryz.prog ops Q ({ dst := dst, op := .store T x y, type := ty, pos := pos, after := after, guard := none } :: rest) a w :=
  wpList_store_row rfl T x y rfl g cells hx hy t old hg (by rw [hs.2]; exact hT) (by rw [hs.1, hs.2]) (by rw [← Array.all_toList]; exact h1) (h _ (setRow_heap w g old cells t (0, 0) hg) ((Keeps.refl [g] w).setRow g cells (.inl (by simp))))
end
set_option maxHeartbeats 4000000 in
set_option maxRecDepth 100000 in
theorem kinds_any (w : World) : Calls Tryz.prog 51 #[] w fun e w' => e = .returned (.agg kindsC) ∧ Keeps [] w w' := by
  go_enter Tryz.func51, Tryz.ntmps51
  go_wp2_with ((with_reducible apply wpList_put_row (T := 97) 32); exact rfl; exact rfl; exact heap_alloc_at (by simp); exact ⟨rfl, rfl⟩; kernel_rfl; exact rfl)
  intro W hb hk
  go_wp2_with fail
  exact bodyPost_ret (results_cell_row (P := Tryz.prog) rfl _ _ _ _ _ _ _ rfl hb Tryz.underlying97 rfl (by kernel_rfl)) rfl ⟨rfl, ((Keeps.refl [] w).alloc _).trans hk (fun g hg => .inr (by simp at hg; omega))⟩
set_option maxRecDepth 100000 in
theorem index_kinds8 (w : World) (k : Int) (h1 : 1 ≤ k) (h7 : k ≤ 7) : (Instr.index 97 (.agg kindsC) (.int .u8 k)).run Tryz.prog w = .ok (.agg (kindOf k)) w := by
  rcases (by omega : k = 1 ∨ k = 2 ∨ k = 3 ∨ k = 4 ∨ k = 5 ∨ k = 6 ∨ k = 7) with rfl | rfl | rfl | rfl | rfl | rfl | rfl
  all_goals first | rfl | kernel_rfl | (simp [Instr.index, run_underlying Tryz.underlying97, kindsC, kindOf, fn, asIntOf, part, go_sem]; done)
theorem results_kind8 {fn : Func} {p u : Tmp} (h : fn.results = #[.cell p 80, .tmp u]) (tmps : Array Value) (w : World) (b : Nat) {cs : Array Value} {t : TypeId} (hc : cs.size = 4)
    (hp : tmps.getD p undef = .pointer (some ⟨b, 0, none⟩)) (hb : w.heap[b]? = some (.cells cs t (0, 0))) : (results fn tmps).run Tryz.prog w = .ok (.tuple #[.agg cs, tmps.getD u undef]) w := by
  have h1 : (loadVar 80 ⟨b, 0, none⟩).run Tryz.prog w = .ok (.agg cs) w := run_loadVar_row w b t 80 _ _ _ hb Tryz.underlying80 rfl (by rw [hc]; kernel_rfl)
  rw [results_cell_tmp h, hp]
  simp [asAddr, h1, Result.andThen]
theorem kindOf_size (k : Int) : (kindOf k).size = 4 := by
  unfold kindOf
  repeat' split
  all_goals rfl
theorem kindOf_one (k : Int) : (kindOf k).toList.all (·.oneCell') = true := by
  unfold kindOf
  repeat' split
  all_goals rfl
set_option maxHeartbeats 4000000 in
set_option maxRecDepth 100000 in
theorem find5_yes (w : World) (k : Int) (h1 : 1 ≤ k) (h7 : k ≤ 7) : Calls Tryz.prog 30 #[.int .u8 k] w fun e w' => e = .returned (.tuple #[.agg (kindOf k), .bool true]) ∧ Keeps [] w w' := by
  have hx := fun w => index_kinds8 w k h1 h7
  have hz := kindOf_size k; have ho := kindOf_one k
  generalize kindOf k = C at *
  generalize hKC : kindsC = KC at *
  have hkk := fun w => kinds_any w
  rw [hKC] at hkk
  have HZ := Lib.hid hz; have HO := Lib.hid ho
  clear hKC hz ho
  have hb0 := heap_alloc_new w (.cells #[.nilFunc, .nilFunc, .nilFunc, .nilFunc] 80)
  go_enter Tryz.func30, Tryz.ntmps30
  go_wp2_with fail
  refine (hkk _).mono ?_; rintro e w1 ⟨rfl, hk1⟩
  have hb1 := hk1.heap hb0 (by simp)
  have hx1 := hx w1
  clear hb0 hx
  go_wp2_with ((with_reducible apply wpList_put_row (T := 80) 4); exact rfl; exact rfl; assumption; exact ⟨rfl, HZ.out⟩; kernel_rfl; exact HO.out)
  intro W hb hk
  go_wp2_with fail
  try simp only [Exit.inBlock, Exit.then]
  exact bodyPost_ret (results_kind8 rfl _ _ _ HZ.out rfl hb) rfl ⟨rfl, (((Keeps.refl [] w).alloc _).trans hk1 (FSub.refl _ _)).trans hk (fun g hg => .inr (by simp at hg; omega))⟩
set_option maxHeartbeats 4000000 in
set_option maxRecDepth 100000 in
theorem find5_no (w : World) (k : Int) (h : ¬ (1 ≤ k ∧ k ≤ 7)) : Calls Tryz.prog 30 #[.int .u8 k] w fun e w' => e = .returned (.tuple #[.agg #[.nilFunc, .nilFunc, .nilFunc, .nilFunc], .bool false]) ∧ Keeps [] w w' := by
  rcases (by omega : k < 1 ∨ (¬ k < 1 ∧ 7 < k)) with h1 | ⟨h0, h1⟩
  all_goals
    clear h
    go_enter Tryz.func30, Tryz.ntmps30
    go_wp2_with ((with_reducible apply wpList_put_row (T := 80) 4); exact rfl; exact rfl; exact heap_alloc_at (by simp); exact ⟨rfl, rfl⟩; kernel_rfl; exact rfl)
    intro W hb hk
    go_wp2_with fail
    try simp only [Exit.inBlock, Exit.then]
    exact bodyPost_ret (results_kind8 rfl _ _ _ rfl rfl hb) rfl ⟨rfl, ((Keeps.refl [] w).alloc _).trans hk (fun g hg => .inr (by simp at hg; omega))⟩
end Go.Proofs.YtiljdehhjiahdaaGreatDoor
