/-
  The table of kinds as a row's condition tells it; an operation as data; how a row is opened.
-/
import Derived.ProofKit
import Derived.LaidMore
import Derived.OpenShut
import Derived.ChangeSame
import Derived.HandedShaped
import Derived.Lay
import Derived.Lib.LaidTab
import Derived.Stop.LaidErr
import Derived.MakeChecks
import Derived.Shelf.Vars
import Derived.Lib.SmallJoins
import Derived.Test.YtbnhcggjcdipeaaGreatDoorWA04
set_option linter.unusedSimpArgs false
set_option linter.unusedVariables false
namespace Go.Proofs.YtbnhcggjcdipeaaGreatDoor
open Go.ChangeShapes Go.WideShapes Go.ChangeAt Go.RowKit
open Go.Joins
theorem own0 : ownKnob Tryz.prog.godebug = none := by kernel_rfl
theorem block_of_var {P : Program} {w : World} {n : String} {g : Nat} {cs : Array Value} (hg : P.globalNamed n = some g) (hv : w.var? P n = some cs) : ∃ t fr, w.heap[g]? = some (.cells cs t fr) := by
  unfold World.var? at hv
  rw [hg] at hv
  simp only [Option.bind_some] at hv
  split at hv
  · rename_i c t fr hh
    simp at hv
    subst hv
    exact ⟨t, fr, hh⟩
  · cases hv
theorem handed_laid {H : Type} {enc : TypeId × Value → H} {a : Assume} {C : Checked} {os : Os} {f : FuncId} {fn : Func} {s : ChangeSpec} {conds : List PathCond} {apart fresh handsOn again : Bool} {X : World → Array Value → Prop}
    (hX : ∀ (w w' : World) (args : Array Value), w.heap = w'.heap → X w args → X w' args)
    (own : ownKnob C.prog.godebug = none) (started : os.Started) (noInit : C.prog.inits.idxOf? f = none) (hfn : C.prog.funcs[f]? = some fn)
    (witness : ∃ (w : World) (tape : Tape) (i : Input), w.os = os ∧ (w.forCall tape i).Shaped C.prog ∧ i.vars = [] ∧ Input.okWide C.prog (w.forCall tape i) .any w.heap.size f i ∧
      ((s.pre enc C.prog fn conds apart (w.forCall tape i).memory i.args ∧ X (w.forCall tape i).memory i.args) ∧ sizedMet enc C.prog fn (OpenSpec.ofChange s) apart (w.forCall tape i).memory i.args) ∧ a.holds C.prog (lone (Frame.enter C.prog f i.args .normal) [] (w.forCall tape i)))
    (contract : ∀ (W : World) (base : Nat) (args : Array Value) (ds gs : List (DataW H)) (before : List MemPlace),
      (∀ (j : Nat) t v, fn.params[j]? = some t → args[j]? = some v → Value.okWide C.prog W .any base t v) →
      DataW.Whole enc C.prog fn.params.toList s.vars apart W args.toList ds gs before →
      X W args → W.ShapedOpen C.prog →
      Calls C.prog f args W fun e W' => ∃ v, e = .returned v ∧ s.post enc C.prog fn apart fresh handsOn again W args v W') :
    ReturnsInHanded a C os f .any (fun w args => (s.pre enc C.prog fn conds apart w args ∧ X w args) ∧ sizedMet enc C.prog fn (OpenSpec.ofChange s) apart w args) (s.post enc C.prog fn apart fresh handsOn again) := by
  refine returnsInHanded_of_calls own started noInit witness ?_
  intro w tape i _ hsh _ hok hpre _
  obtain ⟨_, _, _, fn', hfn', _, _, _, _, hval⟩ := hok
  have e : fn' = fn := Option.some.inj (hfn'.symm.trans hfn)
  subst e
  obtain ⟨⟨⟨ds, gs, before, hw, _⟩, hx⟩, _⟩ := hpre
  have hw' := DataW.Whole.of_heap (w' := w.forCall tape i) (by rfl) hw
  refine (contract (w.forCall tape i) w.heap.size i.args ds gs before hval hw' (hX _ _ _ (by rfl) hx) hsh).mono fun e W' ⟨v, he, hp⟩ => ?_
  subst he
  exact ChangeSpec.post_blind hp
theorem glob_kinds : Tryz.prog.globalNamed "umpire/op.kinds" = some 0 := by kernel_rfl
/-- A row of the table, out of what it reads as. -/
def rowCells (i : Nat) : List Value := [.int .u8 (opM i), .string (bs (opNm i)), .bool (opK i), .bool (opA i), .bool (opB i)]
set_option maxRecDepth 100000 in
theorem trod_row {H : Type} {enc : TypeId × Value → H} {w : World} {base : Nat} {sp : Nat → Bool} {held : Bool} {n : Nat} {c : List Value} {y : DataW H × List MemPlace} {m : Int} {l : List UInt8} {a b d : Bool}
    (h : DataW.trod enc Tryz.prog w base sp held n 150 c = some y) (hy : y.1 = .agg [.lit (.int .u8 m), .lit (.string l), .lit (.bool a), .lit (.bool b), .lit (.bool d)]) : c = [.int .u8 m, .string (bs l), .bool a, .bool b, .bool d] := by
  obtain ⟨xs, k, rfl, rfl, hl, hxl, hat⟩ := DataW.trod_struct Tryz.underlying150 h
  have hc5 : Tryz.prog.cellsOf 150 = 5 := by kernel_rfl
  have hc1 : Tryz.prog.cellsOf 5 = 1 := by kernel_rfl
  have hc2 : Tryz.prog.cellsOf 9 = 1 := by kernel_rfl
  have hc3 : Tryz.prog.cellsOf 4 = 1 := by kernel_rfl
  rw [hc5] at hl
  match c, hl with
  | [c0, c1, c2, c3, c4], _ =>
    match xs, hxl with
    | [x0, x1, x2, x3, x4], _ =>
      have h0 : DataW.trod enc Tryz.prog w base sp held k 5 [c0] = some x0 := by simpa [hc1, hc2, hc3] using hat 0 _ rfl
      have h1 : DataW.trod enc Tryz.prog w base sp held k 9 [c1] = some x1 := by simpa [hc1, hc2, hc3] using hat 1 _ rfl
      have h2 : DataW.trod enc Tryz.prog w base sp held k 4 [c2] = some x2 := by simpa [hc1, hc2, hc3] using hat 2 _ rfl
      have h3 : DataW.trod enc Tryz.prog w base sp held k 4 [c3] = some x3 := by simpa [hc1, hc2, hc3] using hat 3 _ rfl
      have h4 : DataW.trod enc Tryz.prog w base sp held k 4 [c4] = some x4 := by simpa [hc1, hc2, hc3] using hat 4 _ rfl
      simp only [List.map_cons, List.map_nil, DataW.agg.injEq, List.cons.injEq, and_true] at hy
      obtain ⟨y0, y1, y2, y3, y4⟩ := hy
      obtain ⟨_, e0, rfl, _⟩ := DataW.trod_int Tryz.underlying5 h0
      obtain ⟨s, e1, rfl, _⟩ := DataW.trod_string Tryz.underlying9 h1
      obtain ⟨_, e2, rfl⟩ := DataW.trod_bool Tryz.underlying4 h2
      obtain ⟨_, e3, rfl⟩ := DataW.trod_bool Tryz.underlying4 h3
      obtain ⟨_, e4, rfl⟩ := DataW.trod_bool Tryz.underlying4 h4
      simp only [DataW.lit.injEq, Lit.int.injEq, Lit.string.injEq, Lit.bool.injEq, true_and] at y0 y1 y2 y3 y4
      subst y0 y2 y3 y4
      have hs : s = bs l := by rw [← y1, bs_of]
      simp only [List.cons.injEq, and_true] at e0 e1 e2 e3 e4
      rw [e0, e1, e2, e3, e4, hs]
theorem chunks_eq {l m : List Value} (hl : l.length = 60) (hm : m.length = 60) (h : ∀ i, i < 12 → (l.drop (i * 5)).take 5 = (m.drop (i * 5)).take 5) : l = m := by
  apply List.ext_getElem?
  intro k
  by_cases hk : k < 60
  · have := congrArg (fun x : List Value => x[k % 5]?) (h (k / 5) (by omega))
    simp only [List.getElem?_take, List.getElem?_drop] at this
    rw [if_pos (by omega), if_pos (by omega)] at this
    have e : k / 5 * 5 + k % 5 = k := by omega
    rwa [e] at this
  · rw [List.getElem?_eq_none (by omega), List.getElem?_eq_none (by omega)]
theorem kind_rows (i : Nat) (hi : i < 12) : (kindCells.toList.drop (i * 5)).take 5 = rowCells i := by
  rcases (by omega : i = 0 ∨ i = 1 ∨ i = 2 ∨ i = 3 ∨ i = 4 ∨ i = 5 ∨ i = 6 ∨ i = 7 ∨ i = 8 ∨ i = 9 ∨ i = 10 ∨ i = 11) with rfl | rfl | rfl | rfl | rfl | rfl | rfl | rfl | rfl | rfl | rfl | rfl <;> rfl
def kindDatum (H : Type) (i : Nat) : DataW H := .agg [.lit (.int .u8 (opM i)), .lit (.string (opNm i)), .lit (.bool (opK i)), .lit (.bool (opA i)), .lit (.bool (opB i))]
set_option maxRecDepth 100000 in
theorem cells_of_kinds {H : Type} {enc : TypeId × Value → H} {w : World} {base : Nat} {sp : Nat → Bool} {held : Bool} {fuel : Nat} {cs : List Value} {p : List MemPlace}
    (h : DataW.trod enc Tryz.prog w base sp held fuel 151 cs = some (Rows.laid_umpire_op_kinds, p)) : cs = kindCells.toList := by
  obtain ⟨xs, k, rfl, hx, hl, hxl, hat⟩ := DataW.trod_array Tryz.underlying151 h
  have hc60 : Tryz.prog.cellsOf 151 = 60 := by kernel_rfl
  have hc5 : Tryz.prog.cellsOf 150 = 5 := by kernel_rfl
  rw [hc60] at hl
  have hd : xs.map (·.1) = (List.range 12).map (kindDatum H) := by
    have := (congrArg Prod.fst hx).symm
    simp only at this
    have e : (Rows.laid_umpire_op_kinds : DataW H) = .agg ((List.range 12).map (kindDatum H)) := rfl
    rw [e] at this
    simpa using this
  refine chunks_eq hl rfl fun i hi => ?_
  have hi2 := hat i hi
  rw [hc5] at hi2
  have hxi : i < xs.length := by omega
  rw [List.getElem?_eq_getElem hxi] at hi2
  have hd2 : (xs[i]).1 = kindDatum H i := by
    have := congrArg (·[i]?) hd
    simpa [List.getElem?_eq_getElem hxi, hi] using this
  rw [kind_rows i hi]
  exact trod_row hi2 hd2
theorem cells_op : Tryz.prog.cellsOf 47 = 5 := by kernel_rfl
theorem u8_of4 {a : Int} (h : (Lit.int .u8 a).wf = true) : 0 ≤ a ∧ a < 256 := by
  have h2 : 0 ≤ a ∧ a ≤ 255 := by simpa [Lit.wf, IntKind.min, IntKind.max, IntKind.signed, IntKind.bits] using h
  omega
theorem u16_of4 {a : Int} (h : (Lit.int .u16 a).wf = true) : 0 ≤ a ∧ a < 65536 := by
  have h2 : 0 ≤ a ∧ a ≤ 65535 := by simpa [Lit.wf, IntKind.min, IntKind.max, IntKind.signed, IntKind.bits] using h
  omega
end Go.Proofs.YtbnhcggjcdipeaaGreatDoor
