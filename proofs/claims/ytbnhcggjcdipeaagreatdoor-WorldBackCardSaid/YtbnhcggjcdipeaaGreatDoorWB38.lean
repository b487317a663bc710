/-
  What is walked without a fence, inside one: operations, lists of them, regions that draw their order.
-/
import Derived.RangeFuncNested
import Derived.RangeFuncBound
import Derived.RangeFuncCalls
import Derived.RangeFuncLeaves
import Derived.RangeFuncBox
import Derived.RangeFuncFrom
import Derived.Shelf.Abstract
import Derived.Shelf.RegionOpen
import Derived.OwnWalkIn
import Derived.TacticsInMore
import Derived.LoopNIn
import Derived.LoopIn
import Derived.RegionIn
import Derived.Deep.RegionHeld3
import Derived.Test.YtbnhcggjcdipeaaGreatDoorWB37
set_option linter.unusedSimpArgs false
set_option linter.unusedVariables false
namespace Go.Proofs.YtbnhcggjcdipeaaGreatDoor
open Go.RowKit
section
variable {n : Nat} {o : Oper} {ops : Array Oper} {md : Region.Mode} {a : Act} {w : World} {K : Act → World → Prop} {Q : Exit → Act → World → Prop} {l : Nat} {id : Nat}
theorem rowsIn_wide {row : String} {args : Array Value} {R : Value → World → Prop} (h : Rows Tryz.prog row args w R) : RowsIn Fence.wide n Tryz.prog row args w R := fun c cs _ =>
  let ⟨v, w', r, s⟩ := h c cs; ⟨v, w', r, stepsIn_wide.2 s⟩
theorem upon_wide {r : Result Next} (h : o.upon Tryz.prog a K Q r) : o.uponIn Fence.wide n Tryz.prog a K Q r := by
  cases r with
  | ok x w' =>
    cases x with
    | value v => exact h
    | skip => exact h
    | defer d => exact h
    | enter f args => exact ⟨fun hd => (by cases hd), callsIn_wide.2 (Calls.mono h fun e w'' he => by cases e <;> exact he)⟩
    | row row args => exact ⟨fun hd => (by cases hd), rowsIn_wide h⟩
    | _ => exact h.elim
  | halt x w' => cases x <;> first | exact h | exact h.elim
theorem wp_round (hd : ∀ c, o.op ≠ .defer c) (h : o.wp Tryz.prog a w K Q) : o.wpIn (Fence.wide.inRound l) n Tryz.prog a w K Q :=
  ⟨fun _ _ => trivial, by rw [Oper.semAt_plain _ _ _ hd]; exact upon_wide (n := n) h⟩
theorem wp_wide (hd : ∀ c, o.op ≠ .defer c) (h : o.wp Tryz.prog a w K Q) : o.wpIn Fence.wide n Tryz.prog a w K Q :=
  ⟨fun _ _ => trivial, by rw [Oper.semAt_plain _ _ _ hd]; exact upon_wide (n := n) h⟩
def noDefer (o : Oper) : Bool := match o.op with
  | .defer _ => false
  | _ => true
theorem noDefer_of (h : noDefer o = true) : ∀ c, o.op ≠ .defer c := fun c e => by
  unfold noDefer at h
  rw [e] at h
  cases h
theorem wpList_round (hL : ¬ LetsOut Q) : ∀ (L : List Oper) (a : Act) (w : World), L.all noDefer = true → wpList Tryz.prog ops Q L a w → wpListIn (Fence.wide.inRound l) n Tryz.prog ops Q L a w
  | [], _, _, _, h => h
  | o :: L, a, w, hd, h => by
    rw [List.all_cons, Bool.and_eq_true] at hd
    unfold wpListIn
    unfold wpList at h
    split
    · rename_i hw
      rw [if_pos hw] at h
      exact Oper.wpIn_mono (fun a w => wpList_round hL L a w hd.2) (wp_round (noDefer_of hd.1) (h.resolve_right fun h => hL h.2))
    · rename_i hw
      rw [if_neg hw] at h
      exact ⟨fun _ _ => trivial, wpList_round hL L _ _ hd.2 h⟩
/-- A plain region of a round, walked without the fence. -/
theorem wpIn_region_plain {L : List Oper} (hL : ¬ LetsOut Q) (hd : L.all noDefer = true) (h : wpList Tryz.prog L.toArray Q L a w) : (Code.region id L.toArray false).wpIn (Fence.wide.inRound l) n Tryz.prog Q a w :=
  wpIn_region_lit (wpList_round hL L a w hd h)
theorem wpAny_round (hL : ¬ LetsOut Q) (hd : ∀ (i : Nat) (o : Oper), ops[i]? = some o → noDefer o = true) : ∀ (fuel : Nat) (listed : Array Bool) (a : Act) (w : World), wpAny Tryz.prog md ops Q fuel listed a w → wpAnyIn (Fence.wide.inRound l) n Tryz.prog md ops Q fuel listed a w
  | 0, _, _, _, h => h
  | fuel + 1, listed, a, w, h => by
    refine ⟨h.1, fun i hi => ?_⟩
    have h1 := h.2 i hi
    unfold wpOp at h1
    unfold wpOpIn
    cases ho : ops[i]? with
    | none => rw [ho] at h1; exact wpAny_round hL hd fuel _ _ _ h1
    | some o =>
      rw [ho] at h1
      simp only at h1 ⊢
      split
      · rename_i hw
        rw [if_pos hw] at h1
        rcases h1 with h1 | h1
        · exact Oper.wpIn_mono (fun a w => wpAny_round hL hd fuel _ a w) (wp_round (noDefer_of (hd i o ho)) h1)
        · exact absurd h1.2 hL
      · rename_i hw
        rw [if_neg hw] at h1
        exact ⟨fun _ _ => trivial, wpAny_round hL hd fuel _ _ _ h1⟩
/-- A region of a round that draws its order, walked without the fence. -/
theorem wpIn_region_drawn {S : World → Prop} {L : List Oper} (hm : Tryz.prog.follows .mixedOrders = true) (hL : ¬ LetsOut Q) (hd : L.all noDefer = true)
    (h : wpAnyH Tryz.prog .any L.toArray Q S L.toArray.size (Array.replicate L.toArray.size false) a { w with drawn := w.drawn + 1 }) : (Code.region id L.toArray true).wpIn (Fence.wide.inRound l) n Tryz.prog Q a w :=
  wpIn_region_any hm (wpAny_round hL (fun i o ho => by
    rw [List.getElem?_toArray] at ho
    exact List.all_eq_true.1 hd o (List.mem_of_getElem? ho)) _ _ _ _ (wpAny_of_held _ _ _ _ h))
end
end Go.Proofs.YtbnhcggjcdipeaaGreatDoor
/-
  The program's World: Model, New, At.
-/
namespace Go.Proofs.YtbnhcggjcdipeaaGreatDoor
open Go.RowKit
set_option maxRecDepth 100000
variable {G : World → Prop}
theorem one_range {w : World} {B : Nat} {A : List Value} {t : TypeId} (h : w.heap[B]? = some (.cells A.toArray t (0, 0))) {o : Nat} {v : Value} (hv : A[o]? = some v) : w.rangeAt B o [v] := fun j u hu => by
  obtain ⟨hj, rfl⟩ := List.getElem?_eq_some_iff.1 hu
  obtain rfl : j = 0 := by simpa using hj
  have := block_range h o v hv
  rw [Nat.zero_add] at this
  exact this
theorem v_ok {v : Value} (h : v.oneCell' = true) : skM.Ok [v] := ⟨rfl, fun u hu => by simp at hu; subst hu; exact h⟩
section
variable {ops : Array Oper} {rest : List Oper} {a : Act} {w : World} {Q : Exit → Act → World → Prop}
theorem wpList_loadW {dst : Option Tmp} {ty : TypeId} {pos : String} {after : Array Edge} {gd : Option (Nat × Bool)} {x : Operand} {g : Nat} {A : List Value} (hA : skW.Ok A)
    (hw : Region.wanted { dst := dst, op := .load 33 x, type := ty, pos := pos, after := after, guard := gd } (yielded ops a.tmps) = true)
    (hx : a.eval x = .pointer (some ⟨g, 0, none⟩)) (hr : w.rangeAt g 0 A) (h : wpList Tryz.prog ops Q rest (a.put dst (.agg A.toArray)) w) :
    wpList Tryz.prog ops Q ({ dst := dst, op := .load 33 x, type := ty, pos := pos, after := after, guard := gd } :: rest) a w := skW.wpList_load hA hw hx hr h
theorem wpList_putW {dst : Option Tmp} {ty : TypeId} {pos : String} {after : Array Edge} {x y : Operand} {g : Nat} {old A : List Value} (hA : skW.Ok A) (hO : skW.Ok old) {t : TypeId}
    (hx : a.eval x = .pointer (some ⟨g, 0, none⟩)) (hy : a.eval y = .agg A.toArray) (hg : w.heap[g]? = some (.cells old.toArray t (0, 0)))
    (h : ∀ W, W.heap[g]? = some (.cells A.toArray t (0, 0)) → Keeps [g] w W → wpList Tryz.prog ops Q rest (a.put dst undef) W) :
    wpList Tryz.prog ops Q ({ dst := dst, op := .store 33 x y, type := ty, pos := pos, after := after, guard := none } :: rest) a w := skW.wpList_put hA hO hx hy hg h
theorem infoM1 : (Tryz.prog.info? 30).map (·.size) = some 1 := by kernel_rfl
/-- One object of a world is stored. -/
theorem run_putO {g j : Nat} {v : Value} {A : List Value} {t : TypeId} (hg : w.heap[g]? = some (.cells A.toArray t (0, 0))) (hj : j < A.length) (h1 : v.oneCell' = true) :
    (storeVar 30 ⟨g, j, none⟩ (.agg #[v])).run Tryz.prog w = .ok () (w.setCell ⟨g, j, none⟩ v) := by
  have hcell : w.cell? ⟨g, j, none⟩ = some A[j] := by simp [World.cell?, hg, hj]
  have hfr : w.frozen? ⟨g, j, none⟩ = false := by simp [World.frozen?, hg]
  have := run_storeCells_cells (P := Tryz.prog) g j [v] 0 w (fun k hk => by
    obtain rfl : k = 0 := by simpa using hk
    show (w.cell? ⟨g, j, none⟩).isSome = true
    rw [hcell]; rfl) (fun k hk => by
    obtain rfl : k = 0 := by simpa using hk
    exact hfr) (fun u hu => by simp at hu; subst hu; exact h1)
  have hi := infoM1
  cases hq : Tryz.prog.info? 30 with
  | none => simp [hq] at hi
  | some i =>
    have hs : i.size = 1 := by simpa [hq] using hi
    simp only [Nat.add_zero] at this
    simp [storeVar, sizeOf, typeInfo, hq, Value.cells, hs, this]
    rfl
theorem wpList_putO {dst : Option Tmp} {t2 : TypeId} {pos : String} {after : Array Edge} {x y : Operand} {g j : Nat} {v : Value} {A : List Value} {t : TypeId}
    (hx : a.eval x = .pointer (some ⟨g, j, none⟩)) (hy : a.eval y = .agg #[v]) (hg : w.heap[g]? = some (.cells A.toArray t (0, 0))) (hj : j < A.length) (h1 : v.oneCell' = true)
    (h : ∀ W, W.heap[g]? = some (.cells (A.set j v).toArray t (0, 0)) → Keeps [g] w W → wpList Tryz.prog ops Q rest (a.put dst undef) W) :
    wpList Tryz.prog ops Q ({ dst := dst, op := .store 30 x y, type := t2, pos := pos, after := after, guard := none } :: rest) a w :=
  wpList_plain rfl fun _ hK => by
    unfold Oper.wp execOp
    simp only [hx, hy, Instr.storeAt, Instr.sureAddr, Sem.run_bind, Sem.run_pure, Result.andThen_ok, run_putO hg hj h1]
    refine hK _ _ (h _ ?_ ((Keeps.refl [g] w).setCell _ _ (.inl (by simp))))
    have := heap_setCell_same w g j _ t v hg
    simpa using this
end
set_option maxHeartbeats 8000000
theorem wdModel_any (R : MdProg G) (w : World) {st : Value} {O : Option Wd} (hG : G w) (h : WoAt R w st O) : Calls Tryz.prog 12 #[st] w fun e w' => e = .returned (.tuple #[.int .u8 (oWM O), .bool O.isSome]) ∧ Keeps [] w w' := by
  obtain ⟨A, rfl, hA⟩ := h.cells
  obtain ⟨v, hv, h1, hat⟩ := h.one (o := 0) (by decide)
  have hb := heap_alloc_new w (.cells A.toArray 33)
  have hk : Keeps [] w (w.alloc (.cells A.toArray 33)) := (Keeps.refl _ _).alloc _
  have HR := Lib.hid (one_range hb hv)
  have e : (oModel (O.map (·.at 0)), (O.map (·.at 0)).isSome) = (oWM O, O.isSome) := by
    cases O with
    | none => rfl
    | some W => exact congrArg (·, true) (Wd.at_in h.in_ (by decide)).1
  simp only [Prod.mk.injEq] at e
  have HM := Lib.hid (R.model _ (.agg #[v]) _ (R.keepG hG hk) (R.new_ hat hk))
  rw [e.1, e.2] at HM
  have HV := Lib.hid (v_ok h1); have HK := Lib.hid hk
  clear e hat hv h1 h hG hA hb hk
  go_enter Tryz.func12, Tryz.ntmps12
  go_wp2_with ((with_reducible refine wpList_loadM (g := w.heap.size) (off := 0) (A := [v]) HV.out ?_ ?_ HR.out ?_); exact rfl; exact rfl)
  refine HM.out.mono ?_; rintro e w1 ⟨rfl, hk1⟩
  have HK1 := Lib.hid (HK.out.trans hk1 (FSub.refl _ _))
  clear hk1
  go_wp2_with fail
  go_ret2
  exact ⟨rfl, HK1.out⟩
def rowN (k : Nat) (v : Value) : List Value := List.replicate k v ++ List.replicate (8 - k) .nilIface
theorem rowN_next {k : Nat} (hk : k < 8) (v : Value) : (rowN k v).set k v = rowN (k + 1) v := by
  unfold rowN
  rw [List.set_append_right _ _ (by simp), List.length_replicate, Nat.sub_self, show 8 - k = (8 - (k + 1)) + 1 by omega, List.replicate_succ, List.set_cons_zero, List.replicate_succ', List.append_assoc]
  rfl
theorem rowN_len {k : Nat} (hk : k ≤ 8) (v : Value) : (rowN k v).length = 8 := by
  unfold rowN
  rw [List.length_append, List.length_replicate, List.length_replicate]; omega
theorem rowN_all {v x : Value} {o : Nat} (h : (rowN 8 v)[o]? = some x) : x = v := by
  have : x ∈ rowN 8 v := List.mem_of_getElem? h
  simpa [rowN] using this
theorem rowN_ok {v : Value} (h : v.oneCell' = true) : skW.Ok (rowN 8 v) := ⟨rowN_len (Nat.le_refl _) v, fun x hx => by
  have : x = v := by simpa [rowN] using hx
  rw [this]; exact h⟩
theorem rowN_at {R : MdProg G} {w : World} {v : Value} {m : Int} (h0 : 0 ≤ m) (h3 : m ≤ 3) (h : R.At w (.agg #[v]) (some (mdInit m))) (h1 : v.oneCell' = true) : WoAt R w (.agg (rowN 8 v).toArray) (some (wd0 m)) :=
  ⟨_, rfl, rowN_ok h1, fun W hW => by obtain rfl := Option.some.inj hW; exact wd0_in h0 h3, fun o x hx => by
    rw [rowN_all hx]
    show R.At w _ (some ((wd0 m).at o))
    rw [wd0_at]
    exact h⟩
theorem rowN_foot {R : MdProg G} {v : Value} {q : Nat} (h : q ∈ wFoot R (.agg (rowN 8 v).toArray)) : q ∈ R.foot (.agg #[v]) := by
  obtain ⟨o, x, hx, hq⟩ := wFoot_of h
  rw [rowN_all hx] at hq
  exact hq
theorem wdNew_any (R : MdProg G) (w : World) {m : Int} (hG : G w) (hm : 0 ≤ m ∧ m < 256) : Calls Tryz.prog 10 #[.int .u8 m] w fun e w' => ∃ st, e = .returned (.tuple #[st, .int .i64 (if m ≤ 3 then 0 else 10)]) ∧ WoAt R w' st (oWNew m) ∧ Keeps [] w w' ∧ ∀ q ∈ wFoot R st, w.heap.size ≤ q := by
  have HZ := Lib.hid (show (w.alloc (.cells wdZA 33)).heap[w.heap.size]? = some (.cells wdZ.toArray 33 (0, 0)) from heap_alloc_new w _)
  have HKZ := Lib.hid (show Keeps [] w (w.alloc (.cells wdZA 33)) from (Keeps.refl _ _).alloc _)
  have HN := Lib.hid (R.new _ m (R.keepG hG HKZ.out) hm)
  have HSZ := Lib.hid (show (w.alloc (.cells wdZA 33)).heap.size = w.heap.size + 1 from Array.size_push _)
  obtain ⟨B, hB⟩ : ∃ B, B = w.heap.size := ⟨_, rfl⟩
  rw [← hB] at HZ HSZ
  have HBE := Lib.hid hB
  clear hB hG
  by_cases h3 : m ≤ 3
  · have e : oWNew m = some (wd0 m) := if_pos h3
    have e2 : oNew m = some (mdInit m) := if_pos h3
    rw [if_pos h3] at HN ⊢
    rw [e]; rw [e2] at HN
    clear e e2
    go_enter Tryz.func10, Tryz.ntmps10
    go_wp2_with fail
    refine HN.out.mono ?_; rintro e w1 ⟨st, rfl, hat, hk1, hf⟩
    rw [← HBE.out]
    obtain ⟨A, rfl, hA⟩ := R.cells hat
    obtain ⟨v, rfl⟩ : ∃ v, A = [v] := List.length_eq_one_iff.1 hA.1
    have h1 : v.oneCell' = true := hA.2 v (by simp)
    have HV := Lib.hid h1; have HVO := Lib.hid (v_ok h1)
    have HZ1 := Lib.hid (hk1.heap HZ.out (by simp)); have HK1 := Lib.hid (HKZ.out.trans hk1 (FSub.refl _ _)); have HAT := Lib.hid hat
    have HF := Lib.hid (show ∀ q ∈ R.foot (.agg #[v]), B < q ∧ q < w1.heap.size from fun q hq => ⟨by have := hf q hq; have := HSZ.out; omega, R.old hat q hq⟩)
    have HC := Lib.hid (show (w1.alloc (.cells mdZA 30)).heap[w1.heap.size]? = some (.cells mdZ.toArray 30 (0, 0)) from heap_alloc_new w1 _)
    have HKC := Lib.hid (show Keeps [] w1 (w1.alloc (.cells mdZA 30)) from (Keeps.refl _ _).alloc _)
    clear hA hat hk1 hf HN HZ HKZ h1
    have HBL := Lib.hid (show B < w1.heap.size from lt_of_block HZ1.out)
    go_wp2_with ((with_reducible refine wpList_putM (g := w1.heap.size) (old := mdZ) (A := [v]) HVO.out mdZ_ok ?_ ?_ HC.out ?_); exact rfl; exact rfl)
    intro w2 hW2 hk2
    have HS2 := Lib.hid hW2
    have hk12 := HKC.out.trans' hk2 (Nat.le_refl _)
    have HZ2 := Lib.hid (hk12.heap HZ1.out (by simp)); have HK2 := Lib.hid (HK1.out.trans hk12 (FSub.refl _ _)); have HAT2 := Lib.hid (R.new_ HAT.out hk12)
    have HF2 := Lib.hid (show ∀ q ∈ R.foot (.agg #[v]), B < q ∧ q < w1.heap.size from HF.out)
    have HSL := Lib.hid (show w1.heap.size < w2.heap.size from lt_of_block hW2)
    clear hW2 hk2 hk12 HC HKC HZ1 HK1 HAT HF
    obtain ⟨C, hC⟩ : ∃ C, C = w1.heap.size := ⟨_, rfl⟩
    rw [← hC] at HS2 HF2 HBL HSL ⊢
    clear hC w1
    go_wp2_with fail
    have HKD := Lib.hid (show Keeps [] w2 (w2.alloc (.cells wdZA 33)) from (Keeps.refl _ _).alloc _)
    have HD := Lib.hid (show (w2.alloc (.cells wdZA 33)).heap[w2.heap.size]? = some (.cells wdZ.toArray 33 (0, 0)) from heap_alloc_new w2 _)
    obtain ⟨D, hD⟩ : ∃ D, D = w2.heap.size := ⟨_, rfl⟩
    have HDL := Lib.hid (show C < D from by have := HSL.out; omega)
    have HDK := Lib.hid (show w.heap.size ≤ D from by have := HBE.out; have := HBL.out; have := HDL.out; omega)
    rw [← hD] at HD ⊢
    have HK3 := Lib.hid (HK2.out.trans HKD.out (FSub.refl _ _)); have HZ3 := Lib.hid (HKD.out.heap HZ2.out (by simp)); have HS3 := Lib.hid (HKD.out.heap HS2.out (by simp)); have HAT3 := Lib.hid (R.new_ HAT2.out HKD.out)
    clear hD HZ2 HS2 HAT2 HK2 HKD HSL
    generalize hW3 : w2.alloc (.cells wdZA 33) = w3 at *
    clear hW3
    have HM := Lib.hid hm
    have HDZ := Lib.hid (lt_of_block HD.out)
    go_loopw [7, 16] (fun j i wr => ∃ k : Nat, i = .int .i64 k ∧ k ≤ 8 ∧ wr.heap[D]? = some (.cells (rowN k v).toArray 33 (0, 0)) ∧ wr.heap[B]? = some (.cells wdZ.toArray 33 (0, 0)) ∧ wr.heap[C]? = some (.cells [v].toArray 30 (0, 0)) ∧ Keeps [D] w3 wr) (fun _ i _ => 8 - (intOf i).toNat)
    case atStart => exact ⟨0, rfl, by omega, HD.out, HZ3.out, HS3.out, Keeps.refl _ _⟩
    case round =>
      obtain ⟨k, rfl, hk, hd, hb, hc, hkw⟩ := hrel
      have HKW := Lib.hid hkw; have HBR := Lib.hid hb; have HCR := Lib.hid hc; have HDR := Lib.hid hd
      clear hkw hb hc hd
      by_cases hlt : k < 8
      · have hl := Lib.hid (rowN_len hk v)
        have HRC := Lib.hid (block_range HCR.out)
        go_wp2_with (first
          | ((with_reducible refine wpList_loadM (g := C) (off := 0) (A := [v]) HVO.out ?_ ?_ HRC.out ?_); exact rfl; exact rfl)
          | ((with_reducible refine wpList_putO (g := D) (j := k) (v := v) (A := rowN k v) ?_ ?_ HDR.out (by rw [hl.out]; exact hlt) HV.out ?_); exact rfl; exact rfl))
        intro w4 hW4 hk4
        have HD4 := Lib.hid (show w4.heap[D]? = some (.cells (rowN (k + 1) v).toArray 33 (0, 0)) from by rw [← rowN_next hlt]; exact hW4)
        have HB4 := Lib.hid (hk4.heap HBR.out (by have := HBL.out; have := HDL.out; simp; omega))
        have HC4 := Lib.hid (hk4.heap HCR.out (by have := HDL.out; simp; omega))
        have HK4 := Lib.hid (HKW.out.trans hk4 (FSub.refl _ _))
        clear hW4 hk4
        go_wp2_with fail
        go_roundw
        case rel => exact ⟨k + 1, by go_num, by omega, HD4.out, HB4.out, HC4.out, HK4.out⟩
        case measure => simp [intOf]; omega
      · obtain rfl : k = 8 := by omega
        have HRD := Lib.hid (block_range HDR.out); have HRO := Lib.hid (rowN_ok HV.out)
        go_wp2_with (first
          | ((with_reducible refine wpList_loadW (g := D) HRO.out ?_ ?_ HRD.out ?_); exact rfl; exact rfl)
          | ((with_reducible refine wpList_putW (g := B) (old := wdZ) (A := rowN 8 v) HRO.out wdZ_ok ?_ ?_ HBR.out ?_); exact rfl; exact rfl))
        intro w4 hW4 hk4
        have HW4 := Lib.hid hW4; have HK4 := Lib.hid hk4
        clear hW4 hk4
        go_wp2_with fail
        try simp only [Exit.inBlock, Exit.then]
        have hfin : Keeps [] w w4 := (HK3.out.trans HKW.out (fun q hq => .inr (by simp at hq; have := HDK.out; omega))).trans HK4.out (fun q hq => .inr (by simp at hq; have := HBE.out; omega))
        have hat4 : R.At w4 (.agg #[v]) (some (mdInit m)) := R.keep (R.keep HAT3.out HKW.out (fun q hq => by have := HF2.out q hq; have := HDL.out; simp; omega)) HK4.out (fun q hq => by have := HF2.out q hq; simp; omega)
        exact bodyPost_ret (results_sk1 skW rfl _ _ B HRO.out rfl HW4.out) rfl ⟨_, rfl, rowN_at HM.out.1 h3 hat4 HV.out, hfin, fun q hq => by have := HF2.out q (rowN_foot hq); have := HBE.out; omega⟩
  · have e : oWNew m = none := if_neg h3
    have e2 : oNew m = none := if_neg h3
    rw [if_neg h3] at HN ⊢
    rw [e]; rw [e2] at HN
    clear e e2
    go_enter Tryz.func10, Tryz.ntmps10
    go_wp2_with fail
    refine HN.out.mono ?_; rintro e w1 ⟨st, rfl, hat, hk1, hf⟩
    rw [← HBE.out]
    obtain ⟨A, rfl, hA⟩ := R.cells hat
    have HVO := Lib.hid hA
    have HZ1 := Lib.hid (hk1.heap HZ.out (by simp)); have HK1 := Lib.hid (HKZ.out.trans hk1 (FSub.refl _ _))
    have HC := Lib.hid (show (w1.alloc (.cells mdZA 30)).heap[w1.heap.size]? = some (.cells mdZ.toArray 30 (0, 0)) from heap_alloc_new w1 _)
    have HKC := Lib.hid (show Keeps [] w1 (w1.alloc (.cells mdZA 30)) from (Keeps.refl _ _).alloc _)
    clear hA hat hk1 hf HN HZ HKZ
    go_wp2_with ((with_reducible refine wpList_putM (g := w1.heap.size) (old := mdZ) (A := A) HVO.out mdZ_ok ?_ ?_ HC.out ?_); exact rfl; exact rfl)
    intro w2 hW2 hk2
    have hk12 := HKC.out.trans' hk2 (Nat.le_refl _)
    have HZ2 := Lib.hid (hk12.heap HZ1.out (by simp)); have HK2 := Lib.hid (HK1.out.trans hk12 (FSub.refl _ _))
    clear hW2 hk2 hk12 HC HKC HZ1 HK1
    generalize w1.heap.size = C at *
    go_wp2_with ((with_reducible refine wpList_putW (g := B) (old := wdZ) (A := wdZ) wdZ_ok wdZ_ok ?_ ?_ HZ2.out ?_); exact rfl; exact rfl)
    intro w4 hW4 hk4
    have HW4 := Lib.hid hW4; have HK4 := Lib.hid hk4
    clear hW4 hk4
    go_wp2_with fail
    try simp only [Exit.inBlock, Exit.then]
    exact bodyPost_ret (results_sk1 skW rfl _ _ B wdZ_ok rfl HW4.out) rfl ⟨_, rfl, WoAt.zero R _, HK2.out.trans HK4.out (fun q hq => .inr (by simp at hq; have := HBE.out; omega)), fun q hq => by
      obtain ⟨o, v, hv, hq⟩ := wFoot_of hq
      have h := R.old (R.zero { w with heap := #[] }) q (by
        have : v = .nilIface := by
          have := List.mem_of_getElem? hv
          simpa [wdZ] using this
        rw [this] at hq; exact hq)
      simp at h⟩
end Go.Proofs.YtbnhcggjcdipeaaGreatDoor
