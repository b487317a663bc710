/-
  What is walked without a fence, inside one: operations, lists of them, regions that draw their order.
-/
import Derived.Test.YtbnhcggjcdipeaaGreatDoorWA00
import Derived.RangeFuncNested
import Derived.RangeFuncBound
import Derived.RangeFuncCalls
import Derived.RangeFuncLeaves
import Derived.RangeFuncBox
import Derived.RangeFuncFrom
import Derived.Shelf.Abstract
import Derived.Shelf.RegionOpen
import Derived.OwnWalkIn
import Derived.TacticsInMore
import Derived.LoopNIn
import Derived.LoopIn
import Derived.RegionIn
import Derived.Deep.RegionHeld3
import Derived.Test.YtbnhcggjcdipeaaGreatDoorWA35
import Derived.Test.YtbnhcggjcdipeaaGreatDoorWA25
import Derived.Test.YtbnhcggjcdipeaaGreatDoorWA08
import Derived.Test.YtbnhcggjcdipeaaGreatDoorWA17
set_option linter.unusedSimpArgs false
set_option linter.unusedVariables false
namespace Go.Proofs.YtbnhcggjcdipeaaGreatDoor
open Go.RowKit
section
variable {n : Nat} {o : Oper} {ops : Array Oper} {md : Region.Mode} {a : Act} {w : World} {K : Act → World → Prop} {Q : Exit → Act → World → Prop} {l : Nat} {id : Nat}
theorem rowsIn_wide {row : String} {args : Array Value} {R : Value → World → Prop} (h : Rows Tryz.prog row args w R) : RowsIn Fence.wide n Tryz.prog row args w R := fun c cs _ =>
  let ⟨v, w', r, s⟩ := h c cs; ⟨v, w', r, stepsIn_wide.2 s⟩
theorem upon_wide {r : Result Next} (h : o.upon Tryz.prog a K Q r) : o.uponIn Fence.wide n Tryz.prog a K Q r := by
  cases r with
  | ok x w' =>
    cases x with
    | value v => exact h
    | skip => exact h
    | defer d => exact h
    | enter f args => exact ⟨fun hd => (by cases hd), callsIn_wide.2 (Calls.mono h fun e w'' he => by cases e <;> exact he)⟩
    | row row args => exact ⟨fun hd => (by cases hd), rowsIn_wide h⟩
    | _ => exact h.elim
  | halt x w' => cases x <;> first | exact h | exact h.elim
theorem wp_round (hd : ∀ c, o.op ≠ .defer c) (h : o.wp Tryz.prog a w K Q) : o.wpIn (Fence.wide.inRound l) n Tryz.prog a w K Q :=
  ⟨fun _ _ => trivial, by rw [Oper.semAt_plain _ _ _ hd]; exact upon_wide (n := n) h⟩
theorem wp_wide (hd : ∀ c, o.op ≠ .defer c) (h : o.wp Tryz.prog a w K Q) : o.wpIn Fence.wide n Tryz.prog a w K Q :=
  ⟨fun _ _ => trivial, by rw [Oper.semAt_plain _ _ _ hd]; exact upon_wide (n := n) h⟩
def noDefer (o : Oper) : Bool := match o.op with
  | .defer _ => false
  | _ => true
theorem noDefer_of (h : noDefer o = true) : ∀ c, o.op ≠ .defer c := fun c e => by
  unfold noDefer at h
  rw [e] at h
  cases h
theorem wpList_round (hL : ¬ LetsOut Q) : ∀ (L : List Oper) (a : Act) (w : World), L.all noDefer = true → wpList Tryz.prog ops Q L a w → wpListIn (Fence.wide.inRound l) n Tryz.prog ops Q L a w
  | [], _, _, _, h => h
  | o :: L, a, w, hd, h => by
    rw [List.all_cons, Bool.and_eq_true] at hd
    unfold wpListIn
    unfold wpList at h
    split
    · rename_i hw
      rw [if_pos hw] at h
      exact Oper.wpIn_mono (fun a w => wpList_round hL L a w hd.2) (wp_round (noDefer_of hd.1) (h.resolve_right fun h => hL h.2))
    · rename_i hw
      rw [if_neg hw] at h
      exact ⟨fun _ _ => trivial, wpList_round hL L _ _ hd.2 h⟩
/-- A plain region of a round, walked without the fence. -/
theorem wpIn_region_plain {L : List Oper} (hL : ¬ LetsOut Q) (hd : L.all noDefer = true) (h : wpList Tryz.prog L.toArray Q L a w) : (Code.region id L.toArray false).wpIn (Fence.wide.inRound l) n Tryz.prog Q a w :=
  wpIn_region_lit (wpList_round hL L a w hd h)
theorem wpAny_round (hL : ¬ LetsOut Q) (hd : ∀ (i : Nat) (o : Oper), ops[i]? = some o → noDefer o = true) : ∀ (fuel : Nat) (listed : Array Bool) (a : Act) (w : World), wpAny Tryz.prog md ops Q fuel listed a w → wpAnyIn (Fence.wide.inRound l) n Tryz.prog md ops Q fuel listed a w
  | 0, _, _, _, h => h
  | fuel + 1, listed, a, w, h => by
    refine ⟨h.1, fun i hi => ?_⟩
    have h1 := h.2 i hi
    unfold wpOp at h1
    unfold wpOpIn
    cases ho : ops[i]? with
    | none => rw [ho] at h1; exact wpAny_round hL hd fuel _ _ _ h1
    | some o =>
      rw [ho] at h1
      simp only at h1 ⊢
      split
      · rename_i hw
        rw [if_pos hw] at h1
        rcases h1 with h1 | h1
        · exact Oper.wpIn_mono (fun a w => wpAny_round hL hd fuel _ a w) (wp_round (noDefer_of (hd i o ho)) h1)
        · exact absurd h1.2 hL
      · rename_i hw
        rw [if_neg hw] at h1
        exact ⟨fun _ _ => trivial, wpAny_round hL hd fuel _ _ _ h1⟩
/-- A region of a round that draws its order, walked without the fence. -/
theorem wpIn_region_drawn {S : World → Prop} {L : List Oper} (hm : Tryz.prog.follows .mixedOrders = true) (hL : ¬ LetsOut Q) (hd : L.all noDefer = true)
    (h : wpAnyH Tryz.prog .any L.toArray Q S L.toArray.size (Array.replicate L.toArray.size false) a { w with drawn := w.drawn + 1 }) : (Code.region id L.toArray true).wpIn (Fence.wide.inRound l) n Tryz.prog Q a w :=
  wpIn_region_any hm (wpAny_round hL (fun i o ho => by
    rw [List.getElem?_toArray] at ho
    exact List.all_eq_true.1 hd o (List.mem_of_getElem? ho)) _ _ _ _ (wpAny_of_held _ _ _ _ h))
end
end Go.Proofs.YtbnhcggjcdipeaaGreatDoor
/-
  The program's World: Model, New, At.
-/
namespace Go.Proofs.YtbnhcggjcdipeaaGreatDoor
open Go.RowKit
set_option maxRecDepth 100000
variable {G : World → Prop}
theorem one_range {w : World} {B : Nat} {A : List Value} {t : TypeId} (h : w.heap[B]? = some (.cells A.toArray t (0, 0))) {o : Nat} {v : Value} (hv : A[o]? = some v) : w.rangeAt B o [v] := fun j u hu => by
  obtain ⟨hj, rfl⟩ := List.getElem?_eq_some_iff.1 hu
  obtain rfl : j = 0 := by simpa using hj
  have := block_range h o v hv
  rw [Nat.zero_add] at this
  exact this
theorem v_ok {v : Value} (h : v.oneCell' = true) : skM.Ok [v] := ⟨rfl, fun u hu => by simp at hu; subst hu; exact h⟩
section
variable {ops : Array Oper} {rest : List Oper} {a : Act} {w : World} {Q : Exit → Act → World → Prop}
theorem wpList_loadW {dst : Option Tmp} {ty : TypeId} {pos : String} {after : Array Edge} {gd : Option (Nat × Bool)} {x : Operand} {g : Nat} {A : List Value} (hA : skW.Ok A)
    (hw : Region.wanted { dst := dst, op := .load 33 x, type := ty, pos := pos, after := after, guard := gd } (yielded ops a.tmps) = true)
    (hx : a.eval x = .pointer (some ⟨g, 0, none⟩)) (hr : w.rangeAt g 0 A) (h : wpList Tryz.prog ops Q rest (a.put dst (.agg A.toArray)) w) :
    wpList Tryz.prog ops Q ({ dst := dst, op := .load 33 x, type := ty, pos := pos, after := after, guard := gd } :: rest) a w := skW.wpList_load hA hw hx hr h
theorem wpList_putW {dst : Option Tmp} {ty : TypeId} {pos : String} {after : Array Edge} {x y : Operand} {g : Nat} {old A : List Value} (hA : skW.Ok A) (hO : skW.Ok old) {t : TypeId}
    (hx : a.eval x = .pointer (some ⟨g, 0, none⟩)) (hy : a.eval y = .agg A.toArray) (hg : w.heap[g]? = some (.cells old.toArray t (0, 0)))
    (h : ∀ W, W.heap[g]? = some (.cells A.toArray t (0, 0)) → Keeps [g] w W → wpList Tryz.prog ops Q rest (a.put dst undef) W) :
    wpList Tryz.prog ops Q ({ dst := dst, op := .store 33 x y, type := ty, pos := pos, after := after, guard := none } :: rest) a w := skW.wpList_put hA hO hx hy hg h
theorem infoM1 : (Tryz.prog.info? 30).map (·.size) = some 1 := by kernel_rfl
/-- One object of a world is stored. -/
theorem run_putO {g j : Nat} {v : Value} {A : List Value} {t : TypeId} (hg : w.heap[g]? = some (.cells A.toArray t (0, 0))) (hj : j < A.length) (h1 : v.oneCell' = true) :
    (storeVar 30 ⟨g, j, none⟩ (.agg #[v])).run Tryz.prog w = .ok () (w.setCell ⟨g, j, none⟩ v) := by
  have hcell : w.cell? ⟨g, j, none⟩ = some A[j] := by simp [World.cell?, hg, hj]
  have hfr : w.frozen? ⟨g, j, none⟩ = false := by simp [World.frozen?, hg]
  have := run_storeCells_cells (P := Tryz.prog) g j [v] 0 w (fun k hk => by
    obtain rfl : k = 0 := by simpa using hk
    show (w.cell? ⟨g, j, none⟩).isSome = true
    rw [hcell]; rfl) (fun k hk => by
    obtain rfl : k = 0 := by simpa using hk
    exact hfr) (fun u hu => by simp at hu; subst hu; exact h1)
  have hi := infoM1
  cases hq : Tryz.prog.info? 30 with
  | none => simp [hq] at hi
  | some i =>
    have hs : i.size = 1 := by simpa [hq] using hi
    simp only [Nat.add_zero] at this
    simp [storeVar, sizeOf, typeInfo, hq, Value.cells, hs, this]
    rfl
theorem wpList_putO {dst : Option Tmp} {t2 : TypeId} {pos : String} {after : Array Edge} {x y : Operand} {g j : Nat} {v : Value} {A : List Value} {t : TypeId}
    (hx : a.eval x = .pointer (some ⟨g, j, none⟩)) (hy : a.eval y = .agg #[v]) (hg : w.heap[g]? = some (.cells A.toArray t (0, 0))) (hj : j < A.length) (h1 : v.oneCell' = true)
    (h : ∀ W, W.heap[g]? = some (.cells (A.set j v).toArray t (0, 0)) → Keeps [g] w W → wpList Tryz.prog ops Q rest (a.put dst undef) W) :
    wpList Tryz.prog ops Q ({ dst := dst, op := .store 30 x y, type := t2, pos := pos, after := after, guard := none } :: rest) a w :=
  wpList_plain rfl fun _ hK => by
    unfold Oper.wp execOp
    simp only [hx, hy, Instr.storeAt, Instr.sureAddr, Sem.run_bind, Sem.run_pure, Result.andThen_ok, run_putO hg hj h1]
    refine hK _ _ (h _ ?_ ((Keeps.refl [g] w).setCell _ _ (.inl (by simp))))
    have := heap_setCell_same w g j _ t v hg
    simpa using this
end
set_option maxHeartbeats 8000000
theorem wdModel_any (R : MdProg G) (w : World) {st : Value} {O : Option Wd} (hG : G w) (h : WoAt R w st O) : Calls Tryz.prog 12 #[st] w fun e w' => e = .returned (.tuple #[.int .u8 (oWM O), .bool O.isSome]) ∧ Keeps [] w w' := by
  obtain ⟨A, rfl, hA⟩ := h.cells
  obtain ⟨v, hv, h1, hat⟩ := h.one (o := 0) (by decide)
  have hb := heap_alloc_new w (.cells A.toArray 33)
  have hk : Keeps [] w (w.alloc (.cells A.toArray 33)) := (Keeps.refl _ _).alloc _
  have HR := Lib.hid (one_range hb hv)
  have e : (oModel (O.map (·.at 0)), (O.map (·.at 0)).isSome) = (oWM O, O.isSome) := by
    cases O with
    | none => rfl
    | some W => exact congrArg (·, true) (Wd.at_in h.in_ (by decide)).1
  simp only [Prod.mk.injEq] at e
  have HM := Lib.hid (R.model _ (.agg #[v]) _ (R.keepG hG hk) (R.new_ hat hk))
  rw [e.1, e.2] at HM
  have HV := Lib.hid (v_ok h1); have HK := Lib.hid hk
  clear e hat hv h1 h hG hA hb hk
  go_enter Tryz.func12, Tryz.ntmps12
  go_wp2_with ((with_reducible refine wpList_loadM (g := w.heap.size) (off := 0) (A := [v]) HV.out ?_ ?_ HR.out ?_); exact rfl; exact rfl)
  refine HM.out.mono ?_; rintro e w1 ⟨rfl, hk1⟩
  have HK1 := Lib.hid (HK.out.trans hk1 (FSub.refl _ _))
  clear hk1
  go_wp2_with fail
  go_ret2
  exact ⟨rfl, HK1.out⟩
def rowN (k : Nat) (v : Value) : List Value := List.replicate k v ++ List.replicate (8 - k) .nilIface
theorem rowN_next {k : Nat} (hk : k < 8) (v : Value) : (rowN k v).set k v = rowN (k + 1) v := by
  unfold rowN
  rw [List.set_append_right _ _ (by simp), List.length_replicate, Nat.sub_self, show 8 - k = (8 - (k + 1)) + 1 by omega, List.replicate_succ, List.set_cons_zero, List.replicate_succ', List.append_assoc]
  rfl
theorem rowN_len {k : Nat} (hk : k ≤ 8) (v : Value) : (rowN k v).length = 8 := by
  unfold rowN
  rw [List.length_append, List.length_replicate, List.length_replicate]; omega
theorem rowN_all {v x : Value} {o : Nat} (h : (rowN 8 v)[o]? = some x) : x = v := by
  have : x ∈ rowN 8 v := List.mem_of_getElem? h
  simpa [rowN] using this
theorem rowN_ok {v : Value} (h : v.oneCell' = true) : skW.Ok (rowN 8 v) := ⟨rowN_len (Nat.le_refl _) v, fun x hx => by
  have : x = v := by simpa [rowN] using hx
  rw [this]; exact h⟩
theorem rowN_at {R : MdProg G} {w : World} {v : Value} {m : Int} (h0 : 0 ≤ m) (h3 : m ≤ 3) (h : R.At w (.agg #[v]) (some (mdInit m))) (h1 : v.oneCell' = true) : WoAt R w (.agg (rowN 8 v).toArray) (some (wd0 m)) :=
  ⟨_, rfl, rowN_ok h1, fun W hW => by obtain rfl := Option.some.inj hW; exact wd0_in h0 h3, fun o x hx => by
    rw [rowN_all hx]
    show R.At w _ (some ((wd0 m).at o))
    rw [wd0_at]
    exact h⟩
theorem rowN_foot {R : MdProg G} {v : Value} {q : Nat} (h : q ∈ wFoot R (.agg (rowN 8 v).toArray)) : q ∈ R.foot (.agg #[v]) := by
  obtain ⟨o, x, hx, hq⟩ := wFoot_of h
  rw [rowN_all hx] at hq
  exact hq
theorem wdNew_any (R : MdProg G) (w : World) {m : Int} (hG : G w) (hm : 0 ≤ m ∧ m < 256) : Calls Tryz.prog 10 #[.int .u8 m] w fun e w' => ∃ st, e = .returned (.tuple #[st, .int .i64 (if m ≤ 3 then 0 else 10)]) ∧ WoAt R w' st (oWNew m) ∧ Keeps [] w w' ∧ ∀ q ∈ wFoot R st, w.heap.size ≤ q := by
  have HZ := Lib.hid (show (w.alloc (.cells wdZA 33)).heap[w.heap.size]? = some (.cells wdZ.toArray 33 (0, 0)) from heap_alloc_new w _)
  have HKZ := Lib.hid (show Keeps [] w (w.alloc (.cells wdZA 33)) from (Keeps.refl _ _).alloc _)
  have HN := Lib.hid (R.new _ m (R.keepG hG HKZ.out) hm)
  have HSZ := Lib.hid (show (w.alloc (.cells wdZA 33)).heap.size = w.heap.size + 1 from Array.size_push _)
  obtain ⟨B, hB⟩ : ∃ B, B = w.heap.size := ⟨_, rfl⟩
  rw [← hB] at HZ HSZ
  have HBE := Lib.hid hB
  clear hB hG
  by_cases h3 : m ≤ 3
  · have e : oWNew m = some (wd0 m) := if_pos h3
    have e2 : oNew m = some (mdInit m) := if_pos h3
    rw [if_pos h3] at HN ⊢
    rw [e]; rw [e2] at HN
    clear e e2
    go_enter Tryz.func10, Tryz.ntmps10
    go_wp2_with fail
    refine HN.out.mono ?_; rintro e w1 ⟨st, rfl, hat, hk1, hf⟩
    rw [← HBE.out]
    obtain ⟨A, rfl, hA⟩ := R.cells hat
    obtain ⟨v, rfl⟩ : ∃ v, A = [v] := List.length_eq_one_iff.1 hA.1
    have h1 : v.oneCell' = true := hA.2 v (by simp)
    have HV := Lib.hid h1; have HVO := Lib.hid (v_ok h1)
    have HZ1 := Lib.hid (hk1.heap HZ.out (by simp)); have HK1 := Lib.hid (HKZ.out.trans hk1 (FSub.refl _ _)); have HAT := Lib.hid hat
    have HF := Lib.hid (show ∀ q ∈ R.foot (.agg #[v]), B < q ∧ q < w1.heap.size from fun q hq => ⟨by have := hf q hq; have := HSZ.out; omega, R.old hat q hq⟩)
    have HC := Lib.hid (show (w1.alloc (.cells mdZA 30)).heap[w1.heap.size]? = some (.cells mdZ.toArray 30 (0, 0)) from heap_alloc_new w1 _)
    have HKC := Lib.hid (show Keeps [] w1 (w1.alloc (.cells mdZA 30)) from (Keeps.refl _ _).alloc _)
    clear hA hat hk1 hf HN HZ HKZ h1
    have HBL := Lib.hid (show B < w1.heap.size from lt_of_block HZ1.out)
    go_wp2_with ((with_reducible refine wpList_putM (g := w1.heap.size) (old := mdZ) (A := [v]) HVO.out mdZ_ok ?_ ?_ HC.out ?_); exact rfl; exact rfl)
    intro w2 hW2 hk2
    have HS2 := Lib.hid hW2
    have hk12 := HKC.out.trans' hk2 (Nat.le_refl _)
    have HZ2 := Lib.hid (hk12.heap HZ1.out (by simp)); have HK2 := Lib.hid (HK1.out.trans hk12 (FSub.refl _ _)); have HAT2 := Lib.hid (R.new_ HAT.out hk12)
    have HF2 := Lib.hid (show ∀ q ∈ R.foot (.agg #[v]), B < q ∧ q < w1.heap.size from HF.out)
    have HSL := Lib.hid (show w1.heap.size < w2.heap.size from lt_of_block hW2)
    clear hW2 hk2 hk12 HC HKC HZ1 HK1 HAT HF
    obtain ⟨C, hC⟩ : ∃ C, C = w1.heap.size := ⟨_, rfl⟩
    rw [← hC] at HS2 HF2 HBL HSL ⊢
    clear hC w1
    go_wp2_with fail
    have HKD := Lib.hid (show Keeps [] w2 (w2.alloc (.cells wdZA 33)) from (Keeps.refl _ _).alloc _)
    have HD := Lib.hid (show (w2.alloc (.cells wdZA 33)).heap[w2.heap.size]? = some (.cells wdZ.toArray 33 (0, 0)) from heap_alloc_new w2 _)
    obtain ⟨D, hD⟩ : ∃ D, D = w2.heap.size := ⟨_, rfl⟩
    have HDL := Lib.hid (show C < D from by have := HSL.out; omega)
    have HDK := Lib.hid (show w.heap.size ≤ D from by have := HBE.out; have := HBL.out; have := HDL.out; omega)
    rw [← hD] at HD ⊢
    have HK3 := Lib.hid (HK2.out.trans HKD.out (FSub.refl _ _)); have HZ3 := Lib.hid (HKD.out.heap HZ2.out (by simp)); have HS3 := Lib.hid (HKD.out.heap HS2.out (by simp)); have HAT3 := Lib.hid (R.new_ HAT2.out HKD.out)
    clear hD HZ2 HS2 HAT2 HK2 HKD HSL
    generalize hW3 : w2.alloc (.cells wdZA 33) = w3 at *
    clear hW3
    have HM := Lib.hid hm
    have HDZ := Lib.hid (lt_of_block HD.out)
    go_loopw [7, 16] (fun j i wr => ∃ k : Nat, i = .int .i64 k ∧ k ≤ 8 ∧ wr.heap[D]? = some (.cells (rowN k v).toArray 33 (0, 0)) ∧ wr.heap[B]? = some (.cells wdZ.toArray 33 (0, 0)) ∧ wr.heap[C]? = some (.cells [v].toArray 30 (0, 0)) ∧ Keeps [D] w3 wr) (fun _ i _ => 8 - (intOf i).toNat)
    case atStart => exact ⟨0, rfl, by omega, HD.out, HZ3.out, HS3.out, Keeps.refl _ _⟩
    case round =>
      obtain ⟨k, rfl, hk, hd, hb, hc, hkw⟩ := hrel
      have HKW := Lib.hid hkw; have HBR := Lib.hid hb; have HCR := Lib.hid hc; have HDR := Lib.hid hd
      clear hkw hb hc hd
      by_cases hlt : k < 8
      · have hl := Lib.hid (rowN_len hk v)
        have HRC := Lib.hid (block_range HCR.out)
        go_wp2_with (first
          | ((with_reducible refine wpList_loadM (g := C) (off := 0) (A := [v]) HVO.out ?_ ?_ HRC.out ?_); exact rfl; exact rfl)
          | ((with_reducible refine wpList_putO (g := D) (j := k) (v := v) (A := rowN k v) ?_ ?_ HDR.out (by rw [hl.out]; exact hlt) HV.out ?_); exact rfl; exact rfl))
        intro w4 hW4 hk4
        have HD4 := Lib.hid (show w4.heap[D]? = some (.cells (rowN (k + 1) v).toArray 33 (0, 0)) from by rw [← rowN_next hlt]; exact hW4)
        have HB4 := Lib.hid (hk4.heap HBR.out (by have := HBL.out; have := HDL.out; simp; omega))
        have HC4 := Lib.hid (hk4.heap HCR.out (by have := HDL.out; simp; omega))
        have HK4 := Lib.hid (HKW.out.trans hk4 (FSub.refl _ _))
        clear hW4 hk4
        go_wp2_with fail
        go_roundw
        case rel => exact ⟨k + 1, by go_num, by omega, HD4.out, HB4.out, HC4.out, HK4.out⟩
        case measure => simp [intOf]; omega
      · obtain rfl : k = 8 := by omega
        have HRD := Lib.hid (block_range HDR.out); have HRO := Lib.hid (rowN_ok HV.out)
        go_wp2_with (first
          | ((with_reducible refine wpList_loadW (g := D) HRO.out ?_ ?_ HRD.out ?_); exact rfl; exact rfl)
          | ((with_reducible refine wpList_putW (g := B) (old := wdZ) (A := rowN 8 v) HRO.out wdZ_ok ?_ ?_ HBR.out ?_); exact rfl; exact rfl))
        intro w4 hW4 hk4
        have HW4 := Lib.hid hW4; have HK4 := Lib.hid hk4
        clear hW4 hk4
        go_wp2_with fail
        try simp only [Exit.inBlock, Exit.then]
        have hfin : Keeps [] w w4 := (HK3.out.trans HKW.out (fun q hq => .inr (by simp at hq; have := HDK.out; omega))).trans HK4.out (fun q hq => .inr (by simp at hq; have := HBE.out; omega))
        have hat4 : R.At w4 (.agg #[v]) (some (mdInit m)) := R.keep (R.keep HAT3.out HKW.out (fun q hq => by have := HF2.out q hq; have := HDL.out; simp; omega)) HK4.out (fun q hq => by have := HF2.out q hq; simp; omega)
        exact bodyPost_ret (results_sk1 skW rfl _ _ B HRO.out rfl HW4.out) rfl ⟨_, rfl, rowN_at HM.out.1 h3 hat4 HV.out, hfin, fun q hq => by have := HF2.out q (rowN_foot hq); have := HBE.out; omega⟩
  · have e : oWNew m = none := if_neg h3
    have e2 : oNew m = none := if_neg h3
    rw [if_neg h3] at HN ⊢
    rw [e]; rw [e2] at HN
    clear e e2
    go_enter Tryz.func10, Tryz.ntmps10
    go_wp2_with fail
    refine HN.out.mono ?_; rintro e w1 ⟨st, rfl, hat, hk1, hf⟩
    rw [← HBE.out]
    obtain ⟨A, rfl, hA⟩ := R.cells hat
    have HVO := Lib.hid hA
    have HZ1 := Lib.hid (hk1.heap HZ.out (by simp)); have HK1 := Lib.hid (HKZ.out.trans hk1 (FSub.refl _ _))
    have HC := Lib.hid (show (w1.alloc (.cells mdZA 30)).heap[w1.heap.size]? = some (.cells mdZ.toArray 30 (0, 0)) from heap_alloc_new w1 _)
    have HKC := Lib.hid (show Keeps [] w1 (w1.alloc (.cells mdZA 30)) from (Keeps.refl _ _).alloc _)
    clear hA hat hk1 hf HN HZ HKZ
    go_wp2_with ((with_reducible refine wpList_putM (g := w1.heap.size) (old := mdZ) (A := A) HVO.out mdZ_ok ?_ ?_ HC.out ?_); exact rfl; exact rfl)
    intro w2 hW2 hk2
    have hk12 := HKC.out.trans' hk2 (Nat.le_refl _)
    have HZ2 := Lib.hid (hk12.heap HZ1.out (by simp)); have HK2 := Lib.hid (HK1.out.trans hk12 (FSub.refl _ _))
    clear hW2 hk2 hk12 HC HKC HZ1 HK1
    generalize w1.heap.size = C at *
    go_wp2_with ((with_reducible refine wpList_putW (g := B) (old := wdZ) (A := wdZ) wdZ_ok wdZ_ok ?_ ?_ HZ2.out ?_); exact rfl; exact rfl)
    intro w4 hW4 hk4
    have HW4 := Lib.hid hW4; have HK4 := Lib.hid hk4
    clear hW4 hk4
    go_wp2_with fail
    try simp only [Exit.inBlock, Exit.then]
    exact bodyPost_ret (results_sk1 skW rfl _ _ B wdZ_ok rfl HW4.out) rfl ⟨_, rfl, WoAt.zero R _, HK2.out.trans HK4.out (fun q hq => .inr (by simp at hq; have := HBE.out; omega)), fun q hq => by
      obtain ⟨o, v, hv, hq⟩ := wFoot_of hq
      have h := R.old (R.zero { w with heap := #[] }) q (by
        have : v = .nilIface := by
          have := List.mem_of_getElem? hv
          simpa [wdZ] using this
        rw [this] at hq; exact hq)
      simp at h⟩
end Go.Proofs.YtbnhcggjcdipeaaGreatDoor
/-
  The program's World: Step.
-/
namespace Go.Proofs.YtbnhcggjcdipeaaGreatDoor
open Go.RowKit
set_option maxRecDepth 100000
set_option maxHeartbeats 8000000
variable {G : World → Prop}
/-- The blocks of a state, of a world. -/
def ApM (R : MdProg G) (v : Value) (p : Nat → Prop) : Prop := ∀ q ∈ R.foot (.agg #[v]), p q
def ApW (R : MdProg G) (A : List Value) (p : Nat → Prop) : Prop := ∀ q ∈ wFoot R (.agg A.toArray), p q
/-- The program's State, as what lasts. -/
def kpM (R : MdProg G) (O : Option Md) : Kept Value where
  cs v := [v]
  P v w := R.At w (.agg #[v]) O
  Ap v p := ∀ q ∈ R.foot (.agg #[v]), p q
  keep h hk ha := R.keep h hk ha
  old h := R.old h
  mono h hp := fun q hq => hp q (h q hq)
  and_ h h' := fun q hq => ⟨h q hq, h' q hq⟩
/-- The program's World. -/
def kpW (R : MdProg G) (O : Option Wd) : Kept (List Value) where
  cs A := A
  P A w := WoAt R w (.agg A.toArray) O
  Ap A p := ∀ q ∈ wFoot R (.agg A.toArray), p q
  keep h hk ha := h.keep hk ha
  old h := h.old
  mono h hp := fun q hq => hp q (h q hq)
  and_ h h' := fun q hq => ⟨h q hq, h' q hq⟩
theorem oLen_at {O : Option Wd} (hi : ∀ W, O = some W → W.In) (hu : wUp O 1000) {o : Nat} (ho : o < 8) : oLen (O.map (·.at o)) ≤ 1000 := by
  cases O with
  | none => exact Nat.zero_le _
  | some W => exact hu W rfl _ (Wd.at_mem (hi W rfl) ho)
theorem mdStep_post (R : MdProg G) (w : World) {v : Value} {O : Option Md} (hG : G w) (h : R.At w (.agg #[v]) O) (hl : oLen O ≤ 1000) {c : Int} (hc : 0 ≤ c ∧ c < 256) (x : Opn) (hx : x.In) :
    Calls Tryz.prog 33 #[.agg #[v], .int .u8 c, x.val] w (Post3 (kpM R (oX O c x).1) (oX O c x).2.1 (oX O c x).2.2 (ApM R v) w) := by
  refine (R.step w _ O c x hG h hl hc hx).mono ?_
  rintro e w' ⟨st', rfl, hat, hk, hf⟩
  obtain ⟨A, rfl, hA⟩ := R.cells hat
  obtain ⟨u, rfl⟩ : ∃ u, A = [u] := List.length_eq_one_iff.1 hA.1
  exact ⟨u, rfl, hat, hk, fun p hp hn q hq => (hf q hq).elim (hp q) (hn q)⟩
theorem oWX_e {O : Option Wd} (c : Int) (x : Opn) : (oWX O c x).2.2 = (oX (O.map (·.at (wObj x))) c x).2.2 := by
  cases O with
  | none => rfl
  | some W => show (wdX W c x).2.2 = (mdX (W.at (wObj x)) c x).2.2; rw [wdX_err, mdX_err]
theorem oWX_bad {O : Option Wd} {c : Int} {x : Opn} (h : (oWX O c x).2.2 ≠ 0) : (oWX O c x).1 = O ∧ (oWX O c x).2.1 = ⟨0, 0⟩ := by
  cases O with
  | none => exact ⟨rfl, rfl⟩
  | some W => exact ⟨congrArg some (wdX_bad h).1, (wdX_bad h).2⟩
theorem oWX_ok {O : Option Wd} {c : Int} {x : Opn} (h : (oWX O c x).2.2 = 0) : ∃ W S, O = some W ∧ (oX (O.map (·.at (wObj x))) c x).1 = some S ∧ oWX O c x = (some (W.put (wObj x) S), (oX (O.map (·.at (wObj x))) c x).2.1, 0) ∧ S.model = (W.at (wObj x)).model := by
  cases O with
  | none => exact absurd (show (1 : Int) = 0 from h) (by decide)
  | some W =>
    have h1 := wdX_ok (W := W) (c := c) (x := x) h
    refine ⟨W, _, rfl, rfl, ?_, mdX_model _ c x⟩
    show (some (wdX W c x).1, (wdX W c x).2.1, (wdX W c x).2.2) = _
    rw [h1.2]
    rfl
section
variable {ops : Array Oper} {S : World → Prop} {o : Oper} {a : Act}
theorem yields_indexS (hw : Region.wanted o (yielded ops a.tmps) = true) (x y : Operand) (ho : o.op = .indexAddr 31 x y) (g k : Nat) (q : IntKind) (hx : a.eval x = .pointer (some ⟨g, 0, none⟩)) (hy : a.eval y = .int q k) (hk : k < 8) :
    YieldsIf Tryz.prog ops S o (.pointer (some ⟨g, k, none⟩)) a :=
  Or.inl ⟨hw, by
    have hk2 : (k : Int) < 8 := by omega
    intro w _
    unfold execOp
    simp only [ho, hx, hy]
    go_simp⟩
end
theorem wdStep_post (R : MdProg G) (w : World) {A : List Value} {O : Option Wd} (hG : G w) (h : WoAt R w (.agg A.toArray) O) (hu : wUp O 1000) {cl : Int} (hc : 0 ≤ cl ∧ cl < 256) (x : Opn) (hx : x.In) :
    Calls Tryz.prog 13 #[.agg A.toArray, .int .u8 cl, x.val] w (Post3 (kpW R (oWX O cl x).1) (oWX O cl x).2.1 (oWX O cl x).2.2 (ApW R A) w) := by
  obtain ⟨h0, h1, h2, h3, hz, hk⟩ := four_vars w A.toArray #[.int .u8 x.f, .int .u8 x.o, .int .u8 x.k, .int .u16 x.a, .int .u16 x.b] wdZA #[.int .u8 0, .int .u16 0] 33 47 33 25 rfl
  have ho8 := wObj_lt x
  have HE0 := oWX_e (O := O) cl x
  have HBAD := Lib.hid (fun hb => oWX_bad (O := O) (c := cl) (x := x) hb); have HGOOD := Lib.hid (fun hb => oWX_ok (O := O) (c := cl) (x := x) hb)
  obtain ⟨o, ho⟩ : ∃ o, o = wObj x := ⟨_, rfl⟩
  rw [← ho] at HE0 HGOOD
  have HOO := Lib.hid (show (o : Int) = if 7 < x.o then 0 else x.o from by
    rw [ho]; unfold wObj; split
    · rfl
    · exact Int.toNat_of_nonneg hx.o0)
  rw [← ho] at ho8
  obtain ⟨v, hv, hv1, hat⟩ := h.one (o := o) ho8
  have hlen := oLen_at (o := o) (fun W hW => by subst hW; exact h.in_) hu ho8
  obtain ⟨A', eA, hA⟩ := h.cells
  obtain rfl : A = A' := by simpa using eA
  have HAO := Lib.hid hA; have HO8 := Lib.hid ho8; have HVA := Lib.hid hv; have HVO := Lib.hid (v_ok hv1)
  have HW := Lib.hid (h.new hk); have HX := Lib.hid hx; have HC := Lib.hid hc
  have H0 := Lib.hid h0; have H1 := Lib.hid h1
  have H2 := Lib.hid (h2.trans (show some (Obj.cells _ _ _) = some (Obj.cells wdZ.toArray 33 (0, 0)) from rfl))
  have H3 := Lib.hid (h3.trans (show some (Obj.cells _ _ _) = some (Obj.cells (ansC ⟨0, 0⟩).toArray 25 (0, 0)) from rfl))
  have HK := Lib.hid hk; have HZ := Lib.hid hz; have HOLD := Lib.hid h.old
  have HAT := Lib.hid (R.new_ hat hk); have HGL := Lib.hid (fun w' (h : Keeps [] w w') => R.keepG hG h); have HLEN := Lib.hid hlen
  clear h0 h1 h2 h3 hz hk h hat hlen hx hc hu hG ho ho8 hv hv1 hA eA
  generalize hWX : oWX O cl x = X at *
  obtain ⟨W2, r, e1⟩ := X
  have HST1 := Lib.hid (fun w' (hg : G w') (h : R.At w' (.agg #[v]) (O.map (·.at o))) => mdStep_post R w' hg h HLEN.out HC.out x HX.out)
  generalize hMX : oX (O.map (·.at o)) cl x = Y at *
  obtain ⟨T1, rr, ee⟩ := Y
  simp only at HBAD HGOOD HE0 HST1 ⊢
  subst HE0
  unfold Opn.val
  clear hWX hMX
  go_enter Tryz.func13, Tryz.ntmps13
  generalize hWW : (((w.alloc (.cells A.toArray 33)).alloc (.cells #[.int .u8 x.f, .int .u8 x.o, .int .u8 x.k, .int .u16 x.a, .int .u16 x.b] 47)).alloc (.cells wdZA 33)).alloc (.cells #[.int .u8 0, .int .u16 0] 25) = V0 at *
  have HST := Lib.hid (fun w' (h : Keeps [] V0 w') => HST1.out w' (HGL.out _ (HK.out.trans h (FSub.refl _ _))) (R.new_ HAT.out h))
  have HOL := Lib.hid (show ∀ p : Nat → Prop, (∀ q, q < V0.heap.size → p q) → ApM R v p from fun p hp q hq => hp q (R.old HAT.out q hq))
  have d1 : V0.cell? ⟨w.heap.size + 1, 1, none⟩ = some (.int .u8 x.o) := cell_lit H1.out 1 rfl
  have xo := HX.out.o0
  have xo1 := HX.out.o1
  clear HST1
  by_cases h7 : 7 < x.o
  · have E0 := Lib.hid (show o = 0 from by have := HOO.out; rw [if_pos h7] at this; omega)
    have h8 : 8 ≤ x.o := by omega
    go_wp2_with fail
    clear d1
    obtain ⟨OL, hOL⟩ : ∃ OL, OL = ApM R v := ⟨_, rfl⟩
    obtain ⟨KP, hKP⟩ : ∃ KP, KP = kpM R T1 := ⟨_, rfl⟩
    have HOKP := Lib.hid (show ∀ x w, KP.P x w → skM.Ok (KP.cs x) from by
      rw [hKP]
      intro x w h
      obtain ⟨A, e, hA⟩ := R.cells (show R.At w (.agg #[x]) T1 from h)
      rw [show A = [x] by simpa using e.symm] at hA
      exact hA)
    rw [← hOL] at HOL; rw [← hOL, ← hKP] at HST
    have HKP := Lib.hid hKP; have HOLE := Lib.hid hOL
    clear hKP hOL
    refine wp_join13 (fun qa qb zv us a => ((((((((((((((a.put (some 18) (us.getD 0 undef)).put (some 19) (us.getD 1 undef)).put (some 20) (us.getD 2 undef)).put (some 21) (us.getD 3 undef)).put (some 22) (us.getD 4 undef)).put (some 23) (us.getD 5 undef)).put (some 24) (us.getD 6 undef)).put (some 17) (us.getD 7 undef)).put (some 25) (us.getD 8 undef)).put (some 26) (us.getD 9 undef)).put (some 27) (us.getD 10 undef)).put (some 10) (.pointer (some ⟨qa, 0, none⟩))).put (some 11) (.pointer (some ⟨qb, 0, none⟩))).put (some 12) (.int .i64 e1))) (Fin3 KP 30 rr OL V0) ?_ ?_
    · obtain ⟨S0, hS0⟩ : ∃ S0 : World → Prop, S0 = fun y => Keeps [] V0 y := ⟨_, rfl⟩
      have HSE := Lib.hid hS0
      have hSD : S0 V0.drew := by rw [hS0]; exact (Keeps.refl _ _).drew
      have HSA := Lib.hid (fun (w' : World) (hh : S0 w') => show w'.rangeAt w.heap.size o [v] from by rw [hS0] at hh; exact one_range (hh.heap H0.out (by simp)) HVA.out)
      have HSX := Lib.hid (fun (w' : World) (hh : S0 w') => show w'.rangeAt (w.heap.size + 1) 0 (opC x) from by rw [hS0] at hh; exact fun j v hv => hh.cell (block_range (A := opC x) H1.out j v hv) (by simp))
      clear hS0
      refine wp_region_noPanic ?_
      refine wp_region_held_drew (S := S0) (by kernel_rfl) hSD (fun hHeld => ?_)
      refine tw 0 (h := ?_)
      refine tw 1 (h := ?_)
      refine tk 2 (y := by exact yields_indexS rfl _ _ rfl w.heap.size o .u8 rfl (by first | rfl | (rw [E0.out]; rfl)) HO8.out) (h := ?_)
      refine tk 3 (y := by exact skM.yields HVO.out rfl _ rfl w.heap.size o rfl HSA.out) (h := ?_)
      refine tw 4 (h := ?_)
      refine tk 5 (y := by exact yields_loadP x rfl _ rfl (w.heap.size + 1) 0 rfl HSX.out) (h := ?_)
      have HY := Lib.hid ((Keeps.refl [] V0).drew)
      generalize V0.drew = YC at *
      iterate 3
        all_goals
          first
            | apply wpAnyH_ready (rs := [6, 11, 12])
              · decide +kernel
              · simp
              refine acn ?_ (acn ?_ (acn ?_ (AllReadyH.nil)))
            | apply wpAnyH_ready (rs := [6, 11])
              · decide +kernel
              · simp
              refine acn ?_ (acn ?_ (AllReadyH.nil))
            | apply wpAnyH_ready (rs := [6, 12])
              · decide +kernel
              · simp
              refine acn ?_ (acn ?_ (AllReadyH.nil))
            | apply wpAnyH_ready (rs := [11, 12])
              · decide +kernel
              · simp
              refine acn ?_ (acn ?_ (AllReadyH.nil))
            | apply wpAnyH_ready (rs := [6])
              · decide +kernel
              · simp
              refine acn ?_ (AllReadyH.nil)
            | apply wpAnyH_ready (rs := [11])
              · decide +kernel
              · simp
              refine acn ?_ (AllReadyH.nil)
            | apply wpAnyH_ready (rs := [12])
              · decide +kernel
              · simp
              refine acn ?_ (AllReadyH.nil)
          all_goals
            intro K hK
            rw [if_pos (by rfl)]
            first
            | refine wp_call9 33 _ _ rfl [.agg #[v], .int .u8 cl, x.val] rfl Tryz.func33 (by kernel_rfl) (by kernel_rfl) ((HST.out _ HY.out).mono ?_)
              rintro e YC ⟨x1, rfl, hpp, hk, hf⟩
              refine ⟨_, rfl, ?_⟩
              try have HFA := Lib.hid (show KP.Ap x1 (fun q => q ≠ ga) from hf _ (HOL.out _ (fun q hq => by have := HGA.out; omega)) (fun q hq => by have := HLA.out; omega))
              try have HFB := Lib.hid (show KP.Ap x1 (fun q => q ≠ gb) from hf _ (HOL.out _ (fun q hq => by have := HGB.out; omega)) (fun q hq => by have := HLB.out; omega))
              have HFN := Lib.hid (show ∀ p : Nat → Prop, OL p → (∀ q, V0.heap.size ≤ q → p q) → KP.Ap x1 p from fun p h1 h2 => hf p h1 (fun q hq => h2 q (Nat.le_trans HY.out.size hq)))
              try replace HBA := Lib.hid (hk.heap HBA.out (by simp))
              try replace HBB := Lib.hid (hk.heap HBB.out (by simp))
              try replace HAT := Lib.hid (KP.new HAT.out hk)
              try replace HLA := Lib.hid (Nat.lt_of_lt_of_le HLA.out hk.size)
              try replace HLB := Lib.hid (Nat.lt_of_lt_of_le HLB.out hk.size)
              replace HY := Lib.hid (HY.out.trans hk (FSub.refl _ _))
              have HAT := Lib.hid hpp
              clear hpp hk hf
              refine hK.out _ _ (by rw [HSE.out]; exact HY.out) (fun hHeld => ?_); clear hK K; try simp only [Act.put, lsA, lsZ, lsS]
              refine tw 7 (h := ?_)
              refine tw 8 (h := ?_)
              refine tw 9 (h := ?_)
              refine tw 10 (h := ?_)
            | refine wp_allocM rfl ?_
              have hk : Keeps [] YC (YC.alloc (.cells mdZ.toArray 30)) := (Keeps.refl _ _).alloc _
              have hb := heap_alloc_new YC (.cells mdZ.toArray 30)
              try have HFA := Lib.hid (show KP.Ap x1 (fun q => q ≠ YC.heap.size) from KP.mono (KP.old HAT.out) (fun q hq => Nat.ne_of_lt hq))
              try have HAB := Lib.hid (show YC.heap.size ≠ gb from Nat.ne_of_gt HLB.out)
              have HGA := Lib.hid HY.out.size
              try replace HBA := Lib.hid (hk.heap HBA.out (by simp))
              try replace HBB := Lib.hid (hk.heap HBB.out (by simp))
              try replace HAT := Lib.hid (KP.new HAT.out hk)
              try replace HLA := Lib.hid (Nat.lt_of_lt_of_le HLA.out hk.size)
              try replace HLB := Lib.hid (Nat.lt_of_lt_of_le HLB.out hk.size)
              replace HY := Lib.hid (HY.out.trans hk (FSub.refl _ _))
              have HBA := Lib.hid hb
              have HLA := Lib.hid (lt_of_block hb)
              clear hk hb
              generalize YC.heap.size = ga at *
              generalize YC.alloc (.cells mdZ.toArray 30) = YC at *
              refine hK.out _ _ (by rw [HSE.out]; exact HY.out) (fun hHeld => ?_); clear hK K; try simp only [Act.put, lsA, lsZ, lsS]
            | refine wp_allocA _ _ _ _ rfl ?_
              have hk : Keeps [] YC (YC.alloc (.cells (ansC ⟨0, 0⟩).toArray 25)) := (Keeps.refl _ _).alloc _
              have hb := heap_alloc_new YC (.cells (ansC ⟨0, 0⟩).toArray 25)
              try have HFB := Lib.hid (show KP.Ap x1 (fun q => q ≠ YC.heap.size) from KP.mono (KP.old HAT.out) (fun q hq => Nat.ne_of_lt hq))
              try have HAB := Lib.hid (show ga ≠ YC.heap.size from Nat.ne_of_lt HLA.out)
              have HGB := Lib.hid HY.out.size
              try replace HBA := Lib.hid (hk.heap HBA.out (by simp))
              try replace HBB := Lib.hid (hk.heap HBB.out (by simp))
              try replace HAT := Lib.hid (KP.new HAT.out hk)
              try replace HLA := Lib.hid (Nat.lt_of_lt_of_le HLA.out hk.size)
              try replace HLB := Lib.hid (Nat.lt_of_lt_of_le HLB.out hk.size)
              replace HY := Lib.hid (HY.out.trans hk (FSub.refl _ _))
              have HBB := Lib.hid hb
              have HLB := Lib.hid (lt_of_block hb)
              clear hk hb
              generalize YC.heap.size = gb at *
              generalize YC.alloc (.cells (ansC ⟨0, 0⟩).toArray 25) = YC at *
              refine hK.out _ _ (by rw [HSE.out]; exact HY.out) (fun hHeld => ?_); clear hK K; try simp only [Act.put, lsA, lsZ, lsS]
      all_goals
        refine rp 13 (h := fun K hK => ?_)
        refine skM.wp_put rfl (g := ga) (old := mdZ) (A := KP.cs x1) (HOKP.out _ _ HAT.out) mdZ_ok rfl rfl HBA.out (fun YC hV hk => ?_)
        replace HBA := Lib.hid hV
        replace HBB := Lib.hid (hk.heap HBB.out (by have := HAB.out; simp; exact fun e => this e.symm))
        replace HAT := Lib.hid (KP.put HAT.out hk HFA.out)
        replace HY := Lib.hid (HY.out.trans' hk HGA.out)
        clear hV hk
        refine hK.out _ _ (by rw [HSE.out]; exact HY.out) (fun hHeld => ?_); clear hK K; try simp only [Act.put, lsA, lsZ, lsS]
        refine rp 14 (h := fun K hK => ?_)
        refine wp_putN rfl (g := gb) (old := ⟨0, 0⟩) rr rfl rfl HBB.out (fun YC hV hk => ?_)
        replace HBB := Lib.hid hV
        replace HBA := Lib.hid (hk.heap HBA.out (by have := HAB.out; simpa using this))
        replace HAT := Lib.hid (KP.put HAT.out hk HFB.out)
        replace HY := Lib.hid (HY.out.trans' hk HGB.out)
        clear hV hk
        refine hK.out _ _ (by rw [HSE.out]; exact HY.out) (fun hHeld => ?_); clear hK K; try simp only [Act.put, lsA, lsZ, lsS]
        refine tw 15 (h := ?_)
        refine wpAnyH_done (by kernel_rfl) ?_ _
        refine NoPanic.normal ?_
        exact ⟨rfl, ga, gb, .agg (KP.cs x1).toArray, [_, _, _, _, _, _, _, _, _, _, _], rfl, x1, rfl, HBA.out, HBB.out, HAT.out, HY.out, HGA.out, HGB.out, HAB.out, HFN.out, KP.and_ HFA.out HFB.out⟩
    rintro qa qb zv us YD ⟨v1, rfl, hba, hbb, hp, hky, hga, hgb, hab, hol, hap⟩
    simp only [Act.put, lsA, lsZ, lsS]
    have HVO1 := Lib.hid (HOKP.out _ _ hp)
    have hKP := HKP.out; have hOL := HOLE.out
    subst hKP
    subst hOL
    replace HVO1 := Lib.hid (show skM.Ok [v1] from HVO1.out)
    have HV11 := Lib.hid (HVO1.out.2 v1 (by simp))
    have HBA := Lib.hid (show YD.heap[qa]? = some (.cells [v1].toArray 30 (0, 0)) from hba); have HBB := Lib.hid hbb
    have HP := Lib.hid (show R.At YD (.agg #[v1]) T1 from hp); have HKY := Lib.hid hky
    have HAB := Lib.hid (show qa ≠ qb ∧ V0.heap.size ≤ qa ∧ V0.heap.size ≤ qb from ⟨hab, hga, hgb⟩)
    have HOLN := Lib.hid (show ∀ p : Nat → Prop, (∀ q ∈ R.foot (.agg #[v]), p q) → (∀ q, V0.heap.size ≤ q → p q) → ∀ q ∈ R.foot (.agg #[v1]), p q from hol)
    have H0D := Lib.hid (hky.heap H0.out (by simp)); have H2D := Lib.hid (hky.heap H2.out (by simp)); have H3D := Lib.hid (hky.heap H3.out (by simp))
    have HKD := Lib.hid (HK.out.trans hky (FSub.refl _ _)); have HWD := Lib.hid (HW.out.new hky)
    clear hba hbb hp hky hga hgb hab hol hap HST HOKP HOL H0 H1 H2 H3 HW
    by_cases he : e1 = 0
    · obtain ⟨W, S, rfl, hS, hX, hm⟩ := HGOOD.out he
      simp only [Prod.mk.injEq] at hX hS
      obtain ⟨rfl, rfl, -⟩ := hX
      subst hS
      have HM := Lib.hid hm
      subst he
      clear HBAD HGOOD hm
      have HRB := Lib.hid (block_range HBA.out)
      have o8 := HO8.out
      have o1 : (o : Int) < 8 := by omega
      have o2 : 0 ≤ (o : Int) := by omega
      have HLA := Lib.hid (show o < A.length from by rw [HAO.out.1]; exact HO8.out)
      go_wp2_with (first
        | ((with_reducible refine wpList_loadM (g := qa) (off := 0) HVO1.out ?_ ?_ HRB.out ?_); exact rfl; exact rfl)
        | ((with_reducible refine wpList_putO (g := w.heap.size) (j := o) (v := v1) (A := A) ?_ ?_ H0D.out HLA.out HV11.out ?_); (first | exact rfl | (rw [E0.out]; exact rfl)); exact rfl))
      intro YE hV hk
      have HG := Lib.hid (show YE.heap[w.heap.size]? = some (.cells (A.set o v1).toArray 33 (0, 0)) from hV)
      have H2E := Lib.hid (hk.heap H2D.out (by simp; omega)); have H3E := Lib.hid (hk.heap H3D.out (by simp; omega))
      have HBBE := Lib.hid (hk.heap HBB.out (by have := HAB.out; have := HZ.out; simp; omega))
      have HAL := Lib.hid (fun q (hq : q ∈ wFoot R (.agg A.toArray)) => HOLD.out q hq)
      have HFN := Lib.hid (show ∀ q ∈ R.foot (.agg #[v1]), q ∈ wFoot R (.agg A.toArray) ∨ V0.heap.size ≤ q from HOLN.out (fun q => q ∈ wFoot R (.agg A.toArray) ∨ V0.heap.size ≤ q) (fun q hq => .inl (wFoot_mem HVA.out q hq)) (fun q hq => .inr hq))
      have HWE := Lib.hid (show WoAt R YE (.agg (A.set o v1).toArray) (some (W.put o S)) from
        WoAt.set (HWD.out.keep hk (fun q hq => by have := HAL.out q hq; simp; omega)) HO8.out (HVO1.out.2 v1 (by simp)) (R.keep HP.out hk (fun q hq => by
          rcases HFN.out q hq with h | h
          · have := HAL.out q h; simp; omega
          · have := HZ.out; simp; omega)) (by rw [HM.out]; exact (Wd.at_in HWD.out.in_ HO8.out).1))
      have HFA := Lib.hid (show ∀ q ∈ wFoot R (.agg (A.set o v1).toArray), q ∈ wFoot R (.agg A.toArray) ∨ V0.heap.size ≤ q from wFoot_set (F := []) (fun q hq => HFN.out q hq))
      have HKE := Lib.hid (HKD.out.trans hk (fun q hq => .inr (by simp at hq; omega)))
      have HNO := Lib.hid (show skW.Ok (A.set o v1) from by
        obtain ⟨B, e, h⟩ := HWE.out.cells
        rw [show A.set o v1 = B by simpa using e]; exact h)
      clear hV hk H0D H2D H3D HBA HBB HP HWD HKD HRB
      go_wp2_with fail
      obtain ⟨S0, hS0⟩ : ∃ S0 : World → Prop, S0 = fun y => Keeps [w.heap.size + 1 + 1, w.heap.size + 1 + 1 + 1] YE y := ⟨_, rfl⟩
      have HSE := Lib.hid hS0
      have hSD : S0 YE.drew := by rw [hS0]; exact (Keeps.refl _ _).drew
      have HS0 := Lib.hid (fun (w' : World) (hh : S0 w') => show w'.rangeAt w.heap.size 0 (A.set o v1) from by rw [hS0] at hh; exact fun j v hv => hh.cell (block_range HG.out j v hv) (by simp; omega))
      have HS1 := Lib.hid (fun (w' : World) (hh : S0 w') => show w'.rangeAt qb 0 (ansC r) from by rw [hS0] at hh; exact fun j v hv => hh.cell (block_range HBBE.out j v hv) (by have := HAB.out; have := HZ.out; simp; omega))
      clear hS0
      refine wp_region_noPanic ?_
      refine wp_region_held_drew (S := S0) (by kernel_rfl) hSD (fun hHeld => ?_)
      refine tk 0 (y := by exact skW.yields HNO.out rfl _ rfl w.heap.size 0 rfl HS0.out) (h := ?_)
      refine tk 1 (y := by exact skR.yields (ansC_ok r) rfl _ rfl qb 0 rfl HS1.out) (h := ?_)
      refine rp 2 (h := fun K hK => ?_)
      refine skW.wp_put rfl (g := w.heap.size + 1 + 1) (old := wdZ) (A := A.set o v1) HNO.out wdZ_ok rfl rfl (((Keeps.refl [] YE).drew).heap H2E.out (by simp)) (fun V6 hV6 hj6 => ?_)
      have HV6 := Lib.hid hV6
      have HJ6 := Lib.hid ((((Keeps.refl [] YE).drew).more (G := [w.heap.size + 1 + 1, w.heap.size + 1 + 1 + 1]) (by simp)).step hj6 (by simp))
      have HB36 := Lib.hid (hj6.heap (((Keeps.refl [] YE).drew).heap H3E.out (by simp)) (by simp))
      clear hV6 hj6
      refine hK.out _ _ (by rw [HSE.out]; exact HJ6.out) (fun hHeld => ?_); clear hK K; try simp only [Act.put, lsA, lsZ, lsS]
      refine rp 3 (h := fun K hK => ?_)
      refine wp_putN rfl (g := w.heap.size + 1 + 1 + 1) (old := ⟨0, 0⟩) r rfl rfl HB36.out (fun V7 hV7 hj7 => ?_)
      have HV7 := Lib.hid hV7
      have HS7 := Lib.hid (hj7.heap HV6.out (by simp))
      have HJ7 := Lib.hid (HJ6.out.step hj7 (by simp))
      clear hV7 hj7
      refine hK.out _ _ (by rw [HSE.out]; exact HJ7.out) (fun hHeld => ?_); clear hK K; try simp only [Act.put, lsA, lsZ, lsS]
      refine tw 4 (h := ?_)
      refine wpAnyH_done (by kernel_rfl) ?_ _
      refine NoPanic.normal ?_
      go_wp2_with fail
      try simp only [Exit.inBlock, Exit.then]
      refine bodyPost_ret (results_sk3 skW rfl _ _ (w.heap.size + 1 + 1) (w.heap.size + 1 + 1 + 1) HNO.out r rfl HS7.out rfl HV7.out) rfl ⟨A.set o v1, rfl, ?_, HKE.out.trans HJ7.out (fun q hq => .inr (by simp at hq; omega)), fun p hp hn q hq => ?_⟩
      · refine HWE.out.keep HJ7.out (fun q hq => ?_)
        rcases HFA.out q hq with h | h
        · have := HAL.out q h; simp; omega
        · have := HZ.out; simp; omega
      · rcases HFA.out q hq with h | h
        · exact hp q h
        · exact hn q (by have := HZ.out; omega)
    · obtain ⟨rfl, rfl⟩ := HBAD.out he
      clear HGOOD HBAD
      have HRD := Lib.hid (block_range H0D.out)
      go_wp2_with (first
        | ((with_reducible refine wpList_loadW (g := w.heap.size) HAO.out ?_ ?_ HRD.out ?_); exact rfl; exact rfl)
        | ((with_reducible refine wpList_putW (g := w.heap.size + 1 + 1) (old := wdZ) (A := A) HAO.out wdZ_ok ?_ ?_ H2D.out ?_); exact rfl; exact rfl))
      intro YE hV hk
      have HVE := Lib.hid hV; have HKE := Lib.hid hk
      have H3E := Lib.hid (hk.heap H3D.out (by simp))
      clear hV hk
      go_wp2_with ((with_reducible refine wpList_putN (g := w.heap.size + 1 + 1 + 1) (old := ⟨0, 0⟩) ⟨0, 0⟩ ?_ ?_ H3E.out ?_); exact rfl; exact rfl)
      intro YF hV hk
      have HVF := Lib.hid hV; have HKF := Lib.hid hk
      have HVG := Lib.hid (hk.heap HVE.out (by simp))
      clear hV hk
      go_wp2_with fail
      try simp only [Exit.inBlock, Exit.then]
      refine bodyPost_ret (results_sk3 skW rfl _ _ (w.heap.size + 1 + 1) (w.heap.size + 1 + 1 + 1) HAO.out ⟨0, 0⟩ rfl HVG.out rfl HVF.out) rfl ⟨A, rfl, (HWD.out.keep HKE.out (fun q hq => by have := HOLD.out q hq; simp; omega)).keep HKF.out (fun q hq => by have := HOLD.out q hq; simp; omega), (HKD.out.trans HKE.out (fun q hq => .inr (by simp at hq; omega))).trans HKF.out (fun q hq => .inr (by simp at hq; omega)), fun p hp _ => hp⟩
  · have eo : x.o = (o : Int) := by have := HOO.out; rw [if_neg h7] at this; omega
    rw [eo] at d1
    have E0 := Lib.hid eo
    clear eo
    have h8 := HO8.out
    have t1 : ¬ 8 ≤ (o : Int) := by omega
    have t2 : 0 ≤ (o : Int) := by omega
    go_wp2_with fail
    clear d1
    obtain ⟨OL, hOL⟩ : ∃ OL, OL = ApM R v := ⟨_, rfl⟩
    obtain ⟨KP, hKP⟩ : ∃ KP, KP = kpM R T1 := ⟨_, rfl⟩
    have HOKP := Lib.hid (show ∀ x w, KP.P x w → skM.Ok (KP.cs x) from by
      rw [hKP]
      intro x w h
      obtain ⟨A, e, hA⟩ := R.cells (show R.At w (.agg #[x]) T1 from h)
      rw [show A = [x] by simpa using e.symm] at hA
      exact hA)
    rw [← hOL] at HOL; rw [← hOL, ← hKP] at HST
    have HKP := Lib.hid hKP; have HOLE := Lib.hid hOL
    clear hKP hOL
    refine wp_join13 (fun qa qb zv us a => ((((((((((((((a.put (some 18) (us.getD 0 undef)).put (some 19) (us.getD 1 undef)).put (some 20) (us.getD 2 undef)).put (some 21) (us.getD 3 undef)).put (some 22) (us.getD 4 undef)).put (some 23) (us.getD 5 undef)).put (some 24) (us.getD 6 undef)).put (some 17) (us.getD 7 undef)).put (some 25) (us.getD 8 undef)).put (some 26) (us.getD 9 undef)).put (some 27) (us.getD 10 undef)).put (some 10) (.pointer (some ⟨qa, 0, none⟩))).put (some 11) (.pointer (some ⟨qb, 0, none⟩))).put (some 12) (.int .i64 e1))) (Fin3 KP 30 rr OL V0) ?_ ?_
    · obtain ⟨S0, hS0⟩ : ∃ S0 : World → Prop, S0 = fun y => Keeps [] V0 y := ⟨_, rfl⟩
      have HSE := Lib.hid hS0
      have hSD : S0 V0.drew := by rw [hS0]; exact (Keeps.refl _ _).drew
      have HSA := Lib.hid (fun (w' : World) (hh : S0 w') => show w'.rangeAt w.heap.size o [v] from by rw [hS0] at hh; exact one_range (hh.heap H0.out (by simp)) HVA.out)
      have HSX := Lib.hid (fun (w' : World) (hh : S0 w') => show w'.rangeAt (w.heap.size + 1) 0 (opC x) from by rw [hS0] at hh; exact fun j v hv => hh.cell (block_range (A := opC x) H1.out j v hv) (by simp))
      clear hS0
      refine wp_region_noPanic ?_
      refine wp_region_held_drew (S := S0) (by kernel_rfl) hSD (fun hHeld => ?_)
      refine tw 0 (h := ?_)
      refine tw 1 (h := ?_)
      refine tk 2 (y := by exact yields_indexS rfl _ _ rfl w.heap.size o .u8 rfl (by first | rfl | (rw [E0.out]; rfl)) HO8.out) (h := ?_)
      refine tk 3 (y := by exact skM.yields HVO.out rfl _ rfl w.heap.size o rfl HSA.out) (h := ?_)
      refine tw 4 (h := ?_)
      refine tk 5 (y := by exact yields_loadP x rfl _ rfl (w.heap.size + 1) 0 rfl HSX.out) (h := ?_)
      have HY := Lib.hid ((Keeps.refl [] V0).drew)
      generalize V0.drew = YC at *
      iterate 3
        all_goals
          first
            | apply wpAnyH_ready (rs := [6, 11, 12])
              · decide +kernel
              · simp
              refine acn ?_ (acn ?_ (acn ?_ (AllReadyH.nil)))
            | apply wpAnyH_ready (rs := [6, 11])
              · decide +kernel
              · simp
              refine acn ?_ (acn ?_ (AllReadyH.nil))
            | apply wpAnyH_ready (rs := [6, 12])
              · decide +kernel
              · simp
              refine acn ?_ (acn ?_ (AllReadyH.nil))
            | apply wpAnyH_ready (rs := [11, 12])
              · decide +kernel
              · simp
              refine acn ?_ (acn ?_ (AllReadyH.nil))
            | apply wpAnyH_ready (rs := [6])
              · decide +kernel
              · simp
              refine acn ?_ (AllReadyH.nil)
            | apply wpAnyH_ready (rs := [11])
              · decide +kernel
              · simp
              refine acn ?_ (AllReadyH.nil)
            | apply wpAnyH_ready (rs := [12])
              · decide +kernel
              · simp
              refine acn ?_ (AllReadyH.nil)
          all_goals
            intro K hK
            rw [if_pos (by rfl)]
            first
            | refine wp_call9 33 _ _ rfl [.agg #[v], .int .u8 cl, x.val] rfl Tryz.func33 (by kernel_rfl) (by kernel_rfl) ((HST.out _ HY.out).mono ?_)
              rintro e YC ⟨x1, rfl, hpp, hk, hf⟩
              refine ⟨_, rfl, ?_⟩
              try have HFA := Lib.hid (show KP.Ap x1 (fun q => q ≠ ga) from hf _ (HOL.out _ (fun q hq => by have := HGA.out; omega)) (fun q hq => by have := HLA.out; omega))
              try have HFB := Lib.hid (show KP.Ap x1 (fun q => q ≠ gb) from hf _ (HOL.out _ (fun q hq => by have := HGB.out; omega)) (fun q hq => by have := HLB.out; omega))
              have HFN := Lib.hid (show ∀ p : Nat → Prop, OL p → (∀ q, V0.heap.size ≤ q → p q) → KP.Ap x1 p from fun p h1 h2 => hf p h1 (fun q hq => h2 q (Nat.le_trans HY.out.size hq)))
              try replace HBA := Lib.hid (hk.heap HBA.out (by simp))
              try replace HBB := Lib.hid (hk.heap HBB.out (by simp))
              try replace HAT := Lib.hid (KP.new HAT.out hk)
              try replace HLA := Lib.hid (Nat.lt_of_lt_of_le HLA.out hk.size)
              try replace HLB := Lib.hid (Nat.lt_of_lt_of_le HLB.out hk.size)
              replace HY := Lib.hid (HY.out.trans hk (FSub.refl _ _))
              have HAT := Lib.hid hpp
              clear hpp hk hf
              refine hK.out _ _ (by rw [HSE.out]; exact HY.out) (fun hHeld => ?_); clear hK K; try simp only [Act.put, lsA, lsZ, lsS]
              refine tw 7 (h := ?_)
              refine tw 8 (h := ?_)
              refine tw 9 (h := ?_)
              refine tw 10 (h := ?_)
            | refine wp_allocM rfl ?_
              have hk : Keeps [] YC (YC.alloc (.cells mdZ.toArray 30)) := (Keeps.refl _ _).alloc _
              have hb := heap_alloc_new YC (.cells mdZ.toArray 30)
              try have HFA := Lib.hid (show KP.Ap x1 (fun q => q ≠ YC.heap.size) from KP.mono (KP.old HAT.out) (fun q hq => Nat.ne_of_lt hq))
              try have HAB := Lib.hid (show YC.heap.size ≠ gb from Nat.ne_of_gt HLB.out)
              have HGA := Lib.hid HY.out.size
              try replace HBA := Lib.hid (hk.heap HBA.out (by simp))
              try replace HBB := Lib.hid (hk.heap HBB.out (by simp))
              try replace HAT := Lib.hid (KP.new HAT.out hk)
              try replace HLA := Lib.hid (Nat.lt_of_lt_of_le HLA.out hk.size)
              try replace HLB := Lib.hid (Nat.lt_of_lt_of_le HLB.out hk.size)
              replace HY := Lib.hid (HY.out.trans hk (FSub.refl _ _))
              have HBA := Lib.hid hb
              have HLA := Lib.hid (lt_of_block hb)
              clear hk hb
              generalize YC.heap.size = ga at *
              generalize YC.alloc (.cells mdZ.toArray 30) = YC at *
              refine hK.out _ _ (by rw [HSE.out]; exact HY.out) (fun hHeld => ?_); clear hK K; try simp only [Act.put, lsA, lsZ, lsS]
            | refine wp_allocA _ _ _ _ rfl ?_
              have hk : Keeps [] YC (YC.alloc (.cells (ansC ⟨0, 0⟩).toArray 25)) := (Keeps.refl _ _).alloc _
              have hb := heap_alloc_new YC (.cells (ansC ⟨0, 0⟩).toArray 25)
              try have HFB := Lib.hid (show KP.Ap x1 (fun q => q ≠ YC.heap.size) from KP.mono (KP.old HAT.out) (fun q hq => Nat.ne_of_lt hq))
              try have HAB := Lib.hid (show ga ≠ YC.heap.size from Nat.ne_of_lt HLA.out)
              have HGB := Lib.hid HY.out.size
              try replace HBA := Lib.hid (hk.heap HBA.out (by simp))
              try replace HBB := Lib.hid (hk.heap HBB.out (by simp))
              try replace HAT := Lib.hid (KP.new HAT.out hk)
              try replace HLA := Lib.hid (Nat.lt_of_lt_of_le HLA.out hk.size)
              try replace HLB := Lib.hid (Nat.lt_of_lt_of_le HLB.out hk.size)
              replace HY := Lib.hid (HY.out.trans hk (FSub.refl _ _))
              have HBB := Lib.hid hb
              have HLB := Lib.hid (lt_of_block hb)
              clear hk hb
              generalize YC.heap.size = gb at *
              generalize YC.alloc (.cells (ansC ⟨0, 0⟩).toArray 25) = YC at *
              refine hK.out _ _ (by rw [HSE.out]; exact HY.out) (fun hHeld => ?_); clear hK K; try simp only [Act.put, lsA, lsZ, lsS]
      all_goals
        refine rp 13 (h := fun K hK => ?_)
        refine skM.wp_put rfl (g := ga) (old := mdZ) (A := KP.cs x1) (HOKP.out _ _ HAT.out) mdZ_ok rfl rfl HBA.out (fun YC hV hk => ?_)
        replace HBA := Lib.hid hV
        replace HBB := Lib.hid (hk.heap HBB.out (by have := HAB.out; simp; exact fun e => this e.symm))
        replace HAT := Lib.hid (KP.put HAT.out hk HFA.out)
        replace HY := Lib.hid (HY.out.trans' hk HGA.out)
        clear hV hk
        refine hK.out _ _ (by rw [HSE.out]; exact HY.out) (fun hHeld => ?_); clear hK K; try simp only [Act.put, lsA, lsZ, lsS]
        refine rp 14 (h := fun K hK => ?_)
        refine wp_putN rfl (g := gb) (old := ⟨0, 0⟩) rr rfl rfl HBB.out (fun YC hV hk => ?_)
        replace HBB := Lib.hid hV
        replace HBA := Lib.hid (hk.heap HBA.out (by have := HAB.out; simpa using this))
        replace HAT := Lib.hid (KP.put HAT.out hk HFB.out)
        replace HY := Lib.hid (HY.out.trans' hk HGB.out)
        clear hV hk
        refine hK.out _ _ (by rw [HSE.out]; exact HY.out) (fun hHeld => ?_); clear hK K; try simp only [Act.put, lsA, lsZ, lsS]
        refine tw 15 (h := ?_)
        refine wpAnyH_done (by kernel_rfl) ?_ _
        refine NoPanic.normal ?_
        exact ⟨rfl, ga, gb, .agg (KP.cs x1).toArray, [_, _, _, _, _, _, _, _, _, _, _], rfl, x1, rfl, HBA.out, HBB.out, HAT.out, HY.out, HGA.out, HGB.out, HAB.out, HFN.out, KP.and_ HFA.out HFB.out⟩
    rintro qa qb zv us YD ⟨v1, rfl, hba, hbb, hp, hky, hga, hgb, hab, hol, hap⟩
    simp only [Act.put, lsA, lsZ, lsS]
    have HVO1 := Lib.hid (HOKP.out _ _ hp)
    have hKP := HKP.out; have hOL := HOLE.out
    subst hKP
    subst hOL
    replace HVO1 := Lib.hid (show skM.Ok [v1] from HVO1.out)
    have HV11 := Lib.hid (HVO1.out.2 v1 (by simp))
    have HBA := Lib.hid (show YD.heap[qa]? = some (.cells [v1].toArray 30 (0, 0)) from hba); have HBB := Lib.hid hbb
    have HP := Lib.hid (show R.At YD (.agg #[v1]) T1 from hp); have HKY := Lib.hid hky
    have HAB := Lib.hid (show qa ≠ qb ∧ V0.heap.size ≤ qa ∧ V0.heap.size ≤ qb from ⟨hab, hga, hgb⟩)
    have HOLN := Lib.hid (show ∀ p : Nat → Prop, (∀ q ∈ R.foot (.agg #[v]), p q) → (∀ q, V0.heap.size ≤ q → p q) → ∀ q ∈ R.foot (.agg #[v1]), p q from hol)
    have H0D := Lib.hid (hky.heap H0.out (by simp)); have H2D := Lib.hid (hky.heap H2.out (by simp)); have H3D := Lib.hid (hky.heap H3.out (by simp))
    have HKD := Lib.hid (HK.out.trans hky (FSub.refl _ _)); have HWD := Lib.hid (HW.out.new hky)
    clear hba hbb hp hky hga hgb hab hol hap HST HOKP HOL H0 H1 H2 H3 HW
    by_cases he : e1 = 0
    · obtain ⟨W, S, rfl, hS, hX, hm⟩ := HGOOD.out he
      simp only [Prod.mk.injEq] at hX hS
      obtain ⟨rfl, rfl, -⟩ := hX
      subst hS
      have HM := Lib.hid hm
      subst he
      clear HBAD HGOOD hm
      have HRB := Lib.hid (block_range HBA.out)
      have o8 := HO8.out
      have o1 : (o : Int) < 8 := by omega
      have o2 : 0 ≤ (o : Int) := by omega
      have HLA := Lib.hid (show o < A.length from by rw [HAO.out.1]; exact HO8.out)
      go_wp2_with (first
        | ((with_reducible refine wpList_loadM (g := qa) (off := 0) HVO1.out ?_ ?_ HRB.out ?_); exact rfl; exact rfl)
        | ((with_reducible refine wpList_putO (g := w.heap.size) (j := o) (v := v1) (A := A) ?_ ?_ H0D.out HLA.out HV11.out ?_); (first | exact rfl | (rw [E0.out]; exact rfl)); exact rfl))
      intro YE hV hk
      have HG := Lib.hid (show YE.heap[w.heap.size]? = some (.cells (A.set o v1).toArray 33 (0, 0)) from hV)
      have H2E := Lib.hid (hk.heap H2D.out (by simp; omega)); have H3E := Lib.hid (hk.heap H3D.out (by simp; omega))
      have HBBE := Lib.hid (hk.heap HBB.out (by have := HAB.out; have := HZ.out; simp; omega))
      have HAL := Lib.hid (fun q (hq : q ∈ wFoot R (.agg A.toArray)) => HOLD.out q hq)
      have HFN := Lib.hid (show ∀ q ∈ R.foot (.agg #[v1]), q ∈ wFoot R (.agg A.toArray) ∨ V0.heap.size ≤ q from HOLN.out (fun q => q ∈ wFoot R (.agg A.toArray) ∨ V0.heap.size ≤ q) (fun q hq => .inl (wFoot_mem HVA.out q hq)) (fun q hq => .inr hq))
      have HWE := Lib.hid (show WoAt R YE (.agg (A.set o v1).toArray) (some (W.put o S)) from
        WoAt.set (HWD.out.keep hk (fun q hq => by have := HAL.out q hq; simp; omega)) HO8.out (HVO1.out.2 v1 (by simp)) (R.keep HP.out hk (fun q hq => by
          rcases HFN.out q hq with h | h
          · have := HAL.out q h; simp; omega
          · have := HZ.out; simp; omega)) (by rw [HM.out]; exact (Wd.at_in HWD.out.in_ HO8.out).1))
      have HFA := Lib.hid (show ∀ q ∈ wFoot R (.agg (A.set o v1).toArray), q ∈ wFoot R (.agg A.toArray) ∨ V0.heap.size ≤ q from wFoot_set (F := []) (fun q hq => HFN.out q hq))
      have HKE := Lib.hid (HKD.out.trans hk (fun q hq => .inr (by simp at hq; omega)))
      have HNO := Lib.hid (show skW.Ok (A.set o v1) from by
        obtain ⟨B, e, h⟩ := HWE.out.cells
        rw [show A.set o v1 = B by simpa using e]; exact h)
      clear hV hk H0D H2D H3D HBA HBB HP HWD HKD HRB
      go_wp2_with fail
      obtain ⟨S0, hS0⟩ : ∃ S0 : World → Prop, S0 = fun y => Keeps [w.heap.size + 1 + 1, w.heap.size + 1 + 1 + 1] YE y := ⟨_, rfl⟩
      have HSE := Lib.hid hS0
      have hSD : S0 YE.drew := by rw [hS0]; exact (Keeps.refl _ _).drew
      have HS0 := Lib.hid (fun (w' : World) (hh : S0 w') => show w'.rangeAt w.heap.size 0 (A.set o v1) from by rw [hS0] at hh; exact fun j v hv => hh.cell (block_range HG.out j v hv) (by simp; omega))
      have HS1 := Lib.hid (fun (w' : World) (hh : S0 w') => show w'.rangeAt qb 0 (ansC r) from by rw [hS0] at hh; exact fun j v hv => hh.cell (block_range HBBE.out j v hv) (by have := HAB.out; have := HZ.out; simp; omega))
      clear hS0
      refine wp_region_noPanic ?_
      refine wp_region_held_drew (S := S0) (by kernel_rfl) hSD (fun hHeld => ?_)
      refine tk 0 (y := by exact skW.yields HNO.out rfl _ rfl w.heap.size 0 rfl HS0.out) (h := ?_)
      refine tk 1 (y := by exact skR.yields (ansC_ok r) rfl _ rfl qb 0 rfl HS1.out) (h := ?_)
      refine rp 2 (h := fun K hK => ?_)
      refine skW.wp_put rfl (g := w.heap.size + 1 + 1) (old := wdZ) (A := A.set o v1) HNO.out wdZ_ok rfl rfl (((Keeps.refl [] YE).drew).heap H2E.out (by simp)) (fun V6 hV6 hj6 => ?_)
      have HV6 := Lib.hid hV6
      have HJ6 := Lib.hid ((((Keeps.refl [] YE).drew).more (G := [w.heap.size + 1 + 1, w.heap.size + 1 + 1 + 1]) (by simp)).step hj6 (by simp))
      have HB36 := Lib.hid (hj6.heap (((Keeps.refl [] YE).drew).heap H3E.out (by simp)) (by simp))
      clear hV6 hj6
      refine hK.out _ _ (by rw [HSE.out]; exact HJ6.out) (fun hHeld => ?_); clear hK K; try simp only [Act.put, lsA, lsZ, lsS]
      refine rp 3 (h := fun K hK => ?_)
      refine wp_putN rfl (g := w.heap.size + 1 + 1 + 1) (old := ⟨0, 0⟩) r rfl rfl HB36.out (fun V7 hV7 hj7 => ?_)
      have HV7 := Lib.hid hV7
      have HS7 := Lib.hid (hj7.heap HV6.out (by simp))
      have HJ7 := Lib.hid (HJ6.out.step hj7 (by simp))
      clear hV7 hj7
      refine hK.out _ _ (by rw [HSE.out]; exact HJ7.out) (fun hHeld => ?_); clear hK K; try simp only [Act.put, lsA, lsZ, lsS]
      refine tw 4 (h := ?_)
      refine wpAnyH_done (by kernel_rfl) ?_ _
      refine NoPanic.normal ?_
      go_wp2_with fail
      try simp only [Exit.inBlock, Exit.then]
      refine bodyPost_ret (results_sk3 skW rfl _ _ (w.heap.size + 1 + 1) (w.heap.size + 1 + 1 + 1) HNO.out r rfl HS7.out rfl HV7.out) rfl ⟨A.set o v1, rfl, ?_, HKE.out.trans HJ7.out (fun q hq => .inr (by simp at hq; omega)), fun p hp hn q hq => ?_⟩
      · refine HWE.out.keep HJ7.out (fun q hq => ?_)
        rcases HFA.out q hq with h | h
        · have := HAL.out q h; simp; omega
        · have := HZ.out; simp; omega
      · rcases HFA.out q hq with h | h
        · exact hp q h
        · exact hn q (by have := HZ.out; omega)
    · obtain ⟨rfl, rfl⟩ := HBAD.out he
      clear HGOOD HBAD
      have HRD := Lib.hid (block_range H0D.out)
      go_wp2_with (first
        | ((with_reducible refine wpList_loadW (g := w.heap.size) HAO.out ?_ ?_ HRD.out ?_); exact rfl; exact rfl)
        | ((with_reducible refine wpList_putW (g := w.heap.size + 1 + 1) (old := wdZ) (A := A) HAO.out wdZ_ok ?_ ?_ H2D.out ?_); exact rfl; exact rfl))
      intro YE hV hk
      have HVE := Lib.hid hV; have HKE := Lib.hid hk
      have H3E := Lib.hid (hk.heap H3D.out (by simp))
      clear hV hk
      go_wp2_with ((with_reducible refine wpList_putN (g := w.heap.size + 1 + 1 + 1) (old := ⟨0, 0⟩) ⟨0, 0⟩ ?_ ?_ H3E.out ?_); exact rfl; exact rfl)
      intro YF hV hk
      have HVF := Lib.hid hV; have HKF := Lib.hid hk
      have HVG := Lib.hid (hk.heap HVE.out (by simp))
      clear hV hk
      go_wp2_with fail
      try simp only [Exit.inBlock, Exit.then]
      refine bodyPost_ret (results_sk3 skW rfl _ _ (w.heap.size + 1 + 1) (w.heap.size + 1 + 1 + 1) HAO.out ⟨0, 0⟩ rfl HVG.out rfl HVF.out) rfl ⟨A, rfl, (HWD.out.keep HKE.out (fun q hq => by have := HOLD.out q hq; simp; omega)).keep HKF.out (fun q hq => by have := HOLD.out q hq; simp; omega), (HKD.out.trans HKE.out (fun q hq => .inr (by simp at hq; omega))).trans HKF.out (fun q hq => .inr (by simp at hq; omega)), fun p hp _ => hp⟩
end Go.Proofs.YtbnhcggjcdipeaaGreatDoor
/-
  The law's put, after, over any program's worlds.
-/
namespace Go.Proofs.YtbnhcggjcdipeaaGreatDoor
open Go.RowKit
set_option maxRecDepth 100000
set_option maxHeartbeats 8000000
variable {G : World → Prop}
theorem Tryz.infoC14 : (Tryz.prog.info? 49).map (fun i => (i.zero, i.size, i.bytes)) = some (some (.agg (clC clZero).toArray), 6, 10) := by kernel_rfl
/-- Calls of the law, side by side. -/
noncomputable def rkC14 : RK Cl :=
  { T := 49, Sl := 22, s := 6, b := 10, cs := clC, i := (info_parts Tryz.infoC14).choose, z := .agg (clC clZero).toArray,
    len := clC_len, one := clC_one, s0 := by decide, b1 := by decide, und := Tryz.underlying22,
    hi := (info_parts Tryz.infoC14).choose_spec.1, hz := (info_parts Tryz.infoC14).choose_spec.2.1, hs := (info_parts Tryz.infoC14).choose_spec.2.2.1, hb := (info_parts Tryz.infoC14).choose_spec.2.2.2, hzs := rfl }
theorem InC14_at {N : Nat} {w : World} {a : Option Addr} {n c : Nat} {l : List Cl} (h : rkC14.In N w (.slice a n c) l) {k : Nat} (hk : k < l.length) : ∃ bk o, a = some ⟨bk, o, none⟩ ∧ bk < N ∧ w.rangeAt bk (o + k * 6) (clC l[k]) := by
  obtain ⟨_, _, e, _, _, h⟩ := h
  simp at e
  obtain ⟨rfl, -, -⟩ := e
  obtain ⟨bk, o, e, hb, hr⟩ := h (fun e => by rw [e] at hk; simp at hk)
  exact ⟨bk, o, e, hb, hr k hk⟩
def skC14 : SK := { T := 49, s := 6, d := _, und := Tryz.underlying49, row := rfl, size := by kernel_rfl }
theorem clC_ok (y : Cl) : skC14.Ok (clC y) := ⟨clC_len y, clC_one y⟩
section
variable {ops : Array Oper} {rest : List Oper} {S : World → Prop} {o : Oper} {a : Act} {w : World} {K : Act → World → Prop} {Q : Exit → Act → World → Prop}
theorem run_allocW14 (w : World) : (Instr.alloc 33 true (.tuple #[])).run Tryz.prog w = .ok (.pointer (some ⟨w.heap.size, 0, none⟩)) (w.alloc (.cells wdZ.toArray 33)) := by kernel_rfl
theorem wp_allocW14 (ho : o.op = .alloc 33) (h : K (a.put o.dst (.pointer (some ⟨w.heap.size, 0, none⟩))) (w.alloc (.cells wdZ.toArray 33))) : o.wp Tryz.prog a w K Q := by
  unfold Oper.wp execOp
  simp only [ho, Sem.run_bind, run_allocW14, Result.andThen_ok, Sem.run_pure]
  exact h
theorem yields_indexC14 (hw : Region.wanted o (yielded ops a.tmps) = true) (x y : Operand) (ho : o.op = .indexAddr 22 x y) (g of n c k : Nat) (hx : a.eval x = .slice (some ⟨g, of, none⟩) n c) (hy : a.eval y = .int .i64 k) (hk : k < n) :
    YieldsIf Tryz.prog ops S o (.pointer (some ⟨g, of + k * 6, none⟩)) a :=
  Or.inl ⟨hw, by
    have hk2 : (k : Int) < n := by omega
    intro w _
    unfold execOp
    simp only [ho, hx, hy]
    go_simp⟩
theorem wpList_putC14 {dst : Option Tmp} {ty : TypeId} {pos : String} {after : Array Edge} {x y : Operand} {g : Nat} {old A : List Value} (hA : skC14.Ok A) (hO : skC14.Ok old) {t : TypeId}
    (hx : a.eval x = .pointer (some ⟨g, 0, none⟩)) (hy : a.eval y = .agg A.toArray) (hg : w.heap[g]? = some (.cells old.toArray t (0, 0)))
    (h : ∀ W, W.heap[g]? = some (.cells A.toArray t (0, 0)) → Keeps [g] w W → wpList Tryz.prog ops Q rest (a.put dst undef) W) :
    wpList Tryz.prog ops Q ({ dst := dst, op := .store 49 x y, type := ty, pos := pos, after := after, guard := none } :: rest) a w := skC14.wpList_put hA hO hx hy hg h
end
theorem put14_any (w : World) (o k v : Int) : Calls Tryz.prog 26 #[.int .u8 o, .int .u8 k, .int .u16 v] w fun e w' => e = .returned (.agg (clC ⟨0, ⟨7, o, k, v, 0⟩⟩).toArray) ∧ Keeps [] w w' := by
  have HZ := Lib.hid (show (w.alloc (.cells #[.int .u8 0, .int .u8 0, .int .u8 0, .int .u8 0, .int .u16 0, .int .u16 0] 49)).heap[w.heap.size]? = some (.cells (clC clZero).toArray 49 (0, 0)) from heap_alloc_new w _)
  have HK := Lib.hid (show Keeps [] w (w.alloc (.cells #[.int .u8 0, .int .u8 0, .int .u8 0, .int .u8 0, .int .u16 0, .int .u16 0] 49)) from (Keeps.refl _ _).alloc _)
  have HO := Lib.hid (clC_ok ⟨0, ⟨7, o, k, v, 0⟩⟩); have HO2 := Lib.hid (clC_ok clZero)
  go_enter Tryz.func26, Tryz.ntmps26
  go_wp2_with ((with_reducible refine wpList_putC14 (g := w.heap.size) (old := clC clZero) (A := clC ⟨0, ⟨7, o, k, v, 0⟩⟩) HO.out HO2.out ?_ ?_ HZ.out ?_); exact rfl; exact rfl)
  intro V hV hkV
  have HV := Lib.hid hV; have HKV := Lib.hid hkV
  clear hV hkV
  go_wp2_with fail
  try simp only [Exit.inBlock, Exit.then]
  exact bodyPost_ret (results_sk skC14 rfl _ _ w.heap.size HO.out rfl HV.out) rfl ⟨rfl, HK.out.trans HKV.out (fun q hq => .inr (by simp at hq; omega))⟩
theorem WdProg.post {R : MdProg G} (V : WdProg R) (w : World) {A : List Value} {O : Option Wd} (hG : G w) (h : WoAt R w (.agg A.toArray) O) (hu : wUp O 1000) {c : Int} (hc : 0 ≤ c ∧ c < 256) {x : Opn} (hx : x.In) :
    Calls Tryz.prog 13 #[.agg A.toArray, .int .u8 c, x.val] w (Post3 (kpW R (oWX O c x).1) (oWX O c x).2.1 (oWX O c x).2.2 (ApW R A) w) := by
  refine (V.step w _ O c x hG h hu hc hx).mono ?_
  rintro e w' ⟨st', rfl, hat, hk, hf⟩
  obtain ⟨B, rfl, hB⟩ := hat.cells
  exact ⟨B, rfl, hat, hk, fun p hp hn q hq => (hf q hq).elim (hp q) (hn q)⟩
theorem kpW_ok (R : MdProg G) (O : Option Wd) : ∀ x w, (kpW R O).P x w → skW.Ok ((kpW R O).cs x) := fun x w h => by
  obtain ⟨B, e, hB⟩ := WoAt.cells (show WoAt R w (.agg x.toArray) O from h)
  show skW.Ok x
  rw [show x = B by simpa using e]; exact hB
theorem after14_any {R : MdProg G} (V : WdProg R) (w : World) {A0 : List Value} {W0 : Wd} (hG : G w) (h : WoAt R w (.agg A0.toArray) (some W0)) {K : Nat} (hu : W0.upto K) {v : Value} {l : List Cl} (hl : ∀ y ∈ l, y.In) (hI : rkC14.In w.heap.size w v l) (hn : K + l.length ≤ 1000) :
    Calls Tryz.prog 23 #[.agg A0.toArray, v] w fun e w' => ∃ B : List Value, e = .returned (.agg B.toArray) ∧ WoAt R w' (.agg B.toArray) (some (bhW W0 l)) ∧ Keeps [] w w' ∧ FSub (wFoot R (.agg B.toArray)) (wFoot R (.agg A0.toArray)) w.heap.size := by
  obtain ⟨a, cp, rfl, hc, hm, -⟩ := id hI
  obtain ⟨A0', e0, hA0⟩ := h.cells
  obtain rfl : A0 = A0' := by simpa using e0
  obtain ⟨-, h0, h1, hk⟩ := two_vars w A0.toArray wdZA 33 33
  have hz := two_blocks w A0.toArray wdZA 33 33
  obtain ⟨X, hX⟩ : ∃ X, X = (w.alloc (.cells A0.toArray 33)).alloc (.cells wdZA 33) := ⟨_, rfl⟩
  rw [← hX] at h0 h1 hk hz
  have H0 := Lib.hid h0; have H1 := Lib.hid (h1.trans (show some (Obj.cells _ _ _) = some (Obj.cells wdZ.toArray 33 (0, 0)) from rfl)); have HK := Lib.hid hk; have HZ := Lib.hid hz
  have HA0 := Lib.hid hA0; have HAT := Lib.hid (h.new hk); have HOLD := Lib.hid h.old; have HIN := Lib.hid hI; have HLI := Lib.hid hl; have HGL := Lib.hid (fun w' (h : Keeps [] w w') => R.keepG hG h)
  have HUP := Lib.hid (fun k => show (bhW W0 (l.take k)).upto 1000 from fun S hS => by
    have h1 := bhW_upto (l.take k) h.in_ (fun y hy => hl y (List.mem_of_mem_take hy)) hu S hS
    have h2 : (l.take k).length ≤ l.length := by rw [List.length_take]; omega
    omega)
  clear hI hl hG hA0 h0 h1 hk hz h hu e0
  generalize hn2 : l.length = n at *
  have HN2 := Lib.hid hn2
  clear hn2
  go_enter Tryz.func23, Tryz.ntmps23
  have hX2 := hX.symm
  clear hX
  go_wp2_with fail
  go_loopw [5, 6, 7, 8] (fun i _ _ _ wr => ∃ (k : Nat) (A : List Value), i = .int .i64 k ∧ k ≤ n ∧ skW.Ok A ∧ wr.heap[w.heap.size]? = some (.cells A.toArray 33 (0, 0)) ∧ wr.heap[w.heap.size + 1]? = some (.cells wdZ.toArray 33 (0, 0)) ∧ WoAt R wr (.agg A.toArray) (some (bhW W0 (l.take k))) ∧ (∀ q ∈ wFoot R (.agg A.toArray), q ∈ wFoot R (.agg A0.toArray) ∨ w.heap.size + 2 ≤ q) ∧ Keeps [] w wr ∧ w.heap.size + 2 ≤ wr.heap.size) (fun i _ _ _ _ => n - (intOf i).toNat)
  case atStart => exact ⟨0, A0, rfl, by omega, HA0.out, H0.out, H1.out, HAT.out, fun q hq => .inl hq, HK.out, by have := HZ.out; omega⟩
  case round =>
    clear HA0 H0 H1 HAT HK HZ hX2 X
    obtain ⟨k, A, rfl, hk, hA, hb, hb1, hat, hft, hkw, hsz⟩ := hrel
    have HA := Lib.hid hA; have HB := Lib.hid hb; have HB1 := Lib.hid hb1; have HAT := Lib.hid hat; have HFT := Lib.hid hft; have HKW := Lib.hid hkw; have HSZ := Lib.hid hsz
    clear hA hb hb1 hat hft hkw hsz
    by_cases hlt : k < n
    · have hkl : k < l.length := by have := HN2.out; omega
      obtain ⟨g, o, rfl, hg, hr⟩ := InC14_at (HIN.out.new HKW.out (Nat.le_refl _)) hkl
      have HRW := Lib.hid hr; have HNX := Lib.hid (bhW_next (W := W0) hkl); have HXI := Lib.hid (HLI.out l[k] (List.getElem_mem hkl)); have HLK := Lib.hid (HUP.out k)
      clear hr
      generalize l[k] = y at *
      generalize bhW W0 (l.take k) = W at *
      have HST0 := Lib.hid (fun w' (h : Keeps [] wr w') => WdProg.post V w' (A := A) (O := some W) (HGL.out _ (HKW.out.trans h (FSub.refl _ _))) (HAT.out.new h) (fun W' hW' => by obtain rfl := Option.some.inj hW'; exact HLK.out) ⟨HXI.out.c0, HXI.out.c1⟩ HXI.out.x)
      simp only [oWX] at HST0
      have HBAD := Lib.hid (fun h => (wdX_bad (W := W) (c := y.c) (x := y.x) h).1)
      generalize wdX W y.c y.x = X at *
      obtain ⟨W1, r, e1⟩ := X
      simp only at HST0 HNX HBAD
      obtain ⟨V0, hV0⟩ : ∃ V0, V0 = wr := ⟨_, rfl⟩
      subst hV0
      obtain ⟨OL, hOL⟩ : ∃ OL, OL = ApW R A := ⟨_, rfl⟩
      obtain ⟨KP, hKP⟩ : ∃ KP, KP = kpW R (some W1) := ⟨_, rfl⟩
      have HOKP := Lib.hid (show ∀ x w, KP.P x w → skW.Ok (KP.cs x) from by rw [hKP]; exact kpW_ok R _)
      have HOL := Lib.hid (show ∀ p : Nat → Prop, (∀ q, q < V0.heap.size → p q) → OL p from by rw [hOL]; exact fun p hp q hq => hp q (HAT.out.old q hq))
      have HST := HST0
      rw [← hOL, ← hKP] at HST
      have HKP := Lib.hid hKP; have HOLE := Lib.hid hOL
      clear hKP hOL HST0
      go_wp2_with fail
      refine wp_join13 (fun qa qb zv us a => (((((((((((((((((((a.put (some 16) (us.getD 0 undef)).put (some 17) (us.getD 1 undef)).put (some 18) (us.getD 2 undef)).put (some 19) (us.getD 3 undef)).put (some 20) (us.getD 4 undef)).put (some 21) (us.getD 5 undef)).put (some 22) (us.getD 6 undef)).put (some 23) (us.getD 7 undef)).put (some 24) (us.getD 8 undef)).put (some 25) (us.getD 9 undef)).put (some 26) (us.getD 10 undef)).put (some 27) (us.getD 11 undef)).put (some 15) (us.getD 12 undef)).put (some 28) (us.getD 13 undef)).put (some 29) (us.getD 14 undef)).put (some 30) (us.getD 15 undef)).put (some 6) (.pointer (some ⟨qa, 0, none⟩))).put (some 7) (.pointer (some ⟨qb, 0, none⟩))).put (some 8) (.int .i64 e1))) (Fin3 KP 33 r OL V0) ?_ ?_
      · obtain ⟨S0, hS0⟩ : ∃ S0 : World → Prop, S0 = fun y => Keeps [] V0 y := ⟨_, rfl⟩
        have HSE := Lib.hid hS0
        have hSD : S0 V0.drew := by rw [hS0]; exact (Keeps.refl _ _).drew
        have HSA := Lib.hid (fun (w' : World) (hh : S0 w') => show w'.rangeAt w.heap.size 0 A from by rw [hS0] at hh; exact fun j v hv => hh.cell (block_range HB.out j v hv) (by simp))
        have HSC := Lib.hid (fun (w' : World) (hh : S0 w') => show w'.cell? ⟨g, o + k * 6, none⟩ = some (.int .u8 y.c) from by rw [hS0] at hh; exact hh.cell (cl_parts HRW.out).1 (by simp))
        have HSX := Lib.hid (fun (w' : World) (hh : S0 w') => show w'.rangeAt g (o + k * 6 + 1) (opC y.x) from by rw [hS0] at hh; exact fun j v hv => hh.cell ((cl_parts HRW.out).2 j v hv) (by simp))
        clear hS0
        refine wp_region_noPanic ?_
        refine wp_region_held_drew (S := S0) (by kernel_rfl) hSD (fun hHeld => ?_)
        refine tk 0 (y := by exact skW.yields HA.out rfl _ rfl w.heap.size 0 rfl HSA.out) (h := ?_)
        refine tw 1 (h := ?_)
        refine tw 2 (h := ?_)
        refine tk 3 (y := by exact yields_indexC14 rfl _ _ rfl g o n cp k rfl rfl hlt) (h := ?_)
        refine tw 4 (h := ?_)
        refine tk 5 (y := by exact Or.inl ⟨by rfl, by intro w hSw; have q0 := HSC.out w hSw; go_simp; try with_reducible rfl⟩) (h := ?_)
        refine tw 6 (h := ?_)
        refine tw 7 (h := ?_)
        refine tk 8 (y := by exact yields_indexC14 rfl _ _ rfl g o n cp k rfl rfl hlt) (h := ?_)
        refine tw 9 (h := ?_)
        refine tk 10 (y := by exact yields_loadP y.x rfl _ rfl g _ rfl HSX.out) (h := ?_)
        have HY := Lib.hid ((Keeps.refl [] V0).drew)
        generalize V0.drew = YC at *
        iterate 3
          all_goals
            first
              | apply wpAnyH_ready (rs := [11, 16, 17])
                · decide +kernel
                · simp
                refine acn ?_ (acn ?_ (acn ?_ (AllReadyH.nil)))
              | apply wpAnyH_ready (rs := [11, 16])
                · decide +kernel
                · simp
                refine acn ?_ (acn ?_ (AllReadyH.nil))
              | apply wpAnyH_ready (rs := [11, 17])
                · decide +kernel
                · simp
                refine acn ?_ (acn ?_ (AllReadyH.nil))
              | apply wpAnyH_ready (rs := [16, 17])
                · decide +kernel
                · simp
                refine acn ?_ (acn ?_ (AllReadyH.nil))
              | apply wpAnyH_ready (rs := [11])
                · decide +kernel
                · simp
                refine acn ?_ (AllReadyH.nil)
              | apply wpAnyH_ready (rs := [16])
                · decide +kernel
                · simp
                refine acn ?_ (AllReadyH.nil)
              | apply wpAnyH_ready (rs := [17])
                · decide +kernel
                · simp
                refine acn ?_ (AllReadyH.nil)
            all_goals
              intro K hK
              rw [if_pos (by rfl)]
              first
              | refine wp_call9 13 _ _ rfl [.agg A.toArray, .int .u8 y.c, y.x.val] rfl Tryz.func13 (by kernel_rfl) (by kernel_rfl) ((HST.out _ HY.out).mono ?_)
                rintro e YC ⟨x1, rfl, hpp, hk, hf⟩
                refine ⟨_, rfl, ?_⟩
                try have HFA := Lib.hid (show KP.Ap x1 (fun q => q ≠ ga) from hf _ (HOL.out _ (fun q hq => by have := HGA.out; omega)) (fun q hq => by have := HLA.out; omega))
                try have HFB := Lib.hid (show KP.Ap x1 (fun q => q ≠ gb) from hf _ (HOL.out _ (fun q hq => by have := HGB.out; omega)) (fun q hq => by have := HLB.out; omega))
                have HFN := Lib.hid (show ∀ p : Nat → Prop, OL p → (∀ q, V0.heap.size ≤ q → p q) → KP.Ap x1 p from fun p h1 h2 => hf p h1 (fun q hq => h2 q (Nat.le_trans HY.out.size hq)))
                try replace HBA := Lib.hid (hk.heap HBA.out (by simp))
                try replace HBB := Lib.hid (hk.heap HBB.out (by simp))
                try replace HAT := Lib.hid (KP.new HAT.out hk)
                try replace HLA := Lib.hid (Nat.lt_of_lt_of_le HLA.out hk.size)
                try replace HLB := Lib.hid (Nat.lt_of_lt_of_le HLB.out hk.size)
                replace HY := Lib.hid (HY.out.trans hk (FSub.refl _ _))
                have HAT := Lib.hid hpp
                clear hpp hk hf
                refine hK.out _ _ (by rw [HSE.out]; exact HY.out) (fun hHeld => ?_); clear hK K; try simp only [Act.put, lsA, lsZ, lsS]
                refine tw 12 (h := ?_)
                refine tw 13 (h := ?_)
                refine tw 14 (h := ?_)
                refine tw 15 (h := ?_)
              | refine wp_allocW14 rfl ?_
                have hk : Keeps [] YC (YC.alloc (.cells wdZ.toArray 33)) := (Keeps.refl _ _).alloc _
                have hb := heap_alloc_new YC (.cells wdZ.toArray 33)
                try have HFA := Lib.hid (show KP.Ap x1 (fun q => q ≠ YC.heap.size) from KP.mono (KP.old HAT.out) (fun q hq => Nat.ne_of_lt hq))
                try have HAB := Lib.hid (show YC.heap.size ≠ gb from Nat.ne_of_gt HLB.out)
                have HGA := Lib.hid HY.out.size
                try replace HBA := Lib.hid (hk.heap HBA.out (by simp))
                try replace HBB := Lib.hid (hk.heap HBB.out (by simp))
                try replace HAT := Lib.hid (KP.new HAT.out hk)
                try replace HLA := Lib.hid (Nat.lt_of_lt_of_le HLA.out hk.size)
                try replace HLB := Lib.hid (Nat.lt_of_lt_of_le HLB.out hk.size)
                replace HY := Lib.hid (HY.out.trans hk (FSub.refl _ _))
                have HBA := Lib.hid hb
                have HLA := Lib.hid (lt_of_block hb)
                clear hk hb
                generalize YC.heap.size = ga at *
                generalize YC.alloc (.cells wdZ.toArray 33) = YC at *
                refine hK.out _ _ (by rw [HSE.out]; exact HY.out) (fun hHeld => ?_); clear hK K; try simp only [Act.put, lsA, lsZ, lsS]
              | refine wp_allocA _ _ _ _ rfl ?_
                have hk : Keeps [] YC (YC.alloc (.cells (ansC ⟨0, 0⟩).toArray 25)) := (Keeps.refl _ _).alloc _
                have hb := heap_alloc_new YC (.cells (ansC ⟨0, 0⟩).toArray 25)
                try have HFB := Lib.hid (show KP.Ap x1 (fun q => q ≠ YC.heap.size) from KP.mono (KP.old HAT.out) (fun q hq => Nat.ne_of_lt hq))
                try have HAB := Lib.hid (show ga ≠ YC.heap.size from Nat.ne_of_lt HLA.out)
                have HGB := Lib.hid HY.out.size
                try replace HBA := Lib.hid (hk.heap HBA.out (by simp))
                try replace HBB := Lib.hid (hk.heap HBB.out (by simp))
                try replace HAT := Lib.hid (KP.new HAT.out hk)
                try replace HLA := Lib.hid (Nat.lt_of_lt_of_le HLA.out hk.size)
                try replace HLB := Lib.hid (Nat.lt_of_lt_of_le HLB.out hk.size)
                replace HY := Lib.hid (HY.out.trans hk (FSub.refl _ _))
                have HBB := Lib.hid hb
                have HLB := Lib.hid (lt_of_block hb)
                clear hk hb
                generalize YC.heap.size = gb at *
                generalize YC.alloc (.cells (ansC ⟨0, 0⟩).toArray 25) = YC at *
                refine hK.out _ _ (by rw [HSE.out]; exact HY.out) (fun hHeld => ?_); clear hK K; try simp only [Act.put, lsA, lsZ, lsS]
        all_goals
          refine rp 18 (h := fun K hK => ?_)
          refine skW.wp_put rfl (g := ga) (old := wdZ) (A := KP.cs x1) (HOKP.out _ _ HAT.out) wdZ_ok rfl rfl HBA.out (fun YC hV hk => ?_)
          replace HBA := Lib.hid hV
          replace HBB := Lib.hid (hk.heap HBB.out (by have := HAB.out; simp; exact fun e => this e.symm))
          replace HAT := Lib.hid (KP.put HAT.out hk HFA.out)
          replace HY := Lib.hid (HY.out.trans' hk HGA.out)
          clear hV hk
          refine hK.out _ _ (by rw [HSE.out]; exact HY.out) (fun hHeld => ?_); clear hK K; try simp only [Act.put, lsA, lsZ, lsS]
          refine rp 19 (h := fun K hK => ?_)
          refine wp_putN rfl (g := gb) (old := ⟨0, 0⟩) r rfl rfl HBB.out (fun YC hV hk => ?_)
          replace HBB := Lib.hid hV
          replace HBA := Lib.hid (hk.heap HBA.out (by have := HAB.out; simpa using this))
          replace HAT := Lib.hid (KP.put HAT.out hk HFB.out)
          replace HY := Lib.hid (HY.out.trans' hk HGB.out)
          clear hV hk
          refine hK.out _ _ (by rw [HSE.out]; exact HY.out) (fun hHeld => ?_); clear hK K; try simp only [Act.put, lsA, lsZ, lsS]
          refine tw 20 (h := ?_)
          refine wpAnyH_done (by kernel_rfl) ?_ _
          refine NoPanic.normal ?_
          exact ⟨rfl, ga, gb, .agg (KP.cs x1).toArray, [_, _, _, _, _, _, _, _, _, _, _, _, _, _, _, _], rfl, x1, rfl, HBA.out, HBB.out, HAT.out, HY.out, HGA.out, HGB.out, HAB.out, HFN.out, KP.and_ HFA.out HFB.out⟩
      rintro qa qb zv us YD ⟨x1, rfl, hba, hbb, hp, hky, hga, hgb, hab, hol, hap⟩
      simp only [Act.put, lsA, lsZ, lsS]
      have hKP := HKP.out; have hOL := HOLE.out
      subst hKP
      subst hOL
      have HBA := Lib.hid (show YD.heap[qa]? = some (.cells x1.toArray 33 (0, 0)) from hba)
      have HP := Lib.hid (show WoAt R YD (.agg x1.toArray) (some W1) from hp); have HKY := Lib.hid hky
      have HO1 := Lib.hid (show skW.Ok x1 from kpW_ok R _ x1 YD hp)
      have HFN := Lib.hid (show ∀ q ∈ wFoot R (.agg x1.toArray), q ∈ wFoot R (.agg A0.toArray) ∨ w.heap.size + 2 ≤ q from hol (fun q => q ∈ wFoot R (.agg A0.toArray) ∨ w.heap.size + 2 ≤ q) HFT.out (fun q hq => .inr (Nat.le_trans HSZ.out hq)))
      have HBD := Lib.hid (hky.heap HB.out (by simp)); have HB1D := Lib.hid (hky.heap HB1.out (by simp)); have HKD := Lib.hid (HKW.out.trans hky (FSub.refl _ _)); have HSD := Lib.hid (Nat.le_trans HSZ.out hky.size)
      have HATD := Lib.hid (HAT.out.new hky)
      clear hba hbb hp hky hga hgb hab hol hap HST HOKP HOL HB HB1 HKW HSZ HAT HKP HOLE
      by_cases he : e1 = 0
      · subst he
        clear HBAD
        have HR1 := Lib.hid (block_range HBA.out)
        go_wp2_with (first
          | ((with_reducible refine wpList_loadW (g := qa) HO1.out ?_ ?_ HR1.out ?_); exact rfl; exact rfl)
          | ((with_reducible refine wpList_putW (g := w.heap.size) (old := A) (A := x1) HO1.out HA.out ?_ ?_ HBD.out ?_); exact rfl; exact rfl))
        intro YE hV hk
        have HVE := Lib.hid hV; have HB1E := Lib.hid (hk.heap HB1D.out (by simp)); have HPE := Lib.hid (HP.out.keep hk (fun q hq => by
          rcases HFN.out q hq with h | h
          · have := HOLD.out q h; simp; omega
          · simp; omega))
        have HKE := Lib.hid (HKD.out.trans hk (fun q hq => .inr (by simp at hq; omega))); have HSE2 := Lib.hid (Nat.le_trans HSD.out hk.size)
        clear hV hk
        go_wp2_with fail
        go_roundw
        case rel => exact ⟨k + 1, x1, by go_num, by omega, HO1.out, HVE.out, HB1E.out, by rw [HNX.out]; exact HPE.out, HFN.out, HKE.out, HSE2.out⟩
        case measure => simp [intOf]; omega
      · have q0 : (e1 == 0) = false := by simpa using he
        have HEQ := Lib.hid (HBAD.out he)
        clear he
        go_wp2_with fail
        go_roundw
        case rel => exact ⟨k + 1, A, by go_num, by omega, HA.out, HBD.out, HB1D.out, by rw [HNX.out, HEQ.out]; exact HATD.out, HFT.out, HKD.out, HSD.out⟩
        case measure => simp [intOf]; omega
    · obtain rfl : k = n := by omega
      have HRB := Lib.hid (block_range HB.out)
      have HTA := Lib.hid (show l.take k = l from List.take_of_length_le (by rw [HN2.out]; exact Nat.le_refl _))
      clear hlt hk
      go_wp2_with (first
        | ((with_reducible refine wpList_loadW (g := w.heap.size) HA.out ?_ ?_ HRB.out ?_); exact rfl; exact rfl)
        | ((with_reducible refine wpList_putW (g := w.heap.size + 1) (old := wdZ) (A := A) HA.out wdZ_ok ?_ ?_ HB1.out ?_); exact rfl; exact rfl))
      intro YE hV hk
      have HVE := Lib.hid hV; have HKE := Lib.hid hk
      clear hV hk
      go_wp2_with fail
      try simp only [Exit.inBlock, Exit.then]
      refine bodyPost_ret (results_sk skW rfl _ _ (w.heap.size + 1) HA.out rfl HVE.out) rfl ⟨A, rfl, ?_, HKW.out.trans HKE.out (fun q hq => .inr (by simp at hq; omega)), fun q hq => (HFT.out q hq).imp id (fun h => by omega)⟩
      have hat := HAT.out
      rw [HTA.out] at hat
      exact hat.keep HKE.out (fun q hq => by
        rcases HFT.out q hq with h | h
        · have := HOLD.out q h; simp; omega
        · simp; omega)
end Go.Proofs.YtbnhcggjcdipeaaGreatDoor
