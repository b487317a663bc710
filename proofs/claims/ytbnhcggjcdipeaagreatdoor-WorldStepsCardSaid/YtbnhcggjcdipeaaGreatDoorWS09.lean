/-
  The document's queue: Step.
-/
import Derived.Test.YtbnhcggjcdipeaaGreatDoorWS00
import Derived.Deep.RegionHeld3
import Derived.Laws.Tables
import Derived.BigQuiet
import Derived.Test.YtbnhcggjcdipeaaGreatDoorWS08
import Derived.Test.YtbnhcggjcdipeaaGreatDoorWS07
set_option linter.unusedSimpArgs false
set_option linter.unusedVariables false
namespace Go.Proofs.YtbnhcggjcdipeaaGreatDoor
open Go.RowKit
section
variable {ops : Array Oper} {rest : List Oper} {a : Act} {w : World} {Q : Exit → Act → World → Prop}
theorem wpList_putN {dst : Option Tmp} {ty : TypeId} {pos : String} {after : Array Edge} {x y : Operand} {g : Nat} {old : Ans} (r : Ans) {t : TypeId}
    (hx : a.eval x = .pointer (some ⟨g, 0, none⟩)) (hy : a.eval y = .agg (ansC r).toArray) (hg : w.heap[g]? = some (.cells (ansC old).toArray t (0, 0)))
    (h : ∀ W, W.heap[g]? = some (.cells (ansC r).toArray t (0, 0)) → Keeps [g] w W → wpList Tryz.prog ops Q rest (a.put dst undef) W) :
    wpList Tryz.prog ops Q ({ dst := dst, op := .store 25 x y, type := ty, pos := pos, after := after, guard := none } :: rest) a w :=
  wpList_store_row rfl 25 x y rfl g (ansC r).toArray hx hy t (ansC old).toArray hg (by kernel_rfl) rfl (by rw [← Array.all_toList, List.all_eq_true]; exact ansC_one r) (h _ (setRow_heap w g (ansC old).toArray (ansC r).toArray t (0, 0) hg) ((Keeps.refl [g] w).setRow g _ (.inl (by simp))))
end
/-- The rest of a slice. -/
theorem U16.tail {N : Nat} {w : World} {bk o n c : Nat} {y : Int} {r : List Int} (h : rkU.In N w (.slice (some ⟨bk, o, none⟩) n c) (y :: r)) {A : Option Addr} (hA : (if c = 1 then some (⟨bk, o, none⟩ : Addr) else some ⟨bk, o + 1, none⟩) = A) : rkU.In N w (.slice A (n - 1) (c - 1)) r := by
  obtain ⟨a2, c2, e, hc, hm, h⟩ := h
  simp only [Value.slice.injEq] at e
  obtain ⟨rfl, rfl, rfl⟩ := e
  obtain ⟨b2, o2, e, hb, hr⟩ := h (by simp)
  simp only [Option.some.injEq, Addr.mk.injEq, and_true] at e
  obtain ⟨rfl, rfl⟩ := e
  refine ⟨A, c - 1, by simp, by simp at hc; omega, by omega, fun hn => ?_⟩
  have hlen : 0 < r.length := List.length_pos_iff.2 hn
  rw [if_neg (by simp at hc; omega)] at hA
  refine ⟨bk, o + 1, hA.symm, hb, fun j hj => ?_⟩
  have h2 := hr (j + 1) (by simp; omega)
  rw [show o + (j + 1) * rkU.s = o + 1 + j * rkU.s from by show o + (j + 1) * 1 = o + 1 + j * 1; omega] at h2
  exact h2
theorem U16.slice1 (w : World) {bk o n c : Nat} (hn : 1 ≤ n) (hc : n ≤ c) :
    (Instr.sliceAt 78 (.slice (some ⟨bk, o, none⟩) n c) (some (.int .i64 1)) none none).run Tryz.prog w = .ok (.slice (if c = 1 then some ⟨bk, o, none⟩ else some ⟨bk, o + 1, none⟩) (n - 1) (c - 1)) w := by
  have h1 : (1 : Int) ≤ n := by omega
  have h2 : (n : Int) ≤ c := by omega
  simp [go_sem, run_underlying Tryz.underlying78, h1, h2]
theorem yields_slice1 {ops : Array Oper} {S : World → Prop} {o : Oper} {a : Act} (hw : Region.wanted o (yielded ops a.tmps) = true) (x : Operand) (ho : o.op = .slice 78 x (some (.const (.int .i64 1))) none none) {v v' : Value} (hx : a.eval x = v)
    (hr : ∀ w, (Instr.sliceAt 78 v (some (.int .i64 1)) none none).run Tryz.prog w = .ok v' w) : YieldsIf Tryz.prog ops S o v' a :=
  Or.inl ⟨hw, by
    intro w _
    unfold execOp
    have hc : a.eval (.const (.int .i64 1)) = .int .i64 1 := rfl
    simp only [ho, hx, Option.map_some, Option.map_none, hc]
    have h := hr w
    simp [h, Result.andThen]⟩
/-- The world behind the document's variables: an operation, an answer. -/
theorem step10_vars (w : World) (A : Array Value) :
    Keeps [] w ((w.alloc (.cells A 47)).alloc (.cells (ansC ⟨0, 0⟩).toArray 25)) ∧
    ((w.alloc (.cells A 47)).alloc (.cells (ansC ⟨0, 0⟩).toArray 25)).heap[w.heap.size]? = some (.cells A 47 (0, 0)) ∧
    ((w.alloc (.cells A 47)).alloc (.cells (ansC ⟨0, 0⟩).toArray 25)).heap[w.heap.size + 1]? = some (.cells (ansC ⟨0, 0⟩).toArray 25 (0, 0)) ∧
    ((w.alloc (.cells A 47)).alloc (.cells (ansC ⟨0, 0⟩).toArray 25)).heap.size = w.heap.size + 2 := by
  have e1 : (w.alloc (.cells A 47)).heap.size = w.heap.size + 1 := Array.size_push _
  refine ⟨((Keeps.refl _ _).alloc _).alloc _, ?_, ?_, ?_⟩
  · exact ((Keeps.refl [] _).alloc _).heap (heap_alloc_new w _) (by simp)
  · have h := heap_alloc_new (w.alloc (.cells A 47)) (.cells (ansC ⟨0, 0⟩).toArray 25)
    rw [e1] at h
    exact h
  · rw [show ((w.alloc (.cells A 47)).alloc (.cells (ansC ⟨0, 0⟩).toArray 25)).heap.size = (w.alloc (.cells A 47)).heap.size + 1 from Array.size_push _, e1]
set_option maxHeartbeats 8000000
set_option maxRecDepth 100000
/-- What the document's Step tells. -/
def Post10 (w : World) (v : Value) (l : List Int) (x : Opn) (e : Ending) (w' : World) : Prop :=
  ∃ v', e = .returned (.tuple #[v', .agg (ansC (quX l x).2.1).toArray, .int .i64 (quX l x).2.2]) ∧ rkU.In w'.heap.size w' v' (quX l x).1 ∧ Keeps [] w w' ∧ ((quX l x).1 ≠ [] → ∀ q ∈ own v', (l ≠ [] ∧ q ∈ own v) ∨ w.heap.size ≤ q)
theorem r10Step_any (w : World) {v : Value} {l : List Int} (h : rkU.In w.heap.size w v l) (hl : l.length ≤ 1000000) (x : Opn) (hx : x.In) :
    Calls Tryz.prog 56 #[v, x.val] w (Post10 w v l x) := by
  obtain ⟨a1, c1, rfl, hc1, hm1, -⟩ := id h
  have HW := Lib.hid (step10_vars w #[.int .u8 x.f, .int .u8 x.o, .int .u8 x.k, .int .u16 x.a, .int .u16 x.b])
  have HCK := Lib.hid (fun w => r4Check_any w 1 x.f x.o x.k x.a x.b (by decide) (by decide) hx)
  have HIN := Lib.hid h; have HL := Lib.hid hl
  clear h hl
  unfold Opn.val
  go_enter Tryz.func56, Tryz.ntmps56
  go_wp2_with fail
  refine (HCK.out _).mono ?_; rintro e w1 ⟨rfl, hk1⟩
  obtain ⟨R, hR⟩ : ∃ R, R = w.heap.size := ⟨_, rfl⟩
  have HWW := HW.out
  rw [← hR] at HWW ⊢
  simp only [show (ansC ⟨0, 0⟩).toArray = #[Value.int .u8 0, .int .u16 0] from rfl] at HWW
  generalize (w.alloc (.cells #[.int .u8 x.f, .int .u8 x.o, .int .u8 x.k, .int .u16 x.a, .int .u16 x.b] 47)).alloc (.cells #[.int .u8 0, .int .u16 0] 25) = W at *
  have HO := Lib.hid (hk1.heap HWW.2.1 (by simp))
  have HA := Lib.hid (show w1.heap[R + 1]? = some (.cells (ansC ⟨0, 0⟩).toArray 25 (0, 0)) from hk1.heap HWW.2.2.1 (by simp))
  have HK := Lib.hid (HWW.1.trans hk1 (FSub.refl _ _))
  have HRL := Lib.hid (show w.heap.size ≤ R from Nat.le_of_eq hR.symm)
  have HSZ := Lib.hid (show R + 2 ≤ w1.heap.size from by have := HWW.2.2.2; have := hk1.size; omega)
  have HIN1 := Lib.hid (HIN.out.new (HWW.1.trans hk1 (FSub.refl _ _)) (Nat.le_refl _))
  clear HWW HW hk1 hR HCK HIN
  rcases opChk_or 1 x with hck | hck
  · have HCK := Lib.hid hck
    rw [show (⟨x.f, x.o, x.k, x.a, x.b⟩ : Opn) = x from rfl, hck]
    have c0 : w1.cell? ⟨R, 0, none⟩ = some (.int .u8 x.f) := cell_lit HO.out 0 rfl
    by_cases hf : x.f = 4
    · have e4 : (x.f == 4) = true := by simpa using hf
      obtain ⟨v2, w2, hr2, ho2, hk2, hf2⟩ := rkU.appendIn w1 w1.heap.size (Nat.le_refl _) (.slice none 0 0) [] (RK.Own.nil _ _ _) HIN1.out (by simp; have := HL.out; omega)
      have HR2 := Lib.hid (show (Builtin.append_ #[78, 78] 78 #[.slice none 0 0, .slice a1 l.length c1]).run Tryz.prog w1 = .ok v2 w2 from hr2)
      have HO2 := Lib.hid ho2
      have HK2 := Lib.hid (show Keeps [] w1 w2 from hk2)
      have c3 : w2.cell? ⟨R, 3, none⟩ = some (.int .u16 x.a) := cell_lit (HK2.out.heap HO.out (by simp)) 3 rfl
      obtain ⟨v3, w3, hr3, ho3, hk3, hf3⟩ := rkU.append1 w2 w1.heap.size hk2.size v2 _ ho2 x.a (by simp; have := HL.out; omega)
      obtain ⟨a2, c2, rfl, hc2, hm2⟩ := ho2.shape
      have HR3 := Lib.hid (show (Builtin.append_ #[78, 78] 78 #[.slice a2 (([] : List Int) ++ l).length c2, .slice (some ⟨w2.heap.size, 0, none⟩) 1 1]).run Tryz.prog (w2.alloc (.cells #[.int .u16 x.a] 23)) = .ok v3 w3 from hr3)
      have HA3 := Lib.hid (hk3.heap (HK2.out.heap HA.out (by simp)) (fun hq => by have := (row_base HO2.out _ hq).1; have := HSZ.out; omega))
      have HO3 := Lib.hid ho3
      have HK3 := Lib.hid (show Keeps [] w w3 from (HK.out.trans HK2.out (FSub.refl _ _)).trans hk3 (fun q hq => .inr (by have := (row_base HO2.out _ hq).1; have := HSZ.out; have := HRL.out; omega)))
      clear hr2 ho2 hk2 hf2 hr3 ho3 hk3 hf3 hf hck HIN1
      go_wp2_with (first
        | ((with_reducible refine wpList_app (.slice none 0 0) _ ?_ ?_ HR2.out ?_); exact rfl; exact rfl)
        | ((with_reducible refine wpList_app _ (.slice (some ⟨w2.heap.size, 0, none⟩) 1 1) ?_ ?_ HR3.out ?_); exact rfl; exact rfl)
        | ((with_reducible refine wpList_putN (g := R + 1) (old := ⟨0, 0⟩) ⟨0, 0⟩ ?_ ?_ HA3.out ?_); exact rfl; exact rfl))
      intro W4 hA4 hk4
      have HA4 := Lib.hid hA4; have HK4 := Lib.hid hk4
      clear hA4 hk4
      go_wp2_with fail
      try simp only [Exit.inBlock, Exit.then]
      refine bodyPost_ret (results_ans rfl _ _ _ ⟨0, 0⟩ rfl HA4.out) rfl ⟨v3, by rw [quX_enq HCK.out (by simpa using e4)]; rfl, ?_, HK3.out.trans HK4.out (fun q hq => .inr (by simp at hq; have := HRL.out; omega)), fun _ q hq => .inr (by have := (row_base HO3.out q hq).1; have := HK.out.size; omega)⟩
      rw [quX_enq HCK.out (by simpa using e4)]
      exact (HO3.out.keeps HK4.out (fun q hq => by have := (row_base HO3.out q hq).1; have := HSZ.out; simp; omega)).in_
    · have e4 : (x.f == 4) = false := by simpa using hf
      cases l with
      | nil =>
        clear hck
        go_wp2_with ((with_reducible refine wpList_putN (g := R + 1) (old := ⟨0, 0⟩) ⟨2, 0⟩ ?_ ?_ HA.out ?_); exact rfl; exact rfl)
        intro W4 hA4 hk4
        have HA4 := Lib.hid hA4; have HK4 := Lib.hid hk4
        clear hA4 hk4
        go_wp2_with fail
        try simp only [Exit.inBlock, Exit.then]
        have hkk : Keeps [] w W4 := HK.out.trans HK4.out (fun q hq => .inr (by simp at hq; have := HRL.out; omega))
        refine bodyPost_ret (results_ans rfl _ _ _ ⟨2, 0⟩ rfl HA4.out) rfl ⟨_, by rw [quX_none HCK.out hf]; rfl, ?_, hkk, fun h => absurd (by rw [quX_none HCK.out hf]) h⟩
        rw [quX_none HCK.out hf]
        exact ⟨a1, c1, rfl, by simp, hm1, fun h => absurd rfl h⟩
      | cons y r =>
        clear hck
        have hy := U16.at (k := 0) HIN1.out (by simp)
        obtain ⟨bk, o, rfl, hb, d0⟩ := hy
        rw [show (y :: r).getD 0 0 = y from rfl] at d0
        obtain ⟨A, hA⟩ : ∃ A, (if c1 = 1 then some (⟨bk, o, none⟩ : Addr) else some ⟨bk, o + 1, none⟩) = A := ⟨_, rfl⟩
        have htail := U16.tail HIN1.out hA
        have hsl := fun w => U16.slice1 (bk := bk) (o := o) w (show 1 ≤ (y :: r).length by simp) hc1
        rw [hA] at hsl
        have HT := Lib.hid htail
        obtain ⟨v2, w2, hr2, ho2, hk2, hf2⟩ := rkU.appendIn w1.drew w1.heap.size (Nat.le_refl _) (.slice none 0 0) [] (RK.Own.nil _ _ _) (N := w.heap.size) (u := .slice A ((y :: r).length - 1) (c1 - 1)) (M := r) (htail.same (fun _ _ => rfl)) (by have := HL.out; simp at this ⊢; omega)
        have HR2 := Lib.hid (show (Builtin.append_ #[78, 78] 78 #[.slice none 0 0, .slice A ((y :: r).length - 1) (c1 - 1)]).run Tryz.prog w1.drew = .ok v2 w2 from hr2)
        have HO2 := Lib.hid ho2
        have HK2 := Lib.hid (show Keeps [] w1 w2 from ((Keeps.refl _ _).drew).trans hk2 (fun q hq => by simp [own, Value.ownBlock] at hq))
        obtain ⟨S, hS⟩ : ∃ S : World → Prop, S = fun y => Keeps [R + 1] w1 y := ⟨_, rfl⟩
        have HSE := Lib.hid hS
        have hSD : S w1.drew := by rw [hS]; exact (Keeps.refl _ _).drew
        have HS0 := Lib.hid (fun (w' : World) (h : S w') => show w'.cell? ⟨bk, o, none⟩ = some (.int .u16 y) from by rw [hS] at h; exact h.cell d0 (by simp; have := HRL.out; omega))
        have HSL := Lib.hid hsl
        have HA2 := Lib.hid (HK2.out.heap HA.out (by simp))
        clear hS hsl htail hr2 ho2 hk2 hf2 d0 hA
        go_wp2_with fail
        refine wp_region_noPanic ?_
        refine wp_region_held_drew (S := S) (by kernel_rfl) hSD (fun hHeld => ?_)
        refine tw 0 (h := ?_)
        refine tw 1 (h := ?_)
        refine tk 2 (y := by exact yields_slice1 (by rfl) (.tmp 31) rfl (v := .slice (some ⟨bk, o, none⟩) (y :: r).length c1) rfl HSL.out) (h := ?_)
        refine tw 4 (h := ?_)
        refine tw 5 (h := ?_)
        refine tk 6 (y := by exact Or.inl ⟨by rfl, by intro w hSw; have q0 := HS0.out w hSw; go_simp; try with_reducible rfl⟩) (h := ?_)
        refine tw 7 (h := ?_)
        refine rp 3 (h := fun K hK => ?_)
        refine wp_append_run _ _ 78 rfl _ _ _ w2 rfl rfl HR2.out ?_
        refine hK.out _ _ (by rw [HSE.out]; exact HK2.out.more (by simp)) (fun hHeld => ?_); clear hK K; try simp only [Act.put, lsA, lsZ, lsS]
        refine tw 8 (h := ?_)
        refine rp 9 (h := fun K hK => ?_)
        refine wp_store_row 25 _ _ rfl (R + 1) (ansC ⟨1, y⟩).toArray rfl rfl 25 (ansC ⟨0, 0⟩).toArray HA2.out (by kernel_rfl) rfl (by rw [← Array.all_toList, List.all_eq_true]; exact ansC_one _) ?_
        have hA4 := setRow_heap w2 (R + 1) (ansC ⟨0, 0⟩).toArray (ansC ⟨1, y⟩).toArray 25 (0, 0) HA2.out
        have hk4 : Keeps [R + 1] w2 (w2.setRow (R + 1) (ansC ⟨1, y⟩).toArray) := (Keeps.refl _ _).setRow _ _ (.inl (by simp))
        generalize w2.setRow (R + 1) (ansC ⟨1, y⟩).toArray = W4 at *
        have HA4 := Lib.hid hA4
        have HO4 := Lib.hid (HO2.out.keeps hk4 (fun q hq => by have := (row_base HO2.out q hq).1; have := HSZ.out; simp; omega))
        have HK5 := Lib.hid ((HK2.out.more (by simp)).trans hk4 (FSub.refl _ _))
        clear hA4 hk4
        refine hK.out _ _ (by rw [HSE.out]; exact HK5.out) (fun hHeld => ?_); clear hK K; try simp only [Act.put, lsA, lsZ, lsS]
        refine tw 10 (h := ?_)
        refine wpAnyH_done (by kernel_rfl) ?_ _
        refine NoPanic.normal ?_
        go_wp2_with fail
        try simp only [Exit.inBlock, Exit.then]
        refine bodyPost_ret (results_ans rfl _ _ _ ⟨1, y⟩ rfl HA4.out) rfl ⟨v2, by rw [quX_deq HCK.out hf]; rfl, ?_, HK.out.trans HK5.out (fun q hq => .inr (by simp at hq; have := HRL.out; omega)), fun _ q hq => .inr (by have := (row_base HO4.out q hq).1; have := HK.out.size; omega)⟩
        rw [quX_deq HCK.out hf]
        exact HO4.out.in_
  · have HCK := Lib.hid (show opChk 1 x ≠ 0 from by rw [hck]; decide)
    rw [show (⟨x.f, x.o, x.k, x.a, x.b⟩ : Opn) = x from rfl, hck]
    go_wp2_with ((with_reducible refine wpList_putN (g := R + 1) (old := ⟨0, 0⟩) ⟨0, 0⟩ ?_ ?_ HA.out ?_); exact rfl; exact rfl)
    intro W4 hA4 hk4
    have HA4 := Lib.hid hA4; have HK4 := Lib.hid hk4
    clear hA4 hk4
    go_wp2_with fail
    try simp only [Exit.inBlock, Exit.then]
    have hkk : Keeps [] w W4 := HK.out.trans HK4.out (fun q hq => .inr (by simp at hq; have := HRL.out; omega))
    refine bodyPost_ret (results_ans rfl _ _ _ ⟨0, 0⟩ rfl HA4.out) rfl ⟨_, by rw [quX_chk HCK.out]; rfl, ?_, hkk, fun h q hq => .inl ⟨by rw [quX_chk HCK.out] at h; exact h, hq⟩⟩
    rw [quX_chk HCK.out]
    exact RK.In.more (N := w.heap.size) (HIN1.out.same (HK4.out.same (by have := HK.out.size; omega) (fun q hq => by simp at hq; have := HRL.out; omega))) hkk.size
end Go.Proofs.YtbnhcggjcdipeaaGreatDoor
/-
  The document's queue: Encode, Decode.
-/
namespace Go.Proofs.YtbnhcggjcdipeaaGreatDoor
open Go.RowKit
theorem two_str10 (W : World) (x y : Int) : (convert 109 9 (.slice (some ⟨W.heap.size, 0, none⟩) 2 2)).run Tryz.prog (W.alloc (.cells #[.int .u8 x, .int .u8 y] 5)) = .ok (.string (strOfNums [x, y])) (W.alloc (.cells #[.int .u8 x, .int .u8 y] 5)) := by
  refine run_convert_bytes_arg _ _ _ Tryz.underlying109 Tryz.underlying5 W.heap.size 0 2 2 [x, y] (by simp) (fun i hi => ?_) _ Tryz.underlying9
  match i, hi with
  | 0, _ => simp
  | 1, _ => simp
  | i + 2, hi => exact absurd hi (by omega)
theorem two_strD (W : World) (x y : Int) : (convert 109 9 (.slice (some ⟨W.heap.size, 0, none⟩) 2 2)).run Tryz.prog (W.alloc (.cells #[.int .u8 x, .int .u8 y] 5)).drew = .ok (.string (strOfNums [x, y])) (W.alloc (.cells #[.int .u8 x, .int .u8 y] 5)).drew := by
  refine run_convert_bytes_arg _ _ _ Tryz.underlying109 Tryz.underlying5 W.heap.size 0 2 2 [x, y] (by simp) (fun i hi => ?_) _ Tryz.underlying9
  match i, hi with
  | 0, _ => simp
  | 1, _ => simp
  | i + 2, hi => exact absurd hi (by omega)
theorem two_nums10 {s : Int} (h : 0 ≤ s ∧ s < 65536) : strOfNums [s / 256, s % 256] = bs (quB [s]) := by
  rw [← str_nb]
  have e : nb (quB [s]) = [s / 256, s % 256] := by
    simp only [nb, quB, List.flatMap_cons, List.flatMap_nil, List.append_nil, List.map_cons, List.map_nil, UInt8.toNat_ofNat', List.cons.injEq, and_true]
    omega
  rw [e]
set_option maxHeartbeats 8000000
set_option maxRecDepth 100000
theorem r10Encode_any (w : World) {v : Value} {l : List Int} (h : rkU.In w.heap.size w v l) (hl : l.length ≤ 10000) (hu : U16s l) :
    Calls Tryz.prog 61 #[v] w fun e w' => e = .returned (.string (bs (quB l))) ∧ Keeps [] w w' := by
  obtain ⟨a1, c1, rfl, hc1, hm1, -⟩ := id h
  have HIN := Lib.hid h; have HU := Lib.hid hu
  clear h hu
  generalize hn2 : l.length = n at *
  have HN2 := Lib.hid hn2
  clear hn2
  go_enter Tryz.func61, Tryz.ntmps61
  go_wp2_with fail
  go_loopw [3, 4] (fun t i wr => ∃ k : Nat, i = .int .i64 k ∧ k ≤ n ∧ t = .string (bs (quB (l.take k))) ∧ Keeps [] w wr) (fun _ i _ => n - (intOf i).toNat)
  case atStart => exact ⟨0, rfl, by omega, rfl, Keeps.refl _ _⟩
  case round =>
    obtain ⟨k, rfl, hk, rfl, hkw⟩ := hrel
    by_cases hlt : k < n
    · have hkl : k < l.length := by have := HN2.out; omega
      obtain ⟨b1, o1, rfl, _, d1⟩ := U16.at (HIN.out.new hkw (Nat.le_refl _)) hkl
      have hX := HU.out _ (getD_in 0 hkl)
      have HNX := Lib.hid (show bs (quB (l.take (k + 1))) = bs (quB (l.take k)) ++ bs (quB [l.getD k 0]) from by rw [take_nextD 0 hkl, quB_app, bs_app])
      have HK := Lib.hid hkw
      clear hkw
      generalize l.getD k 0 = X at *
      have hts : (bs (quB (l.take k))).size ≤ 20000 := by
        show (quB (l.take k)).toArray.size ≤ _
        rw [List.size_toArray, quB_len, List.length_take]
        omega
      generalize bs (quB (l.take k)) = T at *
      have hsz : ∀ a b : Int, ¬ 9223372036854775807 < T.size + (strOfNums [a, b]).size := fun a b => by
        have : (strOfNums [a, b]).size = 2 := rfl
        omega
      clear hts
      have hdv : IntKind.u16.wrap (X.tdiv 256) % 256 = X / 256 := by
        rw [Int.tdiv_eq_ediv_of_nonneg hX.1]
        simp [IntKind.wrap, IntKind.signed, IntKind.bits]
        omega
      have HTN := Lib.hid (show strOfNums [IntKind.u16.wrap (X.tdiv 256) % 256, X % 256] = bs (quB [X]) from by rw [hdv]; exact two_nums10 hX)
      clear hdv
      have hcv := two_strD
      go_wp2_with fail
      go_region
      have HKA := Lib.hid (show Keeps [] w ((wr.alloc (.cells #[.int .u8 (IntKind.u16.wrap (X.tdiv 256) % 256), .int .u8 (X % 256)] 5)).drew) from (HK.out.alloc _).drew)
      rw [HTN.out]
      go_wp2_with fail
      go_roundw
      case rel => exact ⟨k + 1, by go_num, by omega, by rw [HNX.out], HKA.out⟩
      case measure => simp [intOf]; omega
    · obtain rfl : k = n := by omega
      have hall : l.take k = l := by rw [← HN2.out, List.take_length]
      rw [hall]
      have HK := Lib.hid hkw
      clear hkw
      go_wp2_with fail
      go_ret
      exact ⟨rfl, HK.out⟩
theorem wp_buildU {o : Oper} {a : Act} {w : World} {K : Act → World → Prop} {Q : Exit → Act → World → Prop} (x : Operand) (ho : o.op = .buildSlice 78 1 #[(0, x)]) {y : Int} (hx : a.eval x = .int .u16 y)
    (h : K (a.put o.dst (.slice (some ⟨w.heap.size, 0, none⟩) 1 1)) (w.alloc (.cells #[.int .u16 y] 23))) : o.wp Tryz.prog a w K Q := by
  refine wp_buildSlice 78 23 1 #[(0, x)] ho #[.int .u16 y] rkU.i _ rkU.und rkU.hi rkU.hz (by rw [rkU.hs]; decide) (by rw [rkU.hs]; decide) ?_ h
  rw [rkU.hs]
  have e : (#[(0, x)].map fun (i, z) => (i, a.eval z)).toList = [(0, a.eval x)] := by simp
  rw [e, hx, show rkU.s = 1 from rfl, show rkU.z = .int .u16 0 from rfl]
  simp [Instr.fill, Value.cells]
  rw [show Array.range 1 = #[0] from by decide]
  apply Array.ext'
  simp
theorem yields_idx {ops : Array Oper} {S : World → Prop} {o : Oper} {a : Act} (hw : Region.wanted o (yielded ops a.tmps) = true) (x y : Operand) (ho : o.op = .index 9 x y) {s z : Value} {i : Int} (hx : a.eval x = s) (hy : a.eval y = .int .i64 i)
    (hr : ∀ w, (Instr.index 9 s (.int .i64 i)).run Tryz.prog w = .ok z w) : YieldsIf Tryz.prog ops S o z a :=
  Or.inl ⟨hw, by
    intro w _
    unfold execOp
    have h := hr w
    simp only [ho, hx, hy, h, Sem.run_bind]
    simp [h, Result.andThen]⟩
theorem str_at10 (w : World) (b : List UInt8) (i : Nat) (hi : i < b.length) : (Instr.index 9 (.string (bs b)) (.int .i64 i)).run Tryz.prog w = .ok (.int .u8 (b.getD i 0).toNat) w := by
  have h1 : i < (bs b).size := by show i < b.toArray.size; simpa using hi
  have h2 : (bs b)[i]'h1 = b[i] := rfl
  simp [Instr.index, run_underlying Tryz.underlying9, asIntOf, part, go_sem, h1, List.getElem?_eq_getElem hi]
  rw [h2]
  rfl
end Go.Proofs.YtbnhcggjcdipeaaGreatDoor
/-
  The law's steps and works, over any queue.
-/
namespace Go.Proofs.YtbnhcggjcdipeaaGreatDoor
open Go.RowKit
variable {G : World → Prop}
section
variable {o : Oper} {a : Act} {w : World} {K : Act → World → Prop} {Q : Exit → Act → World → Prop}
theorem run_allocA (w : World) : (Instr.alloc 25 true (.tuple #[])).run Tryz.prog w = .ok (.pointer (some ⟨w.heap.size, 0, none⟩)) (w.alloc (.cells (ansC ⟨0, 0⟩).toArray 25)) := by kernel_rfl
theorem wp_allocA (o : Oper) (a : Act) (w : World) (K : Act → World → Prop) (ho : o.op = .alloc 25) (h : K (a.put o.dst (.pointer (some ⟨w.heap.size, 0, none⟩))) (w.alloc (.cells (ansC ⟨0, 0⟩).toArray 25))) : o.wp Tryz.prog a w K Q := by
  unfold Oper.wp execOp
  simp only [ho, Sem.run_bind, run_allocA, Result.andThen_ok, Sem.run_pure]
  exact h
end
set_option maxHeartbeats 8000000
set_option maxRecDepth 100000
end Go.Proofs.YtbnhcggjcdipeaaGreatDoor
/-
  The document's key map: a step.
-/
namespace Go.Proofs.YtbnhcggjcdipeaaGreatDoor
open Go.RowKit
section
variable {o : Oper} {a : Act} {w : World} {K : Act → World → Prop} {Q : Exit → Act → World → Prop}
theorem wp_call11 {fn : Func} (f : FuncId) (args : Array Operand) (tys : Array TypeId) (ho : o.op = .call { callee := .value (.func f), args := args, argTypes := tys }) (vs : List Value) (hv : args.toList.map a.eval = vs)
    (hf : Tryz.prog.funcs[f]? = some fn) (hname : (fn.name == "runtime.NumGoroutine") = false) (hb : fn.body.isNone = false)
    (h : Calls Tryz.prog f vs.toArray w fun e w' => ∃ v, e = .returned v ∧ K (a.put o.dst v) w') : o.wp Tryz.prog a w K Q := by
  have hv2 : args.map a.eval = vs.toArray := by rw [← hv]; apply Array.ext'; simp
  unfold Oper.wp execOp
  have h1 : fn.name ≠ "runtime.NumGoroutine" := by simpa using hname
  have h2 : ∃ z, fn.body = some z := by
    cases h : fn.body with
    | none => rw [h] at hb; cases hb
    | some z => exact ⟨z, rfl⟩
  obtain ⟨z, h2⟩ := h2
  simp only [ho, resolve, invoke, Sem.run_bind, Sem.run_pure, Result.andThen_ok, hv2, Act.eval, Deferred.ofValue, Array.empty_append, Array.append_empty]
  simp [callFunc, hf, h1, h2, Sem.run]
  rw [Oper.upon_enter]
  exact h.mono fun e w' ⟨v, he, hk⟩ => by subst he; exact hk
theorem wp_buildI {y : It} (x : Operand) (ho : o.op = .buildSlice 79 1 #[(0, x)]) (hx : a.eval x = .agg (itC y).toArray)
    (h : K (a.put o.dst (.slice (some ⟨w.heap.size, 0, none⟩) 1 1)) (w.alloc (.cells (itC y).toArray 158))) : o.wp Tryz.prog a w K Q :=
  rkI.wp_build1 x ho hx (by show (2 : Nat) ≤ 10000; decide) h
end
/-- One item in a block of its own. -/
theorem It.fresh (w : World) (x : It) : rkI.In (w.heap.size + 1) (w.alloc (.cells (itC x).toArray 158)) (.slice (some ⟨w.heap.size, 0, none⟩) 1 1) [x] := by
  refine ⟨_, 1, rfl, Nat.le_refl _, by decide, fun _ => ⟨_, 0, rfl, Nat.lt_succ_self _, fun j hj => ?_⟩⟩
  obtain rfl : j = 0 := by simp at hj; omega
  intro i u hi
  have := heap_alloc_new w (.cells (itC x).toArray 158)
  simp only [World.cell?, this]
  have h2 : (itC x)[i]? = some u := hi
  simpa using h2
set_option maxHeartbeats 8000000
set_option maxRecDepth 100000
theorem kvX_bad {l : List It} {x : Opn} (hb : 7 < x.k ∨ x.f < 6 ∨ 9 < x.f) : kvX l x = (l, ⟨0, 0⟩, 10) := by
  unfold kvX; rw [if_pos hb]
theorem kvX_put {l : List It} {o k a b : Int} (hb : ¬ 7 < k) : kvX l ⟨7, o, k, a, b⟩ = (wo (idxI (itIdx k l)) 0 l ++ [⟨k, a⟩], ⟨0, 0⟩, 0) := by
  unfold kvX; rw [if_neg (by simpa using hb), if_pos rfl]
theorem kvX_get0 {l : List It} {o k a b : Int} (hb : ¬ 7 < k) (hi : itIdx k l = none) : kvX l ⟨6, o, k, a, b⟩ = (l, ⟨2, 0⟩, 0) := by
  unfold kvX; rw [if_neg (by simpa using hb), if_neg (by simp), hi]; rfl
theorem kvX_get1 {l : List It} {o k a b : Int} (hb : ¬ 7 < k) {i : Nat} (hi : itIdx k l = some i) : kvX l ⟨6, o, k, a, b⟩ = (l, ⟨1, (l.getD i ⟨0, 0⟩).v⟩, 0) := by
  unfold kvX; rw [if_neg (by simpa using hb), if_neg (by simp), hi]; rfl
theorem kvX_del0 {l : List It} {o k a b : Int} (hb : ¬ 7 < k) (hi : itIdx k l = none) : kvX l ⟨8, o, k, a, b⟩ = (l, ⟨4, 0⟩, 0) := by
  unfold kvX; rw [if_neg (by simpa using hb), if_neg (by simp), hi]; rfl
theorem kvX_del1 {l : List It} {o k a b : Int} (hb : ¬ 7 < k) {i : Nat} (hi : itIdx k l = some i) : kvX l ⟨8, o, k, a, b⟩ = (wo i 0 l, ⟨3, 0⟩, 0) := by
  unfold kvX; rw [if_neg (by simpa using hb), if_neg (by simp), hi]; rfl
theorem kvX_cas0 {l : List It} {o k a b : Int} (hb : ¬ 7 < k) (hi : itIdx k l = none) : kvX l ⟨9, o, k, a, b⟩ = (l, ⟨4, 0⟩, 0) := by
  unfold kvX; rw [if_neg (by simpa using hb), if_neg (by simp), hi]; rfl
theorem kvX_cas1 {l : List It} {o k a b : Int} (hb : ¬ 7 < k) {i : Nat} (hi : itIdx k l = some i) (hv : (l.getD i ⟨0, 0⟩).v ≠ a) : kvX l ⟨9, o, k, a, b⟩ = (l, ⟨4, 0⟩, 0) := by
  unfold kvX; rw [if_neg (by simpa using hb), if_neg (by simp), hi]; exact if_neg hv
theorem kvX_cas2 {l : List It} {o k a b : Int} (hb : ¬ 7 < k) {i : Nat} (hi : itIdx k l = some i) (hv : (l.getD i ⟨0, 0⟩).v = a) : kvX l ⟨9, o, k, a, b⟩ = (wo i 0 l ++ [⟨k, b⟩], ⟨3, 0⟩, 0) := by
  unfold kvX; rw [if_neg (by simpa using hb), if_neg (by simp), hi]; exact if_pos hv
/-- What the document's Step tells. -/
def Post11 (w : World) (v : Value) (l : List It) (x : Opn) (e : Ending) (w' : World) : Prop :=
  ∃ v', e = .returned (.tuple #[v', .agg (ansC (kvX l x).2.1).toArray, .int .i64 (kvX l x).2.2]) ∧ rkI.In w'.heap.size w' v' (kvX l x).1 ∧ Keeps [] w w' ∧ ((kvX l x).1 ≠ [] → ∀ q ∈ own v', (l ≠ [] ∧ q ∈ own v) ∨ w.heap.size ≤ q)
theorem r11Step_any (w : World) {v : Value} {l : List It} (h : rkI.In w.heap.size w v l) (hl : l.length ≤ 1000000) (x : Opn) :
    Calls Tryz.prog 57 #[v, x.val] w (Post11 w v l x) := by
  obtain ⟨a1, c1, rfl, hc1, hm1, -⟩ := id h
  obtain ⟨f, o, k, a, b⟩ := x
  have HW := Lib.hid (step10_vars w #[.int .u8 f, .int .u8 o, .int .u8 k, .int .u16 a, .int .u16 b])
  have HIN := Lib.hid h
  have HAT := Lib.hid (fun (w' : World) (hk : Keeps [] w w') => r11at_any w' (h.new hk (Nat.le_refl _)) hl k)
  generalize hn2 : l.length = n at *
  have HN2 := Lib.hid hn2; have HL := Lib.hid hl
  clear h hl hn2
  unfold Opn.val
  by_cases hb : 7 < k ∨ f < 6 ∨ 9 < f
  · have HX := Lib.hid (kvX_bad (l := l) (x := ⟨f, o, k, a, b⟩) hb)
    by_cases h1 : 7 < k
    · have t1 : (decide (k > 7)) = true := by simpa using h1
      clear h1 hb
      try clear h2
      go_enter Tryz.func57, Tryz.ntmps57
      go_wp2_with fail
      refine bodyPost_ret (results_ans rfl _ _ _ ⟨0, 0⟩ rfl HW.out.2.2.1) rfl ⟨_, by rw [HX.out]; rfl, ?_, HW.out.1, fun hne q hq => .inl ⟨by rw [HX.out] at hne; exact hne, hq⟩⟩
      rw [HX.out]
      exact (HIN.out.new HW.out.1 (Nat.le_refl _)).more HW.out.1.size
    · have t1 : (decide (k > 7)) = false := by simpa using h1
      by_cases h2 : f < 6
      · have t2 : (decide (f < 6)) = true := by simpa using h2
        clear h1 hb
        try clear h2
        go_enter Tryz.func57, Tryz.ntmps57
        go_wp2_with fail
        refine bodyPost_ret (results_ans rfl _ _ _ ⟨0, 0⟩ rfl HW.out.2.2.1) rfl ⟨_, by rw [HX.out]; rfl, ?_, HW.out.1, fun hne q hq => .inl ⟨by rw [HX.out] at hne; exact hne, hq⟩⟩
        rw [HX.out]
        exact (HIN.out.new HW.out.1 (Nat.le_refl _)).more HW.out.1.size
      · have t2 : (decide (f < 6)) = false := by simpa using h2
        have t3 : (decide (f > 9)) = true := by simp; omega
        clear h1 hb
        try clear h2
        go_enter Tryz.func57, Tryz.ntmps57
        go_wp2_with fail
        refine bodyPost_ret (results_ans rfl _ _ _ ⟨0, 0⟩ rfl HW.out.2.2.1) rfl ⟨_, by rw [HX.out]; rfl, ?_, HW.out.1, fun hne q hq => .inl ⟨by rw [HX.out] at hne; exact hne, hq⟩⟩
        rw [HX.out]
        exact (HIN.out.new HW.out.1 (Nat.le_refl _)).more HW.out.1.size
  · have t1 : (decide (k > 7)) = false := by simp; omega
    have hf : f = 6 ∨ f = 7 ∨ f = 8 ∨ f = 9 := by omega
    have hk7 : ¬ 7 < k := fun h => hb (.inl h)
    clear hb
    cases hi : itIdx k l with
    | none =>
      have hi2 : idxI (itIdx k l) = -1 := by rw [hi]; rfl
      rcases hf with rfl | rfl | rfl | rfl
      · have HX := Lib.hid (kvX_get0 (o := o) (a := a) (b := b) hk7 hi)
        go_enter Tryz.func57, Tryz.ntmps57
        go_wp2_with fail
        have HW2 : Keeps [] w ((w.alloc (.cells #[.int .u8 6, .int .u8 o, .int .u8 k, .int .u16 a, .int .u16 b] 47)).alloc (.cells #[.int .u8 0, .int .u16 0] 25)) := HW.out.1
        refine (HAT.out _ HW2).mono ?_; clear HW2; rintro e w1 ⟨rfl, rfl⟩
        rw [hi2]
        obtain ⟨R, hR⟩ : ∃ R, R = w.heap.size := ⟨_, rfl⟩
        have HWW := HW.out
        rw [← hR] at HWW ⊢
        simp only [show (ansC ⟨0, 0⟩).toArray = #[Value.int .u8 0, .int .u16 0] from rfl] at HWW
        generalize (w.alloc (.cells #[.int .u8 6, .int .u8 o, .int .u8 k, .int .u16 a, .int .u16 b] 47)).alloc (.cells #[.int .u8 0, .int .u16 0] 25) = W at *
        have HO := Lib.hid HWW.2.1
        have HA := Lib.hid (show W.heap[R + 1]? = some (.cells (ansC ⟨0, 0⟩).toArray 25 (0, 0)) from HWW.2.2.1)
        have HK := Lib.hid HWW.1
        have HRL := Lib.hid (show w.heap.size ≤ R from Nat.le_of_eq hR.symm)
        have HSZ := Lib.hid (show R + 2 ≤ W.heap.size from Nat.le_of_eq HWW.2.2.2.symm)
        have HIN1 := Lib.hid (HIN.out.new HWW.1 (Nat.le_refl _))
        clear HWW HW hR HAT HIN
        have c0 : W.cell? ⟨R, 0, none⟩ = some (.int .u8 6) := cell_lit HO.out 0 rfl
        have c3 : W.cell? ⟨R, 3, none⟩ = some (.int .u16 a) := cell_lit HO.out 3 rfl
        clear hi hi2 hk7
        go_wp2_with ((with_reducible refine wpList_putN (g := R + 1) (old := ⟨0, 0⟩) ⟨2, 0⟩ ?_ ?_ HA.out ?_); exact rfl; exact rfl)
        intro W4 hA4 hk4
        have HA4 := Lib.hid hA4; have HK4 := Lib.hid hk4
        clear hA4 hk4
        go_wp2_with fail
        try simp only [Exit.inBlock, Exit.then]
        have hkk : Keeps [] w W4 := HK.out.trans HK4.out (fun q hq => .inr (by simp at hq; have := HRL.out; omega))
        refine bodyPost_ret (results_ans rfl _ _ _ ⟨2, 0⟩ rfl HA4.out) rfl ⟨_, by rw [HX.out]; rfl, ?_, hkk, fun hne q hq => .inl ⟨by rw [HX.out] at hne; exact hne, hq⟩⟩
        rw [HX.out]
        exact (HIN1.out.keeps HK4.out (fun hne q hq => by have := HIN1.out.old hne q hq; have := HRL.out; simp; omega)).more (by have := hkk.size; omega)
      · have HX := Lib.hid (kvX_put (l := l) (o := o) (a := a) (b := b) hk7)
        rw [hi2] at HX
        go_enter Tryz.func57, Tryz.ntmps57
        go_wp2_with fail
        have HW2 : Keeps [] w ((w.alloc (.cells #[.int .u8 7, .int .u8 o, .int .u8 k, .int .u16 a, .int .u16 b] 47)).alloc (.cells #[.int .u8 0, .int .u16 0] 25)) := HW.out.1
        refine (HAT.out _ HW2).mono ?_; clear HW2; rintro e w1 ⟨rfl, rfl⟩
        rw [hi2]
        obtain ⟨R, hR⟩ : ∃ R, R = w.heap.size := ⟨_, rfl⟩
        have HWW := HW.out
        rw [← hR] at HWW ⊢
        simp only [show (ansC ⟨0, 0⟩).toArray = #[Value.int .u8 0, .int .u16 0] from rfl] at HWW
        generalize (w.alloc (.cells #[.int .u8 7, .int .u8 o, .int .u8 k, .int .u16 a, .int .u16 b] 47)).alloc (.cells #[.int .u8 0, .int .u16 0] 25) = W at *
        have HO := Lib.hid HWW.2.1
        have HA := Lib.hid (show W.heap[R + 1]? = some (.cells (ansC ⟨0, 0⟩).toArray 25 (0, 0)) from HWW.2.2.1)
        have HK := Lib.hid HWW.1
        have HRL := Lib.hid (show w.heap.size ≤ R from Nat.le_of_eq hR.symm)
        have HSZ := Lib.hid (show R + 2 ≤ W.heap.size from Nat.le_of_eq HWW.2.2.2.symm)
        have HIN1 := Lib.hid (HIN.out.new HWW.1 (Nat.le_refl _))
        clear HWW HW hR HAT HIN
        have c0 : W.cell? ⟨R, 0, none⟩ = some (.int .u8 7) := cell_lit HO.out 0 rfl
        have c3 : W.cell? ⟨R, 3, none⟩ = some (.int .u16 a) := cell_lit HO.out 3 rfl
        clear hi hi2 hk7
        go_wp2_with fail
        obtain ⟨S, hS⟩ : ∃ S : World → Prop, S = fun y => Keeps [R + 1] W y := ⟨_, rfl⟩
        have HSE := Lib.hid hS
        have hSD : S W.drew := by rw [hS]; exact (Keeps.refl _ _).drew
        have HC2 := Lib.hid (fun (w' : World) (h : S w') => show w'.cell? ⟨R, 2, none⟩ = some (.int .u8 k) from by rw [hS] at h; exact h.cell (cell_lit HO.out 2 rfl) (by simp))
        have HC3 := Lib.hid (fun (w' : World) (h : S w') => show w'.cell? ⟨R, 3, none⟩ = some (.int .u16 a) from by rw [hS] at h; exact h.cell (cell_lit HO.out 3 rfl) (by simp))
        have HC4 := Lib.hid (fun (w' : World) (h : S w') => show w'.cell? ⟨R, 4, none⟩ = some (.int .u16 b) from by rw [hS] at h; exact h.cell (cell_lit HO.out 4 rfl) (by simp))
        have hd0 : Keeps [] W W.drew := (Keeps.refl _ _).drew
        clear hS
        refine wp_region_noPanic ?_
        refine wp_region_held_drew (S := S) (by kernel_rfl) hSD (fun hHeld => ?_)
        generalize W.drew = Y0 at *
        have HK0 := Lib.hid hd0
        clear hd0
        refine tw 0 (h := ?_)
        refine tw 1 (h := ?_)
        refine tw 3 (h := ?_)
        refine tk 4 (y := by exact Or.inl ⟨by rfl, by intro w hSw; have q0 := HC2.out w hSw; go_simp; try with_reducible rfl⟩) (h := ?_)
        refine tw 5 (h := ?_)
        refine tk 6 (y := by exact Or.inl ⟨by rfl, by intro w hSw; have q0 := HC3.out w hSw; go_simp; try with_reducible rfl⟩) (h := ?_)
        refine tw 7 (h := ?_)
        refine tw 10 (h := ?_)
        apply wpAnyH_ready (rs := [2, 8])
        · kernel_rfl
        · simp
        apply AllReadyH.cons
        · simp only [List.getElem?_toArray]; rfl
        · intro K hK
          rw [if_pos (by rfl)]
          refine wp_call11 79 _ _ rfl [.slice _ n c1, .int .i64 (-1)] rfl Tryz.func79 (by kernel_rfl) (by kernel_rfl) ((r11without_any Y0 ((HIN1.out.new HK0.out HK.out.size).more (Nat.le_trans HK.out.size HK0.out.size)) (by rw [HN2.out]; exact HL.out) _).mono ?_)
          rintro e Y1 ⟨v2, rfl, ho2, hk2⟩
          refine ⟨_, rfl, ?_⟩
          have HK1 := Lib.hid (HK0.out.trans hk2 (FSub.refl _ _))
          have HO2 := Lib.hid ho2; have HSY := Lib.hid hk2.size
          clear ho2 hk2
          refine hK.out _ _ ?_ (fun hHeld => ?_)
          · rw [HSE.out]; exact HK1.out.more (by simp)
          clear hK K
          try simp only [Act.put, lsA, lsZ, lsS]
          refine rp 8 (h := fun K hK => ?_)
          refine wp_buildI (y := ⟨k, a⟩) _ rfl rfl ?_
          refine hK.out _ _ (by rw [HSE.out]; exact (HK1.out.alloc _).more (by simp)) (fun hHeld => ?_); clear hK K; try simp only [Act.put, lsA, lsZ, lsS]
          obtain ⟨v3, w3, hr3, ho3, hk3, hf3⟩ := rkI.append1 Y1 Y0.heap.size HSY.out v2 _ HO2.out ⟨k, a⟩ (by have := wo_len (-1) 0 l; have := HN2.out; have := HL.out; omega)
          have HR3 := Lib.hid (show (Builtin.append_ #[79, 79] 79 #[v2, .slice (some ⟨Y1.heap.size, 0, none⟩) 1 1]).run Tryz.prog (Y1.alloc (.cells (itC ⟨k, a⟩).toArray 158)) = .ok v3 w3 from hr3)
          have HK3 := Lib.hid (show Keeps [] W w3 from HK1.out.trans hk3 (fun q hq => .inr (by have := (row_base HO2.out _ hq).1; have := HK0.out.size; omega)))
          have HO3 := Lib.hid (show rkI.Own Y0.heap.size w3 v3 _ from ho3)
          have HB := Lib.hid HK0.out.size
          clear hr3 ho3 hk3 hf3
          refine rp 9 (h := fun K hK => ?_)
          refine wp_append_run _ _ 79 rfl _ _ _ w3 rfl rfl HR3.out ?_
          refine hK.out _ _ (by rw [HSE.out]; exact HK3.out.more (by simp)) (fun hHeld => ?_); clear hK K; try simp only [Act.put, lsA, lsZ, lsS]
          refine tw 11 (h := ?_)
          have HA3 := Lib.hid (HK3.out.heap HA.out (by simp))
          refine rp 12 (h := fun K hK => ?_)
          refine wp_store_row 25 _ _ rfl (R + 1) (ansC ⟨0, 0⟩).toArray rfl rfl 25 (ansC ⟨0, 0⟩).toArray HA3.out (by kernel_rfl) rfl (by rw [← Array.all_toList, List.all_eq_true]; exact ansC_one _) ?_
          have hA4 := setRow_heap w3 (R + 1) (ansC ⟨0, 0⟩).toArray (ansC ⟨0, 0⟩).toArray 25 (0, 0) HA3.out
          have hk4 : Keeps [R + 1] w3 (w3.setRow (R + 1) (ansC ⟨0, 0⟩).toArray) := (Keeps.refl _ _).setRow _ _ (.inl (by simp))
          generalize w3.setRow (R + 1) (ansC ⟨0, 0⟩).toArray = W4 at *
          have HA4 := Lib.hid hA4
          have HO4 := Lib.hid (HO3.out.keeps hk4 (fun q hq => by have := (row_base HO3.out q hq).1; have := HSZ.out; have := HB.out; simp; omega))
          have HK5 := Lib.hid ((HK3.out.more (by simp)).trans hk4 (FSub.refl _ _))
          clear hA4 hk4
          refine hK.out _ _ (by rw [HSE.out]; exact HK5.out) (fun hHeld => ?_); clear hK K; try simp only [Act.put, lsA, lsZ, lsS]
          refine tw 13 (h := ?_)
          refine wpAnyH_done (by kernel_rfl) ?_ _
          refine NoPanic.normal ?_
          go_wp2_with fail
          try simp only [Exit.inBlock, Exit.then]
          refine bodyPost_ret (results_ans rfl _ _ _ ⟨0, 0⟩ rfl HA4.out) rfl ⟨_, by rw [HX.out]; rfl, ?_, HK.out.trans HK5.out (fun q hq => .inr (by simp at hq; have := HRL.out; omega)), fun _ q hq => .inr (by have := (row_base HO4.out q hq).1; have := HK.out.size; have := HB.out; omega)⟩
          rw [HX.out]
          exact HO4.out.in_
        apply AllReadyH.cons (hs := AllReadyH.nil)
        · simp only [List.getElem?_toArray]; rfl
        intro K hK
        rw [if_pos (by rfl)]
        refine wp_buildI (y := ⟨k, a⟩) _ rfl rfl ?_
        have HKA := Lib.hid (HK0.out.alloc (.cells (itC ⟨k, a⟩).toArray 158))
        have hrI : rkI.In (Y0.heap.size + 1) (Y0.alloc (.cells (itC ⟨k, a⟩).toArray 158)) (.slice (some ⟨Y0.heap.size, 0, none⟩) 1 1) [⟨k, a⟩] := It.fresh Y0 _
        have hsA : (Y0.alloc (.cells (itC ⟨k, a⟩).toArray 158)).heap.size = Y0.heap.size + 1 := Array.size_push _
        rw [show (some (⟨Y0.heap.size, 0, none⟩ : Addr)) = some ⟨Y0.heap.size, 0, none⟩ from rfl]
        generalize Y0.alloc (.cells (itC ⟨k, a⟩).toArray 158) = YA at *
        have HRI := Lib.hid hrI; have HSA := Lib.hid hsA
        clear hrI hsA
        refine hK.out _ _ (by rw [HSE.out]; exact HKA.out.more (by simp)) (fun hHeld => ?_); clear hK K; try simp only [Act.put, lsA, lsZ, lsS]
        refine rp 2 (h := fun K hK => ?_)
        refine wp_call11 79 _ _ rfl [.slice _ n c1, .int .i64 (-1)] rfl Tryz.func79 (by kernel_rfl) (by kernel_rfl) ((r11without_any YA ((HIN1.out.new HKA.out HK.out.size).more (Nat.le_trans HK.out.size HKA.out.size)) (by rw [HN2.out]; exact HL.out) _).mono ?_)
        rintro e Y1 ⟨v2, rfl, ho2, hk2⟩
        refine ⟨_, rfl, ?_⟩
        have HK1 := Lib.hid (HKA.out.trans hk2 (FSub.refl _ _))
        have HO2 := Lib.hid ho2; have HSY := Lib.hid hk2.size
        have HRI2 := Lib.hid (HRI.out.new hk2 (by have := HSA.out; omega))
        clear ho2 hk2
        refine hK.out _ _ (by rw [HSE.out]; exact HK1.out.more (by simp)) (fun hHeld => ?_); clear hK K; try simp only [Act.put, lsA, lsZ, lsS]
        obtain ⟨v3, w3, hr3, ho3, hk3, hf3⟩ := rkI.appendIn Y1 YA.heap.size HSY.out v2 _ HO2.out HRI2.out (by have := wo_len (-1) 0 l; have := HN2.out; have := HL.out; simp; omega)
        have HR3 := Lib.hid (show (Builtin.append_ #[79, 79] 79 #[v2, .slice (some ⟨Y0.heap.size, 0, none⟩) 1 1]).run Tryz.prog Y1 = .ok v3 w3 from hr3)
        have HK3 := Lib.hid (show Keeps [] W w3 from HK1.out.trans hk3 (fun q hq => .inr (by have := (row_base HO2.out _ hq).1; have := HKA.out.size; omega)))
        have HO3 := Lib.hid (show rkI.Own YA.heap.size w3 v3 _ from ho3)
        have HB := Lib.hid HKA.out.size
        clear hr3 ho3 hk3 hf3
        refine rp 9 (h := fun K hK => ?_)
        refine wp_append_run _ _ 79 rfl _ _ _ w3 rfl rfl HR3.out ?_
        refine hK.out _ _ (by rw [HSE.out]; exact HK3.out.more (by simp)) (fun hHeld => ?_); clear hK K; try simp only [Act.put, lsA, lsZ, lsS]
        refine tw 11 (h := ?_)
        have HA3 := Lib.hid (HK3.out.heap HA.out (by simp))
        refine rp 12 (h := fun K hK => ?_)
        refine wp_store_row 25 _ _ rfl (R + 1) (ansC ⟨0, 0⟩).toArray rfl rfl 25 (ansC ⟨0, 0⟩).toArray HA3.out (by kernel_rfl) rfl (by rw [← Array.all_toList, List.all_eq_true]; exact ansC_one _) ?_
        have hA4 := setRow_heap w3 (R + 1) (ansC ⟨0, 0⟩).toArray (ansC ⟨0, 0⟩).toArray 25 (0, 0) HA3.out
        have hk4 : Keeps [R + 1] w3 (w3.setRow (R + 1) (ansC ⟨0, 0⟩).toArray) := (Keeps.refl _ _).setRow _ _ (.inl (by simp))
        generalize w3.setRow (R + 1) (ansC ⟨0, 0⟩).toArray = W4 at *
        have HA4 := Lib.hid hA4
        have HO4 := Lib.hid (HO3.out.keeps hk4 (fun q hq => by have := (row_base HO3.out q hq).1; have := HSZ.out; have := HB.out; simp; omega))
        have HK5 := Lib.hid ((HK3.out.more (by simp)).trans hk4 (FSub.refl _ _))
        clear hA4 hk4
        refine hK.out _ _ (by rw [HSE.out]; exact HK5.out) (fun hHeld => ?_); clear hK K; try simp only [Act.put, lsA, lsZ, lsS]
        refine tw 13 (h := ?_)
        refine wpAnyH_done (by kernel_rfl) ?_ _
        refine NoPanic.normal ?_
        go_wp2_with fail
        try simp only [Exit.inBlock, Exit.then]
        refine bodyPost_ret (results_ans rfl _ _ _ ⟨0, 0⟩ rfl HA4.out) rfl ⟨_, by rw [HX.out]; rfl, ?_, HK.out.trans HK5.out (fun q hq => .inr (by simp at hq; have := HRL.out; omega)), fun _ q hq => .inr (by have := (row_base HO4.out q hq).1; have := HK.out.size; have := HB.out; omega)⟩
        rw [HX.out]
        exact HO4.out.in_
      · have HX := Lib.hid (kvX_del0 (o := o) (a := a) (b := b) hk7 hi)
        go_enter Tryz.func57, Tryz.ntmps57
        go_wp2_with fail
        have HW2 : Keeps [] w ((w.alloc (.cells #[.int .u8 8, .int .u8 o, .int .u8 k, .int .u16 a, .int .u16 b] 47)).alloc (.cells #[.int .u8 0, .int .u16 0] 25)) := HW.out.1
        refine (HAT.out _ HW2).mono ?_; clear HW2; rintro e w1 ⟨rfl, rfl⟩
        rw [hi2]
        obtain ⟨R, hR⟩ : ∃ R, R = w.heap.size := ⟨_, rfl⟩
        have HWW := HW.out
        rw [← hR] at HWW ⊢
        simp only [show (ansC ⟨0, 0⟩).toArray = #[Value.int .u8 0, .int .u16 0] from rfl] at HWW
        generalize (w.alloc (.cells #[.int .u8 8, .int .u8 o, .int .u8 k, .int .u16 a, .int .u16 b] 47)).alloc (.cells #[.int .u8 0, .int .u16 0] 25) = W at *
        have HO := Lib.hid HWW.2.1
        have HA := Lib.hid (show W.heap[R + 1]? = some (.cells (ansC ⟨0, 0⟩).toArray 25 (0, 0)) from HWW.2.2.1)
        have HK := Lib.hid HWW.1
        have HRL := Lib.hid (show w.heap.size ≤ R from Nat.le_of_eq hR.symm)
        have HSZ := Lib.hid (show R + 2 ≤ W.heap.size from Nat.le_of_eq HWW.2.2.2.symm)
        have HIN1 := Lib.hid (HIN.out.new HWW.1 (Nat.le_refl _))
        clear HWW HW hR HAT HIN
        have c0 : W.cell? ⟨R, 0, none⟩ = some (.int .u8 8) := cell_lit HO.out 0 rfl
        have c3 : W.cell? ⟨R, 3, none⟩ = some (.int .u16 a) := cell_lit HO.out 3 rfl
        clear hi hi2 hk7
        go_wp2_with ((with_reducible refine wpList_putN (g := R + 1) (old := ⟨0, 0⟩) ⟨4, 0⟩ ?_ ?_ HA.out ?_); exact rfl; exact rfl)
        intro W4 hA4 hk4
        have HA4 := Lib.hid hA4; have HK4 := Lib.hid hk4
        clear hA4 hk4
        go_wp2_with fail
        try simp only [Exit.inBlock, Exit.then]
        have hkk : Keeps [] w W4 := HK.out.trans HK4.out (fun q hq => .inr (by simp at hq; have := HRL.out; omega))
        refine bodyPost_ret (results_ans rfl _ _ _ ⟨4, 0⟩ rfl HA4.out) rfl ⟨_, by rw [HX.out]; rfl, ?_, hkk, fun hne q hq => .inl ⟨by rw [HX.out] at hne; exact hne, hq⟩⟩
        rw [HX.out]
        exact (HIN1.out.keeps HK4.out (fun hne q hq => by have := HIN1.out.old hne q hq; have := HRL.out; simp; omega)).more (by have := hkk.size; omega)
      · have HX := Lib.hid (kvX_cas0 (o := o) (a := a) (b := b) hk7 hi)
        go_enter Tryz.func57, Tryz.ntmps57
        go_wp2_with fail
        have HW2 : Keeps [] w ((w.alloc (.cells #[.int .u8 9, .int .u8 o, .int .u8 k, .int .u16 a, .int .u16 b] 47)).alloc (.cells #[.int .u8 0, .int .u16 0] 25)) := HW.out.1
        refine (HAT.out _ HW2).mono ?_; clear HW2; rintro e w1 ⟨rfl, rfl⟩
        rw [hi2]
        obtain ⟨R, hR⟩ : ∃ R, R = w.heap.size := ⟨_, rfl⟩
        have HWW := HW.out
        rw [← hR] at HWW ⊢
        simp only [show (ansC ⟨0, 0⟩).toArray = #[Value.int .u8 0, .int .u16 0] from rfl] at HWW
        generalize (w.alloc (.cells #[.int .u8 9, .int .u8 o, .int .u8 k, .int .u16 a, .int .u16 b] 47)).alloc (.cells #[.int .u8 0, .int .u16 0] 25) = W at *
        have HO := Lib.hid HWW.2.1
        have HA := Lib.hid (show W.heap[R + 1]? = some (.cells (ansC ⟨0, 0⟩).toArray 25 (0, 0)) from HWW.2.2.1)
        have HK := Lib.hid HWW.1
        have HRL := Lib.hid (show w.heap.size ≤ R from Nat.le_of_eq hR.symm)
        have HSZ := Lib.hid (show R + 2 ≤ W.heap.size from Nat.le_of_eq HWW.2.2.2.symm)
        have HIN1 := Lib.hid (HIN.out.new HWW.1 (Nat.le_refl _))
        clear HWW HW hR HAT HIN
        have c0 : W.cell? ⟨R, 0, none⟩ = some (.int .u8 9) := cell_lit HO.out 0 rfl
        have c3 : W.cell? ⟨R, 3, none⟩ = some (.int .u16 a) := cell_lit HO.out 3 rfl
        clear hi hi2 hk7
        go_wp2_with fail
        go_quiet (fail)
        have hd : Keeps [R + 1] W (W.drewN nq) := (Keeps.refl _ _).drewN _
        have HAq := Lib.hid (show (W.drewN nq).heap[R + 1]? = _ from HA.out)
        go_wp2_with ((with_reducible refine wpList_putN (g := R + 1) (old := ⟨0, 0⟩) ⟨4, 0⟩ ?_ ?_ HAq.out ?_); exact rfl; exact rfl)
        intro W4 hA4 hk4
        have HA4 := Lib.hid hA4; have HK4 := Lib.hid (hd.trans hk4 (FSub.refl _ _))
        clear hA4 hk4 hd HAq
        go_wp2_with fail
        try simp only [Exit.inBlock, Exit.then]
        have hkk : Keeps [] w W4 := HK.out.trans HK4.out (fun q hq => .inr (by simp at hq; have := HRL.out; omega))
        refine bodyPost_ret (results_ans rfl _ _ _ ⟨4, 0⟩ rfl HA4.out) rfl ⟨_, by rw [HX.out]; rfl, ?_, hkk, fun hne q hq => .inl ⟨by rw [HX.out] at hne; exact hne, hq⟩⟩
        rw [HX.out]
        exact (HIN1.out.keeps HK4.out (fun hne q hq => by have := HIN1.out.old hne q hq; have := HRL.out; simp; omega)).more (by have := hkk.size; omega)
    | some i =>
      have hi2 : idxI (itIdx k l) = i := by rw [hi]; rfl
      obtain ⟨hil, hik⟩ := itIdx_some hi
      have hin : i < n := by have := HN2.out; omega
      have hgd : l.getD i ⟨0, 0⟩ = l[i] := by simp [List.getD, hil]
      obtain ⟨bk, of, rfl, hbk, hrow⟩ := It.at (by have h := HIN.out; rw [← HN2.out] at h; exact h) hil
      have HM := Lib.hid (it_cells hrow).2
      have HBK := Lib.hid hbk
      have tn : (decide ((i : Int) < 0)) = false := by simp
      rw [← hgd] at hik HM
      obtain ⟨V, hV⟩ : ∃ V, V = (l.getD i ⟨0, 0⟩).v := ⟨_, rfl⟩
      rw [← hV] at HM
      clear hrow hbk hgd hik
      rcases hf with rfl | rfl | rfl | rfl
      · have HX := Lib.hid (kvX_get1 (o := o) (a := a) (b := b) hk7 hi)
        rw [← hV] at HX
        go_enter Tryz.func57, Tryz.ntmps57
        go_wp2_with fail
        have HW2 : Keeps [] w ((w.alloc (.cells #[.int .u8 6, .int .u8 o, .int .u8 k, .int .u16 a, .int .u16 b] 47)).alloc (.cells #[.int .u8 0, .int .u16 0] 25)) := HW.out.1
        refine (HAT.out _ HW2).mono ?_; clear HW2; rintro e w1 ⟨rfl, rfl⟩
        rw [hi2]
        obtain ⟨R, hR⟩ : ∃ R, R = w.heap.size := ⟨_, rfl⟩
        have HWW := HW.out
        rw [← hR] at HWW ⊢
        simp only [show (ansC ⟨0, 0⟩).toArray = #[Value.int .u8 0, .int .u16 0] from rfl] at HWW
        generalize (w.alloc (.cells #[.int .u8 6, .int .u8 o, .int .u8 k, .int .u16 a, .int .u16 b] 47)).alloc (.cells #[.int .u8 0, .int .u16 0] 25) = W at *
        have HO := Lib.hid HWW.2.1
        have HA := Lib.hid (show W.heap[R + 1]? = some (.cells (ansC ⟨0, 0⟩).toArray 25 (0, 0)) from HWW.2.2.1)
        have HK := Lib.hid HWW.1
        have HRL := Lib.hid (show w.heap.size ≤ R from Nat.le_of_eq hR.symm)
        have HSZ := Lib.hid (show R + 2 ≤ W.heap.size from Nat.le_of_eq HWW.2.2.2.symm)
        have HIN1 := Lib.hid (HIN.out.new HWW.1 (Nat.le_refl _))
        clear HWW HW hR HAT HIN
        have c0 : W.cell? ⟨R, 0, none⟩ = some (.int .u8 6) := cell_lit HO.out 0 rfl
        have c3 : W.cell? ⟨R, 3, none⟩ = some (.int .u16 a) := cell_lit HO.out 3 rfl
        have m1 := HK.out.cell HM.out (by simp)
        clear hi hi2 hk7 hV
        go_wp2_with fail
        obtain ⟨S, hS⟩ : ∃ S : World → Prop, S = fun y => Keeps [R + 1] W y := ⟨_, rfl⟩
        have HSE := Lib.hid hS
        have hSD : S W.drew := by rw [hS]; exact (Keeps.refl _ _).drew
        have HS0 := Lib.hid (fun (w' : World) (h : S w') => show w'.cell? ⟨bk, of + i * 2 + 1, none⟩ = some (.int .u16 V) from by rw [hS] at h; exact h.cell m1 (by simp; have := HRL.out; have := HBK.out; omega))
        clear hS
        refine wp_region_noPanic ?_
        refine wp_region_held_drew (S := S) (by kernel_rfl) hSD (fun hHeld => ?_)
        refine tw 0 (h := ?_)
        refine tw 1 (h := ?_)
        refine tw 2 (h := ?_)
        refine tw 3 (h := ?_)
        refine tw 4 (h := ?_)
        refine tk 5 (y := by exact Or.inl ⟨by rfl, by intro w hSw; have q0 := HS0.out w hSw; go_simp; try with_reducible rfl⟩) (h := ?_)
        refine tw 6 (h := ?_)
        refine tw 7 (h := ?_)
        refine rp 8 (h := fun K hK => ?_)
        refine wp_store_row 25 _ _ rfl (R + 1) (ansC ⟨1, V⟩).toArray rfl rfl 25 (ansC ⟨0, 0⟩).toArray (((Keeps.refl [] W).drew).heap HA.out (by simp)) (by kernel_rfl) rfl (by rw [← Array.all_toList, List.all_eq_true]; exact ansC_one _) ?_
        have hA4 := setRow_heap W.drew (R + 1) (ansC ⟨0, 0⟩).toArray (ansC ⟨1, V⟩).toArray 25 (0, 0) (((Keeps.refl [] W).drew).heap HA.out (by simp))
        have hk4 : Keeps [R + 1] W (W.drew.setRow (R + 1) (ansC ⟨1, V⟩).toArray) := ((Keeps.refl _ _).drew).setRow _ _ (.inl (by simp))
        generalize W.drew.setRow (R + 1) (ansC ⟨1, V⟩).toArray = W4 at *
        have HA4 := Lib.hid hA4; have HK4 := Lib.hid hk4
        clear hA4 hk4
        refine hK.out _ _ (by rw [HSE.out]; exact HK4.out) (fun hHeld => ?_); clear hK K; try simp only [Act.put, lsA, lsZ, lsS]
        refine tw 9 (h := ?_)
        refine wpAnyH_done (by kernel_rfl) ?_ _
        refine NoPanic.normal ?_
        go_wp2_with fail
        try simp only [Exit.inBlock, Exit.then]
        have hkk : Keeps [] w W4 := HK.out.trans HK4.out (fun q hq => .inr (by simp at hq; have := HRL.out; omega))
        refine bodyPost_ret (results_ans rfl _ _ _ ⟨1, V⟩ rfl HA4.out) rfl ⟨_, by rw [HX.out]; rfl, ?_, hkk, fun hne q hq => .inl ⟨by rw [HX.out] at hne; exact hne, hq⟩⟩
        rw [HX.out]
        exact (HIN1.out.keeps HK4.out (fun hne q hq => by have := HIN1.out.old hne q hq; have := HRL.out; simp; omega)).more (by have := hkk.size; omega)
      · have HX := Lib.hid (kvX_put (l := l) (o := o) (a := a) (b := b) hk7)
        rw [hi2] at HX
        go_enter Tryz.func57, Tryz.ntmps57
        go_wp2_with fail
        have HW2 : Keeps [] w ((w.alloc (.cells #[.int .u8 7, .int .u8 o, .int .u8 k, .int .u16 a, .int .u16 b] 47)).alloc (.cells #[.int .u8 0, .int .u16 0] 25)) := HW.out.1
        refine (HAT.out _ HW2).mono ?_; clear HW2; rintro e w1 ⟨rfl, rfl⟩
        rw [hi2]
        obtain ⟨R, hR⟩ : ∃ R, R = w.heap.size := ⟨_, rfl⟩
        have HWW := HW.out
        rw [← hR] at HWW ⊢
        simp only [show (ansC ⟨0, 0⟩).toArray = #[Value.int .u8 0, .int .u16 0] from rfl] at HWW
        generalize (w.alloc (.cells #[.int .u8 7, .int .u8 o, .int .u8 k, .int .u16 a, .int .u16 b] 47)).alloc (.cells #[.int .u8 0, .int .u16 0] 25) = W at *
        have HO := Lib.hid HWW.2.1
        have HA := Lib.hid (show W.heap[R + 1]? = some (.cells (ansC ⟨0, 0⟩).toArray 25 (0, 0)) from HWW.2.2.1)
        have HK := Lib.hid HWW.1
        have HRL := Lib.hid (show w.heap.size ≤ R from Nat.le_of_eq hR.symm)
        have HSZ := Lib.hid (show R + 2 ≤ W.heap.size from Nat.le_of_eq HWW.2.2.2.symm)
        have HIN1 := Lib.hid (HIN.out.new HWW.1 (Nat.le_refl _))
        clear HWW HW hR HAT HIN
        have c0 : W.cell? ⟨R, 0, none⟩ = some (.int .u8 7) := cell_lit HO.out 0 rfl
        have c3 : W.cell? ⟨R, 3, none⟩ = some (.int .u16 a) := cell_lit HO.out 3 rfl
        clear hi hi2 hk7 hV
        go_wp2_with fail
        obtain ⟨S, hS⟩ : ∃ S : World → Prop, S = fun y => Keeps [R + 1] W y := ⟨_, rfl⟩
        have HSE := Lib.hid hS
        have hSD : S W.drew := by rw [hS]; exact (Keeps.refl _ _).drew
        have HC2 := Lib.hid (fun (w' : World) (h : S w') => show w'.cell? ⟨R, 2, none⟩ = some (.int .u8 k) from by rw [hS] at h; exact h.cell (cell_lit HO.out 2 rfl) (by simp))
        have HC3 := Lib.hid (fun (w' : World) (h : S w') => show w'.cell? ⟨R, 3, none⟩ = some (.int .u16 a) from by rw [hS] at h; exact h.cell (cell_lit HO.out 3 rfl) (by simp))
        have HC4 := Lib.hid (fun (w' : World) (h : S w') => show w'.cell? ⟨R, 4, none⟩ = some (.int .u16 b) from by rw [hS] at h; exact h.cell (cell_lit HO.out 4 rfl) (by simp))
        have hd0 : Keeps [] W W.drew := (Keeps.refl _ _).drew
        clear hS
        refine wp_region_noPanic ?_
        refine wp_region_held_drew (S := S) (by kernel_rfl) hSD (fun hHeld => ?_)
        generalize W.drew = Y0 at *
        have HK0 := Lib.hid hd0
        clear hd0
        refine tw 0 (h := ?_)
        refine tw 1 (h := ?_)
        refine tw 3 (h := ?_)
        refine tk 4 (y := by exact Or.inl ⟨by rfl, by intro w hSw; have q0 := HC2.out w hSw; go_simp; try with_reducible rfl⟩) (h := ?_)
        refine tw 5 (h := ?_)
        refine tk 6 (y := by exact Or.inl ⟨by rfl, by intro w hSw; have q0 := HC3.out w hSw; go_simp; try with_reducible rfl⟩) (h := ?_)
        refine tw 7 (h := ?_)
        refine tw 10 (h := ?_)
        apply wpAnyH_ready (rs := [2, 8])
        · kernel_rfl
        · simp
        apply AllReadyH.cons
        · simp only [List.getElem?_toArray]; rfl
        · intro K hK
          rw [if_pos (by rfl)]
          refine wp_call11 79 _ _ rfl [.slice _ n c1, .int .i64 i] rfl Tryz.func79 (by kernel_rfl) (by kernel_rfl) ((r11without_any Y0 ((HIN1.out.new HK0.out HK.out.size).more (Nat.le_trans HK.out.size HK0.out.size)) (by rw [HN2.out]; exact HL.out) _).mono ?_)
          rintro e Y1 ⟨v2, rfl, ho2, hk2⟩
          refine ⟨_, rfl, ?_⟩
          have HK1 := Lib.hid (HK0.out.trans hk2 (FSub.refl _ _))
          have HO2 := Lib.hid ho2; have HSY := Lib.hid hk2.size
          clear ho2 hk2
          refine hK.out _ _ ?_ (fun hHeld => ?_)
          · rw [HSE.out]; exact HK1.out.more (by simp)
          clear hK K
          try simp only [Act.put, lsA, lsZ, lsS]
          refine rp 8 (h := fun K hK => ?_)
          refine wp_buildI (y := ⟨k, a⟩) _ rfl rfl ?_
          refine hK.out _ _ (by rw [HSE.out]; exact (HK1.out.alloc _).more (by simp)) (fun hHeld => ?_); clear hK K; try simp only [Act.put, lsA, lsZ, lsS]
          obtain ⟨v3, w3, hr3, ho3, hk3, hf3⟩ := rkI.append1 Y1 Y0.heap.size HSY.out v2 _ HO2.out ⟨k, a⟩ (by have := wo_len i 0 l; have := HN2.out; have := HL.out; omega)
          have HR3 := Lib.hid (show (Builtin.append_ #[79, 79] 79 #[v2, .slice (some ⟨Y1.heap.size, 0, none⟩) 1 1]).run Tryz.prog (Y1.alloc (.cells (itC ⟨k, a⟩).toArray 158)) = .ok v3 w3 from hr3)
          have HK3 := Lib.hid (show Keeps [] W w3 from HK1.out.trans hk3 (fun q hq => .inr (by have := (row_base HO2.out _ hq).1; have := HK0.out.size; omega)))
          have HO3 := Lib.hid (show rkI.Own Y0.heap.size w3 v3 _ from ho3)
          have HB := Lib.hid HK0.out.size
          clear hr3 ho3 hk3 hf3
          refine rp 9 (h := fun K hK => ?_)
          refine wp_append_run _ _ 79 rfl _ _ _ w3 rfl rfl HR3.out ?_
          refine hK.out _ _ (by rw [HSE.out]; exact HK3.out.more (by simp)) (fun hHeld => ?_); clear hK K; try simp only [Act.put, lsA, lsZ, lsS]
          refine tw 11 (h := ?_)
          have HA3 := Lib.hid (HK3.out.heap HA.out (by simp))
          refine rp 12 (h := fun K hK => ?_)
          refine wp_store_row 25 _ _ rfl (R + 1) (ansC ⟨0, 0⟩).toArray rfl rfl 25 (ansC ⟨0, 0⟩).toArray HA3.out (by kernel_rfl) rfl (by rw [← Array.all_toList, List.all_eq_true]; exact ansC_one _) ?_
          have hA4 := setRow_heap w3 (R + 1) (ansC ⟨0, 0⟩).toArray (ansC ⟨0, 0⟩).toArray 25 (0, 0) HA3.out
          have hk4 : Keeps [R + 1] w3 (w3.setRow (R + 1) (ansC ⟨0, 0⟩).toArray) := (Keeps.refl _ _).setRow _ _ (.inl (by simp))
          generalize w3.setRow (R + 1) (ansC ⟨0, 0⟩).toArray = W4 at *
          have HA4 := Lib.hid hA4
          have HO4 := Lib.hid (HO3.out.keeps hk4 (fun q hq => by have := (row_base HO3.out q hq).1; have := HSZ.out; have := HB.out; simp; omega))
          have HK5 := Lib.hid ((HK3.out.more (by simp)).trans hk4 (FSub.refl _ _))
          clear hA4 hk4
          refine hK.out _ _ (by rw [HSE.out]; exact HK5.out) (fun hHeld => ?_); clear hK K; try simp only [Act.put, lsA, lsZ, lsS]
          refine tw 13 (h := ?_)
          refine wpAnyH_done (by kernel_rfl) ?_ _
          refine NoPanic.normal ?_
          go_wp2_with fail
          try simp only [Exit.inBlock, Exit.then]
          refine bodyPost_ret (results_ans rfl _ _ _ ⟨0, 0⟩ rfl HA4.out) rfl ⟨_, by rw [HX.out]; rfl, ?_, HK.out.trans HK5.out (fun q hq => .inr (by simp at hq; have := HRL.out; omega)), fun _ q hq => .inr (by have := (row_base HO4.out q hq).1; have := HK.out.size; have := HB.out; omega)⟩
          rw [HX.out]
          exact HO4.out.in_
        apply AllReadyH.cons (hs := AllReadyH.nil)
        · simp only [List.getElem?_toArray]; rfl
        intro K hK
        rw [if_pos (by rfl)]
        refine wp_buildI (y := ⟨k, a⟩) _ rfl rfl ?_
        have HKA := Lib.hid (HK0.out.alloc (.cells (itC ⟨k, a⟩).toArray 158))
        have hrI : rkI.In (Y0.heap.size + 1) (Y0.alloc (.cells (itC ⟨k, a⟩).toArray 158)) (.slice (some ⟨Y0.heap.size, 0, none⟩) 1 1) [⟨k, a⟩] := It.fresh Y0 _
        have hsA : (Y0.alloc (.cells (itC ⟨k, a⟩).toArray 158)).heap.size = Y0.heap.size + 1 := Array.size_push _
        rw [show (some (⟨Y0.heap.size, 0, none⟩ : Addr)) = some ⟨Y0.heap.size, 0, none⟩ from rfl]
        generalize Y0.alloc (.cells (itC ⟨k, a⟩).toArray 158) = YA at *
        have HRI := Lib.hid hrI; have HSA := Lib.hid hsA
        clear hrI hsA
        refine hK.out _ _ (by rw [HSE.out]; exact HKA.out.more (by simp)) (fun hHeld => ?_); clear hK K; try simp only [Act.put, lsA, lsZ, lsS]
        refine rp 2 (h := fun K hK => ?_)
        refine wp_call11 79 _ _ rfl [.slice _ n c1, .int .i64 i] rfl Tryz.func79 (by kernel_rfl) (by kernel_rfl) ((r11without_any YA ((HIN1.out.new HKA.out HK.out.size).more (Nat.le_trans HK.out.size HKA.out.size)) (by rw [HN2.out]; exact HL.out) _).mono ?_)
        rintro e Y1 ⟨v2, rfl, ho2, hk2⟩
        refine ⟨_, rfl, ?_⟩
        have HK1 := Lib.hid (HKA.out.trans hk2 (FSub.refl _ _))
        have HO2 := Lib.hid ho2; have HSY := Lib.hid hk2.size
        have HRI2 := Lib.hid (HRI.out.new hk2 (by have := HSA.out; omega))
        clear ho2 hk2
        refine hK.out _ _ (by rw [HSE.out]; exact HK1.out.more (by simp)) (fun hHeld => ?_); clear hK K; try simp only [Act.put, lsA, lsZ, lsS]
        obtain ⟨v3, w3, hr3, ho3, hk3, hf3⟩ := rkI.appendIn Y1 YA.heap.size HSY.out v2 _ HO2.out HRI2.out (by have := wo_len i 0 l; have := HN2.out; have := HL.out; simp; omega)
        have HR3 := Lib.hid (show (Builtin.append_ #[79, 79] 79 #[v2, .slice (some ⟨Y0.heap.size, 0, none⟩) 1 1]).run Tryz.prog Y1 = .ok v3 w3 from hr3)
        have HK3 := Lib.hid (show Keeps [] W w3 from HK1.out.trans hk3 (fun q hq => .inr (by have := (row_base HO2.out _ hq).1; have := HKA.out.size; omega)))
        have HO3 := Lib.hid (show rkI.Own YA.heap.size w3 v3 _ from ho3)
        have HB := Lib.hid HKA.out.size
        clear hr3 ho3 hk3 hf3
        refine rp 9 (h := fun K hK => ?_)
        refine wp_append_run _ _ 79 rfl _ _ _ w3 rfl rfl HR3.out ?_
        refine hK.out _ _ (by rw [HSE.out]; exact HK3.out.more (by simp)) (fun hHeld => ?_); clear hK K; try simp only [Act.put, lsA, lsZ, lsS]
        refine tw 11 (h := ?_)
        have HA3 := Lib.hid (HK3.out.heap HA.out (by simp))
        refine rp 12 (h := fun K hK => ?_)
        refine wp_store_row 25 _ _ rfl (R + 1) (ansC ⟨0, 0⟩).toArray rfl rfl 25 (ansC ⟨0, 0⟩).toArray HA3.out (by kernel_rfl) rfl (by rw [← Array.all_toList, List.all_eq_true]; exact ansC_one _) ?_
        have hA4 := setRow_heap w3 (R + 1) (ansC ⟨0, 0⟩).toArray (ansC ⟨0, 0⟩).toArray 25 (0, 0) HA3.out
        have hk4 : Keeps [R + 1] w3 (w3.setRow (R + 1) (ansC ⟨0, 0⟩).toArray) := (Keeps.refl _ _).setRow _ _ (.inl (by simp))
        generalize w3.setRow (R + 1) (ansC ⟨0, 0⟩).toArray = W4 at *
        have HA4 := Lib.hid hA4
        have HO4 := Lib.hid (HO3.out.keeps hk4 (fun q hq => by have := (row_base HO3.out q hq).1; have := HSZ.out; have := HB.out; simp; omega))
        have HK5 := Lib.hid ((HK3.out.more (by simp)).trans hk4 (FSub.refl _ _))
        clear hA4 hk4
        refine hK.out _ _ (by rw [HSE.out]; exact HK5.out) (fun hHeld => ?_); clear hK K; try simp only [Act.put, lsA, lsZ, lsS]
        refine tw 13 (h := ?_)
        refine wpAnyH_done (by kernel_rfl) ?_ _
        refine NoPanic.normal ?_
        go_wp2_with fail
        try simp only [Exit.inBlock, Exit.then]
        refine bodyPost_ret (results_ans rfl _ _ _ ⟨0, 0⟩ rfl HA4.out) rfl ⟨_, by rw [HX.out]; rfl, ?_, HK.out.trans HK5.out (fun q hq => .inr (by simp at hq; have := HRL.out; omega)), fun _ q hq => .inr (by have := (row_base HO4.out q hq).1; have := HK.out.size; have := HB.out; omega)⟩
        rw [HX.out]
        exact HO4.out.in_
      · have HX := Lib.hid (kvX_del1 (o := o) (a := a) (b := b) hk7 hi)
        go_enter Tryz.func57, Tryz.ntmps57
        go_wp2_with fail
        have HW2 : Keeps [] w ((w.alloc (.cells #[.int .u8 8, .int .u8 o, .int .u8 k, .int .u16 a, .int .u16 b] 47)).alloc (.cells #[.int .u8 0, .int .u16 0] 25)) := HW.out.1
        refine (HAT.out _ HW2).mono ?_; clear HW2; rintro e w1 ⟨rfl, rfl⟩
        rw [hi2]
        obtain ⟨R, hR⟩ : ∃ R, R = w.heap.size := ⟨_, rfl⟩
        have HWW := HW.out
        rw [← hR] at HWW ⊢
        simp only [show (ansC ⟨0, 0⟩).toArray = #[Value.int .u8 0, .int .u16 0] from rfl] at HWW
        generalize (w.alloc (.cells #[.int .u8 8, .int .u8 o, .int .u8 k, .int .u16 a, .int .u16 b] 47)).alloc (.cells #[.int .u8 0, .int .u16 0] 25) = W at *
        have HO := Lib.hid HWW.2.1
        have HA := Lib.hid (show W.heap[R + 1]? = some (.cells (ansC ⟨0, 0⟩).toArray 25 (0, 0)) from HWW.2.2.1)
        have HK := Lib.hid HWW.1
        have HRL := Lib.hid (show w.heap.size ≤ R from Nat.le_of_eq hR.symm)
        have HSZ := Lib.hid (show R + 2 ≤ W.heap.size from Nat.le_of_eq HWW.2.2.2.symm)
        have HIN1 := Lib.hid (HIN.out.new HWW.1 (Nat.le_refl _))
        clear HWW HW hR HAT HIN
        have c0 : W.cell? ⟨R, 0, none⟩ = some (.int .u8 8) := cell_lit HO.out 0 rfl
        have c3 : W.cell? ⟨R, 3, none⟩ = some (.int .u16 a) := cell_lit HO.out 3 rfl
        clear hi hi2 hk7 hV
        go_wp2_with fail
        refine (r11without_any W (HIN1.out.more (HK.out.size)) (by rw [HN2.out]; exact HL.out) _).mono ?_
        rintro e w2 ⟨v2, rfl, ho2, hk2⟩
        have HK2 := Lib.hid hk2; have HO2 := Lib.hid ho2
        have HA2 := Lib.hid (hk2.heap HA.out (by simp))
        have d2 : w2.cell? ⟨R, 2, none⟩ = some (.int .u8 k) := hk2.cell (cell_lit HO.out 2 rfl) (by simp)
        have d3 : w2.cell? ⟨R, 3, none⟩ = some (.int .u16 a) := hk2.cell (cell_lit HO.out 3 rfl) (by simp)
        have d4 : w2.cell? ⟨R, 4, none⟩ = some (.int .u16 b) := hk2.cell (cell_lit HO.out 4 rfl) (by simp)
        clear hk2 ho2
        have HO3 := HO2
        have HK3 := Lib.hid (HK.out.trans HK2.out (FSub.refl _ _))
        clear d2 d3 d4
        go_wp2_with ((with_reducible refine wpList_putN (g := R + 1) (old := ⟨0, 0⟩) ⟨3, 0⟩ ?_ ?_ HA2.out ?_); exact rfl; exact rfl)
        intro W4 hA4 hk4
        have HA4 := Lib.hid hA4; have HK4 := Lib.hid hk4
        clear hA4 hk4
        go_wp2_with fail
        try simp only [Exit.inBlock, Exit.then]
        refine bodyPost_ret (results_ans rfl _ _ _ ⟨3, 0⟩ rfl HA4.out) rfl ⟨_, by rw [HX.out]; rfl, ?_, HK3.out.trans HK4.out (fun q hq => .inr (by simp at hq; have := HRL.out; omega)), fun _ q hq => .inr (by have := (row_base HO3.out q hq).1; have := HK.out.size; omega)⟩
        rw [HX.out]
        exact (HO3.out.keeps HK4.out (fun q hq => by have := (row_base HO3.out q hq).1; have := HSZ.out; simp; omega)).in_
      · by_cases he : V = a
        · have HX := Lib.hid (kvX_cas2 (o := o) (a := a) (b := b) hk7 hi (by rw [← hV]; exact he))
          have te : (V != a) = false := by simpa using he
          go_enter Tryz.func57, Tryz.ntmps57
          go_wp2_with fail
          have HW2 : Keeps [] w ((w.alloc (.cells #[.int .u8 9, .int .u8 o, .int .u8 k, .int .u16 a, .int .u16 b] 47)).alloc (.cells #[.int .u8 0, .int .u16 0] 25)) := HW.out.1
          refine (HAT.out _ HW2).mono ?_; clear HW2; rintro e w1 ⟨rfl, rfl⟩
          rw [hi2]
          obtain ⟨R, hR⟩ : ∃ R, R = w.heap.size := ⟨_, rfl⟩
          have HWW := HW.out
          rw [← hR] at HWW ⊢
          simp only [show (ansC ⟨0, 0⟩).toArray = #[Value.int .u8 0, .int .u16 0] from rfl] at HWW
          generalize (w.alloc (.cells #[.int .u8 9, .int .u8 o, .int .u8 k, .int .u16 a, .int .u16 b] 47)).alloc (.cells #[.int .u8 0, .int .u16 0] 25) = W at *
          have HO := Lib.hid HWW.2.1
          have HA := Lib.hid (show W.heap[R + 1]? = some (.cells (ansC ⟨0, 0⟩).toArray 25 (0, 0)) from HWW.2.2.1)
          have HK := Lib.hid HWW.1
          have HRL := Lib.hid (show w.heap.size ≤ R from Nat.le_of_eq hR.symm)
          have HSZ := Lib.hid (show R + 2 ≤ W.heap.size from Nat.le_of_eq HWW.2.2.2.symm)
          have HIN1 := Lib.hid (HIN.out.new HWW.1 (Nat.le_refl _))
          clear HWW HW hR HAT HIN
          have c0 : W.cell? ⟨R, 0, none⟩ = some (.int .u8 9) := cell_lit HO.out 0 rfl
          have c3 : W.cell? ⟨R, 3, none⟩ = some (.int .u16 a) := cell_lit HO.out 3 rfl
          have m1 := HK.out.cell HM.out (by simp)
          clear he
          clear hi hi2 hk7 hV
          go_wp2_with fail
          go_quiet (fail)
          have hd9 : Keeps [] W (W.drewN nq) := (Keeps.refl _ _).drewN _
          replace HO := Lib.hid (hd9.heap HO.out (by simp)); replace HA := Lib.hid (hd9.heap HA.out (by simp))
          replace HIN1 := Lib.hid (HIN1.out.new hd9 HK.out.size)
          replace HSZ := Lib.hid (Nat.le_trans HSZ.out hd9.size)
          replace HK := Lib.hid (HK.out.trans hd9 (FSub.refl _ _))
          clear c0 c3 m1 hd9
          generalize W.drewN nq = W at *
          go_wp2_with fail
          obtain ⟨S, hS⟩ : ∃ S : World → Prop, S = fun y => Keeps [R + 1] W y := ⟨_, rfl⟩
          have HSE := Lib.hid hS
          have hSD : S W.drew := by rw [hS]; exact (Keeps.refl _ _).drew
          have HC2 := Lib.hid (fun (w' : World) (h : S w') => show w'.cell? ⟨R, 2, none⟩ = some (.int .u8 k) from by rw [hS] at h; exact h.cell (cell_lit HO.out 2 rfl) (by simp))
          have HC3 := Lib.hid (fun (w' : World) (h : S w') => show w'.cell? ⟨R, 3, none⟩ = some (.int .u16 a) from by rw [hS] at h; exact h.cell (cell_lit HO.out 3 rfl) (by simp))
          have HC4 := Lib.hid (fun (w' : World) (h : S w') => show w'.cell? ⟨R, 4, none⟩ = some (.int .u16 b) from by rw [hS] at h; exact h.cell (cell_lit HO.out 4 rfl) (by simp))
          have hd0 : Keeps [] W W.drew := (Keeps.refl _ _).drew
          clear hS
          refine wp_region_noPanic ?_
          refine wp_region_held_drew (S := S) (by kernel_rfl) hSD (fun hHeld => ?_)
          generalize W.drew = Y0 at *
          have HK0 := Lib.hid hd0
          clear hd0
          refine tw 0 (h := ?_)
          refine tw 1 (h := ?_)
          refine tw 3 (h := ?_)
          refine tk 4 (y := by exact Or.inl ⟨by rfl, by intro w hSw; have q0 := HC2.out w hSw; go_simp; try with_reducible rfl⟩) (h := ?_)
          refine tw 5 (h := ?_)
          refine tk 6 (y := by exact Or.inl ⟨by rfl, by intro w hSw; have q0 := HC4.out w hSw; go_simp; try with_reducible rfl⟩) (h := ?_)
          refine tw 7 (h := ?_)
          refine tw 10 (h := ?_)
          apply wpAnyH_ready (rs := [2, 8])
          · kernel_rfl
          · simp
          apply AllReadyH.cons
          · simp only [List.getElem?_toArray]; rfl
          · intro K hK
            rw [if_pos (by rfl)]
            refine wp_call11 79 _ _ rfl [.slice _ n c1, .int .i64 i] rfl Tryz.func79 (by kernel_rfl) (by kernel_rfl) ((r11without_any Y0 ((HIN1.out.new HK0.out HK.out.size).more (Nat.le_trans HK.out.size HK0.out.size)) (by rw [HN2.out]; exact HL.out) _).mono ?_)
            rintro e Y1 ⟨v2, rfl, ho2, hk2⟩
            refine ⟨_, rfl, ?_⟩
            have HK1 := Lib.hid (HK0.out.trans hk2 (FSub.refl _ _))
            have HO2 := Lib.hid ho2; have HSY := Lib.hid hk2.size
            clear ho2 hk2
            refine hK.out _ _ ?_ (fun hHeld => ?_)
            · rw [HSE.out]; exact HK1.out.more (by simp)
            clear hK K
            try simp only [Act.put, lsA, lsZ, lsS]
            refine rp 8 (h := fun K hK => ?_)
            refine wp_buildI (y := ⟨k, b⟩) _ rfl rfl ?_
            refine hK.out _ _ (by rw [HSE.out]; exact (HK1.out.alloc _).more (by simp)) (fun hHeld => ?_); clear hK K; try simp only [Act.put, lsA, lsZ, lsS]
            obtain ⟨v3, w3, hr3, ho3, hk3, hf3⟩ := rkI.append1 Y1 Y0.heap.size HSY.out v2 _ HO2.out ⟨k, b⟩ (by have := wo_len i 0 l; have := HN2.out; have := HL.out; omega)
            have HR3 := Lib.hid (show (Builtin.append_ #[79, 79] 79 #[v2, .slice (some ⟨Y1.heap.size, 0, none⟩) 1 1]).run Tryz.prog (Y1.alloc (.cells (itC ⟨k, b⟩).toArray 158)) = .ok v3 w3 from hr3)
            have HK3 := Lib.hid (show Keeps [] W w3 from HK1.out.trans hk3 (fun q hq => .inr (by have := (row_base HO2.out _ hq).1; have := HK0.out.size; omega)))
            have HO3 := Lib.hid (show rkI.Own Y0.heap.size w3 v3 _ from ho3)
            have HB := Lib.hid HK0.out.size
            clear hr3 ho3 hk3 hf3
            refine rp 9 (h := fun K hK => ?_)
            refine wp_append_run _ _ 79 rfl _ _ _ w3 rfl rfl HR3.out ?_
            refine hK.out _ _ (by rw [HSE.out]; exact HK3.out.more (by simp)) (fun hHeld => ?_); clear hK K; try simp only [Act.put, lsA, lsZ, lsS]
            refine tw 11 (h := ?_)
            have HA3 := Lib.hid (HK3.out.heap HA.out (by simp))
            refine rp 12 (h := fun K hK => ?_)
            refine wp_store_row 25 _ _ rfl (R + 1) (ansC ⟨3, 0⟩).toArray rfl rfl 25 (ansC ⟨0, 0⟩).toArray HA3.out (by kernel_rfl) rfl (by rw [← Array.all_toList, List.all_eq_true]; exact ansC_one _) ?_
            have hA4 := setRow_heap w3 (R + 1) (ansC ⟨0, 0⟩).toArray (ansC ⟨3, 0⟩).toArray 25 (0, 0) HA3.out
            have hk4 : Keeps [R + 1] w3 (w3.setRow (R + 1) (ansC ⟨3, 0⟩).toArray) := (Keeps.refl _ _).setRow _ _ (.inl (by simp))
            generalize w3.setRow (R + 1) (ansC ⟨3, 0⟩).toArray = W4 at *
            have HA4 := Lib.hid hA4
            have HO4 := Lib.hid (HO3.out.keeps hk4 (fun q hq => by have := (row_base HO3.out q hq).1; have := HSZ.out; have := HB.out; simp; omega))
            have HK5 := Lib.hid ((HK3.out.more (by simp)).trans hk4 (FSub.refl _ _))
            clear hA4 hk4
            refine hK.out _ _ (by rw [HSE.out]; exact HK5.out) (fun hHeld => ?_); clear hK K; try simp only [Act.put, lsA, lsZ, lsS]
            refine tw 13 (h := ?_)
            refine wpAnyH_done (by kernel_rfl) ?_ _
            refine NoPanic.normal ?_
            go_wp2_with fail
            try simp only [Exit.inBlock, Exit.then]
            refine bodyPost_ret (results_ans rfl _ _ _ ⟨3, 0⟩ rfl HA4.out) rfl ⟨_, by rw [HX.out]; rfl, ?_, HK.out.trans HK5.out (fun q hq => .inr (by simp at hq; have := HRL.out; omega)), fun _ q hq => .inr (by have := (row_base HO4.out q hq).1; have := HK.out.size; have := HB.out; omega)⟩
            rw [HX.out]
            exact HO4.out.in_
          apply AllReadyH.cons (hs := AllReadyH.nil)
          · simp only [List.getElem?_toArray]; rfl
          intro K hK
          rw [if_pos (by rfl)]
          refine wp_buildI (y := ⟨k, b⟩) _ rfl rfl ?_
          have HKA := Lib.hid (HK0.out.alloc (.cells (itC ⟨k, b⟩).toArray 158))
          have hrI : rkI.In (Y0.heap.size + 1) (Y0.alloc (.cells (itC ⟨k, b⟩).toArray 158)) (.slice (some ⟨Y0.heap.size, 0, none⟩) 1 1) [⟨k, b⟩] := It.fresh Y0 _
          have hsA : (Y0.alloc (.cells (itC ⟨k, b⟩).toArray 158)).heap.size = Y0.heap.size + 1 := Array.size_push _
          rw [show (some (⟨Y0.heap.size, 0, none⟩ : Addr)) = some ⟨Y0.heap.size, 0, none⟩ from rfl]
          generalize Y0.alloc (.cells (itC ⟨k, b⟩).toArray 158) = YA at *
          have HRI := Lib.hid hrI; have HSA := Lib.hid hsA
          clear hrI hsA
          refine hK.out _ _ (by rw [HSE.out]; exact HKA.out.more (by simp)) (fun hHeld => ?_); clear hK K; try simp only [Act.put, lsA, lsZ, lsS]
          refine rp 2 (h := fun K hK => ?_)
          refine wp_call11 79 _ _ rfl [.slice _ n c1, .int .i64 i] rfl Tryz.func79 (by kernel_rfl) (by kernel_rfl) ((r11without_any YA ((HIN1.out.new HKA.out HK.out.size).more (Nat.le_trans HK.out.size HKA.out.size)) (by rw [HN2.out]; exact HL.out) _).mono ?_)
          rintro e Y1 ⟨v2, rfl, ho2, hk2⟩
          refine ⟨_, rfl, ?_⟩
          have HK1 := Lib.hid (HKA.out.trans hk2 (FSub.refl _ _))
          have HO2 := Lib.hid ho2; have HSY := Lib.hid hk2.size
          have HRI2 := Lib.hid (HRI.out.new hk2 (by have := HSA.out; omega))
          clear ho2 hk2
          refine hK.out _ _ (by rw [HSE.out]; exact HK1.out.more (by simp)) (fun hHeld => ?_); clear hK K; try simp only [Act.put, lsA, lsZ, lsS]
          obtain ⟨v3, w3, hr3, ho3, hk3, hf3⟩ := rkI.appendIn Y1 YA.heap.size HSY.out v2 _ HO2.out HRI2.out (by have := wo_len i 0 l; have := HN2.out; have := HL.out; simp; omega)
          have HR3 := Lib.hid (show (Builtin.append_ #[79, 79] 79 #[v2, .slice (some ⟨Y0.heap.size, 0, none⟩) 1 1]).run Tryz.prog Y1 = .ok v3 w3 from hr3)
          have HK3 := Lib.hid (show Keeps [] W w3 from HK1.out.trans hk3 (fun q hq => .inr (by have := (row_base HO2.out _ hq).1; have := HKA.out.size; omega)))
          have HO3 := Lib.hid (show rkI.Own YA.heap.size w3 v3 _ from ho3)
          have HB := Lib.hid HKA.out.size
          clear hr3 ho3 hk3 hf3
          refine rp 9 (h := fun K hK => ?_)
          refine wp_append_run _ _ 79 rfl _ _ _ w3 rfl rfl HR3.out ?_
          refine hK.out _ _ (by rw [HSE.out]; exact HK3.out.more (by simp)) (fun hHeld => ?_); clear hK K; try simp only [Act.put, lsA, lsZ, lsS]
          refine tw 11 (h := ?_)
          have HA3 := Lib.hid (HK3.out.heap HA.out (by simp))
          refine rp 12 (h := fun K hK => ?_)
          refine wp_store_row 25 _ _ rfl (R + 1) (ansC ⟨3, 0⟩).toArray rfl rfl 25 (ansC ⟨0, 0⟩).toArray HA3.out (by kernel_rfl) rfl (by rw [← Array.all_toList, List.all_eq_true]; exact ansC_one _) ?_
          have hA4 := setRow_heap w3 (R + 1) (ansC ⟨0, 0⟩).toArray (ansC ⟨3, 0⟩).toArray 25 (0, 0) HA3.out
          have hk4 : Keeps [R + 1] w3 (w3.setRow (R + 1) (ansC ⟨3, 0⟩).toArray) := (Keeps.refl _ _).setRow _ _ (.inl (by simp))
          generalize w3.setRow (R + 1) (ansC ⟨3, 0⟩).toArray = W4 at *
          have HA4 := Lib.hid hA4
          have HO4 := Lib.hid (HO3.out.keeps hk4 (fun q hq => by have := (row_base HO3.out q hq).1; have := HSZ.out; have := HB.out; simp; omega))
          have HK5 := Lib.hid ((HK3.out.more (by simp)).trans hk4 (FSub.refl _ _))
          clear hA4 hk4
          refine hK.out _ _ (by rw [HSE.out]; exact HK5.out) (fun hHeld => ?_); clear hK K; try simp only [Act.put, lsA, lsZ, lsS]
          refine tw 13 (h := ?_)
          refine wpAnyH_done (by kernel_rfl) ?_ _
          refine NoPanic.normal ?_
          go_wp2_with fail
          try simp only [Exit.inBlock, Exit.then]
          refine bodyPost_ret (results_ans rfl _ _ _ ⟨3, 0⟩ rfl HA4.out) rfl ⟨_, by rw [HX.out]; rfl, ?_, HK.out.trans HK5.out (fun q hq => .inr (by simp at hq; have := HRL.out; omega)), fun _ q hq => .inr (by have := (row_base HO4.out q hq).1; have := HK.out.size; have := HB.out; omega)⟩
          rw [HX.out]
          exact HO4.out.in_
        · have HX := Lib.hid (kvX_cas1 (o := o) (a := a) (b := b) hk7 hi (by rw [← hV]; exact he))
          have te : (V != a) = true := by simpa using he
          go_enter Tryz.func57, Tryz.ntmps57
          go_wp2_with fail
          have HW2 : Keeps [] w ((w.alloc (.cells #[.int .u8 9, .int .u8 o, .int .u8 k, .int .u16 a, .int .u16 b] 47)).alloc (.cells #[.int .u8 0, .int .u16 0] 25)) := HW.out.1
          refine (HAT.out _ HW2).mono ?_; clear HW2; rintro e w1 ⟨rfl, rfl⟩
          rw [hi2]
          obtain ⟨R, hR⟩ : ∃ R, R = w.heap.size := ⟨_, rfl⟩
          have HWW := HW.out
          rw [← hR] at HWW ⊢
          simp only [show (ansC ⟨0, 0⟩).toArray = #[Value.int .u8 0, .int .u16 0] from rfl] at HWW
          generalize (w.alloc (.cells #[.int .u8 9, .int .u8 o, .int .u8 k, .int .u16 a, .int .u16 b] 47)).alloc (.cells #[.int .u8 0, .int .u16 0] 25) = W at *
          have HO := Lib.hid HWW.2.1
          have HA := Lib.hid (show W.heap[R + 1]? = some (.cells (ansC ⟨0, 0⟩).toArray 25 (0, 0)) from HWW.2.2.1)
          have HK := Lib.hid HWW.1
          have HRL := Lib.hid (show w.heap.size ≤ R from Nat.le_of_eq hR.symm)
          have HSZ := Lib.hid (show R + 2 ≤ W.heap.size from Nat.le_of_eq HWW.2.2.2.symm)
          have HIN1 := Lib.hid (HIN.out.new HWW.1 (Nat.le_refl _))
          clear HWW HW hR HAT HIN
          have c0 : W.cell? ⟨R, 0, none⟩ = some (.int .u8 9) := cell_lit HO.out 0 rfl
          have c3 : W.cell? ⟨R, 3, none⟩ = some (.int .u16 a) := cell_lit HO.out 3 rfl
          have m1 := HK.out.cell HM.out (by simp)
          clear hi hi2 hk7 hV he
          go_wp2_with fail
          go_quiet (fail)
          have hd : Keeps [R + 1] W (W.drewN nq) := (Keeps.refl _ _).drewN _
          have HAq := Lib.hid (show (W.drewN nq).heap[R + 1]? = _ from HA.out)
          go_wp2_with ((with_reducible refine wpList_putN (g := R + 1) (old := ⟨0, 0⟩) ⟨4, 0⟩ ?_ ?_ HAq.out ?_); exact rfl; exact rfl)
          intro W4 hA4 hk4
          have HA4 := Lib.hid hA4; have HK4 := Lib.hid (hd.trans hk4 (FSub.refl _ _))
          clear hA4 hk4 hd HAq
          go_wp2_with fail
          try simp only [Exit.inBlock, Exit.then]
          have hkk : Keeps [] w W4 := HK.out.trans HK4.out (fun q hq => .inr (by simp at hq; have := HRL.out; omega))
          refine bodyPost_ret (results_ans rfl _ _ _ ⟨4, 0⟩ rfl HA4.out) rfl ⟨_, by rw [HX.out]; rfl, ?_, hkk, fun hne q hq => .inl ⟨by rw [HX.out] at hne; exact hne, hq⟩⟩
          rw [HX.out]
          exact (HIN1.out.keeps HK4.out (fun hne q hq => by have := HIN1.out.old hne q hq; have := HRL.out; simp; omega)).more (by have := hkk.size; omega)
end Go.Proofs.YtbnhcggjcdipeaaGreatDoor
