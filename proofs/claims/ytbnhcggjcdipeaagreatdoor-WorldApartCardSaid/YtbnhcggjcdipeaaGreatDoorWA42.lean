/-
  The law WorldApart, over any program's worlds.
-/
import Derived.Test.YtbnhcggjcdipeaaGreatDoorWA00
import Derived.Test.YtbnhcggjcdipeaaGreatDoorWA40
import Derived.Test.YtbnhcggjcdipeaaGreatDoorWA38
import Derived.Test.YtbnhcggjcdipeaaGreatDoorWA17
set_option linter.unusedSimpArgs false
set_option linter.unusedVariables false
namespace Go.Proofs.YtbnhcggjcdipeaaGreatDoor
open Go.RowKit
set_option maxRecDepth 100000
set_option maxHeartbeats 8000000
variable {G : World → Prop}
/-- Those of the calls that are told no error at first. -/
def kept14 (W : Wd) (l : List Cl) : List Cl := l.filter fun y => decide ((wdX W y.c y.x).2.2 = 0)
theorem kept14_next {W : Wd} {l : List Cl} {k : Nat} (hk : k < l.length) : kept14 W (l.take (k + 1)) = kept14 W (l.take k) ++ (if (wdX W l[k].c l[k].x).2.2 = 0 then [l[k]] else []) := by
  unfold kept14
  rw [List.take_add_one, List.getElem?_eq_getElem hk, Option.toList_some, List.filter_append]
  by_cases h : (wdX W l[k].c l[k].x).2.2 = 0
  · rw [if_pos h, List.filter_cons_of_pos (by simpa using h), List.filter_nil]
  · rw [if_neg h, List.filter_cons_of_neg (by simpa using h), List.filter_nil]
theorem kept14_mem {W : Wd} {l : List Cl} {y : Cl} (h : y ∈ kept14 W l) : y ∈ l ∧ (wdX W y.c y.x).2.2 = 0 := by
  have := List.mem_filter.1 h
  exact ⟨this.1, by simpa using this.2⟩
theorem kept14_len (W : Wd) (l : List Cl) : (kept14 W l).length ≤ l.length := List.length_filter_le ..
/-- What the calls answer, one behind the other. -/
def ansW : Wd → List Cl → List Ans
  | _, [] => []
  | W, y :: r => (wdX W y.c y.x).2.1 :: ansW (wdX W y.c y.x).1 r
theorem ansW_len : ∀ (W : Wd) (l : List Cl), (ansW W l).length = l.length
  | _, [] => rfl
  | W, y :: r => by show (ansW _ r).length + 1 = r.length + 1; rw [ansW_len]
theorem ansW_app : ∀ (W : Wd) (l k : List Cl), ansW W (l ++ k) = ansW W l ++ ansW (bhW W l) k
  | _, [], _ => rfl
  | W, y :: r, k => by
    show (wdX W y.c y.x).2.1 :: ansW _ (r ++ k) = (wdX W y.c y.x).2.1 :: ansW _ r ++ _
    rw [ansW_app]; rfl
theorem ansW_next {W : Wd} {l : List Cl} {k : Nat} (hk : k < l.length) : ansW W (l.take (k + 1)) = ansW W (l.take k) ++ [(wdX (bhW W (l.take k)) l[k].c l[k].x).2.1] := by
  rw [List.take_add_one, List.getElem?_eq_getElem hk, Option.toList_some, ansW_app]; rfl
theorem ansW_get {W : Wd} {l : List Cl} {k : Nat} (hk : k < l.length) : (ansW W l)[k]? = some (wdX (bhW W (l.take k)) l[k].c l[k].x).2.1 := by
  have e : ansW W l = ansW W (l.take (k + 1)) ++ ansW (bhW W (l.take (k + 1))) (l.drop (k + 1)) := by rw [← ansW_app, List.take_append_drop]
  have hl : (ansW W (l.take k)).length = k := by rw [ansW_len, List.length_take]; omega
  rw [e, ansW_next hk, List.append_assoc, List.getElem?_append_right (by omega), hl, Nat.sub_self]; rfl
theorem sortO_len (l : List Cl) : ∀ k, (sortO k l).length ≤ k * l.length
  | 0 => Nat.zero_le _
  | k + 1 => by
    rw [sortO_next, List.length_append, Nat.succ_mul]
    have h1 := sortO_len l k; have h2 := ofO_len k l
    omega
theorem ofO_next {o : Nat} {l : List Cl} {k : Nat} (hk : k < l.length) : ofO o (l.take (k + 1)) = ofO o (l.take k) ++ ofO o [l[k]] := by
  rw [List.take_add_one, List.getElem?_eq_getElem hk, Option.toList_some, ofO_app]
theorem ofO_one {o : Nat} {y : Cl} : ofO o [y] = if wObj y.x = o then [y] else [] := by
  unfold ofO
  by_cases h : wObj y.x = o
  · rw [if_pos h, List.filter_cons_of_pos (by simpa using h), List.filter_nil]
  · rw [if_neg h, List.filter_cons_of_neg (by simpa using h), List.filter_nil]
/-- A call that is told no error at first is told none behind any calls. -/
theorem kept_err {m : Int} (h0 : 0 ≤ m) (h3 : m ≤ 3) {l r : List Cl} (hr : ∀ y ∈ r, y.In) {y : Cl} (hy : y ∈ kept14 (wd0 m) l) : (wdX (bhW (wd0 m) r) y.c y.x).2.2 = 0 := by
  rw [bhW_err (bhW_in _ (wd0_in h0 h3) hr) (wd0_in h0 h3) (bhW_m _ _)]
  exact (kept14_mem hy).2
section
variable {ops : Array Oper} {rest : List Oper} {a : Act} {w : World} {Q : Exit → Act → World → Prop}
theorem wpList_loadC14 {dst : Option Tmp} {ty : TypeId} {pos : String} {after : Array Edge} {gd : Option (Nat × Bool)} {x : Operand} {g off : Nat} (y : Cl)
    (hw : Region.wanted { dst := dst, op := .load 49 x, type := ty, pos := pos, after := after, guard := gd } (yielded ops a.tmps) = true)
    (hx : a.eval x = .pointer (some ⟨g, off, none⟩)) (hr : w.rangeAt g off (clC y)) (h : wpList Tryz.prog ops Q rest (a.put dst (.agg (clC y).toArray)) w) :
    wpList Tryz.prog ops Q ({ dst := dst, op := .load 49 x, type := ty, pos := pos, after := after, guard := gd } :: rest) a w :=
  rkC14.wpList_load Tryz.underlying49 rfl rfl hw hx hr h
theorem wpList_litC14 {dst : Option Tmp} {ty : TypeId} {pos : String} {after : Array Edge} {y : Operand} {x : Cl} (hy : a.eval y = .agg (clC x).toArray)
    (h : wpList Tryz.prog ops Q rest (a.put dst (.slice (some ⟨w.heap.size, 0, none⟩) 1 1)) (w.alloc (.cells (clC x).toArray 49))) :
    wpList Tryz.prog ops Q ({ dst := dst, op := .buildSlice 22 1 #[(0, y)], type := ty, pos := pos, after := after, guard := none } :: rest) a w :=
  wpList_plain rfl fun _ hK => rkC14.wp_build1 y rfl hy (by show (6 : Nat) ≤ 10000; decide) (hK _ _ h)
end
theorem WorldApart_out {R : MdProg G} (V : WdProg R) (w : World) (hG : G w) {m : Int} (h0 : 0 ≤ m) (h4 : m < 256) {v : Value} {l : List Cl} (hI : rkC14.In w.heap.size w v l) (hn : 60 < l.length ∨ 3 < m) :
    Calls Tryz.prog 5 #[.int .u8 m, v] w fun e w' => e = .returned (.bool true) ∧ Keeps [] w w' := by
  obtain ⟨a, cp, rfl, hc, hm, -⟩ := id hI
  have HK := Lib.hid (Keeps.refl [] w)
  have HN := Lib.hid (V.new w m hG ⟨h0, h4⟩)
  have HGL := Lib.hid (fun w' (h : Keeps [] w w') => R.keepG hG h)
  clear hI hG hc hm
  generalize l.length = n at *
  obtain ⟨er, her⟩ : ∃ er : Int, er = if m ≤ 3 then 0 else 10 := ⟨_, rfl⟩
  rw [← her] at HN
  have HER := Lib.hid her; have HNN := Lib.hid hn
  clear her hn h0 h4
  go_enter Tryz.func5, Tryz.ntmps5
  go_wp2_with fail
  refine HN.out.mono ?_; rintro e w1 ⟨st, rfl, hat, hk, -⟩
  clear HN
  replace HK := Lib.hid (HK.out.trans hk (FSub.refl _ _))
  obtain ⟨A1, rfl, hok⟩ := hat.cells
  have HO1 := Lib.hid hok
  have H1 := Lib.hid hat
  clear hat hok hk
  have HNC := Lib.hid (show (w1.alloc (.cells wdZA 33)).heap[w1.heap.size]? = some (.cells wdZ.toArray 33 (0, 0)) from heap_alloc_new w1 _)
  have HNK := Lib.hid (show Keeps [] w1 (w1.alloc (.cells wdZA 33)) from (Keeps.refl _ _).alloc _)
  go_wp2_with ((with_reducible refine wpList_putW (g := w1.heap.size) (old := wdZ) (A := A1) HO1.out wdZ_ok ?_ ?_ HNC.out ?_); exact rfl; exact rfl)
  intro V0 hW hk2
  have hk := HNK.out.trans' hk2 (Nat.le_refl _)
  replace HK := Lib.hid (HK.out.trans hk (FSub.refl _ _))
  replace H1 := Lib.hid (H1.out.new hk)
  have HB1 := Lib.hid hW
  clear hk hW hk2 HNC HNK
  generalize w1.heap.size = p1 at *
  by_cases h3 : m ≤ 3
  · obtain rfl : er = 0 := by rw [HER.out, if_pos h3]
    have c1 : (60 : Int) < n := by have := HNN.out; omega
    go_wp2_with fail
    refine (works14_any V _ (HGL.out _ HK.out)).mono ?_; rintro e v3 ⟨rfl, hk⟩
    have HKF := Lib.hid (HK.out.trans hk (FSub.refl _ _))
    clear hk
    go_wp2_with fail
    go_ret
    exact ⟨rfl, HKF.out⟩
  · obtain rfl : er = 10 := by rw [HER.out, if_neg h3]
    by_cases c1 : (60 : Int) < n
    · skip
      go_wp2_with fail
      refine (works14_any V _ (HGL.out _ HK.out)).mono ?_; rintro e v3 ⟨rfl, hk⟩
      have HKF := Lib.hid (HK.out.trans hk (FSub.refl _ _))
      clear hk
      go_wp2_with fail
      go_ret
      exact ⟨rfl, HKF.out⟩
    · skip
      go_wp2_with fail
      refine (works14_any V _ (HGL.out _ HK.out)).mono ?_; rintro e v3 ⟨rfl, hk⟩
      have HKF := Lib.hid (HK.out.trans hk (FSub.refl _ _))
      clear hk
      go_wp2_with fail
      go_ret
      exact ⟨rfl, HKF.out⟩
theorem RK.In.at14 {α : Type} {R : RK α} {N : Nat} {w : World} {a : Option Addr} {n c : Nat} {l : List α} (h : R.In N w (.slice a n c) l) {k : Nat} {y : α} (hk : l[k]? = some y) : ∃ bk o, a = some ⟨bk, o, none⟩ ∧ bk < N ∧ w.rangeAt bk (o + k * R.s) (R.cs y) := by
  obtain ⟨hlt, he⟩ := List.getElem?_eq_some_iff.1 hk
  obtain ⟨_, _, e, _, _, h⟩ := h
  simp at e
  obtain ⟨rfl, -, -⟩ := e
  obtain ⟨bk, o, e, hb, hr⟩ := h (fun e => by rw [e] at hlt; simp at hlt)
  exact ⟨bk, o, e, hb, by rw [← he]; exact hr k hlt⟩
theorem WorldApart_any {R : MdProg G} (V : WdProg R) (w : World) (hG : G w) {m : Int} (h0 : 0 ≤ m) (h3 : m ≤ 3) {v : Value} {l : List Cl} (hl : ∀ y ∈ l, y.In) (hI : rkC14.In w.heap.size w v l) (hn : l.length ≤ 60) :
    Calls Tryz.prog 5 #[.int .u8 m, v] w fun e w' => e = .returned (.bool true) ∧ Keeps [] w w' := by
  obtain ⟨a, cp, rfl, hc, hm, -⟩ := id hI
  have HK := Lib.hid (Keeps.refl [] w)
  have HN := Lib.hid (V.new w m hG ⟨h0, by omega⟩)
  rw [if_pos h3, oNew_some h3] at HN
  have HIN := Lib.hid hI; have HLI := Lib.hid hl; have HGL := Lib.hid (fun w' (h : Keeps [] w w') => R.keepG hG h)
  have HM := Lib.hid (show 0 ≤ m ∧ m ≤ 3 from ⟨h0, h3⟩)
  clear hI hl hG hc hm
  generalize hn2 : l.length = n at *
  have HN2 := Lib.hid hn2
  have hn3 : ¬ (60 : Int) < n := by omega
  clear hn2
  go_enter Tryz.func5, Tryz.ntmps5
  go_wp2_with fail
  refine HN.out.mono ?_; rintro e w1 ⟨st, rfl, hat, hk, -⟩
  clear HN
  replace HK := Lib.hid (HK.out.trans hk (FSub.refl _ _))
  obtain ⟨A1, rfl, hok⟩ := hat.cells
  have HO1 := Lib.hid hok
  have H1 := Lib.hid hat
  clear hat hok hk
  have HNC := Lib.hid (show (w1.alloc (.cells wdZA 33)).heap[w1.heap.size]? = some (.cells wdZ.toArray 33 (0, 0)) from heap_alloc_new w1 _)
  have HNK := Lib.hid (show Keeps [] w1 (w1.alloc (.cells wdZA 33)) from (Keeps.refl _ _).alloc _)
  go_wp2_with ((with_reducible refine wpList_putW (g := w1.heap.size) (old := wdZ) (A := A1) HO1.out wdZ_ok ?_ ?_ HNC.out ?_); exact rfl; exact rfl)
  intro u0 hW hk2
  have hk := HNK.out.trans' hk2 (Nat.le_refl _)
  replace HK := Lib.hid (HK.out.trans hk (FSub.refl _ _))
  replace H1 := Lib.hid (H1.out.new hk)
  have HB1 := Lib.hid hW
  clear hk hW hk2 HNC HNK
  generalize w1.heap.size = p5 at *
  have HKU := Lib.hid HK.out
  clear HK
  go_wp2_with fail
  go_loopw [7, 8] (fun v i wr => ∃ k : Nat, i = .int .i64 k ∧ k ≤ n ∧ rkC14.Own u0.heap.size wr v (kept14 (wd0 m) (l.take k)) ∧ Keeps [] u0 wr) (fun _ i _ => n - (intOf i).toNat)
  case atStart => exact ⟨0, rfl, by omega, RK.Own.nil rkC14 _ _, Keeps.refl _ _⟩
  case round =>
    obtain ⟨k, rfl, hk, hz, hkw⟩ := hrel
    have HZ := Lib.hid hz; have HK := Lib.hid hkw
    by_cases hlt : k < n
    · have hkl : k < l.length := by have := HN2.out; omega
      obtain ⟨g, o, rfl, hg, hr⟩ := InC14_at (HIN.out.new (HKU.out.trans hkw (FSub.refl _ _)) (Nat.le_refl _)) hkl
      have HRW := Lib.hid hr
      have HNX := Lib.hid (kept14_next (W := wd0 m) hkl)
      have HXI := Lib.hid (HLI.out l[k] (List.getElem_mem hkl))
      have HKL := Lib.hid (Nat.le_trans (kept14_len (wd0 m) (l.take k)) (show (l.take k).length ≤ 60 from by rw [List.length_take]; omega))
      clear hr
      generalize l[k] = y at *
      generalize kept14 (wd0 m) (l.take k) = L at *
      obtain ⟨av, cv, rfl, -, -⟩ := id hz.shape
      clear hz hkw
      obtain ⟨W, hW⟩ : ∃ W, W = wd0 m := ⟨_, rfl⟩
      rw [← hW] at HNX
      obtain ⟨W1, hW1⟩ : ∃ W1, W1 = (wdX W y.c y.x).1 := ⟨_, rfl⟩
      obtain ⟨r, hr⟩ : ∃ r, r = (wdX W y.c y.x).2.1 := ⟨_, rfl⟩
      obtain ⟨e1, he1⟩ : ∃ e1, e1 = (wdX W y.c y.x).2.2 := ⟨_, rfl⟩
      have HW1 := Lib.hid hW1.symm; have HR1 := Lib.hid hr.symm; have HE1 := Lib.hid he1.symm
      obtain ⟨V0, hV0⟩ : ∃ V0, V0 = wr := ⟨_, rfl⟩
      subst hV0
      rw [← he1] at HNX
      have HWA := Lib.hid (show WoAt R V0 (.agg A1.toArray) (some W) from by rw [hW]; exact H1.out.new HK.out)
      have HWU := Lib.hid (show W.upto 1000 from by rw [hW]; exact wd0_upto m 1000)
      have HBV := Lib.hid (HK.out.heap HB1.out (by simp))
      have HKV := Lib.hid (HKU.out.trans HK.out (FSub.refl _ _))
      have HWE := Lib.hid hW
      clear hW1 hr he1 hW
      go_wp2_with fail
      refine wp_join13 (fun qa qb zv us a => (((((((((((((((((((a.put (some 57) (us.getD 0 undef)).put (some 58) (us.getD 1 undef)).put (some 59) (us.getD 2 undef)).put (some 60) (us.getD 3 undef)).put (some 61) (us.getD 4 undef)).put (some 62) (us.getD 5 undef)).put (some 63) (us.getD 6 undef)).put (some 64) (us.getD 7 undef)).put (some 65) (us.getD 8 undef)).put (some 66) (us.getD 9 undef)).put (some 67) (us.getD 10 undef)).put (some 68) (us.getD 11 undef)).put (some 56) (us.getD 12 undef)).put (some 69) (us.getD 13 undef)).put (some 70) (us.getD 14 undef)).put (some 71) (us.getD 15 undef)).put (some 9) (.pointer (some ⟨qa, 0, none⟩))).put (some 10) (.pointer (some ⟨qb, 0, none⟩))).put (some 11) (.int .i64 e1))) (Fin3 (kpW R (some W1)) 33 r (ApW R A1) V0) ?_ ?_
      · skip
        obtain ⟨OL, hOL⟩ : ∃ OL, OL = ApW R A1 := ⟨_, rfl⟩
        obtain ⟨KP, hKP⟩ : ∃ KP, KP = kpW R (some W1) := ⟨_, rfl⟩
        have HOKP := Lib.hid (show ∀ x w, KP.P x w → skW.Ok (KP.cs x) from by rw [hKP]; exact kpW_ok R _)
        have HOL := Lib.hid (show ∀ p : Nat → Prop, (∀ q, q < V0.heap.size → p q) → OL p from by rw [hOL]; exact fun p hp q hq => hp q (HWA.out.old q hq))
        have HST := Lib.hid (fun w' (h : Keeps [] V0 w') => WdProg.post V w' (A := A1) (O := some W) (HGL.out _ (HKV.out.trans h (FSub.refl _ _))) (HWA.out.new h) (fun W' hW' => by obtain rfl := Option.some.inj hW'; exact HWU.out) ⟨HXI.out.c0, HXI.out.c1⟩ HXI.out.x)
        simp only [oWX] at HST
        rw [HW1.out, HR1.out, HE1.out, ← hOL, ← hKP] at HST
        rw [← hOL, ← hKP]
        clear hOL hKP
        obtain ⟨S0, hS0⟩ : ∃ S0 : World → Prop, S0 = fun y => Keeps [] V0 y := ⟨_, rfl⟩
        have HSE := Lib.hid hS0
        have hSD : S0 V0.drew := by rw [hS0]; exact (Keeps.refl _ _).drew
        have HSA := Lib.hid (fun (w' : World) (hh : S0 w') => show w'.rangeAt p5 0 A1 from by rw [hS0] at hh; exact block_range (hh.heap HBV.out (by simp)))
        have HSC := Lib.hid (fun (w' : World) (hh : S0 w') => show w'.cell? ⟨g, o + k * 6, none⟩ = some (.int .u8 y.c) from by rw [hS0] at hh; exact hh.cell (cl_parts HRW.out).1 (by simp))
        have HSX := Lib.hid (fun (w' : World) (hh : S0 w') => show w'.rangeAt g (o + k * 6 + 1) (opC y.x) from by rw [hS0] at hh; exact fun j v hv => hh.cell ((cl_parts HRW.out).2 j v hv) (by simp))
        clear hS0
        refine wp_region_noPanic ?_
        refine wp_region_held_drew (S := S0) (by kernel_rfl) hSD (fun hHeld => ?_)
        refine tk 0 (y := by exact skW.yields HO1.out rfl _ rfl p5 0 rfl HSA.out) (h := ?_)
        refine tw 1 (h := ?_)
        refine tw 2 (h := ?_)
        refine tk 3 (y := by exact yields_indexC14 rfl _ _ rfl g o n cp k rfl rfl hlt) (h := ?_)
        refine tw 4 (h := ?_)
        refine tk 5 (y := by exact Or.inl ⟨by rfl, by intro w hSw; have q0 := HSC.out w hSw; go_simp; try with_reducible rfl⟩) (h := ?_)
        refine tw 6 (h := ?_)
        refine tw 7 (h := ?_)
        refine tk 8 (y := by exact yields_indexC14 rfl _ _ rfl g o n cp k rfl rfl hlt) (h := ?_)
        refine tw 9 (h := ?_)
        refine tk 10 (y := by exact yields_loadP y.x rfl _ rfl g _ rfl HSX.out) (h := ?_)
        have HY := Lib.hid ((Keeps.refl [] V0).drew)
        generalize V0.drew = YC at *
        iterate 3
          all_goals
            first
              | apply wpAnyH_ready (rs := [11, 16, 17])
                · decide +kernel
                · simp
                refine acn ?_ (acn ?_ (acn ?_ (AllReadyH.nil)))
              | apply wpAnyH_ready (rs := [11, 16])
                · decide +kernel
                · simp
                refine acn ?_ (acn ?_ (AllReadyH.nil))
              | apply wpAnyH_ready (rs := [11, 17])
                · decide +kernel
                · simp
                refine acn ?_ (acn ?_ (AllReadyH.nil))
              | apply wpAnyH_ready (rs := [16, 17])
                · decide +kernel
                · simp
                refine acn ?_ (acn ?_ (AllReadyH.nil))
              | apply wpAnyH_ready (rs := [11])
                · decide +kernel
                · simp
                refine acn ?_ (AllReadyH.nil)
              | apply wpAnyH_ready (rs := [16])
                · decide +kernel
                · simp
                refine acn ?_ (AllReadyH.nil)
              | apply wpAnyH_ready (rs := [17])
                · decide +kernel
                · simp
                refine acn ?_ (AllReadyH.nil)
            all_goals
              intro K hK
              rw [if_pos (by rfl)]
              first
              | refine wp_call9 13 _ _ rfl [.agg A1.toArray, .int .u8 y.c, y.x.val] rfl Tryz.func13 (by kernel_rfl) (by kernel_rfl) ((HST.out _ HY.out).mono ?_)
                rintro e YC ⟨x1, rfl, hpp, hk, hf⟩
                refine ⟨_, rfl, ?_⟩
                try have HFA := Lib.hid (show KP.Ap x1 (fun q => q ≠ ga) from hf _ (HOL.out _ (fun q hq => by have := HGA.out; omega)) (fun q hq => by have := HLA.out; omega))
                try have HFB := Lib.hid (show KP.Ap x1 (fun q => q ≠ gb) from hf _ (HOL.out _ (fun q hq => by have := HGB.out; omega)) (fun q hq => by have := HLB.out; omega))
                have HFN := Lib.hid (show ∀ p : Nat → Prop, OL p → (∀ q, V0.heap.size ≤ q → p q) → KP.Ap x1 p from fun p h1 h2 => hf p h1 (fun q hq => h2 q (Nat.le_trans HY.out.size hq)))
                try replace HBA := Lib.hid (hk.heap HBA.out (by simp))
                try replace HBB := Lib.hid (hk.heap HBB.out (by simp))
                try replace HAT := Lib.hid (KP.new HAT.out hk)
                try replace HLA := Lib.hid (Nat.lt_of_lt_of_le HLA.out hk.size)
                try replace HLB := Lib.hid (Nat.lt_of_lt_of_le HLB.out hk.size)
                replace HY := Lib.hid (HY.out.trans hk (FSub.refl _ _))
                have HAT := Lib.hid hpp
                clear hpp hk hf
                refine hK.out _ _ (by rw [HSE.out]; exact HY.out) (fun hHeld => ?_); clear hK K; try simp only [Act.put, lsA, lsZ, lsS]
                refine tw 12 (h := ?_)
                refine tw 13 (h := ?_)
                refine tw 14 (h := ?_)
                refine tw 15 (h := ?_)
              | refine wp_allocW14 rfl ?_
                have hk : Keeps [] YC (YC.alloc (.cells wdZ.toArray 33)) := (Keeps.refl _ _).alloc _
                have hb := heap_alloc_new YC (.cells wdZ.toArray 33)
                try have HFA := Lib.hid (show KP.Ap x1 (fun q => q ≠ YC.heap.size) from KP.mono (KP.old HAT.out) (fun q hq => Nat.ne_of_lt hq))
                try have HAB := Lib.hid (show YC.heap.size ≠ gb from Nat.ne_of_gt HLB.out)
                have HGA := Lib.hid HY.out.size
                try replace HBA := Lib.hid (hk.heap HBA.out (by simp))
                try replace HBB := Lib.hid (hk.heap HBB.out (by simp))
                try replace HAT := Lib.hid (KP.new HAT.out hk)
                try replace HLA := Lib.hid (Nat.lt_of_lt_of_le HLA.out hk.size)
                try replace HLB := Lib.hid (Nat.lt_of_lt_of_le HLB.out hk.size)
                replace HY := Lib.hid (HY.out.trans hk (FSub.refl _ _))
                have HBA := Lib.hid hb
                have HLA := Lib.hid (lt_of_block hb)
                clear hk hb
                generalize YC.heap.size = ga at *
                generalize YC.alloc (.cells wdZ.toArray 33) = YC at *
                refine hK.out _ _ (by rw [HSE.out]; exact HY.out) (fun hHeld => ?_); clear hK K; try simp only [Act.put, lsA, lsZ, lsS]
              | refine wp_allocA _ _ _ _ rfl ?_
                have hk : Keeps [] YC (YC.alloc (.cells (ansC ⟨0, 0⟩).toArray 25)) := (Keeps.refl _ _).alloc _
                have hb := heap_alloc_new YC (.cells (ansC ⟨0, 0⟩).toArray 25)
                try have HFB := Lib.hid (show KP.Ap x1 (fun q => q ≠ YC.heap.size) from KP.mono (KP.old HAT.out) (fun q hq => Nat.ne_of_lt hq))
                try have HAB := Lib.hid (show ga ≠ YC.heap.size from Nat.ne_of_lt HLA.out)
                have HGB := Lib.hid HY.out.size
                try replace HBA := Lib.hid (hk.heap HBA.out (by simp))
                try replace HBB := Lib.hid (hk.heap HBB.out (by simp))
                try replace HAT := Lib.hid (KP.new HAT.out hk)
                try replace HLA := Lib.hid (Nat.lt_of_lt_of_le HLA.out hk.size)
                try replace HLB := Lib.hid (Nat.lt_of_lt_of_le HLB.out hk.size)
                replace HY := Lib.hid (HY.out.trans hk (FSub.refl _ _))
                have HBB := Lib.hid hb
                have HLB := Lib.hid (lt_of_block hb)
                clear hk hb
                generalize YC.heap.size = gb at *
                generalize YC.alloc (.cells (ansC ⟨0, 0⟩).toArray 25) = YC at *
                refine hK.out _ _ (by rw [HSE.out]; exact HY.out) (fun hHeld => ?_); clear hK K; try simp only [Act.put, lsA, lsZ, lsS]
        all_goals
          refine rp 18 (h := fun K hK => ?_)
          refine skW.wp_put rfl (g := ga) (old := wdZ) (A := KP.cs x1) (HOKP.out _ _ HAT.out) wdZ_ok rfl rfl HBA.out (fun YC hV hk => ?_)
          replace HBA := Lib.hid hV
          replace HBB := Lib.hid (hk.heap HBB.out (by have := HAB.out; simp; exact fun e => this e.symm))
          replace HAT := Lib.hid (KP.put HAT.out hk HFA.out)
          replace HY := Lib.hid (HY.out.trans' hk HGA.out)
          clear hV hk
          refine hK.out _ _ (by rw [HSE.out]; exact HY.out) (fun hHeld => ?_); clear hK K; try simp only [Act.put, lsA, lsZ, lsS]
          refine rp 19 (h := fun K hK => ?_)
          refine wp_putN rfl (g := gb) (old := ⟨0, 0⟩) r rfl rfl HBB.out (fun YC hV hk => ?_)
          replace HBB := Lib.hid hV
          replace HBA := Lib.hid (hk.heap HBA.out (by have := HAB.out; simpa using this))
          replace HAT := Lib.hid (KP.put HAT.out hk HFB.out)
          replace HY := Lib.hid (HY.out.trans' hk HGB.out)
          clear hV hk
          refine hK.out _ _ (by rw [HSE.out]; exact HY.out) (fun hHeld => ?_); clear hK K; try simp only [Act.put, lsA, lsZ, lsS]
          refine tw 20 (h := ?_)
          refine wpAnyH_done (by kernel_rfl) ?_ _
          refine NoPanic.normal ?_
          exact ⟨rfl, ga, gb, .agg (KP.cs x1).toArray, [_, _, _, _, _, _, _, _, _, _, _, _, _, _, _, _], rfl, x1, rfl, HBA.out, HBB.out, HAT.out, HY.out, HGA.out, HGB.out, HAB.out, HFN.out, KP.and_ HFA.out HFB.out⟩
      rintro p9 p10 zv us V1 ⟨x1, rfl, -, -, -, hk1, -, -, -, -, -⟩
      simp only [Act.put, lsA, lsZ, lsS]
      have HK1 := Lib.hid (HK.out.trans hk1 (FSub.refl _ _))
      have HZ1 := Lib.hid (HZ.out.keeps hk1 (by simp))
      have HRW1 := Lib.hid (fun j v hv => hk1.cell (HRW.out j v hv) (by simp))
      clear hk1 HZ HK HRW HWA HWU HBV HKV HW1 HR1
      by_cases he : e1 = 0
      · subst he
        obtain ⟨v', w3, hrun, hrow3, hk3, hf3⟩ := rkC14.append1 V1 u0.heap.size HK1.out.size _ _ HZ1.out y (by have := HKL.out; omega)
        have HRUN := Lib.hid (show (Builtin.append_ #[22, 22] 22 #[.slice av L.length cv, .slice (some ⟨V1.heap.size, 0, none⟩) 1 1]).run Tryz.prog (V1.alloc (.cells (clC y).toArray 49)) = .ok v' w3 from hrun)
        have HROW := Lib.hid hrow3
        have HK3 := Lib.hid (HK1.out.trans hk3 (fun q hq => .inr (row_base HZ1.out q hq).1))
        obtain ⟨a9, c9, rfl, -, -⟩ := hrow3.shape
        have HRX := Lib.hid (show V1.rangeAt g (o + k * 6) (clC y) from HRW1.out)
        clear hrun hrow3 hk3 hf3 HK1 HZ1 HRW1
        go_wp2_with (first
          | ((with_reducible refine wpList_loadC14 (g := g) (off := o + k * 6) y ?_ ?_ HRX.out ?_); exact rfl; exact rfl)
          | ((with_reducible refine wpList_litC14 (x := y) ?_ ?_); exact rfl)
          | ((with_reducible refine wpList_app _ _ ?_ ?_ HRUN.out ?_); exact rfl; exact rfl))
        go_roundw
        case rel => exact ⟨k + 1, by go_num, by omega, by rw [← HWE.out, HNX.out, if_pos rfl]; have h := HROW.out; rw [List.length_append] at h; exact h, HK3.out⟩
        case measure => simp [intOf]; omega
      · have q0 : (e1 == 0) = false := by simpa using he
        have HEE := Lib.hid he
        clear he
        go_wp2_with fail
        go_roundw
        case rel => exact ⟨k + 1, by go_num, by omega, by rw [← HWE.out, HNX.out, if_neg HEE.out, List.append_nil]; exact HZ1.out, HK1.out⟩
        case measure => simp [intOf]; omega
    · obtain rfl : k = n := by omega
      have hta : l.take k = l := List.take_of_length_le (by rw [HN2.out]; exact Nat.le_refl _)
      rw [hta] at hz
      obtain ⟨u1, hu1⟩ : ∃ u1, u1 = wr := ⟨_, rfl⟩
      subst hu1
      obtain ⟨L, hL⟩ : ∃ L, L = kept14 (wd0 m) l := ⟨_, rfl⟩
      rw [← hL] at hz
      obtain ⟨nl, hnl⟩ : ∃ nl, nl = L.length := ⟨_, rfl⟩
      obtain ⟨av, cv, rfl, -, -⟩ := id hz.shape
      have HIL := Lib.hid hz.in_
      rw [← hnl] at HIL ⊢
      have HNL := Lib.hid hnl.symm
      have HL60 := Lib.hid (show nl ≤ 60 from by rw [hnl, hL]; exact Nat.le_trans (kept14_len _ _) (by rw [HN2.out]; omega))
      have HLL := Lib.hid (show ∀ y ∈ L, y.In from fun y hy => HLI.out y (kept14_mem (by rw [hL] at hy; exact hy)).1)
      have HLE := Lib.hid (show ∀ y ∈ L, ∀ r : List Cl, (∀ z ∈ r, z.In) → (wdX (bhW (wd0 m) r) y.c y.x).2.2 = 0 from fun y hy r hr => kept_err HM.out.1 HM.out.2 hr (by rw [hL] at hy; exact hy))
      have HUW := Lib.hid (show ∀ r : List Cl, (∀ z ∈ r, z.In) → r.length ≤ 540 → (bhW (wd0 m) r).upto 1000 from fun r hr hn S hS => by
        have := bhW_upto (k := 0) r (wd0_in HM.out.1 HM.out.2) hr (wd0_upto m 0) S hS
        omega)
      have HKU1 := Lib.hid (HKU.out.trans hkw (FSub.refl _ _))
      have HW1 := Lib.hid (H1.out.new hkw); have HBW := Lib.hid (hkw.heap HB1.out (by simp))
      clear hz hnl hL hta hkw HZ HK hlt hk H1 HB1 HKU HIN
      have HNC := Lib.hid (show (u1.alloc (.cells wdZA 33)).heap[u1.heap.size]? = some (.cells wdZ.toArray 33 (0, 0)) from heap_alloc_new u1 _)
      have HNK := Lib.hid (show Keeps [] u1 (u1.alloc (.cells wdZA 33)) from (Keeps.refl _ _).alloc _)
      go_wp2_with (first
        | ((with_reducible refine wpList_loadW (g := p5) HO1.out ?_ ?_ (block_range HBW.out) ?_); exact rfl; exact rfl)
        | ((with_reducible refine wpList_putW (g := u1.heap.size) (old := wdZ) (A := A1) HO1.out wdZ_ok ?_ ?_ HNC.out ?_); exact rfl; exact rfl))
      intro u2 hW hk2
      have HK2 := Lib.hid (HNK.out.trans' hk2 (Nat.le_refl _))
      have HB13 := Lib.hid hW
      have HP13 := Lib.hid (show u1.heap.size ≤ u1.heap.size ∧ u1.heap.size < u2.heap.size from ⟨Nat.le_refl _, lt_of_block hW⟩)
      clear hW hk2 HNC HNK
      obtain ⟨p13, hp13⟩ : ∃ p13, p13 = u1.heap.size := ⟨_, rfl⟩
      rw [← hp13] at HB13 ⊢
      replace HP13 := Lib.hid (show u1.heap.size ≤ p13 ∧ p13 < u2.heap.size from by rw [hp13]; exact HP13.out)
      clear hp13
      go_wp2_with fail
      go_loopw [12, 14] (fun va i wr => ∃ (k : Nat) (A : List Value), i = .int .i64 k ∧ k ≤ nl ∧ skW.Ok A ∧ wr.heap[p13]? = some (.cells A.toArray 33 (0, 0)) ∧ WoAt R wr (.agg A.toArray) (some (bhW (wd0 m) (L.take k))) ∧ rkA.Own u2.heap.size wr va (ansW (wd0 m) (L.take k)) ∧ (∀ q ∈ wFoot R (.agg A.toArray), q ≠ p13 ∧ q ∉ own va) ∧ Keeps [] u1 wr ∧ u2.heap.size ≤ wr.heap.size) (fun _ i _ => nl - (intOf i).toNat)
      case atStart => exact ⟨0, A1, rfl, by omega, HO1.out, HB13.out, HW1.out.new HK2.out, RK.Own.nil rkA _ _, fun q hq => ⟨by have h1 := HW1.out.old q hq; have h2 := HP13.out; omega, fun h => (nomatch (show q ∈ ([] : List Nat) from h))⟩, HK2.out, Nat.le_refl _⟩
      case round =>
        obtain ⟨k, A, rfl, hk, hok, hb, hat, hz, hft, hkw, hsz⟩ := hrel
        by_cases hlt : k < nl
        · have hkl : k < L.length := by have := HNL.out; omega
          obtain ⟨g, o, rfl, hg, hr⟩ := InC14_at (HIL.out.new hkw (Nat.le_refl _)) hkl
          have HRW := Lib.hid hr
          have HNX := Lib.hid (bhW_next (W := wd0 m) hkl); have HNA := Lib.hid (ansW_next (W := wd0 m) hkl)
          have hyL : L[k] ∈ L := List.getElem_mem hkl
          have HXI := Lib.hid (HLL.out _ hyL)
          have htk : ∀ z ∈ L.take k, z.In := fun z hz => HLL.out z (List.mem_of_mem_take hz)
          have HEK := Lib.hid (HLE.out _ hyL _ htk)
          have HWU := Lib.hid (HUW.out _ htk (by rw [List.length_take]; have := HL60.out; omega))
          have HKL := Lib.hid (show (ansW (wd0 m) (L.take k)).length ≤ 60 from by rw [ansW_len, List.length_take]; have := HL60.out; omega)
          clear hr hyL htk
          generalize L[k] = y at *
          generalize bhW (wd0 m) (L.take k) = W at *
          generalize ansW (wd0 m) (L.take k) = N at *
          obtain ⟨av2, cv2, rfl, -, -⟩ := id hz.shape
          have HZ := Lib.hid hz; have HK := Lib.hid hkw; have HOA := Lib.hid hok; have HBV := Lib.hid hb; have HWA := Lib.hid hat; have HFT := Lib.hid hft; have HSZ := Lib.hid hsz
          clear hz hkw hok hb hat hft hsz
          obtain ⟨W1, hW1⟩ : ∃ W1, W1 = (wdX W y.c y.x).1 := ⟨_, rfl⟩
          obtain ⟨r, hr⟩ : ∃ r, r = (wdX W y.c y.x).2.1 := ⟨_, rfl⟩
          obtain ⟨e1, he1⟩ : ∃ e1, e1 = (wdX W y.c y.x).2.2 := ⟨_, rfl⟩
          have HW1 := Lib.hid hW1.symm; have HR1 := Lib.hid hr.symm; have HE1 := Lib.hid he1.symm
          rw [← hr] at HNA
          rw [← hW1] at HNX
          obtain rfl : e1 = 0 := by rw [he1]; exact HEK.out
          obtain ⟨V0, hV0⟩ : ∃ V0, V0 = wr := ⟨_, rfl⟩
          subst hV0
          have HKV := Lib.hid (HKU1.out.trans HK.out (FSub.refl _ _))
          clear hW1 hr he1
          go_wp2_with fail
          refine wp_join13 (fun qa qb zv us a => (((((((((((((((((((a.put (some 89) (us.getD 0 undef)).put (some 90) (us.getD 1 undef)).put (some 91) (us.getD 2 undef)).put (some 92) (us.getD 3 undef)).put (some 93) (us.getD 4 undef)).put (some 94) (us.getD 5 undef)).put (some 95) (us.getD 6 undef)).put (some 96) (us.getD 7 undef)).put (some 97) (us.getD 8 undef)).put (some 98) (us.getD 9 undef)).put (some 99) (us.getD 10 undef)).put (some 100) (us.getD 11 undef)).put (some 88) (us.getD 12 undef)).put (some 101) (us.getD 13 undef)).put (some 102) (us.getD 14 undef)).put (some 103) (us.getD 15 undef)).put (some 15) (.pointer (some ⟨qa, 0, none⟩))).put (some 16) (.pointer (some ⟨qb, 0, none⟩))).put (some 17) (.int .i64 0))) (Fin3 (kpW R (some W1)) 33 r (ApW R A) V0) ?_ ?_
          · skip
            obtain ⟨OL, hOL⟩ : ∃ OL, OL = ApW R A := ⟨_, rfl⟩
            obtain ⟨KP, hKP⟩ : ∃ KP, KP = kpW R (some W1) := ⟨_, rfl⟩
            have HOKP := Lib.hid (show ∀ x w, KP.P x w → skW.Ok (KP.cs x) from by rw [hKP]; exact kpW_ok R _)
            have HOL := Lib.hid (show ∀ p : Nat → Prop, (∀ q, q < V0.heap.size → p q) → OL p from by rw [hOL]; exact fun p hp q hq => hp q (HWA.out.old q hq))
            have HST := Lib.hid (fun w' (h : Keeps [] V0 w') => WdProg.post V w' (A := A) (O := some W) (HGL.out _ (HKV.out.trans h (FSub.refl _ _))) (HWA.out.new h) (fun W' hW' => by obtain rfl := Option.some.inj hW'; exact HWU.out) ⟨HXI.out.c0, HXI.out.c1⟩ HXI.out.x)
            simp only [oWX] at HST
            rw [HW1.out, HR1.out, HE1.out, ← hOL, ← hKP] at HST
            rw [← hOL, ← hKP]
            clear hOL hKP
            obtain ⟨S0, hS0⟩ : ∃ S0 : World → Prop, S0 = fun y => Keeps [] V0 y := ⟨_, rfl⟩
            have HSE := Lib.hid hS0
            have hSD : S0 V0.drew := by rw [hS0]; exact (Keeps.refl _ _).drew
            have HSA := Lib.hid (fun (w' : World) (hh : S0 w') => show w'.rangeAt p13 0 A from by rw [hS0] at hh; exact block_range (hh.heap HBV.out (by simp)))
            have HSC := Lib.hid (fun (w' : World) (hh : S0 w') => show w'.cell? ⟨g, o + k * 6, none⟩ = some (.int .u8 y.c) from by rw [hS0] at hh; exact hh.cell (cl_parts HRW.out).1 (by simp))
            have HSX := Lib.hid (fun (w' : World) (hh : S0 w') => show w'.rangeAt g (o + k * 6 + 1) (opC y.x) from by rw [hS0] at hh; exact fun j v hv => hh.cell ((cl_parts HRW.out).2 j v hv) (by simp))
            clear hS0
            refine wp_region_noPanic ?_
            refine wp_region_held_drew (S := S0) (by kernel_rfl) hSD (fun hHeld => ?_)
            refine tk 0 (y := by exact skW.yields HOA.out rfl _ rfl p13 0 rfl HSA.out) (h := ?_)
            refine tw 1 (h := ?_)
            refine tw 2 (h := ?_)
            refine tk 3 (y := by exact yields_indexC14 rfl _ _ rfl g o nl cv k rfl rfl hlt) (h := ?_)
            refine tw 4 (h := ?_)
            refine tk 5 (y := by exact Or.inl ⟨by rfl, by intro w hSw; have q0 := HSC.out w hSw; go_simp; try with_reducible rfl⟩) (h := ?_)
            refine tw 6 (h := ?_)
            refine tw 7 (h := ?_)
            refine tk 8 (y := by exact yields_indexC14 rfl _ _ rfl g o nl cv k rfl rfl hlt) (h := ?_)
            refine tw 9 (h := ?_)
            refine tk 10 (y := by exact yields_loadP y.x rfl _ rfl g _ rfl HSX.out) (h := ?_)
            have HY := Lib.hid ((Keeps.refl [] V0).drew)
            generalize V0.drew = YC at *
            iterate 3
              all_goals
                first
                  | apply wpAnyH_ready (rs := [11, 16, 17])
                    · decide +kernel
                    · simp
                    refine acn ?_ (acn ?_ (acn ?_ (AllReadyH.nil)))
                  | apply wpAnyH_ready (rs := [11, 16])
                    · decide +kernel
                    · simp
                    refine acn ?_ (acn ?_ (AllReadyH.nil))
                  | apply wpAnyH_ready (rs := [11, 17])
                    · decide +kernel
                    · simp
                    refine acn ?_ (acn ?_ (AllReadyH.nil))
                  | apply wpAnyH_ready (rs := [16, 17])
                    · decide +kernel
                    · simp
                    refine acn ?_ (acn ?_ (AllReadyH.nil))
                  | apply wpAnyH_ready (rs := [11])
                    · decide +kernel
                    · simp
                    refine acn ?_ (AllReadyH.nil)
                  | apply wpAnyH_ready (rs := [16])
                    · decide +kernel
                    · simp
                    refine acn ?_ (AllReadyH.nil)
                  | apply wpAnyH_ready (rs := [17])
                    · decide +kernel
                    · simp
                    refine acn ?_ (AllReadyH.nil)
                all_goals
                  intro K hK
                  rw [if_pos (by rfl)]
                  first
                  | refine wp_call9 13 _ _ rfl [.agg A.toArray, .int .u8 y.c, y.x.val] rfl Tryz.func13 (by kernel_rfl) (by kernel_rfl) ((HST.out _ HY.out).mono ?_)
                    rintro e YC ⟨x1, rfl, hpp, hk, hf⟩
                    refine ⟨_, rfl, ?_⟩
                    try have HFA := Lib.hid (show KP.Ap x1 (fun q => q ≠ ga) from hf _ (HOL.out _ (fun q hq => by have := HGA.out; omega)) (fun q hq => by have := HLA.out; omega))
                    try have HFB := Lib.hid (show KP.Ap x1 (fun q => q ≠ gb) from hf _ (HOL.out _ (fun q hq => by have := HGB.out; omega)) (fun q hq => by have := HLB.out; omega))
                    have HFN := Lib.hid (show ∀ p : Nat → Prop, OL p → (∀ q, V0.heap.size ≤ q → p q) → KP.Ap x1 p from fun p h1 h2 => hf p h1 (fun q hq => h2 q (Nat.le_trans HY.out.size hq)))
                    try replace HBA := Lib.hid (hk.heap HBA.out (by simp))
                    try replace HBB := Lib.hid (hk.heap HBB.out (by simp))
                    try replace HAT := Lib.hid (KP.new HAT.out hk)
                    try replace HLA := Lib.hid (Nat.lt_of_lt_of_le HLA.out hk.size)
                    try replace HLB := Lib.hid (Nat.lt_of_lt_of_le HLB.out hk.size)
                    replace HY := Lib.hid (HY.out.trans hk (FSub.refl _ _))
                    have HAT := Lib.hid hpp
                    clear hpp hk hf
                    refine hK.out _ _ (by rw [HSE.out]; exact HY.out) (fun hHeld => ?_); clear hK K; try simp only [Act.put, lsA, lsZ, lsS]
                    refine tw 12 (h := ?_)
                    refine tw 13 (h := ?_)
                    refine tw 14 (h := ?_)
                    refine tw 15 (h := ?_)
                  | refine wp_allocW14 rfl ?_
                    have hk : Keeps [] YC (YC.alloc (.cells wdZ.toArray 33)) := (Keeps.refl _ _).alloc _
                    have hb := heap_alloc_new YC (.cells wdZ.toArray 33)
                    try have HFA := Lib.hid (show KP.Ap x1 (fun q => q ≠ YC.heap.size) from KP.mono (KP.old HAT.out) (fun q hq => Nat.ne_of_lt hq))
                    try have HAB := Lib.hid (show YC.heap.size ≠ gb from Nat.ne_of_gt HLB.out)
                    have HGA := Lib.hid HY.out.size
                    try replace HBA := Lib.hid (hk.heap HBA.out (by simp))
                    try replace HBB := Lib.hid (hk.heap HBB.out (by simp))
                    try replace HAT := Lib.hid (KP.new HAT.out hk)
                    try replace HLA := Lib.hid (Nat.lt_of_lt_of_le HLA.out hk.size)
                    try replace HLB := Lib.hid (Nat.lt_of_lt_of_le HLB.out hk.size)
                    replace HY := Lib.hid (HY.out.trans hk (FSub.refl _ _))
                    have HBA := Lib.hid hb
                    have HLA := Lib.hid (lt_of_block hb)
                    clear hk hb
                    generalize YC.heap.size = ga at *
                    generalize YC.alloc (.cells wdZ.toArray 33) = YC at *
                    refine hK.out _ _ (by rw [HSE.out]; exact HY.out) (fun hHeld => ?_); clear hK K; try simp only [Act.put, lsA, lsZ, lsS]
                  | refine wp_allocA _ _ _ _ rfl ?_
                    have hk : Keeps [] YC (YC.alloc (.cells (ansC ⟨0, 0⟩).toArray 25)) := (Keeps.refl _ _).alloc _
                    have hb := heap_alloc_new YC (.cells (ansC ⟨0, 0⟩).toArray 25)
                    try have HFB := Lib.hid (show KP.Ap x1 (fun q => q ≠ YC.heap.size) from KP.mono (KP.old HAT.out) (fun q hq => Nat.ne_of_lt hq))
                    try have HAB := Lib.hid (show ga ≠ YC.heap.size from Nat.ne_of_lt HLA.out)
                    have HGB := Lib.hid HY.out.size
                    try replace HBA := Lib.hid (hk.heap HBA.out (by simp))
                    try replace HBB := Lib.hid (hk.heap HBB.out (by simp))
                    try replace HAT := Lib.hid (KP.new HAT.out hk)
                    try replace HLA := Lib.hid (Nat.lt_of_lt_of_le HLA.out hk.size)
                    try replace HLB := Lib.hid (Nat.lt_of_lt_of_le HLB.out hk.size)
                    replace HY := Lib.hid (HY.out.trans hk (FSub.refl _ _))
                    have HBB := Lib.hid hb
                    have HLB := Lib.hid (lt_of_block hb)
                    clear hk hb
                    generalize YC.heap.size = gb at *
                    generalize YC.alloc (.cells (ansC ⟨0, 0⟩).toArray 25) = YC at *
                    refine hK.out _ _ (by rw [HSE.out]; exact HY.out) (fun hHeld => ?_); clear hK K; try simp only [Act.put, lsA, lsZ, lsS]
            all_goals
              refine rp 18 (h := fun K hK => ?_)
              refine skW.wp_put rfl (g := ga) (old := wdZ) (A := KP.cs x1) (HOKP.out _ _ HAT.out) wdZ_ok rfl rfl HBA.out (fun YC hV hk => ?_)
              replace HBA := Lib.hid hV
              replace HBB := Lib.hid (hk.heap HBB.out (by have := HAB.out; simp; exact fun e => this e.symm))
              replace HAT := Lib.hid (KP.put HAT.out hk HFA.out)
              replace HY := Lib.hid (HY.out.trans' hk HGA.out)
              clear hV hk
              refine hK.out _ _ (by rw [HSE.out]; exact HY.out) (fun hHeld => ?_); clear hK K; try simp only [Act.put, lsA, lsZ, lsS]
              refine rp 19 (h := fun K hK => ?_)
              refine wp_putN rfl (g := gb) (old := ⟨0, 0⟩) r rfl rfl HBB.out (fun YC hV hk => ?_)
              replace HBB := Lib.hid hV
              replace HBA := Lib.hid (hk.heap HBA.out (by have := HAB.out; simpa using this))
              replace HAT := Lib.hid (KP.put HAT.out hk HFB.out)
              replace HY := Lib.hid (HY.out.trans' hk HGB.out)
              clear hV hk
              refine hK.out _ _ (by rw [HSE.out]; exact HY.out) (fun hHeld => ?_); clear hK K; try simp only [Act.put, lsA, lsZ, lsS]
              refine tw 20 (h := ?_)
              refine wpAnyH_done (by kernel_rfl) ?_ _
              refine NoPanic.normal ?_
              exact ⟨rfl, ga, gb, .agg (KP.cs x1).toArray, [_, _, _, _, _, _, _, _, _, _, _, _, _, _, _, _], rfl, x1, rfl, HBA.out, HBB.out, HAT.out, HY.out, HGA.out, HGB.out, HAB.out, HFN.out, KP.and_ HFA.out HFB.out⟩
          rintro p15 p16 zv us V1 ⟨x1, rfl, hba, hbb, hp, hk1, hga, hgb, -, hol, -⟩
          simp only [Act.put, lsA, lsZ, lsS]
          have HOV := Lib.hid (fun q hq => row_base HZ.out q hq)
          have HFX := Lib.hid (show ∀ q ∈ wFoot R (.agg x1.toArray), q ≠ p13 ∧ q ∉ own (.slice av2 N.length cv2) from hol (fun q => q ≠ p13 ∧ q ∉ own (.slice av2 N.length cv2)) HFT.out (fun q hq => ⟨by have := lt_of_block HBV.out; omega, fun h => by have := (HOV.out q h).2; omega⟩))
          have HWX := Lib.hid (show WoAt R V1 (.agg x1.toArray) (some W1) from hp)
          have HOX := Lib.hid (woAt_ok HWX.out)
          have HK1 := Lib.hid (HK.out.trans hk1 (FSub.refl _ _)); have HZ1 := Lib.hid (HZ.out.keeps hk1 (by simp))
          have HB1V := Lib.hid (hk1.heap HBV.out (by simp))
          have HB15 := Lib.hid (show V1.heap[p15]? = some (.cells x1.toArray 33 (0, 0)) from hba); have HB16 := Lib.hid hbb
          have HP15 := Lib.hid (show V0.heap.size ≤ p15 from hga)
          have HSZ1 := Lib.hid (Nat.le_trans HSZ.out hk1.size)
          have HPV := Lib.hid (lt_of_block HBV.out)
          clear hba hbb hp hk1 hga hgb hol HK HRW HWA HWU HBV HKV HW1 HR1 HE1 HFT HSZ
          obtain ⟨v', w3, hrun, hrow3, hk3, hf3⟩ := rkA.append1 V1 u2.heap.size HSZ1.out _ _ HZ1.out r (by have := HKL.out; omega)
          have HRUN := Lib.hid (show (Builtin.append_ #[63, 63] 63 #[.slice av2 N.length cv2, .slice (some ⟨V1.heap.size, 0, none⟩) 1 1]).run Tryz.prog (V1.alloc (.cells (ansC r).toArray 25)) = .ok v' w3 from hrun)
          have HROW := Lib.hid hrow3
          have HK3 := Lib.hid (HK1.out.trans hk3 (fun q hq => .inr (by have := (row_base HZ1.out q hq).1; have := HP13.out; omega)))
          have HWX3 := Lib.hid (HWX.out.keep hk3 (fun q hq => (HFX.out q hq).2))
          have HB15W := Lib.hid (hk3.heap HB15.out (fun hq => by have := (HOV.out _ hq).2; have := HP15.out; omega))
          have HB13W := Lib.hid (hk3.heap HB1V.out (fun hq => by have := (HOV.out _ hq).1; have := HP13.out; omega))
          have HFX3 := Lib.hid (show ∀ q ∈ wFoot R (.agg x1.toArray), q ∉ own v' from fun q hq h => (hf3 q h).elim (HFX.out q hq).2 (fun h => by have := HWX.out.old q hq; omega))
          have HS3 := Lib.hid (Nat.le_trans HSZ1.out hk3.size)
          obtain ⟨a9, c9, rfl, -, -⟩ := hrow3.shape
          clear hrun hrow3 hk3 hf3 HK1 HZ1 HB1V HB15 HZ HOV HWX
          go_wp2_with (first
            | ((with_reducible refine wpList_loadN13 (g := p16) (y := r) ?_ ?_ HB16.out ?_); exact rfl; exact rfl)
            | ((with_reducible refine wpList_buildA (x := r) ?_ ?_); exact rfl)
            | ((with_reducible refine wpList_app _ _ ?_ ?_ HRUN.out ?_); exact rfl; exact rfl)
            | ((with_reducible refine wpList_loadW (g := p15) HOX.out ?_ ?_ (block_range HB15W.out) ?_); exact rfl; exact rfl)
            | ((with_reducible refine wpList_putW (g := p13) (old := A) (A := x1) HOX.out HOA.out ?_ ?_ HB13W.out ?_); exact rfl; exact rfl))
          intro w4 hW hk4
          have HB4 := Lib.hid hW
          have HWX4 := Lib.hid (HWX3.out.put hk4 (fun q hq => (HFX.out q hq).1))
          have HROW4 := Lib.hid (HROW.out.keeps hk4 (fun q hq => by have := (row_base HROW.out q hq).1; have := HP13.out; simp; omega))
          have HK4 := Lib.hid (HK3.out.trans' hk4 HP13.out.1)
          have HS4 := Lib.hid (Nat.le_trans HS3.out hk4.size)
          clear hW hk4 HK3 HROW HWX3 HB15W HB13W HS3
          have h60 := HL60.out
          go_wp2_with fail
          go_roundw
          case rel => exact ⟨k + 1, x1, by go_num, by omega, HOX.out, HB4.out, by rw [HNX.out]; exact HWX4.out, by rw [HNA.out]; have h := HROW4.out; rw [List.length_append] at h; exact h, fun q hq => ⟨(HFX.out q hq).1, by have h := HFX3.out q hq; rw [List.length_append] at h; exact h⟩, HK4.out, HS4.out⟩
          case measure => simp [intOf]; omega
        · obtain rfl : nl = k := by omega
          have hta : L.take nl = L := List.take_of_length_le (by rw [HNL.out]; exact Nat.le_refl _)
          rw [hta] at hat hz
          obtain ⟨u3, hu3⟩ : ∃ u3, u3 = wr := ⟨_, rfl⟩
          subst hu3
          have HANS := Lib.hid (fun (j : Nat) (hj : j < L.length) => ansW_get (W := wd0 m) hj)
          have HNA := Lib.hid (show (ansW (wd0 m) L).length = nl from (ansW_len _ _).trans HNL.out)
          have HXW := Lib.hid (show (bhW (wd0 m) L).In from bhW_in _ (wd0_in HM.out.1 HM.out.2) HLL.out)
          have HXU := Lib.hid (HUW.out L HLL.out (by have := HNL.out; have := HL60.out; omega))
          have HAL := Lib.hid (fun (o : Nat) (j : Nat) => bhW_alone (W := wd0 m) (wd0_in HM.out.1 HM.out.2) (l := L.take j) (fun z hz => HLL.out z (List.mem_of_mem_take hz)) o)
          have HSR := Lib.hid (bhW_sorted (W := wd0 m) (wd0_in HM.out.1 HM.out.2) HLL.out)
          obtain ⟨av2, cv2, rfl, -, -⟩ := id hz.shape
          have HIA := Lib.hid hz.in_
          rw [HNA.out] at HIA ⊢
          have HWX := Lib.hid hat; have HBX := Lib.hid hb; have HOX := Lib.hid hok
          have HW3 := Lib.hid (HW1.out.new hkw); have HBW3 := Lib.hid (hkw.heap HBW.out (by simp)); have HI3 := Lib.hid ((HIL.out.new hkw (Nat.le_refl _)).more hkw.size); have HKU3 := Lib.hid (HKU1.out.trans hkw (FSub.refl _ _))
          clear hta hat hz hb hok hft hkw hsz hlt hk HW1 HBW HIL HKU1 HK2 HB13 HP13
          generalize hXX : bhW (wd0 m) L = X at *
          generalize hNN : ansW (wd0 m) L = N at *
          have HXX := Lib.hid hXX
          clear hXX hNN
          have HNC := Lib.hid (show (u3.alloc (.cells wdZA 33)).heap[u3.heap.size]? = some (.cells wdZ.toArray 33 (0, 0)) from heap_alloc_new u3 _)
          have HNK := Lib.hid (show Keeps [] u3 (u3.alloc (.cells wdZA 33)) from (Keeps.refl _ _).alloc _)
          go_wp2_with (first
            | ((with_reducible refine wpList_loadW (g := p5) HO1.out ?_ ?_ (block_range HBW3.out) ?_); exact rfl; exact rfl)
            | ((with_reducible refine wpList_putW (g := u3.heap.size) (old := wdZ) (A := A1) HO1.out wdZ_ok ?_ ?_ HNC.out ?_); exact rfl; exact rfl))
          intro u4 hW hk2
          have HK4 := Lib.hid (HNK.out.trans' hk2 (Nat.le_refl _))
          have HB18 := Lib.hid hW
          have HP18 := Lib.hid (show u3.heap.size ≤ u3.heap.size ∧ u3.heap.size < u4.heap.size from ⟨Nat.le_refl _, lt_of_block hW⟩)
          clear hW hk2 HNC HNK
          obtain ⟨p18, hp18⟩ : ∃ p18, p18 = u3.heap.size := ⟨_, rfl⟩
          rw [← hp18] at HB18 ⊢
          replace HP18 := Lib.hid (show u3.heap.size ≤ p18 ∧ p18 < u4.heap.size from by rw [hp18]; exact HP18.out)
          clear hp18
          go_wp2_with fail
          go_loopw [19] (fun o wr => ∃ (b : Nat) (A : List Value), o = .int .u8 b ∧ b ≤ 8 ∧ skW.Ok A ∧ wr.heap[p18]? = some (.cells A.toArray 33 (0, 0)) ∧ WoAt R wr (.agg A.toArray) (some (bhW (wd0 m) (sortO b L))) ∧ (∀ q ∈ wFoot R (.agg A.toArray), q ≠ p18) ∧ Keeps [] u3 wr) (fun o _ => 8 - (intOf o).toNat)
          case atStart => exact ⟨0, A1, rfl, by omega, HO1.out, HB18.out, HW3.out.new HK4.out, fun q hq => by have h1 := HW3.out.old q hq; have h2 := HP18.out; omega, HK4.out⟩
          case round =>
            obtain ⟨b, AS, rfl, hb8, hos, hbs, hws, hfs, hkr⟩ := hrel
            by_cases hbl : b < 8
            · have b0 : (b : Int) < 8 := by omega
              have HOS := Lib.hid hos; have HBS := Lib.hid hbs; have HWS := Lib.hid hws; have HFS := Lib.hid hfs; have HKR := Lib.hid hkr
              have HNC := Lib.hid (show (wr.alloc (.cells wdZA 33)).heap[wr.heap.size]? = some (.cells wdZ.toArray 33 (0, 0)) from heap_alloc_new wr _)
              have HNK := Lib.hid (show Keeps [] wr (wr.alloc (.cells wdZA 33)) from (Keeps.refl _ _).alloc _)
              have HBW5 := Lib.hid (hkr.heap HBW3.out (by simp))
              clear hos hbs hws hfs hkr
              go_wp2_with (first
                | ((with_reducible refine wpList_loadW (g := p5) HO1.out ?_ ?_ (block_range HBW5.out) ?_); exact rfl; exact rfl)
                | ((with_reducible refine wpList_putW (g := wr.heap.size) (old := wdZ) (A := A1) HO1.out wdZ_ok ?_ ?_ HNC.out ?_); exact rfl; exact rfl))
              intro u5 hW hk2
              have hk5 := HNK.out.trans' hk2 (Nat.le_refl _)
              have HB20 := Lib.hid hW
              have HP20 := Lib.hid (show p18 < wr.heap.size ∧ u3.heap.size ≤ wr.heap.size from ⟨lt_of_block HBS.out, HKR.out.size⟩)
              have HK5 := Lib.hid (HKR.out.trans hk5 (FSub.refl _ _)); have HBS5 := Lib.hid (hk5.heap HBS.out (by simp)); have HWS5 := Lib.hid (HWS.out.new hk5)
              have HFS5 := Lib.hid (fun q hq => show q ≠ p18 ∧ q ≠ wr.heap.size from ⟨HFS.out q hq, Nat.ne_of_lt (HWS.out.old q hq)⟩)
              have HW5 := Lib.hid (HW3.out.new HK5.out)
              have HF5 := Lib.hid (fun q hq => show q ≠ p18 ∧ q ≠ wr.heap.size from ⟨by have h1 := HW3.out.old q hq; have h2 := HP18.out; omega, by have h1 := HW3.out.old q hq; have h2 := HP20.out; omega⟩)
              clear hW hk2 hk5 HNC HNK HBW5 HBS HWS HFS
              obtain ⟨p20, hp20⟩ : ∃ p20, p20 = wr.heap.size := ⟨_, rfl⟩
              rw [← hp20] at HB20 HP20 HFS5 HF5 ⊢
              clear hp20
              go_wp2_with fail
              go_loopw [21] (fun i wz => ∃ (k : Nat) (A B : List Value), i = .int .i64 k ∧ k ≤ nl ∧ skW.Ok A ∧ skW.Ok B ∧ wz.heap[p20]? = some (.cells A.toArray 33 (0, 0)) ∧ wz.heap[p18]? = some (.cells B.toArray 33 (0, 0)) ∧ WoAt R wz (.agg A.toArray) (some (bhW (wd0 m) (ofO b (L.take k)))) ∧ WoAt R wz (.agg B.toArray) (some (bhW (wd0 m) (sortO b L ++ ofO b (L.take k)))) ∧ (∀ q ∈ wFoot R (.agg A.toArray), q ≠ p18 ∧ q ≠ p20) ∧ (∀ q ∈ wFoot R (.agg B.toArray), q ≠ p18 ∧ q ≠ p20) ∧ Keeps [] u3 wz) (fun i _ => nl - (intOf i).toNat)
              case atStart => exact ⟨0, A1, AS, rfl, by omega, HO1.out, HOS.out, HB20.out, HBS5.out, HW5.out, by rw [show sortO b L ++ ofO b (L.take 0) = sortO b L from List.append_nil _]; exact HWS5.out, HF5.out, HFS5.out, HK5.out⟩
              case round =>
                obtain ⟨k, A, B, rfl, hk, hoa, hob, hba0, hbb0, hwa, hwb, hfa, hfb, hkz⟩ := hrel
                by_cases hlt : k < nl
                · have hkl : k < L.length := by have := HNL.out; omega
                  obtain ⟨g, o, rfl, hg, hr⟩ := InC14_at (HI3.out.new hkz (Nat.le_refl _)) hkl
                  have HRW := Lib.hid hr
                  have HOF := Lib.hid (ofO_next (o := b) hkl)
                  have hyL : L[k] ∈ L := List.getElem_mem hkl
                  have HYI := Lib.hid (HLL.out _ hyL)
                  have htk : ∀ z ∈ L.take k, z.In := fun z hz => HLL.out z (List.mem_of_mem_take hz)
                  have hok : ∀ z ∈ ofO b (L.take k), z.In := fun z hz => htk z (ofO_mem hz)
                  have hsk : ∀ z ∈ sortO b L ++ ofO b (L.take k), z.In := fun z hz => (List.mem_append.1 hz).elim (fun h => HLL.out z (sortO_mem h)) (hok z)
                  have hln : (ofO b (L.take k)).length ≤ 60 := Nat.le_trans (ofO_len _ _) (by rw [List.length_take]; have := HL60.out; omega)
                  have HEA := Lib.hid (HLE.out _ hyL _ hok); have HEB := Lib.hid (HLE.out _ hyL _ hsk); have HE0 := Lib.hid (HLE.out _ hyL [] (by simp))
                  have HUA := Lib.hid (HUW.out _ hok (by omega)); have HUB := Lib.hid (HUW.out _ hsk (by
                    rw [List.length_append]
                    have h1 := sortO_len L b
                    have h2 : b * L.length ≤ 8 * 60 := Nat.mul_le_mul hb8 (by rw [HNL.out]; exact HL60.out)
                    omega))
                  have HAN := Lib.hid (show N[k]? = some (wdX (bhW (wd0 m) (L.take k)) L[k].c L[k].x).2.1 from HANS.out k hkl)
                  have HAK := Lib.hid (HAL.out b k)
                  have HNX := Lib.hid (show ∀ y : Cl, bhW (wd0 m) (ofO b (L.take k) ++ [y]) = (wdX (bhW (wd0 m) (ofO b (L.take k))) y.c y.x).1 from fun y => by rw [bhW_app]; rfl)
                  have HNB := Lib.hid (show ∀ y : Cl, bhW (wd0 m) (sortO b L ++ (ofO b (L.take k) ++ [y])) = (wdX (bhW (wd0 m) (sortO b L ++ ofO b (L.take k))) y.c y.x).1 from fun y => by rw [← List.append_assoc, bhW_app]; rfl)
                  clear hr hyL htk hok hsk hln
                  generalize L[k] = y at *
                  have HOBJ := Lib.hid (wdX_obj HYI.out.x HE0.out)
                  have HXI' := Lib.hid HYI.out
                  obtain ⟨V0, hV0⟩ : ∃ V0, V0 = wr := ⟨_, rfl⟩
                  subst hV0
                  have HK := Lib.hid hkz; have HOA := Lib.hid hoa; have HOB := Lib.hid hob; have HBV := Lib.hid hba0; have HBT := Lib.hid hbb0; have HA4 := Lib.hid hwa; have HT4 := Lib.hid hwb; have HFP := Lib.hid hfa; have HFQ := Lib.hid hfb
                  clear hkz hoa hob hba0 hbb0 hwa hwb hfa hfb
                  have c2 : V0.cell? ⟨g, o + k * 6 + 1 + 1, none⟩ = some (.int .u8 y.x.o) := by
                    have := (cl_parts HRW.out).2 1 _ (rfl : (opC y.x)[1]? = some (.int .u8 y.x.o))
                    exact this
                  have h60 := HL60.out
                  by_cases hob : y.x.o = (b : Int)
                  · have qo : (y.x.o != (b : Int)) = false := by simp [hob]
                    have HWO := Lib.hid (show wObj y.x = b from by have := HOBJ.out; omega)
                    clear hob
                    obtain ⟨W, hW⟩ : ∃ W, W = bhW (wd0 m) (ofO b (L.take k)) := ⟨_, rfl⟩
                    have HNX1 := HNX.out y
                    rw [← hW] at HA4 HUA HEA HAK HNX1
                    obtain ⟨W1, hW1⟩ : ∃ W1, W1 = (wdX W y.c y.x).1 := ⟨_, rfl⟩
                    obtain ⟨r, hr⟩ : ∃ r, r = (wdX W y.c y.x).2.1 := ⟨_, rfl⟩
                    obtain ⟨e1, he1⟩ : ∃ e1, e1 = (wdX W y.c y.x).2.2 := ⟨_, rfl⟩
                    have HW1 := Lib.hid hW1.symm; have HR1 := Lib.hid hr.symm; have HE1 := Lib.hid he1.symm
                    have HRN := Lib.hid (show N[k]? = some r from by rw [hr]; exact HAN.out.trans (congrArg (fun z => some z.1) (wdX_ans (W := bhW (wd0 m) (L.take k)) (V := W) (by rw [HWO.out]; exact HAK.out.symm))))
                    obtain rfl : e1 = 0 := by rw [he1]; exact HEA.out
                    rw [← hW1] at HNX1
                    have HNX2 := Lib.hid HNX1
                    have HWA := Lib.hid HA4.out; have HWU := Lib.hid HUA.out; have HXI := Lib.hid HYI.out
                    have HKV := Lib.hid (HKU3.out.trans HK.out (FSub.refl _ _))
                    clear hW1 hr he1 hW HNX1 HNX HA4 HUA HEA HAK HAN
                    go_wp2_with fail
                    clear c2
                    refine wp_join13 (fun qa qb zv us a => (((((((((((((((((((a.put (some 132) (us.getD 0 undef)).put (some 133) (us.getD 1 undef)).put (some 134) (us.getD 2 undef)).put (some 135) (us.getD 3 undef)).put (some 136) (us.getD 4 undef)).put (some 137) (us.getD 5 undef)).put (some 138) (us.getD 6 undef)).put (some 139) (us.getD 7 undef)).put (some 140) (us.getD 8 undef)).put (some 141) (us.getD 9 undef)).put (some 142) (us.getD 10 undef)).put (some 143) (us.getD 11 undef)).put (some 131) (us.getD 12 undef)).put (some 144) (us.getD 13 undef)).put (some 145) (us.getD 14 undef)).put (some 146) (us.getD 15 undef)).put (some 22) (.pointer (some ⟨qa, 0, none⟩))).put (some 23) (.pointer (some ⟨qb, 0, none⟩))).put (some 24) (.int .i64 0))) (Fin3 (kpW R (some W1)) 33 r (ApW R A) V0) ?_ ?_
                    · skip
                      obtain ⟨OL, hOL⟩ : ∃ OL, OL = ApW R A := ⟨_, rfl⟩
                      obtain ⟨KP, hKP⟩ : ∃ KP, KP = kpW R (some W1) := ⟨_, rfl⟩
                      have HOKP := Lib.hid (show ∀ x w, KP.P x w → skW.Ok (KP.cs x) from by rw [hKP]; exact kpW_ok R _)
                      have HOL := Lib.hid (show ∀ p : Nat → Prop, (∀ q, q < V0.heap.size → p q) → OL p from by rw [hOL]; exact fun p hp q hq => hp q (HWA.out.old q hq))
                      have HST := Lib.hid (fun w' (h : Keeps [] V0 w') => WdProg.post V w' (A := A) (O := some W) (HGL.out _ (HKV.out.trans h (FSub.refl _ _))) (HWA.out.new h) (fun W' hW' => by obtain rfl := Option.some.inj hW'; exact HWU.out) ⟨HXI.out.c0, HXI.out.c1⟩ HXI.out.x)
                      simp only [oWX] at HST
                      rw [HW1.out, HR1.out, HE1.out, ← hOL, ← hKP] at HST
                      rw [← hOL, ← hKP]
                      clear hOL hKP
                      obtain ⟨S0, hS0⟩ : ∃ S0 : World → Prop, S0 = fun y => Keeps [] V0 y := ⟨_, rfl⟩
                      have HSE := Lib.hid hS0
                      have hSD : S0 V0.drew := by rw [hS0]; exact (Keeps.refl _ _).drew
                      have HSA := Lib.hid (fun (w' : World) (hh : S0 w') => show w'.rangeAt p20 0 A from by rw [hS0] at hh; exact block_range (hh.heap HBV.out (by simp)))
                      have HSC := Lib.hid (fun (w' : World) (hh : S0 w') => show w'.cell? ⟨g, o + k * 6, none⟩ = some (.int .u8 y.c) from by rw [hS0] at hh; exact hh.cell (cl_parts HRW.out).1 (by simp))
                      have HSX := Lib.hid (fun (w' : World) (hh : S0 w') => show w'.rangeAt g (o + k * 6 + 1) (opC y.x) from by rw [hS0] at hh; exact fun j v hv => hh.cell ((cl_parts HRW.out).2 j v hv) (by simp))
                      clear hS0
                      refine wp_region_noPanic ?_
                      refine wp_region_held_drew (S := S0) (by kernel_rfl) hSD (fun hHeld => ?_)
                      refine tk 0 (y := by exact skW.yields HOA.out rfl _ rfl p20 0 rfl HSA.out) (h := ?_)
                      refine tw 1 (h := ?_)
                      refine tw 2 (h := ?_)
                      refine tk 3 (y := by exact yields_indexC14 rfl _ _ rfl g o nl cv k rfl rfl hlt) (h := ?_)
                      refine tw 4 (h := ?_)
                      refine tk 5 (y := by exact Or.inl ⟨by rfl, by intro w hSw; have q0 := HSC.out w hSw; go_simp; try with_reducible rfl⟩) (h := ?_)
                      refine tw 6 (h := ?_)
                      refine tw 7 (h := ?_)
                      refine tk 8 (y := by exact yields_indexC14 rfl _ _ rfl g o nl cv k rfl rfl hlt) (h := ?_)
                      refine tw 9 (h := ?_)
                      refine tk 10 (y := by exact yields_loadP y.x rfl _ rfl g _ rfl HSX.out) (h := ?_)
                      have HY := Lib.hid ((Keeps.refl [] V0).drew)
                      generalize V0.drew = YC at *
                      iterate 3
                        all_goals
                          first
                            | apply wpAnyH_ready (rs := [11, 16, 17])
                              · decide +kernel
                              · simp
                              refine acn ?_ (acn ?_ (acn ?_ (AllReadyH.nil)))
                            | apply wpAnyH_ready (rs := [11, 16])
                              · decide +kernel
                              · simp
                              refine acn ?_ (acn ?_ (AllReadyH.nil))
                            | apply wpAnyH_ready (rs := [11, 17])
                              · decide +kernel
                              · simp
                              refine acn ?_ (acn ?_ (AllReadyH.nil))
                            | apply wpAnyH_ready (rs := [16, 17])
                              · decide +kernel
                              · simp
                              refine acn ?_ (acn ?_ (AllReadyH.nil))
                            | apply wpAnyH_ready (rs := [11])
                              · decide +kernel
                              · simp
                              refine acn ?_ (AllReadyH.nil)
                            | apply wpAnyH_ready (rs := [16])
                              · decide +kernel
                              · simp
                              refine acn ?_ (AllReadyH.nil)
                            | apply wpAnyH_ready (rs := [17])
                              · decide +kernel
                              · simp
                              refine acn ?_ (AllReadyH.nil)
                          all_goals
                            intro K hK
                            rw [if_pos (by rfl)]
                            first
                            | refine wp_call9 13 _ _ rfl [.agg A.toArray, .int .u8 y.c, y.x.val] rfl Tryz.func13 (by kernel_rfl) (by kernel_rfl) ((HST.out _ HY.out).mono ?_)
                              rintro e YC ⟨x1, rfl, hpp, hk, hf⟩
                              refine ⟨_, rfl, ?_⟩
                              try have HFA := Lib.hid (show KP.Ap x1 (fun q => q ≠ ga) from hf _ (HOL.out _ (fun q hq => by have := HGA.out; omega)) (fun q hq => by have := HLA.out; omega))
                              try have HFB := Lib.hid (show KP.Ap x1 (fun q => q ≠ gb) from hf _ (HOL.out _ (fun q hq => by have := HGB.out; omega)) (fun q hq => by have := HLB.out; omega))
                              have HFN := Lib.hid (show ∀ p : Nat → Prop, OL p → (∀ q, V0.heap.size ≤ q → p q) → KP.Ap x1 p from fun p h1 h2 => hf p h1 (fun q hq => h2 q (Nat.le_trans HY.out.size hq)))
                              try replace HBA := Lib.hid (hk.heap HBA.out (by simp))
                              try replace HBB := Lib.hid (hk.heap HBB.out (by simp))
                              try replace HAT := Lib.hid (KP.new HAT.out hk)
                              try replace HLA := Lib.hid (Nat.lt_of_lt_of_le HLA.out hk.size)
                              try replace HLB := Lib.hid (Nat.lt_of_lt_of_le HLB.out hk.size)
                              replace HY := Lib.hid (HY.out.trans hk (FSub.refl _ _))
                              have HAT := Lib.hid hpp
                              clear hpp hk hf
                              refine hK.out _ _ (by rw [HSE.out]; exact HY.out) (fun hHeld => ?_); clear hK K; try simp only [Act.put, lsA, lsZ, lsS]
                              refine tw 12 (h := ?_)
                              refine tw 13 (h := ?_)
                              refine tw 14 (h := ?_)
                              refine tw 15 (h := ?_)
                            | refine wp_allocW14 rfl ?_
                              have hk : Keeps [] YC (YC.alloc (.cells wdZ.toArray 33)) := (Keeps.refl _ _).alloc _
                              have hb := heap_alloc_new YC (.cells wdZ.toArray 33)
                              try have HFA := Lib.hid (show KP.Ap x1 (fun q => q ≠ YC.heap.size) from KP.mono (KP.old HAT.out) (fun q hq => Nat.ne_of_lt hq))
                              try have HAB := Lib.hid (show YC.heap.size ≠ gb from Nat.ne_of_gt HLB.out)
                              have HGA := Lib.hid HY.out.size
                              try replace HBA := Lib.hid (hk.heap HBA.out (by simp))
                              try replace HBB := Lib.hid (hk.heap HBB.out (by simp))
                              try replace HAT := Lib.hid (KP.new HAT.out hk)
                              try replace HLA := Lib.hid (Nat.lt_of_lt_of_le HLA.out hk.size)
                              try replace HLB := Lib.hid (Nat.lt_of_lt_of_le HLB.out hk.size)
                              replace HY := Lib.hid (HY.out.trans hk (FSub.refl _ _))
                              have HBA := Lib.hid hb
                              have HLA := Lib.hid (lt_of_block hb)
                              clear hk hb
                              generalize YC.heap.size = ga at *
                              generalize YC.alloc (.cells wdZ.toArray 33) = YC at *
                              refine hK.out _ _ (by rw [HSE.out]; exact HY.out) (fun hHeld => ?_); clear hK K; try simp only [Act.put, lsA, lsZ, lsS]
                            | refine wp_allocA _ _ _ _ rfl ?_
                              have hk : Keeps [] YC (YC.alloc (.cells (ansC ⟨0, 0⟩).toArray 25)) := (Keeps.refl _ _).alloc _
                              have hb := heap_alloc_new YC (.cells (ansC ⟨0, 0⟩).toArray 25)
                              try have HFB := Lib.hid (show KP.Ap x1 (fun q => q ≠ YC.heap.size) from KP.mono (KP.old HAT.out) (fun q hq => Nat.ne_of_lt hq))
                              try have HAB := Lib.hid (show ga ≠ YC.heap.size from Nat.ne_of_lt HLA.out)
                              have HGB := Lib.hid HY.out.size
                              try replace HBA := Lib.hid (hk.heap HBA.out (by simp))
                              try replace HBB := Lib.hid (hk.heap HBB.out (by simp))
                              try replace HAT := Lib.hid (KP.new HAT.out hk)
                              try replace HLA := Lib.hid (Nat.lt_of_lt_of_le HLA.out hk.size)
                              try replace HLB := Lib.hid (Nat.lt_of_lt_of_le HLB.out hk.size)
                              replace HY := Lib.hid (HY.out.trans hk (FSub.refl _ _))
                              have HBB := Lib.hid hb
                              have HLB := Lib.hid (lt_of_block hb)
                              clear hk hb
                              generalize YC.heap.size = gb at *
                              generalize YC.alloc (.cells (ansC ⟨0, 0⟩).toArray 25) = YC at *
                              refine hK.out _ _ (by rw [HSE.out]; exact HY.out) (fun hHeld => ?_); clear hK K; try simp only [Act.put, lsA, lsZ, lsS]
                      all_goals
                        refine rp 18 (h := fun K hK => ?_)
                        refine skW.wp_put rfl (g := ga) (old := wdZ) (A := KP.cs x1) (HOKP.out _ _ HAT.out) wdZ_ok rfl rfl HBA.out (fun YC hV hk => ?_)
                        replace HBA := Lib.hid hV
                        replace HBB := Lib.hid (hk.heap HBB.out (by have := HAB.out; simp; exact fun e => this e.symm))
                        replace HAT := Lib.hid (KP.put HAT.out hk HFA.out)
                        replace HY := Lib.hid (HY.out.trans' hk HGA.out)
                        clear hV hk
                        refine hK.out _ _ (by rw [HSE.out]; exact HY.out) (fun hHeld => ?_); clear hK K; try simp only [Act.put, lsA, lsZ, lsS]
                        refine rp 19 (h := fun K hK => ?_)
                        refine wp_putN rfl (g := gb) (old := ⟨0, 0⟩) r rfl rfl HBB.out (fun YC hV hk => ?_)
                        replace HBB := Lib.hid hV
                        replace HBA := Lib.hid (hk.heap HBA.out (by have := HAB.out; simpa using this))
                        replace HAT := Lib.hid (KP.put HAT.out hk HFB.out)
                        replace HY := Lib.hid (HY.out.trans' hk HGB.out)
                        clear hV hk
                        refine hK.out _ _ (by rw [HSE.out]; exact HY.out) (fun hHeld => ?_); clear hK K; try simp only [Act.put, lsA, lsZ, lsS]
                        refine tw 20 (h := ?_)
                        refine wpAnyH_done (by kernel_rfl) ?_ _
                        refine NoPanic.normal ?_
                        exact ⟨rfl, ga, gb, .agg (KP.cs x1).toArray, [_, _, _, _, _, _, _, _, _, _, _, _, _, _, _, _], rfl, x1, rfl, HBA.out, HBB.out, HAT.out, HY.out, HGA.out, HGB.out, HAB.out, HFN.out, KP.and_ HFA.out HFB.out⟩
                    rintro p22 p23 zv us V1 ⟨x1, rfl, hba, hbb, hp, hk1, hga, hgb, -, hol, -⟩
                    simp only [Act.put, lsA, lsZ, lsS]
                    have HFX := Lib.hid (show ∀ q ∈ wFoot R (.agg x1.toArray), q ≠ p18 ∧ q ≠ p20 from hol (fun q => q ≠ p18 ∧ q ≠ p20) HFP.out (fun q hq => ⟨by have := lt_of_block HBT.out; omega, by have := lt_of_block HBV.out; omega⟩))
                    have HWX1 := Lib.hid (show WoAt R V1 (.agg x1.toArray) (some (bhW (wd0 m) (ofO b (L.take k) ++ [y]))) from by rw [HNX2.out]; exact hp)
                    have HOX1 := Lib.hid (woAt_ok HWX1.out)
                    have HK1 := Lib.hid (HK.out.trans hk1 (FSub.refl _ _)); have HBV1 := Lib.hid (hk1.heap HBV.out (by simp)); have HBT1 := Lib.hid (hk1.heap HBT.out (by simp)); have HT1 := Lib.hid (HT4.out.new hk1)
                    have HB22 := Lib.hid (show V1.heap[p22]? = some (.cells x1.toArray 33 (0, 0)) from hba); have HB23 := Lib.hid (show V1.heap[p23]? = some (.cells (ansC r).toArray 25 (0, 0)) from hbb)
                    have HRW1 := Lib.hid (fun j v hv => hk1.cell (HRW.out j v hv) (by simp))
                    obtain ⟨b9, o9, rfl, hb9, hr9⟩ := HIA.out.at14 HRN.out
                    have HR9 := Lib.hid (show V1.rangeAt b9 (o9 + k * 2) (ansC r) from fun j v hv => HK1.out.cell (hr9 j v hv) (by simp))
                    clear hba hbb hp hk1 hga hgb hol hb9 hr9 HK HBV HBT HT4 HWA HWU HKV HW1 HR1 HE1 HRW HNX2 HFP HRN
                    have tq : (r.k == r.k) = true := by simp
                    have tv : (r.v == r.v) = true := by simp
                    go_wp2_with fail
                    have ta : (ansC r)[0]? = some (.int .u8 r.k) := rfl
                    have tb : (ansC r)[1]? = some (.int .u16 r.v) := rfl
                    obtain ⟨S0, hS0⟩ : ∃ S0 : World → Prop, S0 = fun y => Keeps [] V1 y := ⟨_, rfl⟩
                    have HSE := Lib.hid hS0
                    have hSD : S0 V1.drew := by rw [hS0]; exact (Keeps.refl _ _).drew
                    have HSA := Lib.hid (fun (w' : World) (hh : S0 w') => show w'.rangeAt p23 0 (ansC r) from by rw [hS0] at hh; exact fun j v hv => hh.cell (block_range HB23.out j v hv) (by simp))
                    have HSB := Lib.hid (fun (w' : World) (hh : S0 w') => show w'.rangeAt b9 (o9 + k * 2) (ansC r) from by rw [hS0] at hh; exact fun j v hv => hh.cell (HR9.out j v hv) (by simp))
                    clear hS0
                    refine wp_region_noPanic ?_
                    refine wp_region_held_drew (S := S0) (by kernel_rfl) hSD (fun hHeld => ?_)
                    have HY := Lib.hid ((Keeps.refl [] V1).drew)
                    generalize V1.drew = V2 at *
                    refine tw 0 (h := ?_)
                    refine tw 1 (h := ?_)
                    refine tw 2 (h := ?_)
                    refine tk 3 (y := by exact skR.yields (ansC_ok r) rfl _ rfl p23 0 rfl HSA.out) (h := ?_)
                    refine tw 4 (h := ?_)
                    refine tw 5 (h := ?_)
                    refine tk 6 (y := by exact yields_indexA rfl _ _ rfl b9 o9 nl cv2 k rfl rfl hlt) (h := ?_)
                    refine tk 7 (y := by exact skR.yields (ansC_ok r) rfl _ rfl b9 (o9 + k * 2) rfl HSB.out) (h := ?_)
                    refine tw 8 (h := ?_)
                    refine tw 9 (h := ?_)
                    refine wpAnyH_done (by kernel_rfl) ?_ _
                    refine NoPanic.normal ?_
                    have hk1 := HY.out
                    have HK2 := Lib.hid (HK1.out.trans hk1 (FSub.refl _ _)); have HBV2 := Lib.hid (hk1.heap HBV1.out (by simp)); have HBT2 := Lib.hid (hk1.heap HBT1.out (by simp)); have HT2 := Lib.hid (HT1.out.new hk1)
                    have HB22V := Lib.hid (hk1.heap HB22.out (by simp)); have HWX2 := Lib.hid (HWX1.out.new hk1); have HRW2 := Lib.hid (fun j v hv => hk1.cell (HRW1.out j v hv) (by simp))
                    clear hHeld hSD HSE HSA HSB tq tv ta tb HY hk1 HK1 HBV1 HBT1 HT1 HB22 HB23 HWX1 HRW1 HR9
                    go_wp2_with (first
                      | ((with_reducible refine wpList_loadW (g := p22) HOX1.out ?_ ?_ (block_range HB22V.out) ?_); exact rfl; exact rfl)
                      | ((with_reducible refine wpList_putW (g := p20) (old := A) (A := x1) HOX1.out HOA.out ?_ ?_ HBV2.out ?_); exact rfl; exact rfl))
                    intro V3 hW hk3
                    have HBV3 := Lib.hid hW
                    have HWX3 := Lib.hid (HWX2.out.put hk3 (fun q hq => (HFX.out q hq).2)); have HT3 := Lib.hid (HT2.out.put hk3 (fun q hq => (HFQ.out q hq).2))
                    have HBT3 := Lib.hid (hk3.heap HBT2.out (by have := HP20.out; simp; omega))
                    have HK3 := Lib.hid (HK2.out.trans' hk3 HP20.out.2)
                    have HGP := Lib.hid (show g ≠ p18 from by have := HP18.out; omega)
                    have HRW3 := Lib.hid (fun j v hv => hk3.cell (HRW2.out j v hv) (by have := HP20.out; simp; omega))
                    clear hW hk3 HBV2 HWX2 HT2 HBT2 HK2 HRW2 HB22V
                    obtain ⟨V0, hV0⟩ : ∃ V0, V0 = V3 := ⟨_, rfl⟩
                    subst hV0
                    obtain ⟨W, hW⟩ : ∃ W, W = bhW (wd0 m) (sortO b L ++ ofO b (L.take k)) := ⟨_, rfl⟩
                    have HNB1 := HNB.out y
                    rw [← hW] at HT3 HUB HEB HNB1
                    obtain ⟨W1, hW1⟩ : ∃ W1, W1 = (wdX W y.c y.x).1 := ⟨_, rfl⟩
                    obtain ⟨r, hr⟩ : ∃ r, r = (wdX W y.c y.x).2.1 := ⟨_, rfl⟩
                    obtain ⟨e1, he1⟩ : ∃ e1, e1 = (wdX W y.c y.x).2.2 := ⟨_, rfl⟩
                    have HW1 := Lib.hid hW1.symm; have HR1 := Lib.hid hr.symm; have HE1 := Lib.hid he1.symm
                    obtain rfl : e1 = 0 := by rw [he1]; exact HEB.out
                    rw [← hW1] at HNB1
                    have HNB2 := Lib.hid HNB1
                    have HST := Lib.hid (fun w' (h : Keeps [] V0 w') => WdProg.post V w' (A := B) (O := some W) (HGL.out _ ((HKU3.out.trans HK3.out (FSub.refl _ _)).trans h (FSub.refl _ _))) (HT3.out.new h) (fun W' hW' => by obtain rfl := Option.some.inj hW'; exact HUB.out) ⟨HXI.out.c0, HXI.out.c1⟩ HXI.out.x)
                    simp only [oWX] at HST
                    rw [HW1.out, HR1.out, HE1.out] at HST
                    clear hW1 hr he1 hW HNB1 HNB HEB HUB
                    go_wp2_with fail
                    refine wp_join13 (fun qa qb zv us a => ((((((((((((((((a.put (some 159) (us.getD 0 undef)).put (some 160) (us.getD 1 undef)).put (some 161) (us.getD 2 undef)).put (some 162) (us.getD 3 undef)).put (some 163) (us.getD 4 undef)).put (some 164) (us.getD 5 undef)).put (some 165) (us.getD 6 undef)).put (some 166) (us.getD 7 undef)).put (some 167) (us.getD 8 undef)).put (some 168) (us.getD 9 undef)).put (some 169) (us.getD 10 undef)).put (some 170) (us.getD 11 undef)).put (some 158) (us.getD 12 undef)).put (some 171) (us.getD 13 undef)).put (some 172) (us.getD 14 undef)).put (some 173) (us.getD 15 undef))) (fun _ _ _ w' => ∃ x2 : List Value, w'.heap[p18]? = some (.cells x2.toArray 33 (0, 0)) ∧ WoAt R w' (.agg x2.toArray) (some W1) ∧ (∀ q ∈ wFoot R (.agg x2.toArray), q ≠ p18 ∧ q ≠ p20) ∧ Keeps [p18] V0 w') ?_ ?_
                    · obtain ⟨S0, hS0⟩ : ∃ S0 : World → Prop, S0 = fun y => Keeps [p18] V0 y := ⟨_, rfl⟩
                      have HSE := Lib.hid hS0
                      have hSD : S0 V0.drew := by rw [hS0]; exact (Keeps.refl _ _).drew
                      have HSC := Lib.hid (fun (w' : World) (hh : S0 w') => show w'.cell? ⟨g, o + k * 6, none⟩ = some (.int .u8 y.c) from by rw [hS0] at hh; exact hh.cell (cl_parts HRW3.out).1 (by simpa using HGP.out))
                      have HSX := Lib.hid (fun (w' : World) (hh : S0 w') => show w'.rangeAt g (o + k * 6 + 1) (opC y.x) from by rw [hS0] at hh; exact fun j v hv => hh.cell ((cl_parts HRW3.out).2 j v hv) (by simpa using HGP.out))
                      clear hS0
                      refine wp_region_noPanic ?_
                      refine wp_region_held_drew (S := S0) (by kernel_rfl) hSD (fun hHeld => ?_)
                      refine tw 1 (h := ?_)
                      refine tw 2 (h := ?_)
                      refine tk 3 (y := by exact yields_indexC14 rfl _ _ rfl g o nl cv k rfl rfl hlt) (h := ?_)
                      refine tw 4 (h := ?_)
                      refine tk 5 (y := by exact Or.inl ⟨by rfl, by intro w hSw; have q0 := HSC.out w hSw; go_simp; try with_reducible rfl⟩) (h := ?_)
                      refine tw 6 (h := ?_)
                      refine tw 7 (h := ?_)
                      refine tk 8 (y := by exact yields_indexC14 rfl _ _ rfl g o nl cv k rfl rfl hlt) (h := ?_)
                      refine tw 9 (h := ?_)
                      refine tk 10 (y := by exact yields_loadP y.x rfl _ rfl g _ rfl HSX.out) (h := ?_)
                      have HY := Lib.hid ((Keeps.refl [] V0).drew)
                      generalize V0.drew = YC at *
                      have HBY := Lib.hid (HY.out.heap HBT3.out (by simp))
                      refine rp 0 (h := fun K hK => ?_)
                      refine skW.wp_load rfl (g := p18) (off := 0) HOB.out rfl (block_range HBY.out) ?_
                      refine hK.out _ _ (by rw [HSE.out]; exact HY.out.more (by simp)) (fun hHeld => ?_); clear hK K; try simp only [Act.put, lsA, lsZ, lsS]
                      refine rp 11 (h := fun K hK => ?_)
                      refine wp_call9 13 _ _ rfl [.agg B.toArray, .int .u8 y.c, y.x.val] rfl Tryz.func13 (by kernel_rfl) (by kernel_rfl) ((HST.out _ HY.out).mono ?_)
                      rintro e YD ⟨x2, rfl, hpp, hk, hf⟩
                      refine ⟨_, rfl, ?_⟩
                      have HF2 := Lib.hid (show ∀ q ∈ wFoot R (.agg x2.toArray), q ≠ p18 ∧ q ≠ p20 from hf (fun q => q ≠ p18 ∧ q ≠ p20) HFQ.out (fun q hq => ⟨by have := lt_of_block HBY.out; omega, by have := lt_of_block (HY.out.heap HBV3.out (by simp)); omega⟩))
                      have HY2 := Lib.hid (HY.out.trans hk (FSub.refl _ _)); have HBY2 := Lib.hid (hk.heap HBY.out (by simp)); have HW2 := Lib.hid (show WoAt R YD (.agg x2.toArray) (some W1) from hpp)
                      clear hpp hk hf
                      refine hK.out _ _ (by rw [HSE.out]; exact HY2.out.more (by simp)) (fun hHeld => ?_); clear hK K; try simp only [Act.put, lsA, lsZ, lsS]
                      refine tw 12 (h := ?_)
                      refine tw 13 (h := ?_)
                      refine tw 14 (h := ?_)
                      refine tw 15 (h := ?_)
                      refine rp 16 (h := fun K hK => ?_)
                      refine skW.wp_put rfl (g := p18) (old := B) (A := x2) (woAt_ok HW2.out) HOB.out rfl rfl HBY2.out (fun YE hV hk => ?_)
                      have HVE := Lib.hid hV; have HWE := Lib.hid (HW2.out.put hk (fun q hq => (HF2.out q hq).1)); have HYE := Lib.hid ((HY2.out.more (G := [p18]) (by simp)).trans hk (FSub.refl _ _))
                      clear hV hk
                      refine hK.out _ _ (by rw [HSE.out]; exact HYE.out) (fun hHeld => ?_); clear hK K; try simp only [Act.put, lsA, lsZ, lsS]
                      refine wpAnyH_done (by kernel_rfl) ?_ _
                      refine NoPanic.normal ?_
                      exact ⟨rfl, 0, 0, undef, [_, _, _, _, _, _, _, _, _, _, _, _, _, _, _, _], rfl, x2, HVE.out, HWE.out, HF2.out, HYE.out⟩
                    rintro - - - us V4 ⟨x2, hbt, hwt, hft, hk4⟩
                    simp only [Act.put, lsA, lsZ, lsS]
                    have HBT4 := Lib.hid hbt; have HF4 := Lib.hid hft; have HOX2 := Lib.hid (woAt_ok hwt)
                    have HT4 := Lib.hid (show WoAt R V4 (.agg x2.toArray) (some (bhW (wd0 m) (sortO b L ++ (ofO b (L.take k) ++ [y])))) from by rw [HNB2.out]; exact hwt)
                    have HBV4 := Lib.hid (hk4.heap HBV3.out (by have := HP20.out; simp; omega)); have HWX4 := Lib.hid (HWX3.out.put hk4 (fun q hq => (HFX.out q hq).1))
                    have HK4' := Lib.hid (HK3.out.trans' hk4 HP18.out.1)
                    clear hbt hwt hft hk4 HBT3 HT3 HBV3 HWX3 HK3 HRW3 HST HW1 HR1 HE1 HNB2
                    go_wp2_with fail
                    go_roundw
                    case rel => exact ⟨k + 1, x1, x2, by go_num, by omega, HOX1.out, HOX2.out, HBV4.out, HBT4.out, by rw [HOF.out, ofO_one, if_pos HWO.out]; exact HWX4.out, by rw [HOF.out, ofO_one, if_pos HWO.out]; exact HT4.out, HFX.out, HF4.out, HK4'.out⟩
                    case measure => simp [intOf]; omega
                  · have qo : (y.x.o != (b : Int)) = true := by simpa using hob
                    have HWO := Lib.hid (show wObj y.x ≠ b from fun e => hob (by rw [HOBJ.out, e]))
                    clear hob
                    go_wp2_with fail
                    go_roundw
                    case rel => exact ⟨k + 1, A, B, by go_num, by omega, HOA.out, HOB.out, HBV.out, HBT.out, by rw [HOF.out, ofO_one, if_neg HWO.out, List.append_nil]; exact HA4.out, by rw [HOF.out, ofO_one, if_neg HWO.out, List.append_nil]; exact HT4.out, HFP.out, HFQ.out, HK.out⟩
                    case measure => simp [intOf]; omega
                · obtain rfl : nl = k := by omega
                  have hta : L.take nl = L := List.take_of_length_le (by rw [HNL.out]; exact Nat.le_refl _)
                  have hEQ := HAL.out b nl
                  rw [hta] at hwa hwb hEQ
                  rw [← sortO_next] at hwb
                  rw [HXX.out] at hEQ
                  obtain ⟨Y, hY⟩ : ∃ Y, Y = bhW (wd0 m) (ofO b L) := ⟨_, rfl⟩
                  have HYU := Lib.hid (HUW.out (ofO b L) (fun z hz => HLL.out z (ofO_mem hz)) (Nat.le_trans (ofO_len _ _) (by have := HNL.out; have := HL60.out; omega)))
                  rw [← hY] at hwa hEQ HYU
                  have HEQ := Lib.hid hEQ
                  have hYI : Y.In := hwa.in_
                  have HLN := Lib.hid (show (X.at b).len ≤ 1000 from HXU.out _ (Wd.at_mem HXW.out hbl))
                  obtain ⟨V0, hV0⟩ : ∃ V0, V0 = wr := ⟨_, rfl⟩
                  subst hV0
                  have HK := Lib.hid (HKU3.out.trans hkz (FSub.refl _ _)); have HK3 := Lib.hid hkz; have HOA := Lib.hid hoa; have HOB := Lib.hid hob; have HBV := Lib.hid hba0; have HBT := Lib.hid hbb0; have HWA := Lib.hid hwa; have HT := Lib.hid hwb; have HFB := Lib.hid hfb
                  have HBXV := Lib.hid (hkz.heap HBX.out (by simp)); have HWXV := Lib.hid (HWX.out.new hkz)
                  clear hta hEQ hY hYI hkz hoa hob hba0 hbb0 hwa hwb hfa hfb
                  go_wp2_with ((with_reducible refine wpList_loadW (g := p20) HOA.out ?_ ?_ (block_range HBV.out) ?_); exact rfl; exact rfl)
                  refine (V.at_ V0 _ (some Y) (b : Int) (HGL.out _ HK.out) HWA.out ⟨by omega, by omega⟩).mono ?_
                  rintro e V1 ⟨st, rfl, hat, hk, -⟩
                  rw [oWat_near _ hbl, show Option.map (·.at b) (some Y) = some (Y.at b) from rfl, HEQ.out] at hat
                  rw [oWat_near _ hbl, show (Option.map (·.at b) (some Y)).isSome = true from rfl]
                  replace HK := Lib.hid (HK.out.trans hk (FSub.refl _ _)); replace HK3 := Lib.hid (HK3.out.trans hk (FSub.refl _ _)); replace HBT := Lib.hid (hk.heap HBT.out (by simp)); replace HT := Lib.hid (HT.out.new hk)
                  try replace HBXV := Lib.hid (hk.heap HBXV.out (by simp))
                  try replace HWXV := Lib.hid (HWXV.out.new hk)
                  try replace HC25 := Lib.hid (hk.heap HC25.out (by simp))
                  try replace HV25 := Lib.hid (R.new_ HV25.out hk)
                  obtain ⟨B25, rfl, hBo⟩ := R.cells hat
                  have HVO25 := Lib.hid hBo; have HV25 := Lib.hid hat
                  have HC := Lib.hid (show (V1.alloc (.cells mdZA 30)).heap[V1.heap.size]? = some (.cells mdZ.toArray 30 (0, 0)) from heap_alloc_new V1 _)
                  have HKC := Lib.hid (show Keeps [] V1 (V1.alloc (.cells mdZA 30)) from (Keeps.refl _ _).alloc _)
                  clear hat hBo hk
                  go_wp2_with ((with_reducible refine wpList_putM (g := V1.heap.size) (old := mdZ) (A := B25) HVO25.out mdZ_ok ?_ ?_ HC.out ?_); exact rfl; exact rfl)
                  intro V2 hW hk2
                  have hk := HKC.out.trans' hk2 (Nat.le_refl _)
                  replace HK := Lib.hid (HK.out.trans hk (FSub.refl _ _)); replace HK3 := Lib.hid (HK3.out.trans hk (FSub.refl _ _)); replace HBT := Lib.hid (hk.heap HBT.out (by simp)); replace HT := Lib.hid (HT.out.new hk)
                  try replace HBXV := Lib.hid (hk.heap HBXV.out (by simp))
                  try replace HWXV := Lib.hid (HWXV.out.new hk)
                  try replace HC25 := Lib.hid (hk.heap HC25.out (by simp))
                  replace HV25 := Lib.hid (R.new_ HV25.out hk)
                  try replace HV25 := Lib.hid (show R.At V2 _ _ from R.new_ HV25.out hk)
                  have HC25 := Lib.hid hW
                  clear hk hW hk2 HC HKC
                  generalize V1.heap.size = p25 at *
                  go_wp2_with ((with_reducible refine wpList_loadW (g := p13) HOX.out ?_ ?_ (block_range HBXV.out) ?_); exact rfl; exact rfl)
                  refine (V.at_ V2 _ (some X) (b : Int) (HGL.out _ HK.out) HWXV.out ⟨by omega, by omega⟩).mono ?_
                  rintro e V3 ⟨st, rfl, hat, hk, -⟩
                  rw [oWat_near _ hbl, show Option.map (·.at b) (some X) = some (X.at b) from rfl] at hat
                  rw [oWat_near _ hbl, show (Option.map (·.at b) (some X)).isSome = true from rfl]
                  replace HK := Lib.hid (HK.out.trans hk (FSub.refl _ _)); replace HK3 := Lib.hid (HK3.out.trans hk (FSub.refl _ _)); replace HBT := Lib.hid (hk.heap HBT.out (by simp)); replace HT := Lib.hid (HT.out.new hk)
                  try replace HBXV := Lib.hid (hk.heap HBXV.out (by simp))
                  try replace HWXV := Lib.hid (HWXV.out.new hk)
                  try replace HC25 := Lib.hid (hk.heap HC25.out (by simp))
                  try replace HV25 := Lib.hid (R.new_ HV25.out hk)
                  obtain ⟨B27, rfl, hBo⟩ := R.cells hat
                  have HVO27 := Lib.hid hBo; have HV27 := Lib.hid hat
                  have HC := Lib.hid (show (V3.alloc (.cells mdZA 30)).heap[V3.heap.size]? = some (.cells mdZ.toArray 30 (0, 0)) from heap_alloc_new V3 _)
                  have HKC := Lib.hid (show Keeps [] V3 (V3.alloc (.cells mdZA 30)) from (Keeps.refl _ _).alloc _)
                  clear hat hBo hk
                  go_wp2_with ((with_reducible refine wpList_putM (g := V3.heap.size) (old := mdZ) (A := B27) HVO27.out mdZ_ok ?_ ?_ HC.out ?_); exact rfl; exact rfl)
                  intro V4 hW hk2
                  have hk := HKC.out.trans' hk2 (Nat.le_refl _)
                  replace HK := Lib.hid (HK.out.trans hk (FSub.refl _ _)); replace HK3 := Lib.hid (HK3.out.trans hk (FSub.refl _ _)); replace HBT := Lib.hid (hk.heap HBT.out (by simp)); replace HT := Lib.hid (HT.out.new hk)
                  try replace HBXV := Lib.hid (hk.heap HBXV.out (by simp))
                  try replace HWXV := Lib.hid (HWXV.out.new hk)
                  try replace HC25 := Lib.hid (hk.heap HC25.out (by simp))
                  replace HV27 := Lib.hid (R.new_ HV27.out hk)
                  try replace HV25 := Lib.hid (show R.At V4 _ _ from R.new_ HV25.out hk)
                  have HC27 := Lib.hid hW
                  clear hk hW hk2 HC HKC
                  generalize V3.heap.size = p27 at *
                  go_wp2_with fail
                  generalize X.at b = SX at *
                  obtain ⟨S0, hS0⟩ : ∃ S0 : World → Prop, S0 = fun y => Keeps [] V4 y := ⟨_, rfl⟩
                  have HSE := Lib.hid hS0
                  have hSD : S0 V4.drew := by rw [hS0]; exact (Keeps.refl _ _).drew
                  have HSA := Lib.hid (fun (w' : World) (hh : S0 w') => show w'.rangeAt p25 0 B25 from by rw [hS0] at hh; exact block_range (hh.heap HC25.out (by simp)))
                  have HSB := Lib.hid (fun (w' : World) (hh : S0 w') => show w'.rangeAt p27 0 B27 from by rw [hS0] at hh; exact block_range (hh.heap HC27.out (by simp)))
                  obtain ⟨TS, hTS⟩ : ∃ TS, TS = bs (oB (some SX)) := ⟨_, rfl⟩
                  have HE25 := Lib.hid (fun w' (h : Keeps [] V4 w') => R.enc w' _ (some SX) (HGL.out _ (HK.out.trans h (FSub.refl _ _))) (R.new_ HV25.out h) HLN.out)
                  have HE27 := Lib.hid (fun w' (h : Keeps [] V4 w') => R.enc w' _ (some SX) (HGL.out _ (HK.out.trans h (FSub.refl _ _))) (R.new_ HV27.out h) HLN.out)
                  rw [← hTS] at HE25 HE27
                  clear hS0 hTS
                  have tn : (TS.toList != TS.toList) = false := by simp
                  refine wp_region_noPanic ?_
                  refine wp_region_held_drew (S := S0) (by kernel_rfl) hSD (fun hHeld => ?_)
                  have HY := Lib.hid ((Keeps.refl [] V4).drew)
                  generalize V4.drew = YC at *
                  refine tw 0 (h := ?_)
                  refine tw 1 (h := ?_)
                  refine tw 2 (h := ?_)
                  refine tw 3 (h := ?_)
                  refine tw 4 (h := ?_)
                  refine tw 5 (h := ?_)
                  refine tw 6 (h := ?_)
                  refine tk 7 (y := by exact skM.yields HVO25.out rfl _ rfl p25 0 rfl HSA.out) (h := ?_)
                  refine tk 9 (y := by exact skM.yields HVO27.out rfl _ rfl p27 0 rfl HSB.out) (h := ?_)
                  refine rp 8 (h := fun K hK => ?_)
                  refine wp_call9 22 _ _ rfl [.agg B25.toArray] rfl Tryz.func22 (by kernel_rfl) (by kernel_rfl) ((HE25.out _ HY.out).mono ?_)
                  rintro e YC ⟨rfl, hk⟩
                  refine ⟨_, rfl, ?_⟩
                  replace HY := Lib.hid (HY.out.trans hk (FSub.refl _ _)); clear hk
                  refine hK.out _ _ (by rw [HSE.out]; exact HY.out) (fun hHeld => ?_); clear hK K; try simp only [Act.put, lsA, lsZ, lsS]
                  refine rp 10 (h := fun K hK => ?_)
                  refine wp_call9 22 _ _ rfl [.agg B27.toArray] rfl Tryz.func22 (by kernel_rfl) (by kernel_rfl) ((HE27.out _ HY.out).mono ?_)
                  rintro e YC ⟨rfl, hk⟩
                  refine ⟨_, rfl, ?_⟩
                  replace HY := Lib.hid (HY.out.trans hk (FSub.refl _ _)); clear hk
                  refine hK.out _ _ (by rw [HSE.out]; exact HY.out) (fun hHeld => ?_); clear hK K; try simp only [Act.put, lsA, lsZ, lsS]
                  refine tw 11 (h := ?_)
                  refine tw 12 (h := ?_)
                  refine wpAnyH_done (by kernel_rfl) ?_ _
                  refine NoPanic.normal ?_
                  have hk := HY.out
                  have HBF := Lib.hid (hk.heap HBT.out (by simp)); have HTF := Lib.hid (HT.out.new hk); have HKF := Lib.hid (HK3.out.trans hk (FSub.refl _ _))
                  clear hHeld hSD HSE HSA HSB HE25 HE27 tn HY hk HBT HT HK3
                  go_wp2_with fail
                  go_roundw
                  case rel => exact ⟨b + 1, B, by go_num, by omega, HOB.out, HBF.out, HTF.out, fun q hq => (HFB.out q hq).1, HKF.out⟩
                  case measure => simp [intOf]; omega
            · obtain rfl : b = 8 := by omega
              have HK := Lib.hid (HKU3.out.trans hkr (FSub.refl _ _))
              have HBS := Lib.hid hbs; have HOS := Lib.hid hos
              have HWS := Lib.hid (show WoAt R wr (.agg AS.toArray) (some X) from by rw [← HSR.out]; exact hws)
              have HBXV := Lib.hid (hkr.heap HBX.out (by simp)); have HWXV := Lib.hid (HWX.out.new hkr)
              clear hws hbs hos hfs hkr
              go_wp2_with (first
                | ((with_reducible refine wpList_loadW (g := p18) HOS.out ?_ ?_ (block_range HBS.out) ?_); exact rfl; exact rfl)
                | ((with_reducible refine wpList_loadW (g := p13) HOX.out ?_ ?_ (block_range HBXV.out) ?_); exact rfl; exact rfl))
              have HUX := Lib.hid (show wUp (some X) 1000 from fun W' e => by obtain rfl := Option.some.inj e; exact HXU.out)
              refine (V.same wr _ (some X) _ (some X) (HGL.out _ HK.out) HWS.out HWXV.out HUX.out HUX.out).mono ?_; rintro e v2 ⟨rfl, hk⟩
              rw [oWSame_refl HXW.out]
              replace HK := Lib.hid (HK.out.trans hk (FSub.refl _ _))
              clear hk
              go_wp2_with fail
              refine (works14_any V _ (HGL.out _ HK.out)).mono ?_; rintro e v3 ⟨rfl, hk⟩
              have HKF := Lib.hid (HK.out.trans hk (FSub.refl _ _))
              clear hk
              go_wp2_with fail
              go_ret
              exact ⟨rfl, HKF.out⟩
theorem WorldApart_all {R : MdProg G} (V : WdProg R) (w : World) (hG : G w) {m : Int} (h0 : 0 ≤ m) (h4 : m < 256) {v : Value} {l : List Cl} (hl : ∀ y ∈ l, y.In) (hI : rkC14.In w.heap.size w v l) :
    Calls Tryz.prog 5 #[.int .u8 m, v] w fun e w' => e = .returned (.bool true) ∧ Keeps [] w w' := by
  by_cases hn : l.length ≤ 60
  · by_cases h3 : m ≤ 3
    · exact WorldApart_any V w hG h0 h3 hl hI hn
    · exact WorldApart_out V w hG h0 h4 hI (.inr (by omega))
  · exact WorldApart_out V w hG h0 h4 hI (.inl (by omega))
end Go.Proofs.YtbnhcggjcdipeaaGreatDoor
