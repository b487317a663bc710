/-
  The law's told, over any program's worlds.
-/
import Derived.Test.YtbnhcggjcdipeaaGreatDoorWS00
import Derived.Test.YtbnhcggjcdipeaaGreatDoorWS37
import Derived.Test.YtbnhcggjcdipeaaGreatDoorWS39
import Derived.Test.YtbnhcggjcdipeaaGreatDoorWS41
import Derived.Test.YtbnhcggjcdipeaaGreatDoorWS32
import Derived.Test.YtbnhcggjcdipeaaGreatDoorWS31
import Derived.Test.YtbnhcggjcdipeaaGreatDoorWS38
import Derived.Test.YtbnhcggjcdipeaaGreatDoorWS40
import Derived.Test.YtbnhcggjcdipeaaGreatDoorWS35
set_option linter.unusedSimpArgs false
set_option linter.unusedVariables false
namespace Go.Proofs.YtbnhcggjcdipeaaGreatDoor
open Go.RowKit Go.Shelf
attribute [local go_sem] Oper.semAt_some
set_option maxRecDepth 100000
set_option maxHeartbeats 8000000
variable {G : World → Prop}
theorem pfx_snoc {l : List Nat} {pre : List (Fin 8)} {x : Fin 8} (h : pre.map (·.val) <+: l) (hl : pre.length < l.length) (hx : x.val = l[pre.length]) : (pre ++ [x]).map (·.val) <+: l := by
  obtain ⟨t, rfl⟩ := h
  cases t with
  | nil => simp at hl
  | cons y t =>
    have e : x.val = y := by
      rw [hx]
      simp [List.getElem_append_right]
    rw [List.map_append, List.map_cons, List.map_nil, e]
    exact ⟨t, by simp⟩
theorem pfx_no {l : List Nat} {pre : List (Fin 8)} {x : Fin 8} (hl : pre.length < l.length) (hx : x.val ≠ l[pre.length]) : ¬ (pre ++ [x]).map (·.val) <+: l := by
  rintro ⟨t, rfl⟩
  exact hx (by simp [List.getElem_append_right])
theorem nil_no (w : World) (B : Nat) : (binOp .eql 73 (.func (.func 50) #[] #[.pointer (some ⟨B, 0, none⟩)]) .nilFunc).run Tryz.prog w = .ok (.bool false) w := by
  first
    | kernel_rfl
    | rfl
    | simp [binOp, go_sem]
theorem told14_any {R : MdProg G} (V : WdProg R) (w : World) {A : List Value} {W : Wd} (hG : G w) (h : WoAt R w (.agg A.toArray) (some W)) (hu : W.upto 1000) {a : Option Addr} {n c : Nat} {L : List Mq} (hD : W14 w W (.slice a n c) L) :
    Calls Tryz.prog 16 #[.agg A.toArray, .agg (wdC W.m (.slice a n c)).toArray] w fun e w' => e = .returned (.bool true) ∧ Keeps [] w w' := by
  have hWI := h.in_
  obtain ⟨A', eA, hA⟩ := h.cells
  obtain rfl : A = A' := by simpa using eA
  have hl8 := hD.len hWI
  obtain ⟨rfl, bk, of, rfl, hbk, hr0⟩ := hD.at hWI
  obtain ⟨X, hX⟩ : ∃ X, X = ((w.alloc (.cells A.toArray 33)).alloc (.cells #[.int .u8 W.m, .slice (some ⟨bk, of, none⟩) 8 c] 39)).alloc (.cells #[.bool false] 4) := ⟨_, rfl⟩
  obtain ⟨-, a0, a1, ak⟩ := two_vars w A.toArray #[.int .u8 W.m, .slice (some ⟨bk, of, none⟩) 8 c] 33 39
  have az := two_blocks w A.toArray #[.int .u8 W.m, .slice (some ⟨bk, of, none⟩) 8 c] 33 39
  have hk2 : Keeps [] ((w.alloc (.cells A.toArray 33)).alloc (.cells #[.int .u8 W.m, .slice (some ⟨bk, of, none⟩) 8 c] 39)) X := by rw [hX]; exact (Keeps.refl _ _).alloc _
  have a2 : X.heap[w.heap.size + 2]? = some (.cells #[.bool false] 4 (0, 0)) := by
    have := heap_alloc_new ((w.alloc (.cells A.toArray 33)).alloc (.cells #[.int .u8 W.m, .slice (some ⟨bk, of, none⟩) 8 c] 39)) (.cells #[.bool false] 4)
    rw [az] at this
    rw [hX]; exact this
  have hk := ak.trans hk2 (FSub.refl _ _)
  have H2 := Lib.hid (show X.heap[w.heap.size]? = some (.cells A.toArray 33 (0, 0)) from hk2.heap a0 (by simp))
  have H3 := Lib.hid (show X.heap[w.heap.size + 1]? = some (.cells (wdC W.m (.slice (some ⟨bk, of, none⟩) 8 c)).toArray 39 (0, 0)) from hk2.heap a1 (by simp))
  have H4 := Lib.hid a2; have HK := Lib.hid hk
  have HA := Lib.hid hA; have HVO := Lib.hid (wdC_ok W.m (some ⟨bk, of, none⟩) 8 c)
  have HGL := Lib.hid (fun w' (h : Keeps [] w w') => R.keepG hG h); have HAT := Lib.hid (fun w' (hk : Keeps [] w w') => h.new hk); have HDW := Lib.hid (fun w' (hk : Keeps [] w w') => hD.new hk)
  have HUW := Lib.hid (show wUp (some W) 1000 from fun W' hW' => by obtain rfl := Option.some.inj hW'; exact hu)
  have HU2 := Lib.hid (show W.upto 10000 from fun S hS => Nat.le_trans (hu S hS) (by decide))
  have HWI := Lib.hid hWI; have HOLD := Lib.hid h.old; have HL8 := Lib.hid hl8; have HR0 := Lib.hid hr0
  have HSX := Lib.hid (show X.heap.size = w.heap.size + 3 from by rw [hX]; show (World.alloc _ _).heap.size = _; rw [show ∀ (W : World) (o : Obj), (W.alloc o).heap.size = W.heap.size + 1 from fun _ _ => Array.size_push _, az])
  have HGET := Lib.hid (fun o (ho : o < 8) => hD.get hWI ho)
  have HR2 := Lib.hid (block_range H2.out)
  rw [hX] at HR2
  clear a0 a1 a2 ak az hk hk2 h hG hD hu hWI hA eA hl8 hr0
  unfold wdC
  refine (callsIn_wide (n := 12)).1 ?_
  refine callsIn_of_wp_marks Tryz.func16 rfl trivial ?_ rfl
  simp only [Tryz.ntmps16, List.size_toArray, List.length_cons, List.length_nil, Nat.reduceAdd, Nat.reduceSub, Array.replicate_succ, Array.replicate_zero, List.push_toArray, List.append_toArray, List.nil_append, List.cons_append]
  refine wpIn_wide.2 ?_
  go_wp2_with ((with_reducible refine wpList_loadW (g := w.heap.size) HA.out ?_ ?_ HR2.out ?_); exact rfl; exact rfl)
  rw [← hX]
  refine (V.model X _ _ (HGL.out _ HK.out) (HAT.out _ HK.out)).mono ?_; rintro e w1 ⟨rfl, hk1⟩
  rw [show oWM (some W) = W.m from rfl, show (some W).isSome = true from rfl]
  have H21 := Lib.hid (hk1.heap H2.out (by simp)); have H31 := Lib.hid (hk1.heap H3.out (by simp)); have H41 := Lib.hid (hk1.heap H4.out (by simp)); have HK1 := Lib.hid (HK.out.trans hk1 (FSub.refl _ _)); have HS1 := Lib.hid (show w.heap.size + 3 ≤ w1.heap.size from by have := HSX.out; have := hk1.size; omega)
  clear hk1 hX H2 H3 H4 HK HSX HR2
  have HR3 := Lib.hid (block_range H31.out)
  go_wp2_with ((with_reducible refine wpList_loadV (g := w.heap.size + 1) (off := 0) HVO.out ?_ ?_ HR3.out ?_); exact rfl; exact rfl)
  refine (r14Objects_any w1 HWI.out HU2.out (HDW.out w1 HK1.out)).mono ?_; rintro e w2 ⟨lv, rfl, hown, hk2⟩
  obtain ⟨av, cv, rfl, -, -⟩ := hown.shape
  rw [List.length_map] at *
  have H22 := Lib.hid (hk2.heap H21.out (by simp)); have H32 := Lib.hid (hk2.heap H31.out (by simp)); have H42 := Lib.hid (hk2.heap H41.out (by simp)); have HK2 := Lib.hid (HK1.out.trans hk2 (FSub.refl _ _)); have HS2 := Lib.hid (Nat.le_trans HS1.out hk2.size)
  have HOWN := Lib.hid hown; have HOB := Lib.hid (fun q hq => (row_base hown q hq).2)
  clear hk2 hown H21 H31 H41 HK1 HS1 HR3
  obtain ⟨w3, hw3⟩ : ∃ w3, w3 = (w2.alloc (.cells #[.slice none 0 0] 88)).setCell ⟨w2.heap.size, 0, none⟩ (.slice av W.li.length cv) := ⟨_, rfl⟩
  have hk3 : Keeps [] w2 w3 := by rw [hw3]; exact ((Keeps.refl [] w2).alloc _).setCell _ _ (.inr (Nat.le_refl _))
  have hb7 : w3.heap[w2.heap.size]? = some (.cells #[.slice av W.li.length cv] 88 (0, 0)) := by
    rw [hw3, heap_setCell_same _ _ 0 _ 88 _ (heap_alloc_new w2 _)]; rfl
  have H7 := Lib.hid hb7; have H23 := Lib.hid (hk3.heap H22.out (by simp)); have H33 := Lib.hid (hk3.heap H32.out (by simp)); have H43 := Lib.hid (hk3.heap H42.out (by simp)); have HK3 := Lib.hid (HK2.out.trans hk3 (FSub.refl _ _)); have HOWN3 := Lib.hid (HOWN.out.keeps hk3 (by simp))
  have HS3 := Lib.hid (show w.heap.size + 3 ≤ w2.heap.size ∧ w2.heap.size < w3.heap.size from ⟨HS2.out, lt_of_block hb7⟩)
  have hw3' := hw3.symm
  clear hk3 hb7 hw3 H22 H32 H42 HK2 HOWN HS2
  go_wp2_with fail
  clear hw3'
  generalize w2.heap.size = B7 at *
  clear w2
  obtain ⟨S0, hS0⟩ : ∃ S0 : World → Prop, S0 = fun y => Keeps [] w3 y := ⟨_, rfl⟩
  have HSE := Lib.hid hS0
  have hSD : S0 w3.drew := by rw [hS0]; exact (Keeps.refl _ _).drew
  have HCM := Lib.hid (fun (w' : World) (hh : S0 w') => show w'.cell? ⟨w.heap.size + 1, 0, none⟩ = some (.int .u8 W.m) from by rw [hS0] at hh; exact cell_lit (hh.heap H33.out (by simp)) 0 rfl)
  have HRA := Lib.hid (fun (w' : World) (hh : S0 w') => show w'.rangeAt w.heap.size 0 A from by rw [hS0] at hh; exact block_range (hh.heap H23.out (by simp)))
  have HRD := Lib.hid (fun (w' : World) (hh : S0 w') => show w'.rangeAt (w.heap.size + 1) 0 (wdC W.m (.slice (some ⟨bk, of, none⟩) 8 c)) from by rw [hS0] at hh; exact block_range (hh.heap H33.out (by simp)))
  clear hS0
  obtain ⟨TB, hTB⟩ : ∃ TB, TB = bs (wdB W) := ⟨_, rfl⟩
  obtain ⟨TT, hTT⟩ : ∃ TT, TT = bs (wdT W) := ⟨_, rfl⟩
  have HTB := Lib.hid hTB.symm; have HTT := Lib.hid hTT.symm
  clear hTB hTT
  have tm : (W.m != W.m) = false := by simp
  refine wp_region_noPanic ?_
  refine wp_region_held_drew (S := S0) (by kernel_rfl) hSD (fun hHeld => ?_)
  refine tw 0 (h := ?_)
  refine tw 1 (h := ?_)
  refine tw 2 (h := ?_)
  refine tw 3 (h := ?_)
  refine tw 4 (h := ?_)
  refine tk 5 (y := by exact Or.inl ⟨by rfl, by intro w hSw; have q0 := HCM.out w hSw; go_simp; try with_reducible rfl⟩) (h := ?_)
  refine tw 6 (h := ?_)
  refine tw 7 (h := ?_)
  refine tw 8 (h := ?_)
  refine tk 9 (y := by exact skW.yields HA.out rfl _ rfl w.heap.size 0 rfl HRA.out) (h := ?_)
  refine tk 11 (y := by exact skWd.yields HVO.out rfl _ rfl (w.heap.size + 1) 0 rfl HRD.out) (h := ?_)
  refine rp 10 (h := fun K hK => ?_)
  refine wp_call9 24 _ _ rfl [.agg A.toArray] rfl Tryz.func24 (by kernel_rfl) (by kernel_rfl) ((V.enc _ _ _ (HGL.out _ (HK3.out.trans (Keeps.refl [] w3).drew (FSub.refl _ _))) (HAT.out _ (HK3.out.trans (Keeps.refl [] w3).drew (FSub.refl _ _))) HUW.out).mono ?_)
  rintro e y1 ⟨rfl, hk1⟩
  refine ⟨_, rfl, ?_⟩
  rw [show oWB (some W) = wdB W from rfl, HTB.out]
  have HY := Lib.hid ((Keeps.refl [] w3).drew.trans hk1 (FSub.refl _ _))
  clear hk1
  refine hK.out _ _ (by rw [HSE.out]; exact HY.out) (fun hHeld => ?_); clear hK K; try simp only [Act.put, lsA, lsZ, lsS]
  refine rp 12 (h := fun K hK => ?_)
  refine wp_call9 36 _ _ rfl [.agg (wdC W.m (.slice (some ⟨bk, of, none⟩) 8 c)).toArray] rfl Tryz.func36 (by kernel_rfl) (by kernel_rfl) ((r14Encode_any _ HWI.out HU2.out (HDW.out _ (HK3.out.trans HY.out (FSub.refl _ _)))).mono ?_)
  rintro e y2 ⟨rfl, hk1⟩
  refine ⟨_, rfl, ?_⟩
  rw [HTB.out]
  replace HY := Lib.hid (HY.out.trans hk1 (FSub.refl _ _))
  clear hk1
  refine hK.out _ _ (by rw [HSE.out]; exact HY.out) (fun hHeld => ?_); clear hK K; try simp only [Act.put, lsA, lsZ, lsS]
  refine tw 13 (h := ?_)
  refine tw 14 (h := ?_)
  refine tw 15 (h := ?_)
  refine tk 16 (y := by exact skW.yields HA.out rfl _ rfl w.heap.size 0 rfl HRA.out) (h := ?_)
  refine tk 18 (y := by exact skWd.yields HVO.out rfl _ rfl (w.heap.size + 1) 0 rfl HRD.out) (h := ?_)
  refine rp 17 (h := fun K hK => ?_)
  refine wp_call9 25 _ _ rfl [.agg A.toArray] rfl Tryz.func25 (by kernel_rfl) (by kernel_rfl) ((V.text _ _ _ (HGL.out _ (HK3.out.trans HY.out (FSub.refl _ _))) (HAT.out _ (HK3.out.trans HY.out (FSub.refl _ _))) HUW.out).mono ?_)
  rintro e y3 ⟨rfl, hk1⟩
  refine ⟨_, rfl, ?_⟩
  rw [show oWT (some W) = wdT W from rfl, HTT.out]
  replace HY := Lib.hid (HY.out.trans hk1 (FSub.refl _ _))
  clear hk1
  refine hK.out _ _ (by rw [HSE.out]; exact HY.out) (fun hHeld => ?_); clear hK K; try simp only [Act.put, lsA, lsZ, lsS]
  refine rp 19 (h := fun K hK => ?_)
  refine wp_call9 37 _ _ rfl [.agg (wdC W.m (.slice (some ⟨bk, of, none⟩) 8 c)).toArray] rfl Tryz.func37 (by kernel_rfl) (by kernel_rfl) ((r14Text_any _ HWI.out HU2.out (HDW.out _ (HK3.out.trans HY.out (FSub.refl _ _)))).mono ?_)
  rintro e y4 ⟨rfl, hk1⟩
  refine ⟨_, rfl, ?_⟩
  rw [HTT.out]
  replace HY := Lib.hid (HY.out.trans hk1 (FSub.refl _ _))
  clear hk1
  refine hK.out _ _ (by rw [HSE.out]; exact HY.out) (fun hHeld => ?_); clear hK K; try simp only [Act.put, lsA, lsZ, lsS]
  refine tw 20 (h := ?_)
  refine tw 21 (h := ?_)
  refine wpAnyH_done (by kernel_rfl) ?_ _
  refine NoPanic.normal ?_
  have H24 := Lib.hid (HY.out.heap H23.out (by simp)); have H34 := Lib.hid (HY.out.heap H33.out (by simp)); have H44 := Lib.hid (HY.out.heap H43.out (by simp)); have H74 := Lib.hid (HY.out.heap H7.out (by simp)); have HK4 := Lib.hid (HK3.out.trans HY.out (FSub.refl _ _)); have HOWN4 := Lib.hid (HOWN3.out.keeps HY.out (by simp))
  have HS4 := Lib.hid (show w.heap.size + 3 ≤ B7 ∧ B7 < y4.heap.size from ⟨HS3.out.1, Nat.lt_of_lt_of_le HS3.out.2 HY.out.size⟩)
  clear hHeld hSD HSE HCM HRA HRD HTB HTT H23 H33 H43 H7 HK3 HOWN3 HS3 HY
  obtain ⟨y5, hy5⟩ : ∃ y5, y5 = y4.alloc (.cells #[.int .i64 0] 3) := ⟨_, rfl⟩
  have hk5 : Keeps [] y4 y5 := by rw [hy5]; exact (Keeps.refl _ _).alloc _
  have hb8 : y5.heap[y4.heap.size]? = some (.cells #[.int .i64 0] 3 (0, 0)) := by rw [hy5]; exact heap_alloc_new y4 _
  have H8 := Lib.hid hb8; have H25 := Lib.hid (hk5.heap H24.out (by simp)); have H35 := Lib.hid (hk5.heap H34.out (by simp)); have H45 := Lib.hid (hk5.heap H44.out (by simp)); have H75 := Lib.hid (hk5.heap H74.out (by simp)); have HK5 := Lib.hid (HK4.out.trans hk5 (FSub.refl _ _)); have HOWN5 := Lib.hid (HOWN4.out.keeps hk5 (by simp))
  have hb2 := block_range H25.out
  rw [hy5] at hb2
  have HR5 := Lib.hid hb2
  clear hb2 hk5 hb8 H24 H34 H44 H74 HK4 HOWN4
  have HY5 := Lib.hid hy5.symm
  clear hy5
  go_wp2_with ((with_reducible refine wpList_loadW (g := w.heap.size) HA.out ?_ ?_ HR5.out ?_); exact rfl; exact rfl)
  rw [HY5.out]
  refine (V.objects y5 _ _ (HGL.out _ HK5.out) (HAT.out _ HK5.out)).mono ?_
  rintro e y6 ⟨B, A2, rfl, hA2, hBB, hB, hk⟩
  obtain rfl : A2 = A.toArray := by simpa using hA2.symm
  have HB := Lib.hid hB; have HBB := Lib.hid (show y4.heap.size < B from Nat.lt_of_lt_of_le (lt_of_block H8.out) hBB)
  have H26 := Lib.hid (hk.heap H25.out (by simp)); have H36 := Lib.hid (hk.heap H35.out (by simp)); have H46 := Lib.hid (hk.heap H45.out (by simp)); have H76 := Lib.hid (hk.heap H75.out (by simp)); have H86 := Lib.hid (hk.heap H8.out (by simp)); have HK6 := Lib.hid (HK5.out.trans hk (FSub.refl _ _)); have HOWN6 := Lib.hid (HOWN5.out.keeps hk (by simp))
  have HS6 := Lib.hid (show w.heap.size + 3 ≤ B7 ∧ B7 < y4.heap.size ∧ y4.heap.size < y6.heap.size from ⟨HS4.out.1, HS4.out.2, lt_of_block H86.out⟩)
  clear hB hBB hk hA2 HR5 HY5 H25 H35 H45 H75 H8 HK5 HOWN5 HS4
  generalize y4.heap.size = B8 at *
  clear y4 y5
  have hnil := fun w => nil_no w B
  go_wp2_with fail
  clear hnil
  refine (wpIn_wide (n := 12)).1 ?_
  refine wpIn_rangeFunc_ownF (F := Fence.wide) rfl (by omega) (gf := 50) (lb := #[.pointer (some ⟨B, 0, none⟩)]) rfl trivial (enters_of Tryz.func50 (by kernel_rfl) rfl)
    (encs := fun o : Fin 8 => #[.int .u8 (o.val : Int)]) (Kp := KeB [B8] y6.heap.size) (S := fun xs => xs.map (·.val) = oWL (some W)) (Sp := fun pre => pre.map (·.val) <+: oWL (some W)) (N := (oWL (some W)).length) (w0 := y6)
    (V.iter 11 y6.heap.size [B8] B y6 A (some W) (by omega) (fun w' hk => HGL.out w' (HK6.out.trans (hk.same rfl) (fun q hq => .inr (by simp at hq; have := HS6.out; omega)))) (HAT.out _ HK6.out) HUW.out HB.out (by have := HBB.out; simp; omega) (lt_of_block HB.out) (Nat.le_refl _) (fun q hq => by have h1 := HOLD.out q hq; have h2 := HS6.out; exact ⟨by simp; omega, by omega⟩))
    (fun h1 h2 => h1.trans h2) (fun W l o o' hl _ _ _ => keB_b W l o o' hl) (Below.refl _ _) (fun _ => rfl)
    (fun pre Z => Z.heap[B8]? = some (.cells #[.int .i64 (pre.length : Int)] 3 (0, 0)) ∧ pre.map (·.val) <+: oWL (some W) ∧ Keeps [B8] y6 Z)
    (fun _ pre _ => ¬ pre.map (·.val) <+: oWL (some W)) (cells_own.and ((pure_own _).and (keeps_own (Nat.le_refl _)))) (fun _ => pure_own _) ⟨H86.out, List.nil_prefix, Keeps.refl _ _⟩
    ?a1 ?assign ?body ?done ?stop
  case assign =>
    intro l x Z K hK
    gi_wp2
    exact hK
  case body =>
    rintro l pre x Z ⟨hb8, hpre, hkz⟩ hlen
    have c8 := cell_of_one hb8
    have f8 := free_of_one hb8
    have hb7 := hkz.heap H76.out (by have := HS6.out; simp; omega)
    have c7 := cell_of_one hb7
    have hb4 := hkz.heap H46.out (by have := HS6.out; simp; omega)
    have f4 := free_of_one hb4
    have c4 := cell_of_one hb4
    have ex : IntKind.i64.wrap (x.val : Int) = (x.val : Int) := IntWalk.i64_in _ ⟨by have := x.isLt; omega, by have := x.isLt; omega⟩
    have hlen2 : pre.length < W.li.length := by
      have h1 : (oWL (some W)).length = W.li.length := List.length_map _
      omega
    have hl1 : ¬ (W.li.length : Int) ≤ (pre.length : Int) := by omega
    have hl2 : (pre.length : Int) < (W.li.length : Int) := by omega
    have hl3 : 0 ≤ (pre.length : Int) := by omega
    have ew : wrap64 ((pre.length : Int) + 1) = (pre.length : Int) + 1 := by
      have h8 : W.li.length ≤ 8 := by have := liW_len W.m 0 W.l; rw [HWI.out.n] at this; exact this
      unfold wrap64; omega
    have hv := HOWN6.out.keeps hkz (fun q hq => by have := HOB.out q hq; have := HS6.out; simp; omega)
    obtain ⟨gv, oc, e, -, -, -, hgv, hrv⟩ := hv.at (fun e => by have := congrArg List.length e; rw [List.length_map, List.length_nil] at this; omega)
    simp only [Value.slice.injEq, List.length_map, true_and] at e
    obtain ⟨rfl, rfl⟩ := e
    have cl := hrv pre.length (by rw [List.length_map]; exact hlen2) 0 (.int .i64 ((W.li[pre.length]).1 : Int)) (by rw [List.getElem_map]; rfl)
    rw [show pre.length * rkN.s + 0 = pre.length from by show pre.length * 1 + 0 = pre.length; omega] at cl
    have hlo : (oWL (some W))[pre.length]'hlen = (W.li[pre.length]).1 := List.getElem_map _
    have hkb : Keeps [B8] y6 (Z.setCell ⟨B8, 0, none⟩ (.int .i64 ((pre.length : Int) + 1))) := hkz.setCell _ _ (.inl (by simp))
    have hke : KeB [B8] y6.heap.size Z (Z.setCell ⟨B8, 0, none⟩ (.int .i64 ((pre.length : Int) + 1))) := ((Keeps.refl [B8] Z).setCell _ _ (.inl (by simp))).keB hkz.size
    have hb8n : (Z.setCell ⟨B8, 0, none⟩ (.int .i64 ((pre.length : Int) + 1))).heap[B8]? = some (.cells #[.int .i64 (((pre ++ [x]).length : Nat) : Int)] 3 (0, 0)) := by
      rw [one_setCell hb8, List.length_append]; rfl
    have HKB := Lib.hid hkb; have HKE := Lib.hid hke; have HB8N := Lib.hid hb8n
    obtain ⟨el, hel⟩ : ∃ el, el = (W.li[pre.length]).1 := ⟨_, rfl⟩
    rw [← hel] at cl hlo
    have HPRE := Lib.hid hpre; have HHLO := Lib.hid hlo; have HLEN := Lib.hid hlen
    clear hv hrv hgv hkb hke hb8n hb8 hb7 hb4 hkz hpre hlo hel
    generalize W.li.length = NL at *
    obtain ⟨xv, hxv⟩ : ∃ xv, xv = x.val := ⟨_, rfl⟩
    rw [← hxv] at ex
    by_cases hx : xv = el
    · have hpn := pfx_snoc HPRE.out hlen (by rw [HHLO.out, ← hxv]; exact hx)
      have HPN := Lib.hid hpn
      have tx : ((xv : Int) != (el : Int)) = false := by rw [hx]; simp
      clear hpn hx
      rw [← hxv]
      gi_wp2
      exact ⟨KeepsOthers.setCell _ _ _, HKE.out, HB8N.out, HPN.out, HKB.out⟩
    · have hpn := pfx_no hlen (x := x) (by rw [HHLO.out, ← hxv]; exact hx)
      have HPN := Lib.hid hpn
      have tx : ((xv : Int) != (el : Int)) = true := by simp; omega
      clear hpn hx
      rw [← hxv]
      gi_wp2
      exact ⟨KeepsOthers.setCell _ _ _, HPN.out⟩
  case done =>
    rintro D ys Z hD hys ⟨hb8, -, hkz⟩ hKD
    have hyl : ys.length = W.li.length := by
      have := congrArg List.length hys
      rw [List.length_map] at this
      rw [this]; exact List.length_map _
    rw [hyl] at hb8
    have H8Z := Lib.hid hb8; have H7Z := Lib.hid (hkz.heap H76.out (by have := HS6.out; simp; omega)); have H4Z := Lib.hid (hkz.heap H46.out (by have := HS6.out; simp; omega)); have H3Z := Lib.hid (hkz.heap H36.out (by have := HS6.out; simp; omega)); have H2Z := Lib.hid (hkz.heap H26.out (by have := HS6.out; simp; omega))
    have HKZ := Lib.hid (show Keeps [] w Z from HK6.out.trans hkz (fun q hq => .inr (by simp at hq; have := HS6.out; omega)))
    have HKD := Lib.hid hKD; have HDL := Lib.hid (show B8 < D from by have := HS6.out; omega)
    clear hb8 hkz hKD hys hyl hD H26 H36 H46 H76 H86 HK6 HOWN6 HB
    go_wp2_with fail
    go_loopw [11, 12, 13] (fun i _ _ wr => ∃ k : Nat, i = .int .i64 k ∧ k ≤ 8 ∧ Keeps [] Z wr) (fun i _ _ _ => 8 - (intOf i).toNat)
    case atStart => exact ⟨0, rfl, by omega, Keeps.refl _ _⟩
    case round =>
      obtain ⟨k, rfl, hk, hkw⟩ := hrel
      have HKW := Lib.hid hkw; have HKA := Lib.hid (HKZ.out.trans hkw (FSub.refl _ _))
      have H2R := Lib.hid (hkw.heap H2Z.out (by simp)); have H3R := Lib.hid (hkw.heap H3Z.out (by simp))
      clear hkw
      by_cases hlt : k < 8
      · obtain ⟨y, hy, hyS, hyD⟩ := HGET.out k hlt
        have HRY := Lib.hid (fun j v hv => HKA.out.cell (HR0.out k y hy j v hv) (by simp))
        have HYD := Lib.hid (hyD.new HKA.out); have HYO := Lib.hid hyD.ok; have HYS := Lib.hid hyS
        have HYI := Lib.hid (show y.S.In from by rw [hyS]; exact (Wd.at_in HWI.out hlt).2)
        have HYL := Lib.hid (show y.S.len ≤ 1000 from by rw [hyS]; exact HUW.out W rfl _ (Wd.at_mem HWI.out hlt))
        have HRB := Lib.hid (block_range H2R.out)
        have ek : IntKind.u8.wrap (k : Int) = (k : Int) := by simp [IntKind.wrap, IntKind.signed, IntKind.bits]; omega
        have k0 : (k : Int) < 8 := by omega
        have k1 : 0 ≤ (k : Int) := by omega
        have k2 : (k : Int) % 256 = (k : Int) := by omega
        clear hy hyS hyD
        go_wp2_with ((with_reducible refine wpList_loadW (g := w.heap.size) HA.out ?_ ?_ HRB.out ?_); exact rfl; exact rfl)
        refine (V.at_ wr _ (some W) (k : Int) (HGL.out _ HKA.out) (HAT.out _ HKA.out) ⟨by omega, by omega⟩).mono ?_
        rintro e w5 ⟨st, rfl, hat, hk5, -⟩
        have eo : oWat (some W) (k : Int) = some (W.at k) := by
          show (if 7 < (k : Int) then none else some (W.at (k : Int).toNat)) = _
          rw [if_neg (by omega)]; rfl
        rw [eo] at hat ⊢
        rw [← HYS.out] at hat
        obtain ⟨B5, rfl, hBo⟩ := R.cells hat
        have HVB := Lib.hid hBo; have HS5 := Lib.hid hat; have HK5 := Lib.hid hk5
        have HC := Lib.hid (show (w5.alloc (.cells mdZA 30)).heap[w5.heap.size]? = some (.cells mdZ.toArray 30 (0, 0)) from heap_alloc_new w5 _)
        have HKC := Lib.hid (show Keeps [] w5 (w5.alloc (.cells mdZA 30)) from (Keeps.refl _ _).alloc _)
        clear hat hBo hk5 eo HRB
        rw [show (some (W.at k)).isSome = true from rfl]
        go_wp2_with ((with_reducible refine wpList_putM (g := w5.heap.size) (old := mdZ) (A := B5) HVB.out mdZ_ok ?_ ?_ HC.out ?_); exact rfl; exact rfl)
        intro w6 hW6 hk6
        have hk := HKC.out.trans' hk6 (Nat.le_refl _)
        have HG6 := Lib.hid hW6; have HK6 := Lib.hid (HK5.out.trans hk (FSub.refl _ _)); have HS6b := Lib.hid (R.new_ HS5.out hk)
        clear hW6 hk6 hk HC HKC HS5 HK5
        generalize w5.heap.size = q at *
        go_wp2_with fail
        obtain ⟨S1, hS1⟩ : ∃ S1 : World → Prop, S1 = fun y => Keeps [] w6 y := ⟨_, rfl⟩
        have HSE := Lib.hid hS1
        have hSD : S1 w6.drew := by rw [hS1]; exact (Keeps.refl _ _).drew
        have HSM := Lib.hid (fun (w' : World) (hh : S1 w') => show w'.rangeAt q 0 B5 from by rw [hS1] at hh; exact block_range (hh.heap HG6.out (by simp)))
        have HC1 := Lib.hid (fun (w' : World) (hh : S1 w') => show w'.cell? ⟨w.heap.size + 1, 1, none⟩ = some (.slice (some ⟨bk, of, none⟩) 8 c) from by rw [hS1] at hh; exact cell_lit (hh.heap (HK6.out.heap H3R.out (by simp)) (by simp)) 1 rfl)
        have HSA := Lib.hid (fun (w' : World) (hh : S1 w') => show w'.rangeAt bk (of + k * 5) (mdC y.S y.q y.p) from by rw [hS1] at hh; exact fun j v hv => hh.cell (HK6.out.cell (HRY.out j v hv) (by simp)) (by simp))
        clear hS1
        refine wp_region_noPanic ?_
        refine wp_region_held_drew (S := S1) (by kernel_rfl) hSD (fun hHeld => ?_)
        refine tw 0 (h := ?_)
        refine tw 1 (h := ?_)
        refine tw 2 (h := ?_)
        refine tk 3 (y := by exact skM.yields HVB.out rfl _ rfl q 0 rfl HSM.out) (h := ?_)
        refine tw 5 (h := ?_)
        refine tk 6 (y := by exact Or.inl ⟨by rfl, by intro w hSw; have q0 := HC1.out w hSw; go_simp; try with_reducible rfl⟩) (h := ?_)
        refine tw 7 (h := ?_)
        refine tk 8 (y := by exact yields_indexW rfl _ _ rfl bk of 8 c k rfl rfl hlt) (h := ?_)
        refine tk 9 (y := by exact skD.yields HYO.out rfl _ rfl bk (of + k * 5) rfl HSA.out) (h := ?_)
        refine rp 4 (h := fun K hK => ?_)
        refine wp_call9 22 _ _ rfl [.agg B5.toArray] rfl Tryz.func22 (by kernel_rfl) (by kernel_rfl) ((R.enc _ _ (some y.S) (HGL.out _ (HKA.out.trans (HK6.out.trans (Keeps.refl [] w6).drew (FSub.refl _ _)) (FSub.refl _ _))) (R.new_ HS6b.out (Keeps.refl [] w6).drew) HYL.out).mono ?_)
        rintro e z1 ⟨rfl, hk1⟩
        refine ⟨_, rfl, ?_⟩
        rw [show oB (some y.S) = mdB y.S from rfl]
        have HY := Lib.hid ((Keeps.refl [] w6).drew.trans hk1 (FSub.refl _ _))
        clear hk1
        refine hK.out _ _ (by rw [HSE.out]; exact HY.out) (fun hHeld => ?_); clear hK K; try simp only [Act.put, lsA, lsZ, lsS]
        refine rp 10 (h := fun K hK => ?_)
        refine wp_call9 38 _ _ rfl [.agg (mdC y.S y.q y.p).toArray] rfl Tryz.func38 (by kernel_rfl) (by kernel_rfl) ((r13Encode_any _ HYI.out (Nat.le_trans HYL.out (by decide)) (HYD.out.new (HK6.out.trans HY.out (FSub.refl _ _)))).mono ?_)
        rintro e z2 ⟨rfl, hk1⟩
        refine ⟨_, rfl, ?_⟩
        replace HY := Lib.hid (HY.out.trans hk1 (FSub.refl _ _))
        clear hk1
        refine hK.out _ _ (by rw [HSE.out]; exact HY.out) (fun hHeld => ?_); clear hK K; try simp only [Act.put, lsA, lsZ, lsS]
        generalize bs (mdB y.S) = TS at *
        refine tw 11 (h := ?_)
        refine tw 12 (h := ?_)
        refine wpAnyH_done (by kernel_rfl) ?_ _
        refine NoPanic.normal ?_
        have HKF := Lib.hid (HKW.out.trans (HK6.out.trans HY.out (FSub.refl _ _)) (FSub.refl _ _))
        clear hHeld hSD HSE HSM HC1 HSA
        go_wp2_with fail
        go_roundw
        case rel => exact ⟨k + 1, by go_num, by omega, HKF.out⟩
        case measure => simp [intOf]; omega
      · obtain rfl : k = 8 := by omega
        have h8 := HKW.out.heap H8Z.out (by simp)
        have h7 := HKW.out.heap H7Z.out (by simp)
        have h4 := HKW.out.heap H4Z.out (by simp)
        have hKD := HKW.out.heap HKD.out (by simp)
        have c8 := cell_of_one h8
        have c7 := cell_of_one h7
        have c4 := cell_of_one h4
        have f4 := free_of_one h4
        have tt : ((W.li.length : Int) == (W.li.length : Int)) = true := by simp
        have HH4 := Lib.hid h4; have HHD := Lib.hid hKD
        clear h8 h7 h4 hKD
        go_wp2_with fail
        have hK' : (wr.setCell ⟨w.heap.size + 1 + 1, 0, none⟩ (.bool true)).heap[D]? = some (.deferred (some [])) := (KeepsOthers.setCell wr ⟨w.heap.size + 1 + 1, 0, none⟩ (.bool true)).same D _ HHD.out rfl
        have h4' : wr.heap[w.heap.size + 1 + 1]? = some (.cells #[.bool false] 4 (0, 0)) := HH4.out
        have hc5 : ((wr.setCell ⟨w.heap.size + 1 + 1, 0, none⟩ (.bool true)).putObj D (.deferred none)).cell? ⟨w.heap.size + 1 + 1, 0, none⟩ = some (.bool true) :=
          cell_kept (cell_of_one (one_setCell h4')) (grownBy_putObj' _ D (.deferred none)) (fun r e => by cases e; exact ⟨_, hK', rfl⟩)
        have hk9 : Keeps [] w ((wr.setCell ⟨w.heap.size + 1 + 1, 0, none⟩ (.bool true)).putObj D (.deferred none)) := (HKA.out.setCell _ _ (.inr (by show w.heap.size ≤ w.heap.size + 1 + 1; omega))).putObj _ _ (by have := HS6.out; have := HDL.out; omega)
        refine ⟨by simp, .inl ⟨_, _, rfl, run_takeDeferred hK', ?_⟩⟩
        refine ⟨.bool true, ?_, rfl, hk9⟩
        simp [results, Tryz.f16, go_sem, hc5]
  case stop =>
    rintro D c pre Z hD hpre h hKD
    exact absurd hpre h
end Go.Proofs.YtbnhcggjcdipeaaGreatDoor
/-
  The law WorldBack, over any program's worlds.
-/
namespace Go.Proofs.YtbnhcggjcdipeaaGreatDoor
open Go.RowKit
set_option maxRecDepth 100000
set_option maxHeartbeats 8000000
variable {G : World → Prop}
theorem woAt_ok {R : MdProg G} {w : World} {A : List Value} {O : Option Wd} (h : WoAt R w (.agg A.toArray) O) : skW.Ok A := by
  obtain ⟨B, e, hB⟩ := h.cells
  rw [show A = B by simpa using e]; exact hB
theorem oNew_some {m : Int} (h : m ≤ 3) : oWNew m = some (wd0 m) := if_pos h
end Go.Proofs.YtbnhcggjcdipeaaGreatDoor
/-
  The program's World: Text.
-/
namespace Go.Proofs.YtbnhcggjcdipeaaGreatDoor
open Go.RowKit Go.Shelf
attribute [local go_sem] Oper.semAt_some
set_option maxRecDepth 100000
set_option maxHeartbeats 8000000
variable {G : World → Prop}
section
variable {o : Oper} {a : Act} {w : World} {K : Act → World → Prop} {Q : Exit → Act → World → Prop}
theorem run_load14 (w : World) (g : Nat) (z : Value) (hc : w.cell? ⟨g, 0, none⟩ = some z) : (loadVar 111 ⟨g, 0, none⟩).run Tryz.prog w = .ok z w := by
  simp [loadVar, run_underlying Tryz.underlying111, hc]
theorem wp_load14 {x : Operand} (ho : o.op = .load 111 x) {g : Nat} {z : Value} (hx : a.eval x = .pointer (some ⟨g, 0, none⟩)) (hc : w.cell? ⟨g, 0, none⟩ = some z) (h : K (a.put o.dst z) w) : o.wp Tryz.prog a w K Q := by
  have hrun := run_load14 w g z hc
  unfold Oper.wp execOp
  simp only [ho, hx, Instr.loadAt, Instr.sureAddr, Sem.run_bind, Sem.run_pure, Result.andThen_ok, hrun]
  exact h
end
def listT (O : Option Wd) (pre : List (Fin 8)) : List (List UInt8) := pre.map fun o => match O with
  | some W => wtT (o.val, W.at o.val)
  | none => []
theorem listT_all {O : Option Wd} {pre : List (Fin 8)} (h : pre.map (·.val) = oWL O) : oWT O = if listT O pre = [] then [45] else spT (listT O pre) := by
  cases O with
  | none =>
    have : pre = [] := List.map_eq_nil_iff.1 h
    rw [this]; rfl
  | some W =>
    have e : listT (some W) pre = W.li.map wtT := by
      have h3 : W.li = (W.li.map (·.1)).map fun o => (o, W.at o) := by
        rw [List.map_map]
        conv => lhs; rw [← List.map_id W.li]
        exact List.map_congr_left fun p hp => by
          show p = (p.1, W.at p.1)
          rw [← Wd.li_at p hp]
      rw [h3, show W.li.map (·.1) = pre.map (·.val) from h.symm, List.map_map, List.map_map]
      rfl
    rw [e]
    show wdT W = _
    unfold wdT
    by_cases hl : W.li = []
    · rw [if_pos hl, if_pos (by rw [hl]; rfl)]
    · rw [if_neg hl, if_neg (by simpa using hl)]
theorem listT_next (W : Wd) (pre : List (Fin 8)) (x : Fin 8) : listT (some W) (pre ++ [x]) = listT (some W) pre ++ [wtT (x.val, W.at x.val)] := by
  unfold listT
  rw [List.map_append]
  rfl
theorem wdText_any (R : MdProg G) (HI : ∀ (w : World) (v : Int), G w → 0 ≤ v → v < 65536 → Calls Tryz.prog 47 #[.int .i64 v] w fun e w' => e = .returned (.string (bs (dec v))) ∧ Keeps [] w w') (w : World) {st : Value} {O : Option Wd} (hG : G w) (h : WoAt R w st O) (hu : wUp O 1000) : Calls Tryz.prog 25 #[st] w fun e w' => e = .returned (.string (bs (oWT O))) ∧ Keeps [] w w' := by
  obtain ⟨A, rfl, hA⟩ := h.cells
  obtain ⟨V0, hV0⟩ : ∃ V0, V0 = (w.alloc (.cells A.toArray 33)).alloc (.cells #[.slice none 0 0] 111) := ⟨_, rfl⟩
  obtain ⟨-, h0, h1, hk⟩ := two_vars w A.toArray #[.slice none 0 0] 33 111
  have hz := two_blocks w A.toArray #[.slice none 0 0] 33 111
  rw [← hV0] at h0 h1 hk hz
  have HWW := Lib.hid h; have HA := Lib.hid hA; have HU := Lib.hid hu; have HW := Lib.hid (h.new hk); have HOLD := Lib.hid h.old; have HGL := Lib.hid (fun w' (h : Keeps [] w w') => R.keepG hG h)
  have H0 := Lib.hid h0; have H1 := Lib.hid h1; have HK := Lib.hid hk; have HZ := Lib.hid hz
  have HRW := Lib.hid (block_range h0)
  rw [hV0] at HRW
  have HOB := Lib.hid (wdObjects_any R V0 (h.new hk))
  rw [hV0] at HOB
  clear h0 h1 hk hz h hG hu hA
  refine (callsIn_wide (n := 12)).1 ?_
  refine callsIn_of_wp_marks Tryz.func25 rfl trivial ?_ rfl
  simp only [Tryz.ntmps25, List.size_toArray, List.length_cons, List.length_nil, Nat.reduceAdd, Nat.reduceSub, Array.replicate_succ, Array.replicate_zero, List.push_toArray, List.append_toArray, List.nil_append, List.cons_append]
  gi_wp2_with ((with_reducible refine wideW (g := w.heap.size) HA.out ?_ ?_ HRW.out ?_); exact rfl; exact rfl)
  refine ⟨trivial, (callsIn_wide.2 HOB.out).mono ?_⟩
  rintro e w2 ⟨B, A2, rfl, hA2, hBB, hB, hk⟩
  obtain rfl : A2 = A.toArray := by simpa using hA2.symm
  rw [← hV0] at hBB hk
  have HB := Lib.hid hB; have HBB := Lib.hid hBB; have HK2 := Lib.hid (HK.out.trans hk (FSub.refl _ _)); have H02 := Lib.hid (hk.heap H0.out (by simp)); have H12 := Lib.hid (hk.heap H1.out (by simp)); have HW2 := Lib.hid (HW.out.new hk)
  clear hV0 hB hBB hk hA2 HOB HRW H0 H1 HW
  gi_wp2_with fail
  refine wpIn_rangeFunc_ownF (F := Fence.wide) rfl (by omega) (gf := 50) (lb := #[.pointer (some ⟨B, 0, none⟩)]) rfl trivial (enters_of Tryz.func50 (by kernel_rfl) rfl)
    (encs := fun o : Fin 8 => #[.int .u8 (o.val : Int)]) (Kp := KeB [w.heap.size + 1] w2.heap.size) (S := fun xs => xs.map (·.val) = oWL O) (Sp := fun pre => pre.map (·.val) <+: oWL O) (N := (oWL O).length) (w0 := w2)
    (wdIter_any R 11 w2.heap.size [w.heap.size + 1] B w2 A O (by omega) (fun w' hk => HGL.out w' (HK2.out.trans (hk.same rfl) (fun q hq => .inr (by simp at hq; omega)))) HW2.out HU.out HB.out (by have := HBB.out; have := HZ.out; simp; omega) (lt_of_block HB.out) (Nat.le_refl _) (fun q hq => by have h1 := HOLD.out q hq; have h2 := HK2.out.size; exact ⟨by simp; omega, by omega⟩))
    (fun h1 h2 => h1.trans h2) (fun W l o o' hl _ _ _ => keB_b W l o o' hl) (Below.refl _ _) (fun _ => rfl)
    (fun pre W => (∃ v, W.heap[w.heap.size + 1]? = some (.cells #[v] 111 (0, 0)) ∧ rkS.Own w2.heap.size W v (listT O pre)) ∧ W.heap[w.heap.size]? = some (.cells A.toArray 33 (0, 0)) ∧ Keeps [] w W ∧ Keeps [w.heap.size + 1] w2 W)
    (fun _ _ _ => False) ?hI (fun _ _ _ _ _ h => h.elim) ⟨⟨.slice none 0 0, H12.out, RK.Own.nil rkS _ _⟩, H02.out, HK2.out, Keeps.refl _ _⟩
    (fun o => { tmps := #[.agg A.toArray, .pointer (some ⟨w.heap.size, 0, none⟩), .string ⟨#[]⟩, .pointer (some ⟨w.heap.size + 1, 0, none⟩), .int .u8 (o.val : Int), .agg A.toArray, .func (.func 50) #[] #[.pointer (some ⟨B, 0, none⟩)], .int .u8 (o.val : Int), undef, undef, undef, undef, undef, undef, undef, undef, undef, undef, undef, undef, undef, undef, undef, undef, undef, undef], defers := [] }) ?assign ?body ?done ?stop
  case hI =>
    refine OwnFrom.and ?_ (cells_own.and ((keeps_own (by have := HK2.out.size; omega)).and (keeps_own (Nat.le_refl _))))
    rintro s W W' row ⟨v, h1, h2⟩ hg hr
    have hr2 : ∀ r, row = some r → ∃ o : Obj, W.heap[r]? = some o ∧ o.isCells = false := fun r e => (hr r e).2
    exact ⟨v, cells_own (B := w2.heap.size) (β := Unit) (cs := fun _ => #[v]) () W W' row h1 hg hr, h2.abides hg hr2⟩
  case assign =>
    intro l x W K hK
    gi_wp2
    exact hK
  case body =>
    rintro l pre x W ⟨⟨v, hb, hrow⟩, hbox, hkw, hk2w⟩ hlen
    have hsW := hk2w.size
    have HK2W := Lib.hid hk2w
    clear hk2w
    cases O with
    | none => exact absurd hlen (Nat.not_lt_zero _)
    | some X =>
      have hXI := HWW.out.in_
      obtain ⟨u, hu, hu1, hat⟩ := HWW.out.one x.isLt
      have HAT := Lib.hid (show R.At W (.agg #[u]) (some (X.at x.val)) from R.new_ hat hkw)
      have HR := Lib.hid (one_range hbox hu); have HVO := Lib.hid (v_ok hu1)
      have HLN := Lib.hid (show (X.at x.val).len ≤ 1000 from HU.out X rfl _ (Wd.at_mem hXI x.isLt))
      have HSI := Lib.hid (Wd.at_in hXI x.isLt).2
      have HW0 := Lib.hid (show w2.heap.size ≤ W.heap.size from hsW)
      have HBXW := Lib.hid hbox; have HKW0 := Lib.hid hkw
      obtain ⟨a9, c9, rfl, -, -⟩ := hrow.shape
      have HROW := Lib.hid hrow; have HOB9 := Lib.hid (row_base hrow)
      have HBC := Lib.hid (show W.heap[w.heap.size + 1]? = some (.cells [.slice a9 (listT (some X) pre).length c9].toArray 111 (0, 0)) from hb)
      have HPL := Lib.hid (show (listT (some X) pre).length ≤ 8 from by
        have h2 : (oWL (some X)).length ≤ 8 := by
          show (X.li.map (·.1)).length ≤ 8
          rw [List.length_map]
          have := liW_len X.m 0 X.l
          rw [hXI.n] at this; exact this
        unfold listT
        rw [List.length_map]
        omega)
      have HNX := Lib.hid (listT_next X pre x)
      have HGW := Lib.hid (fun w' (h : Keeps [] W w') => HGL.out w' (HKW0.out.trans h (FSub.refl _ _)))
      have x8 := x.isLt
      clear hu hu1 hat hrow hbox hkw hb hXI hlen
      have hx0 : (x.val : Int) < 8 := by omega
      have hx1 : 0 ≤ (x.val : Int) := by omega
      generalize X.at x.val = S at *
      generalize hLL : listT (some X) pre = L at *
      clear hLL
      obtain ⟨n9, hn9⟩ : ∃ n9, n9 = L.length := ⟨_, rfl⟩
      rw [← hn9] at HROW HBC HPL HOB9
      have HN9 := Lib.hid hn9
      clear hn9
      obtain ⟨xv, hxv⟩ : ∃ xv, xv = x.val := ⟨_, rfl⟩
      rw [← hxv] at hx0 hx1 x8 HR HNX ⊢
      clear hxv
      have HTX := Lib.hid (fun w' (h : Keeps [] W w') => R.text w' _ (some S) (HGW.out w' h) (R.new_ HAT.out h) HLN.out)
      obtain ⟨SD, hSDD⟩ : ∃ SD, SD = bs (dec (xv : Int)) := ⟨_, rfl⟩
      obtain ⟨ST, hST⟩ : ∃ ST, ST = bs (mdT S) := ⟨_, rfl⟩
      have zD : SD.size ≤ 5 := by rw [hSDD, bs_size]; exact dec_len5 (by omega)
      have zT : ST.size ≤ 6100 := by rw [hST, bs_size]; have := mdT_short HSI.out HLN.out; omega
      have HSUM := Lib.hid (show SD ++ ⟨#[61]⟩ ++ ST = bs (wtT (xv, S)) from by
        rw [hSDD, hST, wtT, show (⟨#[61]⟩ : ByteArray) = bs [61] from rfl, bs_cat, bs_cat]
        simp)
      have HSD := Lib.hid hSDD.symm; have HST := Lib.hid (show bs (oT (some S)) = ST from hST.symm)
      have q1 : ¬ 9223372036854775807 < SD.size + 1 := by omega
      have q2 : ¬ 9223372036854775807 < SD.size + 1 + ST.size := by omega
      have ew : IntKind.i64.wrap (xv : Int) = (xv : Int) := IntWalk.i64_in _ ⟨by omega, by omega⟩
      clear hSDD hST
      apply wpIn_block
      obtain ⟨S0, hS0⟩ : ∃ S0 : World → Prop, S0 = fun y => Keeps ((w.heap.size + 1) :: own (.slice a9 n9 c9)) W y := ⟨_, rfl⟩
      have HSE := Lib.hid hS0
      have hHeld : S0 W.drew := by rw [hS0]; exact ((Keeps.refl [] _).drew).more (by simp)
      have HSA := Lib.hid (fun (w' : World) (hh : S0 w') => show w'.rangeAt w.heap.size xv [u] from by
        rw [hS0] at hh
        exact fun j v hv => hh.cell (HR.out j v hv) (by
          intro hq
          rcases List.mem_cons.1 hq with h | h
          · simp at h
          · have h1 := (HOB9.out _ h).1; have h2 := lt_of_block H12.out; simp at h1; omega))
      clear hS0
      refine wpIn_region_drawn (S := S0) (by kernel_rfl) ?_ rfl ?_
      · rintro ⟨a, w, h⟩; exact h
      refine tw 1 (h := ?_)
      refine tw 2 (h := ?_)
      refine tw 5 (h := ?_)
      refine tw 6 (h := ?_)
      refine tk 7 (y := by exact yields_indexS rfl _ _ rfl w.heap.size xv .u8 rfl rfl x8) (h := ?_)
      refine tk 8 (y := by exact skM.yields HVO.out rfl _ rfl w.heap.size xv rfl HSA.out) (h := ?_)
      have HY := Lib.hid ((Keeps.refl [] W).drew)
      have HCW := Lib.hid HY.out
      have hdr : ({ W with drawn := W.drawn + 1 } : World) = W.drew := rfl
      rw [hdr]
      generalize W.drew = YC at *
      clear hdr
      iterate 4
        all_goals
          first
            | apply wpAnyH_ready (rs := [0, 3])
              · decide +kernel
              · simp
              refine acn ?_ (acn ?_ (AllReadyH.nil))
            | apply wpAnyH_ready (rs := [0, 9])
              · decide +kernel
              · simp
              refine acn ?_ (acn ?_ (AllReadyH.nil))
            | apply wpAnyH_ready (rs := [0, 11])
              · decide +kernel
              · simp
              refine acn ?_ (acn ?_ (AllReadyH.nil))
            | apply wpAnyH_ready (rs := [3])
              · decide +kernel
              · simp
              refine acn ?_ (AllReadyH.nil)
            | apply wpAnyH_ready (rs := [9])
              · decide +kernel
              · simp
              refine acn ?_ (AllReadyH.nil)
            | apply wpAnyH_ready (rs := [11])
              · decide +kernel
              · simp
              refine acn ?_ (AllReadyH.nil)
            | apply wpAnyH_ready (rs := [0])
              · decide +kernel
              · simp
              refine acn ?_ (AllReadyH.nil)
          all_goals
            intro K hK
            rw [if_pos (by rfl)]
            first
            | refine wp_call9 47 _ _ rfl [.int .i64 (xv : Int)] rfl Tryz.func47 (by kernel_rfl) (by kernel_rfl) ((HI _ (xv : Int) (HGW.out _ HY.out) (Int.natCast_nonneg _) (by omega)).mono ?_)
              rintro e YC ⟨rfl, hk1⟩
              refine ⟨_, rfl, ?_⟩
              rw [HSD.out]
              replace HY := Lib.hid (HY.out.trans hk1 (FSub.refl _ _))
              replace HCW := Lib.hid HY.out
              clear hk1
              refine hK.out _ _ (by rw [HSE.out]; exact HY.out.more (by simp)) (fun hHeld => ?_); clear hK K; try simp only [Act.put, lsA, lsZ, lsS]
              refine tw 4 (h := ?_)
            | refine wp_call9 48 _ _ rfl [.agg #[u]] rfl Tryz.func48 (by kernel_rfl) (by kernel_rfl) ((HTX.out _ HY.out).mono ?_)
              rintro e YC ⟨rfl, hk1⟩
              refine ⟨_, rfl, ?_⟩
              rw [HST.out]
              replace HY := Lib.hid (HY.out.trans hk1 (FSub.refl _ _))
              replace HCW := Lib.hid HY.out
              clear hk1
              refine hK.out _ _ (by rw [HSE.out]; exact HY.out.more (by simp)) (fun hHeld => ?_); clear hK K; try simp only [Act.put, lsA, lsZ, lsS]
              refine tw 10 (h := ?_)
            | refine wp_buildS (y := SD ++ ⟨#[61]⟩ ++ ST) _ rfl rfl ?_
              replace HCW := Lib.hid (HY.out.alloc (.cells #[.string (SD ++ ⟨#[61]⟩ ++ ST)] 9))
              refine hK.out _ _ (by rw [HSE.out]; exact HCW.out.more (by simp)) (fun hHeld => ?_); clear hK K; try simp only [Act.put, lsA, lsZ, lsS]
            | refine wp_load14 rfl (g := w.heap.size + 1) (z := .slice a9 n9 c9) rfl (cell_lit (HCW.out.heap HBC.out (by simp)) 0 rfl) ?_
              refine hK.out _ _ (by rw [HSE.out]; exact HCW.out.more (by simp)) (fun hHeld => ?_); clear hK K; try simp only [Act.put, lsA, lsZ, lsS]
      all_goals
        obtain ⟨v', w3, hrun, hrow3, hk3, hf3⟩ := rkS.append1 YC w2.heap.size (Nat.le_trans HW0.out HY.out.size) _ _ (HROW.out.keeps HY.out (by simp)) (wtT (xv, S)) (by have := HPL.out; have := HN9.out; omega)
        have HRUN := Lib.hid (show (Builtin.append_ #[111, 111] 111 #[.slice a9 n9 c9, .slice (some ⟨YC.heap.size, 0, none⟩) 1 1]).run Tryz.prog (YC.alloc (.cells #[.string (SD ++ ⟨#[61]⟩ ++ ST)] 9)) = .ok v' w3 from by rw [HSUM.out]; exact hrun)
        have HROW3 := Lib.hid hrow3
        have HK3 := Lib.hid ((HY.out.more (G := own (.slice a9 n9 c9)) (by simp)).trans hk3 (FSub.refl _ _))
        have HF3 := Lib.hid hf3
        obtain ⟨a8, c8, rfl, -, -⟩ := hrow3.shape
        clear hrun hrow3 hk3 hf3
        refine rp 12 (h := fun K hK => ?_)
        refine wp_append_run _ _ 111 rfl _ _ _ w3 rfl rfl HRUN.out ?_
        refine hK.out _ _ (by rw [HSE.out]; exact HK3.out.more (fun q hq => List.mem_cons_of_mem _ hq)) (fun hHeld => ?_); clear hK K; try simp only [Act.put, lsA, lsZ, lsS]
        refine rp 13 (h := fun K hK => ?_)
        refine wp_put13 (g := w.heap.size + 1) (j := 0) (A := [.slice a9 n9 c9]) rfl (by kernel_rfl) rfl rfl (HK3.out.heap HBC.out (fun hq => by have := (HOB9.out _ hq).1; have := lt_of_block H12.out; omega)) (by simp) rfl (fun W7 hV hkV => ?_)
        have hbc7 := hV
        have hrow7 := HROW3.out.keeps hkV (fun q hq => by have := (row_base HROW3.out q hq).1; have := lt_of_block H12.out; simp; omega)
        have hall : Keeps ((w.heap.size + 1) :: own (.slice a9 n9 c9)) W W7 := (HK3.out.more (fun q hq => List.mem_cons_of_mem _ hq)).trans (hkV.more (fun q hq => by simp at hq; simp [hq])) (FSub.refl _ _)
        have HALL := Lib.hid hall
        clear hV hkV hall
        refine hK.out _ _ (by rw [HSE.out]; exact HALL.out) (fun hHeld => ?_); clear hK K; try simp only [Act.put, lsA, lsZ, lsS]
        refine wpAnyH_done (by kernel_rfl) ?_ _
        have hkeb : KeB [w.heap.size + 1] w2.heap.size W W7 := (HALL.out.keB HW0.out).more (fun g hg => by
          rcases List.mem_cons.1 hg with h | h
          · exact .inl (by simp [h])
          · exact .inr (HOB9.out g h).1)
        have hoth : KeepsOthers W W7 := HALL.out.others (fun g hg o ho => by
          rcases List.mem_cons.1 hg with h | h
          · subst h; rw [HBC.out] at ho; cases ho; rfl
          · obtain ⟨cs, t, f, h2⟩ := HROW.out.cells_of g h
            rw [h2] at ho; cases ho; rfl)
        refine ⟨hoth, hkeb, ⟨_, hbc7, by rw [HNX.out]; exact hrow7⟩, ?_, ?_, ?_⟩
        · exact HALL.out.heap HBXW.out (by
            intro hq
            rcases List.mem_cons.1 hq with h | h
            · omega
            · have := (HOB9.out _ h).1; have := HK2.out.size; have := lt_of_block H12.out; omega)
        · exact HKW0.out.trans HALL.out (fun q hq => .inr (by
            rcases List.mem_cons.1 hq with h | h
            · omega
            · have := (HOB9.out _ h).1; have := HK2.out.size; omega))
        · exact HK2W.out.trans HALL.out (fun q hq => by
            rcases List.mem_cons.1 hq with h | h
            · exact .inl (by simp [h])
            · exact .inr (HOB9.out q h).1)
  case done =>
    rintro D ys W hD hys ⟨⟨v, hb, hrow⟩, hbox, hkw, -⟩ hKD
    have HTA := Lib.hid (listT_all hys)
    have hlen : (listT O ys).length ≤ 8 := by
      have h1 : ys.length = (oWL O).length := by rw [← hys, List.length_map]
      unfold listT
      rw [List.length_map, h1]
      cases O with
      | none => exact Nat.zero_le _
      | some X =>
        show (X.li.map (·.1)).length ≤ 8
        rw [List.length_map]
        have := liW_len X.m 0 X.l
        rw [HWW.out.in_.n] at this; exact this
    have hspl : (spT (listT O ys)).length ≤ 1000000 := by
      cases O with
      | none =>
        have h1 : listT none ys = [] := by
          have : ys = [] := List.map_eq_nil_iff.1 hys
          rw [this]; rfl
        rw [h1]; simp [spT]
      | some X =>
        have h1 := spT_len (l := listT (some X) ys) (n := 60110) (fun z hz => by
          obtain ⟨o, ho, rfl⟩ := List.mem_map.1 hz
          exact wtT_len o.isLt (Wd.at_in HWW.out.in_ o.isLt).2 (Nat.le_trans (HU.out X rfl _ (Wd.at_mem HWW.out.in_ o.isLt)) (by decide)))
        have h2 := Nat.mul_le_mul_right (60110 + 1) hlen
        omega
    have HJN := Lib.hid (Join13_any W hrow (by omega) hspl)
    obtain ⟨a9, c9, rfl, -, -⟩ := hrow.shape
    have c1 : W.cell? ⟨w.heap.size + 1, 0, none⟩ = some (.slice a9 (listT O ys).length c9) := cell_lit hb 0 rfl
    have HKD2 := Lib.hid hkw; have HKD3 := Lib.hid (fun (W' : World) (h : Keeps [] W W') => h.heap hKD (by simp))
    clear hrow hb hbox hkw hlen hspl hys
    generalize listT O ys = T at *
    by_cases hn : T = []
    · have HN := Lib.hid (show oWT O = [45] from by rw [HTA.out, if_pos hn])
      have t1 : T.length = 0 := by rw [hn]; rfl
      have c2 : W.cell? ⟨w.heap.size + 1, 0, none⟩ = some (.slice a9 0 c9) := by rw [c1, t1]
      clear hn HTA c1
      gi_wp2
      refine ⟨by simp, .inl ⟨_, _, rfl, run_takeDeferred hKD, ?_⟩⟩
      exact ⟨_, results_tmp rfl _ _ _, by rw [HN.out]; rfl, HKD2.out.putObj _ _ (by have := HK2.out.size; omega)⟩
    · have HN := Lib.hid (show oWT O = spT T from by rw [HTA.out, if_neg hn])
      have t1 : ((T.length : Int) == 0) = false := by
        have : 0 < T.length := List.length_pos_iff.2 hn
        simp; omega
      clear hn HTA
      gi_wp2_with fail
      refine ⟨trivial, (callsIn_wide.2 HJN.out).mono ?_⟩
      rintro e W2 ⟨rfl, hk2⟩
      have hKD2 := HKD3.out W2 hk2
      gi_wp2
      refine ⟨by simp, .inl ⟨_, _, rfl, run_takeDeferred hKD2, ?_⟩⟩
      exact ⟨_, results_tmp rfl _ _ _, by rw [HN.out]; rfl, (HKD2.out.trans hk2 (FSub.refl _ _)).putObj _ _ (by have := HK2.out.size; omega)⟩
  case stop =>
    rintro D c pre W hD hpre h hKD
    exact h.elim
end Go.Proofs.YtbnhcggjcdipeaaGreatDoor
/-
  All that the program's worlds must tell.
-/
namespace Go.Proofs.YtbnhcggjcdipeaaGreatDoor
open Go.RowKit
variable {G : World → Prop}
theorem wdP_of (R : MdProg G) (F : MdSame R) (D : MdDec R) (HI : ∀ (w : World) (v : Int), G w → 0 ≤ v → v < 65536 → Calls Tryz.prog 47 #[.int .i64 v] w fun e w' => e = .returned (.string (bs (dec v))) ∧ Keeps [] w w') : WdProg R where
  new := fun w m hG hm => wdNew_any R w hG hm
  model := fun w st O hG h => wdModel_any R w hG h
  at_ := fun w st O o hG h ho => wdAt_any R w hG h ho
  objects := fun w st O _ h => wdObjects_any R w h
  iter := fun n n0 F B w A O hn hG h hu hb h1 h2 h3 h4 => wdIter_any R n n0 F B w A O hn hG h hu hb h1 h2 h3 h4
  step := fun w st O c x hG h hu hc hx => by
    obtain ⟨A, rfl, hA⟩ := h.cells
    refine (wdStep_post R w hG h hu hc x hx).mono ?_
    rintro e w' ⟨B, rfl, hat, hk, hap⟩
    exact ⟨_, rfl, hat, hk, hap (fun q => q ∈ wFoot R (.agg A.toArray) ∨ w.heap.size ≤ q) (fun q hq => .inl hq) (fun q hq => .inr hq)⟩
  fits := fun w st O c x r hG h hu hc hx _ => wdFits_any R w hG h hu hc hx r
  enc := fun w st O hG h hu => wdEncode_any R w hG h hu
  text := fun w st O hG h hu => wdText_any R HI w hG h hu
  same := fun w st O st2 P hG h h2 hu hv => wdSame_any R F w hG h h2 hu hv
  dec := fun w m b hG hm hb hs => wdDecode_any R D w hG hm hb hs
theorem wdP : WdProg mdP := wdP_of mdP mdP_same mdP_dec (fun w v hG h0 h1 => Itoa13_any w hG v h0 h1)
end Go.Proofs.YtbnhcggjcdipeaaGreatDoor
