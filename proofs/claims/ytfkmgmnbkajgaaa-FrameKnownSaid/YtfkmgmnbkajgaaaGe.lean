/-
  FrameKnown: the walk.
-/
import Derived.Test.YtfkmgmnbkajgaaaFk
import Derived.Test.YtfkmgmnbkajgaaaGd
namespace Go.Proofs.Ytfkmgmnbkajgaaa
open Go.RowKit
theorem Keeps.of_below {w w' : World} (h : Below w.heap.size w w') : Keeps [] w w' := ⟨h.os, h.tape, h.output, h.size, fun k hk _ => h.block k hk⟩
/-- So many letters x. -/
def xs (n : Nat) : ByteArray := ⟨(Lib.repeatL [120] n).toArray⟩
theorem xs_size (n : Nat) (k : Nat) (h : (Lib.repeatL ([120] : List UInt8) n).length = k) : (xs n).size = k := h
theorem Repeat_x (w : World) (n : Nat) (hn : n ≤ 1000) : Calls Try.prog 21 #[.string ⟨#[120]⟩, .int .i64 n] w fun e w' => e = .returned (.string (xs n)) ∧ Keeps [] w w' :=
  (Try.strings_Repeat ⟨#[120]⟩ n w (by omega) (by show 1 * n ≤ _; omega)).mono fun e w' ⟨he, hb⟩ => ⟨he, Keeps.of_below hb⟩
theorem Sum_lit (w : World) (s : ByteArray) (hs : s.size ≤ 1000) (n : Int) (h : (sumN s.data.toList : Int) = n) : Calls Try.prog 12 #[.string s] w fun e w' => e = .returned (.int .u16 n) ∧ w = w' := by
  subst h; exact Sum_any w s (by unfold maxLen; omega)
theorem Put_lit (w : World) (s t : ByteArray) (h0 : 0 < s.size) (h6 : s.size ≤ 600) (h : bs (frameL s.data.toList) = t) : Calls Try.prog 10 #[.string s] w fun e w' => e = .returned (.tuple #[.string t, .int .i64 0]) ∧ Keeps [] w w' := by
  subst h; exact Put_ok w s h0 h6
set_option maxHeartbeats 4000000 in
set_option maxRecDepth 100000 in
theorem known_true (w : World) : Calls Try.prog 8 #[] w fun e w' => e = .returned (.bool true) ∧ Keeps [] w w' := by
  have h601 : (xs 601).size = 601 := xs_size _ _ (by decide +kernel)
  have h600 : (xs 600).size = 600 := xs_size _ _ (by decide +kernel)
  have HG := Lib.hid h601
  have HH := Lib.hid h600
  clear h601 h600
  go_enter Try.func8, Try.ntmps8
  go_wp2_with fail
  refine (Put_lit w ⟨#[97]⟩ ⟨#[0, 1, 255, 254, 97, 97, 97]⟩ (by decide) (by decide) (congrArg bs (show frameL [97] = [0, 1, 255, 254, 97, 97, 97] by decide +kernel))).mono ?_; rintro e w1 ⟨rfl, hk1⟩
  go_wp2_with fail
  refine (Put_none w1 ⟨#[]⟩ rfl).mono ?_; rintro e w2 ⟨rfl, rfl⟩
  go_wp2_with fail
  refine (Repeat_x w1 601 (by omega)).mono ?_; rintro e w2 ⟨rfl, hk2⟩
  go_wp2_with fail
  refine (Put_long w2 (xs 601) (by rw [HG.out]; omega) (by rw [HG.out]; unfold maxLen; omega)).mono ?_; rintro e w3 ⟨rfl, rfl⟩
  go_wp2_with fail
  refine (Repeat_x w2 600 (by omega)).mono ?_; rintro e w3 ⟨rfl, hk3⟩
  go_wp2_with fail
  obtain ⟨U, hU⟩ : ∃ U, bs (frameL (xs 600).data.toList) = U := ⟨_, rfl⟩
  have hU6 : (U.size : Int) = 606 := by
    rw [← hU, bs_size, frameL_length]
    have : (xs 600).data.toList.length = (xs 600).size := by simp
    rw [this, HH.out]; rfl
  refine (Put_lit w3 (xs 600) U (by rw [HH.out]; omega) (by rw [HH.out]; omega) hU).mono ?_; rintro e w4 ⟨rfl, hk4⟩
  have HK4 := Lib.hid (((hk1.step hk2 (fun _ h => h)).step hk3 (fun _ h => h)).step hk4 (fun _ h => h))
  have HU6 := Lib.hid hU6
  clear hk1 hk2 hk3 hk4 HG HH hU hU6
  go_wp2_with fail
  refine (works_true w4).mono ?_; rintro e w5 ⟨rfl, hk5⟩
  go_wp2_with fail
  refine (Sum_lit w5 ⟨#[]⟩ (by decide) 0 (by decide +kernel)).mono ?_; rintro e w6 ⟨rfl, rfl⟩
  go_wp2_with fail
  refine (Sum_lit w5 ⟨#[97, 98, 99, 100, 101]⟩ (by decide) 51440 (by decide +kernel)).mono ?_; rintro e w6 ⟨rfl, rfl⟩
  go_wp2_with fail
  refine (Sum_lit w5 ⟨#[97, 98, 99, 100, 101, 102]⟩ (by decide) 8279 (by decide +kernel)).mono ?_; rintro e w6 ⟨rfl, rfl⟩
  go_wp2_with fail
  refine (Sum_lit w5 ⟨#[97, 98, 99, 100, 101, 102, 103, 104]⟩ (by decide) 1575 (by decide +kernel)).mono ?_; rintro e w6 ⟨rfl, rfl⟩
  have hU7 := HU6.out
  go_wp2_with fail
  refine (bad_yes w5 ⟨#[0, 1, 255, 255]⟩ (by decide) (by decide +kernel)).mono ?_; rintro e w6 ⟨rfl, hk6⟩
  go_wp2_with fail
  refine (bad_yes w6 ⟨#[0, 1, 255, 254, 97, 97, 98]⟩ (by decide) (by decide +kernel)).mono ?_; rintro e w7 ⟨rfl, hk7⟩
  go_wp2_with fail
  refine (bad_yes w7 ⟨#[2, 89, 253, 166]⟩ (by decide) (by decide +kernel)).mono ?_; rintro e w8 ⟨rfl, hk8⟩
  have HK8 := Lib.hid ((((HK4.out.step hk5 (fun _ h => h)).step hk6 (fun _ h => h)).step hk7 (fun _ h => h)).step hk8 (fun _ h => h))
  clear hk5 hk6 hk7 hk8 hU7 HU6 HK4
  go_wp2_with fail
  refine (New_any w8).mono ?_; rintro e w9 ⟨rfl, hw⟩
  have hc := cat_new w8
  have hk := lone_new w8
  rw [← hw] at hc hk
  have hf : FSub [w8.heap.size] [] w8.heap.size := fun g hg => .inr (by simp at hg; omega)
  clear hw
  go_wp2_with fail
  refine (Feed_any w9 _ _ _ _ hc _ (by decide +kernel)).mono ?_; rintro e wa ⟨rfl, Fa, hca, hka, hsa⟩
  obtain ⟨ka, fa⟩ := hk.fresh hf hka hsa
  clear hc hk hf hka hsa
  have e2 : ([] ++ (ByteArray.mk #[0, 1, 255, 254, 97, 97, 97] ++ ByteArray.mk #[0, 1, 255, 254, 97, 97, 97] ++ ByteArray.mk #[0, 0, 0, 0] ++ ByteArray.mk #[0, 1, 255, 254, 97, 97, 97]).data.toList : List UInt8) = [0, 1, 255, 254, 97, 97, 97, 0, 1, 255, 254, 97, 97, 97, 0, 0, 0, 0, 0, 1, 255, 254, 97, 97, 97] := by decide +kernel
  rw [e2] at hca; clear e2
  go_wp2_with fail
  refine (tells_any wa _ Fa _ 0 hca (by decide) ⟨#[97]⟩ 0 1 (congrArg bs (show [97] = _ by decide +kernel)) rfl (by decide +kernel)).mono ?_; rintro e wb ⟨rfl, Fb, hcb, hkb, hsb⟩
  obtain ⟨kb, fb⟩ := ka.fresh fa hkb hsb
  clear hca ka fa hkb hsb
  have e2 : 0 + sizeOf1 (List.drop 0 [0, 1, 255, 254, 97, 97, 97, 0, 1, 255, 254, 97, 97, 97, 0, 0, 0, 0, 0, 1, 255, 254, 97, 97, 97]) = 7 := by decide +kernel
  rw [e2] at hcb; clear e2
  go_wp2_with fail
  refine (tells_any wb _ Fb _ 7 hcb (by decide) ⟨#[97]⟩ 7 1 (congrArg bs (show [97] = _ by decide +kernel)) rfl (by decide +kernel)).mono ?_; rintro e wc ⟨rfl, Fc, hcc, hkc, hsc⟩
  obtain ⟨kc, fc⟩ := kb.fresh fb hkc hsc
  clear hcb kb fb hkc hsc
  have e2 : 7 + sizeOf1 (List.drop 7 [0, 1, 255, 254, 97, 97, 97, 0, 1, 255, 254, 97, 97, 97, 0, 0, 0, 0, 0, 1, 255, 254, 97, 97, 97]) = 14 := by decide +kernel
  rw [e2] at hcc; clear e2
  go_wp2_with fail
  refine (tells_none wc _ Fc _ 14 hcc (by decide) 14 2 rfl (by decide +kernel) (by decide +kernel)).mono ?_; rintro e wd ⟨rfl, Fd, hcd, hkd, hsd⟩
  obtain ⟨kd, fd⟩ := kc.fresh fc hkd hsd
  clear hcc kc fc hkd hsd
  go_wp2_with fail
  refine (tells_none wd _ Fd _ 14 hcd (by decide) 14 2 rfl (by decide +kernel) (by decide +kernel)).mono ?_; rintro e we ⟨rfl, Fe, hce, hke, hse⟩
  obtain ⟨ke, fe⟩ := kd.fresh fd hke hse
  clear hcd kd fd hke hse
  go_wp2_with fail
  refine (Feed_any we _ _ _ _ hce ⟨#[0, 1, 255, 254, 97, 97, 97]⟩ (by decide)).mono ?_; rintro e wf ⟨rfl, Ff, hcf, hkf, hsf⟩
  obtain ⟨kf, ff⟩ := ke.fresh fe hkf hsf
  clear hce ke fe hkf hsf
  have e2 : ([0, 1, 255, 254, 97, 97, 97, 0, 1, 255, 254, 97, 97, 97, 0, 0, 0, 0, 0, 1, 255, 254, 97, 97, 97] ++ (ByteArray.mk #[0, 1, 255, 254, 97, 97, 97]).data.toList : List UInt8) = [0, 1, 255, 254, 97, 97, 97, 0, 1, 255, 254, 97, 97, 97, 0, 0, 0, 0, 0, 1, 255, 254, 97, 97, 97, 0, 1, 255, 254, 97, 97, 97] := by decide +kernel
  rw [e2] at hcf; clear e2
  have HCF := Lib.hid hcf
  have HKF := Lib.hid kf
  have HFF := Lib.hid ff
  clear hcf kf ff
  go_wp2_with fail
  have hZ : (wf.alloc (.cells #[.slice none 0 0, .int .i64 0, .pointer none, .int .i64 0, .int .i64 0, .bool false, .bool false] 56)).heap[wf.heap.size]? = some (CC (.slice none 0 0) (.int .i64 0) (.pointer none) (.int .i64 0) (.int .i64 0) (.bool false) (.bool false)) := heap_alloc_new _ _
  have hcg := HCF.out.keeps ((Keeps.refl [] wf).alloc (.cells #[.slice none 0 0, .int .i64 0, .pointer none, .int .i64 0, .int .i64 0, .bool false, .bool false] 56)) (by simp)
  have hkg := HKF.out.alloc (.cells #[.slice none 0 0, .int .i64 0, .pointer none, .int .i64 0, .int .i64 0, .bool false, .bool false] 56)
  have hnz : wf.heap.size ∉ Ff := fun hg => by have := HCF.out.lt _ hg; omega
  have HZ := Lib.hid hZ
  have HCG := Lib.hid hcg
  have HKG := Lib.hid hkg
  clear hZ hcg hkg HCF HKF
  generalize wf.alloc (.cells #[.slice none 0 0, .int .i64 0, .pointer none, .int .i64 0, .int .i64 0, .bool false, .bool false] 56) = wg at *
  generalize wf.heap.size = zb at *
  refine (Feed_nil wg _).mono ?_; rintro e wh ⟨rfl, rfl⟩
  go_wp2_with fail
  refine (Feed_zero wg zb _ (cell7 HZ.out).2.2.2.2.2.1).mono ?_; rintro e wh ⟨rfl, rfl⟩
  go_wp2_with fail
  refine (tells_none wg _ Ff _ 14 HCG.out (by decide) 14 2 rfl (by decide +kernel) (by decide +kernel)).mono ?_; rintro e wh ⟨rfl, Fh, hch, hkh, hsh⟩
  obtain ⟨kh, _⟩ := HKG.out.fresh HFF.out hkh hsh
  have HZ2 := Lib.hid (hkh.heap HZ.out hnz)
  have HKH := Lib.hid kh
  have HFD := Lib.hid (Fed_any wh _ Fh _ 14 hch)
  clear hch hkh hsh kh HCG HKG HZ
  go_wp2_with fail
  refine HFD.out.mono ?_; rintro e wi ⟨rfl, rfl⟩
  go_wp2_with fail
  refine (tells_of wh (.pointer none) ⟨#[]⟩ 0 2 (fun w' => wh = w') (Next_nil wh)).mono ?_; rintro e wi ⟨rfl, rfl⟩
  go_wp2_with fail
  refine (tells_of wh (.pointer (some ⟨zb, 0, none⟩)) ⟨#[]⟩ 0 2 (fun w' => wh = w') (Next_zero wh zb (cell7 HZ2.out).2.2.2.2.1 (cell7 HZ2.out).2.2.2.2.2.1)).mono ?_; rintro e wi ⟨rfl, rfl⟩
  go_wp2_with fail
  refine (Fed_nil wh).mono ?_; rintro e wi ⟨rfl, rfl⟩
  go_wp2_with fail
  refine (Fed_zero wh zb (cell7 HZ2.out).2.2.2.1).mono ?_; rintro e wi ⟨rfl, rfl⟩
  go_wp2_with fail
  refine (works_true wh).mono ?_; rintro e wi ⟨rfl, hki⟩
  go_wp2
  go_ret
  exact ⟨rfl, (HK8.out.step HKH.out (fun _ h => h)).step hki (by simp)⟩
end Go.Proofs.Ytfkmgmnbkajgaaa
