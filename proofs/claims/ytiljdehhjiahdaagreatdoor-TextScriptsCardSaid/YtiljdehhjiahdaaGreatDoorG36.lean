/-
  The reader's micro.
-/
import Derived.Test.YtiljdehhjiahdaaGreatDoorG35
set_option linter.unusedSimpArgs false
set_option linter.unusedVariables false
namespace Go.Proofs.YtiljdehhjiahdaaGreatDoor
open Go.RowKit
def Mic.val (m : Mic) : Value := .agg #[.bool m.rd, .int .u8 m.key, .int .u16 m.v]
theorem RdAt.fresh {w w1 w2 : World} {r g n : Nat} {l : Wds} (h : RdAt w r g l) (hk : Keeps [] w w1) (hk2 : Keeps [n] w1 w2) (hn : w.heap.size ≤ n) : RdAt w2 r g l :=
  h.new (hk.trans hk2 (fun g hg => .inr (by simp at hg; omega)))
set_option maxHeartbeats 8000000 in
set_option maxRecDepth 100000 in
theorem micro6_any (w : World) (r g : Nat) (l : Wds) (h : RdAt w r g l) : Calls Tryz.prog 66 #[.pointer (some ⟨r, 0, none⟩)] w (Reads r g w (rdMic l) Mic.val) := by
  obtain ⟨O, hO⟩ : ∃ O, rdMic l = O := ⟨_, rfl⟩
  rw [hO]
  have HO := Lib.hid hO
  have hk0 := (Keeps.refl [] w).alloc (.cells #[.bool false, .int .u8 0, .int .u16 0] 56)
  have hB0 := heap_alloc_new w (.cells #[.bool false, .int .u8 0, .int .u16 0] 56)
  have H0 := Lib.hid (h.new hk0)
  have HB := Lib.hid hB0; have HK := Lib.hid (hk0.more (G := [r]) (by simp))
  have hrl := h.lt
  have HS := Lib.hid h
  have HN : w.heap.size ∉ [r] := by simp; omega
  clear h hO hk0 hB0
  go_enter Tryz.func66, Tryz.ntmps66
  go_wp2_with fail
  refine (has_any _ r g l H0.out readL _ rfl).mono ?_; rintro e w1 ⟨rfl, hr, hk⟩
  have H1 := Lib.hid hr
  have B1 := Lib.hid (hk.heap HB.out HN)
  have K1 := Lib.hid (HK.out.step hk (by simp))
  clear H0 HB HK hr hk
  cases hq : rdHas readL l with
  | true =>
    have hL : rdLeft readL l = l.tail := by unfold rdLeft; rw [if_pos hq]
    rw [hL] at H1
    have HQ := Lib.hid hq
    clear hq hL
    go_wp2_with fail
    refine (number_any _ r g _ H1.out 7 (by decide) (by decide)).mono ?_; intro e w2 hR
    cases e2 : rdNum 7 l.tail with
    | none =>
      rw [e2] at hR
      obtain ⟨rfl, hk⟩ := hR
      obtain rfl : O = none := by rw [← HO.out]; simp [rdMic, HQ.out, e2]
      unfold PanicE
      clear HO
      go_wp2_with fail
      exact ⟨rfl, rfl, K1.out.step hk (by simp)⟩
    | some p =>
      obtain ⟨k, l2⟩ := p
      rw [e2] at hR
      obtain ⟨rfl, hr, hk⟩ := hR
      have cb := (rdNum_ok e2).2
      have wc := wrap8 cb.1 (by omega)
      obtain rfl : O = some (⟨true, k, 0⟩, l2) := by rw [← HO.out]; simp [rdMic, HQ.out, e2]
      have H2 := Lib.hid hr
      have B2 := Lib.hid (hk.heap B1.out HN)
      have K2 := Lib.hid (K1.out.step hk (by simp))
      clear H1 B1 K1 hr hk HO e2 cb
      go_wp2_with ((with_reducible apply wpList_put_row (T := 56) 3); exact rfl; exact rfl; exact B2.out; exact ⟨rfl, rfl⟩; kernel_rfl; exact rfl)
      intro W hb hk
      have K3 := Lib.hid (K2.out.trans hk (fun g hg => .inr (by simp at hg; omega)))
      have H3 := Lib.hid (HS.out.off H2.out hk (by simp))
      clear H2 K2 B2
      go_wp2_with fail
      exact bodyPost_ret (results_cell_row (P := Tryz.prog) rfl _ _ _ _ _ _ _ rfl hb Tryz.underlying56 rfl (by kernel_rfl)) rfl ⟨rfl, H3.out, K3.out⟩
  | false =>
    have hL : rdLeft readL l = l := by unfold rdLeft; rw [if_neg (by simp [hq])]
    rw [hL] at H1
    have HQ := Lib.hid hq
    clear hq hL
    go_wp2_with fail
    refine (has_any _ r g l H1.out appendL _ rfl).mono ?_; rintro e w2 ⟨rfl, hr, hk⟩
    have H2 := Lib.hid hr
    have B2 := Lib.hid (hk.heap B1.out HN)
    have K2 := Lib.hid (K1.out.step hk (by simp))
    clear H1 B1 K1 hr hk
    cases hq2 : rdHas appendL l with
    | false =>
      obtain rfl : O = none := by rw [← HO.out]; simp [rdMic, HQ.out, hq2]
      clear HO
      go_wp2_with fail
      refine (need_no _).mono ?_; rintro e w3 ⟨rfl, rfl⟩
      unfold PanicE
      go_wp2_with fail
      exact ⟨rfl, rfl, K2.out⟩
    | true =>
      have hL : rdLeft appendL l = l.tail := by unfold rdLeft; rw [if_pos hq2]
      rw [hL] at H2
      have HQ2 := Lib.hid hq2
      clear hq2 hL
      go_wp2_with fail
      refine (need_yes _).mono ?_; rintro e w3 ⟨rfl, rfl⟩
      go_wp2_with fail
      refine (number_any _ r g _ H2.out 7 (by decide) (by decide)).mono ?_; intro e w4 hR
      cases e4 : rdNum 7 l.tail with
      | none =>
        rw [e4] at hR
        obtain ⟨rfl, hk⟩ := hR
        obtain rfl : O = none := by rw [← HO.out]; simp [rdMic, HQ.out, HQ2.out, e4]
        unfold PanicE
        clear HO
        go_wp2_with fail
        exact ⟨rfl, rfl, K2.out.step hk (by simp)⟩
      | some p =>
        obtain ⟨k, l4⟩ := p
        rw [e4] at hR
        obtain ⟨rfl, hr, hk⟩ := hR
        have cb := (rdNum_ok e4).2
        have wc := wrap8 cb.1 (by omega)
        have E4 := Lib.hid e4
        have H4 := Lib.hid hr
        have B4 := Lib.hid (hk.heap B2.out HN)
        have K4 := Lib.hid (K2.out.step hk (by simp))
        clear H2 B2 K2 hr hk cb e4
        go_wp2_with fail
        refine (number_any _ r g _ H4.out 65535 (by decide) (by decide)).mono ?_; intro e w5 hR
        cases e5 : rdNum 65535 l4 with
        | none =>
          rw [e5] at hR
          obtain ⟨rfl, hk⟩ := hR
          obtain rfl : O = none := by rw [← HO.out]; simp [rdMic, HQ.out, HQ2.out, E4.out, e5]
          unfold PanicE
          clear HO
          go_wp2_with fail
          exact ⟨rfl, rfl, K4.out.step hk (by simp)⟩
        | some p =>
          obtain ⟨v, l5⟩ := p
          rw [e5] at hR
          obtain ⟨rfl, hr, hk⟩ := hR
          have vb := (rdNum_ok e5).2
          have wv := wrap16 vb.1 (by omega)
          obtain rfl : O = some (⟨false, k, v⟩, l5) := by rw [← HO.out]; simp [rdMic, HQ.out, HQ2.out, E4.out, e5]
          have H5 := Lib.hid hr
          have B5 := Lib.hid (hk.heap B4.out HN)
          have K5 := Lib.hid (K4.out.step hk (by simp))
          clear H4 B4 K4 hr hk vb e5 HO E4
          go_wp2_with ((with_reducible apply wpList_put_row (T := 56) 3); exact rfl; exact rfl; exact B5.out; exact ⟨rfl, rfl⟩; kernel_rfl; exact rfl)
          intro W hb hk
          have K6 := Lib.hid (K5.out.trans hk (fun g hg => .inr (by simp at hg; omega)))
          have H6 := Lib.hid (HS.out.off H5.out hk (by simp))
          clear H5 K5 B5
          go_wp2_with fail
          exact bodyPost_ret (results_cell_row (P := Tryz.prog) rfl _ _ _ _ _ _ _ rfl hb Tryz.underlying56 rfl (by kernel_rfl)) rfl ⟨rfl, H6.out, K6.out⟩
end Go.Proofs.YtiljdehhjiahdaaGreatDoor
