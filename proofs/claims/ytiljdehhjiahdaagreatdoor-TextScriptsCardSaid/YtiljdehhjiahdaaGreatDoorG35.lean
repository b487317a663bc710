/-
  The reader's config.
-/
import Derived.Test.YtiljdehhjiahdaaGreatDoorG34
set_option linter.unusedSimpArgs false
set_option linter.unusedVariables false
namespace Go.Proofs.YtiljdehhjiahdaaGreatDoor
open Go.RowKit
set_option maxHeartbeats 8000000 in
set_option maxRecDepth 100000 in
theorem config6_any (w0 w : World) (b r g : Nat) (l : Wds) (x : Ev) (tx rd : Value) (h : Rdt b r g w0 w l x tx rd) :
    Calls Tryz.prog 38 #[.pointer (some ⟨r, 0, none⟩), .pointer (some ⟨b, 0, none⟩)] w (Fills b r g w0 ((rdCfg l).map fun p => ({ x with g := p.1 }, p.2)) tx rd) := by
  obtain ⟨O, hO⟩ : ∃ O, ((rdCfg l).map fun p => (({ x with g := p.1 } : Ev), p.2)) = O := ⟨_, rfl⟩
  rw [hO]
  have HO := Lib.hid hO
  have H := Lib.hid h
  clear h hO
  go_enter Tryz.func38, Tryz.ntmps38
  go_wp2_with fail
  refine (model6_any _ r g l H.out.rdr).mono ?_; intro e w1 hR
  cases e1 : rdModel l with
  | none =>
    rw [e1] at hR
    obtain ⟨rfl, hk⟩ := hR
    obtain rfl : O = none := by rw [← HO.out]; simp [rdCfg, e1]
    unfold PanicE
    clear HO
    go_wp2_with fail
    exact ⟨rfl, rfl, H.out.bad hk⟩
  | some p =>
    obtain ⟨a1, l1⟩ := p
    rw [e1] at hR
    obtain ⟨rfl, hr, hk⟩ := hR
    have E1 := Lib.hid e1
    have R1 := Lib.hid (H.out.reads hr hk)
    clear H hr hk e1
    go_wp2_with ((with_reducible apply wpList_put_cell (T := 5) 12 { x with g := ⟨a1, x.g.mo, x.g.ms, x.g.mt, x.g.p, x.g.cu, x.g.me⟩ } tx rd); exact rfl; exact rfl; exact R1.out.ev; kernel_rfl; exact rfl; exact rfl; exact rfl)
    intro W1 hb hk
    have S1 := Lib.hid (R1.out.puts hb hk)
    clear R1 hb hk
    go_wp2_with fail
    refine (number_any _ r g l1 S1.out.rdr 32 (by decide) (by decide)).mono ?_; intro e w2 hR
    cases e2 : rdNum 32 l1 with
    | none =>
      rw [e2] at hR
      obtain ⟨rfl, hk⟩ := hR
      obtain rfl : O = none := by rw [← HO.out]; simp [rdCfg, E1.out, e2]
      unfold PanicE
      clear HO
      go_wp2_with fail
      exact ⟨rfl, rfl, S1.out.bad hk⟩
    | some p =>
      obtain ⟨a2, l2⟩ := p
      rw [e2] at hR
      obtain ⟨rfl, hr, hk⟩ := hR
      have E2 := Lib.hid e2
      have R2 := Lib.hid (S1.out.reads hr hk)
      clear S1 hr hk e2
      go_wp2_with ((with_reducible apply wpList_put_cell (T := 3) 13 { x with g := ⟨a1, a2, x.g.ms, x.g.mt, x.g.p, x.g.cu, x.g.me⟩ } tx rd); exact rfl; exact rfl; exact R2.out.ev; kernel_rfl; exact rfl; exact rfl; exact rfl)
      intro W2 hb hk
      have S2 := Lib.hid (R2.out.puts hb hk)
      clear R2 hb hk
      go_wp2_with fail
      refine (number_any _ r g l2 S2.out.rdr 4096 (by decide) (by decide)).mono ?_; intro e w3 hR
      cases e3 : rdNum 4096 l2 with
      | none =>
        rw [e3] at hR
        obtain ⟨rfl, hk⟩ := hR
        obtain rfl : O = none := by rw [← HO.out]; simp [rdCfg, E1.out, E2.out, e3]
        unfold PanicE
        clear HO
        go_wp2_with fail
        exact ⟨rfl, rfl, S2.out.bad hk⟩
      | some p =>
        obtain ⟨a3, l3⟩ := p
        rw [e3] at hR
        obtain ⟨rfl, hr, hk⟩ := hR
        have E3 := Lib.hid e3
        have R3 := Lib.hid (S2.out.reads hr hk)
        clear S2 hr hk e3
        go_wp2_with ((with_reducible apply wpList_put_cell (T := 3) 14 { x with g := ⟨a1, a2, a3, x.g.mt, x.g.p, x.g.cu, x.g.me⟩ } tx rd); exact rfl; exact rfl; exact R3.out.ev; kernel_rfl; exact rfl; exact rfl; exact rfl)
        intro W3 hb hk
        have S3 := Lib.hid (R3.out.puts hb hk)
        clear R3 hb hk
        go_wp2_with fail
        refine (number_any _ r g l3 S3.out.rdr 1048576 (by decide) (by decide)).mono ?_; intro e w4 hR
        cases e4 : rdNum 1048576 l3 with
        | none =>
          rw [e4] at hR
          obtain ⟨rfl, hk⟩ := hR
          obtain rfl : O = none := by rw [← HO.out]; simp [rdCfg, E1.out, E2.out, E3.out, e4]
          unfold PanicE
          clear HO
          go_wp2_with fail
          exact ⟨rfl, rfl, S3.out.bad hk⟩
        | some p =>
          obtain ⟨a4, l4⟩ := p
          rw [e4] at hR
          obtain ⟨rfl, hr, hk⟩ := hR
          have E4 := Lib.hid e4
          have R4 := Lib.hid (S3.out.reads hr hk)
          clear S3 hr hk e4
          go_wp2_with ((with_reducible apply wpList_put_cell (T := 3) 15 { x with g := ⟨a1, a2, a3, a4, x.g.p, x.g.cu, x.g.me⟩ } tx rd); exact rfl; exact rfl; exact R4.out.ev; kernel_rfl; exact rfl; exact rfl; exact rfl)
          intro W4 hb hk
          have S4 := Lib.hid (R4.out.puts hb hk)
          clear R4 hb hk
          go_wp2_with fail
          refine (has_any _ r g l4 S4.out.rdr partL _ rfl).mono ?_; rintro e w5 ⟨rfl, hr, hk⟩
          have R5 := Lib.hid (S4.out.reads hr hk)
          clear S4 hr hk
          go_wp2_with ((with_reducible apply wpList_put_cell (T := 4) 16 { x with g := ⟨a1, a2, a3, a4, (rdHas partL l4), x.g.cu, x.g.me⟩ } tx rd); exact rfl; exact rfl; exact R5.out.ev; kernel_rfl; exact rfl; exact rfl; exact rfl)
          intro W5 hb hk
          have S5 := Lib.hid (R5.out.puts hb hk)
          clear R5 hb hk
          go_wp2_with fail
          refine (has_any _ r g (rdLeft partL l4) S5.out.rdr cutL _ rfl).mono ?_; rintro e w6 ⟨rfl, hr, hk⟩
          have R6 := Lib.hid (S5.out.reads hr hk)
          clear S5 hr hk
          go_wp2_with ((with_reducible apply wpList_put_cell (T := 4) 17 { x with g := ⟨a1, a2, a3, a4, (rdHas partL l4), (rdHas cutL (rdLeft partL l4)), x.g.me⟩ } tx rd); exact rfl; exact rfl; exact R6.out.ev; kernel_rfl; exact rfl; exact rfl; exact rfl)
          intro W6 hb hk
          have S6 := Lib.hid (R6.out.puts hb hk)
          clear R6 hb hk
          go_wp2_with fail
          refine (has_any _ r g (rdLeft cutL (rdLeft partL l4)) S6.out.rdr memoL _ rfl).mono ?_; rintro e w7 ⟨rfl, hr, hk⟩
          have R7 := Lib.hid (S6.out.reads hr hk)
          clear S6 hr hk
          go_wp2_with ((with_reducible apply wpList_put_cell (T := 4) 18 { x with g := ⟨a1, a2, a3, a4, (rdHas partL l4), (rdHas cutL (rdLeft partL l4)), (rdHas memoL (rdLeft cutL (rdLeft partL l4)))⟩ } tx rd); exact rfl; exact rfl; exact R7.out.ev; kernel_rfl; exact rfl; exact rfl; exact rfl)
          intro W7 hb hk
          have S7 := Lib.hid (R7.out.puts hb hk)
          clear R7 hb hk
          go_wp2_with fail
          go_end0
          obtain rfl : O = some ({ x with g := ⟨a1, a2, a3, a4, (rdHas partL l4), (rdHas cutL (rdLeft partL l4)), (rdHas memoL (rdLeft cutL (rdLeft partL l4)))⟩ }, (rdLeft memoL (rdLeft cutL (rdLeft partL l4)))) := by rw [← HO.out]; simp [rdCfg, rdFlags, E1.out, E2.out, E3.out, E4.out]
          exact ⟨rfl, S7.out⟩
end Go.Proofs.YtiljdehhjiahdaaGreatDoor
