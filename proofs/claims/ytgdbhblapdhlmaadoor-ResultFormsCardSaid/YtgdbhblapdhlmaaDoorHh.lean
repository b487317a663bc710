/-
  The document's Parse, walked.
-/
import Derived.Test.YtgdbhblapdhlmaaDoorHg
namespace Go.Proofs.YtgdbhblapdhlmaaDoor
open Go.RowKit
theorem beq_lit {L l : List UInt8} {s : ByteArray} (hs : s.data.toList = l) (b : Bool) (h : decide (L = l) = b) : (L == s.toList) = b := by
  rw [toL_of, hs, ← h]
  by_cases e : L = l
  · subst e; simp
  · simp only [e, decide_false]; exact beq_eq_false_iff_ne.2 e
theorem bne_lit {L l : List UInt8} {s : ByteArray} (hs : s.data.toList = l) (b : Bool) (h : decide (L = l) = !b) : (L != s.toList) = b := by
  rw [bne, beq_lit hs (!b) h]; simp
theorem byte_getD (s : ByteArray) (k : Nat) (h : k < s.size) : s[k]'h = s.data.toList.getD k 0 := by
  rw [List.getD, List.getElem?_eq_getElem (by simpa using h)]; rfl
theorem too_short {l : List UInt8} (h : l.length < 7) (v : Nat) : valueL ++ Lib.decDigits v ≠ l := by
  intro e
  have h3 := congrArg List.length e
  have h2 := List.length_pos_iff.2 (dec_ne v)
  rw [List.length_append] at h3
  simp [valueL] at h3
  omega
set_option maxHeartbeats 4000000 in
set_option maxRecDepth 100000 in
theorem r3Parse_any (w : World) (s : ByteArray) (hs : s.size ≤ 300) :
    Calls Tryd.prog 15 #[.string s] w fun e w' => e = .returned (.tuple #[.agg #[.int .u8 (psK s.data.toList), .int .u16 (psV s.data.toList)], .int .i64 (psE s.data.toList)]) ∧ Keeps [] w w' := by
  generalize hl : s.data.toList = l at *
  have hsz : s.size = l.length := by rw [← hl]; simp
  have HL := Lib.hid hl; clear hl
  generalize hpk : psK l = PK at *
  generalize hpv : psV l = PV at *
  generalize hpe : psE l = PE at *
  have HPK := Lib.hid hpk; have HPV := Lib.hid hpv; have HPE := Lib.hid hpe; clear hpk hpv hpe
  go_enter Tryd.func15, Tryd.ntmps15
  go_wp2_with fail
  go_loopw [4] (fun i wr => ∃ k : Nat, k ≤ 5 ∧ i = .int .i64 k ∧ (∀ j : Nat, j < k → rsTxt j 0 ≠ l) ∧ wr.heap[w.heap.size]? = some (.cells #[.int .u8 0, .int .u16 0] 24 (0, 0)) ∧ Keeps [] w wr) (fun i _ => 5 - (intOf i).toNat)
  case atStart => exact ⟨0, by omega, rfl, fun j hj => by omega, heap_alloc_new w _, (Keeps.refl _ _).alloc _⟩
  case round =>
    obtain ⟨k, hk, rfl, hne, hb, hkp⟩ := hrel
    have HNE := Lib.hid hne; clear hne
    have hltb := lt_of_block hb
    by_cases hlt : k < 5
    · have ht := fun w => r3Text_any w k 0 (by omega) (by omega) (by omega) (by omega)
      rw [if_pos (good_word k hlt), rsErr_good (good_word k hlt)] at ht
      have hk' := hkp.alloc (.cells #[.int .u8 k, .int .u16 0] 24)
      by_cases hx : rsTxt k 0 = l
      · obtain ⟨e1, e2, e3⟩ := ps_word k hlt hx
        obtain rfl := HPK.out.symm.trans e1
        obtain rfl := HPV.out.symm.trans e2
        obtain rfl := HPE.out.symm.trans e3
        clear e1 e2 e3 HPK HPV HPE
        have t1 : ((bs (rsTxt k 0)).toList == s.toList) = true := by rw [toL_bs]; exact beq_lit HL.out true (by simp [hx])
        generalize bs (rsTxt k 0) = SX at *
        clear hx
        go_wp2_with fail
        refine (ht _).mono ?_; rintro e w2 ⟨rfl, hk2⟩
        have hb2 := hk2.heap (heap_alloc_lt hb) (by simp)
        have hd2 := boxed2 hk2
        replace hk2 := hk'.trans hk2 (FSub.refl _ _)
        obtain ⟨c0, c1, hlt2⟩ := cell2 hb2
        obtain ⟨d0, d1, hlt3⟩ := cell2 hd2
        have f0 : w2.frozen? ⟨w.heap.size, 0, none⟩ = false := by simp [World.frozen?, hb2]
        have f1 : w2.frozen? ⟨w.heap.size, 1, none⟩ = false := by simp [World.frozen?, hb2]
        have hr := put2 hb2 (.int .u8 k) (.int .u16 0)
        clear hb hkp hk' hb2 hd2
        go_wp2_with fail
        try simp only [Exit.inBlock, Exit.then]
        exact bodyPost_ret (results_row2 rfl _ _ _ rfl hr) rfl ⟨rfl, ((hk2.setCell _ _ (.inr (Nat.le_refl _))).setCell _ _ (.inr (Nat.le_refl _)))⟩
      · have t1 : ((bs (rsTxt k 0)).toList == s.toList) = false := by rw [toL_bs]; exact beq_lit HL.out false (by simp [hx])
        have HX := Lib.hid hx; clear hx
        generalize bs (rsTxt k 0) = SX at *
        go_wp2_with fail
        refine (ht _).mono ?_; rintro e w2 ⟨rfl, hk2⟩
        have hb2 := hk2.heap (heap_alloc_lt hb) (by simp)
        replace hk2 := hk'.trans hk2 (FSub.refl _ _)
        go_wp2_with fail
        go_roundw
        case rel => exact ⟨k + 1, by omega, by go_num, fun j hj => by rcases (by omega : j < k ∨ j = k) with h | rfl; exact HNE.out j h; exact HX.out, hb2, hk2⟩
        case measure => simp [intOf]; omega
    · obtain rfl : k = 5 := by omega
      obtain ⟨c0, c1, hlt2⟩ := cell2 hb
      have f0 : wr.frozen? ⟨w.heap.size, 0, none⟩ = false := by simp [World.frozen?, hb]
      have f1 : wr.frozen? ⟨w.heap.size, 1, none⟩ = false := by simp [World.frozen?, hb]
      by_cases h7 : l.length < 7
      · obtain ⟨e1, e2, e3⟩ := ps_no HNE.out (fun v _ => too_short h7 v)
        obtain rfl := HPK.out.symm.trans e1
        obtain rfl := HPV.out.symm.trans e2
        obtain rfl := HPE.out.symm.trans e3
        clear e1 e2 e3 HPK HPV HPE
        have hr := put2 hb (.int .u8 0) (.int .u16 0)
        have z7 : (s.size : Int) < 7 := by omega
        clear hb
        go_wp2_with fail
        try simp only [Exit.inBlock, Exit.then]
        exact bodyPost_ret (results_row2 rfl _ _ _ rfl hr) rfl ⟨rfl, ((hkp.setCell _ _ (.inr (Nat.le_refl _))).setCell _ _ (.inr (Nat.le_refl _)))⟩
      · by_cases h11 : 11 < l.length
        · obtain ⟨e1, e2, e3⟩ := ps_no HNE.out (fun v hv e => by have h2 := dec_length_le 4 v (by omega); have h3 := congrArg List.length e; rw [List.length_append] at h3; simp [valueL] at h3; omega)
          obtain rfl := HPK.out.symm.trans e1
          obtain rfl := HPV.out.symm.trans e2
          obtain rfl := HPE.out.symm.trans e3
          clear e1 e2 e3 HPK HPV HPE
          have hr := put2 hb (.int .u8 0) (.int .u16 0)
          have z7 : ¬ (s.size : Int) < 7 := by omega
          have z11 : 11 < (s.size : Int) := by omega
          clear hb
          go_wp2_with fail
          try simp only [Exit.inBlock, Exit.then]
          exact bodyPost_ret (results_row2 rfl _ _ _ rfl hr) rfl ⟨rfl, ((hkp.setCell _ _ (.inr (Nat.le_refl _))).setCell _ _ (.inr (Nat.le_refl _)))⟩
        · have z7 : ¬ (s.size : Int) < 7 := by omega
          have z11 : ¬ 11 < (s.size : Int) := by omega
          have z6 : 6 ≤ s.size := by omega
          have hpre : (s.extract 0 6).data.toList = l.take 6 := by rw [piece_list, HL.out]; rfl
          by_cases h6 : l.take 6 = valueL
          · have t1 : ((s.extract 0 6).toList == [118, 97, 108, 117, 101, 32]) = true := by
              rw [toL_of, hpre, h6]; decide
            clear hpre
            go_wp2_with fail
            have HB := Lib.hid hb
            clear c0 c1 f0 f1 hb t1
            go_loopw [8, 9] (fun n i wr2 => ∃ (c k : Nat), n = .int .u32 c ∧ i = .int .i64 k ∧ Digs l k c ∧ wr2 = wr) (fun _ i _ => l.length - (intOf i).toNat)
            case atStart => exact ⟨0, 6, rfl, rfl, ⟨by omega, by omega, by simp, by simp [spells]⟩, rfl⟩
            case round =>
              obtain ⟨n, k, rfl, rfl, hd, rfl⟩ := hrel
              have hn := hd.lt (by omega)
              by_cases hkl : k < l.length
              · have hks : k < s.size := by omega
                have hbyte : ((s[k]'hks).toNat : Int) = ((l.getD k 0).toNat : Int) := by
                  have : s[k]'hks = l.getD k 0 := by rw [byte_getD, HL.out]
                  rw [this]
                by_cases hdig : isDig (l.getD k 0)
                · have hst := hd.step hkl hdig
                  unfold isDig at hdig
                  generalize hC : (l.getD k 0).toNat = C at *
                  clear hC
                  have z1 : ¬ (C : Int) < 48 := by omega
                  have z2 : ¬ 57 < (C : Int) := by omega
                  go_wp2_with fail
                  go_roundw
                  case rel => exact ⟨10 * n + (C - 48), k + 1, by congr 1; omega, by go_num, hst, trivial⟩
                  case measure => simp [intOf]; omega
                · obtain ⟨e1, e2, e3⟩ := ps_no HNE.out (fun v _ => hd.none hkl hdig v)
                  obtain rfl := HPK.out.symm.trans e1
                  obtain rfl := HPV.out.symm.trans e2
                  obtain rfl := HPE.out.symm.trans e3
                  clear e1 e2 e3 HPK HPV HPE
                  obtain ⟨c0, c1, hlt2⟩ := cell2 HB.out
                  have f0 : wr.frozen? ⟨w.heap.size, 0, none⟩ = false := by simp [World.frozen?, HB.out]
                  have f1 : wr.frozen? ⟨w.heap.size, 1, none⟩ = false := by simp [World.frozen?, HB.out]
                  have hr := put2 HB.out (.int .u8 0) (.int .u16 0)
                  unfold isDig at hdig
                  generalize hC : (l.getD k 0).toNat = C at *
                  clear hC HB
                  by_cases z1 : (C : Int) < 48
                  · go_wp2_with fail
                    try simp only [Exit.inBlock, Exit.then]
                    exact bodyPost_ret (results_row2 rfl _ _ _ rfl hr) rfl ⟨rfl, ((hkp.setCell _ _ (.inr (Nat.le_refl _))).setCell _ _ (.inr (Nat.le_refl _)))⟩
                  · have z2 : 57 < (C : Int) := by omega
                    go_wp2_with fail
                    try simp only [Exit.inBlock, Exit.then]
                    exact bodyPost_ret (results_row2 rfl _ _ _ rfl hr) rfl ⟨rfl, ((hkp.setCell _ _ (.inr (Nat.le_refl _))).setCell _ _ (.inr (Nat.le_refl _)))⟩
              · obtain rfl : k = l.length := by have := hd.high; omega
                have z0 : ¬ (l.length : Int) < (s.size : Int) := by omega
                by_cases hbig : 65535 < n
                · obtain ⟨e1, e2, e3⟩ := ps_no HNE.out (fun v hv e => by have := hd.num_of e; omega)
                  obtain rfl := HPK.out.symm.trans e1
                  obtain rfl := HPV.out.symm.trans e2
                  obtain rfl := HPE.out.symm.trans e3
                  clear e1 e2 e3 HPK HPV HPE
                  obtain ⟨c0, c1, hlt2⟩ := cell2 HB.out
                  have f0 : wr.frozen? ⟨w.heap.size, 0, none⟩ = false := by simp [World.frozen?, HB.out]
                  have f1 : wr.frozen? ⟨w.heap.size, 1, none⟩ = false := by simp [World.frozen?, HB.out]
                  have hr := put2 HB.out (.int .u8 0) (.int .u16 0)
                  have z1 : 65535 < (n : Int) := by omega
                  clear HB
                  go_wp2_with fail
                  try simp only [Exit.inBlock, Exit.then]
                  exact bodyPost_ret (results_row2 rfl _ _ _ rfl hr) rfl ⟨rfl, ((hkp.setCell _ _ (.inr (Nat.le_refl _))).setCell _ _ (.inr (Nat.le_refl _)))⟩
                · have z1 : ¬ 65535 < (n : Int) := by omega
                  have hdg := fun w => digits_any w n (by omega)
                  have hsd : (bs (Lib.decDigits n)).size ≤ 5 := dec_length_le 4 n (by omega)
                  have hcat : ((⟨#[118, 97, 108, 117, 101, 32]⟩ : ByteArray) ++ bs (Lib.decDigits n)).toList = valueL ++ Lib.decDigits n := by
                    show (bs [118, 97, 108, 117, 101, 32] ++ bs (Lib.decDigits n)).toList = _
                    rw [bs_app, toL_bs]; rfl
                  by_cases hx : valueL ++ Lib.decDigits n = l
                  · obtain ⟨e1, e2, e3⟩ := ps_value n (by omega) hx
                    obtain rfl := HPK.out.symm.trans e1
                    obtain rfl := HPV.out.symm.trans e2
                    obtain rfl := HPE.out.symm.trans e3
                    clear e1 e2 e3 HPK HPV HPE
                    have t1 : (((⟨#[118, 97, 108, 117, 101, 32]⟩ : ByteArray) ++ bs (Lib.decDigits n)).toList == s.toList) = true := by rw [hcat]; exact beq_lit HL.out true (by simp [hx])
                    clear hcat hx
                    generalize bs (Lib.decDigits n) = SD at *
                    go_wp2_with fail
                    refine (hdg _).mono ?_; rintro e w2 ⟨rfl, hk2⟩
                    have hb2 := hk2.heap HB.out (by simp)
                    replace hkp := hkp.trans hk2 (FSub.refl _ _)
                    obtain ⟨c0, c1, hlt2⟩ := cell2 hb2
                    have f0 : w2.frozen? ⟨w.heap.size, 0, none⟩ = false := by simp [World.frozen?, hb2]
                    have f1 : w2.frozen? ⟨w.heap.size, 1, none⟩ = false := by simp [World.frozen?, hb2]
                    have hr := put2 hb2 (.int .u8 1) (.int .u16 n)
                    clear HB hb2
                    go_wp2_with fail
                    try simp only [Exit.inBlock, Exit.then]
                    exact bodyPost_ret (results_row2 rfl _ _ _ rfl hr) rfl ⟨rfl, ((hkp.setCell _ _ (.inr (Nat.le_refl _))).setCell _ _ (.inr (Nat.le_refl _)))⟩
                  · obtain ⟨e1, e2, e3⟩ := ps_no HNE.out (fun v hv e => hx (by rw [hd.num_of e]; exact e))
                    obtain rfl := HPK.out.symm.trans e1
                    obtain rfl := HPV.out.symm.trans e2
                    obtain rfl := HPE.out.symm.trans e3
                    clear e1 e2 e3 HPK HPV HPE
                    have t1 : (((⟨#[118, 97, 108, 117, 101, 32]⟩ : ByteArray) ++ bs (Lib.decDigits n)).toList == s.toList) = false := by rw [hcat]; exact beq_lit HL.out false (by simp [hx])
                    clear hcat hx
                    generalize bs (Lib.decDigits n) = SD at *
                    go_wp2_with fail
                    refine (hdg _).mono ?_; rintro e w2 ⟨rfl, hk2⟩
                    have hb2 := hk2.heap HB.out (by simp)
                    replace hkp := hkp.trans hk2 (FSub.refl _ _)
                    obtain ⟨c0, c1, hlt2⟩ := cell2 hb2
                    have f0 : w2.frozen? ⟨w.heap.size, 0, none⟩ = false := by simp [World.frozen?, hb2]
                    have f1 : w2.frozen? ⟨w.heap.size, 1, none⟩ = false := by simp [World.frozen?, hb2]
                    have hr := put2 hb2 (.int .u8 0) (.int .u16 0)
                    clear HB hb2
                    go_wp2_with fail
                    try simp only [Exit.inBlock, Exit.then]
                    exact bodyPost_ret (results_row2 rfl _ _ _ rfl hr) rfl ⟨rfl, ((hkp.setCell _ _ (.inr (Nat.le_refl _))).setCell _ _ (.inr (Nat.le_refl _)))⟩
          · obtain ⟨e1, e2, e3⟩ := ps_no HNE.out (fun v _ e => h6 (tail_dec e).2)
            obtain rfl := HPK.out.symm.trans e1
            obtain rfl := HPV.out.symm.trans e2
            obtain rfl := HPE.out.symm.trans e3
            clear e1 e2 e3 HPK HPV HPE
            have t1 : ((s.extract 0 6).toList == [118, 97, 108, 117, 101, 32]) = false := by
              rw [toL_of, hpre]; exact beq_eq_false_iff_ne.2 h6
            have hr := put2 hb (.int .u8 0) (.int .u16 0)
            clear hb hpre h6
            go_wp2_with fail
            try simp only [Exit.inBlock, Exit.then]
            exact bodyPost_ret (results_row2 rfl _ _ _ rfl hr) rfl ⟨rfl, ((hkp.setCell _ _ (.inr (Nat.le_refl _))).setCell _ _ (.inr (Nat.le_refl _)))⟩
end Go.Proofs.YtgdbhblapdhlmaaDoor
