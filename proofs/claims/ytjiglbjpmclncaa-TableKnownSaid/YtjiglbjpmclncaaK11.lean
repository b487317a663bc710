/-
  The program's table: Return, Info.
-/
import Derived.Test.YtjiglbjpmclncaaK10
set_option linter.unusedSimpArgs false
set_option linter.unusedVariables false
namespace Go.Proofs.Ytjiglbjpmclncaa
open Go.RowKit Go.Maps
set_option maxHeartbeats 8000000
set_option maxRecDepth 100000
theorem endInfo_any (w : World) {b kb mb : Nat} {v : Value} {t : Tb} (hT : TAt b kb mb w v t) (hok : TbOk t) (hfew : t.L.length ≤ 1000000) (id at_ : Int) (h0 : 0 ≤ id) (h1 : id < 65536) :
    Calls Try.prog 42 #[.pointer (some ⟨b, 0, none⟩), .int .u16 id, .int .i64 at_, .func (.func 44) #[] #[]] w (TPost b kb mb w v (tbEnd t id false 0 0 at_)) := by
  have c0 := hT.cell
  have HMADE := Lib.hid (tbMade_yes _ c0)
  have HRISE := Lib.hid (kpRises_any _ hT.at_ hok.lo at_)
  have HF := Lib.hid (kpFind_any _ hT.at_ hok hfew id h0 h1)
  have HTO := Lib.hid (fun (i : Nat) (r : Rw) (h : t.L[i]? = some r) => row_to hok h)
  have HT := Lib.hid hT
  clear hT hok
  go_enter Try.func42, Try.ntmps42
  go_wp2_with fail
  refine (HMADE.out).mono ?_; rintro e w1 ⟨rfl, rfl⟩
  clear HMADE
  go_wp2_with fail
  refine (HRISE.out).mono ?_; rintro e w0 ⟨rfl, rfl⟩
  clear HRISE
  by_cases hm : tbMay t at_ = true
  · rw [hm]
    go_wp2_with fail
    refine (HF.out).mono ?_; rintro e w2 ⟨hf, hk2⟩
    have HK2 := Lib.hid hk2
    have HRZ := Lib.hid (heap_alloc_new w2 (.cells (rwC rwZero).toArray 42))
    have HKA := Lib.hid ((Keeps.refl [] w2).alloc (.cells (rwC rwZero).toArray 42))
    have HFR := Lib.hid (show t.last < at_ ∧ at_ ≤ rwMost from ⟨(tbMay_iff.1 hm).2.2, (tbMay_iff.1 hm).2.1⟩)
    clear hk2 HF c0
    cases hi : rwIdx id t.L with
    | none =>
      rw [hi] at hf
      simp only at hf
      subst hf
      have HFIN := Lib.hid (fun (w' : World) (hk : Keeps [] w0 w') => show TPost b kb mb w0 v (tbEnd t id false 0 0 at_) (.returned (.int .i64 7)) w' from by
        have e : tbEnd t id false 0 0 at_ = (7, t) := by unfold tbEnd; rw [hm, hi]; rfl
        rw [e]
        exact ⟨rfl, v, HT.out.new hk, hk.more (by simp), FSub.refl _ _⟩)
      have HST := Lib.hid trivial
      clear hi hm HFR
      go_wp2_with (first | ((with_reducible refine wpList_putP (old := rwZero) (r := rwZero) ?_ ?_ HRZ.out ?_); exact rfl; exact rfl))
      intro W hW hkW
      have HKV := Lib.hid (HK2.out.trans (HKA.out.trans hkW (fun q hq => .inr (by simp at hq; omega))) (FSub.refl _ _))
      have HB9 := Lib.hid hW
      clear hW hkW HKA HRZ
      generalize w2.heap.size = R9 at *
      go_wp2_with fail
      obtain ⟨S, hS⟩ : ∃ S : World → Prop, S = fun y => Keeps [] W y := ⟨_, rfl⟩
      have HSE := Lib.hid hS
      have hSD : S W.drew := by rw [hS]; exact (Keeps.refl _ _).drew
      have HS0 := Lib.hid (fun (w' : World) (h : S w') => show w'.rangeAt R9 0 (rwC rwZero) from by rw [hS] at h; exact fun i u hi => by rw [Nat.zero_add]; exact h.cell (rw_cell HB9.out i hi) (by simp))
      have HS1 := Lib.hid (fun (w' : World) (h : S w') => show w'.cell? ⟨R9, 9, none⟩ = some (.int .u8 (rwZero).st) from by rw [hS] at h; exact h.cell (rw_cell HB9.out 9 rfl) (by simp))
      have HS2 := Lib.hid (fun (w' : World) (_ : S w') => HST.out)
      clear hS
      refine wp_region_noPanic ?_
      refine wp_region_held_drew (S := S) (by kernel_rfl) hSD (fun hHeld => ?_)
      apply wpAnyH_take (i := 0)
      · simp only [List.getElem?_toArray]; rfl
      · kernel_rfl
      · kernel_rfl
      · kernel_rfl
      · exact fun _ _ _ h => h
      · exact yields_rowP rwZero (by rfl) _ rfl R9 0 rfl HS0.out
      · assumption
      try simp only [Act.put, List.setIfInBounds_toArray, List.set_cons_zero, List.set_cons_succ]
      apply wpAnyH_ready (rs := [1])
      · kernel_rfl
      · simp
      apply AllReadyH.cons (hs := AllReadyH.nil)
      · simp only [List.getElem?_toArray]; rfl
      intro K hK
      rw [if_pos (by rfl)]
      refine wp_call8 33 _ _ rfl [] rfl Try.func33 (by kernel_rfl) (by kernel_rfl) ((tbNone_any _).mono ?_)
      rintro e w3 ⟨rfl, hk3⟩
      refine ⟨.agg #[.int .u8 0, .int .u16 0, .int .u8 0, .int .u8 0, .int .u8 0, .int .u16 0, .int .u16 0, .int .u8 0, .int .u16 0, .int .u8 0, .int .i64 0, .int .i64 0], rfl, ?_⟩
      have HK3 := Lib.hid ((Keeps.refl [] W).drew.trans hk3 (FSub.refl _ _))
      clear hk3
      refine hK.out _ _ ?_ (fun hHeld => ?_)
      · exact (by rw [HSE.out]; exact HK3.out)
      clear hK K
      try simp only [Act.put, List.setIfInBounds_toArray, List.set_cons_zero, List.set_cons_succ]
      apply wpAnyH_take (i := 2)
      · simp only [List.getElem?_toArray]; rfl
      · kernel_rfl
      · kernel_rfl
      · kernel_rfl
      · exact fun _ _ _ h => h
      · exact yields_eqlZ (by rfl) _ _ rfl rfl rfl
      · assumption
      try simp only [Act.put, List.setIfInBounds_toArray, List.set_cons_zero, List.set_cons_succ]
      apply wpAnyH_take (i := 3)
      · simp only [List.getElem?_toArray]; rfl
      · kernel_rfl
      · kernel_rfl
      · kernel_rfl
      · exact fun _ _ _ h => h
      · exact Or.inl ⟨by rfl, by intro w hSw; go_simp; try with_reducible rfl⟩
      · assumption
      try simp only [Act.put, List.setIfInBounds_toArray, List.set_cons_zero, List.set_cons_succ]
      apply wpAnyH_take (i := 4)
      · simp only [List.getElem?_toArray]; rfl
      · kernel_rfl
      · kernel_rfl
      · kernel_rfl
      · exact fun _ _ _ h => h
      · exact Or.inr ⟨by rfl, rfl⟩
      · assumption
      try simp only [Act.put, List.setIfInBounds_toArray, List.set_cons_zero, List.set_cons_succ]
      apply wpAnyH_take (i := 5)
      · simp only [List.getElem?_toArray]; rfl
      · kernel_rfl
      · kernel_rfl
      · kernel_rfl
      · exact fun _ _ _ h => h
      · exact Or.inr ⟨by rfl, rfl⟩
      · assumption
      try simp only [Act.put, List.setIfInBounds_toArray, List.set_cons_zero, List.set_cons_succ]
      apply wpAnyH_take (i := 6)
      · simp only [List.getElem?_toArray]; rfl
      · kernel_rfl
      · kernel_rfl
      · kernel_rfl
      · exact fun _ _ _ h => h
      · exact Or.inr ⟨by rfl, rfl⟩
      · assumption
      try simp only [Act.put, List.setIfInBounds_toArray, List.set_cons_zero, List.set_cons_succ]
      apply wpAnyH_take (i := 7)
      · simp only [List.getElem?_toArray]; rfl
      · kernel_rfl
      · kernel_rfl
      · kernel_rfl
      · exact fun _ _ _ h => h
      · exact Or.inl ⟨by rfl, by intro w hSw; go_simp; try with_reducible rfl⟩
      · assumption
      try simp only [Act.put, List.setIfInBounds_toArray, List.set_cons_zero, List.set_cons_succ]
      refine wpAnyH_done (by kernel_rfl) ?_ _
      refine NoPanic.normal ?_
      have HK4 := Lib.hid (HKV.out.trans HK3.out (FSub.refl _ _))
      clear hHeld hSD HS0 HS1 HS2 HSE
      go_wp2_with fail
      go_ret
      exact HFIN.out _ HK4.out
    | some i =>
      rw [hi] at hf
      obtain ⟨r, hr, rfl⟩ := hf
      have HQ := Lib.hid (HTO.out i r hr)
      obtain ⟨hil, hge⟩ := List.getElem?_eq_some_iff.1 hr
      have HIL := Lib.hid hil; have HGE := Lib.hid hge
      by_cases hst : r.st = 0
      · have HE := Lib.hid (show tbEnd t id false 0 0 at_ = (0, ⟨t.L.set i (rwEnd r false 0 0 at_), at_⟩) by unfold tbEnd; rw [hm, hi]; simp [hr, hst])
        have HST := Lib.hid hst
        clear hi hr hm hge hst
        go_wp2_with (first | ((with_reducible refine wpList_putP (old := rwZero) (r := r) ?_ ?_ HRZ.out ?_); exact rfl; exact rfl))
        intro W hW hkW
        have HKV := Lib.hid (HK2.out.trans (HKA.out.trans hkW (fun q hq => .inr (by simp at hq; omega))) (FSub.refl _ _))
        have HB9 := Lib.hid hW
        clear hW hkW HKA HRZ
        generalize w2.heap.size = R9 at *
        go_wp2_with fail
        obtain ⟨S, hS⟩ : ∃ S : World → Prop, S = fun y => Keeps [] W y := ⟨_, rfl⟩
        have HSE := Lib.hid hS
        have hSD : S W.drew := by rw [hS]; exact (Keeps.refl _ _).drew
        have HS0 := Lib.hid (fun (w' : World) (h : S w') => show w'.rangeAt R9 0 (rwC r) from by rw [hS] at h; exact fun i u hi => by rw [Nat.zero_add]; exact h.cell (rw_cell HB9.out i hi) (by simp))
        have HS1 := Lib.hid (fun (w' : World) (h : S w') => show w'.cell? ⟨R9, 9, none⟩ = some (.int .u8 (r).st) from by rw [hS] at h; exact h.cell (rw_cell HB9.out 9 rfl) (by simp))
        have HS2 := Lib.hid (fun (w' : World) (_ : S w') => HST.out)
        clear hS
        refine wp_region_noPanic ?_
        refine wp_region_held_drew (S := S) (by kernel_rfl) hSD (fun hHeld => ?_)
        apply wpAnyH_take (i := 0)
        · simp only [List.getElem?_toArray]; rfl
        · kernel_rfl
        · kernel_rfl
        · kernel_rfl
        · exact fun _ _ _ h => h
        · exact yields_rowP r (by rfl) _ rfl R9 0 rfl HS0.out
        · assumption
        try simp only [Act.put, List.setIfInBounds_toArray, List.set_cons_zero, List.set_cons_succ]
        apply wpAnyH_ready (rs := [1])
        · kernel_rfl
        · simp
        apply AllReadyH.cons (hs := AllReadyH.nil)
        · simp only [List.getElem?_toArray]; rfl
        intro K hK
        rw [if_pos (by rfl)]
        refine wp_call8 33 _ _ rfl [] rfl Try.func33 (by kernel_rfl) (by kernel_rfl) ((tbNone_any _).mono ?_)
        rintro e w3 ⟨rfl, hk3⟩
        refine ⟨.agg #[.int .u8 0, .int .u16 0, .int .u8 0, .int .u8 0, .int .u8 0, .int .u16 0, .int .u16 0, .int .u8 0, .int .u16 0, .int .u8 0, .int .i64 0, .int .i64 0], rfl, ?_⟩
        have HK3 := Lib.hid ((Keeps.refl [] W).drew.trans hk3 (FSub.refl _ _))
        clear hk3
        refine hK.out _ _ ?_ (fun hHeld => ?_)
        · exact (by rw [HSE.out]; exact HK3.out)
        clear hK K
        try simp only [Act.put, List.setIfInBounds_toArray, List.set_cons_zero, List.set_cons_succ]
        apply wpAnyH_take (i := 2)
        · simp only [List.getElem?_toArray]; rfl
        · kernel_rfl
        · kernel_rfl
        · kernel_rfl
        · exact fun _ _ _ h => h
        · exact yields_eqlP (by rfl) _ _ rfl r rfl rfl HQ.out
        · assumption
        try simp only [Act.put, List.setIfInBounds_toArray, List.set_cons_zero, List.set_cons_succ]
        apply wpAnyH_take (i := 3)
        · simp only [List.getElem?_toArray]; rfl
        · kernel_rfl
        · kernel_rfl
        · kernel_rfl
        · exact fun _ _ _ h => h
        · exact Or.inl ⟨by rfl, by intro w hSw; go_simp; try with_reducible rfl⟩
        · assumption
        try simp only [Act.put, List.setIfInBounds_toArray, List.set_cons_zero, List.set_cons_succ]
        apply wpAnyH_take (i := 4)
        · simp only [List.getElem?_toArray]; rfl
        · kernel_rfl
        · kernel_rfl
        · kernel_rfl
        · exact fun _ _ _ h => h
        · exact Or.inl ⟨by rfl, by intro w hSw; go_simp; try with_reducible rfl⟩
        · assumption
        try simp only [Act.put, List.setIfInBounds_toArray, List.set_cons_zero, List.set_cons_succ]
        apply wpAnyH_take (i := 5)
        · simp only [List.getElem?_toArray]; rfl
        · kernel_rfl
        · kernel_rfl
        · kernel_rfl
        · exact fun _ _ _ h => h
        · exact Or.inl ⟨by rfl, by intro w hSw; have q0 := HS1.out w hSw; have q1 := HS2.out w hSw; go_simp; try with_reducible rfl⟩
        · assumption
        try simp only [Act.put, List.setIfInBounds_toArray, List.set_cons_zero, List.set_cons_succ]
        apply wpAnyH_take (i := 6)
        · simp only [List.getElem?_toArray]; rfl
        · kernel_rfl
        · kernel_rfl
        · kernel_rfl
        · exact fun _ _ _ h => h
        · exact Or.inl ⟨by rfl, by intro w hSw; have q0 := HS1.out w hSw; have q1 := HS2.out w hSw; go_simp; try with_reducible rfl⟩
        · assumption
        try simp only [Act.put, List.setIfInBounds_toArray, List.set_cons_zero, List.set_cons_succ]
        apply wpAnyH_take (i := 7)
        · simp only [List.getElem?_toArray]; rfl
        · kernel_rfl
        · kernel_rfl
        · kernel_rfl
        · exact fun _ _ _ h => h
        · exact Or.inl ⟨by rfl, by intro w hSw; go_simp; try with_reducible rfl⟩
        · assumption
        try simp only [Act.put, List.setIfInBounds_toArray, List.set_cons_zero, List.set_cons_succ]
        refine wpAnyH_done (by kernel_rfl) ?_ _
        refine NoPanic.normal ?_
        have HK4 := Lib.hid (HKV.out.trans HK3.out (FSub.refl _ _))
        clear hHeld hSD HS0 HS1 HS2 HSE
        have hT4 := HT.out.new HK4.out
        have c4 := hT4.cell
        obtain ⟨k0, k1, k2⟩ := hT4.at_.cells
        obtain ⟨g, cap, rfl, hc, hmx, -, hg, -⟩ := hT4.at_.row.at (fun e => by have := HIL.out; rw [e] at this; simp at this)
        have hil2 : (i : Int) < t.L.length := by have := HIL.out; omega
        have HROW := Lib.hid hT4.at_.row; have HT4 := Lib.hid hT4
        clear hT4 hg
        go_wp2_with fail
        refine (info1_any w3 HROW.out i HIL.out 0 0 at_).mono ?_
        rintro e w5 ⟨rfl, hrow5, hk5⟩
        rw [HGE.out] at hrow5
        have hd5 := HT4.out.at_.dis g (by simp [own, Value.ownBlock])
        have hb5 : b ≠ g := fun e => HT4.out.dis (by rw [e]; simp [own, Value.ownBlock])
        have hkept5 := hk5.heap HT4.out.at_.kept (by simp; exact Ne.symm hd5.1)
        have hmap5 := HT4.out.at_.map.keeps hk5 (by simp; exact Ne.symm hd5.2)
        have c5 : w5.cell? ⟨b, 0, none⟩ = some (.pointer (some ⟨kb, 0, none⟩)) := hk5.cell c4 (by simp; exact hb5)
        have g1 : w5.cell? ⟨kb, 2, none⟩ = some (.int .i64 t.last) := by simp [World.cell?, hkept5]
        have g2 : w5.frozen? ⟨kb, 2, none⟩ = false := by simp [World.frozen?, hkept5]
        have k6 : Keeps [kb] w5 (w5.setCell ⟨kb, 2, none⟩ (.int .i64 at_)) := (Keeps.refl [kb] w5).setCell _ _ (.inl (by simp))
        have HKP := Lib.hid (show KPost kb mb w3 (.slice (some ⟨g, 0, none⟩) t.L.length cap) ⟨t.L.set i (rwEnd r false 0 0 at_), at_⟩ (w5.setCell ⟨kb, 2, none⟩ (.int .i64 at_)) from by
          have hid : (rwEnd r false 0 0 at_).id = (t.L[i]'hil).id := by rw [HGE.out]; rfl
          have hfr : (rwEnd r false 0 0 at_).fr = (t.L[i]'hil).fr := by rw [HGE.out]; rfl
          have e2 : (t.L.set i (rwEnd r false 0 0 at_)).length = t.L.length := List.length_set
          refine ⟨_, ⟨?_, hrow5.keeps k6 (fun q hq hb => (HT4.out.at_.dis q hq).1 (by simpa using hb)), ?_, HT4.out.at_.ap, HT4.out.at_.dis⟩, ?_, FSub.refl _ _⟩
          · rw [heap_setCell_same w5 kb 2 _ _ _ hkept5]; rfl
          · exact (hmap5.keeps k6 (by simp; exact Ne.symm HT4.out.at_.ap)).congr (fun id' => frOf_set hil hid hfr) (Int.le_of_lt HFR.out.1)
          · exact (hk5.more (G := kb :: mb :: own (.slice (some ⟨g, 0, none⟩) t.L.length cap)) (by simp [own, Value.ownBlock])).step (k6.more (by simp)) (fun q hq => hq))
        clear hrow5 hk5 hkept5 hmap5 c4 k0 k1 k2 HB9
        go_wp2_with fail
        go_ret
        exact ⟨by rw [HE.out]; rfl, by rw [HE.out]; exact HT.out.post HK4.out HKP.out⟩
      · have HFIN := Lib.hid (fun (w' : World) (hk : Keeps [] w0 w') => show TPost b kb mb w0 v (tbEnd t id false 0 0 at_) (.returned (.int .i64 7)) w' from by
          have e : tbEnd t id false 0 0 at_ = (7, t) := by unfold tbEnd; rw [hm, hi]; simp [hr, hst]
          rw [e]
          exact ⟨rfl, v, HT.out.new hk, hk.more (by simp), FSub.refl _ _⟩)
        have HST := Lib.hid (show (r.st != 0) = true by simpa using hst)
        clear hi hr hm HFR hge hst
        go_wp2_with (first | ((with_reducible refine wpList_putP (old := rwZero) (r := r) ?_ ?_ HRZ.out ?_); exact rfl; exact rfl))
        intro W hW hkW
        have HKV := Lib.hid (HK2.out.trans (HKA.out.trans hkW (fun q hq => .inr (by simp at hq; omega))) (FSub.refl _ _))
        have HB9 := Lib.hid hW
        clear hW hkW HKA HRZ
        generalize w2.heap.size = R9 at *
        go_wp2_with fail
        obtain ⟨S, hS⟩ : ∃ S : World → Prop, S = fun y => Keeps [] W y := ⟨_, rfl⟩
        have HSE := Lib.hid hS
        have hSD : S W.drew := by rw [hS]; exact (Keeps.refl _ _).drew
        have HS0 := Lib.hid (fun (w' : World) (h : S w') => show w'.rangeAt R9 0 (rwC r) from by rw [hS] at h; exact fun i u hi => by rw [Nat.zero_add]; exact h.cell (rw_cell HB9.out i hi) (by simp))
        have HS1 := Lib.hid (fun (w' : World) (h : S w') => show w'.cell? ⟨R9, 9, none⟩ = some (.int .u8 (r).st) from by rw [hS] at h; exact h.cell (rw_cell HB9.out 9 rfl) (by simp))
        have HS2 := Lib.hid (fun (w' : World) (_ : S w') => HST.out)
        clear hS
        refine wp_region_noPanic ?_
        refine wp_region_held_drew (S := S) (by kernel_rfl) hSD (fun hHeld => ?_)
        apply wpAnyH_take (i := 0)
        · simp only [List.getElem?_toArray]; rfl
        · kernel_rfl
        · kernel_rfl
        · kernel_rfl
        · exact fun _ _ _ h => h
        · exact yields_rowP r (by rfl) _ rfl R9 0 rfl HS0.out
        · assumption
        try simp only [Act.put, List.setIfInBounds_toArray, List.set_cons_zero, List.set_cons_succ]
        apply wpAnyH_ready (rs := [1])
        · kernel_rfl
        · simp
        apply AllReadyH.cons (hs := AllReadyH.nil)
        · simp only [List.getElem?_toArray]; rfl
        intro K hK
        rw [if_pos (by rfl)]
        refine wp_call8 33 _ _ rfl [] rfl Try.func33 (by kernel_rfl) (by kernel_rfl) ((tbNone_any _).mono ?_)
        rintro e w3 ⟨rfl, hk3⟩
        refine ⟨.agg #[.int .u8 0, .int .u16 0, .int .u8 0, .int .u8 0, .int .u8 0, .int .u16 0, .int .u16 0, .int .u8 0, .int .u16 0, .int .u8 0, .int .i64 0, .int .i64 0], rfl, ?_⟩
        have HK3 := Lib.hid ((Keeps.refl [] W).drew.trans hk3 (FSub.refl _ _))
        clear hk3
        refine hK.out _ _ ?_ (fun hHeld => ?_)
        · exact (by rw [HSE.out]; exact HK3.out)
        clear hK K
        try simp only [Act.put, List.setIfInBounds_toArray, List.set_cons_zero, List.set_cons_succ]
        apply wpAnyH_take (i := 2)
        · simp only [List.getElem?_toArray]; rfl
        · kernel_rfl
        · kernel_rfl
        · kernel_rfl
        · exact fun _ _ _ h => h
        · exact yields_eqlP (by rfl) _ _ rfl r rfl rfl HQ.out
        · assumption
        try simp only [Act.put, List.setIfInBounds_toArray, List.set_cons_zero, List.set_cons_succ]
        apply wpAnyH_take (i := 3)
        · simp only [List.getElem?_toArray]; rfl
        · kernel_rfl
        · kernel_rfl
        · kernel_rfl
        · exact fun _ _ _ h => h
        · exact Or.inl ⟨by rfl, by intro w hSw; go_simp; try with_reducible rfl⟩
        · assumption
        try simp only [Act.put, List.setIfInBounds_toArray, List.set_cons_zero, List.set_cons_succ]
        apply wpAnyH_take (i := 4)
        · simp only [List.getElem?_toArray]; rfl
        · kernel_rfl
        · kernel_rfl
        · kernel_rfl
        · exact fun _ _ _ h => h
        · exact Or.inl ⟨by rfl, by intro w hSw; go_simp; try with_reducible rfl⟩
        · assumption
        try simp only [Act.put, List.setIfInBounds_toArray, List.set_cons_zero, List.set_cons_succ]
        apply wpAnyH_take (i := 5)
        · simp only [List.getElem?_toArray]; rfl
        · kernel_rfl
        · kernel_rfl
        · kernel_rfl
        · exact fun _ _ _ h => h
        · exact Or.inl ⟨by rfl, by intro w hSw; have q0 := HS1.out w hSw; have q1 := HS2.out w hSw; go_simp; try with_reducible rfl⟩
        · assumption
        try simp only [Act.put, List.setIfInBounds_toArray, List.set_cons_zero, List.set_cons_succ]
        apply wpAnyH_take (i := 6)
        · simp only [List.getElem?_toArray]; rfl
        · kernel_rfl
        · kernel_rfl
        · kernel_rfl
        · exact fun _ _ _ h => h
        · exact Or.inl ⟨by rfl, by intro w hSw; have q0 := HS1.out w hSw; have q1 := HS2.out w hSw; go_simp; try with_reducible rfl⟩
        · assumption
        try simp only [Act.put, List.setIfInBounds_toArray, List.set_cons_zero, List.set_cons_succ]
        apply wpAnyH_take (i := 7)
        · simp only [List.getElem?_toArray]; rfl
        · kernel_rfl
        · kernel_rfl
        · kernel_rfl
        · exact fun _ _ _ h => h
        · exact Or.inl ⟨by rfl, by intro w hSw; go_simp; try with_reducible rfl⟩
        · assumption
        try simp only [Act.put, List.setIfInBounds_toArray, List.set_cons_zero, List.set_cons_succ]
        refine wpAnyH_done (by kernel_rfl) ?_ _
        refine NoPanic.normal ?_
        have HK4 := Lib.hid (HKV.out.trans HK3.out (FSub.refl _ _))
        clear hHeld hSD HS0 HS1 HS2 HSE
        go_wp2_with fail
        go_ret
        exact HFIN.out _ HK4.out
  · have hm2 : tbMay t at_ = false := by simpa using hm
    have HR := Lib.hid (show TPost b kb mb w0 v (tbEnd t id false 0 0 at_) (.returned (.int .i64 2)) w0 from by
      unfold tbEnd
      rw [if_pos hm2]
      exact ⟨rfl, v, HT.out, Keeps.refl _ _, FSub.refl _ _⟩)
    rw [hm2]
    clear HF hm
    go_wp2_with fail
    go_ret
    exact HR.out
theorem endRet_any (w : World) {b kb mb : Nat} {v : Value} {t : Tb} (hT : TAt b kb mb w v t) (hok : TbOk t) (hfew : t.L.length ≤ 1000000) (id rk rv at_ : Int) (h0 : 0 ≤ id) (h1 : id < 65536) (q1 q2 : Nat) (d1 : q1 ∉ own v) (d2 : q2 ∉ own v)
    (m0 : w.cell? ⟨q1, 0, none⟩ = some (.int .u8 rk)) (m1 : w.cell? ⟨q1, 1, none⟩ = some (.int .u16 rv)) (m2 : w.cell? ⟨q2, 0, none⟩ = some (.int .i64 at_)) :
    Calls Try.prog 42 #[.pointer (some ⟨b, 0, none⟩), .int .u16 id, .int .i64 at_, .func (.func 43) #[] #[.pointer (some ⟨q1, 0, none⟩), .pointer (some ⟨q2, 0, none⟩)]] w (TPost b kb mb w v (tbEnd t id true rk rv at_)) := by
  have c0 := hT.cell
  have HMADE := Lib.hid (tbMade_yes _ c0)
  have HRISE := Lib.hid (kpRises_any _ hT.at_ hok.lo at_)
  have HF := Lib.hid (kpFind_any _ hT.at_ hok hfew id h0 h1)
  have HTO := Lib.hid (fun (i : Nat) (r : Rw) (h : t.L[i]? = some r) => row_to hok h)
  have HT := Lib.hid hT
  have HD1 := Lib.hid d1; have HD2 := Lib.hid d2; have HM0 := Lib.hid m0; have HM1 := Lib.hid m1; have HM2 := Lib.hid m2
  clear hT hok d1 d2 m0 m1 m2
  go_enter Try.func42, Try.ntmps42
  go_wp2_with fail
  refine (HMADE.out).mono ?_; rintro e w1 ⟨rfl, rfl⟩
  clear HMADE
  go_wp2_with fail
  refine (HRISE.out).mono ?_; rintro e w0 ⟨rfl, rfl⟩
  clear HRISE
  by_cases hm : tbMay t at_ = true
  · rw [hm]
    go_wp2_with fail
    refine (HF.out).mono ?_; rintro e w2 ⟨hf, hk2⟩
    have HK2 := Lib.hid hk2
    have HRZ := Lib.hid (heap_alloc_new w2 (.cells (rwC rwZero).toArray 42))
    have HKA := Lib.hid ((Keeps.refl [] w2).alloc (.cells (rwC rwZero).toArray 42))
    have HFR := Lib.hid (show t.last < at_ ∧ at_ ≤ rwMost from ⟨(tbMay_iff.1 hm).2.2, (tbMay_iff.1 hm).2.1⟩)
    clear hk2 HF c0
    cases hi : rwIdx id t.L with
    | none =>
      rw [hi] at hf
      simp only at hf
      subst hf
      have HFIN := Lib.hid (fun (w' : World) (hk : Keeps [] w0 w') => show TPost b kb mb w0 v (tbEnd t id true rk rv at_) (.returned (.int .i64 7)) w' from by
        have e : tbEnd t id true rk rv at_ = (7, t) := by unfold tbEnd; rw [hm, hi]; rfl
        rw [e]
        exact ⟨rfl, v, HT.out.new hk, hk.more (by simp), FSub.refl _ _⟩)
      have HST := Lib.hid trivial
      clear hi hm HFR
      go_wp2_with (first | ((with_reducible refine wpList_putP (old := rwZero) (r := rwZero) ?_ ?_ HRZ.out ?_); exact rfl; exact rfl))
      intro W hW hkW
      have HKV := Lib.hid (HK2.out.trans (HKA.out.trans hkW (fun q hq => .inr (by simp at hq; omega))) (FSub.refl _ _))
      have HB9 := Lib.hid hW
      clear hW hkW HKA HRZ
      generalize w2.heap.size = R9 at *
      go_wp2_with fail
      obtain ⟨S, hS⟩ : ∃ S : World → Prop, S = fun y => Keeps [] W y := ⟨_, rfl⟩
      have HSE := Lib.hid hS
      have hSD : S W.drew := by rw [hS]; exact (Keeps.refl _ _).drew
      have HS0 := Lib.hid (fun (w' : World) (h : S w') => show w'.rangeAt R9 0 (rwC rwZero) from by rw [hS] at h; exact fun i u hi => by rw [Nat.zero_add]; exact h.cell (rw_cell HB9.out i hi) (by simp))
      have HS1 := Lib.hid (fun (w' : World) (h : S w') => show w'.cell? ⟨R9, 9, none⟩ = some (.int .u8 (rwZero).st) from by rw [hS] at h; exact h.cell (rw_cell HB9.out 9 rfl) (by simp))
      have HS2 := Lib.hid (fun (w' : World) (_ : S w') => HST.out)
      clear hS
      refine wp_region_noPanic ?_
      refine wp_region_held_drew (S := S) (by kernel_rfl) hSD (fun hHeld => ?_)
      apply wpAnyH_take (i := 0)
      · simp only [List.getElem?_toArray]; rfl
      · kernel_rfl
      · kernel_rfl
      · kernel_rfl
      · exact fun _ _ _ h => h
      · exact yields_rowP rwZero (by rfl) _ rfl R9 0 rfl HS0.out
      · assumption
      try simp only [Act.put, List.setIfInBounds_toArray, List.set_cons_zero, List.set_cons_succ]
      apply wpAnyH_ready (rs := [1])
      · kernel_rfl
      · simp
      apply AllReadyH.cons (hs := AllReadyH.nil)
      · simp only [List.getElem?_toArray]; rfl
      intro K hK
      rw [if_pos (by rfl)]
      refine wp_call8 33 _ _ rfl [] rfl Try.func33 (by kernel_rfl) (by kernel_rfl) ((tbNone_any _).mono ?_)
      rintro e w3 ⟨rfl, hk3⟩
      refine ⟨.agg #[.int .u8 0, .int .u16 0, .int .u8 0, .int .u8 0, .int .u8 0, .int .u16 0, .int .u16 0, .int .u8 0, .int .u16 0, .int .u8 0, .int .i64 0, .int .i64 0], rfl, ?_⟩
      have HK3 := Lib.hid ((Keeps.refl [] W).drew.trans hk3 (FSub.refl _ _))
      clear hk3
      refine hK.out _ _ ?_ (fun hHeld => ?_)
      · exact (by rw [HSE.out]; exact HK3.out)
      clear hK K
      try simp only [Act.put, List.setIfInBounds_toArray, List.set_cons_zero, List.set_cons_succ]
      apply wpAnyH_take (i := 2)
      · simp only [List.getElem?_toArray]; rfl
      · kernel_rfl
      · kernel_rfl
      · kernel_rfl
      · exact fun _ _ _ h => h
      · exact yields_eqlZ (by rfl) _ _ rfl rfl rfl
      · assumption
      try simp only [Act.put, List.setIfInBounds_toArray, List.set_cons_zero, List.set_cons_succ]
      apply wpAnyH_take (i := 3)
      · simp only [List.getElem?_toArray]; rfl
      · kernel_rfl
      · kernel_rfl
      · kernel_rfl
      · exact fun _ _ _ h => h
      · exact Or.inl ⟨by rfl, by intro w hSw; go_simp; try with_reducible rfl⟩
      · assumption
      try simp only [Act.put, List.setIfInBounds_toArray, List.set_cons_zero, List.set_cons_succ]
      apply wpAnyH_take (i := 4)
      · simp only [List.getElem?_toArray]; rfl
      · kernel_rfl
      · kernel_rfl
      · kernel_rfl
      · exact fun _ _ _ h => h
      · exact Or.inr ⟨by rfl, rfl⟩
      · assumption
      try simp only [Act.put, List.setIfInBounds_toArray, List.set_cons_zero, List.set_cons_succ]
      apply wpAnyH_take (i := 5)
      · simp only [List.getElem?_toArray]; rfl
      · kernel_rfl
      · kernel_rfl
      · kernel_rfl
      · exact fun _ _ _ h => h
      · exact Or.inr ⟨by rfl, rfl⟩
      · assumption
      try simp only [Act.put, List.setIfInBounds_toArray, List.set_cons_zero, List.set_cons_succ]
      apply wpAnyH_take (i := 6)
      · simp only [List.getElem?_toArray]; rfl
      · kernel_rfl
      · kernel_rfl
      · kernel_rfl
      · exact fun _ _ _ h => h
      · exact Or.inr ⟨by rfl, rfl⟩
      · assumption
      try simp only [Act.put, List.setIfInBounds_toArray, List.set_cons_zero, List.set_cons_succ]
      apply wpAnyH_take (i := 7)
      · simp only [List.getElem?_toArray]; rfl
      · kernel_rfl
      · kernel_rfl
      · kernel_rfl
      · exact fun _ _ _ h => h
      · exact Or.inl ⟨by rfl, by intro w hSw; go_simp; try with_reducible rfl⟩
      · assumption
      try simp only [Act.put, List.setIfInBounds_toArray, List.set_cons_zero, List.set_cons_succ]
      refine wpAnyH_done (by kernel_rfl) ?_ _
      refine NoPanic.normal ?_
      have HK4 := Lib.hid (HKV.out.trans HK3.out (FSub.refl _ _))
      clear hHeld hSD HS0 HS1 HS2 HSE
      go_wp2_with fail
      go_ret
      exact HFIN.out _ HK4.out
    | some i =>
      rw [hi] at hf
      obtain ⟨r, hr, rfl⟩ := hf
      have HQ := Lib.hid (HTO.out i r hr)
      obtain ⟨hil, hge⟩ := List.getElem?_eq_some_iff.1 hr
      have HIL := Lib.hid hil; have HGE := Lib.hid hge
      by_cases hst : r.st = 0
      · have HE := Lib.hid (show tbEnd t id true rk rv at_ = (0, ⟨t.L.set i (rwEnd r true rk rv at_), at_⟩) by unfold tbEnd; rw [hm, hi]; simp [hr, hst])
        have HST := Lib.hid hst
        clear hi hr hm hge hst
        go_wp2_with (first | ((with_reducible refine wpList_putP (old := rwZero) (r := r) ?_ ?_ HRZ.out ?_); exact rfl; exact rfl))
        intro W hW hkW
        have HKV := Lib.hid (HK2.out.trans (HKA.out.trans hkW (fun q hq => .inr (by simp at hq; omega))) (FSub.refl _ _))
        have HB9 := Lib.hid hW
        clear hW hkW HKA HRZ
        generalize w2.heap.size = R9 at *
        go_wp2_with fail
        obtain ⟨S, hS⟩ : ∃ S : World → Prop, S = fun y => Keeps [] W y := ⟨_, rfl⟩
        have HSE := Lib.hid hS
        have hSD : S W.drew := by rw [hS]; exact (Keeps.refl _ _).drew
        have HS0 := Lib.hid (fun (w' : World) (h : S w') => show w'.rangeAt R9 0 (rwC r) from by rw [hS] at h; exact fun i u hi => by rw [Nat.zero_add]; exact h.cell (rw_cell HB9.out i hi) (by simp))
        have HS1 := Lib.hid (fun (w' : World) (h : S w') => show w'.cell? ⟨R9, 9, none⟩ = some (.int .u8 (r).st) from by rw [hS] at h; exact h.cell (rw_cell HB9.out 9 rfl) (by simp))
        have HS2 := Lib.hid (fun (w' : World) (_ : S w') => HST.out)
        clear hS
        refine wp_region_noPanic ?_
        refine wp_region_held_drew (S := S) (by kernel_rfl) hSD (fun hHeld => ?_)
        apply wpAnyH_take (i := 0)
        · simp only [List.getElem?_toArray]; rfl
        · kernel_rfl
        · kernel_rfl
        · kernel_rfl
        · exact fun _ _ _ h => h
        · exact yields_rowP r (by rfl) _ rfl R9 0 rfl HS0.out
        · assumption
        try simp only [Act.put, List.setIfInBounds_toArray, List.set_cons_zero, List.set_cons_succ]
        apply wpAnyH_ready (rs := [1])
        · kernel_rfl
        · simp
        apply AllReadyH.cons (hs := AllReadyH.nil)
        · simp only [List.getElem?_toArray]; rfl
        intro K hK
        rw [if_pos (by rfl)]
        refine wp_call8 33 _ _ rfl [] rfl Try.func33 (by kernel_rfl) (by kernel_rfl) ((tbNone_any _).mono ?_)
        rintro e w3 ⟨rfl, hk3⟩
        refine ⟨.agg #[.int .u8 0, .int .u16 0, .int .u8 0, .int .u8 0, .int .u8 0, .int .u16 0, .int .u16 0, .int .u8 0, .int .u16 0, .int .u8 0, .int .i64 0, .int .i64 0], rfl, ?_⟩
        have HK3 := Lib.hid ((Keeps.refl [] W).drew.trans hk3 (FSub.refl _ _))
        clear hk3
        refine hK.out _ _ ?_ (fun hHeld => ?_)
        · exact (by rw [HSE.out]; exact HK3.out)
        clear hK K
        try simp only [Act.put, List.setIfInBounds_toArray, List.set_cons_zero, List.set_cons_succ]
        apply wpAnyH_take (i := 2)
        · simp only [List.getElem?_toArray]; rfl
        · kernel_rfl
        · kernel_rfl
        · kernel_rfl
        · exact fun _ _ _ h => h
        · exact yields_eqlP (by rfl) _ _ rfl r rfl rfl HQ.out
        · assumption
        try simp only [Act.put, List.setIfInBounds_toArray, List.set_cons_zero, List.set_cons_succ]
        apply wpAnyH_take (i := 3)
        · simp only [List.getElem?_toArray]; rfl
        · kernel_rfl
        · kernel_rfl
        · kernel_rfl
        · exact fun _ _ _ h => h
        · exact Or.inl ⟨by rfl, by intro w hSw; go_simp; try with_reducible rfl⟩
        · assumption
        try simp only [Act.put, List.setIfInBounds_toArray, List.set_cons_zero, List.set_cons_succ]
        apply wpAnyH_take (i := 4)
        · simp only [List.getElem?_toArray]; rfl
        · kernel_rfl
        · kernel_rfl
        · kernel_rfl
        · exact fun _ _ _ h => h
        · exact Or.inl ⟨by rfl, by intro w hSw; go_simp; try with_reducible rfl⟩
        · assumption
        try simp only [Act.put, List.setIfInBounds_toArray, List.set_cons_zero, List.set_cons_succ]
        apply wpAnyH_take (i := 5)
        · simp only [List.getElem?_toArray]; rfl
        · kernel_rfl
        · kernel_rfl
        · kernel_rfl
        · exact fun _ _ _ h => h
        · exact Or.inl ⟨by rfl, by intro w hSw; have q0 := HS1.out w hSw; have q1 := HS2.out w hSw; go_simp; try with_reducible rfl⟩
        · assumption
        try simp only [Act.put, List.setIfInBounds_toArray, List.set_cons_zero, List.set_cons_succ]
        apply wpAnyH_take (i := 6)
        · simp only [List.getElem?_toArray]; rfl
        · kernel_rfl
        · kernel_rfl
        · kernel_rfl
        · exact fun _ _ _ h => h
        · exact Or.inl ⟨by rfl, by intro w hSw; have q0 := HS1.out w hSw; have q1 := HS2.out w hSw; go_simp; try with_reducible rfl⟩
        · assumption
        try simp only [Act.put, List.setIfInBounds_toArray, List.set_cons_zero, List.set_cons_succ]
        apply wpAnyH_take (i := 7)
        · simp only [List.getElem?_toArray]; rfl
        · kernel_rfl
        · kernel_rfl
        · kernel_rfl
        · exact fun _ _ _ h => h
        · exact Or.inl ⟨by rfl, by intro w hSw; go_simp; try with_reducible rfl⟩
        · assumption
        try simp only [Act.put, List.setIfInBounds_toArray, List.set_cons_zero, List.set_cons_succ]
        refine wpAnyH_done (by kernel_rfl) ?_ _
        refine NoPanic.normal ?_
        have HK4 := Lib.hid (HKV.out.trans HK3.out (FSub.refl _ _))
        clear hHeld hSD HS0 HS1 HS2 HSE
        have hT4 := HT.out.new HK4.out
        have c4 := hT4.cell
        obtain ⟨k0, k1, k2⟩ := hT4.at_.cells
        obtain ⟨g, cap, rfl, hc, hmx, -, hg, -⟩ := hT4.at_.row.at (fun e => by have := HIL.out; rw [e] at this; simp at this)
        have hil2 : (i : Int) < t.L.length := by have := HIL.out; omega
        have HROW := Lib.hid hT4.at_.row; have HT4 := Lib.hid hT4
        clear hT4 hg
        go_wp2_with fail
        refine (ret1_any w3 HROW.out i HIL.out q1 q2 rk rv at_ (fun e => HD1.out (by rw [e]; simp [own, Value.ownBlock])) (fun e => HD2.out (by rw [e]; simp [own, Value.ownBlock])) (HK4.out.cell HM0.out (by simp)) (HK4.out.cell HM1.out (by simp)) (HK4.out.cell HM2.out (by simp))).mono ?_
        rintro e w5 ⟨rfl, hrow5, hk5⟩
        rw [HGE.out] at hrow5
        have hd5 := HT4.out.at_.dis g (by simp [own, Value.ownBlock])
        have hb5 : b ≠ g := fun e => HT4.out.dis (by rw [e]; simp [own, Value.ownBlock])
        have hkept5 := hk5.heap HT4.out.at_.kept (by simp; exact Ne.symm hd5.1)
        have hmap5 := HT4.out.at_.map.keeps hk5 (by simp; exact Ne.symm hd5.2)
        have c5 : w5.cell? ⟨b, 0, none⟩ = some (.pointer (some ⟨kb, 0, none⟩)) := hk5.cell c4 (by simp; exact hb5)
        have g1 : w5.cell? ⟨kb, 2, none⟩ = some (.int .i64 t.last) := by simp [World.cell?, hkept5]
        have g2 : w5.frozen? ⟨kb, 2, none⟩ = false := by simp [World.frozen?, hkept5]
        have k6 : Keeps [kb] w5 (w5.setCell ⟨kb, 2, none⟩ (.int .i64 at_)) := (Keeps.refl [kb] w5).setCell _ _ (.inl (by simp))
        have HKP := Lib.hid (show KPost kb mb w3 (.slice (some ⟨g, 0, none⟩) t.L.length cap) ⟨t.L.set i (rwEnd r true rk rv at_), at_⟩ (w5.setCell ⟨kb, 2, none⟩ (.int .i64 at_)) from by
          have hid : (rwEnd r true rk rv at_).id = (t.L[i]'hil).id := by rw [HGE.out]; rfl
          have hfr : (rwEnd r true rk rv at_).fr = (t.L[i]'hil).fr := by rw [HGE.out]; rfl
          have e2 : (t.L.set i (rwEnd r true rk rv at_)).length = t.L.length := List.length_set
          refine ⟨_, ⟨?_, hrow5.keeps k6 (fun q hq hb => (HT4.out.at_.dis q hq).1 (by simpa using hb)), ?_, HT4.out.at_.ap, HT4.out.at_.dis⟩, ?_, FSub.refl _ _⟩
          · rw [heap_setCell_same w5 kb 2 _ _ _ hkept5]; rfl
          · exact (hmap5.keeps k6 (by simp; exact Ne.symm HT4.out.at_.ap)).congr (fun id' => frOf_set hil hid hfr) (Int.le_of_lt HFR.out.1)
          · exact (hk5.more (G := kb :: mb :: own (.slice (some ⟨g, 0, none⟩) t.L.length cap)) (by simp [own, Value.ownBlock])).step (k6.more (by simp)) (fun q hq => hq))
        clear hrow5 hk5 hkept5 hmap5 c4 k0 k1 k2 HB9
        go_wp2_with fail
        go_ret
        exact ⟨by rw [HE.out]; rfl, by rw [HE.out]; exact HT.out.post HK4.out HKP.out⟩
      · have HFIN := Lib.hid (fun (w' : World) (hk : Keeps [] w0 w') => show TPost b kb mb w0 v (tbEnd t id true rk rv at_) (.returned (.int .i64 7)) w' from by
          have e : tbEnd t id true rk rv at_ = (7, t) := by unfold tbEnd; rw [hm, hi]; simp [hr, hst]
          rw [e]
          exact ⟨rfl, v, HT.out.new hk, hk.more (by simp), FSub.refl _ _⟩)
        have HST := Lib.hid (show (r.st != 0) = true by simpa using hst)
        clear hi hr hm HFR hge hst
        go_wp2_with (first | ((with_reducible refine wpList_putP (old := rwZero) (r := r) ?_ ?_ HRZ.out ?_); exact rfl; exact rfl))
        intro W hW hkW
        have HKV := Lib.hid (HK2.out.trans (HKA.out.trans hkW (fun q hq => .inr (by simp at hq; omega))) (FSub.refl _ _))
        have HB9 := Lib.hid hW
        clear hW hkW HKA HRZ
        generalize w2.heap.size = R9 at *
        go_wp2_with fail
        obtain ⟨S, hS⟩ : ∃ S : World → Prop, S = fun y => Keeps [] W y := ⟨_, rfl⟩
        have HSE := Lib.hid hS
        have hSD : S W.drew := by rw [hS]; exact (Keeps.refl _ _).drew
        have HS0 := Lib.hid (fun (w' : World) (h : S w') => show w'.rangeAt R9 0 (rwC r) from by rw [hS] at h; exact fun i u hi => by rw [Nat.zero_add]; exact h.cell (rw_cell HB9.out i hi) (by simp))
        have HS1 := Lib.hid (fun (w' : World) (h : S w') => show w'.cell? ⟨R9, 9, none⟩ = some (.int .u8 (r).st) from by rw [hS] at h; exact h.cell (rw_cell HB9.out 9 rfl) (by simp))
        have HS2 := Lib.hid (fun (w' : World) (_ : S w') => HST.out)
        clear hS
        refine wp_region_noPanic ?_
        refine wp_region_held_drew (S := S) (by kernel_rfl) hSD (fun hHeld => ?_)
        apply wpAnyH_take (i := 0)
        · simp only [List.getElem?_toArray]; rfl
        · kernel_rfl
        · kernel_rfl
        · kernel_rfl
        · exact fun _ _ _ h => h
        · exact yields_rowP r (by rfl) _ rfl R9 0 rfl HS0.out
        · assumption
        try simp only [Act.put, List.setIfInBounds_toArray, List.set_cons_zero, List.set_cons_succ]
        apply wpAnyH_ready (rs := [1])
        · kernel_rfl
        · simp
        apply AllReadyH.cons (hs := AllReadyH.nil)
        · simp only [List.getElem?_toArray]; rfl
        intro K hK
        rw [if_pos (by rfl)]
        refine wp_call8 33 _ _ rfl [] rfl Try.func33 (by kernel_rfl) (by kernel_rfl) ((tbNone_any _).mono ?_)
        rintro e w3 ⟨rfl, hk3⟩
        refine ⟨.agg #[.int .u8 0, .int .u16 0, .int .u8 0, .int .u8 0, .int .u8 0, .int .u16 0, .int .u16 0, .int .u8 0, .int .u16 0, .int .u8 0, .int .i64 0, .int .i64 0], rfl, ?_⟩
        have HK3 := Lib.hid ((Keeps.refl [] W).drew.trans hk3 (FSub.refl _ _))
        clear hk3
        refine hK.out _ _ ?_ (fun hHeld => ?_)
        · exact (by rw [HSE.out]; exact HK3.out)
        clear hK K
        try simp only [Act.put, List.setIfInBounds_toArray, List.set_cons_zero, List.set_cons_succ]
        apply wpAnyH_take (i := 2)
        · simp only [List.getElem?_toArray]; rfl
        · kernel_rfl
        · kernel_rfl
        · kernel_rfl
        · exact fun _ _ _ h => h
        · exact yields_eqlP (by rfl) _ _ rfl r rfl rfl HQ.out
        · assumption
        try simp only [Act.put, List.setIfInBounds_toArray, List.set_cons_zero, List.set_cons_succ]
        apply wpAnyH_take (i := 3)
        · simp only [List.getElem?_toArray]; rfl
        · kernel_rfl
        · kernel_rfl
        · kernel_rfl
        · exact fun _ _ _ h => h
        · exact Or.inl ⟨by rfl, by intro w hSw; go_simp; try with_reducible rfl⟩
        · assumption
        try simp only [Act.put, List.setIfInBounds_toArray, List.set_cons_zero, List.set_cons_succ]
        apply wpAnyH_take (i := 4)
        · simp only [List.getElem?_toArray]; rfl
        · kernel_rfl
        · kernel_rfl
        · kernel_rfl
        · exact fun _ _ _ h => h
        · exact Or.inl ⟨by rfl, by intro w hSw; go_simp; try with_reducible rfl⟩
        · assumption
        try simp only [Act.put, List.setIfInBounds_toArray, List.set_cons_zero, List.set_cons_succ]
        apply wpAnyH_take (i := 5)
        · simp only [List.getElem?_toArray]; rfl
        · kernel_rfl
        · kernel_rfl
        · kernel_rfl
        · exact fun _ _ _ h => h
        · exact Or.inl ⟨by rfl, by intro w hSw; have q0 := HS1.out w hSw; have q1 := HS2.out w hSw; go_simp; try with_reducible rfl⟩
        · assumption
        try simp only [Act.put, List.setIfInBounds_toArray, List.set_cons_zero, List.set_cons_succ]
        apply wpAnyH_take (i := 6)
        · simp only [List.getElem?_toArray]; rfl
        · kernel_rfl
        · kernel_rfl
        · kernel_rfl
        · exact fun _ _ _ h => h
        · exact Or.inl ⟨by rfl, by intro w hSw; have q0 := HS1.out w hSw; have q1 := HS2.out w hSw; go_simp; try with_reducible rfl⟩
        · assumption
        try simp only [Act.put, List.setIfInBounds_toArray, List.set_cons_zero, List.set_cons_succ]
        apply wpAnyH_take (i := 7)
        · simp only [List.getElem?_toArray]; rfl
        · kernel_rfl
        · kernel_rfl
        · kernel_rfl
        · exact fun _ _ _ h => h
        · exact Or.inl ⟨by rfl, by intro w hSw; go_simp; try with_reducible rfl⟩
        · assumption
        try simp only [Act.put, List.setIfInBounds_toArray, List.set_cons_zero, List.set_cons_succ]
        refine wpAnyH_done (by kernel_rfl) ?_ _
        refine NoPanic.normal ?_
        have HK4 := Lib.hid (HKV.out.trans HK3.out (FSub.refl _ _))
        clear hHeld hSD HS0 HS1 HS2 HSE
        go_wp2_with fail
        go_ret
        exact HFIN.out _ HK4.out
  · have hm2 : tbMay t at_ = false := by simpa using hm
    have HR := Lib.hid (show TPost b kb mb w0 v (tbEnd t id true rk rv at_) (.returned (.int .i64 2)) w0 from by
      unfold tbEnd
      rw [if_pos hm2]
      exact ⟨rfl, v, HT.out, Keeps.refl _ _, FSub.refl _ _⟩)
    rw [hm2]
    clear HF hm
    go_wp2_with fail
    go_ret
    exact HR.out
theorem tbInfo_any (w : World) {b kb mb : Nat} {v : Value} {t : Tb} (hT : TAt b kb mb w v t) (hok : TbOk t) (hfew : t.L.length ≤ 1000000) (id at_ : Int) (h0 : 0 ≤ id) (h1 : id < 65536) :
    Calls Try.prog 25 #[.pointer (some ⟨b, 0, none⟩), .int .u16 id, .int .i64 at_] w (TPost b kb mb w v (tbEnd t id false 0 0 at_)) := by
  have HE := Lib.hid (endInfo_any w hT hok hfew id at_ h0 h1)
  clear hT hok
  go_enter Try.func25, Try.ntmps25
  go_wp2_with fail
  refine (HE.out).mono ?_; rintro e w1 ⟨rfl, hp⟩
  have HP := Lib.hid hp
  clear hp HE
  go_wp2_with fail
  go_ret
  exact ⟨rfl, HP.out⟩
theorem tbReturn_any (w : World) {b kb mb : Nat} {v : Value} {t : Tb} (hT : TAt b kb mb w v t) (hok : TbOk t) (hfew : t.L.length ≤ 1000000) (id rk rv at_ : Int) (h0 : 0 ≤ id) (h1 : id < 65536) :
    Calls Try.prog 24 #[.pointer (some ⟨b, 0, none⟩), .int .u16 id, .agg #[.int .u8 rk, .int .u16 rv], .int .i64 at_] w (TPost b kb mb w v (tbEnd t id true rk rv at_)) := by
  have hk1 := (Keeps.refl [] w).alloc (.cells #[.int .u8 rk, .int .u16 rv] 32)
  have hA := heap_alloc_new w (.cells #[.int .u8 rk, .int .u16 rv] 32)
  have hk2 := (Keeps.refl [] (w.alloc (.cells #[.int .u8 rk, .int .u16 rv] 32))).alloc (.cells #[.int .i64 at_] 3)
  have hB := heap_alloc_new (w.alloc (.cells #[.int .u8 rk, .int .u16 rv] 32)) (.cells #[.int .i64 at_] 3)
  have hs : (w.alloc (.cells #[.int .u8 rk, .int .u16 rv] 32)).heap.size = w.heap.size + 1 := by simp
  rw [hs] at hB
  have hA2 := hk2.heap hA (by simp)
  have hk := hk1.trans hk2 (FSub.refl _ _)
  have hlt : ∀ q ∈ own v, q < w.heap.size := fun q hq => (row_base hT.at_.row q hq).2
  have HE := Lib.hid (endRet_any _ (hT.new hk) hok hfew id rk rv at_ h0 h1 w.heap.size (w.heap.size + 1) (fun hq => by have := hlt _ hq; omega) (fun hq => by have := hlt _ hq; omega) (cell_lit hA2 0 rfl) (cell_lit hA2 1 rfl) (cell_lit hB 0 rfl))
  have HK := Lib.hid hk
  have m2 : ((w.alloc (.cells #[.int .u8 rk, .int .u16 rv] 32)).alloc (.cells #[.int .i64 at_] 3)).cell? ⟨w.heap.size + 1, 0, none⟩ = some (.int .i64 at_) := cell_lit hB 0 rfl
  clear hT hok hk1 hA hk2 hB hA2 hk hs hlt
  go_enter Try.func24, Try.ntmps24
  go_wp2_with fail
  refine (HE.out).mono ?_; rintro e w1 ⟨rfl, hp⟩
  have HP := Lib.hid hp
  clear hp HE m2
  go_wp2_with fail
  go_ret
  obtain ⟨v', h1', h2', h3'⟩ := HP.out
  exact ⟨rfl, v', h1', (HK.out.more (by simp)).step h2' (fun q hq => hq), FSub.mono h3' HK.out.size⟩
end Go.Proofs.Ytjiglbjpmclncaa
/-
  The program's table keeps what the law's walks ask of one.
-/
namespace Go.Proofs.Ytjiglbjpmclncaa
open Go.RowKit Go.Maps
/-- Tables of the program, all that they can. -/
structure PAll extends PTabs where
  find : ∀ {w p O t}, At w p O t → TbOk t → t.L.length ≤ 1000 → ∀ (id : Int), 0 ≤ id → id < 65536 → Calls Try.prog 17 #[p, .int .u16 id] w fun e w' => e = .returned (.tuple #[.agg (rwC ((tbFind t id).getD rwZero)).toArray, .bool (tbFind t id).isSome]) ∧ Keeps [] w w'
  count : ∀ {w p O t}, At w p O t → t.L.length ≤ 1000 → ∀ (st : Int), Calls Try.prog 19 #[p, .int .u8 st] w fun e w' => e = .returned (.int .i64 (tbCount t st)) ∧ Keeps [] w w'
  copy : ∀ {w p O t}, At w p O t → t.L.length ≤ 1000 → Calls Try.prog 10 #[p] w fun e w' => ∃ p' O', e = .returned p' ∧ At w' p' O' t ∧ Keeps [] w w' ∧ ∀ q ∈ O', w.heap.size ≤ q
  ptr : ∀ {w p O t}, At w p O t → ∃ b, p = .pointer (some ⟨b, 0, none⟩)
def TbAt (w : World) (p : Value) (O : List Nat) (t : Tb) : Prop := ∃ b kb mb v, p = .pointer (some ⟨b, 0, none⟩) ∧ O = b :: kb :: mb :: own v ∧ TAt b kb mb w v t
theorem TPost.all {b kb mb : Nat} {w : World} {v : Value} {r : Int × Tb} {e : Ending} {w' : World} (h : TPost b kb mb w v r e w') : PPost TbAt w (.pointer (some ⟨b, 0, none⟩)) (b :: kb :: mb :: own v) r e w' := by
  obtain ⟨h1, v', h2, h3, h4⟩ := h
  refine ⟨h1, _, ⟨b, kb, mb, v', rfl, rfl, h2⟩, h3.more (fun q hq => List.mem_cons_of_mem _ hq), fun q hq => ?_⟩
  simp only [List.mem_cons] at hq
  rcases hq with rfl | rfl | rfl | hq
  · exact .inl (by simp)
  · exact .inl (by simp)
  · exact .inl (by simp)
  · exact (h4 q hq).imp (fun h => by simp [h]) id
theorem TbAt.below {w : World} {p : Value} {O : List Nat} {t : Tb} (h : TbAt w p O t) : ∀ q ∈ O, q < w.heap.size := by
  obtain ⟨b, kb, mb, v, rfl, rfl, hT⟩ := h
  intro q hq
  simp only [List.mem_cons] at hq
  rcases hq with rfl | rfl | rfl | hq
  · exact hT.lt
  · exact hT.at_.lt
  · exact hT.at_.map.lt
  · exact (row_base hT.at_.row q hq).2
theorem TbAt.keeps {w w' : World} {p : Value} {O : List Nat} {t : Tb} {F : List Nat} (h : TbAt w p O t) (hk : Keeps F w w') (hF : ∀ q ∈ O, q ∉ F) : TbAt w' p O t := by
  obtain ⟨b, kb, mb, v, rfl, rfl, hT⟩ := h
  exact ⟨b, kb, mb, v, rfl, rfl, hT.keeps hk (hF b (by simp)) (hF kb (by simp)) (hF mb (by simp)) (fun q hq => hF q (by simp [hq]))⟩
def tabP : PAll where
  At := TbAt
  below h := h.below
  keeps h hk hF := h.keeps hk hF
  inv h hok hn c id o at_ _ _ h0 h1 _ _ _ := by
    obtain ⟨b, kb, mb, v, rfl, rfl, hT⟩ := h
    exact (tbInvoke_any _ hT hok (by omega) c id o at_ h0 h1).mono fun e w' hp => hp.all
  ret h hok hn id rk rv at_ h0 h1 _ _ _ _ _ _ := by
    obtain ⟨b, kb, mb, v, rfl, rfl, hT⟩ := h
    exact (tbReturn_any _ hT hok (by omega) id rk rv at_ h0 h1).mono fun e w' hp => hp.all
  info h hok hn id at_ h0 h1 _ _ := by
    obtain ⟨b, kb, mb, v, rfl, rfl, hT⟩ := h
    exact (tbInfo_any _ hT hok (by omega) id at_ h0 h1).mono fun e w' hp => hp.all
  rem h hok hn id h0 h1 := by
    obtain ⟨b, kb, mb, v, rfl, rfl, hT⟩ := h
    exact (tbRemove_any _ hT hok (by omega) id h0 h1).mono fun e w' hp => hp.all
  settle h hok hn := by
    obtain ⟨b, kb, mb, v, rfl, rfl, hT⟩ := h
    exact (tbSettle_any _ hT hok (by omega)).mono fun e w' hp => hp.all
  Rdy _ _ := True
  rdy _ _ := trivial
  new {N w} _ _ := (tbNew_any w).mono fun e w' hp => by
    obtain ⟨b, kb, mb, rfl, hT, hk, h1, h2, h3⟩ := hp
    refine ⟨_, _, rfl, ⟨b, kb, mb, _, rfl, rfl, hT⟩, hk, fun q hq => ?_⟩
    simp [own, Value.ownBlock] at hq
    omega
  rows h hok hn := by
    obtain ⟨b, kb, mb, v, rfl, rfl, hT⟩ := h
    exact tbRows_any _ hT (by omega)
  before := tbBefore_any
  find h hok hn id h0 h1 := by
    obtain ⟨b, kb, mb, v, rfl, rfl, hT⟩ := h
    exact tbFindF_any _ hT hok (by omega) id h0 h1
  count h hn st := by
    obtain ⟨b, kb, mb, v, rfl, rfl, hT⟩ := h
    exact tbCount_any _ hT (by omega) st
  copy h hn := by
    obtain ⟨b, kb, mb, v, rfl, rfl, hT⟩ := h
    refine (tbCopy_any _ hT (by omega)).mono fun e w' hp => ?_
    obtain ⟨b', kb', mb', v', rfl, hT', hk, h1, h2, h3, h4⟩ := hp
    refine ⟨_, _, rfl, ⟨b', kb', mb', v', rfl, rfl, hT'⟩, hk, fun q hq => ?_⟩
    simp only [List.mem_cons] at hq
    rcases hq with rfl | rfl | rfl | hq
    · exact h1
    · exact h2
    · exact h3
    · exact h4 q hq
  ptr h := by
    obtain ⟨b, kb, mb, v, rfl, rfl, hT⟩ := h
    exact ⟨b, rfl⟩
end Go.Proofs.Ytjiglbjpmclncaa
/-
  The program's table: pointers to none, tables that nobody made.
-/
namespace Go.Proofs.Ytjiglbjpmclncaa
open Go.RowKit Go.Maps
set_option maxHeartbeats 8000000
set_option maxRecDepth 100000
theorem nilInvoke (w : World) (c id : Int) (o : Opn) (at_ : Int) : Calls Try.prog 14 #[.pointer none, .int .u8 c, .int .u16 id, o.val, .int .i64 at_] w fun e w' => e = .returned (.int .i64 1) ∧ Keeps [] w w' := by
  have HK := Lib.hid ((Keeps.refl [] w).alloc (.cells #[.int .u8 o.f, .int .u8 o.o, .int .u8 o.k, .int .u16 o.a, .int .u16 o.b] 30))
  have HM := Lib.hid (fun w' => tbMade_none w')
  unfold Opn.val
  go_enter Try.func14, Try.ntmps14
  go_wp2_with fail
  generalize w.alloc _ = W at *
  refine (HM.out W).mono ?_; rintro e w1 ⟨rfl, rfl⟩
  go_wp2_with fail
  go_ret
  exact ⟨rfl, HK.out⟩
theorem nilInfo (w : World) (id at_ : Int) : Calls Try.prog 25 #[.pointer none, .int .u16 id, .int .i64 at_] w fun e w' => e = .returned (.int .i64 1) ∧ Keeps [] w w' := by
  have HE : Calls Try.prog 42 #[.pointer none, .int .u16 id, .int .i64 at_, .func (.func 44) #[] #[]] w fun e w' => e = .returned (.int .i64 1) ∧ w' = w := by
    have HM := Lib.hid (tbMade_none w)
    go_enter Try.func42, Try.ntmps42
    go_wp2_with fail
    refine (HM.out).mono ?_; rintro e w1 ⟨rfl, rfl⟩
    go_wp2_with fail
    go_ret
    exact ⟨rfl, rfl⟩
  have HE := Lib.hid HE
  go_enter Try.func25, Try.ntmps25
  go_wp2_with fail
  refine (HE.out).mono ?_; rintro e w1 ⟨rfl, rfl⟩
  go_wp2_with fail
  go_ret
  exact ⟨rfl, Keeps.refl _ _⟩
theorem nilSettle (w : World) : Calls Try.prog 12 #[.pointer none] w fun e w' => e = .returned (.int .i64 0) ∧ Keeps [] w w' := by
  have HM := Lib.hid (tbMade_none w)
  go_enter Try.func12, Try.ntmps12
  go_wp2_with fail
  refine (HM.out).mono ?_; rintro e w1 ⟨rfl, rfl⟩
  go_wp2_with fail
  go_ret
  exact ⟨rfl, Keeps.refl _ _⟩
theorem nilCount (w : World) (st : Int) : Calls Try.prog 19 #[.pointer none, .int .u8 st] w fun e w' => e = .returned (.int .i64 0) ∧ Keeps [] w w' := by
  have HM := Lib.hid (tbMade_none w)
  go_enter Try.func19, Try.ntmps19
  go_wp2_with fail
  refine (HM.out).mono ?_; rintro e w1 ⟨rfl, rfl⟩
  go_wp2_with fail
  go_ret
  exact ⟨rfl, Keeps.refl _ _⟩
theorem nilFind (w : World) (id : Int) : Calls Try.prog 17 #[.pointer none, .int .u16 id] w fun e w' => e = .returned (.tuple #[.agg (rwC rwZero).toArray, .bool false]) ∧ Keeps [] w w' := by
  have HK := Lib.hid ((Keeps.refl [] w).alloc (.cells (rwC rwZero).toArray 42))
  have HR := Lib.hid (heap_alloc_new w (.cells (rwC rwZero).toArray 42))
  have HM := Lib.hid (tbMade_none (w.alloc (.cells (rwC rwZero).toArray 42)))
  have HN := Lib.hid (tbNone_any (w.alloc (.cells (rwC rwZero).toArray 42)))
  go_enter Try.func17, Try.ntmps17
  go_wp2_with fail
  refine (HM.out).mono ?_; rintro e w1 ⟨rfl, rfl⟩
  clear HM
  generalize w.alloc _ = W at *
  generalize hRe : w.heap.size = R at *
  have HRE := Lib.hid (Nat.le_of_eq hRe)
  clear hRe
  go_wp2_with fail
  refine (HN.out).mono ?_; rintro e w1 ⟨rfl, hk⟩
  have HR1 := Lib.hid (hk.heap HR.out (by simp))
  have HK1 := Lib.hid (HK.out.trans hk (FSub.refl _ _))
  clear hk HN
  go_wp2_with (first | ((with_reducible refine wpList_putP (old := rwZero) (r := rwZero) ?_ ?_ HR1.out ?_); exact rfl; exact rfl))
  intro W2 h2 hk2
  have HK2 := Lib.hid (HK1.out.trans hk2 (fun q hq => .inr (by simp at hq; have := HRE.out; omega)))
  clear hk2
  go_wp2_with fail
  exact bodyPost_ret (results_rowP2 (x := rwZero) rfl _ _ _ rfl h2) rfl ⟨rfl, HK2.out⟩
theorem zeroRemove (w : World) {b : Nat} (hc : w.cell? ⟨b, 0, none⟩ = some (.pointer none)) (id : Int) : Calls Try.prog 13 #[.pointer (some ⟨b, 0, none⟩), .int .u16 id] w fun e w' => e = .returned (.int .i64 1) ∧ Keeps [] w w' := by
  have HM := Lib.hid (tbMade_zero w hc)
  go_enter Try.func13, Try.ntmps13
  go_wp2_with fail
  refine (HM.out).mono ?_; rintro e w1 ⟨rfl, rfl⟩
  go_wp2_with fail
  go_ret
  exact ⟨rfl, Keeps.refl _ _⟩
theorem zeroRows (w : World) {b : Nat} (hc : w.cell? ⟨b, 0, none⟩ = some (.pointer none)) : Calls Try.prog 21 #[.pointer (some ⟨b, 0, none⟩)] w fun e w' => e = .returned (.slice none 0 0) ∧ Keeps [] w w' := by
  have HM := Lib.hid (tbMade_zero w hc)
  go_enter Try.func21, Try.ntmps21
  go_wp2_with fail
  refine (HM.out).mono ?_; rintro e w1 ⟨rfl, rfl⟩
  go_wp2_with fail
  go_ret
  exact ⟨rfl, Keeps.refl _ _⟩
theorem zeroCopy (w : World) {b : Nat} (hc : w.cell? ⟨b, 0, none⟩ = some (.pointer none)) : Calls Try.prog 10 #[.pointer (some ⟨b, 0, none⟩)] w fun e w' => e = .returned (.pointer none) ∧ Keeps [] w w' := by
  have HM := Lib.hid (tbMade_zero w hc)
  go_enter Try.func10, Try.ntmps10
  go_wp2_with fail
  refine (HM.out).mono ?_; rintro e w1 ⟨rfl, rfl⟩
  go_wp2_with fail
  go_ret
  exact ⟨rfl, Keeps.refl _ _⟩
theorem zeroReturn (w : World) {b : Nat} (hc : w.cell? ⟨b, 0, none⟩ = some (.pointer none)) (id rk rv at_ : Int) : Calls Try.prog 24 #[.pointer (some ⟨b, 0, none⟩), .int .u16 id, .agg #[.int .u8 rk, .int .u16 rv], .int .i64 at_] w fun e w' => e = .returned (.int .i64 1) ∧ Keeps [] w w' := by
  have HE : ∀ (w : World) (q1 q2 : Nat), w.cell? ⟨b, 0, none⟩ = some (.pointer none) → Calls Try.prog 42 #[.pointer (some ⟨b, 0, none⟩), .int .u16 id, .int .i64 at_, .func (.func 43) #[] #[.pointer (some ⟨q1, 0, none⟩), .pointer (some ⟨q2, 0, none⟩)]] w fun e w' => e = .returned (.int .i64 1) ∧ w' = w := by
    intro w q1 q2 hc
    have HM := Lib.hid (tbMade_zero w hc)
    clear hc
    go_enter Try.func42, Try.ntmps42
    go_wp2_with fail
    refine (HM.out).mono ?_; rintro e w1 ⟨rfl, rfl⟩
    go_wp2_with fail
    go_ret
    exact ⟨rfl, rfl⟩
  have HE := Lib.hid HE
  have hk1 := (Keeps.refl [] w).alloc (.cells #[.int .u8 rk, .int .u16 rv] 32)
  have hk2 := (Keeps.refl [] (w.alloc (.cells #[.int .u8 rk, .int .u16 rv] 32))).alloc (.cells #[.int .i64 at_] 3)
  have hB := heap_alloc_new (w.alloc (.cells #[.int .u8 rk, .int .u16 rv] 32)) (.cells #[.int .i64 at_] 3)
  have hs : (w.alloc (.cells #[.int .u8 rk, .int .u16 rv] 32)).heap.size = w.heap.size + 1 := by simp
  rw [hs] at hB
  have hk := hk1.trans hk2 (FSub.refl _ _)
  have HK := Lib.hid hk
  have HC := Lib.hid (hk.cell hc (by simp))
  have m2 : ((w.alloc (.cells #[.int .u8 rk, .int .u16 rv] 32)).alloc (.cells #[.int .i64 at_] 3)).cell? ⟨w.heap.size + 1, 0, none⟩ = some (.int .i64 at_) := cell_lit hB 0 rfl
  clear hk1 hk2 hB hk hs hc
  go_enter Try.func24, Try.ntmps24
  go_wp2_with fail
  refine (HE.out _ _ _ HC.out).mono ?_; rintro e w1 ⟨rfl, rfl⟩
  clear m2 HE
  go_wp2_with fail
  go_ret
  exact ⟨rfl, HK.out⟩
end Go.Proofs.Ytjiglbjpmclncaa
/-
  The law's TableKnown: the chapter's examples, and tables that are none.
-/
namespace Go.Proofs.Ytjiglbjpmclncaa
open Go.RowKit Go.Maps
theorem Way.keep {P : PTab} {w0 w w' : World} {p : Value} {O : List Nat} {t : Tb} (h : Way P w0 w p O t) (hk : Keeps [] w w') : Way P w0 w' p O t := ⟨P.keeps h.at_ hk (by simp), h.k.trans hk (FSub.refl _ _), h.o⟩
def opZ : Opn := ⟨0, 0, 0, 0, 0⟩
def kn1 : Tb := ⟨[rwB, rwD], 5⟩
def kn2 : Tb := ⟨[rwD], 5⟩
def kn3 : Tb := ⟨[rwD, rwNew 0 9 opZ 2305843009213693952], 2305843009213693952⟩
theorem kn_1 : (((tbSettle gv5).1 : Int), (tbSettle gv5).2) = (1, kn1) := rfl
theorem kn_2 : tbRem kn1 2 = (0, kn2) := rfl
theorem kn_3 : tbRem kn2 2 = (7, kn2) := rfl
theorem kn_4 : ((tbCount kn2 0 : Nat) : Int) = 1 := rfl
theorem kn_5 : tbInv kn2 0 9 opZ 2305843009213693953 = (2, kn2) := rfl
theorem kn_6 : tbInv kn2 0 9 opZ (-1) = (2, kn2) := rfl
theorem kn_7 : tbInv kn2 0 9 opZ 2305843009213693952 = (0, kn3) := rfl
theorem kn_8 : tbEnd kn3 9 true 0 0 2305843009213693952 = (2, kn3) := rfl
theorem opZ_in : opZ.In := by constructor <;> decide
theorem knOk : TbOk kn1 ∧ TbOk kn2 ∧ TbOk kn3 := by
  have h1 : TbOk kn1 := gvOk.2.2.2.2.settle
  have h2 : TbOk kn2 := (kn_2 ▸ h1.rem 2 : TbOk ((0 : Int), kn2).2)
  have h3 : TbOk kn3 := (kn_7 ▸ h2.inv (c := 0) (id := 9) (at_ := 2305843009213693952) (o := opZ) (by decide) (by decide) opZ_in : TbOk ((0 : Int), kn3).2)
  exact ⟨h1, h2, h3⟩
set_option maxHeartbeats 8000000
set_option maxRecDepth 100000
theorem TableKnown_any (w : World) : Calls Try.prog 6 #[] w fun e w' => e = .returned (.bool true) ∧ Keeps [] w w' := by
  have K1 := Lib.hid knOk.1; have K2 := Lib.hid knOk.2.1; have K3 := Lib.hid knOk.2.2; have K5 := Lib.hid gvOk.2.2.2.2; have HZO := Lib.hid opZ_in
  have HGIVEN := Lib.hid (given8_any tabP.toPTabs w (N := 0) trivial (Nat.zero_le _))
  go_enter Try.func6, Try.ntmps6
  go_wp2_with fail
  refine (HGIVEN.out).mono ?_; rintro e v0 ⟨p, O0, rfl, hY⟩
  have HY0 := Lib.hid hY
  obtain ⟨b, rfl⟩ := tabP.ptr hY.at_
  clear hY HGIVEN
  have HC := Lib.hid (tabP.rows HY0.out.at_ K5.out (by decide))
  go_wp2_with fail
  refine (HC.out).mono ?_; rintro e v1 ⟨lv, rfl, hrow, hk⟩
  have HY1 := Lib.hid (HY0.out.keep hk)
  obtain ⟨g, cap, rfl, hc, hm, hbg, hg, hcell⟩ := hrow.at (by decide)
  have hA := hcell 0 (by decide); have hB := hcell 1 (by decide); have hD := hcell 2 (by decide)
  have HG := Lib.hid (show g ∉ O0 from fun hq => by have := tabP.below HY0.out.at_ g hq; omega)
  have HA1 := Lib.hid (show v1.rangeAt g 0 (rwC rwA) from hA); have HB1 := Lib.hid (show v1.rangeAt g 12 (rwC rwB) from hB); have HD1 := Lib.hid (show v1.rangeAt g 24 (rwC rwD) from hD)
  have hlen : gv5.L.length = 3 := rfl
  rw [hlen] at hc
  simp only [hlen]
  clear hrow hk hcell hbg hA hB hD HC HY0 hlen
  obtain ⟨S, hS⟩ : ∃ S : World → Prop, S = fun y => Keeps O0 v1 y := ⟨_, rfl⟩
  have HSE := Lib.hid hS
  have hSD : S v1.drew := by rw [hS]; exact (Keeps.refl _ _).drew
  have HSA := Lib.hid (fun (w' : World) (h : S w') => show w'.rangeAt g 0 (rwC rwA) from by rw [hS] at h; exact fun i u hi => h.cell (HA1.out i u hi) HG.out)
  have HSB := Lib.hid (fun (w' : World) (h : S w') => show w'.rangeAt g 12 (rwC rwB) from by rw [hS] at h; exact fun i u hi => h.cell (HB1.out i u hi) HG.out)
  have HSDD := Lib.hid (fun (w' : World) (h : S w') => show w'.rangeAt g 24 (rwC rwD) from by rw [hS] at h; exact fun i u hi => h.cell (HD1.out i u hi) HG.out)
  clear hS HA1 HB1 HD1
  go_wp2_with fail
  have HX1 := Lib.hid (show Keeps O0 v1 v1.drew from (Keeps.refl _ _).drew)
  have HF1 := Lib.hid (FSub.refl O0 v1.heap.size)
  have HY2 := Lib.hid (HY1.out.keep (Keeps.refl [] v1).drew)
  refine wp_region_noPanic ?_
  refine wp_region_held_drew (S := S) (by kernel_rfl) hSD (fun hHeld => ?_)
  apply wpAnyH_ready (rs := [0])
  · kernel_rfl
  · simp
  apply AllReadyH.cons (hs := AllReadyH.nil)
  · simp only [List.getElem?_toArray]; rfl
  intro K hK
  rw [if_pos (by rfl)]
  refine wp_call8 7 _ _ rfl [] rfl Try.func7 (by kernel_rfl) (by kernel_rfl) ((works8_any tabP.toPTabs v1.drew (N := 0) trivial (Nat.zero_le _)).mono ?_)
  rintro e v2 ⟨rfl, hk⟩
  refine ⟨_, rfl, ?_⟩
  have HX2 := Lib.hid (HX1.out.trans hk (by intro q hq; simp at hq))
  have HZ2 := Lib.hid (HY2.out.keep hk)
  clear hk HX1 HY1 HY2
  refine hK.out _ _ ?_ (fun hHeld => ?_)
  · exact (by rw [HSE.out]; exact HX2.out)
  clear hK K
  try simp only [Act.put, List.setIfInBounds_toArray, List.set_cons_zero, List.set_cons_succ]
  apply wpAnyH_take (i := 1)
  · simp only [List.getElem?_toArray]; rfl
  · kernel_rfl
  · kernel_rfl
  · kernel_rfl
  · exact fun _ _ _ h => h
  · exact Or.inl ⟨by rfl, by intro w hSw; go_simp; try with_reducible rfl⟩
  · assumption
  try simp only [Act.put, List.setIfInBounds_toArray, List.set_cons_zero, List.set_cons_succ]
  apply wpAnyH_take (i := 2)
  · simp only [List.getElem?_toArray]; rfl
  · kernel_rfl
  · kernel_rfl
  · kernel_rfl
  · exact fun _ _ _ h => h
  · exact Or.inl ⟨by rfl, by intro w hSw; go_simp; try with_reducible rfl⟩
  · assumption
  try simp only [Act.put, List.setIfInBounds_toArray, List.set_cons_zero, List.set_cons_succ]
  apply wpAnyH_take (i := 3)
  · simp only [List.getElem?_toArray]; rfl
  · kernel_rfl
  · kernel_rfl
  · kernel_rfl
  · exact fun _ _ _ h => h
  · exact Or.inl ⟨by rfl, by intro w hSw; go_simp; try with_reducible rfl⟩
  · assumption
  try simp only [Act.put, List.setIfInBounds_toArray, List.set_cons_zero, List.set_cons_succ]
  apply wpAnyH_take (i := 4)
  · simp only [List.getElem?_toArray]; rfl
  · kernel_rfl
  · kernel_rfl
  · kernel_rfl
  · exact fun _ _ _ h => h
  · exact Or.inl ⟨by rfl, by intro w hSw; go_simp; try with_reducible rfl⟩
  · assumption
  try simp only [Act.put, List.setIfInBounds_toArray, List.set_cons_zero, List.set_cons_succ]
  apply wpAnyH_take (i := 5)
  · simp only [List.getElem?_toArray]; rfl
  · kernel_rfl
  · kernel_rfl
  · kernel_rfl
  · exact fun _ _ _ h => h
  · exact yields_rowP rwA (by rfl) _ rfl g 0 rfl HSA.out
  · assumption
  try simp only [Act.put, List.setIfInBounds_toArray, List.set_cons_zero, List.set_cons_succ]
  apply wpAnyH_take (i := 6)
  · simp only [List.getElem?_toArray]; rfl
  · kernel_rfl
  · kernel_rfl
  · kernel_rfl
  · exact fun _ _ _ h => h
  · exact Or.inl ⟨by rfl, by intro w hSw; go_simp; try with_reducible rfl⟩
  · assumption
  try simp only [Act.put, List.setIfInBounds_toArray, List.set_cons_zero, List.set_cons_succ]
  apply wpAnyH_take (i := 7)
  · simp only [List.getElem?_toArray]; rfl
  · kernel_rfl
  · kernel_rfl
  · kernel_rfl
  · exact fun _ _ _ h => h
  · exact Or.inl ⟨by rfl, by intro w hSw; go_simp; try with_reducible rfl⟩
  · assumption
  try simp only [Act.put, List.setIfInBounds_toArray, List.set_cons_zero, List.set_cons_succ]
  apply wpAnyH_take (i := 8)
  · simp only [List.getElem?_toArray]; rfl
  · kernel_rfl
  · kernel_rfl
  · kernel_rfl
  · exact fun _ _ _ h => h
  · exact yields_rowP rwB (by rfl) _ rfl g 12 rfl HSB.out
  · assumption
  try simp only [Act.put, List.setIfInBounds_toArray, List.set_cons_zero, List.set_cons_succ]
  apply wpAnyH_ready (rs := [9])
  · kernel_rfl
  · simp
  apply AllReadyH.cons (hs := AllReadyH.nil)
  · simp only [List.getElem?_toArray]; rfl
  intro K hK
  rw [if_pos (by rfl)]
  refine wp_call8 22 _ _ rfl [.agg (rwC rwA).toArray, .agg (rwC rwB).toArray] rfl Try.func22 (by kernel_rfl) (by kernel_rfl) ((show Calls Try.prog 22 #[.agg (rwC rwA).toArray, .agg (rwC rwB).toArray] v2 fun e w' => e = .returned (.bool false) ∧ Keeps [] v2 w' from tabP.before v2 rwA rwB).mono ?_)
  rintro e v3 ⟨rfl, hk⟩
  refine ⟨_, rfl, ?_⟩
  have HX3 := Lib.hid (HX2.out.trans hk (by intro q hq; simp at hq))
  have HZ3 := Lib.hid (HZ2.out.keep hk)
  clear hk HX2 HZ2
  refine hK.out _ _ ?_ (fun hHeld => ?_)
  · exact (by rw [HSE.out]; exact HX3.out)
  clear hK K
  try simp only [Act.put, List.setIfInBounds_toArray, List.set_cons_zero, List.set_cons_succ]
  apply wpAnyH_take (i := 10)
  · simp only [List.getElem?_toArray]; rfl
  · kernel_rfl
  · kernel_rfl
  · kernel_rfl
  · exact fun _ _ _ h => h
  · exact Or.inl ⟨by rfl, by intro w hSw; go_simp; try with_reducible rfl⟩
  · assumption
  try simp only [Act.put, List.setIfInBounds_toArray, List.set_cons_zero, List.set_cons_succ]
  apply wpAnyH_take (i := 11)
  · simp only [List.getElem?_toArray]; rfl
  · kernel_rfl
  · kernel_rfl
  · kernel_rfl
  · exact fun _ _ _ h => h
  · exact Or.inl ⟨by rfl, by intro w hSw; go_simp; try with_reducible rfl⟩
  · assumption
  try simp only [Act.put, List.setIfInBounds_toArray, List.set_cons_zero, List.set_cons_succ]
  apply wpAnyH_take (i := 12)
  · simp only [List.getElem?_toArray]; rfl
  · kernel_rfl
  · kernel_rfl
  · kernel_rfl
  · exact fun _ _ _ h => h
  · exact Or.inl ⟨by rfl, by intro w hSw; go_simp; try with_reducible rfl⟩
  · assumption
  try simp only [Act.put, List.setIfInBounds_toArray, List.set_cons_zero, List.set_cons_succ]
  apply wpAnyH_take (i := 13)
  · simp only [List.getElem?_toArray]; rfl
  · kernel_rfl
  · kernel_rfl
  · kernel_rfl
  · exact fun _ _ _ h => h
  · exact Or.inl ⟨by rfl, by intro w hSw; go_simp; try with_reducible rfl⟩
  · assumption
  try simp only [Act.put, List.setIfInBounds_toArray, List.set_cons_zero, List.set_cons_succ]
  apply wpAnyH_take (i := 14)
  · simp only [List.getElem?_toArray]; rfl
  · kernel_rfl
  · kernel_rfl
  · kernel_rfl
  · exact fun _ _ _ h => h
  · exact yields_rowP rwD (by rfl) _ rfl g 24 rfl HSDD.out
  · assumption
  try simp only [Act.put, List.setIfInBounds_toArray, List.set_cons_zero, List.set_cons_succ]
  apply wpAnyH_take (i := 15)
  · simp only [List.getElem?_toArray]; rfl
  · kernel_rfl
  · kernel_rfl
  · kernel_rfl
  · exact fun _ _ _ h => h
  · exact Or.inl ⟨by rfl, by intro w hSw; go_simp; try with_reducible rfl⟩
  · assumption
  try simp only [Act.put, List.setIfInBounds_toArray, List.set_cons_zero, List.set_cons_succ]
  apply wpAnyH_take (i := 16)
  · simp only [List.getElem?_toArray]; rfl
  · kernel_rfl
  · kernel_rfl
  · kernel_rfl
  · exact fun _ _ _ h => h
  · exact Or.inl ⟨by rfl, by intro w hSw; go_simp; try with_reducible rfl⟩
  · assumption
  try simp only [Act.put, List.setIfInBounds_toArray, List.set_cons_zero, List.set_cons_succ]
  apply wpAnyH_take (i := 17)
  · simp only [List.getElem?_toArray]; rfl
  · kernel_rfl
  · kernel_rfl
  · kernel_rfl
  · exact fun _ _ _ h => h
  · exact yields_rowP rwA (by rfl) _ rfl g 0 rfl HSA.out
  · assumption
  try simp only [Act.put, List.setIfInBounds_toArray, List.set_cons_zero, List.set_cons_succ]
  apply wpAnyH_ready (rs := [18])
  · kernel_rfl
  · simp
  apply AllReadyH.cons (hs := AllReadyH.nil)
  · simp only [List.getElem?_toArray]; rfl
  intro K hK
  rw [if_pos (by rfl)]
  refine wp_call8 22 _ _ rfl [.agg (rwC rwD).toArray, .agg (rwC rwA).toArray] rfl Try.func22 (by kernel_rfl) (by kernel_rfl) ((show Calls Try.prog 22 #[.agg (rwC rwD).toArray, .agg (rwC rwA).toArray] v3 fun e w' => e = .returned (.bool false) ∧ Keeps [] v3 w' from tabP.before v3 rwD rwA).mono ?_)
  rintro e v4 ⟨rfl, hk⟩
  refine ⟨_, rfl, ?_⟩
  have HX4 := Lib.hid (HX3.out.trans hk (by intro q hq; simp at hq))
  have HZ4 := Lib.hid (HZ3.out.keep hk)
  clear hk HX3 HZ3
  refine hK.out _ _ ?_ (fun hHeld => ?_)
  · exact (by rw [HSE.out]; exact HX4.out)
  clear hK K
  try simp only [Act.put, List.setIfInBounds_toArray, List.set_cons_zero, List.set_cons_succ]
  apply wpAnyH_take (i := 19)
  · simp only [List.getElem?_toArray]; rfl
  · kernel_rfl
  · kernel_rfl
  · kernel_rfl
  · exact fun _ _ _ h => h
  · exact Or.inl ⟨by rfl, by intro w hSw; go_simp; try with_reducible rfl⟩
  · assumption
  try simp only [Act.put, List.setIfInBounds_toArray, List.set_cons_zero, List.set_cons_succ]
  apply wpAnyH_take (i := 20)
  · simp only [List.getElem?_toArray]; rfl
  · kernel_rfl
  · kernel_rfl
  · kernel_rfl
  · exact fun _ _ _ h => h
  · exact Or.inl ⟨by rfl, by intro w hSw; go_simp; try with_reducible rfl⟩
  · assumption
  try simp only [Act.put, List.setIfInBounds_toArray, List.set_cons_zero, List.set_cons_succ]
  apply wpAnyH_take (i := 21)
  · simp only [List.getElem?_toArray]; rfl
  · kernel_rfl
  · kernel_rfl
  · kernel_rfl
  · exact fun _ _ _ h => h
  · exact Or.inl ⟨by rfl, by intro w hSw; go_simp; try with_reducible rfl⟩
  · assumption
  try simp only [Act.put, List.setIfInBounds_toArray, List.set_cons_zero, List.set_cons_succ]
  apply wpAnyH_take (i := 22)
  · simp only [List.getElem?_toArray]; rfl
  · kernel_rfl
  · kernel_rfl
  · kernel_rfl
  · exact fun _ _ _ h => h
  · exact Or.inl ⟨by rfl, by intro w hSw; go_simp; try with_reducible rfl⟩
  · assumption
  try simp only [Act.put, List.setIfInBounds_toArray, List.set_cons_zero, List.set_cons_succ]
  apply wpAnyH_take (i := 23)
  · simp only [List.getElem?_toArray]; rfl
  · kernel_rfl
  · kernel_rfl
  · kernel_rfl
  · exact fun _ _ _ h => h
  · exact yields_rowP rwB (by rfl) _ rfl g 12 rfl HSB.out
  · assumption
  try simp only [Act.put, List.setIfInBounds_toArray, List.set_cons_zero, List.set_cons_succ]
  apply wpAnyH_take (i := 24)
  · simp only [List.getElem?_toArray]; rfl
  · kernel_rfl
  · kernel_rfl
  · kernel_rfl
  · exact fun _ _ _ h => h
  · exact Or.inl ⟨by rfl, by intro w hSw; go_simp; try with_reducible rfl⟩
  · assumption
  try simp only [Act.put, List.setIfInBounds_toArray, List.set_cons_zero, List.set_cons_succ]
  apply wpAnyH_take (i := 25)
  · simp only [List.getElem?_toArray]; rfl
  · kernel_rfl
  · kernel_rfl
  · kernel_rfl
  · exact fun _ _ _ h => h
  · exact Or.inl ⟨by rfl, by intro w hSw; go_simp; try with_reducible rfl⟩
  · assumption
  try simp only [Act.put, List.setIfInBounds_toArray, List.set_cons_zero, List.set_cons_succ]
  apply wpAnyH_take (i := 26)
  · simp only [List.getElem?_toArray]; rfl
  · kernel_rfl
  · kernel_rfl
  · kernel_rfl
  · exact fun _ _ _ h => h
  · exact yields_rowP rwD (by rfl) _ rfl g 24 rfl HSDD.out
  · assumption
  try simp only [Act.put, List.setIfInBounds_toArray, List.set_cons_zero, List.set_cons_succ]
  apply wpAnyH_ready (rs := [27])
  · kernel_rfl
  · simp
  apply AllReadyH.cons (hs := AllReadyH.nil)
  · simp only [List.getElem?_toArray]; rfl
  intro K hK
  rw [if_pos (by rfl)]
  refine wp_call8 22 _ _ rfl [.agg (rwC rwB).toArray, .agg (rwC rwD).toArray] rfl Try.func22 (by kernel_rfl) (by kernel_rfl) ((show Calls Try.prog 22 #[.agg (rwC rwB).toArray, .agg (rwC rwD).toArray] v4 fun e w' => e = .returned (.bool false) ∧ Keeps [] v4 w' from tabP.before v4 rwB rwD).mono ?_)
  rintro e v5 ⟨rfl, hk⟩
  refine ⟨_, rfl, ?_⟩
  have HX5 := Lib.hid (HX4.out.trans hk (by intro q hq; simp at hq))
  have HZ5 := Lib.hid (HZ4.out.keep hk)
  clear hk HX4 HZ4
  refine hK.out _ _ ?_ (fun hHeld => ?_)
  · exact (by rw [HSE.out]; exact HX5.out)
  clear hK K
  try simp only [Act.put, List.setIfInBounds_toArray, List.set_cons_zero, List.set_cons_succ]
  apply wpAnyH_take (i := 28)
  · simp only [List.getElem?_toArray]; rfl
  · kernel_rfl
  · kernel_rfl
  · kernel_rfl
  · exact fun _ _ _ h => h
  · exact Or.inl ⟨by rfl, by intro w hSw; go_simp; try with_reducible rfl⟩
  · assumption
  try simp only [Act.put, List.setIfInBounds_toArray, List.set_cons_zero, List.set_cons_succ]
  apply wpAnyH_take (i := 29)
  · simp only [List.getElem?_toArray]; rfl
  · kernel_rfl
  · kernel_rfl
  · kernel_rfl
  · exact fun _ _ _ h => h
  · exact Or.inl ⟨by rfl, by intro w hSw; go_simp; try with_reducible rfl⟩
  · assumption
  try simp only [Act.put, List.setIfInBounds_toArray, List.set_cons_zero, List.set_cons_succ]
  clear HSA HSB HSDD
  apply wpAnyH_take (i := 30)
  · simp only [List.getElem?_toArray]; rfl
  · kernel_rfl
  · kernel_rfl
  · kernel_rfl
  · exact fun _ _ _ h => h
  · exact Or.inl ⟨by rfl, by intro w hSw; go_simp; try with_reducible rfl⟩
  · assumption
  try simp only [Act.put, List.setIfInBounds_toArray, List.set_cons_zero, List.set_cons_succ]
  have HC := Lib.hid (tabP.settle HZ5.out.at_ K5.out (by decide))
  rw [kn_1] at HC
  apply wpAnyH_ready (rs := [31])
  · kernel_rfl
  · simp
  apply AllReadyH.cons (hs := AllReadyH.nil)
  · simp only [List.getElem?_toArray]; rfl
  intro K hK
  rw [if_pos (by rfl)]
  refine wp_call8 12 _ _ rfl [.pointer (some ⟨b, 0, none⟩)] rfl Try.func12 (by kernel_rfl) (by kernel_rfl) ((HC.out).mono ?_)
  rintro e v6 hp
  obtain ⟨rfl, P6, hY, hk, hf⟩ := HZ5.out.next hp
  refine ⟨_, rfl, ?_⟩
  have HX6 := Lib.hid (HX5.out.trans hk HF1.out)
  have HF2 := Lib.hid (FSub.trans hf HF1.out HX5.out.size (Nat.le_refl _))
  have HZ6 := Lib.hid hY
  clear hp hY hf HF1
  clear hk HC HX5 HZ5
  refine hK.out _ _ ?_ (fun hHeld => ?_)
  · exact (by rw [HSE.out]; exact HX6.out)
  clear hK K
  try simp only [Act.put, List.setIfInBounds_toArray, List.set_cons_zero, List.set_cons_succ]
  apply wpAnyH_take (i := 32)
  · simp only [List.getElem?_toArray]; rfl
  · kernel_rfl
  · kernel_rfl
  · kernel_rfl
  · exact fun _ _ _ h => h
  · exact Or.inl ⟨by rfl, by intro w hSw; go_simp; try with_reducible rfl⟩
  · assumption
  try simp only [Act.put, List.setIfInBounds_toArray, List.set_cons_zero, List.set_cons_succ]
  apply wpAnyH_take (i := 33)
  · simp only [List.getElem?_toArray]; rfl
  · kernel_rfl
  · kernel_rfl
  · kernel_rfl
  · exact fun _ _ _ h => h
  · exact Or.inl ⟨by rfl, by intro w hSw; go_simp; try with_reducible rfl⟩
  · assumption
  try simp only [Act.put, List.setIfInBounds_toArray, List.set_cons_zero, List.set_cons_succ]
  apply wpAnyH_take (i := 34)
  · simp only [List.getElem?_toArray]; rfl
  · kernel_rfl
  · kernel_rfl
  · kernel_rfl
  · exact fun _ _ _ h => h
  · exact Or.inl ⟨by rfl, by intro w hSw; go_simp; try with_reducible rfl⟩
  · assumption
  try simp only [Act.put, List.setIfInBounds_toArray, List.set_cons_zero, List.set_cons_succ]
  apply wpAnyH_take (i := 35)
  · simp only [List.getElem?_toArray]; rfl
  · kernel_rfl
  · kernel_rfl
  · kernel_rfl
  · exact fun _ _ _ h => h
  · exact Or.inl ⟨by rfl, by intro w hSw; go_simp; try with_reducible rfl⟩
  · assumption
  try simp only [Act.put, List.setIfInBounds_toArray, List.set_cons_zero, List.set_cons_succ]
  have HC := Lib.hid (tabP.rem HZ6.out.at_ K1.out (by decide) 2 (by decide) (by decide))
  rw [kn_2] at HC
  apply wpAnyH_ready (rs := [36])
  · kernel_rfl
  · simp
  apply AllReadyH.cons (hs := AllReadyH.nil)
  · simp only [List.getElem?_toArray]; rfl
  intro K hK
  rw [if_pos (by rfl)]
  refine wp_call8 13 _ _ rfl [.pointer (some ⟨b, 0, none⟩), .int .u16 2] rfl Try.func13 (by kernel_rfl) (by kernel_rfl) ((HC.out).mono ?_)
  rintro e v7 hp
  obtain ⟨rfl, P7, hY, hk, hf⟩ := HZ6.out.next hp
  refine ⟨_, rfl, ?_⟩
  have HX7 := Lib.hid (HX6.out.trans hk HF2.out)
  have HF3 := Lib.hid (FSub.trans hf HF2.out HX6.out.size (Nat.le_refl _))
  have HZ7 := Lib.hid hY
  clear hp hY hf HF2
  clear hk HC HX6 HZ6
  refine hK.out _ _ ?_ (fun hHeld => ?_)
  · exact (by rw [HSE.out]; exact HX7.out)
  clear hK K
  try simp only [Act.put, List.setIfInBounds_toArray, List.set_cons_zero, List.set_cons_succ]
  apply wpAnyH_take (i := 37)
  · simp only [List.getElem?_toArray]; rfl
  · kernel_rfl
  · kernel_rfl
  · kernel_rfl
  · exact fun _ _ _ h => h
  · exact Or.inl ⟨by rfl, by intro w hSw; go_simp; try with_reducible rfl⟩
  · assumption
  try simp only [Act.put, List.setIfInBounds_toArray, List.set_cons_zero, List.set_cons_succ]
  apply wpAnyH_take (i := 38)
  · simp only [List.getElem?_toArray]; rfl
  · kernel_rfl
  · kernel_rfl
  · kernel_rfl
  · exact fun _ _ _ h => h
  · exact Or.inl ⟨by rfl, by intro w hSw; go_simp; try with_reducible rfl⟩
  · assumption
  try simp only [Act.put, List.setIfInBounds_toArray, List.set_cons_zero, List.set_cons_succ]
  apply wpAnyH_take (i := 39)
  · simp only [List.getElem?_toArray]; rfl
  · kernel_rfl
  · kernel_rfl
  · kernel_rfl
  · exact fun _ _ _ h => h
  · exact Or.inl ⟨by rfl, by intro w hSw; go_simp; try with_reducible rfl⟩
  · assumption
  try simp only [Act.put, List.setIfInBounds_toArray, List.set_cons_zero, List.set_cons_succ]
  apply wpAnyH_take (i := 40)
  · simp only [List.getElem?_toArray]; rfl
  · kernel_rfl
  · kernel_rfl
  · kernel_rfl
  · exact fun _ _ _ h => h
  · exact Or.inl ⟨by rfl, by intro w hSw; go_simp; try with_reducible rfl⟩
  · assumption
  try simp only [Act.put, List.setIfInBounds_toArray, List.set_cons_zero, List.set_cons_succ]
  have HC := Lib.hid (tabP.rem HZ7.out.at_ K2.out (by decide) 2 (by decide) (by decide))
  rw [kn_3] at HC
  apply wpAnyH_ready (rs := [41])
  · kernel_rfl
  · simp
  apply AllReadyH.cons (hs := AllReadyH.nil)
  · simp only [List.getElem?_toArray]; rfl
  intro K hK
  rw [if_pos (by rfl)]
  refine wp_call8 13 _ _ rfl [.pointer (some ⟨b, 0, none⟩), .int .u16 2] rfl Try.func13 (by kernel_rfl) (by kernel_rfl) ((HC.out).mono ?_)
  rintro e v8 hp
  obtain ⟨rfl, P8, hY, hk, hf⟩ := HZ7.out.next hp
  refine ⟨_, rfl, ?_⟩
  have HX8 := Lib.hid (HX7.out.trans hk HF3.out)
  have HF4 := Lib.hid (FSub.trans hf HF3.out HX7.out.size (Nat.le_refl _))
  have HZ8 := Lib.hid hY
  clear hp hY hf HF3
  clear hk HC HX7 HZ7
  refine hK.out _ _ ?_ (fun hHeld => ?_)
  · exact (by rw [HSE.out]; exact HX8.out)
  clear hK K
  try simp only [Act.put, List.setIfInBounds_toArray, List.set_cons_zero, List.set_cons_succ]
  apply wpAnyH_take (i := 42)
  · simp only [List.getElem?_toArray]; rfl
  · kernel_rfl
  · kernel_rfl
  · kernel_rfl
  · exact fun _ _ _ h => h
  · exact Or.inl ⟨by rfl, by intro w hSw; go_simp; try with_reducible rfl⟩
  · assumption
  try simp only [Act.put, List.setIfInBounds_toArray, List.set_cons_zero, List.set_cons_succ]
  apply wpAnyH_take (i := 43)
  · simp only [List.getElem?_toArray]; rfl
  · kernel_rfl
  · kernel_rfl
  · kernel_rfl
  · exact fun _ _ _ h => h
  · exact Or.inl ⟨by rfl, by intro w hSw; go_simp; try with_reducible rfl⟩
  · assumption
  try simp only [Act.put, List.setIfInBounds_toArray, List.set_cons_zero, List.set_cons_succ]
  apply wpAnyH_take (i := 44)
  · simp only [List.getElem?_toArray]; rfl
  · kernel_rfl
  · kernel_rfl
  · kernel_rfl
  · exact fun _ _ _ h => h
  · exact Or.inl ⟨by rfl, by intro w hSw; go_simp; try with_reducible rfl⟩
  · assumption
  try simp only [Act.put, List.setIfInBounds_toArray, List.set_cons_zero, List.set_cons_succ]
  apply wpAnyH_take (i := 45)
  · simp only [List.getElem?_toArray]; rfl
  · kernel_rfl
  · kernel_rfl
  · kernel_rfl
  · exact fun _ _ _ h => h
  · exact Or.inl ⟨by rfl, by intro w hSw; go_simp; try with_reducible rfl⟩
  · assumption
  try simp only [Act.put, List.setIfInBounds_toArray, List.set_cons_zero, List.set_cons_succ]
  have HC := Lib.hid (tabP.count HZ8.out.at_ (by decide) 0)
  rw [kn_4] at HC
  apply wpAnyH_ready (rs := [46])
  · kernel_rfl
  · simp
  apply AllReadyH.cons (hs := AllReadyH.nil)
  · simp only [List.getElem?_toArray]; rfl
  intro K hK
  rw [if_pos (by rfl)]
  refine wp_call8 19 _ _ rfl [.pointer (some ⟨b, 0, none⟩), .int .u8 0] rfl Try.func19 (by kernel_rfl) (by kernel_rfl) ((HC.out).mono ?_)
  rintro e v9 ⟨rfl, hk⟩
  refine ⟨_, rfl, ?_⟩
  have HX9 := Lib.hid (HX8.out.trans hk (by intro q hq; simp at hq))
  have HZ9 := Lib.hid (HZ8.out.keep hk)
  clear hk HC HX8 HZ8
  refine hK.out _ _ ?_ (fun hHeld => ?_)
  · exact (by rw [HSE.out]; exact HX9.out)
  clear hK K
  try simp only [Act.put, List.setIfInBounds_toArray, List.set_cons_zero, List.set_cons_succ]
  apply wpAnyH_take (i := 47)
  · simp only [List.getElem?_toArray]; rfl
  · kernel_rfl
  · kernel_rfl
  · kernel_rfl
  · exact fun _ _ _ h => h
  · exact Or.inl ⟨by rfl, by intro w hSw; go_simp; try with_reducible rfl⟩
  · assumption
  try simp only [Act.put, List.setIfInBounds_toArray, List.set_cons_zero, List.set_cons_succ]
  apply wpAnyH_take (i := 48)
  · simp only [List.getElem?_toArray]; rfl
  · kernel_rfl
  · kernel_rfl
  · kernel_rfl
  · exact fun _ _ _ h => h
  · exact Or.inl ⟨by rfl, by intro w hSw; go_simp; try with_reducible rfl⟩
  · assumption
  try simp only [Act.put, List.setIfInBounds_toArray, List.set_cons_zero, List.set_cons_succ]
  apply wpAnyH_take (i := 49)
  · simp only [List.getElem?_toArray]; rfl
  · kernel_rfl
  · kernel_rfl
  · kernel_rfl
  · exact fun _ _ _ h => h
  · exact Or.inl ⟨by rfl, by intro w hSw; go_simp; try with_reducible rfl⟩
  · assumption
  try simp only [Act.put, List.setIfInBounds_toArray, List.set_cons_zero, List.set_cons_succ]
  apply wpAnyH_take (i := 50)
  · simp only [List.getElem?_toArray]; rfl
  · kernel_rfl
  · kernel_rfl
  · kernel_rfl
  · exact fun _ _ _ h => h
  · exact Or.inl ⟨by rfl, by intro w hSw; go_simp; try with_reducible rfl⟩
  · assumption
  try simp only [Act.put, List.setIfInBounds_toArray, List.set_cons_zero, List.set_cons_succ]
  apply wpAnyH_take (i := 51)
  · simp only [List.getElem?_toArray]; rfl
  · kernel_rfl
  · kernel_rfl
  · kernel_rfl
  · exact fun _ _ _ h => h
  · exact Or.inl ⟨by rfl, by intro w hSw; go_simp; try with_reducible rfl⟩
  · assumption
  try simp only [Act.put, List.setIfInBounds_toArray, List.set_cons_zero, List.set_cons_succ]
  have HC := Lib.hid (tabP.inv HZ9.out.at_ K2.out (by decide) 0 9 opZ 2305843009213693953 (by decide) (by decide) (by decide) (by decide) HZO.out (by decide) (by decide))
  rw [kn_5] at HC
  apply wpAnyH_ready (rs := [52])
  · kernel_rfl
  · simp
  apply AllReadyH.cons (hs := AllReadyH.nil)
  · simp only [List.getElem?_toArray]; rfl
  intro K hK
  rw [if_pos (by rfl)]
  refine wp_call8 14 _ _ rfl [.pointer (some ⟨b, 0, none⟩), .int .u8 0, .int .u16 9, opZ.val, .int .i64 2305843009213693953] rfl Try.func14 (by kernel_rfl) (by kernel_rfl) ((HC.out).mono ?_)
  rintro e v10 hp
  obtain ⟨rfl, P10, hY, hk, hf⟩ := HZ9.out.next hp
  refine ⟨_, rfl, ?_⟩
  have HX10 := Lib.hid (HX9.out.trans hk HF4.out)
  have HF5 := Lib.hid (FSub.trans hf HF4.out HX9.out.size (Nat.le_refl _))
  have HZ10 := Lib.hid hY
  clear hp hY hf HF4
  clear hk HC HX9 HZ9
  refine hK.out _ _ ?_ (fun hHeld => ?_)
  · exact (by rw [HSE.out]; exact HX10.out)
  clear hK K
  try simp only [Act.put, List.setIfInBounds_toArray, List.set_cons_zero, List.set_cons_succ]
  apply wpAnyH_take (i := 53)
  · simp only [List.getElem?_toArray]; rfl
  · kernel_rfl
  · kernel_rfl
  · kernel_rfl
  · exact fun _ _ _ h => h
  · exact Or.inl ⟨by rfl, by intro w hSw; go_simp; try with_reducible rfl⟩
  · assumption
  try simp only [Act.put, List.setIfInBounds_toArray, List.set_cons_zero, List.set_cons_succ]
  apply wpAnyH_take (i := 54)
  · simp only [List.getElem?_toArray]; rfl
  · kernel_rfl
  · kernel_rfl
  · kernel_rfl
  · exact fun _ _ _ h => h
  · exact Or.inl ⟨by rfl, by intro w hSw; go_simp; try with_reducible rfl⟩
  · assumption
  try simp only [Act.put, List.setIfInBounds_toArray, List.set_cons_zero, List.set_cons_succ]
  apply wpAnyH_take (i := 55)
  · simp only [List.getElem?_toArray]; rfl
  · kernel_rfl
  · kernel_rfl
  · kernel_rfl
  · exact fun _ _ _ h => h
  · exact Or.inl ⟨by rfl, by intro w hSw; go_simp; try with_reducible rfl⟩
  · assumption
  try simp only [Act.put, List.setIfInBounds_toArray, List.set_cons_zero, List.set_cons_succ]
  apply wpAnyH_take (i := 56)
  · simp only [List.getElem?_toArray]; rfl
  · kernel_rfl
  · kernel_rfl
  · kernel_rfl
  · exact fun _ _ _ h => h
  · exact Or.inl ⟨by rfl, by intro w hSw; go_simp; try with_reducible rfl⟩
  · assumption
  try simp only [Act.put, List.setIfInBounds_toArray, List.set_cons_zero, List.set_cons_succ]
  apply wpAnyH_take (i := 57)
  · simp only [List.getElem?_toArray]; rfl
  · kernel_rfl
  · kernel_rfl
  · kernel_rfl
  · exact fun _ _ _ h => h
  · exact Or.inl ⟨by rfl, by intro w hSw; go_simp; try with_reducible rfl⟩
  · assumption
  try simp only [Act.put, List.setIfInBounds_toArray, List.set_cons_zero, List.set_cons_succ]
  have HC := Lib.hid (tabP.inv HZ10.out.at_ K2.out (by decide) 0 9 opZ (-1) (by decide) (by decide) (by decide) (by decide) HZO.out (by decide) (by decide))
  rw [kn_6] at HC
  apply wpAnyH_ready (rs := [58])
  · kernel_rfl
  · simp
  apply AllReadyH.cons (hs := AllReadyH.nil)
  · simp only [List.getElem?_toArray]; rfl
  intro K hK
  rw [if_pos (by rfl)]
  refine wp_call8 14 _ _ rfl [.pointer (some ⟨b, 0, none⟩), .int .u8 0, .int .u16 9, opZ.val, .int .i64 (-1)] rfl Try.func14 (by kernel_rfl) (by kernel_rfl) ((HC.out).mono ?_)
  rintro e v11 hp
  obtain ⟨rfl, P11, hY, hk, hf⟩ := HZ10.out.next hp
  refine ⟨_, rfl, ?_⟩
  have HX11 := Lib.hid (HX10.out.trans hk HF5.out)
  have HF6 := Lib.hid (FSub.trans hf HF5.out HX10.out.size (Nat.le_refl _))
  have HZ11 := Lib.hid hY
  clear hp hY hf HF5
  clear hk HC HX10 HZ10
  refine hK.out _ _ ?_ (fun hHeld => ?_)
  · exact (by rw [HSE.out]; exact HX11.out)
  clear hK K
  try simp only [Act.put, List.setIfInBounds_toArray, List.set_cons_zero, List.set_cons_succ]
  apply wpAnyH_take (i := 59)
  · simp only [List.getElem?_toArray]; rfl
  · kernel_rfl
  · kernel_rfl
  · kernel_rfl
  · exact fun _ _ _ h => h
  · exact Or.inl ⟨by rfl, by intro w hSw; go_simp; try with_reducible rfl⟩
  · assumption
  try simp only [Act.put, List.setIfInBounds_toArray, List.set_cons_zero, List.set_cons_succ]
  apply wpAnyH_take (i := 60)
  · simp only [List.getElem?_toArray]; rfl
  · kernel_rfl
  · kernel_rfl
  · kernel_rfl
  · exact fun _ _ _ h => h
  · exact Or.inl ⟨by rfl, by intro w hSw; go_simp; try with_reducible rfl⟩
  · assumption
  try simp only [Act.put, List.setIfInBounds_toArray, List.set_cons_zero, List.set_cons_succ]
  apply wpAnyH_take (i := 61)
  · simp only [List.getElem?_toArray]; rfl
  · kernel_rfl
  · kernel_rfl
  · kernel_rfl
  · exact fun _ _ _ h => h
  · exact Or.inl ⟨by rfl, by intro w hSw; go_simp; try with_reducible rfl⟩
  · assumption
  try simp only [Act.put, List.setIfInBounds_toArray, List.set_cons_zero, List.set_cons_succ]
  apply wpAnyH_take (i := 62)
  · simp only [List.getElem?_toArray]; rfl
  · kernel_rfl
  · kernel_rfl
  · kernel_rfl
  · exact fun _ _ _ h => h
  · exact Or.inl ⟨by rfl, by intro w hSw; go_simp; try with_reducible rfl⟩
  · assumption
  try simp only [Act.put, List.setIfInBounds_toArray, List.set_cons_zero, List.set_cons_succ]
  apply wpAnyH_take (i := 63)
  · simp only [List.getElem?_toArray]; rfl
  · kernel_rfl
  · kernel_rfl
  · kernel_rfl
  · exact fun _ _ _ h => h
  · exact Or.inl ⟨by rfl, by intro w hSw; go_simp; try with_reducible rfl⟩
  · assumption
  try simp only [Act.put, List.setIfInBounds_toArray, List.set_cons_zero, List.set_cons_succ]
  have HC := Lib.hid (tabP.inv HZ11.out.at_ K2.out (by decide) 0 9 opZ 2305843009213693952 (by decide) (by decide) (by decide) (by decide) HZO.out (by decide) (by decide))
  rw [kn_7] at HC
  apply wpAnyH_ready (rs := [64])
  · kernel_rfl
  · simp
  apply AllReadyH.cons (hs := AllReadyH.nil)
  · simp only [List.getElem?_toArray]; rfl
  intro K hK
  rw [if_pos (by rfl)]
  refine wp_call8 14 _ _ rfl [.pointer (some ⟨b, 0, none⟩), .int .u8 0, .int .u16 9, opZ.val, .int .i64 2305843009213693952] rfl Try.func14 (by kernel_rfl) (by kernel_rfl) ((HC.out).mono ?_)
  rintro e v12 hp
  obtain ⟨rfl, P12, hY, hk, hf⟩ := HZ11.out.next hp
  refine ⟨_, rfl, ?_⟩
  have HX12 := Lib.hid (HX11.out.trans hk HF6.out)
  have HF7 := Lib.hid (FSub.trans hf HF6.out HX11.out.size (Nat.le_refl _))
  have HZ12 := Lib.hid hY
  clear hp hY hf HF6
  clear hk HC HX11 HZ11
  refine hK.out _ _ ?_ (fun hHeld => ?_)
  · exact (by rw [HSE.out]; exact HX12.out)
  clear hK K
  try simp only [Act.put, List.setIfInBounds_toArray, List.set_cons_zero, List.set_cons_succ]
  apply wpAnyH_take (i := 65)
  · simp only [List.getElem?_toArray]; rfl
  · kernel_rfl
  · kernel_rfl
  · kernel_rfl
  · exact fun _ _ _ h => h
  · exact Or.inl ⟨by rfl, by intro w hSw; go_simp; try with_reducible rfl⟩
  · assumption
  try simp only [Act.put, List.setIfInBounds_toArray, List.set_cons_zero, List.set_cons_succ]
  apply wpAnyH_take (i := 66)
  · simp only [List.getElem?_toArray]; rfl
  · kernel_rfl
  · kernel_rfl
  · kernel_rfl
  · exact fun _ _ _ h => h
  · exact Or.inl ⟨by rfl, by intro w hSw; go_simp; try with_reducible rfl⟩
  · assumption
  try simp only [Act.put, List.setIfInBounds_toArray, List.set_cons_zero, List.set_cons_succ]
  apply wpAnyH_take (i := 67)
  · simp only [List.getElem?_toArray]; rfl
  · kernel_rfl
  · kernel_rfl
  · kernel_rfl
  · exact fun _ _ _ h => h
  · exact Or.inl ⟨by rfl, by intro w hSw; go_simp; try with_reducible rfl⟩
  · assumption
  try simp only [Act.put, List.setIfInBounds_toArray, List.set_cons_zero, List.set_cons_succ]
  apply wpAnyH_take (i := 68)
  · simp only [List.getElem?_toArray]; rfl
  · kernel_rfl
  · kernel_rfl
  · kernel_rfl
  · exact fun _ _ _ h => h
  · exact Or.inl ⟨by rfl, by intro w hSw; go_simp; try with_reducible rfl⟩
  · assumption
  try simp only [Act.put, List.setIfInBounds_toArray, List.set_cons_zero, List.set_cons_succ]
  apply wpAnyH_take (i := 69)
  · simp only [List.getElem?_toArray]; rfl
  · kernel_rfl
  · kernel_rfl
  · kernel_rfl
  · exact fun _ _ _ h => h
  · exact Or.inl ⟨by rfl, by intro w hSw; go_simp; try with_reducible rfl⟩
  · assumption
  try simp only [Act.put, List.setIfInBounds_toArray, List.set_cons_zero, List.set_cons_succ]
  have HC := Lib.hid (tabP.ret HZ12.out.at_ K3.out (by decide) 9 0 0 2305843009213693952 (by decide) (by decide) (by decide) (by decide) (by decide) (by decide) (by decide) (by decide))
  rw [kn_8] at HC
  apply wpAnyH_ready (rs := [70])
  · kernel_rfl
  · simp
  apply AllReadyH.cons (hs := AllReadyH.nil)
  · simp only [List.getElem?_toArray]; rfl
  intro K hK
  rw [if_pos (by rfl)]
  refine wp_call8 24 _ _ rfl [.pointer (some ⟨b, 0, none⟩), .int .u16 9, .agg #[.int .u8 0, .int .u16 0], .int .i64 2305843009213693952] rfl Try.func24 (by kernel_rfl) (by kernel_rfl) ((HC.out).mono ?_)
  rintro e v13 hp
  obtain ⟨rfl, P13, hY, hk, hf⟩ := HZ12.out.next hp
  refine ⟨_, rfl, ?_⟩
  have HX13 := Lib.hid (HX12.out.trans hk HF7.out)
  have HF8 := Lib.hid (FSub.trans hf HF7.out HX12.out.size (Nat.le_refl _))
  have HZ13 := Lib.hid hY
  clear hp hY hf HF7
  clear hk HC HX12 HZ12
  refine hK.out _ _ ?_ (fun hHeld => ?_)
  · exact (by rw [HSE.out]; exact HX13.out)
  clear hK K
  try simp only [Act.put, List.setIfInBounds_toArray, List.set_cons_zero, List.set_cons_succ]
  apply wpAnyH_take (i := 71)
  · simp only [List.getElem?_toArray]; rfl
  · kernel_rfl
  · kernel_rfl
  · kernel_rfl
  · exact fun _ _ _ h => h
  · exact Or.inl ⟨by rfl, by intro w hSw; go_simp; try with_reducible rfl⟩
  · assumption
  try simp only [Act.put, List.setIfInBounds_toArray, List.set_cons_zero, List.set_cons_succ]
  apply wpAnyH_take (i := 72)
  · simp only [List.getElem?_toArray]; rfl
  · kernel_rfl
  · kernel_rfl
  · kernel_rfl
  · exact fun _ _ _ h => h
  · exact Or.inl ⟨by rfl, by intro w hSw; go_simp; try with_reducible rfl⟩
  · assumption
  try simp only [Act.put, List.setIfInBounds_toArray, List.set_cons_zero, List.set_cons_succ]
  refine wpAnyH_done (by kernel_rfl) ?_ _
  refine NoPanic.normal ?_
  clear hHeld hSD HSE
  have HKA := Lib.hid ((Keeps.refl [] v13).alloc (.cells #[.pointer none] 63))
  have hZ := heap_alloc_new v13 (.cells #[.pointer none] 63)
  have HZC := Lib.hid (cell_lit hZ 0 rfl : (v13.alloc (.cells #[.pointer none] 63)).cell? ⟨v13.heap.size, 0, none⟩ = some (.pointer none))
  have HK := Lib.hid (HZ13.out.k.trans HKA.out (FSub.refl _ _))
  have HN := Lib.hid (fun w' => nilFind w' 1)
  clear hZ HKA HZ13
  go_wp2_with fail
  generalize v13.alloc _ = u0 at *
  generalize v13.heap.size = Z at *
  refine (HN.out u0).mono ?_; rintro e u1 ⟨rfl, hk⟩
  have HRZ := Lib.hid (heap_alloc_new u1 (.cells (rwC rwZero).toArray 42))
  have HKA := Lib.hid ((Keeps.refl [] u1).alloc (.cells (rwC rwZero).toArray 42))
  go_wp2_with (first | ((with_reducible refine wpList_putP (old := rwZero) (r := rwZero) ?_ ?_ HRZ.out ?_); exact rfl; exact rfl))
  intro x0 h2 hk2
  have hk3 := (hk.trans HKA.out (FSub.refl _ _)).trans hk2 (fun q hq => .inr (by simp at hq; have := hk.size; omega))
  have HK0 := Lib.hid (HK.out.trans hk3 (FSub.refl _ _))
  have HC0 := Lib.hid (hk3.cell HZC.out (by simp))
  clear hk h2 hk2 hk3 HK HZC HN HRZ HKA
  have HC := Lib.hid (nilInvoke x0 0 1 opZ 0)
  go_wp2_with fail
  refine (HC.out).mono ?_; rintro e x1 ⟨rfl, hk⟩
  have HK1 := Lib.hid (HK0.out.trans hk (FSub.refl _ _))
  have HC1 := Lib.hid (hk.cell HC0.out (by simp))
  clear hk HC HK0 HC0
  have HC := Lib.hid (zeroReturn x1 HC1.out 1 0 0 0)
  go_wp2_with fail
  refine (HC.out).mono ?_; rintro e x2 ⟨rfl, hk⟩
  have HK2 := Lib.hid (HK1.out.trans hk (FSub.refl _ _))
  have HC2 := Lib.hid (hk.cell HC1.out (by simp))
  clear hk HC HK1 HC1
  have HC := Lib.hid (nilInfo x2 1 0)
  go_wp2_with fail
  refine (HC.out).mono ?_; rintro e x3 ⟨rfl, hk⟩
  have HK3 := Lib.hid (HK2.out.trans hk (FSub.refl _ _))
  have HC3 := Lib.hid (hk.cell HC2.out (by simp))
  clear hk HC HK2 HC2
  have HC := Lib.hid (zeroRemove x3 HC3.out 1)
  go_wp2_with fail
  refine (HC.out).mono ?_; rintro e x4 ⟨rfl, hk⟩
  have HK4 := Lib.hid (HK3.out.trans hk (FSub.refl _ _))
  have HC4 := Lib.hid (hk.cell HC3.out (by simp))
  clear hk HC HK3 HC3
  have HC := Lib.hid (nilSettle x4)
  go_wp2_with fail
  refine (HC.out).mono ?_; rintro e x5 ⟨rfl, hk⟩
  have HK5 := Lib.hid (HK4.out.trans hk (FSub.refl _ _))
  have HC5 := Lib.hid (hk.cell HC4.out (by simp))
  clear hk HC HK4 HC4
  have HC := Lib.hid (zeroRows x5 HC5.out)
  go_wp2_with fail
  refine (HC.out).mono ?_; rintro e x6 ⟨rfl, hk⟩
  have HK6 := Lib.hid (HK5.out.trans hk (FSub.refl _ _))
  have HC6 := Lib.hid (hk.cell HC5.out (by simp))
  clear hk HC HK5 HC5
  have HC := Lib.hid (nilCount x6 0)
  go_wp2_with fail
  refine (HC.out).mono ?_; rintro e x7 ⟨rfl, hk⟩
  have HK7 := Lib.hid (HK6.out.trans hk (FSub.refl _ _))
  have HC7 := Lib.hid (hk.cell HC6.out (by simp))
  clear hk HC HK6 HC6
  have HC := Lib.hid (zeroCopy x7 HC7.out)
  go_wp2_with fail
  refine (HC.out).mono ?_; rintro e x8 ⟨rfl, hk⟩
  have HK8 := Lib.hid (HK7.out.trans hk (FSub.refl _ _))
  have HC8 := Lib.hid (hk.cell HC7.out (by simp))
  clear hk HC HK7 HC7
  have HC := Lib.hid (works8_any tabP.toPTabs x8 (N := 0) trivial (Nat.zero_le _))
  go_wp2_with fail
  refine (HC.out).mono ?_; rintro e x9 ⟨rfl, hk⟩
  have HK9 := Lib.hid (HK8.out.trans hk (FSub.refl _ _))
  have HC9 := Lib.hid (hk.cell HC8.out (by simp))
  clear hk HC HK8 HC8
  go_wp2_with fail
  go_ret
  exact ⟨rfl, HK9.out⟩
end Go.Proofs.Ytjiglbjpmclncaa
