/-
  The program's table: Return, Info.
-/
import Derived.Test.YtjiglbjpmclncaaO10
set_option linter.unusedSimpArgs false
set_option linter.unusedVariables false
namespace Go.Proofs.Ytjiglbjpmclncaa
open Go.RowKit Go.Maps
set_option maxHeartbeats 8000000
set_option maxRecDepth 100000
theorem endInfo_any (w : World) {b kb mb : Nat} {v : Value} {t : Tb} (hT : TAt b kb mb w v t) (hok : TbOk t) (hfew : t.L.length ≤ 1000000) (id at_ : Int) (h0 : 0 ≤ id) (h1 : id < 65536) :
    Calls Try.prog 42 #[.pointer (some ⟨b, 0, none⟩), .int .u16 id, .int .i64 at_, .func (.func 44) #[] #[]] w (TPost b kb mb w v (tbEnd t id false 0 0 at_)) := by
  have c0 := hT.cell
  have HMADE := Lib.hid (tbMade_yes _ c0)
  have HRISE := Lib.hid (kpRises_any _ hT.at_ hok.lo at_)
  have HF := Lib.hid (kpFind_any _ hT.at_ hok hfew id h0 h1)
  have HTO := Lib.hid (fun (i : Nat) (r : Rw) (h : t.L[i]? = some r) => row_to hok h)
  have HT := Lib.hid hT
  clear hT hok
  go_enter Try.func42, Try.ntmps42
  go_wp2_with fail
  refine (HMADE.out).mono ?_; rintro e w1 ⟨rfl, rfl⟩
  clear HMADE
  go_wp2_with fail
  refine (HRISE.out).mono ?_; rintro e w0 ⟨rfl, rfl⟩
  clear HRISE
  by_cases hm : tbMay t at_ = true
  · rw [hm]
    go_wp2_with fail
    refine (HF.out).mono ?_; rintro e w2 ⟨hf, hk2⟩
    have HK2 := Lib.hid hk2
    have HRZ := Lib.hid (heap_alloc_new w2 (.cells (rwC rwZero).toArray 42))
    have HKA := Lib.hid ((Keeps.refl [] w2).alloc (.cells (rwC rwZero).toArray 42))
    have HFR := Lib.hid (show t.last < at_ ∧ at_ ≤ rwMost from ⟨(tbMay_iff.1 hm).2.2, (tbMay_iff.1 hm).2.1⟩)
    clear hk2 HF c0
    cases hi : rwIdx id t.L with
    | none =>
      rw [hi] at hf
      simp only at hf
      subst hf
      have HFIN := Lib.hid (fun (w' : World) (hk : Keeps [] w0 w') => show TPost b kb mb w0 v (tbEnd t id false 0 0 at_) (.returned (.int .i64 7)) w' from by
        have e : tbEnd t id false 0 0 at_ = (7, t) := by unfold tbEnd; rw [hm, hi]; rfl
        rw [e]
        exact ⟨rfl, v, HT.out.new hk, hk.more (by simp), FSub.refl _ _⟩)
      have HST := Lib.hid trivial
      clear hi hm HFR
      go_wp2_with (first | ((with_reducible refine wpList_putP (old := rwZero) (r := rwZero) ?_ ?_ HRZ.out ?_); exact rfl; exact rfl))
      intro W hW hkW
      have HKV := Lib.hid (HK2.out.trans (HKA.out.trans hkW (fun q hq => .inr (by simp at hq; omega))) (FSub.refl _ _))
      have HB9 := Lib.hid hW
      clear hW hkW HKA HRZ
      generalize w2.heap.size = R9 at *
      go_wp2_with fail
      obtain ⟨S, hS⟩ : ∃ S : World → Prop, S = fun y => Keeps [] W y := ⟨_, rfl⟩
      have HSE := Lib.hid hS
      have hSD : S W.drew := by rw [hS]; exact (Keeps.refl _ _).drew
      have HS0 := Lib.hid (fun (w' : World) (h : S w') => show w'.rangeAt R9 0 (rwC rwZero) from by rw [hS] at h; exact fun i u hi => by rw [Nat.zero_add]; exact h.cell (rw_cell HB9.out i hi) (by simp))
      have HS1 := Lib.hid (fun (w' : World) (h : S w') => show w'.cell? ⟨R9, 9, none⟩ = some (.int .u8 (rwZero).st) from by rw [hS] at h; exact h.cell (rw_cell HB9.out 9 rfl) (by simp))
      have HS2 := Lib.hid (fun (w' : World) (_ : S w') => HST.out)
      clear hS
      refine wp_region_noPanic ?_
      refine wp_region_held_drew (S := S) (by kernel_rfl) hSD (fun hHeld => ?_)
      apply wpAnyH_take (i := 0)
      · simp only [List.getElem?_toArray]; rfl
      · kernel_rfl
      · kernel_rfl
      · kernel_rfl
      · exact fun _ _ _ h => h
      · exact yields_rowP rwZero (by rfl) _ rfl R9 0 rfl HS0.out
      · assumption
      try simp only [Act.put, List.setIfInBounds_toArray, List.set_cons_zero, List.set_cons_succ]
      apply wpAnyH_ready (rs := [1])
      · kernel_rfl
      · simp
      apply AllReadyH.cons (hs := AllReadyH.nil)
      · simp only [List.getElem?_toArray]; rfl
      intro K hK
      rw [if_pos (by rfl)]
      refine wp_call8 33 _ _ rfl [] rfl Try.func33 (by kernel_rfl) (by kernel_rfl) ((tbNone_any _).mono ?_)
      rintro e w3 ⟨rfl, hk3⟩
      refine ⟨.agg #[.int .u8 0, .int .u16 0, .int .u8 0, .int .u8 0, .int .u8 0, .int .u16 0, .int .u16 0, .int .u8 0, .int .u16 0, .int .u8 0, .int .i64 0, .int .i64 0], rfl, ?_⟩
      have HK3 := Lib.hid ((Keeps.refl [] W).drew.trans hk3 (FSub.refl _ _))
      clear hk3
      refine hK.out _ _ ?_ (fun hHeld => ?_)
      · exact (by rw [HSE.out]; exact HK3.out)
      clear hK K
      try simp only [Act.put, List.setIfInBounds_toArray, List.set_cons_zero, List.set_cons_succ]
      apply wpAnyH_take (i := 2)
      · simp only [List.getElem?_toArray]; rfl
      · kernel_rfl
      · kernel_rfl
      · kernel_rfl
      · exact fun _ _ _ h => h
      · exact yields_eqlZ (by rfl) _ _ rfl rfl rfl
      · assumption
      try simp only [Act.put, List.setIfInBounds_toArray, List.set_cons_zero, List.set_cons_succ]
      apply wpAnyH_take (i := 3)
      · simp only [List.getElem?_toArray]; rfl
      · kernel_rfl
      · kernel_rfl
      · kernel_rfl
      · exact fun _ _ _ h => h
      · exact Or.inl ⟨by rfl, by intro w hSw; go_simp; try with_reducible rfl⟩
      · assumption
      try simp only [Act.put, List.setIfInBounds_toArray, List.set_cons_zero, List.set_cons_succ]
      apply wpAnyH_take (i := 4)
      · simp only [List.getElem?_toArray]; rfl
      · kernel_rfl
      · kernel_rfl
      · kernel_rfl
      · exact fun _ _ _ h => h
      · exact Or.inr ⟨by rfl, rfl⟩
      · assumption
      try simp only [Act.put, List.setIfInBounds_toArray, List.set_cons_zero, List.set_cons_succ]
      apply wpAnyH_take (i := 5)
      · simp only [List.getElem?_toArray]; rfl
      · kernel_rfl
      · kernel_rfl
      · kernel_rfl
      · exact fun _ _ _ h => h
      · exact Or.inr ⟨by rfl, rfl⟩
      · assumption
      try simp only [Act.put, List.setIfInBounds_toArray, List.set_cons_zero, List.set_cons_succ]
      apply wpAnyH_take (i := 6)
      · simp only [List.getElem?_toArray]; rfl
      · kernel_rfl
      · kernel_rfl
      · kernel_rfl
      · exact fun _ _ _ h => h
      · exact Or.inr ⟨by rfl, rfl⟩
      · assumption
      try simp only [Act.put, List.setIfInBounds_toArray, List.set_cons_zero, List.set_cons_succ]
      apply wpAnyH_take (i := 7)
      · simp only [List.getElem?_toArray]; rfl
      · kernel_rfl
      · kernel_rfl
      · kernel_rfl
      · exact fun _ _ _ h => h
      · exact Or.inl ⟨by rfl, by intro w hSw; go_simp; try with_reducible rfl⟩
      · assumption
      try simp only [Act.put, List.setIfInBounds_toArray, List.set_cons_zero, List.set_cons_succ]
      refine wpAnyH_done (by kernel_rfl) ?_ _
      refine NoPanic.normal ?_
      have HK4 := Lib.hid (HKV.out.trans HK3.out (FSub.refl _ _))
      clear hHeld hSD HS0 HS1 HS2 HSE
      go_wp2_with fail
      go_ret
      exact HFIN.out _ HK4.out
    | some i =>
      rw [hi] at hf
      obtain ⟨r, hr, rfl⟩ := hf
      have HQ := Lib.hid (HTO.out i r hr)
      obtain ⟨hil, hge⟩ := List.getElem?_eq_some_iff.1 hr
      have HIL := Lib.hid hil; have HGE := Lib.hid hge
      by_cases hst : r.st = 0
      · have HE := Lib.hid (show tbEnd t id false 0 0 at_ = (0, ⟨t.L.set i (rwEnd r false 0 0 at_), at_⟩) by unfold tbEnd; rw [hm, hi]; simp [hr, hst])
        have HST := Lib.hid hst
        clear hi hr hm hge hst
        go_wp2_with (first | ((with_reducible refine wpList_putP (old := rwZero) (r := r) ?_ ?_ HRZ.out ?_); exact rfl; exact rfl))
        intro W hW hkW
        have HKV := Lib.hid (HK2.out.trans (HKA.out.trans hkW (fun q hq => .inr (by simp at hq; omega))) (FSub.refl _ _))
        have HB9 := Lib.hid hW
        clear hW hkW HKA HRZ
        generalize w2.heap.size = R9 at *
        go_wp2_with fail
        obtain ⟨S, hS⟩ : ∃ S : World → Prop, S = fun y => Keeps [] W y := ⟨_, rfl⟩
        have HSE := Lib.hid hS
        have hSD : S W.drew := by rw [hS]; exact (Keeps.refl _ _).drew
        have HS0 := Lib.hid (fun (w' : World) (h : S w') => show w'.rangeAt R9 0 (rwC r) from by rw [hS] at h; exact fun i u hi => by rw [Nat.zero_add]; exact h.cell (rw_cell HB9.out i hi) (by simp))
        have HS1 := Lib.hid (fun (w' : World) (h : S w') => show w'.cell? ⟨R9, 9, none⟩ = some (.int .u8 (r).st) from by rw [hS] at h; exact h.cell (rw_cell HB9.out 9 rfl) (by simp))
        have HS2 := Lib.hid (fun (w' : World) (_ : S w') => HST.out)
        clear hS
        refine wp_region_noPanic ?_
        refine wp_region_held_drew (S := S) (by kernel_rfl) hSD (fun hHeld => ?_)
        apply wpAnyH_take (i := 0)
        · simp only [List.getElem?_toArray]; rfl
        · kernel_rfl
        · kernel_rfl
        · kernel_rfl
        · exact fun _ _ _ h => h
        · exact yields_rowP r (by rfl) _ rfl R9 0 rfl HS0.out
        · assumption
        try simp only [Act.put, List.setIfInBounds_toArray, List.set_cons_zero, List.set_cons_succ]
        apply wpAnyH_ready (rs := [1])
        · kernel_rfl
        · simp
        apply AllReadyH.cons (hs := AllReadyH.nil)
        · simp only [List.getElem?_toArray]; rfl
        intro K hK
        rw [if_pos (by rfl)]
        refine wp_call8 33 _ _ rfl [] rfl Try.func33 (by kernel_rfl) (by kernel_rfl) ((tbNone_any _).mono ?_)
        rintro e w3 ⟨rfl, hk3⟩
        refine ⟨.agg #[.int .u8 0, .int .u16 0, .int .u8 0, .int .u8 0, .int .u8 0, .int .u16 0, .int .u16 0, .int .u8 0, .int .u16 0, .int .u8 0, .int .i64 0, .int .i64 0], rfl, ?_⟩
        have HK3 := Lib.hid ((Keeps.refl [] W).drew.trans hk3 (FSub.refl _ _))
        clear hk3
        refine hK.out _ _ ?_ (fun hHeld => ?_)
        · exact (by rw [HSE.out]; exact HK3.out)
        clear hK K
        try simp only [Act.put, List.setIfInBounds_toArray, List.set_cons_zero, List.set_cons_succ]
        apply wpAnyH_take (i := 2)
        · simp only [List.getElem?_toArray]; rfl
        · kernel_rfl
        · kernel_rfl
        · kernel_rfl
        · exact fun _ _ _ h => h
        · exact yields_eqlP (by rfl) _ _ rfl r rfl rfl HQ.out
        · assumption
        try simp only [Act.put, List.setIfInBounds_toArray, List.set_cons_zero, List.set_cons_succ]
        apply wpAnyH_take (i := 3)
        · simp only [List.getElem?_toArray]; rfl
        · kernel_rfl
        · kernel_rfl
        · kernel_rfl
        · exact fun _ _ _ h => h
        · exact Or.inl ⟨by rfl, by intro w hSw; go_simp; try with_reducible rfl⟩
        · assumption
        try simp only [Act.put, List.setIfInBounds_toArray, List.set_cons_zero, List.set_cons_succ]
        apply wpAnyH_take (i := 4)
        · simp only [List.getElem?_toArray]; rfl
        · kernel_rfl
        · kernel_rfl
        · kernel_rfl
        · exact fun _ _ _ h => h
        · exact Or.inl ⟨by rfl, by intro w hSw; go_simp; try with_reducible rfl⟩
        · assumption
        try simp only [Act.put, List.setIfInBounds_toArray, List.set_cons_zero, List.set_cons_succ]
        apply wpAnyH_take (i := 5)
        · simp only [List.getElem?_toArray]; rfl
        · kernel_rfl
        · kernel_rfl
        · kernel_rfl
        · exact fun _ _ _ h => h
        · exact Or.inl ⟨by rfl, by intro w hSw; have q0 := HS1.out w hSw; have q1 := HS2.out w hSw; go_simp; try with_reducible rfl⟩
        · assumption
        try simp only [Act.put, List.setIfInBounds_toArray, List.set_cons_zero, List.set_cons_succ]
        apply wpAnyH_take (i := 6)
        · simp only [List.getElem?_toArray]; rfl
        · kernel_rfl
        · kernel_rfl
        · kernel_rfl
        · exact fun _ _ _ h => h
        · exact Or.inl ⟨by rfl, by intro w hSw; have q0 := HS1.out w hSw; have q1 := HS2.out w hSw; go_simp; try with_reducible rfl⟩
        · assumption
        try simp only [Act.put, List.setIfInBounds_toArray, List.set_cons_zero, List.set_cons_succ]
        apply wpAnyH_take (i := 7)
        · simp only [List.getElem?_toArray]; rfl
        · kernel_rfl
        · kernel_rfl
        · kernel_rfl
        · exact fun _ _ _ h => h
        · exact Or.inl ⟨by rfl, by intro w hSw; go_simp; try with_reducible rfl⟩
        · assumption
        try simp only [Act.put, List.setIfInBounds_toArray, List.set_cons_zero, List.set_cons_succ]
        refine wpAnyH_done (by kernel_rfl) ?_ _
        refine NoPanic.normal ?_
        have HK4 := Lib.hid (HKV.out.trans HK3.out (FSub.refl _ _))
        clear hHeld hSD HS0 HS1 HS2 HSE
        have hT4 := HT.out.new HK4.out
        have c4 := hT4.cell
        obtain ⟨k0, k1, k2⟩ := hT4.at_.cells
        obtain ⟨g, cap, rfl, hc, hmx, -, hg, -⟩ := hT4.at_.row.at (fun e => by have := HIL.out; rw [e] at this; simp at this)
        have hil2 : (i : Int) < t.L.length := by have := HIL.out; omega
        have HROW := Lib.hid hT4.at_.row; have HT4 := Lib.hid hT4
        clear hT4 hg
        go_wp2_with fail
        refine (info1_any w3 HROW.out i HIL.out 0 0 at_).mono ?_
        rintro e w5 ⟨rfl, hrow5, hk5⟩
        rw [HGE.out] at hrow5
        have hd5 := HT4.out.at_.dis g (by simp [own, Value.ownBlock])
        have hb5 : b ≠ g := fun e => HT4.out.dis (by rw [e]; simp [own, Value.ownBlock])
        have hkept5 := hk5.heap HT4.out.at_.kept (by simp; exact Ne.symm hd5.1)
        have hmap5 := HT4.out.at_.map.keeps hk5 (by simp; exact Ne.symm hd5.2)
        have c5 : w5.cell? ⟨b, 0, none⟩ = some (.pointer (some ⟨kb, 0, none⟩)) := hk5.cell c4 (by simp; exact hb5)
        have g1 : w5.cell? ⟨kb, 2, none⟩ = some (.int .i64 t.last) := by simp [World.cell?, hkept5]
        have g2 : w5.frozen? ⟨kb, 2, none⟩ = false := by simp [World.frozen?, hkept5]
        have k6 : Keeps [kb] w5 (w5.setCell ⟨kb, 2, none⟩ (.int .i64 at_)) := (Keeps.refl [kb] w5).setCell _ _ (.inl (by simp))
        have HKP := Lib.hid (show KPost kb mb w3 (.slice (some ⟨g, 0, none⟩) t.L.length cap) ⟨t.L.set i (rwEnd r false 0 0 at_), at_⟩ (w5.setCell ⟨kb, 2, none⟩ (.int .i64 at_)) from by
          have hid : (rwEnd r false 0 0 at_).id = (t.L[i]'hil).id := by rw [HGE.out]; rfl
          have hfr : (rwEnd r false 0 0 at_).fr = (t.L[i]'hil).fr := by rw [HGE.out]; rfl
          have e2 : (t.L.set i (rwEnd r false 0 0 at_)).length = t.L.length := List.length_set
          refine ⟨_, ⟨?_, hrow5.keeps k6 (fun q hq hb => (HT4.out.at_.dis q hq).1 (by simpa using hb)), ?_, HT4.out.at_.ap, HT4.out.at_.dis⟩, ?_, FSub.refl _ _⟩
          · rw [heap_setCell_same w5 kb 2 _ _ _ hkept5]; rfl
          · exact (hmap5.keeps k6 (by simp; exact Ne.symm HT4.out.at_.ap)).congr (fun id' => frOf_set hil hid hfr) (Int.le_of_lt HFR.out.1)
          · exact (hk5.more (G := kb :: mb :: own (.slice (some ⟨g, 0, none⟩) t.L.length cap)) (by simp [own, Value.ownBlock])).step (k6.more (by simp)) (fun q hq => hq))
        clear hrow5 hk5 hkept5 hmap5 c4 k0 k1 k2 HB9
        go_wp2_with fail
        go_ret
        exact ⟨by rw [HE.out]; rfl, by rw [HE.out]; exact HT.out.post HK4.out HKP.out⟩
      · have HFIN := Lib.hid (fun (w' : World) (hk : Keeps [] w0 w') => show TPost b kb mb w0 v (tbEnd t id false 0 0 at_) (.returned (.int .i64 7)) w' from by
          have e : tbEnd t id false 0 0 at_ = (7, t) := by unfold tbEnd; rw [hm, hi]; simp [hr, hst]
          rw [e]
          exact ⟨rfl, v, HT.out.new hk, hk.more (by simp), FSub.refl _ _⟩)
        have HST := Lib.hid (show (r.st != 0) = true by simpa using hst)
        clear hi hr hm HFR hge hst
        go_wp2_with (first | ((with_reducible refine wpList_putP (old := rwZero) (r := r) ?_ ?_ HRZ.out ?_); exact rfl; exact rfl))
        intro W hW hkW
        have HKV := Lib.hid (HK2.out.trans (HKA.out.trans hkW (fun q hq => .inr (by simp at hq; omega))) (FSub.refl _ _))
        have HB9 := Lib.hid hW
        clear hW hkW HKA HRZ
        generalize w2.heap.size = R9 at *
        go_wp2_with fail
        obtain ⟨S, hS⟩ : ∃ S : World → Prop, S = fun y => Keeps [] W y := ⟨_, rfl⟩
        have HSE := Lib.hid hS
        have hSD : S W.drew := by rw [hS]; exact (Keeps.refl _ _).drew
        have HS0 := Lib.hid (fun (w' : World) (h : S w') => show w'.rangeAt R9 0 (rwC r) from by rw [hS] at h; exact fun i u hi => by rw [Nat.zero_add]; exact h.cell (rw_cell HB9.out i hi) (by simp))
        have HS1 := Lib.hid (fun (w' : World) (h : S w') => show w'.cell? ⟨R9, 9, none⟩ = some (.int .u8 (r).st) from by rw [hS] at h; exact h.cell (rw_cell HB9.out 9 rfl) (by simp))
        have HS2 := Lib.hid (fun (w' : World) (_ : S w') => HST.out)
        clear hS
        refine wp_region_noPanic ?_
        refine wp_region_held_drew (S := S) (by kernel_rfl) hSD (fun hHeld => ?_)
        apply wpAnyH_take (i := 0)
        · simp only [List.getElem?_toArray]; rfl
        · kernel_rfl
        · kernel_rfl
        · kernel_rfl
        · exact fun _ _ _ h => h
        · exact yields_rowP r (by rfl) _ rfl R9 0 rfl HS0.out
        · assumption
        try simp only [Act.put, List.setIfInBounds_toArray, List.set_cons_zero, List.set_cons_succ]
        apply wpAnyH_ready (rs := [1])
        · kernel_rfl
        · simp
        apply AllReadyH.cons (hs := AllReadyH.nil)
        · simp only [List.getElem?_toArray]; rfl
        intro K hK
        rw [if_pos (by rfl)]
        refine wp_call8 33 _ _ rfl [] rfl Try.func33 (by kernel_rfl) (by kernel_rfl) ((tbNone_any _).mono ?_)
        rintro e w3 ⟨rfl, hk3⟩
        refine ⟨.agg #[.int .u8 0, .int .u16 0, .int .u8 0, .int .u8 0, .int .u8 0, .int .u16 0, .int .u16 0, .int .u8 0, .int .u16 0, .int .u8 0, .int .i64 0, .int .i64 0], rfl, ?_⟩
        have HK3 := Lib.hid ((Keeps.refl [] W).drew.trans hk3 (FSub.refl _ _))
        clear hk3
        refine hK.out _ _ ?_ (fun hHeld => ?_)
        · exact (by rw [HSE.out]; exact HK3.out)
        clear hK K
        try simp only [Act.put, List.setIfInBounds_toArray, List.set_cons_zero, List.set_cons_succ]
        apply wpAnyH_take (i := 2)
        · simp only [List.getElem?_toArray]; rfl
        · kernel_rfl
        · kernel_rfl
        · kernel_rfl
        · exact fun _ _ _ h => h
        · exact yields_eqlP (by rfl) _ _ rfl r rfl rfl HQ.out
        · assumption
        try simp only [Act.put, List.setIfInBounds_toArray, List.set_cons_zero, List.set_cons_succ]
        apply wpAnyH_take (i := 3)
        · simp only [List.getElem?_toArray]; rfl
        · kernel_rfl
        · kernel_rfl
        · kernel_rfl
        · exact fun _ _ _ h => h
        · exact Or.inl ⟨by rfl, by intro w hSw; go_simp; try with_reducible rfl⟩
        · assumption
        try simp only [Act.put, List.setIfInBounds_toArray, List.set_cons_zero, List.set_cons_succ]
        apply wpAnyH_take (i := 4)
        · simp only [List.getElem?_toArray]; rfl
        · kernel_rfl
        · kernel_rfl
        · kernel_rfl
        · exact fun _ _ _ h => h
        · exact Or.inl ⟨by rfl, by intro w hSw; go_simp; try with_reducible rfl⟩
        · assumption
        try simp only [Act.put, List.setIfInBounds_toArray, List.set_cons_zero, List.set_cons_succ]
        apply wpAnyH_take (i := 5)
        · simp only [List.getElem?_toArray]; rfl
        · kernel_rfl
        · kernel_rfl
        · kernel_rfl
        · exact fun _ _ _ h => h
        · exact Or.inl ⟨by rfl, by intro w hSw; have q0 := HS1.out w hSw; have q1 := HS2.out w hSw; go_simp; try with_reducible rfl⟩
        · assumption
        try simp only [Act.put, List.setIfInBounds_toArray, List.set_cons_zero, List.set_cons_succ]
        apply wpAnyH_take (i := 6)
        · simp only [List.getElem?_toArray]; rfl
        · kernel_rfl
        · kernel_rfl
        · kernel_rfl
        · exact fun _ _ _ h => h
        · exact Or.inl ⟨by rfl, by intro w hSw; have q0 := HS1.out w hSw; have q1 := HS2.out w hSw; go_simp; try with_reducible rfl⟩
        · assumption
        try simp only [Act.put, List.setIfInBounds_toArray, List.set_cons_zero, List.set_cons_succ]
        apply wpAnyH_take (i := 7)
        · simp only [List.getElem?_toArray]; rfl
        · kernel_rfl
        · kernel_rfl
        · kernel_rfl
        · exact fun _ _ _ h => h
        · exact Or.inl ⟨by rfl, by intro w hSw; go_simp; try with_reducible rfl⟩
        · assumption
        try simp only [Act.put, List.setIfInBounds_toArray, List.set_cons_zero, List.set_cons_succ]
        refine wpAnyH_done (by kernel_rfl) ?_ _
        refine NoPanic.normal ?_
        have HK4 := Lib.hid (HKV.out.trans HK3.out (FSub.refl _ _))
        clear hHeld hSD HS0 HS1 HS2 HSE
        go_wp2_with fail
        go_ret
        exact HFIN.out _ HK4.out
  · have hm2 : tbMay t at_ = false := by simpa using hm
    have HR := Lib.hid (show TPost b kb mb w0 v (tbEnd t id false 0 0 at_) (.returned (.int .i64 2)) w0 from by
      unfold tbEnd
      rw [if_pos hm2]
      exact ⟨rfl, v, HT.out, Keeps.refl _ _, FSub.refl _ _⟩)
    rw [hm2]
    clear HF hm
    go_wp2_with fail
    go_ret
    exact HR.out
theorem endRet_any (w : World) {b kb mb : Nat} {v : Value} {t : Tb} (hT : TAt b kb mb w v t) (hok : TbOk t) (hfew : t.L.length ≤ 1000000) (id rk rv at_ : Int) (h0 : 0 ≤ id) (h1 : id < 65536) (q1 q2 : Nat) (d1 : q1 ∉ own v) (d2 : q2 ∉ own v)
    (m0 : w.cell? ⟨q1, 0, none⟩ = some (.int .u8 rk)) (m1 : w.cell? ⟨q1, 1, none⟩ = some (.int .u16 rv)) (m2 : w.cell? ⟨q2, 0, none⟩ = some (.int .i64 at_)) :
    Calls Try.prog 42 #[.pointer (some ⟨b, 0, none⟩), .int .u16 id, .int .i64 at_, .func (.func 43) #[] #[.pointer (some ⟨q1, 0, none⟩), .pointer (some ⟨q2, 0, none⟩)]] w (TPost b kb mb w v (tbEnd t id true rk rv at_)) := by
  have c0 := hT.cell
  have HMADE := Lib.hid (tbMade_yes _ c0)
  have HRISE := Lib.hid (kpRises_any _ hT.at_ hok.lo at_)
  have HF := Lib.hid (kpFind_any _ hT.at_ hok hfew id h0 h1)
  have HTO := Lib.hid (fun (i : Nat) (r : Rw) (h : t.L[i]? = some r) => row_to hok h)
  have HT := Lib.hid hT
  have HD1 := Lib.hid d1; have HD2 := Lib.hid d2; have HM0 := Lib.hid m0; have HM1 := Lib.hid m1; have HM2 := Lib.hid m2
  clear hT hok d1 d2 m0 m1 m2
  go_enter Try.func42, Try.ntmps42
  go_wp2_with fail
  refine (HMADE.out).mono ?_; rintro e w1 ⟨rfl, rfl⟩
  clear HMADE
  go_wp2_with fail
  refine (HRISE.out).mono ?_; rintro e w0 ⟨rfl, rfl⟩
  clear HRISE
  by_cases hm : tbMay t at_ = true
  · rw [hm]
    go_wp2_with fail
    refine (HF.out).mono ?_; rintro e w2 ⟨hf, hk2⟩
    have HK2 := Lib.hid hk2
    have HRZ := Lib.hid (heap_alloc_new w2 (.cells (rwC rwZero).toArray 42))
    have HKA := Lib.hid ((Keeps.refl [] w2).alloc (.cells (rwC rwZero).toArray 42))
    have HFR := Lib.hid (show t.last < at_ ∧ at_ ≤ rwMost from ⟨(tbMay_iff.1 hm).2.2, (tbMay_iff.1 hm).2.1⟩)
    clear hk2 HF c0
    cases hi : rwIdx id t.L with
    | none =>
      rw [hi] at hf
      simp only at hf
      subst hf
      have HFIN := Lib.hid (fun (w' : World) (hk : Keeps [] w0 w') => show TPost b kb mb w0 v (tbEnd t id true rk rv at_) (.returned (.int .i64 7)) w' from by
        have e : tbEnd t id true rk rv at_ = (7, t) := by unfold tbEnd; rw [hm, hi]; rfl
        rw [e]
        exact ⟨rfl, v, HT.out.new hk, hk.more (by simp), FSub.refl _ _⟩)
      have HST := Lib.hid trivial
      clear hi hm HFR
      go_wp2_with (first | ((with_reducible refine wpList_putP (old := rwZero) (r := rwZero) ?_ ?_ HRZ.out ?_); exact rfl; exact rfl))
      intro W hW hkW
      have HKV := Lib.hid (HK2.out.trans (HKA.out.trans hkW (fun q hq => .inr (by simp at hq; omega))) (FSub.refl _ _))
      have HB9 := Lib.hid hW
      clear hW hkW HKA HRZ
      generalize w2.heap.size = R9 at *
      go_wp2_with fail
      obtain ⟨S, hS⟩ : ∃ S : World → Prop, S = fun y => Keeps [] W y := ⟨_, rfl⟩
      have HSE := Lib.hid hS
      have hSD : S W.drew := by rw [hS]; exact (Keeps.refl _ _).drew
      have HS0 := Lib.hid (fun (w' : World) (h : S w') => show w'.rangeAt R9 0 (rwC rwZero) from by rw [hS] at h; exact fun i u hi => by rw [Nat.zero_add]; exact h.cell (rw_cell HB9.out i hi) (by simp))
      have HS1 := Lib.hid (fun (w' : World) (h : S w') => show w'.cell? ⟨R9, 9, none⟩ = some (.int .u8 (rwZero).st) from by rw [hS] at h; exact h.cell (rw_cell HB9.out 9 rfl) (by simp))
      have HS2 := Lib.hid (fun (w' : World) (_ : S w') => HST.out)
      clear hS
      refine wp_region_noPanic ?_
      refine wp_region_held_drew (S := S) (by kernel_rfl) hSD (fun hHeld => ?_)
      apply wpAnyH_take (i := 0)
      · simp only [List.getElem?_toArray]; rfl
      · kernel_rfl
      · kernel_rfl
      · kernel_rfl
      · exact fun _ _ _ h => h
      · exact yields_rowP rwZero (by rfl) _ rfl R9 0 rfl HS0.out
      · assumption
      try simp only [Act.put, List.setIfInBounds_toArray, List.set_cons_zero, List.set_cons_succ]
      apply wpAnyH_ready (rs := [1])
      · kernel_rfl
      · simp
      apply AllReadyH.cons (hs := AllReadyH.nil)
      · simp only [List.getElem?_toArray]; rfl
      intro K hK
      rw [if_pos (by rfl)]
      refine wp_call8 33 _ _ rfl [] rfl Try.func33 (by kernel_rfl) (by kernel_rfl) ((tbNone_any _).mono ?_)
      rintro e w3 ⟨rfl, hk3⟩
      refine ⟨.agg #[.int .u8 0, .int .u16 0, .int .u8 0, .int .u8 0, .int .u8 0, .int .u16 0, .int .u16 0, .int .u8 0, .int .u16 0, .int .u8 0, .int .i64 0, .int .i64 0], rfl, ?_⟩
      have HK3 := Lib.hid ((Keeps.refl [] W).drew.trans hk3 (FSub.refl _ _))
      clear hk3
      refine hK.out _ _ ?_ (fun hHeld => ?_)
      · exact (by rw [HSE.out]; exact HK3.out)
      clear hK K
      try simp only [Act.put, List.setIfInBounds_toArray, List.set_cons_zero, List.set_cons_succ]
      apply wpAnyH_take (i := 2)
      · simp only [List.getElem?_toArray]; rfl
      · kernel_rfl
      · kernel_rfl
      · kernel_rfl
      · exact fun _ _ _ h => h
      · exact yields_eqlZ (by rfl) _ _ rfl rfl rfl
      · assumption
      try simp only [Act.put, List.setIfInBounds_toArray, List.set_cons_zero, List.set_cons_succ]
      apply wpAnyH_take (i := 3)
      · simp only [List.getElem?_toArray]; rfl
      · kernel_rfl
      · kernel_rfl
      · kernel_rfl
      · exact fun _ _ _ h => h
      · exact Or.inl ⟨by rfl, by intro w hSw; go_simp; try with_reducible rfl⟩
      · assumption
      try simp only [Act.put, List.setIfInBounds_toArray, List.set_cons_zero, List.set_cons_succ]
      apply wpAnyH_take (i := 4)
      · simp only [List.getElem?_toArray]; rfl
      · kernel_rfl
      · kernel_rfl
      · kernel_rfl
      · exact fun _ _ _ h => h
      · exact Or.inr ⟨by rfl, rfl⟩
      · assumption
      try simp only [Act.put, List.setIfInBounds_toArray, List.set_cons_zero, List.set_cons_succ]
      apply wpAnyH_take (i := 5)
      · simp only [List.getElem?_toArray]; rfl
      · kernel_rfl
      · kernel_rfl
      · kernel_rfl
      · exact fun _ _ _ h => h
      · exact Or.inr ⟨by rfl, rfl⟩
      · assumption
      try simp only [Act.put, List.setIfInBounds_toArray, List.set_cons_zero, List.set_cons_succ]
      apply wpAnyH_take (i := 6)
      · simp only [List.getElem?_toArray]; rfl
      · kernel_rfl
      · kernel_rfl
      · kernel_rfl
      · exact fun _ _ _ h => h
      · exact Or.inr ⟨by rfl, rfl⟩
      · assumption
      try simp only [Act.put, List.setIfInBounds_toArray, List.set_cons_zero, List.set_cons_succ]
      apply wpAnyH_take (i := 7)
      · simp only [List.getElem?_toArray]; rfl
      · kernel_rfl
      · kernel_rfl
      · kernel_rfl
      · exact fun _ _ _ h => h
      · exact Or.inl ⟨by rfl, by intro w hSw; go_simp; try with_reducible rfl⟩
      · assumption
      try simp only [Act.put, List.setIfInBounds_toArray, List.set_cons_zero, List.set_cons_succ]
      refine wpAnyH_done (by kernel_rfl) ?_ _
      refine NoPanic.normal ?_
      have HK4 := Lib.hid (HKV.out.trans HK3.out (FSub.refl _ _))
      clear hHeld hSD HS0 HS1 HS2 HSE
      go_wp2_with fail
      go_ret
      exact HFIN.out _ HK4.out
    | some i =>
      rw [hi] at hf
      obtain ⟨r, hr, rfl⟩ := hf
      have HQ := Lib.hid (HTO.out i r hr)
      obtain ⟨hil, hge⟩ := List.getElem?_eq_some_iff.1 hr
      have HIL := Lib.hid hil; have HGE := Lib.hid hge
      by_cases hst : r.st = 0
      · have HE := Lib.hid (show tbEnd t id true rk rv at_ = (0, ⟨t.L.set i (rwEnd r true rk rv at_), at_⟩) by unfold tbEnd; rw [hm, hi]; simp [hr, hst])
        have HST := Lib.hid hst
        clear hi hr hm hge hst
        go_wp2_with (first | ((with_reducible refine wpList_putP (old := rwZero) (r := r) ?_ ?_ HRZ.out ?_); exact rfl; exact rfl))
        intro W hW hkW
        have HKV := Lib.hid (HK2.out.trans (HKA.out.trans hkW (fun q hq => .inr (by simp at hq; omega))) (FSub.refl _ _))
        have HB9 := Lib.hid hW
        clear hW hkW HKA HRZ
        generalize w2.heap.size = R9 at *
        go_wp2_with fail
        obtain ⟨S, hS⟩ : ∃ S : World → Prop, S = fun y => Keeps [] W y := ⟨_, rfl⟩
        have HSE := Lib.hid hS
        have hSD : S W.drew := by rw [hS]; exact (Keeps.refl _ _).drew
        have HS0 := Lib.hid (fun (w' : World) (h : S w') => show w'.rangeAt R9 0 (rwC r) from by rw [hS] at h; exact fun i u hi => by rw [Nat.zero_add]; exact h.cell (rw_cell HB9.out i hi) (by simp))
        have HS1 := Lib.hid (fun (w' : World) (h : S w') => show w'.cell? ⟨R9, 9, none⟩ = some (.int .u8 (r).st) from by rw [hS] at h; exact h.cell (rw_cell HB9.out 9 rfl) (by simp))
        have HS2 := Lib.hid (fun (w' : World) (_ : S w') => HST.out)
        clear hS
        refine wp_region_noPanic ?_
        refine wp_region_held_drew (S := S) (by kernel_rfl) hSD (fun hHeld => ?_)
        apply wpAnyH_take (i := 0)
        · simp only [List.getElem?_toArray]; rfl
        · kernel_rfl
        · kernel_rfl
        · kernel_rfl
        · exact fun _ _ _ h => h
        · exact yields_rowP r (by rfl) _ rfl R9 0 rfl HS0.out
        · assumption
        try simp only [Act.put, List.setIfInBounds_toArray, List.set_cons_zero, List.set_cons_succ]
        apply wpAnyH_ready (rs := [1])
        · kernel_rfl
        · simp
        apply AllReadyH.cons (hs := AllReadyH.nil)
        · simp only [List.getElem?_toArray]; rfl
        intro K hK
        rw [if_pos (by rfl)]
        refine wp_call8 33 _ _ rfl [] rfl Try.func33 (by kernel_rfl) (by kernel_rfl) ((tbNone_any _).mono ?_)
        rintro e w3 ⟨rfl, hk3⟩
        refine ⟨.agg #[.int .u8 0, .int .u16 0, .int .u8 0, .int .u8 0, .int .u8 0, .int .u16 0, .int .u16 0, .int .u8 0, .int .u16 0, .int .u8 0, .int .i64 0, .int .i64 0], rfl, ?_⟩
        have HK3 := Lib.hid ((Keeps.refl [] W).drew.trans hk3 (FSub.refl _ _))
        clear hk3
        refine hK.out _ _ ?_ (fun hHeld => ?_)
        · exact (by rw [HSE.out]; exact HK3.out)
        clear hK K
        try simp only [Act.put, List.setIfInBounds_toArray, List.set_cons_zero, List.set_cons_succ]
        apply wpAnyH_take (i := 2)
        · simp only [List.getElem?_toArray]; rfl
        · kernel_rfl
        · kernel_rfl
        · kernel_rfl
        · exact fun _ _ _ h => h
        · exact yields_eqlP (by rfl) _ _ rfl r rfl rfl HQ.out
        · assumption
        try simp only [Act.put, List.setIfInBounds_toArray, List.set_cons_zero, List.set_cons_succ]
        apply wpAnyH_take (i := 3)
        · simp only [List.getElem?_toArray]; rfl
        · kernel_rfl
        · kernel_rfl
        · kernel_rfl
        · exact fun _ _ _ h => h
        · exact Or.inl ⟨by rfl, by intro w hSw; go_simp; try with_reducible rfl⟩
        · assumption
        try simp only [Act.put, List.setIfInBounds_toArray, List.set_cons_zero, List.set_cons_succ]
        apply wpAnyH_take (i := 4)
        · simp only [List.getElem?_toArray]; rfl
        · kernel_rfl
        · kernel_rfl
        · kernel_rfl
        · exact fun _ _ _ h => h
        · exact Or.inl ⟨by rfl, by intro w hSw; go_simp; try with_reducible rfl⟩
        · assumption
        try simp only [Act.put, List.setIfInBounds_toArray, List.set_cons_zero, List.set_cons_succ]
        apply wpAnyH_take (i := 5)
        · simp only [List.getElem?_toArray]; rfl
        · kernel_rfl
        · kernel_rfl
        · kernel_rfl
        · exact fun _ _ _ h => h
        · exact Or.inl ⟨by rfl, by intro w hSw; have q0 := HS1.out w hSw; have q1 := HS2.out w hSw; go_simp; try with_reducible rfl⟩
        · assumption
        try simp only [Act.put, List.setIfInBounds_toArray, List.set_cons_zero, List.set_cons_succ]
        apply wpAnyH_take (i := 6)
        · simp only [List.getElem?_toArray]; rfl
        · kernel_rfl
        · kernel_rfl
        · kernel_rfl
        · exact fun _ _ _ h => h
        · exact Or.inl ⟨by rfl, by intro w hSw; have q0 := HS1.out w hSw; have q1 := HS2.out w hSw; go_simp; try with_reducible rfl⟩
        · assumption
        try simp only [Act.put, List.setIfInBounds_toArray, List.set_cons_zero, List.set_cons_succ]
        apply wpAnyH_take (i := 7)
        · simp only [List.getElem?_toArray]; rfl
        · kernel_rfl
        · kernel_rfl
        · kernel_rfl
        · exact fun _ _ _ h => h
        · exact Or.inl ⟨by rfl, by intro w hSw; go_simp; try with_reducible rfl⟩
        · assumption
        try simp only [Act.put, List.setIfInBounds_toArray, List.set_cons_zero, List.set_cons_succ]
        refine wpAnyH_done (by kernel_rfl) ?_ _
        refine NoPanic.normal ?_
        have HK4 := Lib.hid (HKV.out.trans HK3.out (FSub.refl _ _))
        clear hHeld hSD HS0 HS1 HS2 HSE
        have hT4 := HT.out.new HK4.out
        have c4 := hT4.cell
        obtain ⟨k0, k1, k2⟩ := hT4.at_.cells
        obtain ⟨g, cap, rfl, hc, hmx, -, hg, -⟩ := hT4.at_.row.at (fun e => by have := HIL.out; rw [e] at this; simp at this)
        have hil2 : (i : Int) < t.L.length := by have := HIL.out; omega
        have HROW := Lib.hid hT4.at_.row; have HT4 := Lib.hid hT4
        clear hT4 hg
        go_wp2_with fail
        refine (ret1_any w3 HROW.out i HIL.out q1 q2 rk rv at_ (fun e => HD1.out (by rw [e]; simp [own, Value.ownBlock])) (fun e => HD2.out (by rw [e]; simp [own, Value.ownBlock])) (HK4.out.cell HM0.out (by simp)) (HK4.out.cell HM1.out (by simp)) (HK4.out.cell HM2.out (by simp))).mono ?_
        rintro e w5 ⟨rfl, hrow5, hk5⟩
        rw [HGE.out] at hrow5
        have hd5 := HT4.out.at_.dis g (by simp [own, Value.ownBlock])
        have hb5 : b ≠ g := fun e => HT4.out.dis (by rw [e]; simp [own, Value.ownBlock])
        have hkept5 := hk5.heap HT4.out.at_.kept (by simp; exact Ne.symm hd5.1)
        have hmap5 := HT4.out.at_.map.keeps hk5 (by simp; exact Ne.symm hd5.2)
        have c5 : w5.cell? ⟨b, 0, none⟩ = some (.pointer (some ⟨kb, 0, none⟩)) := hk5.cell c4 (by simp; exact hb5)
        have g1 : w5.cell? ⟨kb, 2, none⟩ = some (.int .i64 t.last) := by simp [World.cell?, hkept5]
        have g2 : w5.frozen? ⟨kb, 2, none⟩ = false := by simp [World.frozen?, hkept5]
        have k6 : Keeps [kb] w5 (w5.setCell ⟨kb, 2, none⟩ (.int .i64 at_)) := (Keeps.refl [kb] w5).setCell _ _ (.inl (by simp))
        have HKP := Lib.hid (show KPost kb mb w3 (.slice (some ⟨g, 0, none⟩) t.L.length cap) ⟨t.L.set i (rwEnd r true rk rv at_), at_⟩ (w5.setCell ⟨kb, 2, none⟩ (.int .i64 at_)) from by
          have hid : (rwEnd r true rk rv at_).id = (t.L[i]'hil).id := by rw [HGE.out]; rfl
          have hfr : (rwEnd r true rk rv at_).fr = (t.L[i]'hil).fr := by rw [HGE.out]; rfl
          have e2 : (t.L.set i (rwEnd r true rk rv at_)).length = t.L.length := List.length_set
          refine ⟨_, ⟨?_, hrow5.keeps k6 (fun q hq hb => (HT4.out.at_.dis q hq).1 (by simpa using hb)), ?_, HT4.out.at_.ap, HT4.out.at_.dis⟩, ?_, FSub.refl _ _⟩
          · rw [heap_setCell_same w5 kb 2 _ _ _ hkept5]; rfl
          · exact (hmap5.keeps k6 (by simp; exact Ne.symm HT4.out.at_.ap)).congr (fun id' => frOf_set hil hid hfr) (Int.le_of_lt HFR.out.1)
          · exact (hk5.more (G := kb :: mb :: own (.slice (some ⟨g, 0, none⟩) t.L.length cap)) (by simp [own, Value.ownBlock])).step (k6.more (by simp)) (fun q hq => hq))
        clear hrow5 hk5 hkept5 hmap5 c4 k0 k1 k2 HB9
        go_wp2_with fail
        go_ret
        exact ⟨by rw [HE.out]; rfl, by rw [HE.out]; exact HT.out.post HK4.out HKP.out⟩
      · have HFIN := Lib.hid (fun (w' : World) (hk : Keeps [] w0 w') => show TPost b kb mb w0 v (tbEnd t id true rk rv at_) (.returned (.int .i64 7)) w' from by
          have e : tbEnd t id true rk rv at_ = (7, t) := by unfold tbEnd; rw [hm, hi]; simp [hr, hst]
          rw [e]
          exact ⟨rfl, v, HT.out.new hk, hk.more (by simp), FSub.refl _ _⟩)
        have HST := Lib.hid (show (r.st != 0) = true by simpa using hst)
        clear hi hr hm HFR hge hst
        go_wp2_with (first | ((with_reducible refine wpList_putP (old := rwZero) (r := r) ?_ ?_ HRZ.out ?_); exact rfl; exact rfl))
        intro W hW hkW
        have HKV := Lib.hid (HK2.out.trans (HKA.out.trans hkW (fun q hq => .inr (by simp at hq; omega))) (FSub.refl _ _))
        have HB9 := Lib.hid hW
        clear hW hkW HKA HRZ
        generalize w2.heap.size = R9 at *
        go_wp2_with fail
        obtain ⟨S, hS⟩ : ∃ S : World → Prop, S = fun y => Keeps [] W y := ⟨_, rfl⟩
        have HSE := Lib.hid hS
        have hSD : S W.drew := by rw [hS]; exact (Keeps.refl _ _).drew
        have HS0 := Lib.hid (fun (w' : World) (h : S w') => show w'.rangeAt R9 0 (rwC r) from by rw [hS] at h; exact fun i u hi => by rw [Nat.zero_add]; exact h.cell (rw_cell HB9.out i hi) (by simp))
        have HS1 := Lib.hid (fun (w' : World) (h : S w') => show w'.cell? ⟨R9, 9, none⟩ = some (.int .u8 (r).st) from by rw [hS] at h; exact h.cell (rw_cell HB9.out 9 rfl) (by simp))
        have HS2 := Lib.hid (fun (w' : World) (_ : S w') => HST.out)
        clear hS
        refine wp_region_noPanic ?_
        refine wp_region_held_drew (S := S) (by kernel_rfl) hSD (fun hHeld => ?_)
        apply wpAnyH_take (i := 0)
        · simp only [List.getElem?_toArray]; rfl
        · kernel_rfl
        · kernel_rfl
        · kernel_rfl
        · exact fun _ _ _ h => h
        · exact yields_rowP r (by rfl) _ rfl R9 0 rfl HS0.out
        · assumption
        try simp only [Act.put, List.setIfInBounds_toArray, List.set_cons_zero, List.set_cons_succ]
        apply wpAnyH_ready (rs := [1])
        · kernel_rfl
        · simp
        apply AllReadyH.cons (hs := AllReadyH.nil)
        · simp only [List.getElem?_toArray]; rfl
        intro K hK
        rw [if_pos (by rfl)]
        refine wp_call8 33 _ _ rfl [] rfl Try.func33 (by kernel_rfl) (by kernel_rfl) ((tbNone_any _).mono ?_)
        rintro e w3 ⟨rfl, hk3⟩
        refine ⟨.agg #[.int .u8 0, .int .u16 0, .int .u8 0, .int .u8 0, .int .u8 0, .int .u16 0, .int .u16 0, .int .u8 0, .int .u16 0, .int .u8 0, .int .i64 0, .int .i64 0], rfl, ?_⟩
        have HK3 := Lib.hid ((Keeps.refl [] W).drew.trans hk3 (FSub.refl _ _))
        clear hk3
        refine hK.out _ _ ?_ (fun hHeld => ?_)
        · exact (by rw [HSE.out]; exact HK3.out)
        clear hK K
        try simp only [Act.put, List.setIfInBounds_toArray, List.set_cons_zero, List.set_cons_succ]
        apply wpAnyH_take (i := 2)
        · simp only [List.getElem?_toArray]; rfl
        · kernel_rfl
        · kernel_rfl
        · kernel_rfl
        · exact fun _ _ _ h => h
        · exact yields_eqlP (by rfl) _ _ rfl r rfl rfl HQ.out
        · assumption
        try simp only [Act.put, List.setIfInBounds_toArray, List.set_cons_zero, List.set_cons_succ]
        apply wpAnyH_take (i := 3)
        · simp only [List.getElem?_toArray]; rfl
        · kernel_rfl
        · kernel_rfl
        · kernel_rfl
        · exact fun _ _ _ h => h
        · exact Or.inl ⟨by rfl, by intro w hSw; go_simp; try with_reducible rfl⟩
        · assumption
        try simp only [Act.put, List.setIfInBounds_toArray, List.set_cons_zero, List.set_cons_succ]
        apply wpAnyH_take (i := 4)
        · simp only [List.getElem?_toArray]; rfl
        · kernel_rfl
        · kernel_rfl
        · kernel_rfl
        · exact fun _ _ _ h => h
        · exact Or.inl ⟨by rfl, by intro w hSw; go_simp; try with_reducible rfl⟩
        · assumption
        try simp only [Act.put, List.setIfInBounds_toArray, List.set_cons_zero, List.set_cons_succ]
        apply wpAnyH_take (i := 5)
        · simp only [List.getElem?_toArray]; rfl
        · kernel_rfl
        · kernel_rfl
        · kernel_rfl
        · exact fun _ _ _ h => h
        · exact Or.inl ⟨by rfl, by intro w hSw; have q0 := HS1.out w hSw; have q1 := HS2.out w hSw; go_simp; try with_reducible rfl⟩
        · assumption
        try simp only [Act.put, List.setIfInBounds_toArray, List.set_cons_zero, List.set_cons_succ]
        apply wpAnyH_take (i := 6)
        · simp only [List.getElem?_toArray]; rfl
        · kernel_rfl
        · kernel_rfl
        · kernel_rfl
        · exact fun _ _ _ h => h
        · exact Or.inl ⟨by rfl, by intro w hSw; have q0 := HS1.out w hSw; have q1 := HS2.out w hSw; go_simp; try with_reducible rfl⟩
        · assumption
        try simp only [Act.put, List.setIfInBounds_toArray, List.set_cons_zero, List.set_cons_succ]
        apply wpAnyH_take (i := 7)
        · simp only [List.getElem?_toArray]; rfl
        · kernel_rfl
        · kernel_rfl
        · kernel_rfl
        · exact fun _ _ _ h => h
        · exact Or.inl ⟨by rfl, by intro w hSw; go_simp; try with_reducible rfl⟩
        · assumption
        try simp only [Act.put, List.setIfInBounds_toArray, List.set_cons_zero, List.set_cons_succ]
        refine wpAnyH_done (by kernel_rfl) ?_ _
        refine NoPanic.normal ?_
        have HK4 := Lib.hid (HKV.out.trans HK3.out (FSub.refl _ _))
        clear hHeld hSD HS0 HS1 HS2 HSE
        go_wp2_with fail
        go_ret
        exact HFIN.out _ HK4.out
  · have hm2 : tbMay t at_ = false := by simpa using hm
    have HR := Lib.hid (show TPost b kb mb w0 v (tbEnd t id true rk rv at_) (.returned (.int .i64 2)) w0 from by
      unfold tbEnd
      rw [if_pos hm2]
      exact ⟨rfl, v, HT.out, Keeps.refl _ _, FSub.refl _ _⟩)
    rw [hm2]
    clear HF hm
    go_wp2_with fail
    go_ret
    exact HR.out
theorem tbInfo_any (w : World) {b kb mb : Nat} {v : Value} {t : Tb} (hT : TAt b kb mb w v t) (hok : TbOk t) (hfew : t.L.length ≤ 1000000) (id at_ : Int) (h0 : 0 ≤ id) (h1 : id < 65536) :
    Calls Try.prog 25 #[.pointer (some ⟨b, 0, none⟩), .int .u16 id, .int .i64 at_] w (TPost b kb mb w v (tbEnd t id false 0 0 at_)) := by
  have HE := Lib.hid (endInfo_any w hT hok hfew id at_ h0 h1)
  clear hT hok
  go_enter Try.func25, Try.ntmps25
  go_wp2_with fail
  refine (HE.out).mono ?_; rintro e w1 ⟨rfl, hp⟩
  have HP := Lib.hid hp
  clear hp HE
  go_wp2_with fail
  go_ret
  exact ⟨rfl, HP.out⟩
theorem tbReturn_any (w : World) {b kb mb : Nat} {v : Value} {t : Tb} (hT : TAt b kb mb w v t) (hok : TbOk t) (hfew : t.L.length ≤ 1000000) (id rk rv at_ : Int) (h0 : 0 ≤ id) (h1 : id < 65536) :
    Calls Try.prog 24 #[.pointer (some ⟨b, 0, none⟩), .int .u16 id, .agg #[.int .u8 rk, .int .u16 rv], .int .i64 at_] w (TPost b kb mb w v (tbEnd t id true rk rv at_)) := by
  have hk1 := (Keeps.refl [] w).alloc (.cells #[.int .u8 rk, .int .u16 rv] 32)
  have hA := heap_alloc_new w (.cells #[.int .u8 rk, .int .u16 rv] 32)
  have hk2 := (Keeps.refl [] (w.alloc (.cells #[.int .u8 rk, .int .u16 rv] 32))).alloc (.cells #[.int .i64 at_] 3)
  have hB := heap_alloc_new (w.alloc (.cells #[.int .u8 rk, .int .u16 rv] 32)) (.cells #[.int .i64 at_] 3)
  have hs : (w.alloc (.cells #[.int .u8 rk, .int .u16 rv] 32)).heap.size = w.heap.size + 1 := by simp
  rw [hs] at hB
  have hA2 := hk2.heap hA (by simp)
  have hk := hk1.trans hk2 (FSub.refl _ _)
  have hlt : ∀ q ∈ own v, q < w.heap.size := fun q hq => (row_base hT.at_.row q hq).2
  have HE := Lib.hid (endRet_any _ (hT.new hk) hok hfew id rk rv at_ h0 h1 w.heap.size (w.heap.size + 1) (fun hq => by have := hlt _ hq; omega) (fun hq => by have := hlt _ hq; omega) (cell_lit hA2 0 rfl) (cell_lit hA2 1 rfl) (cell_lit hB 0 rfl))
  have HK := Lib.hid hk
  have m2 : ((w.alloc (.cells #[.int .u8 rk, .int .u16 rv] 32)).alloc (.cells #[.int .i64 at_] 3)).cell? ⟨w.heap.size + 1, 0, none⟩ = some (.int .i64 at_) := cell_lit hB 0 rfl
  clear hT hok hk1 hA hk2 hB hA2 hk hs hlt
  go_enter Try.func24, Try.ntmps24
  go_wp2_with fail
  refine (HE.out).mono ?_; rintro e w1 ⟨rfl, hp⟩
  have HP := Lib.hid hp
  clear hp HE m2
  go_wp2_with fail
  go_ret
  obtain ⟨v', h1', h2', h3'⟩ := HP.out
  exact ⟨rfl, v', h1', (HK.out.more (by simp)).step h2' (fun q hq => hq), FSub.mono h3' HK.out.size⟩
end Go.Proofs.Ytjiglbjpmclncaa
/-
  The program's table keeps what the law's walks ask of one.
-/
namespace Go.Proofs.Ytjiglbjpmclncaa
open Go.RowKit Go.Maps
/-- Tables of the program, all that they can. -/
structure PAll extends PTabs where
  find : ∀ {w p O t}, At w p O t → TbOk t → t.L.length ≤ 1000 → ∀ (id : Int), 0 ≤ id → id < 65536 → Calls Try.prog 17 #[p, .int .u16 id] w fun e w' => e = .returned (.tuple #[.agg (rwC ((tbFind t id).getD rwZero)).toArray, .bool (tbFind t id).isSome]) ∧ Keeps [] w w'
  count : ∀ {w p O t}, At w p O t → t.L.length ≤ 1000 → ∀ (st : Int), Calls Try.prog 19 #[p, .int .u8 st] w fun e w' => e = .returned (.int .i64 (tbCount t st)) ∧ Keeps [] w w'
  copy : ∀ {w p O t}, At w p O t → t.L.length ≤ 1000 → Calls Try.prog 10 #[p] w fun e w' => ∃ p' O', e = .returned p' ∧ At w' p' O' t ∧ Keeps [] w w' ∧ ∀ q ∈ O', w.heap.size ≤ q
  ptr : ∀ {w p O t}, At w p O t → ∃ b, p = .pointer (some ⟨b, 0, none⟩)
def TbAt (w : World) (p : Value) (O : List Nat) (t : Tb) : Prop := ∃ b kb mb v, p = .pointer (some ⟨b, 0, none⟩) ∧ O = b :: kb :: mb :: own v ∧ TAt b kb mb w v t
theorem TPost.all {b kb mb : Nat} {w : World} {v : Value} {r : Int × Tb} {e : Ending} {w' : World} (h : TPost b kb mb w v r e w') : PPost TbAt w (.pointer (some ⟨b, 0, none⟩)) (b :: kb :: mb :: own v) r e w' := by
  obtain ⟨h1, v', h2, h3, h4⟩ := h
  refine ⟨h1, _, ⟨b, kb, mb, v', rfl, rfl, h2⟩, h3.more (fun q hq => List.mem_cons_of_mem _ hq), fun q hq => ?_⟩
  simp only [List.mem_cons] at hq
  rcases hq with rfl | rfl | rfl | hq
  · exact .inl (by simp)
  · exact .inl (by simp)
  · exact .inl (by simp)
  · exact (h4 q hq).imp (fun h => by simp [h]) id
theorem TbAt.below {w : World} {p : Value} {O : List Nat} {t : Tb} (h : TbAt w p O t) : ∀ q ∈ O, q < w.heap.size := by
  obtain ⟨b, kb, mb, v, rfl, rfl, hT⟩ := h
  intro q hq
  simp only [List.mem_cons] at hq
  rcases hq with rfl | rfl | rfl | hq
  · exact hT.lt
  · exact hT.at_.lt
  · exact hT.at_.map.lt
  · exact (row_base hT.at_.row q hq).2
theorem TbAt.keeps {w w' : World} {p : Value} {O : List Nat} {t : Tb} {F : List Nat} (h : TbAt w p O t) (hk : Keeps F w w') (hF : ∀ q ∈ O, q ∉ F) : TbAt w' p O t := by
  obtain ⟨b, kb, mb, v, rfl, rfl, hT⟩ := h
  exact ⟨b, kb, mb, v, rfl, rfl, hT.keeps hk (hF b (by simp)) (hF kb (by simp)) (hF mb (by simp)) (fun q hq => hF q (by simp [hq]))⟩
def tabP : PAll where
  At := TbAt
  below h := h.below
  keeps h hk hF := h.keeps hk hF
  inv h hok hn c id o at_ _ _ h0 h1 _ _ _ := by
    obtain ⟨b, kb, mb, v, rfl, rfl, hT⟩ := h
    exact (tbInvoke_any _ hT hok (by omega) c id o at_ h0 h1).mono fun e w' hp => hp.all
  ret h hok hn id rk rv at_ h0 h1 _ _ _ _ _ _ := by
    obtain ⟨b, kb, mb, v, rfl, rfl, hT⟩ := h
    exact (tbReturn_any _ hT hok (by omega) id rk rv at_ h0 h1).mono fun e w' hp => hp.all
  info h hok hn id at_ h0 h1 _ _ := by
    obtain ⟨b, kb, mb, v, rfl, rfl, hT⟩ := h
    exact (tbInfo_any _ hT hok (by omega) id at_ h0 h1).mono fun e w' hp => hp.all
  rem h hok hn id h0 h1 := by
    obtain ⟨b, kb, mb, v, rfl, rfl, hT⟩ := h
    exact (tbRemove_any _ hT hok (by omega) id h0 h1).mono fun e w' hp => hp.all
  settle h hok hn := by
    obtain ⟨b, kb, mb, v, rfl, rfl, hT⟩ := h
    exact (tbSettle_any _ hT hok (by omega)).mono fun e w' hp => hp.all
  Rdy _ _ := True
  rdy _ _ := trivial
  new {N w} _ _ := (tbNew_any w).mono fun e w' hp => by
    obtain ⟨b, kb, mb, rfl, hT, hk, h1, h2, h3⟩ := hp
    refine ⟨_, _, rfl, ⟨b, kb, mb, _, rfl, rfl, hT⟩, hk, fun q hq => ?_⟩
    simp [own, Value.ownBlock] at hq
    omega
  rows h hok hn := by
    obtain ⟨b, kb, mb, v, rfl, rfl, hT⟩ := h
    exact tbRows_any _ hT (by omega)
  before := tbBefore_any
  find h hok hn id h0 h1 := by
    obtain ⟨b, kb, mb, v, rfl, rfl, hT⟩ := h
    exact tbFindF_any _ hT hok (by omega) id h0 h1
  count h hn st := by
    obtain ⟨b, kb, mb, v, rfl, rfl, hT⟩ := h
    exact tbCount_any _ hT (by omega) st
  copy h hn := by
    obtain ⟨b, kb, mb, v, rfl, rfl, hT⟩ := h
    refine (tbCopy_any _ hT (by omega)).mono fun e w' hp => ?_
    obtain ⟨b', kb', mb', v', rfl, hT', hk, h1, h2, h3, h4⟩ := hp
    refine ⟨_, _, rfl, ⟨b', kb', mb', v', rfl, rfl, hT'⟩, hk, fun q hq => ?_⟩
    simp only [List.mem_cons] at hq
    rcases hq with rfl | rfl | rfl | hq
    · exact h1
    · exact h2
    · exact h3
    · exact h4 q hq
  ptr h := by
    obtain ⟨b, kb, mb, v, rfl, rfl, hT⟩ := h
    exact ⟨b, rfl⟩
end Go.Proofs.Ytjiglbjpmclncaa
/-
  Acts in memory; both tables on their way.
-/
namespace Go.Proofs.Ytjiglbjpmclncaa
open Go.RowKit Go.Maps
def acZero : Ac := ⟨0, 0, 0, ⟨0, 0, 0, 0, 0⟩, 0, 0, 0⟩
theorem acC_len (x : Ac) : (acC x).length = 11 := rfl
theorem acC_one (x : Ac) : ∀ v ∈ acC x, v.oneCell' = true := by
  intro v hv
  simp only [acC, List.mem_cons, List.not_mem_nil, or_false] at hv
  rcases hv with rfl | rfl | rfl | rfl | rfl | rfl | rfl | rfl | rfl | rfl | rfl <;> rfl
theorem Try.infoAct8 : (Try.prog.info? 34).map (fun i => (i.zero, i.size, i.bytes)) = some (some (.agg (acC acZero).toArray), 11, 24) := by kernel_rfl
noncomputable def kAc : RK Ac :=
  { T := 34, Sl := 22, s := 11, b := 24, cs := acC, i := (info_parts Try.infoAct8).choose, z := .agg (acC acZero).toArray,
    len := acC_len, one := acC_one, s0 := by decide, b1 := by decide, und := Try.underlying22,
    hi := (info_parts Try.infoAct8).choose_spec.1, hz := (info_parts Try.infoAct8).choose_spec.2.1, hs := (info_parts Try.infoAct8).choose_spec.2.2.1, hb := (info_parts Try.infoAct8).choose_spec.2.2.2, hzs := rfl }
section
variable {ops : Array Oper} {rest : List Oper} {a : Act} {w : World} {Q : Exit → Act → World → Prop}
theorem wpList_loadA {dst : Option Tmp} {ty : TypeId} {pos : String} {after : Array Edge} {gd : Option (Nat × Bool)} {x : Operand} {g off : Nat} {y : Ac}
    (hw : Region.wanted { dst := dst, op := .load 34 x, type := ty, pos := pos, after := after, guard := gd } (yielded ops a.tmps) = true)
    (hx : a.eval x = .pointer (some ⟨g, off, none⟩)) (hr : w.rangeAt g off (acC y)) (h : wpList Try.prog ops Q rest (a.put dst (.agg (acC y).toArray)) w) :
    wpList Try.prog ops Q ({ dst := dst, op := .load 34 x, type := ty, pos := pos, after := after, guard := gd } :: rest) a w :=
  kAc.wpList_load Try.underlying34 rfl rfl hw hx hr h
theorem wpList_putA {dst : Option Tmp} {ty : TypeId} {pos : String} {after : Array Edge} {x y : Operand} {g : Nat} {old r : Ac} {t : TypeId}
    (hx : a.eval x = .pointer (some ⟨g, 0, none⟩)) (hy : a.eval y = .agg (acC r).toArray) (hg : w.heap[g]? = some (.cells (acC old).toArray t (0, 0)))
    (h : ∀ W, W.heap[g]? = some (.cells (acC r).toArray t (0, 0)) → Keeps [g] w W → wpList Try.prog ops Q rest (a.put dst undef) W) :
    wpList Try.prog ops Q ({ dst := dst, op := .store 34 x y, type := ty, pos := pos, after := after, guard := none } :: rest) a w :=
  wpList_store_row rfl 34 x y rfl g (acC r).toArray hx hy t (acC old).toArray hg (by kernel_rfl) rfl (by rw [← Array.all_toList, List.all_eq_true]; exact acC_one r) (h _ (setRow_heap w g (acC old).toArray (acC r).toArray t (0, 0) hg) ((Keeps.refl [g] w).setRow g _ (.inl (by simp))))
end
/-- An act's cells, one by one. -/
theorem ac_cells {w : World} {B : Nat} {x : Ac} {T : TypeId} (h : w.heap[B]? = some (.cells (acC x).toArray T (0, 0))) : ∀ i u, (acC x)[i]? = some u → w.cell? ⟨B, i, none⟩ = some u := fun i u hi => by
  simp only [World.cell?, h]; simpa using hi
theorem kAc_at {N : Nat} {w : World} {a : Option Addr} {n c : Nat} {L : List Ac} (h : kAc.In N w (.slice a n c) L) (k : Nat) (hk : k < L.length) : ∃ bk o, a = some ⟨bk, o, none⟩ ∧ bk < N ∧ w.rangeAt bk (o + k * 11) (acC L[k]) := by
  obtain ⟨a', c', e, _, _, h⟩ := h
  injection e with e1 e2 e3
  subst e1
  obtain ⟨bk, o, e, hb, hr⟩ := h (fun e => by rw [e] at hk; simp at hk)
  exact ⟨bk, o, e, hb, hr k hk⟩
/-- Both tables, of which nothing older was touched. -/
structure Duo (w0 w : World) (p : Value) (O : List Nat) (b base : Nat) (v : Value) (t : Tb) : Prop where
  both : Both tabP.toPTab w p O b base v t
  k : Keeps [] w0 w
  o : ∀ q ∈ O ++ b :: own v, w0.heap.size ≤ q
  ok : TbOk t
theorem Duo.new {w0 w w' : World} {p : Value} {O : List Nat} {b base : Nat} {v : Value} {t : Tb} (h : Duo w0 w p O b base v t) (hk : Keeps [] w w') : Duo w0 w' p O b base v t :=
  ⟨h.both.new hk, h.k.trans hk (FSub.refl _ _), h.o, h.ok⟩
theorem acX_ok {t : Tb} (h : TbOk t) {x : Ac} (hx : x.In) : TbOk (acX t x).2 := by
  unfold acX
  split
  · exact h.inv hx.c hx.id hx.o
  · split
    · exact h.end_ hx.rk hx.rv
    · split
      · exact h.end_ hx.rk hx.rv
      · split
        · exact h.rem _
        · split
          · exact h.settle
          · exact h
theorem tbInv_len (t : Tb) (c id at_ : Int) (o : Opn) : (tbInv t c id o at_).2.L.length ≤ t.L.length + 1 := by
  unfold tbInv; split
  · exact Nat.le_succ _
  · split
    · exact Nat.le_succ _
    · simp
theorem tbEnd_len (t : Tb) (id rk rv at_ : Int) (d : Bool) : (tbEnd t id d rk rv at_).2.L.length = t.L.length := by
  unfold tbEnd; split
  · rfl
  · cases rwIdx id t.L with
    | none => rfl
    | some i =>
      simp only []
      cases t.L[i]? with
      | none => rfl
      | some r =>
        simp only []
        split
        · simp
        · rfl
theorem Duo.act {w0 w w' : World} {p : Value} {O O' : List Nat} {b base : Nat} {v v' : Value} {t : Tb} {x : Ac} (h : Duo w0 w p O b base v t) (hx : x.In) (h1 : Both tabP.toPTab w' p O' b base v' (acX t x).2) (h2 : Keeps (O ++ b :: own v) w w') (h3 : FSub (O' ++ own v') (O ++ own v) w.heap.size) : Duo w0 w' p O' b base v' (acX t x).2 := by
  refine ⟨h1, h.k.trans h2 (fun q hq => .inr (h.o q hq)), fun q hq => ?_, acX_ok h.ok hx⟩
  rcases List.mem_append.1 hq with h4 | h4
  · rcases h3 q (List.mem_append.2 (.inl h4)) with h5 | h5
    · exact h.o q (by rcases List.mem_append.1 h5 with h6 | h6 <;> simp [h6])
    · exact Nat.le_trans h.k.size h5
  · rcases List.mem_cons.1 h4 with h5 | h5
    · exact h.o q (by simp [h5])
    · rcases h3 q (List.mem_append.2 (.inr h5)) with h6 | h6
      · exact h.o q (by rcases List.mem_append.1 h6 with h7 | h7 <;> simp [h7])
      · exact Nat.le_trans h.k.size h6
end Go.Proofs.Ytjiglbjpmclncaa
