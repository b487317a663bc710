/-
  The program's table: Return, Info.
-/
import Derived.Deep.RegionHeld3
import Derived.Test.YtjiglbjpmclncaaE10
import Derived.Test.YtjiglbjpmclncaaE04
set_option linter.unusedSimpArgs false
set_option linter.unusedVariables false
namespace Go.Proofs.Ytjiglbjpmclncaa
open Go.RowKit Go.Maps
set_option maxHeartbeats 8000000
set_option maxRecDepth 100000
theorem endInfo_any (w : World) {b kb mb : Nat} {v : Value} {t : Tb} (hT : TAt b kb mb w v t) (hok : TbOk t) (hfew : t.L.length ≤ 1000000) (id at_ : Int) (h0 : 0 ≤ id) (h1 : id < 65536) :
    Calls Try.prog 42 #[.pointer (some ⟨b, 0, none⟩), .int .u16 id, .int .i64 at_, .func (.func 44) #[] #[]] w (TPost b kb mb w v (tbEnd t id false 0 0 at_)) := by
  have c0 := hT.cell
  have HMADE := Lib.hid (tbMade_yes _ c0)
  have HRISE := Lib.hid (kpRises_any _ hT.at_ hok.lo at_)
  have HF := Lib.hid (kpFind_any _ hT.at_ hok hfew id h0 h1)
  have HTO := Lib.hid (fun (i : Nat) (r : Rw) (h : t.L[i]? = some r) => row_to hok h)
  have HT := Lib.hid hT
  clear hT hok
  go_enter Try.func42, Try.ntmps42
  go_wp2_with fail
  refine (HMADE.out).mono ?_; rintro e w1 ⟨rfl, rfl⟩
  clear HMADE
  go_wp2_with fail
  refine (HRISE.out).mono ?_; rintro e w0 ⟨rfl, rfl⟩
  clear HRISE
  by_cases hm : tbMay t at_ = true
  · rw [hm]
    go_wp2_with fail
    refine (HF.out).mono ?_; rintro e w2 ⟨hf, hk2⟩
    have HK2 := Lib.hid hk2
    have HRZ := Lib.hid (heap_alloc_new w2 (.cells (rwC rwZero).toArray 42))
    have HKA := Lib.hid ((Keeps.refl [] w2).alloc (.cells (rwC rwZero).toArray 42))
    have HFR := Lib.hid (show t.last < at_ ∧ at_ ≤ rwMost from ⟨(tbMay_iff.1 hm).2.2, (tbMay_iff.1 hm).2.1⟩)
    clear hk2 HF c0
    cases hi : rwIdx id t.L with
    | none =>
      rw [hi] at hf
      simp only at hf
      subst hf
      have HFIN := Lib.hid (fun (w' : World) (hk : Keeps [] w0 w') => show TPost b kb mb w0 v (tbEnd t id false 0 0 at_) (.returned (.int .i64 7)) w' from by
        have e : tbEnd t id false 0 0 at_ = (7, t) := by unfold tbEnd; rw [hm, hi]; rfl
        rw [e]
        exact ⟨rfl, v, HT.out.new hk, hk.more (by simp), FSub.refl _ _⟩)
      have HST := Lib.hid trivial
      clear hi hm HFR
      go_wp2_with (first | ((with_reducible refine wpList_putP (old := rwZero) (r := rwZero) ?_ ?_ HRZ.out ?_); exact rfl; exact rfl))
      intro W hW hkW
      have HKV := Lib.hid (HK2.out.trans (HKA.out.trans hkW (fun q hq => .inr (by simp at hq; omega))) (FSub.refl _ _))
      have HB9 := Lib.hid hW
      clear hW hkW HKA HRZ
      generalize w2.heap.size = R9 at *
      go_wp2_with fail
      obtain ⟨S, hS⟩ : ∃ S : World → Prop, S = fun y => Keeps [] W y := ⟨_, rfl⟩
      have HSE := Lib.hid hS
      have hSD : S W.drew := by rw [hS]; exact (Keeps.refl _ _).drew
      have HS0 := Lib.hid (fun (w' : World) (h : S w') => show w'.rangeAt R9 0 (rwC rwZero) from by rw [hS] at h; exact fun i u hi => by rw [Nat.zero_add]; exact h.cell (rw_cell HB9.out i hi) (by simp))
      have HS1 := Lib.hid (fun (w' : World) (h : S w') => show w'.cell? ⟨R9, 9, none⟩ = some (.int .u8 (rwZero).st) from by rw [hS] at h; exact h.cell (rw_cell HB9.out 9 rfl) (by simp))
      have HS2 := Lib.hid (fun (w' : World) (_ : S w') => HST.out)
      clear hS
      refine wp_region_noPanic ?_
      refine wp_region_held_drew (S := S) (by kernel_rfl) hSD (fun hHeld => ?_)
      apply wpAnyH_take (i := 0)
      · simp only [List.getElem?_toArray]; rfl
      · kernel_rfl
      · kernel_rfl
      · kernel_rfl
      · exact fun _ _ _ h => h
      · exact yields_rowP rwZero (by rfl) _ rfl R9 0 rfl HS0.out
      · assumption
      try simp only [Act.put, List.setIfInBounds_toArray, List.set_cons_zero, List.set_cons_succ]
      apply wpAnyH_ready (rs := [1])
      · kernel_rfl
      · simp
      apply AllReadyH.cons (hs := AllReadyH.nil)
      · simp only [List.getElem?_toArray]; rfl
      intro K hK
      rw [if_pos (by rfl)]
      refine wp_call8 33 _ _ rfl [] rfl Try.func33 (by kernel_rfl) (by kernel_rfl) ((tbNone_any _).mono ?_)
      rintro e w3 ⟨rfl, hk3⟩
      refine ⟨.agg #[.int .u8 0, .int .u16 0, .int .u8 0, .int .u8 0, .int .u8 0, .int .u16 0, .int .u16 0, .int .u8 0, .int .u16 0, .int .u8 0, .int .i64 0, .int .i64 0], rfl, ?_⟩
      have HK3 := Lib.hid ((Keeps.refl [] W).drew.trans hk3 (FSub.refl _ _))
      clear hk3
      refine hK.out _ _ ?_ (fun hHeld => ?_)
      · exact (by rw [HSE.out]; exact HK3.out)
      clear hK K
      try simp only [Act.put, List.setIfInBounds_toArray, List.set_cons_zero, List.set_cons_succ]
      apply wpAnyH_take (i := 2)
      · simp only [List.getElem?_toArray]; rfl
      · kernel_rfl
      · kernel_rfl
      · kernel_rfl
      · exact fun _ _ _ h => h
      · exact yields_eqlZ (by rfl) _ _ rfl rfl rfl
      · assumption
      try simp only [Act.put, List.setIfInBounds_toArray, List.set_cons_zero, List.set_cons_succ]
      apply wpAnyH_take (i := 3)
      · simp only [List.getElem?_toArray]; rfl
      · kernel_rfl
      · kernel_rfl
      · kernel_rfl
      · exact fun _ _ _ h => h
      · exact Or.inl ⟨by rfl, by intro w hSw; go_simp; try with_reducible rfl⟩
      · assumption
      try simp only [Act.put, List.setIfInBounds_toArray, List.set_cons_zero, List.set_cons_succ]
      apply wpAnyH_take (i := 4)
      · simp only [List.getElem?_toArray]; rfl
      · kernel_rfl
      · kernel_rfl
      · kernel_rfl
      · exact fun _ _ _ h => h
      · exact Or.inr ⟨by rfl, rfl⟩
      · assumption
      try simp only [Act.put, List.setIfInBounds_toArray, List.set_cons_zero, List.set_cons_succ]
      apply wpAnyH_take (i := 5)
      · simp only [List.getElem?_toArray]; rfl
      · kernel_rfl
      · kernel_rfl
      · kernel_rfl
      · exact fun _ _ _ h => h
      · exact Or.inr ⟨by rfl, rfl⟩
      · assumption
      try simp only [Act.put, List.setIfInBounds_toArray, List.set_cons_zero, List.set_cons_succ]
      apply wpAnyH_take (i := 6)
      · simp only [List.getElem?_toArray]; rfl
      · kernel_rfl
      · kernel_rfl
      · kernel_rfl
      · exact fun _ _ _ h => h
      · exact Or.inr ⟨by rfl, rfl⟩
      · assumption
      try simp only [Act.put, List.setIfInBounds_toArray, List.set_cons_zero, List.set_cons_succ]
      apply wpAnyH_take (i := 7)
      · simp only [List.getElem?_toArray]; rfl
      · kernel_rfl
      · kernel_rfl
      · kernel_rfl
      · exact fun _ _ _ h => h
      · exact Or.inl ⟨by rfl, by intro w hSw; go_simp; try with_reducible rfl⟩
      · assumption
      try simp only [Act.put, List.setIfInBounds_toArray, List.set_cons_zero, List.set_cons_succ]
      refine wpAnyH_done (by kernel_rfl) ?_ _
      refine NoPanic.normal ?_
      have HK4 := Lib.hid (HKV.out.trans HK3.out (FSub.refl _ _))
      clear hHeld hSD HS0 HS1 HS2 HSE
      go_wp2_with fail
      go_ret
      exact HFIN.out _ HK4.out
    | some i =>
      rw [hi] at hf
      obtain ⟨r, hr, rfl⟩ := hf
      have HQ := Lib.hid (HTO.out i r hr)
      obtain ⟨hil, hge⟩ := List.getElem?_eq_some_iff.1 hr
      have HIL := Lib.hid hil; have HGE := Lib.hid hge
      by_cases hst : r.st = 0
      · have HE := Lib.hid (show tbEnd t id false 0 0 at_ = (0, ⟨t.L.set i (rwEnd r false 0 0 at_), at_⟩) by unfold tbEnd; rw [hm, hi]; simp [hr, hst])
        have HST := Lib.hid hst
        clear hi hr hm hge hst
        go_wp2_with (first | ((with_reducible refine wpList_putP (old := rwZero) (r := r) ?_ ?_ HRZ.out ?_); exact rfl; exact rfl))
        intro W hW hkW
        have HKV := Lib.hid (HK2.out.trans (HKA.out.trans hkW (fun q hq => .inr (by simp at hq; omega))) (FSub.refl _ _))
        have HB9 := Lib.hid hW
        clear hW hkW HKA HRZ
        generalize w2.heap.size = R9 at *
        go_wp2_with fail
        obtain ⟨S, hS⟩ : ∃ S : World → Prop, S = fun y => Keeps [] W y := ⟨_, rfl⟩
        have HSE := Lib.hid hS
        have hSD : S W.drew := by rw [hS]; exact (Keeps.refl _ _).drew
        have HS0 := Lib.hid (fun (w' : World) (h : S w') => show w'.rangeAt R9 0 (rwC r) from by rw [hS] at h; exact fun i u hi => by rw [Nat.zero_add]; exact h.cell (rw_cell HB9.out i hi) (by simp))
        have HS1 := Lib.hid (fun (w' : World) (h : S w') => show w'.cell? ⟨R9, 9, none⟩ = some (.int .u8 (r).st) from by rw [hS] at h; exact h.cell (rw_cell HB9.out 9 rfl) (by simp))
        have HS2 := Lib.hid (fun (w' : World) (_ : S w') => HST.out)
        clear hS
        refine wp_region_noPanic ?_
        refine wp_region_held_drew (S := S) (by kernel_rfl) hSD (fun hHeld => ?_)
        apply wpAnyH_take (i := 0)
        · simp only [List.getElem?_toArray]; rfl
        · kernel_rfl
        · kernel_rfl
        · kernel_rfl
        · exact fun _ _ _ h => h
        · exact yields_rowP r (by rfl) _ rfl R9 0 rfl HS0.out
        · assumption
        try simp only [Act.put, List.setIfInBounds_toArray, List.set_cons_zero, List.set_cons_succ]
        apply wpAnyH_ready (rs := [1])
        · kernel_rfl
        · simp
        apply AllReadyH.cons (hs := AllReadyH.nil)
        · simp only [List.getElem?_toArray]; rfl
        intro K hK
        rw [if_pos (by rfl)]
        refine wp_call8 33 _ _ rfl [] rfl Try.func33 (by kernel_rfl) (by kernel_rfl) ((tbNone_any _).mono ?_)
        rintro e w3 ⟨rfl, hk3⟩
        refine ⟨.agg #[.int .u8 0, .int .u16 0, .int .u8 0, .int .u8 0, .int .u8 0, .int .u16 0, .int .u16 0, .int .u8 0, .int .u16 0, .int .u8 0, .int .i64 0, .int .i64 0], rfl, ?_⟩
        have HK3 := Lib.hid ((Keeps.refl [] W).drew.trans hk3 (FSub.refl _ _))
        clear hk3
        refine hK.out _ _ ?_ (fun hHeld => ?_)
        · exact (by rw [HSE.out]; exact HK3.out)
        clear hK K
        try simp only [Act.put, List.setIfInBounds_toArray, List.set_cons_zero, List.set_cons_succ]
        apply wpAnyH_take (i := 2)
        · simp only [List.getElem?_toArray]; rfl
        · kernel_rfl
        · kernel_rfl
        · kernel_rfl
        · exact fun _ _ _ h => h
        · exact yields_eqlP (by rfl) _ _ rfl r rfl rfl HQ.out
        · assumption
        try simp only [Act.put, List.setIfInBounds_toArray, List.set_cons_zero, List.set_cons_succ]
        apply wpAnyH_take (i := 3)
        · simp only [List.getElem?_toArray]; rfl
        · kernel_rfl
        · kernel_rfl
        · kernel_rfl
        · exact fun _ _ _ h => h
        · exact Or.inl ⟨by rfl, by intro w hSw; go_simp; try with_reducible rfl⟩
        · assumption
        try simp only [Act.put, List.setIfInBounds_toArray, List.set_cons_zero, List.set_cons_succ]
        apply wpAnyH_take (i := 4)
        · simp only [List.getElem?_toArray]; rfl
        · kernel_rfl
        · kernel_rfl
        · kernel_rfl
        · exact fun _ _ _ h => h
        · exact Or.inl ⟨by rfl, by intro w hSw; go_simp; try with_reducible rfl⟩
        · assumption
        try simp only [Act.put, List.setIfInBounds_toArray, List.set_cons_zero, List.set_cons_succ]
        apply wpAnyH_take (i := 5)
        · simp only [List.getElem?_toArray]; rfl
        · kernel_rfl
        · kernel_rfl
        · kernel_rfl
        · exact fun _ _ _ h => h
        · exact Or.inl ⟨by rfl, by intro w hSw; have q0 := HS1.out w hSw; have q1 := HS2.out w hSw; go_simp; try with_reducible rfl⟩
        · assumption
        try simp only [Act.put, List.setIfInBounds_toArray, List.set_cons_zero, List.set_cons_succ]
        apply wpAnyH_take (i := 6)
        · simp only [List.getElem?_toArray]; rfl
        · kernel_rfl
        · kernel_rfl
        · kernel_rfl
        · exact fun _ _ _ h => h
        · exact Or.inl ⟨by rfl, by intro w hSw; have q0 := HS1.out w hSw; have q1 := HS2.out w hSw; go_simp; try with_reducible rfl⟩
        · assumption
        try simp only [Act.put, List.setIfInBounds_toArray, List.set_cons_zero, List.set_cons_succ]
        apply wpAnyH_take (i := 7)
        · simp only [List.getElem?_toArray]; rfl
        · kernel_rfl
        · kernel_rfl
        · kernel_rfl
        · exact fun _ _ _ h => h
        · exact Or.inl ⟨by rfl, by intro w hSw; go_simp; try with_reducible rfl⟩
        · assumption
        try simp only [Act.put, List.setIfInBounds_toArray, List.set_cons_zero, List.set_cons_succ]
        refine wpAnyH_done (by kernel_rfl) ?_ _
        refine NoPanic.normal ?_
        have HK4 := Lib.hid (HKV.out.trans HK3.out (FSub.refl _ _))
        clear hHeld hSD HS0 HS1 HS2 HSE
        have hT4 := HT.out.new HK4.out
        have c4 := hT4.cell
        obtain ⟨k0, k1, k2⟩ := hT4.at_.cells
        obtain ⟨g, cap, rfl, hc, hmx, -, hg, -⟩ := hT4.at_.row.at (fun e => by have := HIL.out; rw [e] at this; simp at this)
        have hil2 : (i : Int) < t.L.length := by have := HIL.out; omega
        have HROW := Lib.hid hT4.at_.row; have HT4 := Lib.hid hT4
        clear hT4 hg
        go_wp2_with fail
        refine (info1_any w3 HROW.out i HIL.out 0 0 at_).mono ?_
        rintro e w5 ⟨rfl, hrow5, hk5⟩
        rw [HGE.out] at hrow5
        have hd5 := HT4.out.at_.dis g (by simp [own, Value.ownBlock])
        have hb5 : b ≠ g := fun e => HT4.out.dis (by rw [e]; simp [own, Value.ownBlock])
        have hkept5 := hk5.heap HT4.out.at_.kept (by simp; exact Ne.symm hd5.1)
        have hmap5 := HT4.out.at_.map.keeps hk5 (by simp; exact Ne.symm hd5.2)
        have c5 : w5.cell? ⟨b, 0, none⟩ = some (.pointer (some ⟨kb, 0, none⟩)) := hk5.cell c4 (by simp; exact hb5)
        have g1 : w5.cell? ⟨kb, 2, none⟩ = some (.int .i64 t.last) := by simp [World.cell?, hkept5]
        have g2 : w5.frozen? ⟨kb, 2, none⟩ = false := by simp [World.frozen?, hkept5]
        have k6 : Keeps [kb] w5 (w5.setCell ⟨kb, 2, none⟩ (.int .i64 at_)) := (Keeps.refl [kb] w5).setCell _ _ (.inl (by simp))
        have HKP := Lib.hid (show KPost kb mb w3 (.slice (some ⟨g, 0, none⟩) t.L.length cap) ⟨t.L.set i (rwEnd r false 0 0 at_), at_⟩ (w5.setCell ⟨kb, 2, none⟩ (.int .i64 at_)) from by
          have hid : (rwEnd r false 0 0 at_).id = (t.L[i]'hil).id := by rw [HGE.out]; rfl
          have hfr : (rwEnd r false 0 0 at_).fr = (t.L[i]'hil).fr := by rw [HGE.out]; rfl
          have e2 : (t.L.set i (rwEnd r false 0 0 at_)).length = t.L.length := List.length_set
          refine ⟨_, ⟨?_, hrow5.keeps k6 (fun q hq hb => (HT4.out.at_.dis q hq).1 (by simpa using hb)), ?_, HT4.out.at_.ap, HT4.out.at_.dis⟩, ?_, FSub.refl _ _⟩
          · rw [heap_setCell_same w5 kb 2 _ _ _ hkept5]; rfl
          · exact (hmap5.keeps k6 (by simp; exact Ne.symm HT4.out.at_.ap)).congr (fun id' => frOf_set hil hid hfr) (Int.le_of_lt HFR.out.1)
          · exact (hk5.more (G := kb :: mb :: own (.slice (some ⟨g, 0, none⟩) t.L.length cap)) (by simp [own, Value.ownBlock])).step (k6.more (by simp)) (fun q hq => hq))
        clear hrow5 hk5 hkept5 hmap5 c4 k0 k1 k2 HB9
        go_wp2_with fail
        go_ret
        exact ⟨by rw [HE.out]; rfl, by rw [HE.out]; exact HT.out.post HK4.out HKP.out⟩
      · have HFIN := Lib.hid (fun (w' : World) (hk : Keeps [] w0 w') => show TPost b kb mb w0 v (tbEnd t id false 0 0 at_) (.returned (.int .i64 7)) w' from by
          have e : tbEnd t id false 0 0 at_ = (7, t) := by unfold tbEnd; rw [hm, hi]; simp [hr, hst]
          rw [e]
          exact ⟨rfl, v, HT.out.new hk, hk.more (by simp), FSub.refl _ _⟩)
        have HST := Lib.hid (show (r.st != 0) = true by simpa using hst)
        clear hi hr hm HFR hge hst
        go_wp2_with (first | ((with_reducible refine wpList_putP (old := rwZero) (r := r) ?_ ?_ HRZ.out ?_); exact rfl; exact rfl))
        intro W hW hkW
        have HKV := Lib.hid (HK2.out.trans (HKA.out.trans hkW (fun q hq => .inr (by simp at hq; omega))) (FSub.refl _ _))
        have HB9 := Lib.hid hW
        clear hW hkW HKA HRZ
        generalize w2.heap.size = R9 at *
        go_wp2_with fail
        obtain ⟨S, hS⟩ : ∃ S : World → Prop, S = fun y => Keeps [] W y := ⟨_, rfl⟩
        have HSE := Lib.hid hS
        have hSD : S W.drew := by rw [hS]; exact (Keeps.refl _ _).drew
        have HS0 := Lib.hid (fun (w' : World) (h : S w') => show w'.rangeAt R9 0 (rwC r) from by rw [hS] at h; exact fun i u hi => by rw [Nat.zero_add]; exact h.cell (rw_cell HB9.out i hi) (by simp))
        have HS1 := Lib.hid (fun (w' : World) (h : S w') => show w'.cell? ⟨R9, 9, none⟩ = some (.int .u8 (r).st) from by rw [hS] at h; exact h.cell (rw_cell HB9.out 9 rfl) (by simp))
        have HS2 := Lib.hid (fun (w' : World) (_ : S w') => HST.out)
        clear hS
        refine wp_region_noPanic ?_
        refine wp_region_held_drew (S := S) (by kernel_rfl) hSD (fun hHeld => ?_)
        apply wpAnyH_take (i := 0)
        · simp only [List.getElem?_toArray]; rfl
        · kernel_rfl
        · kernel_rfl
        · kernel_rfl
        · exact fun _ _ _ h => h
        · exact yields_rowP r (by rfl) _ rfl R9 0 rfl HS0.out
        · assumption
        try simp only [Act.put, List.setIfInBounds_toArray, List.set_cons_zero, List.set_cons_succ]
        apply wpAnyH_ready (rs := [1])
        · kernel_rfl
        · simp
        apply AllReadyH.cons (hs := AllReadyH.nil)
        · simp only [List.getElem?_toArray]; rfl
        intro K hK
        rw [if_pos (by rfl)]
        refine wp_call8 33 _ _ rfl [] rfl Try.func33 (by kernel_rfl) (by kernel_rfl) ((tbNone_any _).mono ?_)
        rintro e w3 ⟨rfl, hk3⟩
        refine ⟨.agg #[.int .u8 0, .int .u16 0, .int .u8 0, .int .u8 0, .int .u8 0, .int .u16 0, .int .u16 0, .int .u8 0, .int .u16 0, .int .u8 0, .int .i64 0, .int .i64 0], rfl, ?_⟩
        have HK3 := Lib.hid ((Keeps.refl [] W).drew.trans hk3 (FSub.refl _ _))
        clear hk3
        refine hK.out _ _ ?_ (fun hHeld => ?_)
        · exact (by rw [HSE.out]; exact HK3.out)
        clear hK K
        try simp only [Act.put, List.setIfInBounds_toArray, List.set_cons_zero, List.set_cons_succ]
        apply wpAnyH_take (i := 2)
        · simp only [List.getElem?_toArray]; rfl
        · kernel_rfl
        · kernel_rfl
        · kernel_rfl
        · exact fun _ _ _ h => h
        · exact yields_eqlP (by rfl) _ _ rfl r rfl rfl HQ.out
        · assumption
        try simp only [Act.put, List.setIfInBounds_toArray, List.set_cons_zero, List.set_cons_succ]
        apply wpAnyH_take (i := 3)
        · simp only [List.getElem?_toArray]; rfl
        · kernel_rfl
        · kernel_rfl
        · kernel_rfl
        · exact fun _ _ _ h => h
        · exact Or.inl ⟨by rfl, by intro w hSw; go_simp; try with_reducible rfl⟩
        · assumption
        try simp only [Act.put, List.setIfInBounds_toArray, List.set_cons_zero, List.set_cons_succ]
        apply wpAnyH_take (i := 4)
        · simp only [List.getElem?_toArray]; rfl
        · kernel_rfl
        · kernel_rfl
        · kernel_rfl
        · exact fun _ _ _ h => h
        · exact Or.inl ⟨by rfl, by intro w hSw; go_simp; try with_reducible rfl⟩
        · assumption
        try simp only [Act.put, List.setIfInBounds_toArray, List.set_cons_zero, List.set_cons_succ]
        apply wpAnyH_take (i := 5)
        · simp only [List.getElem?_toArray]; rfl
        · kernel_rfl
        · kernel_rfl
        · kernel_rfl
        · exact fun _ _ _ h => h
        · exact Or.inl ⟨by rfl, by intro w hSw; have q0 := HS1.out w hSw; have q1 := HS2.out w hSw; go_simp; try with_reducible rfl⟩
        · assumption
        try simp only [Act.put, List.setIfInBounds_toArray, List.set_cons_zero, List.set_cons_succ]
        apply wpAnyH_take (i := 6)
        · simp only [List.getElem?_toArray]; rfl
        · kernel_rfl
        · kernel_rfl
        · kernel_rfl
        · exact fun _ _ _ h => h
        · exact Or.inl ⟨by rfl, by intro w hSw; have q0 := HS1.out w hSw; have q1 := HS2.out w hSw; go_simp; try with_reducible rfl⟩
        · assumption
        try simp only [Act.put, List.setIfInBounds_toArray, List.set_cons_zero, List.set_cons_succ]
        apply wpAnyH_take (i := 7)
        · simp only [List.getElem?_toArray]; rfl
        · kernel_rfl
        · kernel_rfl
        · kernel_rfl
        · exact fun _ _ _ h => h
        · exact Or.inl ⟨by rfl, by intro w hSw; go_simp; try with_reducible rfl⟩
        · assumption
        try simp only [Act.put, List.setIfInBounds_toArray, List.set_cons_zero, List.set_cons_succ]
        refine wpAnyH_done (by kernel_rfl) ?_ _
        refine NoPanic.normal ?_
        have HK4 := Lib.hid (HKV.out.trans HK3.out (FSub.refl _ _))
        clear hHeld hSD HS0 HS1 HS2 HSE
        go_wp2_with fail
        go_ret
        exact HFIN.out _ HK4.out
  · have hm2 : tbMay t at_ = false := by simpa using hm
    have HR := Lib.hid (show TPost b kb mb w0 v (tbEnd t id false 0 0 at_) (.returned (.int .i64 2)) w0 from by
      unfold tbEnd
      rw [if_pos hm2]
      exact ⟨rfl, v, HT.out, Keeps.refl _ _, FSub.refl _ _⟩)
    rw [hm2]
    clear HF hm
    go_wp2_with fail
    go_ret
    exact HR.out
theorem endRet_any (w : World) {b kb mb : Nat} {v : Value} {t : Tb} (hT : TAt b kb mb w v t) (hok : TbOk t) (hfew : t.L.length ≤ 1000000) (id rk rv at_ : Int) (h0 : 0 ≤ id) (h1 : id < 65536) (q1 q2 : Nat) (d1 : q1 ∉ own v) (d2 : q2 ∉ own v)
    (m0 : w.cell? ⟨q1, 0, none⟩ = some (.int .u8 rk)) (m1 : w.cell? ⟨q1, 1, none⟩ = some (.int .u16 rv)) (m2 : w.cell? ⟨q2, 0, none⟩ = some (.int .i64 at_)) :
    Calls Try.prog 42 #[.pointer (some ⟨b, 0, none⟩), .int .u16 id, .int .i64 at_, .func (.func 43) #[] #[.pointer (some ⟨q1, 0, none⟩), .pointer (some ⟨q2, 0, none⟩)]] w (TPost b kb mb w v (tbEnd t id true rk rv at_)) := by
  have c0 := hT.cell
  have HMADE := Lib.hid (tbMade_yes _ c0)
  have HRISE := Lib.hid (kpRises_any _ hT.at_ hok.lo at_)
  have HF := Lib.hid (kpFind_any _ hT.at_ hok hfew id h0 h1)
  have HTO := Lib.hid (fun (i : Nat) (r : Rw) (h : t.L[i]? = some r) => row_to hok h)
  have HT := Lib.hid hT
  have HD1 := Lib.hid d1; have HD2 := Lib.hid d2; have HM0 := Lib.hid m0; have HM1 := Lib.hid m1; have HM2 := Lib.hid m2
  clear hT hok d1 d2 m0 m1 m2
  go_enter Try.func42, Try.ntmps42
  go_wp2_with fail
  refine (HMADE.out).mono ?_; rintro e w1 ⟨rfl, rfl⟩
  clear HMADE
  go_wp2_with fail
  refine (HRISE.out).mono ?_; rintro e w0 ⟨rfl, rfl⟩
  clear HRISE
  by_cases hm : tbMay t at_ = true
  · rw [hm]
    go_wp2_with fail
    refine (HF.out).mono ?_; rintro e w2 ⟨hf, hk2⟩
    have HK2 := Lib.hid hk2
    have HRZ := Lib.hid (heap_alloc_new w2 (.cells (rwC rwZero).toArray 42))
    have HKA := Lib.hid ((Keeps.refl [] w2).alloc (.cells (rwC rwZero).toArray 42))
    have HFR := Lib.hid (show t.last < at_ ∧ at_ ≤ rwMost from ⟨(tbMay_iff.1 hm).2.2, (tbMay_iff.1 hm).2.1⟩)
    clear hk2 HF c0
    cases hi : rwIdx id t.L with
    | none =>
      rw [hi] at hf
      simp only at hf
      subst hf
      have HFIN := Lib.hid (fun (w' : World) (hk : Keeps [] w0 w') => show TPost b kb mb w0 v (tbEnd t id true rk rv at_) (.returned (.int .i64 7)) w' from by
        have e : tbEnd t id true rk rv at_ = (7, t) := by unfold tbEnd; rw [hm, hi]; rfl
        rw [e]
        exact ⟨rfl, v, HT.out.new hk, hk.more (by simp), FSub.refl _ _⟩)
      have HST := Lib.hid trivial
      clear hi hm HFR
      go_wp2_with (first | ((with_reducible refine wpList_putP (old := rwZero) (r := rwZero) ?_ ?_ HRZ.out ?_); exact rfl; exact rfl))
      intro W hW hkW
      have HKV := Lib.hid (HK2.out.trans (HKA.out.trans hkW (fun q hq => .inr (by simp at hq; omega))) (FSub.refl _ _))
      have HB9 := Lib.hid hW
      clear hW hkW HKA HRZ
      generalize w2.heap.size = R9 at *
      go_wp2_with fail
      obtain ⟨S, hS⟩ : ∃ S : World → Prop, S = fun y => Keeps [] W y := ⟨_, rfl⟩
      have HSE := Lib.hid hS
      have hSD : S W.drew := by rw [hS]; exact (Keeps.refl _ _).drew
      have HS0 := Lib.hid (fun (w' : World) (h : S w') => show w'.rangeAt R9 0 (rwC rwZero) from by rw [hS] at h; exact fun i u hi => by rw [Nat.zero_add]; exact h.cell (rw_cell HB9.out i hi) (by simp))
      have HS1 := Lib.hid (fun (w' : World) (h : S w') => show w'.cell? ⟨R9, 9, none⟩ = some (.int .u8 (rwZero).st) from by rw [hS] at h; exact h.cell (rw_cell HB9.out 9 rfl) (by simp))
      have HS2 := Lib.hid (fun (w' : World) (_ : S w') => HST.out)
      clear hS
      refine wp_region_noPanic ?_
      refine wp_region_held_drew (S := S) (by kernel_rfl) hSD (fun hHeld => ?_)
      apply wpAnyH_take (i := 0)
      · simp only [List.getElem?_toArray]; rfl
      · kernel_rfl
      · kernel_rfl
      · kernel_rfl
      · exact fun _ _ _ h => h
      · exact yields_rowP rwZero (by rfl) _ rfl R9 0 rfl HS0.out
      · assumption
      try simp only [Act.put, List.setIfInBounds_toArray, List.set_cons_zero, List.set_cons_succ]
      apply wpAnyH_ready (rs := [1])
      · kernel_rfl
      · simp
      apply AllReadyH.cons (hs := AllReadyH.nil)
      · simp only [List.getElem?_toArray]; rfl
      intro K hK
      rw [if_pos (by rfl)]
      refine wp_call8 33 _ _ rfl [] rfl Try.func33 (by kernel_rfl) (by kernel_rfl) ((tbNone_any _).mono ?_)
      rintro e w3 ⟨rfl, hk3⟩
      refine ⟨.agg #[.int .u8 0, .int .u16 0, .int .u8 0, .int .u8 0, .int .u8 0, .int .u16 0, .int .u16 0, .int .u8 0, .int .u16 0, .int .u8 0, .int .i64 0, .int .i64 0], rfl, ?_⟩
      have HK3 := Lib.hid ((Keeps.refl [] W).drew.trans hk3 (FSub.refl _ _))
      clear hk3
      refine hK.out _ _ ?_ (fun hHeld => ?_)
      · exact (by rw [HSE.out]; exact HK3.out)
      clear hK K
      try simp only [Act.put, List.setIfInBounds_toArray, List.set_cons_zero, List.set_cons_succ]
      apply wpAnyH_take (i := 2)
      · simp only [List.getElem?_toArray]; rfl
      · kernel_rfl
      · kernel_rfl
      · kernel_rfl
      · exact fun _ _ _ h => h
      · exact yields_eqlZ (by rfl) _ _ rfl rfl rfl
      · assumption
      try simp only [Act.put, List.setIfInBounds_toArray, List.set_cons_zero, List.set_cons_succ]
      apply wpAnyH_take (i := 3)
      · simp only [List.getElem?_toArray]; rfl
      · kernel_rfl
      · kernel_rfl
      · kernel_rfl
      · exact fun _ _ _ h => h
      · exact Or.inl ⟨by rfl, by intro w hSw; go_simp; try with_reducible rfl⟩
      · assumption
      try simp only [Act.put, List.setIfInBounds_toArray, List.set_cons_zero, List.set_cons_succ]
      apply wpAnyH_take (i := 4)
      · simp only [List.getElem?_toArray]; rfl
      · kernel_rfl
      · kernel_rfl
      · kernel_rfl
      · exact fun _ _ _ h => h
      · exact Or.inr ⟨by rfl, rfl⟩
      · assumption
      try simp only [Act.put, List.setIfInBounds_toArray, List.set_cons_zero, List.set_cons_succ]
      apply wpAnyH_take (i := 5)
      · simp only [List.getElem?_toArray]; rfl
      · kernel_rfl
      · kernel_rfl
      · kernel_rfl
      · exact fun _ _ _ h => h
      · exact Or.inr ⟨by rfl, rfl⟩
      · assumption
      try simp only [Act.put, List.setIfInBounds_toArray, List.set_cons_zero, List.set_cons_succ]
      apply wpAnyH_take (i := 6)
      · simp only [List.getElem?_toArray]; rfl
      · kernel_rfl
      · kernel_rfl
      · kernel_rfl
      · exact fun _ _ _ h => h
      · exact Or.inr ⟨by rfl, rfl⟩
      · assumption
      try simp only [Act.put, List.setIfInBounds_toArray, List.set_cons_zero, List.set_cons_succ]
      apply wpAnyH_take (i := 7)
      · simp only [List.getElem?_toArray]; rfl
      · kernel_rfl
      · kernel_rfl
      · kernel_rfl
      · exact fun _ _ _ h => h
      · exact Or.inl ⟨by rfl, by intro w hSw; go_simp; try with_reducible rfl⟩
      · assumption
      try simp only [Act.put, List.setIfInBounds_toArray, List.set_cons_zero, List.set_cons_succ]
      refine wpAnyH_done (by kernel_rfl) ?_ _
      refine NoPanic.normal ?_
      have HK4 := Lib.hid (HKV.out.trans HK3.out (FSub.refl _ _))
      clear hHeld hSD HS0 HS1 HS2 HSE
      go_wp2_with fail
      go_ret
      exact HFIN.out _ HK4.out
    | some i =>
      rw [hi] at hf
      obtain ⟨r, hr, rfl⟩ := hf
      have HQ := Lib.hid (HTO.out i r hr)
      obtain ⟨hil, hge⟩ := List.getElem?_eq_some_iff.1 hr
      have HIL := Lib.hid hil; have HGE := Lib.hid hge
      by_cases hst : r.st = 0
      · have HE := Lib.hid (show tbEnd t id true rk rv at_ = (0, ⟨t.L.set i (rwEnd r true rk rv at_), at_⟩) by unfold tbEnd; rw [hm, hi]; simp [hr, hst])
        have HST := Lib.hid hst
        clear hi hr hm hge hst
        go_wp2_with (first | ((with_reducible refine wpList_putP (old := rwZero) (r := r) ?_ ?_ HRZ.out ?_); exact rfl; exact rfl))
        intro W hW hkW
        have HKV := Lib.hid (HK2.out.trans (HKA.out.trans hkW (fun q hq => .inr (by simp at hq; omega))) (FSub.refl _ _))
        have HB9 := Lib.hid hW
        clear hW hkW HKA HRZ
        generalize w2.heap.size = R9 at *
        go_wp2_with fail
        obtain ⟨S, hS⟩ : ∃ S : World → Prop, S = fun y => Keeps [] W y := ⟨_, rfl⟩
        have HSE := Lib.hid hS
        have hSD : S W.drew := by rw [hS]; exact (Keeps.refl _ _).drew
        have HS0 := Lib.hid (fun (w' : World) (h : S w') => show w'.rangeAt R9 0 (rwC r) from by rw [hS] at h; exact fun i u hi => by rw [Nat.zero_add]; exact h.cell (rw_cell HB9.out i hi) (by simp))
        have HS1 := Lib.hid (fun (w' : World) (h : S w') => show w'.cell? ⟨R9, 9, none⟩ = some (.int .u8 (r).st) from by rw [hS] at h; exact h.cell (rw_cell HB9.out 9 rfl) (by simp))
        have HS2 := Lib.hid (fun (w' : World) (_ : S w') => HST.out)
        clear hS
        refine wp_region_noPanic ?_
        refine wp_region_held_drew (S := S) (by kernel_rfl) hSD (fun hHeld => ?_)
        apply wpAnyH_take (i := 0)
        · simp only [List.getElem?_toArray]; rfl
        · kernel_rfl
        · kernel_rfl
        · kernel_rfl
        · exact fun _ _ _ h => h
        · exact yields_rowP r (by rfl) _ rfl R9 0 rfl HS0.out
        · assumption
        try simp only [Act.put, List.setIfInBounds_toArray, List.set_cons_zero, List.set_cons_succ]
        apply wpAnyH_ready (rs := [1])
        · kernel_rfl
        · simp
        apply AllReadyH.cons (hs := AllReadyH.nil)
        · simp only [List.getElem?_toArray]; rfl
        intro K hK
        rw [if_pos (by rfl)]
        refine wp_call8 33 _ _ rfl [] rfl Try.func33 (by kernel_rfl) (by kernel_rfl) ((tbNone_any _).mono ?_)
        rintro e w3 ⟨rfl, hk3⟩
        refine ⟨.agg #[.int .u8 0, .int .u16 0, .int .u8 0, .int .u8 0, .int .u8 0, .int .u16 0, .int .u16 0, .int .u8 0, .int .u16 0, .int .u8 0, .int .i64 0, .int .i64 0], rfl, ?_⟩
        have HK3 := Lib.hid ((Keeps.refl [] W).drew.trans hk3 (FSub.refl _ _))
        clear hk3
        refine hK.out _ _ ?_ (fun hHeld => ?_)
        · exact (by rw [HSE.out]; exact HK3.out)
        clear hK K
        try simp only [Act.put, List.setIfInBounds_toArray, List.set_cons_zero, List.set_cons_succ]
        apply wpAnyH_take (i := 2)
        · simp only [List.getElem?_toArray]; rfl
        · kernel_rfl
        · kernel_rfl
        · kernel_rfl
        · exact fun _ _ _ h => h
        · exact yields_eqlP (by rfl) _ _ rfl r rfl rfl HQ.out
        · assumption
        try simp only [Act.put, List.setIfInBounds_toArray, List.set_cons_zero, List.set_cons_succ]
        apply wpAnyH_take (i := 3)
        · simp only [List.getElem?_toArray]; rfl
        · kernel_rfl
        · kernel_rfl
        · kernel_rfl
        · exact fun _ _ _ h => h
        · exact Or.inl ⟨by rfl, by intro w hSw; go_simp; try with_reducible rfl⟩
        · assumption
        try simp only [Act.put, List.setIfInBounds_toArray, List.set_cons_zero, List.set_cons_succ]
        apply wpAnyH_take (i := 4)
        · simp only [List.getElem?_toArray]; rfl
        · kernel_rfl
        · kernel_rfl
        · kernel_rfl
        · exact fun _ _ _ h => h
        · exact Or.inl ⟨by rfl, by intro w hSw; go_simp; try with_reducible rfl⟩
        · assumption
        try simp only [Act.put, List.setIfInBounds_toArray, List.set_cons_zero, List.set_cons_succ]
        apply wpAnyH_take (i := 5)
        · simp only [List.getElem?_toArray]; rfl
        · kernel_rfl
        · kernel_rfl
        · kernel_rfl
        · exact fun _ _ _ h => h
        · exact Or.inl ⟨by rfl, by intro w hSw; have q0 := HS1.out w hSw; have q1 := HS2.out w hSw; go_simp; try with_reducible rfl⟩
        · assumption
        try simp only [Act.put, List.setIfInBounds_toArray, List.set_cons_zero, List.set_cons_succ]
        apply wpAnyH_take (i := 6)
        · simp only [List.getElem?_toArray]; rfl
        · kernel_rfl
        · kernel_rfl
        · kernel_rfl
        · exact fun _ _ _ h => h
        · exact Or.inl ⟨by rfl, by intro w hSw; have q0 := HS1.out w hSw; have q1 := HS2.out w hSw; go_simp; try with_reducible rfl⟩
        · assumption
        try simp only [Act.put, List.setIfInBounds_toArray, List.set_cons_zero, List.set_cons_succ]
        apply wpAnyH_take (i := 7)
        · simp only [List.getElem?_toArray]; rfl
        · kernel_rfl
        · kernel_rfl
        · kernel_rfl
        · exact fun _ _ _ h => h
        · exact Or.inl ⟨by rfl, by intro w hSw; go_simp; try with_reducible rfl⟩
        · assumption
        try simp only [Act.put, List.setIfInBounds_toArray, List.set_cons_zero, List.set_cons_succ]
        refine wpAnyH_done (by kernel_rfl) ?_ _
        refine NoPanic.normal ?_
        have HK4 := Lib.hid (HKV.out.trans HK3.out (FSub.refl _ _))
        clear hHeld hSD HS0 HS1 HS2 HSE
        have hT4 := HT.out.new HK4.out
        have c4 := hT4.cell
        obtain ⟨k0, k1, k2⟩ := hT4.at_.cells
        obtain ⟨g, cap, rfl, hc, hmx, -, hg, -⟩ := hT4.at_.row.at (fun e => by have := HIL.out; rw [e] at this; simp at this)
        have hil2 : (i : Int) < t.L.length := by have := HIL.out; omega
        have HROW := Lib.hid hT4.at_.row; have HT4 := Lib.hid hT4
        clear hT4 hg
        go_wp2_with fail
        refine (ret1_any w3 HROW.out i HIL.out q1 q2 rk rv at_ (fun e => HD1.out (by rw [e]; simp [own, Value.ownBlock])) (fun e => HD2.out (by rw [e]; simp [own, Value.ownBlock])) (HK4.out.cell HM0.out (by simp)) (HK4.out.cell HM1.out (by simp)) (HK4.out.cell HM2.out (by simp))).mono ?_
        rintro e w5 ⟨rfl, hrow5, hk5⟩
        rw [HGE.out] at hrow5
        have hd5 := HT4.out.at_.dis g (by simp [own, Value.ownBlock])
        have hb5 : b ≠ g := fun e => HT4.out.dis (by rw [e]; simp [own, Value.ownBlock])
        have hkept5 := hk5.heap HT4.out.at_.kept (by simp; exact Ne.symm hd5.1)
        have hmap5 := HT4.out.at_.map.keeps hk5 (by simp; exact Ne.symm hd5.2)
        have c5 : w5.cell? ⟨b, 0, none⟩ = some (.pointer (some ⟨kb, 0, none⟩)) := hk5.cell c4 (by simp; exact hb5)
        have g1 : w5.cell? ⟨kb, 2, none⟩ = some (.int .i64 t.last) := by simp [World.cell?, hkept5]
        have g2 : w5.frozen? ⟨kb, 2, none⟩ = false := by simp [World.frozen?, hkept5]
        have k6 : Keeps [kb] w5 (w5.setCell ⟨kb, 2, none⟩ (.int .i64 at_)) := (Keeps.refl [kb] w5).setCell _ _ (.inl (by simp))
        have HKP := Lib.hid (show KPost kb mb w3 (.slice (some ⟨g, 0, none⟩) t.L.length cap) ⟨t.L.set i (rwEnd r true rk rv at_), at_⟩ (w5.setCell ⟨kb, 2, none⟩ (.int .i64 at_)) from by
          have hid : (rwEnd r true rk rv at_).id = (t.L[i]'hil).id := by rw [HGE.out]; rfl
          have hfr : (rwEnd r true rk rv at_).fr = (t.L[i]'hil).fr := by rw [HGE.out]; rfl
          have e2 : (t.L.set i (rwEnd r true rk rv at_)).length = t.L.length := List.length_set
          refine ⟨_, ⟨?_, hrow5.keeps k6 (fun q hq hb => (HT4.out.at_.dis q hq).1 (by simpa using hb)), ?_, HT4.out.at_.ap, HT4.out.at_.dis⟩, ?_, FSub.refl _ _⟩
          · rw [heap_setCell_same w5 kb 2 _ _ _ hkept5]; rfl
          · exact (hmap5.keeps k6 (by simp; exact Ne.symm HT4.out.at_.ap)).congr (fun id' => frOf_set hil hid hfr) (Int.le_of_lt HFR.out.1)
          · exact (hk5.more (G := kb :: mb :: own (.slice (some ⟨g, 0, none⟩) t.L.length cap)) (by simp [own, Value.ownBlock])).step (k6.more (by simp)) (fun q hq => hq))
        clear hrow5 hk5 hkept5 hmap5 c4 k0 k1 k2 HB9
        go_wp2_with fail
        go_ret
        exact ⟨by rw [HE.out]; rfl, by rw [HE.out]; exact HT.out.post HK4.out HKP.out⟩
      · have HFIN := Lib.hid (fun (w' : World) (hk : Keeps [] w0 w') => show TPost b kb mb w0 v (tbEnd t id true rk rv at_) (.returned (.int .i64 7)) w' from by
          have e : tbEnd t id true rk rv at_ = (7, t) := by unfold tbEnd; rw [hm, hi]; simp [hr, hst]
          rw [e]
          exact ⟨rfl, v, HT.out.new hk, hk.more (by simp), FSub.refl _ _⟩)
        have HST := Lib.hid (show (r.st != 0) = true by simpa using hst)
        clear hi hr hm HFR hge hst
        go_wp2_with (first | ((with_reducible refine wpList_putP (old := rwZero) (r := r) ?_ ?_ HRZ.out ?_); exact rfl; exact rfl))
        intro W hW hkW
        have HKV := Lib.hid (HK2.out.trans (HKA.out.trans hkW (fun q hq => .inr (by simp at hq; omega))) (FSub.refl _ _))
        have HB9 := Lib.hid hW
        clear hW hkW HKA HRZ
        generalize w2.heap.size = R9 at *
        go_wp2_with fail
        obtain ⟨S, hS⟩ : ∃ S : World → Prop, S = fun y => Keeps [] W y := ⟨_, rfl⟩
        have HSE := Lib.hid hS
        have hSD : S W.drew := by rw [hS]; exact (Keeps.refl _ _).drew
        have HS0 := Lib.hid (fun (w' : World) (h : S w') => show w'.rangeAt R9 0 (rwC r) from by rw [hS] at h; exact fun i u hi => by rw [Nat.zero_add]; exact h.cell (rw_cell HB9.out i hi) (by simp))
        have HS1 := Lib.hid (fun (w' : World) (h : S w') => show w'.cell? ⟨R9, 9, none⟩ = some (.int .u8 (r).st) from by rw [hS] at h; exact h.cell (rw_cell HB9.out 9 rfl) (by simp))
        have HS2 := Lib.hid (fun (w' : World) (_ : S w') => HST.out)
        clear hS
        refine wp_region_noPanic ?_
        refine wp_region_held_drew (S := S) (by kernel_rfl) hSD (fun hHeld => ?_)
        apply wpAnyH_take (i := 0)
        · simp only [List.getElem?_toArray]; rfl
        · kernel_rfl
        · kernel_rfl
        · kernel_rfl
        · exact fun _ _ _ h => h
        · exact yields_rowP r (by rfl) _ rfl R9 0 rfl HS0.out
        · assumption
        try simp only [Act.put, List.setIfInBounds_toArray, List.set_cons_zero, List.set_cons_succ]
        apply wpAnyH_ready (rs := [1])
        · kernel_rfl
        · simp
        apply AllReadyH.cons (hs := AllReadyH.nil)
        · simp only [List.getElem?_toArray]; rfl
        intro K hK
        rw [if_pos (by rfl)]
        refine wp_call8 33 _ _ rfl [] rfl Try.func33 (by kernel_rfl) (by kernel_rfl) ((tbNone_any _).mono ?_)
        rintro e w3 ⟨rfl, hk3⟩
        refine ⟨.agg #[.int .u8 0, .int .u16 0, .int .u8 0, .int .u8 0, .int .u8 0, .int .u16 0, .int .u16 0, .int .u8 0, .int .u16 0, .int .u8 0, .int .i64 0, .int .i64 0], rfl, ?_⟩
        have HK3 := Lib.hid ((Keeps.refl [] W).drew.trans hk3 (FSub.refl _ _))
        clear hk3
        refine hK.out _ _ ?_ (fun hHeld => ?_)
        · exact (by rw [HSE.out]; exact HK3.out)
        clear hK K
        try simp only [Act.put, List.setIfInBounds_toArray, List.set_cons_zero, List.set_cons_succ]
        apply wpAnyH_take (i := 2)
        · simp only [List.getElem?_toArray]; rfl
        · kernel_rfl
        · kernel_rfl
        · kernel_rfl
        · exact fun _ _ _ h => h
        · exact yields_eqlP (by rfl) _ _ rfl r rfl rfl HQ.out
        · assumption
        try simp only [Act.put, List.setIfInBounds_toArray, List.set_cons_zero, List.set_cons_succ]
        apply wpAnyH_take (i := 3)
        · simp only [List.getElem?_toArray]; rfl
        · kernel_rfl
        · kernel_rfl
        · kernel_rfl
        · exact fun _ _ _ h => h
        · exact Or.inl ⟨by rfl, by intro w hSw; go_simp; try with_reducible rfl⟩
        · assumption
        try simp only [Act.put, List.setIfInBounds_toArray, List.set_cons_zero, List.set_cons_succ]
        apply wpAnyH_take (i := 4)
        · simp only [List.getElem?_toArray]; rfl
        · kernel_rfl
        · kernel_rfl
        · kernel_rfl
        · exact fun _ _ _ h => h
        · exact Or.inl ⟨by rfl, by intro w hSw; go_simp; try with_reducible rfl⟩
        · assumption
        try simp only [Act.put, List.setIfInBounds_toArray, List.set_cons_zero, List.set_cons_succ]
        apply wpAnyH_take (i := 5)
        · simp only [List.getElem?_toArray]; rfl
        · kernel_rfl
        · kernel_rfl
        · kernel_rfl
        · exact fun _ _ _ h => h
        · exact Or.inl ⟨by rfl, by intro w hSw; have q0 := HS1.out w hSw; have q1 := HS2.out w hSw; go_simp; try with_reducible rfl⟩
        · assumption
        try simp only [Act.put, List.setIfInBounds_toArray, List.set_cons_zero, List.set_cons_succ]
        apply wpAnyH_take (i := 6)
        · simp only [List.getElem?_toArray]; rfl
        · kernel_rfl
        · kernel_rfl
        · kernel_rfl
        · exact fun _ _ _ h => h
        · exact Or.inl ⟨by rfl, by intro w hSw; have q0 := HS1.out w hSw; have q1 := HS2.out w hSw; go_simp; try with_reducible rfl⟩
        · assumption
        try simp only [Act.put, List.setIfInBounds_toArray, List.set_cons_zero, List.set_cons_succ]
        apply wpAnyH_take (i := 7)
        · simp only [List.getElem?_toArray]; rfl
        · kernel_rfl
        · kernel_rfl
        · kernel_rfl
        · exact fun _ _ _ h => h
        · exact Or.inl ⟨by rfl, by intro w hSw; go_simp; try with_reducible rfl⟩
        · assumption
        try simp only [Act.put, List.setIfInBounds_toArray, List.set_cons_zero, List.set_cons_succ]
        refine wpAnyH_done (by kernel_rfl) ?_ _
        refine NoPanic.normal ?_
        have HK4 := Lib.hid (HKV.out.trans HK3.out (FSub.refl _ _))
        clear hHeld hSD HS0 HS1 HS2 HSE
        go_wp2_with fail
        go_ret
        exact HFIN.out _ HK4.out
  · have hm2 : tbMay t at_ = false := by simpa using hm
    have HR := Lib.hid (show TPost b kb mb w0 v (tbEnd t id true rk rv at_) (.returned (.int .i64 2)) w0 from by
      unfold tbEnd
      rw [if_pos hm2]
      exact ⟨rfl, v, HT.out, Keeps.refl _ _, FSub.refl _ _⟩)
    rw [hm2]
    clear HF hm
    go_wp2_with fail
    go_ret
    exact HR.out
theorem tbInfo_any (w : World) {b kb mb : Nat} {v : Value} {t : Tb} (hT : TAt b kb mb w v t) (hok : TbOk t) (hfew : t.L.length ≤ 1000000) (id at_ : Int) (h0 : 0 ≤ id) (h1 : id < 65536) :
    Calls Try.prog 25 #[.pointer (some ⟨b, 0, none⟩), .int .u16 id, .int .i64 at_] w (TPost b kb mb w v (tbEnd t id false 0 0 at_)) := by
  have HE := Lib.hid (endInfo_any w hT hok hfew id at_ h0 h1)
  clear hT hok
  go_enter Try.func25, Try.ntmps25
  go_wp2_with fail
  refine (HE.out).mono ?_; rintro e w1 ⟨rfl, hp⟩
  have HP := Lib.hid hp
  clear hp HE
  go_wp2_with fail
  go_ret
  exact ⟨rfl, HP.out⟩
theorem tbReturn_any (w : World) {b kb mb : Nat} {v : Value} {t : Tb} (hT : TAt b kb mb w v t) (hok : TbOk t) (hfew : t.L.length ≤ 1000000) (id rk rv at_ : Int) (h0 : 0 ≤ id) (h1 : id < 65536) :
    Calls Try.prog 24 #[.pointer (some ⟨b, 0, none⟩), .int .u16 id, .agg #[.int .u8 rk, .int .u16 rv], .int .i64 at_] w (TPost b kb mb w v (tbEnd t id true rk rv at_)) := by
  have hk1 := (Keeps.refl [] w).alloc (.cells #[.int .u8 rk, .int .u16 rv] 32)
  have hA := heap_alloc_new w (.cells #[.int .u8 rk, .int .u16 rv] 32)
  have hk2 := (Keeps.refl [] (w.alloc (.cells #[.int .u8 rk, .int .u16 rv] 32))).alloc (.cells #[.int .i64 at_] 3)
  have hB := heap_alloc_new (w.alloc (.cells #[.int .u8 rk, .int .u16 rv] 32)) (.cells #[.int .i64 at_] 3)
  have hs : (w.alloc (.cells #[.int .u8 rk, .int .u16 rv] 32)).heap.size = w.heap.size + 1 := by simp
  rw [hs] at hB
  have hA2 := hk2.heap hA (by simp)
  have hk := hk1.trans hk2 (FSub.refl _ _)
  have hlt : ∀ q ∈ own v, q < w.heap.size := fun q hq => (row_base hT.at_.row q hq).2
  have HE := Lib.hid (endRet_any _ (hT.new hk) hok hfew id rk rv at_ h0 h1 w.heap.size (w.heap.size + 1) (fun hq => by have := hlt _ hq; omega) (fun hq => by have := hlt _ hq; omega) (cell_lit hA2 0 rfl) (cell_lit hA2 1 rfl) (cell_lit hB 0 rfl))
  have HK := Lib.hid hk
  have m2 : ((w.alloc (.cells #[.int .u8 rk, .int .u16 rv] 32)).alloc (.cells #[.int .i64 at_] 3)).cell? ⟨w.heap.size + 1, 0, none⟩ = some (.int .i64 at_) := cell_lit hB 0 rfl
  clear hT hok hk1 hA hk2 hB hA2 hk hs hlt
  go_enter Try.func24, Try.ntmps24
  go_wp2_with fail
  refine (HE.out).mono ?_; rintro e w1 ⟨rfl, hp⟩
  have HP := Lib.hid hp
  clear hp HE m2
  go_wp2_with fail
  go_ret
  obtain ⟨v', h1', h2', h3'⟩ := HP.out
  exact ⟨rfl, v', h1', (HK.out.more (by simp)).step h2' (fun q hq => hq), FSub.mono h3' HK.out.size⟩
end Go.Proofs.Ytjiglbjpmclncaa
/-
  The program's table keeps what the law's walks ask of one.
-/
namespace Go.Proofs.Ytjiglbjpmclncaa
open Go.RowKit Go.Maps
/-- Tables of the program, all that they can. -/
structure PAll extends PTabs where
  find : ∀ {w p O t}, At w p O t → TbOk t → t.L.length ≤ 1000 → ∀ (id : Int), 0 ≤ id → id < 65536 → Calls Try.prog 17 #[p, .int .u16 id] w fun e w' => e = .returned (.tuple #[.agg (rwC ((tbFind t id).getD rwZero)).toArray, .bool (tbFind t id).isSome]) ∧ Keeps [] w w'
  count : ∀ {w p O t}, At w p O t → t.L.length ≤ 1000 → ∀ (st : Int), Calls Try.prog 19 #[p, .int .u8 st] w fun e w' => e = .returned (.int .i64 (tbCount t st)) ∧ Keeps [] w w'
  copy : ∀ {w p O t}, At w p O t → t.L.length ≤ 1000 → Calls Try.prog 10 #[p] w fun e w' => ∃ p' O', e = .returned p' ∧ At w' p' O' t ∧ Keeps [] w w' ∧ ∀ q ∈ O', w.heap.size ≤ q
  ptr : ∀ {w p O t}, At w p O t → ∃ b, p = .pointer (some ⟨b, 0, none⟩)
def TbAt (w : World) (p : Value) (O : List Nat) (t : Tb) : Prop := ∃ b kb mb v, p = .pointer (some ⟨b, 0, none⟩) ∧ O = b :: kb :: mb :: own v ∧ TAt b kb mb w v t
theorem TPost.all {b kb mb : Nat} {w : World} {v : Value} {r : Int × Tb} {e : Ending} {w' : World} (h : TPost b kb mb w v r e w') : PPost TbAt w (.pointer (some ⟨b, 0, none⟩)) (b :: kb :: mb :: own v) r e w' := by
  obtain ⟨h1, v', h2, h3, h4⟩ := h
  refine ⟨h1, _, ⟨b, kb, mb, v', rfl, rfl, h2⟩, h3.more (fun q hq => List.mem_cons_of_mem _ hq), fun q hq => ?_⟩
  simp only [List.mem_cons] at hq
  rcases hq with rfl | rfl | rfl | hq
  · exact .inl (by simp)
  · exact .inl (by simp)
  · exact .inl (by simp)
  · exact (h4 q hq).imp (fun h => by simp [h]) id
theorem TbAt.below {w : World} {p : Value} {O : List Nat} {t : Tb} (h : TbAt w p O t) : ∀ q ∈ O, q < w.heap.size := by
  obtain ⟨b, kb, mb, v, rfl, rfl, hT⟩ := h
  intro q hq
  simp only [List.mem_cons] at hq
  rcases hq with rfl | rfl | rfl | hq
  · exact hT.lt
  · exact hT.at_.lt
  · exact hT.at_.map.lt
  · exact (row_base hT.at_.row q hq).2
theorem TbAt.keeps {w w' : World} {p : Value} {O : List Nat} {t : Tb} {F : List Nat} (h : TbAt w p O t) (hk : Keeps F w w') (hF : ∀ q ∈ O, q ∉ F) : TbAt w' p O t := by
  obtain ⟨b, kb, mb, v, rfl, rfl, hT⟩ := h
  exact ⟨b, kb, mb, v, rfl, rfl, hT.keeps hk (hF b (by simp)) (hF kb (by simp)) (hF mb (by simp)) (fun q hq => hF q (by simp [hq]))⟩
def tabP : PAll where
  At := TbAt
  below h := h.below
  keeps h hk hF := h.keeps hk hF
  inv h hok hn c id o at_ _ _ h0 h1 _ _ _ := by
    obtain ⟨b, kb, mb, v, rfl, rfl, hT⟩ := h
    exact (tbInvoke_any _ hT hok (by omega) c id o at_ h0 h1).mono fun e w' hp => hp.all
  ret h hok hn id rk rv at_ h0 h1 _ _ _ _ _ _ := by
    obtain ⟨b, kb, mb, v, rfl, rfl, hT⟩ := h
    exact (tbReturn_any _ hT hok (by omega) id rk rv at_ h0 h1).mono fun e w' hp => hp.all
  info h hok hn id at_ h0 h1 _ _ := by
    obtain ⟨b, kb, mb, v, rfl, rfl, hT⟩ := h
    exact (tbInfo_any _ hT hok (by omega) id at_ h0 h1).mono fun e w' hp => hp.all
  rem h hok hn id h0 h1 := by
    obtain ⟨b, kb, mb, v, rfl, rfl, hT⟩ := h
    exact (tbRemove_any _ hT hok (by omega) id h0 h1).mono fun e w' hp => hp.all
  settle h hok hn := by
    obtain ⟨b, kb, mb, v, rfl, rfl, hT⟩ := h
    exact (tbSettle_any _ hT hok (by omega)).mono fun e w' hp => hp.all
  Rdy _ _ := True
  rdy _ _ := trivial
  new {N w} _ _ := (tbNew_any w).mono fun e w' hp => by
    obtain ⟨b, kb, mb, rfl, hT, hk, h1, h2, h3⟩ := hp
    refine ⟨_, _, rfl, ⟨b, kb, mb, _, rfl, rfl, hT⟩, hk, fun q hq => ?_⟩
    simp [own, Value.ownBlock] at hq
    omega
  rows h hok hn := by
    obtain ⟨b, kb, mb, v, rfl, rfl, hT⟩ := h
    exact tbRows_any _ hT (by omega)
  before := tbBefore_any
  find h hok hn id h0 h1 := by
    obtain ⟨b, kb, mb, v, rfl, rfl, hT⟩ := h
    exact tbFindF_any _ hT hok (by omega) id h0 h1
  count h hn st := by
    obtain ⟨b, kb, mb, v, rfl, rfl, hT⟩ := h
    exact tbCount_any _ hT (by omega) st
  copy h hn := by
    obtain ⟨b, kb, mb, v, rfl, rfl, hT⟩ := h
    refine (tbCopy_any _ hT (by omega)).mono fun e w' hp => ?_
    obtain ⟨b', kb', mb', v', rfl, hT', hk, h1, h2, h3, h4⟩ := hp
    refine ⟨_, _, rfl, ⟨b', kb', mb', v', rfl, rfl, hT'⟩, hk, fun q hq => ?_⟩
    simp only [List.mem_cons] at hq
    rcases hq with rfl | rfl | rfl | hq
    · exact h1
    · exact h2
    · exact h3
    · exact h4 q hq
  ptr h := by
    obtain ⟨b, kb, mb, v, rfl, rfl, hT⟩ := h
    exact ⟨b, rfl⟩
end Go.Proofs.Ytjiglbjpmclncaa
/-
  Acts in memory; both tables on their way.
-/
namespace Go.Proofs.Ytjiglbjpmclncaa
open Go.RowKit Go.Maps
def acZero : Ac := ⟨0, 0, 0, ⟨0, 0, 0, 0, 0⟩, 0, 0, 0⟩
theorem acC_len (x : Ac) : (acC x).length = 11 := rfl
theorem acC_one (x : Ac) : ∀ v ∈ acC x, v.oneCell' = true := by
  intro v hv
  simp only [acC, List.mem_cons, List.not_mem_nil, or_false] at hv
  rcases hv with rfl | rfl | rfl | rfl | rfl | rfl | rfl | rfl | rfl | rfl | rfl <;> rfl
theorem Try.infoAct8 : (Try.prog.info? 34).map (fun i => (i.zero, i.size, i.bytes)) = some (some (.agg (acC acZero).toArray), 11, 24) := by kernel_rfl
noncomputable def kAc : RK Ac :=
  { T := 34, Sl := 22, s := 11, b := 24, cs := acC, i := (info_parts Try.infoAct8).choose, z := .agg (acC acZero).toArray,
    len := acC_len, one := acC_one, s0 := by decide, b1 := by decide, und := Try.underlying22,
    hi := (info_parts Try.infoAct8).choose_spec.1, hz := (info_parts Try.infoAct8).choose_spec.2.1, hs := (info_parts Try.infoAct8).choose_spec.2.2.1, hb := (info_parts Try.infoAct8).choose_spec.2.2.2, hzs := rfl }
section
variable {ops : Array Oper} {rest : List Oper} {a : Act} {w : World} {Q : Exit → Act → World → Prop}
theorem wpList_loadA {dst : Option Tmp} {ty : TypeId} {pos : String} {after : Array Edge} {gd : Option (Nat × Bool)} {x : Operand} {g off : Nat} {y : Ac}
    (hw : Region.wanted { dst := dst, op := .load 34 x, type := ty, pos := pos, after := after, guard := gd } (yielded ops a.tmps) = true)
    (hx : a.eval x = .pointer (some ⟨g, off, none⟩)) (hr : w.rangeAt g off (acC y)) (h : wpList Try.prog ops Q rest (a.put dst (.agg (acC y).toArray)) w) :
    wpList Try.prog ops Q ({ dst := dst, op := .load 34 x, type := ty, pos := pos, after := after, guard := gd } :: rest) a w :=
  kAc.wpList_load Try.underlying34 rfl rfl hw hx hr h
theorem wpList_putA {dst : Option Tmp} {ty : TypeId} {pos : String} {after : Array Edge} {x y : Operand} {g : Nat} {old r : Ac} {t : TypeId}
    (hx : a.eval x = .pointer (some ⟨g, 0, none⟩)) (hy : a.eval y = .agg (acC r).toArray) (hg : w.heap[g]? = some (.cells (acC old).toArray t (0, 0)))
    (h : ∀ W, W.heap[g]? = some (.cells (acC r).toArray t (0, 0)) → Keeps [g] w W → wpList Try.prog ops Q rest (a.put dst undef) W) :
    wpList Try.prog ops Q ({ dst := dst, op := .store 34 x y, type := ty, pos := pos, after := after, guard := none } :: rest) a w :=
  wpList_store_row rfl 34 x y rfl g (acC r).toArray hx hy t (acC old).toArray hg (by kernel_rfl) rfl (by rw [← Array.all_toList, List.all_eq_true]; exact acC_one r) (h _ (setRow_heap w g (acC old).toArray (acC r).toArray t (0, 0) hg) ((Keeps.refl [g] w).setRow g _ (.inl (by simp))))
end
/-- An act's cells, one by one. -/
theorem ac_cells {w : World} {B : Nat} {x : Ac} {T : TypeId} (h : w.heap[B]? = some (.cells (acC x).toArray T (0, 0))) : ∀ i u, (acC x)[i]? = some u → w.cell? ⟨B, i, none⟩ = some u := fun i u hi => by
  simp only [World.cell?, h]; simpa using hi
theorem kAc_at {N : Nat} {w : World} {a : Option Addr} {n c : Nat} {L : List Ac} (h : kAc.In N w (.slice a n c) L) (k : Nat) (hk : k < L.length) : ∃ bk o, a = some ⟨bk, o, none⟩ ∧ bk < N ∧ w.rangeAt bk (o + k * 11) (acC L[k]) := by
  obtain ⟨a', c', e, _, _, h⟩ := h
  injection e with e1 e2 e3
  subst e1
  obtain ⟨bk, o, e, hb, hr⟩ := h (fun e => by rw [e] at hk; simp at hk)
  exact ⟨bk, o, e, hb, hr k hk⟩
/-- Both tables, of which nothing older was touched. -/
structure Duo (w0 w : World) (p : Value) (O : List Nat) (b base : Nat) (v : Value) (t : Tb) : Prop where
  both : Both tabP.toPTab w p O b base v t
  k : Keeps [] w0 w
  o : ∀ q ∈ O ++ b :: own v, w0.heap.size ≤ q
  ok : TbOk t
theorem Duo.new {w0 w w' : World} {p : Value} {O : List Nat} {b base : Nat} {v : Value} {t : Tb} (h : Duo w0 w p O b base v t) (hk : Keeps [] w w') : Duo w0 w' p O b base v t :=
  ⟨h.both.new hk, h.k.trans hk (FSub.refl _ _), h.o, h.ok⟩
theorem acX_ok {t : Tb} (h : TbOk t) {x : Ac} (hx : x.In) : TbOk (acX t x).2 := by
  unfold acX
  split
  · exact h.inv hx.c hx.id hx.o
  · split
    · exact h.end_ hx.rk hx.rv
    · split
      · exact h.end_ hx.rk hx.rv
      · split
        · exact h.rem _
        · split
          · exact h.settle
          · exact h
theorem tbInv_len (t : Tb) (c id at_ : Int) (o : Opn) : (tbInv t c id o at_).2.L.length ≤ t.L.length + 1 := by
  unfold tbInv; split
  · exact Nat.le_succ _
  · split
    · exact Nat.le_succ _
    · simp
theorem tbEnd_len (t : Tb) (id rk rv at_ : Int) (d : Bool) : (tbEnd t id d rk rv at_).2.L.length = t.L.length := by
  unfold tbEnd; split
  · rfl
  · cases rwIdx id t.L with
    | none => rfl
    | some i =>
      simp only []
      cases t.L[i]? with
      | none => rfl
      | some r =>
        simp only []
        split
        · simp
        · rfl
theorem Duo.act {w0 w w' : World} {p : Value} {O O' : List Nat} {b base : Nat} {v v' : Value} {t : Tb} {x : Ac} (h : Duo w0 w p O b base v t) (hx : x.In) (h1 : Both tabP.toPTab w' p O' b base v' (acX t x).2) (h2 : Keeps (O ++ b :: own v) w w') (h3 : FSub (O' ++ own v') (O ++ own v) w.heap.size) : Duo w0 w' p O' b base v' (acX t x).2 := by
  refine ⟨h1, h.k.trans h2 (fun q hq => .inr (h.o q hq)), fun q hq => ?_, acX_ok h.ok hx⟩
  rcases List.mem_append.1 hq with h4 | h4
  · rcases h3 q (List.mem_append.2 (.inl h4)) with h5 | h5
    · exact h.o q (by rcases List.mem_append.1 h5 with h6 | h6 <;> simp [h6])
    · exact Nat.le_trans h.k.size h5
  · rcases List.mem_cons.1 h4 with h5 | h5
    · exact h.o q (by simp [h5])
    · rcases h3 q (List.mem_append.2 (.inr h5)) with h6 | h6
      · exact h.o q (by rcases List.mem_append.1 h6 with h7 | h7 <;> simp [h7])
      · exact Nat.le_trans h.k.size h6
end Go.Proofs.Ytjiglbjpmclncaa
/-
  TablePlays: its walk.
-/
namespace Go.Proofs.Ytjiglbjpmclncaa
open Go.RowKit Go.Maps
theorem works_true (w : World) : Calls Try.prog 7 #[] w fun e w' => e = .returned (.bool true) ∧ Keeps [] w w' := works8_any tabP.toPTabs w (N := 0) trivial (Nat.zero_le _)
theorem Duo.rows {w0 w : World} {p : Value} {O : List Nat} {b base : Nat} {v : Value} {t : Tb} (h : Duo w0 w p O b base v t) (hl : t.L.length ≤ 1000) : Calls Try.prog 16 #[p, .pointer (some ⟨b, 0, none⟩)] w fun e w' => e = .returned (.bool true) ∧ Keeps [] w w' :=
  same8_any w p h.both.doc ((tabP.rows h.both.prog h.ok hl).mono fun e w' hp => by
    obtain ⟨v', rfl, hr, hk⟩ := hp
    exact ⟨v', rfl, hr.in_, hk⟩)
set_option maxHeartbeats 8000000
set_option maxRecDepth 100000
end Go.Proofs.Ytjiglbjpmclncaa
/-
  TableEnds: its walk.
-/
namespace Go.Proofs.Ytjiglbjpmclncaa
open Go.RowKit Go.Maps
theorem Way.keepE {P : PTab} {w0 w w' : World} {p : Value} {O : List Nat} {t : Tb} (h : Way P w0 w p O t) (hk : Keeps [] w w') : Way P w0 w' p O t := ⟨P.keeps h.at_ hk (by simp), h.k.trans hk (FSub.refl _ _), h.o⟩
/-- What is there in a round: the table, the act, rows that were found. -/
structure Scene (w0 w : World) (p : Value) (O : List Nat) (t : Tb) (B : Nat) (x : Ac) (bs : List (Nat × Rw)) : Prop where
  way : Way tabP.toPTab w0 w p O t
  act : ∀ i u, (acC x)[i]? = some u → w.cell? ⟨B, i, none⟩ = some u
  rows : ∀ q ∈ bs, w.heap[q.1]? = some (.cells (rwC q.2).toArray 42 (0, 0))
  ok : TbOk t
  nb : B ∉ O ∧ ∀ q ∈ bs, q.1 ∉ O
  lt : B < w.heap.size ∧ ∀ q ∈ bs, q.1 < w.heap.size
section
variable {w0 w w' : World} {p : Value} {O : List Nat} {t : Tb} {B : Nat} {x : Ac} {bs : List (Nat × Rw)}
theorem Scene.keep (h : Scene w0 w p O t B x bs) (hk : Keeps [] w w') : Scene w0 w' p O t B x bs :=
  ⟨h.way.keepE hk, fun i u hi => hk.cell (h.act i u hi) (by simp), fun q hq => hk.heap (h.rows q hq) (by simp), h.ok, h.nb, ⟨Nat.lt_of_lt_of_le h.lt.1 hk.size, fun q hq => Nat.lt_of_lt_of_le (h.lt.2 q hq) hk.size⟩⟩
theorem Scene.next (h : Scene w0 w p O t B x bs) {r : Int × Tb} {e : Ending} (hp : PPost tabP.At w p O r e w') (hok : TbOk r.2) : e = .returned (.int .i64 r.1) ∧ ∃ O', Scene w0 w' p O' r.2 B x bs := by
  obtain ⟨h1, O', h2, h3, h4⟩ := h.way.next hp
  refine ⟨h1, O', h2, fun i u hi => h3.cell (h.act i u hi) h.nb.1, fun q hq => h3.heap (h.rows q hq) (h.nb.2 q hq), hok, ⟨fun hB => ?_, fun q hq hO => ?_⟩, ⟨Nat.lt_of_lt_of_le h.lt.1 h3.size, fun q hq => Nat.lt_of_lt_of_le (h.lt.2 q hq) h3.size⟩⟩
  · rcases h4 B hB with h5 | h5
    · exact h.nb.1 h5
    · have := h.lt.1; omega
  · rcases h4 q.1 hO with h5 | h5
    · exact h.nb.2 q hq h5
    · have := h.lt.2 q hq; omega
theorem Scene.more (h : Scene w0 w p O t B x bs) (hk : Keeps [] w w') {R : Nat} {r : Rw} (hR : w'.heap[R]? = some (.cells (rwC r).toArray 42 (0, 0))) (hn : w.heap.size ≤ R) : Scene w0 w' p O t B x ((R, r) :: bs) := by
  have h1 := h.keep hk
  have hO := tabP.below h.way.at_
  refine ⟨h1.way, h1.act, fun q hq => ?_, h1.ok, ⟨h1.nb.1, fun q hq => ?_⟩, ⟨h1.lt.1, fun q hq => ?_⟩⟩
  · rcases List.mem_cons.1 hq with rfl | h2
    · exact hR
    · exact h1.rows q h2
  · rcases List.mem_cons.1 hq with rfl | h2
    · exact fun h3 => by have := hO _ h3; simp only at this; omega
    · exact h1.nb.2 q h2
  · rcases List.mem_cons.1 hq with rfl | h2
    · exact lt_of_block hR
    · exact h1.lt.2 q h2
theorem Scene.find (h : Scene w0 w p O t B x bs) (hl : t.L.length ≤ 1000) (hx : x.In) {r : Rw} {f : Bool} (hr : (tbFind t x.id).getD rwZero = r) (hf : (tbFind t x.id).isSome = f) : Calls Try.prog 17 #[p, .int .u16 x.id] w fun e w' => e = .returned (.tuple #[.agg (rwC r).toArray, .bool f]) ∧ Keeps [] w w' := by
  have := tabP.find h.way.at_ h.ok hl x.id hx.id.1 hx.id.2
  rw [hr, hf] at this
  exact this
end
section
variable {ops : Array Oper} {rest : List Oper} {a : Act} {w : World} {Q : Exit → Act → World → Prop}
theorem wpList_loadL {dst : Option Tmp} {ty : TypeId} {pos : String} {after : Array Edge} {gd : Option (Nat × Bool)} {x : Operand} {g : Nat} {y : Rw} {T : TypeId}
    (hw : Region.wanted { dst := dst, op := .load 42 x, type := ty, pos := pos, after := after, guard := gd } (yielded ops a.tmps) = true)
    (hx : a.eval x = .pointer (some ⟨g, 0, none⟩)) (hr : w.heap[g]? = some (.cells (rwC y).toArray T (0, 0)))
    (h : wpList Try.prog ops Q rest (a.put dst (.agg #[.int .u8 y.c, .int .u16 y.id, .int .u8 y.o.f, .int .u8 y.o.o, .int .u8 y.o.k, .int .u16 y.o.a, .int .u16 y.o.b, .int .u8 y.rk, .int .u16 y.rv, .int .u8 y.st, .int .i64 y.fr, .int .i64 y.to])) w) :
    wpList Try.prog ops Q ({ dst := dst, op := .load 42 x, type := ty, pos := pos, after := after, guard := gd } :: rest) a w :=
  wpList_loadP hw hx (fun i u hi => by rw [Nat.zero_add]; exact rw_cell hr i hi) h
end
theorem may_at {t : Tb} {k : Nat} (h : t.last < k) (hk : k ≤ 60) : tbMay t k = true := tbMay_iff.2 ⟨by omega, by unfold rwMost; omega, h⟩
set_option maxHeartbeats 8000000
set_option maxRecDepth 100000
theorem TableEnds_any (w : World) {N : Nat} {v : Value} {L : List Ac} (hv : kAc.In N w v L) (hN : N ≤ w.heap.size) (hin : ∀ x ∈ L, x.In) :
    Calls Try.prog 5 #[v] w fun e w' => e = .returned (.bool true) ∧ Keeps [] w w' := by
  have HV := Lib.hid hv; have HIN := Lib.hid hin
  obtain ⟨a0, n0, rfl, hn, hm, -⟩ := hv
  clear hin
  by_cases hlen : 60 < L.length
  · have hlen2 : (60 : Int) < L.length := by omega
    have HW := Lib.hid (works_true w)
    go_enter Try.func5, Try.ntmps5
    go_wp2_with fail
    refine (HW.out).mono ?_; rintro e w1 ⟨rfl, hk⟩
    have HK := Lib.hid hk
    clear hk HW
    go_wp2_with fail
    go_ret
    exact ⟨rfl, HK.out⟩
  · have hlen2 : (L.length : Int) ≤ 60 := by omega
    have HLEN := Lib.hid (show L.length ≤ 60 by omega)
    have HNEW := Lib.hid (tabP.new (N := 0) (w := w) trivial (Nat.zero_le _))
    clear hlen
    go_enter Try.func5, Try.ntmps5
    go_wp2_with fail
    refine (HNEW.out).mono ?_; rintro e w1 ⟨p, O, rfl, hP, hk1, hO⟩
    have HY := Lib.hid (show Way tabP.toPTab w w1 p O tbNew from ⟨hP, hk1, hO⟩)
    obtain ⟨b, rfl⟩ := tabP.ptr hP
    clear hP hk1 hO HNEW
    go_wp2_with fail
    go_loopw [4, 5, 6, 7, 8, 9, 10, 11, 12, 13, 14, 15, 40, 81, 147] (fun i _ _ _ _ _ _ _ _ _ _ _ _ _ _ wr => ∃ (k : Nat) (t : Tb) (O : List Nat), i = .int .i64 k ∧ k ≤ L.length ∧ t.L.length ≤ k ∧ t.last < k ∧ TbOk t ∧ Way tabP.toPTab w wr (.pointer (some ⟨b, 0, none⟩)) O t) (fun i _ _ _ _ _ _ _ _ _ _ _ _ _ _ _ => L.length - (intOf i).toNat)
    case atStart => exact ⟨0, tbNew, O, rfl, by omega, by simp [tbNew], by simp [tbNew], TbOk.new, HY.out⟩
    case round =>
      obtain ⟨k, t, O, rfl, hk, htl, hlast, hok, hway⟩ := hrel
      have HD := Lib.hid hway; have HOK := Lib.hid hok; have HLAST := Lib.hid hlast
      clear hway hok hlast
      by_cases hlt : k < L.length
      · have hlt2 : (k : Int) < L.length := by omega
        have hx := HIN.out _ (List.getElem_mem hlt)
        obtain ⟨bk, o, rfl, hbN, hrow⟩ := kAc_at HV.out k hlt
        have HRW := Lib.hid (show wr.rangeAt bk (o + k * 11) (acC L[k]) from fun i u hi => HD.out.k.cell (hrow i u hi) (by simp))
        have HX := Lib.hid hx
        clear hrow hx
        generalize L[k] = x at *
        have HAZ := Lib.hid (heap_alloc_new wr (.cells (acC acZero).toArray 34))
        have HKA := Lib.hid ((Keeps.refl [] wr).alloc (.cells (acC acZero).toArray 34))
        go_wp2_with (first
          | ((with_reducible refine wpList_loadA (g := bk) (off := o + k * 11) (y := x) rfl ?_ HRW.out ?_); exact rfl)
          | ((with_reducible refine wpList_putA (old := acZero) (r := x) ?_ ?_ HAZ.out ?_); exact rfl; exact rfl))
        intro W hW hkW
        have hkV := HKA.out.trans hkW (fun q hq => .inr (by simp at hq; omega))
        have HSC := Lib.hid (show Scene w W (.pointer (some ⟨b, 0, none⟩)) O t wr.heap.size x [] from
          ⟨HD.out.keepE hkV, ac_cells hW, by simp, HOK.out, ⟨fun hq => by have := tabP.below HD.out.at_ _ hq; omega, by simp⟩, ⟨lt_of_block hW, by simp⟩⟩)
        clear hW hkW hkV HKA HAZ HRW HD hbN HOK
        generalize wr.heap.size = B at *
        have HMAY := Lib.hid (may_at HLAST.out (by have := HLEN.out; omega))
        have hl1 : t.L.length ≤ 1000 := by have := HLEN.out; omega
        obtain ⟨m, hm9⟩ : ∃ m, m = x.k.tmod 9 := ⟨_, rfl⟩
        have hm0 : 0 ≤ m ∧ m < 9 := by rw [hm9, Int.tmod_eq_emod_of_nonneg HX.out.k.1]; omega
        have c2 := HSC.out.act 2 _ (show (acC x)[2]? = some (.int .u16 x.id) from rfl)
        cases hf : tbFind t x.id with
        | none =>
          have HFIND := Lib.hid (HSC.out.find hl1 HX.out (r := rwZero) (f := false) (by rw [hf]; rfl) (by rw [hf]; rfl))
          go_wp2_with fail
          refine (HFIND.out).mono ?_; rintro e y1 ⟨rfl, hk1⟩
          have HSC := Lib.hid (HSC.out.keep hk1)
          have HRZ := Lib.hid (heap_alloc_new y1 (.cells (rwC rwZero).toArray 42))
          have HKA := Lib.hid ((Keeps.refl [] y1).alloc (.cells (rwC rwZero).toArray 42))
          clear hk1 HFIND c2
          go_wp2_with (first | ((with_reducible refine wpList_putP (old := rwZero) (r := rwZero) ?_ ?_ HRZ.out ?_); exact rfl; exact rfl))
          intro zz h6 hk6
          have HSC := Lib.hid (HSC.out.more (HKA.out.trans hk6 (fun q hq => .inr (by simp at hq; omega))) h6 (Nat.le_refl _))
          clear h6 hk6 HKA HRZ
          generalize y1.heap.size = R6 at *
          have HFF := Lib.hid hf
          by_cases h3 : m < 3
          · have h3' : x.k.tmod 9 < 3 := by omega
            have c0 := HSC.out.act 0 _ (show (acC x)[0]? = some (.int .u8 x.k) from rfl)
            have hy := tbInv_yes (c := x.c) (at_ := k) (o := x.o) HMAY.out hf
            have HL2 := Lib.hid (tbInv_len t x.c x.id k x.o)
            have HA2 := Lib.hid (tbInv_last (t := t) (c := x.c) (id := x.id) (at_ := k) (b := (k : Int) + 1) (o := x.o) (by have := HLAST.out; omega) (by omega))
            have hm1 : (tbInv t x.c x.id x.o k).1 = 0 := by rw [hy.1]
            have HF2 := Lib.hid hy.2
            clear hf hy
            have c1 := HSC.out.act 1 _ (show (acC x)[1]? = some (.int .u8 x.c) from rfl); have c2 := HSC.out.act 2 _ (show (acC x)[2]? = some (.int .u16 x.id) from rfl); have c3 := HSC.out.act 3 _ (show (acC x)[3]? = some (.int .u8 x.o.f) from rfl); have c4 := HSC.out.act 4 _ (show (acC x)[4]? = some (.int .u8 x.o.o) from rfl); have c5 := HSC.out.act 5 _ (show (acC x)[5]? = some (.int .u8 x.o.k) from rfl); have c6 := HSC.out.act 6 _ (show (acC x)[6]? = some (.int .u16 x.o.a) from rfl); have c7 := HSC.out.act 7 _ (show (acC x)[7]? = some (.int .u16 x.o.b) from rfl)
            have HC := Lib.hid (tabP.inv HSC.out.way.at_ HSC.out.ok hl1 x.c x.id x.o k HX.out.c.1 HX.out.c.2 HX.out.id.1 HX.out.id.2 HX.out.o (by omega) (by omega))
            have HOK2 := Lib.hid (HSC.out.ok.inv (at_ := k) HX.out.c HX.out.id HX.out.o)
            go_wp2_with fail
            refine (HC.out).mono ?_; rintro e y2 hp
            obtain ⟨rfl, O2, hsc⟩ := HSC.out.next hp HOK2.out
            have HSC := Lib.hid hsc
            clear hp hsc HC HOK2 c1 c2 c3 c4 c5 c6 c7
            rw [hm1]
            generalize (tbInv t x.c x.id x.o k).2 = t2 at *
            obtain ⟨r2, hr2⟩ : ∃ r2, r2 = rwNew x.c x.id x.o k := ⟨_, rfl⟩
            rw [← hr2] at HF2
            have hl2 : t2.L.length ≤ 1000 := by have := HL2.out; omega
            have e0 : r2.c = x.c := by rw [hr2]; rfl
            have e1 : r2.id = x.id := by rw [hr2]; rfl
            have e2 : r2.o = x.o := by rw [hr2]; rfl
            have e3 : r2.rk = 0 := by rw [hr2]; rfl
            have e4 : r2.rv = 0 := by rw [hr2]; rfl
            have e5 : r2.st = 0 := by rw [hr2]; rfl
            have e6 : r2.fr = k := by rw [hr2]; rfl
            have e7 : r2.to = 4611686018427387904 := by rw [hr2]; rfl
            clear hr2 hm1 c0
            have HFI := Lib.hid (HSC.out.find hl2 HX.out (r := r2) (f := true) (by rw [HF2.out]; rfl) (by rw [HF2.out]; rfl))
            have c2 := HSC.out.act 2 _ (show (acC x)[2]? = some (.int .u16 x.id) from rfl)
            go_wp2_with fail
            refine (HFI.out).mono ?_; rintro e y3 ⟨rfl, hk3⟩
            have HSC := Lib.hid (HSC.out.keep hk3)
            have HRZ := Lib.hid (heap_alloc_new y3 (.cells (rwC rwZero).toArray 42))
            have HKA := Lib.hid ((Keeps.refl [] y3).alloc (.cells (rwC rwZero).toArray 42))
            clear hk3 HFI c2
            go_wp2_with (first | ((with_reducible refine wpList_putP (old := rwZero) (r := r2) ?_ ?_ HRZ.out ?_); exact rfl; exact rfl))
            intro zz h6 hk6
            have HSC := Lib.hid (HSC.out.more (HKA.out.trans hk6 (fun q hq => .inr (by simp at hq; omega))) h6 (Nat.le_refl _))
            clear h6 hk6 HKA HRZ
            generalize y3.heap.size = R2 at *
            have HA := Lib.hid (HSC.out.rows (R2, r2) (by simp))
            have c1 := HSC.out.act 1 _ (show (acC x)[1]? = some (.int .u8 x.c) from rfl); have c2 := HSC.out.act 2 _ (show (acC x)[2]? = some (.int .u16 x.id) from rfl); have c3 := HSC.out.act 3 _ (show (acC x)[3]? = some (.int .u8 x.o.f) from rfl); have c4 := HSC.out.act 4 _ (show (acC x)[4]? = some (.int .u8 x.o.o) from rfl); have c5 := HSC.out.act 5 _ (show (acC x)[5]? = some (.int .u8 x.o.k) from rfl); have c6 := HSC.out.act 6 _ (show (acC x)[6]? = some (.int .u16 x.o.a) from rfl); have c7 := HSC.out.act 7 _ (show (acC x)[7]? = some (.int .u16 x.o.b) from rfl)
            go_wp2_with (first | ((with_reducible refine wpList_loadL ?_ ?_ HA.out ?_); exact rfl; exact rfl))
            clear HA c1 c2 c3 c4 c5 c6 c7 e0 e1 e2 e3 e4 e5 e6 e7
            go_roundw
            case rel => exact ⟨k + 1, t2, _, by go_num, by omega, by have := HL2.out; omega, HA2.out, HSC.out.ok, HSC.out.way⟩
            case measure => simp [intOf]; omega
          · have h3' : ¬ x.k.tmod 9 < 3 := by omega
            have c0 := HSC.out.act 0 _ (show (acC x)[0]? = some (.int .u8 x.k) from rfl)
            by_cases h5 : m < 5
            · have h5' : x.k.tmod 9 < 5 := by omega
              have HE := Lib.hid (tbEnd_no (t := t) (id := x.id) (rk := x.rk) (rv := x.rv) (done := true) HMAY.out (fun r hr => by rw [hf] at hr; cases hr))
              clear hf
              have c2 := HSC.out.act 2 _ (show (acC x)[2]? = some (.int .u16 x.id) from rfl); have c8 := HSC.out.act 8 _ (show (acC x)[8]? = some (.int .u8 x.rk) from rfl); have c9 := HSC.out.act 9 _ (show (acC x)[9]? = some (.int .u16 x.rv) from rfl)
              have HC := Lib.hid (tabP.ret HSC.out.way.at_ HSC.out.ok hl1 x.id x.rk x.rv k HX.out.id.1 HX.out.id.2 HX.out.rk.1 HX.out.rk.2 HX.out.rv.1 HX.out.rv.2 (by omega) (by omega))
              have HOK2 := Lib.hid (HSC.out.ok.end_ (id := x.id) (at_ := k) (done := true) HX.out.rk HX.out.rv)
              go_wp2_with fail
              refine (HC.out).mono ?_; rintro e y2 hp
              obtain ⟨rfl, O2, hsc⟩ := HSC.out.next hp HOK2.out
              have HSC := Lib.hid hsc
              clear hp hsc HC HOK2 c2 c8 c9
              rw [HE.out] at HSC
              rw [show (tbEnd t x.id true x.rk x.rv k).1 = 7 by rw [HE.out]]
              clear HE c0
              have HFI := Lib.hid (HSC.out.find hl1 HX.out (r := rwZero) (f := false) (by rw [HFF.out]; rfl) (by rw [HFF.out]; rfl))
              have c2 := HSC.out.act 2 _ (show (acC x)[2]? = some (.int .u16 x.id) from rfl)
              go_wp2_with fail
              refine (HFI.out).mono ?_; rintro e y3 ⟨rfl, hk3⟩
              have HSC := Lib.hid (HSC.out.keep hk3)
              have HRZ := Lib.hid (heap_alloc_new y3 (.cells (rwC rwZero).toArray 42))
              have HKA := Lib.hid ((Keeps.refl [] y3).alloc (.cells (rwC rwZero).toArray 42))
              clear hk3 HFI c2
              go_wp2_with (first | ((with_reducible refine wpList_putP (old := rwZero) (r := rwZero) ?_ ?_ HRZ.out ?_); exact rfl; exact rfl))
              intro zz h6 hk6
              have HSC := Lib.hid (HSC.out.more (HKA.out.trans hk6 (fun q hq => .inr (by simp at hq; omega))) h6 (Nat.le_refl _))
              clear h6 hk6 HKA HRZ
              generalize y3.heap.size = R2 at *
              have HA := Lib.hid (HSC.out.rows (R2, rwZero) (by simp))
              have HB := Lib.hid (HSC.out.rows (R6, rwZero) (by simp))
              have b9 := rw_cell HB.out 9 (show (rwC rwZero)[9]? = some (.int .u8 (rwZero).st) from rfl)
              go_wp2_with (first
                | ((with_reducible refine wpList_loadL ?_ ?_ HA.out ?_); exact rfl; exact rfl)
                | ((with_reducible refine wpList_loadL ?_ ?_ HB.out ?_); exact rfl; exact rfl))
              clear HA HB
              go_roundw
              case rel => exact ⟨k + 1, t, _, by go_num, by omega, by omega, by have := HLAST.out; omega, HSC.out.ok, HSC.out.way⟩
              case measure => simp [intOf]; omega
            · have h5' : ¬ x.k.tmod 9 < 5 := by omega
              by_cases e5 : m = 5
              · have e5' : (x.k.tmod 9 == 5) = true := by simp; omega
                have HE := Lib.hid (tbEnd_no (t := t) (id := x.id) (rk := 0) (rv := 0) (done := false) HMAY.out (fun r hr => by rw [hf] at hr; cases hr))
                clear hf
                have c2 := HSC.out.act 2 _ (show (acC x)[2]? = some (.int .u16 x.id) from rfl)
                have HC := Lib.hid (tabP.info HSC.out.way.at_ HSC.out.ok hl1 x.id k HX.out.id.1 HX.out.id.2 (by omega) (by omega))
                have HOK2 := Lib.hid (HSC.out.ok.end_ (id := x.id) (at_ := k) (done := false) (rk := 0) (rv := 0) (by decide) (by decide))
                go_wp2_with fail
                refine (HC.out).mono ?_; rintro e y2 hp
                obtain ⟨rfl, O2, hsc⟩ := HSC.out.next hp HOK2.out
                have HSC := Lib.hid hsc
                clear hp hsc HC HOK2 c2
                rw [HE.out] at HSC
                rw [show (tbEnd t x.id false 0 0 k).1 = 7 by rw [HE.out]]
                clear HE c0
                have HFI := Lib.hid (HSC.out.find hl1 HX.out (r := rwZero) (f := false) (by rw [HFF.out]; rfl) (by rw [HFF.out]; rfl))
                have c2 := HSC.out.act 2 _ (show (acC x)[2]? = some (.int .u16 x.id) from rfl)
                go_wp2_with fail
                refine (HFI.out).mono ?_; rintro e y3 ⟨rfl, hk3⟩
                have HSC := Lib.hid (HSC.out.keep hk3)
                have HRZ := Lib.hid (heap_alloc_new y3 (.cells (rwC rwZero).toArray 42))
                have HKA := Lib.hid ((Keeps.refl [] y3).alloc (.cells (rwC rwZero).toArray 42))
                clear hk3 HFI c2
                go_wp2_with (first | ((with_reducible refine wpList_putP (old := rwZero) (r := rwZero) ?_ ?_ HRZ.out ?_); exact rfl; exact rfl))
                intro zz h6 hk6
                have HSC := Lib.hid (HSC.out.more (HKA.out.trans hk6 (fun q hq => .inr (by simp at hq; omega))) h6 (Nat.le_refl _))
                clear h6 hk6 HKA HRZ
                generalize y3.heap.size = R2 at *
                have HA := Lib.hid (HSC.out.rows (R2, rwZero) (by simp))
                have HB := Lib.hid (HSC.out.rows (R6, rwZero) (by simp))
                have b9 := rw_cell HB.out 9 (show (rwC rwZero)[9]? = some (.int .u8 (rwZero).st) from rfl)
                go_wp2_with (first
                  | ((with_reducible refine wpList_loadL ?_ ?_ HA.out ?_); exact rfl; exact rfl)
                  | ((with_reducible refine wpList_loadL ?_ ?_ HB.out ?_); exact rfl; exact rfl))
                clear HA HB
                go_roundw
                case rel => exact ⟨k + 1, t, _, by go_num, by omega, by omega, by have := HLAST.out; omega, HSC.out.ok, HSC.out.way⟩
                case measure => simp [intOf]; omega
              · have e5' : (x.k.tmod 9 == 5) = false := by simp; omega
                clear hf
                go_wp2_with fail
                clear c0
                go_roundw
                case rel => exact ⟨k + 1, t, _, by go_num, by omega, by omega, by have := HLAST.out; omega, HSC.out.ok, HSC.out.way⟩
                case measure => simp [intOf]; omega
        | some r =>
          have HFIND := Lib.hid (HSC.out.find hl1 HX.out (r := r) (f := true) (by rw [hf]; rfl) (by rw [hf]; rfl))
          have HRT := Lib.hid (show r.st = 0 → r.to = 4611686018427387904 from fun h0 => (HSC.out.ok.rows r (tbFind_some hf).1).not (by omega))
          go_wp2_with fail
          refine (HFIND.out).mono ?_; rintro e y1 ⟨rfl, hk1⟩
          have HSC := Lib.hid (HSC.out.keep hk1)
          have HRZ := Lib.hid (heap_alloc_new y1 (.cells (rwC rwZero).toArray 42))
          have HKA := Lib.hid ((Keeps.refl [] y1).alloc (.cells (rwC rwZero).toArray 42))
          clear hk1 HFIND c2
          go_wp2_with (first | ((with_reducible refine wpList_putP (old := rwZero) (r := r) ?_ ?_ HRZ.out ?_); exact rfl; exact rfl))
          intro zz h6 hk6
          have HSC := Lib.hid (HSC.out.more (HKA.out.trans hk6 (fun q hq => .inr (by simp at hq; omega))) h6 (Nat.le_refl _))
          clear h6 hk6 HKA HRZ
          generalize y1.heap.size = R6 at *
          have HFF := Lib.hid hf
          by_cases h3 : m < 3
          · have h3' : x.k.tmod 9 < 3 := by omega
            have c0 := HSC.out.act 0 _ (show (acC x)[0]? = some (.int .u8 x.k) from rfl)
            have HE := Lib.hid (tbInv_there (c := x.c) (at_ := k) (o := x.o) HMAY.out hf)
            clear hf
            have c1 := HSC.out.act 1 _ (show (acC x)[1]? = some (.int .u8 x.c) from rfl); have c2 := HSC.out.act 2 _ (show (acC x)[2]? = some (.int .u16 x.id) from rfl); have c3 := HSC.out.act 3 _ (show (acC x)[3]? = some (.int .u8 x.o.f) from rfl); have c4 := HSC.out.act 4 _ (show (acC x)[4]? = some (.int .u8 x.o.o) from rfl); have c5 := HSC.out.act 5 _ (show (acC x)[5]? = some (.int .u8 x.o.k) from rfl); have c6 := HSC.out.act 6 _ (show (acC x)[6]? = some (.int .u16 x.o.a) from rfl); have c7 := HSC.out.act 7 _ (show (acC x)[7]? = some (.int .u16 x.o.b) from rfl)
            have HC := Lib.hid (tabP.inv HSC.out.way.at_ HSC.out.ok hl1 x.c x.id x.o k HX.out.c.1 HX.out.c.2 HX.out.id.1 HX.out.id.2 HX.out.o (by omega) (by omega))
            have HOK2 := Lib.hid (HSC.out.ok.inv (at_ := k) HX.out.c HX.out.id HX.out.o)
            go_wp2_with fail
            refine (HC.out).mono ?_; rintro e y2 hp
            obtain ⟨rfl, O2, hsc⟩ := HSC.out.next hp HOK2.out
            have HSC := Lib.hid hsc
            clear hp hsc HC HOK2 c1 c2 c3 c4 c5 c6 c7
            rw [HE.out] at HSC
            rw [show (tbInv t x.c x.id x.o k).1 = 8 by rw [HE.out]]
            clear HE c0
            go_wp2_with fail
            go_roundw
            case rel => exact ⟨k + 1, t, _, by go_num, by omega, by omega, by have := HLAST.out; omega, HSC.out.ok, HSC.out.way⟩
            case measure => simp [intOf]; omega
          · have h3' : ¬ x.k.tmod 9 < 3 := by omega
            have c0 := HSC.out.act 0 _ (show (acC x)[0]? = some (.int .u8 x.k) from rfl)
            by_cases h5 : m < 5
            · have h5' : x.k.tmod 9 < 5 := by omega
              by_cases hst : r.st = 0
              · have hy := tbEnd_yes (id := x.id) (rk := x.rk) (rv := x.rv) (done := true) HMAY.out hf hst
                have HL2 := Lib.hid (tbEnd_len t x.id x.rk x.rv k true)
                have HA2 := Lib.hid (tbEnd_last (t := t) (id := x.id) (rk := x.rk) (rv := x.rv) (at_ := k) (b := (k : Int) + 1) (done := true) (by have := HLAST.out; omega) (by omega))
                obtain ⟨hm1, -, hf2⟩ := hy
                have HF2 := Lib.hid hf2
                clear hf hf2
                have c2 := HSC.out.act 2 _ (show (acC x)[2]? = some (.int .u16 x.id) from rfl); have c8 := HSC.out.act 8 _ (show (acC x)[8]? = some (.int .u8 x.rk) from rfl); have c9 := HSC.out.act 9 _ (show (acC x)[9]? = some (.int .u16 x.rv) from rfl)
                have HC := Lib.hid (tabP.ret HSC.out.way.at_ HSC.out.ok hl1 x.id x.rk x.rv k HX.out.id.1 HX.out.id.2 HX.out.rk.1 HX.out.rk.2 HX.out.rv.1 HX.out.rv.2 (by omega) (by omega))
                have HOK2 := Lib.hid (HSC.out.ok.end_ (id := x.id) (at_ := k) (done := true) HX.out.rk HX.out.rv)
                go_wp2_with fail
                refine (HC.out).mono ?_; rintro e y2 hp
                obtain ⟨rfl, O2, hsc⟩ := HSC.out.next hp HOK2.out
                have HSC := Lib.hid hsc
                clear hp hsc HC HOK2 c2 c8 c9
                rw [hm1]
                generalize (tbEnd t x.id true x.rk x.rv k).2 = t2 at *
                obtain ⟨r2, hr2⟩ : ∃ r2, r2 = rwEnd r true x.rk x.rv k := ⟨_, rfl⟩
                rw [← hr2] at HF2
                have hl2 : t2.L.length ≤ 1000 := by have := HL2.out; omega
                have e1 : r2.rk = x.rk := by rw [hr2]; rfl
                have e2 : r2.rv = x.rv := by rw [hr2]; rfl
                have e3 : r2.st = 1 := by rw [hr2]; rfl
                have e4 : r2.fr = r.fr := by rw [hr2]; rfl
                have e5 : r2.to = k := by rw [hr2]; rfl
                clear hr2 hm1 c0
                have HFI := Lib.hid (HSC.out.find hl2 HX.out (r := r2) (f := true) (by rw [HF2.out]; rfl) (by rw [HF2.out]; rfl))
                have c2 := HSC.out.act 2 _ (show (acC x)[2]? = some (.int .u16 x.id) from rfl)
                go_wp2_with fail
                refine (HFI.out).mono ?_; rintro e y3 ⟨rfl, hk3⟩
                have HSC := Lib.hid (HSC.out.keep hk3)
                have HRZ := Lib.hid (heap_alloc_new y3 (.cells (rwC rwZero).toArray 42))
                have HKA := Lib.hid ((Keeps.refl [] y3).alloc (.cells (rwC rwZero).toArray 42))
                clear hk3 HFI c2
                go_wp2_with (first | ((with_reducible refine wpList_putP (old := rwZero) (r := r2) ?_ ?_ HRZ.out ?_); exact rfl; exact rfl))
                intro zz h6 hk6
                have HSC := Lib.hid (HSC.out.more (HKA.out.trans hk6 (fun q hq => .inr (by simp at hq; omega))) h6 (Nat.le_refl _))
                clear h6 hk6 HKA HRZ
                generalize y3.heap.size = R2 at *
                have HB6 := Lib.hid (HSC.out.rows (R6, r) (by simp))
                have b9 := rw_cell HB6.out 9 (show (rwC r)[9]? = some (.int .u8 r.st) from rfl)
                have b10 := rw_cell HB6.out 10 (show (rwC r)[10]? = some (.int .i64 r.fr) from rfl)
                have HA2 := Lib.hid (HSC.out.rows (R2, r2) (by simp))
                have d7 := rw_cell HA2.out 7 (show (rwC r2)[7]? = some (.int .u8 r2.rk) from rfl)
                have d8 := rw_cell HA2.out 8 (show (rwC r2)[8]? = some (.int .u16 r2.rv) from rfl)
                have d9 := rw_cell HA2.out 9 (show (rwC r2)[9]? = some (.int .u8 r2.st) from rfl)
                have d10 := rw_cell HA2.out 10 (show (rwC r2)[10]? = some (.int .i64 r2.fr) from rfl)
                have d11 := rw_cell HA2.out 11 (show (rwC r2)[11]? = some (.int .i64 r2.to) from rfl)
                have c8 := HSC.out.act 8 _ (show (acC x)[8]? = some (.int .u8 x.rk) from rfl)
                have c9 := HSC.out.act 9 _ (show (acC x)[9]? = some (.int .u16 x.rv) from rfl)
                clear HB6 HA2
                rw [hst] at b9
                rw [e1] at d7
                rw [e2] at d8
                rw [e3] at d9
                rw [e4] at d10
                rw [e5] at d11
                clear e1 e2 e3 e4 e5 hst
                go_wp2_with fail
                clear b9 b10 d7 d8 d9 d10 d11 c8 c9
                go_roundw
                case rel => exact ⟨k + 1, t2, _, by go_num, by omega, by have := HL2.out; omega, HA2.out, HSC.out.ok, HSC.out.way⟩
                case measure => simp [intOf]; omega
              · have HE := Lib.hid (tbEnd_no (t := t) (id := x.id) (rk := x.rk) (rv := x.rv) (done := true) HMAY.out (fun r' hr => by rw [hf] at hr; injection hr with hr; subst hr; exact hst))
                have tst : (r.st == 0) = false := by simpa using hst
                clear hf
                have c2 := HSC.out.act 2 _ (show (acC x)[2]? = some (.int .u16 x.id) from rfl); have c8 := HSC.out.act 8 _ (show (acC x)[8]? = some (.int .u8 x.rk) from rfl); have c9 := HSC.out.act 9 _ (show (acC x)[9]? = some (.int .u16 x.rv) from rfl)
                have HC := Lib.hid (tabP.ret HSC.out.way.at_ HSC.out.ok hl1 x.id x.rk x.rv k HX.out.id.1 HX.out.id.2 HX.out.rk.1 HX.out.rk.2 HX.out.rv.1 HX.out.rv.2 (by omega) (by omega))
                have HOK2 := Lib.hid (HSC.out.ok.end_ (id := x.id) (at_ := k) (done := true) HX.out.rk HX.out.rv)
                go_wp2_with fail
                refine (HC.out).mono ?_; rintro e y2 hp
                obtain ⟨rfl, O2, hsc⟩ := HSC.out.next hp HOK2.out
                have HSC := Lib.hid hsc
                clear hp hsc HC HOK2 c2 c8 c9
                rw [HE.out] at HSC
                rw [show (tbEnd t x.id true x.rk x.rv k).1 = 7 by rw [HE.out]]
                clear HE c0
                have HFI := Lib.hid (HSC.out.find hl1 HX.out (r := r) (f := true) (by rw [HFF.out]; rfl) (by rw [HFF.out]; rfl))
                have c2 := HSC.out.act 2 _ (show (acC x)[2]? = some (.int .u16 x.id) from rfl)
                go_wp2_with fail
                refine (HFI.out).mono ?_; rintro e y3 ⟨rfl, hk3⟩
                have HSC := Lib.hid (HSC.out.keep hk3)
                have HRZ := Lib.hid (heap_alloc_new y3 (.cells (rwC rwZero).toArray 42))
                have HKA := Lib.hid ((Keeps.refl [] y3).alloc (.cells (rwC rwZero).toArray 42))
                clear hk3 HFI c2
                go_wp2_with (first | ((with_reducible refine wpList_putP (old := rwZero) (r := r) ?_ ?_ HRZ.out ?_); exact rfl; exact rfl))
                intro zz h6 hk6
                have HSC := Lib.hid (HSC.out.more (HKA.out.trans hk6 (fun q hq => .inr (by simp at hq; omega))) h6 (Nat.le_refl _))
                clear h6 hk6 HKA HRZ
                generalize y3.heap.size = R2 at *
                have HA := Lib.hid (HSC.out.rows (R2, r) (by simp))
                have HB := Lib.hid (HSC.out.rows (R6, r) (by simp))
                have b9 := rw_cell HB.out 9 (show (rwC r)[9]? = some (.int .u8 (r).st) from rfl)
                go_wp2_with (first
                  | ((with_reducible refine wpList_loadL ?_ ?_ HA.out ?_); exact rfl; exact rfl)
                  | ((with_reducible refine wpList_loadL ?_ ?_ HB.out ?_); exact rfl; exact rfl))
                clear HA HB
                go_roundw
                case rel => exact ⟨k + 1, t, _, by go_num, by omega, by omega, by have := HLAST.out; omega, HSC.out.ok, HSC.out.way⟩
                case measure => simp [intOf]; omega
            · have h5' : ¬ x.k.tmod 9 < 5 := by omega
              by_cases e5 : m = 5
              · have e5' : (x.k.tmod 9 == 5) = true := by simp; omega
                by_cases hst : r.st = 0
                · have hy := tbEnd_yes (id := x.id) (rk := 0) (rv := 0) (done := false) HMAY.out hf hst
                  have HL2 := Lib.hid (tbEnd_len t x.id 0 0 k false)
                  have HA2 := Lib.hid (tbEnd_last (t := t) (id := x.id) (rk := 0) (rv := 0) (at_ := k) (b := (k : Int) + 1) (done := false) (by have := HLAST.out; omega) (by omega))
                  obtain ⟨hm1, -, hf2⟩ := hy
                  have HF2 := Lib.hid hf2
                  have hrt := HRT.out hst
                  clear hf hf2
                  have c2 := HSC.out.act 2 _ (show (acC x)[2]? = some (.int .u16 x.id) from rfl)
                  have HC := Lib.hid (tabP.info HSC.out.way.at_ HSC.out.ok hl1 x.id k HX.out.id.1 HX.out.id.2 (by omega) (by omega))
                  have HOK2 := Lib.hid (HSC.out.ok.end_ (id := x.id) (at_ := k) (done := false) (rk := 0) (rv := 0) (by decide) (by decide))
                  go_wp2_with fail
                  refine (HC.out).mono ?_; rintro e y2 hp
                  obtain ⟨rfl, O2, hsc⟩ := HSC.out.next hp HOK2.out
                  have HSC := Lib.hid hsc
                  clear hp hsc HC HOK2 c2
                  rw [hm1]
                  generalize (tbEnd t x.id false 0 0 k).2 = t2 at *
                  obtain ⟨r2, hr2⟩ : ∃ r2, r2 = rwEnd r false 0 0 k := ⟨_, rfl⟩
                  rw [← hr2] at HF2
                  have hl2 : t2.L.length ≤ 1000 := by have := HL2.out; omega
                  have e3 : r2.st = 2 := by rw [hr2]; rfl
                  have e6 : r2.to = 4611686018427387904 := by rw [hr2]; exact hrt
                  clear hr2 hm1 hrt c0
                  have HFI := Lib.hid (HSC.out.find hl2 HX.out (r := r2) (f := true) (by rw [HF2.out]; rfl) (by rw [HF2.out]; rfl))
                  have c2 := HSC.out.act 2 _ (show (acC x)[2]? = some (.int .u16 x.id) from rfl)
                  go_wp2_with fail
                  refine (HFI.out).mono ?_; rintro e y3 ⟨rfl, hk3⟩
                  have HSC := Lib.hid (HSC.out.keep hk3)
                  have HRZ := Lib.hid (heap_alloc_new y3 (.cells (rwC rwZero).toArray 42))
                  have HKA := Lib.hid ((Keeps.refl [] y3).alloc (.cells (rwC rwZero).toArray 42))
                  clear hk3 HFI c2
                  go_wp2_with (first | ((with_reducible refine wpList_putP (old := rwZero) (r := r2) ?_ ?_ HRZ.out ?_); exact rfl; exact rfl))
                  intro zz h6 hk6
                  have HSC := Lib.hid (HSC.out.more (HKA.out.trans hk6 (fun q hq => .inr (by simp at hq; omega))) h6 (Nat.le_refl _))
                  clear h6 hk6 HKA HRZ
                  generalize y3.heap.size = R2 at *
                  have HB6 := Lib.hid (HSC.out.rows (R6, r) (by simp))
                  have b9 := rw_cell HB6.out 9 (show (rwC r)[9]? = some (.int .u8 r.st) from rfl)
                  have b10 := rw_cell HB6.out 10 (show (rwC r)[10]? = some (.int .i64 r.fr) from rfl)
                  have HA2 := Lib.hid (HSC.out.rows (R2, r2) (by simp))
                  have d7 := rw_cell HA2.out 7 (show (rwC r2)[7]? = some (.int .u8 r2.rk) from rfl)
                  have d8 := rw_cell HA2.out 8 (show (rwC r2)[8]? = some (.int .u16 r2.rv) from rfl)
                  have d9 := rw_cell HA2.out 9 (show (rwC r2)[9]? = some (.int .u8 r2.st) from rfl)
                  have d10 := rw_cell HA2.out 10 (show (rwC r2)[10]? = some (.int .i64 r2.fr) from rfl)
                  have d11 := rw_cell HA2.out 11 (show (rwC r2)[11]? = some (.int .i64 r2.to) from rfl)
                  have c8 := HSC.out.act 8 _ (show (acC x)[8]? = some (.int .u8 x.rk) from rfl)
                  have c9 := HSC.out.act 9 _ (show (acC x)[9]? = some (.int .u16 x.rv) from rfl)
                  clear HB6 HA2
                  rw [hst] at b9
                  rw [e3] at d9
                  rw [e6] at d11
                  clear e3 e6 hst
                  go_wp2_with fail
                  clear b9 b10 d7 d8 d9 d10 d11 c8 c9
                  go_roundw
                  case rel => exact ⟨k + 1, t2, _, by go_num, by omega, by have := HL2.out; omega, HA2.out, HSC.out.ok, HSC.out.way⟩
                  case measure => simp [intOf]; omega
                · have HE := Lib.hid (tbEnd_no (t := t) (id := x.id) (rk := 0) (rv := 0) (done := false) HMAY.out (fun r' hr => by rw [hf] at hr; injection hr with hr; subst hr; exact hst))
                  have tst : (r.st == 0) = false := by simpa using hst
                  clear hf
                  have c2 := HSC.out.act 2 _ (show (acC x)[2]? = some (.int .u16 x.id) from rfl)
                  have HC := Lib.hid (tabP.info HSC.out.way.at_ HSC.out.ok hl1 x.id k HX.out.id.1 HX.out.id.2 (by omega) (by omega))
                  have HOK2 := Lib.hid (HSC.out.ok.end_ (id := x.id) (at_ := k) (done := false) (rk := 0) (rv := 0) (by decide) (by decide))
                  go_wp2_with fail
                  refine (HC.out).mono ?_; rintro e y2 hp
                  obtain ⟨rfl, O2, hsc⟩ := HSC.out.next hp HOK2.out
                  have HSC := Lib.hid hsc
                  clear hp hsc HC HOK2 c2
                  rw [HE.out] at HSC
                  rw [show (tbEnd t x.id false 0 0 k).1 = 7 by rw [HE.out]]
                  clear HE c0
                  have HFI := Lib.hid (HSC.out.find hl1 HX.out (r := r) (f := true) (by rw [HFF.out]; rfl) (by rw [HFF.out]; rfl))
                  have c2 := HSC.out.act 2 _ (show (acC x)[2]? = some (.int .u16 x.id) from rfl)
                  go_wp2_with fail
                  refine (HFI.out).mono ?_; rintro e y3 ⟨rfl, hk3⟩
                  have HSC := Lib.hid (HSC.out.keep hk3)
                  have HRZ := Lib.hid (heap_alloc_new y3 (.cells (rwC rwZero).toArray 42))
                  have HKA := Lib.hid ((Keeps.refl [] y3).alloc (.cells (rwC rwZero).toArray 42))
                  clear hk3 HFI c2
                  go_wp2_with (first | ((with_reducible refine wpList_putP (old := rwZero) (r := r) ?_ ?_ HRZ.out ?_); exact rfl; exact rfl))
                  intro zz h6 hk6
                  have HSC := Lib.hid (HSC.out.more (HKA.out.trans hk6 (fun q hq => .inr (by simp at hq; omega))) h6 (Nat.le_refl _))
                  clear h6 hk6 HKA HRZ
                  generalize y3.heap.size = R2 at *
                  have HA := Lib.hid (HSC.out.rows (R2, r) (by simp))
                  have HB := Lib.hid (HSC.out.rows (R6, r) (by simp))
                  have b9 := rw_cell HB.out 9 (show (rwC r)[9]? = some (.int .u8 (r).st) from rfl)
                  go_wp2_with (first
                    | ((with_reducible refine wpList_loadL ?_ ?_ HA.out ?_); exact rfl; exact rfl)
                    | ((with_reducible refine wpList_loadL ?_ ?_ HB.out ?_); exact rfl; exact rfl))
                  clear HA HB
                  go_roundw
                  case rel => exact ⟨k + 1, t, _, by go_num, by omega, by omega, by have := HLAST.out; omega, HSC.out.ok, HSC.out.way⟩
                  case measure => simp [intOf]; omega
              · have e5' : (x.k.tmod 9 == 5) = false := by simp; omega
                clear hf
                go_wp2_with fail
                clear c0
                go_roundw
                case rel => exact ⟨k + 1, t, _, by go_num, by omega, by omega, by have := HLAST.out; omega, HSC.out.ok, HSC.out.way⟩
                case measure => simp [intOf]; omega
      · obtain rfl : k = L.length := by omega
        have hl1 : t.L.length ≤ 1000 := by omega
        obtain ⟨q1, q2, q3⟩ := tbSettle_len t
        have HQ := Lib.hid (And.intro q1 (And.intro q2 q3))
        have HQS := Lib.hid (show (tbSettle t).1 = tbCount t 1 from rfl)
        have hl2 : (tbSettle t).2.L.length ≤ 1000 := by omega
        clear q1 q2 q3 hk hlt HLAST
        have HC := Lib.hid (tabP.count HD.out.at_ hl1 1)
        go_wp2_with fail
        refine (HC.out).mono ?_; rintro e y1 ⟨rfl, hk1⟩
        have HD1 := Lib.hid (HD.out.keepE hk1)
        have HR := Lib.hid (tabP.rows HD1.out.at_ HOK.out hl1)
        clear HC HD hk1
        go_wp2_with fail
        refine (HR.out).mono ?_; rintro e y2 ⟨lv, rfl, hrow, hk2⟩
        have HD2 := Lib.hid (HD1.out.keepE hk2)
        obtain ⟨la, lc, rfl, -, -⟩ := hrow.shape
        have HS := Lib.hid (tabP.settle HD2.out.at_ HOK.out hl1)
        clear HR HD1 hk2 hrow
        go_wp2_with fail
        refine (HS.out).mono ?_; rintro e y3 hp
        obtain ⟨rfl, O3, hY3, -, -⟩ := HD2.out.next hp
        have HD3 := Lib.hid hY3
        have hok3 := HOK.out.settle
        have HR := Lib.hid (tabP.rows HD3.out.at_ hok3 hl2)
        rw [HQS.out]
        clear hp hY3 HS HD2
        go_wp2_with fail
        refine (HR.out).mono ?_; rintro e y4 ⟨lw, rfl, hrow, hk4⟩
        have HD4 := Lib.hid (HD3.out.keepE hk4)
        obtain ⟨ma, mc, rfl, -, -⟩ := hrow.shape
        have HC := Lib.hid (tabP.count HD4.out.at_ hl2 1)
        rw [HQ.out.2.2] at HC
        have hq : (((tbSettle t).2.L.length : Nat) : Int) = (t.L.length : Int) - (tbCount t 1 : Nat) := by
          have := HQ.out.1; have := HQ.out.2.1
          omega
        generalize (tbSettle t).2.L.length = A at *
        generalize t.L.length = B at *
        generalize tbCount t 1 = D at *
        clear HR HD3 hk4 hrow
        go_wp2_with fail
        refine (HC.out).mono ?_; rintro e y5 ⟨rfl, hk5⟩
        have HK5 := Lib.hid (HD4.out.k.trans hk5 (FSub.refl _ _))
        have HW := Lib.hid (works_true y5)
        clear HC HD4 hk5
        go_wp2_with fail
        refine (HW.out).mono ?_; rintro e y6 ⟨rfl, hk6⟩
        have HK6 := Lib.hid (HK5.out.trans hk6 (FSub.refl _ _))
        clear HW HK5 hk6
        go_wp2_with fail
        go_ret
        exact ⟨rfl, HK6.out⟩
end Go.Proofs.Ytjiglbjpmclncaa
