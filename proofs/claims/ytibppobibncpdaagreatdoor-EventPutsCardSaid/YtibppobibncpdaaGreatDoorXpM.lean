/-
  EventPuts' walk. (Printed by draft/genputs5.py.)
-/
import Derived.Test.YtibppobibncpdaaGreatDoorG44
import Derived.Test.YtibppobibncpdaaGreatDoorG33
set_option linter.unusedSimpArgs false
set_option linter.unusedVariables false
namespace Go.Proofs.YtibppobibncpdaaGreatDoor
open Go.RowKit
def PutsS (b : Nat) (x y : Ev) (tx rd ty ry : Value) (v w : World) : Prop := w.heap[b]? = some (.cells (evC x tx rd) 32) ∧ w.heap[b + 1]? = some (.cells (evC y ty ry) 32) ∧ Keeps [] v w
theorem PutsS.keeps {b : Nat} {x y : Ev} {tx rd ty ry : Value} {v w w' : World} (h : PutsS b x y tx rd ty ry v w) (hk : Keeps [] w w') : PutsS b x y tx rd ty ry v w' :=
  ⟨hk.heap h.1 (by simp), hk.heap h.2.1 (by simp), h.2.2.trans hk (FSub.refl _ _)⟩
theorem PutsS.load1 {b : Nat} {x y : Ev} {tx rd ty ry : Value} {v w : World} (h : PutsS b x y tx rd ty ry v w) : (Instr.loadAt 32 (.pointer (some ⟨b, 0, none⟩))).run Tryz.prog w = .ok (.agg (evC x tx rd)) w := by
  simp only [Instr.loadAt, Instr.sureAddr, Sem.run_bind, Sem.run_pure, Result.andThen_ok, run_loadVar_row w _ _ 32 _ _ _ h.1 Tryz.underlying32 rfl (by kernel_rfl)]
theorem PutsS.load2 {b : Nat} {x y : Ev} {tx rd ty ry : Value} {v w : World} (h : PutsS b x y tx rd ty ry v w) : (Instr.loadAt 32 (.pointer (some ⟨b + 1, 0, none⟩))).run Tryz.prog w = .ok (.agg (evC y ty ry)) w := by
  simp only [Instr.loadAt, Instr.sureAddr, Sem.run_bind, Sem.run_pure, Result.andThen_ok, run_loadVar_row w _ _ 32 _ _ _ h.2.1 Tryz.underlying32 rfl (by kernel_rfl)]
set_option maxHeartbeats 8000000 in
set_option maxRecDepth 100000 in
theorem EventPuts_any (w : World) (hG : Glob4 w) (x : Ev) (hx : x.In) (tx rd : Value) (y : Ev) (_hy : y.In) (ty ry : Value) {N : Nat} (ht : EvAt N w tx rd x) (hu : EvAt N w ty ry y) (hN : N ≤ w.heap.size) :
    Calls Tryz.prog 3 #[.agg (evC x tx rd), .agg (evC y ty ry)] w fun e w' => e = .returned (.bool true) ∧ Keeps [] w w' := by
  have hx1 := ht.t.one
  have hx2 := ht.r.one
  have hy1 := hu.t.one
  have hy2 := hu.r.one
  have hk0 := ((Keeps.refl [] w).alloc (.cells (evC x tx rd) 32)).alloc (.cells (evC y ty ry) 32)
  have hbx : ((w.alloc (.cells (evC x tx rd) 32)).alloc (.cells (evC y ty ry) 32)).heap[w.heap.size]? = some (.cells (evC x tx rd) 32) := heap_alloc_lt (heap_alloc_new w _)
  have hby : ((w.alloc (.cells (evC x tx rd) 32)).alloc (.cells (evC y ty ry) 32)).heap[w.heap.size + 1]? = some (.cells (evC y ty ry) 32) := heap_alloc_at (by simp)
  have HK0 := Lib.hid hk0; have HT0 := Lib.hid (ht.new hk0 hN); have HU0 := Lib.hid (hu.new hk0 hN)
  have hn0 := Nat.le_trans hN hk0.size
  have HG0 := Lib.hid (hG.new hk0)
  clear hk0 ht hu hN hG
  go_enter Tryz.func3, Tryz.ntmps3
  go_wp2_with ((with_reducible apply wpList_load_ev); exact rfl; (first | assumption | (refine heap_alloc_lt ?_; assumption) | (refine heap_alloc_lt (heap_alloc_lt ?_); assumption) | exact heap_alloc_at (by simp)); exact rfl)
  generalize (w.alloc (.cells (evC x tx rd) 32)).alloc (.cells (evC y ty ry) 32) = w0 at *
  generalize w.heap.size = b at *
  refine (few5_any w0 x tx rd HT0.out hn0).mono ?_; rintro z w1 ⟨fb, rfl, hk1⟩
  have hbx := hk1.heap hbx (by simp)
  have hby := hk1.heap hby (by simp)
  have HK1 := Lib.hid (HK0.out.trans hk1 (FSub.refl _ _))
  have HT1 := Lib.hid (HT0.out.new hk1 hn0)
  have HU1 := Lib.hid (HU0.out.new hk1 hn0)
  have HG1 := Lib.hid (HG0.out.new hk1)
  have hn1 := Nat.le_trans hn0 hk1.size
  clear hk1 HT0 HU0 HG0 HK0 hn0
  cases fb with
  | false =>
    go_wp2_with fail
    refine (awake5_any w1 (HG1.out)).mono ?_; rintro z wa ⟨rfl, hka⟩
    have HKZ := Lib.hid (HK1.out.trans hka (FSub.refl _ _))
    clear hka
    go_wp2_with fail
    go_ret
    exact ⟨rfl, HKZ.out⟩
  | true =>
    go_wp2_with ((with_reducible apply wpList_load_evG); exact rfl; exact rfl; assumption; exact rfl)
    refine (few5_any w1 y ty ry HU1.out hn1).mono ?_; rintro z w2 ⟨fb, rfl, hk2⟩
    have hbx := hk2.heap hbx (by simp)
    have hby := hk2.heap hby (by simp)
    have HK2 := Lib.hid (HK1.out.trans hk2 (FSub.refl _ _))
    have HT2 := Lib.hid (HT1.out.new hk2 hn1)
    have HU2 := Lib.hid (HU1.out.new hk2 hn1)
    have HG2 := Lib.hid (HG1.out.new hk2)
    have hn2 := Nat.le_trans hn1 hk2.size
    clear hk2 HT1 HU1 HG1 HK1 hn1
    cases fb with
    | false =>
      go_wp2_with fail
      refine (awake5_any w2 (HG2.out)).mono ?_; rintro z wa ⟨rfl, hka⟩
      have HKZ := Lib.hid (HK2.out.trans hka (FSub.refl _ _))
      clear hka
      go_wp2_with fail
      go_ret
      exact ⟨rfl, HKZ.out⟩
    | true =>
      rcases bool_two (evGood x) with hg | hg
      · have he : evErr x = 0 := by simp [evErr, hg]
        have hP := fun w hG (ht : EvAt N w tx rd x) hN => Put5_any w hG x hx tx rd ht hN
        rw [if_pos hg, he] at hP
        have hQ := fun w (ht : EvAt N w tx rd x) hN => RPut5_any w x hx tx rd ht hN
        unfold RPutPost at hQ
        rw [hg, he] at hQ
        rw [if_pos rfl] at hQ
        have HP := Lib.hid hP; have HQ := Lib.hid hQ
        clear hP hQ
        generalize strOfNums (evPut x) = S at *
        go_wp2_with ((with_reducible apply wpList_load_ev); exact rfl; (first | assumption | (refine heap_alloc_lt ?_; assumption) | (refine heap_alloc_lt (heap_alloc_lt ?_); assumption) | exact heap_alloc_at (by simp)); exact rfl)
        refine (HP.out _ HG2.out HT2.out hn2).mono ?_; rintro z w3 ⟨rfl, hk3⟩
        have hbx := hk3.heap hbx (by simp)
        have hby := hk3.heap hby (by simp)
        have HK3 := Lib.hid (HK2.out.trans hk3 (FSub.refl _ _))
        have HT3 := Lib.hid (HT2.out.new hk3 hn2)
        have HU3 := Lib.hid (HU2.out.new hk3 hn2)
        have HG3 := Lib.hid (HG2.out.new hk3)
        have hn3 := Nat.le_trans hn2 hk3.size
        clear hk3 HT2 HU2 HG2 HK2 hn2
        go_wp2_with ((with_reducible apply wpList_load_ev); exact rfl; (first | assumption | (refine heap_alloc_lt ?_; assumption) | (refine heap_alloc_lt (heap_alloc_lt ?_); assumption) | exact heap_alloc_at (by simp)); exact rfl)
        refine (HQ.out _ HT3.out hn3).mono ?_; rintro z w4 ⟨rfl, hk4⟩
        have hbx := hk4.heap hbx (by simp)
        have hby := hk4.heap hby (by simp)
        have HK4 := Lib.hid (HK3.out.trans hk4 (FSub.refl _ _))
        have HT4 := Lib.hid (HT3.out.new hk4 hn3)
        have HU4 := Lib.hid (HU3.out.new hk4 hn3)
        have HG4 := Lib.hid (HG3.out.new hk4)
        have hn4 := Nat.le_trans hn3 hk4.size
        clear hk4 HT3 HU3 HG3 HK3 hn3
        clear HP HQ
        have hck := fun w' (hk : Keeps [] w4 w') => Check5_any w' (HG4.out.new hk) x hx tx rd (HT4.out.new hk hn4) (Nat.le_trans hn4 hk.size)
        have hmy := fun w' (hk : Keeps [] w4 w') => refMay5_any w' x hx tx rd (HT4.out.new hk hn4) (Nat.le_trans hn4 hk.size)
        have hsm := fun w' (hk : Keeps [] w4 w') => Same5_any w' x y tx rd ty ry (HT4.out.new hk hn4) (HU4.out.new hk hn4) (Nat.le_trans hn4 hk.size) (Nat.le_trans hn4 hk.size)
        have hrs := fun w' (hk : Keeps [] w4 w') => refSame5_any w' x y tx rd ty ry (HT4.out.new hk hn4) (HU4.out.new hk hn4) (Nat.le_trans hn4 hk.size) (Nat.le_trans hn4 hk.size)
        have hss := fun w' (hk : Keeps [] w4 w') => Same5_any w' x x tx rd tx rd (HT4.out.new hk hn4) (HT4.out.new hk hn4) (Nat.le_trans hn4 hk.size) (Nat.le_trans hn4 hk.size)
        have haw := fun w' (hk : Keeps [] w4 w') => awake5_any w' (HG4.out.new hk)
        rw [he] at hck
        rw [hg] at hmy
        rw [evSame_self] at hss
        have hload := fun w' => PutsS.load1 (b := b) (x := x) (y := y) (tx := tx) (rd := rd) (ty := ty) (ry := ry) (v := w4) (w := w')
        have hload2 := fun w' => PutsS.load2 (b := b) (x := x) (y := y) (tx := tx) (rd := rd) (ty := ty) (ry := ry) (v := w4) (w := w')
        have hs0 : PutsS b x y tx rd ty ry w4 w4.drew := ⟨hbx, hby, (Keeps.refl [] w4).drew⟩
        have HCK := Lib.hid hck; have HMY := Lib.hid hmy; have HSM := Lib.hid hsm; have HRS := Lib.hid hrs; have HSS := Lib.hid hss; have HAW := Lib.hid haw; have HLX := Lib.hid hload; have HLY := Lib.hid hload2; have HSO := Lib.hid hs0
        clear hck hmy hsm hrs hss haw hload hload2 hs0 HT4 HU4 HG4 hn4 hbx hby he hg hx1 hx2 hy1 hy2
        generalize evSame x y = q at *
        go_wp2_with fail
        refine wp_region_noPanic ?_
        refine wp_region_held_drew (S := (fun w' => PutsS b x y tx rd ty ry w4 w')) (by kernel_rfl) HSO.out (fun hHeld => ?_)
        apply wpAnyH_take (i := 0)
        · simp only [List.getElem?_toArray]; rfl
        · kernel_rfl
        · kernel_rfl
        · kernel_rfl
        · exact fun _ _ _ h => h
        · exact yields_ev (by rfl) _ rfl _ rfl HLX.out
        · assumption
        try simp only [Act.put, List.setIfInBounds_toArray, List.set_cons_zero, List.set_cons_succ]
        apply wpAnyH_take (i := 3)
        · simp only [List.getElem?_toArray]; rfl
        · kernel_rfl
        · kernel_rfl
        · kernel_rfl
        · exact fun _ _ _ h => h
        · exact yields_ev (by rfl) _ rfl _ rfl HLX.out
        · assumption
        try simp only [Act.put, List.setIfInBounds_toArray, List.set_cons_zero, List.set_cons_succ]
        apply wpAnyH_ready (rs := [1])
        · kernel_rfl
        · simp
        apply AllReadyH.cons (hs := AllReadyH.nil)
        · simp only [List.getElem?_toArray]; rfl
        intro K hK
        rw [if_pos (by rfl)]
        go_simp
        refine (HCK.out _ HSO.out.2.2).mono ?_; rintro e wA ⟨rfl, hkA⟩
        have HSA := Lib.hid (HSO.out.keeps hkA)
        clear hkA
        go_wp2_with fail
        refine hK.out _ _ ?_ (fun hHeld => ?_)
        · exact HSA.out
        clear hK K
        try simp only [Act.put, List.setIfInBounds_toArray, List.set_cons_zero, List.set_cons_succ]
        apply wpAnyH_take (i := 2)
        · simp only [List.getElem?_toArray]; rfl
        · kernel_rfl
        · kernel_rfl
        · kernel_rfl
        · exact fun _ _ _ h => h
        · exact Or.inl ⟨by rfl, by intro w hSw; go_simp; try with_reducible rfl⟩
        · assumption
        try simp only [Act.put, List.setIfInBounds_toArray, List.set_cons_zero, List.set_cons_succ]
        apply wpAnyH_ready (rs := [4])
        · kernel_rfl
        · simp
        apply AllReadyH.cons (hs := AllReadyH.nil)
        · simp only [List.getElem?_toArray]; rfl
        intro K hK
        rw [if_pos (by rfl)]
        go_simp
        refine (HMY.out _ HSA.out.2.2).mono ?_; rintro e wB ⟨rfl, hkB⟩
        have HSB := Lib.hid (HSA.out.keeps hkB)
        clear hkB
        go_wp2_with fail
        refine hK.out _ _ ?_ (fun hHeld => ?_)
        · exact HSB.out
        clear hK K
        try simp only [Act.put, List.setIfInBounds_toArray, List.set_cons_zero, List.set_cons_succ]
        apply wpAnyH_take (i := 5)
        · simp only [List.getElem?_toArray]; rfl
        · kernel_rfl
        · kernel_rfl
        · kernel_rfl
        · exact fun _ _ _ h => h
        · exact Or.inl ⟨by rfl, by intro w hSw; go_simp; try with_reducible rfl⟩
        · assumption
        try simp only [Act.put, List.setIfInBounds_toArray, List.set_cons_zero, List.set_cons_succ]
        apply wpAnyH_take (i := 6)
        · simp only [List.getElem?_toArray]; rfl
        · kernel_rfl
        · kernel_rfl
        · kernel_rfl
        · exact fun _ _ _ h => h
        · exact Or.inl ⟨by rfl, by intro w hSw; go_simp; try with_reducible rfl⟩
        · assumption
        try simp only [Act.put, List.setIfInBounds_toArray, List.set_cons_zero, List.set_cons_succ]
        apply wpAnyH_take (i := 7)
        · simp only [List.getElem?_toArray]; rfl
        · kernel_rfl
        · kernel_rfl
        · kernel_rfl
        · exact fun _ _ _ h => h
        · exact Or.inl ⟨by rfl, by intro w hSw; go_simp; try with_reducible rfl⟩
        · assumption
        try simp only [Act.put, List.setIfInBounds_toArray, List.set_cons_zero, List.set_cons_succ]
        apply wpAnyH_take (i := 8)
        · simp only [List.getElem?_toArray]; rfl
        · kernel_rfl
        · kernel_rfl
        · kernel_rfl
        · exact fun _ _ _ h => h
        · exact Or.inl ⟨by rfl, by intro w hSw; go_simp; try with_reducible rfl⟩
        · assumption
        try simp only [Act.put, List.setIfInBounds_toArray, List.set_cons_zero, List.set_cons_succ]
        apply wpAnyH_take (i := 9)
        · simp only [List.getElem?_toArray]; rfl
        · kernel_rfl
        · kernel_rfl
        · kernel_rfl
        · exact fun _ _ _ h => h
        · exact Or.inl ⟨by rfl, by intro w hSw; go_simp; try with_reducible rfl⟩
        · assumption
        try simp only [Act.put, List.setIfInBounds_toArray, List.set_cons_zero, List.set_cons_succ]
        apply wpAnyH_take (i := 10)
        · simp only [List.getElem?_toArray]; rfl
        · kernel_rfl
        · kernel_rfl
        · kernel_rfl
        · exact fun _ _ _ h => h
        · exact Or.inl ⟨by rfl, by intro w hSw; go_simp; try with_reducible rfl⟩
        · assumption
        try simp only [Act.put, List.setIfInBounds_toArray, List.set_cons_zero, List.set_cons_succ]
        apply wpAnyH_take (i := 11)
        · simp only [List.getElem?_toArray]; rfl
        · kernel_rfl
        · kernel_rfl
        · kernel_rfl
        · exact fun _ _ _ h => h
        · exact Or.inl ⟨by rfl, by intro w hSw; go_simp; try with_reducible rfl⟩
        · assumption
        try simp only [Act.put, List.setIfInBounds_toArray, List.set_cons_zero, List.set_cons_succ]
        apply wpAnyH_take (i := 12)
        · simp only [List.getElem?_toArray]; rfl
        · kernel_rfl
        · kernel_rfl
        · kernel_rfl
        · exact fun _ _ _ h => h
        · exact Or.inl ⟨by rfl, by intro w hSw; go_simp; try with_reducible rfl⟩
        · assumption
        try simp only [Act.put, List.setIfInBounds_toArray, List.set_cons_zero, List.set_cons_succ]
        apply wpAnyH_take (i := 13)
        · simp only [List.getElem?_toArray]; rfl
        · kernel_rfl
        · kernel_rfl
        · kernel_rfl
        · exact fun _ _ _ h => h
        · exact Or.inl ⟨by rfl, by intro w hSw; go_simp; try with_reducible rfl⟩
        · assumption
        try simp only [Act.put, List.setIfInBounds_toArray, List.set_cons_zero, List.set_cons_succ]
        apply wpAnyH_take (i := 14)
        · simp only [List.getElem?_toArray]; rfl
        · kernel_rfl
        · kernel_rfl
        · kernel_rfl
        · exact fun _ _ _ h => h
        · exact Or.inl ⟨by rfl, by intro w hSw; go_simp; try with_reducible rfl⟩
        · assumption
        try simp only [Act.put, List.setIfInBounds_toArray, List.set_cons_zero, List.set_cons_succ]
        apply wpAnyH_take (i := 15)
        · simp only [List.getElem?_toArray]; rfl
        · kernel_rfl
        · kernel_rfl
        · kernel_rfl
        · exact fun _ _ _ h => h
        · exact Or.inl ⟨by rfl, by intro w hSw; go_simp; try with_reducible rfl⟩
        · assumption
        try simp only [Act.put, List.setIfInBounds_toArray, List.set_cons_zero, List.set_cons_succ]
        apply wpAnyH_take (i := 16)
        · simp only [List.getElem?_toArray]; rfl
        · kernel_rfl
        · kernel_rfl
        · kernel_rfl
        · exact fun _ _ _ h => h
        · exact Or.inl ⟨by rfl, by intro w hSw; go_simp; try with_reducible rfl⟩
        · assumption
        try simp only [Act.put, List.setIfInBounds_toArray, List.set_cons_zero, List.set_cons_succ]
        apply wpAnyH_take (i := 17)
        · simp only [List.getElem?_toArray]; rfl
        · kernel_rfl
        · kernel_rfl
        · kernel_rfl
        · exact fun _ _ _ h => h
        · exact yields_ev (by rfl) _ rfl _ rfl HLX.out
        · assumption
        try simp only [Act.put, List.setIfInBounds_toArray, List.set_cons_zero, List.set_cons_succ]
        apply wpAnyH_take (i := 18)
        · simp only [List.getElem?_toArray]; rfl
        · kernel_rfl
        · kernel_rfl
        · kernel_rfl
        · exact fun _ _ _ h => h
        · exact yields_ev (by rfl) _ rfl _ rfl HLY.out
        · assumption
        try simp only [Act.put, List.setIfInBounds_toArray, List.set_cons_zero, List.set_cons_succ]
        apply wpAnyH_take (i := 20)
        · simp only [List.getElem?_toArray]; rfl
        · kernel_rfl
        · kernel_rfl
        · kernel_rfl
        · exact fun _ _ _ h => h
        · exact yields_ev (by rfl) _ rfl _ rfl HLX.out
        · assumption
        try simp only [Act.put, List.setIfInBounds_toArray, List.set_cons_zero, List.set_cons_succ]
        apply wpAnyH_take (i := 21)
        · simp only [List.getElem?_toArray]; rfl
        · kernel_rfl
        · kernel_rfl
        · kernel_rfl
        · exact fun _ _ _ h => h
        · exact yields_ev (by rfl) _ rfl _ rfl HLY.out
        · assumption
        try simp only [Act.put, List.setIfInBounds_toArray, List.set_cons_zero, List.set_cons_succ]
        apply wpAnyH_ready (rs := [19])
        · kernel_rfl
        · simp
        apply AllReadyH.cons (hs := AllReadyH.nil)
        · simp only [List.getElem?_toArray]; rfl
        intro K hK
        rw [if_pos (by rfl)]
        go_simp
        refine (HSM.out _ HSB.out.2.2).mono ?_; rintro e wC ⟨rfl, hkC⟩
        have HSC := Lib.hid (HSB.out.keeps hkC)
        clear hkC
        go_wp2_with fail
        refine hK.out _ _ ?_ (fun hHeld => ?_)
        · exact HSC.out
        clear hK K
        try simp only [Act.put, List.setIfInBounds_toArray, List.set_cons_zero, List.set_cons_succ]
        apply wpAnyH_ready (rs := [22])
        · kernel_rfl
        · simp
        apply AllReadyH.cons (hs := AllReadyH.nil)
        · simp only [List.getElem?_toArray]; rfl
        intro K hK
        rw [if_pos (by rfl)]
        go_simp
        refine (HRS.out _ HSC.out.2.2).mono ?_; rintro e wD ⟨rfl, hkD⟩
        have HSD := Lib.hid (HSC.out.keeps hkD)
        clear hkD
        go_wp2_with fail
        refine hK.out _ _ ?_ (fun hHeld => ?_)
        · exact HSD.out
        clear hK K
        try simp only [Act.put, List.setIfInBounds_toArray, List.set_cons_zero, List.set_cons_succ]
        apply wpAnyH_take (i := 23)
        · simp only [List.getElem?_toArray]; rfl
        · kernel_rfl
        · kernel_rfl
        · kernel_rfl
        · exact fun _ _ _ h => h
        · exact Or.inl ⟨by rfl, by intro w hSw; go_simp; try with_reducible rfl⟩
        · assumption
        try simp only [Act.put, List.setIfInBounds_toArray, List.set_cons_zero, List.set_cons_succ]
        apply wpAnyH_take (i := 24)
        · simp only [List.getElem?_toArray]; rfl
        · kernel_rfl
        · kernel_rfl
        · kernel_rfl
        · exact fun _ _ _ h => h
        · exact Or.inl ⟨by rfl, by intro w hSw; go_simp; try with_reducible rfl⟩
        · assumption
        try simp only [Act.put, List.setIfInBounds_toArray, List.set_cons_zero, List.set_cons_succ]
        apply wpAnyH_take (i := 25)
        · simp only [List.getElem?_toArray]; rfl
        · kernel_rfl
        · kernel_rfl
        · kernel_rfl
        · exact fun _ _ _ h => h
        · exact Or.inl ⟨by rfl, by intro w hSw; go_simp; try with_reducible rfl⟩
        · assumption
        try simp only [Act.put, List.setIfInBounds_toArray, List.set_cons_zero, List.set_cons_succ]
        apply wpAnyH_take (i := 26)
        · simp only [List.getElem?_toArray]; rfl
        · kernel_rfl
        · kernel_rfl
        · kernel_rfl
        · exact fun _ _ _ h => h
        · exact yields_ev (by rfl) _ rfl _ rfl HLX.out
        · assumption
        try simp only [Act.put, List.setIfInBounds_toArray, List.set_cons_zero, List.set_cons_succ]
        apply wpAnyH_take (i := 27)
        · simp only [List.getElem?_toArray]; rfl
        · kernel_rfl
        · kernel_rfl
        · kernel_rfl
        · exact fun _ _ _ h => h
        · exact yields_ev (by rfl) _ rfl _ rfl HLX.out
        · assumption
        try simp only [Act.put, List.setIfInBounds_toArray, List.set_cons_zero, List.set_cons_succ]
        apply wpAnyH_ready (rs := [28])
        · kernel_rfl
        · simp
        apply AllReadyH.cons (hs := AllReadyH.nil)
        · simp only [List.getElem?_toArray]; rfl
        intro K hK
        rw [if_pos (by rfl)]
        go_simp
        refine (HSS.out _ HSD.out.2.2).mono ?_; rintro e wE ⟨rfl, hkE⟩
        have HSE := Lib.hid (HSD.out.keeps hkE)
        clear hkE
        go_wp2_with fail
        refine hK.out _ _ ?_ (fun hHeld => ?_)
        · exact HSE.out
        clear hK K
        try simp only [Act.put, List.setIfInBounds_toArray, List.set_cons_zero, List.set_cons_succ]
        apply wpAnyH_take (i := 29)
        · simp only [List.getElem?_toArray]; rfl
        · kernel_rfl
        · kernel_rfl
        · kernel_rfl
        · exact fun _ _ _ h => h
        · exact Or.inl ⟨by rfl, by intro w hSw; go_simp; try with_reducible rfl⟩
        · assumption
        try simp only [Act.put, List.setIfInBounds_toArray, List.set_cons_zero, List.set_cons_succ]
        apply wpAnyH_take (i := 30)
        · simp only [List.getElem?_toArray]; rfl
        · kernel_rfl
        · kernel_rfl
        · kernel_rfl
        · exact fun _ _ _ h => h
        · exact Or.inl ⟨by rfl, by intro w hSw; go_simp; try with_reducible rfl⟩
        · assumption
        try simp only [Act.put, List.setIfInBounds_toArray, List.set_cons_zero, List.set_cons_succ]
        apply wpAnyH_ready (rs := [31])
        · kernel_rfl
        · simp
        apply AllReadyH.cons (hs := AllReadyH.nil)
        · simp only [List.getElem?_toArray]; rfl
        intro K hK
        rw [if_pos (by rfl)]
        go_simp
        refine (HAW.out _ HSE.out.2.2).mono ?_; rintro e wF ⟨rfl, hkF⟩
        have HSF := Lib.hid (HSE.out.keeps hkF)
        clear hkF
        go_wp2_with fail
        refine hK.out _ _ ?_ (fun hHeld => ?_)
        · exact HSF.out
        clear hK K
        try simp only [Act.put, List.setIfInBounds_toArray, List.set_cons_zero, List.set_cons_succ]
        apply wpAnyH_take (i := 32)
        · simp only [List.getElem?_toArray]; rfl
        · kernel_rfl
        · kernel_rfl
        · kernel_rfl
        · exact fun _ _ _ h => h
        · exact Or.inl ⟨by rfl, by intro w hSw; go_simp; try with_reducible rfl⟩
        · assumption
        try simp only [Act.put, List.setIfInBounds_toArray, List.set_cons_zero, List.set_cons_succ]
        apply wpAnyH_take (i := 33)
        · simp only [List.getElem?_toArray]; rfl
        · kernel_rfl
        · kernel_rfl
        · kernel_rfl
        · exact fun _ _ _ h => h
        · exact Or.inl ⟨by rfl, by intro w hSw; go_simp; try with_reducible rfl⟩
        · assumption
        try simp only [Act.put, List.setIfInBounds_toArray, List.set_cons_zero, List.set_cons_succ]
        refine wpAnyH_done (by kernel_rfl) ?_ _
        refine NoPanic.normal ?_
        go_wp2_with fail
        go_ret
        exact ⟨rfl, HK4.out.trans HSF.out.2.2 (FSub.refl _ _)⟩
      · have he : evErr x = 4 := by simp [evErr, hg]
        have hP := fun w hG (ht : EvAt N w tx rd x) hN => Put5_any w hG x hx tx rd ht hN
        rw [if_neg (by simp [hg]), he] at hP
        have hQ := fun w (ht : EvAt N w tx rd x) hN => RPut5_any w x hx tx rd ht hN
        unfold RPutPost at hQ
        rw [hg, he] at hQ
        rw [if_neg (by simp)] at hQ
        have HP := Lib.hid hP; have HQ := Lib.hid hQ
        clear hP hQ
        skip
        go_wp2_with ((with_reducible apply wpList_load_ev); exact rfl; (first | assumption | (refine heap_alloc_lt ?_; assumption) | (refine heap_alloc_lt (heap_alloc_lt ?_); assumption) | exact heap_alloc_at (by simp)); exact rfl)
        refine (HP.out _ HG2.out HT2.out hn2).mono ?_; rintro z w3 ⟨rfl, hk3⟩
        have hbx := hk3.heap hbx (by simp)
        have hby := hk3.heap hby (by simp)
        have HK3 := Lib.hid (HK2.out.trans hk3 (FSub.refl _ _))
        have HT3 := Lib.hid (HT2.out.new hk3 hn2)
        have HU3 := Lib.hid (HU2.out.new hk3 hn2)
        have HG3 := Lib.hid (HG2.out.new hk3)
        have hn3 := Nat.le_trans hn2 hk3.size
        clear hk3 HT2 HU2 HG2 HK2 hn2
        go_wp2_with ((with_reducible apply wpList_load_ev); exact rfl; (first | assumption | (refine heap_alloc_lt ?_; assumption) | (refine heap_alloc_lt (heap_alloc_lt ?_); assumption) | exact heap_alloc_at (by simp)); exact rfl)
        refine (HQ.out _ HT3.out hn3).mono ?_; rintro z w4 ⟨rfl, hk4⟩
        have hbx := hk4.heap hbx (by simp)
        have hby := hk4.heap hby (by simp)
        have HK4 := Lib.hid (HK3.out.trans hk4 (FSub.refl _ _))
        have HT4 := Lib.hid (HT3.out.new hk4 hn3)
        have HU4 := Lib.hid (HU3.out.new hk4 hn3)
        have HG4 := Lib.hid (HG3.out.new hk4)
        have hn4 := Nat.le_trans hn3 hk4.size
        clear hk4 HT3 HU3 HG3 HK3 hn3
        clear HP HQ
        have hck := fun w' (hk : Keeps [] w4 w') => Check5_any w' (HG4.out.new hk) x hx tx rd (HT4.out.new hk hn4) (Nat.le_trans hn4 hk.size)
        have hmy := fun w' (hk : Keeps [] w4 w') => refMay5_any w' x hx tx rd (HT4.out.new hk hn4) (Nat.le_trans hn4 hk.size)
        have hsm := fun w' (hk : Keeps [] w4 w') => Same5_any w' x y tx rd ty ry (HT4.out.new hk hn4) (HU4.out.new hk hn4) (Nat.le_trans hn4 hk.size) (Nat.le_trans hn4 hk.size)
        have hrs := fun w' (hk : Keeps [] w4 w') => refSame5_any w' x y tx rd ty ry (HT4.out.new hk hn4) (HU4.out.new hk hn4) (Nat.le_trans hn4 hk.size) (Nat.le_trans hn4 hk.size)
        have hss := fun w' (hk : Keeps [] w4 w') => Same5_any w' x x tx rd tx rd (HT4.out.new hk hn4) (HT4.out.new hk hn4) (Nat.le_trans hn4 hk.size) (Nat.le_trans hn4 hk.size)
        have haw := fun w' (hk : Keeps [] w4 w') => awake5_any w' (HG4.out.new hk)
        rw [he] at hck
        rw [hg] at hmy
        rw [evSame_self] at hss
        have hload := fun w' => PutsS.load1 (b := b) (x := x) (y := y) (tx := tx) (rd := rd) (ty := ty) (ry := ry) (v := w4) (w := w')
        have hload2 := fun w' => PutsS.load2 (b := b) (x := x) (y := y) (tx := tx) (rd := rd) (ty := ty) (ry := ry) (v := w4) (w := w')
        have hs0 : PutsS b x y tx rd ty ry w4 w4.drew := ⟨hbx, hby, (Keeps.refl [] w4).drew⟩
        have HCK := Lib.hid hck; have HMY := Lib.hid hmy; have HSM := Lib.hid hsm; have HRS := Lib.hid hrs; have HSS := Lib.hid hss; have HAW := Lib.hid haw; have HLX := Lib.hid hload; have HLY := Lib.hid hload2; have HSO := Lib.hid hs0
        clear hck hmy hsm hrs hss haw hload hload2 hs0 HT4 HU4 HG4 hn4 hbx hby he hg hx1 hx2 hy1 hy2
        generalize evSame x y = q at *
        go_wp2_with fail
        refine wp_region_noPanic ?_
        refine wp_region_held_drew (S := (fun w' => PutsS b x y tx rd ty ry w4 w')) (by kernel_rfl) HSO.out (fun hHeld => ?_)
        apply wpAnyH_take (i := 0)
        · simp only [List.getElem?_toArray]; rfl
        · kernel_rfl
        · kernel_rfl
        · kernel_rfl
        · exact fun _ _ _ h => h
        · exact yields_ev (by rfl) _ rfl _ rfl HLX.out
        · assumption
        try simp only [Act.put, List.setIfInBounds_toArray, List.set_cons_zero, List.set_cons_succ]
        apply wpAnyH_take (i := 3)
        · simp only [List.getElem?_toArray]; rfl
        · kernel_rfl
        · kernel_rfl
        · kernel_rfl
        · exact fun _ _ _ h => h
        · exact yields_ev (by rfl) _ rfl _ rfl HLX.out
        · assumption
        try simp only [Act.put, List.setIfInBounds_toArray, List.set_cons_zero, List.set_cons_succ]
        apply wpAnyH_ready (rs := [1])
        · kernel_rfl
        · simp
        apply AllReadyH.cons (hs := AllReadyH.nil)
        · simp only [List.getElem?_toArray]; rfl
        intro K hK
        rw [if_pos (by rfl)]
        go_simp
        refine (HCK.out _ HSO.out.2.2).mono ?_; rintro e wA ⟨rfl, hkA⟩
        have HSA := Lib.hid (HSO.out.keeps hkA)
        clear hkA
        go_wp2_with fail
        refine hK.out _ _ ?_ (fun hHeld => ?_)
        · exact HSA.out
        clear hK K
        try simp only [Act.put, List.setIfInBounds_toArray, List.set_cons_zero, List.set_cons_succ]
        apply wpAnyH_take (i := 2)
        · simp only [List.getElem?_toArray]; rfl
        · kernel_rfl
        · kernel_rfl
        · kernel_rfl
        · exact fun _ _ _ h => h
        · exact Or.inl ⟨by rfl, by intro w hSw; go_simp; try with_reducible rfl⟩
        · assumption
        try simp only [Act.put, List.setIfInBounds_toArray, List.set_cons_zero, List.set_cons_succ]
        apply wpAnyH_ready (rs := [4])
        · kernel_rfl
        · simp
        apply AllReadyH.cons (hs := AllReadyH.nil)
        · simp only [List.getElem?_toArray]; rfl
        intro K hK
        rw [if_pos (by rfl)]
        go_simp
        refine (HMY.out _ HSA.out.2.2).mono ?_; rintro e wB ⟨rfl, hkB⟩
        have HSB := Lib.hid (HSA.out.keeps hkB)
        clear hkB
        go_wp2_with fail
        refine hK.out _ _ ?_ (fun hHeld => ?_)
        · exact HSB.out
        clear hK K
        try simp only [Act.put, List.setIfInBounds_toArray, List.set_cons_zero, List.set_cons_succ]
        apply wpAnyH_take (i := 5)
        · simp only [List.getElem?_toArray]; rfl
        · kernel_rfl
        · kernel_rfl
        · kernel_rfl
        · exact fun _ _ _ h => h
        · exact Or.inl ⟨by rfl, by intro w hSw; go_simp; try with_reducible rfl⟩
        · assumption
        try simp only [Act.put, List.setIfInBounds_toArray, List.set_cons_zero, List.set_cons_succ]
        apply wpAnyH_take (i := 6)
        · simp only [List.getElem?_toArray]; rfl
        · kernel_rfl
        · kernel_rfl
        · kernel_rfl
        · exact fun _ _ _ h => h
        · exact Or.inl ⟨by rfl, by intro w hSw; go_simp; try with_reducible rfl⟩
        · assumption
        try simp only [Act.put, List.setIfInBounds_toArray, List.set_cons_zero, List.set_cons_succ]
        apply wpAnyH_take (i := 7)
        · simp only [List.getElem?_toArray]; rfl
        · kernel_rfl
        · kernel_rfl
        · kernel_rfl
        · exact fun _ _ _ h => h
        · exact Or.inl ⟨by rfl, by intro w hSw; go_simp; try with_reducible rfl⟩
        · assumption
        try simp only [Act.put, List.setIfInBounds_toArray, List.set_cons_zero, List.set_cons_succ]
        apply wpAnyH_take (i := 8)
        · simp only [List.getElem?_toArray]; rfl
        · kernel_rfl
        · kernel_rfl
        · kernel_rfl
        · exact fun _ _ _ h => h
        · exact Or.inl ⟨by rfl, by intro w hSw; go_simp; try with_reducible rfl⟩
        · assumption
        try simp only [Act.put, List.setIfInBounds_toArray, List.set_cons_zero, List.set_cons_succ]
        apply wpAnyH_take (i := 9)
        · simp only [List.getElem?_toArray]; rfl
        · kernel_rfl
        · kernel_rfl
        · kernel_rfl
        · exact fun _ _ _ h => h
        · exact Or.inl ⟨by rfl, by intro w hSw; go_simp; try with_reducible rfl⟩
        · assumption
        try simp only [Act.put, List.setIfInBounds_toArray, List.set_cons_zero, List.set_cons_succ]
        apply wpAnyH_take (i := 10)
        · simp only [List.getElem?_toArray]; rfl
        · kernel_rfl
        · kernel_rfl
        · kernel_rfl
        · exact fun _ _ _ h => h
        · exact Or.inl ⟨by rfl, by intro w hSw; go_simp; try with_reducible rfl⟩
        · assumption
        try simp only [Act.put, List.setIfInBounds_toArray, List.set_cons_zero, List.set_cons_succ]
        apply wpAnyH_take (i := 11)
        · simp only [List.getElem?_toArray]; rfl
        · kernel_rfl
        · kernel_rfl
        · kernel_rfl
        · exact fun _ _ _ h => h
        · exact Or.inl ⟨by rfl, by intro w hSw; go_simp; try with_reducible rfl⟩
        · assumption
        try simp only [Act.put, List.setIfInBounds_toArray, List.set_cons_zero, List.set_cons_succ]
        apply wpAnyH_take (i := 12)
        · simp only [List.getElem?_toArray]; rfl
        · kernel_rfl
        · kernel_rfl
        · kernel_rfl
        · exact fun _ _ _ h => h
        · exact Or.inl ⟨by rfl, by intro w hSw; go_simp; try with_reducible rfl⟩
        · assumption
        try simp only [Act.put, List.setIfInBounds_toArray, List.set_cons_zero, List.set_cons_succ]
        apply wpAnyH_take (i := 13)
        · simp only [List.getElem?_toArray]; rfl
        · kernel_rfl
        · kernel_rfl
        · kernel_rfl
        · exact fun _ _ _ h => h
        · exact Or.inl ⟨by rfl, by intro w hSw; go_simp; try with_reducible rfl⟩
        · assumption
        try simp only [Act.put, List.setIfInBounds_toArray, List.set_cons_zero, List.set_cons_succ]
        apply wpAnyH_take (i := 14)
        · simp only [List.getElem?_toArray]; rfl
        · kernel_rfl
        · kernel_rfl
        · kernel_rfl
        · exact fun _ _ _ h => h
        · exact Or.inl ⟨by rfl, by intro w hSw; go_simp; try with_reducible rfl⟩
        · assumption
        try simp only [Act.put, List.setIfInBounds_toArray, List.set_cons_zero, List.set_cons_succ]
        apply wpAnyH_take (i := 15)
        · simp only [List.getElem?_toArray]; rfl
        · kernel_rfl
        · kernel_rfl
        · kernel_rfl
        · exact fun _ _ _ h => h
        · exact Or.inl ⟨by rfl, by intro w hSw; go_simp; try with_reducible rfl⟩
        · assumption
        try simp only [Act.put, List.setIfInBounds_toArray, List.set_cons_zero, List.set_cons_succ]
        apply wpAnyH_take (i := 16)
        · simp only [List.getElem?_toArray]; rfl
        · kernel_rfl
        · kernel_rfl
        · kernel_rfl
        · exact fun _ _ _ h => h
        · exact Or.inl ⟨by rfl, by intro w hSw; go_simp; try with_reducible rfl⟩
        · assumption
        try simp only [Act.put, List.setIfInBounds_toArray, List.set_cons_zero, List.set_cons_succ]
        apply wpAnyH_take (i := 17)
        · simp only [List.getElem?_toArray]; rfl
        · kernel_rfl
        · kernel_rfl
        · kernel_rfl
        · exact fun _ _ _ h => h
        · exact yields_ev (by rfl) _ rfl _ rfl HLX.out
        · assumption
        try simp only [Act.put, List.setIfInBounds_toArray, List.set_cons_zero, List.set_cons_succ]
        apply wpAnyH_take (i := 18)
        · simp only [List.getElem?_toArray]; rfl
        · kernel_rfl
        · kernel_rfl
        · kernel_rfl
        · exact fun _ _ _ h => h
        · exact yields_ev (by rfl) _ rfl _ rfl HLY.out
        · assumption
        try simp only [Act.put, List.setIfInBounds_toArray, List.set_cons_zero, List.set_cons_succ]
        apply wpAnyH_take (i := 20)
        · simp only [List.getElem?_toArray]; rfl
        · kernel_rfl
        · kernel_rfl
        · kernel_rfl
        · exact fun _ _ _ h => h
        · exact yields_ev (by rfl) _ rfl _ rfl HLX.out
        · assumption
        try simp only [Act.put, List.setIfInBounds_toArray, List.set_cons_zero, List.set_cons_succ]
        apply wpAnyH_take (i := 21)
        · simp only [List.getElem?_toArray]; rfl
        · kernel_rfl
        · kernel_rfl
        · kernel_rfl
        · exact fun _ _ _ h => h
        · exact yields_ev (by rfl) _ rfl _ rfl HLY.out
        · assumption
        try simp only [Act.put, List.setIfInBounds_toArray, List.set_cons_zero, List.set_cons_succ]
        apply wpAnyH_ready (rs := [19])
        · kernel_rfl
        · simp
        apply AllReadyH.cons (hs := AllReadyH.nil)
        · simp only [List.getElem?_toArray]; rfl
        intro K hK
        rw [if_pos (by rfl)]
        go_simp
        refine (HSM.out _ HSB.out.2.2).mono ?_; rintro e wC ⟨rfl, hkC⟩
        have HSC := Lib.hid (HSB.out.keeps hkC)
        clear hkC
        go_wp2_with fail
        refine hK.out _ _ ?_ (fun hHeld => ?_)
        · exact HSC.out
        clear hK K
        try simp only [Act.put, List.setIfInBounds_toArray, List.set_cons_zero, List.set_cons_succ]
        apply wpAnyH_ready (rs := [22])
        · kernel_rfl
        · simp
        apply AllReadyH.cons (hs := AllReadyH.nil)
        · simp only [List.getElem?_toArray]; rfl
        intro K hK
        rw [if_pos (by rfl)]
        go_simp
        refine (HRS.out _ HSC.out.2.2).mono ?_; rintro e wD ⟨rfl, hkD⟩
        have HSD := Lib.hid (HSC.out.keeps hkD)
        clear hkD
        go_wp2_with fail
        refine hK.out _ _ ?_ (fun hHeld => ?_)
        · exact HSD.out
        clear hK K
        try simp only [Act.put, List.setIfInBounds_toArray, List.set_cons_zero, List.set_cons_succ]
        apply wpAnyH_take (i := 23)
        · simp only [List.getElem?_toArray]; rfl
        · kernel_rfl
        · kernel_rfl
        · kernel_rfl
        · exact fun _ _ _ h => h
        · exact Or.inl ⟨by rfl, by intro w hSw; go_simp; try with_reducible rfl⟩
        · assumption
        try simp only [Act.put, List.setIfInBounds_toArray, List.set_cons_zero, List.set_cons_succ]
        apply wpAnyH_take (i := 24)
        · simp only [List.getElem?_toArray]; rfl
        · kernel_rfl
        · kernel_rfl
        · kernel_rfl
        · exact fun _ _ _ h => h
        · exact Or.inl ⟨by rfl, by intro w hSw; go_simp; try with_reducible rfl⟩
        · assumption
        try simp only [Act.put, List.setIfInBounds_toArray, List.set_cons_zero, List.set_cons_succ]
        apply wpAnyH_take (i := 25)
        · simp only [List.getElem?_toArray]; rfl
        · kernel_rfl
        · kernel_rfl
        · kernel_rfl
        · exact fun _ _ _ h => h
        · exact Or.inl ⟨by rfl, by intro w hSw; go_simp; try with_reducible rfl⟩
        · assumption
        try simp only [Act.put, List.setIfInBounds_toArray, List.set_cons_zero, List.set_cons_succ]
        apply wpAnyH_take (i := 26)
        · simp only [List.getElem?_toArray]; rfl
        · kernel_rfl
        · kernel_rfl
        · kernel_rfl
        · exact fun _ _ _ h => h
        · exact yields_ev (by rfl) _ rfl _ rfl HLX.out
        · assumption
        try simp only [Act.put, List.setIfInBounds_toArray, List.set_cons_zero, List.set_cons_succ]
        apply wpAnyH_take (i := 27)
        · simp only [List.getElem?_toArray]; rfl
        · kernel_rfl
        · kernel_rfl
        · kernel_rfl
        · exact fun _ _ _ h => h
        · exact yields_ev (by rfl) _ rfl _ rfl HLX.out
        · assumption
        try simp only [Act.put, List.setIfInBounds_toArray, List.set_cons_zero, List.set_cons_succ]
        apply wpAnyH_ready (rs := [28])
        · kernel_rfl
        · simp
        apply AllReadyH.cons (hs := AllReadyH.nil)
        · simp only [List.getElem?_toArray]; rfl
        intro K hK
        rw [if_pos (by rfl)]
        go_simp
        refine (HSS.out _ HSD.out.2.2).mono ?_; rintro e wE ⟨rfl, hkE⟩
        have HSE := Lib.hid (HSD.out.keeps hkE)
        clear hkE
        go_wp2_with fail
        refine hK.out _ _ ?_ (fun hHeld => ?_)
        · exact HSE.out
        clear hK K
        try simp only [Act.put, List.setIfInBounds_toArray, List.set_cons_zero, List.set_cons_succ]
        apply wpAnyH_take (i := 29)
        · simp only [List.getElem?_toArray]; rfl
        · kernel_rfl
        · kernel_rfl
        · kernel_rfl
        · exact fun _ _ _ h => h
        · exact Or.inl ⟨by rfl, by intro w hSw; go_simp; try with_reducible rfl⟩
        · assumption
        try simp only [Act.put, List.setIfInBounds_toArray, List.set_cons_zero, List.set_cons_succ]
        apply wpAnyH_take (i := 30)
        · simp only [List.getElem?_toArray]; rfl
        · kernel_rfl
        · kernel_rfl
        · kernel_rfl
        · exact fun _ _ _ h => h
        · exact Or.inl ⟨by rfl, by intro w hSw; go_simp; try with_reducible rfl⟩
        · assumption
        try simp only [Act.put, List.setIfInBounds_toArray, List.set_cons_zero, List.set_cons_succ]
        apply wpAnyH_ready (rs := [31])
        · kernel_rfl
        · simp
        apply AllReadyH.cons (hs := AllReadyH.nil)
        · simp only [List.getElem?_toArray]; rfl
        intro K hK
        rw [if_pos (by rfl)]
        go_simp
        refine (HAW.out _ HSE.out.2.2).mono ?_; rintro e wF ⟨rfl, hkF⟩
        have HSF := Lib.hid (HSE.out.keeps hkF)
        clear hkF
        go_wp2_with fail
        refine hK.out _ _ ?_ (fun hHeld => ?_)
        · exact HSF.out
        clear hK K
        try simp only [Act.put, List.setIfInBounds_toArray, List.set_cons_zero, List.set_cons_succ]
        apply wpAnyH_take (i := 32)
        · simp only [List.getElem?_toArray]; rfl
        · kernel_rfl
        · kernel_rfl
        · kernel_rfl
        · exact fun _ _ _ h => h
        · exact Or.inl ⟨by rfl, by intro w hSw; go_simp; try with_reducible rfl⟩
        · assumption
        try simp only [Act.put, List.setIfInBounds_toArray, List.set_cons_zero, List.set_cons_succ]
        apply wpAnyH_take (i := 33)
        · simp only [List.getElem?_toArray]; rfl
        · kernel_rfl
        · kernel_rfl
        · kernel_rfl
        · exact fun _ _ _ h => h
        · exact Or.inl ⟨by rfl, by intro w hSw; go_simp; try with_reducible rfl⟩
        · assumption
        try simp only [Act.put, List.setIfInBounds_toArray, List.set_cons_zero, List.set_cons_succ]
        refine wpAnyH_done (by kernel_rfl) ?_ _
        refine NoPanic.normal ?_
        go_wp2_with fail
        go_ret
        exact ⟨rfl, HK4.out.trans HSF.out.2.2 (FSub.refl _ _)⟩
end Go.Proofs.YtibppobibncpdaaGreatDoor
