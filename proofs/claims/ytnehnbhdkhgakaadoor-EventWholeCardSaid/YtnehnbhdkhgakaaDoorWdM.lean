/-
  EventWhole's walk. (Printed by draft/genwhole5.py.)
-/
import Derived.Test.YtnehnbhdkhgakaaDoorG33
set_option linter.unusedSimpArgs false
set_option linter.unusedVariables false
namespace Go.Proofs.YtnehnbhdkhgakaaDoor
open Go.RowKit
theorem cut_torn {x : Ev} (hx : x.In) (hg : evGood x = true) {M : List UInt8} (hM : nb M = evPut x) {n : Nat} (hn : n < M.length) : evTkE (M.take n) = 5 := by
  refine tk_torn hx hg (t := nb (M.drop n)) ?_ ?_
  · intro h
    have := congrArg List.length h
    rw [nb_length, List.length_drop] at this
    simp at this
    omega
  · rw [← nb_app, List.take_append_drop, hM]
theorem more_none {x : Ev} (hx : x.In) (hg : evGood x = true) {M : List UInt8} (hM : nb M = evPut x) (c : UInt8) : evTkE (M ++ [c]) = 4 :=
  tk_behind hx hg (ys := nb [c]) (by simp [nb]) (by rw [nb_app, hM])
theorem same_bytes {x y : Ev} (hx : x.In) (hy : y.In) (gx : evGood x = true) (gy : evGood y = true) {M K : List UInt8} (hM : nb M = evPut x) (hK : nb K = evPut y) : ((bs M).toList == (bs K).toList) = evSame x y := by
  by_cases h : x = y
  · subst h
    have e : bs M = bs K := by rw [← str_nb, ← str_nb, hM, hK]
    rw [e, evSame_self]; simp
  · have e1 : evSame x y = false := eqB_no h
    rw [e1]
    have e2 : ¬ (bs M).toList = (bs K).toList := by
      intro e
      apply h
      have e3 : bs M = bs K := by
        rw [toL_bs, toL_bs] at e
        rw [e]
      have e4 := bs_inj e3
      exact evPut_inj hx hy gx gy hM (by rw [e4, hK])
    simpa using e2
theorem put_two (w : World) (hG : Glob4 w) (y : Ev) (hy : y.In) {N : Nat} (ty ry : Value) (hu : EvAt N w ty ry y) (hN : N ≤ w.heap.size) :
    ∃ (S2 : ByteArray) (E2 : Int), (E2 = 4 ∨ (E2 = 0 ∧ evGood y = true ∧ ∃ K : List UInt8, nb K = evPut y ∧ S2 = bs K)) ∧ Calls Tryd.prog 12 #[.agg (evC y ty ry)] w fun e w' => e = .returned (.tuple #[.string S2, .int .i64 E2]) ∧ Keeps [] w w' := by
  have h := Put5_any w hG y hy ty ry hu hN
  rcases bool_two (evGood y) with hg | hg
  · have he : evErr y = 0 := by simp [evErr, hg]
    rw [if_pos hg, he] at h
    obtain ⟨K, hK⟩ := ev_bytes hy hg
    rw [← hK, str_nb] at h
    exact ⟨_, _, .inr ⟨rfl, hg, K, hK, rfl⟩, h⟩
  · have he : evErr y = 4 := by simp [evErr, hg]
    rw [if_neg (by simp [hg]), he] at h
    exact ⟨_, _, .inl rfl, h⟩
set_option maxHeartbeats 8000000 in
set_option maxRecDepth 100000 in
theorem EventWhole_any (w : World) (hG : Glob4 w) (x y : Ev) (hx : x.In) (hy : y.In) {N : Nat} (tx rd ty ry : Value) (ht : EvAt N w tx rd x) (hu : EvAt N w ty ry y) (hN : N ≤ w.heap.size) (z0 z1 : Int) (a0 : 0 ≤ z0) (a1 : z0 < 65536) (_c0 : 0 ≤ z1) (_c1 : z1 < 65536) :
    Calls Tryd.prog 5 #[.agg (evC x tx rd), .agg (evC y ty ry), .agg #[.int .u16 z0, .int .u16 z1]] w fun e w' => e = .returned (.bool true) ∧ Keeps [] w w' := by
  have hx1 := ht.t.one
  have hx2 := ht.r.one
  have hy1 := hu.t.one
  have hy2 := hu.r.one
  have hk0 := (((Keeps.refl [] w).alloc (.cells (evC x tx rd) 32)).alloc (.cells (evC y ty ry) 32)).alloc (.cells #[.int .u16 z0, .int .u16 z1] 46)
  have hbx : (((w.alloc (.cells (evC x tx rd) 32)).alloc (.cells (evC y ty ry) 32)).alloc (.cells #[.int .u16 z0, .int .u16 z1] 46)).heap[w.heap.size]? = some (.cells (evC x tx rd) 32) := heap_alloc_lt (heap_alloc_lt (heap_alloc_new w _))
  have hby : (((w.alloc (.cells (evC x tx rd) 32)).alloc (.cells (evC y ty ry) 32)).alloc (.cells #[.int .u16 z0, .int .u16 z1] 46)).heap[w.heap.size + 1]? = some (.cells (evC y ty ry) 32) := heap_alloc_lt (heap_alloc_at (by simp))
  have hbz : (((w.alloc (.cells (evC x tx rd) 32)).alloc (.cells (evC y ty ry) 32)).alloc (.cells #[.int .u16 z0, .int .u16 z1] 46)).heap[w.heap.size + 1 + 1]? = some (.cells #[.int .u16 z0, .int .u16 z1] 46) := heap_alloc_at (by simp)
  have HK0 := Lib.hid hk0; have HT0 := Lib.hid (ht.new hk0 hN); have HU0 := Lib.hid (hu.new hk0 hN)
  have hn0 := Nat.le_trans hN hk0.size
  have HG0 := Lib.hid (hG.new hk0)
  clear hk0 ht hu hN hG
  go_enter Tryd.func5, Tryd.ntmps5
  go_wp2_with ((with_reducible apply wpList_load_ev); exact rfl; (first | assumption | (refine heap_alloc_lt ?_; assumption) | (refine heap_alloc_lt (heap_alloc_lt ?_); assumption) | exact heap_alloc_at (by simp)); exact rfl)
  generalize ((w.alloc (.cells (evC x tx rd) 32)).alloc (.cells (evC y ty ry) 32)).alloc (.cells #[.int .u16 z0, .int .u16 z1] 46) = w0 at *
  generalize w.heap.size = b at *
  refine (few5_any w0 x tx rd HT0.out hn0).mono ?_; rintro z w1 ⟨fb, rfl, hk1⟩
  have hbx := hk1.heap hbx (by simp)
  have hby := hk1.heap hby (by simp)
  have hbz := hk1.heap hbz (by simp)
  have HK1 := Lib.hid (HK0.out.trans hk1 (FSub.refl _ _))
  have HT1 := Lib.hid (HT0.out.new hk1 hn0)
  have HU1 := Lib.hid (HU0.out.new hk1 hn0)
  have HG1 := Lib.hid (HG0.out.new hk1)
  have hn1 := Nat.le_trans hn0 hk1.size
  clear hk1 HT0 HU0 HG0 HK0 hn0
  cases fb with
  | false =>
    go_wp2_with fail
    refine (awake5_any w1 (HG1.out)).mono ?_; rintro z wa ⟨rfl, hka⟩
    have HKZ := Lib.hid (HK1.out.trans hka (FSub.refl _ _))
    clear hka
    go_wp2_with fail
    go_ret
    exact ⟨rfl, HKZ.out⟩
  | true =>
    go_wp2_with ((with_reducible apply wpList_load_evG); exact rfl; exact rfl; assumption; exact rfl)
    refine (few5_any w1 y ty ry HU1.out hn1).mono ?_; rintro z w2 ⟨fb, rfl, hk2⟩
    have hbx := hk2.heap hbx (by simp)
    have hby := hk2.heap hby (by simp)
    have hbz := hk2.heap hbz (by simp)
    have HK2 := Lib.hid (HK1.out.trans hk2 (FSub.refl _ _))
    have HT2 := Lib.hid (HT1.out.new hk2 hn1)
    have HU2 := Lib.hid (HU1.out.new hk2 hn1)
    have HG2 := Lib.hid (HG1.out.new hk2)
    have hn2 := Nat.le_trans hn1 hk2.size
    clear hk2 HT1 HU1 HG1 HK1 hn1
    cases fb with
    | false =>
      go_wp2_with fail
      refine (awake5_any w2 (HG2.out)).mono ?_; rintro z wa ⟨rfl, hka⟩
      have HKZ := Lib.hid (HK2.out.trans hka (FSub.refl _ _))
      clear hka
      go_wp2_with fail
      go_ret
      exact ⟨rfl, HKZ.out⟩
    | true =>
      have hP := Put5_any w2 HG2.out x hx tx rd HT2.out hn2
      rcases bool_two (evGood x) with hg | hg
      · have he : evErr x = 0 := by simp [evErr, hg]
        rw [if_pos hg, he] at hP
        obtain ⟨M, hM⟩ := ev_bytes hx hg
        rw [← hM, str_nb] at hP
        have HP := Lib.hid hP
        clear hP
        go_wp2_with ((with_reducible apply wpList_load_ev); exact rfl; (first | assumption | (refine heap_alloc_lt ?_; assumption) | (refine heap_alloc_lt (heap_alloc_lt ?_); assumption) | exact heap_alloc_at (by simp)); exact rfl)
        refine HP.out.mono ?_; rintro z w3 ⟨rfl, hk3⟩
        have hbx := hk3.heap hbx (by simp)
        have hby := hk3.heap hby (by simp)
        have hbz := hk3.heap hbz (by simp)
        have HK3 := Lib.hid (HK2.out.trans hk3 (FSub.refl _ _))
        have HT3 := Lib.hid (HT2.out.new hk3 hn2)
        have HU3 := Lib.hid (HU2.out.new hk3 hn2)
        have HG3 := Lib.hid (HG2.out.new hk3)
        have hn3 := Nat.le_trans hn2 hk3.size
        clear hk3 HT2 HU2 HG2 HK2 hn2
        obtain ⟨S2, E2, hE2, hQ⟩ := put_two w3 HG3.out y hy ty ry HU3.out hn3
        have HQ := Lib.hid hQ
        have HE2 := Lib.hid hE2
        clear hQ HP hE2
        go_wp2_with ((with_reducible apply wpList_load_ev); exact rfl; (first | assumption | (refine heap_alloc_lt ?_; assumption) | (refine heap_alloc_lt (heap_alloc_lt ?_); assumption) | exact heap_alloc_at (by simp)); exact rfl)
        refine HQ.out.mono ?_; rintro z w4 ⟨rfl, hk4⟩
        have hbx := hk4.heap hbx (by simp)
        have hby := hk4.heap hby (by simp)
        have hbz := hk4.heap hbz (by simp)
        have HK4 := Lib.hid (HK3.out.trans hk4 (FSub.refl _ _))
        have HT4 := Lib.hid (HT3.out.new hk4 hn3)
        have HU4 := Lib.hid (HU3.out.new hk4 hn3)
        have HG4 := Lib.hid (HG3.out.new hk4)
        have hn4 := Nat.le_trans hn3 hk4.size
        clear hk4 HT3 HU3 HG3 HK3 hn3
        clear HQ
        have hl0 : 0 < M.length := by
          have := congrArg List.length hM
          rw [nb_length] at this
          simp [evPut] at this
          omega
        have hl1 : M.length ≤ 525 := by have := evPut_len hg; rw [← hM, nb_length] at this; omega
        have hsz : (bs M).size = M.length := bs_size M
        have z2 : ¬ ((bs M).size : Int) = 0 := by omega
        have z3 : ¬ 600 < ((bs M).size : Int) := by omega
        have z4 : ¬ (M.length : Int) = 0 := by omega
        have z5 : ¬ 600 < (M.length : Int) := by omega
        have z6 : ¬ M.length = 0 := by omega
        have z7 : ((M.length : Int) == 0) = false := beq_eq_false_iff_ne.2 z4
        have m1 : 0 ≤ z0 % (M.length : Int) := Int.emod_nonneg _ z4
        have m2 : z0 % (M.length : Int) < (M.length : Int) := Int.emod_lt_of_pos z0 (by omega)
        have m3 : z0 % (M.length : Int) ≤ (M.length : Int) := by omega
        generalize hS : bs M = S at *
        have d0 : w4.cell? ⟨b + 1 + 1, 0, none⟩ = some (.int .u16 z0) := by simp [World.cell?, hbz]
        have d1 : w4.cell? ⟨b + 1 + 1, 1, none⟩ = some (.int .u16 z1) := by simp [World.cell?, hbz]
        go_wp2_with fail
        obtain ⟨n, hn⟩ : ∃ n : Nat, (z0 % (M.length : Int)).toNat = n := ⟨_, rfl⟩
        have hnl : n < M.length := by have m4 := Int.emod_lt_of_pos z0 (show (0 : Int) < (M.length : Int) by omega); rw [← hn]; omega
        rw [hn]
        have he1 : S.extract 0 n = bs (M.take n) := by rw [← hS, bs_piece]; simp
        rw [he1]
        refine (fails5_any w4 HG4.out (M.take n) (by have := List.length_take_le n M; omega) 5 (cut_torn hx hg hM hnl) (by decide)).mono ?_; rintro z w5 ⟨rfl, hk5⟩
        have hbx := hk5.heap hbx (by simp)
        have hby := hk5.heap hby (by simp)
        have hbz := hk5.heap hbz (by simp)
        have HK5 := Lib.hid (HK4.out.trans hk5 (FSub.refl _ _))
        have HT5 := Lib.hid (HT4.out.new hk5 hn4)
        have HU5 := Lib.hid (HU4.out.new hk5 hn4)
        have HG5 := Lib.hid (HG4.out.new hk5)
        have hn5 := Nat.le_trans hn4 hk5.size
        clear hk5 HT4 HU4 HG4 HK4 hn4
        have d1 : w5.cell? ⟨b + 1 + 1, 1, none⟩ = some (.int .u16 z1) := by simp [World.cell?, hbz]
        clear d0
        obtain ⟨c, hc⟩ : ∃ c : UInt8, (c.toNat : Int) = z1 % 256 := ⟨UInt8.ofNat (z1 % 256).toNat, by
          have q0 : 0 ≤ z1 % 256 := Int.emod_nonneg _ (by omega)
          have q1 : z1 % 256 < 256 := Int.emod_lt_of_pos _ (by omega)
          have q2 : (z1 % 256).toNat < 256 := by omega
          simp [UInt8.toNat_ofNat']; omega⟩
        have hT1 : strOfNums [z1 % 256] = bs [c] := by rw [← str_nb]; simp [nb, hc]
        have hcv := one_string w5 (z1 % 256)
        rw [hT1] at hcv
        have happ : S ++ bs [c] = bs (M ++ [c]) := by rw [← hS, bs_app]
        have hsc : (bs [c]).size = 1 := by rw [bs_size]; rfl
        have hE4 := more_none hx hg hM c
        have hTk := fun w hG => Take5_any w hG (M ++ [c]) (by simp; omega)
        have hX4 : evTkX (M ++ [c]) = evZero := by unfold evTkX; rw [hE4, if_neg (by decide)]
        unfold TkPost at hTk
        rw [hX4, hE4, ← happ] at hTk
        have HTK := Lib.hid hTk
        have hsb : ∀ K : List UInt8, evGood y = true → nb K = evPut y → (S.toList == (bs K).toList) = evSame x y := by
          intro K gy hK
          rw [← hS]
          exact same_bytes hx hy hg gy hM hK
        have HSB := Lib.hid hsb
        generalize bs [c] = T at *
        have hka5 := (Keeps.refl [] w5).alloc (.cells #[.int .u8 (z1 % 256)] 5)
        clear hTk hX4 hE4 happ hT1 hc hsb hM hS he1
        have HKA5 := Lib.hid hka5
        have hszT : ((S.size + T.size : Nat) : Int) ≤ 9223372036854775807 := by omega
        clear hka5
        go_wp2_with fail
        have HG5' := Lib.hid (HG5.out.new HKA5.out)
        refine (HTK.out _ HG5'.out).mono ?_; rintro z w6 ⟨tx', rd', rfl, hx', hk6'⟩
        have hk6 := HKA5.out.trans hk6' (FSub.refl _ _)
        have hbx := hk6.heap hbx (by simp)
        have hby := hk6.heap hby (by simp)
        have hbz := hk6.heap hbz (by simp)
        have HK6 := Lib.hid (HK5.out.trans hk6 (FSub.refl _ _))
        have HT6 := Lib.hid (HT5.out.new hk6 hn5)
        have HU6 := Lib.hid (HU5.out.new hk6 hn5)
        have HG6 := Lib.hid (HG5.out.new hk6)
        have hn6 := Nat.le_trans hn5 hk6.size
        clear hk6 HT5 HU5 HG5 HK5 hn5
        have hx1' := hx'.t.one
        have hx2' := hx'.r.one
        have hka := (Keeps.refl [] w6).alloc (.cells #[.int .u8 0, .int .u8 0, .int .u16 0, .int .u8 0, .int .u8 0, .int .u8 0, .int .u16 0, .int .u16 0, .int .u8 0, .int .u16 0, .slice none 0 0, .slice none 0 0, .int .u8 0, .int .i64 0, .int .i64 0, .int .i64 0, .bool false, .bool false, .bool false] 32)
        have HKA := Lib.hid hka
        clear hx' HTK HKA5 HG5' hk6' hka hbz d1
        go_wp2_with ((with_reducible apply wpList_put_ev); exact rfl; exact rfl; (first | assumption | (refine heap_alloc_lt ?_; assumption) | (refine heap_alloc_lt (heap_alloc_lt ?_); assumption) | exact heap_alloc_at (by simp)); exact ⟨rfl, rfl⟩; (refine evC_one _ ?_ ?_ <;> first | rfl | assumption))
        intro W7 hb7 hk7'
        have hk7 : Keeps [] w6 W7 := HKA.out.trans hk7' (fun q hq => .inr (by simp at hq; omega))
        have hbx := hk7.heap hbx (by simp)
        have hby := hk7.heap hby (by simp)
        have HK7 := Lib.hid (HK6.out.trans hk7 (FSub.refl _ _))
        have HT7 := Lib.hid (HT6.out.new hk7 hn6)
        have HU7 := Lib.hid (HU6.out.new hk7 hn6)
        have HG7 := Lib.hid (HG6.out.new hk7)
        have hn7 := Nat.le_trans hn6 hk7.size
        clear hk7 HT6 HU6 HG6 HK6 hn6
        clear HKA hk7' hb7
        rcases HE2.out with rfl | ⟨rfl, gy, K, hK, rfl⟩
        · clear HE2 HSB
          go_wp2_with fail
          refine (awake5_any W7 (HG7.out)).mono ?_; rintro z wa ⟨rfl, hka⟩
          have HKZ := Lib.hid (HK7.out.trans hka (FSub.refl _ _))
          clear hka
          go_wp2_with fail
          go_ret
          exact ⟨rfl, HKZ.out⟩
        · have hs := HSB.out K gy hK
          clear HE2 HSB gy hK
          have hsm := Same5_any W7 x y tx rd ty ry HT7.out HU7.out hn7 hn7
          have HSM := Lib.hid hsm
          clear hsm
          generalize evSame x y = q at *
          generalize bs K = S2 at *
          go_wp2_with ((with_reducible apply wpList_load_evG); exact rfl; exact rfl; assumption; exact rfl)
          refine HSM.out.mono ?_; rintro z w8 ⟨rfl, hk8⟩
          have HK8 := Lib.hid (HK7.out.trans hk8 (FSub.refl _ _))
          have HG8 := Lib.hid (HG7.out.new hk8)
          clear hk8 HSM HT7 HU7 HG7 HK7
          cases q <;> go_wp2_with fail
          all_goals
            refine (awake5_any w8 (HG8.out)).mono ?_; rintro z wa ⟨rfl, hka⟩
            have HKZ := Lib.hid (HK8.out.trans hka (FSub.refl _ _))
            clear hka
            go_wp2_with fail
            go_ret
            exact ⟨rfl, HKZ.out⟩
      · have he : evErr x = 4 := by simp [evErr, hg]
        rw [if_neg (by simp [hg]), he] at hP
        have HP := Lib.hid hP
        clear hP
        go_wp2_with ((with_reducible apply wpList_load_ev); exact rfl; (first | assumption | (refine heap_alloc_lt ?_; assumption) | (refine heap_alloc_lt (heap_alloc_lt ?_); assumption) | exact heap_alloc_at (by simp)); exact rfl)
        refine HP.out.mono ?_; rintro z w3 ⟨rfl, hk3⟩
        have hbx := hk3.heap hbx (by simp)
        have hby := hk3.heap hby (by simp)
        have hbz := hk3.heap hbz (by simp)
        have HK3 := Lib.hid (HK2.out.trans hk3 (FSub.refl _ _))
        have HT3 := Lib.hid (HT2.out.new hk3 hn2)
        have HU3 := Lib.hid (HU2.out.new hk3 hn2)
        have HG3 := Lib.hid (HG2.out.new hk3)
        have hn3 := Nat.le_trans hn2 hk3.size
        clear hk3 HT2 HU2 HG2 HK2 hn2
        obtain ⟨S2, E2, hE2, hQ⟩ := put_two w3 HG3.out y hy ty ry HU3.out hn3
        have HQ := Lib.hid hQ
        have HE2 := Lib.hid hE2
        clear hQ HP hE2
        go_wp2_with ((with_reducible apply wpList_load_ev); exact rfl; (first | assumption | (refine heap_alloc_lt ?_; assumption) | (refine heap_alloc_lt (heap_alloc_lt ?_); assumption) | exact heap_alloc_at (by simp)); exact rfl)
        refine HQ.out.mono ?_; rintro z w4 ⟨rfl, hk4⟩
        have hbx := hk4.heap hbx (by simp)
        have hby := hk4.heap hby (by simp)
        have hbz := hk4.heap hbz (by simp)
        have HK4 := Lib.hid (HK3.out.trans hk4 (FSub.refl _ _))
        have HT4 := Lib.hid (HT3.out.new hk4 hn3)
        have HU4 := Lib.hid (HU3.out.new hk4 hn3)
        have HG4 := Lib.hid (HG3.out.new hk4)
        have hn4 := Nat.le_trans hn3 hk4.size
        clear hk4 HT3 HU3 HG3 HK3 hn3
        clear HQ
        go_wp2_with fail
        refine (awake5_any w4 (HG4.out)).mono ?_; rintro z wa ⟨rfl, hka⟩
        have HKZ := Lib.hid (HK4.out.trans hka (FSub.refl _ _))
        clear hka
        go_wp2_with fail
        go_ret
        exact ⟨rfl, HKZ.out⟩
end Go.Proofs.YtnehnbhdkhgakaaDoor
