/-
  The document's micros.
-/
import Derived.Test.YtffldnjjijckcaaGreatDoorR20
import Derived.Test.YtffldnjjijckcaaGreatDoorR21
import Derived.Test.YtffldnjjijckcaaGreatDoorR11
set_option linter.unusedSimpArgs false
set_option linter.unusedVariables false
namespace Go.Proofs.YtffldnjjijckcaaGreatDoor
open Go.RowKit
theorem sm_ok {w : List UInt8} (h : 0 ≤ sm w) : sm w = num7 w ∧ num7 w ≤ 65535 := by
  unfold sm at h ⊢
  split at h
  · omega
  · rename_i hh; rw [if_neg hh]; exact ⟨rfl, by omega⟩
theorem sm_num {w : List UInt8} (h0 : 0 ≤ num7 w) (h1 : num7 w ≤ 65535) : sm w = num7 w := by unfold sm; rw [if_neg (by omega)]
theorem rdNum_sm {most : Int} {y : List UInt8} {r : Wds} (h : 0 ≤ sm y) (h1 : sm y ≤ most) : rdNum most (y :: r) = some (sm y, r) := by
  have := sm_ok h
  rw [this.1] at h h1 ⊢
  show (if 0 ≤ num7 y ∧ num7 y ≤ most then some (num7 y, r) else none) = _
  rw [if_pos ⟨h, h1⟩]
theorem rdNum_no {most : Int} (hm : most ≤ 65535) {y : List UInt8} {r : Wds} (h : sm y < 0 ∨ most < sm y) : rdNum most (y :: r) = none := by
  show (if 0 ≤ num7 y ∧ num7 y ≤ most then some (num7 y, r) else none) = _
  rw [if_neg]
  intro hh
  rw [sm_num hh.1 (by omega)] at h
  omega
theorem mic_one (x : List UInt8) : rdMic [x] = none := by
  unfold rdMic
  split
  · rfl
  · split
    · rfl
    · rfl
theorem has_eq (w x : List UInt8) (r : Wds) : rdHas w (x :: r) = decide (x = w) := by
  unfold rdHas
  simp only [List.head?_cons]
  by_cases h : x = w
  · subst h; simp
  · have : (some x == some w) = false := by rw [beq_eq_false_iff_ne]; simpa using h
    rw [this]; simp [h]
theorem read_ne : ¬ appendL = readL := by decide
theorem mic_other {x : List UInt8} {r : Wds} (h1 : x ≠ readL) (h2 : x ≠ appendL) : rdMic (x :: r) = none := by
  unfold rdMic
  rw [has_eq, has_eq, if_neg (by simpa using h1), if_neg (by simpa using h2)]
theorem mic_bad {x y : List UInt8} {r : Wds} (h : sm y < 0 ∨ 7 < sm y) : rdMic (x :: y :: r) = none := by
  unfold rdMic
  simp only [List.tail_cons, rdNum_no (show (7 : Int) ≤ 65535 by decide) h]
  split
  · rfl
  · split <;> rfl
theorem mic_read {y : List UInt8} {r : Wds} (h0 : 0 ≤ sm y) (h1 : sm y ≤ 7) : rdMic (readL :: y :: r) = some (⟨true, sm y, 0⟩, r) := by
  unfold rdMic
  rw [has_eq]
  simp [rdNum_sm h0 h1]
theorem mic_app_short (y : List UInt8) : rdMic [appendL, y] = none := by
  unfold rdMic
  rw [has_eq, has_eq]
  simp only [read_ne, decide_false, decide_true, if_true, List.tail_cons]
  cases h : rdNum 7 [y] with
  | none => rfl
  | some p =>
    obtain ⟨k, r⟩ := p
    have := rdNum_len h
    simp at this
    subst this
    rfl
theorem mic_app_bad {y z : List UInt8} {r : Wds} (h : sm z < 0) : rdMic (appendL :: y :: z :: r) = none := by
  by_cases hy : sm y < 0 ∨ 7 < sm y
  · exact mic_bad hy
  · have h1 := rdNum_sm (most := 7) (y := y) (r := z :: r) (by omega) (by omega)
    have h2 := rdNum_no (most := 65535) (Int.le_refl _) (y := z) (r := r) (.inl h)
    unfold rdMic
    rw [has_eq, has_eq]
    simp [read_ne, h1, h2]
theorem mic_app {y z : List UInt8} {r : Wds} (h0 : 0 ≤ sm y) (h1 : sm y ≤ 7) (h2 : 0 ≤ sm z) : rdMic (appendL :: y :: z :: r) = some (⟨false, sm y, sm z⟩, r) := by
  unfold rdMic
  rw [has_eq, has_eq]
  simp [read_ne, rdNum_sm h0 h1, rdNum_sm h2 (sm_bounds z).2]
def MicsPost (L : Wds) (w : World) (e : Ending) (w' : World) : Prop := ∃ v, e = .returned (.tuple #[v, .bool (rdMics L).isSome]) ∧ w'.ownsRow w.heap.size 70 3 v ((rdMics L).getD []).length (micsC ((rdMics L).getD [])) ∧ Keeps [] w w'
theorem MicsPost.no {L : Wds} {w w' : World} (h : rdMics L = none) (hk : Keeps [] w w') : MicsPost L w (.returned (.tuple #[.slice none 0 0, .bool false])) w' :=
  ⟨.slice none 0 0, by rw [h]; rfl, by rw [h]; exact World.ownsRow_nil _ _ _ _, hk⟩
def lenOf : Value → Nat
  | .slice _ n _ => n
  | _ => 0
structure MicSt (L : Wds) (N : Nat) (w : World) (l o : Value) (rest : Wds) (t : List Mic) (W : World) : Prop where
  sl : Strs N W l rest
  row : W.ownsRow w.heap.size 70 3 o t.length (micsC t)
  eq : rdMics L = (rdMics rest).map fun q => t ++ q
  len : t.length + rest.length ≤ 90000
  keeps : Keeps [] w W
theorem MicSt.no {L : Wds} {N : Nat} {w W : World} {l o : Value} {rest : Wds} {t : List Mic} (h : MicSt L N w l o rest t W) (hr : rest ≠ []) (hn : rdMic rest = none) : rdMics L = none := by
  rw [h.eq, rdMics_none hr hn]; rfl
theorem MicSt.next {L : Wds} {N : Nat} {w W : World} {l o : Value} {rest : Wds} {t : List Mic} (h : MicSt L N w l o rest t W) (hr : rest ≠ []) {m : Mic} {r : Wds} (hn : rdMic rest = some (m, r)) : rdMics L = (rdMics r).map fun q => (t ++ [m]) ++ q := by
  rw [h.eq, rdMics_some hr hn, Option.map_map]
  congr 1
  funext q
  simp
theorem MicSt.add {L : Wds} {N : Nat} {w W : World} {l o : Value} {rest : Wds} {t : List Mic} (h : MicSt L N w l o rest t W) {W2 : World} (hk2 : Keeps [] W W2) (m : Mic) (l2 : Value) (r : Wds) (hs : Strs N W l2 r)
    (he : rdMics L = (rdMics r).map fun q => (t ++ [m]) ++ q) (hlen : r.length + 1 ≤ rest.length) (hN : N ≤ w.heap.size) :
    ∃ v' w', (Builtin.append_ #[27, 27] 27 #[o, .slice (some ⟨W2.heap.size, 0, none⟩) 1 1]).run Tryz.prog (W2.alloc (.cells #[.bool m.rd, .int .u8 m.key, .int .u16 m.v] 70)) = .ok v' w' ∧ MicSt L N w l2 v' r (t ++ [m]) w' := by
  have hl := h.len
  obtain ⟨v', w', hr, ho, hk3⟩ := append_micB W2 w.heap.size (Nat.le_trans h.keeps.size hk2.size) o t.length (micsC t) (row_old h.row hk2 (by simp)) (by omega) m
  have hF : ∀ q ∈ own o, w.heap.size ≤ q := fun q hq => (row_base h.row q hq).1
  refine ⟨v', w', hr, ⟨(hs.keeps hk2).others hk3 (fun g hg => Nat.le_trans hN (hF g hg)), ?_, he, by simp; omega, (h.keeps.trans hk2 (FSub.refl _ _)).trans hk3 (fun q hq => .inr (hF q hq))⟩⟩
  rw [micsC_snoc]
  simpa using ho
set_option maxHeartbeats 16000000 in
set_option maxRecDepth 100000 in
theorem r6micros_any (w : World) (v : Value) (L : Wds) {N : Nat} (h : Strs N w v L) (hN : N ≤ w.heap.size) (hL : L.length ≤ 90000) (hb : ∀ x ∈ L, x.length ≤ 1000000) :
    Calls Tryz.prog 39 #[v] w (MicsPost L w) := by
  have H0 : Hid (MicSt L N w v (.slice none 0 0) L [] w) := Lib.hid ⟨h, World.ownsRow_nil _ _ _ _, by simp, by simpa using hL, Keeps.refl _ _⟩
  have HBB := Lib.hid hb
  obtain ⟨a0, c0, rfl, hc0, hm0⟩ := h.shape
  clear h hb
  go_enter Tryz.func39, Tryz.ntmps39
  go_wp2_with fail
  go_loopw [0, 4] (fun l o wr => ∃ (rest : Wds) (t : List Mic), MicSt L N w l o rest t wr ∧ ∀ x ∈ rest, x ∈ L) (fun l _ _ => lenOf l)
  case atStart => exact ⟨L, [], H0.out, fun _ h => h⟩
  case round =>
    clear H0
    obtain ⟨rest, t, hst, hin⟩ := hrel
    obtain ⟨a, c, rfl, hc, hm⟩ := hst.sl.shape
    have HS := Lib.hid hst
    have HIN := Lib.hid hin
    have hln := hst.len
    clear hst hin
    match rest, hc, hm, hln, HS, HIN with
    | [], hc, hm, hln, HS, HIN =>
      have he : rdMics L = some t := by rw [HS.out.eq, rdMics_nil]; simp
      have HE := Lib.hid he
      clear he
      simp only [List.length_nil] at *
      go_wp2_with fail
      go_ret2
      exact ⟨_, by rw [HE.out]; rfl, by rw [HE.out]; exact HS.out.row, HS.out.keeps⟩
    | [x], hc, hm, hln, HS, HIN =>
      have he := HS.out.no (by simp) (mic_one x)
      have HE := Lib.hid he
      clear he
      simp only [List.length_cons, List.length_nil] at *
      go_wp2_with fail
      go_ret2
      exact MicsPost.no HE.out HS.out.keeps
    | x :: y :: r, hc, hm, hln, HS, HIN =>
      obtain ⟨-, -, -, bk, o, rfl, hbN, hcell, hdrop⟩ := HS.out.sl.at (by simp)
      have h0 : wr.cell? ⟨bk, o, none⟩ = some (.string (bs x)) := hcell 0 (by simp)
      have h1 : wr.cell? ⟨bk, o + 1, none⟩ = some (.string (bs y)) := hcell 1 (by simp)
      have hyb := HBB.out y (HIN.out y (by simp))
      have hsm := fun w => r6small_any w y (by rw [bs_size]; omega)
      have HSM := Lib.hid hsm
      have HD := Lib.hid hdrop
      have HCL := Lib.hid hcell
      clear hsm hdrop hcell hyb
      simp only [List.length_cons] at hc hln
      have z1 : 2 ≤ c := by omega
      have z2 : (c : Int) ≤ 9223372036854775807 := by omega
      have hsb := sm_bounds y
      by_cases hxr : x = readL
      · subst hxr
        have t1 : ((bs readL).toList == [114, 101, 97, 100]) = true := by rw [toL_bs]; rfl
        have t2 : ((bs readL).toList == [97, 112, 112, 101, 110, 100]) = false := by rw [toL_bs]; decide
        by_cases hbad : sm y < 0 ∨ 7 < sm y
        · have HE := Lib.hid (HS.out.no (by simp) (mic_bad hbad))
          generalize sm y = kk at *
          generalize bs readL = X at *
          generalize bs y = Y at *
          have hbad2 : kk < 0 ∨ (¬ kk < 0 ∧ 7 < kk) := by omega
          clear hbad
          rcases hbad2 with q | ⟨q, q2⟩
          all_goals
            go_wp2_with fail
            refine (HSM.out _).mono ?_; rintro e w' ⟨rfl, rfl⟩
            go_wp2_with fail
            go_ret2
            exact MicsPost.no HE.out HS.out.keeps
        · have HNX := Lib.hid (HS.out.next (by simp) (mic_read (y := y) (r := r) (by omega) (by omega)))
          generalize sm y = kk at *
          generalize bs readL = X at *
          generalize bs y = Y at *
          have q1 : ¬ kk < 0 := by omega
          have q2 : ¬ 7 < kk := by omega
          have q3 : IntKind.u8.wrap kk = kk := by simp [IntKind.wrap, IntKind.bits, IntKind.signed]; omega
          obtain ⟨A2, hA2⟩ : ∃ A, (if c = 2 then some (⟨bk, o, none⟩ : Addr) else some ⟨bk, o + 2, none⟩) = A := ⟨_, rfl⟩
          have HA2 := Lib.hid hA2
          clear hbad
          go_wp2_with fail
          refine (HSM.out _).mono ?_; rintro e w' ⟨rfl, rfl⟩
          go_wp2_with ((with_reducible apply wpList_put_row (T := 70) 3); exact rfl; exact rfl; exact heap_alloc_at (by simp); exact ⟨rfl, rfl⟩; kernel_rfl; exact rfl)
          intro W2 hb2 hk2
          have hkq : Keeps [] w' W2 := ((Keeps.refl [] w').alloc _).trans hk2 (fun q hq => .inr (by simp at hq; omega))
          have e0 : W2.cell? ⟨w'.heap.size, 0, none⟩ = some (.bool true) := by simp [World.cell?, hb2]
          have e1 : W2.cell? ⟨w'.heap.size, 1, none⟩ = some (.int .u8 kk) := by simp [World.cell?, hb2]
          have e2 : W2.cell? ⟨w'.heap.size, 2, none⟩ = some (.int .u16 0) := by simp [World.cell?, hb2]
          have hstr := HD.out 2 (by simp) A2 (fun hd => drop_addr (l := readL :: y :: r) HA2.out (by simp; omega) hd)
          obtain ⟨v', w3, hr, hs3⟩ := HS.out.add hkq ⟨true, kk, 0⟩ _ r hstr HNX.out (by simp) hN
          have HR := Lib.hid hr; have HS3 := Lib.hid hs3
          clear hr hs3 hstr hkq hk2 hb2 HS HD HCL h0 h1 HNX HA2 t1 t2
          go_wp2_with (at_builtin; refine wpList_append_run rfl _ _ 27 rfl _ _ _ _ rfl rfl HR.out ?_)
          go_roundw
          case rel => exact ⟨r, _, HS3.out, fun q hq => HIN.out q (by simp [hq])⟩
          case measure => simp [lenOf]; try omega
      · by_cases hxa : x = appendL
        · subst hxa
          have t1 : ((bs appendL).toList == [114, 101, 97, 100]) = false := by rw [toL_bs]; decide
          have t2 : ((bs appendL).toList == [97, 112, 112, 101, 110, 100]) = true := by rw [toL_bs]; rfl
          clear hxr
          match r, hc, hln, HS, HIN, HD, HCL with
          | [], hc, hln, HS, HIN, HD, HCL =>
            have HE := Lib.hid (HS.out.no (by simp) (mic_app_short y))
            generalize bs appendL = X at *
            simp only [List.length_nil] at *
            go_wp2_with fail
            go_ret2
            exact MicsPost.no HE.out HS.out.keeps
          | z :: r2, hc, hln, HS, HIN, HD, HCL =>
            simp only [List.length_cons] at hc hln
            by_cases hbad : sm y < 0 ∨ 7 < sm y
            · have HE := Lib.hid (HS.out.no (by simp) (mic_bad hbad))
              generalize sm y = kk at *
              generalize bs appendL = X at *
              generalize bs y = Y at *
              have hbad2 : kk < 0 ∨ (¬ kk < 0 ∧ 7 < kk) := by omega
              have z3 : ¬ ((r2.length : Int) + 1 + 1 + 1 < 3) := by omega
              clear hbad
              rcases hbad2 with q | ⟨q, q2⟩
              all_goals
                go_wp2_with fail
                refine (HSM.out _).mono ?_; rintro e w' ⟨rfl, rfl⟩
                go_wp2_with fail
                go_ret2
                exact MicsPost.no HE.out HS.out.keeps
            · have hzb := HBB.out z (HIN.out z (by simp))
              have hsz := fun w => r6small_any w z (by rw [bs_size]; omega)
              have HSZ := Lib.hid hsz
              have h2 : wr.cell? ⟨bk, o + 2, none⟩ = some (.string (bs z)) := HCL.out 2 (by simp)
              clear hsz hzb
              have z3 : ¬ ((r2.length : Int) + 1 + 1 + 1 < 3) := by omega
              have z4 : 3 ≤ c := by omega
              have hsb2 := sm_bounds z
              obtain ⟨A3, hA3⟩ : ∃ A, (if c - 2 = 1 then some (⟨bk, o + 2, none⟩ : Addr) else some ⟨bk, o + 2 + 1, none⟩) = A := ⟨_, rfl⟩
              have HA3 := Lib.hid hA3
              have hA2 : (if c = 2 then some (⟨bk, o, none⟩ : Addr) else some ⟨bk, o + 2, none⟩) = some ⟨bk, o + 2, none⟩ := by rw [if_neg (by omega)]
              have q1 : ¬ sm y < 0 := by omega
              have q2 : ¬ 7 < sm y := by omega
              have q3 : IntKind.u8.wrap (sm y) = sm y := by
                generalize sm y = kk at *
                simp [IntKind.wrap, IntKind.bits, IntKind.signed]; omega
              have HEB : Hid (sm z < 0 → rdMics L = none) := Lib.hid (fun hh => HS.out.no (by simp) (mic_app_bad hh))
              have HNX : Hid (0 ≤ sm z → _) := Lib.hid (fun hh => HS.out.next (by simp) (mic_app (y := y) (z := z) (r := r2) (by omega) (by omega) hh))
              generalize sm y = kk at *
              generalize sm z = vv at *
              generalize bs appendL = X at *
              generalize bs y = Y at *
              generalize bs z = Z at *
              clear hbad
              go_wp2_with fail
              refine (HSM.out _).mono ?_; rintro e w' ⟨rfl, rfl⟩
              go_wp2_with ((with_reducible apply wpList_put_row (T := 70) 3); exact rfl; exact rfl; exact heap_alloc_at (by simp); exact ⟨rfl, rfl⟩; kernel_rfl; exact rfl)
              intro W2 hb2 hk2
              have hkq : Keeps [] w' W2 := ((Keeps.refl [] w').alloc _).trans hk2 (fun q hq => .inr (by simp at hq; omega))
              have e0 : W2.cell? ⟨w'.heap.size, 0, none⟩ = some (.bool false) := by simp [World.cell?, hb2]
              have g2 := hkq.cell h2 (by simp)
              have HB2 := Lib.hid hb2; have HKQ := Lib.hid hkq
              clear hk2 hb2 hkq h0 h1 h2 t1 t2
              go_wp2_with fail
              refine (HSZ.out _).mono ?_; rintro e w4 ⟨rfl, rfl⟩
              have q4 : vv < 0 ∨ IntKind.u16.wrap vv = vv := by
                by_cases h : vv < 0
                · exact .inl h
                · exact .inr (by simp [IntKind.wrap, IntKind.bits, IntKind.signed]; omega)
              by_cases hv : vv < 0
              · have HE := Lib.hid (HEB.out hv)
                clear q4 HNX
                go_wp2_with fail
                go_ret2
                exact MicsPost.no HE.out (HS.out.keeps.trans HKQ.out (FSub.refl _ _))
              · have HN2 := Lib.hid (HNX.out (by omega))
                replace q4 := q4.resolve_left hv
                have e1 : w4.cell? ⟨w'.heap.size, 1, none⟩ = some (.int .u8 kk) := by simp [World.cell?, HB2.out]
                have e2 : w4.cell? ⟨w'.heap.size, 2, none⟩ = some (.int .u16 0) := by simp [World.cell?, HB2.out]
                have hfz : w4.frozen? ⟨w'.heap.size, 2, none⟩ = false := by simp [World.frozen?, HB2.out]
                have hkq5 : Keeps [] w' (w4.setCell ⟨w'.heap.size, 2, none⟩ (.int .u16 vv)) := HKQ.out.setCell _ _ (.inr (Nat.le_refl _))
                have hstr := HD.out 3 (by simp) A3 (fun hd => by
                  have hl : r2.length ≠ 0 := fun e => hd (by simp [List.eq_nil_of_length_eq_zero e])
                  rw [← HA3.out, if_neg (by omega)])
                obtain ⟨v', w5, hr, hs3⟩ := HS.out.add hkq5 ⟨false, kk, vv⟩ _ r2 hstr HN2.out (by simp) hN
                have hz5 : (w4.setCell ⟨w'.heap.size, 2, none⟩ (.int .u16 vv)).heap.size = w4.heap.size := by simp
                rw [hz5] at hr
                have HR := Lib.hid hr; have HS3 := Lib.hid hs3
                clear hr hs3 hstr hkq5 HS HD HCL HNX HEB HN2 HA3 hz5 HKQ HB2
                go_wp2_with (at_builtin; refine wpList_append_run rfl _ _ 27 rfl _ _ _ _ rfl rfl HR.out ?_)
                go_roundw
                case rel => exact ⟨r2, _, HS3.out, fun q hq => HIN.out q (by simp [hq])⟩
                case measure => simp [lenOf]; try omega
        · have t1 : ((bs x).toList == [114, 101, 97, 100]) = false := by rw [toL_bs, beq_eq_false_iff_ne]; exact hxr
          have t2 : ((bs x).toList == [97, 112, 112, 101, 110, 100]) = false := by rw [toL_bs, beq_eq_false_iff_ne]; exact hxa
          have HE := Lib.hid (HS.out.no (by simp) (mic_other hxr hxa))
          generalize bs x = X at *
          clear hxr hxa
          go_wp2_with fail
          go_ret2
          exact MicsPost.no HE.out HS.out.keeps
end Go.Proofs.YtffldnjjijckcaaGreatDoor
/-
  The document's lists.
-/
namespace Go.Proofs.YtffldnjjijckcaaGreatDoor
open Go.RowKit
def dcList (w : List UInt8) : Option (List Int) := if w = [45] then some [] else rdAll 65535 (cutAt 44 w)
def dcLists : Wds → Option (List (List Int))
  | [] => some []
  | w :: r => match dcList w with
    | none => none
    | some l => (dcLists r).map (l :: ·)
theorem dcLists_at {L : Wds} {k : Nat} (hk : k < L.length) : dcLists (L.drop k) = (match dcList (L.getD k []) with | none => none | some l => (dcLists (L.drop (k + 1))).map (l :: ·)) := by
  have e : L.drop k = L.getD k [] :: L.drop (k + 1) := by
    rw [List.getD_eq_getElem?_getD, List.getElem?_eq_getElem hk]
    exact List.drop_eq_getElem_cons hk
  rw [e]; rfl
theorem dcList_no {w p : List UInt8} (h : w ≠ [45]) (hp : p ∈ cutAt 44 w) (hs : sm p < 0) : dcList w = none := by
  unfold dcList
  rw [if_neg h]
  unfold rdAll
  rw [if_neg]
  intro ha
  rw [List.all_eq_true] at ha
  have := ha p hp
  simp only [decide_eq_true_eq] at this
  rw [sm_num this.1 this.2] at hs
  omega
theorem dcList_yes {w : List UInt8} (h : w ≠ [45]) (ha : ∀ p ∈ cutAt 44 w, 0 ≤ sm p) : dcList w = some ((cutAt 44 w).map sm) := by
  have hm : (cutAt 44 w).map num7 = (cutAt 44 w).map sm := List.map_congr_left fun p hp => (sm_ok (ha p hp)).1.symm
  unfold dcList
  rw [if_neg h]
  unfold rdAll
  rw [if_pos, hm]
  rw [List.all_eq_true]
  intro p hp
  have := sm_ok (ha p hp)
  have h0 := ha p hp
  simp only [decide_eq_true_eq]
  omega
theorem Inner.fresh {base : Nat} {W W' : World} {us : List Value} {ls : List (List Int)} {F : List Nat} (h : Inner base W us ls) (hk : Keeps F W W') (hF : ∀ q ∈ F, W.heap.size ≤ q) : Inner base W' us ls :=
  ⟨h.1, fun j hj => row_old (h.2 j hj) hk (fun q hq hf => by have := (row_base (h.2 j hj) q hq).2; have := hF q hf; omega)⟩
theorem row_shape {w : World} {base : Nat} {e : TypeId} {size : Nat} {v : Value} {n : Nat} {xs : List Value} (h : w.ownsRow base e size v n xs) : ∃ a m c, v = .slice a m c := by
  rcases h.2 with ⟨rfl, _⟩ | ⟨_, _, _, rfl, _⟩
  · exact ⟨_, _, _, rfl⟩
  · exact ⟨_, _, _, rfl⟩
/-- Lists under way. -/
structure LstSt (L : Wds) (N : Nat) (w : World) (c o : Value) (k : Nat) (us : List Value) (ls : List (List Int)) (W : World) : Prop where
  sl : Strs N W c L
  row : W.ownsRow w.heap.size 54 1 o us.length us
  inn : Inner w.heap.size W us ls
  len : ls.length = k
  hk : k ≤ L.length
  eq : dcLists L = (dcLists (L.drop k)).map fun q => ls ++ q
  keeps : Keeps [] w W
def ListsPost (L : Wds) (w : World) (e : Ending) (w' : World) : Prop := ∃ v us, e = .returned (.tuple #[v, .bool (dcLists L).isSome]) ∧ w'.ownsRow w.heap.size 54 1 v us.length us ∧ Inner w.heap.size w' us ((dcLists L).getD []) ∧ Keeps [] w w'
theorem ListsPost.no {L : Wds} {w w' : World} (h : dcLists L = none) (hk : Keeps [] w w') : ListsPost L w (.returned (.tuple #[.slice none 0 0, .bool false])) w' :=
  ⟨.slice none 0 0, [], by rw [h]; rfl, World.ownsRow_nil _ _ _ _, by rw [h]; exact ⟨rfl, fun j hj => by simp at hj⟩, hk⟩
theorem LstSt.new {L : Wds} {N : Nat} {w : World} {c o : Value} {k : Nat} {us : List Value} {ls : List (List Int)} {W W' : World} (h : LstSt L N w c o k us ls W) (hk : Keeps [] W W') : LstSt L N w c o k us ls W' :=
  ⟨h.sl.keeps hk, row_old h.row hk (by simp), h.inn.fresh hk (by simp), h.len, h.hk, h.eq, h.keeps.trans hk (FSub.refl _ _)⟩
set_option maxRecDepth 100000 in
theorem LstSt.add {L : Wds} {N : Nat} {w : World} {c o : Value} {k : Nat} {us : List Value} {ls : List (List Int)} {W : World} (h : LstSt L N w c o k us ls W) (hlt : k < L.length) (hL : L.length ≤ 90000) (hN : N ≤ w.heap.size) (u : Value) (l : List Int)
    (hu : W.ownsRow w.heap.size 22 1 u l.length (l.map (.int .u16))) (he : dcList (L.getD k []) = some l) :
    ∃ v' w', (Builtin.append_ #[28, 28] 28 #[o, .slice (some ⟨W.heap.size, 0, none⟩) 1 1]).run Tryz.prog (W.alloc (.cells #[u] 54)) = .ok v' w' ∧ LstSt L N w c v' (k + 1) (us ++ [u]) (ls ++ [l]) w' := by
  have hul : us.length = k := by rw [h.inn.1, h.len]
  obtain ⟨v', w', hr, ho, hk⟩ := append_listB W w.heap.size h.keeps.size o us.length us h.row (by omega) u (row_one hu)
  have hF : ∀ q ∈ own o, w.heap.size ≤ q := fun q hq => (row_base h.row q hq).1
  have hI := (h.inn.snoc hu).keeps hk (fun q hq => .inr (by
    obtain ⟨cs, fr, hh⟩ := row_kind h.row q hq
    exact ⟨cs, _, fr, hh, by decide⟩))
  refine ⟨v', w', hr, ⟨h.sl.others hk (fun q hq => Nat.le_trans hN (hF q hq)), by simpa using ho, hI, by simp [h.len], hlt, ?_, h.keeps.trans hk (fun q hq => .inr (hF q hq))⟩⟩
  rw [h.eq, dcLists_at hlt, he, Option.map_map]
  congr 1
  funext q
  simp
theorem LstSt.no {L : Wds} {N : Nat} {w : World} {c o : Value} {k : Nat} {us : List Value} {ls : List (List Int)} {W : World} (h : LstSt L N w c o k us ls W) (hlt : k < L.length) (he : dcList (L.getD k []) = none) : dcLists L = none := by
  rw [h.eq, dcLists_at hlt, he]; rfl
set_option maxHeartbeats 16000000 in
set_option maxRecDepth 100000 in
theorem r6lists_any (w : World) (v : Value) (L : Wds) {N : Nat} (h : Strs N w v L) (hN : N ≤ w.heap.size) (hL : L.length ≤ 90000) (hb : ∀ x ∈ L, x.length ≤ 90000) :
    Calls Tryz.prog 40 #[v] w (ListsPost L w) := by
  have H0 : Hid (LstSt L N w v (.slice none 0 0) 0 [] [] w) := Lib.hid ⟨h, World.ownsRow_nil _ _ _ _, ⟨rfl, fun j hj => by simp at hj⟩, rfl, by omega, by simp, Keeps.refl _ _⟩
  have HBB := Lib.hid hb
  have HSH := Lib.hid h
  obtain ⟨a0, c0, rfl, hc0, hm0⟩ := h.shape
  clear h hb
  go_enter Tryz.func40, Tryz.ntmps40
  go_wp2_with fail
  go_loopw [4, 5] (fun o i wr => ∃ (k : Nat) (us : List Value) (ls : List (List Int)), i = .int .i64 k ∧ LstSt L N w (.slice a0 L.length c0) o k us ls wr) (fun _ i _ => L.length - (intOf i).toNat)
  case atStart => exact ⟨0, [], [], rfl, H0.out⟩
  case round =>
    clear H0
    obtain ⟨k, us, ls, rfl, hst⟩ := hrel
    have HS := Lib.hid hst
    have hk := hst.hk
    clear hst
    by_cases hlt : k < L.length
    · obtain ⟨-, -, -, bk, o, rfl, hbN, hcell, -⟩ := HS.out.sl.at (by intro e; rw [e] at hlt; simp at hlt)
      have hx := hcell k hlt
      have hmem : L.getD k [] ∈ L := by rw [List.getD_eq_getElem?_getD, List.getElem?_eq_getElem hlt]; exact List.getElem_mem hlt
      have hxl := HBB.out _ hmem
      have hcut := fun w => r6Cut_any w (L.getD k []) 44 hxl
      have HCT := Lib.hid hcut
      have hk0 : (0 : Int) ≤ k := by omega
      clear hcell hcut hmem HSH
      have HADD : Hid (∀ W u l, LstSt L N w _ u4 k us ls W → _ → _ → _) := Lib.hid (fun W u l (h : LstSt L N w (.slice (some ⟨bk, o, none⟩) L.length c0) u4 k us ls W) hu he => h.add hlt hL hN u l hu he)
      have HNO : Hid (dcList (L.getD k []) = none → dcLists L = none) := Lib.hid (fun he => HS.out.no hlt he)
      by_cases hd : L.getD k [] = [45]
      · have HDC : Hid (dcList (L.getD k []) = some []) := Lib.hid (by unfold dcList; rw [if_pos hd])
        have t1 : ((bs (L.getD k [])).toList == [45]) = true := by rw [toL_bs, hd]; rfl
        clear hd HNO
        have hcu := cutAt_pos 44 (L.getD k [])
        generalize bs (L.getD k []) = X at *
        generalize cutAt 44 (L.getD k []) = CU at *
        unfold Words6 at HCT
        go_wp2_with fail
        refine (HCT.out _).mono ?_; rintro e w1 ⟨v1, rfl, hrow1, hk1⟩
        obtain ⟨a1, c1, rfl, hc1, hm1⟩ := (Strs.row (row_up (b2 := 0) hrow1 (fun _ _ => Nat.zero_le _))).shape
        have HS1 := Lib.hid (HS.out.new hk1)
        have hx1 := hk1.cell hx (by simp)
        clear hx HS HCT hk1 hrow1
        go_wp2_with fail
        go_loopw [6, 8] (fun o2 j wr => o2 = .slice none 0 0 ∧ j = .int .i64 0 ∧ wr = w1) (fun _ _ _ => 0)
        case atStart => exact ⟨rfl, rfl, rfl⟩
        case round =>
          obtain ⟨rfl, rfl, rfl⟩ := hrel
          obtain ⟨v', w', hr, hs2⟩ := HADD.out wr (.slice none 0 0) [] HS1.out (World.ownsRow_nil _ _ _ _) HDC.out
          have HR := Lib.hid hr; have HS2 := Lib.hid hs2
          clear hr hs2 HS1 HADD HDC
          go_wp2_with (at_builtin; refine wpList_append_run rfl _ _ 28 rfl _ _ _ _ rfl rfl HR.out ?_)
          go_roundw
          case rel => exact ⟨k + 1, _, _, by go_num, HS2.out⟩
          case measure => simp [intOf]; omega
      · have t1 : ((bs (L.getD k [])).toList == [45]) = false := by rw [toL_bs, beq_eq_false_iff_ne]; exact hd
        have hcl := cut_len_le 44 (L.getD k [])
        have hpl := cut_part_le 44 (L.getD k [])
        have HPL := Lib.hid hpl
        have HYES : Hid ((∀ p ∈ cutAt 44 (L.getD k []), 0 ≤ sm p) → dcList (L.getD k []) = some ((cutAt 44 (L.getD k [])).map sm)) := Lib.hid (fun h => dcList_yes hd h)
        have HBAD : Hid (∀ p ∈ cutAt 44 (L.getD k []), sm p < 0 → dcLists L = none) := Lib.hid (fun p hp hs => HNO.out (dcList_no hd hp hs))
        clear hpl hd HNO
        generalize bs (L.getD k []) = X at *
        generalize cutAt 44 (L.getD k []) = CU at *
        unfold Words6 at HCT
        go_wp2_with fail
        refine (HCT.out _).mono ?_; rintro e w1 ⟨v1, rfl, hrow1, hk1⟩
        have hst1 := Strs.row (row_up (b2 := 0) hrow1 (fun _ _ => Nat.zero_le _))
        obtain ⟨a1, c1, rfl, hc1, hm1⟩ := hst1.shape
        have HW1 := Lib.hid hst1
        have HS1 := Lib.hid (HS.out.new hk1)
        have hx1 := hk1.cell hx (by simp)
        clear hx HS HCT hk1 hrow1 hst1
        go_wp2_with fail
        go_loopw [6, 8] (fun o2 j wr => ∃ m : Nat, j = .int .i64 m ∧ m ≤ CU.length ∧ wr.ownsRow w1.heap.size 22 1 o2 m (((CU.take m).map sm).map (.int .u16)) ∧ (∀ p ∈ CU.take m, 0 ≤ sm p) ∧ Keeps [] w1 wr) (fun _ j _ => CU.length - (intOf j).toNat)
        case atStart => exact ⟨0, rfl, by omega, World.ownsRow_nil _ _ _ _, by simp, Keeps.refl _ _⟩
        case round =>
          obtain ⟨m, rfl, hm, hrow, hall, hkp⟩ := hrel
          have HRW := Lib.hid hrow; have HALL := Lib.hid hall; have HKP := Lib.hid hkp
          have hx2 := hkp.cell hx1 (by simp)
          have hm0 : (0 : Int) ≤ m := by omega
          clear hrow hall
          by_cases hlm : m < CU.length
          · obtain ⟨-, -, -, bk1, o1, rfl, hbN1, hcell1, -⟩ := HW1.out.at (by intro e; rw [e] at hlm; simp at hlm)
            have hp := hkp.cell (hcell1 m hlm) (by simp)
            have hmem : CU.getD m [] ∈ CU := by rw [List.getD_eq_getElem?_getD, List.getElem?_eq_getElem hlm]; exact List.getElem_mem hlm
            have hsm := fun w => r6small_any w (CU.getD m []) (by rw [bs_size]; have := HPL.out _ hmem; omega)
            have HSM := Lib.hid hsm
            have htk : CU.take (m + 1) = CU.take m ++ [CU.getD m []] := by
              rw [List.take_add_one, List.getElem?_eq_getElem hlm, List.getD_eq_getElem?_getD, List.getElem?_eq_getElem hlm]; rfl
            have HTK := Lib.hid htk
            have HBD : Hid (sm (CU.getD m []) < 0 → dcLists L = none) := Lib.hid (HBAD.out _ hmem)
            have hsb := sm_bounds (CU.getD m [])
            clear hkp hcell1 hmem hsm htk hx1
            generalize hSV : sm (CU.getD m []) = sv at *
            have HSV := Lib.hid hSV
            clear hSV
            generalize bs (CU.getD m []) = P at *
            by_cases hneg : sv < 0
            · have HE := Lib.hid (HBD.out hneg)
              go_wp2_with fail
              refine (HSM.out _).mono ?_; rintro e w3 ⟨rfl, rfl⟩
              go_wp2_with fail
              go_ret2
              exact ListsPost.no HE.out (HS1.out.keeps.trans HKP.out (FSub.refl _ _))
            · have q4 : IntKind.u16.wrap sv = sv := by simp [IntKind.wrap, IntKind.bits, IntKind.signed]; omega
              have hz1 := HKP.out.size
              obtain ⟨v', w', hr, ho, hk3⟩ := append_u16B wr w1.heap.size hz1 u6 m _ HRW.out (by omega) sv
              have HR := Lib.hid hr; have HO := Lib.hid ho
              have HK3 := Lib.hid (HKP.out.trans hk3 (fun q hq => .inr ((row_base HRW.out q hq).1)))
              clear hr ho hk3 HBD hz1
              go_wp2_with fail
              refine (HSM.out _).mono ?_; rintro e w3 ⟨rfl, rfl⟩
              go_wp2_with (at_builtin; refine wpList_append_run rfl _ _ 54 rfl _ _ _ _ rfl rfl HR.out ?_)
              go_roundw
              case rel =>
                refine ⟨m + 1, by go_num, hlm, ?_, ?_, HK3.out⟩
                · rw [HTK.out, List.map_append, List.map_append, List.map_cons, List.map_nil, HSV.out]; exact HO.out
                · rw [HTK.out]
                  intro p hp
                  rcases List.mem_append.1 hp with h | h
                  · exact HALL.out p h
                  · rw [List.mem_singleton] at h; rw [h, HSV.out]; omega
              case measure => simp [intOf]; omega
          · obtain ⟨aS, mS, cS, rfl⟩ := row_shape HRW.out
            have hce : CU.take m = CU := List.take_of_length_le (by omega)
            have hmm : m = CU.length := by omega
            have HDC := Lib.hid (HYES.out (fun p hp => HALL.out p (by rw [hce]; exact hp)))
            have hrw2 := HRW.out
            rw [hce] at hrw2
            have hzz := HS1.out.keeps.size
            have hrw3 : wr.ownsRow w.heap.size 22 1 (.slice aS mS cS) (CU.map sm).length ((CU.map sm).map (.int .u16)) := by
              rw [List.length_map, ← hmm]
              exact row_up hrw2 (fun q hq => Nat.le_trans hzz (row_base hrw2 q hq).1)
            obtain ⟨v', w', hr, hs2⟩ := HADD.out wr (.slice aS mS cS) (CU.map sm) (HS1.out.new HKP.out) hrw3 HDC.out
            have HR := Lib.hid hr; have HS2 := Lib.hid hs2
            clear hr hs2 HS1 HADD HDC hrw2 hrw3 hce hkp HRW HALL HYES HBAD hmm
            go_wp2_with (at_builtin; refine wpList_append_run rfl _ _ 28 rfl _ _ _ _ rfl rfl HR.out ?_)
            go_roundw
            case rel => exact ⟨k + 1, _, _, by go_num, HS2.out⟩
            case measure => simp [intOf]; omega
    · rw [show k = L.length by omega] at HS
      have he : dcLists L = some ls := by rw [HS.out.eq, List.drop_length]; simp [dcLists]
      have HE := Lib.hid he
      clear he HSH
      go_wp2_with fail
      go_ret2
      exact ⟨_, us, by rw [HE.out]; rfl, HS.out.row, by rw [HE.out]; exact HS.out.inn, HS.out.keeps⟩
end Go.Proofs.YtffldnjjijckcaaGreatDoor
