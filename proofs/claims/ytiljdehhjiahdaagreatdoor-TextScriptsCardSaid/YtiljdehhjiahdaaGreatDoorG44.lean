/-
  The reader's commit: its lists, one by one.
-/
import Derived.Test.YtiljdehhjiahdaaGreatDoorG43
set_option linter.unusedSimpArgs false
set_option linter.unusedVariables false
namespace Go.Proofs.YtiljdehhjiahdaaGreatDoor
open Go.RowKit
def rdCom (x : Ev) (l : Wds) : Option (Ev × Wds) := match rdWho l with
  | none => none
  | some (c, i, r) => (rdLists r).map fun t => ({ x with c := c, id := i, r := t }, [])
set_option maxHeartbeats 8000000 in
set_option maxRecDepth 100000 in
theorem commit6_any (w0 w : World) (b r g : Nat) (l : Wds) (x : Ev) (tx0 : Value) (h : Rdt b r g w0 w l x tx0 (.slice none 0 0)) (hb : b < w0.heap.size) (hr : r < w0.heap.size) (hg : g < w0.heap.size) (h0 : ∀ k ∈ globs, k < w0.heap.size) :
    Calls Tryz.prog 48 #[.pointer (some ⟨r, 0, none⟩), .pointer (some ⟨b, 0, none⟩)] w fun e W => ∃ tx us, Fills b r g w0 (rdCom x l) tx0 tx e W ∧ ∀ x' l', rdCom x l = some (x', l') → W.ownsRow w0.heap.size 58 1 tx x'.r.length us ∧ Inner w0.heap.size W us x'.r := by
  have hw := who6_any w0 w b r g l x _ _ h
  obtain ⟨O, hO⟩ : ∃ O, rdCom x l = O := ⟨_, rfl⟩
  rw [hO]
  have HO := Lib.hid hO
  clear h hO
  go_enter Tryz.func48, Tryz.ntmps48
  go_wp2_with fail
  refine hw.mono ?_; intro e w1 hR
  clear hw
  cases e1 : rdWho l with
  | none =>
    rw [e1] at hR
    obtain ⟨rfl, hk⟩ := hR
    obtain rfl : O = none := by rw [← HO.out]; simp [rdCom, e1]
    unfold PanicE
    clear HO
    go_wp2_with fail
    exact ⟨rfl, .slice none 0 0, [], ⟨rfl, hk⟩, fun x' l' e => by cases e⟩
  | some p =>
  obtain ⟨c, i, l1⟩ := p
  rw [e1] at hR
  obtain ⟨rfl, h1⟩ := hR
  have hO2 : O = (rdLists l1).map fun t => ({ x with c := c, id := i, r := t }, []) := by rw [← HO.out]; simp [rdCom, e1]
  clear HO e1
  have HO := Lib.hid hO2
  have hln : l1.length ≤ 1000 := h1.rdr.ln
  have H1 := Lib.hid h1
  clear hO2 h1
  go_wp2_with fail
  go_loopg [] (l1.length) (fun gh wr => ∃ (l2 : Wds) (t : List (List Int)) (tx : Value) (us : List Value), gh = l2.length ∧ Rdt b r g w0 wr l2 { x with c := c, id := i, r := t } tx0 tx ∧ wr.ownsRow w0.heap.size 58 1 tx t.length us ∧ t.length + l2.length ≤ 1000 ∧
    (rdLists l1 = (rdLists l2).map fun q => t ++ q) ∧ Inner w0.heap.size wr us t)
  case atStart => exact ⟨l1, [], .slice none 0 0, [], rfl, H1.out.puts (y := { x with c := c, id := i, r := [] }) H1.out.ev (Keeps.refl _ _), World.ownsRow_nil _ _ _ _, by simpa using hln, by simp, ⟨rfl, fun j hj => by simp at hj⟩⟩
  case round =>
    obtain ⟨l2, t, tx, us, rfl, hR, hrow, hn, hI, hus⟩ := hrel
    have HI := Lib.hid hI
    obtain ⟨v, hv, hs⟩ := hR.rdr.cell
    obtain ⟨a, cp, rfl, hcp, hm, _⟩ := hs
    have c0 : wr.cell? ⟨r, 0, none⟩ = some (.slice a l2.length cp) := by simp [World.cell?, hv]
    clear hv hI
    by_cases hl : l2 = []
    · subst hl
      obtain rfl : O = some ({ x with c := c, id := i, r := t }, []) := by rw [HO.out, HI.out]; simp [rdLists]
      have HR := Lib.hid hR; have HW := Lib.hid hrow; have HU := Lib.hid hus
      clear HO HI hR hrow hus
      go_wp2_with fail
      go_end0
      exact ⟨tx, us, ⟨rfl, HR.out⟩, fun x' l' e => by cases e; exact ⟨HW.out, HU.out⟩⟩
    · have hpos : 0 < l2.length := List.length_pos_iff.2 hl
      have hz : ((l2.length : Int) > 0) := by omega
      have HL := Lib.hid hl
      have c10 := ev_cell hR.ev 11 (evC_11 _ _ _)
      have c10D : wr.drew.cell? ⟨b, 11, none⟩ = some tx := c10
      have HRD : Hid (Rdt b r g w0 wr.drew l2 { x with c := c, id := i, r := t } tx0 tx) := hR.news (Keeps.refl [] wr).drew
      have HROW : Hid (wr.drew.ownsRow w0.heap.size 58 1 tx t.length us) := row_old hrow (Keeps.refl [] wr).drew (by simp)
      have HUS : Hid (Inner w0.heap.size wr.drew us t) := hus.keeps (Keeps.refl [] wr).drew (by simp)
      have HT1 := Lib.hid (row_one hrow)
      clear c10 hR hrow hl hus
      go_wp2_with fail
      refine wp_region_held_drew (S := fun _ => True) (by kernel_rfl) trivial (fun hHeld => ?_)
      apply wpAnyH_take (i := 0)
      · simp only [List.getElem?_toArray]; rfl
      · kernel_rfl
      · kernel_rfl
      · kernel_rfl
      · exact fun _ _ _ h => h
      · exact Or.inl ⟨by rfl, by intro w hSw; go_simp; try with_reducible rfl⟩
      · assumption
      try simp only [Act.put, List.setIfInBounds_toArray, List.set_cons_zero, List.set_cons_succ]
      apply wpAnyH_take (i := 1)
      · simp only [List.getElem?_toArray]; rfl
      · kernel_rfl
      · kernel_rfl
      · kernel_rfl
      · exact fun _ _ _ h => h
      · exact Or.inl ⟨by rfl, by intro w hSw; go_simp; try with_reducible rfl⟩
      · assumption
      try simp only [Act.put, List.setIfInBounds_toArray, List.set_cons_zero, List.set_cons_succ]
      apply wpAnyH_take (i := 2)
      · simp only [List.getElem?_toArray]; rfl
      · kernel_rfl
      · kernel_rfl
      · kernel_rfl
      · exact fun _ _ _ h => h
      · exact Or.inl ⟨by rfl, by intro w hSw; go_simp; try with_reducible rfl⟩
      · assumption
      try simp only [Act.put, List.setIfInBounds_toArray, List.set_cons_zero, List.set_cons_succ]
      apply wpAnyH_take (i := 3)
      · simp only [List.getElem?_toArray]; rfl
      · kernel_rfl
      · kernel_rfl
      · kernel_rfl
      · exact fun _ _ _ h => h
      · exact Or.inl ⟨by rfl, by intro w hSw; go_simp; try with_reducible rfl⟩
      · assumption
      try simp only [Act.put, List.setIfInBounds_toArray, List.set_cons_zero, List.set_cons_succ]
      apply wpAnyH_take (i := 5)
      · simp only [List.getElem?_toArray]; rfl
      · kernel_rfl
      · kernel_rfl
      · kernel_rfl
      · exact fun _ _ _ h => h
      · exact Or.inl ⟨by rfl, by intro w hSw; go_simp; try with_reducible rfl⟩
      · assumption
      try simp only [Act.put, List.setIfInBounds_toArray, List.set_cons_zero, List.set_cons_succ]
      apply wpAnyH_ready (rs := [4, 6])
      · kernel_rfl
      · simp
      refine AllReadyH.cons (o := ?o4) ?h4 ?k4 (AllReadyH.cons (o := ?o6) ?h6 ?k6 AllReadyH.nil)
      case h4 => simp only [List.getElem?_toArray]; rfl
      case h6 => simp only [List.getElem?_toArray]; rfl
      case k4 =>
        intro K hK
        rw [if_pos (by rfl)]
        go_simp
        refine hK.out _ _ trivial (fun hHeld => ?_)
        clear hK K
        try simp only [Act.put, List.setIfInBounds_toArray, List.set_cons_zero, List.set_cons_succ]
        apply wpAnyH_ready (rs := [6])
        · kernel_rfl
        · simp
        apply AllReadyH.cons (hs := AllReadyH.nil)
        · simp only [List.getElem?_toArray]; rfl
        intro K hK
        rw [if_pos (by rfl)]
        go_simp
        refine (list6_any _ r g l2 HRD.out.rdr w0.heap.size HRD.out.keeps.size).mono ?_; intro z wA hR
        cases e2 : rdListO l2 with
        | none =>
          rw [e2] at hR
          obtain ⟨rfl, hkA⟩ := hR
          obtain rfl : O = none := by rw [HO.out, HI.out, rdLists_none HL.out e2]; rfl
          unfold PanicE
          clear HO
          go_wp2_with fail
          exact ⟨rfl, tx, [], ⟨rfl, HRD.out.bad hkA⟩, fun x' l' e => by cases e⟩
        | some p =>
        obtain ⟨M, l3⟩ := p
        rw [e2] at hR
        obtain ⟨u, rfl, hrowu, hrA, hkA⟩ := hR
        have hI3 : rdLists l1 = (rdLists l3).map fun q => (t ++ [M]) ++ q := by rw [HI.out, rdLists_some HL.out e2, Option.map_map]; congr 1; funext q; simp
        have hlt3 := rdListO_len e2
        have HRA := Lib.hid (HRD.out.reads hrA hkA)
        have HROWA := Lib.hid (row_old HROW.out hkA (fun q hq => by have := row_base HROW.out q hq; simp; omega))
        have HIN := Lib.hid (Inner.snoc (HUS.out.keeps hkA (by intro q hq; simp at hq; omega)) hrowu)
        have c10A := ev_cell HRA.out.ev 11 (evC_11 _ _ _)
        have hzA : b < wA.heap.size := lt_of_block HRA.out.ev
        have hu1 := row_one hrowu
        obtain ⟨ua, un, uc, rfl⟩ : ∃ a n c, u = .slice a n c := by
          rcases hrowu.2 with ⟨e, _⟩ | ⟨q, cap, cur, e, _⟩ <;> exact ⟨_, _, _, e⟩
        have HI3 := Lib.hid hI3
        clear hrA hkA HI e2 hI3 hrowu
        go_wp2_with fail
        refine hK.out _ _ trivial (fun hHeld => ?_)
        clear hK K
        try simp only [Act.put, List.setIfInBounds_toArray, List.set_cons_zero, List.set_cons_succ]
        apply wpAnyH_ready (rs := [7])
        · kernel_rfl
        · simp
        apply AllReadyH.cons (hs := AllReadyH.nil)
        · simp only [List.getElem?_toArray]; rfl
        intro K hK
        rw [if_pos (by rfl)]
        go_simp
        refine hK.out _ _ trivial (fun hHeld => ?_)
        clear hK K
        try simp only [Act.put, List.setIfInBounds_toArray, List.set_cons_zero, List.set_cons_succ]
        have hz1 : w0.heap.size ≤ wA.heap.size := HRA.out.keeps.size
        obtain ⟨v', w4, hr4, ho4, hk4⟩ := append_list wA w0.heap.size hz1 tx t.length us HROWA.out (by omega) _ hu1
        have HR4 := Lib.hid hr4; have HO4 := Lib.hid ho4
        have HRA4 := Lib.hid (HRA.out.fresh hk4 (fun q hq => (row_base HROWA.out q hq).1) hb hr hg h0)
        have c104 := ev_cell HRA4.out.ev 11 (evC_11 _ _ _)
        have HIN4 := Lib.hid (HIN.out.keeps hk4 (fun q hq => by have h1 := row_base HROWA.out q hq; obtain ⟨cs, fr, hh⟩ := row_kind HROWA.out q hq; exact .inr ⟨cs, _, fr, hh, by decide⟩))
        clear hr4 ho4 hk4
        apply wpAnyH_ready (rs := [8])
        · kernel_rfl
        · simp
        apply AllReadyH.cons (hs := AllReadyH.nil)
        · simp only [List.getElem?_toArray]; rfl
        intro K hK
        rw [if_pos (by rfl)]
        refine wp_append_run _ _ 28 rfl _ _ _ _ rfl rfl HR4.out ?_
        refine hK.out _ _ trivial (fun hHeld => ?_)
        clear hK K
        try simp only [Act.put, List.setIfInBounds_toArray, List.set_cons_zero, List.set_cons_succ]
        apply wpAnyH_take (i := 9)
        · simp only [List.getElem?_toArray]; rfl
        · kernel_rfl
        · kernel_rfl
        · kernel_rfl
        · exact fun _ _ _ h => h
        · exact Or.inl ⟨by rfl, by intro w hSw; go_simp; try with_reducible rfl⟩
        · assumption
        try simp only [Act.put, List.setIfInBounds_toArray, List.set_cons_zero, List.set_cons_succ]
        apply wpAnyH_take (i := 10)
        · simp only [List.getElem?_toArray]; rfl
        · kernel_rfl
        · kernel_rfl
        · kernel_rfl
        · exact fun _ _ _ h => h
        · exact Or.inl ⟨by rfl, by intro w hSw; go_simp; try with_reducible rfl⟩
        · assumption
        try simp only [Act.put, List.setIfInBounds_toArray, List.set_cons_zero, List.set_cons_succ]
        apply wpAnyH_ready (rs := [11])
        · kernel_rfl
        · simp
        apply AllReadyH.cons (hs := AllReadyH.nil)
        · simp only [List.getElem?_toArray]; rfl
        intro K hK
        rw [if_pos (by rfl)]
        refine wp_put_cell (T := 28) 11 { x with c := c, id := i, r := t ++ [M] } tx0 v' rfl rfl rfl HRA4.out.ev (by kernel_rfl) (row_one HO4.out) rfl rfl ?_
        intro W5 hb5 hk5
        have HR5 := Lib.hid (HRA4.out.puts hb5 hk5)
        have HO5 := Lib.hid (row_old HO4.out hk5 (fun q hq => by have := (row_base HO4.out q hq).1; simp; omega))
        have HIN5 := Lib.hid (HIN4.out.keeps hk5 (fun q hq => .inl (by simp at hq; omega)))
        have c105 := ev_cell hb5 11 (evC_11 _ _ _)
        clear hb5 hk5
        refine hK.out _ _ trivial (fun hHeld => ?_)
        clear hK K
        try simp only [Act.put]
        refine wpAnyH_done (by kernel_rfl) ?_ _
        go_wp2_with fail
        go_roundg l3.length
        case measure => omega
        case rel => exact ⟨l3, t ++ [M], v', us ++ [.slice ua un uc], rfl, HR5.out, by rw [List.length_append]; simpa using HO5.out, by simp; omega, HI3.out, HIN5.out⟩
      case k6 =>
        intro K hK
        rw [if_pos (by rfl)]
        go_simp
        refine (list6_any _ r g l2 HRD.out.rdr w0.heap.size HRD.out.keeps.size).mono ?_; intro z wA hR
        cases e2 : rdListO l2 with
        | none =>
          rw [e2] at hR
          obtain ⟨rfl, hkA⟩ := hR
          obtain rfl : O = none := by rw [HO.out, HI.out, rdLists_none HL.out e2]; rfl
          unfold PanicE
          clear HO
          go_wp2_with fail
          exact ⟨rfl, tx, [], ⟨rfl, HRD.out.bad hkA⟩, fun x' l' e => by cases e⟩
        | some p =>
        obtain ⟨M, l3⟩ := p
        rw [e2] at hR
        obtain ⟨u, rfl, hrowu, hrA, hkA⟩ := hR
        have hI3 : rdLists l1 = (rdLists l3).map fun q => (t ++ [M]) ++ q := by rw [HI.out, rdLists_some HL.out e2, Option.map_map]; congr 1; funext q; simp
        have hlt3 := rdListO_len e2
        have HRA := Lib.hid (HRD.out.reads hrA hkA)
        have HROWA := Lib.hid (row_old HROW.out hkA (fun q hq => by have := row_base HROW.out q hq; simp; omega))
        have HIN := Lib.hid (Inner.snoc (HUS.out.keeps hkA (by intro q hq; simp at hq; omega)) hrowu)
        have c10A := ev_cell HRA.out.ev 11 (evC_11 _ _ _)
        have hzA : b < wA.heap.size := lt_of_block HRA.out.ev
        have hu1 := row_one hrowu
        obtain ⟨ua, un, uc, rfl⟩ : ∃ a n c, u = .slice a n c := by
          rcases hrowu.2 with ⟨e, _⟩ | ⟨q, cap, cur, e, _⟩ <;> exact ⟨_, _, _, e⟩
        have HI3 := Lib.hid hI3
        clear hrA hkA HI e2 hI3 hrowu
        go_wp2_with fail
        refine hK.out _ _ trivial (fun hHeld => ?_)
        clear hK K
        try simp only [Act.put, List.setIfInBounds_toArray, List.set_cons_zero, List.set_cons_succ]
        apply wpAnyH_ready (rs := [4, 7])
        · kernel_rfl
        · simp
        refine AllReadyH.cons (o := ?o4) ?h4 ?k4 (AllReadyH.cons (o := ?o7) ?h7 ?k7 AllReadyH.nil)
        case h4 => simp only [List.getElem?_toArray]; rfl
        case h7 => simp only [List.getElem?_toArray]; rfl
        case k4 =>
          intro K hK
          rw [if_pos (by rfl)]
          go_simp
          refine hK.out _ _ trivial (fun hHeld => ?_)
          clear hK K
          try simp only [Act.put, List.setIfInBounds_toArray, List.set_cons_zero, List.set_cons_succ]
          apply wpAnyH_ready (rs := [7])
          · kernel_rfl
          · simp
          apply AllReadyH.cons (hs := AllReadyH.nil)
          · simp only [List.getElem?_toArray]; rfl
          intro K hK
          rw [if_pos (by rfl)]
          go_simp
          refine hK.out _ _ trivial (fun hHeld => ?_)
          clear hK K
          try simp only [Act.put, List.setIfInBounds_toArray, List.set_cons_zero, List.set_cons_succ]
          have hz1 : w0.heap.size ≤ wA.heap.size := HRA.out.keeps.size
          obtain ⟨v', w4, hr4, ho4, hk4⟩ := append_list wA w0.heap.size hz1 tx t.length us HROWA.out (by omega) _ hu1
          have HR4 := Lib.hid hr4; have HO4 := Lib.hid ho4
          have HRA4 := Lib.hid (HRA.out.fresh hk4 (fun q hq => (row_base HROWA.out q hq).1) hb hr hg h0)
          have c104 := ev_cell HRA4.out.ev 11 (evC_11 _ _ _)
          have HIN4 := Lib.hid (HIN.out.keeps hk4 (fun q hq => by have h1 := row_base HROWA.out q hq; obtain ⟨cs, fr, hh⟩ := row_kind HROWA.out q hq; exact .inr ⟨cs, _, fr, hh, by decide⟩))
          clear hr4 ho4 hk4
          apply wpAnyH_ready (rs := [8])
          · kernel_rfl
          · simp
          apply AllReadyH.cons (hs := AllReadyH.nil)
          · simp only [List.getElem?_toArray]; rfl
          intro K hK
          rw [if_pos (by rfl)]
          refine wp_append_run _ _ 28 rfl _ _ _ _ rfl rfl HR4.out ?_
          refine hK.out _ _ trivial (fun hHeld => ?_)
          clear hK K
          try simp only [Act.put, List.setIfInBounds_toArray, List.set_cons_zero, List.set_cons_succ]
          apply wpAnyH_take (i := 9)
          · simp only [List.getElem?_toArray]; rfl
          · kernel_rfl
          · kernel_rfl
          · kernel_rfl
          · exact fun _ _ _ h => h
          · exact Or.inl ⟨by rfl, by intro w hSw; go_simp; try with_reducible rfl⟩
          · assumption
          try simp only [Act.put, List.setIfInBounds_toArray, List.set_cons_zero, List.set_cons_succ]
          apply wpAnyH_take (i := 10)
          · simp only [List.getElem?_toArray]; rfl
          · kernel_rfl
          · kernel_rfl
          · kernel_rfl
          · exact fun _ _ _ h => h
          · exact Or.inl ⟨by rfl, by intro w hSw; go_simp; try with_reducible rfl⟩
          · assumption
          try simp only [Act.put, List.setIfInBounds_toArray, List.set_cons_zero, List.set_cons_succ]
          apply wpAnyH_ready (rs := [11])
          · kernel_rfl
          · simp
          apply AllReadyH.cons (hs := AllReadyH.nil)
          · simp only [List.getElem?_toArray]; rfl
          intro K hK
          rw [if_pos (by rfl)]
          refine wp_put_cell (T := 28) 11 { x with c := c, id := i, r := t ++ [M] } tx0 v' rfl rfl rfl HRA4.out.ev (by kernel_rfl) (row_one HO4.out) rfl rfl ?_
          intro W5 hb5 hk5
          have HR5 := Lib.hid (HRA4.out.puts hb5 hk5)
          have HO5 := Lib.hid (row_old HO4.out hk5 (fun q hq => by have := (row_base HO4.out q hq).1; simp; omega))
          have HIN5 := Lib.hid (HIN4.out.keeps hk5 (fun q hq => .inl (by simp at hq; omega)))
          have c105 := ev_cell hb5 11 (evC_11 _ _ _)
          clear hb5 hk5
          refine hK.out _ _ trivial (fun hHeld => ?_)
          clear hK K
          try simp only [Act.put]
          refine wpAnyH_done (by kernel_rfl) ?_ _
          go_wp2_with fail
          go_roundg l3.length
          case measure => omega
          case rel => exact ⟨l3, t ++ [M], v', us ++ [.slice ua un uc], rfl, HR5.out, by rw [List.length_append]; simpa using HO5.out, by simp; omega, HI3.out, HIN5.out⟩
        case k7 =>
          intro K hK
          rw [if_pos (by rfl)]
          go_simp
          refine hK.out _ _ trivial (fun hHeld => ?_)
          clear hK K
          try simp only [Act.put, List.setIfInBounds_toArray, List.set_cons_zero, List.set_cons_succ]
          apply wpAnyH_ready (rs := [4])
          · kernel_rfl
          · simp
          apply AllReadyH.cons (hs := AllReadyH.nil)
          · simp only [List.getElem?_toArray]; rfl
          intro K hK
          rw [if_pos (by rfl)]
          go_simp
          refine hK.out _ _ trivial (fun hHeld => ?_)
          clear hK K
          try simp only [Act.put, List.setIfInBounds_toArray, List.set_cons_zero, List.set_cons_succ]
          have hz1 : w0.heap.size ≤ wA.heap.size := HRA.out.keeps.size
          obtain ⟨v', w4, hr4, ho4, hk4⟩ := append_list wA w0.heap.size hz1 tx t.length us HROWA.out (by omega) _ hu1
          have HR4 := Lib.hid hr4; have HO4 := Lib.hid ho4
          have HRA4 := Lib.hid (HRA.out.fresh hk4 (fun q hq => (row_base HROWA.out q hq).1) hb hr hg h0)
          have c104 := ev_cell HRA4.out.ev 11 (evC_11 _ _ _)
          have HIN4 := Lib.hid (HIN.out.keeps hk4 (fun q hq => by have h1 := row_base HROWA.out q hq; obtain ⟨cs, fr, hh⟩ := row_kind HROWA.out q hq; exact .inr ⟨cs, _, fr, hh, by decide⟩))
          clear hr4 ho4 hk4
          apply wpAnyH_ready (rs := [8])
          · kernel_rfl
          · simp
          apply AllReadyH.cons (hs := AllReadyH.nil)
          · simp only [List.getElem?_toArray]; rfl
          intro K hK
          rw [if_pos (by rfl)]
          refine wp_append_run _ _ 28 rfl _ _ _ _ rfl rfl HR4.out ?_
          refine hK.out _ _ trivial (fun hHeld => ?_)
          clear hK K
          try simp only [Act.put, List.setIfInBounds_toArray, List.set_cons_zero, List.set_cons_succ]
          apply wpAnyH_take (i := 9)
          · simp only [List.getElem?_toArray]; rfl
          · kernel_rfl
          · kernel_rfl
          · kernel_rfl
          · exact fun _ _ _ h => h
          · exact Or.inl ⟨by rfl, by intro w hSw; go_simp; try with_reducible rfl⟩
          · assumption
          try simp only [Act.put, List.setIfInBounds_toArray, List.set_cons_zero, List.set_cons_succ]
          apply wpAnyH_take (i := 10)
          · simp only [List.getElem?_toArray]; rfl
          · kernel_rfl
          · kernel_rfl
          · kernel_rfl
          · exact fun _ _ _ h => h
          · exact Or.inl ⟨by rfl, by intro w hSw; go_simp; try with_reducible rfl⟩
          · assumption
          try simp only [Act.put, List.setIfInBounds_toArray, List.set_cons_zero, List.set_cons_succ]
          apply wpAnyH_ready (rs := [11])
          · kernel_rfl
          · simp
          apply AllReadyH.cons (hs := AllReadyH.nil)
          · simp only [List.getElem?_toArray]; rfl
          intro K hK
          rw [if_pos (by rfl)]
          refine wp_put_cell (T := 28) 11 { x with c := c, id := i, r := t ++ [M] } tx0 v' rfl rfl rfl HRA4.out.ev (by kernel_rfl) (row_one HO4.out) rfl rfl ?_
          intro W5 hb5 hk5
          have HR5 := Lib.hid (HRA4.out.puts hb5 hk5)
          have HO5 := Lib.hid (row_old HO4.out hk5 (fun q hq => by have := (row_base HO4.out q hq).1; simp; omega))
          have HIN5 := Lib.hid (HIN4.out.keeps hk5 (fun q hq => .inl (by simp at hq; omega)))
          have c105 := ev_cell hb5 11 (evC_11 _ _ _)
          clear hb5 hk5
          refine hK.out _ _ trivial (fun hHeld => ?_)
          clear hK K
          try simp only [Act.put]
          refine wpAnyH_done (by kernel_rfl) ?_ _
          go_wp2_with fail
          go_roundg l3.length
          case measure => omega
          case rel => exact ⟨l3, t ++ [M], v', us ++ [.slice ua un uc], rfl, HR5.out, by rw [List.length_append]; simpa using HO5.out, by simp; omega, HI3.out, HIN5.out⟩
end Go.Proofs.YtiljdehhjiahdaaGreatDoor
