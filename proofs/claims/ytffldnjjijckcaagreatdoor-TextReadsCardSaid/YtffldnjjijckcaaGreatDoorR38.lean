/-
  The reader's begin: its micros, one by one.
-/
import Derived.Deep.LoopGhost
import Derived.Test.YtffldnjjijckcaaGreatDoorR37
import Derived.Test.YtffldnjjijckcaaGreatDoorR17
set_option linter.unusedSimpArgs false
set_option linter.unusedVariables false
namespace Go.Proofs.YtffldnjjijckcaaGreatDoor
open Go.RowKit
theorem Rdt.fresh {b r g : Nat} {w W W' : World} {l : Wds} {x : Ev} {tx rd : Value} {F : List Nat} (h : Rdt b r g w W l x tx rd) (hk : Keeps F W W') (hF : ∀ q ∈ F, w.heap.size ≤ q)
    (hb : b < w.heap.size) (hr : r < w.heap.size) (hg : g < w.heap.size) (h0 : ∀ k ∈ globs, k < w.heap.size) : Rdt b r g w W' l x tx rd :=
  ⟨hk.heap h.ev (fun q => by have := hF _ q; omega), h.rdr.keeps hk (fun q => by have := hF _ q; omega) (fun q => by have := hF _ q; omega) (fun k hm hm2 => by have := hF _ hm; have := h0 _ hm2; omega), h.keeps.trans hk (fun q hq => .inr (hF q hq)), h.br, h.bg, h.nb⟩
def rdBeg (x : Ev) (l : Wds) : Option (Ev × Wds) := match rdWho l with
  | none => none
  | some (c, i, r) => (rdMics r).map fun t => ({ x with c := c, id := i, t := t }, [])
set_option maxHeartbeats 8000000 in
set_option maxRecDepth 100000 in
theorem begin6_any (w0 w : World) (b r g : Nat) (l : Wds) (x : Ev) (rd : Value) (h : Rdt b r g w0 w l x (.slice none 0 0) rd) (hb : b < w0.heap.size) (hr : r < w0.heap.size) (hg : g < w0.heap.size) (h0 : ∀ k ∈ globs, k < w0.heap.size) :
    Calls Tryz.prog 56 #[.pointer (some ⟨r, 0, none⟩), .pointer (some ⟨b, 0, none⟩)] w fun e W => ∃ tx, Fills b r g w0 (rdBeg x l) tx rd e W ∧ ∀ x' l', rdBeg x l = some (x', l') → W.ownsRow w0.heap.size 70 3 tx x'.t.length (micsC x'.t) := by
  have hw := who6_any w0 w b r g l x _ rd h
  obtain ⟨O, hO⟩ : ∃ O, rdBeg x l = O := ⟨_, rfl⟩
  rw [hO]
  have HO := Lib.hid hO
  clear h hO
  go_enter Tryz.func56, Tryz.ntmps56
  go_wp2_with fail
  refine hw.mono ?_; intro e w1 hR
  clear hw
  cases e1 : rdWho l with
  | none =>
    rw [e1] at hR
    obtain ⟨rfl, hk⟩ := hR
    obtain rfl : O = none := by rw [← HO.out]; simp [rdBeg, e1]
    unfold PanicE
    clear HO
    go_wp2_with fail
    exact ⟨rfl, .slice none 0 0, ⟨rfl, hk⟩, fun x' l' e => by cases e⟩
  | some p =>
  obtain ⟨c, i, l1⟩ := p
  rw [e1] at hR
  obtain ⟨rfl, h1⟩ := hR
  have hO2 : O = (rdMics l1).map fun t => ({ x with c := c, id := i, t := t }, []) := by rw [← HO.out]; simp [rdBeg, e1]
  clear HO e1
  have HO := Lib.hid hO2
  have hln : l1.length ≤ 1000 := h1.rdr.ln
  have H1 := Lib.hid h1
  clear hO2 h1
  go_wp2_with fail
  go_loopg [] (l1.length) (fun gh wr => ∃ (l2 : Wds) (t : List Mic) (tx : Value), gh = l2.length ∧ Rdt b r g w0 wr l2 { x with c := c, id := i, t := t } tx rd ∧ wr.ownsRow w0.heap.size 70 3 tx t.length (micsC t) ∧ t.length + l2.length ≤ 1000 ∧
    rdMics l1 = (rdMics l2).map fun q => t ++ q)
  case atStart => exact ⟨l1, [], .slice none 0 0, rfl, H1.out.puts (y := { x with c := c, id := i, t := [] }) H1.out.ev (Keeps.refl _ _), World.ownsRow_nil _ _ _ _, by simpa using hln, by simp⟩
  case round =>
    obtain ⟨l2, t, tx, rfl, hR, hrow, hn, hI⟩ := hrel
    have HI := Lib.hid hI
    obtain ⟨v, hv, hs⟩ := hR.rdr.cell
    obtain ⟨a, cp, rfl, hcp, hm, _⟩ := hs
    have c0 : wr.cell? ⟨r, 0, none⟩ = some (.slice a l2.length cp) := by simp [World.cell?, hv]
    clear hv hI
    by_cases hl : l2 = []
    · subst hl
      obtain rfl : O = some ({ x with c := c, id := i, t := t }, []) := by rw [HO.out, HI.out]; simp [rdMics_nil]
      have HR := Lib.hid hR; have HW := Lib.hid hrow
      clear HO HI hR hrow
      go_wp2_with fail
      go_end0
      exact ⟨tx, ⟨rfl, HR.out⟩, fun x' l' e => by cases e; exact HW.out⟩
    · have hpos : 0 < l2.length := List.length_pos_iff.2 hl
      have hz : ((l2.length : Int) > 0) := by omega
      have HL := Lib.hid hl
      have c10 := ev_cell hR.ev 10 (evC_10 _ _ _)
      have c10D : wr.drew.cell? ⟨b, 10, none⟩ = some tx := c10
      have HRD : Hid (Rdt b r g w0 wr.drew l2 { x with c := c, id := i, t := t } tx rd) := hR.news (Keeps.refl [] wr).drew
      have HROW : Hid (wr.drew.ownsRow w0.heap.size 70 3 tx t.length (micsC t)) := row_old hrow (Keeps.refl [] wr).drew (by simp)
      have HT1 := Lib.hid (row_one hrow)
      clear c10 hR hrow hl
      go_wp2_with fail
      refine wp_region_held_drew (S := fun _ => True) (by kernel_rfl) trivial (fun hHeld => ?_)
      apply wpAnyH_take (i := 0)
      · simp only [List.getElem?_toArray]; rfl
      · kernel_rfl
      · kernel_rfl
      · kernel_rfl
      · exact fun _ _ _ h => h
      · exact Or.inl ⟨by rfl, by intro w hSw; go_simp; try with_reducible rfl⟩
      · assumption
      try simp only [Act.put, List.setIfInBounds_toArray, List.set_cons_zero, List.set_cons_succ]
      apply wpAnyH_take (i := 1)
      · simp only [List.getElem?_toArray]; rfl
      · kernel_rfl
      · kernel_rfl
      · kernel_rfl
      · exact fun _ _ _ h => h
      · exact Or.inl ⟨by rfl, by intro w hSw; go_simp; try with_reducible rfl⟩
      · assumption
      try simp only [Act.put, List.setIfInBounds_toArray, List.set_cons_zero, List.set_cons_succ]
      apply wpAnyH_take (i := 2)
      · simp only [List.getElem?_toArray]; rfl
      · kernel_rfl
      · kernel_rfl
      · kernel_rfl
      · exact fun _ _ _ h => h
      · exact Or.inl ⟨by rfl, by intro w hSw; go_simp; try with_reducible rfl⟩
      · assumption
      try simp only [Act.put, List.setIfInBounds_toArray, List.set_cons_zero, List.set_cons_succ]
      apply wpAnyH_take (i := 3)
      · simp only [List.getElem?_toArray]; rfl
      · kernel_rfl
      · kernel_rfl
      · kernel_rfl
      · exact fun _ _ _ h => h
      · exact Or.inl ⟨by rfl, by intro w hSw; go_simp; try with_reducible rfl⟩
      · assumption
      try simp only [Act.put, List.setIfInBounds_toArray, List.set_cons_zero, List.set_cons_succ]
      apply wpAnyH_take (i := 5)
      · simp only [List.getElem?_toArray]; rfl
      · kernel_rfl
      · kernel_rfl
      · kernel_rfl
      · exact fun _ _ _ h => h
      · exact Or.inl ⟨by rfl, by intro w hSw; go_simp; try with_reducible rfl⟩
      · assumption
      try simp only [Act.put, List.setIfInBounds_toArray, List.set_cons_zero, List.set_cons_succ]
      apply wpAnyH_ready (rs := [4, 6])
      · kernel_rfl
      · simp
      refine AllReadyH.cons (o := ?o4) ?h4 ?k4 (AllReadyH.cons (o := ?o6) ?h6 ?k6 AllReadyH.nil)
      case h4 => simp only [List.getElem?_toArray]; rfl
      case h6 => simp only [List.getElem?_toArray]; rfl
      case k4 =>
        intro K hK
        rw [if_pos (by rfl)]
        go_simp
        refine hK.out _ _ trivial (fun hHeld => ?_)
        clear hK K
        try simp only [Act.put, List.setIfInBounds_toArray, List.set_cons_zero, List.set_cons_succ]
        apply wpAnyH_ready (rs := [6])
        · kernel_rfl
        · simp
        apply AllReadyH.cons (hs := AllReadyH.nil)
        · simp only [List.getElem?_toArray]; rfl
        intro K hK
        rw [if_pos (by rfl)]
        go_simp
        refine (micro6_any _ r g l2 HRD.out.rdr).mono ?_; intro z wA hR
        cases e2 : rdMic l2 with
        | none =>
          rw [e2] at hR
          obtain ⟨rfl, hkA⟩ := hR
          obtain rfl : O = none := by rw [HO.out, HI.out, rdMics_none HL.out e2]; rfl
          unfold PanicE
          clear HO
          go_wp2_with fail
          exact ⟨rfl, tx, ⟨rfl, HRD.out.bad hkA⟩, fun x' l' e => by cases e⟩
        | some p =>
        obtain ⟨M, l3⟩ := p
        rw [e2] at hR
        obtain ⟨rfl, hrA, hkA⟩ := hR
        have HRA := Lib.hid (HRD.out.reads hrA hkA)
        have HROWA := Lib.hid (row_old HROW.out hkA (fun q hq => by have := row_base HROW.out q hq; simp; omega))
        have c10A := ev_cell HRA.out.ev 10 (evC_10 _ _ _)
        have hzA : b < wA.heap.size := lt_of_block HRA.out.ev
        have hI3 : rdMics l1 = (rdMics l3).map fun q => (t ++ [M]) ++ q := by rw [HI.out, rdMics_some HL.out e2, Option.map_map]; congr 1; funext q; simp
        have hlt3 := rdMic_len e2
        have HI3 := Lib.hid hI3
        clear hrA hkA HI e2 hI3
        unfold Mic.val
        go_wp2_with fail
        refine hK.out _ _ trivial (fun hHeld => ?_)
        clear hK K
        try simp only [Act.put, List.setIfInBounds_toArray, List.set_cons_zero, List.set_cons_succ]
        apply wpAnyH_ready (rs := [7])
        · kernel_rfl
        · simp
        apply AllReadyH.cons (hs := AllReadyH.nil)
        · simp only [List.getElem?_toArray]; rfl
        intro K hK
        rw [if_pos (by rfl)]
        go_simp
        refine hK.out _ _ trivial (fun hHeld => ?_)
        clear hK K
        try simp only [Act.put, List.setIfInBounds_toArray, List.set_cons_zero, List.set_cons_succ]
        have hz1 : w0.heap.size ≤ wA.heap.size := HRA.out.keeps.size
        obtain ⟨v', w4, hr4, ho4, hk4⟩ := append_mic wA w0.heap.size hz1 tx t.length (micsC t) HROWA.out (by omega) M
        have HR4 := Lib.hid hr4; have HO4 := Lib.hid ho4
        have HRA4 := Lib.hid (HRA.out.fresh hk4 (fun q hq => (row_base HROWA.out q hq).1) hb hr hg h0)
        have c104 := ev_cell HRA4.out.ev 10 (evC_10 _ _ _)
        clear hr4 ho4 hk4
        apply wpAnyH_ready (rs := [8])
        · kernel_rfl
        · simp
        apply AllReadyH.cons (hs := AllReadyH.nil)
        · simp only [List.getElem?_toArray]; rfl
        intro K hK
        rw [if_pos (by rfl)]
        refine wp_append_run _ _ 27 rfl _ _ _ _ rfl rfl HR4.out ?_
        refine hK.out _ _ trivial (fun hHeld => ?_)
        clear hK K
        try simp only [Act.put, List.setIfInBounds_toArray, List.set_cons_zero, List.set_cons_succ]
        apply wpAnyH_take (i := 9)
        · simp only [List.getElem?_toArray]; rfl
        · kernel_rfl
        · kernel_rfl
        · kernel_rfl
        · exact fun _ _ _ h => h
        · exact Or.inl ⟨by rfl, by intro w hSw; go_simp; try with_reducible rfl⟩
        · assumption
        try simp only [Act.put, List.setIfInBounds_toArray, List.set_cons_zero, List.set_cons_succ]
        apply wpAnyH_take (i := 10)
        · simp only [List.getElem?_toArray]; rfl
        · kernel_rfl
        · kernel_rfl
        · kernel_rfl
        · exact fun _ _ _ h => h
        · exact Or.inl ⟨by rfl, by intro w hSw; go_simp; try with_reducible rfl⟩
        · assumption
        try simp only [Act.put, List.setIfInBounds_toArray, List.set_cons_zero, List.set_cons_succ]
        apply wpAnyH_ready (rs := [11])
        · kernel_rfl
        · simp
        apply AllReadyH.cons (hs := AllReadyH.nil)
        · simp only [List.getElem?_toArray]; rfl
        intro K hK
        rw [if_pos (by rfl)]
        refine wp_put_cell (T := 27) 10 { x with c := c, id := i, t := t ++ [M] } v' rd rfl rfl rfl HRA4.out.ev (by kernel_rfl) (row_one HO4.out) rfl rfl ?_
        intro W5 hb5 hk5
        have HR5 := Lib.hid (HRA4.out.puts hb5 hk5)
        have HO5 := Lib.hid (row_old HO4.out hk5 (fun q hq => by have := (row_base HO4.out q hq).1; simp; omega))
        have c105 := ev_cell hb5 10 (evC_10 _ _ _)
        clear hb5 hk5
        refine hK.out _ _ trivial (fun hHeld => ?_)
        clear hK K
        try simp only [Act.put]
        refine wpAnyH_done (by kernel_rfl) ?_ _
        go_wp2_with fail
        go_roundg l3.length
        case measure => omega
        case rel => exact ⟨l3, t ++ [M], v', rfl, HR5.out, by rw [List.length_append]; simpa [micsC_snoc] using HO5.out, by simp; omega, HI3.out⟩
      case k6 =>
        intro K hK
        rw [if_pos (by rfl)]
        go_simp
        refine (micro6_any _ r g l2 HRD.out.rdr).mono ?_; intro z wA hR
        cases e2 : rdMic l2 with
        | none =>
          rw [e2] at hR
          obtain ⟨rfl, hkA⟩ := hR
          obtain rfl : O = none := by rw [HO.out, HI.out, rdMics_none HL.out e2]; rfl
          unfold PanicE
          clear HO
          go_wp2_with fail
          exact ⟨rfl, tx, ⟨rfl, HRD.out.bad hkA⟩, fun x' l' e => by cases e⟩
        | some p =>
        obtain ⟨M, l3⟩ := p
        rw [e2] at hR
        obtain ⟨rfl, hrA, hkA⟩ := hR
        have HRA := Lib.hid (HRD.out.reads hrA hkA)
        have HROWA := Lib.hid (row_old HROW.out hkA (fun q hq => by have := row_base HROW.out q hq; simp; omega))
        have c10A := ev_cell HRA.out.ev 10 (evC_10 _ _ _)
        have hzA : b < wA.heap.size := lt_of_block HRA.out.ev
        have hI3 : rdMics l1 = (rdMics l3).map fun q => (t ++ [M]) ++ q := by rw [HI.out, rdMics_some HL.out e2, Option.map_map]; congr 1; funext q; simp
        have hlt3 := rdMic_len e2
        have HI3 := Lib.hid hI3
        clear hrA hkA HI e2 hI3
        unfold Mic.val
        go_wp2_with fail
        refine hK.out _ _ trivial (fun hHeld => ?_)
        clear hK K
        try simp only [Act.put, List.setIfInBounds_toArray, List.set_cons_zero, List.set_cons_succ]
        apply wpAnyH_ready (rs := [4, 7])
        · kernel_rfl
        · simp
        refine AllReadyH.cons (o := ?o4) ?h4 ?k4 (AllReadyH.cons (o := ?o7) ?h7 ?k7 AllReadyH.nil)
        case h4 => simp only [List.getElem?_toArray]; rfl
        case h7 => simp only [List.getElem?_toArray]; rfl
        case k4 =>
          intro K hK
          rw [if_pos (by rfl)]
          go_simp
          refine hK.out _ _ trivial (fun hHeld => ?_)
          clear hK K
          try simp only [Act.put, List.setIfInBounds_toArray, List.set_cons_zero, List.set_cons_succ]
          apply wpAnyH_ready (rs := [7])
          · kernel_rfl
          · simp
          apply AllReadyH.cons (hs := AllReadyH.nil)
          · simp only [List.getElem?_toArray]; rfl
          intro K hK
          rw [if_pos (by rfl)]
          go_simp
          refine hK.out _ _ trivial (fun hHeld => ?_)
          clear hK K
          try simp only [Act.put, List.setIfInBounds_toArray, List.set_cons_zero, List.set_cons_succ]
          have hz1 : w0.heap.size ≤ wA.heap.size := HRA.out.keeps.size
          obtain ⟨v', w4, hr4, ho4, hk4⟩ := append_mic wA w0.heap.size hz1 tx t.length (micsC t) HROWA.out (by omega) M
          have HR4 := Lib.hid hr4; have HO4 := Lib.hid ho4
          have HRA4 := Lib.hid (HRA.out.fresh hk4 (fun q hq => (row_base HROWA.out q hq).1) hb hr hg h0)
          have c104 := ev_cell HRA4.out.ev 10 (evC_10 _ _ _)
          clear hr4 ho4 hk4
          apply wpAnyH_ready (rs := [8])
          · kernel_rfl
          · simp
          apply AllReadyH.cons (hs := AllReadyH.nil)
          · simp only [List.getElem?_toArray]; rfl
          intro K hK
          rw [if_pos (by rfl)]
          refine wp_append_run _ _ 27 rfl _ _ _ _ rfl rfl HR4.out ?_
          refine hK.out _ _ trivial (fun hHeld => ?_)
          clear hK K
          try simp only [Act.put, List.setIfInBounds_toArray, List.set_cons_zero, List.set_cons_succ]
          apply wpAnyH_take (i := 9)
          · simp only [List.getElem?_toArray]; rfl
          · kernel_rfl
          · kernel_rfl
          · kernel_rfl
          · exact fun _ _ _ h => h
          · exact Or.inl ⟨by rfl, by intro w hSw; go_simp; try with_reducible rfl⟩
          · assumption
          try simp only [Act.put, List.setIfInBounds_toArray, List.set_cons_zero, List.set_cons_succ]
          apply wpAnyH_take (i := 10)
          · simp only [List.getElem?_toArray]; rfl
          · kernel_rfl
          · kernel_rfl
          · kernel_rfl
          · exact fun _ _ _ h => h
          · exact Or.inl ⟨by rfl, by intro w hSw; go_simp; try with_reducible rfl⟩
          · assumption
          try simp only [Act.put, List.setIfInBounds_toArray, List.set_cons_zero, List.set_cons_succ]
          apply wpAnyH_ready (rs := [11])
          · kernel_rfl
          · simp
          apply AllReadyH.cons (hs := AllReadyH.nil)
          · simp only [List.getElem?_toArray]; rfl
          intro K hK
          rw [if_pos (by rfl)]
          refine wp_put_cell (T := 27) 10 { x with c := c, id := i, t := t ++ [M] } v' rd rfl rfl rfl HRA4.out.ev (by kernel_rfl) (row_one HO4.out) rfl rfl ?_
          intro W5 hb5 hk5
          have HR5 := Lib.hid (HRA4.out.puts hb5 hk5)
          have HO5 := Lib.hid (row_old HO4.out hk5 (fun q hq => by have := (row_base HO4.out q hq).1; simp; omega))
          have c105 := ev_cell hb5 10 (evC_10 _ _ _)
          clear hb5 hk5
          refine hK.out _ _ trivial (fun hHeld => ?_)
          clear hK K
          try simp only [Act.put]
          refine wpAnyH_done (by kernel_rfl) ?_ _
          go_wp2_with fail
          go_roundg l3.length
          case measure => omega
          case rel => exact ⟨l3, t ++ [M], v', rfl, HR5.out, by rw [List.length_append]; simpa [micsC_snoc] using HO5.out, by simp; omega, HI3.out⟩
        case k7 =>
          intro K hK
          rw [if_pos (by rfl)]
          go_simp
          refine hK.out _ _ trivial (fun hHeld => ?_)
          clear hK K
          try simp only [Act.put, List.setIfInBounds_toArray, List.set_cons_zero, List.set_cons_succ]
          apply wpAnyH_ready (rs := [4])
          · kernel_rfl
          · simp
          apply AllReadyH.cons (hs := AllReadyH.nil)
          · simp only [List.getElem?_toArray]; rfl
          intro K hK
          rw [if_pos (by rfl)]
          go_simp
          refine hK.out _ _ trivial (fun hHeld => ?_)
          clear hK K
          try simp only [Act.put, List.setIfInBounds_toArray, List.set_cons_zero, List.set_cons_succ]
          have hz1 : w0.heap.size ≤ wA.heap.size := HRA.out.keeps.size
          obtain ⟨v', w4, hr4, ho4, hk4⟩ := append_mic wA w0.heap.size hz1 tx t.length (micsC t) HROWA.out (by omega) M
          have HR4 := Lib.hid hr4; have HO4 := Lib.hid ho4
          have HRA4 := Lib.hid (HRA.out.fresh hk4 (fun q hq => (row_base HROWA.out q hq).1) hb hr hg h0)
          have c104 := ev_cell HRA4.out.ev 10 (evC_10 _ _ _)
          clear hr4 ho4 hk4
          apply wpAnyH_ready (rs := [8])
          · kernel_rfl
          · simp
          apply AllReadyH.cons (hs := AllReadyH.nil)
          · simp only [List.getElem?_toArray]; rfl
          intro K hK
          rw [if_pos (by rfl)]
          refine wp_append_run _ _ 27 rfl _ _ _ _ rfl rfl HR4.out ?_
          refine hK.out _ _ trivial (fun hHeld => ?_)
          clear hK K
          try simp only [Act.put, List.setIfInBounds_toArray, List.set_cons_zero, List.set_cons_succ]
          apply wpAnyH_take (i := 9)
          · simp only [List.getElem?_toArray]; rfl
          · kernel_rfl
          · kernel_rfl
          · kernel_rfl
          · exact fun _ _ _ h => h
          · exact Or.inl ⟨by rfl, by intro w hSw; go_simp; try with_reducible rfl⟩
          · assumption
          try simp only [Act.put, List.setIfInBounds_toArray, List.set_cons_zero, List.set_cons_succ]
          apply wpAnyH_take (i := 10)
          · simp only [List.getElem?_toArray]; rfl
          · kernel_rfl
          · kernel_rfl
          · kernel_rfl
          · exact fun _ _ _ h => h
          · exact Or.inl ⟨by rfl, by intro w hSw; go_simp; try with_reducible rfl⟩
          · assumption
          try simp only [Act.put, List.setIfInBounds_toArray, List.set_cons_zero, List.set_cons_succ]
          apply wpAnyH_ready (rs := [11])
          · kernel_rfl
          · simp
          apply AllReadyH.cons (hs := AllReadyH.nil)
          · simp only [List.getElem?_toArray]; rfl
          intro K hK
          rw [if_pos (by rfl)]
          refine wp_put_cell (T := 27) 10 { x with c := c, id := i, t := t ++ [M] } v' rd rfl rfl rfl HRA4.out.ev (by kernel_rfl) (row_one HO4.out) rfl rfl ?_
          intro W5 hb5 hk5
          have HR5 := Lib.hid (HRA4.out.puts hb5 hk5)
          have HO5 := Lib.hid (row_old HO4.out hk5 (fun q hq => by have := (row_base HO4.out q hq).1; simp; omega))
          have c105 := ev_cell hb5 10 (evC_10 _ _ _)
          clear hb5 hk5
          refine hK.out _ _ trivial (fun hHeld => ?_)
          clear hK K
          try simp only [Act.put]
          refine wpAnyH_done (by kernel_rfl) ?_ _
          go_wp2_with fail
          go_roundg l3.length
          case measure => omega
          case rel => exact ⟨l3, t ++ [M], v', rfl, HR5.out, by rw [List.length_append]; simpa [micsC_snoc] using HO5.out, by simp; omega, HI3.out⟩
end Go.Proofs.YtffldnjjijckcaaGreatDoor
/-
  The reader's list; its commit.
-/
namespace Go.Proofs.YtffldnjjijckcaaGreatDoor
open Go.RowKit
/-- A number more, behind an own row. -/
theorem append_u16 (w : World) (base : Nat) (hbase : base ≤ w.heap.size) (v : Value) (n : Nat) (l : List Value) (hrow : w.ownsRow base 22 1 v n l) (hn : n ≤ 1000) (x : Int) :
    ∃ v' w', (Builtin.append_ #[54, 54] 54 #[v, .slice (some ⟨w.heap.size, 0, none⟩) 1 1]).run Tryz.prog (w.alloc (.cells #[.int .u16 x] 22)) = .ok v' w' ∧ w'.ownsRow base 22 1 v' (n + 1) (l ++ [.int .u16 x]) ∧ Keeps (own v) w w' := by
  obtain ⟨i0, hi, hz0, hz1, hz2⟩ := info_parts Tryz.info16
  have hk := (Keeps.refl (own v) w).alloc (.cells #[.int .u16 x] 22)
  have hr2 : (w.alloc (.cells #[.int .u16 x] 22)).ownsRow base 22 1 v n l := row_old hrow ((Keeps.refl [] w).alloc _) (by simp)
  obtain ⟨v', w', hr, ho, hg, _⟩ := run_append_own (P := Tryz.prog) (w := w.alloc (.cells #[.int .u16 x] 22)) base 54 54 22 i0 (.int .u16 0) 1 2 Tryz.underlying54 hi hz0 hz1 hz2 rfl (by decide) v n l hr2
    ⟨w.heap.size, 0, none⟩ 1 1 [.int .u16 x] rfl (one_new w _ _) (by intro u hu; simp at hu; subst hu; rfl) (by unfold maxLen; omega) (by omega) (by simp; omega)
  exact ⟨v', w', hr, ho, hk.grown hg (fun q hq => .inl hq)⟩
theorem splitK_min (c : UInt8) (s : List UInt8) (n : Nat) (hn : 1 ≤ n) : Lib.splitK [c] 0 (min n (s.length + 1) - 1) s = Lib.splitK [c] 0 (n - 1) s := by
  by_cases h : n ≤ s.length + 1
  · rw [Nat.min_eq_left h]
  · have hc := cut_len_le c s
    have e1 : min n (s.length + 1) - 1 = s.length := by omega
    rw [e1]
    rcases splitK_cut c s.length s with ⟨_, a⟩ | ⟨a, _⟩
    · rcases splitK_cut c (n - 1) s with ⟨_, b⟩ | ⟨b, _⟩
      · rw [a, b]
      · omega
    · omega
theorem splitK_len (c : UInt8) (k : Nat) (s : List UInt8) : (Lib.splitK [c] 0 k s).length ≤ k + 1 := by
  rcases splitK_cut c k s with ⟨a, b⟩ | ⟨_, b, _⟩
  · rw [b]; exact a
  · omega
theorem splitK_part (c : UInt8) : ∀ (k : Nat) (s : List UInt8), ∀ p ∈ Lib.splitK [c] 0 k s, p.length ≤ s.length
  | 0, s => by intro p hp; simp [Lib.splitK] at hp; subst hp; exact Nat.le_refl _
  | k + 1, s => by
    rcases cut_ways c s with h | ⟨w, r, hw, rfl⟩
    · rw [splitK_free c _ s h]; simp
    · rw [splitK_hit c 0 k w r hw]
      intro p hp
      rcases List.mem_cons.1 hp with rfl | hp
      · simp
      · have := splitK_part c k r p hp; simp; omega
theorem cellsOf_get (l : List ByteArray) (N j : Nat) (hj : j < l.length) (hN : l.length ≤ N) : (Lib.cellsOf l N)[j]? = some (.string (l.getD j ByteArray.empty)) := by
  unfold Lib.cellsOf
  rw [List.getElem?_toArray, List.getElem?_append_left (by simpa using hj), List.getElem?_map, List.getElem?_eq_getElem hj]
  simp [List.getD, List.getElem?_eq_getElem hj]
/-- A text is cut, at most n pieces. -/
theorem SplitN6_any (w : World) (hG : Glob6 w) (s : List UInt8) (hs : s.length ≤ 1000000) (c : UInt8) (n : Nat) (h1 : 1 ≤ n) (h2 : n ≤ 1000) : Calls Tryz.prog 30 #[.string (bs s), .string ⟨#[c]⟩, .int .i64 n] w fun e w' =>
    ∃ v, e = .returned v ∧ StrsIn w.heap.size w' v (Lib.splitK [c] 0 (n - 1) s) ∧ Keeps [] w w' ∧ w.heap.size < w'.heap.size := by
  obtain ⟨m, hm⟩ := hG.o.ml
  refine (Tryz.strings_SplitN (bs s) ⟨#[c]⟩ n m w (by rw [bs_size]; omega) hm (Nat.le_refl 1) h1 (by omega)).mono ?_
  rintro e w' ⟨rfl, rfl⟩
  obtain ⟨l, hl, hl2⟩ := splitB_cut c (min n ((bs s).size + 1) - 1) s
  rw [hl]
  rw [bs_size, splitK_min c s n h1] at hl2
  subst hl2
  rw [List.length_map]
  have hk := splitK_len c (n - 1) s
  have hk2 : (Lib.splitK [c] 0 (n - 1) s).length ≤ min n (s.length + 1) := by
    rcases splitK_cut c (n - 1) s with ⟨a, b⟩ | ⟨a, b, _⟩
    · rw [b]; have := cut_len_le c s; omega
    · have := cut_len_le c s; omega
  refine ⟨_, rfl, ⟨_, _, rfl, by rw [bs_size]; exact hk2, by omega, fun hn => ⟨0, rfl, fun j hj => ?_⟩⟩, (Keeps.refl _ _).alloc _, by simp⟩
  have hh := heap_alloc_new w (.cells (Lib.cellsOf ((Lib.splitK [c] 0 (n - 1) s).map bs) (min n ((bs s).size + 1))) 9)
  unfold World.cell?
  simp only [Nat.zero_add]
  rw [hh]
  simp only []
  rw [cellsOf_get _ _ _ (by simpa using hj) (by rw [List.length_map, bs_size]; exact hk2)]
  simp [List.getD, hj]
theorem splitK_ne (c : UInt8) (k : Nat) (s : List UInt8) : Lib.splitK [c] 0 k s ≠ [] := by
  rcases splitK_cut c k s with ⟨_, b⟩ | ⟨_, b, _⟩
  · rw [b]; exact cutAt_ne c s
  · intro e; rw [e] at b; simp at b
def rdListO : Wds → Option (List Int × Wds)
  | [] => none
  | w :: r => (rdList w).map fun n => (n, r)
theorem rdListO_len {l : Wds} {n : List Int} {r : Wds} (h : rdListO l = some (n, r)) : r.length < l.length := by
  cases l with
  | nil => simp [rdListO] at h
  | cons w t => simp [rdListO] at h; obtain ⟨a, _, _, rfl⟩ := h; simp
theorem rdLists_none {l : Wds} (hl : l ≠ []) (h : rdListO l = none) : rdLists l = none := by
  cases l with
  | nil => exact absurd rfl hl
  | cons w t => simp [rdListO] at h; simp [rdLists, h]
theorem rdLists_some {l : Wds} {n : List Int} {r : Wds} (_hl : l ≠ []) (h : rdListO l = some (n, r)) : rdLists l = (rdLists r).map (n :: ·) := by
  cases l with
  | nil => simp [rdListO] at h
  | cons w t => simp [rdListO] at h; obtain ⟨a, ha, rfl, rfl⟩ := h; simp [rdLists, ha]
/-- What the reader's list ends in. -/
def ListEnd (r g base : Nat) (w : World) (o : Option (List Int × Wds)) (e : Ending) (w' : World) : Prop :=
  match o with
  | none => e = PanicE ∧ Keeps [r] w w'
  | some (n, l) => ∃ u, e = .returned u ∧ w'.ownsRow base 22 1 u n.length (n.map (.int .u16)) ∧ RdAt w' r g l ∧ Keeps [r] w w'
theorem rdList_no {w : List UInt8} (h : w ≠ [45]) {q : List UInt8} (hq : q ∈ Lib.splitK [44] 0 32 w) (hn : numIs 65535 q = false) : rdList w = none := by
  unfold rdList
  rw [if_neg h]
  unfold rdAll
  rw [if_neg]
  intro ha
  rw [List.all_eq_true] at ha
  have := ha q hq
  unfold numIs at hn
  rw [hn] at this
  cases this
theorem rdList_yes {w : List UInt8} (h : w ≠ [45]) (ha : ∀ q ∈ Lib.splitK [44] 0 32 w, numIs 65535 q = true) : rdList w = some ((Lib.splitK [44] 0 32 w).map num7) := by
  unfold rdList
  rw [if_neg h]
  unfold rdAll
  rw [if_pos]
  rw [List.all_eq_true]
  exact ha
set_option maxHeartbeats 8000000 in
set_option maxRecDepth 100000 in
theorem list6_any (w : World) (r g : Nat) (l : Wds) (h : RdAt w r g l) (base : Nat) (hbase : base ≤ w.heap.size) : Calls Tryz.prog 85 #[.pointer (some ⟨r, 0, none⟩)] w (ListEnd r g base w (rdListO l)) := by
  obtain ⟨O, hO⟩ : ∃ O, rdListO l = O := ⟨_, rfl⟩
  rw [hO]
  have HO := Lib.hid hO
  have H0 := Lib.hid h
  clear h hO
  go_enter Tryz.func85, Tryz.ntmps85
  go_wp2_with fail
  refine (has_any _ r g l H0.out [45] _ rfl).mono ?_; rintro e w1 ⟨rfl, hr, hk⟩
  have H1 := Lib.hid hr
  have K1 := Lib.hid hk
  clear H0 hr hk
  cases hq : rdHas [45] l with
  | true =>
    have hL : rdLeft [45] l = l.tail := by unfold rdLeft; rw [if_pos hq]
    rw [hL] at H1
    obtain rfl : O = some ([], l.tail) := by rw [← HO.out, rdHas_tail hq]; simp [rdListO, rdList]
    clear hq hL HO
    go_wp2_with fail
    go_ret
    exact ⟨_, rfl, World.ownsRow_nil _ _ _ _, H1.out, K1.out⟩
  | false =>
    have hL : rdLeft [45] l = l := by unfold rdLeft; rw [if_neg (by simp [hq])]
    rw [hL] at H1
    have HQ := Lib.hid hq
    clear hq hL
    go_wp2_with fail
    refine (word_any _ r g l H1.out).mono ?_; intro e w2 hR
    rcases wordR hR with ⟨rfl, rfl, hk⟩ | ⟨W0, t, rfl, rfl, hr, hk⟩
    · obtain rfl : O = none := by rw [← HO.out]; rfl
      unfold PanicE
      clear HO hR
      go_wp2_with fail
      exact ⟨rfl, rfl, K1.out.step hk (by simp)⟩
    · have hW : W0 ≠ [45] := by
        intro e
        have := HQ.out
        rw [head_some] at this
        simp [e] at this
      have hO2 : O = (rdList W0).map fun n => (n, t) := HO.out.symm
      have hWl := H1.out.ws W0 (by simp)
      have H2 := Lib.hid hr
      have K2 := Lib.hid (K1.out.step hk (by simp))
      clear HO HQ hR H1 K1 hr hk
      have HO := Lib.hid hO2
      clear hO2
      go_wp2_with fail
      refine (SplitN6_any _ H2.out.glob W0 hWl 44 33 (by decide) (by decide)).mono ?_; rintro e w3 ⟨v3, rfl, hs3, hk3, hz3⟩
      have hln := splitK_len 44 32 W0
      have hpl := splitK_part 44 32 W0
      have hQn := splitK_ne 44 32 W0
      have hno := fun q => @rdList_no W0 hW q
      have hye := @rdList_yes W0 hW
      rw [show 33 - 1 = 32 from rfl] at hs3
      generalize Lib.splitK [44] 0 32 W0 = Q at *
      generalize rdList W0 = RL at *
      have HNO := Lib.hid hno; have HYE := Lib.hid hye
      have H3 := Lib.hid (H2.out.new hk3)
      have K3 := Lib.hid (K2.out.step hk3 (by simp))
      obtain ⟨a3, c3, rfl, hc3, hm3, hs3'⟩ := hs3
      have hww : w.heap.size ≤ w3.heap.size := K3.out.size
      have hb3 : base ≤ w3.heap.size := Nat.le_trans hbase K3.out.size
      obtain ⟨o, rfl, hcs⟩ := hs3' hQn
      have hG2 : w2.heap.size < w3.heap.size := hz3
      have hQg : w2.heap.size ≠ r := by have := H2.out.lt; omega
      generalize w2.heap.size = G at *
      have HS := Lib.hid hcs
      have hR3 : r < w3.heap.size := H3.out.lt
      clear H2 K2 hk3 hno hye hs3' hcs hQn
      go_wp2_with fail
      go_loopw [2, 11] (fun q i wr => ∃ k : Nat, i = .int .i64 k ∧ k ≤ Q.length ∧ (∀ j : Nat, j < k → numIs 65535 (Q.getD j []) = true) ∧ wr.ownsRow w3.heap.size 22 1 q k (((Q.take k).map num7).map (.int .u16)) ∧ RdAt wr r g t ∧ Keeps [r] w wr ∧
        w3.heap.size ≤ wr.heap.size ∧ ∀ j : Nat, j < Q.length → wr.cell? ⟨G, o + j, none⟩ = some (.string (bs (Q.getD j [])))) (fun _ i _ => Q.length - (intOf i).toNat)
      case atStart => exact ⟨0, rfl, by omega, fun j hj => by omega, World.ownsRow_nil _ _ _ _, H3.out, K3.out, Nat.le_refl _, HS.out⟩
      case round =>
        clear K3 HS
        obtain ⟨k, rfl, hk, hall, hrow, hra, hkp, hbw, hcs⟩ := hrel
        have HALL := Lib.hid hall; have HROW := Lib.hid hrow; have HA := Lib.hid hra; have HK := Lib.hid hkp; have HC := Lib.hid hcs
        have hw3 : w.heap.size ≤ wr.heap.size := hkp.size
        by_cases hlt : k < Q.length
        · have hc := hcs k hlt
          have hk1 : (0 : Int) ≤ k := by omega
          have hmem : Q.getD k [] ∈ Q := by rw [List.getD_eq_getElem?_getD, List.getElem?_eq_getElem hlt]; exact List.getElem_mem hlt
          have hql : (Q.getD k []).length ≤ 1000000 := Nat.le_trans (hpl _ hmem) hWl
          have hnum := fun w hG => numberOf_any w hG (Q.getD k []) hql 65535 (by decide) (by decide)
          have hg3 : Q[k]? = some (Q.getD k []) := by rw [List.getD_eq_getElem?_getD, List.getElem?_eq_getElem hlt]; rfl
          have hHno := HNO.out _ hmem
          have hnb := num7_bounds (Q.getD k [])
          have hnx : ((Q.take (k + 1)).map num7).map (Value.int .u16) = ((Q.take k).map num7).map (Value.int .u16) ++ [.int .u16 (num7 (Q.getD k []))] := by
            rw [List.take_add_one, hg3]; simp
          have hIs : numIs 65535 (Q.getD k []) = true → 0 ≤ num7 (Q.getD k []) ∧ num7 (Q.getD k []) ≤ 65535 := fun h => by unfold numIs at h; simpa using h
          have HNX := Lib.hid hnx; have HG3 := Lib.hid hg3
          have HHN := Lib.hid hHno; have HIS := Lib.hid hIs
          obtain ⟨qk, hqk⟩ : ∃ q, Q.getD k [] = q := ⟨_, rfl⟩
          rw [hqk] at hc hnum HHN HIS HNX hnb
          have HQK := Lib.hid hqk
          clear hnx hg3 hHno hIs hall hrow hra hkp hcs hmem hql hqk
          generalize hN : num7 qk = n at *
          clear hN
          cases hI : numIs 65535 qk with
          | false =>
            rw [hI] at hnum HHN
            obtain rfl : O = none := by rw [HO.out, HHN.out rfl]; rfl
            clear HO HHN HIS hI HALL HROW
            go_wp2_with fail
            refine (hnum _ HA.out.glob).mono ?_; rintro e w5 ⟨rfl, hk5⟩
            simp only [Bool.false_eq_true, if_false]
            unfold PanicE
            go_wp2_with fail
            exact ⟨rfl, rfl, HK.out.step hk5 (by simp)⟩
          | true =>
            rw [hI] at hnum HIS
            have hn := HIS.out rfl
            have wn := wrap16 hn.1 (by omega)
            have HI := Lib.hid hI
            clear HHN HIS hI
            go_wp2_with fail
            refine (hnum _ HA.out.glob).mono ?_; rintro e w5 ⟨rfl, hk5⟩
            simp only [if_true]
            have hrow5 := row_old HROW.out hk5 (by simp)
            obtain ⟨v', w6, hr6, ho6, hk6⟩ := append_u16 w5 w3.heap.size (Nat.le_trans hbw hk5.size) u2 k _ hrow5 (by omega) n
            have hF : ∀ y ∈ own u2, w3.heap.size ≤ y := fun y hy => (row_base hrow5 y hy).1
            have H6 := Lib.hid (H3.out.off (HA.out.new hk5) hk6 hF)
            have K6 := Lib.hid ((HK.out.step hk5 (by simp)).trans hk6 (fun y hy => .inr (by have := hF y hy; omega)))
            have hC6 : ∀ j : Nat, j < Q.length → w6.cell? ⟨G, o + j, none⟩ = some (.string (bs (Q.getD j []))) := fun j hj => hk6.cell (hk5.cell (HC.out j hj) (by simp)) (fun hm => by have h9 : w3.heap.size ≤ G := hF _ hm; omega)
            have C6 := Lib.hid hC6
            have hs6 : w3.heap.size ≤ w6.heap.size := Nat.le_trans (Nat.le_trans hbw hk5.size) hk6.size
            have HR6 := Lib.hid hr6; have HO6 := Lib.hid ho6
            clear hr6 hk6 hk5 hnum hF hC6 HA HK HC
            go_wp2_with (at_builtin; refine wpList_append_run rfl _ _ 54 rfl _ _ _ _ rfl rfl HR6.out ?_)
            go_roundw
            case rel => exact ⟨k + 1, by go_num, by omega, fun j hj => by rcases (by omega : j < k ∨ j = k) with h | rfl; exact HALL.out j h; rw [HQK.out]; exact HI.out, by rw [HNX.out]; exact HO6.out, H6.out, K6.out, hs6, C6.out⟩
            case measure => simp [intOf]; omega
        · obtain rfl : k = Q.length := by omega
          obtain rfl : O = some (Q.map num7, t) := by
            rw [HO.out, HYE.out (fun q hq => by
              obtain ⟨j, hj, rfl⟩ := List.mem_iff_getElem.1 hq
              have := HALL.out j hj
              rw [List.getD_eq_getElem?_getD, List.getElem?_eq_getElem hj] at this
              exact this)]
            rfl
          have hrow2 := HROW.out
          rw [List.take_length] at hrow2
          have HROW2 := Lib.hid hrow2
          clear HO HYE HNO HALL HROW hrow hra hkp hcs hall hrow2
          go_wp2_with fail
          go_ret
          exact ⟨_, rfl, by rw [List.length_map]; exact row_up HROW2.out (fun y hy => by have := (row_base HROW2.out y hy).1; omega), HA.out, HK.out⟩
end Go.Proofs.YtffldnjjijckcaaGreatDoor
/-
  The reader's commit: its lists, one by one.
-/
namespace Go.Proofs.YtffldnjjijckcaaGreatDoor
open Go.RowKit
def rdCom (x : Ev) (l : Wds) : Option (Ev × Wds) := match rdWho l with
  | none => none
  | some (c, i, r) => (rdLists r).map fun t => ({ x with c := c, id := i, r := t }, [])
set_option maxHeartbeats 8000000 in
set_option maxRecDepth 100000 in
theorem commit6_any (w0 w : World) (b r g : Nat) (l : Wds) (x : Ev) (tx0 : Value) (h : Rdt b r g w0 w l x tx0 (.slice none 0 0)) (hb : b < w0.heap.size) (hr : r < w0.heap.size) (hg : g < w0.heap.size) (h0 : ∀ k ∈ globs, k < w0.heap.size) :
    Calls Tryz.prog 58 #[.pointer (some ⟨r, 0, none⟩), .pointer (some ⟨b, 0, none⟩)] w fun e W => ∃ tx us, Fills b r g w0 (rdCom x l) tx0 tx e W ∧ ∀ x' l', rdCom x l = some (x', l') → W.ownsRow w0.heap.size 54 1 tx x'.r.length us ∧ Inner w0.heap.size W us x'.r := by
  have hw := who6_any w0 w b r g l x _ _ h
  obtain ⟨O, hO⟩ : ∃ O, rdCom x l = O := ⟨_, rfl⟩
  rw [hO]
  have HO := Lib.hid hO
  clear h hO
  go_enter Tryz.func58, Tryz.ntmps58
  go_wp2_with fail
  refine hw.mono ?_; intro e w1 hR
  clear hw
  cases e1 : rdWho l with
  | none =>
    rw [e1] at hR
    obtain ⟨rfl, hk⟩ := hR
    obtain rfl : O = none := by rw [← HO.out]; simp [rdCom, e1]
    unfold PanicE
    clear HO
    go_wp2_with fail
    exact ⟨rfl, .slice none 0 0, [], ⟨rfl, hk⟩, fun x' l' e => by cases e⟩
  | some p =>
  obtain ⟨c, i, l1⟩ := p
  rw [e1] at hR
  obtain ⟨rfl, h1⟩ := hR
  have hO2 : O = (rdLists l1).map fun t => ({ x with c := c, id := i, r := t }, []) := by rw [← HO.out]; simp [rdCom, e1]
  clear HO e1
  have HO := Lib.hid hO2
  have hln : l1.length ≤ 1000 := h1.rdr.ln
  have H1 := Lib.hid h1
  clear hO2 h1
  go_wp2_with fail
  go_loopg [] (l1.length) (fun gh wr => ∃ (l2 : Wds) (t : List (List Int)) (tx : Value) (us : List Value), gh = l2.length ∧ Rdt b r g w0 wr l2 { x with c := c, id := i, r := t } tx0 tx ∧ wr.ownsRow w0.heap.size 54 1 tx t.length us ∧ t.length + l2.length ≤ 1000 ∧
    (rdLists l1 = (rdLists l2).map fun q => t ++ q) ∧ Inner w0.heap.size wr us t)
  case atStart => exact ⟨l1, [], .slice none 0 0, [], rfl, H1.out.puts (y := { x with c := c, id := i, r := [] }) H1.out.ev (Keeps.refl _ _), World.ownsRow_nil _ _ _ _, by simpa using hln, by simp, ⟨rfl, fun j hj => by simp at hj⟩⟩
  case round =>
    obtain ⟨l2, t, tx, us, rfl, hR, hrow, hn, hI, hus⟩ := hrel
    have HI := Lib.hid hI
    obtain ⟨v, hv, hs⟩ := hR.rdr.cell
    obtain ⟨a, cp, rfl, hcp, hm, _⟩ := hs
    have c0 : wr.cell? ⟨r, 0, none⟩ = some (.slice a l2.length cp) := by simp [World.cell?, hv]
    clear hv hI
    by_cases hl : l2 = []
    · subst hl
      obtain rfl : O = some ({ x with c := c, id := i, r := t }, []) := by rw [HO.out, HI.out]; simp [rdLists]
      have HR := Lib.hid hR; have HW := Lib.hid hrow; have HU := Lib.hid hus
      clear HO HI hR hrow hus
      go_wp2_with fail
      go_end0
      exact ⟨tx, us, ⟨rfl, HR.out⟩, fun x' l' e => by cases e; exact ⟨HW.out, HU.out⟩⟩
    · have hpos : 0 < l2.length := List.length_pos_iff.2 hl
      have hz : ((l2.length : Int) > 0) := by omega
      have HL := Lib.hid hl
      have c10 := ev_cell hR.ev 11 (evC_11 _ _ _)
      have c10D : wr.drew.cell? ⟨b, 11, none⟩ = some tx := c10
      have HRD : Hid (Rdt b r g w0 wr.drew l2 { x with c := c, id := i, r := t } tx0 tx) := hR.news (Keeps.refl [] wr).drew
      have HROW : Hid (wr.drew.ownsRow w0.heap.size 54 1 tx t.length us) := row_old hrow (Keeps.refl [] wr).drew (by simp)
      have HUS : Hid (Inner w0.heap.size wr.drew us t) := hus.keeps (Keeps.refl [] wr).drew (by simp)
      have HT1 := Lib.hid (row_one hrow)
      clear c10 hR hrow hl hus
      go_wp2_with fail
      refine wp_region_held_drew (S := fun _ => True) (by kernel_rfl) trivial (fun hHeld => ?_)
      apply wpAnyH_take (i := 0)
      · simp only [List.getElem?_toArray]; rfl
      · kernel_rfl
      · kernel_rfl
      · kernel_rfl
      · exact fun _ _ _ h => h
      · exact Or.inl ⟨by rfl, by intro w hSw; go_simp; try with_reducible rfl⟩
      · assumption
      try simp only [Act.put, List.setIfInBounds_toArray, List.set_cons_zero, List.set_cons_succ]
      apply wpAnyH_take (i := 1)
      · simp only [List.getElem?_toArray]; rfl
      · kernel_rfl
      · kernel_rfl
      · kernel_rfl
      · exact fun _ _ _ h => h
      · exact Or.inl ⟨by rfl, by intro w hSw; go_simp; try with_reducible rfl⟩
      · assumption
      try simp only [Act.put, List.setIfInBounds_toArray, List.set_cons_zero, List.set_cons_succ]
      apply wpAnyH_take (i := 2)
      · simp only [List.getElem?_toArray]; rfl
      · kernel_rfl
      · kernel_rfl
      · kernel_rfl
      · exact fun _ _ _ h => h
      · exact Or.inl ⟨by rfl, by intro w hSw; go_simp; try with_reducible rfl⟩
      · assumption
      try simp only [Act.put, List.setIfInBounds_toArray, List.set_cons_zero, List.set_cons_succ]
      apply wpAnyH_take (i := 3)
      · simp only [List.getElem?_toArray]; rfl
      · kernel_rfl
      · kernel_rfl
      · kernel_rfl
      · exact fun _ _ _ h => h
      · exact Or.inl ⟨by rfl, by intro w hSw; go_simp; try with_reducible rfl⟩
      · assumption
      try simp only [Act.put, List.setIfInBounds_toArray, List.set_cons_zero, List.set_cons_succ]
      apply wpAnyH_take (i := 5)
      · simp only [List.getElem?_toArray]; rfl
      · kernel_rfl
      · kernel_rfl
      · kernel_rfl
      · exact fun _ _ _ h => h
      · exact Or.inl ⟨by rfl, by intro w hSw; go_simp; try with_reducible rfl⟩
      · assumption
      try simp only [Act.put, List.setIfInBounds_toArray, List.set_cons_zero, List.set_cons_succ]
      apply wpAnyH_ready (rs := [4, 6])
      · kernel_rfl
      · simp
      refine AllReadyH.cons (o := ?o4) ?h4 ?k4 (AllReadyH.cons (o := ?o6) ?h6 ?k6 AllReadyH.nil)
      case h4 => simp only [List.getElem?_toArray]; rfl
      case h6 => simp only [List.getElem?_toArray]; rfl
      case k4 =>
        intro K hK
        rw [if_pos (by rfl)]
        go_simp
        refine hK.out _ _ trivial (fun hHeld => ?_)
        clear hK K
        try simp only [Act.put, List.setIfInBounds_toArray, List.set_cons_zero, List.set_cons_succ]
        apply wpAnyH_ready (rs := [6])
        · kernel_rfl
        · simp
        apply AllReadyH.cons (hs := AllReadyH.nil)
        · simp only [List.getElem?_toArray]; rfl
        intro K hK
        rw [if_pos (by rfl)]
        go_simp
        refine (list6_any _ r g l2 HRD.out.rdr w0.heap.size HRD.out.keeps.size).mono ?_; intro z wA hR
        cases e2 : rdListO l2 with
        | none =>
          rw [e2] at hR
          obtain ⟨rfl, hkA⟩ := hR
          obtain rfl : O = none := by rw [HO.out, HI.out, rdLists_none HL.out e2]; rfl
          unfold PanicE
          clear HO
          go_wp2_with fail
          exact ⟨rfl, tx, [], ⟨rfl, HRD.out.bad hkA⟩, fun x' l' e => by cases e⟩
        | some p =>
        obtain ⟨M, l3⟩ := p
        rw [e2] at hR
        obtain ⟨u, rfl, hrowu, hrA, hkA⟩ := hR
        have hI3 : rdLists l1 = (rdLists l3).map fun q => (t ++ [M]) ++ q := by rw [HI.out, rdLists_some HL.out e2, Option.map_map]; congr 1; funext q; simp
        have hlt3 := rdListO_len e2
        have HRA := Lib.hid (HRD.out.reads hrA hkA)
        have HROWA := Lib.hid (row_old HROW.out hkA (fun q hq => by have := row_base HROW.out q hq; simp; omega))
        have HIN := Lib.hid (Inner.snoc (HUS.out.keeps hkA (by intro q hq; simp at hq; omega)) hrowu)
        have c10A := ev_cell HRA.out.ev 11 (evC_11 _ _ _)
        have hzA : b < wA.heap.size := lt_of_block HRA.out.ev
        have hu1 := row_one hrowu
        obtain ⟨ua, un, uc, rfl⟩ : ∃ a n c, u = .slice a n c := by
          rcases hrowu.2 with ⟨e, _⟩ | ⟨q, cap, cur, e, _⟩ <;> exact ⟨_, _, _, e⟩
        have HI3 := Lib.hid hI3
        clear hrA hkA HI e2 hI3 hrowu
        go_wp2_with fail
        refine hK.out _ _ trivial (fun hHeld => ?_)
        clear hK K
        try simp only [Act.put, List.setIfInBounds_toArray, List.set_cons_zero, List.set_cons_succ]
        apply wpAnyH_ready (rs := [7])
        · kernel_rfl
        · simp
        apply AllReadyH.cons (hs := AllReadyH.nil)
        · simp only [List.getElem?_toArray]; rfl
        intro K hK
        rw [if_pos (by rfl)]
        go_simp
        refine hK.out _ _ trivial (fun hHeld => ?_)
        clear hK K
        try simp only [Act.put, List.setIfInBounds_toArray, List.set_cons_zero, List.set_cons_succ]
        have hz1 : w0.heap.size ≤ wA.heap.size := HRA.out.keeps.size
        obtain ⟨v', w4, hr4, ho4, hk4⟩ := append_list wA w0.heap.size hz1 tx t.length us HROWA.out (by omega) _ hu1
        have HR4 := Lib.hid hr4; have HO4 := Lib.hid ho4
        have HRA4 := Lib.hid (HRA.out.fresh hk4 (fun q hq => (row_base HROWA.out q hq).1) hb hr hg h0)
        have c104 := ev_cell HRA4.out.ev 11 (evC_11 _ _ _)
        have HIN4 := Lib.hid (HIN.out.keeps hk4 (fun q hq => by have h1 := row_base HROWA.out q hq; obtain ⟨cs, fr, hh⟩ := row_kind HROWA.out q hq; exact .inr ⟨cs, _, fr, hh, by decide⟩))
        clear hr4 ho4 hk4
        apply wpAnyH_ready (rs := [8])
        · kernel_rfl
        · simp
        apply AllReadyH.cons (hs := AllReadyH.nil)
        · simp only [List.getElem?_toArray]; rfl
        intro K hK
        rw [if_pos (by rfl)]
        refine wp_append_run _ _ 28 rfl _ _ _ _ rfl rfl HR4.out ?_
        refine hK.out _ _ trivial (fun hHeld => ?_)
        clear hK K
        try simp only [Act.put, List.setIfInBounds_toArray, List.set_cons_zero, List.set_cons_succ]
        apply wpAnyH_take (i := 9)
        · simp only [List.getElem?_toArray]; rfl
        · kernel_rfl
        · kernel_rfl
        · kernel_rfl
        · exact fun _ _ _ h => h
        · exact Or.inl ⟨by rfl, by intro w hSw; go_simp; try with_reducible rfl⟩
        · assumption
        try simp only [Act.put, List.setIfInBounds_toArray, List.set_cons_zero, List.set_cons_succ]
        apply wpAnyH_take (i := 10)
        · simp only [List.getElem?_toArray]; rfl
        · kernel_rfl
        · kernel_rfl
        · kernel_rfl
        · exact fun _ _ _ h => h
        · exact Or.inl ⟨by rfl, by intro w hSw; go_simp; try with_reducible rfl⟩
        · assumption
        try simp only [Act.put, List.setIfInBounds_toArray, List.set_cons_zero, List.set_cons_succ]
        apply wpAnyH_ready (rs := [11])
        · kernel_rfl
        · simp
        apply AllReadyH.cons (hs := AllReadyH.nil)
        · simp only [List.getElem?_toArray]; rfl
        intro K hK
        rw [if_pos (by rfl)]
        refine wp_put_cell (T := 28) 11 { x with c := c, id := i, r := t ++ [M] } tx0 v' rfl rfl rfl HRA4.out.ev (by kernel_rfl) (row_one HO4.out) rfl rfl ?_
        intro W5 hb5 hk5
        have HR5 := Lib.hid (HRA4.out.puts hb5 hk5)
        have HO5 := Lib.hid (row_old HO4.out hk5 (fun q hq => by have := (row_base HO4.out q hq).1; simp; omega))
        have HIN5 := Lib.hid (HIN4.out.keeps hk5 (fun q hq => .inl (by simp at hq; omega)))
        have c105 := ev_cell hb5 11 (evC_11 _ _ _)
        clear hb5 hk5
        refine hK.out _ _ trivial (fun hHeld => ?_)
        clear hK K
        try simp only [Act.put]
        refine wpAnyH_done (by kernel_rfl) ?_ _
        go_wp2_with fail
        go_roundg l3.length
        case measure => omega
        case rel => exact ⟨l3, t ++ [M], v', us ++ [.slice ua un uc], rfl, HR5.out, by rw [List.length_append]; simpa using HO5.out, by simp; omega, HI3.out, HIN5.out⟩
      case k6 =>
        intro K hK
        rw [if_pos (by rfl)]
        go_simp
        refine (list6_any _ r g l2 HRD.out.rdr w0.heap.size HRD.out.keeps.size).mono ?_; intro z wA hR
        cases e2 : rdListO l2 with
        | none =>
          rw [e2] at hR
          obtain ⟨rfl, hkA⟩ := hR
          obtain rfl : O = none := by rw [HO.out, HI.out, rdLists_none HL.out e2]; rfl
          unfold PanicE
          clear HO
          go_wp2_with fail
          exact ⟨rfl, tx, [], ⟨rfl, HRD.out.bad hkA⟩, fun x' l' e => by cases e⟩
        | some p =>
        obtain ⟨M, l3⟩ := p
        rw [e2] at hR
        obtain ⟨u, rfl, hrowu, hrA, hkA⟩ := hR
        have hI3 : rdLists l1 = (rdLists l3).map fun q => (t ++ [M]) ++ q := by rw [HI.out, rdLists_some HL.out e2, Option.map_map]; congr 1; funext q; simp
        have hlt3 := rdListO_len e2
        have HRA := Lib.hid (HRD.out.reads hrA hkA)
        have HROWA := Lib.hid (row_old HROW.out hkA (fun q hq => by have := row_base HROW.out q hq; simp; omega))
        have HIN := Lib.hid (Inner.snoc (HUS.out.keeps hkA (by intro q hq; simp at hq; omega)) hrowu)
        have c10A := ev_cell HRA.out.ev 11 (evC_11 _ _ _)
        have hzA : b < wA.heap.size := lt_of_block HRA.out.ev
        have hu1 := row_one hrowu
        obtain ⟨ua, un, uc, rfl⟩ : ∃ a n c, u = .slice a n c := by
          rcases hrowu.2 with ⟨e, _⟩ | ⟨q, cap, cur, e, _⟩ <;> exact ⟨_, _, _, e⟩
        have HI3 := Lib.hid hI3
        clear hrA hkA HI e2 hI3 hrowu
        go_wp2_with fail
        refine hK.out _ _ trivial (fun hHeld => ?_)
        clear hK K
        try simp only [Act.put, List.setIfInBounds_toArray, List.set_cons_zero, List.set_cons_succ]
        apply wpAnyH_ready (rs := [4, 7])
        · kernel_rfl
        · simp
        refine AllReadyH.cons (o := ?o4) ?h4 ?k4 (AllReadyH.cons (o := ?o7) ?h7 ?k7 AllReadyH.nil)
        case h4 => simp only [List.getElem?_toArray]; rfl
        case h7 => simp only [List.getElem?_toArray]; rfl
        case k4 =>
          intro K hK
          rw [if_pos (by rfl)]
          go_simp
          refine hK.out _ _ trivial (fun hHeld => ?_)
          clear hK K
          try simp only [Act.put, List.setIfInBounds_toArray, List.set_cons_zero, List.set_cons_succ]
          apply wpAnyH_ready (rs := [7])
          · kernel_rfl
          · simp
          apply AllReadyH.cons (hs := AllReadyH.nil)
          · simp only [List.getElem?_toArray]; rfl
          intro K hK
          rw [if_pos (by rfl)]
          go_simp
          refine hK.out _ _ trivial (fun hHeld => ?_)
          clear hK K
          try simp only [Act.put, List.setIfInBounds_toArray, List.set_cons_zero, List.set_cons_succ]
          have hz1 : w0.heap.size ≤ wA.heap.size := HRA.out.keeps.size
          obtain ⟨v', w4, hr4, ho4, hk4⟩ := append_list wA w0.heap.size hz1 tx t.length us HROWA.out (by omega) _ hu1
          have HR4 := Lib.hid hr4; have HO4 := Lib.hid ho4
          have HRA4 := Lib.hid (HRA.out.fresh hk4 (fun q hq => (row_base HROWA.out q hq).1) hb hr hg h0)
          have c104 := ev_cell HRA4.out.ev 11 (evC_11 _ _ _)
          have HIN4 := Lib.hid (HIN.out.keeps hk4 (fun q hq => by have h1 := row_base HROWA.out q hq; obtain ⟨cs, fr, hh⟩ := row_kind HROWA.out q hq; exact .inr ⟨cs, _, fr, hh, by decide⟩))
          clear hr4 ho4 hk4
          apply wpAnyH_ready (rs := [8])
          · kernel_rfl
          · simp
          apply AllReadyH.cons (hs := AllReadyH.nil)
          · simp only [List.getElem?_toArray]; rfl
          intro K hK
          rw [if_pos (by rfl)]
          refine wp_append_run _ _ 28 rfl _ _ _ _ rfl rfl HR4.out ?_
          refine hK.out _ _ trivial (fun hHeld => ?_)
          clear hK K
          try simp only [Act.put, List.setIfInBounds_toArray, List.set_cons_zero, List.set_cons_succ]
          apply wpAnyH_take (i := 9)
          · simp only [List.getElem?_toArray]; rfl
          · kernel_rfl
          · kernel_rfl
          · kernel_rfl
          · exact fun _ _ _ h => h
          · exact Or.inl ⟨by rfl, by intro w hSw; go_simp; try with_reducible rfl⟩
          · assumption
          try simp only [Act.put, List.setIfInBounds_toArray, List.set_cons_zero, List.set_cons_succ]
          apply wpAnyH_take (i := 10)
          · simp only [List.getElem?_toArray]; rfl
          · kernel_rfl
          · kernel_rfl
          · kernel_rfl
          · exact fun _ _ _ h => h
          · exact Or.inl ⟨by rfl, by intro w hSw; go_simp; try with_reducible rfl⟩
          · assumption
          try simp only [Act.put, List.setIfInBounds_toArray, List.set_cons_zero, List.set_cons_succ]
          apply wpAnyH_ready (rs := [11])
          · kernel_rfl
          · simp
          apply AllReadyH.cons (hs := AllReadyH.nil)
          · simp only [List.getElem?_toArray]; rfl
          intro K hK
          rw [if_pos (by rfl)]
          refine wp_put_cell (T := 28) 11 { x with c := c, id := i, r := t ++ [M] } tx0 v' rfl rfl rfl HRA4.out.ev (by kernel_rfl) (row_one HO4.out) rfl rfl ?_
          intro W5 hb5 hk5
          have HR5 := Lib.hid (HRA4.out.puts hb5 hk5)
          have HO5 := Lib.hid (row_old HO4.out hk5 (fun q hq => by have := (row_base HO4.out q hq).1; simp; omega))
          have HIN5 := Lib.hid (HIN4.out.keeps hk5 (fun q hq => .inl (by simp at hq; omega)))
          have c105 := ev_cell hb5 11 (evC_11 _ _ _)
          clear hb5 hk5
          refine hK.out _ _ trivial (fun hHeld => ?_)
          clear hK K
          try simp only [Act.put]
          refine wpAnyH_done (by kernel_rfl) ?_ _
          go_wp2_with fail
          go_roundg l3.length
          case measure => omega
          case rel => exact ⟨l3, t ++ [M], v', us ++ [.slice ua un uc], rfl, HR5.out, by rw [List.length_append]; simpa using HO5.out, by simp; omega, HI3.out, HIN5.out⟩
        case k7 =>
          intro K hK
          rw [if_pos (by rfl)]
          go_simp
          refine hK.out _ _ trivial (fun hHeld => ?_)
          clear hK K
          try simp only [Act.put, List.setIfInBounds_toArray, List.set_cons_zero, List.set_cons_succ]
          apply wpAnyH_ready (rs := [4])
          · kernel_rfl
          · simp
          apply AllReadyH.cons (hs := AllReadyH.nil)
          · simp only [List.getElem?_toArray]; rfl
          intro K hK
          rw [if_pos (by rfl)]
          go_simp
          refine hK.out _ _ trivial (fun hHeld => ?_)
          clear hK K
          try simp only [Act.put, List.setIfInBounds_toArray, List.set_cons_zero, List.set_cons_succ]
          have hz1 : w0.heap.size ≤ wA.heap.size := HRA.out.keeps.size
          obtain ⟨v', w4, hr4, ho4, hk4⟩ := append_list wA w0.heap.size hz1 tx t.length us HROWA.out (by omega) _ hu1
          have HR4 := Lib.hid hr4; have HO4 := Lib.hid ho4
          have HRA4 := Lib.hid (HRA.out.fresh hk4 (fun q hq => (row_base HROWA.out q hq).1) hb hr hg h0)
          have c104 := ev_cell HRA4.out.ev 11 (evC_11 _ _ _)
          have HIN4 := Lib.hid (HIN.out.keeps hk4 (fun q hq => by have h1 := row_base HROWA.out q hq; obtain ⟨cs, fr, hh⟩ := row_kind HROWA.out q hq; exact .inr ⟨cs, _, fr, hh, by decide⟩))
          clear hr4 ho4 hk4
          apply wpAnyH_ready (rs := [8])
          · kernel_rfl
          · simp
          apply AllReadyH.cons (hs := AllReadyH.nil)
          · simp only [List.getElem?_toArray]; rfl
          intro K hK
          rw [if_pos (by rfl)]
          refine wp_append_run _ _ 28 rfl _ _ _ _ rfl rfl HR4.out ?_
          refine hK.out _ _ trivial (fun hHeld => ?_)
          clear hK K
          try simp only [Act.put, List.setIfInBounds_toArray, List.set_cons_zero, List.set_cons_succ]
          apply wpAnyH_take (i := 9)
          · simp only [List.getElem?_toArray]; rfl
          · kernel_rfl
          · kernel_rfl
          · kernel_rfl
          · exact fun _ _ _ h => h
          · exact Or.inl ⟨by rfl, by intro w hSw; go_simp; try with_reducible rfl⟩
          · assumption
          try simp only [Act.put, List.setIfInBounds_toArray, List.set_cons_zero, List.set_cons_succ]
          apply wpAnyH_take (i := 10)
          · simp only [List.getElem?_toArray]; rfl
          · kernel_rfl
          · kernel_rfl
          · kernel_rfl
          · exact fun _ _ _ h => h
          · exact Or.inl ⟨by rfl, by intro w hSw; go_simp; try with_reducible rfl⟩
          · assumption
          try simp only [Act.put, List.setIfInBounds_toArray, List.set_cons_zero, List.set_cons_succ]
          apply wpAnyH_ready (rs := [11])
          · kernel_rfl
          · simp
          apply AllReadyH.cons (hs := AllReadyH.nil)
          · simp only [List.getElem?_toArray]; rfl
          intro K hK
          rw [if_pos (by rfl)]
          refine wp_put_cell (T := 28) 11 { x with c := c, id := i, r := t ++ [M] } tx0 v' rfl rfl rfl HRA4.out.ev (by kernel_rfl) (row_one HO4.out) rfl rfl ?_
          intro W5 hb5 hk5
          have HR5 := Lib.hid (HRA4.out.puts hb5 hk5)
          have HO5 := Lib.hid (row_old HO4.out hk5 (fun q hq => by have := (row_base HO4.out q hq).1; simp; omega))
          have HIN5 := Lib.hid (HIN4.out.keeps hk5 (fun q hq => .inl (by simp at hq; omega)))
          have c105 := ev_cell hb5 11 (evC_11 _ _ _)
          clear hb5 hk5
          refine hK.out _ _ trivial (fun hHeld => ?_)
          clear hK K
          try simp only [Act.put]
          refine wpAnyH_done (by kernel_rfl) ?_ _
          go_wp2_with fail
          go_roundg l3.length
          case measure => omega
          case rel => exact ⟨l3, t ++ [M], v', us ++ [.slice ua un uc], rfl, HR5.out, by rw [List.length_append]; simpa using HO5.out, by simp; omega, HI3.out, HIN5.out⟩
end Go.Proofs.YtffldnjjijckcaaGreatDoor
