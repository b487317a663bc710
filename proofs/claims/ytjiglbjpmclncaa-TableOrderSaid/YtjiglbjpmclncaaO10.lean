/-
  The program's table: New, Copy.
-/
import Derived.Shelf.SlMaps.Clone
import Derived.Lib.SliceRun
import Derived.Test.YtjiglbjpmclncaaO09
set_option linter.unusedSimpArgs false
set_option linter.unusedVariables false
namespace Go.Proofs.Ytjiglbjpmclncaa
open Go.RowKit Go.Maps
set_option maxHeartbeats 8000000
set_option maxRecDepth 100000
theorem fromClone_any (w : World) {mb : Nat} {L : List Rw} {last : Int} (h : FromAt w mb L last) :
    Calls Try.prog 46 #[.map (some mb)] w fun e w' => e = .returned (.map (some w.heap.size)) ∧ FromAt w' w.heap.size L last ∧ Keeps [] w w' ∧ w.heap.size < w'.heap.size := by
  obtain ⟨n, D, ⟨es, clock, hb, hF⟩, hnl, hD⟩ := h
  have hq := fun w => run_eql_map_nil_sl (P := Try.prog) w 75 _ _ (some mb) Try.underlying75
  have HF := Lib.hid hF; have HD := Lib.hid hD; have HNL := Lib.hid hnl
  clear hF hD hnl
  go_enter Try.func46, Try.ntmps46
  go_wp2
  rw [run_callFunc_extern Try.func52 (by kernel_rfl) (by kernel_rfl) (by kernel_rfl) (e := Extern.MapsClone.clone) (by kernel_rfl), run_maps_clone_sl w 75 hb]
  simp only [Result.andThen]
  rw [Oper.upon_value]
  go_wp2
  rw [run_typeAssert_map_sl _ 75 20 _ _ _ Try.underlying75]
  simp only [Result.andThen]
  rw [Oper.upon_value]
  go_wp2
  go_ret
  exact ⟨rfl, ⟨n, D, ⟨es, clock, heap_alloc_new w _, HF.out⟩, HNL.out, HD.out⟩, (Keeps.refl [] w).alloc _, by simp⟩
theorem eql_rowsP (w : World) (a : Option Addr) (n c : Nat) : (binOp .eql 49 (.slice a n c) (.slice none 0 0)).run Try.prog w = .ok (.bool a.isNone) w := Lib.run_eql_slice_nil w _ _ a n c 0 0 Try.underlying49
theorem rowsClone_any (w : World) {v : Value} {L : List Rw} (h : rkP.Own 0 w v L) (hn : L.length ≤ 1000000) :
    Calls Try.prog 45 #[v] w fun e w' => ∃ v', e = .returned v' ∧ rkP.Own w.heap.size w' v' L ∧ Keeps [] w w' := by
  obtain ⟨a, cap, rfl, hc, hm⟩ := h.shape
  have heq := fun w => eql_rowsP w a L.length cap
  cases a with
  | none =>
    obtain rfl : L = [] := by
      rcases h.2 with ⟨_, h0⟩ | ⟨g, cap, cur, hv, _⟩
      · exact List.eq_nil_of_length_eq_zero h0
      · cases hv
    clear h heq
    have heq := fun w => eql_rowsP w none 0 cap
    simp only [List.length_nil]
    go_enter Try.func45, Try.ntmps45
    go_wp2_with fail
    go_ret
    exact ⟨_, rfl, RK.Own.nil rkP _ _, Keeps.refl _ _⟩
  | some ad =>
    obtain ⟨v', w', hrun, hown, hk⟩ : ∃ v' w', (Builtin.append_ #[49, 49] 49 #[.slice (some ⟨w.heap.size, 0, none⟩) 0 0, .slice (some ad) L.length cap]).run Try.prog (w.alloc (.cells #[] 42)) = .ok v' w' ∧ rkP.Own w.heap.size w' v' L ∧ Keeps [] w w' := by
      have ho : rkP.Own w.heap.size (w.alloc (.cells #[] 42)) (.slice (some ⟨w.heap.size, 0, none⟩) 0 0) [] := ⟨by simp [RK.row], .inr ⟨w.heap.size, 0, #[], rfl, Nat.le_refl _, heap_alloc_new w _, Nat.le_refl _, by decide, by simp, by simp [RK.row]⟩⟩
      have hka := (Keeps.refl [] w).alloc (.cells #[] 42)
      by_cases hL : L = []
      · subst hL
        exact ⟨_, _, run_append_nothing _ _ _ _ rkP.T rkP.i rkP.und rkP.hi _ 0 0 (Nat.le_refl _) _ (Src.ofSlice _ rkP.und ad 0 cap [] (by simp) (by simp) (by simp)), ho, hka⟩
      · obtain ⟨g, cap2, e, -, -, -, hg, hcell⟩ := h.at hL
        simp at e
        obtain ⟨rfl, rfl⟩ := e
        obtain ⟨v', w', h1, h2, h3, -⟩ := rkP.append (w.alloc (.cells #[] 42)) w.heap.size (by simp) _ [] ho L (by simp; omega) ⟨g, 0, none⟩ cap (fun j u hj => by
          rw [Addr.add_mid, Nat.zero_add]
          refine hka.cell ?_ (by simp)
          rcases h.2 with ⟨e, _⟩ | ⟨g', cap', cur, e, _, hh, _, _, _, htk⟩
          · cases e
          · simp only [Value.slice.injEq, Option.some.injEq, Addr.mk.injEq, and_true, true_and] at e
            obtain ⟨rfl, rfl⟩ := e
            rw [← htk, List.getElem?_take] at hj
            split at hj
            · simp only [World.cell?, hh]
              simpa using hj
            · cases hj)
        exact ⟨v', w', h1, by simpa using h2, hka.trans h3 (fun q hq => by simp [own, Value.ownBlock] at hq; exact .inr (by omega))⟩
    have HRUN := Lib.hid hrun; have HOWN := Lib.hid hown; have HK := Lib.hid hk
    obtain ⟨a9, c9, rfl, -, -⟩ := hown.shape
    clear h hrun hown hk
    go_enter Try.func45, Try.ntmps45
    go_wp2_with (refine wpList_append_run rfl _ _ 49 rfl _ _ _ w' rfl rfl HRUN.out ?_)
    go_ret
    exact ⟨_, rfl, HOWN.out, HK.out⟩
theorem newKept_any (w : World) : Calls Try.prog 28 #[] w fun e w' => ∃ kb mb, e = .returned (.pointer (some ⟨kb, 0, none⟩)) ∧ KAt kb mb w' (.slice none 0 0) tbNew ∧ Keeps [] w w' ∧ w.heap.size ≤ kb ∧ w.heap.size ≤ mb ∧ kb < w'.heap.size ∧ mb < w'.heap.size := by
  have hmm := @run_makeMap Try.prog
  go_enter Try.func28, Try.ntmps28
  go_wp2_with fail
  go_ret
  have hk := ((Keeps.refl [] w).alloc (.map #[] 0)).alloc (.cells #[.slice none 0 0, .map (some w.heap.size), .int .i64 (-1)] 77)
  have hP := heap_alloc_new (w.alloc (.map #[] 0)) (.cells #[.slice none 0 0, .map (some w.heap.size), .int .i64 (-1)] 77)
  have hs : (w.alloc (.map #[] 0)).heap.size = w.heap.size + 1 := by simp
  rw [hs] at hP
  refine ⟨w.heap.size + 1, w.heap.size, rfl, ⟨hP, RK.Own.nil rkP _ _, ?_, by omega, by simp [own, Value.ownBlock]⟩, hk, by omega, Nat.le_refl _, by simp, by simp; omega⟩
  exact FromAt.keeps (F := []) (w := w.alloc (.map #[] 0)) ⟨0, _, World.ownsMap_made _ _ _ _, by decide, Holds.nil⟩ ((Keeps.refl [] _).alloc _) (by simp)
theorem tbNew_any (w : World) : Calls Try.prog 8 #[] w fun e w' => ∃ b kb mb, e = .returned (.pointer (some ⟨b, 0, none⟩)) ∧ TAt b kb mb w' (.slice none 0 0) tbNew ∧ Keeps [] w w' ∧ w.heap.size ≤ b ∧ w.heap.size ≤ kb ∧ w.heap.size ≤ mb := by
  have HN := Lib.hid (newKept_any w)
  go_enter Try.func8, Try.ntmps8
  go_wp2_with fail
  refine (HN.out).mono ?_; rintro e w1 ⟨kb, mb, rfl, hat, hk, h1, h2, h3, h4⟩
  have HAT := Lib.hid hat; have HK := Lib.hid hk
  clear HN hat hk
  go_wp2_with fail
  go_ret
  have ka := (Keeps.refl [] w1).alloc (.cells #[.pointer (some ⟨kb, 0, none⟩)] 63)
  exact ⟨w1.heap.size, kb, mb, rfl, ⟨heap_alloc_new w1 _, HAT.out.new ka, ⟨by omega, by omega⟩, by simp [own, Value.ownBlock]⟩, HK.out.trans ka (FSub.refl _ _), HK.out.size, h1, h2⟩
theorem kpCopy_any (w : World) {kb mb : Nat} {v : Value} {t : Tb} (hK : KAt kb mb w v t) (hfew : t.L.length ≤ 1000000) :
    Calls Try.prog 30 #[.pointer (some ⟨kb, 0, none⟩)] w fun e w' => ∃ kb' mb' v', e = .returned (.pointer (some ⟨kb', 0, none⟩)) ∧ KAt kb' mb' w' v' t ∧ Keeps [] w w' ∧ w.heap.size ≤ kb' ∧ w.heap.size ≤ mb' ∧ (∀ q ∈ own v', w.heap.size ≤ q) ∧ kb' < w'.heap.size := by
  obtain ⟨c0, c1, c2⟩ := hK.cells
  have HA := Lib.hid (fun (w' : World) (hk : Keeps [] w w') => rowsClone_any w' (hK.row.keeps hk (by simp)) hfew)
  have HB := Lib.hid (fun (w' : World) (hk : Keeps [] w w') => fromClone_any w' (hK.map.keeps hk (by simp)))
  obtain ⟨av, cp, rfl, hc, hm⟩ := hK.row.shape
  clear hK
  go_enter Try.func30, Try.ntmps30
  go_wp2_with fail
  obtain ⟨S, hS⟩ : ∃ S : World → Prop, S = fun y => Keeps [] w y := ⟨_, rfl⟩
  have HSE := Lib.hid hS
  have hSD : S w.drew := by rw [hS]; exact (Keeps.refl _ _).drew
  have HS0 := Lib.hid (fun (w' : World) (h : S w') => show w'.cell? ⟨kb, 0, none⟩ = some (.slice av t.L.length cp) from by rw [hS] at h; exact h.cell c0 (by simp))
  have HS1 := Lib.hid (fun (w' : World) (h : S w') => show w'.cell? ⟨kb, 1, none⟩ = some (.map (some mb)) from by rw [hS] at h; exact h.cell c1 (by simp))
  have HS2 := Lib.hid (fun (w' : World) (h : S w') => show w'.cell? ⟨kb, 2, none⟩ = some (.int .i64 t.last) from by rw [hS] at h; exact h.cell c2 (by simp))
  clear hS c0 c1 c2
  refine wp_region_noPanic ?_
  refine wp_region_held_drew (S := S) (by kernel_rfl) hSD (fun hHeld => ?_)
  apply wpAnyH_take (i := 0)
  · simp only [List.getElem?_toArray]; rfl
  · kernel_rfl
  · kernel_rfl
  · kernel_rfl
  · exact fun _ _ _ h => h
  · exact Or.inl ⟨by rfl, by intro w hSw; go_simp; try with_reducible rfl⟩
  · assumption
  try simp only [Act.put, List.setIfInBounds_toArray, List.set_cons_zero, List.set_cons_succ]
  apply wpAnyH_take (i := 1)
  · simp only [List.getElem?_toArray]; rfl
  · kernel_rfl
  · kernel_rfl
  · kernel_rfl
  · exact fun _ _ _ h => h
  · exact Or.inl ⟨by rfl, by intro w hSw; go_simp; try with_reducible rfl⟩
  · assumption
  try simp only [Act.put, List.setIfInBounds_toArray, List.set_cons_zero, List.set_cons_succ]
  apply wpAnyH_take (i := 2)
  · simp only [List.getElem?_toArray]; rfl
  · kernel_rfl
  · kernel_rfl
  · kernel_rfl
  · exact fun _ _ _ h => h
  · exact Or.inl ⟨by rfl, by intro w hSw; go_simp; try with_reducible rfl⟩
  · assumption
  try simp only [Act.put, List.setIfInBounds_toArray, List.set_cons_zero, List.set_cons_succ]
  apply wpAnyH_take (i := 3)
  · simp only [List.getElem?_toArray]; rfl
  · kernel_rfl
  · kernel_rfl
  · kernel_rfl
  · exact fun _ _ _ h => h
  · exact Or.inl ⟨by rfl, by intro w hSw; have q0 := HS0.out w hSw; go_simp; try with_reducible rfl⟩
  · assumption
  try simp only [Act.put, List.setIfInBounds_toArray, List.set_cons_zero, List.set_cons_succ]
  apply wpAnyH_take (i := 5)
  · simp only [List.getElem?_toArray]; rfl
  · kernel_rfl
  · kernel_rfl
  · kernel_rfl
  · exact fun _ _ _ h => h
  · exact Or.inl ⟨by rfl, by intro w hSw; go_simp; try with_reducible rfl⟩
  · assumption
  try simp only [Act.put, List.setIfInBounds_toArray, List.set_cons_zero, List.set_cons_succ]
  apply wpAnyH_take (i := 6)
  · simp only [List.getElem?_toArray]; rfl
  · kernel_rfl
  · kernel_rfl
  · kernel_rfl
  · exact fun _ _ _ h => h
  · exact Or.inl ⟨by rfl, by intro w hSw; go_simp; try with_reducible rfl⟩
  · assumption
  try simp only [Act.put, List.setIfInBounds_toArray, List.set_cons_zero, List.set_cons_succ]
  apply wpAnyH_take (i := 7)
  · simp only [List.getElem?_toArray]; rfl
  · kernel_rfl
  · kernel_rfl
  · kernel_rfl
  · exact fun _ _ _ h => h
  · exact Or.inl ⟨by rfl, by intro w hSw; go_simp; try with_reducible rfl⟩
  · assumption
  try simp only [Act.put, List.setIfInBounds_toArray, List.set_cons_zero, List.set_cons_succ]
  apply wpAnyH_take (i := 8)
  · simp only [List.getElem?_toArray]; rfl
  · kernel_rfl
  · kernel_rfl
  · kernel_rfl
  · exact fun _ _ _ h => h
  · exact Or.inl ⟨by rfl, by intro w hSw; have q0 := HS1.out w hSw; go_simp; try with_reducible rfl⟩
  · assumption
  try simp only [Act.put, List.setIfInBounds_toArray, List.set_cons_zero, List.set_cons_succ]
  apply wpAnyH_take (i := 10)
  · simp only [List.getElem?_toArray]; rfl
  · kernel_rfl
  · kernel_rfl
  · kernel_rfl
  · exact fun _ _ _ h => h
  · exact Or.inl ⟨by rfl, by intro w hSw; go_simp; try with_reducible rfl⟩
  · assumption
  try simp only [Act.put, List.setIfInBounds_toArray, List.set_cons_zero, List.set_cons_succ]
  apply wpAnyH_take (i := 11)
  · simp only [List.getElem?_toArray]; rfl
  · kernel_rfl
  · kernel_rfl
  · kernel_rfl
  · exact fun _ _ _ h => h
  · exact Or.inl ⟨by rfl, by intro w hSw; go_simp; try with_reducible rfl⟩
  · assumption
  try simp only [Act.put, List.setIfInBounds_toArray, List.set_cons_zero, List.set_cons_succ]
  apply wpAnyH_take (i := 12)
  · simp only [List.getElem?_toArray]; rfl
  · kernel_rfl
  · kernel_rfl
  · kernel_rfl
  · exact fun _ _ _ h => h
  · exact Or.inl ⟨by rfl, by intro w hSw; go_simp; try with_reducible rfl⟩
  · assumption
  try simp only [Act.put, List.setIfInBounds_toArray, List.set_cons_zero, List.set_cons_succ]
  apply wpAnyH_take (i := 13)
  · simp only [List.getElem?_toArray]; rfl
  · kernel_rfl
  · kernel_rfl
  · kernel_rfl
  · exact fun _ _ _ h => h
  · exact Or.inl ⟨by rfl, by intro w hSw; have q0 := HS2.out w hSw; go_simp; try with_reducible rfl⟩
  · assumption
  try simp only [Act.put, List.setIfInBounds_toArray, List.set_cons_zero, List.set_cons_succ]
  apply wpAnyH_ready (rs := [4])
  · kernel_rfl
  · simp
  apply AllReadyH.cons (hs := AllReadyH.nil)
  · simp only [List.getElem?_toArray]; rfl
  intro K hK
  rw [if_pos (by rfl)]
  refine wp_call8 45 _ _ rfl [.slice av t.L.length cp] rfl Try.func45 (by kernel_rfl) (by kernel_rfl) ((HA.out _ (Keeps.refl _ _).drew).mono ?_)
  rintro e w3 ⟨v', rfl, hrow3, hk3⟩
  refine ⟨_, rfl, ?_⟩
  have HK3 := Lib.hid ((Keeps.refl [] w).drew.trans hk3 (FSub.refl _ _))
  have HROW3 := Lib.hid (show rkP.Own w.heap.size w3 v' t.L from hrow3)
  clear hk3 HA hrow3
  refine hK.out _ _ ?_ (fun hHeld => ?_)
  · exact (by rw [HSE.out]; exact HK3.out)
  clear hK K
  try simp only [Act.put, List.setIfInBounds_toArray, List.set_cons_zero, List.set_cons_succ]
  apply wpAnyH_ready (rs := [9])
  · kernel_rfl
  · simp
  apply AllReadyH.cons (hs := AllReadyH.nil)
  · simp only [List.getElem?_toArray]; rfl
  intro K hK
  rw [if_pos (by rfl)]
  refine wp_call8 46 _ _ rfl [.map (some mb)] rfl Try.func46 (by kernel_rfl) (by kernel_rfl) ((HB.out _ HK3.out).mono ?_)
  rintro e w4 ⟨rfl, hmap4, hk4, hs4⟩
  refine ⟨_, rfl, ?_⟩
  have HK4 := Lib.hid (HK3.out.trans hk4 (FSub.refl _ _))
  have HROW4 := Lib.hid (HROW3.out.keeps hk4 (by simp))
  have HMAP4 := Lib.hid hmap4
  have HB3 := Lib.hid (row_base HROW3.out)
  generalize hM : w3.heap.size = M at *
  have HM := Lib.hid (show w.heap.size ≤ M from by rw [← hM]; exact HK3.out.size)
  clear hk4 HB hmap4 HK3
  refine hK.out _ _ ?_ (fun hHeld => ?_)
  · exact (by rw [HSE.out]; exact HK4.out)
  clear hK K
  try simp only [Act.put, List.setIfInBounds_toArray, List.set_cons_zero, List.set_cons_succ]
  obtain ⟨a9, c9, rfl, -, -⟩ := HROW4.out.shape
  have hka := (Keeps.refl [] w4).alloc (.cells #[.slice a9 t.L.length c9, .map (some M), .int .i64 t.last] 77)
  have hP := heap_alloc_new w4 (.cells #[.slice a9 t.L.length c9, .map (some M), .int .i64 t.last] 77)
  have HFIN := Lib.hid (show KAt w4.heap.size M (w4.alloc (.cells #[.slice a9 t.L.length c9, .map (some M), .int .i64 t.last] 77)) (.slice a9 t.L.length c9) t from
    ⟨hP, (HROW4.out.keeps hka (by simp)).up (Nat.zero_le _), HMAP4.out.keeps hka (by simp), by omega, fun q hq => by have := HB3.out q hq; omega⟩)
  have HK5 := Lib.hid (HK4.out.trans hka (FSub.refl _ _))
  have HQ := Lib.hid (fun q hq => (HB3.out q hq).1)
  clear hka hP HROW4 HMAP4 HB3 HROW3
  apply wpAnyH_take (i := 14)
  · simp only [List.getElem?_toArray]; rfl
  · kernel_rfl
  · kernel_rfl
  · kernel_rfl
  · exact fun _ _ _ h => h
  · exact Or.inl ⟨by rfl, by intro w hSw; go_simp; try with_reducible rfl⟩
  · assumption
  try simp only [Act.put, List.setIfInBounds_toArray, List.set_cons_zero, List.set_cons_succ]
  apply wpAnyH_ready (rs := [15])
  · kernel_rfl
  · simp
  apply AllReadyH.cons (hs := AllReadyH.nil)
  · simp only [List.getElem?_toArray]; rfl
  intro K hK
  rw [if_pos (by rfl)]
  go_wp2_with fail
  refine hK.out _ _ ?_ (fun hHeld => ?_)
  · exact (by rw [HSE.out]; exact HK5.out)
  clear hK K
  try simp only [Act.put, List.setIfInBounds_toArray, List.set_cons_zero, List.set_cons_succ]
  apply wpAnyH_take (i := 16)
  · simp only [List.getElem?_toArray]; rfl
  · kernel_rfl
  · kernel_rfl
  · kernel_rfl
  · exact fun _ _ _ h => h
  · exact Or.inl ⟨by rfl, by intro w hSw; go_simp; try with_reducible rfl⟩
  · assumption
  try simp only [Act.put, List.setIfInBounds_toArray, List.set_cons_zero, List.set_cons_succ]
  refine wpAnyH_done (by kernel_rfl) ?_ _
  refine NoPanic.normal ?_
  clear hHeld hSD HS0 HS1 HS2 HSE
  go_wp2_with fail
  go_ret
  exact ⟨w4.heap.size, M, _, rfl, HFIN.out, HK5.out, HK4.out.size, HM.out, HQ.out, by simp⟩
theorem tbCopy_any (w : World) {b kb mb : Nat} {v : Value} {t : Tb} (hT : TAt b kb mb w v t) (hfew : t.L.length ≤ 1000000) :
    Calls Try.prog 10 #[.pointer (some ⟨b, 0, none⟩)] w fun e w' => ∃ b' kb' mb' v', e = .returned (.pointer (some ⟨b', 0, none⟩)) ∧ TAt b' kb' mb' w' v' t ∧ Keeps [] w w' ∧ w.heap.size ≤ b' ∧ w.heap.size ≤ kb' ∧ w.heap.size ≤ mb' ∧ ∀ q ∈ own v', w.heap.size ≤ q := by
  have hc := hT.cell
  have HM := Lib.hid (tbMade_yes w hc)
  have HC := Lib.hid (kpCopy_any w hT.at_ hfew)
  clear hT
  go_enter Try.func10, Try.ntmps10
  go_wp2_with fail
  refine (HM.out).mono ?_; rintro e w1 ⟨rfl, rfl⟩
  go_wp2_with fail
  refine (HC.out).mono ?_; rintro e w2 ⟨kb', mb', v', rfl, hat, hk, h1, h2, h3, h4⟩
  have HAT := Lib.hid hat; have HK := Lib.hid hk; have H3 := Lib.hid h3
  clear HM HC hat hk h3 hc
  go_wp2_with fail
  go_ret
  have ka := (Keeps.refl [] w2).alloc (.cells #[.pointer (some ⟨kb', 0, none⟩)] 63)
  exact ⟨w2.heap.size, kb', mb', v', rfl, ⟨heap_alloc_new w2 _, HAT.out.new ka, ⟨by omega, by have := HAT.out.map.lt; omega⟩, fun hq => by have := (row_base HAT.out.row _ hq).2; omega⟩, HK.out.trans ka (FSub.refl _ _), HK.out.size, h1, h2, H3.out⟩
end Go.Proofs.Ytjiglbjpmclncaa
/-
  The program's table: a row ends.
-/
namespace Go.Proofs.Ytjiglbjpmclncaa
open Go.RowKit Go.Maps
/-- One cell of a struct in a row is put anew. -/
theorem RK.Own.cell {α : Type} {R : RK α} {base : Nat} {w : World} {g cap n : Nat} {L : List α} (h : R.Own base w (.slice (some ⟨g, 0, none⟩) n cap) L) (j : Nat) (hj : j < L.length) (c : Nat) (hc : c < R.s) (x : α) (u : Value) (hx : R.cs x = (R.cs L[j]).set c u) :
    R.Own base (w.setCell ⟨g, j * R.s + c, none⟩ u) (.slice (some ⟨g, 0, none⟩) n cap) (L.set j x) := by
  have hn : L.length = n := by obtain ⟨_, _, e, _⟩ := h.shape; injection e with _ e; exact e.symm
  subst hn
  rcases h.2 with ⟨e, _⟩ | ⟨g', cap', cur, e, hb, hh, hcc, hm, hcs, htk⟩
  · cases e
  · simp only [Value.slice.injEq, Option.some.injEq, Addr.mk.injEq, and_true, true_and] at e
    obtain ⟨rfl, rfl⟩ := e
    have hl : (L.set j x).length = L.length := List.length_set
    have hlt : j * R.s + c < L.length * R.s := by
      have h1 : (j + 1) * R.s ≤ L.length * R.s := Nat.mul_le_mul_right _ hj
      rw [Nat.add_mul, Nat.one_mul] at h1
      omega
    refine ⟨by rw [R.row_len], .inr ⟨g, cap, _, by rw [hl], hb, heap_setCell_same w g (j * R.s + c) _ _ _ hh, by rw [hl]; exact hcc, hm, by simpa using hcs, ?_⟩⟩
    rw [hl]
    have e1 : (cur.setIfInBounds (j * R.s + c) u).toList.take (L.length * R.s) = (cur.toList.take (L.length * R.s)).set (j * R.s + c) u := by
      rw [Array.toList_setIfInBounds, List.take_set]
    rw [e1, htk]
    have hL : R.row L = R.row (L.take j) ++ (R.cs L[j] ++ R.row (L.drop (j + 1))) := by
      conv => lhs; rw [← List.take_append_drop j L, List.drop_eq_getElem_cons hj]
      rw [R.row_app]; rfl
    have hS : R.row (L.set j x) = R.row (L.take j) ++ (R.cs x ++ R.row (L.drop (j + 1))) := by
      rw [List.set_eq_take_append_cons_drop, if_pos hj, R.row_app]; rfl
    have hlen : (R.row (L.take j)).length = j * R.s := by rw [R.row_len, List.length_take, Nat.min_eq_left (by omega)]
    rw [hL, hS, List.set_append_right _ _ (by omega), hlen, Nat.add_sub_cancel_left, List.set_append_left _ _ (by rw [R.len]; exact hc), hx]
theorem RK.Own.there {α : Type} {R : RK α} {base : Nat} {w : World} {g cap n : Nat} {L : List α} (h : R.Own base w (.slice (some ⟨g, 0, none⟩) n cap) L) (j : Nat) (hj : j < L.length) (c : Nat) (hc : c < R.s) : (w.cell? ⟨g, j * R.s + c, none⟩).isSome = true ∧ w.frozen? ⟨g, j * R.s + c, none⟩ = false := by
  have hn : L.length = n := by obtain ⟨_, _, e, _⟩ := h.shape; injection e with _ e; exact e.symm
  subst hn
  rcases h.2 with ⟨e, _⟩ | ⟨g', cap', cur, e, hb, hh, hcc, hm, hcs, htk⟩
  · cases e
  · simp only [Value.slice.injEq, Option.some.injEq, Addr.mk.injEq, and_true, true_and] at e
    obtain ⟨rfl, rfl⟩ := e
    have hlt : j * R.s + c < cur.size := by
      have h1 : (j + 1) * R.s ≤ L.length * R.s := Nat.mul_le_mul_right _ hj
      have h2 : L.length * R.s ≤ cap * R.s := Nat.mul_le_mul_right _ hcc
      rw [Nat.add_mul, Nat.one_mul] at h1
      omega
    constructor
    · simp [World.cell?, hh, hlt]
    · simp [World.frozen?, hh]
set_option maxHeartbeats 8000000
set_option maxRecDepth 100000
theorem ret1_any (w : World) {g cap n : Nat} {L : List Rw} (hrow : rkP.Own 0 w (.slice (some ⟨g, 0, none⟩) n cap) L) (i : Nat) (hi : i < L.length) (c1 c2 : Nat) (rk rv at_ : Int) (h1 : c1 ≠ g) (h2 : c2 ≠ g)
    (m0 : w.cell? ⟨c1, 0, none⟩ = some (.int .u8 rk)) (m1 : w.cell? ⟨c1, 1, none⟩ = some (.int .u16 rv)) (m2 : w.cell? ⟨c2, 0, none⟩ = some (.int .i64 at_)) :
    Calls Try.prog 43 #[.pointer (some ⟨g, i * 12, none⟩), .pointer (some ⟨c1, 0, none⟩), .pointer (some ⟨c2, 0, none⟩)] w fun e w' => e = .returned (.tuple #[]) ∧ rkP.Own 0 w' (.slice (some ⟨g, 0, none⟩) n cap) (L.set i (rwEnd L[i] true rk rv at_)) ∧ Keeps [g] w w' := by
  have hw1 : rkP.Own 0 w.drew (.slice (some ⟨g, 0, none⟩) n cap) L := hrow.keeps (Keeps.refl [] w).drew (by simp)
  have a9 := RK.Own.there hw1 i hi 9 (by decide)
  have o9 := RK.Own.cell hw1 i hi 9 (by decide) { L[i] with st := 1 } (.int .u8 1) rfl
  obtain ⟨W1, hW1⟩ : ∃ W1, W1 = w.drew.setCell ⟨g, i * rkP.s + 9, none⟩ (.int .u8 1) := ⟨_, rfl⟩
  rw [← hW1] at o9
  have l1 : i < (L.set i { L[i] with st := 1 }).length := by rw [List.length_set]; exact hi
  have g1 : (L.set i { L[i] with st := 1 })[i] = { L[i] with st := 1 } := List.getElem_set_self _
  have a7 := fun c (hc : c < 12) => RK.Own.there o9 i l1 c hc
  have o7 := RK.Own.cell o9 i l1 7 (by decide) { L[i] with st := 1, rk := rk } (.int .u8 rk) (by rw [g1]; rfl)
  rw [List.set_set] at o7
  have l2 : i < (L.set i { L[i] with st := 1, rk := rk }).length := by rw [List.length_set]; exact hi
  have g2 : (L.set i { L[i] with st := 1, rk := rk })[i] = { L[i] with st := 1, rk := rk } := List.getElem_set_self _
  have o8 := RK.Own.cell o7 i l2 8 (by decide) { L[i] with st := 1, rk := rk, rv := rv } (.int .u16 rv) (by rw [g2]; rfl)
  rw [List.set_set] at o8
  obtain ⟨W2, hW2⟩ : ∃ W2, W2 = (W1.setCell ⟨g, i * rkP.s + 7, none⟩ (.int .u8 rk)).setCell ⟨g, i * rkP.s + 8, none⟩ (.int .u16 rv) := ⟨_, rfl⟩
  rw [← hW2] at o8
  have l3 : i < (L.set i { L[i] with st := 1, rk := rk, rv := rv }).length := by rw [List.length_set]; exact hi
  have g3 : (L.set i { L[i] with st := 1, rk := rk, rv := rv })[i] = { L[i] with st := 1, rk := rk, rv := rv } := List.getElem_set_self _
  have a11 := RK.Own.there o8 i l3 11 (by decide)
  have o11 := RK.Own.cell o8 i l3 11 (by decide) { L[i] with st := 1, rk := rk, rv := rv, to := at_ } (.int .i64 at_) (by rw [g3]; rfl)
  rw [List.set_set] at o11
  have k1 : Keeps [g] w W1 := by rw [hW1]; exact ((Keeps.refl [g] w).drew).setCell _ _ (.inl (by simp))
  have k2 : Keeps [g] w W2 := by rw [hW2]; exact (k1.setCell _ _ (.inl (by simp))).setCell _ _ (.inl (by simp))
  have HFIN := Lib.hid (And.intro o11 (k2.setCell ⟨g, i * 12 + 11, none⟩ (.int .i64 at_) (.inl (by simp))))
  have HA9 := Lib.hid a9; have HA7 := Lib.hid a7; have HA11 := Lib.hid a11
  have HK1 := Lib.hid k1; have HK2 := Lib.hid k2
  have HW1 := Lib.hid hW1; have HW2 := Lib.hid hW2
  clear hw1 hrow a9 o9 a7 o7 o8 a11 o11 l1 l2 l3 g1 g2 g3 hW1 hW2 k1 k2
  go_enter Try.func43, Try.ntmps43
  go_wp2_with fail
  obtain ⟨S, hS⟩ : ∃ S : World → Prop, S = fun y => Keeps [g] w y := ⟨_, rfl⟩
  have HSE := Lib.hid hS
  have hSD : S w.drew := by rw [hS]; exact (Keeps.refl _ _).drew
  have HS0 := Lib.hid (fun (w' : World) (h : S w') => show w'.cell? ⟨c1, 0, none⟩ = some (.int .u8 rk) from by rw [hS] at h; exact h.cell m0 (by simp; exact h1))
  have HS1 := Lib.hid (fun (w' : World) (h : S w') => show w'.cell? ⟨c1, 1, none⟩ = some (.int .u16 rv) from by rw [hS] at h; exact h.cell m1 (by simp; exact h1))
  have HS2 := Lib.hid (fun (w' : World) (h : S w') => show w'.cell? ⟨c2, 0, none⟩ = some (.int .i64 at_) from by rw [hS] at h; exact h.cell m2 (by simp; exact h2))
  clear hS m0 m1 m2
  refine wp_region_noPanic ?_
  refine wp_region_held_drew (S := S) (by kernel_rfl) hSD (fun hHeld => ?_)
  apply wpAnyH_take (i := 0)
  · simp only [List.getElem?_toArray]; rfl
  · kernel_rfl
  · kernel_rfl
  · kernel_rfl
  · exact fun _ _ _ h => h
  · exact Or.inl ⟨by rfl, by intro w hSw; go_simp; try with_reducible rfl⟩
  · assumption
  try simp only [Act.put, List.setIfInBounds_toArray, List.set_cons_zero, List.set_cons_succ]
  apply wpAnyH_take (i := 1)
  · simp only [List.getElem?_toArray]; rfl
  · kernel_rfl
  · kernel_rfl
  · kernel_rfl
  · exact fun _ _ _ h => h
  · exact Or.inl ⟨by rfl, by intro w hSw; go_simp; try with_reducible rfl⟩
  · assumption
  try simp only [Act.put, List.setIfInBounds_toArray, List.set_cons_zero, List.set_cons_succ]
  apply wpAnyH_take (i := 2)
  · simp only [List.getElem?_toArray]; rfl
  · kernel_rfl
  · kernel_rfl
  · kernel_rfl
  · exact fun _ _ _ h => h
  · exact Or.inl ⟨by rfl, by intro w hSw; go_simp; try with_reducible rfl⟩
  · assumption
  try simp only [Act.put, List.setIfInBounds_toArray, List.set_cons_zero, List.set_cons_succ]
  apply wpAnyH_take (i := 3)
  · simp only [List.getElem?_toArray]; rfl
  · kernel_rfl
  · kernel_rfl
  · kernel_rfl
  · exact fun _ _ _ h => h
  · exact Or.inl ⟨by rfl, by intro w hSw; have q0 := HS0.out w hSw; have q1 := HS1.out w hSw; go_simp; try with_reducible rfl⟩
  · assumption
  try simp only [Act.put, List.setIfInBounds_toArray, List.set_cons_zero, List.set_cons_succ]
  apply wpAnyH_take (i := 4)
  · simp only [List.getElem?_toArray]; rfl
  · kernel_rfl
  · kernel_rfl
  · kernel_rfl
  · exact fun _ _ _ h => h
  · exact Or.inl ⟨by rfl, by intro w hSw; have q0 := HS2.out w hSw; go_simp; try with_reducible rfl⟩
  · assumption
  try simp only [Act.put, List.setIfInBounds_toArray, List.set_cons_zero, List.set_cons_succ]
  apply wpAnyH_take (i := 5)
  · simp only [List.getElem?_toArray]; rfl
  · kernel_rfl
  · kernel_rfl
  · kernel_rfl
  · exact fun _ _ _ h => h
  · exact Or.inl ⟨by rfl, by intro w hSw; go_simp; try with_reducible rfl⟩
  · assumption
  try simp only [Act.put, List.setIfInBounds_toArray, List.set_cons_zero, List.set_cons_succ]
  apply wpAnyH_take (i := 6)
  · simp only [List.getElem?_toArray]; rfl
  · kernel_rfl
  · kernel_rfl
  · kernel_rfl
  · exact fun _ _ _ h => h
  · exact Or.inl ⟨by rfl, by intro w hSw; go_simp; try with_reducible rfl⟩
  · assumption
  try simp only [Act.put, List.setIfInBounds_toArray, List.set_cons_zero, List.set_cons_succ]
  apply wpAnyH_ready (rs := [7])
  · kernel_rfl
  · simp
  apply AllReadyH.cons (hs := AllReadyH.nil)
  · simp only [List.getElem?_toArray]; rfl
  intro K hK
  rw [if_pos (by rfl)]
  refine wp_put1c 5 (.int .u8 1) (b := g) (i := i * 12 + 9) (by kernel_rfl) rfl rfl rfl rfl HA9.out.1 HA9.out.2 ?_
  rw [show w.drew.setCell ⟨g, i * 12 + 9, none⟩ (.int .u8 1) = W1 from HW1.out.symm]
  refine hK.out _ _ ?_ (fun hHeld => ?_)
  · exact (by rw [HSE.out]; exact HK1.out)
  clear hK K
  try simp only [Act.put, List.setIfInBounds_toArray, List.set_cons_zero, List.set_cons_succ]
  apply wpAnyH_take (i := 8)
  · simp only [List.getElem?_toArray]; rfl
  · kernel_rfl
  · kernel_rfl
  · kernel_rfl
  · exact fun _ _ _ h => h
  · exact Or.inl ⟨by rfl, by intro w hSw; go_simp; try with_reducible rfl⟩
  · assumption
  try simp only [Act.put, List.setIfInBounds_toArray, List.set_cons_zero, List.set_cons_succ]
  apply wpAnyH_take (i := 9)
  · simp only [List.getElem?_toArray]; rfl
  · kernel_rfl
  · kernel_rfl
  · kernel_rfl
  · exact fun _ _ _ h => h
  · exact Or.inl ⟨by rfl, by intro w hSw; go_simp; try with_reducible rfl⟩
  · assumption
  try simp only [Act.put, List.setIfInBounds_toArray, List.set_cons_zero, List.set_cons_succ]
  apply wpAnyH_ready (rs := [10])
  · kernel_rfl
  · simp
  apply AllReadyH.cons (hs := AllReadyH.nil)
  · simp only [List.getElem?_toArray]; rfl
  intro K hK
  rw [if_pos (by rfl)]
  refine wp_store_mid 32 _ _ rfl g (i * 12 + 7) #[.int .u8 rk, .int .u16 rv] rfl rfl (fun j hj => ?_) (by kernel_rfl) (by rw [← Array.all_toList]; rfl) ?_
  · have hj2 : j < 2 := by simpa using hj
    have := HA7.out (7 + j) (by omega)
    rw [← Nat.add_assoc] at this
    exact this
  rw [show W1.setCells g (i * 12 + 7) (#[Value.int .u8 rk, Value.int .u16 rv] : Array Value).toList = W2 from HW2.out.symm]
  refine hK.out _ _ ?_ (fun hHeld => ?_)
  · exact (by rw [HSE.out]; exact HK2.out)
  clear hK K
  try simp only [Act.put, List.setIfInBounds_toArray, List.set_cons_zero, List.set_cons_succ]
  apply wpAnyH_take (i := 11)
  · simp only [List.getElem?_toArray]; rfl
  · kernel_rfl
  · kernel_rfl
  · kernel_rfl
  · exact fun _ _ _ h => h
  · exact Or.inl ⟨by rfl, by intro w hSw; go_simp; try with_reducible rfl⟩
  · assumption
  try simp only [Act.put, List.setIfInBounds_toArray, List.set_cons_zero, List.set_cons_succ]
  apply wpAnyH_take (i := 12)
  · simp only [List.getElem?_toArray]; rfl
  · kernel_rfl
  · kernel_rfl
  · kernel_rfl
  · exact fun _ _ _ h => h
  · exact Or.inl ⟨by rfl, by intro w hSw; go_simp; try with_reducible rfl⟩
  · assumption
  try simp only [Act.put, List.setIfInBounds_toArray, List.set_cons_zero, List.set_cons_succ]
  apply wpAnyH_ready (rs := [13])
  · kernel_rfl
  · simp
  apply AllReadyH.cons (hs := AllReadyH.nil)
  · simp only [List.getElem?_toArray]; rfl
  intro K hK
  rw [if_pos (by rfl)]
  refine wp_put1c 3 (.int .i64 at_) (b := g) (i := i * 12 + 11) (by kernel_rfl) rfl rfl rfl rfl HA11.out.1 HA11.out.2 ?_
  refine hK.out _ _ ?_ (fun hHeld => ?_)
  · exact (by rw [HSE.out]; exact HFIN.out.2)
  clear hK K
  try simp only [Act.put, List.setIfInBounds_toArray, List.set_cons_zero, List.set_cons_succ]
  refine wpAnyH_done (by kernel_rfl) ?_ _
  refine NoPanic.normal ?_
  clear hHeld hSD HS0 HS1 HS2 HSE
  go_wp2_with fail
  go_end0
  exact ⟨rfl, HFIN.out.1, HFIN.out.2⟩
theorem info1_any (w : World) {g cap n : Nat} {L : List Rw} (hrow : rkP.Own 0 w (.slice (some ⟨g, 0, none⟩) n cap) L) (i : Nat) (hi : i < L.length) (rk rv at_ : Int) :
    Calls Try.prog 44 #[.pointer (some ⟨g, i * 12, none⟩)] w fun e w' => e = .returned (.tuple #[]) ∧ rkP.Own 0 w' (.slice (some ⟨g, 0, none⟩) n cap) (L.set i (rwEnd L[i] false rk rv at_)) ∧ Keeps [g] w w' := by
  have a9 := RK.Own.there hrow i hi 9 (by decide)
  have o9 := RK.Own.cell hrow i hi 9 (by decide) { L[i] with st := 2 } (.int .u8 2) rfl
  have HFIN := Lib.hid (And.intro o9 ((Keeps.refl [g] w).setCell ⟨g, i * 12 + 9, none⟩ (.int .u8 2) (.inl (by simp))))
  obtain ⟨u, hu⟩ := Option.isSome_iff_exists.1 a9.1
  have hc : w.cell? ⟨g, i * 12 + 9, none⟩ = some u := hu
  have hf : w.frozen? ⟨g, i * 12 + 9, none⟩ = false := a9.2
  clear a9 o9 hu hrow
  go_enter Try.func44, Try.ntmps44
  go_wp2_with fail
  go_end0
  exact ⟨rfl, HFIN.out.1, HFIN.out.2⟩
end Go.Proofs.Ytjiglbjpmclncaa
/-
  The program's table: Before, Count, Rows, Find, Settle, Remove.
-/
namespace Go.Proofs.Ytjiglbjpmclncaa
open Go.RowKit Go.Maps
/-- What a call that may change the program's table tells and leaves. -/
def TPost (b kb mb : Nat) (w : World) (v : Value) (r : Int × Tb) (e : Ending) (w' : World) : Prop :=
  e = .returned (.int .i64 r.1) ∧ ∃ v', TAt b kb mb w' v' r.2 ∧ Keeps (kb :: mb :: own v) w w' ∧ FSub (own v') (own v) w.heap.size
theorem TAt.lt {b kb mb : Nat} {w : World} {v : Value} {t : Tb} (h : TAt b kb mb w v t) : b < w.heap.size := lt_of_block h.top
theorem TAt.post {b kb mb : Nat} {w w1 w' : World} {v : Value} {t t' : Tb} (h : TAt b kb mb w v t) (h1 : Keeps [] w w1) (hp : KPost kb mb w1 v t' w') : ∃ v', TAt b kb mb w' v' t' ∧ Keeps (kb :: mb :: own v) w w' ∧ FSub (own v') (own v) w.heap.size := by
  obtain ⟨v', ha, hk, hf⟩ := hp
  have hb : b ∉ kb :: mb :: own v := by simp; exact ⟨h.ap.1, h.ap.2, h.dis⟩
  refine ⟨v', ⟨hk.heap (h1.heap h.top (by simp)) hb, ha, h.ap, fun hq => ?_⟩, (h1.more (by simp)).step hk (fun q hq => hq), FSub.mono hf h1.size⟩
  rcases hf b hq with h3 | h3
  · exact h.dis h3
  · have := h.lt; have := h1.size; omega
set_option maxHeartbeats 8000000
set_option maxRecDepth 100000
theorem tbBefore_any (w : World) (x y : Rw) : Calls Try.prog 22 #[.agg (rwC x).toArray, .agg (rwC y).toArray] w fun e w' => e = .returned (.bool (rwBefore x y)) ∧ Keeps [] w w' := by
  have hk1 := (Keeps.refl [] w).alloc (.cells (rwC x).toArray 42)
  have hk2 := hk1.alloc (.cells (rwC y).toArray 42)
  have hX := heap_alloc_new w (.cells (rwC x).toArray 42)
  have hX2 := ((Keeps.refl [] _).alloc (.cells (rwC y).toArray 42)).heap hX (by simp)
  have hY := heap_alloc_new (w.alloc (.cells (rwC x).toArray 42)) (.cells (rwC y).toArray 42)
  have c1 : ((w.alloc (.cells (rwC x).toArray 42)).alloc (.cells (rwC y).toArray 42)).cell? ⟨w.heap.size, 9, none⟩ = some (.int .u8 x.st) := rw_cell hX2 9 rfl
  have c2 : ((w.alloc (.cells (rwC x).toArray 42)).alloc (.cells (rwC y).toArray 42)).cell? ⟨w.heap.size, 11, none⟩ = some (.int .i64 x.to) := rw_cell hX2 11 rfl
  have c3 : ((w.alloc (.cells (rwC x).toArray 42)).alloc (.cells (rwC y).toArray 42)).cell? ⟨(w.alloc (.cells (rwC x).toArray 42)).heap.size, 10, none⟩ = some (.int .i64 y.fr) := rw_cell hY 10 rfl
  rw [show (w.alloc (.cells (rwC x).toArray 42)).heap.size = w.heap.size + 1 from Array.size_push _] at c3
  have HK := Lib.hid hk2
  clear hk1 hk2 hX hX2 hY
  unfold rwBefore
  generalize rwC x = X at *
  generalize rwC y = Y at *
  by_cases h1 : x.st = 1
  · rw [h1] at c1
    go_enter Try.func22, Try.ntmps22
    go_wp2_with fail
    go_ret
    exact ⟨by simp [h1], HK.out⟩
  · have t1 : (x.st == 1) = false := by simpa using h1
    go_enter Try.func22, Try.ntmps22
    go_wp2_with fail
    go_ret
    exact ⟨by simp [h1], HK.out⟩
theorem tbCount_any (w : World) {b kb mb : Nat} {v : Value} {t : Tb} (hT : TAt b kb mb w v t) (hfew : t.L.length ≤ 1000000) (st : Int) :
    Calls Try.prog 19 #[.pointer (some ⟨b, 0, none⟩), .int .u8 st] w fun e w' => e = .returned (.int .i64 (tbCount t st)) ∧ Keeps [] w w' := by
  have c0 := hT.cell
  obtain ⟨k0, -, -⟩ := hT.at_.cells
  obtain ⟨a, cp, rfl, hc, hm⟩ := hT.at_.row.shape
  have HM := Lib.hid (tbMade_yes w c0)
  have HT := Lib.hid hT
  clear hT
  generalize hn2 : t.L.length = n at *
  have HN2 := Lib.hid hn2
  clear hn2
  go_enter Try.func19, Try.ntmps19
  go_wp2_with fail
  refine (HM.out).mono ?_; rintro e w1 ⟨rfl, rfl⟩
  clear HM
  go_wp2_with fail
  go_loopw [5, 7, 19] (fun z _ i wr => ∃ k c : Nat, i = .int .i64 k ∧ k ≤ n ∧ z = .int .i64 c ∧ c ≤ k ∧ tbCount ⟨t.L.take k, t.last⟩ st = c ∧ Keeps [] w1 wr) (fun _ _ i _ => n - (intOf i).toNat)
  case atStart => exact ⟨0, 0, rfl, by omega, rfl, by omega, rfl, Keeps.refl _ _⟩
  case round =>
    obtain ⟨k, c, rfl, hk, rfl, hck, hcn, hkw⟩ := hrel
    clear c0 k0
    by_cases hlt : k < n
    · have hkl : k < t.L.length := by have := HN2.out; omega
      obtain ⟨g, cap, hg, -, -, -, -, hrow⟩ := (HT.out.new hkw).at_.row.at (fun e => by rw [e] at hkl; simp at hkl)
      simp at hg
      obtain ⟨rfl, -, -⟩ := hg
      have HRW := Lib.hid (show wr.rangeAt g (k * 12) (rwC t.L[k]) from hrow k hkl)
      have htk := tbCount_take hkl st t.last
      rw [hcn] at htk
      have HRZ := Lib.hid (heap_alloc_new wr (.cells (rwC rwZero).toArray 42))
      have HKA := Lib.hid ((Keeps.refl [] wr).alloc (.cells (rwC rwZero).toArray 42))
      have HKW := Lib.hid hkw; have HTK := Lib.hid htk
      clear hrow hcn hkw htk
      generalize t.L[k] = r at *
      go_wp2_with (first
        | ((with_reducible refine wpList_loadP (g := g) (off := k * 12) (y := r) rfl ?_ HRW.out ?_); exact rfl)
        | ((with_reducible refine wpList_putP (old := rwZero) (r := r) ?_ ?_ HRZ.out ?_); exact rfl; exact rfl))
      intro W hW hkW
      have HKV := Lib.hid (HKW.out.trans (HKA.out.trans hkW (fun q hq => .inr (by simp at hq; omega))) (FSub.refl _ _))
      have m9 := rw_cell hW 9 (show (rwC r)[9]? = some (.int .u8 r.st) from rfl)
      clear hW hkW HKA HRZ HRW HKW
      generalize wr.heap.size = R9 at *
      by_cases he : r.st = st
      · have htk := HTK.out
        rw [if_pos he] at htk
        rw [he] at m9
        have HTK2 := Lib.hid htk
        clear HTK he htk
        go_wp2_with fail
        go_roundw
        case rel => exact ⟨k + 1, c + 1, by go_num, by omega, by go_num, by omega, HTK2.out, HKV.out⟩
        case measure => simp [intOf]; omega
      · have te : (r.st == st) = false := by simpa using he
        have htk := HTK.out
        rw [if_neg he] at htk
        have HTK2 := Lib.hid htk
        clear HTK he htk
        go_wp2_with fail
        go_roundw
        case rel => exact ⟨k + 1, c, by go_num, by omega, rfl, by omega, HTK2.out, HKV.out⟩
        case measure => simp [intOf]; omega
    · obtain rfl : k = n := by omega
      have HI := Lib.hid (show tbCount t st = c by rw [← HN2.out, List.take_length] at hcn; exact hcn)
      have HKW := Lib.hid hkw
      clear hcn hkw
      go_wp2_with fail
      go_ret
      exact ⟨by rw [HI.out]; rfl, HKW.out⟩
theorem tbRows_any (w : World) {b kb mb : Nat} {v : Value} {t : Tb} (hT : TAt b kb mb w v t) (hfew : t.L.length ≤ 1000000) :
    Calls Try.prog 21 #[.pointer (some ⟨b, 0, none⟩)] w fun e w' => ∃ v', e = .returned v' ∧ rkP.Own w.heap.size w' v' t.L ∧ Keeps [] w w' := by
  have c0 := hT.cell
  obtain ⟨k0, -, -⟩ := hT.at_.cells
  have HM := Lib.hid (tbMade_yes w c0)
  obtain ⟨v', w2, hrun, hown, hk⟩ := rkP.copied w 0 v t.L hT.at_.row (by omega)
  obtain ⟨a, cp, rfl, -, -⟩ := hT.at_.row.shape
  have HRUN := Lib.hid (show (Builtin.append_ #[49, 49] 49 #[.slice none 0 0, .slice a t.L.length cp]).run Try.prog w = .ok v' w2 from hrun)
  have HOWN := Lib.hid hown; have HK := Lib.hid hk
  obtain ⟨a9, c9, rfl, -, -⟩ := hown.shape
  clear hT hrun hown hk
  go_enter Try.func21, Try.ntmps21
  go_wp2_with fail
  refine (HM.out).mono ?_; rintro e w1 ⟨rfl, rfl⟩
  clear HM
  go_wp2_with (refine wpList_append_run rfl _ _ 49 rfl _ _ _ w2 rfl rfl HRUN.out ?_)
  go_ret
  exact ⟨_, rfl, HOWN.out, HK.out⟩
theorem tbSettle_any (w : World) {b kb mb : Nat} {v : Value} {t : Tb} (hT : TAt b kb mb w v t) (hok : TbOk t) (hfew : t.L.length ≤ 1000000) :
    Calls Try.prog 12 #[.pointer (some ⟨b, 0, none⟩)] w (TPost b kb mb w v (((tbSettle t).1 : Int), (tbSettle t).2)) := by
  have c0 := hT.cell
  have HM := Lib.hid (tbMade_yes w c0)
  have HS := Lib.hid (kpSettle_any w hT.at_ hok hfew)
  have HT := Lib.hid hT
  clear hT
  go_enter Try.func12, Try.ntmps12
  go_wp2_with fail
  refine (HM.out).mono ?_; rintro e w1 ⟨rfl, rfl⟩
  clear HM
  go_wp2_with fail
  refine (HS.out).mono ?_; rintro e w2 ⟨rfl, hp⟩
  have HP := Lib.hid hp
  clear hp HS
  go_wp2_with fail
  go_ret
  exact ⟨rfl, HT.out.post (Keeps.refl _ _) HP.out⟩
end Go.Proofs.Ytjiglbjpmclncaa
/-
  The program's table: Find, Remove.
-/
namespace Go.Proofs.Ytjiglbjpmclncaa
open Go.RowKit Go.Maps
def rowL (r : Rw) : Value := .agg #[.int .u8 r.c, .int .u16 r.id, .int .u8 r.o.f, .int .u8 r.o.o, .int .u8 r.o.k, .int .u16 r.o.a, .int .u16 r.o.b, .int .u8 r.rk, .int .u16 r.rv, .int .u8 r.st, .int .i64 r.fr, .int .i64 r.to]
def zeroL : Value := .agg #[.int .u8 0, .int .u16 0, .int .u8 0, .int .u8 0, .int .u8 0, .int .u16 0, .int .u16 0, .int .u8 0, .int .u16 0, .int .u8 0, .int .i64 0, .int .i64 0]
theorem yields_eqlP {ops : Array Oper} {S : World → Prop} {o : Oper} {a : Act} (hw : Region.wanted o (yielded ops a.tmps) = true) (x y : Operand) (ho : o.op = .binOp .eql 42 x y 42) (r : Rw) (hx : a.eval x = rowL r) (hy : a.eval y = zeroL) (hr : (r.to == 0) = false) : YieldsIf Try.prog ops S o (.bool false) a :=
  Or.inl ⟨hw, by
    have hr2 : ¬ r.to = 0 := by simpa using hr
    intro w _
    unfold execOp
    simp only [ho, hx, hy, rowL, zeroL]
    go_simp⟩
theorem yields_neqP {ops : Array Oper} {S : World → Prop} {o : Oper} {a : Act} (hw : Region.wanted o (yielded ops a.tmps) = true) (x y : Operand) (ho : o.op = .binOp .neq 42 x y 42) (r : Rw) (hx : a.eval x = rowL r) (hy : a.eval y = zeroL) (hr : (r.to == 0) = false) : YieldsIf Try.prog ops S o (.bool true) a :=
  Or.inl ⟨hw, by
    have hr2 : ¬ r.to = 0 := by simpa using hr
    intro w _
    unfold execOp
    simp only [ho, hx, hy, rowL, zeroL]
    go_simp⟩
theorem yields_eqlZ {ops : Array Oper} {S : World → Prop} {o : Oper} {a : Act} (hw : Region.wanted o (yielded ops a.tmps) = true) (x y : Operand) (ho : o.op = .binOp .eql 42 x y 42) (hx : a.eval x = rowL rwZero) (hy : a.eval y = zeroL) : YieldsIf Try.prog ops S o (.bool true) a :=
  Or.inl ⟨hw, by
    intro w _
    unfold execOp
    simp only [ho, hx, hy, rowL, zeroL]
    go_simp
    simp [rwZero]⟩
theorem yields_neqZ {ops : Array Oper} {S : World → Prop} {o : Oper} {a : Act} (hw : Region.wanted o (yielded ops a.tmps) = true) (x y : Operand) (ho : o.op = .binOp .neq 42 x y 42) (hx : a.eval x = rowL rwZero) (hy : a.eval y = zeroL) : YieldsIf Try.prog ops S o (.bool false) a :=
  Or.inl ⟨hw, by
    intro w _
    unfold execOp
    simp only [ho, hx, hy, rowL, zeroL]
    go_simp
    simp [rwZero]⟩
theorem row_to {t : Tb} (hok : TbOk t) {i : Nat} {r : Rw} (h : t.L[i]? = some r) : (r.to == 0) = false := by
  obtain ⟨hi, rfl⟩ := List.getElem?_eq_some_iff.1 h
  have h1 := hok.rows _ (List.getElem_mem hi)
  have h2 := h1.lt hok.hi
  have h3 := h1.fr.1
  simp; omega
set_option maxHeartbeats 8000000
set_option maxRecDepth 100000
theorem tbFindF_any (w : World) {b kb mb : Nat} {v : Value} {t : Tb} (hT : TAt b kb mb w v t) (hok : TbOk t) (hfew : t.L.length ≤ 1000000) (id : Int) (h0 : 0 ≤ id) (h1 : id < 65536) :
    Calls Try.prog 17 #[.pointer (some ⟨b, 0, none⟩), .int .u16 id] w fun e w' => e = .returned (.tuple #[.agg (rwC ((tbFind t id).getD rwZero)).toArray, .bool (tbFind t id).isSome]) ∧ Keeps [] w w' := by
  have hk0 := (Keeps.refl [] w).alloc (.cells (rwC rwZero).toArray 42)
  have hR := heap_alloc_new w (.cells (rwC rwZero).toArray 42)
  have hT0 := hT.new hk0
  have c0 := hT0.cell
  have HM := Lib.hid (tbMade_yes _ c0)
  have HF := Lib.hid (kpFind_any _ hT0.at_ hok hfew id h0 h1)
  have HK0 := Lib.hid hk0; have HR := Lib.hid hR
  have HTO := Lib.hid (fun (i : Nat) (r : Rw) (h : t.L[i]? = some r) => row_to hok h)
  have c0' : (w.alloc (.cells #[.int .u8 0, .int .u16 0, .int .u8 0, .int .u8 0, .int .u8 0, .int .u16 0, .int .u16 0, .int .u8 0, .int .u16 0, .int .u8 0, .int .i64 0, .int .i64 0] 42)).cell? ⟨b, 0, none⟩ = some (.pointer (some ⟨kb, 0, none⟩)) := c0
  clear hT hT0 hk0 hR
  go_enter Try.func17, Try.ntmps17
  go_wp2_with fail
  refine (HM.out).mono ?_; rintro e w1 ⟨rfl, rfl⟩
  clear HM
  go_wp2_with fail
  refine (HF.out).mono ?_; rintro e w2 ⟨hm, hk2⟩
  have HK2 := Lib.hid (HK0.out.trans hk2 (FSub.refl _ _))
  have HR2 := Lib.hid (hk2.heap HR.out (by simp))
  have HRN := Lib.hid (show w.heap.size < w2.heap.size from by have := hk2.size; simp at this; omega)
  have HRZ := Lib.hid (heap_alloc_new w2 (.cells (rwC rwZero).toArray 42))
  have HKA := Lib.hid ((Keeps.refl [] w2).alloc (.cells (rwC rwZero).toArray 42))
  clear HK0 HR hk2 c0 c0' HF
  generalize hRe : w.heap.size = R at *
  have HRE := Lib.hid (Nat.le_of_eq hRe)
  clear hRe
  cases hi : rwIdx id t.L with
  | none =>
    rw [hi] at hm
    simp only at hm
    subst hm
    have HF := Lib.hid (show tbFind t id = none by unfold tbFind; rw [hi])
    have HQ := Lib.hid trivial
    clear hi
    go_wp2_with (first | ((with_reducible refine wpList_putP (old := rwZero) (r := rwZero) ?_ ?_ HRZ.out ?_); exact rfl; exact rfl))
    intro W hW hkW
    have hkV := HKA.out.trans hkW (fun q hq => .inr (by simp at hq; omega))
    have HRW := Lib.hid (hkV.heap HR2.out (by simp))
    have HKV := Lib.hid (HK2.out.trans hkV (FSub.refl _ _))
    have HB := Lib.hid hW
    have HNE := Lib.hid (show w2.heap.size ≠ R from fun e => by have := HRN.out; omega)
    clear hW hkW hkV HKA HRZ HR2
    generalize w2.heap.size = R9 at *
    go_wp2_with fail
    obtain ⟨S, hS⟩ : ∃ S : World → Prop, S = fun y => Keeps [R] W y := ⟨_, rfl⟩
    have HSE := Lib.hid hS
    have hSD : S W.drew := by rw [hS]; exact (Keeps.refl _ _).drew
    have HS0 := Lib.hid (fun (w' : World) (h : S w') => show w'.rangeAt R9 0 (rwC rwZero) from by rw [hS] at h; exact fun i u hi => by rw [Nat.zero_add]; exact h.cell (rw_cell HB.out i hi) (by simp; exact HNE.out))
    clear hS
    refine wp_region_noPanic ?_
    refine wp_region_held_drew (S := S) (by kernel_rfl) hSD (fun hHeld => ?_)
    apply wpAnyH_take (i := 0)
    · simp only [List.getElem?_toArray]; rfl
    · kernel_rfl
    · kernel_rfl
    · kernel_rfl
    · exact fun _ _ _ h => h
    · exact yields_rowP rwZero (by rfl) _ rfl R9 0 rfl HS0.out
    · assumption
    try simp only [Act.put, List.setIfInBounds_toArray, List.set_cons_zero, List.set_cons_succ]
    apply wpAnyH_take (i := 1)
    · simp only [List.getElem?_toArray]; rfl
    · kernel_rfl
    · kernel_rfl
    · kernel_rfl
    · exact fun _ _ _ h => h
    · exact yields_rowP rwZero (by rfl) _ rfl R9 0 rfl HS0.out
    · assumption
    try simp only [Act.put, List.setIfInBounds_toArray, List.set_cons_zero, List.set_cons_succ]
    apply wpAnyH_ready (rs := [2])
    · kernel_rfl
    · simp
    apply AllReadyH.cons (hs := AllReadyH.nil)
    · simp only [List.getElem?_toArray]; rfl
    intro K hK
    rw [if_pos (by rfl)]
    refine wp_call8 33 _ _ rfl [] rfl Try.func33 (by kernel_rfl) (by kernel_rfl) ((tbNone_any _).mono ?_)
    rintro e w3 ⟨rfl, hk3⟩
    refine ⟨.agg #[.int .u8 0, .int .u16 0, .int .u8 0, .int .u8 0, .int .u8 0, .int .u16 0, .int .u16 0, .int .u8 0, .int .u16 0, .int .u8 0, .int .i64 0, .int .i64 0], rfl, ?_⟩
    have HK3 := Lib.hid ((Keeps.refl [] W).drew.trans hk3 (FSub.refl _ _))
    have HR3 := Lib.hid (HK3.out.heap HRW.out (by simp))
    clear hk3
    refine hK.out _ _ ?_ (fun hHeld => ?_)
    · exact (by rw [HSE.out]; exact HK3.out.more (by simp))
    clear hK K
    try simp only [Act.put, List.setIfInBounds_toArray, List.set_cons_zero, List.set_cons_succ]
    apply wpAnyH_take (i := 3)
    · simp only [List.getElem?_toArray]; rfl
    · kernel_rfl
    · kernel_rfl
    · kernel_rfl
    · exact fun _ _ _ h => h
    · exact yields_neqZ (by rfl) _ _ rfl rfl rfl
    · assumption
    try simp only [Act.put, List.setIfInBounds_toArray, List.set_cons_zero, List.set_cons_succ]
    apply wpAnyH_ready (rs := [4])
    · kernel_rfl
    · simp
    apply AllReadyH.cons (hs := AllReadyH.nil)
    · simp only [List.getElem?_toArray]; rfl
    intro K hK
    rw [if_pos (by rfl)]
    refine wp_putP (g := R) (old := rwZero) (r := rwZero) rfl rfl rfl HR3.out ?_
    intro W4 h4 hk4
    refine hK.out _ _ ?_ (fun hHeld => ?_)
    · exact (by rw [HSE.out]; exact (HK3.out.more (by simp)).step hk4 (fun q hq => hq))
    clear hK K
    try simp only [Act.put, List.setIfInBounds_toArray, List.set_cons_zero, List.set_cons_succ]
    apply wpAnyH_take (i := 5)
    · simp only [List.getElem?_toArray]; rfl
    · kernel_rfl
    · kernel_rfl
    · kernel_rfl
    · exact fun _ _ _ h => h
    · exact Or.inl ⟨by rfl, by intro w hSw; go_simp; try with_reducible rfl⟩
    · assumption
    try simp only [Act.put, List.setIfInBounds_toArray, List.set_cons_zero, List.set_cons_succ]
    refine wpAnyH_done (by kernel_rfl) ?_ _
    refine NoPanic.normal ?_
    have HFIN := Lib.hid (HKV.out.trans ((HK3.out.more (G := [R]) (by simp)).step hk4 (fun q hq => hq)) (fun q hq => .inr (by simp at hq; have := HRE.out; omega)))
    clear hHeld hSD HS0 HSE hk4
    go_wp2_with fail
    exact bodyPost_ret (results_rowP2 (x := rwZero) rfl _ _ _ rfl h4) rfl ⟨by rw [HF.out]; rfl, HFIN.out⟩
  | some i =>
    rw [hi] at hm
    obtain ⟨r, hr, rfl⟩ := hm
    have HF := Lib.hid (show tbFind t id = some r by unfold tbFind; rw [hi]; exact hr)
    have HQ := Lib.hid (HTO.out i r hr)
    clear hi hr
    go_wp2_with (first | ((with_reducible refine wpList_putP (old := rwZero) (r := r) ?_ ?_ HRZ.out ?_); exact rfl; exact rfl))
    intro W hW hkW
    have hkV := HKA.out.trans hkW (fun q hq => .inr (by simp at hq; omega))
    have HRW := Lib.hid (hkV.heap HR2.out (by simp))
    have HKV := Lib.hid (HK2.out.trans hkV (FSub.refl _ _))
    have HB := Lib.hid hW
    have HNE := Lib.hid (show w2.heap.size ≠ R from fun e => by have := HRN.out; omega)
    clear hW hkW hkV HKA HRZ HR2
    generalize w2.heap.size = R9 at *
    go_wp2_with fail
    obtain ⟨S, hS⟩ : ∃ S : World → Prop, S = fun y => Keeps [R] W y := ⟨_, rfl⟩
    have HSE := Lib.hid hS
    have hSD : S W.drew := by rw [hS]; exact (Keeps.refl _ _).drew
    have HS0 := Lib.hid (fun (w' : World) (h : S w') => show w'.rangeAt R9 0 (rwC r) from by rw [hS] at h; exact fun i u hi => by rw [Nat.zero_add]; exact h.cell (rw_cell HB.out i hi) (by simp; exact HNE.out))
    clear hS
    refine wp_region_noPanic ?_
    refine wp_region_held_drew (S := S) (by kernel_rfl) hSD (fun hHeld => ?_)
    apply wpAnyH_take (i := 0)
    · simp only [List.getElem?_toArray]; rfl
    · kernel_rfl
    · kernel_rfl
    · kernel_rfl
    · exact fun _ _ _ h => h
    · exact yields_rowP r (by rfl) _ rfl R9 0 rfl HS0.out
    · assumption
    try simp only [Act.put, List.setIfInBounds_toArray, List.set_cons_zero, List.set_cons_succ]
    apply wpAnyH_take (i := 1)
    · simp only [List.getElem?_toArray]; rfl
    · kernel_rfl
    · kernel_rfl
    · kernel_rfl
    · exact fun _ _ _ h => h
    · exact yields_rowP r (by rfl) _ rfl R9 0 rfl HS0.out
    · assumption
    try simp only [Act.put, List.setIfInBounds_toArray, List.set_cons_zero, List.set_cons_succ]
    apply wpAnyH_ready (rs := [2])
    · kernel_rfl
    · simp
    apply AllReadyH.cons (hs := AllReadyH.nil)
    · simp only [List.getElem?_toArray]; rfl
    intro K hK
    rw [if_pos (by rfl)]
    refine wp_call8 33 _ _ rfl [] rfl Try.func33 (by kernel_rfl) (by kernel_rfl) ((tbNone_any _).mono ?_)
    rintro e w3 ⟨rfl, hk3⟩
    refine ⟨.agg #[.int .u8 0, .int .u16 0, .int .u8 0, .int .u8 0, .int .u8 0, .int .u16 0, .int .u16 0, .int .u8 0, .int .u16 0, .int .u8 0, .int .i64 0, .int .i64 0], rfl, ?_⟩
    have HK3 := Lib.hid ((Keeps.refl [] W).drew.trans hk3 (FSub.refl _ _))
    have HR3 := Lib.hid (HK3.out.heap HRW.out (by simp))
    clear hk3
    refine hK.out _ _ ?_ (fun hHeld => ?_)
    · exact (by rw [HSE.out]; exact HK3.out.more (by simp))
    clear hK K
    try simp only [Act.put, List.setIfInBounds_toArray, List.set_cons_zero, List.set_cons_succ]
    apply wpAnyH_take (i := 3)
    · simp only [List.getElem?_toArray]; rfl
    · kernel_rfl
    · kernel_rfl
    · kernel_rfl
    · exact fun _ _ _ h => h
    · exact yields_neqP (by rfl) _ _ rfl r rfl rfl HQ.out
    · assumption
    try simp only [Act.put, List.setIfInBounds_toArray, List.set_cons_zero, List.set_cons_succ]
    apply wpAnyH_ready (rs := [4])
    · kernel_rfl
    · simp
    apply AllReadyH.cons (hs := AllReadyH.nil)
    · simp only [List.getElem?_toArray]; rfl
    intro K hK
    rw [if_pos (by rfl)]
    refine wp_putP (g := R) (old := rwZero) (r := r) rfl rfl rfl HR3.out ?_
    intro W4 h4 hk4
    refine hK.out _ _ ?_ (fun hHeld => ?_)
    · exact (by rw [HSE.out]; exact (HK3.out.more (by simp)).step hk4 (fun q hq => hq))
    clear hK K
    try simp only [Act.put, List.setIfInBounds_toArray, List.set_cons_zero, List.set_cons_succ]
    apply wpAnyH_take (i := 5)
    · simp only [List.getElem?_toArray]; rfl
    · kernel_rfl
    · kernel_rfl
    · kernel_rfl
    · exact fun _ _ _ h => h
    · exact Or.inl ⟨by rfl, by intro w hSw; go_simp; try with_reducible rfl⟩
    · assumption
    try simp only [Act.put, List.setIfInBounds_toArray, List.set_cons_zero, List.set_cons_succ]
    refine wpAnyH_done (by kernel_rfl) ?_ _
    refine NoPanic.normal ?_
    have HFIN := Lib.hid (HKV.out.trans ((HK3.out.more (G := [R]) (by simp)).step hk4 (fun q hq => hq)) (fun q hq => .inr (by simp at hq; have := HRE.out; omega)))
    clear hHeld hSD HS0 HSE hk4
    go_wp2_with fail
    exact bodyPost_ret (results_rowP2 (x := r) rfl _ _ _ rfl h4) rfl ⟨by rw [HF.out]; rfl, HFIN.out⟩
theorem erase_filter {L : List Rw} (hup : L.Pairwise fun a b => a.fr < b.fr ∧ a.id ≠ b.id) {id : Int} {i : Nat} (h : rwIdx id L = some i) : L.eraseIdx i = L.filter fun r => decide (r.id ≠ id) := by
  obtain ⟨hi, hid, -⟩ := rwIdx_some h
  have hp := List.pairwise_iff_getElem.1 hup
  rw [List.eraseIdx_eq_take_drop_succ]
  conv => rhs; rw [← List.take_append_drop i L, List.drop_eq_getElem_cons hi, List.filter_append, List.filter_cons_of_neg (by simp [hid])]
  congr 1
  · symm
    rw [List.filter_eq_self]
    intro r hr
    obtain ⟨j, hj, rfl⟩ := List.mem_take_iff_getElem.1 hr
    have := (hp j i (by omega) hi (by omega)).2
    rw [hid] at this
    simpa using this
  · symm
    rw [List.filter_eq_self]
    intro r hr
    obtain ⟨j, hj, rfl⟩ := List.mem_iff_getElem.1 hr
    rw [List.length_drop] at hj
    rw [List.getElem_drop]
    have := (hp i (i + 1 + j) hi (by omega) (by omega)).2
    rw [hid] at this
    simpa using Ne.symm this
theorem tbRemove_any (w : World) {b kb mb : Nat} {v : Value} {t : Tb} (hT : TAt b kb mb w v t) (hok : TbOk t) (hfew : t.L.length ≤ 1000000) (id : Int) (h0 : 0 ≤ id) (h1 : id < 65536) :
    Calls Try.prog 13 #[.pointer (some ⟨b, 0, none⟩), .int .u16 id] w (TPost b kb mb w v (tbRem t id)) := by
  have c0 := hT.cell
  have HM := Lib.hid (tbMade_yes _ c0)
  have HF := Lib.hid (kpFind_any _ hT.at_ hok hfew id h0 h1)
  have HTO := Lib.hid (fun (i : Nat) (r : Rw) (h : t.L[i]? = some r) => row_to hok h)
  have HT := Lib.hid hT
  have HREM := Lib.hid (fun (w' : World) (hk : Keeps [] w w') (i : Nat) (hi : i < t.L.length) => kpRemove_any w' (hT.at_.new hk) hok hfew i hi)
  have HUP := Lib.hid hok.up
  clear hT hok
  go_enter Try.func13, Try.ntmps13
  go_wp2_with fail
  refine (HM.out).mono ?_; rintro e w1 ⟨rfl, rfl⟩
  clear HM
  go_wp2_with fail
  refine (HF.out).mono ?_; rintro e w2 ⟨hm, hk2⟩
  have HK2 := Lib.hid hk2
  have HRZ := Lib.hid (heap_alloc_new w2 (.cells (rwC rwZero).toArray 42))
  have HKA := Lib.hid ((Keeps.refl [] w2).alloc (.cells (rwC rwZero).toArray 42))
  clear hk2 HF c0
  cases hi : rwIdx id t.L with
  | none =>
    rw [hi] at hm
    simp only at hm
    subst hm
    have HFIN := Lib.hid (fun (w' : World) (hk : Keeps [] w1 w') => show TPost b kb mb w1 v (tbRem t id) (.returned (.int .i64 7)) w' from by
      have e : tbRem t id = (7, t) := by unfold tbRem; rw [hi]; rfl
      rw [e]
      exact ⟨rfl, v, HT.out.new hk, hk.more (by simp), FSub.refl _ _⟩)
    clear hi
    go_wp2_with (first | ((with_reducible refine wpList_putP (old := rwZero) (r := rwZero) ?_ ?_ HRZ.out ?_); exact rfl; exact rfl))
    intro W hW hkW
    have HKV := Lib.hid (HK2.out.trans (HKA.out.trans hkW (fun q hq => .inr (by simp at hq; omega))) (FSub.refl _ _))
    have HB := Lib.hid hW
    clear hW hkW HKA HRZ
    generalize w2.heap.size = R9 at *
    go_wp2_with fail
    obtain ⟨S, hS⟩ : ∃ S : World → Prop, S = fun y => Keeps [] W y := ⟨_, rfl⟩
    have HSE := Lib.hid hS
    have hSD : S W.drew := by rw [hS]; exact (Keeps.refl _ _).drew
    have HS0 := Lib.hid (fun (w' : World) (h : S w') => show w'.rangeAt R9 0 (rwC rwZero) from by rw [hS] at h; exact fun i u hi => by rw [Nat.zero_add]; exact h.cell (rw_cell HB.out i hi) (by simp))
    clear hS
    refine wp_region_noPanic ?_
    refine wp_region_held_drew (S := S) (by kernel_rfl) hSD (fun hHeld => ?_)
    apply wpAnyH_take (i := 0)
    · simp only [List.getElem?_toArray]; rfl
    · kernel_rfl
    · kernel_rfl
    · kernel_rfl
    · exact fun _ _ _ h => h
    · exact yields_rowP rwZero (by rfl) _ rfl R9 0 rfl HS0.out
    · assumption
    try simp only [Act.put, List.setIfInBounds_toArray, List.set_cons_zero, List.set_cons_succ]
    apply wpAnyH_ready (rs := [1])
    · kernel_rfl
    · simp
    apply AllReadyH.cons (hs := AllReadyH.nil)
    · simp only [List.getElem?_toArray]; rfl
    intro K hK
    rw [if_pos (by rfl)]
    refine wp_call8 33 _ _ rfl [] rfl Try.func33 (by kernel_rfl) (by kernel_rfl) ((tbNone_any _).mono ?_)
    rintro e w3 ⟨rfl, hk3⟩
    refine ⟨.agg #[.int .u8 0, .int .u16 0, .int .u8 0, .int .u8 0, .int .u8 0, .int .u16 0, .int .u16 0, .int .u8 0, .int .u16 0, .int .u8 0, .int .i64 0, .int .i64 0], rfl, ?_⟩
    have HK3 := Lib.hid ((Keeps.refl [] W).drew.trans hk3 (FSub.refl _ _))
    clear hk3
    refine hK.out _ _ ?_ (fun hHeld => ?_)
    · exact (by rw [HSE.out]; exact HK3.out)
    clear hK K
    try simp only [Act.put, List.setIfInBounds_toArray, List.set_cons_zero, List.set_cons_succ]
    apply wpAnyH_take (i := 2)
    · simp only [List.getElem?_toArray]; rfl
    · kernel_rfl
    · kernel_rfl
    · kernel_rfl
    · exact fun _ _ _ h => h
    · exact yields_eqlZ (by rfl) _ _ rfl rfl rfl
    · assumption
    try simp only [Act.put, List.setIfInBounds_toArray, List.set_cons_zero, List.set_cons_succ]
    refine wpAnyH_done (by kernel_rfl) ?_ _
    refine NoPanic.normal ?_
    have HK4 := Lib.hid (HKV.out.trans HK3.out (FSub.refl _ _))
    clear hHeld hSD HS0 HSE
    go_wp2_with fail
    go_ret
    exact HFIN.out _ HK4.out
  | some i =>
    rw [hi] at hm
    obtain ⟨r, hr, rfl⟩ := hm
    have HQ := Lib.hid (HTO.out i r hr)
    have HIL := Lib.hid (List.getElem?_eq_some_iff.1 hr).1
    have HEQ := Lib.hid (show tbRem t id = (0, ⟨t.L.eraseIdx i, t.last⟩) by unfold tbRem; rw [hi, erase_filter HUP.out hi]; rfl)
    clear hi hr
    go_wp2_with (first | ((with_reducible refine wpList_putP (old := rwZero) (r := r) ?_ ?_ HRZ.out ?_); exact rfl; exact rfl))
    intro W hW hkW
    have HKV := Lib.hid (HK2.out.trans (HKA.out.trans hkW (fun q hq => .inr (by simp at hq; omega))) (FSub.refl _ _))
    have HB := Lib.hid hW
    clear hW hkW HKA HRZ
    generalize w2.heap.size = R9 at *
    go_wp2_with fail
    obtain ⟨S, hS⟩ : ∃ S : World → Prop, S = fun y => Keeps [] W y := ⟨_, rfl⟩
    have HSE := Lib.hid hS
    have hSD : S W.drew := by rw [hS]; exact (Keeps.refl _ _).drew
    have HS0 := Lib.hid (fun (w' : World) (h : S w') => show w'.rangeAt R9 0 (rwC r) from by rw [hS] at h; exact fun i u hi => by rw [Nat.zero_add]; exact h.cell (rw_cell HB.out i hi) (by simp))
    clear hS
    refine wp_region_noPanic ?_
    refine wp_region_held_drew (S := S) (by kernel_rfl) hSD (fun hHeld => ?_)
    apply wpAnyH_take (i := 0)
    · simp only [List.getElem?_toArray]; rfl
    · kernel_rfl
    · kernel_rfl
    · kernel_rfl
    · exact fun _ _ _ h => h
    · exact yields_rowP r (by rfl) _ rfl R9 0 rfl HS0.out
    · assumption
    try simp only [Act.put, List.setIfInBounds_toArray, List.set_cons_zero, List.set_cons_succ]
    apply wpAnyH_ready (rs := [1])
    · kernel_rfl
    · simp
    apply AllReadyH.cons (hs := AllReadyH.nil)
    · simp only [List.getElem?_toArray]; rfl
    intro K hK
    rw [if_pos (by rfl)]
    refine wp_call8 33 _ _ rfl [] rfl Try.func33 (by kernel_rfl) (by kernel_rfl) ((tbNone_any _).mono ?_)
    rintro e w3 ⟨rfl, hk3⟩
    refine ⟨.agg #[.int .u8 0, .int .u16 0, .int .u8 0, .int .u8 0, .int .u8 0, .int .u16 0, .int .u16 0, .int .u8 0, .int .u16 0, .int .u8 0, .int .i64 0, .int .i64 0], rfl, ?_⟩
    have HK3 := Lib.hid ((Keeps.refl [] W).drew.trans hk3 (FSub.refl _ _))
    clear hk3
    refine hK.out _ _ ?_ (fun hHeld => ?_)
    · exact (by rw [HSE.out]; exact HK3.out)
    clear hK K
    try simp only [Act.put, List.setIfInBounds_toArray, List.set_cons_zero, List.set_cons_succ]
    apply wpAnyH_take (i := 2)
    · simp only [List.getElem?_toArray]; rfl
    · kernel_rfl
    · kernel_rfl
    · kernel_rfl
    · exact fun _ _ _ h => h
    · exact yields_eqlP (by rfl) _ _ rfl r rfl rfl HQ.out
    · assumption
    try simp only [Act.put, List.setIfInBounds_toArray, List.set_cons_zero, List.set_cons_succ]
    refine wpAnyH_done (by kernel_rfl) ?_ _
    refine NoPanic.normal ?_
    have HK4 := Lib.hid (HKV.out.trans HK3.out (FSub.refl _ _))
    clear hHeld hSD HS0 HSE
    have c4 := (HT.out.new HK4.out).cell
    go_wp2_with fail
    refine (HREM.out _ HK4.out i HIL.out).mono ?_; rintro e w5 ⟨rfl, hp⟩
    have HP := Lib.hid hp
    clear hp c4 HREM
    go_wp2_with fail
    go_ret
    exact ⟨by rw [HEQ.out]; rfl, by rw [HEQ.out]; exact HT.out.post HK4.out HP.out⟩
end Go.Proofs.Ytjiglbjpmclncaa
/-
  The program's table: Invoke.
-/
namespace Go.Proofs.Ytjiglbjpmclncaa
open Go.RowKit Go.Maps
set_option maxHeartbeats 8000000
set_option maxRecDepth 100000
theorem tbInvoke_any (w : World) {b kb mb : Nat} {v : Value} {t : Tb} (hT : TAt b kb mb w v t) (hok : TbOk t) (hfew : t.L.length ≤ 1000000) (c id : Int) (o : Opn) (at_ : Int) (h0 : 0 ≤ id) (h1 : id < 65536) :
    Calls Try.prog 14 #[.pointer (some ⟨b, 0, none⟩), .int .u8 c, .int .u16 id, o.val, .int .i64 at_] w (TPost b kb mb w v (tbInv t c id o at_)) := by
  have hk0 := (Keeps.refl [] w).alloc (.cells #[.int .u8 o.f, .int .u8 o.o, .int .u8 o.k, .int .u16 o.a, .int .u16 o.b] 30)
  have hX := heap_alloc_new w (.cells #[.int .u8 o.f, .int .u8 o.o, .int .u8 o.k, .int .u16 o.a, .int .u16 o.b] 30)
  have hT0 := hT.new hk0
  have c0 := hT0.cell
  have HMADE := Lib.hid (tbMade_yes _ c0)
  have HRISE := Lib.hid (kpRises_any _ hT0.at_ hok.lo at_)
  have HF := Lib.hid (kpFind_any _ hT0.at_ hok hfew id h0 h1)
  have HTO := Lib.hid (fun (i : Nat) (r : Rw) (h : t.L[i]? = some r) => row_to hok h)
  have HT := Lib.hid hT
  have HBN := Lib.hid (show w.heap.size ∉ kb :: mb :: own v from fun hq => by
    rcases List.mem_cons.1 hq with h | h
    · have := hT.at_.lt; omega
    rcases List.mem_cons.1 h with h | h
    · have := hT.at_.map.lt; omega
    · have := (row_base hT.at_.row _ h).2; omega)
  have HBF := Lib.hid (show b ∉ kb :: mb :: own v by simp; exact ⟨hT.ap.1, hT.ap.2, hT.dis⟩)
  have HADD := Lib.hid (fun (w' : World) (hk : Keeps [] w w') (hno : rwIdx id t.L = none) (hfr : t.last < at_ ∧ at_ ≤ rwMost) => kpAdd_any w' (hT.at_.new hk) hok hfew (rwNew c id o at_) ⟨h0, h1⟩ hno hfr)
  have HK0 := Lib.hid hk0; have HX := Lib.hid hX
  clear hT hT0 hok hk0 hX
  unfold Opn.val
  go_enter Try.func14, Try.ntmps14
  go_wp2_with fail
  generalize w.alloc _ = W0 at *
  generalize w.heap.size = B at *
  refine (HMADE.out).mono ?_; rintro e w1 ⟨rfl, rfl⟩
  clear HMADE
  go_wp2_with fail
  refine (HRISE.out).mono ?_; rintro e w2 ⟨rfl, rfl⟩
  clear HRISE
  by_cases hm : tbMay t at_ = true
  · rw [hm]
    go_wp2_with fail
    refine (HF.out).mono ?_; rintro e w2 ⟨hf, hk2⟩
    have HK2 := Lib.hid (HK0.out.trans hk2 (FSub.refl _ _))
    have HX2 := Lib.hid (hk2.heap HX.out (by simp))
    have HRZ := Lib.hid (heap_alloc_new w2 (.cells (rwC rwZero).toArray 42))
    have HKA := Lib.hid ((Keeps.refl [] w2).alloc (.cells (rwC rwZero).toArray 42))
    have HFR := Lib.hid (show t.last < at_ ∧ at_ ≤ rwMost from ⟨(tbMay_iff.1 hm).2.2, (tbMay_iff.1 hm).2.1⟩)
    clear hk2 HF c0
    cases hi : rwIdx id t.L with
    | some i =>
      rw [hi] at hf
      obtain ⟨r, hr, rfl⟩ := hf
      have HQ := Lib.hid (HTO.out i r hr)
      have HFIN := Lib.hid (fun (w' : World) (hk : Keeps [] w w') => show TPost b kb mb w v (tbInv t c id o at_) (.returned (.int .i64 8)) w' from by
        have e : tbInv t c id o at_ = (8, t) := by unfold tbInv; rw [hm, hi]; rfl
        rw [e]
        exact ⟨rfl, v, HT.out.new hk, hk.more (by simp), FSub.refl _ _⟩)
      clear hi hr hm HFR HADD
      go_wp2_with (first | ((with_reducible refine wpList_putP (old := rwZero) (r := r) ?_ ?_ HRZ.out ?_); exact rfl; exact rfl))
      intro W hW hkW
      have HKV2 := Lib.hid (HKA.out.trans hkW (fun q hq => .inr (by simp at hq; omega)))
      have HKV := Lib.hid (HK2.out.trans HKV2.out (FSub.refl _ _))
      have HB9 := Lib.hid hW
      clear hW hkW HKA HRZ
      generalize w2.heap.size = R9 at *
      go_wp2_with fail
      obtain ⟨S, hS⟩ : ∃ S : World → Prop, S = fun y => Keeps [] W y := ⟨_, rfl⟩
      have HSE := Lib.hid hS
      have hSD : S W.drew := by rw [hS]; exact (Keeps.refl _ _).drew
      have HS0 := Lib.hid (fun (w' : World) (h : S w') => show w'.rangeAt R9 0 (rwC r) from by rw [hS] at h; exact fun i u hi => by rw [Nat.zero_add]; exact h.cell (rw_cell HB9.out i hi) (by simp))
      clear hS
      refine wp_region_noPanic ?_
      refine wp_region_held_drew (S := S) (by kernel_rfl) hSD (fun hHeld => ?_)
      apply wpAnyH_take (i := 0)
      · simp only [List.getElem?_toArray]; rfl
      · kernel_rfl
      · kernel_rfl
      · kernel_rfl
      · exact fun _ _ _ h => h
      · exact yields_rowP r (by rfl) _ rfl R9 0 rfl HS0.out
      · assumption
      try simp only [Act.put, List.setIfInBounds_toArray, List.set_cons_zero, List.set_cons_succ]
      apply wpAnyH_ready (rs := [1])
      · kernel_rfl
      · simp
      apply AllReadyH.cons (hs := AllReadyH.nil)
      · simp only [List.getElem?_toArray]; rfl
      intro K hK
      rw [if_pos (by rfl)]
      refine wp_call8 33 _ _ rfl [] rfl Try.func33 (by kernel_rfl) (by kernel_rfl) ((tbNone_any _).mono ?_)
      rintro e w3 ⟨rfl, hk3⟩
      refine ⟨.agg #[.int .u8 0, .int .u16 0, .int .u8 0, .int .u8 0, .int .u8 0, .int .u16 0, .int .u16 0, .int .u8 0, .int .u16 0, .int .u8 0, .int .i64 0, .int .i64 0], rfl, ?_⟩
      have HK3 := Lib.hid ((Keeps.refl [] W).drew.trans hk3 (FSub.refl _ _))
      clear hk3
      refine hK.out _ _ ?_ (fun hHeld => ?_)
      · exact (by rw [HSE.out]; exact HK3.out)
      clear hK K
      try simp only [Act.put, List.setIfInBounds_toArray, List.set_cons_zero, List.set_cons_succ]
      apply wpAnyH_take (i := 2)
      · simp only [List.getElem?_toArray]; rfl
      · kernel_rfl
      · kernel_rfl
      · kernel_rfl
      · exact fun _ _ _ h => h
      · exact yields_neqP (by rfl) _ _ rfl r rfl rfl HQ.out
      · assumption
      try simp only [Act.put, List.setIfInBounds_toArray, List.set_cons_zero, List.set_cons_succ]
      refine wpAnyH_done (by kernel_rfl) ?_ _
      refine NoPanic.normal ?_
      have HK4 := Lib.hid (HKV.out.trans HK3.out (FSub.refl _ _))
      have HKA3 := Lib.hid (HKV2.out.trans HK3.out (FSub.refl _ _))
      clear hHeld hSD HS0 HSE
      go_wp2_with fail
      go_ret
      exact HFIN.out _ HK4.out
    | none =>
      rw [hi] at hf
      simp only at hf
      subst hf
      have HE := Lib.hid (show tbInv t c id o at_ = (0, ⟨t.L ++ [rwNew c id o at_], at_⟩) by unfold tbInv; rw [hm, hi]; rfl)
      have HADD2 := Lib.hid (fun (w' : World) (hk : Keeps [] w w') => HADD.out w' hk hi HFR.out)
      clear hm HFR HADD hi
      go_wp2_with (first | ((with_reducible refine wpList_putP (old := rwZero) (r := rwZero) ?_ ?_ HRZ.out ?_); exact rfl; exact rfl))
      intro W hW hkW
      have HKV2 := Lib.hid (HKA.out.trans hkW (fun q hq => .inr (by simp at hq; omega)))
      have HKV := Lib.hid (HK2.out.trans HKV2.out (FSub.refl _ _))
      have HB9 := Lib.hid hW
      clear hW hkW HKA HRZ
      generalize w2.heap.size = R9 at *
      go_wp2_with fail
      obtain ⟨S, hS⟩ : ∃ S : World → Prop, S = fun y => Keeps [] W y := ⟨_, rfl⟩
      have HSE := Lib.hid hS
      have hSD : S W.drew := by rw [hS]; exact (Keeps.refl _ _).drew
      have HS0 := Lib.hid (fun (w' : World) (h : S w') => show w'.rangeAt R9 0 (rwC rwZero) from by rw [hS] at h; exact fun i u hi => by rw [Nat.zero_add]; exact h.cell (rw_cell HB9.out i hi) (by simp))
      clear hS
      refine wp_region_noPanic ?_
      refine wp_region_held_drew (S := S) (by kernel_rfl) hSD (fun hHeld => ?_)
      apply wpAnyH_take (i := 0)
      · simp only [List.getElem?_toArray]; rfl
      · kernel_rfl
      · kernel_rfl
      · kernel_rfl
      · exact fun _ _ _ h => h
      · exact yields_rowP rwZero (by rfl) _ rfl R9 0 rfl HS0.out
      · assumption
      try simp only [Act.put, List.setIfInBounds_toArray, List.set_cons_zero, List.set_cons_succ]
      apply wpAnyH_ready (rs := [1])
      · kernel_rfl
      · simp
      apply AllReadyH.cons (hs := AllReadyH.nil)
      · simp only [List.getElem?_toArray]; rfl
      intro K hK
      rw [if_pos (by rfl)]
      refine wp_call8 33 _ _ rfl [] rfl Try.func33 (by kernel_rfl) (by kernel_rfl) ((tbNone_any _).mono ?_)
      rintro e w3 ⟨rfl, hk3⟩
      refine ⟨.agg #[.int .u8 0, .int .u16 0, .int .u8 0, .int .u8 0, .int .u8 0, .int .u16 0, .int .u16 0, .int .u8 0, .int .u16 0, .int .u8 0, .int .i64 0, .int .i64 0], rfl, ?_⟩
      have HK3 := Lib.hid ((Keeps.refl [] W).drew.trans hk3 (FSub.refl _ _))
      clear hk3
      refine hK.out _ _ ?_ (fun hHeld => ?_)
      · exact (by rw [HSE.out]; exact HK3.out)
      clear hK K
      try simp only [Act.put, List.setIfInBounds_toArray, List.set_cons_zero, List.set_cons_succ]
      apply wpAnyH_take (i := 2)
      · simp only [List.getElem?_toArray]; rfl
      · kernel_rfl
      · kernel_rfl
      · kernel_rfl
      · exact fun _ _ _ h => h
      · exact yields_neqZ (by rfl) _ _ rfl rfl rfl
      · assumption
      try simp only [Act.put, List.setIfInBounds_toArray, List.set_cons_zero, List.set_cons_succ]
      refine wpAnyH_done (by kernel_rfl) ?_ _
      refine NoPanic.normal ?_
      have HK4 := Lib.hid (HKV.out.trans HK3.out (FSub.refl _ _))
      have HKA3 := Lib.hid (HKV2.out.trans HK3.out (FSub.refl _ _))
      clear hHeld hSD HS0 HSE
      have c4 := (HT.out.new HK4.out).cell
      have HX4 := Lib.hid ((HKA3.out).heap HX2.out (by simp))
      clear HX HX2 HB9
      go_wp2_with fail
      obtain ⟨S2, hS⟩ : ∃ S2 : World → Prop, S2 = fun y => Keeps (kb :: mb :: own v) w3 y := ⟨_, rfl⟩
      have HSE := Lib.hid hS
      have hSD : S2 w3.drew := by rw [hS]; exact (Keeps.refl _ _).drew
      have HS0 := Lib.hid (fun (w' : World) (h : S2 w') => show w'.cell? ⟨b, 0, none⟩ = some (.pointer (some ⟨kb, 0, none⟩)) from by rw [hS] at h; exact h.cell c4 HBF.out)
      have HS1 := Lib.hid (fun (w' : World) (h : S2 w') => show w'.rangeAt B 0 [.int .u8 o.f, .int .u8 o.o, .int .u8 o.k, .int .u16 o.a, .int .u16 o.b] from by rw [hS] at h; exact fun i u hi => h.cell (by have := HX4.out; simp only [World.cell?, this, Nat.zero_add]; simpa using hi) HBN.out)
      clear hS c4
      refine wp_region_noPanic ?_
      refine wp_region_held_drew (S := S2) (by kernel_rfl) hSD (fun hHeld => ?_)
      apply wpAnyH_take (i := 0)
      · simp only [List.getElem?_toArray]; rfl
      · kernel_rfl
      · kernel_rfl
      · kernel_rfl
      · exact fun _ _ _ h => h
      · exact Or.inl ⟨by rfl, by intro w hSw; go_simp; try with_reducible rfl⟩
      · assumption
      try simp only [Act.put, List.setIfInBounds_toArray, List.set_cons_zero, List.set_cons_succ]
      apply wpAnyH_take (i := 1)
      · simp only [List.getElem?_toArray]; rfl
      · kernel_rfl
      · kernel_rfl
      · kernel_rfl
      · exact fun _ _ _ h => h
      · exact Or.inl ⟨by rfl, by intro w hSw; go_simp; try with_reducible rfl⟩
      · assumption
      try simp only [Act.put, List.setIfInBounds_toArray, List.set_cons_zero, List.set_cons_succ]
      apply wpAnyH_take (i := 2)
      · simp only [List.getElem?_toArray]; rfl
      · kernel_rfl
      · kernel_rfl
      · kernel_rfl
      · exact fun _ _ _ h => h
      · exact Or.inl ⟨by rfl, by intro w hSw; go_simp; try with_reducible rfl⟩
      · assumption
      try simp only [Act.put, List.setIfInBounds_toArray, List.set_cons_zero, List.set_cons_succ]
      apply wpAnyH_take (i := 3)
      · simp only [List.getElem?_toArray]; rfl
      · kernel_rfl
      · kernel_rfl
      · kernel_rfl
      · exact fun _ _ _ h => h
      · exact Or.inl ⟨by rfl, by intro w hSw; have q0 := HS0.out w hSw; go_simp; try with_reducible rfl⟩
      · assumption
      try simp only [Act.put, List.setIfInBounds_toArray, List.set_cons_zero, List.set_cons_succ]
      apply wpAnyH_take (i := 4)
      · simp only [List.getElem?_toArray]; rfl
      · kernel_rfl
      · kernel_rfl
      · kernel_rfl
      · exact fun _ _ _ h => h
      · exact Or.inl ⟨by rfl, by intro w hSw; go_simp; try with_reducible rfl⟩
      · assumption
      try simp only [Act.put, List.setIfInBounds_toArray, List.set_cons_zero, List.set_cons_succ]
      apply wpAnyH_take (i := 5)
      · simp only [List.getElem?_toArray]; rfl
      · kernel_rfl
      · kernel_rfl
      · kernel_rfl
      · exact fun _ _ _ h => h
      · exact Or.inl ⟨by rfl, by intro w hSw; go_simp; try with_reducible rfl⟩
      · assumption
      try simp only [Act.put, List.setIfInBounds_toArray, List.set_cons_zero, List.set_cons_succ]
      apply wpAnyH_take (i := 6)
      · simp only [List.getElem?_toArray]; rfl
      · kernel_rfl
      · kernel_rfl
      · kernel_rfl
      · exact fun _ _ _ h => h
      · exact yields_op8 (by rfl) _ rfl B 0 rfl HS1.out
      · assumption
      try simp only [Act.put, List.setIfInBounds_toArray, List.set_cons_zero, List.set_cons_succ]
      apply wpAnyH_take (i := 7)
      · simp only [List.getElem?_toArray]; rfl
      · kernel_rfl
      · kernel_rfl
      · kernel_rfl
      · exact fun _ _ _ h => h
      · exact Or.inl ⟨by rfl, by intro w hSw; go_simp; try with_reducible rfl⟩
      · assumption
      try simp only [Act.put, List.setIfInBounds_toArray, List.set_cons_zero, List.set_cons_succ]
      apply wpAnyH_take (i := 8)
      · simp only [List.getElem?_toArray]; rfl
      · kernel_rfl
      · kernel_rfl
      · kernel_rfl
      · exact fun _ _ _ h => h
      · exact Or.inl ⟨by rfl, by intro w hSw; go_simp; try with_reducible rfl⟩
      · assumption
      try simp only [Act.put, List.setIfInBounds_toArray, List.set_cons_zero, List.set_cons_succ]
      apply wpAnyH_ready (rs := [9])
      · kernel_rfl
      · simp
      apply AllReadyH.cons (hs := AllReadyH.nil)
      · simp only [List.getElem?_toArray]; rfl
      intro K hK
      rw [if_pos (by rfl)]
      refine wp_call8 36 _ _ rfl [.pointer (some ⟨kb, 0, none⟩), .agg (rwC (rwNew c id o at_)).toArray] rfl Try.func36 (by kernel_rfl) (by kernel_rfl) ((HADD2.out _ HK4.out.drew).mono ?_)
      rintro e w5 ⟨rfl, hp⟩
      refine ⟨_, rfl, ?_⟩
      have HP := Lib.hid hp
      clear hp HADD2
      refine hK.out _ _ ?_ (fun hHeld => ?_)
      · exact (by rw [HSE.out]; obtain ⟨v', _, hk, _⟩ := HP.out; exact (Keeps.refl _ _).drew.step hk (fun q hq => hq))
      clear hK K
      try simp only [Act.put, List.setIfInBounds_toArray, List.set_cons_zero, List.set_cons_succ]
      refine wpAnyH_done (by kernel_rfl) ?_ _
      refine NoPanic.normal ?_
      clear hHeld hSD HS0 HS1 HSE
      go_wp2_with fail
      go_ret
      exact ⟨by rw [HE.out]; rfl, by rw [HE.out]; exact HT.out.post HK4.out.drew HP.out⟩
  · have hm2 : tbMay t at_ = false := by simpa using hm
    have HR := Lib.hid (show TPost b kb mb w v (tbInv t c id o at_) (.returned (.int .i64 2)) w2 from by
      unfold tbInv
      rw [if_pos hm2]
      exact ⟨rfl, v, HT.out.new HK0.out, HK0.out.more (by simp), FSub.refl _ _⟩)
    rw [hm2]
    clear HF HADD HX hm
    go_wp2_with fail
    go_ret
    exact HR.out
end Go.Proofs.Ytjiglbjpmclncaa
