/-
  The document's history: its small functions.
-/
import Derived.Test.YtlaccndjlfpjbaaGreatDoorA18
set_option linter.unusedSimpArgs false
set_option linter.unusedVariables false
namespace Go.Proofs.YtlaccndjlfpjbaaGreatDoor
open Go.RowKit Go.Maps
set_option maxHeartbeats 8000000
set_option maxRecDepth 100000
theorem cell_lit {w : World} {b : Nat} {cs : Array Value} {t : TypeId} {fr : Nat × Nat} (h : w.heap[b]? = some (.cells cs t fr)) (i : Nat) {v : Value} (hv : cs[i]? = some v) : w.cell? ⟨b, i, none⟩ = some v := by
  simp only [World.cell?, h]; exact hv
theorem r7Opens_any (w : World) (x : Ev) (tx rd : Value) : Calls Tryz.prog 44 #[.agg (evC x tx rd)] w fun e w' => e = .returned (.bool (hOpens x)) ∧ Keeps [] w w' := by
  have hk := (Keeps.refl [] w).alloc (.cells (evC x tx rd) 42)
  have e0 := ev_cell (heap_alloc_new w (.cells (evC x tx rd) 42)) 0 (evC_0 x tx rd)
  have HK := Lib.hid hk
  clear hk
  by_cases h2 : x.k = 2
  · rw [show hOpens x = true by simp [hOpens, h2]]
    rw [h2] at e0
    clear h2
    go_enter Tryz.func44, Tryz.ntmps44
    go_wp2_with fail
    go_ret
    exact ⟨rfl, HK.out⟩
  · have t2 : (x.k == 2) = false := by simpa using h2
    by_cases h5 : x.k = 5
    · rw [show hOpens x = true by simp [hOpens, h5]]
      rw [h5] at e0
      clear h5 h2 t2
      go_enter Tryz.func44, Tryz.ntmps44
      go_wp2_with fail
      go_ret
      exact ⟨rfl, HK.out⟩
    · rw [show hOpens x = false by simp [hOpens, h2, h5]]
      have t5 : (x.k == 5) = false := by simpa using h5
      clear h5 h2
      go_enter Tryz.func44, Tryz.ntmps44
      go_wp2_with fail
      go_ret
      exact ⟨rfl, HK.out⟩
/-- What the document's history knows of each event that was taken. -/
theorem R7At.get {N b base : Nat} {w : World} {v : Value} {T : EvL} (h : R7At N b base w v T) (hne : T ≠ []) : ∃ g cap, v = .slice (some ⟨g, 0, none⟩) T.length cap ∧ T.length ≤ cap ∧ cap ≤ 9223372036854775807 ∧ base ≤ g ∧ g < w.heap.size ∧
    ∀ j (hj : j < T.length), w.rangeAt g (j * 19) (evC T[j].1 T[j].2.1 T[j].2.2).toList ∧ EvAt N w T[j].2.1 T[j].2.2 T[j].1 := by
  obtain ⟨g, cap, h1, h2, h3, h4, h5, h6⟩ := h.row.at hne
  exact ⟨g, cap, h1, h2, h3, h4, h5, fun j hj => ⟨h6 j hj, h.ok _ (List.getElem_mem hj)⟩⟩
theorem if_some {P : Option Ev} {B : Bool} {x : Ev} (h : P = if B = true then some x else none) : ∀ y, P = some y → y = x := by
  intro y hy
  rw [h] at hy
  cases B
  · cases hy
  · simpa using hy.symm
theorem r7Pending_any (w : World) {N b base : Nat} {v : Value} {T : EvL} (hH : R7At N b base w v T) (hn : T.length ≤ 1000) (c : Int) :
    Calls Tryz.prog 33 #[.pointer (some ⟨b, 0, none⟩), .int .u8 c] w fun e w' => ∃ x tx rd, e = .returned (.tuple #[.agg (evC x tx rd), .bool (hPend (evsOf T) c).isSome]) ∧ EvAt N w' tx rd x ∧ (∀ y, hPend (evsOf T) c = some y → y = x) ∧ Keeps [] w w' := by
  obtain ⟨a, cp, rfl, hc, hm⟩ := hH.row.shape
  have hk0 := (Keeps.refl [] w).alloc (.cells #[.int .u8 0, .int .u8 0, .int .u16 0, .int .u8 0, .int .u8 0, .int .u8 0, .int .u16 0, .int .u16 0, .int .u8 0, .int .u16 0, .slice none 0 0, .slice none 0 0, .int .u8 0, .int .i64 0, .int .i64 0, .int .i64 0, .bool false, .bool false, .bool false] 42)
  have hR := heap_alloc_new w (.cells #[.int .u8 0, .int .u8 0, .int .u16 0, .int .u8 0, .int .u8 0, .int .u8 0, .int .u16 0, .int .u16 0, .int .u8 0, .int .u16 0, .slice none 0 0, .slice none 0 0, .int .u8 0, .int .i64 0, .int .i64 0, .int .i64 0, .bool false, .bool false, .bool false] 42)
  have hH0 := hH.new hk0
  have hcell : (w.alloc (.cells #[.int .u8 0, .int .u8 0, .int .u16 0, .int .u8 0, .int .u8 0, .int .u8 0, .int .u16 0, .int .u16 0, .int .u8 0, .int .u16 0, .slice none 0 0, .slice none 0 0, .int .u8 0, .int .i64 0, .int .i64 0, .int .i64 0, .bool false, .bool false, .bool false] 42)).cell? ⟨b, 0, none⟩ = some (.slice a T.length cp) := by simp [World.cell?, hH0.cell]
  have hbz := lt_of_block hH.cell
  have HGL := Lib.hid (show T ≠ [] → ∀ g, a = some ⟨g, 0, none⟩ → g < w.heap.size from fun hne g hg => by obtain ⟨g', cap, e, _, _, _, h, _⟩ := hH.get hne; subst hg; simp at e; rw [e.1]; exact h)
  have HNB := Lib.hid (show N ≤ w.heap.size from Nat.le_trans hH.nb (Nat.le_of_lt hbz)); have HNR := Lib.hid (Nat.le_trans (Nat.le_trans hH.nb (Nat.le_of_lt hbz)) hk0.size)
  have HH := Lib.hid hH0; have HK0 := Lib.hid hk0; have HR := Lib.hid hR
  clear hH hH0 hk0 hR
  generalize hn2 : T.length = n at *
  have HN2 := Lib.hid hn2
  clear hn2
  go_enter Tryz.func33, Tryz.ntmps33
  go_wp2_with fail
  generalize w.alloc _ = W at *
  generalize hRe : w.heap.size = R at *
  have HRE := Lib.hid (Nat.le_of_eq hRe)
  clear hRe
  go_loopw [5, 6] (fun q i wr => ∃ ii : Int, q = .bool false ∧ i = .int .i64 ii ∧ (0 ≤ ii ∨ (ii = -1 ∧ n = 0)) ∧ ii < n ∧ hLastOf c ((evsOf T).drop (ii + 1).toNat) = none ∧ wr = W) (fun _ i _ => (intOf i + 1).toNat)
  case atStart => exact ⟨(n : Int) - 1, rfl, rfl, (by rcases Nat.eq_zero_or_pos n with h | h; exact .inr (by omega); exact .inl (by omega)), by omega, by rw [List.drop_of_length_le (by have := HN2.out; simp [evsOf]; omega)]; rfl, rfl⟩
  case round =>
    obtain ⟨ii, rfl, rfl, h1, h2, hl, rfl⟩ := hrel
    by_cases hp : 0 < ii
    · obtain ⟨j, rfl⟩ := Int.eq_ofNat_of_zero_le (Int.le_of_lt hp)
      have hjT : j < T.length := by have := HN2.out; omega
      obtain ⟨g, cap, hge, _, _, _, hgs, hrng⟩ := HH.out.get (fun e => by rw [e] at hjT; simp at hjT)
      simp at hge
      obtain ⟨rfl, -⟩ := hge
      obtain ⟨hr, hat⟩ := hrng j hjT
      have hjL : j < (evsOf T).length := by simpa [evsOf] using hjT
      have hxL : (evsOf T)[j] = T[j].1 := by simp [evsOf]
      have hl' : hLastOf c ((evsOf T).drop (j + 1)) = none := by have e : ((j : Int) + 1).toNat = j + 1 := by omega
                                                                 rw [e] at hl; exact hl
      have hat1 := hLastOf_at hjL (by omega) hl'
      have hst := fun h => hLastOf_step (k := j) hjL hl' h
      rw [hxL] at hat1 hst
      have d1 : wr.cell? ⟨g, j * 19 + 1, none⟩ = some (.int .u8 T[j].1.c) := hr 1 _ rfl
      have hgR : g < R := HGL.out (fun e => by rw [e] at hjT; simp at hjT) g rfl
      by_cases hcc : T[j].1.c = c
      · rw [if_pos hcc] at hat1
        rw [hcc] at d1
        have HPE := Lib.hid (show hPend (evsOf T) c = if hOpens T[j].1 then some T[j].1 else none by unfold hPend; rw [hat1])
        have HAT := Lib.hid hat; have HRG := Lib.hid hr
        have x1 := hat.t.one; have x2 := hat.r.one
        clear hrng hat1 hst hl hl' hxL hjL hat hr HGL hcc
        generalize T[j].1 = x at *
        generalize T[j].2.1 = tx at *
        generalize T[j].2.2 = rd at *
        go_wp2_with fail
        obtain ⟨S, hS⟩ : ∃ S : World → Prop, S = fun y => Keeps [R] wr y := ⟨_, rfl⟩
        have HSE := Lib.hid hS
        have hs1 : ∀ w', S w' → w'.cell? ⟨b, 0, none⟩ = some (.slice (some ⟨g, 0, none⟩) n cp) := fun w' h => by rw [hS] at h; exact h.cell hcell (by simp; omega)
        have HS2 := Lib.hid (fun (w' : World) (h : S w') => show w'.rangeAt g (j * 19) (evC x tx rd).toList from by rw [hS] at h; exact fun i u hi => h.cell (HRG.out i u hi) (by simp; omega))
        have hSD : S wr.drew := by rw [hS]; exact (Keeps.refl _ _).drew
        clear hS
        refine wp_region_noPanic ?_
        refine wp_region_held_drew (S := S) (by kernel_rfl) hSD (fun hHeld => ?_)
        apply wpAnyH_take (i := 0)
        · simp only [List.getElem?_toArray]; rfl
        · kernel_rfl
        · kernel_rfl
        · kernel_rfl
        · exact fun _ _ _ h => h
        · exact Or.inl ⟨by rfl, by intro w hSw; go_simp; try with_reducible rfl⟩
        · assumption
        try simp only [Act.put, List.setIfInBounds_toArray, List.set_cons_zero, List.set_cons_succ]
        apply wpAnyH_take (i := 1)
        · simp only [List.getElem?_toArray]; rfl
        · kernel_rfl
        · kernel_rfl
        · kernel_rfl
        · exact fun _ _ _ h => h
        · exact Or.inl ⟨by rfl, by intro w hSw; go_simp; try with_reducible rfl⟩
        · assumption
        try simp only [Act.put, List.setIfInBounds_toArray, List.set_cons_zero, List.set_cons_succ]
        apply wpAnyH_take (i := 2)
        · simp only [List.getElem?_toArray]; rfl
        · kernel_rfl
        · kernel_rfl
        · kernel_rfl
        · exact fun _ _ _ h => h
        · exact Or.inl ⟨by rfl, by intro w hSw; go_simp; try with_reducible rfl⟩
        · assumption
        try simp only [Act.put, List.setIfInBounds_toArray, List.set_cons_zero, List.set_cons_succ]
        apply wpAnyH_take (i := 3)
        · simp only [List.getElem?_toArray]; rfl
        · kernel_rfl
        · kernel_rfl
        · kernel_rfl
        · exact fun _ _ _ h => h
        · exact Or.inl ⟨by rfl, by intro w hSw; have q0 := hs1 w hSw; go_simp; try with_reducible rfl⟩
        · assumption
        try simp only [Act.put, List.setIfInBounds_toArray, List.set_cons_zero, List.set_cons_succ]
        apply wpAnyH_take (i := 4)
        · simp only [List.getElem?_toArray]; rfl
        · kernel_rfl
        · kernel_rfl
        · kernel_rfl
        · exact fun _ _ _ h => h
        · exact Or.inl ⟨by rfl, by intro w hSw; go_simp; try with_reducible rfl⟩
        · assumption
        try simp only [Act.put, List.setIfInBounds_toArray, List.set_cons_zero, List.set_cons_succ]
        apply wpAnyH_take (i := 5)
        · simp only [List.getElem?_toArray]; rfl
        · kernel_rfl
        · kernel_rfl
        · kernel_rfl
        · exact fun _ _ _ h => h
        · exact Or.inl ⟨by rfl, by intro w hSw; go_simp; try with_reducible rfl⟩
        · assumption
        try simp only [Act.put, List.setIfInBounds_toArray, List.set_cons_zero, List.set_cons_succ]
        apply wpAnyH_take (i := 6)
        · simp only [List.getElem?_toArray]; rfl
        · kernel_rfl
        · kernel_rfl
        · kernel_rfl
        · exact fun _ _ _ h => h
        · exact yields_ev_mid (by rfl) _ rfl g (j * 19) rfl HS2.out
        · assumption
        try simp only [Act.put, List.setIfInBounds_toArray, List.set_cons_zero, List.set_cons_succ]
        apply wpAnyH_take (i := 7)
        · simp only [List.getElem?_toArray]; rfl
        · kernel_rfl
        · kernel_rfl
        · kernel_rfl
        · exact fun _ _ _ h => h
        · exact Or.inl ⟨by rfl, by intro w hSw; go_simp; try with_reducible rfl⟩
        · assumption
        try simp only [Act.put, List.setIfInBounds_toArray, List.set_cons_zero, List.set_cons_succ]
        apply wpAnyH_take (i := 8)
        · simp only [List.getElem?_toArray]; rfl
        · kernel_rfl
        · kernel_rfl
        · kernel_rfl
        · exact fun _ _ _ h => h
        · exact Or.inl ⟨by rfl, by intro w hSw; go_simp; try with_reducible rfl⟩
        · assumption
        try simp only [Act.put, List.setIfInBounds_toArray, List.set_cons_zero, List.set_cons_succ]
        apply wpAnyH_take (i := 9)
        · simp only [List.getElem?_toArray]; rfl
        · kernel_rfl
        · kernel_rfl
        · kernel_rfl
        · exact fun _ _ _ h => h
        · exact Or.inl ⟨by rfl, by intro w hSw; go_simp; try with_reducible rfl⟩
        · assumption
        try simp only [Act.put, List.setIfInBounds_toArray, List.set_cons_zero, List.set_cons_succ]
        apply wpAnyH_take (i := 10)
        · simp only [List.getElem?_toArray]; rfl
        · kernel_rfl
        · kernel_rfl
        · kernel_rfl
        · exact fun _ _ _ h => h
        · exact Or.inl ⟨by rfl, by intro w hSw; have q0 := hs1 w hSw; go_simp; try with_reducible rfl⟩
        · assumption
        try simp only [Act.put, List.setIfInBounds_toArray, List.set_cons_zero, List.set_cons_succ]
        apply wpAnyH_take (i := 11)
        · simp only [List.getElem?_toArray]; rfl
        · kernel_rfl
        · kernel_rfl
        · kernel_rfl
        · exact fun _ _ _ h => h
        · exact Or.inl ⟨by rfl, by intro w hSw; go_simp; try with_reducible rfl⟩
        · assumption
        try simp only [Act.put, List.setIfInBounds_toArray, List.set_cons_zero, List.set_cons_succ]
        apply wpAnyH_take (i := 12)
        · simp only [List.getElem?_toArray]; rfl
        · kernel_rfl
        · kernel_rfl
        · kernel_rfl
        · exact fun _ _ _ h => h
        · exact Or.inl ⟨by rfl, by intro w hSw; go_simp; try with_reducible rfl⟩
        · assumption
        try simp only [Act.put, List.setIfInBounds_toArray, List.set_cons_zero, List.set_cons_succ]
        apply wpAnyH_take (i := 13)
        · simp only [List.getElem?_toArray]; rfl
        · kernel_rfl
        · kernel_rfl
        · kernel_rfl
        · exact fun _ _ _ h => h
        · exact yields_ev_mid (by rfl) _ rfl g (j * 19) rfl HS2.out
        · assumption
        try simp only [Act.put, List.setIfInBounds_toArray, List.set_cons_zero, List.set_cons_succ]
        apply wpAnyH_ready (rs := [14])
        · kernel_rfl
        · simp
        apply AllReadyH.cons (hs := AllReadyH.nil)
        · simp only [List.getElem?_toArray]; rfl
        intro K hK
        rw [if_pos (by rfl)]
        go_simp
        refine (r7Opens_any _ x tx rd).mono ?_; rintro e W1 ⟨rfl, k1⟩
        have k01 : Keeps [] wr W1 := (Keeps.refl [] wr).drew.trans k1 (FSub.refl _ _)
        have HR1 := Lib.hid (k01.heap HR.out (by simp))
        go_wp2_with fail
        refine hK.out _ _ ?_ (fun hHeld => ?_)
        · exact (by rw [HSE.out]; exact k01.more (by simp))
        clear hK K
        try simp only [Act.put, List.setIfInBounds_toArray, List.set_cons_zero, List.set_cons_succ]
        apply wpAnyH_ready (rs := [15])
        · kernel_rfl
        · simp
        apply AllReadyH.cons (hs := AllReadyH.nil)
        · simp only [List.getElem?_toArray]; rfl
        intro K hK
        rw [if_pos (by rfl)]
        refine wp_put_ev1 rfl rfl rfl HR1.out rfl x1 x2 ?_
        intro W4 h4 k4
        have hk4 : Keeps [R] wr W4 := (k01.more (by simp)).step k4 (fun q hq => hq)
        refine hK.out _ _ ?_ (fun hHeld => ?_)
        · exact (by rw [HSE.out]; exact hk4)
        clear hK K
        try simp only [Act.put, List.setIfInBounds_toArray, List.set_cons_zero, List.set_cons_succ]
        apply wpAnyH_take (i := 16)
        · simp only [List.getElem?_toArray]; rfl
        · kernel_rfl
        · kernel_rfl
        · kernel_rfl
        · exact fun _ _ _ h => h
        · exact Or.inl ⟨by rfl, by intro w hSw; go_simp; try with_reducible rfl⟩
        · assumption
        try simp only [Act.put, List.setIfInBounds_toArray, List.set_cons_zero, List.set_cons_succ]
        refine wpAnyH_done (by kernel_rfl) ?_ _
        refine NoPanic.normal ?_
        clear hHeld hs1 HS2 hSD
        go_wp2_with fail
        exact bodyPost_ret (results_ev2 (x := x) rfl _ _ _ rfl h4) rfl ⟨x, tx, rd, by rw [HPE.out]; cases hOpens x <;> rfl, HAT.out.same (hk4.same HNR.out (fun q hq => by simp at hq; subst hq; exact HNB.out)), if_some HPE.out, HK0.out.trans hk4 (fun q hq => .inr (by simp at hq; rw [hq]; exact HRE.out))⟩
      · have hst' := hst hcc
        have t1 : (T[j].1.c == c) = false := by simpa using hcc
        clear hrng hat1 hst hl hl' hxL hjL hat hr HGL hcc
        go_wp2_with fail
        go_roundw
        case rel => exact ⟨(j : Int) - 1, rfl, by go_num, .inl (by omega), by omega, by rw [show ((j : Int) - 1 + 1).toNat = j by omega]; exact hst', trivial⟩
        case measure => simp [intOf]
    · have hPE : hPend (evsOf T) c = none := by
        unfold hPend
        have e : (evsOf T).tail = (evsOf T).drop (ii + 1).toNat := by
          have hLn : (evsOf T).length = n := by have := HN2.out; simpa [evsOf] using this
          by_cases h0 : ii = 0
          · subst h0; exact List.drop_one.symm
          · have : n = 0 ∨ 0 < n := by omega
            rw [show (ii + 1).toNat = 0 by omega, List.drop_zero]
            cases hT : evsOf T with
            | nil => rfl
            | cons a r =>
              rw [hT] at hLn
              have h2 := HN2.out
              simp at hLn
              omega
        rw [e, hl]
      have HPE := Lib.hid hPE
      clear hPE hl HH HGL
      have hRb := HR.out
      go_wp2_with (first | ((with_reducible apply wpList_put_ev); exact rfl; exact rfl; (first | assumption | (refine heap_alloc_lt ?_; assumption) | (refine heap_alloc_lt (heap_alloc_lt ?_); assumption) | exact heap_alloc_at (by simp)); exact ⟨rfl, rfl⟩; exact rfl))
      intro W4 h4 k4
      go_wp2_with fail
      exact bodyPost_ret (results_ev2 (x := evZero) (tx := .slice none 0 0) (rd := .slice none 0 0) rfl _ _ _ rfl h4) rfl ⟨evZero, .slice none 0 0, .slice none 0 0, by rw [HPE.out]; rfl, ⟨Mics.nil _ _, Lists.nil _ _⟩, fun y hy => by rw [HPE.out] at hy; (cases hy), HK0.out.trans k4 (fun q hq => .inr (by simp at hq; rw [hq]; exact HRE.out))⟩
theorem r7Last_any (w : World) {N b base : Nat} {v : Value} {T : EvL} (hH : R7At N b base w v T) (hn : T.length ≤ 1000) (hin : ∀ p ∈ T, p.1.In) :
    Calls Tryz.prog 32 #[.pointer (some ⟨b, 0, none⟩)] w fun e w' => e = .returned (.int .i64 (hMax (evsOf T).tail)) ∧ w' = w := by
  obtain ⟨a, cp, rfl, hc, hm⟩ := hH.row.shape
  have hcell : w.cell? ⟨b, 0, none⟩ = some (.slice a T.length cp) := by simp [World.cell?, hH.cell]
  have HH := Lib.hid hH; have HIN := Lib.hid hin
  clear hH hin
  generalize hn2 : T.length = n at *
  have HN2 := Lib.hid hn2
  clear hn2
  go_enter Tryz.func32, Tryz.ntmps32
  go_wp2_with fail
  go_loopw [3, 4] (fun z i wr => ∃ k : Nat, i = .int .i64 k ∧ 1 ≤ k ∧ (k ≤ n ∨ k = 1) ∧ z = .int .i64 (hMax ((evsOf T).take k).tail) ∧ wr = w) (fun _ i _ => n + 1 - (intOf i).toNat)
  case atStart => exact ⟨1, rfl, by omega, by omega, by cases T <;> rfl, rfl⟩
  case round =>
    obtain ⟨k, rfl, h1, h2, rfl, rfl⟩ := hrel
    by_cases hlt : k < n
    · have hjT : k < T.length := by have := HN2.out; omega
      obtain ⟨g, cap, hge, _, _, _, hgs, hrng⟩ := HH.out.get (fun e => by rw [e] at hjT; simp at hjT)
      simp at hge
      obtain ⟨rfl, -⟩ := hge
      obtain ⟨hr, -⟩ := hrng k hjT
      have hxi := HIN.out _ (List.getElem_mem hjT)
      have htk : ((evsOf T).take (k + 1)).tail = ((evsOf T).take k).tail ++ [T[k].1] := by
        have e : (evsOf T).take (k + 1) = (evsOf T).take k ++ [T[k].1] := by
          rw [List.take_add_one, List.getElem?_eq_getElem (by simpa [evsOf] using hjT)]; simp [evsOf]
        rw [e, tail_snoc]
        intro e2
        have h3 : 0 < ((evsOf T).take k).length := by simp [evsOf]; omega
        rw [e2] at h3
        simp at h3
      have hmx := hMax_snoc ((evsOf T).take k).tail T[k].1
      rw [← htk] at hmx
      have hlow := hMax_low ((evsOf T).take k).tail
      have d2 : wr.cell? ⟨g, k * 19 + 2, none⟩ = some (.int .u16 T[k].1.id) := hr 2 _ rfl
      have hw : IntKind.i64.wrap T[k].1.id = T[k].1.id := by have := hxi.i0; have := hxi.i1; simp [IntKind.wrap, IntKind.bits, IntKind.signed]; omega
      have hi0 := hxi.i0; have hi1 := hxi.i1
      have HMX := Lib.hid hmx
      clear hr hrng htk hmx hxi
      generalize hMax ((evsOf T).take k).tail = M at *
      generalize T[k].1.id = I at *
      by_cases hg : M < I
      · have HM : hMax ((evsOf T).take (k + 1)).tail = I := by rw [HMX.out]; omega
        have HMH := Lib.hid HM
        clear HM
        go_wp2_with fail
        go_roundw
        case rel => exact ⟨k + 1, by go_num, by omega, by omega, by rw [HMH.out], trivial⟩
        case measure => simp [intOf]; omega
      · have HM : hMax ((evsOf T).take (k + 1)).tail = M := by rw [HMX.out]; omega
        have HMH := Lib.hid HM
        clear HM
        go_wp2_with fail
        go_roundw
        case rel => exact ⟨k + 1, by go_num, by omega, by omega, by rw [HMH.out], trivial⟩
        case measure => simp [intOf]; omega
    · have hM : ((evsOf T).take k) = evsOf T := by rw [List.take_of_length_le]; have := HN2.out; simp [evsOf]; omega
      rw [hM]
      clear hM HIN
      go_wp2_with fail
      go_ret
      exact ⟨rfl, rfl⟩
theorem r7appended_any (w : World) (l : List Mic) {N : Nat} (v : Value) (hv : Mics N w v l) (hN : N ≤ w.heap.size) (hl : l.length ≤ 1000) (m : Mic) (to : Nat) (hto : to ≤ l.length) :
    Calls Tryz.prog 59 #[v, .agg #[.bool m.rd, .int .u8 m.key, .int .u16 m.v], .int .i64 to] w fun e w' => e = .returned (.int .i64 (mApp (l.take to) m : Nat)) ∧ Keeps [] w w' := by
  have hk0 := (Keeps.refl [] w).alloc (.cells #[.bool m.rd, .int .u8 m.key, .int .u16 m.v] 52)
  have hB := heap_alloc_new w (.cells #[.bool m.rd, .int .u8 m.key, .int .u16 m.v] 52)
  have hv0 := hv.same (hk0.same hN (by simp))
  have c1 : (w.alloc (.cells #[.bool m.rd, .int .u8 m.key, .int .u16 m.v] 52)).cell? ⟨w.heap.size, 1, none⟩ = some (.int .u8 m.key) := cell_lit hB 1 rfl
  have c2 : (w.alloc (.cells #[.bool m.rd, .int .u8 m.key, .int .u16 m.v] 52)).cell? ⟨w.heap.size, 2, none⟩ = some (.int .u16 m.v) := cell_lit hB 2 rfl
  have HK0 := Lib.hid hk0
  obtain ⟨a, cp, rfl, hc, hm, hrow⟩ := hv0
  have HR := Lib.hid hrow
  clear hk0 hB hv hrow
  generalize hn2 : l.length = n at *
  have HN2 := Lib.hid hn2
  clear hn2
  go_enter Tryz.func59, Tryz.ntmps59
  go_wp2_with fail
  generalize w.alloc _ = W at *
  generalize w.heap.size = B at *
  go_loopw [7, 8] (fun z i wr => ∃ k nd : Nat, i = .int .i64 k ∧ k ≤ to ∧ z = .int .i64 (mApp (l.take k) m : Nat) ∧ wr = W.drewN nd) (fun _ i _ => to - (intOf i).toNat)
  case atStart => exact ⟨0, 0, rfl, by omega, rfl, rfl⟩
  case round =>
    obtain ⟨k, nd, rfl, hk, rfl, rfl⟩ := hrel
    by_cases hlt : k < to
    · have hkl : k < l.length := by have := HN2.out; omega
      obtain ⟨xb, xo, rfl, hxb, hxc⟩ := HR.out (fun e => by rw [e] at hkl; simp at hkl)
      obtain ⟨m1, m2, m3⟩ := hxc k _ (getD_get micNone hkl)
      have htk : mApp (l.take (k + 1)) m = mApp (l.take k) m + mApp [l.getD k micNone] m := by rw [take_nextD micNone hkl, mApp_app]
      rw [mApp_one] at htk
      have hle : mApp (l.take k) m ≤ 1000 := by
        have h1 : mApp (l.take k) m ≤ (l.take k).length := List.length_filter_le _ _
        have h2 : (l.take k).length ≤ l.length := by rw [List.length_take]; omega
        have := HN2.out
        omega
      generalize mApp (l.take k) m = M at *
      generalize l.getD k micNone = y at *
      obtain ⟨y1, y2, y3⟩ := y
      simp only at m1 m2 m3 htk
      have HT := Lib.hid htk
      clear hxc htk
      cases y1 with
      | true =>
        go_wp2_with fail
        go_quiet (fail)
        go_wp2_with fail
        go_roundw
        case rel => exact ⟨k + 1, _, by go_num, by omega, by rw [HT.out]; simp, rfl⟩
        case measure => simp [intOf]; omega
      | false =>
        by_cases h2 : y2 = m.key
        · by_cases h3 : y3 = m.v
          · have HT2 := Lib.hid (show mApp (l.take (k + 1)) m = M + 1 by rw [HT.out, if_pos ⟨rfl, h2, h3⟩])
            subst h2 h3
            go_wp2_with fail
            go_quiet (fail)
            go_wp2_with fail
            go_roundw
            case rel => exact ⟨k + 1, _, by go_num, by omega, by rw [HT2.out]; go_num, rfl⟩
            case measure => simp [intOf]; omega
          · have HT2 := Lib.hid (show mApp (l.take (k + 1)) m = M by rw [HT.out, if_neg (fun h => h3 h.2.2)]; rfl)
            have t3 : (y3 == m.v) = false := by simpa using h3
            subst h2
            clear h3
            go_wp2_with fail
            go_quiet (fail)
            go_wp2_with fail
            go_roundw
            case rel => exact ⟨k + 1, _, by go_num, by omega, by rw [HT2.out], rfl⟩
            case measure => simp [intOf]; omega
        · have HT2 := Lib.hid (show mApp (l.take (k + 1)) m = M by rw [HT.out, if_neg (fun h => h2 h.2.1)]; rfl)
          have t2 : (y2 == m.key) = false := by simpa using h2
          clear h2
          go_wp2_with fail
          go_quiet (fail)
          go_wp2_with fail
          go_roundw
          case rel => exact ⟨k + 1, _, by go_num, by omega, by rw [HT2.out], rfl⟩
          case measure => simp [intOf]; omega
    · obtain rfl : k = to := by omega
      clear HR
      go_wp2_with fail
      go_ret
      exact ⟨rfl, HK0.out.drewN _⟩
end Go.Proofs.YtlaccndjlfpjbaaGreatDoor
