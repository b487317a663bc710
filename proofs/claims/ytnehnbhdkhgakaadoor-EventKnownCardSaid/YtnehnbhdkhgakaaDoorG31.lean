/-
  What is written of an event: micros, lists.
-/
import Derived.Test.YtnehnbhdkhgakaaDoorG30
import Derived.Test.YtnehnbhdkhgakaaDoorG27
set_option linter.unusedSimpArgs false
set_option linter.unusedVariables false
namespace Go.Proofs.YtnehnbhdkhgakaaDoor
open Go.RowKit
theorem take_flat {α : Type} {l : List α} {k : Nat} (d : α) (f : α → List Int) (h : k < l.length) : (l.take (k + 1)).flatMap f = (l.take k).flatMap f ++ f (l.getD k d) := by
  rw [List.take_succ_eq_append_getElem h, List.flatMap_append]
  simp [List.getD, List.getElem?_eq_getElem h]
theorem micPut_len (m : Mic) : (micPut m).length ≤ 3 := by unfold micPut; split <;> simp [be2]
theorem mics_len : ∀ (l : List Mic), (l.flatMap micPut).length ≤ 3 * l.length
  | [] => by simp
  | m :: l => by have h1 := micPut_len m; have h2 := mics_len l; simp only [List.flatMap_cons, List.length_append, List.length_cons]; omega
set_option maxHeartbeats 8000000 in
set_option maxRecDepth 100000 in
theorem writeBegin_any (w : World) (b : Nat) (F : List Nat) (xs : List Int) (h : WAt w b F (some xs)) (hxs : xs.length ≤ 900) (x : Ev) (hx : x.In) {N : Nat} (tx rd : Value) (ht : Mics N w tx x.t) (hN : N ≤ w.heap.size) (hFN : ∀ g ∈ F, N ≤ g) (hg : micsGood x.t = true) :
    Calls Tryd.prog 47 #[.pointer (some ⟨b, 0, none⟩), .agg (evC x tx rd)] w (WPost b F (xs ++ (whoPut x ++ ((x.t.length : Int) :: x.t.flatMap micPut))) w) := by
  have hk0 := (Keeps.refl [] w).alloc (.cells (evC x tx rd) 32)
  have h0 := h.fresh hk0
  have hX := heap_alloc_new w (.cells (evC x tx rd) 32)
  have hz0 : w.heap.size < (w.alloc (.cells (evC x tx rd) 32)).heap.size := by simp
  have hlt := h.lt
  have E10 := evC_10 x tx rd
  simp only [micsGood, Bool.and_eq_true, decide_eq_true_eq] at hg
  obtain ⟨⟨l1, l8⟩, hall⟩ := hg
  rw [List.all_eq_true] at hall
  have ht0 : Mics N (w.alloc (.cells (evC x tx rd) 32)) tx x.t := ht.same (hk0.same hN (by simp))
  have hN0 : N ≤ (w.alloc (.cells (evC x tx rd) 32)).heap.size := by omega
  obtain ⟨a, c, rfl, hc, hm, hcells⟩ := ht0
  obtain ⟨bk, o, rfl, hbN, hcells⟩ := hcells (fun e => by rw [e] at l1; simp at l1)
  have HC := Lib.hid hcells; have HA := Lib.hid hall; have HIN := Lib.hid hx.t
  have q1 : IntKind.u8.wrap (x.t.length : Int) = (x.t.length : Int) := IntWalk.u8_in _ (by omega)
  have e : xs ++ (whoPut x ++ ((x.t.length : Int) :: x.t.flatMap micPut)) = xs ++ whoPut x ++ be1 (x.t.length : Int) ++ x.t.flatMap micPut := by simp [be1]
  rw [e]
  have hwl : (whoPut x).length = 3 := rfl
  generalize hP : WPost b F (xs ++ whoPut x ++ be1 (x.t.length : Int) ++ x.t.flatMap micPut) w = PP
  have HP := Lib.hid hP; have HWL := Lib.hid hwl; clear hP e hwl hcells hall ht
  go_enter Tryd.func47, Tryd.ntmps47
  go_wp2_with ((with_reducible apply wpList_load_ev); exact rfl; (first | assumption | (refine heap_alloc_lt ?_; assumption) | (refine heap_alloc_lt (heap_alloc_lt ?_); assumption) | exact heap_alloc_at (by simp)); exact rfl)
  generalize w.alloc (.cells (evC x (.slice (some ⟨bk, o, none⟩) x.t.length c) rd) 32) = w0 at *
  have hK0 := Keeps.refl F w0; have hS0 := FSub.refl F w0.heap.size
  refine (writeWho_any w0 b F xs h0 (by omega) x hx _ rd).mono ?_; rintro e w1 ⟨rfl, F1, h1, hk1, hs1⟩
  have hX1 := hk1.heap hX (not_in hS0 hlt hz0)
  obtain ⟨hK1, hS1⟩ := step_keeps hK0 hS0 hk1 hs1
  clear hX h0 hk1 hs1 hK0 hS0
  have c10 := ev_cell hX1 10 E10
  go_wp2_with fail
  refine (U8_any _ _ _ _ h1 (x.t.length : Int) (by omega) (by omega) (fun ys e => by simp at e; subst e; have := HWL.out; simp; omega)).mono ?_; rintro e w2 ⟨rfl, F2, h2, hk2, hs2⟩
  have hX2 := hk2.heap hX1 (not_in hS1 hlt hz0)
  obtain ⟨hK2, hS2⟩ := step_keeps hK1 hS1 hk2 hs2
  clear hX1 h1 hk2 hs2 hK1 hS1 c10
  have c10 := ev_cell hX2 10 E10
  clear hX2
  have H2 : WAt w2 b F2 (some (xs ++ whoPut x ++ be1 (x.t.length : Int))) := by simpa using h2
  clear h2
  go_wp2_with fail
  go_loopw [5, 18] (fun _ i wr => ∃ (k : Nat) (G : List Nat), i = .int .i64 k ∧ k ≤ x.t.length ∧ WAt wr b G (some (xs ++ whoPut x ++ be1 (x.t.length : Int) ++ (x.t.take k).flatMap micPut)) ∧ Keeps F w0 wr ∧ FSub G F w0.heap.size) (fun _ i _ => x.t.length - (intOf i).toNat)
  case atStart => exact ⟨0, F2, rfl, by omega, by simpa using H2, hK2, hS2⟩
  case round =>
    obtain ⟨k, G, rfl, hk, hW, hK, hS⟩ := hrel
    by_cases hlt2 : k < x.t.length
    · have hin := HIN.out _ (getD_in micNone hlt2)
      have hgd := HA.out _ (getD_in micNone hlt2)
      obtain ⟨d1, d2, d3⟩ := HC.out k _ (getD_get micNone hlt2)
      have hsm : Same N w0 wr := hK.same hN0 hFN
      replace d1 := hsm.cell hbN d1
      replace d2 := hsm.cell hbN d2
      replace d3 := hsm.cell hbN d3
      have hbz : bk < wr.heap.size := by have := hK.size; omega
      have htk := take_flat micNone micPut hlt2
      have hle := mics_len (x.t.take k)
      rw [List.length_take] at hle
      have HTK := Lib.hid htk; have HLE := Lib.hid hle; have HHK := Lib.hid hK; have HHS := Lib.hid hS
      clear htk hle hsm hK hS HC HA HIN H2 hK2 hS2
      generalize x.t.getD k micNone = M at *
      obtain ⟨m1, m2, m3⟩ := M
      simp only at d1 d2 d3
      obtain ⟨b1, b2, b3, b4⟩ := hin
      simp only at b1 b2 b3 b4
      have b5 : m2 < 8 := by simp [micGood] at hgd; exact hgd.1
      have q2 : IntKind.u8.wrap (m2 + 128) = m2 + 128 := IntWalk.u8_in _ (by omega)
      clear hgd
      have hWA := hW.fresh ((Keeps.refl [] wr).alloc (.cells #[.bool m1, .int .u8 m2, .int .u16 m3] 34))
      cases m1 with
      | true =>
        go_wp2_with fail
        refine (U8_any _ _ _ _ hWA (m2 + 128) (by omega) (by omega) (fun ys e => by simp at e; subst e; have := HWL.out; have := HLE.out; simp only [List.length_append, be1, List.length_cons, List.length_nil]; omega)).mono ?_; rintro e u1 ⟨rfl, G1, g1, kk1, ss1⟩
        obtain ⟨hKK, hSS⟩ := step_keeps HHK.out HHS.out (((Keeps.refl [] wr).alloc _).more (by simp)) (FSub.refl G _)
        obtain ⟨hK1, hS1⟩ := step_keeps hKK hSS kk1 ss1
        clear hKK hSS kk1 ss1
        have HK1 := Lib.hid hK1; have HS1 := Lib.hid hS1; clear hK1 hS1
        go_wp2_with fail
        go_roundw
        case rel => exact ⟨k + 1, G1, by go_num, by omega, by rw [HTK.out]; simpa [micPut, be1] using g1, HK1.out, HS1.out⟩
        case measure => simp [intOf]; omega
      | false =>
        go_wp2_with fail
        refine (U8_any _ _ _ _ hWA m2 (by omega) (by omega) (fun ys e => by simp at e; subst e; have := HWL.out; have := HLE.out; simp only [List.length_append, be1, List.length_cons, List.length_nil]; omega)).mono ?_; rintro e u1 ⟨rfl, G1, g1, kk1, ss1⟩
        obtain ⟨hKK, hSS⟩ := step_keeps HHK.out HHS.out (((Keeps.refl [] wr).alloc _).more (by simp)) (FSub.refl G _)
        obtain ⟨hK1, hS1⟩ := step_keeps hKK hSS kk1 ss1
        have hY := kk1.heap (heap_alloc_new wr (.cells #[.bool false, .int .u8 m2, .int .u16 m3] 34)) (fun hg => by have := hW.lt _ hg; omega)
        obtain ⟨y0, y1, y2, _⟩ := cell3 hY
        clear hKK hSS kk1 ss1 hY
        have HK1 := Lib.hid hK1; have HS1 := Lib.hid hS1; clear hK1 hS1
        go_wp2_with fail
        refine (U16_any _ _ _ _ g1 m3 (by omega) (by omega) (fun ys e => by simp at e; subst e; have := HWL.out; have := HLE.out; simp only [List.length_append, be1, List.length_cons, List.length_nil]; omega)).mono ?_; rintro e u2 ⟨rfl, G2, g2, kk2, ss2⟩
        obtain ⟨hK2, hS2⟩ := step_keeps HK1.out HS1.out kk2 ss2
        clear kk2 ss2
        have HK2 := Lib.hid hK2; have HS2 := Lib.hid hS2; clear hK2 hS2
        go_wp2_with fail
        go_roundw
        case rel => exact ⟨k + 1, G2, by go_num, by omega, by rw [HTK.out]; simpa [micPut, be1] using g2, HK2.out, HS2.out⟩
        case measure => simp [intOf]; omega
    · obtain rfl : k = x.t.length := by omega
      rw [List.take_length] at hW
      clear HC HA HIN
      go_wp2_with fail
      refine bodyPost_ret (results_none rfl _ _ _) rfl ?_
      rw [← HP.out]
      exact post_end hk0 hK hS hW
theorem beList_len (l : List Int) : (beList l).length = 1 + 2 * l.length := length_beList l
theorem lists_len : ∀ (l : List (List Int)), (∀ m ∈ l, m.length ≤ 32) → (l.flatMap beList).length ≤ 65 * l.length
  | [], _ => by simp
  | m :: l, h => by
    have h1 := beList_len m
    have h3 := h m (by simp)
    have h2 := lists_len l (fun q hq => h q (by simp [hq]))
    simp only [List.flatMap_cons, List.length_append, List.length_cons]; omega
theorem nums_src {N : Nat} {w : World} {u : Value} {l : List Int} (h : Nums N w u l) : ∃ a c, u = .slice a l.length c ∧ Src16 w a l := by
  obtain ⟨a, c, rfl, _, _, h⟩ := h
  refine ⟨a, c, rfl, ?_⟩
  by_cases hl : l = []
  · exact .inl hl
  · obtain ⟨bk, o, rfl, _, hc⟩ := h hl
    exact .inr ⟨bk, o, rfl, hc⟩
set_option maxHeartbeats 8000000 in
set_option maxRecDepth 100000 in
theorem writeCommit_any (w : World) (b : Nat) (F : List Nat) (xs : List Int) (h : WAt w b F (some xs)) (hxs : xs.length ≤ 900) (x : Ev) (hx : x.In) {N : Nat} (tx rd : Value) (ht : Lists N w rd x.r) (hN : N ≤ w.heap.size) (hFN : ∀ g ∈ F, N ≤ g) (hg : listsGood x.r = true) :
    Calls Tryd.prog 51 #[.pointer (some ⟨b, 0, none⟩), .agg (evC x tx rd)] w (WPost b F (xs ++ (whoPut x ++ ((x.r.length : Int) :: x.r.flatMap beList))) w) := by
  have hk0 := (Keeps.refl [] w).alloc (.cells (evC x tx rd) 32)
  have h0 := h.fresh hk0
  have hX := heap_alloc_new w (.cells (evC x tx rd) 32)
  have hz0 : w.heap.size < (w.alloc (.cells (evC x tx rd) 32)).heap.size := by simp
  have hlt := h.lt
  have E11 := evC_11 x tx rd
  simp only [listsGood, Bool.and_eq_true, decide_eq_true_eq] at hg
  obtain ⟨l8, hall⟩ := hg
  rw [List.all_eq_true] at hall
  have hall2 : ∀ m ∈ x.r, m.length ≤ 32 := fun m hm => of_decide_eq_true (hall m hm)
  have ht0 : Lists N (w.alloc (.cells (evC x tx rd) 32)) rd x.r := ht.same (hk0.same hN (by simp))
  have hN0 : N ≤ (w.alloc (.cells (evC x tx rd) 32)).heap.size := by omega
  obtain ⟨a, c, rfl, hc, hm, hcells⟩ := ht0
  have HC := Lib.hid hcells; have HA := Lib.hid hall2; have HIN := Lib.hid hx.r
  have q1 : IntKind.u8.wrap (x.r.length : Int) = (x.r.length : Int) := IntWalk.u8_in _ (by omega)
  have e : xs ++ (whoPut x ++ ((x.r.length : Int) :: x.r.flatMap beList)) = xs ++ whoPut x ++ be1 (x.r.length : Int) ++ x.r.flatMap beList := by simp [be1]
  rw [e]
  have hwl : (whoPut x).length = 3 := rfl
  generalize hP : WPost b F (xs ++ whoPut x ++ be1 (x.r.length : Int) ++ x.r.flatMap beList) w = PP
  have HP := Lib.hid hP; have HWL := Lib.hid hwl; clear hP e hwl hcells hall hall2 ht
  go_enter Tryd.func51, Tryd.ntmps51
  go_wp2_with ((with_reducible apply wpList_load_ev); exact rfl; (first | assumption | (refine heap_alloc_lt ?_; assumption) | (refine heap_alloc_lt (heap_alloc_lt ?_); assumption) | exact heap_alloc_at (by simp)); exact rfl)
  generalize w.alloc (.cells (evC x tx (.slice a x.r.length c)) 32) = w0 at *
  have hK0 := Keeps.refl F w0; have hS0 := FSub.refl F w0.heap.size
  refine (writeWho_any w0 b F xs h0 (by omega) x hx tx _).mono ?_; rintro e w1 ⟨rfl, F1, h1, hk1, hs1⟩
  have hX1 := hk1.heap hX (not_in hS0 hlt hz0)
  obtain ⟨hK1, hS1⟩ := step_keeps hK0 hS0 hk1 hs1
  clear hX h0 hk1 hs1 hK0 hS0
  have c11 := ev_cell hX1 11 E11
  go_wp2_with fail
  refine (U8_any _ _ _ _ h1 (x.r.length : Int) (by omega) (by omega) (fun ys e => by simp at e; subst e; have := HWL.out; simp; omega)).mono ?_; rintro e w2 ⟨rfl, F2, h2, hk2, hs2⟩
  have hX2 := hk2.heap hX1 (not_in hS1 hlt hz0)
  obtain ⟨hK2, hS2⟩ := step_keeps hK1 hS1 hk2 hs2
  clear hX1 h1 hk2 hs2 hK1 hS1 c11
  have c11 := ev_cell hX2 11 E11
  clear hX2
  have H2 : WAt w2 b F2 (some (xs ++ whoPut x ++ be1 (x.r.length : Int))) := by simpa using h2
  clear h2
  go_wp2_with fail
  go_loopw [5, 18] (fun _ i wr => ∃ (k : Nat) (G : List Nat), i = .int .i64 k ∧ k ≤ x.r.length ∧ WAt wr b G (some (xs ++ whoPut x ++ be1 (x.r.length : Int) ++ (x.r.take k).flatMap beList)) ∧ Keeps F w0 wr ∧ FSub G F w0.heap.size) (fun _ i _ => x.r.length - (intOf i).toNat)
  case atStart => exact ⟨0, F2, rfl, by omega, by simpa using H2, hK2, hS2⟩
  case round =>
    obtain ⟨k, G, rfl, hk, hW, hK, hS⟩ := hrel
    by_cases hlt2 : k < x.r.length
    · have hin := HIN.out _ (getD_in [] hlt2)
      have hl32 := HA.out _ (getD_in [] hlt2)
      obtain ⟨bk, o, rfl, hbN, hcs⟩ := HC.out (fun e => by rw [e] at hlt2; simp at hlt2)
      obtain ⟨u, d1, n1⟩ := hcs k hlt2
      have hsm : Same N w0 wr := hK.same hN0 hFN
      replace d1 := hsm.cell hbN d1
      obtain ⟨a1, c1, rfl, hsrc⟩ := nums_src (n1.same hsm)
      have htk := take_flat [] beList hlt2
      have hle := lists_len (x.r.take k) (fun m hm => HA.out m (List.mem_of_mem_take hm))
      rw [List.length_take] at hle
      have HTK := Lib.hid htk; have HLE := Lib.hid hle; have HHK := Lib.hid hK; have HHS := Lib.hid hS
      clear htk hle hsm hK hS HC HA HIN H2 hK2 hS2 hcs n1
      generalize x.r.getD k [] = LK at *
      have hwl := WList_any wr b G _ hW a1 LK.length c1 LK rfl hsrc hin (fun ys e _ => by simp at e; subst e; have := HWL.out; have := HLE.out; simp only [List.length_append, be1, List.length_cons, List.length_nil]; omega)
      rw [if_pos (by omega)] at hwl
      clear hsrc hin
      go_wp2_with fail
      refine hwl.mono ?_; rintro e u1 ⟨rfl, G1, g1, kk1, ss1⟩
      obtain ⟨hK1, hS1⟩ := step_keeps HHK.out HHS.out kk1 ss1
      clear kk1 ss1 hwl
      have HK1 := Lib.hid hK1; have HS1 := Lib.hid hS1; clear hK1 hS1
      go_wp2_with fail
      go_roundw
      case rel => exact ⟨k + 1, G1, by go_num, by omega, by rw [HTK.out]; simpa using g1, HK1.out, HS1.out⟩
      case measure => simp [intOf]; omega
    · obtain rfl : k = x.r.length := by omega
      rw [List.take_length] at hW
      clear HC HA HIN
      go_wp2_with fail
      refine bodyPost_ret (results_none rfl _ _ _) rfl ?_
      rw [← HP.out]
      exact post_end hk0 hK hS hW
end Go.Proofs.YtnehnbhdkhgakaaDoor
