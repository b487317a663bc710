/-
  The document's Line: kind 2 (invoke).
-/
import Derived.Test.YtffldnjjijckcaaGreatDoorR24
import Derived.Test.YtffldnjjijckcaaGreatDoorR26
import Derived.Test.YtffldnjjijckcaaGreatDoorR13
set_option linter.unusedSimpArgs false
set_option linter.unusedVariables false
namespace Go.Proofs.YtffldnjjijckcaaGreatDoor
open Go.RowKit
set_option maxHeartbeats 4000000 in
theorem opw_len {x : Opn} (hx : x.In) : ∀ s ∈ opWords x, s.length ≤ 1000 := by
  obtain ⟨f0, f1, o0, o1, k0, k1, a0, a1, b0, b1⟩ := hx
  have hd : ∀ n : Int, 0 ≤ n → n < 10000000 → (dec n).length ≤ 1000 := fun n h0 h1 => by have := dec_length_le 6 n.toNat (by omega); unfold dec; omega
  intro s h
  unfold opWords at h
  simp only [List.mem_append, List.mem_cons, List.not_mem_nil, or_false] at h
  rcases h with (((rfl | rfl) | h) | h) | h
  · exact hd _ o0 (by omega)
  · unfold opNm
    repeat' split
    all_goals decide
  all_goals
    split at h
    · simp at h; subst h; first | exact hd _ k0 (by omega) | exact hd _ a0 (by omega) | exact hd _ b0 (by omega)
    · simp at h
def spd (l : List (List UInt8)) : List UInt8 := l.flatMap fun y => 32 :: y
theorem spd_snoc (l : List (List UInt8)) (k : Nat) (h : k < l.length) : spd (l.take (k + 1)) = spd (l.take k) ++ 32 :: l.getD k [] := by
  unfold spd
  rw [List.take_add_one, List.getElem?_eq_getElem h, List.getD_eq_getElem?_getD, List.getElem?_eq_getElem h, List.flatMap_append]
  simp
theorem spd_len (l : List (List UInt8)) {M : Nat} (h : ∀ s ∈ l, s.length ≤ M) : ∀ k, (spd (l.take k)).length ≤ k * (M + 1)
  | 0 => by simp [spd]
  | k + 1 => by
    have hi := spd_len l h k
    by_cases hk : k < l.length
    · rw [spd_snoc l k hk]
      have hm : l.getD k [] ∈ l := by rw [List.getD_eq_getElem?_getD, List.getElem?_eq_getElem hk]; exact List.getElem_mem hk
      have := h _ hm
      simp only [List.length_append, List.length_cons]
      rw [Nat.succ_mul]; omega
    · rw [List.take_of_length_le (by omega), ← List.take_of_length_le (show l.length ≤ k by omega)]
      rw [Nat.succ_mul]; omega
set_option maxHeartbeats 16000000 in
set_option maxRecDepth 100000 in
theorem r6Line_2 (w : World) (x : Ev) (hx : x.In) {N : Nat} (tx rd : Value) (ht : EvAt N w tx rd x) (hN : N ≤ w.heap.size) (hg : evGood x = true) (hk : x.k = 2)
    (hmay : ∀ W, EvAt N W tx rd x → N ≤ W.heap.size → Calls Tryz.prog 22 #[.agg (evC x tx rd)] W fun e w' => e = .returned (.bool (evGood x)) ∧ Keeps [] W w') :
    Calls Tryz.prog 9 #[.agg (evC x tx rd)] w fun e w' => e = .returned (.tuple #[.string (bs (evLine x)), .int .i64 0]) ∧ Keeps [] w w' := by
  obtain ⟨gk, gc, gf, gn⟩ := good_parts hg
  have hgo : opGood x.o = true := by
    unfold evFits at gf
    simpa [hk] using gf
  have hwo : wordsOf x.o = opWords x.o := by unfold wordsOf; rw [if_pos hgo]
  have hws := fun w => r4Words_any w x.o hx.o
  rw [hwo] at hws
  simp only [Opn.val] at hws
  have HWS := Lib.hid hws
  have HLN := Lib.hid (line_op hk)
  have HWL := Lib.hid (opw_len hx.o)
  have hn5 : (opWords x.o).length ≤ 5 := by rw [words_length]; have := opWN_le x.o.f; omega
  clear gk gc gf gn hgo hwo hws
  generalize opWords x.o = ws at *
  have hk0 := (Keeps.refl [] w).alloc (.cells (evC x tx rd) 32)
  have hb0 := heap_alloc_new w (.cells (evC x tx rd) 32)
  have HM := Lib.hid (hmay _ (ht.new hk0 hN) (Nat.le_trans hN hk0.size))
  rw [hg] at HM
  have HK := Lib.hid hk0
  have HT := Lib.hid (ht.new hk0 hN)
  have hn0 : N ≤ (w.alloc (.cells (evC x tx rd) 32)).heap.size := Nat.le_trans hN hk0.size
  clear hk0 ht hN hmay
  have hd1 := fun w => r6d_any w x.c hx.c0 (by have := hx.c1; omega)
  have hd2 := fun w => r6d_any w x.id hx.i0 (by have := hx.i1; omega)
  have hw0 : IntKind.i64.wrap x.c = x.c := by have := hx.c0; have := hx.c1; simp [IntKind.wrap, IntKind.bits, IntKind.signed]; omega
  have hw1 : IntKind.i64.wrap x.id = x.id := by have := hx.i0; have := hx.i1; simp [IntKind.wrap, IntKind.bits, IntKind.signed]; omega
  have s1 : (dec x.c).length ≤ 7 := dec_length_le 6 _ (by have := hx.c1; omega)
  have s2 : (dec x.id).length ≤ 7 := dec_length_le 6 _ (by have := hx.i1; omega)
  have z1 : (bs (dec x.c)).size ≤ 7 := by rw [bs_size]; exact s1
  have z2 : (bs (dec x.id)).size ≤ 7 := by rw [bs_size]; exact s2
  have hwho : (⟨#[32]⟩ : ByteArray) ++ bs (dec x.c) ++ (⟨#[32]⟩ : ByteArray) ++ bs (dec x.id) = bs (whoT x) := by
    have e : (⟨#[32]⟩ : ByteArray) = bs [32] := rfl
    rw [e, bs_app, bs_app, bs_app]
    unfold whoT
    congr 1
    simp
  have HD1 := Lib.hid hd1; have HD2 := Lib.hid hd2; have HWHO := Lib.hid hwho
  have zw : (bs (whoT x)).size ≤ 16 := by rw [bs_size]; unfold whoT; simp; omega
  clear hd1 hd2 hwho s1 s2
  go_enter Tryz.func9, Tryz.ntmps9
  go_wp2_with ((with_reducible apply wpList_load_ev); exact rfl; (first | assumption | (refine heap_alloc_lt ?_; assumption) | (refine heap_alloc_lt (heap_alloc_lt ?_); assumption) | exact heap_alloc_at (by simp)); exact rfl)
  generalize w.alloc (.cells (evC x tx rd) 32) = W0 at *
  generalize w.heap.size = b at *
  refine HM.out.mono ?_; rintro z w1 ⟨rfl, hk1⟩
  have hb1 := hk1.heap hb0 (by simp)
  have HK1 := Lib.hid (HK.out.trans hk1 (FSub.refl _ _))
  have HT1 := Lib.hid (HT.out.new hk1 hn0)
  have hn1 := Nat.le_trans hn0 hk1.size
  have hr := cfg_range hb1
  clear hk1 HK HM hb0 HT hn0
  have HKA := Lib.hid ((Keeps.refl [] w1).alloc (.cells #[.int .u8 0, .int .i64 0, .int .i64 0, .int .i64 0, .bool false, .bool false, .bool false] 30))
  go_wp2_with (first | (refine wpList_load_mid rfl 30 _ rfl b 12 rfl (cfgL x.g) _ hr Tryz.underlying30 rfl (by kernel_rfl) ?_) | ((with_reducible apply wpList_put_cfg); exact rfl; exact rfl; exact heap_alloc_at (by simp); exact ⟨rfl, rfl⟩; exact rfl))
  intro W2 hc2 hk2
  have hq2 : Keeps [] w1 W2 := HKA.out.trans hk2 (fun q hq => .inr (by simp at hq; omega))
  have hb2 := hq2.heap hb1 (by simp)
  have HK2 := Lib.hid (HK1.out.trans hq2 (FSub.refl _ _))
  have HT2 := Lib.hid (HT1.out.new hq2 hn1)
  have hn2 := Nat.le_trans hn1 hq2.size
  clear hq2 hk2 HKA HK1 hr hb1 HT1 hn1
  generalize w1.heap.size = cb at *
  have HB2 := Lib.hid hb2; have HC2 := Lib.hid hc2
  clear hb2 hc2
  generalize hA : bs (dec x.c) = A at *
  generalize hB : bs (dec x.id) = B at *
  generalize hW : bs (whoT x) = WH at *
  have HA := Lib.hid hA; have HB := Lib.hid hB; have HW := Lib.hid hW
  clear hA hB hW
  have p1 : 1 + A.size ≤ 9223372036854775807 := by omega
  have p2 : 1 + A.size ≤ 9223372036854775806 := by omega
  have p3 : 1 + A.size + 1 + B.size ≤ 9223372036854775807 := by omega
  go_wp2_with fail
  refine wp_region_noPanic ?_
  refine wp_region_held_drew (S := fun w' => w'.heap[b]? = some (.cells (evC x tx rd) 32 (0, 0)) ∧ w'.heap[cb]? = some (.cells (cfgL x.g).toArray 30 (0, 0))) (by kernel_rfl) ⟨HB2.out, HC2.out⟩ (fun hHeld => ?_)
  apply wpAnyH_take (i := 0) (v := .pointer (some ⟨b, 1, none⟩))
  · simp only [List.getElem?_toArray]; rfl
  · kernel_rfl
  · kernel_rfl
  · kernel_rfl
  · exact fun _ _ _ h => h
  · exact Or.inl ⟨by rfl, by intro w hSw; go_simp; try with_reducible rfl⟩
  · assumption
  try simp only [Act.put, List.setIfInBounds_toArray, List.set_cons_zero, List.set_cons_succ]
  apply wpAnyH_take (i := 1) (v := .int .u8 x.c)
  · simp only [List.getElem?_toArray]; rfl
  · kernel_rfl
  · kernel_rfl
  · kernel_rfl
  · exact fun _ _ _ h => h
  · exact Or.inl ⟨by rfl, by intro w hSw; have d0 := ev_cell hSw.1 1 (evC_1 x tx rd); go_simp; try with_reducible rfl⟩
  · assumption
  try simp only [Act.put, List.setIfInBounds_toArray, List.set_cons_zero, List.set_cons_succ]
  apply wpAnyH_take (i := 2) (v := .int .i64 x.c)
  · simp only [List.getElem?_toArray]; rfl
  · kernel_rfl
  · kernel_rfl
  · kernel_rfl
  · exact fun _ _ _ h => h
  · exact Or.inl ⟨by rfl, by intro w hSw; go_simp; try with_reducible rfl⟩
  · assumption
  try simp only [Act.put, List.setIfInBounds_toArray, List.set_cons_zero, List.set_cons_succ]
  apply wpAnyH_take (i := 6) (v := .pointer (some ⟨b, 2, none⟩))
  · simp only [List.getElem?_toArray]; rfl
  · kernel_rfl
  · kernel_rfl
  · kernel_rfl
  · exact fun _ _ _ h => h
  · exact Or.inl ⟨by rfl, by intro w hSw; go_simp; try with_reducible rfl⟩
  · assumption
  try simp only [Act.put, List.setIfInBounds_toArray, List.set_cons_zero, List.set_cons_succ]
  apply wpAnyH_take (i := 7) (v := .int .u16 x.id)
  · simp only [List.getElem?_toArray]; rfl
  · kernel_rfl
  · kernel_rfl
  · kernel_rfl
  · exact fun _ _ _ h => h
  · exact Or.inl ⟨by rfl, by intro w hSw; have d0 := ev_cell hSw.1 2 (evC_2 x tx rd); go_simp; try with_reducible rfl⟩
  · assumption
  try simp only [Act.put, List.setIfInBounds_toArray, List.set_cons_zero, List.set_cons_succ]
  apply wpAnyH_take (i := 8) (v := .int .i64 x.id)
  · simp only [List.getElem?_toArray]; rfl
  · kernel_rfl
  · kernel_rfl
  · kernel_rfl
  · exact fun _ _ _ h => h
  · exact Or.inl ⟨by rfl, by intro w hSw; go_simp; try with_reducible rfl⟩
  · assumption
  try simp only [Act.put, List.setIfInBounds_toArray, List.set_cons_zero, List.set_cons_succ]
  apply wpAnyH_ready (rs := [3])
  · kernel_rfl
  · simp
  apply AllReadyH.cons (hs := AllReadyH.nil)
  · simp only [List.getElem?_toArray]; rfl
  intro K hK
  rw [if_pos (by rfl)]
  go_simp
  refine (HD1.out _).mono ?_; rintro z w3 ⟨rfl, hk3⟩
  have hk3 : Keeps [] W2 w3 := hk3.undrew
  have hb3 := hk3.heap HB2.out (by simp); have hc3 := hk3.heap HC2.out (by simp)
  go_wp2_with fail
  refine hK.out _ _ ?_ (fun hHeld => ?_)
  · exact ⟨hb3, hc3⟩
  clear hK K
  try simp only [Act.put, List.setIfInBounds_toArray, List.set_cons_zero, List.set_cons_succ]
  apply wpAnyH_take (i := 4) (v := .string (⟨#[32]⟩ ++ A))
  · simp only [List.getElem?_toArray]; rfl
  · kernel_rfl
  · kernel_rfl
  · kernel_rfl
  · exact fun _ _ _ h => h
  · exact Or.inl ⟨by rfl, by intro w hSw; go_simp; try with_reducible rfl⟩
  · assumption
  try simp only [Act.put, List.setIfInBounds_toArray, List.set_cons_zero, List.set_cons_succ]
  apply wpAnyH_take (i := 5) (v := .string (⟨#[32]⟩ ++ A ++ ⟨#[32]⟩))
  · simp only [List.getElem?_toArray]; rfl
  · kernel_rfl
  · kernel_rfl
  · kernel_rfl
  · exact fun _ _ _ h => h
  · exact Or.inl ⟨by rfl, by intro w hSw; go_simp; try with_reducible rfl⟩
  · assumption
  try simp only [Act.put, List.setIfInBounds_toArray, List.set_cons_zero, List.set_cons_succ]
  apply wpAnyH_ready (rs := [9])
  · kernel_rfl
  · simp
  apply AllReadyH.cons (hs := AllReadyH.nil)
  · simp only [List.getElem?_toArray]; rfl
  intro K hK
  rw [if_pos (by rfl)]
  go_simp
  refine (HD2.out _).mono ?_; rintro z w4 ⟨rfl, hk4⟩
  have hk4 : Keeps [] W2 w4 := hk3.trans hk4 (FSub.refl _ _)
  have hb4 := hk4.heap HB2.out (by simp); have hc4 := hk4.heap HC2.out (by simp)
  go_wp2_with fail
  refine hK.out _ _ ?_ (fun hHeld => ?_)
  · exact ⟨hb4, hc4⟩
  clear hK K
  try simp only [Act.put, List.setIfInBounds_toArray, List.set_cons_zero, List.set_cons_succ]
  apply wpAnyH_take (i := 10) (v := .string (⟨#[32]⟩ ++ A ++ ⟨#[32]⟩ ++ B))
  · simp only [List.getElem?_toArray]; rfl
  · kernel_rfl
  · kernel_rfl
  · kernel_rfl
  · exact fun _ _ _ h => h
  · exact Or.inl ⟨by rfl, by intro w hSw; go_simp; try with_reducible rfl⟩
  · assumption
  try simp only [Act.put, List.setIfInBounds_toArray, List.set_cons_zero, List.set_cons_succ]
  apply wpAnyH_ready (rs := [11])
  · kernel_rfl
  · simp
  apply AllReadyH.cons (hs := AllReadyH.nil)
  · simp only [List.getElem?_toArray]; rfl
  intro K hK
  rw [if_pos (by rfl)]
  go_simp
  refine hK.out _ _ ?_ (fun hHeld => ?_)
  · exact ⟨hb4, hc4⟩
  clear hK K
  try simp only [Act.put, List.setIfInBounds_toArray, List.set_cons_zero, List.set_cons_succ]
  refine wpAnyH_done (by kernel_rfl) ?_ _
  refine NoPanic.normal ?_
  rw [HWHO.out]
  have HK4 := Lib.hid (HK2.out.trans hk4 (FSub.refl _ _))
  have HT4 := Lib.hid (HT2.out.new hk4 hn2)
  have hn4 := Nat.le_trans hn2 hk4.size
  have HB4 := Lib.hid hb4; have HC4 := Lib.hid hc4
  clear hk3 hb3 hc3 hk4 hb4 hc4 HK2 HT2 hn2 HB2 HC2 HD1 HD2 HWHO z1 z2 HA HB p1 p2 p3
  have d0 := ev_cell HB4.out 0 (evC_0 x tx rd)
  have d3 := ev_cell HB4.out 3 (evC_3 x tx rd); have d4 := ev_cell HB4.out 4 (evC_4 x tx rd); have d5 := ev_cell HB4.out 5 (evC_5 x tx rd); have d6 := ev_cell HB4.out 6 (evC_6 x tx rd); have d7 := ev_cell HB4.out 7 (evC_7 x tx rd)
  rw [hk] at d0
  go_wp2_with fail
  refine (HWS.out _).mono ?_; rintro z w5 ⟨v5, rfl, hrow5, hk5, -⟩
  obtain ⟨a5, c5, rfl, hc5, hm5, hcell5⟩ := Strs.row hrow5
  have HC5 := Lib.hid hcell5
  have HK5 := Lib.hid (HK4.out.trans hk5 (FSub.refl _ _))
  clear hcell5 hrow5 hk5 HK4 d0 d3 d4 d5 d6 d7 HWS HB4 HC4 HT4 hn4
  go_wp2_with fail
  have hS0 : (⟨#[105, 110, 118, 111, 107, 101]⟩ : ByteArray) ++ WH = bs (invokeL ++ whoT x ++ spd (ws.take 0)) := by
    have e : (⟨#[105, 110, 118, 111, 107, 101]⟩ : ByteArray) = bs invokeL := rfl
    rw [e, ← HW.out, bs_app]
    simp [spd]
  have HS0 := Lib.hid hS0
  have HSL : Hid ((invokeL ++ whoT x).length ≤ 30) := Lib.hid (by have := congrArg ByteArray.size HW.out; rw [bs_size] at this; have e : invokeL.length = 6 := rfl; rw [List.length_append]; omega)
  clear hS0 HW
  generalize hn : ws.length = n at *
  have HN := Lib.hid hn
  clear hn
  go_loopw [6, 8] (fun s i wr => ∃ k : Nat, i = .int .i64 k ∧ k ≤ n ∧ s = .string (bs (invokeL ++ whoT x ++ spd (ws.take k))) ∧ Keeps [] w5 wr) (fun _ i _ => n - (intOf i).toNat)
  case atStart => exact ⟨0, rfl, by omega, by rw [← HS0.out], Keeps.refl _ _⟩
  case round =>
    obtain ⟨k, rfl, hkn, rfl, hkp⟩ := hrel
    have HKP := Lib.hid hkp
    clear hkp
    by_cases hlt : k < n
    · have hlw : k < ws.length := by have := HN.out; omega
      obtain ⟨bk, o, rfl, hbk, hcell⟩ := HC5.out (fun e => by rw [e] at hlw; simp at hlw)
      have d1 := HKP.out.cell (hcell k (by have := HN.out; omega)) (by simp)
      have hmem : ws.getD k [] ∈ ws := by rw [List.getD_eq_getElem?_getD, List.getElem?_eq_getElem hlw]; exact List.getElem_mem hlw
      have hl1 := HWL.out _ hmem
      have hl2 := spd_len ws HWL.out k
      have hl3 := HSL.out
      have z1 : (bs (ws.getD k [])).size ≤ 1000 := by rw [bs_size]; exact hl1
      have z2 : (bs (invokeL ++ whoT x ++ spd (ws.take k))).size ≤ 6000 := by rw [bs_size, List.length_append]; omega
      have e1 : bs (invokeL ++ whoT x ++ spd (ws.take k)) ++ (⟨#[32]⟩ : ByteArray) ++ bs (ws.getD k []) = bs (invokeL ++ whoT x ++ spd (ws.take (k + 1))) := by
        have e : (⟨#[32]⟩ : ByteArray) = bs [32] := rfl
        rw [spd_snoc ws k hlw, e, bs_app, bs_app]
        congr 1
        simp
      have E1 := Lib.hid e1
      have hk0 : (0 : Int) ≤ k := by omega
      clear e1 hmem hl1 hl2 hl3 hcell HC5 hlw
      generalize bs (ws.getD k []) = Y at *
      generalize bs (invokeL ++ whoT x ++ spd (ws.take k)) = S at *
      go_wp2_with fail
      go_roundw
      case rel => exact ⟨k + 1, by go_num, by omega, by rw [← E1.out], HKP.out⟩
      case measure => simp [intOf]; omega
    · have e : k = ws.length := by have := HN.out; omega
      rw [e, List.take_length]
      go_wp2_with fail
      go_ret2
      exact ⟨by rw [HLN.out]; rfl, HK5.out.trans HKP.out (FSub.refl _ _)⟩
end Go.Proofs.YtffldnjjijckcaaGreatDoor
/-
  The document's Line: kind 6 (commit).
-/
namespace Go.Proofs.YtffldnjjijckcaaGreatDoor
open Go.RowKit
theorem join_le6 {l : List (List UInt8)} {N : Nat} (h : ∀ x ∈ l, x.length ≤ N) (c : UInt8) : (Lib.join l [c]).length ≤ l.length * (N + 1) := by
  induction l with
  | nil => simp [Lib.join]
  | cons a r ih =>
    have h1 := ih (fun x hx => h x (List.mem_cons_of_mem _ hx))
    have h2 := h a List.mem_cons_self
    by_cases hr : r = []
    · subst hr
      rw [Lib.join_one]; simp; omega
    · rw [join_cons_ne _ _ _ hr]
      simp only [List.length_append, List.length_cons, List.length_nil]
      rw [Nat.succ_mul]; omega
theorem listW_len6 {l : List Int} (hi : InU16 l) (hl : l.length ≤ 32) : (listW l).length ≤ 1000 := by
  unfold listW
  split
  · simp
  · have := join_le6 (l := l.map dec) (N := 7) (fun x hx => by
      rw [List.mem_map] at hx
      obtain ⟨n, hn, rfl⟩ := hx
      have := mem_u16.1 hi n hn
      exact dec_length_le 6 _ (by omega)) 44
    simp at this ⊢
    omega
theorem spd_lists (l : List (List Int)) : (l.flatMap fun l => 32 :: listW l) = spd (l.map listW) := by simp [spd, List.flatMap_map]
set_option maxHeartbeats 16000000 in
set_option maxRecDepth 100000 in
theorem r6Line_6 (w : World) (x : Ev) (hx : x.In) {N : Nat} (tx rd : Value) (ht : EvAt N w tx rd x) (hN : N ≤ w.heap.size) (hg : evGood x = true) (hk : x.k = 6)
    (hmay : ∀ W, EvAt N W tx rd x → N ≤ W.heap.size → Calls Tryz.prog 22 #[.agg (evC x tx rd)] W fun e w' => e = .returned (.bool (evGood x)) ∧ Keeps [] W w') :
    Calls Tryz.prog 9 #[.agg (evC x tx rd)] w fun e w' => e = .returned (.tuple #[.string (bs (evLine x)), .int .i64 0]) ∧ Keeps [] w w' := by
  obtain ⟨gk, gc, gf, gn⟩ := good_parts hg
  have hga : listsGood x.r = true := by
    unfold evFits at gf
    simpa [hk] using gf
  obtain ⟨hn8, hn32⟩ := lists_all hga
  have hLN := line_lists hk
  rw [spd_lists] at hLN
  have HLN := Lib.hid hLN
  have hwl : ∀ s ∈ x.r.map listW, s.length ≤ 1000 := by
    intro s hs
    rw [List.mem_map] at hs
    obtain ⟨l, hl, rfl⟩ := hs
    exact listW_len6 (hx.r l hl) (hn32 l hl)
  have HWL := Lib.hid hwl
  have H32 := Lib.hid hn32
  have HRU := Lib.hid hx.r
  clear gk gc gf gn hga hLN hwl hn32
  have hk0 := (Keeps.refl [] w).alloc (.cells (evC x tx rd) 32)
  have hb0 := heap_alloc_new w (.cells (evC x tx rd) 32)
  have HM := Lib.hid (hmay _ (ht.new hk0 hN) (Nat.le_trans hN hk0.size))
  rw [hg] at HM
  have HK := Lib.hid hk0
  have HT := Lib.hid (ht.new hk0 hN)
  have hn0 : N ≤ (w.alloc (.cells (evC x tx rd) 32)).heap.size := Nat.le_trans hN hk0.size
  clear hk0 ht hN hmay
  have hd1 := fun w => r6d_any w x.c hx.c0 (by have := hx.c1; omega)
  have hd2 := fun w => r6d_any w x.id hx.i0 (by have := hx.i1; omega)
  have hw0 : IntKind.i64.wrap x.c = x.c := by have := hx.c0; have := hx.c1; simp [IntKind.wrap, IntKind.bits, IntKind.signed]; omega
  have hw1 : IntKind.i64.wrap x.id = x.id := by have := hx.i0; have := hx.i1; simp [IntKind.wrap, IntKind.bits, IntKind.signed]; omega
  have s1 : (dec x.c).length ≤ 7 := dec_length_le 6 _ (by have := hx.c1; omega)
  have s2 : (dec x.id).length ≤ 7 := dec_length_le 6 _ (by have := hx.i1; omega)
  have z1 : (bs (dec x.c)).size ≤ 7 := by rw [bs_size]; exact s1
  have z2 : (bs (dec x.id)).size ≤ 7 := by rw [bs_size]; exact s2
  have hwho : (⟨#[32]⟩ : ByteArray) ++ bs (dec x.c) ++ (⟨#[32]⟩ : ByteArray) ++ bs (dec x.id) = bs (whoT x) := by
    have e : (⟨#[32]⟩ : ByteArray) = bs [32] := rfl
    rw [e, bs_app, bs_app, bs_app]
    unfold whoT
    congr 1
    simp
  have HD1 := Lib.hid hd1; have HD2 := Lib.hid hd2; have HWHO := Lib.hid hwho
  have zw : (bs (whoT x)).size ≤ 16 := by rw [bs_size]; unfold whoT; simp; omega
  clear hd1 hd2 hwho s1 s2
  go_enter Tryz.func9, Tryz.ntmps9
  go_wp2_with ((with_reducible apply wpList_load_ev); exact rfl; (first | assumption | (refine heap_alloc_lt ?_; assumption) | (refine heap_alloc_lt (heap_alloc_lt ?_); assumption) | exact heap_alloc_at (by simp)); exact rfl)
  generalize w.alloc (.cells (evC x tx rd) 32) = W0 at *
  generalize w.heap.size = b at *
  refine HM.out.mono ?_; rintro z w1 ⟨rfl, hk1⟩
  have hb1 := hk1.heap hb0 (by simp)
  have HK1 := Lib.hid (HK.out.trans hk1 (FSub.refl _ _))
  have HT1 := Lib.hid (HT.out.new hk1 hn0)
  have hn1 := Nat.le_trans hn0 hk1.size
  have hr := cfg_range hb1
  clear hk1 HK HM hb0 HT hn0
  have HKA := Lib.hid ((Keeps.refl [] w1).alloc (.cells #[.int .u8 0, .int .i64 0, .int .i64 0, .int .i64 0, .bool false, .bool false, .bool false] 30))
  go_wp2_with (first | (refine wpList_load_mid rfl 30 _ rfl b 12 rfl (cfgL x.g) _ hr Tryz.underlying30 rfl (by kernel_rfl) ?_) | ((with_reducible apply wpList_put_cfg); exact rfl; exact rfl; exact heap_alloc_at (by simp); exact ⟨rfl, rfl⟩; exact rfl))
  intro W2 hc2 hk2
  have hq2 : Keeps [] w1 W2 := HKA.out.trans hk2 (fun q hq => .inr (by simp at hq; omega))
  have hb2 := hq2.heap hb1 (by simp)
  have HK2 := Lib.hid (HK1.out.trans hq2 (FSub.refl _ _))
  have HT2 := Lib.hid (HT1.out.new hq2 hn1)
  have hn2 := Nat.le_trans hn1 hq2.size
  clear hq2 hk2 HKA HK1 hr hb1 HT1 hn1
  generalize w1.heap.size = cb at *
  have HB2 := Lib.hid hb2; have HC2 := Lib.hid hc2
  clear hb2 hc2
  generalize hA : bs (dec x.c) = A at *
  generalize hB : bs (dec x.id) = B at *
  generalize hW : bs (whoT x) = WH at *
  have HA := Lib.hid hA; have HB := Lib.hid hB; have HW := Lib.hid hW
  clear hA hB hW
  have p1 : 1 + A.size ≤ 9223372036854775807 := by omega
  have p2 : 1 + A.size ≤ 9223372036854775806 := by omega
  have p3 : 1 + A.size + 1 + B.size ≤ 9223372036854775807 := by omega
  go_wp2_with fail
  refine wp_region_noPanic ?_
  refine wp_region_held_drew (S := fun w' => w'.heap[b]? = some (.cells (evC x tx rd) 32 (0, 0)) ∧ w'.heap[cb]? = some (.cells (cfgL x.g).toArray 30 (0, 0))) (by kernel_rfl) ⟨HB2.out, HC2.out⟩ (fun hHeld => ?_)
  apply wpAnyH_take (i := 0) (v := .pointer (some ⟨b, 1, none⟩))
  · simp only [List.getElem?_toArray]; rfl
  · kernel_rfl
  · kernel_rfl
  · kernel_rfl
  · exact fun _ _ _ h => h
  · exact Or.inl ⟨by rfl, by intro w hSw; go_simp; try with_reducible rfl⟩
  · assumption
  try simp only [Act.put, List.setIfInBounds_toArray, List.set_cons_zero, List.set_cons_succ]
  apply wpAnyH_take (i := 1) (v := .int .u8 x.c)
  · simp only [List.getElem?_toArray]; rfl
  · kernel_rfl
  · kernel_rfl
  · kernel_rfl
  · exact fun _ _ _ h => h
  · exact Or.inl ⟨by rfl, by intro w hSw; have d0 := ev_cell hSw.1 1 (evC_1 x tx rd); go_simp; try with_reducible rfl⟩
  · assumption
  try simp only [Act.put, List.setIfInBounds_toArray, List.set_cons_zero, List.set_cons_succ]
  apply wpAnyH_take (i := 2) (v := .int .i64 x.c)
  · simp only [List.getElem?_toArray]; rfl
  · kernel_rfl
  · kernel_rfl
  · kernel_rfl
  · exact fun _ _ _ h => h
  · exact Or.inl ⟨by rfl, by intro w hSw; go_simp; try with_reducible rfl⟩
  · assumption
  try simp only [Act.put, List.setIfInBounds_toArray, List.set_cons_zero, List.set_cons_succ]
  apply wpAnyH_take (i := 6) (v := .pointer (some ⟨b, 2, none⟩))
  · simp only [List.getElem?_toArray]; rfl
  · kernel_rfl
  · kernel_rfl
  · kernel_rfl
  · exact fun _ _ _ h => h
  · exact Or.inl ⟨by rfl, by intro w hSw; go_simp; try with_reducible rfl⟩
  · assumption
  try simp only [Act.put, List.setIfInBounds_toArray, List.set_cons_zero, List.set_cons_succ]
  apply wpAnyH_take (i := 7) (v := .int .u16 x.id)
  · simp only [List.getElem?_toArray]; rfl
  · kernel_rfl
  · kernel_rfl
  · kernel_rfl
  · exact fun _ _ _ h => h
  · exact Or.inl ⟨by rfl, by intro w hSw; have d0 := ev_cell hSw.1 2 (evC_2 x tx rd); go_simp; try with_reducible rfl⟩
  · assumption
  try simp only [Act.put, List.setIfInBounds_toArray, List.set_cons_zero, List.set_cons_succ]
  apply wpAnyH_take (i := 8) (v := .int .i64 x.id)
  · simp only [List.getElem?_toArray]; rfl
  · kernel_rfl
  · kernel_rfl
  · kernel_rfl
  · exact fun _ _ _ h => h
  · exact Or.inl ⟨by rfl, by intro w hSw; go_simp; try with_reducible rfl⟩
  · assumption
  try simp only [Act.put, List.setIfInBounds_toArray, List.set_cons_zero, List.set_cons_succ]
  apply wpAnyH_ready (rs := [3])
  · kernel_rfl
  · simp
  apply AllReadyH.cons (hs := AllReadyH.nil)
  · simp only [List.getElem?_toArray]; rfl
  intro K hK
  rw [if_pos (by rfl)]
  go_simp
  refine (HD1.out _).mono ?_; rintro z w3 ⟨rfl, hk3⟩
  have hk3 : Keeps [] W2 w3 := hk3.undrew
  have hb3 := hk3.heap HB2.out (by simp); have hc3 := hk3.heap HC2.out (by simp)
  go_wp2_with fail
  refine hK.out _ _ ?_ (fun hHeld => ?_)
  · exact ⟨hb3, hc3⟩
  clear hK K
  try simp only [Act.put, List.setIfInBounds_toArray, List.set_cons_zero, List.set_cons_succ]
  apply wpAnyH_take (i := 4) (v := .string (⟨#[32]⟩ ++ A))
  · simp only [List.getElem?_toArray]; rfl
  · kernel_rfl
  · kernel_rfl
  · kernel_rfl
  · exact fun _ _ _ h => h
  · exact Or.inl ⟨by rfl, by intro w hSw; go_simp; try with_reducible rfl⟩
  · assumption
  try simp only [Act.put, List.setIfInBounds_toArray, List.set_cons_zero, List.set_cons_succ]
  apply wpAnyH_take (i := 5) (v := .string (⟨#[32]⟩ ++ A ++ ⟨#[32]⟩))
  · simp only [List.getElem?_toArray]; rfl
  · kernel_rfl
  · kernel_rfl
  · kernel_rfl
  · exact fun _ _ _ h => h
  · exact Or.inl ⟨by rfl, by intro w hSw; go_simp; try with_reducible rfl⟩
  · assumption
  try simp only [Act.put, List.setIfInBounds_toArray, List.set_cons_zero, List.set_cons_succ]
  apply wpAnyH_ready (rs := [9])
  · kernel_rfl
  · simp
  apply AllReadyH.cons (hs := AllReadyH.nil)
  · simp only [List.getElem?_toArray]; rfl
  intro K hK
  rw [if_pos (by rfl)]
  go_simp
  refine (HD2.out _).mono ?_; rintro z w4 ⟨rfl, hk4⟩
  have hk4 : Keeps [] W2 w4 := hk3.trans hk4 (FSub.refl _ _)
  have hb4 := hk4.heap HB2.out (by simp); have hc4 := hk4.heap HC2.out (by simp)
  go_wp2_with fail
  refine hK.out _ _ ?_ (fun hHeld => ?_)
  · exact ⟨hb4, hc4⟩
  clear hK K
  try simp only [Act.put, List.setIfInBounds_toArray, List.set_cons_zero, List.set_cons_succ]
  apply wpAnyH_take (i := 10) (v := .string (⟨#[32]⟩ ++ A ++ ⟨#[32]⟩ ++ B))
  · simp only [List.getElem?_toArray]; rfl
  · kernel_rfl
  · kernel_rfl
  · kernel_rfl
  · exact fun _ _ _ h => h
  · exact Or.inl ⟨by rfl, by intro w hSw; go_simp; try with_reducible rfl⟩
  · assumption
  try simp only [Act.put, List.setIfInBounds_toArray, List.set_cons_zero, List.set_cons_succ]
  apply wpAnyH_ready (rs := [11])
  · kernel_rfl
  · simp
  apply AllReadyH.cons (hs := AllReadyH.nil)
  · simp only [List.getElem?_toArray]; rfl
  intro K hK
  rw [if_pos (by rfl)]
  go_simp
  refine hK.out _ _ ?_ (fun hHeld => ?_)
  · exact ⟨hb4, hc4⟩
  clear hK K
  try simp only [Act.put, List.setIfInBounds_toArray, List.set_cons_zero, List.set_cons_succ]
  refine wpAnyH_done (by kernel_rfl) ?_ _
  refine NoPanic.normal ?_
  rw [HWHO.out]
  have HK4 := Lib.hid (HK2.out.trans hk4 (FSub.refl _ _))
  have HT4 := Lib.hid (HT2.out.new hk4 hn2)
  have hn4 := Nat.le_trans hn2 hk4.size
  have HB4 := Lib.hid hb4; have HC4 := Lib.hid hc4
  clear hk3 hb3 hc3 hk4 hb4 hc4 HK2 HT2 hn2 HB2 HC2 HD1 HD2 HWHO z1 z2 HA HB p1 p2 p3
  obtain ⟨ar, cr, rfl, hcr, hmr, hcells⟩ := HT4.out.r
  have HCL := Lib.hid hcells
  have HNN := Lib.hid hn4
  clear hcells
  have d0 := ev_cell HB4.out 0 (evC_0 x tx (.slice ar x.r.length cr))
  rw [hk] at d0
  have hS0 : (⟨#[99, 111, 109, 109, 105, 116]⟩ : ByteArray) ++ WH = bs (commitL ++ whoT x ++ spd ((x.r.map listW).take 0)) := by
    have e : (⟨#[99, 111, 109, 109, 105, 116]⟩ : ByteArray) = bs commitL := rfl
    rw [e, ← HW.out, bs_app]
    simp [spd]
  have HS0 := Lib.hid hS0
  have HSL : Hid ((commitL ++ whoT x).length ≤ 30) := Lib.hid (by have := congrArg ByteArray.size HW.out; rw [bs_size] at this; have e : commitL.length = 6 := rfl; rw [List.length_append]; omega)
  have C11 := Lib.hid (ev_cell HB4.out 11 (evC_11 x tx (.slice ar x.r.length cr)))
  clear hS0 HW HB4 HC4 HT4 hn4
  go_wp2_with fail
  generalize hn : x.r.length = n at *
  have HN := Lib.hid hn
  clear hn d0
  go_loopw [13, 14] (fun s i wr => ∃ k : Nat, i = .int .i64 k ∧ k ≤ n ∧ s = .string (bs (commitL ++ whoT x ++ spd ((x.r.map listW).take k))) ∧ Keeps [] w4 wr) (fun _ i _ => n - (intOf i).toNat)
  case atStart => exact ⟨0, rfl, by omega, by rw [← HS0.out], Keeps.refl _ _⟩
  case round =>
    obtain ⟨k, rfl, hkn, rfl, hkp⟩ := hrel
    have HKP := Lib.hid hkp
    have c11 := hkp.cell C11.out (by simp)
    clear hkp
    by_cases hlt : k < n
    · have hlw : k < x.r.length := by have := HN.out; omega
      have hlm : k < (x.r.map listW).length := by simpa using hlw
      obtain ⟨bk, o, rfl, hbk, hcell⟩ := HCL.out (fun e => by rw [e] at hlw; simp at hlw)
      obtain ⟨u, hu, hnu⟩ := hcell k (by have := HN.out; omega)
      have hkw := HKP.out
      have d1 := hkw.cell hu (by simp)
      have hmem : x.r.getD k [] ∈ x.r := by rw [List.getD_eq_getElem?_getD, List.getElem?_eq_getElem hlw]; exact List.getElem_mem hlw
      have hmap : (x.r.map listW).getD k [] = listW (x.r.getD k []) := by
        rw [List.getD_eq_getElem?_getD, List.getElem?_map, List.getD_eq_getElem?_getD, List.getElem?_eq_getElem hlw]; rfl
      have hrl := r6list_any wr u (x.r.getD k []) (hnu.same (hkw.same HNN.out (by simp))) (Nat.le_trans HNN.out hkw.size) (mem_u16.1 (HRU.out _ hmem)) (by have := H32.out _ hmem; omega)
      have hl1 := listW_len6 (HRU.out _ hmem) (H32.out _ hmem)
      have hl2 := spd_len (x.r.map listW) HWL.out k
      have hl3 := HSL.out
      have z1 : (bs (listW (x.r.getD k []))).size ≤ 1000 := by rw [bs_size]; exact hl1
      have z2 : (bs (commitL ++ whoT x ++ spd ((x.r.map listW).take k))).size ≤ 10000 := by rw [bs_size, List.length_append]; omega
      have e1 : bs (commitL ++ whoT x ++ spd ((x.r.map listW).take k)) ++ (⟨#[32]⟩ : ByteArray) ++ bs (listW (x.r.getD k [])) = bs (commitL ++ whoT x ++ spd ((x.r.map listW).take (k + 1))) := by
        have e : (⟨#[32]⟩ : ByteArray) = bs [32] := rfl
        rw [spd_snoc _ k hlm, e, bs_app, bs_app, hmap]
        congr 1
        simp
      have E1 := Lib.hid e1
      have HRL := Lib.hid hrl
      have hk0 : (0 : Int) ≤ k := by omega
      clear e1 hmem hl1 hl2 hl3 hcell HCL hlw hlm hmap hrl hkw hnu hu
      generalize bs (listW (x.r.getD k [])) = Y at *
      generalize bs (commitL ++ whoT x ++ spd ((x.r.map listW).take k)) = S at *
      go_wp2_with fail
      refine HRL.out.mono ?_; rintro e w6 ⟨rfl, hk6⟩
      have HKQ := Lib.hid (HKP.out.trans hk6 (FSub.refl _ _))
      clear hk6 HKP d1 c11 HRL
      go_wp2_with fail
      go_roundw
      case rel => exact ⟨k + 1, by go_num, by omega, by rw [← E1.out], HKQ.out⟩
      case measure => simp [intOf]; omega
    · rw [List.take_of_length_le (show (x.r.map listW).length ≤ k by have := HN.out; rw [List.length_map]; omega)]
      go_wp2_with fail
      go_ret2
      exact ⟨by rw [HLN.out]; rfl, HK4.out.trans HKP.out (FSub.refl _ _)⟩
end Go.Proofs.YtffldnjjijckcaaGreatDoor
