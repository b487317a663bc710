/-
  The words behind a line's kind: begin, commit; a list's word.
-/
import Derived.Test.YtffldnjjijckcaaGreatDoorR20
import Derived.Test.YtffldnjjijckcaaGreatDoorR37
set_option linter.unusedSimpArgs false
set_option linter.unusedVariables false
namespace Go.Proofs.YtffldnjjijckcaaGreatDoor
open Go.RowKit
theorem RowW.strs {base : Nat} {w : World} {v : Value} {l : Wds} (h : RowW base w v l) : Strs w.heap.size w v l := Strs.row (row_up (b2 := 0) h (fun _ _ => Nat.zero_le _))
theorem RowW.nil (base : Nat) (w : World) : RowW base w (.slice none 0 0) [] := World.ownsRow_nil _ _ _ _
theorem dec_short {n : Int} (_h0 : 0 ≤ n) (h1 : n < 10000000) : (dec n).length ≤ 7 := dec_length_le 6 n.toNat (by omega)
/-- A row of words under way, beside old blocks. -/
structure RowSt (w : World) (base : Nat) (W : World) (v : Value) (l : Wds) : Prop where
  row : RowW base W v l
  keeps : Keeps [] w W
  glob : Glob6 W
  le : base ≤ W.heap.size
  wb : w.heap.size ≤ base
theorem RowSt.new {w : World} {base : Nat} {W W' : World} {v : Value} {l : Wds} (h : RowSt w base W v l) (hk : Keeps [] W W') : RowSt w base W' v l :=
  ⟨row_old h.row hk (by simp), h.keeps.trans hk (FSub.refl _ _), h.glob.new hk, Nat.le_trans h.le hk.size, h.wb⟩
theorem RowSt.add {w : World} {base : Nat} {W : World} {v : Value} {l : Wds} (hG : Glob6 w) (h : RowSt w base W v l) (hn : l.length ≤ 100000) (m : Wds) (hm : m.length ≤ 1000) (N : Nat) (hN : N = m.length) (cs : Array Value) (hcs : cs = (m.map fun s => Value.string (bs s)).toArray) :
    ∃ v' w', (Builtin.append_ #[63, 63] 63 #[v, .slice (some ⟨W.heap.size, 0, none⟩) N N]).run Tryz.prog (W.alloc (.cells cs 9)) = .ok v' w' ∧ RowSt w base w' v' (l ++ m) := by
  obtain ⟨v', w', hr, ho, hk⟩ := append_lit W base h.le v l h.row hn m hm N hN cs hcs
  have hF : ∀ y ∈ own v, base ≤ y := fun y hy => (row_base h.row y hy).1
  exact ⟨v', w', hr, ho, h.keeps.trans hk (fun y hy => .inr (by have := hF y hy; have := h.wb; omega)), h.glob.keeps hk (fun k hk2 hm2 => by have h1 := hF k hk2; have h2 := hG.lt k hm2; have := h.wb; omega), Nat.le_trans h.le hk.size, h.wb⟩
set_option maxHeartbeats 8000000 in
set_option maxRecDepth 100000 in
theorem wordOfList_any (w : World) (hG : Glob6 w) (v : Value) (l : List Int) {N : Nat} (h : Nums N w v l) (hN : N ≤ w.heap.size) (hi : InU16 l) (hl : l.length ≤ 1000) :
    Calls Tryz.prog 84 #[v] w fun e w' => e = .returned (.string (bs (listW l))) ∧ Keeps [] w w' := by
  obtain ⟨a, c, rfl, hc, hm, h⟩ := h
  by_cases he : l = []
  · subst he
    go_enter Tryz.func84, Tryz.ntmps84
    go_wp2_with fail
    go_ret
    exact ⟨rfl, Keeps.refl _ _⟩
  · obtain ⟨bk, o, rfl, hbN, hcells⟩ := h he
    have hpos : 0 < l.length := List.length_pos_iff.2 he
    have hz : ((l.length : Int) == 0) = false := by rw [beq_eq_false_iff_ne]; omega
    have hLW : listW l = Lib.join (l.map dec) [44] := by unfold listW; rw [if_neg he]
    rw [hLW]
    have HC := Lib.hid hcells; have HI := Lib.hid hi
    have HG := Lib.hid hG
    have H0 := Lib.hid (⟨RowW.nil _ _, Keeps.refl _ _, hG, Nat.le_refl _, Nat.le_refl _⟩ : RowSt w w.heap.size w (.slice none 0 0) [])
    clear h hcells hi he hLW
    go_enter Tryz.func84, Tryz.ntmps84
    go_wp2_with fail
    go_loopw [3, 11] (fun q i wr => ∃ k : Nat, i = .int .i64 k ∧ k ≤ l.length ∧ RowSt w w.heap.size wr q ((l.take k).map dec)) (fun _ i _ => l.length - (intOf i).toNat)
    case atStart => exact ⟨0, rfl, by omega, H0.out⟩
    case round =>
      clear H0
      obtain ⟨k, rfl, hk, hst⟩ := hrel
      by_cases hlt : k < l.length
      · have d1 := hst.keeps.cell (HC.out k hlt) (by simp)
        have hb := HI.out k
        have hk0 : (0 : Int) ≤ k := by omega
        have hnx : (l.take (k + 1)).map dec = (l.take k).map dec ++ [dec (l.getD k 0)] := by
          rw [List.take_add_one, List.getElem?_eq_getElem hlt, List.getD_eq_getElem?_getD, List.getElem?_eq_getElem hlt, List.map_append]; rfl
        have HNX := Lib.hid hnx
        have hit := fun w hG => Itoa6_any w hG (l.getD k 0) hb.1 (by omega)
        have wn := wrap64 (n := l.getD k 0) hb.1 (by omega)
        have hlen : ((l.take k).map dec).length ≤ 100000 := by simp; omega
        have HS := Lib.hid hst
        clear hnx hst
        generalize l.getD k 0 = n at *
        go_wp2_with fail
        refine (hit _ HS.out.glob).mono ?_; rintro e w2 ⟨rfl, hk2⟩
        obtain ⟨v', w3, hr, hs⟩ := (HS.out.new hk2).add HG.out hlen [dec n] (by simp) 1 rfl #[.string (bs (dec n))] rfl
        have HR := Lib.hid hr; have HS3 := Lib.hid hs
        clear hr hs HS hk2 hit d1
        go_wp2_with (at_builtin; refine wpList_append_run rfl _ _ 63 rfl _ _ _ _ rfl rfl HR.out ?_)
        go_roundw
        case rel => exact ⟨k + 1, by go_num, by omega, by rw [HNX.out]; exact HS3.out⟩
        case measure => simp [intOf]; omega
      · obtain rfl : k = l.length := by omega
        rw [List.take_length] at hst
        have hj := Join6_any wr u3 (l.map dec) 44 hst.row.strs (M := 7) (fun x hx => by
          rw [List.mem_map] at hx
          obtain ⟨n, hn, rfl⟩ := hx
          have := mem_u16.1 HI.out n hn
          exact dec_short this.1 (by omega)) (by simp; omega)
        have HK := Lib.hid hst.keeps
        clear hst
        go_wp2_with fail
        refine hj.mono ?_; rintro e w2 ⟨rfl, hk2⟩
        go_wp2_with fail
        go_ret
        exact ⟨rfl, HK.out.trans hk2 (FSub.refl _ _)⟩
set_option maxHeartbeats 8000000 in
set_option maxRecDepth 100000 in
theorem wordsOfCommit_any (w : World) (hG : Glob6 w) (x : Ev) (hx : x.In) (tx rd : Value) {N : Nat} (ht : Lists N w rd x.r) (hN : N ≤ w.heap.size) (hn : x.r.length ≤ 1000) (hl : ∀ l ∈ x.r, l.length ≤ 1000) :
    Calls Tryz.prog 57 #[.agg (evC x tx rd)] w (Words6 w (whoW x ++ x.r.map listW)) := by
  have hk0 := (Keeps.refl [] w).alloc (.cells (evC x tx rd) 32)
  have HX := Lib.hid (heap_alloc_new w (.cells (evC x tx rd) 32))
  have HG0 := Lib.hid (hG.new hk0)
  have HK := Lib.hid hk0
  have hz : w.heap.size < (w.alloc (.cells (evC x tx rd) 32)).heap.size := lt_of_block HX.out
  have HG := Lib.hid hG
  obtain ⟨a, c, rfl, hc, hm, h⟩ := ht
  have HH := Lib.hid h
  have HR := Lib.hid hx.r; have HL := Lib.hid hl
  have E11 := evC_11 x tx (.slice a x.r.length c)
  clear hk0 h hl
  go_enter Tryz.func57, Tryz.ntmps57
  go_wp2_with ((with_reducible apply wpList_load_ev); exact rfl; exact HX.out; exact rfl)
  generalize w.alloc (.cells (evC x tx (.slice a x.r.length c)) 32) = w1 at *
  refine (wordsOfWho_any _ HG0.out x hx _ _).mono ?_; rintro e w2 ⟨v2, rfl, hrow2, hk2⟩
  have c11 := ev_cell (hk2.heap HX.out (by simp)) 11 E11
  have H2 := Lib.hid (⟨hrow2, HK.out.trans hk2 (FSub.refl _ _), HG0.out.new hk2, hk2.size, Nat.le_of_lt hz⟩ : RowSt w w1.heap.size w2 v2 (whoW x))
  clear HX HG0 HK hrow2 hk2 E11 hx
  go_wp2_with fail
  go_loopw [3, 11] (fun q i wr => ∃ k : Nat, i = .int .i64 k ∧ k ≤ x.r.length ∧ RowSt w w1.heap.size wr q (whoW x ++ (x.r.take k).map listW)) (fun _ i _ => x.r.length - (intOf i).toNat)
  case atStart => exact ⟨0, rfl, by omega, by simpa using H2.out⟩
  case round =>
    clear H2 c11
    obtain ⟨k, rfl, hk, hst⟩ := hrel
    by_cases hlt : k < x.r.length
    · obtain ⟨bk, o, rfl, hbN, hcells⟩ := HH.out (fun e => by rw [e] at hlt; simp at hlt)
      obtain ⟨u, hu, hnu⟩ := hcells k hlt
      have d1 := hst.keeps.cell hu (by simp)
      have hk0 : (0 : Int) ≤ k := by omega
      have hmem : x.r.getD k [] ∈ x.r := by rw [List.getD_eq_getElem?_getD, List.getElem?_eq_getElem hlt]; exact List.getElem_mem hlt
      have hnx : whoW x ++ (x.r.take (k + 1)).map listW = (whoW x ++ (x.r.take k).map listW) ++ [listW (x.r.getD k [])] := by
        rw [List.take_add_one, List.getElem?_eq_getElem hlt, List.getD_eq_getElem?_getD, List.getElem?_eq_getElem hlt, List.map_append, List.append_assoc]; rfl
      have HNX := Lib.hid hnx
      have hwl := wordOfList_any wr hst.glob u (x.r.getD k []) (hnu.same (hst.keeps.same hN (by simp))) (Nat.le_trans hN hst.keeps.size) (HR.out _ hmem) (HL.out _ hmem)
      have hlen : (whoW x ++ (x.r.take k).map listW).length ≤ 100000 := by simp [whoW]; omega
      have HS := Lib.hid hst
      clear hnx hst hcells hu hnu hmem
      generalize listW (x.r.getD k []) = L at *
      go_wp2_with fail
      refine hwl.mono ?_; rintro e w4 ⟨rfl, hk4⟩
      obtain ⟨v', w5, hr, hs⟩ := (HS.out.new hk4).add HG.out hlen [L] (by simp) 1 rfl #[.string (bs L)] rfl
      have HRR := Lib.hid hr; have HS3 := Lib.hid hs
      clear hr hs HS hk4 hwl d1
      go_wp2_with (at_builtin; refine wpList_append_run rfl _ _ 63 rfl _ _ _ _ rfl rfl HRR.out ?_)
      go_roundw
      case rel => exact ⟨k + 1, by go_num, by omega, by rw [HNX.out]; exact HS3.out⟩
      case measure => simp [intOf]; omega
    · obtain rfl : k = x.r.length := by omega
      rw [List.take_length] at hst
      have HS := Lib.hid hst
      clear hst
      go_wp2_with fail
      go_ret
      exact ⟨_, rfl, row_up HS.out.row (fun y hy => by have h1 := (row_base HS.out.row y hy).1; omega), HS.out.keeps⟩
set_option maxHeartbeats 8000000 in
set_option maxRecDepth 100000 in
theorem wordsOfBegin_any (w : World) (hG : Glob6 w) (x : Ev) (hx : x.In) (tx rd : Value) {N : Nat} (ht : Mics N w tx x.t) (hN : N ≤ w.heap.size) (hn : x.t.length ≤ 1000) :
    Calls Tryz.prog 55 #[.agg (evC x tx rd)] w (Words6 w (whoW x ++ x.t.flatMap micW)) := by
  have hk0 := (Keeps.refl [] w).alloc (.cells (evC x tx rd) 32)
  have HX := Lib.hid (heap_alloc_new w (.cells (evC x tx rd) 32))
  have HG0 := Lib.hid (hG.new hk0)
  have HK := Lib.hid hk0
  have hz : w.heap.size < (w.alloc (.cells (evC x tx rd) 32)).heap.size := lt_of_block HX.out
  have HG := Lib.hid hG
  obtain ⟨a, c, rfl, hc, hm, h⟩ := ht
  have HH := Lib.hid h
  have HT := Lib.hid hx.t
  have E10 := evC_10 x (.slice a x.t.length c) rd
  clear hk0 h
  go_enter Tryz.func55, Tryz.ntmps55
  go_wp2_with ((with_reducible apply wpList_load_ev); exact rfl; exact HX.out; exact rfl)
  generalize w.alloc (.cells (evC x (.slice a x.t.length c) rd) 32) = w1 at *
  refine (wordsOfWho_any _ HG0.out x hx _ _).mono ?_; rintro e w2 ⟨v2, rfl, hrow2, hk2⟩
  have c10 := ev_cell (hk2.heap HX.out (by simp)) 10 E10
  have H2 := Lib.hid (⟨hrow2, HK.out.trans hk2 (FSub.refl _ _), HG0.out.new hk2, hk2.size, Nat.le_of_lt hz⟩ : RowSt w w1.heap.size w2 v2 (whoW x))
  clear HX HG0 HK hrow2 hk2 E10 hx
  go_wp2_with fail
  go_loopw [3, 12] (fun q i wr => ∃ k : Nat, i = .int .i64 k ∧ k ≤ x.t.length ∧ RowSt w w1.heap.size wr q (whoW x ++ (x.t.take k).flatMap micW)) (fun _ i _ => x.t.length - (intOf i).toNat)
  case atStart => exact ⟨0, rfl, by omega, by simpa using H2.out⟩
  case round =>
    clear H2 c10
    obtain ⟨k, rfl, hk, hst⟩ := hrel
    by_cases hlt : k < x.t.length
    · obtain ⟨bk, o, rfl, hbN, hcells⟩ := HH.out (fun e => by rw [e] at hlt; simp at hlt)
      obtain ⟨d1, d2, d3⟩ := hcells k _ (getD_get micNone hlt)
      replace d1 := hst.keeps.cell d1 (by simp)
      replace d2 := hst.keeps.cell d2 (by simp)
      replace d3 := hst.keeps.cell d3 (by simp)
      have hk0 : (0 : Int) ≤ k := by omega
      have hmi := HT.out _ (getD_in micNone hlt)
      have b1 := hmi.k0; have b2 := hmi.k1; have b3 := hmi.v0; have b4 := hmi.v1
      have hz2 : bk < wr.heap.size := by have := hst.keeps.size; omega
      have hfl : ∀ t : List Mic, (t.flatMap micW).length ≤ 3 * t.length := by
        intro t
        induction t with
        | nil => simp
        | cons m t ih => have := (micW_len m).2; simp only [List.flatMap_cons, List.length_append, List.length_cons]; omega
      have hlen : (whoW x ++ (x.t.take k).flatMap micW).length ≤ 100000 := by
        have := hfl (x.t.take k)
        rw [List.length_append]
        simp [whoW] at this ⊢
        omega
      have hnx : whoW x ++ (x.t.take (k + 1)).flatMap micW = (whoW x ++ (x.t.take k).flatMap micW) ++ micW (x.t.getD k micNone) := by
        rw [List.take_add_one, List.getElem?_eq_getElem hlt, List.getD_eq_getElem?_getD, List.getElem?_eq_getElem hlt, List.flatMap_append, List.append_assoc]
        simp
      have HNX := Lib.hid hnx
      have HS := Lib.hid hst
      clear hnx hst hcells hmi hfl
      generalize x.t.getD k micNone = M at *
      obtain ⟨m1, m2, m3⟩ := M
      simp only [] at d1 d2 d3 b1 b2 b3 b4
      have i2 := fun w hG => Itoa6_any w hG m2 b1 (by omega)
      have i3 := fun w hG => Itoa6_any w hG m3 b3 (by omega)
      have w2 := wrap64 (n := m2) b1 (by omega)
      have w3 := wrap64 (n := m3) b3 (by omega)
      have HI3 := Lib.hid i3
      have HA := Lib.hid (HS.out.new ((Keeps.refl [] wr).alloc (.cells #[.bool m1, .int .u8 m2, .int .u16 m3] 70)))
      have hbx := heap_alloc_new wr (.cells #[.bool m1, .int .u8 m2, .int .u16 m3] 70)
      have HBX := Lib.hid hbx
      clear HS i3 hbx
      go_wp2_with fail
      refine (i2 _ HA.out.glob).mono ?_; rintro e wk ⟨rfl, hkk⟩
      have HB := Lib.hid (HA.out.new hkk)
      have hbx2 := hkk.heap HBX.out (by simp)
      have f0 : wk.cell? ⟨wr.heap.size, 0, none⟩ = some (.bool m1) := by simp [World.cell?, hbx2]
      have f2 : wk.cell? ⟨wr.heap.size, 2, none⟩ = some (.int .u16 m3) := by simp [World.cell?, hbx2]
      clear HA HBX hkk i2 d1 d2 d3 hbx2 HH HT
      cases m1 with
      | true =>
        obtain ⟨v', w5, hr, hs⟩ := HB.out.add HG.out hlen [readL, dec m2] (by simp) 2 rfl #[.string ⟨#[114, 101, 97, 100]⟩, .string (bs (dec m2))] rfl
        have HRR := Lib.hid hr; have HS3 := Lib.hid hs
        clear hr hs HB HI3 f2
        go_wp2_with (at_builtin; refine wpList_append_run rfl _ _ 63 rfl _ _ _ _ rfl rfl HRR.out ?_)
        go_roundw
        case rel => exact ⟨k + 1, by go_num, by omega, by rw [HNX.out]; exact HS3.out⟩
        case measure => simp [intOf]; omega
      | false =>
        go_wp2_with fail
        refine (HI3.out _ HB.out.glob).mono ?_; rintro e wl ⟨rfl, hkl⟩
        obtain ⟨v', w5, hr, hs⟩ := (HB.out.new hkl).add HG.out hlen [appendL, dec m2, dec m3] (by simp) 3 rfl #[.string ⟨#[97, 112, 112, 101, 110, 100]⟩, .string (bs (dec m2)), .string (bs (dec m3))] rfl
        have HRR := Lib.hid hr; have HS3 := Lib.hid hs
        clear hr hs HB HI3 f0 f2 hkl
        go_wp2_with (at_builtin; refine wpList_append_run rfl _ _ 63 rfl _ _ _ _ rfl rfl HRR.out ?_)
        go_roundw
        case rel => exact ⟨k + 1, by go_num, by omega, by rw [HNX.out]; exact HS3.out⟩
        case measure => simp [intOf]; omega
    · obtain rfl : k = x.t.length := by omega
      rw [List.take_length] at hst
      have HS := Lib.hid hst
      clear hst
      go_wp2_with fail
      go_ret
      exact ⟨_, rfl, row_up HS.out.row (fun y hy => by have h1 := (row_base HS.out.row y hy).1; omega), HS.out.keeps⟩
end Go.Proofs.YtffldnjjijckcaaGreatDoor
