/-
  The reader's invoke and returned.
-/
import Derived.Test.YtffldnjjijckcaaGreatDoorW28
import Derived.Test.YtffldnjjijckcaaGreatDoorW29
import Derived.Test.YtffldnjjijckcaaGreatDoorW30
set_option linter.unusedSimpArgs false
set_option linter.unusedVariables false
namespace Go.Proofs.YtffldnjjijckcaaGreatDoor
open Go.RowKit
def rdInv (x : Ev) (l : Wds) : Option (Ev × Wds) := match rdWho l with
  | none => none
  | some (c, i, r) => if opsE r = 0 then some ({ x with c := c, id := i, o := opsX r }, []) else none
theorem getD_le {l : Wds} {N : Nat} (h : ∀ x ∈ l, x.length ≤ N) (j : Nat) : (l.getD j []).length ≤ N := by
  by_cases hj : j < l.length
  · rw [List.getD_eq_getElem?_getD, List.getElem?_eq_getElem hj]
    exact h _ (List.getElem_mem hj)
  · rw [List.getD_eq_getElem?_getD, List.getElem?_eq_none (by omega)]
    simp
theorem Rdt.empty {b r g : Nat} {w W W' : World} {l : Wds} {x : Ev} {tx rd : Value} (h : Rdt b r g w W l x tx rd) (hk : Keeps [r] W W') (hv : W'.heap[r]? = some (.cells #[.slice none 0 0] 75 (0, 0))) : Rdt b r g w W' [] x tx rd :=
  h.reads (h.rdr.put hk hv (StrsIn.nil g W) (by simp) (by simp)) hk
set_option maxHeartbeats 8000000 in
set_option maxRecDepth 100000 in
theorem invoke6_any (w0 w : World) (b r g : Nat) (l : Wds) (x : Ev) (tx rd : Value) (h : Rdt b r g w0 w l x tx rd) :
    Calls Tryz.prog 50 #[.pointer (some ⟨r, 0, none⟩), .pointer (some ⟨b, 0, none⟩)] w (Fills b r g w0 (rdInv x l) tx rd) := by
  have hw := who6_any w0 w b r g l x tx rd h
  obtain ⟨O, hO⟩ : ∃ O, rdInv x l = O := ⟨_, rfl⟩
  rw [hO]
  have HO := Lib.hid hO
  clear h hO
  go_enter Tryz.func50, Tryz.ntmps50
  go_wp2_with fail
  refine hw.mono ?_; intro e w1 hR
  clear hw
  cases e1 : rdWho l with
  | none =>
    rw [e1] at hR
    obtain ⟨rfl, hk⟩ := hR
    obtain rfl : O = none := by rw [← HO.out]; simp [rdInv, e1]
    unfold PanicE
    clear HO
    go_wp2_with fail
    exact ⟨rfl, rfl, hk⟩
  | some p =>
    obtain ⟨c, i, l1⟩ := p
    rw [e1] at hR
    obtain ⟨rfl, h1⟩ := hR
    have hO2 : O = if opsE l1 = 0 then some ({ x with c := c, id := i, o := opsX l1 }, []) else none := by rw [← HO.out]; simp [rdInv, e1]
    clear HO e1
    have HO := Lib.hid hO2
    clear hO2
    obtain ⟨v, hv, hs⟩ := h1.rdr.cell
    have c0 : w1.cell? ⟨r, 0, none⟩ = some v := by simp [World.cell?, hv]
    have hp := Parse4_any w1 h1.rdr.glob.o v l1 hs.strs (getD_le h1.rdr.ws)
    have HX := Lib.hid h1
    clear h1 hv hs
    simp only [Opn.val] at hp
    generalize opsX l1 = y at *
    obtain ⟨f, o, k, m, n⟩ := y
    rcases opsE_two l1 with hE | hE
    · rw [hE] at hp
      obtain rfl : O = some ({ x with c := c, id := i, o := ⟨f, o, k, m, n⟩ }, []) := by rw [HO.out, if_pos hE]
      clear HO hE
      go_wp2_with fail
      refine hp.mono ?_; rintro e w2 ⟨rfl, hk⟩
      have H2 := Lib.hid (HX.out.news hk)
      clear hp HX hk c0
      go_wp2_with ((with_reducible apply wpList_put_row (T := 24) 5); exact rfl; exact rfl; exact heap_alloc_at (by simp); exact ⟨rfl, rfl⟩; kernel_rfl; exact rfl)
      intro W3 hb hk
      have hkk := ((Keeps.refl [] w2).alloc _).trans hk (fun g hg => .inr (by simp at hg; omega))
      have H3 := Lib.hid (H2.out.news hkk)
      obtain ⟨c0, c1, c2, c3, c4, cl⟩ := cell5 hb
      clear H2 hk hkk
      go_wp2_with fail
      refine (need_yes _).mono ?_; rintro e w4 ⟨rfl, rfl⟩
      go_wp2_with ((with_reducible apply wpList_put_op); exact rfl; exact rfl; exact H3.out.ev)
      intro W5 hb5 hk5
      have H5 := Lib.hid (H3.out.puts hb5 hk5)
      obtain ⟨u, hu, _⟩ := H5.out.rdr.cell
      have d0 : W5.cell? ⟨r, 0, none⟩ = some u := by simp [World.cell?, hu]
      have hfz : W5.frozen? ⟨r, 0, none⟩ = false := by simp [World.frozen?, hu]
      have HU := Lib.hid hu
      clear H3 hb hb5 hk5 c0 c1 c2 c3 c4 cl hu
      go_wp2_with fail
      go_end0
      exact ⟨rfl, H5.out.empty ((Keeps.refl [r] W5).setCell _ _ (.inl (by simp))) (put1 HU.out _)⟩
    · rw [hE] at hp
      obtain rfl : O = none := by rw [HO.out, if_neg (by omega)]
      clear HO hE
      go_wp2_with fail
      refine hp.mono ?_; rintro e w2 ⟨rfl, hk⟩
      have H2 := Lib.hid (HX.out.news hk)
      clear hp HX hk c0
      go_wp2_with ((with_reducible apply wpList_put_row (T := 24) 5); exact rfl; exact rfl; exact heap_alloc_at (by simp); exact ⟨rfl, rfl⟩; kernel_rfl; exact rfl)
      intro W3 hb hk
      have hkk := ((Keeps.refl [] w2).alloc _).trans hk (fun g hg => .inr (by simp at hg; omega))
      have H3 := Lib.hid (H2.out.news hkk)
      clear H2 hk hkk hb
      go_wp2_with fail
      refine (need_no _).mono ?_; rintro e w4 ⟨rfl, rfl⟩
      unfold PanicE
      go_wp2_with fail
      exact ⟨rfl, rfl, H3.out.bad (Keeps.refl _ _)⟩
theorem lens_le {l : Wds} {N : Nat} (h : ∀ x ∈ l, x.length ≤ N) : Lib.lens l ≤ l.length * N := by
  induction l with
  | nil => simp [Lib.lens]
  | cons x r ih =>
    have h1 := ih (fun y hy => h y (by simp [hy]))
    have h2 := h x (by simp)
    simp only [Lib.lens, List.map_cons, List.sum_cons, List.length_cons] at h1 ⊢
    rw [Nat.add_mul]; omega
theorem join_le {l : Wds} {N : Nat} (h : ∀ x ∈ l, x.length ≤ N) (c : UInt8) : (Lib.join l [c]).length ≤ l.length * (N + 1) := by
  cases l with
  | nil => simp [Lib.join_nil]
  | cons x r =>
    rw [Lib.join_length]
    have := lens_le h
    simp only [List.length_cons, List.length_nil] at this ⊢
    rw [Nat.mul_add]; omega
/-- Words are joined. -/
theorem Join6_any (w : World) (v : Value) (l : Wds) (c : UInt8) {N M : Nat} (h : Strs N w v l) (hM : ∀ x ∈ l, x.length ≤ M) (hb : l.length * (M + 1) ≤ 140737488355328) :
    Calls Tryz.prog 21 #[v, .string ⟨#[c]⟩] w fun e w' => e = .returned (.string (bs (Lib.join l [c]))) ∧ Keeps [] w w' := by
  obtain ⟨a, cap, rfl, hc, hm, h⟩ := h
  cases l with
  | nil =>
    refine (Tryz.strings_Join_none a cap ⟨#[c]⟩ w).mono ?_
    rintro e w' ⟨rfl, rfl⟩
    exact ⟨rfl, Keeps.refl _ _⟩
  | cons x r =>
    obtain ⟨bk, o, rfl, hbN, h'⟩ := h (by simp)
    have hj := join_le hM c
    generalize x :: r = l at *
    have e0 : (l.map bs).map (·.data.toList) = l := by simp [Function.comp_def, bs_list]
    have hl : (l.map bs).length = l.length := by simp
    have hlen : l.length ≤ l.length * (M + 1) := Nat.le_mul_of_pos_right _ (by omega)
    by_cases hl0 : l = []
    · subst hl0
      refine (Tryz.strings_Join_none _ cap ⟨#[c]⟩ w).mono ?_
      rintro e w' ⟨rfl, rfl⟩
      exact ⟨rfl, Keeps.refl _ _⟩
    · have hbk : bk < w.heap.size := World.block_lt_of_cell? _ _ (h' 0 (List.length_pos_iff.2 hl0))
      have c := Tryz.strings_Join bk o cap (l.map bs) ⟨#[c]⟩ w (fun j y hy => ?_) hbk (by rw [hl]; omega) (by rw [hl]; exact hc) (by rw [e0]; show (Lib.join l [c]).length ≤ _; omega)
      · rw [hl, e0] at c
        exact c.mono fun e w' ⟨he, hb⟩ => ⟨he, Keeps.ofBelow hb⟩
      · rw [List.getElem?_map] at hy
        cases hq : l[j]? with
        | none => simp [hq] at hy
        | some z =>
          simp [hq] at hy
          subst hy
          have hjl : j < l.length := (List.getElem?_eq_some_iff.1 hq).1
          have := h' j hjl
          rw [List.getD_eq_getElem?_getD, hq] at this
          exact this
def rdRet (x : Ev) (l : Wds) : Option (Ev × Wds) := match rdWho l with
  | none => none
  | some (c, i, r) => if psE (Lib.join r [32]) = 0 then some ({ x with c := c, id := i, rk := psK (Lib.join r [32]), rv := psV (Lib.join r [32]) }, []) else none
set_option maxHeartbeats 8000000 in
set_option maxRecDepth 100000 in
theorem returned6_any (w0 w : World) (b r g : Nat) (l : Wds) (x : Ev) (tx rd : Value) (h : Rdt b r g w0 w l x tx rd) (hlen : (Lib.join l [32]).length ≤ 1000000) :
    Calls Tryz.prog 52 #[.pointer (some ⟨r, 0, none⟩), .pointer (some ⟨b, 0, none⟩)] w (Fills b r g w0 (rdRet x l) tx rd) := by
  have hw := who6_any w0 w b r g l x tx rd h
  obtain ⟨O, hO⟩ : ∃ O, rdRet x l = O := ⟨_, rfl⟩
  rw [hO]
  have HO := Lib.hid hO
  clear h hO
  go_enter Tryz.func52, Tryz.ntmps52
  go_wp2_with fail
  refine hw.mono ?_; intro e w1 hR
  clear hw
  cases e1 : rdWho l with
  | none =>
    rw [e1] at hR
    obtain ⟨rfl, hk⟩ := hR
    obtain rfl : O = none := by rw [← HO.out]; simp [rdRet, e1]
    unfold PanicE
    clear HO
    go_wp2_with fail
    exact ⟨rfl, rfl, hk⟩
  | some p =>
    obtain ⟨c, i, l1⟩ := p
    rw [e1] at hR
    obtain ⟨rfl, h1⟩ := hR
    have hjl : (Lib.join l1 [32]).length ≤ 1000000 := by
      obtain ⟨el, _⟩ := rdWho_ok e1
      rw [el] at hlen
      by_cases hl1 : l1 = []
      · subst hl1; simp [Lib.join_nil]
      · rw [join_cons_ne _ _ _ (by simp), join_cons_ne _ _ _ hl1] at hlen
        simp only [List.length_append] at hlen
        omega
    have hO2 : O = if psE (Lib.join l1 [32]) = 0 then some ({ x with c := c, id := i, rk := psK (Lib.join l1 [32]), rv := psV (Lib.join l1 [32]) }, []) else none := by rw [← HO.out]; simp [rdRet, e1]
    clear HO e1 hlen
    have HO := Lib.hid hO2
    clear hO2
    obtain ⟨v, hv, hs⟩ := h1.rdr.cell
    have c0 : w1.cell? ⟨r, 0, none⟩ = some v := by simp [World.cell?, hv]
    have hj := Join6_any w1 v l1 32 hs.strs h1.rdr.ws (by have h3 : l1.length ≤ 1000 := h1.rdr.ln; omega)
    generalize Lib.join l1 [32] = J at *
    have hp := fun w hG => Parse_any w hG (bs J) (by rw [bs_size]; exact hjl)
    rw [bs_list] at hp
    have HX := Lib.hid h1
    clear h1 hv hs hjl
    generalize psK J = K at *
    generalize psV J = V at *
    rcases psE_two J with hE | hE
    · rw [hE] at hp
      obtain rfl : O = some ({ x with c := c, id := i, rk := K, rv := V }, []) := by rw [HO.out, if_pos hE]
      clear HO hE
      go_wp2_with fail
      refine hj.mono ?_; rintro e w2 ⟨rfl, hk⟩
      have H2 := Lib.hid (HX.out.news hk)
      clear HX hk c0 hj
      go_wp2_with fail
      refine (hp _ H2.out.rdr.glob.r).mono ?_; rintro e w3 ⟨rfl, hk⟩
      have H3 := Lib.hid (H2.out.news hk)
      clear H2 hp hk
      go_wp2_with ((with_reducible apply wpList_put_row (T := 26) 2); exact rfl; exact rfl; exact heap_alloc_at (by simp); exact ⟨rfl, rfl⟩; kernel_rfl; exact rfl)
      intro W3 hb hk
      have hkk := ((Keeps.refl [] w3).alloc _).trans hk (fun g hg => .inr (by simp at hg; omega))
      have H4 := Lib.hid (H3.out.news hkk)
      obtain ⟨c0, c1, cl⟩ := cell2 hb
      clear H3 hk hkk
      go_wp2_with fail
      refine (need_yes _).mono ?_; rintro e w4 ⟨rfl, rfl⟩
      go_wp2_with ((with_reducible apply wpList_put_res); exact rfl; exact rfl; exact H4.out.ev)
      intro W5 hb5 hk5
      have H5 := Lib.hid (H4.out.puts hb5 hk5)
      obtain ⟨u, hu, _⟩ := H5.out.rdr.cell
      have d0 : W5.cell? ⟨r, 0, none⟩ = some u := by simp [World.cell?, hu]
      have hfz : W5.frozen? ⟨r, 0, none⟩ = false := by simp [World.frozen?, hu]
      have HU := Lib.hid hu
      clear H4 hb hb5 hk5 c0 c1 cl hu
      go_wp2_with fail
      go_end0
      exact ⟨rfl, H5.out.empty ((Keeps.refl [r] W5).setCell _ _ (.inl (by simp))) (put1 HU.out _)⟩
    · rw [hE] at hp
      obtain rfl : O = none := by rw [HO.out, if_neg (by omega)]
      clear HO hE
      go_wp2_with fail
      refine hj.mono ?_; rintro e w2 ⟨rfl, hk⟩
      have H2 := Lib.hid (HX.out.news hk)
      clear HX hk c0 hj
      go_wp2_with fail
      refine (hp _ H2.out.rdr.glob.r).mono ?_; rintro e w3 ⟨rfl, hk⟩
      have H3 := Lib.hid (H2.out.news hk)
      clear H2 hp hk
      go_wp2_with ((with_reducible apply wpList_put_row (T := 26) 2); exact rfl; exact rfl; exact heap_alloc_at (by simp); exact ⟨rfl, rfl⟩; kernel_rfl; exact rfl)
      intro W3 hb hk
      have hkk := ((Keeps.refl [] w3).alloc _).trans hk (fun g hg => .inr (by simp at hg; omega))
      have H4 := Lib.hid (H3.out.news hkk)
      clear H3 hk hkk hb
      go_wp2_with fail
      refine (need_no _).mono ?_; rintro e w4 ⟨rfl, rfl⟩
      unfold PanicE
      go_wp2_with fail
      exact ⟨rfl, rfl, H4.out.bad (Keeps.refl _ _)⟩
end Go.Proofs.YtffldnjjijckcaaGreatDoor
