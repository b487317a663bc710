/-
  The program's words, read one by one: first, spelled.
-/
import Derived.Test.YtllloahimfkmfaaDoorOe
import Derived.Test.YtllloahimfkmfaaDoorLd
import Derived.Lib.AtoiErrMem
namespace Go.Proofs.YtllloahimfkmfaaDoor
open Go.RowKit
/-- A slice of words; its block is below N. -/
def Strs (N : Nat) (w : World) (v : Value) (l : List (List UInt8)) : Prop :=
  ∃ a c, v = .slice a l.length c ∧ l.length ≤ c ∧ c ≤ 9223372036854775807 ∧ (l ≠ [] → ∃ bk o, a = some ⟨bk, o, none⟩ ∧ bk < N ∧ ∀ j, j < l.length → w.cell? ⟨bk, o + j, none⟩ = some (.string (bs (l.getD j []))))
theorem Strs.keeps {N : Nat} {w w' : World} {v : Value} {l : List (List UInt8)} (h : Strs N w v l) (hk : Keeps [] w w') : Strs N w' v l := by
  obtain ⟨a, c, rfl, hc, hm, h⟩ := h
  refine ⟨a, c, rfl, hc, hm, fun hn => ?_⟩
  obtain ⟨bk, o, rfl, hb, h'⟩ := h hn
  exact ⟨bk, o, rfl, hb, fun j hj => hk.cell (h' j hj) (by simp)⟩
theorem Strs.others {N : Nat} {F : List Nat} {w w' : World} {v : Value} {l : List (List UInt8)} (h : Strs N w v l) (hk : Keeps F w w') (hF : ∀ g ∈ F, N ≤ g) : Strs N w' v l := by
  obtain ⟨a, c, rfl, hc, hm, h⟩ := h
  refine ⟨a, c, rfl, hc, hm, fun hn => ?_⟩
  obtain ⟨bk, o, rfl, hb, h'⟩ := h hn
  exact ⟨bk, o, rfl, hb, fun j hj => hk.cell (h' j hj) (fun hg => by have h1 : N ≤ bk := hF _ hg; omega)⟩
theorem Strs.set {N : Nat} {w : World} {v : Value} {l : List (List UInt8)} (h : Strs N w v l) (D i : Nat) (hD : N ≤ D) (y : Value) : Strs N (w.setCell ⟨D, i, none⟩ y) v l :=
  h.others ((Keeps.refl [D] w).setCell ⟨D, i, none⟩ y (.inl (by simp))) (by simpa using hD)
theorem Strs.here {N : Nat} {w : World} {v : Value} {l : List (List UInt8)} (h : Strs N w v l) : Strs w.heap.size w v l := by
  obtain ⟨a, c, rfl, hc, hm, h⟩ := h
  refine ⟨a, c, rfl, hc, hm, fun hn => ?_⟩
  obtain ⟨bk, o, rfl, hb, h'⟩ := h hn
  exact ⟨bk, o, rfl, World.block_lt_of_cell? _ _ (h' 0 (List.length_pos_iff.2 hn)), h'⟩
theorem Strs.nil (N : Nat) (w : World) : Strs N w (.slice none 0 0) [] := ⟨none, 0, rfl, Nat.le_refl _, by decide, fun h => absurd rfl h⟩
theorem Strs.row {w : World} {v : Value} {l : List (List UInt8)} (h : w.ownsRow 0 9 1 v l.length (l.map fun s => .string (bs s))) : Strs w.heap.size w v l := by
  rcases h.2 with ⟨rfl, hn⟩ | ⟨g, cap, cur, rfl, _, hh, hc, hm, _⟩
  · have : l = [] := List.eq_nil_of_length_eq_zero hn
    subst this
    exact Strs.nil _ w
  · refine ⟨_, cap, rfl, hc, by unfold maxLen at hm; omega, fun _ => ⟨g, 0, rfl, lt_of_block hh, fun j hj => ?_⟩⟩
    have := h.cells (g := g) rfl j (.string (bs (l.getD j []))) (by simp [hj, List.getD])
    have ha : ((⟨g, 0, none⟩ : Addr).add j) = ⟨g, 0 + j, none⟩ := by unfold Addr.add; split <;> simp_all
    rw [ha] at this
    exact this
set_option maxHeartbeats 1000000 in
set_option maxRecDepth 100000 in
theorem first_any (w : World) (v : Value) (l : List (List UInt8)) {N : Nat} (h : Strs N w v l) : Calls Tryd.prog 62 #[v] w fun e w' =>
    ∃ v', e = .returned (.tuple #[.string (bs (l.getD 0 [])), v']) ∧ Strs N w' v' (l.drop 1) ∧ Keeps [] w w' := by
  obtain ⟨a, c, rfl, hc, hm, h⟩ := h
  cases l with
  | nil =>
    go_enter Tryd.func62, Tryd.ntmps62
    go_wp2_with fail
    go_ret2
    exact ⟨_, rfl, Strs.nil _ _, Keeps.refl _ _⟩
  | cons x r =>
    obtain ⟨bk, o, rfl, hbN, h'⟩ := h (by simp)
    have h0 := h' 0 (by simp)
    have e0 : (x :: r).getD 0 [] = x := rfl
    rw [e0] at h0 ⊢
    have hlen : (x :: r).length = r.length + 1 := rfl
    rw [hlen] at hc ⊢
    have HH := Lib.hid h'
    clear h h' e0
    generalize bs x = X at *
    have h0' : w.cell? ⟨bk, o, none⟩ = some (.string X) := h0
    have z1 : 1 ≤ c := by omega
    have z2 : (c : Int) ≤ 9223372036854775807 := by omega
    have z3 : 1 ≤ r.length + 1 := by omega
    have z0 : (((r.length + 1 : Nat) : Int) == 0) = false := by simp; omega
    go_enter Tryd.func62, Tryd.ntmps62
    go_wp2_with fail
    obtain ⟨A2, hA2⟩ : ∃ A, (if c = 1 then some (⟨bk, o, none⟩ : Addr) else some ⟨bk, o + 1, none⟩) = A := ⟨_, rfl⟩
    have HA2 := Lib.hid hA2
    go_region
    clear hA2
    go_wp2_with fail
    go_ret2
    refine ⟨_, rfl, ⟨A2, c - 1, rfl, by show r.length ≤ c - 1; omega, by omega, fun hr => ?_⟩, (Keeps.refl _ _).drew⟩
    have hrl : r.length ≠ 0 := fun e => hr (List.eq_nil_of_length_eq_zero e)
    refine ⟨bk, o + 1, by rw [← HA2.out, if_neg (by omega)], hbN, fun j hj => ?_⟩
    have := HH.out (j + 1) (by simp only [List.length_cons]; simp at hj; omega)
    have e : o + 1 + j = o + (j + 1) := by omega
    rw [e]
    exact this
theorem ParseUint4_any (w : World) (hG : Glob4 w) (s : ByteArray) (hs : s.size ≤ 1000) :
    Calls Tryd.prog 63 #[.string s, .int .i64 10, .int .i64 16] w fun e w' => (∃ x, e = .returned (.tuple #[.int .u64 (puOf s.data.toList), x])) ∧ Keeps [] w w' := by
  cases h : Lib.parseUintB 16 s.data.toList with
  | ok u =>
    refine (Tryd.strconv_ParseUint_10_at16_ok s (by omega) u h w).mono ?_
    rintro e w' ⟨rfl, hw⟩
    refine ⟨⟨_, by rw [puOf_ok h]⟩, ?_⟩
    rcases hw with rfl | rfl
    · exact Keeps.refl _ _
    · exact Keeps.ofBelow (Lib.bytesWorld_below _ _ _)
  | range =>
    obtain ⟨tp, p, hv⟩ := hG.ran
    refine (Tryd.strconv_ParseUint_10_at16_range_var s (by omega) h tp p w hv).mono ?_
    rintro e w' ⟨N, rfl, _, _, hb⟩
    exact ⟨⟨_, by simp only [puOf, h]; rfl⟩, Keeps.ofBelow hb⟩
  | _ =>
    obtain ⟨tp, p, hv⟩ := hG.syn
    have hc : Calls Tryd.prog 63 #[.string s, .int .i64 10, .int .i64 16] w fun e w' => (∃ x, e = .returned (.tuple #[.int .u64 0, x])) ∧ Below w.heap.size w w' :=
      (Any.strconv_ParseUint_10_at16_syntax_var Tryd.laysPu14 s (by omega) h tp p w hv).mono fun e w' ⟨N, he, _, _, hb⟩ => ⟨⟨_, he⟩, hb⟩
    refine hc.mono ?_
    rintro e w' ⟨⟨x, rfl⟩, hb⟩
    exact ⟨⟨x, by simp only [puOf, h]⟩, Keeps.ofBelow hb⟩
set_option maxHeartbeats 1000000 in
set_option maxRecDepth 100000 in
theorem spelled8_any (w : World) (hG : Glob4 w) (v : Value) (l : List (List UInt8)) {N : Nat} (h : Strs N w v l) (hs : (l.getD 0 []).length ≤ 1000) : Calls Tryd.prog 50 #[v] w fun e w' =>
    ∃ v', e = .returned (.tuple #[.int .u8 (puOf (l.getD 0 []) % 256), v']) ∧ Strs N w' v' (l.drop 1) ∧ Keeps [] w w' := by
  have hf := first_any w v l h
  have hp := fun w hG => ParseUint4_any w hG (bs (l.getD 0 [])) (by rw [bs_size]; exact hs)
  rw [bs_list] at hp
  have hb := puOf_bounds (l.getD 0 [])
  obtain ⟨b0, b1⟩ := hb
  generalize puOf (l.getD 0 []) = N at *
  generalize bs (l.getD 0 []) = S at *
  clear h
  go_enter Tryd.func50, Tryd.ntmps50
  go_wp2_with fail
  refine hf.mono ?_; rintro e w1 ⟨v1, rfl, hv1, hk1⟩
  go_wp2_with fail
  refine (hp _ (hG.new hk1)).mono ?_; rintro e w2 ⟨⟨x, rfl⟩, hk2⟩
  have hv2 := hv1.keeps hk2
  clear hv1 hf hp
  go_wp2_with fail
  go_ret2
  exact ⟨_, rfl, hv2, hk1.trans hk2 (FSub.refl _ _)⟩
set_option maxHeartbeats 1000000 in
set_option maxRecDepth 100000 in
theorem spelled16_any (w : World) (hG : Glob4 w) (v : Value) (l : List (List UInt8)) {N : Nat} (h : Strs N w v l) (hs : (l.getD 0 []).length ≤ 1000) : Calls Tryd.prog 52 #[v] w fun e w' =>
    ∃ v', e = .returned (.tuple #[.int .u16 (puOf (l.getD 0 [])), v']) ∧ Strs N w' v' (l.drop 1) ∧ Keeps [] w w' := by
  have hf := first_any w v l h
  have hp := fun w hG => ParseUint4_any w hG (bs (l.getD 0 [])) (by rw [bs_size]; exact hs)
  rw [bs_list] at hp
  have hb := puOf_bounds (l.getD 0 [])
  obtain ⟨b0, b1⟩ := hb
  generalize puOf (l.getD 0 []) = N at *
  generalize bs (l.getD 0 []) = S at *
  clear h
  go_enter Tryd.func52, Tryd.ntmps52
  go_wp2_with fail
  refine hf.mono ?_; rintro e w1 ⟨v1, rfl, hv1, hk1⟩
  go_wp2_with fail
  refine (hp _ (hG.new hk1)).mono ?_; rintro e w2 ⟨⟨x, rfl⟩, hk2⟩
  have hv2 := hv1.keeps hk2
  clear hv1 hf hp
  go_wp2_with fail
  go_ret2
  exact ⟨_, rfl, hv2, hk1.trans hk2 (FSub.refl _ _)⟩
end Go.Proofs.YtllloahimfkmfaaDoor
