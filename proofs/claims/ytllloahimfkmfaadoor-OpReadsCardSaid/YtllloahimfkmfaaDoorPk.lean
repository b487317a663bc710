/-
  The document's Number.
-/
import Derived.Test.YtllloahimfkmfaaDoorOc
namespace Go.Proofs.YtllloahimfkmfaaDoor
open Go.RowKit
/-- What the first bytes spell. -/
structure NumAt (l : List UInt8) (k n : Nat) : Prop where
  high : k ≤ l.length
  digs : ∀ c ∈ l.take k, isDig c
  num : n = spells 0 (l.take k)
theorem spells_lt : ∀ (l : List UInt8) (acc m : Nat), (∀ c ∈ l, isDig c) → acc < m → spells acc l < m * 10 ^ l.length
  | [], acc, m, _, h => by simpa [spells] using h
  | c :: r, acc, m, hd, h => by
    have hc := hd c (by simp)
    unfold isDig at hc
    have := spells_lt r (10 * acc + (c.toNat - 48)) (m * 10) (fun d hd' => hd d (by simp [hd'])) (by omega)
    rw [List.length_cons, Nat.pow_succ, Nat.mul_comm (10 ^ r.length) 10, ← Nat.mul_assoc]
    exact this
theorem NumAt.lt {l : List UInt8} {k n : Nat} (h : NumAt l k n) (hl : l.length ≤ 5) : n < 100000 := by
  have := spells_lt _ 0 1 h.digs (by omega)
  rw [← h.num] at this
  have h2 : (l.take k).length ≤ 5 := by simp; omega
  have h3 : (10 : Nat) ^ (l.take k).length ≤ 10 ^ 5 := Nat.pow_le_pow_right (by omega) h2
  omega
theorem NumAt.step {l : List UInt8} {k n : Nat} (h : NumAt l k n) (hk : k < l.length) (hc : isDig (l.getD k 0)) : NumAt l (k + 1) (10 * n + ((l.getD k 0).toNat - 48)) := by
  have e : l.take (k + 1) = l.take k ++ [l.getD k 0] := by
    rw [List.take_succ_eq_append_getElem hk]
    simp [List.getD, hk]
  refine ⟨by omega, ?_, ?_⟩
  · rw [e]
    intro c hc2
    rcases List.mem_append.1 hc2 with h1 | h1
    · exact h.digs c h1
    · simp only [List.mem_singleton] at h1; subst h1; exact hc
  · rw [e, spells_snoc, h.num]
theorem wordNum_no {l : List UInt8} (h : numOk l ≠ true) : wordNum l = -1 := by unfold wordNum; rw [if_neg h]
theorem numOk_parts {l : List UInt8} (h : numOk l = true) : 1 ≤ l.length ∧ l.length ≤ 5 ∧ (l.getD 0 0 ≠ 48 ∨ l.length = 1) ∧ (∀ c ∈ l, isDig c) ∧ spells 0 l ≤ 65535 := by
  simp only [numOk, Bool.and_eq_true, Bool.or_eq_true, decide_eq_true_eq, bne_iff_ne, ne_eq, beq_iff_eq, List.all_eq_true] at h
  obtain ⟨⟨⟨⟨h1, h2⟩, h3⟩, h4⟩, h5⟩ := h
  exact ⟨h1, h2, h3, fun c hc => h4 c hc, h5⟩
theorem wordNum_all {l : List UInt8} {n : Nat} (h : NumAt l l.length n) (h1 : 1 ≤ l.length) (h5 : l.length ≤ 5) (hz : l.getD 0 0 ≠ 48 ∨ l.length = 1) : wordNum l = if n ≤ 65535 then (n : Int) else -1 := by
  have e := h.num
  have d := h.digs
  rw [List.take_length] at e d
  subst e
  by_cases hn : spells 0 l ≤ 65535
  · have ok : numOk l = true := by
      simp only [numOk, Bool.and_eq_true, Bool.or_eq_true, decide_eq_true_eq, bne_iff_ne, ne_eq, beq_iff_eq, List.all_eq_true]
      exact ⟨⟨⟨⟨h1, h5⟩, hz⟩, fun c hc => d c hc⟩, hn⟩
    unfold wordNum; rw [if_pos ok, if_pos hn]
  · rw [if_neg hn]
    exact wordNum_no fun ok => hn (numOk_parts ok).2.2.2.2
set_option maxHeartbeats 4000000 in
set_option maxRecDepth 100000 in
theorem r4Number_any (w : World) (l : List UInt8) (hl : (bs l).size ≤ 9223372036854775807) :
    Calls Tryd.prog 35 #[.string (bs l)] w fun e w' => e = .returned (.int .i64 (wordNum l)) ∧ w' = w := by
  have hsz : (bs l).size = l.length := bs_size l
  have hby : ∀ (k : Nat) (h : k < (bs l).size), (((bs l)[k]'h).toNat : Int) = ((l.getD k 0).toNat : Int) := fun k h => by
    have e : (bs l)[k]'h = l.getD k 0 := by rw [byte_getD]; rfl
    rw [e]
  generalize bs l = S at *
  generalize hwn : wordNum l = WN at *
  have HW := Lib.hid hwn; clear hwn
  by_cases h1 : l.length < 1
  · obtain rfl := HW.out.symm.trans (wordNum_no fun ok => by have := (numOk_parts ok).1; omega)
    have z1 : (S.size : Int) < 1 := by omega
    clear hby HW
    go_enter Tryd.func35, Tryd.ntmps35
    go_wp2_with fail
    go_ret
    exact ⟨rfl, rfl⟩
  by_cases h5 : 5 < l.length
  · obtain rfl := HW.out.symm.trans (wordNum_no fun ok => by have := (numOk_parts ok).2.1; omega)
    have z1 : ¬ (S.size : Int) < 1 := by omega
    have z2 : 5 < (S.size : Int) := by omega
    clear hby HW
    go_enter Tryd.func35, Tryd.ntmps35
    go_wp2_with fail
    go_ret
    exact ⟨rfl, rfl⟩
  have z1 : ¬ (S.size : Int) < 1 := by omega
  have z2 : ¬ 5 < (S.size : Int) := by omega
  have k0 : 0 < S.size := by omega
  have hb0 := hby 0 k0
  have HB := Lib.hid hby; clear hby
  by_cases hz : l.getD 0 0 = 48 ∧ 1 < l.length
  · obtain rfl := HW.out.symm.trans (wordNum_no fun ok => by rcases (numOk_parts ok).2.2.1 with h | h; exact h hz.1; omega)
    have z3 : 1 < (S.size : Int) := by omega
    rw [hz.1] at hb0
    have z4 : ((S[0]'k0).toNat : Int) = 48 := hb0
    clear HB HW hb0
    go_enter Tryd.func35, Tryd.ntmps35
    go_wp2_with fail
    go_ret
    exact ⟨rfl, rfl⟩
  have hz2 : l.getD 0 0 ≠ 48 ∨ l.length = 1 := by
    by_cases h : l.getD 0 0 = 48
    · exact .inr (by have : ¬ 1 < l.length := fun h' => hz ⟨h, h'⟩; omega)
    · exact .inl h
  have HZ := Lib.hid hz2
  have main : (l.getD 0 0 = 48 → ¬ 1 < (S.size : Int)) := fun h h' => hz ⟨h, by omega⟩
  clear hz
  rcases hz2 with hz3 | hz3
  · have z4 : ¬ ((l.getD 0 0).toNat : Int) = 48 := fun h => hz3 (UInt8.toNat_inj.1 (show (l.getD 0 0).toNat = (48 : UInt8).toNat from Int.ofNat.inj h))
    generalize (l.getD 0 0).toNat = C0 at hb0 z4
    clear main hz3
    go_enter Tryd.func35, Tryd.ntmps35
    go_wp2_with fail
    go_loopw [2, 3, 4] (fun r n i wr => ∃ (c k : Nat), r = .int .i64 0 ∧ n = .int .i64 c ∧ i = .int .i64 k ∧ NumAt l k c ∧ wr = w) (fun _ _ i _ => l.length - (intOf i).toNat)
    case atStart => exact ⟨0, 0, rfl, rfl, rfl, ⟨by omega, by simp, by simp [spells]⟩, rfl⟩
    case round =>
      obtain ⟨c, k, rfl, rfl, rfl, hd, rfl⟩ := hrel
      have hn := hd.lt (by omega)
      clear hb0 z4
      by_cases hkl : k < l.length
      · have hks : k < S.size := by omega
        have hbyte := HB.out k hks
        clear HB
        by_cases hdig : isDig (l.getD k 0)
        · have hst := hd.step hkl hdig
          unfold isDig at hdig
          generalize hC : (l.getD k 0).toNat = C at *
          clear hC
          have y1 : ¬ (C : Int) < 48 := by omega
          have y2 : ¬ 57 < (C : Int) := by omega
          go_wp2_with fail
          go_roundw
          case rel => exact ⟨10 * c + (C - 48), k + 1, by congr 1, by congr 1; omega, by go_num, hst, by trivial⟩
          case measure => simp [intOf]; omega
        · obtain rfl := HW.out.symm.trans (wordNum_no fun ok => hdig ((numOk_parts ok).2.2.2.1 _ (by rw [List.getD_eq_getElem?_getD, List.getElem?_eq_getElem hkl]; exact List.getElem_mem hkl)))
          unfold isDig at hdig
          generalize hC : (l.getD k 0).toNat = C at *
          clear hC HW
          by_cases y1 : (C : Int) < 48
          · go_wp2_with fail
            go_ret
            exact ⟨rfl, rfl⟩
          · have y2 : 57 < (C : Int) := by omega
            go_wp2_with fail
            go_ret
            exact ⟨rfl, rfl⟩
      · obtain rfl : k = l.length := by have := hd.high; omega
        have y0 : ¬ (l.length : Int) < (S.size : Int) := by omega
        have e := wordNum_all hd (by omega) (by omega) HZ.out
        by_cases hbig : 65535 < c
        · rw [if_neg (by omega)] at e
          obtain rfl := HW.out.symm.trans e
          have y1 : 65535 < (c : Int) := by omega
          clear e HW HB
          go_wp2_with fail
          go_ret
          exact ⟨rfl, rfl⟩
        · rw [if_pos (by omega)] at e
          obtain rfl := HW.out.symm.trans e
          have y1 : ¬ 65535 < (c : Int) := by omega
          clear e HW HB
          go_wp2_with fail
          go_ret
          exact ⟨rfl, rfl⟩
  · have z4 : ¬ 1 < (S.size : Int) := by omega
    clear main
    generalize (l.getD 0 0).toNat = C0 at hb0
    by_cases z5 : (C0 : Int) = 48
    · go_enter Tryd.func35, Tryd.ntmps35
      go_wp2_with fail
      go_loopw [2, 3, 4] (fun r n i wr => ∃ (c k : Nat), r = .int .i64 0 ∧ n = .int .i64 c ∧ i = .int .i64 k ∧ NumAt l k c ∧ wr = w) (fun _ _ i _ => l.length - (intOf i).toNat)
      case atStart => exact ⟨0, 0, rfl, rfl, rfl, ⟨by omega, by simp, by simp [spells]⟩, rfl⟩
      case round =>
        obtain ⟨c, k, rfl, rfl, rfl, hd, rfl⟩ := hrel
        have hn := hd.lt (by omega)
        clear hb0 z4
        by_cases hkl : k < l.length
        · have hks : k < S.size := by omega
          have hbyte := HB.out k hks
          clear HB
          by_cases hdig : isDig (l.getD k 0)
          · have hst := hd.step hkl hdig
            unfold isDig at hdig
            generalize hC : (l.getD k 0).toNat = C at *
            clear hC
            have y1 : ¬ (C : Int) < 48 := by omega
            have y2 : ¬ 57 < (C : Int) := by omega
            go_wp2_with fail
            go_roundw
            case rel => exact ⟨10 * c + (C - 48), k + 1, by congr 1, by congr 1; omega, by go_num, hst, by trivial⟩
            case measure => simp [intOf]; omega
          · obtain rfl := HW.out.symm.trans (wordNum_no fun ok => hdig ((numOk_parts ok).2.2.2.1 _ (by rw [List.getD_eq_getElem?_getD, List.getElem?_eq_getElem hkl]; exact List.getElem_mem hkl)))
            unfold isDig at hdig
            generalize hC : (l.getD k 0).toNat = C at *
            clear hC HW
            by_cases y1 : (C : Int) < 48
            · go_wp2_with fail
              go_ret
              exact ⟨rfl, rfl⟩
            · have y2 : 57 < (C : Int) := by omega
              go_wp2_with fail
              go_ret
              exact ⟨rfl, rfl⟩
        · obtain rfl : k = l.length := by have := hd.high; omega
          have y0 : ¬ (l.length : Int) < (S.size : Int) := by omega
          have e := wordNum_all hd (by omega) (by omega) HZ.out
          by_cases hbig : 65535 < c
          · rw [if_neg (by omega)] at e
            obtain rfl := HW.out.symm.trans e
            have y1 : 65535 < (c : Int) := by omega
            clear e HW HB
            go_wp2_with fail
            go_ret
            exact ⟨rfl, rfl⟩
          · rw [if_pos (by omega)] at e
            obtain rfl := HW.out.symm.trans e
            have y1 : ¬ 65535 < (c : Int) := by omega
            clear e HW HB
            go_wp2_with fail
            go_ret
            exact ⟨rfl, rfl⟩
    · go_enter Tryd.func35, Tryd.ntmps35
      go_wp2_with fail
      go_loopw [2, 3, 4] (fun r n i wr => ∃ (c k : Nat), r = .int .i64 0 ∧ n = .int .i64 c ∧ i = .int .i64 k ∧ NumAt l k c ∧ wr = w) (fun _ _ i _ => l.length - (intOf i).toNat)
      case atStart => exact ⟨0, 0, rfl, rfl, rfl, ⟨by omega, by simp, by simp [spells]⟩, rfl⟩
      case round =>
        obtain ⟨c, k, rfl, rfl, rfl, hd, rfl⟩ := hrel
        have hn := hd.lt (by omega)
        clear hb0 z4
        by_cases hkl : k < l.length
        · have hks : k < S.size := by omega
          have hbyte := HB.out k hks
          clear HB
          by_cases hdig : isDig (l.getD k 0)
          · have hst := hd.step hkl hdig
            unfold isDig at hdig
            generalize hC : (l.getD k 0).toNat = C at *
            clear hC
            have y1 : ¬ (C : Int) < 48 := by omega
            have y2 : ¬ 57 < (C : Int) := by omega
            go_wp2_with fail
            go_roundw
            case rel => exact ⟨10 * c + (C - 48), k + 1, by congr 1, by congr 1; omega, by go_num, hst, by trivial⟩
            case measure => simp [intOf]; omega
          · obtain rfl := HW.out.symm.trans (wordNum_no fun ok => hdig ((numOk_parts ok).2.2.2.1 _ (by rw [List.getD_eq_getElem?_getD, List.getElem?_eq_getElem hkl]; exact List.getElem_mem hkl)))
            unfold isDig at hdig
            generalize hC : (l.getD k 0).toNat = C at *
            clear hC HW
            by_cases y1 : (C : Int) < 48
            · go_wp2_with fail
              go_ret
              exact ⟨rfl, rfl⟩
            · have y2 : 57 < (C : Int) := by omega
              go_wp2_with fail
              go_ret
              exact ⟨rfl, rfl⟩
        · obtain rfl : k = l.length := by have := hd.high; omega
          have y0 : ¬ (l.length : Int) < (S.size : Int) := by omega
          have e := wordNum_all hd (by omega) (by omega) HZ.out
          by_cases hbig : 65535 < c
          · rw [if_neg (by omega)] at e
            obtain rfl := HW.out.symm.trans e
            have y1 : 65535 < (c : Int) := by omega
            clear e HW HB
            go_wp2_with fail
            go_ret
            exact ⟨rfl, rfl⟩
          · rw [if_pos (by omega)] at e
            obtain rfl := HW.out.symm.trans e
            have y1 : ¬ 65535 < (c : Int) := by omega
            clear e HW HB
            go_wp2_with fail
            go_ret
            exact ⟨rfl, rfl⟩
end Go.Proofs.YtllloahimfkmfaaDoor
