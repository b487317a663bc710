/-
  The document's reader, by the same words as the program's.
-/
import Derived.Test.YtgdbhblapdhlmaaDoorAk
namespace Go.Proofs.YtgdbhblapdhlmaaDoor
open Go.RowKit
def QAt (w : World) (q : Nat) (xs : List Int) (e : Int) (p : Nat) : Prop := w.heap[q]? = some (.cells #[.string (strOfNums (xs.drop p)), .int .i64 p, .int .i64 e] 41 (0, 0))
theorem str_take (l : List Int) (n : Nat) : (strOfNums l).extract 0 n = strOfNums (l.take n) := by
  apply ByteArray.ext
  rw [ByteArray.data_extract]
  simp [strOfNums, List.map_take]
theorem str_drop (l : List Int) (n : Nat) : (strOfNums l).extract n (strOfNums l).size = strOfNums (l.drop n) := by
  apply ByteArray.ext
  rw [ByteArray.data_extract, strOfNums_size]
  simp [strOfNums, List.map_drop]
  rw [List.take_of_length_le (by simp)]
set_option maxHeartbeats 400000 in
theorem qRaw_any (w : World) (q p : Nat) (xs : List Int) (e : Int) (h : QAt w q xs e p) (hp : p ≤ xs.length) (hl : xs.length ≤ 1000000) (n : Int) :
    Calls Tryd.prog 49 #[.pointer (some ⟨q, 0, none⟩), .int .i64 n] w fun x w' => x = .returned (.string (strOfNums (rdRaw n.toNat xs e p))) ∧ QAt w' q xs (rdErr n.toNat xs e p) (rdPos n.toNat xs e p) ∧ Keeps [q] w w' := by
  have h' := h
  unfold QAt at h'
  obtain ⟨c0, c1, c2, f0, f1, f2⟩ := cell3 h'
  have HQ := Lib.hid h'; clear h'
  by_cases he : e = 0
  · subst he
    by_cases hn0 : n ≤ 0
    · have e0 : n.toNat = 0 := by omega
      have e1 : strOfNums (rdRaw 0 xs 0 p) = ⟨#[]⟩ := by rw [rdRaw]; split <;> rfl
      have e2 : rdErr 0 xs 0 p = 0 := by simp [rdErr]; omega
      have e3 : rdPos 0 xs 0 p = p := by simp [rdPos]
      rw [e0, e1, e2, e3]
      clear e0 e1 e2 e3
      generalize strOfNums (xs.drop p) = S at *
      go_enter Tryd.func49, Tryd.ntmps49
      go_wp2_with fail
      go_ret
      exact ⟨rfl, h, Keeps.refl _ _⟩
    · obtain ⟨N, rfl⟩ := Int.eq_ofNat_of_zero_le (by omega : 0 ≤ n)
      rw [Int.toNat_natCast]
      have hs : (strOfNums (xs.drop p)).size = xs.length - p := by rw [strOfNums_size]; simp
      by_cases hp2 : p + N ≤ xs.length
      · have e1 : rdRaw N xs 0 p = (xs.drop p).take N := by rw [rdRaw, if_pos ⟨rfl, hp2⟩]
        have e2 : rdErr N xs 0 p = 0 := by simp [rdErr]; omega
        have e3 : rdPos N xs 0 p = p + N := by rw [rdPos, if_pos ⟨rfl, hp2⟩]
        have t1 := str_take (xs.drop p) N
        have t2 := str_drop (xs.drop p) N
        rw [List.drop_drop] at t2
        rw [e1, e2, e3]
        clear e1 e2 e3
        generalize hS : strOfNums (xs.drop p) = X at *
        have T1 := Lib.hid t1; have T2 := Lib.hid t2; clear t1 t2
        have hs1 : N ≤ X.size := by omega
        have hs2 : ¬ (X.size : Int) < N := by omega
        clear hS hs
        go_enter Tryd.func49, Tryd.ntmps49
        go_wp2_with fail
        go_ret
        have hh := set3_1 (set3_0 HQ.out (.string (X.extract N X.size))) (.int .i64 ((p : Int) + N))
        refine ⟨by rw [← T1.out]; rfl, ?_, ((Keeps.refl _ _).setCell _ _ (by simp)).setCell _ _ (by simp)⟩
        unfold QAt
        rw [← T2.out]
        simpa using hh
      · have e1 : strOfNums (rdRaw N xs 0 p) = ⟨#[]⟩ := by rw [rdRaw, if_neg (fun h => hp2 h.2)]; rfl
        have e2 : rdErr N xs 0 p = 5 := by simp [rdErr]; omega
        have e3 : rdPos N xs 0 p = p := by rw [rdPos, if_neg (fun h => hp2 h.2)]
        rw [e1, e2, e3]
        clear e1 e2 e3
        have hq := set3_2 HQ.out (.int .i64 5)
        have HQ2 := Lib.hid hq; clear hq
        have HG : QAt (w.setCell ⟨q, 2, none⟩ (.int .i64 5)) q xs 5 p := HQ2.out
        generalize hS : strOfNums (xs.drop p) = X at *
        have hs2 : (X.size : Int) < N := by omega
        clear hS hs
        go_enter Tryd.func49, Tryd.ntmps49
        go_wp2_with fail
        go_ret
        exact ⟨rfl, HG, (Keeps.refl _ _).setCell _ _ (by simp)⟩
  · have e1 : strOfNums (rdRaw n.toNat xs e p) = ⟨#[]⟩ := by rw [rdRaw, if_neg (fun h => he h.1)]; rfl
    have e2 : rdErr n.toNat xs e p = e := by rw [rdErr, if_pos he]
    have e3 : rdPos n.toNat xs e p = p := by rw [rdPos, if_neg (fun h => he h.1)]
    rw [e1, e2, e3]
    clear e1 e2 e3
    have he2 : (e != 0) = true := by simpa using he
    generalize strOfNums (xs.drop p) = X at *
    go_enter Tryd.func49, Tryd.ntmps49
    go_wp2_with fail
    go_ret
    exact ⟨rfl, h, Keeps.refl _ _⟩
theorem byte_at (l : List Int) (hx : InU8 l) (i : Nat) (hi : i < (strOfNums l).size) : (((strOfNums l)[i]'hi).toNat : Int) = l.getD i 0 := by
  have hi' : i < l.length := by rw [strOfNums_size] at hi; exact hi
  have h := hx i
  have e : l.getD i 0 = l[i] := by simp [List.getD, hi']
  rw [e] at h ⊢
  show (((strOfNums l).data[i]'_).toNat : Int) = _
  simp only [strOfNums, List.getElem_toArray, List.getElem_map]
  rw [UInt8.toNat_ofNat']
  omega
theorem numOf_snoc (l : List Int) (c : Int) : numOf (l ++ [c]) = numOf l * 256 + c := by simp [numOf]
theorem fold_bound : ∀ (l : List Int) (a : Int), 0 ≤ a → (∀ c ∈ l, 0 ≤ c ∧ c < 256) → 0 ≤ l.foldl (fun a c => a * 256 + c) a ∧ l.foldl (fun a c => a * 256 + c) a < (a + 1) * 256 ^ l.length
  | [], a, h, _ => by simp; omega
  | c :: l, a, h, hc => by
    have h1 := hc c (by simp)
    have ih := fold_bound l (a * 256 + c) (by omega) (fun d hd => hc d (by simp [hd]))
    refine ⟨ih.1, Int.lt_of_lt_of_le ih.2 ?_⟩
    rw [List.length_cons, Int.pow_succ, Int.mul_comm (256 ^ l.length) 256, ← Int.mul_assoc]
    exact Int.mul_le_mul_of_nonneg_right (by omega) (Int.pow_nonneg (by omega))
theorem numOf_small (l : List Int) (hc : ∀ c ∈ l, 0 ≤ c ∧ c < 256) (hl : l.length ≤ 3) : 0 ≤ numOf l ∧ numOf l < 16777216 := by
  have h := fold_bound l 0 (by omega) hc
  refine ⟨h.1, Int.lt_of_lt_of_le h.2 ?_⟩
  match l.length, hl with
  | 0, _ => decide
  | 1, _ => decide
  | 2, _ => decide
  | 3, _ => decide
  | n + 4, h => omega
theorem inu8_mem {l : List Int} (h : InU8 l) : ∀ c ∈ l, 0 ≤ c ∧ c < 256 := by
  intro c hc
  obtain ⟨i, hi, rfl⟩ := List.getElem_of_mem hc
  have := h i
  simpa [List.getD, hi] using this
theorem inu8_sub {l t : List Int} (h : InU8 l) (ht : ∀ c ∈ t, c ∈ l) : InU8 t := by
  intro j
  by_cases hj : j < t.length
  · have e : t.getD j 0 = t[j] := by simp [List.getD, hj]
    rw [e]
    exact inu8_mem h _ (ht _ (List.getElem_mem hj))
  · have e : t.getD j 0 = 0 := by rw [List.getD, List.getElem?_eq_none (by omega)]; rfl
    rw [e]; omega
theorem rdRaw_sub (W : Nat) (xs : List Int) (e : Int) (p : Nat) : ∀ c ∈ rdRaw W xs e p, c ∈ xs := by
  intro c hc
  unfold rdRaw at hc
  split at hc
  · exact List.mem_of_mem_drop (List.mem_of_mem_take hc)
  · simp at hc
theorem rdRaw_length (W : Nat) (xs : List Int) (e : Int) (p : Nat) : (rdRaw W xs e p).length ≤ W := by
  unfold rdRaw
  split
  · simp; omega
  · simp
theorem rdVal_raw (W : Nat) (xs : List Int) (e : Int) (p : Nat) : rdVal W xs e p = numOf (rdRaw W xs e p) := by
  unfold rdVal rdRaw
  split
  · rfl
  · rfl
set_option maxHeartbeats 1000000 in
theorem qNumber_any (w : World) (q p : Nat) (xs : List Int) (e : Int) (h : QAt w q xs e p) (hx : InU8 xs) (hp : p ≤ xs.length) (hl : xs.length ≤ 1000000) (W : Nat) (hW : W ≤ 4) :
    Calls Tryd.prog 39 #[.pointer (some ⟨q, 0, none⟩), .int .i64 W] w fun x w' => x = .returned (.int .u32 (rdVal W xs e p)) ∧ QAt w' q xs (rdErr W xs e p) (rdPos W xs e p) ∧ Keeps [q] w w' := by
  have hr := qRaw_any w q p xs e h hp hl W
  rw [Int.toNat_natCast] at hr
  rw [rdVal_raw]
  have ht := rdRaw_length W xs e p
  have hin : InU8 (rdRaw W xs e p) := inu8_sub hx (rdRaw_sub W xs e p)
  generalize rdRaw W xs e p = t at *
  have HR := Lib.hid hr; clear hr
  have HI := Lib.hid hin; clear hin hx
  go_enter Tryd.func39, Tryd.ntmps39
  go_wp2_with fail
  refine HR.out.mono ?_
  rintro x w1 ⟨rfl, hQ, hk⟩
  clear HR h
  go_wp2_with fail
  go_loop [6, 7] (fun n i => ∃ k : Nat, k ≤ t.length ∧ i = .int .i64 k ∧ n = .int .u32 (numOf (t.take k))) (fun _ i => t.length - (intOf i).toNat)
  case atStart => exact ⟨0, Nat.zero_le _, rfl, rfl⟩
  case round =>
    obtain ⟨k, hkk, rfl, rfl⟩ := hrel
    have hsz : (strOfNums t).size = t.length := strOfNums_size t
    by_cases hlt : k < t.length
    · have hb := numOf_small (t.take k) (inu8_mem (inu8_sub HI.out (fun c hc => List.mem_of_mem_take hc))) (by simp; omega)
      have hlS : k < (strOfNums t).size := by omega
      have hbyte := byte_at t HI.out k hlS
      have e2 : numOf (t.take k) * 256 + t.getD k 0 = numOf (t.take (k + 1)) := by
        rw [List.take_succ_eq_append_getElem hlt, numOf_snoc]; simp [List.getD, hlt]
      have hc := HI.out k
      have E2 := Lib.hid e2; clear e2
      obtain ⟨b0, b1⟩ := hb
      obtain ⟨c0, c1⟩ := hc
      generalize numOf (t.take k) = N at *
      generalize t.getD k 0 = C at *
      clear hsz
      generalize strOfNums t = X at *
      have z0 : 0 ≤ N * 256 := by omega
      have z1 : N * 256 < 4294967296 := by omega
      have z2 : 0 ≤ N * 256 + C := by omega
      have z3 : N * 256 + C < 4294967296 := by omega
      go_wp2_with fail
      go_round
      case rel => exact ⟨k + 1, by omega, by go_num, by rw [← E2.out]⟩
      case measure => simp [intOf]; omega
    · obtain rfl : k = t.length := by omega
      have hno : ¬ (t.length : Int) < ((strOfNums t).size : Int) := by omega
      rw [List.take_length]
      clear hsz
      generalize strOfNums t = X at *
      generalize hN : numOf t = N at *
      go_wp2_with fail
      go_ret
      exact ⟨rfl, hQ, hk⟩
end Go.Proofs.YtgdbhblapdhlmaaDoor
