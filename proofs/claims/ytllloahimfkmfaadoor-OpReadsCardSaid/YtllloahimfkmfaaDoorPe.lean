/-
  OpBack, walked.
-/
import Derived.Test.YtllloahimfkmfaaDoorPd
import Derived.Test.YtllloahimfkmfaaDoorOw
namespace Go.Proofs.YtllloahimfkmfaaDoor
open Go.RowKit
theorem opNm_len {f : Int} (h0 : 0 ≤ f) : (opNm f).length ≤ 1000 := by
  rcases bool_two (opIs f) with is | is
  · rcases is_cases is with rfl | rfl | rfl | rfl | rfl | rfl | rfl | rfl | rfl | rfl | rfl <;> decide
  · by_cases hf : f < 12
    · have : f = 0 := by simp [opIs] at is; omega
      subst this; decide
    · rw [(op_none h0 hf).2.2.1]; simp
theorem words_small {x : Opn} (hx : x.In) : ∀ j, ((opWords x).getD j []).length ≤ 1000 := by
  obtain ⟨f0, f1, o0, o1, k0, k1, a0, a1, b0, b1⟩ := hx
  have hd : ∀ n : Int, 0 ≤ n → n < 65536 → (dec n).length ≤ 1000 := fun n n0 n1 => by
    have := dec_length_le 4 n.toNat (by omega)
    unfold dec; omega
  have hn : (opNm x.f).length ≤ 1000 := opNm_len f0
  have hall : ∀ s ∈ opWords x, s.length ≤ 1000 := by
    intro s hs
    simp only [opWords, List.mem_append, List.mem_cons, List.not_mem_nil, or_false] at hs
    rcases hs with ((hs | hs) | hs) | hs
    · rcases hs with rfl | rfl
      · exact hd _ o0 (by omega)
      · exact hn
    all_goals
      split at hs
      · simp only [List.mem_cons, List.not_mem_nil, or_false] at hs
        subst hs
        exact hd _ (by omega) (by omega)
      · simp at hs
  intro j
  by_cases hj : j < (opWords x).length
  · rw [List.getD_eq_getElem?_getD, List.getElem?_eq_getElem hj]
    exact hall _ (List.getElem_mem hj)
  · rw [List.getD_eq_getElem?_getD, List.getElem?_eq_none (by omega)]; simp
/-- The bytes of an operation, as bytes. -/
def putL (x : Opn) : List UInt8 := (opPut x).map fun n => UInt8.ofNat n.toNat
theorem putL_nb {x : Opn} (hx : x.In) : nb (putL x) = opPut x := by
  unfold nb putL
  rw [List.map_map]
  have h := put_in hx
  conv => rhs; rw [← List.map_id (opPut x)]
  apply List.map_congr_left
  intro n hn
  have := h n hn
  unfold byteNum at this
  simp only [Function.comp, id]
  rw [UInt8.toNat_ofNat']
  omega
theorem putL_len (x : Opn) : (putL x).length = opLen x.f ∧ opLen x.f ≤ 7 := by
  refine ⟨by unfold putL; rw [List.length_map, put_length], ?_⟩
  unfold opLen opAtB opAtA
  repeat' split
  all_goals omega
theorem put_str {x : Opn} (hx : x.In) : strOfNums (opPut x) = bs (putL x) := by rw [← putL_nb hx, str_nb]
theorem tk_good {x : Opn} (hx : x.In) (hg : Good x) (t : List UInt8) : tkX (nb (putL x ++ t)) = x ∧ tkRest (putL x ++ t) = t ∧ tkErr (nb (putL x ++ t)) = 0 := by
  obtain ⟨tx, te⟩ := optk_put hx hg (nb t)
  rw [← putL_nb hx, ← nb_app] at tx te
  have hf0 : (nb (putL x ++ t)).getD 0 0 = x.f := by
    have h2 : (tkOp (nb (putL x ++ t))).f = (nb (putL x ++ t)).getD 0 0 := rfl
    rw [← h2, tx]
  refine ⟨by unfold tkX; rw [te, if_pos rfl, tx], ?_, te⟩
  unfold tkRest
  rw [te, if_pos rfl, hf0, ← (putL_len x).1]
  simp
/-- What is read has these bytes. -/
theorem tk_bytes {l : List UInt8} (h : tkErr (nb l) = 0) : Good (tkX (nb l)) ∧ bs (putL (tkX (nb l))) ++ bs (tkRest l) = bs l ∧ 2 ≤ (putL (tkX (nb l))).length := by
  have hl : ∀ n ∈ nb l, byteNum n := by
    intro n hn
    simp only [nb, List.mem_map] at hn
    obtain ⟨c, _, rfl⟩ := hn
    have := c.toNat_lt
    unfold byteNum; omega
  obtain ⟨h1, h2, h3, h4⟩ := optk_take hl h
  have hX : tkX (nb l) = tkOp (nb l) := by unfold tkX; rw [if_pos h]
  have hin := tkX_in l
  rw [hX] at hin ⊢
  have e1 : putL (tkOp (nb l)) = l.take (opLen ((nb l).getD 0 0)) := by
    have h5 := putL_nb hin
    rw [h3] at h5
    have h6 : nb (l.take (opLen ((nb l).getD 0 0))) = (nb l).take (opLen ((nb l).getD 0 0)) := by simp [nb]
    rw [← h6] at h5
    have h7 := congrArg strOfNums h5
    rw [str_nb, str_nb] at h7
    exact bs_inj h7
  refine ⟨h2, ?_, ?_⟩
  · rw [e1]
    unfold tkRest
    rw [if_pos h, bs_app, List.take_append_drop]
  · rw [(putL_len _).1, h4]; exact opLen_ge _
end Go.Proofs.YtllloahimfkmfaaDoor
