/-
  read, whatever the thing: whole, or torn.
-/
import Derived.Test.YtchenofgmmgdmaaBp
namespace Go.Proofs.Ytchenofgmmgdmaa
open Go.RowKit
theorem take_pre {xs bs rest : List Int} {p : Nat} (h : xs.drop p = bs ++ rest) : (xs.drop p).take bs.length = bs := by rw [h]; simp
theorem len_pre {xs bs rest : List Int} {p : Nat} (h : xs.drop p = bs ++ rest) (hp : p ≤ xs.length) : p + bs.length ≤ xs.length := by
  have := congrArg List.length h
  rw [List.length_drop, List.length_append] at this
  omega
theorem numOf_be1 (m : Int) : numOf (be1 m) = m := by simp [numOf, be1]
theorem numOf_be2 (m : Int) : numOf (be2 m) = m := by simp [numOf, be2]; omega
theorem numOf_be4 (m : Int) : numOf (be4 m) = m := by simp [numOf, be4]; omega
theorem rd_pre {xs bs rest : List Int} {p W : Nat} (h : xs.drop p = bs ++ rest) (hp : p ≤ xs.length) (hW : bs.length = W) : rdVal W xs 0 p = numOf bs ∧ rdRaw W xs 0 p = bs ∧ rdErr W xs 0 p = 0 ∧ rdPos W xs 0 p = p + bs.length := by
  subst hW
  have hl := len_pre h hp
  refine ⟨?_, ?_, ?_, ?_⟩
  · rw [rdVal, if_pos ⟨rfl, hl⟩, take_pre h]
  · rw [rdRaw, if_pos ⟨rfl, hl⟩, take_pre h]
  · rw [rdErr, if_neg (by simp), if_pos hl]
  · rw [rdPos, if_pos ⟨rfl, hl⟩]
theorem rd_short {xs : List Int} {p W : Nat} (h : (xs.drop p).length < W) (hp : p ≤ xs.length) : rdErr W xs 0 p = 5 ∧ rdPos W xs 0 p = p := by
  rw [List.length_drop] at h
  have hl : ¬ p + W ≤ xs.length := by omega
  exact ⟨by rw [rdErr, if_neg (by simp), if_neg hl], by rw [rdPos, if_neg (fun g => hl g.2)]⟩
theorem getD_drop (xs : List Int) (p j : Nat) : (xs.drop p).getD j 0 = xs.getD (p + j) 0 := by simp [List.getD]
theorem flat_getD : ∀ (ls rest : List Int) (j : Nat), j < ls.length → (ls.flatMap be2 ++ rest).getD (2 * j) 0 = ls.getD j 0 / 256 ∧ (ls.flatMap be2 ++ rest).getD (2 * j + 1) 0 = ls.getD j 0 % 256
  | [], _, j, h => absurd h (Nat.not_lt_zero _)
  | l :: ls, rest, 0, _ => by simp [be2]
  | l :: ls, rest, j + 1, h => by
    have ih := flat_getD ls rest j (by simpa using h)
    have e : 2 * (j + 1) = 2 * j + 2 := by omega
    rw [e]
    simpa [be2] using ih
theorem lst_pre {xs ls rest : List Int} {p : Nat} (h : xs.drop p = beList ls ++ rest) (hp : p ≤ xs.length) : LWhole xs p ∧ lnums xs p = ls ∧ (xs.getD p 0).toNat = ls.length := by
  have hl := len_pre h hp
  rw [length_beList] at hl
  have h0 : xs.getD p 0 = (ls.length : Int) := by
    have := getD_drop xs p 0
    rw [h, Nat.add_zero] at this
    rw [← this]
    simp [beList]
  have h1 : (xs.getD p 0).toNat = ls.length := by rw [h0]; simp
  refine ⟨⟨by omega, by rw [h1]; omega⟩, ?_, h1⟩
  have hd : xs.drop (p + 1) = ls.flatMap be2 ++ rest := by
    rw [← List.drop_drop, h]
    simp [beList]
  unfold lnums
  rw [h1]
  refine List.ext_getElem (by simp) fun j hj hj2 => ?_
  obtain ⟨e0, e1⟩ := flat_getD ls rest j hj2
  rw [← hd, getD_drop] at e0 e1
  have e2 : ls.getD j 0 = ls[j] := by simp [List.getD, hj2]
  rw [e2] at e0 e1
  simp only [List.getElem_map, List.getElem_range]
  unfold lnum
  rw [e0, ← Nat.add_assoc] at *
  rw [e1]
  omega
theorem lst_torn {xs ls : List Int} {p : Nat} (h : xs.drop p <+: beList ls) (hs : (xs.drop p).length < (beList ls).length) (hp : p ≤ xs.length) : ¬ LWhole xs p := by
  rintro ⟨h1, h2⟩
  obtain ⟨t, ht⟩ := h
  rw [length_beList] at hs
  rw [List.length_drop] at hs
  have h0 : xs.getD p 0 = (ls.length : Int) := by
    have := getD_drop xs p 0
    rw [Nat.add_zero] at this
    rw [← this]
    have e : (xs.drop p ++ t).getD 0 0 = (xs.drop p).getD 0 0 := by
      rw [drop_cons xs p h1]; simp
    rw [← e, ht]
    simp [beList]
  rw [h0] at h2
  simp at h2
  omega
/-- A thing's own conditions, as they are carried. -/
structure ThOk (w : World) (t : LT) : Prop where
  src : Src16 w t.a t.ls
  inu : InU16 t.ls
  k0 : 0 ≤ t.k
  n0 : 0 ≤ t.n
  n1 : t.n < 4294967296
  small : Small t
/-- What read leaves of a thing that is whole, and of one that is torn. -/
theorem read_whole (w : World) (r g cap p : Nat) (xs rest : List Int) (h : RAt w r g cap xs 0 p) (hx : InU8 xs) (hl : xs.length ≤ 1000000) (t : LT) (ht : ThOk w t) (hF : ∀ lb off, t.a = some ⟨lb, off, none⟩ → t.ls ≠ [] → lb ∉ [r]) (hpre : xs.drop p = thBytes t ++ rest) :
    Calls Try.prog 27 #[.pointer (some ⟨r, 0, none⟩), .agg #[.int .u8 t.k, .int .u32 t.n, .string t.s, .slice t.a t.ls.length t.c]] w (ReadPost r g cap xs True 0 (p + (thBytes t).length) w) := by
  have hp := h.le
  obtain ⟨hsm1, hsm2⟩ := ht.small
  have fin : ∀ (G : Prop) (e : Int) (q : Nat), G → e = 0 → q = p + (thBytes t).length → ∀ x w', ReadPost r g cap xs G e q w x w' → ReadPost r g cap xs True 0 (p + (thBytes t).length) w x w' := by
    rintro G e q hG rfl rfl x w' ⟨b, h1, h2, h3, h4⟩
    exact ⟨b, h1, fun _ => h2 hG, h3, h4⟩
  by_cases g0 : t.k % 5 = 0
  · have hb : thBytes t = be1 (t.n % 256) := by simp [thBytes, g0]
    rw [hb] at fin hpre ⊢
    obtain ⟨e1, _, e2, e3⟩ := rd_pre hpre hp (W := 1) rfl
    exact (read_0 w r g cap p xs h hx hl t ht.k0 ht.n0 ht.n1 g0).mono (fin _ _ _ (by rw [e1, numOf_be1]) e2 e3)
  by_cases g1 : t.k % 5 = 1
  · have hb : thBytes t = be2 (t.n % 65536) := by simp [thBytes, g1]
    rw [hb] at fin hpre ⊢
    obtain ⟨e1, _, e2, e3⟩ := rd_pre hpre hp (W := 2) rfl
    exact (read_1 w r g cap p xs h hx hl t ht.k0 ht.n0 ht.n1 g1).mono (fin _ _ _ (by rw [e1, numOf_be2]) e2 e3)
  by_cases g2 : t.k % 5 = 2
  · have hb : thBytes t = be4 t.n := by simp [thBytes, g2]
    rw [hb] at fin hpre ⊢
    obtain ⟨e1, _, e2, e3⟩ := rd_pre hpre hp (W := 4) rfl
    exact (read_2 w r g cap p xs h hx hl t ht.k0 ht.n0 ht.n1 g2).mono (fin _ _ _ (by rw [e1, numOf_be4]) e2 e3)
  by_cases g3 : t.k % 5 = 3
  · have hb : thBytes t = nums t.s := by simp [thBytes, g3]
    rw [hb] at fin hpre ⊢
    obtain ⟨_, e1, e2, e3⟩ := rd_pre hpre hp (W := t.s.size) (nums_length _)
    exact (read_3 w r g cap p xs h hl t ht.k0 g3 (by omega)).mono (fin _ _ _ (by rw [e1, strOfNums_nums]) e2 e3)
  · have hb : thBytes t = beList t.ls := by simp [thBytes, g0, g1, g2, g3]
    rw [hb] at fin hpre ⊢
    obtain ⟨e1, e2, e3⟩ := lst_pre hpre hp
    obtain ⟨f1, f2, f3⟩ := rl_whole e1
    exact (read_4 w r g cap p xs h hx hl t ht.k0 g0 g1 g2 g3 ht.src hF (by omega) (.inl (f1.trans e2))).mono (fin _ _ _ (f1.trans e2) f2 (by rw [f3, e3, length_beList]; omega))
theorem read_torn (w : World) (r g cap p : Nat) (xs : List Int) (h : RAt w r g cap xs 0 p) (hx : InU8 xs) (hl : xs.length ≤ 1000000) (t : LT) (ht : ThOk w t) (hF : ∀ lb off, t.a = some ⟨lb, off, none⟩ → t.ls ≠ [] → lb ∉ [r]) (hpre : xs.drop p <+: thBytes t) (hsh : (xs.drop p).length < (thBytes t).length) :
    Calls Try.prog 27 #[.pointer (some ⟨r, 0, none⟩), .agg #[.int .u8 t.k, .int .u32 t.n, .string t.s, .slice t.a t.ls.length t.c]] w (ReadPost r g cap xs False 5 p w) := by
  have hp := h.le
  obtain ⟨hsm1, hsm2⟩ := ht.small
  have fin : ∀ (G : Prop) (e : Int) (q : Nat), e = 5 → q = p → ∀ x w', ReadPost r g cap xs G e q w x w' → ReadPost r g cap xs False 5 p w x w' := by
    rintro G e q rfl rfl x w' ⟨b, h1, h2, h3, h4⟩
    exact ⟨b, h1, fun h => h.elim, h3, h4⟩
  by_cases g0 : t.k % 5 = 0
  · have hb : thBytes t = be1 (t.n % 256) := by simp [thBytes, g0]
    rw [hb] at hsh
    obtain ⟨e2, e3⟩ := rd_short (W := 1) hsh hp
    exact (read_0 w r g cap p xs h hx hl t ht.k0 ht.n0 ht.n1 g0).mono (fin _ _ _ e2 e3)
  by_cases g1 : t.k % 5 = 1
  · have hb : thBytes t = be2 (t.n % 65536) := by simp [thBytes, g1]
    rw [hb] at hsh
    obtain ⟨e2, e3⟩ := rd_short (W := 2) hsh hp
    exact (read_1 w r g cap p xs h hx hl t ht.k0 ht.n0 ht.n1 g1).mono (fin _ _ _ e2 e3)
  by_cases g2 : t.k % 5 = 2
  · have hb : thBytes t = be4 t.n := by simp [thBytes, g2]
    rw [hb] at hsh
    obtain ⟨e2, e3⟩ := rd_short (W := 4) hsh hp
    exact (read_2 w r g cap p xs h hx hl t ht.k0 ht.n0 ht.n1 g2).mono (fin _ _ _ e2 e3)
  by_cases g3 : t.k % 5 = 3
  · have hb : thBytes t = nums t.s := by simp [thBytes, g3]
    rw [hb, nums_length] at hsh
    obtain ⟨e2, e3⟩ := rd_short (W := t.s.size) hsh hp
    exact (read_3 w r g cap p xs h hl t ht.k0 g3 (by omega)).mono (fin _ _ _ e2 e3)
  · have hb : thBytes t = beList t.ls := by simp [thBytes, g0, g1, g2, g3]
    rw [hb] at hsh hpre
    have e1 := lst_torn hpre hsh hp
    obtain ⟨f1, f2, f3⟩ := rl_torn e1
    exact (read_4 w r g cap p xs h hx hl t ht.k0 g0 g1 g2 g3 ht.src hF (by omega) (.inr f1)).mono (fin _ _ _ f2 f3)
end Go.Proofs.Ytchenofgmmgdmaa
