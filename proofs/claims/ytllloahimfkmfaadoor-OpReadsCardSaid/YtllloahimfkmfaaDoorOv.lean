/-
  The small functions of the statements: unread, unparsed, is.
-/
import Derived.Test.YtllloahimfkmfaaDoorOu
import Derived.Test.YtllloahimfkmfaaDoorOn
import Derived.Test.YtllloahimfkmfaaDoorOg
namespace Go.Proofs.YtllloahimfkmfaaDoor
open Go.RowKit
theorem splits_len {s : ByteArray} {l : List (List UInt8)} (h : Lib.splitB ⟨#[32]⟩ 0 (Lib.countB s ⟨#[32]⟩) s = l.map bs) : Lib.countB s ⟨#[32]⟩ + 1 = l.length := by
  have := Lib.splitB_all ⟨#[32]⟩ (by decide) 0 _ s rfl
  rw [h] at this
  simpa using this.symm
theorem Split4_any (w : World) (hG : Glob4 w) (s : ByteArray) (hs : s.size ≤ 1000000) (l : List (List UInt8)) (h : Lib.splitB ⟨#[32]⟩ 0 (Lib.countB s ⟨#[32]⟩) s = l.map bs) :
    Calls Tryd.prog 47 #[.string s, .string ⟨#[32]⟩] w fun e w' => ∃ v, e = .returned v ∧ Strs w'.heap.size w' v l ∧ Keeps [] w w' := by
  obtain ⟨m, hm⟩ := hG.ml
  refine (Tryd.strings_Split s ⟨#[32]⟩ m w (by omega) hm (by decide)).mono ?_
  rintro e w' ⟨rfl, rfl⟩
  rw [splits_len h, h]
  refine ⟨_, rfl, ⟨_, l.length, rfl, Nat.le_refl _, ?_, fun hn => ⟨w.heap.size, 0, rfl, by simp, fun j hj => ?_⟩⟩, (Keeps.refl _ _).alloc _⟩
  · have h1 := Lib.countB_le ⟨#[32]⟩ (by decide) s.size s (Nat.le_refl _)
    have h2 := splits_len h
    omega
  · have hh := heap_alloc_new w (.cells ((l.map bs).map Value.string).toArray 9)
    unfold World.cell?
    simp only [Nat.zero_add]
    rw [hh]
    simp [hj, List.getD_eq_getElem?_getD]
set_option maxHeartbeats 4000000 in
set_option maxRecDepth 100000 in
theorem unread_true (w : World) (hG : Glob4 w) (l : List UInt8) (E : Int) (hl : l.length ≤ 1900) (h : tkErr (nb l) = E) (h0 : E ≠ 0) :
    Calls Tryd.prog 24 #[.string (bs l), .int .i64 E] w fun e w' => e = .returned (.bool true) ∧ Keeps [] w w' := by
  have ht := fun w hG => Take4_any w hG l hl
  have e1 : tkX (nb l) = opZero := by unfold tkX; rw [h, if_neg h0]
  have e2 : tkRest l = [] := by unfold tkRest; rw [h, if_neg h0]
  rw [e1, e2, h] at ht
  simp only [Opn.val, opZero] at ht
  have e3 : bs [] = (⟨#[]⟩ : ByteArray) := rfl
  rw [e3] at ht
  have t1 : ((⟨#[]⟩ : ByteArray).toList == ([] : List UInt8)) = true := by rw [show (⟨#[]⟩ : ByteArray) = bs [] from rfl, toL_bs]; rfl
  generalize bs l = S at *
  clear e1 e2 e3 h
  go_enter Tryd.func24, Tryd.ntmps24
  go_wp2_with fail
  refine (ht _ hG).mono ?_; rintro e w1 ⟨rfl, hk1⟩
  clear ht
  go_wp2_with fail
  go_ret
  exact ⟨rfl, hk1.alloc _⟩
set_option maxHeartbeats 4000000 in
set_option maxRecDepth 100000 in
theorem unparsed_true (w : World) (hG : Glob4 w) (s : ByteArray) (hs : s.size ≤ 1000000) (l : List (List UInt8)) (h : Lib.splitB ⟨#[32]⟩ 0 (Lib.countB s ⟨#[32]⟩) s = l.map bs) (hw : ∀ j, (l.getD j []).length ≤ 1000) (hE : opsE l = 4) :
    Calls Tryd.prog 25 #[.string s] w fun e w' => e = .returned (.bool true) ∧ Keeps [] w w' := by
  have hp := fun w hG v hs => Parse4_any w hG v l hs hw
  have e1 : opsX l = opZero := by
    unfold opsX opsE at *
    split at hE
    · omega
    · rename_i hh; rw [if_neg hh]
  rw [e1, hE] at hp
  simp only [Opn.val, opZero] at hp
  have hsp := fun w hG => Split4_any w hG s hs l h
  clear h hE e1
  go_enter Tryd.func25, Tryd.ntmps25
  go_wp2_with fail
  refine (hsp _ hG).mono ?_; rintro e w1 ⟨v1, rfl, hs1, hk1⟩
  go_wp2_with fail
  refine (hp _ (hG.new hk1) _ hs1).mono ?_; rintro e w2 ⟨rfl, hk2⟩
  replace hk2 := hk1.trans hk2 (FSub.refl _ _)
  clear hsp hp hs1 hk1
  go_wp2_with fail
  go_ret
  exact ⟨rfl, hk2.alloc _⟩
theorem Join4_any (w : World) (v : Value) (l : List (List UInt8)) (h : w.ownsRow 0 9 1 v l.length (l.map fun s => .string (bs s))) (hn : l ≠ []) (hll : l.length ≤ 1000) (hlen : (Lib.join l [32]).length ≤ 1000000) :
    Calls Tryd.prog 48 #[v, .string ⟨#[32]⟩] w fun e w' => e = .returned (.string (bs (Lib.join l [32]))) ∧ Keeps [] w w' := by
  rcases h.2 with ⟨rfl, h0⟩ | ⟨g, cap, cur, rfl, _, hh, hc, hm, _⟩
  · exact absurd (List.eq_nil_of_length_eq_zero h0) hn
  · have e0 : (l.map bs).map (·.data.toList) = l := by simp [Function.comp_def, bs_list]
    have hl : (l.map bs).length = l.length := by simp
    have c := Tryd.strings_Join g 0 cap (l.map bs) ⟨#[32]⟩ w (fun j x hj => ?_) (lt_of_block hh) (by rw [hl]; omega) (by rw [hl]; exact hc) (by rw [e0]; show (Lib.join l [32]).length ≤ _; omega)
    · rw [hl, e0] at c
      exact c.mono fun e w' ⟨he, hb⟩ => ⟨he, Keeps.ofBelow hb⟩
    · have := h.cells (g := g) rfl j (.string x) (by
        rw [List.getElem?_map] at hj ⊢
        cases hq : l[j]? with
        | none => simp [hq] at hj
        | some y => simp [hq] at hj ⊢; exact hj)
      have ha : ((⟨g, 0, none⟩ : Addr).add j) = ⟨g, 0 + j, none⟩ := by unfold Addr.add; split <;> simp_all
      rw [ha] at this
      exact this
def behindL : List UInt8 := [98, 101, 104, 105, 110, 100]
set_option maxHeartbeats 8000000 in
set_option maxRecDepth 100000 in
theorem is_true (w : World) (hG : Glob4 w) (f o k a b : Int) (hx : (⟨f, o, k, a, b⟩ : Opn).In) (hgood : opGood ⟨f, o, k, a, b⟩ = true) (L : List UInt8) (hL : nb L = opPut ⟨f, o, k, a, b⟩) (T : ByteArray) (hT : T.size ≤ 1000) (WL : List (List UInt8)) (hWL : opWords ⟨f, o, k, a, b⟩ = WL)
    (hw : ∀ j, (WL.getD j []).length ≤ 1000) (hsp : Lib.splitB ⟨#[32]⟩ 0 (Lib.countB T ⟨#[32]⟩) T = WL.map bs) (hj : Lib.join WL [32] = T.data.toList) (hn : WL ≠ []) :
    Calls Tryd.prog 23 #[.agg #[.int .u8 f, .int .u8 o, .int .u8 k, .int .u16 a, .int .u16 b], .string (bs L), .string T] w fun e w' => e = .returned (.bool true) ∧ Keeps [] w w' := by
  have good := (good_iff _).1 hgood
  have hput := fun w hG => opPut_any w hG f o k a b hx
  have eP : strOfNums (opPut ⟨f, o, k, a, b⟩) = bs L := by rw [← hL, str_nb]
  have eE : opPutE ⟨f, o, k, a, b⟩ = 0 := by unfold opPutE; rw [if_pos hgood]
  rw [eE] at hput
  simp only [hgood, if_true] at hput
  rw [eP] at hput
  obtain ⟨tx, te⟩ := optk_put hx good (nb behindL)
  rw [← hL, ← nb_app] at tx te
  have hlen : L.length ≤ 7 := by
    have h1 := congrArg List.length hL
    rw [nb_length, put_length] at h1
    have : opLen f ≤ 7 := by unfold opLen opAtB opAtA; repeat' split
                             all_goals omega
    show L.length ≤ 7
    have h2 : L.length = opLen f := h1
    omega
  have htk := fun w hG => Take4_any w hG (L ++ behindL) (by rw [List.length_append]; simp [behindL]; omega)
  have e1 : tkX (nb (L ++ behindL)) = ⟨f, o, k, a, b⟩ := by unfold tkX; rw [te, if_pos rfl, tx]
  have e2 : tkRest (L ++ behindL) = behindL := by
    have hf0 : (nb (L ++ behindL)).getD 0 0 = f := by
      have h2 : (tkOp (nb (L ++ behindL))).f = (nb (L ++ behindL)).getD 0 0 := rfl
      rw [← h2, tx]
    have h3 : opLen f = L.length := by
      have h1 := congrArg List.length hL
      rw [nb_length, put_length] at h1
      exact h1.symm
    unfold tkRest
    rw [te, if_pos rfl, hf0, h3]
    simp
  rw [e1, e2, te] at htk
  have hp := fun w hG v hs => Parse4_any w hG v WL hs hw
  obtain ⟨p1, p2⟩ := ops_yes hx good hWL
  rw [p1, p2] at hp
  simp only [Opn.val] at htk hp
  have hspl := fun w hG => Split4_any w hG T (by omega) WL hsp
  have hwd := fun w hG => opWords_any w hG ⟨f, o, k, a, b⟩ hx
  have hwo : wordsOf ⟨f, o, k, a, b⟩ = WL := by unfold wordsOf; rw [if_pos hgood]; exact hWL
  rw [hwo] at hwd
  simp only [Opn.val] at hwd
  have hjo := fun (w : World) v h => Join4_any w v WL h hn (by rw [← hWL, words_length]; have := (opWN_le f).2; show opWN f ≤ _; omega) (by rw [hj]; simp; omega)
  rw [hj, bs_of] at hjo
  have hcat : bs (L ++ behindL) = bs L ++ (⟨#[98, 101, 104, 105, 110, 100]⟩ : ByteArray) := by rw [← bs_app]; rfl
  rw [hcat] at htk
  have hb2 : bs behindL = (⟨#[98, 101, 104, 105, 110, 100]⟩ : ByteArray) := rfl
  rw [hb2] at htk
  have hsz : (bs L).size ≤ 7 := hlen
  have t1 : ((bs L).toList == (bs L).toList) = true := by simp
  have t2 : ((⟨#[98, 101, 104, 105, 110, 100]⟩ : ByteArray).toList == [98, 101, 104, 105, 110, 100]) = true := by rw [show (⟨#[98, 101, 104, 105, 110, 100]⟩ : ByteArray) = bs behindL from rfl, toL_bs]; rfl
  have t3 : (T.toList == T.toList) = true := by simp
  have hk0 := (Keeps.refl [] w).alloc (.cells #[.int .u8 f, .int .u8 o, .int .u8 k, .int .u16 a, .int .u16 b] 27)
  generalize bs L = S at *
  clear hL eP eE tx te e1 e2 p1 p2 hwo hj hWL hsp hcat hb2 good hgood hn hlen
  go_enter Tryd.func23, Tryd.ntmps23
  go_wp2_with fail
  refine (hput _ (hG.new hk0)).mono ?_; rintro e w1 ⟨rfl, hk1⟩
  have hb := boxed5 hk1
  replace hk1 := hk0.trans hk1 (FSub.refl _ _)
  clear hput hk0
  go_wp2_with fail
  refine (htk _ (hG.new hk1)).mono ?_; rintro e w2 ⟨rfl, hk2⟩
  have hb2 := heap_alloc_lt (o := .cells #[.int .u8 f, .int .u8 o, .int .u8 k, .int .u16 a, .int .u16 b] 27) (hk2.heap hb (by simp))
  have hy2 := heap_alloc_new w2 (.cells #[.int .u8 f, .int .u8 o, .int .u8 k, .int .u16 a, .int .u16 b] 27)
  have hK2 := (hk1.trans hk2 (FSub.refl _ _)).alloc (.cells #[.int .u8 f, .int .u8 o, .int .u8 k, .int .u16 a, .int .u16 b] 27)
  have HB := Lib.hid hb2; have HY := Lib.hid hy2; have HK := Lib.hid hK2
  clear htk hb hk1 hk2 hb2 hy2 hK2
  go_wp2_with fail
  generalize w2.alloc (.cells #[.int .u8 f, .int .u8 o, .int .u8 k, .int .u16 a, .int .u16 b] 27) = W2 at *
  generalize w2.heap.size = Y at *
  refine (hspl _ (hG.new HK.out)).mono ?_; rintro e w3 ⟨v3, rfl, hs3, hk3⟩
  have hb3 := hk3.heap HB.out (by simp)
  have hy3 := hk3.heap HY.out (by simp)
  have hK3 := HK.out.trans hk3 (FSub.refl _ _)
  clear hspl HB HY HK hk3
  go_wp2_with fail
  refine (hp _ (hG.new hK3) _ hs3).mono ?_; rintro e w4 ⟨rfl, hk4⟩
  have hb4 := heap_alloc_lt (o := .cells #[.int .u8 f, .int .u8 o, .int .u8 k, .int .u16 a, .int .u16 b] 27) (hk4.heap hb3 (by simp))
  have hy4 := heap_alloc_lt (o := .cells #[.int .u8 f, .int .u8 o, .int .u8 k, .int .u16 a, .int .u16 b] 27) (hk4.heap hy3 (by simp))
  have hz4 := heap_alloc_new w4 (.cells #[.int .u8 f, .int .u8 o, .int .u8 k, .int .u16 a, .int .u16 b] 27)
  have hK4 := (hK3.trans hk4 (FSub.refl _ _)).alloc (.cells #[.int .u8 f, .int .u8 o, .int .u8 k, .int .u16 a, .int .u16 b] 27)
  obtain ⟨c0, c1, c2, c3, c4, cl⟩ := cell5 hb4
  obtain ⟨y0, y1, y2, y3, y4, yl⟩ := cell5 hy4
  obtain ⟨z0, z1, z2, z3, z4, zl⟩ := cell5 hz4
  have HK := Lib.hid hK4
  clear hp hs3 hK3 hb3 hy3 hk4 hb4 hy4 hz4 hK4
  go_wp2_with fail
  refine (hwd _ (hG.new HK.out)).mono ?_; rintro e w5 ⟨v5, rfl, hrow, hk5, hf5⟩
  clear c0 c1 c2 c3 c4 cl y0 y1 y2 y3 y4 yl z0 z1 z2 z3 z4 zl hwd hf5
  have hK5 := HK.out.trans hk5 (FSub.refl _ _)
  have hjo2 := hjo _ _ hrow
  clear hrow hk5 HK hjo
  go_wp2_with fail
  refine hjo2.mono ?_; rintro e w6 ⟨rfl, hk6⟩
  replace hK5 := hK5.trans hk6 (FSub.refl _ _)
  clear hk6 hjo2
  go_wp2_with fail
  go_ret
  exact ⟨rfl, hK5⟩
end Go.Proofs.YtllloahimfkmfaaDoor
