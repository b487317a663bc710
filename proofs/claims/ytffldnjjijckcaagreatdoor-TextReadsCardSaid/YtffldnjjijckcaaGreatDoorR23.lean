/-
  The document's side of a line: d, flag, Model, list.
-/
import Derived.Test.YtffldnjjijckcaaGreatDoorR12
import Derived.Test.YtffldnjjijckcaaGreatDoorR11
import Derived.Test.YtffldnjjijckcaaGreatDoorR03
set_option linter.unusedSimpArgs false
set_option linter.unusedVariables false
namespace Go.Proofs.YtffldnjjijckcaaGreatDoor
open Go.RowKit
theorem one_digit6 (c : Nat) : strOfNums [48 + (c : Int) % 10] = bs [UInt8.ofNat (48 + c % 10)] := by
  have : (48 + (c : Int) % 10).toNat = 48 + c % 10 := by omega
  simp [strOfNums, bs, this]
set_option maxHeartbeats 1000000 in
theorem r6d_nat (w : World) (m : Nat) (hm : m < 10000000) : Calls Tryz.prog 23 #[.int .i64 m] w fun e w' => e = .returned (.string (bs (Lib.decDigits m))) ∧ Keeps [] w w' := by
  have hlen := dec_length_le 6 m (by omega)
  go_enter Tryz.func23, Tryz.ntmps23
  go_wp2_with fail
  go_loopw [0, 3] (fun n s wr => ∃ (c : Nat) (t : List UInt8), n = .int .i64 c ∧ s = .string (bs t) ∧ Lib.decDigits c ++ t = Lib.decDigits m ∧ c ≤ m ∧ Keeps [] w wr) (fun n _ _ => (intOf n).toNat)
  case atStart => exact ⟨m, [], rfl, rfl, by simp, Nat.le_refl _, Keeps.refl _ _⟩
  case round =>
    obtain ⟨c, t, rfl, rfl, ht, hcm, hk⟩ := hrel
    have htl : t.length ≤ 10 := by have := congrArg List.length ht; rw [List.length_append] at this; omega
    have hs1 : (bs t).size ≤ 10 := by rw [bs_size]; exact htl
    have hcv := text1_at (W := wr) rfl (48 + (c : Int) % 10)
    have hs2 : (strOfNums [48 + (c : Int) % 10]).size ≤ 1 := by rw [strOfNums_size]; simp
    have e2 : strOfNums [48 + (c : Int) % 10] ++ bs t = bs (UInt8.ofNat (48 + c % 10) :: t) := by rw [one_digit6, bs_app]; rfl
    have E2 := Lib.hid e2; clear e2
    generalize hT : strOfNums [48 + (c : Int) % 10] = T at *
    generalize hS : bs t = S at *
    clear hT hS
    by_cases hlt : c < 10
    · have e3 : UInt8.ofNat (48 + c % 10) :: t = Lib.decDigits m := by rw [← ht, dec_small hlt]; rfl
      rw [e3] at E2
      have hq : (c : Int) / 10 = 0 := by omega
      clear e3
      go_wp2_with fail
      go_ret
      exact ⟨by rw [← E2.out]; rfl, hk.alloc _⟩
    · have e3 : Lib.decDigits (c / 10) ++ (UInt8.ofNat (48 + c % 10) :: t) = Lib.decDigits m := by rw [← ht, dec_big hlt]; simp
      have hq : ((c : Int) / 10 == 0) = false := by simp; omega
      go_wp2_with fail
      go_roundw
      case rel => exact ⟨c / 10, _, by congr 1, by rw [← E2.out], e3, by omega, hk.alloc _⟩
      case measure => simp [intOf]; omega
theorem r6d_any (w : World) (n : Int) (n0 : 0 ≤ n) (n1 : n < 10000000) : Calls Tryz.prog 23 #[.int .i64 n] w fun e w' => e = .returned (.string (bs (dec n))) ∧ Keeps [] w w' := by
  obtain ⟨m, rfl⟩ := Int.eq_ofNat_of_zero_le n0
  exact r6d_nat w m (by omega)
theorem r6flag_any (w : World) (b : Bool) (s : List UInt8) (hs : s.length ≤ 1000000) : Calls Tryz.prog 25 #[.bool b, .string (bs s)] w fun e w' => e = .returned (.string (bs (if b then 32 :: s else []))) ∧ w' = w := by
  have hz := bs_size s
  have e2 : (⟨#[32]⟩ : ByteArray) ++ bs s = bs (32 :: s) := by
    have : (⟨#[32]⟩ : ByteArray) = bs [32] := rfl
    rw [this, bs_app]; rfl
  have E2 := Lib.hid e2
  clear e2
  have hz2 : (bs s).size ≤ 1000000 := by omega
  clear hz
  cases b with
  | false =>
    generalize bs s = S at *
    go_enter Tryz.func25, Tryz.ntmps25
    go_wp2_with fail
    go_ret
    exact ⟨rfl, rfl⟩
  | true =>
    simp only [if_true]
    generalize bs s = S at *
    generalize bs (32 :: s) = T at *
    go_enter Tryz.func25, Tryz.ntmps25
    go_wp2_with fail
    go_ret
    exact ⟨by rw [← E2.out]; rfl, rfl⟩
end Go.Proofs.YtffldnjjijckcaaGreatDoor
/-
  The document's side of a line: Model, list.
-/
namespace Go.Proofs.YtffldnjjijckcaaGreatDoor
open Go.RowKit
set_option maxHeartbeats 1000000 in
theorem r6Model_any (w : World) (m : Int) (h0 : 0 ≤ m) (h1 : m ≤ 4) : Calls Tryz.prog 24 #[.int .u8 m] w fun e w' => e = .returned (.string (bs (mdNm m))) ∧ Keeps [] w w' := by
  have hb := heap_alloc_new w (.cells #[.string ⟨#[114, 101, 103, 105, 115, 116, 101, 114]⟩, .string ⟨#[113, 117, 101, 117, 101]⟩, .string ⟨#[109, 97, 112]⟩, .string ⟨#[108, 111, 99, 107]⟩, .string ⟨#[97, 112, 112, 101, 110, 100]⟩] 9)
  have hk := Lib.hid ((Keeps.refl [] w).alloc (.cells #[.string ⟨#[114, 101, 103, 105, 115, 116, 101, 114]⟩, .string ⟨#[113, 117, 101, 117, 101]⟩, .string ⟨#[109, 97, 112]⟩, .string ⟨#[108, 111, 99, 107]⟩, .string ⟨#[97, 112, 112, 101, 110, 100]⟩] 9))
  have d : ∀ W : World, W.heap[w.heap.size]? = some (.cells #[.string ⟨#[114, 101, 103, 105, 115, 116, 101, 114]⟩, .string ⟨#[113, 117, 101, 117, 101]⟩, .string ⟨#[109, 97, 112]⟩, .string ⟨#[108, 111, 99, 107]⟩, .string ⟨#[97, 112, 112, 101, 110, 100]⟩] 9 (0, 0)) → W.cell? ⟨w.heap.size, m.toNat, none⟩ = some (.string (bs (mdNm m))) := by
    intro W h
    rcases (by omega : m = 0 ∨ m = 1 ∨ m = 2 ∨ m = 3 ∨ m = 4) with rfl | rfl | rfl | rfl | rfl <;> (simp only [World.cell?, h]; rfl)
  have d0 := d _ hb
  have hm : ((m.toNat : Nat) : Int) = m := by omega
  obtain ⟨k, rfl⟩ : ∃ k : Nat, m = (k : Int) := ⟨m.toNat, hm.symm⟩
  have hk5 : (k : Int) < 5 := by omega
  clear d hb hm h1 h0
  have e : ((k : Int)).toNat = k := by omega
  rw [e] at d0
  clear e
  generalize bs (mdNm (k : Int)) = S at *
  go_enter Tryz.func24, Tryz.ntmps24
  go_wp2_with fail
  go_ret
  exact ⟨rfl, hk.out⟩
theorem join_snoc44 (l : List (List UInt8)) (y : List UInt8) (h : l ≠ []) : Lib.join (l ++ [y]) [44] = Lib.join l [44] ++ 44 :: y := by
  rw [join_app l [y] [44] h (by simp), Lib.join_one]; simp
theorem dec_not (n : Int) : dec n ≠ [] := dec_ne _
theorem join_dec_ne (l : List Int) (h : l ≠ []) : Lib.join (l.map dec) [44] ≠ [] := by
  cases l with
  | nil => exact absurd rfl h
  | cons x r =>
    intro e
    by_cases hr : r = []
    · subst hr
      rw [List.map_cons, List.map_nil, Lib.join_one] at e
      exact dec_not x e
    · rw [List.map_cons, join_cons_ne _ _ _ (by simp [hr])] at e
      simp at e
set_option maxHeartbeats 4000000 in
set_option maxRecDepth 100000 in
theorem r6list_any (w : World) (v : Value) (l : List Int) {N : Nat} (h : Nums N w v l) (hN : N ≤ w.heap.size) (hi : ∀ x ∈ l, 0 ≤ x ∧ x ≤ 65535) (hl : l.length ≤ 1000) :
    Calls Tryz.prog 28 #[v] w fun e w' => e = .returned (.string (bs (listW l))) ∧ Keeps [] w w' := by
  obtain ⟨a, c, rfl, hc, hm, hrow⟩ := h
  have HR := Lib.hid hrow; have HI := Lib.hid hi
  have hnn : (l.length : Int) ≤ 1000 := by omega
  clear hrow hi hm
  generalize hn : l.length = n at *
  have HN := Lib.hid hn
  clear hn
  go_enter Tryz.func28, Tryz.ntmps28
  go_wp2_with fail
  go_loopw [3, 4] (fun s i wr => ∃ k : Nat, k ≤ n ∧ i = .int .i64 k ∧ s = .string (bs (Lib.join ((l.take k).map dec) [44])) ∧ (Lib.join ((l.take k).map dec) [44]).length ≤ k * 8 ∧ Keeps [] w wr) (fun _ i _ => n - (intOf i).toNat)
  case atStart => exact ⟨0, by omega, rfl, rfl, by simp [Lib.join], Keeps.refl _ _⟩
  case round =>
    obtain ⟨k, hk, rfl, rfl, hlen, hkp⟩ := hrel
    have HK := Lib.hid hkp
    clear hkp
    by_cases hlt : k < n
    · obtain ⟨bk, o, rfl, hbk, hcell⟩ := HR.out (fun e => by have := HN.out; rw [e] at this; simp at this; omega)
      have hkl : k < l.length := by have := HN.out; omega
      have d0 := (HK.out.same hN (by simp)).cell hbk (hcell k hlt)
      have hmem : l.getD k 0 ∈ l := by simp [List.getD, hkl]
      obtain ⟨x0, x1⟩ := HI.out _ hmem
      have htk : l.take (k + 1) = l.take k ++ [l.getD k 0] := by rw [List.take_add_one]; simp [List.getD, hkl]
      have hds : (dec (l.getD k 0)).length ≤ 7 := dec_length_le 6 _ (by omega)
      have hd := fun w => r6d_any w (l.getD k 0) x0 (by omega)
      have HD := Lib.hid hd
      have hz := bs_size (Lib.join ((l.take k).map dec) [44])
      have hzd := bs_size (dec (l.getD k 0))
      have hne : 0 < k → (l.take k).map dec ≠ [] := by
        intro h0 e
        have := congrArg List.length e
        rw [List.length_map, List.length_take, List.length_nil] at this
        omega
      have hx0 : 0 ≤ l.getD k 0 := x0
      have hwr : IntKind.u16.wrap (l.getD k 0) = l.getD k 0 := by
        generalize l.getD k 0 = q at *
        simp [IntKind.wrap, IntKind.bits, IntKind.signed]; omega
      by_cases h0 : k = 0
      · subst h0
        have hj : Lib.join ((l.take 1).map dec) [44] = dec (l.getD 0 0) := by rw [htk]; simp [Lib.join]
        have d1 : wr.cell? ⟨bk, o, none⟩ = some (.int .u16 (l.getD 0 0)) := by simpa using d0
        have HJ := Lib.hid hj; have HDS := Lib.hid hds
        have e0 : bs (Lib.join ((l.take 0).map dec) [44]) = ⟨#[]⟩ := rfl
        rw [e0]
        clear hcell hmem htk hj hds hz hne hd HR
        generalize l.getD 0 0 = x at *
        have e1 : (⟨#[]⟩ : ByteArray) ++ bs (dec x) = bs (dec x) := by
          have : (⟨#[]⟩ : ByteArray) = bs [] := rfl
          rw [this, bs_app]; rfl
        have E1 := Lib.hid e1
        clear e1 e0
        generalize hBD : bs (dec x) = BD at *
        have HBD := Lib.hid hBD
        clear hBD
        have hzb : BD.size ≤ 7 := by have := HDS.out; omega
        go_wp2_with fail
        refine (HD.out _).mono ?_; rintro z w2 ⟨rfl, hk2⟩
        have HK2 := Lib.hid (HK.out.trans hk2 (FSub.refl _ _))
        clear hk2 HK d0 d1
        go_wp2_with fail
        go_roundw
        case rel => exact ⟨1, by omega, by go_num, by rw [HJ.out, HBD.out]; exact congrArg _ E1.out, by rw [HJ.out]; have := HDS.out; omega, HK2.out⟩
        case measure => simp [intOf]; omega
      · have hj : Lib.join ((l.take (k + 1)).map dec) [44] = Lib.join ((l.take k).map dec) [44] ++ 44 :: dec (l.getD k 0) := by
          rw [htk, List.map_append, List.map_cons, List.map_nil, join_snoc44 _ _ (hne (by omega))]
        have HJ := Lib.hid hj; have HDS := Lib.hid hds; have HLEN := Lib.hid hlen
        have hk0 : (0 : Int) < (k : Int) := by omega
        clear hcell hmem htk hj hds hne hd HR
        generalize l.getD k 0 = x at *
        have e1 : bs (Lib.join ((l.take k).map dec) [44]) ++ (⟨#[44]⟩ : ByteArray) ++ bs (dec x) = bs (Lib.join ((l.take k).map dec) [44] ++ 44 :: dec x) := by
          have : (⟨#[44]⟩ : ByteArray) = bs [44] := rfl
          rw [this, bs_app, bs_app]; simp
        have E1 := Lib.hid e1
        clear e1
        generalize Lib.join ((l.take k).map dec) [44] = J at *
        generalize hBJ : bs (J ++ 44 :: dec x) = BJ at *
        have HBJ := Lib.hid hBJ
        clear hBJ
        generalize hBD : bs (dec x) = BD at *
        clear hBD
        generalize bs J = S at *
        have hzb : BD.size ≤ 7 := by have := HDS.out; omega
        have hzs : S.size ≤ 8000 := by have := HLEN.out; omega
        go_wp2_with fail
        refine (HD.out _).mono ?_; rintro z w2 ⟨rfl, hk2⟩
        have HK2 := Lib.hid (HK.out.trans hk2 (FSub.refl _ _))
        clear hk2 HK d0
        go_wp2_with fail
        go_roundw
        case rel => exact ⟨k + 1, by omega, by go_num, by rw [HJ.out, HBJ.out]; exact congrArg _ E1.out, by rw [HJ.out]; have := HDS.out; have := HLEN.out; simp; omega, HK2.out⟩
        case measure => simp [intOf]; omega
    · have e : k = l.length := by have := HN.out; omega
      rw [e, List.take_length]
      by_cases hl0 : l = []
      · subst hl0
        have e0 : bs (Lib.join (([] : List Int).map dec) [44]) = ⟨#[]⟩ := rfl
        rw [e0]
        have hn0 : n = 0 := by have := HN.out; simpa using this.symm
        clear hlen e0
        obtain rfl : k = 0 := e
        subst hn0
        go_wp2_with fail
        go_ret
        exact ⟨rfl, HK.out⟩
      · have hlw : listW l = Lib.join (l.map dec) [44] := by unfold listW; rw [if_neg hl0]
        have hemp : (bs (Lib.join (l.map dec) [44])).toList.isEmpty = false := by
          rw [toL_bs]
          have := join_dec_ne l hl0
          cases h : Lib.join (l.map dec) [44] with
          | nil => exact absurd h this
          | cons a r => rfl
        have HLW := Lib.hid hlw
        clear hlw hlen
        generalize hS : bs (Lib.join (l.map dec) [44]) = S at *
        have HS := Lib.hid hS
        clear hS
        go_wp2_with fail
        go_ret
        exact ⟨by rw [HLW.out, HS.out]; rfl, HK.out⟩
end Go.Proofs.YtffldnjjijckcaaGreatDoor
