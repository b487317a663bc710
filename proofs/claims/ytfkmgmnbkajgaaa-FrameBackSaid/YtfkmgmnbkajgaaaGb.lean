/-
  FrameBack: the walk.
-/
import Derived.Test.YtfkmgmnbkajgaaaGa
namespace Go.Proofs.Ytfkmgmnbkajgaaa
open Go.RowKit
def BRel1 (w : World) (ts : List ByteArray) (k : Nat) (v : Value) (wr : World) : Prop := wr.ownsRow 0 3 1 v k ((offs ts k).map (.int .i64)) ∧ Keeps [] w wr ∧ FSub (own v) [] w.heap.size
/-- The cutter, since it was made. -/
structure BInv (w1 wr : World) (b : Nat) (F : List Nat) (S : List UInt8) (p : Nat) : Prop where
  one : CAt wr b F S p
  keeps : Keeps [] w1 wr
  fresh : FSub F [] w1.heap.size
theorem BInv.next {w1 wr w2 : World} {b p p' : Nat} {F F' : List Nat} {S S' : List UInt8} (h : BInv w1 wr b F S p) (h1 : CAt w2 b F' S' p') (hk : Keeps F wr w2) (hs : FSub F' F wr.heap.size) : BInv w1 w2 b F' S' p' := by
  obtain ⟨hk1, hf1⟩ := h.keeps.fresh h.fresh hk hs
  exact ⟨h1, hk1, hf1⟩
def BRel2 (w1 : World) (b : Nat) (ts : List ByteArray) (f c : Nat) (wr : World) : Prop := ∃ F, BInv w1 wr b F ((frL ts ts.length).take f) (offAt ts c)
def strLen : Value → Nat
  | .string R => R.size
  | _ => 0
theorem row_at {w : World} {e : TypeId} {v : Value} {n j : Nat} {xs : List Value} {u : Value} (hr : w.ownsRow 0 e 1 v n xs) (hj : xs[j]? = some u) : ∃ g cap, v = .slice (some ⟨g, 0, none⟩) n cap ∧ w.cell? ⟨g, j, none⟩ = some u := by
  have hr' := hr
  rcases hr.2 with ⟨rfl, rfl⟩ | ⟨g, cap, cur, rfl, _⟩
  · have := hr.1
    have hl : j < xs.length := (List.getElem?_eq_some_iff.1 hj).1
    omega
  · refine ⟨g, cap, rfl, ?_⟩
    have := hr'.cells (g := g) rfl j u hj
    have ha : ((⟨g, 0, none⟩ : Addr).add j) = ⟨g, j, none⟩ := by unfold Addr.add; split <;> simp_all
    rw [ha] at this
    exact this
theorem Next_wait (w1 wr : World) (b : Nat) (F : List Nat) (ts : List ByteArray) (c f : Nat) (h : BInv w1 wr b F ((frL ts ts.length).take f) (offAt ts c)) (hc : c < ts.length) (hp : Pays ts ts.length) (hl : (frL ts ts.length).length ≤ 1000000) (h2 : f < offAt ts (c + 1)) :
    Calls Try.prog 17 #[.pointer (some ⟨b, 0, none⟩)] wr fun e w' => e = .returned (.tuple #[.string ⟨#[]⟩, .int .i64 (offAt ts c), .int .i64 0]) ∧ ∃ F', BInv w1 w' b F' ((frL ts ts.length).take f) (offAt ts c) := by
  have t := tell_wait ts c _ f hc hp h2
  refine (Next_any wr b F _ _ h.one (by rw [List.length_take]; omega)).mono fun e w' ⟨he, F', h1, hk, hs⟩ => ?_
  rw [t, (size_none (by rw [t]; decide)).2] at he
  rw [(size_none (by rw [t]; decide)).1] at h1
  exact ⟨he, F', h.next h1 hk hs⟩
theorem Next_there (w1 wr : World) (b : Nat) (F : List Nat) (ts : List ByteArray) (c f : Nat) (h : BInv w1 wr b F ((frL ts ts.length).take f) (offAt ts c)) (hc : c < ts.length) (hp : Pays ts ts.length) (hl : (frL ts ts.length).length ≤ 1000000) (h2 : offAt ts (c + 1) ≤ f) :
    Calls Try.prog 17 #[.pointer (some ⟨b, 0, none⟩)] wr fun e w' => e = .returned (.tuple #[.string (ts.getD c default), .int .i64 (offAt ts c), .int .i64 1]) ∧ ∃ F', BInv w1 w' b F' ((frL ts ts.length).take f) (offAt ts (c + 1)) := by
  obtain ⟨t1, t2, t3⟩ := tell_there ts c _ f hc hp h2
  refine (Next_any wr b F _ _ h.one (by rw [List.length_take]; omega)).mono fun e w' ⟨he, F', h1, hk, hs⟩ => ?_
  rw [t1, t2] at he
  rw [t3] at h1
  exact ⟨he, F', h.next h1 hk hs⟩
set_option maxHeartbeats 1000000 in
theorem back_many (w : World) (a : Option Addr) (n c : Nat) (a2 : Option Addr) (m c2 : Nat) (hn : n ≤ 9223372036854775807) (h : 20 < n) :
    Calls Try.prog 5 #[.slice a n c, .slice a2 m c2] w fun e w' => e = .returned (.bool true) ∧ Keeps [] w w' := by
  go_enter Try.func5, Try.ntmps5
  go_wp2_with fail
  refine (works_true w).mono ?_; rintro e w1 ⟨rfl, hk⟩
  go_wp2
  go_ret
  exact ⟨rfl, hk⟩
set_option maxHeartbeats 4000000 in
set_option maxRecDepth 100000 in
theorem back_main (w : World) (a : Option Addr) (c0 : Nat) (ts : List ByteArray) (hT : StrsAt w a ts) (hl : ts.length ≤ 20) (a2 : Option Addr) (m c2 : Nat) (hA : Asks16 w a2 m) (hm : m ≤ 9223372036854775807) :
    Calls Try.prog 5 #[.slice a ts.length c0, .slice a2 m c2] w fun e w' => e = .returned (.bool true) ∧ Keeps [] w w' := by
  have HT := Lib.hid hT; clear hT
  have HA := Lib.hid hA; clear hA
  obtain ⟨iI, hi, hz0, hz1, hz2⟩ := info_parts Try.infoI
  go_enter Try.func5, Try.ntmps5
  go_wp2_with fail
  go_loopw [5, 6, 7] (fun all at_ i wr => ∃ k : Nat, k ≤ ts.length ∧ all = .string (bs (frL ts k)) ∧ i = .int .i64 k ∧ Pays ts k ∧ BRel1 w ts k at_ wr)
    (fun _ _ i _ => ts.length - (intOf i).toNat)
  case atStart => exact ⟨0, Nat.zero_le _, rfl, rfl, fun j hj => absurd hj (Nat.not_lt_zero _), World.ownsRow_nil _ _ _ _, Keeps.refl _ _, fun g hg => by simp [own_nil] at hg⟩
  case round =>
    obtain ⟨k, hk, rfl, rfl, hpay, hrow, hkw, hfv⟩ := hrel
    by_cases hlt : k < ts.length
    · obtain ⟨lb, off, rfl, hst⟩ : ∃ lb off, a = some ⟨lb, off, none⟩ ∧ Strs w lb off ts := by
        rcases HT.out with h1 | h1
        · rw [h1] at hlt; simp at hlt
        · exact h1
      have ck := hkw.cell (hst k hlt).1 (by simp)
      have htm := (hst k hlt).2
      clear hst
      have hoff := offAt_le ts k hpay
      have HSZ : Hid ((bs (frL ts k)).size = offAt ts k) := Lib.hid (bs_size _)
      have hT8 : (bs (frL ts k)).size ≤ 12200 := by rw [HSZ.out]; omega
      have HNX := Lib.hid (bs_frL ts k)
      have HPAY := Lib.hid hpay
      have HX : Hid (∀ t, ts.getD k default = t → 1 ≤ t.size → t.size ≤ 600 → Pays ts (k + 1)) := Lib.hid fun t ht h1 h2 j hj => by
        by_cases e : j < k
        · exact HPAY.out j e
        · obtain rfl : j = k := by omega
          rw [ht]; exact ⟨h1, h2⟩
      generalize hX : ts.getD k default = t at *
      have HXE := Lib.hid hX
      clear hX hoff hpay
      have HROW := Lib.hid hrow
      have HKW := Lib.hid hkw
      have HFV := Lib.hid hfv
      clear hrow hkw hfv
      by_cases h0 : t.size = 0
      · have HP := Lib.hid (Put_none wr t h0)
        go_wp2_with fail
        refine HP.out.mono ?_; rintro e w1 ⟨rfl, rfl⟩
        go_wp2_with fail
        refine (works_true wr).mono ?_; rintro e w2 ⟨rfl, hk2⟩
        go_wp2
        go_ret
        exact ⟨rfl, HKW.out.step hk2 (by simp)⟩
      · by_cases h6 : 600 < t.size
        · have HP := Lib.hid (Put_long wr t h6 htm)
          go_wp2_with fail
          refine HP.out.mono ?_; rintro e w1 ⟨rfl, rfl⟩
          go_wp2_with fail
          refine (works_true wr).mono ?_; rintro e w2 ⟨rfl, hk2⟩
          go_wp2
          go_ret
          exact ⟨rfl, HKW.out.step hk2 (by simp)⟩
        · have HP := Lib.hid (Put_ok wr t (by omega) (by omega))
          have hU8 : (bs (frameL t.data.toList)).size ≤ 606 := by rw [bs_size, frameL_length]; simp; omega
          have HPN := Lib.hid (HX.out t rfl (by omega) (by omega))
          clear HX HXE
          generalize bs (frameL t.data.toList) = U at *
          generalize bs (frL ts k) = T at *
          go_wp2_with fail
          refine HP.out.mono ?_; rintro e w1 ⟨rfl, hk1⟩
          have hrow := hk1.row HROW.out (by simp)
          obtain ⟨a1, cap1, rfl⟩ := row_form hrow
          have HK1 := Lib.hid (HKW.out.step hk1 (fun _ h => h))
          clear HP hk1 HROW HKW ck
          go_wp2_with (at_builtin; refine wpList_append_sharp _ rfl _ _ 46 rfl 3 iI (.int .i64 0) 8 Try.underlying46 hi hz0 hz1 hz2 rfl _ k _ rfl (hrow.alloc _) ⟨w1.heap.size, 0, none⟩ 1 1 [.int .i64 T.size] rfl rfl ?c1 ?c2 ?c3 ?c4 ?_)
          case c1 => exact one_new w1 _ _
          case c2 => intro u hu; simp at hu; subst hu; rfl
          case c3 => unfold maxLen; omega
          case c4 => omega
          intro v4 w4 hrow4 hk4 hs4 _
          have HR4 : Hid (BRel1 w ts (k + 1) v4 w4) := Lib.hid (by
            refine ⟨?_, ?_, ?_⟩
            · rw [offs_succ, List.map_append]; rw [HSZ.out] at hrow4; exact hrow4
            · exact (HK1.out.alloc _).trans hk4 HFV.out
            · exact (hs4.trans HFV.out (by have := HK1.out.size; simp; omega) (Nat.le_refl _)))
          clear hrow hrow4 hk4 hs4 HK1
          go_wp2_with fail
          go_roundw
          case rel => exact ⟨k + 1, by omega, by rw [← HNX.out], by go_num, HPN.out, HR4.out⟩
          case measure => simp [intOf]; omega
    · obtain rfl : k = ts.length := by omega
      have hM := offAt_le ts ts.length hpay
      have HPAY := Lib.hid hpay; clear hpay
      have HROW := Lib.hid hrow
      have HKW := Lib.hid hkw
      clear hrow hkw hfv
      have hLM : (frL ts ts.length).length = offAt ts ts.length := rfl
      have hL12 : (frL ts ts.length).length ≤ 12200 := by rw [hLM]; omega
      have HLL : Hid ((frL ts ts.length).length ≤ 1000000) := Lib.hid (by omega)
      have HLM := Lib.hid hLM; clear hLM hM
      generalize wr = w1 at *
      go_wp2_with fail
      refine (New_any w1).mono ?_; rintro e w2 ⟨rfl, hw⟩
      have hc := cat_new w1
      have hk2 := lone_new w1
      rw [← hw] at hc hk2
      have hI0 : BInv w1 w2 w1.heap.size [w1.heap.size] ((frL ts ts.length).take 0) (offAt ts 0) := ⟨by rw [List.take_zero, offAt_zero]; exact hc, hk2, fun g hg => .inr (by simp at hg; omega)⟩
      have HI0 := Lib.hid hI0
      have hbl : (bs (frL ts ts.length)).size = (frL ts ts.length).length := bs_size _
      have HBL : Hid ((bs (frL ts ts.length)).data.toList = frL ts ts.length) := Lib.hid (bs_list _)
      have hB12 : (bs (frL ts ts.length)).size ≤ 12200 := by rw [hbl]; exact hL12
      have HSTART : Hid (0 = ts.length ∨ 0 < offAt ts (0 + 1)) := Lib.hid (.inr (by rw [offAt_succ]; omega))
      clear hc hk2 hw hI0 hbl
      generalize bs (frL ts ts.length) = T0 at *
      generalize w1.heap.size = b0 at *
      go_wp2_with fail
      go_loopw [5, 11, 12] (fun all cut i wr => ∃ (f c j : Nat) (R : ByteArray), f ≤ (frL ts ts.length).length ∧ c ≤ ts.length ∧ j ≤ f ∧ all = .string R ∧ R.data.toList = (frL ts ts.length).drop f ∧ cut = .int .i64 c ∧ i = .int .i64 j ∧ (c = ts.length ∨ f < offAt ts (c + 1)) ∧ BRel2 w1 b0 ts f c wr)
        (fun all _ _ _ => strLen all)
      case atStart => exact ⟨0, 0, 0, T0, Nat.zero_le _, Nat.zero_le _, Nat.le_refl _, rfl, by rw [HBL.out, List.drop_zero], rfl, rfl, HSTART.out, _, HI0.out⟩
      case round =>
        obtain ⟨f, c, j, R, hf, hc, hj, rfl, hR, rfl, rfl, hcf, F, hI⟩ := hrel
        clear HI0 HSTART HBL
        have hRs : R.size = (frL ts ts.length).length - f := by
          have h1 : R.data.toList.length = R.size := by simp
          rw [← h1, hR, List.length_drop]
        have hR1 : R.size ≤ 12200 := by omega
        have hks : f + R.size ≤ (frL ts ts.length).length := by omega
        have hks2 : (frL ts ts.length).length ≤ f + R.size := by omega
        have HR := Lib.hid hR; clear hR hRs
        have HI := Lib.hid hI; clear hI
        have HCF := Lib.hid hcf; clear hcf
        by_cases hpos : 0 < R.size
        · by_cases hm0 : 0 < m
          · obtain ⟨ab, ao, rfl, haa⟩ : ∃ ab ao, a2 = some ⟨ab, ao, none⟩ ∧ ∀ j, j < m → ∃ z : Nat, z < 65536 ∧ w.cell? ⟨ab, ao + j, none⟩ = some (.int .u16 z) := by
              rcases HA.out with h1 | h1
              · omega
              · exact h1
            have hjm : j % m < m := Nat.mod_lt _ hm0
            obtain ⟨z, hz, hzc⟩ := haa (j % m) hjm
            have hz4 := HI.out.keeps.cell (HKW.out.cell hzc (by simp)) (by simp)
            have hmod : ((j : Int) % (m : Int)) = ((j % m : Nat) : Int) := by omega
            clear haa hzc
            go_wp2_with fail
            rw [hmod]
            clear hmod
            generalize j % m = jm at *
            by_cases hlt : (1 : Int) + (z : Int) % 700 < (R.size : Int)
            · have hn1 : 0 ≤ (1 : Int) + (z : Int) % 700 := by omega
              have hn2 : (1 : Int) + (z : Int) % 700 ≤ R.size := by omega
              have hn3 : ((1 : Int) + (z : Int) % 700).toNat = 1 + z % 700 := by omega
              go_wp2_with fail
              have hfd := Feed_any wr b0 F _ _ HI.out.one (R.extract 0 (1 + z % 700)) (by
                have h1 : ((frL ts ts.length).take f).length ≤ 12200 := by rw [List.length_take]; omega
                have h2 : (R.extract 0 (1 + z % 700)).size ≤ 12200 := by simp only [ByteArray.size_extract]; omega
                omega)
              have hcatl : (frL ts ts.length).take f ++ (R.extract 0 (1 + z % 700)).data.toList = (frL ts ts.length).take (f + (1 + z % 700)) := by
                rw [piece_list, HR.out, List.drop_zero, Nat.sub_zero]; exact List.take_add.symm
              rw [hcatl] at hfd
              have HFD := Lib.hid hfd
              have HVL : Hid ((R.extract (1 + z % 700) R.size).data.toList = (frL ts ts.length).drop (f + (1 + z % 700))) := Lib.hid (by rw [rest_list, HR.out, List.drop_drop])
              have HVZ : Hid ((R.extract (1 + z % 700) R.size).size < R.size) := Lib.hid (by simp only [ByteArray.size_extract]; omega)
              clear hfd hcatl
              refine HFD.out.mono ?_; rintro e w4 ⟨rfl, F4, hc4, hk4, hs4⟩
              have HI4 := Lib.hid (HI.out.next hc4 hk4 hs4)
              clear hc4 hk4 hs4 HFD HI
              go_wp2_with fail
              go_loopw [11] (fun cut wr => ∃ c : Nat, c ≤ ts.length ∧ cut = .int .i64 c ∧ BRel2 w1 b0 ts (f + (1 + z % 700)) c wr)
                (fun cut _ => ts.length - (intOf cut).toNat)
              case atStart => exact ⟨c, hc, rfl, F4, HI4.out⟩
              case round =>
                obtain ⟨d, hd, rfl, F5, hI5⟩ := hrel
                clear HI4
                have HI5 := Lib.hid hI5; clear hI5
                by_cases hdn : d < ts.length
                · by_cases hw : f + (1 + z % 700) < offAt ts (d + 1)
                  · have HN := Lib.hid (Next_wait w1 wr b0 F5 ts d (f + (1 + z % 700)) HI5.out hdn HPAY.out HLL.out hw)
                    have HW := Lib.hid hw; clear hw HI5
                    generalize hpp : offAt ts d = pp at *
                    have HPP := Lib.hid hpp; clear hpp
                    go_wp2_with fail
                    refine HN.out.mono ?_; rintro e w5 ⟨rfl, F6, hI6⟩
                    have HI6 := Lib.hid hI6; clear hI6 HN
                    go_wp2_with fail
                    go_roundw
                    case rel => exact ⟨f + (1 + z % 700), d, j + 1, R.extract (1 + z % 700) R.size, by omega, by omega, by omega, rfl, HVL.out, rfl, by go_num, .inr HW.out, F6, by rw [HPP.out]; exact HI6.out⟩
                    case measure => exact HVZ.out
                  · have HN := Lib.hid (Next_there w1 wr b0 F5 ts d (f + (1 + z % 700)) HI5.out hdn HPAY.out HLL.out (by omega))
                    obtain ⟨lb, off, rfl, hst⟩ : ∃ lb off, a = some ⟨lb, off, none⟩ ∧ Strs w lb off ts := by
                      rcases HT.out with h1 | h1
                      · rw [h1] at hdn; simp at hdn
                      · exact h1
                    have ck1 := HKW.out.cell (hst d hdn).1 (by simp)
                    obtain ⟨g, cap, rfl, rk1⟩ := row_at HROW.out (offs_at ts ts.length d hdn)
                    clear hst hw
                    have HOF : Hid (∀ w2, Keeps [] w1 w2 → w2.cell? ⟨lb, off + d, none⟩ = some (.string (ts.getD d default)) ∧ w2.cell? ⟨g, d, none⟩ = some (.int .i64 (offAt ts d))) := Lib.hid fun w2 h => ⟨h.cell ck1 (by simp), h.cell rk1 (by simp)⟩
                    clear ck1 rk1 HI5
                    generalize hpp : offAt ts d = pp at *
                    have HPP := Lib.hid hpp; clear hpp
                    generalize ts.getD d default = tx at *
                    go_wp2_with fail
                    refine HN.out.mono ?_; rintro e w5 ⟨rfl, F6, hI6⟩
                    obtain ⟨ck2, rk2⟩ := HOF.out w5 hI6.keeps
                    have HI6 := Lib.hid hI6; clear hI6 HN
                    go_wp2_with fail
                    go_roundw
                    case rel => exact ⟨d + 1, by omega, by go_num, F6, HI6.out⟩
                    case measure => simp [intOf]; omega
                · obtain rfl : d = ts.length := by omega
                  go_wp2_with fail
                  go_roundw
                  case rel => exact ⟨f + (1 + z % 700), ts.length, j + 1, R.extract (1 + z % 700) R.size, by omega, by omega, by omega, rfl, HVL.out, rfl, by go_num, .inl rfl, F5, HI5.out⟩
                  case measure => exact HVZ.out
            · go_wp2_with fail
              have hfd := Feed_any wr b0 F _ _ HI.out.one (R) (by
                have h1 : ((frL ts ts.length).take f).length ≤ 12200 := by rw [List.length_take]; omega
                have h2 : (R).size ≤ 12200 := by omega
                omega)
              have hcatl : (frL ts ts.length).take f ++ (R).data.toList = (frL ts ts.length).take (f + R.size) := by
                rw [HR.out, List.take_append_drop, List.take_of_length_le (by omega)]
              rw [hcatl] at hfd
              have HFD := Lib.hid hfd
              have HVL : Hid ((ByteArray.empty).data.toList = (frL ts ts.length).drop (f + R.size)) := Lib.hid (by rw [List.drop_eq_nil_of_le (by omega)]; rfl)
              have HVZ : Hid ((ByteArray.empty).size < R.size) := Lib.hid (by exact hpos)
              clear hfd hcatl
              refine HFD.out.mono ?_; rintro e w4 ⟨rfl, F4, hc4, hk4, hs4⟩
              have HI4 := Lib.hid (HI.out.next hc4 hk4 hs4)
              clear hc4 hk4 hs4 HFD HI
              go_wp2_with fail
              go_loopw [11] (fun cut wr => ∃ c : Nat, c ≤ ts.length ∧ cut = .int .i64 c ∧ BRel2 w1 b0 ts (f + R.size) c wr)
                (fun cut _ => ts.length - (intOf cut).toNat)
              case atStart => exact ⟨c, hc, rfl, F4, HI4.out⟩
              case round =>
                obtain ⟨d, hd, rfl, F5, hI5⟩ := hrel
                clear HI4
                have HI5 := Lib.hid hI5; clear hI5
                by_cases hdn : d < ts.length
                · by_cases hw : f + R.size < offAt ts (d + 1)
                  · have HN := Lib.hid (Next_wait w1 wr b0 F5 ts d (f + R.size) HI5.out hdn HPAY.out HLL.out hw)
                    have HW := Lib.hid hw; clear hw HI5
                    generalize hpp : offAt ts d = pp at *
                    have HPP := Lib.hid hpp; clear hpp
                    go_wp2_with fail
                    refine HN.out.mono ?_; rintro e w5 ⟨rfl, F6, hI6⟩
                    have HI6 := Lib.hid hI6; clear hI6 HN
                    go_wp2_with fail
                    go_roundw
                    case rel => exact ⟨f + R.size, d, j + 1, ByteArray.empty, by omega, by omega, by omega, rfl, HVL.out, rfl, by go_num, .inr HW.out, F6, by rw [HPP.out]; exact HI6.out⟩
                    case measure => exact HVZ.out
                  · have HN := Lib.hid (Next_there w1 wr b0 F5 ts d (f + R.size) HI5.out hdn HPAY.out HLL.out (by omega))
                    obtain ⟨lb, off, rfl, hst⟩ : ∃ lb off, a = some ⟨lb, off, none⟩ ∧ Strs w lb off ts := by
                      rcases HT.out with h1 | h1
                      · rw [h1] at hdn; simp at hdn
                      · exact h1
                    have ck1 := HKW.out.cell (hst d hdn).1 (by simp)
                    obtain ⟨g, cap, rfl, rk1⟩ := row_at HROW.out (offs_at ts ts.length d hdn)
                    clear hst hw
                    have HOF : Hid (∀ w2, Keeps [] w1 w2 → w2.cell? ⟨lb, off + d, none⟩ = some (.string (ts.getD d default)) ∧ w2.cell? ⟨g, d, none⟩ = some (.int .i64 (offAt ts d))) := Lib.hid fun w2 h => ⟨h.cell ck1 (by simp), h.cell rk1 (by simp)⟩
                    clear ck1 rk1 HI5
                    generalize hpp : offAt ts d = pp at *
                    have HPP := Lib.hid hpp; clear hpp
                    generalize ts.getD d default = tx at *
                    go_wp2_with fail
                    refine HN.out.mono ?_; rintro e w5 ⟨rfl, F6, hI6⟩
                    obtain ⟨ck2, rk2⟩ := HOF.out w5 hI6.keeps
                    have HI6 := Lib.hid hI6; clear hI6 HN
                    go_wp2_with fail
                    go_roundw
                    case rel => exact ⟨d + 1, by omega, by go_num, F6, HI6.out⟩
                    case measure => simp [intOf]; omega
                · obtain rfl : d = ts.length := by omega
                  go_wp2_with fail
                  go_roundw
                  case rel => exact ⟨f + R.size, ts.length, j + 1, ByteArray.empty, by omega, by omega, by omega, rfl, HVL.out, rfl, by go_num, .inl rfl, F5, HI5.out⟩
                  case measure => exact HVZ.out
          · go_wp2_with fail
            have hfd := Feed_any wr b0 F _ _ HI.out.one (R) (by
              have h1 : ((frL ts ts.length).take f).length ≤ 12200 := by rw [List.length_take]; omega
              have h2 : (R).size ≤ 12200 := by omega
              omega)
            have hcatl : (frL ts ts.length).take f ++ (R).data.toList = (frL ts ts.length).take (f + R.size) := by
              rw [HR.out, List.take_append_drop, List.take_of_length_le (by omega)]
            rw [hcatl] at hfd
            have HFD := Lib.hid hfd
            have HVL : Hid ((ByteArray.empty).data.toList = (frL ts ts.length).drop (f + R.size)) := Lib.hid (by rw [List.drop_eq_nil_of_le (by omega)]; rfl)
            have HVZ : Hid ((ByteArray.empty).size < R.size) := Lib.hid (by exact hpos)
            clear hfd hcatl
            refine HFD.out.mono ?_; rintro e w4 ⟨rfl, F4, hc4, hk4, hs4⟩
            have HI4 := Lib.hid (HI.out.next hc4 hk4 hs4)
            clear hc4 hk4 hs4 HFD HI
            go_wp2_with fail
            go_loopw [11] (fun cut wr => ∃ c : Nat, c ≤ ts.length ∧ cut = .int .i64 c ∧ BRel2 w1 b0 ts (f + R.size) c wr)
              (fun cut _ => ts.length - (intOf cut).toNat)
            case atStart => exact ⟨c, hc, rfl, F4, HI4.out⟩
            case round =>
              obtain ⟨d, hd, rfl, F5, hI5⟩ := hrel
              clear HI4
              have HI5 := Lib.hid hI5; clear hI5
              by_cases hdn : d < ts.length
              · by_cases hw : f + R.size < offAt ts (d + 1)
                · have HN := Lib.hid (Next_wait w1 wr b0 F5 ts d (f + R.size) HI5.out hdn HPAY.out HLL.out hw)
                  have HW := Lib.hid hw; clear hw HI5
                  generalize hpp : offAt ts d = pp at *
                  have HPP := Lib.hid hpp; clear hpp
                  go_wp2_with fail
                  refine HN.out.mono ?_; rintro e w5 ⟨rfl, F6, hI6⟩
                  have HI6 := Lib.hid hI6; clear hI6 HN
                  go_wp2_with fail
                  go_roundw
                  case rel => exact ⟨f + R.size, d, j + 1, ByteArray.empty, by omega, by omega, by omega, rfl, HVL.out, rfl, by go_num, .inr HW.out, F6, by rw [HPP.out]; exact HI6.out⟩
                  case measure => exact HVZ.out
                · have HN := Lib.hid (Next_there w1 wr b0 F5 ts d (f + R.size) HI5.out hdn HPAY.out HLL.out (by omega))
                  obtain ⟨lb, off, rfl, hst⟩ : ∃ lb off, a = some ⟨lb, off, none⟩ ∧ Strs w lb off ts := by
                    rcases HT.out with h1 | h1
                    · rw [h1] at hdn; simp at hdn
                    · exact h1
                  have ck1 := HKW.out.cell (hst d hdn).1 (by simp)
                  obtain ⟨g, cap, rfl, rk1⟩ := row_at HROW.out (offs_at ts ts.length d hdn)
                  clear hst hw
                  have HOF : Hid (∀ w2, Keeps [] w1 w2 → w2.cell? ⟨lb, off + d, none⟩ = some (.string (ts.getD d default)) ∧ w2.cell? ⟨g, d, none⟩ = some (.int .i64 (offAt ts d))) := Lib.hid fun w2 h => ⟨h.cell ck1 (by simp), h.cell rk1 (by simp)⟩
                  clear ck1 rk1 HI5
                  generalize hpp : offAt ts d = pp at *
                  have HPP := Lib.hid hpp; clear hpp
                  generalize ts.getD d default = tx at *
                  go_wp2_with fail
                  refine HN.out.mono ?_; rintro e w5 ⟨rfl, F6, hI6⟩
                  obtain ⟨ck2, rk2⟩ := HOF.out w5 hI6.keeps
                  have HI6 := Lib.hid hI6; clear hI6 HN
                  go_wp2_with fail
                  go_roundw
                  case rel => exact ⟨d + 1, by omega, by go_num, F6, HI6.out⟩
                  case measure => simp [intOf]; omega
              · obtain rfl : d = ts.length := by omega
                go_wp2_with fail
                go_roundw
                case rel => exact ⟨f + R.size, ts.length, j + 1, ByteArray.empty, by omega, by omega, by omega, rfl, HVL.out, rfl, by go_num, .inl rfl, F5, HI5.out⟩
                case measure => exact HVZ.out
        · have hlm := HLM.out
          have hfM : f = (frL ts ts.length).length := by omega
          have hcN : c = ts.length := by
            rcases HCF.out with h | h
            · exact h
            · by_cases e : c < ts.length
              · have := offAt_mono ts (c + 1) ts.length e; omega
              · omega
          have hI1 := HI.out.one
          rw [hfM, List.take_length, hcN] at hI1
          have hFed : Calls Try.prog 19 #[.pointer (some ⟨b0, 0, none⟩)] wr fun e w' => e = .returned (.int .i64 (offAt ts ts.length)) ∧ wr = w' := by
            have h1 := Fed_any wr b0 _ _ _ hI1
            rw [hlm] at h1; exact h1
          have t0 : tellOf ((frL ts ts.length).drop (offAt ts ts.length)) = 0 := tell_short (by rw [List.length_drop]; omega)
          have hTl : Calls Try.prog 20 #[.pointer (some ⟨b0, 0, none⟩), .string ⟨#[]⟩, .int .i64 (offAt ts ts.length), .int .i64 0] wr fun e w' => e = .returned (.bool true) ∧ Keeps [] w1 w' :=
            (tells_none wr b0 F _ _ hI1 HLL.out (offAt ts ts.length) 0 rfl (by rw [t0]; rfl) (by rw [t0]; decide)).mono fun e w' ⟨he, F', h1, h2, h3⟩ => ⟨he, (HI.out.keeps.fresh HI.out.fresh h2 h3).1⟩
          have HFED := Lib.hid hFed
          have HTLL := Lib.hid hTl
          obtain rfl : c = ts.length := hcN
          clear hlm hfM hI1 hFed t0 hTl HCF
          generalize offAt ts ts.length = M at *
          go_wp2_with fail
          refine HFED.out.mono ?_; rintro e w4 ⟨rfl, rfl⟩
          go_wp2_with fail
          refine HTLL.out.mono ?_; rintro e w5 ⟨rfl, hk5⟩
          go_wp2_with fail
          refine (works_true w5).mono ?_; rintro e w6 ⟨rfl, hk6⟩
          go_wp2_with fail
          go_ret
          exact ⟨rfl, (HKW.out.step hk5 (by simp)).step hk6 (by simp)⟩
theorem back_true (w : World) (a : Option Addr) (c0 : Nat) (ts : List ByteArray) (hT : StrsAt w a ts) (hl : ts.length ≤ 9223372036854775807) (a2 : Option Addr) (m c2 : Nat) (hA : Asks16 w a2 m) (hm : m ≤ 9223372036854775807) :
    Calls Try.prog 5 #[.slice a ts.length c0, .slice a2 m c2] w fun e w' => e = .returned (.bool true) ∧ Keeps [] w w' := by
  by_cases h : 20 < ts.length
  · exact back_many w a _ c0 a2 m c2 hl h
  · exact back_main w a c0 ts hT (by omega) a2 m c2 hA hm
end Go.Proofs.Ytfkmgmnbkajgaaa
