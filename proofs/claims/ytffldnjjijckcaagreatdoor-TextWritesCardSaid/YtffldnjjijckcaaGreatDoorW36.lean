/-
  The program's Read.
-/
import Derived.Great.BuildSlice
import Derived.Test.YtffldnjjijckcaaGreatDoorW34
import Derived.Test.YtffldnjjijckcaaGreatDoorW35
import Derived.Test.YtffldnjjijckcaaGreatDoorW25
set_option linter.unusedSimpArgs false
set_option linter.unusedVariables false
namespace Go.Proofs.YtffldnjjijckcaaGreatDoor
open Go.RowKit
def EvOk (wr : World) (v : Value) (p : Ev × Value × Value) : Prop :=
  ∃ base Wk, EvKeeps base Wk p.2.1 p.2.2 p.1 ∧ Keeps (List.range base) Wk wr ∧ (∀ q ∈ own v, q < base ∨ Wk.heap.size ≤ q)
theorem EvOk.at {wr : World} {v : Value} {p : Ev × Value × Value} (h : EvOk wr v p) : EvAt wr.heap.size wr p.2.1 p.2.2 p.1 := by
  obtain ⟨base, Wk, h1, h2, _⟩ := h
  exact h1 _ _ h2 (by simp)
theorem EvOk.step {wr wr' : World} {v v' : Value} {p : Ev × Value × Value} (h : EvOk wr v p) (hk : Keeps (own v) wr wr') (hf : FSub (own v') (own v) wr.heap.size) : EvOk wr' v' p := by
  obtain ⟨base, Wk, h1, h2, h3⟩ := h
  refine ⟨base, Wk, h1, h2.trans hk (fun q hq => ?_), fun q hq => ?_⟩
  · rcases h3 q hq with h | h
    · exact .inl (by simp [h])
    · exact .inr h
  · rcases hf q hq with h | h
    · exact h3 q h
    · exact .inr (Nat.le_trans h2.size h)
end Go.Proofs.YtffldnjjijckcaaGreatDoor
/-
  TextScripts' mathematics; all; SplitAfter; Join with no separator; TrimSuffix.
-/
namespace Go.Proofs.YtffldnjjijckcaaGreatDoor
open Go.RowKit
def pieces (l : List Ev) : List (List UInt8) := l.map (fun x => evLine x ++ [10]) ++ [[]]
end Go.Proofs.YtffldnjjijckcaaGreatDoor
/-
  all; SplitAfter; Join with no separator; TrimSuffix.
-/
namespace Go.Proofs.YtffldnjjijckcaaGreatDoor
open Go.RowKit
def AllPost (n : Nat) (w : World) (e : Ending) (w' : World) : Prop := ∃ b, e = .returned (.bool b) ∧ (b = true → n ≤ 20) ∧ Keeps [] w w'
set_option maxHeartbeats 8000000 in
set_option maxRecDepth 100000 in
theorem all6_any (w : World) (l : List Ev) (v : Value) {N : Nat} (hv : Evs N w v l) (hN : N ≤ w.heap.size) : Calls Tryz.prog 15 #[v] w (AllPost l.length w) := by
  obtain ⟨a, c, rfl, hc, hm, hrow⟩ := hv
  have HR := Lib.hid hrow
  have hnn : (l.length : Int) ≤ 9223372036854775807 := by omega
  clear hrow hm
  generalize hn2 : l.length = n at *
  have HN2 := Lib.hid hn2
  clear hn2
  go_enter Tryz.func15, Tryz.ntmps15
  go_wp2_with fail
  go_loopw [3] (fun i wr => ∃ k : Nat, k ≤ n ∧ k ≤ 30 ∧ i = .int .i64 k ∧ Keeps [] w wr) (fun i _ => 30 - (intOf i).toNat)
  case atStart => exact ⟨0, by omega, by omega, rfl, Keeps.refl _ _⟩
  case round =>
    obtain ⟨k, hk, hk30, rfl, hkp⟩ := hrel
    have HK := Lib.hid hkp
    clear hkp
    by_cases hlt : k < n
    · by_cases h30 : k < 30
      · obtain ⟨bk, o, rfl, hbk, hcell⟩ := HR.out (fun e => by have := HN2.out; rw [e] at this; simp at this; omega)
        obtain ⟨tx, rd, ht, hr⟩ := hcell k (by have := HN2.out; omega)
        have hsame : Same N w wr := HK.out.same hN (by simp)
        have hr2 := rangeAt_same hr hsame hbk
        have HT := Lib.hid (ht.same hsame)
        have hnw := Nat.le_trans hN HK.out.size
        clear HR hcell ht hr hsame hbk
        generalize l.getD k evZero = x at *
        go_wp2_with ((with_reducible apply wpList_load_evM); exact rfl; assumption)
        refine (few6_any wr x tx rd HT.out hnw).mono ?_; rintro z w2 ⟨fb, rfl, hk2⟩
        have HK2 := Lib.hid (HK.out.trans hk2 (FSub.refl _ _))
        clear hk2 HK HT hr2
        cases fb with
        | false =>
          go_wp2_with fail
          go_ret
          exact ⟨false, rfl, by simp, HK2.out⟩
        | true =>
          go_wp2_with fail
          go_roundw
          case rel => exact ⟨k + 1, by omega, by omega, by go_num, HK2.out⟩
          case measure => simp [intOf]; omega
      · have h20 : ¬ (n : Int) ≤ 20 := by omega
        go_wp2_with fail
        go_ret
        exact ⟨_, rfl, by first | (simp; done) | (simp; omega), HK.out⟩
    · by_cases h20 : (n : Int) ≤ 20
      · go_wp2_with fail
        go_ret
        exact ⟨_, rfl, by first | (simp; done) | (simp; omega), HK.out⟩
      · go_wp2_with fail
        go_ret
        exact ⟨_, rfl, by first | (simp; done) | (simp; omega), HK.out⟩
theorem Strs.take {N : Nat} {w : World} {b o n c : Nat} {l : Wds} (h : Strs N w (.slice (some ⟨b, o, none⟩) n c) l) (k : Nat) (hk : k ≤ l.length) : Strs N w (.slice (some ⟨b, o, none⟩) k c) (l.take k) := by
  obtain ⟨a, c', he, hc, hm, h⟩ := h
  cases he
  refine ⟨_, c, by rw [List.length_take, Nat.min_eq_left hk], by simp; omega, hm, fun hn => ?_⟩
  obtain ⟨bk, o', ha, hb, h'⟩ := h (fun e => hn (by rw [e]; simp))
  cases ha
  refine ⟨_, _, rfl, hb, fun j hj => ?_⟩
  have hj2 : j < k ∧ j < l.length := by simp at hj; omega
  rw [h' j hj2.2]
  simp [List.getD, hj2.1, hj2.2]
theorem Strs.drop {N : Nat} {w : World} {b o n c : Nat} {l : Wds} (h : Strs N w (.slice (some ⟨b, o, none⟩) n c) l) (k : Nat) (hk : k ≤ l.length) : Strs N w (.slice (some ⟨b, o + k, none⟩) (l.length - k) (c - k)) (l.drop k) := by
  obtain ⟨a, c', he, hc, hm, h⟩ := h
  cases he
  refine ⟨_, c - k, by rw [List.length_drop], by simp; omega, by omega, fun hn => ?_⟩
  obtain ⟨bk, o', ha, hb, h'⟩ := h (fun e => hn (by rw [e]; simp))
  cases ha
  refine ⟨_, _, rfl, hb, fun j hj => ?_⟩
  have hj2 : k + j < l.length := by simp at hj; omega
  have := h' (k + j) hj2
  rw [← Nat.add_assoc] at this
  rw [this]
  simp [List.getD, hj2]
end Go.Proofs.YtffldnjjijckcaaGreatDoor
/-
  TextWrites' walk.
-/
namespace Go.Proofs.YtffldnjjijckcaaGreatDoor
open Go.RowKit
/-- What the law has put together, and whether an event was none. -/
def SumSt (l : List Ev) (k : Nat) (S : ByteArray) (bad : Int) : Prop :=
  (bad = 0 ∧ S = bs (wrS (l.take k)) ∧ ∀ x ∈ l.take k, evGood x = true) ∨ (bad = 4 ∧ l.all evGood = false)
set_option maxHeartbeats 16000000 in
set_option maxRecDepth 100000 in
theorem TextWrites_any (w : World) (hG : Glob6 w) (l : List Ev) (hl : ∀ x ∈ l, x.In) (v : Value) {N : Nat} (hv : Evs N w v l) (hN : N ≤ w.heap.size) :
    Calls Tryz.prog 5 #[v] w fun e w' => e = .returned (.bool true) ∧ Keeps [] w w' := by
  have hform : ∃ a c, v = .slice a l.length c ∧ l.length ≤ c ∧ c ≤ 9223372036854775807 := by obtain ⟨a, c, h1, h2, h3, _⟩ := hv; exact ⟨a, c, h1, h2, h3⟩
  have hall := all6_any w l v hv hN
  unfold AllPost at hall
  have HV := Lib.hid hv; have HG := Lib.hid hG; have HL := Lib.hid hl; have HA := Lib.hid hall; have HF := Lib.hid hform
  clear hv hG hl hall hform
  go_enter Tryz.func5, Tryz.ntmps5
  go_wp2_with fail
  refine HA.out.mono ?_; rintro z w1 ⟨fb, rfl, h20, hk1⟩
  have HK1 := Lib.hid hk1
  have HG1 := Lib.hid (HG.out.new hk1)
  have HV1 := Lib.hid (HV.out.new hk1 hN)
  have hN1 := Nat.le_trans hN hk1.size
  clear hk1 HG HV HA
  cases fb with
  | false =>
    go_wp2_with fail
    refine (works6_any w1 (HG1.out)).mono ?_; rintro z wa ⟨rfl, hka⟩
    have HKZ := Lib.hid (HK1.out.trans hka (FSub.refl _ _))
    clear hka
    go_wp2_with fail
    go_ret
    exact ⟨rfl, HKZ.out⟩
  | true =>
    have hn20 := h20 rfl
    clear h20
    have hw := txWrite_any w1 HG1.out l HL.out (by omega) v HV1.out hN1
    unfold WrPost at hw
    have HW := Lib.hid hw
    clear hw
    generalize hXW : bs (wrX l) = XW at *
    have HXW := Lib.hid hXW
    clear hXW
    obtain ⟨eW, hEW⟩ : ∃ e, wrE l = e := ⟨_, rfl⟩
    rw [hEW] at HW
    have HEW := Lib.hid hEW
    clear hEW
    go_wp2_with fail
    refine HW.out.mono ?_; rintro z w2 ⟨rfl, hk2⟩
    have HK2 := Lib.hid (HK1.out.trans hk2 (FSub.refl _ _))
    have HG2 := Lib.hid (HG1.out.new hk2)
    have HV2 := Lib.hid (HV1.out.new hk2 hN1)
    have hN2 := Nat.le_trans hN1 hk2.size
    clear hk2 HG1 HV1 HK1 HW hN1
    go_wp2_with fail
    obtain ⟨a, c, rfl, hc, hm, hrow⟩ := HV2.out
    have HR := Lib.hid hrow
    clear hrow HF HV2
    generalize hn : l.length = n at *
    have HN := Lib.hid hn
    clear hn
    go_loopw [5, 6, 7] (fun s bad i wr => ∃ (k : Nat) (S : ByteArray) (B : Int), i = .int .i64 k ∧ k ≤ n ∧ s = .string S ∧ bad = .int .i64 B ∧ S.size ≤ k * 1000001 ∧ SumSt l k S B ∧ Keeps [] w2 wr) (fun _ _ i _ => n - (intOf i).toNat)
    case atStart => exact ⟨0, _, 0, rfl, by omega, rfl, rfl, by decide, Or.inl ⟨rfl, rfl, by simp⟩, Keeps.refl _ _⟩
    case round =>
      obtain ⟨k, S, B, rfl, hkn, rfl, rfl, hsz, hst, hkp⟩ := hrel
      have HKP := Lib.hid hkp
      have HST := Lib.hid hst
      clear hkp hst
      by_cases hgo : k < n ∧ B = 0
      · obtain ⟨hlt, rfl⟩ := hgo
        have hlw : k < l.length := by have := HN.out; omega
        obtain ⟨bk, o, rfl, hbk, hcell⟩ := HR.out (fun e => by rw [e] at hlw; simp at hlw)
        obtain ⟨tx, rd, ht, hr⟩ := hcell k (by have := HN.out; omega)
        have hmem : l.getD k evZero ∈ l := getD_mem hlw
        have htk := take_next l k hlw
        have hxi := HL.out _ hmem
        have hsame : Same N w2 wr := HKP.out.same hN2 (by simp)
        have hr2 := rangeAt_same hr hsame hbk
        have hln := r6Line_any wr (l.getD k evZero) hxi tx rd (ht.same hsame) (Nat.le_trans hN2 HKP.out.size)
        unfold R6LinePost at hln
        have hbad : evGood (l.getD k evZero) = false → l.all evGood = false := fun hf => by
          rw [List.all_eq_false]; exact ⟨_, hmem, by rw [hf]; decide⟩
        have hlz : (lineX (l.getD k evZero)).length ≤ 1000000 := by
          unfold lineX
          rcases bool_two (evGood (l.getD k evZero)) with hg | hg
          · rw [hg]; exact line_short hxi hg
          · rw [hg]; simp
        have hzz : (bs (lineX (l.getD k evZero))).size ≤ 1000000 := by rw [bs_size]; exact hlz
        have hs2 : S.size ≤ 20000020 := by
          have : k * 1000001 ≤ 20 * 1000001 := Nat.mul_le_mul (by omega) (Nat.le_refl _)
          omega
        have HB := Lib.hid hbad; have HTK := Lib.hid htk
        have HLN := Lib.hid hln
        have hk0 : (0 : Int) ≤ k := by omega
        clear hcell ht hr hmem htk hxi hsame hln hbad hlz hlw HR
        generalize l.getD k evZero = x at *
        generalize hLX : bs (lineX x) = LX at *
        have HLX := Lib.hid hLX
        clear hLX
        have hsz3 : (S ++ LX ++ (⟨#[10]⟩ : ByteArray)).size ≤ (k + 1) * 1000001 := by
          simp only [ByteArray.size_append]
          have : (⟨#[10]⟩ : ByteArray).size = 1 := rfl
          omega
        have HS3 := Lib.hid hsz3
        clear hsz3
        go_wp2_with (first | ((with_reducible apply wpList_load_evM); exact rfl; assumption))
        refine HLN.out.mono ?_; rintro z w3 ⟨rfl, hk3⟩
        have HK3 := Lib.hid (HKP.out.trans hk3 (FSub.refl _ _))
        clear hk3 HKP HLN hr2
        go_wp2_with fail
        go_roundw
        case rel =>
          refine ⟨k + 1, _, evErr x, by go_num, by omega, rfl, rfl, HS3.out, ?_, HK3.out⟩
          rcases bool_two (evGood x) with hg | hg
          · rcases HST.out with ⟨-, h1, h2⟩ | ⟨h1, -⟩
            · refine Or.inl ⟨by unfold evErr; rw [hg]; rfl, ?_, ?_⟩
              · have e : (⟨#[10]⟩ : ByteArray) = bs [10] := rfl
                rw [HTK.out, wrS_app, h1, ← HLX.out, e, bs_app, bs_app]
                unfold lineX
                rw [hg]
                congr 1
                simp [wrS]
              · intro y hy
                rw [HTK.out] at hy
                rcases List.mem_append.1 hy with hy | hy
                · exact h2 y hy
                · rw [List.mem_singleton] at hy; rw [hy]; exact hg
            · exact absurd h1 (by decide)
          · exact Or.inr ⟨by unfold evErr; rw [hg]; rfl, HB.out hg⟩
        case measure => simp [intOf]; omega
      · rcases HST.out with ⟨rfl, hS, hgd⟩ | ⟨rfl, hnb⟩
        · have hkn2 : k = n := by
            rcases Nat.lt_or_ge k n with h | h
            · exact absurd ⟨h, rfl⟩ hgo
            · omega
          have htk : l.take k = l := List.take_of_length_le (by have := HN.out; omega)
          rw [htk] at hS hgd
          have hall : l.all evGood = true := List.all_eq_true.2 hgd
          have hX : XW = S := by rw [← HXW.out, hS]; unfold wrX; rw [hall]; rfl
          have hE : eW = 0 := by rw [← HEW.out]; unfold wrE; rw [hall]; rfl
          have hb : (S.toList == S.toList) = true := by simp
          clear htk hS hgd hall HXW HEW HST hgo HL HR
          subst hX hE hkn2
          go_wp2_with fail
          refine (works6_any wr (HG2.out.new HKP.out)).mono ?_; rintro z wa ⟨rfl, hka⟩
          have HKZ := Lib.hid ((HK2.out.trans HKP.out (FSub.refl _ _)).trans hka (FSub.refl _ _))
          clear hka
          go_wp2_with fail
          go_ret
          exact ⟨rfl, HKZ.out⟩
        · have hX : XW = ⟨#[]⟩ := by rw [← HXW.out]; unfold wrX; rw [hnb]; rfl
          have hE : eW = 4 := by rw [← HEW.out]; unfold wrE; rw [hnb]; rfl
          have hk0 : (0 : Int) ≤ k := by omega
          clear hnb HXW HEW HST hgo HL HR
          subst hX hE
          by_cases hlt : k < n
          all_goals
            go_wp2_with fail
            refine (works6_any wr (HG2.out.new HKP.out)).mono ?_; rintro z wa ⟨rfl, hka⟩
            have HKZ := Lib.hid ((HK2.out.trans HKP.out (FSub.refl _ _)).trans hka (FSub.refl _ _))
            clear hka
            go_wp2_with fail
            go_ret
            exact ⟨rfl, HKZ.out⟩
end Go.Proofs.YtffldnjjijckcaaGreatDoor
