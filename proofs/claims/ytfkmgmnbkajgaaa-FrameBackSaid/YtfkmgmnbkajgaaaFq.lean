/-
  FrameCuts: the walk.
-/
import Derived.Test.YtfkmgmnbkajgaaaFp
namespace Go.Proofs.Ytfkmgmnbkajgaaa
open Go.RowKit
def Asks8 (w : World) (a : Option Addr) (m : Nat) : Prop := m = 0 ∨ ∃ ab ao, a = some ⟨ab, ao, none⟩ ∧ ∀ j, j < m → ∃ z : Nat, z < 256 ∧ w.cell? ⟨ab, ao + j, none⟩ = some (.int .u8 z)
def StrsAt (w : World) (a : Option Addr) (ts : List ByteArray) : Prop := ts = [] ∨ ∃ lb off, a = some ⟨lb, off, none⟩ ∧ Strs w lb off ts
theorem few_any (w : World) (a : Option Addr) (c : Nat) (ts : List ByteArray) (h : StrsAt w a ts) (hl : ts.length ≤ 9223372036854775807) :
    Calls Try.prog 14 #[.slice a ts.length c] w (FewPost ts w) := by
  rcases h with rfl | ⟨lb, off, rfl, h⟩
  · exact few_empty w a c
  · exact few_some w lb off c ts h hl
/-- All texts up to a place. -/
def catS (ts : List ByteArray) : Nat → ByteArray
  | 0 => ⟨#[]⟩
  | k + 1 => catS ts k ++ ts.getD k default
theorem catS_le (ts : List ByteArray) (h : ∀ i, i < ts.length → (ts.getD i default).size ≤ 2000) : ∀ k, k ≤ ts.length → (catS ts k).size ≤ 2000 * k := by
  intro k
  induction k with
  | zero => intro _; exact Nat.zero_le _
  | succ k ih =>
    intro hk
    have h1 := ih (by omega)
    have h2 := h k (by omega)
    rw [catS, ByteArray.size_append]; omega
/-- The round's head: both cutters, so far. -/
def CRel (w : World) (b q : Nat) (T : ByteArray) (N : Nat) (wr : World) : Prop := ∃ F n, n ≤ N ∧ CInv w wr b q F T n
set_option maxHeartbeats 4000000 in
set_option maxRecDepth 100000 in
theorem cuts_main (w : World) (a : Option Addr) (c : Nat) (ts : List ByteArray) (hT : StrsAt w a ts) (hl : ts.length ≤ 40) (hsm : ∀ i, i < ts.length → (ts.getD i default).size ≤ 2000) (a2 : Option Addr) (m c2 : Nat) (hA : Asks8 w a2 m) (hm : m ≤ 40)
    (hfew : ∀ w', Keeps [] w w' → Calls Try.prog 14 #[.slice a ts.length c] w' fun e w2 => e = .returned (.bool true) ∧ w' = w2) :
    Calls Try.prog 4 #[.slice a ts.length c, .slice a2 m c2] w fun e w' => e = .returned (.bool true) ∧ Keeps [] w w' := by
  have HT := Lib.hid hT; clear hT
  have HS := Lib.hid hsm; clear hsm
  have HA := Lib.hid hA; clear hA
  have HFEW := Lib.hid hfew; clear hfew
  have HCAT := Lib.hid (catS_le ts HS.out)
  have hm' : ¬ (40 : Int) < (m : Int) := by omega
  go_enter Try.func4, Try.ntmps4
  go_wp2_with fail
  refine (HFEW.out w (Keeps.refl _ _)).mono ?_; rintro e w0 ⟨rfl, rfl⟩
  go_wp2_with fail
  refine (New_any w).mono ?_; rintro e w1 ⟨rfl, hw⟩
  have hc := cat_new w
  have hk := lone_new w
  have hsz : w.heap.size < w1.heap.size := by rw [hw]; simp
  rw [← hw] at hc hk
  have hf : FSub [w.heap.size] [] w.heap.size := fun g hg => .inr (by simp at hg; omega)
  have hI : CInv w (w1.alloc (.cells #[.string ⟨#[]⟩, .int .i64 0] 39)) w.heap.size w1.heap.size [w.heap.size] ⟨#[]⟩ 0 :=
    ⟨hc.keeps ((Keeps.refl [] _).alloc _) (by simp), heap_alloc_new _ _, fun k hk => absurd hk (Nat.not_lt_zero _), hk.alloc _, hf, by omega, by simp; omega, by simp⟩
  clear hw hc hk hf
  have HI := Lib.hid hI
  clear hI
  go_wp2_with fail
  generalize w1.heap.size = q at *
  generalize hb0 : w.heap.size = b0 at *
  have HB0 := Lib.hid hb0; clear hb0
  generalize w1.alloc (.cells #[.string ⟨#[]⟩, .int .i64 0] 39) = w2 at *
  go_loopw [7] (fun i wr => ∃ k : Nat, k ≤ ts.length ∧ i = .int .i64 k ∧ CRel w b0 q (catS ts k) (4 * k) wr)
    (fun i _ => ts.length - (intOf i).toNat)
  case atStart => exact ⟨0, Nat.zero_le _, rfl, _, 0, by omega, HI.out⟩
  case round =>
    obtain ⟨k, hk, rfl, F, n, hn, hI⟩ := hrel
    clear HI
    by_cases hlt : k < ts.length
    · obtain ⟨lb, off, rfl, hst⟩ : ∃ lb off, a = some ⟨lb, off, none⟩ ∧ Strs w lb off ts := by
        rcases HT.out with h1 | h1
        · rw [h1] at hlt; simp at hlt
        · exact h1
      have ck := hI.keeps.cell (hst k hlt).1 (by simp)
      have hkw := hI.keeps
      have ht2 := HS.out k hlt
      have hts := HCAT.out k (by omega)
      have HST := Lib.hid hst; clear hst
      have HNX : Hid (catS ts (k + 1) = catS ts k ++ ts.getD k default) := Lib.hid rfl
      generalize ts.getD k default = t at *
      generalize catS ts k = T at *
      have hTl : T.data.toList.length = T.size := by simp
      have hF := Feed_any wr b0 F _ _ hI.ours t (by omega)
      clear hTl
      have HF := Lib.hid hF; clear hF
      have HI2 := Lib.hid hI; clear hI
      go_wp2_with fail
      refine HF.out.mono ?_; rintro e w3 ⟨rfl, F3, hc3, hk3, hs3⟩
      have ck3 : w3.cell? ⟨lb, off + k, none⟩ = some (.string t) := hk3.cell ck (fun hg => by
        have h1 := HI2.out.fresh _ hg
        have h2 := World.block_lt_of_cell? w _ (HST.out k hlt).1
        simp at h1 h2; omega)
      obtain ⟨r0, r1, r2, r3⟩ := (HI2.out.theirs.keeps hk3 HI2.out.qout).cells
      have HI3 := Lib.hid (HI2.out.fed hc3 hk3 hs3)
      clear HF HI2 hc3 hk3 hs3 ck hkw
      have hT8 : T.size ≤ 80000 := by omega
      go_wp2_with fail
      go_region
      have HI4 := Lib.hid HI3.out.drew
      clear r0 r1 r2 r3 ck3
      generalize (w3.setCell ⟨q, 0, none⟩ (.string (T ++ t))).drew = w4 at *
      have hT9 : (T ++ t).size ≤ 82000 := by rw [ByteArray.size_append]; omega
      clear HI3 hts
      generalize T ++ t = T1 at *
      by_cases hkm : k < m
      · obtain ⟨ab, ao, rfl, haa⟩ : ∃ ab ao, a2 = some ⟨ab, ao, none⟩ ∧ ∀ j, j < m → ∃ z : Nat, z < 256 ∧ w.cell? ⟨ab, ao + j, none⟩ = some (.int .u8 z) := by
          rcases HA.out with h1 | h1
          · omega
          · exact h1
        obtain ⟨z, hz, hzc⟩ := haa k hkm
        have hz4 := HI4.out.keeps.cell hzc (by simp)
        clear haa hzc
        go_wp2_with fail
        generalize hy : (z : Int) % 4 = y at *
        have hy1 : 0 ≤ y ∧ y ≤ 3 := by omega
        clear hy hz4
        go_loopw [9] (fun i wi => ∃ j : Nat, j ≤ 4 ∧ i = .int .i64 j ∧ CRel w b0 q T1 (4 * k + j) wi)
          (fun i _ => 4 - (intOf i).toNat)
        case atStart => exact ⟨0, by omega, rfl, _, _, by omega, HI4.out⟩
        case round =>
          obtain ⟨j, hj, rfl, F4, n4, hn4, hI4⟩ := hrel
          clear HI4
          by_cases hjy : (j : Int) < y
          · obtain ⟨p, hp⟩ : ∃ p, posOf T1.data.toList n4 = p := ⟨_, rfl⟩
            obtain ⟨tt, htt⟩ : ∃ tt, tellOf (T1.data.toList.drop p) = tt := ⟨_, rfl⟩
            obtain ⟨ps, hps⟩ : ∃ ps, bs (payOf (T1.data.toList.drop p)) = ps := ⟨_, rfl⟩
            have h5 : T1.data.toList.length ≤ 1000000 := by
              have h6 : T1.data.toList.length = T1.size := by simp
              omega
            have hN := Next_any wr b0 F4 _ _ hI4.ours h5
            have hR := fun w => rNext_any w q n4 T1 p tt ps
            rw [hp, htt, hps] at hN
            have HN := Lib.hid hN; clear hN h5
            have HP := Lib.hid hp; clear hp
            have HTT := Lib.hid htt; clear htt
            have HPS := Lib.hid hps; clear hps
            have HR := Lib.hid hR; clear hR
            have HI5 := Lib.hid hI4; clear hI4
            go_wp2_with fail
            refine HN.out.mono ?_; rintro e w5 ⟨rfl, F5, hc5, hk5, hs5⟩
            go_wp2_with fail
            refine (HR.out w5 (HI5.out.theirs.keeps hk5 HI5.out.qout) (by omega) (by omega) HP.out HTT.out HPS.out).mono ?_; rintro e w6 ⟨rfl, hr6, hk6⟩
            have hI6 := HI5.out.told (by rw [HP.out]; exact hc5) hk5 hs5 (by rw [HP.out, HTT.out]; exact hr6) hk6
            rw [HP.out, HTT.out] at hI6
            obtain ⟨n5, hn5, hn6⟩ : ∃ n5, n5 = (if tt = 1 then n4 + 1 else n4) ∧ n5 ≤ n4 + 1 := ⟨_, rfl, by split <;> omega⟩
            rw [← hn5] at hI6
            obtain ⟨r0, r1, r2, r3⟩ := hI6.theirs.cells
            have hlen : (T1.data.toList.length : Int) = (T1.size : Int) := by simp
            have hFed : ∀ m, Calls Try.prog 19 #[.pointer (some ⟨b0, 0, none⟩)] (w6.drewN m) fun e w' => e = .returned (.int .i64 T1.size) ∧ w' = w6.drewN m := fun m => by
              rw [← hlen]
              exact (Fed_any (w6.drewN m) b0 F5 _ _ (hI6.drewN m).ours).mono fun _ _ ⟨a, b⟩ => ⟨a, b.symm⟩
            have HFED := Lib.hid hFed
            have HI6 := Lib.hid hI6
            clear hFed hI6 hc5 hk5 hs5 hr6 hk6 hn5 hlen r1 r2 r3 HN HR HI5
            go_wp2_with fail
            go_quiet ((go_at_call 19; exact Calls.quiet_of_same (HFED.out _)))
            have HI7 := Lib.hid (HI6.out.drewN nq)
            clear HI6 HFED r0
            generalize w6.drewN nq = w7 at *
            go_wp2_with fail
            go_roundw
            case rel => exact ⟨j + 1, by omega, by go_num, F5, n5, by omega, HI7.out⟩
            case measure => simp [intOf]; omega
          · have HI5 := Lib.hid hI4; clear hI4
            go_wp2_with fail
            go_roundw
            case rel => exact ⟨k + 1, by omega, by go_num, F4, n4, by omega, by rw [HNX.out]; exact HI5.out⟩
            case measure => simp [intOf]; omega
      · go_wp2_with fail
        go_loopw [9] (fun i wi => ∃ j : Nat, j ≤ 4 ∧ i = .int .i64 j ∧ CRel w b0 q T1 (4 * k + j) wi)
          (fun i _ => 4 - (intOf i).toNat)
        case atStart => exact ⟨0, by omega, rfl, _, _, by omega, HI4.out⟩
        case round =>
          obtain ⟨j, hj, rfl, F4, n4, hn4, hI4⟩ := hrel
          clear HI4
          by_cases hjy : (j : Int) < 2
          · obtain ⟨p, hp⟩ : ∃ p, posOf T1.data.toList n4 = p := ⟨_, rfl⟩
            obtain ⟨tt, htt⟩ : ∃ tt, tellOf (T1.data.toList.drop p) = tt := ⟨_, rfl⟩
            obtain ⟨ps, hps⟩ : ∃ ps, bs (payOf (T1.data.toList.drop p)) = ps := ⟨_, rfl⟩
            have h5 : T1.data.toList.length ≤ 1000000 := by
              have h6 : T1.data.toList.length = T1.size := by simp
              omega
            have hN := Next_any wr b0 F4 _ _ hI4.ours h5
            have hR := fun w => rNext_any w q n4 T1 p tt ps
            rw [hp, htt, hps] at hN
            have HN := Lib.hid hN; clear hN h5
            have HP := Lib.hid hp; clear hp
            have HTT := Lib.hid htt; clear htt
            have HPS := Lib.hid hps; clear hps
            have HR := Lib.hid hR; clear hR
            have HI5 := Lib.hid hI4; clear hI4
            go_wp2_with fail
            refine HN.out.mono ?_; rintro e w5 ⟨rfl, F5, hc5, hk5, hs5⟩
            go_wp2_with fail
            refine (HR.out w5 (HI5.out.theirs.keeps hk5 HI5.out.qout) (by omega) (by omega) HP.out HTT.out HPS.out).mono ?_; rintro e w6 ⟨rfl, hr6, hk6⟩
            have hI6 := HI5.out.told (by rw [HP.out]; exact hc5) hk5 hs5 (by rw [HP.out, HTT.out]; exact hr6) hk6
            rw [HP.out, HTT.out] at hI6
            obtain ⟨n5, hn5, hn6⟩ : ∃ n5, n5 = (if tt = 1 then n4 + 1 else n4) ∧ n5 ≤ n4 + 1 := ⟨_, rfl, by split <;> omega⟩
            rw [← hn5] at hI6
            obtain ⟨r0, r1, r2, r3⟩ := hI6.theirs.cells
            have hlen : (T1.data.toList.length : Int) = (T1.size : Int) := by simp
            have hFed : ∀ m, Calls Try.prog 19 #[.pointer (some ⟨b0, 0, none⟩)] (w6.drewN m) fun e w' => e = .returned (.int .i64 T1.size) ∧ w' = w6.drewN m := fun m => by
              rw [← hlen]
              exact (Fed_any (w6.drewN m) b0 F5 _ _ (hI6.drewN m).ours).mono fun _ _ ⟨a, b⟩ => ⟨a, b.symm⟩
            have HFED := Lib.hid hFed
            have HI6 := Lib.hid hI6
            clear hFed hI6 hc5 hk5 hs5 hr6 hk6 hn5 hlen r1 r2 r3 HN HR HI5
            go_wp2_with fail
            go_quiet ((go_at_call 19; exact Calls.quiet_of_same (HFED.out _)))
            have HI7 := Lib.hid (HI6.out.drewN nq)
            clear HI6 HFED r0
            generalize w6.drewN nq = w7 at *
            go_wp2_with fail
            go_roundw
            case rel => exact ⟨j + 1, by omega, by go_num, F5, n5, by omega, HI7.out⟩
            case measure => simp [intOf]; omega
          · have HI5 := Lib.hid hI4; clear hI4
            go_wp2_with fail
            go_roundw
            case rel => exact ⟨k + 1, by omega, by go_num, F4, n4, by omega, by rw [HNX.out]; exact HI5.out⟩
            case measure => simp [intOf]; omega
    · obtain rfl : k = ts.length := by omega
      have hkp := hI.keeps
      clear hI
      go_wp2_with fail
      refine (works_true wr).mono ?_; rintro e w3 ⟨rfl, hk3⟩
      go_wp2_with fail
      go_ret
      exact ⟨rfl, hkp.step hk3 (by simp)⟩
theorem StrsAt.keeps {w w' : World} {a : Option Addr} {ts : List ByteArray} (h : StrsAt w a ts) (hk : Keeps [] w w') : StrsAt w' a ts := by
  rcases h with rfl | ⟨lb, off, rfl, h⟩
  · exact .inl rfl
  · exact .inr ⟨lb, off, rfl, fun i hi => ⟨hk.cell (h i hi).1 (by simp), (h i hi).2⟩⟩
theorem few_yes (w : World) (a : Option Addr) (c : Nat) (ts : List ByteArray) (h : StrsAt w a ts) (hl : ts.length ≤ 40) (hs : ∀ i, i < ts.length → (ts.getD i default).size ≤ 2000) :
    Calls Try.prog 14 #[.slice a ts.length c] w fun e w' => e = .returned (.bool true) ∧ w = w' :=
  (few_any w a c ts h (by omega)).mono fun e w' ⟨b, he, hb, hw⟩ => ⟨by rw [he, hb.2 ⟨hl, hs⟩], hw⟩
theorem few_no (w : World) (a : Option Addr) (c : Nat) (ts : List ByteArray) (h : StrsAt w a ts) (hl : ts.length ≤ 9223372036854775807) (hs : ¬ (ts.length ≤ 40 ∧ ∀ i, i < ts.length → (ts.getD i default).size ≤ 2000)) :
    Calls Try.prog 14 #[.slice a ts.length c] w fun e w' => e = .returned (.bool false) ∧ w = w' :=
  (few_any w a c ts h hl).mono fun e w' ⟨b, he, hb, hw⟩ => ⟨by rw [he, Bool.eq_false_iff.2 (fun x => hs (hb.1 x))], hw⟩
set_option maxHeartbeats 1000000 in
theorem cuts_true (w : World) (a : Option Addr) (c : Nat) (ts : List ByteArray) (hT : StrsAt w a ts) (hl : ts.length ≤ 9223372036854775807) (a2 : Option Addr) (m c2 : Nat) (hA : Asks8 w a2 m) (hm : m ≤ 9223372036854775807) :
    Calls Try.prog 4 #[.slice a ts.length c, .slice a2 m c2] w fun e w' => e = .returned (.bool true) ∧ Keeps [] w w' := by
  by_cases h : ts.length ≤ 40 ∧ ∀ i, i < ts.length → (ts.getD i default).size ≤ 2000
  · by_cases h2 : m ≤ 40
    · exact cuts_main w a c ts hT h.1 h.2 a2 m c2 hA h2 fun w' hk => few_yes w' a c ts (hT.keeps hk) h.1 h.2
    · have hF := few_yes w a c ts hT h.1 h.2
      have HF := Lib.hid hF
      clear hF hT hA h
      go_enter Try.func4, Try.ntmps4
      go_wp2_with fail
      refine HF.out.mono ?_; rintro e w0 ⟨rfl, rfl⟩
      go_wp2_with fail
      refine (works_true w).mono ?_; rintro e w1 ⟨rfl, hk⟩
      go_wp2
      go_ret
      exact ⟨rfl, hk⟩
  · have hF := few_no w a c ts hT hl h
    have HF := Lib.hid hF
    clear hF hT hA h
    go_enter Try.func4, Try.ntmps4
    go_wp2_with fail
    refine HF.out.mono ?_; rintro e w0 ⟨rfl, rfl⟩
    go_wp2_with fail
    refine (works_true w).mono ?_; rintro e w1 ⟨rfl, hk⟩
    go_wp2
    go_ret
    exact ⟨rfl, hk⟩
end Go.Proofs.Ytfkmgmnbkajgaaa
