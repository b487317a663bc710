/-
  FrameSpoilt: the walk.
-/
import Derived.Test.YtfkmgmnbkajgaaaFt
import Derived.IntWalk
import Derived.Deep.RegionWith
namespace Go.Proofs.Ytfkmgmnbkajgaaa
open Go.RowKit
theorem one_at (W : World) (g x : Nat) (hx : x < 256) (hc : W.cell? ⟨g, 0, none⟩ = some (.int .u8 x)) : (convert 33 9 (.slice (some ⟨g, 0, none⟩) 1 1)).run Try.prog W = .ok (.string (bs [UInt8.ofNat x])) W := by
  have e : bs [UInt8.ofNat x] = strOfNums [(x : Int)] := by
    rw [← str_nb]; congr 1; simp only [nb, List.map_cons, List.map_nil, UInt8.toNat_ofNat']; congr 1; omega
  rw [e]
  refine run_convert_bytes_arg _ _ _ Try.underlying33 Try.underlying5 g 0 1 1 [(x : Int)] (by simp) (fun i hi => ?_) _ Try.underlying9
  match i, hi with
  | 0, _ => simpa using hc
  | i + 1, hi => exact absurd hi (by omega)
set_option maxHeartbeats 1000000 in
theorem spoilt_refused (w : World) (s : ByteArray) (z y : Nat) (hy : y < 256) (hs : s.size ≤ 9223372036854775807) (h : s.size = 0 ∨ 600 < s.size ∨ y = 0) :
    Calls Try.prog 7 #[.string s, .int .u16 z, .int .u8 y] w fun e w' => e = .returned (.bool true) ∧ Keeps [] w w' := by
  by_cases h0 : s.size = 0
  · have H0 := Lib.hid h0; clear h
    go_enter Try.func7, Try.ntmps7
    go_wp2_with fail
    refine (Put_none w s H0.out).mono ?_; rintro e w1 ⟨rfl, rfl⟩
    go_wp2_with fail
    refine (works_true w).mono ?_; rintro e w1 ⟨rfl, hk⟩
    go_wp2
    go_ret
    exact ⟨rfl, hk⟩
  · by_cases h6 : 600 < s.size
    · have H6 := Lib.hid h6; clear h
      go_enter Try.func7, Try.ntmps7
      go_wp2_with fail
      refine (Put_long w s H6.out hs).mono ?_; rintro e w1 ⟨rfl, rfl⟩
      go_wp2_with fail
      refine (works_true w).mono ?_; rintro e w1 ⟨rfl, hk⟩
      go_wp2
      go_ret
      exact ⟨rfl, hk⟩
    · obtain rfl : y = 0 := by omega
      clear h
      go_enter Try.func7, Try.ntmps7
      go_wp2_with fail
      refine (Put_ok w s (by omega) (by omega)).mono ?_; rintro e w1 ⟨rfl, hk1⟩
      go_wp2_with fail
      refine (works_true w1).mono ?_; rintro e w2 ⟨rfl, hk⟩
      go_wp2
      go_ret
      exact ⟨rfl, hk1.step hk (by simp)⟩
set_option maxHeartbeats 2000000 in
set_option maxRecDepth 100000 in
theorem spoilt_cut (w : World) (s : ByteArray) (z y : Nat) (hz : z < 65536) (hy : y < 256) (hy0 : 0 < y) (h0 : 0 < s.size) (h6 : s.size ≤ 600) :
    Calls Try.prog 7 #[.string s, .int .u16 z, .int .u8 y] w fun e w' => e = .returned (.bool true) ∧ Keeps [] w w' := by
  have hl : s.data.toList.length = s.size := by simp
  obtain ⟨T, hT⟩ : ∃ T, bs (frameL s.data.toList) = T := ⟨_, rfl⟩
  have hTL : T.data.toList = frameL s.data.toList := by rw [← hT, bs_list]
  have hTS : T.size = s.size + 6 := by
    have : T.data.toList.length = T.size := by simp
    rw [← this, hTL, frameL_length, hl]
  have hT1 : 7 ≤ T.size := by omega
  have hT2 : T.size ≤ 606 := by omega
  have hb1 : ((y : Int) == 0) = false := by simp; omega
  have HT := Lib.hid hT; clear hT
  have HTL := Lib.hid hTL; clear hTL
  have HTS := Lib.hid hTS; clear hTS
  have HL := Lib.hid hl; clear hl
  go_enter Try.func7, Try.ntmps7
  go_wp2_with fail
  refine (Put_ok w s h0 h6).mono ?_; rintro e w1 ⟨rfl, hk1⟩
  rw [HT.out]
  go_wp2_with fail
  have him : (z : Int) % (T.size : Int) = ((z % T.size : Nat) : Int) := by omega
  rw [him]
  have hi : z % T.size < T.size := Nat.mod_lt _ (by omega)
  clear him
  generalize z % T.size = i at *
  have hii : (i : Int) < T.size := by omega
  obtain ⟨a, ha⟩ : ∃ a : Nat, (T[i]'hi).toNat = a := ⟨_, rfl⟩
  have ha8 : a < 256 := by rw [← ha]; exact UInt8.toNat_lt _
  have hx8 := xor8 a y ha8 hy
  have hr8 : a ^^^ y < 256 := Nat.xor_lt_two_pow (n := 8) (by omega) (by omega)
  have hrn := xor_ne a y (by omega)
  generalize a ^^^ y = r at *
  go_quiet (fail)
  have hk2 : Keeps [] w (w1.drewN nq) := hk1.drewN nq
  clear hk1 hx8
  generalize w1.drewN nq = w2 at *
  have HA := Lib.hid ha; clear ha
  go_wp2_with fail
  all_goals first
    | (refine (works_true w2).mono ?_; rintro e w3 ⟨rfl, hk3⟩
       go_wp2
       go_ret
       exact ⟨rfl, hk2.step hk3 (by simp)⟩)
    | skip
  all_goals
    have hcond : ¬ (r + a = 255 ∧ (r = 0 ∨ a = 0)) := by
      intro hh
      first
        | omega
        | (have h9 : ((a : Int) == 0) = false ∧ ((r : Int) == 0) = false := by assumption
           simp at h9; omega)
    have HCOND := Lib.hid hcond; clear hcond
    refine (New_any w2).mono ?_; rintro e w3 ⟨rfl, hw⟩
    have hc := cat_new w2
    have hk := lone_new w2
    have hsz : w2.heap.size < w3.heap.size := by rw [hw]; simp
    rw [← hw] at hc hk
    have hkw : Keeps [] w w3 := hk2.step hk (fun _ h => h)
    have hbn : w.heap.size ≤ w2.heap.size := hk2.size
    have HC := Lib.hid hc
    clear hw hc hk
    generalize hb0 : w2.heap.size = b0 at *
    have HB0 := Lib.hid hb0; clear hb0
    go_wp2_with fail
    obtain ⟨X, hX, hX1⟩ : ∃ X : ByteArray, bs [UInt8.ofNat r] = X ∧ X.size ≤ 1 := ⟨_, rfl, by rw [bs_size]; simp⟩
    have hUL : (T.extract 0 i ++ X ++ T.extract (i + 1) T.size).data.toList = (frameL s.data.toList).set i (UInt8.ofNat r) := by
      rw [app_list, app_list, piece_list, rest_list, ← hX, bs_list, HTL.out, ← set_parts _ _ _ (by rw [frameL_length, HL.out, ← HTS.out]; exact hi)]
      simp
    have hUS : (T.extract 0 i ++ X ++ T.extract (i + 1) T.size).size ≤ 1000000 := by
      simp only [ByteArray.size_append, ByteArray.size_extract]; omega
    have hFD : ∀ W, Keeps [] w3 W → Calls Try.prog 16 #[.pointer (some ⟨b0, 0, none⟩), .string (T.extract 0 i ++ X ++ T.extract (i + 1) T.size)] W fun e w' => e = .returned (.tuple #[]) ∧ ∃ F', CAt w' b0 F' ((frameL s.data.toList).set i (UInt8.ofNat r)) 0 ∧ Keeps [] w w' ∧ FSub F' [] w.heap.size := fun W hW => by
      have h := Feed_any W b0 [b0] [] 0 (HC.out.keeps hW (by simp)) (T.extract 0 i ++ X ++ T.extract (i + 1) T.size) (by simpa using hUS)
      rw [hUL] at h
      refine h.mono fun e w' ⟨he, F', h1, h2, h3⟩ => ?_
      obtain ⟨h4, h5⟩ := (hkw.step hW (fun _ h => h)).fresh (F := [b0]) (fun g hg => .inr (by simp at hg; omega)) h2 h3
      exact ⟨he, F', h1, h4, h5⟩
    have hcv : (convert 33 9 (.slice (some ⟨w3.heap.size, 0, none⟩) 1 1)).run Try.prog (w3.alloc (.cells #[.int .u8 r] 5)).drew = .ok (.string X) (w3.alloc (.cells #[.int .u8 r] 5)).drew := by
      rw [← hX]; exact one_at _ _ r hr8 (by simp)
    have HFD := Lib.hid hFD
    have hz1 : (T.extract 0 i).size ≤ 606 := by simp only [ByteArray.size_extract]; omega
    have hz2 : (T.extract (i + 1) T.size).size ≤ 606 := by simp only [ByteArray.size_extract]; omega
    generalize hAA : T.extract 0 i = AA at *
    generalize hBB : T.extract (i + 1) T.size = BB at *
    have hi0 : 0 ≤ (i : Int) := by omega
    have hi1 : (i : Int) ≤ T.size := by omega
    have hz3 : (AA ++ X).size ≤ 607 := by simp only [ByteArray.size_append]; omega
    have hw1 : IntKind.i64.wrap ((i : Int) + 1) = (i : Int) + 1 := IntWalk.i64_in _ ⟨by omega, by omega⟩
    have hv0 : 0 ≤ (i : Int) + 1 := by omega
    have hv1 : (i : Int) + 1 ≤ T.size := by omega
    have hv2 : ((i : Int) + 1).toNat = i + 1 := by omega
    clear hFD hUL hUS hX
    go_region_with (go_at_call 16; refine (HFD.out _ (by first | exact Keeps.refl _ _ | exact (Keeps.refl _ _).alloc _ | exact (Keeps.refl _ _).drew | exact ((Keeps.refl _ _).alloc _).drew | exact ((Keeps.refl _ _).drew).alloc _)).mono ?_; rintro e w' ⟨rfl, F4, hc4, hk4, hs4⟩)
  all_goals
    have HC4 := Lib.hid hc4
    have HK4 := Lib.hid hk4
    have HT4 : Hid (tellOf ((frameL s.data.toList).set i (UInt8.ofNat r)) ≠ 1) := Lib.hid (by
      have ea : ((frameL s.data.toList).getD i 0).toNat = a := by rw [← HTL.out, ← at_str2 T i hi]; exact HA.out
      have er : (UInt8.ofNat r).toNat = r := by simp only [UInt8.toNat_ofNat']; omega
      refine spoilt_not s.data.toList (by rw [HL.out]; omega) (by rw [HL.out]; omega) i _ (by rw [HL.out, ← HTS.out]; exact hi) (fun e => ?_) ?_
      · have := congrArg UInt8.toNat e
        rw [er, ea] at this
        exact hrn this
      · rw [er, ea]; exact HCOND.out)
    clear hcv hw1 hv0 hv1 hv2 hz1 hz2 hc4 hk4
    have hGl : ((frameL s.data.toList).set i (UInt8.ofNat r)).length ≤ 1000000 := by
      rw [List.length_set, frameL_length, HL.out]; omega
    generalize (frameL s.data.toList).set i (UInt8.ofNat r) = G at *
    have hN := Next_any w' b0 F4 G 0 HC4.out hGl
    have HT5 : Hid (tellOf (G.drop 0) ≠ 1) := HT4
    have htt : ((tellOf (G.drop 0) : Int) == 1) = false := by
      have := HT5.out; simp only [beq_eq_false_iff_ne, ne_eq]; omega
    have htu : ((tellOf (G.drop 0) : Int) != 1) = true := by
      rw [bne, htt]; rfl
    generalize tellOf (G.drop 0) = tt at *
    generalize payOf (G.drop 0) = pp at *
    generalize bs pp = ps at *
    have HN := Lib.hid hN; clear hN
    go_wp2_with fail
    refine HN.out.mono ?_; rintro e w5 ⟨rfl, F5, hc5, hk5, hs5⟩
    obtain ⟨hk6, _⟩ := HK4.out.fresh hs4 hk5 hs5
    clear hc5 hk5 hs5 HN
    go_wp2_with fail
    refine (works_true w5).mono ?_; rintro e w6 ⟨rfl, hk7⟩
    go_wp2
    go_ret
    exact ⟨rfl, hk6.step hk7 (by simp)⟩
end Go.Proofs.Ytfkmgmnbkajgaaa
