/-
  The program's World: take.
-/
import Derived.Test.YtbnhcggjcdipeaaGreatDoorWA00
import Derived.BigQuiet
import Derived.Deep.RegionHeld3
import Derived.Test.YtbnhcggjcdipeaaGreatDoorWA36
import Derived.Test.YtbnhcggjcdipeaaGreatDoorWA29
import Derived.Test.YtbnhcggjcdipeaaGreatDoorWA25
import Derived.Test.YtbnhcggjcdipeaaGreatDoorWA08
import Derived.Test.YtbnhcggjcdipeaaGreatDoorWA17
import Derived.Test.YtbnhcggjcdipeaaGreatDoorWA30
set_option linter.unusedSimpArgs false
set_option linter.unusedVariables false
namespace Go.Proofs.YtbnhcggjcdipeaaGreatDoor
open Go.RowKit
set_option maxRecDepth 100000
set_option maxHeartbeats 8000000
theorem results_t4 {fn : Func} {t u v x : Tmp} (h : fn.results = #[.tmp t, .tmp u, .tmp v, .tmp x]) (tmps : Array Value) (P : Program) (w : World) :
    (results fn tmps).run P w = .ok (.tuple #[tmps.getD t undef, tmps.getD u undef, tmps.getD v undef, tmps.getD x undef]) w := by
  simp [results, h]
theorem i64_wraps9 (n : Int) (h0 : 0 ≤ n) (h1 : n < 2 ^ 63) : IntKind.i64.wrap n = n := by
  simp [IntKind.wrap, IntKind.signed, IntKind.bits]; omega
theorem or64_join9 (x c : Nat) (h1 : x < 256) (h3 : c < 256) : bits .or .i64 ((x : Int) * 256) (c : Int) = (x : Int) * 256 + c :=
  bits_join .i64 63 (by decide) i64_wraps9 8 ((x : Int) * 256) c (by omega) (by omega) (by omega) (by omega) (by omega) (by omega)
/-- A part of a text. -/
theorem bs_part (b : List UInt8) (i j : Nat) : (bs b).extract i j = bs ((b.drop i).take (j - i)) := by
  apply ByteArray.ext
  rw [ByteArray.data_extract]
  show (b.toArray).extract i j = ((b.drop i).take (j - i)).toArray
  simp [List.extract_toArray, List.extract_eq_take_drop]
theorem bs_rest (b : List UInt8) (i : Nat) : (bs b).extract i b.length = bs (b.drop i) := by
  rw [bs_part, List.take_of_length_le]
  rw [List.length_drop]; exact Nat.le_refl _
theorem bs_getN (b : List UInt8) (i : Nat) (h : i < (bs b).size) : (bs b)[i] = b.getD i 0 := by
  have h2 : i < b.length := h
  rw [List.getD_eq_getElem?_getD, List.getElem?_eq_getElem h2]
  rfl
/-- What the first part of bytes says. -/
def takeV (b : List UInt8) : Value :=
  if b.length < 3 ∨ b.length < 3 + bL b then .tuple #[.int .u8 0, .string (bs []), .string (bs []), .int .i64 5]
  else .tuple #[.int .u8 (bO b), .string (bs ((b.drop 3).take (bL b))), .string (bs (b.drop (3 + bL b))), .int .i64 0]
theorem takeV_torn {b : List UInt8} (h : b.length < 3 + bL b) : takeV b = .tuple #[.int .u8 0, .string (bs []), .string (bs []), .int .i64 5] := by
  unfold takeV
  rw [if_pos (Or.inr h)]
theorem takeV_ok {b : List UInt8} (h3 : ¬ b.length < 3) (h : ¬ b.length < 3 + bL b) : takeV b = .tuple #[.int .u8 (bO b), .string (bs ((b.drop 3).take (bL b))), .string (bs (b.drop (3 + bL b))), .int .i64 0] := by
  unfold takeV
  rw [if_neg (fun h' => h'.elim h3 h)]
theorem wdTake_any (w : World) {b : List UInt8} (hb : b.length ≤ 20000) : Calls Tryz.prog 39 #[.string (bs b)] w fun e w' => e = .returned (takeV b) ∧ Keeps [] w w' := by
  obtain ⟨s, hs⟩ : ∃ s, s = bs b := ⟨_, rfl⟩
  have hz : s.size = b.length := by rw [hs]; rfl
  have HS := Lib.hid hs; have HB := Lib.hid hb; have HZ := Lib.hid hz
  rw [← hs]
  by_cases h3 : b.length < 3
  · have e : takeV b = .tuple #[.int .u8 0, .string (bs []), .string (bs []), .int .i64 5] := if_pos (.inl h3)
    rw [e]
    have t0 : (s.size : Int) < 3 := by omega
    clear e hs hz hb h3
    go_enter Tryz.func39, Tryz.ntmps39
    go_wp2_with fail
    try simp only [Exit.inBlock, Exit.then]
    refine bodyPost_ret (results_t4 rfl _ _ _) rfl ⟨rfl, Keeps.refl _ _⟩
  · have s1 : 1 < s.size := by omega
    have s2 : 2 < s.size := by omega
    have s0 : 0 < s.size := by omega
    obtain ⟨x0, hx0⟩ : ∃ x : Nat, (s[0]'(by omega)).toNat = x := ⟨_, rfl⟩
    obtain ⟨x1, hx1⟩ : ∃ x : Nat, (s[1]'(by omega)).toNat = x := ⟨_, rfl⟩
    obtain ⟨x2, hx2⟩ : ∃ x : Nat, (s[2]'(by omega)).toNat = x := ⟨_, rfl⟩
    have b1 : x1 < 256 := by rw [← hx1]; exact UInt8.toNat_lt _
    have b2 : x2 < 256 := by rw [← hx2]; exact UInt8.toNat_lt _
    have HO := Lib.hid (show bO b = x0 from by rw [← hx0]; subst hs; rw [bs_getN]; unfold bO; rfl)
    have hL : bL b = 256 * x1 + x2 := by rw [← hx1, ← hx2]; subst hs; rw [bs_getN, bs_getN]; unfold bL; rfl
    have HL := Lib.hid hL
    have t0 : ¬ (s.size : Int) < 3 := by omega
    obtain ⟨N, hN⟩ : ∃ N : Nat, N = 3 + bL b := ⟨_, rfl⟩
    have eW : wrap64 (3 + ((x1 : Int) * 256 + (x2 : Int))) = (N : Int) := by unfold wrap64; omega
    have EO := Lib.hid (or64_join9 x1 x2 b1 b2); have EW := Lib.hid eW
    have HN := Lib.hid hN
    by_cases hl : b.length < N
    · have e := takeV_torn (show b.length < 3 + bL b from by rw [← hN]; exact hl)
      rw [e]
      have T1 := Lib.hid (show (s.size : Int) < (N : Int) from Int.ofNat_lt.2 (by rw [hz]; exact hl))
      clear e hs hz hb hl hL hN eW h3 s0 hx0
      go_enter Tryz.func39, Tryz.ntmps39
      go_wp2_with fail
      go_quiet (fail)
      rw [EO.out, EW.out]
      have t1 := T1.out
      clear hx1 hx2 b1 b2 s1 s2 t0
      go_wp2_with fail
      try simp only [Exit.inBlock, Exit.then]
      refine bodyPost_ret (results_t4 rfl _ _ _) rfl ⟨rfl, (Keeps.refl _ _).drewN _⟩
    · have e := takeV_ok h3 (show ¬ b.length < 3 + bL b from by rw [← hN]; exact hl)
      rw [e, HO.out]
      have T1 := Lib.hid (show ¬ (s.size : Int) < (N : Int) from fun h => hl (by rw [← hz]; exact Int.ofNat_lt.1 h))
      have T2 := Lib.hid (show N ≤ s.size from by rw [hz]; exact Nat.le_of_not_lt hl)
      have T3 := Lib.hid (show 3 ≤ N from by rw [hN]; exact Nat.le_add_right 3 _)
      have HX0 := Lib.hid hx0
      clear hx0
      have HP := Lib.hid (show s.extract 3 N = bs ((b.drop 3).take (bL b)) from by rw [hs, bs_part, hN, Nat.add_sub_cancel_left])
      have HR := Lib.hid (show s.extract N s.size = bs (b.drop (3 + bL b)) from by rw [hz, hs, bs_rest, hN])
      rw [← HP.out, ← HR.out]
      clear e hs hz hb hl hL hN eW h3
      go_enter Tryz.func39, Tryz.ntmps39
      go_wp2_with fail
      go_quiet (fail)
      rw [EO.out, EW.out]
      have t1 := T1.out; have t2 := T2.out; have t3 := T3.out; have hx0 := HX0.out
      clear hx1 hx2 b1 b2 s1 s2 t0
      go_wp2_with fail
      go_quiet (fail)
      go_wp2_with fail
      try simp only [Exit.inBlock, Exit.then]
      refine bodyPost_ret (results_t4 rfl _ _ _) rfl ⟨rfl, ((Keeps.refl _ _).drewN _).drewN _⟩
end Go.Proofs.YtbnhcggjcdipeaaGreatDoor
/-
  The program's World: Decode.
-/
namespace Go.Proofs.YtbnhcggjcdipeaaGreatDoor
open Go.RowKit
set_option maxRecDepth 100000
set_option maxHeartbeats 8000000
variable {G : World → Prop}
theorem mdD_or14 (m : Int) (b : List UInt8) : ((mdD m b).2 = 0 ∧ ∃ S, (mdD m b).1 = some S) ∨ ((mdD m b).2 ≠ 0 ∧ (mdD m b).1 = none) := by
  unfold mdD
  repeat' split
  all_goals first
    | exact .inl ⟨rfl, _, rfl⟩
    | exact .inr ⟨by decide, rfl⟩
/-- A round of reading: its ways. -/
theorem wdD_torn {m : Int} {n : Nat} {l : List Md} {last : Int} {b : List UInt8} (hb : b ≠ []) (h : b.length < 3 ∨ b.length < 3 + bL b) : wdD m (n + 1) l last b = (none, 5) := by
  unfold wdD; rw [if_neg hb, if_pos h]
theorem wdD_form {m : Int} {n : Nat} {l : List Md} {last : Int} {b : List UInt8} (hb : b ≠ []) (h : ¬ (b.length < 3 ∨ b.length < 3 + bL b)) (h2 : 7 < bO b ∨ (bO b : Int) ≤ last) : wdD m (n + 1) l last b = (none, 4) := by
  unfold wdD; rw [if_neg hb, if_neg h, if_pos h2]
theorem wdD_bad {m : Int} {n : Nat} {l : List Md} {last : Int} {b : List UInt8} (hb : b ≠ []) (h : ¬ (b.length < 3 ∨ b.length < 3 + bL b)) (h2 : ¬ (7 < bO b ∨ (bO b : Int) ≤ last)) {er : Int} (h3 : mdD m ((b.drop 3).take (bL b)) = (none, er)) : wdD m (n + 1) l last b = (none, er) := by
  unfold wdD; rw [if_neg hb, if_neg h, if_neg h2, h3]
theorem wdD_first {m : Int} {n : Nat} {l : List Md} {last : Int} {b : List UInt8} (hb : b ≠ []) (h : ¬ (b.length < 3 ∨ b.length < 3 + bL b)) (h2 : ¬ (7 < bO b ∨ (bO b : Int) ≤ last)) {S : Md} (h3 : mdD m ((b.drop 3).take (bL b)) = (some S, 0)) (h4 : mdB S = mdB (mdInit m)) : wdD m (n + 1) l last b = (none, 4) := by
  unfold wdD; rw [if_neg hb, if_neg h, if_neg h2, h3]; simp only [if_pos h4]
theorem wdD_next {m : Int} {n : Nat} {l : List Md} {last : Int} {b : List UInt8} (hb : b ≠ []) (h : ¬ (b.length < 3 ∨ b.length < 3 + bL b)) (h2 : ¬ (7 < bO b ∨ (bO b : Int) ≤ last)) {S : Md} (h3 : mdD m ((b.drop 3).take (bL b)) = (some S, 0)) (h4 : ¬ mdB S = mdB (mdInit m)) : wdD m (n + 1) l last b = wdD m n (l.set (bO b) S) (bO b) (b.drop (3 + bL b)) := by
  conv => lhs; unfold wdD
  rw [if_neg hb, if_neg h, if_neg h2, h3]; simp only [if_neg h4]
theorem wShort_next {n : Nat} {b : List UInt8} (h : wShort (n + 1) b) (h2 : ¬ (b.length < 3 ∨ b.length < 3 + bL b)) : bL b ≤ 1000 ∧ wShort n (b.drop (3 + bL b)) := by
  rcases h with h | h | h
  · exact absurd (.inl h) h2
  · exact absurd (.inr h) h2
  · exact h
theorem wdDecode_any (R : MdProg G) (D : MdDec R) (w : World) {m : Int} (hG : G w) (hm : 0 ≤ m ∧ m < 256) {b : List UInt8} (hb : b.length ≤ 20000) (hs : wShort b.length b) : Calls Tryz.prog 18 #[.int .u8 m, .string (bs b)] w fun e w' =>
    ∃ st, e = .returned (.tuple #[st, .int .i64 (wdDec m b).2]) ∧ WoAt R w' st (wdDec m b).1 ∧ Keeps [] w w' ∧ ∀ q ∈ wFoot R st, w.heap.size ≤ q := by
  have HZ := Lib.hid (show (w.alloc (.cells wdZA 33)).heap[w.heap.size]? = some (.cells wdZ.toArray 33 (0, 0)) from heap_alloc_new w _)
  have HKZ := Lib.hid (show Keeps [] w (w.alloc (.cells wdZA 33)) from (Keeps.refl _ _).alloc _)
  have HN := Lib.hid (wdNew_any R _ (R.keepG hG HKZ.out) hm)
  have HSZ := Lib.hid (show (w.alloc (.cells wdZA 33)).heap.size = w.heap.size + 1 from Array.size_push _)
  have HGL := Lib.hid (fun w' (h : Keeps [] w w') => R.keepG hG h)
  have HM := Lib.hid hm
  obtain ⟨X1, X2, hX⟩ : ∃ X1 X2, (X1, X2) = wdDec m b := ⟨_, _, rfl⟩
  rw [← hX]
  have HX := Lib.hid hX
  have HB := Lib.hid hb; have HS := Lib.hid hs
  clear hG hX hm hb hs
  by_cases h3 : m ≤ 3
  · have H3 := Lib.hid h3
    rw [if_pos h3, show oWNew m = some (wd0 m) from if_pos h3] at HN
    clear h3
    have HXX := Lib.hid (show X1 = (wdD m b.length (wd0 m).l (-1) b).1.map (fun l => (⟨m, l⟩ : Wd)) ∧ X2 = (wdD m b.length (wd0 m).l (-1) b).2 from by
      have h := HX.out
      unfold wdDec at h
      rw [if_pos H3.out] at h
      exact ⟨congrArg Prod.fst h, congrArg Prod.snd h⟩)
    go_enter Tryz.func18, Tryz.ntmps18
    go_wp2_with fail
    refine HN.out.mono ?_; rintro e w1 ⟨st, rfl, hat, hk1, hf⟩
    obtain ⟨A, rfl, hA⟩ := hat.cells
    have HZ1 := Lib.hid (hk1.heap HZ.out (by simp)); have HK1 := Lib.hid (HKZ.out.trans hk1 (FSub.refl _ _)); have HAT := Lib.hid hat; have HA := Lib.hid hA
    have HF := Lib.hid (show ∀ q ∈ wFoot R (.agg A.toArray), w.heap.size < q ∧ q < w1.heap.size from fun q hq => ⟨by have := hf q hq; have := HSZ.out; omega, hat.old q hq⟩)
    have HC := Lib.hid (show (w1.alloc (.cells wdZA 33)).heap[w1.heap.size]? = some (.cells wdZ.toArray 33 (0, 0)) from heap_alloc_new w1 _)
    have HKC := Lib.hid (show Keeps [] w1 (w1.alloc (.cells wdZA 33)) from (Keeps.refl _ _).alloc _)
    have HBL := Lib.hid (show w.heap.size < w1.heap.size from lt_of_block HZ1.out)
    clear hA hat hk1 hf HN HZ HKZ
    go_wp2_with ((with_reducible refine wpList_putW (g := w1.heap.size) (old := wdZ) (A := A) HA.out wdZ_ok ?_ ?_ HC.out ?_); exact rfl; exact rfl)
    intro w2 hW2 hk2
    have HS2 := Lib.hid hW2
    have hk12 := HKC.out.trans' hk2 (Nat.le_refl _)
    have HZ2 := Lib.hid (hk12.heap HZ1.out (by simp)); have HK2 := Lib.hid (HK1.out.trans hk12 (FSub.refl _ _)); have HAT2 := Lib.hid (HAT.out.new hk12)
    have HF2 := Lib.hid (show ∀ q ∈ wFoot R (.agg A.toArray), w.heap.size < q ∧ q ≠ w1.heap.size from fun q hq => ⟨(HF.out q hq).1, Nat.ne_of_lt (HF.out q hq).2⟩)
    clear hW2 hk2 hk12 HC HKC HZ1 HK1 HAT HF
    obtain ⟨C, hC⟩ : ∃ C, C = w1.heap.size := ⟨_, rfl⟩
    rw [← hC] at HS2 HF2 HBL ⊢
    have HCL := Lib.hid (lt_of_block HS2.out)
    clear hC w1
    go_wp2_with fail
    go_loopw [1, 8] (fun t l wr => ∃ (n : Nat) (W : Wd) (k : Nat) (c : List UInt8) (A : List Value), t = .string (bs c) ∧ l = .int .u8 k ∧ k ≤ 8 ∧ c.length ≤ n ∧ n ≤ 20000 ∧ wShort n c ∧ W.m = m ∧ wdD m n W.l ((k : Int) - 1) c = wdD m b.length (wd0 m).l (-1) b ∧
        skW.Ok A ∧ wr.heap[C]? = some (.cells A.toArray 33 (0, 0)) ∧ wr.heap[w.heap.size]? = some (.cells wdZ.toArray 33 (0, 0)) ∧ WoAt R wr (.agg A.toArray) (some W) ∧ (∀ q ∈ wFoot R (.agg A.toArray), w.heap.size < q ∧ q ≠ C) ∧ Keeps [] w wr ∧ C < wr.heap.size) (fun t _ _ => (match t with | .string s => s.size | _ => 0))
    case atStart => exact ⟨b.length, wd0 m, 0, b, A, rfl, rfl, by omega, Nat.le_refl _, HB.out, HS.out, rfl, rfl, HA.out, HS2.out, HZ2.out, HAT2.out, HF2.out, HK2.out, HCL.out⟩
    case round =>
      clear HA HS2 HZ2 HAT2 HF2 HK2 HCL HB HS HSZ
      obtain ⟨n, W, k, c, A, rfl, rfl, hk8, hcn, hn, hsh, hWm, hD, hA, hb6, hb4, hat, hft, hkw, hcl⟩ := hrel
      have HA := Lib.hid hA; have HB6 := Lib.hid hb6; have HB4R := Lib.hid hb4; have HAT := Lib.hid hat; have HFT := Lib.hid hft; have HKW := Lib.hid hkw; have HCL := Lib.hid hcl
      have HDD := Lib.hid hD; have HSH := Lib.hid hsh; have HCN := Lib.hid hcn; have HNN := Lib.hid hn; have HWM := Lib.hid hWm; have HK8 := Lib.hid hk8
      clear hA hb6 hb4 hat hft hkw hcl hD hsh hcn hn hWm hk8
      have hXX := HXX.out
      rw [← HDD.out] at hXX
      by_cases hc0 : c = []
      · subst hc0
        rw [wdD_nil] at hXX
        have HX1 := Lib.hid (show X1 = some W from by rw [hXX.1, ← HWM.out]; rfl)
        have HX2 := Lib.hid (show X2 = 0 from hXX.2)
        have HRA := Lib.hid (block_range HB6.out)
        have t1 : (bs []).toList.isEmpty = true := by rw [toL_bs]; rfl
        clear hXX HXX HDD
        go_wp2_with (first
          | ((with_reducible refine wpList_loadW (g := C) HA.out ?_ ?_ HRA.out ?_); exact rfl; exact rfl)
          | ((with_reducible refine wpList_putW (g := w.heap.size) (old := wdZ) (A := A) HA.out wdZ_ok ?_ ?_ HB4R.out ?_); exact rfl; exact rfl))
        intro V hV hkV
        have HV := Lib.hid hV; have HKV := Lib.hid hkV
        clear hV hkV
        go_wp2_with fail
        try simp only [Exit.inBlock, Exit.then]
        exact bodyPost_ret (results_sk1 skW rfl _ _ w.heap.size HA.out rfl HV.out) rfl ⟨_, by rw [HX2.out]; rfl, by rw [HX1.out]; exact HAT.out.keep HKV.out (fun q hq => by have := (HFT.out q hq).1; simp; omega), HKW.out.trans HKV.out (fun q hq => .inr (by simp at hq; omega)), fun q hq => Nat.le_of_lt (HFT.out q hq).1⟩
      · have HC0 := Lib.hid hc0
        obtain ⟨n', rfl⟩ : ∃ n', n = n' + 1 := ⟨n - 1, by have := HCN.out; have : 0 < c.length := List.length_pos_iff.2 hc0; omega⟩
        have t1 : (bs c).toList.isEmpty = false := by
          rw [toL_bs]
          cases c with
          | nil => exact absurd rfl hc0
          | cons => rfl
        clear hc0
        go_wp2_with fail
        refine (wdTake_any wr (by have := HCN.out; have := HNN.out; omega)).mono ?_; rintro e w3 ⟨rfl, hk⟩
        have HB43 := Lib.hid (hk.heap HB4R.out (by simp)); have HB63 := Lib.hid (hk.heap HB6.out (by simp)); have HAT3 := Lib.hid (HAT.out.new hk); have HK3 := Lib.hid (HKW.out.trans hk (FSub.refl _ _))
        have HCL3 := Lib.hid (Nat.lt_of_lt_of_le HCL.out hk.size)
        clear hk HB4R HB6 HAT HKW HCL t1
        by_cases ht : c.length < 3 ∨ c.length < 3 + bL c
        · have e5 : takeV c = .tuple #[.int .u8 0, .string (bs []), .string (bs []), .int .i64 5] := by unfold takeV; rw [if_pos ht]
          rw [wdD_torn HC0.out ht] at hXX
          have HXN := Lib.hid (show X1 = none from hXX.1); have HXE := Lib.hid (show X2 = 5 from hXX.2)
          rw [e5]
          have HB4 := Lib.hid HB43.out; have HKK := Lib.hid HK3.out
          clear hXX HXX HDD ht e5
          go_wp2_with ((with_reducible refine wpList_putW (g := w.heap.size) (old := wdZ) (A := wdZ) wdZ_ok wdZ_ok ?_ ?_ HB4.out ?_); exact rfl; exact rfl)
          intro V hV hkV
          have HV := Lib.hid hV; have HKV := Lib.hid hkV
          clear hV hkV
          go_wp2_with fail
          try simp only [Exit.inBlock, Exit.then]
          exact bodyPost_ret (results_sk1 skW rfl _ _ w.heap.size wdZ_ok rfl HV.out) rfl ⟨_, by first | (rw [HXE.out]; done) | (rw [HXE.out]; rfl), by rw [HXN.out]; exact WoAt.zero R _, HKK.out.trans HKV.out (fun q hq => .inr (by simp at hq; omega)), fun q hq => by
            obtain ⟨o, v, hv, hq⟩ := wFoot_of hq
            have h := R.old (R.zero { w with heap := #[] }) q (by
              have : v = .nilIface := by
                have := List.mem_of_getElem? hv
                simpa [wdZ] using this
              rw [this] at hq; exact hq)
            simp at h⟩
        · have e5 : takeV c = .tuple #[.int .u8 (bO c), .string (bs ((c.drop 3).take (bL c))), .string (bs (c.drop (3 + bL c))), .int .i64 0] := by unfold takeV; rw [if_neg ht]
          rw [e5]
          have HTT := Lib.hid ht
          have HSN := Lib.hid (wShort_next HSH.out ht)
          have hO8 : bO c < 256 := UInt8.toNat_lt _
          clear e5
          by_cases ho : 7 < bO c ∨ (bO c : Int) ≤ (k : Int) - 1
          · rw [wdD_form HC0.out ht ho] at hXX
            have HXN := Lib.hid (show X1 = none from hXX.1); have HXE := Lib.hid (show X2 = 4 from hXX.2)
            have HB4 := Lib.hid HB43.out; have HKK := Lib.hid HK3.out
            clear hXX HXX HDD ht HSN
            generalize bO c = o at *
            generalize bs ((c.drop 3).take (bL c)) = PS at *
            generalize bs (c.drop (3 + bL c)) = RS at *
            by_cases h1 : (o : Int) < (k : Int)
            · clear ho
              go_wp2_with ((with_reducible refine wpList_putW (g := w.heap.size) (old := wdZ) (A := wdZ) wdZ_ok wdZ_ok ?_ ?_ HB4.out ?_); exact rfl; exact rfl)
              intro V hV hkV
              have HV := Lib.hid hV; have HKV := Lib.hid hkV
              clear hV hkV
              go_wp2_with fail
              try simp only [Exit.inBlock, Exit.then]
              exact bodyPost_ret (results_sk1 skW rfl _ _ w.heap.size wdZ_ok rfl HV.out) rfl ⟨_, by first | (rw [HXE.out]; done) | (rw [HXE.out]; rfl), by rw [HXN.out]; exact WoAt.zero R _, HKK.out.trans HKV.out (fun q hq => .inr (by simp at hq; omega)), fun q hq => by
                obtain ⟨o, v, hv, hq⟩ := wFoot_of hq
                have h := R.old (R.zero { w with heap := #[] }) q (by
                  have : v = .nilIface := by
                    have := List.mem_of_getElem? hv
                    simpa [wdZ] using this
                  rw [this] at hq; exact hq)
                simp at h⟩
            · have h2 : 8 ≤ (o : Int) := by omega
              clear ho
              go_wp2_with ((with_reducible refine wpList_putW (g := w.heap.size) (old := wdZ) (A := wdZ) wdZ_ok wdZ_ok ?_ ?_ HB4.out ?_); exact rfl; exact rfl)
              intro V hV hkV
              have HV := Lib.hid hV; have HKV := Lib.hid hkV
              clear hV hkV
              go_wp2_with fail
              try simp only [Exit.inBlock, Exit.then]
              exact bodyPost_ret (results_sk1 skW rfl _ _ w.heap.size wdZ_ok rfl HV.out) rfl ⟨_, by first | (rw [HXE.out]; done) | (rw [HXE.out]; rfl), by rw [HXN.out]; exact WoAt.zero R _, HKK.out.trans HKV.out (fun q hq => .inr (by simp at hq; omega)), fun q hq => by
                obtain ⟨o, v, hv, hq⟩ := wFoot_of hq
                have h := R.old (R.zero { w with heap := #[] }) q (by
                  have : v = .nilIface := by
                    have := List.mem_of_getElem? hv
                    simpa [wdZ] using this
                  rw [this] at hq; exact hq)
                simp at h⟩
          · have hor := mdD_or14 m ((c.drop 3).take (bL c))
            have hlenP : ((c.drop 3).take (bL c)).length ≤ 1000 := by rw [List.length_take]; have := HSN.out.1; omega
            have HHO := Lib.hid ho
            have h1 : ¬ (bO c : Int) < (k : Int) := by omega
            have h2 : ¬ 8 ≤ (bO c : Int) := by omega
            have HDEC := Lib.hid (fun w' (h : Keeps [] w3 w') => D.dec w' m ((c.drop 3).take (bL c)) (HGL.out _ (HK3.out.trans h (FSub.refl _ _))) HM.out hlenP)
            have hTK := fun S (h : (mdD m ((c.drop 3).take (bL c))).1 = some S) => mdD_took h
            obtain ⟨PP, hPP⟩ : ∃ PP, PP = (c.drop 3).take (bL c) := ⟨_, rfl⟩
            have HLP := Lib.hid hlenP
            rw [← hPP] at hor HDEC hTK HLP ⊢
            obtain ⟨P1, er, hPE⟩ : ∃ P1 er, mdD m PP = (P1, er) := ⟨_, _, rfl⟩
            rw [hPE] at hor HDEC hTK
            simp only at hor HDEC hTK
            rw [hPP] at hPE
            have HPE := Lib.hid hPE
            obtain ⟨RS, hRS⟩ : ∃ RS, RS = c.drop (3 + bL c) := ⟨_, rfl⟩
            have HRS := Lib.hid hRS
            rw [← hRS]
            clear ho hlenP hPE hPP hRS ht
            obtain ⟨o, ho⟩ : ∃ o, o = bO c := ⟨_, rfl⟩
            rw [← ho] at h1 h2 hO8 ⊢
            have HO := Lib.hid ho
            clear ho
            rcases hor with ⟨he, S, hS⟩ | ⟨he, hS⟩
            · subst he
              subst hS
              have hS := hTK S rfl
              have HSM := Lib.hid hS.1; have HSI := Lib.hid hS.2.1; have HSL := Lib.hid (show S.len ≤ 1000 from by have h := @mdB_long S; rw [hS.2.2.1] at h; have := HLP.out; omega)
              clear hS hTK
              go_wp2_with fail
              refine (HDEC.out _ (Keeps.refl _ _)).mono ?_; rintro e w4 ⟨st, rfl, hat, hk, hf⟩
              obtain ⟨B, rfl, hBo⟩ := R.cells hat
              obtain ⟨v, rfl⟩ : ∃ v, B = [v] := List.length_eq_one_iff.1 hBo.1
              have HVO := Lib.hid hBo; have HV1 := Lib.hid (hBo.2 v (by simp)); have HS4 := Lib.hid hat
              have HF4 := Lib.hid (show ∀ q ∈ R.foot (.agg #[v]), w3.heap.size ≤ q ∧ q < w4.heap.size from fun q hq => ⟨hf q hq, R.old hat q hq⟩)
              have HB44 := Lib.hid (hk.heap HB43.out (by simp)); have HB64 := Lib.hid (hk.heap HB63.out (by simp)); have HAT4 := Lib.hid (HAT3.out.new hk); have HK4 := Lib.hid (HK3.out.trans hk (FSub.refl _ _))
              have HCL4 := Lib.hid (Nat.lt_of_lt_of_le HCL3.out hk.size); have HSZ4 := Lib.hid hk.size
              have HC := Lib.hid (show (w4.alloc (.cells mdZA 30)).heap[w4.heap.size]? = some (.cells mdZ.toArray 30 (0, 0)) from heap_alloc_new w4 _)
              have HKC := Lib.hid (show Keeps [] w4 (w4.alloc (.cells mdZA 30)) from (Keeps.refl _ _).alloc _)
              clear hat hk hf hBo HB43 HB63 HAT3 HK3 HDEC
              go_wp2_with ((with_reducible refine wpList_putM (g := w4.heap.size) (old := mdZ) (A := [v]) HVO.out mdZ_ok ?_ ?_ HC.out ?_); exact rfl; exact rfl)
              intro w5 hW5 hk5
              have HG5 := Lib.hid hW5
              have hk := HKC.out.trans' hk5 (Nat.le_refl _)
              have HB45 := Lib.hid (hk.heap HB44.out (by simp)); have HB65 := Lib.hid (hk.heap HB64.out (by simp)); have HAT5 := Lib.hid (HAT4.out.new hk); have HK5 := Lib.hid (HK4.out.trans hk (FSub.refl _ _)); have HS5 := Lib.hid (R.new_ HS4.out hk)
              have HCL5 := Lib.hid (Nat.lt_of_lt_of_le HCL4.out hk.size)
              clear hW5 hk5 hk HC HKC HB44 HB64 HAT4 HK4 HS4
              generalize w4.heap.size = g13 at *
              have HRG := Lib.hid (block_range HG5.out)
              go_wp2_with ((with_reducible refine wpList_loadM (g := g13) (off := 0) (A := [v]) HVO.out ?_ ?_ HRG.out ?_); exact rfl; exact rfl)
              refine (R.initial _ _ _ (HGL.out _ HK5.out) HS5.out HSL.out).mono ?_; rintro e w6 ⟨rfl, hk⟩
              have HG6 := Lib.hid (hk.heap HG5.out (by simp))
              have HB46 := Lib.hid (hk.heap HB45.out (by simp)); have HB66 := Lib.hid (hk.heap HB65.out (by simp)); have HAT6 := Lib.hid (HAT5.out.new hk); have HK6 := Lib.hid (HK5.out.trans hk (FSub.refl _ _)); have HS6 := Lib.hid (R.new_ HS5.out hk)
              have HCL6 := Lib.hid (Nat.lt_of_lt_of_le HCL5.out hk.size)
              clear hk HG5 HB45 HB65 HAT5 HK5 HS5 HRG
              rw [show oInit (some S) = decide (mdB S = mdB (mdInit S.model)) from rfl, HSM.out]
              by_cases hi : mdB S = mdB (mdInit m)
              · rw [decide_eq_true hi]
                rw [wdD_first HC0.out HTT.out HHO.out HPE.out hi] at hXX
                have HXN := Lib.hid (show X1 = none from hXX.1); have HXE := Lib.hid (show X2 = 4 from hXX.2)
                have HB4 := Lib.hid HB46.out; have HKK := Lib.hid HK6.out
                clear hXX HXX HDD hi
                go_wp2_with ((with_reducible refine wpList_putW (g := w.heap.size) (old := wdZ) (A := wdZ) wdZ_ok wdZ_ok ?_ ?_ HB4.out ?_); exact rfl; exact rfl)
                intro V hV hkV
                have HV := Lib.hid hV; have HKV := Lib.hid hkV
                clear hV hkV
                go_wp2_with fail
                try simp only [Exit.inBlock, Exit.then]
                exact bodyPost_ret (results_sk1 skW rfl _ _ w.heap.size wdZ_ok rfl HV.out) rfl ⟨_, by first | (rw [HXE.out]; done) | (rw [HXE.out]; rfl), by rw [HXN.out]; exact WoAt.zero R _, HKK.out.trans HKV.out (fun q hq => .inr (by simp at hq; omega)), fun q hq => by
                  obtain ⟨o, v, hv, hq⟩ := wFoot_of hq
                  have h := R.old (R.zero { w with heap := #[] }) q (by
                    have : v = .nilIface := by
                      have := List.mem_of_getElem? hv
                      simpa [wdZ] using this
                    rw [this] at hq; exact hq)
                  simp at h⟩
              · rw [decide_eq_false hi]
                have HNXT := Lib.hid (show wdD m n' (W.l.set o S) (o : Int) RS = wdD m b.length (wd0 m).l (-1) b from by
                  rw [HO.out, HRS.out, ← wdD_next HC0.out HTT.out HHO.out HPE.out hi]; exact HDD.out)
                have HLA := Lib.hid (show o < A.length from by rw [HA.out.1]; show o < 8; omega)
                have HRG := Lib.hid (block_range HG6.out)
                have o8 : (o : Int) < 8 := by omega
                have o0 : 0 ≤ (o : Int) := by omega
                have HO8 := Lib.hid (show o < 8 from by omega)
                have ew : IntKind.u8.wrap ((o : Int) + 1) = (o : Int) + 1 := by simp [IntKind.wrap, IntKind.signed, IntKind.bits]; omega
                clear hXX hi
                go_wp2_with (first
                  | ((with_reducible refine wpList_loadM (g := g13) (off := 0) (A := [v]) HVO.out ?_ ?_ HRG.out ?_); exact rfl; exact rfl)
                  | ((with_reducible refine wpList_putO (g := C) (j := o) (v := v) (A := A) ?_ ?_ HB66.out HLA.out HV1.out ?_); exact rfl; exact rfl))
                intro w7 hW7 hk7
                have HB67 := Lib.hid (show w7.heap[C]? = some (.cells (A.set o v).toArray 33 (0, 0)) from hW7)
                have HB47 := Lib.hid (hk7.heap HB46.out (by have := HBL.out; simp; omega))
                have HFV := Lib.hid (show ∀ q ∈ R.foot (.agg #[v]), w.heap.size < q ∧ q ≠ C from fun q hq => by have h1 := HF4.out q hq; have h2 := HCL3.out; have h3 := HBL.out; omega)
                have HAT7 := Lib.hid (show WoAt R w7 (.agg (A.set o v).toArray) (some (W.put o S)) from
                  WoAt.set (HAT6.out.keep hk7 (fun q hq => by have := (HFT.out q hq).2; simpa using this)) HO8.out HV1.out (R.keep HS6.out hk7 (fun q hq => by have := (HFV.out q hq).2; simpa using this)) (by rw [HSM.out, HWM.out]))
                have HFT7 := Lib.hid (show ∀ q ∈ wFoot R (.agg (A.set o v).toArray), w.heap.size < q ∧ q ≠ C from fun q hq => by
                  obtain ⟨p, u, hu, hq2⟩ := wFoot_of hq
                  rcases List.mem_or_eq_of_mem_set (List.mem_of_getElem? hu) with h | h
                  · obtain ⟨j, hj, e⟩ := List.getElem_of_mem h
                    exact HFT.out q (wFoot_mem (o := j) (by rw [List.getElem?_eq_getElem hj, e]) q hq2)
                  · rw [h] at hq2; exact HFV.out q hq2)
                have HK7 := Lib.hid (HK6.out.trans hk7 (fun q hq => .inr (by simp at hq; have := HBL.out; omega)))
                have HCL7 := Lib.hid (Nat.lt_of_lt_of_le HCL6.out hk7.size)
                have HA7 := Lib.hid (show skW.Ok (A.set o v) from by
                  obtain ⟨B, e, h⟩ := HAT7.out.cells
                  rw [show A.set o v = B by simpa using e]; exact h)
                clear hW7 hk7 HB66 HB46 HAT6 HK6 HG6 HS6 HRG HLA
                go_wp2_with fail
                go_roundw
                case rel => exact ⟨n', W.put o S, o + 1, RS, A.set o v, rfl, by push_cast; rfl, by have := HO8.out; omega, by rw [HRS.out, List.length_drop]; have := HCN.out; have : 0 < c.length := List.length_pos_iff.2 HC0.out; omega, by have := HNN.out; omega, by rw [HRS.out]; exact HSN.out.2, HWM.out, by rw [← HNXT.out]; show wdD m n' (W.l.set o S) (((o + 1 : Nat) : Int) - 1) RS = _; congr 1; omega, HA7.out, HB67.out, HB47.out, HAT7.out, HFT7.out, HK7.out, HCL7.out⟩
                case measure =>
                  have h1 : (bs RS).size = RS.length := rfl
                  have h2 : (bs c).size = c.length := rfl
                  have h3 : RS.length < c.length := by rw [HRS.out, List.length_drop]; have : 0 < c.length := List.length_pos_iff.2 HC0.out; omega
                  simpa [h1, h2] using h3
            · subst hS
              rw [wdD_bad HC0.out HTT.out HHO.out HPE.out] at hXX
              have HXN := Lib.hid (show X1 = none from hXX.1); have HXE := Lib.hid (show X2 = er from hXX.2)
              have te : (er != 0) = true := by simpa using he
              clear hXX HXX HDD hTK he
              go_wp2_with fail
              refine (HDEC.out _ (Keeps.refl _ _)).mono ?_; rintro e w4 ⟨st, rfl, hat, hk, hf⟩
              obtain ⟨B, rfl, hBo⟩ := R.cells hat
              have HVO := Lib.hid hBo
              have HB44 := Lib.hid (hk.heap HB43.out (by simp)); have HK4 := Lib.hid (HK3.out.trans hk (FSub.refl _ _))
              have HC := Lib.hid (show (w4.alloc (.cells mdZA 30)).heap[w4.heap.size]? = some (.cells mdZ.toArray 30 (0, 0)) from heap_alloc_new w4 _)
              have HKC := Lib.hid (show Keeps [] w4 (w4.alloc (.cells mdZA 30)) from (Keeps.refl _ _).alloc _)
              clear hat hk hf hBo HB43 HB63 HAT3 HK3 HDEC
              go_wp2_with ((with_reducible refine wpList_putM (g := w4.heap.size) (old := mdZ) (A := B) HVO.out mdZ_ok ?_ ?_ HC.out ?_); exact rfl; exact rfl)
              intro w5 hW5 hk5
              have hk := HKC.out.trans' hk5 (Nat.le_refl _)
              have HB4 := Lib.hid (hk.heap HB44.out (by simp)); have HKK := Lib.hid (HK4.out.trans hk (FSub.refl _ _))
              clear hW5 hk5 hk HC HKC HB44 HK4
              generalize w4.heap.size = g13 at *
              go_wp2_with ((with_reducible refine wpList_putW (g := w.heap.size) (old := wdZ) (A := wdZ) wdZ_ok wdZ_ok ?_ ?_ HB4.out ?_); exact rfl; exact rfl)
              intro V hV hkV
              have HV := Lib.hid hV; have HKV := Lib.hid hkV
              clear hV hkV
              go_wp2_with fail
              try simp only [Exit.inBlock, Exit.then]
              exact bodyPost_ret (results_sk1 skW rfl _ _ w.heap.size wdZ_ok rfl HV.out) rfl ⟨_, by first | (rw [HXE.out]; done) | (rw [HXE.out]; rfl), by rw [HXN.out]; exact WoAt.zero R _, HKK.out.trans HKV.out (fun q hq => .inr (by simp at hq; omega)), fun q hq => by
                obtain ⟨o, v, hv, hq⟩ := wFoot_of hq
                have h := R.old (R.zero { w with heap := #[] }) q (by
                  have : v = .nilIface := by
                    have := List.mem_of_getElem? hv
                    simpa [wdZ] using this
                  rw [this] at hq; exact hq)
                simp at h⟩
  · have H3 := Lib.hid h3
    rw [if_neg h3, show oWNew m = none from if_neg h3] at HN
    clear h3
    have HXX := Lib.hid (show X1 = none ∧ X2 = 10 from by
      have h := HX.out
      unfold wdDec at h
      rw [if_neg H3.out] at h
      exact ⟨congrArg Prod.fst h, congrArg Prod.snd h⟩)
    have HXN := Lib.hid HXX.out.1; have HXE := Lib.hid HXX.out.2
    go_enter Tryz.func18, Tryz.ntmps18
    go_wp2_with fail
    refine HN.out.mono ?_; rintro e w1 ⟨st, rfl, hat, hk1, hf⟩
    obtain ⟨A, rfl, hA⟩ := hat.cells
    have HZ1 := Lib.hid (hk1.heap HZ.out (by simp)); have HK1 := Lib.hid (HKZ.out.trans hk1 (FSub.refl _ _)); have HA := Lib.hid hA
    have HC := Lib.hid (show (w1.alloc (.cells wdZA 33)).heap[w1.heap.size]? = some (.cells wdZ.toArray 33 (0, 0)) from heap_alloc_new w1 _)
    have HKC := Lib.hid (show Keeps [] w1 (w1.alloc (.cells wdZA 33)) from (Keeps.refl _ _).alloc _)
    clear hA hat hk1 hf HN HZ HKZ
    go_wp2_with ((with_reducible refine wpList_putW (g := w1.heap.size) (old := wdZ) (A := A) HA.out wdZ_ok ?_ ?_ HC.out ?_); exact rfl; exact rfl)
    intro w2 hW2 hk2
    have hk12 := HKC.out.trans' hk2 (Nat.le_refl _)
    have HB4 := Lib.hid (hk12.heap HZ1.out (by simp)); have HKK := Lib.hid (HK1.out.trans hk12 (FSub.refl _ _))
    clear hW2 hk2 hk12 HC HKC HZ1 HK1
    generalize w1.heap.size = C at *
    go_wp2_with ((with_reducible refine wpList_putW (g := w.heap.size) (old := wdZ) (A := wdZ) wdZ_ok wdZ_ok ?_ ?_ HB4.out ?_); exact rfl; exact rfl)
    intro V hV hkV
    have HV := Lib.hid hV; have HKV := Lib.hid hkV
    clear hV hkV
    go_wp2_with fail
    try simp only [Exit.inBlock, Exit.then]
    exact bodyPost_ret (results_sk1 skW rfl _ _ w.heap.size wdZ_ok rfl HV.out) rfl ⟨_, by first | (rw [HXE.out]; done) | (rw [HXE.out]; rfl), by rw [HXN.out]; exact WoAt.zero R _, HKK.out.trans HKV.out (fun q hq => .inr (by simp at hq; omega)), fun q hq => by
      obtain ⟨o, v, hv, hq⟩ := wFoot_of hq
      have h := R.old (R.zero { w with heap := #[] }) q (by
        have : v = .nilIface := by
          have := List.mem_of_getElem? hv
          simpa [wdZ] using this
        rw [this] at hq; exact hq)
      simp at h⟩
end Go.Proofs.YtbnhcggjcdipeaaGreatDoor
/-
  The law's is, works, undecoded, over any program's worlds.
-/
namespace Go.Proofs.YtbnhcggjcdipeaaGreatDoor
open Go.RowKit
set_option maxRecDepth 100000
set_option maxHeartbeats 8000000
variable {G : World → Prop}
theorem oWSame_refl {W : Wd} (h : W.In) : oWSame (some W) (some W) = true := (oWSame_eq h h).2 rfl
theorem is14_true {R : MdProg G} (V : WdProg R) (w : World) {A : List Value} {W : Wd} (hG : G w) (h : WoAt R w (.agg A.toArray) (some W)) (hu : W.upto 300) (hm : W.m = 2) :
    Calls Tryz.prog 29 #[.agg A.toArray, .string (bs (wdT W)), .string (bs (wdB W))] w fun e w' => e = .returned (.bool true) ∧ Keeps [] w w' := by
  have hWI := h.in_
  obtain ⟨A', eA, hA⟩ := h.cells
  obtain rfl : A = A' := by simpa using eA
  have hb := heap_alloc_new w (.cells A.toArray 33)
  have hk : Keeps [] w (w.alloc (.cells A.toArray 33)) := (Keeps.refl _ _).alloc _
  have hdec := wdDec_back hWI (fun S hS => Nat.le_trans (hu S hS) (by decide))
  rw [hm] at hdec
  have HDEC := Lib.hid (V.dec _ 2 (wdB W) (R.keepG hG hk) ⟨by decide, by decide⟩ (by have := wdB_len hWI hu; omega) (wShort_wd hWI hu _))
  rw [hdec] at HDEC
  have HB := Lib.hid hb; have HK := Lib.hid hk; have HA := Lib.hid hA; have HAT := Lib.hid (fun w' (hk : Keeps [] w w') => h.new hk); have HGL := Lib.hid (fun w' (h : Keeps [] w w') => R.keepG hG h)
  have HU := Lib.hid (show wUp (some W) 1000 from fun W' hW' => by obtain rfl := Option.some.inj hW'; exact fun S hS => Nat.le_trans (hu S hS) (by decide))
  have HSS := Lib.hid (oWSame_refl hWI)
  obtain ⟨TB, hTB⟩ : ∃ TB, TB = bs (wdB W) := ⟨_, rfl⟩
  obtain ⟨TT, hTT⟩ : ∃ TT, TT = bs (wdT W) := ⟨_, rfl⟩
  rw [← hTB] at HDEC ⊢
  rw [← hTT]
  have HTB := Lib.hid hTB.symm; have HTT := Lib.hid hTT.symm
  clear hTB hTT hdec hb hk hA h hG hu hm hWI eA
  go_enter Tryz.func29, Tryz.ntmps29
  go_wp2_with fail
  refine HDEC.out.mono ?_; rintro e w1 ⟨st, rfl, hat, hk1, hf⟩
  obtain ⟨B, rfl, hBo⟩ := hat.cells
  have HBO := Lib.hid hBo; have HB1 := Lib.hid (hk1.heap HB.out (by simp)); have HK1 := Lib.hid (HK.out.trans hk1 (FSub.refl _ _)); have HS1 := Lib.hid hat
  have HC := Lib.hid (show (w1.alloc (.cells wdZA 33)).heap[w1.heap.size]? = some (.cells wdZ.toArray 33 (0, 0)) from heap_alloc_new w1 _)
  have HKC := Lib.hid (show Keeps [] w1 (w1.alloc (.cells wdZA 33)) from (Keeps.refl _ _).alloc _)
  clear hBo hk1 hf hat HDEC HB HK
  go_wp2_with ((with_reducible refine wpList_putW (g := w1.heap.size) (old := wdZ) (A := B) HBO.out wdZ_ok ?_ ?_ HC.out ?_); exact rfl; exact rfl)
  intro w2 hW2 hk2
  have hk := HKC.out.trans' hk2 (Nat.le_refl _)
  have HB2 := Lib.hid (block_range (hk.heap HB1.out (by simp))); have HC2 := Lib.hid hW2; have HK2 := Lib.hid (HK1.out.trans hk (FSub.refl _ _)); have HS2 := Lib.hid (HS1.out.new hk); have HBB := Lib.hid (hk.heap HB1.out (by simp))
  clear hW2 hk2 hk HC HKC HB1 HK1 HS1
  generalize w1.heap.size = g at *
  go_wp2_with ((with_reducible refine wpList_loadW (g := w.heap.size) HA.out ?_ ?_ HB2.out ?_); exact rfl; exact rfl)
  refine (V.text w2 _ _ (HGL.out _ HK2.out) (HAT.out _ HK2.out) HU.out).mono ?_; rintro e w3 ⟨rfl, hk⟩
  rw [show oWT (some W) = wdT W from rfl, HTT.out]
  have HK3 := Lib.hid (HK2.out.trans hk (FSub.refl _ _)); have HR3 := Lib.hid (block_range (hk.heap HBB.out (by simp))); have HBB3 := Lib.hid (hk.heap HBB.out (by simp)); have HC3 := Lib.hid (hk.heap HC2.out (by simp)); have HS3 := Lib.hid (HS2.out.new hk)
  clear hk HB2 HBB HC2 HK2 HS2
  go_wp2_with ((with_reducible refine wpList_loadW (g := w.heap.size) HA.out ?_ ?_ HR3.out ?_); exact rfl; exact rfl)
  refine (V.enc w3 _ _ (HGL.out _ HK3.out) (HAT.out _ HK3.out) HU.out).mono ?_; rintro e w4 ⟨rfl, hk⟩
  rw [show oWB (some W) = wdB W from rfl, HTB.out]
  have HK4 := Lib.hid (HK3.out.trans hk (FSub.refl _ _)); have HR4 := Lib.hid (block_range (hk.heap HBB3.out (by simp))); have HRC := Lib.hid (block_range (hk.heap HC3.out (by simp))); have HS4 := Lib.hid (HS3.out.new hk)
  clear hk HR3 HBB3 HC3 HK3 HS3
  go_wp2_with (first
    | ((with_reducible refine wpList_loadW (g := w.heap.size) HA.out ?_ ?_ HR4.out ?_); exact rfl; exact rfl)
    | ((with_reducible refine wpList_loadW (g := g) HBO.out ?_ ?_ HRC.out ?_); exact rfl; exact rfl))
  refine (V.same w4 _ _ _ _ (HGL.out _ HK4.out) (HAT.out _ HK4.out) HS4.out HU.out HU.out).mono ?_; rintro e w5 ⟨rfl, hk⟩
  rw [HSS.out]
  have HK5 := Lib.hid (HK4.out.trans hk (FSub.refl _ _))
  clear hk
  go_wp2_with fail
  go_ret
  exact ⟨rfl, HK5.out⟩
/-- The worlds of the chapter's example. -/
def exA : List Cl := [⟨0, ⟨7, 6, 3, 5, 0⟩⟩]
def exB : List Cl := [⟨0, ⟨7, 2, 0, 1, 0⟩⟩]
def wdA : Wd := bhW (wd0 2) exA
def wdBB : Wd := bhW wdA exB
theorem exA_in : ∀ y ∈ exA, y.In := fun y hy => by
  simp only [exA, List.mem_cons, List.not_mem_nil, or_false] at hy; subst hy
  exact ⟨by decide, by decide, ⟨by decide, by decide, by decide, by decide, by decide, by decide, by decide, by decide, by decide, by decide⟩⟩
theorem exB_in : ∀ y ∈ exB, y.In := fun y hy => by
  simp only [exB, List.mem_cons, List.not_mem_nil, or_false] at hy; subst hy
  exact ⟨by decide, by decide, ⟨by decide, by decide, by decide, by decide, by decide, by decide, by decide, by decide, by decide, by decide⟩⟩
theorem ex0 : wdT (wd0 2) = [45] ∧ wdB (wd0 2) = [] := ⟨by decide, by decide⟩
theorem exA_li : wdA.li = [(6, .mp (kv0.set 3 (some 5)))] := by kernel_rfl
theorem exB_li : wdBB.li = [(2, .mp (kv0.set 0 (some 1))), (6, .mp (kv0.set 3 (some 5)))] := by kernel_rfl
theorem ex1 : wdT wdA = [54, 61, 123, 51, 58, 53, 125] ∧ wdB wdA = [6, 0, 3, 8, 0, 5] := by
  refine ⟨?_, by decide⟩
  have e1 : dec 3 = [51] := dec_lit (n := 3) (by decide)
  have e2 : dec 5 = [53] := dec_lit (n := 5) (by decide)
  have e3 : dec 6 = [54] := dec_lit (n := 6) (by decide)
  unfold wdT
  rw [exA_li, if_neg (by simp)]
  show dec 6 ++ 61 :: (123 :: ((dec 3 ++ 58 :: dec 5) ++ [125])) = _
  rw [e1, e2, e3]
  rfl
theorem ex2 : wdT wdBB = [50, 61, 123, 48, 58, 49, 125, 32, 54, 61, 123, 51, 58, 53, 125] ∧ wdB wdBB = [2, 0, 3, 1, 0, 1, 6, 0, 3, 8, 0, 5] := by
  refine ⟨?_, by decide⟩
  have e1 : dec 3 = [51] := dec_lit (n := 3) (by decide)
  have e2 : dec 5 = [53] := dec_lit (n := 5) (by decide)
  have e3 : dec 6 = [54] := dec_lit (n := 6) (by decide)
  have e4 : dec 2 = [50] := dec_lit (n := 2) (by decide)
  have e5 : dec 0 = [48] := dec_lit (n := 0) (by decide)
  have e6 : dec 1 = [49] := dec_lit (n := 1) (by decide)
  unfold wdT
  rw [exB_li, if_neg (by simp)]
  show (dec 2 ++ 61 :: (123 :: ((dec 0 ++ 58 :: dec 1) ++ [125]))) ++ 32 :: (dec 6 ++ 61 :: (123 :: ((dec 3 ++ 58 :: dec 5) ++ [125]))) = _
  rw [e1, e2, e3, e4, e5, e6]
  rfl
theorem exA_up : wdA.upto 1 := by
  have h := bhW_upto (W := wd0 2) exA (wd0_in (by decide) (by decide)) exA_in (wd0_upto 2 0)
  exact h
theorem exB_up : wdBB.upto 2 := by
  have h := bhW_upto (W := wdA) exB (bhW_in _ (wd0_in (by decide) (by decide)) exA_in) exB_in exA_up
  exact h
end Go.Proofs.YtbnhcggjcdipeaaGreatDoor
/-
  The law's works, over any program's worlds.
-/
namespace Go.Proofs.YtbnhcggjcdipeaaGreatDoor
open Go.RowKit
set_option maxRecDepth 100000
set_option maxHeartbeats 8000000
variable {G : World → Prop}
theorem works14_any {R : MdProg G} (V : WdProg R) (w : World) (hG : G w) : Calls Tryz.prog 9 #[] w fun e w' => e = .returned (.bool true) ∧ Keeps [] w w' := by
  have HN := Lib.hid (V.new w 2 hG ⟨by decide, by decide⟩)
  rw [if_pos (by decide), show oWNew 2 = some (wd0 2) from rfl] at HN
  have HGL := Lib.hid (fun w' (h : Keeps [] w w') => R.keepG hG h)
  clear hG
  go_enter Tryz.func9, Tryz.ntmps9
  go_wp2_with fail
  refine HN.out.mono ?_; rintro e w1 ⟨st, rfl, hat, hk1, hf⟩
  obtain ⟨A0, rfl, hAo⟩ := hat.cells
  have HAO := Lib.hid hAo; have HK1 := Lib.hid hk1; have HS1 := Lib.hid hat
  have HC := Lib.hid (show (w1.alloc (.cells wdZA 33)).heap[w1.heap.size]? = some (.cells wdZ.toArray 33 (0, 0)) from heap_alloc_new w1 _)
  have HKC := Lib.hid (show Keeps [] w1 (w1.alloc (.cells wdZA 33)) from (Keeps.refl _ _).alloc _)
  clear hAo hk1 hf hat HN
  go_wp2_with ((with_reducible refine wpList_putW (g := w1.heap.size) (old := wdZ) (A := A0) HAO.out wdZ_ok ?_ ?_ HC.out ?_); exact rfl; exact rfl)
  intro V0 hW2 hk2
  have hk := HKC.out.trans' hk2 (Nat.le_refl _)
  have HB1 := Lib.hid hW2; have HK2 := Lib.hid (HK1.out.trans hk (FSub.refl _ _)); have HAT0 := Lib.hid (HS1.out.new hk)
  clear hW2 hk2 hk HC HKC HK1 HS1
  generalize w1.heap.size = g1 at *
  have HGV := Lib.hid (fun w' (h : Keeps [] V0 w') => HGL.out w' (HK2.out.trans h (FSub.refl _ _)))
  go_wp2_with fail
  refine wp_join13 (fun qa qb zv us a => (((((a.put (some 8) (us.getD 0 undef)).put (some 9) (us.getD 1 undef)).put (some 10) (us.getD 2 undef)).put (some 11) (us.getD 3 undef)).put (some 3) (.pointer (some ⟨qa, 0, none⟩)))) (fun qa _ zv w' => Fin1 (kpW R (some wdA)) 33 (ApW R A0) V0 qa zv w') ?_ ?_
  · obtain ⟨S0, hS0⟩ : ∃ S0 : World → Prop, S0 = fun y => Keeps [] V0 y := ⟨_, rfl⟩
    have HSE := Lib.hid hS0
    have hSD : S0 V0.drew := by rw [hS0]; exact (Keeps.refl _ _).drew
    have HSA := Lib.hid (fun (w' : World) (hh : S0 w') => show w'.rangeAt g1 0 A0 from by rw [hS0] at hh; exact block_range (hh.heap HB1.out (by simp)))
    clear hS0
    refine wp_region_noPanic ?_
    refine wp_region_held_drew (S := S0) (by kernel_rfl) hSD (fun hHeld => ?_)
    refine tk 0 (y := by exact skW.yields HAO.out rfl _ rfl g1 0 rfl HSA.out) (h := ?_)
    have HY := Lib.hid ((Keeps.refl [] V0).drew)
    generalize V0.drew = YC at *
    iterate 4
      all_goals
        first
          | apply wpAnyH_ready (rs := [1, 4])
            · decide +kernel
            · simp
            refine acn ?_ (acn ?_ (AllReadyH.nil))
          | apply wpAnyH_ready (rs := [2, 4])
            · decide +kernel
            · simp
            refine acn ?_ (acn ?_ (AllReadyH.nil))
          | apply wpAnyH_ready (rs := [3, 4])
            · decide +kernel
            · simp
            refine acn ?_ (acn ?_ (AllReadyH.nil))
          | apply wpAnyH_ready (rs := [1])
            · decide +kernel
            · simp
            refine acn ?_ (AllReadyH.nil)
          | apply wpAnyH_ready (rs := [2])
            · decide +kernel
            · simp
            refine acn ?_ (AllReadyH.nil)
          | apply wpAnyH_ready (rs := [3])
            · decide +kernel
            · simp
            refine acn ?_ (AllReadyH.nil)
          | apply wpAnyH_ready (rs := [4])
            · decide +kernel
            · simp
            refine acn ?_ (AllReadyH.nil)
        all_goals
          intro K hK
          rw [if_pos (by rfl)]
          first
          | refine wp_call9 26 _ _ rfl [.int .u8 6, .int .u8 3, .int .u16 5] rfl Tryz.func26 (by kernel_rfl) (by kernel_rfl) ((put14_any _ 6 3 5).mono ?_)
            rintro e YC ⟨rfl, hk⟩
            refine ⟨_, rfl, ?_⟩
            try replace HIN := Lib.hid ((HIN.out.new hk (Nat.le_refl _)).more hk.size)
            try replace HAFT := Lib.hid (HAFT.out.new hk)
            try replace HBA := Lib.hid (hk.heap HBA.out (by simp))
            replace HY := Lib.hid (HY.out.trans hk (FSub.refl _ _))
            clear hk
            refine hK.out _ _ (by rw [HSE.out]; exact HY.out) (fun hHeld => ?_); clear hK K; try simp only [Act.put, lsA, lsZ, lsS]
          | refine rkC14.wp_build1 _ rfl (y := ⟨0, ⟨7, 6, 3, 5, 0⟩⟩) rfl (by show (6 : Nat) ≤ 10000; decide) ?_
            have hk : Keeps [] YC (YC.alloc (.cells (clC ⟨0, ⟨7, 6, 3, 5, 0⟩⟩).toArray 49)) := (Keeps.refl _ _).alloc _
            have hin := RK.lit_in rkC14 (N := YC.heap.size + 1) (L := exA) (heap_alloc_new YC (.cells (clC ⟨0, ⟨7, 6, 3, 5, 0⟩⟩).toArray 49)) (Nat.lt_succ_self _) (by decide)
            have hsz : (YC.alloc (.cells (clC ⟨0, ⟨7, 6, 3, 5, 0⟩⟩).toArray 49)).heap.size = YC.heap.size + 1 := Array.size_push _
            rw [← hsz] at hin
            try replace HIN := Lib.hid ((HIN.out.new hk (Nat.le_refl _)).more hk.size)
            try replace HAFT := Lib.hid (HAFT.out.new hk)
            try replace HBA := Lib.hid (hk.heap HBA.out (by simp))
            replace HY := Lib.hid (HY.out.trans hk (FSub.refl _ _))
            have HIN := Lib.hid hin
            clear hk hin hsz
            show K _ (YC.alloc (.cells (clC ⟨0, ⟨7, 6, 3, 5, 0⟩⟩).toArray 49))
            generalize YC.heap.size = gs at *
            generalize YC.alloc (.cells (clC ⟨0, ⟨7, 6, 3, 5, 0⟩⟩).toArray 49) = YC at *
            refine hK.out _ _ (by rw [HSE.out]; exact HY.out) (fun hHeld => ?_); clear hK K; try simp only [Act.put, lsA, lsZ, lsS]
          | refine wp_call9 23 _ _ rfl [.agg A0.toArray, .slice (some ⟨gs, 0, none⟩) 1 1] rfl Tryz.func23 (by kernel_rfl) (by kernel_rfl) ((after14_any V YC (W0 := wd0 2) (K := 0) (HGV.out _ HY.out) (HAT0.out.new HY.out) (wd0_upto 2 0) exA_in HIN.out (by decide)).mono ?_)
            rintro e YC ⟨x1, rfl, haf, hk, hfo⟩
            refine ⟨_, rfl, ?_⟩
            try have HFA := Lib.hid (show ∀ q ∈ wFoot R (.agg x1.toArray), q ≠ ga from fun q hq => by
              rcases hfo q hq with h | h
              · have h1 := HAT0.out.old q h; have h2 := HGA.out; omega
              · have := lt_of_block HBA.out; omega)
            have HFN := Lib.hid (show ∀ p : Nat → Prop, ApW R A0 p → (∀ q, V0.heap.size ≤ q → p q) → ApW R x1 p from fun p h1 h2 q hq => (hfo q hq).elim (h1 q) (fun h => h2 q (Nat.le_trans HY.out.size h)))
            try replace HIN := Lib.hid ((HIN.out.new hk (Nat.le_refl _)).more hk.size)
            try replace HAFT := Lib.hid (HAFT.out.new hk)
            try replace HBA := Lib.hid (hk.heap HBA.out (by simp))
            replace HY := Lib.hid (HY.out.trans hk (FSub.refl _ _))
            have HAFT := Lib.hid haf
            clear haf hk hfo
            refine hK.out _ _ (by rw [HSE.out]; exact HY.out) (fun hHeld => ?_); clear hK K; try simp only [Act.put, lsA, lsZ, lsS]
          | refine wp_allocW14 rfl ?_
            have hb := heap_alloc_new YC (.cells wdZ.toArray 33)
            have hk : Keeps [] YC (YC.alloc (.cells wdZ.toArray 33)) := (Keeps.refl _ _).alloc _
            have HGA := Lib.hid HY.out.size
            try have HFA := Lib.hid (fun q hq => Nat.ne_of_lt (HAFT.out.old q hq))
            try replace HIN := Lib.hid ((HIN.out.new hk (Nat.le_refl _)).more hk.size)
            try replace HAFT := Lib.hid (HAFT.out.new hk)
            try replace HBA := Lib.hid (hk.heap HBA.out (by simp))
            replace HY := Lib.hid (HY.out.trans hk (FSub.refl _ _))
            have HBA := Lib.hid hb
            clear hk hb
            generalize YC.heap.size = ga at *
            generalize YC.alloc (.cells wdZ.toArray 33) = YC at *
            refine hK.out _ _ (by rw [HSE.out]; exact HY.out) (fun hHeld => ?_); clear hK K; try simp only [Act.put, lsA, lsZ, lsS]
    all_goals
      refine rd 5 (h := fun K hK => ?_)
      refine skW.wp_put rfl (g := ga) (old := wdZ) (A := x1) (kpW_ok R _ x1 _ HAFT.out) wdZ_ok rfl rfl HBA.out (fun YC hV hk => ?_)
      replace HBA := Lib.hid hV
      replace HAFT := Lib.hid (HAFT.out.put hk HFA.out)
      replace HY := Lib.hid (HY.out.trans' hk HGA.out)
      clear hV hk
      refine hK.out _ _ (by rw [HSE.out]; exact HY.out) (fun hHeld => ?_); clear hK K; try simp only [Act.put, lsA, lsZ, lsS]
      refine wpAnyH_done (by kernel_rfl) ?_ _
      refine NoPanic.normal ?_
      exact ⟨rfl, ga, 0, .agg x1.toArray, [_, _, _, _], rfl, x1, rfl, HBA.out, HAFT.out, HY.out, HGA.out, HFN.out, HFA.out⟩
  rintro q3 - zv us YD ⟨x1, rfl, hba, hp, hky, hga, hol, hap⟩
  simp only [Act.put, lsA, lsZ, lsS]
  have HB3 := Lib.hid (show YD.heap[q3]? = some (.cells x1.toArray 33 (0, 0)) from hba); have HP3 := Lib.hid (show WoAt R YD (.agg x1.toArray) (some wdA) from hp); have HO3 := Lib.hid (kpW_ok R _ x1 _ hp)
  have HBD := Lib.hid (hky.heap HB1.out (by simp)); have HKD := Lib.hid (HK2.out.trans hky (FSub.refl _ _)); have HAD := Lib.hid (HAT0.out.new hky)
  clear hba hp hky hga hol hap HB1 HK2 HAT0 HGV
  have HGV := Lib.hid (fun w' (h : Keeps [] YD w') => HGL.out w' (HKD.out.trans h (FSub.refl _ _)))
  go_wp2_with fail
  obtain ⟨S1, hS1⟩ : ∃ S1 : World → Prop, S1 = fun y => Keeps [] YD y := ⟨_, rfl⟩
  have HSE := Lib.hid hS1
  have hSD : S1 YD.drew := by rw [hS1]; exact (Keeps.refl _ _).drew
  have HSA := Lib.hid (fun (w' : World) (hh : S1 w') => show w'.rangeAt g1 0 A0 from by rw [hS1] at hh; exact block_range (hh.heap HBD.out (by simp)))
  have HSB := Lib.hid (fun (w' : World) (hh : S1 w') => show w'.rangeAt q3 0 x1 from by rw [hS1] at hh; exact block_range (hh.heap HB3.out (by simp)))
  have HI0 := Lib.hid (fun (y : World) (hk : Keeps [] YD y) => is14_true V y (HGV.out _ hk) (HAD.out.new hk) (wd0_upto 2 300) rfl)
  have HI1 := Lib.hid (fun (y : World) (hk : Keeps [] YD y) => is14_true V y (HGV.out _ hk) (HP3.out.new hk) (fun S hS => Nat.le_trans (exA_up S hS) (by decide)) (by kernel_rfl))
  have HI2 := Lib.hid (fun (y : World) (B : List Value) (hG : G y) (h : WoAt R y (.agg B.toArray) (some wdBB)) => is14_true V y hG h (fun S hS => Nat.le_trans (exB_up S hS) (by decide)) (by kernel_rfl))
  rw [ex0.1, ex0.2] at HI0
  rw [ex1.1, ex1.2] at HI1
  rw [ex2.1, ex2.2] at HI2
  clear hS1
  refine wp_region_noPanic ?_
  refine wp_region_held_drew (S := S1) (by kernel_rfl) hSD (fun hHeld => ?_)
  refine tw 0 (h := ?_)
  refine tw 1 (h := ?_)
  refine tw 2 (h := ?_)
  refine tk 3 (y := by exact skW.yields HAO.out rfl _ rfl g1 0 rfl HSA.out) (h := ?_)
  have HY := Lib.hid ((Keeps.refl [] YD).drew)
  generalize YD.drew = YC at *
  refine rp 4 (h := fun K hK => ?_)
  refine wp_call9 29 _ _ rfl [.agg A0.toArray, .string ⟨#[45]⟩, .string ⟨#[]⟩] rfl Tryz.func29 (by kernel_rfl) (by kernel_rfl) ((HI0.out _ HY.out).mono ?_)
  rintro e y1 ⟨rfl, hk1⟩
  refine ⟨_, rfl, ?_⟩
  replace HY := Lib.hid (HY.out.trans hk1 (FSub.refl _ _)); clear hk1
  refine hK.out _ _ (by rw [HSE.out]; exact HY.out) (fun hHeld => ?_); clear hK K; try simp only [Act.put, lsA, lsZ, lsS]
  refine tw 5 (h := ?_)
  refine tw 6 (h := ?_)
  refine tk 7 (y := by exact skW.yields HO3.out rfl _ rfl q3 0 rfl HSB.out) (h := ?_)
  refine rp 8 (h := fun K hK => ?_)
  refine wp_call9 29 _ _ rfl [.agg x1.toArray, .string ⟨#[54, 61, 123, 51, 58, 53, 125]⟩, .string ⟨#[6, 0, 3, 8, 0, 5]⟩] rfl Tryz.func29 (by kernel_rfl) (by kernel_rfl) ((HI1.out _ HY.out).mono ?_)
  rintro e y2 ⟨rfl, hk1⟩
  refine ⟨_, rfl, ?_⟩
  replace HY := Lib.hid (HY.out.trans hk1 (FSub.refl _ _)); clear hk1
  refine hK.out _ _ (by rw [HSE.out]; exact HY.out) (fun hHeld => ?_); clear hK K; try simp only [Act.put, lsA, lsZ, lsS]
  refine tw 9 (h := ?_)
  refine tw 10 (h := ?_)
  refine tk 11 (y := by exact skW.yields HO3.out rfl _ rfl q3 0 rfl HSB.out) (h := ?_)
  refine rp 12 (h := fun K hK => ?_)
  refine wp_call9 26 _ _ rfl [.int .u8 2, .int .u8 0, .int .u16 1] rfl Tryz.func26 (by kernel_rfl) (by kernel_rfl) ((put14_any _ 2 0 1).mono ?_)
  rintro e y3 ⟨rfl, hk1⟩
  refine ⟨_, rfl, ?_⟩
  replace HY := Lib.hid (HY.out.trans hk1 (FSub.refl _ _)); clear hk1
  refine hK.out _ _ (by rw [HSE.out]; exact HY.out) (fun hHeld => ?_); clear hK K; try simp only [Act.put, lsA, lsZ, lsS]
  refine rp 13 (h := fun K hK => ?_)
  refine rkC14.wp_build1 _ rfl (y := ⟨0, ⟨7, 2, 0, 1, 0⟩⟩) rfl (by show (6 : Nat) ≤ 10000; decide) ?_
  have hk : Keeps [] y3 (y3.alloc (.cells (clC ⟨0, ⟨7, 2, 0, 1, 0⟩⟩).toArray 49)) := (Keeps.refl _ _).alloc _
  have hin := RK.lit_in rkC14 (N := y3.heap.size + 1) (L := exB) (heap_alloc_new y3 (.cells (clC ⟨0, ⟨7, 2, 0, 1, 0⟩⟩).toArray 49)) (Nat.lt_succ_self _) (by decide)
  have hsz : (y3.alloc (.cells (clC ⟨0, ⟨7, 2, 0, 1, 0⟩⟩).toArray 49)).heap.size = y3.heap.size + 1 := Array.size_push _
  rw [← hsz] at hin
  replace HY := Lib.hid (HY.out.trans hk (FSub.refl _ _))
  have HIN := Lib.hid hin
  clear hk hin hsz
  show K _ (y3.alloc (.cells (clC ⟨0, ⟨7, 2, 0, 1, 0⟩⟩).toArray 49))
  generalize y3.heap.size = gs at *
  generalize y3.alloc (.cells (clC ⟨0, ⟨7, 2, 0, 1, 0⟩⟩).toArray 49) = y4 at *
  refine hK.out _ _ (by rw [HSE.out]; exact HY.out) (fun hHeld => ?_); clear hK K; try simp only [Act.put, lsA, lsZ, lsS]
  refine rp 14 (h := fun K hK => ?_)
  refine wp_call9 23 _ _ rfl [.agg x1.toArray, .slice (some ⟨gs, 0, none⟩) 1 1] rfl Tryz.func23 (by kernel_rfl) (by kernel_rfl) ((after14_any V y4 (W0 := wdA) (K := 1) (HGV.out _ HY.out) (HP3.out.new HY.out) exA_up exB_in HIN.out (by decide)).mono ?_)
  rintro e y5 ⟨x2, rfl, haf, hk1, -⟩
  refine ⟨_, rfl, ?_⟩
  replace HY := Lib.hid (HY.out.trans hk1 (FSub.refl _ _)); clear hk1
  have HAF := Lib.hid haf
  clear haf HIN
  refine hK.out _ _ (by rw [HSE.out]; exact HY.out) (fun hHeld => ?_); clear hK K; try simp only [Act.put, lsA, lsZ, lsS]
  refine rp 15 (h := fun K hK => ?_)
  refine wp_call9 29 _ _ rfl [.agg x2.toArray, .string ⟨#[50, 61, 123, 48, 58, 49, 125, 32, 54, 61, 123, 51, 58, 53, 125]⟩, .string ⟨#[2, 0, 3, 1, 0, 1, 6, 0, 3, 8, 0, 5]⟩] rfl Tryz.func29 (by kernel_rfl) (by kernel_rfl) ((HI2.out _ _ (HGV.out _ HY.out) HAF.out).mono ?_)
  rintro e y6 ⟨rfl, hk1⟩
  refine ⟨_, rfl, ?_⟩
  replace HY := Lib.hid (HY.out.trans hk1 (FSub.refl _ _)); clear hk1
  refine hK.out _ _ (by rw [HSE.out]; exact HY.out) (fun hHeld => ?_); clear hK K; try simp only [Act.put, lsA, lsZ, lsS]
  refine tw 16 (h := ?_)
  refine tw 17 (h := ?_)
  refine wpAnyH_done (by kernel_rfl) ?_ _
  refine NoPanic.normal ?_
  have HKF := Lib.hid (HKD.out.trans HY.out (FSub.refl _ _))
  clear hHeld hSD HSE HSA HSB
  go_wp2_with fail
  go_ret
  exact ⟨rfl, HKF.out⟩
end Go.Proofs.YtbnhcggjcdipeaaGreatDoor
