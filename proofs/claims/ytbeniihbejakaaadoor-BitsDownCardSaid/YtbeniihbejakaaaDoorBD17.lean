/-
  The program's sets: a number's bit; math/bits.
-/
import Derived.Test.YtbeniihbejakaaaDoorBD00
import Derived.Shelf.Spec.TrailingZeros
import Derived.Test.YtbeniihbejakaaaDoorBD14
import Derived.Test.YtbeniihbejakaaaDoorBD15
import Derived.Test.YtbeniihbejakaaaDoorBD16
set_option linter.unusedSimpArgs false
set_option linter.unusedVariables false
namespace Go.Proofs.YtbeniihbejakaaaDoor
open Go.RowKit
set_option maxRecDepth 100000
set_option maxHeartbeats 4000000
/-- What the package-level variables hold. -/
structure Glob15 (w : World) : Prop where
  tab : Lib.TabIs Tryd.prog w "math/bits.deBruijn64tab" .u8 (Lib.deBruijn64tab.map fun x : Nat => (x : Int))
theorem glob15_tab : Tryd.prog.globalNamed "math/bits.deBruijn64tab" = some 0 := by kernel_rfl
theorem Glob15.new {w w' : World} (h : Glob15 w) (hk : Keeps [] w w') : Glob15 w' := ⟨var_keeps glob15_tab h.tab hk (by simp)⟩
theorem tmod64 (n : Nat) : (n : Int).tmod 64 = ((n % 64 : Nat) : Int) := by rw [Int.tmod_eq_emod_of_nonneg (by omega)]; omega
theorem tdiv64 (n : Nat) : (n : Int).tdiv 64 = ((n / 64 : Nat) : Int) := by rw [Int.tdiv_eq_ediv_of_nonneg (by omega)]; omega
theorem wrap_bit {k : Nat} (hk : k < 64) : IntKind.u64.wrap (2 ^ k) = ((2 ^ k : Nat) : Int) := by
  have h := pow_lt64 hk
  have e : (2 : Int) ^ k = ((2 ^ k : Nat) : Int) := by rw [Int.natCast_pow]; rfl
  rw [e, IntKind.wrap_u64]
  exact Int.emod_eq_of_lt (Int.natCast_nonneg _) (show ((2 ^ k : Nat) : Int) < ((18446744073709551616 : Nat) : Int) from Int.ofNat_lt.2 h)
theorem btBit_any (w : World) (n : Nat) : Calls Tryd.prog 35 #[.int .i64 (n : Int)] w fun e w' => e = .returned (.int .u64 ((2 ^ (n % 64) : Nat) : Int)) ∧ Keeps [] w w' := by
  have hm := tmod64 n
  have hs := fun w => shl_bit (Nat.mod_lt n (by decide : 0 < 64)) w
  have hw := wrap_bit (Nat.mod_lt n (by decide : 0 < 64))
  go_enter Tryd.func35, Tryd.ntmps35
  go_wp2_with fail
  go_ret
  exact ⟨by rw [hw]; rfl, Keeps.refl _ _⟩
theorem btIsNumber_any (w : World) (n : Int) : Calls Tryd.prog 39 #[.int .i64 n] w fun e w' => e = .returned (.bool (decide (0 ≤ n ∧ n ≤ 65535))) ∧ Keeps [] w w' := by
  go_enter Tryd.func39, Tryd.ntmps39
  go_wp2_with fail
  all_goals (try go_ret)
  all_goals refine ⟨?_, Keeps.refl _ _⟩
  all_goals simp_all
  all_goals omega
theorem tz64_zero (w : World) : Calls Tryd.prog 36 #[.int .u64 0] w fun e w' => e = .returned (.int .i64 64) ∧ Keeps [] w w' := by
  go_enter Tryd.func36, Tryd.ntmps36
  go_wp2_with fail
  go_ret
  exact ⟨rfl, Keeps.refl _ _⟩
theorem tz64_core (w : World) (x k idx : Nat) (hx0 : ((x : Int) == 0) = false) (key : IntKind.u64.wrap (bits BinOp.and IntKind.u64 (x : Int) (IntKind.u64.wrap (-(x : Int))) * 285870213051353865) / 288230376151711744 = (idx : Int))
    (hi : idx < 64) (hk : k < 64) (hcell : w.cell? ⟨0, idx, none⟩ = some (.int .u8 (k : Int))) : Calls Tryd.prog 36 #[.int .u64 (x : Int)] w fun e w' => e = .returned (.int .i64 (k : Int)) ∧ Keeps [] w w' := by
  go_enter Tryd.func36, Tryd.ntmps36
  go_wp2_with (simp only [key])
  go_ret
  exact ⟨rfl, Keeps.refl _ _⟩
theorem tz64_any {w : World} (HG : Glob15 w) {x : Nat} (hx : x < 18446744073709551616) : Calls Tryd.prog 36 #[.int .u64 (x : Int)] w fun e w' => e = .returned (.int .i64 (Lib.ctz 64 x : Nat)) ∧ Keeps [] w w' := by
  by_cases h0 : x = 0
  · subst h0
    exact tz64_zero w
  · obtain ⟨hlow, hk⟩ := Lib.lowest_bit 64 x h0 (by rw [two64]; exact hx)
    obtain ⟨hi, htab⟩ := Lib.deBruijn64_at _ hk
    have hcell := HG.tab.cell glob15_tab _ (by rw [List.length_map]; exact hi)
    have e0 : ∀ i, (Lib.deBruijn64tab.map fun x : Nat => (x : Int)).getD i 0 = ((Lib.deBruijn64tab.getD i 0 : Nat) : Int) := fun i => by
      simp only [List.getD_eq_getElem?_getD, List.getElem?_map]
      cases Lib.deBruijn64tab[i]? <;> rfl
    rw [e0, htab] at hcell
    exact tz64_core w x _ _ (by simp; omega) (tz64_key x _ hx h0 hlow) hi hk hcell
theorem len64_any (w : World) {x : Nat} (hx : x < 18446744073709551616) : Calls Tryd.prog 49 #[.int .u64 (x : Int)] w fun e w' => e = .returned (.int .i64 (Lib.bitLen x : Nat)) ∧ Keeps [] w w' := by
  refine (Tryd.bits_Len64 (x : Int) w (by omega) (by omega)).mono ?_
  rintro e w' ⟨rfl, rfl⟩
  exact ⟨by rw [Int.toNat_natCast], Keeps.refl _ _⟩
end Go.Proofs.YtbeniihbejakaaaDoor
/-
  The program's sets: OnesCount64.
-/
namespace Go.Proofs.YtbeniihbejakaaaDoor
open Go.RowKit
set_option maxRecDepth 100000
set_option maxHeartbeats 4000000
theorem and_i127 (y : Nat) (h : y < 9223372036854775808) : bits .and .i64 (y : Int) 127 = ((y % 128 : Nat) : Int) := by
  have h1 : (BitVec.ofInt 64 (y : Int)).toNat = y := by
    rw [BitVec.ofInt_natCast, BitVec.toNat_ofNat]; exact Nat.mod_eq_of_lt (by omega)
  show IntKind.i64.wrap ((BitVec.ofInt 64 (y : Int) &&& BitVec.ofInt 64 127).toNat : Int) = _
  rw [BitVec.toNat_and, h1, show (BitVec.ofInt 64 127).toNat = 2 ^ 7 - 1 by decide, Nat.and_two_pow_sub_one_eq_mod, show 2 ^ 7 = 128 by decide]
  simp [IntKind.wrap, IntKind.signed, IntKind.bits]
  omega
theorem sum8 {p0 p1 p2 p3 p4 p5 p6 p7 y : Nat} (h0 : p0 ≤ 8) (h1 : p1 ≤ 8) (h2 : p2 ≤ 8) (h3 : p3 ≤ 8) (h4 : p4 ≤ 8) (h5 : p5 ≤ 8) (h6 : p6 ≤ 8) (h7 : p7 ≤ 8) (e : y = p0 + 256 * (p1 + 256 * (p2 + 256 * (p3 + 256 * (p4 + 256 * (p5 + 256 * (p6 + 256 * p7))))))) :
    y + y / 256 < 9223372036854775808 ∧ (y + y / 256) + (y + y / 256) / 65536 < 9223372036854775808 ∧ ((y + y / 256) + (y + y / 256) / 65536) + ((y + y / 256) + (y + y / 256) / 65536) / 4294967296 < 9223372036854775808 ∧
    (((y + y / 256) + (y + y / 256) / 65536) + ((y + y / 256) + (y + y / 256) / 65536) / 4294967296) % 128 = p0 + p1 + p2 + p3 + p4 + p5 + p6 + p7 := by
  have d1 : y / 256 = p1 + 256 * (p2 + 256 * (p3 + 256 * (p4 + 256 * (p5 + 256 * (p6 + 256 * p7))))) := by
    rw [e, Nat.add_mul_div_left _ _ (by decide), Nat.div_eq_of_lt (by omega), Nat.zero_add]
  have e4 : y + y / 256 = (p0 + p1 + 256 * (p1 + p2)) + 65536 * ((p2 + p3) + 256 * ((p3 + p4) + 256 * ((p4 + p5) + 256 * ((p5 + p6) + 256 * ((p6 + p7) + 256 * p7))))) := by
    rw [d1, e]; clear d1 e h0 h1 h2 h3 h4 h5 h6 h7; omega
  have d2 : (y + y / 256) / 65536 = (p2 + p3) + 256 * ((p3 + p4) + 256 * ((p4 + p5) + 256 * ((p5 + p6) + 256 * ((p6 + p7) + 256 * p7)))) := by
    rw [e4, Nat.add_mul_div_left _ _ (by decide), Nat.div_eq_of_lt (by omega), Nat.zero_add]
  have e5 : (y + y / 256) + (y + y / 256) / 65536 = (p0 + p1 + p2 + p3 + 256 * (p1 + p2 + p3 + p4) + 65536 * (p2 + p3 + p4 + p5) + 16777216 * (p3 + p4 + p5 + p6)) + 4294967296 * ((p4 + p5 + p6 + p7) + 256 * ((p5 + p6 + p7) + 256 * ((p6 + p7) + 256 * p7))) := by
    rw [d2, e4]; clear d1 d2 e4 e h0 h1 h2 h3 h4 h5 h6 h7; omega
  have d3 : ((y + y / 256) + (y + y / 256) / 65536) / 4294967296 = (p4 + p5 + p6 + p7) + 256 * ((p5 + p6 + p7) + 256 * ((p6 + p7) + 256 * p7)) := by
    rw [e5, Nat.add_mul_div_left _ _ (by decide), Nat.div_eq_of_lt (by clear d1 d2 e4 e5 e; omega), Nat.zero_add]
  have e6 : ((y + y / 256) + (y + y / 256) / 65536) + ((y + y / 256) + (y + y / 256) / 65536) / 4294967296 = (p0 + p1 + p2 + p3 + p4 + p5 + p6 + p7) + 128 * (2 * ((p1 + p2 + p3 + p4 + p5 + p6 + p7) + 256 * ((p2 + p3 + p4 + p5 + p6 + p7) + 256 * ((p3 + p4 + p5 + p6 + p7) + 256 * ((p4 + p5 + p6 + p7) + 256 * ((p5 + p6 + p7) + 256 * ((p6 + p7) + 256 * p7))))))) := by
    rw [d3, e5]; clear d1 d2 d3 e4 e5 e h0 h1 h2 h3 h4 h5 h6 h7; omega
  refine ⟨by rw [e4]; clear d1 d2 d3 e4 e5 e6 e; omega, by rw [e5]; clear d1 d2 d3 e4 e5 e6 e; omega, by rw [e6]; clear d1 d2 d3 e4 e5 e6 e; omega, ?_⟩
  rw [e6, Nat.add_mul_mod_self_left, Nat.mod_eq_of_lt (by clear d1 d2 d3 e4 e5 e6 e; omega)]
theorem ones64_any (w : World) {x : Nat} (hx : x < 18446744073709551616) : Calls Tryd.prog 47 #[.int .u64 (x : Int)] w fun e w' => e = .returned (.int .i64 (onesN x : Nat)) ∧ Keeps [] w w' := by
  obtain ⟨p0, p1, p2, p3, p4, p5, p6, p7, h0, h1, h2, h3, h4, h5, h6, h7, l1, l2, e3, eo⟩ := ones_swar hx
  have q1 : IntKind.u64.wrap (bits BinOp.and IntKind.u64 ((x : Int) / 2) 6148914691236517205 + bits BinOp.and IntKind.u64 (x : Int) 6148914691236517205) = ((sw1 x : Nat) : Int) := by
    have a1 := bits_and_u64_nat (x / 2) 6148914691236517205 (by omega) (by decide)
    have a2 := bits_and_u64_nat x 6148914691236517205 hx (by decide)
    rw [show ((x / 2 : Nat) : Int) = (x : Int) / 2 by omega] at a1
    rw [show ((6148914691236517205 : Nat) : Int) = 6148914691236517205 from rfl] at a1 a2
    rw [a1, a2, IntKind.wrap_u64]
    unfold sw1 at l1 ⊢
    omega
  generalize sw1 x = y1 at *
  have q2 : IntKind.u64.wrap (bits BinOp.and IntKind.u64 ((y1 : Int) / 4) 3689348814741910323 + bits BinOp.and IntKind.u64 (y1 : Int) 3689348814741910323) = ((sw2 y1 : Nat) : Int) := by
    have a1 := bits_and_u64_nat (y1 / 4) 3689348814741910323 (by omega) (by decide)
    have a2 := bits_and_u64_nat y1 3689348814741910323 l1 (by decide)
    rw [show ((y1 / 4 : Nat) : Int) = (y1 : Int) / 4 by omega] at a1
    rw [show ((3689348814741910323 : Nat) : Int) = 3689348814741910323 from rfl] at a1 a2
    rw [a1, a2, IntKind.wrap_u64]
    unfold sw2 at l2 ⊢
    omega
  generalize sw2 y1 = y2 at *
  have q3 : bits BinOp.and IntKind.u64 (IntKind.u64.wrap ((y2 : Int) / 16 + (y2 : Int))) 1085102592571150095 = ((sw3 y2 : Nat) : Int) := by
    have a1 := bits_and_u64_nat (y2 / 16 + y2) 1085102592571150095 (by omega) (by decide)
    rw [IntKind.wrap_u64, show ((y2 : Int) / 16 + (y2 : Int)) % 18446744073709551616 = ((y2 / 16 + y2 : Nat) : Int) by omega]
    exact a1
  generalize sw3 y2 = y3 at *
  have q4 : IntKind.u64.wrap ((y3 : Int) + (y3 : Int) / 256) = ((y3 + y3 / 256 : Nat) : Int) := by
    have := (sum8 h0 h1 h2 h3 h4 h5 h6 h7 e3).1
    rw [IntKind.wrap_u64]; omega
  have q5 : IntKind.u64.wrap (((y3 + y3 / 256 : Nat) : Int) + ((y3 + y3 / 256 : Nat) : Int) / 65536) = (((y3 + y3 / 256) + (y3 + y3 / 256) / 65536 : Nat) : Int) := by
    have := (sum8 h0 h1 h2 h3 h4 h5 h6 h7 e3).2.1
    generalize y3 + y3 / 256 = y4 at *
    rw [IntKind.wrap_u64]; omega
  obtain ⟨l6, q9⟩ := (sum8 h0 h1 h2 h3 h4 h5 h6 h7 e3).2.2
  rw [← eo] at q9
  generalize y3 + y3 / 256 = y4 at *
  generalize y4 + y4 / 65536 = y5 at *
  have q6 : IntKind.u64.wrap ((y5 : Int) + (y5 : Int) / 4294967296) = ((y5 + y5 / 4294967296 : Nat) : Int) := by rw [IntKind.wrap_u64]; omega
  generalize y5 + y5 / 4294967296 = y6 at *
  have q7 : IntKind.i64.wrap (y6 : Int) = (y6 : Int) := by simp [IntKind.wrap, IntKind.signed, IntKind.bits]; omega
  have q8 := and_i127 y6 l6
  rw [q9] at q8
  clear eo e3 h0 h1 h2 h3 h4 h5 h6 h7 l1 l2 q9
  go_enter Tryd.func47, Tryd.ntmps47
  go_wp2_with fail
  go_ret
  exact ⟨rfl, Keeps.refl _ _⟩
end Go.Proofs.YtbeniihbejakaaaDoor
/-
  The program's sets: Has.
-/
namespace Go.Proofs.YtbeniihbejakaaaDoor
open Go.RowKit
set_option maxRecDepth 100000
set_option maxHeartbeats 4000000
section
variable {ops : Array Oper} {S : World → Prop} {o : Oper} {a : Act}
theorem yields_indexW (hw : Region.wanted o (yielded ops a.tmps) = true) (x y : Operand) (ho : o.op = .indexAddr 25 x y) (g of n c k : Nat) (hx : a.eval x = .slice (some ⟨g, of, none⟩) n c) (hy : a.eval y = .int .i64 k) (hk : k < n) :
    YieldsIf Tryd.prog ops S o (.pointer (some ⟨g, of + k, none⟩)) a :=
  Or.inl ⟨hw, by
    have hk2 : (k : Int) < n := by omega
    intro w _
    unfold execOp
    simp only [ho, hx, hy]
    go_simp⟩
end
theorem and_has (W : List Nat) (n : Nat) : (((W.getD (n / 64) 0 &&& 2 ^ (n % 64) : Nat) : Int) != 0) = wBit W n := by
  rw [and_bit]
  show _ = (W.getD (n / 64) 0).testBit (n % 64)
  have hp := Nat.two_pow_pos (n % 64)
  cases (W.getD (n / 64) 0).testBit (n % 64) with
  | true => simp only [if_pos]; show (((2 ^ (n % 64) : Nat) : Int) != 0) = true; rw [bne_iff_ne]; omega
  | false => rfl
theorem setBlock (w : World) (v : Value) : (w.alloc (.cells #[v] 27)).cell? ⟨w.heap.size, 0, none⟩ = some v := cell_lit (heap_alloc_new w _) 0 rfl
theorem btHas_any (w : World) (st : Value) (S : List Int) (n : Int) (h : BtAt w st S) (h64 : I64 n) : Calls Tryd.prog 11 #[st, .int .i64 n] w fun e w' => e = .returned (.bool (decide (n ∈ S))) ∧ Keeps [] w w' := by
  obtain ⟨v, W, rfl, hI, ho, hW, -⟩ := h
  obtain ⟨a, c, rfl, hc, hm, -⟩ := id hI
  have HI := Lib.hid hI; have HW := Lib.hid hW
  have HKA := Lib.hid (show Keeps [] w (w.alloc (.cells #[.slice a W.length c] 27)) from (Keeps.refl _ _).alloc _)
  obtain ⟨S0, hS0⟩ : ∃ S0 : World → Prop, S0 = fun y => Keeps [] (w.alloc (.cells #[.slice a W.length c] 27)) y := ⟨_, rfl⟩
  have HSE := Lib.hid hS0
  have hSD : S0 (w.alloc (.cells #[.slice a W.length c] 27)).drew := by rw [hS0]; exact (Keeps.refl _ _).drew
  have HA := Lib.hid (fun (w' : World) (hh : S0 w') => show w'.cell? ⟨w.heap.size, 0, none⟩ = some (.slice a W.length c) from by rw [hS0] at hh; exact hh.cell (setBlock w _) (by simp))
  clear hI hW ho hS0
  by_cases hneg : n < 0
  case pos =>
    have t0 : decide (0 ≤ n) = false := decide_eq_false (by omega)
    have HR := Lib.hid (show decide (n ∈ S) = false from decide_eq_false fun hS => by have := ((HW.out.any n).1 hS).1; omega)
    go_enter Tryd.func11, Tryd.ntmps11
    go_wp2_with fail
    refine wp_region_noPanic ?_
    refine wp_region_held_drew (S := S0) (by kernel_rfl) hSD (fun hHeld => ?_)
    have HY := Lib.hid ((Keeps.refl [] (w.alloc (.cells #[.slice a W.length c] 27))).drew)
    generalize (w.alloc (.cells #[.slice a W.length c] 27)).drew = YC at *
    refine tw 0 (h := ?_)
    refine tw 1 (h := ?_)
    refine tw 2 (h := ?_)
    refine tk 3 (y := by exact Or.inr ⟨by rfl, rfl⟩) (h := ?_)
    refine tk 4 (y := by exact Or.inr ⟨by rfl, rfl⟩) (h := ?_)
    refine tk 5 (y := by exact Or.inr ⟨by rfl, rfl⟩) (h := ?_)
    refine tk 6 (y := by exact Or.inr ⟨by rfl, rfl⟩) (h := ?_)
    refine tk 7 (y := by exact Or.inr ⟨by rfl, rfl⟩) (h := ?_)
    refine tk 8 (y := by exact Or.inr ⟨by rfl, rfl⟩) (h := ?_)
    refine tw 9 (h := ?_)
    refine tw 10 (h := ?_)
    refine tk 11 (y := by exact Or.inr ⟨by rfl, rfl⟩) (h := ?_)
    refine tk 12 (y := by exact Or.inr ⟨by rfl, rfl⟩) (h := ?_)
    refine tk 13 (y := by exact Or.inr ⟨by rfl, rfl⟩) (h := ?_)
    refine tk 14 (y := by exact Or.inr ⟨by rfl, rfl⟩) (h := ?_)
    refine tk 15 (y := by exact Or.inr ⟨by rfl, rfl⟩) (h := ?_)
    refine tk 16 (y := by exact Or.inr ⟨by rfl, rfl⟩) (h := ?_)
    refine tk 17 (y := by exact Or.inr ⟨by rfl, rfl⟩) (h := ?_)
    refine rd 18 (h := fun K hK => ?_)
    rw [if_neg (Bool.eq_false_iff.1 (by rfl))]
    refine hK.out _ _ (by rw [HSE.out]; exact HY.out) (fun hHeld => ?_); clear hK K; try simp only [Act.put, lsA, lsZ, lsS]
    refine tk 19 (y := by exact Or.inr ⟨by rfl, rfl⟩) (h := ?_)
    refine tk 20 (y := by exact Or.inr ⟨by rfl, rfl⟩) (h := ?_)
    refine tw 21 (h := ?_)
    refine tw 22 (h := ?_)
    refine wpAnyH_done (by kernel_rfl) ?_ _
    refine NoPanic.normal ?_
    go_wp2_with fail
    go_ret
    exact ⟨by rw [HR.out]; rfl, HKA.out.trans HY.out (FSub.refl _ _)⟩
  obtain ⟨N, rfl⟩ : ∃ N : Nat, n = (N : Int) := ⟨n.toNat, by omega⟩
  clear hneg
  have t0 : 0 ≤ (N : Int) := by omega
  have hdv := tdiv64 N
  have h64n := h64.2
  clear h64
  obtain ⟨q, hq⟩ : ∃ q, q = N / 64 := ⟨_, rfl⟩
  rw [← hq] at hdv
  have hwq : IntKind.i64.wrap (q : Int) = (q : Int) := IntWalk.i64_in _ ⟨by omega, by omega⟩
  by_cases hlt : q < W.length
  case neg =>
    have t1 : decide (q < W.length) = false := decide_eq_false hlt
    have HR := Lib.hid (show decide ((N : Int) ∈ S) = false from decide_eq_false fun hS => by have := wBit_lt ((HW.out.tell N).1 hS); omega)
    clear hlt hq
    go_enter Tryd.func11, Tryd.ntmps11
    go_wp2_with fail
    refine wp_region_noPanic ?_
    refine wp_region_held_drew (S := S0) (by kernel_rfl) hSD (fun hHeld => ?_)
    have HY := Lib.hid ((Keeps.refl [] (w.alloc (.cells #[.slice a W.length c] 27))).drew)
    generalize (w.alloc (.cells #[.slice a W.length c] 27)).drew = YC at *
    refine tw 0 (h := ?_)
    refine tw 1 (h := ?_)
    refine tw 2 (h := ?_)
    refine tw 3 (h := ?_)
    refine tw 4 (h := ?_)
    refine tw 5 (h := ?_)
    refine tk 6 (y := by exact Or.inl ⟨by rfl, by intro w hSw; have q0 := HA.out w hSw; go_simp; try with_reducible rfl⟩) (h := ?_)
    refine tw 7 (h := ?_)
    refine tw 8 (h := ?_)
    refine tw 9 (h := ?_)
    refine tw 10 (h := ?_)
    refine tk 11 (y := by exact Or.inr ⟨by rfl, rfl⟩) (h := ?_)
    refine tk 12 (y := by exact Or.inr ⟨by rfl, rfl⟩) (h := ?_)
    refine tk 13 (y := by exact Or.inr ⟨by rfl, rfl⟩) (h := ?_)
    refine tk 14 (y := by exact Or.inr ⟨by rfl, rfl⟩) (h := ?_)
    refine tk 15 (y := by exact Or.inr ⟨by rfl, rfl⟩) (h := ?_)
    refine tk 16 (y := by exact Or.inr ⟨by rfl, rfl⟩) (h := ?_)
    refine tk 17 (y := by exact Or.inr ⟨by rfl, rfl⟩) (h := ?_)
    refine rd 18 (h := fun K hK => ?_)
    rw [if_neg (Bool.eq_false_iff.1 (by rfl))]
    refine hK.out _ _ (by rw [HSE.out]; exact HY.out) (fun hHeld => ?_); clear hK K; try simp only [Act.put, lsA, lsZ, lsS]
    refine tk 19 (y := by exact Or.inr ⟨by rfl, rfl⟩) (h := ?_)
    refine tk 20 (y := by exact Or.inr ⟨by rfl, rfl⟩) (h := ?_)
    refine tw 21 (h := ?_)
    refine tw 22 (h := ?_)
    refine wpAnyH_done (by kernel_rfl) ?_ _
    refine NoPanic.normal ?_
    go_wp2_with fail
    go_ret
    exact ⟨by rw [HR.out]; rfl, HKA.out.trans HY.out (FSub.refl _ _)⟩
  obtain ⟨bk, o, rfl, hbk, hcw⟩ := InW_getD HI.out hlt
  have HC := Lib.hid (fun (w' : World) (hh : S0 w') => show w'.cell? ⟨bk, o + q, none⟩ = some (.int .u64 (W.getD q 0 : Nat)) from by rw [HSE.out] at hh; exact (HKA.out.trans hh (FSub.refl _ _)).cell hcw (by simp))
  have HB := Lib.hid (fun w => btBit_any w N)
  have t1 : decide (q < W.length) = true := decide_eq_true hlt
  have e1 := bits_and_u64_nat (W.getD q 0) (2 ^ (N % 64)) (HW.out.get q) (pow_lt64 (by omega))
  have e2 := and_has W N
  have HR := Lib.hid (HW.out.has (n := N))
  rw [← hq] at e2
  generalize (W.getD q 0 &&& 2 ^ (N % 64)) = z at e1 e2
  generalize W.getD q 0 = x at *
  generalize 2 ^ (N % 64) = pw at *
  generalize wBit W N = B at *
  clear hq hcw hbk
  go_enter Tryd.func11, Tryd.ntmps11
  go_wp2_with fail
  refine wp_region_noPanic ?_
  refine wp_region_held_drew (S := S0) (by kernel_rfl) hSD (fun hHeld => ?_)
  have HY := Lib.hid ((Keeps.refl [] (w.alloc (.cells #[.slice (some ⟨bk, o, none⟩) W.length c] 27))).drew)
  generalize (w.alloc (.cells #[.slice (some ⟨bk, o, none⟩) W.length c] 27)).drew = YC at *
  refine tw 0 (h := ?_)
  refine tw 1 (h := ?_)
  refine tw 2 (h := ?_)
  refine tw 3 (h := ?_)
  refine tw 4 (h := ?_)
  refine tw 5 (h := ?_)
  refine tk 6 (y := by exact Or.inl ⟨by rfl, by intro w hSw; have q0 := HA.out w hSw; go_simp; try with_reducible rfl⟩) (h := ?_)
  refine tw 7 (h := ?_)
  refine tw 8 (h := ?_)
  refine tw 9 (h := ?_)
  refine tw 10 (h := ?_)
  refine tw 11 (h := ?_)
  refine tk 12 (y := by exact Or.inl ⟨by rfl, by intro w hSw; have q0 := HA.out w hSw; go_simp; try with_reducible rfl⟩) (h := ?_)
  refine tw 13 (h := ?_)
  refine tw 14 (h := ?_)
  refine tk 15 (y := by exact yields_indexW rfl _ _ rfl bk o W.length c q rfl rfl hlt) (h := ?_)
  refine tk 16 (y := by exact Or.inl ⟨by rfl, by intro w hSw; have q0 := HC.out w hSw; go_simp; try with_reducible rfl⟩) (h := ?_)
  refine tw 17 (h := ?_)
  refine rp 18 (h := fun K hK => ?_)
  refine wp_call9 35 _ _ rfl [.int .i64 (N : Int)] rfl Tryd.func35 (by kernel_rfl) (by kernel_rfl) ((HB.out _).mono ?_)
  rintro e YD ⟨rfl, hk⟩
  refine ⟨_, rfl, ?_⟩
  replace HY := Lib.hid (HY.out.trans hk (FSub.refl _ _))
  clear hk
  refine hK.out _ _ (by rw [HSE.out]; exact HY.out) (fun hHeld => ?_); clear hK K; try simp only [Act.put, lsA, lsZ, lsS]
  refine tw 19 (h := ?_)
  refine tw 20 (h := ?_)
  refine tw 21 (h := ?_)
  refine tw 22 (h := ?_)
  refine wpAnyH_done (by kernel_rfl) ?_ _
  refine NoPanic.normal ?_
  go_wp2_with fail
  go_ret
  exact ⟨by rw [HR.out, ← e2]; rfl, HKA.out.trans HY.out (FSub.refl _ _)⟩
end Go.Proofs.YtbeniihbejakaaaDoor
/-
  The program's sets: Gap.
-/
namespace Go.Proofs.YtbeniihbejakaaaDoor
open Go.RowKit
set_option maxRecDepth 100000
set_option maxHeartbeats 4000000
def free64 (w k : Nat) : Nat := (18446744073709551615 - w) / 2 ^ k
theorem free_bit {w : Nat} (h : w < 18446744073709551616) (k j : Nat) : (free64 w k).testBit j = (decide (k + j < 64) && !w.testBit (k + j)) := by
  unfold free64
  rw [Nat.testBit_div_two_pow, show 18446744073709551615 - w = 2 ^ 64 - (w + 1) by rw [two64]; omega, Nat.testBit_two_pow_sub_succ (by rw [two64]; exact h), Nat.add_comm j k]
theorem free_lt (w k : Nat) : free64 w k < 18446744073709551616 := by
  unfold free64
  exact Nat.lt_of_le_of_lt (Nat.div_le_self _ _) (by omega)
theorem WIn.free {W : List Nat} {S : List Int} (h : WIn W S) (x : Nat) (hf : free64 (W.getD (x / 64) 0) (x % 64) ≠ 0) :
    Lib.ctz 64 (free64 (W.getD (x / 64) 0) (x % 64)) < 64 ∧ (∀ y : Nat, x ≤ y → y < x + Lib.ctz 64 (free64 (W.getD (x / 64) 0) (x % 64)) → (y : Int) ∈ S) ∧ ((x + Lib.ctz 64 (free64 (W.getD (x / 64) 0) (x % 64)) : Nat) : Int) ∉ S := by
  have hw := h.get (x / 64)
  obtain ⟨h1, h2, h3, -⟩ := ctz_spec hf (free_lt _ _)
  generalize Lib.ctz 64 (free64 (W.getD (x / 64) 0) (x % 64)) = c at *
  rw [free_bit hw] at h2
  simp only [Bool.and_eq_true, decide_eq_true_eq, Bool.not_eq_true'] at h2
  refine ⟨h1, fun y hy hl => ?_, fun hS => ?_⟩
  · rw [h.tell]
    have := h3 (y - x) (by omega)
    rw [free_bit hw, show x % 64 + (y - x) = y % 64 by omega] at this
    unfold wBit
    rw [show y / 64 = x / 64 by omega]
    simpa [show y % 64 < 64 by omega] using this
  · rw [h.tell] at hS
    unfold wBit at hS
    rw [show (x + c) / 64 = x / 64 by omega, show (x + c) % 64 = x % 64 + c by omega, h2.2] at hS
    cases hS
theorem WIn.full {W : List Nat} {S : List Int} (h : WIn W S) (x : Nat) (hf : free64 (W.getD (x / 64) 0) (x % 64) = 0) (y : Nat) (hy : x ≤ y) (hl : y < x + (64 - x % 64)) : (y : Int) ∈ S := by
  have hw := h.get (x / 64)
  rw [h.tell]
  have := free_bit hw (x % 64) (y - x)
  rw [hf, show x % 64 + (y - x) = y % 64 by omega] at this
  unfold wBit
  rw [show y / 64 = x / 64 by omega]
  simpa [show y % 64 < 64 by omega] using this.symm
theorem free_run {z r : Nat} (hz : z < 18446744073709551616) : bits BinOp.xor IntKind.u64 IntKind.u64.max (z : Int) / 2 ^ r = ((free64 z r : Nat) : Int) := by
  have h1 := bits_xor_u64_nat 18446744073709551615 z (by decide) hz
  have e : (18446744073709551615 : Nat) ^^^ z = 18446744073709551615 - z := by
    apply Nat.eq_of_testBit_eq
    intro i
    rw [Nat.testBit_xor, show (18446744073709551615 : Nat) = 2 ^ 64 - 1 by decide, show 2 ^ 64 - 1 - z = 2 ^ 64 - (z + 1) by omega, Nat.testBit_two_pow_sub_one, Nat.testBit_two_pow_sub_succ (by rw [two64]; exact hz)]
    by_cases hi : i < 64
    · simp [hi]
    · have : z.testBit i = false := Nat.testBit_lt_two_pow (Nat.lt_of_lt_of_le hz (by rw [← two64]; exact Nat.pow_le_pow_right (by decide) (by omega)))
      simp [hi, this]
  rw [e] at h1
  rw [show IntKind.u64.max = ((18446744073709551615 : Nat) : Int) from by decide, h1]
  unfold free64
  rw [Int.natCast_ediv, Int.natCast_pow]; rfl
/-- The last word has a number. -/
theorem WIn.last {W : List Nat} {S : List Int} (h : WIn W S) (hl : W.getLast? ≠ some 0) (hn : 0 < W.length) : W.getD (W.length - 1) 0 ≠ 0 ∧ ((64 * (W.length - 1) + (Lib.bitLen (W.getD (W.length - 1) 0) - 1) : Nat) : Int) ∈ S ∧ (∀ x ∈ S, x ≤ ((64 * (W.length - 1) + (Lib.bitLen (W.getD (W.length - 1) 0) - 1) : Nat) : Int)) ∧ 1 ≤ Lib.bitLen (W.getD (W.length - 1) 0) ∧ Lib.bitLen (W.getD (W.length - 1) 0) ≤ 64 := by
  have h0 : W.getD (W.length - 1) 0 ≠ 0 := fun e => hl (by
    rw [List.getLast?_eq_getElem?, List.getElem?_eq_getElem (by omega), ← getW_in W 0 (by omega), e])
  obtain ⟨h1, h2, h3, h4⟩ := bitLen_spec h0 (h.get _)
  refine ⟨h0, ?_, fun x hx => ?_, h1, h2⟩
  · rw [h.tell]
    unfold wBit
    rw [show (64 * (W.length - 1) + (Lib.bitLen (W.getD (W.length - 1) 0) - 1)) / 64 = W.length - 1 by omega, show (64 * (W.length - 1) + (Lib.bitLen (W.getD (W.length - 1) 0) - 1)) % 64 = Lib.bitLen (W.getD (W.length - 1) 0) - 1 by omega]
    exact h3
  · obtain ⟨h5, h6⟩ := (h.any x).1 hx
    have h7 := wBit_lt h6
    by_cases e : x.toNat / 64 = W.length - 1
    · unfold wBit at h6
      rw [e] at h6
      by_cases h8 : Lib.bitLen (W.getD (W.length - 1) 0) ≤ x.toNat % 64
      · rw [h4 _ h8] at h6; cases h6
      · omega
    · omega
theorem WIn.len {W : List Nat} {S : List Int} (h : WIn W S) (hl : W.getLast? ≠ some 0) : W.length ≤ 1024 := by
  by_cases hn : 0 < W.length
  · have := h.set.2 _ (h.last hl hn).2.1
    omega
  · omega
theorem btGap_any (w : World) (HG : Glob15 w) (st : Value) (S : List Int) (n : Int) (h : BtAt w st S) (h64 : I64 n) : Calls Tryd.prog 13 #[st, .int .i64 n] w fun e w' => e = .returned (.int .i64 (gapB S n)) ∧ Keeps [] w w' := by
  obtain ⟨v, W, rfl, hI, ho, hW, hlast⟩ := h
  have hW1 := hW.len hlast
  obtain ⟨a, c, rfl, hc, hm, -⟩ := id hI
  have HI := Lib.hid hI; have HW := Lib.hid hW
  clear hlast
  have HKA := Lib.hid (show Keeps [] w (w.alloc (.cells #[.slice a W.length c] 27)) from (Keeps.refl _ _).alloc _)
  have HGL := Lib.hid HG
  have HA := Lib.hid (fun (w' : World) (hh : Keeps [] (w.alloc (.cells #[.slice a W.length c] 27)) w') => show w'.cell? ⟨w.heap.size, 0, none⟩ = some (.slice a W.length c) from hh.cell (setBlock w _) (by simp))
  obtain ⟨x0, hx0⟩ : ∃ x0 : Nat, (if n < 0 then (0 : Int) else n) = (x0 : Int) := ⟨(if n < 0 then (0 : Int) else n).toNat, by split <;> omega⟩
  have HX0 := Lib.hid hx0
  have hxm : x0 ≤ 9223372036854775807 := by have := h64.2; split at hx0 <;> omega
  have hmax : max n 0 = (x0 : Int) := by split at hx0 <;> omega
  have hlen : W.length ≤ 9223372036854775807 := by omega
  clear hI hW ho hx0 h64 HG
  generalize hmm : W.length = m at *
  have HMM := Lib.hid hmm
  clear hmm
  go_enter Tryd.func13, Tryd.ntmps13
  go_wp2_with fail
  go_loopw [1, 5] (fun i _ wr => ∃ x : Nat, i = .int .i64 (x : Int) ∧ x0 ≤ x ∧ (x = x0 ∨ x ≤ 64 * m) ∧ (∀ y : Nat, x0 ≤ y → y < x → (y : Int) ∈ S) ∧ Keeps [] (w.alloc (.cells #[.slice a m c] 27)) wr) (fun i _ _ => 64 * m + 64 - (intOf i).toNat)
  case atStart => exact ⟨x0, rfl, Nat.le_refl _, .inl rfl, fun y h1 h2 => by omega, Keeps.refl _ _⟩
  case round =>
    obtain ⟨x, rfl, hx, hxx, hall, hk⟩ := hrel
    have HALL := Lib.hid hall; have HK := Lib.hid hk
    have hcA := HA.out _ hk
    clear hall hk
    have hdv := tdiv64 x
    have hmd := tmod64 x
    have hwq : IntKind.i64.wrap ((x / 64 : Nat) : Int) = ((x / 64 : Nat) : Int) := IntWalk.i64_in _ ⟨by omega, by omega⟩
    obtain ⟨q, hq⟩ : ∃ q, q = x / 64 := ⟨_, rfl⟩
    obtain ⟨r, hr⟩ : ∃ r, r = x % 64 := ⟨_, rfl⟩
    rw [← hq] at hdv hwq
    rw [← hr] at hmd
    have hdv2 : (x : Int) / 64 = (q : Int) := by omega
    have hmd2 : (x : Int) % 64 = (r : Int) := by omega
    have hr64 : r < 64 := by omega
    have HQ := Lib.hid hq; have HRR := Lib.hid hr
    by_cases hlt : q < m
    · have hlq : q < W.length := by rw [HMM.out]; exact hlt
      obtain ⟨bk, o, rfl, hbk, hcw⟩ := InW_getD HI.out hlq
      have hcw2 := (HKA.out.trans HK.out (FSub.refl _ _)).cell hcw (by simp)
      have HF1 := Lib.hid (HW.out.free x); have HF2 := Lib.hid (HW.out.full x)
      rw [← hq, ← hr] at HF1 HF2
      have hwl := HW.out.get q
      generalize W.getD q 0 = z at *
      clear hcw hbk hq hr
      have hfr := free_run (r := r) hwl
      have hfr2 : bits BinOp.xor IntKind.u64 (if IntKind.u64.signed = true then -1 else IntKind.u64.max) (z : Int) / 2 ^ r = ((free64 z r : Nat) : Int) := hfr
      have HTZ := Lib.hid (fun w' (hk : Keeps [] w w') => tz64_any (HGL.out.new hk) (free_lt z r))
      have hx64 : x ≤ 65535 := by omega
      by_cases hf0 : free64 z r = 0
      · have HFU := Lib.hid (HF2.out hf0)
        rw [hf0] at hfr hfr2
        clear hf0
        go_wp2_with fail
        go_roundw
        case rel => exact ⟨x + (64 - r), by go_num, by omega, .inr (by have := HQ.out; have := HRR.out; omega), fun y h1 h2 => by
          by_cases h3 : y < x
          · exact HALL.out y h1 h3
          · exact HFU.out y (by omega) h2, HK.out⟩
        case measure => simp [intOf]; omega
      · obtain ⟨hc64, hin, hno⟩ := HF1.out hf0
        have hfb : (((free64 z r : Nat) : Int) != 0) = true := by rw [bne_iff_ne]; omega
        have HX := Lib.hid (show gapB S n = ((x + Lib.ctz 64 (free64 z r) : Nat) : Int) from gapB_eq HW.out.set (by rw [HX0.out]; omega) (fun y h1 h2 => by
          rw [HX0.out] at h1
          have : ((y.toNat : Nat) : Int) ∈ S := by
            by_cases h3 : y.toNat < x
            · exact HALL.out y.toNat (by omega) h3
            · exact hin y.toNat (by omega) (by omega)
          rwa [Int.toNat_of_nonneg (by omega)] at this) hno)
        generalize free64 z r = f at *
        clear hf0 hin hno
        go_wp2_with fail
        refine (HTZ.out wr (HKA.out.trans HK.out (FSub.refl _ _))).mono ?_
        rintro e w2 ⟨rfl, hk2⟩
        have HK2 := Lib.hid hk2
        clear hk2
        have hw64 : IntKind.i64.wrap ((x : Int) + ((Lib.ctz 64 f : Nat) : Int)) = ((x + Lib.ctz 64 f : Nat) : Int) := by rw [IntWalk.i64_in _ ⟨by omega, by omega⟩]; omega
        go_wp2_with fail
        go_ret
        exact ⟨by rw [HX.out]; rfl, HKA.out.trans (HK.out.trans HK2.out (FSub.refl _ _)) (FSub.refl _ _)⟩
    · have HX := Lib.hid (show gapB S n = (x : Int) from gapB_eq HW.out.set (by rw [HX0.out]; omega) (fun y h1 h2 => by
          rw [HX0.out] at h1
          have := HALL.out y.toNat (by omega) (by omega)
          rwa [Int.toNat_of_nonneg (by omega)] at this) (fun hS => by
          have := wBit_lt ((HW.out.tell x).1 hS)
          rw [HMM.out] at this
          omega))
      clear hq hr
      go_wp2_with fail
      go_ret
      exact ⟨by rw [HX.out]; rfl, HKA.out.trans HK.out (FSub.refl _ _)⟩
end Go.Proofs.YtbeniihbejakaaaDoor
/-
  The program's sets: made.
-/
namespace Go.Proofs.YtbeniihbejakaaaDoor
open Go.RowKit
set_option maxRecDepth 100000
set_option maxHeartbeats 4000000
/-- A slice cut. -/
theorem InW_cut {N : Nat} {w : World} {a : Option Addr} {n c k : Nat} {L : List Nat} (h : rkW64.In N w (.slice a n c) L) (hk : k ≤ L.length) : rkW64.In N w (.slice a k c) (L.take k) := by
  obtain ⟨a', c', e, hc, hm, h⟩ := h
  simp only [Value.slice.injEq] at e
  obtain ⟨rfl, rfl, rfl⟩ := e
  have hl : (L.take k).length = k := by rw [List.length_take]; omega
  refine ⟨a, c, by rw [hl], by omega, hm, fun hn => ?_⟩
  have hL : L ≠ [] := fun e => hn (by rw [e]; simp)
  obtain ⟨bk, o, e, hb, h'⟩ := h hL
  refine ⟨bk, o, e, hb, fun j hj i u hi => ?_⟩
  rw [hl] at hj
  exact h' j (by omega) i u (by rw [List.getElem_take] at hi; exact hi)
theorem last_take {L : List Nat} {k : Nat} (hk : k ≤ L.length) (h : k = 0 ∨ L.getD (k - 1) 0 ≠ 0) : (L.take k).getLast? ≠ some 0 := by
  rcases h with rfl | h
  · simp
  · by_cases h0 : k = 0
    · subst h0; simp
    · rw [List.getLast?_eq_getElem?, List.length_take, Nat.min_eq_left hk, List.getElem?_take_of_lt (by omega), List.getElem?_eq_getElem (by omega), ← getW_in L 0 (by omega)]
      intro e
      exact h (by simpa using e)
theorem own_new {base : Nat} {w : World} {v : Value} {L : List Nat} (h : rkW64.Own base w v L) : ∀ q ∈ own v, base ≤ q ∧ q < w.heap.size := by
  intro q hq
  rcases h.2 with ⟨rfl, hn⟩ | ⟨g, cap, cur, rfl, hb, hh, -⟩
  · simp [own, Value.ownBlock] at hq
  · simp [own, Value.ownBlock] at hq
    subst hq
    exact ⟨hb, (Array.getElem?_eq_some_iff.1 hh).1⟩
theorem btOk1 (a : Option Addr) (n c : Nat) : skB.Ok [.slice a n c] := ⟨rfl, fun u hu => by simp only [List.mem_singleton] at hu; subst hu; rfl⟩
theorem btMade_any (w : World) {v : Value} {L : List Nat} {S : List Int} (hI : rkW64.In w.heap.size w v L) (ho : ∀ q ∈ own v, q < w.heap.size) (hW : WIn L S) (hlen : L.length ≤ 10000) :
    Calls Tryd.prog 38 #[v] w fun e w' => ∃ st', e = .returned st' ∧ BtAt w' st' S ∧ Keeps [] w w' ∧ ∀ q ∈ btFoot st', q ∈ own v ∨ w.heap.size ≤ q := by
  obtain ⟨a, c, rfl, hc, hm, -⟩ := id hI
  have HI := Lib.hid hI; have HW := Lib.hid hW; have HO := Lib.hid ho
  have HN := Lib.hid (heap_alloc_new w (.cells btZA 27))
  have HKA := Lib.hid (show Keeps [] w (w.alloc (.cells btZA 27)) from (Keeps.refl _ _).alloc _)
  clear hI hW ho
  generalize hmm : L.length = m at *
  have HMM := Lib.hid hmm
  clear hmm
  go_enter Tryd.func38, Tryd.ntmps38
  go_wp2_with fail
  go_loopw [3] (fun i wr => ∃ n : Nat, i = .int .i64 (n : Int) ∧ n ≤ m ∧ (∀ j, n ≤ j → L.getD j 0 = 0) ∧ wr = w.alloc (.cells btZA 27)) (fun i _ => (intOf i).toNat)
  case atStart => exact ⟨m, rfl, Nat.le_refl _, fun j hj => getW_out L 0 (by rw [HMM.out]; exact hj), rfl⟩
  case round =>
    obtain ⟨n, rfl, hn, hz, rfl⟩ := hrel
    have HZ := Lib.hid hz
    clear hz
    rcases n with _ | k
    · have hm0 : ((0 : Int) == (m : Int)) = decide (m = 0) := by by_cases e : m = 0 <;> simp [e]; omega
      by_cases e0 : m = 0
      · subst e0
        obtain ⟨v1, w1, hrun, hown, hk1, hfs⟩ := rkW64.appendIn (w.alloc (.cells btZA 27)) (w.alloc (.cells btZA 27)).heap.size (Nat.le_refl _) (.slice none 0 0) [] (RK.Own.nil rkW64 _ _) ((InW_cut HI.out (k := 0) (by rw [HMM.out]; omega)).new HKA.out (Nat.le_refl _)) (by simp only [List.length_nil, List.length_take]; omega)
        have HR := Lib.hid (show (Builtin.append_ #[25, 25] 25 #[.slice none 0 0, .slice (a) (0) c]).run Tryd.prog (w.alloc (.cells btZA 27)) = .ok v1 w1 from hrun)
        have HK1 := Lib.hid (show Keeps [] (w.alloc (.cells btZA 27)) w1 from by simpa [own, Value.ownBlock] using hk1)
        rw [List.nil_append] at hown
        obtain ⟨a1, c1, rfl, -, -⟩ := hown.shape
        generalize (L.take (0)).length = n1 at *
        have HOW := Lib.hid hown
        have HB1 := Lib.hid (HK1.out.heap HN.out (by simp))
        have HWW := Lib.hid (HW.out.cut (k := 0) HZ.out); have HLT := Lib.hid (last_take (L := L) (k := 0) (by rw [HMM.out]; omega) (.inl rfl))
        have HNEW := Lib.hid (show ∀ q ∈ own (.slice a1 n1 c1), w.heap.size ≤ q ∧ q < w1.heap.size ∧ q ≠ w.heap.size from fun q hq => by
          have h1 := own_new hown q hq
          rw [World.size_alloc] at h1
          omega)
        have HOK := Lib.hid (btOk1 a1 n1 c1)
        clear hrun hown hk1 hfs
        go_wp2_with (first | ((with_reducible refine wpList_app (.slice none 0 0) (.slice (a) (0) c) ?_ ?_ HR.out ?_); exact rfl; exact rfl) | ((with_reducible refine wpList_putBt HOK.out btZ_ok ?_ ?_ HB1.out ?_); exact rfl; exact rfl))
        intro W2 hW2 hk2
        have HW2 := Lib.hid hW2; have HK2 := Lib.hid hk2
        clear hW2 hk2
        go_wp2_with fail
        try simp only [Exit.inBlock, Exit.then]
        have hown2 := HOW.out.keeps HK2.out (fun q hq => by have := HNEW.out q hq; simpa using this.2.2)
        exact bodyPost_ret (results_sk skB rfl _ _ w.heap.size HOK.out rfl HW2.out) rfl ⟨_, rfl, ⟨_, _, rfl, hown2.in_, fun q hq => Nat.lt_of_lt_of_le (HNEW.out q hq).2.1 HK2.out.size, HWW.out, HLT.out⟩, (HKA.out.trans HK1.out (FSub.refl _ _)).trans HK2.out (fun q hq => .inr (by simp at hq; omega)), fun q hq => .inr (HNEW.out q hq).1⟩
      · rw [decide_eq_false e0] at hm0
        obtain ⟨v1, w1, hrun, hown, hk1, hfs⟩ := rkW64.appendIn (w.alloc (.cells btZA 27)) (w.alloc (.cells btZA 27)).heap.size (Nat.le_refl _) (.slice none 0 0) [] (RK.Own.nil rkW64 _ _) ((InW_cut HI.out (k := 0) (by rw [HMM.out]; omega)).new HKA.out (Nat.le_refl _)) (by simp only [List.length_nil, List.length_take]; omega)
        have HR := Lib.hid (show (Builtin.append_ #[25, 25] 25 #[.slice none 0 0, .slice (a) (0) c]).run Tryd.prog (w.alloc (.cells btZA 27)) = .ok v1 w1 from hrun)
        have HK1 := Lib.hid (show Keeps [] (w.alloc (.cells btZA 27)) w1 from by simpa [own, Value.ownBlock] using hk1)
        rw [List.nil_append] at hown
        obtain ⟨a1, c1, rfl, -, -⟩ := hown.shape
        generalize (L.take (0)).length = n1 at *
        have HOW := Lib.hid hown
        have HB1 := Lib.hid (HK1.out.heap HN.out (by simp))
        have HWW := Lib.hid (HW.out.cut (k := 0) HZ.out); have HLT := Lib.hid (last_take (L := L) (k := 0) (by rw [HMM.out]; omega) (.inl rfl))
        have HNEW := Lib.hid (show ∀ q ∈ own (.slice a1 n1 c1), w.heap.size ≤ q ∧ q < w1.heap.size ∧ q ≠ w.heap.size from fun q hq => by
          have h1 := own_new hown q hq
          rw [World.size_alloc] at h1
          omega)
        have HOK := Lib.hid (btOk1 a1 n1 c1)
        clear hrun hown hk1 hfs
        go_wp2_with (first | ((with_reducible refine wpList_app (.slice none 0 0) (.slice (a) (0) c) ?_ ?_ HR.out ?_); exact rfl; exact rfl) | ((with_reducible refine wpList_putBt HOK.out btZ_ok ?_ ?_ HB1.out ?_); exact rfl; exact rfl))
        intro W2 hW2 hk2
        have HW2 := Lib.hid hW2; have HK2 := Lib.hid hk2
        clear hW2 hk2
        go_wp2_with fail
        try simp only [Exit.inBlock, Exit.then]
        have hown2 := HOW.out.keeps HK2.out (fun q hq => by have := HNEW.out q hq; simpa using this.2.2)
        exact bodyPost_ret (results_sk skB rfl _ _ w.heap.size HOK.out rfl HW2.out) rfl ⟨_, rfl, ⟨_, _, rfl, hown2.in_, fun q hq => Nat.lt_of_lt_of_le (HNEW.out q hq).2.1 HK2.out.size, HWW.out, HLT.out⟩, (HKA.out.trans HK1.out (FSub.refl _ _)).trans HK2.out (fun q hq => .inr (by simp at hq; omega)), fun q hq => .inr (HNEW.out q hq).1⟩
    · have hkm : k < L.length := by rw [HMM.out]; omega
      obtain ⟨bk, o, rfl, hbk, hcw⟩ := InW_getD HI.out hkm
      have hcw2 := HKA.out.cell hcw (by simp)
      by_cases hz0 : L.getD k 0 = 0
      · rw [hz0] at hcw2
        go_wp2_with fail
        go_roundw
        case rel => exact ⟨k, by go_num, by omega, fun j hj => by
          by_cases e : j = k
          · rw [e]; exact hz0
          · exact HZ.out j (by omega), trivial⟩
        case measure => simp [intOf]
      · have hzb : (((L.getD k 0 : Nat) : Int) == 0) = false := by rw [beq_eq_false_iff_ne]; omega
        have HNZ := Lib.hid hz0
        clear hcw hz0
        generalize L.getD k 0 = z at hcw2 hzb
        by_cases ekm : k + 1 = m
        · subst ekm
          have HLT := Lib.hid (show L.getLast? ≠ some 0 from by
            have := last_take (L := L) (k := L.length) (Nat.le_refl _) (.inr (by rw [HMM.out]; exact HNZ.out))
            rwa [List.take_length] at this)
          have HOK := Lib.hid (btOk1 (some ⟨bk, o, none⟩) (k + 1) c)
          have hfs := HO.out
          have HNE := Lib.hid (show ∀ q ∈ own (.slice (some ⟨bk, o, none⟩) (k + 1) c), q ≠ w.heap.size from fun q hq => Nat.ne_of_lt (HO.out q hq))
          clear hfs
          go_wp2_with ((with_reducible refine wpList_putBt HOK.out btZ_ok ?_ ?_ HN.out ?_); exact rfl; exact rfl)
          intro W2 hW2 hk2
          have HW2 := Lib.hid hW2; have HK2 := Lib.hid hk2
          clear hW2 hk2
          go_wp2_with fail
          try simp only [Exit.inBlock, Exit.then]
          have hks : Keeps [] w W2 := HKA.out.trans HK2.out (fun q hq => .inr (by simp at hq; omega))
          exact bodyPost_ret (results_sk skB rfl _ _ w.heap.size HOK.out rfl HW2.out) rfl ⟨_, rfl, ⟨_, _, rfl, HI.out.new hks (Nat.le_refl _) |>.more hks.size, fun q hq => Nat.lt_of_lt_of_le (HO.out q hq) hks.size, HW.out, HLT.out⟩, hks, fun q hq => .inl hq⟩
        · have ek2 : ((k : Int) + 1 == (m : Int)) = false := by rw [beq_eq_false_iff_ne]; omega
          obtain ⟨v1, w1, hrun, hown, hk1, hfs⟩ := rkW64.appendIn (w.alloc (.cells btZA 27)) (w.alloc (.cells btZA 27)).heap.size (Nat.le_refl _) (.slice none 0 0) [] (RK.Own.nil rkW64 _ _) ((InW_cut HI.out (k := k + 1) (by rw [HMM.out]; omega)).new HKA.out (Nat.le_refl _)) (by simp only [List.length_nil, List.length_take]; omega)
          have HR := Lib.hid (show (Builtin.append_ #[25, 25] 25 #[.slice none 0 0, .slice (some ⟨bk, o, none⟩) (k + 1) c]).run Tryd.prog (w.alloc (.cells btZA 27)) = .ok v1 w1 from hrun)
          have HK1 := Lib.hid (show Keeps [] (w.alloc (.cells btZA 27)) w1 from by simpa [own, Value.ownBlock] using hk1)
          rw [List.nil_append] at hown
          obtain ⟨a1, c1, rfl, -, -⟩ := hown.shape
          generalize (L.take (k + 1)).length = n1 at *
          have HOW := Lib.hid hown
          have HB1 := Lib.hid (HK1.out.heap HN.out (by simp))
          have HWW := Lib.hid (HW.out.cut (k := k + 1) HZ.out); have HLT := Lib.hid (last_take (L := L) (k := k + 1) (by rw [HMM.out]; omega) (.inr HNZ.out))
          have HNEW := Lib.hid (show ∀ q ∈ own (.slice a1 n1 c1), w.heap.size ≤ q ∧ q < w1.heap.size ∧ q ≠ w.heap.size from fun q hq => by
            have h1 := own_new hown q hq
            rw [World.size_alloc] at h1
            omega)
          have HOK := Lib.hid (btOk1 a1 n1 c1)
          clear hrun hown hk1 hfs
          go_wp2_with (first | ((with_reducible refine wpList_app (.slice none 0 0) (.slice (some ⟨bk, o, none⟩) (k + 1) c) ?_ ?_ HR.out ?_); exact rfl; exact rfl) | ((with_reducible refine wpList_putBt HOK.out btZ_ok ?_ ?_ HB1.out ?_); exact rfl; exact rfl))
          intro W2 hW2 hk2
          have HW2 := Lib.hid hW2; have HK2 := Lib.hid hk2
          clear hW2 hk2
          go_wp2_with fail
          try simp only [Exit.inBlock, Exit.then]
          have hown2 := HOW.out.keeps HK2.out (fun q hq => by have := HNEW.out q hq; simpa using this.2.2)
          exact bodyPost_ret (results_sk skB rfl _ _ w.heap.size HOK.out rfl HW2.out) rfl ⟨_, rfl, ⟨_, _, rfl, hown2.in_, fun q hq => Nat.lt_of_lt_of_le (HNEW.out q hq).2.1 HK2.out.size, HWW.out, HLT.out⟩, (HKA.out.trans HK1.out (FSub.refl _ _)).trans HK2.out (fun q hq => .inr (by simp at hq; omega)), fun q hq => .inr (HNEW.out q hq).1⟩
end Go.Proofs.YtbeniihbejakaaaDoor
