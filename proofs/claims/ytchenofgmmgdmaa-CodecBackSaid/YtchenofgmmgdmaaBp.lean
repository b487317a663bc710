/-
  read: a thing that is whole is read as it was; one that is not is torn.
-/
import Derived.Test.YtchenofgmmgdmaaBi
import Derived.Test.YtchenofgmmgdmaaBd
import Derived.Test.YtchenofgmmgdmaaBf
import Derived.Deep.RegionWith
import Derived.Laws.BitsLemmas
import Derived.IntWalk
namespace Go.Proofs.Ytchenofgmmgdmaa
open Go.RowKit
/-- What read leaves. -/
def ReadPost (r g cap : Nat) (xs : List Int) (good : Prop) (e' : Int) (p' : Nat) (w : World) (x : Ending) (w' : World) : Prop :=
  ∃ b, x = .returned (.bool b) ∧ (good → b = true) ∧ RAt w' r g cap xs e' p' ∧ Keeps [r] w w'
theorem wrap16 (n : Int) : IntKind.u16.wrap n = n % 65536 := by simp [IntKind.wrap, IntKind.bits, IntKind.signed]
set_option maxHeartbeats 400000 in
theorem same_diff (w : World) (a b : Option Addr) (na nb ca cb : Nat) (hne : na ≠ nb) :
    Calls Try.prog 33 #[.slice a na ca, .slice b nb cb] w fun x w' => x = .returned (.bool false) ∧ Keeps [] w w' := by
  have hn : ¬ ((na : Int) = (nb : Int)) := by omega
  have hn2 : ((na : Int) != (nb : Int)) = true := by rw [bne_iff_ne]; omega
  go_enter Try.func33, Try.ntmps33
  go_wp2_with fail
  go_ret
  exact ⟨rfl, Keeps.refl _ _⟩

set_option maxHeartbeats 1000000 in
theorem read_0 (w : World) (r g cap p : Nat) (xs : List Int) (h : RAt w r g cap xs 0 p) (hx : InU8 xs) (hl : xs.length ≤ 1000000) (t : LT) (k0 : 0 ≤ t.k) (n0 : 0 ≤ t.n) (n1 : t.n < 4294967296) (hk : t.k % 5 = 0) :
    Calls Try.prog 27 #[.pointer (some ⟨r, 0, none⟩), .agg #[.int .u8 t.k, .int .u32 t.n, .string t.s, .slice t.a t.ls.length t.c]] w (ReadPost r g cap xs (rdVal 1 xs 0 p = t.n % 256) (rdErr 1 xs 0 p) (rdPos 1 xs 0 p) w) := by
  have hk0 : Keeps [r] w (w.alloc (.cells #[.int .u8 t.k, .int .u32 t.n, .string t.s, .slice t.a t.ls.length t.c] 38)).drew := (((Keeps.refl [] _).alloc _).drew).more (by simp)
  have hrl := lt_of_block h.blk
  have cB : (w.alloc (.cells #[.int .u8 t.k, .int .u32 t.n, .string t.s, .slice t.a t.ls.length t.c] 38)).drew.cell? ⟨w.heap.size, 1, none⟩ = some (.int .u32 t.n) := by
    show (w.alloc (.cells #[.int .u8 t.k, .int .u32 t.n, .string t.s, .slice t.a t.ls.length t.c] 38)).cell? ⟨w.heap.size, 1, none⟩ = _
    simp
  have hR := RU8_any _ r g cap p xs 0 (h.keeps (((Keeps.refl [] _).alloc (.cells #[.int .u8 t.k, .int .u32 t.n, .string t.s, .slice t.a t.ls.length t.c] 38)).drew) (by simp) (by simp)) hx hl
  generalize rdVal 1 xs 0 p = V at *
  have HR := Lib.hid hR; clear hR
  have HK := Lib.hid hk0; clear hk0
  go_enter Try.func27, Try.ntmps27
  go_wp2_with fail
  generalize hX : (w.alloc (.cells #[.int .u8 t.k, .int .u32 t.n, .string t.s, .slice t.a t.ls.length t.c] 38)) = X at *
  clear hX
  go_region_with (go_at_call 24; refine HR.out.mono ?_; rintro x w1 ⟨rfl, hr1, hk1⟩; have cB1 := hk1.cell cB (by simp; omega))
  all_goals
    go_wp2_with fail
    go_ret
    exact ⟨_, rfl, fun hg => by rw [IntKind.wrap_u8]; simpa using hg, by assumption, HK.out.step (by assumption) (fun _ h => h)⟩

set_option maxHeartbeats 1000000 in
theorem read_1 (w : World) (r g cap p : Nat) (xs : List Int) (h : RAt w r g cap xs 0 p) (hx : InU8 xs) (hl : xs.length ≤ 1000000) (t : LT) (k0 : 0 ≤ t.k) (n0 : 0 ≤ t.n) (n1 : t.n < 4294967296) (hk : t.k % 5 = 1) :
    Calls Try.prog 27 #[.pointer (some ⟨r, 0, none⟩), .agg #[.int .u8 t.k, .int .u32 t.n, .string t.s, .slice t.a t.ls.length t.c]] w (ReadPost r g cap xs (rdVal 2 xs 0 p = t.n % 65536) (rdErr 2 xs 0 p) (rdPos 2 xs 0 p) w) := by
  have hk0 : Keeps [r] w (w.alloc (.cells #[.int .u8 t.k, .int .u32 t.n, .string t.s, .slice t.a t.ls.length t.c] 38)).drew := (((Keeps.refl [] _).alloc _).drew).more (by simp)
  have hrl := lt_of_block h.blk
  have cB : (w.alloc (.cells #[.int .u8 t.k, .int .u32 t.n, .string t.s, .slice t.a t.ls.length t.c] 38)).drew.cell? ⟨w.heap.size, 1, none⟩ = some (.int .u32 t.n) := by
    show (w.alloc (.cells #[.int .u8 t.k, .int .u32 t.n, .string t.s, .slice t.a t.ls.length t.c] 38)).cell? ⟨w.heap.size, 1, none⟩ = _
    simp
  have hR := RU16_any _ r g cap p xs 0 (h.keeps (((Keeps.refl [] _).alloc (.cells #[.int .u8 t.k, .int .u32 t.n, .string t.s, .slice t.a t.ls.length t.c] 38)).drew) (by simp) (by simp)) hx hl
  generalize rdVal 2 xs 0 p = V at *
  have HR := Lib.hid hR; clear hR
  have HK := Lib.hid hk0; clear hk0
  go_enter Try.func27, Try.ntmps27
  go_wp2_with fail
  generalize hX : (w.alloc (.cells #[.int .u8 t.k, .int .u32 t.n, .string t.s, .slice t.a t.ls.length t.c] 38)) = X at *
  clear hX
  go_region_with (go_at_call 23; refine HR.out.mono ?_; rintro x w1 ⟨rfl, hr1, hk1⟩; have cB1 := hk1.cell cB (by simp; omega))
  all_goals
    go_wp2_with fail
    go_ret
    exact ⟨_, rfl, fun hg => by rw [wrap16]; simpa using hg, by assumption, HK.out.step (by assumption) (fun _ h => h)⟩

set_option maxHeartbeats 1000000 in
theorem read_2 (w : World) (r g cap p : Nat) (xs : List Int) (h : RAt w r g cap xs 0 p) (hx : InU8 xs) (hl : xs.length ≤ 1000000) (t : LT) (k0 : 0 ≤ t.k) (n0 : 0 ≤ t.n) (n1 : t.n < 4294967296) (hk : t.k % 5 = 2) :
    Calls Try.prog 27 #[.pointer (some ⟨r, 0, none⟩), .agg #[.int .u8 t.k, .int .u32 t.n, .string t.s, .slice t.a t.ls.length t.c]] w (ReadPost r g cap xs (rdVal 4 xs 0 p = t.n) (rdErr 4 xs 0 p) (rdPos 4 xs 0 p) w) := by
  have hk0 : Keeps [r] w (w.alloc (.cells #[.int .u8 t.k, .int .u32 t.n, .string t.s, .slice t.a t.ls.length t.c] 38)).drew := (((Keeps.refl [] _).alloc _).drew).more (by simp)
  have hrl := lt_of_block h.blk
  have cB : (w.alloc (.cells #[.int .u8 t.k, .int .u32 t.n, .string t.s, .slice t.a t.ls.length t.c] 38)).drew.cell? ⟨w.heap.size, 1, none⟩ = some (.int .u32 t.n) := by
    show (w.alloc (.cells #[.int .u8 t.k, .int .u32 t.n, .string t.s, .slice t.a t.ls.length t.c] 38)).cell? ⟨w.heap.size, 1, none⟩ = _
    simp
  have hR := RU32_any _ r g cap p xs 0 (h.keeps (((Keeps.refl [] _).alloc (.cells #[.int .u8 t.k, .int .u32 t.n, .string t.s, .slice t.a t.ls.length t.c] 38)).drew) (by simp) (by simp)) hx hl
  generalize rdVal 4 xs 0 p = V at *
  have HR := Lib.hid hR; clear hR
  have HK := Lib.hid hk0; clear hk0
  go_enter Try.func27, Try.ntmps27
  go_wp2_with fail
  generalize hX : (w.alloc (.cells #[.int .u8 t.k, .int .u32 t.n, .string t.s, .slice t.a t.ls.length t.c] 38)) = X at *
  clear hX
  go_region_with (go_at_call 31; refine HR.out.mono ?_; rintro x w1 ⟨rfl, hr1, hk1⟩; have cB1 := hk1.cell cB (by simp; omega))
  all_goals
    go_wp2_with fail
    go_ret
    exact ⟨_, rfl, fun hg => by simpa using hg, by assumption, HK.out.step (by assumption) (fun _ h => h)⟩

set_option maxHeartbeats 1000000 in
theorem read_3 (w : World) (r g cap p : Nat) (xs : List Int) (h : RAt w r g cap xs 0 p) (hl : xs.length ≤ 1000000) (t : LT) (k0 : 0 ≤ t.k) (hk : t.k % 5 = 3) (hsz : t.s.size ≤ 1000000) :
    Calls Try.prog 27 #[.pointer (some ⟨r, 0, none⟩), .agg #[.int .u8 t.k, .int .u32 t.n, .string t.s, .slice t.a t.ls.length t.c]] w (ReadPost r g cap xs (strOfNums (rdRaw t.s.size xs 0 p) = t.s) (rdErr t.s.size xs 0 p) (rdPos t.s.size xs 0 p) w) := by
  have hk0 : Keeps [r] w (w.alloc (.cells #[.int .u8 t.k, .int .u32 t.n, .string t.s, .slice t.a t.ls.length t.c] 38)).drew := (((Keeps.refl [] _).alloc _).drew).more (by simp)
  have hrl := lt_of_block h.blk
  have cB : (w.alloc (.cells #[.int .u8 t.k, .int .u32 t.n, .string t.s, .slice t.a t.ls.length t.c] 38)).drew.cell? ⟨w.heap.size, 2, none⟩ = some (.string t.s) := by
    show (w.alloc (.cells #[.int .u8 t.k, .int .u32 t.n, .string t.s, .slice t.a t.ls.length t.c] 38)).cell? ⟨w.heap.size, 2, none⟩ = _
    simp
  have hR := RRaw_any _ r g cap p xs 0 (h.keeps (((Keeps.refl [] _).alloc (.cells #[.int .u8 t.k, .int .u32 t.n, .string t.s, .slice t.a t.ls.length t.c] 38)).drew) (by simp) (by simp)) hl (t.s.size : Int)
  rw [Int.toNat_natCast] at hR
  generalize strOfNums (rdRaw t.s.size xs 0 p) = V at *
  have HR := Lib.hid hR; clear hR
  have HK := Lib.hid hk0; clear hk0
  go_enter Try.func27, Try.ntmps27
  go_wp2_with fail
  generalize hX : (w.alloc (.cells #[.int .u8 t.k, .int .u32 t.n, .string t.s, .slice t.a t.ls.length t.c] 38)) = X at *
  clear hX
  go_region_with (go_at_call 26; refine HR.out.mono ?_; rintro x w1 ⟨rfl, hr1, hk1⟩; have cB1 := hk1.cell cB (by simp; omega))
  all_goals
    go_wp2_with fail
    go_ret
    exact ⟨_, rfl, fun hg => by rw [hg]; simp, by assumption, HK.out.step (by assumption) (fun _ h => h)⟩

set_option maxHeartbeats 2000000 in
theorem read_4 (w : World) (r g cap p : Nat) (xs : List Int) (h : RAt w r g cap xs 0 p) (hx : InU8 xs) (hl : xs.length ≤ 1000000) (t : LT) (k0 : 0 ≤ t.k) (g0 : ¬ t.k % 5 = 0) (g1 : ¬ t.k % 5 = 1) (g2 : ¬ t.k % 5 = 2) (g3 : ¬ t.k % 5 = 3)
    (hsrc : Src16 w t.a t.ls) (hF : ∀ lb off, t.a = some ⟨lb, off, none⟩ → t.ls ≠ [] → lb ∉ [r]) (hll : t.ls.length ≤ 1000000) (hor : rlist xs 0 p = t.ls ∨ rlist xs 0 p = []) :
    Calls Try.prog 27 #[.pointer (some ⟨r, 0, none⟩), .agg #[.int .u8 t.k, .int .u32 t.n, .string t.s, .slice t.a t.ls.length t.c]] w (ReadPost r g cap xs (rlist xs 0 p = t.ls) (rlErr xs 0 p) (rlPos xs 0 p) w) := by
  have hk0 : Keeps [r] w (w.alloc (.cells #[.int .u8 t.k, .int .u32 t.n, .string t.s, .slice t.a t.ls.length t.c] 38)).drew := (((Keeps.refl [] _).alloc _).drew).more (by simp)
  have hrl := lt_of_block h.blk
  have hs0 := hsrc.keeps hk0 hF
  have cB : (w.alloc (.cells #[.int .u8 t.k, .int .u32 t.n, .string t.s, .slice t.a t.ls.length t.c] 38)).drew.cell? ⟨w.heap.size, 3, none⟩ = some (.slice t.a t.ls.length t.c) := by
    show (w.alloc (.cells #[.int .u8 t.k, .int .u32 t.n, .string t.s, .slice t.a t.ls.length t.c] 38)).cell? ⟨w.heap.size, 3, none⟩ = _
    simp
  have hR := RList_any _ r g cap p xs 0 (h.keeps (((Keeps.refl [] _).alloc (.cells #[.int .u8 t.k, .int .u32 t.n, .string t.s, .slice t.a t.ls.length t.c] 38)).drew) (by simp) (by simp)) hx hl
  generalize rlist xs 0 p = V at *
  have HR := Lib.hid hR; clear hR
  have HK := Lib.hid hk0; clear hk0
  have HS := Lib.hid hs0; clear hs0 hsrc
  have HF := Lib.hid hF; clear hF
  have HO := Lib.hid hor; clear hor
  have HSame : ∀ (w1 : World) (v : Value), w1.ownsRow 0 54 1 v V.length (V.map (.int .u16)) → Src16 w1 t.a t.ls → ∃ b, Calls Try.prog 33 #[v, .slice t.a t.ls.length t.c] w1 (fun x w' => x = .returned (.bool b) ∧ Keeps [] w1 w') ∧ (V = t.ls → b = true) := by
    intro w1 v ho hs
    obtain ⟨a1, d1, rfl, s1⟩ := row_srcAt ho
    by_cases hVl : V.length = t.ls.length
    · have hV : V = t.ls := by
        rcases HO.out with h1 | h1
        · exact h1
        · subst h1
          exact (List.eq_nil_of_length_eq_zero hVl.symm).symm
      exact ⟨true, same_any _ a1 t.a _ _ d1 t.c t.ls hVl rfl (by rw [← hV]; exact s1) hs hll, fun _ => rfl⟩
    · exact ⟨false, same_diff _ a1 t.a _ _ d1 t.c hVl, fun h => absurd (by rw [h]) hVl⟩
  have HSS := Lib.hid HSame; clear HSame
  go_enter Try.func27, Try.ntmps27
  go_wp2_with fail
  generalize hX : (w.alloc (.cells #[.int .u8 t.k, .int .u32 t.n, .string t.s, .slice t.a t.ls.length t.c] 38)) = X at *
  clear hX
  go_region_with (first
    | (go_at_call 25; refine HR.out.mono ?_; rintro x w1 ⟨v1, rfl, ho1, hr1, hk1, hs1⟩; have cB1 := hk1.cell cB (by simp; omega); obtain ⟨b, HC, HB⟩ := HSS.out _ _ ho1 (HS.out.keeps hk1 HF.out))
    | (go_at_call 33; refine HC.mono ?_; rintro x w2 ⟨rfl, hk2⟩; have hk3 := HK.out.step (hk1.step (hk2.more (G := [r]) (by simp)) (fun _ h => h)) (fun _ h => h); have hr2 := hr1.keeps hk2 (by simp) (by simp)))
  all_goals
    go_wp2_with fail
    go_ret
    exact ⟨_, rfl, HB, hr2, hk3⟩
end Go.Proofs.Ytchenofgmmgdmaa
