/-
  CodecReads: its walk.
-/
import Derived.Test.YtchenofgmmgdmaaBj
import Derived.Test.YtchenofgmmgdmaaBe
import Derived.Deep.RegionWith
namespace Go.Proofs.Ytchenofgmmgdmaa
open Go.RowKit
/-- What is asked, as it lies in memory. -/
structure LA where
  k : Int
  n : Int
instance : Inhabited LA := ⟨⟨0, 0⟩⟩
structure AskAt (w : World) (lb o : Nat) (t : LA) : Prop where
  ck : w.cell? ⟨lb, o, none⟩ = some (.int .u8 t.k)
  cn : w.cell? ⟨lb, o + 1, none⟩ = some (.int .i64 t.n)
  k0 : 0 ≤ t.k
def Asks (w : World) (lb off : Nat) (ts : List LA) : Prop := ∀ i, i < ts.length → AskAt w lb (off + i * 2) (ts.getD i default)
theorem nums_inu8 (s : ByteArray) : InU8 (nums s) := by
  intro j
  by_cases hj : j < (nums s).length
  · have e : (nums s).getD j 0 = (nums s)[j] := by simp [List.getD, hj]
    rw [e]
    simp only [nums, List.getElem_map]
    have := (s.data.toList[j]'(by simpa [nums] using hj)).toNat_lt
    omega
  · have e : (nums s).getD j 0 = 0 := by rw [List.getD, List.getElem?_eq_none (by omega)]; rfl
    rw [e]; omega
theorem RQ.drew {w : World} {r g cap q p : Nat} {xs : List Int} {e : Int} (h : RQ w r g cap q xs e p) : RQ w.drew r g cap q xs e p := ⟨h.rat.drew, h.qat⟩
theorem RQ.drewN {w : World} {r g cap q p : Nat} {xs : List Int} {e : Int} (h : RQ w r g cap q xs e p) (n : Nat) : RQ (w.drewN n) r g cap q xs e p := ⟨h.rat.drewN n, h.qat⟩
theorem RQ.cells {w : World} {r g cap q p : Nat} {xs : List Int} {e : Int} (h : RQ w r g cap q xs e p) : w.cell? ⟨q, 0, none⟩ = some (.string (strOfNums (xs.drop p))) ∧ w.cell? ⟨q, 1, none⟩ = some (.int .i64 p) ∧ w.cell? ⟨q, 2, none⟩ = some (.int .i64 e) := by
  have h' := h.qat
  unfold QAt at h'
  obtain ⟨c0, c1, c2, _⟩ := cell3 h'
  exact ⟨c0, c1, c2⟩
theorem Left_S {w : World} {r g cap q p : Nat} {xs : List Int} {e : Int} (h : RQ w r g cap q xs e p) (hl : xs.length ≤ 1000000) :
    Calls Try.prog 15 #[.pointer (some ⟨r, 0, none⟩)] w fun x w' => x = .returned (.int .i64 ((strOfNums (xs.drop p)).size : Int)) ∧ ∃ n, w' = w.drewN n := by
  have e1 : ((strOfNums (xs.drop p)).size : Int) = (xs.length : Int) - p := by
    rw [strOfNums_size, List.length_drop]
    have := h.rat.le
    omega
  rw [e1]
  exact Left_any w r g cap p xs e h.rat hl
/-- What holds at a round's head. -/
structure RInv (w wr : World) (r g cap q : Nat) (xs : List Int) (e : Int) (p : Nat) : Prop where
  rq : RQ wr r g cap q xs e p
  good : GoodE e
  kept : Keeps [] w wr
set_option maxHeartbeats 4000000 in
set_option maxRecDepth 100000 in
theorem reads_some (w : World) (s : ByteArray) (lb off c : Nat) (ts : List LA) (h : Asks w lb off ts) (hs : ¬ (3000 : Int) < (s.size : Int)) (hl : ¬ (100 : Int) < (ts.length : Int)) :
    Calls Try.prog 4 #[.string s, .slice (some ⟨lb, off, none⟩) ts.length c] w fun e w' => e = .returned (.bool true) ∧ Keeps [] w w' := by
  have H := Lib.hid h; clear h
  have hx := nums_inu8 s
  have hxl : (nums s).length ≤ 1000000 := by rw [nums_length]; omega
  have hd0 : strOfNums ((nums s).drop 0) = s := by rw [List.drop_zero]; exact strOfNums_nums s
  have HX := Lib.hid hx; have HD := Lib.hid hd0; clear hx hd0
  have hO := Over_any w s
  generalize nums s = xs at *
  have HO := Lib.hid hO; clear hO
  go_enter Try.func4, Try.ntmps4
  go_wp2_with fail
  refine HO.out.mono ?_
  rintro x w1 ⟨rfl, ⟨cap, hR⟩, hk1⟩
  have hz1 := lt_of_block hR.blk
  have i0 : RInv w (w1.alloc (.cells #[.string s, .int .i64 0, .int .i64 0] 46)) (w.heap.size + 1) w.heap.size cap w1.heap.size xs 0 0 := by
    refine ⟨⟨hR.keeps ((Keeps.refl [] _).alloc _) (by simp) (by simp), ?_⟩, .inl rfl, hk1.alloc _⟩
    unfold QAt
    rw [HD.out]
    exact heap_alloc_new w1 _
  have hgq : w.heap.size ≠ w1.heap.size := by omega
  have hrw : w.heap.size ≤ w.heap.size + 1 := by omega
  have hqw : w.heap.size ≤ w1.heap.size := by omega
  clear HO hR hk1
  go_wp2_with fail
  generalize w1.heap.size = q at *
  go_loopw [7] (fun i wr => ∃ (k : Nat) (e : Int) (p : Nat), k ≤ ts.length ∧ i = .int .i64 k ∧ RInv w wr (w.heap.size + 1) w.heap.size cap q xs e p) (fun i _ => ts.length - (intOf i).toNat)
  case atStart => exact ⟨0, 0, 0, Nat.zero_le _, rfl, i0⟩
  case round =>
    obtain ⟨k, e, p, hk, rfl, hI⟩ := hrel
    by_cases hlt : k < ts.length
    · obtain ⟨ck, cn, k0⟩ := H.out k hlt
      generalize ts.getD k default = t at *
      have d0 := hI.kept.cell ck (by simp)
      have d1 := hI.kept.cell cn (by simp)
      clear ck cn
      have hrqd := hI.rq.drew
      go_wp2_with fail
      have hkd : Keeps [] w wr.drew := hI.kept.drew
      have hge := hI.good
      refine wp_region_any (by kernel_rfl) ?_
      change wpAny _ _ _ _ _ _ _ (World.drew _)
      have d0' : wr.drew.cell? ⟨lb, off + k * 2, none⟩ = some (.int .u8 t.k) := d0
      have d1' : wr.drew.cell? ⟨lb, off + k * 2 + 1, none⟩ = some (.int .i64 t.n) := d1
      clear d0 d1 hI
      generalize wr.drew = X at *
      refine wpAny_take (i := 0) (v := .pointer (some ⟨w.heap.size + 1, 0, none⟩)) rfl (by kernel_rfl) (by kernel_rfl) (by kernel_rfl) (fun _ _ _ h => h) (Or.inl ⟨by rfl, fun w => by go_simp⟩) ?_
      refine wpAny_take (i := 1) (v := .pointer (some ⟨q, 0, none⟩)) rfl (by kernel_rfl) (by kernel_rfl) (by kernel_rfl) (fun _ _ _ h => h) (Or.inl ⟨by rfl, fun w => by go_simp⟩) ?_
      refine wpAny_take (i := 2) (v := .slice (some ⟨lb, off, none⟩) ts.length c) rfl (by kernel_rfl) (by kernel_rfl) (by kernel_rfl) (fun _ _ _ h => h) (Or.inl ⟨by rfl, fun w => by go_simp⟩) ?_
      refine wpAny_take (i := 3) (v := .int .i64 k) rfl (by kernel_rfl) (by kernel_rfl) (by kernel_rfl) (fun _ _ _ h => h) (Or.inl ⟨by rfl, fun w => by go_simp⟩) ?_
      refine wpAny_ready (rs := [4]) (by kernel_rfl) (by simp) ?_
      refine AllReady.cons rfl (fun K hK => ?_) AllReady.nil
      go_simp
      refine hK _ _ ?_
      clear hK K
      refine wpAny_ready (rs := [5]) (by kernel_rfl) (by simp) ?_
      refine AllReady.cons rfl (fun K hK => ?_) AllReady.nil
      go_simp
      refine hK _ _ ?_
      clear hK K
      refine wpAny_ready (rs := [6]) (by kernel_rfl) (by simp) ?_
      refine AllReady.cons rfl (fun K hK => ?_) AllReady.nil
      go_simp
      refine (one_any _ _ _ cap q p xs e hrqd hge hgq HX.out hxl t.k t.n k0).mono ?_
      rintro x w2 ⟨rfl, hk2, e2, p2, hge2, hrq2⟩
      obtain ⟨q0, q1, q2⟩ := hrq2.cells
      have hqq : ∀ n, QAt (w2.drewN n) q xs e2 p2 := fun n => hrq2.qat
      have HQQ := Lib.hid hqq; clear hqq
      have HGE2 := Lib.hid hge2; clear hge2 hge
      refine hK _ _ ?_
      clear hK K
      refine wpAny_of_quiet (C := fun w' => ∃ n, w' = w2.drewN n) (Q := fun a' => ∀ w', (∃ n, w' = w2.drewN n) → _) (fun a w' hw' h => h w' hw') _ _ _ _ ⟨0, rfl⟩ ?_
      refine wpAnyQ_lex (by kernel_rfl) _ 7 _ _ (fun j => by simp [Nat.add_comm]) (by kernel_rfl) ?_
      repeat (go_big_quiet_step (first
        | (go_at_call 13; exact Calls.quiet_of_same ((Err_any _ _ _ cap p2 xs e2 (hrq2.rat.drewN _)).mono fun _ _ ⟨a, b⟩ => ⟨a, b.symm⟩))
        | (go_at_call 14; exact Calls.quiet_of_same ((At_any _ _ _ cap p2 xs e2 (hrq2.rat.drewN _)).mono fun _ _ ⟨a, b⟩ => ⟨a, b.symm⟩))
        | (go_at_call 15; exact Calls.quiet_of (Left_S (hrq2.drewN _) hxl))
        | (go_at_call 16; exact Calls.quiet_of (Close_any _ _ _ cap p2 xs e2 (hrq2.rat.drewN _) hxl))
        | (go_at_call 17; exact Calls.quiet_of_same ((qClose_any _ q p2 xs e2 (HQQ.out _) hrq2.rat.le hxl).mono fun _ _ ⟨a, b⟩ => ⟨a, b.symm⟩))))
      refine wpQuiet_nil ?_
      rintro w' ⟨nq, rfl⟩
      have hI2 : RInv w (w2.drewN nq) (w.heap.size + 1) w.heap.size cap q xs e2 p2 := ⟨hrq2.drewN nq, HGE2.out, (hkd.trans hk2 (fun g hg => .inr (by simp at hg; omega))).drewN nq⟩
      clear q0 q1 q2 hrq2 hk2 hkd hrqd d0' d1'
      go_wp2_with fail
      go_roundw
      case rel => exact ⟨k + 1, e2, p2, by omega, by go_num, hI2⟩
      case measure => simp [intOf]; omega
    · obtain rfl : k = ts.length := by omega
      have hR := hI.rq.rat
      have hkp := hI.kept
      have he1 : (e != 1) = true := by
        rcases hI.good with rfl | rfl <;> decide
      clear hI
      go_wp2_with fail
      refine (Err_any _ _ _ cap p xs e hR).mono ?_
      rintro x w2 ⟨rfl, rfl⟩
      go_wp2_with fail
      refine (awake_true _).mono ?_
      rintro x w3 ⟨rfl, hk3⟩
      go_wp2_with fail
      go_ret
      exact ⟨rfl, hkp.step hk3 (fun _ h => h)⟩
set_option maxHeartbeats 1000000 in
theorem reads_long (w : World) (s : ByteArray) (a : Option Addr) (n c : Nat) (hs : (3000 : Int) < (s.size : Int)) :
    Calls Try.prog 4 #[.string s, .slice a n c] w fun e w' => e = .returned (.bool true) ∧ Keeps [] w w' := by
  go_enter Try.func4, Try.ntmps4
  go_wp2_with fail
  refine (awake_true _).mono ?_
  rintro x w3 ⟨rfl, hk3⟩
  go_wp2_with fail
  go_ret
  exact ⟨rfl, hk3⟩
set_option maxHeartbeats 1000000 in
theorem reads_many (w : World) (s : ByteArray) (a : Option Addr) (n c : Nat) (hs : ¬ (3000 : Int) < (s.size : Int)) (hn : (100 : Int) < (n : Int)) :
    Calls Try.prog 4 #[.string s, .slice a n c] w fun e w' => e = .returned (.bool true) ∧ Keeps [] w w' := by
  go_enter Try.func4, Try.ntmps4
  go_wp2_with fail
  refine (awake_true _).mono ?_
  rintro x w3 ⟨rfl, hk3⟩
  go_wp2_with fail
  go_ret
  exact ⟨rfl, hk3⟩
set_option maxHeartbeats 1000000 in
theorem reads_empty (w : World) (s : ByteArray) (a : Option Addr) (c : Nat) (hs : ¬ (3000 : Int) < (s.size : Int)) :
    Calls Try.prog 4 #[.string s, .slice a 0 c] w fun e w' => e = .returned (.bool true) ∧ Keeps [] w w' := by
  have hO := Over_any w s
  generalize nums s = xs at *
  have HO := Lib.hid hO; clear hO
  go_enter Try.func4, Try.ntmps4
  go_wp2_with fail
  refine HO.out.mono ?_
  rintro x w1 ⟨rfl, ⟨cap, hR⟩, hk1⟩
  have hR2 := hR.keeps ((Keeps.refl [] _).alloc (.cells #[.string s, .int .i64 0, .int .i64 0] 46)) (by simp) (by simp)
  have hk2 := hk1.alloc (.cells #[.string s, .int .i64 0, .int .i64 0] 46)
  go_wp2_with fail
  refine wp_loop_rounds 1 ?_
  rw [rounds_succ]
  go_wp2_with fail
  refine (Err_any _ _ _ cap 0 xs 0 hR2).mono ?_
  rintro x w2 ⟨rfl, rfl⟩
  go_wp2_with fail
  refine (awake_true _).mono ?_
  rintro x w3 ⟨rfl, hk3⟩
  go_wp2_with fail
  go_ret
  exact ⟨rfl, hk2.step hk3 (fun _ h => h)⟩
end Go.Proofs.Ytchenofgmmgdmaa
