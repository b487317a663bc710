/-
  The program's guess and Parse.
-/
import Derived.LoopTactic
import Derived.Laws.ResultCell
import Derived.Test.YtnehnbhdkhgakaaDoorG18
import Derived.Test.YtnehnbhdkhgakaaDoorG04
set_option linter.unusedSimpArgs false
set_option linter.unusedVariables false
namespace Go.Proofs.YtnehnbhdkhgakaaDoor
open Go.RowKit
/-- A function that hands back an answer; an answer and an error. -/
theorem results_row {fn : Func} {p : Tmp} (h : fn.results = #[.cell p 26]) (tmps : Array Value) (w : World) (b : Nat) {x y : Value} {t : TypeId}
    (hp : tmps.getD p undef = .pointer (some ⟨b, 0, none⟩)) (hb : w.heap[b]? = some (.cells #[x, y] t (0, 0))) : (results fn tmps).run Tryd.prog w = .ok (.agg #[x, y]) w :=
  results_cell_row h tmps w b t _ _ _ hp hb Tryd.underlying26 rfl (by kernel_rfl)
set_option maxRecDepth 100000 in
theorem results_row2 {fn : Func} {p u : Tmp} (h : fn.results = #[.cell p 26, .tmp u]) (tmps : Array Value) (w : World) (b : Nat) {x y : Value} {t : TypeId}
    (hp : tmps.getD p undef = .pointer (some ⟨b, 0, none⟩)) (hb : w.heap[b]? = some (.cells #[x, y] t (0, 0))) : (results fn tmps).run Tryd.prog w = .ok (.tuple #[.agg #[x, y], tmps.getD u undef]) w := by
  have h1 : (loadVar 26 ⟨b, 0, none⟩).run Tryd.prog w = .ok (.agg #[x, y]) w := run_loadVar_row w b t 26 _ _ _ hb Tryd.underlying26 rfl (by kernel_rfl)
  rw [results_cell_tmp h, hp]
  simp [asAddr, h1, Result.andThen]
theorem cut_rest (l sep : List UInt8) : (Lib.cut l sep).2.1.length ≤ l.length := by
  unfold Lib.cut
  split
  · simp
  · simp
def wordsV : Value := .agg #[.string ⟨#[100, 111, 110, 101]⟩, .string ⟨#[118, 97, 108, 117, 101]⟩, .string ⟨#[110, 111, 110, 101]⟩, .string ⟨#[121, 101, 115]⟩, .string ⟨#[110, 111]⟩]
end Go.Proofs.YtnehnbhdkhgakaaDoor
/-
  The program's Parse.
-/
namespace Go.Proofs.YtnehnbhdkhgakaaDoor
open Go.RowKit
end Go.Proofs.YtnehnbhdkhgakaaDoor
/-
  Take: the program's.
-/
namespace Go.Proofs.YtnehnbhdkhgakaaDoor
open Go.RowKit
def tkE2 (xs : List Int) (e : Int) (p : Nat) : Int := if rdVal 1 xs e p = 1 then rdErr 2 xs (rdErr 1 xs e p) (rdPos 1 xs e p) else rdErr 1 xs e p
def tkP2 (xs : List Int) (e : Int) (p : Nat) : Nat := if rdVal 1 xs e p = 1 then rdPos 2 xs (rdErr 1 xs e p) (rdPos 1 xs e p) else rdPos 1 xs e p
def tkV0 (xs : List Int) (e : Int) (p : Nat) : Int := if rdVal 1 xs e p = 1 then rdVal 2 xs (rdErr 1 xs e p) (rdPos 1 xs e p) else 0
def tkE (xs : List Int) (e : Int) (p : Nat) : Int := if tkE2 xs e p ≠ 0 then tkE2 xs e p else if 4 < rdVal 1 xs e p then 4 else 0
def tkK (xs : List Int) (e : Int) (p : Nat) : Int := if tkE xs e p = 0 then rdVal 1 xs e p else 0
def tkV (xs : List Int) (e : Int) (p : Nat) : Int := if tkE xs e p = 0 then tkV0 xs e p else 0
theorem rdVal1_b {xs : List Int} (hx : InU8 xs) (e : Int) (p : Nat) : 0 ≤ rdVal 1 xs e p ∧ rdVal 1 xs e p < 256 := by
  unfold rdVal
  split
  · rename_i h
    rw [numOf_1 xs p h.2]
    exact hx _
  · omega
theorem rdVal2_b {xs : List Int} (hx : InU8 xs) (e : Int) (p : Nat) : 0 ≤ rdVal 2 xs e p ∧ rdVal 2 xs e p < 65536 := by
  unfold rdVal
  split
  · rename_i h
    rw [numOf_2 xs p h.2]
    have h1 := hx (p + 0); have h2 := hx (p + 1)
    omega
  · omega
theorem nums_in (s : ByteArray) : InU8 (nums s) := by
  intro j
  rw [nb_nums, nb_getD]
  have := (s.data.toList.getD j 0).toNat_lt
  omega
/-- What is left of Take behind its reads. -/
theorem tk_cases (xs : List Int) (e : Int) (p : Nat) (hx : InU8 xs) : ∃ (K V E2 : Int), K = rdVal 1 xs e p ∧ V = tkV0 xs e p ∧ E2 = tkE2 xs e p ∧ 0 ≤ K ∧ K < 256 ∧ 0 ≤ V ∧ V < 65536 ∧
    ((E2 ≠ 0 ∧ tkE xs e p = E2 ∧ tkK xs e p = 0 ∧ tkV xs e p = 0) ∨ (E2 = 0 ∧ 4 < K ∧ tkE xs e p = 4 ∧ tkK xs e p = 0 ∧ tkV xs e p = 0) ∨ (E2 = 0 ∧ K ≤ 4 ∧ tkE xs e p = 0 ∧ tkK xs e p = K ∧ tkV xs e p = V)) := by
  have hK := rdVal1_b hx e p
  have hV : 0 ≤ tkV0 xs e p ∧ tkV0 xs e p < 65536 := by
    unfold tkV0; split
    · exact rdVal2_b hx _ _
    · omega
  refine ⟨_, _, _, rfl, rfl, rfl, hK.1, hK.2, hV.1, hV.2, ?_⟩
  by_cases h2 : tkE2 xs e p = 0
  · by_cases h4 : 4 < rdVal 1 xs e p
    · have : tkE xs e p = 4 := by simp [tkE, h2, h4]
      exact .inr (.inl ⟨h2, h4, this, by simp [tkK, this], by simp [tkV, this]⟩)
    · have : tkE xs e p = 0 := by simp [tkE, h2, h4]
      exact .inr (.inr ⟨h2, by omega, this, by simp [tkK, this], by simp [tkV, this]⟩)
  · have : tkE xs e p = tkE2 xs e p := by simp [tkE, h2]
    exact .inl ⟨h2, this, by simp [tkK, this, h2], by simp [tkV, this, h2]⟩
theorem boxedF {w w1 : World} {F : List Nat} {a b : Value} {t : TypeId} (hk : Keeps F (w.alloc (.cells #[a, b] t)) w1) (hF : w.heap.size ∉ F) : w1.heap[w.heap.size]? = some (.cells #[a, b] t (0, 0)) := hk.heap (heap_alloc_new w _) hF
theorem isKind_yes (w : World) (k : Int) (h0 : 0 ≤ k) (h1 : k ≤ 4) : Calls Tryd.prog 83 #[.int .u8 k] w fun e w' => e = .returned (.bool true) ∧ w = w' := by
  have h := isKind_any w k h0 (by omega)
  rwa [show decide (k < 5) = true by simp; omega] at h
theorem isKind_no (w : World) (k : Int) (h0 : 4 < k) (h1 : k < 256) : Calls Tryd.prog 83 #[.int .u8 k] w fun e w' => e = .returned (.bool false) ∧ w = w' := by
  have h := isKind_any w k (by omega) h1
  rwa [show decide (k < 5) = false by simp; omega] at h
set_option maxHeartbeats 2000000 in
theorem Take_any (w : World) (r g cap p : Nat) (xs : List Int) (e : Int) (h : RAt w r g cap xs e p) (hx : InU8 xs) (hl : xs.length ≤ 1000000) (hgn : g < w.heap.size) :
    Calls Tryd.prog 70 #[.pointer (some ⟨r, 0, none⟩)] w fun x w' => x = .returned (.tuple #[.agg #[.int .u8 (tkK xs e p), .int .u16 (tkV xs e p)], .int .i64 (tkE xs e p)]) ∧ RAt w' r g cap xs (tkE2 xs e p) (tkP2 xs e p) ∧ Keeps [r] w w' := by
  obtain ⟨K, V, E2, hK, hV, hE2, k0, k1, v0, v1, hcase⟩ := tk_cases xs e p hx
  have hr1 := fun w h => RU8_any w r g cap p xs e h hx hl
  have hrlt : r < w.heap.size := lt_of_block h.blk
  have hgl : g ≠ w.heap.size := by omega
  generalize hrk : tkK xs e p = RK at *
  generalize hrv : tkV xs e p = RV at *
  generalize hre : tkE xs e p = RE at *
  clear hrk hrv hre
  have h1 : RAt (w.alloc (.cells #[.int .u8 0, .int .u16 0] 26)) r g cap xs e p := h.keeps ((Keeps.refl [] _).alloc _) (by simp) (by simp)
  by_cases hk1 : rdVal 1 xs e p = 1
  · have e2 : tkE2 xs e p = rdErr 2 xs (rdErr 1 xs e p) (rdPos 1 xs e p) := by rw [tkE2, if_pos hk1]
    have e3 : tkP2 xs e p = rdPos 2 xs (rdErr 1 xs e p) (rdPos 1 xs e p) := by rw [tkP2, if_pos hk1]
    have e4 : tkV0 xs e p = rdVal 2 xs (rdErr 1 xs e p) (rdPos 1 xs e p) := by rw [tkV0, if_pos hk1]
    rw [hk1] at hK
    subst hK
    rw [← hE2] at e2 ⊢
    rw [e3]
    rw [← hV] at e4
    rw [hk1] at hr1
    have hr2 := fun w h => RU16_any w r g cap (rdPos 1 xs e p) xs (rdErr 1 xs e p) h hx hl
    rw [← e2, ← e4] at hr2
    generalize rdErr 1 xs e p = E1 at *
    generalize rdPos 1 xs e p = P1 at *
    generalize rdPos 2 xs E1 P1 = P2 at *
    clear e2 e3 e4 hE2 hV hk1
    go_enter Tryd.func70, Tryd.ntmps70
    go_wp2_with fail
    refine (hr1 _ h1).mono ?_; rintro x w1 ⟨rfl, hR1, hk2⟩
    have hb0 := boxedF hk2 (by simp; omega)
    replace hk2 := ((Keeps.refl [r] w).alloc _).trans hk2 (FSub.refl _ _)
    have hlt0 := lt_of_block hb0
    have hg : g ≠ w.heap.size := hgl
    have h2 : RAt (w1.alloc (.cells #[.int .u8 1, .int .u16 0] 26)) r g cap xs E1 P1 := hR1.keeps ((Keeps.refl [] _).alloc _) (by simp) (by simp)
    go_wp2_with fail
    refine (hr2 _ h2).mono ?_; rintro x w2 ⟨rfl, hR2, hk3⟩
    have hb0' := hk3.heap (heap_alloc_lt hb0) (by simp; omega)
    have hb1' := boxedF hk3 (by simp; omega)
    replace hk3 := (hk2.alloc _).trans hk3 (FSub.refl _ _)
    have hW3 : ∃ W3, W3 = w2.setCell ⟨w1.heap.size, 1, none⟩ (.int .u16 V) := ⟨_, rfl⟩
    obtain ⟨W3, hW3⟩ := hW3
    have kset : Keeps [w1.heap.size] w2 W3 := by rw [hW3]; exact (Keeps.refl _ _).setCell _ _ (by simp)
    have hB0 := kset.heap hb0' (by simp; omega)
    have hB1 : W3.heap[w1.heap.size]? = some (.cells #[.int .u8 1, .int .u16 V] 26 (0, 0)) := by rw [hW3, heap_setCell_same _ _ _ _ _ _ hb1']; rfl
    have hgw1 : g ≠ w1.heap.size := by omega
    have hR3 := hR2.keeps kset (by simp; omega) (by simpa using hgw1)
    have hK3 : Keeps [r] w W3 := by rw [hW3]; exact hk3.setCell _ _ (.inr (show w.heap.size ≤ w1.heap.size by omega))
    obtain ⟨d0, d1, hlt1⟩ := cell2 hb1'
    have f1 : w2.frozen? ⟨w1.heap.size, 1, none⟩ = false := by simp [World.frozen?, hb1']
    have HW := Lib.hid hW3; clear hW3 hb0' hb1' kset hb0
    go_wp2_with fail
    rw [← HW.out]
    clear d0 d1 f1
    refine (Err_any _ r g cap _ xs _ hR3).mono ?_; rintro x w4 ⟨rfl, rfl⟩
    obtain ⟨c0, c1, hlt0⟩ := cell2 hB0
    obtain ⟨d0, d1, hlt1⟩ := cell2 hB1
    have f0 : W3.frozen? ⟨w.heap.size, 0, none⟩ = false := by simp [World.frozen?, hB0]
    have f1 : W3.frozen? ⟨w.heap.size, 1, none⟩ = false := by simp [World.frozen?, hB0]
    have fin : ∀ a b, RAt ((W3.setCell ⟨w.heap.size, 0, none⟩ a).setCell ⟨w.heap.size, 1, none⟩ b) r g cap xs E2 P2 ∧ Keeps [r] w ((W3.setCell ⟨w.heap.size, 0, none⟩ a).setCell ⟨w.heap.size, 1, none⟩ b) := fun a b =>
      ⟨hR3.keeps (((Keeps.refl [w.heap.size] _).setCell _ _ (by simp)).setCell _ _ (by simp)) (by simp; omega) (by simpa using hg), (hK3.setCell _ _ (.inr (Nat.le_refl _))).setCell _ _ (.inr (Nat.le_refl _))⟩
    rcases hcase with ⟨z2, rfl, rfl, rfl⟩ | ⟨rfl, z4, rfl, rfl, rfl⟩ | ⟨rfl, z4, rfl, rfl, rfl⟩
    · have z2' : (RE != 0) = true := by simpa using z2
      have hr := put2 hB0 (.int .u8 0) (.int .u16 0)
      clear hB0 hB1
      go_wp2_with fail
      try simp only [Exit.inBlock, Exit.then]
      exact bodyPost_ret (results_row2 rfl _ _ _ rfl hr) rfl ⟨rfl, fin _ _⟩
    · omega
    · have hr := put2 hB0 (.int .u8 1) (.int .u16 RV)
      clear hB0 hB1
      go_wp2_with fail
      refine (isKind_yes _ 1 (by omega) (by omega)).mono ?_; rintro x w5 ⟨rfl, rfl⟩
      go_wp2_with fail
      try simp only [Exit.inBlock, Exit.then]
      exact bodyPost_ret (results_row2 rfl _ _ _ rfl hr) rfl ⟨rfl, fin _ _⟩
  · have e2 : tkE2 xs e p = rdErr 1 xs e p := by rw [tkE2, if_neg hk1]
    have e3 : tkP2 xs e p = rdPos 1 xs e p := by rw [tkP2, if_neg hk1]
    have e4 : tkV0 xs e p = 0 := by rw [tkV0, if_neg hk1]
    rw [← hE2] at e2 ⊢
    rw [e3]
    rw [← hV] at e4
    subst e4
    rw [← e2, ← hK] at hr1
    rw [← hK] at hk1
    have hk1' : (K == 1) = false := by simpa using hk1
    generalize rdPos 1 xs e p = P1 at *
    clear e2 e3 hE2 hV hK hk1
    go_enter Tryd.func70, Tryd.ntmps70
    go_wp2_with fail
    refine (hr1 _ h1).mono ?_; rintro x w1 ⟨rfl, hR1, hk2⟩
    have hb0 := boxedF hk2 (by simp; omega)
    replace hk2 := ((Keeps.refl [r] w).alloc _).trans hk2 (FSub.refl _ _)
    have hlt0 := lt_of_block hb0
    have hg : g ≠ w.heap.size := hgl
    obtain ⟨W3, hW3⟩ : ∃ W3, W3 = w1.alloc (.cells #[.int .u8 K, .int .u16 0] 26) := ⟨_, rfl⟩
    have kset : Keeps [] w1 W3 := by rw [hW3]; exact (Keeps.refl _ _).alloc _
    have hB0 := kset.heap hb0 (by simp)
    have hB1 : W3.heap[w1.heap.size]? = some (.cells #[.int .u8 K, .int .u16 0] 26 (0, 0)) := by rw [hW3]; exact heap_alloc_new _ _
    have hR3 := hR1.keeps kset (by simp) (by simp)
    have hK3 : Keeps [r] w W3 := by rw [hW3]; exact hk2.alloc _
    have HW := Lib.hid hW3; clear hW3 hb0 kset
    go_wp2_with fail
    rw [← HW.out]
    refine (Err_any _ r g cap _ xs _ hR3).mono ?_; rintro x w4 ⟨rfl, rfl⟩
    obtain ⟨c0, c1, hlt0⟩ := cell2 hB0
    obtain ⟨d0, d1, hlt1⟩ := cell2 hB1
    have f0 : W3.frozen? ⟨w.heap.size, 0, none⟩ = false := by simp [World.frozen?, hB0]
    have f1 : W3.frozen? ⟨w.heap.size, 1, none⟩ = false := by simp [World.frozen?, hB0]
    have fin : ∀ a b, RAt ((W3.setCell ⟨w.heap.size, 0, none⟩ a).setCell ⟨w.heap.size, 1, none⟩ b) r g cap xs E2 P1 ∧ Keeps [r] w ((W3.setCell ⟨w.heap.size, 0, none⟩ a).setCell ⟨w.heap.size, 1, none⟩ b) := fun a b =>
      ⟨hR3.keeps (((Keeps.refl [w.heap.size] _).setCell _ _ (by simp)).setCell _ _ (by simp)) (by simp; omega) (by simpa using hg), (hK3.setCell _ _ (.inr (Nat.le_refl _))).setCell _ _ (.inr (Nat.le_refl _))⟩
    rcases hcase with ⟨z2, rfl, rfl, rfl⟩ | ⟨rfl, z4, rfl, rfl, rfl⟩ | ⟨rfl, z4, rfl, rfl, rfl⟩
    · have z2' : (RE != 0) = true := by simpa using z2
      have hr := put2 hB0 (.int .u8 0) (.int .u16 0)
      clear hB0 hB1
      go_wp2_with fail
      try simp only [Exit.inBlock, Exit.then]
      exact bodyPost_ret (results_row2 rfl _ _ _ rfl hr) rfl ⟨rfl, fin _ _⟩
    · have hr := put2 hB0 (.int .u8 0) (.int .u16 0)
      clear hB0 hB1
      go_wp2_with fail
      refine (isKind_no _ K (by omega) (by omega)).mono ?_; rintro x w5 ⟨rfl, rfl⟩
      go_wp2_with fail
      try simp only [Exit.inBlock, Exit.then]
      exact bodyPost_ret (results_row2 rfl _ _ _ rfl hr) rfl ⟨rfl, fin _ _⟩
    · have hr := put2 hB0 (.int .u8 RK) (.int .u16 0)
      clear hB0 hB1
      go_wp2_with fail
      refine (isKind_yes _ RK (by omega) (by omega)).mono ?_; rintro x w5 ⟨rfl, rfl⟩
      go_wp2_with fail
      try simp only [Exit.inBlock, Exit.then]
      exact bodyPost_ret (results_row2 rfl _ _ _ rfl hr) rfl ⟨rfl, fin _ _⟩
end Go.Proofs.YtnehnbhdkhgakaaDoor
/-
  What is taken of what was put; what was taken is what was put.
-/
namespace Go.Proofs.YtnehnbhdkhgakaaDoor
open Go.RowKit
theorem numOf_one (x : Int) : numOf [x] = x := by simp [numOf]
theorem numOf_two (x y : Int) : numOf [x, y] = x * 256 + y := by simp [numOf]
theorem tk_put {k v : Int} (h0 : 0 ≤ k) (v0 : 0 ≤ v) (v1 : v < 65536) (hg : rsGood k v = true) (ys : List Int) :
    tkK (rsPut k v ++ ys) 0 0 = k ∧ tkV (rsPut k v ++ ys) 0 0 = v ∧ tkE (rsPut k v ++ ys) 0 0 = 0 ∧ tkE2 (rsPut k v ++ ys) 0 0 = 0 ∧ tkP2 (rsPut k v ++ ys) 0 0 = (rsPut k v).length := by
  rcases good_cases h0 hg with rfl | ⟨rfl, hk⟩
  · have e : rsPut 1 v = [1, v / 256, v % 256] := rfl
    rw [e]
    have r1 : rdVal 1 ([1, v / 256, v % 256] ++ ys) 0 0 = 1 := by simp [rdVal, numOf]
    have r2 : rdErr 1 ([1, v / 256, v % 256] ++ ys) 0 0 = 0 := by simp [rdErr]
    have r3 : rdPos 1 ([1, v / 256, v % 256] ++ ys) 0 0 = 1 := by simp [rdPos]
    have r4 : rdVal 2 ([1, v / 256, v % 256] ++ ys) 0 1 = v := by simp [rdVal, numOf]; omega
    have r5 : rdErr 2 ([1, v / 256, v % 256] ++ ys) 0 1 = 0 := by simp [rdErr]
    have r6 : rdPos 2 ([1, v / 256, v % 256] ++ ys) 0 1 = 3 := by simp [rdPos]
    have q1 : tkE2 ([1, v / 256, v % 256] ++ ys) 0 0 = 0 := by rw [tkE2, if_pos r1, r2, r3, r5]
    have q2 : tkE ([1, v / 256, v % 256] ++ ys) 0 0 = 0 := by rw [tkE, q1, r1]; rfl
    refine ⟨by rw [tkK, if_pos q2, r1], by rw [tkV, if_pos q2, tkV0, if_pos r1, r2, r3, r4], q2, q1, by rw [tkP2, if_pos r1, r2, r3, r6]; rfl⟩
  · have hk1 : k ≠ 1 := by omega
    have e : rsPut k 0 = [k] := by unfold rsPut; rw [if_neg hk1]
    rw [e]
    have r1 : rdVal 1 ([k] ++ ys) 0 0 = k := by simp [rdVal, numOf]
    have r2 : rdErr 1 ([k] ++ ys) 0 0 = 0 := by simp [rdErr]
    have r3 : rdPos 1 ([k] ++ ys) 0 0 = 1 := by simp [rdPos]
    have hk2 : ¬ rdVal 1 ([k] ++ ys) 0 0 = 1 := by rw [r1]; exact hk1
    have q1 : tkE2 ([k] ++ ys) 0 0 = 0 := by rw [tkE2, if_neg hk2, r2]
    have q2 : tkE ([k] ++ ys) 0 0 = 0 := by rw [tkE, q1, r1]; simp; omega
    refine ⟨by rw [tkK, if_pos q2, r1], by rw [tkV, if_pos q2, tkV0, if_neg hk2], q2, q1, by rw [tkP2, if_neg hk2, r3]; rfl⟩
theorem rdErr_one' {xs : List Int} {e : Int} {p : Nat} (h : rdVal 1 xs e p = 1) : rdErr 1 xs e p = 0 ∧ p + 1 ≤ xs.length := by
  unfold rdVal at h
  split at h
  · rename_i h2
    exact ⟨by simp [rdErr, h2.1, h2.2], h2.2⟩
  · omega
theorem tk_back {xs : List Int} (hx : InU8 xs) (h : tkE xs 0 0 = 0) :
    rsGood (tkK xs 0 0) (tkV xs 0 0) = true ∧ rsPut (tkK xs 0 0) (tkV xs 0 0) = xs.take (tkP2 xs 0 0) ∧ tkP2 xs 0 0 ≤ xs.length ∧ 0 ≤ tkK xs 0 0 ∧ tkK xs 0 0 ≤ 4 ∧ 0 ≤ tkV xs 0 0 ∧ tkV xs 0 0 < 65536 := by
  have e2 : tkE2 xs 0 0 = 0 := by
    by_cases h2 : tkE2 xs 0 0 = 0
    · exact h2
    · rw [tkE, if_pos h2] at h; exact absurd h h2
  have h4 : ¬ 4 < rdVal 1 xs 0 0 := by
    intro h4
    simp [tkE, e2, h4] at h
  have eK : tkK xs 0 0 = rdVal 1 xs 0 0 := by rw [tkK, if_pos h]
  have eV : tkV xs 0 0 = tkV0 xs 0 0 := by rw [tkV, if_pos h]
  rw [eK, eV]
  have hb := rdVal1_b hx 0 0
  by_cases h1 : rdVal 1 xs 0 0 = 1
  · have z := rdErr_one' h1
    have hl1 : 0 + 1 ≤ xs.length := z.2
    have p1 : rdPos 1 xs 0 0 = 1 := by rw [rdPos, if_pos ⟨rfl, hl1⟩]
    have ee : tkE2 xs 0 0 = rdErr 2 xs 0 1 := by rw [tkE2, if_pos h1, z.1, p1]
    rw [ee] at e2
    have hl3 : 1 + 2 ≤ xs.length := by
      by_cases hh : 1 + 2 ≤ xs.length
      · exact hh
      · simp [rdErr, hh] at e2
    have pp : tkP2 xs 0 0 = 3 := by rw [tkP2, if_pos h1, z.1, p1, rdPos, if_pos ⟨rfl, hl3⟩]
    have vv : tkV0 xs 0 0 = xs.getD 1 0 * 256 + xs.getD 2 0 := by rw [tkV0, if_pos h1, z.1, p1, rdVal, if_pos ⟨rfl, hl3⟩, numOf_2 xs 1 hl3]
    have x0 : xs.getD 0 0 = 1 := by rw [rdVal, if_pos ⟨rfl, hl1⟩, numOf_1 xs 0 hl1] at h1; exact h1
    have b1 := hx 1
    have b2 := hx 2
    rw [h1, vv, pp]
    refine ⟨by simp [rsGood], ?_, hl3, by omega, by omega, by omega, by omega⟩
    have ex : xs.take 3 = [xs.getD 0 0, xs.getD 1 0, xs.getD 2 0] := by
      have := drop_cons xs 0 (by omega)
      rw [List.drop_zero] at this
      rw [this, drop_cons xs 1 (by omega), drop_cons xs 2 (by omega)]
      simp
    rw [ex, x0]
    show [1, _, _] = _
    congr 1
    have q1 : (xs.getD 1 0 * 256 + xs.getD 2 0) / 256 = xs.getD 1 0 := by omega
    have q2 : (xs.getD 1 0 * 256 + xs.getD 2 0) % 256 = xs.getD 2 0 := by omega
    rw [q1, q2]
  · have ee : tkE2 xs 0 0 = rdErr 1 xs 0 0 := by rw [tkE2, if_neg h1]
    rw [ee] at e2
    have hl1 : 0 + 1 ≤ xs.length := by
      by_cases hh : 0 + 1 ≤ xs.length
      · exact hh
      · rw [rdErr, if_neg (by simp), if_neg hh] at e2; omega
    have pp : tkP2 xs 0 0 = 1 := by rw [tkP2, if_neg h1, rdPos, if_pos ⟨rfl, hl1⟩]
    have vv : tkV0 xs 0 0 = 0 := by rw [tkV0, if_neg h1]
    have x0 : rdVal 1 xs 0 0 = xs.getD 0 0 := by rw [rdVal, if_pos ⟨rfl, hl1⟩, numOf_1 xs 0 hl1]
    rw [vv, pp]
    refine ⟨by simp [rsGood]; omega, ?_, by omega, by omega, by omega, by omega, by omega⟩
    have ex : xs.take 1 = [xs.getD 0 0] := by
      have := drop_cons xs 0 (by omega)
      rw [List.drop_zero] at this
      rw [this]; simp
    rw [ex, ← x0]
    unfold rsPut
    rw [if_neg h1]
theorem put_bytes {k v : Int} (h0 : 0 ≤ k) (v0 : 0 ≤ v) (v1 : v < 65536) (hg : rsGood k v = true) : (∀ x ∈ rsPut k v, 0 ≤ x ∧ x < 256) ∧ (rsPut k v).length ≤ 3 := by
  rcases good_cases h0 hg with rfl | ⟨rfl, hk⟩
  · have e : rsPut 1 v = [1, v / 256, v % 256] := rfl
    rw [e]
    refine ⟨?_, by simp⟩
    intro x hx
    simp at hx
    omega
  · have e : rsPut k 0 = [k] := by unfold rsPut; rw [if_neg (by omega)]
    rw [e]
    refine ⟨?_, by simp⟩
    intro x hx
    simp at hx
    omega
end Go.Proofs.YtnehnbhdkhgakaaDoor
