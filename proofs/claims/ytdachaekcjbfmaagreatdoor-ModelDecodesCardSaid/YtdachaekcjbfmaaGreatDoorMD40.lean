/-
  The document's object: Decode, Idle.
-/
import Derived.Test.YtdachaekcjbfmaaGreatDoorMD27
import Derived.Test.YtdachaekcjbfmaaGreatDoorMD31
import Derived.Test.YtdachaekcjbfmaaGreatDoorMD20
import Derived.Test.YtdachaekcjbfmaaGreatDoorMD09
import Derived.Test.YtdachaekcjbfmaaGreatDoorMD35
set_option linter.unusedSimpArgs false
set_option linter.unusedVariables false
namespace Go.Proofs.YtdachaekcjbfmaaGreatDoor
open Go.RowKit
set_option maxRecDepth 100000
set_option maxHeartbeats 8000000
theorem r13Idle_any (w : World) {m f : Int} : Calls Tryz.prog 19 #[.int .u8 m, .int .u8 f] w fun e w' => e = .returned (.bool (mdIdle m f)) ∧ Keeps [] w w' := by
  by_cases h0 : m = 0
  · subst h0
    by_cases h1 : f = 1
    · subst h1
      go_enter Tryz.func19, Tryz.ntmps19
      go_wp2_with fail
      go_ret
      exact ⟨rfl, Keeps.refl _ _⟩
    · have e : mdIdle 0 f = false := by unfold mdIdle; exact decide_eq_false (by omega)
      have z : (f == 1) = false := by simpa using h1
      rw [e]
      clear e h1
      go_enter Tryz.func19, Tryz.ntmps19
      go_wp2_with fail
      go_ret
      exact ⟨rfl, Keeps.refl _ _⟩
  · by_cases h2 : m = 2
    · subst h2
      have e : mdIdle 2 f = (f == 6) := by unfold mdIdle; by_cases h : f = 6 <;> simp [h]
      rw [e]
      clear e h0
      go_enter Tryz.func19, Tryz.ntmps19
      go_wp2_with fail
      go_ret
      exact ⟨rfl, Keeps.refl _ _⟩
    · have e : mdIdle m f = false := by unfold mdIdle; exact decide_eq_false (by omega)
      have z0 : (m == 0) = false := by simpa using h0
      have z2 : (m == 2) = false := by simpa using h2
      rw [e]
      clear e h0 h2
      go_enter Tryz.func19, Tryz.ntmps19
      go_wp2_with fail
      go_ret
      exact ⟨rfl, Keeps.refl _ _⟩
/-- What Decode hands back. -/
def Dec13 (w : World) (m : Int) (b : List UInt8) (e : Ending) (w' : World) : Prop :=
  ∃ A : List Value, e = .returned (.tuple #[.agg A.toArray, .int .i64 (mdD m b).2]) ∧ skD.Ok A ∧ (∀ S, (mdD m b).1 = some S → ∃ q mm, A = mdC S q mm ∧ D13 w' S q mm ∧ (∀ p ∈ own q, w.heap.size ≤ p) ∧ (∀ p ∈ own mm, w.heap.size ≤ p)) ∧ Keeps [] w w'
theorem r13Decode_far (w : World) {m : Int} (h3 : 3 < m) (h4 : m < 256) (b : List UInt8) : Calls Tryz.prog 17 #[.int .u8 m, .string (bs b)] w (Dec13 w m b) := by
  have hd : mdD m b = (none, 10) := by unfold mdD; rw [if_neg (by omega), if_neg (by omega), if_neg (by omega), if_neg (by omega)]
  have HNW := Lib.hid (fun w => by have h := r13New_any w m (by omega) h4; rw [if_neg (by omega), if_neg (by omega)] at h; exact h)
  unfold Dec13
  rw [hd]
  clear hd h3 h4
  have HN := Lib.hid (show (w.alloc (.cells #[.int .u8 0, .int .u16 0, .slice none 0 0, .slice none 0 0, .int .i64 0] 36)).heap[w.heap.size]? = some (.cells mdC0.toArray 36 (0, 0)) from heap_alloc_new w _)
  have HK := Lib.hid (show Keeps [] w (w.alloc (.cells #[.int .u8 0, .int .u16 0, .slice none 0 0, .slice none 0 0, .int .i64 0] 36)) from (Keeps.refl _ _).alloc _)
  go_enter Tryz.func17, Tryz.ntmps17
  go_wp2_with fail
  generalize w.alloc (.cells #[.int .u8 0, .int .u16 0, .slice none 0 0, .slice none 0 0, .int .i64 0] 36) = w0 at *
  refine (HNW.out _).mono ?_; rintro e w1 ⟨rfl, hk⟩
  replace HN := Lib.hid (hk.heap HN.out (by simp))
  replace HK := Lib.hid (HK.out.trans hk (FSub.refl _ _))
  clear hk
  have HC := Lib.hid (show (w1.alloc (.cells #[.int .u8 0, .int .u16 0, .slice none 0 0, .slice none 0 0, .int .i64 0] 36)).heap[w1.heap.size]? = some (.cells mdC0.toArray 36 (0, 0)) from heap_alloc_new w1 _)
  have HCK := Lib.hid (show Keeps [] w1 (w1.alloc (.cells #[.int .u8 0, .int .u16 0, .slice none 0 0, .slice none 0 0, .int .i64 0] 36)) from (Keeps.refl _ _).alloc _)
  have HL1 := Lib.hid (lt_of_block HN.out)
  go_wp2_with ((with_reducible refine wpList_putD (g := w1.heap.size) (A := mdC0) (old := mdC0) mdC0_ok mdC0_ok ?_ ?_ HC.out ?_); exact rfl; exact rfl)
  intro W hW hkW
  have hk := HCK.out.trans' hkW (Nat.le_refl _)
  replace HN := Lib.hid (hk.heap HN.out (by simp))
  replace HK := Lib.hid (HK.out.trans hk (FSub.refl _ _))
  have HB := Lib.hid hW
  clear hW hkW hk HC HCK
  generalize w1.heap.size = g at *
  go_wp2_with ((with_reducible refine wpList_putD (g := w.heap.size) (A := mdC0) (old := mdC0) mdC0_ok mdC0_ok ?_ ?_ HN.out ?_); exact rfl; exact rfl)
  intro W9 hW hkW
  have HW := Lib.hid hW; have HKW := Lib.hid hkW
  clear hW hkW
  go_wp2_with fail
  try simp only [Exit.inBlock, Exit.then]
  exact bodyPost_ret (results_sk1 skD rfl _ _ w.heap.size mdC0_ok rfl HW.out) rfl ⟨mdC0, rfl, mdC0_ok, (fun S h => by cases h), HK.out.trans HKW.out (fun q hq => .inr (by simp at hq; omega))⟩
theorem mdC_okS (S : Md) {q m : Value} (hq : q.oneCell' = true) (hm : m.oneCell' = true) : skD.Ok (mdC S q m) := ⟨rfl, fun v hv => by
  simp only [mdC, List.mem_cons, List.not_mem_nil, or_false] at hv
  rcases hv with rfl | rfl | rfl | rfl | rfl
  · rfl
  · rfl
  · exact hq
  · exact hm
  · rfl⟩
theorem wp_put13 {o : Oper} {a : Act} {w : World} {K : Act → World → Prop} {Q : Exit → Act → World → Prop} {ty : TypeId} {x y : Operand} {g j : Nat} {v : Value} {A : List Value} {t : TypeId} (ho : o.op = .store ty x y) (hi : (Tryz.prog.info? ty).map (·.size) = some 1)
    (hx : a.eval x = .pointer (some ⟨g, j, none⟩)) (hy : a.eval y = v) (hg : w.heap[g]? = some (.cells A.toArray t (0, 0))) (hj : j < A.length) (h1 : v.oneCell' = true)
    (h : ∀ W, W.heap[g]? = some (.cells (A.set j v).toArray t (0, 0)) → Keeps [g] w W → K (a.put o.dst undef) W) : o.wp Tryz.prog a w K Q := by
  unfold Oper.wp execOp
  simp only [ho, hx, hy, Instr.storeAt, Instr.sureAddr, Sem.run_bind, Sem.run_pure, Result.andThen_ok, run_put13 hi hg (by simpa using hj) h1]
  refine h _ ?_ ((Keeps.refl [g] w).setCell _ _ (.inl (by simp)))
  have := heap_setCell_same w g j _ t v hg
  simpa using this
theorem r13Decode_rg (w : World) (b : List UInt8) : Calls Tryz.prog 17 #[.int .u8 0, .string (bs b)] w (Dec13 w 0 b) := by
  have HNW := Lib.hid (fun w => by have h := r13New_any w 0 (by decide) (by decide); rw [if_pos (by decide), if_pos (by decide), show mdInit 0 = .rg 0 from rfl] at h; exact h)
  have HD0 := Lib.hid (fun w => show D13 w (.rg 0) (.slice none 0 0) (.slice none 0 0) from D13.init w 0)
  have HOK := Lib.hid (show skD.Ok (mdC (.rg 0) (.slice none 0 0) (.slice none 0 0)) from (D13.init w 0).ok)
  have HSZ := Lib.hid (show (bs b).size = b.length from by simp [bs, ByteArray.size])
  unfold Dec13
  by_cases h2 : b.length = 2
  · obtain ⟨x, y, rfl⟩ : ∃ x y, b = [x, y] := by
      match b, h2 with
      | [x, y], _ => exact ⟨x, y, rfl⟩
    rw [show mdD 0 [x, y] = (some (.rg (rgN [x, y])), 0) from rfl]
    clear HSZ h2
    have hi0 := fun w => (str_index9 w x y).1
    have hi1 := fun w => (str_index9 w x y).2
    have HN := Lib.hid (show (w.alloc (.cells #[.int .u8 0, .int .u16 0, .slice none 0 0, .slice none 0 0, .int .i64 0] 36)).heap[w.heap.size]? = some (.cells mdC0.toArray 36 (0, 0)) from heap_alloc_new w _)
    have HK := Lib.hid (show Keeps [] w (w.alloc (.cells #[.int .u8 0, .int .u16 0, .slice none 0 0, .slice none 0 0, .int .i64 0] 36)) from (Keeps.refl _ _).alloc _)
    go_enter Tryz.func17, Tryz.ntmps17
    go_wp2_with fail
    generalize w.alloc (.cells #[.int .u8 0, .int .u16 0, .slice none 0 0, .slice none 0 0, .int .i64 0] 36) = w0 at *
    refine (HNW.out _).mono ?_; rintro e w1 ⟨rfl, hk⟩
    replace HN := Lib.hid (hk.heap HN.out (by simp))
    replace HK := Lib.hid (HK.out.trans hk (FSub.refl _ _))
    clear hk
    have HC := Lib.hid (show (w1.alloc (.cells #[.int .u8 0, .int .u16 0, .slice none 0 0, .slice none 0 0, .int .i64 0] 36)).heap[w1.heap.size]? = some (.cells mdC0.toArray 36 (0, 0)) from heap_alloc_new w1 _)
    have HCK := Lib.hid (show Keeps [] w1 (w1.alloc (.cells #[.int .u8 0, .int .u16 0, .slice none 0 0, .slice none 0 0, .int .i64 0] 36)) from (Keeps.refl _ _).alloc _)
    have HL1 := Lib.hid (lt_of_block HN.out)
    go_wp2_with ((with_reducible refine wpList_putD (g := w1.heap.size) (A := mdC (.rg 0) (.slice none 0 0) (.slice none 0 0)) (old := mdC0) HOK.out mdC0_ok ?_ ?_ HC.out ?_); exact rfl; exact rfl)
    intro W hW hkW
    have hk := HCK.out.trans' hkW (Nat.le_refl _)
    replace HN := Lib.hid (hk.heap HN.out (by simp))
    replace HK := Lib.hid (HK.out.trans hk (FSub.refl _ _))
    have HB := Lib.hid hW
    clear hW hkW hk HC HCK
    generalize w1.heap.size = g at *
    have hx := x.toNat_lt; have hy := y.toNat_lt
    have e1 : IntKind.u16.wrap (x.toNat : Int) = x.toNat := by simp [IntKind.wrap, IntKind.signed, IntKind.bits]; omega
    have e2 : IntKind.u16.wrap ((x.toNat : Int) * 256) = x.toNat * 256 := by simp [IntKind.wrap, IntKind.signed, IntKind.bits]; omega
    have e3 : IntKind.u16.wrap (y.toNat : Int) = y.toNat := by simp [IntKind.wrap, IntKind.signed, IntKind.bits]; omega
    have e4 : IntKind.u16.wrap ((x.toNat : Int) * 256 + y.toNat) = x.toNat * 256 + y.toNat := by simp [IntKind.wrap, IntKind.signed, IntKind.bits]; omega
    clear hx hy
    go_wp2_with fail
    obtain ⟨S0, hS0⟩ : ∃ S0 : World → Prop, S0 = fun y => Keeps [g] W y := ⟨_, rfl⟩
    have HSE := Lib.hid hS0
    have hSD : S0 W.drew := by rw [hS0]; exact ((Keeps.refl [] _).drew).more (by simp)
    clear hS0
    refine wp_region_noPanic ?_
    refine wp_region_held_drew (S := S0) (by kernel_rfl) hSD (fun hHeld => ?_)
    apply wpAnyH_take (i := 0)
    · simp only [List.getElem?_toArray]; rfl
    · kernel_rfl
    · kernel_rfl
    · kernel_rfl
    · exact fun _ _ _ h => h
    · exact Or.inl ⟨by rfl, by intro w hSw; go_simp; try with_reducible rfl⟩
    · assumption
    try simp only [Act.put, List.setIfInBounds_toArray, List.set_cons_zero, List.set_cons_succ]
    apply wpAnyH_take (i := 1)
    · simp only [List.getElem?_toArray]; rfl
    · kernel_rfl
    · kernel_rfl
    · kernel_rfl
    · exact fun _ _ _ h => h
    · exact Or.inl ⟨by rfl, by intro w hSw; go_simp; try with_reducible rfl⟩
    · assumption
    try simp only [Act.put, List.setIfInBounds_toArray, List.set_cons_zero, List.set_cons_succ]
    apply wpAnyH_take (i := 2)
    · simp only [List.getElem?_toArray]; rfl
    · kernel_rfl
    · kernel_rfl
    · kernel_rfl
    · exact fun _ _ _ h => h
    · exact Or.inl ⟨by rfl, by intro w hSw; go_simp; try with_reducible rfl⟩
    · assumption
    try simp only [Act.put, List.setIfInBounds_toArray, List.set_cons_zero, List.set_cons_succ]
    apply wpAnyH_take (i := 3)
    · simp only [List.getElem?_toArray]; rfl
    · kernel_rfl
    · kernel_rfl
    · kernel_rfl
    · exact fun _ _ _ h => h
    · exact Or.inl ⟨by rfl, by intro w hSw; go_simp; try with_reducible rfl⟩
    · assumption
    try simp only [Act.put, List.setIfInBounds_toArray, List.set_cons_zero, List.set_cons_succ]
    apply wpAnyH_take (i := 4)
    · simp only [List.getElem?_toArray]; rfl
    · kernel_rfl
    · kernel_rfl
    · kernel_rfl
    · exact fun _ _ _ h => h
    · exact Or.inl ⟨by rfl, by intro w hSw; go_simp; try with_reducible rfl⟩
    · assumption
    try simp only [Act.put, List.setIfInBounds_toArray, List.set_cons_zero, List.set_cons_succ]
    apply wpAnyH_take (i := 5)
    · simp only [List.getElem?_toArray]; rfl
    · kernel_rfl
    · kernel_rfl
    · kernel_rfl
    · exact fun _ _ _ h => h
    · exact Or.inl ⟨by rfl, by intro w hSw; go_simp; try with_reducible rfl⟩
    · assumption
    try simp only [Act.put, List.setIfInBounds_toArray, List.set_cons_zero, List.set_cons_succ]
    apply wpAnyH_take (i := 6)
    · simp only [List.getElem?_toArray]; rfl
    · kernel_rfl
    · kernel_rfl
    · kernel_rfl
    · exact fun _ _ _ h => h
    · exact Or.inl ⟨by rfl, by intro w hSw; go_simp; try with_reducible rfl⟩
    · assumption
    try simp only [Act.put, List.setIfInBounds_toArray, List.set_cons_zero, List.set_cons_succ]
    apply wpAnyH_take (i := 7)
    · simp only [List.getElem?_toArray]; rfl
    · kernel_rfl
    · kernel_rfl
    · kernel_rfl
    · exact fun _ _ _ h => h
    · exact Or.inl ⟨by rfl, by intro w hSw; go_simp; try with_reducible rfl⟩
    · assumption
    try simp only [Act.put, List.setIfInBounds_toArray, List.set_cons_zero, List.set_cons_succ]
    apply wpAnyH_take (i := 8)
    · simp only [List.getElem?_toArray]; rfl
    · kernel_rfl
    · kernel_rfl
    · kernel_rfl
    · exact fun _ _ _ h => h
    · exact Or.inl ⟨by rfl, by intro w hSw; go_simp; try with_reducible rfl⟩
    · assumption
    try simp only [Act.put, List.setIfInBounds_toArray, List.set_cons_zero, List.set_cons_succ]
    apply wpAnyH_ready (rs := [9])
    · kernel_rfl
    · simp
    apply AllReadyH.cons (hs := AllReadyH.nil)
    · simp only [List.getElem?_toArray]; rfl
    intro K hK
    rw [if_pos (by rfl)]
    refine wp_put13 (g := g) (j := 1) (v := .int .u16 (rgN [x, y])) (A := mdC (.rg 0) (.slice none 0 0) (.slice none 0 0)) rfl (by kernel_rfl) rfl rfl (((Keeps.refl [] W).drew).heap HB.out (by simp)) (by show (1 : Nat) < 5; decide) rfl (fun W2 hW hkW => ?_)
    rw [show (mdC (.rg 0) (.slice none 0 0) (.slice none 0 0)).set 1 (.int .u16 (rgN [x, y])) = mdC (.rg (rgN [x, y])) (.slice none 0 0) (.slice none 0 0) from rfl] at hW
    have HB2 := Lib.hid hW
    have hk := (((Keeps.refl [] W).drew).more (G := [g]) (by simp)).trans hkW (FSub.refl _ _)
    have HKX := Lib.hid hk
    have HN2 := Lib.hid (hk.heap HN.out (by have := HL1.out; simp; omega))
    have HK2 := Lib.hid (HK.out.trans hk (fun q hq => .inr (by simp at hq; have := HL1.out; omega)))
    clear hW hkW hk
    refine hK.out _ _ ?_ (fun hHeld => ?_)
    · exact (by rw [HSE.out]; exact HKX.out)
    clear hK K
    try simp only [Act.put, List.setIfInBounds_toArray, List.set_cons_zero, List.set_cons_succ]
    refine wpAnyH_done (by kernel_rfl) ?_ _
    refine NoPanic.normal ?_
    have HOKS := Lib.hid (mdC_okS (.rg (rgN [x, y])) (q := .slice none 0 0) (m := .slice none 0 0) rfl rfl)
    go_wp2_with (first
      | ((with_reducible refine wpList_loadD (g := g) (off := 0) HOKS.out ?_ ?_ (block_range HB2.out) ?_); exact rfl; exact rfl)
      | ((with_reducible refine wpList_putD (g := w.heap.size) (A := mdC (.rg (rgN [x, y])) (.slice none 0 0) (.slice none 0 0)) (old := mdC0) HOKS.out mdC0_ok ?_ ?_ HN2.out ?_); exact rfl; exact rfl))
    intro W9 hW hkW
    have HW := Lib.hid hW; have HKW := Lib.hid hkW
    clear hW hkW
    go_wp2_with fail
    try simp only [Exit.inBlock, Exit.then]
    exact bodyPost_ret (results_sk1 skD rfl _ _ w.heap.size HOKS.out rfl HW.out) rfl ⟨_, rfl, HOKS.out, (fun S h => by
      obtain rfl := Option.some.inj h
      exact ⟨_, _, rfl, ⟨nil_in _ rkU, [], nil_in _ rkI, Md.items_nil (by intro m h; cases h)⟩, (fun p hp => by cases hp), fun p hp => by cases hp⟩), HK2.out.trans HKW.out (fun q hq => .inr (by simp at hq; omega))⟩
  · have hd : mdD 0 b = (none, 4) := by unfold mdD; rw [if_pos rfl, if_neg h2]
    rw [hd]
    have t2 : (((bs b).size : Int) != 2) = true := by rw [HSZ.out]; simp; omega
    clear HSZ h2 hd
    generalize bs b = B at *
    have HN := Lib.hid (show (w.alloc (.cells #[.int .u8 0, .int .u16 0, .slice none 0 0, .slice none 0 0, .int .i64 0] 36)).heap[w.heap.size]? = some (.cells mdC0.toArray 36 (0, 0)) from heap_alloc_new w _)
    have HK := Lib.hid (show Keeps [] w (w.alloc (.cells #[.int .u8 0, .int .u16 0, .slice none 0 0, .slice none 0 0, .int .i64 0] 36)) from (Keeps.refl _ _).alloc _)
    go_enter Tryz.func17, Tryz.ntmps17
    go_wp2_with fail
    generalize w.alloc (.cells #[.int .u8 0, .int .u16 0, .slice none 0 0, .slice none 0 0, .int .i64 0] 36) = w0 at *
    refine (HNW.out _).mono ?_; rintro e w1 ⟨rfl, hk⟩
    replace HN := Lib.hid (hk.heap HN.out (by simp))
    replace HK := Lib.hid (HK.out.trans hk (FSub.refl _ _))
    clear hk
    have HC := Lib.hid (show (w1.alloc (.cells #[.int .u8 0, .int .u16 0, .slice none 0 0, .slice none 0 0, .int .i64 0] 36)).heap[w1.heap.size]? = some (.cells mdC0.toArray 36 (0, 0)) from heap_alloc_new w1 _)
    have HCK := Lib.hid (show Keeps [] w1 (w1.alloc (.cells #[.int .u8 0, .int .u16 0, .slice none 0 0, .slice none 0 0, .int .i64 0] 36)) from (Keeps.refl _ _).alloc _)
    have HL1 := Lib.hid (lt_of_block HN.out)
    go_wp2_with ((with_reducible refine wpList_putD (g := w1.heap.size) (A := mdC (.rg 0) (.slice none 0 0) (.slice none 0 0)) (old := mdC0) HOK.out mdC0_ok ?_ ?_ HC.out ?_); exact rfl; exact rfl)
    intro W hW hkW
    have hk := HCK.out.trans' hkW (Nat.le_refl _)
    replace HN := Lib.hid (hk.heap HN.out (by simp))
    replace HK := Lib.hid (HK.out.trans hk (FSub.refl _ _))
    have HB := Lib.hid hW
    clear hW hkW hk HC HCK
    generalize w1.heap.size = g at *
    go_wp2_with ((with_reducible refine wpList_putD (g := w.heap.size) (A := mdC0) (old := mdC0) mdC0_ok mdC0_ok ?_ ?_ HN.out ?_); exact rfl; exact rfl)
    intro W9 hW hkW
    have HW := Lib.hid hW; have HKW := Lib.hid hkW
    clear hW hkW
    go_wp2_with fail
    try simp only [Exit.inBlock, Exit.then]
    exact bodyPost_ret (results_sk1 skD rfl _ _ w.heap.size mdC0_ok rfl HW.out) rfl ⟨mdC0, rfl, mdC0_ok, (fun S h => by cases h), HK.out.trans HKW.out (fun q hq => .inr (by simp at hq; omega))⟩
theorem r13Decode_qu (w : World) {b : List UInt8} (hl : b.length ≤ 1000) : Calls Tryz.prog 17 #[.int .u8 1, .string (bs b)] w (Dec13 w 1 b) := by
  have HNW := Lib.hid (fun w => by have h := r13New_any w 1 (by decide) (by decide); rw [if_pos (by decide), if_pos (by decide), show mdInit 1 = .qu [] from rfl] at h; exact h)
  have HD0 := Lib.hid (fun w => show D13 w (.qu []) (.slice none 0 0) (.slice none 0 0) from D13.init w 1)
  have HOK := Lib.hid (show skD.Ok (mdC (.qu []) (.slice none 0 0) (.slice none 0 0)) from (D13.init w 1).ok)
  have HSZ := Lib.hid (show (bs b).size = b.length from by simp [bs, ByteArray.size])
  unfold Dec13
  have HF := Lib.hid (fun w => r10Decode_any w b (by omega))
  clear HSZ hl
  by_cases ho : b.length % 2 = 1
  · have hd : mdD 1 b = (none, 4) := by unfold mdD; rw [if_neg (by decide), if_pos rfl, if_pos ho]
    rw [hd]
    simp only [if_pos ho] at HF
    clear ho hd
    have HN := Lib.hid (show (w.alloc (.cells #[.int .u8 0, .int .u16 0, .slice none 0 0, .slice none 0 0, .int .i64 0] 36)).heap[w.heap.size]? = some (.cells mdC0.toArray 36 (0, 0)) from heap_alloc_new w _)
    have HK := Lib.hid (show Keeps [] w (w.alloc (.cells #[.int .u8 0, .int .u16 0, .slice none 0 0, .slice none 0 0, .int .i64 0] 36)) from (Keeps.refl _ _).alloc _)
    go_enter Tryz.func17, Tryz.ntmps17
    go_wp2_with fail
    generalize w.alloc (.cells #[.int .u8 0, .int .u16 0, .slice none 0 0, .slice none 0 0, .int .i64 0] 36) = w0 at *
    refine (HNW.out _).mono ?_; rintro e w1 ⟨rfl, hk⟩
    replace HN := Lib.hid (hk.heap HN.out (by simp))
    replace HK := Lib.hid (HK.out.trans hk (FSub.refl _ _))
    clear hk
    have HC := Lib.hid (show (w1.alloc (.cells #[.int .u8 0, .int .u16 0, .slice none 0 0, .slice none 0 0, .int .i64 0] 36)).heap[w1.heap.size]? = some (.cells mdC0.toArray 36 (0, 0)) from heap_alloc_new w1 _)
    have HCK := Lib.hid (show Keeps [] w1 (w1.alloc (.cells #[.int .u8 0, .int .u16 0, .slice none 0 0, .slice none 0 0, .int .i64 0] 36)) from (Keeps.refl _ _).alloc _)
    have HL1 := Lib.hid (lt_of_block HN.out)
    go_wp2_with ((with_reducible refine wpList_putD (g := w1.heap.size) (A := mdC (.qu []) (.slice none 0 0) (.slice none 0 0)) (old := mdC0) HOK.out mdC0_ok ?_ ?_ HC.out ?_); exact rfl; exact rfl)
    intro W hW hkW
    have hk := HCK.out.trans' hkW (Nat.le_refl _)
    replace HN := Lib.hid (hk.heap HN.out (by simp))
    replace HK := Lib.hid (HK.out.trans hk (FSub.refl _ _))
    have HB := Lib.hid hW
    clear hW hkW hk HC HCK
    generalize w1.heap.size = g at *
    go_wp2_with fail
    refine (HF.out _).mono ?_; rintro e w2 ⟨v, rfl, hown, hk⟩
    obtain ⟨va, vc, rfl, -⟩ := hown.shape
    replace HN := Lib.hid (hk.heap HN.out (by simp)); replace HB := Lib.hid (hk.heap HB.out (by simp))
    replace HK := Lib.hid (HK.out.trans hk (FSub.refl _ _))
    clear hk hown
    go_wp2_with ((with_reducible refine wpList_put1 (g := g) (j := 2) (v := .slice va 0 vc) (A := mdC (.qu []) (.slice none 0 0) (.slice none 0 0)) ?_ ?_ ?_ HB.out ?_ ?_ ?_); exact (by kernel_rfl); exact rfl; exact rfl; exact (show (2 : Nat) < 5 by decide); exact rfl)
    intro W5 hW hkW
    rw [show (mdC (.qu []) (.slice none 0 0) (.slice none 0 0)).set 2 (.slice va 0 vc) = mdC (.qu []) (.slice va 0 vc) (.slice none 0 0) from rfl] at hW
    replace HB := Lib.hid hW
    replace HN := Lib.hid (hkW.heap HN.out (by have := HL1.out; simp; omega))
    replace HK := Lib.hid (HK.out.trans hkW (fun q hq => .inr (by simp at hq; have := HL1.out; omega)))
    have HKP := Lib.hid hkW
    clear hW hkW
    go_wp2_with ((with_reducible refine wpList_putD (g := w.heap.size) (A := mdC0) (old := mdC0) mdC0_ok mdC0_ok ?_ ?_ HN.out ?_); exact rfl; exact rfl)
    intro W9 hW hkW
    have HW := Lib.hid hW; have HKW := Lib.hid hkW
    clear hW hkW
    go_wp2_with fail
    try simp only [Exit.inBlock, Exit.then]
    exact bodyPost_ret (results_sk1 skD rfl _ _ w.heap.size mdC0_ok rfl HW.out) rfl ⟨mdC0, rfl, mdC0_ok, (fun S h => by cases h), HK.out.trans HKW.out (fun q hq => .inr (by simp at hq; omega))⟩
  · have hd : mdD 1 b = (some (.qu (quN b)), 0) := by unfold mdD; rw [if_neg (by decide), if_pos rfl, if_neg ho]
    rw [hd]
    simp only [if_neg ho] at HF
    clear ho hd
    have HN := Lib.hid (show (w.alloc (.cells #[.int .u8 0, .int .u16 0, .slice none 0 0, .slice none 0 0, .int .i64 0] 36)).heap[w.heap.size]? = some (.cells mdC0.toArray 36 (0, 0)) from heap_alloc_new w _)
    have HK := Lib.hid (show Keeps [] w (w.alloc (.cells #[.int .u8 0, .int .u16 0, .slice none 0 0, .slice none 0 0, .int .i64 0] 36)) from (Keeps.refl _ _).alloc _)
    go_enter Tryz.func17, Tryz.ntmps17
    go_wp2_with fail
    generalize w.alloc (.cells #[.int .u8 0, .int .u16 0, .slice none 0 0, .slice none 0 0, .int .i64 0] 36) = w0 at *
    refine (HNW.out _).mono ?_; rintro e w1 ⟨rfl, hk⟩
    replace HN := Lib.hid (hk.heap HN.out (by simp))
    replace HK := Lib.hid (HK.out.trans hk (FSub.refl _ _))
    clear hk
    have HC := Lib.hid (show (w1.alloc (.cells #[.int .u8 0, .int .u16 0, .slice none 0 0, .slice none 0 0, .int .i64 0] 36)).heap[w1.heap.size]? = some (.cells mdC0.toArray 36 (0, 0)) from heap_alloc_new w1 _)
    have HCK := Lib.hid (show Keeps [] w1 (w1.alloc (.cells #[.int .u8 0, .int .u16 0, .slice none 0 0, .slice none 0 0, .int .i64 0] 36)) from (Keeps.refl _ _).alloc _)
    have HL1 := Lib.hid (lt_of_block HN.out)
    go_wp2_with ((with_reducible refine wpList_putD (g := w1.heap.size) (A := mdC (.qu []) (.slice none 0 0) (.slice none 0 0)) (old := mdC0) HOK.out mdC0_ok ?_ ?_ HC.out ?_); exact rfl; exact rfl)
    intro W hW hkW
    have hk := HCK.out.trans' hkW (Nat.le_refl _)
    replace HN := Lib.hid (hk.heap HN.out (by simp))
    replace HK := Lib.hid (HK.out.trans hk (FSub.refl _ _))
    have HB := Lib.hid hW
    clear hW hkW hk HC HCK
    generalize w1.heap.size = g at *
    go_wp2_with fail
    refine (HF.out _).mono ?_; rintro e w2 ⟨v, rfl, hown, hk⟩
    obtain ⟨va, vc, rfl, -⟩ := hown.shape
    have HOW := Lib.hid hown
    have HWZ := Lib.hid (show g < W.heap.size from lt_of_block HB.out)
    replace HN := Lib.hid (hk.heap HN.out (by simp)); replace HB := Lib.hid (hk.heap HB.out (by simp))
    replace HK := Lib.hid (HK.out.trans hk (FSub.refl _ _))
    clear hk hown
    go_wp2_with ((with_reducible refine wpList_put1 (g := g) (j := 2) (v := .slice va (quN b).length vc) (A := mdC (.qu []) (.slice none 0 0) (.slice none 0 0)) ?_ ?_ ?_ HB.out ?_ ?_ ?_); exact (by kernel_rfl); exact rfl; exact rfl; exact (show (2 : Nat) < 5 by decide); exact rfl)
    intro W5 hW hkW
    rw [show (mdC (.qu []) (.slice none 0 0) (.slice none 0 0)).set 2 (.slice va (quN b).length vc) = mdC (.qu (quN b)) (.slice va (quN b).length vc) (.slice none 0 0) from rfl] at hW
    replace HB := Lib.hid hW
    replace HN := Lib.hid (hkW.heap HN.out (by have := HL1.out; simp; omega))
    replace HK := Lib.hid (HK.out.trans hkW (fun q hq => .inr (by simp at hq; have := HL1.out; omega)))
    have HKP := Lib.hid hkW
    clear hW hkW
    have HK2 := Lib.hid HK.out; have HB2 := Lib.hid HB.out; have HN2 := Lib.hid HN.out
    have HOW2 := Lib.hid (HOW.out.keeps HKP.out (fun q hq => by have := (row_base HOW.out q hq).1; have := HWZ.out; simp; omega))
    have HOKS := Lib.hid (mdC_okS (.qu (quN b)) (q := .slice va (quN b).length vc) (m := .slice none 0 0) rfl rfl)
    go_wp2_with (first
      | ((with_reducible refine wpList_loadD (g := g) (off := 0) HOKS.out ?_ ?_ (block_range HB2.out) ?_); exact rfl; exact rfl)
      | ((with_reducible refine wpList_putD (g := w.heap.size) (A := mdC (.qu (quN b)) (.slice va (quN b).length vc) (.slice none 0 0)) (old := mdC0) HOKS.out mdC0_ok ?_ ?_ HN2.out ?_); exact rfl; exact rfl))
    intro W9 hW hkW
    have HW := Lib.hid hW; have HKW := Lib.hid hkW
    clear hW hkW
    go_wp2_with fail
    try simp only [Exit.inBlock, Exit.then]
    have HOW3 := Lib.hid (HOW2.out.keeps HKW.out (fun q hq => by have := (row_base HOW2.out q hq).1; have := HWZ.out; have := HL1.out; simp; omega))
    exact bodyPost_ret (results_sk1 skD rfl _ _ w.heap.size HOKS.out rfl HW.out) rfl ⟨_, rfl, HOKS.out, (fun S h => by
      obtain rfl := Option.some.inj h
      exact ⟨_, _, rfl, ⟨HOW3.out.in_, [], nil_in _ rkI, Md.items_nil (by intro m h; cases h)⟩, (fun p hp => by have := (row_base HOW3.out p hp).1; have := HWZ.out; have := HL1.out; omega), fun p hp => by cases hp⟩), HK2.out.trans HKW.out (fun q hq => .inr (by simp at hq; omega))⟩
theorem r13Decode_mp (w : World) {b : List UInt8} (hl : b.length ≤ 1000) : Calls Tryz.prog 17 #[.int .u8 2, .string (bs b)] w (Dec13 w 2 b) := by
  have HNW := Lib.hid (fun w => by have h := r13New_any w 2 (by decide) (by decide); rw [if_pos (by decide), if_pos (by decide), show mdInit 2 = .mp kv0 from rfl] at h; exact h)
  have HD0 := Lib.hid (fun w => show D13 w (.mp kv0) (.slice none 0 0) (.slice none 0 0) from D13.init w 2)
  have HOK := Lib.hid (show skD.Ok (mdC (.mp kv0) (.slice none 0 0) (.slice none 0 0)) from (D13.init w 2).ok)
  have HSZ := Lib.hid (show (bs b).size = b.length from by simp [bs, ByteArray.size])
  unfold Dec13
  have HF := Lib.hid (fun w => r11Decode_any w b (by omega))
  clear HSZ hl
  have HRL := Lib.hid (kvD_rel (nb_u8 b))
  rcases kvD_err (nb b) with ho | ho
  rotate_left
  · have hd : mdD 2 b = (none, 4) := by unfold mdD; rw [if_neg (by decide), if_neg (by decide), if_pos rfl, if_neg (by rw [ho]; decide)]
    rw [hd]
    rw [ho] at HF
    clear ho hd
    have HN := Lib.hid (show (w.alloc (.cells #[.int .u8 0, .int .u16 0, .slice none 0 0, .slice none 0 0, .int .i64 0] 36)).heap[w.heap.size]? = some (.cells mdC0.toArray 36 (0, 0)) from heap_alloc_new w _)
    have HK := Lib.hid (show Keeps [] w (w.alloc (.cells #[.int .u8 0, .int .u16 0, .slice none 0 0, .slice none 0 0, .int .i64 0] 36)) from (Keeps.refl _ _).alloc _)
    go_enter Tryz.func17, Tryz.ntmps17
    go_wp2_with fail
    generalize w.alloc (.cells #[.int .u8 0, .int .u16 0, .slice none 0 0, .slice none 0 0, .int .i64 0] 36) = w0 at *
    refine (HNW.out _).mono ?_; rintro e w1 ⟨rfl, hk⟩
    replace HN := Lib.hid (hk.heap HN.out (by simp))
    replace HK := Lib.hid (HK.out.trans hk (FSub.refl _ _))
    clear hk
    have HC := Lib.hid (show (w1.alloc (.cells #[.int .u8 0, .int .u16 0, .slice none 0 0, .slice none 0 0, .int .i64 0] 36)).heap[w1.heap.size]? = some (.cells mdC0.toArray 36 (0, 0)) from heap_alloc_new w1 _)
    have HCK := Lib.hid (show Keeps [] w1 (w1.alloc (.cells #[.int .u8 0, .int .u16 0, .slice none 0 0, .slice none 0 0, .int .i64 0] 36)) from (Keeps.refl _ _).alloc _)
    have HL1 := Lib.hid (lt_of_block HN.out)
    go_wp2_with ((with_reducible refine wpList_putD (g := w1.heap.size) (A := mdC (.mp kv0) (.slice none 0 0) (.slice none 0 0)) (old := mdC0) HOK.out mdC0_ok ?_ ?_ HC.out ?_); exact rfl; exact rfl)
    intro W hW hkW
    have hk := HCK.out.trans' hkW (Nat.le_refl _)
    replace HN := Lib.hid (hk.heap HN.out (by simp))
    replace HK := Lib.hid (HK.out.trans hk (FSub.refl _ _))
    have HB := Lib.hid hW
    clear hW hkW hk HC HCK
    generalize w1.heap.size = g at *
    go_wp2_with fail
    refine (HF.out _).mono ?_; rintro e w2 ⟨v, rfl, hown, hk⟩
    obtain ⟨va, vc, rfl, -⟩ := hown.shape
    replace HN := Lib.hid (hk.heap HN.out (by simp)); replace HB := Lib.hid (hk.heap HB.out (by simp))
    replace HK := Lib.hid (HK.out.trans hk (FSub.refl _ _))
    clear hk hown
    go_wp2_with ((with_reducible refine wpList_put1 (g := g) (j := 3) (v := .slice va (kvDt (nb b)).length vc) (A := mdC (.mp kv0) (.slice none 0 0) (.slice none 0 0)) ?_ ?_ ?_ HB.out ?_ ?_ ?_); exact (by kernel_rfl); exact rfl; exact rfl; exact (show (3 : Nat) < 5 by decide); exact rfl)
    intro W5 hW hkW
    rw [show (mdC (.mp kv0) (.slice none 0 0) (.slice none 0 0)).set 3 (.slice va (kvDt (nb b)).length vc) = mdC (.mp kv0) (.slice none 0 0) (.slice va (kvDt (nb b)).length vc) from rfl] at hW
    replace HB := Lib.hid hW
    replace HN := Lib.hid (hkW.heap HN.out (by have := HL1.out; simp; omega))
    replace HK := Lib.hid (HK.out.trans hkW (fun q hq => .inr (by simp at hq; have := HL1.out; omega)))
    have HKP := Lib.hid hkW
    clear hW hkW
    go_wp2_with ((with_reducible refine wpList_putD (g := w.heap.size) (A := mdC0) (old := mdC0) mdC0_ok mdC0_ok ?_ ?_ HN.out ?_); exact rfl; exact rfl)
    intro W9 hW hkW
    have HW := Lib.hid hW; have HKW := Lib.hid hkW
    clear hW hkW
    go_wp2_with fail
    try simp only [Exit.inBlock, Exit.then]
    exact bodyPost_ret (results_sk1 skD rfl _ _ w.heap.size mdC0_ok rfl HW.out) rfl ⟨mdC0, rfl, mdC0_ok, (fun S h => by cases h), HK.out.trans HKW.out (fun q hq => .inr (by simp at hq; omega))⟩
  · have hd : mdD 2 b = (some (.mp (kvD (nb b)).1), 0) := by unfold mdD; rw [if_neg (by decide), if_neg (by decide), if_pos rfl, if_pos ho]
    rw [hd]
    rw [ho] at HF
    clear ho hd
    generalize (kvD (nb b)).1 = KM at *
    generalize kvDt (nb b) = KT at *
    have HN := Lib.hid (show (w.alloc (.cells #[.int .u8 0, .int .u16 0, .slice none 0 0, .slice none 0 0, .int .i64 0] 36)).heap[w.heap.size]? = some (.cells mdC0.toArray 36 (0, 0)) from heap_alloc_new w _)
    have HK := Lib.hid (show Keeps [] w (w.alloc (.cells #[.int .u8 0, .int .u16 0, .slice none 0 0, .slice none 0 0, .int .i64 0] 36)) from (Keeps.refl _ _).alloc _)
    go_enter Tryz.func17, Tryz.ntmps17
    go_wp2_with fail
    generalize w.alloc (.cells #[.int .u8 0, .int .u16 0, .slice none 0 0, .slice none 0 0, .int .i64 0] 36) = w0 at *
    refine (HNW.out _).mono ?_; rintro e w1 ⟨rfl, hk⟩
    replace HN := Lib.hid (hk.heap HN.out (by simp))
    replace HK := Lib.hid (HK.out.trans hk (FSub.refl _ _))
    clear hk
    have HC := Lib.hid (show (w1.alloc (.cells #[.int .u8 0, .int .u16 0, .slice none 0 0, .slice none 0 0, .int .i64 0] 36)).heap[w1.heap.size]? = some (.cells mdC0.toArray 36 (0, 0)) from heap_alloc_new w1 _)
    have HCK := Lib.hid (show Keeps [] w1 (w1.alloc (.cells #[.int .u8 0, .int .u16 0, .slice none 0 0, .slice none 0 0, .int .i64 0] 36)) from (Keeps.refl _ _).alloc _)
    have HL1 := Lib.hid (lt_of_block HN.out)
    go_wp2_with ((with_reducible refine wpList_putD (g := w1.heap.size) (A := mdC (.mp kv0) (.slice none 0 0) (.slice none 0 0)) (old := mdC0) HOK.out mdC0_ok ?_ ?_ HC.out ?_); exact rfl; exact rfl)
    intro W hW hkW
    have hk := HCK.out.trans' hkW (Nat.le_refl _)
    replace HN := Lib.hid (hk.heap HN.out (by simp))
    replace HK := Lib.hid (HK.out.trans hk (FSub.refl _ _))
    have HB := Lib.hid hW
    clear hW hkW hk HC HCK
    generalize w1.heap.size = g at *
    go_wp2_with fail
    refine (HF.out _).mono ?_; rintro e w2 ⟨v, rfl, hown, hk⟩
    obtain ⟨va, vc, rfl, -⟩ := hown.shape
    have HOW := Lib.hid hown
    have HWZ := Lib.hid (show g < W.heap.size from lt_of_block HB.out)
    replace HN := Lib.hid (hk.heap HN.out (by simp)); replace HB := Lib.hid (hk.heap HB.out (by simp))
    replace HK := Lib.hid (HK.out.trans hk (FSub.refl _ _))
    clear hk hown
    go_wp2_with ((with_reducible refine wpList_put1 (g := g) (j := 3) (v := .slice va KT.length vc) (A := mdC (.mp kv0) (.slice none 0 0) (.slice none 0 0)) ?_ ?_ ?_ HB.out ?_ ?_ ?_); exact (by kernel_rfl); exact rfl; exact rfl; exact (show (3 : Nat) < 5 by decide); exact rfl)
    intro W5 hW hkW
    rw [show (mdC (.mp kv0) (.slice none 0 0) (.slice none 0 0)).set 3 (.slice va KT.length vc) = mdC (.mp KM) (.slice none 0 0) (.slice va KT.length vc) from rfl] at hW
    replace HB := Lib.hid hW
    replace HN := Lib.hid (hkW.heap HN.out (by have := HL1.out; simp; omega))
    replace HK := Lib.hid (HK.out.trans hkW (fun q hq => .inr (by simp at hq; have := HL1.out; omega)))
    have HKP := Lib.hid hkW
    clear hW hkW
    have HK2 := Lib.hid HK.out; have HB2 := Lib.hid HB.out; have HN2 := Lib.hid HN.out
    have HOW2 := Lib.hid (HOW.out.keeps HKP.out (fun q hq => by have := (row_base HOW.out q hq).1; have := HWZ.out; simp; omega))
    have HOKS := Lib.hid (mdC_okS (.mp KM) (q := .slice none 0 0) (m := .slice va KT.length vc) rfl rfl)
    go_wp2_with (first
      | ((with_reducible refine wpList_loadD (g := g) (off := 0) HOKS.out ?_ ?_ (block_range HB2.out) ?_); exact rfl; exact rfl)
      | ((with_reducible refine wpList_putD (g := w.heap.size) (A := mdC (.mp KM) (.slice none 0 0) (.slice va KT.length vc)) (old := mdC0) HOKS.out mdC0_ok ?_ ?_ HN2.out ?_); exact rfl; exact rfl))
    intro W9 hW hkW
    have HW := Lib.hid hW; have HKW := Lib.hid hkW
    clear hW hkW
    go_wp2_with fail
    try simp only [Exit.inBlock, Exit.then]
    have HOW3 := Lib.hid (HOW2.out.keeps HKW.out (fun q hq => by have := (row_base HOW2.out q hq).1; have := HWZ.out; have := HL1.out; simp; omega))
    exact bodyPost_ret (results_sk1 skD rfl _ _ w.heap.size HOKS.out rfl HW.out) rfl ⟨_, rfl, HOKS.out, (fun S h => by
      obtain rfl := Option.some.inj h
      exact ⟨_, _, rfl, ⟨nil_in _ rkU, KT, HOW3.out.in_, HRL.out⟩, (fun p hp => by cases hp), fun p hp => by have := (row_base HOW3.out p hp).1; have := HWZ.out; have := HL1.out; omega⟩), HK2.out.trans HKW.out (fun q hq => .inr (by simp at hq; omega))⟩
theorem r13Decode_lk (w : World) (b : List UInt8) : Calls Tryz.prog 17 #[.int .u8 3, .string (bs b)] w (Dec13 w 3 b) := by
  have HNW := Lib.hid (fun w => by have h := r13New_any w 3 (by decide) (by decide); rw [if_pos (by decide), if_pos (by decide), show mdInit 3 = .lk 0 from rfl] at h; exact h)
  have HD0 := Lib.hid (fun w => show D13 w (.lk 0) (.slice none 0 0) (.slice none 0 0) from D13.init w 3)
  have HOK := Lib.hid (show skD.Ok (mdC (.lk 0) (.slice none 0 0) (.slice none 0 0)) from (D13.init w 3).ok)
  have HSZ := Lib.hid (show (bs b).size = b.length from by simp [bs, ByteArray.size])
  unfold Dec13
  have HF := Lib.hid (fun w => r12Decode_any w b)
  clear HSZ
  by_cases ho : (lkD b).2 = 0
  · have hd : mdD 3 b = (some (.lk (lkD b).1), 0) := by unfold mdD; rw [if_neg (by decide), if_neg (by decide), if_neg (by decide), if_pos rfl, if_pos ho]
    rw [hd]
    rw [ho] at HF
    clear ho hd
    generalize (lkD b).1 = s at *
    have HN := Lib.hid (show (w.alloc (.cells #[.int .u8 0, .int .u16 0, .slice none 0 0, .slice none 0 0, .int .i64 0] 36)).heap[w.heap.size]? = some (.cells mdC0.toArray 36 (0, 0)) from heap_alloc_new w _)
    have HK := Lib.hid (show Keeps [] w (w.alloc (.cells #[.int .u8 0, .int .u16 0, .slice none 0 0, .slice none 0 0, .int .i64 0] 36)) from (Keeps.refl _ _).alloc _)
    go_enter Tryz.func17, Tryz.ntmps17
    go_wp2_with fail
    generalize w.alloc (.cells #[.int .u8 0, .int .u16 0, .slice none 0 0, .slice none 0 0, .int .i64 0] 36) = w0 at *
    refine (HNW.out _).mono ?_; rintro e w1 ⟨rfl, hk⟩
    replace HN := Lib.hid (hk.heap HN.out (by simp))
    replace HK := Lib.hid (HK.out.trans hk (FSub.refl _ _))
    clear hk
    have HC := Lib.hid (show (w1.alloc (.cells #[.int .u8 0, .int .u16 0, .slice none 0 0, .slice none 0 0, .int .i64 0] 36)).heap[w1.heap.size]? = some (.cells mdC0.toArray 36 (0, 0)) from heap_alloc_new w1 _)
    have HCK := Lib.hid (show Keeps [] w1 (w1.alloc (.cells #[.int .u8 0, .int .u16 0, .slice none 0 0, .slice none 0 0, .int .i64 0] 36)) from (Keeps.refl _ _).alloc _)
    have HL1 := Lib.hid (lt_of_block HN.out)
    go_wp2_with ((with_reducible refine wpList_putD (g := w1.heap.size) (A := mdC (.lk 0) (.slice none 0 0) (.slice none 0 0)) (old := mdC0) HOK.out mdC0_ok ?_ ?_ HC.out ?_); exact rfl; exact rfl)
    intro W hW hkW
    have hk := HCK.out.trans' hkW (Nat.le_refl _)
    replace HN := Lib.hid (hk.heap HN.out (by simp))
    replace HK := Lib.hid (HK.out.trans hk (FSub.refl _ _))
    have HB := Lib.hid hW
    clear hW hkW hk HC HCK
    generalize w1.heap.size = g at *
    go_wp2_with fail
    refine (HF.out _).mono ?_; rintro e w2 ⟨rfl, rfl⟩
    go_wp2_with ((with_reducible refine wpList_put1 (g := g) (j := 4) (v := .int .i64 (s - 1)) (A := mdC (.lk 0) (.slice none 0 0) (.slice none 0 0)) ?_ ?_ ?_ HB.out ?_ ?_ ?_); exact (by kernel_rfl); exact rfl; exact rfl; exact (show (4 : Nat) < 5 by decide); exact rfl)
    intro W5 hW hkW
    rw [show (mdC (.lk 0) (.slice none 0 0) (.slice none 0 0)).set 4 (.int .i64 (s - 1)) = mdC (.lk s) (.slice none 0 0) (.slice none 0 0) from rfl] at hW
    replace HB := Lib.hid hW
    replace HN := Lib.hid (hkW.heap HN.out (by have := HL1.out; simp; omega))
    replace HK := Lib.hid (HK.out.trans hkW (fun q hq => .inr (by simp at hq; have := HL1.out; omega)))
    have HKP := Lib.hid hkW
    clear hW hkW
    have HK2 := Lib.hid HK.out; have HB2 := Lib.hid HB.out; have HN2 := Lib.hid HN.out
    have HOKS := Lib.hid (mdC_okS (.lk s) (q := .slice none 0 0) (m := .slice none 0 0) rfl rfl)
    go_wp2_with (first
      | ((with_reducible refine wpList_loadD (g := g) (off := 0) HOKS.out ?_ ?_ (block_range HB2.out) ?_); exact rfl; exact rfl)
      | ((with_reducible refine wpList_putD (g := w.heap.size) (A := mdC (.lk s) (.slice none 0 0) (.slice none 0 0)) (old := mdC0) HOKS.out mdC0_ok ?_ ?_ HN2.out ?_); exact rfl; exact rfl))
    intro W9 hW hkW
    have HW := Lib.hid hW; have HKW := Lib.hid hkW
    clear hW hkW
    go_wp2_with fail
    try simp only [Exit.inBlock, Exit.then]
    exact bodyPost_ret (results_sk1 skD rfl _ _ w.heap.size HOKS.out rfl HW.out) rfl ⟨_, rfl, HOKS.out, (fun S h => by
      obtain rfl := Option.some.inj h
      exact ⟨_, _, rfl, ⟨nil_in _ rkU, [], nil_in _ rkI, Md.items_nil (by intro m h; cases h)⟩, (fun p hp => by cases hp), fun p hp => by cases hp⟩), HK2.out.trans HKW.out (fun q hq => .inr (by simp at hq; omega))⟩
  · have hd : mdD 3 b = (none, 4) := by unfold mdD; rw [if_neg (by decide), if_neg (by decide), if_neg (by decide), if_pos rfl, if_neg ho]
    rw [hd]
    have z : ((lkD b).2 != 0) = true := by simpa using ho
    clear ho hd
    generalize (lkD b).1 = s at *
    generalize (lkD b).2 = er at *
    have HN := Lib.hid (show (w.alloc (.cells #[.int .u8 0, .int .u16 0, .slice none 0 0, .slice none 0 0, .int .i64 0] 36)).heap[w.heap.size]? = some (.cells mdC0.toArray 36 (0, 0)) from heap_alloc_new w _)
    have HK := Lib.hid (show Keeps [] w (w.alloc (.cells #[.int .u8 0, .int .u16 0, .slice none 0 0, .slice none 0 0, .int .i64 0] 36)) from (Keeps.refl _ _).alloc _)
    go_enter Tryz.func17, Tryz.ntmps17
    go_wp2_with fail
    generalize w.alloc (.cells #[.int .u8 0, .int .u16 0, .slice none 0 0, .slice none 0 0, .int .i64 0] 36) = w0 at *
    refine (HNW.out _).mono ?_; rintro e w1 ⟨rfl, hk⟩
    replace HN := Lib.hid (hk.heap HN.out (by simp))
    replace HK := Lib.hid (HK.out.trans hk (FSub.refl _ _))
    clear hk
    have HC := Lib.hid (show (w1.alloc (.cells #[.int .u8 0, .int .u16 0, .slice none 0 0, .slice none 0 0, .int .i64 0] 36)).heap[w1.heap.size]? = some (.cells mdC0.toArray 36 (0, 0)) from heap_alloc_new w1 _)
    have HCK := Lib.hid (show Keeps [] w1 (w1.alloc (.cells #[.int .u8 0, .int .u16 0, .slice none 0 0, .slice none 0 0, .int .i64 0] 36)) from (Keeps.refl _ _).alloc _)
    have HL1 := Lib.hid (lt_of_block HN.out)
    go_wp2_with ((with_reducible refine wpList_putD (g := w1.heap.size) (A := mdC (.lk 0) (.slice none 0 0) (.slice none 0 0)) (old := mdC0) HOK.out mdC0_ok ?_ ?_ HC.out ?_); exact rfl; exact rfl)
    intro W hW hkW
    have hk := HCK.out.trans' hkW (Nat.le_refl _)
    replace HN := Lib.hid (hk.heap HN.out (by simp))
    replace HK := Lib.hid (HK.out.trans hk (FSub.refl _ _))
    have HB := Lib.hid hW
    clear hW hkW hk HC HCK
    generalize w1.heap.size = g at *
    go_wp2_with fail
    refine (HF.out _).mono ?_; rintro e w2 ⟨rfl, rfl⟩
    go_wp2_with ((with_reducible refine wpList_put1 (g := g) (j := 4) (v := .int .i64 (s - 1)) (A := mdC (.lk 0) (.slice none 0 0) (.slice none 0 0)) ?_ ?_ ?_ HB.out ?_ ?_ ?_); exact (by kernel_rfl); exact rfl; exact rfl; exact (show (4 : Nat) < 5 by decide); exact rfl)
    intro W5 hW hkW
    rw [show (mdC (.lk 0) (.slice none 0 0) (.slice none 0 0)).set 4 (.int .i64 (s - 1)) = mdC (.lk s) (.slice none 0 0) (.slice none 0 0) from rfl] at hW
    replace HB := Lib.hid hW
    replace HN := Lib.hid (hkW.heap HN.out (by have := HL1.out; simp; omega))
    replace HK := Lib.hid (HK.out.trans hkW (fun q hq => .inr (by simp at hq; have := HL1.out; omega)))
    have HKP := Lib.hid hkW
    clear hW hkW
    go_wp2_with ((with_reducible refine wpList_putD (g := w.heap.size) (A := mdC0) (old := mdC0) mdC0_ok mdC0_ok ?_ ?_ HN.out ?_); exact rfl; exact rfl)
    intro W9 hW hkW
    have HW := Lib.hid hW; have HKW := Lib.hid hkW
    clear hW hkW
    go_wp2_with fail
    try simp only [Exit.inBlock, Exit.then]
    exact bodyPost_ret (results_sk1 skD rfl _ _ w.heap.size mdC0_ok rfl HW.out) rfl ⟨mdC0, rfl, mdC0_ok, (fun S h => by cases h), HK.out.trans HKW.out (fun q hq => .inr (by simp at hq; omega))⟩
theorem r13Decode_any (w : World) {m : Int} (h0 : 0 ≤ m) (h1 : m < 256) {b : List UInt8} (hl : b.length ≤ 1000) : Calls Tryz.prog 17 #[.int .u8 m, .string (bs b)] w (Dec13 w m b) := by
  by_cases h3 : m ≤ 3
  · rcases (by omega : m = 0 ∨ m = 1 ∨ m = 2 ∨ m = 3) with rfl | rfl | rfl | rfl
    · exact r13Decode_rg w b
    · exact r13Decode_qu w hl
    · exact r13Decode_mp w hl
    · exact r13Decode_lk w b
  · exact r13Decode_far w (by omega) h1 b
end Go.Proofs.YtdachaekcjbfmaaGreatDoor
/-
  The law ModelDecodes, over any program's objects.
-/
namespace Go.Proofs.YtdachaekcjbfmaaGreatDoor
open Go.RowKit
set_option maxRecDepth 100000
set_option maxHeartbeats 8000000
variable {G : World → Prop}
theorem mdD_len {m : Int} {b : List UInt8} {S : Md} (h : (mdD m b).1 = some S) : S.len ≤ b.length := by
  unfold mdD at h
  split at h
  · split at h
    · obtain rfl := Option.some.inj h; exact Nat.zero_le _
    · cases h
  · split at h
    · split at h
      · cases h
      · obtain rfl := Option.some.inj h
        show (quN b).length ≤ _
        rw [quN_len]; omega
    · split at h
      · split at h
        · obtain rfl := Option.some.inj h; exact Nat.zero_le _
        · cases h
      · split at h
        · split at h
          · obtain rfl := Option.some.inj h; exact Nat.zero_le _
          · cases h
        · cases h
theorem mdD_or (m : Int) (b : List UInt8) : ((mdD m b).2 = 0 ∧ ∃ S, (mdD m b).1 = some S) ∨ ((mdD m b).2 ≠ 0 ∧ (mdD m b).1 = none) := by
  unfold mdD
  repeat' split
  all_goals first
    | exact .inl ⟨rfl, _, rfl⟩
    | exact .inr ⟨by decide, rfl⟩
theorem ModelDecodes_any (R : MdProg G) (DC : MdDec R) (IM : MdIdle G) (w : World) (hG : G w) {m : Int} (h0 : 0 ≤ m ∧ m < 256) (b : List UInt8) {f : Int} (hf : 0 ≤ f ∧ f < 256) :
    Calls Tryz.prog 4 #[.int .u8 m, .string (bs b), .int .u8 f] w fun e w' => e = .returned (.bool true) ∧ Keeps [] w w' := by
  have HG := Lib.hid (fun w' (h : Keeps [] w w') => R.keepG hG h)
  have HSZ := Lib.hid (show (bs b).size = b.length from by simp [bs, ByteArray.size])
  by_cases hl : b.length ≤ 300
  · have z : ¬ (300 : Int) < (bs b).size := by rw [HSZ.out]; omega
    have HD := Lib.hid (fun w' (h : Keeps [] w w') => DC.dec w' m b (R.keepG hG h) h0 (by omega))
    have HR := Lib.hid (fun w' => r13Decode_any w' h0.1 h0.2 (b := b) (by omega))
    have HLN := Lib.hid (fun (S : Md) (h : (mdD m b).1 = some S) => (show S.len ≤ 300 from Nat.le_trans (mdD_len h) hl))
    have HM := Lib.hid h0; have HF := Lib.hid hf
    have hor := mdD_or m b
    unfold Dec13 at HR
    clear hG h0 hf hl HSZ
    generalize mdD m b = X at *
    obtain ⟨O, er⟩ := X
    simp only at HD HR HLN hor
    have HK := Lib.hid (Keeps.refl [] w)
    generalize hB : bs b = B at *
    clear hB
    go_enter Tryz.func4, Tryz.ntmps4
    go_wp2_with fail
    refine (HD.out _ HK.out).mono ?_; rintro e w1 ⟨st, rfl, hat, hk, -⟩
    replace HK := Lib.hid (HK.out.trans hk (FSub.refl _ _))
    obtain ⟨A1, rfl, hok⟩ := R.cells hat
    have HO1 := Lib.hid hok; have H1 := Lib.hid hat
    clear hat hok hk
    have HNC := Lib.hid (show (w1.alloc (.cells mdZA 29)).heap[w1.heap.size]? = some (.cells mdZ.toArray 29 (0, 0)) from heap_alloc_new w1 _)
    have HNK := Lib.hid (show Keeps [] w1 (w1.alloc (.cells mdZA 29)) from (Keeps.refl _ _).alloc _)
    go_wp2_with ((with_reducible refine wpList_putM (g := w1.heap.size) (old := mdZ) (A := A1) HO1.out mdZ_ok ?_ ?_ HNC.out ?_); exact rfl; exact rfl)
    intro w2 hW hk2
    have hk := HNK.out.trans' hk2 (Nat.le_refl _)
    replace HK := Lib.hid (HK.out.trans hk (FSub.refl _ _))
    replace H1 := Lib.hid (R.new_ H1.out hk)
    have HB1 := Lib.hid hW
    clear hk hW hk2 HNC HNK
    generalize w1.heap.size = p1 at *
    go_wp2_with fail
    refine (HR.out _).mono ?_; rintro e w3 ⟨A2, rfl, hok2, hS, hk⟩
    replace HK := Lib.hid (HK.out.trans hk (FSub.refl _ _))
    replace H1 := Lib.hid (R.new_ H1.out hk); replace HB1 := Lib.hid (hk.heap HB1.out (by simp))
    have HO2 := Lib.hid hok2; have HS := Lib.hid hS
    clear hk hok2 hS
    have HNC := Lib.hid (show (w3.alloc (.cells #[.int .u8 0, .int .u16 0, .slice none 0 0, .slice none 0 0, .int .i64 0] 36)).heap[w3.heap.size]? = some (.cells mdC0.toArray 36 (0, 0)) from heap_alloc_new w3 _)
    have HNK := Lib.hid (show Keeps [] w3 (w3.alloc (.cells #[.int .u8 0, .int .u16 0, .slice none 0 0, .slice none 0 0, .int .i64 0] 36)) from (Keeps.refl _ _).alloc _)
    go_wp2_with ((with_reducible refine wpList_putD (g := w3.heap.size) (A := A2) (old := mdC0) HO2.out mdC0_ok ?_ ?_ HNC.out ?_); exact rfl; exact rfl)
    intro w4 hW hk2
    have hk := HNK.out.trans' hk2 (Nat.le_refl _)
    replace HK := Lib.hid (HK.out.trans hk (FSub.refl _ _))
    replace H1 := Lib.hid (R.new_ H1.out hk); replace HB1 := Lib.hid (hk.heap HB1.out (by simp))
    have HKN := Lib.hid hk
    have HB2 := Lib.hid hW
    clear hk hW hk2 HNC HNK
    generalize w3.heap.size = p2 at *
    have t0 : (er == er) = true := by simp
    rcases hor with ⟨rfl, S, rfl⟩ | ⟨hne, rfl⟩
    · obtain ⟨q, mm, rfl, hD, -, -⟩ := HS.out S rfl
      have HD4 := Lib.hid (hD.new HKN.out)
      clear hD HS t0
      go_wp2_with (first
        | ((with_reducible refine wpList_loadM (g := p1) (off := 0) HO1.out ?_ ?_ (block_range HB1.out) ?_); exact rfl; exact rfl)
        | ((with_reducible refine wpList_loadD (g := p2) (off := 0) HO2.out ?_ ?_ (block_range HB2.out) ?_); exact rfl; exact rfl))
      refine (alike13_any R w4 (HG.out _ HK.out) H1.out (by have := HLN.out S rfl; omega) HD4.out).mono ?_; rintro e w5 ⟨rfl, hk⟩
      replace HK := Lib.hid (HK.out.trans hk (FSub.refl _ _))
      clear hk
      go_wp2_with fail
      refine (IM.idle _ m f (HG.out _ HK.out) ⟨HM.out.1, HM.out.2⟩ HF.out).mono ?_; rintro e v1 ⟨rfl, hk⟩
      replace HK := Lib.hid (HK.out.trans hk (FSub.refl _ _))
      clear hk
      go_wp2_with fail
      refine (r13Idle_any v1).mono ?_; rintro e v2 ⟨rfl, hk⟩
      replace HK := Lib.hid (HK.out.trans hk (FSub.refl _ _))
      clear hk
      generalize mdIdle m f = bb at *
      have tb : (bb == bb) = true := by simp
      go_wp2_with fail
      refine (awake13_any R v2 (HG.out _ HK.out)).mono ?_; rintro e v3 ⟨rfl, hk⟩
      go_wp2_with fail
      go_ret
      exact ⟨rfl, HK.out.trans hk (FSub.refl _ _)⟩
    · have t1 : (er != 0) = true := by simpa using hne
      clear hne HS
      go_wp2_with fail
      refine (IM.idle _ m f (HG.out _ HK.out) ⟨HM.out.1, HM.out.2⟩ HF.out).mono ?_; rintro e v1 ⟨rfl, hk⟩
      replace HK := Lib.hid (HK.out.trans hk (FSub.refl _ _))
      clear hk
      go_wp2_with fail
      refine (r13Idle_any v1).mono ?_; rintro e v2 ⟨rfl, hk⟩
      replace HK := Lib.hid (HK.out.trans hk (FSub.refl _ _))
      clear hk
      generalize mdIdle m f = bb at *
      have tb : (bb == bb) = true := by simp
      go_wp2_with fail
      refine (awake13_any R v2 (HG.out _ HK.out)).mono ?_; rintro e v3 ⟨rfl, hk⟩
      go_wp2_with fail
      go_ret
      exact ⟨rfl, HK.out.trans hk (FSub.refl _ _)⟩
  · have z : (300 : Int) < (bs b).size := by rw [HSZ.out]; omega
    clear HSZ hl h0 hf
    generalize bs b = B at *
    go_enter Tryz.func4, Tryz.ntmps4
    go_wp2_with fail
    refine (awake13_any R w hG).mono ?_; rintro e w3 ⟨rfl, hk⟩
    go_wp2_with fail
    go_ret
    exact ⟨rfl, hk⟩
end Go.Proofs.YtdachaekcjbfmaaGreatDoor
