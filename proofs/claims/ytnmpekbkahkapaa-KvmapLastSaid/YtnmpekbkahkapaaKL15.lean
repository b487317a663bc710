/-
  What the program's key map must tell; the law's small functions over any such key map.
-/
import Derived.Deep.RegionHeld3
import Derived.Test.YtnmpekbkahkapaaKL12
import Derived.Test.YtnmpekbkahkapaaKL13
import Derived.Test.YtnmpekbkahkapaaKL14
import Derived.Test.YtnmpekbkahkapaaKL07
set_option linter.unusedSimpArgs false
set_option linter.unusedVariables false
namespace Go.Proofs.Ytnmpekbkahkapaa
open Go.RowKit
def kvOnly (m : Kv) (key : Int) : Kv := if key < 8 then kv0.set key.toNat (m.getD key.toNat none) else kv0
theorem kvOnly_in {m : Kv} (h : KvIn m) {key : Int} (h0 : 0 ≤ key) : KvIn (kvOnly m key) := by
  unfold kvOnly
  split
  · exact kv0_in.set _ (fun v e => h.get e)
  · exact kv0_in
/-- What the program's key map tells; G: what its package-level variables hold. -/
structure KvProg (G : World → Prop) : Prop where
  keep : ∀ {w w' : World}, G w → Keeps [] w w' → G w'
  new : ∀ w, G w → Calls Try.prog 26 #[] w fun e w' => e = .returned (kvVal kv0) ∧ Keeps [] w w'
  check : ∀ w h vs, G w → RawIn h vs → Calls Try.prog 10 #[.agg (kvA h vs)] w fun e w' => e = .returned (.int .i64 (if kvV (kvOf h vs) = vs then 0 else 4)) ∧ Keeps [] w w'
  step : ∀ w m x, G w → KvIn m → x.In → Calls Try.prog 12 #[kvVal m, x.val] w fun e w' =>
    e = .returned (.tuple #[kvVal (ksX m x).1, .agg (ansC (ksX m x).2.1).toArray, .int .i64 (ksX m x).2.2]) ∧ Keeps [] w w'
  run : ∀ w m v l, G w → KvIn m → (∀ x ∈ l, x.In) → rkO.In w.heap.size w v l → l.length ≤ 1000 → Calls Try.prog 17 #[kvVal m, v] w fun e w' =>
    ∃ v', e = .returned (.tuple #[kvVal (stS ksX m l), v', .int .i64 (stE ksX m l)]) ∧ rkA.In w'.heap.size w' v' (stL ksX m l) ∧ Keeps [] w w'
  enc : ∀ w m, G w → KvIn m → Calls Try.prog 21 #[kvVal m] w fun e w' => e = .returned (.string (strOfNums (kvBn m))) ∧ Keeps [] w w'
  dec : ∀ w l, G w → l.length ≤ 1000 → Calls Try.prog 19 #[.string (bs l)] w fun e w' => e = .returned (.tuple #[kvVal (kvD (nb l)).1, .int .i64 (kvD (nb l)).2]) ∧ Keeps [] w w'
  only : ∀ w m key, G w → KvIn m → 0 ≤ key ∧ key < 256 → Calls Try.prog 23 #[kvVal m, .int .u8 key] w fun e w' => e = .returned (kvVal (kvOnly m key)) ∧ Keeps [] w w'
  idle : ∀ w f, G w → 0 ≤ f ∧ f < 256 → Calls Try.prog 27 #[.int .u8 f] w fun e w' => e = .returned (.bool (decide (f = 6))) ∧ Keeps [] w w'
section
variable {ops : Array Oper} {S : World → Prop} {o : Oper} {a : Act} {w : World}
theorem yields_loadK (hw : Region.wanted o (yielded ops a.tmps) = true) (x : Operand) (ho : o.op = .load 25 x) (g : Nat) (hx : a.eval x = .pointer (some ⟨g, 0, none⟩)) (h : Int) (vs : List Int) (hS : ∀ w, S w → ∃ t, w.heap[g]? = some (.cells (kvA h vs) t (0, 0))) : YieldsIf Try.prog ops S o (.agg (kvA h vs)) a :=
  Or.inl ⟨hw, by
    intro w hh
    obtain ⟨t, hg⟩ := hS w hh
    unfold execOp
    simp only [ho, hx, Instr.loadAt, Instr.sureAddr, Sem.run_bind, Sem.run_pure, Result.andThen_ok, run_loadVar_row w g t 25 (kvA h vs) (0, 0) _ hg Try.underlying25 rfl (by kernel_rfl)]⟩
theorem guard_kv (w : World) (op : BinOp) (x y : Operand) (A B : Array Value) : (eqGuard op 25 x y (.agg A) (.agg B)).run Try.prog w = .ok () w := run_eqGuard_agg w op 25 x y A B (by kernel_rfl)
theorem yields_eqK (hw : Region.wanted o (yielded ops a.tmps) = true) (x y : Operand) (T : TypeId) (ho : o.op = .binOp .eql 25 x y T) {h h2 : Int} {vs us : List Int} (hx : a.eval x = .agg (kvA h vs)) (hy : a.eval y = .agg (kvA h2 us)) : YieldsIf Try.prog ops S o (.bool (kvEq h h2 vs us)) a :=
  Or.inl ⟨hw, by
    intro w _
    have he := kv_eql w h h2 vs us
    have hg := guard_kv w .eql x y (kvA h vs) (kvA h2 us)
    unfold execOp
    simp only [ho, hx, hy, Sem.run_bind, hg, Result.andThen_ok, he, Sem.run_pure]
    try go_simp⟩
end
set_option maxHeartbeats 8000000
set_option maxRecDepth 100000
theorem same11_any (w : World) {M N : Nat} {v u : Value} {l : List Ans} (hV : rkA.In M w v l) (hU : rkA.In N w u l) (hM : M ≤ w.heap.size) (hN : N ≤ w.heap.size) :
    Calls Try.prog 28 #[v, u] w fun e w' => e = .returned (.bool true) ∧ Keeps [] w w' := by
  obtain ⟨a, cp, rfl, hc, hm, -⟩ := id hV
  obtain ⟨a', cp', rfl, hc', hm', -⟩ := id hU
  have HV := Lib.hid hV; have HU := Lib.hid hU
  clear hV hU
  generalize hn2 : l.length = n at *
  have HN2 := Lib.hid hn2
  clear hn2
  have tn : ((n : Int) != n) = false := by simp
  go_enter Try.func28, Try.ntmps28
  go_wp2_with fail
  go_loopw [5] (fun i wr => ∃ k : Nat, i = .int .i64 k ∧ k ≤ n ∧ Keeps [] w wr) (fun i _ => n - (intOf i).toNat)
  case atStart => exact ⟨0, rfl, by omega, Keeps.refl _ _⟩
  case round =>
    obtain ⟨k, rfl, hk, hkr⟩ := hrel
    by_cases hlt : k < n
    · have hkl : k < l.length := by have := HN2.out; omega
      obtain ⟨g, o, rfl, -, hr⟩ := InA_at (HV.out.new hkr hM) hkl
      obtain ⟨g', o', rfl, -, hr'⟩ := InA_at (HU.out.new hkr hN) hkl
      generalize l[k] = r at *
      obtain ⟨S, hS⟩ : ∃ S : World → Prop, S = fun y => Keeps [] wr y := ⟨_, rfl⟩
      have hSD : S wr.drew := by rw [hS]; exact (Keeps.refl _ _).drew
      have HS3 := Lib.hid (fun (w' : World) (h : S w') => show w'.rangeAt g (o + k * 2) (ansC r) from by rw [hS] at h; exact fun i u hi => h.cell (hr i u hi) (by simp))
      have HS4 := Lib.hid (fun (w' : World) (h : S w') => show w'.rangeAt g' (o' + k * 2) (ansC r) from by rw [hS] at h; exact fun i u hi => h.cell (hr' i u hi) (by simp))
      have HKD := Lib.hid hkr.drew
      clear hS hr hr' hkr
      go_wp2_with fail
      refine wp_region_noPanic ?_
      refine wp_region_held_drew (S := S) (by kernel_rfl) hSD (fun hHeld => ?_)
      apply wpAnyH_take (i := 0)
      · simp only [List.getElem?_toArray]; rfl
      · kernel_rfl
      · kernel_rfl
      · kernel_rfl
      · exact fun _ _ _ h => h
      · exact Or.inl ⟨by rfl, by intro w hSw; go_simp; try with_reducible rfl⟩
      · assumption
      try simp only [Act.put, List.setIfInBounds_toArray, List.set_cons_zero, List.set_cons_succ]
      apply wpAnyH_take (i := 1)
      · simp only [List.getElem?_toArray]; rfl
      · kernel_rfl
      · kernel_rfl
      · kernel_rfl
      · exact fun _ _ _ h => h
      · exact Or.inl ⟨by rfl, by intro w hSw; go_simp; try with_reducible rfl⟩
      · assumption
      try simp only [Act.put, List.setIfInBounds_toArray, List.set_cons_zero, List.set_cons_succ]
      apply wpAnyH_take (i := 2)
      · simp only [List.getElem?_toArray]; rfl
      · kernel_rfl
      · kernel_rfl
      · kernel_rfl
      · exact fun _ _ _ h => h
      · exact Or.inl ⟨by rfl, by intro w hSw; go_simp; try with_reducible rfl⟩
      · assumption
      try simp only [Act.put, List.setIfInBounds_toArray, List.set_cons_zero, List.set_cons_succ]
      apply wpAnyH_take (i := 3)
      · simp only [List.getElem?_toArray]; rfl
      · kernel_rfl
      · kernel_rfl
      · kernel_rfl
      · exact fun _ _ _ h => h
      · exact yields_ans r (by rfl) _ rfl g (o + k * 2) rfl HS3.out
      · assumption
      try simp only [Act.put, List.setIfInBounds_toArray, List.set_cons_zero, List.set_cons_succ]
      apply wpAnyH_take (i := 4)
      · simp only [List.getElem?_toArray]; rfl
      · kernel_rfl
      · kernel_rfl
      · kernel_rfl
      · exact fun _ _ _ h => h
      · exact Or.inl ⟨by rfl, by intro w hSw; go_simp; try with_reducible rfl⟩
      · assumption
      try simp only [Act.put, List.setIfInBounds_toArray, List.set_cons_zero, List.set_cons_succ]
      apply wpAnyH_take (i := 5)
      · simp only [List.getElem?_toArray]; rfl
      · kernel_rfl
      · kernel_rfl
      · kernel_rfl
      · exact fun _ _ _ h => h
      · exact Or.inl ⟨by rfl, by intro w hSw; go_simp; try with_reducible rfl⟩
      · assumption
      try simp only [Act.put, List.setIfInBounds_toArray, List.set_cons_zero, List.set_cons_succ]
      apply wpAnyH_take (i := 6)
      · simp only [List.getElem?_toArray]; rfl
      · kernel_rfl
      · kernel_rfl
      · kernel_rfl
      · exact fun _ _ _ h => h
      · exact Or.inl ⟨by rfl, by intro w hSw; go_simp; try with_reducible rfl⟩
      · assumption
      try simp only [Act.put, List.setIfInBounds_toArray, List.set_cons_zero, List.set_cons_succ]
      apply wpAnyH_take (i := 7)
      · simp only [List.getElem?_toArray]; rfl
      · kernel_rfl
      · kernel_rfl
      · kernel_rfl
      · exact fun _ _ _ h => h
      · exact yields_ans r (by rfl) _ rfl g' (o' + k * 2) rfl HS4.out
      · assumption
      try simp only [Act.put, List.setIfInBounds_toArray, List.set_cons_zero, List.set_cons_succ]
      apply wpAnyH_take (i := 8)
      · simp only [List.getElem?_toArray]; rfl
      · kernel_rfl
      · kernel_rfl
      · kernel_rfl
      · exact fun _ _ _ h => h
      · exact Or.inl ⟨by rfl, by intro w hSw; go_simp; try with_reducible rfl⟩
      · assumption
      try simp only [Act.put, List.setIfInBounds_toArray, List.set_cons_zero, List.set_cons_succ]
      refine wpAnyH_done (by kernel_rfl) ?_ _
      refine NoPanic.normal ?_
      clear hHeld hSD HS3 HS4
      go_wp2_with fail
      go_roundw
      case rel => exact ⟨k + 1, by go_num, by omega, HKD.out⟩
      case measure => simp [intOf]; omega
    · obtain rfl : k = n := by omega
      have HKR := Lib.hid hkr
      clear hkr
      go_wp2_with fail
      go_ret
      exact ⟨rfl, HKR.out⟩
theorem op11_any (w : World) (f k a b : Int) : Calls Try.prog 25 #[.int .u8 f, .int .u8 k, .int .u16 a, .int .u16 b] w fun e w' => e = .returned (Opn.val ⟨f, 0, k, a, b⟩) ∧ Keeps [] w w' := by
  have hk := (Keeps.refl [] w).alloc (.cells (opC ⟨f, 0, k, a, b⟩).toArray 27)
  have hb := heap_alloc_new w (.cells (opC ⟨f, 0, k, a, b⟩).toArray 27)
  have HK := Lib.hid hk; have HB := Lib.hid hb
  clear hk hb
  go_enter Try.func25, Try.ntmps25
  go_wp2_with fail
  try simp only [Exit.inBlock, Exit.then]
  exact bodyPost_ret (results_cell_row (P := Try.prog) rfl _ _ _ _ _ _ _ rfl HB.out Try.underlying27 rfl (by kernel_rfl)) rfl ⟨rfl, HK.out⟩
theorem is11_any (w : World) (k v : Int) : Calls Try.prog 29 #[.int .u8 k, .int .u16 v] w fun e w' => e = .returned (.agg (ansC ⟨k, v⟩).toArray) ∧ Keeps [] w w' := by
  have hk := (Keeps.refl [] w).alloc (.cells (ansC ⟨k, v⟩).toArray 32)
  have hb := heap_alloc_new w (.cells (ansC ⟨k, v⟩).toArray 32)
  have HK := Lib.hid hk; have HB := Lib.hid hb
  clear hk hb
  go_enter Try.func29, Try.ntmps29
  go_wp2_with fail
  try simp only [Exit.inBlock, Exit.then]
  exact bodyPost_ret (results_cell_row (P := Try.prog) rfl _ _ _ _ _ _ _ rfl HB.out Try.underlying32 rfl (by kernel_rfl)) rfl ⟨rfl, HK.out⟩
def kwO : List Opn := [⟨6, 0, 3, 0, 0⟩, ⟨7, 0, 3, 5, 0⟩, ⟨9, 0, 3, 5, 7⟩, ⟨9, 0, 3, 5, 8⟩, ⟨6, 0, 3, 0, 0⟩, ⟨8, 0, 3, 0, 0⟩, ⟨8, 0, 3, 0, 0⟩]
def kwA : List Ans := [⟨2, 0⟩, ⟨0, 0⟩, ⟨3, 0⟩, ⟨4, 0⟩, ⟨1, 7⟩, ⟨3, 0⟩, ⟨4, 0⟩]
def ktO : List Opn := [⟨7, 0, 0, 1, 0⟩, ⟨7, 0, 2, 258, 0⟩]
def ktM : Kv := [some 1, none, some 258, none, none, none, none, none]
theorem kw_run : stS ksX kv0 kwO = kv0 ∧ stL ksX kv0 kwO = kwA ∧ stE ksX kv0 kwO = 0 := by decide
theorem kt_run : stS ksX kv0 ktO = ktM ∧ stE ksX kv0 ktO = 0 := by decide
theorem kt_in : KvIn ktM := kt_run.1 ▸ ksS_in kv0 ktO kv0_in (by
  intro x hx
  simp only [ktO, List.mem_cons, List.not_mem_nil, or_false] at hx
  rcases hx with rfl | rfl <;> exact ⟨by decide, by decide, by decide, by decide, by decide, by decide, by decide, by decide, by decide, by decide⟩)
theorem kw_in : ∀ x ∈ kwO, x.In := by
  intro x hx
  simp only [kwO, List.mem_cons, List.not_mem_nil, or_false] at hx
  rcases hx with rfl | rfl | rfl | rfl | rfl | rfl | rfl <;> exact ⟨by decide, by decide, by decide, by decide, by decide, by decide, by decide, by decide, by decide, by decide⟩
theorem ktO_in : ∀ x ∈ ktO, x.In := by
  intro x hx
  simp only [ktO, List.mem_cons, List.not_mem_nil, or_false] at hx
  rcases hx with rfl | rfl <;> exact ⟨by decide, by decide, by decide, by decide, by decide, by decide, by decide, by decide, by decide, by decide⟩
variable {G : World → Prop}
theorem two11_any (R : KvProg G) (w : World) (hG : G w) : Calls Try.prog 24 #[] w fun e w' => e = .returned (kvVal ktM) ∧ Keeps [] w w' := by
  have HR := Lib.hid R
  have hka : Keeps [] w (w.alloc (.cells (kvA 0 []) 25)) := (Keeps.refl _ _).alloc _
  have h0 := heap_alloc_new w (.cells (kvA 0 []) 25)
  have HG := Lib.hid (R.keep hG hka); have HKA := Lib.hid hka; have H0 := Lib.hid h0
  obtain ⟨B, hB⟩ : ∃ B, B = w.heap.size := ⟨_, rfl⟩
  rw [← hB] at H0
  have HBE := Lib.hid hB
  clear R hG hka h0 hB
  go_enter Try.func24, Try.ntmps24
  go_wp2_with fail
  refine (HR.out.new _ HG.out).mono ?_; rintro e w0 ⟨rfl, hk0⟩
  have HK0 := Lib.hid hk0
  clear hk0
  go_wp2_with fail
  refine (op11_any _ _ _ _ _).mono ?_; rintro e w1 ⟨rfl, hk1⟩
  have HK1 := Lib.hid (HK0.out.trans hk1 (FSub.refl _ _))
  clear hk1 HK0
  go_wp2_with fail
  refine (op11_any _ _ _ _ _).mono ?_; rintro e w2 ⟨rfl, hk2⟩
  have HK2 := Lib.hid (HK1.out.trans hk2 (FSub.refl _ _))
  clear hk2 HK1
  go_wp2_with ((with_reducible refine wpList_litO ktO ?_ ?_ ?_ ?_ ?_); exact rfl; exact rfl; decide; decide)
  intro W hs hk hin
  have HKW := Lib.hid (HK2.out.trans hk (FSub.refl _ _))
  have HIN := Lib.hid hin
  clear hs hk hin HK2
  generalize w2.heap.size = b at *
  go_wp2_with fail
  refine (HR.out.run _ _ _ ktO (HR.out.keep HG.out HKW.out) kv0_in ktO_in HIN.out (by decide)).mono ?_; rintro e wr ⟨v', rfl, hin6, hk6⟩
  have HKR := Lib.hid (HKW.out.trans hk6 (FSub.refl _ _))
  rw [kt_run.1, kt_run.2]
  obtain ⟨a6, c6, rfl, -, -, -⟩ := id hin6
  have HB := Lib.hid (HKR.out.heap H0.out (by simp))
  have HZ := Lib.hid (show (wr.alloc (.cells #[.int .u8 0, .int .u16 0, .int .u16 0, .int .u16 0, .int .u16 0, .int .u16 0, .int .u16 0, .int .u16 0, .int .u16 0] 25)).heap[wr.heap.size]? = some (.cells (kvA 0 []) 25 (0, 0)) from heap_alloc_new wr (.cells (kvA 0 []) 25))
  have HK2 := Lib.hid (show Keeps [] w (wr.alloc (.cells #[.int .u8 0, .int .u16 0, .int .u16 0, .int .u16 0, .int .u16 0, .int .u16 0, .int .u16 0, .int .u16 0, .int .u16 0] 25)) from (HKA.out.trans HKR.out (FSub.refl _ _)).alloc _)
  have HB2 := Lib.hid (((Keeps.refl [] wr).alloc (.cells #[.int .u8 0, .int .u16 0, .int .u16 0, .int .u16 0, .int .u16 0, .int .u16 0, .int .u16 0, .int .u16 0, .int .u16 0] 25)).heap HB.out (by simp))
  have HBL := Lib.hid (lt_of_block HB.out)
  clear hk6 hin6 HKW HIN HB H0
  unfold kvVal
  rw [← HBE.out]
  go_wp2_with ((with_reducible refine wpList_putK (g := wr.heap.size) (h := (kvH ktM : Int)) (vs := kvV ktM) ?_ ?_ HZ.out ?_); exact rfl; exact rfl)
  intro W2 hW2 hk2
  have HW2 := Lib.hid hW2
  have HB3 := Lib.hid (hk2.heap HB2.out (by have := HBL.out; simp; omega))
  have HK3 := Lib.hid (HK2.out.trans hk2 (fun q hq => .inr (by simp at hq; have := HKA.out.size; have := HKR.out.size; omega)))
  clear hW2 hk2
  go_wp2_with (first
    | ((with_reducible refine wpList_loadK (g := wr.heap.size) (h := (kvH ktM : Int)) (vs := kvV ktM) rfl ?_ HW2.out ?_); exact rfl)
    | ((with_reducible refine wpList_putK (g := B) (h := (kvH ktM : Int)) (vs := kvV ktM) ?_ ?_ HB3.out ?_); exact rfl; exact rfl))
  intro W3 hW3 hk3
  have HW3 := Lib.hid hW3
  have HK4 := Lib.hid (HK3.out.trans hk3 (fun q hq => .inr (by simp at hq; have := HBE.out; omega)))
  clear hW3 hk3
  go_wp2_with fail
  try simp only [Exit.inBlock, Exit.then]
  exact bodyPost_ret (results_kv rfl _ _ B rfl HW3.out) rfl ⟨rfl, HK4.out⟩
theorem kvEq0 : kvEq (kvH kv0) (kvH kv0) (kvV kv0) (kvV kv0) = true := kvEq_same _ _
theorem enc_two : strOfNums (kvBn ktM) = ⟨#[5, 0, 1, 1, 2]⟩ := by decide +kernel
theorem awake11_any (R : KvProg G) (w : World) (hG : G w) : Calls Try.prog 16 #[] w fun e w' => e = .returned (.bool true) ∧ Keeps [] w w' := by
  have HR := Lib.hid R; have HG := Lib.hid hG
  clear R hG
  go_enter Try.func16, Try.ntmps16
  go_wp2_with fail
  refine (HR.out.new _ HG.out).mono ?_; rintro e w0 ⟨rfl, hk0⟩
  have HK0 := Lib.hid hk0
  clear hk0
  go_wp2_with fail
  refine (op11_any _ _ _ _ _).mono ?_; rintro e w1 ⟨rfl, hk1⟩
  have HK1 := Lib.hid (HK0.out.trans hk1 (FSub.refl _ _))
  clear hk1 HK0
  go_wp2_with fail
  refine (op11_any _ _ _ _ _).mono ?_; rintro e w2 ⟨rfl, hk2⟩
  have HK2 := Lib.hid (HK1.out.trans hk2 (FSub.refl _ _))
  clear hk2 HK1
  go_wp2_with fail
  refine (op11_any _ _ _ _ _).mono ?_; rintro e w3 ⟨rfl, hk3⟩
  have HK3 := Lib.hid (HK2.out.trans hk3 (FSub.refl _ _))
  clear hk3 HK2
  go_wp2_with fail
  refine (op11_any _ _ _ _ _).mono ?_; rintro e w4 ⟨rfl, hk4⟩
  have HK4 := Lib.hid (HK3.out.trans hk4 (FSub.refl _ _))
  clear hk4 HK3
  go_wp2_with fail
  refine (op11_any _ _ _ _ _).mono ?_; rintro e w5 ⟨rfl, hk5⟩
  have HK5 := Lib.hid (HK4.out.trans hk5 (FSub.refl _ _))
  clear hk5 HK4
  go_wp2_with fail
  refine (op11_any _ _ _ _ _).mono ?_; rintro e w6 ⟨rfl, hk6⟩
  have HK6 := Lib.hid (HK5.out.trans hk6 (FSub.refl _ _))
  clear hk6 HK5
  go_wp2_with fail
  refine (op11_any _ _ _ _ _).mono ?_; rintro e w7 ⟨rfl, hk7⟩
  have HK7 := Lib.hid (HK6.out.trans hk7 (FSub.refl _ _))
  clear hk7 HK6
  go_wp2_with ((with_reducible refine wpList_litO kwO ?_ ?_ ?_ ?_ ?_); exact rfl; exact rfl; decide; decide)
  intro W hs hk hin
  have HKW := Lib.hid (HK7.out.trans hk (FSub.refl _ _))
  have HIN := Lib.hid hin
  clear hs hk hin HK7
  generalize w7.heap.size = b at *
  go_wp2_with fail
  refine (HR.out.run _ _ _ kwO (HR.out.keep HG.out HKW.out) kv0_in kw_in HIN.out (by decide)).mono ?_; rintro e wr ⟨v', rfl, hin6, hk6⟩
  have HKR := Lib.hid (HKW.out.trans hk6 (FSub.refl _ _))
  rw [kw_run.2.1] at hin6
  rw [kw_run.1, kw_run.2.2]
  obtain ⟨a6, c6, rfl, -, -, -⟩ := id hin6
  have HIN6 := Lib.hid hin6
  have HZ := Lib.hid (show (wr.alloc (.cells #[.int .u8 0, .int .u16 0, .int .u16 0, .int .u16 0, .int .u16 0, .int .u16 0, .int .u16 0, .int .u16 0, .int .u16 0] 25)).heap[wr.heap.size]? = some (.cells (kvA 0 []) 25 (0, 0)) from heap_alloc_new wr (.cells (kvA 0 []) 25))
  have HK2 := Lib.hid (show Keeps [] w (wr.alloc (.cells #[.int .u8 0, .int .u16 0, .int .u16 0, .int .u16 0, .int .u16 0, .int .u16 0, .int .u16 0, .int .u16 0, .int .u16 0] 25)) from (HKR.out).alloc _)
  have HKA := Lib.hid (show Keeps [] wr (wr.alloc (.cells #[.int .u8 0, .int .u16 0, .int .u16 0, .int .u16 0, .int .u16 0, .int .u16 0, .int .u16 0, .int .u16 0, .int .u16 0] 25)) from (Keeps.refl _ _).alloc _)
  clear hk6 hin6 HKW HIN
  unfold kvVal
  go_wp2_with ((with_reducible refine wpList_putK (g := wr.heap.size) (h := (kvH kv0 : Int)) (vs := kvV kv0) ?_ ?_ HZ.out ?_); exact rfl; exact rfl)
  intro W hW hkw
  obtain ⟨C, hC⟩ : ∃ C, C = wr.heap.size := ⟨_, rfl⟩
  have HKW := Lib.hid (HK2.out.trans hkw (fun q hq => .inr (by simp at hq; have := HKR.out.size; omega)))
  have HIN := Lib.hid ((HIN6.out.new HKA.out (Nat.le_refl _)).same (hkw.same HKA.out.size (fun q hq => by simp at hq; omega)))
  have HCS := Lib.hid (show C ≤ W.heap.size from by have := HKA.out.size; have := hkw.size; omega)
  rw [← hC] at hW HIN ⊢
  have HW := Lib.hid hW
  clear hW hkw HIN6 HZ HK2 HKA hC
  have HGW := Lib.hid (HR.out.keep HG.out HKW.out)
  go_wp2_with fail
  obtain ⟨S, hS⟩ : ∃ S : World → Prop, S = fun y => Keeps [] W y := ⟨_, rfl⟩
  have HSE := Lib.hid hS
  have hSD : S W.drew := by rw [hS]; exact (Keeps.refl _ _).drew
  have HSK := Lib.hid (fun (w' : World) (hh : S w') => show ∃ t, w'.heap[C]? = some (.cells (kvA (kvH kv0) (kvV kv0)) t (0, 0)) from by rw [hS] at hh; exact ⟨_, hh.heap HW.out (by simp)⟩)
  have HS0 := Lib.hid (show Keeps [] W W.drew from (Keeps.refl _ _).drew)
  clear hS
  refine wp_region_noPanic ?_
  refine wp_region_held_drew (S := S) (by kernel_rfl) hSD (fun hHeld => ?_)
  apply wpAnyH_take (i := 0)
  · simp only [List.getElem?_toArray]; rfl
  · kernel_rfl
  · kernel_rfl
  · kernel_rfl
  · exact fun _ _ _ h => h
  · exact yields_loadK (by rfl) (.tmp 1) rfl C rfl (kvH kv0) (kvV kv0) HSK.out
  · assumption
  try simp only [Act.put, List.setIfInBounds_toArray, List.set_cons_zero, List.set_cons_succ]
  apply wpAnyH_ready (rs := [1])
  · kernel_rfl
  · simp
  apply AllReadyH.cons (hs := AllReadyH.nil)
  · simp only [List.getElem?_toArray]; rfl
  intro K hK
  rw [if_pos (by rfl)]
  refine wp_call9 26 _ _ rfl [] rfl Try.func26 (by kernel_rfl) (by kernel_rfl) ((HR.out.new _ (HR.out.keep HGW.out HS0.out)).mono ?_)
  rintro e X0 ⟨rfl, hk⟩
  refine ⟨_, rfl, ?_⟩
  have HS1 := Lib.hid (HS0.out.trans hk (FSub.refl _ _))
  clear hk HS0
  refine hK.out _ _ ?_ (fun hHeld => ?_)
  · exact (by rw [HSE.out]; exact HS1.out)
  clear hK K
  try simp only [Act.put, List.setIfInBounds_toArray, List.set_cons_zero, List.set_cons_succ]
  apply wpAnyH_take (i := 2)
  · simp only [List.getElem?_toArray]; rfl
  · kernel_rfl
  · kernel_rfl
  · kernel_rfl
  · exact fun _ _ _ h => h
  · exact yields_eqK (by rfl) (.tmp 18) (.tmp 19) _ rfl (h := (kvH kv0 : Int)) (h2 := (kvH kv0 : Int)) (vs := kvV kv0) (us := kvV kv0) rfl rfl
  · assumption
  try simp only [Act.put, List.setIfInBounds_toArray, List.set_cons_zero, List.set_cons_succ]
  rw [kvEq0]
  apply wpAnyH_take (i := 3)
  · simp only [List.getElem?_toArray]; rfl
  · kernel_rfl
  · kernel_rfl
  · kernel_rfl
  · exact fun _ _ _ h => h
  · exact Or.inl ⟨by rfl, by intro w hSw; go_simp; try with_reducible rfl⟩
  · assumption
  try simp only [Act.put, List.setIfInBounds_toArray, List.set_cons_zero, List.set_cons_succ]
  apply wpAnyH_take (i := 4)
  · simp only [List.getElem?_toArray]; rfl
  · kernel_rfl
  · kernel_rfl
  · kernel_rfl
  · exact fun _ _ _ h => h
  · exact Or.inl ⟨by rfl, by intro w hSw; go_simp; try with_reducible rfl⟩
  · assumption
  try simp only [Act.put, List.setIfInBounds_toArray, List.set_cons_zero, List.set_cons_succ]
  apply wpAnyH_take (i := 5)
  · simp only [List.getElem?_toArray]; rfl
  · kernel_rfl
  · kernel_rfl
  · kernel_rfl
  · exact fun _ _ _ h => h
  · exact Or.inl ⟨by rfl, by intro w hSw; go_simp; try with_reducible rfl⟩
  · assumption
  try simp only [Act.put, List.setIfInBounds_toArray, List.set_cons_zero, List.set_cons_succ]
  apply wpAnyH_take (i := 6)
  · simp only [List.getElem?_toArray]; rfl
  · kernel_rfl
  · kernel_rfl
  · kernel_rfl
  · exact fun _ _ _ h => h
  · exact Or.inl ⟨by rfl, by intro w hSw; go_simp; try with_reducible rfl⟩
  · assumption
  try simp only [Act.put, List.setIfInBounds_toArray, List.set_cons_zero, List.set_cons_succ]
  apply wpAnyH_take (i := 7)
  · simp only [List.getElem?_toArray]; rfl
  · kernel_rfl
  · kernel_rfl
  · kernel_rfl
  · exact fun _ _ _ h => h
  · exact Or.inl ⟨by rfl, by intro w hSw; go_simp; try with_reducible rfl⟩
  · assumption
  try simp only [Act.put, List.setIfInBounds_toArray, List.set_cons_zero, List.set_cons_succ]
  apply wpAnyH_take (i := 8)
  · simp only [List.getElem?_toArray]; rfl
  · kernel_rfl
  · kernel_rfl
  · kernel_rfl
  · exact fun _ _ _ h => h
  · exact Or.inl ⟨by rfl, by intro w hSw; go_simp; try with_reducible rfl⟩
  · assumption
  try simp only [Act.put, List.setIfInBounds_toArray, List.set_cons_zero, List.set_cons_succ]
  apply wpAnyH_ready (rs := [9])
  · kernel_rfl
  · simp
  apply AllReadyH.cons (hs := AllReadyH.nil)
  · simp only [List.getElem?_toArray]; rfl
  intro K hK
  rw [if_pos (by rfl)]
  refine wp_call9 29 _ _ rfl [.int .u8 2, .int .u16 0] rfl Try.func29 (by kernel_rfl) (by kernel_rfl) ((is11_any _ 2 0).mono ?_)
  rintro e X1 ⟨rfl, hk⟩
  refine ⟨_, rfl, ?_⟩
  have HS2 := Lib.hid (HS1.out.trans hk (FSub.refl _ _))
  clear hk HS1
  refine hK.out _ _ ?_ (fun hHeld => ?_)
  · exact (by rw [HSE.out]; exact HS2.out)
  clear hK K
  try simp only [Act.put, List.setIfInBounds_toArray, List.set_cons_zero, List.set_cons_succ]
  apply wpAnyH_ready (rs := [10])
  · kernel_rfl
  · simp
  apply AllReadyH.cons (hs := AllReadyH.nil)
  · simp only [List.getElem?_toArray]; rfl
  intro K hK
  rw [if_pos (by rfl)]
  refine wp_call9 29 _ _ rfl [.int .u8 0, .int .u16 0] rfl Try.func29 (by kernel_rfl) (by kernel_rfl) ((is11_any _ 0 0).mono ?_)
  rintro e X2 ⟨rfl, hk⟩
  refine ⟨_, rfl, ?_⟩
  have HS3 := Lib.hid (HS2.out.trans hk (FSub.refl _ _))
  clear hk HS2
  refine hK.out _ _ ?_ (fun hHeld => ?_)
  · exact (by rw [HSE.out]; exact HS3.out)
  clear hK K
  try simp only [Act.put, List.setIfInBounds_toArray, List.set_cons_zero, List.set_cons_succ]
  apply wpAnyH_ready (rs := [11])
  · kernel_rfl
  · simp
  apply AllReadyH.cons (hs := AllReadyH.nil)
  · simp only [List.getElem?_toArray]; rfl
  intro K hK
  rw [if_pos (by rfl)]
  refine wp_call9 29 _ _ rfl [.int .u8 3, .int .u16 0] rfl Try.func29 (by kernel_rfl) (by kernel_rfl) ((is11_any _ 3 0).mono ?_)
  rintro e X3 ⟨rfl, hk⟩
  refine ⟨_, rfl, ?_⟩
  have HS4 := Lib.hid (HS3.out.trans hk (FSub.refl _ _))
  clear hk HS3
  refine hK.out _ _ ?_ (fun hHeld => ?_)
  · exact (by rw [HSE.out]; exact HS4.out)
  clear hK K
  try simp only [Act.put, List.setIfInBounds_toArray, List.set_cons_zero, List.set_cons_succ]
  apply wpAnyH_ready (rs := [12])
  · kernel_rfl
  · simp
  apply AllReadyH.cons (hs := AllReadyH.nil)
  · simp only [List.getElem?_toArray]; rfl
  intro K hK
  rw [if_pos (by rfl)]
  refine wp_call9 29 _ _ rfl [.int .u8 4, .int .u16 0] rfl Try.func29 (by kernel_rfl) (by kernel_rfl) ((is11_any _ 4 0).mono ?_)
  rintro e X4 ⟨rfl, hk⟩
  refine ⟨_, rfl, ?_⟩
  have HS5 := Lib.hid (HS4.out.trans hk (FSub.refl _ _))
  clear hk HS4
  refine hK.out _ _ ?_ (fun hHeld => ?_)
  · exact (by rw [HSE.out]; exact HS5.out)
  clear hK K
  try simp only [Act.put, List.setIfInBounds_toArray, List.set_cons_zero, List.set_cons_succ]
  apply wpAnyH_ready (rs := [13])
  · kernel_rfl
  · simp
  apply AllReadyH.cons (hs := AllReadyH.nil)
  · simp only [List.getElem?_toArray]; rfl
  intro K hK
  rw [if_pos (by rfl)]
  refine wp_call9 29 _ _ rfl [.int .u8 1, .int .u16 7] rfl Try.func29 (by kernel_rfl) (by kernel_rfl) ((is11_any _ 1 7).mono ?_)
  rintro e X5 ⟨rfl, hk⟩
  refine ⟨_, rfl, ?_⟩
  have HS6 := Lib.hid (HS5.out.trans hk (FSub.refl _ _))
  clear hk HS5
  refine hK.out _ _ ?_ (fun hHeld => ?_)
  · exact (by rw [HSE.out]; exact HS6.out)
  clear hK K
  try simp only [Act.put, List.setIfInBounds_toArray, List.set_cons_zero, List.set_cons_succ]
  apply wpAnyH_ready (rs := [14])
  · kernel_rfl
  · simp
  apply AllReadyH.cons (hs := AllReadyH.nil)
  · simp only [List.getElem?_toArray]; rfl
  intro K hK
  rw [if_pos (by rfl)]
  refine wp_call9 29 _ _ rfl [.int .u8 3, .int .u16 0] rfl Try.func29 (by kernel_rfl) (by kernel_rfl) ((is11_any _ 3 0).mono ?_)
  rintro e X6 ⟨rfl, hk⟩
  refine ⟨_, rfl, ?_⟩
  have HS7 := Lib.hid (HS6.out.trans hk (FSub.refl _ _))
  clear hk HS6
  refine hK.out _ _ ?_ (fun hHeld => ?_)
  · exact (by rw [HSE.out]; exact HS7.out)
  clear hK K
  try simp only [Act.put, List.setIfInBounds_toArray, List.set_cons_zero, List.set_cons_succ]
  apply wpAnyH_ready (rs := [15])
  · kernel_rfl
  · simp
  apply AllReadyH.cons (hs := AllReadyH.nil)
  · simp only [List.getElem?_toArray]; rfl
  intro K hK
  rw [if_pos (by rfl)]
  refine wp_call9 29 _ _ rfl [.int .u8 4, .int .u16 0] rfl Try.func29 (by kernel_rfl) (by kernel_rfl) ((is11_any _ 4 0).mono ?_)
  rintro e X7 ⟨rfl, hk⟩
  refine ⟨_, rfl, ?_⟩
  have HS8 := Lib.hid (HS7.out.trans hk (FSub.refl _ _))
  clear hk HS7
  refine hK.out _ _ ?_ (fun hHeld => ?_)
  · exact (by rw [HSE.out]; exact HS8.out)
  clear hK K
  try simp only [Act.put, List.setIfInBounds_toArray, List.set_cons_zero, List.set_cons_succ]
  apply wpAnyH_ready (rs := [16])
  · kernel_rfl
  · simp
  apply AllReadyH.cons (hs := AllReadyH.nil)
  · simp only [List.getElem?_toArray]; rfl
  intro K hK
  rw [if_pos (by rfl)]
  refine rkA.wp_buildL _ kwA rfl (by rw [Array.toList_map]; rfl) (by decide) (by decide) ?_
  have HL := Lib.hid (rkA.lit_in (N := X7.heap.size + 1) (heap_alloc_new X7 (.cells (rkA.row kwA).toArray rkA.T)) (by omega) (by decide))
  have hk : Keeps [] X7 (X7.alloc (.cells (rkA.row kwA).toArray rkA.T)) := (Keeps.refl _ _).alloc _
  have hz : (X7.alloc (.cells (rkA.row kwA).toArray rkA.T)).heap.size = X7.heap.size + 1 := Array.size_push _
  generalize X7.alloc (.cells (rkA.row kwA).toArray rkA.T) = X8 at *
  have HS9 := Lib.hid (HS8.out.trans hk (FSub.refl _ _))
  have HZ8 := Lib.hid (Nat.le_of_eq hz.symm)
  clear hk hz HS8
  refine hK.out _ _ ?_ (fun hHeld => ?_)
  · exact (by rw [HSE.out]; exact HS9.out)
  clear hK K
  try simp only [Act.put, List.setIfInBounds_toArray, List.set_cons_zero, List.set_cons_succ]
  apply wpAnyH_ready (rs := [17])
  · kernel_rfl
  · simp
  apply AllReadyH.cons (hs := AllReadyH.nil)
  · simp only [List.getElem?_toArray]; rfl
  intro K hK
  rw [if_pos (by rfl)]
  refine wp_call9 28 _ _ rfl [.slice a6 kwA.length c6, .slice (some ⟨X7.heap.size, 0, none⟩) kwA.length kwA.length] rfl Try.func28 (by kernel_rfl) (by kernel_rfl) ((same11_any X8 (HIN.out.new HS9.out (by have := HCS.out; omega)) HL.out (by have := HCS.out; have := HS9.out.size; omega) HZ8.out).mono ?_)
  rintro e X9 ⟨rfl, hk⟩
  refine ⟨_, rfl, ?_⟩
  have HS10 := Lib.hid (HS9.out.trans hk (FSub.refl _ _))
  clear hk HS9 HL HZ8
  refine hK.out _ _ ?_ (fun hHeld => ?_)
  · exact (by rw [HSE.out]; exact HS10.out)
  clear hK K
  try simp only [Act.put, List.setIfInBounds_toArray, List.set_cons_zero, List.set_cons_succ]
  apply wpAnyH_take (i := 18)
  · simp only [List.getElem?_toArray]; rfl
  · kernel_rfl
  · kernel_rfl
  · kernel_rfl
  · exact fun _ _ _ h => h
  · exact Or.inl ⟨by rfl, by intro w hSw; go_simp; try with_reducible rfl⟩
  · assumption
  try simp only [Act.put, List.setIfInBounds_toArray, List.set_cons_zero, List.set_cons_succ]
  apply wpAnyH_take (i := 19)
  · simp only [List.getElem?_toArray]; rfl
  · kernel_rfl
  · kernel_rfl
  · kernel_rfl
  · exact fun _ _ _ h => h
  · exact Or.inl ⟨by rfl, by intro w hSw; go_simp; try with_reducible rfl⟩
  · assumption
  try simp only [Act.put, List.setIfInBounds_toArray, List.set_cons_zero, List.set_cons_succ]
  apply wpAnyH_ready (rs := [20])
  · kernel_rfl
  · simp
  apply AllReadyH.cons (hs := AllReadyH.nil)
  · simp only [List.getElem?_toArray]; rfl
  intro K hK
  rw [if_pos (by rfl)]
  refine wp_call9 24 _ _ rfl [] rfl Try.func24 (by kernel_rfl) (by kernel_rfl) ((two11_any HR.out _ (HR.out.keep HGW.out HS10.out)).mono ?_)
  rintro e X10 ⟨rfl, hk⟩
  refine ⟨_, rfl, ?_⟩
  have HS11 := Lib.hid (HS10.out.trans hk (FSub.refl _ _))
  clear hk HS10
  refine hK.out _ _ ?_ (fun hHeld => ?_)
  · exact (by rw [HSE.out]; exact HS11.out)
  clear hK K
  try simp only [Act.put, List.setIfInBounds_toArray, List.set_cons_zero, List.set_cons_succ]
  apply wpAnyH_ready (rs := [21])
  · kernel_rfl
  · simp
  apply AllReadyH.cons (hs := AllReadyH.nil)
  · simp only [List.getElem?_toArray]; rfl
  intro K hK
  rw [if_pos (by rfl)]
  refine wp_call9 21 _ _ rfl [kvVal ktM] rfl Try.func21 (by kernel_rfl) (by kernel_rfl) ((HR.out.enc _ ktM (HR.out.keep HGW.out HS11.out) kt_in).mono ?_)
  rintro e X11 ⟨rfl, hk⟩
  refine ⟨_, rfl, ?_⟩
  rw [enc_two]
  have HS12 := Lib.hid (HS11.out.trans hk (FSub.refl _ _))
  clear hk HS11
  refine hK.out _ _ ?_ (fun hHeld => ?_)
  · exact (by rw [HSE.out]; exact HS12.out)
  clear hK K
  try simp only [Act.put, List.setIfInBounds_toArray, List.set_cons_zero, List.set_cons_succ]
  apply wpAnyH_take (i := 22)
  · simp only [List.getElem?_toArray]; rfl
  · kernel_rfl
  · kernel_rfl
  · kernel_rfl
  · exact fun _ _ _ h => h
  · exact Or.inl ⟨by rfl, by intro w hSw; go_simp; try with_reducible rfl⟩
  · assumption
  try simp only [Act.put, List.setIfInBounds_toArray, List.set_cons_zero, List.set_cons_succ]
  apply wpAnyH_take (i := 23)
  · simp only [List.getElem?_toArray]; rfl
  · kernel_rfl
  · kernel_rfl
  · kernel_rfl
  · exact fun _ _ _ h => h
  · exact Or.inl ⟨by rfl, by intro w hSw; go_simp; try with_reducible rfl⟩
  · assumption
  try simp only [Act.put, List.setIfInBounds_toArray, List.set_cons_zero, List.set_cons_succ]
  apply wpAnyH_take (i := 24)
  · simp only [List.getElem?_toArray]; rfl
  · kernel_rfl
  · kernel_rfl
  · kernel_rfl
  · exact fun _ _ _ h => h
  · exact Or.inl ⟨by rfl, by intro w hSw; go_simp; try with_reducible rfl⟩
  · assumption
  try simp only [Act.put, List.setIfInBounds_toArray, List.set_cons_zero, List.set_cons_succ]
  refine wpAnyH_done (by kernel_rfl) ?_ _
  refine NoPanic.normal ?_
  go_wp2_with fail
  go_ret
  exact ⟨rfl, HKW.out.trans HS12.out (FSub.refl _ _)⟩
end Go.Proofs.Ytnmpekbkahkapaa
/-
  The program's key map: bits; New, Idle, has; the steps as an array, and which step is an operation's.
-/
namespace Go.Proofs.Ytnmpekbkahkapaa
open Go.RowKit
theorem shr8 (h : Nat) (hh : h < 256) (key : Int) (h0 : 0 ≤ key) (w : World) : (Op.shift BinOp.shr IntKind.u8 (h : Int) IntKind.u8 key).run Try.prog w = .ok (.int .u8 ((h / 2 ^ key.toNat : Nat) : Int)) w := by
  by_cases hk : key ≤ 8
  · rw [shift_shr .u8 .u8 _ _ h0 hk, Int.natCast_ediv, Int.natCast_pow]
    rfl
  · have h1 : min key.toNat 8 = 8 := by omega
    have h2 : h / 2 ^ key.toNat = 0 := Nat.div_eq_of_lt (Nat.lt_of_lt_of_le hh (Nat.pow_le_pow_right (n := 2) (by decide) (show 8 ≤ key.toNat by omega)))
    have h3 : (h : Int) / 2 ^ 8 = 0 := by omega
    have h4 : ¬ key < 0 := by omega
    simp only [Op.shift, if_neg h4, IntKind.bits, h1, h2, Int.fdiv_eq_ediv_of_nonneg _ (by decide : (0 : Int) ≤ 2 ^ 8), h3]
    rfl
theorem shl8 {k : Nat} (hk : k < 8) (w : World) : (Op.shift BinOp.shl IntKind.u8 1 IntKind.u8 (k : Int)).run Try.prog w = .ok (.int .u8 ((2 ^ k : Nat) : Int)) w := by
  rcases (by omega : k = 0 ∨ k = 1 ∨ k = 2 ∨ k = 3 ∨ k = 4 ∨ k = 5 ∨ k = 6 ∨ k = 7) with rfl | rfl | rfl | rfl | rfl | rfl | rfl | rfl <;> kernel_rfl
theorem and8 {q : Nat} (h : q < 256) : bits .and .u8 (q : Int) 1 = ((q % 2 : Nat) : Int) := by
  have : ∀ q : Fin 256, bits .and .u8 (q.val : Int) 1 = ((q.val % 2 : Nat) : Int) := by decide +kernel
  exact this ⟨q, h⟩
theorem or8 {q k : Nat} (h : q < 256) (hk : k < 8) : bits .or .u8 (q : Int) ((2 ^ k : Nat) : Int) = ((if q / 2 ^ k % 2 = 1 then q else q + 2 ^ k : Nat) : Int) := by
  have : ∀ (q : Fin 256) (k : Fin 8), bits .or .u8 (q.val : Int) ((2 ^ k.val : Nat) : Int) = ((if q.val / 2 ^ k.val % 2 = 1 then q.val else q.val + 2 ^ k.val : Nat) : Int) := by decide +kernel
  exact this ⟨q, h⟩ ⟨k, hk⟩
theorem not8 {q k : Nat} (h : q < 256) (hk : k < 8) : bits .andNot .u8 (q : Int) ((2 ^ k : Nat) : Int) = ((if q / 2 ^ k % 2 = 1 then q - 2 ^ k else q : Nat) : Int) := by
  have : ∀ (q : Fin 256) (k : Fin 8), bits .andNot .u8 (q.val : Int) ((2 ^ k.val : Nat) : Int) = ((if q.val / 2 ^ k.val % 2 = 1 then q.val - 2 ^ k.val else q.val : Nat) : Int) := by decide +kernel
  exact this ⟨q, h⟩ ⟨k, hk⟩
/-- A key that is put, a key that is taken away: the byte. -/
theorem kvH_put {m : Kv} (hm : m.length = 8) {k : Nat} (hk : k < 8) (v : Int) : bits .or .u8 (kvH m : Int) ((2 ^ k : Nat) : Int) = (kvH (m.set k (some v)) : Int) := by
  have hl := kvH_lt m
  have hs := kvH_set m k (by omega) (some v)
  have hb := kvH_bit m k
  rw [hm] at hl
  rw [or8 hl hk]
  simp only [Option.isSome_some, if_true] at hs
  cases ho : (m.getD k none).isSome with
  | true => rw [ho] at hs hb; simp only [if_true] at hs hb; rw [if_pos hb]; omega
  | false => rw [ho] at hs hb; simp only [Bool.false_eq_true, if_false] at hs hb; rw [if_neg (by omega)]; omega
theorem kvH_del {m : Kv} (hm : m.length = 8) {k : Nat} (hk : k < 8) : bits .andNot .u8 (kvH m : Int) ((2 ^ k : Nat) : Int) = (kvH (m.set k none) : Int) := by
  have hl := kvH_lt m
  have hs := kvH_set m k (by omega) none
  have hb := kvH_bit m k
  rw [hm] at hl
  rw [not8 hl hk]
  simp only [Option.isSome_none, Bool.false_eq_true, if_false] at hs
  cases ho : (m.getD k none).isSome with
  | true => rw [ho] at hs hb; simp only [if_true] at hs hb; rw [if_pos hb]; omega
  | false => rw [ho] at hs hb; simp only [Bool.false_eq_true, if_false] at hs hb; rw [if_neg (by omega)]; omega
set_option maxHeartbeats 8000000
set_option maxRecDepth 100000
theorem kvNew_any (w : World) : Calls Try.prog 26 #[] w fun e w' => e = .returned (kvVal kv0) ∧ Keeps [] w w' := by
  have h0 := heap_alloc_new w (.cells (kvA 0 []) 25)
  have HN := Lib.hid h0
  have HK := Lib.hid (show Keeps [] w (w.alloc (.cells (kvA 0 []) 25)) from (Keeps.refl _ _).alloc _)
  clear h0
  go_enter Try.func26, Try.ntmps26
  go_wp2_with fail
  try simp only [Exit.inBlock, Exit.then]
  exact bodyPost_ret (results_kv rfl _ _ w.heap.size (x := 0) (vs := []) rfl HN.out) rfl ⟨rfl, HK.out⟩
theorem kvIdle_any (w : World) (f : Int) : Calls Try.prog 27 #[.int .u8 f] w fun e w' => e = .returned (.bool (decide (f = 6))) ∧ Keeps [] w w' := by
  by_cases hf : f = 6
  · have t : (f == 6) = true := by simpa using hf
    rw [decide_eq_true hf]
    clear hf
    go_enter Try.func27, Try.ntmps27
    go_wp2_with fail
    go_ret
    exact ⟨rfl, Keeps.refl _ _⟩
  · have t : (f == 6) = false := by simpa using hf
    rw [decide_eq_false hf]
    clear hf
    go_enter Try.func27, Try.ntmps27
    go_wp2_with fail
    go_ret
    exact ⟨rfl, Keeps.refl _ _⟩
theorem kvHas_any (w : World) {h : Nat} (hh : h < 256) (vs : List Int) {key : Int} (h0 : 0 ≤ key) : Calls Try.prog 30 #[.agg (kvA h vs), .int .u8 key] w fun e w' => e = .returned (.bool (decide (h / 2 ^ key.toNat % 2 = 1))) ∧ Keeps [] w w' := by
  have c0 := kv_byte (heap_alloc_new w (.cells (kvA h vs) 25))
  have hs := shr8 h hh key h0
  have hq : h / 2 ^ key.toNat < 256 := Nat.lt_of_le_of_lt (Nat.div_le_self _ _) hh
  have hb := and8 hq
  generalize h / 2 ^ key.toNat = q at *
  rcases Nat.mod_two_eq_zero_or_one q with e | e
  · rw [e] at hb
    rw [decide_eq_false (by omega)]
    clear hq e h0 hh
    go_enter Try.func30, Try.ntmps30
    go_wp2_with fail
    go_ret
    exact ⟨rfl, (Keeps.refl _ _).alloc _⟩
  · rw [e] at hb
    rw [decide_eq_true e]
    clear hq e h0 hh
    go_enter Try.func30, Try.ntmps30
    go_wp2_with fail
    go_ret
    exact ⟨rfl, (Keeps.refl _ _).alloc _⟩
/-- The steps at the F of their operations. -/
def stepsK : Array Value := #[.nilFunc, .nilFunc, .nilFunc, .nilFunc, .nilFunc, .nilFunc, fnV 53, fnV 54, fnV 55, fnV 56]
/-- Which step an operation takes. -/
def kvK (f : Int) : Nat := if f = 6 then 53 else if f = 7 then 54 else if f = 8 then 55 else 56
theorem kvK_func (f : Int) : ∃ fn, Try.prog.funcs[kvK f]? = some fn ∧ (fn.name == "runtime.NumGoroutine") = false ∧ fn.body.isNone = false := by
  unfold kvK
  split
  · exact ⟨_, Try.func53, by kernel_rfl, by kernel_rfl⟩
  · split
    · exact ⟨_, Try.func54, by kernel_rfl, by kernel_rfl⟩
    · split
      · exact ⟨_, Try.func55, by kernel_rfl, by kernel_rfl⟩
      · exact ⟨_, Try.func56, by kernel_rfl, by kernel_rfl⟩
section
variable {ops : Array Oper} {rest : List Oper} {o : Oper} {a : Act} {w : World} {S : World → Prop} {Q : Exit → Act → World → Prop}
theorem wpList_putS11 {dst : Option Tmp} {ty : TypeId} {pos : String} {after : Array Edge} {x y : Operand} {g : Nat} {t : TypeId}
    (hx : a.eval x = .pointer (some ⟨g, 0, none⟩)) (hy : a.eval y = .agg stepsK) (hg : w.heap[g]? = some (.cells #[.nilFunc, .nilFunc, .nilFunc, .nilFunc, .nilFunc, .nilFunc, .nilFunc, .nilFunc, .nilFunc, .nilFunc] t (0, 0)))
    (h : ∀ W, W.heap[g]? = some (.cells stepsK t (0, 0)) → Keeps [g] w W → wpList Try.prog ops Q rest (a.put dst undef) W) :
    wpList Try.prog ops Q ({ dst := dst, op := .store 97 x y, type := ty, pos := pos, after := after, guard := none } :: rest) a w :=
  wpList_store_row rfl 97 x y rfl g stepsK hx hy t _ hg (by kernel_rfl) rfl (by kernel_rfl) (h _ (setRow_heap w g _ stepsK t (0, 0) hg) ((Keeps.refl [g] w).setRow g _ (.inl (by simp))))
/-- What stands in the array. -/
def kvFn (f : Int) : Value := if f < 6 then .nilFunc else fnV (kvK f)
theorem index_stepsK {f : Int} (h0 : 0 ≤ f) (h9 : f ≤ 9) (w : World) : (Instr.index 97 (.agg stepsK) (.int .u8 f)).run Try.prog w = .ok (kvFn f) w := by
  rcases (by omega : f = 0 ∨ f = 1 ∨ f = 2 ∨ f = 3 ∨ f = 4 ∨ f = 5 ∨ f = 6 ∨ f = 7 ∨ f = 8 ∨ f = 9) with rfl | rfl | rfl | rfl | rfl | rfl | rfl | rfl | rfl | rfl <;> kernel_rfl
theorem yields_idxK (hw : Region.wanted o (yielded ops a.tmps) = true) (x y : Operand) (ho : o.op = .index 97 x y) {f : Int} (hx : a.eval x = .agg stepsK) (hy : a.eval y = .int .u8 f) (h0 : 0 ≤ f) (h9 : f ≤ 9) : YieldsIf Try.prog ops S o (kvFn f) a :=
  Or.inl ⟨hw, by
    intro w _
    unfold execOp
    have h := index_stepsK h0 h9 w
    simp only [ho, hx, hy, Sem.run_bind]
    simp [h, Result.andThen]⟩
end
theorem kvSteps_any (w : World) : Calls Try.prog 44 #[] w fun e w' => e = .returned (.agg stepsK) ∧ Keeps [] w w' := by
  have h := heap_alloc_new w (.cells #[.nilFunc, .nilFunc, .nilFunc, .nilFunc, .nilFunc, .nilFunc, .nilFunc, .nilFunc, .nilFunc, .nilFunc] 97)
  have HN := Lib.hid h
  have HK := Lib.hid (show Keeps [] w (w.alloc (.cells #[.nilFunc, .nilFunc, .nilFunc, .nilFunc, .nilFunc, .nilFunc, .nilFunc, .nilFunc, .nilFunc, .nilFunc] 97)) from (Keeps.refl _ _).alloc _)
  clear h
  go_enter Try.func44, Try.ntmps44
  go_wp2_with ((with_reducible refine wpList_putS11 (g := w.heap.size) ?_ ?_ HN.out ?_); exact rfl; exact rfl)
  intro W hW hk
  have HW := Lib.hid hW; have HKW := Lib.hid hk
  clear hW hk
  go_wp2_with fail
  try simp only [Exit.inBlock, Exit.then]
  exact bodyPost_ret (results_cell_row (P := Try.prog) rfl _ _ _ _ _ _ _ rfl HW.out Try.underlying97 rfl (by kernel_rfl)) rfl ⟨rfl, HK.out.trans HKW.out (fun q hq => .inr (by simp at hq; omega))⟩
end Go.Proofs.Ytnmpekbkahkapaa
/-
  The program's key map: which step is an operation's.
-/
namespace Go.Proofs.Ytnmpekbkahkapaa
open Go.RowKit
set_option maxHeartbeats 8000000
set_option maxRecDepth 100000
/-- What stepOf tells. -/
def kvSt (x : Opn) : Value := if 9 < x.f ∨ 7 < x.k then .nilFunc else kvFn x.f
theorem kvStepOf_any (w : World) (x : Opn) (hx : x.In) : Calls Try.prog 31 #[x.val] w fun e w' => e = .returned (kvSt x) ∧ Keeps [] w w' := by
  have hf0 := hx.f0; have hk0 := hx.k0
  by_cases h9 : 9 < x.f
  · have e : kvSt x = .nilFunc := by unfold kvSt; rw [if_pos (.inl h9)]
    rw [e]
    have HK := Lib.hid (show Keeps [] w (w.alloc (.cells #[.int .u8 x.f, .int .u8 x.o, .int .u8 x.k, .int .u16 x.a, .int .u16 x.b] 27)) from (Keeps.refl _ _).alloc _)
    have t9 : decide (9 < x.f) = true := decide_eq_true h9
    clear hx e
    unfold Opn.val
    go_enter Try.func31, Try.ntmps31
    go_wp2_with fail
    go_ret
    exact ⟨rfl, HK.out⟩
  · by_cases h7 : 7 < x.k
    · have e : kvSt x = .nilFunc := by unfold kvSt; rw [if_pos (.inr h7)]
      rw [e]
      have HK := Lib.hid (show Keeps [] w (w.alloc (.cells #[.int .u8 x.f, .int .u8 x.o, .int .u8 x.k, .int .u16 x.a, .int .u16 x.b] 27)) from (Keeps.refl _ _).alloc _)
      have h8 : 8 ≤ x.k := by omega
      clear hx e
      unfold Opn.val
      go_enter Try.func31, Try.ntmps31
      go_wp2_with fail
      go_ret
      exact ⟨rfl, HK.out⟩
    · have e : kvSt x = kvFn x.f := by unfold kvSt; rw [if_neg (by omega)]
      rw [e]
      obtain ⟨W, hW⟩ : ∃ W, W = w.alloc (.cells #[.int .u8 x.f, .int .u8 x.o, .int .u8 x.k, .int .u16 x.a, .int .u16 x.b] 27) := ⟨_, rfl⟩
      have hk0' : Keeps [] w W := by rw [hW]; exact (Keeps.refl _ _).alloc _
      have hn : W.heap[w.heap.size]? = some (.cells #[.int .u8 x.f, .int .u8 x.o, .int .u8 x.k, .int .u16 x.a, .int .u16 x.b] 27 (0, 0)) := by rw [hW]; exact heap_alloc_new w _
      obtain ⟨R, hR⟩ : ∃ R, R = w.heap.size := ⟨_, rfl⟩
      rw [← hR] at hn
      obtain ⟨S, hS⟩ : ∃ S : World → Prop, S = fun y => Keeps [] W y := ⟨_, rfl⟩
      have HSE := Lib.hid hS
      have hSD : S W.drew := by rw [hS]; exact (Keeps.refl _ _).drew
      have HSF := Lib.hid (fun (w' : World) (hh : S w') => show w'.cell? ⟨R, 0, none⟩ = some (.int .u8 x.f) from by rw [hS] at hh; exact hh.cell (cell_lit hn 0 rfl) (by simp))
      have HK := Lib.hid hk0'; have HRR := Lib.hid hR; have HWW := Lib.hid hW
      have h8 : ¬ 8 ≤ x.k := by omega
      have hf9 : x.f ≤ 9 := by omega
      clear hx e hW hk0' hn hR hS
      unfold Opn.val
      go_enter Try.func31, Try.ntmps31
      go_wp2_with fail
      rw [← HRR.out, ← HWW.out]
      clear HRR HWW
      refine wp_region_noPanic ?_
      refine wp_region_held_drew (S := S) (by kernel_rfl) hSD (fun hHeld => ?_)
      apply wpAnyH_take (i := 1)
      · simp only [List.getElem?_toArray]; rfl
      · kernel_rfl
      · kernel_rfl
      · kernel_rfl
      · exact fun _ _ _ h => h
      · exact Or.inl ⟨by rfl, by intro w hSw; go_simp; try with_reducible rfl⟩
      · assumption
      try simp only [Act.put, List.setIfInBounds_toArray, List.set_cons_zero, List.set_cons_succ]
      apply wpAnyH_take (i := 2)
      · simp only [List.getElem?_toArray]; rfl
      · kernel_rfl
      · kernel_rfl
      · kernel_rfl
      · exact fun _ _ _ h => h
      · exact Or.inl ⟨by rfl, by intro w hSw; have q0 := HSF.out w hSw; go_simp; try with_reducible rfl⟩
      · assumption
      try simp only [Act.put, List.setIfInBounds_toArray, List.set_cons_zero, List.set_cons_succ]
      apply wpAnyH_ready (rs := [0])
      · kernel_rfl
      · simp
      apply AllReadyH.cons (hs := AllReadyH.nil)
      · simp only [List.getElem?_toArray]; rfl
      intro K hK
      rw [if_pos (by rfl)]
      refine wp_call9 44 _ _ rfl [] rfl Try.func44 (by kernel_rfl) (by kernel_rfl) ((kvSteps_any W.drew).mono ?_)
      rintro e W1 ⟨rfl, hk1⟩
      refine ⟨_, rfl, ?_⟩
      have HK1 := Lib.hid (((Keeps.refl [] W).drew).trans hk1 (FSub.refl _ _))
      clear hk1
      refine hK.out _ _ ?_ (fun hHeld => ?_)
      · exact (by rw [HSE.out]; exact HK1.out)
      clear hK K
      try simp only [Act.put, List.setIfInBounds_toArray, List.set_cons_zero, List.set_cons_succ]
      apply wpAnyH_take (i := 3)
      · simp only [List.getElem?_toArray]; rfl
      · kernel_rfl
      · kernel_rfl
      · kernel_rfl
      · exact fun _ _ _ h => h
      · exact yields_idxK (by rfl) _ _ rfl rfl rfl hf0 hf9
      · assumption
      try simp only [Act.put, List.setIfInBounds_toArray, List.set_cons_zero, List.set_cons_succ]
      apply wpAnyH_take (i := 4)
      · simp only [List.getElem?_toArray]; rfl
      · kernel_rfl
      · kernel_rfl
      · kernel_rfl
      · exact fun _ _ _ h => h
      · exact Or.inl ⟨by rfl, by intro w hSw; go_simp; try with_reducible rfl⟩
      · assumption
      try simp only [Act.put, List.setIfInBounds_toArray, List.set_cons_zero, List.set_cons_succ]
      refine wpAnyH_done (by kernel_rfl) ?_ _
      refine NoPanic.normal ?_
      go_wp2_with fail
      go_ret
      exact ⟨rfl, HK.out.trans HK1.out (FSub.refl _ _)⟩
end Go.Proofs.Ytnmpekbkahkapaa
