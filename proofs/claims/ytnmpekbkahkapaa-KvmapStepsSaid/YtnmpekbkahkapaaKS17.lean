/-
  KvmapSteps over any key map.
-/
import Derived.Test.YtnmpekbkahkapaaKS15
import Derived.Test.YtnmpekbkahkapaaKS16
import Derived.Test.YtnmpekbkahkapaaKS06
set_option linter.unusedSimpArgs false
set_option linter.unusedVariables false
namespace Go.Proofs.Ytnmpekbkahkapaa
open Go.RowKit
section
variable {ops : Array Oper} {rest : List Oper} {o : Oper} {a : Act} {w : World} {K : Act → World → Prop} {Q : Exit → Act → World → Prop}
theorem run_alloc11 (w : World) : (Instr.alloc 32 true (.tuple #[])).run Try.prog w = .ok (.pointer (some ⟨w.heap.size, 0, none⟩)) (w.alloc (.cells (ansC ⟨0, 0⟩).toArray 32)) := by kernel_rfl
theorem wp_alloc11 (o : Oper) (a : Act) (w : World) (K : Act → World → Prop) (ho : o.op = .alloc 32) (h : K (a.put o.dst (.pointer (some ⟨w.heap.size, 0, none⟩))) (w.alloc (.cells (ansC ⟨0, 0⟩).toArray 32))) : o.wp Try.prog a w K Q := by
  unfold Oper.wp execOp
  simp only [ho, Sem.run_bind, run_alloc11, Result.andThen_ok, Sem.run_pure]
  exact h
theorem wp_put11 {x y : Operand} (ho : o.op = .store 32 x y) {g : Nat} {old : Ans} (r : Ans) {t : TypeId}
    (hx : a.eval x = .pointer (some ⟨g, 0, none⟩)) (hy : a.eval y = .agg (ansC r).toArray) (hg : w.heap[g]? = some (.cells (ansC old).toArray t (0, 0)))
    (h : ∀ W, W.heap[g]? = some (.cells (ansC r).toArray t (0, 0)) → Keeps [g] w W → K (a.put o.dst undef) W) : o.wp Try.prog a w K Q :=
  wp_store_row 32 x y ho g (ansC r).toArray hx hy t (ansC old).toArray hg (by kernel_rfl) rfl (by rw [← Array.all_toList, List.all_eq_true]; exact ansC_one r) (h _ (setRow_heap w g (ansC old).toArray (ansC r).toArray t (0, 0) hg) ((Keeps.refl [g] w).setRow g _ (.inl (by simp))))
theorem wpList_loadX11 {dst : Option Tmp} {ty : TypeId} {pos : String} {after : Array Edge} {gd : Option (Nat × Bool)} {x : Operand} {g : Nat} (y : Opn) {t : TypeId}
    (hw : Region.wanted { dst := dst, op := .load 27 x, type := ty, pos := pos, after := after, guard := gd } (yielded ops a.tmps) = true)
    (hx : a.eval x = .pointer (some ⟨g, 0, none⟩)) (hg : w.heap[g]? = some (.cells (opC y).toArray t (0, 0))) (h : wpList Try.prog ops Q rest (a.put dst (.agg #[.int .u8 y.f, .int .u8 y.o, .int .u8 y.k, .int .u16 y.a, .int .u16 y.b])) w) :
    wpList Try.prog ops Q ({ dst := dst, op := .load 27 x, type := ty, pos := pos, after := after, guard := gd } :: rest) a w :=
  wpList_step fun _ hK => by
    rw [if_pos hw]
    exact wp_load_row 27 x rfl g hx t _ (0, 0) _ hg Try.underlying27 rfl (by kernel_rfl) (hK _ _ h)
theorem wpList_loadR {dst : Option Tmp} {ty : TypeId} {pos : String} {after : Array Edge} {gd : Option (Nat × Bool)} {x : Operand} {g : Nat} {k v : Int} {t : TypeId}
    (hw : Region.wanted { dst := dst, op := .load 32 x, type := ty, pos := pos, after := after, guard := gd } (yielded ops a.tmps) = true)
    (hx : a.eval x = .pointer (some ⟨g, 0, none⟩)) (hg : w.heap[g]? = some (.cells (ansC ⟨k, v⟩).toArray t (0, 0))) (h : wpList Try.prog ops Q rest (a.put dst (.agg #[.int .u8 k, .int .u16 v])) w) :
    wpList Try.prog ops Q ({ dst := dst, op := .load 32 x, type := ty, pos := pos, after := after, guard := gd } :: rest) a w :=
  wpList_step fun _ hK => by
    rw [if_pos hw]
    exact wp_load_row 32 x rfl g hx t _ (0, 0) _ hg Try.underlying32 rfl (by kernel_rfl) (hK _ _ h)
end
variable {G : World → Prop}
theorem raw_eq {h : Nat} {vs : List Int} (hr : RawIn h vs) : kvEq (h : Int) (kvH (kvOf h vs)) vs (kvV (kvOf h vs)) = decide (kvV (kvOf h vs) = vs) := by
  rw [Bool.eq_iff_iff, kvEq_iff hr.len (by rw [kvV_len, kvOf_len, hr.len]), decide_eq_true_eq]
  refine ⟨fun h2 => h2.2.symm, fun h2 => ⟨?_, h2.symm⟩⟩
  rw [kvOf_H h vs (by rw [hr.len]; exact hr.h1)]
theorem bool_ne (b : Bool) : (b != b) = false := by cases b <;> rfl
set_option maxHeartbeats 8000000
set_option maxRecDepth 100000
theorem KvmapSteps_any (R : KvProg G) (w : World) (hG : G w) {h : Nat} {vs : List Int} (hr : RawIn h vs) (x : Opn) (hx : x.In) :
    Calls Try.prog 3 #[.agg (kvA h vs), x.val] w fun e w' => e = .returned (.bool true) ∧ Keeps [] w w' := by
  have hk0 : Keeps [] w ((w.alloc (.cells (kvA h vs) 25)).alloc (.cells (opC x).toArray 27)) := ((Keeps.refl _ _).alloc _).alloc _
  have h0 : ((w.alloc (.cells (kvA h vs) 25)).alloc (.cells (opC x).toArray 27)).heap[w.heap.size]? = some (.cells (kvA h vs) 25 (0, 0)) := ((Keeps.refl [] _).alloc _).heap (heap_alloc_new w _) (by simp)
  have h1 := heap_alloc_new (w.alloc (.cells (kvA h vs) 25)) (.cells (opC x).toArray 27)
  have hz : ((w.alloc (.cells (kvA h vs) 25)).alloc (.cells (opC x).toArray 27)).heap.size = (w.alloc (.cells (kvA h vs) 25)).heap.size + 1 := Array.size_push _
  have hz1 : (w.alloc (.cells (kvA h vs) 25)).heap.size = w.heap.size + 1 := Array.size_push _
  rw [hz1] at h1 hz
  obtain ⟨C, hC⟩ : ∃ C, C = w.heap.size := ⟨_, rfl⟩
  rw [← hC] at h0 h1 hz
  have HR := Lib.hid R; have HRI := Lib.hid hr; have HX := Lib.hid hx; have HG := Lib.hid hG
  have HK0 := Lib.hid hk0; have H0 := Lib.hid h0; have H1 := Lib.hid h1; have HZ := Lib.hid hz; have HCE := Lib.hid hC
  have HG0 := Lib.hid (R.keep hG hk0)
  obtain ⟨m, hm⟩ : ∃ m, m = kvOf h vs := ⟨_, rfl⟩
  have HM := Lib.hid hm
  have HMI := Lib.hid (show KvIn m from by rw [hm]; exact kvOf_in hr)
  obtain ⟨b, hb⟩ : ∃ b, b = decide (kvV m = vs) := ⟨_, rfl⟩
  have HEQ := Lib.hid (show kvEq (h : Int) (kvH m) vs (kvV m) = b from by rw [hb, hm]; exact raw_eq hr)
  obtain ⟨E, hE⟩ : ∃ E : Int, E = if kvV m = vs then 0 else 4 := ⟨_, rfl⟩
  have hEb : (E == 0) = b := by
    rw [hE, hb]
    by_cases hh : kvV m = vs <;> simp [hh]
  have HCH := Lib.hid (fun w hg => show Calls Try.prog 10 #[.agg (kvA h vs)] w (fun e w' => e = .returned (.int .i64 E) ∧ Keeps [] w w') from by rw [hE, hm]; exact R.check w h vs hg hr)
  have HWH := Lib.hid (fun w => show Calls Try.prog 11 #[.agg (kvA h vs)] w (fun e w' => e = .returned (kvVal m) ∧ Keeps [] w w') from by rw [hm]; exact whole11_any w hr)
  have HCW := Lib.hid (fun (w : World) (hg : G w) => show Calls Try.prog 10 #[kvVal m] w (fun e w' => e = .returned (.int .i64 0) ∧ Keeps [] w w') from by
    have h2 := R.check w (kvH m) (kvV m) hg (raw_of HMI.out)
    rw [kvOf_self rfl, if_pos rfl] at h2
    exact h2)
  have hbb := bool_ne b
  clear R hG hr hx hk0 h0 h1 hz hz1 hC hm hb hE
  unfold Opn.val
  simp only [opC] at HK0 H0 H1 HZ HG0
  go_enter Try.func3, Try.ntmps3
  go_wp2_with fail
  rw [← HCE.out]
  generalize (w.alloc (.cells (kvA h vs) 25)).alloc (.cells [Value.int .u8 x.f, .int .u8 x.o, .int .u8 x.k, .int .u16 x.a, .int .u16 x.b].toArray 27) = W at *
  obtain ⟨S, hS⟩ : ∃ S : World → Prop, S = fun y => Keeps [] W y := ⟨_, rfl⟩
  have HSE := Lib.hid hS
  have hSD : S W.drew := by rw [hS]; exact (Keeps.refl _ _).drew
  have HSK := Lib.hid (fun (w' : World) (hh : S w') => show ∃ t, w'.heap[C]? = some (.cells (kvA h vs) t (0, 0)) from by rw [hS] at hh; exact ⟨_, hh.heap H0.out (by simp)⟩)
  have HS0 := Lib.hid (show Keeps [] W W.drew from (Keeps.refl _ _).drew)
  clear hS
  refine wp_region_noPanic ?_
  refine wp_region_held_drew (S := S) (by kernel_rfl) hSD (fun hHeld => ?_)
  apply wpAnyH_take (i := 0)
  · simp only [List.getElem?_toArray]; rfl
  · kernel_rfl
  · kernel_rfl
  · kernel_rfl
  · exact fun _ _ _ h => h
  · exact yields_loadK (by rfl) (.tmp 2) rfl C rfl h vs HSK.out
  · assumption
  try simp only [Act.put, List.setIfInBounds_toArray, List.set_cons_zero, List.set_cons_succ]
  apply wpAnyH_take (i := 3)
  · simp only [List.getElem?_toArray]; rfl
  · kernel_rfl
  · kernel_rfl
  · kernel_rfl
  · exact fun _ _ _ h => h
  · exact yields_loadK (by rfl) (.tmp 2) rfl C rfl h vs HSK.out
  · assumption
  try simp only [Act.put, List.setIfInBounds_toArray, List.set_cons_zero, List.set_cons_succ]
  apply wpAnyH_take (i := 4)
  · simp only [List.getElem?_toArray]; rfl
  · kernel_rfl
  · kernel_rfl
  · kernel_rfl
  · exact fun _ _ _ h => h
  · exact yields_loadK (by rfl) (.tmp 2) rfl C rfl h vs HSK.out
  · assumption
  try simp only [Act.put, List.setIfInBounds_toArray, List.set_cons_zero, List.set_cons_succ]
  apply wpAnyH_ready (rs := [1])
  · kernel_rfl
  · simp
  apply AllReadyH.cons (hs := AllReadyH.nil)
  · simp only [List.getElem?_toArray]; rfl
  intro K hK
  rw [if_pos (by rfl)]
  refine wp_call9 10 _ _ rfl [.agg (kvA h vs)] rfl Try.func10 (by kernel_rfl) (by kernel_rfl) ((HCH.out _ (HR.out.keep HG0.out HS0.out)).mono ?_)
  rintro e X0 ⟨rfl, hk⟩
  refine ⟨_, rfl, ?_⟩
  have HS1 := Lib.hid (HS0.out.trans hk (FSub.refl _ _))
  clear hk HS0
  refine hK.out _ _ ?_ (fun hHeld => ?_)
  · exact (by rw [HSE.out]; exact HS1.out)
  clear hK K
  try simp only [Act.put, List.setIfInBounds_toArray, List.set_cons_zero, List.set_cons_succ]
  apply wpAnyH_take (i := 2)
  · simp only [List.getElem?_toArray]; rfl
  · kernel_rfl
  · kernel_rfl
  · kernel_rfl
  · exact fun _ _ _ h => h
  · exact Or.inl ⟨by rfl, by intro w hSw; go_simp; try with_reducible rfl⟩
  · assumption
  try simp only [Act.put, List.setIfInBounds_toArray, List.set_cons_zero, List.set_cons_succ]
  apply wpAnyH_ready (rs := [5])
  · kernel_rfl
  · simp
  apply AllReadyH.cons (hs := AllReadyH.nil)
  · simp only [List.getElem?_toArray]; rfl
  intro K hK
  rw [if_pos (by rfl)]
  refine wp_call9 11 _ _ rfl [.agg (kvA h vs)] rfl Try.func11 (by kernel_rfl) (by kernel_rfl) ((HWH.out _).mono ?_)
  rintro e X1 ⟨rfl, hk⟩
  refine ⟨_, rfl, ?_⟩
  have HS2 := Lib.hid (HS1.out.trans hk (FSub.refl _ _))
  clear hk HS1
  refine hK.out _ _ ?_ (fun hHeld => ?_)
  · exact (by rw [HSE.out]; exact HS2.out)
  clear hK K
  try simp only [Act.put, List.setIfInBounds_toArray, List.set_cons_zero, List.set_cons_succ]
  apply wpAnyH_take (i := 6)
  · simp only [List.getElem?_toArray]; rfl
  · kernel_rfl
  · kernel_rfl
  · kernel_rfl
  · exact fun _ _ _ h => h
  · exact yields_eqK (by rfl) (.tmp 14) (.tmp 16) _ rfl (h := (h : Int)) (h2 := (kvH m : Int)) (vs := vs) (us := kvV m) rfl rfl
  · assumption
  try simp only [Act.put, List.setIfInBounds_toArray, List.set_cons_zero, List.set_cons_succ]
  rw [HEQ.out]
  apply wpAnyH_take (i := 7)
  · simp only [List.getElem?_toArray]; rfl
  · kernel_rfl
  · kernel_rfl
  · kernel_rfl
  · exact fun _ _ _ h => h
  · exact Or.inl ⟨by rfl, by intro w hSw; go_simp; try with_reducible rfl⟩
  · assumption
  try simp only [Act.put, List.setIfInBounds_toArray, List.set_cons_zero, List.set_cons_succ]
  apply wpAnyH_take (i := 8)
  · simp only [List.getElem?_toArray]; rfl
  · kernel_rfl
  · kernel_rfl
  · kernel_rfl
  · exact fun _ _ _ h => h
  · exact Or.inl ⟨by rfl, by intro w hSw; go_simp; try with_reducible rfl⟩
  · assumption
  try simp only [Act.put, List.setIfInBounds_toArray, List.set_cons_zero, List.set_cons_succ]
  apply wpAnyH_take (i := 9)
  · simp only [List.getElem?_toArray]; rfl
  · kernel_rfl
  · kernel_rfl
  · kernel_rfl
  · exact fun _ _ _ h => h
  · exact yields_loadK (by rfl) (.tmp 2) rfl C rfl h vs HSK.out
  · assumption
  try simp only [Act.put, List.setIfInBounds_toArray, List.set_cons_zero, List.set_cons_succ]
  apply wpAnyH_ready (rs := [10])
  · kernel_rfl
  · simp
  apply AllReadyH.cons (hs := AllReadyH.nil)
  · simp only [List.getElem?_toArray]; rfl
  intro K hK
  rw [if_pos (by rfl)]
  refine wp_call9 11 _ _ rfl [.agg (kvA h vs)] rfl Try.func11 (by kernel_rfl) (by kernel_rfl) ((HWH.out _).mono ?_)
  rintro e X2 ⟨rfl, hk⟩
  refine ⟨_, rfl, ?_⟩
  have HS3 := Lib.hid (HS2.out.trans hk (FSub.refl _ _))
  clear hk HS2
  refine hK.out _ _ ?_ (fun hHeld => ?_)
  · exact (by rw [HSE.out]; exact HS3.out)
  clear hK K
  try simp only [Act.put, List.setIfInBounds_toArray, List.set_cons_zero, List.set_cons_succ]
  apply wpAnyH_ready (rs := [11])
  · kernel_rfl
  · simp
  apply AllReadyH.cons (hs := AllReadyH.nil)
  · simp only [List.getElem?_toArray]; rfl
  intro K hK
  rw [if_pos (by rfl)]
  refine wp_call9 10 _ _ rfl [kvVal m] rfl Try.func10 (by kernel_rfl) (by kernel_rfl) ((HCW.out _ (HR.out.keep HG0.out HS3.out)).mono ?_)
  rintro e X3 ⟨rfl, hk⟩
  refine ⟨_, rfl, ?_⟩
  have HS4 := Lib.hid (HS3.out.trans hk (FSub.refl _ _))
  clear hk HS3
  refine hK.out _ _ ?_ (fun hHeld => ?_)
  · exact (by rw [HSE.out]; exact HS4.out)
  clear hK K
  try simp only [Act.put, List.setIfInBounds_toArray, List.set_cons_zero, List.set_cons_succ]
  apply wpAnyH_take (i := 12)
  · simp only [List.getElem?_toArray]; rfl
  · kernel_rfl
  · kernel_rfl
  · kernel_rfl
  · exact fun _ _ _ h => h
  · exact Or.inl ⟨by rfl, by intro w hSw; go_simp; try with_reducible rfl⟩
  · assumption
  try simp only [Act.put, List.setIfInBounds_toArray, List.set_cons_zero, List.set_cons_succ]
  apply wpAnyH_take (i := 13)
  · simp only [List.getElem?_toArray]; rfl
  · kernel_rfl
  · kernel_rfl
  · kernel_rfl
  · exact fun _ _ _ h => h
  · exact Or.inl ⟨by rfl, by intro w hSw; go_simp; try with_reducible rfl⟩
  · assumption
  try simp only [Act.put, List.setIfInBounds_toArray, List.set_cons_zero, List.set_cons_succ]
  refine wpAnyH_done (by kernel_rfl) ?_ _
  refine NoPanic.normal ?_
  have HB0 := Lib.hid (HS4.out.heap H0.out (by simp)); have HB1 := Lib.hid (HS4.out.heap H1.out (by simp))
  have HKW := Lib.hid (HK0.out.trans HS4.out (FSub.refl _ _))
  have HZW := Lib.hid (show C + 2 ≤ X3.heap.size from by have := HZ.out; have := HS4.out.size; omega)
  have HGW := Lib.hid (HR.out.keep HG0.out HS4.out)
  clear HSE HSK hSD HK0 H0 H1 HZ HG0 hEb hbb HEQ HCH HS4
  go_wp2_with ((with_reducible refine wpList_loadK (g := C) (h := (h : Int)) (vs := vs) rfl ?_ HB0.out ?_); exact rfl)
  refine (HWH.out _).mono ?_; rintro e X4 ⟨rfl, hk4⟩
  have HB04 := Lib.hid (hk4.heap HB0.out (by simp)); have HB14 := Lib.hid (hk4.heap HB1.out (by simp))
  have HK4 := Lib.hid (HKW.out.trans hk4 (FSub.refl _ _))
  have HZ4 := Lib.hid (Nat.le_trans HZW.out hk4.size)
  have HG4 := Lib.hid (HR.out.keep HGW.out hk4)
  clear hk4 HB0 HB1 HKW HZW HGW
  unfold kvVal
  go_wp2_with ((with_reducible refine wpList_putK (g := C) (h := (kvH m : Int)) (vs := kvV m) ?_ ?_ HB04.out ?_); exact rfl; exact rfl)
  intro W5 hW5 hk5
  have HB05 := Lib.hid hW5
  have HB15 := Lib.hid (show W5.heap[C + 1]? = some (.cells (opC x).toArray 27 (0, 0)) from hk5.heap HB14.out (by simp))
  have HK5 := Lib.hid (HK4.out.trans hk5 (fun q hq => .inr (by simp at hq; have := HCE.out; omega)))
  have HZ5 := Lib.hid (Nat.le_trans HZ4.out hk5.size)
  have HG5 := Lib.hid (HR.out.keep HG.out HK5.out)
  clear hW5 hk5 HB04 HB14 HK4 HZ4 HG4
  rcases hXE : ksX m x with ⟨m2, ⟨yk, yv⟩, er⟩
  have hrel := (rel_items HMI.out).step HX.out
  rw [hXE] at hrel
  have hm2 : KvIn m2 := by have := ksX_in HMI.out HX.out; rw [hXE] at this; exact this
  have HM2 := Lib.hid hm2
  have hst := HR.out.step W5 m x HG5.out HMI.out HX.out
  rw [hXE] at hst
  have HST := Lib.hid hst; have HREL := Lib.hid hrel
  clear hst hrel hm2 hXE
  go_wp2_with (first
    | ((with_reducible refine wpList_loadK (g := C) (h := (kvH m : Int)) (vs := kvV m) rfl ?_ HB05.out ?_); exact rfl)
    | ((with_reducible refine wpList_loadX11 (g := C + 1) x rfl ?_ HB15.out ?_); exact rfl))
  refine (show Calls Try.prog 12 #[kvVal m, x.val] W5 _ from HST.out).mono ?_
  rintro e w6 ⟨rfl, hk6⟩
  have HK6 := Lib.hid (HK5.out.trans hk6 (FSub.refl _ _))
  have HB06 := Lib.hid (hk6.heap HB05.out (by simp)); have HB16 := Lib.hid (hk6.heap HB15.out (by simp))
  have HZ6 := Lib.hid (Nat.le_trans HZ5.out hk6.size)
  clear hk6 HK5 HB05 HB15 HZ5 HG5 HST
  have hka : Keeps [] w6 ((w6.alloc (.cells #[.int .u8 0, .int .u16 0, .int .u16 0, .int .u16 0, .int .u16 0, .int .u16 0, .int .u16 0, .int .u16 0, .int .u16 0] 25)).alloc (.cells #[.int .u8 0, .int .u16 0] 32)) := ((Keeps.refl _ _).alloc _).alloc _
  have hz7 : (w6.alloc (.cells #[.int .u8 0, .int .u16 0, .int .u16 0, .int .u16 0, .int .u16 0, .int .u16 0, .int .u16 0, .int .u16 0, .int .u16 0] 25)).heap.size = w6.heap.size + 1 := Array.size_push _
  have HB7 := Lib.hid (show ((w6.alloc (.cells #[.int .u8 0, .int .u16 0, .int .u16 0, .int .u16 0, .int .u16 0, .int .u16 0, .int .u16 0, .int .u16 0, .int .u16 0] 25)).alloc (.cells #[.int .u8 0, .int .u16 0] 32)).heap[w6.heap.size]? = some (.cells (kvA 0 []) 25 (0, 0)) from ((Keeps.refl [] _).alloc _).heap (heap_alloc_new w6 _) (by simp))
  have hb8 := heap_alloc_new (w6.alloc (.cells #[.int .u8 0, .int .u16 0, .int .u16 0, .int .u16 0, .int .u16 0, .int .u16 0, .int .u16 0, .int .u16 0, .int .u16 0] 25)) (.cells #[.int .u8 0, .int .u16 0] 32)
  rw [hz7] at hb8
  have HB8 := Lib.hid (show ((w6.alloc (.cells #[.int .u8 0, .int .u16 0, .int .u16 0, .int .u16 0, .int .u16 0, .int .u16 0, .int .u16 0, .int .u16 0, .int .u16 0] 25)).alloc (.cells #[.int .u8 0, .int .u16 0] 32)).heap[w6.heap.size + 1]? = some (.cells (ansC ⟨0, 0⟩).toArray 32 (0, 0)) from hb8)
  have HKA := Lib.hid hka
  clear hka hz7 hb8
  unfold kvVal
  simp only [ansC]
  go_wp2_with ((with_reducible refine wpList_putK (g := w6.heap.size) (h := (kvH m2 : Int)) (vs := kvV m2) ?_ ?_ HB7.out ?_); exact rfl; exact rfl)
  intro W7 hW7 hk7
  have HW7 := Lib.hid hW7
  have HB87 := Lib.hid (hk7.heap HB8.out (by simp))
  have HK7 := Lib.hid (show Keeps [] w6 W7 from HKA.out.trans hk7 (fun q hq => .inr (by simp at hq; omega)))
  clear hW7 hk7 HB7 HB8 HKA
  go_wp2_with ((with_reducible refine wpList_putN (g := w6.heap.size + 1) (old := ⟨0, 0⟩) ⟨yk, yv⟩ ?_ ?_ HB87.out ?_); exact rfl; exact rfl)
  intro W8 hW8 hk8
  have HW8 := Lib.hid hW8
  have HW78 := Lib.hid (hk8.heap HW7.out (by simp))
  have HK8 := Lib.hid (show Keeps [] w6 W8 from HK7.out.trans hk8 (fun q hq => .inr (by simp at hq; omega)))
  have HB08 := Lib.hid (HK8.out.heap HB06.out (by simp)); have HB18 := Lib.hid (HK8.out.heap HB16.out (by simp))
  have HKW := Lib.hid (HK6.out.trans HK8.out (FSub.refl _ _))
  obtain ⟨D, hD⟩ : ∃ D, D = w6.heap.size := ⟨_, rfl⟩
  have HDL := Lib.hid (show C + 2 ≤ D ∧ D + 2 ≤ W8.heap.size from ⟨by have := HZ6.out; omega, by have := lt_of_block hW8; omega⟩)
  rw [← hD] at HW8 HW78 ⊢
  clear hW8 hk8 HK8 HW7 HB87 HK7 HB06 HB16 HZ6 HK6 hD
  go_wp2_with fail
  obtain ⟨S, hS⟩ : ∃ S : World → Prop, S = fun y => Keeps [] W8 y := ⟨_, rfl⟩
  have HSE := Lib.hid hS
  have hSD : S W8.drew := by rw [hS]; exact (Keeps.refl _ _).drew
  have HSK := Lib.hid (fun (w' : World) (hh : S w') => show ∃ t, w'.heap[C]? = some (.cells (kvA (kvH m) (kvV m)) t (0, 0)) from by rw [hS] at hh; exact ⟨_, hh.heap HB08.out (by simp)⟩)
  have HSO := Lib.hid (fun (w' : World) (hh : S w') => show w'.rangeAt (C + 1) 0 (opC x) from by
    rw [hS] at hh
    intro j v hv
    rw [Nat.zero_add]
    exact hh.cell (cell_lit HB18.out j (by simpa using hv)) (by simp))
  have hd0 : Keeps [] W8 W8.drew := (Keeps.refl _ _).drew
  have HE1 := Lib.hid (show (kvX (itOf 0 m) x).2.1 = ⟨yk, yv⟩ from by rw [← HREL.out.2])
  have HE2 := Lib.hid (show (kvX (itOf 0 m) x).2.2 = er from by rw [← HREL.out.2])
  have HTL := Lib.hid (show (itOf 0 m).length ≤ 1000000 from by have := itOf_len 0 m; have := HMI.out.len; omega)
  have HTN2 := Lib.hid (show (kvX (itOf 0 m) x).1.length ≤ 1000 from by have := kvX_len (itOf 0 m) x; have := itOf_len 0 m; have := HMI.out.len; omega)
  have HCM2 := Lib.hid (fun (w : World) (hg : G w) => show Calls Try.prog 10 #[kvVal m2] w (fun e w' => e = .returned (.int .i64 0) ∧ Keeps [] w w') from by
    have h2 := HR.out.check w (kvH m2) (kvV m2) hg (raw_of HM2.out)
    rw [kvOf_self rfl, if_pos rfl] at h2
    exact h2)
  clear hS
  refine wp_region_noPanic ?_
  refine wp_region_held_drew (S := S) (by kernel_rfl) hSD (fun hHeld => ?_)
  generalize W8.drew = Y0 at *
  have HS0 := Lib.hid hd0
  clear hd0
  apply wpAnyH_take (i := 0)
  · simp only [List.getElem?_toArray]; rfl
  · kernel_rfl
  · kernel_rfl
  · kernel_rfl
  · exact fun _ _ _ h => h
  · exact yields_loadK (by rfl) (.tmp 2) rfl C rfl (kvH m) (kvV m) HSK.out
  · assumption
  try simp only [Act.put, List.setIfInBounds_toArray, List.set_cons_zero, List.set_cons_succ]
  apply wpAnyH_take (i := 2)
  · simp only [List.getElem?_toArray]; rfl
  · kernel_rfl
  · kernel_rfl
  · kernel_rfl
  · exact fun _ _ _ h => h
  · exact rkO.yields Try.underlying27 rfl (by rfl) _ rfl (C + 1) 0 rfl x HSO.out
  · assumption
  try simp only [Act.put, List.setIfInBounds_toArray, List.set_cons_zero, List.set_cons_succ]
  apply wpAnyH_ready (rs := [1, 8])
  · kernel_rfl
  · simp
  apply AllReadyH.cons
  · simp only [List.getElem?_toArray]; rfl
  · intro K hK
    rw [if_pos (by rfl)]
    refine wp_call9 14 _ _ rfl [kvVal m] rfl Try.func14 (by kernel_rfl) (by kernel_rfl) ((items11_any Y0 HMI.out).mono ?_)
    rintro e Y1 ⟨vi, rfl, ho, hk⟩
    refine ⟨_, rfl, ?_⟩
    have HS1 := Lib.hid (HS0.out.trans hk (FSub.refl _ _))
    have HT1 := Lib.hid ho.in_
    have HVI1 := Lib.hid (fun q hq => (row_base ho q hq).2)
    clear hk ho
    refine hK.out _ _ ?_ (fun hHeld => ?_)
    · exact (by rw [HSE.out]; exact HS1.out)
    clear hK K
    try simp only [Act.put, List.setIfInBounds_toArray, List.set_cons_zero, List.set_cons_succ]
    apply wpAnyH_ready (rs := [3, 8])
    · kernel_rfl
    · simp
    apply AllReadyH.cons
    · simp only [List.getElem?_toArray]; rfl
    · intro K hK
      rw [if_pos (by rfl)]
      refine wp_call9 13 _ _ rfl [vi, x.val] rfl Try.func13 (by kernel_rfl) (by kernel_rfl) ((show Calls Try.prog 13 _ Y1 (Post11 Y1 vi (itOf 0 m) x) from r11Step_any Y1 HT1.out HTL.out x).mono ?_)
      rintro e Y2 ⟨vt, rfl, hin, hk, hf⟩
      refine ⟨_, rfl, ?_⟩
      rw [HE1.out, HE2.out]
      have HS2 := Lib.hid (HS1.out.trans hk (FSub.refl _ _))
      have HT2 := Lib.hid hin
      clear hk hin hf
      refine hK.out _ _ ?_ (fun hHeld => ?_)
      · exact (by rw [HSE.out]; exact HS2.out)
      clear hK K
      try simp only [Act.put, List.setIfInBounds_toArray, List.set_cons_zero, List.set_cons_succ]
      apply wpAnyH_take (i := 4)
      · simp only [List.getElem?_toArray]; rfl
      · kernel_rfl
      · kernel_rfl
      · kernel_rfl
      · exact fun _ _ _ h => h
      · exact Or.inl ⟨by rfl, by intro w hSw; go_simp; try with_reducible rfl⟩
      · assumption
      try simp only [Act.put, List.setIfInBounds_toArray, List.set_cons_zero, List.set_cons_succ]
      apply wpAnyH_take (i := 5)
      · simp only [List.getElem?_toArray]; rfl
      · kernel_rfl
      · kernel_rfl
      · kernel_rfl
      · exact fun _ _ _ h => h
      · exact Or.inl ⟨by rfl, by intro w hSw; go_simp; try with_reducible rfl⟩
      · assumption
      try simp only [Act.put, List.setIfInBounds_toArray, List.set_cons_zero, List.set_cons_succ]
      apply wpAnyH_take (i := 6)
      · simp only [List.getElem?_toArray]; rfl
      · kernel_rfl
      · kernel_rfl
      · kernel_rfl
      · exact fun _ _ _ h => h
      · exact Or.inl ⟨by rfl, by intro w hSw; go_simp; try with_reducible rfl⟩
      · assumption
      try simp only [Act.put, List.setIfInBounds_toArray, List.set_cons_zero, List.set_cons_succ]
      apply wpAnyH_take (i := 7)
      · simp only [List.getElem?_toArray]; rfl
      · kernel_rfl
      · kernel_rfl
      · kernel_rfl
      · exact fun _ _ _ h => h
      · exact Or.inl ⟨by rfl, by intro w hSw; go_simp; try with_reducible rfl⟩
      · assumption
      try simp only [Act.put, List.setIfInBounds_toArray, List.set_cons_zero, List.set_cons_succ]
      apply wpAnyH_ready (rs := [8])
      · kernel_rfl
      · simp
      apply AllReadyH.cons (hs := AllReadyH.nil)
      · simp only [List.getElem?_toArray]; rfl
      intro K hK
      rw [if_pos (by rfl)]
      refine wp_alloc11 _ _ _ _ rfl ?_
      have hk : Keeps [] Y2 (Y2.alloc (.cells (ansC ⟨0, 0⟩).toArray 32)) := (Keeps.refl _ _).alloc _
      have hb := heap_alloc_new Y2 (.cells (ansC ⟨0, 0⟩).toArray 32)
      obtain ⟨q9, hq9⟩ : ∃ q, q = Y2.heap.size := ⟨_, rfl⟩
      rw [← hq9] at hb ⊢
      generalize Y2.alloc (.cells (ansC ⟨0, 0⟩).toArray 32) = Y3 at *
      have HS3 := Lib.hid (HS2.out.trans hk (FSub.refl _ _))
      have HT3 := Lib.hid ((HT2.out.new hk (Nat.le_refl _)).more hk.size)
      have HTN := Lib.hid (show (kvX (itOf 0 m) x).1 ≠ [] → ∀ q ∈ own vt, q ≠ q9 from fun hn q hq => by have := HT2.out.old hn q hq; omega)
      have HQL3 := Lib.hid (show q9 < Y3.heap.size from lt_of_block hb)
      have HB3 := Lib.hid hb
      have HQ9 := Lib.hid (show W8.heap.size ≤ q9 from by have := HS2.out.size; omega)
      clear hk hb hq9
      refine hK.out _ _ ?_ (fun hHeld => ?_)
      · exact (by rw [HSE.out]; exact HS3.out)
      clear hK K
      try simp only [Act.put, List.setIfInBounds_toArray, List.set_cons_zero, List.set_cons_succ]
      apply wpAnyH_take (i := 9)
      · simp only [List.getElem?_toArray]; rfl
      · kernel_rfl
      · kernel_rfl
      · kernel_rfl
      · exact fun _ _ _ h => h
      · exact Or.inl ⟨by rfl, by intro w hSw; go_simp; try with_reducible rfl⟩
      · assumption
      try simp only [Act.put, List.setIfInBounds_toArray, List.set_cons_zero, List.set_cons_succ]
      apply wpAnyH_ready (rs := [10])
      · kernel_rfl
      · simp
      apply AllReadyH.cons (hs := AllReadyH.nil)
      · simp only [List.getElem?_toArray]; rfl
      intro K hK
      rw [if_pos (by rfl)]
      refine wp_put11 rfl (g := q9) (old := ⟨0, 0⟩) ⟨yk, yv⟩ rfl rfl HB3.out (fun W9 hW9 hk9 => ?_)
      have HW9 := Lib.hid hW9
      have HS9 := Lib.hid (HS3.out.trans hk9 (fun q hq => .inr (by have := HQ9.out; simp at hq; omega)))
      obtain ⟨at_, ct, rfl, hct, hmt, -⟩ := id HT3.out
      have HT9 := Lib.hid (show rkI.In W9.heap.size W9 _ _ from (HT3.out.keeps hk9 (fun hn q hq e => HTN.out hn q hq (by simpa using e))).more hk9.size)
      clear hW9 hk9
      refine hK.out _ _ ?_ (fun hHeld => ?_)
      · exact (by rw [HSE.out]; exact HS9.out)
      clear hK K
      try simp only [Act.put, List.setIfInBounds_toArray, List.set_cons_zero, List.set_cons_succ]
      apply wpAnyH_take (i := 11)
      · simp only [List.getElem?_toArray]; rfl
      · kernel_rfl
      · kernel_rfl
      · kernel_rfl
      · exact fun _ _ _ h => h
      · exact Or.inl ⟨by rfl, by intro w hSw; go_simp; try with_reducible rfl⟩
      · assumption
      try simp only [Act.put, List.setIfInBounds_toArray, List.set_cons_zero, List.set_cons_succ]
      refine wpAnyH_done (by kernel_rfl) ?_ _
      refine NoPanic.normal ?_
      have HWD := Lib.hid (HS9.out.heap HW78.out (by simp)); have HWR := Lib.hid (HS9.out.heap HW8.out (by simp))
      have HKE := Lib.hid (HKW.out.trans HS9.out (FSub.refl _ _))
      have hrel := HREL.out.1
      go_wp2_with ((with_reducible refine wpList_loadK (g := D) (h := (kvH m2 : Int)) (vs := kvV m2) rfl ?_ HWD.out ?_); exact rfl)
      refine (show Calls Try.prog 15 #[kvVal m2, _] W9 _ from alike11_any W9 hrel HT9.out HTN2.out).mono ?_
      rintro e W10 ⟨rfl, hk10⟩
      have HWD2 := Lib.hid (hk10.heap HWD.out (by simp)); have HWR2 := Lib.hid (hk10.heap HWR.out (by simp)); have HW92 := Lib.hid (hk10.heap HW9.out (by simp))
      have HK10 := Lib.hid (HKE.out.trans hk10 (FSub.refl _ _))
      clear hk10 HWD HWR HKE hrel
      go_wp2_with (first
        | ((with_reducible refine wpList_loadR (g := D + 1) rfl ?_ HWR2.out ?_); exact rfl)
        | ((with_reducible refine wpList_loadR (g := q9) rfl ?_ HW92.out ?_); exact rfl)
        | ((with_reducible refine wpList_loadK (g := D) (h := (kvH m2 : Int)) (vs := kvV m2) rfl ?_ HWD2.out ?_); exact rfl))
      refine (show Calls Try.prog 10 #[kvVal m2] W10 _ from HCM2.out W10 (HR.out.keep HG.out HK10.out)).mono ?_
      rintro e W11 ⟨rfl, hk11⟩
      have HK11 := Lib.hid (HK10.out.trans hk11 (FSub.refl _ _))
      clear hk11
      go_wp2_with fail
      refine (awake11_any HR.out W11 (HR.out.keep HG.out HK11.out)).mono ?_
      rintro e W12 ⟨rfl, hk12⟩
      have HK12 := Lib.hid (HK11.out.trans hk12 (FSub.refl _ _))
      clear hk12
      go_wp2_with fail
      go_ret
      exact ⟨rfl, HK12.out⟩
    apply AllReadyH.cons (hs := AllReadyH.nil)
    · simp only [List.getElem?_toArray]; rfl
    intro K hK
    rw [if_pos (by rfl)]
    refine wp_alloc11 _ _ _ _ rfl ?_
    have hk : Keeps [] Y1 (Y1.alloc (.cells (ansC ⟨0, 0⟩).toArray 32)) := (Keeps.refl _ _).alloc _
    have hb := heap_alloc_new Y1 (.cells (ansC ⟨0, 0⟩).toArray 32)
    obtain ⟨q9, hq9⟩ : ∃ q, q = Y1.heap.size := ⟨_, rfl⟩
    rw [← hq9] at hb ⊢
    generalize Y1.alloc (.cells (ansC ⟨0, 0⟩).toArray 32) = Y2 at *
    have HS2 := Lib.hid (HS1.out.trans hk (FSub.refl _ _))
    have HT2 := Lib.hid ((HT1.out.new hk (Nat.le_refl _)).more hk.size)
    have HVI2 := Lib.hid (fun q hq => Nat.lt_of_lt_of_le (HVI1.out q hq) hk.size)
    have HVN := Lib.hid (show ∀ q ∈ own vi, q ≠ q9 from fun q hq => by have := HVI1.out q hq; omega)
    have HQL2 := Lib.hid (show q9 < Y2.heap.size from lt_of_block hb)
    have HB2 := Lib.hid hb
    have HQ9 := Lib.hid (show W8.heap.size ≤ q9 from by have := HS1.out.size; omega)
    clear hk hb hq9
    refine hK.out _ _ ?_ (fun hHeld => ?_)
    · exact (by rw [HSE.out]; exact HS2.out)
    clear hK K
    try simp only [Act.put, List.setIfInBounds_toArray, List.set_cons_zero, List.set_cons_succ]
    apply wpAnyH_ready (rs := [3])
    · kernel_rfl
    · simp
    apply AllReadyH.cons (hs := AllReadyH.nil)
    · simp only [List.getElem?_toArray]; rfl
    intro K hK
    rw [if_pos (by rfl)]
    refine wp_call9 13 _ _ rfl [vi, x.val] rfl Try.func13 (by kernel_rfl) (by kernel_rfl) ((show Calls Try.prog 13 _ Y2 (Post11 Y2 vi (itOf 0 m) x) from r11Step_any Y2 HT2.out HTL.out x).mono ?_)
    rintro e Y3 ⟨vt, rfl, hin, hk, hf⟩
    refine ⟨_, rfl, ?_⟩
    rw [HE1.out, HE2.out]
    have HS3 := Lib.hid (HS2.out.trans hk (FSub.refl _ _))
    have HB3 := Lib.hid (hk.heap HB2.out (by simp))
    have HQL3 := Lib.hid (Nat.lt_of_lt_of_le HQL2.out hk.size)
    have HT3 := Lib.hid hin
    have HTN := Lib.hid (show (kvX (itOf 0 m) x).1 ≠ [] → ∀ q ∈ own vt, q ≠ q9 from fun hn q hq => by
      rcases hf hn q hq with ⟨-, h1⟩ | h1
      · exact HVN.out q h1
      · have := HQL2.out; omega)
    clear hk hin hf
    refine hK.out _ _ ?_ (fun hHeld => ?_)
    · exact (by rw [HSE.out]; exact HS3.out)
    clear hK K
    try simp only [Act.put, List.setIfInBounds_toArray, List.set_cons_zero, List.set_cons_succ]
    apply wpAnyH_take (i := 4)
    · simp only [List.getElem?_toArray]; rfl
    · kernel_rfl
    · kernel_rfl
    · kernel_rfl
    · exact fun _ _ _ h => h
    · exact Or.inl ⟨by rfl, by intro w hSw; go_simp; try with_reducible rfl⟩
    · assumption
    try simp only [Act.put, List.setIfInBounds_toArray, List.set_cons_zero, List.set_cons_succ]
    apply wpAnyH_take (i := 5)
    · simp only [List.getElem?_toArray]; rfl
    · kernel_rfl
    · kernel_rfl
    · kernel_rfl
    · exact fun _ _ _ h => h
    · exact Or.inl ⟨by rfl, by intro w hSw; go_simp; try with_reducible rfl⟩
    · assumption
    try simp only [Act.put, List.setIfInBounds_toArray, List.set_cons_zero, List.set_cons_succ]
    apply wpAnyH_take (i := 6)
    · simp only [List.getElem?_toArray]; rfl
    · kernel_rfl
    · kernel_rfl
    · kernel_rfl
    · exact fun _ _ _ h => h
    · exact Or.inl ⟨by rfl, by intro w hSw; go_simp; try with_reducible rfl⟩
    · assumption
    try simp only [Act.put, List.setIfInBounds_toArray, List.set_cons_zero, List.set_cons_succ]
    apply wpAnyH_take (i := 7)
    · simp only [List.getElem?_toArray]; rfl
    · kernel_rfl
    · kernel_rfl
    · kernel_rfl
    · exact fun _ _ _ h => h
    · exact Or.inl ⟨by rfl, by intro w hSw; go_simp; try with_reducible rfl⟩
    · assumption
    try simp only [Act.put, List.setIfInBounds_toArray, List.set_cons_zero, List.set_cons_succ]
    apply wpAnyH_take (i := 9)
    · simp only [List.getElem?_toArray]; rfl
    · kernel_rfl
    · kernel_rfl
    · kernel_rfl
    · exact fun _ _ _ h => h
    · exact Or.inl ⟨by rfl, by intro w hSw; go_simp; try with_reducible rfl⟩
    · assumption
    try simp only [Act.put, List.setIfInBounds_toArray, List.set_cons_zero, List.set_cons_succ]
    apply wpAnyH_ready (rs := [10])
    · kernel_rfl
    · simp
    apply AllReadyH.cons (hs := AllReadyH.nil)
    · simp only [List.getElem?_toArray]; rfl
    intro K hK
    rw [if_pos (by rfl)]
    refine wp_put11 rfl (g := q9) (old := ⟨0, 0⟩) ⟨yk, yv⟩ rfl rfl HB3.out (fun W9 hW9 hk9 => ?_)
    have HW9 := Lib.hid hW9
    have HS9 := Lib.hid (HS3.out.trans hk9 (fun q hq => .inr (by have := HQ9.out; simp at hq; omega)))
    obtain ⟨at_, ct, rfl, hct, hmt, -⟩ := id HT3.out
    have HT9 := Lib.hid (show rkI.In W9.heap.size W9 _ _ from (HT3.out.keeps hk9 (fun hn q hq e => HTN.out hn q hq (by simpa using e))).more hk9.size)
    clear hW9 hk9
    refine hK.out _ _ ?_ (fun hHeld => ?_)
    · exact (by rw [HSE.out]; exact HS9.out)
    clear hK K
    try simp only [Act.put, List.setIfInBounds_toArray, List.set_cons_zero, List.set_cons_succ]
    apply wpAnyH_take (i := 11)
    · simp only [List.getElem?_toArray]; rfl
    · kernel_rfl
    · kernel_rfl
    · kernel_rfl
    · exact fun _ _ _ h => h
    · exact Or.inl ⟨by rfl, by intro w hSw; go_simp; try with_reducible rfl⟩
    · assumption
    try simp only [Act.put, List.setIfInBounds_toArray, List.set_cons_zero, List.set_cons_succ]
    refine wpAnyH_done (by kernel_rfl) ?_ _
    refine NoPanic.normal ?_
    have HWD := Lib.hid (HS9.out.heap HW78.out (by simp)); have HWR := Lib.hid (HS9.out.heap HW8.out (by simp))
    have HKE := Lib.hid (HKW.out.trans HS9.out (FSub.refl _ _))
    have hrel := HREL.out.1
    go_wp2_with ((with_reducible refine wpList_loadK (g := D) (h := (kvH m2 : Int)) (vs := kvV m2) rfl ?_ HWD.out ?_); exact rfl)
    refine (show Calls Try.prog 15 #[kvVal m2, _] W9 _ from alike11_any W9 hrel HT9.out HTN2.out).mono ?_
    rintro e W10 ⟨rfl, hk10⟩
    have HWD2 := Lib.hid (hk10.heap HWD.out (by simp)); have HWR2 := Lib.hid (hk10.heap HWR.out (by simp)); have HW92 := Lib.hid (hk10.heap HW9.out (by simp))
    have HK10 := Lib.hid (HKE.out.trans hk10 (FSub.refl _ _))
    clear hk10 HWD HWR HKE hrel
    go_wp2_with (first
      | ((with_reducible refine wpList_loadR (g := D + 1) rfl ?_ HWR2.out ?_); exact rfl)
      | ((with_reducible refine wpList_loadR (g := q9) rfl ?_ HW92.out ?_); exact rfl)
      | ((with_reducible refine wpList_loadK (g := D) (h := (kvH m2 : Int)) (vs := kvV m2) rfl ?_ HWD2.out ?_); exact rfl))
    refine (show Calls Try.prog 10 #[kvVal m2] W10 _ from HCM2.out W10 (HR.out.keep HG.out HK10.out)).mono ?_
    rintro e W11 ⟨rfl, hk11⟩
    have HK11 := Lib.hid (HK10.out.trans hk11 (FSub.refl _ _))
    clear hk11
    go_wp2_with fail
    refine (awake11_any HR.out W11 (HR.out.keep HG.out HK11.out)).mono ?_
    rintro e W12 ⟨rfl, hk12⟩
    have HK12 := Lib.hid (HK11.out.trans hk12 (FSub.refl _ _))
    clear hk12
    go_wp2_with fail
    go_ret
    exact ⟨rfl, HK12.out⟩
  apply AllReadyH.cons (hs := AllReadyH.nil)
  · simp only [List.getElem?_toArray]; rfl
  intro K hK
  rw [if_pos (by rfl)]
  refine wp_alloc11 _ _ _ _ rfl ?_
  have hk : Keeps [] Y0 (Y0.alloc (.cells (ansC ⟨0, 0⟩).toArray 32)) := (Keeps.refl _ _).alloc _
  have hb := heap_alloc_new Y0 (.cells (ansC ⟨0, 0⟩).toArray 32)
  obtain ⟨q9, hq9⟩ : ∃ q, q = Y0.heap.size := ⟨_, rfl⟩
  rw [← hq9] at hb ⊢
  generalize Y0.alloc (.cells (ansC ⟨0, 0⟩).toArray 32) = Y1 at *
  have HS1 := Lib.hid (HS0.out.trans hk (FSub.refl _ _))
  have HQL1 := Lib.hid (show q9 < Y1.heap.size from lt_of_block hb)
  have HB1 := Lib.hid hb
  have HQ9 := Lib.hid (show W8.heap.size ≤ q9 from by have := HS0.out.size; omega)
  clear hk hb hq9
  refine hK.out _ _ ?_ (fun hHeld => ?_)
  · exact (by rw [HSE.out]; exact HS1.out)
  clear hK K
  try simp only [Act.put, List.setIfInBounds_toArray, List.set_cons_zero, List.set_cons_succ]
  apply wpAnyH_ready (rs := [1])
  · kernel_rfl
  · simp
  apply AllReadyH.cons (hs := AllReadyH.nil)
  · simp only [List.getElem?_toArray]; rfl
  intro K hK
  rw [if_pos (by rfl)]
  refine wp_call9 14 _ _ rfl [kvVal m] rfl Try.func14 (by kernel_rfl) (by kernel_rfl) ((items11_any Y1 HMI.out).mono ?_)
  rintro e Y2 ⟨vi, rfl, ho, hk⟩
  refine ⟨_, rfl, ?_⟩
  have HS2 := Lib.hid (HS1.out.trans hk (FSub.refl _ _))
  have HB2 := Lib.hid (hk.heap HB1.out (by simp))
  have HQL2 := Lib.hid (Nat.lt_of_lt_of_le HQL1.out hk.size)
  have HT2 := Lib.hid ho.in_
  have HVI2 := Lib.hid (fun q hq => (row_base ho q hq).2)
  have HVN := Lib.hid (show ∀ q ∈ own vi, q ≠ q9 from fun q hq => by have := (row_base ho q hq).1; have := HQL1.out; omega)
  clear hk ho
  refine hK.out _ _ ?_ (fun hHeld => ?_)
  · exact (by rw [HSE.out]; exact HS2.out)
  clear hK K
  try simp only [Act.put, List.setIfInBounds_toArray, List.set_cons_zero, List.set_cons_succ]
  apply wpAnyH_ready (rs := [3])
  · kernel_rfl
  · simp
  apply AllReadyH.cons (hs := AllReadyH.nil)
  · simp only [List.getElem?_toArray]; rfl
  intro K hK
  rw [if_pos (by rfl)]
  refine wp_call9 13 _ _ rfl [vi, x.val] rfl Try.func13 (by kernel_rfl) (by kernel_rfl) ((show Calls Try.prog 13 _ Y2 (Post11 Y2 vi (itOf 0 m) x) from r11Step_any Y2 HT2.out HTL.out x).mono ?_)
  rintro e Y3 ⟨vt, rfl, hin, hk, hf⟩
  refine ⟨_, rfl, ?_⟩
  rw [HE1.out, HE2.out]
  have HS3 := Lib.hid (HS2.out.trans hk (FSub.refl _ _))
  have HB3 := Lib.hid (hk.heap HB2.out (by simp))
  have HQL3 := Lib.hid (Nat.lt_of_lt_of_le HQL2.out hk.size)
  have HT3 := Lib.hid hin
  have HTN := Lib.hid (show (kvX (itOf 0 m) x).1 ≠ [] → ∀ q ∈ own vt, q ≠ q9 from fun hn q hq => by
    rcases hf hn q hq with ⟨-, h1⟩ | h1
    · exact HVN.out q h1
    · have := HQL2.out; omega)
  clear hk hin hf
  refine hK.out _ _ ?_ (fun hHeld => ?_)
  · exact (by rw [HSE.out]; exact HS3.out)
  clear hK K
  try simp only [Act.put, List.setIfInBounds_toArray, List.set_cons_zero, List.set_cons_succ]
  apply wpAnyH_take (i := 4)
  · simp only [List.getElem?_toArray]; rfl
  · kernel_rfl
  · kernel_rfl
  · kernel_rfl
  · exact fun _ _ _ h => h
  · exact Or.inl ⟨by rfl, by intro w hSw; go_simp; try with_reducible rfl⟩
  · assumption
  try simp only [Act.put, List.setIfInBounds_toArray, List.set_cons_zero, List.set_cons_succ]
  apply wpAnyH_take (i := 5)
  · simp only [List.getElem?_toArray]; rfl
  · kernel_rfl
  · kernel_rfl
  · kernel_rfl
  · exact fun _ _ _ h => h
  · exact Or.inl ⟨by rfl, by intro w hSw; go_simp; try with_reducible rfl⟩
  · assumption
  try simp only [Act.put, List.setIfInBounds_toArray, List.set_cons_zero, List.set_cons_succ]
  apply wpAnyH_take (i := 6)
  · simp only [List.getElem?_toArray]; rfl
  · kernel_rfl
  · kernel_rfl
  · kernel_rfl
  · exact fun _ _ _ h => h
  · exact Or.inl ⟨by rfl, by intro w hSw; go_simp; try with_reducible rfl⟩
  · assumption
  try simp only [Act.put, List.setIfInBounds_toArray, List.set_cons_zero, List.set_cons_succ]
  apply wpAnyH_take (i := 7)
  · simp only [List.getElem?_toArray]; rfl
  · kernel_rfl
  · kernel_rfl
  · kernel_rfl
  · exact fun _ _ _ h => h
  · exact Or.inl ⟨by rfl, by intro w hSw; go_simp; try with_reducible rfl⟩
  · assumption
  try simp only [Act.put, List.setIfInBounds_toArray, List.set_cons_zero, List.set_cons_succ]
  apply wpAnyH_take (i := 9)
  · simp only [List.getElem?_toArray]; rfl
  · kernel_rfl
  · kernel_rfl
  · kernel_rfl
  · exact fun _ _ _ h => h
  · exact Or.inl ⟨by rfl, by intro w hSw; go_simp; try with_reducible rfl⟩
  · assumption
  try simp only [Act.put, List.setIfInBounds_toArray, List.set_cons_zero, List.set_cons_succ]
  apply wpAnyH_ready (rs := [10])
  · kernel_rfl
  · simp
  apply AllReadyH.cons (hs := AllReadyH.nil)
  · simp only [List.getElem?_toArray]; rfl
  intro K hK
  rw [if_pos (by rfl)]
  refine wp_put11 rfl (g := q9) (old := ⟨0, 0⟩) ⟨yk, yv⟩ rfl rfl HB3.out (fun W9 hW9 hk9 => ?_)
  have HW9 := Lib.hid hW9
  have HS9 := Lib.hid (HS3.out.trans hk9 (fun q hq => .inr (by have := HQ9.out; simp at hq; omega)))
  obtain ⟨at_, ct, rfl, hct, hmt, -⟩ := id HT3.out
  have HT9 := Lib.hid (show rkI.In W9.heap.size W9 _ _ from (HT3.out.keeps hk9 (fun hn q hq e => HTN.out hn q hq (by simpa using e))).more hk9.size)
  clear hW9 hk9
  refine hK.out _ _ ?_ (fun hHeld => ?_)
  · exact (by rw [HSE.out]; exact HS9.out)
  clear hK K
  try simp only [Act.put, List.setIfInBounds_toArray, List.set_cons_zero, List.set_cons_succ]
  apply wpAnyH_take (i := 11)
  · simp only [List.getElem?_toArray]; rfl
  · kernel_rfl
  · kernel_rfl
  · kernel_rfl
  · exact fun _ _ _ h => h
  · exact Or.inl ⟨by rfl, by intro w hSw; go_simp; try with_reducible rfl⟩
  · assumption
  try simp only [Act.put, List.setIfInBounds_toArray, List.set_cons_zero, List.set_cons_succ]
  refine wpAnyH_done (by kernel_rfl) ?_ _
  refine NoPanic.normal ?_
  have HWD := Lib.hid (HS9.out.heap HW78.out (by simp)); have HWR := Lib.hid (HS9.out.heap HW8.out (by simp))
  have HKE := Lib.hid (HKW.out.trans HS9.out (FSub.refl _ _))
  have hrel := HREL.out.1
  go_wp2_with ((with_reducible refine wpList_loadK (g := D) (h := (kvH m2 : Int)) (vs := kvV m2) rfl ?_ HWD.out ?_); exact rfl)
  refine (show Calls Try.prog 15 #[kvVal m2, _] W9 _ from alike11_any W9 hrel HT9.out HTN2.out).mono ?_
  rintro e W10 ⟨rfl, hk10⟩
  have HWD2 := Lib.hid (hk10.heap HWD.out (by simp)); have HWR2 := Lib.hid (hk10.heap HWR.out (by simp)); have HW92 := Lib.hid (hk10.heap HW9.out (by simp))
  have HK10 := Lib.hid (HKE.out.trans hk10 (FSub.refl _ _))
  clear hk10 HWD HWR HKE hrel
  go_wp2_with (first
    | ((with_reducible refine wpList_loadR (g := D + 1) rfl ?_ HWR2.out ?_); exact rfl)
    | ((with_reducible refine wpList_loadR (g := q9) rfl ?_ HW92.out ?_); exact rfl)
    | ((with_reducible refine wpList_loadK (g := D) (h := (kvH m2 : Int)) (vs := kvV m2) rfl ?_ HWD2.out ?_); exact rfl))
  refine (show Calls Try.prog 10 #[kvVal m2] W10 _ from HCM2.out W10 (HR.out.keep HG.out HK10.out)).mono ?_
  rintro e W11 ⟨rfl, hk11⟩
  have HK11 := Lib.hid (HK10.out.trans hk11 (FSub.refl _ _))
  clear hk11
  go_wp2_with fail
  refine (awake11_any HR.out W11 (HR.out.keep HG.out HK11.out)).mono ?_
  rintro e W12 ⟨rfl, hk12⟩
  have HK12 := Lib.hid (HK11.out.trans hk12 (FSub.refl _ _))
  clear hk12
  go_wp2_with fail
  go_ret
  exact ⟨rfl, HK12.out⟩
end Go.Proofs.Ytnmpekbkahkapaa
/-
  KvmapCodes over any key map.
-/
namespace Go.Proofs.Ytnmpekbkahkapaa
open Go.RowKit
variable {G : World → Prop}
theorem look_filter (key k : Int) : ∀ t : List It, itLook k (t.filter fun x => x.k == key) = if k = key then itLook k t else none
  | [] => by simp [itLook]
  | a :: r => by
    have ih := look_filter key k r
    rw [List.filter_cons]
    by_cases ha : a.k = key
    · rw [if_pos (by simpa using ha), itLook, itLook, ih]
      by_cases hk : k = key
      · rw [if_pos hk, if_pos hk]
      · rw [if_neg hk, if_neg hk, if_neg (by rw [ha]; exact fun e => hk e.symm)]
    · rw [if_neg (by simpa using ha), ih]
      by_cases hk : k = key
      · rw [if_pos hk, if_pos hk, itLook, if_neg (by rw [hk]; exact ha)]
      · rw [if_neg hk, if_neg hk]
theorem kv0_get (k : Nat) : kv0.getD k none = none := by
  unfold kv0
  rw [List.getD_eq_getElem?_getD, List.getElem?_replicate]
  split <;> rfl
theorem only_get {m : Kv} {key : Int} (h0 : 0 ≤ key) {k : Nat} (hk : k < 8) : (kvOnly m key).getD k none = if (k : Int) = key then m.getD k none else none := by
  unfold kvOnly
  split
  · rename_i h8
    by_cases e : (k : Int) = key
    · rw [if_pos e, show key.toNat = k by omega, List.getD_eq_getElem?_getD, List.getElem?_set_self (by show k < 8; exact hk)]
      rfl
    · rw [if_neg e, List.getD_eq_getElem?_getD, List.getElem?_set_ne (by omega), ← List.getD_eq_getElem?_getD, kv0_get]
  · rw [if_neg (by omega), kv0_get]
theorem Rel.only {m : Kv} {t : List It} (h : Rel m t) {key : Int} (h0 : 0 ≤ key) : Rel (kvOnly m key) (t.filter fun x => x.k == key) := by
  refine ⟨kvOnly_in h.in_ h0, fun k hk => ?_, fun x hx => h.keys x (List.mem_filter.1 hx).1, h.nodup.sublist (List.Sublist.map _ List.filter_sublist)⟩
  rw [look_filter, only_get h0 hk]
  split
  · exact h.look k hk
  · rfl
set_option maxHeartbeats 8000000
set_option maxRecDepth 100000
end Go.Proofs.Ytnmpekbkahkapaa
/-
  A key map's bytes, read back.
-/
namespace Go.Proofs.Ytnmpekbkahkapaa
open Go.RowKit
theorem bits_more (B k : Nat) : B % 2 ^ (k + 1) = B % 2 ^ k + 2 ^ k * (B / 2 ^ k % 2) := Nat.mod_pow_succ
end Go.Proofs.Ytnmpekbkahkapaa
/-
  Keys are apart: what operations at one key answer, and leave there.
-/
namespace Go.Proofs.Ytnmpekbkahkapaa
open Go.RowKit
theorem get_set {m : Kv} {k j : Nat} (hk : k < m.length) (o : Option Int) : (m.set k o).getD j none = if k = j then o else m.getD j none := by
  rw [List.getD_eq_getElem?_getD, List.getElem?_set]
  split
  · rename_i e
    subst e
    first | rfl | (rw [if_pos hk]; rfl)
  · rw [← List.getD_eq_getElem?_getD]
end Go.Proofs.Ytnmpekbkahkapaa
/-
  KvmapLast: two arrays in memory, what a step does by its ways.
-/
namespace Go.Proofs.Ytnmpekbkahkapaa
open Go.RowKit
section
variable {w : World} {b : Nat} {m : Kv} {vs : List Int} {t : TypeId}
end
/-- What was put last. -/
structure LaOk (m : Kv) (vs : List Int) : Prop where
  len : vs.length = 8
  mlen : m.length = 8
  last : ∀ j v, m.getD j none = some v → vs.getD j 0 = v
theorem LaOk.first : LaOk kv0 [0, 0, 0, 0, 0, 0, 0, 0] := ⟨rfl, rfl, fun j v h => by
  have e : kv0.getD j none = none := by
    unfold kv0
    rw [List.getD_eq_getElem?_getD, List.getElem?_replicate]
    split <;> rfl
  rw [e] at h; cases h⟩
theorem LaOk.put {m : Kv} {vs : List Int} (h : LaOk m vs) {n : Nat} (hn : n < 8) (v : Int) : LaOk (m.set n (some v)) (vs.set n v) := by
  refine ⟨by simp [h.len], by simp [h.mlen], fun j u hj => ?_⟩
  rw [get_set (by rw [h.mlen]; exact hn)] at hj
  rw [List.getD_eq_getElem?_getD, List.getElem?_set]
  by_cases e : n = j
  · rw [if_pos e] at hj
    obtain rfl := Option.some.inj hj
    rw [if_pos e, if_pos (by rw [h.len]; exact hn)]
    rfl
  · rw [if_neg e] at hj
    rw [if_neg e, ← List.getD_eq_getElem?_getD]
    exact h.last j u hj
theorem LaOk.del {m : Kv} {vs : List Int} (h : LaOk m vs) {n : Nat} (hn : n < 8) : LaOk (m.set n none) vs := by
  refine ⟨h.len, by simp [h.mlen], fun j u hj => ?_⟩
  rw [get_set (by rw [h.mlen]; exact hn)] at hj
  by_cases e : n = j
  · rw [if_pos e] at hj; cases hj
  · rw [if_neg e] at hj
    exact h.last j u hj
section
variable {m : Kv} {x : Opn} {n : Nat}
end
section
variable {ops : Array Oper} {rest : List Oper} {a : Act} {w : World} {Q : Exit → Act → World → Prop}
end
end Go.Proofs.Ytnmpekbkahkapaa
/-
  The program's key map: the four steps.
-/
namespace Go.Proofs.Ytnmpekbkahkapaa
open Go.RowKit
theorem results_kv2 {fn : Func} {p u : Tmp} (h : fn.results = #[.cell p 25, .cell u 32]) (tmps : Array Value) (w : World) (b c : Nat) {z : Int} {vs : List Int} (y : Ans) {t t2 : TypeId}
    (hp : tmps.getD p undef = .pointer (some ⟨b, 0, none⟩)) (hb : w.heap[b]? = some (.cells (kvA z vs) t (0, 0))) (hu : tmps.getD u undef = .pointer (some ⟨c, 0, none⟩)) (hc : w.heap[c]? = some (.cells (ansC y).toArray t2 (0, 0))) :
    (results fn tmps).run Try.prog w = .ok (.tuple #[.agg (kvA z vs), .agg (ansC y).toArray]) w := by
  have h1 : (loadVar 25 ⟨b, 0, none⟩).run Try.prog w = .ok (.agg (kvA z vs)) w := run_loadVar_row w b t 25 _ _ _ hb Try.underlying25 rfl (by kernel_rfl)
  have h2 : (loadVar 32 ⟨c, 0, none⟩).run Try.prog w = .ok (.agg (ansC y).toArray) w := run_loadVar_row w c t2 32 _ _ _ hc Try.underlying32 rfl (by kernel_rfl)
  have hp' : tmps[p]?.getD undef = .pointer (some ⟨b, 0, none⟩) := by simpa using hp
  have hu' : tmps[u]?.getD undef = .pointer (some ⟨c, 0, none⟩) := by simpa using hu
  simp only [results, h]
  simp [Sem.run_bind, Result.andThen, hp', hu', asAddr, h1, h2]
theorem results_kv3 {fn : Func} {p u x : Tmp} (h : fn.results = #[.cell p 25, .cell u 32, .tmp x]) (tmps : Array Value) (w : World) (b c : Nat) {z : Int} {vs : List Int} (y : Ans) {t t2 : TypeId}
    (hp : tmps.getD p undef = .pointer (some ⟨b, 0, none⟩)) (hb : w.heap[b]? = some (.cells (kvA z vs) t (0, 0))) (hu : tmps.getD u undef = .pointer (some ⟨c, 0, none⟩)) (hc : w.heap[c]? = some (.cells (ansC y).toArray t2 (0, 0))) :
    (results fn tmps).run Try.prog w = .ok (.tuple #[.agg (kvA z vs), .agg (ansC y).toArray, tmps.getD x undef]) w := by
  have h1 : (loadVar 25 ⟨b, 0, none⟩).run Try.prog w = .ok (.agg (kvA z vs)) w := run_loadVar_row w b t 25 _ _ _ hb Try.underlying25 rfl (by kernel_rfl)
  have h2 : (loadVar 32 ⟨c, 0, none⟩).run Try.prog w = .ok (.agg (ansC y).toArray) w := run_loadVar_row w c t2 32 _ _ _ hc Try.underlying32 rfl (by kernel_rfl)
  have hp' : tmps[p]?.getD undef = .pointer (some ⟨b, 0, none⟩) := by simpa using hp
  have hu' : tmps[u]?.getD undef = .pointer (some ⟨c, 0, none⟩) := by simpa using hu
  simp only [results, h]
  simp [Sem.run_bind, Result.andThen, hp', hu', asAddr, h1, h2]
/-- The world behind a step's variables. -/
theorem vars_k (w : World) (h : Int) (vs : List Int) (A : Array Value) (W : World) (hW : W = (((w.alloc (.cells (kvA h vs) 25)).alloc (.cells A 27)).alloc (.cells (kvA 0 []) 25)).alloc (.cells (ansC ⟨0, 0⟩).toArray 32)) :
    Keeps [] w W ∧ W.heap[w.heap.size]? = some (.cells (kvA h vs) 25 (0, 0)) ∧ W.heap[w.heap.size + 1]? = some (.cells A 27 (0, 0)) ∧ W.heap[w.heap.size + 2]? = some (.cells (kvA 0 []) 25 (0, 0)) ∧ W.heap[w.heap.size + 3]? = some (.cells (ansC ⟨0, 0⟩).toArray 32 (0, 0)) ∧ W.heap.size = w.heap.size + 4 := by
  have e1 : (w.alloc (.cells (kvA h vs) 25)).heap.size = w.heap.size + 1 := Array.size_push _
  have e2 : ((w.alloc (.cells (kvA h vs) 25)).alloc (.cells A 27)).heap.size = w.heap.size + 2 := by
    rw [show ((w.alloc (.cells (kvA h vs) 25)).alloc (.cells A 27)).heap.size = (w.alloc (.cells (kvA h vs) 25)).heap.size + 1 from Array.size_push _, e1]
  have e3 : (((w.alloc (.cells (kvA h vs) 25)).alloc (.cells A 27)).alloc (.cells (kvA 0 []) 25)).heap.size = w.heap.size + 3 := by
    rw [show (((w.alloc (.cells (kvA h vs) 25)).alloc (.cells A 27)).alloc (.cells (kvA 0 []) 25)).heap.size = ((w.alloc (.cells (kvA h vs) 25)).alloc (.cells A 27)).heap.size + 1 from Array.size_push _, e2]
  subst hW
  refine ⟨((((Keeps.refl _ _).alloc _).alloc _).alloc _).alloc _, ?_, ?_, ?_, ?_, ?_⟩
  · exact ((((Keeps.refl [] (w.alloc (.cells (kvA h vs) 25))).alloc _).alloc _).alloc _).heap (heap_alloc_new w _) (by simp)
  · have h := heap_alloc_new (w.alloc (.cells (kvA h vs) 25)) (.cells A 27)
    rw [e1] at h
    exact (((Keeps.refl [] _).alloc _).alloc _).heap h (by simp)
  · have h := heap_alloc_new ((w.alloc (.cells (kvA h vs) 25)).alloc (.cells A 27)) (.cells (kvA 0 []) 25)
    rw [e2] at h
    exact ((Keeps.refl [] _).alloc _).heap h (by simp)
  · have h := heap_alloc_new (((w.alloc (.cells (kvA h vs) 25)).alloc (.cells A 27)).alloc (.cells (kvA 0 []) 25)) (.cells (ansC ⟨0, 0⟩).toArray 32)
    rw [e3] at h
    exact h
  · rw [show ((((w.alloc (.cells (kvA h vs) 25)).alloc (.cells A 27)).alloc (.cells (kvA 0 []) 25)).alloc (.cells (ansC ⟨0, 0⟩).toArray 32)).heap.size = (((w.alloc (.cells (kvA h vs) 25)).alloc (.cells A 27)).alloc (.cells (kvA 0 []) 25)).heap.size + 1 from Array.size_push _, e3]
theorem kvHas_kv (w : World) {m : Kv} (hm : KvIn m) {key : Int} (h0 : 0 ≤ key) : Calls Try.prog 30 #[.agg (kvA (kvH m) (kvV m)), .int .u8 key] w fun e w' => e = .returned (.bool (m.getD key.toNat none).isSome) ∧ Keeps [] w w' := by
  refine (kvHas_any w hm.small (kvV m) h0).mono ?_
  rintro e w' ⟨rfl, hk⟩
  refine ⟨?_, hk⟩
  have hb := kvH_bit m key.toNat
  cases ho : (m.getD key.toNat none).isSome with
  | true => rw [ho] at hb; rw [decide_eq_true (by simpa using hb)]
  | false => rw [ho] at hb; rw [decide_eq_false (by simp at hb; omega)]
/-- What a step tells. -/
def KsPost (w : World) (m : Kv) (r : Ans) (e : Ending) (w' : World) : Prop := e = .returned (.tuple #[kvVal m, .agg (ansC r).toArray]) ∧ Keeps [] w w'
set_option maxHeartbeats 8000000
set_option maxRecDepth 100000
section
variable {ops : Array Oper} {rest : List Oper} {o : Oper} {a : Act} {w : World} {K : Act → World → Prop} {Q : Exit → Act → World → Prop}
theorem wp_loadKh {x : Operand} (ho : o.op = .load 5 x) {g : Nat} {h : Int} {vs : List Int} {t : TypeId} (hx : a.eval x = .pointer (some ⟨g, 0, none⟩)) (hg : w.heap[g]? = some (.cells (kvA h vs) t (0, 0)))
    (hK : K (a.put o.dst (.int .u8 h)) w) : o.wp Try.prog a w K Q := by
  have hrun : (loadVar 5 ⟨g, 0, none⟩).run Try.prog w = .ok (.int .u8 h) w := by simp [loadVar, run_underlying Try.underlying5, kv_byte hg]
  unfold Oper.wp execOp
  simp only [ho, hx, Instr.loadAt, Instr.sureAddr, Sem.run_bind, Sem.run_pure, Result.andThen_ok, hrun]
  exact hK
theorem wpList_loadKh {dst : Option Tmp} {ty : TypeId} {pos : String} {after : Array Edge} {x : Operand} {g : Nat} {h : Int} {vs : List Int} {t : TypeId}
    (hx : a.eval x = .pointer (some ⟨g, 0, none⟩)) (hg : w.heap[g]? = some (.cells (kvA h vs) t (0, 0))) (hK : wpList Try.prog ops Q rest (a.put dst (.int .u8 h)) w) :
    wpList Try.prog ops Q ({ dst := dst, op := .load 5 x, type := ty, pos := pos, after := after, guard := none } :: rest) a w :=
  wpList_plain rfl fun _ hk => wp_loadKh rfl hx hg (hk _ _ hK)
theorem wp_putKh {x y : Operand} (ho : o.op = .store 5 x y) {g : Nat} {h h2 : Int} {vs : List Int} {t : TypeId}
    (hx : a.eval x = .pointer (some ⟨g, 0, none⟩)) (hy : a.eval y = .int .u8 h2) (hg : w.heap[g]? = some (.cells (kvA h vs) t (0, 0)))
    (hK : ∀ W, W.heap[g]? = some (.cells (kvA h2 vs) t (0, 0)) → Keeps [g] w W → K (a.put o.dst undef) W) : o.wp Try.prog a w K Q :=
  wp_put1 ho hx hy (by kernel_rfl) rfl (by rw [kv_byte hg]; rfl) (kv_thaw hg 0) (hK _ (kv_puth hg) ((Keeps.refl [g] w).setCell _ _ (.inl (by simp))))
theorem wpList_putKh {dst : Option Tmp} {ty : TypeId} {pos : String} {after : Array Edge} {x y : Operand} {g : Nat} {h h2 : Int} {vs : List Int} {t : TypeId}
    (hx : a.eval x = .pointer (some ⟨g, 0, none⟩)) (hy : a.eval y = .int .u8 h2) (hg : w.heap[g]? = some (.cells (kvA h vs) t (0, 0)))
    (hK : ∀ W, W.heap[g]? = some (.cells (kvA h2 vs) t (0, 0)) → Keeps [g] w W → wpList Try.prog ops Q rest (a.put dst undef) W) :
    wpList Try.prog ops Q ({ dst := dst, op := .store 5 x y, type := ty, pos := pos, after := after, guard := none } :: rest) a w :=
  wpList_plain rfl fun _ hk => wp_putKh rfl hx hy hg fun W h3 h4 => hk _ _ (hK W h3 h4)
theorem wp_putKv {x y : Operand} (ho : o.op = .store 22 x y) {g k : Nat} {h v : Int} {vs : List Int} {t : TypeId} (hl : vs.length = 8) (hk : k < 8)
    (hx : a.eval x = .pointer (some ⟨g, 1 + k, none⟩)) (hy : a.eval y = .int .u16 v) (hg : w.heap[g]? = some (.cells (kvA h vs) t (0, 0)))
    (hK : ∀ W, W.heap[g]? = some (.cells (kvA h (vs.set k v)) t (0, 0)) → Keeps [g] w W → K (a.put o.dst undef) W) : o.wp Try.prog a w K Q :=
  wp_put1 ho hx hy (by kernel_rfl) rfl (by rw [kv_cell hg hk]; rfl) (kv_thaw hg (1 + k)) (hK _ (kv_put hg hl hk v) ((Keeps.refl [g] w).setCell _ _ (.inl (by simp))))
theorem wpList_putKv {dst : Option Tmp} {ty : TypeId} {pos : String} {after : Array Edge} {x y : Operand} {g k : Nat} {h v : Int} {vs : List Int} {t : TypeId} (hl : vs.length = 8) (hk : k < 8)
    (hx : a.eval x = .pointer (some ⟨g, 1 + k, none⟩)) (hy : a.eval y = .int .u16 v) (hg : w.heap[g]? = some (.cells (kvA h vs) t (0, 0)))
    (hK : ∀ W, W.heap[g]? = some (.cells (kvA h (vs.set k v)) t (0, 0)) → Keeps [g] w W → wpList Try.prog ops Q rest (a.put dst undef) W) :
    wpList Try.prog ops Q ({ dst := dst, op := .store 22 x y, type := ty, pos := pos, after := after, guard := none } :: rest) a w :=
  wpList_plain rfl fun _ hj => wp_putKv rfl hl hk hx hy hg fun W h3 h4 => hj _ _ (hK W h3 h4)
theorem wpList_shl8 {dst : Option Tmp} {ty T : TypeId} {pos : String} {after : Array Edge} {x y : Operand} {k v : Int} (hx : a.eval x = .int .u8 1) (hy : a.eval y = .int .u8 k)
    (hr : ∀ w, (Op.shift BinOp.shl IntKind.u8 1 IntKind.u8 k).run Try.prog w = .ok (.int .u8 v) w) (h : wpList Try.prog ops Q rest (a.put dst (.int .u8 v)) w) :
    wpList Try.prog ops Q ({ dst := dst, op := .binOp .shl 5 x y T, type := ty, pos := pos, after := after, guard := none } :: rest) a w :=
  wpList_plain rfl fun _ hk => by
    unfold Oper.wp execOp
    have e := hr w
    simp only [hx, hy, Sem.run_bind]
    simp [go_sem, e, Result.andThen]
    exact hk _ _ h
theorem wpList_or8 {dst : Option Tmp} {ty T : TypeId} {pos : String} {after : Array Edge} {x y : Operand} {A B v : Int} (hx : a.eval x = .int .u8 A) (hy : a.eval y = .int .u8 B)
    (hr : bits .or .u8 A B = v) (h : wpList Try.prog ops Q rest (a.put dst (.int .u8 v)) w) :
    wpList Try.prog ops Q ({ dst := dst, op := .binOp .or 5 x y T, type := ty, pos := pos, after := after, guard := none } :: rest) a w :=
  wpList_plain rfl fun _ hk => by
    unfold Oper.wp execOp
    simp only [hx, hy, Sem.run_bind]
    simp [go_sem, hr, Result.andThen]
    exact hk _ _ h
theorem wpList_not8 {dst : Option Tmp} {ty T : TypeId} {pos : String} {after : Array Edge} {x y : Operand} {A B v : Int} (hx : a.eval x = .int .u8 A) (hy : a.eval y = .int .u8 B)
    (hr : bits .andNot .u8 A B = v) (h : wpList Try.prog ops Q rest (a.put dst (.int .u8 v)) w) :
    wpList Try.prog ops Q ({ dst := dst, op := .binOp .andNot 5 x y T, type := ty, pos := pos, after := after, guard := none } :: rest) a w :=
  wpList_plain rfl fun _ hk => by
    unfold Oper.wp execOp
    simp only [hx, hy, Sem.run_bind]
    simp [go_sem, hr, Result.andThen]
    exact hk _ _ h
end
theorem kvGet_none (w : World) {m : Kv} (hm : KvIn m) (f o a b : Int) {kn : Nat} (hk8 : kn < 8) (ho : m.getD kn none = none) :
    Calls Try.prog 53 #[.agg (kvA (kvH m) (kvV m)), .agg #[.int .u8 f, .int .u8 o, .int .u8 (kn : Int), .int .u16 a, .int .u16 b]] w (KsPost w m ⟨2, 0⟩) := by
  obtain ⟨W, hW⟩ : ∃ W, W = (((w.alloc (.cells (kvA (kvH m) (kvV m)) 25)).alloc (.cells #[.int .u8 f, .int .u8 o, .int .u8 (kn : Int), .int .u16 a, .int .u16 b] 27)).alloc (.cells (kvA 0 []) 25)).alloc (.cells (ansC ⟨0, 0⟩).toArray 32) := ⟨_, rfl⟩
  obtain ⟨hk0, h0, h1, h2, h3, hz⟩ := vars_k w _ _ _ W hW
  simp only [show (ansC ⟨0, 0⟩).toArray = #[Value.int .u8 0, .int .u16 0] from rfl, show kvA 0 [] = #[Value.int .u8 0, .int .u16 0, .int .u16 0, .int .u16 0, .int .u16 0, .int .u16 0, .int .u16 0, .int .u16 0, .int .u16 0] from rfl] at hW
  have h0' := h0
  rw [hW] at h0'
  have HL0 := Lib.hid h0'
  obtain ⟨R, hR⟩ : ∃ R, R = w.heap.size := ⟨_, rfl⟩
  rw [← hR] at h0 h1 h2 h3 hz
  have HWW := Lib.hid hW; have HRE := Lib.hid hR; have HK0 := Lib.hid hk0
  have HZ := Lib.hid hz; have HO := Lib.hid ho
  have HHAS := Lib.hid (fun w => kvHas_kv w hm (key := (kn : Int)) (Int.natCast_nonneg _))
  clear h0' hW hR hk0 hz
  go_enter Try.func53, Try.ntmps53
  go_wp2_with ((with_reducible refine wpList_loadK (g := w.heap.size) rfl ?_ HL0.out ?_); exact rfl)
  refine (HHAS.out _).mono ?_; rintro e w1 ⟨rfl, hk1⟩
  rw [← HWW.out] at hk1
  rw [← HRE.out, Int.toNat_natCast, HO.out]
  simp only [Option.isSome_none, Option.isSome_some]
  have HB0 := Lib.hid (hk1.heap h0 (by simp)); have HB2 := Lib.hid (hk1.heap h2 (by simp)); have HB3 := Lib.hid (hk1.heap h3 (by simp))
  have hb1 := hk1.heap h1 (by simp)
  have c2 : w1.cell? ⟨R + 1, 2, none⟩ = some (.int .u8 (kn : Int)) := cell_lit hb1 2 rfl
  have c3 : w1.cell? ⟨R + 1, 3, none⟩ = some (.int .u16 a) := cell_lit hb1 3 rfl
  have c4 : w1.cell? ⟨R + 1, 4, none⟩ = some (.int .u16 b) := cell_lit hb1 4 rfl
  have HK1 := Lib.hid (HK0.out.trans hk1 (FSub.refl _ _))
  clear h0 h1 h2 h3 hb1 hk1 HL0 HK0 HHAS
  go_wp2_with (first
    | ((with_reducible refine wpList_loadK (g := R) rfl ?_ HB0.out ?_); exact rfl)
    | ((with_reducible refine wpList_putK (g := R + 2) (h := kvH m) (vs := kvV m) ?_ ?_ HB2.out ?_); exact rfl; exact rfl))
  intro W2 hW2 hk2
  have HW2 := Lib.hid hW2
  have HA2 := Lib.hid (hk2.heap HB3.out (by simp))
  have HK2 := Lib.hid (HK1.out.trans hk2 (fun q hq => .inr (by have := HRE.out; simp at hq; omega)))
  clear hW2 hk2
  go_wp2_with ((with_reducible refine wpList_putN (g := R + 3) (old := ⟨0, 0⟩) ⟨2, 0⟩ ?_ ?_ HA2.out ?_); exact rfl; exact rfl)
  intro W3 hW3 hk3
  have HW3 := Lib.hid hW3
  have HS3 := Lib.hid (hk3.heap HW2.out (by simp))
  have HK3 := Lib.hid (HK2.out.trans hk3 (fun q hq => .inr (by have := HRE.out; simp at hq; omega)))
  clear hW3 hk3
  go_wp2_with fail
  try simp only [Exit.inBlock, Exit.then]
  exact bodyPost_ret (results_kv2 rfl _ _ (R + 2) (R + 3) ⟨2, 0⟩ rfl HS3.out rfl HW3.out) rfl ⟨rfl, HK3.out⟩
theorem kvGet_some (w : World) {m : Kv} (hm : KvIn m) (f o a b : Int) {kn : Nat} (hk8 : kn < 8) {v : Int} (ho : m.getD kn none = some v) :
    Calls Try.prog 53 #[.agg (kvA (kvH m) (kvV m)), .agg #[.int .u8 f, .int .u8 o, .int .u8 (kn : Int), .int .u16 a, .int .u16 b]] w (KsPost w m ⟨1, v⟩) := by
  have hcv : (kvV m).getD kn 0 = v := by rw [kvV_getD (by rw [hm.len]; exact hk8), ho]; rfl
  have HCV := Lib.hid hcv
  clear hcv
  obtain ⟨W, hW⟩ : ∃ W, W = (((w.alloc (.cells (kvA (kvH m) (kvV m)) 25)).alloc (.cells #[.int .u8 f, .int .u8 o, .int .u8 (kn : Int), .int .u16 a, .int .u16 b] 27)).alloc (.cells (kvA 0 []) 25)).alloc (.cells (ansC ⟨0, 0⟩).toArray 32) := ⟨_, rfl⟩
  obtain ⟨hk0, h0, h1, h2, h3, hz⟩ := vars_k w _ _ _ W hW
  simp only [show (ansC ⟨0, 0⟩).toArray = #[Value.int .u8 0, .int .u16 0] from rfl, show kvA 0 [] = #[Value.int .u8 0, .int .u16 0, .int .u16 0, .int .u16 0, .int .u16 0, .int .u16 0, .int .u16 0, .int .u16 0, .int .u16 0] from rfl] at hW
  have h0' := h0
  rw [hW] at h0'
  have HL0 := Lib.hid h0'
  obtain ⟨R, hR⟩ : ∃ R, R = w.heap.size := ⟨_, rfl⟩
  rw [← hR] at h0 h1 h2 h3 hz
  have HWW := Lib.hid hW; have HRE := Lib.hid hR; have HK0 := Lib.hid hk0
  have HZ := Lib.hid hz; have HO := Lib.hid ho
  have HHAS := Lib.hid (fun w => kvHas_kv w hm (key := (kn : Int)) (Int.natCast_nonneg _))
  clear h0' hW hR hk0 hz
  go_enter Try.func53, Try.ntmps53
  go_wp2_with ((with_reducible refine wpList_loadK (g := w.heap.size) rfl ?_ HL0.out ?_); exact rfl)
  refine (HHAS.out _).mono ?_; rintro e w1 ⟨rfl, hk1⟩
  rw [← HWW.out] at hk1
  rw [← HRE.out, Int.toNat_natCast, HO.out]
  simp only [Option.isSome_none, Option.isSome_some]
  have HB0 := Lib.hid (hk1.heap h0 (by simp)); have HB2 := Lib.hid (hk1.heap h2 (by simp)); have HB3 := Lib.hid (hk1.heap h3 (by simp))
  have hb1 := hk1.heap h1 (by simp)
  have c2 : w1.cell? ⟨R + 1, 2, none⟩ = some (.int .u8 (kn : Int)) := cell_lit hb1 2 rfl
  have c3 : w1.cell? ⟨R + 1, 3, none⟩ = some (.int .u16 a) := cell_lit hb1 3 rfl
  have c4 : w1.cell? ⟨R + 1, 4, none⟩ = some (.int .u16 b) := cell_lit hb1 4 rfl
  have HK1 := Lib.hid (HK0.out.trans hk1 (FSub.refl _ _))
  clear h0 h1 h2 h3 hb1 hk1 HL0 HK0 HHAS
  have c0 := kv_cell HB0.out hk8
  rw [HCV.out] at c0
  obtain ⟨S, hS⟩ : ∃ S : World → Prop, S = fun y => Keeps [R + 2, R + 3] w1 y := ⟨_, rfl⟩
  have HSE := Lib.hid hS
  have hSD : S w1.drew := by rw [hS]; exact (Keeps.refl _ _).drew
  have HS0 := Lib.hid (fun (w' : World) (hh : S w') => show ∃ t, w'.heap[R]? = some (.cells (kvA (kvH m) (kvV m)) t (0, 0)) from by rw [hS] at hh; exact ⟨_, hh.heap HB0.out (by simp)⟩)
  have HSK := Lib.hid (fun (w' : World) (hh : S w') => show w'.cell? ⟨R + 1, 2, none⟩ = some (.int .u8 (kn : Int)) from by rw [hS] at hh; exact hh.cell c2 (by simp))
  have HSV := Lib.hid (fun (w' : World) (hh : S w') => show w'.cell? ⟨R, 1 + kn, none⟩ = some (.int .u16 v) from by rw [hS] at hh; exact hh.cell c0 (by simp))
  have HLT := Lib.hid (fun (w' : World) (_ : S w') => show (kn : Int) < 8 from by omega)
  clear hS c0 c2 c3 c4
  go_wp2_with fail
  refine wp_region_noPanic ?_
  refine wp_region_held_drew (S := S) (by kernel_rfl) hSD (fun hHeld => ?_)
  apply wpAnyH_take (i := 0)
  · simp only [List.getElem?_toArray]; rfl
  · kernel_rfl
  · kernel_rfl
  · kernel_rfl
  · exact fun _ _ _ h => h
  · exact yields_loadK (by rfl) _ rfl R rfl _ _ HS0.out
  · assumption
  try simp only [Act.put, List.setIfInBounds_toArray, List.set_cons_zero, List.set_cons_succ]
  apply wpAnyH_take (i := 1)
  · simp only [List.getElem?_toArray]; rfl
  · kernel_rfl
  · kernel_rfl
  · kernel_rfl
  · exact fun _ _ _ h => h
  · exact Or.inl ⟨by rfl, by intro w hSw; go_simp; try with_reducible rfl⟩
  · assumption
  try simp only [Act.put, List.setIfInBounds_toArray, List.set_cons_zero, List.set_cons_succ]
  apply wpAnyH_take (i := 2)
  · simp only [List.getElem?_toArray]; rfl
  · kernel_rfl
  · kernel_rfl
  · kernel_rfl
  · exact fun _ _ _ h => h
  · exact Or.inl ⟨by rfl, by intro w hSw; have q0 := HSK.out w hSw; go_simp; try with_reducible rfl⟩
  · assumption
  try simp only [Act.put, List.setIfInBounds_toArray, List.set_cons_zero, List.set_cons_succ]
  apply wpAnyH_take (i := 3)
  · simp only [List.getElem?_toArray]; rfl
  · kernel_rfl
  · kernel_rfl
  · kernel_rfl
  · exact fun _ _ _ h => h
  · exact Or.inl ⟨by rfl, by intro w hSw; go_simp; try with_reducible rfl⟩
  · assumption
  try simp only [Act.put, List.setIfInBounds_toArray, List.set_cons_zero, List.set_cons_succ]
  apply wpAnyH_take (i := 4)
  · simp only [List.getElem?_toArray]; rfl
  · kernel_rfl
  · kernel_rfl
  · kernel_rfl
  · exact fun _ _ _ h => h
  · exact Or.inl ⟨by rfl, by intro w hSw; have q0 := HLT.out w hSw; go_simp; try with_reducible rfl⟩
  · assumption
  try simp only [Act.put, List.setIfInBounds_toArray, List.set_cons_zero, List.set_cons_succ]
  apply wpAnyH_take (i := 5)
  · simp only [List.getElem?_toArray]; rfl
  · kernel_rfl
  · kernel_rfl
  · kernel_rfl
  · exact fun _ _ _ h => h
  · exact Or.inl ⟨by rfl, by intro w hSw; have q0 := HSV.out w hSw; go_simp; try with_reducible rfl⟩
  · assumption
  try simp only [Act.put, List.setIfInBounds_toArray, List.set_cons_zero, List.set_cons_succ]
  apply wpAnyH_take (i := 6)
  · simp only [List.getElem?_toArray]; rfl
  · kernel_rfl
  · kernel_rfl
  · kernel_rfl
  · exact fun _ _ _ h => h
  · exact Or.inl ⟨by rfl, by intro w hSw; go_simp; try with_reducible rfl⟩
  · assumption
  try simp only [Act.put, List.setIfInBounds_toArray, List.set_cons_zero, List.set_cons_succ]
  apply wpAnyH_ready (rs := [7])
  · kernel_rfl
  · simp
  apply AllReadyH.cons (hs := AllReadyH.nil)
  · simp only [List.getElem?_toArray]; rfl
  intro K hK
  rw [if_pos (by rfl)]
  refine wp_putK rfl (g := R + 2) (h := kvH m) (vs := kvV m) rfl rfl (HB2.out) (fun W2 hW2 hk2 => ?_)
  have HW2 := Lib.hid hW2
  have HA2 := Lib.hid (hk2.heap HB3.out (by simp))
  have HK2 := Lib.hid (show Keeps [R + 2, R + 3] w1 W2 from (((Keeps.refl [R + 2, R + 3] w1).drew).step hk2 (by simp)))
  clear hW2 hk2
  refine hK.out _ _ ?_ (fun hHeld => ?_)
  · exact (by rw [HSE.out]; exact HK2.out)
  clear hK K
  try simp only [Act.put, List.setIfInBounds_toArray, List.set_cons_zero, List.set_cons_succ]
  apply wpAnyH_ready (rs := [8])
  · kernel_rfl
  · simp
  apply AllReadyH.cons (hs := AllReadyH.nil)
  · simp only [List.getElem?_toArray]; rfl
  intro K hK
  rw [if_pos (by rfl)]
  refine wp_putN rfl (g := R + 3) (old := ⟨0, 0⟩) ⟨1, v⟩ rfl rfl HA2.out (fun W3 hW3 hk3 => ?_)
  have HW3 := Lib.hid hW3
  have HS3 := Lib.hid (hk3.heap HW2.out (by simp))
  have HK3 := Lib.hid (HK2.out.step hk3 (by simp))
  clear hW3 hk3
  refine hK.out _ _ ?_ (fun hHeld => ?_)
  · exact (by rw [HSE.out]; exact HK3.out)
  clear hK K
  try simp only [Act.put, List.setIfInBounds_toArray, List.set_cons_zero, List.set_cons_succ]
  refine wpAnyH_done (by kernel_rfl) ?_ _
  refine NoPanic.normal ?_
  go_wp2_with fail
  try simp only [Exit.inBlock, Exit.then]
  exact bodyPost_ret (results_kv2 rfl _ _ (R + 2) (R + 3) ⟨1, v⟩ rfl HS3.out rfl HW3.out) rfl ⟨rfl, HK1.out.trans HK3.out (fun q hq => .inr (by have := HRE.out; simp at hq; omega))⟩
theorem kvPut_all (w : World) {m : Kv} (hm : KvIn m) (f o a b : Int) {kn : Nat} (hk8 : kn < 8) :
    Calls Try.prog 54 #[.agg (kvA (kvH m) (kvV m)), .agg #[.int .u8 f, .int .u8 o, .int .u8 (kn : Int), .int .u16 a, .int .u16 b]] w (KsPost w (m.set kn (some a)) ⟨0, 0⟩) := by
  have ho : kvV (m.set kn (some a)) = (kvV m).set kn a := kvV_set m kn (some a)
  have HSH := Lib.hid (shl8 hk8)
  have hor := kvH_put hm.len hk8 a
  obtain ⟨H2, hH2⟩ : ∃ H2, H2 = kvH (m.set kn (some a)) := ⟨_, rfl⟩
  rw [← hH2] at hor
  have HOR := Lib.hid hor; have HH2 := Lib.hid hH2
  have hvl : (kvV m).length = 8 := by rw [kvV_len, hm.len]
  have HVL := Lib.hid hvl; have HK8 := Lib.hid hk8
  obtain ⟨W, hW⟩ : ∃ W, W = (((w.alloc (.cells (kvA (kvH m) (kvV m)) 25)).alloc (.cells #[.int .u8 f, .int .u8 o, .int .u8 (kn : Int), .int .u16 a, .int .u16 b] 27)).alloc (.cells (kvA 0 []) 25)).alloc (.cells (ansC ⟨0, 0⟩).toArray 32) := ⟨_, rfl⟩
  obtain ⟨hk0, h0, h1, h2, h3, hz⟩ := vars_k w _ _ _ W hW
  simp only [show (ansC ⟨0, 0⟩).toArray = #[Value.int .u8 0, .int .u16 0] from rfl, show kvA 0 [] = #[Value.int .u8 0, .int .u16 0, .int .u16 0, .int .u16 0, .int .u16 0, .int .u16 0, .int .u16 0, .int .u16 0, .int .u16 0] from rfl] at hW
  have h0' := h0
  rw [hW] at h0'
  have HL0 := Lib.hid h0'
  obtain ⟨R, hR⟩ : ∃ R, R = w.heap.size := ⟨_, rfl⟩
  rw [← hR] at h0 h1 h2 h3 hz
  have HWW := Lib.hid hW; have HRE := Lib.hid hR; have HK0 := Lib.hid hk0
  have HZ := Lib.hid hz; have HO := Lib.hid ho
  have HHAS := Lib.hid (fun w => kvHas_kv w hm (key := (kn : Int)) (Int.natCast_nonneg _))
  clear h0' hW hR hk0 hz
  clear HHAS hvl hk8 hm ho hor hH2
  generalize 2 ^ kn = q at *
  go_enter Try.func54, Try.ntmps54
  go_wp2_with (first
    | ((with_reducible refine wpList_loadKh (g := w.heap.size) ?_ HL0.out ?_); exact rfl)
    | ((with_reducible refine wpList_shl8 (v := (q : Int)) ?_ ?_ HSH.out ?_); exact rfl; exact rfl)
    | ((with_reducible refine wpList_or8 (v := (H2 : Int)) ?_ ?_ HOR.out ?_); exact rfl; exact rfl)
    | ((with_reducible refine wpList_putKh (g := w.heap.size) (h2 := (H2 : Int)) ?_ ?_ HL0.out ?_); exact rfl; exact rfl))
  intro w1 hb0 hk1
  rw [← HWW.out, ← HRE.out] at hk1
  rw [← HRE.out] at hb0
  rw [← HRE.out]
  have HB0 := Lib.hid hb0
  have hb1 := hk1.heap h1 (by simp)
  have c2 : w1.cell? ⟨R + 1, 2, none⟩ = some (.int .u8 (kn : Int)) := cell_lit hb1 2 rfl
  have c3 : w1.cell? ⟨R + 1, 3, none⟩ = some (.int .u16 a) := cell_lit hb1 3 rfl
  have HB2 := Lib.hid (hk1.heap h2 (by simp)); have HB3 := Lib.hid (hk1.heap h3 (by simp))
  have HK1 := Lib.hid (HK0.out.trans hk1 (fun q hq => .inr (by have := HRE.out; simp at hq; omega)))
  have hlt : (kn : Int) < 8 := by have := HK8.out; omega
  clear hb0 hk1 h0 h1 h2 h3 HK0 HL0 hb1
  go_wp2_with ((with_reducible refine wpList_putKv (g := R) (k := kn) (v := a) HVL.out HK8.out ?_ ?_ HB0.out ?_); exact rfl; exact rfl)
  intro w2 hb0 hk2
  have hb2 := hk2.heap HB2.out (by simp)
  have hb3 := hk2.heap HB3.out (by simp)
  have hkn := HK1.out.trans hk2 (fun q hq => .inr (by have := HRE.out; simp at hq; omega))
  clear HB0 HB2 HB3 HK1 c2 c3 hk2
  rw [← HO.out] at hb0
  have HB0 := Lib.hid hb0; have HB2 := Lib.hid hb2; have HB3 := Lib.hid hb3; have HK1 := Lib.hid hkn
  clear hb0 hb2 hb3 hkn
  go_wp2_with (first
    | ((with_reducible refine wpList_loadK (g := R) rfl ?_ HB0.out ?_); exact rfl)
    | ((with_reducible refine wpList_putK (g := R + 2) (h := (H2 : Int)) (vs := (kvV (m.set kn (some a)))) ?_ ?_ HB2.out ?_); exact rfl; exact rfl))
  intro W2 hW2 hk2
  have HW2 := Lib.hid hW2
  have HA2 := Lib.hid (hk2.heap HB3.out (by simp))
  have HK2 := Lib.hid (HK1.out.trans hk2 (fun q hq => .inr (by have := HRE.out; simp at hq; omega)))
  clear hW2 hk2
  go_wp2_with ((with_reducible refine wpList_putN (g := R + 3) (old := ⟨0, 0⟩) ⟨0, 0⟩ ?_ ?_ HA2.out ?_); exact rfl; exact rfl)
  intro W3 hW3 hk3
  have HW3 := Lib.hid hW3
  have HS3 := Lib.hid (hk3.heap HW2.out (by simp))
  have HK3 := Lib.hid (HK2.out.trans hk3 (fun q hq => .inr (by have := HRE.out; simp at hq; omega)))
  clear hW3 hk3
  go_wp2_with fail
  try simp only [Exit.inBlock, Exit.then]
  exact bodyPost_ret (results_kv2 rfl _ _ (R + 2) (R + 3) ⟨0, 0⟩ rfl HS3.out rfl HW3.out) rfl ⟨(by unfold kvVal; rw [← HH2.out]), HK3.out⟩
theorem kvDel_none (w : World) {m : Kv} (hm : KvIn m) (f o a b : Int) {kn : Nat} (hk8 : kn < 8) (ho : m.getD kn none = none) :
    Calls Try.prog 55 #[.agg (kvA (kvH m) (kvV m)), .agg #[.int .u8 f, .int .u8 o, .int .u8 (kn : Int), .int .u16 a, .int .u16 b]] w (KsPost w m ⟨4, 0⟩) := by
  obtain ⟨W, hW⟩ : ∃ W, W = (((w.alloc (.cells (kvA (kvH m) (kvV m)) 25)).alloc (.cells #[.int .u8 f, .int .u8 o, .int .u8 (kn : Int), .int .u16 a, .int .u16 b] 27)).alloc (.cells (kvA 0 []) 25)).alloc (.cells (ansC ⟨0, 0⟩).toArray 32) := ⟨_, rfl⟩
  obtain ⟨hk0, h0, h1, h2, h3, hz⟩ := vars_k w _ _ _ W hW
  simp only [show (ansC ⟨0, 0⟩).toArray = #[Value.int .u8 0, .int .u16 0] from rfl, show kvA 0 [] = #[Value.int .u8 0, .int .u16 0, .int .u16 0, .int .u16 0, .int .u16 0, .int .u16 0, .int .u16 0, .int .u16 0, .int .u16 0] from rfl] at hW
  have h0' := h0
  rw [hW] at h0'
  have HL0 := Lib.hid h0'
  obtain ⟨R, hR⟩ : ∃ R, R = w.heap.size := ⟨_, rfl⟩
  rw [← hR] at h0 h1 h2 h3 hz
  have HWW := Lib.hid hW; have HRE := Lib.hid hR; have HK0 := Lib.hid hk0
  have HZ := Lib.hid hz; have HO := Lib.hid ho
  have HHAS := Lib.hid (fun w => kvHas_kv w hm (key := (kn : Int)) (Int.natCast_nonneg _))
  clear h0' hW hR hk0 hz
  go_enter Try.func55, Try.ntmps55
  go_wp2_with ((with_reducible refine wpList_loadK (g := w.heap.size) rfl ?_ HL0.out ?_); exact rfl)
  refine (HHAS.out _).mono ?_; rintro e w1 ⟨rfl, hk1⟩
  rw [← HWW.out] at hk1
  rw [← HRE.out, Int.toNat_natCast, HO.out]
  simp only [Option.isSome_none, Option.isSome_some]
  have HB0 := Lib.hid (hk1.heap h0 (by simp)); have HB2 := Lib.hid (hk1.heap h2 (by simp)); have HB3 := Lib.hid (hk1.heap h3 (by simp))
  have hb1 := hk1.heap h1 (by simp)
  have c2 : w1.cell? ⟨R + 1, 2, none⟩ = some (.int .u8 (kn : Int)) := cell_lit hb1 2 rfl
  have c3 : w1.cell? ⟨R + 1, 3, none⟩ = some (.int .u16 a) := cell_lit hb1 3 rfl
  have c4 : w1.cell? ⟨R + 1, 4, none⟩ = some (.int .u16 b) := cell_lit hb1 4 rfl
  have HK1 := Lib.hid (HK0.out.trans hk1 (FSub.refl _ _))
  clear h0 h1 h2 h3 hb1 hk1 HL0 HK0 HHAS
  go_wp2_with (first
    | ((with_reducible refine wpList_loadK (g := R) rfl ?_ HB0.out ?_); exact rfl)
    | ((with_reducible refine wpList_putK (g := R + 2) (h := kvH m) (vs := kvV m) ?_ ?_ HB2.out ?_); exact rfl; exact rfl))
  intro W2 hW2 hk2
  have HW2 := Lib.hid hW2
  have HA2 := Lib.hid (hk2.heap HB3.out (by simp))
  have HK2 := Lib.hid (HK1.out.trans hk2 (fun q hq => .inr (by have := HRE.out; simp at hq; omega)))
  clear hW2 hk2
  go_wp2_with ((with_reducible refine wpList_putN (g := R + 3) (old := ⟨0, 0⟩) ⟨4, 0⟩ ?_ ?_ HA2.out ?_); exact rfl; exact rfl)
  intro W3 hW3 hk3
  have HW3 := Lib.hid hW3
  have HS3 := Lib.hid (hk3.heap HW2.out (by simp))
  have HK3 := Lib.hid (HK2.out.trans hk3 (fun q hq => .inr (by have := HRE.out; simp at hq; omega)))
  clear hW3 hk3
  go_wp2_with fail
  try simp only [Exit.inBlock, Exit.then]
  exact bodyPost_ret (results_kv2 rfl _ _ (R + 2) (R + 3) ⟨4, 0⟩ rfl HS3.out rfl HW3.out) rfl ⟨rfl, HK3.out⟩
theorem kvDel_some (w : World) {m : Kv} (hm : KvIn m) (f o a b : Int) {kn : Nat} (hk8 : kn < 8) {v : Int} (ho : m.getD kn none = some v) :
    Calls Try.prog 55 #[.agg (kvA (kvH m) (kvV m)), .agg #[.int .u8 f, .int .u8 o, .int .u8 (kn : Int), .int .u16 a, .int .u16 b]] w (KsPost w (m.set kn none) ⟨3, 0⟩) := by
  have HVS := Lib.hid (show kvV (m.set kn none) = (kvV m).set kn 0 from kvV_set m kn none)
  have HSH := Lib.hid (shl8 hk8)
  have hnt := kvH_del hm.len hk8
  obtain ⟨H2, hH2⟩ : ∃ H2, H2 = kvH (m.set kn none) := ⟨_, rfl⟩
  rw [← hH2] at hnt
  have HNT := Lib.hid hnt; have HH2 := Lib.hid hH2
  clear hnt hH2
  have HVL := Lib.hid (show (kvV m).length = 8 by rw [kvV_len, hm.len]); have HK8 := Lib.hid hk8
  obtain ⟨W, hW⟩ : ∃ W, W = (((w.alloc (.cells (kvA (kvH m) (kvV m)) 25)).alloc (.cells #[.int .u8 f, .int .u8 o, .int .u8 (kn : Int), .int .u16 a, .int .u16 b] 27)).alloc (.cells (kvA 0 []) 25)).alloc (.cells (ansC ⟨0, 0⟩).toArray 32) := ⟨_, rfl⟩
  obtain ⟨hk0, h0, h1, h2, h3, hz⟩ := vars_k w _ _ _ W hW
  simp only [show (ansC ⟨0, 0⟩).toArray = #[Value.int .u8 0, .int .u16 0] from rfl, show kvA 0 [] = #[Value.int .u8 0, .int .u16 0, .int .u16 0, .int .u16 0, .int .u16 0, .int .u16 0, .int .u16 0, .int .u16 0, .int .u16 0] from rfl] at hW
  have h0' := h0
  rw [hW] at h0'
  have HL0 := Lib.hid h0'
  obtain ⟨R, hR⟩ : ∃ R, R = w.heap.size := ⟨_, rfl⟩
  rw [← hR] at h0 h1 h2 h3 hz
  have HWW := Lib.hid hW; have HRE := Lib.hid hR; have HK0 := Lib.hid hk0
  have HZ := Lib.hid hz; have HO := Lib.hid ho
  have HHAS := Lib.hid (fun w => kvHas_kv w hm (key := (kn : Int)) (Int.natCast_nonneg _))
  clear h0' hW hR hk0 hz
  generalize 2 ^ kn = q at *
  go_enter Try.func55, Try.ntmps55
  go_wp2_with ((with_reducible refine wpList_loadK (g := w.heap.size) rfl ?_ HL0.out ?_); exact rfl)
  refine (HHAS.out _).mono ?_; rintro e w1 ⟨rfl, hk1⟩
  rw [← HWW.out] at hk1
  rw [← HRE.out, Int.toNat_natCast, HO.out]
  simp only [Option.isSome_none, Option.isSome_some]
  have HB0 := Lib.hid (hk1.heap h0 (by simp)); have HB2 := Lib.hid (hk1.heap h2 (by simp)); have HB3 := Lib.hid (hk1.heap h3 (by simp))
  have hb1 := hk1.heap h1 (by simp)
  have c2 : w1.cell? ⟨R + 1, 2, none⟩ = some (.int .u8 (kn : Int)) := cell_lit hb1 2 rfl
  have c3 : w1.cell? ⟨R + 1, 3, none⟩ = some (.int .u16 a) := cell_lit hb1 3 rfl
  have c4 : w1.cell? ⟨R + 1, 4, none⟩ = some (.int .u16 b) := cell_lit hb1 4 rfl
  have HK1 := Lib.hid (HK0.out.trans hk1 (FSub.refl _ _))
  clear h0 h1 h2 h3 hb1 hk1 HL0 HK0 HHAS
  have hb1 := c2
  clear hk8
  go_wp2_with (first
    | ((with_reducible refine wpList_loadKh (g := R) ?_ HB0.out ?_); exact rfl)
    | ((with_reducible refine wpList_shl8 (v := (q : Int)) ?_ ?_ HSH.out ?_); exact rfl; exact rfl)
    | ((with_reducible refine wpList_not8 (v := (H2 : Int)) ?_ ?_ HNT.out ?_); exact rfl; exact rfl)
    | ((with_reducible refine wpList_putKh (g := R) (h2 := (H2 : Int)) ?_ ?_ HB0.out ?_); exact rfl; exact rfl))
  intro w2 hb0 hk2
  have HB0' := Lib.hid hb0
  have HB2' := Lib.hid (hk2.heap HB2.out (by simp)); have HB3' := Lib.hid (hk2.heap HB3.out (by simp))
  have HK1' := Lib.hid (HK1.out.trans hk2 (fun q hq => .inr (by have := HRE.out; simp at hq; omega)))
  have d2 : w2.cell? ⟨R + 1, 2, none⟩ = some (.int .u8 (kn : Int)) := hk2.cell c2 (by simp)
  have hlt : (kn : Int) < 8 := by have := HK8.out; omega
  clear hb0 hk2 HB0 HB2 HB3 HK1 c2 c3 c4 hb1
  go_wp2_with ((with_reducible refine wpList_putKv (g := R) (k := kn) (v := 0) HVL.out HK8.out ?_ ?_ HB0'.out ?_); exact rfl; exact rfl)
  intro w3 hb0 hk3
  have hb2 := hk3.heap HB2'.out (by simp)
  have hb3 := hk3.heap HB3'.out (by simp)
  have hkn := HK1'.out.trans hk3 (fun q hq => .inr (by have := HRE.out; simp at hq; omega))
  rw [← HVS.out] at hb0
  clear HB0' HB2' HB3' HK1' d2 hk3
  have HB0 := Lib.hid hb0; have HB2 := Lib.hid hb2; have HB3 := Lib.hid hb3; have HK1 := Lib.hid hkn
  clear hb0 hb2 hb3 hkn
  go_wp2_with (first
    | ((with_reducible refine wpList_loadK (g := R) rfl ?_ HB0.out ?_); exact rfl)
    | ((with_reducible refine wpList_putK (g := R + 2) (h := (H2 : Int)) (vs := (kvV (m.set kn none))) ?_ ?_ HB2.out ?_); exact rfl; exact rfl))
  intro W2 hW2 hk2
  have HW2 := Lib.hid hW2
  have HA2 := Lib.hid (hk2.heap HB3.out (by simp))
  have HK2 := Lib.hid (HK1.out.trans hk2 (fun q hq => .inr (by have := HRE.out; simp at hq; omega)))
  clear hW2 hk2
  go_wp2_with ((with_reducible refine wpList_putN (g := R + 3) (old := ⟨0, 0⟩) ⟨3, 0⟩ ?_ ?_ HA2.out ?_); exact rfl; exact rfl)
  intro W3 hW3 hk3
  have HW3 := Lib.hid hW3
  have HS3 := Lib.hid (hk3.heap HW2.out (by simp))
  have HK3 := Lib.hid (HK2.out.trans hk3 (fun q hq => .inr (by have := HRE.out; simp at hq; omega)))
  clear hW3 hk3
  go_wp2_with fail
  try simp only [Exit.inBlock, Exit.then]
  exact bodyPost_ret (results_kv2 rfl _ _ (R + 2) (R + 3) ⟨3, 0⟩ rfl HS3.out rfl HW3.out) rfl ⟨(by unfold kvVal; rw [← HH2.out]), HK3.out⟩
end Go.Proofs.Ytnmpekbkahkapaa
/-
  The program's key map: the step of Swap.
-/
namespace Go.Proofs.Ytnmpekbkahkapaa
open Go.RowKit
set_option maxHeartbeats 8000000
set_option maxRecDepth 100000
theorem kvSwap_none (w : World) {m : Kv} (hm : KvIn m) (f o a b : Int) {kn : Nat} (hk8 : kn < 8) (ho : m.getD kn none = none) :
    Calls Try.prog 56 #[.agg (kvA (kvH m) (kvV m)), .agg #[.int .u8 f, .int .u8 o, .int .u8 (kn : Int), .int .u16 a, .int .u16 b]] w (KsPost w m ⟨4, 0⟩) := by
  obtain ⟨W, hW⟩ : ∃ W, W = (((w.alloc (.cells (kvA (kvH m) (kvV m)) 25)).alloc (.cells #[.int .u8 f, .int .u8 o, .int .u8 (kn : Int), .int .u16 a, .int .u16 b] 27)).alloc (.cells (kvA 0 []) 25)).alloc (.cells (ansC ⟨0, 0⟩).toArray 32) := ⟨_, rfl⟩
  obtain ⟨hk0, h0, h1, h2, h3, hz⟩ := vars_k w _ _ _ W hW
  simp only [show (ansC ⟨0, 0⟩).toArray = #[Value.int .u8 0, .int .u16 0] from rfl, show kvA 0 [] = #[Value.int .u8 0, .int .u16 0, .int .u16 0, .int .u16 0, .int .u16 0, .int .u16 0, .int .u16 0, .int .u16 0, .int .u16 0] from rfl] at hW
  have h0' := h0
  rw [hW] at h0'
  have HL0 := Lib.hid h0'
  obtain ⟨R, hR⟩ : ∃ R, R = w.heap.size := ⟨_, rfl⟩
  rw [← hR] at h0 h1 h2 h3 hz
  have HWW := Lib.hid hW; have HRE := Lib.hid hR; have HK0 := Lib.hid hk0
  have HZ := Lib.hid hz; have HO := Lib.hid ho
  have HHAS := Lib.hid (fun w => kvHas_kv w hm (key := (kn : Int)) (Int.natCast_nonneg _))
  clear h0' hW hR hk0 hz
  obtain ⟨S, hS⟩ : ∃ S : World → Prop, S = fun y => Keeps [] W y := ⟨_, rfl⟩
  have HSE := Lib.hid hS
  have hSD : S W.drew := by rw [hS]; exact (Keeps.refl _ _).drew
  have HS0 := Lib.hid (fun (w' : World) (hh : S w') => show ∃ t, w'.heap[R]? = some (.cells (kvA (kvH m) (kvV m)) t (0, 0)) from by rw [hS] at hh; exact ⟨_, hh.heap h0 (by simp)⟩)
  have HSK := Lib.hid (fun (w' : World) (hh : S w') => show w'.cell? ⟨R + 1, 2, none⟩ = some (.int .u8 (kn : Int)) from by rw [hS] at hh; exact hh.cell (cell_lit h1 2 rfl) (by simp))
  have HSA := Lib.hid (fun (w' : World) (hh : S w') => show w'.cell? ⟨R + 1, 3, none⟩ = some (.int .u16 a) from by rw [hS] at hh; exact hh.cell (cell_lit h1 3 rfl) (by simp))
  have hcv := kv_cell h0 hk8
  have HLT := Lib.hid (fun (w' : World) (_ : S w') => show (kn : Int) < 8 from by omega)
  clear hS hcv
  go_enter Try.func56, Try.ntmps56
  go_wp2_with fail
  rw [← HRE.out, ← HWW.out]
  refine wp_region_noPanic ?_
  refine wp_region_held_drew (S := S) (by kernel_rfl) hSD (fun hHeld => ?_)
  apply wpAnyH_take (i := 0)
  · simp only [List.getElem?_toArray]; rfl
  · kernel_rfl
  · kernel_rfl
  · kernel_rfl
  · exact fun _ _ _ h => h
  · exact yields_loadK (by rfl) _ rfl R rfl _ _ HS0.out
  · assumption
  try simp only [Act.put, List.setIfInBounds_toArray, List.set_cons_zero, List.set_cons_succ]
  apply wpAnyH_take (i := 1)
  · simp only [List.getElem?_toArray]; rfl
  · kernel_rfl
  · kernel_rfl
  · kernel_rfl
  · exact fun _ _ _ h => h
  · exact Or.inl ⟨by rfl, by intro w hSw; go_simp; try with_reducible rfl⟩
  · assumption
  try simp only [Act.put, List.setIfInBounds_toArray, List.set_cons_zero, List.set_cons_succ]
  apply wpAnyH_take (i := 2)
  · simp only [List.getElem?_toArray]; rfl
  · kernel_rfl
  · kernel_rfl
  · kernel_rfl
  · exact fun _ _ _ h => h
  · exact Or.inl ⟨by rfl, by intro w hSw; have q0 := HSK.out w hSw; go_simp; try with_reducible rfl⟩
  · assumption
  try simp only [Act.put, List.setIfInBounds_toArray, List.set_cons_zero, List.set_cons_succ]
  apply wpAnyH_ready (rs := [3])
  · kernel_rfl
  · simp
  apply AllReadyH.cons (hs := AllReadyH.nil)
  · simp only [List.getElem?_toArray]; rfl
  intro K hK
  rw [if_pos (by rfl)]
  refine wp_call9 30 _ _ rfl [.agg (kvA (kvH m) (kvV m)), .int .u8 (kn : Int)] rfl Try.func30 (by kernel_rfl) (by kernel_rfl) ((HHAS.out W.drew).mono ?_)
  rintro e w1 ⟨rfl, hk1⟩
  refine ⟨_, rfl, ?_⟩
  rw [Int.toNat_natCast, HO.out]
  simp only [Option.isSome_none, Option.isSome_some]
  have HKW := Lib.hid (((Keeps.refl [] W).drew).trans hk1 (FSub.refl _ _))
  clear hk1
  refine hK.out _ _ ?_ (fun hHeld => ?_)
  · exact (by rw [HSE.out]; exact HKW.out)
  clear hK K
  try simp only [Act.put, List.setIfInBounds_toArray, List.set_cons_zero, List.set_cons_succ]
  apply wpAnyH_take (i := 4)
  · simp only [List.getElem?_toArray]; rfl
  · kernel_rfl
  · kernel_rfl
  · kernel_rfl
  · exact fun _ _ _ h => h
  · exact Or.inl ⟨by rfl, by intro w hSw; go_simp; try with_reducible rfl⟩
  · assumption
  try simp only [Act.put, List.setIfInBounds_toArray, List.set_cons_zero, List.set_cons_succ]
  apply wpAnyH_take (i := 5)
  · simp only [List.getElem?_toArray]; rfl
  · kernel_rfl
  · kernel_rfl
  · kernel_rfl
  · exact fun _ _ _ h => h
  · exact Or.inl ⟨by rfl, by intro w hSw; go_simp; try with_reducible rfl⟩
  · assumption
  try simp only [Act.put, List.setIfInBounds_toArray, List.set_cons_zero, List.set_cons_succ]
  apply wpAnyH_take (i := 6)
  · simp only [List.getElem?_toArray]; rfl
  · kernel_rfl
  · kernel_rfl
  · kernel_rfl
  · exact fun _ _ _ h => h
  · exact Or.inr ⟨by rfl, rfl⟩
  · assumption
  try simp only [Act.put, List.setIfInBounds_toArray, List.set_cons_zero, List.set_cons_succ]
  apply wpAnyH_take (i := 7)
  · simp only [List.getElem?_toArray]; rfl
  · kernel_rfl
  · kernel_rfl
  · kernel_rfl
  · exact fun _ _ _ h => h
  · exact Or.inr ⟨by rfl, rfl⟩
  · assumption
  try simp only [Act.put, List.setIfInBounds_toArray, List.set_cons_zero, List.set_cons_succ]
  apply wpAnyH_take (i := 8)
  · simp only [List.getElem?_toArray]; rfl
  · kernel_rfl
  · kernel_rfl
  · kernel_rfl
  · exact fun _ _ _ h => h
  · exact Or.inr ⟨by rfl, rfl⟩
  · assumption
  try simp only [Act.put, List.setIfInBounds_toArray, List.set_cons_zero, List.set_cons_succ]
  apply wpAnyH_take (i := 9)
  · simp only [List.getElem?_toArray]; rfl
  · kernel_rfl
  · kernel_rfl
  · kernel_rfl
  · exact fun _ _ _ h => h
  · exact Or.inr ⟨by rfl, rfl⟩
  · assumption
  try simp only [Act.put, List.setIfInBounds_toArray, List.set_cons_zero, List.set_cons_succ]
  apply wpAnyH_take (i := 10)
  · simp only [List.getElem?_toArray]; rfl
  · kernel_rfl
  · kernel_rfl
  · kernel_rfl
  · exact fun _ _ _ h => h
  · exact Or.inr ⟨by rfl, rfl⟩
  · assumption
  try simp only [Act.put, List.setIfInBounds_toArray, List.set_cons_zero, List.set_cons_succ]
  apply wpAnyH_take (i := 11)
  · simp only [List.getElem?_toArray]; rfl
  · kernel_rfl
  · kernel_rfl
  · kernel_rfl
  · exact fun _ _ _ h => h
  · exact Or.inr ⟨by rfl, rfl⟩
  · assumption
  try simp only [Act.put, List.setIfInBounds_toArray, List.set_cons_zero, List.set_cons_succ]
  apply wpAnyH_take (i := 12)
  · simp only [List.getElem?_toArray]; rfl
  · kernel_rfl
  · kernel_rfl
  · kernel_rfl
  · exact fun _ _ _ h => h
  · exact Or.inr ⟨by rfl, rfl⟩
  · assumption
  try simp only [Act.put, List.setIfInBounds_toArray, List.set_cons_zero, List.set_cons_succ]
  apply wpAnyH_take (i := 13)
  · simp only [List.getElem?_toArray]; rfl
  · kernel_rfl
  · kernel_rfl
  · kernel_rfl
  · exact fun _ _ _ h => h
  · exact Or.inr ⟨by rfl, rfl⟩
  · assumption
  try simp only [Act.put, List.setIfInBounds_toArray, List.set_cons_zero, List.set_cons_succ]
  apply wpAnyH_take (i := 14)
  · simp only [List.getElem?_toArray]; rfl
  · kernel_rfl
  · kernel_rfl
  · kernel_rfl
  · exact fun _ _ _ h => h
  · exact Or.inl ⟨by rfl, by intro w hSw; go_simp; try with_reducible rfl⟩
  · assumption
  try simp only [Act.put, List.setIfInBounds_toArray, List.set_cons_zero, List.set_cons_succ]
  refine wpAnyH_done (by kernel_rfl) ?_ _
  refine NoPanic.normal ?_
  have HB0 := Lib.hid (HKW.out.heap h0 (by simp)); have HB2 := Lib.hid (HKW.out.heap h2 (by simp)); have HB3 := Lib.hid (HKW.out.heap h3 (by simp))
  have hb1 := HKW.out.heap h1 (by simp)
  have c2 : w1.cell? ⟨R + 1, 2, none⟩ = some (.int .u8 (kn : Int)) := cell_lit hb1 2 rfl
  have c4 : w1.cell? ⟨R + 1, 4, none⟩ = some (.int .u16 b) := cell_lit hb1 4 rfl
  have HK1 := Lib.hid (HK0.out.trans HKW.out (FSub.refl _ _))
  clear h0 h1 h2 h3 hb1 HL0 HK0 HKW HHAS HS0 HSK HSA HLT
  go_wp2_with (first
    | ((with_reducible refine wpList_loadK (g := R) rfl ?_ HB0.out ?_); exact rfl)
    | ((with_reducible refine wpList_putK (g := R + 2) (h := kvH m) (vs := kvV m) ?_ ?_ HB2.out ?_); exact rfl; exact rfl))
  intro W2 hW2 hk2
  have HW2 := Lib.hid hW2
  have HA2 := Lib.hid (hk2.heap HB3.out (by simp))
  have HK2 := Lib.hid (HK1.out.trans hk2 (fun q hq => .inr (by have := HRE.out; simp at hq; omega)))
  clear hW2 hk2
  go_wp2_with ((with_reducible refine wpList_putN (g := R + 3) (old := ⟨0, 0⟩) ⟨4, 0⟩ ?_ ?_ HA2.out ?_); exact rfl; exact rfl)
  intro W3 hW3 hk3
  have HW3 := Lib.hid hW3
  have HS3 := Lib.hid (hk3.heap HW2.out (by simp))
  have HK3 := Lib.hid (HK2.out.trans hk3 (fun q hq => .inr (by have := HRE.out; simp at hq; omega)))
  clear hW3 hk3
  go_wp2_with fail
  try simp only [Exit.inBlock, Exit.then]
  exact bodyPost_ret (results_kv2 rfl _ _ (R + 2) (R + 3) ⟨4, 0⟩ rfl HS3.out rfl HW3.out) rfl ⟨rfl, HK3.out⟩
theorem kvSwap_ne (w : World) {m : Kv} (hm : KvIn m) (f o a b : Int) {kn : Nat} (hk8 : kn < 8) {v : Int} (ho : m.getD kn none = some v) (hne : v ≠ a) :
    Calls Try.prog 56 #[.agg (kvA (kvH m) (kvV m)), .agg #[.int .u8 f, .int .u8 o, .int .u8 (kn : Int), .int .u16 a, .int .u16 b]] w (KsPost w m ⟨4, 0⟩) := by
  have hval : (kvV m).getD kn 0 = v := by rw [kvV_getD (by rw [hm.len]; exact hk8), ho]; rfl
  obtain ⟨W, hW⟩ : ∃ W, W = (((w.alloc (.cells (kvA (kvH m) (kvV m)) 25)).alloc (.cells #[.int .u8 f, .int .u8 o, .int .u8 (kn : Int), .int .u16 a, .int .u16 b] 27)).alloc (.cells (kvA 0 []) 25)).alloc (.cells (ansC ⟨0, 0⟩).toArray 32) := ⟨_, rfl⟩
  obtain ⟨hk0, h0, h1, h2, h3, hz⟩ := vars_k w _ _ _ W hW
  simp only [show (ansC ⟨0, 0⟩).toArray = #[Value.int .u8 0, .int .u16 0] from rfl, show kvA 0 [] = #[Value.int .u8 0, .int .u16 0, .int .u16 0, .int .u16 0, .int .u16 0, .int .u16 0, .int .u16 0, .int .u16 0, .int .u16 0] from rfl] at hW
  have h0' := h0
  rw [hW] at h0'
  have HL0 := Lib.hid h0'
  obtain ⟨R, hR⟩ : ∃ R, R = w.heap.size := ⟨_, rfl⟩
  rw [← hR] at h0 h1 h2 h3 hz
  have HWW := Lib.hid hW; have HRE := Lib.hid hR; have HK0 := Lib.hid hk0
  have HZ := Lib.hid hz; have HO := Lib.hid ho
  have HHAS := Lib.hid (fun w => kvHas_kv w hm (key := (kn : Int)) (Int.natCast_nonneg _))
  clear h0' hW hR hk0 hz
  obtain ⟨S, hS⟩ : ∃ S : World → Prop, S = fun y => Keeps [] W y := ⟨_, rfl⟩
  have HSE := Lib.hid hS
  have hSD : S W.drew := by rw [hS]; exact (Keeps.refl _ _).drew
  have HS0 := Lib.hid (fun (w' : World) (hh : S w') => show ∃ t, w'.heap[R]? = some (.cells (kvA (kvH m) (kvV m)) t (0, 0)) from by rw [hS] at hh; exact ⟨_, hh.heap h0 (by simp)⟩)
  have HSK := Lib.hid (fun (w' : World) (hh : S w') => show w'.cell? ⟨R + 1, 2, none⟩ = some (.int .u8 (kn : Int)) from by rw [hS] at hh; exact hh.cell (cell_lit h1 2 rfl) (by simp))
  have HSA := Lib.hid (fun (w' : World) (hh : S w') => show w'.cell? ⟨R + 1, 3, none⟩ = some (.int .u16 a) from by rw [hS] at hh; exact hh.cell (cell_lit h1 3 rfl) (by simp))
  have hcv := kv_cell h0 hk8
  have HLT := Lib.hid (fun (w' : World) (_ : S w') => show (kn : Int) < 8 from by omega)
  rw [hval] at hcv
  have HSV := Lib.hid (fun (w' : World) (hh : S w') => show w'.cell? ⟨R, 1 + kn, none⟩ = some (.int .u16 v) from by rw [hS] at hh; exact hh.cell hcv (by simp))
  have HNE := Lib.hid (fun (w' : World) (_ : S w') => show (v != a) = true from by simpa using hne)
  clear hS hcv hval hne
  go_enter Try.func56, Try.ntmps56
  go_wp2_with fail
  rw [← HRE.out, ← HWW.out]
  refine wp_region_noPanic ?_
  refine wp_region_held_drew (S := S) (by kernel_rfl) hSD (fun hHeld => ?_)
  apply wpAnyH_take (i := 0)
  · simp only [List.getElem?_toArray]; rfl
  · kernel_rfl
  · kernel_rfl
  · kernel_rfl
  · exact fun _ _ _ h => h
  · exact yields_loadK (by rfl) _ rfl R rfl _ _ HS0.out
  · assumption
  try simp only [Act.put, List.setIfInBounds_toArray, List.set_cons_zero, List.set_cons_succ]
  apply wpAnyH_take (i := 1)
  · simp only [List.getElem?_toArray]; rfl
  · kernel_rfl
  · kernel_rfl
  · kernel_rfl
  · exact fun _ _ _ h => h
  · exact Or.inl ⟨by rfl, by intro w hSw; go_simp; try with_reducible rfl⟩
  · assumption
  try simp only [Act.put, List.setIfInBounds_toArray, List.set_cons_zero, List.set_cons_succ]
  apply wpAnyH_take (i := 2)
  · simp only [List.getElem?_toArray]; rfl
  · kernel_rfl
  · kernel_rfl
  · kernel_rfl
  · exact fun _ _ _ h => h
  · exact Or.inl ⟨by rfl, by intro w hSw; have q0 := HSK.out w hSw; go_simp; try with_reducible rfl⟩
  · assumption
  try simp only [Act.put, List.setIfInBounds_toArray, List.set_cons_zero, List.set_cons_succ]
  apply wpAnyH_ready (rs := [3])
  · kernel_rfl
  · simp
  apply AllReadyH.cons (hs := AllReadyH.nil)
  · simp only [List.getElem?_toArray]; rfl
  intro K hK
  rw [if_pos (by rfl)]
  refine wp_call9 30 _ _ rfl [.agg (kvA (kvH m) (kvV m)), .int .u8 (kn : Int)] rfl Try.func30 (by kernel_rfl) (by kernel_rfl) ((HHAS.out W.drew).mono ?_)
  rintro e w1 ⟨rfl, hk1⟩
  refine ⟨_, rfl, ?_⟩
  rw [Int.toNat_natCast, HO.out]
  simp only [Option.isSome_none, Option.isSome_some]
  have HKW := Lib.hid (((Keeps.refl [] W).drew).trans hk1 (FSub.refl _ _))
  clear hk1
  refine hK.out _ _ ?_ (fun hHeld => ?_)
  · exact (by rw [HSE.out]; exact HKW.out)
  clear hK K
  try simp only [Act.put, List.setIfInBounds_toArray, List.set_cons_zero, List.set_cons_succ]
  apply wpAnyH_take (i := 4)
  · simp only [List.getElem?_toArray]; rfl
  · kernel_rfl
  · kernel_rfl
  · kernel_rfl
  · exact fun _ _ _ h => h
  · exact Or.inl ⟨by rfl, by intro w hSw; go_simp; try with_reducible rfl⟩
  · assumption
  try simp only [Act.put, List.setIfInBounds_toArray, List.set_cons_zero, List.set_cons_succ]
  apply wpAnyH_take (i := 5)
  · simp only [List.getElem?_toArray]; rfl
  · kernel_rfl
  · kernel_rfl
  · kernel_rfl
  · exact fun _ _ _ h => h
  · exact Or.inl ⟨by rfl, by intro w hSw; go_simp; try with_reducible rfl⟩
  · assumption
  try simp only [Act.put, List.setIfInBounds_toArray, List.set_cons_zero, List.set_cons_succ]
  apply wpAnyH_take (i := 6)
  · simp only [List.getElem?_toArray]; rfl
  · kernel_rfl
  · kernel_rfl
  · kernel_rfl
  · exact fun _ _ _ h => h
  · exact Or.inl ⟨by rfl, by intro w hSw; go_simp; try with_reducible rfl⟩
  · assumption
  try simp only [Act.put, List.setIfInBounds_toArray, List.set_cons_zero, List.set_cons_succ]
  apply wpAnyH_take (i := 7)
  · simp only [List.getElem?_toArray]; rfl
  · kernel_rfl
  · kernel_rfl
  · kernel_rfl
  · exact fun _ _ _ h => h
  · exact Or.inl ⟨by rfl, by intro w hSw; have q0 := HSK.out w hSw; go_simp; try with_reducible rfl⟩
  · assumption
  try simp only [Act.put, List.setIfInBounds_toArray, List.set_cons_zero, List.set_cons_succ]
  apply wpAnyH_take (i := 8)
  · simp only [List.getElem?_toArray]; rfl
  · kernel_rfl
  · kernel_rfl
  · kernel_rfl
  · exact fun _ _ _ h => h
  · exact Or.inl ⟨by rfl, by intro w hSw; go_simp; try with_reducible rfl⟩
  · assumption
  try simp only [Act.put, List.setIfInBounds_toArray, List.set_cons_zero, List.set_cons_succ]
  apply wpAnyH_take (i := 9)
  · simp only [List.getElem?_toArray]; rfl
  · kernel_rfl
  · kernel_rfl
  · kernel_rfl
  · exact fun _ _ _ h => h
  · exact Or.inl ⟨by rfl, by intro w hSw; have q0 := HLT.out w hSw; go_simp; try with_reducible rfl⟩
  · assumption
  try simp only [Act.put, List.setIfInBounds_toArray, List.set_cons_zero, List.set_cons_succ]
  apply wpAnyH_take (i := 10)
  · simp only [List.getElem?_toArray]; rfl
  · kernel_rfl
  · kernel_rfl
  · kernel_rfl
  · exact fun _ _ _ h => h
  · exact Or.inl ⟨by rfl, by intro w hSw; have q0 := HSV.out w hSw; go_simp; try with_reducible rfl⟩
  · assumption
  try simp only [Act.put, List.setIfInBounds_toArray, List.set_cons_zero, List.set_cons_succ]
  apply wpAnyH_take (i := 11)
  · simp only [List.getElem?_toArray]; rfl
  · kernel_rfl
  · kernel_rfl
  · kernel_rfl
  · exact fun _ _ _ h => h
  · exact Or.inl ⟨by rfl, by intro w hSw; go_simp; try with_reducible rfl⟩
  · assumption
  try simp only [Act.put, List.setIfInBounds_toArray, List.set_cons_zero, List.set_cons_succ]
  apply wpAnyH_take (i := 12)
  · simp only [List.getElem?_toArray]; rfl
  · kernel_rfl
  · kernel_rfl
  · kernel_rfl
  · exact fun _ _ _ h => h
  · exact Or.inl ⟨by rfl, by intro w hSw; have q0 := HSA.out w hSw; go_simp; try with_reducible rfl⟩
  · assumption
  try simp only [Act.put, List.setIfInBounds_toArray, List.set_cons_zero, List.set_cons_succ]
  apply wpAnyH_take (i := 13)
  · simp only [List.getElem?_toArray]; rfl
  · kernel_rfl
  · kernel_rfl
  · kernel_rfl
  · exact fun _ _ _ h => h
  · exact Or.inl ⟨by rfl, by intro w hSw; have q0 := HNE.out w hSw; go_simp; try with_reducible rfl⟩
  · assumption
  try simp only [Act.put, List.setIfInBounds_toArray, List.set_cons_zero, List.set_cons_succ]
  apply wpAnyH_take (i := 14)
  · simp only [List.getElem?_toArray]; rfl
  · kernel_rfl
  · kernel_rfl
  · kernel_rfl
  · exact fun _ _ _ h => h
  · exact Or.inl ⟨by rfl, by intro w hSw; go_simp; try with_reducible rfl⟩
  · assumption
  try simp only [Act.put, List.setIfInBounds_toArray, List.set_cons_zero, List.set_cons_succ]
  refine wpAnyH_done (by kernel_rfl) ?_ _
  refine NoPanic.normal ?_
  have HB0 := Lib.hid (HKW.out.heap h0 (by simp)); have HB2 := Lib.hid (HKW.out.heap h2 (by simp)); have HB3 := Lib.hid (HKW.out.heap h3 (by simp))
  have hb1 := HKW.out.heap h1 (by simp)
  have c2 : w1.cell? ⟨R + 1, 2, none⟩ = some (.int .u8 (kn : Int)) := cell_lit hb1 2 rfl
  have c4 : w1.cell? ⟨R + 1, 4, none⟩ = some (.int .u16 b) := cell_lit hb1 4 rfl
  have HK1 := Lib.hid (HK0.out.trans HKW.out (FSub.refl _ _))
  clear h0 h1 h2 h3 hb1 HL0 HK0 HKW HHAS HS0 HSK HSA HLT
  go_wp2_with (first
    | ((with_reducible refine wpList_loadK (g := R) rfl ?_ HB0.out ?_); exact rfl)
    | ((with_reducible refine wpList_putK (g := R + 2) (h := kvH m) (vs := kvV m) ?_ ?_ HB2.out ?_); exact rfl; exact rfl))
  intro W2 hW2 hk2
  have HW2 := Lib.hid hW2
  have HA2 := Lib.hid (hk2.heap HB3.out (by simp))
  have HK2 := Lib.hid (HK1.out.trans hk2 (fun q hq => .inr (by have := HRE.out; simp at hq; omega)))
  clear hW2 hk2
  go_wp2_with ((with_reducible refine wpList_putN (g := R + 3) (old := ⟨0, 0⟩) ⟨4, 0⟩ ?_ ?_ HA2.out ?_); exact rfl; exact rfl)
  intro W3 hW3 hk3
  have HW3 := Lib.hid hW3
  have HS3 := Lib.hid (hk3.heap HW2.out (by simp))
  have HK3 := Lib.hid (HK2.out.trans hk3 (fun q hq => .inr (by have := HRE.out; simp at hq; omega)))
  clear hW3 hk3
  go_wp2_with fail
  try simp only [Exit.inBlock, Exit.then]
  exact bodyPost_ret (results_kv2 rfl _ _ (R + 2) (R + 3) ⟨4, 0⟩ rfl HS3.out rfl HW3.out) rfl ⟨rfl, HK3.out⟩
theorem kvSwap_eq (w : World) {m : Kv} (hm : KvIn m) (f o a b : Int) {kn : Nat} (hk8 : kn < 8) (ho : m.getD kn none = some a) :
    Calls Try.prog 56 #[.agg (kvA (kvH m) (kvV m)), .agg #[.int .u8 f, .int .u8 o, .int .u8 (kn : Int), .int .u16 a, .int .u16 b]] w (KsPost w (m.set kn (some b)) ⟨3, 0⟩) := by
  have hval : (kvV m).getD kn 0 = a := by rw [kvV_getD (by rw [hm.len]; exact hk8), ho]; rfl
  have HVS := Lib.hid (show kvV (m.set kn (some b)) = (kvV m).set kn b from kvV_set m kn (some b))
  have HVL := Lib.hid (show (kvV m).length = 8 by rw [kvV_len, hm.len]); have HK8 := Lib.hid hk8
  have HH2 := Lib.hid (show kvH (m.set kn (some b)) = kvH m from by
    have h := kvH_set m kn (by rw [hm.len]; exact hk8) (some b)
    rw [ho] at h
    simp at h
    exact h)
  obtain ⟨W, hW⟩ : ∃ W, W = (((w.alloc (.cells (kvA (kvH m) (kvV m)) 25)).alloc (.cells #[.int .u8 f, .int .u8 o, .int .u8 (kn : Int), .int .u16 a, .int .u16 b] 27)).alloc (.cells (kvA 0 []) 25)).alloc (.cells (ansC ⟨0, 0⟩).toArray 32) := ⟨_, rfl⟩
  obtain ⟨hk0, h0, h1, h2, h3, hz⟩ := vars_k w _ _ _ W hW
  simp only [show (ansC ⟨0, 0⟩).toArray = #[Value.int .u8 0, .int .u16 0] from rfl, show kvA 0 [] = #[Value.int .u8 0, .int .u16 0, .int .u16 0, .int .u16 0, .int .u16 0, .int .u16 0, .int .u16 0, .int .u16 0, .int .u16 0] from rfl] at hW
  have h0' := h0
  rw [hW] at h0'
  have HL0 := Lib.hid h0'
  obtain ⟨R, hR⟩ : ∃ R, R = w.heap.size := ⟨_, rfl⟩
  rw [← hR] at h0 h1 h2 h3 hz
  have HWW := Lib.hid hW; have HRE := Lib.hid hR; have HK0 := Lib.hid hk0
  have HZ := Lib.hid hz; have HO := Lib.hid ho
  have HHAS := Lib.hid (fun w => kvHas_kv w hm (key := (kn : Int)) (Int.natCast_nonneg _))
  clear h0' hW hR hk0 hz
  obtain ⟨S, hS⟩ : ∃ S : World → Prop, S = fun y => Keeps [] W y := ⟨_, rfl⟩
  have HSE := Lib.hid hS
  have hSD : S W.drew := by rw [hS]; exact (Keeps.refl _ _).drew
  have HS0 := Lib.hid (fun (w' : World) (hh : S w') => show ∃ t, w'.heap[R]? = some (.cells (kvA (kvH m) (kvV m)) t (0, 0)) from by rw [hS] at hh; exact ⟨_, hh.heap h0 (by simp)⟩)
  have HSK := Lib.hid (fun (w' : World) (hh : S w') => show w'.cell? ⟨R + 1, 2, none⟩ = some (.int .u8 (kn : Int)) from by rw [hS] at hh; exact hh.cell (cell_lit h1 2 rfl) (by simp))
  have HSA := Lib.hid (fun (w' : World) (hh : S w') => show w'.cell? ⟨R + 1, 3, none⟩ = some (.int .u16 a) from by rw [hS] at hh; exact hh.cell (cell_lit h1 3 rfl) (by simp))
  have hcv := kv_cell h0 hk8
  have HLT := Lib.hid (fun (w' : World) (_ : S w') => show (kn : Int) < 8 from by omega)
  rw [hval] at hcv
  have HSV := Lib.hid (fun (w' : World) (hh : S w') => show w'.cell? ⟨R, 1 + kn, none⟩ = some (.int .u16 a) from by rw [hS] at hh; exact hh.cell hcv (by simp))
  have HNE := Lib.hid (fun (w' : World) (_ : S w') => show (a != a) = false from by simp)
  clear hS hcv hval
  go_enter Try.func56, Try.ntmps56
  go_wp2_with fail
  rw [← HRE.out, ← HWW.out]
  refine wp_region_noPanic ?_
  refine wp_region_held_drew (S := S) (by kernel_rfl) hSD (fun hHeld => ?_)
  apply wpAnyH_take (i := 0)
  · simp only [List.getElem?_toArray]; rfl
  · kernel_rfl
  · kernel_rfl
  · kernel_rfl
  · exact fun _ _ _ h => h
  · exact yields_loadK (by rfl) _ rfl R rfl _ _ HS0.out
  · assumption
  try simp only [Act.put, List.setIfInBounds_toArray, List.set_cons_zero, List.set_cons_succ]
  apply wpAnyH_take (i := 1)
  · simp only [List.getElem?_toArray]; rfl
  · kernel_rfl
  · kernel_rfl
  · kernel_rfl
  · exact fun _ _ _ h => h
  · exact Or.inl ⟨by rfl, by intro w hSw; go_simp; try with_reducible rfl⟩
  · assumption
  try simp only [Act.put, List.setIfInBounds_toArray, List.set_cons_zero, List.set_cons_succ]
  apply wpAnyH_take (i := 2)
  · simp only [List.getElem?_toArray]; rfl
  · kernel_rfl
  · kernel_rfl
  · kernel_rfl
  · exact fun _ _ _ h => h
  · exact Or.inl ⟨by rfl, by intro w hSw; have q0 := HSK.out w hSw; go_simp; try with_reducible rfl⟩
  · assumption
  try simp only [Act.put, List.setIfInBounds_toArray, List.set_cons_zero, List.set_cons_succ]
  apply wpAnyH_ready (rs := [3])
  · kernel_rfl
  · simp
  apply AllReadyH.cons (hs := AllReadyH.nil)
  · simp only [List.getElem?_toArray]; rfl
  intro K hK
  rw [if_pos (by rfl)]
  refine wp_call9 30 _ _ rfl [.agg (kvA (kvH m) (kvV m)), .int .u8 (kn : Int)] rfl Try.func30 (by kernel_rfl) (by kernel_rfl) ((HHAS.out W.drew).mono ?_)
  rintro e w1 ⟨rfl, hk1⟩
  refine ⟨_, rfl, ?_⟩
  rw [Int.toNat_natCast, HO.out]
  simp only [Option.isSome_none, Option.isSome_some]
  have HKW := Lib.hid (((Keeps.refl [] W).drew).trans hk1 (FSub.refl _ _))
  clear hk1
  refine hK.out _ _ ?_ (fun hHeld => ?_)
  · exact (by rw [HSE.out]; exact HKW.out)
  clear hK K
  try simp only [Act.put, List.setIfInBounds_toArray, List.set_cons_zero, List.set_cons_succ]
  apply wpAnyH_take (i := 4)
  · simp only [List.getElem?_toArray]; rfl
  · kernel_rfl
  · kernel_rfl
  · kernel_rfl
  · exact fun _ _ _ h => h
  · exact Or.inl ⟨by rfl, by intro w hSw; go_simp; try with_reducible rfl⟩
  · assumption
  try simp only [Act.put, List.setIfInBounds_toArray, List.set_cons_zero, List.set_cons_succ]
  apply wpAnyH_take (i := 5)
  · simp only [List.getElem?_toArray]; rfl
  · kernel_rfl
  · kernel_rfl
  · kernel_rfl
  · exact fun _ _ _ h => h
  · exact Or.inl ⟨by rfl, by intro w hSw; go_simp; try with_reducible rfl⟩
  · assumption
  try simp only [Act.put, List.setIfInBounds_toArray, List.set_cons_zero, List.set_cons_succ]
  apply wpAnyH_take (i := 6)
  · simp only [List.getElem?_toArray]; rfl
  · kernel_rfl
  · kernel_rfl
  · kernel_rfl
  · exact fun _ _ _ h => h
  · exact Or.inl ⟨by rfl, by intro w hSw; go_simp; try with_reducible rfl⟩
  · assumption
  try simp only [Act.put, List.setIfInBounds_toArray, List.set_cons_zero, List.set_cons_succ]
  apply wpAnyH_take (i := 7)
  · simp only [List.getElem?_toArray]; rfl
  · kernel_rfl
  · kernel_rfl
  · kernel_rfl
  · exact fun _ _ _ h => h
  · exact Or.inl ⟨by rfl, by intro w hSw; have q0 := HSK.out w hSw; go_simp; try with_reducible rfl⟩
  · assumption
  try simp only [Act.put, List.setIfInBounds_toArray, List.set_cons_zero, List.set_cons_succ]
  apply wpAnyH_take (i := 8)
  · simp only [List.getElem?_toArray]; rfl
  · kernel_rfl
  · kernel_rfl
  · kernel_rfl
  · exact fun _ _ _ h => h
  · exact Or.inl ⟨by rfl, by intro w hSw; go_simp; try with_reducible rfl⟩
  · assumption
  try simp only [Act.put, List.setIfInBounds_toArray, List.set_cons_zero, List.set_cons_succ]
  apply wpAnyH_take (i := 9)
  · simp only [List.getElem?_toArray]; rfl
  · kernel_rfl
  · kernel_rfl
  · kernel_rfl
  · exact fun _ _ _ h => h
  · exact Or.inl ⟨by rfl, by intro w hSw; have q0 := HLT.out w hSw; go_simp; try with_reducible rfl⟩
  · assumption
  try simp only [Act.put, List.setIfInBounds_toArray, List.set_cons_zero, List.set_cons_succ]
  apply wpAnyH_take (i := 10)
  · simp only [List.getElem?_toArray]; rfl
  · kernel_rfl
  · kernel_rfl
  · kernel_rfl
  · exact fun _ _ _ h => h
  · exact Or.inl ⟨by rfl, by intro w hSw; have q0 := HSV.out w hSw; go_simp; try with_reducible rfl⟩
  · assumption
  try simp only [Act.put, List.setIfInBounds_toArray, List.set_cons_zero, List.set_cons_succ]
  apply wpAnyH_take (i := 11)
  · simp only [List.getElem?_toArray]; rfl
  · kernel_rfl
  · kernel_rfl
  · kernel_rfl
  · exact fun _ _ _ h => h
  · exact Or.inl ⟨by rfl, by intro w hSw; go_simp; try with_reducible rfl⟩
  · assumption
  try simp only [Act.put, List.setIfInBounds_toArray, List.set_cons_zero, List.set_cons_succ]
  apply wpAnyH_take (i := 12)
  · simp only [List.getElem?_toArray]; rfl
  · kernel_rfl
  · kernel_rfl
  · kernel_rfl
  · exact fun _ _ _ h => h
  · exact Or.inl ⟨by rfl, by intro w hSw; have q0 := HSA.out w hSw; go_simp; try with_reducible rfl⟩
  · assumption
  try simp only [Act.put, List.setIfInBounds_toArray, List.set_cons_zero, List.set_cons_succ]
  apply wpAnyH_take (i := 13)
  · simp only [List.getElem?_toArray]; rfl
  · kernel_rfl
  · kernel_rfl
  · kernel_rfl
  · exact fun _ _ _ h => h
  · exact Or.inl ⟨by rfl, by intro w hSw; have q0 := HNE.out w hSw; go_simp; try with_reducible rfl⟩
  · assumption
  try simp only [Act.put, List.setIfInBounds_toArray, List.set_cons_zero, List.set_cons_succ]
  apply wpAnyH_take (i := 14)
  · simp only [List.getElem?_toArray]; rfl
  · kernel_rfl
  · kernel_rfl
  · kernel_rfl
  · exact fun _ _ _ h => h
  · exact Or.inl ⟨by rfl, by intro w hSw; go_simp; try with_reducible rfl⟩
  · assumption
  try simp only [Act.put, List.setIfInBounds_toArray, List.set_cons_zero, List.set_cons_succ]
  refine wpAnyH_done (by kernel_rfl) ?_ _
  refine NoPanic.normal ?_
  have HB0 := Lib.hid (HKW.out.heap h0 (by simp)); have HB2 := Lib.hid (HKW.out.heap h2 (by simp)); have HB3 := Lib.hid (HKW.out.heap h3 (by simp))
  have hb1 := HKW.out.heap h1 (by simp)
  have c2 : w1.cell? ⟨R + 1, 2, none⟩ = some (.int .u8 (kn : Int)) := cell_lit hb1 2 rfl
  have c4 : w1.cell? ⟨R + 1, 4, none⟩ = some (.int .u16 b) := cell_lit hb1 4 rfl
  have HK1 := Lib.hid (HK0.out.trans HKW.out (FSub.refl _ _))
  clear h0 h1 h2 h3 hb1 HL0 HK0 HKW HHAS HS0 HSK HSA HLT
  have hlt : (kn : Int) < 8 := by omega
  go_wp2_with ((with_reducible refine wpList_putKv (g := R) (k := kn) (v := b) HVL.out HK8.out ?_ ?_ HB0.out ?_); exact rfl; exact rfl)
  intro w3 hb0 hk3
  have hb2 := hk3.heap HB2.out (by simp)
  have hb3 := hk3.heap HB3.out (by simp)
  have hkn := HK1.out.trans hk3 (fun q hq => .inr (by have := HRE.out; simp at hq; omega))
  rw [← HVS.out] at hb0
  clear HB0 HB2 HB3 HK1 c2 c4 hk3
  have HB0 := Lib.hid hb0; have HB2 := Lib.hid hb2; have HB3 := Lib.hid hb3; have HK1 := Lib.hid hkn
  clear hb0 hb2 hb3 hkn
  go_wp2_with (first
    | ((with_reducible refine wpList_loadK (g := R) rfl ?_ HB0.out ?_); exact rfl)
    | ((with_reducible refine wpList_putK (g := R + 2) (h := (kvH m : Int)) (vs := (kvV (m.set kn (some b)))) ?_ ?_ HB2.out ?_); exact rfl; exact rfl))
  intro W2 hW2 hk2
  have HW2 := Lib.hid hW2
  have HA2 := Lib.hid (hk2.heap HB3.out (by simp))
  have HK2 := Lib.hid (HK1.out.trans hk2 (fun q hq => .inr (by have := HRE.out; simp at hq; omega)))
  clear hW2 hk2
  go_wp2_with ((with_reducible refine wpList_putN (g := R + 3) (old := ⟨0, 0⟩) ⟨3, 0⟩ ?_ ?_ HA2.out ?_); exact rfl; exact rfl)
  intro W3 hW3 hk3
  have HW3 := Lib.hid hW3
  have HS3 := Lib.hid (hk3.heap HW2.out (by simp))
  have HK3 := Lib.hid (HK2.out.trans hk3 (fun q hq => .inr (by have := HRE.out; simp at hq; omega)))
  clear hW3 hk3
  go_wp2_with fail
  try simp only [Exit.inBlock, Exit.then]
  exact bodyPost_ret (results_kv2 rfl _ _ (R + 2) (R + 3) ⟨3, 0⟩ rfl HS3.out rfl HW3.out) rfl ⟨(by unfold kvVal; rw [HH2.out]), HK3.out⟩
end Go.Proofs.Ytnmpekbkahkapaa
