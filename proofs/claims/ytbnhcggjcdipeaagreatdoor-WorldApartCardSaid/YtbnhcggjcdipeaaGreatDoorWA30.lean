/-
  The program's objects: what the function values of a register's and a lock's kind do.
-/
import Derived.Test.YtbnhcggjcdipeaaGreatDoorWA00
import Derived.Test.YtbnhcggjcdipeaaGreatDoorWA27
import Derived.Test.YtbnhcggjcdipeaaGreatDoorWA29
import Derived.Test.YtbnhcggjcdipeaaGreatDoorWA17
import Derived.Test.YtbnhcggjcdipeaaGreatDoorWA24
import Derived.Test.YtbnhcggjcdipeaaGreatDoorWA08
import Derived.Test.YtbnhcggjcdipeaaGreatDoorWA07
import Derived.Test.YtbnhcggjcdipeaaGreatDoorWA09
import Derived.Test.YtbnhcggjcdipeaaGreatDoorWA23
import Derived.Test.YtbnhcggjcdipeaaGreatDoorWA25
set_option linter.unusedSimpArgs false
set_option linter.unusedVariables false
namespace Go.Proofs.YtbnhcggjcdipeaaGreatDoor
open Go.RowKit
set_option maxRecDepth 100000
theorem run_assert {t T : TypeId} {fs : Array Field} (hu : Tryz.prog.underlying T = some (.struct fs)) (v : Value) (w : World) : (Instr.typeAssert (.iface T v) t T false).run Tryz.prog w = .ok v w := by
  simp [Instr.typeAssert, run_underlying hu, go_sem, Result.andThen]
theorem run_isAgg {T : TypeId} {d : TypeDesc} (hd : Tryz.prog.underlying T = some d) (w : World) : (isAgg T).run Tryz.prog w = .ok d.isRow w := by
  cases d <;> simp [isAgg, run_underlying hd, go_sem, Result.andThen, TypeDesc.isRow]
theorem run_part1 {T : TypeId} {cs : Array Value} {k : Nat} {v : Value} {d : TypeDesc} (hd : Tryz.prog.underlying T = some d) (hr : d.isRow = false) (hv : cs[k]? = some v) (w : World) : (part T cs k).run Tryz.prog w = .ok v w := by
  unfold part
  simp only [Sem.run_bind, run_isAgg hd, hr, Result.andThen, hv]
  simp [go_sem]
theorem run_partN {T : TypeId} {cs : Array Value} {k n : Nat} {d : TypeDesc} (hd : Tryz.prog.underlying T = some d) (hr : d.isRow = true) (hn : (Tryz.prog.info? T).map (·.size) = some n) (w : World) : (part T cs k).run Tryz.prog w = .ok (.agg (cs.extract k (k + n))) w := by
  cases hq : Tryz.prog.info? T with
  | none => simp [hq] at hn
  | some i =>
    have hs : i.size = n := by simpa [hq] using hn
    unfold part
    simp only [Sem.run_bind, run_isAgg hd, hr, Result.andThen]
    simp [go_sem, sizeOf, typeInfo, hq, hs, Result.andThen]
theorem run_field {T : TypeId} {fs : Array Field} {f : Field} {cs : Array Value} {i : Nat} (hu : Tryz.prog.underlying T = some (.struct fs)) (hf : fs[i]? = some f) (w : World) : (Instr.field T (.agg cs) i).run Tryz.prog w = (part f.type cs f.offset).run Tryz.prog w := by
  unfold Instr.field
  simp [run_underlying hu, hf, asAgg, go_sem, Result.andThen]
theorem fldR (s : Int) (w : World) : (Instr.field 226 (.agg #[.int .u8 0, .int .u16 s]) 1).run Tryz.prog w = .ok (.int .u16 s) w := (run_field Tryz.underlying226 rfl w).trans (run_part1 Tryz.underlying172 rfl rfl w)
theorem fldL (s : Int) (w : World) : (Instr.field 265 (.agg #[.int .u8 3, .int .u8 s]) 1).run Tryz.prog w = .ok (.int .u8 s) w := (run_field Tryz.underlying265 rfl w).trans (run_part1 Tryz.underlying208 rfl rfl w)
theorem fldQ (v : Value) (w : World) : (Instr.field 237 (.agg #[.int .u8 1, v]) 1).run Tryz.prog w = .ok (.agg #[v]) w := (run_field Tryz.underlying237 rfl w).trans ((run_partN (n := 1) (k := 1) (cs := #[.int .u8 1, v]) Tryz.underlying184 rfl (by kernel_rfl) w).trans (by simp))
/-- What a function value that makes a text of a state must tell. -/
def StrV (w : World) (f : Nat × Array Value) (v : Value) (b : ByteArray) : Prop := ∀ w', Keeps [] w w' → CallsV w' (fv f) [v] fun z w2 => z = .returned (.string b) ∧ Keeps [] w' w2
/-- What a step of a state must tell. -/
def StV (w : World) (f : Nat × Array Value) (v : Value) (c : Int) (x : Opn) (r : Ans) (P : World → World → Value → Prop) : Prop := ∀ w', Keeps [] w w' → CallsV w' (fv f) [v, .int .u8 c, x.val] fun z w2 => ∃ v', z = .returned (.tuple #[v', .agg (ansC r).toArray, .int .i64 0]) ∧ P w' w2 v' ∧ Keeps [] w' w2
set_option maxHeartbeats 8000000
theorem mdStrR1_any (w : World) (p : Nat) (f : Nat × Array Value) (hp : w.cell? ⟨p, 0, none⟩ = some (fv f)) (s : Int) {b : ByteArray} (hf : StrV w f (.int .u16 s) b) : Calls Tryz.prog 141 #[obR s, ptr p] w fun e w' => e = .returned (.string b) ∧ Keeps [] w w' := by
  obtain ⟨S0, hS0⟩ : ∃ S0 : World → Prop, S0 = fun y => Keeps [] w y := ⟨_, rfl⟩
  have HSE := Lib.hid hS0
  have hSD : S0 w.drew := by rw [hS0]; exact (Keeps.refl _ _).drew
  have HP := Lib.hid (fun (w' : World) (hh : S0 w') => show w'.cell? ⟨p, 0, none⟩ = some (fv f) from by rw [hS0] at hh; exact hh.cell hp (by simp))
  clear hS0
  have HF := Lib.hid hf
  clear hf hp
  unfold obR
  have hA := fun (v : Value) (w : World) => run_assert (t := 28) Tryz.underlying226 v w
  have hFD := fldR
  go_enter Tryz.func141, Tryz.ntmps141
  go_wp2_with fail
  refine wp_region_noPanic ?_
  refine wp_region_held_drew (S := S0) (by kernel_rfl) hSD (fun hHeld => ?_)
  refine tk 0 (y := by exact Or.inl ⟨by rfl, by intro w hSw; have q0 := HP.out w hSw; go_simp; try with_reducible rfl⟩) (h := ?_)
  refine tw 1 (h := ?_)
  refine tw 2 (h := ?_)
  refine tw 3 (h := ?_)
  refine rp 4 (h := fun K hK => ?_)
  refine wp_callC _ _ _ rfl rfl _ rfl ((HF.out _ ((Keeps.refl [] w).drew)).mono ?_)
  rintro e w1 ⟨rfl, hk⟩
  refine ⟨_, rfl, ?_⟩
  have HK := Lib.hid ((Keeps.refl [] w).drew.trans hk (FSub.refl _ _))
  clear hk
  refine hK.out _ _ (by rw [HSE.out]; exact HK.out) (fun hHeld => ?_); clear hK K; try simp only [Act.put, lsA, lsZ, lsS]
  refine tw 5 (h := ?_)
  refine wpAnyH_done (by kernel_rfl) ?_ _
  refine NoPanic.normal ?_
  go_wp2_with fail
  go_ret
  exact ⟨rfl, HK.out⟩
theorem mdStrL1_any (w : World) (p : Nat) (f : Nat × Array Value) (hp : w.cell? ⟨p, 0, none⟩ = some (fv f)) (s : Int) {b : ByteArray} (hf : StrV w f (.int .u8 s) b) : Calls Tryz.prog 170 #[obL s, ptr p] w fun e w' => e = .returned (.string b) ∧ Keeps [] w w' := by
  obtain ⟨S0, hS0⟩ : ∃ S0 : World → Prop, S0 = fun y => Keeps [] w y := ⟨_, rfl⟩
  have HSE := Lib.hid hS0
  have hSD : S0 w.drew := by rw [hS0]; exact (Keeps.refl _ _).drew
  have HP := Lib.hid (fun (w' : World) (hh : S0 w') => show w'.cell? ⟨p, 0, none⟩ = some (fv f) from by rw [hS0] at hh; exact hh.cell hp (by simp))
  clear hS0
  have HF := Lib.hid hf
  clear hf hp
  unfold obL
  have hA := fun (v : Value) (w : World) => run_assert (t := 28) Tryz.underlying265 v w
  have hFD := fldL
  go_enter Tryz.func170, Tryz.ntmps170
  go_wp2_with fail
  refine wp_region_noPanic ?_
  refine wp_region_held_drew (S := S0) (by kernel_rfl) hSD (fun hHeld => ?_)
  refine tk 0 (y := by exact Or.inl ⟨by rfl, by intro w hSw; have q0 := HP.out w hSw; go_simp; try with_reducible rfl⟩) (h := ?_)
  refine tw 1 (h := ?_)
  refine tw 2 (h := ?_)
  refine tw 3 (h := ?_)
  refine rp 4 (h := fun K hK => ?_)
  refine wp_callC _ _ _ rfl rfl _ rfl ((HF.out _ ((Keeps.refl [] w).drew)).mono ?_)
  rintro e w1 ⟨rfl, hk⟩
  refine ⟨_, rfl, ?_⟩
  have HK := Lib.hid ((Keeps.refl [] w).drew.trans hk (FSub.refl _ _))
  clear hk
  refine hK.out _ _ (by rw [HSE.out]; exact HK.out) (fun hHeld => ?_); clear hK K; try simp only [Act.put, lsA, lsZ, lsS]
  refine tw 5 (h := ?_)
  refine wpAnyH_done (by kernel_rfl) ?_ _
  refine NoPanic.normal ?_
  go_wp2_with fail
  go_ret
  exact ⟨rfl, HK.out⟩
theorem mdInitR1_any (w : World) (p q : Nat) (hp : w.cell? ⟨p, 0, none⟩ = some (.int .u8 0)) (hq : w.cell? ⟨q, 0, none⟩ = some (fnV 88)) : Calls Tryz.prog 137 #[ptr p, ptr q] w fun e w' => e = .returned (obR 0) ∧ Keeps [] w w' := by
  obtain ⟨S0, hS0⟩ : ∃ S0 : World → Prop, S0 = fun y => Keeps [] w y := ⟨_, rfl⟩
  have HSE := Lib.hid hS0
  have hSD : S0 w.drew := by rw [hS0]; exact (Keeps.refl _ _).drew
  have HP := Lib.hid (fun (w' : World) (hh : S0 w') => show w'.cell? ⟨p, 0, none⟩ = some (.int .u8 0) from by rw [hS0] at hh; exact hh.cell hp (by simp))
  have HQ := Lib.hid (fun (w' : World) (hh : S0 w') => show w'.cell? ⟨q, 0, none⟩ = some (.func (.func 88) #[] #[]) from by rw [hS0] at hh; exact hh.cell hq (by simp))
  clear hS0
  go_enter Tryz.func137, Tryz.ntmps137
  go_wp2_with fail
  refine wp_region_noPanic ?_
  refine wp_region_held_drew (S := S0) (by kernel_rfl) hSD (fun hHeld => ?_)
  refine tk 0 (y := by exact Or.inl ⟨by rfl, by intro w hSw; have q0 := HP.out w hSw; go_simp; try with_reducible rfl⟩) (h := ?_)
  refine tk 1 (y := by exact Or.inl ⟨by rfl, by intro w hSw; have q0 := HQ.out w hSw; go_simp; try with_reducible rfl⟩) (h := ?_)
  refine rp 2 (h := fun K hK => ?_)
  refine wp_callC _ _ _ rfl rfl [] rfl ⟨88, _, rfl, ⟨_, Tryz.func88, by kernel_rfl, by kernel_rfl⟩, ?_⟩
  refine (rgNew_any _).mono ?_; rintro e w1 ⟨rfl, hk⟩
  refine ⟨_, rfl, ?_⟩
  have HK := Lib.hid ((Keeps.refl [] w).drew.trans (show Keeps [] _ w1 from by first | exact hk | (subst hk; exact Keeps.refl _ _)) (FSub.refl _ _))
  clear hk
  refine hK.out _ _ (by rw [HSE.out]; exact HK.out) (fun hHeld => ?_); clear hK K; try simp only [Act.put, lsA, lsZ, lsS]
  refine tw 3 (h := ?_)
  refine tw 4 (h := ?_)
  refine tw 5 (h := ?_)
  refine wpAnyH_done (by kernel_rfl) ?_ _
  refine NoPanic.normal ?_
  go_wp2_with fail
  go_ret
  exact ⟨rfl, HK.out⟩
theorem mdInitL1_any (w : World) (p q : Nat) (hp : w.cell? ⟨p, 0, none⟩ = some (.int .u8 3)) (hq : w.cell? ⟨q, 0, none⟩ = some (fnV 121)) : Calls Tryz.prog 166 #[ptr p, ptr q] w fun e w' => e = .returned (obL 0) ∧ Keeps [] w w' := by
  obtain ⟨S0, hS0⟩ : ∃ S0 : World → Prop, S0 = fun y => Keeps [] w y := ⟨_, rfl⟩
  have HSE := Lib.hid hS0
  have hSD : S0 w.drew := by rw [hS0]; exact (Keeps.refl _ _).drew
  have HP := Lib.hid (fun (w' : World) (hh : S0 w') => show w'.cell? ⟨p, 0, none⟩ = some (.int .u8 3) from by rw [hS0] at hh; exact hh.cell hp (by simp))
  have HQ := Lib.hid (fun (w' : World) (hh : S0 w') => show w'.cell? ⟨q, 0, none⟩ = some (.func (.func 121) #[] #[]) from by rw [hS0] at hh; exact hh.cell hq (by simp))
  clear hS0
  go_enter Tryz.func166, Tryz.ntmps166
  go_wp2_with fail
  refine wp_region_noPanic ?_
  refine wp_region_held_drew (S := S0) (by kernel_rfl) hSD (fun hHeld => ?_)
  refine tk 0 (y := by exact Or.inl ⟨by rfl, by intro w hSw; have q0 := HP.out w hSw; go_simp; try with_reducible rfl⟩) (h := ?_)
  refine tk 1 (y := by exact Or.inl ⟨by rfl, by intro w hSw; have q0 := HQ.out w hSw; go_simp; try with_reducible rfl⟩) (h := ?_)
  refine rp 2 (h := fun K hK => ?_)
  refine wp_callC _ _ _ rfl rfl [] rfl ⟨121, _, rfl, ⟨_, Tryz.func121, by kernel_rfl, by kernel_rfl⟩, ?_⟩
  refine (lkNew_any _).mono ?_; rintro e w1 ⟨rfl, hk⟩
  refine ⟨_, rfl, ?_⟩
  have HK := Lib.hid ((Keeps.refl [] w).drew.trans (show Keeps [] _ w1 from by first | exact hk | (subst hk; exact Keeps.refl _ _)) (FSub.refl _ _))
  clear hk
  refine hK.out _ _ (by rw [HSE.out]; exact HK.out) (fun hHeld => ?_); clear hK K; try simp only [Act.put, lsA, lsZ, lsS]
  refine tw 3 (h := ?_)
  refine tw 4 (h := ?_)
  refine tw 5 (h := ?_)
  refine wpAnyH_done (by kernel_rfl) ?_ _
  refine NoPanic.normal ?_
  go_wp2_with fail
  go_ret
  exact ⟨rfl, HK.out⟩
theorem mdAnyR1_any (w : World) (p : Nat) (hp : w.cell? ⟨p, 0, none⟩ = some (fnV 91)) (s c : Int) (x : Opn) (hx : x.In) : Calls Tryz.prog 139 #[.int .u16 s, .int .u8 c, x.val, ptr p] w fun e w' =>
    e = .returned (.tuple #[.int .u16 (rgX s x).1, .agg (ansC (rgX s x).2.1).toArray, .int .i64 (rgX s x).2.2]) ∧ Keeps [] w w' := by
  obtain ⟨e1, h0, h1, hk⟩ := two_vars w #[.int .u8 x.f, .int .u8 x.o, .int .u8 x.k, .int .u16 x.a, .int .u16 x.b] #[.int .u8 0, .int .u16 0] 47 25
  have hp2 := hk.cell hp (by simp)
  unfold fnV at hp2
  have HS := Lib.hid (fun w => rgStep_any w s x hx)
  have H1 := Lib.hid h1; have H0 := Lib.hid h0; have HK := Lib.hid hk
  clear h0 h1 hk hp e1 hx
  generalize (rgX s x).1 = s1 at *
  generalize (rgX s x).2.1 = r at *
  generalize (rgX s x).2.2 = z at *
  unfold Opn.val at *
  go_enter Tryz.func139, Tryz.ntmps139
  go_wp2_with fail
  refine (HS.out _).mono ?_; rintro e w1 ⟨rfl, hk1⟩
  have HB1 := Lib.hid (show w1.heap[w.heap.size + 1]? = some (.cells (ansC ⟨0, 0⟩).toArray 25 (0, 0)) from hk1.heap H1.out (by simp))
  have HK1 := Lib.hid (HK.out.trans hk1 (FSub.refl _ _))
  clear hk1 hp2 HK H0 H1
  go_wp2_with ((with_reducible refine wpList_putR12 (g := w.heap.size + 1) (old := ⟨0, 0⟩) r ?_ ?_ HB1.out ?_); exact rfl; exact rfl)
  intro W hW hkW
  have HW := Lib.hid hW; have HKW := Lib.hid hkW
  clear hW hkW
  go_wp2_with fail
  exact bodyPost_ret (results_ans rfl _ _ (w.heap.size + 1) r rfl HW.out) rfl ⟨rfl, HK1.out.trans HKW.out (fun q hq => .inr (by simp at hq; omega))⟩
theorem mdStR1_any (w : World) (p : Nat) (f : Nat × Array Value) (hp : w.cell? ⟨p, 0, none⟩ = some (fv f)) (s s' : Int) (c : Int) (x : Opn) (r : Ans) (hf : StV w f (.int .u16 s) c x r (fun _ _ v => v = .int .u16 s')) :
    Calls Tryz.prog 138 #[obR s, .int .u8 c, x.val, ptr p] w fun e w' => e = .returned (.tuple #[obR s', .agg (ansC r).toArray, .int .i64 0]) ∧ Keeps [] w w' := by
  obtain ⟨e1, h0, h1, hk⟩ := two_vars w #[.int .u8 x.f, .int .u8 x.o, .int .u8 x.k, .int .u16 x.a, .int .u16 x.b] #[.int .u8 0, .int .u16 0] 47 25
  have H1 := Lib.hid (show _ = some (Obj.cells (ansC ⟨0, 0⟩).toArray 25 (0, 0)) from h1); have HK := Lib.hid hk
  have hp2 := (hk.alloc (.cells #[.int .u8 0, .int .u16 s] 226)).cell hp (by simp)
  have HF := Lib.hid hf
  have HZ := Lib.hid (show w.heap.size < ((w.alloc (.cells #[.int .u8 x.f, .int .u8 x.o, .int .u8 x.k, .int .u16 x.a, .int .u16 x.b] 47)).alloc (.cells #[.int .u8 0, .int .u16 0] 25)).heap.size from Nat.lt_trans (Nat.lt_succ_self _) (lt_of_block h1))
  clear h0 h1 hk hp hf
  unfold obR Opn.val at *
  have hA := fun (v : Value) (w : World) => run_assert (t := 28) Tryz.underlying226 v w
  go_enter Tryz.func138, Tryz.ntmps138
  go_wp2_with ((with_reducible refine wpList_callC (f := fv f) [.int .u16 s, .int .u8 c, x.val] ?_ ?_ ?_); exact rfl; exact rfl)
  refine (HF.out _ (HK.out.alloc _)).mono ?_
  rintro e wa ⟨v, rfl, rfl, hk⟩
  refine ⟨_, rfl, ?_⟩
  have HK1 := Lib.hid ((HK.out.alloc (.cells #[.int .u8 0, .int .u16 s] 226)).trans hk (FSub.refl _ _))
  have HB1 := Lib.hid (hk.heap (((Keeps.refl [] _).alloc (.cells #[.int .u8 0, .int .u16 s] 226)).heap H1.out (by simp)) (by simp))
  have HB3 := Lib.hid (show wa.heap[w.heap.size + 1 + 1]? = some (.cells #[.int .u8 0, .int .u16 s] 226 (0, 0)) from hk.heap (by have h := heap_alloc_new ((w.alloc (.cells #[.int .u8 x.f, .int .u8 x.o, .int .u8 x.k, .int .u16 x.a, .int .u16 x.b] 47)).alloc (.cells #[.int .u8 0, .int .u16 0] 25)) (.cells #[.int .u8 0, .int .u16 s] 226); rwa [show ∀ (W : World) (o : Obj), (W.alloc o).heap.size = W.heap.size + 1 from fun _ _ => Array.size_push _, e1] at h) (by simp))
  clear hk hp2 H1 HK HZ e1
  have HC4 := Lib.hid (show (wa.alloc (.cells #[.int .u8 0, .int .u16 0] 25)).heap[wa.heap.size]? = some (.cells (ansC ⟨0, 0⟩).toArray 25 (0, 0)) from heap_alloc_new wa _)
  have HK4 := Lib.hid (show Keeps [] wa (wa.alloc (.cells #[.int .u8 0, .int .u16 0] 25)) from (Keeps.refl _ _).alloc _)
  have HL1 := Lib.hid (lt_of_block HB1.out); have HL3 := Lib.hid (lt_of_block HB3.out)
  go_wp2_with ((with_reducible refine wpList_putR12 (g := wa.heap.size) (old := ⟨0, 0⟩) r ?_ ?_ HC4.out ?_); exact rfl; exact rfl)
  intro W5 hW5 hk5
  have HC5 := Lib.hid hW5
  have HB5 := Lib.hid (hk5.heap (HK4.out.heap HB1.out (by simp)) (by have := HL1.out; simp; omega))
  have HB6 := Lib.hid (hk5.heap (HK4.out.heap HB3.out (by simp)) (by have := HL3.out; simp; omega))
  have HK5 := Lib.hid ((HK1.out.trans HK4.out (FSub.refl _ _)).trans hk5 (fun q hq => .inr (by have := HK1.out.size; simp at hq; omega)))
  clear hW5 hk5 HK4 HC4 HB1 HB3 HK1 HF hA
  generalize wa.heap.size = g at *
  go_wp2_with fail
  obtain ⟨S0, hS0⟩ : ∃ S0 : World → Prop, S0 = fun y => Keeps [w.heap.size + 1] W5 y := ⟨_, rfl⟩
  have HSE := Lib.hid hS0
  have hSD : S0 W5.drew := by rw [hS0]; exact ((Keeps.refl [] _).drew).more (by simp)
  have HS0 := Lib.hid (fun (w' : World) (hh : S0 w') => show w'.cell? ⟨w.heap.size + 1 + 1, 0, none⟩ = some (.int .u8 0) from by rw [hS0] at hh; exact hh.cell (cell_lit HB6.out 0 rfl) (by simp))
  have HSC := Lib.hid (fun (w' : World) (hh : S0 w') => show w'.rangeAt g 0 (ansC r) from by rw [hS0] at hh; exact fun j v hv => hh.cell (block_range HC5.out j v hv) (by have := HL1.out; simp; omega))
  clear hS0
  refine wp_region_noPanic ?_
  refine wp_region_held_drew (S := S0) (by kernel_rfl) hSD (fun hHeld => ?_)
  refine tw 0 (h := ?_)
  refine tk 1 (y := by exact Or.inl ⟨by rfl, by intro w hSw; have q0 := HS0.out w hSw; go_simp; try with_reducible rfl⟩) (h := ?_)
  refine tw 2 (h := ?_)
  refine tw 3 (h := ?_)
  refine tw 4 (h := ?_)
  refine tk 5 (y := by exact yields_ansC (by rfl) _ rfl g 0 rfl r HSC.out) (h := ?_)
  refine tw 6 (h := ?_)
  refine tw 7 (h := ?_)
  refine rp 8 (h := fun K hK => ?_)
  refine wp_putN rfl (g := w.heap.size + 1) (old := ⟨0, 0⟩) r rfl rfl (((Keeps.refl [] W5).drew).heap HB5.out (by simp)) (fun W6 hW6 hk6 => ?_)
  have HW6 := Lib.hid hW6
  have HK6 := Lib.hid ((((Keeps.refl [] W5).drew).more (G := [w.heap.size + 1]) (by simp)).trans hk6 (FSub.refl _ _))
  clear hW6 hk6
  refine hK.out _ _ (by rw [HSE.out]; exact HK6.out) (fun hHeld => ?_); clear hK K; try simp only [Act.put, lsA, lsZ, lsS]
  refine tw 9 (h := ?_)
  refine wpAnyH_done (by kernel_rfl) ?_ _
  refine NoPanic.normal ?_
  go_wp2_with fail
  try simp only [Exit.inBlock, Exit.then]
  exact bodyPost_ret (results_ans rfl _ _ (w.heap.size + 1) r rfl HW6.out) rfl ⟨rfl, HK5.out.trans HK6.out (fun q hq => .inr (by simp at hq; omega))⟩
theorem mdStL1_any (w : World) (p : Nat) (f : Nat × Array Value) (hp : w.cell? ⟨p, 0, none⟩ = some (fv f)) (s s' : Int) (c : Int) (x : Opn) (r : Ans) (hf : StV w f (.int .u8 s) c x r (fun _ _ v => v = .int .u8 s')) :
    Calls Tryz.prog 167 #[obL s, .int .u8 c, x.val, ptr p] w fun e w' => e = .returned (.tuple #[obL s', .agg (ansC r).toArray, .int .i64 0]) ∧ Keeps [] w w' := by
  obtain ⟨e1, h0, h1, hk⟩ := two_vars w #[.int .u8 x.f, .int .u8 x.o, .int .u8 x.k, .int .u16 x.a, .int .u16 x.b] #[.int .u8 0, .int .u16 0] 47 25
  have H1 := Lib.hid (show _ = some (Obj.cells (ansC ⟨0, 0⟩).toArray 25 (0, 0)) from h1); have HK := Lib.hid hk
  have hp2 := (hk.alloc (.cells #[.int .u8 3, .int .u8 s] 265)).cell hp (by simp)
  have HF := Lib.hid hf
  have HZ := Lib.hid (show w.heap.size < ((w.alloc (.cells #[.int .u8 x.f, .int .u8 x.o, .int .u8 x.k, .int .u16 x.a, .int .u16 x.b] 47)).alloc (.cells #[.int .u8 0, .int .u16 0] 25)).heap.size from Nat.lt_trans (Nat.lt_succ_self _) (lt_of_block h1))
  clear h0 h1 hk hp hf
  unfold obL Opn.val at *
  have hA := fun (v : Value) (w : World) => run_assert (t := 28) Tryz.underlying265 v w
  go_enter Tryz.func167, Tryz.ntmps167
  go_wp2_with ((with_reducible refine wpList_callC (f := fv f) [.int .u8 s, .int .u8 c, x.val] ?_ ?_ ?_); exact rfl; exact rfl)
  refine (HF.out _ (HK.out.alloc _)).mono ?_
  rintro e wa ⟨v, rfl, rfl, hk⟩
  refine ⟨_, rfl, ?_⟩
  have HK1 := Lib.hid ((HK.out.alloc (.cells #[.int .u8 3, .int .u8 s] 265)).trans hk (FSub.refl _ _))
  have HB1 := Lib.hid (hk.heap (((Keeps.refl [] _).alloc (.cells #[.int .u8 3, .int .u8 s] 265)).heap H1.out (by simp)) (by simp))
  have HB3 := Lib.hid (show wa.heap[w.heap.size + 1 + 1]? = some (.cells #[.int .u8 3, .int .u8 s] 265 (0, 0)) from hk.heap (by have h := heap_alloc_new ((w.alloc (.cells #[.int .u8 x.f, .int .u8 x.o, .int .u8 x.k, .int .u16 x.a, .int .u16 x.b] 47)).alloc (.cells #[.int .u8 0, .int .u16 0] 25)) (.cells #[.int .u8 3, .int .u8 s] 265); rwa [show ∀ (W : World) (o : Obj), (W.alloc o).heap.size = W.heap.size + 1 from fun _ _ => Array.size_push _, e1] at h) (by simp))
  clear hk hp2 H1 HK HZ e1
  have HC4 := Lib.hid (show (wa.alloc (.cells #[.int .u8 0, .int .u16 0] 25)).heap[wa.heap.size]? = some (.cells (ansC ⟨0, 0⟩).toArray 25 (0, 0)) from heap_alloc_new wa _)
  have HK4 := Lib.hid (show Keeps [] wa (wa.alloc (.cells #[.int .u8 0, .int .u16 0] 25)) from (Keeps.refl _ _).alloc _)
  have HL1 := Lib.hid (lt_of_block HB1.out); have HL3 := Lib.hid (lt_of_block HB3.out)
  go_wp2_with ((with_reducible refine wpList_putR12 (g := wa.heap.size) (old := ⟨0, 0⟩) r ?_ ?_ HC4.out ?_); exact rfl; exact rfl)
  intro W5 hW5 hk5
  have HC5 := Lib.hid hW5
  have HB5 := Lib.hid (hk5.heap (HK4.out.heap HB1.out (by simp)) (by have := HL1.out; simp; omega))
  have HB6 := Lib.hid (hk5.heap (HK4.out.heap HB3.out (by simp)) (by have := HL3.out; simp; omega))
  have HK5 := Lib.hid ((HK1.out.trans HK4.out (FSub.refl _ _)).trans hk5 (fun q hq => .inr (by have := HK1.out.size; simp at hq; omega)))
  clear hW5 hk5 HK4 HC4 HB1 HB3 HK1 HF hA
  generalize wa.heap.size = g at *
  go_wp2_with fail
  obtain ⟨S0, hS0⟩ : ∃ S0 : World → Prop, S0 = fun y => Keeps [w.heap.size + 1] W5 y := ⟨_, rfl⟩
  have HSE := Lib.hid hS0
  have hSD : S0 W5.drew := by rw [hS0]; exact ((Keeps.refl [] _).drew).more (by simp)
  have HS0 := Lib.hid (fun (w' : World) (hh : S0 w') => show w'.cell? ⟨w.heap.size + 1 + 1, 0, none⟩ = some (.int .u8 3) from by rw [hS0] at hh; exact hh.cell (cell_lit HB6.out 0 rfl) (by simp))
  have HSC := Lib.hid (fun (w' : World) (hh : S0 w') => show w'.rangeAt g 0 (ansC r) from by rw [hS0] at hh; exact fun j v hv => hh.cell (block_range HC5.out j v hv) (by have := HL1.out; simp; omega))
  clear hS0
  refine wp_region_noPanic ?_
  refine wp_region_held_drew (S := S0) (by kernel_rfl) hSD (fun hHeld => ?_)
  refine tw 0 (h := ?_)
  refine tk 1 (y := by exact Or.inl ⟨by rfl, by intro w hSw; have q0 := HS0.out w hSw; go_simp; try with_reducible rfl⟩) (h := ?_)
  refine tw 2 (h := ?_)
  refine tw 3 (h := ?_)
  refine tw 4 (h := ?_)
  refine tk 5 (y := by exact yields_ansC (by rfl) _ rfl g 0 rfl r HSC.out) (h := ?_)
  refine tw 6 (h := ?_)
  refine tw 7 (h := ?_)
  refine rp 8 (h := fun K hK => ?_)
  refine wp_putN rfl (g := w.heap.size + 1) (old := ⟨0, 0⟩) r rfl rfl (((Keeps.refl [] W5).drew).heap HB5.out (by simp)) (fun W6 hW6 hk6 => ?_)
  have HW6 := Lib.hid hW6
  have HK6 := Lib.hid ((((Keeps.refl [] W5).drew).more (G := [w.heap.size + 1]) (by simp)).trans hk6 (FSub.refl _ _))
  clear hW6 hk6
  refine hK.out _ _ (by rw [HSE.out]; exact HK6.out) (fun hHeld => ?_); clear hK K; try simp only [Act.put, lsA, lsZ, lsS]
  refine tw 9 (h := ?_)
  refine wpAnyH_done (by kernel_rfl) ?_ _
  refine NoPanic.normal ?_
  go_wp2_with fail
  try simp only [Exit.inBlock, Exit.then]
  exact bodyPost_ret (results_ans rfl _ _ (w.heap.size + 1) r rfl HW6.out) rfl ⟨rfl, HK5.out.trans HK6.out (fun q hq => .inr (by simp at hq; omega))⟩
end Go.Proofs.YtbnhcggjcdipeaaGreatDoor
/-
  The program's objects: what the function values of a queue's kind do.
-/
namespace Go.Proofs.YtbnhcggjcdipeaaGreatDoor
open Go.RowKit
set_option maxRecDepth 100000
def skQ : SK := { T := 184, s := 1, d := _, und := Tryz.underlying184, row := rfl, size := by kernel_rfl }
theorem skQ_ok (a : Option Addr) (n c : Nat) : skQ.Ok [.slice a n c] := ⟨rfl, fun v hv => by simp at hv; subst hv; rfl⟩
section
variable {ops : Array Oper} {rest : List Oper} {a : Act} {w : World} {Q : Exit → Act → World → Prop}
theorem wpList_putS10 {dst : Option Tmp} {ty : TypeId} {pos : String} {after : Array Edge} {x y : Operand} {g : Nat} {old A : List Value} (hA : skQ.Ok A) (hO : skQ.Ok old) {t : TypeId}
    (hx : a.eval x = .pointer (some ⟨g, 0, none⟩)) (hy : a.eval y = .agg A.toArray) (hg : w.heap[g]? = some (.cells old.toArray t (0, 0)))
    (h : ∀ W, W.heap[g]? = some (.cells A.toArray t (0, 0)) → Keeps [g] w W → wpList Tryz.prog ops Q rest (a.put dst undef) W) :
    wpList Tryz.prog ops Q ({ dst := dst, op := .store 184 x y, type := ty, pos := pos, after := after, guard := none } :: rest) a w := skQ.wpList_put hA hO hx hy hg h
end
set_option maxHeartbeats 8000000
theorem mdStrQ1_any (w : World) (p : Nat) (f : Nat × Array Value) (hp : w.cell? ⟨p, 0, none⟩ = some (fv f)) (v : Value) {b : ByteArray} (hf : StrV w f (.agg #[v]) b) : Calls Tryz.prog 149 #[obQ v, ptr p] w fun e w' => e = .returned (.string b) ∧ Keeps [] w w' := by
  obtain ⟨S0, hS0⟩ : ∃ S0 : World → Prop, S0 = fun y => Keeps [] w y := ⟨_, rfl⟩
  have HSE := Lib.hid hS0
  have hSD : S0 w.drew := by rw [hS0]; exact (Keeps.refl _ _).drew
  have HP := Lib.hid (fun (w' : World) (hh : S0 w') => show w'.cell? ⟨p, 0, none⟩ = some (fv f) from by rw [hS0] at hh; exact hh.cell hp (by simp))
  clear hS0
  have HF := Lib.hid hf
  clear hf hp
  unfold obQ
  have hA := fun (v : Value) (w : World) => run_assert (t := 28) Tryz.underlying237 v w
  have hFD := fldQ
  go_enter Tryz.func149, Tryz.ntmps149
  go_wp2_with fail
  refine wp_region_noPanic ?_
  refine wp_region_held_drew (S := S0) (by kernel_rfl) hSD (fun hHeld => ?_)
  refine tk 0 (y := by exact Or.inl ⟨by rfl, by intro w hSw; have q0 := HP.out w hSw; go_simp; try with_reducible rfl⟩) (h := ?_)
  refine tw 1 (h := ?_)
  refine tw 2 (h := ?_)
  refine tw 3 (h := ?_)
  refine rp 4 (h := fun K hK => ?_)
  refine wp_callC _ _ _ rfl rfl _ rfl ((HF.out _ ((Keeps.refl [] w).drew)).mono ?_)
  rintro e w1 ⟨rfl, hk⟩
  refine ⟨_, rfl, ?_⟩
  have HK := Lib.hid ((Keeps.refl [] w).drew.trans hk (FSub.refl _ _))
  clear hk
  refine hK.out _ _ (by rw [HSE.out]; exact HK.out) (fun hHeld => ?_); clear hK K; try simp only [Act.put, lsA, lsZ, lsS]
  refine tw 5 (h := ?_)
  refine wpAnyH_done (by kernel_rfl) ?_ _
  refine NoPanic.normal ?_
  go_wp2_with fail
  go_ret
  exact ⟨rfl, HK.out⟩
theorem mdInitQ1_any (w : World) (p q : Nat) (hp : w.cell? ⟨p, 0, none⟩ = some (.int .u8 1)) (hq : w.cell? ⟨q, 0, none⟩ = some (fnV 99)) : Calls Tryz.prog 144 #[ptr p, ptr q] w fun e w' => e = .returned (obQ (.slice none 0 0)) ∧ Keeps [] w w' := by
  obtain ⟨S0, hS0⟩ : ∃ S0 : World → Prop, S0 = fun y => Keeps [] w y := ⟨_, rfl⟩
  have HSE := Lib.hid hS0
  have hSD : S0 w.drew := by rw [hS0]; exact (Keeps.refl _ _).drew
  have HP := Lib.hid (fun (w' : World) (hh : S0 w') => show w'.cell? ⟨p, 0, none⟩ = some (.int .u8 1) from by rw [hS0] at hh; exact hh.cell hp (by simp))
  have HQ := Lib.hid (fun (w' : World) (hh : S0 w') => show w'.cell? ⟨q, 0, none⟩ = some (.func (.func 99) #[] #[]) from by rw [hS0] at hh; exact hh.cell hq (by simp))
  clear hS0
  go_enter Tryz.func144, Tryz.ntmps144
  go_wp2_with fail
  refine wp_region_noPanic ?_
  refine wp_region_held_drew (S := S0) (by kernel_rfl) hSD (fun hHeld => ?_)
  refine tk 0 (y := by exact Or.inl ⟨by rfl, by intro w hSw; have q0 := HP.out w hSw; go_simp; try with_reducible rfl⟩) (h := ?_)
  refine tk 1 (y := by exact Or.inl ⟨by rfl, by intro w hSw; have q0 := HQ.out w hSw; go_simp; try with_reducible rfl⟩) (h := ?_)
  refine rp 2 (h := fun K hK => ?_)
  refine wp_callC _ _ _ rfl rfl [] rfl ⟨99, _, rfl, ⟨_, Tryz.func99, by kernel_rfl, by kernel_rfl⟩, ?_⟩
  refine (quNew_any _).mono ?_; rintro e w1 ⟨rfl, hk⟩
  refine ⟨_, rfl, ?_⟩
  have HK := Lib.hid ((Keeps.refl [] w).drew.trans (show Keeps [] _ w1 from by first | exact hk | (subst hk; exact Keeps.refl _ _)) (FSub.refl _ _))
  clear hk
  refine hK.out _ _ (by rw [HSE.out]; exact HK.out) (fun hHeld => ?_); clear hK K; try simp only [Act.put, lsA, lsZ, lsS]
  refine tw 3 (h := ?_)
  refine tw 4 (h := ?_)
  refine tw 5 (h := ?_)
  refine wpAnyH_done (by kernel_rfl) ?_ _
  refine NoPanic.normal ?_
  go_wp2_with fail
  go_ret
  exact ⟨rfl, HK.out⟩
/-- What is told of a state behind a step, in memory: it is kept. -/
def KeptP (B : Nat) (P : World → World → Value → Prop) : Prop := ∀ w' w2 w3 (F : List Nat) v, P w' w2 v → (∀ g ∈ F, B ≤ g ∧ g < w'.heap.size) → Keeps F w2 w3 → P w' w3 v
theorem mdAnyQ1_any (w : World) (p : Nat) (hp : w.cell? ⟨p, 0, none⟩ = some (fnV 102)) (a : Option Addr) (n cp : Nat) (c : Int) (x : Opn) (r : Ans) {P : World → World → Value → Prop} (hP : KeptP w.heap.size P)
    (hf : ∀ w', Keeps [] w w' → Calls Tryz.prog 102 #[.agg #[.slice a n cp], x.val] w' fun z w2 => ∃ a' n' cp', z = .returned (.tuple #[.agg #[.slice a' n' cp'], .agg (ansC r).toArray, .int .i64 0]) ∧ P w' w2 (.agg #[.slice a' n' cp']) ∧ Keeps [] w' w2) :
    Calls Tryz.prog 146 #[.agg #[.slice a n cp], .int .u8 c, x.val, ptr p] w fun e w2 => ∃ a' n' cp' w', e = .returned (.tuple #[.agg #[.slice a' n' cp'], .agg (ansC r).toArray, .int .i64 0]) ∧ w.heap.size ≤ w'.heap.size ∧ P w' w2 (.agg #[.slice a' n' cp']) ∧ Keeps [] w w2 := by
  obtain ⟨W, hW⟩ : ∃ W, W = (((w.alloc (.cells #[.slice a n cp] 184)).alloc (.cells #[.int .u8 x.f, .int .u8 x.o, .int .u8 x.k, .int .u16 x.a, .int .u16 x.b] 47)).alloc (.cells #[.slice none 0 0] 184)).alloc (.cells (ansC ⟨0, 0⟩).toArray 25) := ⟨_, rfl⟩
  obtain ⟨hk0, h0, h1, h2, h3, hz⟩ := vars_q w (.slice a n cp) _ W _ _ hW
  simp only [show (ansC ⟨0, 0⟩).toArray = #[Value.int .u8 0, .int .u16 0] from rfl] at hW
  have hp2 := hk0.cell hp (by simp)
  unfold fnV at hp2
  subst hW
  have HF := Lib.hid hf; have HP := Lib.hid hP; have HK := Lib.hid hk0; have H2 := Lib.hid h2; have H3 := Lib.hid h3; have HSZ := Lib.hid hz
  clear hf hP hp hk0 h0 h1 h2 h3 hz
  unfold Opn.val at *
  go_enter Tryz.func146, Tryz.ntmps146
  go_wp2_with fail
  refine (HF.out _ HK.out).mono ?_; rintro e w1 ⟨a', n', cp', rfl, hp1, hk1⟩
  have HP1 := Lib.hid hp1
  have HB2 := Lib.hid (hk1.heap H2.out (by simp))
  have HB3 := Lib.hid (hk1.heap H3.out (by simp))
  have HK1 := Lib.hid (HK.out.trans hk1 (FSub.refl _ _))
  have HZ1 := Lib.hid (lt_of_block H2.out)
  clear hk1 hp2 hp1 HK H2 H3
  generalize ((((w.alloc (.cells #[.slice a n cp] 184)).alloc (.cells #[.int .u8 x.f, .int .u8 x.o, .int .u8 x.k, .int .u16 x.a, .int .u16 x.b] 47)).alloc (.cells #[.slice none 0 0] 184)).alloc (.cells #[.int .u8 0, .int .u16 0] 25)) = W at *
  go_wp2_with ((with_reducible refine wpList_putS10 (g := w.heap.size + 1 + 1) (A := [.slice a' n' cp']) (old := [.slice none 0 0]) (skQ_ok _ _ _) (skQ_ok _ _ _) ?_ ?_ HB2.out ?_); exact rfl; exact rfl)
  intro W5 hW5 hk5
  have HC5 := Lib.hid hW5
  have HD5 := Lib.hid (hk5.heap HB3.out (by simp))
  have HP5 := Lib.hid (HP.out _ _ _ _ _ HP1.out (fun g hg => by simp at hg; have := HSZ.out; omega) hk5)
  have HK5 := Lib.hid (HK1.out.trans hk5 (fun q hq => .inr (by simp at hq; omega)))
  clear hW5 hk5 HK1 HP1 HB2 HB3
  go_wp2_with ((with_reducible refine wpList_putR12 (g := w.heap.size + 1 + 1 + 1) (old := ⟨0, 0⟩) r ?_ ?_ HD5.out ?_); exact rfl; exact rfl)
  intro W6 hW6 hk6
  have HC6 := Lib.hid (hk6.heap HC5.out (by simp))
  have HD6 := Lib.hid hW6
  have HP6 := Lib.hid (HP.out _ _ _ _ _ HP5.out (fun g hg => by simp at hg; have := HSZ.out; omega) hk6)
  have HK6 := Lib.hid (HK5.out.trans hk6 (fun q hq => .inr (by simp at hq; omega)))
  clear hW6 hk6 HK5 HP5 HC5 HD5
  go_wp2_with fail
  try simp only [Exit.inBlock, Exit.then]
  exact bodyPost_ret (results_st3 rfl _ _ (w.heap.size + 1 + 1) (w.heap.size + 1 + 1 + 1) r rfl HC6.out rfl HD6.out) rfl ⟨_, _, _, _, rfl, by have := HSZ.out; omega, HP6.out, HK6.out⟩
theorem mdStQ1_any (w : World) (p : Nat) (f : Nat × Array Value) (hp : w.cell? ⟨p, 0, none⟩ = some (fv f)) (a : Option Addr) (n cp : Nat) (c : Int) (x : Opn) (r : Ans) {P : World → World → Value → Prop} (hP : KeptP w.heap.size P)
    (hf : ∀ w', Keeps [] w w' → CallsV w' (fv f) [.agg #[.slice a n cp], .int .u8 c, x.val] fun z w2 => ∃ a' n' cp' wb, z = .returned (.tuple #[.agg #[.slice a' n' cp'], .agg (ansC r).toArray, .int .i64 0]) ∧ w'.heap.size ≤ wb.heap.size ∧ P wb w2 (.agg #[.slice a' n' cp']) ∧ Keeps [] w' w2) :
    Calls Tryz.prog 145 #[obQ (.slice a n cp), .int .u8 c, x.val, ptr p] w fun e w2 => ∃ a' n' cp' wb, e = .returned (.tuple #[obQ (.slice a' n' cp'), .agg (ansC r).toArray, .int .i64 0]) ∧ w.heap.size ≤ wb.heap.size ∧ P wb w2 (.agg #[.slice a' n' cp']) ∧ Keeps [] w w2 := by
  obtain ⟨e1, h0, h1, hk⟩ := two_vars w #[.int .u8 x.f, .int .u8 x.o, .int .u8 x.k, .int .u16 x.a, .int .u16 x.b] #[.int .u8 0, .int .u16 0] 47 25
  have H1 := Lib.hid (show _ = some (Obj.cells (ansC ⟨0, 0⟩).toArray 25 (0, 0)) from h1); have HK := Lib.hid hk
  have hp2 := (hk.alloc (.cells #[.int .u8 1, .slice a n cp] 237)).cell hp (by simp)
  have HF := Lib.hid hf; have HP := Lib.hid hP
  clear h0 h1 hk hp hf hP
  unfold obQ Opn.val at *
  have hA := fun (v : Value) (w : World) => run_assert (t := 28) Tryz.underlying237 v w
  go_enter Tryz.func145, Tryz.ntmps145
  go_wp2_with ((with_reducible refine wpList_callC (f := fv f) [.agg #[.slice a n cp], .int .u8 c, x.val] ?_ ?_ ?_); exact rfl; exact rfl)
  refine (HF.out _ (HK.out.alloc _)).mono ?_
  rintro e wa ⟨a', n', cp', wb, rfl, hz, hpa, hk⟩
  refine ⟨_, rfl, ?_⟩
  have HPA := Lib.hid hpa
  have HK1 := Lib.hid ((HK.out.alloc (.cells #[.int .u8 1, .slice a n cp] 237)).trans hk (FSub.refl _ _))
  have HB1 := Lib.hid (hk.heap (((Keeps.refl [] _).alloc (.cells #[.int .u8 1, .slice a n cp] 237)).heap H1.out (by simp)) (by simp))
  have HB3 := Lib.hid (show wa.heap[w.heap.size + 1 + 1]? = some (.cells #[.int .u8 1, .slice a n cp] 237 (0, 0)) from hk.heap (by have h := heap_alloc_new ((w.alloc (.cells #[.int .u8 x.f, .int .u8 x.o, .int .u8 x.k, .int .u16 x.a, .int .u16 x.b] 47)).alloc (.cells #[.int .u8 0, .int .u16 0] 25)) (.cells #[.int .u8 1, .slice a n cp] 237); rwa [show ∀ (W : World) (o : Obj), (W.alloc o).heap.size = W.heap.size + 1 from fun _ _ => Array.size_push _, e1] at h) (by simp))
  have HZ := Lib.hid (show w.heap.size + 3 ≤ wb.heap.size from by simp only [show ∀ (W : World) (o : Obj), (W.alloc o).heap.size = W.heap.size + 1 from fun _ _ => Array.size_push _] at hz; omega)
  clear hk hp2 H1 HK e1 hz hpa
  obtain ⟨e1, h0, h1, hk4⟩ := two_vars wa #[.slice none 0 0] #[.int .u8 0, .int .u16 0] 184 25
  have HC4 := Lib.hid (show _ = some (Obj.cells (ansC ⟨0, 0⟩).toArray 25 (0, 0)) from h1)
  have HD4 := Lib.hid (show _ = some (Obj.cells [Value.slice none 0 0].toArray 184 (0, 0)) from h0)
  have HK4 := Lib.hid hk4
  have HL1 := Lib.hid (lt_of_block HB1.out); have HL3 := Lib.hid (lt_of_block HB3.out)
  clear h0 h1 hk4 e1
  go_wp2_with ((with_reducible refine wpList_putS10 (g := wa.heap.size) (A := [.slice a' n' cp']) (old := [.slice none 0 0]) (skQ_ok _ _ _) (skQ_ok _ _ _) ?_ ?_ HD4.out ?_); exact rfl; exact rfl)
  intro W4 hW4 hk4
  have HD5 := Lib.hid hW4
  have HC5 := Lib.hid (hk4.heap HC4.out (by simp))
  have HK5 := Lib.hid (HK4.out.trans' hk4 (Nat.le_refl _))
  clear hW4 hk4 HK4 HC4 HD4
  go_wp2_with ((with_reducible refine wpList_putR12 (g := wa.heap.size + 1) (old := ⟨0, 0⟩) r ?_ ?_ HC5.out ?_); exact rfl; exact rfl)
  intro W5 hW5 hk5
  have HC6 := Lib.hid hW5
  have HD6 := Lib.hid (hk5.heap HD5.out (by simp))
  have HK6 := Lib.hid (HK5.out.trans' hk5 (by omega))
  clear hW5 hk5 HK5 HC5 HD5
  have HB5 := Lib.hid (HK6.out.heap HB1.out (by simp))
  have HB6 := Lib.hid (HK6.out.heap HB3.out (by simp))
  have HP6 := Lib.hid (HP.out _ _ _ [] _ HPA.out (by simp) HK6.out)
  have HK7 := Lib.hid (HK1.out.trans HK6.out (FSub.refl _ _))
  clear HK6 HPA HB1 HB3 HK1 HF hA
  generalize wa.heap.size = g at *
  go_wp2_with fail
  obtain ⟨S0, hS0⟩ : ∃ S0 : World → Prop, S0 = fun y => Keeps [w.heap.size + 1] W5 y := ⟨_, rfl⟩
  have HSE := Lib.hid hS0
  have hSD : S0 W5.drew := by rw [hS0]; exact ((Keeps.refl [] _).drew).more (by simp)
  have HS0 := Lib.hid (fun (w' : World) (hh : S0 w') => show w'.cell? ⟨w.heap.size + 1 + 1, 0, none⟩ = some (.int .u8 1) from by rw [hS0] at hh; exact hh.cell (cell_lit HB6.out 0 rfl) (by simp))
  have HSC := Lib.hid (fun (w' : World) (hh : S0 w') => show w'.rangeAt (g + 1) 0 (ansC r) from by rw [hS0] at hh; exact fun j v hv => hh.cell (block_range HC6.out j v hv) (by have := HL1.out; simp; omega))
  have HSQ := Lib.hid (fun (w' : World) (hh : S0 w') => show w'.rangeAt g 0 [.slice a' n' cp'] from by rw [hS0] at hh; exact fun j v hv => hh.cell (block_range HD6.out j v hv) (by have := HL1.out; simp; omega))
  clear hS0
  refine wp_region_noPanic ?_
  refine wp_region_held_drew (S := S0) (by kernel_rfl) hSD (fun hHeld => ?_)
  refine tw 0 (h := ?_)
  refine tk 1 (y := by exact Or.inl ⟨by rfl, by intro w hSw; have q0 := HS0.out w hSw; go_simp; try with_reducible rfl⟩) (h := ?_)
  refine tk 2 (y := by exact skQ.yields (skQ_ok _ _ _) (by rfl) _ rfl g 0 rfl HSQ.out) (h := ?_)
  refine tw 3 (h := ?_)
  refine tw 4 (h := ?_)
  refine tk 5 (y := by exact yields_ansC (by rfl) _ rfl (g + 1) 0 rfl r HSC.out) (h := ?_)
  refine tw 6 (h := ?_)
  refine tw 7 (h := ?_)
  refine rp 8 (h := fun K hK => ?_)
  refine wp_putN rfl (g := w.heap.size + 1) (old := ⟨0, 0⟩) r rfl rfl (((Keeps.refl [] W5).drew).heap HB5.out (by simp)) (fun W6 hW6 hk6 => ?_)
  have HW6 := Lib.hid hW6
  have HQ6 := Lib.hid ((((Keeps.refl [] W5).drew).more (G := [w.heap.size + 1]) (by simp)).trans hk6 (FSub.refl _ _))
  clear hW6 hk6
  refine hK.out _ _ (by rw [HSE.out]; exact HQ6.out) (fun hHeld => ?_); clear hK K; try simp only [Act.put, lsA, lsZ, lsS]
  refine tw 9 (h := ?_)
  refine wpAnyH_done (by kernel_rfl) ?_ _
  refine NoPanic.normal ?_
  go_wp2_with fail
  try simp only [Exit.inBlock, Exit.then]
  exact bodyPost_ret (results_ans rfl _ _ (w.heap.size + 1) r rfl HW6.out) rfl ⟨_, _, _, _, rfl, by have := HZ.out; omega, HP.out _ _ _ _ _ HP6.out (fun q hq => by simp at hq; have := HZ.out; omega) HQ6.out, HK7.out.trans HQ6.out (fun q hq => .inr (by simp at hq; omega))⟩
end Go.Proofs.YtbnhcggjcdipeaaGreatDoor
/-
  The program's objects: what the function values of a key map's kind do.
-/
namespace Go.Proofs.YtbnhcggjcdipeaaGreatDoor
open Go.RowKit
set_option maxRecDepth 100000
def skV : SK := { T := 197, s := 9, d := _, und := Tryz.underlying197, row := rfl, size := by kernel_rfl }
theorem skV_ok (z0 a0 a1 a2 a3 a4 a5 a6 a7 : Int) : skV.Ok [.int .u8 z0, .int .u16 a0, .int .u16 a1, .int .u16 a2, .int .u16 a3, .int .u16 a4, .int .u16 a5, .int .u16 a6, .int .u16 a7] := ⟨rfl, fun v hv => by simp at hv; rcases hv with rfl | rfl | rfl | rfl | rfl | rfl | rfl | rfl | rfl <;> rfl⟩
section
variable {ops : Array Oper} {rest : List Oper} {a : Act} {w : World} {Q : Exit → Act → World → Prop}
theorem wpList_loadV11 {dst : Option Tmp} {ty : TypeId} {pos : String} {after : Array Edge} {gd : Option (Nat × Bool)} {x : Operand} {g off : Nat} {A : List Value} (hA : skV.Ok A)
    (hw : Region.wanted { dst := dst, op := .load 197 x, type := ty, pos := pos, after := after, guard := gd } (yielded ops a.tmps) = true)
    (hx : a.eval x = .pointer (some ⟨g, off, none⟩)) (hr : w.rangeAt g off A) (h : wpList Tryz.prog ops Q rest (a.put dst (.agg A.toArray)) w) :
    wpList Tryz.prog ops Q ({ dst := dst, op := .load 197 x, type := ty, pos := pos, after := after, guard := gd } :: rest) a w := skV.wpList_load hA hw hx hr h
theorem wpList_putV11 {dst : Option Tmp} {ty : TypeId} {pos : String} {after : Array Edge} {x y : Operand} {g : Nat} {old A : List Value} (hA : skV.Ok A) (hO : skV.Ok old) {t : TypeId}
    (hx : a.eval x = .pointer (some ⟨g, 0, none⟩)) (hy : a.eval y = .agg A.toArray) (hg : w.heap[g]? = some (.cells old.toArray t (0, 0)))
    (h : ∀ W, W.heap[g]? = some (.cells A.toArray t (0, 0)) → Keeps [g] w W → wpList Tryz.prog ops Q rest (a.put dst undef) W) :
    wpList Tryz.prog ops Q ({ dst := dst, op := .store 197 x y, type := ty, pos := pos, after := after, guard := none } :: rest) a w := skV.wpList_put hA hO hx hy hg h
end
theorem vars4 (w : World) (A B C D : Array Value) (t1 t2 t3 t4 : TypeId) (W : World) (hW : W = (((w.alloc (.cells A t1)).alloc (.cells B t2)).alloc (.cells C t3)).alloc (.cells D t4)) :
    Keeps [] w W ∧ W.heap[w.heap.size + 1 + 1]? = some (.cells C t3 (0, 0)) ∧ W.heap[w.heap.size + 1 + 1 + 1]? = some (.cells D t4 (0, 0)) ∧ W.heap.size = w.heap.size + 4 := by
  have e : ∀ (W : World) (o : Obj), (W.alloc o).heap.size = W.heap.size + 1 := fun _ _ => Array.size_push _
  subst hW
  refine ⟨((((Keeps.refl _ _).alloc _).alloc _).alloc _).alloc _, ?_, ?_, by simp only [e]⟩
  · have h := heap_alloc_new ((w.alloc (.cells A t1)).alloc (.cells B t2)) (.cells C t3)
    rw [e, e] at h
    exact ((Keeps.refl [] _).alloc _).heap h (by simp)
  · have h := heap_alloc_new (((w.alloc (.cells A t1)).alloc (.cells B t2)).alloc (.cells C t3)) (.cells D t4)
    rw [e, e, e] at h
    exact h
def obK9 (z0 a0 a1 a2 a3 a4 a5 a6 a7 : Int) : Value := .iface 243 (.agg #[.int .u8 2, .int .u8 z0, .int .u16 a0, .int .u16 a1, .int .u16 a2, .int .u16 a3, .int .u16 a4, .int .u16 a5, .int .u16 a6, .int .u16 a7])
theorem fldK9 (z0 a0 a1 a2 a3 a4 a5 a6 a7 : Int) (w : World) : (Instr.field 243 (.agg #[.int .u8 2, .int .u8 z0, .int .u16 a0, .int .u16 a1, .int .u16 a2, .int .u16 a3, .int .u16 a4, .int .u16 a5, .int .u16 a6, .int .u16 a7]) 1).run Tryz.prog w = .ok (.agg #[.int .u8 z0, .int .u16 a0, .int .u16 a1, .int .u16 a2, .int .u16 a3, .int .u16 a4, .int .u16 a5, .int .u16 a6, .int .u16 a7]) w := (run_field Tryz.underlying243 rfl w).trans ((run_partN (n := 9) (k := 1) (cs := #[.int .u8 2, .int .u8 z0, .int .u16 a0, .int .u16 a1, .int .u16 a2, .int .u16 a3, .int .u16 a4, .int .u16 a5, .int .u16 a6, .int .u16 a7]) Tryz.underlying197 rfl (by kernel_rfl) w).trans (by simp))
set_option maxHeartbeats 8000000
theorem mdStrK1_any (w : World) (p : Nat) (f : Nat × Array Value) (hp : w.cell? ⟨p, 0, none⟩ = some (fv f)) (z0 a0 a1 a2 a3 a4 a5 a6 a7 : Int) {b : ByteArray} (hf : StrV w f (.agg #[.int .u8 z0, .int .u16 a0, .int .u16 a1, .int .u16 a2, .int .u16 a3, .int .u16 a4, .int .u16 a5, .int .u16 a6, .int .u16 a7]) b) : Calls Tryz.prog 156 #[obK9 z0 a0 a1 a2 a3 a4 a5 a6 a7, ptr p] w fun e w' => e = .returned (.string b) ∧ Keeps [] w w' := by
  obtain ⟨S0, hS0⟩ : ∃ S0 : World → Prop, S0 = fun y => Keeps [] w y := ⟨_, rfl⟩
  have HSE := Lib.hid hS0
  have hSD : S0 w.drew := by rw [hS0]; exact (Keeps.refl _ _).drew
  have HP := Lib.hid (fun (w' : World) (hh : S0 w') => show w'.cell? ⟨p, 0, none⟩ = some (fv f) from by rw [hS0] at hh; exact hh.cell hp (by simp))
  clear hS0
  have HF := Lib.hid hf
  clear hf hp
  unfold obK9
  have hA := fun (v : Value) (w : World) => run_assert (t := 28) Tryz.underlying243 v w
  have hFD := fldK9
  go_enter Tryz.func156, Tryz.ntmps156
  go_wp2_with fail
  refine wp_region_noPanic ?_
  refine wp_region_held_drew (S := S0) (by kernel_rfl) hSD (fun hHeld => ?_)
  refine tk 0 (y := by exact Or.inl ⟨by rfl, by intro w hSw; have q0 := HP.out w hSw; go_simp; try with_reducible rfl⟩) (h := ?_)
  refine tw 1 (h := ?_)
  refine tw 2 (h := ?_)
  refine tw 3 (h := ?_)
  refine rp 4 (h := fun K hK => ?_)
  refine wp_callC _ _ _ rfl rfl _ rfl ((HF.out _ ((Keeps.refl [] w).drew)).mono ?_)
  rintro e w1 ⟨rfl, hk⟩
  refine ⟨_, rfl, ?_⟩
  have HK := Lib.hid ((Keeps.refl [] w).drew.trans hk (FSub.refl _ _))
  clear hk
  refine hK.out _ _ (by rw [HSE.out]; exact HK.out) (fun hHeld => ?_); clear hK K; try simp only [Act.put, lsA, lsZ, lsS]
  refine tw 5 (h := ?_)
  refine wpAnyH_done (by kernel_rfl) ?_ _
  refine NoPanic.normal ?_
  go_wp2_with fail
  go_ret
  exact ⟨rfl, HK.out⟩
theorem mdInitK1_any (w : World) (p q : Nat) (hp : w.cell? ⟨p, 0, none⟩ = some (.int .u8 2)) (hq : w.cell? ⟨q, 0, none⟩ = some (fnV 110)) : Calls Tryz.prog 152 #[ptr p, ptr q] w fun e w' => e = .returned (obK9 0 0 0 0 0 0 0 0 0) ∧ Keeps [] w w' := by
  obtain ⟨S0, hS0⟩ : ∃ S0 : World → Prop, S0 = fun y => Keeps [] w y := ⟨_, rfl⟩
  have HSE := Lib.hid hS0
  have hSD : S0 w.drew := by rw [hS0]; exact (Keeps.refl _ _).drew
  have HP := Lib.hid (fun (w' : World) (hh : S0 w') => show w'.cell? ⟨p, 0, none⟩ = some (.int .u8 2) from by rw [hS0] at hh; exact hh.cell hp (by simp))
  have HQ := Lib.hid (fun (w' : World) (hh : S0 w') => show w'.cell? ⟨q, 0, none⟩ = some (.func (.func 110) #[] #[]) from by rw [hS0] at hh; exact hh.cell hq (by simp))
  clear hS0
  go_enter Tryz.func152, Tryz.ntmps152
  go_wp2_with fail
  refine wp_region_noPanic ?_
  refine wp_region_held_drew (S := S0) (by kernel_rfl) hSD (fun hHeld => ?_)
  refine tk 0 (y := by exact Or.inl ⟨by rfl, by intro w hSw; have q0 := HP.out w hSw; go_simp; try with_reducible rfl⟩) (h := ?_)
  refine tk 1 (y := by exact Or.inl ⟨by rfl, by intro w hSw; have q0 := HQ.out w hSw; go_simp; try with_reducible rfl⟩) (h := ?_)
  refine rp 2 (h := fun K hK => ?_)
  refine wp_callC _ _ _ rfl rfl [] rfl ⟨110, _, rfl, ⟨_, Tryz.func110, by kernel_rfl, by kernel_rfl⟩, ?_⟩
  refine (kvNew_any _).mono ?_; rintro e w1 ⟨rfl, hk⟩
  have e0 : kvVal kv0 = .agg #[.int .u8 0, .int .u16 0, .int .u16 0, .int .u16 0, .int .u16 0, .int .u16 0, .int .u16 0, .int .u16 0, .int .u16 0] := rfl
  rw [e0]
  refine ⟨_, rfl, ?_⟩
  have HK := Lib.hid ((Keeps.refl [] w).drew.trans (show Keeps [] _ w1 from by first | exact hk | (subst hk; exact Keeps.refl _ _)) (FSub.refl _ _))
  clear hk
  refine hK.out _ _ (by rw [HSE.out]; exact HK.out) (fun hHeld => ?_); clear hK K; try simp only [Act.put, lsA, lsZ, lsS]
  refine tw 3 (h := ?_)
  refine tw 4 (h := ?_)
  refine tw 5 (h := ?_)
  refine wpAnyH_done (by kernel_rfl) ?_ _
  refine NoPanic.normal ?_
  go_wp2_with fail
  go_ret
  exact ⟨rfl, HK.out⟩
theorem results_kv3b {fn : Func} {p u x : Tmp} (h : fn.results = #[.cell p 197, .cell u 25, .tmp x]) (tmps : Array Value) (w : World) (b c : Nat) {A : List Value} (hA : skV.Ok A) (y : Ans) {t t2 : TypeId}
    (hp : tmps.getD p undef = .pointer (some ⟨b, 0, none⟩)) (hb : w.heap[b]? = some (.cells A.toArray t (0, 0))) (hu : tmps.getD u undef = .pointer (some ⟨c, 0, none⟩)) (hc : w.heap[c]? = some (.cells (ansC y).toArray t2 (0, 0))) :
    (results fn tmps).run Tryz.prog w = .ok (.tuple #[.agg A.toArray, .agg (ansC y).toArray, tmps.getD x undef]) w := results_sk3 skV h tmps w b c hA y hp hb hu hc
theorem mdAnyK1_any (w : World) (p : Nat) (hp : w.cell? ⟨p, 0, none⟩ = some (fnV 113)) (z0 a0 a1 a2 a3 a4 a5 a6 a7 k b0 b1 b2 b3 b4 b5 b6 b7 : Int) (c : Int) (x : Opn) (r : Ans)
    (hf : ∀ w', Keeps [] w w' → Calls Tryz.prog 113 #[.agg #[.int .u8 z0, .int .u16 a0, .int .u16 a1, .int .u16 a2, .int .u16 a3, .int .u16 a4, .int .u16 a5, .int .u16 a6, .int .u16 a7], x.val] w' fun z w2 => z = .returned (.tuple #[.agg #[.int .u8 k, .int .u16 b0, .int .u16 b1, .int .u16 b2, .int .u16 b3, .int .u16 b4, .int .u16 b5, .int .u16 b6, .int .u16 b7], .agg (ansC r).toArray, .int .i64 0]) ∧ Keeps [] w' w2) :
    Calls Tryz.prog 154 #[.agg #[.int .u8 z0, .int .u16 a0, .int .u16 a1, .int .u16 a2, .int .u16 a3, .int .u16 a4, .int .u16 a5, .int .u16 a6, .int .u16 a7], .int .u8 c, x.val, ptr p] w fun e w2 => e = .returned (.tuple #[.agg #[.int .u8 k, .int .u16 b0, .int .u16 b1, .int .u16 b2, .int .u16 b3, .int .u16 b4, .int .u16 b5, .int .u16 b6, .int .u16 b7], .agg (ansC r).toArray, .int .i64 0]) ∧ Keeps [] w w2 := by
  obtain ⟨W, hW⟩ : ∃ W, W = (((w.alloc (.cells #[.int .u8 z0, .int .u16 a0, .int .u16 a1, .int .u16 a2, .int .u16 a3, .int .u16 a4, .int .u16 a5, .int .u16 a6, .int .u16 a7] 197)).alloc (.cells #[.int .u8 x.f, .int .u8 x.o, .int .u8 x.k, .int .u16 x.a, .int .u16 x.b] 47)).alloc (.cells #[.int .u8 0, .int .u16 0, .int .u16 0, .int .u16 0, .int .u16 0, .int .u16 0, .int .u16 0, .int .u16 0, .int .u16 0] 197)).alloc (.cells (ansC ⟨0, 0⟩).toArray 25) := ⟨_, rfl⟩
  obtain ⟨hk0, h2, h3, hz⟩ := vars4 w _ _ _ _ _ _ _ _ W hW
  simp only [show (ansC ⟨0, 0⟩).toArray = #[Value.int .u8 0, .int .u16 0] from rfl] at hW
  have hp2 := hk0.cell hp (by simp)
  unfold fnV at hp2
  subst hW
  have HF := Lib.hid hf; have HK := Lib.hid hk0; have H2 := Lib.hid h2; have H3 := Lib.hid h3; have HSZ := Lib.hid hz
  clear hf hp hk0 h2 h3 hz
  unfold Opn.val at *
  go_enter Tryz.func154, Tryz.ntmps154
  go_wp2_with fail
  refine (HF.out _ HK.out).mono ?_; rintro e w1 ⟨rfl, hk1⟩
  have HB2 := Lib.hid (hk1.heap H2.out (by simp))
  have HB3 := Lib.hid (hk1.heap H3.out (by simp))
  have HK1 := Lib.hid (HK.out.trans hk1 (FSub.refl _ _))
  have HZ1 := Lib.hid (lt_of_block H2.out)
  clear hk1 hp2 HK H2 H3
  generalize ((((w.alloc (.cells #[.int .u8 z0, .int .u16 a0, .int .u16 a1, .int .u16 a2, .int .u16 a3, .int .u16 a4, .int .u16 a5, .int .u16 a6, .int .u16 a7] 197)).alloc (.cells #[.int .u8 x.f, .int .u8 x.o, .int .u8 x.k, .int .u16 x.a, .int .u16 x.b] 47)).alloc (.cells #[.int .u8 0, .int .u16 0, .int .u16 0, .int .u16 0, .int .u16 0, .int .u16 0, .int .u16 0, .int .u16 0, .int .u16 0] 197)).alloc (.cells #[.int .u8 0, .int .u16 0] 25)) = W at *
  go_wp2_with ((with_reducible refine wpList_putV11 (g := w.heap.size + 1 + 1) (A := [.int .u8 k, .int .u16 b0, .int .u16 b1, .int .u16 b2, .int .u16 b3, .int .u16 b4, .int .u16 b5, .int .u16 b6, .int .u16 b7]) (old := [.int .u8 0, .int .u16 0, .int .u16 0, .int .u16 0, .int .u16 0, .int .u16 0, .int .u16 0, .int .u16 0, .int .u16 0]) (skV_ok _ _ _ _ _ _ _ _ _) (skV_ok _ _ _ _ _ _ _ _ _) ?_ ?_ HB2.out ?_); exact rfl; exact rfl)
  intro W5 hW5 hk5
  have HC5 := Lib.hid hW5
  have HD5 := Lib.hid (hk5.heap HB3.out (by simp))
  have HK5 := Lib.hid (HK1.out.trans hk5 (fun q hq => .inr (by simp at hq; omega)))
  clear hW5 hk5 HK1 HB2 HB3
  go_wp2_with ((with_reducible refine wpList_putR12 (g := w.heap.size + 1 + 1 + 1) (old := ⟨0, 0⟩) r ?_ ?_ HD5.out ?_); exact rfl; exact rfl)
  intro W6 hW6 hk6
  have HC6 := Lib.hid (hk6.heap HC5.out (by simp))
  have HD6 := Lib.hid hW6
  have HK6 := Lib.hid (HK5.out.trans hk6 (fun q hq => .inr (by simp at hq; omega)))
  clear hW6 hk6 HK5 HC5 HD5
  go_wp2_with fail
  try simp only [Exit.inBlock, Exit.then]
  exact bodyPost_ret (results_kv3b rfl _ _ (w.heap.size + 1 + 1) (w.heap.size + 1 + 1 + 1) (skV_ok k b0 b1 b2 b3 b4 b5 b6 b7) r rfl HC6.out rfl HD6.out) rfl ⟨rfl, HK6.out⟩
theorem mdStK1_any (w : World) (p : Nat) (f : Nat × Array Value) (hp : w.cell? ⟨p, 0, none⟩ = some (fv f)) (z0 a0 a1 a2 a3 a4 a5 a6 a7 k b0 b1 b2 b3 b4 b5 b6 b7 : Int) (c : Int) (x : Opn) (r : Ans)
    (hf : ∀ w', Keeps [] w w' → CallsV w' (fv f) [.agg #[.int .u8 z0, .int .u16 a0, .int .u16 a1, .int .u16 a2, .int .u16 a3, .int .u16 a4, .int .u16 a5, .int .u16 a6, .int .u16 a7], .int .u8 c, x.val] fun z w2 => z = .returned (.tuple #[.agg #[.int .u8 k, .int .u16 b0, .int .u16 b1, .int .u16 b2, .int .u16 b3, .int .u16 b4, .int .u16 b5, .int .u16 b6, .int .u16 b7], .agg (ansC r).toArray, .int .i64 0]) ∧ Keeps [] w' w2) :
    Calls Tryz.prog 153 #[obK9 z0 a0 a1 a2 a3 a4 a5 a6 a7, .int .u8 c, x.val, ptr p] w fun e w2 => e = .returned (.tuple #[obK9 k b0 b1 b2 b3 b4 b5 b6 b7, .agg (ansC r).toArray, .int .i64 0]) ∧ Keeps [] w w2 := by
  obtain ⟨e1, h0, h1, hk⟩ := two_vars w #[.int .u8 x.f, .int .u8 x.o, .int .u8 x.k, .int .u16 x.a, .int .u16 x.b] #[.int .u8 0, .int .u16 0] 47 25
  have H1 := Lib.hid (show _ = some (Obj.cells (ansC ⟨0, 0⟩).toArray 25 (0, 0)) from h1); have HK := Lib.hid hk
  have hp2 := (hk.alloc (.cells #[.int .u8 2, .int .u8 z0, .int .u16 a0, .int .u16 a1, .int .u16 a2, .int .u16 a3, .int .u16 a4, .int .u16 a5, .int .u16 a6, .int .u16 a7] 243)).cell hp (by simp)
  have HF := Lib.hid hf
  clear h0 h1 hk hp hf
  unfold obK9 Opn.val at *
  have hA := fun (v : Value) (w : World) => run_assert (t := 28) Tryz.underlying243 v w
  go_enter Tryz.func153, Tryz.ntmps153
  go_wp2_with ((with_reducible refine wpList_callC (f := fv f) [.agg #[.int .u8 z0, .int .u16 a0, .int .u16 a1, .int .u16 a2, .int .u16 a3, .int .u16 a4, .int .u16 a5, .int .u16 a6, .int .u16 a7], .int .u8 c, x.val] ?_ ?_ ?_); exact rfl; exact rfl)
  refine (HF.out _ (HK.out.alloc _)).mono ?_
  rintro e wa ⟨rfl, hk⟩
  refine ⟨_, rfl, ?_⟩
  have HK1 := Lib.hid ((HK.out.alloc (.cells #[.int .u8 2, .int .u8 z0, .int .u16 a0, .int .u16 a1, .int .u16 a2, .int .u16 a3, .int .u16 a4, .int .u16 a5, .int .u16 a6, .int .u16 a7] 243)).trans hk (FSub.refl _ _))
  have HB1 := Lib.hid (hk.heap (((Keeps.refl [] _).alloc (.cells #[.int .u8 2, .int .u8 z0, .int .u16 a0, .int .u16 a1, .int .u16 a2, .int .u16 a3, .int .u16 a4, .int .u16 a5, .int .u16 a6, .int .u16 a7] 243)).heap H1.out (by simp)) (by simp))
  have HB3 := Lib.hid (show wa.heap[w.heap.size + 1 + 1]? = some (.cells #[.int .u8 2, .int .u8 z0, .int .u16 a0, .int .u16 a1, .int .u16 a2, .int .u16 a3, .int .u16 a4, .int .u16 a5, .int .u16 a6, .int .u16 a7] 243 (0, 0)) from hk.heap (by have h := heap_alloc_new ((w.alloc (.cells #[.int .u8 x.f, .int .u8 x.o, .int .u8 x.k, .int .u16 x.a, .int .u16 x.b] 47)).alloc (.cells #[.int .u8 0, .int .u16 0] 25)) (.cells #[.int .u8 2, .int .u8 z0, .int .u16 a0, .int .u16 a1, .int .u16 a2, .int .u16 a3, .int .u16 a4, .int .u16 a5, .int .u16 a6, .int .u16 a7] 243); rwa [show ∀ (W : World) (o : Obj), (W.alloc o).heap.size = W.heap.size + 1 from fun _ _ => Array.size_push _, e1] at h) (by simp))
  clear hk hp2 H1 HK e1
  obtain ⟨e1, h0, h1, hk4⟩ := two_vars wa #[.int .u8 0, .int .u16 0, .int .u16 0, .int .u16 0, .int .u16 0, .int .u16 0, .int .u16 0, .int .u16 0, .int .u16 0] #[.int .u8 0, .int .u16 0] 197 25
  have HC4 := Lib.hid (show _ = some (Obj.cells (ansC ⟨0, 0⟩).toArray 25 (0, 0)) from h1)
  have HD4 := Lib.hid (show _ = some (Obj.cells [Value.int .u8 0, .int .u16 0, .int .u16 0, .int .u16 0, .int .u16 0, .int .u16 0, .int .u16 0, .int .u16 0, .int .u16 0].toArray 197 (0, 0)) from h0)
  have HK4 := Lib.hid hk4
  have HL1 := Lib.hid (lt_of_block HB1.out); have HL3 := Lib.hid (lt_of_block HB3.out)
  clear h0 h1 hk4 e1
  go_wp2_with ((with_reducible refine wpList_putV11 (g := wa.heap.size) (A := [.int .u8 k, .int .u16 b0, .int .u16 b1, .int .u16 b2, .int .u16 b3, .int .u16 b4, .int .u16 b5, .int .u16 b6, .int .u16 b7]) (old := [.int .u8 0, .int .u16 0, .int .u16 0, .int .u16 0, .int .u16 0, .int .u16 0, .int .u16 0, .int .u16 0, .int .u16 0]) (skV_ok _ _ _ _ _ _ _ _ _) (skV_ok _ _ _ _ _ _ _ _ _) ?_ ?_ HD4.out ?_); exact rfl; exact rfl)
  intro W4 hW4 hk4
  have HD5 := Lib.hid hW4
  have HC5 := Lib.hid (hk4.heap HC4.out (by simp))
  have HK5 := Lib.hid (HK4.out.trans' hk4 (Nat.le_refl _))
  clear hW4 hk4 HK4 HC4 HD4
  go_wp2_with ((with_reducible refine wpList_putR12 (g := wa.heap.size + 1) (old := ⟨0, 0⟩) r ?_ ?_ HC5.out ?_); exact rfl; exact rfl)
  intro W5 hW5 hk5
  have HC6 := Lib.hid hW5
  have HD6 := Lib.hid (hk5.heap HD5.out (by simp))
  have HK6 := Lib.hid (HK5.out.trans' hk5 (by omega))
  clear hW5 hk5 HK5 HC5 HD5
  have HB5 := Lib.hid (HK6.out.heap HB1.out (by simp))
  have HB6 := Lib.hid (HK6.out.heap HB3.out (by simp))
  have HK7 := Lib.hid (HK1.out.trans HK6.out (FSub.refl _ _))
  clear HK6 HB1 HB3 HK1 HF hA
  generalize wa.heap.size = g at *
  go_wp2_with fail
  obtain ⟨S0, hS0⟩ : ∃ S0 : World → Prop, S0 = fun y => Keeps [w.heap.size + 1] W5 y := ⟨_, rfl⟩
  have HSE := Lib.hid hS0
  have hSD : S0 W5.drew := by rw [hS0]; exact ((Keeps.refl [] _).drew).more (by simp)
  have HS0 := Lib.hid (fun (w' : World) (hh : S0 w') => show w'.cell? ⟨w.heap.size + 1 + 1, 0, none⟩ = some (.int .u8 2) from by rw [hS0] at hh; exact hh.cell (cell_lit HB6.out 0 rfl) (by simp))
  have HSC := Lib.hid (fun (w' : World) (hh : S0 w') => show w'.rangeAt (g + 1) 0 (ansC r) from by rw [hS0] at hh; exact fun j v hv => hh.cell (block_range HC6.out j v hv) (by have := HL1.out; simp; omega))
  have HSQ := Lib.hid (fun (w' : World) (hh : S0 w') => show w'.rangeAt g 0 [.int .u8 k, .int .u16 b0, .int .u16 b1, .int .u16 b2, .int .u16 b3, .int .u16 b4, .int .u16 b5, .int .u16 b6, .int .u16 b7] from by rw [hS0] at hh; exact fun j v hv => hh.cell (block_range HD6.out j v hv) (by have := HL1.out; simp; omega))
  clear hS0
  refine wp_region_noPanic ?_
  refine wp_region_held_drew (S := S0) (by kernel_rfl) hSD (fun hHeld => ?_)
  refine tw 0 (h := ?_)
  refine tk 1 (y := by exact Or.inl ⟨by rfl, by intro w hSw; have q0 := HS0.out w hSw; go_simp; try with_reducible rfl⟩) (h := ?_)
  refine tk 2 (y := by exact skV.yields (skV_ok _ _ _ _ _ _ _ _ _) (by rfl) _ rfl g 0 rfl HSQ.out) (h := ?_)
  refine tw 3 (h := ?_)
  refine tw 4 (h := ?_)
  refine tk 5 (y := by exact yields_ansC (by rfl) _ rfl (g + 1) 0 rfl r HSC.out) (h := ?_)
  refine tw 6 (h := ?_)
  refine tw 7 (h := ?_)
  refine rp 8 (h := fun K hK => ?_)
  refine wp_putN rfl (g := w.heap.size + 1) (old := ⟨0, 0⟩) r rfl rfl (((Keeps.refl [] W5).drew).heap HB5.out (by simp)) (fun W6 hW6 hk6 => ?_)
  have HW6 := Lib.hid hW6
  have HQ6 := Lib.hid ((((Keeps.refl [] W5).drew).more (G := [w.heap.size + 1]) (by simp)).trans hk6 (FSub.refl _ _))
  clear hW6 hk6
  refine hK.out _ _ (by rw [HSE.out]; exact HQ6.out) (fun hHeld => ?_); clear hK K; try simp only [Act.put, lsA, lsZ, lsS]
  refine tw 9 (h := ?_)
  refine wpAnyH_done (by kernel_rfl) ?_ _
  refine NoPanic.normal ?_
  go_wp2_with fail
  try simp only [Exit.inBlock, Exit.then]
  exact bodyPost_ret (results_ans rfl _ _ (w.heap.size + 1) r rfl HW6.out) rfl ⟨rfl, HK7.out.trans HQ6.out (fun q hq => .inr (by simp at hq; omega))⟩
end Go.Proofs.YtbnhcggjcdipeaaGreatDoor
/-
  The program's objects: what the function values of the kinds do with bytes.
-/
namespace Go.Proofs.YtbnhcggjcdipeaaGreatDoor
open Go.RowKit
set_option maxRecDepth 100000
set_option maxHeartbeats 8000000
theorem mdDeR1_any (w : World) (p q : Nat) (hp : w.cell? ⟨p, 0, none⟩ = some (.int .u8 0)) (hq : w.cell? ⟨q, 0, none⟩ = some (fnV 96)) (b : ByteArray) (z : Int) {P : Int → Prop}
    (hf : Calls Tryz.prog 96 #[.string b] w fun e w2 => ∃ n, e = .returned (.tuple #[.int .u16 n, .int .i64 z]) ∧ P n ∧ Keeps [] w w2) :
    Calls Tryz.prog 143 #[.string b, ptr q, ptr p] w fun e w' => ∃ n, e = .returned (.tuple #[obR n, .int .i64 z]) ∧ P n ∧ Keeps [] w w' := by
  have c2 := hq
  unfold fnV at c2
  have HF := Lib.hid hf
  have HP := Lib.hid hp
  clear hp hq hf
  unfold obR
  go_enter Tryz.func143, Tryz.ntmps143
  go_wp2_with fail
  refine HF.out.mono ?_; rintro e w1 ⟨n, rfl, h1, hk⟩
  have H1 := Lib.hid h1; have HK := Lib.hid hk
  have c3 := hk.cell HP.out (by simp)
  clear c2 h1 hk
  go_wp2_with fail
  go_ret2
  exact ⟨_, rfl, H1.out, HK.out⟩
theorem mdDeL1_any (w : World) (p q : Nat) (hp : w.cell? ⟨p, 0, none⟩ = some (.int .u8 3)) (hq : w.cell? ⟨q, 0, none⟩ = some (fnV 128)) (b : ByteArray) (z : Int) {P : Int → Prop}
    (hf : Calls Tryz.prog 128 #[.string b] w fun e w2 => ∃ n, e = .returned (.tuple #[.int .u8 n, .int .i64 z]) ∧ P n ∧ Keeps [] w w2) :
    Calls Tryz.prog 172 #[.string b, ptr q, ptr p] w fun e w' => ∃ n, e = .returned (.tuple #[obL n, .int .i64 z]) ∧ P n ∧ Keeps [] w w' := by
  have c2 := hq
  unfold fnV at c2
  have HF := Lib.hid hf
  have HP := Lib.hid hp
  clear hp hq hf
  unfold obL
  go_enter Tryz.func172, Tryz.ntmps172
  go_wp2_with fail
  refine HF.out.mono ?_; rintro e w1 ⟨n, rfl, h1, hk⟩
  have H1 := Lib.hid h1; have HK := Lib.hid hk
  have c3 := hk.cell HP.out (by simp)
  clear c2 h1 hk
  go_wp2_with fail
  go_ret2
  exact ⟨_, rfl, H1.out, HK.out⟩
theorem mdDeQ1_any (w : World) (p q : Nat) (hp : w.cell? ⟨p, 0, none⟩ = some (.int .u8 1)) (hq : w.cell? ⟨q, 0, none⟩ = some (fnV 107)) (b : ByteArray) (z : Int) {P : World → Value → Prop} (hP : ∀ w2 w3 v, P w2 v → Keeps [] w2 w3 → P w3 v)
    (hf : Calls Tryz.prog 107 #[.string b] w fun e w2 => ∃ a n cp, e = .returned (.tuple #[.agg #[.slice a n cp], .int .i64 z]) ∧ P w2 (.slice a n cp) ∧ Keeps [] w w2) :
    Calls Tryz.prog 151 #[.string b, ptr q, ptr p] w fun e w' => ∃ a n cp, e = .returned (.tuple #[obQ (.slice a n cp), .int .i64 z]) ∧ P w' (.slice a n cp) ∧ Keeps [] w w' := by
  have c2 := hq
  unfold fnV at c2
  have HF := Lib.hid hf
  have HP := Lib.hid hp; have HPP := Lib.hid hP
  clear hp hq hf hP
  unfold obQ
  go_enter Tryz.func151, Tryz.ntmps151
  go_wp2_with fail
  refine HF.out.mono ?_; rintro e w1 ⟨a, n, cp, rfl, h1, hk⟩
  have HN := Lib.hid (show (w1.alloc (.cells #[.slice none 0 0] 184)).heap[w1.heap.size]? = some (.cells [Value.slice none 0 0].toArray 184 (0, 0)) from heap_alloc_new w1 _)
  have hk4 : Keeps [] w1 (w1.alloc (.cells #[.slice none 0 0] 184)) := (Keeps.refl _ _).alloc _
  have HK4 := Lib.hid hk4
  have H1 := Lib.hid h1; have HK := Lib.hid hk
  clear c2 h1 hk hk4
  go_wp2_with ((with_reducible refine wpList_putS10 (g := w1.heap.size) (A := [.slice a n cp]) (old := [.slice none 0 0]) (skQ_ok _ _ _) (skQ_ok _ _ _) ?_ ?_ HN.out ?_); exact rfl; exact rfl)
  intro W hW hkW
  have hk5 := HK4.out.trans' hkW (Nat.le_refl _)
  have HPW := Lib.hid (HPP.out _ _ _ H1.out hk5)
  have HKW := Lib.hid (HK.out.trans hk5 (FSub.refl _ _))
  have c3 := HKW.out.cell HP.out (by simp)
  have c4 := cell_lit hW 0 rfl
  clear hW hkW hk5 H1 HK HK4 HN HP HPP
  generalize w1.heap.size = g at *
  go_wp2_with fail
  go_ret2
  exact ⟨_, _, _, rfl, HPW.out, HKW.out⟩
theorem mdDeK1_any (w : World) (p q : Nat) (hp : w.cell? ⟨p, 0, none⟩ = some (.int .u8 2)) (hq : w.cell? ⟨q, 0, none⟩ = some (fnV 118)) (b : ByteArray) (z z0 a0 a1 a2 a3 a4 a5 a6 a7 : Int)
    (hf : Calls Tryz.prog 118 #[.string b] w fun e w2 => e = .returned (.tuple #[.agg #[.int .u8 z0, .int .u16 a0, .int .u16 a1, .int .u16 a2, .int .u16 a3, .int .u16 a4, .int .u16 a5, .int .u16 a6, .int .u16 a7], .int .i64 z]) ∧ Keeps [] w w2) :
    Calls Tryz.prog 161 #[.string b, ptr q, ptr p] w fun e w' => e = .returned (.tuple #[obK9 z0 a0 a1 a2 a3 a4 a5 a6 a7, .int .i64 z]) ∧ Keeps [] w w' := by
  have c2 := hq
  unfold fnV at c2
  have HF := Lib.hid hf
  have HP := Lib.hid hp
  clear hp hq hf
  unfold obK9
  go_enter Tryz.func161, Tryz.ntmps161
  go_wp2_with fail
  refine HF.out.mono ?_; rintro e w1 ⟨rfl, hk⟩
  have HN := Lib.hid (show (w1.alloc (.cells #[.int .u8 0, .int .u16 0, .int .u16 0, .int .u16 0, .int .u16 0, .int .u16 0, .int .u16 0, .int .u16 0, .int .u16 0] 197)).heap[w1.heap.size]? = some (.cells [Value.int .u8 0, .int .u16 0, .int .u16 0, .int .u16 0, .int .u16 0, .int .u16 0, .int .u16 0, .int .u16 0, .int .u16 0].toArray 197 (0, 0)) from heap_alloc_new w1 _)
  have hk4 : Keeps [] w1 (w1.alloc (.cells #[.int .u8 0, .int .u16 0, .int .u16 0, .int .u16 0, .int .u16 0, .int .u16 0, .int .u16 0, .int .u16 0, .int .u16 0] 197)) := (Keeps.refl _ _).alloc _
  have HK4 := Lib.hid hk4
  have HK := Lib.hid hk
  clear c2 hk hk4
  go_wp2_with ((with_reducible refine wpList_putV11 (g := w1.heap.size) (A := [.int .u8 z0, .int .u16 a0, .int .u16 a1, .int .u16 a2, .int .u16 a3, .int .u16 a4, .int .u16 a5, .int .u16 a6, .int .u16 a7]) (old := [.int .u8 0, .int .u16 0, .int .u16 0, .int .u16 0, .int .u16 0, .int .u16 0, .int .u16 0, .int .u16 0, .int .u16 0]) (skV_ok _ _ _ _ _ _ _ _ _) (skV_ok _ _ _ _ _ _ _ _ _) ?_ ?_ HN.out ?_); exact rfl; exact rfl)
  intro W hW hkW
  have hk5 := HK4.out.trans' hkW (Nat.le_refl _)
  have HKW := Lib.hid (HK.out.trans hk5 (FSub.refl _ _))
  have c3 := HKW.out.cell HP.out (by simp)
  have HW := Lib.hid hW
  clear hW hkW hk5 HK HK4 HN HP
  generalize w1.heap.size = g at *
  go_wp2_with ((with_reducible refine wpList_loadV11 (g := g) (off := 0) (A := [.int .u8 z0, .int .u16 a0, .int .u16 a1, .int .u16 a2, .int .u16 a3, .int .u16 a4, .int .u16 a5, .int .u16 a6, .int .u16 a7]) (skV_ok _ _ _ _ _ _ _ _ _) ?_ ?_ (block_range HW.out) ?_); exact rfl; exact rfl)
  go_ret2
  exact ⟨rfl, HKW.out⟩
end Go.Proofs.YtbnhcggjcdipeaaGreatDoor
/-
  The document's object: Decode, Idle.
-/
namespace Go.Proofs.YtbnhcggjcdipeaaGreatDoor
open Go.RowKit
set_option maxRecDepth 100000
set_option maxHeartbeats 8000000
theorem wp_put13 {o : Oper} {a : Act} {w : World} {K : Act → World → Prop} {Q : Exit → Act → World → Prop} {ty : TypeId} {x y : Operand} {g j : Nat} {v : Value} {A : List Value} {t : TypeId} (ho : o.op = .store ty x y) (hi : (Tryz.prog.info? ty).map (·.size) = some 1)
    (hx : a.eval x = .pointer (some ⟨g, j, none⟩)) (hy : a.eval y = v) (hg : w.heap[g]? = some (.cells A.toArray t (0, 0))) (hj : j < A.length) (h1 : v.oneCell' = true)
    (h : ∀ W, W.heap[g]? = some (.cells (A.set j v).toArray t (0, 0)) → Keeps [g] w W → K (a.put o.dst undef) W) : o.wp Tryz.prog a w K Q := by
  unfold Oper.wp execOp
  simp only [ho, hx, hy, Instr.storeAt, Instr.sureAddr, Sem.run_bind, Sem.run_pure, Result.andThen_ok, run_put13 hi hg (by simpa using hj) h1]
  refine h _ ?_ ((Keeps.refl [g] w).setCell _ _ (.inl (by simp)))
  have := heap_setCell_same w g j _ t v hg
  simpa using this
end Go.Proofs.YtbnhcggjcdipeaaGreatDoor
