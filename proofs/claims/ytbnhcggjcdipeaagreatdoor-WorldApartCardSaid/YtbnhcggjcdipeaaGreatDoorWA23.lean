/-
  What the program's key map must tell; the law's small functions over any such key map.
-/
import Derived.Test.YtbnhcggjcdipeaaGreatDoorWA00
import Derived.Deep.RegionHeld3
import Derived.Test.YtbnhcggjcdipeaaGreatDoorWA22
import Derived.Test.YtbnhcggjcdipeaaGreatDoorWA10
import Derived.Test.YtbnhcggjcdipeaaGreatDoorWA11
import Derived.Test.YtbnhcggjcdipeaaGreatDoorWA08
set_option linter.unusedSimpArgs false
set_option linter.unusedVariables false
namespace Go.Proofs.YtbnhcggjcdipeaaGreatDoor
open Go.RowKit
section
variable {ops : Array Oper} {S : World → Prop} {o : Oper} {a : Act} {w : World}
theorem yields_loadK (hw : Region.wanted o (yielded ops a.tmps) = true) (x : Operand) (ho : o.op = .load 197 x) (g : Nat) (hx : a.eval x = .pointer (some ⟨g, 0, none⟩)) (h : Int) (vs : List Int) (hS : ∀ w, S w → ∃ t, w.heap[g]? = some (.cells (kvA h vs) t (0, 0))) : YieldsIf Tryz.prog ops S o (.agg (kvA h vs)) a :=
  Or.inl ⟨hw, by
    intro w hh
    obtain ⟨t, hg⟩ := hS w hh
    unfold execOp
    simp only [ho, hx, Instr.loadAt, Instr.sureAddr, Sem.run_bind, Sem.run_pure, Result.andThen_ok, run_loadVar_row w g t 197 (kvA h vs) (0, 0) _ hg Tryz.underlying197 rfl (by kernel_rfl)]⟩
end
set_option maxHeartbeats 8000000
set_option maxRecDepth 100000
variable {G : World → Prop}
end Go.Proofs.YtbnhcggjcdipeaaGreatDoor
/-
  The program's key map: bits; New, Idle, has; the steps as an array, and which step is an operation's.
-/
namespace Go.Proofs.YtbnhcggjcdipeaaGreatDoor
open Go.RowKit
theorem shr8 (h : Nat) (hh : h < 256) (key : Int) (h0 : 0 ≤ key) (w : World) : (Op.shift BinOp.shr IntKind.u8 (h : Int) IntKind.u8 key).run Tryz.prog w = .ok (.int .u8 ((h / 2 ^ key.toNat : Nat) : Int)) w := by
  by_cases hk : key ≤ 8
  · rw [shift_shr .u8 .u8 _ _ h0 hk, Int.natCast_ediv, Int.natCast_pow]
    rfl
  · have h1 : min key.toNat 8 = 8 := by omega
    have h2 : h / 2 ^ key.toNat = 0 := Nat.div_eq_of_lt (Nat.lt_of_lt_of_le hh (Nat.pow_le_pow_right (n := 2) (by decide) (show 8 ≤ key.toNat by omega)))
    have h3 : (h : Int) / 2 ^ 8 = 0 := by omega
    have h4 : ¬ key < 0 := by omega
    simp only [Op.shift, if_neg h4, IntKind.bits, h1, h2, Int.fdiv_eq_ediv_of_nonneg _ (by decide : (0 : Int) ≤ 2 ^ 8), h3]
    rfl
theorem shl8 {k : Nat} (hk : k < 8) (w : World) : (Op.shift BinOp.shl IntKind.u8 1 IntKind.u8 (k : Int)).run Tryz.prog w = .ok (.int .u8 ((2 ^ k : Nat) : Int)) w := by
  rcases (by omega : k = 0 ∨ k = 1 ∨ k = 2 ∨ k = 3 ∨ k = 4 ∨ k = 5 ∨ k = 6 ∨ k = 7) with rfl | rfl | rfl | rfl | rfl | rfl | rfl | rfl <;> kernel_rfl
theorem and8 {q : Nat} (h : q < 256) : bits .and .u8 (q : Int) 1 = ((q % 2 : Nat) : Int) := by
  have : ∀ q : Fin 256, bits .and .u8 (q.val : Int) 1 = ((q.val % 2 : Nat) : Int) := by decide +kernel
  exact this ⟨q, h⟩
theorem or8 {q k : Nat} (h : q < 256) (hk : k < 8) : bits .or .u8 (q : Int) ((2 ^ k : Nat) : Int) = ((if q / 2 ^ k % 2 = 1 then q else q + 2 ^ k : Nat) : Int) := by
  have : ∀ (q : Fin 256) (k : Fin 8), bits .or .u8 (q.val : Int) ((2 ^ k.val : Nat) : Int) = ((if q.val / 2 ^ k.val % 2 = 1 then q.val else q.val + 2 ^ k.val : Nat) : Int) := by decide +kernel
  exact this ⟨q, h⟩ ⟨k, hk⟩
theorem not8 {q k : Nat} (h : q < 256) (hk : k < 8) : bits .andNot .u8 (q : Int) ((2 ^ k : Nat) : Int) = ((if q / 2 ^ k % 2 = 1 then q - 2 ^ k else q : Nat) : Int) := by
  have : ∀ (q : Fin 256) (k : Fin 8), bits .andNot .u8 (q.val : Int) ((2 ^ k.val : Nat) : Int) = ((if q.val / 2 ^ k.val % 2 = 1 then q.val - 2 ^ k.val else q.val : Nat) : Int) := by decide +kernel
  exact this ⟨q, h⟩ ⟨k, hk⟩
/-- A key that is put, a key that is taken away: the byte. -/
theorem kvH_put {m : Kv} (hm : m.length = 8) {k : Nat} (hk : k < 8) (v : Int) : bits .or .u8 (kvH m : Int) ((2 ^ k : Nat) : Int) = (kvH (m.set k (some v)) : Int) := by
  have hl := kvH_lt m
  have hs := kvH_set m k (by omega) (some v)
  have hb := kvH_bit m k
  rw [hm] at hl
  rw [or8 hl hk]
  simp only [Option.isSome_some, if_true] at hs
  cases ho : (m.getD k none).isSome with
  | true => rw [ho] at hs hb; simp only [if_true] at hs hb; rw [if_pos hb]; omega
  | false => rw [ho] at hs hb; simp only [Bool.false_eq_true, if_false] at hs hb; rw [if_neg (by omega)]; omega
theorem kvH_del {m : Kv} (hm : m.length = 8) {k : Nat} (hk : k < 8) : bits .andNot .u8 (kvH m : Int) ((2 ^ k : Nat) : Int) = (kvH (m.set k none) : Int) := by
  have hl := kvH_lt m
  have hs := kvH_set m k (by omega) none
  have hb := kvH_bit m k
  rw [hm] at hl
  rw [not8 hl hk]
  simp only [Option.isSome_none, Bool.false_eq_true, if_false] at hs
  cases ho : (m.getD k none).isSome with
  | true => rw [ho] at hs hb; simp only [if_true] at hs hb; rw [if_pos hb]; omega
  | false => rw [ho] at hs hb; simp only [Bool.false_eq_true, if_false] at hs hb; rw [if_neg (by omega)]; omega
set_option maxHeartbeats 8000000
set_option maxRecDepth 100000
theorem kvNew_any (w : World) : Calls Tryz.prog 110 #[] w fun e w' => e = .returned (kvVal kv0) ∧ Keeps [] w w' := by
  have h0 := heap_alloc_new w (.cells (kvA 0 []) 197)
  have HN := Lib.hid h0
  have HK := Lib.hid (show Keeps [] w (w.alloc (.cells (kvA 0 []) 197)) from (Keeps.refl _ _).alloc _)
  clear h0
  go_enter Tryz.func110, Tryz.ntmps110
  go_wp2_with fail
  try simp only [Exit.inBlock, Exit.then]
  exact bodyPost_ret (results_kv rfl _ _ w.heap.size (x := 0) (vs := []) rfl HN.out) rfl ⟨rfl, HK.out⟩
theorem kvIdle_any (w : World) (f : Int) : Calls Tryz.prog 119 #[.int .u8 f] w fun e w' => e = .returned (.bool (decide (f = 6))) ∧ Keeps [] w w' := by
  by_cases hf : f = 6
  · have t : (f == 6) = true := by simpa using hf
    rw [decide_eq_true hf]
    clear hf
    go_enter Tryz.func119, Tryz.ntmps119
    go_wp2_with fail
    go_ret
    exact ⟨rfl, Keeps.refl _ _⟩
  · have t : (f == 6) = false := by simpa using hf
    rw [decide_eq_false hf]
    clear hf
    go_enter Tryz.func119, Tryz.ntmps119
    go_wp2_with fail
    go_ret
    exact ⟨rfl, Keeps.refl _ _⟩
theorem kvHas_any (w : World) {h : Nat} (hh : h < 256) (vs : List Int) {key : Int} (h0 : 0 ≤ key) : Calls Tryz.prog 158 #[.agg (kvA h vs), .int .u8 key] w fun e w' => e = .returned (.bool (decide (h / 2 ^ key.toNat % 2 = 1))) ∧ Keeps [] w w' := by
  have c0 := kv_byte (heap_alloc_new w (.cells (kvA h vs) 197))
  have hs := shr8 h hh key h0
  have hq : h / 2 ^ key.toNat < 256 := Nat.lt_of_le_of_lt (Nat.div_le_self _ _) hh
  have hb := and8 hq
  generalize h / 2 ^ key.toNat = q at *
  rcases Nat.mod_two_eq_zero_or_one q with e | e
  · rw [e] at hb
    rw [decide_eq_false (by omega)]
    clear hq e h0 hh
    go_enter Tryz.func158, Tryz.ntmps158
    go_wp2_with fail
    go_ret
    exact ⟨rfl, (Keeps.refl _ _).alloc _⟩
  · rw [e] at hb
    rw [decide_eq_true e]
    clear hq e h0 hh
    go_enter Tryz.func158, Tryz.ntmps158
    go_wp2_with fail
    go_ret
    exact ⟨rfl, (Keeps.refl _ _).alloc _⟩
/-- The steps at the F of their operations. -/
def stepsK : Array Value := #[.nilFunc, .nilFunc, .nilFunc, .nilFunc, .nilFunc, .nilFunc, fnV 199, fnV 200, fnV 201, fnV 202]
/-- Which step an operation takes. -/
def kvK (f : Int) : Nat := if f = 6 then 199 else if f = 7 then 200 else if f = 8 then 201 else 202
theorem kvK_func (f : Int) : ∃ fn, Tryz.prog.funcs[kvK f]? = some fn ∧ (fn.name == "runtime.NumGoroutine") = false ∧ fn.body.isNone = false := by
  unfold kvK
  split
  · exact ⟨_, Tryz.func199, by kernel_rfl, by kernel_rfl⟩
  · split
    · exact ⟨_, Tryz.func200, by kernel_rfl, by kernel_rfl⟩
    · split
      · exact ⟨_, Tryz.func201, by kernel_rfl, by kernel_rfl⟩
      · exact ⟨_, Tryz.func202, by kernel_rfl, by kernel_rfl⟩
section
variable {ops : Array Oper} {rest : List Oper} {o : Oper} {a : Act} {w : World} {S : World → Prop} {Q : Exit → Act → World → Prop}
theorem wpList_putS11 {dst : Option Tmp} {ty : TypeId} {pos : String} {after : Array Edge} {x y : Operand} {g : Nat} {t : TypeId}
    (hx : a.eval x = .pointer (some ⟨g, 0, none⟩)) (hy : a.eval y = .agg stepsK) (hg : w.heap[g]? = some (.cells #[.nilFunc, .nilFunc, .nilFunc, .nilFunc, .nilFunc, .nilFunc, .nilFunc, .nilFunc, .nilFunc, .nilFunc] t (0, 0)))
    (h : ∀ W, W.heap[g]? = some (.cells stepsK t (0, 0)) → Keeps [g] w W → wpList Tryz.prog ops Q rest (a.put dst undef) W) :
    wpList Tryz.prog ops Q ({ dst := dst, op := .store 286 x y, type := ty, pos := pos, after := after, guard := none } :: rest) a w :=
  wpList_store_row rfl 286 x y rfl g stepsK hx hy t _ hg (by kernel_rfl) rfl (by kernel_rfl) (h _ (setRow_heap w g _ stepsK t (0, 0) hg) ((Keeps.refl [g] w).setRow g _ (.inl (by simp))))
/-- What stands in the array. -/
def kvFn (f : Int) : Value := if f < 6 then .nilFunc else fnV (kvK f)
theorem index_stepsK {f : Int} (h0 : 0 ≤ f) (h9 : f ≤ 9) (w : World) : (Instr.index 286 (.agg stepsK) (.int .u8 f)).run Tryz.prog w = .ok (kvFn f) w := by
  rcases (by omega : f = 0 ∨ f = 1 ∨ f = 2 ∨ f = 3 ∨ f = 4 ∨ f = 5 ∨ f = 6 ∨ f = 7 ∨ f = 8 ∨ f = 9) with rfl | rfl | rfl | rfl | rfl | rfl | rfl | rfl | rfl | rfl <;> kernel_rfl
theorem yields_idxK (hw : Region.wanted o (yielded ops a.tmps) = true) (x y : Operand) (ho : o.op = .index 286 x y) {f : Int} (hx : a.eval x = .agg stepsK) (hy : a.eval y = .int .u8 f) (h0 : 0 ≤ f) (h9 : f ≤ 9) : YieldsIf Tryz.prog ops S o (kvFn f) a :=
  Or.inl ⟨hw, by
    intro w _
    unfold execOp
    have h := index_stepsK h0 h9 w
    simp only [ho, hx, hy, Sem.run_bind]
    simp [h, Result.andThen]⟩
end
theorem kvSteps_any (w : World) : Calls Tryz.prog 183 #[] w fun e w' => e = .returned (.agg stepsK) ∧ Keeps [] w w' := by
  have h := heap_alloc_new w (.cells #[.nilFunc, .nilFunc, .nilFunc, .nilFunc, .nilFunc, .nilFunc, .nilFunc, .nilFunc, .nilFunc, .nilFunc] 286)
  have HN := Lib.hid h
  have HK := Lib.hid (show Keeps [] w (w.alloc (.cells #[.nilFunc, .nilFunc, .nilFunc, .nilFunc, .nilFunc, .nilFunc, .nilFunc, .nilFunc, .nilFunc, .nilFunc] 286)) from (Keeps.refl _ _).alloc _)
  clear h
  go_enter Tryz.func183, Tryz.ntmps183
  go_wp2_with ((with_reducible refine wpList_putS11 (g := w.heap.size) ?_ ?_ HN.out ?_); exact rfl; exact rfl)
  intro W hW hk
  have HW := Lib.hid hW; have HKW := Lib.hid hk
  clear hW hk
  go_wp2_with fail
  try simp only [Exit.inBlock, Exit.then]
  exact bodyPost_ret (results_cell_row (P := Tryz.prog) rfl _ _ _ _ _ _ _ rfl HW.out Tryz.underlying286 rfl (by kernel_rfl)) rfl ⟨rfl, HK.out.trans HKW.out (fun q hq => .inr (by simp at hq; omega))⟩
end Go.Proofs.YtbnhcggjcdipeaaGreatDoor
/-
  The program's key map: which step is an operation's.
-/
namespace Go.Proofs.YtbnhcggjcdipeaaGreatDoor
open Go.RowKit
set_option maxHeartbeats 8000000
set_option maxRecDepth 100000
/-- What stepOf tells. -/
def kvSt (x : Opn) : Value := if 9 < x.f ∨ 7 < x.k then .nilFunc else kvFn x.f
theorem kvStepOf_any (w : World) (x : Opn) (hx : x.In) : Calls Tryz.prog 155 #[x.val] w fun e w' => e = .returned (kvSt x) ∧ Keeps [] w w' := by
  have hf0 := hx.f0; have hk0 := hx.k0
  by_cases h9 : 9 < x.f
  · have e : kvSt x = .nilFunc := by unfold kvSt; rw [if_pos (.inl h9)]
    rw [e]
    have HK := Lib.hid (show Keeps [] w (w.alloc (.cells #[.int .u8 x.f, .int .u8 x.o, .int .u8 x.k, .int .u16 x.a, .int .u16 x.b] 47)) from (Keeps.refl _ _).alloc _)
    have t9 : decide (9 < x.f) = true := decide_eq_true h9
    clear hx e
    unfold Opn.val
    go_enter Tryz.func155, Tryz.ntmps155
    go_wp2_with fail
    go_ret
    exact ⟨rfl, HK.out⟩
  · by_cases h7 : 7 < x.k
    · have e : kvSt x = .nilFunc := by unfold kvSt; rw [if_pos (.inr h7)]
      rw [e]
      have HK := Lib.hid (show Keeps [] w (w.alloc (.cells #[.int .u8 x.f, .int .u8 x.o, .int .u8 x.k, .int .u16 x.a, .int .u16 x.b] 47)) from (Keeps.refl _ _).alloc _)
      have h8 : 8 ≤ x.k := by omega
      clear hx e
      unfold Opn.val
      go_enter Tryz.func155, Tryz.ntmps155
      go_wp2_with fail
      go_ret
      exact ⟨rfl, HK.out⟩
    · have e : kvSt x = kvFn x.f := by unfold kvSt; rw [if_neg (by omega)]
      rw [e]
      obtain ⟨W, hW⟩ : ∃ W, W = w.alloc (.cells #[.int .u8 x.f, .int .u8 x.o, .int .u8 x.k, .int .u16 x.a, .int .u16 x.b] 47) := ⟨_, rfl⟩
      have hk0' : Keeps [] w W := by rw [hW]; exact (Keeps.refl _ _).alloc _
      have hn : W.heap[w.heap.size]? = some (.cells #[.int .u8 x.f, .int .u8 x.o, .int .u8 x.k, .int .u16 x.a, .int .u16 x.b] 47 (0, 0)) := by rw [hW]; exact heap_alloc_new w _
      obtain ⟨R, hR⟩ : ∃ R, R = w.heap.size := ⟨_, rfl⟩
      rw [← hR] at hn
      obtain ⟨S, hS⟩ : ∃ S : World → Prop, S = fun y => Keeps [] W y := ⟨_, rfl⟩
      have HSE := Lib.hid hS
      have hSD : S W.drew := by rw [hS]; exact (Keeps.refl _ _).drew
      have HSF := Lib.hid (fun (w' : World) (hh : S w') => show w'.cell? ⟨R, 0, none⟩ = some (.int .u8 x.f) from by rw [hS] at hh; exact hh.cell (cell_lit hn 0 rfl) (by simp))
      have HK := Lib.hid hk0'; have HRR := Lib.hid hR; have HWW := Lib.hid hW
      have h8 : ¬ 8 ≤ x.k := by omega
      have hf9 : x.f ≤ 9 := by omega
      clear hx e hW hk0' hn hR hS
      unfold Opn.val
      go_enter Tryz.func155, Tryz.ntmps155
      go_wp2_with fail
      rw [← HRR.out, ← HWW.out]
      clear HRR HWW
      refine wp_region_noPanic ?_
      refine wp_region_held_drew (S := S) (by kernel_rfl) hSD (fun hHeld => ?_)
      refine tw 1 (h := ?_)
      refine tk 2 (y := by exact Or.inl ⟨by rfl, by intro w hSw; have q0 := HSF.out w hSw; go_simp; try with_reducible rfl⟩) (h := ?_)
      refine rp 0 (h := fun K hK => ?_)
      refine wp_call9 183 _ _ rfl [] rfl Tryz.func183 (by kernel_rfl) (by kernel_rfl) ((kvSteps_any W.drew).mono ?_)
      rintro e W1 ⟨rfl, hk1⟩
      refine ⟨_, rfl, ?_⟩
      have HK1 := Lib.hid (((Keeps.refl [] W).drew).trans hk1 (FSub.refl _ _))
      clear hk1
      refine hK.out _ _ (by rw [HSE.out]; exact HK1.out) (fun hHeld => ?_); clear hK K; try simp only [Act.put, lsA, lsZ, lsS]
      refine tk 3 (y := by exact yields_idxK (by rfl) _ _ rfl rfl rfl hf0 hf9) (h := ?_)
      refine tw 4 (h := ?_)
      refine wpAnyH_done (by kernel_rfl) ?_ _
      refine NoPanic.normal ?_
      go_wp2_with fail
      go_ret
      exact ⟨rfl, HK.out.trans HK1.out (FSub.refl _ _)⟩
end Go.Proofs.YtbnhcggjcdipeaaGreatDoor
