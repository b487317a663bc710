/-
  The program's objects: how they lie in memory; calls of function values with what they captured.
-/
import Derived.Test.YtdachaekcjbfmaaGreatDoorMS29
import Derived.Test.YtdachaekcjbfmaaGreatDoorMS15
import Derived.Test.YtdachaekcjbfmaaGreatDoorMS08
import Derived.Test.YtdachaekcjbfmaaGreatDoorMS30
set_option linter.unusedSimpArgs false
set_option linter.unusedVariables false
namespace Go.Proofs.YtdachaekcjbfmaaGreatDoor
open Go.RowKit
set_option maxRecDepth 100000
def obR (s : Int) : Value := .iface 181 (.agg #[.int .u8 0, .int .u16 s])
def obQ (v : Value) : Value := .iface 193 (.agg #[.int .u8 1, v])
/-- A key map's cells, behind its model. -/
def obKA (h : Int) (vs : List Int) : Array Value :=
  #[.int .u8 2, .int .u8 h, .int .u16 (vs.getD 0 0), .int .u16 (vs.getD 1 0), .int .u16 (vs.getD 2 0), .int .u16 (vs.getD 3 0), .int .u16 (vs.getD 4 0), .int .u16 (vs.getD 5 0), .int .u16 (vs.getD 6 0), .int .u16 (vs.getD 7 0)]
def obK (m : Kv) : Value := .iface 201 (.agg (obKA (kvH m) (kvV m)))
def obL (s : Int) : Value := .iface 223 (.agg #[.int .u8 3, .int .u8 s])
/-- The object as memory has it. -/
def ObAt (w : World) (o : Value) : Md → Prop
  | .rg s => o = obR s ∧ (0 ≤ s ∧ s < 65536)
  | .qu l => ∃ v, o = obQ v ∧ QIn w v l ∧ U16s l
  | .mp m => o = obK m ∧ KvIn m
  | .lk s => o = obL s ∧ (0 ≤ s ∧ s ≤ 16)
def obFoot : Value → List Nat
  | .iface _ (.agg a) => own (a.getD 1 undef)
  | _ => []
def stFoot : Value → List Nat
  | .agg a => obFoot (a.getD 0 undef)
  | _ => []
theorem ObAt.in_ {w : World} {o : Value} {S : Md} (h : ObAt w o S) : S.In := by
  cases S with
  | rg s => exact h.2
  | qu l => obtain ⟨v, -, -, h⟩ := h; exact h
  | mp m => exact h.2
  | lk s => exact h.2
theorem ObAt.one {w : World} {o : Value} {S : Md} (h : ObAt w o S) : o.oneCell' = true := by
  cases S with
  | rg s => obtain ⟨rfl, -⟩ := h; rfl
  | qu l => obtain ⟨v, rfl, -⟩ := h; rfl
  | mp m => obtain ⟨rfl, -⟩ := h; rfl
  | lk s => obtain ⟨rfl, -⟩ := h; rfl
theorem ObAt.keep {w w' : World} {F : List Nat} {o : Value} {S : Md} (h : ObAt w o S) (hk : Keeps F w w') (hF : ∀ q ∈ obFoot o, q ∉ F) : ObAt w' o S := by
  cases S with
  | rg s => exact h
  | qu l => obtain ⟨v, rfl, h, hu⟩ := h; exact ⟨v, rfl, h.keeps hk hF, hu⟩
  | mp m => exact h
  | lk s => exact h
theorem ObAt.new {w w' : World} {o : Value} {S : Md} (h : ObAt w o S) (hk : Keeps [] w w') : ObAt w' o S := h.keep hk (by simp)
theorem ObAt.old {w : World} {o : Value} {S : Md} (h : ObAt w o S) : ∀ q ∈ obFoot o, q < w.heap.size := by
  cases S with
  | rg s => obtain ⟨rfl, -⟩ := h; intro q hq; cases hq
  | qu l => obtain ⟨v, rfl, h, hu⟩ := h; exact h.old
  | mp m => obtain ⟨rfl, -⟩ := h; intro q hq; cases hq
  | lk s => obtain ⟨rfl, -⟩ := h; intro q hq; cases hq
/-- A state, of an object or of none. -/
def StAt (w : World) (st : Value) (O : Option Md) : Prop := ∃ o, st = .agg #[o] ∧ match O with
  | none => o = .nilIface
  | some S => ObAt w o S
/-- What the package-level variables hold. -/
structure Glob13 (w : World) : Prop where
  ops : Glob4 w
  tab : Lib.TabIs Tryz.prog w "internal/strconv.uint64pow10" .u64 Lib.pow10Tab
theorem glob13_pow10 : Tryz.prog.globalNamed "internal/strconv.uint64pow10" = some 2 := by kernel_rfl
theorem Glob13.new {w w' : World} (h : Glob13 w) (hk : Keeps [] w w') : Glob13 w' := ⟨h.ops.new hk, var_keeps glob13_pow10 h.tab hk (by simp)⟩
/-! Calls of function values, with what they captured. -/
def CallsV (w : World) (f : Value) (args : List Value) (post : Ending → World → Prop) : Prop := ∃ k cap, f = .func (.func k) #[] cap ∧ (∃ fn, Tryz.prog.funcs[k]? = some fn ∧ (fn.name == "runtime.NumGoroutine") = false ∧ fn.body.isNone = false) ∧ Calls Tryz.prog k (args.toArray ++ cap) w post
theorem CallsV.mono {w : World} {f : Value} {args : List Value} {P Q : Ending → World → Prop} (h : CallsV w f args P) (hm : ∀ e w', P e w' → Q e w') : CallsV w f args Q := by
  obtain ⟨k, cap, h1, h2, h3⟩ := h
  exact ⟨k, cap, h1, h2, h3.mono hm⟩
theorem CallsV.one {w : World} {f : Value} {args : List Value} {P : Ending → World → Prop} (h : CallsV w f args P) : f.oneCell' = true := by
  obtain ⟨k, cap, rfl, -⟩ := h; rfl
section
variable {o : Oper} {a : Act} {w : World} {K : Act → World → Prop} {Q : Exit → Act → World → Prop}
theorem wp_callC (y : Operand) (args : Array Operand) (tys : Array TypeId) (ho : o.op = .call { callee := .value y, args := args, argTypes := tys }) {f : Value} (hy : a.eval y = f) (vs : List Value) (hv : args.toList.map a.eval = vs)
    (h : CallsV w f vs fun e w' => ∃ v, e = .returned v ∧ K (a.put o.dst v) w') : o.wp Tryz.prog a w K Q := by
  have hv2 : args.map a.eval = vs.toArray := by rw [← hv]; apply Array.ext'; simp
  obtain ⟨k, cap, rfl, ⟨fn, hf, hname, hb⟩, h⟩ := h
  unfold Oper.wp execOp
  have h1 : fn.name ≠ "runtime.NumGoroutine" := by simpa using hname
  have h2 : ∃ z, fn.body = some z := by
    cases h : fn.body with
    | none => rw [h] at hb; cases hb
    | some z => exact ⟨z, rfl⟩
  obtain ⟨z, h2⟩ := h2
  simp only [ho, resolve, invoke, Sem.run_bind, Sem.run_pure, Result.andThen_ok, hv2, hy, Deferred.ofValue, Array.empty_append]
  simp [callFunc, hf, h1, h2, Sem.run]
  rw [Oper.upon_enter]
  exact h.mono fun e w' ⟨v, he, hk⟩ => by subst he; exact hk
theorem wpList_callC {ops : Array Oper} {rest : List Oper} {dst : Option Tmp} {ty : TypeId} {pos : String} {after : Array Edge} {y : Operand} {args : Array Operand} {tys : Array TypeId} {f : Value} (vs : List Value) (hy : a.eval y = f) (hv : args.toList.map a.eval = vs)
    (h : CallsV w f vs fun e w' => ∃ v, e = .returned v ∧ wpList Tryz.prog ops Q rest (a.put dst v) w') :
    wpList Tryz.prog ops Q ({ dst := dst, op := .call { callee := .value y, args := args, argTypes := tys }, type := ty, pos := pos, after := after, guard := none } :: rest) a w :=
  wpList_plain rfl fun _ hK => wp_callC y args tys rfl hy vs hv (h.mono fun _ _ ⟨v, he, hk⟩ => ⟨v, he, hK _ _ hk⟩)
end
end Go.Proofs.YtdachaekcjbfmaaGreatDoor
/-
  The program's objects: what the makers of function values make.
-/
namespace Go.Proofs.YtdachaekcjbfmaaGreatDoor
open Go.RowKit
set_option maxRecDepth 100000
/-- A function value, with what it captured. -/
def fv (p : Nat × Array Value) : Value := .func (.func p.1) #[] p.2
abbrev ptr (p : Nat) : Value := .pointer (some ⟨p, 0, none⟩)
set_option maxHeartbeats 8000000
theorem mdInitR_any (w : World) (m : Int) (k : Nat) : Calls Tryz.prog 65 #[.int .u8 m, fnV k] w fun e w' => ∃ p q, e = .returned (.func (.func 109) #[] #[ptr p, ptr q]) ∧ w'.cell? ⟨p, 0, none⟩ = some (.int .u8 m) ∧ w'.cell? ⟨q, 0, none⟩ = some (fnV k) ∧ Keeps [] w w' ∧ w.heap.size ≤ p ∧ w.heap.size ≤ q := by
  obtain ⟨e1, h0, h1, hk⟩ := two_vars w #[.int .u8 m] #[fnV k] 5 137
  unfold fnV at *
  go_enter Tryz.func65, Tryz.ntmps65
  go_wp2_with fail
  go_ret
  exact ⟨_, _, rfl, cell_lit h0 0 rfl, cell_lit h1 0 rfl, hk, Nat.le_refl _, Nat.le_succ _⟩
theorem mdInitQ_any (w : World) (m : Int) (k : Nat) : Calls Tryz.prog 76 #[.int .u8 m, fnV k] w fun e w' => ∃ p q, e = .returned (.func (.func 116) #[] #[ptr p, ptr q]) ∧ w'.cell? ⟨p, 0, none⟩ = some (.int .u8 m) ∧ w'.cell? ⟨q, 0, none⟩ = some (fnV k) ∧ Keeps [] w w' ∧ w.heap.size ≤ p ∧ w.heap.size ≤ q := by
  obtain ⟨e1, h0, h1, hk⟩ := two_vars w #[.int .u8 m] #[fnV k] 5 149
  unfold fnV at *
  go_enter Tryz.func76, Tryz.ntmps76
  go_wp2_with fail
  go_ret
  exact ⟨_, _, rfl, cell_lit h0 0 rfl, cell_lit h1 0 rfl, hk, Nat.le_refl _, Nat.le_succ _⟩
theorem mdInitK_any (w : World) (m : Int) (k : Nat) : Calls Tryz.prog 87 #[.int .u8 m, fnV k] w fun e w' => ∃ p q, e = .returned (.func (.func 125) #[] #[ptr p, ptr q]) ∧ w'.cell? ⟨p, 0, none⟩ = some (.int .u8 m) ∧ w'.cell? ⟨q, 0, none⟩ = some (fnV k) ∧ Keeps [] w w' ∧ w.heap.size ≤ p ∧ w.heap.size ≤ q := by
  obtain ⟨e1, h0, h1, hk⟩ := two_vars w #[.int .u8 m] #[fnV k] 5 162
  unfold fnV at *
  go_enter Tryz.func87, Tryz.ntmps87
  go_wp2_with fail
  go_ret
  exact ⟨_, _, rfl, cell_lit h0 0 rfl, cell_lit h1 0 rfl, hk, Nat.le_refl _, Nat.le_succ _⟩
theorem mdInitL_any (w : World) (m : Int) (k : Nat) : Calls Tryz.prog 98 #[.int .u8 m, fnV k] w fun e w' => ∃ p q, e = .returned (.func (.func 139) #[] #[ptr p, ptr q]) ∧ w'.cell? ⟨p, 0, none⟩ = some (.int .u8 m) ∧ w'.cell? ⟨q, 0, none⟩ = some (fnV k) ∧ Keeps [] w w' ∧ w.heap.size ≤ p ∧ w.heap.size ≤ q := by
  obtain ⟨e1, h0, h1, hk⟩ := two_vars w #[.int .u8 m] #[fnV k] 5 173
  unfold fnV at *
  go_enter Tryz.func98, Tryz.ntmps98
  go_wp2_with fail
  go_ret
  exact ⟨_, _, rfl, cell_lit h0 0 rfl, cell_lit h1 0 rfl, hk, Nat.le_refl _, Nat.le_succ _⟩
theorem mdDeR_any (w : World) (m : Int) (k : Nat) : Calls Tryz.prog 73 #[.int .u8 m, fnV k] w fun e w' => ∃ p q, e = .returned (.func (.func 115) #[] #[ptr q, ptr p]) ∧ w'.cell? ⟨p, 0, none⟩ = some (.int .u8 m) ∧ w'.cell? ⟨q, 0, none⟩ = some (fnV k) ∧ Keeps [] w w' ∧ w.heap.size ≤ p ∧ w.heap.size ≤ q := by
  obtain ⟨e1, h0, h1, hk⟩ := two_vars w #[.int .u8 m] #[fnV k] 5 145
  unfold fnV at *
  go_enter Tryz.func73, Tryz.ntmps73
  go_wp2_with fail
  go_ret
  exact ⟨_, _, rfl, cell_lit h0 0 rfl, cell_lit h1 0 rfl, hk, Nat.le_refl _, Nat.le_succ _⟩
theorem mdDeQ_any (w : World) (m : Int) (k : Nat) : Calls Tryz.prog 84 #[.int .u8 m, fnV k] w fun e w' => ∃ p q, e = .returned (.func (.func 124) #[] #[ptr q, ptr p]) ∧ w'.cell? ⟨p, 0, none⟩ = some (.int .u8 m) ∧ w'.cell? ⟨q, 0, none⟩ = some (fnV k) ∧ Keeps [] w w' ∧ w.heap.size ≤ p ∧ w.heap.size ≤ q := by
  obtain ⟨e1, h0, h1, hk⟩ := two_vars w #[.int .u8 m] #[fnV k] 5 157
  unfold fnV at *
  go_enter Tryz.func84, Tryz.ntmps84
  go_wp2_with fail
  go_ret
  exact ⟨_, _, rfl, cell_lit h0 0 rfl, cell_lit h1 0 rfl, hk, Nat.le_refl _, Nat.le_succ _⟩
theorem mdDeK_any (w : World) (m : Int) (k : Nat) : Calls Tryz.prog 95 #[.int .u8 m, fnV k] w fun e w' => ∃ p q, e = .returned (.func (.func 134) #[] #[ptr q, ptr p]) ∧ w'.cell? ⟨p, 0, none⟩ = some (.int .u8 m) ∧ w'.cell? ⟨q, 0, none⟩ = some (fnV k) ∧ Keeps [] w w' ∧ w.heap.size ≤ p ∧ w.heap.size ≤ q := by
  obtain ⟨e1, h0, h1, hk⟩ := two_vars w #[.int .u8 m] #[fnV k] 5 170
  unfold fnV at *
  go_enter Tryz.func95, Tryz.ntmps95
  go_wp2_with fail
  go_ret
  exact ⟨_, _, rfl, cell_lit h0 0 rfl, cell_lit h1 0 rfl, hk, Nat.le_refl _, Nat.le_succ _⟩
theorem mdDeL_any (w : World) (m : Int) (k : Nat) : Calls Tryz.prog 105 #[.int .u8 m, fnV k] w fun e w' => ∃ p q, e = .returned (.func (.func 145) #[] #[ptr q, ptr p]) ∧ w'.cell? ⟨p, 0, none⟩ = some (.int .u8 m) ∧ w'.cell? ⟨q, 0, none⟩ = some (fnV k) ∧ Keeps [] w w' ∧ w.heap.size ≤ p ∧ w.heap.size ≤ q := by
  obtain ⟨e1, h0, h1, hk⟩ := two_vars w #[.int .u8 m] #[fnV k] 5 179
  unfold fnV at *
  go_enter Tryz.func105, Tryz.ntmps105
  go_wp2_with fail
  go_ret
  exact ⟨_, _, rfl, cell_lit h0 0 rfl, cell_lit h1 0 rfl, hk, Nat.le_refl _, Nat.le_succ _⟩
theorem mdAnyR_any (w : World) (k : Nat × Array Value) : Calls Tryz.prog 68 #[fv k] w fun e w' => ∃ p, e = .returned (.func (.func 111) #[] #[ptr p]) ∧ w'.cell? ⟨p, 0, none⟩ = some (fv k) ∧ Keeps [] w w' ∧ w.heap.size ≤ p := by
  have h0 := heap_alloc_new w (.cells #[fv k] 141)
  have hk : Keeps [] w (w.alloc (.cells #[fv k] 141)) := (Keeps.refl _ _).alloc _
  unfold fv at *
  go_enter Tryz.func68, Tryz.ntmps68
  go_wp2_with fail
  go_ret
  exact ⟨_, rfl, cell_lit h0 0 rfl, hk, Nat.le_refl _⟩
theorem mdAnyQ_any (w : World) (k : Nat × Array Value) : Calls Tryz.prog 79 #[fv k] w fun e w' => ∃ p, e = .returned (.func (.func 118) #[] #[ptr p]) ∧ w'.cell? ⟨p, 0, none⟩ = some (fv k) ∧ Keeps [] w w' ∧ w.heap.size ≤ p := by
  have h0 := heap_alloc_new w (.cells #[fv k] 153)
  have hk : Keeps [] w (w.alloc (.cells #[fv k] 153)) := (Keeps.refl _ _).alloc _
  unfold fv at *
  go_enter Tryz.func79, Tryz.ntmps79
  go_wp2_with fail
  go_ret
  exact ⟨_, rfl, cell_lit h0 0 rfl, hk, Nat.le_refl _⟩
theorem mdAnyK_any (w : World) (k : Nat × Array Value) : Calls Tryz.prog 90 #[fv k] w fun e w' => ∃ p, e = .returned (.func (.func 127) #[] #[ptr p]) ∧ w'.cell? ⟨p, 0, none⟩ = some (fv k) ∧ Keeps [] w w' ∧ w.heap.size ≤ p := by
  have h0 := heap_alloc_new w (.cells #[fv k] 166)
  have hk : Keeps [] w (w.alloc (.cells #[fv k] 166)) := (Keeps.refl _ _).alloc _
  unfold fv at *
  go_enter Tryz.func90, Tryz.ntmps90
  go_wp2_with fail
  go_ret
  exact ⟨_, rfl, cell_lit h0 0 rfl, hk, Nat.le_refl _⟩
theorem mdStR_any (w : World) (k : Nat × Array Value) : Calls Tryz.prog 67 #[fv k] w fun e w' => ∃ p, e = .returned (.func (.func 110) #[] #[ptr p]) ∧ w'.cell? ⟨p, 0, none⟩ = some (fv k) ∧ Keeps [] w w' ∧ w.heap.size ≤ p := by
  have h0 := heap_alloc_new w (.cells #[fv k] 139)
  have hk : Keeps [] w (w.alloc (.cells #[fv k] 139)) := (Keeps.refl _ _).alloc _
  unfold fv at *
  go_enter Tryz.func67, Tryz.ntmps67
  go_wp2_with fail
  go_ret
  exact ⟨_, rfl, cell_lit h0 0 rfl, hk, Nat.le_refl _⟩
theorem mdStQ_any (w : World) (k : Nat × Array Value) : Calls Tryz.prog 78 #[fv k] w fun e w' => ∃ p, e = .returned (.func (.func 117) #[] #[ptr p]) ∧ w'.cell? ⟨p, 0, none⟩ = some (fv k) ∧ Keeps [] w w' ∧ w.heap.size ≤ p := by
  have h0 := heap_alloc_new w (.cells #[fv k] 151)
  have hk : Keeps [] w (w.alloc (.cells #[fv k] 151)) := (Keeps.refl _ _).alloc _
  unfold fv at *
  go_enter Tryz.func78, Tryz.ntmps78
  go_wp2_with fail
  go_ret
  exact ⟨_, rfl, cell_lit h0 0 rfl, hk, Nat.le_refl _⟩
theorem mdStK_any (w : World) (k : Nat × Array Value) : Calls Tryz.prog 89 #[fv k] w fun e w' => ∃ p, e = .returned (.func (.func 126) #[] #[ptr p]) ∧ w'.cell? ⟨p, 0, none⟩ = some (fv k) ∧ Keeps [] w w' ∧ w.heap.size ≤ p := by
  have h0 := heap_alloc_new w (.cells #[fv k] 164)
  have hk : Keeps [] w (w.alloc (.cells #[fv k] 164)) := (Keeps.refl _ _).alloc _
  unfold fv at *
  go_enter Tryz.func89, Tryz.ntmps89
  go_wp2_with fail
  go_ret
  exact ⟨_, rfl, cell_lit h0 0 rfl, hk, Nat.le_refl _⟩
theorem mdStL_any (w : World) (k : Nat × Array Value) : Calls Tryz.prog 100 #[fv k] w fun e w' => ∃ p, e = .returned (.func (.func 140) #[] #[ptr p]) ∧ w'.cell? ⟨p, 0, none⟩ = some (fv k) ∧ Keeps [] w w' ∧ w.heap.size ≤ p := by
  have h0 := heap_alloc_new w (.cells #[fv k] 175)
  have hk : Keeps [] w (w.alloc (.cells #[fv k] 175)) := (Keeps.refl _ _).alloc _
  unfold fv at *
  go_enter Tryz.func100, Tryz.ntmps100
  go_wp2_with fail
  go_ret
  exact ⟨_, rfl, cell_lit h0 0 rfl, hk, Nat.le_refl _⟩
theorem mdStrR_any (w : World) (k : Nat × Array Value) : Calls Tryz.prog 70 #[fv k] w fun e w' => ∃ p, e = .returned (.func (.func 113) #[] #[ptr p]) ∧ w'.cell? ⟨p, 0, none⟩ = some (fv k) ∧ Keeps [] w w' ∧ w.heap.size ≤ p := by
  have h0 := heap_alloc_new w (.cells #[fv k] 143)
  have hk : Keeps [] w (w.alloc (.cells #[fv k] 143)) := (Keeps.refl _ _).alloc _
  unfold fv at *
  go_enter Tryz.func70, Tryz.ntmps70
  go_wp2_with fail
  go_ret
  exact ⟨_, rfl, cell_lit h0 0 rfl, hk, Nat.le_refl _⟩
theorem mdStrQ_any (w : World) (k : Nat × Array Value) : Calls Tryz.prog 81 #[fv k] w fun e w' => ∃ p, e = .returned (.func (.func 121) #[] #[ptr p]) ∧ w'.cell? ⟨p, 0, none⟩ = some (fv k) ∧ Keeps [] w w' ∧ w.heap.size ≤ p := by
  have h0 := heap_alloc_new w (.cells #[fv k] 155)
  have hk : Keeps [] w (w.alloc (.cells #[fv k] 155)) := (Keeps.refl _ _).alloc _
  unfold fv at *
  go_enter Tryz.func81, Tryz.ntmps81
  go_wp2_with fail
  go_ret
  exact ⟨_, rfl, cell_lit h0 0 rfl, hk, Nat.le_refl _⟩
theorem mdStrK_any (w : World) (k : Nat × Array Value) : Calls Tryz.prog 92 #[fv k] w fun e w' => ∃ p, e = .returned (.func (.func 129) #[] #[ptr p]) ∧ w'.cell? ⟨p, 0, none⟩ = some (fv k) ∧ Keeps [] w w' ∧ w.heap.size ≤ p := by
  have h0 := heap_alloc_new w (.cells #[fv k] 168)
  have hk : Keeps [] w (w.alloc (.cells #[fv k] 168)) := (Keeps.refl _ _).alloc _
  unfold fv at *
  go_enter Tryz.func92, Tryz.ntmps92
  go_wp2_with fail
  go_ret
  exact ⟨_, rfl, cell_lit h0 0 rfl, hk, Nat.le_refl _⟩
theorem mdStrL_any (w : World) (k : Nat × Array Value) : Calls Tryz.prog 102 #[fv k] w fun e w' => ∃ p, e = .returned (.func (.func 143) #[] #[ptr p]) ∧ w'.cell? ⟨p, 0, none⟩ = some (fv k) ∧ Keeps [] w w' ∧ w.heap.size ≤ p := by
  have h0 := heap_alloc_new w (.cells #[fv k] 177)
  have hk : Keeps [] w (w.alloc (.cells #[fv k] 177)) := (Keeps.refl _ _).alloc _
  unfold fv at *
  go_enter Tryz.func102, Tryz.ntmps102
  go_wp2_with fail
  go_ret
  exact ⟨_, rfl, cell_lit h0 0 rfl, hk, Nat.le_refl _⟩
end Go.Proofs.YtdachaekcjbfmaaGreatDoor
