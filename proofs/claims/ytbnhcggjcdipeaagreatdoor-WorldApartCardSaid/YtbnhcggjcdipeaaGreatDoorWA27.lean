/-
  The program's objects: how they lie in memory; calls of function values with what they captured.
-/
import Derived.Test.YtbnhcggjcdipeaaGreatDoorWA25
import Derived.Test.YtbnhcggjcdipeaaGreatDoorWA14
import Derived.Test.YtbnhcggjcdipeaaGreatDoorWA08
import Derived.Test.YtbnhcggjcdipeaaGreatDoorWA26
set_option linter.unusedSimpArgs false
set_option linter.unusedVariables false
namespace Go.Proofs.YtbnhcggjcdipeaaGreatDoor
open Go.RowKit
set_option maxRecDepth 100000
def obR (s : Int) : Value := .iface 226 (.agg #[.int .u8 0, .int .u16 s])
def obQ (v : Value) : Value := .iface 237 (.agg #[.int .u8 1, v])
/-- A key map's cells, behind its model. -/
def obKA (h : Int) (vs : List Int) : Array Value :=
  #[.int .u8 2, .int .u8 h, .int .u16 (vs.getD 0 0), .int .u16 (vs.getD 1 0), .int .u16 (vs.getD 2 0), .int .u16 (vs.getD 3 0), .int .u16 (vs.getD 4 0), .int .u16 (vs.getD 5 0), .int .u16 (vs.getD 6 0), .int .u16 (vs.getD 7 0)]
def obK (m : Kv) : Value := .iface 243 (.agg (obKA (kvH m) (kvV m)))
def obL (s : Int) : Value := .iface 265 (.agg #[.int .u8 3, .int .u8 s])
/-- The object as memory has it. -/
def ObAt (w : World) (o : Value) : Md → Prop
  | .rg s => o = obR s ∧ (0 ≤ s ∧ s < 65536)
  | .qu l => ∃ v, o = obQ v ∧ QIn w v l ∧ U16s l
  | .mp m => o = obK m ∧ KvIn m
  | .lk s => o = obL s ∧ (0 ≤ s ∧ s ≤ 16)
def obFoot : Value → List Nat
  | .iface _ (.agg a) => own (a.getD 1 undef)
  | _ => []
def stFoot : Value → List Nat
  | .agg a => obFoot (a.getD 0 undef)
  | _ => []
theorem ObAt.in_ {w : World} {o : Value} {S : Md} (h : ObAt w o S) : S.In := by
  cases S with
  | rg s => exact h.2
  | qu l => obtain ⟨v, -, -, h⟩ := h; exact h
  | mp m => exact h.2
  | lk s => exact h.2
theorem ObAt.one {w : World} {o : Value} {S : Md} (h : ObAt w o S) : o.oneCell' = true := by
  cases S with
  | rg s => obtain ⟨rfl, -⟩ := h; rfl
  | qu l => obtain ⟨v, rfl, -⟩ := h; rfl
  | mp m => obtain ⟨rfl, -⟩ := h; rfl
  | lk s => obtain ⟨rfl, -⟩ := h; rfl
theorem ObAt.keep {w w' : World} {F : List Nat} {o : Value} {S : Md} (h : ObAt w o S) (hk : Keeps F w w') (hF : ∀ q ∈ obFoot o, q ∉ F) : ObAt w' o S := by
  cases S with
  | rg s => exact h
  | qu l => obtain ⟨v, rfl, h, hu⟩ := h; exact ⟨v, rfl, h.keeps hk hF, hu⟩
  | mp m => exact h
  | lk s => exact h
theorem ObAt.new {w w' : World} {o : Value} {S : Md} (h : ObAt w o S) (hk : Keeps [] w w') : ObAt w' o S := h.keep hk (by simp)
theorem ObAt.old {w : World} {o : Value} {S : Md} (h : ObAt w o S) : ∀ q ∈ obFoot o, q < w.heap.size := by
  cases S with
  | rg s => obtain ⟨rfl, -⟩ := h; intro q hq; cases hq
  | qu l => obtain ⟨v, rfl, h, hu⟩ := h; exact h.old
  | mp m => obtain ⟨rfl, -⟩ := h; intro q hq; cases hq
  | lk s => obtain ⟨rfl, -⟩ := h; intro q hq; cases hq
/-- A state, of an object or of none. -/
def StAt (w : World) (st : Value) (O : Option Md) : Prop := ∃ o, st = .agg #[o] ∧ match O with
  | none => o = .nilIface
  | some S => ObAt w o S
/-- What the package-level variables hold. -/
structure Glob13 (w : World) : Prop where
  ops : Glob4 w
  tab : Lib.TabIs Tryz.prog w "internal/strconv.uint64pow10" .u64 Lib.pow10Tab
theorem glob13_pow10 : Tryz.prog.globalNamed "internal/strconv.uint64pow10" = some 1 := by kernel_rfl
theorem Glob13.new {w w' : World} (h : Glob13 w) (hk : Keeps [] w w') : Glob13 w' := ⟨h.ops.new hk, var_keeps glob13_pow10 h.tab hk (by simp)⟩
/-! Calls of function values, with what they captured. -/
def CallsV (w : World) (f : Value) (args : List Value) (post : Ending → World → Prop) : Prop := ∃ k cap, f = .func (.func k) #[] cap ∧ (∃ fn, Tryz.prog.funcs[k]? = some fn ∧ (fn.name == "runtime.NumGoroutine") = false ∧ fn.body.isNone = false) ∧ Calls Tryz.prog k (args.toArray ++ cap) w post
theorem CallsV.mono {w : World} {f : Value} {args : List Value} {P Q : Ending → World → Prop} (h : CallsV w f args P) (hm : ∀ e w', P e w' → Q e w') : CallsV w f args Q := by
  obtain ⟨k, cap, h1, h2, h3⟩ := h
  exact ⟨k, cap, h1, h2, h3.mono hm⟩
section
variable {o : Oper} {a : Act} {w : World} {K : Act → World → Prop} {Q : Exit → Act → World → Prop}
theorem wp_callC (y : Operand) (args : Array Operand) (tys : Array TypeId) (ho : o.op = .call { callee := .value y, args := args, argTypes := tys }) {f : Value} (hy : a.eval y = f) (vs : List Value) (hv : args.toList.map a.eval = vs)
    (h : CallsV w f vs fun e w' => ∃ v, e = .returned v ∧ K (a.put o.dst v) w') : o.wp Tryz.prog a w K Q := by
  have hv2 : args.map a.eval = vs.toArray := by rw [← hv]; apply Array.ext'; simp
  obtain ⟨k, cap, rfl, ⟨fn, hf, hname, hb⟩, h⟩ := h
  unfold Oper.wp execOp
  have h1 : fn.name ≠ "runtime.NumGoroutine" := by simpa using hname
  have h2 : ∃ z, fn.body = some z := by
    cases h : fn.body with
    | none => rw [h] at hb; cases hb
    | some z => exact ⟨z, rfl⟩
  obtain ⟨z, h2⟩ := h2
  simp only [ho, resolve, invoke, Sem.run_bind, Sem.run_pure, Result.andThen_ok, hv2, hy, Deferred.ofValue, Array.empty_append]
  simp [callFunc, hf, h1, h2, Sem.run]
  rw [Oper.upon_enter]
  exact h.mono fun e w' ⟨v, he, hk⟩ => by subst he; exact hk
theorem wpList_callC {ops : Array Oper} {rest : List Oper} {dst : Option Tmp} {ty : TypeId} {pos : String} {after : Array Edge} {y : Operand} {args : Array Operand} {tys : Array TypeId} {f : Value} (vs : List Value) (hy : a.eval y = f) (hv : args.toList.map a.eval = vs)
    (h : CallsV w f vs fun e w' => ∃ v, e = .returned v ∧ wpList Tryz.prog ops Q rest (a.put dst v) w') :
    wpList Tryz.prog ops Q ({ dst := dst, op := .call { callee := .value y, args := args, argTypes := tys }, type := ty, pos := pos, after := after, guard := none } :: rest) a w :=
  wpList_plain rfl fun _ hK => wp_callC y args tys rfl hy vs hv (h.mono fun _ _ ⟨v, he, hk⟩ => ⟨v, he, hK _ _ hk⟩)
end
end Go.Proofs.YtbnhcggjcdipeaaGreatDoor
/-
  The program's objects: what the makers of function values make.
-/
namespace Go.Proofs.YtbnhcggjcdipeaaGreatDoor
open Go.RowKit
set_option maxRecDepth 100000
/-- A function value, with what it captured. -/
def fv (p : Nat × Array Value) : Value := .func (.func p.1) #[] p.2
abbrev ptr (p : Nat) : Value := .pointer (some ⟨p, 0, none⟩)
set_option maxHeartbeats 8000000
theorem mdInitR_any (w : World) (m : Int) (k : Nat) : Calls Tryz.prog 87 #[.int .u8 m, fnV k] w fun e w' => ∃ p q, e = .returned (.func (.func 137) #[] #[ptr p, ptr q]) ∧ w'.cell? ⟨p, 0, none⟩ = some (.int .u8 m) ∧ w'.cell? ⟨q, 0, none⟩ = some (fnV k) ∧ Keeps [] w w' ∧ w.heap.size ≤ p ∧ w.heap.size ≤ q := by
  obtain ⟨e1, h0, h1, hk⟩ := two_vars w #[.int .u8 m] #[fnV k] 5 173
  unfold fnV at *
  go_enter Tryz.func87, Tryz.ntmps87
  go_wp2_with fail
  go_ret
  exact ⟨_, _, rfl, cell_lit h0 0 rfl, cell_lit h1 0 rfl, hk, Nat.le_refl _, Nat.le_succ _⟩
theorem mdInitQ_any (w : World) (m : Int) (k : Nat) : Calls Tryz.prog 98 #[.int .u8 m, fnV k] w fun e w' => ∃ p q, e = .returned (.func (.func 144) #[] #[ptr p, ptr q]) ∧ w'.cell? ⟨p, 0, none⟩ = some (.int .u8 m) ∧ w'.cell? ⟨q, 0, none⟩ = some (fnV k) ∧ Keeps [] w w' ∧ w.heap.size ≤ p ∧ w.heap.size ≤ q := by
  obtain ⟨e1, h0, h1, hk⟩ := two_vars w #[.int .u8 m] #[fnV k] 5 185
  unfold fnV at *
  go_enter Tryz.func98, Tryz.ntmps98
  go_wp2_with fail
  go_ret
  exact ⟨_, _, rfl, cell_lit h0 0 rfl, cell_lit h1 0 rfl, hk, Nat.le_refl _, Nat.le_succ _⟩
theorem mdInitK_any (w : World) (m : Int) (k : Nat) : Calls Tryz.prog 109 #[.int .u8 m, fnV k] w fun e w' => ∃ p q, e = .returned (.func (.func 152) #[] #[ptr p, ptr q]) ∧ w'.cell? ⟨p, 0, none⟩ = some (.int .u8 m) ∧ w'.cell? ⟨q, 0, none⟩ = some (fnV k) ∧ Keeps [] w w' ∧ w.heap.size ≤ p ∧ w.heap.size ≤ q := by
  obtain ⟨e1, h0, h1, hk⟩ := two_vars w #[.int .u8 m] #[fnV k] 5 198
  unfold fnV at *
  go_enter Tryz.func109, Tryz.ntmps109
  go_wp2_with fail
  go_ret
  exact ⟨_, _, rfl, cell_lit h0 0 rfl, cell_lit h1 0 rfl, hk, Nat.le_refl _, Nat.le_succ _⟩
theorem mdInitL_any (w : World) (m : Int) (k : Nat) : Calls Tryz.prog 120 #[.int .u8 m, fnV k] w fun e w' => ∃ p q, e = .returned (.func (.func 166) #[] #[ptr p, ptr q]) ∧ w'.cell? ⟨p, 0, none⟩ = some (.int .u8 m) ∧ w'.cell? ⟨q, 0, none⟩ = some (fnV k) ∧ Keeps [] w w' ∧ w.heap.size ≤ p ∧ w.heap.size ≤ q := by
  obtain ⟨e1, h0, h1, hk⟩ := two_vars w #[.int .u8 m] #[fnV k] 5 209
  unfold fnV at *
  go_enter Tryz.func120, Tryz.ntmps120
  go_wp2_with fail
  go_ret
  exact ⟨_, _, rfl, cell_lit h0 0 rfl, cell_lit h1 0 rfl, hk, Nat.le_refl _, Nat.le_succ _⟩
theorem mdDeR_any (w : World) (m : Int) (k : Nat) : Calls Tryz.prog 95 #[.int .u8 m, fnV k] w fun e w' => ∃ p q, e = .returned (.func (.func 143) #[] #[ptr q, ptr p]) ∧ w'.cell? ⟨p, 0, none⟩ = some (.int .u8 m) ∧ w'.cell? ⟨q, 0, none⟩ = some (fnV k) ∧ Keeps [] w w' ∧ w.heap.size ≤ p ∧ w.heap.size ≤ q := by
  obtain ⟨e1, h0, h1, hk⟩ := two_vars w #[.int .u8 m] #[fnV k] 5 181
  unfold fnV at *
  go_enter Tryz.func95, Tryz.ntmps95
  go_wp2_with fail
  go_ret
  exact ⟨_, _, rfl, cell_lit h0 0 rfl, cell_lit h1 0 rfl, hk, Nat.le_refl _, Nat.le_succ _⟩
theorem mdDeQ_any (w : World) (m : Int) (k : Nat) : Calls Tryz.prog 106 #[.int .u8 m, fnV k] w fun e w' => ∃ p q, e = .returned (.func (.func 151) #[] #[ptr q, ptr p]) ∧ w'.cell? ⟨p, 0, none⟩ = some (.int .u8 m) ∧ w'.cell? ⟨q, 0, none⟩ = some (fnV k) ∧ Keeps [] w w' ∧ w.heap.size ≤ p ∧ w.heap.size ≤ q := by
  obtain ⟨e1, h0, h1, hk⟩ := two_vars w #[.int .u8 m] #[fnV k] 5 193
  unfold fnV at *
  go_enter Tryz.func106, Tryz.ntmps106
  go_wp2_with fail
  go_ret
  exact ⟨_, _, rfl, cell_lit h0 0 rfl, cell_lit h1 0 rfl, hk, Nat.le_refl _, Nat.le_succ _⟩
theorem mdDeK_any (w : World) (m : Int) (k : Nat) : Calls Tryz.prog 117 #[.int .u8 m, fnV k] w fun e w' => ∃ p q, e = .returned (.func (.func 161) #[] #[ptr q, ptr p]) ∧ w'.cell? ⟨p, 0, none⟩ = some (.int .u8 m) ∧ w'.cell? ⟨q, 0, none⟩ = some (fnV k) ∧ Keeps [] w w' ∧ w.heap.size ≤ p ∧ w.heap.size ≤ q := by
  obtain ⟨e1, h0, h1, hk⟩ := two_vars w #[.int .u8 m] #[fnV k] 5 206
  unfold fnV at *
  go_enter Tryz.func117, Tryz.ntmps117
  go_wp2_with fail
  go_ret
  exact ⟨_, _, rfl, cell_lit h0 0 rfl, cell_lit h1 0 rfl, hk, Nat.le_refl _, Nat.le_succ _⟩
theorem mdDeL_any (w : World) (m : Int) (k : Nat) : Calls Tryz.prog 127 #[.int .u8 m, fnV k] w fun e w' => ∃ p q, e = .returned (.func (.func 172) #[] #[ptr q, ptr p]) ∧ w'.cell? ⟨p, 0, none⟩ = some (.int .u8 m) ∧ w'.cell? ⟨q, 0, none⟩ = some (fnV k) ∧ Keeps [] w w' ∧ w.heap.size ≤ p ∧ w.heap.size ≤ q := by
  obtain ⟨e1, h0, h1, hk⟩ := two_vars w #[.int .u8 m] #[fnV k] 5 215
  unfold fnV at *
  go_enter Tryz.func127, Tryz.ntmps127
  go_wp2_with fail
  go_ret
  exact ⟨_, _, rfl, cell_lit h0 0 rfl, cell_lit h1 0 rfl, hk, Nat.le_refl _, Nat.le_succ _⟩
theorem mdAnyR_any (w : World) (k : Nat × Array Value) : Calls Tryz.prog 90 #[fv k] w fun e w' => ∃ p, e = .returned (.func (.func 139) #[] #[ptr p]) ∧ w'.cell? ⟨p, 0, none⟩ = some (fv k) ∧ Keeps [] w w' ∧ w.heap.size ≤ p := by
  have h0 := heap_alloc_new w (.cells #[fv k] 177)
  have hk : Keeps [] w (w.alloc (.cells #[fv k] 177)) := (Keeps.refl _ _).alloc _
  unfold fv at *
  go_enter Tryz.func90, Tryz.ntmps90
  go_wp2_with fail
  go_ret
  exact ⟨_, rfl, cell_lit h0 0 rfl, hk, Nat.le_refl _⟩
theorem mdAnyQ_any (w : World) (k : Nat × Array Value) : Calls Tryz.prog 101 #[fv k] w fun e w' => ∃ p, e = .returned (.func (.func 146) #[] #[ptr p]) ∧ w'.cell? ⟨p, 0, none⟩ = some (fv k) ∧ Keeps [] w w' ∧ w.heap.size ≤ p := by
  have h0 := heap_alloc_new w (.cells #[fv k] 189)
  have hk : Keeps [] w (w.alloc (.cells #[fv k] 189)) := (Keeps.refl _ _).alloc _
  unfold fv at *
  go_enter Tryz.func101, Tryz.ntmps101
  go_wp2_with fail
  go_ret
  exact ⟨_, rfl, cell_lit h0 0 rfl, hk, Nat.le_refl _⟩
theorem mdAnyK_any (w : World) (k : Nat × Array Value) : Calls Tryz.prog 112 #[fv k] w fun e w' => ∃ p, e = .returned (.func (.func 154) #[] #[ptr p]) ∧ w'.cell? ⟨p, 0, none⟩ = some (fv k) ∧ Keeps [] w w' ∧ w.heap.size ≤ p := by
  have h0 := heap_alloc_new w (.cells #[fv k] 202)
  have hk : Keeps [] w (w.alloc (.cells #[fv k] 202)) := (Keeps.refl _ _).alloc _
  unfold fv at *
  go_enter Tryz.func112, Tryz.ntmps112
  go_wp2_with fail
  go_ret
  exact ⟨_, rfl, cell_lit h0 0 rfl, hk, Nat.le_refl _⟩
theorem mdStR_any (w : World) (k : Nat × Array Value) : Calls Tryz.prog 89 #[fv k] w fun e w' => ∃ p, e = .returned (.func (.func 138) #[] #[ptr p]) ∧ w'.cell? ⟨p, 0, none⟩ = some (fv k) ∧ Keeps [] w w' ∧ w.heap.size ≤ p := by
  have h0 := heap_alloc_new w (.cells #[fv k] 175)
  have hk : Keeps [] w (w.alloc (.cells #[fv k] 175)) := (Keeps.refl _ _).alloc _
  unfold fv at *
  go_enter Tryz.func89, Tryz.ntmps89
  go_wp2_with fail
  go_ret
  exact ⟨_, rfl, cell_lit h0 0 rfl, hk, Nat.le_refl _⟩
theorem mdStQ_any (w : World) (k : Nat × Array Value) : Calls Tryz.prog 100 #[fv k] w fun e w' => ∃ p, e = .returned (.func (.func 145) #[] #[ptr p]) ∧ w'.cell? ⟨p, 0, none⟩ = some (fv k) ∧ Keeps [] w w' ∧ w.heap.size ≤ p := by
  have h0 := heap_alloc_new w (.cells #[fv k] 187)
  have hk : Keeps [] w (w.alloc (.cells #[fv k] 187)) := (Keeps.refl _ _).alloc _
  unfold fv at *
  go_enter Tryz.func100, Tryz.ntmps100
  go_wp2_with fail
  go_ret
  exact ⟨_, rfl, cell_lit h0 0 rfl, hk, Nat.le_refl _⟩
theorem mdStK_any (w : World) (k : Nat × Array Value) : Calls Tryz.prog 111 #[fv k] w fun e w' => ∃ p, e = .returned (.func (.func 153) #[] #[ptr p]) ∧ w'.cell? ⟨p, 0, none⟩ = some (fv k) ∧ Keeps [] w w' ∧ w.heap.size ≤ p := by
  have h0 := heap_alloc_new w (.cells #[fv k] 200)
  have hk : Keeps [] w (w.alloc (.cells #[fv k] 200)) := (Keeps.refl _ _).alloc _
  unfold fv at *
  go_enter Tryz.func111, Tryz.ntmps111
  go_wp2_with fail
  go_ret
  exact ⟨_, rfl, cell_lit h0 0 rfl, hk, Nat.le_refl _⟩
theorem mdStL_any (w : World) (k : Nat × Array Value) : Calls Tryz.prog 122 #[fv k] w fun e w' => ∃ p, e = .returned (.func (.func 167) #[] #[ptr p]) ∧ w'.cell? ⟨p, 0, none⟩ = some (fv k) ∧ Keeps [] w w' ∧ w.heap.size ≤ p := by
  have h0 := heap_alloc_new w (.cells #[fv k] 211)
  have hk : Keeps [] w (w.alloc (.cells #[fv k] 211)) := (Keeps.refl _ _).alloc _
  unfold fv at *
  go_enter Tryz.func122, Tryz.ntmps122
  go_wp2_with fail
  go_ret
  exact ⟨_, rfl, cell_lit h0 0 rfl, hk, Nat.le_refl _⟩
theorem mdStrR_any (w : World) (k : Nat × Array Value) : Calls Tryz.prog 92 #[fv k] w fun e w' => ∃ p, e = .returned (.func (.func 141) #[] #[ptr p]) ∧ w'.cell? ⟨p, 0, none⟩ = some (fv k) ∧ Keeps [] w w' ∧ w.heap.size ≤ p := by
  have h0 := heap_alloc_new w (.cells #[fv k] 179)
  have hk : Keeps [] w (w.alloc (.cells #[fv k] 179)) := (Keeps.refl _ _).alloc _
  unfold fv at *
  go_enter Tryz.func92, Tryz.ntmps92
  go_wp2_with fail
  go_ret
  exact ⟨_, rfl, cell_lit h0 0 rfl, hk, Nat.le_refl _⟩
theorem mdStrQ_any (w : World) (k : Nat × Array Value) : Calls Tryz.prog 103 #[fv k] w fun e w' => ∃ p, e = .returned (.func (.func 149) #[] #[ptr p]) ∧ w'.cell? ⟨p, 0, none⟩ = some (fv k) ∧ Keeps [] w w' ∧ w.heap.size ≤ p := by
  have h0 := heap_alloc_new w (.cells #[fv k] 191)
  have hk : Keeps [] w (w.alloc (.cells #[fv k] 191)) := (Keeps.refl _ _).alloc _
  unfold fv at *
  go_enter Tryz.func103, Tryz.ntmps103
  go_wp2_with fail
  go_ret
  exact ⟨_, rfl, cell_lit h0 0 rfl, hk, Nat.le_refl _⟩
theorem mdStrK_any (w : World) (k : Nat × Array Value) : Calls Tryz.prog 114 #[fv k] w fun e w' => ∃ p, e = .returned (.func (.func 156) #[] #[ptr p]) ∧ w'.cell? ⟨p, 0, none⟩ = some (fv k) ∧ Keeps [] w w' ∧ w.heap.size ≤ p := by
  have h0 := heap_alloc_new w (.cells #[fv k] 204)
  have hk : Keeps [] w (w.alloc (.cells #[fv k] 204)) := (Keeps.refl _ _).alloc _
  unfold fv at *
  go_enter Tryz.func114, Tryz.ntmps114
  go_wp2_with fail
  go_ret
  exact ⟨_, rfl, cell_lit h0 0 rfl, hk, Nat.le_refl _⟩
theorem mdStrL_any (w : World) (k : Nat × Array Value) : Calls Tryz.prog 124 #[fv k] w fun e w' => ∃ p, e = .returned (.func (.func 170) #[] #[ptr p]) ∧ w'.cell? ⟨p, 0, none⟩ = some (fv k) ∧ Keeps [] w w' ∧ w.heap.size ≤ p := by
  have h0 := heap_alloc_new w (.cells #[fv k] 213)
  have hk : Keeps [] w (w.alloc (.cells #[fv k] 213)) := (Keeps.refl _ _).alloc _
  unfold fv at *
  go_enter Tryz.func124, Tryz.ntmps124
  go_wp2_with fail
  go_ret
  exact ⟨_, rfl, cell_lit h0 0 rfl, hk, Nat.le_refl _⟩
end Go.Proofs.YtbnhcggjcdipeaaGreatDoor
