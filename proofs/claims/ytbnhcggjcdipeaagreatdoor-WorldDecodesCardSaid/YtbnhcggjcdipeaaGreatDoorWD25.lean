/-
  The program's objects: how they lie in memory; calls of function values with what they captured.
-/
import Derived.Test.YtbnhcggjcdipeaaGreatDoorWD00
import Derived.Deep.RegionHeld3
import Derived.Test.YtbnhcggjcdipeaaGreatDoorWD23
import Derived.Test.YtbnhcggjcdipeaaGreatDoorWD13
import Derived.Test.YtbnhcggjcdipeaaGreatDoorWD08
import Derived.Test.YtbnhcggjcdipeaaGreatDoorWD24
import Derived.Test.YtbnhcggjcdipeaaGreatDoorWD16
set_option linter.unusedSimpArgs false
set_option linter.unusedVariables false
namespace Go.Proofs.YtbnhcggjcdipeaaGreatDoor
open Go.RowKit
set_option maxRecDepth 100000
def obR (s : Int) : Value := .iface 226 (.agg #[.int .u8 0, .int .u16 s])
def obQ (v : Value) : Value := .iface 237 (.agg #[.int .u8 1, v])
/-- A key map's cells, behind its model. -/
def obKA (h : Int) (vs : List Int) : Array Value :=
  #[.int .u8 2, .int .u8 h, .int .u16 (vs.getD 0 0), .int .u16 (vs.getD 1 0), .int .u16 (vs.getD 2 0), .int .u16 (vs.getD 3 0), .int .u16 (vs.getD 4 0), .int .u16 (vs.getD 5 0), .int .u16 (vs.getD 6 0), .int .u16 (vs.getD 7 0)]
def obK (m : Kv) : Value := .iface 243 (.agg (obKA (kvH m) (kvV m)))
def obL (s : Int) : Value := .iface 265 (.agg #[.int .u8 3, .int .u8 s])
/-- The object as memory has it. -/
def ObAt (w : World) (o : Value) : Md → Prop
  | .rg s => o = obR s ∧ (0 ≤ s ∧ s < 65536)
  | .qu l => ∃ v, o = obQ v ∧ QIn w v l ∧ U16s l
  | .mp m => o = obK m ∧ KvIn m
  | .lk s => o = obL s ∧ (0 ≤ s ∧ s ≤ 16)
def obFoot : Value → List Nat
  | .iface _ (.agg a) => own (a.getD 1 undef)
  | _ => []
def stFoot : Value → List Nat
  | .agg a => obFoot (a.getD 0 undef)
  | _ => []
theorem ObAt.in_ {w : World} {o : Value} {S : Md} (h : ObAt w o S) : S.In := by
  cases S with
  | rg s => exact h.2
  | qu l => obtain ⟨v, -, -, h⟩ := h; exact h
  | mp m => exact h.2
  | lk s => exact h.2
theorem ObAt.one {w : World} {o : Value} {S : Md} (h : ObAt w o S) : o.oneCell' = true := by
  cases S with
  | rg s => obtain ⟨rfl, -⟩ := h; rfl
  | qu l => obtain ⟨v, rfl, -⟩ := h; rfl
  | mp m => obtain ⟨rfl, -⟩ := h; rfl
  | lk s => obtain ⟨rfl, -⟩ := h; rfl
theorem ObAt.keep {w w' : World} {F : List Nat} {o : Value} {S : Md} (h : ObAt w o S) (hk : Keeps F w w') (hF : ∀ q ∈ obFoot o, q ∉ F) : ObAt w' o S := by
  cases S with
  | rg s => exact h
  | qu l => obtain ⟨v, rfl, h, hu⟩ := h; exact ⟨v, rfl, h.keeps hk hF, hu⟩
  | mp m => exact h
  | lk s => exact h
theorem ObAt.new {w w' : World} {o : Value} {S : Md} (h : ObAt w o S) (hk : Keeps [] w w') : ObAt w' o S := h.keep hk (by simp)
theorem ObAt.old {w : World} {o : Value} {S : Md} (h : ObAt w o S) : ∀ q ∈ obFoot o, q < w.heap.size := by
  cases S with
  | rg s => obtain ⟨rfl, -⟩ := h; intro q hq; cases hq
  | qu l => obtain ⟨v, rfl, h, hu⟩ := h; exact h.old
  | mp m => obtain ⟨rfl, -⟩ := h; intro q hq; cases hq
  | lk s => obtain ⟨rfl, -⟩ := h; intro q hq; cases hq
/-- A state, of an object or of none. -/
def StAt (w : World) (st : Value) (O : Option Md) : Prop := ∃ o, st = .agg #[o] ∧ match O with
  | none => o = .nilIface
  | some S => ObAt w o S
/-- What the package-level variables hold. -/
structure Glob13 (w : World) : Prop where
  ops : Glob4 w
  tab : Lib.TabIs Tryz.prog w "internal/strconv.uint64pow10" .u64 Lib.pow10Tab
theorem glob13_pow10 : Tryz.prog.globalNamed "internal/strconv.uint64pow10" = some 1 := by kernel_rfl
theorem Glob13.new {w w' : World} (h : Glob13 w) (hk : Keeps [] w w') : Glob13 w' := ⟨h.ops.new hk, var_keeps glob13_pow10 h.tab hk (by simp)⟩
/-! Calls of function values, with what they captured. -/
def CallsV (w : World) (f : Value) (args : List Value) (post : Ending → World → Prop) : Prop := ∃ k cap, f = .func (.func k) #[] cap ∧ (∃ fn, Tryz.prog.funcs[k]? = some fn ∧ (fn.name == "runtime.NumGoroutine") = false ∧ fn.body.isNone = false) ∧ Calls Tryz.prog k (args.toArray ++ cap) w post
theorem CallsV.mono {w : World} {f : Value} {args : List Value} {P Q : Ending → World → Prop} (h : CallsV w f args P) (hm : ∀ e w', P e w' → Q e w') : CallsV w f args Q := by
  obtain ⟨k, cap, h1, h2, h3⟩ := h
  exact ⟨k, cap, h1, h2, h3.mono hm⟩
section
variable {o : Oper} {a : Act} {w : World} {K : Act → World → Prop} {Q : Exit → Act → World → Prop}
theorem wp_callC (y : Operand) (args : Array Operand) (tys : Array TypeId) (ho : o.op = .call { callee := .value y, args := args, argTypes := tys }) {f : Value} (hy : a.eval y = f) (vs : List Value) (hv : args.toList.map a.eval = vs)
    (h : CallsV w f vs fun e w' => ∃ v, e = .returned v ∧ K (a.put o.dst v) w') : o.wp Tryz.prog a w K Q := by
  have hv2 : args.map a.eval = vs.toArray := by rw [← hv]; apply Array.ext'; simp
  obtain ⟨k, cap, rfl, ⟨fn, hf, hname, hb⟩, h⟩ := h
  unfold Oper.wp execOp
  have h1 : fn.name ≠ "runtime.NumGoroutine" := by simpa using hname
  have h2 : ∃ z, fn.body = some z := by
    cases h : fn.body with
    | none => rw [h] at hb; cases hb
    | some z => exact ⟨z, rfl⟩
  obtain ⟨z, h2⟩ := h2
  simp only [ho, resolve, invoke, Sem.run_bind, Sem.run_pure, Result.andThen_ok, hv2, hy, Deferred.ofValue, Array.empty_append]
  simp [callFunc, hf, h1, h2, Sem.run]
  rw [Oper.upon_enter]
  exact h.mono fun e w' ⟨v, he, hk⟩ => by subst he; exact hk
theorem wpList_callC {ops : Array Oper} {rest : List Oper} {dst : Option Tmp} {ty : TypeId} {pos : String} {after : Array Edge} {y : Operand} {args : Array Operand} {tys : Array TypeId} {f : Value} (vs : List Value) (hy : a.eval y = f) (hv : args.toList.map a.eval = vs)
    (h : CallsV w f vs fun e w' => ∃ v, e = .returned v ∧ wpList Tryz.prog ops Q rest (a.put dst v) w') :
    wpList Tryz.prog ops Q ({ dst := dst, op := .call { callee := .value y, args := args, argTypes := tys }, type := ty, pos := pos, after := after, guard := none } :: rest) a w :=
  wpList_plain rfl fun _ hK => wp_callC y args tys rfl hy vs hv (h.mono fun _ _ ⟨v, he, hk⟩ => ⟨v, he, hK _ _ hk⟩)
end
end Go.Proofs.YtbnhcggjcdipeaaGreatDoor
/-
  The program's objects: what the makers of function values make.
-/
namespace Go.Proofs.YtbnhcggjcdipeaaGreatDoor
open Go.RowKit
set_option maxRecDepth 100000
/-- A function value, with what it captured. -/
def fv (p : Nat × Array Value) : Value := .func (.func p.1) #[] p.2
abbrev ptr (p : Nat) : Value := .pointer (some ⟨p, 0, none⟩)
set_option maxHeartbeats 8000000
theorem mdInitR_any (w : World) (m : Int) (k : Nat) : Calls Tryz.prog 87 #[.int .u8 m, fnV k] w fun e w' => ∃ p q, e = .returned (.func (.func 137) #[] #[ptr p, ptr q]) ∧ w'.cell? ⟨p, 0, none⟩ = some (.int .u8 m) ∧ w'.cell? ⟨q, 0, none⟩ = some (fnV k) ∧ Keeps [] w w' ∧ w.heap.size ≤ p ∧ w.heap.size ≤ q := by
  obtain ⟨e1, h0, h1, hk⟩ := two_vars w #[.int .u8 m] #[fnV k] 5 173
  unfold fnV at *
  go_enter Tryz.func87, Tryz.ntmps87
  go_wp2_with fail
  go_ret
  exact ⟨_, _, rfl, cell_lit h0 0 rfl, cell_lit h1 0 rfl, hk, Nat.le_refl _, Nat.le_succ _⟩
theorem mdInitQ_any (w : World) (m : Int) (k : Nat) : Calls Tryz.prog 98 #[.int .u8 m, fnV k] w fun e w' => ∃ p q, e = .returned (.func (.func 144) #[] #[ptr p, ptr q]) ∧ w'.cell? ⟨p, 0, none⟩ = some (.int .u8 m) ∧ w'.cell? ⟨q, 0, none⟩ = some (fnV k) ∧ Keeps [] w w' ∧ w.heap.size ≤ p ∧ w.heap.size ≤ q := by
  obtain ⟨e1, h0, h1, hk⟩ := two_vars w #[.int .u8 m] #[fnV k] 5 185
  unfold fnV at *
  go_enter Tryz.func98, Tryz.ntmps98
  go_wp2_with fail
  go_ret
  exact ⟨_, _, rfl, cell_lit h0 0 rfl, cell_lit h1 0 rfl, hk, Nat.le_refl _, Nat.le_succ _⟩
theorem mdInitK_any (w : World) (m : Int) (k : Nat) : Calls Tryz.prog 109 #[.int .u8 m, fnV k] w fun e w' => ∃ p q, e = .returned (.func (.func 152) #[] #[ptr p, ptr q]) ∧ w'.cell? ⟨p, 0, none⟩ = some (.int .u8 m) ∧ w'.cell? ⟨q, 0, none⟩ = some (fnV k) ∧ Keeps [] w w' ∧ w.heap.size ≤ p ∧ w.heap.size ≤ q := by
  obtain ⟨e1, h0, h1, hk⟩ := two_vars w #[.int .u8 m] #[fnV k] 5 198
  unfold fnV at *
  go_enter Tryz.func109, Tryz.ntmps109
  go_wp2_with fail
  go_ret
  exact ⟨_, _, rfl, cell_lit h0 0 rfl, cell_lit h1 0 rfl, hk, Nat.le_refl _, Nat.le_succ _⟩
theorem mdInitL_any (w : World) (m : Int) (k : Nat) : Calls Tryz.prog 120 #[.int .u8 m, fnV k] w fun e w' => ∃ p q, e = .returned (.func (.func 166) #[] #[ptr p, ptr q]) ∧ w'.cell? ⟨p, 0, none⟩ = some (.int .u8 m) ∧ w'.cell? ⟨q, 0, none⟩ = some (fnV k) ∧ Keeps [] w w' ∧ w.heap.size ≤ p ∧ w.heap.size ≤ q := by
  obtain ⟨e1, h0, h1, hk⟩ := two_vars w #[.int .u8 m] #[fnV k] 5 209
  unfold fnV at *
  go_enter Tryz.func120, Tryz.ntmps120
  go_wp2_with fail
  go_ret
  exact ⟨_, _, rfl, cell_lit h0 0 rfl, cell_lit h1 0 rfl, hk, Nat.le_refl _, Nat.le_succ _⟩
theorem mdDeR_any (w : World) (m : Int) (k : Nat) : Calls Tryz.prog 95 #[.int .u8 m, fnV k] w fun e w' => ∃ p q, e = .returned (.func (.func 143) #[] #[ptr q, ptr p]) ∧ w'.cell? ⟨p, 0, none⟩ = some (.int .u8 m) ∧ w'.cell? ⟨q, 0, none⟩ = some (fnV k) ∧ Keeps [] w w' ∧ w.heap.size ≤ p ∧ w.heap.size ≤ q := by
  obtain ⟨e1, h0, h1, hk⟩ := two_vars w #[.int .u8 m] #[fnV k] 5 181
  unfold fnV at *
  go_enter Tryz.func95, Tryz.ntmps95
  go_wp2_with fail
  go_ret
  exact ⟨_, _, rfl, cell_lit h0 0 rfl, cell_lit h1 0 rfl, hk, Nat.le_refl _, Nat.le_succ _⟩
theorem mdDeQ_any (w : World) (m : Int) (k : Nat) : Calls Tryz.prog 106 #[.int .u8 m, fnV k] w fun e w' => ∃ p q, e = .returned (.func (.func 151) #[] #[ptr q, ptr p]) ∧ w'.cell? ⟨p, 0, none⟩ = some (.int .u8 m) ∧ w'.cell? ⟨q, 0, none⟩ = some (fnV k) ∧ Keeps [] w w' ∧ w.heap.size ≤ p ∧ w.heap.size ≤ q := by
  obtain ⟨e1, h0, h1, hk⟩ := two_vars w #[.int .u8 m] #[fnV k] 5 193
  unfold fnV at *
  go_enter Tryz.func106, Tryz.ntmps106
  go_wp2_with fail
  go_ret
  exact ⟨_, _, rfl, cell_lit h0 0 rfl, cell_lit h1 0 rfl, hk, Nat.le_refl _, Nat.le_succ _⟩
theorem mdDeK_any (w : World) (m : Int) (k : Nat) : Calls Tryz.prog 117 #[.int .u8 m, fnV k] w fun e w' => ∃ p q, e = .returned (.func (.func 161) #[] #[ptr q, ptr p]) ∧ w'.cell? ⟨p, 0, none⟩ = some (.int .u8 m) ∧ w'.cell? ⟨q, 0, none⟩ = some (fnV k) ∧ Keeps [] w w' ∧ w.heap.size ≤ p ∧ w.heap.size ≤ q := by
  obtain ⟨e1, h0, h1, hk⟩ := two_vars w #[.int .u8 m] #[fnV k] 5 206
  unfold fnV at *
  go_enter Tryz.func117, Tryz.ntmps117
  go_wp2_with fail
  go_ret
  exact ⟨_, _, rfl, cell_lit h0 0 rfl, cell_lit h1 0 rfl, hk, Nat.le_refl _, Nat.le_succ _⟩
theorem mdDeL_any (w : World) (m : Int) (k : Nat) : Calls Tryz.prog 127 #[.int .u8 m, fnV k] w fun e w' => ∃ p q, e = .returned (.func (.func 172) #[] #[ptr q, ptr p]) ∧ w'.cell? ⟨p, 0, none⟩ = some (.int .u8 m) ∧ w'.cell? ⟨q, 0, none⟩ = some (fnV k) ∧ Keeps [] w w' ∧ w.heap.size ≤ p ∧ w.heap.size ≤ q := by
  obtain ⟨e1, h0, h1, hk⟩ := two_vars w #[.int .u8 m] #[fnV k] 5 215
  unfold fnV at *
  go_enter Tryz.func127, Tryz.ntmps127
  go_wp2_with fail
  go_ret
  exact ⟨_, _, rfl, cell_lit h0 0 rfl, cell_lit h1 0 rfl, hk, Nat.le_refl _, Nat.le_succ _⟩
theorem mdAnyR_any (w : World) (k : Nat × Array Value) : Calls Tryz.prog 90 #[fv k] w fun e w' => ∃ p, e = .returned (.func (.func 139) #[] #[ptr p]) ∧ w'.cell? ⟨p, 0, none⟩ = some (fv k) ∧ Keeps [] w w' ∧ w.heap.size ≤ p := by
  have h0 := heap_alloc_new w (.cells #[fv k] 177)
  have hk : Keeps [] w (w.alloc (.cells #[fv k] 177)) := (Keeps.refl _ _).alloc _
  unfold fv at *
  go_enter Tryz.func90, Tryz.ntmps90
  go_wp2_with fail
  go_ret
  exact ⟨_, rfl, cell_lit h0 0 rfl, hk, Nat.le_refl _⟩
theorem mdAnyQ_any (w : World) (k : Nat × Array Value) : Calls Tryz.prog 101 #[fv k] w fun e w' => ∃ p, e = .returned (.func (.func 146) #[] #[ptr p]) ∧ w'.cell? ⟨p, 0, none⟩ = some (fv k) ∧ Keeps [] w w' ∧ w.heap.size ≤ p := by
  have h0 := heap_alloc_new w (.cells #[fv k] 189)
  have hk : Keeps [] w (w.alloc (.cells #[fv k] 189)) := (Keeps.refl _ _).alloc _
  unfold fv at *
  go_enter Tryz.func101, Tryz.ntmps101
  go_wp2_with fail
  go_ret
  exact ⟨_, rfl, cell_lit h0 0 rfl, hk, Nat.le_refl _⟩
theorem mdAnyK_any (w : World) (k : Nat × Array Value) : Calls Tryz.prog 112 #[fv k] w fun e w' => ∃ p, e = .returned (.func (.func 154) #[] #[ptr p]) ∧ w'.cell? ⟨p, 0, none⟩ = some (fv k) ∧ Keeps [] w w' ∧ w.heap.size ≤ p := by
  have h0 := heap_alloc_new w (.cells #[fv k] 202)
  have hk : Keeps [] w (w.alloc (.cells #[fv k] 202)) := (Keeps.refl _ _).alloc _
  unfold fv at *
  go_enter Tryz.func112, Tryz.ntmps112
  go_wp2_with fail
  go_ret
  exact ⟨_, rfl, cell_lit h0 0 rfl, hk, Nat.le_refl _⟩
theorem mdStR_any (w : World) (k : Nat × Array Value) : Calls Tryz.prog 89 #[fv k] w fun e w' => ∃ p, e = .returned (.func (.func 138) #[] #[ptr p]) ∧ w'.cell? ⟨p, 0, none⟩ = some (fv k) ∧ Keeps [] w w' ∧ w.heap.size ≤ p := by
  have h0 := heap_alloc_new w (.cells #[fv k] 175)
  have hk : Keeps [] w (w.alloc (.cells #[fv k] 175)) := (Keeps.refl _ _).alloc _
  unfold fv at *
  go_enter Tryz.func89, Tryz.ntmps89
  go_wp2_with fail
  go_ret
  exact ⟨_, rfl, cell_lit h0 0 rfl, hk, Nat.le_refl _⟩
theorem mdStQ_any (w : World) (k : Nat × Array Value) : Calls Tryz.prog 100 #[fv k] w fun e w' => ∃ p, e = .returned (.func (.func 145) #[] #[ptr p]) ∧ w'.cell? ⟨p, 0, none⟩ = some (fv k) ∧ Keeps [] w w' ∧ w.heap.size ≤ p := by
  have h0 := heap_alloc_new w (.cells #[fv k] 187)
  have hk : Keeps [] w (w.alloc (.cells #[fv k] 187)) := (Keeps.refl _ _).alloc _
  unfold fv at *
  go_enter Tryz.func100, Tryz.ntmps100
  go_wp2_with fail
  go_ret
  exact ⟨_, rfl, cell_lit h0 0 rfl, hk, Nat.le_refl _⟩
theorem mdStK_any (w : World) (k : Nat × Array Value) : Calls Tryz.prog 111 #[fv k] w fun e w' => ∃ p, e = .returned (.func (.func 153) #[] #[ptr p]) ∧ w'.cell? ⟨p, 0, none⟩ = some (fv k) ∧ Keeps [] w w' ∧ w.heap.size ≤ p := by
  have h0 := heap_alloc_new w (.cells #[fv k] 200)
  have hk : Keeps [] w (w.alloc (.cells #[fv k] 200)) := (Keeps.refl _ _).alloc _
  unfold fv at *
  go_enter Tryz.func111, Tryz.ntmps111
  go_wp2_with fail
  go_ret
  exact ⟨_, rfl, cell_lit h0 0 rfl, hk, Nat.le_refl _⟩
theorem mdStL_any (w : World) (k : Nat × Array Value) : Calls Tryz.prog 122 #[fv k] w fun e w' => ∃ p, e = .returned (.func (.func 167) #[] #[ptr p]) ∧ w'.cell? ⟨p, 0, none⟩ = some (fv k) ∧ Keeps [] w w' ∧ w.heap.size ≤ p := by
  have h0 := heap_alloc_new w (.cells #[fv k] 211)
  have hk : Keeps [] w (w.alloc (.cells #[fv k] 211)) := (Keeps.refl _ _).alloc _
  unfold fv at *
  go_enter Tryz.func122, Tryz.ntmps122
  go_wp2_with fail
  go_ret
  exact ⟨_, rfl, cell_lit h0 0 rfl, hk, Nat.le_refl _⟩
theorem mdStrR_any (w : World) (k : Nat × Array Value) : Calls Tryz.prog 92 #[fv k] w fun e w' => ∃ p, e = .returned (.func (.func 141) #[] #[ptr p]) ∧ w'.cell? ⟨p, 0, none⟩ = some (fv k) ∧ Keeps [] w w' ∧ w.heap.size ≤ p := by
  have h0 := heap_alloc_new w (.cells #[fv k] 179)
  have hk : Keeps [] w (w.alloc (.cells #[fv k] 179)) := (Keeps.refl _ _).alloc _
  unfold fv at *
  go_enter Tryz.func92, Tryz.ntmps92
  go_wp2_with fail
  go_ret
  exact ⟨_, rfl, cell_lit h0 0 rfl, hk, Nat.le_refl _⟩
theorem mdStrQ_any (w : World) (k : Nat × Array Value) : Calls Tryz.prog 103 #[fv k] w fun e w' => ∃ p, e = .returned (.func (.func 149) #[] #[ptr p]) ∧ w'.cell? ⟨p, 0, none⟩ = some (fv k) ∧ Keeps [] w w' ∧ w.heap.size ≤ p := by
  have h0 := heap_alloc_new w (.cells #[fv k] 191)
  have hk : Keeps [] w (w.alloc (.cells #[fv k] 191)) := (Keeps.refl _ _).alloc _
  unfold fv at *
  go_enter Tryz.func103, Tryz.ntmps103
  go_wp2_with fail
  go_ret
  exact ⟨_, rfl, cell_lit h0 0 rfl, hk, Nat.le_refl _⟩
theorem mdStrK_any (w : World) (k : Nat × Array Value) : Calls Tryz.prog 114 #[fv k] w fun e w' => ∃ p, e = .returned (.func (.func 156) #[] #[ptr p]) ∧ w'.cell? ⟨p, 0, none⟩ = some (fv k) ∧ Keeps [] w w' ∧ w.heap.size ≤ p := by
  have h0 := heap_alloc_new w (.cells #[fv k] 204)
  have hk : Keeps [] w (w.alloc (.cells #[fv k] 204)) := (Keeps.refl _ _).alloc _
  unfold fv at *
  go_enter Tryz.func114, Tryz.ntmps114
  go_wp2_with fail
  go_ret
  exact ⟨_, rfl, cell_lit h0 0 rfl, hk, Nat.le_refl _⟩
theorem mdStrL_any (w : World) (k : Nat × Array Value) : Calls Tryz.prog 124 #[fv k] w fun e w' => ∃ p, e = .returned (.func (.func 170) #[] #[ptr p]) ∧ w'.cell? ⟨p, 0, none⟩ = some (fv k) ∧ Keeps [] w w' ∧ w.heap.size ≤ p := by
  have h0 := heap_alloc_new w (.cells #[fv k] 213)
  have hk : Keeps [] w (w.alloc (.cells #[fv k] 213)) := (Keeps.refl _ _).alloc _
  unfold fv at *
  go_enter Tryz.func124, Tryz.ntmps124
  go_wp2_with fail
  go_ret
  exact ⟨_, rfl, cell_lit h0 0 rfl, hk, Nat.le_refl _⟩
end Go.Proofs.YtbnhcggjcdipeaaGreatDoor
/-
  A world's bytes and text tell it; what bytes are, as data; no program.
-/
namespace Go.Proofs.YtbnhcggjcdipeaaGreatDoor
open Go.RowKit
theorem wtT_ne (p : Nat × Md) : wtT p ≠ [] := fun h => dec_ne' _ (List.append_eq_nil_iff.1 h).1
theorem ofNat_inj {a b : Nat} (ha : a < 256) (hb : b < 256) (h : UInt8.ofNat a = UInt8.ofNat b) : a = b := by
  have := congrArg UInt8.toNat h
  simp only [UInt8.toNat_ofNat'] at this
  omega
theorem liB_inj {m : Int} : ∀ {l k : List (Nat × Md)}, (∀ p ∈ l, p.1 < 256 ∧ p.2.model = m ∧ p.2.In ∧ (mdB p.2).length < 65536) → (∀ p ∈ k, p.1 < 256 ∧ p.2.model = m ∧ p.2.In ∧ (mdB p.2).length < 65536) → l.flatMap itB = k.flatMap itB → l = k
  | [], [], _, _, _ => rfl
  | [], y :: k, _, _, h => by cases h
  | x :: l, [], _, _, h => by cases h
  | (i, S) :: l, (j, T) :: k, hl, hk, h => by
    obtain ⟨a1, a2, a3, a4⟩ := hl _ List.mem_cons_self
    obtain ⟨b1, b2, b3, b4⟩ := hk _ List.mem_cons_self
    simp only at a1 a2 a3 a4 b1 b2 b3 b4
    simp only [List.flatMap_cons, itB, List.cons_append, List.cons.injEq] at h
    obtain ⟨h1, h2, h3, h4⟩ := h
    have e1 := ofNat_inj a1 b1 h1
    have e2 := ofNat_inj (by omega) (by omega) h2
    have e3 := ofNat_inj (by omega) (by omega) h3
    obtain ⟨e4, h5⟩ := List.append_inj h4 (by omega)
    rw [e1, (mdB_inj a3 b3 (by rw [a2, b2])).1 e4, liB_inj (fun z hz => hl z (List.mem_cons_of_mem _ hz)) (fun z hz => hk z (List.mem_cons_of_mem _ hz)) h5]
theorem mdB_short {S : Md} (h : S.In) {k : Nat} (hk : S.len ≤ k) : (mdB S).length ≤ 2 * k + 300 := by
  cases S with
  | rg s => show (rgB s).length ≤ _; rw [rgB_len]; omega
  | qu l => show (quB l).length ≤ _; rw [quB_len]; have : l.length ≤ k := hk; omega
  | mp m =>
    show ((kvBn m).map _).length ≤ _
    rw [List.length_map]
    have h1 := kvR_len m
    have h2 : m.length = 8 := h.1
    show (kvR m).length + 1 ≤ _
    omega
  | lk s => show 1 ≤ _; omega
/-- Two worlds of one model are the same just if their bytes are. -/
theorem wdB_inj {W V : Wd} (hW : W.In) (hV : V.In) (hm : W.m = V.m) (uW : W.upto 20000) (uV : V.upto 20000) : wdB W = wdB V ↔ W = V := by
  refine ⟨fun h => Wd.li_inj hW hV hm ?_, fun h => by rw [h]⟩
  refine liB_inj (m := W.m) (fun p hp => ?_) (fun p hp => ?_) h
  · have h1 := Wd.li_mem hW p hp
    have := mdB_short h1.2.2.1 (uW _ (liW_mem _ _ _ p hp).2.2.1)
    exact ⟨by omega, h1.2.1, h1.2.2.1, by omega⟩
  · have h1 := Wd.li_mem hV p hp
    have := mdB_short h1.2.2.1 (uV _ (liW_mem _ _ _ p hp).2.2.1)
    exact ⟨by omega, by rw [hm]; exact h1.2.1, h1.2.2.1, by omega⟩
/-- The object that the first byte names, and how many bytes its state has. -/
def bO (b : List UInt8) : Nat := (b.getD 0 0).toNat
def bL (b : List UInt8) : Nat := 256 * (b.getD 1 0).toNat + (b.getD 2 0).toNat
/-- What bytes are: n rounds at most, the states so far, the number last told. -/
def wdD (m : Int) : Nat → List Md → Int → List UInt8 → Option (List Md) × Int
  | 0, l, _, _ => (some l, 0)
  | n + 1, l, last, b =>
    if b = [] then (some l, 0)
    else if b.length < 3 ∨ b.length < 3 + bL b then (none, 5)
    else if 7 < bO b ∨ (bO b : Int) ≤ last then (none, 4)
    else match (mdD m ((b.drop 3).take (bL b))).1 with
      | none => (none, (mdD m ((b.drop 3).take (bL b))).2)
      | some S => if mdB S = mdB (mdInit m) then (none, 4) else wdD m n (l.set (bO b) S) (bO b) (b.drop (3 + bL b))
/-- The world that bytes are; the error. -/
def wdDec (m : Int) (b : List UInt8) : Option Wd × Int :=
  if m ≤ 3 then ((wdD m b.length (wd0 m).l (-1) b).1.map fun l => ⟨m, l⟩, (wdD m b.length (wd0 m).l (-1) b).2) else (none, 10)
theorem wdD_nil (m : Int) (n : Nat) (l : List Md) (last : Int) : wdD m n l last [] = (some l, 0) := by
  cases n with
  | zero => rfl
  | succ n => unfold wdD; rw [if_pos rfl]
/-- What an object's part says. -/
theorem itB_O {p : Nat × Md} (h : p.1 < 256) (r : List UInt8) : bO (itB p ++ r) = p.1 := by
  show (UInt8.ofNat p.1).toNat = p.1
  rw [UInt8.toNat_ofNat']; omega
theorem itB_L {p : Nat × Md} (h : (mdB p.2).length < 65536) (r : List UInt8) : bL (itB p ++ r) = (mdB p.2).length := by
  show 256 * (UInt8.ofNat ((mdB p.2).length / 256)).toNat + (UInt8.ofNat ((mdB p.2).length % 256)).toNat = _
  rw [UInt8.toNat_ofNat', UInt8.toNat_ofNat']; omega
theorem itB_len (p : Nat × Md) : (itB p).length = 3 + (mdB p.2).length := by simp [itB]; omega
end Go.Proofs.YtbnhcggjcdipeaaGreatDoor
/-
  A world's bytes are read back, and what was read has those bytes; no program.
-/
namespace Go.Proofs.YtbnhcggjcdipeaaGreatDoor
open Go.RowKit
theorem ofNat_toNat8 (x : UInt8) : UInt8.ofNat x.toNat = x := by
  have := x.toNat_lt
  apply UInt8.toNat_inj.1
  rw [UInt8.toNat_ofNat']; omega
theorem mdD_took {m : Int} {b : List UInt8} {S : Md} (h : (mdD m b).1 = some S) : S.model = m ∧ S.In ∧ mdB S = b ∧ (mdD m b).2 = 0 := by
  unfold mdD at h ⊢
  split at h
  · rename_i h1
    rw [if_pos h1]
    split at h
    · rename_i h2
      rw [if_pos h2]
      obtain rfl := Option.some.inj h
      refine ⟨h1.symm, ?_, rgB_rgN h2, rfl⟩
      match b, h2 with
      | [x, y], _ =>
        have hx := x.toNat_lt; have hy := y.toNat_lt
        show 0 ≤ (x.toNat : Int) * 256 + y.toNat ∧ (x.toNat : Int) * 256 + y.toNat < 65536
        omega
    · cases h
  · rename_i h1
    rw [if_neg h1]
    split at h
    · rename_i h1
      rw [if_pos h1]
      split at h
      · cases h
      · rename_i h2
        rw [if_neg h2]
        obtain rfl := Option.some.inj h
        exact ⟨h1.symm, quN_in b, quB_quN (by omega), rfl⟩
    · rename_i h1
      rw [if_neg h1]
      split at h
      · rename_i h1
        rw [if_pos h1]
        split at h
        · rename_i h2
          rw [if_pos h2]
          obtain rfl := Option.some.inj h
          refine ⟨h1.symm, kvD_in (nb_u8 b), ?_, rfl⟩
          show ((kvBn (kvD (nb b)).1).map fun n => UInt8.ofNat n.toNat) = b
          rw [kvD_back (nb_u8 b) h2]
          simp only [nb, List.map_map]
          conv => rhs; rw [← List.map_id b]
          exact List.map_congr_left fun x _ => by simp only [Function.comp, Int.toNat_natCast, ofNat_toNat8, id]
        · cases h
      · rename_i h1
        rw [if_neg h1]
        split at h
        · rename_i h1
          rw [if_pos h1]
          split at h
          · rename_i h2
            rw [if_pos h2]
            obtain rfl := Option.some.inj h
            by_cases hb : b.length = 1
            · match b, hb with
              | [x], _ =>
                rw [lkD_one] at h2 ⊢
                split at h2
                · rename_i hx
                  rw [if_pos hx]
                  refine ⟨h1.symm, ⟨Int.natCast_nonneg _, hx⟩, ?_, rfl⟩
                  show [UInt8.ofNat (x.toNat : Int).toNat] = [x]
                  rw [Int.toNat_natCast, ofNat_toNat8]
                · cases h2
            · rw [lkD_not hb] at h2; cases h2
          · cases h
        · cases h
theorem mdD_bk {S : Md} (h : S.In) : mdD S.model (mdB S) = (some S, 0) := by
  cases S with
  | rg s =>
    show (if (rgB s).length = 2 then (some (Md.rg (rgN (rgB s))), 0) else (none, 4)) = _
    rw [if_pos (rgB_len s), rgN_rgB h]
  | qu l =>
    show (if (quB l).length % 2 = 1 then (none, 4) else (some (Md.qu (quN (quB l))), 0)) = _
    rw [quB_len, if_neg (by omega), quN_quB h]
  | mp m =>
    show (if (kvD (nb (kvBy m))).2 = 0 then (some (Md.mp (kvD (nb (kvBy m))).1), 0) else (none, 4)) = _
    rw [kvBy_nb h, kvD_enc h]
    rfl
  | lk s =>
    have h1 : 0 ≤ s ∧ s ≤ 16 := h
    show (if (lkD [UInt8.ofNat s.toNat]).2 = 0 then (some (Md.lk (lkD [UInt8.ofNat s.toNat]).1), 0) else (none, 4)) = _
    have e : ((UInt8.ofNat s.toNat).toNat : Int) = s := by rw [UInt8.toNat_ofNat']; omega
    rw [lkD_one, e, if_pos h1.2]
    rfl
theorem mdB_long {S : Md} : S.len ≤ (mdB S).length := by
  cases S with
  | qu l => show l.length ≤ (quB l).length; rw [quB_len]; omega
  | _ => exact Nat.zero_le _
theorem wdD_go {m : Int} (h0 : 0 ≤ m) (h3 : m ≤ 3) : ∀ (r pre : List Md) (n : Nat) (last : Int), (∀ S ∈ r, S.model = m ∧ S.In ∧ S.len ≤ 20000) → pre.length + r.length ≤ 8 → last < pre.length → ((liW m pre.length r).flatMap itB).length ≤ n →
    wdD m n (pre ++ List.replicate r.length (mdInit m)) last ((liW m pre.length r).flatMap itB) = (some (pre ++ r), 0)
  | [], pre, n, last, _, _, _, _ => by
    show wdD m n (pre ++ []) last [] = (some (pre ++ []), 0)
    exact wdD_nil ..
  | S :: r, pre, n, last, hr, h8, hl, hn => by
    obtain ⟨s1, s2, s3⟩ := hr S List.mem_cons_self
    have hr' := fun A hA => hr A (List.mem_cons_of_mem _ hA)
    simp only [List.length_cons] at h8
    by_cases hS : mdB S = mdB (mdInit m)
    · have e : S = mdInit m := (mdB_inj s2 (mdInit_in m) (by rw [s1, mdInit_model h0 h3])).1 hS
      have ih := wdD_go h0 h3 r (pre ++ [S]) n last hr' (by simp; omega) (by simp; omega)
      unfold liW at hn ⊢
      rw [if_pos hS] at hn ⊢
      simp only [List.length_append, List.length_cons, List.length_nil, Nat.zero_add] at ih
      have ih2 := ih hn
      rw [List.append_assoc, List.append_assoc] at ih2
      rw [← e] at ih2 ⊢
      exact ih2
    · unfold liW at hn ⊢
      rw [if_neg hS] at hn ⊢
      rw [List.flatMap_cons] at hn ⊢
      have ih := fun n => wdD_go h0 h3 r (pre ++ [S]) n pre.length hr' (by simp; omega) (by simp only [List.length_append, List.length_cons, List.length_nil]; omega)
      simp only [List.length_append, List.length_cons, List.length_nil, Nat.zero_add] at ih
      generalize (liW m (pre.length + 1) r).flatMap itB = R at *
      have hb := mdB_short s2 s3
      have hO := itB_O (p := (pre.length, S)) (show pre.length < 256 by omega) R
      have hL := itB_L (p := (pre.length, S)) (show (mdB S).length < 65536 by omega) R
      have hlen := itB_len (pre.length, S)
      simp only at hO hL hlen
      have hd : (itB (pre.length, S) ++ R).drop 3 = mdB S ++ R := rfl
      have hd2 : (itB (pre.length, S) ++ R).drop (3 + (mdB S).length) = R := by
        rw [← List.drop_drop, hd, List.drop_left]
      rw [List.length_append] at hn
      obtain ⟨k, rfl⟩ : ∃ k, n = k + 1 := ⟨n - 1, by omega⟩
      unfold wdD
      rw [if_neg (by intro e; have := congrArg List.length e; rw [List.length_append, hlen, List.length_nil] at this; omega), if_neg (by rw [hL, List.length_append]; omega), if_neg (by rw [hO]; omega), hL, hd, List.take_left, hO, hd2]
      have hD : mdD m (mdB S) = (some S, 0) := by rw [← s1]; exact mdD_bk s2
      rw [hD]
      show (if mdB S = mdB (mdInit m) then _ else _) = _
      rw [if_neg hS]
      have e : (pre ++ List.replicate (S :: r).length (mdInit m)).set pre.length S = pre ++ [S] ++ List.replicate r.length (mdInit m) := by
        rw [List.set_append_right _ _ (Nat.le_refl _), Nat.sub_self, List.append_assoc]
        rfl
      rw [e, ih k (by omega), List.append_assoc]
      rfl
theorem wdDec_back {W : Wd} (h : W.In) (hu : W.upto 20000) : wdDec W.m (wdB W) = (some W, 0) := by
  have h1 := wdD_go h.m0 h.m3 W.l [] (wdB W).length (-1) (fun S hS => ⟨(h.each S hS).1, (h.each S hS).2, hu S hS⟩) (by simp [h.n]) (by simp) (Nat.le_refl _)
  rw [h.n] at h1
  unfold wdDec
  rw [if_pos h.m3]
  have h2 : wdD W.m (wdB W).length (wd0 W.m).l (-1) (wdB W) = (some W.l, 0) := h1
  rw [h2]
  rfl
theorem liW_none {m : Int} : ∀ (i : Nat) (l : List Md), (∀ S ∈ l, mdB S = mdB (mdInit m)) → liW m i l = []
  | i, [], _ => rfl
  | i, S :: r, h => by
    unfold liW
    rw [if_pos (h S List.mem_cons_self)]
    exact liW_none (i + 1) r fun A hA => h A (List.mem_cons_of_mem _ hA)
theorem liW_set {m : Int} {S : Md} (hS : mdB S ≠ mdB (mdInit m)) : ∀ (i : Nat) (l : List Md) (o : Nat), o < l.length → (∀ k, o ≤ k → k < l.length → mdB (l.getD k (mdInit m)) = mdB (mdInit m)) → liW m i (l.set o S) = liW m i l ++ [(i + o, S)]
  | i, [], o, ho, _ => absurd ho (by simp)
  | i, T :: r, 0, ho, h => by
    have hr : ∀ A ∈ r, mdB A = mdB (mdInit m) := fun A hA => by
      obtain ⟨k, hk, rfl⟩ := List.getElem_of_mem hA
      have := h (k + 1) (by omega) (by simp; omega)
      rw [List.getD_eq_getElem?_getD, List.getElem?_cons_succ, List.getElem?_eq_getElem hk] at this
      exact this
    have hT : mdB T = mdB (mdInit m) := h 0 (by omega) (by simp)
    show liW m i (S :: r) = liW m i (T :: r) ++ [(i + 0, S)]
    unfold liW
    rw [if_neg hS, if_pos hT, liW_none (i + 1) r hr]
    rfl
  | i, T :: r, o + 1, ho, h => by
    have ih := liW_set hS (i + 1) r o (by simpa using ho) (fun k hk hk2 => by
      have := h (k + 1) (by omega) (by simp; omega)
      rw [List.getD_eq_getElem?_getD, List.getElem?_cons_succ, ← List.getD_eq_getElem?_getD] at this
      exact this)
    show liW m i (T :: r.set o S) = liW m i (T :: r) ++ [(i + (o + 1), S)]
    unfold liW
    rw [ih, show i + 1 + o = i + (o + 1) by omega]
    split <;> rfl
theorem wdD_took {m : Int} {K : Nat} : ∀ (n : Nat) (l : List Md) (last : Int) (b : List UInt8) (l' : List Md), l.length = 8 → (∀ S ∈ l, S.model = m ∧ S.In ∧ S.len ≤ K) → (∀ k : Nat, last < k → k < 8 → mdB (l.getD k (mdInit m)) = mdB (mdInit m)) → b.length ≤ n → b.length ≤ K → (wdD m n l last b).1 = some l' →
    l'.length = 8 ∧ (∀ S ∈ l', S.model = m ∧ S.In ∧ S.len ≤ K) ∧ (liW m 0 l').flatMap itB = (liW m 0 l).flatMap itB ++ b ∧ (wdD m n l last b).2 = 0
  | 0, l, last, b, l', h8, hl, _, hn, _, h => by
    obtain rfl := Option.some.inj h
    rw [List.eq_nil_of_length_eq_zero (by omega : b.length = 0)]
    exact ⟨h8, hl, by simp, rfl⟩
  | n + 1, l, last, b, l', h8, hl, hf, hn, hK, h => by
    unfold wdD at h ⊢
    by_cases h1 : b = []
    · rw [if_pos h1] at h ⊢
      obtain rfl := Option.some.inj h
      subst h1
      exact ⟨h8, hl, by simp, rfl⟩
    · rw [if_neg h1] at h ⊢
      by_cases h2 : b.length < 3 ∨ b.length < 3 + bL b
      · rw [if_pos h2] at h; cases h
      · rw [if_neg h2] at h ⊢
        by_cases h3 : 7 < bO b ∨ (bO b : Int) ≤ last
        · rw [if_pos h3] at h; cases h
        · rw [if_neg h3] at h ⊢
          have hD := fun S => @mdD_took m ((b.drop 3).take (bL b)) S
          revert h hD
          generalize mdD m ((b.drop 3).take (bL b)) = X
          obtain ⟨O, er⟩ := X
          cases O with
          | none => intro h _; cases h
          | some S =>
            intro h hD
            obtain ⟨s1, s2, s3, s4⟩ := hD S rfl
            by_cases h4 : mdB S = mdB (mdInit m)
            · simp only [if_pos h4] at h; cases h
            · simp only [if_neg h4] at h ⊢
              have hlen : (mdB S).length = bL b := by rw [s3, List.length_take, List.length_drop]; omega
              have hSl : S.len ≤ K := by have := @mdB_long S; omega
              have ho : bO b < 8 := by omega
              have h5 := wdD_took n (l.set (bO b) S) (bO b) (b.drop (3 + bL b)) l' (by rw [List.length_set, h8]) (fun T hT => by
                rcases List.mem_or_eq_of_mem_set hT with hT | rfl
                · exact hl T hT
                · exact ⟨s1, s2, hSl⟩) (fun k hk hk8 => by
                rw [List.getD_eq_getElem?_getD, List.getElem?_set_ne (by omega), ← List.getD_eq_getElem?_getD]
                exact hf k (by omega) hk8) (by rw [List.length_drop]; omega) (by rw [List.length_drop]; omega) h
              refine ⟨h5.1, h5.2.1, ?_, h5.2.2.2⟩
              rw [h5.2.2.1, liW_set h4 0 l (bO b) (by omega) (fun k hk hk8 => hf k (by omega) (by omega)), List.flatMap_append, List.append_assoc, Nat.zero_add]
              congr 1
              match b, h2 with
              | [], h2 => exact absurd (.inl (by simp)) h2
              | [_], h2 => exact absurd (.inl (by simp)) h2
              | [_, _], h2 => exact absurd (.inl (by simp)) h2
              | x :: y :: z :: r, h2 =>
                have hz := z.toNat_lt; have hy := y.toNat_lt
                have e : bL (x :: y :: z :: r) = 256 * y.toNat + z.toNat := rfl
                have e3 : mdB S = r.take (256 * y.toNat + z.toNat) := s3
                rw [e] at hlen ⊢
                show (UInt8.ofNat x.toNat :: UInt8.ofNat ((mdB S).length / 256) :: UInt8.ofNat ((mdB S).length % 256) :: (mdB S ++ [])) ++ (x :: y :: z :: r).drop (3 + (256 * y.toNat + z.toNat)) = _
                rw [hlen, show (256 * y.toNat + z.toNat) / 256 = y.toNat by omega, show (256 * y.toNat + z.toNat) % 256 = z.toNat by omega, ofNat_toNat8, ofNat_toNat8, ofNat_toNat8, e3, List.append_nil, ← List.drop_drop]
                show x :: y :: z :: (r.take _ ++ r.drop _) = _
                rw [List.take_append_drop]
/-- What was read: a world of the model, with those bytes. -/
theorem wdDec_took {m : Int} (h0 : 0 ≤ m) {b : List UInt8} {W : Wd} (h : (wdDec m b).1 = some W) : W.In ∧ W.m = m ∧ wdB W = b ∧ W.upto b.length ∧ (wdDec m b).2 = 0 := by
  unfold wdDec at h ⊢
  by_cases h3 : m ≤ 3
  · rw [if_pos h3] at h ⊢
    obtain ⟨l', hl, rfl⟩ := Option.map_eq_some_iff.1 h
    have h5 := wdD_took (m := m) (K := b.length) b.length (wd0 m).l (-1) b l' rfl (fun S hS => by rw [(List.mem_replicate.1 hS).2]; exact ⟨mdInit_model h0 h3, mdInit_in m, by rw [mdInit_len]; exact Nat.zero_le _⟩) (fun k _ _ => by
      have := wd0_at m k
      unfold Wd.at at this
      rw [show (wd0 m).l.getD k (mdInit m) = mdInit m from this]) (Nat.le_refl _) (Nat.le_refl _) hl
    refine ⟨⟨h0, h3, h5.1, fun S hS => ⟨(h5.2.1 S hS).1, (h5.2.1 S hS).2.1⟩⟩, rfl, ?_, fun S hS => (h5.2.1 S hS).2.2, h5.2.2.2⟩
    have e : liW m 0 (wd0 m).l = [] := liW_none 0 _ fun S hS => by rw [(List.mem_replicate.1 hS).2]
    show (liW m 0 l').flatMap itB = b
    rw [h5.2.2.1, e]
    rfl
  · rw [if_neg h3] at h; cases h
end Go.Proofs.YtbnhcggjcdipeaaGreatDoor
/-
  Steps of unlike objects ask for no order: the worlds behind calls, as data; no program.
-/
namespace Go.Proofs.YtbnhcggjcdipeaaGreatDoor
open Go.RowKit
/-- A world behind calls: those that are told an error change nothing. -/
def bhW (W : Wd) : List Cl → Wd
  | [] => W
  | y :: l => bhW (wdX W y.c y.x).1 l
theorem bhW_app : ∀ (W : Wd) (l k : List Cl), bhW W (l ++ k) = bhW (bhW W l) k
  | _, [], _ => rfl
  | W, y :: l, k => bhW_app (wdX W y.c y.x).1 l k
theorem bhW_next {W : Wd} {l : List Cl} {k : Nat} (hk : k < l.length) : bhW W (l.take (k + 1)) = (wdX (bhW W (l.take k)) l[k].c l[k].x).1 := by
  rw [List.take_add_one, List.getElem?_eq_getElem hk, Option.toList_some, bhW_app]
  rfl
theorem bhW_in : ∀ {W : Wd} (l : List Cl), W.In → (∀ y ∈ l, y.In) → (bhW W l).In
  | _, [], h, _ => h
  | W, y :: l, h, hl => bhW_in l (wdX_in h (hl y (by simp)).c0 (hl y (by simp)).x) (fun z hz => hl z (by simp [hz]))
theorem bhW_upto : ∀ {W : Wd} (l : List Cl) {k : Nat}, W.In → (∀ y ∈ l, y.In) → W.upto k → (bhW W l).upto (k + l.length)
  | _, [], _, _, _, h => h
  | W, y :: l, k, h, hl, hk => by
    have h1 := bhW_upto l (wdX_in h (hl y (by simp)).c0 (hl y (by simp)).x) (fun z hz => hl z (by simp [hz])) (wdX_upto h hk y.c y.x)
    intro S hS
    have := h1 S hS
    simp only [List.length_cons]
    omega
end Go.Proofs.YtbnhcggjcdipeaaGreatDoor
/-
  What a step's call tells, whatever is stepped: its cells, what lasts, whose blocks; a region's end.
-/
namespace Go.Proofs.YtbnhcggjcdipeaaGreatDoor
open Go.RowKit
/-- Something in memory: its cells, what holds of it, which blocks are its own (Ap x p: all of them satisfy p). -/
structure Kept (β : Type) where
  cs : β → List Value
  P : β → World → Prop
  Ap : β → (Nat → Prop) → Prop
  keep : ∀ {x : β} {w w' : World} {F : List Nat}, P x w → Keeps F w w' → Ap x (fun q => q ∉ F) → P x w'
  old : ∀ {x : β} {w : World}, P x w → Ap x (fun q => q < w.heap.size)
  mono : ∀ {x : β} {p p' : Nat → Prop}, Ap x p → (∀ q, p q → p' q) → Ap x p'
  and_ : ∀ {x : β} {p p' : Nat → Prop}, Ap x p → Ap x p' → Ap x (fun q => p q ∧ p' q)
variable {β : Type}
theorem Kept.new (kp : Kept β) {x : β} {w w' : World} (h : kp.P x w) (hk : Keeps [] w w') : kp.P x w' := kp.keep h hk (kp.mono (kp.old h) (fun _ _ => by simp))
theorem Kept.put (kp : Kept β) {x : β} {w w' : World} {g : Nat} (h : kp.P x w) (hk : Keeps [g] w w') (hg : kp.Ap x (fun q => q ≠ g)) : kp.P x w' := kp.keep h hk (kp.mono hg (fun _ h => by simpa using h))
/-- What a step tells: the new thing, the answer, the error; ol: the old one's blocks. -/
def Post3 (kp : Kept β) (r : Ans) (e1 : Int) (ol : (Nat → Prop) → Prop) (w : World) (e : Ending) (w' : World) : Prop :=
  ∃ x : β, e = .returned (.tuple #[.agg (kp.cs x).toArray, .agg (ansC r).toArray, .int .i64 e1]) ∧ kp.P x w' ∧ Keeps [] w w' ∧ ∀ p : Nat → Prop, ol p → (∀ q, w.heap.size ≤ q → p q) → kp.Ap x p
/-- Behind a region that calls a step and lays its answers into two new blocks. -/
def Fin3 (kp : Kept β) (T : TypeId) (r : Ans) (ol : (Nat → Prop) → Prop) (V : World) (qa qb : Nat) (zv : Value) (w' : World) : Prop :=
  ∃ x : β, zv = .agg (kp.cs x).toArray ∧ w'.heap[qa]? = some (.cells (kp.cs x).toArray T (0, 0)) ∧ w'.heap[qb]? = some (.cells (ansC r).toArray 25 (0, 0)) ∧ kp.P x w' ∧ Keeps [] V w' ∧ V.heap.size ≤ qa ∧ V.heap.size ≤ qb ∧ qa ≠ qb ∧ (∀ p : Nat → Prop, ol p → (∀ q, V.heap.size ≤ q → p q) → kp.Ap x p) ∧ kp.Ap x (fun q => q ≠ qa ∧ q ≠ qb)
/-- The same with one new block, for the thing alone. -/
def Fin1 (kp : Kept β) (T : TypeId) (ol : (Nat → Prop) → Prop) (V : World) (qa : Nat) (zv : Value) (w' : World) : Prop :=
  ∃ x : β, zv = .agg (kp.cs x).toArray ∧ w'.heap[qa]? = some (.cells (kp.cs x).toArray T (0, 0)) ∧ kp.P x w' ∧ Keeps [] V w' ∧ V.heap.size ≤ qa ∧ (∀ p : Nat → Prop, ol p → (∀ q, V.heap.size ≤ q → p q) → kp.Ap x p) ∧ kp.Ap x (fun q => q ≠ qa)
end Go.Proofs.YtbnhcggjcdipeaaGreatDoor
/-
  The document's world in memory: a row of objects, each with its two lists.
-/
namespace Go.Proofs.YtbnhcggjcdipeaaGreatDoor
open Go.RowKit
set_option maxRecDepth 100000
/-- An object and where its lists lie. -/
structure Mq where
  S : Md
  qa : Option Addr
  qn : Nat
  qc : Nat
  ma : Option Addr
  mn : Nat
  mc : Nat
def Mq.q (y : Mq) : Value := .slice y.qa y.qn y.qc
def Mq.p (y : Mq) : Value := .slice y.ma y.mn y.mc
def mqC (y : Mq) : List Value := mdC y.S y.q y.p
theorem mqC_one (y : Mq) : ∀ v ∈ mqC y, v.oneCell' = true := fun v hv => by
  simp only [mqC, mdC, Mq.q, Mq.p, List.mem_cons, List.not_mem_nil, or_false] at hv
  rcases hv with rfl | rfl | rfl | rfl | rfl <;> rfl
theorem Tryz.infoMd13 : (Tryz.prog.info? 81).map (fun i => (i.zero, i.size, i.bytes)) = some (some (.agg mdC0.toArray), 5, 64) := by kernel_rfl
/-- Objects side by side. -/
noncomputable def rkW : RK Mq :=
  { T := 81, Sl := 37, s := 5, b := 64, cs := mqC, i := (info_parts Tryz.infoMd13).choose, z := .agg mdC0.toArray,
    len := fun _ => rfl, one := mqC_one, s0 := by decide, b1 := by decide, und := Tryz.underlying37,
    hi := (info_parts Tryz.infoMd13).choose_spec.1, hz := (info_parts Tryz.infoMd13).choose_spec.2.1, hs := (info_parts Tryz.infoMd13).choose_spec.2.2.1, hb := (info_parts Tryz.infoMd13).choose_spec.2.2.2, hzs := rfl }
/-- The document's world: two cells. -/
def skWd : SK := { T := 39, s := 2, d := _, und := Tryz.underlying39, row := rfl, size := by kernel_rfl }
def wdC (m : Int) (v : Value) : List Value := [.int .u8 m, v]
def wdC0 : List Value := [.int .u8 0, .slice none 0 0]
theorem wdC_ok (m : Int) (a : Option Addr) (n c : Nat) : skWd.Ok (wdC m (.slice a n c)) := ⟨rfl, fun v hv => by
  simp only [wdC, List.mem_cons, List.not_mem_nil, or_false] at hv
  rcases hv with rfl | rfl <;> rfl⟩
/-- All their lists lie there. -/
def All13 (w : World) (L : List Mq) : Prop := ∀ y ∈ L, D13 w y.S y.q y.p
/-- The document's world lies there: W's objects, in the row v. -/
structure W14 (w : World) (W : Wd) (v : Value) (L : List Mq) : Prop where
  row : rkW.In w.heap.size w v L
  is : L.map (·.S) = W.l
  all : All13 w L
theorem All13.new {w w' : World} {L : List Mq} (h : All13 w L) (hk : Keeps [] w w') : All13 w' L := fun y hy => (h y hy).new hk
theorem W14.new {w w' : World} {W : Wd} {v : Value} {L : List Mq} (h : W14 w W v L) (hk : Keeps [] w w') : W14 w' W v L :=
  ⟨(h.row.new hk (Nat.le_refl _)).more hk.size, h.is, h.all.new hk⟩
theorem W14.len {w : World} {W : Wd} {v : Value} {L : List Mq} (h : W14 w W v L) (hW : W.In) : L.length = 8 := by
  have := congrArg List.length h.is
  rw [List.length_map, hW.n] at this
  exact this
theorem W14.get {w : World} {W : Wd} {v : Value} {L : List Mq} (h : W14 w W v L) (hW : W.In) {o : Nat} (ho : o < 8) : ∃ y, L[o]? = some y ∧ y.S = W.at o ∧ D13 w y.S y.q y.p := by
  have hl := h.len hW
  have h1 : o < L.length := by omega
  refine ⟨L[o], List.getElem?_eq_getElem h1, ?_, h.all _ (List.getElem_mem h1)⟩
  show L[o].S = W.l.getD o (mdInit W.m)
  rw [← h.is, List.getD_eq_getElem?_getD, List.getElem?_map, List.getElem?_eq_getElem h1]
  rfl
/-- Where an object of the row lies. -/
theorem W14.at {w : World} {W : Wd} {a : Option Addr} {n c : Nat} {L : List Mq} (h : W14 w W (.slice a n c) L) (hW : W.In) : n = 8 ∧ ∃ bk o, a = some ⟨bk, o, none⟩ ∧ bk < w.heap.size ∧ ∀ (j : Nat) (y : Mq), L[j]? = some y → w.rangeAt bk (o + j * 5) (mqC y) := by
  have hl := h.len hW
  obtain ⟨_, _, e, _, _, h2⟩ := h.row
  simp only [Value.slice.injEq] at e
  obtain ⟨rfl, rfl, rfl⟩ := e
  obtain ⟨bk, o, rfl, hb, hr⟩ := h2 (fun e => by rw [e] at hl; cases hl)
  refine ⟨hl, bk, o, rfl, hb, fun j y hy => ?_⟩
  obtain ⟨hj, rfl⟩ := List.getElem?_eq_some_iff.1 hy
  exact hr j hj
/-- One object is put anew in the row: the lists of the others lie where they lay. -/
theorem map_set_S {L : List Mq} {W : Wd} (h : L.map (·.S) = W.l) (o : Nat) (y : Mq) : (L.set o y).map (·.S) = (W.put o y.S).l := by
  show (L.set o y).map (·.S) = W.l.set o y.S
  rw [← h, List.map_set]
theorem All13.set {w : World} {L : List Mq} (h : All13 w L) (o : Nat) {y : Mq} (hy : D13 w y.S y.q y.p) : All13 w (L.set o y) := fun z hz => by
  rcases List.mem_or_eq_of_mem_set hz with h1 | rfl
  · exact h z h1
  · exact hy
/-- The lists of an object are slices: as Mq. -/
theorem D13.mq {w : World} {S : Md} {q m : Value} (h : D13 w S q m) : ∃ y : Mq, y.S = S ∧ y.q = q ∧ y.p = m := by
  obtain ⟨t, h1, _⟩ := h.m
  obtain ⟨a, c, rfl, -⟩ := h.q
  obtain ⟨b, d, rfl, -⟩ := h1
  exact ⟨⟨S, a, _, c, b, _, d⟩, rfl, rfl, rfl⟩
end Go.Proofs.YtbnhcggjcdipeaaGreatDoor
/-
  The document's world: New.
-/
namespace Go.Proofs.YtbnhcggjcdipeaaGreatDoor
open Go.RowKit
set_option maxRecDepth 100000
set_option maxHeartbeats 8000000
section
variable {ops : Array Oper} {rest : List Oper} {a : Act} {w : World} {Q : Exit → Act → World → Prop}
theorem wpList_putV {dst : Option Tmp} {ty : TypeId} {pos : String} {after : Array Edge} {x y : Operand} {g : Nat} {old A : List Value} (hA : skWd.Ok A) (hO : skWd.Ok old) {t : TypeId}
    (hx : a.eval x = .pointer (some ⟨g, 0, none⟩)) (hy : a.eval y = .agg A.toArray) (hg : w.heap[g]? = some (.cells old.toArray t (0, 0)))
    (h : ∀ W, W.heap[g]? = some (.cells A.toArray t (0, 0)) → Keeps [g] w W → wpList Tryz.prog ops Q rest (a.put dst undef) W) :
    wpList Tryz.prog ops Q ({ dst := dst, op := .store 39 x y, type := ty, pos := pos, after := after, guard := none } :: rest) a w := skWd.wpList_put hA hO hx hy hg h
theorem wpList_loadV {dst : Option Tmp} {ty : TypeId} {pos : String} {after : Array Edge} {gd : Option (Nat × Bool)} {x : Operand} {g off : Nat} {A : List Value} (hA : skWd.Ok A)
    (hw : Region.wanted { dst := dst, op := .load 39 x, type := ty, pos := pos, after := after, guard := gd } (yielded ops a.tmps) = true)
    (hx : a.eval x = .pointer (some ⟨g, off, none⟩)) (hr : w.rangeAt g off A) (h : wpList Tryz.prog ops Q rest (a.put dst (.agg A.toArray)) w) :
    wpList Tryz.prog ops Q ({ dst := dst, op := .load 39 x, type := ty, pos := pos, after := after, guard := gd } :: rest) a w := skWd.wpList_load hA hw hx hr h
theorem wpList_buildW {dst : Option Tmp} {ty : TypeId} {pos : String} {after : Array Edge} {x : Operand} {z : Mq} (hx : a.eval x = .agg (mqC z).toArray)
    (h : wpList Tryz.prog ops Q rest (a.put dst (.slice (some ⟨w.heap.size, 0, none⟩) 1 1)) (w.alloc (.cells (mqC z).toArray 81))) :
    wpList Tryz.prog ops Q ({ dst := dst, op := .buildSlice 37 1 #[(0, x)], type := ty, pos := pos, after := after, guard := none } :: rest) a w :=
  wpList_plain rfl fun _ hK => rkW.wp_build1 x rfl hx (by show (5 : Nat) ≤ 10000; decide) (hK _ _ h)
end
theorem wdC0_ok : skWd.Ok wdC0 := wdC_ok 0 none 0 0
def mq0 (m : Int) : Mq := ⟨mdInit m, none, 0, 0, none, 0, 0⟩
theorem r14New_any (w : World) {m : Int} (h0 : 0 ≤ m) (h3 : m ≤ 3) : Calls Tryz.prog 11 #[.int .u8 m] w fun e w' => ∃ v, e = .returned (.tuple #[.agg (wdC m v).toArray, .int .i64 0]) ∧ rkW.Own w.heap.size w' v (List.replicate 8 (mq0 m)) ∧ Keeps [] w w' := by
  obtain ⟨-, a0, a1, ak⟩ := two_vars w #[.int .u8 0, .slice none 0 0] #[.int .u8 m, .slice none 0 0] 39 39
  have az := two_blocks w #[.int .u8 0, .slice none 0 0] #[.int .u8 m, .slice none 0 0] 39 39
  obtain ⟨R, hR⟩ : ∃ R, R = w.heap.size := ⟨_, rfl⟩
  rw [← hR] at a0 a1 az ⊢
  have HRE := Lib.hid hR; have HK0 := Lib.hid ak; have HA0 := Lib.hid a0; have HA1 := Lib.hid a1; have HAZ := Lib.hid az
  have HM := Lib.hid (⟨h0, h3⟩ : 0 ≤ m ∧ m ≤ 3)
  clear hR a0 a1 ak az h0 h3
  go_enter Tryz.func11, Tryz.ntmps11
  go_wp2_with fail
  generalize hWW : ((w.alloc (.cells #[.int .u8 0, .slice none 0 0] 39)).alloc (.cells #[.int .u8 m, .slice none 0 0] 39)) = W0 at *
  clear hWW
  rw [← HRE.out]
  go_loopw [5] (fun i wr => ∃ (k : Nat) (v : Value), i = .int .i64 k ∧ k ≤ 8 ∧ wr.heap[R]? = some (.cells #[.int .u8 0, .slice none 0 0] 39 (0, 0)) ∧ wr.heap[R + 1]? = some (.cells #[.int .u8 m, v] 39 (0, 0)) ∧ rkW.Own (R + 2) wr v (List.replicate k (mq0 m)) ∧ Keeps [] w wr ∧ R + 2 ≤ wr.heap.size) (fun i _ => 8 - (intOf i).toNat)
  case atStart => exact ⟨0, _, rfl, by omega, HA0.out, HA1.out, RK.Own.nil rkW _ _, HK0.out, by have := HAZ.out; omega⟩
  case round =>
    obtain ⟨k, v, rfl, hk, hb0, hb1, hz, hkw, hsz⟩ := hrel
    clear HA0 HA1 HK0 HAZ W0
    by_cases hlt : k < 8
    · have HB0 := Lib.hid hb0; have HB1 := Lib.hid hb1; have HZ := Lib.hid hz; have HK := Lib.hid hkw; have HS := Lib.hid hsz
      clear hb0 hb1 hz hkw hsz
      go_wp2_with fail
      refine (r13New_any wr m HM.out.1 (by have := HM.out.2; omega)).mono ?_; rintro e w2 ⟨rfl, hk2⟩
      rw [if_pos HM.out.2, if_pos HM.out.2]
      have HI := Lib.hid (D13.init w2 m).ok
      have HC := Lib.hid (show (w2.alloc (.cells #[.int .u8 0, .int .u16 0, .slice none 0 0, .slice none 0 0, .int .i64 0] 81)).heap[w2.heap.size]? = some (.cells mdC0.toArray 81 (0, 0)) from heap_alloc_new w2 _)
      have HKC := Lib.hid (show Keeps [] w2 (w2.alloc (.cells #[.int .u8 0, .int .u16 0, .slice none 0 0, .slice none 0 0, .int .i64 0] 81)) from (Keeps.refl _ _).alloc _)
      have HK2 := Lib.hid hk2
      clear hk2
      go_wp2_with ((with_reducible refine wpList_putD (g := w2.heap.size) (old := mdC0) (A := mdC (mdInit m) (.slice none 0 0) (.slice none 0 0)) HI.out mdC0_ok ?_ ?_ HC.out ?_); exact rfl; exact rfl)
      intro w3 hW3 hk3
      have hk23 := HK2.out.trans (HKC.out.trans' hk3 (Nat.le_refl _)) (FSub.refl _ _)
      have HD3 := Lib.hid hW3
      have hz3 := HZ.out.keeps hk23 (by simp)
      have hs3 : R + 2 ≤ w3.heap.size := Nat.le_trans HS.out hk23.size
      obtain ⟨v', w4, hrun, hrow, hk4, hf4⟩ := rkW.append1 w3 (R + 2) hs3 _ _ hz3 (mq0 m) (by simp; omega)
      have hzl : ∀ q ∈ own v, R + 2 ≤ q := fun q hq => (row_base hz3 q hq).1
      have hk34 : Keeps [] wr w3 := hk23
      have c1 := (cell_lit (hk34.heap HB1.out (by simp)) 1 rfl : World.cell? _ _ = some v)
      have HB04 := Lib.hid (hk4.heap (hk34.heap HB0.out (by simp)) (fun hq => by have := hzl _ hq; omega))
      have HB14 := Lib.hid (hk4.heap (hk34.heap HB1.out (by simp)) (fun hq => by have := hzl _ hq; omega))
      have HK4 := Lib.hid ((HK.out.trans hk34 (FSub.refl _ _)).trans hk4 (fun q hq => .inr (by have := hzl q hq; have := HRE.out; omega)))
      have HROW := Lib.hid (show rkW.Own (R + 2) w4 v' (List.replicate (k + 1) (mq0 m)) from by rw [List.replicate_succ']; exact hrow)
      have HS4 := Lib.hid (Nat.le_trans hs3 hk4.size)
      obtain ⟨av, cv, rfl, hcv, hmv⟩ := hz3.shape
      have HRUN := Lib.hid (show (Builtin.append_ #[37, 37] 37 #[.slice av _ cv, .slice (some ⟨w3.heap.size, 0, none⟩) 1 1]).run Tryz.prog (w3.alloc (.cells (mqC (mq0 m)).toArray 81)) = .ok v' w4 from hrun)
      rw [List.length_replicate] at c1 HB14 HRUN
      obtain ⟨a9, c9, rfl, hc9, hm9⟩ := HROW.out.shape
      rw [List.length_replicate] at HRUN HROW
      clear hW3 hk3 hk23 hz3 hs3 hrun hrow hk4 hf4 hzl hk34 HC HKC HK2 HB0 HB1 HZ HK HS
      generalize w2.heap.size = g6 at *
      go_wp2_with (first
        | ((with_reducible refine wpList_loadD (g := g6) (off := 0) HI.out ?_ ?_ (block_range HD3.out) ?_); exact rfl; exact rfl)
        | ((with_reducible refine wpList_buildW (z := mq0 m) ?_ ?_); exact rfl)
        | ((with_reducible refine wpList_app _ _ ?_ ?_ HRUN.out ?_); exact rfl; exact rfl)
        | ((with_reducible refine wpList_put1 (g := R + 1) (j := 1) (v := .slice a9 (k + 1) c9) (A := [.int .u8 m, .slice av k cv]) ?_ ?_ ?_ HB14.out ?_ ?_ ?_); exact (by kernel_rfl); exact rfl; exact rfl; exact (show (1 : Nat) < 2 by decide); exact rfl))
      intro w5 hW5 hk5
      have HB15 := Lib.hid (show w5.heap[R + 1]? = some (.cells #[.int .u8 m, .slice a9 (k + 1) c9] 39 (0, 0)) from hW5)
      have HB05 := Lib.hid (hk5.heap HB04.out (by simp))
      have HK5 := Lib.hid (HK4.out.trans' hk5 (by have := HRE.out; omega))
      have HROW5 := Lib.hid (HROW.out.keeps hk5 (fun q hq => by have := (row_base HROW.out q hq).1; simp; omega))
      have HS5 := Lib.hid (Nat.le_trans HS4.out hk5.size)
      clear hW5 hk5 HB04 HB14 HK4 HROW HS4 c1 HD3 HRUN
      go_wp2_with fail
      go_roundw
      case rel => exact ⟨k + 1, _, by go_num, by omega, HB05.out, HB15.out, HROW5.out, HK5.out, HS5.out⟩
      case measure => simp [intOf]; omega
    · obtain rfl : k = 8 := by omega
      have HK := Lib.hid hkw; have HB1 := Lib.hid hb1
      have HB0 := Lib.hid (show wr.heap[R]? = some (.cells wdC0.toArray 39 (0, 0)) from hb0)
      obtain ⟨az, cz, rfl, hcz, hmz⟩ := hz.shape
      have d0 := (cell_lit hb1 0 rfl : World.cell? _ _ = some (Value.int .u8 m))
      have d1 := (cell_lit hb1 1 rfl : World.cell? _ _ = some (Value.slice az (List.replicate 8 (mq0 m)).length cz))
      rw [List.length_replicate] at d1 hz
      have HZ := Lib.hid hz
      have HOA := Lib.hid (wdC_ok m az 8 cz)
      clear hz hkw hb0 hb1 hsz
      go_wp2_with ((with_reducible refine wpList_putV (g := R) (old := wdC0) (A := wdC m (.slice az 8 cz)) HOA.out wdC0_ok ?_ ?_ HB0.out ?_); exact rfl; exact rfl)
      intro w5 hW5 hk5
      have HB5 := Lib.hid hW5
      have HK5 := Lib.hid (HK.out.trans' hk5 (by have := HRE.out; omega))
      have HZ5 := Lib.hid (show rkW.Own R w5 (.slice az 8 cz) (List.replicate 8 (mq0 m)) from row_up (RK.Own.keeps HZ.out hk5 (fun q hq => by have := (row_base HZ.out q hq).1; simp; omega)) (fun q hq => by have := (row_base HZ.out q hq).1; omega))
      clear hW5 hk5 d0 d1
      go_wp2_with fail
      try simp only [Exit.inBlock, Exit.then]
      exact bodyPost_ret (results_sk1 skWd rfl _ _ R (wdC_ok m az 8 cz) rfl HB5.out) rfl ⟨_, rfl, HZ5.out, HK5.out⟩
theorem r14New_none (w : World) {m : Int} (h3 : 3 < m) (h4 : m < 256) : Calls Tryz.prog 11 #[.int .u8 m] w fun e w' => e = .returned (.tuple #[.agg wdC0.toArray, .int .i64 10]) ∧ Keeps [] w w' := by
  obtain ⟨-, a0, a1, ak⟩ := two_vars w #[.int .u8 0, .slice none 0 0] #[.int .u8 m, .slice none 0 0] 39 39
  obtain ⟨R, hR⟩ : ∃ R, R = w.heap.size := ⟨_, rfl⟩
  rw [← hR] at a0 a1
  have HRE := Lib.hid hR; have HK0 := Lib.hid ak; have HA0 := Lib.hid a0; have HA1 := Lib.hid a1
  have HM := Lib.hid (⟨h3, h4⟩ : 3 < m ∧ m < 256)
  clear hR a0 a1 ak h3 h4
  go_enter Tryz.func11, Tryz.ntmps11
  go_wp2_with fail
  generalize hWW : ((w.alloc (.cells #[.int .u8 0, .slice none 0 0] 39)).alloc (.cells #[.int .u8 m, .slice none 0 0] 39)) = W0 at *
  clear hWW
  rw [← HRE.out]
  go_loopw [5] (fun i wr => i = .int .i64 0 ∧ wr.heap[R]? = some (.cells #[.int .u8 0, .slice none 0 0] 39 (0, 0)) ∧ Keeps [] w wr) (fun i _ => 8 - (intOf i).toNat)
  case atStart => exact ⟨rfl, HA0.out, HK0.out⟩
  case round =>
    obtain ⟨rfl, hb0, hkw⟩ := hrel
    clear HA0 HA1 HK0 W0
    have HK := Lib.hid hkw
    have HB0 := Lib.hid (show wr.heap[R]? = some (.cells wdC0.toArray 39 (0, 0)) from hb0)
    clear hb0 hkw
    go_wp2_with fail
    refine (r13New_any wr m (by have := HM.out.1; omega) HM.out.2).mono ?_; rintro e w2 ⟨rfl, hk2⟩
    rw [if_neg (by have := HM.out.1; omega), if_neg (by have := HM.out.1; omega)]
    have HC := Lib.hid (show (w2.alloc (.cells #[.int .u8 0, .int .u16 0, .slice none 0 0, .slice none 0 0, .int .i64 0] 81)).heap[w2.heap.size]? = some (.cells mdC0.toArray 81 (0, 0)) from heap_alloc_new w2 _)
    have HKC := Lib.hid (show Keeps [] w2 (w2.alloc (.cells #[.int .u8 0, .int .u16 0, .slice none 0 0, .slice none 0 0, .int .i64 0] 81)) from (Keeps.refl _ _).alloc _)
    have HK2 := Lib.hid hk2
    clear hk2
    go_wp2_with ((with_reducible refine wpList_putD (g := w2.heap.size) (old := mdC0) (A := mdC0) mdC0_ok mdC0_ok ?_ ?_ HC.out ?_); exact rfl; exact rfl)
    intro w3 hW3 hk3
    have hk23 := HK2.out.trans (HKC.out.trans' hk3 (Nat.le_refl _)) (FSub.refl _ _)
    have HB3 := Lib.hid (hk23.heap HB0.out (by simp))
    have HK3 := Lib.hid (HK.out.trans hk23 (FSub.refl _ _))
    clear hW3 hk3 hk23 HC HKC HK2 HB0 HK
    generalize w2.heap.size = g6 at *
    go_wp2_with ((with_reducible refine wpList_putV (g := R) (old := wdC0) (A := wdC0) wdC0_ok wdC0_ok ?_ ?_ HB3.out ?_); exact rfl; exact rfl)
    intro w5 hW5 hk5
    have HB5 := Lib.hid hW5
    have HK5 := Lib.hid (HK3.out.trans' hk5 (by have := HRE.out; omega))
    clear hW5 hk5
    go_wp2_with fail
    try simp only [Exit.inBlock, Exit.then]
    exact bodyPost_ret (results_sk1 skWd rfl _ _ R wdC0_ok rfl HB5.out) rfl ⟨rfl, HK5.out⟩
end Go.Proofs.YtbnhcggjcdipeaaGreatDoor
/-
  The document's world: first.
-/
namespace Go.Proofs.YtbnhcggjcdipeaaGreatDoor
open Go.RowKit
set_option maxRecDepth 100000
set_option maxHeartbeats 8000000
section
variable {ops : Array Oper} {S : World → Prop} {o : Oper} {a : Act}
theorem yields_indexW (hw : Region.wanted o (yielded ops a.tmps) = true) (x y : Operand) (ho : o.op = .indexAddr 37 x y) (g of n c k : Nat) (hx : a.eval x = .slice (some ⟨g, of, none⟩) n c) (hy : a.eval y = .int .i64 k) (hk : k < n) :
    YieldsIf Tryz.prog ops S o (.pointer (some ⟨g, of + k * 5, none⟩)) a :=
  Or.inl ⟨hw, by
    have hk2 : (k : Int) < n := by omega
    intro w _
    unfold execOp
    simp only [ho, hx, hy]
    go_simp⟩
end
theorem r14first_any (w : World) {W : Wd} (hW : W.In) (hu : W.upto 10000) {a : Option Addr} {n c : Nat} {L : List Mq} (h : W14 w W (.slice a n c) L) {o : Nat} (ho : o < 8) :
    Calls Tryz.prog 43 #[.agg (wdC W.m (.slice a n c)).toArray, .int .i64 o] w fun e w' => e = .returned (.bool (decide (mdB (W.at o) = mdB (mdInit W.m)))) ∧ Keeps [] w w' := by
  obtain ⟨rfl, bk, of, rfl, hb, hr0⟩ := h.at hW
  obtain ⟨y, hy, hyS, hyD⟩ := h.get hW ho
  have hry := hr0 o y hy
  have hat := Wd.at_in hW ho
  rw [← hyS] at hat
  have hln : y.S.len ≤ 10000 := by rw [hyS]; exact hu _ (Wd.at_mem hW ho)
  rw [← hyS]
  have hm : 0 ≤ W.m ∧ W.m ≤ 3 := ⟨hW.m0, hW.m3⟩
  obtain ⟨hms, hyI⟩ := hat
  clear hyS hy hr0 hb h hu hW
  generalize W.m = m at *
  have hk := (Keeps.refl [] w).alloc (.cells #[.int .u8 m, .slice (some ⟨bk, of, none⟩) 8 c] 39)
  have h0 := heap_alloc_new w (.cells #[.int .u8 m, .slice (some ⟨bk, of, none⟩) 8 c] 39)
  have HK := Lib.hid hk; have H0 := Lib.hid h0
  have HRY := Lib.hid (fun w' (h : Keeps [] w w') => show w'.rangeAt bk (of + o * 5) (mqC y) from fun j v hv => h.cell (hry j v hv) (by simp))
  have HYD := Lib.hid (fun w' (h : Keeps [] w w') => hyD.new h)
  have HYI := Lib.hid hyI; have HYL := Lib.hid hln; have HM := Lib.hid hm
  have HOK := Lib.hid hyD.ok
  have c0 := (cell_lit h0 0 rfl : World.cell? _ _ = some (Value.int .u8 m))
  have e : decide ((mdInit m).model = y.S.model ∧ mdB (mdInit m) = mdB y.S) = decide (mdB y.S = mdB (mdInit m)) := by
    rw [mdInit_model hm.1 hm.2, hms]
    simp only [true_and]
    exact decide_eq_decide.2 ⟨Eq.symm, Eq.symm⟩
  have HE := Lib.hid e
  have HO := Lib.hid ho
  clear hk h0 hry hyD hyI hln hm hms e ho
  unfold wdC
  go_enter Tryz.func43, Tryz.ntmps43
  go_wp2_with fail
  refine (r13New_any _ m HM.out.1 (by have := HM.out.2; omega)).mono ?_; rintro e w2 ⟨rfl, hk2⟩
  rw [if_pos HM.out.2, if_pos HM.out.2]
  have HI := Lib.hid (D13.init w2 m)
  have HK2 := Lib.hid (HK.out.trans hk2 (FSub.refl _ _))
  have H02 := Lib.hid (hk2.heap H0.out (by simp))
  clear hk2 H0 HK c0
  have HC := Lib.hid (show (w2.alloc (.cells #[.int .u8 0, .int .u16 0, .slice none 0 0, .slice none 0 0, .int .i64 0] 81)).heap[w2.heap.size]? = some (.cells mdC0.toArray 81 (0, 0)) from heap_alloc_new w2 _)
  have HKC := Lib.hid (show Keeps [] w2 (w2.alloc (.cells #[.int .u8 0, .int .u16 0, .slice none 0 0, .slice none 0 0, .int .i64 0] 81)) from (Keeps.refl _ _).alloc _)
  go_wp2_with ((with_reducible refine wpList_putD (g := w2.heap.size) (old := mdC0) (A := mdC (mdInit m) (.slice none 0 0) (.slice none 0 0)) HI.out.ok mdC0_ok ?_ ?_ HC.out ?_); exact rfl; exact rfl)
  intro w3 hW3 hk3
  have hk23 := HKC.out.trans' hk3 (Nat.le_refl _)
  have H03 := Lib.hid (hk23.heap H02.out (by simp)); have H23 := Lib.hid hW3
  have HK3 := Lib.hid (HK2.out.trans hk23 (FSub.refl _ _))
  have HI3 := Lib.hid (D13.init w3 m)
  clear hW3 hk3 hk23 HC HKC H02 HK2 HI
  generalize w2.heap.size = g2 at *
  go_wp2_with fail
  obtain ⟨R0, hR0⟩ : ∃ R0, R0 = w.heap.size := ⟨_, rfl⟩
  rw [← hR0] at H03 ⊢
  clear hR0
  obtain ⟨S0, hS0⟩ : ∃ S0 : World → Prop, S0 = fun y => Keeps [] w3 y := ⟨_, rfl⟩
  have HSE := Lib.hid hS0
  have hSD : S0 w3.drew := by rw [hS0]; exact (Keeps.refl _ _).drew
  have HSA := Lib.hid (fun (w' : World) (hh : S0 w') => show w'.rangeAt bk (of + o * 5) (mqC y) from by rw [hS0] at hh; exact HRY.out _ (HK3.out.trans hh (FSub.refl _ _)))
  have HSI := Lib.hid (fun (w' : World) (hh : S0 w') => show w'.rangeAt g2 0 (mdC (mdInit m) (.slice none 0 0) (.slice none 0 0)) from by rw [hS0] at hh; exact fun j v hv => hh.cell (block_range H23.out j v hv) (by simp))
  have HC1 := Lib.hid (fun (w' : World) (hh : S0 w') => show w'.cell? ⟨R0, 1, none⟩ = some (.slice (some ⟨bk, of, none⟩) 8 c) from by rw [hS0] at hh; exact hh.cell (cell_lit H03.out 1 rfl) (by simp))
  clear hS0
  have HIL := Lib.hid (show (mdInit m).len ≤ 10000 from by rw [mdInit_len]; omega)
  have HSS := Lib.hid (fun w' (h : Keeps [] w3 w') => r13Same_any w' (mdInit_in m) HIL.out HYI.out HYL.out (HI3.out.new h) (HYD.out _ (HK3.out.trans h (FSub.refl _ _))))
  have HII := Lib.hid HI3.out.ok
  rw [HE.out] at HSS
  have HY := Lib.hid ((Keeps.refl [] w3).drew)
  refine wp_region_noPanic ?_
  refine wp_region_held_drew (S := S0) (by kernel_rfl) hSD (fun hHeld => ?_)
  refine tk 0 (y := by exact skD.yields HII.out rfl _ rfl g2 0 rfl HSI.out) (h := ?_); try simp only [Act.put, lsA, lsZ, lsS]
  refine tw 1 (h := ?_); try simp only [Act.put, lsA, lsZ, lsS]
  refine tk 2 (y := by exact Or.inl ⟨by rfl, by intro w hSw; have q0 := HC1.out w hSw; go_simp; try with_reducible rfl⟩) (h := ?_); try simp only [Act.put, lsA, lsZ, lsS]
  refine tw 3 (h := ?_); try simp only [Act.put, lsA, lsZ, lsS]
  refine tk 4 (y := by exact yields_indexW rfl _ _ rfl bk of 8 c o rfl rfl HO.out) (h := ?_); try simp only [Act.put, lsA, lsZ, lsS]
  refine tk 5 (y := by exact skD.yields HOK.out rfl _ rfl bk (of + o * 5) rfl HSA.out) (h := ?_); try simp only [Act.put, lsA, lsZ, lsS]
  refine rp 6 (h := fun K hK => ?_)
  refine wp_call9 66 _ _ rfl [.agg (mdC (mdInit m) (.slice none 0 0) (.slice none 0 0)).toArray, .agg (mdC y.S y.q y.p).toArray] rfl Tryz.func66 (by kernel_rfl) (by kernel_rfl) ((HSS.out _ HY.out).mono ?_)
  rintro e y1 ⟨rfl, hk1⟩
  refine ⟨_, rfl, ?_⟩
  replace HY := Lib.hid (HY.out.trans hk1 (FSub.refl _ _))
  clear hk1
  refine hK.out _ _ (by rw [HSE.out]; exact HY.out) (fun hHeld => ?_); clear hK K; try simp only [Act.put, lsA, lsZ, lsS]
  refine tw 7 (h := ?_); try simp only [Act.put, lsA, lsZ, lsS]
  refine wpAnyH_done (by kernel_rfl) ?_ _
  refine NoPanic.normal ?_
  go_wp2_with fail
  go_ret
  exact ⟨rfl, HK3.out.trans HY.out (FSub.refl _ _)⟩
end Go.Proofs.YtbnhcggjcdipeaaGreatDoor
/-
  The document's world: Step.
-/
namespace Go.Proofs.YtbnhcggjcdipeaaGreatDoor
open Go.RowKit
set_option maxRecDepth 100000
set_option maxHeartbeats 8000000
/-- The blocks of an object's lists. -/
def ApD (S : Md) (q m : Value) (p : Nat → Prop) : Prop := (S.list ≠ [] → ∀ b ∈ own q, p b) ∧ ∀ t, S.items t → t ≠ [] → ∀ b ∈ own m, p b
theorem ApD.mono {S : Md} {q m : Value} {p p' : Nat → Prop} (h : ApD S q m p) (hp : ∀ q, p q → p' q) : ApD S q m p' := ⟨fun hn b hb => hp b (h.1 hn b hb), fun t ht hn b hb => hp b (h.2 t ht hn b hb)⟩
def kpD (S : Md) : Kept (Value × Value) where
  cs x := mdC S x.1 x.2
  P x w := D13 w S x.1 x.2
  Ap x p := ApD S x.1 x.2 p
  keep h hk ha := D13.keeps h hk ha.1 ha.2
  old h := ⟨fun hn b hb => h.old_q hn b hb, fun t ht hn b hb => h.old_m (t := t) ht hn b hb⟩
  mono h hp := h.mono hp
  and_ h h' := ⟨fun hn b hb => ⟨h.1 hn b hb, h'.1 hn b hb⟩, fun t ht hn b hb => ⟨h.2 t ht hn b hb, h'.2 t ht hn b hb⟩⟩
/-- The blocks of the document's world. -/
def Ap14 (v : Value) (L : List Mq) (p : Nat → Prop) : Prop := (L ≠ [] → ∀ b ∈ own v, p b) ∧ ∀ y ∈ L, ApD y.S y.q y.p p
theorem W14.keep {w w' : World} {W : Wd} {v : Value} {L : List Mq} {F : List Nat} (h : W14 w W v L) (hk : Keeps F w w') (ha : Ap14 v L (fun q => q ∉ F)) : W14 w' W v L :=
  ⟨(h.row.keeps hk ha.1).more hk.size, h.is, fun y hy => D13.keeps (h.all y hy) hk (ha.2 y hy).1 (ha.2 y hy).2⟩
theorem Keeps.setCells14 {F : List Nat} {w : World} {g : Nat} (hg : g ∈ F) : ∀ (vs : List Value) (o : Nat) {w' : World}, Keeps F w w' → Keeps F w (w'.setCells g o vs)
  | [], _, _, h => h
  | v :: r, o, w', h => Keeps.setCells14 hg r (o + 1) (h.setCell ⟨g, o, none⟩ v (.inl (by simpa using hg)))
/-- The cells of a row of structs are there, and may be put. -/
theorem RK.Own.hold14 {α : Type} {R : RK α} {base : Nat} {w : World} {g cap : Nat} {L : List α} (h : R.Own base w (.slice (some ⟨g, 0, none⟩) L.length cap) L) (k : Nat) (hk : k < L.length) : ∀ j, j < R.s → (w.cell? ⟨g, k * R.s + j, none⟩).isSome = true ∧ w.frozen? ⟨g, k * R.s + j, none⟩ = false := by
  intro j hj
  rcases h.2 with ⟨e, _⟩ | ⟨g', cap', cur, e, hb, hh, hc, hm, hcs, htk⟩
  · cases e
  · simp only [Value.slice.injEq, Option.some.injEq, Addr.mk.injEq, and_true, true_and] at e
    obtain ⟨rfl, rfl⟩ := e
    have hlt : k * R.s + j < cur.size := by
      rw [hcs]
      have h1 : (k + 1) * R.s ≤ cap * R.s := Nat.mul_le_mul_right _ (by omega)
      rw [Nat.add_mul] at h1
      omega
    exact ⟨by simp [World.cell?, hh, hlt], by simp [World.frozen?, hh]⟩
section
variable {ops : Array Oper} {rest : List Oper} {a : Act} {w : World} {Q : Exit → Act → World → Prop}
/-- One object of an own row is stored. -/
theorem wpList_putMq {dst : Option Tmp} {ty : TypeId} {pos : String} {after : Array Edge} {x y : Operand} {base g n cap k : Nat} {L : List Mq} (z : Mq) (hn : L.length = n) (hk : k < n)
    (hx : a.eval x = .pointer (some ⟨g, 0 + k * 5, none⟩)) (hy : a.eval y = .agg (mqC z).toArray) (ho : rkW.Own base w (.slice (some ⟨g, 0, none⟩) n cap) L)
    (h : ∀ V, rkW.Own base V (.slice (some ⟨g, 0, none⟩) n cap) (L.set k z) → Keeps [g] w V → wpList Tryz.prog ops Q rest (a.put dst undef) V) :
    wpList Tryz.prog ops Q ({ dst := dst, op := .store 81 x y, type := ty, pos := pos, after := after, guard := none } :: rest) a w := by
  subst hn
  rw [Nat.zero_add] at hx
  refine wpList_plain rfl fun _ hK => rkW.wp_store (y := z) rfl hx hy (RK.Own.hold14 ho k hk) (hK _ _ (h _ ?_ ?_))
  · exact ho.set k hk z
  · exact Keeps.setCells14 (by simp) _ _ (Keeps.refl _ _)
end
end Go.Proofs.YtbnhcggjcdipeaaGreatDoor
/-
  The document's world: Objects.
-/
namespace Go.Proofs.YtbnhcggjcdipeaaGreatDoor
open Go.RowKit
set_option maxRecDepth 100000
set_option maxHeartbeats 8000000
theorem Tryz.infoNat : (Tryz.prog.info? 3).map (fun i => (i.zero, i.size, i.bytes)) = some (some (.int .i64 0), 1, 8) := by kernel_rfl
def natC (k : Nat) : List Value := [.int .i64 k]
/-- Numbers from 0 on, side by side. -/
noncomputable def rkN : RK Nat :=
  { T := 3, Sl := 88, s := 1, b := 8, cs := natC, i := (info_parts Tryz.infoNat).choose, z := .int .i64 0,
    len := fun _ => rfl, one := by intro x v hv; simp only [natC, List.mem_cons, List.not_mem_nil, or_false] at hv; subst hv; rfl, s0 := by decide, b1 := by decide, und := Tryz.underlying88,
    hi := (info_parts Tryz.infoNat).choose_spec.1, hz := (info_parts Tryz.infoNat).choose_spec.2.1, hs := (info_parts Tryz.infoNat).choose_spec.2.2.1, hb := (info_parts Tryz.infoNat).choose_spec.2.2.2, hzs := rfl }
theorem liW_cons (m : Int) (i : Nat) (S : Md) (r : List Md) : liW m i (S :: r) = if mdB S = mdB (mdInit m) then liW m (i + 1) r else (i, S) :: liW m (i + 1) r := rfl
theorem liW_app (m : Int) : ∀ (i : Nat) (l k : List Md), liW m i (l ++ k) = liW m i l ++ liW m (i + l.length) k
  | i, [], k => rfl
  | i, S :: l, k => by
    show liW m i (S :: (l ++ k)) = liW m i (S :: l) ++ _
    rw [liW_cons, liW_cons, liW_app m (i + 1) l k, show i + 1 + l.length = i + (S :: l).length by simp only [List.length_cons]; omega]
    split <;> rfl
theorem liW_next {m : Int} {l : List Md} {k : Nat} (hk : k < l.length) : liW m 0 (l.take (k + 1)) = liW m 0 (l.take k) ++ (if mdB (l.getD k (mdInit m)) = mdB (mdInit m) then [] else [(k, l.getD k (mdInit m))]) := by
  rw [List.take_add_one, List.getElem?_eq_getElem hk, Option.toList_some, liW_app, List.length_take, Nat.min_eq_left (Nat.le_of_lt hk), Nat.zero_add, List.getD_eq_getElem?_getD, List.getElem?_eq_getElem hk]
  rfl
theorem liW_len (m : Int) : ∀ (i : Nat) (l : List Md), (liW m i l).length ≤ l.length
  | i, [] => Nat.le_refl _
  | i, S :: l => by
    have := liW_len m (i + 1) l
    unfold liW
    split <;> simp only [List.length_cons] <;> omega
theorem r14Objects_any (w : World) {W : Wd} (hW : W.In) (hu : W.upto 10000) {a : Option Addr} {n c : Nat} {L : List Mq} (h : W14 w W (.slice a n c) L) :
    Calls Tryz.prog 35 #[.agg (wdC W.m (.slice a n c)).toArray] w fun e w' => ∃ v, e = .returned v ∧ rkN.Own w.heap.size w' v (W.li.map (·.1)) ∧ Keeps [] w w' := by
  have hk0 : Keeps [] w (w.alloc (.cells #[.int .u8 W.m, .slice a n c] 39)) := (Keeps.refl _ _).alloc _
  have h0 := heap_alloc_new w (.cells #[.int .u8 W.m, .slice a n c] 39)
  have hsz : (w.alloc (.cells #[.int .u8 W.m, .slice a n c] 39)).heap.size = w.heap.size + 1 := Array.size_push _
  obtain ⟨rfl, -⟩ := h.at hW
  have HF := Lib.hid (fun w' (hk : Keeps [] w w') (o : Nat) (ho : o < 8) => r14first_any w' hW hu (h.new hk) ho)
  have HW8 := Lib.hid hW.n
  obtain ⟨R, hR⟩ : ∃ R, R = w.heap.size := ⟨_, rfl⟩
  rw [← hR] at h0 hsz ⊢
  have HRE := Lib.hid hR; have HK0 := Lib.hid hk0; have H0 := Lib.hid h0; have HSZ := Lib.hid hsz
  unfold Wd.li
  unfold Wd.at at HF
  clear hR hk0 h0 hsz h hW hu
  obtain ⟨m, l⟩ := W
  simp only at *
  unfold wdC
  go_enter Tryz.func35, Tryz.ntmps35
  go_wp2_with fail
  generalize hWW : w.alloc (.cells #[.int .u8 m, .slice a 8 c] 39) = W0 at *
  clear hWW
  rw [← HRE.out]
  go_loopw [3, 4] (fun z i wr => ∃ k : Nat, i = .int .i64 k ∧ k ≤ 8 ∧ wr.heap[R]? = some (.cells #[.int .u8 m, .slice a 8 c] 39 (0, 0)) ∧ rkN.Own (R + 1) wr z ((liW m 0 (l.take k)).map (·.1)) ∧ Keeps [] w wr ∧ R + 1 ≤ wr.heap.size) (fun _ i _ => 8 - (intOf i).toNat)
  case atStart => exact ⟨0, rfl, by omega, H0.out, RK.Own.nil rkN _ _, HK0.out, by have := HSZ.out; omega⟩
  case round =>
    obtain ⟨k, rfl, hk, hb0, hz, hkw, hsz⟩ := hrel
    clear H0 HK0 HSZ W0
    have c0 := (cell_lit hb0 0 rfl : World.cell? _ _ = some (Value.int .u8 m))
    have c1 := (cell_lit hb0 1 rfl : World.cell? _ _ = some (Value.slice a 8 c))
    by_cases hlt : k < 8
    · have hn := liW_next (m := m) (show k < l.length by rw [HW8.out]; exact hlt)
      have HB := Lib.hid hb0; have HK := Lib.hid hkw; have HZ := Lib.hid hz; have HS := Lib.hid hsz; have HN := Lib.hid hn
      clear hb0 hkw hz hsz hn
      go_wp2_with fail
      refine (HF.out wr HK.out k hlt).mono ?_; rintro e w2 ⟨rfl, hk2⟩
      have HK2 := Lib.hid hk2
      clear hk2 c0 c1
      by_cases hi : mdB (l.getD k (mdInit m)) = mdB (mdInit m)
      · rw [decide_eq_true hi]
        have hn := HN.out
        rw [if_pos hi, List.append_nil] at hn
        have HZ2 := Lib.hid (show rkN.Own (R + 1) w2 _ ((liW m 0 (l.take (k + 1))).map (·.1)) from by rw [hn]; exact HZ.out.keeps HK2.out (by simp))
        have HK3 := Lib.hid (HK.out.trans HK2.out (FSub.refl _ _)); have HB2 := Lib.hid (HK2.out.heap HB.out (by simp)); have HS2 := Lib.hid (Nat.le_trans HS.out HK2.out.size)
        obtain ⟨az, cz, rfl, hcz, hmz⟩ := HZ.out.shape
        clear hn hi HN HB HK HZ HS HK2
        go_wp2_with fail
        go_roundw
        case rel => exact ⟨k + 1, by go_num, by omega, HB2.out, (by have h := HZ2.out; rw [List.length_map] at h; exact h), HK3.out, HS2.out⟩
        case measure => simp [intOf]; omega
      · rw [decide_eq_false hi]
        have hn := HN.out
        rw [if_neg hi] at hn
        have hz2 := HZ.out.keeps HK2.out (by simp)
        have hs2 : R + 1 ≤ w2.heap.size := Nat.le_trans HS.out HK2.out.size
        have hlen : ((liW m 0 (l.take k)).map (·.1)).length ≤ 8 := by
          rw [List.length_map]
          exact Nat.le_trans (liW_len m 0 _) (by rw [List.length_take]; omega)
        obtain ⟨v', w3, hrun, hrow3, hk3, hf3⟩ := rkN.append1 w2 (R + 1) hs2 _ _ hz2 k (by omega)
        have hzl : ∀ q ∈ own _, R + 1 ≤ q := fun q hq => (row_base hz2 q hq).1
        have HB3 := Lib.hid (hk3.heap (HK2.out.heap HB.out (by simp)) (fun hq => by have := hzl _ hq; omega))
        have HK3 := Lib.hid ((HK.out.trans HK2.out (FSub.refl _ _)).trans hk3 (fun q hq => .inr (by have := hzl q hq; have := HRE.out; omega)))
        have HZ3 := Lib.hid (show rkN.Own (R + 1) w3 v' ((liW m 0 (l.take (k + 1))).map (·.1)) from by rw [hn, List.map_append]; exact hrow3)
        have HS3 := Lib.hid (Nat.le_trans hs2 hk3.size)
        obtain ⟨az, cz, rfl, hcz, hmz⟩ := hz2.shape
        obtain ⟨a9, c9, rfl, -, -⟩ := hrow3.shape
        have HRUN := Lib.hid (show (Builtin.append_ #[88, 88] 88 #[.slice az ((liW m 0 (l.take k)).map (·.1)).length cz, .slice (some ⟨w2.heap.size, 0, none⟩) 1 1]).run Tryz.prog (w2.alloc (.cells #[.int .i64 (k : Int)] 3)) = _ from hrun)
        clear hn hi HN HB HK HZ HS HK2 hz2 hs2 hrun hrow3 hk3 hf3 hzl
        generalize hLL : ((liW m 0 (l.take k)).map (·.1)).length = n0 at *
        clear hLL
        go_wp2_with ((with_reducible refine wpList_app _ _ ?_ ?_ HRUN.out ?_); exact rfl; exact rfl)
        go_roundw
        case rel => exact ⟨k + 1, by go_num, by omega, HB3.out, (by have h := HZ3.out; first | exact h | (rw [List.length_append, List.length_map] at h; exact h) | (rw [List.length_append] at h; exact h) | simpa using h), HK3.out, HS3.out⟩
        case measure => simp [intOf]; omega
    · obtain rfl : k = 8 := by omega
      have hall : l.take 8 = l := List.take_of_length_le (by rw [HW8.out]; exact Nat.le_refl _)
      rw [hall] at hz
      have HZ := Lib.hid (row_up hz (fun q hq => by have := (row_base hz q hq).1; omega : ∀ q ∈ own _, R ≤ q))
      have HK := Lib.hid hkw
      obtain ⟨az, cz, rfl, hcz, hmz⟩ := hz.shape
      clear hall hz hkw hb0 hsz
      go_wp2_with fail
      go_ret
      exact ⟨_, rfl, HZ.out, HK.out⟩
end Go.Proofs.YtbnhcggjcdipeaaGreatDoor
/-
  The document's world: Encode.
-/
namespace Go.Proofs.YtbnhcggjcdipeaaGreatDoor
open Go.RowKit
set_option maxRecDepth 100000
set_option maxHeartbeats 8000000
theorem liW_at {m : Int} : ∀ (i : Nat) (l : List Md), ∀ p ∈ liW m i l, l[p.1 - i]? = some p.2
  | i, [], p, h => by cases h
  | i, S :: r, p, h => by
    rw [liW_cons] at h
    have go : p ∈ liW m (i + 1) r → (S :: r)[p.1 - i]? = some p.2 := fun h => by
      have h1 := (liW_mem m (i + 1) r p h).1
      rw [show p.1 - i = (p.1 - (i + 1)) + 1 by omega, List.getElem?_cons_succ]
      exact liW_at (i + 1) r p h
    split at h
    · exact go h
    · rcases List.mem_cons.1 h with rfl | h
      · show (S :: r)[i - i]? = _
        rw [Nat.sub_self]; rfl
      · exact go h
theorem Wd.li_at {W : Wd} (p : Nat × Md) (h : p ∈ W.li) : p.2 = W.at p.1 := by
  have := liW_at 0 W.l p h
  show p.2 = W.l.getD p.1 _
  rw [List.getD_eq_getElem?_getD, show W.l[p.1]? = some p.2 from this]
  rfl
section
variable {ops : Array Oper} {S : World → Prop} {o : Oper} {a : Act}
theorem yields_indexN (hw : Region.wanted o (yielded ops a.tmps) = true) (x y : Operand) (ho : o.op = .indexAddr 88 x y) (g of n c k : Nat) (hx : a.eval x = .slice (some ⟨g, of, none⟩) n c) (hy : a.eval y = .int .i64 k) (hk : k < n) :
    YieldsIf Tryz.prog ops S o (.pointer (some ⟨g, of + k, none⟩)) a :=
  Or.inl ⟨hw, by
    have hk2 : (k : Int) < n := by omega
    intro w _
    unfold execOp
    simp only [ho, hx, hy]
    go_simp⟩
end
theorem conv_three (w : World) {g : Nat} (hg : g = w.heap.size) {a b c : Nat} (ha : a < 256) (hb : b < 256) (hc : c < 256) : (convert 109 9 (.slice (some ⟨g, 0, none⟩) 3 3)).run Tryz.prog (w.alloc (.cells #[.int .u8 a, .int .u8 b, .int .u8 c] 5)) = .ok (.string (bs [UInt8.ofNat a, UInt8.ofNat b, UInt8.ofNat c])) (w.alloc (.cells #[.int .u8 a, .int .u8 b, .int .u8 c] 5)) := by
  subst hg
  have e : nb [UInt8.ofNat a, UInt8.ofNat b, UInt8.ofNat c] = [(a : Int), (b : Int), (c : Int)] := by
    simp only [nb, List.map_cons, List.map_nil, UInt8.toNat_ofNat', List.cons.injEq, and_true]
    omega
  rw [← str_nb]
  have := run_convert_bytes_arg (w.alloc (.cells #[.int .u8 (a : Int), .int .u8 (b : Int), .int .u8 (c : Int)] 5)) 109 5 Tryz.underlying109 Tryz.underlying5 w.heap.size 0 3 3 (nb [UInt8.ofNat a, UInt8.ofNat b, UInt8.ofNat c]) (by rw [e]; rfl) (fun i hi => by
    rw [e]
    rcases (by omega : i = 0 ∨ i = 1 ∨ i = 2) with rfl | rfl | rfl
    · exact cell_lit (heap_alloc_new w (.cells #[.int .u8 (a : Int), .int .u8 (b : Int), .int .u8 (c : Int)] 5)) 0 rfl
    · exact cell_lit (heap_alloc_new w (.cells #[.int .u8 (a : Int), .int .u8 (b : Int), .int .u8 (c : Int)] 5)) 1 rfl
    · exact cell_lit (heap_alloc_new w (.cells #[.int .u8 (a : Int), .int .u8 (b : Int), .int .u8 (c : Int)] 5)) 2 rfl) 9 Tryz.underlying9
  exact this
theorem liB_len {li : List (Nat × Md)} (h : ∀ p ∈ li, (mdB p.2).length ≤ 20300) : ∀ k, ((li.take k).flatMap itB).length ≤ k * 20303
  | 0 => by simp
  | k + 1 => by
    have ih := liB_len h k
    rw [List.take_add_one, List.flatMap_append, List.length_append]
    cases hk : li[k]? with
    | none => simp only [Option.toList_none, List.flatMap_nil, List.length_nil]; omega
    | some p =>
      have := h p (List.mem_of_getElem? hk)
      have e := itB_len p
      simp only [Option.toList_some, List.flatMap_cons, List.flatMap_nil, List.append_nil]
      omega
theorem r14Encode_any (w : World) {W : Wd} (hW : W.In) (hu : W.upto 10000) {a : Option Addr} {n c : Nat} {L : List Mq} (h : W14 w W (.slice a n c) L) :
    Calls Tryz.prog 36 #[.agg (wdC W.m (.slice a n c)).toArray] w fun e w' => e = .returned (.string (bs (wdB W))) ∧ Keeps [] w w' := by
  obtain ⟨rfl, bk, of, rfl, -, hr0⟩ := h.at hW
  have hk0 : Keeps [] w (w.alloc (.cells #[.int .u8 W.m, .slice (some ⟨bk, of, none⟩) 8 c] 39)) := (Keeps.refl _ _).alloc _
  have h0 := heap_alloc_new w (.cells #[.int .u8 W.m, .slice (some ⟨bk, of, none⟩) 8 c] 39)
  have HOB := Lib.hid (fun w' (hk : Keeps [] w w') => r14Objects_any w' hW hu (h.new hk))
  have HG := Lib.hid (fun p (hp : p ∈ W.li) => by
    obtain ⟨y, hy, hyS, hyD⟩ := h.get hW (Wd.li_mem hW p hp).1
    exact (⟨y, hyS.trans (Wd.li_at p hp).symm, hyD, hr0 _ y hy⟩ : ∃ y : Mq, y.S = p.2 ∧ D13 w y.S y.q y.p ∧ w.rangeAt bk (of + p.1 * 5) (mqC y)))
  have HP := Lib.hid (fun p (hp : p ∈ W.li) => (⟨(Wd.li_mem hW p hp).1, (Wd.li_mem hW p hp).2.2.1, hu _ (liW_mem _ _ _ p hp).2.2.1⟩ : p.1 < 8 ∧ p.2.In ∧ p.2.len ≤ 10000))
  have HBL := Lib.hid (liB_len (li := W.li) (fun p hp => by have := mdB_short (Wd.li_mem hW p hp).2.2.1 (hu _ (liW_mem _ _ _ p hp).2.2.1); omega))
  have HL8 := Lib.hid (show W.li.length ≤ 8 from by have := liW_len W.m 0 W.l; rw [hW.n] at this; exact this)
  obtain ⟨R, hR⟩ : ∃ R, R = w.heap.size := ⟨_, rfl⟩
  rw [← hR] at h0
  have HRE := Lib.hid hR; have HK0 := Lib.hid hk0; have H0 := Lib.hid h0
  unfold wdB
  generalize W.li = li at *
  generalize W.m = m at *
  clear hR hk0 h0 h hW hu hr0
  have c0 := (cell_lit H0.out 0 rfl : World.cell? _ _ = some (Value.int .u8 m))
  have c1 := (cell_lit H0.out 1 rfl : World.cell? _ _ = some (Value.slice (some ⟨bk, of, none⟩) 8 c))
  unfold wdC
  go_enter Tryz.func36, Tryz.ntmps36
  go_wp2_with fail
  rw [← HRE.out]
  refine (HOB.out _ HK0.out).mono ?_; rintro e w2 ⟨v, rfl, hv, hk2⟩
  have H02 := Lib.hid (hk2.heap H0.out (by simp)); have HK2 := Lib.hid (HK0.out.trans hk2 (FSub.refl _ _))
  obtain ⟨av, cv, rfl, hcv, hmv⟩ := hv.shape
  have HV := Lib.hid hv
  clear hk2 hv H0 HK0 c0 c1 HOB
  rw [List.length_map] at *
  go_wp2_with fail
  go_loopw [3, 5] (fun s i wr => ∃ k : Nat, i = .int .i64 k ∧ k ≤ li.length ∧ s = .string (bs ((li.take k).flatMap itB)) ∧ wr.heap[R]? = some (.cells #[.int .u8 m, .slice (some ⟨bk, of, none⟩) 8 c] 39 (0, 0)) ∧ Keeps [] w2 wr) (fun _ i _ => li.length - (intOf i).toNat)
  case atStart => exact ⟨0, rfl, by omega, rfl, H02.out, Keeps.refl _ _⟩
  case round =>
    obtain ⟨k, rfl, hk, rfl, hb0, hkw⟩ := hrel
    by_cases hlt : k < li.length
    · obtain ⟨y, hyS, hyD, hry⟩ := HG.out li[k] (List.getElem_mem hlt)
      obtain ⟨p8, pI, pl⟩ := HP.out li[k] (List.getElem_mem hlt)
      have hv := HV.out
      obtain ⟨gv, oc, e, -, -, -, hgv, hrv⟩ := hv.at (fun e => by have := congrArg List.length e; rw [List.length_map, List.length_nil] at this; omega)
      simp only [Value.slice.injEq, List.length_map, true_and] at e
      obtain ⟨rfl, rfl⟩ := e
      have hcv0 : w2.cell? ⟨gv, k, none⟩ = some (.int .i64 (li[k].1 : Int)) := by
        have h1 := hrv k (by rw [List.length_map]; exact hlt) 0 (.int .i64 (li[k].1 : Int)) (by rw [List.getElem_map]; rfl)
        rw [show k * rkN.s + 0 = k from by show k * 1 + 0 = k; omega] at h1
        exact h1
      have hnx : (li.take (k + 1)).flatMap itB = (li.take k).flatMap itB ++ itB li[k] := by
        rw [List.take_add_one, List.getElem?_eq_getElem hlt, Option.toList_some, List.flatMap_append]; simp
      have HNX := Lib.hid hnx
      have HBK := Lib.hid (show ((li.take k).flatMap itB).length ≤ 170000 from by have := HBL.out k; have := HL8.out; omega)
      have HKW := Lib.hid hkw; have HB0 := Lib.hid hb0
      have HKA := Lib.hid (HK2.out.trans hkw (FSub.refl _ _))
      have HRY := Lib.hid hry; have HYD := Lib.hid hyD; have HOK := Lib.hid hyD.ok
      have HYI := Lib.hid (hyS ▸ pI : y.S.In); have HYL := Lib.hid (hyS ▸ pl : y.S.len ≤ 10000); have HYS := Lib.hid hyS
      have c1 := (cell_lit hb0 1 rfl : World.cell? _ _ = some (Value.slice (some ⟨bk, of, none⟩) 8 c))
      have cN := hkw.cell hcv0 (by simp)
      have HV0 := Lib.hid hcv0
      clear hv hcv0 hnx hkw hb0 hry hyD pI pl hyS hrv hgv
      generalize li[k] = p at *
      generalize (li.take k).flatMap itB = B at *
      have HP8 := Lib.hid p8
      obtain ⟨S0, hS0⟩ : ∃ S0 : World → Prop, S0 = fun y => Keeps [] wr y := ⟨_, rfl⟩
      have HSE := Lib.hid hS0
      have hSD : S0 wr.drew := by rw [hS0]; exact (Keeps.refl _ _).drew
      have HSA := Lib.hid (fun (w' : World) (hh : S0 w') => show w'.rangeAt bk (of + p.1 * 5) (mqC y) from by rw [hS0] at hh; exact fun j v hv => (HKA.out.trans hh (FSub.refl _ _)).cell (HRY.out j v hv) (by simp))
      have HC1 := Lib.hid (fun (w' : World) (hh : S0 w') => show w'.cell? ⟨R, 1, none⟩ = some (.slice (some ⟨bk, of, none⟩) 8 c) from by rw [hS0] at hh; exact hh.cell c1 (by simp))
      have HCN := Lib.hid (fun (w' : World) (hh : S0 w') => show w'.cell? ⟨gv, k, none⟩ = some (.int .i64 (p.1 : Int)) from by rw [hS0] at hh; exact hh.cell cN (by simp))
      clear hS0 c1 cN
      have HEN := Lib.hid (fun w' (h : Keeps [] wr w') => r13Encode_any w' HYI.out HYL.out (HYD.out.new (HKA.out.trans h (FSub.refl _ _))))
      have HY := Lib.hid ((Keeps.refl [] wr).drew)
      go_wp2_with fail
      refine wp_region_noPanic ?_
      refine wp_region_held_drew (S := S0) (by kernel_rfl) hSD (fun hHeld => ?_)
      refine tw 0 (h := ?_); try simp only [Act.put, lsA, lsZ, lsS]
      refine tk 1 (y := by exact Or.inl ⟨by rfl, by intro w hSw; have q0 := HC1.out w hSw; go_simp; try with_reducible rfl⟩) (h := ?_); try simp only [Act.put, lsA, lsZ, lsS]
      refine tw 2 (h := ?_); try simp only [Act.put, lsA, lsZ, lsS]
      refine tw 3 (h := ?_); try simp only [Act.put, lsA, lsZ, lsS]
      refine tk 4 (y := by exact yields_indexN rfl _ _ rfl gv 0 li.length cv k rfl rfl hlt) (h := ?_); try simp only [Act.put, lsA, lsZ, lsS]
      refine tk 5 (y := by exact Or.inl ⟨by rfl, by intro w hSw; have q0 := HCN.out w hSw; go_simp; try with_reducible rfl⟩) (h := ?_); try simp only [Act.put, lsA, lsZ, lsS]
      refine tk 6 (y := by exact yields_indexW rfl _ _ rfl bk of 8 c p.1 rfl rfl HP8.out) (h := ?_); try simp only [Act.put, lsA, lsZ, lsS]
      refine tk 7 (y := by exact skD.yields HOK.out rfl _ rfl bk (of + p.1 * 5) rfl HSA.out) (h := ?_); try simp only [Act.put, lsA, lsZ, lsS]
      refine rp 8 (h := fun K hK => ?_)
      refine wp_call9 38 _ _ rfl [.agg (mdC y.S y.q y.p).toArray] rfl Tryz.func38 (by kernel_rfl) (by kernel_rfl) ((HEN.out _ HY.out).mono ?_)
      rintro e y1 ⟨rfl, hk1⟩
      refine ⟨_, rfl, ?_⟩
      replace HY := Lib.hid (HY.out.trans hk1 (FSub.refl _ _))
      clear hk1
      refine hK.out _ _ (by rw [HSE.out]; exact HY.out) (fun hHeld => ?_); clear hK K; try simp only [Act.put, lsA, lsZ, lsS]
      refine tw 9 (h := ?_); try simp only [Act.put, lsA, lsZ, lsS]
      refine wpAnyH_done (by kernel_rfl) ?_ _
      refine NoPanic.normal ?_
      have d0 := HCN.out y1 hHeld
      clear hHeld hSD HSE HSA HC1 HCN HEN
      go_wp2_with fail
      have hb := mdB_short HYI.out HYL.out
      have e1 : ((bs (mdB y.S)).size : Int) = ((mdB y.S).length : Int) := by simp [bs, ByteArray.size]
      have e2 : wrap64 (((mdB y.S).length : Int) / 256) % 256 = (((mdB y.S).length / 256 : Nat) : Int) := by unfold wrap64; omega
      have e3 : ((mdB y.S).length : Int) % 256 = (((mdB y.S).length % 256 : Nat) : Int) := by omega
      rw [e1, e2, e3, conv_three y1 rfl (by omega) (by omega) (by omega)]
      have HY2 := Lib.hid (HY.out.alloc (.cells #[.int .u8 (p.1 : Int), .int .u8 (((mdB y.S).length / 256 : Nat) : Int), .int .u8 (((mdB y.S).length % 256 : Nat) : Int)] 5))
      clear d0 e1 e2 e3
      have q1 : ¬ 9223372036854775807 < (bs B).size + (bs [UInt8.ofNat p.1, UInt8.ofNat ((mdB y.S).length / 256), UInt8.ofNat ((mdB y.S).length % 256)]).size := by
        rw [bs_size, bs_size]; have := HBK.out; simp only [List.length_cons, List.length_nil]; omega
      have q2 : ¬ 9223372036854775807 < (bs B).size + (bs [UInt8.ofNat p.1, UInt8.ofNat ((mdB y.S).length / 256), UInt8.ofNat ((mdB y.S).length % 256)]).size + (bs (mdB y.S)).size := by
        rw [bs_size, bs_size, bs_size]; have := HBK.out; simp only [List.length_cons, List.length_nil]; omega
      clear hb
      go_wp2_with fail
      go_roundw
      case rel => exact ⟨k + 1, by go_num, by omega, by rw [HNX.out, itB, ← HYS.out, bs_cat, bs_cat, List.append_assoc]; rfl, HY2.out.heap HB0.out (by simp), HKW.out.trans HY2.out (FSub.refl _ _)⟩
      case measure => simp [intOf]; omega
    · obtain rfl : k = li.length := by omega
      rw [List.take_length]
      have HK := Lib.hid (HK2.out.trans hkw (FSub.refl _ _))
      clear hb0 hkw
      go_wp2_with fail
      go_ret
      exact ⟨rfl, HK.out⟩
end Go.Proofs.YtbnhcggjcdipeaaGreatDoor
