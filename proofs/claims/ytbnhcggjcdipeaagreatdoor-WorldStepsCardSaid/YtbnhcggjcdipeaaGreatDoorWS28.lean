/-
  The program's objects: how they lie in memory; calls of function values with what they captured.
-/
import Derived.Test.YtbnhcggjcdipeaaGreatDoorWS00
import Derived.Test.YtbnhcggjcdipeaaGreatDoorWS26
import Derived.Test.YtbnhcggjcdipeaaGreatDoorWS14
import Derived.Test.YtbnhcggjcdipeaaGreatDoorWS08
import Derived.Test.YtbnhcggjcdipeaaGreatDoorWS27
import Derived.Test.YtbnhcggjcdipeaaGreatDoorWS25
set_option linter.unusedSimpArgs false
set_option linter.unusedVariables false
namespace Go.Proofs.YtbnhcggjcdipeaaGreatDoor
open Go.RowKit
set_option maxRecDepth 100000
def obR (s : Int) : Value := .iface 226 (.agg #[.int .u8 0, .int .u16 s])
def obQ (v : Value) : Value := .iface 237 (.agg #[.int .u8 1, v])
/-- A key map's cells, behind its model. -/
def obKA (h : Int) (vs : List Int) : Array Value :=
  #[.int .u8 2, .int .u8 h, .int .u16 (vs.getD 0 0), .int .u16 (vs.getD 1 0), .int .u16 (vs.getD 2 0), .int .u16 (vs.getD 3 0), .int .u16 (vs.getD 4 0), .int .u16 (vs.getD 5 0), .int .u16 (vs.getD 6 0), .int .u16 (vs.getD 7 0)]
def obK (m : Kv) : Value := .iface 243 (.agg (obKA (kvH m) (kvV m)))
def obL (s : Int) : Value := .iface 265 (.agg #[.int .u8 3, .int .u8 s])
/-- The object as memory has it. -/
def ObAt (w : World) (o : Value) : Md → Prop
  | .rg s => o = obR s ∧ (0 ≤ s ∧ s < 65536)
  | .qu l => ∃ v, o = obQ v ∧ QIn w v l ∧ U16s l
  | .mp m => o = obK m ∧ KvIn m
  | .lk s => o = obL s ∧ (0 ≤ s ∧ s ≤ 16)
def obFoot : Value → List Nat
  | .iface _ (.agg a) => own (a.getD 1 undef)
  | _ => []
def stFoot : Value → List Nat
  | .agg a => obFoot (a.getD 0 undef)
  | _ => []
theorem ObAt.in_ {w : World} {o : Value} {S : Md} (h : ObAt w o S) : S.In := by
  cases S with
  | rg s => exact h.2
  | qu l => obtain ⟨v, -, -, h⟩ := h; exact h
  | mp m => exact h.2
  | lk s => exact h.2
theorem ObAt.one {w : World} {o : Value} {S : Md} (h : ObAt w o S) : o.oneCell' = true := by
  cases S with
  | rg s => obtain ⟨rfl, -⟩ := h; rfl
  | qu l => obtain ⟨v, rfl, -⟩ := h; rfl
  | mp m => obtain ⟨rfl, -⟩ := h; rfl
  | lk s => obtain ⟨rfl, -⟩ := h; rfl
theorem ObAt.keep {w w' : World} {F : List Nat} {o : Value} {S : Md} (h : ObAt w o S) (hk : Keeps F w w') (hF : ∀ q ∈ obFoot o, q ∉ F) : ObAt w' o S := by
  cases S with
  | rg s => exact h
  | qu l => obtain ⟨v, rfl, h, hu⟩ := h; exact ⟨v, rfl, h.keeps hk hF, hu⟩
  | mp m => exact h
  | lk s => exact h
theorem ObAt.new {w w' : World} {o : Value} {S : Md} (h : ObAt w o S) (hk : Keeps [] w w') : ObAt w' o S := h.keep hk (by simp)
theorem ObAt.old {w : World} {o : Value} {S : Md} (h : ObAt w o S) : ∀ q ∈ obFoot o, q < w.heap.size := by
  cases S with
  | rg s => obtain ⟨rfl, -⟩ := h; intro q hq; cases hq
  | qu l => obtain ⟨v, rfl, h, hu⟩ := h; exact h.old
  | mp m => obtain ⟨rfl, -⟩ := h; intro q hq; cases hq
  | lk s => obtain ⟨rfl, -⟩ := h; intro q hq; cases hq
/-- A state, of an object or of none. -/
def StAt (w : World) (st : Value) (O : Option Md) : Prop := ∃ o, st = .agg #[o] ∧ match O with
  | none => o = .nilIface
  | some S => ObAt w o S
/-- What the package-level variables hold. -/
structure Glob13 (w : World) : Prop where
  ops : Glob4 w
  tab : Lib.TabIs Tryz.prog w "internal/strconv.uint64pow10" .u64 Lib.pow10Tab
theorem glob13_pow10 : Tryz.prog.globalNamed "internal/strconv.uint64pow10" = some 1 := by kernel_rfl
theorem Glob13.new {w w' : World} (h : Glob13 w) (hk : Keeps [] w w') : Glob13 w' := ⟨h.ops.new hk, var_keeps glob13_pow10 h.tab hk (by simp)⟩
/-! Calls of function values, with what they captured. -/
def CallsV (w : World) (f : Value) (args : List Value) (post : Ending → World → Prop) : Prop := ∃ k cap, f = .func (.func k) #[] cap ∧ (∃ fn, Tryz.prog.funcs[k]? = some fn ∧ (fn.name == "runtime.NumGoroutine") = false ∧ fn.body.isNone = false) ∧ Calls Tryz.prog k (args.toArray ++ cap) w post
theorem CallsV.mono {w : World} {f : Value} {args : List Value} {P Q : Ending → World → Prop} (h : CallsV w f args P) (hm : ∀ e w', P e w' → Q e w') : CallsV w f args Q := by
  obtain ⟨k, cap, h1, h2, h3⟩ := h
  exact ⟨k, cap, h1, h2, h3.mono hm⟩
section
variable {o : Oper} {a : Act} {w : World} {K : Act → World → Prop} {Q : Exit → Act → World → Prop}
theorem wp_callC (y : Operand) (args : Array Operand) (tys : Array TypeId) (ho : o.op = .call { callee := .value y, args := args, argTypes := tys }) {f : Value} (hy : a.eval y = f) (vs : List Value) (hv : args.toList.map a.eval = vs)
    (h : CallsV w f vs fun e w' => ∃ v, e = .returned v ∧ K (a.put o.dst v) w') : o.wp Tryz.prog a w K Q := by
  have hv2 : args.map a.eval = vs.toArray := by rw [← hv]; apply Array.ext'; simp
  obtain ⟨k, cap, rfl, ⟨fn, hf, hname, hb⟩, h⟩ := h
  unfold Oper.wp execOp
  have h1 : fn.name ≠ "runtime.NumGoroutine" := by simpa using hname
  have h2 : ∃ z, fn.body = some z := by
    cases h : fn.body with
    | none => rw [h] at hb; cases hb
    | some z => exact ⟨z, rfl⟩
  obtain ⟨z, h2⟩ := h2
  simp only [ho, resolve, invoke, Sem.run_bind, Sem.run_pure, Result.andThen_ok, hv2, hy, Deferred.ofValue, Array.empty_append]
  simp [callFunc, hf, h1, h2, Sem.run]
  rw [Oper.upon_enter]
  exact h.mono fun e w' ⟨v, he, hk⟩ => by subst he; exact hk
theorem wpList_callC {ops : Array Oper} {rest : List Oper} {dst : Option Tmp} {ty : TypeId} {pos : String} {after : Array Edge} {y : Operand} {args : Array Operand} {tys : Array TypeId} {f : Value} (vs : List Value) (hy : a.eval y = f) (hv : args.toList.map a.eval = vs)
    (h : CallsV w f vs fun e w' => ∃ v, e = .returned v ∧ wpList Tryz.prog ops Q rest (a.put dst v) w') :
    wpList Tryz.prog ops Q ({ dst := dst, op := .call { callee := .value y, args := args, argTypes := tys }, type := ty, pos := pos, after := after, guard := none } :: rest) a w :=
  wpList_plain rfl fun _ hK => wp_callC y args tys rfl hy vs hv (h.mono fun _ _ ⟨v, he, hk⟩ => ⟨v, he, hK _ _ hk⟩)
end
end Go.Proofs.YtbnhcggjcdipeaaGreatDoor
/-
  The program's objects: what the makers of function values make.
-/
namespace Go.Proofs.YtbnhcggjcdipeaaGreatDoor
open Go.RowKit
set_option maxRecDepth 100000
/-- A function value, with what it captured. -/
def fv (p : Nat × Array Value) : Value := .func (.func p.1) #[] p.2
abbrev ptr (p : Nat) : Value := .pointer (some ⟨p, 0, none⟩)
set_option maxHeartbeats 8000000
theorem mdInitR_any (w : World) (m : Int) (k : Nat) : Calls Tryz.prog 87 #[.int .u8 m, fnV k] w fun e w' => ∃ p q, e = .returned (.func (.func 137) #[] #[ptr p, ptr q]) ∧ w'.cell? ⟨p, 0, none⟩ = some (.int .u8 m) ∧ w'.cell? ⟨q, 0, none⟩ = some (fnV k) ∧ Keeps [] w w' ∧ w.heap.size ≤ p ∧ w.heap.size ≤ q := by
  obtain ⟨e1, h0, h1, hk⟩ := two_vars w #[.int .u8 m] #[fnV k] 5 173
  unfold fnV at *
  go_enter Tryz.func87, Tryz.ntmps87
  go_wp2_with fail
  go_ret
  exact ⟨_, _, rfl, cell_lit h0 0 rfl, cell_lit h1 0 rfl, hk, Nat.le_refl _, Nat.le_succ _⟩
theorem mdInitQ_any (w : World) (m : Int) (k : Nat) : Calls Tryz.prog 98 #[.int .u8 m, fnV k] w fun e w' => ∃ p q, e = .returned (.func (.func 144) #[] #[ptr p, ptr q]) ∧ w'.cell? ⟨p, 0, none⟩ = some (.int .u8 m) ∧ w'.cell? ⟨q, 0, none⟩ = some (fnV k) ∧ Keeps [] w w' ∧ w.heap.size ≤ p ∧ w.heap.size ≤ q := by
  obtain ⟨e1, h0, h1, hk⟩ := two_vars w #[.int .u8 m] #[fnV k] 5 185
  unfold fnV at *
  go_enter Tryz.func98, Tryz.ntmps98
  go_wp2_with fail
  go_ret
  exact ⟨_, _, rfl, cell_lit h0 0 rfl, cell_lit h1 0 rfl, hk, Nat.le_refl _, Nat.le_succ _⟩
theorem mdInitK_any (w : World) (m : Int) (k : Nat) : Calls Tryz.prog 109 #[.int .u8 m, fnV k] w fun e w' => ∃ p q, e = .returned (.func (.func 152) #[] #[ptr p, ptr q]) ∧ w'.cell? ⟨p, 0, none⟩ = some (.int .u8 m) ∧ w'.cell? ⟨q, 0, none⟩ = some (fnV k) ∧ Keeps [] w w' ∧ w.heap.size ≤ p ∧ w.heap.size ≤ q := by
  obtain ⟨e1, h0, h1, hk⟩ := two_vars w #[.int .u8 m] #[fnV k] 5 198
  unfold fnV at *
  go_enter Tryz.func109, Tryz.ntmps109
  go_wp2_with fail
  go_ret
  exact ⟨_, _, rfl, cell_lit h0 0 rfl, cell_lit h1 0 rfl, hk, Nat.le_refl _, Nat.le_succ _⟩
theorem mdInitL_any (w : World) (m : Int) (k : Nat) : Calls Tryz.prog 120 #[.int .u8 m, fnV k] w fun e w' => ∃ p q, e = .returned (.func (.func 166) #[] #[ptr p, ptr q]) ∧ w'.cell? ⟨p, 0, none⟩ = some (.int .u8 m) ∧ w'.cell? ⟨q, 0, none⟩ = some (fnV k) ∧ Keeps [] w w' ∧ w.heap.size ≤ p ∧ w.heap.size ≤ q := by
  obtain ⟨e1, h0, h1, hk⟩ := two_vars w #[.int .u8 m] #[fnV k] 5 209
  unfold fnV at *
  go_enter Tryz.func120, Tryz.ntmps120
  go_wp2_with fail
  go_ret
  exact ⟨_, _, rfl, cell_lit h0 0 rfl, cell_lit h1 0 rfl, hk, Nat.le_refl _, Nat.le_succ _⟩
theorem mdDeR_any (w : World) (m : Int) (k : Nat) : Calls Tryz.prog 95 #[.int .u8 m, fnV k] w fun e w' => ∃ p q, e = .returned (.func (.func 143) #[] #[ptr q, ptr p]) ∧ w'.cell? ⟨p, 0, none⟩ = some (.int .u8 m) ∧ w'.cell? ⟨q, 0, none⟩ = some (fnV k) ∧ Keeps [] w w' ∧ w.heap.size ≤ p ∧ w.heap.size ≤ q := by
  obtain ⟨e1, h0, h1, hk⟩ := two_vars w #[.int .u8 m] #[fnV k] 5 181
  unfold fnV at *
  go_enter Tryz.func95, Tryz.ntmps95
  go_wp2_with fail
  go_ret
  exact ⟨_, _, rfl, cell_lit h0 0 rfl, cell_lit h1 0 rfl, hk, Nat.le_refl _, Nat.le_succ _⟩
theorem mdDeQ_any (w : World) (m : Int) (k : Nat) : Calls Tryz.prog 106 #[.int .u8 m, fnV k] w fun e w' => ∃ p q, e = .returned (.func (.func 151) #[] #[ptr q, ptr p]) ∧ w'.cell? ⟨p, 0, none⟩ = some (.int .u8 m) ∧ w'.cell? ⟨q, 0, none⟩ = some (fnV k) ∧ Keeps [] w w' ∧ w.heap.size ≤ p ∧ w.heap.size ≤ q := by
  obtain ⟨e1, h0, h1, hk⟩ := two_vars w #[.int .u8 m] #[fnV k] 5 193
  unfold fnV at *
  go_enter Tryz.func106, Tryz.ntmps106
  go_wp2_with fail
  go_ret
  exact ⟨_, _, rfl, cell_lit h0 0 rfl, cell_lit h1 0 rfl, hk, Nat.le_refl _, Nat.le_succ _⟩
theorem mdDeK_any (w : World) (m : Int) (k : Nat) : Calls Tryz.prog 117 #[.int .u8 m, fnV k] w fun e w' => ∃ p q, e = .returned (.func (.func 161) #[] #[ptr q, ptr p]) ∧ w'.cell? ⟨p, 0, none⟩ = some (.int .u8 m) ∧ w'.cell? ⟨q, 0, none⟩ = some (fnV k) ∧ Keeps [] w w' ∧ w.heap.size ≤ p ∧ w.heap.size ≤ q := by
  obtain ⟨e1, h0, h1, hk⟩ := two_vars w #[.int .u8 m] #[fnV k] 5 206
  unfold fnV at *
  go_enter Tryz.func117, Tryz.ntmps117
  go_wp2_with fail
  go_ret
  exact ⟨_, _, rfl, cell_lit h0 0 rfl, cell_lit h1 0 rfl, hk, Nat.le_refl _, Nat.le_succ _⟩
theorem mdDeL_any (w : World) (m : Int) (k : Nat) : Calls Tryz.prog 127 #[.int .u8 m, fnV k] w fun e w' => ∃ p q, e = .returned (.func (.func 172) #[] #[ptr q, ptr p]) ∧ w'.cell? ⟨p, 0, none⟩ = some (.int .u8 m) ∧ w'.cell? ⟨q, 0, none⟩ = some (fnV k) ∧ Keeps [] w w' ∧ w.heap.size ≤ p ∧ w.heap.size ≤ q := by
  obtain ⟨e1, h0, h1, hk⟩ := two_vars w #[.int .u8 m] #[fnV k] 5 215
  unfold fnV at *
  go_enter Tryz.func127, Tryz.ntmps127
  go_wp2_with fail
  go_ret
  exact ⟨_, _, rfl, cell_lit h0 0 rfl, cell_lit h1 0 rfl, hk, Nat.le_refl _, Nat.le_succ _⟩
theorem mdAnyR_any (w : World) (k : Nat × Array Value) : Calls Tryz.prog 90 #[fv k] w fun e w' => ∃ p, e = .returned (.func (.func 139) #[] #[ptr p]) ∧ w'.cell? ⟨p, 0, none⟩ = some (fv k) ∧ Keeps [] w w' ∧ w.heap.size ≤ p := by
  have h0 := heap_alloc_new w (.cells #[fv k] 177)
  have hk : Keeps [] w (w.alloc (.cells #[fv k] 177)) := (Keeps.refl _ _).alloc _
  unfold fv at *
  go_enter Tryz.func90, Tryz.ntmps90
  go_wp2_with fail
  go_ret
  exact ⟨_, rfl, cell_lit h0 0 rfl, hk, Nat.le_refl _⟩
theorem mdAnyQ_any (w : World) (k : Nat × Array Value) : Calls Tryz.prog 101 #[fv k] w fun e w' => ∃ p, e = .returned (.func (.func 146) #[] #[ptr p]) ∧ w'.cell? ⟨p, 0, none⟩ = some (fv k) ∧ Keeps [] w w' ∧ w.heap.size ≤ p := by
  have h0 := heap_alloc_new w (.cells #[fv k] 189)
  have hk : Keeps [] w (w.alloc (.cells #[fv k] 189)) := (Keeps.refl _ _).alloc _
  unfold fv at *
  go_enter Tryz.func101, Tryz.ntmps101
  go_wp2_with fail
  go_ret
  exact ⟨_, rfl, cell_lit h0 0 rfl, hk, Nat.le_refl _⟩
theorem mdAnyK_any (w : World) (k : Nat × Array Value) : Calls Tryz.prog 112 #[fv k] w fun e w' => ∃ p, e = .returned (.func (.func 154) #[] #[ptr p]) ∧ w'.cell? ⟨p, 0, none⟩ = some (fv k) ∧ Keeps [] w w' ∧ w.heap.size ≤ p := by
  have h0 := heap_alloc_new w (.cells #[fv k] 202)
  have hk : Keeps [] w (w.alloc (.cells #[fv k] 202)) := (Keeps.refl _ _).alloc _
  unfold fv at *
  go_enter Tryz.func112, Tryz.ntmps112
  go_wp2_with fail
  go_ret
  exact ⟨_, rfl, cell_lit h0 0 rfl, hk, Nat.le_refl _⟩
theorem mdStR_any (w : World) (k : Nat × Array Value) : Calls Tryz.prog 89 #[fv k] w fun e w' => ∃ p, e = .returned (.func (.func 138) #[] #[ptr p]) ∧ w'.cell? ⟨p, 0, none⟩ = some (fv k) ∧ Keeps [] w w' ∧ w.heap.size ≤ p := by
  have h0 := heap_alloc_new w (.cells #[fv k] 175)
  have hk : Keeps [] w (w.alloc (.cells #[fv k] 175)) := (Keeps.refl _ _).alloc _
  unfold fv at *
  go_enter Tryz.func89, Tryz.ntmps89
  go_wp2_with fail
  go_ret
  exact ⟨_, rfl, cell_lit h0 0 rfl, hk, Nat.le_refl _⟩
theorem mdStQ_any (w : World) (k : Nat × Array Value) : Calls Tryz.prog 100 #[fv k] w fun e w' => ∃ p, e = .returned (.func (.func 145) #[] #[ptr p]) ∧ w'.cell? ⟨p, 0, none⟩ = some (fv k) ∧ Keeps [] w w' ∧ w.heap.size ≤ p := by
  have h0 := heap_alloc_new w (.cells #[fv k] 187)
  have hk : Keeps [] w (w.alloc (.cells #[fv k] 187)) := (Keeps.refl _ _).alloc _
  unfold fv at *
  go_enter Tryz.func100, Tryz.ntmps100
  go_wp2_with fail
  go_ret
  exact ⟨_, rfl, cell_lit h0 0 rfl, hk, Nat.le_refl _⟩
theorem mdStK_any (w : World) (k : Nat × Array Value) : Calls Tryz.prog 111 #[fv k] w fun e w' => ∃ p, e = .returned (.func (.func 153) #[] #[ptr p]) ∧ w'.cell? ⟨p, 0, none⟩ = some (fv k) ∧ Keeps [] w w' ∧ w.heap.size ≤ p := by
  have h0 := heap_alloc_new w (.cells #[fv k] 200)
  have hk : Keeps [] w (w.alloc (.cells #[fv k] 200)) := (Keeps.refl _ _).alloc _
  unfold fv at *
  go_enter Tryz.func111, Tryz.ntmps111
  go_wp2_with fail
  go_ret
  exact ⟨_, rfl, cell_lit h0 0 rfl, hk, Nat.le_refl _⟩
theorem mdStL_any (w : World) (k : Nat × Array Value) : Calls Tryz.prog 122 #[fv k] w fun e w' => ∃ p, e = .returned (.func (.func 167) #[] #[ptr p]) ∧ w'.cell? ⟨p, 0, none⟩ = some (fv k) ∧ Keeps [] w w' ∧ w.heap.size ≤ p := by
  have h0 := heap_alloc_new w (.cells #[fv k] 211)
  have hk : Keeps [] w (w.alloc (.cells #[fv k] 211)) := (Keeps.refl _ _).alloc _
  unfold fv at *
  go_enter Tryz.func122, Tryz.ntmps122
  go_wp2_with fail
  go_ret
  exact ⟨_, rfl, cell_lit h0 0 rfl, hk, Nat.le_refl _⟩
theorem mdStrR_any (w : World) (k : Nat × Array Value) : Calls Tryz.prog 92 #[fv k] w fun e w' => ∃ p, e = .returned (.func (.func 141) #[] #[ptr p]) ∧ w'.cell? ⟨p, 0, none⟩ = some (fv k) ∧ Keeps [] w w' ∧ w.heap.size ≤ p := by
  have h0 := heap_alloc_new w (.cells #[fv k] 179)
  have hk : Keeps [] w (w.alloc (.cells #[fv k] 179)) := (Keeps.refl _ _).alloc _
  unfold fv at *
  go_enter Tryz.func92, Tryz.ntmps92
  go_wp2_with fail
  go_ret
  exact ⟨_, rfl, cell_lit h0 0 rfl, hk, Nat.le_refl _⟩
theorem mdStrQ_any (w : World) (k : Nat × Array Value) : Calls Tryz.prog 103 #[fv k] w fun e w' => ∃ p, e = .returned (.func (.func 149) #[] #[ptr p]) ∧ w'.cell? ⟨p, 0, none⟩ = some (fv k) ∧ Keeps [] w w' ∧ w.heap.size ≤ p := by
  have h0 := heap_alloc_new w (.cells #[fv k] 191)
  have hk : Keeps [] w (w.alloc (.cells #[fv k] 191)) := (Keeps.refl _ _).alloc _
  unfold fv at *
  go_enter Tryz.func103, Tryz.ntmps103
  go_wp2_with fail
  go_ret
  exact ⟨_, rfl, cell_lit h0 0 rfl, hk, Nat.le_refl _⟩
theorem mdStrK_any (w : World) (k : Nat × Array Value) : Calls Tryz.prog 114 #[fv k] w fun e w' => ∃ p, e = .returned (.func (.func 156) #[] #[ptr p]) ∧ w'.cell? ⟨p, 0, none⟩ = some (fv k) ∧ Keeps [] w w' ∧ w.heap.size ≤ p := by
  have h0 := heap_alloc_new w (.cells #[fv k] 204)
  have hk : Keeps [] w (w.alloc (.cells #[fv k] 204)) := (Keeps.refl _ _).alloc _
  unfold fv at *
  go_enter Tryz.func114, Tryz.ntmps114
  go_wp2_with fail
  go_ret
  exact ⟨_, rfl, cell_lit h0 0 rfl, hk, Nat.le_refl _⟩
theorem mdStrL_any (w : World) (k : Nat × Array Value) : Calls Tryz.prog 124 #[fv k] w fun e w' => ∃ p, e = .returned (.func (.func 170) #[] #[ptr p]) ∧ w'.cell? ⟨p, 0, none⟩ = some (fv k) ∧ Keeps [] w w' ∧ w.heap.size ≤ p := by
  have h0 := heap_alloc_new w (.cells #[fv k] 213)
  have hk : Keeps [] w (w.alloc (.cells #[fv k] 213)) := (Keeps.refl _ _).alloc _
  unfold fv at *
  go_enter Tryz.func124, Tryz.ntmps124
  go_wp2_with fail
  go_ret
  exact ⟨_, rfl, cell_lit h0 0 rfl, hk, Nat.le_refl _⟩
end Go.Proofs.YtbnhcggjcdipeaaGreatDoor
/-
  The document's world: Step.
-/
namespace Go.Proofs.YtbnhcggjcdipeaaGreatDoor
open Go.RowKit
set_option maxRecDepth 100000
set_option maxHeartbeats 8000000
/-- The blocks of an object's lists. -/
def ApD (S : Md) (q m : Value) (p : Nat → Prop) : Prop := (S.list ≠ [] → ∀ b ∈ own q, p b) ∧ ∀ t, S.items t → t ≠ [] → ∀ b ∈ own m, p b
theorem ApD.mono {S : Md} {q m : Value} {p p' : Nat → Prop} (h : ApD S q m p) (hp : ∀ q, p q → p' q) : ApD S q m p' := ⟨fun hn b hb => hp b (h.1 hn b hb), fun t ht hn b hb => hp b (h.2 t ht hn b hb)⟩
def kpD (S : Md) : Kept (Value × Value) where
  cs x := mdC S x.1 x.2
  P x w := D13 w S x.1 x.2
  Ap x p := ApD S x.1 x.2 p
  keep h hk ha := D13.keeps h hk ha.1 ha.2
  old h := ⟨fun hn b hb => h.old_q hn b hb, fun t ht hn b hb => h.old_m (t := t) ht hn b hb⟩
  mono h hp := h.mono hp
  and_ h h' := ⟨fun hn b hb => ⟨h.1 hn b hb, h'.1 hn b hb⟩, fun t ht hn b hb => ⟨h.2 t ht hn b hb, h'.2 t ht hn b hb⟩⟩
theorem r13Step_post (w : World) {S : Md} (hS : S.In) (hl : S.len ≤ 10000) {q m : Value} (hD : D13 w S q m) {c : Int} (hc : 0 ≤ c ∧ c < 256) (x : Opn) (hx : x.In) :
    Calls Tryz.prog 34 #[.agg (mdC S q m).toArray, .int .u8 c, x.val] w (Post3 (kpD (mdX S c x).1) (mdX S c x).2.1 (mdX S c x).2.2 (ApD S q m) w) := by
  refine (r13Step_any w hS hl hD hc x hx).mono ?_
  rintro e w' ⟨q', m', rfl, hd, hk, hq, hm⟩
  refine ⟨(q', m'), rfl, hd, hk, fun p hp hn => ⟨fun h b hb => ?_, fun t ht h b hb => ?_⟩⟩
  · rcases hq h b hb with ⟨h1, h2⟩ | h1
    · exact hp.1 h1 b h2
    · exact hn b h1
  · rcases hm t ht h b hb with ⟨⟨u, h1, h3⟩, h2⟩ | h1
    · exact hp.2 u h1 h3 b h2
    · exact hn b h1
/-- The blocks of the document's world. -/
def Ap14 (v : Value) (L : List Mq) (p : Nat → Prop) : Prop := (L ≠ [] → ∀ b ∈ own v, p b) ∧ ∀ y ∈ L, ApD y.S y.q y.p p
theorem Ap14.mono {v : Value} {L : List Mq} {p p' : Nat → Prop} (h : Ap14 v L p) (hp : ∀ q, p q → p' q) : Ap14 v L p' := ⟨fun hn b hb => hp b (h.1 hn b hb), fun y hy => (h.2 y hy).mono hp⟩
theorem W14.keep {w w' : World} {W : Wd} {v : Value} {L : List Mq} {F : List Nat} (h : W14 w W v L) (hk : Keeps F w w') (ha : Ap14 v L (fun q => q ∉ F)) : W14 w' W v L :=
  ⟨(h.row.keeps hk ha.1).more hk.size, h.is, fun y hy => D13.keeps (h.all y hy) hk (ha.2 y hy).1 (ha.2 y hy).2⟩
theorem W14.old {w : World} {W : Wd} {v : Value} {L : List Mq} (h : W14 w W v L) : Ap14 v L (fun q => q < w.heap.size) :=
  ⟨fun hn b hb => h.row.old hn b hb, fun y hy => (kpD y.S).old (x := (y.q, y.p)) (h.all y hy)⟩
def kpV (W : Wd) : Kept (Value × List Mq) where
  cs x := wdC W.m x.1
  P x w := W14 w W x.1 x.2
  Ap x p := Ap14 x.1 x.2 p
  keep h hk ha := W14.keep h hk ha
  old h := h.old
  mono h hp := h.mono hp
  and_ h h' := ⟨fun hn b hb => ⟨h.1 hn b hb, h'.1 hn b hb⟩, fun y hy => (kpD y.S).and_ (x := (y.q, y.p)) (h.2 y hy) (h'.2 y hy)⟩
theorem W14.ok {w : World} {W : Wd} {v : Value} {L : List Mq} (h : W14 w W v L) (m : Int) : skWd.Ok (wdC m v) := by
  obtain ⟨a, c, rfl, -⟩ := h.row
  exact wdC_ok m a _ c
theorem Keeps.setCells14 {F : List Nat} {w : World} {g : Nat} (hg : g ∈ F) : ∀ (vs : List Value) (o : Nat) {w' : World}, Keeps F w w' → Keeps F w (w'.setCells g o vs)
  | [], _, _, h => h
  | v :: r, o, w', h => Keeps.setCells14 hg r (o + 1) (h.setCell ⟨g, o, none⟩ v (.inl (by simpa using hg)))
/-- The cells of a row of structs are there, and may be put. -/
theorem RK.Own.hold14 {α : Type} {R : RK α} {base : Nat} {w : World} {g cap : Nat} {L : List α} (h : R.Own base w (.slice (some ⟨g, 0, none⟩) L.length cap) L) (k : Nat) (hk : k < L.length) : ∀ j, j < R.s → (w.cell? ⟨g, k * R.s + j, none⟩).isSome = true ∧ w.frozen? ⟨g, k * R.s + j, none⟩ = false := by
  intro j hj
  rcases h.2 with ⟨e, _⟩ | ⟨g', cap', cur, e, hb, hh, hc, hm, hcs, htk⟩
  · cases e
  · simp only [Value.slice.injEq, Option.some.injEq, Addr.mk.injEq, and_true, true_and] at e
    obtain ⟨rfl, rfl⟩ := e
    have hlt : k * R.s + j < cur.size := by
      rw [hcs]
      have h1 : (k + 1) * R.s ≤ cap * R.s := Nat.mul_le_mul_right _ (by omega)
      rw [Nat.add_mul] at h1
      omega
    exact ⟨by simp [World.cell?, hh, hlt], by simp [World.frozen?, hh]⟩
section
variable {ops : Array Oper} {rest : List Oper} {a : Act} {w : World} {Q : Exit → Act → World → Prop}
/-- One object of an own row is stored. -/
theorem wpList_putMq {dst : Option Tmp} {ty : TypeId} {pos : String} {after : Array Edge} {x y : Operand} {base g n cap k : Nat} {L : List Mq} (z : Mq) (hn : L.length = n) (hk : k < n)
    (hx : a.eval x = .pointer (some ⟨g, 0 + k * 5, none⟩)) (hy : a.eval y = .agg (mqC z).toArray) (ho : rkW.Own base w (.slice (some ⟨g, 0, none⟩) n cap) L)
    (h : ∀ V, rkW.Own base V (.slice (some ⟨g, 0, none⟩) n cap) (L.set k z) → Keeps [g] w V → wpList Tryz.prog ops Q rest (a.put dst undef) V) :
    wpList Tryz.prog ops Q ({ dst := dst, op := .store 81 x y, type := ty, pos := pos, after := after, guard := none } :: rest) a w := by
  subst hn
  rw [Nat.zero_add] at hx
  refine wpList_plain rfl fun _ hK => rkW.wp_store (y := z) rfl hx hy (RK.Own.hold14 ho k hk) (hK _ _ (h _ ?_ ?_))
  · exact ho.set k hk z
  · exact Keeps.setCells14 (by simp) _ _ (Keeps.refl _ _)
end
theorem r14Step_any (w : World) {W : Wd} (hW : W.In) (hu : W.upto 9000) {a : Option Addr} {n c : Nat} {L : List Mq} (h : W14 w W (.slice a n c) L) {cl : Int} (hc : 0 ≤ cl ∧ cl < 256) (x : Opn) (hx : x.In) :
    Calls Tryz.prog 14 #[.agg (wdC W.m (.slice a n c)).toArray, .int .u8 cl, x.val] w (Post3 (kpV (wdX W cl x).1) (wdX W cl x).2.1 (wdX W cl x).2.2 (Ap14 (.slice a n c) L) w) := by
  have hl8 := h.len hW
  obtain ⟨rfl, bk, of, rfl, hbk, hr0⟩ := h.at hW
  obtain ⟨h0, h1, h2, h3, hz, hk⟩ := four_vars w #[.int .u8 W.m, .slice (some ⟨bk, of, none⟩) 8 c] #[.int .u8 x.f, .int .u8 x.o, .int .u8 x.k, .int .u16 x.a, .int .u16 x.b] #[.int .u8 0, .slice none 0 0] #[.int .u8 0, .int .u16 0] 39 47 39 25 rfl
  have ho8 := wObj_lt x
  obtain ⟨o, ho⟩ : ∃ o, o = wObj x := ⟨_, rfl⟩
  obtain ⟨y, hy, hyS, hyD⟩ := h.get hW (o := o) (by rw [ho]; exact ho8)
  have hat := Wd.at_in hW (o := o) (by rw [ho]; exact ho8)
  have hlen := hu _ (Wd.at_mem hW (o := o) (by rw [ho]; exact ho8))
  have HBAD := Lib.hid (fun hb => wdX_bad (W := W) (c := cl) (x := x) hb); have HGOOD := Lib.hid (fun hb => wdX_ok (W := W) (c := cl) (x := x) hb)
  have HE := Lib.hid (show (wdX W cl x).2.2 = (mdX (W.at o) cl x).2.2 from by rw [wdX_err, mdX_err, ho])
  rw [← ho] at HGOOD
  have HOO := Lib.hid (show (o : Int) = if 7 < x.o then 0 else x.o from by
    rw [ho]; unfold wObj; split
    · rfl
    · exact Int.toNat_of_nonneg hx.o0)
  rw [← ho] at ho8
  have HL8 := Lib.hid hl8; have HO8 := Lib.hid ho8
  have HW := Lib.hid (h.new hk); have HX := Lib.hid hx; have HC := Lib.hid hc
  have H0 := Lib.hid h0; have H1 := Lib.hid h1
  have H2 := Lib.hid (h2.trans (show some (Obj.cells _ _ _) = some (Obj.cells wdC0.toArray 39 (0, 0)) from rfl))
  have H3 := Lib.hid (h3.trans (show some (Obj.cells _ _ _) = some (Obj.cells (ansC ⟨0, 0⟩).toArray 25 (0, 0)) from rfl))
  have HK := Lib.hid hk; have HZ := Lib.hid hz
  have HRY := Lib.hid (fun j v hv => hk.cell (hr0 o y hy j v hv) (by simp)); have HYD := Lib.hid (hyD.new hk); have HYO := Lib.hid hyD.ok
  have HYI := Lib.hid (show y.S.In from by rw [hyS]; exact hat.2); have HYL := Lib.hid (show y.S.len ≤ 9000 from by rw [hyS]; exact hlen)
  have HAY := Lib.hid (show ∀ p, Ap14 (.slice (some ⟨bk, of, none⟩) 8 c) L p → ApD y.S y.q y.p p from fun p hp => hp.2 y (List.mem_of_getElem? hy))
  have HOLD := Lib.hid h.old; have HIS := Lib.hid h.is; have HALL := Lib.hid (fun w' hk => h.all.new (w' := w') hk)
  have HWI := Lib.hid hW
  rw [← hyS] at HE HGOOD
  clear h0 h1 h2 h3 hz hk h hr0 hyD hat hlen hx hc hu hl8 hW hyS hy ho ho8
  generalize hWX : wdX W cl x = X at *
  obtain ⟨W2, r, e1⟩ := X
  generalize hMX : mdX y.S cl x = Y at *
  obtain ⟨S1, rr, ee⟩ := Y
  simp only at HBAD HGOOD HE ⊢
  obtain rfl := HE.out
  unfold Opn.val
  clear hWX
  have HMX := Lib.hid hMX
  clear hMX
  unfold wdC
  go_enter Tryz.func14, Tryz.ntmps14
  generalize hWW : (((w.alloc (.cells #[.int .u8 W.m, .slice (some ⟨bk, of, none⟩) 8 c] 39)).alloc (.cells #[.int .u8 x.f, .int .u8 x.o, .int .u8 x.k, .int .u16 x.a, .int .u16 x.b] 47)).alloc (.cells #[.int .u8 0, .slice none 0 0] 39)).alloc (.cells #[.int .u8 0, .int .u16 0] 25) = V0 at *
  have c1 : V0.cell? ⟨w.heap.size, 1, none⟩ = some (.slice (some ⟨bk, of, none⟩) 8 c) := cell_lit H0.out 1 rfl
  have d1 : V0.cell? ⟨w.heap.size + 1, 1, none⟩ = some (.int .u8 x.o) := cell_lit H1.out 1 rfl
  have xo := HX.out.o0
  have xo1 := HX.out.o1
  have HMI := Lib.hid (wdC_ok W.m (some ⟨bk, of, none⟩) 8 c)
  have HST := Lib.hid (fun w' (h : Keeps [] V0 w') => (show Calls Tryz.prog 34 #[.agg (mdC y.S y.q y.p).toArray, .int .u8 cl, x.val] w' (Post3 (kpD S1) rr e1 (ApD y.S y.q y.p) w') from by
    have h := r13Step_post w' HYI.out (by have := HYL.out; omega) (HYD.out.new h) HC.out x HX.out
    rw [HMX.out] at h; exact h))
  have HOL := Lib.hid (show ∀ p : Nat → Prop, (∀ q, q < V0.heap.size → p q) → ApD y.S y.q y.p p from fun p hp => ((kpD y.S).old (x := (y.q, y.p)) HYD.out).mono hp)
  clear HMX
  by_cases h7 : 7 < x.o
  · have E0 := Lib.hid (show o = 0 from by have := HOO.out; rw [if_pos h7] at this; omega)
    go_wp2_with fail
    clear c1 d1
    obtain ⟨OL, hOL⟩ : ∃ OL, OL = ApD y.S y.q y.p := ⟨_, rfl⟩
    obtain ⟨KP, hKP⟩ : ∃ KP, KP = kpD S1 := ⟨_, rfl⟩
    have HOKP := Lib.hid (show ∀ x w, KP.P x w → skD.Ok (KP.cs x) from by rw [hKP]; exact fun x w h => D13.ok h)
    rw [← hOL] at HOL; rw [← hOL, ← hKP] at HST
    have HKP := Lib.hid hKP; have HOLE := Lib.hid hOL
    clear hKP hOL
    refine wp_join13 (fun qa qb zv us a => (((((((((((((((a.put (some 26) (us.getD 0 undef)).put (some 27) (us.getD 1 undef)).put (some 28) (us.getD 2 undef)).put (some 29) (us.getD 3 undef)).put (some 30) (us.getD 4 undef)).put (some 31) (us.getD 5 undef)).put (some 32) (us.getD 6 undef)).put (some 33) (us.getD 7 undef)).put (some 25) (us.getD 8 undef)).put (some 34) (us.getD 9 undef)).put (some 35) (us.getD 10 undef)).put (some 36) (us.getD 11 undef)).put (some 10) (.pointer (some ⟨qa, 0, none⟩))).put (some 11) (.pointer (some ⟨qb, 0, none⟩))).put (some 12) (.int .i64 e1))) (Fin3 KP 81 rr OL V0) ?_ ?_
    · obtain ⟨S0, hS0⟩ : ∃ S0 : World → Prop, S0 = fun y => Keeps [] V0 y := ⟨_, rfl⟩
      have HSE := Lib.hid hS0
      have hSD : S0 V0.drew := by rw [hS0]; exact (Keeps.refl _ _).drew
      have HC1 := Lib.hid (fun (w' : World) (hh : S0 w') => show w'.cell? ⟨w.heap.size, 1, none⟩ = some (.slice (some ⟨bk, of, none⟩) 8 c) from by rw [hS0] at hh; exact hh.cell (cell_lit H0.out 1 rfl) (by simp))
      have HSA := Lib.hid (fun (w' : World) (hh : S0 w') => show w'.rangeAt bk (of + o * 5) (mdC y.S y.q y.p) from by rw [hS0] at hh; exact fun j v hv => hh.cell (HRY.out j v hv) (by simp))
      have HSX := Lib.hid (fun (w' : World) (hh : S0 w') => show w'.rangeAt (w.heap.size + 1) 0 (opC x) from by rw [hS0] at hh; exact fun j v hv => hh.cell (block_range (A := opC x) H1.out j v hv) (by simp))
      clear hS0
      refine wp_region_noPanic ?_
      refine wp_region_held_drew (S := S0) (by kernel_rfl) hSD (fun hHeld => ?_)
      refine tw 0 (h := ?_)
      refine tk 1 (y := by exact Or.inl ⟨by rfl, by intro w hSw; have q0 := HC1.out w hSw; go_simp; try with_reducible rfl⟩) (h := ?_)
      refine tw 2 (h := ?_)
      refine tk 3 (y := by exact yields_indexW rfl _ _ rfl bk of 8 c o rfl (by first | rfl | (rw [E0.out]; rfl)) HO8.out) (h := ?_)
      refine tk 4 (y := by exact skD.yields HYO.out rfl _ rfl bk (of + o * 5) rfl HSA.out) (h := ?_)
      refine tw 5 (h := ?_)
      refine tk 6 (y := by exact yields_loadP x rfl _ rfl (w.heap.size + 1) 0 rfl HSX.out) (h := ?_)
      have HY := Lib.hid ((Keeps.refl [] V0).drew)
      generalize V0.drew = YC at *
      iterate 3
        all_goals
          first
            | apply wpAnyH_ready (rs := [7, 12, 13])
              · decide +kernel
              · simp
              refine acn ?_ (acn ?_ (acn ?_ (AllReadyH.nil)))
            | apply wpAnyH_ready (rs := [7, 12])
              · decide +kernel
              · simp
              refine acn ?_ (acn ?_ (AllReadyH.nil))
            | apply wpAnyH_ready (rs := [7, 13])
              · decide +kernel
              · simp
              refine acn ?_ (acn ?_ (AllReadyH.nil))
            | apply wpAnyH_ready (rs := [12, 13])
              · decide +kernel
              · simp
              refine acn ?_ (acn ?_ (AllReadyH.nil))
            | apply wpAnyH_ready (rs := [7])
              · decide +kernel
              · simp
              refine acn ?_ (AllReadyH.nil)
            | apply wpAnyH_ready (rs := [12])
              · decide +kernel
              · simp
              refine acn ?_ (AllReadyH.nil)
            | apply wpAnyH_ready (rs := [13])
              · decide +kernel
              · simp
              refine acn ?_ (AllReadyH.nil)
          all_goals
            intro K hK
            rw [if_pos (by rfl)]
            first
            | refine wp_call9 34 _ _ rfl [.agg (mdC y.S y.q y.p).toArray, .int .u8 cl, x.val] rfl Tryz.func34 (by kernel_rfl) (by kernel_rfl) ((HST.out _ HY.out).mono ?_)
              rintro e YC ⟨x1, rfl, hpp, hk, hf⟩
              refine ⟨_, rfl, ?_⟩
              try have HFA := Lib.hid (show KP.Ap x1 (fun q => q ≠ ga) from hf _ (HOL.out _ (fun q hq => by have := HGA.out; omega)) (fun q hq => by have := HLA.out; omega))
              try have HFB := Lib.hid (show KP.Ap x1 (fun q => q ≠ gb) from hf _ (HOL.out _ (fun q hq => by have := HGB.out; omega)) (fun q hq => by have := HLB.out; omega))
              have HFN := Lib.hid (show ∀ p : Nat → Prop, OL p → (∀ q, V0.heap.size ≤ q → p q) → KP.Ap x1 p from fun p h1 h2 => hf p h1 (fun q hq => h2 q (Nat.le_trans HY.out.size hq)))
              try replace HBA := Lib.hid (hk.heap HBA.out (by simp))
              try replace HBB := Lib.hid (hk.heap HBB.out (by simp))
              try replace HAT := Lib.hid (KP.new HAT.out hk)
              try replace HLA := Lib.hid (Nat.lt_of_lt_of_le HLA.out hk.size)
              try replace HLB := Lib.hid (Nat.lt_of_lt_of_le HLB.out hk.size)
              replace HY := Lib.hid (HY.out.trans hk (FSub.refl _ _))
              have HAT := Lib.hid hpp
              clear hpp hk hf
              refine hK.out _ _ (by rw [HSE.out]; exact HY.out) (fun hHeld => ?_); clear hK K; try simp only [Act.put, lsA, lsZ, lsS]
              refine tw 8 (h := ?_)
              refine tw 9 (h := ?_)
              refine tw 10 (h := ?_)
              refine tw 11 (h := ?_)
            | refine wp_allocD rfl ?_
              have hk : Keeps [] YC (YC.alloc (.cells mdC0.toArray 81)) := (Keeps.refl _ _).alloc _
              have hb := heap_alloc_new YC (.cells mdC0.toArray 81)
              try have HFA := Lib.hid (show KP.Ap x1 (fun q => q ≠ YC.heap.size) from KP.mono (KP.old HAT.out) (fun q hq => Nat.ne_of_lt hq))
              try have HAB := Lib.hid (show YC.heap.size ≠ gb from Nat.ne_of_gt HLB.out)
              have HGA := Lib.hid HY.out.size
              try replace HBA := Lib.hid (hk.heap HBA.out (by simp))
              try replace HBB := Lib.hid (hk.heap HBB.out (by simp))
              try replace HAT := Lib.hid (KP.new HAT.out hk)
              try replace HLA := Lib.hid (Nat.lt_of_lt_of_le HLA.out hk.size)
              try replace HLB := Lib.hid (Nat.lt_of_lt_of_le HLB.out hk.size)
              replace HY := Lib.hid (HY.out.trans hk (FSub.refl _ _))
              have HBA := Lib.hid hb
              have HLA := Lib.hid (lt_of_block hb)
              clear hk hb
              generalize YC.heap.size = ga at *
              generalize YC.alloc (.cells mdC0.toArray 81) = YC at *
              refine hK.out _ _ (by rw [HSE.out]; exact HY.out) (fun hHeld => ?_); clear hK K; try simp only [Act.put, lsA, lsZ, lsS]
            | refine wp_allocA _ _ _ _ rfl ?_
              have hk : Keeps [] YC (YC.alloc (.cells (ansC ⟨0, 0⟩).toArray 25)) := (Keeps.refl _ _).alloc _
              have hb := heap_alloc_new YC (.cells (ansC ⟨0, 0⟩).toArray 25)
              try have HFB := Lib.hid (show KP.Ap x1 (fun q => q ≠ YC.heap.size) from KP.mono (KP.old HAT.out) (fun q hq => Nat.ne_of_lt hq))
              try have HAB := Lib.hid (show ga ≠ YC.heap.size from Nat.ne_of_lt HLA.out)
              have HGB := Lib.hid HY.out.size
              try replace HBA := Lib.hid (hk.heap HBA.out (by simp))
              try replace HBB := Lib.hid (hk.heap HBB.out (by simp))
              try replace HAT := Lib.hid (KP.new HAT.out hk)
              try replace HLA := Lib.hid (Nat.lt_of_lt_of_le HLA.out hk.size)
              try replace HLB := Lib.hid (Nat.lt_of_lt_of_le HLB.out hk.size)
              replace HY := Lib.hid (HY.out.trans hk (FSub.refl _ _))
              have HBB := Lib.hid hb
              have HLB := Lib.hid (lt_of_block hb)
              clear hk hb
              generalize YC.heap.size = gb at *
              generalize YC.alloc (.cells (ansC ⟨0, 0⟩).toArray 25) = YC at *
              refine hK.out _ _ (by rw [HSE.out]; exact HY.out) (fun hHeld => ?_); clear hK K; try simp only [Act.put, lsA, lsZ, lsS]
      all_goals
        refine rp 14 (h := fun K hK => ?_)
        refine skD.wp_put rfl (g := ga) (old := mdC0) (A := KP.cs x1) (HOKP.out _ _ HAT.out) mdC0_ok rfl rfl HBA.out (fun YC hV hk => ?_)
        replace HBA := Lib.hid hV
        replace HBB := Lib.hid (hk.heap HBB.out (by have := HAB.out; simp; exact fun e => this e.symm))
        replace HAT := Lib.hid (KP.put HAT.out hk HFA.out)
        replace HY := Lib.hid (HY.out.trans' hk HGA.out)
        clear hV hk
        refine hK.out _ _ (by rw [HSE.out]; exact HY.out) (fun hHeld => ?_); clear hK K; try simp only [Act.put, lsA, lsZ, lsS]
        refine rp 15 (h := fun K hK => ?_)
        refine wp_putN rfl (g := gb) (old := ⟨0, 0⟩) rr rfl rfl HBB.out (fun YC hV hk => ?_)
        replace HBB := Lib.hid hV
        replace HBA := Lib.hid (hk.heap HBA.out (by have := HAB.out; simpa using this))
        replace HAT := Lib.hid (KP.put HAT.out hk HFB.out)
        replace HY := Lib.hid (HY.out.trans' hk HGB.out)
        clear hV hk
        refine hK.out _ _ (by rw [HSE.out]; exact HY.out) (fun hHeld => ?_); clear hK K; try simp only [Act.put, lsA, lsZ, lsS]
        refine tw 16 (h := ?_)
        refine wpAnyH_done (by kernel_rfl) ?_ _
        refine NoPanic.normal ?_
        exact ⟨rfl, ga, gb, .agg (KP.cs x1).toArray, [_, _, _, _, _, _, _, _, _, _, _, _], rfl, x1, rfl, HBA.out, HBB.out, HAT.out, HY.out, HGA.out, HGB.out, HAB.out, HFN.out, KP.and_ HFA.out HFB.out⟩
    rintro qa qb zv us YD ⟨x1, rfl, hba, hbb, hp, hky, hga, hgb, hab, hol, hap⟩
    simp only [Act.put, lsA, lsZ, lsS]
    have hKP := HKP.out; have hOL := HOLE.out
    subst hKP
    subst hOL
    obtain ⟨q1, m1⟩ := x1
    obtain ⟨z, rfl, hzq, hzm⟩ := D13.mq (show D13 YD S1 q1 m1 from hp)
    subst hzq
    subst hzm
    have HBA := Lib.hid (show YD.heap[qa]? = some (.cells (mdC z.S z.q z.p).toArray 81 (0, 0)) from hba); have HBB := Lib.hid hbb
    have HP := Lib.hid (show D13 YD z.S z.q z.p from hp); have HKY := Lib.hid hky
    have HAB := Lib.hid (show qa ≠ qb ∧ V0.heap.size ≤ qa ∧ V0.heap.size ≤ qb from ⟨hab, hga, hgb⟩)
    have HOLN := Lib.hid (show ∀ p : Nat → Prop, ApD y.S y.q y.p p → (∀ q, V0.heap.size ≤ q → p q) → ApD z.S z.q z.p p from hol)
    have HPO := Lib.hid (show ApD z.S z.q z.p (fun q => q < YD.heap.size) from (kpD z.S).old (x := (z.q, z.p)) hp)
    have HOK1 := Lib.hid (show skD.Ok (mdC z.S z.q z.p) from D13.ok hp)
    have H0D := Lib.hid (hky.heap H0.out (by simp)); have H2D := Lib.hid (hky.heap H2.out (by simp)); have H3D := Lib.hid (hky.heap H3.out (by simp))
    have HKD := Lib.hid (HK.out.trans hky (FSub.refl _ _)); have HWD := Lib.hid (HW.out.new hky)
    clear hba hbb hp hky hga hgb hab hol hap HST HOKP HOL H0 H1 H2 H3 HW HRY HYD HALL
    by_cases he : e1 = 0
    · obtain ⟨-, hW2⟩ := HGOOD.out he
      simp only [Prod.mk.injEq] at hW2
      obtain ⟨rfl, rfl, -⟩ := hW2
      subst he
      clear HBAD HGOOD
      have c0 : YD.cell? ⟨w.heap.size, 0, none⟩ = some (.int .u8 W.m) := cell_lit H0D.out 0 rfl
      have HC := Lib.hid (show (YD.alloc (.cells #[.int .u8 0, .slice none 0 0] 39)).heap[YD.heap.size]? = some (.cells wdC0.toArray 39 (0, 0)) from heap_alloc_new YD _)
      have HKC := Lib.hid (show Keeps [] YD (YD.alloc (.cells #[.int .u8 0, .slice none 0 0] 39)) from (Keeps.refl _ _).alloc _)
      have HNI := Lib.hid (show skWd.Ok (wdC W.m (.slice none 0 0)) from wdC_ok W.m none 0 0)
      go_wp2_with ((with_reducible refine wpList_putV (g := YD.heap.size) (old := wdC0) (A := wdC W.m (.slice none 0 0)) HNI.out wdC0_ok ?_ ?_ HC.out ?_); exact rfl; exact rfl)
      intro YE hV hk
      have hky := HKC.out.trans' hk (Nat.le_refl _)
      have HG := Lib.hid (show YE.heap[YD.heap.size]? = some (.cells (wdC W.m (.slice none 0 0)).toArray 39 (0, 0)) from hV)
      have H0E := Lib.hid (hky.heap H0D.out (by simp)); have H2E := Lib.hid (hky.heap H2D.out (by simp)); have H3E := Lib.hid (hky.heap H3D.out (by simp))
      have HKE := Lib.hid (HKD.out.trans hky (FSub.refl _ _)); have HWE := Lib.hid (HWD.out.new hky); have HPE := Lib.hid (HP.out.new hky)
      have HBAE := Lib.hid (hky.heap HBA.out (by simp)); have HBBE := Lib.hid (hky.heap HBB.out (by simp))
      have HGQ := Lib.hid (show qa < YD.heap.size ∧ qb < YD.heap.size ∧ w.heap.size + 4 ≤ YD.heap.size from ⟨lt_of_block HBA.out, lt_of_block HBB.out, by have := HKY.out.size; have := HZ.out; omega⟩)
      clear hV hk hky c0 HC HKC H0D H2D H3D HKD HWD HP HBA HBB HKY
      generalize YD.heap.size = g13 at *
      have HGL := Lib.hid (lt_of_block HG.out)
      obtain ⟨v1, YF, hrun, hrow, hkf, hff⟩ := rkW.appendIn YE YE.heap.size (Nat.le_refl _) (.slice none 0 0) [] (RK.Own.nil rkW _ _) HWE.out.row (by rw [HL8.out]; decide)
      rw [List.nil_append] at hrow
      obtain ⟨gr, cp, rfl, hcp, -, hgr, -, -⟩ := hrow.at (fun e => by have := HL8.out; rw [e] at this; cases this)
      rw [HL8.out] at hrun hrow
      have HRUN := Lib.hid (show (Builtin.append_ #[37, 37] 37 #[.slice none 0 0, .slice (some ⟨bk, of, none⟩) 8 c]).run Tryz.prog YE = _ from hrun)
      have HROW := Lib.hid hrow; have HGR := Lib.hid hgr
      have hkf' : Keeps [] YE YF := hkf
      have c1 : YE.cell? ⟨w.heap.size, 1, none⟩ = some (.slice (some ⟨bk, of, none⟩) 8 c) := cell_lit H0E.out 1 rfl
      have d1 : YE.cell? ⟨g13, 1, none⟩ = some (.slice none 0 0) := cell_lit HG.out 1 rfl
      have HGF := Lib.hid (hkf'.heap HG.out (by simp)); have H2F := Lib.hid (hkf'.heap H2E.out (by simp)); have H3F := Lib.hid (hkf'.heap H3E.out (by simp))
      have HKF := Lib.hid (HKE.out.trans hkf' (FSub.refl _ _)); have HPF := Lib.hid (HPE.out.new hkf'); have HALLF := Lib.hid (HWE.out.all.new hkf')
      have HBAF := Lib.hid (hkf'.heap HBAE.out (by simp)); have HBBF := Lib.hid (hkf'.heap HBBE.out (by simp))
      clear hrun hrow hkf hkf' hff hgr HG H0E H2E H3E HKE HWE HPE HBAE HBBE hcp
      have HLR := Lib.hid (show g13 < gr ∧ qa < gr ∧ qb < gr ∧ w.heap.size + 4 ≤ gr from by have := HGL.out; have := HGR.out; have := HGQ.out; omega)
      have HOLP := Lib.hid (show ∀ z ∈ L, ApD z.S z.q z.p (fun q => q < w.heap.size) from fun z hz => HOLD.out.2 z hz)
      have HP1 := Lib.hid (show ApD z.S z.q z.p (fun q => q < g13 ∧ (q < w.heap.size ∨ w.heap.size + 4 ≤ q)) from (kpD z.S).and_ (x := (z.q, z.p)) HPO.out (HOLN.out (fun q => q < w.heap.size ∨ w.heap.size + 4 ≤ q) (HAY.out _ (HOLD.out.mono (fun q hq => .inl hq))) (fun q hq => .inr (by have := HZ.out; omega))))
      have HOLB := Lib.hid (show ∀ (g : Nat) {U V : World}, Keeps [g] U V → w.heap.size ≤ g → All13 U L → All13 V L from fun g U V hk hg h z hz => D13.keeps (h z hz) hk ((HOLP.out z hz).mono (fun q hq => by simp; omega)).1 ((HOLP.out z hz).mono (fun q hq => by simp; omega)).2)
      have HPB := Lib.hid (show ∀ (g : Nat) {U V : World}, Keeps [g] U V → (g13 ≤ g ∨ w.heap.size ≤ g ∧ g < w.heap.size + 4) → D13 U z.S z.q z.p → D13 V z.S z.q z.p from fun g U V hk hg h => D13.keeps h hk (HP1.out.mono (fun q hq => by simp; omega)).1 (HP1.out.mono (fun q hq => by simp; omega)).2)
      obtain ⟨YG, hYG⟩ : ∃ YG, YG = YF.setCell ⟨g13, 1, none⟩ (.slice (some ⟨gr, 0, none⟩) 8 cp) := ⟨_, rfl⟩
      have hk : Keeps [g13] YF YG := by rw [hYG]; exact (Keeps.refl [g13] YF).setCell _ _ (.inl (by simp))
      have HG := Lib.hid (show YG.heap[g13]? = some (.cells (wdC W.m (.slice (some ⟨gr, 0, none⟩) 8 cp)).toArray 39 (0, 0)) from by rw [hYG, heap_setCell_same YF g13 1 _ 39 _ HGF.out]; rfl)
      have HRG := Lib.hid (HROW.out.keeps hk (by intro q hq; have := HLR.out; simp [own, Value.ownBlock] at hq; simp; omega))
      have H2G := Lib.hid (hk.heap H2F.out (by have := HGQ.out; simp; omega)); have H3G := Lib.hid (hk.heap H3F.out (by have := HGQ.out; simp; omega))
      have HALLG := Lib.hid (HOLB.out g13 hk (by have := HGQ.out; omega) HALLF.out); have HPG := Lib.hid (HPB.out g13 hk (.inl (Nat.le_refl _)) HPF.out)
      have HBAG := Lib.hid (hk.heap HBAF.out (by have := HGQ.out; simp; omega)); have HBBG := Lib.hid (hk.heap HBBF.out (by have := HGQ.out; simp; omega))
      have HKG := Lib.hid (HKF.out.trans hk (fun q hq => .inr (by have := HGQ.out; simp at hq; omega)))
      have f1 : YF.frozen? ⟨g13, 1, none⟩ = false := by have h := HGF.out; simp [World.frozen?, h]
      have e1 : YF.cell? ⟨g13, 1, none⟩ = some (.slice none 0 0) := cell_lit HGF.out 1 rfl
      have d2 : YG.cell? ⟨g13, 1, none⟩ = some (.slice (some ⟨gr, 0, none⟩) 8 cp) := cell_lit HG.out 1 rfl
      clear hk HROW HGF H2F H3F HALLF HPF HBAF HBBF HKF
      have hYS := hYG.symm
      clear hYG
      have o8 := HO8.out
      have o1 : (o : Int) < 8 := by omega
      have o2 : 0 ≤ (o : Int) := by omega
      go_wp2_with (first
        | ((with_reducible refine wpList_app _ _ ?_ ?_ HRUN.out ?_); exact rfl; exact rfl)
        | ((with_reducible refine wpList_loadD (g := qa) (off := 0) HOK1.out ?_ ?_ (block_range HBAG.out) ?_); exact rfl; exact rfl)
        | ((with_reducible refine wpList_putMq (g := gr) (k := o) z HL8.out HO8.out ?_ ?_ HRG.out ?_); (first | exact rfl | (rw [E0.out]; exact rfl) | (rw [Nat.zero_add]; exact rfl)); exact rfl))
      intro YH hrow hk
      have HRH := Lib.hid hrow
      have HGH := Lib.hid (hk.heap HG.out (by have := HLR.out; simp; omega)); have H2H := Lib.hid (hk.heap H2G.out (by have := HLR.out; simp; omega)); have H3H := Lib.hid (hk.heap H3G.out (by have := HLR.out; simp; omega))
      have HBBH := Lib.hid (hk.heap HBBG.out (by have := HLR.out; simp; omega))
      have HALLH := Lib.hid (HOLB.out gr hk (by have := HLR.out; omega) HALLG.out); have HPH := Lib.hid (HPB.out gr hk (.inl (by have := HLR.out; omega)) HPG.out)
      have HKH := Lib.hid (HKG.out.trans hk (fun q hq => .inr (by have := HLR.out; simp at hq; omega)))
      have HLQ := Lib.hid (show (L.set o z).length = 8 from by rw [List.length_set]; exact HL8.out)
      have HWH := Lib.hid (show W14 YH (W.put o z.S) (.slice (some ⟨gr, 0, none⟩) 8 cp) (L.set o z) from ⟨by have h := hrow; rw [← HLQ.out] at h; have h2 := RK.Own.in_ h; rw [HLQ.out] at h2; exact h2, map_set_S HIS.out o z, All13.set HALLH.out o HPH.out⟩)
      clear hrow hk HRH HG H2G H3G HBAG HBBG HALLG HPG HKG HRG d2 f1 e1 hYS HRUN c1 d1
      have HNO := Lib.hid (show skWd.Ok (wdC W.m (.slice (some ⟨gr, 0, none⟩) 8 cp)) from wdC_ok W.m _ 8 cp)
      go_wp2_with fail
      obtain ⟨S0, hS0⟩ : ∃ S0 : World → Prop, S0 = fun y => Keeps [w.heap.size + 1 + 1, w.heap.size + 1 + 1 + 1] YH y := ⟨_, rfl⟩
      have HSE := Lib.hid hS0
      have hSD : S0 YH.drew := by rw [hS0]; exact (Keeps.refl _ _).drew
      have HS0 := Lib.hid (fun (w' : World) (hh : S0 w') => show w'.rangeAt g13 0 (wdC W.m (.slice (some ⟨gr, 0, none⟩) 8 cp)) from by rw [hS0] at hh; exact fun j v hv => hh.cell (block_range HGH.out j v hv) (by have := HGQ.out; simp; omega))
      have HS1 := Lib.hid (fun (w' : World) (hh : S0 w') => show w'.rangeAt qb 0 (ansC r) from by rw [hS0] at hh; exact fun j v hv => hh.cell (block_range HBBH.out j v hv) (by have := HAB.out; have := HZ.out; simp; omega))
      clear hS0
      refine wp_region_noPanic ?_
      refine wp_region_held_drew (S := S0) (by kernel_rfl) hSD (fun hHeld => ?_)
      refine tk 0 (y := by exact skWd.yields HNO.out rfl _ rfl g13 0 rfl HS0.out) (h := ?_)
      refine tk 1 (y := by exact skR.yields (ansC_ok r) rfl _ rfl qb 0 rfl HS1.out) (h := ?_)
      refine rp 2 (h := fun K hK => ?_)
      refine skWd.wp_put rfl (g := w.heap.size + 1 + 1) (old := wdC0) (A := wdC W.m (.slice (some ⟨gr, 0, none⟩) 8 cp)) HNO.out wdC0_ok rfl rfl (((Keeps.refl [] YH).drew).heap H2H.out (by simp)) (fun V6 hV6 hj6 => ?_)
      have HV6 := Lib.hid hV6
      have HJ6 := Lib.hid ((((Keeps.refl [] YH).drew).more (G := [w.heap.size + 1 + 1, w.heap.size + 1 + 1 + 1]) (by simp)).step hj6 (by simp))
      have HB36 := Lib.hid (hj6.heap (((Keeps.refl [] YH).drew).heap H3H.out (by simp)) (by simp))
      clear hV6 hj6
      refine hK.out _ _ (by rw [HSE.out]; exact HJ6.out) (fun hHeld => ?_); clear hK K; try simp only [Act.put, lsA, lsZ, lsS]
      refine rp 3 (h := fun K hK => ?_)
      refine wp_putN rfl (g := w.heap.size + 1 + 1 + 1) (old := ⟨0, 0⟩) r rfl rfl HB36.out (fun V7 hV7 hj7 => ?_)
      have HV7 := Lib.hid hV7
      have HS7 := Lib.hid (hj7.heap HV6.out (by simp))
      have HJ7 := Lib.hid (HJ6.out.step hj7 (by simp))
      clear hV7 hj7
      refine hK.out _ _ (by rw [HSE.out]; exact HJ7.out) (fun hHeld => ?_); clear hK K; try simp only [Act.put, lsA, lsZ, lsS]
      refine tw 4 (h := ?_)
      refine wpAnyH_done (by kernel_rfl) ?_ _
      refine NoPanic.normal ?_
      go_wp2_with fail
      try simp only [Exit.inBlock, Exit.then]
      refine bodyPost_ret (results_sk3 skWd rfl _ _ (w.heap.size + 1 + 1) (w.heap.size + 1 + 1 + 1) HNO.out r rfl HS7.out rfl HV7.out) rfl ⟨(.slice (some ⟨gr, 0, none⟩) 8 cp, L.set o z), rfl, ?_, HKH.out.trans HJ7.out (fun q hq => .inr (by simp at hq; omega)), fun p hp hn => ⟨fun _ b hb => hn b (by have := HLR.out; simp [own, Value.ownBlock] at hb; omega), fun y' hy' => ?_⟩⟩
      · refine W14.keep HWH.out HJ7.out ⟨fun _ b hb => by have := HLR.out; simp [own, Value.ownBlock] at hb; simp; omega, fun y' hy' => ?_⟩
        rcases List.mem_or_eq_of_mem_set hy' with h1 | rfl
        · exact (HOLP.out y' h1).mono (fun q hq => by simp; omega)
        · exact HP1.out.mono (fun q hq => by have := HGQ.out; simp; omega)
      · rcases List.mem_or_eq_of_mem_set hy' with h1 | rfl
        · exact hp.2 y' h1
        · exact HOLN.out p (HAY.out p hp) (fun q hq => hn q (by have := HZ.out; omega))
    · obtain ⟨rfl, rfl⟩ := HBAD.out he
      clear HGOOD HBAD
      have HRD := Lib.hid (show YD.rangeAt w.heap.size 0 (wdC W2.m (.slice (some ⟨bk, of, none⟩) 8 c)) from block_range (A := wdC W2.m (.slice (some ⟨bk, of, none⟩) 8 c)) H0D.out)
      go_wp2_with (first
        | ((with_reducible refine wpList_loadV (g := w.heap.size) (off := 0) HMI.out ?_ ?_ HRD.out ?_); exact rfl; exact rfl)
        | ((with_reducible refine wpList_putV (g := w.heap.size + 1 + 1) (old := wdC0) (A := wdC W2.m (.slice (some ⟨bk, of, none⟩) 8 c)) HMI.out wdC0_ok ?_ ?_ H2D.out ?_); exact rfl; exact rfl))
      intro YE hV hk
      have HVE := Lib.hid hV; have HKE := Lib.hid hk
      have H3E := Lib.hid (hk.heap H3D.out (by simp))
      clear hV hk
      go_wp2_with ((with_reducible refine wpList_putN (g := w.heap.size + 1 + 1 + 1) (old := ⟨0, 0⟩) ⟨0, 0⟩ ?_ ?_ H3E.out ?_); exact rfl; exact rfl)
      intro YF hV hk
      have HVF := Lib.hid hV; have HKF := Lib.hid hk
      have HVG := Lib.hid (hk.heap HVE.out (by simp))
      clear hV hk
      go_wp2_with fail
      try simp only [Exit.inBlock, Exit.then]
      have hap : ∀ g, w.heap.size ≤ g → Ap14 (.slice (some ⟨bk, of, none⟩) 8 c) L (fun q => q ∉ [g]) := fun g hg => HOLD.out.mono (fun q hq => by simp; omega)
      refine bodyPost_ret (results_sk3 skWd rfl _ _ (w.heap.size + 1 + 1) (w.heap.size + 1 + 1 + 1) HMI.out ⟨0, 0⟩ rfl HVG.out rfl HVF.out) rfl ⟨(.slice (some ⟨bk, of, none⟩) 8 c, L), rfl, (HWD.out.keep HKE.out (hap _ (by omega))).keep HKF.out (hap _ (by omega)), (HKD.out.trans HKE.out (fun q hq => .inr (by simp at hq; omega))).trans HKF.out (fun q hq => .inr (by simp at hq; omega)), fun p hp _ => hp⟩
  · have eo : x.o = (o : Int) := by have := HOO.out; rw [if_neg h7] at this; omega
    rw [eo] at d1
    have E0 := Lib.hid eo
    clear eo
    have h8 := HO8.out
    have t1 : ¬ 7 < (o : Int) := by omega
    have t2 : 0 ≤ (o : Int) := by omega
    go_wp2_with fail
    clear c1 d1
    obtain ⟨OL, hOL⟩ : ∃ OL, OL = ApD y.S y.q y.p := ⟨_, rfl⟩
    obtain ⟨KP, hKP⟩ : ∃ KP, KP = kpD S1 := ⟨_, rfl⟩
    have HOKP := Lib.hid (show ∀ x w, KP.P x w → skD.Ok (KP.cs x) from by rw [hKP]; exact fun x w h => D13.ok h)
    rw [← hOL] at HOL; rw [← hOL, ← hKP] at HST
    have HKP := Lib.hid hKP; have HOLE := Lib.hid hOL
    clear hKP hOL
    refine wp_join13 (fun qa qb zv us a => (((((((((((((((a.put (some 26) (us.getD 0 undef)).put (some 27) (us.getD 1 undef)).put (some 28) (us.getD 2 undef)).put (some 29) (us.getD 3 undef)).put (some 30) (us.getD 4 undef)).put (some 31) (us.getD 5 undef)).put (some 32) (us.getD 6 undef)).put (some 33) (us.getD 7 undef)).put (some 25) (us.getD 8 undef)).put (some 34) (us.getD 9 undef)).put (some 35) (us.getD 10 undef)).put (some 36) (us.getD 11 undef)).put (some 10) (.pointer (some ⟨qa, 0, none⟩))).put (some 11) (.pointer (some ⟨qb, 0, none⟩))).put (some 12) (.int .i64 e1))) (Fin3 KP 81 rr OL V0) ?_ ?_
    · obtain ⟨S0, hS0⟩ : ∃ S0 : World → Prop, S0 = fun y => Keeps [] V0 y := ⟨_, rfl⟩
      have HSE := Lib.hid hS0
      have hSD : S0 V0.drew := by rw [hS0]; exact (Keeps.refl _ _).drew
      have HC1 := Lib.hid (fun (w' : World) (hh : S0 w') => show w'.cell? ⟨w.heap.size, 1, none⟩ = some (.slice (some ⟨bk, of, none⟩) 8 c) from by rw [hS0] at hh; exact hh.cell (cell_lit H0.out 1 rfl) (by simp))
      have HSA := Lib.hid (fun (w' : World) (hh : S0 w') => show w'.rangeAt bk (of + o * 5) (mdC y.S y.q y.p) from by rw [hS0] at hh; exact fun j v hv => hh.cell (HRY.out j v hv) (by simp))
      have HSX := Lib.hid (fun (w' : World) (hh : S0 w') => show w'.rangeAt (w.heap.size + 1) 0 (opC x) from by rw [hS0] at hh; exact fun j v hv => hh.cell (block_range (A := opC x) H1.out j v hv) (by simp))
      clear hS0
      refine wp_region_noPanic ?_
      refine wp_region_held_drew (S := S0) (by kernel_rfl) hSD (fun hHeld => ?_)
      refine tw 0 (h := ?_)
      refine tk 1 (y := by exact Or.inl ⟨by rfl, by intro w hSw; have q0 := HC1.out w hSw; go_simp; try with_reducible rfl⟩) (h := ?_)
      refine tw 2 (h := ?_)
      refine tk 3 (y := by exact yields_indexW rfl _ _ rfl bk of 8 c o rfl (by first | rfl | (rw [E0.out]; rfl)) HO8.out) (h := ?_)
      refine tk 4 (y := by exact skD.yields HYO.out rfl _ rfl bk (of + o * 5) rfl HSA.out) (h := ?_)
      refine tw 5 (h := ?_)
      refine tk 6 (y := by exact yields_loadP x rfl _ rfl (w.heap.size + 1) 0 rfl HSX.out) (h := ?_)
      have HY := Lib.hid ((Keeps.refl [] V0).drew)
      generalize V0.drew = YC at *
      iterate 3
        all_goals
          first
            | apply wpAnyH_ready (rs := [7, 12, 13])
              · decide +kernel
              · simp
              refine acn ?_ (acn ?_ (acn ?_ (AllReadyH.nil)))
            | apply wpAnyH_ready (rs := [7, 12])
              · decide +kernel
              · simp
              refine acn ?_ (acn ?_ (AllReadyH.nil))
            | apply wpAnyH_ready (rs := [7, 13])
              · decide +kernel
              · simp
              refine acn ?_ (acn ?_ (AllReadyH.nil))
            | apply wpAnyH_ready (rs := [12, 13])
              · decide +kernel
              · simp
              refine acn ?_ (acn ?_ (AllReadyH.nil))
            | apply wpAnyH_ready (rs := [7])
              · decide +kernel
              · simp
              refine acn ?_ (AllReadyH.nil)
            | apply wpAnyH_ready (rs := [12])
              · decide +kernel
              · simp
              refine acn ?_ (AllReadyH.nil)
            | apply wpAnyH_ready (rs := [13])
              · decide +kernel
              · simp
              refine acn ?_ (AllReadyH.nil)
          all_goals
            intro K hK
            rw [if_pos (by rfl)]
            first
            | refine wp_call9 34 _ _ rfl [.agg (mdC y.S y.q y.p).toArray, .int .u8 cl, x.val] rfl Tryz.func34 (by kernel_rfl) (by kernel_rfl) ((HST.out _ HY.out).mono ?_)
              rintro e YC ⟨x1, rfl, hpp, hk, hf⟩
              refine ⟨_, rfl, ?_⟩
              try have HFA := Lib.hid (show KP.Ap x1 (fun q => q ≠ ga) from hf _ (HOL.out _ (fun q hq => by have := HGA.out; omega)) (fun q hq => by have := HLA.out; omega))
              try have HFB := Lib.hid (show KP.Ap x1 (fun q => q ≠ gb) from hf _ (HOL.out _ (fun q hq => by have := HGB.out; omega)) (fun q hq => by have := HLB.out; omega))
              have HFN := Lib.hid (show ∀ p : Nat → Prop, OL p → (∀ q, V0.heap.size ≤ q → p q) → KP.Ap x1 p from fun p h1 h2 => hf p h1 (fun q hq => h2 q (Nat.le_trans HY.out.size hq)))
              try replace HBA := Lib.hid (hk.heap HBA.out (by simp))
              try replace HBB := Lib.hid (hk.heap HBB.out (by simp))
              try replace HAT := Lib.hid (KP.new HAT.out hk)
              try replace HLA := Lib.hid (Nat.lt_of_lt_of_le HLA.out hk.size)
              try replace HLB := Lib.hid (Nat.lt_of_lt_of_le HLB.out hk.size)
              replace HY := Lib.hid (HY.out.trans hk (FSub.refl _ _))
              have HAT := Lib.hid hpp
              clear hpp hk hf
              refine hK.out _ _ (by rw [HSE.out]; exact HY.out) (fun hHeld => ?_); clear hK K; try simp only [Act.put, lsA, lsZ, lsS]
              refine tw 8 (h := ?_)
              refine tw 9 (h := ?_)
              refine tw 10 (h := ?_)
              refine tw 11 (h := ?_)
            | refine wp_allocD rfl ?_
              have hk : Keeps [] YC (YC.alloc (.cells mdC0.toArray 81)) := (Keeps.refl _ _).alloc _
              have hb := heap_alloc_new YC (.cells mdC0.toArray 81)
              try have HFA := Lib.hid (show KP.Ap x1 (fun q => q ≠ YC.heap.size) from KP.mono (KP.old HAT.out) (fun q hq => Nat.ne_of_lt hq))
              try have HAB := Lib.hid (show YC.heap.size ≠ gb from Nat.ne_of_gt HLB.out)
              have HGA := Lib.hid HY.out.size
              try replace HBA := Lib.hid (hk.heap HBA.out (by simp))
              try replace HBB := Lib.hid (hk.heap HBB.out (by simp))
              try replace HAT := Lib.hid (KP.new HAT.out hk)
              try replace HLA := Lib.hid (Nat.lt_of_lt_of_le HLA.out hk.size)
              try replace HLB := Lib.hid (Nat.lt_of_lt_of_le HLB.out hk.size)
              replace HY := Lib.hid (HY.out.trans hk (FSub.refl _ _))
              have HBA := Lib.hid hb
              have HLA := Lib.hid (lt_of_block hb)
              clear hk hb
              generalize YC.heap.size = ga at *
              generalize YC.alloc (.cells mdC0.toArray 81) = YC at *
              refine hK.out _ _ (by rw [HSE.out]; exact HY.out) (fun hHeld => ?_); clear hK K; try simp only [Act.put, lsA, lsZ, lsS]
            | refine wp_allocA _ _ _ _ rfl ?_
              have hk : Keeps [] YC (YC.alloc (.cells (ansC ⟨0, 0⟩).toArray 25)) := (Keeps.refl _ _).alloc _
              have hb := heap_alloc_new YC (.cells (ansC ⟨0, 0⟩).toArray 25)
              try have HFB := Lib.hid (show KP.Ap x1 (fun q => q ≠ YC.heap.size) from KP.mono (KP.old HAT.out) (fun q hq => Nat.ne_of_lt hq))
              try have HAB := Lib.hid (show ga ≠ YC.heap.size from Nat.ne_of_lt HLA.out)
              have HGB := Lib.hid HY.out.size
              try replace HBA := Lib.hid (hk.heap HBA.out (by simp))
              try replace HBB := Lib.hid (hk.heap HBB.out (by simp))
              try replace HAT := Lib.hid (KP.new HAT.out hk)
              try replace HLA := Lib.hid (Nat.lt_of_lt_of_le HLA.out hk.size)
              try replace HLB := Lib.hid (Nat.lt_of_lt_of_le HLB.out hk.size)
              replace HY := Lib.hid (HY.out.trans hk (FSub.refl _ _))
              have HBB := Lib.hid hb
              have HLB := Lib.hid (lt_of_block hb)
              clear hk hb
              generalize YC.heap.size = gb at *
              generalize YC.alloc (.cells (ansC ⟨0, 0⟩).toArray 25) = YC at *
              refine hK.out _ _ (by rw [HSE.out]; exact HY.out) (fun hHeld => ?_); clear hK K; try simp only [Act.put, lsA, lsZ, lsS]
      all_goals
        refine rp 14 (h := fun K hK => ?_)
        refine skD.wp_put rfl (g := ga) (old := mdC0) (A := KP.cs x1) (HOKP.out _ _ HAT.out) mdC0_ok rfl rfl HBA.out (fun YC hV hk => ?_)
        replace HBA := Lib.hid hV
        replace HBB := Lib.hid (hk.heap HBB.out (by have := HAB.out; simp; exact fun e => this e.symm))
        replace HAT := Lib.hid (KP.put HAT.out hk HFA.out)
        replace HY := Lib.hid (HY.out.trans' hk HGA.out)
        clear hV hk
        refine hK.out _ _ (by rw [HSE.out]; exact HY.out) (fun hHeld => ?_); clear hK K; try simp only [Act.put, lsA, lsZ, lsS]
        refine rp 15 (h := fun K hK => ?_)
        refine wp_putN rfl (g := gb) (old := ⟨0, 0⟩) rr rfl rfl HBB.out (fun YC hV hk => ?_)
        replace HBB := Lib.hid hV
        replace HBA := Lib.hid (hk.heap HBA.out (by have := HAB.out; simpa using this))
        replace HAT := Lib.hid (KP.put HAT.out hk HFB.out)
        replace HY := Lib.hid (HY.out.trans' hk HGB.out)
        clear hV hk
        refine hK.out _ _ (by rw [HSE.out]; exact HY.out) (fun hHeld => ?_); clear hK K; try simp only [Act.put, lsA, lsZ, lsS]
        refine tw 16 (h := ?_)
        refine wpAnyH_done (by kernel_rfl) ?_ _
        refine NoPanic.normal ?_
        exact ⟨rfl, ga, gb, .agg (KP.cs x1).toArray, [_, _, _, _, _, _, _, _, _, _, _, _], rfl, x1, rfl, HBA.out, HBB.out, HAT.out, HY.out, HGA.out, HGB.out, HAB.out, HFN.out, KP.and_ HFA.out HFB.out⟩
    rintro qa qb zv us YD ⟨x1, rfl, hba, hbb, hp, hky, hga, hgb, hab, hol, hap⟩
    simp only [Act.put, lsA, lsZ, lsS]
    have hKP := HKP.out; have hOL := HOLE.out
    subst hKP
    subst hOL
    obtain ⟨q1, m1⟩ := x1
    obtain ⟨z, rfl, hzq, hzm⟩ := D13.mq (show D13 YD S1 q1 m1 from hp)
    subst hzq
    subst hzm
    have HBA := Lib.hid (show YD.heap[qa]? = some (.cells (mdC z.S z.q z.p).toArray 81 (0, 0)) from hba); have HBB := Lib.hid hbb
    have HP := Lib.hid (show D13 YD z.S z.q z.p from hp); have HKY := Lib.hid hky
    have HAB := Lib.hid (show qa ≠ qb ∧ V0.heap.size ≤ qa ∧ V0.heap.size ≤ qb from ⟨hab, hga, hgb⟩)
    have HOLN := Lib.hid (show ∀ p : Nat → Prop, ApD y.S y.q y.p p → (∀ q, V0.heap.size ≤ q → p q) → ApD z.S z.q z.p p from hol)
    have HPO := Lib.hid (show ApD z.S z.q z.p (fun q => q < YD.heap.size) from (kpD z.S).old (x := (z.q, z.p)) hp)
    have HOK1 := Lib.hid (show skD.Ok (mdC z.S z.q z.p) from D13.ok hp)
    have H0D := Lib.hid (hky.heap H0.out (by simp)); have H2D := Lib.hid (hky.heap H2.out (by simp)); have H3D := Lib.hid (hky.heap H3.out (by simp))
    have HKD := Lib.hid (HK.out.trans hky (FSub.refl _ _)); have HWD := Lib.hid (HW.out.new hky)
    clear hba hbb hp hky hga hgb hab hol hap HST HOKP HOL H0 H1 H2 H3 HW HRY HYD HALL
    by_cases he : e1 = 0
    · obtain ⟨-, hW2⟩ := HGOOD.out he
      simp only [Prod.mk.injEq] at hW2
      obtain ⟨rfl, rfl, -⟩ := hW2
      subst he
      clear HBAD HGOOD
      have c0 : YD.cell? ⟨w.heap.size, 0, none⟩ = some (.int .u8 W.m) := cell_lit H0D.out 0 rfl
      have HC := Lib.hid (show (YD.alloc (.cells #[.int .u8 0, .slice none 0 0] 39)).heap[YD.heap.size]? = some (.cells wdC0.toArray 39 (0, 0)) from heap_alloc_new YD _)
      have HKC := Lib.hid (show Keeps [] YD (YD.alloc (.cells #[.int .u8 0, .slice none 0 0] 39)) from (Keeps.refl _ _).alloc _)
      have HNI := Lib.hid (show skWd.Ok (wdC W.m (.slice none 0 0)) from wdC_ok W.m none 0 0)
      go_wp2_with ((with_reducible refine wpList_putV (g := YD.heap.size) (old := wdC0) (A := wdC W.m (.slice none 0 0)) HNI.out wdC0_ok ?_ ?_ HC.out ?_); exact rfl; exact rfl)
      intro YE hV hk
      have hky := HKC.out.trans' hk (Nat.le_refl _)
      have HG := Lib.hid (show YE.heap[YD.heap.size]? = some (.cells (wdC W.m (.slice none 0 0)).toArray 39 (0, 0)) from hV)
      have H0E := Lib.hid (hky.heap H0D.out (by simp)); have H2E := Lib.hid (hky.heap H2D.out (by simp)); have H3E := Lib.hid (hky.heap H3D.out (by simp))
      have HKE := Lib.hid (HKD.out.trans hky (FSub.refl _ _)); have HWE := Lib.hid (HWD.out.new hky); have HPE := Lib.hid (HP.out.new hky)
      have HBAE := Lib.hid (hky.heap HBA.out (by simp)); have HBBE := Lib.hid (hky.heap HBB.out (by simp))
      have HGQ := Lib.hid (show qa < YD.heap.size ∧ qb < YD.heap.size ∧ w.heap.size + 4 ≤ YD.heap.size from ⟨lt_of_block HBA.out, lt_of_block HBB.out, by have := HKY.out.size; have := HZ.out; omega⟩)
      clear hV hk hky c0 HC HKC H0D H2D H3D HKD HWD HP HBA HBB HKY
      generalize YD.heap.size = g13 at *
      have HGL := Lib.hid (lt_of_block HG.out)
      obtain ⟨v1, YF, hrun, hrow, hkf, hff⟩ := rkW.appendIn YE YE.heap.size (Nat.le_refl _) (.slice none 0 0) [] (RK.Own.nil rkW _ _) HWE.out.row (by rw [HL8.out]; decide)
      rw [List.nil_append] at hrow
      obtain ⟨gr, cp, rfl, hcp, -, hgr, -, -⟩ := hrow.at (fun e => by have := HL8.out; rw [e] at this; cases this)
      rw [HL8.out] at hrun hrow
      have HRUN := Lib.hid (show (Builtin.append_ #[37, 37] 37 #[.slice none 0 0, .slice (some ⟨bk, of, none⟩) 8 c]).run Tryz.prog YE = _ from hrun)
      have HROW := Lib.hid hrow; have HGR := Lib.hid hgr
      have hkf' : Keeps [] YE YF := hkf
      have c1 : YE.cell? ⟨w.heap.size, 1, none⟩ = some (.slice (some ⟨bk, of, none⟩) 8 c) := cell_lit H0E.out 1 rfl
      have d1 : YE.cell? ⟨g13, 1, none⟩ = some (.slice none 0 0) := cell_lit HG.out 1 rfl
      have HGF := Lib.hid (hkf'.heap HG.out (by simp)); have H2F := Lib.hid (hkf'.heap H2E.out (by simp)); have H3F := Lib.hid (hkf'.heap H3E.out (by simp))
      have HKF := Lib.hid (HKE.out.trans hkf' (FSub.refl _ _)); have HPF := Lib.hid (HPE.out.new hkf'); have HALLF := Lib.hid (HWE.out.all.new hkf')
      have HBAF := Lib.hid (hkf'.heap HBAE.out (by simp)); have HBBF := Lib.hid (hkf'.heap HBBE.out (by simp))
      clear hrun hrow hkf hkf' hff hgr HG H0E H2E H3E HKE HWE HPE HBAE HBBE hcp
      have HLR := Lib.hid (show g13 < gr ∧ qa < gr ∧ qb < gr ∧ w.heap.size + 4 ≤ gr from by have := HGL.out; have := HGR.out; have := HGQ.out; omega)
      have HOLP := Lib.hid (show ∀ z ∈ L, ApD z.S z.q z.p (fun q => q < w.heap.size) from fun z hz => HOLD.out.2 z hz)
      have HP1 := Lib.hid (show ApD z.S z.q z.p (fun q => q < g13 ∧ (q < w.heap.size ∨ w.heap.size + 4 ≤ q)) from (kpD z.S).and_ (x := (z.q, z.p)) HPO.out (HOLN.out (fun q => q < w.heap.size ∨ w.heap.size + 4 ≤ q) (HAY.out _ (HOLD.out.mono (fun q hq => .inl hq))) (fun q hq => .inr (by have := HZ.out; omega))))
      have HOLB := Lib.hid (show ∀ (g : Nat) {U V : World}, Keeps [g] U V → w.heap.size ≤ g → All13 U L → All13 V L from fun g U V hk hg h z hz => D13.keeps (h z hz) hk ((HOLP.out z hz).mono (fun q hq => by simp; omega)).1 ((HOLP.out z hz).mono (fun q hq => by simp; omega)).2)
      have HPB := Lib.hid (show ∀ (g : Nat) {U V : World}, Keeps [g] U V → (g13 ≤ g ∨ w.heap.size ≤ g ∧ g < w.heap.size + 4) → D13 U z.S z.q z.p → D13 V z.S z.q z.p from fun g U V hk hg h => D13.keeps h hk (HP1.out.mono (fun q hq => by simp; omega)).1 (HP1.out.mono (fun q hq => by simp; omega)).2)
      obtain ⟨YG, hYG⟩ : ∃ YG, YG = YF.setCell ⟨g13, 1, none⟩ (.slice (some ⟨gr, 0, none⟩) 8 cp) := ⟨_, rfl⟩
      have hk : Keeps [g13] YF YG := by rw [hYG]; exact (Keeps.refl [g13] YF).setCell _ _ (.inl (by simp))
      have HG := Lib.hid (show YG.heap[g13]? = some (.cells (wdC W.m (.slice (some ⟨gr, 0, none⟩) 8 cp)).toArray 39 (0, 0)) from by rw [hYG, heap_setCell_same YF g13 1 _ 39 _ HGF.out]; rfl)
      have HRG := Lib.hid (HROW.out.keeps hk (by intro q hq; have := HLR.out; simp [own, Value.ownBlock] at hq; simp; omega))
      have H2G := Lib.hid (hk.heap H2F.out (by have := HGQ.out; simp; omega)); have H3G := Lib.hid (hk.heap H3F.out (by have := HGQ.out; simp; omega))
      have HALLG := Lib.hid (HOLB.out g13 hk (by have := HGQ.out; omega) HALLF.out); have HPG := Lib.hid (HPB.out g13 hk (.inl (Nat.le_refl _)) HPF.out)
      have HBAG := Lib.hid (hk.heap HBAF.out (by have := HGQ.out; simp; omega)); have HBBG := Lib.hid (hk.heap HBBF.out (by have := HGQ.out; simp; omega))
      have HKG := Lib.hid (HKF.out.trans hk (fun q hq => .inr (by have := HGQ.out; simp at hq; omega)))
      have f1 : YF.frozen? ⟨g13, 1, none⟩ = false := by have h := HGF.out; simp [World.frozen?, h]
      have e1 : YF.cell? ⟨g13, 1, none⟩ = some (.slice none 0 0) := cell_lit HGF.out 1 rfl
      have d2 : YG.cell? ⟨g13, 1, none⟩ = some (.slice (some ⟨gr, 0, none⟩) 8 cp) := cell_lit HG.out 1 rfl
      clear hk HROW HGF H2F H3F HALLF HPF HBAF HBBF HKF
      have hYS := hYG.symm
      clear hYG
      have o8 := HO8.out
      have o1 : (o : Int) < 8 := by omega
      have o2 : 0 ≤ (o : Int) := by omega
      go_wp2_with (first
        | ((with_reducible refine wpList_app _ _ ?_ ?_ HRUN.out ?_); exact rfl; exact rfl)
        | ((with_reducible refine wpList_loadD (g := qa) (off := 0) HOK1.out ?_ ?_ (block_range HBAG.out) ?_); exact rfl; exact rfl)
        | ((with_reducible refine wpList_putMq (g := gr) (k := o) z HL8.out HO8.out ?_ ?_ HRG.out ?_); (first | exact rfl | (rw [E0.out]; exact rfl) | (rw [Nat.zero_add]; exact rfl)); exact rfl))
      intro YH hrow hk
      have HRH := Lib.hid hrow
      have HGH := Lib.hid (hk.heap HG.out (by have := HLR.out; simp; omega)); have H2H := Lib.hid (hk.heap H2G.out (by have := HLR.out; simp; omega)); have H3H := Lib.hid (hk.heap H3G.out (by have := HLR.out; simp; omega))
      have HBBH := Lib.hid (hk.heap HBBG.out (by have := HLR.out; simp; omega))
      have HALLH := Lib.hid (HOLB.out gr hk (by have := HLR.out; omega) HALLG.out); have HPH := Lib.hid (HPB.out gr hk (.inl (by have := HLR.out; omega)) HPG.out)
      have HKH := Lib.hid (HKG.out.trans hk (fun q hq => .inr (by have := HLR.out; simp at hq; omega)))
      have HLQ := Lib.hid (show (L.set o z).length = 8 from by rw [List.length_set]; exact HL8.out)
      have HWH := Lib.hid (show W14 YH (W.put o z.S) (.slice (some ⟨gr, 0, none⟩) 8 cp) (L.set o z) from ⟨by have h := hrow; rw [← HLQ.out] at h; have h2 := RK.Own.in_ h; rw [HLQ.out] at h2; exact h2, map_set_S HIS.out o z, All13.set HALLH.out o HPH.out⟩)
      clear hrow hk HRH HG H2G H3G HBAG HBBG HALLG HPG HKG HRG d2 f1 e1 hYS HRUN c1 d1
      have HNO := Lib.hid (show skWd.Ok (wdC W.m (.slice (some ⟨gr, 0, none⟩) 8 cp)) from wdC_ok W.m _ 8 cp)
      go_wp2_with fail
      obtain ⟨S0, hS0⟩ : ∃ S0 : World → Prop, S0 = fun y => Keeps [w.heap.size + 1 + 1, w.heap.size + 1 + 1 + 1] YH y := ⟨_, rfl⟩
      have HSE := Lib.hid hS0
      have hSD : S0 YH.drew := by rw [hS0]; exact (Keeps.refl _ _).drew
      have HS0 := Lib.hid (fun (w' : World) (hh : S0 w') => show w'.rangeAt g13 0 (wdC W.m (.slice (some ⟨gr, 0, none⟩) 8 cp)) from by rw [hS0] at hh; exact fun j v hv => hh.cell (block_range HGH.out j v hv) (by have := HGQ.out; simp; omega))
      have HS1 := Lib.hid (fun (w' : World) (hh : S0 w') => show w'.rangeAt qb 0 (ansC r) from by rw [hS0] at hh; exact fun j v hv => hh.cell (block_range HBBH.out j v hv) (by have := HAB.out; have := HZ.out; simp; omega))
      clear hS0
      refine wp_region_noPanic ?_
      refine wp_region_held_drew (S := S0) (by kernel_rfl) hSD (fun hHeld => ?_)
      refine tk 0 (y := by exact skWd.yields HNO.out rfl _ rfl g13 0 rfl HS0.out) (h := ?_)
      refine tk 1 (y := by exact skR.yields (ansC_ok r) rfl _ rfl qb 0 rfl HS1.out) (h := ?_)
      refine rp 2 (h := fun K hK => ?_)
      refine skWd.wp_put rfl (g := w.heap.size + 1 + 1) (old := wdC0) (A := wdC W.m (.slice (some ⟨gr, 0, none⟩) 8 cp)) HNO.out wdC0_ok rfl rfl (((Keeps.refl [] YH).drew).heap H2H.out (by simp)) (fun V6 hV6 hj6 => ?_)
      have HV6 := Lib.hid hV6
      have HJ6 := Lib.hid ((((Keeps.refl [] YH).drew).more (G := [w.heap.size + 1 + 1, w.heap.size + 1 + 1 + 1]) (by simp)).step hj6 (by simp))
      have HB36 := Lib.hid (hj6.heap (((Keeps.refl [] YH).drew).heap H3H.out (by simp)) (by simp))
      clear hV6 hj6
      refine hK.out _ _ (by rw [HSE.out]; exact HJ6.out) (fun hHeld => ?_); clear hK K; try simp only [Act.put, lsA, lsZ, lsS]
      refine rp 3 (h := fun K hK => ?_)
      refine wp_putN rfl (g := w.heap.size + 1 + 1 + 1) (old := ⟨0, 0⟩) r rfl rfl HB36.out (fun V7 hV7 hj7 => ?_)
      have HV7 := Lib.hid hV7
      have HS7 := Lib.hid (hj7.heap HV6.out (by simp))
      have HJ7 := Lib.hid (HJ6.out.step hj7 (by simp))
      clear hV7 hj7
      refine hK.out _ _ (by rw [HSE.out]; exact HJ7.out) (fun hHeld => ?_); clear hK K; try simp only [Act.put, lsA, lsZ, lsS]
      refine tw 4 (h := ?_)
      refine wpAnyH_done (by kernel_rfl) ?_ _
      refine NoPanic.normal ?_
      go_wp2_with fail
      try simp only [Exit.inBlock, Exit.then]
      refine bodyPost_ret (results_sk3 skWd rfl _ _ (w.heap.size + 1 + 1) (w.heap.size + 1 + 1 + 1) HNO.out r rfl HS7.out rfl HV7.out) rfl ⟨(.slice (some ⟨gr, 0, none⟩) 8 cp, L.set o z), rfl, ?_, HKH.out.trans HJ7.out (fun q hq => .inr (by simp at hq; omega)), fun p hp hn => ⟨fun _ b hb => hn b (by have := HLR.out; simp [own, Value.ownBlock] at hb; omega), fun y' hy' => ?_⟩⟩
      · refine W14.keep HWH.out HJ7.out ⟨fun _ b hb => by have := HLR.out; simp [own, Value.ownBlock] at hb; simp; omega, fun y' hy' => ?_⟩
        rcases List.mem_or_eq_of_mem_set hy' with h1 | rfl
        · exact (HOLP.out y' h1).mono (fun q hq => by simp; omega)
        · exact HP1.out.mono (fun q hq => by have := HGQ.out; simp; omega)
      · rcases List.mem_or_eq_of_mem_set hy' with h1 | rfl
        · exact hp.2 y' h1
        · exact HOLN.out p (HAY.out p hp) (fun q hq => hn q (by have := HZ.out; omega))
    · obtain ⟨rfl, rfl⟩ := HBAD.out he
      clear HGOOD HBAD
      have HRD := Lib.hid (show YD.rangeAt w.heap.size 0 (wdC W2.m (.slice (some ⟨bk, of, none⟩) 8 c)) from block_range (A := wdC W2.m (.slice (some ⟨bk, of, none⟩) 8 c)) H0D.out)
      go_wp2_with (first
        | ((with_reducible refine wpList_loadV (g := w.heap.size) (off := 0) HMI.out ?_ ?_ HRD.out ?_); exact rfl; exact rfl)
        | ((with_reducible refine wpList_putV (g := w.heap.size + 1 + 1) (old := wdC0) (A := wdC W2.m (.slice (some ⟨bk, of, none⟩) 8 c)) HMI.out wdC0_ok ?_ ?_ H2D.out ?_); exact rfl; exact rfl))
      intro YE hV hk
      have HVE := Lib.hid hV; have HKE := Lib.hid hk
      have H3E := Lib.hid (hk.heap H3D.out (by simp))
      clear hV hk
      go_wp2_with ((with_reducible refine wpList_putN (g := w.heap.size + 1 + 1 + 1) (old := ⟨0, 0⟩) ⟨0, 0⟩ ?_ ?_ H3E.out ?_); exact rfl; exact rfl)
      intro YF hV hk
      have HVF := Lib.hid hV; have HKF := Lib.hid hk
      have HVG := Lib.hid (hk.heap HVE.out (by simp))
      clear hV hk
      go_wp2_with fail
      try simp only [Exit.inBlock, Exit.then]
      have hap : ∀ g, w.heap.size ≤ g → Ap14 (.slice (some ⟨bk, of, none⟩) 8 c) L (fun q => q ∉ [g]) := fun g hg => HOLD.out.mono (fun q hq => by simp; omega)
      refine bodyPost_ret (results_sk3 skWd rfl _ _ (w.heap.size + 1 + 1) (w.heap.size + 1 + 1 + 1) HMI.out ⟨0, 0⟩ rfl HVG.out rfl HVF.out) rfl ⟨(.slice (some ⟨bk, of, none⟩) 8 c, L), rfl, (HWD.out.keep HKE.out (hap _ (by omega))).keep HKF.out (hap _ (by omega)), (HKD.out.trans HKE.out (fun q hq => .inr (by simp at hq; omega))).trans HKF.out (fun q hq => .inr (by simp at hq; omega)), fun p hp _ => hp⟩
end Go.Proofs.YtbnhcggjcdipeaaGreatDoor
/-
  The document's world: Encode.
-/
namespace Go.Proofs.YtbnhcggjcdipeaaGreatDoor
open Go.RowKit
set_option maxRecDepth 100000
set_option maxHeartbeats 8000000
theorem liW_at {m : Int} : ∀ (i : Nat) (l : List Md), ∀ p ∈ liW m i l, l[p.1 - i]? = some p.2
  | i, [], p, h => by cases h
  | i, S :: r, p, h => by
    rw [liW_cons] at h
    have go : p ∈ liW m (i + 1) r → (S :: r)[p.1 - i]? = some p.2 := fun h => by
      have h1 := (liW_mem m (i + 1) r p h).1
      rw [show p.1 - i = (p.1 - (i + 1)) + 1 by omega, List.getElem?_cons_succ]
      exact liW_at (i + 1) r p h
    split at h
    · exact go h
    · rcases List.mem_cons.1 h with rfl | h
      · show (S :: r)[i - i]? = _
        rw [Nat.sub_self]; rfl
      · exact go h
theorem Wd.li_at {W : Wd} (p : Nat × Md) (h : p ∈ W.li) : p.2 = W.at p.1 := by
  have := liW_at 0 W.l p h
  show p.2 = W.l.getD p.1 _
  rw [List.getD_eq_getElem?_getD, show W.l[p.1]? = some p.2 from this]
  rfl
section
variable {ops : Array Oper} {S : World → Prop} {o : Oper} {a : Act}
theorem yields_indexN (hw : Region.wanted o (yielded ops a.tmps) = true) (x y : Operand) (ho : o.op = .indexAddr 88 x y) (g of n c k : Nat) (hx : a.eval x = .slice (some ⟨g, of, none⟩) n c) (hy : a.eval y = .int .i64 k) (hk : k < n) :
    YieldsIf Tryz.prog ops S o (.pointer (some ⟨g, of + k, none⟩)) a :=
  Or.inl ⟨hw, by
    have hk2 : (k : Int) < n := by omega
    intro w _
    unfold execOp
    simp only [ho, hx, hy]
    go_simp⟩
end
theorem conv_three (w : World) {g : Nat} (hg : g = w.heap.size) {a b c : Nat} (ha : a < 256) (hb : b < 256) (hc : c < 256) : (convert 109 9 (.slice (some ⟨g, 0, none⟩) 3 3)).run Tryz.prog (w.alloc (.cells #[.int .u8 a, .int .u8 b, .int .u8 c] 5)) = .ok (.string (bs [UInt8.ofNat a, UInt8.ofNat b, UInt8.ofNat c])) (w.alloc (.cells #[.int .u8 a, .int .u8 b, .int .u8 c] 5)) := by
  subst hg
  have e : nb [UInt8.ofNat a, UInt8.ofNat b, UInt8.ofNat c] = [(a : Int), (b : Int), (c : Int)] := by
    simp only [nb, List.map_cons, List.map_nil, UInt8.toNat_ofNat', List.cons.injEq, and_true]
    omega
  rw [← str_nb]
  have := run_convert_bytes_arg (w.alloc (.cells #[.int .u8 (a : Int), .int .u8 (b : Int), .int .u8 (c : Int)] 5)) 109 5 Tryz.underlying109 Tryz.underlying5 w.heap.size 0 3 3 (nb [UInt8.ofNat a, UInt8.ofNat b, UInt8.ofNat c]) (by rw [e]; rfl) (fun i hi => by
    rw [e]
    rcases (by omega : i = 0 ∨ i = 1 ∨ i = 2) with rfl | rfl | rfl
    · exact cell_lit (heap_alloc_new w (.cells #[.int .u8 (a : Int), .int .u8 (b : Int), .int .u8 (c : Int)] 5)) 0 rfl
    · exact cell_lit (heap_alloc_new w (.cells #[.int .u8 (a : Int), .int .u8 (b : Int), .int .u8 (c : Int)] 5)) 1 rfl
    · exact cell_lit (heap_alloc_new w (.cells #[.int .u8 (a : Int), .int .u8 (b : Int), .int .u8 (c : Int)] 5)) 2 rfl) 9 Tryz.underlying9
  exact this
theorem liB_len {li : List (Nat × Md)} (h : ∀ p ∈ li, (mdB p.2).length ≤ 20300) : ∀ k, ((li.take k).flatMap itB).length ≤ k * 20303
  | 0 => by simp
  | k + 1 => by
    have ih := liB_len h k
    rw [List.take_add_one, List.flatMap_append, List.length_append]
    cases hk : li[k]? with
    | none => simp only [Option.toList_none, List.flatMap_nil, List.length_nil]; omega
    | some p =>
      have := h p (List.mem_of_getElem? hk)
      have e := itB_len p
      simp only [Option.toList_some, List.flatMap_cons, List.flatMap_nil, List.append_nil]
      omega
theorem r14Encode_any (w : World) {W : Wd} (hW : W.In) (hu : W.upto 10000) {a : Option Addr} {n c : Nat} {L : List Mq} (h : W14 w W (.slice a n c) L) :
    Calls Tryz.prog 36 #[.agg (wdC W.m (.slice a n c)).toArray] w fun e w' => e = .returned (.string (bs (wdB W))) ∧ Keeps [] w w' := by
  obtain ⟨rfl, bk, of, rfl, -, hr0⟩ := h.at hW
  have hk0 : Keeps [] w (w.alloc (.cells #[.int .u8 W.m, .slice (some ⟨bk, of, none⟩) 8 c] 39)) := (Keeps.refl _ _).alloc _
  have h0 := heap_alloc_new w (.cells #[.int .u8 W.m, .slice (some ⟨bk, of, none⟩) 8 c] 39)
  have HOB := Lib.hid (fun w' (hk : Keeps [] w w') => r14Objects_any w' hW hu (h.new hk))
  have HG := Lib.hid (fun p (hp : p ∈ W.li) => by
    obtain ⟨y, hy, hyS, hyD⟩ := h.get hW (Wd.li_mem hW p hp).1
    exact (⟨y, hyS.trans (Wd.li_at p hp).symm, hyD, hr0 _ y hy⟩ : ∃ y : Mq, y.S = p.2 ∧ D13 w y.S y.q y.p ∧ w.rangeAt bk (of + p.1 * 5) (mqC y)))
  have HP := Lib.hid (fun p (hp : p ∈ W.li) => (⟨(Wd.li_mem hW p hp).1, (Wd.li_mem hW p hp).2.2.1, hu _ (liW_mem _ _ _ p hp).2.2.1⟩ : p.1 < 8 ∧ p.2.In ∧ p.2.len ≤ 10000))
  have HBL := Lib.hid (liB_len (li := W.li) (fun p hp => by have := mdB_short (Wd.li_mem hW p hp).2.2.1 (hu _ (liW_mem _ _ _ p hp).2.2.1); omega))
  have HL8 := Lib.hid (show W.li.length ≤ 8 from by have := liW_len W.m 0 W.l; rw [hW.n] at this; exact this)
  obtain ⟨R, hR⟩ : ∃ R, R = w.heap.size := ⟨_, rfl⟩
  rw [← hR] at h0
  have HRE := Lib.hid hR; have HK0 := Lib.hid hk0; have H0 := Lib.hid h0
  unfold wdB
  generalize W.li = li at *
  generalize W.m = m at *
  clear hR hk0 h0 h hW hu hr0
  have c0 := (cell_lit H0.out 0 rfl : World.cell? _ _ = some (Value.int .u8 m))
  have c1 := (cell_lit H0.out 1 rfl : World.cell? _ _ = some (Value.slice (some ⟨bk, of, none⟩) 8 c))
  unfold wdC
  go_enter Tryz.func36, Tryz.ntmps36
  go_wp2_with fail
  rw [← HRE.out]
  refine (HOB.out _ HK0.out).mono ?_; rintro e w2 ⟨v, rfl, hv, hk2⟩
  have H02 := Lib.hid (hk2.heap H0.out (by simp)); have HK2 := Lib.hid (HK0.out.trans hk2 (FSub.refl _ _))
  obtain ⟨av, cv, rfl, hcv, hmv⟩ := hv.shape
  have HV := Lib.hid hv
  clear hk2 hv H0 HK0 c0 c1 HOB
  rw [List.length_map] at *
  go_wp2_with fail
  go_loopw [3, 5] (fun s i wr => ∃ k : Nat, i = .int .i64 k ∧ k ≤ li.length ∧ s = .string (bs ((li.take k).flatMap itB)) ∧ wr.heap[R]? = some (.cells #[.int .u8 m, .slice (some ⟨bk, of, none⟩) 8 c] 39 (0, 0)) ∧ Keeps [] w2 wr) (fun _ i _ => li.length - (intOf i).toNat)
  case atStart => exact ⟨0, rfl, by omega, rfl, H02.out, Keeps.refl _ _⟩
  case round =>
    obtain ⟨k, rfl, hk, rfl, hb0, hkw⟩ := hrel
    by_cases hlt : k < li.length
    · obtain ⟨y, hyS, hyD, hry⟩ := HG.out li[k] (List.getElem_mem hlt)
      obtain ⟨p8, pI, pl⟩ := HP.out li[k] (List.getElem_mem hlt)
      have hv := HV.out
      obtain ⟨gv, oc, e, -, -, -, hgv, hrv⟩ := hv.at (fun e => by have := congrArg List.length e; rw [List.length_map, List.length_nil] at this; omega)
      simp only [Value.slice.injEq, List.length_map, true_and] at e
      obtain ⟨rfl, rfl⟩ := e
      have hcv0 : w2.cell? ⟨gv, k, none⟩ = some (.int .i64 (li[k].1 : Int)) := by
        have h1 := hrv k (by rw [List.length_map]; exact hlt) 0 (.int .i64 (li[k].1 : Int)) (by rw [List.getElem_map]; rfl)
        rw [show k * rkN.s + 0 = k from by show k * 1 + 0 = k; omega] at h1
        exact h1
      have hnx : (li.take (k + 1)).flatMap itB = (li.take k).flatMap itB ++ itB li[k] := by
        rw [List.take_add_one, List.getElem?_eq_getElem hlt, Option.toList_some, List.flatMap_append]; simp
      have HNX := Lib.hid hnx
      have HBK := Lib.hid (show ((li.take k).flatMap itB).length ≤ 170000 from by have := HBL.out k; have := HL8.out; omega)
      have HKW := Lib.hid hkw; have HB0 := Lib.hid hb0
      have HKA := Lib.hid (HK2.out.trans hkw (FSub.refl _ _))
      have HRY := Lib.hid hry; have HYD := Lib.hid hyD; have HOK := Lib.hid hyD.ok
      have HYI := Lib.hid (hyS ▸ pI : y.S.In); have HYL := Lib.hid (hyS ▸ pl : y.S.len ≤ 10000); have HYS := Lib.hid hyS
      have c1 := (cell_lit hb0 1 rfl : World.cell? _ _ = some (Value.slice (some ⟨bk, of, none⟩) 8 c))
      have cN := hkw.cell hcv0 (by simp)
      have HV0 := Lib.hid hcv0
      clear hv hcv0 hnx hkw hb0 hry hyD pI pl hyS hrv hgv
      generalize li[k] = p at *
      generalize (li.take k).flatMap itB = B at *
      have HP8 := Lib.hid p8
      obtain ⟨S0, hS0⟩ : ∃ S0 : World → Prop, S0 = fun y => Keeps [] wr y := ⟨_, rfl⟩
      have HSE := Lib.hid hS0
      have hSD : S0 wr.drew := by rw [hS0]; exact (Keeps.refl _ _).drew
      have HSA := Lib.hid (fun (w' : World) (hh : S0 w') => show w'.rangeAt bk (of + p.1 * 5) (mqC y) from by rw [hS0] at hh; exact fun j v hv => (HKA.out.trans hh (FSub.refl _ _)).cell (HRY.out j v hv) (by simp))
      have HC1 := Lib.hid (fun (w' : World) (hh : S0 w') => show w'.cell? ⟨R, 1, none⟩ = some (.slice (some ⟨bk, of, none⟩) 8 c) from by rw [hS0] at hh; exact hh.cell c1 (by simp))
      have HCN := Lib.hid (fun (w' : World) (hh : S0 w') => show w'.cell? ⟨gv, k, none⟩ = some (.int .i64 (p.1 : Int)) from by rw [hS0] at hh; exact hh.cell cN (by simp))
      clear hS0 c1 cN
      have HEN := Lib.hid (fun w' (h : Keeps [] wr w') => r13Encode_any w' HYI.out HYL.out (HYD.out.new (HKA.out.trans h (FSub.refl _ _))))
      have HY := Lib.hid ((Keeps.refl [] wr).drew)
      go_wp2_with fail
      refine wp_region_noPanic ?_
      refine wp_region_held_drew (S := S0) (by kernel_rfl) hSD (fun hHeld => ?_)
      refine tw 0 (h := ?_)
      refine tk 1 (y := by exact Or.inl ⟨by rfl, by intro w hSw; have q0 := HC1.out w hSw; go_simp; try with_reducible rfl⟩) (h := ?_)
      refine tw 2 (h := ?_)
      refine tw 3 (h := ?_)
      refine tk 4 (y := by exact yields_indexN rfl _ _ rfl gv 0 li.length cv k rfl rfl hlt) (h := ?_)
      refine tk 5 (y := by exact Or.inl ⟨by rfl, by intro w hSw; have q0 := HCN.out w hSw; go_simp; try with_reducible rfl⟩) (h := ?_)
      refine tk 6 (y := by exact yields_indexW rfl _ _ rfl bk of 8 c p.1 rfl rfl HP8.out) (h := ?_)
      refine tk 7 (y := by exact skD.yields HOK.out rfl _ rfl bk (of + p.1 * 5) rfl HSA.out) (h := ?_)
      refine rp 8 (h := fun K hK => ?_)
      refine wp_call9 38 _ _ rfl [.agg (mdC y.S y.q y.p).toArray] rfl Tryz.func38 (by kernel_rfl) (by kernel_rfl) ((HEN.out _ HY.out).mono ?_)
      rintro e y1 ⟨rfl, hk1⟩
      refine ⟨_, rfl, ?_⟩
      replace HY := Lib.hid (HY.out.trans hk1 (FSub.refl _ _))
      clear hk1
      refine hK.out _ _ (by rw [HSE.out]; exact HY.out) (fun hHeld => ?_); clear hK K; try simp only [Act.put, lsA, lsZ, lsS]
      refine tw 9 (h := ?_)
      refine wpAnyH_done (by kernel_rfl) ?_ _
      refine NoPanic.normal ?_
      have d0 := HCN.out y1 hHeld
      clear hHeld hSD HSE HSA HC1 HCN HEN
      go_wp2_with fail
      have hb := mdB_short HYI.out HYL.out
      have e1 : ((bs (mdB y.S)).size : Int) = ((mdB y.S).length : Int) := by simp [bs, ByteArray.size]
      have e2 : wrap64 (((mdB y.S).length : Int) / 256) % 256 = (((mdB y.S).length / 256 : Nat) : Int) := by unfold wrap64; omega
      have e3 : ((mdB y.S).length : Int) % 256 = (((mdB y.S).length % 256 : Nat) : Int) := by omega
      rw [e1, e2, e3, conv_three y1 rfl (by omega) (by omega) (by omega)]
      have HY2 := Lib.hid (HY.out.alloc (.cells #[.int .u8 (p.1 : Int), .int .u8 (((mdB y.S).length / 256 : Nat) : Int), .int .u8 (((mdB y.S).length % 256 : Nat) : Int)] 5))
      clear d0 e1 e2 e3
      have q1 : ¬ 9223372036854775807 < (bs B).size + (bs [UInt8.ofNat p.1, UInt8.ofNat ((mdB y.S).length / 256), UInt8.ofNat ((mdB y.S).length % 256)]).size := by
        rw [bs_size, bs_size]; have := HBK.out; simp only [List.length_cons, List.length_nil]; omega
      have q2 : ¬ 9223372036854775807 < (bs B).size + (bs [UInt8.ofNat p.1, UInt8.ofNat ((mdB y.S).length / 256), UInt8.ofNat ((mdB y.S).length % 256)]).size + (bs (mdB y.S)).size := by
        rw [bs_size, bs_size, bs_size]; have := HBK.out; simp only [List.length_cons, List.length_nil]; omega
      clear hb
      go_wp2_with fail
      go_roundw
      case rel => exact ⟨k + 1, by go_num, by omega, by rw [HNX.out, itB, ← HYS.out, bs_cat, bs_cat, List.append_assoc]; rfl, HY2.out.heap HB0.out (by simp), HKW.out.trans HY2.out (FSub.refl _ _)⟩
      case measure => simp [intOf]; omega
    · obtain rfl : k = li.length := by omega
      rw [List.take_length]
      have HK := Lib.hid (HK2.out.trans hkw (FSub.refl _ _))
      clear hb0 hkw
      go_wp2_with fail
      go_ret
      exact ⟨rfl, HK.out⟩
end Go.Proofs.YtbnhcggjcdipeaaGreatDoor
