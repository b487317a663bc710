/-
  The program's queue: New, Idle, Same, Values, Of; a slice cut by three indices.
-/
import Derived.Lib.SliceRun
import Derived.Test.YtbnhcggjcdipeaaGreatDoorWA14
import Derived.Test.YtbnhcggjcdipeaaGreatDoorWA08
set_option linter.unusedSimpArgs false
set_option linter.unusedVariables false
namespace Go.Proofs.YtbnhcggjcdipeaaGreatDoor
open Go.RowKit
set_option maxHeartbeats 4000000
set_option maxRecDepth 100000
theorem quNew_any (w : World) : Calls Tryz.prog 99 #[] w fun e w' => e = .returned (.agg #[.slice none 0 0]) ∧ Keeps [] w w' := by
  have h := heap_alloc_new w (.cells #[.slice none 0 0] 184)
  have HN := Lib.hid h
  clear h
  go_enter Tryz.func99, Tryz.ntmps99
  go_wp2_with fail
  try simp only [Exit.inBlock, Exit.then]
  exact bodyPost_ret (results_cell_row (P := Tryz.prog) rfl _ _ _ _ _ _ _ rfl HN.out Tryz.underlying184 rfl (by kernel_rfl)) rfl ⟨rfl, (Keeps.refl _ _).alloc _⟩
theorem quIdle_any (w : World) (f : Int) : Calls Tryz.prog 108 #[.int .u8 f] w fun e w' => e = .returned (.bool false) ∧ Keeps [] w w' := by
  go_enter Tryz.func108, Tryz.ntmps108
  go_wp2_with fail
  go_ret
  exact ⟨rfl, Keeps.refl _ _⟩
theorem slice_cut (w : World) (a : Option Addr) {n c : Nat} (h : n ≤ c) :
    (Instr.sliceAt 78 (.slice a n c) none (some (.int .i64 n)) (some (.int .i64 n))).run Tryz.prog w = .ok (.slice a n n) w := by
  have h2 : (n : Int) ≤ c := by omega
  cases a <;> simp [go_sem, run_underlying Tryz.underlying78, h2]
theorem eql_u16 (w : World) (a : Option Addr) (n c : Nat) : (binOp .eql 78 (.slice a n c) (.slice none 0 0)).run Tryz.prog w = .ok (.bool a.isNone) w := Lib.run_eql_slice_nil w _ _ a n c 0 0 Tryz.underlying78
theorem clone16_any (w : World) {v : Value} {l : List Int} (h : QIn w v l) (hn : l.length ≤ 1000000) :
    Calls Tryz.prog 182 #[v] w fun e w' => ∃ v', e = .returned v' ∧ rkU.Own w.heap.size w' v' l ∧ Keeps [] w w' := by
  obtain ⟨a, cap, rfl, hc, hm⟩ := h.shape
  by_cases hL : l = []
  · subst hL
    have e := h.2 rfl
    simp only [Value.slice.injEq, List.length_nil, true_and] at e
    obtain ⟨rfl, rfl⟩ := e
    clear h
    have heq := fun w => eql_u16 w none 0 0
    simp only [List.length_nil]
    go_enter Tryz.func182, Tryz.ntmps182
    go_wp2_with fail
    go_ret
    exact ⟨_, rfl, RK.Own.nil rkU _ _, Keeps.refl _ _⟩
  · obtain ⟨ad, rfl⟩ : ∃ ad, a = some ad := by
      obtain ⟨_, _, e, _, _, hI⟩ := h.1
      obtain ⟨bk, o, e2, _⟩ := hI hL
      simp only [Value.slice.injEq] at e
      obtain ⟨rfl, -, -⟩ := e
      exact ⟨_, e2⟩
    have heq := fun w => eql_u16 w (some ad) l.length cap
    have hka : Keeps [] w (w.alloc (.cells #[] 23)) := (Keeps.refl [] w).alloc (.cells #[] 23)
    have ho : rkU.Own w.heap.size (w.alloc (.cells #[] 23)) (.slice (some ⟨w.heap.size, 0, none⟩) 0 0) [] := ⟨by simp [RK.row], .inr ⟨w.heap.size, 0, #[], rfl, Nat.le_refl _, heap_alloc_new w _, Nat.le_refl _, by decide, by simp, by simp [RK.row]⟩⟩
    obtain ⟨v', w', hrun, hown, hk, -⟩ := rkU.appendIn (w.alloc (.cells #[] 23)) w.heap.size hka.size _ [] ho (h.1.new hka (Nat.le_refl _)) (by simp; omega)
    have HR := Lib.hid (show (Builtin.append_ #[78, 78] 78 #[.slice (some ⟨w.heap.size, 0, none⟩) 0 0, .slice (some ad) l.length cap]).run Tryz.prog (w.alloc (.cells #[] 23)) = .ok v' w' from hrun)
    have HO := Lib.hid hown
    have HK := Lib.hid (show Keeps [] w w' from hka.trans hk (fun q hq => .inr (by simp [own, Value.ownBlock] at hq; omega)))
    clear h hL hka ho hrun hown hk
    go_enter Tryz.func182, Tryz.ntmps182
    go_wp2_with ((with_reducible refine wpList_app (.slice (some ⟨w.heap.size, 0, none⟩) 0 0) (.slice (some ad) l.length cap) ?_ ?_ HR.out ?_); exact rfl; exact rfl)
    go_ret
    exact ⟨_, rfl, HO.out, HK.out⟩
theorem quValues_any (w : World) {v : Value} {l : List Int} (h : QIn w v l) (hn : l.length ≤ 1000000) :
    Calls Tryz.prog 150 #[.agg #[v]] w fun e w' => ∃ v', e = .returned v' ∧ rkU.Own w.heap.size w' v' l ∧ Keeps [] w w' := by
  have hk : Keeps [] w (w.alloc (.cells #[v] 184)) := (Keeps.refl _ _).alloc _
  have HC := Lib.hid (clone16_any _ (h.keeps hk (by simp)) hn)
  have HK := Lib.hid hk
  have hsz : (w.alloc (.cells #[v] 184)).heap.size = w.heap.size + 1 := Array.size_push _
  have HSZ := Lib.hid hsz
  obtain ⟨a, cap, rfl, hc, hm⟩ := h.shape
  clear h hk hsz
  go_enter Tryz.func150, Tryz.ntmps150
  go_wp2_with fail
  refine HC.out.mono ?_; rintro e w1 ⟨v', rfl, ho, hk1⟩
  have HO := Lib.hid (row_up ho (fun q hq => by have := (row_base ho q hq).1; have := HSZ.out; omega : ∀ q ∈ own v', w.heap.size ≤ q))
  have HK1 := Lib.hid (HK.out.trans hk1 (FSub.refl _ _))
  obtain ⟨a1, c1, rfl, -, -⟩ := ho.shape
  clear ho hk1
  go_wp2_with fail
  go_ret
  exact ⟨_, rfl, HO.out, HK1.out⟩
section
variable {ops : Array Oper} {rest : List Oper} {a : Act} {w : World} {Q : Exit → Act → World → Prop}
theorem wpList_putQ {dst : Option Tmp} {ty : TypeId} {pos : String} {after : Array Edge} {x y : Operand} {g : Nat} {old z : Value} {t : TypeId}
    (hx : a.eval x = .pointer (some ⟨g, 0, none⟩)) (hy : a.eval y = .agg #[z]) (hg : w.heap[g]? = some (.cells #[old] t (0, 0))) (h1 : z.oneCell' = true)
    (h : ∀ W, W.heap[g]? = some (.cells #[z] t (0, 0)) → Keeps [g] w W → wpList Tryz.prog ops Q rest (a.put dst undef) W) :
    wpList Tryz.prog ops Q ({ dst := dst, op := .store 184 x y, type := ty, pos := pos, after := after, guard := none } :: rest) a w :=
  wpList_store_row rfl 184 x y rfl g #[z] hx hy t #[old] hg (by kernel_rfl) rfl (by simp [h1]) (h _ (setRow_heap w g #[old] #[z] t (0, 0) hg) ((Keeps.refl [g] w).setRow g _ (.inl (by simp))))
end
theorem slice_one (a : Option Addr) (n c : Nat) : (Value.slice a n c).oneCell' = true := rfl
theorem quCut_any (w : World) {v : Value} {l : List Int} (h : QIn w v l) (base : Nat) :
    Calls Tryz.prog 147 #[.agg #[v]] w fun e w' => ∃ v', e = .returned (.agg #[v']) ∧ QF base w' v' l ∧ Keeps [] w w' ∧ own v' = own v := by
  obtain ⟨a, c, rfl, hc, hm⟩ := h.shape
  have hcut : QF base w (.slice a l.length l.length) l := by
    refine ⟨⟨?_, fun e => ?_⟩, a, l.length, rfl, .inl rfl⟩
    · obtain ⟨a2, c2, e, hc2, hm2, hI⟩ := h.1
      simp only [Value.slice.injEq, true_and] at e
      obtain ⟨rfl, rfl⟩ := e
      exact ⟨a, l.length, rfl, Nat.le_refl _, by omega, hI⟩
    · have e2 := h.2 e
      simp only [Value.slice.injEq] at e2
      obtain ⟨rfl, -, -⟩ := e2
      subst e
      rfl
  have hsl := fun w => slice_cut w a hc
  have hk : Keeps [] w ((w.alloc (.cells #[.slice a l.length c] 184)).alloc (.cells #[.slice a l.length l.length] 184)) := ((Keeps.refl _ _).alloc _).alloc _
  have hn := heap_alloc_new (w.alloc (.cells #[.slice a l.length c] 184)) (.cells #[.slice a l.length l.length] 184)
  have hsz : (w.alloc (.cells #[.slice a l.length c] 184)).heap.size = w.heap.size + 1 := Array.size_push _
  rw [hsz] at hn
  have HN := Lib.hid hn; have HQ := Lib.hid (hcut.keeps hk (by simp)); have HK := Lib.hid hk
  clear h hcut hk hn hsz
  go_enter Tryz.func147, Tryz.ntmps147
  go_wp2_with fail
  try simp only [Exit.inBlock, Exit.then]
  exact bodyPost_ret (results_cell_row (P := Tryz.prog) rfl _ _ _ _ _ _ _ rfl HN.out Tryz.underlying184 rfl (by kernel_rfl)) rfl ⟨_, rfl, HQ.out, HK.out, by cases a <;> rfl⟩
end Go.Proofs.YtbnhcggjcdipeaaGreatDoor
/-
  The program's queue: the steps of Enq and Deq, and the table of both.
-/
namespace Go.Proofs.YtbnhcggjcdipeaaGreatDoor
open Go.RowKit
theorem results_st2 {fn : Func} {p u : Tmp} (h : fn.results = #[.cell p 184, .cell u 25]) (tmps : Array Value) (w : World) (b c : Nat) {z : Value} (y : Ans) {t t2 : TypeId}
    (hp : tmps.getD p undef = .pointer (some ⟨b, 0, none⟩)) (hb : w.heap[b]? = some (.cells #[z] t (0, 0))) (hu : tmps.getD u undef = .pointer (some ⟨c, 0, none⟩)) (hc : w.heap[c]? = some (.cells (ansC y).toArray t2 (0, 0))) :
    (results fn tmps).run Tryz.prog w = .ok (.tuple #[.agg #[z], .agg (ansC y).toArray]) w := by
  have h1 : (loadVar 184 ⟨b, 0, none⟩).run Tryz.prog w = .ok (.agg #[z]) w := run_loadVar_row w b t 184 _ _ _ hb Tryz.underlying184 rfl (by kernel_rfl)
  have h2 : (loadVar 25 ⟨c, 0, none⟩).run Tryz.prog w = .ok (.agg (ansC y).toArray) w := run_loadVar_row w c t2 25 _ _ _ hc Tryz.underlying25 rfl (by kernel_rfl)
  have hp' : tmps[p]?.getD undef = .pointer (some ⟨b, 0, none⟩) := by simpa using hp
  have hu' : tmps[u]?.getD undef = .pointer (some ⟨c, 0, none⟩) := by simpa using hu
  simp only [results, h]
  simp [Sem.run_bind, Result.andThen, hp', hu', asAddr, h1, h2]
theorem results_st3 {fn : Func} {p u x : Tmp} (h : fn.results = #[.cell p 184, .cell u 25, .tmp x]) (tmps : Array Value) (w : World) (b c : Nat) {z : Value} (y : Ans) {t t2 : TypeId}
    (hp : tmps.getD p undef = .pointer (some ⟨b, 0, none⟩)) (hb : w.heap[b]? = some (.cells #[z] t (0, 0))) (hu : tmps.getD u undef = .pointer (some ⟨c, 0, none⟩)) (hc : w.heap[c]? = some (.cells (ansC y).toArray t2 (0, 0))) :
    (results fn tmps).run Tryz.prog w = .ok (.tuple #[.agg #[z], .agg (ansC y).toArray, tmps.getD x undef]) w := by
  have h1 : (loadVar 184 ⟨b, 0, none⟩).run Tryz.prog w = .ok (.agg #[z]) w := run_loadVar_row w b t 184 _ _ _ hb Tryz.underlying184 rfl (by kernel_rfl)
  have h2 : (loadVar 25 ⟨c, 0, none⟩).run Tryz.prog w = .ok (.agg (ansC y).toArray) w := run_loadVar_row w c t2 25 _ _ _ hc Tryz.underlying25 rfl (by kernel_rfl)
  have hp' : tmps[p]?.getD undef = .pointer (some ⟨b, 0, none⟩) := by simpa using hp
  have hu' : tmps[u]?.getD undef = .pointer (some ⟨c, 0, none⟩) := by simpa using hu
  simp only [results, h]
  simp [Sem.run_bind, Result.andThen, hp', hu', asAddr, h1, h2]
/-- The world behind a step's variables. -/
theorem vars_q (w : World) (v : Value) (A : Array Value) (W : World) (u : Value) (y : Ans) (hW : W = (((w.alloc (.cells #[v] 184)).alloc (.cells A 47)).alloc (.cells #[u] 184)).alloc (.cells (ansC y).toArray 25)) :
    Keeps [] w W ∧ W.heap[w.heap.size]? = some (.cells #[v] 184 (0, 0)) ∧ W.heap[w.heap.size + 1]? = some (.cells A 47 (0, 0)) ∧ W.heap[w.heap.size + 2]? = some (.cells #[u] 184 (0, 0)) ∧ W.heap[w.heap.size + 3]? = some (.cells (ansC y).toArray 25 (0, 0)) ∧ W.heap.size = w.heap.size + 4 := by
  have e1 : (w.alloc (.cells #[v] 184)).heap.size = w.heap.size + 1 := Array.size_push _
  have e2 : ((w.alloc (.cells #[v] 184)).alloc (.cells A 47)).heap.size = w.heap.size + 2 := by
    rw [show ((w.alloc (.cells #[v] 184)).alloc (.cells A 47)).heap.size = (w.alloc (.cells #[v] 184)).heap.size + 1 from Array.size_push _, e1]
  have e3 : (((w.alloc (.cells #[v] 184)).alloc (.cells A 47)).alloc (.cells #[u] 184)).heap.size = w.heap.size + 3 := by
    rw [show (((w.alloc (.cells #[v] 184)).alloc (.cells A 47)).alloc (.cells #[u] 184)).heap.size = ((w.alloc (.cells #[v] 184)).alloc (.cells A 47)).heap.size + 1 from Array.size_push _, e2]
  subst hW
  refine ⟨((((Keeps.refl _ _).alloc _).alloc _).alloc _).alloc _, ?_, ?_, ?_, ?_, ?_⟩
  · exact ((((Keeps.refl [] (w.alloc (.cells #[v] 184))).alloc _).alloc _).alloc _).heap (heap_alloc_new w _) (by simp)
  · have h := heap_alloc_new (w.alloc (.cells #[v] 184)) (.cells A 47)
    rw [e1] at h
    exact (((Keeps.refl [] _).alloc _).alloc _).heap h (by simp)
  · have h := heap_alloc_new ((w.alloc (.cells #[v] 184)).alloc (.cells A 47)) (.cells #[u] 184)
    rw [e2] at h
    exact ((Keeps.refl [] _).alloc _).heap h (by simp)
  · have h := heap_alloc_new (((w.alloc (.cells #[v] 184)).alloc (.cells A 47)).alloc (.cells #[u] 184)) (.cells (ansC y).toArray 25)
    rw [e3] at h
    exact h
  · rw [show ((((w.alloc (.cells #[v] 184)).alloc (.cells A 47)).alloc (.cells #[u] 184)).alloc (.cells (ansC y).toArray 25)).heap.size = (((w.alloc (.cells #[v] 184)).alloc (.cells A 47)).alloc (.cells #[u] 184)).heap.size + 1 from Array.size_push _, e3]
def stepsC : Array Value := #[.nilFunc, .nilFunc, .nilFunc, .nilFunc, fnV 197, fnV 198]
section
variable {ops : Array Oper} {rest : List Oper} {a : Act} {w : World} {Q : Exit → Act → World → Prop}
theorem wpList_putF {dst : Option Tmp} {ty : TypeId} {pos : String} {after : Array Edge} {x y : Operand} {g : Nat} {t : TypeId}
    (hx : a.eval x = .pointer (some ⟨g, 0, none⟩)) (hy : a.eval y = .agg stepsC) (hg : w.heap[g]? = some (.cells #[.nilFunc, .nilFunc, .nilFunc, .nilFunc, .nilFunc, .nilFunc] t (0, 0)))
    (h : ∀ W, W.heap[g]? = some (.cells stepsC t (0, 0)) → Keeps [g] w W → wpList Tryz.prog ops Q rest (a.put dst undef) W) :
    wpList Tryz.prog ops Q ({ dst := dst, op := .store 283 x y, type := ty, pos := pos, after := after, guard := none } :: rest) a w :=
  wpList_store_row rfl 283 x y rfl g stepsC hx hy t _ hg (by kernel_rfl) rfl (by kernel_rfl) (h _ (setRow_heap w g _ stepsC t (0, 0) hg) ((Keeps.refl [g] w).setRow g _ (.inl (by simp))))
end
set_option maxHeartbeats 8000000
set_option maxRecDepth 100000
theorem quSteps_any (w : World) : Calls Tryz.prog 181 #[] w fun e w' => e = .returned (.agg stepsC) ∧ Keeps [] w w' := by
  have h := heap_alloc_new w (.cells #[.nilFunc, .nilFunc, .nilFunc, .nilFunc, .nilFunc, .nilFunc] 283)
  have HN := Lib.hid h
  have HK := Lib.hid (show Keeps [] w (w.alloc (.cells #[.nilFunc, .nilFunc, .nilFunc, .nilFunc, .nilFunc, .nilFunc] 283)) from (Keeps.refl _ _).alloc _)
  clear h
  go_enter Tryz.func181, Tryz.ntmps181
  go_wp2_with ((with_reducible refine wpList_putF (g := w.heap.size) ?_ ?_ HN.out ?_); exact rfl; exact rfl)
  intro W hW hk
  have HW := Lib.hid hW; have HKW := Lib.hid hk
  clear hW hk
  go_wp2_with fail
  try simp only [Exit.inBlock, Exit.then]
  exact bodyPost_ret (results_cell_row (P := Tryz.prog) rfl _ _ _ _ _ _ _ rfl HW.out Tryz.underlying283 rfl (by kernel_rfl)) rfl ⟨rfl, HK.out.trans HKW.out (fun q hq => .inr (by simp at hq; omega))⟩
/-- What a step of Enq or Deq tells. -/
def StPost (base : Nat) (w : World) (v : Value) (l' : List Int) (r : Ans) (e : Ending) (w' : World) : Prop :=
  ∃ v', e = .returned (.tuple #[.agg #[v'], .agg (ansC r).toArray]) ∧ QF base w' v' l' ∧ Keeps (frees base v) w w' ∧ FSub (own v') (own v) w.heap.size
theorem quEnq_any (w : World) {base : Nat} (hb : base ≤ w.heap.size) {v : Value} {l : List Int} (h : QF base w v l) (hl : l.length ≤ 1000000) (x : Opn) :
    Calls Tryz.prog 197 #[.agg #[v], x.val] w (StPost base w v (l ++ [x.a]) ⟨0, 0⟩) := by
  obtain ⟨a, c, hv, -⟩ := h.free
  obtain ⟨W, hW⟩ : ∃ W, W = (((w.alloc (.cells #[v] 184)).alloc (.cells #[.int .u8 x.f, .int .u8 x.o, .int .u8 x.k, .int .u16 x.a, .int .u16 x.b] 47)).alloc (.cells #[.slice none 0 0] 184)).alloc (.cells (ansC ⟨0, 0⟩).toArray 25) := ⟨_, rfl⟩
  obtain ⟨hk, -, -, h2, h3, hz⟩ := vars_q w v _ W _ _ hW
  obtain ⟨v', w', hr, hq, hk', hs⟩ := QF.push (w := W.alloc (.cells #[.int .u16 x.a] 23)) (base := base) (by have := hk.size; have := ((Keeps.refl [] W).alloc (.cells #[.int .u16 x.a] 23)).size; omega) ((h.keeps hk (by simp)).keeps ((Keeps.refl [] W).alloc _) (by simp)) x.a W.heap.size (cell_lit (heap_alloc_new W _) 0 rfl) (by omega)
  rw [hz] at hr
  have hk1 := ((Keeps.refl [] W).alloc (.cells #[.int .u16 x.a] 23))
  have hlo : ∀ q ∈ frees base v, q < w.heap.size := fun q hq => h.in_.old q (mem_frees.1 hq).1
  have H2 := Lib.hid (hk'.heap (hk1.heap h2 (by simp)) (fun hq => by have := hlo _ hq; omega))
  have H3 := Lib.hid (hk'.heap (hk1.heap h3 (by simp)) (fun hq => by have := hlo _ hq; omega))
  obtain ⟨a2, c2, hv2, -⟩ := hq.free
  subst hv2
  have HR := Lib.hid hr; have HQ := Lib.hid hq
  have hown : ∀ q ∈ own (.slice a2 (l ++ [x.a]).length c2), q < w.heap.size ∨ w.heap.size + 4 ≤ q := fun q hq => by
    rcases hs q hq with h1 | h1
    · exact .inl (h.in_.old q h1)
    · have := hk1.size; exact .inr (by omega)
  have HOWN := Lib.hid hown
  have HK := Lib.hid (show Keeps (frees base v) w w' from ((hk.trans hk1 (FSub.refl _ _)).more (by simp)).trans hk' (FSub.refl _ _))
  have HS := Lib.hid (show FSub (own (.slice a2 (l ++ [x.a]).length c2)) (own v) w.heap.size from hs.mono (by have := hk.size; have := hk1.size; omega))
  subst hv
  subst hW
  generalize (l ++ [x.a]).length = n2 at *
  clear h hk h2 h3 hz hr hq hk' hs hk1 hlo hown hb
  unfold Opn.val
  go_enter Tryz.func197, Tryz.ntmps197
  go_wp2_with (first
    | ((with_reducible refine wpList_app (.slice a l.length c) _ ?_ ?_ HR.out ?_); exact rfl; exact rfl)
    | ((with_reducible refine wpList_putQ (g := w.heap.size + 2) (old := .slice none 0 0) (z := .slice a2 n2 c2) ?_ ?_ H2.out (slice_one _ _ _) ?_); exact rfl; exact rfl))
  intro W2 hW2 hk2
  have HW2 := Lib.hid hW2
  have HA2 := Lib.hid (hk2.heap H3.out (by simp))
  have HK2 := Lib.hid hk2
  clear hW2 hk2
  go_wp2_with ((with_reducible refine wpList_putN (g := w.heap.size + 3) (old := ⟨0, 0⟩) ⟨0, 0⟩ ?_ ?_ HA2.out ?_); exact rfl; exact rfl)
  intro W3 hW3 hk3
  have HW3 := Lib.hid hW3
  have HS3 := Lib.hid (hk3.heap HW2.out (by simp))
  have HK3 := Lib.hid hk3
  clear hW3 hk3
  go_wp2_with fail
  try simp only [Exit.inBlock, Exit.then]
  refine bodyPost_ret (results_st2 rfl _ _ (w.heap.size + 2) (w.heap.size + 3) ⟨0, 0⟩ rfl HS3.out rfl HW3.out) rfl ⟨_, rfl, (HQ.out.keeps HK2.out (fun q hq => ?_)).keeps HK3.out (fun q hq => ?_), (HK.out.trans HK2.out (fun q hq => .inr (by simp at hq; omega))).trans HK3.out (fun q hq => .inr (by simp at hq; omega)), HS.out⟩
  · have := HOWN.out q hq; simp; omega
  · have := HOWN.out q hq; simp; omega
end Go.Proofs.YtbnhcggjcdipeaaGreatDoor
