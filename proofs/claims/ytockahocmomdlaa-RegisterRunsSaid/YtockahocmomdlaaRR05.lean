/-
  The document's register: a step.
-/
import Derived.Test.YtockahocmomdlaaRR02
import Derived.Test.YtockahocmomdlaaRR04
set_option linter.unusedSimpArgs false
set_option linter.unusedVariables false
namespace Go.Proofs.Ytockahocmomdlaa
open Go.RowKit
theorem opC_len (x : Opn) : (opC x).length = 5 := rfl
theorem opC_one (x : Opn) : ∀ v ∈ opC x, v.oneCell' = true := by
  intro v hv
  simp only [opC, List.mem_cons, List.not_mem_nil, or_false] at hv
  rcases hv with rfl | rfl | rfl | rfl | rfl <;> rfl
theorem ansC_len (x : Ans) : (ansC x).length = 2 := rfl
theorem ansC_one (x : Ans) : ∀ v ∈ ansC x, v.oneCell' = true := by
  intro v hv
  simp only [ansC, List.mem_cons, List.not_mem_nil, or_false] at hv
  rcases hv with rfl | rfl <;> rfl
theorem Try.infoOpR : (Try.prog.info? 24).map (fun i => (i.zero, i.size, i.bytes)) = some (some (.agg (opC ⟨0, 0, 0, 0, 0⟩).toArray), 5, 8) := by kernel_rfl
theorem Try.infoAnsR : (Try.prog.info? 27).map (fun i => (i.zero, i.size, i.bytes)) = some (some (.agg (ansC ⟨0, 0⟩).toArray), 2, 4) := by kernel_rfl
/-- Operations, side by side. -/
noncomputable def rkO : RK Opn :=
  { T := 24, Sl := 36, s := 5, b := 8, cs := opC, i := (info_parts Try.infoOpR).choose, z := .agg (opC ⟨0, 0, 0, 0, 0⟩).toArray,
    len := opC_len, one := opC_one, s0 := by decide, b1 := by decide, und := Try.underlying36,
    hi := (info_parts Try.infoOpR).choose_spec.1, hz := (info_parts Try.infoOpR).choose_spec.2.1, hs := (info_parts Try.infoOpR).choose_spec.2.2.1, hb := (info_parts Try.infoOpR).choose_spec.2.2.2, hzs := rfl }
/-- Answers, side by side. -/
noncomputable def rkA : RK Ans :=
  { T := 27, Sl := 37, s := 2, b := 4, cs := ansC, i := (info_parts Try.infoAnsR).choose, z := .agg (ansC ⟨0, 0⟩).toArray,
    len := ansC_len, one := ansC_one, s0 := by decide, b1 := by decide, und := Try.underlying37,
    hi := (info_parts Try.infoAnsR).choose_spec.1, hz := (info_parts Try.infoAnsR).choose_spec.2.1, hs := (info_parts Try.infoAnsR).choose_spec.2.2.1, hb := (info_parts Try.infoAnsR).choose_spec.2.2.2, hzs := rfl }
theorem results_tct {fn : Func} {c p u : Tmp} {ty : TypeId} (h : fn.results = #[.tmp c, .cell p ty, .tmp u]) (tmps : Array Value) (P : Program) (w : World) :
    (results fn tmps).run P w =
      ((asAddr (tmps.getD p undef)).run P w).andThen fun a w₁ => ((loadVar ty a).run P w₁).andThen fun v w₂ => .ok (.tuple #[tmps.getD c undef, v, tmps.getD u undef]) w₂ := by
  simp only [results, h]
  simp [Sem.run_bind, Result.andThen]
/-- A number, an answer that stands in a block, a number are handed back. -/
theorem results_ans {fn : Func} {c p u : Tmp} (h : fn.results = #[.tmp c, .cell p 27, .tmp u]) (tmps : Array Value) (w : World) (b : Nat) (y : Ans) {t : TypeId}
    (hp : tmps.getD p undef = .pointer (some ⟨b, 0, none⟩)) (hb : w.heap[b]? = some (.cells (ansC y).toArray t (0, 0))) : (results fn tmps).run Try.prog w = .ok (.tuple #[tmps.getD c undef, .agg (ansC y).toArray, tmps.getD u undef]) w := by
  have h1 : (loadVar 27 ⟨b, 0, none⟩).run Try.prog w = .ok (.agg (ansC y).toArray) w := run_loadVar_row w b t 27 _ _ _ hb Try.underlying27 rfl (by kernel_rfl)
  rw [results_tct h, hp]
  simp [asAddr, h1, Result.andThen]
set_option maxHeartbeats 8000000
set_option maxRecDepth 100000
theorem r9Step_any (w : World) (s : Int) (x : Opn) : Calls Try.prog 9 #[.int .u16 s, x.val] w fun e w' => e = .returned (.tuple #[.int .u16 (rgX s x).1, .agg (ansC (rgX s x).2.1).toArray, .int .i64 (rgX s x).2.2]) ∧ Keeps [] w w' := by
  have hk := (Keeps.refl [] w).alloc (.cells (opC x).toArray 24)
  have hk2 : ∀ y : Ans, Keeps [] w ((w.alloc (.cells (opC x).toArray 24)).alloc (.cells (ansC y).toArray 27)) := fun y => hk.alloc _
  have hnew : ∀ y : Ans, ((w.alloc (.cells (opC x).toArray 24)).alloc (.cells (ansC y).toArray 27)).heap[w.heap.size + 1]? = some (.cells (ansC y).toArray 27 (0, 0)) := fun y => by
    have := heap_alloc_new (w.alloc (.cells (opC x).toArray 24)) (.cells (ansC y).toArray 27)
    rwa [show (w.alloc (.cells (opC x).toArray 24)).heap.size = w.heap.size + 1 from Array.size_push _] at this
  have HK2 := Lib.hid hk2; have HN := Lib.hid hnew
  clear hk hk2 hnew
  unfold Opn.val
  obtain ⟨f, o, k, a, b⟩ := x
  by_cases h1 : f = 1
  · subst h1
    go_enter Try.func9, Try.ntmps9
    go_wp2_with fail
    try simp only [Exit.inBlock, Exit.then]
    exact bodyPost_ret (results_ans rfl _ _ _ ⟨1, s⟩ rfl (HN.out ⟨1, s⟩)) rfl ⟨by simp [rgX, ansC], HK2.out ⟨1, s⟩⟩
  · by_cases h2 : f = 2
    · subst h2
      go_enter Try.func9, Try.ntmps9
      go_wp2_with fail
      try simp only [Exit.inBlock, Exit.then]
      exact bodyPost_ret (results_ans rfl _ _ _ ⟨0, 0⟩ rfl (HN.out ⟨0, 0⟩)) rfl ⟨by simp [rgX, ansC], HK2.out ⟨0, 0⟩⟩
    · by_cases h3 : f = 3
      · subst h3
        by_cases h4 : s = a
        · subst h4
          go_enter Try.func9, Try.ntmps9
          go_wp2_with fail
          try simp only [Exit.inBlock, Exit.then]
          exact bodyPost_ret (results_ans rfl _ _ _ ⟨3, 0⟩ rfl (HN.out ⟨3, 0⟩)) rfl ⟨by simp [rgX, ansC], HK2.out ⟨3, 0⟩⟩
        · have t4 : (s == a) = false := by simpa using h4
          go_enter Try.func9, Try.ntmps9
          go_wp2_with fail
          try simp only [Exit.inBlock, Exit.then]
          exact bodyPost_ret (results_ans rfl _ _ _ ⟨4, 0⟩ rfl (HN.out ⟨4, 0⟩)) rfl ⟨by simp [rgX, ansC, h4], HK2.out ⟨4, 0⟩⟩
      · have t1 : (f == 1) = false := by simpa using h1
        have t2 : (f == 2) = false := by simpa using h2
        have t3 : (f == 3) = false := by simpa using h3
        go_enter Try.func9, Try.ntmps9
        go_wp2_with fail
        try simp only [Exit.inBlock, Exit.then]
        exact bodyPost_ret (results_ans rfl _ _ _ ⟨0, 0⟩ rfl (HN.out ⟨0, 0⟩)) rfl ⟨by simp [rgX, ansC, h1, h2, h3], HK2.out ⟨0, 0⟩⟩
end Go.Proofs.Ytockahocmomdlaa
/-
  The document's register: operations in a row.
-/
namespace Go.Proofs.Ytockahocmomdlaa
open Go.RowKit
section
variable {ops : Array Oper} {rest : List Oper} {a : Act} {w : World} {Q : Exit → Act → World → Prop}
theorem wpList_loadO {dst : Option Tmp} {ty : TypeId} {pos : String} {after : Array Edge} {gd : Option (Nat × Bool)} {x : Operand} {g off : Nat} {y : Opn}
    (hw : Region.wanted { dst := dst, op := .load 24 x, type := ty, pos := pos, after := after, guard := gd } (yielded ops a.tmps) = true)
    (hx : a.eval x = .pointer (some ⟨g, off, none⟩)) (hr : w.rangeAt g off (opC y)) (h : wpList Try.prog ops Q rest (a.put dst (.agg (opC y).toArray)) w) :
    wpList Try.prog ops Q ({ dst := dst, op := .load 24 x, type := ty, pos := pos, after := after, guard := gd } :: rest) a w :=
  rkO.wpList_load Try.underlying24 rfl rfl hw hx hr h
end
/-- Where an operation of the list stands. -/
theorem In_at {N : Nat} {w : World} {a : Option Addr} {n c : Nat} {l : List Opn} (h : rkO.In N w (.slice a n c) l) {k : Nat} (hk : k < l.length) : ∃ bk o, a = some ⟨bk, o, none⟩ ∧ bk < N ∧ w.rangeAt bk (o + k * 5) (opC l[k]) := by
  obtain ⟨_, _, e, _, _, h⟩ := h
  simp at e
  obtain ⟨rfl, -, -⟩ := e
  obtain ⟨bk, o, e, hb, hr⟩ := h (fun e => by rw [e] at hk; simp at hk)
  exact ⟨bk, o, e, hb, hr k hk⟩
theorem rg_next {s : Int} {l : List Opn} {k : Nat} (hk : k < l.length) (h : rgE s (l.take k) = 0) :
    rgE s (l.take (k + 1)) = (rgX (rgS s (l.take k)) l[k]).2.2 ∧ rgS s (l.take (k + 1)) = (rgX (rgS s (l.take k)) l[k]).1 ∧
    rgL s (l.take (k + 1)) = rgL s (l.take k) ++ (if (rgX (rgS s (l.take k)) l[k]).2.2 = 0 then [(rgX (rgS s (l.take k)) l[k]).2.1] else []) := by
  rw [List.take_add_one, List.getElem?_eq_getElem hk, Option.toList_some]
  exact ⟨rgE_app s _ _ h, rgS_app s _ _ h, rgL_app s _ _ h⟩
theorem rg_stop {s : Int} {l : List Opn} {k : Nat} (hk : k < l.length) (h : rgE s (l.take k) = 0) (he : (rgX (rgS s (l.take k)) l[k]).2.2 ≠ 0) :
    rgE s l = 10 ∧ rgS s l = rgS s (l.take k) ∧ rgL s l = rgL s (l.take k) := by
  obtain ⟨h1, h2, h3⟩ := rg_next hk h
  have hb := rgE_bad s (l.take (k + 1)) (l.drop (k + 1)) (by rw [h1]; exact he)
  rw [List.take_append_drop] at hb
  have hx := rgX_bad he
  refine ⟨?_, ?_, ?_⟩
  · rw [hb.1, h1, hx]
  · rw [hb.2.1, h2, hx]
  · rw [hb.2.2, h3, if_neg he, List.append_nil]
theorem rgL_few {s : Int} {l : List Opn} (k : Nat) : (rgL s (l.take k)).length ≤ l.length := Nat.le_trans (rgL_len s _).1 (by rw [List.length_take]; omega)
set_option maxHeartbeats 8000000
set_option maxRecDepth 100000
theorem r9Run_any (w : World) (s : Int) {v : Value} {l : List Opn} (hI : rkO.In w.heap.size w v l) (hn : l.length ≤ 100000) :
    Calls Try.prog 13 #[.int .u16 s, v] w fun e w' => ∃ v', e = .returned (.tuple #[.int .u16 (rgS s l), v', .int .i64 (rgE s l)]) ∧ rkA.Own w.heap.size w' v' (rgL s l) ∧ Keeps [] w w' := by
  obtain ⟨a, cp, rfl, hc, hm, -⟩ := id hI
  have HS := fun w x S => r9Step_any w S x
  have HIN := Lib.hid hI
  clear hI
  generalize hn2 : l.length = n at *
  have HN2 := Lib.hid hn2
  clear hn2
  obtain ⟨N, hN⟩ : ∃ N, N = w.heap.size := ⟨_, rfl⟩
  have HNE := Lib.hid hN
  rw [← hN]
  clear hN
  have HH := Lib.hid HS
  clear HS
  go_enter Try.func13, Try.ntmps13
  go_wp2_with fail
  go_loopw [0, 7, 8] (fun sv z i wr => ∃ k : Nat, i = .int .i64 k ∧ k ≤ n ∧ sv = .int .u16 (rgS s (l.take k)) ∧ rgE s (l.take k) = 0 ∧ rkA.Own N wr z (rgL s (l.take k)) ∧ Keeps [] w wr) (fun _ _ i _ => n - (intOf i).toNat)
  case atStart => exact ⟨0, rfl, by omega, rfl, rfl, RK.Own.nil rkA _ _, Keeps.refl _ _⟩
  case round =>
    obtain ⟨k, rfl, hk, rfl, he0, hz, hkw⟩ := hrel
    by_cases hlt : k < n
    · have hkl : k < l.length := by have := HN2.out; omega
      obtain ⟨g, o, rfl, hg, hr⟩ := In_at (HIN.out.new hkw (Nat.le_refl _)) hkl
      have HRW := Lib.hid hr
      have HE0 := Lib.hid he0
      have HNX := Lib.hid (rg_next hkl he0)
      have HST := Lib.hid (rg_stop hkl he0)
      have HZ := Lib.hid hz; have HKW := Lib.hid hkw
      have HFL := Lib.hid (show (rgL s (l.take k)).length ≤ 100000 from Nat.le_trans (rgL_few k) (by have := HN2.out; omega))
      obtain ⟨az, cz, rfl, hcz, hmz⟩ := hz.shape
      clear hz hkw he0 hr
      generalize l[k] = x at *
      go_wp2_with (first
        | ((with_reducible refine wpList_loadO (g := g) (off := o + k * 5) (y := x) rfl ?_ HRW.out ?_); exact rfl))
      refine (HH.out _ x _).mono ?_; rintro e w1 ⟨rfl, hk1⟩
      have HK1 := Lib.hid (HKW.out.trans hk1 (FSub.refl _ _))
      have HZ1 := Lib.hid (HZ.out.keeps hk1 (by simp))
      clear hk1 HZ HKW HRW HH
      by_cases hx : (rgX (rgS s (l.take k)) x).2.2 = 0
      · have hn1 := HNX.out
        generalize rgX (rgS s (l.take k)) x = X at *
        obtain ⟨s1, ⟨yk, yv⟩, e1⟩ := X
        simp only at hx
        subst hx
        simp only [if_true] at hn1
        have HN1 := Lib.hid hn1
        clear hn1 HNX HST HE0
        simp only [ansC]
        obtain ⟨C, hC⟩ : ∃ C, C = w1.heap.size := ⟨_, rfl⟩
        have HKA := Lib.hid (HK1.out.alloc (.cells (ansC ⟨yk, yv⟩).toArray 27))
        have HZA := Lib.hid (HZ1.out.keeps ((Keeps.refl [] w1).alloc (.cells (ansC ⟨yk, yv⟩).toArray 27)) (by simp))
        obtain ⟨v', w3, hrun, hrow3, hk3, hf3⟩ := rkA.append1 (w1.alloc (.cells (ansC ⟨yk, yv⟩).toArray 27)) N (by rw [HNE.out]; exact HKA.out.size) _ _ HZA.out ⟨yk, yv⟩ (by have := HFL.out; omega)
        have HRUN := Lib.hid (show (Builtin.append_ #[37, 37] 37 #[.slice az (rgL s (l.take k)).length cz, .slice (some ⟨w1.heap.size + 1, 0, none⟩) 1 1]).run Try.prog ((w1.alloc (.cells #[.int .u8 yk, .int .u16 yv] 27)).alloc (.cells #[.int .u8 yk, .int .u16 yv] 27)) = .ok v' w3 from by
          rw [show (w1.alloc (.cells (ansC ⟨yk, yv⟩).toArray 27)).heap.size = w1.heap.size + 1 from Array.size_push _] at hrun
          exact hrun)
        have HROW := Lib.hid hrow3
        have HK3 := Lib.hid (HKA.out.trans hk3 (fun q hq => .inr (by have := (row_base HZA.out q hq).1; have := HNE.out; omega)))
        obtain ⟨a9, c9, rfl, -, -⟩ := hrow3.shape
        clear hrun hrow3 hk3 hf3 HKA HZA HK1 HZ1
        go_wp2_with (first
          | (refine wpList_append_run rfl _ _ 37 rfl _ _ _ w3 rfl rfl HRUN.out ?_))
        go_roundw
        case rel => exact ⟨k + 1, by go_num, by omega, by rw [HN1.out.2.1], HN1.out.1, by rw [HN1.out.2.2]; have h := HROW.out; rw [List.length_append] at h; exact h, HK3.out⟩
        case measure => simp [intOf]; omega
      · have te : ((rgX (rgS s (l.take k)) x).2.2 != 0) = true := by simpa using hx
        have HE := Lib.hid (HST.out hx)
        have h10 : (rgX (rgS s (l.take k)) x).2.2 = 10 := by rcases rgX_err (rgS s (l.take k)) x with h | h; exact absurd h hx; exact h
        generalize rgX (rgS s (l.take k)) x = X at *
        obtain ⟨s1, ⟨yk, yv⟩, e1⟩ := X
        simp only at h10
        subst h10
        have HKA := Lib.hid (HK1.out.alloc (.cells (ansC ⟨yk, yv⟩).toArray 27))
        have HZA := Lib.hid (HZ1.out.keeps ((Keeps.refl [] w1).alloc (.cells (ansC ⟨yk, yv⟩).toArray 27)) (by simp))
        clear HST HNX te hx
        simp only [ansC]
        go_wp2_with fail
        go_ret3
        exact ⟨_, by rw [HE.out.1, HE.out.2.1]; rfl, by rw [HE.out.2.2]; exact HZA.out, HKA.out⟩
    · obtain rfl : k = n := by omega
      have hall : l.take k = l := by rw [← HN2.out, List.take_length]
      rw [hall] at he0 hz
      rw [hall]
      have HZ := Lib.hid hz; have HKW := Lib.hid hkw; have HE := Lib.hid he0
      obtain ⟨az, cz, rfl, hcz, hmz⟩ := hz.shape
      clear hz hkw he0 hall
      go_wp2_with fail
      go_ret3
      exact ⟨_, by rw [HE.out]; rfl, HZ.out, HKW.out⟩
end Go.Proofs.Ytockahocmomdlaa
