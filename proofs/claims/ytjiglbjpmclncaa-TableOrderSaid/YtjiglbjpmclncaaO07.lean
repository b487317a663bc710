/-
  The document's table: Copy.
-/
import Derived.Deep.Upon
import Derived.Test.YtjiglbjpmclncaaO06
set_option linter.unusedSimpArgs false
set_option linter.unusedVariables false
namespace Go.Proofs.Ytjiglbjpmclncaa
open Go.RowKit
/-- Rows are appended to none. -/
theorem RK.copied {α : Type} (R : RK α) (w : World) (base : Nat) (v : Value) (M : List α) (h : R.Own base w v M) (hn : M.length ≤ 100000000) :
    ∃ v' w', (Builtin.append_ #[R.Sl, R.Sl] R.Sl #[.slice none 0 0, v]).run Try.prog w = .ok v' w' ∧ R.Own w.heap.size w' v' M ∧ Keeps [] w w' := by
  obtain ⟨a, c, rfl, hc, hm⟩ := h.shape
  by_cases hM : M = []
  · subst hM
    refine ⟨.slice none 0 0, w, ?_, RK.Own.nil R _ _, Keeps.refl _ _⟩
    cases a with
    | none => exact run_append_nothing w R.Sl R.Sl R.Sl R.T R.i R.und R.hi none 0 0 (Nat.le_refl _) _ (Src.ofNil w R.und c)
    | some a => exact run_append_nothing w R.Sl R.Sl R.Sl R.T R.i R.und R.hi none 0 0 (Nat.le_refl _) _ (Src.ofSlice w R.und a 0 c [] (by simp) (by simp) (by simp))
  · obtain ⟨g, cap, e, hcc, hcm, -, hg, hrow⟩ := h.at hM
    simp at e
    obtain ⟨rfl, rfl⟩ := e
    obtain ⟨v', w', h1, h2, h3, -⟩ := R.append w w.heap.size (Nat.le_refl _) (.slice none 0 0) [] (RK.Own.nil R _ _) M (by simpa using hn) ⟨g, 0, none⟩ c (by
      intro j u hj
      rcases h.2 with ⟨e, _⟩ | ⟨g', cap', cur, e, hb, hh, _, _, _, htk⟩
      · cases e
      · simp only [Value.slice.injEq, Option.some.injEq, Addr.mk.injEq, and_true, true_and] at e
        obtain ⟨rfl, rfl⟩ := e
        rw [← htk, List.getElem?_take] at hj
        split at hj
        · rw [Addr.add_mid, Nat.zero_add]
          simp only [World.cell?, hh]
          simpa using hj
        · cases hj)
    exact ⟨v', w', h1, by simpa using h2, h3⟩
set_option maxHeartbeats 8000000
set_option maxRecDepth 100000
end Go.Proofs.Ytjiglbjpmclncaa
/-
  Rows as the program hands them out; the law's small functions.
-/
namespace Go.Proofs.Ytjiglbjpmclncaa
open Go.RowKit
theorem Try.infoRowP : (Try.prog.info? 42).map (fun i => (i.zero, i.size, i.bytes)) = some (some (.agg (rwC rwZero).toArray), 12, 40) := by kernel_rfl
/-- The program's rows. -/
noncomputable def rkP : RK Rw :=
  { T := 42, Sl := 49, s := 12, b := 40, cs := rwC, i := (info_parts Try.infoRowP).choose, z := .agg (rwC rwZero).toArray,
    len := rwC_len, one := rwC_one, s0 := by decide, b1 := by decide, und := Try.underlying49,
    hi := (info_parts Try.infoRowP).choose_spec.1, hz := (info_parts Try.infoRowP).choose_spec.2.1, hs := (info_parts Try.infoRowP).choose_spec.2.2.1, hb := (info_parts Try.infoRowP).choose_spec.2.2.2, hzs := rfl }
theorem yields_rowP {ops : Array Oper} {S : World → Prop} {o : Oper} {a : Act} (r : Rw) (hw : Region.wanted o (yielded ops a.tmps) = true) (y : Operand) (ho : o.op = .load 42 y) (b off : Nat) (hx : a.eval y = .pointer (some ⟨b, off, none⟩))
    (hS : ∀ w, S w → w.rangeAt b off (rwC r)) : YieldsIf Try.prog ops S o (.agg #[.int .u8 r.c, .int .u16 r.id, .int .u8 r.o.f, .int .u8 r.o.o, .int .u8 r.o.k, .int .u16 r.o.a, .int .u16 r.o.b, .int .u8 r.rk, .int .u16 r.rv, .int .u8 r.st, .int .i64 r.fr, .int .i64 r.to]) a :=
  rkP.yields Try.underlying42 rfl hw y ho b off hx r hS
theorem yields_row8 {ops : Array Oper} {S : World → Prop} {o : Oper} {a : Act} (r : Rw) (hw : Region.wanted o (yielded ops a.tmps) = true) (y : Operand) (ho : o.op = .load 45 y) (b off : Nat) (hx : a.eval y = .pointer (some ⟨b, off, none⟩))
    (hS : ∀ w, S w → w.rangeAt b off (rwC r)) : YieldsIf Try.prog ops S o (.agg #[.int .u8 r.c, .int .u16 r.id, .int .u8 r.o.f, .int .u8 r.o.o, .int .u8 r.o.k, .int .u16 r.o.a, .int .u16 r.o.b, .int .u8 r.rk, .int .u16 r.rv, .int .u8 r.st, .int .i64 r.fr, .int .i64 r.to]) a :=
  rk8.yields Try.underlying45 rfl hw y ho b off hx r hS
set_option maxHeartbeats 8000000
set_option maxRecDepth 100000
theorem is8_any (w : World) (r : Rw) (id st fr to : Int) : Calls Try.prog 27 #[.agg (rwC r).toArray, .int .u16 id, .int .u8 st, .int .i64 fr, .int .i64 to] w fun e w' => e = .returned (.bool (decide (r.id = id) && decide (r.st = st) && decide (r.fr = fr) && decide (r.to = to))) ∧ Keeps [] w w' := by
  have hk := (Keeps.refl [] w).alloc (.cells (rwC r).toArray 42)
  have hX := heap_alloc_new w (.cells (rwC r).toArray 42)
  have c1 := rw_cell hX 1 (show (rwC r)[1]? = some (.int .u16 r.id) from rfl)
  have c9 := rw_cell hX 9 (show (rwC r)[9]? = some (.int .u8 r.st) from rfl)
  have c10 := rw_cell hX 10 (show (rwC r)[10]? = some (.int .i64 r.fr) from rfl)
  have c11 := rw_cell hX 11 (show (rwC r)[11]? = some (.int .i64 r.to) from rfl)
  have HK := Lib.hid hk
  clear hk hX
  generalize rwC r = X at *
  by_cases h1 : r.id = id
  · rw [h1] at c1
    by_cases h2 : r.st = st
    · rw [h2] at c9
      by_cases h3 : r.fr = fr
      · rw [h3] at c10
        go_enter Try.func27, Try.ntmps27
        go_wp2_with fail
        go_ret
        exact ⟨by simp [h1, h2, h3]; rfl, HK.out⟩
      · have t3 : (r.fr == fr) = false := by simpa using h3
        go_enter Try.func27, Try.ntmps27
        go_wp2_with fail
        go_ret
        exact ⟨by simp [h3], HK.out⟩
    · have t2 : (r.st == st) = false := by simpa using h2
      go_enter Try.func27, Try.ntmps27
      go_wp2_with fail
      go_ret
      exact ⟨by simp [h2], HK.out⟩
  · have t1 : (r.id == id) = false := by simpa using h1
    go_enter Try.func27, Try.ntmps27
    go_wp2_with fail
    go_ret
    exact ⟨by simp [h1], HK.out⟩
theorem same8_any (w : World) (p : Value) {b base : Nat} {v : Value} {t : Tb} (hT : T8At b base w v t)
    (hR : Calls Try.prog 21 #[p] w fun e w' => ∃ v', e = .returned v' ∧ rkP.In w'.heap.size w' v' t.L ∧ Keeps [] w w') :
    Calls Try.prog 16 #[p, .pointer (some ⟨b, 0, none⟩)] w fun e w' => e = .returned (.bool true) ∧ Keeps [] w w' := by
  obtain ⟨a, cp, rfl, hc, hm⟩ := hT.row.shape
  have hfew := hT.few
  have HT := Lib.hid hT; have HR := Lib.hid hR
  clear hT hR
  go_enter Try.func16, Try.ntmps16
  go_wp2_with fail
  refine (HR.out).mono ?_; rintro e w1 ⟨v', rfl, hin, hk1⟩
  have hin2 := hin
  obtain ⟨a', c', rfl, hc', hm', -⟩ := hin2
  have HT1 := Lib.hid (HT.out.new hk1)
  have hv := HT1.out.cells.1
  have HK1 := Lib.hid hk1; have HIN := Lib.hid hin
  clear hk1 hin HT HR
  generalize hn2 : t.L.length = n at *
  have HN2 := Lib.hid hn2
  clear hn2
  have tn : ((n : Int) != n) = false := by simp
  go_wp2_with fail
  go_loopw [6] (fun i wr => ∃ k : Nat, i = .int .i64 k ∧ k ≤ n ∧ Keeps [] w1 wr) (fun i _ => n - (intOf i).toNat)
  case atStart => exact ⟨0, rfl, by omega, Keeps.refl _ _⟩
  case round =>
    obtain ⟨k, rfl, hk, hkr⟩ := hrel
    by_cases hlt : k < n
    · have hkl : k < t.L.length := by have := HN2.out; omega
      obtain ⟨g, cap, hg, -, -, -, -, hrow⟩ := (HT1.out.new hkr).row.at (fun e => by rw [e] at hkl; simp at hkl)
      obtain ⟨g', o', hg', hlg, hrow'⟩ : ∃ bk o, a' = some ⟨bk, o, none⟩ ∧ bk < w1.heap.size ∧ ∀ j (h : j < t.L.length), w1.rangeAt bk (o + j * 12) (rwC t.L[j]) := by
        obtain ⟨_, _, e, _, _, h⟩ := HIN.out
        simp at e
        obtain ⟨e1, e2⟩ := e
        subst e1
        exact h (fun e => by rw [e] at hkl; simp at hkl)
      simp at hg
      obtain ⟨rfl, -, -⟩ := hg
      subst hg'
      have h8 : wr.rangeAt g (k * 12) (rwC t.L[k]) := hrow k hkl
      have hp : wr.rangeAt g' (o' + k * 12) (rwC t.L[k]) := fun i u hi => hkr.cell (hrow' k hkl i u hi) (by simp)
      clear hrow hrow'
      generalize t.L[k] = r at *
      have hv2 := hkr.cell hv (by simp)
      obtain ⟨S, hS⟩ : ∃ S : World → Prop, S = fun y => Keeps [] wr y := ⟨_, rfl⟩
      have HSE := Lib.hid hS
      have hSD : S wr.drew := by rw [hS]; exact (Keeps.refl _ _).drew
      have HS3 := Lib.hid (fun (w' : World) (h : S w') => show w'.cell? ⟨b, 0, none⟩ = some (.slice (some ⟨g, 0, none⟩) n cp) from by rw [hS] at h; exact h.cell hv2 (by simp))
      have HS4 := Lib.hid (fun (w' : World) (h : S w') => show w'.rangeAt g (k * 12) (rwC r) from by rw [hS] at h; exact fun i u hi => h.cell (h8 i u hi) (by simp))
      have HS5 := Lib.hid (fun (w' : World) (h : S w') => show w'.rangeAt g' (o' + k * 12) (rwC r) from by rw [hS] at h; exact fun i u hi => h.cell (hp i u hi) (by simp))
      have HKD := Lib.hid hkr.drew
      clear hS h8 hp hkr
      go_wp2_with fail
      refine wp_region_noPanic ?_
      refine wp_region_held_drew (S := S) (by kernel_rfl) hSD (fun hHeld => ?_)
      apply wpAnyH_take (i := 0)
      · simp only [List.getElem?_toArray]; rfl
      · kernel_rfl
      · kernel_rfl
      · kernel_rfl
      · exact fun _ _ _ h => h
      · exact Or.inl ⟨by rfl, by intro w hSw; go_simp; try with_reducible rfl⟩
      · assumption
      try simp only [Act.put, List.setIfInBounds_toArray, List.set_cons_zero, List.set_cons_succ]
      apply wpAnyH_take (i := 1)
      · simp only [List.getElem?_toArray]; rfl
      · kernel_rfl
      · kernel_rfl
      · kernel_rfl
      · exact fun _ _ _ h => h
      · exact Or.inl ⟨by rfl, by intro w hSw; go_simp; try with_reducible rfl⟩
      · assumption
      try simp only [Act.put, List.setIfInBounds_toArray, List.set_cons_zero, List.set_cons_succ]
      apply wpAnyH_take (i := 2)
      · simp only [List.getElem?_toArray]; rfl
      · kernel_rfl
      · kernel_rfl
      · kernel_rfl
      · exact fun _ _ _ h => h
      · exact Or.inl ⟨by rfl, by intro w hSw; go_simp; try with_reducible rfl⟩
      · assumption
      try simp only [Act.put, List.setIfInBounds_toArray, List.set_cons_zero, List.set_cons_succ]
      apply wpAnyH_take (i := 3)
      · simp only [List.getElem?_toArray]; rfl
      · kernel_rfl
      · kernel_rfl
      · kernel_rfl
      · exact fun _ _ _ h => h
      · exact yields_rowP r (by rfl) _ rfl g' (o' + k * 12) rfl HS5.out
      · assumption
      try simp only [Act.put, List.setIfInBounds_toArray, List.set_cons_zero, List.set_cons_succ]
      apply wpAnyH_take (i := 4)
      · simp only [List.getElem?_toArray]; rfl
      · kernel_rfl
      · kernel_rfl
      · kernel_rfl
      · exact fun _ _ _ h => h
      · exact Or.inl ⟨by rfl, by intro w hSw; go_simp; try with_reducible rfl⟩
      · assumption
      try simp only [Act.put, List.setIfInBounds_toArray, List.set_cons_zero, List.set_cons_succ]
      apply wpAnyH_take (i := 5)
      · simp only [List.getElem?_toArray]; rfl
      · kernel_rfl
      · kernel_rfl
      · kernel_rfl
      · exact fun _ _ _ h => h
      · exact Or.inl ⟨by rfl, by intro w hSw; go_simp; try with_reducible rfl⟩
      · assumption
      try simp only [Act.put, List.setIfInBounds_toArray, List.set_cons_zero, List.set_cons_succ]
      apply wpAnyH_take (i := 6)
      · simp only [List.getElem?_toArray]; rfl
      · kernel_rfl
      · kernel_rfl
      · kernel_rfl
      · exact fun _ _ _ h => h
      · exact Or.inl ⟨by rfl, by intro w hSw; go_simp; try with_reducible rfl⟩
      · assumption
      try simp only [Act.put, List.setIfInBounds_toArray, List.set_cons_zero, List.set_cons_succ]
      apply wpAnyH_take (i := 7)
      · simp only [List.getElem?_toArray]; rfl
      · kernel_rfl
      · kernel_rfl
      · kernel_rfl
      · exact fun _ _ _ h => h
      · exact Or.inl ⟨by rfl, by intro w hSw; have q0 := HS3.out w hSw; go_simp; try with_reducible rfl⟩
      · assumption
      try simp only [Act.put, List.setIfInBounds_toArray, List.set_cons_zero, List.set_cons_succ]
      apply wpAnyH_take (i := 8)
      · simp only [List.getElem?_toArray]; rfl
      · kernel_rfl
      · kernel_rfl
      · kernel_rfl
      · exact fun _ _ _ h => h
      · exact Or.inl ⟨by rfl, by intro w hSw; go_simp; try with_reducible rfl⟩
      · assumption
      try simp only [Act.put, List.setIfInBounds_toArray, List.set_cons_zero, List.set_cons_succ]
      apply wpAnyH_take (i := 9)
      · simp only [List.getElem?_toArray]; rfl
      · kernel_rfl
      · kernel_rfl
      · kernel_rfl
      · exact fun _ _ _ h => h
      · exact Or.inl ⟨by rfl, by intro w hSw; go_simp; try with_reducible rfl⟩
      · assumption
      try simp only [Act.put, List.setIfInBounds_toArray, List.set_cons_zero, List.set_cons_succ]
      apply wpAnyH_take (i := 10)
      · simp only [List.getElem?_toArray]; rfl
      · kernel_rfl
      · kernel_rfl
      · kernel_rfl
      · exact fun _ _ _ h => h
      · exact yields_row8 r (by rfl) _ rfl g (k * 12) rfl HS4.out
      · assumption
      try simp only [Act.put, List.setIfInBounds_toArray, List.set_cons_zero, List.set_cons_succ]
      apply wpAnyH_take (i := 11)
      · simp only [List.getElem?_toArray]; rfl
      · kernel_rfl
      · kernel_rfl
      · kernel_rfl
      · exact fun _ _ _ h => h
      · exact Or.inl ⟨by rfl, by intro w hSw; go_simp; try with_reducible rfl⟩
      · assumption
      try simp only [Act.put, List.setIfInBounds_toArray, List.set_cons_zero, List.set_cons_succ]
      refine wpAnyH_done (by kernel_rfl) ?_ _
      refine NoPanic.normal ?_
      clear hHeld hSD HS3 HS4 HS5
      go_wp2_with fail
      go_roundw
      case rel => exact ⟨k + 1, by go_num, by omega, HKD.out⟩
      case measure => simp [intOf]; omega
    · obtain rfl : k = n := by omega
      have HKR := Lib.hid hkr
      clear hkr
      go_wp2_with fail
      go_ret
      exact ⟨rfl, HK1.out.trans HKR.out (FSub.refl _ _)⟩
end Go.Proofs.Ytjiglbjpmclncaa
/-
  The program's table, of which only what it answers and keeps is said; the law's step.
-/
namespace Go.Proofs.Ytjiglbjpmclncaa
open Go.RowKit
/-- What a call that may change the program's table tells and leaves. -/
def PPost (At : World → Value → List Nat → Tb → Prop) (w : World) (p : Value) (O : List Nat) (r : Int × Tb) (e : Ending) (w' : World) : Prop :=
  e = .returned (.int .i64 r.1) ∧ ∃ O', At w' p O' r.2 ∧ Keeps O w w' ∧ FSub O' O w.heap.size
/-- Tables of the program: what its functions tell, and keep. -/
structure PTab where
  At : World → Value → List Nat → Tb → Prop
  below : ∀ {w p O t}, At w p O t → ∀ q ∈ O, q < w.heap.size
  keeps : ∀ {w w' p O t F}, At w p O t → Keeps F w w' → (∀ q ∈ O, q ∉ F) → At w' p O t
  inv : ∀ {w p O t}, At w p O t → TbOk t → t.L.length ≤ 1000 → ∀ (c id : Int) (o : Opn) (at_ : Int), 0 ≤ c → c < 256 → 0 ≤ id → id < 65536 → o.In → -9223372036854775808 ≤ at_ → at_ < 9223372036854775808 →
    Calls Try.prog 14 #[p, .int .u8 c, .int .u16 id, o.val, .int .i64 at_] w (PPost At w p O (tbInv t c id o at_))
  ret : ∀ {w p O t}, At w p O t → TbOk t → t.L.length ≤ 1000 → ∀ (id rk rv at_ : Int), 0 ≤ id → id < 65536 → 0 ≤ rk → rk < 256 → 0 ≤ rv → rv < 65536 → -9223372036854775808 ≤ at_ → at_ < 9223372036854775808 →
    Calls Try.prog 24 #[p, .int .u16 id, .agg #[.int .u8 rk, .int .u16 rv], .int .i64 at_] w (PPost At w p O (tbEnd t id true rk rv at_))
  info : ∀ {w p O t}, At w p O t → TbOk t → t.L.length ≤ 1000 → ∀ (id at_ : Int), 0 ≤ id → id < 65536 → -9223372036854775808 ≤ at_ → at_ < 9223372036854775808 →
    Calls Try.prog 25 #[p, .int .u16 id, .int .i64 at_] w (PPost At w p O (tbEnd t id false 0 0 at_))
  rem : ∀ {w p O t}, At w p O t → TbOk t → t.L.length ≤ 1000 → ∀ (id : Int), 0 ≤ id → id < 65536 → Calls Try.prog 13 #[p, .int .u16 id] w (PPost At w p O (tbRem t id))
  settle : ∀ {w p O t}, At w p O t → TbOk t → t.L.length ≤ 1000 → Calls Try.prog 12 #[p] w (PPost At w p O (((tbSettle t).1 : Int), (tbSettle t).2))
/-- Both tables, which hold the same. -/
structure Both (P : PTab) (w : World) (p : Value) (O : List Nat) (b base : Nat) (v : Value) (t : Tb) : Prop where
  prog : P.At w p O t
  doc : T8At b base w v t
  dis : ∀ q ∈ O, q ≠ b ∧ q ∉ own v
  base : base ≤ w.heap.size
theorem Both.mid {P : PTab} {w w1 : World} {p : Value} {O O' : List Nat} {b base : Nat} {v : Value} {t t' : Tb} (h : Both P w p O b base v t) (h1 : P.At w1 p O' t') (hk : Keeps O w w1) : T8At b base w1 v t :=
  h.doc.keeps hk (fun hb => (h.dis b hb).1 rfl) (fun q hq hO => (h.dis q hO).2 hq)
theorem Both.step {P : PTab} {w w1 w2 : World} {p : Value} {O O' : List Nat} {b base : Nat} {v v' : Value} {t t' : Tb} (h : Both P w p O b base v t) (h1 : P.At w1 p O' t') (hk : Keeps O w w1) (hf : FSub O' O w.heap.size)
    (h2 : T8At b base w2 v' t') (hk2 : Keeps (b :: own v) w1 w2) (hf2 : FSub (own v') (own v) w1.heap.size) : Both P w2 p O' b base v' t' ∧ Keeps (O ++ b :: own v) w w2 ∧ FSub (O' ++ own v') (O ++ own v) w.heap.size := by
  have hb := lt_of_block h.doc.heap
  have ho : ∀ q ∈ own v, q < w.heap.size := fun q hq => (row_base h.doc.row q hq).2
  have hd : ∀ q ∈ O', q ≠ b ∧ q ∉ own v := fun q hq => by
    rcases hf q hq with h3 | h3
    · exact h.dis q h3
    · exact ⟨by omega, fun h4 => by have := ho q h4; omega⟩
  refine ⟨⟨P.keeps h1 hk2 (fun q hq hq2 => by rcases List.mem_cons.1 hq2 with h3 | h3; exact (hd q hq).1 h3; exact (hd q hq).2 h3), h2, fun q hq => ⟨(hd q hq).1, fun h3 => ?_⟩, Nat.le_trans h.base (Nat.le_trans hk.size hk2.size)⟩, ?_, ?_⟩
  · rcases hf2 q h3 with h4 | h4
    · exact (hd q hq).2 h4
    · have := P.below h1 q hq; omega
  · exact (hk.more (by simp; exact fun q hq => .inl hq)).step hk2 (fun q hq => List.mem_append.2 (.inr hq))
  · intro q hq
    rcases List.mem_append.1 hq with h3 | h3
    · exact (hf q h3).imp (fun h => List.mem_append.2 (.inl h)) id
    · exact (hf2 q h3).imp (fun h => List.mem_append.2 (.inr h)) (fun h => Nat.le_trans hk.size h)
theorem Both.new {P : PTab} {w w1 : World} {p : Value} {O : List Nat} {b base : Nat} {v : Value} {t : Tb} (h : Both P w p O b base v t) (hk : Keeps [] w w1) : Both P w1 p O b base v t :=
  ⟨P.keeps h.prog hk (by simp), h.doc.new hk, h.dis, Nat.le_trans h.base hk.size⟩
/-- An act. -/
structure Ac where
  k : Int
  c : Int
  id : Int
  o : Opn
  rk : Int
  rv : Int
  at_ : Int
structure Ac.In (x : Ac) : Prop where
  k : 0 ≤ x.k ∧ x.k < 256
  c : 0 ≤ x.c ∧ x.c < 256
  id : 0 ≤ x.id ∧ x.id < 65536
  o : x.o.In
  rk : 0 ≤ x.rk ∧ x.rk < 256
  rv : 0 ≤ x.rv ∧ x.rv < 65536
  a : -9223372036854775808 ≤ x.at_ ∧ x.at_ < 9223372036854775808
def acC (x : Ac) : List Value := [.int .u8 x.k, .int .u8 x.c, .int .u16 x.id, .int .u8 x.o.f, .int .u8 x.o.o, .int .u8 x.o.k, .int .u16 x.o.a, .int .u16 x.o.b, .int .u8 x.rk, .int .u16 x.rv, .int .i64 x.at_]
/-- A table behind an act. -/
def acX (t : Tb) (x : Ac) : Int × Tb :=
  if x.k % 9 ≤ 2 then tbInv t x.c x.id x.o x.at_ else if x.k % 9 ≤ 4 then tbEnd t x.id true x.rk x.rv x.at_ else if x.k % 9 = 5 then tbEnd t x.id false x.rk x.rv x.at_ else if x.k % 9 = 6 then tbRem t x.id
  else if x.k % 9 = 7 then (((tbSettle t).1 : Int), (tbSettle t).2) else (0, t)
set_option maxHeartbeats 8000000
set_option maxRecDepth 100000
end Go.Proofs.Ytjiglbjpmclncaa
/-
  The law's given: the chapter's table, over any program's table.
-/
namespace Go.Proofs.Ytjiglbjpmclncaa
open Go.RowKit
/-- Tables of the program, and how they are made and handed out. -/
structure PTabs extends PTab where
  Rdy : Nat → World → Prop
  rdy : ∀ {N w w'}, Rdy N w → Same N w w' → Rdy N w'
  new : ∀ {N w}, Rdy N w → N ≤ w.heap.size → Calls Try.prog 8 #[] w fun e w' => ∃ p O, e = .returned p ∧ At w' p O tbNew ∧ Keeps [] w w' ∧ ∀ q ∈ O, w.heap.size ≤ q
  rows : ∀ {w p O t}, At w p O t → TbOk t → t.L.length ≤ 1000 → Calls Try.prog 21 #[p] w fun e w' => ∃ v', e = .returned v' ∧ rkP.Own w.heap.size w' v' t.L ∧ Keeps [] w w'
  before : ∀ (w : World) (x y : Rw), Calls Try.prog 22 #[.agg (rwC x).toArray, .agg (rwC y).toArray] w fun e w' => e = .returned (.bool (rwBefore x y)) ∧ Keeps [] w w'
/-- What holds of a table on the way: nothing older was touched. -/
structure Way (P : PTab) (w0 w : World) (p : Value) (O : List Nat) (t : Tb) : Prop where
  at_ : P.At w p O t
  k : Keeps [] w0 w
  o : ∀ q ∈ O, w0.heap.size ≤ q
theorem Way.next {P : PTab} {w0 w w' : World} {p : Value} {O : List Nat} {t : Tb} (h : Way P w0 w p O t) {r : Int × Tb} {e : Ending} (hp : PPost P.At w p O r e w') : e = .returned (.int .i64 r.1) ∧ ∃ O', Way P w0 w' p O' r.2 ∧ Keeps O w w' ∧ FSub O' O w.heap.size := by
  obtain ⟨h1, O', h2, h3, h4⟩ := hp
  exact ⟨h1, O', ⟨h2, h.k.trans h3 (fun q hq => .inr (h.o q hq)), fun q hq => (h4 q hq).elim (h.o q) (fun h5 => Nat.le_trans h.k.size h5)⟩, h3, h4⟩
def opR : Opn := ⟨1, 0, 0, 0, 0⟩
def opW : Opn := ⟨2, 0, 0, 5, 0⟩
def gv1 : Tb := ⟨[rwNew 0 1 opR 0], 0⟩
def gv2 : Tb := ⟨[rwNew 0 1 opR 0, rwNew 1 2 opW 1], 1⟩
def gv3 : Tb := ⟨[rwEnd (rwNew 0 1 opR 0) true 1 0 3, rwNew 1 2 opW 1], 3⟩
def gv4 : Tb := ⟨[rwEnd (rwNew 0 1 opR 0) true 1 0 3, rwEnd (rwNew 1 2 opW 1) false 0 0 4], 4⟩
def gv5 : Tb := ⟨[rwEnd (rwNew 0 1 opR 0) true 1 0 3, rwEnd (rwNew 1 2 opW 1) false 0 0 4, rwNew 0 3 opR 5], 5⟩
theorem gv_1 : tbInv tbNew 0 1 opR 0 = (0, gv1) := rfl
theorem gv_2 : tbInv gv1 1 2 opW 1 = (0, gv2) := rfl
theorem gv_3 : tbInv gv2 0 1 opR 2 = (8, gv2) := rfl
theorem gv_4 : tbInv gv2 0 3 opR 1 = (2, gv2) := rfl
theorem gv_5 : tbEnd gv2 1 true 1 0 3 = (0, gv3) := rfl
theorem gv_6 : tbEnd gv3 1 true 0 0 4 = (7, gv3) := rfl
theorem gv_7 : tbEnd gv3 2 false 0 0 4 = (0, gv4) := rfl
theorem gv_8 : tbInv gv4 0 3 opR 5 = (0, gv5) := rfl
theorem gvOk : TbOk gv1 ∧ TbOk gv2 ∧ TbOk gv3 ∧ TbOk gv4 ∧ TbOk gv5 := by
  have hr : opR.In := by constructor <;> decide
  have hw : opW.In := by constructor <;> decide
  have h1 : TbOk gv1 := (gv_1 ▸ TbOk.new.inv (c := 0) (id := 1) (at_ := 0) (o := opR) (by decide) (by decide) hr : TbOk ((0 : Int), gv1).2)
  have h2 : TbOk gv2 := (gv_2 ▸ h1.inv (c := 1) (id := 2) (at_ := 1) (o := opW) (by decide) (by decide) hw : TbOk ((0 : Int), gv2).2)
  have h3 : TbOk gv3 := (gv_5 ▸ h2.end_ (id := 1) (rk := 1) (rv := 0) (at_ := 3) (done := true) (by decide) (by decide) : TbOk ((0 : Int), gv3).2)
  have h4 : TbOk gv4 := (gv_7 ▸ h3.end_ (id := 2) (rk := 0) (rv := 0) (at_ := 4) (done := false) (by decide) (by decide) : TbOk ((0 : Int), gv4).2)
  have h5 : TbOk gv5 := (gv_8 ▸ h4.inv (c := 0) (id := 3) (at_ := 5) (o := opR) (by decide) (by decide) hr : TbOk ((0 : Int), gv5).2)
  exact ⟨h1, h2, h3, h4, h5⟩
set_option maxHeartbeats 8000000
set_option maxRecDepth 100000
theorem given8_any (P : PTabs) (w : World) {N : Nat} (hr : P.Rdy N w) (hN : N ≤ w.heap.size) : Calls Try.prog 26 #[] w fun e w' => ∃ p O, e = .returned p ∧ Way P.toPTab w w' p O gv5 := by
  have HNEW := Lib.hid (P.new hr hN)
  obtain ⟨k1, k2, k3, k4, k5⟩ := gvOk
  have K1 := Lib.hid k1; have K2 := Lib.hid k2; have K3 := Lib.hid k3; have K4 := Lib.hid k4
  have hR : opR.In := by constructor <;> decide
  have hW : opW.In := by constructor <;> decide
  have HR := Lib.hid hR; have HW := Lib.hid hW
  clear k1 k2 k3 k4 k5 hR hW hr
  go_enter Try.func26, Try.ntmps26
  go_wp2_with fail
  refine (HNEW.out).mono ?_; rintro e w1 ⟨p, O1, rfl, hP1, hk1, hO1⟩
  have HKA := Lib.hid ((Keeps.refl [] w1).alloc (.cells #[.int .u8 1, .int .u8 0, .int .u8 0, .int .u16 0, .int .u16 0] 30))
  have hX := heap_alloc_new w1 (.cells #[.int .u8 1, .int .u8 0, .int .u8 0, .int .u16 0, .int .u16 0] 30)
  have hbo := P.below hP1
  have HY0 := Lib.hid (show Way P.toPTab w (w1.alloc (.cells #[.int .u8 1, .int .u8 0, .int .u8 0, .int .u16 0, .int .u16 0] 30)) p O1 tbNew from ⟨P.keeps hP1 HKA.out (by simp), hk1.trans HKA.out (FSub.refl _ _), hO1⟩)
  have HB0 := Lib.hid (show w1.heap.size ∉ O1 from fun h => by have := hbo _ h; omega)
  have HL0 := Lib.hid (lt_of_block hX)
  have e0 := cell_lit hX 0 rfl; have e1 := cell_lit hX 1 rfl; have e2 := cell_lit hX 2 rfl; have e3 := cell_lit hX 3 rfl; have e4 := cell_lit hX 4 rfl
  clear hP1 hk1 hO1 HNEW hX hbo HKA
  go_wp2_with fail
  generalize w1.alloc _ = W0 at *
  generalize w1.heap.size = C at *
  have HC1 := Lib.hid (P.inv HY0.out.at_ TbOk.new (by decide) 0 1 opR 0 (by decide) (by decide) (by decide) (by decide) HR.out (by decide) (by decide))
  rw [gv_1] at HC1
  refine (HC1.out).mono ?_; rintro e v1 hp
  obtain ⟨rfl, P1, hY, hk, hf⟩ := HY0.out.next hp
  have HY1 := Lib.hid hY
  have HB1 := Lib.hid (show C ∉ P1 from fun h => (hf C h).elim HB0.out (fun h2 => by have := HL0.out; omega))
  have HL1 := Lib.hid (Nat.lt_of_lt_of_le HL0.out hk.size)
  have f0 := hk.cell e0 HB0.out; have f1 := hk.cell e1 HB0.out; have f2 := hk.cell e2 HB0.out; have f3 := hk.cell e3 HB0.out; have f4 := hk.cell e4 HB0.out
  clear e0 e1 e2 e3 e4 hp hY hk hf HC1 HY0 HB0 HL0
  have e0 := f0; have e1 := f1; have e2 := f2; have e3 := f3; have e4 := f4
  clear f0 f1 f2 f3 f4
  have HC2 := Lib.hid (P.inv HY1.out.at_ K1.out (by decide) 1 2 opW 1 (by decide) (by decide) (by decide) (by decide) HW.out (by decide) (by decide))
  rw [gv_2] at HC2
  go_wp2_with fail
  refine (HC2.out).mono ?_; rintro e v2 hp
  obtain ⟨rfl, P2, hY, hk, hf⟩ := HY1.out.next hp
  have HY2 := Lib.hid hY
  have HB2 := Lib.hid (show C ∉ P2 from fun h => (hf C h).elim HB1.out (fun h2 => by have := HL1.out; omega))
  have HL2 := Lib.hid (Nat.lt_of_lt_of_le HL1.out hk.size)
  have f0 := hk.cell e0 HB1.out; have f1 := hk.cell e1 HB1.out; have f2 := hk.cell e2 HB1.out; have f3 := hk.cell e3 HB1.out; have f4 := hk.cell e4 HB1.out
  clear e0 e1 e2 e3 e4 hp hY hk hf HC2 HY1 HB1 HL1
  have e0 := f0; have e1 := f1; have e2 := f2; have e3 := f3; have e4 := f4
  clear f0 f1 f2 f3 f4
  have HC3 := Lib.hid (P.inv HY2.out.at_ K2.out (by decide) 0 1 opR 2 (by decide) (by decide) (by decide) (by decide) HR.out (by decide) (by decide))
  rw [gv_3] at HC3
  go_wp2_with fail
  refine (HC3.out).mono ?_; rintro e v3 hp
  obtain ⟨rfl, P3, hY, hk, hf⟩ := HY2.out.next hp
  have HY3 := Lib.hid hY
  have HB3 := Lib.hid (show C ∉ P3 from fun h => (hf C h).elim HB2.out (fun h2 => by have := HL2.out; omega))
  have HL3 := Lib.hid (Nat.lt_of_lt_of_le HL2.out hk.size)
  have f0 := hk.cell e0 HB2.out; have f1 := hk.cell e1 HB2.out; have f2 := hk.cell e2 HB2.out; have f3 := hk.cell e3 HB2.out; have f4 := hk.cell e4 HB2.out
  clear e0 e1 e2 e3 e4 hp hY hk hf HC3 HY2 HB2 HL2
  have e0 := f0; have e1 := f1; have e2 := f2; have e3 := f3; have e4 := f4
  clear f0 f1 f2 f3 f4
  have HC4 := Lib.hid (P.inv HY3.out.at_ K2.out (by decide) 0 3 opR 1 (by decide) (by decide) (by decide) (by decide) HR.out (by decide) (by decide))
  rw [gv_4] at HC4
  go_wp2_with fail
  refine (HC4.out).mono ?_; rintro e v4 hp
  obtain ⟨rfl, P4, hY, hk, hf⟩ := HY3.out.next hp
  have HY4 := Lib.hid hY
  have HB4 := Lib.hid (show C ∉ P4 from fun h => (hf C h).elim HB3.out (fun h2 => by have := HL3.out; omega))
  have HL4 := Lib.hid (Nat.lt_of_lt_of_le HL3.out hk.size)
  have f0 := hk.cell e0 HB3.out; have f1 := hk.cell e1 HB3.out; have f2 := hk.cell e2 HB3.out; have f3 := hk.cell e3 HB3.out; have f4 := hk.cell e4 HB3.out
  clear e0 e1 e2 e3 e4 hp hY hk hf HC4 HY3 HB3 HL3
  have e0 := f0; have e1 := f1; have e2 := f2; have e3 := f3; have e4 := f4
  clear f0 f1 f2 f3 f4
  have HC5 := Lib.hid (P.ret HY4.out.at_ K2.out (by decide) 1 1 0 3 (by decide) (by decide) (by decide) (by decide) (by decide) (by decide) (by decide) (by decide))
  rw [gv_5] at HC5
  go_wp2_with fail
  refine (HC5.out).mono ?_; rintro e v5 hp
  obtain ⟨rfl, P5, hY, hk, hf⟩ := HY4.out.next hp
  have HY5 := Lib.hid hY
  have HB5 := Lib.hid (show C ∉ P5 from fun h => (hf C h).elim HB4.out (fun h2 => by have := HL4.out; omega))
  have HL5 := Lib.hid (Nat.lt_of_lt_of_le HL4.out hk.size)
  have f0 := hk.cell e0 HB4.out; have f1 := hk.cell e1 HB4.out; have f2 := hk.cell e2 HB4.out; have f3 := hk.cell e3 HB4.out; have f4 := hk.cell e4 HB4.out
  clear e0 e1 e2 e3 e4 hp hY hk hf HC5 HY4 HB4 HL4
  have e0 := f0; have e1 := f1; have e2 := f2; have e3 := f3; have e4 := f4
  clear f0 f1 f2 f3 f4
  have HC6 := Lib.hid (P.ret HY5.out.at_ K3.out (by decide) 1 0 0 4 (by decide) (by decide) (by decide) (by decide) (by decide) (by decide) (by decide) (by decide))
  rw [gv_6] at HC6
  go_wp2_with fail
  refine (HC6.out).mono ?_; rintro e v6 hp
  obtain ⟨rfl, P6, hY, hk, hf⟩ := HY5.out.next hp
  have HY6 := Lib.hid hY
  have HB6 := Lib.hid (show C ∉ P6 from fun h => (hf C h).elim HB5.out (fun h2 => by have := HL5.out; omega))
  have HL6 := Lib.hid (Nat.lt_of_lt_of_le HL5.out hk.size)
  have f0 := hk.cell e0 HB5.out; have f1 := hk.cell e1 HB5.out; have f2 := hk.cell e2 HB5.out; have f3 := hk.cell e3 HB5.out; have f4 := hk.cell e4 HB5.out
  clear e0 e1 e2 e3 e4 hp hY hk hf HC6 HY5 HB5 HL5
  have e0 := f0; have e1 := f1; have e2 := f2; have e3 := f3; have e4 := f4
  clear f0 f1 f2 f3 f4
  have HC7 := Lib.hid (P.info HY6.out.at_ K3.out (by decide) 2 4 (by decide) (by decide) (by decide) (by decide))
  rw [gv_7] at HC7
  go_wp2_with fail
  refine (HC7.out).mono ?_; rintro e v7 hp
  obtain ⟨rfl, P7, hY, hk, hf⟩ := HY6.out.next hp
  have HY7 := Lib.hid hY
  have HB7 := Lib.hid (show C ∉ P7 from fun h => (hf C h).elim HB6.out (fun h2 => by have := HL6.out; omega))
  have HL7 := Lib.hid (Nat.lt_of_lt_of_le HL6.out hk.size)
  have f0 := hk.cell e0 HB6.out; have f1 := hk.cell e1 HB6.out; have f2 := hk.cell e2 HB6.out; have f3 := hk.cell e3 HB6.out; have f4 := hk.cell e4 HB6.out
  clear e0 e1 e2 e3 e4 hp hY hk hf HC7 HY6 HB6 HL6
  have e0 := f0; have e1 := f1; have e2 := f2; have e3 := f3; have e4 := f4
  clear f0 f1 f2 f3 f4
  have HC8 := Lib.hid (P.inv HY7.out.at_ K4.out (by decide) 0 3 opR 5 (by decide) (by decide) (by decide) (by decide) HR.out (by decide) (by decide))
  rw [gv_8] at HC8
  go_wp2_with fail
  refine (HC8.out).mono ?_; rintro e v8 hp
  obtain ⟨rfl, P8, hY, hk, hf⟩ := HY7.out.next hp
  have HY8 := Lib.hid hY
  have HB8 := Lib.hid (show C ∉ P8 from fun h => (hf C h).elim HB7.out (fun h2 => by have := HL7.out; omega))
  have HL8 := Lib.hid (Nat.lt_of_lt_of_le HL7.out hk.size)
  have f0 := hk.cell e0 HB7.out; have f1 := hk.cell e1 HB7.out; have f2 := hk.cell e2 HB7.out; have f3 := hk.cell e3 HB7.out; have f4 := hk.cell e4 HB7.out
  clear e0 e1 e2 e3 e4 hp hY hk hf HC8 HY7 HB7 HL7
  have e0 := f0; have e1 := f1; have e2 := f2; have e3 := f3; have e4 := f4
  clear f0 f1 f2 f3 f4
  go_wp2_with fail
  go_ret
  exact ⟨p, _, rfl, HY8.out⟩
end Go.Proofs.Ytjiglbjpmclncaa
/-
  The law's works: some of the chapter's answers, over any program's table.
-/
namespace Go.Proofs.Ytjiglbjpmclncaa
open Go.RowKit
section
variable {o : Oper} {a : Act} {w : World} {K : Act → World → Prop} {Q : Exit → Act → World → Prop}
theorem wp_call8 {fn : Func} (f : FuncId) (args : Array Operand) (tys : Array TypeId) (ho : o.op = .call { callee := .value (.func f), args := args, argTypes := tys }) (vs : List Value) (hv : args.toList.map a.eval = vs)
    (hf : Try.prog.funcs[f]? = some fn) (hname : (fn.name == "runtime.NumGoroutine") = false) (hb : fn.body.isNone = false)
    (h : Calls Try.prog f vs.toArray w fun e w' => ∃ v, e = .returned v ∧ K (a.put o.dst v) w') : o.wp Try.prog a w K Q := by
  have hv2 : args.map a.eval = vs.toArray := by rw [← hv]; apply Array.ext'; simp
  unfold Oper.wp execOp
  have h1 : fn.name ≠ "runtime.NumGoroutine" := by simpa using hname
  have h2 : ∃ z, fn.body = some z := by
    cases h : fn.body with
    | none => rw [h] at hb; cases hb
    | some z => exact ⟨z, rfl⟩
  obtain ⟨z, h2⟩ := h2
  simp only [ho, resolve, invoke, Sem.run_bind, Sem.run_pure, Result.andThen_ok, hv2, Act.eval, Deferred.ofValue, Array.empty_append, Array.append_empty]
  simp [callFunc, hf, h1, h2, Sem.run]
  rw [Oper.upon_enter]
  exact h.mono fun e w' ⟨v, he, hk⟩ => by subst he; exact hk
end
def rwA : Rw := rwEnd (rwNew 0 1 opR 0) true 1 0 3
def rwB : Rw := rwEnd (rwNew 1 2 opW 1) false 0 0 4
def rwD : Rw := rwNew 0 3 opR 5
set_option maxHeartbeats 8000000
set_option maxRecDepth 100000
theorem works8_any (P : PTabs) (w : World) {N : Nat} (hr : P.Rdy N w) (hN : N ≤ w.heap.size) : Calls Try.prog 7 #[] w fun e w' => e = .returned (.bool true) ∧ Keeps [] w w' := by
  have HG := Lib.hid (given8_any P w hr hN)
  have K5 := Lib.hid gvOk.2.2.2.2
  clear hr
  go_enter Try.func7, Try.ntmps7
  go_wp2_with fail
  refine (HG.out).mono ?_; rintro e w1 ⟨p, O, rfl, hY⟩
  have HR := Lib.hid (P.rows hY.at_ K5.out (by decide))
  have HY := Lib.hid hY
  clear hY HG
  go_wp2_with fail
  refine (HR.out).mono ?_; rintro e w2 ⟨v', rfl, hrow, hk2⟩
  obtain ⟨g, cap, rfl, hc, hm, -, hg, hcell⟩ := hrow.at (by decide)
  have HA := Lib.hid (show w2.rangeAt g 0 (rwC rwA) from hcell 0 (by decide))
  have HB := Lib.hid (show w2.rangeAt g 12 (rwC rwB) from hcell 1 (by decide))
  have HD := Lib.hid (show w2.rangeAt g 24 (rwC rwD) from hcell 2 (by decide))
  have HK2 := Lib.hid (HY.out.k.trans hk2 (FSub.refl _ _))
  have hlen : gv5.L.length = 3 := rfl
  rw [hlen] at hc
  simp only [hlen]
  clear hrow hk2 hcell HR HY hlen
  obtain ⟨S, hS⟩ : ∃ S : World → Prop, S = fun y => Keeps [] w2 y := ⟨_, rfl⟩
  have HSE := Lib.hid hS
  have hSD : S w2.drew := by rw [hS]; exact (Keeps.refl _ _).drew
  have HSA := Lib.hid (fun (w' : World) (h : S w') => show w'.rangeAt g 0 (rwC rwA) from by rw [hS] at h; exact fun i u hi => h.cell (HA.out i u hi) (by simp))
  have HSB := Lib.hid (fun (w' : World) (h : S w') => show w'.rangeAt g 12 (rwC rwB) from by rw [hS] at h; exact fun i u hi => h.cell (HB.out i u hi) (by simp))
  have HSDD := Lib.hid (fun (w' : World) (h : S w') => show w'.rangeAt g 24 (rwC rwD) from by rw [hS] at h; exact fun i u hi => h.cell (HD.out i u hi) (by simp))
  have HS7 := Lib.hid (fun (w' : World) (h : S w') => show w'.cell? ⟨g, 7, none⟩ = some (.int .u8 1) from by rw [hS] at h; exact h.cell (HA.out 7 _ rfl) (by simp))
  have HS8 := Lib.hid (fun (w' : World) (h : S w') => show w'.cell? ⟨g, 8, none⟩ = some (.int .u16 0) from by rw [hS] at h; exact h.cell (HA.out 8 _ rfl) (by simp))
  clear hS
  go_wp2_with fail
  refine wp_region_noPanic ?_
  refine wp_region_held_drew (S := S) (by kernel_rfl) hSD (fun hHeld => ?_)
  apply wpAnyH_take (i := 0)
  · simp only [List.getElem?_toArray]; rfl
  · kernel_rfl
  · kernel_rfl
  · kernel_rfl
  · exact fun _ _ _ h => h
  · exact Or.inl ⟨by rfl, by intro w hSw; go_simp; try with_reducible rfl⟩
  · assumption
  try simp only [Act.put, List.setIfInBounds_toArray, List.set_cons_zero, List.set_cons_succ]
  apply wpAnyH_take (i := 1)
  · simp only [List.getElem?_toArray]; rfl
  · kernel_rfl
  · kernel_rfl
  · kernel_rfl
  · exact fun _ _ _ h => h
  · exact Or.inl ⟨by rfl, by intro w hSw; go_simp; try with_reducible rfl⟩
  · assumption
  try simp only [Act.put, List.setIfInBounds_toArray, List.set_cons_zero, List.set_cons_succ]
  apply wpAnyH_take (i := 2)
  · simp only [List.getElem?_toArray]; rfl
  · kernel_rfl
  · kernel_rfl
  · kernel_rfl
  · exact fun _ _ _ h => h
  · exact Or.inl ⟨by rfl, by intro w hSw; go_simp; try with_reducible rfl⟩
  · assumption
  try simp only [Act.put, List.setIfInBounds_toArray, List.set_cons_zero, List.set_cons_succ]
  apply wpAnyH_take (i := 3)
  · simp only [List.getElem?_toArray]; rfl
  · kernel_rfl
  · kernel_rfl
  · kernel_rfl
  · exact fun _ _ _ h => h
  · exact Or.inl ⟨by rfl, by intro w hSw; go_simp; try with_reducible rfl⟩
  · assumption
  try simp only [Act.put, List.setIfInBounds_toArray, List.set_cons_zero, List.set_cons_succ]
  apply wpAnyH_take (i := 4)
  · simp only [List.getElem?_toArray]; rfl
  · kernel_rfl
  · kernel_rfl
  · kernel_rfl
  · exact fun _ _ _ h => h
  · exact Or.inl ⟨by rfl, by intro w hSw; go_simp; try with_reducible rfl⟩
  · assumption
  try simp only [Act.put, List.setIfInBounds_toArray, List.set_cons_zero, List.set_cons_succ]
  apply wpAnyH_take (i := 5)
  · simp only [List.getElem?_toArray]; rfl
  · kernel_rfl
  · kernel_rfl
  · kernel_rfl
  · exact fun _ _ _ h => h
  · exact Or.inl ⟨by rfl, by intro w hSw; go_simp; try with_reducible rfl⟩
  · assumption
  try simp only [Act.put, List.setIfInBounds_toArray, List.set_cons_zero, List.set_cons_succ]
  apply wpAnyH_take (i := 6)
  · simp only [List.getElem?_toArray]; rfl
  · kernel_rfl
  · kernel_rfl
  · kernel_rfl
  · exact fun _ _ _ h => h
  · exact yields_rowP rwA (by rfl) _ rfl g 0 rfl HSA.out
  · assumption
  try simp only [Act.put, List.setIfInBounds_toArray, List.set_cons_zero, List.set_cons_succ]
  apply wpAnyH_ready (rs := [7])
  · kernel_rfl
  · simp
  apply AllReadyH.cons (hs := AllReadyH.nil)
  · simp only [List.getElem?_toArray]; rfl
  intro K hK
  rw [if_pos (by rfl)]
  refine wp_call8 27 _ _ rfl [.agg (rwC rwA).toArray, .int .u16 1, .int .u8 1, .int .i64 0, .int .i64 3] rfl Try.func27 (by kernel_rfl) (by kernel_rfl) ((show Calls Try.prog 27 _ _ (fun e w' => e = .returned (.bool true) ∧ Keeps [] _ w') from is8_any _ rwA 1 1 0 3).mono ?_)
  rintro e w3 ⟨rfl, hk3⟩
  refine ⟨_, rfl, ?_⟩
  have HK3 := Lib.hid (((Keeps.refl [] w2).drew).trans hk3 (FSub.refl _ _))
  clear hk3
  refine hK.out _ _ ?_ (fun hHeld => ?_)
  · exact (by rw [HSE.out]; exact HK3.out)
  clear hK K
  try simp only [Act.put, List.setIfInBounds_toArray, List.set_cons_zero, List.set_cons_succ]
  apply wpAnyH_take (i := 8)
  · simp only [List.getElem?_toArray]; rfl
  · kernel_rfl
  · kernel_rfl
  · kernel_rfl
  · exact fun _ _ _ h => h
  · exact Or.inl ⟨by rfl, by intro w hSw; go_simp; try with_reducible rfl⟩
  · assumption
  try simp only [Act.put, List.setIfInBounds_toArray, List.set_cons_zero, List.set_cons_succ]
  apply wpAnyH_take (i := 9)
  · simp only [List.getElem?_toArray]; rfl
  · kernel_rfl
  · kernel_rfl
  · kernel_rfl
  · exact fun _ _ _ h => h
  · exact Or.inl ⟨by rfl, by intro w hSw; go_simp; try with_reducible rfl⟩
  · assumption
  try simp only [Act.put, List.setIfInBounds_toArray, List.set_cons_zero, List.set_cons_succ]
  apply wpAnyH_take (i := 10)
  · simp only [List.getElem?_toArray]; rfl
  · kernel_rfl
  · kernel_rfl
  · kernel_rfl
  · exact fun _ _ _ h => h
  · exact Or.inl ⟨by rfl, by intro w hSw; go_simp; try with_reducible rfl⟩
  · assumption
  try simp only [Act.put, List.setIfInBounds_toArray, List.set_cons_zero, List.set_cons_succ]
  apply wpAnyH_take (i := 11)
  · simp only [List.getElem?_toArray]; rfl
  · kernel_rfl
  · kernel_rfl
  · kernel_rfl
  · exact fun _ _ _ h => h
  · exact Or.inl ⟨by rfl, by intro w hSw; go_simp; try with_reducible rfl⟩
  · assumption
  try simp only [Act.put, List.setIfInBounds_toArray, List.set_cons_zero, List.set_cons_succ]
  apply wpAnyH_take (i := 12)
  · simp only [List.getElem?_toArray]; rfl
  · kernel_rfl
  · kernel_rfl
  · kernel_rfl
  · exact fun _ _ _ h => h
  · exact yields_rowP rwB (by rfl) _ rfl g 12 rfl HSB.out
  · assumption
  try simp only [Act.put, List.setIfInBounds_toArray, List.set_cons_zero, List.set_cons_succ]
  apply wpAnyH_ready (rs := [13])
  · kernel_rfl
  · simp
  apply AllReadyH.cons (hs := AllReadyH.nil)
  · simp only [List.getElem?_toArray]; rfl
  intro K hK
  rw [if_pos (by rfl)]
  refine wp_call8 27 _ _ rfl [.agg (rwC rwB).toArray, .int .u16 2, .int .u8 2, .int .i64 1, .int .i64 4611686018427387904] rfl Try.func27 (by kernel_rfl) (by kernel_rfl) ((show Calls Try.prog 27 _ w3 (fun e w' => e = .returned (.bool true) ∧ Keeps [] w3 w') from is8_any w3 rwB 2 2 1 4611686018427387904).mono ?_)
  rintro e w4 ⟨rfl, hk⟩
  refine ⟨_, rfl, ?_⟩
  have HK4 := Lib.hid (HK3.out.trans hk (FSub.refl _ _))
  clear hk
  refine hK.out _ _ ?_ (fun hHeld => ?_)
  · exact (by rw [HSE.out]; exact HK4.out)
  clear hK K
  try simp only [Act.put, List.setIfInBounds_toArray, List.set_cons_zero, List.set_cons_succ]
  apply wpAnyH_take (i := 14)
  · simp only [List.getElem?_toArray]; rfl
  · kernel_rfl
  · kernel_rfl
  · kernel_rfl
  · exact fun _ _ _ h => h
  · exact Or.inl ⟨by rfl, by intro w hSw; go_simp; try with_reducible rfl⟩
  · assumption
  try simp only [Act.put, List.setIfInBounds_toArray, List.set_cons_zero, List.set_cons_succ]
  apply wpAnyH_take (i := 15)
  · simp only [List.getElem?_toArray]; rfl
  · kernel_rfl
  · kernel_rfl
  · kernel_rfl
  · exact fun _ _ _ h => h
  · exact Or.inl ⟨by rfl, by intro w hSw; go_simp; try with_reducible rfl⟩
  · assumption
  try simp only [Act.put, List.setIfInBounds_toArray, List.set_cons_zero, List.set_cons_succ]
  apply wpAnyH_take (i := 16)
  · simp only [List.getElem?_toArray]; rfl
  · kernel_rfl
  · kernel_rfl
  · kernel_rfl
  · exact fun _ _ _ h => h
  · exact Or.inl ⟨by rfl, by intro w hSw; go_simp; try with_reducible rfl⟩
  · assumption
  try simp only [Act.put, List.setIfInBounds_toArray, List.set_cons_zero, List.set_cons_succ]
  apply wpAnyH_take (i := 17)
  · simp only [List.getElem?_toArray]; rfl
  · kernel_rfl
  · kernel_rfl
  · kernel_rfl
  · exact fun _ _ _ h => h
  · exact Or.inl ⟨by rfl, by intro w hSw; go_simp; try with_reducible rfl⟩
  · assumption
  try simp only [Act.put, List.setIfInBounds_toArray, List.set_cons_zero, List.set_cons_succ]
  apply wpAnyH_take (i := 18)
  · simp only [List.getElem?_toArray]; rfl
  · kernel_rfl
  · kernel_rfl
  · kernel_rfl
  · exact fun _ _ _ h => h
  · exact yields_rowP rwD (by rfl) _ rfl g 24 rfl HSDD.out
  · assumption
  try simp only [Act.put, List.setIfInBounds_toArray, List.set_cons_zero, List.set_cons_succ]
  apply wpAnyH_ready (rs := [19])
  · kernel_rfl
  · simp
  apply AllReadyH.cons (hs := AllReadyH.nil)
  · simp only [List.getElem?_toArray]; rfl
  intro K hK
  rw [if_pos (by rfl)]
  refine wp_call8 27 _ _ rfl [.agg (rwC rwD).toArray, .int .u16 3, .int .u8 0, .int .i64 5, .int .i64 4611686018427387904] rfl Try.func27 (by kernel_rfl) (by kernel_rfl) ((show Calls Try.prog 27 _ w4 (fun e w' => e = .returned (.bool true) ∧ Keeps [] w4 w') from is8_any w4 rwD 3 0 5 4611686018427387904).mono ?_)
  rintro e w5 ⟨rfl, hk⟩
  refine ⟨_, rfl, ?_⟩
  have HK5 := Lib.hid (HK4.out.trans hk (FSub.refl _ _))
  clear hk
  refine hK.out _ _ ?_ (fun hHeld => ?_)
  · exact (by rw [HSE.out]; exact HK5.out)
  clear hK K
  try simp only [Act.put, List.setIfInBounds_toArray, List.set_cons_zero, List.set_cons_succ]
  apply wpAnyH_take (i := 20)
  · simp only [List.getElem?_toArray]; rfl
  · kernel_rfl
  · kernel_rfl
  · kernel_rfl
  · exact fun _ _ _ h => h
  · exact Or.inl ⟨by rfl, by intro w hSw; go_simp; try with_reducible rfl⟩
  · assumption
  try simp only [Act.put, List.setIfInBounds_toArray, List.set_cons_zero, List.set_cons_succ]
  apply wpAnyH_take (i := 21)
  · simp only [List.getElem?_toArray]; rfl
  · kernel_rfl
  · kernel_rfl
  · kernel_rfl
  · exact fun _ _ _ h => h
  · exact Or.inl ⟨by rfl, by intro w hSw; go_simp; try with_reducible rfl⟩
  · assumption
  try simp only [Act.put, List.setIfInBounds_toArray, List.set_cons_zero, List.set_cons_succ]
  apply wpAnyH_take (i := 22)
  · simp only [List.getElem?_toArray]; rfl
  · kernel_rfl
  · kernel_rfl
  · kernel_rfl
  · exact fun _ _ _ h => h
  · exact Or.inl ⟨by rfl, by intro w hSw; go_simp; try with_reducible rfl⟩
  · assumption
  try simp only [Act.put, List.setIfInBounds_toArray, List.set_cons_zero, List.set_cons_succ]
  apply wpAnyH_take (i := 23)
  · simp only [List.getElem?_toArray]; rfl
  · kernel_rfl
  · kernel_rfl
  · kernel_rfl
  · exact fun _ _ _ h => h
  · exact Or.inl ⟨by rfl, by intro w hSw; go_simp; try with_reducible rfl⟩
  · assumption
  try simp only [Act.put, List.setIfInBounds_toArray, List.set_cons_zero, List.set_cons_succ]
  apply wpAnyH_take (i := 24)
  · simp only [List.getElem?_toArray]; rfl
  · kernel_rfl
  · kernel_rfl
  · kernel_rfl
  · exact fun _ _ _ h => h
  · exact Or.inl ⟨by rfl, by intro w hSw; go_simp; try with_reducible rfl⟩
  · assumption
  try simp only [Act.put, List.setIfInBounds_toArray, List.set_cons_zero, List.set_cons_succ]
  apply wpAnyH_take (i := 25)
  · simp only [List.getElem?_toArray]; rfl
  · kernel_rfl
  · kernel_rfl
  · kernel_rfl
  · exact fun _ _ _ h => h
  · exact Or.inl ⟨by rfl, by intro w hSw; have q0 := HS7.out w hSw; have q1 := HS8.out w hSw; go_simp; try with_reducible rfl⟩
  · assumption
  try simp only [Act.put, List.setIfInBounds_toArray, List.set_cons_zero, List.set_cons_succ]
  apply wpAnyH_take (i := 26)
  · simp only [List.getElem?_toArray]; rfl
  · kernel_rfl
  · kernel_rfl
  · kernel_rfl
  · exact fun _ _ _ h => h
  · exact Or.inl ⟨by rfl, by intro w hSw; go_simp; try with_reducible rfl⟩
  · assumption
  try simp only [Act.put, List.setIfInBounds_toArray, List.set_cons_zero, List.set_cons_succ]
  apply wpAnyH_take (i := 27)
  · simp only [List.getElem?_toArray]; rfl
  · kernel_rfl
  · kernel_rfl
  · kernel_rfl
  · exact fun _ _ _ h => h
  · exact Or.inl ⟨by rfl, by intro w hSw; go_simp; try with_reducible rfl⟩
  · assumption
  try simp only [Act.put, List.setIfInBounds_toArray, List.set_cons_zero, List.set_cons_succ]
  apply wpAnyH_take (i := 28)
  · simp only [List.getElem?_toArray]; rfl
  · kernel_rfl
  · kernel_rfl
  · kernel_rfl
  · exact fun _ _ _ h => h
  · exact Or.inl ⟨by rfl, by intro w hSw; go_simp; try with_reducible rfl⟩
  · assumption
  try simp only [Act.put, List.setIfInBounds_toArray, List.set_cons_zero, List.set_cons_succ]
  apply wpAnyH_take (i := 29)
  · simp only [List.getElem?_toArray]; rfl
  · kernel_rfl
  · kernel_rfl
  · kernel_rfl
  · exact fun _ _ _ h => h
  · exact Or.inl ⟨by rfl, by intro w hSw; go_simp; try with_reducible rfl⟩
  · assumption
  try simp only [Act.put, List.setIfInBounds_toArray, List.set_cons_zero, List.set_cons_succ]
  apply wpAnyH_take (i := 30)
  · simp only [List.getElem?_toArray]; rfl
  · kernel_rfl
  · kernel_rfl
  · kernel_rfl
  · exact fun _ _ _ h => h
  · exact Or.inl ⟨by rfl, by intro w hSw; go_simp; try with_reducible rfl⟩
  · assumption
  try simp only [Act.put, List.setIfInBounds_toArray, List.set_cons_zero, List.set_cons_succ]
  apply wpAnyH_take (i := 31)
  · simp only [List.getElem?_toArray]; rfl
  · kernel_rfl
  · kernel_rfl
  · kernel_rfl
  · exact fun _ _ _ h => h
  · exact Or.inl ⟨by rfl, by intro w hSw; go_simp; try with_reducible rfl⟩
  · assumption
  try simp only [Act.put, List.setIfInBounds_toArray, List.set_cons_zero, List.set_cons_succ]
  apply wpAnyH_take (i := 32)
  · simp only [List.getElem?_toArray]; rfl
  · kernel_rfl
  · kernel_rfl
  · kernel_rfl
  · exact fun _ _ _ h => h
  · exact yields_rowP rwA (by rfl) _ rfl g 0 rfl HSA.out
  · assumption
  try simp only [Act.put, List.setIfInBounds_toArray, List.set_cons_zero, List.set_cons_succ]
  apply wpAnyH_take (i := 33)
  · simp only [List.getElem?_toArray]; rfl
  · kernel_rfl
  · kernel_rfl
  · kernel_rfl
  · exact fun _ _ _ h => h
  · exact Or.inl ⟨by rfl, by intro w hSw; go_simp; try with_reducible rfl⟩
  · assumption
  try simp only [Act.put, List.setIfInBounds_toArray, List.set_cons_zero, List.set_cons_succ]
  apply wpAnyH_take (i := 34)
  · simp only [List.getElem?_toArray]; rfl
  · kernel_rfl
  · kernel_rfl
  · kernel_rfl
  · exact fun _ _ _ h => h
  · exact Or.inl ⟨by rfl, by intro w hSw; go_simp; try with_reducible rfl⟩
  · assumption
  try simp only [Act.put, List.setIfInBounds_toArray, List.set_cons_zero, List.set_cons_succ]
  apply wpAnyH_take (i := 35)
  · simp only [List.getElem?_toArray]; rfl
  · kernel_rfl
  · kernel_rfl
  · kernel_rfl
  · exact fun _ _ _ h => h
  · exact yields_rowP rwD (by rfl) _ rfl g 24 rfl HSDD.out
  · assumption
  try simp only [Act.put, List.setIfInBounds_toArray, List.set_cons_zero, List.set_cons_succ]
  apply wpAnyH_ready (rs := [36])
  · kernel_rfl
  · simp
  apply AllReadyH.cons (hs := AllReadyH.nil)
  · simp only [List.getElem?_toArray]; rfl
  intro K hK
  rw [if_pos (by rfl)]
  refine wp_call8 22 _ _ rfl [.agg (rwC rwA).toArray, .agg (rwC rwD).toArray] rfl Try.func22 (by kernel_rfl) (by kernel_rfl) ((show Calls Try.prog 22 _ w5 (fun e w' => e = .returned (.bool true) ∧ Keeps [] w5 w') from P.before w5 rwA rwD).mono ?_)
  rintro e w6 ⟨rfl, hk⟩
  refine ⟨_, rfl, ?_⟩
  have HK6 := Lib.hid (HK5.out.trans hk (FSub.refl _ _))
  clear hk
  refine hK.out _ _ ?_ (fun hHeld => ?_)
  · exact (by rw [HSE.out]; exact HK6.out)
  clear hK K
  try simp only [Act.put, List.setIfInBounds_toArray, List.set_cons_zero, List.set_cons_succ]
  apply wpAnyH_take (i := 37)
  · simp only [List.getElem?_toArray]; rfl
  · kernel_rfl
  · kernel_rfl
  · kernel_rfl
  · exact fun _ _ _ h => h
  · exact Or.inl ⟨by rfl, by intro w hSw; go_simp; try with_reducible rfl⟩
  · assumption
  try simp only [Act.put, List.setIfInBounds_toArray, List.set_cons_zero, List.set_cons_succ]
  apply wpAnyH_take (i := 38)
  · simp only [List.getElem?_toArray]; rfl
  · kernel_rfl
  · kernel_rfl
  · kernel_rfl
  · exact fun _ _ _ h => h
  · exact Or.inl ⟨by rfl, by intro w hSw; go_simp; try with_reducible rfl⟩
  · assumption
  try simp only [Act.put, List.setIfInBounds_toArray, List.set_cons_zero, List.set_cons_succ]
  refine wpAnyH_done (by kernel_rfl) ?_ _
  refine NoPanic.normal ?_
  clear hHeld hSD HSA HSB HSDD HS7 HS8
  go_wp2_with fail
  go_ret
  exact ⟨rfl, HK2.out.trans HK6.out (FSub.refl _ _)⟩
end Go.Proofs.Ytjiglbjpmclncaa
