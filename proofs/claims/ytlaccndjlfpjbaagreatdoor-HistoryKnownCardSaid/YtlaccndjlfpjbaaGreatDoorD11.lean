/-
  Is an event valid? The program's answer.
-/
import Derived.Deep.RegionHeld3
import Derived.Test.YtlaccndjlfpjbaaGreatDoorD09
set_option linter.unusedSimpArgs false
set_option linter.unusedVariables false
namespace Go.Proofs.YtlaccndjlfpjbaaGreatDoor
open Go.RowKit
/-- The lists of what an event's kind needs. -/
def needT (x : Ev) (tx : Value) : Value := if x.k = 5 then tx else .slice none 0 0
def needR (x : Ev) (rd : Value) : Value := if x.k = 6 then rd else .slice none 0 0
/-- The functions of a kind. -/
def kNeed (k : Int) : Nat := if k = 1 then 72 else if k = 2 then 76 else if k = 3 then 80 else if k = 5 then 88 else if k = 6 then 92 else 84
def kFits (k : Int) : Nat := if k = 1 then 73 else if k = 2 then 77 else if k = 3 then 81 else if k = 5 then 89 else if k = 6 then 93 else 85
def kWrite (k : Int) : Nat := if k = 1 then 74 else if k = 2 then 78 else if k = 3 then 82 else if k = 5 then 90 else if k = 6 then 94 else 86
def kRead (k : Int) : Nat := if k = 1 then 75 else if k = 2 then 79 else if k = 3 then 83 else if k = 5 then 91 else if k = 6 then 95 else 87
theorem kindOf_eq {k : Int} (h1 : 1 ≤ k) (h7 : k ≤ 7) : kindOf k = #[.func (.func (kNeed k)) #[] #[], .func (.func (kFits k)) #[] #[], .func (.func (kWrite k)) #[] #[], .func (.func (kRead k)) #[] #[]] := by
  rcases (by omega : k = 1 ∨ k = 2 ∨ k = 3 ∨ k = 4 ∨ k = 5 ∨ k = 6 ∨ k = 7) with rfl | rfl | rfl | rfl | rfl | rfl | rfl <;> rfl
theorem need_any (w : World) (x : Ev) (hk1 : 1 ≤ x.k) (hk7 : x.k ≤ 7) (tx rd : Value) (h1 : tx.oneCell' = true) (h2 : rd.oneCell' = true) : Calls Tryz.prog (kNeed x.k) #[.agg (evC x tx rd)] w fun e w' =>
    e = .returned (.agg (evC (evNeed x) (needT x tx) (needR x rd))) ∧ Keeps [] w w' := by
  unfold kNeed needT needR evNeed
  rcases (by omega : x.k = 1 ∨ x.k = 2 ∨ x.k = 3 ∨ x.k = 4 ∨ x.k = 5 ∨ x.k = 6 ∨ x.k = 7) with h | h | h | h | h | h | h
  · have e := ofConfigure_any w x tx rd; rw [h] at e ⊢; exact e
  · have e := ofInvoke_any w x tx rd; rw [h]; exact e
  · have e := ofReturn_any w x tx rd; rw [h]; exact e
  · have e := ofWho_any w x tx rd; rw [h]; exact e
  · have e := ofBegin_any w x tx rd h1; rw [h]; exact e
  · have e := ofCommit_any w x tx rd h2; rw [h]; exact e
  · have e := ofWho_any w x tx rd; rw [h]; exact e
theorem fits_any (w : World) (hG : Glob4 w) (x : Ev) (hx : x.In) (hk1 : 1 ≤ x.k) (hk7 : x.k ≤ 7) {N : Nat} (tx rd : Value) (ht : EvAt N w tx rd x) (hN : N ≤ w.heap.size) : Calls Tryz.prog (kFits x.k) #[.agg (evC x tx rd)] w fun e w' =>
    e = .returned (.bool (evFits x)) ∧ Keeps [] w w' := by
  unfold kFits evFits
  rcases (by omega : x.k = 1 ∨ x.k = 2 ∨ x.k = 3 ∨ x.k = 4 ∨ x.k = 5 ∨ x.k = 6 ∨ x.k = 7) with h | h | h | h | h | h | h
  · have e := fitsConfigure_any w x tx rd; rw [h]; exact e
  · have e := fitsInvoke_any w hG x hx.o tx rd; rw [h]; exact e
  · have e := fitsReturn_any w x hx.rk0 hx.rk1 tx rd; rw [h]; exact e
  · have e := fitsWho_any w x tx rd; rw [h]; exact e
  · have e := fitsBegin_any w x hx.t tx rd ht.t hN; rw [h]; exact e
  · have e := fitsCommit_any w x tx rd ht.r hN; rw [h]; exact e
  · have e := fitsWho_any w x tx rd; rw [h]; exact e
theorem needAt5 {N : Nat} {w : World} {tx rd : Value} {x : Ev} (hk1 : 1 ≤ x.k) (hk7 : x.k ≤ 7) (h : EvAt N w tx rd x) : EvAt N w (needT x tx) (needR x rd) (evNeed x) := by
  unfold needT needR evNeed
  rcases (by omega : x.k = 1 ∨ x.k = 2 ∨ x.k = 3 ∨ x.k = 4 ∨ x.k = 5 ∨ x.k = 6 ∨ x.k = 7) with e | e | e | e | e | e | e <;> rw [e]
  · exact ⟨Mics.nil _ _, Lists.nil _ _⟩
  · exact ⟨Mics.nil _ _, Lists.nil _ _⟩
  · exact ⟨Mics.nil _ _, Lists.nil _ _⟩
  · exact ⟨Mics.nil _ _, Lists.nil _ _⟩
  · exact ⟨h.t, Lists.nil _ _⟩
  · exact ⟨Mics.nil _ _, h.r⟩
  · exact ⟨Mics.nil _ _, Lists.nil _ _⟩
theorem enter_kinds {k : Int} (h1 : 1 ≤ k) (h7 : k ≤ 7) : (∀ v w, (callFunc (kNeed k) #[v]).run Tryz.prog w = .ok (.enter (kNeed k) #[v]) w) ∧ (∀ v w, (callFunc (kFits k) #[v]).run Tryz.prog w = .ok (.enter (kFits k) #[v]) w) ∧
    (∀ u v w, (callFunc (kWrite k) #[u, v]).run Tryz.prog w = .ok (.enter (kWrite k) #[u, v]) w) ∧ (∀ u v w, (callFunc (kRead k) #[u, v]).run Tryz.prog w = .ok (.enter (kRead k) #[u, v]) w) := by
  rcases (by omega : k = 1 ∨ k = 2 ∨ k = 3 ∨ k = 4 ∨ k = 5 ∨ k = 6 ∨ k = 7) with rfl | rfl | rfl | rfl | rfl | rfl | rfl
  all_goals
    refine ⟨fun v w => ?_, fun v w => ?_, fun u v w => ?_, fun u v w => ?_⟩
    all_goals simp [kNeed, kFits, kWrite, kRead, go_sem]
/-- What Check reads: the event, and two functions of its kind. -/
def CheckS (b B : Nat) (x : Ev) (tx rd : Value) (KN KF : Nat) (w : World) : Prop :=
  w.heap[b]? = some (.cells (evC x tx rd) 42 (0, 0)) ∧ w.cell? ⟨B, 0, none⟩ = some (.func (.func KN) #[] #[]) ∧ w.cell? ⟨B, 1, none⟩ = some (.func (.func KF) #[] #[])
theorem CheckS.keeps {b B : Nat} {x : Ev} {tx rd : Value} {KN KF : Nat} {w w' : World} (h : CheckS b B x tx rd KN KF w) (hk : Keeps [] w w') : CheckS b B x tx rd KN KF w' :=
  ⟨hk.heap h.1 (by simp), hk.cell h.2.1 (by simp), hk.cell h.2.2 (by simp)⟩
theorem CheckS.load {b B : Nat} {x : Ev} {tx rd : Value} {KN KF : Nat} (w : World) (h : CheckS b B x tx rd KN KF w) : (Instr.loadAt 42 (.pointer (some ⟨b, 0, none⟩))).run Tryz.prog w = .ok (.agg (evC x tx rd)) w := by
  simp only [Instr.loadAt, Instr.sureAddr, Sem.run_bind, Sem.run_pure, Result.andThen_ok, run_loadVar_row w _ _ 42 _ _ _ h.1 Tryz.underlying42 rfl (by kernel_rfl)]
/-- A load of a whole event may be taken first. -/
theorem yields_ev {ops : Array Oper} {S : World → Prop} {o : Oper} {a : Act} {C : Array Value} (hw : Region.wanted o (yielded ops a.tmps) = true) (x : Operand) (ho : o.op = .load 42 x) (b : Nat) (hx : a.eval x = .pointer (some ⟨b, 0, none⟩))
    (hS : ∀ w, S w → (Instr.loadAt 42 (.pointer (some ⟨b, 0, none⟩))).run Tryz.prog w = .ok (.agg C) w) : YieldsIf Tryz.prog ops S o (.agg C) a :=
  .inl ⟨hw, fun w hw' => by
    unfold execOp
    simp only [ho, hx, Sem.run_bind, hS w hw', Result.andThen_ok, Sem.run_pure]⟩
set_option maxHeartbeats 8000000 in
set_option maxRecDepth 100000 in
theorem Check5_any (w : World) (hG : Glob4 w) (x : Ev) (hx : x.In) {N : Nat} (tx rd : Value) (ht : EvAt N w tx rd x) (hN : N ≤ w.heap.size) : Calls Tryz.prog 38 #[.agg (evC x tx rd)] w fun e w' =>
    e = .returned (.int .i64 (evErr x)) ∧ Keeps [] w w' := by
  have E0 := evC_0 x tx rd
  generalize hR : evErr x = R at *
  unfold evErr evGood at hR
  have HR := Lib.hid hR; clear hR
  have hX := heap_alloc_new w (.cells (evC x tx rd) 42)
  have hk0 := (Keeps.refl [] w).alloc (.cells (evC x tx rd) 42)
  by_cases hk : 1 ≤ x.k ∧ x.k ≤ 7
  · have hek : evKind x.k = true := by simpa [evKind] using hk
    have hfi := fun w => find5_yes w x.k hk.1 hk.2
    rw [kindOf_eq hk.1 hk.2] at hfi
    have hne := fun w => need_any w x hk.1 hk.2 tx rd ht.t.one ht.r.one
    have hft := fun w hG h hN => fits_any w hG x hx hk.1 hk.2 (N := N) tx rd h hN
    have hn5 := fun w (h : EvAt N w tx rd x) => needAt5 hk.1 hk.2 h
    obtain ⟨en1, en2, en3, en4⟩ := enter_kinds hk.1 hk.2
    clear en3 en4
    generalize kNeed x.k = KN at *
    generalize kFits x.k = KF at *
    generalize kWrite x.k = KW at *
    generalize kRead x.k = KR at *
    go_enter Tryz.func38, Tryz.ntmps38
    go_wp2_with fail
    refine (hfi _).mono ?_; rintro e w1 ⟨rfl, hk1⟩
    have hX1 := hk1.heap hX (by simp)
    have hK1 := hk0.trans hk1 (FSub.refl _ _)
    clear hX hk0 hk1 hfi E0
    go_wp2_with ((with_reducible apply wpList_put_row (T := 85) 4); exact rfl; exact rfl; exact heap_alloc_at (by simp); exact ⟨rfl, rfl⟩; kernel_rfl; exact rfl)
    intro W2 hb2 hk2
    have hz1 := lt_of_block hX1
    have hX2 := hk2.heap (heap_alloc_lt hX1) (by simp; omega)
    have hK2 := (hK1.alloc _).trans hk2 (fun g hg => .inr (by have := hK1.size; simp at hg; omega))
    clear hX1 hk2
    generalize w1.heap.size = B at *
    clear hK1 hz1
    have c1 := ev_cell hX2 1 (evC_1 x tx rd)
    have k0 : W2.cell? ⟨B, 0, none⟩ = some (.func (.func KN) #[] #[]) := by simp [World.cell?, hb2]
    have k1 : W2.cell? ⟨B, 1, none⟩ = some (.func (.func KF) #[] #[]) := by simp [World.cell?, hb2]
    clear hb2
    by_cases hc : 16 ≤ x.c
    · have hr := HR.out
      have hd : decide (x.c < 16) = false := by simp; omega
      rw [hd] at hr
      simp at hr
      subst hr
      clear HR hne hft hn5 hX2 hd ht
      go_wp2_with fail
      go_quiet (fail)
      go_wp2_with fail
      go_ret
      exact ⟨rfl, hK2.drewN _⟩
    · have hload := fun w' => CheckS.load (b := w.heap.size) (B := B) (x := x) (tx := tx) (rd := rd) (KN := KN) (KF := KF) w'
      have HL := Lib.hid hload; clear hload
      have hc1 : ∀ w', CheckS w.heap.size B x tx rd KN KF w' → w'.cell? ⟨w.heap.size, 1, none⟩ = some (.int .u8 x.c) := fun w' h => ev_cell h.1 1 (evC_1 x tx rd)
      have hs2 : ∀ w', CheckS w.heap.size B x tx rd KN KF w' → w'.cell? ⟨B, 0, none⟩ = some (.func (.func KN) #[] #[]) := fun w' h => h.2.1
      have hs3 : ∀ w', CheckS w.heap.size B x tx rd KN KF w' → w'.cell? ⟨B, 1, none⟩ = some (.func (.func KF) #[] #[]) := fun w' h => h.2.2
      have hd : decide (x.c < 16) = true := by simp; omega
      have hcd : decide (16 ≤ x.c) = false := by simp; omega
      have hKD : Keeps [] w W2.drew := hK2.drew
      have hSD : CheckS w.heap.size B x tx rd KN KF W2.drew := ⟨hX2, k0, k1⟩
      have hft1 := hft W2.drew (hG.new hKD) (ht.new hKD hN) (Nat.le_trans hN hKD.size)
      have HKD := Lib.hid hKD; have HSD := Lib.hid hSD
      clear hKD hft hX2 c1 k0 k1
      rcases bool_two (evFits x) with hf | hf
      · rw [hf] at hft1
        have hr := HR.out
        rw [hek, hd, hf] at hr
        clear HR hf hd hek
        go_wp2_with fail
        refine wp_region_noPanic ?_
        refine wp_region_held_drew (S := (fun w' => CheckS w.heap.size B x tx rd KN KF w')) (by kernel_rfl) HSD.out (fun hHeld => ?_)
        apply wpAnyH_take (i := 0)
        · simp only [List.getElem?_toArray]; rfl
        · kernel_rfl
        · kernel_rfl
        · kernel_rfl
        · exact fun _ _ _ h => h
        · exact Or.inl ⟨by rfl, by intro w hSw; go_simp; try with_reducible rfl⟩
        · assumption
        try simp only [Act.put, List.setIfInBounds_toArray, List.set_cons_zero, List.set_cons_succ]
        apply wpAnyH_take (i := 1)
        · simp only [List.getElem?_toArray]; rfl
        · kernel_rfl
        · kernel_rfl
        · kernel_rfl
        · exact fun _ _ _ h => h
        · exact Or.inl ⟨by rfl, by intro w hSw; go_simp; try with_reducible rfl⟩
        · assumption
        try simp only [Act.put, List.setIfInBounds_toArray, List.set_cons_zero, List.set_cons_succ]
        apply wpAnyH_take (i := 2)
        · simp only [List.getElem?_toArray]; rfl
        · kernel_rfl
        · kernel_rfl
        · kernel_rfl
        · exact fun _ _ _ h => h
        · exact Or.inl ⟨by rfl, by intro w hSw; go_simp; try with_reducible rfl⟩
        · assumption
        try simp only [Act.put, List.setIfInBounds_toArray, List.set_cons_zero, List.set_cons_succ]
        apply wpAnyH_take (i := 3)
        · simp only [List.getElem?_toArray]; rfl
        · kernel_rfl
        · kernel_rfl
        · kernel_rfl
        · exact fun _ _ _ h => h
        · exact Or.inl ⟨by rfl, by intro w hSw; go_simp; try with_reducible rfl⟩
        · assumption
        try simp only [Act.put, List.setIfInBounds_toArray, List.set_cons_zero, List.set_cons_succ]
        apply wpAnyH_take (i := 4)
        · simp only [List.getElem?_toArray]; rfl
        · kernel_rfl
        · kernel_rfl
        · kernel_rfl
        · exact fun _ _ _ h => h
        · exact Or.inl ⟨by rfl, by intro w hSw; go_simp; try with_reducible rfl⟩
        · assumption
        try simp only [Act.put, List.setIfInBounds_toArray, List.set_cons_zero, List.set_cons_succ]
        apply wpAnyH_take (i := 5)
        · simp only [List.getElem?_toArray]; rfl
        · kernel_rfl
        · kernel_rfl
        · kernel_rfl
        · exact fun _ _ _ h => h
        · exact Or.inl ⟨by rfl, by intro w hSw; go_simp; try with_reducible rfl⟩
        · assumption
        try simp only [Act.put, List.setIfInBounds_toArray, List.set_cons_zero, List.set_cons_succ]
        apply wpAnyH_take (i := 6)
        · simp only [List.getElem?_toArray]; rfl
        · kernel_rfl
        · kernel_rfl
        · kernel_rfl
        · exact fun _ _ _ h => h
        · exact Or.inl ⟨by rfl, by intro w hSw; go_simp; try with_reducible rfl⟩
        · assumption
        try simp only [Act.put, List.setIfInBounds_toArray, List.set_cons_zero, List.set_cons_succ]
        apply wpAnyH_take (i := 7)
        · simp only [List.getElem?_toArray]; rfl
        · kernel_rfl
        · kernel_rfl
        · kernel_rfl
        · exact fun _ _ _ h => h
        · exact Or.inl ⟨by rfl, by intro w hSw; go_simp; try with_reducible rfl⟩
        · assumption
        try simp only [Act.put, List.setIfInBounds_toArray, List.set_cons_zero, List.set_cons_succ]
        apply wpAnyH_take (i := 8)
        · simp only [List.getElem?_toArray]; rfl
        · kernel_rfl
        · kernel_rfl
        · kernel_rfl
        · exact fun _ _ _ h => h
        · exact Or.inl ⟨by rfl, by intro w hSw; go_simp; try with_reducible rfl⟩
        · assumption
        try simp only [Act.put, List.setIfInBounds_toArray, List.set_cons_zero, List.set_cons_succ]
        apply wpAnyH_take (i := 9)
        · simp only [List.getElem?_toArray]; rfl
        · kernel_rfl
        · kernel_rfl
        · kernel_rfl
        · exact fun _ _ _ h => h
        · exact Or.inl ⟨by rfl, by intro w hSw; go_simp; try with_reducible rfl⟩
        · assumption
        try simp only [Act.put, List.setIfInBounds_toArray, List.set_cons_zero, List.set_cons_succ]
        apply wpAnyH_take (i := 10)
        · simp only [List.getElem?_toArray]; rfl
        · kernel_rfl
        · kernel_rfl
        · kernel_rfl
        · exact fun _ _ _ h => h
        · exact yields_ev (by rfl) _ rfl _ rfl HL.out
        · assumption
        try simp only [Act.put, List.setIfInBounds_toArray, List.set_cons_zero, List.set_cons_succ]
        apply wpAnyH_ready (rs := [11])
        · kernel_rfl
        · simp
        apply AllReadyH.cons (hs := AllReadyH.nil)
        · simp only [List.getElem?_toArray]; rfl
        intro K hK
        rw [if_pos (by rfl)]
        go_simp
        refine hft1.mono ?_; rintro e wA ⟨rfl, hkA⟩
        have hSA := HSD.out.keeps hkA
        go_wp2_with fail
        refine hK.out _ _ ?_ (fun hHeld => ?_)
        · exact hSA
        clear hK K
        try simp only [Act.put, List.setIfInBounds_toArray, List.set_cons_zero, List.set_cons_succ]
        apply wpAnyH_take (i := 12)
        · simp only [List.getElem?_toArray]; rfl
        · kernel_rfl
        · kernel_rfl
        · kernel_rfl
        · exact fun _ _ _ h => h
        · exact Or.inl ⟨by rfl, by intro w hSw; go_simp; try with_reducible rfl⟩
        · assumption
        try simp only [Act.put, List.setIfInBounds_toArray, List.set_cons_zero, List.set_cons_succ]
        apply wpAnyH_take (i := 13)
        · simp only [List.getElem?_toArray]; rfl
        · kernel_rfl
        · kernel_rfl
        · kernel_rfl
        · exact fun _ _ _ h => h
        · exact Or.inl ⟨by rfl, by intro w hSw; go_simp; try with_reducible rfl⟩
        · assumption
        try simp only [Act.put, List.setIfInBounds_toArray, List.set_cons_zero, List.set_cons_succ]
        apply wpAnyH_take (i := 14)
        · simp only [List.getElem?_toArray]; rfl
        · kernel_rfl
        · kernel_rfl
        · kernel_rfl
        · exact fun _ _ _ h => h
        · exact Or.inl ⟨by rfl, by intro w hSw; go_simp; try with_reducible rfl⟩
        · assumption
        try simp only [Act.put, List.setIfInBounds_toArray, List.set_cons_zero, List.set_cons_succ]
        apply wpAnyH_take (i := 15)
        · simp only [List.getElem?_toArray]; rfl
        · kernel_rfl
        · kernel_rfl
        · kernel_rfl
        · exact fun _ _ _ h => h
        · exact yields_ev (by rfl) _ rfl _ rfl HL.out
        · assumption
        try simp only [Act.put, List.setIfInBounds_toArray, List.set_cons_zero, List.set_cons_succ]
        apply wpAnyH_take (i := 16)
        · simp only [List.getElem?_toArray]; rfl
        · kernel_rfl
        · kernel_rfl
        · kernel_rfl
        · exact fun _ _ _ h => h
        · exact Or.inl ⟨by rfl, by intro w hSw; go_simp; try with_reducible rfl⟩
        · assumption
        try simp only [Act.put, List.setIfInBounds_toArray, List.set_cons_zero, List.set_cons_succ]
        apply wpAnyH_take (i := 17)
        · simp only [List.getElem?_toArray]; rfl
        · kernel_rfl
        · kernel_rfl
        · kernel_rfl
        · exact fun _ _ _ h => h
        · exact Or.inl ⟨by rfl, by intro w hSw; go_simp; try with_reducible rfl⟩
        · assumption
        try simp only [Act.put, List.setIfInBounds_toArray, List.set_cons_zero, List.set_cons_succ]
        apply wpAnyH_take (i := 18)
        · simp only [List.getElem?_toArray]; rfl
        · kernel_rfl
        · kernel_rfl
        · kernel_rfl
        · exact fun _ _ _ h => h
        · exact yields_ev (by rfl) _ rfl _ rfl HL.out
        · assumption
        try simp only [Act.put, List.setIfInBounds_toArray, List.set_cons_zero, List.set_cons_succ]
        apply wpAnyH_ready (rs := [19])
        · kernel_rfl
        · simp
        apply AllReadyH.cons (hs := AllReadyH.nil)
        · simp only [List.getElem?_toArray]; rfl
        intro K hK
        rw [if_pos (by rfl)]
        go_simp
        have hKA := HKD.out.trans hkA (FSub.refl _ _)
        refine (hne _).mono ?_; rintro e wB ⟨rfl, hkB⟩
        have hSB := hSA.keeps hkB
        have hKB := hKA.trans hkB (FSub.refl _ _)
        go_wp2_with fail
        refine hK.out _ _ ?_ (fun hHeld => ?_)
        · exact hSB
        clear hK K
        try simp only [Act.put, List.setIfInBounds_toArray, List.set_cons_zero, List.set_cons_succ]
        apply wpAnyH_ready (rs := [20])
        · kernel_rfl
        · simp
        apply AllReadyH.cons (hs := AllReadyH.nil)
        · simp only [List.getElem?_toArray]; rfl
        intro K hK
        rw [if_pos (by rfl)]
        go_simp
        refine (Same5_any _ x (evNeed x) tx rd (needT x tx) (needR x rd) (ht.new hKB hN) (hn5 _ (ht.new hKB hN)) (Nat.le_trans hN hKB.size) (Nat.le_trans hN hKB.size)).mono ?_; rintro e wC ⟨rfl, hkC⟩
        have hSC := hSB.keeps hkC
        go_wp2_with fail
        refine hK.out _ _ ?_ (fun hHeld => ?_)
        · exact hSC
        clear hK K
        try simp only [Act.put, List.setIfInBounds_toArray, List.set_cons_zero, List.set_cons_succ]
        apply wpAnyH_take (i := 21)
        · simp only [List.getElem?_toArray]; rfl
        · kernel_rfl
        · kernel_rfl
        · kernel_rfl
        · exact fun _ _ _ h => h
        · exact Or.inl ⟨by rfl, by intro w hSw; go_simp; try with_reducible rfl⟩
        · assumption
        try simp only [Act.put, List.setIfInBounds_toArray, List.set_cons_zero, List.set_cons_succ]
        apply wpAnyH_take (i := 22)
        · simp only [List.getElem?_toArray]; rfl
        · kernel_rfl
        · kernel_rfl
        · kernel_rfl
        · exact fun _ _ _ h => h
        · exact Or.inl ⟨by rfl, by intro w hSw; go_simp; try with_reducible rfl⟩
        · assumption
        try simp only [Act.put, List.setIfInBounds_toArray, List.set_cons_zero, List.set_cons_succ]
        refine wpAnyH_done (by kernel_rfl) ?_ _
        refine NoPanic.normal ?_
        rcases bool_two (evSame x (evNeed x)) with hs | hs
        all_goals
          rw [hs] at hr ⊢
          simp at hr
          subst hr
          go_wp2_with fail
          go_ret
          exact ⟨rfl, hKB.trans hkC (FSub.refl _ _)⟩
      · have hr := HR.out
        rw [hek, hd, hf] at hr
        simp at hr
        subst hr
        rw [hf] at hft1
        clear HR hf hne hn5 ht hd hek
        go_wp2_with fail
        refine wp_region_noPanic ?_
        refine wp_region_held_drew (S := (fun w' => CheckS w.heap.size B x tx rd KN KF w')) (by kernel_rfl) HSD.out (fun hHeld => ?_)
        apply wpAnyH_take (i := 0)
        · simp only [List.getElem?_toArray]; rfl
        · kernel_rfl
        · kernel_rfl
        · kernel_rfl
        · exact fun _ _ _ h => h
        · exact Or.inl ⟨by rfl, by intro w hSw; go_simp; try with_reducible rfl⟩
        · assumption
        try simp only [Act.put, List.setIfInBounds_toArray, List.set_cons_zero, List.set_cons_succ]
        apply wpAnyH_take (i := 1)
        · simp only [List.getElem?_toArray]; rfl
        · kernel_rfl
        · kernel_rfl
        · kernel_rfl
        · exact fun _ _ _ h => h
        · exact Or.inl ⟨by rfl, by intro w hSw; go_simp; try with_reducible rfl⟩
        · assumption
        try simp only [Act.put, List.setIfInBounds_toArray, List.set_cons_zero, List.set_cons_succ]
        apply wpAnyH_take (i := 2)
        · simp only [List.getElem?_toArray]; rfl
        · kernel_rfl
        · kernel_rfl
        · kernel_rfl
        · exact fun _ _ _ h => h
        · exact Or.inl ⟨by rfl, by intro w hSw; go_simp; try with_reducible rfl⟩
        · assumption
        try simp only [Act.put, List.setIfInBounds_toArray, List.set_cons_zero, List.set_cons_succ]
        apply wpAnyH_take (i := 3)
        · simp only [List.getElem?_toArray]; rfl
        · kernel_rfl
        · kernel_rfl
        · kernel_rfl
        · exact fun _ _ _ h => h
        · exact Or.inl ⟨by rfl, by intro w hSw; go_simp; try with_reducible rfl⟩
        · assumption
        try simp only [Act.put, List.setIfInBounds_toArray, List.set_cons_zero, List.set_cons_succ]
        apply wpAnyH_take (i := 4)
        · simp only [List.getElem?_toArray]; rfl
        · kernel_rfl
        · kernel_rfl
        · kernel_rfl
        · exact fun _ _ _ h => h
        · exact Or.inl ⟨by rfl, by intro w hSw; go_simp; try with_reducible rfl⟩
        · assumption
        try simp only [Act.put, List.setIfInBounds_toArray, List.set_cons_zero, List.set_cons_succ]
        apply wpAnyH_take (i := 5)
        · simp only [List.getElem?_toArray]; rfl
        · kernel_rfl
        · kernel_rfl
        · kernel_rfl
        · exact fun _ _ _ h => h
        · exact Or.inl ⟨by rfl, by intro w hSw; go_simp; try with_reducible rfl⟩
        · assumption
        try simp only [Act.put, List.setIfInBounds_toArray, List.set_cons_zero, List.set_cons_succ]
        apply wpAnyH_take (i := 6)
        · simp only [List.getElem?_toArray]; rfl
        · kernel_rfl
        · kernel_rfl
        · kernel_rfl
        · exact fun _ _ _ h => h
        · exact Or.inl ⟨by rfl, by intro w hSw; go_simp; try with_reducible rfl⟩
        · assumption
        try simp only [Act.put, List.setIfInBounds_toArray, List.set_cons_zero, List.set_cons_succ]
        apply wpAnyH_take (i := 7)
        · simp only [List.getElem?_toArray]; rfl
        · kernel_rfl
        · kernel_rfl
        · kernel_rfl
        · exact fun _ _ _ h => h
        · exact Or.inl ⟨by rfl, by intro w hSw; go_simp; try with_reducible rfl⟩
        · assumption
        try simp only [Act.put, List.setIfInBounds_toArray, List.set_cons_zero, List.set_cons_succ]
        apply wpAnyH_take (i := 8)
        · simp only [List.getElem?_toArray]; rfl
        · kernel_rfl
        · kernel_rfl
        · kernel_rfl
        · exact fun _ _ _ h => h
        · exact Or.inl ⟨by rfl, by intro w hSw; go_simp; try with_reducible rfl⟩
        · assumption
        try simp only [Act.put, List.setIfInBounds_toArray, List.set_cons_zero, List.set_cons_succ]
        apply wpAnyH_take (i := 9)
        · simp only [List.getElem?_toArray]; rfl
        · kernel_rfl
        · kernel_rfl
        · kernel_rfl
        · exact fun _ _ _ h => h
        · exact Or.inl ⟨by rfl, by intro w hSw; go_simp; try with_reducible rfl⟩
        · assumption
        try simp only [Act.put, List.setIfInBounds_toArray, List.set_cons_zero, List.set_cons_succ]
        apply wpAnyH_take (i := 10)
        · simp only [List.getElem?_toArray]; rfl
        · kernel_rfl
        · kernel_rfl
        · kernel_rfl
        · exact fun _ _ _ h => h
        · exact yields_ev (by rfl) _ rfl _ rfl HL.out
        · assumption
        try simp only [Act.put, List.setIfInBounds_toArray, List.set_cons_zero, List.set_cons_succ]
        apply wpAnyH_ready (rs := [11])
        · kernel_rfl
        · simp
        apply AllReadyH.cons (hs := AllReadyH.nil)
        · simp only [List.getElem?_toArray]; rfl
        intro K hK
        rw [if_pos (by rfl)]
        go_simp
        refine hft1.mono ?_; rintro e wA ⟨rfl, hkA⟩
        have hSA := HSD.out.keeps hkA
        go_wp2_with fail
        refine hK.out _ _ ?_ (fun hHeld => ?_)
        · exact hSA
        clear hK K
        try simp only [Act.put, List.setIfInBounds_toArray, List.set_cons_zero, List.set_cons_succ]
        apply wpAnyH_take (i := 12)
        · simp only [List.getElem?_toArray]; rfl
        · kernel_rfl
        · kernel_rfl
        · kernel_rfl
        · exact fun _ _ _ h => h
        · exact Or.inl ⟨by rfl, by intro w hSw; go_simp; try with_reducible rfl⟩
        · assumption
        try simp only [Act.put, List.setIfInBounds_toArray, List.set_cons_zero, List.set_cons_succ]
        apply wpAnyH_take (i := 13)
        · simp only [List.getElem?_toArray]; rfl
        · kernel_rfl
        · kernel_rfl
        · kernel_rfl
        · exact fun _ _ _ h => h
        · exact Or.inl ⟨by rfl, by intro w hSw; go_simp; try with_reducible rfl⟩
        · assumption
        try simp only [Act.put, List.setIfInBounds_toArray, List.set_cons_zero, List.set_cons_succ]
        apply wpAnyH_take (i := 14)
        · simp only [List.getElem?_toArray]; rfl
        · kernel_rfl
        · kernel_rfl
        · kernel_rfl
        · exact fun _ _ _ h => h
        · exact Or.inl ⟨by rfl, by intro w hSw; go_simp; try with_reducible rfl⟩
        · assumption
        try simp only [Act.put, List.setIfInBounds_toArray, List.set_cons_zero, List.set_cons_succ]
        apply wpAnyH_take (i := 15)
        · simp only [List.getElem?_toArray]; rfl
        · kernel_rfl
        · kernel_rfl
        · kernel_rfl
        · exact fun _ _ _ h => h
        · exact Or.inr ⟨by rfl, rfl⟩
        · assumption
        try simp only [Act.put, List.setIfInBounds_toArray, List.set_cons_zero, List.set_cons_succ]
        apply wpAnyH_take (i := 16)
        · simp only [List.getElem?_toArray]; rfl
        · kernel_rfl
        · kernel_rfl
        · kernel_rfl
        · exact fun _ _ _ h => h
        · exact Or.inr ⟨by rfl, rfl⟩
        · assumption
        try simp only [Act.put, List.setIfInBounds_toArray, List.set_cons_zero, List.set_cons_succ]
        apply wpAnyH_take (i := 17)
        · simp only [List.getElem?_toArray]; rfl
        · kernel_rfl
        · kernel_rfl
        · kernel_rfl
        · exact fun _ _ _ h => h
        · exact Or.inr ⟨by rfl, rfl⟩
        · assumption
        try simp only [Act.put, List.setIfInBounds_toArray, List.set_cons_zero, List.set_cons_succ]
        apply wpAnyH_take (i := 18)
        · simp only [List.getElem?_toArray]; rfl
        · kernel_rfl
        · kernel_rfl
        · kernel_rfl
        · exact fun _ _ _ h => h
        · exact Or.inr ⟨by rfl, rfl⟩
        · assumption
        try simp only [Act.put, List.setIfInBounds_toArray, List.set_cons_zero, List.set_cons_succ]
        apply wpAnyH_take (i := 19)
        · simp only [List.getElem?_toArray]; rfl
        · kernel_rfl
        · kernel_rfl
        · kernel_rfl
        · exact fun _ _ _ h => h
        · exact Or.inr ⟨by rfl, rfl⟩
        · assumption
        try simp only [Act.put, List.setIfInBounds_toArray, List.set_cons_zero, List.set_cons_succ]
        apply wpAnyH_take (i := 20)
        · simp only [List.getElem?_toArray]; rfl
        · kernel_rfl
        · kernel_rfl
        · kernel_rfl
        · exact fun _ _ _ h => h
        · exact Or.inr ⟨by rfl, rfl⟩
        · assumption
        try simp only [Act.put, List.setIfInBounds_toArray, List.set_cons_zero, List.set_cons_succ]
        apply wpAnyH_take (i := 21)
        · simp only [List.getElem?_toArray]; rfl
        · kernel_rfl
        · kernel_rfl
        · kernel_rfl
        · exact fun _ _ _ h => h
        · exact Or.inr ⟨by rfl, rfl⟩
        · assumption
        try simp only [Act.put, List.setIfInBounds_toArray, List.set_cons_zero, List.set_cons_succ]
        apply wpAnyH_take (i := 22)
        · simp only [List.getElem?_toArray]; rfl
        · kernel_rfl
        · kernel_rfl
        · kernel_rfl
        · exact fun _ _ _ h => h
        · exact Or.inl ⟨by rfl, by intro w hSw; go_simp; try with_reducible rfl⟩
        · assumption
        try simp only [Act.put, List.setIfInBounds_toArray, List.set_cons_zero, List.set_cons_succ]
        refine wpAnyH_done (by kernel_rfl) ?_ _
        refine NoPanic.normal ?_
        go_wp2_with fail
        go_ret
        exact ⟨rfl, HKD.out.trans hkA (FSub.refl _ _)⟩
  · have hek : evKind x.k = false := by simp [evKind]; omega
    have hr := HR.out
    rw [hek] at hr
    simp at hr
    subst hr
    have hfi := fun w => find5_no w x.k hk
    clear HR hek ht
    go_enter Tryz.func38, Tryz.ntmps38
    go_wp2_with fail
    refine (hfi _).mono ?_; rintro e w1 ⟨rfl, hk1⟩
    have hK1 := hk0.trans hk1 (FSub.refl _ _)
    clear hX hk0 hk1 hfi E0
    go_wp2_with ((with_reducible apply wpList_put_row (T := 85) 4); exact rfl; exact rfl; exact heap_alloc_at (by simp); exact ⟨rfl, rfl⟩; kernel_rfl; exact rfl)
    intro W2 hb2 hk2
    have hK2 := (hK1.alloc _).trans hk2 (fun g hg => .inr (by have := hK1.size; simp at hg; omega))
    clear hb2 hk2 hK1
    go_wp2_with fail
    go_quiet (fail)
    go_wp2_with fail
    go_ret
    exact ⟨rfl, hK2.drewN _⟩
end Go.Proofs.YtlaccndjlfpjbaaGreatDoor
/-
  Rows of micros and of lists under way.
-/
namespace Go.Proofs.YtlaccndjlfpjbaaGreatDoor
open Go.RowKit
def micC (m : Mic) : Array Value := #[.bool m.rd, .int .u8 m.key, .int .u16 m.v]
def micsC (l : List Mic) : List Value := l.flatMap fun m => (micC m).toList
theorem wp_append_run {P : Program} {w : World} {o : Oper} {a : Act} {K : Act → World → Prop} {Q : Exit → Act → World → Prop} (s x : Operand) (t : TypeId)
    (ho : o.op = .call { callee := .builtin .append, args := #[s, x], argTypes := #[t, t] }) (vs vx v' : Value) (w' : World) (hs : a.eval s = vs) (hx : a.eval x = vx)
    (hr : (Builtin.append_ #[t, t] o.type #[vs, vx]).run P w = .ok v' w') (h : K (a.put o.dst v') w') : o.wp P a w K Q := by
  unfold Oper.wp execOp
  simp only [ho, resolve, invoke, builtin, Sem.run_bind, Sem.run_pure, Result.andThen_ok, List.map_toArray, List.map_cons, List.map_nil, hs, hx, hr]
  exact h
theorem wp_put_cell {o : Oper} {a : Act} {w : World} {K : Act → World → Prop} {Q : Exit → Act → World → Prop} {T : TypeId} {x y : Operand} {b : Nat} {e : Ev} {tx rd : Value} {t : TypeId} {v : Value} (i : Nat) (e' : Ev) (tx' rd' : Value)
    (ho : o.op = .store T x y) (hx : a.eval x = .pointer (some ⟨b, i, none⟩)) (hy : a.eval y = v) (hg : w.heap[b]? = some (.cells (evC e tx rd) t (0, 0))) (hi : (Tryz.prog.info? T).map (·.size) = some 1) (h1 : v.oneCell' = true)
    (hc : ((evC e tx rd)[i]?).isSome = true) (hs : (evC e tx rd).setIfInBounds i v = evC e' tx' rd')
    (h : ∀ W, W.heap[b]? = some (.cells (evC e' tx' rd') t (0, 0)) → Keeps [b] w W → K (a.put o.dst undef) W) : o.wp Tryz.prog a w K Q := by
  have hcell : (w.cell? ⟨b, i, none⟩).isSome = true := by
    cases hq : (evC e tx rd)[i]? with
    | none => rw [hq] at hc; cases hc
    | some u => rw [ev_cell hg i hq]; rfl
  have hrun := run_put1 (P := Tryz.prog) w b i T v hi h1 hcell (ev_thaw hg i)
  unfold Oper.wp execOp
  simp only [ho, hx, hy, Instr.storeAt, Instr.sureAddr, Sem.run_bind, Sem.run_pure, Result.andThen_ok, hrun]
  exact h _ (ev_set hg i v hs) ((Keeps.refl [b] w).own b i v)
theorem Tryz.infoM : (Tryz.prog.info? 52).map (fun i => (i.zero, i.size, i.bytes)) = some (some (.agg #[.bool false, .int .u8 0, .int .u16 0]), 3, 4) := by kernel_rfl
theorem row_one {w : World} {base : Nat} {e : TypeId} {size : Nat} {v : Value} {n : Nat} {xs : List Value} (h : w.ownsRow base e size v n xs) : v.oneCell' = true := by
  rcases h.2 with ⟨rfl, _⟩ | ⟨_, _, _, rfl, _⟩ <;> rfl
theorem row_old {w w' : World} {base : Nat} {e : TypeId} {size : Nat} {v : Value} {n : Nat} {xs : List Value} {F : List Nat} (h : w.ownsRow base e size v n xs) (hk : Keeps F w w') (hF : ∀ q ∈ own v, q ∉ F) : w'.ownsRow base e size v n xs := by
  obtain ⟨h1, h2⟩ := h
  refine ⟨h1, ?_⟩
  rcases h2 with h2 | ⟨q, cap, cur, rfl, hb, hh, r⟩
  · exact .inl h2
  · exact .inr ⟨q, cap, cur, rfl, hb, hk.heap hh (hF q (by simp [own, Value.ownBlock])), r⟩
theorem row_base {w : World} {base : Nat} {e : TypeId} {size : Nat} {v : Value} {n : Nat} {xs : List Value} (h : w.ownsRow base e size v n xs) : ∀ q ∈ own v, base ≤ q ∧ q < w.heap.size := fun q hq => h.lt q (by simpa [own] using hq)
/-- Rows of numbers, one for each value. -/
def Inner (base : Nat) (W : World) (us : List Value) (ls : List (List Int)) : Prop := us.length = ls.length ∧ ∀ j, j < ls.length → W.ownsRow base 32 1 (us.getD j undef) (ls.getD j []).length ((ls.getD j []).map (.int .u16))
theorem Inner.keeps {base : Nat} {W W' : World} {us : List Value} {ls : List (List Int)} {F : List Nat} (h : Inner base W us ls) (hk : Keeps F W W') (hF : ∀ q ∈ F, q < base ∨ ∃ cs t fr, W.heap[q]? = some (.cells cs t fr) ∧ t ≠ 32) : Inner base W' us ls := by
  refine ⟨h.1, fun j hj => row_old (h.2 j hj) hk (fun q hq hf => ?_)⟩
  rcases hF q hf with h1 | ⟨cs, t, fr, h1, h2⟩
  · have := (row_base (h.2 j hj) q hq).1; omega
  · have hr := h.2 j hj
    rcases hr.2 with ⟨h3, _⟩ | ⟨q', cap, cur, h3, _, hh, _⟩
    · rw [h3] at hq; simp [own, Value.ownBlock] at hq
    · rw [h3] at hq
      simp [own, Value.ownBlock] at hq
      subst hq
      rw [hh] at h1
      simp at h1
      exact h2 h1.2.1.symm
theorem Inner.snoc {base : Nat} {W : World} {us : List Value} {ls : List (List Int)} {u : Value} {l : List Int} (h : Inner base W us ls) (hu : W.ownsRow base 32 1 u l.length (l.map (.int .u16))) : Inner base W (us ++ [u]) (ls ++ [l]) := by
  refine ⟨by simp [h.1], fun j hj => ?_⟩
  simp only [List.length_append, List.length_cons, List.length_nil] at hj
  rcases (by omega : j < ls.length ∨ j = ls.length) with h1 | rfl
  · have e1 : (us ++ [u]).getD j undef = us.getD j undef := by simp [List.getD, List.getElem?_append_left (show j < us.length by rw [h.1]; exact h1)]
    have e2 : (ls ++ [l]).getD j [] = ls.getD j [] := by simp [List.getD, List.getElem?_append_left h1]
    rw [e1, e2]; exact h.2 j h1
  · have e1 : (us ++ [u]).getD ls.length undef = u := by rw [← h.1]; simp [List.getD]
    have e2 : (ls ++ [l]).getD ls.length [] = l := by simp [List.getD]
    rw [e1, e2]; exact hu
theorem row_up {w : World} {base b2 : Nat} {e : TypeId} {size : Nat} {v : Value} {n : Nat} {xs : List Value} (h : w.ownsRow base e size v n xs) (hb : ∀ q ∈ own v, b2 ≤ q) : w.ownsRow b2 e size v n xs := by
  obtain ⟨h1, h2⟩ := h
  refine ⟨h1, ?_⟩
  rcases h2 with h2 | ⟨q, cap, cur, rfl, _, r⟩
  · exact .inl h2
  · exact .inr ⟨q, cap, cur, rfl, hb q (by simp [own, Value.ownBlock]), r⟩
theorem micsC_get (l : List Mic) (j : Nat) (m : Mic) (h : l[j]? = some m) : (micsC l)[j * 3]? = some (.bool m.rd) ∧ (micsC l)[j * 3 + 1]? = some (.int .u8 m.key) ∧ (micsC l)[j * 3 + 2]? = some (.int .u16 m.v) := by
  induction l generalizing j with
  | nil => simp at h
  | cons a l ih =>
    have e : micsC (a :: l) = .bool a.rd :: .int .u8 a.key :: .int .u16 a.v :: micsC l := rfl
    rw [e]
    cases j with
    | zero => simp at h; subst h; exact ⟨rfl, rfl, rfl⟩
    | succ j =>
      have := ih j (by simpa using h)
      have e2 : (j + 1) * 3 = j * 3 + 1 + 1 + 1 := by omega
      rw [e2]
      simpa using this
theorem micsC_length (l : List Mic) : (micsC l).length = l.length * 3 := by
  induction l with
  | nil => rfl
  | cons a l ih =>
    have e : micsC (a :: l) = .bool a.rd :: .int .u8 a.key :: .int .u16 a.v :: micsC l := rfl
    rw [e]; simp only [List.length_cons, ih]; omega
/-- Rows as the lists of an event. -/
theorem mics_row {W : World} {base : Nat} {v : Value} {l : List Mic} (h : W.ownsRow base 52 3 v l.length (micsC l)) : Mics W.heap.size W v l := by
  rcases h.2 with ⟨rfl, hn⟩ | ⟨g, cap, cur, rfl, _, hh, hc, hm, hcs, htk⟩
  · have : l = [] := List.eq_nil_of_length_eq_zero hn
    subst this
    exact Mics.nil _ _
  · refine ⟨_, cap, rfl, hc, by unfold maxLen at hm; omega, fun _ => ⟨g, 0, rfl, lt_of_block hh, fun j m hj => ?_⟩⟩
    have hjl : j < l.length := (List.getElem?_eq_some_iff.1 hj).1
    obtain ⟨e1, e2, e3⟩ := micsC_get l j m hj
    have hget : ∀ i v, (micsC l)[i]? = some v → W.cell? ⟨g, i, none⟩ = some v := by
      intro i v hi
      rw [← htk, List.getElem?_take] at hi
      split at hi
      · simp only [World.cell?, hh]
        simpa using hi
      · cases hi
    simp only [Nat.zero_add]
    exact ⟨hget _ _ e1, hget _ _ e2, hget _ _ e3⟩
theorem wpList_append_run {P : Program} {ops : Array Oper} {rest : List Oper} {o : Oper} {a : Act} {w : World} {Q : Exit → Act → World → Prop} (hgd : o.guard = none) (s x : Operand) (t : TypeId)
    (ho : o.op = .call { callee := .builtin .append, args := #[s, x], argTypes := #[t, t] }) (vs vx v' : Value) (w' : World) (hs : a.eval s = vs) (hx : a.eval x = vx)
    (hr : (Builtin.append_ #[t, t] o.type #[vs, vx]).run P w = .ok v' w') (h : wpList P ops Q rest (a.put o.dst v') w') : wpList P ops Q (o :: rest) a w :=
  wpList_plain hgd fun K hK => wp_append_run s x t ho vs vx v' w' hs hx hr (hK _ _ h)
end Go.Proofs.YtlaccndjlfpjbaaGreatDoor
