/-
  Is an event valid? The program's answer.
-/
import Derived.Deep.RegionHeld3
import Derived.Test.YtiljdehhjiahdaaGreatDoorG25
import Derived.Test.YtiljdehhjiahdaaGreatDoorG26
set_option linter.unusedSimpArgs false
set_option linter.unusedVariables false
namespace Go.Proofs.YtiljdehhjiahdaaGreatDoor
open Go.RowKit
/-- The lists of what an event's kind needs. -/
def needT (x : Ev) (tx : Value) : Value := if x.k = 5 then tx else .slice none 0 0
def needR (x : Ev) (rd : Value) : Value := if x.k = 6 then rd else .slice none 0 0
/-- The functions of a kind. -/
def kNeed (k : Int) : Nat := if k = 1 then 73 else if k = 2 then 77 else if k = 3 then 81 else if k = 5 then 89 else if k = 6 then 93 else 85
def kFits (k : Int) : Nat := if k = 1 then 74 else if k = 2 then 78 else if k = 3 then 82 else if k = 5 then 90 else if k = 6 then 94 else 86
def kWrite (k : Int) : Nat := if k = 1 then 75 else if k = 2 then 79 else if k = 3 then 83 else if k = 5 then 91 else if k = 6 then 95 else 87
def kRead (k : Int) : Nat := if k = 1 then 76 else if k = 2 then 80 else if k = 3 then 84 else if k = 5 then 92 else if k = 6 then 96 else 88
theorem kindOf_eq {k : Int} (h1 : 1 ≤ k) (h7 : k ≤ 7) : kindOf k = #[.func (.func (kNeed k)) #[] #[], .func (.func (kFits k)) #[] #[], .func (.func (kWrite k)) #[] #[], .func (.func (kRead k)) #[] #[]] := by
  rcases (by omega : k = 1 ∨ k = 2 ∨ k = 3 ∨ k = 4 ∨ k = 5 ∨ k = 6 ∨ k = 7) with rfl | rfl | rfl | rfl | rfl | rfl | rfl <;> rfl
theorem need_any (w : World) (x : Ev) (hk1 : 1 ≤ x.k) (hk7 : x.k ≤ 7) (tx rd : Value) (h1 : tx.oneCell' = true) (h2 : rd.oneCell' = true) : Calls Tryz.prog (kNeed x.k) #[.agg (evC x tx rd)] w fun e w' =>
    e = .returned (.agg (evC (evNeed x) (needT x tx) (needR x rd))) ∧ Keeps [] w w' := by
  unfold kNeed needT needR evNeed
  rcases (by omega : x.k = 1 ∨ x.k = 2 ∨ x.k = 3 ∨ x.k = 4 ∨ x.k = 5 ∨ x.k = 6 ∨ x.k = 7) with h | h | h | h | h | h | h
  · have e := ofConfigure_any w x tx rd; rw [h] at e ⊢; exact e
  · have e := ofInvoke_any w x tx rd; rw [h]; exact e
  · have e := ofReturn_any w x tx rd; rw [h]; exact e
  · have e := ofWho_any w x tx rd; rw [h]; exact e
  · have e := ofBegin_any w x tx rd h1; rw [h]; exact e
  · have e := ofCommit_any w x tx rd h2; rw [h]; exact e
  · have e := ofWho_any w x tx rd; rw [h]; exact e
theorem fits_any (w : World) (hG : Glob4 w) (x : Ev) (hx : x.In) (hk1 : 1 ≤ x.k) (hk7 : x.k ≤ 7) {N : Nat} (tx rd : Value) (ht : EvAt N w tx rd x) (hN : N ≤ w.heap.size) : Calls Tryz.prog (kFits x.k) #[.agg (evC x tx rd)] w fun e w' =>
    e = .returned (.bool (evFits x)) ∧ Keeps [] w w' := by
  unfold kFits evFits
  rcases (by omega : x.k = 1 ∨ x.k = 2 ∨ x.k = 3 ∨ x.k = 4 ∨ x.k = 5 ∨ x.k = 6 ∨ x.k = 7) with h | h | h | h | h | h | h
  · have e := fitsConfigure_any w x tx rd; rw [h]; exact e
  · have e := fitsInvoke_any w hG x hx.o tx rd; rw [h]; exact e
  · have e := fitsReturn_any w x hx.rk0 hx.rk1 tx rd; rw [h]; exact e
  · have e := fitsWho_any w x tx rd; rw [h]; exact e
  · have e := fitsBegin_any w x hx.t tx rd ht.t hN; rw [h]; exact e
  · have e := fitsCommit_any w x tx rd ht.r hN; rw [h]; exact e
  · have e := fitsWho_any w x tx rd; rw [h]; exact e
theorem needAt5 {N : Nat} {w : World} {tx rd : Value} {x : Ev} (hk1 : 1 ≤ x.k) (hk7 : x.k ≤ 7) (h : EvAt N w tx rd x) : EvAt N w (needT x tx) (needR x rd) (evNeed x) := by
  unfold needT needR evNeed
  rcases (by omega : x.k = 1 ∨ x.k = 2 ∨ x.k = 3 ∨ x.k = 4 ∨ x.k = 5 ∨ x.k = 6 ∨ x.k = 7) with e | e | e | e | e | e | e <;> rw [e]
  · exact ⟨Mics.nil _ _, Lists.nil _ _⟩
  · exact ⟨Mics.nil _ _, Lists.nil _ _⟩
  · exact ⟨Mics.nil _ _, Lists.nil _ _⟩
  · exact ⟨Mics.nil _ _, Lists.nil _ _⟩
  · exact ⟨h.t, Lists.nil _ _⟩
  · exact ⟨Mics.nil _ _, h.r⟩
  · exact ⟨Mics.nil _ _, Lists.nil _ _⟩
theorem enter_kinds {k : Int} (h1 : 1 ≤ k) (h7 : k ≤ 7) : (∀ v w, (callFunc (kNeed k) #[v]).run Tryz.prog w = .ok (.enter (kNeed k) #[v]) w) ∧ (∀ v w, (callFunc (kFits k) #[v]).run Tryz.prog w = .ok (.enter (kFits k) #[v]) w) ∧
    (∀ u v w, (callFunc (kWrite k) #[u, v]).run Tryz.prog w = .ok (.enter (kWrite k) #[u, v]) w) ∧ (∀ u v w, (callFunc (kRead k) #[u, v]).run Tryz.prog w = .ok (.enter (kRead k) #[u, v]) w) := by
  rcases (by omega : k = 1 ∨ k = 2 ∨ k = 3 ∨ k = 4 ∨ k = 5 ∨ k = 6 ∨ k = 7) with rfl | rfl | rfl | rfl | rfl | rfl | rfl
  all_goals
    refine ⟨fun v w => ?_, fun v w => ?_, fun u v w => ?_, fun u v w => ?_⟩
    all_goals simp [kNeed, kFits, kWrite, kRead, go_sem]
/-- What Check reads: the event, and two functions of its kind. -/
def CheckS (b B : Nat) (x : Ev) (tx rd : Value) (KN KF : Nat) (w : World) : Prop :=
  w.heap[b]? = some (.cells (evC x tx rd) 32 (0, 0)) ∧ w.cell? ⟨B, 0, none⟩ = some (.func (.func KN) #[] #[]) ∧ w.cell? ⟨B, 1, none⟩ = some (.func (.func KF) #[] #[])
theorem CheckS.keeps {b B : Nat} {x : Ev} {tx rd : Value} {KN KF : Nat} {w w' : World} (h : CheckS b B x tx rd KN KF w) (hk : Keeps [] w w') : CheckS b B x tx rd KN KF w' :=
  ⟨hk.heap h.1 (by simp), hk.cell h.2.1 (by simp), hk.cell h.2.2 (by simp)⟩
theorem CheckS.load {b B : Nat} {x : Ev} {tx rd : Value} {KN KF : Nat} (w : World) (h : CheckS b B x tx rd KN KF w) : (Instr.loadAt 32 (.pointer (some ⟨b, 0, none⟩))).run Tryz.prog w = .ok (.agg (evC x tx rd)) w := by
  simp only [Instr.loadAt, Instr.sureAddr, Sem.run_bind, Sem.run_pure, Result.andThen_ok, run_loadVar_row w _ _ 32 _ _ _ h.1 Tryz.underlying32 rfl (by kernel_rfl)]
/-- A load of a whole event may be taken first. -/
theorem yields_ev {ops : Array Oper} {S : World → Prop} {o : Oper} {a : Act} {C : Array Value} (hw : Region.wanted o (yielded ops a.tmps) = true) (x : Operand) (ho : o.op = .load 32 x) (b : Nat) (hx : a.eval x = .pointer (some ⟨b, 0, none⟩))
    (hS : ∀ w, S w → (Instr.loadAt 32 (.pointer (some ⟨b, 0, none⟩))).run Tryz.prog w = .ok (.agg C) w) : YieldsIf Tryz.prog ops S o (.agg C) a :=
  .inl ⟨hw, fun w hw' => by
    unfold execOp
    simp only [ho, hx, Sem.run_bind, hS w hw', Result.andThen_ok, Sem.run_pure]⟩
set_option maxHeartbeats 8000000 in
set_option maxRecDepth 100000 in
theorem Check5_any (w : World) (hG : Glob4 w) (x : Ev) (hx : x.In) {N : Nat} (tx rd : Value) (ht : EvAt N w tx rd x) (hN : N ≤ w.heap.size) : Calls Tryz.prog 12 #[.agg (evC x tx rd)] w fun e w' =>
    e = .returned (.int .i64 (evErr x)) ∧ Keeps [] w w' := by
  have E0 := evC_0 x tx rd
  generalize hR : evErr x = R at *
  unfold evErr evGood at hR
  have HR := Lib.hid hR; clear hR
  have hX := heap_alloc_new w (.cells (evC x tx rd) 32)
  have hk0 := (Keeps.refl [] w).alloc (.cells (evC x tx rd) 32)
  by_cases hk : 1 ≤ x.k ∧ x.k ≤ 7
  · have hek : evKind x.k = true := by simpa [evKind] using hk
    have hfi := fun w => find5_yes w x.k hk.1 hk.2
    rw [kindOf_eq hk.1 hk.2] at hfi
    have hne := fun w => need_any w x hk.1 hk.2 tx rd ht.t.one ht.r.one
    have hft := fun w hG h hN => fits_any w hG x hx hk.1 hk.2 (N := N) tx rd h hN
    have hn5 := fun w (h : EvAt N w tx rd x) => needAt5 hk.1 hk.2 h
    obtain ⟨en1, en2, en3, en4⟩ := enter_kinds hk.1 hk.2
    clear en3 en4
    generalize kNeed x.k = KN at *
    generalize kFits x.k = KF at *
    generalize kWrite x.k = KW at *
    generalize kRead x.k = KR at *
    go_enter Tryz.func12, Tryz.ntmps12
    go_wp2_with fail
    refine (hfi _).mono ?_; rintro e w1 ⟨rfl, hk1⟩
    have hX1 := hk1.heap hX (by simp)
    have hK1 := hk0.trans hk1 (FSub.refl _ _)
    clear hX hk0 hk1 hfi E0
    go_wp2_with ((with_reducible apply wpList_put_row (T := 80) 4); exact rfl; exact rfl; exact heap_alloc_at (by simp); exact ⟨rfl, rfl⟩; kernel_rfl; exact rfl)
    intro W2 hb2 hk2
    have hz1 := lt_of_block hX1
    have hX2 := hk2.heap (heap_alloc_lt hX1) (by simp; omega)
    have hK2 := (hK1.alloc _).trans hk2 (fun g hg => .inr (by have := hK1.size; simp at hg; omega))
    clear hX1 hk2
    generalize w1.heap.size = B at *
    clear hK1 hz1
    have c1 := ev_cell hX2 1 (evC_1 x tx rd)
    have k0 : W2.cell? ⟨B, 0, none⟩ = some (.func (.func KN) #[] #[]) := by simp [World.cell?, hb2]
    have k1 : W2.cell? ⟨B, 1, none⟩ = some (.func (.func KF) #[] #[]) := by simp [World.cell?, hb2]
    clear hb2
    by_cases hc : 16 ≤ x.c
    · have hr := HR.out
      have hd : decide (x.c < 16) = false := by simp; omega
      rw [hd] at hr
      simp at hr
      subst hr
      clear HR hne hft hn5 hX2 hd ht
      go_wp2_with fail
      go_quiet (fail)
      go_wp2_with fail
      go_ret
      exact ⟨rfl, hK2.drewN _⟩
    · have hload := fun w' => CheckS.load (b := w.heap.size) (B := B) (x := x) (tx := tx) (rd := rd) (KN := KN) (KF := KF) w'
      have HL := Lib.hid hload; clear hload
      have hc1 : ∀ w', CheckS w.heap.size B x tx rd KN KF w' → w'.cell? ⟨w.heap.size, 1, none⟩ = some (.int .u8 x.c) := fun w' h => ev_cell h.1 1 (evC_1 x tx rd)
      have hs2 : ∀ w', CheckS w.heap.size B x tx rd KN KF w' → w'.cell? ⟨B, 0, none⟩ = some (.func (.func KN) #[] #[]) := fun w' h => h.2.1
      have hs3 : ∀ w', CheckS w.heap.size B x tx rd KN KF w' → w'.cell? ⟨B, 1, none⟩ = some (.func (.func KF) #[] #[]) := fun w' h => h.2.2
      have hd : decide (x.c < 16) = true := by simp; omega
      have hcd : decide (16 ≤ x.c) = false := by simp; omega
      have hKD : Keeps [] w W2.drew := hK2.drew
      have hSD : CheckS w.heap.size B x tx rd KN KF W2.drew := ⟨hX2, k0, k1⟩
      have hft1 := hft W2.drew (hG.new hKD) (ht.new hKD hN) (Nat.le_trans hN hKD.size)
      have HKD := Lib.hid hKD; have HSD := Lib.hid hSD
      clear hKD hft hX2 c1 k0 k1
      rcases bool_two (evFits x) with hf | hf
      · rw [hf] at hft1
        have hr := HR.out
        rw [hek, hd, hf] at hr
        clear HR hf hd hek
        go_wp2_with fail
        refine wp_region_noPanic ?_
        refine wp_region_held_drew (S := (fun w' => CheckS w.heap.size B x tx rd KN KF w')) (by kernel_rfl) HSD.out (fun hHeld => ?_)
        apply wpAnyH_take (i := 0)
        · simp only [List.getElem?_toArray]; rfl
        · kernel_rfl
        · kernel_rfl
        · kernel_rfl
        · exact fun _ _ _ h => h
        · exact Or.inl ⟨by rfl, by intro w hSw; go_simp; try with_reducible rfl⟩
        · assumption
        try simp only [Act.put, List.setIfInBounds_toArray, List.set_cons_zero, List.set_cons_succ]
        apply wpAnyH_take (i := 1)
        · simp only [List.getElem?_toArray]; rfl
        · kernel_rfl
        · kernel_rfl
        · kernel_rfl
        · exact fun _ _ _ h => h
        · exact Or.inl ⟨by rfl, by intro w hSw; go_simp; try with_reducible rfl⟩
        · assumption
        try simp only [Act.put, List.setIfInBounds_toArray, List.set_cons_zero, List.set_cons_succ]
        apply wpAnyH_take (i := 2)
        · simp only [List.getElem?_toArray]; rfl
        · kernel_rfl
        · kernel_rfl
        · kernel_rfl
        · exact fun _ _ _ h => h
        · exact Or.inl ⟨by rfl, by intro w hSw; go_simp; try with_reducible rfl⟩
        · assumption
        try simp only [Act.put, List.setIfInBounds_toArray, List.set_cons_zero, List.set_cons_succ]
        apply wpAnyH_take (i := 3)
        · simp only [List.getElem?_toArray]; rfl
        · kernel_rfl
        · kernel_rfl
        · kernel_rfl
        · exact fun _ _ _ h => h
        · exact Or.inl ⟨by rfl, by intro w hSw; go_simp; try with_reducible rfl⟩
        · assumption
        try simp only [Act.put, List.setIfInBounds_toArray, List.set_cons_zero, List.set_cons_succ]
        apply wpAnyH_take (i := 4)
        · simp only [List.getElem?_toArray]; rfl
        · kernel_rfl
        · kernel_rfl
        · kernel_rfl
        · exact fun _ _ _ h => h
        · exact Or.inl ⟨by rfl, by intro w hSw; go_simp; try with_reducible rfl⟩
        · assumption
        try simp only [Act.put, List.setIfInBounds_toArray, List.set_cons_zero, List.set_cons_succ]
        apply wpAnyH_take (i := 5)
        · simp only [List.getElem?_toArray]; rfl
        · kernel_rfl
        · kernel_rfl
        · kernel_rfl
        · exact fun _ _ _ h => h
        · exact Or.inl ⟨by rfl, by intro w hSw; go_simp; try with_reducible rfl⟩
        · assumption
        try simp only [Act.put, List.setIfInBounds_toArray, List.set_cons_zero, List.set_cons_succ]
        apply wpAnyH_take (i := 6)
        · simp only [List.getElem?_toArray]; rfl
        · kernel_rfl
        · kernel_rfl
        · kernel_rfl
        · exact fun _ _ _ h => h
        · exact Or.inl ⟨by rfl, by intro w hSw; go_simp; try with_reducible rfl⟩
        · assumption
        try simp only [Act.put, List.setIfInBounds_toArray, List.set_cons_zero, List.set_cons_succ]
        apply wpAnyH_take (i := 7)
        · simp only [List.getElem?_toArray]; rfl
        · kernel_rfl
        · kernel_rfl
        · kernel_rfl
        · exact fun _ _ _ h => h
        · exact Or.inl ⟨by rfl, by intro w hSw; go_simp; try with_reducible rfl⟩
        · assumption
        try simp only [Act.put, List.setIfInBounds_toArray, List.set_cons_zero, List.set_cons_succ]
        apply wpAnyH_take (i := 8)
        · simp only [List.getElem?_toArray]; rfl
        · kernel_rfl
        · kernel_rfl
        · kernel_rfl
        · exact fun _ _ _ h => h
        · exact Or.inl ⟨by rfl, by intro w hSw; go_simp; try with_reducible rfl⟩
        · assumption
        try simp only [Act.put, List.setIfInBounds_toArray, List.set_cons_zero, List.set_cons_succ]
        apply wpAnyH_take (i := 9)
        · simp only [List.getElem?_toArray]; rfl
        · kernel_rfl
        · kernel_rfl
        · kernel_rfl
        · exact fun _ _ _ h => h
        · exact Or.inl ⟨by rfl, by intro w hSw; go_simp; try with_reducible rfl⟩
        · assumption
        try simp only [Act.put, List.setIfInBounds_toArray, List.set_cons_zero, List.set_cons_succ]
        apply wpAnyH_take (i := 10)
        · simp only [List.getElem?_toArray]; rfl
        · kernel_rfl
        · kernel_rfl
        · kernel_rfl
        · exact fun _ _ _ h => h
        · exact yields_ev (by rfl) _ rfl _ rfl HL.out
        · assumption
        try simp only [Act.put, List.setIfInBounds_toArray, List.set_cons_zero, List.set_cons_succ]
        apply wpAnyH_ready (rs := [11])
        · kernel_rfl
        · simp
        apply AllReadyH.cons (hs := AllReadyH.nil)
        · simp only [List.getElem?_toArray]; rfl
        intro K hK
        rw [if_pos (by rfl)]
        go_simp
        refine hft1.mono ?_; rintro e wA ⟨rfl, hkA⟩
        have hSA := HSD.out.keeps hkA
        go_wp2_with fail
        refine hK.out _ _ ?_ (fun hHeld => ?_)
        · exact hSA
        clear hK K
        try simp only [Act.put, List.setIfInBounds_toArray, List.set_cons_zero, List.set_cons_succ]
        apply wpAnyH_take (i := 12)
        · simp only [List.getElem?_toArray]; rfl
        · kernel_rfl
        · kernel_rfl
        · kernel_rfl
        · exact fun _ _ _ h => h
        · exact Or.inl ⟨by rfl, by intro w hSw; go_simp; try with_reducible rfl⟩
        · assumption
        try simp only [Act.put, List.setIfInBounds_toArray, List.set_cons_zero, List.set_cons_succ]
        apply wpAnyH_take (i := 13)
        · simp only [List.getElem?_toArray]; rfl
        · kernel_rfl
        · kernel_rfl
        · kernel_rfl
        · exact fun _ _ _ h => h
        · exact Or.inl ⟨by rfl, by intro w hSw; go_simp; try with_reducible rfl⟩
        · assumption
        try simp only [Act.put, List.setIfInBounds_toArray, List.set_cons_zero, List.set_cons_succ]
        apply wpAnyH_take (i := 14)
        · simp only [List.getElem?_toArray]; rfl
        · kernel_rfl
        · kernel_rfl
        · kernel_rfl
        · exact fun _ _ _ h => h
        · exact Or.inl ⟨by rfl, by intro w hSw; go_simp; try with_reducible rfl⟩
        · assumption
        try simp only [Act.put, List.setIfInBounds_toArray, List.set_cons_zero, List.set_cons_succ]
        apply wpAnyH_take (i := 15)
        · simp only [List.getElem?_toArray]; rfl
        · kernel_rfl
        · kernel_rfl
        · kernel_rfl
        · exact fun _ _ _ h => h
        · exact yields_ev (by rfl) _ rfl _ rfl HL.out
        · assumption
        try simp only [Act.put, List.setIfInBounds_toArray, List.set_cons_zero, List.set_cons_succ]
        apply wpAnyH_take (i := 16)
        · simp only [List.getElem?_toArray]; rfl
        · kernel_rfl
        · kernel_rfl
        · kernel_rfl
        · exact fun _ _ _ h => h
        · exact Or.inl ⟨by rfl, by intro w hSw; go_simp; try with_reducible rfl⟩
        · assumption
        try simp only [Act.put, List.setIfInBounds_toArray, List.set_cons_zero, List.set_cons_succ]
        apply wpAnyH_take (i := 17)
        · simp only [List.getElem?_toArray]; rfl
        · kernel_rfl
        · kernel_rfl
        · kernel_rfl
        · exact fun _ _ _ h => h
        · exact Or.inl ⟨by rfl, by intro w hSw; go_simp; try with_reducible rfl⟩
        · assumption
        try simp only [Act.put, List.setIfInBounds_toArray, List.set_cons_zero, List.set_cons_succ]
        apply wpAnyH_take (i := 18)
        · simp only [List.getElem?_toArray]; rfl
        · kernel_rfl
        · kernel_rfl
        · kernel_rfl
        · exact fun _ _ _ h => h
        · exact yields_ev (by rfl) _ rfl _ rfl HL.out
        · assumption
        try simp only [Act.put, List.setIfInBounds_toArray, List.set_cons_zero, List.set_cons_succ]
        apply wpAnyH_ready (rs := [19])
        · kernel_rfl
        · simp
        apply AllReadyH.cons (hs := AllReadyH.nil)
        · simp only [List.getElem?_toArray]; rfl
        intro K hK
        rw [if_pos (by rfl)]
        go_simp
        have hKA := HKD.out.trans hkA (FSub.refl _ _)
        refine (hne _).mono ?_; rintro e wB ⟨rfl, hkB⟩
        have hSB := hSA.keeps hkB
        have hKB := hKA.trans hkB (FSub.refl _ _)
        go_wp2_with fail
        refine hK.out _ _ ?_ (fun hHeld => ?_)
        · exact hSB
        clear hK K
        try simp only [Act.put, List.setIfInBounds_toArray, List.set_cons_zero, List.set_cons_succ]
        apply wpAnyH_ready (rs := [20])
        · kernel_rfl
        · simp
        apply AllReadyH.cons (hs := AllReadyH.nil)
        · simp only [List.getElem?_toArray]; rfl
        intro K hK
        rw [if_pos (by rfl)]
        go_simp
        refine (Same5_any _ x (evNeed x) tx rd (needT x tx) (needR x rd) (ht.new hKB hN) (hn5 _ (ht.new hKB hN)) (Nat.le_trans hN hKB.size) (Nat.le_trans hN hKB.size)).mono ?_; rintro e wC ⟨rfl, hkC⟩
        have hSC := hSB.keeps hkC
        go_wp2_with fail
        refine hK.out _ _ ?_ (fun hHeld => ?_)
        · exact hSC
        clear hK K
        try simp only [Act.put, List.setIfInBounds_toArray, List.set_cons_zero, List.set_cons_succ]
        apply wpAnyH_take (i := 21)
        · simp only [List.getElem?_toArray]; rfl
        · kernel_rfl
        · kernel_rfl
        · kernel_rfl
        · exact fun _ _ _ h => h
        · exact Or.inl ⟨by rfl, by intro w hSw; go_simp; try with_reducible rfl⟩
        · assumption
        try simp only [Act.put, List.setIfInBounds_toArray, List.set_cons_zero, List.set_cons_succ]
        apply wpAnyH_take (i := 22)
        · simp only [List.getElem?_toArray]; rfl
        · kernel_rfl
        · kernel_rfl
        · kernel_rfl
        · exact fun _ _ _ h => h
        · exact Or.inl ⟨by rfl, by intro w hSw; go_simp; try with_reducible rfl⟩
        · assumption
        try simp only [Act.put, List.setIfInBounds_toArray, List.set_cons_zero, List.set_cons_succ]
        refine wpAnyH_done (by kernel_rfl) ?_ _
        refine NoPanic.normal ?_
        rcases bool_two (evSame x (evNeed x)) with hs | hs
        all_goals
          rw [hs] at hr ⊢
          simp at hr
          subst hr
          go_wp2_with fail
          go_ret
          exact ⟨rfl, hKB.trans hkC (FSub.refl _ _)⟩
      · have hr := HR.out
        rw [hek, hd, hf] at hr
        simp at hr
        subst hr
        rw [hf] at hft1
        clear HR hf hne hn5 ht hd hek
        go_wp2_with fail
        refine wp_region_noPanic ?_
        refine wp_region_held_drew (S := (fun w' => CheckS w.heap.size B x tx rd KN KF w')) (by kernel_rfl) HSD.out (fun hHeld => ?_)
        apply wpAnyH_take (i := 0)
        · simp only [List.getElem?_toArray]; rfl
        · kernel_rfl
        · kernel_rfl
        · kernel_rfl
        · exact fun _ _ _ h => h
        · exact Or.inl ⟨by rfl, by intro w hSw; go_simp; try with_reducible rfl⟩
        · assumption
        try simp only [Act.put, List.setIfInBounds_toArray, List.set_cons_zero, List.set_cons_succ]
        apply wpAnyH_take (i := 1)
        · simp only [List.getElem?_toArray]; rfl
        · kernel_rfl
        · kernel_rfl
        · kernel_rfl
        · exact fun _ _ _ h => h
        · exact Or.inl ⟨by rfl, by intro w hSw; go_simp; try with_reducible rfl⟩
        · assumption
        try simp only [Act.put, List.setIfInBounds_toArray, List.set_cons_zero, List.set_cons_succ]
        apply wpAnyH_take (i := 2)
        · simp only [List.getElem?_toArray]; rfl
        · kernel_rfl
        · kernel_rfl
        · kernel_rfl
        · exact fun _ _ _ h => h
        · exact Or.inl ⟨by rfl, by intro w hSw; go_simp; try with_reducible rfl⟩
        · assumption
        try simp only [Act.put, List.setIfInBounds_toArray, List.set_cons_zero, List.set_cons_succ]
        apply wpAnyH_take (i := 3)
        · simp only [List.getElem?_toArray]; rfl
        · kernel_rfl
        · kernel_rfl
        · kernel_rfl
        · exact fun _ _ _ h => h
        · exact Or.inl ⟨by rfl, by intro w hSw; go_simp; try with_reducible rfl⟩
        · assumption
        try simp only [Act.put, List.setIfInBounds_toArray, List.set_cons_zero, List.set_cons_succ]
        apply wpAnyH_take (i := 4)
        · simp only [List.getElem?_toArray]; rfl
        · kernel_rfl
        · kernel_rfl
        · kernel_rfl
        · exact fun _ _ _ h => h
        · exact Or.inl ⟨by rfl, by intro w hSw; go_simp; try with_reducible rfl⟩
        · assumption
        try simp only [Act.put, List.setIfInBounds_toArray, List.set_cons_zero, List.set_cons_succ]
        apply wpAnyH_take (i := 5)
        · simp only [List.getElem?_toArray]; rfl
        · kernel_rfl
        · kernel_rfl
        · kernel_rfl
        · exact fun _ _ _ h => h
        · exact Or.inl ⟨by rfl, by intro w hSw; go_simp; try with_reducible rfl⟩
        · assumption
        try simp only [Act.put, List.setIfInBounds_toArray, List.set_cons_zero, List.set_cons_succ]
        apply wpAnyH_take (i := 6)
        · simp only [List.getElem?_toArray]; rfl
        · kernel_rfl
        · kernel_rfl
        · kernel_rfl
        · exact fun _ _ _ h => h
        · exact Or.inl ⟨by rfl, by intro w hSw; go_simp; try with_reducible rfl⟩
        · assumption
        try simp only [Act.put, List.setIfInBounds_toArray, List.set_cons_zero, List.set_cons_succ]
        apply wpAnyH_take (i := 7)
        · simp only [List.getElem?_toArray]; rfl
        · kernel_rfl
        · kernel_rfl
        · kernel_rfl
        · exact fun _ _ _ h => h
        · exact Or.inl ⟨by rfl, by intro w hSw; go_simp; try with_reducible rfl⟩
        · assumption
        try simp only [Act.put, List.setIfInBounds_toArray, List.set_cons_zero, List.set_cons_succ]
        apply wpAnyH_take (i := 8)
        · simp only [List.getElem?_toArray]; rfl
        · kernel_rfl
        · kernel_rfl
        · kernel_rfl
        · exact fun _ _ _ h => h
        · exact Or.inl ⟨by rfl, by intro w hSw; go_simp; try with_reducible rfl⟩
        · assumption
        try simp only [Act.put, List.setIfInBounds_toArray, List.set_cons_zero, List.set_cons_succ]
        apply wpAnyH_take (i := 9)
        · simp only [List.getElem?_toArray]; rfl
        · kernel_rfl
        · kernel_rfl
        · kernel_rfl
        · exact fun _ _ _ h => h
        · exact Or.inl ⟨by rfl, by intro w hSw; go_simp; try with_reducible rfl⟩
        · assumption
        try simp only [Act.put, List.setIfInBounds_toArray, List.set_cons_zero, List.set_cons_succ]
        apply wpAnyH_take (i := 10)
        · simp only [List.getElem?_toArray]; rfl
        · kernel_rfl
        · kernel_rfl
        · kernel_rfl
        · exact fun _ _ _ h => h
        · exact yields_ev (by rfl) _ rfl _ rfl HL.out
        · assumption
        try simp only [Act.put, List.setIfInBounds_toArray, List.set_cons_zero, List.set_cons_succ]
        apply wpAnyH_ready (rs := [11])
        · kernel_rfl
        · simp
        apply AllReadyH.cons (hs := AllReadyH.nil)
        · simp only [List.getElem?_toArray]; rfl
        intro K hK
        rw [if_pos (by rfl)]
        go_simp
        refine hft1.mono ?_; rintro e wA ⟨rfl, hkA⟩
        have hSA := HSD.out.keeps hkA
        go_wp2_with fail
        refine hK.out _ _ ?_ (fun hHeld => ?_)
        · exact hSA
        clear hK K
        try simp only [Act.put, List.setIfInBounds_toArray, List.set_cons_zero, List.set_cons_succ]
        apply wpAnyH_take (i := 12)
        · simp only [List.getElem?_toArray]; rfl
        · kernel_rfl
        · kernel_rfl
        · kernel_rfl
        · exact fun _ _ _ h => h
        · exact Or.inl ⟨by rfl, by intro w hSw; go_simp; try with_reducible rfl⟩
        · assumption
        try simp only [Act.put, List.setIfInBounds_toArray, List.set_cons_zero, List.set_cons_succ]
        apply wpAnyH_take (i := 13)
        · simp only [List.getElem?_toArray]; rfl
        · kernel_rfl
        · kernel_rfl
        · kernel_rfl
        · exact fun _ _ _ h => h
        · exact Or.inl ⟨by rfl, by intro w hSw; go_simp; try with_reducible rfl⟩
        · assumption
        try simp only [Act.put, List.setIfInBounds_toArray, List.set_cons_zero, List.set_cons_succ]
        apply wpAnyH_take (i := 14)
        · simp only [List.getElem?_toArray]; rfl
        · kernel_rfl
        · kernel_rfl
        · kernel_rfl
        · exact fun _ _ _ h => h
        · exact Or.inl ⟨by rfl, by intro w hSw; go_simp; try with_reducible rfl⟩
        · assumption
        try simp only [Act.put, List.setIfInBounds_toArray, List.set_cons_zero, List.set_cons_succ]
        apply wpAnyH_take (i := 15)
        · simp only [List.getElem?_toArray]; rfl
        · kernel_rfl
        · kernel_rfl
        · kernel_rfl
        · exact fun _ _ _ h => h
        · exact Or.inr ⟨by rfl, rfl⟩
        · assumption
        try simp only [Act.put, List.setIfInBounds_toArray, List.set_cons_zero, List.set_cons_succ]
        apply wpAnyH_take (i := 16)
        · simp only [List.getElem?_toArray]; rfl
        · kernel_rfl
        · kernel_rfl
        · kernel_rfl
        · exact fun _ _ _ h => h
        · exact Or.inr ⟨by rfl, rfl⟩
        · assumption
        try simp only [Act.put, List.setIfInBounds_toArray, List.set_cons_zero, List.set_cons_succ]
        apply wpAnyH_take (i := 17)
        · simp only [List.getElem?_toArray]; rfl
        · kernel_rfl
        · kernel_rfl
        · kernel_rfl
        · exact fun _ _ _ h => h
        · exact Or.inr ⟨by rfl, rfl⟩
        · assumption
        try simp only [Act.put, List.setIfInBounds_toArray, List.set_cons_zero, List.set_cons_succ]
        apply wpAnyH_take (i := 18)
        · simp only [List.getElem?_toArray]; rfl
        · kernel_rfl
        · kernel_rfl
        · kernel_rfl
        · exact fun _ _ _ h => h
        · exact Or.inr ⟨by rfl, rfl⟩
        · assumption
        try simp only [Act.put, List.setIfInBounds_toArray, List.set_cons_zero, List.set_cons_succ]
        apply wpAnyH_take (i := 19)
        · simp only [List.getElem?_toArray]; rfl
        · kernel_rfl
        · kernel_rfl
        · kernel_rfl
        · exact fun _ _ _ h => h
        · exact Or.inr ⟨by rfl, rfl⟩
        · assumption
        try simp only [Act.put, List.setIfInBounds_toArray, List.set_cons_zero, List.set_cons_succ]
        apply wpAnyH_take (i := 20)
        · simp only [List.getElem?_toArray]; rfl
        · kernel_rfl
        · kernel_rfl
        · kernel_rfl
        · exact fun _ _ _ h => h
        · exact Or.inr ⟨by rfl, rfl⟩
        · assumption
        try simp only [Act.put, List.setIfInBounds_toArray, List.set_cons_zero, List.set_cons_succ]
        apply wpAnyH_take (i := 21)
        · simp only [List.getElem?_toArray]; rfl
        · kernel_rfl
        · kernel_rfl
        · kernel_rfl
        · exact fun _ _ _ h => h
        · exact Or.inr ⟨by rfl, rfl⟩
        · assumption
        try simp only [Act.put, List.setIfInBounds_toArray, List.set_cons_zero, List.set_cons_succ]
        apply wpAnyH_take (i := 22)
        · simp only [List.getElem?_toArray]; rfl
        · kernel_rfl
        · kernel_rfl
        · kernel_rfl
        · exact fun _ _ _ h => h
        · exact Or.inl ⟨by rfl, by intro w hSw; go_simp; try with_reducible rfl⟩
        · assumption
        try simp only [Act.put, List.setIfInBounds_toArray, List.set_cons_zero, List.set_cons_succ]
        refine wpAnyH_done (by kernel_rfl) ?_ _
        refine NoPanic.normal ?_
        go_wp2_with fail
        go_ret
        exact ⟨rfl, HKD.out.trans hkA (FSub.refl _ _)⟩
  · have hek : evKind x.k = false := by simp [evKind]; omega
    have hr := HR.out
    rw [hek] at hr
    simp at hr
    subst hr
    have hfi := fun w => find5_no w x.k hk
    clear HR hek ht
    go_enter Tryz.func12, Tryz.ntmps12
    go_wp2_with fail
    refine (hfi _).mono ?_; rintro e w1 ⟨rfl, hk1⟩
    have hK1 := hk0.trans hk1 (FSub.refl _ _)
    clear hX hk0 hk1 hfi E0
    go_wp2_with ((with_reducible apply wpList_put_row (T := 80) 4); exact rfl; exact rfl; exact heap_alloc_at (by simp); exact ⟨rfl, rfl⟩; kernel_rfl; exact rfl)
    intro W2 hb2 hk2
    have hK2 := (hK1.alloc _).trans hk2 (fun g hg => .inr (by have := hK1.size; simp at hg; omega))
    clear hb2 hk2 hK1
    go_wp2_with fail
    go_quiet (fail)
    go_wp2_with fail
    go_ret
    exact ⟨rfl, hK2.drewN _⟩
end Go.Proofs.YtiljdehhjiahdaaGreatDoor
