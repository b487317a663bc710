/-
  The program's history: Config, Pending, Open, Last.
-/
import Derived.Test.YtlaccndjlfpjbaaGreatDoorB18
set_option linter.unusedSimpArgs false
set_option linter.unusedVariables false
namespace Go.Proofs.YtlaccndjlfpjbaaGreatDoor
open Go.RowKit Go.Maps
theorem results_cfg2 {fn : Func} {p u : Tmp} (h : fn.results = #[.cell p 40, .tmp u]) (tmps : Array Value) (w : World) (b : Nat) {g : Cfg} {t : TypeId}
    (hp : tmps.getD p undef = .pointer (some ⟨b, 0, none⟩)) (hb : w.heap[b]? = some (.cells (cfgC g).toArray t (0, 0))) : (results fn tmps).run Tryz.prog w = .ok (.tuple #[.agg (cfgC g).toArray, tmps.getD u undef]) w := by
  have h1 : (loadVar 40 ⟨b, 0, none⟩).run Tryz.prog w = .ok (.agg (cfgC g).toArray) w := run_loadVar_row w b t 40 _ _ _ hb Tryz.underlying40 rfl (by kernel_rfl)
  rw [results_cell_tmp h, hp]
  simp [asAddr, h1, Result.andThen]
theorem wp_put_cfg1 {o : Oper} {a : Act} {w : World} {K : Act → World → Prop} {Q : Exit → Act → World → Prop} {x y : Operand} {b : Nat} {old : Array Value} {t : TypeId} (g : Cfg)
    (ho : o.op = .store 40 x y) (hx : a.eval x = .pointer (some ⟨b, 0, none⟩)) (hy : a.eval y = .agg (cfgC g).toArray) (hg : w.heap[b]? = some (.cells old t (0, 0))) (hs : old.size = 7)
    (h : ∀ W, W.heap[b]? = some (.cells (cfgC g).toArray t (0, 0)) → Keeps [b] w W → K (a.put o.dst undef) W) : o.wp Tryz.prog a w K Q :=
  wp_store_row 40 x y ho b (cfgC g).toArray hx hy t old hg (by kernel_rfl) (by rw [hs]; rfl) (by simp [cfgC, Value.oneCell']) (h _ (setRow_heap w b old (cfgC g).toArray t (0, 0) hg) ((Keeps.refl [b] w).setRow b _ (.inl (by simp))))
theorem yields_cfg_mid {ops : Array Oper} {S : World → Prop} {o : Oper} {a : Act} (g : Cfg) (hw : Region.wanted o (yielded ops a.tmps) = true) (y : Operand) (ho : o.op = .load 40 y) (b off : Nat) (hx : a.eval y = .pointer (some ⟨b, off, none⟩))
    (hS : ∀ w, S w → w.rangeAt b off (cfgC g)) : YieldsIf Tryz.prog ops S o (.agg (cfgC g).toArray) a :=
  yieldsIf_load_mid (P := Tryz.prog) hw 40 y ho b off hx (cfgC g) _ hS Tryz.underlying40 rfl (by kernel_rfl)
set_option maxHeartbeats 8000000
set_option maxRecDepth 100000
section
variable {w : World} {a p mb n : Nat} {g : Cfg} {on : Bool} {op : EvL} {la : Int} {ap : List Mic} {O : List Nat}
theorem AAt.ptr (hA : AAt w a p mb n g on op la ap O) : w.cell? ⟨a, 0, none⟩ = some (.pointer (some ⟨p, 0, none⟩)) := by simp [World.cell?, hA.cell]
theorem hLast_any (hA : AAt w a p mb n g on op la ap O) : Calls Tryz.prog 15 #[.pointer (some ⟨a, 0, none⟩)] w fun e w' => e = .returned (.int .i64 la) ∧ w' = w := by
  have ca := hA.ptr
  have cl := past_la hA.past.len hA.past.heap
  have hm := made_yes w a p ca
  clear hA
  go_enter Tryz.func15, Tryz.ntmps15
  go_wp2_with fail
  refine hm.mono ?_; rintro e w1 ⟨rfl, hw1⟩
  rw [hw1]
  clear hw1 hm
  go_wp2_with fail
  go_ret
  exact ⟨rfl, rfl⟩
theorem hOpen_any (hA : AAt w a p mb n g on op la ap O) {L : List Ev} (hS : Stands L g on op la ap) : Calls Tryz.prog 21 #[.pointer (some ⟨a, 0, none⟩)] w fun e w' => e = .returned (.int .i64 (hOpenN L)) ∧ w' = w := by
  have ca := hA.ptr
  have hm := made_yes w a p ca
  have HA := Lib.hid hA; have HS := Lib.hid hS
  clear hA hS
  go_enter Tryz.func21, Tryz.ntmps21
  go_wp2_with fail
  refine hm.mono ?_; rintro e w1 ⟨rfl, hw1⟩
  rw [hw1]
  clear hw1 hm
  go_wp2_with fail
  go_loopw [3, 4, 8] (fun z _ i wr => ∃ k : Nat, i = .int .u8 k ∧ k ≤ 16 ∧ z = .int .i64 (((List.range k).filter fun (c : Nat) => (hPend L (c : Int)).isSome).length : Nat) ∧ wr = w) (fun _ _ i _ => 16 - (intOf i).toNat)
  case atStart => exact ⟨0, rfl, by omega, rfl, rfl⟩
  case round =>
    obtain ⟨k, rfl, hk, rfl, rfl⟩ := hrel
    by_cases hlt : k < 16
    · have hl : k < op.length := by rw [HA.out.past.len]; exact hlt
      have HB := Lib.hid (busy_cell wr p k (op[k]).1.k hlt (past_kind HA.out.past.heap k hl))
      have hkk : decide ((op[k]).1.k ≠ 0) = (hPend L (k : Int)).isSome := by
        rw [HS.out.op k hl]
        have := pend_k (L := L) (c := (k : Int))
        cases h : (hPend L (k : Int)).isSome
        · rw [h] at this; simp at this; simp [this]
        · rw [h] at this; simp at this; simp [this]
      rw [hkk] at HB
      have hi : (k : Int) < 16 := by omega
      have hcnt : ((List.range (k + 1)).filter fun (c : Nat) => (hPend L (c : Int)).isSome).length = ((List.range k).filter fun (c : Nat) => (hPend L (c : Int)).isSome).length + if (hPend L (k : Int)).isSome then 1 else 0 := by
        rw [List.range_succ, List.filter_append, List.length_append]
        congr 1
        simp only [List.filter_cons, List.filter_nil]
        split <;> rfl
      have hle : ((List.range k).filter fun (c : Nat) => (hPend L (c : Int)).isSome).length ≤ k := by
        have := List.length_filter_le (fun (c : Nat) => (hPend L (c : Int)).isSome) (List.range k)
        simpa using this
      have hw8 : IntKind.u8.wrap ((k : Int) + 1) = (k : Int) + 1 := by simp [IntKind.wrap, IntKind.bits, IntKind.signed]; omega
      generalize ((List.range k).filter fun (c : Nat) => (hPend L (c : Int)).isSome).length = M at *
      generalize (hPend L (k : Int)).isSome = Bz at *
      have HC := Lib.hid hcnt
      clear hcnt hkk hl
      go_wp2_with fail
      refine (HB.out).mono ?_; rintro e w1 ⟨rfl, hw1⟩
      rw [hw1]
      clear hw1 HB
      cases Bz with
      | true =>
        go_wp2_with fail
        go_roundw
        case rel => exact ⟨k + 1, by go_num, by omega, by rw [HC.out]; go_num, trivial⟩
        case measure => simp [intOf]; omega
      | false =>
        go_wp2_with fail
        go_roundw
        case rel => exact ⟨k + 1, by go_num, by omega, by rw [HC.out]; rfl, trivial⟩
        case measure => simp [intOf]; omega
    · obtain rfl : k = 16 := by omega
      generalize hM : ((List.range 16).filter fun (c : Nat) => (hPend L (c : Int)).isSome).length = M at *
      have HM := Lib.hid hM
      clear hM
      go_wp2_with fail
      go_ret
      exact ⟨by rw [← HM.out]; rfl, rfl⟩
theorem hConfig_any (hA : AAt w a p mb n g on op la ap O) : Calls Tryz.prog 23 #[.pointer (some ⟨a, 0, none⟩)] w fun e w' => e = .returned (.tuple #[.agg (cfgC g).toArray, .bool on]) ∧ Keeps [] w w' := by
  have hk0 := (Keeps.refl [] w).alloc (.cells #[.int .u8 0, .int .i64 0, .int .i64 0, .int .i64 0, .bool false, .bool false, .bool false] 40)
  have hR := heap_alloc_new w (.cells #[.int .u8 0, .int .i64 0, .int .i64 0, .int .i64 0, .bool false, .bool false, .bool false] 40)
  have hA0 := hA.new hk0
  have HM := Lib.hid (made_yes _ a p hA0.ptr)
  have HA := Lib.hid hA0; have HR := Lib.hid hR; have HK0 := Lib.hid hk0
  have ha := lt_of_block hA.cell; have hp := lt_of_block hA.past.heap
  have HRE := Lib.hid (Nat.le_refl w.heap.size)
  clear hk0 hR hA0 hA
  go_enter Tryz.func23, Tryz.ntmps23
  go_wp2_with fail
  generalize w.alloc _ = W at *
  obtain ⟨B, hB⟩ : ∃ B, B = w.heap.size := ⟨_, rfl⟩
  rw [← hB] at HR ha hp ⊢
  have HRE := Lib.hid (show w.heap.size ≤ B from Nat.le_of_eq hB.symm)
  clear hB
  refine (HM.out).mono ?_; rintro e w1 ⟨rfl, hw1⟩
  rw [hw1]
  clear hw1 HM
  have haB : a ≠ B := by omega
  have hpB : p ≠ B := by omega
  obtain ⟨S, hS⟩ : ∃ S : World → Prop, S = fun y => Keeps [B] W y := ⟨_, rfl⟩
  have HSE := Lib.hid hS
  have hs1 : ∀ w', S w' → w'.cell? ⟨a, 0, none⟩ = some (.pointer (some ⟨p, 0, none⟩)) := fun w' h => by rw [hS] at h; exact h.cell HA.out.ptr (by simpa using haB)
  have hs2 : ∀ w', S w' → w'.cell? ⟨p, 7, none⟩ = some (.bool on) := fun w' h => by rw [hS] at h; exact h.cell (past_c7 HA.out.past.heap) (by simpa using hpB)
  have HS3 := Lib.hid (fun (w' : World) (h : S w') => show w'.rangeAt p 0 (cfgC g) from by rw [hS] at h; exact fun i u hi => h.cell (past_cfg HA.out.past.heap i u hi) (by simpa using hpB))
  have hSD : S W.drew := by rw [hS]; exact (Keeps.refl _ _).drew
  clear hS
  go_wp2_with fail
  refine wp_region_noPanic ?_
  refine wp_region_held_drew (S := S) (by kernel_rfl) hSD (fun hHeld => ?_)
  apply wpAnyH_take (i := 0)
  · simp only [List.getElem?_toArray]; rfl
  · kernel_rfl
  · kernel_rfl
  · kernel_rfl
  · exact fun _ _ _ h => h
  · exact Or.inl ⟨by rfl, by intro w hSw; go_simp; try with_reducible rfl⟩
  · assumption
  try simp only [Act.put, List.setIfInBounds_toArray, List.set_cons_zero, List.set_cons_succ]
  apply wpAnyH_take (i := 1)
  · simp only [List.getElem?_toArray]; rfl
  · kernel_rfl
  · kernel_rfl
  · kernel_rfl
  · exact fun _ _ _ h => h
  · exact Or.inl ⟨by rfl, by intro w hSw; go_simp; try with_reducible rfl⟩
  · assumption
  try simp only [Act.put, List.setIfInBounds_toArray, List.set_cons_zero, List.set_cons_succ]
  apply wpAnyH_take (i := 2)
  · simp only [List.getElem?_toArray]; rfl
  · kernel_rfl
  · kernel_rfl
  · kernel_rfl
  · exact fun _ _ _ h => h
  · exact Or.inl ⟨by rfl, by intro w hSw; go_simp; try with_reducible rfl⟩
  · assumption
  try simp only [Act.put, List.setIfInBounds_toArray, List.set_cons_zero, List.set_cons_succ]
  apply wpAnyH_take (i := 3)
  · simp only [List.getElem?_toArray]; rfl
  · kernel_rfl
  · kernel_rfl
  · kernel_rfl
  · exact fun _ _ _ h => h
  · exact Or.inl ⟨by rfl, by intro w hSw; have q0 := hs1 w hSw; go_simp; try with_reducible rfl⟩
  · assumption
  try simp only [Act.put, List.setIfInBounds_toArray, List.set_cons_zero, List.set_cons_succ]
  apply wpAnyH_take (i := 4)
  · simp only [List.getElem?_toArray]; rfl
  · kernel_rfl
  · kernel_rfl
  · kernel_rfl
  · exact fun _ _ _ h => h
  · exact Or.inl ⟨by rfl, by intro w hSw; go_simp; try with_reducible rfl⟩
  · assumption
  try simp only [Act.put, List.setIfInBounds_toArray, List.set_cons_zero, List.set_cons_succ]
  apply wpAnyH_take (i := 5)
  · simp only [List.getElem?_toArray]; rfl
  · kernel_rfl
  · kernel_rfl
  · kernel_rfl
  · exact fun _ _ _ h => h
  · exact Or.inl ⟨by rfl, by intro w hSw; go_simp; try with_reducible rfl⟩
  · assumption
  try simp only [Act.put, List.setIfInBounds_toArray, List.set_cons_zero, List.set_cons_succ]
  apply wpAnyH_take (i := 6)
  · simp only [List.getElem?_toArray]; rfl
  · kernel_rfl
  · kernel_rfl
  · kernel_rfl
  · exact fun _ _ _ h => h
  · exact yields_cfg_mid g (by rfl) _ rfl p 0 rfl HS3.out
  · assumption
  try simp only [Act.put, List.setIfInBounds_toArray, List.set_cons_zero, List.set_cons_succ]
  apply wpAnyH_take (i := 7)
  · simp only [List.getElem?_toArray]; rfl
  · kernel_rfl
  · kernel_rfl
  · kernel_rfl
  · exact fun _ _ _ h => h
  · exact Or.inl ⟨by rfl, by intro w hSw; go_simp; try with_reducible rfl⟩
  · assumption
  try simp only [Act.put, List.setIfInBounds_toArray, List.set_cons_zero, List.set_cons_succ]
  apply wpAnyH_take (i := 8)
  · simp only [List.getElem?_toArray]; rfl
  · kernel_rfl
  · kernel_rfl
  · kernel_rfl
  · exact fun _ _ _ h => h
  · exact Or.inl ⟨by rfl, by intro w hSw; go_simp; try with_reducible rfl⟩
  · assumption
  try simp only [Act.put, List.setIfInBounds_toArray, List.set_cons_zero, List.set_cons_succ]
  apply wpAnyH_take (i := 9)
  · simp only [List.getElem?_toArray]; rfl
  · kernel_rfl
  · kernel_rfl
  · kernel_rfl
  · exact fun _ _ _ h => h
  · exact Or.inl ⟨by rfl, by intro w hSw; go_simp; try with_reducible rfl⟩
  · assumption
  try simp only [Act.put, List.setIfInBounds_toArray, List.set_cons_zero, List.set_cons_succ]
  apply wpAnyH_take (i := 10)
  · simp only [List.getElem?_toArray]; rfl
  · kernel_rfl
  · kernel_rfl
  · kernel_rfl
  · exact fun _ _ _ h => h
  · exact Or.inl ⟨by rfl, by intro w hSw; have q0 := hs1 w hSw; go_simp; try with_reducible rfl⟩
  · assumption
  try simp only [Act.put, List.setIfInBounds_toArray, List.set_cons_zero, List.set_cons_succ]
  apply wpAnyH_take (i := 11)
  · simp only [List.getElem?_toArray]; rfl
  · kernel_rfl
  · kernel_rfl
  · kernel_rfl
  · exact fun _ _ _ h => h
  · exact Or.inl ⟨by rfl, by intro w hSw; go_simp; try with_reducible rfl⟩
  · assumption
  try simp only [Act.put, List.setIfInBounds_toArray, List.set_cons_zero, List.set_cons_succ]
  apply wpAnyH_take (i := 12)
  · simp only [List.getElem?_toArray]; rfl
  · kernel_rfl
  · kernel_rfl
  · kernel_rfl
  · exact fun _ _ _ h => h
  · exact Or.inl ⟨by rfl, by intro w hSw; go_simp; try with_reducible rfl⟩
  · assumption
  try simp only [Act.put, List.setIfInBounds_toArray, List.set_cons_zero, List.set_cons_succ]
  apply wpAnyH_take (i := 13)
  · simp only [List.getElem?_toArray]; rfl
  · kernel_rfl
  · kernel_rfl
  · kernel_rfl
  · exact fun _ _ _ h => h
  · exact Or.inl ⟨by rfl, by intro w hSw; have q0 := hs2 w hSw; go_simp; try with_reducible rfl⟩
  · assumption
  try simp only [Act.put, List.setIfInBounds_toArray, List.set_cons_zero, List.set_cons_succ]
  apply wpAnyH_ready (rs := [14])
  · kernel_rfl
  · simp
  apply AllReadyH.cons (hs := AllReadyH.nil)
  · simp only [List.getElem?_toArray]; rfl
  intro K hK
  rw [if_pos (by rfl)]
  refine wp_put_cfg1 g rfl rfl rfl HR.out rfl ?_
  intro W4 h4 k4
  have hk4 : Keeps [B] W W4 := (Keeps.refl [B] W).drew.step k4 (fun q hq => hq)
  refine hK.out _ _ ?_ (fun hHeld => ?_)
  · exact (by rw [HSE.out]; exact hk4)
  clear hK K
  try simp only [Act.put, List.setIfInBounds_toArray, List.set_cons_zero, List.set_cons_succ]
  apply wpAnyH_take (i := 15)
  · simp only [List.getElem?_toArray]; rfl
  · kernel_rfl
  · kernel_rfl
  · kernel_rfl
  · exact fun _ _ _ h => h
  · exact Or.inl ⟨by rfl, by intro w hSw; go_simp; try with_reducible rfl⟩
  · assumption
  try simp only [Act.put, List.setIfInBounds_toArray, List.set_cons_zero, List.set_cons_succ]
  refine wpAnyH_done (by kernel_rfl) ?_ _
  refine NoPanic.normal ?_
  clear hHeld hs1 hs2 HS3 hSD
  go_wp2_with fail
  exact bodyPost_ret (results_cfg2 (g := g) rfl _ _ _ rfl h4) rfl ⟨rfl, HK0.out.trans hk4 (fun q hq => .inr (by simp at hq; rw [hq]; exact HRE.out))⟩
/-- What Pending tells. -/
theorem hPending_any (hA : AAt w a p mb n g on op la ap O) (c : Nat) (hc : c < op.length) (h8 : (op[c]).1.t.length ≤ 1000) :
    Calls Tryz.prog 24 #[.pointer (some ⟨a, 0, none⟩), .int .u8 c] w fun e w' => ∃ tx', e = .returned (.tuple #[.agg (evC { (op[c]).1 with r := [] } tx' (.slice none 0 0)), .bool (decide ((op[c]).1.k ≠ 0))]) ∧ EvAt w'.heap.size w' tx' (.slice none 0 0) { (op[c]).1 with r := [] } ∧ Keeps [] w w' := by
  have hk0 := (Keeps.refl [] w).alloc (.cells #[.int .u8 0, .int .u8 0, .int .u16 0, .int .u8 0, .int .u8 0, .int .u8 0, .int .u16 0, .int .u16 0, .int .u8 0, .int .u16 0, .slice none 0 0, .slice none 0 0, .int .u8 0, .int .i64 0, .int .i64 0, .int .i64 0, .bool false, .bool false, .bool false] 42)
  have hR := heap_alloc_new w (.cells #[.int .u8 0, .int .u8 0, .int .u16 0, .int .u8 0, .int .u8 0, .int .u8 0, .int .u16 0, .int .u16 0, .int .u8 0, .int .u16 0, .slice none 0 0, .slice none 0 0, .int .u8 0, .int .i64 0, .int .i64 0, .int .i64 0, .bool false, .bool false, .bool false] 42)
  have hA0 := hA.new hk0
  have HM := Lib.hid (made_yes _ a p hA0.ptr)
  have HA := Lib.hid hA0; have HR := Lib.hid hR; have HK0 := Lib.hid hk0
  have ha := lt_of_block hA.cell; have hp := lt_of_block hA.past.heap
  have hc16 : c < 16 := by rw [← hA.past.len]; exact hc
  have hci : (c : Int) < 16 := by omega
  have hcg : ¬ (16 : Int) ≤ (c : Int) := by omega
  obtain ⟨pin, pt, pr2, pr3⟩ := hA0.past.evs c hc
  have hrange := past_ev hA0.past.heap c hc
  have hkd := past_kind hA0.past.heap c hc
  rw [pr2] at hrange
  obtain ⟨PE, hPE⟩ : ∃ PE, PE = (op[c]).1 := ⟨_, rfl⟩
  obtain ⟨PT, hPT⟩ : ∃ PT, PT = (op[c]).2.1 := ⟨_, rfl⟩
  rw [← hPE, ← hPT] at hrange pt
  rw [← hPE] at hkd h8
  rw [← hPE]
  have HPT := Lib.hid pt; have HRG := Lib.hid hrange; have HKD := Lib.hid hkd
  rw [← hPE] at pr3
  have HPR := Lib.hid pr3
  have hBW : w.heap.size < (w.alloc (.cells #[.int .u8 0, .int .u8 0, .int .u16 0, .int .u8 0, .int .u8 0, .int .u8 0, .int .u16 0, .int .u16 0, .int .u8 0, .int .u16 0, .slice none 0 0, .slice none 0 0, .int .u8 0, .int .i64 0, .int .i64 0, .int .i64 0, .bool false, .bool false, .bool false] 42)).heap.size := lt_of_block hR
  clear hk0 hR hA0 hA hPE hPT pr2 pr3 pt hrange hkd pin
  go_enter Tryz.func24, Tryz.ntmps24
  go_wp2_with fail
  generalize w.alloc _ = W at *
  obtain ⟨B, hB⟩ : ∃ B, B = w.heap.size := ⟨_, rfl⟩
  rw [← hB] at HR ha hp hBW ⊢
  have HRE := Lib.hid (show w.heap.size ≤ B from Nat.le_of_eq hB.symm)
  clear hB
  refine (HM.out).mono ?_; rintro e w1 ⟨rfl, hw1⟩
  rw [hw1]
  clear hw1 HM
  have haB : a ≠ B := by omega
  have hpB : p ≠ B := by omega
  obtain ⟨S, hS⟩ : ∃ S : World → Prop, S = fun y => Keeps [B] W y := ⟨_, rfl⟩
  have HSE := Lib.hid hS
  have hs1 : ∀ w', S w' → w'.cell? ⟨a, 0, none⟩ = some (.pointer (some ⟨p, 0, none⟩)) := fun w' h => by rw [hS] at h; exact h.cell HA.out.ptr (by simpa using haB)
  have HS3 := Lib.hid (fun (w' : World) (h : S w') => show w'.rangeAt p (8 + c * 19) (evC PE PT (.slice none 0 0)).toList from by rw [hS] at h; exact fun i u hi => h.cell (HRG.out i u hi) (by simpa using hpB))
  have hSD : S W.drew := by rw [hS]; exact (Keeps.refl _ _).drew
  clear hS
  go_wp2_with fail
  refine wp_region_noPanic ?_
  refine wp_region_held_drew (S := S) (by kernel_rfl) hSD (fun hHeld => ?_)
  apply wpAnyH_take (i := 0)
  · simp only [List.getElem?_toArray]; rfl
  · kernel_rfl
  · kernel_rfl
  · kernel_rfl
  · exact fun _ _ _ h => h
  · exact Or.inl ⟨by rfl, by intro w hSw; go_simp; try with_reducible rfl⟩
  · assumption
  try simp only [Act.put, List.setIfInBounds_toArray, List.set_cons_zero, List.set_cons_succ]
  apply wpAnyH_take (i := 1)
  · simp only [List.getElem?_toArray]; rfl
  · kernel_rfl
  · kernel_rfl
  · kernel_rfl
  · exact fun _ _ _ h => h
  · exact Or.inl ⟨by rfl, by intro w hSw; go_simp; try with_reducible rfl⟩
  · assumption
  try simp only [Act.put, List.setIfInBounds_toArray, List.set_cons_zero, List.set_cons_succ]
  apply wpAnyH_take (i := 2)
  · simp only [List.getElem?_toArray]; rfl
  · kernel_rfl
  · kernel_rfl
  · kernel_rfl
  · exact fun _ _ _ h => h
  · exact Or.inl ⟨by rfl, by intro w hSw; go_simp; try with_reducible rfl⟩
  · assumption
  try simp only [Act.put, List.setIfInBounds_toArray, List.set_cons_zero, List.set_cons_succ]
  apply wpAnyH_take (i := 3)
  · simp only [List.getElem?_toArray]; rfl
  · kernel_rfl
  · kernel_rfl
  · kernel_rfl
  · exact fun _ _ _ h => h
  · exact Or.inl ⟨by rfl, by intro w hSw; have q0 := hs1 w hSw; go_simp; try with_reducible rfl⟩
  · assumption
  try simp only [Act.put, List.setIfInBounds_toArray, List.set_cons_zero, List.set_cons_succ]
  apply wpAnyH_take (i := 4)
  · simp only [List.getElem?_toArray]; rfl
  · kernel_rfl
  · kernel_rfl
  · kernel_rfl
  · exact fun _ _ _ h => h
  · exact Or.inl ⟨by rfl, by intro w hSw; go_simp; try with_reducible rfl⟩
  · assumption
  try simp only [Act.put, List.setIfInBounds_toArray, List.set_cons_zero, List.set_cons_succ]
  apply wpAnyH_take (i := 5)
  · simp only [List.getElem?_toArray]; rfl
  · kernel_rfl
  · kernel_rfl
  · kernel_rfl
  · exact fun _ _ _ h => h
  · exact Or.inl ⟨by rfl, by intro w hSw; go_simp; try with_reducible rfl⟩
  · assumption
  try simp only [Act.put, List.setIfInBounds_toArray, List.set_cons_zero, List.set_cons_succ]
  apply wpAnyH_take (i := 6)
  · simp only [List.getElem?_toArray]; rfl
  · kernel_rfl
  · kernel_rfl
  · kernel_rfl
  · exact fun _ _ _ h => h
  · exact Or.inl ⟨by rfl, by intro w hSw; go_simp; try with_reducible rfl⟩
  · assumption
  try simp only [Act.put, List.setIfInBounds_toArray, List.set_cons_zero, List.set_cons_succ]
  apply wpAnyH_take (i := 7)
  · simp only [List.getElem?_toArray]; rfl
  · kernel_rfl
  · kernel_rfl
  · kernel_rfl
  · exact fun _ _ _ h => h
  · exact Or.inl ⟨by rfl, by intro w hSw; go_simp; try with_reducible rfl⟩
  · assumption
  try simp only [Act.put, List.setIfInBounds_toArray, List.set_cons_zero, List.set_cons_succ]
  apply wpAnyH_take (i := 8)
  · simp only [List.getElem?_toArray]; rfl
  · kernel_rfl
  · kernel_rfl
  · kernel_rfl
  · exact fun _ _ _ h => h
  · exact yields_ev_mid (by rfl) _ rfl p (8 + c * 19) rfl HS3.out
  · assumption
  try simp only [Act.put, List.setIfInBounds_toArray, List.set_cons_zero, List.set_cons_succ]
  apply wpAnyH_take (i := 10)
  · simp only [List.getElem?_toArray]; rfl
  · kernel_rfl
  · kernel_rfl
  · kernel_rfl
  · exact fun _ _ _ h => h
  · exact Or.inl ⟨by rfl, by intro w hSw; go_simp; try with_reducible rfl⟩
  · assumption
  try simp only [Act.put, List.setIfInBounds_toArray, List.set_cons_zero, List.set_cons_succ]
  apply wpAnyH_take (i := 11)
  · simp only [List.getElem?_toArray]; rfl
  · kernel_rfl
  · kernel_rfl
  · kernel_rfl
  · exact fun _ _ _ h => h
  · exact Or.inl ⟨by rfl, by intro w hSw; go_simp; try with_reducible rfl⟩
  · assumption
  try simp only [Act.put, List.setIfInBounds_toArray, List.set_cons_zero, List.set_cons_succ]
  apply wpAnyH_take (i := 12)
  · simp only [List.getElem?_toArray]; rfl
  · kernel_rfl
  · kernel_rfl
  · kernel_rfl
  · exact fun _ _ _ h => h
  · exact Or.inl ⟨by rfl, by intro w hSw; go_simp; try with_reducible rfl⟩
  · assumption
  try simp only [Act.put, List.setIfInBounds_toArray, List.set_cons_zero, List.set_cons_succ]
  apply wpAnyH_take (i := 13)
  · simp only [List.getElem?_toArray]; rfl
  · kernel_rfl
  · kernel_rfl
  · kernel_rfl
  · exact fun _ _ _ h => h
  · exact Or.inl ⟨by rfl, by intro w hSw; have q0 := hs1 w hSw; go_simp; try with_reducible rfl⟩
  · assumption
  try simp only [Act.put, List.setIfInBounds_toArray, List.set_cons_zero, List.set_cons_succ]
  apply wpAnyH_take (i := 14)
  · simp only [List.getElem?_toArray]; rfl
  · kernel_rfl
  · kernel_rfl
  · kernel_rfl
  · exact fun _ _ _ h => h
  · exact Or.inl ⟨by rfl, by intro w hSw; go_simp; try with_reducible rfl⟩
  · assumption
  try simp only [Act.put, List.setIfInBounds_toArray, List.set_cons_zero, List.set_cons_succ]
  apply wpAnyH_ready (rs := [9])
  · kernel_rfl
  · simp
  apply AllReadyH.cons (hs := AllReadyH.nil)
  · simp only [List.getElem?_toArray]; rfl
  intro K hK
  rw [if_pos (by rfl)]
  go_simp
  refine (own_any _ PE PT (.slice none 0 0) ⟨(HPT.out.keeps (Keeps.refl [] W).drew (by simp)).mics, by rw [HPR.out]; exact Lists.nil _ _⟩ (Nat.le_refl _) h8).mono ?_; rintro e W1 ⟨tx', rfl, hin1, hk1, hown1⟩
  have hk01 : Keeps [] W W1 := (Keeps.refl [] W).drew.trans hk1 (FSub.refl _ _)
  have HR1 := Lib.hid (hk01.heap HR.out (by simp))
  have HIN1 := Lib.hid hin1
  have HOW1 := Lib.hid (show ∀ q ∈ own tx', W.heap.size ≤ q ∧ q < W1.heap.size from hown1)
  have HBU := Lib.hid (busy_cell W1 p c PE.k hc16 (hk01.cell HKD.out (by simp)))
  have hone := hin1.mics.one
  go_wp2_with fail
  refine hK.out _ _ ?_ (fun hHeld => ?_)
  · exact (by rw [HSE.out]; exact hk01.more (by simp))
  clear hK K
  try simp only [Act.put, List.setIfInBounds_toArray, List.set_cons_zero, List.set_cons_succ]
  clear hin1 hk1 hown1
  apply wpAnyH_ready (rs := [15])
  · kernel_rfl
  · simp
  apply AllReadyH.cons (hs := AllReadyH.nil)
  · simp only [List.getElem?_toArray]; rfl
  intro K hK
  rw [if_pos (by rfl)]
  go_simp
  refine (HBU.out).mono ?_; rintro e W2 ⟨rfl, hw2⟩
  rw [hw2]
  clear hw2
  go_wp2_with fail
  refine hK.out _ _ ?_ (fun hHeld => ?_)
  · exact (by rw [HSE.out]; exact hk01.more (by simp))
  clear hK K
  try simp only [Act.put, List.setIfInBounds_toArray, List.set_cons_zero, List.set_cons_succ]
  apply wpAnyH_ready (rs := [16])
  · kernel_rfl
  · simp
  apply AllReadyH.cons (hs := AllReadyH.nil)
  · simp only [List.getElem?_toArray]; rfl
  intro K hK
  rw [if_pos (by rfl)]
  refine wp_put_ev1 rfl rfl rfl HR1.out rfl hone rfl ?_
  intro W4 h4 k4
  have hk4 : Keeps [B] W W4 := (hk01.more (by simp)).step k4 (fun q hq => hq)
  refine hK.out _ _ ?_ (fun hHeld => ?_)
  · exact (by rw [HSE.out]; exact hk4)
  clear hK K
  try simp only [Act.put, List.setIfInBounds_toArray, List.set_cons_zero, List.set_cons_succ]
  apply wpAnyH_take (i := 17)
  · simp only [List.getElem?_toArray]; rfl
  · kernel_rfl
  · kernel_rfl
  · kernel_rfl
  · exact fun _ _ _ h => h
  · exact Or.inl ⟨by rfl, by intro w hSw; go_simp; try with_reducible rfl⟩
  · assumption
  try simp only [Act.put, List.setIfInBounds_toArray, List.set_cons_zero, List.set_cons_succ]
  refine wpAnyH_done (by kernel_rfl) ?_ _
  refine NoPanic.normal ?_
  have HAT := Lib.hid (show EvAt W4.heap.size W4 tx' (.slice none 0 0) { PE with r := [] } from ⟨(HIN1.out.keeps k4 (fun q hq hf => by
    have h1 := (HOW1.out q hq).1
    simp at hf
    omega)).mics, Lists.nil _ _⟩)
  clear hHeld hs1 HS3 hSD
  go_wp2_with fail
  exact bodyPost_ret (results_ev2 (x := { PE with r := [] }) rfl _ _ _ rfl h4) rfl ⟨tx', by rw [show decide (PE.k ≠ 0) = !decide (PE.k = 0) by simp]; rfl, HAT.out, HK0.out.trans hk4 (fun q hq => .inr (by simp at hq; rw [hq]; exact HRE.out))⟩
theorem hPending_far (hA : AAt w a p mb n g on op la ap O) (c : Int) (h16 : 16 ≤ c) :
    Calls Tryz.prog 24 #[.pointer (some ⟨a, 0, none⟩), .int .u8 c] w fun e w' => e = .returned (.tuple #[.agg (evC evZero (.slice none 0 0) (.slice none 0 0)), .bool false]) ∧ Keeps [] w w' := by
  have hk0 := (Keeps.refl [] w).alloc (.cells #[.int .u8 0, .int .u8 0, .int .u16 0, .int .u8 0, .int .u8 0, .int .u8 0, .int .u16 0, .int .u16 0, .int .u8 0, .int .u16 0, .slice none 0 0, .slice none 0 0, .int .u8 0, .int .i64 0, .int .i64 0, .int .i64 0, .bool false, .bool false, .bool false] 42)
  have hR := heap_alloc_new w (.cells #[.int .u8 0, .int .u8 0, .int .u16 0, .int .u8 0, .int .u8 0, .int .u8 0, .int .u16 0, .int .u16 0, .int .u8 0, .int .u16 0, .slice none 0 0, .slice none 0 0, .int .u8 0, .int .i64 0, .int .i64 0, .int .i64 0, .bool false, .bool false, .bool false] 42)
  have HM := Lib.hid (made_yes _ a p (hA.new hk0).ptr)
  have HR := Lib.hid hR; have HK0 := Lib.hid hk0
  clear hk0 hR hA
  go_enter Tryz.func24, Tryz.ntmps24
  go_wp2_with fail
  generalize w.alloc _ = W at *
  obtain ⟨B, hB⟩ : ∃ B, B = w.heap.size := ⟨_, rfl⟩
  rw [← hB] at HR ⊢
  have HRE := Lib.hid (show w.heap.size ≤ B from Nat.le_of_eq hB.symm)
  clear hB
  refine (HM.out).mono ?_; rintro e w1 ⟨rfl, hw1⟩
  rw [hw1]
  clear hw1 HM
  have hRb := HR.out
  go_wp2_with (first | ((with_reducible apply wpList_put_ev); exact rfl; exact rfl; (first | assumption | (refine heap_alloc_lt ?_; assumption) | (refine heap_alloc_lt (heap_alloc_lt ?_); assumption) | exact heap_alloc_at (by simp)); exact ⟨rfl, rfl⟩; exact rfl))
  intro W4 h4 k4
  go_wp2_with fail
  exact bodyPost_ret (results_ev2 (x := evZero) (tx := .slice none 0 0) (rd := .slice none 0 0) rfl _ _ _ rfl h4) rfl ⟨rfl, HK0.out.trans k4 (fun q hq => .inr (by simp at hq; rw [hq]; exact HRE.out))⟩
end
end Go.Proofs.YtlaccndjlfpjbaaGreatDoor
/-
  The document's history: its small functions.
-/
namespace Go.Proofs.YtlaccndjlfpjbaaGreatDoor
open Go.RowKit Go.Maps
set_option maxHeartbeats 8000000
set_option maxRecDepth 100000
theorem cell_lit {w : World} {b : Nat} {cs : Array Value} {t : TypeId} {fr : Nat × Nat} (h : w.heap[b]? = some (.cells cs t fr)) (i : Nat) {v : Value} (hv : cs[i]? = some v) : w.cell? ⟨b, i, none⟩ = some v := by
  simp only [World.cell?, h]; exact hv
theorem r7Opens_any (w : World) (x : Ev) (tx rd : Value) : Calls Tryz.prog 44 #[.agg (evC x tx rd)] w fun e w' => e = .returned (.bool (hOpens x)) ∧ Keeps [] w w' := by
  have hk := (Keeps.refl [] w).alloc (.cells (evC x tx rd) 42)
  have e0 := ev_cell (heap_alloc_new w (.cells (evC x tx rd) 42)) 0 (evC_0 x tx rd)
  have HK := Lib.hid hk
  clear hk
  by_cases h2 : x.k = 2
  · rw [show hOpens x = true by simp [hOpens, h2]]
    rw [h2] at e0
    clear h2
    go_enter Tryz.func44, Tryz.ntmps44
    go_wp2_with fail
    go_ret
    exact ⟨rfl, HK.out⟩
  · have t2 : (x.k == 2) = false := by simpa using h2
    by_cases h5 : x.k = 5
    · rw [show hOpens x = true by simp [hOpens, h5]]
      rw [h5] at e0
      clear h5 h2 t2
      go_enter Tryz.func44, Tryz.ntmps44
      go_wp2_with fail
      go_ret
      exact ⟨rfl, HK.out⟩
    · rw [show hOpens x = false by simp [hOpens, h2, h5]]
      have t5 : (x.k == 5) = false := by simpa using h5
      clear h5 h2
      go_enter Tryz.func44, Tryz.ntmps44
      go_wp2_with fail
      go_ret
      exact ⟨rfl, HK.out⟩
/-- What the document's history knows of each event that was taken. -/
theorem R7At.get {N b base : Nat} {w : World} {v : Value} {T : EvL} (h : R7At N b base w v T) (hne : T ≠ []) : ∃ g cap, v = .slice (some ⟨g, 0, none⟩) T.length cap ∧ T.length ≤ cap ∧ cap ≤ 9223372036854775807 ∧ base ≤ g ∧ g < w.heap.size ∧
    ∀ j (hj : j < T.length), w.rangeAt g (j * 19) (evC T[j].1 T[j].2.1 T[j].2.2).toList ∧ EvAt N w T[j].2.1 T[j].2.2 T[j].1 := by
  obtain ⟨g, cap, h1, h2, h3, h4, h5, h6⟩ := h.row.at hne
  exact ⟨g, cap, h1, h2, h3, h4, h5, fun j hj => ⟨h6 j hj, h.ok _ (List.getElem_mem hj)⟩⟩
theorem if_some {P : Option Ev} {B : Bool} {x : Ev} (h : P = if B = true then some x else none) : ∀ y, P = some y → y = x := by
  intro y hy
  rw [h] at hy
  cases B
  · cases hy
  · simpa using hy.symm
theorem r7Pending_any (w : World) {N b base : Nat} {v : Value} {T : EvL} (hH : R7At N b base w v T) (hn : T.length ≤ 1000) (c : Int) :
    Calls Tryz.prog 33 #[.pointer (some ⟨b, 0, none⟩), .int .u8 c] w fun e w' => ∃ x tx rd, e = .returned (.tuple #[.agg (evC x tx rd), .bool (hPend (evsOf T) c).isSome]) ∧ EvAt N w' tx rd x ∧ (∀ y, hPend (evsOf T) c = some y → y = x) ∧ Keeps [] w w' := by
  obtain ⟨a, cp, rfl, hc, hm⟩ := hH.row.shape
  have hk0 := (Keeps.refl [] w).alloc (.cells #[.int .u8 0, .int .u8 0, .int .u16 0, .int .u8 0, .int .u8 0, .int .u8 0, .int .u16 0, .int .u16 0, .int .u8 0, .int .u16 0, .slice none 0 0, .slice none 0 0, .int .u8 0, .int .i64 0, .int .i64 0, .int .i64 0, .bool false, .bool false, .bool false] 42)
  have hR := heap_alloc_new w (.cells #[.int .u8 0, .int .u8 0, .int .u16 0, .int .u8 0, .int .u8 0, .int .u8 0, .int .u16 0, .int .u16 0, .int .u8 0, .int .u16 0, .slice none 0 0, .slice none 0 0, .int .u8 0, .int .i64 0, .int .i64 0, .int .i64 0, .bool false, .bool false, .bool false] 42)
  have hH0 := hH.new hk0
  have hcell : (w.alloc (.cells #[.int .u8 0, .int .u8 0, .int .u16 0, .int .u8 0, .int .u8 0, .int .u8 0, .int .u16 0, .int .u16 0, .int .u8 0, .int .u16 0, .slice none 0 0, .slice none 0 0, .int .u8 0, .int .i64 0, .int .i64 0, .int .i64 0, .bool false, .bool false, .bool false] 42)).cell? ⟨b, 0, none⟩ = some (.slice a T.length cp) := by simp [World.cell?, hH0.cell]
  have hbz := lt_of_block hH.cell
  have HGL := Lib.hid (show T ≠ [] → ∀ g, a = some ⟨g, 0, none⟩ → g < w.heap.size from fun hne g hg => by obtain ⟨g', cap, e, _, _, _, h, _⟩ := hH.get hne; subst hg; simp at e; rw [e.1]; exact h)
  have HNB := Lib.hid (show N ≤ w.heap.size from Nat.le_trans hH.nb (Nat.le_of_lt hbz)); have HNR := Lib.hid (Nat.le_trans (Nat.le_trans hH.nb (Nat.le_of_lt hbz)) hk0.size)
  have HH := Lib.hid hH0; have HK0 := Lib.hid hk0; have HR := Lib.hid hR
  clear hH hH0 hk0 hR
  generalize hn2 : T.length = n at *
  have HN2 := Lib.hid hn2
  clear hn2
  go_enter Tryz.func33, Tryz.ntmps33
  go_wp2_with fail
  generalize w.alloc _ = W at *
  generalize hRe : w.heap.size = R at *
  have HRE := Lib.hid (Nat.le_of_eq hRe)
  clear hRe
  go_loopw [5, 6] (fun q i wr => ∃ ii : Int, q = .bool false ∧ i = .int .i64 ii ∧ (0 ≤ ii ∨ (ii = -1 ∧ n = 0)) ∧ ii < n ∧ hLastOf c ((evsOf T).drop (ii + 1).toNat) = none ∧ wr = W) (fun _ i _ => (intOf i + 1).toNat)
  case atStart => exact ⟨(n : Int) - 1, rfl, rfl, (by rcases Nat.eq_zero_or_pos n with h | h; exact .inr (by omega); exact .inl (by omega)), by omega, by rw [List.drop_of_length_le (by have := HN2.out; simp [evsOf]; omega)]; rfl, rfl⟩
  case round =>
    obtain ⟨ii, rfl, rfl, h1, h2, hl, rfl⟩ := hrel
    by_cases hp : 0 < ii
    · obtain ⟨j, rfl⟩ := Int.eq_ofNat_of_zero_le (Int.le_of_lt hp)
      have hjT : j < T.length := by have := HN2.out; omega
      obtain ⟨g, cap, hge, _, _, _, hgs, hrng⟩ := HH.out.get (fun e => by rw [e] at hjT; simp at hjT)
      simp at hge
      obtain ⟨rfl, -⟩ := hge
      obtain ⟨hr, hat⟩ := hrng j hjT
      have hjL : j < (evsOf T).length := by simpa [evsOf] using hjT
      have hxL : (evsOf T)[j] = T[j].1 := by simp [evsOf]
      have hl' : hLastOf c ((evsOf T).drop (j + 1)) = none := by have e : ((j : Int) + 1).toNat = j + 1 := by omega
                                                                 rw [e] at hl; exact hl
      have hat1 := hLastOf_at hjL (by omega) hl'
      have hst := fun h => hLastOf_step (k := j) hjL hl' h
      rw [hxL] at hat1 hst
      have d1 : wr.cell? ⟨g, j * 19 + 1, none⟩ = some (.int .u8 T[j].1.c) := hr 1 _ rfl
      have hgR : g < R := HGL.out (fun e => by rw [e] at hjT; simp at hjT) g rfl
      by_cases hcc : T[j].1.c = c
      · rw [if_pos hcc] at hat1
        rw [hcc] at d1
        have HPE := Lib.hid (show hPend (evsOf T) c = if hOpens T[j].1 then some T[j].1 else none by unfold hPend; rw [hat1])
        have HAT := Lib.hid hat; have HRG := Lib.hid hr
        have x1 := hat.t.one; have x2 := hat.r.one
        clear hrng hat1 hst hl hl' hxL hjL hat hr HGL hcc
        generalize T[j].1 = x at *
        generalize T[j].2.1 = tx at *
        generalize T[j].2.2 = rd at *
        go_wp2_with fail
        obtain ⟨S, hS⟩ : ∃ S : World → Prop, S = fun y => Keeps [R] wr y := ⟨_, rfl⟩
        have HSE := Lib.hid hS
        have hs1 : ∀ w', S w' → w'.cell? ⟨b, 0, none⟩ = some (.slice (some ⟨g, 0, none⟩) n cp) := fun w' h => by rw [hS] at h; exact h.cell hcell (by simp; omega)
        have HS2 := Lib.hid (fun (w' : World) (h : S w') => show w'.rangeAt g (j * 19) (evC x tx rd).toList from by rw [hS] at h; exact fun i u hi => h.cell (HRG.out i u hi) (by simp; omega))
        have hSD : S wr.drew := by rw [hS]; exact (Keeps.refl _ _).drew
        clear hS
        refine wp_region_noPanic ?_
        refine wp_region_held_drew (S := S) (by kernel_rfl) hSD (fun hHeld => ?_)
        apply wpAnyH_take (i := 0)
        · simp only [List.getElem?_toArray]; rfl
        · kernel_rfl
        · kernel_rfl
        · kernel_rfl
        · exact fun _ _ _ h => h
        · exact Or.inl ⟨by rfl, by intro w hSw; go_simp; try with_reducible rfl⟩
        · assumption
        try simp only [Act.put, List.setIfInBounds_toArray, List.set_cons_zero, List.set_cons_succ]
        apply wpAnyH_take (i := 1)
        · simp only [List.getElem?_toArray]; rfl
        · kernel_rfl
        · kernel_rfl
        · kernel_rfl
        · exact fun _ _ _ h => h
        · exact Or.inl ⟨by rfl, by intro w hSw; go_simp; try with_reducible rfl⟩
        · assumption
        try simp only [Act.put, List.setIfInBounds_toArray, List.set_cons_zero, List.set_cons_succ]
        apply wpAnyH_take (i := 2)
        · simp only [List.getElem?_toArray]; rfl
        · kernel_rfl
        · kernel_rfl
        · kernel_rfl
        · exact fun _ _ _ h => h
        · exact Or.inl ⟨by rfl, by intro w hSw; go_simp; try with_reducible rfl⟩
        · assumption
        try simp only [Act.put, List.setIfInBounds_toArray, List.set_cons_zero, List.set_cons_succ]
        apply wpAnyH_take (i := 3)
        · simp only [List.getElem?_toArray]; rfl
        · kernel_rfl
        · kernel_rfl
        · kernel_rfl
        · exact fun _ _ _ h => h
        · exact Or.inl ⟨by rfl, by intro w hSw; have q0 := hs1 w hSw; go_simp; try with_reducible rfl⟩
        · assumption
        try simp only [Act.put, List.setIfInBounds_toArray, List.set_cons_zero, List.set_cons_succ]
        apply wpAnyH_take (i := 4)
        · simp only [List.getElem?_toArray]; rfl
        · kernel_rfl
        · kernel_rfl
        · kernel_rfl
        · exact fun _ _ _ h => h
        · exact Or.inl ⟨by rfl, by intro w hSw; go_simp; try with_reducible rfl⟩
        · assumption
        try simp only [Act.put, List.setIfInBounds_toArray, List.set_cons_zero, List.set_cons_succ]
        apply wpAnyH_take (i := 5)
        · simp only [List.getElem?_toArray]; rfl
        · kernel_rfl
        · kernel_rfl
        · kernel_rfl
        · exact fun _ _ _ h => h
        · exact Or.inl ⟨by rfl, by intro w hSw; go_simp; try with_reducible rfl⟩
        · assumption
        try simp only [Act.put, List.setIfInBounds_toArray, List.set_cons_zero, List.set_cons_succ]
        apply wpAnyH_take (i := 6)
        · simp only [List.getElem?_toArray]; rfl
        · kernel_rfl
        · kernel_rfl
        · kernel_rfl
        · exact fun _ _ _ h => h
        · exact yields_ev_mid (by rfl) _ rfl g (j * 19) rfl HS2.out
        · assumption
        try simp only [Act.put, List.setIfInBounds_toArray, List.set_cons_zero, List.set_cons_succ]
        apply wpAnyH_take (i := 7)
        · simp only [List.getElem?_toArray]; rfl
        · kernel_rfl
        · kernel_rfl
        · kernel_rfl
        · exact fun _ _ _ h => h
        · exact Or.inl ⟨by rfl, by intro w hSw; go_simp; try with_reducible rfl⟩
        · assumption
        try simp only [Act.put, List.setIfInBounds_toArray, List.set_cons_zero, List.set_cons_succ]
        apply wpAnyH_take (i := 8)
        · simp only [List.getElem?_toArray]; rfl
        · kernel_rfl
        · kernel_rfl
        · kernel_rfl
        · exact fun _ _ _ h => h
        · exact Or.inl ⟨by rfl, by intro w hSw; go_simp; try with_reducible rfl⟩
        · assumption
        try simp only [Act.put, List.setIfInBounds_toArray, List.set_cons_zero, List.set_cons_succ]
        apply wpAnyH_take (i := 9)
        · simp only [List.getElem?_toArray]; rfl
        · kernel_rfl
        · kernel_rfl
        · kernel_rfl
        · exact fun _ _ _ h => h
        · exact Or.inl ⟨by rfl, by intro w hSw; go_simp; try with_reducible rfl⟩
        · assumption
        try simp only [Act.put, List.setIfInBounds_toArray, List.set_cons_zero, List.set_cons_succ]
        apply wpAnyH_take (i := 10)
        · simp only [List.getElem?_toArray]; rfl
        · kernel_rfl
        · kernel_rfl
        · kernel_rfl
        · exact fun _ _ _ h => h
        · exact Or.inl ⟨by rfl, by intro w hSw; have q0 := hs1 w hSw; go_simp; try with_reducible rfl⟩
        · assumption
        try simp only [Act.put, List.setIfInBounds_toArray, List.set_cons_zero, List.set_cons_succ]
        apply wpAnyH_take (i := 11)
        · simp only [List.getElem?_toArray]; rfl
        · kernel_rfl
        · kernel_rfl
        · kernel_rfl
        · exact fun _ _ _ h => h
        · exact Or.inl ⟨by rfl, by intro w hSw; go_simp; try with_reducible rfl⟩
        · assumption
        try simp only [Act.put, List.setIfInBounds_toArray, List.set_cons_zero, List.set_cons_succ]
        apply wpAnyH_take (i := 12)
        · simp only [List.getElem?_toArray]; rfl
        · kernel_rfl
        · kernel_rfl
        · kernel_rfl
        · exact fun _ _ _ h => h
        · exact Or.inl ⟨by rfl, by intro w hSw; go_simp; try with_reducible rfl⟩
        · assumption
        try simp only [Act.put, List.setIfInBounds_toArray, List.set_cons_zero, List.set_cons_succ]
        apply wpAnyH_take (i := 13)
        · simp only [List.getElem?_toArray]; rfl
        · kernel_rfl
        · kernel_rfl
        · kernel_rfl
        · exact fun _ _ _ h => h
        · exact yields_ev_mid (by rfl) _ rfl g (j * 19) rfl HS2.out
        · assumption
        try simp only [Act.put, List.setIfInBounds_toArray, List.set_cons_zero, List.set_cons_succ]
        apply wpAnyH_ready (rs := [14])
        · kernel_rfl
        · simp
        apply AllReadyH.cons (hs := AllReadyH.nil)
        · simp only [List.getElem?_toArray]; rfl
        intro K hK
        rw [if_pos (by rfl)]
        go_simp
        refine (r7Opens_any _ x tx rd).mono ?_; rintro e W1 ⟨rfl, k1⟩
        have k01 : Keeps [] wr W1 := (Keeps.refl [] wr).drew.trans k1 (FSub.refl _ _)
        have HR1 := Lib.hid (k01.heap HR.out (by simp))
        go_wp2_with fail
        refine hK.out _ _ ?_ (fun hHeld => ?_)
        · exact (by rw [HSE.out]; exact k01.more (by simp))
        clear hK K
        try simp only [Act.put, List.setIfInBounds_toArray, List.set_cons_zero, List.set_cons_succ]
        apply wpAnyH_ready (rs := [15])
        · kernel_rfl
        · simp
        apply AllReadyH.cons (hs := AllReadyH.nil)
        · simp only [List.getElem?_toArray]; rfl
        intro K hK
        rw [if_pos (by rfl)]
        refine wp_put_ev1 rfl rfl rfl HR1.out rfl x1 x2 ?_
        intro W4 h4 k4
        have hk4 : Keeps [R] wr W4 := (k01.more (by simp)).step k4 (fun q hq => hq)
        refine hK.out _ _ ?_ (fun hHeld => ?_)
        · exact (by rw [HSE.out]; exact hk4)
        clear hK K
        try simp only [Act.put, List.setIfInBounds_toArray, List.set_cons_zero, List.set_cons_succ]
        apply wpAnyH_take (i := 16)
        · simp only [List.getElem?_toArray]; rfl
        · kernel_rfl
        · kernel_rfl
        · kernel_rfl
        · exact fun _ _ _ h => h
        · exact Or.inl ⟨by rfl, by intro w hSw; go_simp; try with_reducible rfl⟩
        · assumption
        try simp only [Act.put, List.setIfInBounds_toArray, List.set_cons_zero, List.set_cons_succ]
        refine wpAnyH_done (by kernel_rfl) ?_ _
        refine NoPanic.normal ?_
        clear hHeld hs1 HS2 hSD
        go_wp2_with fail
        exact bodyPost_ret (results_ev2 (x := x) rfl _ _ _ rfl h4) rfl ⟨x, tx, rd, by rw [HPE.out]; cases hOpens x <;> rfl, HAT.out.same (hk4.same HNR.out (fun q hq => by simp at hq; subst hq; exact HNB.out)), if_some HPE.out, HK0.out.trans hk4 (fun q hq => .inr (by simp at hq; rw [hq]; exact HRE.out))⟩
      · have hst' := hst hcc
        have t1 : (T[j].1.c == c) = false := by simpa using hcc
        clear hrng hat1 hst hl hl' hxL hjL hat hr HGL hcc
        go_wp2_with fail
        go_roundw
        case rel => exact ⟨(j : Int) - 1, rfl, by go_num, .inl (by omega), by omega, by rw [show ((j : Int) - 1 + 1).toNat = j by omega]; exact hst', trivial⟩
        case measure => simp [intOf]
    · have hPE : hPend (evsOf T) c = none := by
        unfold hPend
        have e : (evsOf T).tail = (evsOf T).drop (ii + 1).toNat := by
          have hLn : (evsOf T).length = n := by have := HN2.out; simpa [evsOf] using this
          by_cases h0 : ii = 0
          · subst h0; exact List.drop_one.symm
          · have : n = 0 ∨ 0 < n := by omega
            rw [show (ii + 1).toNat = 0 by omega, List.drop_zero]
            cases hT : evsOf T with
            | nil => rfl
            | cons a r =>
              rw [hT] at hLn
              have h2 := HN2.out
              simp at hLn
              omega
        rw [e, hl]
      have HPE := Lib.hid hPE
      clear hPE hl HH HGL
      have hRb := HR.out
      go_wp2_with (first | ((with_reducible apply wpList_put_ev); exact rfl; exact rfl; (first | assumption | (refine heap_alloc_lt ?_; assumption) | (refine heap_alloc_lt (heap_alloc_lt ?_); assumption) | exact heap_alloc_at (by simp)); exact ⟨rfl, rfl⟩; exact rfl))
      intro W4 h4 k4
      go_wp2_with fail
      exact bodyPost_ret (results_ev2 (x := evZero) (tx := .slice none 0 0) (rd := .slice none 0 0) rfl _ _ _ rfl h4) rfl ⟨evZero, .slice none 0 0, .slice none 0 0, by rw [HPE.out]; rfl, ⟨Mics.nil _ _, Lists.nil _ _⟩, fun y hy => by rw [HPE.out] at hy; (cases hy), HK0.out.trans k4 (fun q hq => .inr (by simp at hq; rw [hq]; exact HRE.out))⟩
theorem r7Last_any (w : World) {N b base : Nat} {v : Value} {T : EvL} (hH : R7At N b base w v T) (hn : T.length ≤ 1000) (hin : ∀ p ∈ T, p.1.In) :
    Calls Tryz.prog 32 #[.pointer (some ⟨b, 0, none⟩)] w fun e w' => e = .returned (.int .i64 (hMax (evsOf T).tail)) ∧ w' = w := by
  obtain ⟨a, cp, rfl, hc, hm⟩ := hH.row.shape
  have hcell : w.cell? ⟨b, 0, none⟩ = some (.slice a T.length cp) := by simp [World.cell?, hH.cell]
  have HH := Lib.hid hH; have HIN := Lib.hid hin
  clear hH hin
  generalize hn2 : T.length = n at *
  have HN2 := Lib.hid hn2
  clear hn2
  go_enter Tryz.func32, Tryz.ntmps32
  go_wp2_with fail
  go_loopw [3, 4] (fun z i wr => ∃ k : Nat, i = .int .i64 k ∧ 1 ≤ k ∧ (k ≤ n ∨ k = 1) ∧ z = .int .i64 (hMax ((evsOf T).take k).tail) ∧ wr = w) (fun _ i _ => n + 1 - (intOf i).toNat)
  case atStart => exact ⟨1, rfl, by omega, by omega, by cases T <;> rfl, rfl⟩
  case round =>
    obtain ⟨k, rfl, h1, h2, rfl, rfl⟩ := hrel
    by_cases hlt : k < n
    · have hjT : k < T.length := by have := HN2.out; omega
      obtain ⟨g, cap, hge, _, _, _, hgs, hrng⟩ := HH.out.get (fun e => by rw [e] at hjT; simp at hjT)
      simp at hge
      obtain ⟨rfl, -⟩ := hge
      obtain ⟨hr, -⟩ := hrng k hjT
      have hxi := HIN.out _ (List.getElem_mem hjT)
      have htk : ((evsOf T).take (k + 1)).tail = ((evsOf T).take k).tail ++ [T[k].1] := by
        have e : (evsOf T).take (k + 1) = (evsOf T).take k ++ [T[k].1] := by
          rw [List.take_add_one, List.getElem?_eq_getElem (by simpa [evsOf] using hjT)]; simp [evsOf]
        rw [e, tail_snoc]
        intro e2
        have h3 : 0 < ((evsOf T).take k).length := by simp [evsOf]; omega
        rw [e2] at h3
        simp at h3
      have hmx := hMax_snoc ((evsOf T).take k).tail T[k].1
      rw [← htk] at hmx
      have hlow := hMax_low ((evsOf T).take k).tail
      have d2 : wr.cell? ⟨g, k * 19 + 2, none⟩ = some (.int .u16 T[k].1.id) := hr 2 _ rfl
      have hw : IntKind.i64.wrap T[k].1.id = T[k].1.id := by have := hxi.i0; have := hxi.i1; simp [IntKind.wrap, IntKind.bits, IntKind.signed]; omega
      have hi0 := hxi.i0; have hi1 := hxi.i1
      have HMX := Lib.hid hmx
      clear hr hrng htk hmx hxi
      generalize hMax ((evsOf T).take k).tail = M at *
      generalize T[k].1.id = I at *
      by_cases hg : M < I
      · have HM : hMax ((evsOf T).take (k + 1)).tail = I := by rw [HMX.out]; omega
        have HMH := Lib.hid HM
        clear HM
        go_wp2_with fail
        go_roundw
        case rel => exact ⟨k + 1, by go_num, by omega, by omega, by rw [HMH.out], trivial⟩
        case measure => simp [intOf]; omega
      · have HM : hMax ((evsOf T).take (k + 1)).tail = M := by rw [HMX.out]; omega
        have HMH := Lib.hid HM
        clear HM
        go_wp2_with fail
        go_roundw
        case rel => exact ⟨k + 1, by go_num, by omega, by omega, by rw [HMH.out], trivial⟩
        case measure => simp [intOf]; omega
    · have hM : ((evsOf T).take k) = evsOf T := by rw [List.take_of_length_le]; have := HN2.out; simp [evsOf]; omega
      rw [hM]
      clear hM HIN
      go_wp2_with fail
      go_ret
      exact ⟨rfl, rfl⟩
theorem r7Open_any (w : World) {N b base : Nat} {v : Value} {T : EvL} (hH : R7At N b base w v T) (hn : T.length ≤ 1000) :
    Calls Tryz.prog 31 #[.pointer (some ⟨b, 0, none⟩)] w fun e w' => e = .returned (.int .i64 (hOpenN (evsOf T))) ∧ Keeps [] w w' := by
  have HH := Lib.hid hH
  clear hH
  go_enter Tryz.func31, Tryz.ntmps31
  go_wp2_with fail
  go_loopw [3, 4, 5, 6] (fun z i _ _ wr => ∃ k : Nat, i = .int .i64 k ∧ k ≤ 16 ∧ z = .int .i64 (((List.range k).filter fun (c : Nat) => (hPend (evsOf T) (c : Int)).isSome).length : Nat) ∧ Keeps [] w wr) (fun _ i _ _ _ => 16 - (intOf i).toNat)
  case atStart => exact ⟨0, rfl, by omega, rfl, Keeps.refl _ _⟩
  case round =>
    obtain ⟨k, rfl, hk, rfl, hkp⟩ := hrel
    by_cases hlt : k < 16
    · have HP := Lib.hid (r7Pending_any wr (HH.out.new hkp) hn (k : Int))
      have hw : IntKind.u8.wrap (k : Int) = k := by simp [IntKind.wrap, IntKind.bits, IntKind.signed]; omega
      have hi : (k : Int) < 16 := by omega
      have HKP := Lib.hid hkp
      have hcnt : ((List.range (k + 1)).filter fun (c : Nat) => (hPend (evsOf T) (c : Int)).isSome).length = ((List.range k).filter fun (c : Nat) => (hPend (evsOf T) (c : Int)).isSome).length + if (hPend (evsOf T) (k : Int)).isSome then 1 else 0 := by
        rw [List.range_succ, List.filter_append, List.length_append]
        congr 1
        simp only [List.filter_cons, List.filter_nil]
        split <;> rfl
      have hle : ((List.range k).filter fun (c : Nat) => (hPend (evsOf T) (c : Int)).isSome).length ≤ k := by
        have := List.length_filter_le (fun (c : Nat) => (hPend (evsOf T) (c : Int)).isSome) (List.range k)
        simpa using this
      generalize ((List.range k).filter fun (c : Nat) => (hPend (evsOf T) (c : Int)).isSome).length = M at *
      have HC := Lib.hid hcnt
      clear hcnt hkp
      go_wp2_with fail
      refine (HP.out).mono ?_; rintro e w1 ⟨x, tx, rd, rfl, hat, _, hk1⟩
      generalize hB : (hPend (evsOf T) (k : Int)).isSome = B at *
      have HB := Lib.hid hB
      clear hB
      have hx1 := hat.t.one; have hx2 := hat.r.one
      have HK1 := Lib.hid (HKP.out.trans hk1 (FSub.refl _ _))
      clear hat hk1 HP
      have HKA := Lib.hid ((Keeps.refl [] w1).alloc (.cells zeroEv 42))
      go_wp2_with (first | ((with_reducible apply wpList_put_ev); exact rfl; exact rfl; (first | assumption | (refine heap_alloc_lt ?_; assumption) | (refine heap_alloc_lt (heap_alloc_lt ?_); assumption) | exact heap_alloc_at (by simp)); exact ⟨rfl, rfl⟩; (refine evC_one _ ?_ ?_ <;> first | rfl | assumption)))
      intro W2 hb2 hk2
      have hq2 : Keeps [] w1 W2 := HKA.out.trans hk2 (fun q hq => .inr (by simp at hq; omega))
      have HK2 := Lib.hid (HK1.out.trans hq2 (FSub.refl _ _))
      clear hb2 hk2 hq2 HKA
      cases B with
      | true =>
        go_wp2_with fail
        go_roundw
        case rel => exact ⟨k + 1, by go_num, by omega, by rw [HC.out]; go_num, HK2.out⟩
        case measure => simp [intOf]; omega
      | false =>
        go_wp2_with fail
        go_roundw
        case rel => exact ⟨k + 1, by go_num, by omega, by rw [HC.out]; rfl, HK2.out⟩
        case measure => simp [intOf]; omega
    · obtain rfl : k = 16 := by omega
      have HKP := Lib.hid hkp
      change Code.wp _ _ _ _ _
      generalize hM : ((List.range 16).filter fun (c : Nat) => (hPend (evsOf T) (c : Int)).isSome).length = M at *
      have HM := Lib.hid hM
      clear hM hkp
      go_wp2_with fail
      go_ret
      exact ⟨by rw [← HM.out]; rfl, HKP.out⟩
theorem r7appended_any (w : World) (l : List Mic) {N : Nat} (v : Value) (hv : Mics N w v l) (hN : N ≤ w.heap.size) (hl : l.length ≤ 1000) (m : Mic) (to : Nat) (hto : to ≤ l.length) :
    Calls Tryz.prog 59 #[v, .agg #[.bool m.rd, .int .u8 m.key, .int .u16 m.v], .int .i64 to] w fun e w' => e = .returned (.int .i64 (mApp (l.take to) m : Nat)) ∧ Keeps [] w w' := by
  have hk0 := (Keeps.refl [] w).alloc (.cells #[.bool m.rd, .int .u8 m.key, .int .u16 m.v] 52)
  have hB := heap_alloc_new w (.cells #[.bool m.rd, .int .u8 m.key, .int .u16 m.v] 52)
  have hv0 := hv.same (hk0.same hN (by simp))
  have c1 : (w.alloc (.cells #[.bool m.rd, .int .u8 m.key, .int .u16 m.v] 52)).cell? ⟨w.heap.size, 1, none⟩ = some (.int .u8 m.key) := cell_lit hB 1 rfl
  have c2 : (w.alloc (.cells #[.bool m.rd, .int .u8 m.key, .int .u16 m.v] 52)).cell? ⟨w.heap.size, 2, none⟩ = some (.int .u16 m.v) := cell_lit hB 2 rfl
  have HK0 := Lib.hid hk0
  obtain ⟨a, cp, rfl, hc, hm, hrow⟩ := hv0
  have HR := Lib.hid hrow
  clear hk0 hB hv hrow
  generalize hn2 : l.length = n at *
  have HN2 := Lib.hid hn2
  clear hn2
  go_enter Tryz.func59, Tryz.ntmps59
  go_wp2_with fail
  generalize w.alloc _ = W at *
  generalize w.heap.size = B at *
  go_loopw [7, 8] (fun z i wr => ∃ k nd : Nat, i = .int .i64 k ∧ k ≤ to ∧ z = .int .i64 (mApp (l.take k) m : Nat) ∧ wr = W.drewN nd) (fun _ i _ => to - (intOf i).toNat)
  case atStart => exact ⟨0, 0, rfl, by omega, rfl, rfl⟩
  case round =>
    obtain ⟨k, nd, rfl, hk, rfl, rfl⟩ := hrel
    by_cases hlt : k < to
    · have hkl : k < l.length := by have := HN2.out; omega
      obtain ⟨xb, xo, rfl, hxb, hxc⟩ := HR.out (fun e => by rw [e] at hkl; simp at hkl)
      obtain ⟨m1, m2, m3⟩ := hxc k _ (getD_get micNone hkl)
      have htk : mApp (l.take (k + 1)) m = mApp (l.take k) m + mApp [l.getD k micNone] m := by rw [take_nextD micNone hkl, mApp_app]
      rw [mApp_one] at htk
      have hle : mApp (l.take k) m ≤ 1000 := by
        have h1 : mApp (l.take k) m ≤ (l.take k).length := List.length_filter_le _ _
        have h2 : (l.take k).length ≤ l.length := by rw [List.length_take]; omega
        have := HN2.out
        omega
      generalize mApp (l.take k) m = M at *
      generalize l.getD k micNone = y at *
      obtain ⟨y1, y2, y3⟩ := y
      simp only at m1 m2 m3 htk
      have HT := Lib.hid htk
      clear hxc htk
      cases y1 with
      | true =>
        go_wp2_with fail
        go_quiet (fail)
        go_wp2_with fail
        go_roundw
        case rel => exact ⟨k + 1, _, by go_num, by omega, by rw [HT.out]; simp, rfl⟩
        case measure => simp [intOf]; omega
      | false =>
        by_cases h2 : y2 = m.key
        · by_cases h3 : y3 = m.v
          · have HT2 := Lib.hid (show mApp (l.take (k + 1)) m = M + 1 by rw [HT.out, if_pos ⟨rfl, h2, h3⟩])
            subst h2 h3
            go_wp2_with fail
            go_quiet (fail)
            go_wp2_with fail
            go_roundw
            case rel => exact ⟨k + 1, _, by go_num, by omega, by rw [HT2.out]; go_num, rfl⟩
            case measure => simp [intOf]; omega
          · have HT2 := Lib.hid (show mApp (l.take (k + 1)) m = M by rw [HT.out, if_neg (fun h => h3 h.2.2)]; rfl)
            have t3 : (y3 == m.v) = false := by simpa using h3
            subst h2
            clear h3
            go_wp2_with fail
            go_quiet (fail)
            go_wp2_with fail
            go_roundw
            case rel => exact ⟨k + 1, _, by go_num, by omega, by rw [HT2.out], rfl⟩
            case measure => simp [intOf]; omega
        · have HT2 := Lib.hid (show mApp (l.take (k + 1)) m = M by rw [HT.out, if_neg (fun h => h2 h.2.1)]; rfl)
          have t2 : (y2 == m.key) = false := by simpa using h2
          clear h2
          go_wp2_with fail
          go_quiet (fail)
          go_wp2_with fail
          go_roundw
          case rel => exact ⟨k + 1, _, by go_num, by omega, by rw [HT2.out], rfl⟩
          case measure => simp [intOf]; omega
    · obtain rfl : k = to := by omega
      clear HR
      go_wp2_with fail
      go_ret
      exact ⟨rfl, HK0.out.drewN _⟩
end Go.Proofs.YtlaccndjlfpjbaaGreatDoor
