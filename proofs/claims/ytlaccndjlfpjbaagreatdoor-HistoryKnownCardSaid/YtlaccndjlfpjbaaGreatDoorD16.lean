/-
  The program's history: micros that are looked for; laws for regions whose head reads.
-/
import Derived.StillTailTactics
import Derived.BigQuiet
import Derived.Test.YtlaccndjlfpjbaaGreatDoorD15
import Derived.Test.YtlaccndjlfpjbaaGreatDoorD14
import Derived.Test.YtlaccndjlfpjbaaGreatDoorD04
import Derived.Test.YtlaccndjlfpjbaaGreatDoorD02
set_option linter.unusedSimpArgs false
set_option linter.unusedVariables false
namespace Go.Proofs.YtlaccndjlfpjbaaGreatDoor
open Go.RowKit Go.Maps
section
variable {ops : Array Oper} {w : World} {Q : Act → Prop} {a : Act} {o : Oper} {rest : List Oper}
/-- A whole struct is read, in the head of a region that draws. -/
theorem wpStill_load_mid (hw : Region.wanted o (yielded ops a.tmps) = true) (ty : TypeId) (x : Operand) (ho : o.op = .load ty x) (b off : Nat) (hx : a.eval x = .pointer (some ⟨b, off, none⟩)) (cs : List Value) (d : TypeDesc) (hc : w.rangeAt b off cs)
    (hu : Tryz.prog.underlying ty = some d) (hd : d.isRow = true) (hi : (Tryz.prog.info? ty).map (·.size) = some cs.length) (h : wpStill Tryz.prog ops w Q rest (a.put o.dst (.agg cs.toArray))) : wpStill Tryz.prog ops w Q (o :: rest) a := by
  refine wpStill_step (fun K hK => ?_)
  rw [if_pos hw]
  unfold Oper.still execOp
  simp only [ho, hx, Instr.loadAt, Instr.sureAddr, Sem.run_bind, Sem.run_pure, Result.andThen_ok, run_loadVar_mid w b off ty cs d hc hu hd hi]
  exact ⟨rfl, hK _ h⟩
theorem wpStill_load_ev {x : Ev} {tx rd : Value} {t : TypeId} {fr : Nat × Nat} (hw : Region.wanted o (yielded ops a.tmps) = true) (p : Operand) (ho : o.op = .load 42 p) (b : Nat) (hx : a.eval p = .pointer (some ⟨b, 0, none⟩)) (hb : w.heap[b]? = some (.cells (evC x tx rd) t fr))
    (h : wpStill Tryz.prog ops w Q rest (a.put o.dst (.agg (evC x tx rd)))) : wpStill Tryz.prog ops w Q (o :: rest) a :=
  wpStill_load_mid hw 42 p ho b 0 hx (evC x tx rd).toList _ (fun j v hj => by rw [Nat.zero_add]; simp only [World.cell?, hb]; simpa using hj) Tryz.underlying42 rfl (by rw [evC_len]; kernel_rfl) (by rw [Array.toArray_toList]; exact h)
end
set_option maxHeartbeats 4000000
set_option maxRecDepth 100000
theorem micsIndex_any (w : World) (l : List Mic) (m : Mic) {N : Nat} (v : Value) (hv : Mics N w v l) (hN : N ≤ w.heap.size) :
    Calls Tryz.prog 97 #[v, micV m] w fun e w' => ∃ r : Int, e = .returned (.int .i64 r) ∧ ((m ∈ l ∧ 0 ≤ r) ∨ (m ∉ l ∧ r = -1)) ∧ Keeps [] w w' := by
  obtain ⟨a, c, rfl, hc, hm, h⟩ := hv
  have HH := Lib.hid h; clear h
  obtain ⟨y1, y2, y3⟩ := m
  have hk0 := (Keeps.refl [] w).alloc (.cells #[.bool y1, .int .u8 y2, .int .u16 y3] 52)
  have hX := heap_alloc_new w (.cells #[.bool y1, .int .u8 y2, .int .u16 y3] 52)
  unfold micV micC
  go_enter Tryz.func97, Tryz.ntmps97
  go_wp2_with fail
  go_loopw [4, 5, 8] (fun r _ i wr => ∃ k q : Nat, r = .int .i64 0 ∧ i = .int .i64 k ∧ k ≤ l.length ∧ (∀ j, j < k → l.getD j micNone ≠ ⟨y1, y2, y3⟩) ∧ wr = (w.alloc (.cells #[.bool y1, .int .u8 y2, .int .u16 y3] 52)).drewN q) (fun _ _ i _ => l.length - (intOf i).toNat)
  case atStart => exact ⟨0, 0, rfl, rfl, by omega, fun j hj => by omega, rfl⟩
  case round =>
    obtain ⟨k, q, rfl, rfl, hk, hp, rfl⟩ := hrel
    have HP := Lib.hid hp; clear hp
    have HK0 := Lib.hid hk0; clear hk0
    by_cases hlt : k < l.length
    · obtain ⟨bk, o, rfl, hbN, hcells⟩ := HH.out (fun e => by rw [e] at hlt; simp at hlt)
      obtain ⟨d1, d2, d3⟩ := hcells k _ (getD_get micNone hlt)
      have hz : bk < w.heap.size := by omega
      replace d1 := HK0.out.cell d1 (by simp)
      replace d2 := HK0.out.cell d2 (by simp)
      replace d3 := HK0.out.cell d3 (by simp)
      have HIN := Lib.hid (getD_in micNone hlt)
      clear hcells HH
      generalize hW : w.alloc (.cells #[.bool y1, .int .u8 y2, .int .u16 y3] 52) = W at *
      have HW := Lib.hid hW; clear hW
      have a1 : W.cell? ⟨w.heap.size, 0, none⟩ = some (.bool y1) := by simp [World.cell?, hX]
      have a2 : W.cell? ⟨w.heap.size, 1, none⟩ = some (.int .u8 y2) := by simp [World.cell?, hX]
      have a3 : W.cell? ⟨w.heap.size, 2, none⟩ = some (.int .u16 y3) := by simp [World.cell?, hX]
      clear hX
      by_cases he : l.getD k micNone = ⟨y1, y2, y3⟩
      · rw [he] at d1 d2 d3 HIN
        simp only at d1 d2 d3
        clear he
        go_wp2_with fail
        go_region
        go_wp2_with fail
        go_ret
        exact ⟨_, rfl, .inl ⟨HIN.out, by omega⟩, (HK0.out.drewN q).drew⟩
      · have HN : Hid (∀ j, j < k + 1 → l.getD j micNone ≠ ⟨y1, y2, y3⟩) := Lib.hid (fun j hj => (by omega : j < k ∨ j = k).elim (HP.out j) (fun e => by subst e; exact he))
        clear HP HIN
        generalize l.getD k micNone = M at *
        obtain ⟨x1, x2, x3⟩ := M
        simp only at d1 d2 d3
        have ways : (x1 = true ∧ y1 = false) ∨ (x1 = false ∧ y1 = true) ∨ (x1 = y1 ∧ (y2 == x2) = false) ∨ (x1 = y1 ∧ x2 = y2 ∧ (y3 == x3) = false) := by
          cases x1 <;> cases y1 <;> simp at he ⊢ <;> omega
        clear he
        rcases ways with ⟨rfl, rfl⟩ | ⟨rfl, rfl⟩ | ⟨rfl, t1⟩ | ⟨rfl, rfl, t1⟩
        all_goals
          go_wp2_with fail
          go_region
          go_wp2_with fail
          go_roundw
          case rel => exact ⟨k + 1, q + 1, rfl, by go_num, by omega, HN.out, rfl⟩
          case measure => simp [intOf]; omega
    · obtain rfl : k = l.length := by omega
      have hno : (⟨y1, y2, y3⟩ : Mic) ∉ l := by
        intro hm
        obtain ⟨j, hj, e⟩ := List.mem_iff_getElem.1 hm
        exact HP.out j hj (by simp [List.getD, hj, e])
      clear HH HP hX
      go_wp2_with fail
      go_ret
      exact ⟨_, rfl, .inr ⟨hno, rfl⟩, HK0.out.drewN q⟩
theorem micsContains_any (w : World) (l : List Mic) (m : Mic) {N : Nat} (v : Value) (hv : Mics N w v l) (hN : N ≤ w.heap.size) :
    Calls Tryz.prog 67 #[v, micV m] w fun e w' => ∃ B : Bool, e = .returned (.bool B) ∧ (B = true ↔ m ∈ l) ∧ Keeps [] w w' := by
  obtain ⟨y1, y2, y3⟩ := m
  have hk0 := (Keeps.refl [] w).alloc (.cells #[.bool y1, .int .u8 y2, .int .u16 y3] 52)
  have HC := Lib.hid (micsIndex_any (w.alloc (.cells #[.bool y1, .int .u8 y2, .int .u16 y3] 52)) l ⟨y1, y2, y3⟩ v (hv.same (hk0.same hN (by simp))) (Nat.le_trans hN hk0.size))
  obtain ⟨a, c, rfl, -⟩ := hv
  unfold micV micC
  go_enter Tryz.func67, Tryz.ntmps67
  go_wp2_with fail
  refine (HC.out).mono ?_; rintro e w1 ⟨r, rfl, hr, hk1⟩
  clear HC
  replace hk1 := hk0.trans hk1 (FSub.refl _ _)
  rcases hr with ⟨h1, h2⟩ | ⟨h1, rfl⟩
  · go_wp2_with fail
    go_ret
    exact ⟨true, rfl, by simp [h1], hk1⟩
  · go_wp2_with fail
    go_ret
    exact ⟨false, rfl, by simp [h1], hk1⟩
end Go.Proofs.YtlaccndjlfpjbaaGreatDoor
/-
  The program's history: numbers that are appended twice; numbers that are added.
-/
namespace Go.Proofs.YtlaccndjlfpjbaaGreatDoor
open Go.RowKit Go.Maps
theorem Mics.take {N : Nat} {w : World} {a : Option Addr} {n c k : Nat} {l : List Mic} (h : Mics N w (.slice a n c) l) (hk : k ≤ l.length) : Mics N w (.slice a k c) (l.take k) := by
  obtain ⟨a', c', e, hc, hm, h⟩ := h
  obtain ⟨rfl, rfl, rfl⟩ : a = a' ∧ n = l.length ∧ c = c' := by simpa using e
  have hl : (l.take k).length = k := by simp; omega
  refine ⟨a, c, by rw [hl], by omega, hm, fun hn => ?_⟩
  have hn2 : l ≠ [] := fun e => hn (by rw [e]; simp)
  obtain ⟨bk, o, rfl, hb, h⟩ := h hn2
  refine ⟨bk, o, rfl, hb, fun j m hj => h j m ?_⟩
  rw [List.getElem?_take] at hj
  split at hj
  · exact hj
  · cases hj
theorem Mics.new {N : Nat} {w w' : World} {v : Value} {l : List Mic} (h : Mics N w v l) (hk : Keeps [] w w') (hN : N ≤ w.heap.size) : Mics N w' v l := h.same (hk.same hN (by simp))
theorem zero_unit (w : World) : (zeroValue 81).run Tryz.prog w = .ok (.agg #[]) w := by kernel_rfl
/-- A look-up in the map of what was appended, in a region that draws its order. -/
theorem yields_lookup {ops : Array Oper} {S : World → Prop} {o : Oper} {a : Act} (hw : Region.wanted o (yielded ops a.tmps) = true) (m x : Operand) (ho : o.op = .lookup 71 m x true) (b n : Nat) (D : DataW Unit)
    (hm : a.eval m = .map (some b)) (hS : ∀ w, S w → w.ownsMap Tryz.prog 52 unitElem b n D) (key : Mic) (hk : key.In) (hx : a.eval x = micV key) : YieldsIf Tryz.prog ops S o (.tuple #[.agg #[], .bool (Maps.has D (micK key))]) a :=
  .inl ⟨hw, fun w hw' => by
    obtain ⟨v, ps, hrun, hv⟩ := (hS w hw').look_ok mic_law Tryz.underlying71 (zero_unit w) unitElem_mk (mic_key key hk)
    obtain ⟨rfl, _⟩ := unitElem_inv hv
    unfold execOp
    simp [ho, hm, hx, hrun, Result.andThen]⟩
set_option maxHeartbeats 8000000
set_option maxRecDepth 100000
theorem repeats_any (w : World) {p mb n : Nat} {g : Cfg} {on : Bool} {op : EvL} {la : Int} {ap : List Mic} {O : List Nat} (hP : HPast w p mb n g on op la ap O) (l : List Mic) (hin : ∀ m ∈ l, m.In) {N : Nat} (v : Value) (hv : Mics N w v l) (hN : N ≤ w.heap.size) :
    Calls Tryz.prog 53 #[.pointer (some ⟨p, 0, none⟩), v] w fun e w' => e = .returned (.bool (hTwice ap l)) ∧ Keeps [] w w' := by
  have HMV := Lib.hid hv
  obtain ⟨a, c, rfl, hc, hm, h⟩ := hv
  obtain ⟨D, hown, hhas⟩ := hP.map
  have cM := past_mb hP.len hP.heap
  generalize hR : hTwice ap l = R at *
  have HH := Lib.hid h; have HIN := Lib.hid hin; have HR := Lib.hid hR; have HAS := Lib.hid hhas; have HO := Lib.hid hown; have HCM := Lib.hid cM
  clear h hin hR hhas hown cM hP
  go_enter Tryz.func53, Tryz.ntmps53
  go_wp2_with fail
  go_loopw [4, 5, 6, 7, 8, 11] (fun r _ _ _ _ i wr => ∃ k : Nat, r = .bool false ∧ i = .int .i64 k ∧ k ≤ l.length ∧ (∀ j, j < k → (l.getD j micNone).rd = true ∨ mApp (ap ++ l.take j) (l.getD j micNone) = 0) ∧ Keeps [] w wr) (fun _ _ _ _ _ i _ => l.length - (intOf i).toNat)
  case atStart => exact ⟨0, rfl, rfl, by omega, fun j hj => by omega, Keeps.refl _ _⟩
  case round =>
    obtain ⟨k, rfl, rfl, hk, hp, hkp⟩ := hrel
    have HP := Lib.hid hp; clear hp
    by_cases hlt : k < l.length
    · obtain ⟨bk, o, rfl, hbN, hcells⟩ := HH.out (fun e => by rw [e] at hlt; simp at hlt)
      obtain ⟨d1, d2, d3⟩ := hcells k _ (getD_get micNone hlt)
      have hmi := HIN.out _ (getD_in micNone hlt)
      replace d1 := hkp.cell d1 (by simp)
      replace d2 := hkp.cell d2 (by simp)
      replace d3 := hkp.cell d3 (by simp)
      have hz : bk < wr.heap.size := by have := hkp.size; omega
      have HMI := Lib.hid hmi
      obtain ⟨M, hM⟩ : ∃ M, M = l.getD k micNone := ⟨_, rfl⟩
      have HM := Lib.hid hM
      rw [← hM] at d1 d2 d3 HMI
      clear hM hmi hcells
      obtain ⟨m1, m2, m3⟩ := M
      simp only at d1 d2 d3
      have HKP := Lib.hid hkp; clear hkp
      cases m1 with
      | true =>
        go_wp2_with fail
        go_roundw
        case rel => exact ⟨k + 1, rfl, by go_num, by omega, fun j hj => (by omega : j < k ∨ j = k).elim (HP.out j) (fun e => by subst e; left; rw [← HM.out]), HKP.out.alloc _⟩
        case measure => simp [intOf]; omega
      | false =>
        have HK1 := Lib.hid (HKP.out.alloc (.cells #[.bool false, .int .u8 m2, .int .u16 m3] 52))
        have hX := heap_alloc_new wr (.cells #[.bool false, .int .u8 m2, .int .u16 m3] 52)
        go_wp2_with fail
        generalize wr.alloc (.cells #[.bool false, .int .u8 m2, .int .u16 m3] 52) = W at *
        generalize wr.heap.size = B at *
        obtain ⟨S, hS⟩ : ∃ S : World → Prop, S = fun x => x.ownsMap Tryz.prog 52 unitElem mb n D ∧ x.cell? ⟨p, 313, none⟩ = some (.map (some mb)) ∧ x.heap[B]? = some (.cells #[.bool false, .int .u8 m2, .int .u16 m3] 52 (0, 0)) ∧ Keeps [] w x := ⟨_, rfl⟩
        have hs1 : ∀ w', S w' → w'.cell? ⟨p, 313, none⟩ = some (.map (some mb)) := fun w' h => by rw [hS] at h; exact h.2.1
        have hs2 : ∀ w', S w' → w'.cell? ⟨B, 0, none⟩ = some (.bool false) := fun w' h => by rw [hS] at h; simp [World.cell?, h.2.2.1]
        have hs3 : ∀ w', S w' → w'.cell? ⟨B, 1, none⟩ = some (.int .u8 m2) := fun w' h => by rw [hS] at h; simp [World.cell?, h.2.2.1]
        have hs4 : ∀ w', S w' → w'.cell? ⟨B, 2, none⟩ = some (.int .u16 m3) := fun w' h => by rw [hS] at h; simp [World.cell?, h.2.2.1]
        have hs5 : ∀ w', S w' → w'.ownsMap Tryz.prog 52 unitElem mb n D := fun w' h => by rw [hS] at h; exact h.1
        have HSN := Lib.hid (fun (x : World) (hk : Keeps [] W x) => show S x from by rw [hS]; exact ⟨ownsMap_at HO.out ((HK1.out.trans hk (FSub.refl _ _)).block mb HO.out.lt (by simp)), (HK1.out.trans hk (FSub.refl _ _)).cell HCM.out (by simp), hk.heap hX (by simp), HK1.out.trans hk (FSub.refl _ _)⟩)
        have hSD := HSN.out W.drew (Keeps.refl _ _).drew
        have HS5 := Lib.hid hs5; clear hs5
        have HSE := Lib.hid hS; clear hS
        refine wp_region_noPanic ?_
        refine wp_region_held_drew (S := S) (by kernel_rfl) hSD (fun hHeld => ?_)
        apply wpAnyH_take (i := 0)
        · simp only [List.getElem?_toArray]; rfl
        · kernel_rfl
        · kernel_rfl
        · kernel_rfl
        · exact fun _ _ _ h => h
        · exact Or.inl ⟨by rfl, by intro w hSw; go_simp; try with_reducible rfl⟩
        · assumption
        try simp only [Act.put, List.setIfInBounds_toArray, List.set_cons_zero, List.set_cons_succ]
        apply wpAnyH_take (i := 1)
        · simp only [List.getElem?_toArray]; rfl
        · kernel_rfl
        · kernel_rfl
        · kernel_rfl
        · exact fun _ _ _ h => h
        · exact Or.inl ⟨by rfl, by intro w hSw; go_simp; try with_reducible rfl⟩
        · assumption
        try simp only [Act.put, List.setIfInBounds_toArray, List.set_cons_zero, List.set_cons_succ]
        apply wpAnyH_take (i := 2)
        · simp only [List.getElem?_toArray]; rfl
        · kernel_rfl
        · kernel_rfl
        · kernel_rfl
        · exact fun _ _ _ h => h
        · exact Or.inl ⟨by rfl, by intro w hSw; go_simp; try with_reducible rfl⟩
        · assumption
        try simp only [Act.put, List.setIfInBounds_toArray, List.set_cons_zero, List.set_cons_succ]
        apply wpAnyH_take (i := 3)
        · simp only [List.getElem?_toArray]; rfl
        · kernel_rfl
        · kernel_rfl
        · kernel_rfl
        · exact fun _ _ _ h => h
        · exact Or.inl ⟨by rfl, by intro w hSw; have q0 := hs1 w hSw; go_simp; try with_reducible rfl⟩
        · assumption
        try simp only [Act.put, List.setIfInBounds_toArray, List.set_cons_zero, List.set_cons_succ]
        apply wpAnyH_take (i := 4)
        · simp only [List.getElem?_toArray]; rfl
        · kernel_rfl
        · kernel_rfl
        · kernel_rfl
        · exact fun _ _ _ h => h
        · exact Or.inl ⟨by rfl, by intro w hSw; have q0 := hs2 w hSw; have q1 := hs3 w hSw; have q2 := hs4 w hSw; go_simp; try with_reducible rfl⟩
        · assumption
        try simp only [Act.put, List.setIfInBounds_toArray, List.set_cons_zero, List.set_cons_succ]
        apply wpAnyH_take (i := 5)
        · simp only [List.getElem?_toArray]; rfl
        · kernel_rfl
        · kernel_rfl
        · kernel_rfl
        · exact fun _ _ _ h => h
        · exact yields_lookup (by rfl) _ _ rfl mb n D rfl HS5.out ⟨false, m2, m3⟩ HMI.out rfl
        · assumption
        try simp only [Act.put, List.setIfInBounds_toArray, List.set_cons_zero, List.set_cons_succ]
        apply wpAnyH_take (i := 6)
        · simp only [List.getElem?_toArray]; rfl
        · kernel_rfl
        · kernel_rfl
        · kernel_rfl
        · exact fun _ _ _ h => h
        · exact Or.inl ⟨by rfl, by intro w hSw; go_simp; try with_reducible rfl⟩
        · assumption
        try simp only [Act.put, List.setIfInBounds_toArray, List.set_cons_zero, List.set_cons_succ]
        apply wpAnyH_take (i := 7)
        · simp only [List.getElem?_toArray]; rfl
        · kernel_rfl
        · kernel_rfl
        · kernel_rfl
        · exact fun _ _ _ h => h
        · exact Or.inl ⟨by rfl, by intro w hSw; go_simp; try with_reducible rfl⟩
        · assumption
        try simp only [Act.put, List.setIfInBounds_toArray, List.set_cons_zero, List.set_cons_succ]
        apply wpAnyH_take (i := 8)
        · simp only [List.getElem?_toArray]; rfl
        · kernel_rfl
        · kernel_rfl
        · kernel_rfl
        · exact fun _ _ _ h => h
        · exact Or.inl ⟨by rfl, by intro w hSw; go_simp; try with_reducible rfl⟩
        · assumption
        try simp only [Act.put, List.setIfInBounds_toArray, List.set_cons_zero, List.set_cons_succ]
        apply wpAnyH_ready (rs := [9])
        · kernel_rfl
        · simp
        apply AllReadyH.cons (hs := AllReadyH.nil)
        · simp only [List.getElem?_toArray]; rfl
        intro K hK
        rw [if_pos (by rfl)]
        go_simp
        refine hK.out _ _ ?_ (fun hHeld => ?_)
        · exact HSN.out _ (((Keeps.refl _ _).alloc _).drew)
        clear hK K
        try simp only [Act.put, List.setIfInBounds_toArray, List.set_cons_zero, List.set_cons_succ]
        apply wpAnyH_ready (rs := [10])
        · kernel_rfl
        · simp
        apply AllReadyH.cons (hs := AllReadyH.nil)
        · simp only [List.getElem?_toArray]; rfl
        intro K hK
        rw [if_pos (by rfl)]
        go_simp
        refine hK.out _ _ ?_ (fun hHeld => ?_)
        · exact HSN.out _ (((Keeps.refl _ _).alloc _).drew)
        clear hK K
        try simp only [Act.put, List.setIfInBounds_toArray, List.set_cons_zero, List.set_cons_succ]
        apply wpAnyH_ready (rs := [11])
        · kernel_rfl
        · simp
        apply AllReadyH.cons (hs := AllReadyH.nil)
        · simp only [List.getElem?_toArray]; rfl
        intro K hK
        rw [if_pos (by rfl)]
        go_simp
        refine hK.out _ _ ?_ (fun hHeld => ?_)
        · exact HSN.out _ (((Keeps.refl _ _).alloc _).drew)
        clear hK K
        try simp only [Act.put, List.setIfInBounds_toArray, List.set_cons_zero, List.set_cons_succ]
        refine wpAnyH_done (by kernel_rfl) ?_ _
        refine NoPanic.normal ?_
        have hk2 : Keeps [] W (W.alloc (.cells #[] 81)).drew := ((Keeps.refl _ _).alloc _).drew
        have HK2 := Lib.hid (HK1.out.trans hk2 (FSub.refl _ _))
        have hX2 := hk2.heap hX (by simp)
        have hb := HAS.out ⟨false, m2, m3⟩ HMI.out rfl
        clear hHeld hSD hs1 hs2 hs3 hs4 hk2 hX
        generalize (W.alloc (.cells #[] 81)).drew = W2 at *
        generalize Maps.has D (micK ⟨false, m2, m3⟩) = HB at *
        have HX2 := Lib.hid hX2
        have a1 : W2.cell? ⟨B, 0, none⟩ = some (.bool false) := by simp [World.cell?, hX2]
        have a2 : W2.cell? ⟨B, 1, none⟩ = some (.int .u8 m2) := by simp [World.cell?, hX2]
        have a3 : W2.cell? ⟨B, 2, none⟩ = some (.int .u16 m3) := by simp [World.cell?, hX2]
        clear hX2
        have HHB := Lib.hid hb; clear hb
        cases HB with
        | true =>
          go_wp2_with fail
          go_quiet (fail)
          go_wp2_with fail
          go_ret
          refine ⟨?_, HK2.out.drewN nq⟩
          obtain rfl : R = true := HR.out.symm.trans ((hTwice_iff l ap).2 ⟨k, hlt, by
            have e : l[k] = l.getD k micNone := by simp [List.getD, hlt]
            rw [e, ← HM.out]
            refine ⟨rfl, ?_⟩
            have := HHB.out
            simp at this
            rw [mApp_app]; omega⟩)
          rfl
        | false =>
          have hkc : k ≤ c := by omega
          have hcon := micsContains_any W2.drew (l.take k) ⟨false, m2, m3⟩ (N := N) (.slice (some ⟨bk, o, none⟩) k c) (((Mics.take (HMV.out) (by omega)).new (HK2.out.drew) hN)) (Nat.le_trans hN HK2.out.size)
          have HCON := Lib.hid hcon; clear hcon
          go_wp2_with fail
          go_still_tail 6, rfl
          change wpList _ _ _ _ _ W2.drew
          go_wp2_with fail
          refine (HCON.out).mono ?_; rintro e w3 ⟨HB3, rfl, hB3, hk3⟩
          clear HCON
          have hk3 : Keeps [] W2 w3 := (Keeps.refl [] W2).drew.trans hk3 (FSub.refl _ _)
          have HK3 := Lib.hid (HK2.out.trans hk3 (FSub.refl _ _)); clear hk3
          have HB4 := Lib.hid hB3; clear hB3
          cases HB3 with
          | true =>
            go_wp2_with fail
            go_ret
            refine ⟨?_, HK3.out⟩
            obtain rfl : R = true := HR.out.symm.trans ((hTwice_iff l ap).2 ⟨k, hlt, by
              have e : l[k] = l.getD k micNone := by simp [List.getD, hlt]
              rw [e, ← HM.out]
              refine ⟨rfl, ?_⟩
              have := (mApp_pos_mem (l.take k) ⟨false, m2, m3⟩ rfl).2 (HB4.out.1 (by simp))
              rw [mApp_app]; omega⟩)
            rfl
          | false =>
            have hn : mApp (ap ++ l.take k) ⟨false, m2, m3⟩ = 0 := by
              have h1 := HHB.out
              simp at h1
              have h2 : ¬ 0 < mApp (l.take k) ⟨false, m2, m3⟩ := fun h => by
                have := HB4.out.2 ((mApp_pos_mem (l.take k) ⟨false, m2, m3⟩ rfl).1 h)
                cases this
              rw [mApp_app]; omega
            have HN := Lib.hid hn; clear hn
            go_wp2_with fail
            go_roundw
            case rel => exact ⟨k + 1, rfl, by go_num, by omega, fun j hj => (by omega : j < k ∨ j = k).elim (HP.out j) (fun e => by subst e; right; rw [← HM.out]; exact HN.out), HK3.out⟩
            case measure => simp [intOf]; omega
    · obtain rfl : k = l.length := by omega
      obtain rfl : R = false := HR.out.symm.trans (hTwice_false fun j hj => by
        have e : l[j] = l.getD j micNone := by simp [List.getD, hj]
        rw [e]; exact HP.out j hj)
      clear HH HP HIN HR HAS HMV
      go_wp2_with fail
      go_ret
      exact ⟨rfl, hkp⟩
end Go.Proofs.YtlaccndjlfpjbaaGreatDoor
/-
  The program's history: numbers that are added; an event of one's own.
-/
namespace Go.Proofs.YtlaccndjlfpjbaaGreatDoor
open Go.RowKit Go.Maps
set_option maxHeartbeats 8000000
set_option maxRecDepth 100000
theorem map_no_cell {w : World} {b n : Nat} {ap : List Mic} (h : MapAt w b n ap) {bk i : Nat} {v : Value} (hc : w.cell? ⟨bk, i, none⟩ = some v) : bk ≠ b := by
  rintro rfl
  obtain ⟨D, ⟨es, clock, hb, _⟩, _⟩ := h
  simp [World.cell?, hb] at hc
theorem add_any (w : World) {p mb n : Nat} {g : Cfg} {on : Bool} {op : EvL} {la : Int} {ap : List Mic} {O : List Nat} (hP : HPast w p mb n g on op la ap O) (hn : n ≤ 1000000) (l : List Mic) (hin : ∀ m ∈ l, m.In) {N : Nat} (v : Value) (hv : Mics N w v l) (hN : N ≤ w.heap.size) (hl : l.length ≤ 1000) :
    Calls Tryz.prog 42 #[.pointer (some ⟨p, 0, none⟩), v] w fun e w' => e = .returned (.tuple #[]) ∧ HPast w' p mb (n + l.length) g on op la (ap ++ l) O ∧ Keeps [mb] w w' := by
  obtain ⟨a, c, rfl, hc, hm, h⟩ := hv
  have HH := Lib.hid h; have HIN := Lib.hid hin; have HP0 := Lib.hid hP
  clear h hin hP
  go_enter Tryz.func42, Tryz.ntmps42
  go_wp2_with fail
  go_loopw [5, 8] (fun _ i wr => ∃ k : Nat, i = .int .i64 k ∧ k ≤ l.length ∧ HPast wr p mb (n + k) g on op la (ap ++ l.take k) O ∧ Keeps [mb] w wr) (fun _ i _ => l.length - (intOf i).toNat)
  case atStart => exact ⟨0, rfl, by omega, by simpa using HP0.out, Keeps.refl _ _⟩
  case round =>
    obtain ⟨k, rfl, hk, hP, hkp⟩ := hrel
    by_cases hlt : k < l.length
    · obtain ⟨bk, o, rfl, hbN, hcells⟩ := HH.out (fun e => by rw [e] at hlt; simp at hlt)
      obtain ⟨d1, d2, d3⟩ := hcells k _ (getD_get micNone hlt)
      have hmi := HIN.out _ (getD_in micNone hlt)
      have hne : bk ≠ mb := map_no_cell HP0.out.map d1
      replace d1 := hkp.cell d1 (by simpa using hne)
      replace d2 := hkp.cell d2 (by simpa using hne)
      replace d3 := hkp.cell d3 (by simpa using hne)
      have hz : bk < wr.heap.size := by have := hkp.size; omega
      have HMI := Lib.hid hmi
      have HT := Lib.hid (take_nextD micNone hlt)
      obtain ⟨M, hM⟩ : ∃ M, M = l.getD k micNone := ⟨_, rfl⟩
      rw [← hM] at d1 d2 d3 HMI HT
      clear hM hmi hcells hne
      obtain ⟨m1, m2, m3⟩ := M
      simp only at d1 d2 d3
      have HKP := Lib.hid hkp; have HPR := Lib.hid hP
      clear hkp hP
      cases m1 with
      | true =>
        go_wp2_with fail
        go_roundw
        case rel => exact ⟨k + 1, by go_num, by omega, by
          rw [HT.out, ← List.append_assoc]
          have := HPR.out.new ((Keeps.refl [] wr).alloc (.cells #[.bool true, .int .u8 m2, .int .u16 m3] 52))
          exact { this with map := (this.map.read ⟨true, m2, m3⟩ rfl).mono (by omega) }, HKP.out.alloc _⟩
        case measure => simp [intOf]; omega
      | false =>
        have HK1 := Lib.hid (HKP.out.alloc (.cells #[.bool false, .int .u8 m2, .int .u16 m3] 52))
        have HP1 := Lib.hid (HPR.out.new ((Keeps.refl [] wr).alloc (.cells #[.bool false, .int .u8 m2, .int .u16 m3] 52)))
        have hX := heap_alloc_new wr (.cells #[.bool false, .int .u8 m2, .int .u16 m3] 52)
        go_wp2_with fail
        generalize wr.alloc (.cells #[.bool false, .int .u8 m2, .int .u16 m3] 52) = W at *
        generalize wr.heap.size = B at *
        have a1 : W.cell? ⟨B, 0, none⟩ = some (.bool false) := by simp [World.cell?, hX]
        have a2 : W.cell? ⟨B, 1, none⟩ = some (.int .u8 m2) := by simp [World.cell?, hX]
        have a3 : W.cell? ⟨B, 2, none⟩ = some (.int .u16 m3) := by simp [World.cell?, hX]
        have a4 := past_mb HP1.out.len HP1.out.heap
        clear hX
        go_still_tail 6, rfl
        change wpList _ _ _ _ _ W.drew
        obtain ⟨D, hown, hhas⟩ := HP1.out.map
        have hown : W.drew.ownsMap Tryz.prog 52 unitElem mb (n + k) D := hown
        have HAS := Lib.hid hhas; have hD := hown.isMap
        go_wp2_with (refine wpList_mapUpdate_own _ rfl _ _ _ 71 rfl 52 81 mic_law Tryz.underlying71 _ mb (n + k) D rfl hown (by unfold maxLen; omega) (micV ⟨false, m2, m3⟩) _ (micK ⟨false, m2, m3⟩) rfl rfl (mic_key _ HMI.out) _ [] unitElem_mk ?_)
        intro W2 hown2 hgrow2
        have hk2 : Keeps [mb] W W2 := ⟨hgrow2.os, hgrow2.tape, hgrow2.output, hgrow2.size, fun i hi hF => hgrow2.block i hi (fun e => hF (by cases e; simp))⟩
        have HM2 := Lib.hid (MapAt.put hD HAS.out ⟨false, m2, m3⟩ HMI.out rfl hown2)
        have HK2 := Lib.hid hk2
        clear hown2 hgrow2 hown hD hhas HAS hk2 a1 a2 a3 a4
        go_wp2_with fail
        go_roundw
        case rel =>
          refine ⟨k + 1, by go_num, by omega, ?_, HK1.out.step HK2.out (fun q hq => hq)⟩
          rw [HT.out, ← List.append_assoc]
          have h1 := HP1.out
          exact ⟨HK2.out.heap h1.heap (by simpa using h1.pm), h1.len, HM2.out, fun c hc => ⟨(h1.evs c hc).1, (h1.evs c hc).2.1.keeps HK2.out (fun q hq hf => h1.mO (by simp at hf; rw [← hf]; exact hq)), (h1.evs c hc).2.2⟩, h1.pm, h1.pO, h1.mO, fun q hq => Nat.lt_of_lt_of_le (h1.oz q hq) HK2.out.size⟩
        case measure => simp [intOf]; omega
    · obtain rfl : k = l.length := by omega
      rw [List.take_length] at hP
      clear HH HIN
      go_wp2_with fail
      go_end0
      exact ⟨rfl, hP, hkp⟩
end Go.Proofs.YtlaccndjlfpjbaaGreatDoor
/-
  The program's history: an event of one's own.
-/
namespace Go.Proofs.YtlaccndjlfpjbaaGreatDoor
open Go.RowKit Go.Maps
set_option maxHeartbeats 8000000
set_option maxRecDepth 100000
theorem wpList_put_cell1 {ops : Array Oper} {rest : List Oper} {o : Oper} {a : Act} {w : World} {Q : Exit → Act → World → Prop} {T : TypeId} {x y : Operand} {b : Nat} {e : Ev} {tx rd : Value} {t : TypeId} {v : Value} (hgd : o.guard = none) (i : Nat) (e' : Ev) (tx' rd' : Value)
    (ho : o.op = .store T x y) (hx : a.eval x = .pointer (some ⟨b, i, none⟩)) (hy : a.eval y = v) (hg : w.heap[b]? = some (.cells (evC e tx rd) t (0, 0))) (hi : (Tryz.prog.info? T).map (·.size) = some 1) (h1 : v.oneCell' = true)
    (hc : ((evC e tx rd)[i]?).isSome = true) (hs : (evC e tx rd).setIfInBounds i v = evC e' tx' rd')
    (h : ∀ W, W.heap[b]? = some (.cells (evC e' tx' rd') t (0, 0)) → Keeps [b] w W → wpList Tryz.prog ops Q rest (a.put o.dst undef) W) : wpList Tryz.prog ops Q (o :: rest) a w :=
  wpList_plain hgd fun K hK => wp_put_cell i e' tx' rd' ho hx hy hg hi h1 hc hs (fun W h2 h3 => hK _ _ (h W h2 h3))
theorem append_mics_nil (w : World) {N : Nat} (v : Value) (l : List Mic) (hv : Mics N w v l) (hl : l.length ≤ 1000) :
    ∃ v' w', (Builtin.append_ #[37, 37] 37 #[.slice none 0 0, v]).run Tryz.prog w = .ok v' w' ∧ w'.ownsRow w.heap.size 52 3 v' l.length (micsC l) ∧ Keeps [] w w' := by
  obtain ⟨i0, hi, hz0, hz1, hz2⟩ := info_parts Tryz.infoM
  obtain ⟨a, c, rfl, hc, hm, h⟩ := hv
  by_cases hn : l = []
  · subst hn
    refine ⟨.slice none 0 0, w, ?_, ⟨rfl, .inl ⟨rfl, rfl⟩⟩, Keeps.refl _ _⟩
    cases a with
    | none => exact run_append_nothing w 37 37 37 52 i0 Tryz.underlying37 hi none 0 0 (Nat.le_refl _) _ (Src.ofNil w Tryz.underlying37 c)
    | some a => exact run_append_nothing w 37 37 37 52 i0 Tryz.underlying37 hi none 0 0 (Nat.le_refl _) _ (Src.ofSlice w Tryz.underlying37 a 0 c [] (by simp) (by simp) (by simp))
  · obtain ⟨bk, o, rfl, _, hcells⟩ := h hn
    have hget : ∀ j u, (micsC l)[j]? = some u → w.cell? ((⟨bk, o, none⟩ : Addr).add j) = some u := by
      intro j u hj
      rw [Addr.add_mid]
      have hjl : j < l.length * 3 := by rw [← micsC_length]; exact (List.getElem?_eq_some_iff.1 hj).1
      have hk : j / 3 < l.length := by omega
      obtain ⟨g1, g2, g3⟩ := hcells (j / 3) _ (List.getElem?_eq_getElem hk)
      obtain ⟨e1, e2, e3⟩ := micsC_get l (j / 3) _ (List.getElem?_eq_getElem hk)
      have hmod : j = j / 3 * 3 ∨ j = j / 3 * 3 + 1 ∨ j = j / 3 * 3 + 2 := by omega
      rcases hmod with e | e | e
      · rw [e, e1] at hj; rw [e, ← hj]; exact g1
      · rw [e, e2] at hj; rw [e, ← hj]; exact g2
      · rw [e, e3] at hj; rw [e, ← hj]; exact g3
    have hone : ∀ u ∈ micsC l, u.oneCell' = true := by
      intro u hu
      simp only [micsC, List.mem_flatMap] at hu
      obtain ⟨m, _, hu⟩ := hu
      simp [micC] at hu
      rcases hu with rfl | rfl | rfl <;> rfl
    obtain ⟨v', w', hr, ho, hg, _⟩ := run_append_own (P := Tryz.prog) (w := w) w.heap.size 37 37 52 i0 (.agg #[.bool false, .int .u8 0, .int .u16 0]) 3 4 Tryz.underlying37 hi hz0 hz1 hz2 rfl (by decide) (.slice none 0 0) 0 [] ⟨rfl, .inl ⟨rfl, rfl⟩⟩
      ⟨bk, o, none⟩ l.length c (micsC l) (by rw [micsC_length]) hget hone (by unfold maxLen; omega) (by omega) (Nat.le_refl _)
    exact ⟨v', w', hr, by simpa using ho, (Keeps.refl [] w).grown hg (by simp [own, Value.ownBlock])⟩
theorem own_any (w : World) (x : Ev) {N : Nat} (tx rd : Value) (ht : EvAt N w tx rd x) (hN : N ≤ w.heap.size) (hl : x.t.length ≤ 1000) :
    Calls Tryz.prog 36 #[.agg (evC x tx rd)] w fun e w' => ∃ tx', e = .returned (.agg (evC { x with r := [] } tx' (.slice none 0 0))) ∧ MicsIn (own tx') w' tx' x.t ∧ Keeps [] w w' ∧ ∀ q ∈ own tx', w.heap.size ≤ q ∧ q < w'.heap.size := by
  have hone2 := ht.r.one
  have hk0 := ((Keeps.refl [] w).alloc (.cells (evC x tx rd) 42)).alloc (.cells (evC evZero (.slice none 0 0) (.slice none 0 0)) 42)
  have hX := heap_alloc_lt (o := .cells (evC evZero (.slice none 0 0) (.slice none 0 0)) 42) (heap_alloc_new w (.cells (evC x tx rd) 42))
  have hY := heap_alloc_new (w.alloc (.cells (evC x tx rd) 42)) (.cells (evC evZero (.slice none 0 0) (.slice none 0 0)) 42)
  have hs : (w.alloc (.cells (evC x tx rd) 42)).heap.size = w.heap.size + 1 := by simp
  rw [hs] at hY
  have E10 := evC_10 x tx rd
  have ht1 := ht.t.same (hk0.same hN (by simp))
  obtain ⟨v1, w1, hrun, hrow, hk1⟩ := append_mics_nil _ tx x.t ht1 hl
  have hX1 := hk1.heap hX (by simp)
  have hY1 := hk1.heap hY (by simp)
  have HK1 := Lib.hid (hk0.trans hk1 (FSub.refl _ _))
  have HRUN := Lib.hid hrun; have HONE := Lib.hid (row_one hrow)
  have hin := micsIn_row hrow
  have hbase : ∀ q ∈ own v1, w.heap.size ≤ q ∧ q ≠ w.heap.size ∧ q ≠ w.heap.size + 1 ∧ q < w1.heap.size := fun q hq => by
    obtain ⟨h1, h2⟩ := row_base hrow q hq
    simp at h1
    exact ⟨by omega, by omega, by omega, h2⟩
  have HIN := Lib.hid hin; have HBASE := Lib.hid hbase
  have hz1 : w.heap.size + 1 < w1.heap.size := lt_of_block hY1
  clear hk0 ht1 hs hX hY hrun hrow hin hbase hk1
  go_enter Tryz.func36, Tryz.ntmps36
  go_wp2_with (first
    | (refine wpList_append_run rfl _ _ 37 rfl _ _ v1 w1 rfl rfl HRUN.out ?_)
    | (refine wpList_put_cell1 rfl 10 { x with t := x.t } v1 rd rfl rfl rfl hX1 (by kernel_rfl) HONE.out rfl rfl ?_))
  intro W2 hX2 hk2
  have hY2 := hk2.heap hY1 (by simp)
  have HK2 := Lib.hid (HK1.out.trans hk2 (fun q hq => .inr (by simp at hq; omega)))
  have HIN2 := Lib.hid (HIN.out.keeps hk2 (fun q hq hf => (HBASE.out q hq).2.1 (by simpa using hf)))
  have hz2 : w1.heap.size ≤ W2.heap.size := hk2.size
  clear hX1 hY1 hk2
  go_wp2_with (refine wpList_put_cell1 rfl 11 { x with r := [] } v1 (.slice none 0 0) rfl rfl rfl hX2 (by kernel_rfl) rfl rfl rfl ?_)
  intro W3 hX3 hk3
  have hY3 := hk3.heap hY2 (by simp)
  have HK3 := Lib.hid (HK2.out.trans hk3 (fun q hq => .inr (by simp at hq; omega)))
  have HIN3 := Lib.hid (HIN2.out.keeps hk3 (fun q hq hf => (HBASE.out q hq).2.1 (by simpa using hf)))
  have hz3 : w1.heap.size ≤ W3.heap.size := Nat.le_trans hz2 hk3.size
  clear hX2 hY2 hk3
  have hone := HONE.out
  go_wp2_with (first | ((with_reducible apply wpList_load_ev); exact rfl; (first | assumption | (refine heap_alloc_lt ?_; assumption) | (refine heap_alloc_lt (heap_alloc_lt ?_); assumption) | exact heap_alloc_at (by simp)); exact rfl) | ((with_reducible apply wpList_put_ev); exact rfl; exact rfl; (first | assumption | (refine heap_alloc_lt ?_; assumption) | (refine heap_alloc_lt (heap_alloc_lt ?_); assumption) | exact heap_alloc_at (by simp)); exact ⟨rfl, rfl⟩; (refine evC_one _ ?_ ?_ <;> first | rfl | assumption)))
  intro W4 hY4 hk4
  have HK4 := Lib.hid (HK3.out.trans hk4 (fun q hq => .inr (by simp at hq; omega)))
  have HIN4 := Lib.hid (HIN3.out.keeps hk4 (fun q hq hf => (HBASE.out q hq).2.2.1 (by simpa using hf)))
  have hz4 : w1.heap.size ≤ W4.heap.size := Nat.le_trans hz3 hk4.size
  clear hk4 hX3 hY3
  go_wp2_with fail
  exact bodyPost_ret (results_ev (x := { x with r := [] }) rfl _ _ _ rfl hY4) rfl ⟨v1, rfl, HIN4.out, HK4.out, fun q hq => ⟨(HBASE.out q hq).1, Nat.lt_of_lt_of_le (HBASE.out q hq).2.2.2 hz4⟩⟩
end Go.Proofs.YtlaccndjlfpjbaaGreatDoor
/-
  The program's history: why an event may not open something.
-/
namespace Go.Proofs.YtlaccndjlfpjbaaGreatDoor
open Go.RowKit Go.Maps
/-- Why an event may not open something, of what the program keeps. -/
def pOpenE (k0 : Int) (m la : Int) (ap : List Mic) (x : Ev) : Int :=
  if k0 ≠ 0 then 9 else if x.id ≤ la then 8 else if x.k = 2 then opChk m x.o else if hBehind x.t then 10 else if hTwice ap x.t then 8 else 0
theorem HPast.kind {w : World} {p mb n : Nat} {g : Cfg} {on : Bool} {op : EvL} {la : Int} {ap : List Mic} {O : List Nat} (h : HPast w p mb n g on op la ap O) (c : Nat) (hc : c < op.length) : w.cell? ⟨p, 8 + c * 19, none⟩ = some (.int .u8 (op[c]).1.k) := past_kind h.heap c hc
set_option maxHeartbeats 8000000
set_option maxRecDepth 100000
theorem mayOpen_any (w : World) (hG : Glob4 w) {p mb n : Nat} {g : Cfg} {on : Bool} {op : EvL} {la : Int} {ap : List Mic} {O : List Nat} (hP : HPast w p mb n g on op la ap O) (g0 : 0 ≤ g.m) (g1 : g.m < 256) (l0 : -1 ≤ la) (l1 : la < 65536)
    (x : Ev) (hx : x.In) (hk8 : ∀ m ∈ x.t, m.key < 8) {N : Nat} (tx rd : Value) (ht : EvAt N w tx rd x) (hN : N ≤ w.heap.size) (c : Nat) (hc : c < op.length) (hxc : x.c = (c : Int)) :
    Calls Tryz.prog 40 #[.pointer (some ⟨p, 0, none⟩), .agg (evC x tx rd)] w fun e w' => e = .returned (.int .i64 (pOpenE (op[c]).1.k g.m la ap x)) ∧ Keeps [] w w' := by
  have hk0 := (Keeps.refl [] w).alloc (.cells (evC x tx rd) 42)
  have hX := heap_alloc_new w (.cells (evC x tx rd) 42)
  have hP0 := hP.new hk0
  have hc16 : c < 16 := by rw [← hP.len]; exact hc
  have hkd := hP0.kind c hc
  have e1 := ev_cell hX 1 (evC_1 x tx rd)
  have e2 := ev_cell hX 2 (evC_2 x tx rd)
  have e0 := ev_cell hX 0 (evC_0 x tx rd)
  have e10 := ev_cell hX 10 (evC_10 x tx rd)
  have e3 := ev_cell hX 3 (evC_3 x tx rd); have e4 := ev_cell hX 4 (evC_4 x tx rd); have e5 := ev_cell hX 5 (evC_5 x tx rd); have e6 := ev_cell hX 6 (evC_6 x tx rd); have e7 := ev_cell hX 7 (evC_7 x tx rd)
  rw [hxc] at e1
  have a0 := past_c0 hP0.heap
  have a312 := past_la hP0.len hP0.heap
  have hbusy := fun k h => busy_cell (w.alloc (.cells (evC x tx rd) 42)) p c k hc16 h
  have HB := Lib.hid (hbusy _ hkd); clear hbusy hkd
  have HG0 := Lib.hid (hG.new hk0); have HK0 := Lib.hid hk0; have HP0 := Lib.hid hP0; have HT := Lib.hid (ht.t.same (hk0.same hN (by simp)))
  have hN0 : N ≤ (w.alloc (.cells (evC x tx rd) 42)).heap.size := Nat.le_trans hN hk0.size
  have HX := Lib.hid hX
  generalize hR : pOpenE (op[c]).1.k g.m la ap x = R at *
  have HR := Lib.hid hR
  have i0 := hx.i0; have i1 := hx.i1
  have hw : IntKind.i64.wrap x.id = x.id := by simp [IntKind.wrap, IntKind.bits, IntKind.signed]; omega
  have HOI := Lib.hid hx.o; have HMI := Lib.hid hx.t; have HK8 := Lib.hid hk8
  generalize hk1 : (op[c]).1.k = k0 at *
  clear hR hX hP hP0 hG hk0 ht hx hk8 hk1
  go_enter Tryz.func40, Tryz.ntmps40
  go_wp2_with fail
  generalize w.alloc (.cells (evC x tx rd) 42) = W at *
  generalize w.heap.size = B at *
  refine (HB.out).mono ?_; rintro e W ⟨rfl, rfl⟩
  clear HB
  by_cases hz : k0 = 0
  · have hd : decide (k0 ≠ 0) = false := by simp [hz]
    rw [hd]
    clear hd
    by_cases hid : x.id ≤ la
    · obtain rfl : R = 8 := HR.out.symm.trans (by unfold pOpenE; rw [if_neg (by simpa using hz), if_pos hid])
      clear HR hz
      go_wp2_with fail
      go_quiet (fail)
      go_wp2_with fail
      go_ret
      exact ⟨rfl, HK0.out.drewN nq⟩
    · by_cases hk : x.k = 2
      · obtain rfl : R = opChk g.m x.o := HR.out.symm.trans (by unfold pOpenE; rw [if_neg (by simpa using hz), if_neg hid, if_pos hk])
        rw [hk] at e0
        clear HR hz hk
        go_wp2_with fail
        go_quiet (fail)
        go_wp2_with fail
        have hkn : Keeps [] W (W.drewN nq) := (Keeps.refl _ _).drewN nq
        have HKN := Lib.hid hkn
        generalize hW2 : W.drewN nq = W2 at *
        have HW2 := Lib.hid hW2
        have q0 := hkn.cell a0 (by simp)
        have q3 := hkn.cell e3 (by simp); have q4 := hkn.cell e4 (by simp); have q5 := hkn.cell e5 (by simp); have q6 := hkn.cell e6 (by simp); have q7 := hkn.cell e7 (by simp)
        clear hkn hW2 e0 e1 e2 e3 e4 e5 e6 e7 e10 a0 a312
        go_still_tail 7, rfl
        change wpList _ _ _ _ _ W2.drew
        go_wp2_with fail
        refine (Check4_any W2.drew (HG0.out.new HKN.out.drew) g.m x.o.f x.o.o x.o.k x.o.a x.o.b g0 g1 HOI.out).mono ?_; rintro e w3 ⟨rfl, hk3⟩
        go_wp2_with fail
        go_ret
        exact ⟨rfl, HK0.out.trans (HKN.out.drew.trans hk3 (FSub.refl _ _)) (FSub.refl _ _)⟩
      · have hk2 : (x.k == 2) = false := by simpa using hk
        have HR2 := Lib.hid (show (if hBehind x.t then (10 : Int) else if hTwice ap x.t then 8 else 0) = R by rw [← HR.out]; simp [pOpenE, hz, hid, hk])
        go_wp2_with fail
        go_quiet (fail)
        go_wp2_with fail
        have hkn : Keeps [] W (W.drewN nq) := (Keeps.refl _ _).drewN nq
        have HKN := Lib.hid hkn
        generalize hW2 : W.drewN nq = W2 at *
        have HW2 := Lib.hid hW2
        have q10 := hkn.cell e10 (by simp)
        have HX2 := Lib.hid (hkn.heap HX.out (by simp))
        have ht2 := HT.out.new HKN.out hN0
        have hin8 : ∀ m ∈ x.t, 0 ≤ m.key ∧ m.key < 8 := fun m hm => ⟨(HMI.out m hm).k0, HK8.out m hm⟩
        have HRO := Lib.hid (readsOwn_any W2 x.t tx ht2 hin8 (Nat.le_trans hN0 hkn.size))
        clear hkn hW2 e0 e1 e2 e3 e4 e5 e6 e7 e10 a0 a312 hin8 hz hid hk hk2 HR ht2
        refine (HRO.out).mono ?_; rintro e w3 ⟨rfl, hk3⟩
        clear HRO
        have HK3 := Lib.hid (HKN.out.trans hk3 (FSub.refl _ _))
        have r10 := hk3.cell q10 (by simp)
        clear hk3 q10
        cases hb : hBehind x.t with
        | true =>
          obtain rfl : R = 10 := HR2.out.symm.trans (by rw [hb]; rfl)
          clear hb
          go_wp2_with fail
          go_ret
          exact ⟨rfl, HK0.out.trans HK3.out (FSub.refl _ _)⟩
        | false =>
          have HR3 := Lib.hid (show (if hTwice ap x.t then (8 : Int) else 0) = R by rw [← HR2.out, hb]; rfl)
          clear hb HR2
          have HRP := Lib.hid (repeats_any w3 (HP0.out.new HK3.out) x.t HMI.out tx (HT.out.new HK3.out hN0) (Nat.le_trans hN0 HK3.out.size))
          go_wp2_with fail
          refine (HRP.out).mono ?_; rintro e w4 ⟨rfl, hk4⟩
          clear HRP
          have HK4 := Lib.hid (HK3.out.trans hk4 (FSub.refl _ _))
          cases ht : hTwice ap x.t with
          | true =>
            obtain rfl : R = 8 := HR3.out.symm.trans (by rw [ht]; rfl)
            clear ht
            go_wp2_with fail
            go_ret
            exact ⟨rfl, HK0.out.trans HK4.out (FSub.refl _ _)⟩
          | false =>
            obtain rfl : R = 0 := HR3.out.symm.trans (by rw [ht]; rfl)
            clear ht
            go_wp2_with fail
            go_ret
            exact ⟨rfl, HK0.out.trans HK4.out (FSub.refl _ _)⟩
  · have hd : decide (k0 ≠ 0) = true := by simp [hz]
    rw [hd]
    obtain rfl : R = 9 := HR.out.symm.trans (by unfold pOpenE; rw [if_pos hz])
    clear hd HR hz
    go_wp2_with fail
    go_ret
    exact ⟨rfl, HK0.out⟩
end Go.Proofs.YtlaccndjlfpjbaaGreatDoor
/-
  The program's history: an event is taken.
-/
namespace Go.Proofs.YtlaccndjlfpjbaaGreatDoor
open Go.RowKit Go.Maps
section
variable {ops : Array Oper} {rest : List Oper} {o : Oper} {a : Act} {w : World} {Q : Exit → Act → World → Prop} {K : Act → World → Prop} {p mb : Nat} {g : Cfg} {on : Bool} {op : EvL} {la : Int} {t : TypeId} {x y : Operand}
/-- What a client has open is stored. -/
theorem wp_put_open (e : Ev) (tx rd : Value) (c : Nat) (ho : o.op = .store 42 x y) (hx : a.eval x = .pointer (some ⟨p, 8 + c * 19, none⟩)) (hy : a.eval y = .agg (evC e tx rd)) (hg : w.heap[p]? = some (.cells (pastL g on op la mb).toArray t (0, 0))) (hc : c < op.length)
    (h1 : tx.oneCell' = true) (h2 : rd.oneCell' = true) (h : ∀ W, W.heap[p]? = some (.cells (pastL g on (op.set c (e, tx, rd)) la mb).toArray t (0, 0)) → Keeps [p] w W → K (a.put o.dst undef) W) : o.wp Tryz.prog a w K Q := by
  refine wp_store_mid 42 x y ho p (8 + c * 19) (evC e tx rd) hx hy (fun j hj => ⟨?_, past_thaw hg _⟩) (by kernel_rfl) (by rw [← Array.all_toList]; exact evC_one e h1 h2) (h _ (past_put_ev hg c hc (e, tx, rd)) (Keeps.setCells p _ _ (Keeps.refl [p] w) (by simp)))
  have hj2 : j < (evC (op[c]).1 (op[c]).2.1 (op[c]).2.2).toList.length := hj
  rw [past_ev hg c hc j _ (List.getElem?_eq_getElem hj2)]; rfl
theorem wpList_put_open (hgd : o.guard = none) (e : Ev) (tx rd : Value) (c : Nat) (ho : o.op = .store 42 x y) (hx : a.eval x = .pointer (some ⟨p, 8 + c * 19, none⟩)) (hy : a.eval y = .agg (evC e tx rd)) (hg : w.heap[p]? = some (.cells (pastL g on op la mb).toArray t (0, 0))) (hc : c < op.length)
    (h1 : tx.oneCell' = true) (h2 : rd.oneCell' = true) (h : ∀ W, W.heap[p]? = some (.cells (pastL g on (op.set c (e, tx, rd)) la mb).toArray t (0, 0)) → Keeps [p] w W → wpList Tryz.prog ops Q rest (a.put o.dst undef) W) : wpList Tryz.prog ops Q (o :: rest) a w :=
  wpList_plain hgd fun K hK => wp_put_open e tx rd c ho hx hy hg hc h1 h2 (fun W h3 h4 => hK _ _ (h W h3 h4))
theorem wp_put_la (v : Int) (hl : op.length = 16) (ho : o.op = .store 3 x y) (hx : a.eval x = .pointer (some ⟨p, 312, none⟩)) (hy : a.eval y = .int .i64 v) (hg : w.heap[p]? = some (.cells (pastL g on op la mb).toArray t (0, 0)))
    (h : ∀ W, W.heap[p]? = some (.cells (pastL g on op v mb).toArray t (0, 0)) → Keeps [p] w W → K (a.put o.dst undef) W) : o.wp Tryz.prog a w K Q := by
  have hrun := run_put1 (P := Tryz.prog) w p 312 3 (.int .i64 v) (by kernel_rfl) rfl (by rw [past_la hl hg]; rfl) (past_thaw hg 312)
  unfold Oper.wp execOp
  simp only [ho, hx, hy, Instr.storeAt, Instr.sureAddr, Sem.run_bind, Sem.run_pure, Result.andThen_ok, hrun]
  exact h _ (past_put_la hl hg v) ((Keeps.refl [p] w).setCell _ _ (.inl (by simp)))
theorem wpList_put_cfg (g' : Cfg) (hgd : o.guard = none) (ho : o.op = .store 40 x y) (hx : a.eval x = .pointer (some ⟨p, 0, none⟩)) (hy : a.eval y = .agg (cfgC g').toArray) (hg : w.heap[p]? = some (.cells (pastL g on op la mb).toArray t (0, 0)))
    (h : ∀ W, W.heap[p]? = some (.cells (pastL g' on op la mb).toArray t (0, 0)) → Keeps [p] w W → wpList Tryz.prog ops Q rest (a.put o.dst undef) W) : wpList Tryz.prog ops Q (o :: rest) a w := by
  refine wpList_store_mid hgd 40 x y ho p 0 (cfgC g').toArray hx hy (fun j hj => ⟨?_, past_thaw hg _⟩) (by kernel_rfl) (by simp [cfgC, Value.oneCell']) (h _ (past_put_cfg hg g') (Keeps.setCells p _ _ (Keeps.refl [p] w) (by simp)))
  have hj2 : j < (cfgC g).length := hj
  rw [past_cfg hg j _ (List.getElem?_eq_getElem hj2)]; rfl
theorem wpList_put_on (b : Bool) (hgd : o.guard = none) (ho : o.op = .store 4 x y) (hx : a.eval x = .pointer (some ⟨p, 7, none⟩)) (hy : a.eval y = .bool b) (hg : w.heap[p]? = some (.cells (pastL g on op la mb).toArray t (0, 0)))
    (h : ∀ W, W.heap[p]? = some (.cells (pastL g b op la mb).toArray t (0, 0)) → Keeps [p] w W → wpList Tryz.prog ops Q rest (a.put o.dst undef) W) : wpList Tryz.prog ops Q (o :: rest) a w := by
  refine wpList_plain hgd fun K hK => ?_
  have hrun := run_put1 (P := Tryz.prog) w p 7 4 (.bool b) (by kernel_rfl) rfl (by rw [past_c7 hg]; rfl) (past_thaw hg 7)
  unfold Oper.wp execOp
  simp only [ho, hx, hy, Instr.storeAt, Instr.sureAddr, Sem.run_bind, Sem.run_pure, Result.andThen_ok, hrun]
  exact hK _ _ (h _ (past_put_on hg b) ((Keeps.refl [p] w).setCell _ _ (.inl (by simp))))
end
set_option maxHeartbeats 8000000
set_option maxRecDepth 100000
/-- A config. -/
theorem accept_cfg (w : World) {p mb n : Nat} {g : Cfg} {on : Bool} {op : EvL} {la : Int} {ap : List Mic} {O : List Nat} (hP : HPast w p mb n g on op la ap O) (x : Ev) (tx rd : Value) (hk : x.k = 1) :
    Calls Tryz.prog 29 #[.pointer (some ⟨p, 0, none⟩), .agg (evC x tx rd)] w fun e w' => e = .returned (.tuple #[]) ∧ HPast w' p mb n x.g true op la ap O ∧ Keeps [p] w w' := by
  have hk0 := (Keeps.refl [] w).alloc (.cells (evC x tx rd) 42)
  have hX := heap_alloc_new w (.cells (evC x tx rd) 42)
  have hP0 := hP.new hk0
  have e0 := ev_cell hX 0 (evC_0 x tx rd)
  rw [hk] at e0
  have e12 := ev_cell hX 12 (evC_12 x tx rd); have e13 := ev_cell hX 13 (evC_13 x tx rd); have e14 := ev_cell hX 14 (evC_14 x tx rd); have e15 := ev_cell hX 15 (evC_15 x tx rd); have e16 := ev_cell hX 16 (evC_16 x tx rd); have e17 := ev_cell hX 17 (evC_17 x tx rd); have e18 := ev_cell hX 18 (evC_18 x tx rd)
  have HP := Lib.hid hP0; have HK0 := Lib.hid hk0; have hp0 := hP0.heap
  clear hP hP0 hk0 hX hk
  go_enter Tryz.func29, Tryz.ntmps29
  go_wp2_with (refine wpList_put_cfg x.g rfl rfl rfl rfl hp0 ?_)
  intro W2 h2 k2
  go_wp2_with (refine wpList_put_on true rfl rfl rfl rfl h2 ?_)
  intro W3 h3 k3
  have k23 := k2.step k3 (fun q hq => hq)
  have h := HP.out
  have HR := Lib.hid (show HPast W3 p mb n x.g true op la ap O from ⟨h3, h.len, h.map.keeps k23 (by simpa using Ne.symm h.pm), fun c hc => ⟨(h.evs c hc).1, (h.evs c hc).2.1.keeps k23 (fun q hq hf => h.pO (by simp at hf; rw [← hf]; exact hq)), (h.evs c hc).2.2⟩, h.pm, h.pO, h.mO, fun q hq => Nat.lt_of_lt_of_le (h.oz q hq) k23.size⟩)
  have HK3 := Lib.hid ((HK0.out.more (G := [p]) (by simp)).step k23 (fun q hq => hq))
  clear k23 h k2 k3 h2 h3
  go_wp2_with fail
  go_end0
  exact ⟨rfl, HR.out, HK3.out⟩
/-- What is open ends. -/
theorem accept_end (w : World) {p mb n : Nat} {g : Cfg} {on : Bool} {op : EvL} {la : Int} {ap : List Mic} {O : List Nat} (hP : HPast w p mb n g on op la ap O) (x : Ev) (tx rd : Value) (k1 : x.k ≠ 1) (k2 : x.k ≠ 2) (k5 : x.k ≠ 5) (c : Nat) (hc : c < op.length) (hxc : x.c = (c : Int)) :
    Calls Tryz.prog 29 #[.pointer (some ⟨p, 0, none⟩), .agg (evC x tx rd)] w fun e w' => e = .returned (.tuple #[]) ∧ HPast w' p mb n g on (op.set c evZ) la ap O ∧ Keeps [p] w w' := by
  have hk0 := (Keeps.refl [] w).alloc (.cells (evC x tx rd) 42)
  have hX := heap_alloc_new w (.cells (evC x tx rd) 42)
  have hP0 := hP.new hk0
  have e0 := ev_cell hX 0 (evC_0 x tx rd); have e1 := ev_cell hX 1 (evC_1 x tx rd)
  rw [hxc] at e1
  have t1 : (x.k == 1) = false := by simpa using k1
  have t2 : (x.k == 2) = false := by simpa using k2
  have t5 : (x.k == 5) = false := by simpa using k5
  have HP := Lib.hid hP0; have HK0 := Lib.hid hk0; have hp0 := hP0.heap
  have hc16 : (c : Int) < 16 := by have := hP.len; omega
  clear hP hP0 hk0 hX k1 k2 k5
  go_enter Tryz.func29, Tryz.ntmps29
  go_wp2_with fail
  generalize w.alloc (.cells (evC x tx rd) 42) = W at *
  go_still_tail 7, rfl
  change wpList _ _ _ _ _ W.drew
  go_wp2_with (refine wpList_put_open rfl evZero (.slice none 0 0) (.slice none 0 0) c rfl rfl rfl (w := W.drew) hp0 hc rfl rfl ?_)
  intro W3 h3 k3
  have k23 := ((Keeps.refl [p] W).drew).step k3 (fun q hq => hq)
  have h := HP.out
  have HR := Lib.hid (show HPast W3 p mb n g on (op.set c evZ) la ap O from ⟨h3, by rw [List.length_set]; exact h.len, h.map.keeps k23 (by simpa using Ne.symm h.pm), fun d hd => by
    rw [List.length_set] at hd
    rw [List.getElem_set]
    split
    · exact ⟨evZero_in, MicsIn.nil _ _, rfl, rfl⟩
    · exact ⟨(h.evs d hd).1, (h.evs d hd).2.1.keeps k23 (fun q hq hf => h.pO (by simp at hf; rw [← hf]; exact hq)), (h.evs d hd).2.2⟩, h.pm, h.pO, h.mO, fun q hq => Nat.lt_of_lt_of_le (h.oz q hq) k23.size⟩)
  have HK3 := Lib.hid ((HK0.out.more (G := [p]) (by simp)).step k23 (fun q hq => hq))
  clear k23 h k3 h3
  go_wp2_with fail
  go_end0
  exact ⟨rfl, HR.out, HK3.out⟩
end Go.Proofs.YtlaccndjlfpjbaaGreatDoor
