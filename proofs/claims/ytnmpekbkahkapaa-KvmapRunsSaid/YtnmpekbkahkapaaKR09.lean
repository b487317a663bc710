/-
  When two states of a key map are the same.
-/
import Derived.DeepKeys
import Derived.Test.YtnmpekbkahkapaaKR08
import Derived.Test.YtnmpekbkahkapaaKR07
set_option linter.unusedSimpArgs false
set_option linter.unusedVariables false
namespace Go.Proofs.Ytnmpekbkahkapaa
open Go.RowKit
/-- The numbers alone. -/
def kvT (vs : List Int) : Array Value := #[.int .u16 (vs.getD 0 0), .int .u16 (vs.getD 1 0), .int .u16 (vs.getD 2 0), .int .u16 (vs.getD 3 0), .int .u16 (vs.getD 4 0), .int .u16 (vs.getD 5 0), .int .u16 (vs.getD 6 0), .int .u16 (vs.getD 7 0)]
theorem part_h (w : World) (h : Int) (vs : List Int) : (part 5 (kvA h vs) 0).run Try.prog w = .ok (.int .u8 h) w := by kernel_rfl
theorem part_v (w : World) (h : Int) (vs : List Int) : (part 23 (kvA h vs) 1).run Try.prog w = .ok (.agg (kvT vs)) w := by kernel_rfl
theorem part_n (w : World) (vs : List Int) {i : Nat} (hi : i < 8) : (part 22 (kvT vs) (i * Try.prog.cellsOf 22)).run Try.prog w = .ok (.int .u16 (vs.getD i 0)) w := by
  rcases (by omega : i = 0 ∨ i = 1 ∨ i = 2 ∨ i = 3 ∨ i = 4 ∨ i = 5 ∨ i = 6 ∨ i = 7) with rfl | rfl | rfl | rfl | rfl | rfl | rfl | rfl <;> kernel_rfl
theorem eqItems_n (w : World) (d : Nat) (vs us : List Int) : ∀ is : List Nat, (∀ i ∈ is, i < 8) → (Op.eqItems (d + 1) 22 (Try.prog.cellsOf 22) (kvT vs) (kvT us) is).run Try.prog w = .ok (is.all fun i => vs.getD i 0 == us.getD i 0) w
  | [], _ => by simp [Op.eqItems]
  | i :: is, h => by
    simp only [Op.eqItems, Sem.run_bind, part_n w vs (h i (by simp)), part_n w us (h i (by simp)), Result.andThen_ok, run_equalIn_int w d 22 .u16 .u16 _ _ Try.underlying22]
    cases he : (vs.getD i 0 == us.getD i 0)
    · simp only [List.all_cons, he, Bool.not_false, if_true, Sem.run_pure, Bool.false_and]
    · have ih := eqItems_n w d vs us is (fun j hj => h j (by simp [hj]))
      simp only [List.all_cons, he, Bool.not_true, Bool.false_eq_true, if_false, ih, Bool.true_and]
theorem two_of_map {α β : Type} {g : α → β} {l : List α} {a b : β} (h : l.map g = [a, b]) : ∃ x y, l = [x, y] ∧ g x = a ∧ g y = b := by
  match l, h with
  | [x, y], h => simp at h; exact ⟨x, y, rfl, h.1, h.2⟩
theorem Try.fields11 : (Try.prog.fieldsOf 25).toList.map (fun f => (f.name != "_", f.type, f.offset)) = [(true, 5, 0), (true, 23, 1)] := by kernel_rfl
/-- Both sides are looked at number by number. -/
def kvEq (h h2 : Int) (vs us : List Int) : Bool := h == h2 && (List.range 8).all fun i => vs.getD i 0 == us.getD i 0
theorem kv_equalIn (w : World) (h h2 : Int) (vs us : List Int) : (Op.equalIn 10000 25 (.agg (kvA h vs)) (.agg (kvA h2 us))).run Try.prog w = .ok (kvEq h h2 vs us) w := by
  have hu : Try.prog.underlying 25 = some (.struct (Try.prog.fieldsOf 25)) := by kernel_rfl
  obtain ⟨f, g, hfs, hf, hg⟩ := two_of_map Try.fields11
  simp only [Prod.mk.injEq, bne_iff_ne] at hf hg
  obtain ⟨i, hi, -⟩ : ∃ i, Try.prog.info? 22 = some i ∧ True := by
    have h := Try.infoU16R
    cases hq : Try.prog.info? 22 with
    | none => rw [hq] at h; cases h
    | some i => exact ⟨i, rfl, trivial⟩
  rw [run_equalIn_struct w 9999 25 _ _ hu (by kernel_rfl), hfs]
  have harr := run_equalIn_array (P := Try.prog) w 9998 (kvT vs) (kvT us) Try.underlying23 hi
  simp only [Op.eqFields, if_pos hf.1, if_pos hg.1, hf.2.1, hf.2.2, hg.2.1, hg.2.2, Sem.run_bind, part_h, part_v, Result.andThen_ok, run_equalIn_int w 9998 5 .u8 .u8 _ _ Try.underlying5]
  unfold kvEq
  cases he : (h == h2)
  · simp
  · simp only [Bool.not_true, Bool.false_eq_true, if_false, Sem.run_bind, part_v, Result.andThen_ok, harr, eqItems_n w 9997 vs us (List.range 8) (fun i hi => List.mem_range.1 hi), Bool.true_and]
    cases (List.range 8).all fun i => vs.getD i 0 == us.getD i 0 <;> simp
theorem kvEq_same (h : Int) (vs : List Int) : kvEq h h vs vs = true := by simp [kvEq]
theorem kv_eql (w : World) (h h2 : Int) (vs us : List Int) : (binOp .eql 25 (.agg (kvA h vs)) (.agg (kvA h2 us))).run Try.prog w = .ok (.bool (kvEq h h2 vs us)) w := by
  rw [run_eql_struct, kv_equalIn]
  rfl
end Go.Proofs.Ytnmpekbkahkapaa
/-
  The law's items and alike, over any state.
-/
namespace Go.Proofs.Ytnmpekbkahkapaa
open Go.RowKit
theorem kv_bit (m : Kv) (k : Nat) : ((kvH m : Int) / 2 ^ k).tmod 2 = if (m.getD k none).isSome then 1 else 0 := by
  rw [bit_eq, kvH_bit]
  split <;> rfl
set_option maxHeartbeats 8000000
set_option maxRecDepth 100000
theorem items11_any (w : World) {m : Kv} (hm : KvIn m) : Calls Try.prog 14 #[kvVal m] w fun e w' => ∃ v, e = .returned v ∧ rkI.Own w.heap.size w' v (itOf 0 m) ∧ Keeps [] w w' := by
  have hk0 : Keeps [] w (w.alloc (.cells (kvA (kvH m) (kvV m)) 25)) := (Keeps.refl _ _).alloc _
  have h0 := heap_alloc_new w (.cells (kvA (kvH m) (kvV m)) 25)
  obtain ⟨R, hR⟩ : ∃ R, R = w.heap.size := ⟨_, rfl⟩
  rw [← hR] at h0 ⊢
  have HRE := Lib.hid hR; have HK0 := Lib.hid hk0; have H0 := Lib.hid h0; have HM := Lib.hid hm
  clear hR hk0 h0 hm
  unfold kvVal
  go_enter Try.func14, Try.ntmps14
  go_wp2_with fail
  rw [← HRE.out]
  go_loopw [3, 4] (fun z i wr => ∃ k : Nat, i = .int .i64 k ∧ k ≤ 8 ∧ wr.heap[R]? = some (.cells (kvA (kvH m) (kvV m)) 25 (0, 0)) ∧ rkI.Own (R + 1) wr z (itOf 0 (m.take k)) ∧ Keeps [] w wr ∧ R + 1 ≤ wr.heap.size) (fun _ i _ => 8 - (intOf i).toNat)
  case atStart => exact ⟨0, rfl, by omega, H0.out, RK.Own.nil rkI _ _, HK0.out, by have h : (w.alloc (.cells (kvA (kvH m) (kvV m)) 25)).heap.size = w.heap.size + 1 := Array.size_push _; have := HRE.out; omega⟩
  case round =>
    obtain ⟨k, rfl, hk, hb0, hz, hkw, hsz⟩ := hrel
    by_cases hlt : k < 8
    · have c0 := kv_byte hb0
      have hkm : k < m.length := by rw [HM.out.len]; exact hlt
      have HN := Lib.hid (itOf_next hkm)
      have hb := kv_bit m k
      cases ho : m.getD k none with
      | none =>
        have hn := HN.out
        rw [ho] at hn hb
        have e0 : (((kvH m : Int) / 2 ^ k).tmod 2 == 1) = false := by rw [hb]; rfl
        have HZ := Lib.hid (show rkI.Own (R + 1) wr _ (itOf 0 (m.take (k + 1))) from by rw [hn]; simpa using hz)
        have HB := Lib.hid hb0; have HK := Lib.hid hkw; have HS := Lib.hid hsz
        obtain ⟨az, cz, rfl, hcz, hmz⟩ := hz.shape
        clear hn hb ho HN hb0 hz hkw hsz
        go_wp2_with fail
        go_roundw
        case rel => exact ⟨k + 1, by go_num, by omega, HB.out, HZ.out, HK.out, HS.out⟩
        case measure => simp [intOf]; omega
      | some x =>
        have hn := HN.out
        rw [ho] at hn hb
        have e0 : (((kvH m : Int) / 2 ^ k).tmod 2 == 1) = true := by rw [hb]; rfl
        have cv := kv_cell hb0 hlt
        rw [kvV_getD hkm, ho] at cv
        simp only [Option.getD_some] at cv
        have e8 : (k : Int) % 256 = k := by omega
        have hlen : (itOf 0 (m.take k)).length ≤ 8 := Nat.le_trans (itOf_len 0 _) (by rw [List.length_take]; omega)
        obtain ⟨v', w3, hrun, hrow3, hk3, hf3⟩ := rkI.append1 wr (R + 1) hsz _ _ hz ⟨k, x⟩ (by omega)
        have hzl : ∀ q ∈ own _, R + 1 ≤ q := fun q hq => (row_base hz q hq).1
        have HB := Lib.hid (hk3.heap hb0 (fun hq => by have := hzl _ hq; omega))
        have HK := Lib.hid (hkw.trans hk3 (fun q hq => .inr (by have := hzl q hq; have := HRE.out; omega)))
        have HZ := Lib.hid (show rkI.Own (R + 1) w3 v' (itOf 0 (m.take (k + 1))) from by rw [hn]; exact hrow3)
        have HS := Lib.hid (Nat.le_trans hsz hk3.size)
        obtain ⟨az, cz, rfl, hcz, hmz⟩ := hz.shape
        obtain ⟨a9, c9, rfl, -, -⟩ := hrow3.shape
        have HRUN := Lib.hid (show (Builtin.append_ #[35, 35] 35 #[.slice az (itOf 0 (m.take k)).length cz, .slice (some ⟨wr.heap.size, 0, none⟩) 1 1]).run Try.prog (wr.alloc (.cells #[.int .u8 (k : Int), .int .u16 x] 54)) = _ from hrun)
        clear hn hb ho HN hb0 hz hkw hsz hrun hrow3 hk3 hf3 hzl
        go_wp2_with ((with_reducible refine wpList_app _ _ ?_ ?_ HRUN.out ?_); exact rfl; exact rfl)
        go_roundw
        case rel => exact ⟨k + 1, by go_num, by omega, HB.out, by have h := HZ.out; rw [List.length_append] at h; exact h, HK.out, HS.out⟩
        case measure => simp [intOf]; omega
    · obtain rfl : k = 8 := by omega
      have hall : m.take 8 = m := List.take_of_length_le (by rw [HM.out.len]; exact Nat.le_refl _)
      rw [hall] at hz
      have HZ := Lib.hid (row_up hz (fun q hq => by have := (row_base hz q hq).1; omega : ∀ q ∈ own _, R ≤ q))
      have HK := Lib.hid hkw
      obtain ⟨az, cz, rfl, hcz, hmz⟩ := hz.shape
      clear hall hz hkw hb0 hsz
      go_wp2_with fail
      go_ret
      exact ⟨_, rfl, HZ.out, HK.out⟩
section
variable {o : Oper} {a : Act} {w : World} {K : Act → World → Prop} {Q : Exit → Act → World → Prop}
theorem wp_loadB {x : Operand} (ho : o.op = .load 5 x) {g i : Nat} {z : Value} (hx : a.eval x = .pointer (some ⟨g, i, none⟩)) (hc : w.cell? ⟨g, i, none⟩ = some z) (h : K (a.put o.dst z) w) : o.wp Try.prog a w K Q := by
  have hrun : (loadVar 5 ⟨g, i, none⟩).run Try.prog w = .ok z w := by simp [loadVar, run_underlying Try.underlying5, hc]
  unfold Oper.wp execOp
  simp only [ho, hx, Instr.loadAt, Instr.sureAddr, Sem.run_bind, Sem.run_pure, Result.andThen_ok, hrun]
  exact h
theorem wp_put1 {T : TypeId} {x y : Operand} (ho : o.op = .store T x y) {g i : Nat} {z : Value} (hx : a.eval x = .pointer (some ⟨g, i, none⟩)) (hy : a.eval y = z) (hi : (Try.prog.info? T).map (·.size) = some 1) (h1 : z.oneCell' = true)
    (hc : (w.cell? ⟨g, i, none⟩).isSome = true) (hf : w.frozen? ⟨g, i, none⟩ = false) (h : K (a.put o.dst undef) (w.setCell ⟨g, i, none⟩ z)) : o.wp Try.prog a w K Q := by
  have hrun := run_put1 (P := Try.prog) w g i T z hi h1 hc hf
  unfold Oper.wp execOp
  simp only [ho, hx, hy, Instr.storeAt, Instr.sureAddr, Sem.run_bind, Sem.run_pure, Result.andThen_ok, hrun]
  exact h
end
theorem or_all : ∀ h : Fin 256, ∀ k : Fin 8, bits .or .u8 (h.val : Int) (2 ^ k.val) = if h.val / 2 ^ k.val % 2 = 1 then (h.val : Int) else h.val + 2 ^ k.val := by decide +kernel
theorem or_set {f : Kv} (hl : f.length = 8) {k : Nat} (hk : k < 8) (v : Int) : bits .or .u8 (kvH f : Int) (2 ^ k) = kvH (f.set k (some v)) := by
  have hlt := kvH_lt f
  rw [hl] at hlt
  have h1 := or_all ⟨kvH f, hlt⟩ ⟨k, hk⟩
  simp only at h1
  rw [h1]
  have h2 := kvH_set f k (by omega) (some v)
  rw [kvH_bit]
  have e : ((2 ^ k : Nat) : Int) = 2 ^ k := by rw [Int.natCast_pow]; rfl
  simp only [Option.isSome_some, if_true] at h2
  cases ho : (f.getD k none).isSome
  · rw [ho] at h2
    simp at h2 ⊢
    rw [← e]
    omega
  · rw [ho] at h2
    simp at h2 ⊢
    omega
theorem shl_one (c : Int) (h : 0 ≤ c ∧ c < 8) (w : World) : (Op.shift BinOp.shl IntKind.u8 1 IntKind.u8 c).run Try.prog w = .ok (.int .u8 (2 ^ c.toNat)) w := by
  rcases (by omega : c = 0 ∨ c = 1 ∨ c = 2 ∨ c = 3 ∨ c = 4 ∨ c = 5 ∨ c = 6 ∨ c = 7) with rfl | rfl | rfl | rfl | rfl | rfl | rfl | rfl <;> kernel_rfl
theorem fold_next {t : List It} {k : Nat} (hk : k < t.length) : kvFold (t.take (k + 1)) = (kvFold (t.take k)).set t[k].k.toNat (some t[k].v) := by
  rw [List.take_add_one, List.getElem?_eq_getElem hk, Option.toList_some, fold_snoc]
theorem alike11_any (w : World) {m : Kv} {t : List It} {v : Value} (h : Rel m t) (ht : rkI.In w.heap.size w v t) (hn : t.length ≤ 1000) : Calls Try.prog 15 #[kvVal m, v] w fun e w' => e = .returned (.bool true) ∧ Keeps [] w w' := by
  obtain ⟨a, cp, rfl, hc, hm, -⟩ := id ht
  have hk0 : Keeps [] w ((w.alloc (.cells (kvA (kvH m) (kvV m)) 25)).alloc (.cells (kvA 0 []) 25)) := ((Keeps.refl _ _).alloc _).alloc _
  have h0 : ((w.alloc (.cells (kvA (kvH m) (kvV m)) 25)).alloc (.cells (kvA 0 []) 25)).heap[w.heap.size]? = some (.cells (kvA (kvH m) (kvV m)) 25 (0, 0)) := ((Keeps.refl [] _).alloc _).heap (heap_alloc_new w _) (by simp)
  have h1 := heap_alloc_new (w.alloc (.cells (kvA (kvH m) (kvV m)) 25)) (.cells (kvA 0 []) 25)
  have hz1 : (w.alloc (.cells (kvA (kvH m) (kvV m)) 25)).heap.size = w.heap.size + 1 := Array.size_push _
  rw [hz1] at h1
  obtain ⟨R, hR⟩ : ∃ R, R = w.heap.size := ⟨_, rfl⟩
  rw [← hR] at h0 h1
  have HRE := Lib.hid hR; have HK0 := Lib.hid hk0; have H0 := Lib.hid h0; have H1 := Lib.hid h1; have HR := Lib.hid h; have HT := Lib.hid ht
  generalize hn2 : t.length = n at *
  have HN2 := Lib.hid hn2
  clear h ht hk0 h0 h1 hz1 hR hn2
  unfold kvVal
  go_enter Try.func15, Try.ntmps15
  go_wp2_with fail
  rw [← HRE.out]
  go_loopw [6] (fun i wr => ∃ k : Nat, i = .int .i64 k ∧ k ≤ n ∧ wr.heap[R]? = some (.cells (kvA (kvH m) (kvV m)) 25 (0, 0)) ∧ wr.heap[R + 1]? = some (.cells (kvA (kvH (kvFold (t.take k))) (kvV (kvFold (t.take k)))) 25 (0, 0)) ∧ Keeps [] w wr) (fun i _ => n - (intOf i).toNat)
  case atStart => exact ⟨0, rfl, by omega, H0.out, H1.out, HK0.out⟩
  case round =>
    obtain ⟨k, rfl, hk, hb0, hb1, hkw⟩ := hrel
    by_cases hlt : k < n
    · have hkl : k < t.length := by have := HN2.out; omega
      obtain ⟨bk, o, rfl, hbk, hr⟩ := It.at (HT.out.new hkw (Nat.le_refl _)) hkl
      have HX := Lib.hid (HR.out.keys t[k] (List.getElem_mem hkl))
      have HF := Lib.hid (fold_next hkl)
      obtain ⟨m0, m1⟩ := it_cells hr
      generalize t[k] = x at *
      obtain ⟨f, hf⟩ : ∃ f, f = kvFold (t.take k) := ⟨_, rfl⟩
      rw [← hf] at hb1 HF
      have hsh := shl_one x.k HX.out
      have hor := or_set (f := f) (by rw [hf]; exact fold_len _) (k := x.k.toNat) (by have := HX.out; omega) x.v
      have HFL := Lib.hid (show f.length = 8 from by rw [hf]; exact fold_len _)
      clear hr hf
      obtain ⟨S, hS⟩ : ∃ S : World → Prop, S = fun y => Keeps [R + 1] wr y := ⟨_, rfl⟩
      have HSE := Lib.hid hS
      have hSD : S wr.drew := by rw [hS]; exact (Keeps.refl _ _).drew
      have HSK := Lib.hid (fun (w' : World) (hh : S w') => show w'.cell? ⟨bk, o + k * 2, none⟩ = some (.int .u8 x.k) from by rw [hS] at hh; exact hh.cell m0 (by simp; have := HRE.out; omega))
      have HB0 := Lib.hid hb0; have HB1 := Lib.hid hb1; have HKW := Lib.hid hkw
      clear hS hb0 hb1 hkw
      go_wp2_with fail
      refine wp_region_noPanic ?_
      refine wp_region_held_drew (S := S) (by kernel_rfl) hSD (fun hHeld => ?_)
      apply wpAnyH_take (i := 0)
      · simp only [List.getElem?_toArray]; rfl
      · kernel_rfl
      · kernel_rfl
      · kernel_rfl
      · exact fun _ _ _ h => h
      · exact Or.inl ⟨by rfl, by intro w hSw; go_simp; try with_reducible rfl⟩
      · assumption
      try simp only [Act.put, List.setIfInBounds_toArray, List.set_cons_zero, List.set_cons_succ]
      apply wpAnyH_take (i := 2)
      · simp only [List.getElem?_toArray]; rfl
      · kernel_rfl
      · kernel_rfl
      · kernel_rfl
      · exact fun _ _ _ h => h
      · exact Or.inl ⟨by rfl, by intro w hSw; go_simp; try with_reducible rfl⟩
      · assumption
      try simp only [Act.put, List.setIfInBounds_toArray, List.set_cons_zero, List.set_cons_succ]
      apply wpAnyH_take (i := 3)
      · simp only [List.getElem?_toArray]; rfl
      · kernel_rfl
      · kernel_rfl
      · kernel_rfl
      · exact fun _ _ _ h => h
      · exact Or.inl ⟨by rfl, by intro w hSw; go_simp; try with_reducible rfl⟩
      · assumption
      try simp only [Act.put, List.setIfInBounds_toArray, List.set_cons_zero, List.set_cons_succ]
      apply wpAnyH_take (i := 4)
      · simp only [List.getElem?_toArray]; rfl
      · kernel_rfl
      · kernel_rfl
      · kernel_rfl
      · exact fun _ _ _ h => h
      · exact Or.inl ⟨by rfl, by intro w hSw; go_simp; try with_reducible rfl⟩
      · assumption
      try simp only [Act.put, List.setIfInBounds_toArray, List.set_cons_zero, List.set_cons_succ]
      apply wpAnyH_take (i := 5)
      · simp only [List.getElem?_toArray]; rfl
      · kernel_rfl
      · kernel_rfl
      · kernel_rfl
      · exact fun _ _ _ h => h
      · exact Or.inl ⟨by rfl, by intro w hSw; go_simp; try with_reducible rfl⟩
      · assumption
      try simp only [Act.put, List.setIfInBounds_toArray, List.set_cons_zero, List.set_cons_succ]
      apply wpAnyH_take (i := 6)
      · simp only [List.getElem?_toArray]; rfl
      · kernel_rfl
      · kernel_rfl
      · kernel_rfl
      · exact fun _ _ _ h => h
      · exact Or.inl ⟨by rfl, by intro w hSw; have q0 := HSK.out w hSw; go_simp; try with_reducible rfl⟩
      · assumption
      try simp only [Act.put, List.setIfInBounds_toArray, List.set_cons_zero, List.set_cons_succ]
      apply wpAnyH_take (i := 7)
      · simp only [List.getElem?_toArray]; rfl
      · kernel_rfl
      · kernel_rfl
      · kernel_rfl
      · exact fun _ _ _ h => h
      · exact Or.inl ⟨by rfl, by intro w hSw; go_simp; try with_reducible rfl⟩
      · assumption
      try simp only [Act.put, List.setIfInBounds_toArray, List.set_cons_zero, List.set_cons_succ]
      apply wpAnyH_ready (rs := [1])
      · kernel_rfl
      · simp
      apply AllReadyH.cons (hs := AllReadyH.nil)
      · simp only [List.getElem?_toArray]; rfl
      intro K hK
      rw [if_pos (by rfl)]
      refine wp_loadB rfl rfl (show wr.drew.cell? ⟨R + 1, 0, none⟩ = _ from kv_byte HB1.out) ?_
      refine hK.out _ _ ?_ (fun hHeld => ?_)
      · exact (by rw [HSE.out]; exact (Keeps.refl _ _).drew)
      clear hK K
      try simp only [Act.put, List.setIfInBounds_toArray, List.set_cons_zero, List.set_cons_succ]
      apply wpAnyH_take (i := 8)
      · simp only [List.getElem?_toArray]; rfl
      · kernel_rfl
      · kernel_rfl
      · kernel_rfl
      · exact fun _ _ _ h => h
      · exact Or.inl ⟨by rfl, by intro w hSw; go_simp; try with_reducible rfl⟩
      · assumption
      try simp only [Act.put, List.setIfInBounds_toArray, List.set_cons_zero, List.set_cons_succ]
      apply wpAnyH_take (i := 9)
      · simp only [List.getElem?_toArray]; rfl
      · kernel_rfl
      · kernel_rfl
      · kernel_rfl
      · exact fun _ _ _ h => h
      · exact Or.inl ⟨by rfl, by intro w hSw; go_simp; try with_reducible rfl⟩
      · assumption
      try simp only [Act.put, List.setIfInBounds_toArray, List.set_cons_zero, List.set_cons_succ]
      apply wpAnyH_ready (rs := [10])
      · kernel_rfl
      · simp
      apply AllReadyH.cons (hs := AllReadyH.nil)
      · simp only [List.getElem?_toArray]; rfl
      intro K hK
      rw [if_pos (by rfl)]
      refine wp_put1 rfl (z := .int .u8 (kvH (f.set x.k.toNat (some x.v)) : Int)) rfl rfl (by kernel_rfl) rfl (by rw [show wr.drew.cell? ⟨R + 1, 0, none⟩ = _ from kv_byte HB1.out]; rfl) (kv_thaw (show wr.drew.heap[R + 1]? = _ from HB1.out) 0) ?_
      have hk2 : Keeps [R + 1] wr (wr.drew.setCell ⟨R + 1, 0, none⟩ (.int .u8 (kvH (f.set x.k.toNat (some x.v)) : Int))) := ((Keeps.refl _ _).drew).setCell _ _ (.inl (by simp))
      have hb2 := kv_puth (h2 := (kvH (f.set x.k.toNat (some x.v)) : Int)) (show wr.drew.heap[R + 1]? = _ from HB1.out)
      generalize wr.drew.setCell ⟨R + 1, 0, none⟩ (.int .u8 (kvH (f.set x.k.toNat (some x.v)) : Int)) = W2 at *
      have HK2 := Lib.hid hk2; have HB2 := Lib.hid hb2
      clear hk2 hb2
      refine hK.out _ _ ?_ (fun hHeld => ?_)
      · exact (by rw [HSE.out]; exact HK2.out)
      clear hK K
      try simp only [Act.put, List.setIfInBounds_toArray, List.set_cons_zero, List.set_cons_succ]
      refine wpAnyH_done (by kernel_rfl) ?_ _
      refine NoPanic.normal ?_
      have m02 := HK2.out.cell m0 (by simp; have := HRE.out; omega)
      have m12 := HK2.out.cell m1 (by simp; have := HRE.out; omega)
      have HB02 := Lib.hid (HK2.out.heap HB0.out (by simp))
      clear HSE hSD HSK hsh hor m0 m1 HB1 HB0
      obtain ⟨S, hS⟩ : ∃ S : World → Prop, S = fun y => Keeps [R + 1] W2 y := ⟨_, rfl⟩
      have HSE := Lib.hid hS
      have hSD : S W2.drew := by rw [hS]; exact (Keeps.refl _ _).drew
      have HSK := Lib.hid (fun (w' : World) (hh : S w') => show w'.cell? ⟨bk, o + k * 2, none⟩ = some (.int .u8 x.k) from by rw [hS] at hh; exact hh.cell m02 (by simp; have := HRE.out; omega))
      have HSV := Lib.hid (fun (w' : World) (hh : S w') => show w'.cell? ⟨bk, o + k * 2 + 1, none⟩ = some (.int .u16 x.v) from by rw [hS] at hh; exact hh.cell m12 (by simp; have := HRE.out; omega))
      obtain ⟨kn, hkn, hk8⟩ : ∃ kn : Nat, x.k = kn ∧ kn < 8 := ⟨x.k.toNat, by have := HX.out; omega, by have := HX.out; omega⟩
      have HKN := Lib.hid hkn
      rw [hkn] at HSK HB2 HF
      rw [Int.toNat_natCast] at HB2 HF
      have hk8i : (kn : Int) < 8 := by omega
      clear hS m02 m12 hkn
      go_wp2_with fail
      refine wp_region_noPanic ?_
      refine wp_region_held_drew (S := S) (by kernel_rfl) hSD (fun hHeld => ?_)
      apply wpAnyH_take (i := 0)
      · simp only [List.getElem?_toArray]; rfl
      · kernel_rfl
      · kernel_rfl
      · kernel_rfl
      · exact fun _ _ _ h => h
      · exact Or.inl ⟨by rfl, by intro w hSw; go_simp; try with_reducible rfl⟩
      · assumption
      try simp only [Act.put, List.setIfInBounds_toArray, List.set_cons_zero, List.set_cons_succ]
      apply wpAnyH_take (i := 1)
      · simp only [List.getElem?_toArray]; rfl
      · kernel_rfl
      · kernel_rfl
      · kernel_rfl
      · exact fun _ _ _ h => h
      · exact Or.inl ⟨by rfl, by intro w hSw; go_simp; try with_reducible rfl⟩
      · assumption
      try simp only [Act.put, List.setIfInBounds_toArray, List.set_cons_zero, List.set_cons_succ]
      apply wpAnyH_take (i := 2)
      · simp only [List.getElem?_toArray]; rfl
      · kernel_rfl
      · kernel_rfl
      · kernel_rfl
      · exact fun _ _ _ h => h
      · exact Or.inl ⟨by rfl, by intro w hSw; go_simp; try with_reducible rfl⟩
      · assumption
      try simp only [Act.put, List.setIfInBounds_toArray, List.set_cons_zero, List.set_cons_succ]
      apply wpAnyH_take (i := 3)
      · simp only [List.getElem?_toArray]; rfl
      · kernel_rfl
      · kernel_rfl
      · kernel_rfl
      · exact fun _ _ _ h => h
      · exact Or.inl ⟨by rfl, by intro w hSw; go_simp; try with_reducible rfl⟩
      · assumption
      try simp only [Act.put, List.setIfInBounds_toArray, List.set_cons_zero, List.set_cons_succ]
      apply wpAnyH_take (i := 4)
      · simp only [List.getElem?_toArray]; rfl
      · kernel_rfl
      · kernel_rfl
      · kernel_rfl
      · exact fun _ _ _ h => h
      · exact Or.inl ⟨by rfl, by intro w hSw; have q0 := HSK.out w hSw; go_simp; try with_reducible rfl⟩
      · assumption
      try simp only [Act.put, List.setIfInBounds_toArray, List.set_cons_zero, List.set_cons_succ]
      apply wpAnyH_take (i := 5)
      · simp only [List.getElem?_toArray]; rfl
      · kernel_rfl
      · kernel_rfl
      · kernel_rfl
      · exact fun _ _ _ h => h
      · exact Or.inl ⟨by rfl, by intro w hSw; go_simp; try with_reducible rfl⟩
      · assumption
      try simp only [Act.put, List.setIfInBounds_toArray, List.set_cons_zero, List.set_cons_succ]
      apply wpAnyH_take (i := 6)
      · simp only [List.getElem?_toArray]; rfl
      · kernel_rfl
      · kernel_rfl
      · kernel_rfl
      · exact fun _ _ _ h => h
      · exact Or.inl ⟨by rfl, by intro w hSw; go_simp; try with_reducible rfl⟩
      · assumption
      try simp only [Act.put, List.setIfInBounds_toArray, List.set_cons_zero, List.set_cons_succ]
      apply wpAnyH_take (i := 7)
      · simp only [List.getElem?_toArray]; rfl
      · kernel_rfl
      · kernel_rfl
      · kernel_rfl
      · exact fun _ _ _ h => h
      · exact Or.inl ⟨by rfl, by intro w hSw; go_simp; try with_reducible rfl⟩
      · assumption
      try simp only [Act.put, List.setIfInBounds_toArray, List.set_cons_zero, List.set_cons_succ]
      apply wpAnyH_take (i := 8)
      · simp only [List.getElem?_toArray]; rfl
      · kernel_rfl
      · kernel_rfl
      · kernel_rfl
      · exact fun _ _ _ h => h
      · exact Or.inl ⟨by rfl, by intro w hSw; go_simp; try with_reducible rfl⟩
      · assumption
      try simp only [Act.put, List.setIfInBounds_toArray, List.set_cons_zero, List.set_cons_succ]
      apply wpAnyH_take (i := 9)
      · simp only [List.getElem?_toArray]; rfl
      · kernel_rfl
      · kernel_rfl
      · kernel_rfl
      · exact fun _ _ _ h => h
      · exact Or.inl ⟨by rfl, by intro w hSw; have q0 := HSV.out w hSw; go_simp; try with_reducible rfl⟩
      · assumption
      try simp only [Act.put, List.setIfInBounds_toArray, List.set_cons_zero, List.set_cons_succ]
      apply wpAnyH_take (i := 10)
      · simp only [List.getElem?_toArray]; rfl
      · kernel_rfl
      · kernel_rfl
      · kernel_rfl
      · exact fun _ _ _ h => h
      · exact Or.inl ⟨by rfl, by intro w hSw; go_simp; try with_reducible rfl⟩
      · assumption
      try simp only [Act.put, List.setIfInBounds_toArray, List.set_cons_zero, List.set_cons_succ]
      apply wpAnyH_take (i := 11)
      · simp only [List.getElem?_toArray]; rfl
      · kernel_rfl
      · kernel_rfl
      · kernel_rfl
      · exact fun _ _ _ h => h
      · exact Or.inl ⟨by rfl, by intro w hSw; go_simp; try with_reducible rfl⟩
      · assumption
      try simp only [Act.put, List.setIfInBounds_toArray, List.set_cons_zero, List.set_cons_succ]
      apply wpAnyH_ready (rs := [12])
      · kernel_rfl
      · simp
      apply AllReadyH.cons (hs := AllReadyH.nil)
      · simp only [List.getElem?_toArray]; rfl
      intro K hK
      rw [if_pos (by rfl)]
      refine wp_put1 rfl (g := R + 1) (i := 1 + kn) (z := .int .u16 x.v) rfl rfl (by kernel_rfl) rfl (by rw [show W2.drew.cell? ⟨R + 1, 1 + kn, none⟩ = _ from kv_cell HB2.out hk8]; rfl) (kv_thaw (show W2.drew.heap[R + 1]? = _ from HB2.out) _) ?_
      have hk3 : Keeps [R + 1] W2 (W2.drew.setCell ⟨R + 1, 1 + kn, none⟩ (.int .u16 x.v)) := ((Keeps.refl _ _).drew).setCell _ _ (.inl (by simp))
      have hb3 := kv_put (show W2.drew.heap[R + 1]? = _ from HB2.out) (by rw [kvV_len, HFL.out]) hk8 x.v
      generalize W2.drew.setCell ⟨R + 1, 1 + kn, none⟩ (.int .u16 x.v) = W3 at *
      have HK3 := Lib.hid hk3; have HB3 := Lib.hid hb3
      clear hk3 hb3
      refine hK.out _ _ ?_ (fun hHeld => ?_)
      · exact (by rw [HSE.out]; exact HK3.out)
      clear hK K
      try simp only [Act.put, List.setIfInBounds_toArray, List.set_cons_zero, List.set_cons_succ]
      refine wpAnyH_done (by kernel_rfl) ?_ _
      refine NoPanic.normal ?_
      go_wp2_with fail
      go_roundw
      case rel => exact ⟨k + 1, by go_num, by omega, HK3.out.heap HB02.out (by simp), by rw [HF.out, kvV_set]; exact HB3.out, HKW.out.trans (HK2.out.step HK3.out (by simp)) (fun q hq => .inr (by simp at hq; have := HRE.out; omega))⟩
      case measure => simp [intOf]; omega
    · obtain rfl : k = n := by omega
      have hall : t.take k = t := by rw [← HN2.out, List.take_length]
      rw [hall, HR.out.fold] at hb1
      have HB0 := Lib.hid hb0; have HB1 := Lib.hid hb1; have HK := Lib.hid hkw
      have heq := fun w => kv_eql w (kvH m) (kvH m) (kvV m) (kvV m)
      rw [kvEq_same] at heq
      clear hb0 hb1 hkw hall
      go_wp2_with (first
        | ((with_reducible refine wpList_loadK (g := R) (h := (kvH m : Int)) (vs := kvV m) rfl ?_ HB0.out ?_); exact rfl)
        | ((with_reducible refine wpList_loadK (g := R + 1) (h := (kvH m : Int)) (vs := kvV m) rfl ?_ HB1.out ?_); exact rfl))
      go_ret
      exact ⟨rfl, HK.out⟩
end Go.Proofs.Ytnmpekbkahkapaa
