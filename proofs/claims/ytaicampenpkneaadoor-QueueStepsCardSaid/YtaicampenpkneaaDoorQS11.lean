/-
  QueueSteps' walk, over any queue.
-/
import Derived.Test.YtaicampenpkneaaDoorQS10
set_option linter.unusedSimpArgs false
set_option linter.unusedVariables false
namespace Go.Proofs.YtaicampenpkneaaDoor
open Go.RowKit
variable {G : World → Prop}
section
variable {ops : Array Oper} {rest : List Oper} {a : Act} {w : World} {Q : Exit → Act → World → Prop}
theorem wpList_loadX10 {dst : Option Tmp} {ty : TypeId} {pos : String} {after : Array Edge} {gd : Option (Nat × Bool)} {x : Operand} {g off : Nat} (y : Opn)
    (hw : Region.wanted { dst := dst, op := .load 25 x, type := ty, pos := pos, after := after, guard := gd } (yielded ops a.tmps) = true)
    (hx : a.eval x = .pointer (some ⟨g, off, none⟩)) (hr : w.rangeAt g off (opC y)) (h : wpList Tryd.prog ops Q rest (a.put dst (.agg #[.int .u8 y.f, .int .u8 y.o, .int .u8 y.k, .int .u16 y.a, .int .u16 y.b])) w) :
    wpList Tryd.prog ops Q ({ dst := dst, op := .load 25 x, type := ty, pos := pos, after := after, guard := gd } :: rest) a w :=
  wpList_loadO hw hx hr h
theorem wpList_putSt {dst : Option Tmp} {ty : TypeId} {pos : String} {after : Array Edge} {x y : Operand} {g : Nat} {old z : Value} {t : TypeId}
    (hx : a.eval x = .pointer (some ⟨g, 0, none⟩)) (hy : a.eval y = .agg #[z]) (hg : w.heap[g]? = some (.cells #[old] t (0, 0))) (h1 : z.oneCell' = true)
    (h : ∀ W, W.heap[g]? = some (.cells #[z] t (0, 0)) → Keeps [g] w W → wpList Tryd.prog ops Q rest (a.put dst undef) W) :
    wpList Tryd.prog ops Q ({ dst := dst, op := .store 28 x y, type := ty, pos := pos, after := after, guard := none } :: rest) a w :=
  wpList_plain rfl fun _ hK => wp_putS rfl hx hy hg h1 fun W h2 h3 => hK _ _ (h W h2 h3)
end
set_option maxHeartbeats 8000000
set_option maxRecDepth 100000
theorem QueueSteps_any (R : QuProg G) (w : World) (hG : G w) {v : Value} {l : List Int} (hl : rkU.In w.heap.size w v l) (hu : U16s l) (x : Opn) (hx : x.In) :
    Calls Tryd.prog 3 #[v, x.val] w fun e w' => e = .returned (.bool true) ∧ Keeps [] w w' := by
  obtain ⟨a1, c1, rfl, hc1, hm1, -⟩ := id hl
  have HG := Lib.hid hG; have HL := Lib.hid hl; have HX := Lib.hid hx; have HU := Lib.hid hu
  have HK0 := Lib.hid (show Keeps [] w (w.alloc (.cells (opC x).toArray 25)) from (Keeps.refl _ _).alloc _)
  have HO0 := Lib.hid (heap_alloc_new w (.cells (opC x).toArray 25))
  clear hG hl hx hu
  unfold Opn.val
  by_cases hn : l.length ≤ 200
  · have t2 : ¬ (200 : Int) < l.length := by omega
    go_enter Tryd.func3, Tryd.ntmps3
    have HAP := Lib.hid (show rkU.In w.heap.size (w.alloc (.cells (opC x).toArray 25)) (.slice a1 l.length c1) l from HL.out.new HK0.out (Nat.le_refl _))
    obtain ⟨vo, w1, hr1, ho1, hk1, hf1⟩ := rkU.appendIn (w.alloc (.cells (opC x).toArray 25)) (w.alloc (.cells (opC x).toArray 25)).heap.size (Nat.le_refl _) (.slice none 0 0) [] (RK.Own.nil _ _ _) HAP.out (by simp; omega)
    have HR1 := Lib.hid (show (Builtin.append_ #[22, 22] 22 #[.slice none 0 0, .slice a1 l.length c1]).run Tryd.prog (w.alloc (.cells #[.int .u8 x.f, .int .u8 x.o, .int .u8 x.k, .int .u16 x.a, .int .u16 x.b] 25)) = .ok vo w1 from hr1)
    rw [List.nil_append] at ho1
    have HO1 := Lib.hid ho1
    have hk1' : Keeps [] (w.alloc (.cells (opC x).toArray 25)) w1 := hk1
    have HK1 := Lib.hid (HK0.out.trans hk1' (FSub.refl _ _))
    have HB1 := Lib.hid (show w1.heap[w.heap.size]? = some (.cells (opC x).toArray 25 (0, 0)) from hk1'.heap HO0.out (by simp))
    obtain ⟨ao, co, rfl, hco, hmo⟩ := ho1.shape
    clear hr1 ho1 hk1 hk1' hf1 HAP HO0 HK0
    go_wp2_with ((with_reducible refine wpList_app (.slice none 0 0) _ ?_ ?_ HR1.out ?_); exact rfl; exact rfl)
    refine (R.of w1 w1.heap.size _ l (R.keepG HG.out HK1.out) HO1.out.in_ (Nat.le_refl _) (by omega)).mono ?_
    rintro e w2 ⟨st, rfl, hz2, hk2, hf2⟩
    obtain ⟨z1, rfl, hone1⟩ := R.one hz2
    have HC2 := Lib.hid (heap_alloc_new w2 (.cells #[.slice none 0 0] 28))
    have HE1 := Lib.hid hone1
    have HZ2 := Lib.hid hz2; have HK2 := Lib.hid hk2; have HF2 := Lib.hid hf2
    clear hz2 hk2 hf2 hone1 HR1
    go_wp2_with ((with_reducible refine wpList_putSt (g := w2.heap.size) (z := z1) ?_ ?_ HC2.out HE1.out ?_); exact rfl; exact rfl)
    intro W3 h3 k3
    have k23 : Keeps [] w2 W3 := ((Keeps.refl [] w2).alloc _).trans k3 (fun q hq => .inr (by simp at hq; omega))
    have HK3 := Lib.hid ((HK1.out.trans HK2.out (FSub.refl _ _)).trans k23 (FSub.refl _ _))
    have HZ3 := Lib.hid (R.new_ HZ2.out k23)
    have HO3 := Lib.hid ((HO1.out.keeps HK2.out (by simp)).keeps k23 (by simp))
    have HB3 := Lib.hid (k23.heap (HK2.out.heap HB1.out (by simp)) (by simp))
    have HS3 := Lib.hid h3
    have HFO := Lib.hid (show ∀ p ∈ R.foot (.agg #[z1]), p ∉ own (.slice ao l.length co) from fun p hp hq => by have := HF2.out p hp; have := (row_base HO1.out p hq).2; omega)
    have HWO := Lib.hid (show ∀ q ∈ own (.slice ao l.length co), w.heap.size < q ∧ q < w2.heap.size from fun q hq => by
      have h1 := row_base HO1.out q hq
      have h2 := HK2.out.size
      have h3 : (w.alloc (.cells (opC x).toArray 25)).heap.size = w.heap.size + 1 := Array.size_push _
      omega)
    have HSZ3 := Lib.hid (show w2.heap.size < W3.heap.size from Nat.lt_of_lt_of_le (by rw [show (w2.alloc (.cells #[.slice none 0 0] 28)).heap.size = w2.heap.size + 1 from Array.size_push _]; omega) k3.size)
    have HFS := Lib.hid (show ∀ p ∈ R.foot (.agg #[z1]), p ≠ w2.heap.size from fun p hp e => by have := R.old HZ2.out p hp; omega)
    have HW6 := Lib.hid (show w.heap.size < w2.heap.size from by have := HK1.out.size; have := HK2.out.size; have h3 : (w.alloc (.cells (opC x).toArray 25)).heap.size = w.heap.size + 1 := Array.size_push _; have := lt_of_block HB1.out; omega)
    clear h3 k3 k23 HC2 HZ2 HK2 HF2 HB1 HO1 HK1
    generalize w2.heap.size = q6 at *
    have c6 : W3.cell? ⟨q6, 0, none⟩ = some z1 := cell_lit HS3.out 0 rfl
    have HRG := Lib.hid (show W3.rangeAt w.heap.size 0 (opC x) from fun j u hj => by rw [Nat.zero_add]; exact cell_lit HB3.out j (by simpa using hj))
    go_wp2_with ((with_reducible refine wpList_loadX10 (g := w.heap.size) (off := 0) x rfl ?_ HRG.out ?_); exact rfl)
    refine (show Calls Tryd.prog 12 _ W3 _ from R.step W3 _ l x (R.keepG HG.out HK3.out) HZ3.out (by omega) HX.out).mono ?_
    rintro e w4 ⟨st2, rfl, hz4, hk4, hf4⟩
    obtain ⟨z2, rfl, hone2⟩ := R.one hz4
    rcases hX : quX l x with ⟨L2, ⟨yk, yv⟩, er⟩
    rw [hX] at hz4
    simp only [hX]
    have HXE := Lib.hid hX
    have HE2 := Lib.hid hone2
    have hb7 : ((w4.alloc (.cells #[.slice none 0 0] 28)).alloc (.cells (ansC ⟨0, 0⟩).toArray 31)).heap[w4.heap.size]? = some (.cells #[.slice none 0 0] 28 (0, 0)) := ((Keeps.refl [] _).alloc _).heap (heap_alloc_new w4 _) (by simp)
    have e7 : (w4.alloc (.cells #[.slice none 0 0] 28)).heap.size = w4.heap.size + 1 := Array.size_push _
    have hb8 : ((w4.alloc (.cells #[.slice none 0 0] 28)).alloc (.cells (ansC ⟨0, 0⟩).toArray 31)).heap[w4.heap.size + 1]? = some (.cells (ansC ⟨0, 0⟩).toArray 31 (0, 0)) := by
      have h := heap_alloc_new (w4.alloc (.cells #[.slice none 0 0] 28)) (.cells (ansC ⟨0, 0⟩).toArray 31)
      rwa [e7] at h
    have k48 : Keeps [] w4 ((w4.alloc (.cells #[.slice none 0 0] 28)).alloc (.cells (ansC ⟨0, 0⟩).toArray 31)) := ((Keeps.refl _ _).alloc _).alloc _
    have HB7 := Lib.hid hb7; have HB8 := Lib.hid hb8; have HK48 := Lib.hid k48
    have HZ4 := Lib.hid hz4; have HK4 := Lib.hid hk4; have HF4 := Lib.hid hf4
    clear hb7 hb8 e7 k48 hz4 hk4 hf4 hX hone2 c6 HRG
    simp only [ansC] at HB7 HB8 HK48 ⊢
    go_wp2_with ((with_reducible refine wpList_putSt (g := w4.heap.size) (z := z2) ?_ ?_ HB7.out HE2.out ?_); exact rfl; exact rfl)
    intro W5 h5 k5
    have HS5 := Lib.hid h5; have HK5 := Lib.hid k5
    have HB58 := Lib.hid (show W5.heap[w4.heap.size + 1]? = some (.cells (ansC ⟨0, 0⟩).toArray 31 (0, 0)) from k5.heap HB8.out (by simp))
    clear h5 k5 HB7 HB8
    go_wp2_with ((with_reducible refine wpList_putN (g := w4.heap.size + 1) (old := ⟨0, 0⟩) ⟨yk, yv⟩ ?_ ?_ HB58.out ?_); exact rfl; exact rfl)
    intro W6 h6 k6
    have k46 : Keeps [] w4 W6 := (HK48.out.trans HK5.out (fun q hq => .inr (by simp at hq; omega))).trans k6 (fun q hq => .inr (by simp at hq; omega))
    have HK6 := Lib.hid ((HK3.out.trans HK4.out (FSub.refl _ _)).trans k46 (FSub.refl _ _))
    have k36 : Keeps [] W3 W6 := HK4.out.trans k46 (FSub.refl _ _)
    have HY6 := Lib.hid (R.new_ HZ3.out k36)
    have HZ6 := Lib.hid (R.new_ HZ4.out k46)
    have HO6 := Lib.hid (HO3.out.keeps k36 (by simp))
    have HB6 := Lib.hid (k36.heap HB3.out (by simp))
    have HS6 := Lib.hid (k36.heap HS3.out (by simp))
    have HN6 := Lib.hid (show W6.heap[w4.heap.size]? = some (.cells #[z2] 28 (0, 0)) from k6.heap HS5.out (by simp))
    have HA6 := Lib.hid (show W6.heap[w4.heap.size + 1]? = some (.cells (ansC ⟨yk, yv⟩).toArray 31 (0, 0)) from h6)
    have HG2 := Lib.hid (show ∀ p ∈ R.foot (.agg #[z2]), p ∉ own (.slice ao l.length co) from fun p hp hq => by
      rcases HF4.out p hp with h | h
      · exact HFO.out p h hq
      · have := (HWO.out p hq).2; have := HSZ3.out; omega)
    have HI6 := Lib.hid (show rkU.In W6.heap.size W6 (.slice a1 l.length c1) l from (HL.out.new HK6.out (Nat.le_refl _)).more HK6.out.size)
    have HSZ6 := Lib.hid (show q6 < w4.heap.size ∧ w4.heap.size + 1 < W6.heap.size from ⟨by have := HSZ3.out; have := HK4.out.size; omega, lt_of_block h6⟩)
    clear h6 k6 k46 k36 HS5 HK5 HB58 HK48 HK4 HK3 HZ3 HZ4 HO3 HB3 HS3 HF4 HE2 HE1 HSZ3
    generalize w4.heap.size = q7 at *
    have HRG := Lib.hid (show W6.rangeAt w.heap.size 0 (opC x) from fun j u hj => by rw [Nat.zero_add]; exact cell_lit HB6.out j (by simpa using hj))
    go_wp2_with ((with_reducible refine wpList_loadX10 (g := w.heap.size) (off := 0) x rfl ?_ HRG.out ?_); exact rfl)
    refine (show Calls Tryd.prog 13 _ W6 (Post10 W6 _ l x) from r10Step_any W6 HI6.out (by omega) x HX.out).mono ?_
    rintro e w7 ⟨v7, rfl, hi7, hk7, hf7⟩
    rw [HXE.out] at hi7 hf7
    simp only [HXE.out]
    obtain ⟨a7, c7, rfl, hc7, hm7, -⟩ := id hi7
    have HI7 := Lib.hid hi7; have HK7 := Lib.hid hk7; have HF7 := Lib.hid hf7
    clear hi7 hk7 hf7 HRG
    simp only [ansC]
    have h8 := heap_alloc_new w7 (.cells (ansC ⟨yk, yv⟩).toArray 31)
    have k78 : Keeps [] w7 (w7.alloc (.cells (ansC ⟨yk, yv⟩).toArray 31)) := (Keeps.refl [] w7).alloc _
    have c7' : (w7.alloc (.cells #[.int .u8 yk, .int .u16 yv] 31)).cell? ⟨q7, 0, none⟩ = some (z2) := cell_lit (k78.heap (HK7.out.heap HN6.out (by simp)) (by simp)) 0 rfl
    go_wp2_with fail
    simp only [show (ansC ⟨yk, yv⟩).toArray = #[Value.int .u8 yk, Value.int .u16 yv] from rfl] at h8 k78
    generalize w7.alloc (.cells #[.int .u8 yk, .int .u16 yv] 31) = W8 at *
    have k68 : Keeps [] W6 W8 := HK7.out.trans k78 (FSub.refl _ _)
    have HK8 := Lib.hid (HK6.out.trans k68 (FSub.refl _ _))
    have HY8 := Lib.hid (R.new_ HY6.out k68)
    have HZ8 := Lib.hid (R.new_ HZ6.out k68)
    have HO8 := Lib.hid (HO6.out.keeps k68 (by simp))
    have HB8 := Lib.hid (k68.heap HB6.out (by simp))
    have HS8 := Lib.hid (k68.heap HS6.out (by simp))
    have HN8 := Lib.hid (k68.heap HN6.out (by simp))
    have HA8 := Lib.hid (k68.heap HA6.out (by simp))
    have HQ8 := Lib.hid h8
    have HI8 := Lib.hid (show rkU.In W8.heap.size W8 (.slice a7 L2.length c7) L2 from (HI7.out.new k78 (Nat.le_refl _)).more k78.size)
    have HW8 := Lib.hid (HK8.out.size)
    have HGW := Lib.hid (show W6.heap.size ≤ w7.heap.size ∧ w7.heap.size < W8.heap.size from ⟨HK7.out.size, lt_of_block h8⟩)
    have HL2 := Lib.hid (show L2.length ≤ 1000 from by have h := quX_len l x; rw [HXE.out] at h; simp only at h; omega)
    clear h8 c7' k78 k68 HI7 HK7 HK6 HY6 HZ6 HO6 HB6 HS6 HN6 HA6 HI6
    generalize w7.heap.size = q11 at *
    refine (R.values W8 _ L2 (R.keepG HG.out HK8.out) HZ8.out HL2.out).mono ?_
    rintro e w9 ⟨v9, rfl, ho9, hk9⟩
    have HI9 := Lib.hid (HI8.out.new hk9 (Nat.le_refl _))
    obtain ⟨a9, c9, rfl, hc9, hm9⟩ := ho9.shape
    have cA0 : w9.cell? ⟨q7 + 1, 0, none⟩ = some (.int .u8 yk) := cell_lit (hk9.heap HA8.out (by simp)) 0 rfl
    have cA1 : w9.cell? ⟨q7 + 1, 1, none⟩ = some (.int .u16 yv) := cell_lit (hk9.heap HA8.out (by simp)) 1 rfl
    have cQ0 : w9.cell? ⟨q11, 0, none⟩ = some (.int .u8 yk) := cell_lit (hk9.heap HQ8.out (by simp)) 0 rfl
    have cQ1 : w9.cell? ⟨q11, 1, none⟩ = some (.int .u16 yv) := cell_lit (hk9.heap HQ8.out (by simp)) 1 rfl
    have c6 : w9.cell? ⟨q6, 0, none⟩ = some z1 := cell_lit (hk9.heap HS8.out (by simp)) 0 rfl
    have t3 : (yk == yk) = true := by simp
    have t4 : (yv == yv) = true := by simp
    have t5 : (er != er) = false := by simp
    have HK9 := Lib.hid hk9
    have HO9 := Lib.hid ho9
    clear hk9 ho9
    go_wp2_with fail
    refine (r10Same_any w9 HO9.out.in_ HI9.out).mono ?_
    rintro e w10 ⟨rfl, n10, rfl⟩
    rw [decide_eq_true (rfl : L2 = L2)]
    go_wp2_with fail
    have HKd := Lib.hid (show Keeps [] W8 (w9.drewN n10) from HK9.out.drewN _)
    refine (R.values _ _ l (R.keepG HG.out (HK8.out.trans HKd.out (FSub.refl _ _))) (R.new_ HY8.out HKd.out) (by omega)).mono ?_
    rintro e w11 ⟨v11, rfl, ho11, hk11⟩
    have HK11 := Lib.hid (show Keeps [] W8 w11 from HKd.out.trans hk11 (FSub.refl _ _))
    have HO11 := Lib.hid ho11
    obtain ⟨a11, c11, rfl, hc11, hm11⟩ := ho11.shape
    have c6' : w11.cell? ⟨q6, 0, none⟩ = some z1 := cell_lit (HK11.out.heap HS8.out (by simp)) 0 rfl
    clear hk11 ho11 HKd cA0 cA1 cQ0 cQ1 c6 HI9 HO9 HK9
    go_wp2_with fail
    refine (r10Same_any w11 HO11.out.in_ (HL.out.new (HK8.out.trans HK11.out (FSub.refl _ _)) (Nat.le_refl _))).mono ?_
    rintro e w12 ⟨rfl, n12, rfl⟩
    rw [decide_eq_true (rfl : l = l)]
    go_wp2_with fail
    have HKd := Lib.hid (show Keeps [] W8 (w11.drewN n12) from HK11.out.drewN _)
    refine (R.values _ _ l (R.keepG HG.out (HK8.out.trans HKd.out (FSub.refl _ _))) (R.new_ HY8.out HKd.out) (by omega)).mono ?_
    rintro e w13 ⟨v13, rfl, ho13, hk13⟩
    have HK13 := Lib.hid (show Keeps [] W8 w13 from HKd.out.trans hk13 (FSub.refl _ _))
    obtain ⟨a13, c13, rfl, hc13, hm13⟩ := ho13.shape
    have HNE := Lib.hid (show ∀ q ∈ own (.slice a13 l.length c13), W8.heap.size ≤ q from fun q hq => Nat.le_trans HKd.out.size (row_base ho13 q hq).1)
    have HV := Lib.hid (show rkU.Own 0 w13 (.slice a13 l.length c13) l from row_up ho13 (fun q _ => Nat.zero_le q))
    have HO := Lib.hid (show rkU.Own 0 w13 (.slice ao l.length co) l from row_up (HO8.out.keeps HK13.out (by simp)) (fun q _ => Nat.zero_le q))
    have HAO := Lib.hid (show ∀ q ∈ own (.slice ao l.length co), w.heap.size < q ∧ q < W8.heap.size from fun q hq => by have h1 := HWO.out q hq; have h2 := HSZ6.out; have h3 := HGW.out; omega)
    clear ho13 hk13 HKd HO11 HK11 c6' t3 t4 t5
    obtain ⟨F, hF⟩ : ∃ F, F = own (.slice a13 l.length c13) ++ own (.slice ao l.length co) := ⟨_, rfl⟩
    have HF := Lib.hid hF
    clear hF
    go_wp2_with fail
    go_loopw [14] (fun i wr => ∃ (k : Nat) (L1 L3 : List Int), i = .int .i64 k ∧ k ≤ l.length ∧ L1.length = l.length ∧ L3.length = l.length ∧ rkU.Own 0 wr (.slice a13 l.length c13) L1 ∧ rkU.Own 0 wr (.slice ao l.length co) L3 ∧ Keeps F w13 wr) (fun i _ => l.length - (intOf i).toNat)
    case atStart => exact ⟨0, l, l, rfl, Nat.zero_le _, rfl, rfl, HV.out, HO.out, Keeps.refl _ _⟩
    case round =>
      obtain ⟨k, L1, L3, rfl, hk, hl1, hl3, h1, h3, hkw⟩ := hrel
      by_cases hlt : k < l.length
      · have hk1 : k < L1.length := by omega
        have hk3 : k < L3.length := by omega
        obtain ⟨g1, p1, e1, -⟩ := h1.at (fun e => by rw [e] at hk1; simp at hk1)
        obtain ⟨g3, p3, e3, -⟩ := h3.at (fun e => by rw [e] at hk3; simp at hk3)
        simp only [Value.slice.injEq] at e1 e3
        obtain ⟨rfl, -, rfl⟩ := e1
        obtain ⟨rfl, -, rfl⟩ := e3
        have hg1 := HNE.out g1 (by simp [own, Value.ownBlock])
        have hg3 := (HAO.out g3 (by simp [own, Value.ownBlock])).2
        have n1 : ¬ g1 = g3 := by omega
        have n2 : ¬ g3 = g1 := by omega
        obtain ⟨-, f1, d1⟩ := U16.put h1 k hk1 0
        obtain ⟨-, f3, d3⟩ := U16.put h3 k hk3 0
        have HP1 := Lib.hid (fun x => (U16.put h1 k hk1 x).1)
        have HP3 := Lib.hid (fun (W : World) (h : rkU.Own 0 W (.slice (some ⟨g3, 0, none⟩) l.length co) L3) x => (U16.put h k hk3 x).1)
        have H3 := Lib.hid h3; have HKR := Lib.hid hkw
        generalize L1.getD k 0 = X at *
        generalize L3.getD k 0 = Y at *
        clear h1 h3 hkw hg1 hg3
        go_wp2_with fail
        have hm1 : g1 ∈ F := by rw [HF.out]; simp [own, Value.ownBlock]
        have hm3 : g3 ∈ F := by rw [HF.out]; simp [own, Value.ownBlock]
        have kA : Keeps [g1] wr (wr.setCell ⟨g1, k, none⟩ (.int .u16 (IntKind.u16.wrap (X + 1)))) := (Keeps.refl _ _).setCell _ _ (.inl (by simp))
        have kB : Keeps [g3] (wr.setCell ⟨g1, k, none⟩ (.int .u16 (IntKind.u16.wrap (X + 1)))) ((wr.setCell ⟨g1, k, none⟩ (.int .u16 (IntKind.u16.wrap (X + 1)))).setCell ⟨g3, k, none⟩ (.int .u16 (IntKind.u16.wrap (Y + 2)))) := (Keeps.refl _ _).setCell _ _ (.inl (by simp))
        go_roundw
        case rel =>
          refine ⟨k + 1, L1.set k (IntKind.u16.wrap (X + 1)), L3.set k (IntKind.u16.wrap (Y + 2)), by go_num, by omega, by rw [List.length_set]; exact hl1, by rw [List.length_set]; exact hl3, ?_, ?_, ?_⟩
          · exact (HP1.out _).keeps kB (fun q hq => by simp [own, Value.ownBlock] at hq; subst hq; simpa using n1)
          · exact HP3.out _ (H3.out.keeps kA (fun q hq => by simp [own, Value.ownBlock] at hq; subst hq; simpa using n2)) _
          · exact (HKR.out.step kA (fun q hq => by simp at hq; subst hq; exact hm1)).step kB (fun q hq => by simp at hq; subst hq; exact hm3)
        case measure => simp [intOf]; omega
      · obtain rfl : k = l.length := by omega
        have HKR := Lib.hid hkw
        have hnf : ∀ q, q < w.heap.size → q ∉ F := fun q hq hm => by
          rw [HF.out] at hm
          rcases List.mem_append.1 hm with h | h
          · have := HNE.out q h; have := HW8.out; omega
          · have := (HAO.out q h).1; omega
        have hz1 : ∀ p ∈ R.foot (.agg #[z1]), p ∉ F := fun p hp hm => by
          rw [HF.out] at hm
          rcases List.mem_append.1 hm with h | h
          · have := HNE.out p h; have := R.old HY8.out p hp; omega
          · exact HFO.out p hp h
        have hz2 : ∀ p ∈ R.foot (.agg #[z2]), p ∉ F := fun p hp hm => by
          rw [HF.out] at hm
          rcases List.mem_append.1 hm with h | h
          · have := HNE.out p h; have := R.old HZ8.out p hp; omega
          · exact HG2.out p hp h
        have hv7 : L2 ≠ [] → ∀ q ∈ own (.slice a7 L2.length c7), q ∉ F := fun hne q hq hm => by
          rw [HF.out] at hm
          rcases List.mem_append.1 hm with h | h
          · have := HNE.out q h; have := HI8.out.old hne q hq; omega
          · rcases HF7.out hne q hq with ⟨hl0, h2⟩ | h2
            · have := HL.out.old hl0 q h2; have := (HAO.out q h).1; omega
            · have := HWO.out q h; have := HSZ6.out; omega
        have HKW := Lib.hid (show Keeps [] w wr from HK8.out.trans ((HK13.out.more (by simp)).trans HKR.out (FSub.refl _ _)) (fun q hq => .inr (Nat.le_of_not_lt (fun h => hnf q h hq))))
        have HZW := Lib.hid (show R.At wr (.agg #[z1]) l from R.keep (R.new_ HY8.out HK13.out) HKR.out hz1)
        have HNW := Lib.hid (show R.At wr (.agg #[z2]) L2 from R.keep (R.new_ HZ8.out HK13.out) HKR.out hz2)
        have HIW := Lib.hid (show rkU.In W8.heap.size wr (.slice a7 L2.length c7) L2 from (HI8.out.new HK13.out (Nat.le_refl _)).keeps HKR.out hv7)
        have HBW := Lib.hid (show wr.heap[w.heap.size]? = some (.cells (opC x).toArray 25 (0, 0)) from HKR.out.heap (HK13.out.heap HB8.out (by simp)) (fun hm => by
          rw [HF.out] at hm
          rcases List.mem_append.1 hm with h | h
          · have := HNE.out _ h; have := lt_of_block HB8.out; omega
          · have := (HAO.out _ h).1; omega))
        have h6F : q6 ∉ F := fun hm => by
          rw [HF.out] at hm
          rcases List.mem_append.1 hm with h | h
          · have := HNE.out _ h; have := lt_of_block HS8.out; omega
          · have := (HWO.out _ h).2; omega
        have h7F : q7 ∉ F := fun hm => by
          rw [HF.out] at hm
          rcases List.mem_append.1 hm with h | h
          · have := HNE.out _ h; have := lt_of_block HN8.out; omega
          · have := (HWO.out _ h).2; have := HSZ6.out; omega
        have HC6 := Lib.hid (HKR.out.heap (HK13.out.heap HS8.out (by simp)) h6F)
        have HC7 := Lib.hid (HKR.out.heap (HK13.out.heap HN8.out (by simp)) h7F)
        have c6 : wr.cell? ⟨q6, 0, none⟩ = some z1 := cell_lit HC6.out 0 rfl
        clear hkw h1 h3 hnf hz1 hz2 hv7 h6F h7F
        go_wp2_with fail
        refine (R.values wr _ l (R.keepG HG.out HKW.out) HZW.out (by omega)).mono ?_
        rintro e y1 ⟨u1, rfl, hr1, hy1⟩
        have HY1 := Lib.hid hy1; have HR1 := Lib.hid hr1
        obtain ⟨b1, d1, rfl, hd1, hp1⟩ := hr1.shape
        clear hy1 hr1
        go_wp2_with fail
        refine (r10Same_any y1 HR1.out.in_ (HL.out.new (HKW.out.trans HY1.out (FSub.refl _ _)) (Nat.le_refl _))).mono ?_
        rintro e y2 ⟨rfl, m2, rfl⟩
        rw [decide_eq_true (rfl : l = l)]
        have HY2 := Lib.hid (show Keeps [] wr (y1.drewN m2) from HY1.out.drewN _)
        have c7 : y1.cell? ⟨q7, 0, none⟩ = some z2 := cell_lit (HY1.out.heap HC7.out (by simp)) 0 rfl
        go_wp2_with fail
        refine (R.values _ _ L2 (R.keepG HG.out (HKW.out.trans HY2.out (FSub.refl _ _))) (R.new_ HNW.out HY2.out) HL2.out).mono ?_
        rintro e y3 ⟨u3, rfl, hr3, hy3⟩
        have HY3 := Lib.hid (HY2.out.trans hy3 (FSub.refl _ _)); have HR3 := Lib.hid hr3
        obtain ⟨b3, d3, rfl, hd3, hp3⟩ := hr3.shape
        clear hy3 hr3 c7 HR1
        go_wp2_with fail
        refine (r10Same_any y3 HR3.out.in_ (HIW.out.new HY3.out (by have := HK13.out.size; have := HKR.out.size; omega))).mono ?_
        rintro e y4 ⟨rfl, m4, rfl⟩
        rw [decide_eq_true (rfl : L2 = L2)]
        have HY4 := Lib.hid (show Keeps [] wr (y3.drewN m4) from HY3.out.drewN _)
        have c0 : y3.cell? ⟨w.heap.size, 0, none⟩ = some (.int .u8 x.f) := cell_lit (HY3.out.heap HBW.out (by simp)) 0 rfl
        go_wp2_with fail
        refine (R.idle _ x.f (R.keepG HG.out (HKW.out.trans HY4.out (FSub.refl _ _))) ⟨HX.out.f0, HX.out.f1⟩).mono ?_
        rintro e y5 ⟨rfl, hy5⟩
        have HY5 := Lib.hid (HY4.out.trans hy5 (FSub.refl _ _))
        clear hy5 c0
        go_wp2_with fail
        refine (works10_any R _ (R.keepG HG.out (HKW.out.trans HY5.out (FSub.refl _ _)))).mono ?_
        rintro e y6 ⟨rfl, hy6⟩
        have HY6 := Lib.hid ((HKW.out.trans HY5.out (FSub.refl _ _)).trans hy6 (FSub.refl _ _))
        clear hy6
        go_wp2_with fail
        go_ret
        exact ⟨rfl, HY6.out⟩
  · have t2 : (200 : Int) < l.length := by omega
    go_enter Tryd.func3, Tryd.ntmps3
    go_wp2_with fail
    refine (works10_any R _ (R.keepG HG.out HK0.out)).mono ?_; rintro e w1 ⟨rfl, hk1⟩
    have HK1 := Lib.hid (HK0.out.trans hk1 (FSub.refl _ _))
    clear hk1
    go_wp2_with fail
    go_ret
    exact ⟨rfl, HK1.out⟩
end Go.Proofs.YtaicampenpkneaaDoor
