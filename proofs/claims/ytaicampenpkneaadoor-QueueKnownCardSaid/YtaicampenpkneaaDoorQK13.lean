/-
  QueueKnown's walk, over any queue.
-/
import Derived.Test.YtaicampenpkneaaDoorQK10
import Derived.Test.YtaicampenpkneaaDoorQK11
import Derived.Test.YtaicampenpkneaaDoorQK12
set_option linter.unusedSimpArgs false
set_option linter.unusedVariables false
namespace Go.Proofs.YtaicampenpkneaaDoor
open Go.RowKit
variable {G : World → Prop}
def kwE (a : Int) : Opn := ⟨4, 0, 0, a, 0⟩
def kwD : Opn := ⟨5, 0, 0, 0, 0⟩
def kwO : List Opn := [kwE 1, kwE 2, kwD, kwE 3, kwD, kwD, kwD]
def kwA : List Ans := [⟨0, 0⟩, ⟨0, 0⟩, ⟨1, 1⟩, ⟨0, 0⟩, ⟨1, 2⟩, ⟨1, 3⟩, ⟨2, 0⟩]
theorem kw_run : stS quX [] kwO = [] ∧ stL quX [] kwO = kwA ∧ stE quX [] kwO = 0 := by decide
theorem kw_in : ∀ x ∈ kwO, x.In := by
  intro x hx
  simp only [kwO, List.mem_cons, List.not_mem_nil, or_false] at hx
  rcases hx with rfl | rfl | rfl | rfl | rfl | rfl | rfl <;> first | exact deq_in | exact enq_in _ (by decide)
def kwR : Opn := ⟨1, 0, 0, 0, 0⟩
theorem kwR_in : kwR.In := by constructor <;> decide
def kwP : List Opn := [kwD, kwR, kwD]
theorem kwP_in : ∀ x ∈ kwP, x.In := by
  intro x hx
  simp only [kwP, List.mem_cons, List.not_mem_nil, or_false] at hx
  rcases hx with rfl | rfl | rfl <;> first | exact deq_in | exact kwR_in
theorem kwP_run : stS quX [5] kwP = [] ∧ stL quX [5] kwP = [⟨1, 5⟩] ∧ stE quX [5] kwP = 10 := by decide
set_option maxHeartbeats 8000000
set_option maxRecDepth 100000
theorem QueueKnown_any (R : QuProg G) (w : World) (hG : G w) : Calls Tryd.prog 9 #[] w fun e w' => e = .returned (.bool true) ∧ Keeps [] w w' := by
  have HG := Lib.hid hG
  clear hG
  go_enter Tryd.func9, Tryd.ntmps9
  go_wp2_with fail
  refine (R.new w HG.out).mono ?_; rintro e w0 ⟨st, rfl, hz, hk, -⟩
  obtain ⟨z0, rfl, -⟩ := R.one hz
  have HK0 := Lib.hid hk; have HZ0 := Lib.hid hz
  clear hz hk
  go_wp2_with fail
  refine (enq10_any _ _).mono ?_; rintro e w1 ⟨rfl, hk⟩
  have HK1 := Lib.hid (show Keeps [] w0 w1 from hk)
  clear hk
  go_wp2_with fail
  refine (enq10_any _ _).mono ?_; rintro e w2 ⟨rfl, hk⟩
  have HK2 := Lib.hid (HK1.out.trans hk (FSub.refl _ _))
  clear hk HK1
  go_wp2_with fail
  refine (deq10_any _).mono ?_; rintro e w3 ⟨rfl, hk⟩
  have HK3 := Lib.hid (HK2.out.trans hk (FSub.refl _ _))
  clear hk HK2
  go_wp2_with fail
  refine (enq10_any _ _).mono ?_; rintro e w4 ⟨rfl, hk⟩
  have HK4 := Lib.hid (HK3.out.trans hk (FSub.refl _ _))
  clear hk HK3
  go_wp2_with fail
  refine (deq10_any _).mono ?_; rintro e w5 ⟨rfl, hk⟩
  have HK5 := Lib.hid (HK4.out.trans hk (FSub.refl _ _))
  clear hk HK4
  go_wp2_with fail
  refine (deq10_any _).mono ?_; rintro e w6 ⟨rfl, hk⟩
  have HK6 := Lib.hid (HK5.out.trans hk (FSub.refl _ _))
  clear hk HK5
  go_wp2_with fail
  refine (deq10_any _).mono ?_; rintro e w7 ⟨rfl, hk⟩
  have HK7 := Lib.hid (HK6.out.trans hk (FSub.refl _ _))
  clear hk HK6
  go_wp2_with ((with_reducible refine wpList_litO kwO ?_ ?_ ?_ ?_ ?_); exact rfl; exact rfl; decide; decide)
  intro W hs hk hin
  have HKW := Lib.hid (HK7.out.trans hk (FSub.refl _ _)); have HIN := Lib.hid hin
  clear hs hk hin HK7
  generalize w7.heap.size = b7 at *
  go_wp2_with fail
  refine (R.run W _ [] _ kwO (R.keepG HG.out (HK0.out.trans HKW.out (FSub.refl _ _))) (R.new_ HZ0.out HKW.out) (by decide) kw_in HIN.out (by decide)).mono ?_
  rw [kw_run.1, kw_run.2.1, kw_run.2.2]
  rintro e w8 ⟨st8, v8, rfl, hz8, hi8, hk8, -⟩
  obtain ⟨z8, rfl, hone8⟩ := R.one hz8
  obtain ⟨a8, c8, rfl, hc8, hm8, -⟩ := id hi8
  have HC8 := Lib.hid (heap_alloc_new w8 (.cells #[.slice none 0 0] 28))
  have HE8 := Lib.hid hone8; have HK8 := Lib.hid ((HK0.out.trans HKW.out (FSub.refl _ _)).trans hk8 (FSub.refl _ _)); have HZ8 := Lib.hid hz8; have HI8 := Lib.hid hi8
  clear hz8 hi8 hk8 hone8 HK0 HKW HZ0 HIN
  go_wp2_with ((with_reducible refine wpList_putSt (g := w8.heap.size) (z := z8) ?_ ?_ HC8.out HE8.out ?_); exact rfl; exact rfl)
  intro W9 h9 k9
  have k89 : Keeps [] w8 W9 := ((Keeps.refl [] w8).alloc _).trans k9 (fun q hq => .inr (by simp at hq; omega))
  have HK9 := Lib.hid (HK8.out.trans k89 (FSub.refl _ _))
  have HZ9 := Lib.hid (R.new_ HZ8.out k89)
  have HI9 := Lib.hid ((HI8.out.new k89 (Nat.le_refl _)).more k89.size)
  have HS9 := Lib.hid h9
  clear h9 k9 k89 HC8 HE8 HK8 HZ8 HI8
  generalize w8.heap.size = q1 at *
  go_wp2_with ((with_reducible refine wpList_litA kwA ?_ ?_ ?_ ?_ ?_ ?_); exact rfl; exact rfl; exact rfl; decide; decide)
  intro W10 hs hk hin
  have HK10 := Lib.hid (show Keeps [] W9 W10 from hk); have HI10 := Lib.hid hin
  clear hs hk hin
  have HKB := Lib.hid (HK9.out.trans HK10.out (FSub.refl _ _))
  have HK := HKB
  have HA := Lib.hid (R.new_ HZ9.out HK10.out)
  have HSq1 := Lib.hid (HK10.out.heap HS9.out (by simp))
  have HIr := Lib.hid ((HI9.out.new HK10.out (Nat.le_refl _)).more HK10.out.size)
  have HIw := HI10
  generalize W9.heap.size = b9 at *
  clear HKB HK9 HK10 HZ9 HS9 HI9 HI10
  rw [show kwA.length = 7 from rfl] at HIr ⊢
  simp only [show kwA.length = 7 from rfl] at hc8
  go_wp2_with fail
  refine (works10_any R _ (R.keepG HG.out HK.out)).mono ?_
  rintro e y1 ⟨rfl, hk⟩
  have HAx := Lib.hid (R.new_ HA.out hk)
  have HSq1x := Lib.hid (hk.heap HSq1.out (by simp))
  have HIrx := Lib.hid ((HIr.out.new hk (Nat.le_refl _)).more hk.size)
  have HIwx := Lib.hid ((HIw.out.new hk (Nat.le_refl _)).more hk.size)
  have HKx := Lib.hid (HK.out.trans hk (FSub.refl _ _))
  clear HK HA HSq1 HIr HIw
  have HK := HKx; have HA := HAx; have HSq1 := HSq1x; have HIr := HIrx; have HIw := HIwx
  clear HKx HAx HSq1x HIrx HIwx
  clear hk
  have cq1 : y1.cell? ⟨q1, 0, none⟩ = some z8 := cell_lit HSq1.out 0 rfl
  go_wp2_with fail
  refine (has10_any R y1 (R.keepG HG.out HK.out) HA.out (by decide) (U16.nil _) (Nat.zero_le _)).mono ?_
  rintro e y2 ⟨rfl, hk⟩
  rw [decide_eq_true (rfl : ([] : List Int) = [])]
  have HAx := Lib.hid (R.new_ HA.out hk)
  have HSq1x := Lib.hid (hk.heap HSq1.out (by simp))
  have HIrx := Lib.hid ((HIr.out.new hk (Nat.le_refl _)).more hk.size)
  have HIwx := Lib.hid ((HIw.out.new hk (Nat.le_refl _)).more hk.size)
  have HKx := Lib.hid (HK.out.trans hk (FSub.refl _ _))
  clear HK HA HSq1 HIr HIw
  have HK := HKx; have HA := HAx; have HSq1 := HSq1x; have HIr := HIrx; have HIw := HIwx
  clear HKx HAx HSq1x HIrx HIwx
  clear hk cq1
  have hn := heap_alloc_new y2 (.cells #[.int .u16 5] 23)
  have hk : Keeps [] y2 (y2.alloc (.cells #[.int .u16 5] 23)) := (Keeps.refl _ _).alloc _
  have hI := U16.lit (L := [5]) (n := 1) hn rfl (by decide)
  have hZ : y2.heap.size + 1 ≤ (y2.alloc (.cells #[.int .u16 5] 23)).heap.size := Nat.le_of_eq (Array.size_push _).symm
  go_wp2_with fail
  generalize y2.alloc (.cells #[.int .u16 5] 23) = Y3 at *
  have HL1 := Lib.hid (RK.In.more hI hZ)
  have HAx := Lib.hid (R.new_ HA.out hk)
  have HSq1x := Lib.hid (hk.heap HSq1.out (by simp))
  have HIrx := Lib.hid ((HIr.out.new hk (Nat.le_refl _)).more hk.size)
  have HIwx := Lib.hid ((HIw.out.new hk (Nat.le_refl _)).more hk.size)
  have HKx := Lib.hid (HK.out.trans hk (FSub.refl _ _))
  clear HK HA HSq1 HIr HIw
  have HK := HKx; have HA := HAx; have HSq1 := HSq1x; have HIr := HIrx; have HIw := HIwx
  clear HKx HAx HSq1x HIrx HIwx
  clear hn hk hI hZ
  generalize y2.heap.size = bHL1 at *
  refine (enq10_any _ 7).mono ?_
  rintro e y4 ⟨rfl, hk⟩
  have HAx := Lib.hid (R.new_ HA.out hk)
  have HSq1x := Lib.hid (hk.heap HSq1.out (by simp))
  have HIrx := Lib.hid ((HIr.out.new hk (Nat.le_refl _)).more hk.size)
  have HIwx := Lib.hid ((HIw.out.new hk (Nat.le_refl _)).more hk.size)
  have HL1x := Lib.hid ((HL1.out.new hk (Nat.le_refl _)).more hk.size)
  have HKx := Lib.hid (HK.out.trans hk (FSub.refl _ _))
  clear HK HA HSq1 HIr HIw HL1
  have HK := HKx; have HA := HAx; have HSq1 := HSq1x; have HIr := HIrx; have HIw := HIwx; have HL1 := HL1x
  clear HKx HAx HSq1x HIrx HIwx HL1x
  clear hk
  have hn := heap_alloc_new y4 (.cells #[.int .u16 5, .int .u16 7] 23)
  have hk : Keeps [] y4 (y4.alloc (.cells #[.int .u16 5, .int .u16 7] 23)) := (Keeps.refl _ _).alloc _
  have hI := U16.lit (L := [5, 7]) (n := 2) hn rfl (by decide)
  have hZ : y4.heap.size + 1 ≤ (y4.alloc (.cells #[.int .u16 5, .int .u16 7] 23)).heap.size := Nat.le_of_eq (Array.size_push _).symm
  go_wp2_with fail
  generalize y4.alloc (.cells #[.int .u16 5, .int .u16 7] 23) = Y5 at *
  have HL2 := Lib.hid (RK.In.more hI hZ)
  have HAx := Lib.hid (R.new_ HA.out hk)
  have HSq1x := Lib.hid (hk.heap HSq1.out (by simp))
  have HIrx := Lib.hid ((HIr.out.new hk (Nat.le_refl _)).more hk.size)
  have HIwx := Lib.hid ((HIw.out.new hk (Nat.le_refl _)).more hk.size)
  have HL1x := Lib.hid ((HL1.out.new hk (Nat.le_refl _)).more hk.size)
  have HKx := Lib.hid (HK.out.trans hk (FSub.refl _ _))
  clear HK HA HSq1 HIr HIw HL1
  have HK := HKx; have HA := HAx; have HSq1 := HSq1x; have HIr := HIrx; have HIw := HIwx; have HL1 := HL1x
  clear HKx HAx HSq1x HIrx HIwx HL1x
  clear hn hk hI hZ
  generalize y4.heap.size = bHL2 at *
  refine (steps10_any R Y5 (R.keepG HG.out HK.out) (l := [5]) (m := [5, 7]) HL1.out (Nat.le_refl _) (by decide) (kwE 7) (enq_in 7 (by decide)) ⟨0, 0⟩ HL2.out (Nat.le_refl _) ⟨by decide, by decide, by decide⟩).mono ?_
  rintro e y6 ⟨rfl, hk⟩
  have HAx := Lib.hid (R.new_ HA.out hk)
  have HSq1x := Lib.hid (hk.heap HSq1.out (by simp))
  have HIrx := Lib.hid ((HIr.out.new hk (Nat.le_refl _)).more hk.size)
  have HIwx := Lib.hid ((HIw.out.new hk (Nat.le_refl _)).more hk.size)
  have HKx := Lib.hid (HK.out.trans hk (FSub.refl _ _))
  clear HK HA HSq1 HIr HIw
  have HK := HKx; have HA := HAx; have HSq1 := HSq1x; have HIr := HIrx; have HIw := HIwx
  clear HKx HAx HSq1x HIrx HIwx
  clear hk
  go_wp2_with fail
  go_loopw [5] (fun i wr => ∃ k q : Nat, i = .int .i64 k ∧ k ≤ 7 ∧ wr = y6.drewN q) (fun i _ => 7 - (intOf i).toNat)
  case atStart => exact ⟨0, 0, rfl, Nat.zero_le _, rfl⟩
  case round =>
    obtain ⟨k, q, rfl, hk, rfl⟩ := hrel
    by_cases hlt : k < 7
    · obtain ⟨g, o, rfl, -, hr⟩ := InA_at HIr.out (show k < kwA.length from hlt)
      obtain ⟨g', o', e', -, hr'⟩ := InA_at HIw.out (show k < kwA.length from hlt)
      simp only [Option.some.injEq, Addr.mk.injEq, and_true] at e'
      obtain ⟨rfl, rfl⟩ := e'
      generalize kwA[k] = r at *
      obtain ⟨rk, rv⟩ := r
      have d0 : y6.cell? ⟨g, o + k * 2, none⟩ = some (.int .u8 rk) := hr 0 _ rfl
      have d1 : y6.cell? ⟨g, o + k * 2 + 1, none⟩ = some (.int .u16 rv) := hr 1 _ rfl
      have d2 : y6.cell? ⟨b9, k * 2, none⟩ = some (.int .u8 rk) := by have h := hr' 0 _ rfl; simpa using h
      have d3 : y6.cell? ⟨b9, k * 2 + 1, none⟩ = some (.int .u16 rv) := by have h := hr' 1 _ rfl; simpa using h
      have t7 : (rk == rk) = true := by simp
      have t8 : (rv == rv) = true := by simp
      clear hr hr'
      go_wp2_with fail
      go_quiet (fail)
      go_wp2_with fail
      go_roundw
      case rel => exact ⟨k + 1, q + nq, by go_num, by omega, by simp⟩
      case measure => simp [intOf]; omega
    · obtain rfl : k = 7 := by omega
      clear hlt hk
      have hk : Keeps [] y6 (y6.drewN q) := (Keeps.refl _ _).drewN _
      generalize y6.drewN q = Y7 at *
      have HAx := Lib.hid (R.new_ HA.out hk)
      have HSq1x := Lib.hid (hk.heap HSq1.out (by simp))
      have HKx := Lib.hid (HK.out.trans hk (FSub.refl _ _))
      clear HK HA HSq1
      have HK := HKx; have HA := HAx; have HSq1 := HSq1x
      clear HKx HAx HSq1x
      clear hk
      go_wp2_with fail
      refine (show Calls Tryd.prog 19 _ Y7 _ from R.dec Y7 [0, 5, 1, 2] (R.keepG HG.out HK.out) (by decide)).mono ?_
      rw [if_neg (by decide), if_neg (by decide), show quN [0, 5, 1, 2] = [5, 258] from by decide]
      rintro e y8 ⟨st, rfl, hz, hk, -⟩
      have HAx := Lib.hid (R.new_ HA.out hk)
      have HSq1x := Lib.hid (hk.heap HSq1.out (by simp))
      have HKx := Lib.hid (HK.out.trans hk (FSub.refl _ _))
      clear HK HA HSq1
      have HK := HKx; have HA := HAx; have HSq1 := HSq1x
      clear HKx HAx HSq1x
      clear hk
      obtain ⟨zt, rfl, hone⟩ := R.one hz
      have HE := Lib.hid hone; have HT := Lib.hid hz
      clear hone hz
      have HC := Lib.hid (heap_alloc_new y8 (.cells #[.slice none 0 0] 28))
      go_wp2_with ((with_reducible refine wpList_putSt (g := y8.heap.size) (z := zt) ?_ ?_ HC.out HE.out ?_); exact rfl; exact rfl)
      intro Y9 h9 k9
      have k89 : Keeps [] y8 Y9 := ((Keeps.refl [] y8).alloc _).trans k9 (fun q hq => .inr (by simp at hq; omega))
      have HSq6 := Lib.hid h9
      have HAx := Lib.hid (R.new_ HA.out k89)
      have HSq1x := Lib.hid (k89.heap HSq1.out (by simp))
      have HTx := Lib.hid (R.new_ HT.out k89)
      have HKx := Lib.hid (HK.out.trans k89 (FSub.refl _ _))
      clear HK HA HSq1 HT
      have HK := HKx; have HA := HAx; have HSq1 := HSq1x; have HT := HTx
      clear HKx HAx HSq1x HTx
      clear h9 k9 k89 HC HE
      generalize y8.heap.size = q6 at *
      go_wp2_with fail
      refine (show Calls Tryd.prog 19 _ Y9 _ from R.dec Y9 [0] (R.keepG HG.out HK.out) (by decide)).mono ?_
      rw [if_pos (by decide), if_pos (by decide)]
      rintro e y10 ⟨st, rfl, hz, hk, -⟩
      have HAx := Lib.hid (R.new_ HA.out hk)
      have HSq1x := Lib.hid (hk.heap HSq1.out (by simp))
      have HTx := Lib.hid (R.new_ HT.out hk)
      have HSq6x := Lib.hid (hk.heap HSq6.out (by simp))
      have HKx := Lib.hid (HK.out.trans hk (FSub.refl _ _))
      clear HK HA HSq1 HT HSq6
      have HK := HKx; have HA := HAx; have HSq1 := HSq1x; have HT := HTx; have HSq6 := HSq6x
      clear HKx HAx HSq1x HTx HSq6x
      clear hk
      obtain ⟨zg, rfl, hone⟩ := R.one hz
      have HE := Lib.hid hone; have HTg := Lib.hid hz
      clear hone hz
      have HC := Lib.hid (heap_alloc_new y10 (.cells #[.slice none 0 0] 28))
      go_wp2_with ((with_reducible refine wpList_putSt (g := y10.heap.size) (z := zg) ?_ ?_ HC.out HE.out ?_); exact rfl; exact rfl)
      intro Y11 h9 k9
      have k89 : Keeps [] y10 Y11 := ((Keeps.refl [] y10).alloc _).trans k9 (fun q hq => .inr (by simp at hq; omega))
      have HSq8 := Lib.hid h9
      have HAx := Lib.hid (R.new_ HA.out k89)
      have HSq1x := Lib.hid (k89.heap HSq1.out (by simp))
      have HTx := Lib.hid (R.new_ HT.out k89)
      have HSq6x := Lib.hid (k89.heap HSq6.out (by simp))
      have HTgx := Lib.hid (R.new_ HTg.out k89)
      have HKx := Lib.hid (HK.out.trans k89 (FSub.refl _ _))
      clear HK HA HSq1 HT HSq6 HTg
      have HK := HKx; have HA := HAx; have HSq1 := HSq1x; have HT := HTx; have HSq6 := HSq6x; have HTg := HTgx
      clear HKx HAx HSq1x HTx HSq6x HTgx
      clear h9 k9 k89 HC HE
      generalize y10.heap.size = q8 at *
      have hn := heap_alloc_new Y11 (.cells #[.int .u16 5] 23)
      have hk : Keeps [] Y11 (Y11.alloc (.cells #[.int .u16 5] 23)) := (Keeps.refl _ _).alloc _
      have hI := U16.lit (L := [5]) (n := 1) hn rfl (by decide)
      have hZ : Y11.heap.size + 1 ≤ (Y11.alloc (.cells #[.int .u16 5] 23)).heap.size := Nat.le_of_eq (Array.size_push _).symm
      go_wp2_with fail
      generalize Y11.alloc (.cells #[.int .u16 5] 23) = Y12 at *
      have HL3 := Lib.hid (RK.In.more hI hZ)
      have HAx := Lib.hid (R.new_ HA.out hk)
      have HSq1x := Lib.hid (hk.heap HSq1.out (by simp))
      have HTx := Lib.hid (R.new_ HT.out hk)
      have HSq6x := Lib.hid (hk.heap HSq6.out (by simp))
      have HTgx := Lib.hid (R.new_ HTg.out hk)
      have HSq8x := Lib.hid (hk.heap HSq8.out (by simp))
      have HKx := Lib.hid (HK.out.trans hk (FSub.refl _ _))
      clear HK HA HSq1 HT HSq6 HTg HSq8
      have HK := HKx; have HA := HAx; have HSq1 := HSq1x; have HT := HTx; have HSq6 := HSq6x; have HTg := HTgx; have HSq8 := HSq8x
      clear HKx HAx HSq1x HTx HSq6x HTgx HSq8x
      clear hn hk hI hZ
      generalize Y11.heap.size = bHL3 at *
      refine (R.of Y12 Y12.heap.size _ [5] (R.keepG HG.out HK.out) HL3.out (Nat.le_refl _) (by decide)).mono ?_
      rintro e y13 ⟨st, rfl, hz, hk, -⟩
      have HAx := Lib.hid (R.new_ HA.out hk)
      have HSq1x := Lib.hid (hk.heap HSq1.out (by simp))
      have HTx := Lib.hid (R.new_ HT.out hk)
      have HSq6x := Lib.hid (hk.heap HSq6.out (by simp))
      have HTgx := Lib.hid (R.new_ HTg.out hk)
      have HSq8x := Lib.hid (hk.heap HSq8.out (by simp))
      have HKx := Lib.hid (HK.out.trans hk (FSub.refl _ _))
      clear HK HA HSq1 HT HSq6 HTg HSq8
      have HK := HKx; have HA := HAx; have HSq1 := HSq1x; have HT := HTx; have HSq6 := HSq6x; have HTg := HTgx; have HSq8 := HSq8x
      clear HKx HAx HSq1x HTx HSq6x HTgx HSq8x
      clear hk
      obtain ⟨zo, rfl, hone⟩ := R.one hz
      have HE := Lib.hid hone; have HTo := Lib.hid hz
      clear hone hz
      clear HE
      go_wp2_with fail
      refine (deq10_any _).mono ?_
      rintro e y14 ⟨rfl, hk⟩
      have HAx := Lib.hid (R.new_ HA.out hk)
      have HSq1x := Lib.hid (hk.heap HSq1.out (by simp))
      have HTx := Lib.hid (R.new_ HT.out hk)
      have HSq6x := Lib.hid (hk.heap HSq6.out (by simp))
      have HTgx := Lib.hid (R.new_ HTg.out hk)
      have HSq8x := Lib.hid (hk.heap HSq8.out (by simp))
      have HTox := Lib.hid (R.new_ HTo.out hk)
      have HKx := Lib.hid (HK.out.trans hk (FSub.refl _ _))
      clear HK HA HSq1 HT HSq6 HTg HSq8 HTo
      have HK := HKx; have HA := HAx; have HSq1 := HSq1x; have HT := HTx; have HSq6 := HSq6x; have HTg := HTgx; have HSq8 := HSq8x; have HTo := HTox
      clear HKx HAx HSq1x HTx HSq6x HTgx HSq8x HTox
      clear hk
      go_wp2_with fail
      refine (deq10_any _).mono ?_
      rintro e y15 ⟨rfl, hk⟩
      have HAx := Lib.hid (R.new_ HA.out hk)
      have HSq1x := Lib.hid (hk.heap HSq1.out (by simp))
      have HTx := Lib.hid (R.new_ HT.out hk)
      have HSq6x := Lib.hid (hk.heap HSq6.out (by simp))
      have HTgx := Lib.hid (R.new_ HTg.out hk)
      have HSq8x := Lib.hid (hk.heap HSq8.out (by simp))
      have HTox := Lib.hid (R.new_ HTo.out hk)
      have HKx := Lib.hid (HK.out.trans hk (FSub.refl _ _))
      clear HK HA HSq1 HT HSq6 HTg HSq8 HTo
      have HK := HKx; have HA := HAx; have HSq1 := HSq1x; have HT := HTx; have HSq6 := HSq6x; have HTg := HTgx; have HSq8 := HSq8x; have HTo := HTox
      clear HKx HAx HSq1x HTx HSq6x HTgx HSq8x HTox
      clear hk
      go_wp2_with ((with_reducible refine wpList_litO kwP ?_ ?_ ?_ ?_ ?_); exact rfl; exact rfl; decide; decide)
      intro Y16 hs hk hin
      have HIN := Lib.hid hin
      have HAx := Lib.hid (R.new_ HA.out hk)
      have HSq1x := Lib.hid (hk.heap HSq1.out (by simp))
      have HTx := Lib.hid (R.new_ HT.out hk)
      have HSq6x := Lib.hid (hk.heap HSq6.out (by simp))
      have HTgx := Lib.hid (R.new_ HTg.out hk)
      have HSq8x := Lib.hid (hk.heap HSq8.out (by simp))
      have HTox := Lib.hid (R.new_ HTo.out hk)
      have HKx := Lib.hid (HK.out.trans hk (FSub.refl _ _))
      clear HK HA HSq1 HT HSq6 HTg HSq8 HTo
      have HK := HKx; have HA := HAx; have HSq1 := HSq1x; have HT := HTx; have HSq6 := HSq6x; have HTg := HTgx; have HSq8 := HSq8x; have HTo := HTox
      clear HKx HAx HSq1x HTx HSq6x HTgx HSq8x HTox
      clear hs hk hin
      generalize y15.heap.size = bp at *
      go_wp2_with fail
      refine (R.run Y16 _ [5] _ kwP (R.keepG HG.out HK.out) HTo.out (by decide) kwP_in HIN.out (by decide)).mono ?_
      rw [kwP_run.1, kwP_run.2.1, kwP_run.2.2]
      rintro e y17 ⟨st, vq, rfl, hz, hi, hk, -⟩
      obtain ⟨aq, cq, rfl, hcq, hmq, -⟩ := id hi
      have HIq := Lib.hid hi
      clear hi HIN
      have HAx := Lib.hid (R.new_ HA.out hk)
      have HSq1x := Lib.hid (hk.heap HSq1.out (by simp))
      have HTx := Lib.hid (R.new_ HT.out hk)
      have HSq6x := Lib.hid (hk.heap HSq6.out (by simp))
      have HTgx := Lib.hid (R.new_ HTg.out hk)
      have HSq8x := Lib.hid (hk.heap HSq8.out (by simp))
      have HKx := Lib.hid (HK.out.trans hk (FSub.refl _ _))
      clear HK HA HSq1 HT HSq6 HTg HSq8
      have HK := HKx; have HA := HAx; have HSq1 := HSq1x; have HT := HTx; have HSq6 := HSq6x; have HTg := HTgx; have HSq8 := HSq8x
      clear HKx HAx HSq1x HTx HSq6x HTgx HSq8x
      clear hk
      obtain ⟨zu, rfl, hone⟩ := R.one hz
      have HE := Lib.hid hone; have HTu := Lib.hid hz
      clear hone hz
      have HC := Lib.hid (heap_alloc_new y17 (.cells #[.slice none 0 0] 28))
      go_wp2_with ((with_reducible refine wpList_putSt (g := y17.heap.size) (z := zu) ?_ ?_ HC.out HE.out ?_); exact rfl; exact rfl)
      intro Y18 h9 k9
      have k89 : Keeps [] y17 Y18 := ((Keeps.refl [] y17).alloc _).trans k9 (fun q hq => .inr (by simp at hq; omega))
      have HSq10 := Lib.hid h9
      have HAx := Lib.hid (R.new_ HA.out k89)
      have HSq1x := Lib.hid (k89.heap HSq1.out (by simp))
      have HTx := Lib.hid (R.new_ HT.out k89)
      have HSq6x := Lib.hid (k89.heap HSq6.out (by simp))
      have HTgx := Lib.hid (R.new_ HTg.out k89)
      have HSq8x := Lib.hid (k89.heap HSq8.out (by simp))
      have HIqx := Lib.hid ((HIq.out.new k89 (Nat.le_refl _)).more k89.size)
      have HTux := Lib.hid (R.new_ HTu.out k89)
      have HKx := Lib.hid (HK.out.trans k89 (FSub.refl _ _))
      clear HK HA HSq1 HT HSq6 HTg HSq8 HIq HTu
      have HK := HKx; have HA := HAx; have HSq1 := HSq1x; have HT := HTx; have HSq6 := HSq6x; have HTg := HTgx; have HSq8 := HSq8x; have HIq := HIqx; have HTu := HTux
      clear HKx HAx HSq1x HTx HSq6x HTgx HSq8x HIqx HTux
      clear h9 k9 k89 HC HE
      generalize y17.heap.size = q10 at *
      skip
      have hn := heap_alloc_new Y18 (.cells #[.int .u16 5] 23)
      have hk : Keeps [] Y18 (Y18.alloc (.cells #[.int .u16 5] 23)) := (Keeps.refl _ _).alloc _
      have hI := U16.lit (L := [5]) (n := 1) hn rfl (by decide)
      have hZ : Y18.heap.size + 1 ≤ (Y18.alloc (.cells #[.int .u16 5] 23)).heap.size := Nat.le_of_eq (Array.size_push _).symm
      go_wp2_with fail
      generalize Y18.alloc (.cells #[.int .u16 5] 23) = Y19 at *
      have HL4 := Lib.hid (RK.In.more hI hZ)
      have HAx := Lib.hid (R.new_ HA.out hk)
      have HSq1x := Lib.hid (hk.heap HSq1.out (by simp))
      have HTx := Lib.hid (R.new_ HT.out hk)
      have HSq6x := Lib.hid (hk.heap HSq6.out (by simp))
      have HTgx := Lib.hid (R.new_ HTg.out hk)
      have HSq8x := Lib.hid (hk.heap HSq8.out (by simp))
      have HIqx := Lib.hid ((HIq.out.new hk (Nat.le_refl _)).more hk.size)
      have HTux := Lib.hid (R.new_ HTu.out hk)
      have HSq10x := Lib.hid (hk.heap HSq10.out (by simp))
      have HKx := Lib.hid (HK.out.trans hk (FSub.refl _ _))
      clear HK HA HSq1 HT HSq6 HTg HSq8 HIq HTu HSq10
      have HK := HKx; have HA := HAx; have HSq1 := HSq1x; have HT := HTx; have HSq6 := HSq6x; have HTg := HTgx; have HSq8 := HSq8x; have HIq := HIqx; have HTu := HTux; have HSq10 := HSq10x
      clear HKx HAx HSq1x HTx HSq6x HTgx HSq8x HIqx HTux HSq10x
      clear hn hk hI hZ
      generalize Y18.heap.size = bHL4 at *
      refine (R.of Y19 Y19.heap.size _ [5] (R.keepG HG.out HK.out) HL4.out (Nat.le_refl _) (by decide)).mono ?_
      rintro e y20 ⟨st, rfl, hz, hk, -⟩
      have HAx := Lib.hid (R.new_ HA.out hk)
      have HSq1x := Lib.hid (hk.heap HSq1.out (by simp))
      have HTx := Lib.hid (R.new_ HT.out hk)
      have HSq6x := Lib.hid (hk.heap HSq6.out (by simp))
      have HTgx := Lib.hid (R.new_ HTg.out hk)
      have HSq8x := Lib.hid (hk.heap HSq8.out (by simp))
      have HIqx := Lib.hid ((HIq.out.new hk (Nat.le_refl _)).more hk.size)
      have HTux := Lib.hid (R.new_ HTu.out hk)
      have HSq10x := Lib.hid (hk.heap HSq10.out (by simp))
      have HKx := Lib.hid (HK.out.trans hk (FSub.refl _ _))
      clear HK HA HSq1 HT HSq6 HTg HSq8 HIq HTu HSq10
      have HK := HKx; have HA := HAx; have HSq1 := HSq1x; have HT := HTx; have HSq6 := HSq6x; have HTg := HTgx; have HSq8 := HSq8x; have HIq := HIqx; have HTu := HTux; have HSq10 := HSq10x
      clear HKx HAx HSq1x HTx HSq6x HTgx HSq8x HIqx HTux HSq10x
      clear hk
      obtain ⟨zp, rfl, hone⟩ := R.one hz
      have HE := Lib.hid hone; have HTp := Lib.hid hz
      clear hone hz
      clear HE
      go_wp2_with fail
      refine (show Calls Tryd.prog 12 _ y20 _ from R.step y20 _ [5] kwR (R.keepG HG.out HK.out) HTp.out (by decide) kwR_in).mono ?_
      rw [show quX [5] kwR = ([5], ⟨0, 0⟩, 10) from by decide]
      rintro e y21 ⟨st, rfl, hz, hk, -⟩
      have HAx := Lib.hid (R.new_ HA.out hk)
      have HSq1x := Lib.hid (hk.heap HSq1.out (by simp))
      have HTx := Lib.hid (R.new_ HT.out hk)
      have HSq6x := Lib.hid (hk.heap HSq6.out (by simp))
      have HTgx := Lib.hid (R.new_ HTg.out hk)
      have HSq8x := Lib.hid (hk.heap HSq8.out (by simp))
      have HIqx := Lib.hid ((HIq.out.new hk (Nat.le_refl _)).more hk.size)
      have HTux := Lib.hid (R.new_ HTu.out hk)
      have HSq10x := Lib.hid (hk.heap HSq10.out (by simp))
      have HKx := Lib.hid (HK.out.trans hk (FSub.refl _ _))
      clear HK HA HSq1 HT HSq6 HTg HSq8 HIq HTu HSq10
      have HK := HKx; have HA := HAx; have HSq1 := HSq1x; have HT := HTx; have HSq6 := HSq6x; have HTg := HTgx; have HSq8 := HSq8x; have HIq := HIqx; have HTu := HTux; have HSq10 := HSq10x
      clear HKx HAx HSq1x HTx HSq6x HTgx HSq8x HIqx HTux HSq10x
      clear hk
      simp only at hz
      obtain ⟨zv, rfl, hone⟩ := R.one hz
      have HE := Lib.hid hone; have HTv := Lib.hid hz
      clear hone hz
      have e7 : (y21.alloc (.cells #[.slice none 0 0] 28)).heap.size = y21.heap.size + 1 := Array.size_push _
      have HB7 := Lib.hid (show ((y21.alloc (.cells #[.slice none 0 0] 28)).alloc (.cells #[.int .u8 0, .int .u16 0] 31)).heap[y21.heap.size]? = some (.cells #[.slice none 0 0] 28 (0, 0)) from ((Keeps.refl [] _).alloc _).heap (heap_alloc_new y21 _) (by simp))
      have HB8 := Lib.hid (show ((y21.alloc (.cells #[.slice none 0 0] 28)).alloc (.cells #[.int .u8 0, .int .u16 0] 31)).heap[y21.heap.size + 1]? = some (.cells #[.int .u8 0, .int .u16 0] 31 (0, 0)) from by
        have h := heap_alloc_new (y21.alloc (.cells #[.slice none 0 0] 28)) (.cells #[.int .u8 0, .int .u16 0] 31)
        rwa [e7] at h)
      have HK48 := Lib.hid (show Keeps [] y21 ((y21.alloc (.cells #[.slice none 0 0] 28)).alloc (.cells #[.int .u8 0, .int .u16 0] 31)) from ((Keeps.refl _ _).alloc _).alloc _)
      clear e7
      go_wp2_with ((with_reducible refine wpList_putSt (g := y21.heap.size) (z := zv) ?_ ?_ HB7.out HE.out ?_); exact rfl; exact rfl)
      intro Y22 h5 k5
      have HS5 := Lib.hid h5; have HK5 := Lib.hid k5
      have HB58 := Lib.hid (show Y22.heap[y21.heap.size + 1]? = some (.cells (ansC ⟨0, 0⟩).toArray 31 (0, 0)) from k5.heap HB8.out (by simp))
      clear h5 k5 HB7 HB8
      go_wp2_with ((with_reducible refine wpList_putN (g := y21.heap.size + 1) (old := ⟨0, 0⟩) ⟨0, 0⟩ ?_ ?_ HB58.out ?_); exact rfl; exact rfl)
      intro Y23 h6 k6
      have k46 : Keeps [] y21 Y23 := (HK48.out.trans HK5.out (fun q hq => .inr (by simp at hq; omega))).trans k6 (fun q hq => .inr (by simp at hq; omega))
      have HSq13 := Lib.hid (show Y23.heap[y21.heap.size]? = some (.cells #[zv] 28 (0, 0)) from k6.heap HS5.out (by simp))
      have HAx := Lib.hid (R.new_ HA.out k46)
      have HSq1x := Lib.hid (k46.heap HSq1.out (by simp))
      have HTx := Lib.hid (R.new_ HT.out k46)
      have HSq6x := Lib.hid (k46.heap HSq6.out (by simp))
      have HTgx := Lib.hid (R.new_ HTg.out k46)
      have HSq8x := Lib.hid (k46.heap HSq8.out (by simp))
      have HIqx := Lib.hid ((HIq.out.new k46 (Nat.le_refl _)).more k46.size)
      have HTux := Lib.hid (R.new_ HTu.out k46)
      have HSq10x := Lib.hid (k46.heap HSq10.out (by simp))
      have HTvx := Lib.hid (R.new_ HTv.out k46)
      have HKx := Lib.hid (HK.out.trans k46 (FSub.refl _ _))
      clear HK HA HSq1 HT HSq6 HTg HSq8 HIq HTu HSq10 HTv
      have HK := HKx; have HA := HAx; have HSq1 := HSq1x; have HT := HTx; have HSq6 := HSq6x; have HTg := HTgx; have HSq8 := HSq8x; have HIq := HIqx; have HTu := HTux; have HSq10 := HSq10x; have HTv := HTvx
      clear HKx HAx HSq1x HTx HSq6x HTgx HSq8x HIqx HTux HSq10x HTvx
      clear h6 k6 k46 HS5 HK5 HB58 HK48 HE
      generalize y21.heap.size = q13 at *
      go_wp2_with fail
      refine (R.new Y23 (R.keepG HG.out HK.out)).mono ?_
      rintro e y24 ⟨st, rfl, hz, hk, -⟩
      have HAx := Lib.hid (R.new_ HA.out hk)
      have HSq1x := Lib.hid (hk.heap HSq1.out (by simp))
      have HTx := Lib.hid (R.new_ HT.out hk)
      have HSq6x := Lib.hid (hk.heap HSq6.out (by simp))
      have HTgx := Lib.hid (R.new_ HTg.out hk)
      have HSq8x := Lib.hid (hk.heap HSq8.out (by simp))
      have HIqx := Lib.hid ((HIq.out.new hk (Nat.le_refl _)).more hk.size)
      have HTux := Lib.hid (R.new_ HTu.out hk)
      have HSq10x := Lib.hid (hk.heap HSq10.out (by simp))
      have HTvx := Lib.hid (R.new_ HTv.out hk)
      have HSq13x := Lib.hid (hk.heap HSq13.out (by simp))
      have HKx := Lib.hid (HK.out.trans hk (FSub.refl _ _))
      clear HK HA HSq1 HT HSq6 HTg HSq8 HIq HTu HSq10 HTv HSq13
      have HK := HKx; have HA := HAx; have HSq1 := HSq1x; have HT := HTx; have HSq6 := HSq6x; have HTg := HTgx; have HSq8 := HSq8x; have HIq := HIqx; have HTu := HTux; have HSq10 := HSq10x; have HTv := HTvx; have HSq13 := HSq13x
      clear HKx HAx HSq1x HTx HSq6x HTgx HSq8x HIqx HTux HSq10x HTvx HSq13x
      clear hk
      obtain ⟨zn, rfl, hone⟩ := R.one hz
      have HE := Lib.hid hone; have HTn := Lib.hid hz
      clear hone hz
      clear HE
      go_wp2_with fail
      refine (show Calls Tryd.prog 12 _ y24 _ from R.step y24 _ [] ⟨5, 0, 0, 1, 0⟩ (R.keepG HG.out HK.out) HTn.out (by decide) (by constructor <;> decide)).mono ?_
      rw [show quX [] ⟨5, 0, 0, 1, 0⟩ = ([], ⟨0, 0⟩, 10) from by decide]
      rintro e y25 ⟨st, rfl, hz, hk, -⟩
      have HAx := Lib.hid (R.new_ HA.out hk)
      have HSq1x := Lib.hid (hk.heap HSq1.out (by simp))
      have HTx := Lib.hid (R.new_ HT.out hk)
      have HSq6x := Lib.hid (hk.heap HSq6.out (by simp))
      have HTgx := Lib.hid (R.new_ HTg.out hk)
      have HSq8x := Lib.hid (hk.heap HSq8.out (by simp))
      have HIqx := Lib.hid ((HIq.out.new hk (Nat.le_refl _)).more hk.size)
      have HTux := Lib.hid (R.new_ HTu.out hk)
      have HSq10x := Lib.hid (hk.heap HSq10.out (by simp))
      have HTvx := Lib.hid (R.new_ HTv.out hk)
      have HSq13x := Lib.hid (hk.heap HSq13.out (by simp))
      have HKx := Lib.hid (HK.out.trans hk (FSub.refl _ _))
      clear HK HA HSq1 HT HSq6 HTg HSq8 HIq HTu HSq10 HTv HSq13
      have HK := HKx; have HA := HAx; have HSq1 := HSq1x; have HT := HTx; have HSq6 := HSq6x; have HTg := HTgx; have HSq8 := HSq8x; have HIq := HIqx; have HTu := HTux; have HSq10 := HSq10x; have HTv := HTvx; have HSq13 := HSq13x
      clear HKx HAx HSq1x HTx HSq6x HTgx HSq8x HIqx HTux HSq10x HTvx HSq13x
      clear hk
      simp only at hz
      obtain ⟨zm, rfl, hone⟩ := R.one hz
      have HE := Lib.hid hone; have HTm := Lib.hid hz
      clear hone hz
      have e7 : (y25.alloc (.cells #[.slice none 0 0] 28)).heap.size = y25.heap.size + 1 := Array.size_push _
      have HB7 := Lib.hid (show ((y25.alloc (.cells #[.slice none 0 0] 28)).alloc (.cells #[.int .u8 0, .int .u16 0] 31)).heap[y25.heap.size]? = some (.cells #[.slice none 0 0] 28 (0, 0)) from ((Keeps.refl [] _).alloc _).heap (heap_alloc_new y25 _) (by simp))
      have HB8 := Lib.hid (show ((y25.alloc (.cells #[.slice none 0 0] 28)).alloc (.cells #[.int .u8 0, .int .u16 0] 31)).heap[y25.heap.size + 1]? = some (.cells #[.int .u8 0, .int .u16 0] 31 (0, 0)) from by
        have h := heap_alloc_new (y25.alloc (.cells #[.slice none 0 0] 28)) (.cells #[.int .u8 0, .int .u16 0] 31)
        rwa [e7] at h)
      have HK48 := Lib.hid (show Keeps [] y25 ((y25.alloc (.cells #[.slice none 0 0] 28)).alloc (.cells #[.int .u8 0, .int .u16 0] 31)) from ((Keeps.refl _ _).alloc _).alloc _)
      clear e7
      go_wp2_with ((with_reducible refine wpList_putSt (g := y25.heap.size) (z := zm) ?_ ?_ HB7.out HE.out ?_); exact rfl; exact rfl)
      intro Y26 h5 k5
      have HS5 := Lib.hid h5; have HK5 := Lib.hid k5
      have HB58 := Lib.hid (show Y26.heap[y25.heap.size + 1]? = some (.cells (ansC ⟨0, 0⟩).toArray 31 (0, 0)) from k5.heap HB8.out (by simp))
      clear h5 k5 HB7 HB8
      go_wp2_with ((with_reducible refine wpList_putN (g := y25.heap.size + 1) (old := ⟨0, 0⟩) ⟨0, 0⟩ ?_ ?_ HB58.out ?_); exact rfl; exact rfl)
      intro Y27 h6 k6
      have k46 : Keeps [] y25 Y27 := (HK48.out.trans HK5.out (fun q hq => .inr (by simp at hq; omega))).trans k6 (fun q hq => .inr (by simp at hq; omega))
      have HSq16 := Lib.hid (show Y27.heap[y25.heap.size]? = some (.cells #[zm] 28 (0, 0)) from k6.heap HS5.out (by simp))
      have HAx := Lib.hid (R.new_ HA.out k46)
      have HSq1x := Lib.hid (k46.heap HSq1.out (by simp))
      have HTx := Lib.hid (R.new_ HT.out k46)
      have HSq6x := Lib.hid (k46.heap HSq6.out (by simp))
      have HTgx := Lib.hid (R.new_ HTg.out k46)
      have HSq8x := Lib.hid (k46.heap HSq8.out (by simp))
      have HIqx := Lib.hid ((HIq.out.new k46 (Nat.le_refl _)).more k46.size)
      have HTux := Lib.hid (R.new_ HTu.out k46)
      have HSq10x := Lib.hid (k46.heap HSq10.out (by simp))
      have HTvx := Lib.hid (R.new_ HTv.out k46)
      have HSq13x := Lib.hid (k46.heap HSq13.out (by simp))
      have HTmx := Lib.hid (R.new_ HTm.out k46)
      have HKx := Lib.hid (HK.out.trans k46 (FSub.refl _ _))
      clear HK HA HSq1 HT HSq6 HTg HSq8 HIq HTu HSq10 HTv HSq13 HTm
      have HK := HKx; have HA := HAx; have HSq1 := HSq1x; have HT := HTx; have HSq6 := HSq6x; have HTg := HTgx; have HSq8 := HSq8x; have HIq := HIqx; have HTu := HTux; have HSq10 := HSq10x; have HTv := HTvx; have HSq13 := HSq13x; have HTm := HTmx
      clear HKx HAx HSq1x HTx HSq6x HTgx HSq8x HIqx HTux HSq10x HTvx HSq13x HTmx
      clear h6 k6 k46 HS5 HK5 HB58 HK48 HE
      generalize y25.heap.size = q16 at *
      have hn := heap_alloc_new Y27 (.cells #[.int .u16 5, .int .u16 258] 23)
      have hk : Keeps [] Y27 (Y27.alloc (.cells #[.int .u16 5, .int .u16 258] 23)) := (Keeps.refl _ _).alloc _
      have hI := U16.lit (L := [5, 258]) (n := 2) hn rfl (by decide)
      have hZ : Y27.heap.size + 1 ≤ (Y27.alloc (.cells #[.int .u16 5, .int .u16 258] 23)).heap.size := Nat.le_of_eq (Array.size_push _).symm
      go_wp2_with fail
      generalize Y27.alloc (.cells #[.int .u16 5, .int .u16 258] 23) = Y28 at *
      have HL5 := Lib.hid (RK.In.more hI hZ)
      have HAx := Lib.hid (R.new_ HA.out hk)
      have HSq1x := Lib.hid (hk.heap HSq1.out (by simp))
      have HTx := Lib.hid (R.new_ HT.out hk)
      have HSq6x := Lib.hid (hk.heap HSq6.out (by simp))
      have HTgx := Lib.hid (R.new_ HTg.out hk)
      have HSq8x := Lib.hid (hk.heap HSq8.out (by simp))
      have HIqx := Lib.hid ((HIq.out.new hk (Nat.le_refl _)).more hk.size)
      have HTux := Lib.hid (R.new_ HTu.out hk)
      have HSq10x := Lib.hid (hk.heap HSq10.out (by simp))
      have HTvx := Lib.hid (R.new_ HTv.out hk)
      have HSq13x := Lib.hid (hk.heap HSq13.out (by simp))
      have HTmx := Lib.hid (R.new_ HTm.out hk)
      have HSq16x := Lib.hid (hk.heap HSq16.out (by simp))
      have HKx := Lib.hid (HK.out.trans hk (FSub.refl _ _))
      clear HK HA HSq1 HT HSq6 HTg HSq8 HIq HTu HSq10 HTv HSq13 HTm HSq16
      have HK := HKx; have HA := HAx; have HSq1 := HSq1x; have HT := HTx; have HSq6 := HSq6x; have HTg := HTgx; have HSq8 := HSq8x; have HIq := HIqx; have HTu := HTux; have HSq10 := HSq10x; have HTv := HTvx; have HSq13 := HSq13x; have HTm := HTmx; have HSq16 := HSq16x
      clear HKx HAx HSq1x HTx HSq6x HTgx HSq8x HIqx HTux HSq10x HTvx HSq13x HTmx HSq16x
      clear hn hk hI hZ
      generalize Y27.heap.size = bHL5 at *
      refine (R.of Y28 Y28.heap.size _ [5, 258] (R.keepG HG.out HK.out) HL5.out (Nat.le_refl _) (by decide)).mono ?_
      rintro e y29 ⟨st, rfl, hz, hk, -⟩
      have HAx := Lib.hid (R.new_ HA.out hk)
      have HSq1x := Lib.hid (hk.heap HSq1.out (by simp))
      have HTx := Lib.hid (R.new_ HT.out hk)
      have HSq6x := Lib.hid (hk.heap HSq6.out (by simp))
      have HTgx := Lib.hid (R.new_ HTg.out hk)
      have HSq8x := Lib.hid (hk.heap HSq8.out (by simp))
      have HIqx := Lib.hid ((HIq.out.new hk (Nat.le_refl _)).more hk.size)
      have HTux := Lib.hid (R.new_ HTu.out hk)
      have HSq10x := Lib.hid (hk.heap HSq10.out (by simp))
      have HTvx := Lib.hid (R.new_ HTv.out hk)
      have HSq13x := Lib.hid (hk.heap HSq13.out (by simp))
      have HTmx := Lib.hid (R.new_ HTm.out hk)
      have HSq16x := Lib.hid (hk.heap HSq16.out (by simp))
      have HKx := Lib.hid (HK.out.trans hk (FSub.refl _ _))
      clear HK HA HSq1 HT HSq6 HTg HSq8 HIq HTu HSq10 HTv HSq13 HTm HSq16
      have HK := HKx; have HA := HAx; have HSq1 := HSq1x; have HT := HTx; have HSq6 := HSq6x; have HTg := HTgx; have HSq8 := HSq8x; have HIq := HIqx; have HTu := HTux; have HSq10 := HSq10x; have HTv := HTvx; have HSq13 := HSq13x; have HTm := HTmx; have HSq16 := HSq16x
      clear HKx HAx HSq1x HTx HSq6x HTgx HSq8x HIqx HTux HSq10x HTvx HSq13x HTmx HSq16x
      clear hk
      obtain ⟨ze, rfl, hone⟩ := R.one hz
      have HE := Lib.hid hone; have HTe := Lib.hid hz
      clear hone hz
      clear HE
      go_wp2_with fail
      refine (R.enc y29 _ [5, 258] (R.keepG HG.out HK.out) HTe.out (by decide) (by intro v hv; simp at hv; rcases hv with rfl | rfl <;> decide)).mono ?_
      rw [show bs (quB [5, 258]) = ⟨#[0, 5, 1, 2]⟩ from by rw [show quB [5, 258] = [0, 5, 1, 2] from by decide]; rfl]
      rintro e y30 ⟨rfl, hk⟩
      have HAx := Lib.hid (R.new_ HA.out hk)
      have HSq1x := Lib.hid (hk.heap HSq1.out (by simp))
      have HTx := Lib.hid (R.new_ HT.out hk)
      have HSq6x := Lib.hid (hk.heap HSq6.out (by simp))
      have HTgx := Lib.hid (R.new_ HTg.out hk)
      have HSq8x := Lib.hid (hk.heap HSq8.out (by simp))
      have HIqx := Lib.hid ((HIq.out.new hk (Nat.le_refl _)).more hk.size)
      have HTux := Lib.hid (R.new_ HTu.out hk)
      have HSq10x := Lib.hid (hk.heap HSq10.out (by simp))
      have HTvx := Lib.hid (R.new_ HTv.out hk)
      have HSq13x := Lib.hid (hk.heap HSq13.out (by simp))
      have HTmx := Lib.hid (R.new_ HTm.out hk)
      have HSq16x := Lib.hid (hk.heap HSq16.out (by simp))
      have HKx := Lib.hid (HK.out.trans hk (FSub.refl _ _))
      clear HK HA HSq1 HT HSq6 HTg HSq8 HIq HTu HSq10 HTv HSq13 HTm HSq16
      have HK := HKx; have HA := HAx; have HSq1 := HSq1x; have HT := HTx; have HSq6 := HSq6x; have HTg := HTgx; have HSq8 := HSq8x; have HIq := HIqx; have HTu := HTux; have HSq10 := HSq10x; have HTv := HTvx; have HSq13 := HSq13x; have HTm := HTmx; have HSq16 := HSq16x
      clear HKx HAx HSq1x HTx HSq6x HTgx HSq8x HIqx HTux HSq10x HTvx HSq13x HTmx HSq16x
      clear hk
      have ts : ((⟨#[0, 5, 1, 2]⟩ : ByteArray).toList == (⟨#[0, 5, 1, 2]⟩ : ByteArray).toList) = true := by simp
      have cq6 : y30.cell? ⟨q6, 0, none⟩ = some zt := cell_lit HSq6.out 0 rfl
      have hn := heap_alloc_new y30 (.cells #[.int .u16 5, .int .u16 258] 23)
      have hk : Keeps [] y30 (y30.alloc (.cells #[.int .u16 5, .int .u16 258] 23)) := (Keeps.refl _ _).alloc _
      have hI := U16.lit (L := [5, 258]) (n := 2) hn rfl (by decide)
      have hZ : y30.heap.size + 1 ≤ (y30.alloc (.cells #[.int .u16 5, .int .u16 258] 23)).heap.size := Nat.le_of_eq (Array.size_push _).symm
      go_wp2_with fail
      generalize y30.alloc (.cells #[.int .u16 5, .int .u16 258] 23) = Y31 at *
      have HL6 := Lib.hid (RK.In.more hI hZ)
      have HAx := Lib.hid (R.new_ HA.out hk)
      have HSq1x := Lib.hid (hk.heap HSq1.out (by simp))
      have HTx := Lib.hid (R.new_ HT.out hk)
      have HSq6x := Lib.hid (hk.heap HSq6.out (by simp))
      have HTgx := Lib.hid (R.new_ HTg.out hk)
      have HSq8x := Lib.hid (hk.heap HSq8.out (by simp))
      have HIqx := Lib.hid ((HIq.out.new hk (Nat.le_refl _)).more hk.size)
      have HTux := Lib.hid (R.new_ HTu.out hk)
      have HSq10x := Lib.hid (hk.heap HSq10.out (by simp))
      have HTvx := Lib.hid (R.new_ HTv.out hk)
      have HSq13x := Lib.hid (hk.heap HSq13.out (by simp))
      have HTmx := Lib.hid (R.new_ HTm.out hk)
      have HSq16x := Lib.hid (hk.heap HSq16.out (by simp))
      have HKx := Lib.hid (HK.out.trans hk (FSub.refl _ _))
      clear HK HA HSq1 HT HSq6 HTg HSq8 HIq HTu HSq10 HTv HSq13 HTm HSq16
      have HK := HKx; have HA := HAx; have HSq1 := HSq1x; have HT := HTx; have HSq6 := HSq6x; have HTg := HTgx; have HSq8 := HSq8x; have HIq := HIqx; have HTu := HTux; have HSq10 := HSq10x; have HTv := HTvx; have HSq13 := HSq13x; have HTm := HTmx; have HSq16 := HSq16x
      clear HKx HAx HSq1x HTx HSq6x HTgx HSq8x HIqx HTux HSq10x HTvx HSq13x HTmx HSq16x
      clear hn hk hI hZ
      generalize y30.heap.size = bHL6 at *
      clear cq6
      refine (has10_any R Y31 (R.keepG HG.out HK.out) HT.out (by decide) HL6.out (Nat.le_refl _)).mono ?_
      rintro e y32 ⟨rfl, hk⟩
      rw [decide_eq_true (rfl : ([5, 258] : List Int) = [5, 258])]
      have HAx := Lib.hid (R.new_ HA.out hk)
      have HSq1x := Lib.hid (hk.heap HSq1.out (by simp))
      have HTx := Lib.hid (R.new_ HT.out hk)
      have HSq6x := Lib.hid (hk.heap HSq6.out (by simp))
      have HTgx := Lib.hid (R.new_ HTg.out hk)
      have HSq8x := Lib.hid (hk.heap HSq8.out (by simp))
      have HIqx := Lib.hid ((HIq.out.new hk (Nat.le_refl _)).more hk.size)
      have HTux := Lib.hid (R.new_ HTu.out hk)
      have HSq10x := Lib.hid (hk.heap HSq10.out (by simp))
      have HTvx := Lib.hid (R.new_ HTv.out hk)
      have HSq13x := Lib.hid (hk.heap HSq13.out (by simp))
      have HTmx := Lib.hid (R.new_ HTm.out hk)
      have HSq16x := Lib.hid (hk.heap HSq16.out (by simp))
      have HKx := Lib.hid (HK.out.trans hk (FSub.refl _ _))
      clear HK HA HSq1 HT HSq6 HTg HSq8 HIq HTu HSq10 HTv HSq13 HTm HSq16
      have HK := HKx; have HA := HAx; have HSq1 := HSq1x; have HT := HTx; have HSq6 := HSq6x; have HTg := HTgx; have HSq8 := HSq8x; have HIq := HIqx; have HTu := HTux; have HSq10 := HSq10x; have HTv := HTvx; have HSq13 := HSq13x; have HTm := HTmx; have HSq16 := HSq16x
      clear HKx HAx HSq1x HTx HSq6x HTgx HSq8x HIqx HTux HSq10x HTvx HSq13x HTmx HSq16x
      clear hk
      have cq10 : y32.cell? ⟨q10, 0, none⟩ = some zu := cell_lit HSq10.out 0 rfl
      go_wp2_with fail
      refine (has10_any R y32 (R.keepG HG.out HK.out) HTu.out (by decide) (U16.nil _) (Nat.zero_le _)).mono ?_
      rintro e y33 ⟨rfl, hk⟩
      rw [decide_eq_true (rfl : ([] : List Int) = [])]
      have HAx := Lib.hid (R.new_ HA.out hk)
      have HSq1x := Lib.hid (hk.heap HSq1.out (by simp))
      have HTx := Lib.hid (R.new_ HT.out hk)
      have HSq6x := Lib.hid (hk.heap HSq6.out (by simp))
      have HTgx := Lib.hid (R.new_ HTg.out hk)
      have HSq8x := Lib.hid (hk.heap HSq8.out (by simp))
      have HIqx := Lib.hid ((HIq.out.new hk (Nat.le_refl _)).more hk.size)
      have HTux := Lib.hid (R.new_ HTu.out hk)
      have HSq10x := Lib.hid (hk.heap HSq10.out (by simp))
      have HTvx := Lib.hid (R.new_ HTv.out hk)
      have HSq13x := Lib.hid (hk.heap HSq13.out (by simp))
      have HTmx := Lib.hid (R.new_ HTm.out hk)
      have HSq16x := Lib.hid (hk.heap HSq16.out (by simp))
      have HKx := Lib.hid (HK.out.trans hk (FSub.refl _ _))
      clear HK HA HSq1 HT HSq6 HTg HSq8 HIq HTu HSq10 HTv HSq13 HTm HSq16
      have HK := HKx; have HA := HAx; have HSq1 := HSq1x; have HT := HTx; have HSq6 := HSq6x; have HTg := HTgx; have HSq8 := HSq8x; have HIq := HIqx; have HTu := HTux; have HSq10 := HSq10x; have HTv := HTvx; have HSq13 := HSq13x; have HTm := HTmx; have HSq16 := HSq16x
      clear HKx HAx HSq1x HTx HSq6x HTgx HSq8x HIqx HTux HSq10x HTvx HSq13x HTmx HSq16x
      clear hk cq10
      obtain ⟨g, o, rfl, -, hr⟩ := InA_at HIq.out (show 0 < [(⟨1, 5⟩ : Ans)].length by decide)
      have d0 : y33.cell? ⟨g, o, none⟩ = some (.int .u8 1) := by have h := hr 0 _ rfl; simpa using h
      have d1 : y33.cell? ⟨g, o + 1, none⟩ = some (.int .u16 5) := by have h := hr 1 _ rfl; simpa using h
      clear hr
      have cq13 : y33.cell? ⟨q13, 0, none⟩ = some zv := cell_lit HSq13.out 0 rfl
      have hn := heap_alloc_new y33 (.cells #[.int .u16 5] 23)
      have hk : Keeps [] y33 (y33.alloc (.cells #[.int .u16 5] 23)) := (Keeps.refl _ _).alloc _
      have hI := U16.lit (L := [5]) (n := 1) hn rfl (by decide)
      have hZ : y33.heap.size + 1 ≤ (y33.alloc (.cells #[.int .u16 5] 23)).heap.size := Nat.le_of_eq (Array.size_push _).symm
      go_wp2_with fail
      generalize y33.alloc (.cells #[.int .u16 5] 23) = Y34 at *
      have HL7 := Lib.hid (RK.In.more hI hZ)
      have HAx := Lib.hid (R.new_ HA.out hk)
      have HSq1x := Lib.hid (hk.heap HSq1.out (by simp))
      have HTx := Lib.hid (R.new_ HT.out hk)
      have HSq6x := Lib.hid (hk.heap HSq6.out (by simp))
      have HTgx := Lib.hid (R.new_ HTg.out hk)
      have HSq8x := Lib.hid (hk.heap HSq8.out (by simp))
      have HIqx := Lib.hid ((HIq.out.new hk (Nat.le_refl _)).more hk.size)
      have HTux := Lib.hid (R.new_ HTu.out hk)
      have HSq10x := Lib.hid (hk.heap HSq10.out (by simp))
      have HTvx := Lib.hid (R.new_ HTv.out hk)
      have HSq13x := Lib.hid (hk.heap HSq13.out (by simp))
      have HTmx := Lib.hid (R.new_ HTm.out hk)
      have HSq16x := Lib.hid (hk.heap HSq16.out (by simp))
      have HKx := Lib.hid (HK.out.trans hk (FSub.refl _ _))
      clear HK HA HSq1 HT HSq6 HTg HSq8 HIq HTu HSq10 HTv HSq13 HTm HSq16
      have HK := HKx; have HA := HAx; have HSq1 := HSq1x; have HT := HTx; have HSq6 := HSq6x; have HTg := HTgx; have HSq8 := HSq8x; have HIq := HIqx; have HTu := HTux; have HSq10 := HSq10x; have HTv := HTvx; have HSq13 := HSq13x; have HTm := HTmx; have HSq16 := HSq16x
      clear HKx HAx HSq1x HTx HSq6x HTgx HSq8x HIqx HTux HSq10x HTvx HSq13x HTmx HSq16x
      clear hn hk hI hZ
      generalize y33.heap.size = bHL7 at *
      clear cq13
      refine (has10_any R Y34 (R.keepG HG.out HK.out) HTv.out (by decide) HL7.out (Nat.le_refl _)).mono ?_
      rintro e y35 ⟨rfl, hk⟩
      rw [decide_eq_true (rfl : ([5] : List Int) = [5])]
      have HAx := Lib.hid (R.new_ HA.out hk)
      have HSq1x := Lib.hid (hk.heap HSq1.out (by simp))
      have HTx := Lib.hid (R.new_ HT.out hk)
      have HSq6x := Lib.hid (hk.heap HSq6.out (by simp))
      have HTgx := Lib.hid (R.new_ HTg.out hk)
      have HSq8x := Lib.hid (hk.heap HSq8.out (by simp))
      have HIqx := Lib.hid ((HIq.out.new hk (Nat.le_refl _)).more hk.size)
      have HTux := Lib.hid (R.new_ HTu.out hk)
      have HSq10x := Lib.hid (hk.heap HSq10.out (by simp))
      have HTvx := Lib.hid (R.new_ HTv.out hk)
      have HSq13x := Lib.hid (hk.heap HSq13.out (by simp))
      have HTmx := Lib.hid (R.new_ HTm.out hk)
      have HSq16x := Lib.hid (hk.heap HSq16.out (by simp))
      have HKx := Lib.hid (HK.out.trans hk (FSub.refl _ _))
      clear HK HA HSq1 HT HSq6 HTg HSq8 HIq HTu HSq10 HTv HSq13 HTm HSq16
      have HK := HKx; have HA := HAx; have HSq1 := HSq1x; have HT := HTx; have HSq6 := HSq6x; have HTg := HTgx; have HSq8 := HSq8x; have HIq := HIqx; have HTu := HTux; have HSq10 := HSq10x; have HTv := HTvx; have HSq13 := HSq13x; have HTm := HTmx; have HSq16 := HSq16x
      clear HKx HAx HSq1x HTx HSq6x HTgx HSq8x HIqx HTux HSq10x HTvx HSq13x HTmx HSq16x
      clear hk
      go_wp2_with fail
      refine (R.new y35 (R.keepG HG.out HK.out)).mono ?_
      rintro e y36 ⟨st, rfl, hz, hk, -⟩
      have HAx := Lib.hid (R.new_ HA.out hk)
      have HSq1x := Lib.hid (hk.heap HSq1.out (by simp))
      have HTx := Lib.hid (R.new_ HT.out hk)
      have HSq6x := Lib.hid (hk.heap HSq6.out (by simp))
      have HTgx := Lib.hid (R.new_ HTg.out hk)
      have HSq8x := Lib.hid (hk.heap HSq8.out (by simp))
      have HIqx := Lib.hid ((HIq.out.new hk (Nat.le_refl _)).more hk.size)
      have HTux := Lib.hid (R.new_ HTu.out hk)
      have HSq10x := Lib.hid (hk.heap HSq10.out (by simp))
      have HTvx := Lib.hid (R.new_ HTv.out hk)
      have HSq13x := Lib.hid (hk.heap HSq13.out (by simp))
      have HTmx := Lib.hid (R.new_ HTm.out hk)
      have HSq16x := Lib.hid (hk.heap HSq16.out (by simp))
      have HKx := Lib.hid (HK.out.trans hk (FSub.refl _ _))
      clear HK HA HSq1 HT HSq6 HTg HSq8 HIq HTu HSq10 HTv HSq13 HTm HSq16
      have HK := HKx; have HA := HAx; have HSq1 := HSq1x; have HT := HTx; have HSq6 := HSq6x; have HTg := HTgx; have HSq8 := HSq8x; have HIq := HIqx; have HTu := HTux; have HSq10 := HSq10x; have HTv := HTvx; have HSq13 := HSq13x; have HTm := HTmx; have HSq16 := HSq16x
      clear HKx HAx HSq1x HTx HSq6x HTgx HSq8x HIqx HTux HSq10x HTvx HSq13x HTmx HSq16x
      clear hk
      obtain ⟨zw, rfl, hone⟩ := R.one hz
      have HE := Lib.hid hone; have HTw := Lib.hid hz
      clear hone hz
      clear HE
      go_wp2_with fail
      refine (R.same y36 _ [] _ [] (R.keepG HG.out HK.out) HTw.out (R.zero _) (by decide) (by decide)).mono ?_
      rintro e y37 ⟨rfl, hk⟩
      rw [decide_eq_true (rfl : ([] : List Int) = [])]
      have HAx := Lib.hid (R.new_ HA.out hk)
      have HSq1x := Lib.hid (hk.heap HSq1.out (by simp))
      have HTx := Lib.hid (R.new_ HT.out hk)
      have HSq6x := Lib.hid (hk.heap HSq6.out (by simp))
      have HTgx := Lib.hid (R.new_ HTg.out hk)
      have HSq8x := Lib.hid (hk.heap HSq8.out (by simp))
      have HIqx := Lib.hid ((HIq.out.new hk (Nat.le_refl _)).more hk.size)
      have HTux := Lib.hid (R.new_ HTu.out hk)
      have HSq10x := Lib.hid (hk.heap HSq10.out (by simp))
      have HTvx := Lib.hid (R.new_ HTv.out hk)
      have HSq13x := Lib.hid (hk.heap HSq13.out (by simp))
      have HTmx := Lib.hid (R.new_ HTm.out hk)
      have HSq16x := Lib.hid (hk.heap HSq16.out (by simp))
      have HTwx := Lib.hid (R.new_ HTw.out hk)
      have HKx := Lib.hid (HK.out.trans hk (FSub.refl _ _))
      clear HK HA HSq1 HT HSq6 HTg HSq8 HIq HTu HSq10 HTv HSq13 HTm HSq16 HTw
      have HK := HKx; have HA := HAx; have HSq1 := HSq1x; have HT := HTx; have HSq6 := HSq6x; have HTg := HTgx; have HSq8 := HSq8x; have HIq := HIqx; have HTu := HTux; have HSq10 := HSq10x; have HTv := HTvx; have HSq13 := HSq13x; have HTm := HTmx; have HSq16 := HSq16x; have HTw := HTwx
      clear HKx HAx HSq1x HTx HSq6x HTgx HSq8x HIqx HTux HSq10x HTvx HSq13x HTmx HSq16x HTwx
      clear hk
      go_wp2_with fail
      refine (works10_any R _ (R.keepG HG.out HK.out)).mono ?_
      rintro e y38 ⟨rfl, hk⟩
      have HAx := Lib.hid (R.new_ HA.out hk)
      have HSq1x := Lib.hid (hk.heap HSq1.out (by simp))
      have HTx := Lib.hid (R.new_ HT.out hk)
      have HSq6x := Lib.hid (hk.heap HSq6.out (by simp))
      have HTgx := Lib.hid (R.new_ HTg.out hk)
      have HSq8x := Lib.hid (hk.heap HSq8.out (by simp))
      have HIqx := Lib.hid ((HIq.out.new hk (Nat.le_refl _)).more hk.size)
      have HTux := Lib.hid (R.new_ HTu.out hk)
      have HSq10x := Lib.hid (hk.heap HSq10.out (by simp))
      have HTvx := Lib.hid (R.new_ HTv.out hk)
      have HSq13x := Lib.hid (hk.heap HSq13.out (by simp))
      have HTmx := Lib.hid (R.new_ HTm.out hk)
      have HSq16x := Lib.hid (hk.heap HSq16.out (by simp))
      have HTwx := Lib.hid (R.new_ HTw.out hk)
      have HKx := Lib.hid (HK.out.trans hk (FSub.refl _ _))
      clear HK HA HSq1 HT HSq6 HTg HSq8 HIq HTu HSq10 HTv HSq13 HTm HSq16 HTw
      have HK := HKx; have HA := HAx; have HSq1 := HSq1x; have HT := HTx; have HSq6 := HSq6x; have HTg := HTgx; have HSq8 := HSq8x; have HIq := HIqx; have HTu := HTux; have HSq10 := HSq10x; have HTv := HTvx; have HSq13 := HSq13x; have HTm := HTmx; have HSq16 := HSq16x; have HTw := HTwx
      clear HKx HAx HSq1x HTx HSq6x HTgx HSq8x HIqx HTux HSq10x HTvx HSq13x HTmx HSq16x HTwx
      clear hk
      go_wp2_with fail
      go_ret
      exact ⟨rfl, HK.out⟩
end Go.Proofs.YtaicampenpkneaaDoor
