/-
  An event as data.
-/
import Derived.Deep.Slices
import Derived.Deep.Fields
import Derived.Test.YtlaccndjlfpjbaaGreatDoorC05
import Derived.Test.YtlaccndjlfpjbaaGreatDoorC09
set_option linter.unusedSimpArgs false
set_option linter.unusedVariables false
namespace Go.Proofs.YtlaccndjlfpjbaaGreatDoor
open Go.ChangeShapes Go.WideShapes Go.ChangeAt Go.RowKit
open Go.Joins Go.Deep
theorem laidOut0 : laidOutB Tryz.prog = true := by kernel_rfl
theorem spot_none {w : World} {a : Addr} {v : Value} (h : w.cell? a = some v) : a.spot = none := by
  unfold World.cell? at h
  split at h
  · split at h
    · cases h
    · rename_i hs
      simpa using hs
  · cases h
theorem add_none (a : Addr) : a.add 0 = a := by simp [Addr.add]
theorem add_at (b o j : Nat) : ((⟨b, o, none⟩ : Addr).add j) = ⟨b, o + j, none⟩ := by unfold Addr.add; split <;> simp_all
theorem i64_of4 {a : Int} (h : (Lit.int .i64 a).wf = true) : -9223372036854775808 ≤ a ∧ a ≤ 9223372036854775807 := by
  have h2 : -9223372036854775808 ≤ a ∧ a ≤ 9223372036854775807 := by simpa [Lit.wf, IntKind.min, IntKind.max, IntKind.signed, IntKind.bits] using h
  exact h2
section
variable {H : Type} {enc : TypeId × Value → H} {w : World} {sp : Nat → Bool} {held : Bool}
theorem open_nums {fuel : Nat} {v : Value} {y : DataW H × List MemPlace} (h : DataW.trod enc Tryz.prog w 0 sp held fuel 66 [v] = some y) :
    ∃ l : List Int, Nums w.heap.size w v l ∧ InU16 l := by
  rcases open_ints Tryz.underlying66 Tryz.underlying32 (by kernel_rfl) h with ⟨hcs, _⟩ | ⟨x, l, c, zs, hcs, _, hl, hm, hz, _, hcell, hwz⟩
  · simp at hcs
    subst hcs
    exact ⟨[], ⟨none, 0, rfl, Nat.le_refl _, by decide, fun h => absurd rfl h⟩, fun j => by simp⟩
  · simp at hcs
    subst hcs
    have hlz : l ≤ zs.length := by rw [hz]; split <;> omega
    unfold maxLen at hm
    refine ⟨zs.take l, ⟨some x, c, by simp [Nat.min_eq_left hlz], by simp; omega, by omega, fun hn => ?_⟩, ?_⟩
    · have h0 : 0 < l := by
        rcases Nat.eq_zero_or_pos l with h | h
        · exact absurd (by simp [h]) hn
        · exact h
      have hc0 := hcell 0 (by omega)
      have hs := spot_none hc0
      have hb := World.block_lt_of_cell? _ _ hc0
      rw [add_none] at hs hb
      obtain ⟨b, o, s⟩ := x
      simp only at hs
      subst hs
      refine ⟨b, o, rfl, hb, fun j hj => ?_⟩
      have hj' : j < l := by simp at hj; omega
      have := hcell j (by omega)
      rw [add_at] at this
      rw [this]
      simp [List.getD, hj']
    · intro j
      by_cases hj : j < l
      · have hj2 : j < zs.length := by omega
        have e : (zs.take l).getD j 0 = zs[j] := by simp [List.getD, hj, hj2]
        rw [e]
        have := hwz zs[j] (List.getElem_mem hj2)
        have h2 : 0 ≤ zs[j] ∧ zs[j] ≤ 65535 := by simpa [Lit.wf, IntKind.min, IntKind.max, IntKind.signed, IntKind.bits] using this
        omega
      · have e : (zs.take l).getD j 0 = 0 := by
          rw [List.getD, List.getElem?_eq_none (by simp; omega)]; rfl
        rw [e]; omega
theorem open_lists {fuel : Nat} {v : Value} {y : DataW H × List MemPlace} (h : DataW.trod enc Tryz.prog w 0 sp held fuel 38 [v] = some y) :
    ∃ l : List (List Int), Lists w.heap.size w v l ∧ ∀ x ∈ l, InU16 x := by
  rcases open_slice1 Tryz.underlying38 (by kernel_rfl) h with ⟨hcs, _⟩ | ⟨x, len, c, m, n, V, D, Pl, hcs, _, hl, hm, hmm, _, hi⟩
  · simp at hcs
    subst hcs
    exact ⟨[], Lists.nil _ _, fun x hx => by cases hx⟩
  · simp at hcs
    subst hcs
    have hlm : len ≤ m := by rw [hmm]; split <;> omega
    unfold maxLen at hm
    have each : ∀ i, ∃ q : List Int, i < len → Nums w.heap.size w (V i) q ∧ InU16 q := fun i => by
      by_cases hil : i < len
      · obtain ⟨q, hq⟩ := open_nums (hi i (by omega)).2
        exact ⟨q, fun _ => hq⟩
      · exact ⟨[], fun h => absurd h hil⟩
    obtain ⟨Q, hQ⟩ := Classical.axiomOfChoice each
    refine ⟨(List.range len).map Q, ⟨some x, c, by simp, by simp; omega, by omega, fun hn => ?_⟩, fun y hy => ?_⟩
    · have h0 : 0 < len := by
        rcases Nat.eq_zero_or_pos len with h | h
        · exact absurd (by simp [h]) hn
        · exact h
      have hc0 := (hi 0 (by omega)).1
      have hs := spot_none hc0
      have hb := World.block_lt_of_cell? _ _ hc0
      rw [add_none] at hs hb
      obtain ⟨b, o, s⟩ := x
      simp only at hs
      subst hs
      refine ⟨b, o, rfl, hb, fun j hj => ?_⟩
      have hj' : j < len := by simpa using hj
      have := (hi j (by omega)).1
      rw [add_at] at this
      have e : ((List.range len).map Q).getD j [] = Q j := by simp [List.getD, hj']
      rw [e]
      exact ⟨_, this, (hQ j hj').1⟩
    · obtain ⟨i, hi', rfl⟩ := List.mem_map.1 hy
      exact (hQ i (by simpa using hi')).2
set_option maxRecDepth 100000 in
theorem open_mic {fuel : Nat} {cs : List Value} {y : DataW H × List MemPlace} (h : DataW.trod enc Tryz.prog w 0 sp held fuel 52 cs = some y) :
    ∃ m : Mic, cs = [.bool m.rd, .int .u8 m.key, .int .u16 m.v] ∧ m.In := by
  obtain ⟨xs, k, rfl, _, hl, hxl, hat⟩ := DataW.trod_struct Tryz.underlying52 h
  have hc3 : Tryz.prog.cellsOf 52 = 3 := by kernel_rfl
  have hc0 : Tryz.prog.cellsOf 4 = 1 := by kernel_rfl
  have hc1 : Tryz.prog.cellsOf 5 = 1 := by kernel_rfl
  have hc2 : Tryz.prog.cellsOf 32 = 1 := by kernel_rfl
  rw [hc3] at hl
  match cs, hl with
  | [c0, c1, c2], _ =>
    match xs, hxl with
    | [x0, x1, x2], _ =>
      have h0 : DataW.trod enc Tryz.prog w 0 sp held k 4 [c0] = some x0 := by simpa [hc0, hc1, hc2] using hat 0 _ rfl
      have h1 : DataW.trod enc Tryz.prog w 0 sp held k 5 [c1] = some x1 := by simpa [hc0, hc1, hc2] using hat 1 _ rfl
      have h2 : DataW.trod enc Tryz.prog w 0 sp held k 32 [c2] = some x2 := by simpa [hc0, hc1, hc2] using hat 2 _ rfl
      obtain ⟨n0, e0, _⟩ := DataW.trod_bool Tryz.underlying4 h0
      obtain ⟨n1, e1, _, w1⟩ := DataW.trod_int Tryz.underlying5 h1
      obtain ⟨n2, e2, _, w2⟩ := DataW.trod_int Tryz.underlying32 h2
      simp only [List.cons.injEq, and_true] at e0 e1 e2
      subst e0 e1 e2
      have b1 := u8_of4 w1; have b2 := u16_of4 w2
      exact ⟨⟨n0, n1, n2⟩, rfl, ⟨b1.1, b1.2, b2.1, b2.2⟩⟩
theorem open_mics {fuel : Nat} {v : Value} {y : DataW H × List MemPlace} (h : DataW.trod enc Tryz.prog w 0 sp held fuel 37 [v] = some y) :
    ∃ l : List Mic, Mics w.heap.size w v l ∧ ∀ x ∈ l, x.In := by
  rcases open_slice Tryz.underlying37 h with ⟨hcs, _⟩ | ⟨x, len, c, m, n, D, Pl, hcs, _, hl, hm, hmm, _, hi⟩
  · simp at hcs
    subst hcs
    exact ⟨[], Mics.nil _ _, fun x hx => by cases hx⟩
  · simp at hcs
    subst hcs
    have hlm : len ≤ m := by rw [hmm]; split <;> omega
    have hc3 : Tryz.prog.cellsOf 52 = 3 := by kernel_rfl
    rw [hc3] at hi
    unfold maxLen at hm
    have each : ∀ i, ∃ q : Mic, i < len → w.cell? (x.add (i * 3)) = some (.bool q.rd) ∧ w.cell? (x.add (i * 3 + 1)) = some (.int .u8 q.key) ∧ w.cell? (x.add (i * 3 + 2)) = some (.int .u16 q.v) ∧ q.In := fun i => by
      by_cases hil : i < len
      · obtain ⟨cs', hc, ht⟩ := hi i (by omega)
        obtain ⟨q, rfl, hq⟩ := open_mic ht
        obtain ⟨_, _, hat⟩ := World.cells?_some hc
        have a0 := hat 0 (by decide)
        have a1 := hat 1 (by decide)
        have a2 := hat 2 (by decide)
        rw [Go.Deep.add_add] at a0 a1 a2
        exact ⟨q, fun _ => ⟨a0, a1, a2, hq⟩⟩
      · exact ⟨⟨false, 0, 0⟩, fun h => absurd h hil⟩
    obtain ⟨Q, hQ⟩ := Classical.axiomOfChoice each
    refine ⟨(List.range len).map Q, ⟨some x, c, by simp, by simp; omega, by omega, fun hn => ?_⟩, fun y hy => ?_⟩
    · have h0 : 0 < len := by
        rcases Nat.eq_zero_or_pos len with h | h
        · exact absurd (by simp [h]) hn
        · exact h
      have hc0 := (hQ 0 h0).1
      have hs := spot_none hc0
      have hb := World.block_lt_of_cell? _ _ hc0
      rw [Nat.zero_mul, add_none] at hs hb
      obtain ⟨b, o, s⟩ := x
      simp only at hs
      subst hs
      refine ⟨b, o, rfl, hb, fun j mm hj => ?_⟩
      obtain ⟨hj', rfl⟩ : j < len ∧ Q j = mm := by
        rw [List.getElem?_map] at hj
        by_cases hjl : j < len
        · simp [hjl] at hj
          exact ⟨hjl, hj⟩
        · simp [hjl] at hj
      obtain ⟨a0, a1, a2, _⟩ := hQ j hj'
      rw [add_at] at a0 a1 a2
      exact ⟨a0, by rw [← a1, Nat.add_assoc], by rw [← a2, Nat.add_assoc]⟩
    · obtain ⟨i, hi', rfl⟩ := List.mem_map.1 hy
      exact (hQ i (by simpa using hi')).2.2.2
set_option maxRecDepth 100000 in
theorem open_res {fuel : Nat} {cs : List Value} {y : DataW H × List MemPlace} (h : DataW.trod enc Tryz.prog w 0 sp held fuel 36 cs = some y) :
    ∃ k v : Int, cs = [.int .u8 k, .int .u16 v] ∧ 0 ≤ k ∧ k < 256 ∧ 0 ≤ v ∧ v < 65536 := by
  obtain ⟨xs, k, rfl, _, hl, hxl, hat⟩ := DataW.trod_struct Tryz.underlying36 h
  have hc3 : Tryz.prog.cellsOf 36 = 2 := by kernel_rfl
  have hc1 : Tryz.prog.cellsOf 5 = 1 := by kernel_rfl
  have hc2 : Tryz.prog.cellsOf 32 = 1 := by kernel_rfl
  rw [hc3] at hl
  match cs, hl with
  | [c1, c2], _ =>
    match xs, hxl with
    | [x1, x2], _ =>
      have h1 : DataW.trod enc Tryz.prog w 0 sp held k 5 [c1] = some x1 := by simpa [hc1, hc2] using hat 0 _ rfl
      have h2 : DataW.trod enc Tryz.prog w 0 sp held k 32 [c2] = some x2 := by simpa [hc1, hc2] using hat 1 _ rfl
      obtain ⟨n1, e1, _, w1⟩ := DataW.trod_int Tryz.underlying5 h1
      obtain ⟨n2, e2, _, w2⟩ := DataW.trod_int Tryz.underlying32 h2
      simp only [List.cons.injEq, and_true] at e1 e2
      subst e1 e2
      have b1 := u8_of4 w1; have b2 := u16_of4 w2
      exact ⟨n1, n2, rfl, b1.1, b1.2, b2.1, b2.2⟩
set_option maxRecDepth 100000 in
theorem open_opc {fuel : Nat} {cs : List Value} {y : DataW H × List MemPlace} (h : DataW.trod enc Tryz.prog w 0 sp held fuel 34 cs = some y) :
    ∃ x : Opn, cs = [.int .u8 x.f, .int .u8 x.o, .int .u8 x.k, .int .u16 x.a, .int .u16 x.b] ∧ x.In := by
  obtain ⟨xs, k, rfl, _, hl, hxl, hat⟩ := DataW.trod_struct Tryz.underlying34 h
  have hc1 : Tryz.prog.cellsOf 5 = 1 := by kernel_rfl
  have hc2 : Tryz.prog.cellsOf 32 = 1 := by kernel_rfl
  rw [cells_op] at hl
  match cs, hl with
  | [c0, c1, c2, c3, c4], _ =>
    match xs, hxl with
    | [x0, x1, x2, x3, x4], _ =>
      have h0 : DataW.trod enc Tryz.prog w 0 sp held k 5 [c0] = some x0 := by simpa [hc1, hc2] using hat 0 _ rfl
      have h1 : DataW.trod enc Tryz.prog w 0 sp held k 5 [c1] = some x1 := by simpa [hc1, hc2] using hat 1 _ rfl
      have h2 : DataW.trod enc Tryz.prog w 0 sp held k 5 [c2] = some x2 := by simpa [hc1, hc2] using hat 2 _ rfl
      have h3 : DataW.trod enc Tryz.prog w 0 sp held k 32 [c3] = some x3 := by simpa [hc1, hc2] using hat 3 _ rfl
      have h4 : DataW.trod enc Tryz.prog w 0 sp held k 32 [c4] = some x4 := by simpa [hc1, hc2] using hat 4 _ rfl
      obtain ⟨n0, e0, _, w0⟩ := DataW.trod_int Tryz.underlying5 h0
      obtain ⟨n1, e1, _, w1⟩ := DataW.trod_int Tryz.underlying5 h1
      obtain ⟨n2, e2, _, w2⟩ := DataW.trod_int Tryz.underlying5 h2
      obtain ⟨n3, e3, _, w3⟩ := DataW.trod_int Tryz.underlying32 h3
      obtain ⟨n4, e4, _, w4⟩ := DataW.trod_int Tryz.underlying32 h4
      simp only [List.cons.injEq, and_true] at e0 e1 e2 e3 e4
      subst e0 e1 e2 e3 e4
      have b0 := u8_of4 w0; have b1 := u8_of4 w1; have b2 := u8_of4 w2; have b3 := u16_of4 w3; have b4 := u16_of4 w4
      exact ⟨⟨n0, n1, n2, n3, n4⟩, rfl, ⟨b0.1, b0.2, b1.1, b1.2, b2.1, b2.2, b3.1, b3.2, b4.1, b4.2⟩⟩
set_option maxRecDepth 100000 in
theorem open_cfg {fuel : Nat} {cs : List Value} {y : DataW H × List MemPlace} (h : DataW.trod enc Tryz.prog w 0 sp held fuel 40 cs = some y) :
    ∃ g : Cfg, cs = [.int .u8 g.m, .int .i64 g.mo, .int .i64 g.ms, .int .i64 g.mt, .bool g.p, .bool g.cu, .bool g.me] ∧ 0 ≤ g.m ∧ g.m < 256 ∧ (-9223372036854775808 ≤ g.mo ∧ g.mo ≤ 9223372036854775807) ∧ (-9223372036854775808 ≤ g.ms ∧ g.ms ≤ 9223372036854775807) ∧ (-9223372036854775808 ≤ g.mt ∧ g.mt ≤ 9223372036854775807) := by
  obtain ⟨xs, k, rfl, _, hl, hxl, hat⟩ := DataW.trod_struct Tryz.underlying40 h
  have hc7 : Tryz.prog.cellsOf 40 = 7 := by kernel_rfl
  have hc0 : Tryz.prog.cellsOf 4 = 1 := by kernel_rfl
  have hc1 : Tryz.prog.cellsOf 5 = 1 := by kernel_rfl
  have hc2 : Tryz.prog.cellsOf 3 = 1 := by kernel_rfl
  rw [hc7] at hl
  match cs, hl with
  | [c0, c1, c2, c3, c4, c5, c6], _ =>
    match xs, hxl with
    | [x0, x1, x2, x3, x4, x5, x6], _ =>
      have h0 : DataW.trod enc Tryz.prog w 0 sp held k 5 [c0] = some x0 := by simpa [hc0, hc1, hc2] using hat 0 _ rfl
      have h1 : DataW.trod enc Tryz.prog w 0 sp held k 3 [c1] = some x1 := by simpa [hc0, hc1, hc2] using hat 1 _ rfl
      have h2 : DataW.trod enc Tryz.prog w 0 sp held k 3 [c2] = some x2 := by simpa [hc0, hc1, hc2] using hat 2 _ rfl
      have h3 : DataW.trod enc Tryz.prog w 0 sp held k 3 [c3] = some x3 := by simpa [hc0, hc1, hc2] using hat 3 _ rfl
      have h4 : DataW.trod enc Tryz.prog w 0 sp held k 4 [c4] = some x4 := by simpa [hc0, hc1, hc2] using hat 4 _ rfl
      have h5 : DataW.trod enc Tryz.prog w 0 sp held k 4 [c5] = some x5 := by simpa [hc0, hc1, hc2] using hat 5 _ rfl
      have h6 : DataW.trod enc Tryz.prog w 0 sp held k 4 [c6] = some x6 := by simpa [hc0, hc1, hc2] using hat 6 _ rfl
      obtain ⟨n0, e0, _, w0⟩ := DataW.trod_int Tryz.underlying5 h0
      obtain ⟨n1, e1, _, w1⟩ := DataW.trod_int Tryz.underlying3 h1
      obtain ⟨n2, e2, _, w2⟩ := DataW.trod_int Tryz.underlying3 h2
      obtain ⟨n3, e3, _, w3⟩ := DataW.trod_int Tryz.underlying3 h3
      obtain ⟨n4, e4, _⟩ := DataW.trod_bool Tryz.underlying4 h4
      obtain ⟨n5, e5, _⟩ := DataW.trod_bool Tryz.underlying4 h5
      obtain ⟨n6, e6, _⟩ := DataW.trod_bool Tryz.underlying4 h6
      simp only [List.cons.injEq, and_true] at e0 e1 e2 e3 e4 e5 e6
      subst e0 e1 e2 e3 e4 e5 e6
      have b0 := u8_of4 w0
      exact ⟨⟨n0, n1, n2, n3, n4, n5, n6⟩, rfl, b0.1, b0.2, i64_of4 w1, i64_of4 w2, i64_of4 w3⟩
set_option maxRecDepth 100000 in
theorem open_ev {r : Reach} {b0 : Nat} {v : Value} {d : DataW H} {p : List MemPlace}
    (hv : Value.okWide Tryz.prog w r b0 42 v) (h : DataW.Trod enc Tryz.prog w 0 sp held 42 v d p) : ∃ (x : Ev) (tx rd : Value), v = .agg (evC x tx rd) ∧ EvAt w.heap.size w tx rd x ∧ x.In := by
  obtain ⟨cs, rfl, hsz⟩ := okWide_struct Tryz.underlying42 hv
  rw [show Tryz.prog.cellsOf 42 = 19 by kernel_rfl] at hsz
  obtain ⟨fuel, hf⟩ := h
  obtain ⟨l⟩ := cs
  match l, hsz with
  | [c0, c1, c2, c3, c4, c5, c6, c7, c8, c9, c10, c11, c12, c13, c14, c15, c16, c17, c18], _ =>
    obtain ⟨xs, k, rfl, _, hl, hxl, hat⟩ := DataW.trod_struct Tryz.underlying42 hf
    have hc1 : Tryz.prog.cellsOf 5 = 1 := by kernel_rfl
    have hc2 : Tryz.prog.cellsOf 32 = 1 := by kernel_rfl
    have hc3 : Tryz.prog.cellsOf 34 = 5 := by kernel_rfl
    have hc4 : Tryz.prog.cellsOf 36 = 2 := by kernel_rfl
    have hc5 : Tryz.prog.cellsOf 37 = 1 := by kernel_rfl
    have hc6 : Tryz.prog.cellsOf 38 = 1 := by kernel_rfl
    have hc7 : Tryz.prog.cellsOf 40 = 7 := by kernel_rfl
    match xs, hxl with
    | [x0, x1, x2, x3, x4, x5, x6, x7], _ =>
      have h0 : DataW.trod enc Tryz.prog w 0 sp held k 5 [c0] = some x0 := by simpa [hc1, hc2, hc3, hc4, hc5, hc6, hc7, Value.cells] using hat 0 _ rfl
      have h1 : DataW.trod enc Tryz.prog w 0 sp held k 5 [c1] = some x1 := by simpa [hc1, hc2, hc3, hc4, hc5, hc6, hc7, Value.cells] using hat 1 _ rfl
      have h2 : DataW.trod enc Tryz.prog w 0 sp held k 32 [c2] = some x2 := by simpa [hc1, hc2, hc3, hc4, hc5, hc6, hc7, Value.cells] using hat 2 _ rfl
      have h3 : DataW.trod enc Tryz.prog w 0 sp held k 34 [c3, c4, c5, c6, c7] = some x3 := by simpa [hc1, hc2, hc3, hc4, hc5, hc6, hc7, Value.cells] using hat 3 _ rfl
      have h4 : DataW.trod enc Tryz.prog w 0 sp held k 36 [c8, c9] = some x4 := by simpa [hc1, hc2, hc3, hc4, hc5, hc6, hc7, Value.cells] using hat 4 _ rfl
      have h5 : DataW.trod enc Tryz.prog w 0 sp held k 37 [c10] = some x5 := by simpa [hc1, hc2, hc3, hc4, hc5, hc6, hc7, Value.cells] using hat 5 _ rfl
      have h6 : DataW.trod enc Tryz.prog w 0 sp held k 38 [c11] = some x6 := by simpa [hc1, hc2, hc3, hc4, hc5, hc6, hc7, Value.cells] using hat 6 _ rfl
      have h7 : DataW.trod enc Tryz.prog w 0 sp held k 40 [c12, c13, c14, c15, c16, c17, c18] = some x7 := by simpa [hc1, hc2, hc3, hc4, hc5, hc6, hc7, Value.cells] using hat 7 _ rfl
      obtain ⟨n0, e0, _, w0⟩ := DataW.trod_int Tryz.underlying5 h0
      obtain ⟨n1, e1, _, w1⟩ := DataW.trod_int Tryz.underlying5 h1
      obtain ⟨n2, e2, _, w2⟩ := DataW.trod_int Tryz.underlying32 h2
      obtain ⟨o, e3, ho⟩ := open_opc h3
      obtain ⟨rk, rv, e4, r0, r1, r2, r3⟩ := open_res h4
      obtain ⟨lt, ht, hti⟩ := open_mics h5
      obtain ⟨lr, hr, hri⟩ := open_lists h6
      obtain ⟨g, e7, g0, g1, g2, g3, g4⟩ := open_cfg h7
      simp only [List.cons.injEq, and_true] at e0 e1 e2 e3 e4 e7
      obtain ⟨rfl, rfl, rfl, rfl, rfl⟩ := e3
      obtain ⟨rfl, rfl⟩ := e4
      obtain ⟨rfl, rfl, rfl, rfl, rfl, rfl, rfl⟩ := e7
      subst e0 e1 e2
      have b0 := u8_of4 w0; have b1 := u8_of4 w1; have b2 := u16_of4 w2
      exact ⟨⟨n0, n1, n2, o, rk, rv, lt, lr, g⟩, c10, c11, rfl, ⟨ht, hr⟩, ⟨b0.1, b0.2, b1.1, b1.2, b2.1, b2.2, ho, r0, r1, r2, r3, hti, hri, g0, g1, g2.1, g2.2, g3.1, g3.2, g4.1, g4.2⟩⟩
end
end Go.Proofs.YtlaccndjlfpjbaaGreatDoor
/-
  What the rows' condition on op's table gives.
-/
namespace Go.Proofs.YtlaccndjlfpjbaaGreatDoor
open Go.ChangeShapes Go.WideShapes Go.ChangeAt Go.RowKit
open Go.Joins Go.Deep
/-- What the rows of this seat list. -/
def laidAll : List (String × DataW Unit) := [("umpire/op.kinds", Rows.laid_umpire_op_kinds)]
theorem laidAll_met (os : Os) (args : Array Value) : laidMetH Tryz.prog laidAll ((World.laidAll Tryz.prog os laidAll).forCall (fun _ _ => 0) ⟨#[], args, []⟩).memory := by
  rw [MakeChecks.laidMetH_plain _ _ _ (by kernel_rfl)]
  exact laidMet_laidAll _ (by kernel_rfl) (by kernel_rfl)
set_option maxRecDepth 100000 in
theorem glob_of {W : World} (h : laidMetH Tryz.prog laidAll W) : Glob4 W := by
  rw [MakeChecks.laidMetH_plain _ _ _ (by kernel_rfl)] at h
  refine ⟨?_⟩
  obtain ⟨ps, ⟨g', t', cs, fuel, p, q, hg', ht', hvar, hd, _, _⟩, _⟩ := h
  obtain rfl := Option.some.inj (glob_kinds.symm.trans hg')
  obtain rfl := Option.some.inj ((show (Tryz.prog.globals[0]?).map (·.type) = some 104 by kernel_rfl).symm.trans ht')
  have e2 : cs = kindCells := by
    apply Array.ext'
    exact cells_of_kinds hd
  rw [e2] at hvar
  exact block_of_var glob_kinds hvar
end Go.Proofs.YtlaccndjlfpjbaaGreatDoor
