/-
  The program's lock: Encode, Decode; the document's Step and Decode.
-/
import Derived.Deep.RegionHeld3
import Derived.Laws.Tables
import Derived.BigQuiet
import Derived.Deep.AppendSrc
import Derived.Lib.SliceRun
import Derived.Laws.MakeOwn
import Derived.Test.YtbjhgdimciibcaaDoorLK12
import Derived.Test.YtbjhgdimciibcaaDoorLK08
import Derived.Test.YtbjhgdimciibcaaDoorLK07
import Derived.Test.YtbjhgdimciibcaaDoorLK10
import Derived.Test.YtbjhgdimciibcaaDoorLK09
set_option linter.unusedSimpArgs false
set_option linter.unusedVariables false
namespace Go.Proofs.YtbjhgdimciibcaaDoor
open Go.RowKit
/-- A state's byte. -/
def lkB (s : Int) : List UInt8 := [UInt8.ofNat s.toNat]
theorem nb_lkB {s : Int} (h0 : 0 ≤ s) (h1 : s < 256) : nb (lkB s) = [s] := by
  simp only [nb, lkB, List.map_cons, List.map_nil, UInt8.toNat_ofNat', List.cons.injEq, and_true]
  omega
theorem conv_one (w : World) {s : Int} (h0 : 0 ≤ s) (h1 : s < 256) : (convert 40 9 (.slice (some ⟨w.heap.size, 0, none⟩) 1 1)).run Tryd.prog (w.alloc (.cells #[.int .u8 s] 5)) = .ok (.string (bs (lkB s))) (w.alloc (.cells #[.int .u8 s] 5)) := by
  rw [← str_nb (lkB s)]
  have := run_convert_bytes_arg (w.alloc (.cells #[.int .u8 s] 5)) 40 5 Tryd.underlying40 Tryd.underlying5 w.heap.size 0 1 1 (nb (lkB s)) (by rw [nb_lkB h0 h1]; rfl) (fun i hi => by
    obtain rfl : i = 0 := by omega
    rw [nb_lkB h0 h1]
    exact cell_lit (heap_alloc_new w (.cells #[.int .u8 s] 5)) 0 rfl) 9 Tryd.underlying9
  exact this
set_option maxHeartbeats 8000000
set_option maxRecDepth 100000
theorem lkEncode_any (w : World) (s : Int) (h0 : 0 ≤ s) (h1 : s < 256) : Calls Tryd.prog 14 #[.int .u8 s] w fun e w' => e = .returned (.string (bs (lkB s))) ∧ Keeps [] w w' := by
  have hc := conv_one w h0 h1
  have HK := Lib.hid (show Keeps [] w (w.alloc (.cells #[.int .u8 s] 5)) from (Keeps.refl _ _).alloc _)
  clear h0 h1
  go_enter Tryd.func14, Tryd.ntmps14
  go_wp2_with fail
  go_ret
  exact ⟨rfl, HK.out⟩
/-- The state that a text is, and the error. -/
def lkD : List UInt8 → Int × Int
  | [x] => if (x.toNat : Int) ≤ 16 then ((x.toNat : Int), 0) else (0, 4)
  | _ => (0, 4)
theorem lkD_one (x : UInt8) : lkD [x] = if (x.toNat : Int) ≤ 16 then ((x.toNat : Int), 0) else (0, 4) := rfl
theorem lkD_not {b : List UInt8} (h : b.length ≠ 1) : lkD b = (0, 4) := by
  match b, h with
  | [], _ => rfl
  | [x], h => exact absurd rfl h
  | _ :: _ :: _, _ => rfl
theorem one_size (x : UInt8) : (bs [x]).size = 1 := rfl
theorem lkDecode_any (w : World) (b : List UInt8) : Calls Tryd.prog 13 #[.string (bs b)] w fun e w' => e = .returned (.tuple #[.int .u8 (lkD b).1, .int .i64 (lkD b).2]) ∧ w' = w := by
  by_cases hb : b.length = 1
  · obtain ⟨x, rfl⟩ := List.length_eq_one_iff.1 hb
    have t1 : (((bs [x]).size : Int) != 1) = false := rfl
    have t2 : 0 < (bs [x]).size := by rw [one_size]; decide
    have HX := Lib.hid (fun w => (show Calls Tryd.prog 24 #[.int .u8 (((bs [x])[0]'t2).toNat : Int)] w _ from lkExists_any w (x.toNat : Int)))
    rw [lkD_one]
    clear hb
    by_cases h : (x.toNat : Int) ≤ 16
    · rw [if_pos h]
      rw [decide_eq_true h] at HX
      go_enter Tryd.func13, Tryd.ntmps13
      go_wp2_with fail
      refine (HX.out _).mono ?_; rintro e w2 ⟨rfl, rfl⟩
      go_wp2_with fail
      go_ret2
      exact ⟨rfl, rfl⟩
    · rw [if_neg h]
      rw [decide_eq_false h] at HX
      go_enter Tryd.func13, Tryd.ntmps13
      go_wp2_with fail
      refine (HX.out _).mono ?_; rintro e w2 ⟨rfl, rfl⟩
      go_wp2_with fail
      go_ret2
      exact ⟨rfl, rfl⟩
  · have hz : (bs b).size = b.length := by show b.toArray.size = _; simp
    have t1 : (((bs b).size : Int) != 1) = true := by rw [hz]; simp; omega
    rw [lkD_not hb]
    clear hb hz
    go_enter Tryd.func13, Tryd.ntmps13
    go_wp2_with fail
    go_ret2
    exact ⟨rfl, rfl⟩
end Go.Proofs.YtbjhgdimciibcaaDoor
/-
  The program's lock: Run.
-/
namespace Go.Proofs.YtbjhgdimciibcaaDoor
open Go.RowKit
section
variable {ops : Array Oper} {rest : List Oper} {a : Act} {w : World} {Q : Exit → Act → World → Prop}
set_option maxRecDepth 100000 in
theorem wpList_loadP {dst : Option Tmp} {ty : TypeId} {pos : String} {after : Array Edge} {gd : Option (Nat × Bool)} {x : Operand} {g off : Nat} (y : Opn)
    (hw : Region.wanted { dst := dst, op := .load 24 x, type := ty, pos := pos, after := after, guard := gd } (yielded ops a.tmps) = true)
    (hx : a.eval x = .pointer (some ⟨g, off, none⟩)) (hr : w.rangeAt g off (opC y)) (h : wpList Tryd.prog ops Q rest (a.put dst (.agg #[.int .u8 y.f, .int .u8 y.o, .int .u8 y.k, .int .u16 y.a, .int .u16 y.b])) w) :
    wpList Tryd.prog ops Q ({ dst := dst, op := .load 24 x, type := ty, pos := pos, after := after, guard := gd } :: rest) a w :=
  wpList_step fun _ hK => by
    rw [if_pos hw]
    exact wp_load_mid 24 x rfl g off hx (opC y) _ hr Tryd.underlying24 rfl (by kernel_rfl) (hK _ _ h)
set_option maxRecDepth 100000 in
theorem wpList_loadCl {dst : Option Tmp} {ty : TypeId} {pos : String} {after : Array Edge} {gd : Option (Nat × Bool)} {x : Operand} {g off : Nat} (y : Cl)
    (hw : Region.wanted { dst := dst, op := .load 49 x, type := ty, pos := pos, after := after, guard := gd } (yielded ops a.tmps) = true)
    (hx : a.eval x = .pointer (some ⟨g, off, none⟩)) (hr : w.rangeAt g off (clC y)) (h : wpList Tryd.prog ops Q rest (a.put dst (.agg (clC y).toArray)) w) :
    wpList Tryd.prog ops Q ({ dst := dst, op := .load 49 x, type := ty, pos := pos, after := after, guard := gd } :: rest) a w :=
  rkCl.wpList_load Tryd.underlying49 rfl rfl hw hx hr h
set_option maxRecDepth 100000 in
theorem wpList_putCl {dst : Option Tmp} {ty : TypeId} {pos : String} {after : Array Edge} {x y : Operand} {g : Nat} {old : Cl} (r : Cl) {t : TypeId}
    (hx : a.eval x = .pointer (some ⟨g, 0, none⟩)) (hy : a.eval y = .agg (clC r).toArray) (hg : w.heap[g]? = some (.cells (clC old).toArray t (0, 0)))
    (h : ∀ W, W.heap[g]? = some (.cells (clC r).toArray t (0, 0)) → Keeps [g] w W → wpList Tryd.prog ops Q rest (a.put dst undef) W) :
    wpList Tryd.prog ops Q ({ dst := dst, op := .store 49 x y, type := ty, pos := pos, after := after, guard := none } :: rest) a w :=
  wpList_store_row rfl 49 x y rfl g (clC r).toArray hx hy t (clC old).toArray hg (by kernel_rfl) rfl (by rw [← Array.all_toList, List.all_eq_true]; exact clC_one r) (h _ (setRow_heap w g (clC old).toArray (clC r).toArray t (0, 0) hg) ((Keeps.refl [g] w).setRow g _ (.inl (by simp))))
end
/-- The parts of a call that stands in memory. -/
theorem cl_parts {w : World} {g off : Nat} {y : Cl} (h : w.rangeAt g off (clC y)) : w.cell? ⟨g, off, none⟩ = some (.int .u8 y.c) ∧ w.rangeAt g (off + 1) (opC y.x) := by
  refine ⟨h 0 _ rfl, fun j v hv => ?_⟩
  have := h (j + 1) v (by simpa [clC, opC] using hv)
  rw [show off + 1 + j = off + (j + 1) by omega]
  exact this
theorem cl_block {w : World} {g : Nat} {y : Cl} {t : TypeId} (h : w.heap[g]? = some (.cells (clC y).toArray t (0, 0))) : w.rangeAt g 0 (clC y) := fun j v hv => by
  rw [Nat.zero_add]
  exact cell_lit h j (by simpa using hv)
/-- A new block, then stores into it. -/
theorem Keeps.trans' {a b c : World} {g : Nat} (h : Keeps [] a b) (k : Keeps [g] b c) (hg : a.heap.size ≤ g) : Keeps [] a c := h.trans k (fun q hq => .inr (by simp at hq; omega))
set_option maxHeartbeats 8000000
set_option maxRecDepth 100000
theorem lkRun_any (w : World) (hG : Glob4 w) {s : Int} (hs : 0 ≤ s ∧ s < 256) {v : Value} {l : List Cl} (hl : ∀ y ∈ l, y.In) (hI : rkCl.In w.heap.size w v l) (hn : l.length ≤ 1000) :
    Calls Tryd.prog 18 #[.int .u8 s, v] w fun e w' => ∃ v', e = .returned (.tuple #[.int .u8 (stS lkY s l), v', .int .i64 (stE lkY s l)]) ∧ rkA.Own w.heap.size w' v' (stL lkY s l) ∧ Keeps [] w w' := by
  obtain ⟨a, cp, rfl, hc, hm, -⟩ := id hI
  have HIN := Lib.hid hI; have HLI := Lib.hid hl; have HGL := Lib.hid hG
  have HSI := Lib.hid (fun k => lkS_in s (l.take k) hs (fun x hx => hl x (List.mem_of_mem_take hx)))
  clear hI hl hG hs
  generalize hn2 : l.length = n at *
  have HN2 := Lib.hid hn2
  clear hn2
  go_enter Tryd.func18, Tryd.ntmps18
  go_wp2_with fail
  go_loopw [0, 7, 15] (fun sv z i wr => ∃ k : Nat, i = .int .i64 k ∧ k ≤ n ∧ stE lkY s (l.take k) = 0 ∧ sv = .int .u8 (stS lkY s (l.take k)) ∧ rkA.Own w.heap.size wr z (stL lkY s (l.take k)) ∧ Keeps [] w wr) (fun _ _ i _ => n - (intOf i).toNat)
  case atStart => exact ⟨0, rfl, by omega, rfl, rfl, RK.Own.nil rkA _ _, Keeps.refl _ _⟩
  case round =>
    obtain ⟨k, rfl, hk, he0, rfl, hz, hkw⟩ := hrel
    by_cases hlt : k < n
    · have hkl : k < l.length := by have := HN2.out; omega
      obtain ⟨g, o, rfl, hg, hr⟩ := InCl_at (HIN.out.new hkw (Nat.le_refl _)) hkl
      have HRW := Lib.hid hr
      have HNX := Lib.hid (st_next lkY hkl he0)
      have HST := Lib.hid (st_stop lkY hkl he0)
      have HXI := Lib.hid (HLI.out l[k] (List.getElem_mem hkl))
      have HSK := Lib.hid (HSI.out k)
      have HZ := Lib.hid hz; have HKW := Lib.hid hkw
      have HFL := Lib.hid (show (stL lkY s (l.take k)).length ≤ 10000 from Nat.le_trans (stL_few lkY k) (by have := HN2.out; omega))
      obtain ⟨az, cz, rfl, hcz, hmz⟩ := hz.shape
      clear hz hkw he0 hr
      generalize l[k] = y at *
      generalize stS lkY s (l.take k) = st at *
      have HA := Lib.hid (show (wr.alloc (.cells #[.int .u8 0, .int .u8 0, .int .u8 0, .int .u8 0, .int .u16 0, .int .u16 0] 49)).heap[wr.heap.size]? = some (.cells (clC clZero).toArray 49 (0, 0)) from heap_alloc_new wr _)
      have HKA := Lib.hid (show Keeps [] wr (wr.alloc (.cells #[.int .u8 0, .int .u8 0, .int .u8 0, .int .u8 0, .int .u16 0, .int .u16 0] 49)) from (Keeps.refl [] wr).alloc _)
      go_wp2_with (first
        | ((with_reducible refine wpList_loadCl (g := g) (off := o + k * 6) y ?_ ?_ HRW.out ?_); exact rfl; exact rfl)
        | ((with_reducible refine wpList_putCl (g := wr.heap.size) (old := clZero) y ?_ ?_ HA.out ?_); exact rfl; exact rfl))
      intro w1 hW1 hk1
      have HC1 := Lib.hid hW1
      have HK1 := Lib.hid (HKW.out.trans (HKA.out.trans' hk1 (by simp)) (FSub.refl _ _))
      have HZ1 := Lib.hid (HZ.out.keeps (HKA.out.trans' hk1 (by simp)) (by simp))
      clear hW1 hk1 HA HKA HRW HKW HZ
      generalize wr.heap.size = gb at *
      have c0 : w1.cell? ⟨gb, 0, none⟩ = some (.int .u8 y.c) := (cl_parts (cl_block HC1.out)).1
      have HRO := Lib.hid (cl_parts (cl_block HC1.out)).2
      go_wp2_with ((with_reducible refine wpList_loadP (g := gb) (off := 1) y.x ?_ ?_ HRO.out ?_); exact rfl; exact rfl)
      refine (show Calls Tryd.prog 10 #[.int .u8 st, .int .u8 y.c, y.x.val] w1 _ from lkStep_any w1 (HGL.out.new HK1.out) y.x HSK.out ⟨HXI.out.c0, HXI.out.c1⟩ HXI.out.x).mono ?_
      rintro e w2 ⟨rfl, hk2⟩
      have HK2 := Lib.hid (HK1.out.trans hk2 (FSub.refl _ _))
      have HZ2 := Lib.hid (HZ1.out.keeps hk2 (by simp))
      clear c0 hk2 HK1 HZ1 HRO HC1
      change Hid (_ = (lkX st y.c y.x).2.2 ∧ _ = (if (lkX st y.c y.x).2.2 = 0 then (lkX st y.c y.x).1 else st) ∧ _ = _ ++ (if (lkX st y.c y.x).2.2 = 0 then [(lkX st y.c y.x).2.1] else [])) at HNX
      change Hid ((lkX st y.c y.x).2.2 ≠ 0 → _ = (lkX st y.c y.x).2.2 ∧ _ = st ∧ _) at HST
      generalize lkX st y.c y.x = X at *
      obtain ⟨s1, r, e1⟩ := X
      have HC2 := Lib.hid (show (w2.alloc (.cells #[.int .u8 0, .int .u16 0] 27)).heap[w2.heap.size]? = some (.cells (ansC ⟨0, 0⟩).toArray 27 (0, 0)) from heap_alloc_new w2 _)
      have HKA2 := Lib.hid (show Keeps [] w2 (w2.alloc (.cells #[.int .u8 0, .int .u16 0] 27)) from (Keeps.refl _ _).alloc _)
      go_wp2_with ((with_reducible refine wpList_putR12 (g := w2.heap.size) (old := ⟨0, 0⟩) r ?_ ?_ HC2.out ?_); exact rfl; exact rfl)
      intro w3 hW3 hk3
      have HC3 := Lib.hid hW3
      have HK3 := Lib.hid (HK2.out.trans (HKA2.out.trans' hk3 (by simp)) (FSub.refl _ _))
      have HZ3 := Lib.hid (HZ2.out.keeps (HKA2.out.trans' hk3 (by simp)) (by simp))
      clear hW3 hk3 HC2 HKA2 HK2 HZ2
      generalize w2.heap.size = gr at *
      by_cases hx : e1 = 0
      · subst hx
        have hn1 := HNX.out
        simp only [if_true] at hn1
        have HN1 := Lib.hid hn1
        obtain ⟨v', w4, hrun, hrow4, hk4, hf4⟩ := rkA.append1 w3 w.heap.size HK3.out.size _ _ HZ3.out r (by have := HFL.out; omega)
        obtain ⟨rk, rv⟩ := r
        have d0 : w3.cell? ⟨gr, 0, none⟩ = some (.int .u8 rk) := cell_lit HC3.out 0 rfl
        have d1 : w3.cell? ⟨gr, 1, none⟩ = some (.int .u16 rv) := cell_lit HC3.out 1 rfl
        have HRUN := Lib.hid (show (Builtin.append_ #[45, 45] 45 #[.slice az (stL lkY s (l.take k)).length cz, .slice (some ⟨w3.heap.size, 0, none⟩) 1 1]).run Tryd.prog (w3.alloc (.cells #[.int .u8 rk, .int .u16 rv] 27)) = .ok v' w4 from hrun)
        have HROW := Lib.hid hrow4
        have HK4 := Lib.hid (HK3.out.trans hk4 (fun q hq => .inr (by have := (row_base HZ3.out q hq).1; omega)))
        obtain ⟨a9, c9, rfl, -, -⟩ := hrow4.shape
        clear hn1 hrun hrow4 hk4 hf4 HNX HST HZ3 HK3
        go_wp2_with ((with_reducible refine wpList_app (.slice az (stL lkY s (l.take k)).length cz) (.slice (some ⟨w3.heap.size, 0, none⟩) 1 1) ?_ ?_ HRUN.out ?_); exact rfl; exact rfl)
        go_roundw
        case rel => exact ⟨k + 1, by go_num, by omega, HN1.out.1, by rw [HN1.out.2.1], by rw [HN1.out.2.2]; have h := HROW.out; rw [List.length_append] at h; exact h, HK4.out⟩
        case measure => simp [intOf]; omega
      · have hb : (e1 != 0) = true := by simpa using hx
        have HE := Lib.hid (HST.out hx)
        clear hx HST HNX
        go_wp2_with fail
        go_ret3
        exact ⟨_, by rw [HE.out.1, HE.out.2.1]; rfl, by rw [HE.out.2.2]; exact HZ3.out, HK3.out⟩
    · obtain rfl : k = n := by omega
      have hall : l.take k = l := by rw [← HN2.out, List.take_length]
      rw [hall] at he0 hz
      have HZ := Lib.hid hz; have HKW := Lib.hid hkw; have HE := Lib.hid he0
      obtain ⟨az, cz, rfl, hcz, hmz⟩ := hz.shape
      rw [hall]
      clear hz hkw he0 hall
      go_wp2_with fail
      go_ret3
      exact ⟨_, by rw [HE.out]; rfl, HZ.out, HKW.out⟩
end Go.Proofs.YtbjhgdimciibcaaDoor
/-
  Stage 12's law: acquire, release, steps, works.
-/
namespace Go.Proofs.YtbjhgdimciibcaaDoor
open Go.RowKit
theorem results_cl {fn : Func} {p : Tmp} (h : fn.results = #[.cell p 49]) (tmps : Array Value) (w : World) (b : Nat) (y : Cl) {t : TypeId}
    (hp : tmps.getD p undef = .pointer (some ⟨b, 0, none⟩)) (hb : w.heap[b]? = some (.cells (clC y).toArray t (0, 0))) : (results fn tmps).run Tryd.prog w = .ok (.agg (clC y).toArray) w :=
  results_cell_row (P := Tryd.prog) h _ _ _ _ _ _ _ hp hb Tryd.underlying49 rfl (by kernel_rfl)
set_option maxHeartbeats 8000000
set_option maxRecDepth 100000
theorem acq12_any (w : World) (c : Int) : Calls Tryd.prog 20 #[.int .u8 c] w fun e w' => e = .returned (.agg (clC ⟨c, ⟨10, 0, 0, 0, 0⟩⟩).toArray) ∧ Keeps [] w w' := by
  have h := heap_alloc_new w (.cells (clC ⟨c, ⟨10, 0, 0, 0, 0⟩⟩).toArray 49)
  have HN := Lib.hid h
  have HK := Lib.hid (show Keeps [] w (w.alloc (.cells (clC ⟨c, ⟨10, 0, 0, 0, 0⟩⟩).toArray 49)) from (Keeps.refl _ _).alloc _)
  clear h
  go_enter Tryd.func20, Tryd.ntmps20
  go_wp2_with fail
  try simp only [Exit.inBlock, Exit.then]
  exact bodyPost_ret (results_cl rfl _ _ w.heap.size ⟨c, ⟨10, 0, 0, 0, 0⟩⟩ rfl HN.out) rfl ⟨rfl, HK.out⟩
theorem rel12_any (w : World) (c : Int) : Calls Tryd.prog 21 #[.int .u8 c] w fun e w' => e = .returned (.agg (clC ⟨c, ⟨11, 0, 0, 0, 0⟩⟩).toArray) ∧ Keeps [] w w' := by
  have h := heap_alloc_new w (.cells (clC ⟨c, ⟨11, 0, 0, 0, 0⟩⟩).toArray 49)
  have HN := Lib.hid h
  have HK := Lib.hid (show Keeps [] w (w.alloc (.cells (clC ⟨c, ⟨11, 0, 0, 0, 0⟩⟩).toArray 49)) from (Keeps.refl _ _).alloc _)
  clear h
  go_enter Tryd.func21, Tryd.ntmps21
  go_wp2_with fail
  try simp only [Exit.inBlock, Exit.then]
  exact bodyPost_ret (results_cl rfl _ _ w.heap.size ⟨c, ⟨11, 0, 0, 0, 0⟩⟩ rfl HN.out) rfl ⟨rfl, HK.out⟩
theorem steps12_any (w : World) (hG : Glob4 w) {s : Int} (hs : 0 ≤ s ∧ s < 256) {y : Cl} (hy : y.In) {u k : Int} (hX : lkX s y.c y.x = (u, ⟨k, 0⟩, 0)) :
    Calls Tryd.prog 22 #[.int .u8 s, .agg (clC y).toArray, .int .u8 u, .int .u8 k] w fun e w' => e = .returned (.bool true) ∧ Keeps [] w w' := by
  have HB := Lib.hid (heap_alloc_new w (.cells (clC y).toArray 49))
  have HK0 := Lib.hid (show Keeps [] w (w.alloc (.cells (clC y).toArray 49)) from (Keeps.refl _ _).alloc _)
  have hst := fun w hG => lkStep_any w hG y.x hs ⟨hy.c0, hy.c1⟩ hy.x
  rw [hX] at hst
  have HST := Lib.hid hst
  have HGL := Lib.hid (hG.new HK0.out)
  have t1 : (u == u) = true := by simp
  have t2 : (k == k) = true := by simp
  clear hst hs hy hX hG
  have c0 : (w.alloc (.cells (clC y).toArray 49)).cell? ⟨w.heap.size, 0, none⟩ = some (.int .u8 y.c) := (cl_parts (cl_block HB.out)).1
  have HRO := Lib.hid (cl_parts (cl_block HB.out)).2
  go_enter Tryd.func22, Tryd.ntmps22
  go_wp2_with ((with_reducible refine wpList_loadP (g := w.heap.size) (off := 1) y.x ?_ ?_ HRO.out ?_); exact rfl; exact rfl)
  refine (show Calls Tryd.prog 10 #[.int .u8 s, .int .u8 y.c, y.x.val] _ _ from HST.out _ HGL.out).mono ?_
  rintro e w2 ⟨rfl, hk2⟩
  have HK2 := Lib.hid (HK0.out.trans hk2 (FSub.refl _ _))
  clear c0 hk2 HRO HB HK0 HGL
  have HC2 := Lib.hid (show (w2.alloc (.cells #[.int .u8 0, .int .u16 0] 27)).heap[w2.heap.size]? = some (.cells (ansC ⟨0, 0⟩).toArray 27 (0, 0)) from heap_alloc_new w2 _)
  have HKA2 := Lib.hid (show Keeps [] w2 (w2.alloc (.cells #[.int .u8 0, .int .u16 0] 27)) from (Keeps.refl _ _).alloc _)
  go_wp2_with ((with_reducible refine wpList_putR12 (g := w2.heap.size) (old := ⟨0, 0⟩) ⟨k, 0⟩ ?_ ?_ HC2.out ?_); exact rfl; exact rfl)
  intro w3 hW3 hk3
  have HK3 := Lib.hid (HK2.out.trans (HKA2.out.trans' hk3 (by simp)) (FSub.refl _ _))
  clear hk3 HC2 HKA2 HK2
  generalize w2.heap.size = gr at *
  have d0 : w3.cell? ⟨gr, 0, none⟩ = some (.int .u8 k) := cell_lit hW3 0 rfl
  have d1 : w3.cell? ⟨gr, 1, none⟩ = some (.int .u16 0) := cell_lit hW3 1 rfl
  clear hW3
  go_wp2_with fail
  go_ret
  exact ⟨rfl, HK3.out⟩
theorem cl_in {c f : Int} (h0 : 0 ≤ c) (h1 : c < 256) (h2 : 0 ≤ f) (h3 : f < 256) : Cl.In ⟨c, ⟨f, 0, 0, 0, 0⟩⟩ := ⟨h0, h1, ⟨h2, h3, by simp, by simp, by simp, by simp, by simp, by simp, by simp, by simp⟩⟩
theorem works12_any (w : World) (hG : Glob4 w) : Calls Tryd.prog 17 #[] w fun e w' => e = .returned (.bool true) ∧ Keeps [] w w' := by
  have HG := Lib.hid (fun w' (h : Keeps [] w w') => hG.new h)
  clear hG
  go_enter Tryd.func17, Tryd.ntmps17
  go_wp2_with fail
  refine (lkNew_any w).mono ?_; rintro e w1 ⟨rfl, rfl⟩
  go_wp2_with fail
  refine (acq12_any _ 0).mono ?_; rintro e w2 ⟨rfl, hk2⟩
  have HK2 := Lib.hid hk2; clear hk2
  go_wp2_with fail
  refine (steps12_any w2 (HG.out _ HK2.out) (by decide) (cl_in (by decide) (by decide) (by decide) (by decide)) rfl).mono ?_; rintro e w3 ⟨rfl, hk3⟩
  have HK3 := Lib.hid (HK2.out.trans hk3 (FSub.refl _ _)); clear hk3 HK2
  go_wp2_with fail
  refine (acq12_any _ 1).mono ?_; rintro e w4 ⟨rfl, hk4⟩
  have HK4 := Lib.hid (HK3.out.trans hk4 (FSub.refl _ _)); clear hk4 HK3
  go_wp2_with fail
  refine (steps12_any w4 (HG.out _ HK4.out) (by decide) (cl_in (by decide) (by decide) (by decide) (by decide)) rfl).mono ?_; rintro e w5 ⟨rfl, hk5⟩
  have HK5 := Lib.hid (HK4.out.trans hk5 (FSub.refl _ _)); clear hk5 HK4
  go_wp2_with fail
  refine (rel12_any _ 1).mono ?_; rintro e w6 ⟨rfl, hk6⟩
  have HK6 := Lib.hid (HK5.out.trans hk6 (FSub.refl _ _)); clear hk6 HK5
  go_wp2_with fail
  refine (steps12_any w6 (HG.out _ HK6.out) (by decide) (cl_in (by decide) (by decide) (by decide) (by decide)) rfl).mono ?_; rintro e w7 ⟨rfl, hk7⟩
  have HK7 := Lib.hid (HK6.out.trans hk7 (FSub.refl _ _)); clear hk7 HK6
  go_wp2_with fail
  refine (rel12_any _ 0).mono ?_; rintro e w8 ⟨rfl, hk8⟩
  have HK8 := Lib.hid (HK7.out.trans hk8 (FSub.refl _ _)); clear hk8 HK7
  go_wp2_with fail
  refine (lkNew_any w8).mono ?_; rintro e w9 ⟨rfl, rfl⟩
  go_wp2_with fail
  refine (steps12_any w9 (HG.out _ HK8.out) (by decide) (cl_in (by decide) (by decide) (by decide) (by decide)) rfl).mono ?_; rintro e w10 ⟨rfl, hk10⟩
  have HK10 := Lib.hid (HK8.out.trans hk10 (FSub.refl _ _)); clear hk10 HK8
  go_wp2_with fail
  go_ret
  exact ⟨rfl, HK10.out⟩
end Go.Proofs.YtbjhgdimciibcaaDoor
/-
  LockRuns' walk.
-/
namespace Go.Proofs.YtbjhgdimciibcaaDoor
open Go.RowKit
section
variable {ops : Array Oper} {S : World → Prop} {o : Oper} {a : Act}
theorem yields_indexA (hw : Region.wanted o (yielded ops a.tmps) = true) (x y : Operand) (ho : o.op = .indexAddr 45 x y) (g of n c k : Nat) (hx : a.eval x = .slice (some ⟨g, of, none⟩) n c) (hy : a.eval y = .int .i64 k) (hk : k < n) :
    YieldsIf Tryd.prog ops S o (.pointer (some ⟨g, of + k * 2, none⟩)) a :=
  Or.inl ⟨hw, by
    have hk2 : (k : Int) < n := by omega
    intro w _
    unfold execOp
    simp only [ho, hx, hy]
    go_simp⟩
end
set_option maxHeartbeats 8000000
set_option maxRecDepth 100000
end Go.Proofs.YtbjhgdimciibcaaDoor
/-
  LockKnown's walk.
-/
namespace Go.Proofs.YtbjhgdimciibcaaDoor
open Go.RowKit
section
variable {ops : Array Oper} {rest : List Oper} {a : Act} {w : World} {Q : Exit → Act → World → Prop} {S : World → Prop} {o : Oper}
set_option maxRecDepth 100000 in
theorem wpList_litCl {dst : Option Tmp} {ty : TypeId} {pos : String} {after : Array Edge} {n : Nat} {xs : Array (Nat × Operand)} (L : List Cl) (hn : n = L.length)
    (hx : (xs.toList.map fun p => (p.1, a.eval p.2)) = ((L.map fun y => Value.agg (clC y).toArray).zipIdx 0).map fun x => (x.2, x.1)) (hs : L.length ≤ 1000) (hp : 0 < L.length)
    (h : ∀ W, W.heap.size = w.heap.size + 1 → Keeps [] w W → rkCl.In W.heap.size W (.slice (some ⟨w.heap.size, 0, none⟩) n n) L → wpList Tryd.prog ops Q rest (a.put dst (.slice (some ⟨w.heap.size, 0, none⟩) n n)) W) :
    wpList Tryd.prog ops Q ({ dst := dst, op := .buildSlice 44 n xs, type := ty, pos := pos, after := after, guard := none } :: rest) a w := by
  subst hn
  refine wpList_plain rfl fun _ hK => rkCl.wp_buildL xs L rfl (by rw [Array.toList_map]; exact hx) (by show L.length * 6 ≤ 10000; omega) hp (hK _ _ (h _ (Array.size_push _) ((Keeps.refl [] w).alloc _) ?_))
  exact rkCl.lit_in (heap_alloc_new w _) (by rw [show (w.alloc _).heap.size = w.heap.size + 1 from Array.size_push _]; omega) (by omega)
theorem yields_indexB8 (hw : Region.wanted o (yielded ops a.tmps) = true) (x y : Operand) (ho : o.op = .indexAddr 40 x y) (g n c k : Nat) (hx : a.eval x = .slice (some ⟨g, 0, none⟩) n c) (hy : a.eval y = .int .i64 k) (hk : k < n) :
    YieldsIf Tryd.prog ops S o (.pointer (some ⟨g, k, none⟩)) a :=
  Or.inl ⟨hw, by
    have hk2 : (k : Int) < n := by omega
    intro w _
    unfold execOp
    simp only [ho, hx, hy]
    go_simp⟩
end
def kn5 : List Cl := [⟨0, ⟨10, 0, 0, 0, 0⟩⟩, ⟨1, ⟨10, 0, 0, 0, 0⟩⟩, ⟨1, ⟨11, 0, 0, 0, 0⟩⟩, ⟨0, ⟨11, 0, 0, 0, 0⟩⟩, ⟨1, ⟨10, 0, 0, 0, 0⟩⟩]
def kn2 : List Cl := [⟨0, ⟨10, 0, 0, 0, 0⟩⟩, ⟨0, ⟨1, 0, 0, 0, 0⟩⟩]
def knA : List Ans := [⟨3, 0⟩, ⟨4, 0⟩, ⟨4, 0⟩, ⟨3, 0⟩, ⟨3, 0⟩]
theorem kn5_in : ∀ y ∈ kn5, y.In := by
  intro y hy
  simp only [kn5, List.mem_cons, List.not_mem_nil, or_false] at hy
  rcases hy with rfl | rfl | rfl | rfl | rfl <;> exact cl_in (by decide) (by decide) (by decide) (by decide)
theorem kn2_in : ∀ y ∈ kn2, y.In := by
  intro y hy
  simp only [kn2, List.mem_cons, List.not_mem_nil, or_false] at hy
  rcases hy with rfl | rfl <;> exact cl_in (by decide) (by decide) (by decide) (by decide)
theorem kn5_X : stS lkY 0 kn5 = 2 ∧ stL lkY 0 kn5 = knA ∧ stE lkY 0 kn5 = 0 := ⟨rfl, rfl, rfl⟩
theorem kn2_X : stS lkY 0 kn2 = 1 ∧ stL lkY 0 kn2 = [⟨3, 0⟩] ∧ stE lkY 0 kn2 = 10 := ⟨rfl, rfl, rfl⟩
theorem kn_at {k : Nat} (h : k < 5) : ∃ kk, knA[k]'h = ⟨kk, 0⟩ ∧ (#[.int .u8 3, .int .u8 4, .int .u8 4, .int .u8 3, .int .u8 3] : Array Value)[k]? = some (.int .u8 kk) := by
  match k, h with
  | 0, _ => exact ⟨3, rfl, rfl⟩
  | 1, _ => exact ⟨4, rfl, rfl⟩
  | 2, _ => exact ⟨4, rfl, rfl⟩
  | 3, _ => exact ⟨3, rfl, rfl⟩
  | 4, _ => exact ⟨3, rfl, rfl⟩
set_option maxHeartbeats 8000000
set_option maxRecDepth 100000
theorem LockKnown_any (w : World) (hG : Glob4 w) : Calls Tryd.prog 9 #[] w fun e w' => e = .returned (.bool true) ∧ Keeps [] w w' := by
  have HW := Lib.hid (fun w' (h : Keeps [] w w') => works12_any w' (hG.new h))
  have HG := Lib.hid (fun w' (h : Keeps [] w w') => hG.new h)
  clear hG
  go_enter Tryd.func9, Tryd.ntmps9
  go_wp2_with fail
  refine (lkNew_any w).mono ?_; rintro e w1 ⟨rfl, rfl⟩
  go_wp2_with fail
  refine (acq12_any _ 0).mono ?_; rintro e w2 ⟨rfl, hk⟩
  have HK2 := Lib.hid hk; clear hk
  go_wp2_with fail
  refine (acq12_any _ 1).mono ?_; rintro e w3 ⟨rfl, hk⟩
  have HK3 := Lib.hid (HK2.out.trans hk (FSub.refl _ _)); clear hk HK2
  go_wp2_with fail
  refine (rel12_any _ 1).mono ?_; rintro e w4 ⟨rfl, hk⟩
  have HK4 := Lib.hid (HK3.out.trans hk (FSub.refl _ _)); clear hk HK3
  go_wp2_with fail
  refine (rel12_any _ 0).mono ?_; rintro e w5 ⟨rfl, hk⟩
  have HK5 := Lib.hid (HK4.out.trans hk (FSub.refl _ _)); clear hk HK4
  go_wp2_with fail
  refine (acq12_any _ 1).mono ?_; rintro e w6 ⟨rfl, hk⟩
  have HK6 := Lib.hid (HK5.out.trans hk (FSub.refl _ _)); clear hk HK5
  go_wp2_with ((with_reducible refine wpList_litCl kn5 ?_ ?_ ?_ ?_ ?_); exact rfl; exact rfl; exact (by decide); exact (by decide))
  intro w7 hz hk hi
  have HK7 := Lib.hid (HK6.out.trans hk (FSub.refl _ _)); have HI7 := Lib.hid hi; clear hz hk hi HK6
  generalize w6.heap.size = g6 at *
  go_wp2_with fail
  refine (lkRun_any w7 (HG.out _ HK7.out) (s := 0) (by decide) kn5_in HI7.out (by decide)).mono ?_
  rw [kn5_X.1, kn5_X.2.1, kn5_X.2.2]
  rintro e w8 ⟨v8, rfl, ho, hk⟩
  have HK8 := Lib.hid (HK7.out.trans hk (FSub.refl _ _))
  have hi := ho.in_
  obtain ⟨a8, c8, hv8, hc8, hm8⟩ := ho.shape
  replace hv8 : v8 = .slice a8 5 c8 := hv8
  subst hv8
  replace hi : rkA.In w8.heap.size w8 (.slice a8 5 c8) knA := hi
  replace hc8 : 5 ≤ c8 := hc8
  have HI8 := Lib.hid hi
  clear ho hk HK7 HI7 hi
  go_wp2_with fail
  have hka : Keeps [] w8 (w8.alloc (.cells #[.int .u8 3, .int .u8 4, .int .u8 4, .int .u8 3, .int .u8 3] 5)) := (Keeps.refl _ _).alloc _
  have hb := heap_alloc_new w8 (.cells #[.int .u8 3, .int .u8 4, .int .u8 4, .int .u8 3, .int .u8 3] 5)
  have HK9 := Lib.hid (HK8.out.trans hka (FSub.refl _ _)); have HB9 := Lib.hid hb
  have HI9 := Lib.hid ((HI8.out.new hka (Nat.le_refl _)).more hka.size)
  clear hka hb HK8 HI8
  generalize w8.alloc (.cells #[.int .u8 3, .int .u8 4, .int .u8 4, .int .u8 3, .int .u8 3] 5) = w9 at *
  generalize w8.heap.size = gb at *
  refine (HW.out _ HK9.out).mono ?_; rintro e w10 ⟨rfl, hk⟩
  have HK10 := Lib.hid (HK9.out.trans hk (FSub.refl _ _))
  have HI10 := Lib.hid ((HI9.out.new hk (Nat.le_refl _)).more hk.size)
  have HB10 := Lib.hid (hk.heap HB9.out (by simp))
  clear hk HK9 HI9 HB9
  go_wp2_with fail
  refine (acq12_any _ 0).mono ?_; rintro e w11 ⟨rfl, hk⟩
  have HK11 := Lib.hid (HK10.out.trans hk (FSub.refl _ _))
  have HI11 := Lib.hid ((HI10.out.new hk (Nat.le_refl _)).more hk.size)
  have HB11 := Lib.hid (hk.heap HB10.out (by simp))
  clear hk HK10 HI10 HB10
  go_wp2_with fail
  refine (steps12_any w11 (HG.out _ HK11.out) (s := 1) (by decide) (cl_in (by decide) (by decide) (by decide) (by decide)) (u := 1) (k := 4) rfl).mono ?_; rintro e w12 ⟨rfl, hk⟩
  have HK12 := Lib.hid (HK11.out.trans hk (FSub.refl _ _))
  have HI12 := Lib.hid ((HI11.out.new hk (Nat.le_refl _)).more hk.size)
  have HB12 := Lib.hid (hk.heap HB11.out (by simp))
  clear hk HK11 HI11 HB11
  go_wp2_with fail
  refine (rel12_any _ 0).mono ?_; rintro e w13 ⟨rfl, hk⟩
  have HK13 := Lib.hid (HK12.out.trans hk (FSub.refl _ _))
  have HI13 := Lib.hid ((HI12.out.new hk (Nat.le_refl _)).more hk.size)
  have HB13 := Lib.hid (hk.heap HB12.out (by simp))
  clear hk HK12 HI12 HB12
  go_wp2_with fail
  refine (steps12_any w13 (HG.out _ HK13.out) (s := 0) (by decide) (cl_in (by decide) (by decide) (by decide) (by decide)) (u := 0) (k := 4) rfl).mono ?_; rintro e w14 ⟨rfl, hk⟩
  have HK14 := Lib.hid (HK13.out.trans hk (FSub.refl _ _))
  have HI14 := Lib.hid ((HI13.out.new hk (Nat.le_refl _)).more hk.size)
  have HB14 := Lib.hid (hk.heap HB13.out (by simp))
  clear hk HK13 HI13 HB13
  go_wp2_with fail
  go_loopw [5] (fun i wr => ∃ k : Nat, i = .int .i64 k ∧ k ≤ 5 ∧ Keeps [] w14 wr) (fun i _ => 5 - (intOf i).toNat)
  case atStart => exact ⟨0, rfl, by omega, Keeps.refl _ _⟩
  case round =>
    obtain ⟨k, rfl, hk, hkw⟩ := hrel
    have HKW := Lib.hid hkw
    by_cases hlt : k < 5
    · obtain ⟨kk, he, hb⟩ := kn_at hlt
      obtain ⟨b9, o9, rfl, hb9, hr9⟩ := InA_at HI14.out (k := k) hlt
      rw [he] at hr9
      have HR9 := Lib.hid hr9
      have HBC := Lib.hid (show w14.cell? ⟨gb, k, none⟩ = some (.int .u8 kk) from cell_lit HB14.out k hb)
      have hb1 : (k : Int) < 5 := by omega
      have t7 : (kk == kk) = true := by simp
      clear he hb hr9 hb9 hkw
      go_wp2_with fail
      obtain ⟨S, hS⟩ : ∃ S : World → Prop, S = fun y => Keeps [] wr y := ⟨_, rfl⟩
      have HSE := Lib.hid hS
      have hSD : S wr.drew := by rw [hS]; exact (Keeps.refl _ _).drew
      have HS5 := Lib.hid (fun (w' : World) (hh : S w') => show w'.rangeAt b9 (o9 + k * 2) (ansC ⟨kk, 0⟩) from by rw [hS] at hh; exact fun j v hv => (HKW.out.trans hh (FSub.refl _ _)).cell (HR9.out j v hv) (by simp))
      have HS6 := Lib.hid (fun (w' : World) (hh : S w') => show w'.cell? ⟨gb, k, none⟩ = some (.int .u8 kk) from by rw [hS] at hh; exact (HKW.out.trans hh (FSub.refl _ _)).cell HBC.out (by simp))
      clear hS
      refine wp_region_noPanic ?_
      refine wp_region_held_drew (S := S) (by kernel_rfl) hSD (fun hHeld => ?_)
      apply wpAnyH_take (i := 0)
      · simp only [List.getElem?_toArray]; rfl
      · kernel_rfl
      · kernel_rfl
      · kernel_rfl
      · exact fun _ _ _ h => h
      · exact Or.inl ⟨by rfl, by intro w hSw; go_simp; try with_reducible rfl⟩
      · assumption
      try simp only [Act.put, List.setIfInBounds_toArray, List.set_cons_zero, List.set_cons_succ]
      apply wpAnyH_take (i := 1)
      · simp only [List.getElem?_toArray]; rfl
      · kernel_rfl
      · kernel_rfl
      · kernel_rfl
      · exact fun _ _ _ h => h
      · exact Or.inl ⟨by rfl, by intro w hSw; go_simp; try with_reducible rfl⟩
      · assumption
      try simp only [Act.put, List.setIfInBounds_toArray, List.set_cons_zero, List.set_cons_succ]
      apply wpAnyH_take (i := 2)
      · simp only [List.getElem?_toArray]; rfl
      · kernel_rfl
      · kernel_rfl
      · kernel_rfl
      · exact fun _ _ _ h => h
      · exact yields_indexA rfl _ _ rfl b9 o9 5 c8 k rfl rfl hlt
      · assumption
      try simp only [Act.put, List.setIfInBounds_toArray, List.set_cons_zero, List.set_cons_succ]
      apply wpAnyH_take (i := 3)
      · simp only [List.getElem?_toArray]; rfl
      · kernel_rfl
      · kernel_rfl
      · kernel_rfl
      · exact fun _ _ _ h => h
      · exact yields_ans ⟨kk, 0⟩ (by rfl) _ rfl b9 (o9 + k * 2) rfl HS5.out
      · assumption
      try simp only [Act.put, List.setIfInBounds_toArray, List.set_cons_zero, List.set_cons_succ]
      apply wpAnyH_take (i := 4)
      · simp only [List.getElem?_toArray]; rfl
      · kernel_rfl
      · kernel_rfl
      · kernel_rfl
      · exact fun _ _ _ h => h
      · exact Or.inl ⟨by rfl, by intro w hSw; go_simp; try with_reducible rfl⟩
      · assumption
      try simp only [Act.put, List.setIfInBounds_toArray, List.set_cons_zero, List.set_cons_succ]
      apply wpAnyH_take (i := 5)
      · simp only [List.getElem?_toArray]; rfl
      · kernel_rfl
      · kernel_rfl
      · kernel_rfl
      · exact fun _ _ _ h => h
      · exact Or.inl ⟨by rfl, by intro w hSw; go_simp; try with_reducible rfl⟩
      · assumption
      try simp only [Act.put, List.setIfInBounds_toArray, List.set_cons_zero, List.set_cons_succ]
      apply wpAnyH_take (i := 6)
      · simp only [List.getElem?_toArray]; rfl
      · kernel_rfl
      · kernel_rfl
      · kernel_rfl
      · exact fun _ _ _ h => h
      · exact yields_indexB8 rfl _ _ rfl gb 5 5 k rfl rfl hlt
      · assumption
      try simp only [Act.put, List.setIfInBounds_toArray, List.set_cons_zero, List.set_cons_succ]
      apply wpAnyH_take (i := 7)
      · simp only [List.getElem?_toArray]; rfl
      · kernel_rfl
      · kernel_rfl
      · kernel_rfl
      · exact fun _ _ _ h => h
      · exact Or.inl ⟨by rfl, by intro w hSw; have q0 := HS6.out w hSw; go_simp; try with_reducible rfl⟩
      · assumption
      try simp only [Act.put, List.setIfInBounds_toArray, List.set_cons_zero, List.set_cons_succ]
      apply wpAnyH_take (i := 8)
      · simp only [List.getElem?_toArray]; rfl
      · kernel_rfl
      · kernel_rfl
      · kernel_rfl
      · exact fun _ _ _ h => h
      · exact Or.inl ⟨by rfl, by intro w hSw; go_simp; try with_reducible rfl⟩
      · assumption
      try simp only [Act.put, List.setIfInBounds_toArray, List.set_cons_zero, List.set_cons_succ]
      apply wpAnyH_take (i := 9)
      · simp only [List.getElem?_toArray]; rfl
      · kernel_rfl
      · kernel_rfl
      · kernel_rfl
      · exact fun _ _ _ h => h
      · exact Or.inl ⟨by rfl, by intro w hSw; go_simp; try with_reducible rfl⟩
      · assumption
      try simp only [Act.put, List.setIfInBounds_toArray, List.set_cons_zero, List.set_cons_succ]
      refine wpAnyH_done (by kernel_rfl) ?_ _
      refine NoPanic.normal ?_
      go_wp2_with fail
      go_roundw
      case rel => exact ⟨k + 1, by go_num, by omega, HKW.out.drew⟩
      case measure => simp [intOf]; omega
    · obtain rfl : k = 5 := by omega
      have HKR := Lib.hid (HK14.out.trans hkw (FSub.refl _ _))
      clear hk hlt hkw
      go_wp2_with fail
      refine (show Calls Tryd.prog 12 #[.int .u8 2] wr fun e w' => e = .returned (.tuple #[.int .u8 1, .bool true]) ∧ w' = wr from lkHolder_any wr 2 (by decide) (by decide)).mono ?_; rintro e x1 ⟨rfl, rfl⟩
      go_wp2_with fail
      refine (show Calls Tryd.prog 12 #[.int .u8 0] x1 fun e w' => e = .returned (.tuple #[.int .u8 0, .bool false]) ∧ w' = x1 from lkHolder_any x1 0 (by decide) (by decide)).mono ?_; rintro e x2 ⟨rfl, rfl⟩
      go_wp2_with fail
      refine (show Calls Tryd.prog 12 #[.int .u8 17] x2 fun e w' => e = .returned (.tuple #[.int .u8 0, .bool false]) ∧ w' = x2 from lkHolder_any x2 17 (by decide) (by decide)).mono ?_; rintro e x3 ⟨rfl, rfl⟩
      go_wp2_with fail
      refine (show Calls Tryd.prog 13 #[.string { data := #[16] }] x3 fun e w' => e = .returned (.tuple #[.int .u8 16, .int .i64 0]) ∧ w' = x3 from lkDecode_any x3 [16]).mono ?_; rintro e x4 ⟨rfl, rfl⟩
      go_wp2_with fail
      refine (show Calls Tryd.prog 13 #[.string { data := #[17] }] x4 fun e w' => e = .returned (.tuple #[.int .u8 0, .int .i64 4]) ∧ w' = x4 from lkDecode_any x4 [17]).mono ?_; rintro e x5 ⟨rfl, rfl⟩
      go_wp2_with fail
      refine (show Calls Tryd.prog 13 #[.string { data := #[] }] x5 fun e w' => e = .returned (.tuple #[.int .u8 0, .int .i64 4]) ∧ w' = x5 from lkDecode_any x5 []).mono ?_; rintro e x6 ⟨rfl, rfl⟩
      go_wp2_with fail
      have hst := lkStep_any x6 (HG.out _ HKR.out) (s := 0) (c := 16) ⟨10, 0, 0, 0, 0⟩ (by decide) (by decide) (cl_in (c := 0) (f := 10) (by decide) (by decide) (by decide) (by decide)).x
      rw [show lkX 0 16 ⟨10, 0, 0, 0, 0⟩ = (0, ⟨0, 0⟩, 2) from rfl] at hst
      refine (show Calls Tryd.prog 10 #[.int .u8 0, .int .u8 16, .agg #[.int .u8 10, .int .u8 0, .int .u8 0, .int .u16 0, .int .u16 0]] x6 _ from hst).mono ?_
      clear hst
      rintro e x7a ⟨rfl, hk⟩
      have HK7a := Lib.hid (HKR.out.trans hk (FSub.refl _ _)); clear hk HKR
      have HC := Lib.hid (show (x7a.alloc (.cells #[.int .u8 0, .int .u16 0] 27)).heap[x7a.heap.size]? = some (.cells (ansC ⟨0, 0⟩).toArray 27 (0, 0)) from heap_alloc_new x7a _)
      have HKA := Lib.hid (show Keeps [] x7a (x7a.alloc (.cells #[.int .u8 0, .int .u16 0] 27)) from (Keeps.refl _ _).alloc _)
      go_wp2_with ((with_reducible refine wpList_putR12 (g := x7a.heap.size) (old := ⟨0, 0⟩) ⟨0, 0⟩ ?_ ?_ HC.out ?_); exact rfl; exact rfl)
      intro x7 hW hk
      have HK7 := Lib.hid (HK7a.out.trans (HKA.out.trans' hk (by simp)) (FSub.refl _ _))
      clear hW hk HC HKA HK7a
      generalize x7a.heap.size = g7 at *
      go_wp2_with fail
      have hst := lkStep_any x7 (HG.out _ HK7.out) (s := 17) (c := 0) ⟨10, 0, 0, 0, 0⟩ (by decide) (by decide) (cl_in (c := 0) (f := 10) (by decide) (by decide) (by decide) (by decide)).x
      rw [show lkX 17 0 ⟨10, 0, 0, 0, 0⟩ = (17, ⟨0, 0⟩, 2) from rfl] at hst
      refine (show Calls Tryd.prog 10 #[.int .u8 17, .int .u8 0, .agg #[.int .u8 10, .int .u8 0, .int .u8 0, .int .u16 0, .int .u16 0]] x7 _ from hst).mono ?_
      clear hst
      rintro e x8a ⟨rfl, hk⟩
      have HK8a := Lib.hid (HK7.out.trans hk (FSub.refl _ _)); clear hk HK7
      have HC := Lib.hid (show (x8a.alloc (.cells #[.int .u8 0, .int .u16 0] 27)).heap[x8a.heap.size]? = some (.cells (ansC ⟨0, 0⟩).toArray 27 (0, 0)) from heap_alloc_new x8a _)
      have HKA := Lib.hid (show Keeps [] x8a (x8a.alloc (.cells #[.int .u8 0, .int .u16 0] 27)) from (Keeps.refl _ _).alloc _)
      go_wp2_with ((with_reducible refine wpList_putR12 (g := x8a.heap.size) (old := ⟨0, 0⟩) ⟨0, 0⟩ ?_ ?_ HC.out ?_); exact rfl; exact rfl)
      intro x8 hW hk
      have HK8 := Lib.hid (HK8a.out.trans (HKA.out.trans' hk (by simp)) (FSub.refl _ _))
      clear hW hk HC HKA HK8a
      generalize x8a.heap.size = g8 at *
      go_wp2_with fail
      have hst := lkStep_any x8 (HG.out _ HK8.out) (s := 0) (c := 16) ⟨1, 0, 0, 0, 0⟩ (by decide) (by decide) (cl_in (c := 0) (f := 1) (by decide) (by decide) (by decide) (by decide)).x
      rw [show lkX 0 16 ⟨1, 0, 0, 0, 0⟩ = (0, ⟨0, 0⟩, 10) from rfl] at hst
      refine (show Calls Tryd.prog 10 #[.int .u8 0, .int .u8 16, .agg #[.int .u8 1, .int .u8 0, .int .u8 0, .int .u16 0, .int .u16 0]] x8 _ from hst).mono ?_
      clear hst
      rintro e x9a ⟨rfl, hk⟩
      have HK9a := Lib.hid (HK8.out.trans hk (FSub.refl _ _)); clear hk HK8
      have HC := Lib.hid (show (x9a.alloc (.cells #[.int .u8 0, .int .u16 0] 27)).heap[x9a.heap.size]? = some (.cells (ansC ⟨0, 0⟩).toArray 27 (0, 0)) from heap_alloc_new x9a _)
      have HKA := Lib.hid (show Keeps [] x9a (x9a.alloc (.cells #[.int .u8 0, .int .u16 0] 27)) from (Keeps.refl _ _).alloc _)
      go_wp2_with ((with_reducible refine wpList_putR12 (g := x9a.heap.size) (old := ⟨0, 0⟩) ⟨0, 0⟩ ?_ ?_ HC.out ?_); exact rfl; exact rfl)
      intro x9 hW hk
      have HK9 := Lib.hid (HK9a.out.trans (HKA.out.trans' hk (by simp)) (FSub.refl _ _))
      clear hW hk HC HKA HK9a
      generalize x9a.heap.size = g9 at *
      go_wp2_with fail
      refine (acq12_any _ 0).mono ?_; rintro e y1 ⟨rfl, hk⟩
      have HKY := Lib.hid (HK9.out.trans hk (FSub.refl _ _)); clear hk HK9
      go_wp2_with ((with_reducible refine wpList_litCl kn2 ?_ ?_ ?_ ?_ ?_); exact rfl; exact rfl; exact (by decide); exact (by decide))
      intro y2 hz hk hi
      have HKY2 := Lib.hid (HKY.out.trans hk (FSub.refl _ _)); have HIY := Lib.hid hi; clear hz hk hi HKY
      generalize y1.heap.size = gy at *
      go_wp2_with fail
      refine (lkRun_any y2 (HG.out _ HKY2.out) (s := 0) (by decide) kn2_in HIY.out (by decide)).mono ?_
      rw [kn2_X.1, kn2_X.2.1, kn2_X.2.2]
      rintro e y3 ⟨vy, rfl, ho, hk⟩
      have HKY3 := Lib.hid (HKY2.out.trans hk (FSub.refl _ _))
      have hi := ho.in_
      obtain ⟨ay, cy, hvy, hcy, hmy⟩ := ho.shape
      replace hvy : vy = .slice ay 1 cy := hvy
      subst hvy
      replace hcy : 1 ≤ cy := hcy
      obtain ⟨b7, o7, rfl, hb7, hr7⟩ := InA_at hi (k := 0) (by decide)
      have HR7 := Lib.hid (show y3.cell? ⟨b7, o7, none⟩ = some (.int .u8 3) from by have := hr7 0 _ rfl; simpa using this)
      clear ho hk HKY2 HIY hi hr7 hb7
      go_wp2_with fail
      refine (show Calls Tryd.prog 14 #[.int .u8 0] y3 fun e w' => e = .returned (.string { data := #[0] }) ∧ Keeps [] y3 w' from lkEncode_any y3 0 (by decide) (by decide)).mono ?_; rintro e y4 ⟨rfl, hk⟩
      have HKY4 := Lib.hid (HKY3.out.trans hk (FSub.refl _ _)); have HR8 := Lib.hid (hk.cell HR7.out (by simp)); clear hk HKY3 HR7
      go_wp2_with fail
      refine (show Calls Tryd.prog 14 #[.int .u8 2] y4 fun e w' => e = .returned (.string { data := #[2] }) ∧ Keeps [] y4 w' from lkEncode_any y4 2 (by decide) (by decide)).mono ?_; rintro e y5 ⟨rfl, hk⟩
      have HKY5 := Lib.hid (HKY4.out.trans hk (FSub.refl _ _)); have c8 := hk.cell HR8.out (by simp); clear hk HKY4 HR8
      go_wp2_with fail
      refine (HW.out _ HKY5.out).mono ?_; rintro e y6 ⟨rfl, hk⟩
      have HKF := Lib.hid (HKY5.out.trans hk (FSub.refl _ _)); clear hk
      go_wp2_with fail
      go_ret
      exact ⟨rfl, HKF.out⟩
end Go.Proofs.YtbjhgdimciibcaaDoor
