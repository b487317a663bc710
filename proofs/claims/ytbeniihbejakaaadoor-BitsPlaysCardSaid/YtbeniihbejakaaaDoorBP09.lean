/-
  The program's queue: Encode.
-/
import Derived.Test.YtbeniihbejakaaaDoorBP00
import Derived.Deep.RegionHeld3
import Derived.Laws.Tables
import Derived.BigQuiet
import Derived.Deep.AppendSrc
import Derived.Lib.SliceRun
import Derived.Laws.MakeOwn
import Derived.Laws.OwnMore
import Derived.Test.YtbeniihbejakaaaDoorBP07
import Derived.Test.YtbeniihbejakaaaDoorBP05
import Derived.Test.YtbeniihbejakaaaDoorBP06
import Derived.Test.YtbeniihbejakaaaDoorBP08
import Derived.Test.YtbeniihbejakaaaDoorBP01
set_option linter.unusedSimpArgs false
set_option linter.unusedVariables false
namespace Go.Proofs.YtbeniihbejakaaaDoor
set_option maxRecDepth 100000
open Go.RowKit
theorem Tryd.infoU8B : (Tryd.prog.info? 5).map (fun i => (i.zero, i.size, i.bytes)) = some (some (.int .u8 0), 1, 1) := by kernel_rfl
def u8C (x : Int) : List Value := [.int .u8 x]
/-- Bytes, side by side. -/
noncomputable def rkB : RK Int :=
  { T := 5, Sl := 67, s := 1, b := 1, cs := u8C, i := (info_parts Tryd.infoU8B).choose, z := .int .u8 0,
    len := fun _ => rfl, one := by intro x v hv; simp only [u8C, List.mem_cons, List.not_mem_nil, or_false] at hv; subst hv; rfl, s0 := by decide, b1 := by decide, und := Tryd.underlying67,
    hi := (info_parts Tryd.infoU8B).choose_spec.1, hz := (info_parts Tryd.infoU8B).choose_spec.2.1, hs := (info_parts Tryd.infoU8B).choose_spec.2.2.1, hb := (info_parts Tryd.infoU8B).choose_spec.2.2.2, hzs := rfl }
section
variable {ops : Array Oper} {rest : List Oper} {o : Oper} {a : Act} {w : World} {K : Act → World → Prop} {Q : Exit → Act → World → Prop}
theorem wp_makeB (x y : Operand) (ho : o.op = .makeSlice 67 x y) {p q v : Value} {w' : World} (hx : a.eval x = p) (hy : a.eval y = q)
    (hr : (Instr.makeSlice 67 p q).run Tryd.prog w = .ok v w') (h : K (a.put o.dst v) w') : o.wp Tryd.prog a w K Q := by
  unfold Oper.wp
  simp [execOp, ho, hx, hy, hr, Result.andThen]
  exact h
theorem wpList_makeB {dst : Option Tmp} {ty : TypeId} {pos : String} {after : Array Edge} {x y : Operand} (p q : Value) {v : Value} {w' : World} (hx : a.eval x = p) (hy : a.eval y = q)
    (hr : (Instr.makeSlice 67 p q).run Tryd.prog w = .ok v w') (h : wpList Tryd.prog ops Q rest (a.put dst v) w') :
    wpList Tryd.prog ops Q ({ dst := dst, op := .makeSlice 67 x y, type := ty, pos := pos, after := after, guard := none } :: rest) a w :=
  wpList_plain rfl fun _ hK => wp_makeB x y rfl hx hy hr (hK _ _ h)
end
theorem conv_own (w : World) {N : Nat} {v : Value} {L : List UInt8} (h : rkB.Own N w v (nb L)) : (convert 67 9 v).run Tryd.prog w = .ok (.string (bs L)) w := by
  by_cases hL : L = []
  · subst hL
    obtain ⟨a, c, rfl, -, -⟩ := h.shape
    rw [show (nb ([] : List UInt8)).length = 0 from rfl]
    cases a with
    | none => exact run_convert_bytes_nil _ _ _ Tryd.underlying67 Tryd.underlying5 0 _ _ Tryd.underlying9
    | some ad =>
      obtain ⟨b, o, sp⟩ := ad
      rcases h.2 with ⟨e, _⟩ | ⟨g, cap, cur, e, _⟩
      · cases e
      · simp only [Value.slice.injEq, Option.some.injEq, Addr.mk.injEq] at e
        obtain ⟨⟨rfl, rfl, rfl⟩, -, rfl⟩ := e
        have := run_convert_bytes_arg w 67 5 Tryd.underlying67 Tryd.underlying5 b 0 0 c [] rfl (fun i hi => absurd hi (Nat.not_lt_zero _)) 9 Tryd.underlying9
        exact this
  · obtain ⟨g, cap, rfl, _, _, _, _, hr⟩ := h.at (fun e => hL (by simpa [nb] using e))
    rw [← str_nb L]
    refine run_convert_bytes_arg w 67 5 Tryd.underlying67 Tryd.underlying5 g 0 _ cap (nb L) rfl (fun i hi => ?_) 9 Tryd.underlying9
    have := hr i hi 0 (.int .u8 (nb L)[i]) rfl
    rw [show i * rkB.s + 0 = 0 + i from by show i * 1 + 0 = _; omega] at this
    rw [List.getD_eq_getElem?_getD, List.getElem?_eq_getElem hi]
    exact this
set_option maxHeartbeats 8000000
set_option maxRecDepth 100000
end Go.Proofs.YtbeniihbejakaaaDoor
/-
  Slices of numbers; the document's sets: Has, Gap, Without, Down, Union.
-/
namespace Go.Proofs.YtbeniihbejakaaaDoor
open Go.RowKit
set_option maxRecDepth 100000
theorem Tryd.infoIntZ : (Tryd.prog.info? 3).map (fun i => (i.zero, i.size, i.bytes)) = some (some (.int .i64 0), 1, 8) := by kernel_rfl
def zC (x : Int) : List Value := [.int .i64 x]
/-- Numbers, side by side. -/
noncomputable def rkZ : RK Int :=
  { T := 3, Sl := 30, s := 1, b := 8, cs := zC, i := (info_parts Tryd.infoIntZ).choose, z := .int .i64 0,
    len := fun _ => rfl, one := by intro x v hv; simp only [zC, List.mem_cons, List.not_mem_nil, or_false] at hv; subst hv; rfl, s0 := by decide, b1 := by decide, und := Tryd.underlying30,
    hi := (info_parts Tryd.infoIntZ).choose_spec.1, hz := (info_parts Tryd.infoIntZ).choose_spec.2.1, hs := (info_parts Tryd.infoIntZ).choose_spec.2.2.1, hb := (info_parts Tryd.infoIntZ).choose_spec.2.2.2, hzs := rfl }
theorem InZ_at {N : Nat} {w : World} {a : Option Addr} {n c : Nat} {l : List Int} (h : rkZ.In N w (.slice a n c) l) {k : Nat} (hk : k < l.length) : ∃ bk o, a = some ⟨bk, o, none⟩ ∧ bk < N ∧ w.cell? ⟨bk, o + k, none⟩ = some (.int .i64 l[k]) := by
  obtain ⟨_, _, e, _, _, h⟩ := h
  simp at e
  obtain ⟨rfl, -, -⟩ := e
  obtain ⟨bk, o, e, hb, hr⟩ := h (fun e => by rw [e] at hk; simp at hk)
  refine ⟨bk, o, e, hb, ?_⟩
  have := hr k hk 0 (.int .i64 l[k]) rfl
  rw [show o + k * rkZ.s + 0 = o + k from by show o + k * 1 + 0 = _; omega] at this
  exact this
section
variable {ops : Array Oper} {rest : List Oper} {o : Oper} {a : Act} {w : World} {K : Act → World → Prop} {Q : Exit → Act → World → Prop}
theorem wp_buildZ (x : Operand) (ho : o.op = .buildSlice 30 1 #[(0, x)]) {y : Int} (hx : a.eval x = .int .i64 y)
    (h : K (a.put o.dst (.slice (some ⟨w.heap.size, 0, none⟩) 1 1)) (w.alloc (.cells (zC y).toArray 3))) : o.wp Tryd.prog a w K Q := by
  refine wp_buildSlice 30 3 1 #[(0, x)] ho #[.int .i64 y] rkZ.i _ rkZ.und rkZ.hi rkZ.hz (by rw [rkZ.hs]; decide) (by rw [rkZ.hs]; decide) ?_ h
  rw [rkZ.hs]
  have e : (#[(0, x)].map fun (i, z) => (i, a.eval z)).toList = [(0, a.eval x)] := by simp
  rw [e, hx, show rkZ.s = 1 from rfl, show rkZ.z = .int .i64 0 from rfl]
  simp [Instr.fill, Value.cells]
  rw [show Array.range 1 = #[0] from rfl]
  simp
theorem wpList_buildZ {dst : Option Tmp} {ty : TypeId} {pos : String} {after : Array Edge} {y : Operand} {x : Int} (hy : a.eval y = .int .i64 x)
    (h : wpList Tryd.prog ops Q rest (a.put dst (.slice (some ⟨w.heap.size, 0, none⟩) 1 1)) (w.alloc (.cells (zC x).toArray 3))) :
    wpList Tryd.prog ops Q ({ dst := dst, op := .buildSlice 30 1 #[(0, y)], type := ty, pos := pos, after := after, guard := none } :: rest) a w :=
  wpList_plain rfl fun _ hK => wp_buildZ y rfl hy (hK _ _ h)
end
set_option maxHeartbeats 4000000
theorem takeZ {l : List Int} {k : Nat} (hk : k < l.length) : l.take (k + 1) = l.take k ++ [l[k]] := by
  rw [List.take_add_one, List.getElem?_eq_getElem hk, Option.toList_some]
theorem r15Has_any (w : World) {v : Value} {l : List Int} (h : rkZ.In w.heap.size w v l) (n : Int) : Calls Tryd.prog 12 #[v, .int .i64 n] w fun e w' => e = .returned (.bool (decide (n ∈ l))) ∧ Keeps [] w w' := by
  obtain ⟨a, c, rfl, hc, hm, -⟩ := id h
  have HI := Lib.hid h
  clear h
  generalize hn : l.length = m at *
  have HN := Lib.hid hn
  clear hn
  go_enter Tryd.func12, Tryd.ntmps12
  go_wp2_with fail
  go_loopw [5] (fun i wr => ∃ k : Nat, i = .int .i64 k ∧ k ≤ m ∧ n ∉ l.take k ∧ wr = w) (fun i _ => m - (intOf i).toNat)
  case atStart => exact ⟨0, rfl, by omega, by simp, rfl⟩
  case round =>
    obtain ⟨k, rfl, hk, hno, rfl⟩ := hrel
    have HNO := Lib.hid hno
    clear hno
    by_cases hlt : k < m
    · have hkl : k < l.length := by rw [HN.out]; exact hlt
      obtain ⟨bk, o, rfl, -, c1⟩ := InZ_at HI.out hkl
      have HT := Lib.hid (takeZ hkl); have HM := Lib.hid (List.getElem_mem hkl)
      generalize l[k] = y at *
      by_cases hy : y = n
      · subst hy
        have q0 : (y == y) = true := by simp
        go_wp2_with fail
        go_ret
        exact ⟨by rw [decide_eq_true HM.out]; rfl, Keeps.refl _ _⟩
      · have q0 : (y == n) = false := by simpa using hy
        have HY := Lib.hid hy
        clear hy
        go_wp2_with fail
        go_roundw
        case rel => exact ⟨k + 1, by go_num, by omega, by rw [HT.out]; intro hh; rcases List.mem_append.1 hh with h | h; exact HNO.out h; simp at h; exact HY.out h.symm, by first | rfl | trivial⟩
        case measure => simp [intOf]; omega
    · obtain rfl : k = m := by omega
      have hta : l.take k = l := List.take_of_length_le (by rw [HN.out]; exact Nat.le_refl _)
      have hno := HNO.out
      rw [hta] at hno
      have HX := Lib.hid hno
      clear hno hta
      go_wp2_with fail
      go_ret
      exact ⟨by rw [decide_eq_false HX.out]; rfl, Keeps.refl _ _⟩
theorem r15Gap_any (w : World) {v : Value} {l : List Int} (h : rkZ.In w.heap.size w v l) (hB : BIn l) (n : Int) : Calls Tryd.prog 14 #[v, .int .i64 n] w fun e w' => e = .returned (.int .i64 (gapB l n)) ∧ Keeps [] w w' := by
  have HHAS := Lib.hid (fun w' (hk : Keeps [] w w') (x : Int) => r15Has_any w' ((h.new hk (Nat.le_refl _)).more hk.size) x)
  have HB := Lib.hid hB
  obtain ⟨G, hG⟩ : ∃ G, G = gapB l n := ⟨_, rfl⟩
  have HS := Lib.hid (gapB_spec hB n)
  rw [← hG] at HS ⊢
  clear h hB hG
  go_enter Tryd.func14, Tryd.ntmps14
  by_cases hneg : n < 0
  all_goals
    rw [show (if n < 0 then (0 : Int) else n) = _ from (by first | exact if_pos hneg | exact if_neg hneg)] at HS
    go_wp2_with fail
    go_loopw [1] (fun i wr => ∃ x : Int, i = .int .i64 x ∧ 0 ≤ x ∧ x ≤ G ∧ (∀ y, x ≤ y → y < G → y ∈ l) ∧ Keeps [] w wr) (fun i _ => (G - (match i with | .int _ z => z | _ => 0)).toNat)
    case atStart => exact ⟨_, rfl, by omega, HS.out.1, HS.out.2.1, Keeps.refl _ _⟩
    case round =>
      obtain ⟨x, rfl, h0, hx, hall, hk⟩ := hrel
      have HK := Lib.hid hk; have HA := Lib.hid hall
      clear hk hall
      go_wp2_with fail
      refine (HHAS.out wr HK.out x).mono ?_; rintro e w1 ⟨rfl, hk⟩
      replace HK := Lib.hid (HK.out.trans hk (FSub.refl _ _))
      clear hk
      by_cases hm : x ∈ l
      · have h1 := (HB.out.2 x hm).2
        have h2 : x ≠ G := fun e => HS.out.2.2 (e ▸ hm)
        rw [decide_eq_true hm]
        clear hm
        go_wp2_with fail
        go_roundw
        case rel => exact ⟨x + 1, by go_num, by omega, by omega, fun y hy hl => HA.out y (by omega) hl, HK.out⟩
        case measure => simp; omega
      · have h2 : x = G := by
          by_cases h : x < G
          · exact absurd (HA.out x (Int.le_refl _) h) hm
          · omega
        rw [decide_eq_false hm]
        subst h2
        clear hm
        go_wp2_with fail
        go_ret
        exact ⟨rfl, HK.out⟩
end Go.Proofs.YtbeniihbejakaaaDoor
/-
  The document's sets: Without, Down, With, Union; the law's listed.
-/
namespace Go.Proofs.YtbeniihbejakaaaDoor
open Go.RowKit
set_option maxRecDepth 100000
set_option maxHeartbeats 4000000
theorem withoutB_next {l : List Int} {k : Nat} (hk : k < l.length) (n : Int) : withoutB (l.take (k + 1)) n = withoutB (l.take k) n ++ if l[k] = n then [] else [l[k]] := by
  rw [takeZ hk]
  unfold withoutB
  rw [List.filter_append]
  by_cases h : l[k] = n
  · rw [if_pos h, List.filter_cons_of_neg (by simpa using h), List.filter_nil]
  · rw [if_neg h, List.filter_cons_of_pos (by simpa using h), List.filter_nil]
theorem withoutB_len (l : List Int) (n : Int) : (withoutB l n).length ≤ l.length := List.length_filter_le ..
theorem downB_next {l : List Int} {k : Nat} (hk : k < l.length) {b c : Int} (hc : c = if b < 0 then 0 else b) : downB (l.take (k + 1)) b = downB (l.take k) b ++ if c ≤ l[k] then [l[k] - c] else [] := by
  rw [takeZ hk]
  unfold downB
  rw [← hc, List.filter_append, List.map_append]
  by_cases h : c ≤ l[k]
  · rw [if_pos h, List.filter_cons_of_pos (by simpa using h), List.filter_nil]; rfl
  · rw [if_neg h, List.filter_cons_of_neg (by simpa using h), List.filter_nil]; rfl
theorem downB_len (l : List Int) (b : Int) : (downB l b).length ≤ l.length := by unfold downB; rw [List.length_map]; exact List.length_filter_le ..
theorem r15Without_any (w : World) {v : Value} {l : List Int} (h : rkZ.In w.heap.size w v l) (hl : l.length ≤ 1000000) (n : Int) : Calls Tryd.prog 30 #[v, .int .i64 n] w fun e w' => ∃ v', e = .returned v' ∧ rkZ.Own w.heap.size w' v' (withoutB l n) ∧ Keeps [] w w' := by
  obtain ⟨a, c, rfl, hc, hm, -⟩ := id h
  have HI := Lib.hid h
  have HL := Lib.hid hl
  clear h
  generalize hn : l.length = m at *
  have HN := Lib.hid hn
  clear hn
  go_enter Tryd.func30, Tryd.ntmps30
  go_wp2_with fail
  go_loopw [5, 6] (fun v i wr => ∃ k : Nat, i = .int .i64 k ∧ k ≤ m ∧ rkZ.Own w.heap.size wr v (withoutB (l.take k) n) ∧ Keeps [] w wr) (fun _ i _ => m - (intOf i).toNat)
  case atStart => exact ⟨0, rfl, by omega, RK.Own.nil rkZ _ _, Keeps.refl _ _⟩
  case round =>
    obtain ⟨k, rfl, hk, hz, hkw⟩ := hrel
    have HZ := Lib.hid hz; have HK := Lib.hid hkw
    by_cases hlt : k < m
    · have hkl : k < l.length := by rw [HN.out]; exact hlt
      have HLN := Lib.hid (show (withoutB (l.take k) n).length ≤ 1000000 from Nat.le_trans (withoutB_len _ _) (by rw [List.length_take]; have := HL.out; omega))
      obtain ⟨bk, o, rfl, -, c1⟩ := InZ_at (HI.out.new hkw (Nat.le_refl _)) hkl
      have HX := Lib.hid (withoutB_next hkl n)
      clear hz hkw
      generalize l[k] = y at *
      generalize withoutB (l.take k) n = L at *
      by_cases hy : y = n
      · have q0 : (y != n) = false := by simp [hy]
        have HY := Lib.hid hy
        clear hy
        go_wp2_with fail
        go_roundw
        case rel => exact ⟨k + 1, by go_num, by omega, by rw [HX.out, if_pos HY.out, List.append_nil]; exact HZ.out, HK.out⟩
        case measure => simp [intOf]; omega
      · have q0 : (y != n) = true := by simpa using hy
        have HY := Lib.hid hy
        clear hy
        obtain ⟨v', w3, hrun, hrow, hk3, hf3⟩ := rkZ.append1 wr w.heap.size HK.out.size _ _ HZ.out (y) (by have := HLN.out; omega)
        obtain ⟨av, cv, rfl, -, -⟩ := id HZ.out.shape
        have HRUN := Lib.hid (show (Builtin.append_ #[30, 30] 30 #[.slice av _ cv, .slice (some ⟨wr.heap.size, 0, none⟩) 1 1]).run Tryd.prog (wr.alloc (.cells (zC (y)).toArray 3)) = .ok v' w3 from hrun)
        have HROW := Lib.hid hrow
        have HK3 := Lib.hid (HK.out.trans hk3 (fun q hq => .inr (row_base HZ.out q hq).1))
        clear hrun hrow hk3 hf3 HK HZ
        go_wp2_with (first
          | ((with_reducible refine wpList_buildZ (x := y) ?_ ?_); exact rfl)
          | ((with_reducible refine wpList_app _ _ ?_ ?_ HRUN.out ?_); exact rfl; exact rfl))
        go_roundw
        case rel => exact ⟨k + 1, by go_num, by omega, by rw [HX.out, if_neg HY.out]; exact HROW.out, HK3.out⟩
        case measure => simp [intOf]; omega
    · obtain rfl : k = m := by omega
      have hta : l.take k = l := List.take_of_length_le (by rw [HN.out]; exact Nat.le_refl _)
      rw [hta] at hz
      have HZ := Lib.hid hz
      clear hz hta hkw
      go_wp2_with fail
      go_ret
      exact ⟨_, rfl, HZ.out, HK.out⟩
theorem r15Down_any (w : World) {v : Value} {l : List Int} (h : rkZ.In w.heap.size w v l) (hB : BIn l) (hl : l.length ≤ 1000000) (b : Int) : Calls Tryd.prog 33 #[v, .int .i64 b] w fun e w' => ∃ v', e = .returned v' ∧ rkZ.Own w.heap.size w' v' (downB l b) ∧ Keeps [] w w' := by
  have HBI := Lib.hid hB.2
  clear hB
  obtain ⟨a, c, rfl, hc, hm, -⟩ := id h
  have HI := Lib.hid h
  have HL := Lib.hid hl
  clear h
  generalize hn : l.length = m at *
  have HN := Lib.hid hn
  clear hn
  go_enter Tryd.func33, Tryd.ntmps33
  by_cases hneg : b < 0
  case pos =>
    have HB0 := Lib.hid (show 0 = if b < 0 then 0 else b from by first | exact (if_pos hneg).symm | exact (if_neg hneg).symm)
    go_wp2_with fail
    go_loopw [5, 6] (fun v i wr => ∃ k : Nat, i = .int .i64 k ∧ k ≤ m ∧ rkZ.Own w.heap.size wr v (downB (l.take k) b) ∧ Keeps [] w wr) (fun _ i _ => m - (intOf i).toNat)
    case atStart => exact ⟨0, rfl, by omega, RK.Own.nil rkZ _ _, Keeps.refl _ _⟩
    case round =>
      obtain ⟨k, rfl, hk, hz, hkw⟩ := hrel
      have HZ := Lib.hid hz; have HK := Lib.hid hkw
      by_cases hlt : k < m
      · have hkl : k < l.length := by rw [HN.out]; exact hlt
        have HLN := Lib.hid (show (downB (l.take k) b).length ≤ 1000000 from Nat.le_trans (downB_len _ _) (by rw [List.length_take]; have := HL.out; omega))
        obtain ⟨bk, o, rfl, -, c1⟩ := InZ_at (HI.out.new hkw (Nat.le_refl _)) hkl
        have HX := Lib.hid (downB_next hkl HB0.out)
        have hy := HBI.out l[k] (List.getElem_mem hkl)
        clear hz hkw
        generalize l[k] = y at *
        generalize downB (l.take k) b = L at *
        by_cases hyb : 0 ≤ y
        case pos =>
          have HY := Lib.hid hyb
          obtain ⟨v', w3, hrun, hrow, hk3, hf3⟩ := rkZ.append1 wr w.heap.size HK.out.size _ _ HZ.out (y) (by have := HLN.out; omega)
          obtain ⟨av, cv, rfl, -, -⟩ := id HZ.out.shape
          have HRUN := Lib.hid (show (Builtin.append_ #[30, 30] 30 #[.slice av _ cv, .slice (some ⟨wr.heap.size, 0, none⟩) 1 1]).run Tryd.prog (wr.alloc (.cells (zC (y)).toArray 3)) = .ok v' w3 from hrun)
          have HROW := Lib.hid hrow
          have HK3 := Lib.hid (HK.out.trans hk3 (fun q hq => .inr (row_base HZ.out q hq).1))
          clear hrun hrow hk3 hf3 HK HZ
          go_wp2_with (first
            | ((with_reducible refine wpList_buildZ (x := y) ?_ ?_); exact rfl)
            | ((with_reducible refine wpList_app _ _ ?_ ?_ HRUN.out ?_); exact rfl; exact rfl))
          go_roundw
          case rel => exact ⟨k + 1, by go_num, by omega, by rw [HX.out, if_pos HY.out, show y - 0 = y by omega]; exact HROW.out, HK3.out⟩
          case measure => simp [intOf]; omega
        case neg =>
          exact absurd hy.1 hyb
      · obtain rfl : k = m := by omega
        have hta : l.take k = l := List.take_of_length_le (by rw [HN.out]; exact Nat.le_refl _)
        rw [hta] at hz
        have HZ := Lib.hid hz
        clear hz hta hkw
        go_wp2_with fail
        go_ret
        exact ⟨_, rfl, HZ.out, HK.out⟩
  case neg =>
    have HB0 := Lib.hid (show b = if b < 0 then 0 else b from by first | exact (if_pos hneg).symm | exact (if_neg hneg).symm)
    go_wp2_with fail
    go_loopw [5, 6] (fun v i wr => ∃ k : Nat, i = .int .i64 k ∧ k ≤ m ∧ rkZ.Own w.heap.size wr v (downB (l.take k) b) ∧ Keeps [] w wr) (fun _ i _ => m - (intOf i).toNat)
    case atStart => exact ⟨0, rfl, by omega, RK.Own.nil rkZ _ _, Keeps.refl _ _⟩
    case round =>
      obtain ⟨k, rfl, hk, hz, hkw⟩ := hrel
      have HZ := Lib.hid hz; have HK := Lib.hid hkw
      by_cases hlt : k < m
      · have hkl : k < l.length := by rw [HN.out]; exact hlt
        have HLN := Lib.hid (show (downB (l.take k) b).length ≤ 1000000 from Nat.le_trans (downB_len _ _) (by rw [List.length_take]; have := HL.out; omega))
        obtain ⟨bk, o, rfl, -, c1⟩ := InZ_at (HI.out.new hkw (Nat.le_refl _)) hkl
        have HX := Lib.hid (downB_next hkl HB0.out)
        have hy := HBI.out l[k] (List.getElem_mem hkl)
        clear hz hkw
        generalize l[k] = y at *
        generalize downB (l.take k) b = L at *
        by_cases hyb : b ≤ y
        case pos =>
          have HY := Lib.hid hyb
          obtain ⟨v', w3, hrun, hrow, hk3, hf3⟩ := rkZ.append1 wr w.heap.size HK.out.size _ _ HZ.out ((y - b)) (by have := HLN.out; omega)
          obtain ⟨av, cv, rfl, -, -⟩ := id HZ.out.shape
          have HRUN := Lib.hid (show (Builtin.append_ #[30, 30] 30 #[.slice av _ cv, .slice (some ⟨wr.heap.size, 0, none⟩) 1 1]).run Tryd.prog (wr.alloc (.cells (zC ((y - b))).toArray 3)) = .ok v' w3 from hrun)
          have HROW := Lib.hid hrow
          have HK3 := Lib.hid (HK.out.trans hk3 (fun q hq => .inr (row_base HZ.out q hq).1))
          clear hrun hrow hk3 hf3 HK HZ
          go_wp2_with (first
            | ((with_reducible refine wpList_buildZ (x := (y - b)) ?_ ?_); exact rfl)
            | ((with_reducible refine wpList_app _ _ ?_ ?_ HRUN.out ?_); exact rfl; exact rfl))
          go_roundw
          case rel => exact ⟨k + 1, by go_num, by omega, by rw [HX.out, if_pos HY.out, show y - b = (y - b) by omega]; exact HROW.out, HK3.out⟩
          case measure => simp [intOf]; omega
        case neg =>
          have HY := Lib.hid hyb
          have q1 : y < b := by omega
          go_wp2_with fail
          go_roundw
          case rel => exact ⟨k + 1, by go_num, by omega, by rw [HX.out, if_neg HY.out, List.append_nil]; exact HZ.out, HK.out⟩
          case measure => simp [intOf]; omega
      · obtain rfl : k = m := by omega
        have hta : l.take k = l := List.take_of_length_le (by rw [HN.out]; exact Nat.le_refl _)
        rw [hta] at hz
        have HZ := Lib.hid hz
        clear hz hta hkw
        go_wp2_with fail
        go_ret
        exact ⟨_, rfl, HZ.out, HK.out⟩
/-- A beginning, and an end, of a slice of numbers. -/
theorem InZ_take {N : Nat} {w : World} {a : Option Addr} {n c : Nat} {l : List Int} (h : rkZ.In N w (.slice a n c) l) {k : Nat} (hk : k ≤ n) : rkZ.In N w (.slice a k c) (l.take k) := by
  obtain ⟨b, d, e, h1, h2, h⟩ := h
  simp at e
  obtain ⟨rfl, rfl, rfl⟩ := e
  have hl : (l.take k).length = k := by rw [List.length_take]; omega
  refine ⟨a, c, by rw [hl], by omega, h2, fun hn => ?_⟩
  obtain ⟨bk, o, e, hb, hr⟩ := h (fun e => hn (by rw [e]; simp))
  refine ⟨bk, o, e, hb, fun j hj => ?_⟩
  rw [List.getElem_take]
  exact hr j (by omega)
theorem InZ_drop {N : Nat} {w : World} {bk o n c : Nat} {l : List Int} (h : rkZ.In N w (.slice (some ⟨bk, o, none⟩) n c) l) {k : Nat} (hk : k < n) : rkZ.In N w (.slice (some ⟨bk, o + k, none⟩) (n - k) (c - k)) (l.drop k) := by
  obtain ⟨b, d, e, h1, h2, h⟩ := h
  simp at e
  obtain ⟨rfl, rfl, rfl⟩ := e
  have hl : (l.drop k).length = l.length - k := List.length_drop
  refine ⟨_, _, by rw [hl], by omega, by omega, fun hn => ?_⟩
  obtain ⟨bk', o', e, hb, hr⟩ := h (fun e => hn (by rw [e]; simp))
  simp at e
  obtain ⟨rfl, rfl⟩ := e
  refine ⟨_, _, rfl, hb, fun j hj => ?_⟩
  rw [List.getElem_drop]
  have := hr (k + j) (by omega)
  rw [show o + k + j * rkZ.s = o + (k + j) * rkZ.s from by show o + k + j * 1 = o + (k + j) * 1; omega]
  exact this
theorem InZ_nil {N : Nat} {w : World} {a : Option Addr} {c : Nat} (h : c ≤ 9223372036854775807) : rkZ.In N w (.slice a 0 c) [] := ⟨a, c, rfl, Nat.zero_le _, h, fun hn => absurd rfl hn⟩
/-- Nothing is appended. -/
theorem wpList_appZ0 {ops : Array Oper} {rest : List Oper} {a : Act} {w : World} {Q : Exit → Act → World → Prop} {dst : Option Tmp} {pos : String} {after : Array Edge} {s x : Operand} {p q : Option Addr} {n c d : Nat} (hc : n ≤ c) (hs : a.eval s = .slice p n c) (hx : a.eval x = .slice q 0 d)
    (h : wpList Tryd.prog ops Q rest (a.put dst (.slice p n c)) w) :
    wpList Tryd.prog ops Q ({ dst := dst, op := .call { callee := .builtin .append, args := #[s, x], argTypes := #[30, 30] }, type := 30, pos := pos, after := after, guard := none } :: rest) a w :=
  wpList_app _ _ hs hx (show (Builtin.append_ #[30, 30] 30 #[.slice p n c, .slice q 0 d]).run Tryd.prog w = .ok (.slice p n c) w from rkZ.append0 w p q n c d hc) h
/-- What With tells. -/
def PostZ (w : World) (v0 : Value) (l0 L : List Int) (e : Ending) (w' : World) : Prop := ∃ v', e = .returned v' ∧ rkZ.In w'.heap.size w' v' L ∧ Keeps [] w w' ∧ (L ≠ [] → ∀ q ∈ own v', (l0 ≠ [] ∧ q ∈ own v0) ∨ w.heap.size ≤ q)
theorem r15With_any (w : World) {v : Value} {l : List Int} (h : rkZ.In w.heap.size w v l) (hB : BIn l) (n : Int) : Calls Tryd.prog 34 #[v, .int .i64 n] w (PostZ w v l (withB l n)) := by
  have hl : l.length ≤ 1000000 := Nat.le_trans hB.len (by decide)
  have HB := Lib.hid hB
  have HHAS := Lib.hid (r15Has_any w h n)
  clear hB
  obtain ⟨a, c, rfl, hc, hm, -⟩ := id h
  have HI := Lib.hid h
  have HL := Lib.hid hl
  clear h
  generalize hn : l.length = m at *
  have HN := Lib.hid hn
  clear hn
  by_cases hr : 0 ≤ n ∧ n ≤ 65535
  case neg =>
    have HR := Lib.hid hr
    go_enter Tryd.func34, Tryd.ntmps34
    by_cases h0 : n < 0
    case pos =>
      clear hr
      go_wp2_with fail
      go_ret
      exact ⟨_, rfl, by unfold withB; rw [if_neg HR.out]; exact HI.out, Keeps.refl _ _, by unfold withB; rw [if_neg HR.out]; exact fun hn q hq => .inl ⟨hn, hq⟩⟩
    case neg =>
      have h1 : 65535 < n := by omega
      clear hr
      go_wp2_with fail
      go_ret
      exact ⟨_, rfl, by unfold withB; rw [if_neg HR.out]; exact HI.out, Keeps.refl _ _, by unfold withB; rw [if_neg HR.out]; exact fun hn q hq => .inl ⟨hn, hq⟩⟩
  have HW := Lib.hid (show withB l n = insB n l from if_pos hr)
  rw [HW.out]
  obtain ⟨hr0, hr1⟩ := hr
  go_enter Tryd.func34, Tryd.ntmps34
  go_wp2_with fail
  refine HHAS.out.mono ?_; rintro e w1 ⟨rfl, hk1⟩
  have HK1 := Lib.hid hk1; have HI1 := Lib.hid ((HI.out.new hk1 (Nat.le_refl _)).more hk1.size)
  clear hk1
  by_cases hm : n ∈ l
  case pos =>
    rw [decide_eq_true hm]
    have HM := Lib.hid hm
    clear hm
    go_wp2_with fail
    go_ret
    exact ⟨_, rfl, by rw [insB_mem HB.out.1 HM.out]; exact HI1.out, HK1.out, by rw [insB_mem HB.out.1 HM.out]; exact fun hn q hq => .inl ⟨hn, hq⟩⟩
  rw [decide_eq_false hm]
  have HM := Lib.hid hm
  clear hm HI
  go_wp2_with fail
  go_loopw [5] (fun i wr => ∃ k : Nat, i = .int .i64 k ∧ k ≤ m ∧ (∀ j (hj : j < k) (hl : j < l.length), l[j] < n) ∧ wr = w1) (fun i _ => m - (intOf i).toNat)
  case atStart => exact ⟨0, rfl, by omega, fun j hj => absurd hj (Nat.not_lt_zero _), rfl⟩
  case round =>
    obtain ⟨k, rfl, hk, hall, rfl⟩ := hrel
    have HA := Lib.hid hall
    clear hall
    by_cases hlt : k < m
    case pos =>
      have hkl : k < l.length := by rw [HN.out]; exact hlt
      obtain ⟨bk, o, rfl, -, c1⟩ := InZ_at HI1.out hkl
      have HNE := Lib.hid (show l[k] ≠ n from fun e => HM.out (e ▸ List.getElem_mem hkl))
      have HE := Lib.hid (show ∀ y, l[k] = y → ∀ hl : k < l.length, l[k] = y from fun y h hl => h)
      obtain ⟨y, hy⟩ : ∃ y, y = l[k] := ⟨_, rfl⟩
      rw [← hy] at c1 HNE
      have HY := Lib.hid hy.symm
      clear hy HE
      by_cases hyn : y < n
      case pos =>
        have HYN := Lib.hid hyn
        go_wp2_with fail
        go_roundw
        case rel =>
          refine ⟨k + 1, by go_num, by omega, fun j hj hl => ?_, by first | rfl | trivial⟩
          by_cases e : j = k
          · subst e; rw [HY.out]; exact HYN.out
          · exact HA.out j (by omega) hl
        case measure => simp [intOf]; omega
      case neg =>
        have h2 : n < y := by have := HNE.out; omega
        have HINS := Lib.hid (insB_at (n := n) (l := l) (k := k) (by omega) HA.out (fun hl => by rw [HY.out]; exact h2))
        clear HA HHAS
        obtain ⟨v1, W1, hrun1, hrow1, hk1, hf1⟩ := rkZ.appendIn wr wr.heap.size (Nat.le_refl _) (.slice none 0 0) [] (RK.Own.nil rkZ _ _) (InZ_take HI1.out hk) (by have := HN.out; simp; omega)
        have HRUN1 := Lib.hid (show (Builtin.append_ #[30, 30] 30 #[.slice none 0 0, .slice (some ⟨bk, o, none⟩) k c]).run Tryd.prog wr = .ok v1 W1 from hrun1)
        have hK1 : Keeps [] wr W1 := hk1
        obtain ⟨v2, W2, hrun2, hrow2, hk2, hf2⟩ := rkZ.append1 W1 wr.heap.size hK1.size _ _ hrow1 n (by rw [List.nil_append, List.length_take]; have := HL.out; have := HN.out; omega)
        have hK2 : Keeps [] wr W2 := hK1.trans hk2 (fun q hq => .inr (row_base hrow1 q hq).1)
        obtain ⟨v3, W3, hrun3, hrow3, hk3, hf3⟩ := rkZ.appendIn W2 wr.heap.size hK2.size _ _ hrow2 (InZ_drop (HI1.out.new hK2 (Nat.le_refl _)) hlt) (by simp only [List.nil_append, List.length_append, List.length_take, List.length_drop, List.length_cons, List.length_nil]; have := HL.out; have := HN.out; omega)
        have hK3 : Keeps [] wr W3 := hK2.trans hk3 (fun q hq => .inr (row_base hrow2 q hq).1)
        have HROW := Lib.hid (show rkZ.Own wr.heap.size W3 v3 (insB n l) from by rw [HINS.out]; have h := hrow3; rw [List.nil_append, List.append_assoc] at h; exact h)
        have HK3 := Lib.hid (HK1.out.trans hK3 (FSub.refl _ _))
        obtain ⟨a1, c1', ea, -, -⟩ := id hrow1.shape
        rw [show (([] : List Int) ++ l.take k).length = k from by rw [List.nil_append, List.length_take]; omega] at ea
        obtain ⟨a2, c2', eb, -, -⟩ := id hrow2.shape
        rw [show (([] : List Int) ++ l.take k ++ [n]).length = k + 1 from by rw [List.nil_append, List.length_append, List.length_take]; simp; omega] at eb
        subst ea eb
        have HRUN2 := Lib.hid (show (Builtin.append_ #[30, 30] 30 #[.slice a1 k c1', .slice (some ⟨W1.heap.size, 0, none⟩) 1 1]).run Tryd.prog (W1.alloc (.cells (zC n).toArray 3)) = .ok (.slice a2 (k + 1) c2') W2 from hrun2)
        have HRUN3 := Lib.hid (show (Builtin.append_ #[30, 30] 30 #[.slice a2 (k + 1) c2', .slice (some ⟨bk, o + k, none⟩) (m - k) (c - k)]).run Tryd.prog W2 = .ok v3 W3 from hrun3)
        clear hrun1 hrow1 hk1 hf1 hK1 hrun2 hrow2 hk2 hf2 hK2 hrun3 hrow3 hk3 hf3 hK3
        go_wp2_with (first
          | ((with_reducible refine wpList_buildZ (x := n) ?_ ?_); exact rfl)
          | ((with_reducible refine wpList_app _ _ ?_ ?_ HRUN1.out ?_); exact rfl; exact rfl)
          | ((with_reducible refine wpList_app _ _ ?_ ?_ HRUN2.out ?_); exact rfl; exact rfl)
          | ((with_reducible refine wpList_app _ _ ?_ ?_ HRUN3.out ?_); exact rfl; exact rfl))
        go_ret
        exact ⟨_, rfl, HROW.out.in_, HK3.out, fun _ q hq => .inr (Nat.le_trans HK1.out.size (row_base HROW.out q hq).1)⟩
    case neg =>
      obtain rfl : m = k := by omega
      have HINS := Lib.hid (show insB n l = l ++ [n] from by
        have h := insB_at (n := n) (l := l) (k := m) (by rw [HN.out]; exact Nat.le_refl _) HA.out (fun hl => by have := HN.out; omega)
        rw [h, List.take_of_length_le (by rw [HN.out]; exact Nat.le_refl _), List.drop_eq_nil_of_le (by rw [HN.out]; exact Nat.le_refl _)])
      clear HA HHAS
      obtain ⟨v1, W1, hrun1, hrow1, hk1, hf1⟩ := rkZ.appendIn wr wr.heap.size (Nat.le_refl _) (.slice none 0 0) [] (RK.Own.nil rkZ _ _) HI1.out (by have := HN.out; simp; omega)
      have HRUN1 := Lib.hid (show (Builtin.append_ #[30, 30] 30 #[.slice none 0 0, .slice a m c]).run Tryd.prog wr = .ok v1 W1 from hrun1)
      have hK1 : Keeps [] wr W1 := hk1
      rw [List.nil_append] at hrow1
      obtain ⟨v2, W2, hrun2, hrow2, hk2, hf2⟩ := rkZ.append1 W1 wr.heap.size hK1.size _ _ hrow1 n (by have := HL.out; have := HN.out; omega)
      have hK2 : Keeps [] wr W2 := hK1.trans hk2 (fun q hq => .inr (row_base hrow1 q hq).1)
      have HROW := Lib.hid (show rkZ.Own wr.heap.size W2 v2 (insB n l) from by rw [HINS.out]; exact hrow2)
      have HK3 := Lib.hid (HK1.out.trans hK2 (FSub.refl _ _))
      obtain ⟨a1, c1', ea, -, -⟩ := id hrow1.shape
      rw [HN.out] at ea
      obtain ⟨a2, c2', eb, hc2, -⟩ := id hrow2.shape
      rw [show (l ++ [n]).length = m + 1 from by rw [List.length_append, HN.out]; rfl] at eb hc2
      subst ea eb
      have HRUN2 := Lib.hid (show (Builtin.append_ #[30, 30] 30 #[.slice a1 m c1', .slice (some ⟨W1.heap.size, 0, none⟩) 1 1]).run Tryd.prog (W1.alloc (.cells (zC n).toArray 3)) = .ok (.slice a2 (m + 1) c2') W2 from hrun2)
      have HC2 := Lib.hid hc2
      clear hrun1 hrow1 hk1 hf1 hK1 hrun2 hrow2 hk2 hf2 hK2
      go_wp2_with (first
        | ((with_reducible refine wpList_buildZ (x := n) ?_ ?_); exact rfl)
        | ((with_reducible refine wpList_app _ _ ?_ ?_ HRUN1.out ?_); exact rfl; exact rfl)
        | ((with_reducible refine wpList_app _ _ ?_ ?_ HRUN2.out ?_); exact rfl; exact rfl)
        | ((with_reducible apply wpList_appZ0 HC2.out); exact rfl; exact rfl))
      all_goals
        go_ret
        exact ⟨_, rfl, HROW.out.in_, HK3.out, fun _ q hq => .inr (Nat.le_trans HK1.out.size (row_base HROW.out q hq).1)⟩
end Go.Proofs.YtbeniihbejakaaaDoor
/-
  The document's sets: Union, FromKey; the law's listed.
-/
namespace Go.Proofs.YtbeniihbejakaaaDoor
open Go.RowKit
set_option maxRecDepth 100000
set_option maxHeartbeats 4000000
theorem r15Union_any (w : World) {v1 v2 : Value} {s t : List Int} (h1 : rkZ.In w.heap.size w v1 s) (h2 : rkZ.In w.heap.size w v2 t) (hs : BIn s) : Calls Tryd.prog 31 #[v1, v2] w (PostZ w v1 s (unionB s t)) := by
  obtain ⟨a1, c1, rfl, -⟩ := id h1
  obtain ⟨a, c, rfl, hc, hm, -⟩ := id h2
  have HS := Lib.hid hs; have HI := Lib.hid h2; have H1 := Lib.hid h1
  clear h1 h2 hs
  generalize hn : t.length = m at *
  have HN := Lib.hid hn
  clear hn
  go_enter Tryd.func31, Tryd.ntmps31
  go_wp2_with fail
  go_loopw [0, 5] (fun v i wr => ∃ k : Nat, i = .int .i64 k ∧ k ≤ m ∧ rkZ.In wr.heap.size wr v (unionB s (t.take k)) ∧ Keeps [] w wr ∧ (unionB s (t.take k) ≠ [] → ∀ q ∈ own v, (s ≠ [] ∧ q ∈ own (.slice a1 s.length c1)) ∨ w.heap.size ≤ q)) (fun _ i _ => m - (intOf i).toNat)
  case atStart => exact ⟨0, rfl, by omega, H1.out, Keeps.refl _ _, fun hn q hq => .inl ⟨hn, hq⟩⟩
  case round =>
    obtain ⟨k, rfl, hk, hz, hkw, how⟩ := hrel
    have HZ := Lib.hid hz; have HK := Lib.hid hkw; have HO := Lib.hid how
    clear how
    by_cases hlt : k < m
    case pos =>
      have hkl : k < t.length := by rw [HN.out]; exact hlt
      obtain ⟨bk, o, rfl, -, c1⟩ := InZ_at (HI.out.new hkw (Nat.le_refl _)) hkl
      have HX := Lib.hid (unionB_next (s := s) hkl); have HB := Lib.hid (unionB_in (t.take k) HS.out)
      clear hz hkw
      generalize t[k] = y at *
      generalize unionB s (t.take k) = L at *
      obtain ⟨av, cv, rfl, -, -⟩ := id HZ.out
      go_wp2_with fail
      refine (r15With_any wr HZ.out HB.out y).mono ?_; rintro e w1 ⟨v1, rfl, hz1, hk1, how⟩
      have HO1 := Lib.hid (fun hn q hq => (how hn q hq).elim (fun h => HO.out h.1 q h.2) (fun h => .inr (Nat.le_trans HK.out.size h)))
      clear how
      have HZ1 := Lib.hid hz1; have HK1 := Lib.hid (HK.out.trans hk1 (FSub.refl _ _))
      clear hz1 hk1 HZ HK
      go_wp2_with fail
      go_roundw
      case rel => exact ⟨k + 1, by go_num, by omega, by rw [HX.out]; exact HZ1.out, HK1.out, by rw [HX.out]; exact HO1.out⟩
      case measure => simp [intOf]; omega
    case neg =>
      obtain rfl : k = m := by omega
      have hta : t.take k = t := List.take_of_length_le (by rw [HN.out]; exact Nat.le_refl _)
      rw [hta] at hz
      have HZ := Lib.hid hz
      have ho := HO.out
      rw [hta] at ho
      have HO2 := Lib.hid ho
      clear hz hta hkw ho
      go_wp2_with fail
      go_ret
      exact ⟨_, rfl, HZ.out, HK.out, HO2.out⟩
theorem listed15_any (w : World) {v : Value} {t : List Int} (h : rkZ.In w.heap.size w v t) : Calls Tryd.prog 32 #[v] w (PostZ w (.slice none 0 0) [] (ofB t)) := by
  obtain ⟨s, hs⟩ : ∃ s : List Int, s = [] := ⟨_, rfl⟩
  have HS := Lib.hid (show BIn s from by rw [hs]; exact BIn.nil)
  have HE := Lib.hid (show ofB t = unionB s t from by rw [hs]; rfl)
  
  rw [HE.out]
  obtain ⟨a, c, rfl, hc, hm, -⟩ := id h
  have HI := Lib.hid h
  have H1 := Lib.hid (show ∀ N w', rkZ.In N w' (.slice none 0 0) s from fun N w' => by rw [hs]; exact InZ_nil (by decide))
  clear h hs
  generalize hn : t.length = m at *
  have HN := Lib.hid hn
  clear hn
  go_enter Tryd.func32, Tryd.ntmps32
  go_wp2_with fail
  go_loopw [3, 4] (fun v i wr => ∃ k : Nat, i = .int .i64 k ∧ k ≤ m ∧ rkZ.In wr.heap.size wr v (unionB s (t.take k)) ∧ Keeps [] w wr ∧ (unionB s (t.take k) ≠ [] → ∀ q ∈ own v, (([] : List Int) ≠ [] ∧ q ∈ own (.slice none 0 0)) ∨ w.heap.size ≤ q)) (fun _ i _ => m - (intOf i).toNat)
  case atStart => exact ⟨0, rfl, by omega, H1.out _ _, Keeps.refl _ _, fun hn q hq => (nomatch (show q ∈ ([] : List Nat) from hq))⟩
  case round =>
    obtain ⟨k, rfl, hk, hz, hkw, how⟩ := hrel
    have HZ := Lib.hid hz; have HK := Lib.hid hkw; have HO := Lib.hid how
    clear how
    by_cases hlt : k < m
    case pos =>
      have hkl : k < t.length := by rw [HN.out]; exact hlt
      obtain ⟨bk, o, rfl, -, c1⟩ := InZ_at (HI.out.new hkw (Nat.le_refl _)) hkl
      have HX := Lib.hid (unionB_next (s := s) hkl); have HB := Lib.hid (unionB_in (t.take k) HS.out)
      clear hz hkw
      generalize t[k] = y at *
      generalize unionB s (t.take k) = L at *
      obtain ⟨av, cv, rfl, -, -⟩ := id HZ.out
      go_wp2_with fail
      refine (r15With_any wr HZ.out HB.out y).mono ?_; rintro e w1 ⟨v1, rfl, hz1, hk1, how⟩
      have HO1 := Lib.hid (fun hn q hq => (how hn q hq).elim (fun h => HO.out h.1 q h.2) (fun h => .inr (Nat.le_trans HK.out.size h)))
      clear how
      have HZ1 := Lib.hid hz1; have HK1 := Lib.hid (HK.out.trans hk1 (FSub.refl _ _))
      clear hz1 hk1 HZ HK
      go_wp2_with fail
      go_roundw
      case rel => exact ⟨k + 1, by go_num, by omega, by rw [HX.out]; exact HZ1.out, HK1.out, by rw [HX.out]; exact HO1.out⟩
      case measure => simp [intOf]; omega
    case neg =>
      obtain rfl : k = m := by omega
      have hta : t.take k = t := List.take_of_length_le (by rw [HN.out]; exact Nat.le_refl _)
      rw [hta] at hz
      have HZ := Lib.hid hz
      have ho := HO.out
      rw [hta] at ho
      have HO2 := Lib.hid ho
      clear hz hta hkw ho
      go_wp2_with fail
      go_ret
      exact ⟨_, rfl, HZ.out, HK.out, HO2.out⟩
end Go.Proofs.YtbeniihbejakaaaDoor
/-
  The law's acts in memory; few.
-/
namespace Go.Proofs.YtbeniihbejakaaaDoor
open Go.RowKit
set_option maxRecDepth 100000
set_option maxHeartbeats 4000000
/-- An act, with where its numbers lie. -/
structure Ac where
  k : Int
  n : Int
  a : Option Addr
  m : Nat
  c : Nat
  l : List Int
def acC (y : Ac) : List Value := [.int .u8 y.k, .int .i64 y.n, .slice y.a y.m y.c]
theorem Tryd.infoAc : (Tryd.prog.info? 34).map (fun i => (i.zero, i.size, i.bytes)) = some (some (.agg #[.int .u8 0, .int .i64 0, .slice none 0 0]), 3, 40) := by kernel_rfl
/-- Acts, side by side. -/
noncomputable def rkAc : RK Ac :=
  { T := 34, Sl := 22, s := 3, b := 40, cs := acC, i := (info_parts Tryd.infoAc).choose, z := .agg #[.int .u8 0, .int .i64 0, .slice none 0 0],
    len := fun _ => rfl, one := by intro x v hv; simp only [acC, List.mem_cons, List.not_mem_nil, or_false] at hv; rcases hv with rfl | rfl | rfl <;> rfl, s0 := by decide, b1 := by decide, und := Tryd.underlying22,
    hi := (info_parts Tryd.infoAc).choose_spec.1, hz := (info_parts Tryd.infoAc).choose_spec.2.1, hs := (info_parts Tryd.infoAc).choose_spec.2.2.1, hb := (info_parts Tryd.infoAc).choose_spec.2.2.2, hzs := rfl }
/-- Each act's numbers are there. -/
def AcIn (N : Nat) (w : World) (y : Ac) : Prop := rkZ.In N w (.slice y.a y.m y.c) y.l ∧ (0 ≤ y.k ∧ y.k < 256) ∧ I64 y.n
theorem AcIn.len {N : Nat} {w : World} {y : Ac} (h : AcIn N w y) : y.l.length = y.m := by
  obtain ⟨⟨_, _, e, -⟩, -⟩ := h
  simp at e
  exact e.2.1.symm
theorem InAc_at {N : Nat} {w : World} {a : Option Addr} {n c : Nat} {l : List Ac} (h : rkAc.In N w (.slice a n c) l) {k : Nat} (hk : k < l.length) : ∃ bk o, a = some ⟨bk, o, none⟩ ∧ bk < N ∧ w.rangeAt bk (o + k * 3) (acC l[k]) := by
  obtain ⟨_, _, e, _, _, h⟩ := h
  simp at e
  obtain ⟨rfl, -, -⟩ := e
  obtain ⟨bk, o, e, hb, hr⟩ := h (fun e => by rw [e] at hk; simp at hk)
  exact ⟨bk, o, e, hb, hr k hk⟩
def fewB (l : List Ac) : Bool := (l.take 50).all (fun y => decide (y.m ≤ 40)) && decide (l.length ≤ 40)
theorem few15_any (w : World) {v : Value} {l : List Ac} (h : rkAc.In w.heap.size w v l) : Calls Tryd.prog 8 #[v] w fun e w' => e = .returned (.bool (fewB l)) ∧ Keeps [] w w' := by
  obtain ⟨a, c, rfl, hc, hm, -⟩ := id h
  have HI := Lib.hid h
  clear h
  generalize hn : l.length = m at *
  have HN := Lib.hid hn
  clear hn
  go_enter Tryd.func8, Tryd.ntmps8
  go_wp2_with fail
  go_loopw [3] (fun i wr => ∃ k : Nat, i = .int .i64 k ∧ k ≤ m ∧ k ≤ 50 ∧ (l.take k).all (fun y => decide (y.m ≤ 40)) = true ∧ wr = w) (fun i _ => m - (intOf i).toNat)
  case atStart => exact ⟨0, rfl, by omega, by omega, rfl, rfl⟩
  case round =>
    obtain ⟨k, rfl, hk, hk5, hall, rfl⟩ := hrel
    have HA := Lib.hid hall
    clear hall
    by_cases hlt : k < m ∧ k < 50
    case pos =>
      have hkl : k < l.length := by rw [HN.out]; exact hlt.1
      obtain ⟨bk, o, rfl, -, hr⟩ := InAc_at HI.out hkl
      have HT := Lib.hid (show l.take (k + 1) = l.take k ++ [l[k]] from by rw [List.take_add_one, List.getElem?_eq_getElem hkl, Option.toList_some])
      have HM := Lib.hid (show l[k] ∈ l.take 50 from List.mem_take_iff_getElem.2 ⟨k, by omega, rfl⟩)
      have c1 : wr.cell? ⟨bk, o + k * 3 + 2, none⟩ = some (.slice l[k].a l[k].m l[k].c) := hr 2 _ rfl
      have k1 : (k : Int) < m := by omega
      have k2 : (k : Int) < 50 := by omega
      generalize l[k] = y at *
      clear hr
      by_cases hy : 40 < y.m
      case pos =>
        have h40 : (40 : Int) < y.m := by omega
        have HF := Lib.hid (show fewB l = false from by
          unfold fewB
          rw [show ((l.take 50).all fun y => decide (y.m ≤ 40)) = false from by
            rw [List.all_eq_false]
            exact ⟨y, HM.out, by simp; omega⟩]
          rfl)
        go_wp2_with fail
        go_ret
        exact ⟨by rw [HF.out]; rfl, Keeps.refl _ _⟩
      case neg =>
        have h40 : ¬ (40 : Int) < y.m := by omega
        have HY := Lib.hid hy
        clear hy
        go_wp2_with fail
        go_roundw
        case rel => exact ⟨k + 1, by go_num, by omega, by omega, by rw [HT.out, List.all_append, HA.out]; simp; have := HY.out; omega, by first | rfl | trivial⟩
        case measure => simp [intOf]; omega
    case neg =>
      have HF := Lib.hid (show fewB l = decide ((m : Int) ≤ 40) from by
        unfold fewB
        rw [HN.out]
        by_cases h40 : m ≤ 40
        · have hkm : k = m := by omega
          rw [show l.take 50 = l.take k from by rw [List.take_of_length_le (by rw [HN.out]; omega), List.take_of_length_le (by rw [HN.out]; omega)], HA.out]
          simp; omega
        · rw [decide_eq_false h40, Bool.and_false, decide_eq_false (by omega)])
      have k1 : ¬ ((k : Int) < m ∧ (k : Int) < 50) := by omega
      by_cases h1 : k < m
      case pos =>
        have k2 : (k : Int) < m := by omega
        have k3 : ¬ (k : Int) < 50 := by omega
        clear k1
        go_wp2_with fail
        go_ret
        exact ⟨by rw [HF.out]; rfl, Keeps.refl _ _⟩
      case neg =>
        have k2 : ¬ (k : Int) < m := by omega
        clear k1
        go_wp2_with fail
        go_ret
        exact ⟨by rw [HF.out]; rfl, Keeps.refl _ _⟩
end Go.Proofs.YtbeniihbejakaaaDoor
/-
  The document's sets: FromKey.
-/
namespace Go.Proofs.YtbeniihbejakaaaDoor
open Go.RowKit
set_option maxRecDepth 100000
set_option maxHeartbeats 4000000
theorem bs_getZ (b : List UInt8) (i : Nat) (h : i < (bs b).size) : (bs b)[i] = b.getD i 0 := by
  have h2 : i < b.length := h
  rw [List.getD_eq_getElem?_getD, List.getElem?_eq_getElem h2]
  rfl
end Go.Proofs.YtbeniihbejakaaaDoor
/-
  The document's sets: Key.
-/
namespace Go.Proofs.YtbeniihbejakaaaDoor
open Go.RowKit
set_option maxRecDepth 100000
set_option maxHeartbeats 4000000
theorem rowB_rep : ∀ n : Nat, rkB.row (List.replicate n 0) = List.replicate n (.int .u8 0)
  | 0 => rfl
  | n + 1 => by
    show (List.replicate (n + 1) (0 : Int)).flatMap u8C = _
    rw [List.replicate_succ, List.flatMap_cons]
    have := rowB_rep n
    rw [show (List.replicate n (0 : Int)).flatMap u8C = rkB.row (List.replicate n 0) from rfl, this]; rfl
theorem run_makeZ (w : World) (n : Nat) (hn : n ≤ 10000) : ∃ w', (Instr.makeSlice 67 (.int .i64 (n : Int)) (.int .i64 (n : Int))).run Tryd.prog w = .ok (.slice (some ⟨w.heap.size, 0, none⟩) n n) w' ∧ rkB.Own w.heap.size w' (.slice (some ⟨w.heap.size, 0, none⟩) n n) (List.replicate n 0) ∧ Keeps [] w w' := by
  obtain ⟨w', h1, h2, h3⟩ := run_makeSlice_full (P := Tryd.prog) w w.heap.size 67 5 rkB.i _ 1 rkB.und rkB.hi rkB.hz rkB.hs .i64 .i64 n (by omega) (by rw [rkB.hb]; show 1 * n ≤ _; omega) (by unfold maxLen; omega) (Nat.le_refl _)
  refine ⟨w', h1, ?_, (Keeps.refl _ w).grown (v := .slice none 0 0) h3 (fun q hq => by simp [own, Value.ownBlock] at hq)⟩
  have e : (madeCells (Value.int .u8 0).cells (n * 1)).toList = rkB.row (List.replicate n 0) := by
    rw [Nat.mul_one]
    rw [rowB_rep]
    unfold madeCells
    apply List.ext_getElem
    · simp
    · intro i h5 h6
      have e0 : (Value.int .u8 0).cells = #[Value.int .u8 0] := rfl
      simp [e0, Nat.mod_one]
  show w'.ownsRow _ _ _ _ _ _
  rw [List.length_replicate, ← e]
  exact h2
section
variable {ops : Array Oper} {rest : List Oper} {S : World → Prop} {o : Oper} {a : Act} {w : World} {K : Act → World → Prop} {Q : Exit → Act → World → Prop}
theorem yields_indexZ (hw : Region.wanted o (yielded ops a.tmps) = true) (x y : Operand) (ho : o.op = .indexAddr 30 x y) (g of n c k : Nat) (hx : a.eval x = .slice (some ⟨g, of, none⟩) n c) (hy : a.eval y = .int .i64 k) (hk : k < n) :
    YieldsIf Tryd.prog ops S o (.pointer (some ⟨g, of + k, none⟩)) a :=
  Or.inl ⟨hw, by
    have hk2 : (k : Int) < n := by omega
    intro w _
    unfold execOp
    simp only [ho, hx, hy]
    go_simp⟩
theorem yields_indexB (hw : Region.wanted o (yielded ops a.tmps) = true) (x y : Operand) (ho : o.op = .indexAddr 67 x y) (g n c k : Nat) (hx : a.eval x = .slice (some ⟨g, 0, none⟩) n c) (hy : a.eval y = .int .i64 k) (hk : k < n) :
    YieldsIf Tryd.prog ops S o (.pointer (some ⟨g, k, none⟩)) a :=
  Or.inl ⟨hw, by
    have hk2 : (k : Int) < n := by omega
    intro w _
    unfold execOp
    simp only [ho, hx, hy]
    go_simp⟩
theorem run_putB {g j : Nat} {z old : Int} (hc : w.cell? ⟨g, j, none⟩ = some (.int .u8 old)) (hf : w.frozen? ⟨g, j, none⟩ = false) :
    (storeVar 5 ⟨g, j, none⟩ (.int .u8 z)).run Tryd.prog w = .ok () (w.setCell ⟨g, j, none⟩ (.int .u8 z)) := by
  have := run_storeCells_cells (P := Tryd.prog) g j [.int .u8 z] 0 w (fun k hk => by
    obtain rfl : k = 0 := by simpa using hk
    show (w.cell? ⟨g, j, none⟩).isSome = true
    rw [hc]; rfl) (fun k hk => by
    obtain rfl : k = 0 := by simpa using hk
    exact hf) (fun u hu => by simp at hu; subst hu; rfl)
  have hi := Tryd.infoU8B
  cases hq : Tryd.prog.info? 5 with
  | none => simp [hq] at hi
  | some i =>
    have hs : i.size = 1 := by simp [hq] at hi; exact hi.2.1
    simp only [Nat.add_zero] at this
    simp [storeVar, sizeOf, typeInfo, hq, Value.cells, hs, this]
    rfl
theorem wp_putB {x y : Operand} (ho : o.op = .store 5 x y) {g j : Nat} {z old : Int} (hx : a.eval x = .pointer (some ⟨g, j, none⟩)) (hy : a.eval y = .int .u8 z) (hc : w.cell? ⟨g, j, none⟩ = some (.int .u8 old)) (hf : w.frozen? ⟨g, j, none⟩ = false)
    (h : K (a.put o.dst undef) (w.setCell ⟨g, j, none⟩ (.int .u8 z))) : o.wp Tryd.prog a w K Q := by
  unfold Oper.wp execOp
  simp only [ho, hx, hy, Instr.storeAt, Instr.sureAddr, Sem.run_bind, Sem.run_pure, Result.andThen_ok, run_putB hc hf]
  exact h
end
/-- One byte of a row is put anew. -/
theorem B8.put {base : Nat} {w : World} {g cap n : Nat} {L : List Int} (h : rkB.Own base w (.slice (some ⟨g, 0, none⟩) n cap) L) (j : Nat) (hj : j < L.length) (x : Int) :
    rkB.Own base (w.setCell ⟨g, j, none⟩ (.int .u8 x)) (.slice (some ⟨g, 0, none⟩) n cap) (L.set j x) ∧ w.frozen? ⟨g, j, none⟩ = false ∧ w.cell? ⟨g, j, none⟩ = some (.int .u8 L[j]) := by
  have h1 := own_cell h j hj 0 (by decide) x (.int .u8 x) rfl
  have h2 := own_there h j hj 0 (by decide)
  rw [show j * rkB.s + 0 = j from by show j * 1 + 0 = j; omega] at h1 h2
  refine ⟨h1, h2.2, ?_⟩
  obtain ⟨_, _, e, _, _, hr⟩ := h.in_
  obtain ⟨bk, o, e2, -, hr2⟩ := hr (fun e => by rw [e] at hj; simp at hj)
  subst e2
  simp only [Value.slice.injEq, Option.some.injEq, Addr.mk.injEq, and_true] at e
  obtain ⟨⟨rfl, rfl⟩, -, -⟩ := e
  have := hr2 j hj 0 (.int .u8 L[j]) rfl
  rw [show 0 + j * rkB.s + 0 = j from by show 0 + j * 1 + 0 = j; omega] at this
  exact this
/-- The bytes of a beginning. -/
def bytesP (l : List Int) (n k : Nat) : List Int := (List.range n).map fun i => (byteB (l.take k) i : Int)
theorem bytesP_len (l : List Int) (n k : Nat) : (bytesP l n k).length = n := by simp [bytesP]
theorem bytesP_at (l : List Int) {n k i : Nat} (hi : i < (bytesP l n k).length) : (bytesP l n k)[i] = (byteB (l.take k) i : Int) := by simp [bytesP]
theorem bytesP_0 (l : List Int) (n : Nat) : bytesP l n 0 = List.replicate n 0 := by
  apply List.ext_getElem
  · simp [bytesP]
  · intro i h1 h2
    rw [bytesP_at, List.getElem_replicate]
    show ((byteB [] i : Nat) : Int) = 0
    rfl
theorem bytesP_all (l : List Int) : bytesP l (lenB l) l.length = nb (keyB l) := by
  unfold bytesP keyB nb
  rw [List.map_map, List.take_length]
  refine List.map_congr_left fun i _ => ?_
  show _ = ((UInt8.ofNat (byteB l i)).toNat : Int)
  rw [UInt8.toNat_ofNat']
  have := byteB_lt l i
  omega
theorem bytesP_next {l : List Int} (h : BIn l) (n : Nat) {k : Nat} (hk : k < l.length) : bytesP l n (k + 1) = (bytesP l n k).set (l[k] / 8).toNat ((byteB (l.take k) (l[k] / 8).toNat : Int) + (2 ^ (l[k] % 8).toNat : Nat)) := by
  have hx := h.2 l[k] (List.getElem_mem hk)
  have hno : l[k] ∉ l.take k := fun hm => by
    have hp := h.1
    rw [← List.take_append_drop k l] at hp
    have h2 := (List.pairwise_append.1 hp).2.2 _ hm l[k] (by rw [List.drop_eq_getElem_cons hk]; exact List.mem_cons_self)
    omega
  apply List.ext_getElem
  · rw [List.length_set, bytesP_len, bytesP_len]
  · intro i h1 h2
    rw [bytesP_at, takeZ hk, byteB_snoc hno hx.1]
    by_cases e : i = (l[k] / 8).toNat
    · subst e
      rw [List.getElem_set_self, if_pos (by omega)]; omega
    · rw [List.getElem_set_ne (fun h => e h.symm), bytesP_at, if_neg (by omega)]; rfl
theorem bytesP_lt {l : List Int} (h : BIn l) {k : Nat} (hk : k < l.length) : byteB (l.take k) (l[k] / 8).toNat + 2 ^ (l[k] % 8).toNat < 256 := by
  have hx := h.2 l[k] (List.getElem_mem hk)
  have hno : l[k] ∉ l.take k := fun hm => by
    have hp := h.1
    rw [← List.take_append_drop k l] at hp
    have h2 := (List.pairwise_append.1 hp).2.2 _ hm l[k] (by rw [List.drop_eq_getElem_cons hk]; exact List.mem_cons_self)
    omega
  have h1 := byteB_lt (l.take (k + 1)) (l[k] / 8).toNat
  rw [takeZ hk, byteB_snoc hno hx.1, if_pos (by omega)] at h1
  exact h1
section
variable {o : Oper} {a : Act} {w : World} {K : Act → World → Prop} {Q : Exit → Act → World → Prop}
theorem run_loadB (w : World) (g j : Nat) (z : Value) (hc : w.cell? ⟨g, j, none⟩ = some z) : (loadVar 5 ⟨g, j, none⟩).run Tryd.prog w = .ok z w := by
  simp [loadVar, run_underlying Tryd.underlying5, hc]
theorem wp_loadB {x : Operand} (ho : o.op = .load 5 x) {g j : Nat} {z : Value} (hx : a.eval x = .pointer (some ⟨g, j, none⟩)) (hc : w.cell? ⟨g, j, none⟩ = some z) (h : K (a.put o.dst z) w) : o.wp Tryd.prog a w K Q := by
  have hrun := run_loadB w g j z hc
  unfold Oper.wp execOp
  simp only [ho, hx, Instr.loadAt, Instr.sureAddr, Sem.run_bind, Sem.run_pure, Result.andThen_ok, hrun]
  exact h
end
theorem r15Key_any (w : World) {v : Value} {l : List Int} (h : rkZ.In w.heap.size w v l) (hB : BIn l) : Calls Tryd.prog 16 #[v] w fun e w' => e = .returned (.string (bs (keyB l))) ∧ Keeps [] w w' := by
  obtain ⟨a, c, rfl, hc, hm, -⟩ := id h
  have HI := Lib.hid h; have HB := Lib.hid hB
  clear h
  by_cases hnil : l = []
  case pos =>
    subst hnil
    go_enter Tryd.func16, Tryd.ntmps16
    go_wp2_with fail
    go_ret
    exact ⟨rfl, Keeps.refl _ _⟩
  have hpos : 0 < l.length := List.length_pos_iff.2 hnil
  have h64 := hB.len
  obtain ⟨z, hz⟩ : ∃ z, z = l[l.length - 1]'(by omega) := ⟨_, rfl⟩
  obtain ⟨bk, o, rfl, hbk, c1⟩ := InZ_at HI.out (k := l.length - 1) (by omega)
  rw [← hz] at c1
  have hzb := hB.2 z (by rw [hz]; exact List.getElem_mem _)
  have hlast : l.getLast? = some z := by rw [List.getLast?_eq_getElem?, List.getElem?_eq_getElem (by omega), hz]
  obtain ⟨q, hq⟩ : ∃ q : Nat, z.tdiv 8 = (q : Int) := ⟨(z / 8).toNat, by rw [Int.tdiv_eq_ediv_of_nonneg hzb.1]; omega⟩
  have hqz : q = (z / 8).toNat := by rw [Int.tdiv_eq_ediv_of_nonneg hzb.1] at hq; omega
  have HLB := Lib.hid (show lenB l = q + 1 from by unfold lenB; rw [hlast, hqz])
  have hq8 : q < 8192 := by omega
  obtain ⟨w1, hmk, hown, hk1⟩ := run_makeZ w (q + 1) (by omega)
  rw [show (((q + 1 : Nat)) : Int) = (q : Int) + 1 from by omega] at hmk
  have HMK := Lib.hid hmk; have HOW := Lib.hid hown; have HK1 := Lib.hid hk1
  have HQB := Lib.hid (show ∀ y ∈ l, (y / 8).toNat < q + 1 from fun y hy => by rw [← HLB.out]; exact lenB_mem hB hy)
  have hp1 : ¬ l.length = 0 := by omega
  clear hnil hB hz hlast hqz hmk hown hk1
  generalize hn : l.length = m at *
  have HN := Lib.hid hn
  clear hn
  go_enter Tryd.func16, Tryd.ntmps16
  go_wp2_with ((with_reducible refine wpList_makeB _ _ ?_ ?_ HMK.out ?_); exact rfl; exact rfl)
  clear c1 hzb hq hbk hp1
  go_loopw [4] (fun i wr => ∃ k : Nat, i = .int .i64 k ∧ k ≤ m ∧ rkB.Own w.heap.size wr (.slice (some ⟨w.heap.size, 0, none⟩) (q + 1) (q + 1)) (bytesP l (q + 1) k) ∧ Keeps [] w wr) (fun i _ => m - (intOf i).toNat)
  case atStart => exact ⟨0, rfl, by omega, by rw [bytesP_0]; exact HOW.out, HK1.out⟩
  case round =>
    obtain ⟨k, rfl, hk, hz, hkw⟩ := hrel
    by_cases hlt : k < m
    case neg =>
      obtain rfl : k = m := by omega
      have hcv := conv_own wr (by rw [← bytesP_all, HLB.out, HN.out]; exact hz : rkB.Own w.heap.size wr _ (nb (keyB l)))
      have HK := Lib.hid hkw
      clear hz hkw
      go_wp2_with fail
      go_ret
      exact ⟨rfl, HK.out⟩
    case pos =>
      have hkl : k < l.length := by rw [HN.out]; exact hlt
      obtain ⟨bk', o', e, hbk, c1⟩ := InZ_at (HI.out.new hkw (Nat.le_refl _)) hkl
      simp only [Option.some.injEq, Addr.mk.injEq, and_true] at e
      obtain ⟨rfl, rfl⟩ := e
      have hbw : bk < w.heap.size := by
        obtain ⟨b2, o2, e, h2, -⟩ := InZ_at HI.out hkl
        simp only [Option.some.injEq, Addr.mk.injEq, and_true] at e
        omega
      have HX := Lib.hid (bytesP_next HB.out (q + 1) hkl)
      have hlt8 := bytesP_lt HB.out hkl
      have hyb := HB.out.2 l[k] (List.getElem_mem hkl)
      have hql := HQB.out l[k] (List.getElem_mem hkl)
      have hel := bytesP_at l (n := q + 1) (k := k) (i := (l[k] / 8).toNat) (by rw [bytesP_len]; exact hql)
      generalize l[k] = y at *
      obtain ⟨j, hj⟩ : ∃ j, j = (y / 8).toNat := ⟨_, rfl⟩
      obtain ⟨t, ht⟩ : ∃ t, t = (y % 8).toNat := ⟨_, rfl⟩
      rw [← hj] at HX hlt8 hql
      rw [← ht] at HX hlt8
      simp only [← hj] at hel
      have hd : y.tdiv 8 = (j : Int) := by rw [Int.tdiv_eq_ediv_of_nonneg hyb.1]; omega
      have he : y.tmod 8 = (t : Int) := by rw [Int.tmod_eq_emod_of_nonneg hyb.1]; omega
      have ht8 : t < 8 := by omega
      have HPUT := Lib.hid (fun (W : World) (h : Keeps [] wr W) (x : Int) => by
        have h2 := B8.put (hz.keeps h (by simp)) j (by rw [bytesP_len]; exact hql) x
        rw [hel] at h2
        exact h2)
      clear hel hz
      generalize byteB (l.take k) j = ob at *
      generalize bytesP l (q + 1) k = L at *
      obtain ⟨P, hP⟩ : ∃ P : Nat, P = 2 ^ t := ⟨_, rfl⟩
      rw [← hP] at HX hlt8
      have ew : IntKind.i64.wrap (j : Int) = (j : Int) := IntWalk.i64_in _ ⟨by omega, by omega⟩
      have hP2 : ((2 : Int) ^ t) = (P : Int) := by rw [hP, Int.natCast_pow]; rfl
      have es : IntKind.u8.wrap ((2 : Int) ^ t) = (P : Int) := by rw [hP2]; simp [IntKind.wrap, IntKind.signed, IntKind.bits]; omega
      have ea : IntKind.u8.wrap ((ob : Int) + (P : Int)) = (ob : Int) + (P : Int) := by simp [IntKind.wrap, IntKind.signed, IntKind.bits]; omega
      have HKW := Lib.hid hkw; have HJ := Lib.hid hj
      clear hj ht hkw hP hP2
      obtain ⟨S0, hS0⟩ : ∃ S0 : World → Prop, S0 = fun y => Keeps [w.heap.size] wr y := ⟨_, rfl⟩
      have HSE := Lib.hid hS0
      have hSD : S0 wr.drew := by rw [hS0]; exact (Keeps.refl _ _).drew
      have HSC := Lib.hid (fun (w' : World) (hh : S0 w') => show w'.cell? ⟨bk, o + k, none⟩ = some (.int .i64 y) from by rw [hS0] at hh; exact hh.cell c1 (by simp; omega))
      clear hS0 c1
      go_wp2_with fail
      refine wp_region_noPanic ?_
      refine wp_region_held_drew (S := S0) (by kernel_rfl) hSD (fun hHeld => ?_)
      have HY := Lib.hid ((Keeps.refl [] wr).drew)
      generalize wr.drew = YC at *
      refine tw 0 (h := ?_)
      refine tw 1 (h := ?_)
      refine tw 2 (h := ?_)
      refine tk 3 (y := by exact yields_indexZ rfl _ _ rfl bk o m c k rfl rfl hlt) (h := ?_)
      refine tk 4 (y := by exact Or.inl ⟨by rfl, by intro w hSw; have q0 := HSC.out w hSw; go_simp; try with_reducible rfl⟩) (h := ?_)
      refine tw 5 (h := ?_)
      refine tw 6 (h := ?_)
      refine tw 7 (h := ?_)
      refine tw 8 (h := ?_)
      refine tk 9 (y := by exact yields_indexZ rfl _ _ rfl bk o m c k rfl rfl hlt) (h := ?_)
      refine tk 10 (y := by exact Or.inl ⟨by rfl, by intro w hSw; have q0 := HSC.out w hSw; go_simp; try with_reducible rfl⟩) (h := ?_)
      refine tw 11 (h := ?_)
      refine tk 12 (y := by exact yields_indexB rfl _ _ rfl w.heap.size (q + 1) (q + 1) j rfl rfl hql) (h := ?_)
      refine tw 14 (h := ?_)
      refine tw 15 (h := ?_)
      refine tk 16 (y := by exact yields_indexZ rfl _ _ rfl bk o m c k rfl rfl hlt) (h := ?_)
      refine tk 17 (y := by exact Or.inl ⟨by rfl, by intro w hSw; have q0 := HSC.out w hSw; go_simp; try with_reducible rfl⟩) (h := ?_)
      refine tw 18 (h := ?_)
      refine tw 19 (h := ?_)
      refine rp 13 (h := fun K hK => ?_)
      refine wp_loadB rfl (g := w.heap.size) (j := j) (z := .int .u8 ob) rfl ((HPUT.out YC HY.out 0).2.2) ?_
      refine hK.out _ _ (by rw [HSE.out]; exact HY.out.more (by simp)) (fun hHeld => ?_); clear hK K; try simp only [Act.put, lsA, lsZ, lsS]
      refine tw 20 (h := ?_)
      refine tk 21 (y := by exact yields_indexB rfl _ _ rfl w.heap.size (q + 1) (q + 1) j rfl rfl hql) (h := ?_)
      refine rp 22 (h := fun K hK => ?_)
      refine wp_putB rfl (g := w.heap.size) (j := j) (z := (ob : Int) + (P : Int)) (old := ob) rfl rfl ((HPUT.out YC HY.out 0).2.2) ((HPUT.out YC HY.out 0).2.1) ?_
      have HO := Lib.hid (HPUT.out YC HY.out ((ob : Int) + (P : Int))).1
      have HYE := Lib.hid ((HY.out.more (G := [w.heap.size]) (by simp)).setCell ⟨w.heap.size, j, none⟩ (.int .u8 ((ob : Int) + (P : Int))) (.inl (by simp)))
      refine hK.out _ _ (by rw [HSE.out]; exact HYE.out) (fun hHeld => ?_); clear hK K; try simp only [Act.put, lsA, lsZ, lsS]
      refine wpAnyH_done (by kernel_rfl) ?_ _
      refine NoPanic.normal ?_
      have HKF := Lib.hid (show Keeps [] w _ from HKW.out.trans HYE.out (fun q hq => .inr (by simp at hq; omega)))
      clear hHeld hSD HSE HSC HPUT ew es ea HY HYE
      generalize YC.setCell ⟨w.heap.size, j, none⟩ (.int .u8 ((ob : Int) + (P : Int))) = YE at *
      go_wp2_with fail
      go_roundw
      case rel => exact ⟨k + 1, by go_num, by omega, by rw [HX.out]; exact HO.out, HKF.out⟩
      case measure => simp [intOf]; omega
end Go.Proofs.YtbeniihbejakaaaDoor
