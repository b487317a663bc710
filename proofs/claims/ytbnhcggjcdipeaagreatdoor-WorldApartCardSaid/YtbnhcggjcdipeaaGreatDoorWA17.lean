/-
  The program's queue: Encode.
-/
import Derived.Test.YtbnhcggjcdipeaaGreatDoorWA00
import Derived.Laws.MakeOwn
import Derived.Test.YtbnhcggjcdipeaaGreatDoorWA16
import Derived.Test.YtbnhcggjcdipeaaGreatDoorWA13
import Derived.Test.YtbnhcggjcdipeaaGreatDoorWA07
import Derived.Test.YtbnhcggjcdipeaaGreatDoorWA10
import Derived.Test.YtbnhcggjcdipeaaGreatDoorWA11
import Derived.Test.YtbnhcggjcdipeaaGreatDoorWA09
set_option linter.unusedSimpArgs false
set_option linter.unusedVariables false
namespace Go.Proofs.YtbnhcggjcdipeaaGreatDoor
set_option maxRecDepth 100000
open Go.RowKit
theorem Tryz.infoU8B : (Tryz.prog.info? 5).map (fun i => (i.zero, i.size, i.bytes)) = some (some (.int .u8 0), 1, 1) := by kernel_rfl
def u8C (x : Int) : List Value := [.int .u8 x]
/-- Bytes, side by side. -/
noncomputable def rkB : RK Int :=
  { T := 5, Sl := 109, s := 1, b := 1, cs := u8C, i := (info_parts Tryz.infoU8B).choose, z := .int .u8 0,
    len := fun _ => rfl, one := by intro x v hv; simp only [u8C, List.mem_cons, List.not_mem_nil, or_false] at hv; subst hv; rfl, s0 := by decide, b1 := by decide, und := Tryz.underlying109,
    hi := (info_parts Tryz.infoU8B).choose_spec.1, hz := (info_parts Tryz.infoU8B).choose_spec.2.1, hs := (info_parts Tryz.infoU8B).choose_spec.2.2.1, hb := (info_parts Tryz.infoU8B).choose_spec.2.2.2, hzs := rfl }
theorem run_makeB (w : World) (n : Nat) (hn : n ≤ 100000) : ∃ w', (Instr.makeSlice 109 (.int .i64 0) (.int .i64 (2 * (n : Int)))).run Tryz.prog w = .ok (.slice (some ⟨w.heap.size, 0, none⟩) 0 (2 * n)) w' ∧ rkB.Own w.heap.size w' (.slice (some ⟨w.heap.size, 0, none⟩) 0 (2 * n)) [] ∧ Keeps [] w w' := by
  obtain ⟨w', h1, h2, h3⟩ := run_makeSlice_owned (P := Tryz.prog) w w.heap.size 109 5 rkB.i _ 1 rkB.und rkB.hi rkB.hz rkB.hs .i64 .i64 (2 * n) (by omega) (by rw [rkB.hb]; show 1 * (2 * n) ≤ _; omega) (by unfold maxLen; omega) (Nat.le_refl _)
  rw [show ((2 * n : Nat) : Int) = 2 * (n : Int) by omega] at h1
  exact ⟨w', h1, h2, (Keeps.refl _ w).grown (v := .slice none 0 0) h3 (fun q hq => by simp [own, Value.ownBlock] at hq)⟩
section
variable {ops : Array Oper} {rest : List Oper} {o : Oper} {a : Act} {w : World} {K : Act → World → Prop} {Q : Exit → Act → World → Prop}
theorem wp_makeB (x y : Operand) (ho : o.op = .makeSlice 109 x y) {p q v : Value} {w' : World} (hx : a.eval x = p) (hy : a.eval y = q)
    (hr : (Instr.makeSlice 109 p q).run Tryz.prog w = .ok v w') (h : K (a.put o.dst v) w') : o.wp Tryz.prog a w K Q := by
  unfold Oper.wp
  simp [execOp, ho, hx, hy, hr, Result.andThen]
  exact h
theorem wpList_makeB {dst : Option Tmp} {ty : TypeId} {pos : String} {after : Array Edge} {x y : Operand} (p q : Value) {v : Value} {w' : World} (hx : a.eval x = p) (hy : a.eval y = q)
    (hr : (Instr.makeSlice 109 p q).run Tryz.prog w = .ok v w') (h : wpList Tryz.prog ops Q rest (a.put dst v) w') :
    wpList Tryz.prog ops Q ({ dst := dst, op := .makeSlice 109 x y, type := ty, pos := pos, after := after, guard := none } :: rest) a w :=
  wpList_plain rfl fun _ hK => wp_makeB x y rfl hx hy hr (hK _ _ h)
end
theorem nb_quB (X : Int) (h : 0 ≤ X ∧ X < 65536) : nb (quB [X]) = [X / 256, X % 256] := by
  simp only [nb, quB, List.flatMap_cons, List.flatMap_nil, List.append_nil, List.map_cons, List.map_nil, UInt8.toNat_ofNat', List.cons.injEq, and_true]
  omega
theorem conv_own (w : World) {N : Nat} {v : Value} {L : List UInt8} (h : rkB.Own N w v (nb L)) : (convert 109 9 v).run Tryz.prog w = .ok (.string (bs L)) w := by
  by_cases hL : L = []
  · subst hL
    obtain ⟨a, c, rfl, -, -⟩ := h.shape
    rw [show (nb ([] : List UInt8)).length = 0 from rfl]
    cases a with
    | none => exact run_convert_bytes_nil _ _ _ Tryz.underlying109 Tryz.underlying5 0 _ _ Tryz.underlying9
    | some ad =>
      obtain ⟨b, o, sp⟩ := ad
      rcases h.2 with ⟨e, _⟩ | ⟨g, cap, cur, e, _⟩
      · cases e
      · simp only [Value.slice.injEq, Option.some.injEq, Addr.mk.injEq] at e
        obtain ⟨⟨rfl, rfl, rfl⟩, -, rfl⟩ := e
        have := run_convert_bytes_arg w 109 5 Tryz.underlying109 Tryz.underlying5 b 0 0 c [] rfl (fun i hi => absurd hi (Nat.not_lt_zero _)) 9 Tryz.underlying9
        exact this
  · obtain ⟨g, cap, rfl, _, _, _, _, hr⟩ := h.at (fun e => hL (by simpa [nb] using e))
    rw [← str_nb L]
    refine run_convert_bytes_arg w 109 5 Tryz.underlying109 Tryz.underlying5 g 0 _ cap (nb L) rfl (fun i hi => ?_) 9 Tryz.underlying9
    have := hr i hi 0 (.int .u8 (nb L)[i]) rfl
    rw [show i * rkB.s + 0 = 0 + i from by show i * 1 + 0 = _; omega] at this
    rw [List.getD_eq_getElem?_getD, List.getElem?_eq_getElem hi]
    exact this
set_option maxHeartbeats 8000000
set_option maxRecDepth 100000
theorem quEncode_any (w : World) {v : Value} {l : List Int} (h : QIn w v l) (hl : l.length ≤ 10000) (hu : U16s l) :
    Calls Tryz.prog 104 #[.agg #[v]] w fun e w' => e = .returned (.string (bs (quB l))) ∧ Keeps [] w w' := by
  have hk0 : Keeps [] w (w.alloc (.cells #[v] 184)) := (Keeps.refl _ _).alloc _
  have h0 := heap_alloc_new w (.cells #[v] 184)
  obtain ⟨a1, c1, rfl, hc1, hm1⟩ := h.shape
  have HIN := Lib.hid h.1; have HU := Lib.hid hu
  obtain ⟨n, hn⟩ : ∃ n, n = l.length := ⟨_, rfl⟩
  rw [← hn] at hc1 hl hk0 h0 HIN ⊢
  obtain ⟨w1, hmk, hown, hk1⟩ := run_makeB (w.alloc (.cells #[.slice a1 n c1] 184)) n (by omega)
  have HB0 := Lib.hid (hk1.heap h0 (by simp))
  have HMK := Lib.hid hmk; have HOWN := Lib.hid (show rkB.Own w.heap.size w1 _ _ from row_up hown (fun q hq => by have := (row_base hown q hq).1; have := hk0.size; omega))
  have HK1 := Lib.hid (hk0.trans hk1 (FSub.refl _ _))
  have wI : IntKind.i64.wrap (2 * (n : Int)) = 2 * (n : Int) := by simp [IntKind.wrap, IntKind.signed, IntKind.bits]; omega
  have HN2 := Lib.hid hn.symm
  obtain ⟨B, hB⟩ : ∃ B, B = w.heap.size := ⟨_, rfl⟩
  have HBE := Lib.hid hB
  have hsz : (w.alloc (.cells #[.slice a1 n c1] 184)).heap.size = w.heap.size + 1 := Array.size_push _
  rw [hsz] at HMK HOWN
  clear h hu hk0 h0 hmk hown hk1 hn hB hsz
  go_enter Tryz.func104, Tryz.ntmps104
  have c0 : w1.cell? ⟨w.heap.size, 0, none⟩ = some (.slice a1 n c1) := cell_lit HB0.out 0 rfl
  go_wp2_with ((with_reducible refine wpList_makeB (.int .i64 0) (.int .i64 (2 * (n : Int))) ?_ ?_ HMK.out ?_); exact rfl; exact rfl)
  go_loopw [3, 14] (fun t i wr => ∃ (k : Nat), i = .int .i64 k ∧ k ≤ n ∧ rkB.Own B wr t (nb (quB (l.take k))) ∧ Keeps [] w wr) (fun _ i _ => n - (intOf i).toNat)
  case atStart => exact ⟨0, rfl, by omega, by rw [HBE.out]; exact HOWN.out, HK1.out⟩
  case round =>
    obtain ⟨k, rfl, hk, ht, hkw⟩ := hrel
    by_cases hlt : k < n
    · have hkl : k < l.length := by have := HN2.out; omega
      obtain ⟨b1, o1, rfl, _, d1⟩ := U16.at (HIN.out.new hkw (Nat.le_refl _)) hkl
      have hX := HU.out _ (getD_in 0 hkl)
      have HNX := Lib.hid (show nb (quB (l.take (k + 1))) = nb (quB (l.take k)) ++ nb (quB [l.getD k 0]) from by rw [take_nextD 0 hkl, quB_app, nb_app])
      have HK := Lib.hid hkw
      generalize l.getD k 0 = X at *
      rw [nb_quB X hX] at HNX
      have hlen : (nb (quB (l.take k))).length ≤ 20000 := by
        rw [nb_length, quB_len, List.length_take]; omega
      obtain ⟨a9, c9, rfl, hc9, hm9⟩ := ht.shape
      have hka : Keeps [] wr (wr.alloc (.cells #[.int .u8 (X / 256), .int .u8 (X % 256)] 5)) := (Keeps.refl _ _).alloc _
      have hnew := heap_alloc_new wr (.cells #[.int .u8 (X / 256), .int .u8 (X % 256)] 5)
      obtain ⟨v', w3, hrun, hrow3, hk3, hf3⟩ := rkB.append (wr.alloc (.cells #[.int .u8 (X / 256), .int .u8 (X % 256)] 5)) B (by have := hkw.size; have := hka.size; have := HBE.out; omega) _ _ (ht.keeps hka (by simp)) [X / 256, X % 256] (by simp; omega) ⟨wr.heap.size, 0, none⟩ 2 (by
        intro j u hj
        have hj2 : ([.int .u8 (X / 256), .int .u8 (X % 256)] : List Value)[j]? = some u := hj
        rw [Addr.add_mid, Nat.zero_add]
        exact cell_lit hnew j (by simpa using hj2))
      obtain ⟨a8, c8, rfl, -, -⟩ := hrow3.shape
      have HRUN := Lib.hid (show (Builtin.append_ #[109, 109] 109 #[.slice a9 (nb (quB (l.take k))).length c9, .slice (some ⟨wr.heap.size, 0, none⟩) 2 2]).run Tryz.prog (wr.alloc (.cells #[.int .u8 (X / 256), .int .u8 (X % 256)] 5)) = _ from hrun)
      have HROW := Lib.hid hrow3
      have HK3 := Lib.hid (hkw.trans ((hka.more (by simp)).trans hk3 (FSub.refl _ _)) (fun q hq => .inr (by have := (row_base ht q hq).1; have := HBE.out; omega)))
      clear hkw ht hka hnew hrun hrow3 hk3 hf3
      have hdv : IntKind.u16.wrap (X.tdiv 256) % 256 = X / 256 := by
        rw [Int.tdiv_eq_ediv_of_nonneg hX.1]
        simp [IntKind.wrap, IntKind.signed, IntKind.bits]
        omega
      go_wp2_with ((with_reducible refine wpList_app (.slice a9 (nb (quB (l.take k))).length c9) (.slice (some ⟨wr.heap.size, 0, none⟩) 2 2) ?_ ?_ HRUN.out ?_); exact rfl; exact rfl)
      go_roundw
      case rel => exact ⟨k + 1, by go_num, by omega, by rw [HNX.out]; have h := HROW.out; rw [List.length_append] at h; exact h, HK3.out⟩
      case measure => simp [intOf]; omega
    · obtain rfl : k = n := by omega
      have hall : l.take k = l := by rw [← HN2.out, List.take_length]
      rw [hall] at ht
      have HCV := Lib.hid (fun W (hk : Keeps [] wr W) => conv_own W (ht.keeps hk (by simp)))
      have hcv := conv_own wr ht
      have HK := Lib.hid hkw
      obtain ⟨a9, c9, rfl, hc9, hm9⟩ := ht.shape
      clear hkw ht hall
      go_wp2_with fail
      go_ret
      exact ⟨rfl, HK.out⟩
end Go.Proofs.YtbnhcggjcdipeaaGreatDoor
/-
  The program's lock: Encode, Decode; the document's Step and Decode.
-/
namespace Go.Proofs.YtbnhcggjcdipeaaGreatDoor
open Go.RowKit
/-- A state's byte. -/
def lkB (s : Int) : List UInt8 := [UInt8.ofNat s.toNat]
theorem nb_lkB {s : Int} (h0 : 0 ≤ s) (h1 : s < 256) : nb (lkB s) = [s] := by
  simp only [nb, lkB, List.map_cons, List.map_nil, UInt8.toNat_ofNat', List.cons.injEq, and_true]
  omega
theorem conv_one (w : World) {s : Int} (h0 : 0 ≤ s) (h1 : s < 256) : (convert 109 9 (.slice (some ⟨w.heap.size, 0, none⟩) 1 1)).run Tryz.prog (w.alloc (.cells #[.int .u8 s] 5)) = .ok (.string (bs (lkB s))) (w.alloc (.cells #[.int .u8 s] 5)) := by
  rw [← str_nb (lkB s)]
  have := run_convert_bytes_arg (w.alloc (.cells #[.int .u8 s] 5)) 109 5 Tryz.underlying109 Tryz.underlying5 w.heap.size 0 1 1 (nb (lkB s)) (by rw [nb_lkB h0 h1]; rfl) (fun i hi => by
    obtain rfl : i = 0 := by omega
    rw [nb_lkB h0 h1]
    exact cell_lit (heap_alloc_new w (.cells #[.int .u8 s] 5)) 0 rfl) 9 Tryz.underlying9
  exact this
set_option maxHeartbeats 8000000
set_option maxRecDepth 100000
theorem lkEncode_any (w : World) (s : Int) (h0 : 0 ≤ s) (h1 : s < 256) : Calls Tryz.prog 125 #[.int .u8 s] w fun e w' => e = .returned (.string (bs (lkB s))) ∧ Keeps [] w w' := by
  have hc := conv_one w h0 h1
  have HK := Lib.hid (show Keeps [] w (w.alloc (.cells #[.int .u8 s] 5)) from (Keeps.refl _ _).alloc _)
  clear h0 h1
  go_enter Tryz.func125, Tryz.ntmps125
  go_wp2_with fail
  go_ret
  exact ⟨rfl, HK.out⟩
/-- The state that a text is, and the error. -/
def lkD : List UInt8 → Int × Int
  | [x] => if (x.toNat : Int) ≤ 16 then ((x.toNat : Int), 0) else (0, 4)
  | _ => (0, 4)
theorem lkD_one (x : UInt8) : lkD [x] = if (x.toNat : Int) ≤ 16 then ((x.toNat : Int), 0) else (0, 4) := rfl
theorem lkD_not {b : List UInt8} (h : b.length ≠ 1) : lkD b = (0, 4) := by
  match b, h with
  | [], _ => rfl
  | [x], h => exact absurd rfl h
  | _ :: _ :: _, _ => rfl
theorem one_size (x : UInt8) : (bs [x]).size = 1 := rfl
theorem lkDecode_any (w : World) (b : List UInt8) : Calls Tryz.prog 128 #[.string (bs b)] w fun e w' => e = .returned (.tuple #[.int .u8 (lkD b).1, .int .i64 (lkD b).2]) ∧ w' = w := by
  by_cases hb : b.length = 1
  · obtain ⟨x, rfl⟩ := List.length_eq_one_iff.1 hb
    have t1 : (((bs [x]).size : Int) != 1) = false := rfl
    have t2 : 0 < (bs [x]).size := by rw [one_size]; decide
    have HX := Lib.hid (fun w => (show Calls Tryz.prog 168 #[.int .u8 (((bs [x])[0]'t2).toNat : Int)] w _ from lkExists_any w (x.toNat : Int)))
    rw [lkD_one]
    clear hb
    by_cases h : (x.toNat : Int) ≤ 16
    · rw [if_pos h]
      rw [decide_eq_true h] at HX
      go_enter Tryz.func128, Tryz.ntmps128
      go_wp2_with fail
      refine (HX.out _).mono ?_; rintro e w2 ⟨rfl, rfl⟩
      go_wp2_with fail
      go_ret2
      exact ⟨rfl, rfl⟩
    · rw [if_neg h]
      rw [decide_eq_false h] at HX
      go_enter Tryz.func128, Tryz.ntmps128
      go_wp2_with fail
      refine (HX.out _).mono ?_; rintro e w2 ⟨rfl, rfl⟩
      go_wp2_with fail
      go_ret2
      exact ⟨rfl, rfl⟩
  · have hz : (bs b).size = b.length := by show b.toArray.size = _; simp
    have t1 : (((bs b).size : Int) != 1) = true := by rw [hz]; simp; omega
    rw [lkD_not hb]
    clear hb hz
    go_enter Tryz.func128, Tryz.ntmps128
    go_wp2_with fail
    go_ret2
    exact ⟨rfl, rfl⟩
end Go.Proofs.YtbnhcggjcdipeaaGreatDoor
/-
  The program's lock: Run.
-/
namespace Go.Proofs.YtbnhcggjcdipeaaGreatDoor
open Go.RowKit
section
variable {ops : Array Oper} {rest : List Oper} {a : Act} {w : World} {Q : Exit → Act → World → Prop}
set_option maxRecDepth 100000 in
theorem wpList_loadP {dst : Option Tmp} {ty : TypeId} {pos : String} {after : Array Edge} {gd : Option (Nat × Bool)} {x : Operand} {g off : Nat} (y : Opn)
    (hw : Region.wanted { dst := dst, op := .load 47 x, type := ty, pos := pos, after := after, guard := gd } (yielded ops a.tmps) = true)
    (hx : a.eval x = .pointer (some ⟨g, off, none⟩)) (hr : w.rangeAt g off (opC y)) (h : wpList Tryz.prog ops Q rest (a.put dst (.agg #[.int .u8 y.f, .int .u8 y.o, .int .u8 y.k, .int .u16 y.a, .int .u16 y.b])) w) :
    wpList Tryz.prog ops Q ({ dst := dst, op := .load 47 x, type := ty, pos := pos, after := after, guard := gd } :: rest) a w :=
  wpList_step fun _ hK => by
    rw [if_pos hw]
    exact wp_load_mid 47 x rfl g off hx (opC y) _ hr Tryz.underlying47 rfl (by kernel_rfl) (hK _ _ h)
end
/-- The parts of a call that stands in memory. -/
theorem cl_parts {w : World} {g off : Nat} {y : Cl} (h : w.rangeAt g off (clC y)) : w.cell? ⟨g, off, none⟩ = some (.int .u8 y.c) ∧ w.rangeAt g (off + 1) (opC y.x) := by
  refine ⟨h 0 _ rfl, fun j v hv => ?_⟩
  have := h (j + 1) v (by simpa [clC, opC] using hv)
  rw [show off + 1 + j = off + (j + 1) by omega]
  exact this
/-- A new block, then stores into it. -/
theorem Keeps.trans' {a b c : World} {g : Nat} (h : Keeps [] a b) (k : Keeps [g] b c) (hg : a.heap.size ≤ g) : Keeps [] a c := h.trans k (fun q hq => .inr (by simp at hq; omega))
set_option maxHeartbeats 8000000
set_option maxRecDepth 100000
end Go.Proofs.YtbnhcggjcdipeaaGreatDoor
/-
  LockTexts' and LockBack's walks.
-/
namespace Go.Proofs.YtbnhcggjcdipeaaGreatDoor
open Go.RowKit
theorem lkD_in (b : List UInt8) : 0 ≤ (lkD b).1 ∧ (lkD b).1 ≤ 16 := by
  match b with
  | [] => decide
  | [x] =>
    rw [lkD_one]
    split
    · exact ⟨by simp, by assumption⟩
    · decide
  | _ :: _ :: _ =>
    show (0 : Int) ≤ 0 ∧ (0 : Int) ≤ 16
    decide
set_option maxHeartbeats 8000000
set_option maxRecDepth 100000
end Go.Proofs.YtbnhcggjcdipeaaGreatDoor
/-
  LockRuns' walk.
-/
namespace Go.Proofs.YtbnhcggjcdipeaaGreatDoor
open Go.RowKit
section
variable {ops : Array Oper} {S : World → Prop} {o : Oper} {a : Act}
theorem yields_loadP (y : Opn) (hw : Region.wanted o (yielded ops a.tmps) = true) (x : Operand) (ho : o.op = .load 47 x) (g off : Nat) (hx : a.eval x = .pointer (some ⟨g, off, none⟩)) (hS : ∀ w, S w → w.rangeAt g off (opC y)) :
    YieldsIf Tryz.prog ops S o (.agg #[.int .u8 y.f, .int .u8 y.o, .int .u8 y.k, .int .u16 y.a, .int .u16 y.b]) a :=
  yieldsIf_load_mid (P := Tryz.prog) hw 47 x ho g off hx (opC y) _ hS Tryz.underlying47 rfl (by kernel_rfl)
theorem yields_indexA (hw : Region.wanted o (yielded ops a.tmps) = true) (x y : Operand) (ho : o.op = .indexAddr 63 x y) (g of n c k : Nat) (hx : a.eval x = .slice (some ⟨g, of, none⟩) n c) (hy : a.eval y = .int .i64 k) (hk : k < n) :
    YieldsIf Tryz.prog ops S o (.pointer (some ⟨g, of + k * 2, none⟩)) a :=
  Or.inl ⟨hw, by
    have hk2 : (k : Int) < n := by omega
    intro w _
    unfold execOp
    simp only [ho, hx, hy]
    go_simp⟩
end
set_option maxHeartbeats 8000000
set_option maxRecDepth 100000
end Go.Proofs.YtbnhcggjcdipeaaGreatDoor
/-
  The program's queue: Decode; all of it as one value.
-/
namespace Go.Proofs.YtbnhcggjcdipeaaGreatDoor
open Go.RowKit
theorem u16_wraps10 (n : Int) (h0 : 0 ≤ n) (h1 : n < 2 ^ 16) : IntKind.u16.wrap n = n := by
  simp [IntKind.wrap, IntKind.signed, IntKind.bits]; omega
theorem or16_join10 (x c : Nat) (h1 : x < 256) (h3 : c < 256) : bits .or .u16 ((x : Int) * 256) (c : Int) = (x : Int) * 256 + c :=
  bits_join .u16 16 (by decide) u16_wraps10 8 ((x : Int) * 256) c (by omega) (by omega) (by omega) (by omega) (by omega) (by omega)
theorem results_decQ {fn : Func} {p x : Tmp} (h : fn.results = #[.cell p 184, .tmp x]) (tmps : Array Value) (w : World) (b : Nat) {z : Value} {t : TypeId}
    (hp : tmps.getD p undef = .pointer (some ⟨b, 0, none⟩)) (hb : w.heap[b]? = some (.cells #[z] t (0, 0))) :
    (results fn tmps).run Tryz.prog w = .ok (.tuple #[.agg #[z], tmps.getD x undef]) w := by
  have h1 : (loadVar 184 ⟨b, 0, none⟩).run Tryz.prog w = .ok (.agg #[z]) w := run_loadVar_row w b t 184 _ _ _ hb Tryz.underlying184 rfl (by kernel_rfl)
  have hp' : tmps[p]?.getD undef = .pointer (some ⟨b, 0, none⟩) := by simpa using hp
  simp only [results, h]
  simp [Sem.run_bind, Result.andThen, hp', asAddr, h1]
section
variable {ops : Array Oper} {rest : List Oper} {o : Oper} {a : Act} {w : World} {K : Act → World → Prop} {Q : Exit → Act → World → Prop}
theorem run_putC (w : World) (g : Nat) (z old : Value) {t : TypeId} (hg : w.heap[g]? = some (.cells #[old] t (0, 0))) (h1 : ∃ p n c, z = .slice p n c) : (storeVar 78 ⟨g, 0, none⟩ z).run Tryz.prog w = .ok () (w.setCell ⟨g, 0, none⟩ z) := by
  obtain ⟨p, n, c, rfl⟩ := h1
  exact run_put1 w g 0 78 _ (by kernel_rfl) rfl (by rw [cell_lit hg 0 rfl]; rfl) (by simp [World.frozen?, hg])
theorem wp_putC {x y : Operand} (ho : o.op = .store 78 x y) {g : Nat} {old z : Value} {t : TypeId}
    (hx : a.eval x = .pointer (some ⟨g, 0, none⟩)) (hy : a.eval y = z) (hg : w.heap[g]? = some (.cells #[old] t (0, 0))) (h1 : ∃ p n c, z = .slice p n c)
    (h : ∀ W, W.heap[g]? = some (.cells #[z] t (0, 0)) → Keeps [g] w W → K (a.put o.dst undef) W) : o.wp Tryz.prog a w K Q := by
  have hrun := run_putC w g z old hg h1
  unfold Oper.wp execOp
  simp only [ho, hx, hy, Instr.storeAt, Instr.sureAddr, Sem.run_bind, Sem.run_pure, Result.andThen_ok, hrun]
  exact h _ (by have := heap_setCell_same w g 0 _ t z hg; simpa using this) ((Keeps.refl [g] w).setCell _ _ (.inl (by simp)))
theorem run_loadC (w : World) (g : Nat) (z : Value) (hc : w.cell? ⟨g, 0, none⟩ = some z) : (loadVar 78 ⟨g, 0, none⟩).run Tryz.prog w = .ok z w := by
  simp [loadVar, run_underlying Tryz.underlying78, hc]
theorem wp_loadC {x : Operand} (ho : o.op = .load 78 x) {g : Nat} {z : Value} (hx : a.eval x = .pointer (some ⟨g, 0, none⟩)) (hc : w.cell? ⟨g, 0, none⟩ = some z) (h : K (a.put o.dst z) w) : o.wp Tryz.prog a w K Q := by
  have hrun := run_loadC w g z hc
  unfold Oper.wp execOp
  simp only [ho, hx, Instr.loadAt, Instr.sureAddr, Sem.run_bind, Sem.run_pure, Result.andThen_ok, hrun]
  exact h
end
set_option maxHeartbeats 8000000
set_option maxRecDepth 100000
theorem quDecode_any (w : World) (b : List UInt8) (hl : b.length ≤ 10000) :
    Calls Tryz.prog 107 #[.string (bs b)] w fun e w' => ∃ v, e = .returned (.tuple #[.agg #[v], .int .i64 (if b.length % 2 = 1 then 5 else 0)]) ∧ QIn w' v (if b.length % 2 = 1 then [] else quN b) ∧ Keeps [] w w' ∧ ∀ q ∈ own v, w.heap.size ≤ q := by
  have hs : (bs b).size = b.length := by show b.toArray.size = _; simp
  by_cases ho : b.length % 2 = 1
  · rw [if_pos ho, if_pos ho]
    have e1 : ((b.length : Int) % 2 != 0) = true := by
      rw [show (b.length : Int) % 2 = 1 by omega]; rfl
    have HB := Lib.hid (heap_alloc_new w (.cells #[.slice none 0 0] 184))
    generalize hB : bs b = B at *
    clear hB ho
    generalize b.length = n at *
    go_enter Tryz.func107, Tryz.ntmps107
    go_wp2_with fail
    try simp only [Exit.inBlock, Exit.then]
    exact bodyPost_ret (results_decQ rfl _ _ w.heap.size rfl HB.out) rfl ⟨_, rfl, (QF.nil 0 _).in_, (Keeps.refl _ _).alloc _, fun q hq => by simp [own, Value.ownBlock] at hq⟩
  · rw [if_neg ho, if_neg ho]
    have e1 : ((b.length : Int) % 2 != 0) = false := by
      rw [show (b.length : Int) % 2 = 0 by omega]; rfl
    have hk0 : Keeps [] w ((w.alloc (.cells #[.slice none 0 0] 184)).alloc (.cells #[.slice none 0 0] 184)) := ((Keeps.refl _ _).alloc _).alloc _
    have h0 : ((w.alloc (.cells #[.slice none 0 0] 184)).alloc (.cells #[.slice none 0 0] 184)).heap[w.heap.size]? = some (.cells #[.slice none 0 0] 184 (0, 0)) := ((Keeps.refl [] _).alloc _).heap (heap_alloc_new w _) (by simp)
    have h1 := heap_alloc_new (w.alloc (.cells #[.slice none 0 0] 184)) (.cells #[.slice none 0 0] 184)
    have hz : ((w.alloc (.cells #[.slice none 0 0] 184)).alloc (.cells #[.slice none 0 0] 184)).heap.size = (w.alloc (.cells #[.slice none 0 0] 184)).heap.size + 1 := Array.size_push _
    have hz1 : (w.alloc (.cells #[.slice none 0 0] 184)).heap.size = w.heap.size + 1 := Array.size_push _
    rw [hz1] at h1 hz
    obtain ⟨n, hn⟩ : ∃ n, n = b.length := ⟨_, rfl⟩
    obtain ⟨R, hR⟩ : ∃ R, R = w.heap.size := ⟨_, rfl⟩
    rw [← hn] at e1 hs hl ho
    rw [← hR] at h0 h1 hz
    have HN := Lib.hid hn; have HRE := Lib.hid hR; have HO := Lib.hid ho; have HAT := Lib.hid (fun w i hi => str_at10 w b i hi)
    have HK0 := Lib.hid hk0; have H0 := Lib.hid h0; have H1 := Lib.hid h1; have HZ := Lib.hid hz
    clear hn hR ho hk0 h0 h1 hz hz1
    obtain ⟨B, hB⟩ : ∃ B, B = bs b := ⟨_, rfl⟩
    rw [← hB] at hs HAT ⊢
    clear hB
    go_enter Tryz.func107, Tryz.ntmps107
    go_wp2_with fail
    rw [← HRE.out]
    go_loopw [5] (fun i wr => ∃ (k : Nat) (z : Value), i = .int .i64 ((2 * k : Nat) : Int) ∧ 2 * k ≤ n ∧ wr.heap[R]? = some (.cells #[.slice none 0 0] 184 (0, 0)) ∧ wr.heap[R + 1]? = some (.cells #[z] 184 (0, 0)) ∧ rkU.Own (R + 2) wr z ((quN b).take k) ∧ (k = 0 → z = .slice none 0 0) ∧ Keeps [] w wr ∧ R + 2 ≤ wr.heap.size) (fun i _ => n - (intOf i).toNat)
    case atStart => exact ⟨0, _, rfl, by omega, H0.out, H1.out, RK.Own.nil rkU _ _, fun _ => rfl, HK0.out, by have := HZ.out; omega⟩
    case round =>
      obtain ⟨k, z, rfl, hk, hb0, hb1, hz, hz0, hkw, hsz⟩ := hrel
      by_cases hlt : 2 * k + 1 < n
      · have h0 := fun w => HAT.out w (2 * k) (by have := HN.out; omega)
        have h1 : ∀ w, (Instr.index 9 (.string B) (.int .i64 (((2 * k : Nat) : Int) + 1))).run Tryz.prog w = .ok (.int .u8 (b.getD (2 * k + 1) 0).toNat) w := fun w => HAT.out w (2 * k + 1) (by have := HN.out; omega)
        have HTK := Lib.hid (show (quN b).take (k + 1) = (quN b).take k ++ [((b.getD (2 * k) 0).toNat * 256 + (b.getD (2 * k + 1) 0).toNat : Int)] from by
          rw [List.take_add_one, quN_get b k (by have := HN.out; omega)]; rfl)
        have hx := (b.getD (2 * k) 0).toNat_lt; have hy := (b.getD (2 * k + 1) 0).toNat_lt
        generalize (b.getD (2 * k) 0).toNat = X at *
        generalize (b.getD (2 * k + 1) 0).toNat = Y at *
        have hj := or16_join10 X Y hx hy
        have hfl : ((quN b).take k).length ≤ 10000 := by rw [List.length_take]; omega
        obtain ⟨az, cz, rfl, hcz, hmz⟩ := hz.shape
        obtain ⟨v', w3, hrun, hrow3, hk3, hf3⟩ := rkU.append1 wr.drew (R + 2) hsz _ _ (hz.keeps ((Keeps.refl [] wr).drew) (by simp)) ((X : Int) * 256 + Y) (by omega)
        have HRUN := Lib.hid hrun
        have hzl : ∀ q ∈ own (.slice az ((quN b).take k).length cz), R + 2 ≤ q := fun q hq => (row_base hz q hq).1
        have hk3' : Keeps (own (.slice az ((quN b).take k).length cz)) wr w3 := (((Keeps.refl [] wr).drew).more (by simp)).trans hk3 (FSub.refl _ _)
        have HK3 := Lib.hid (show Keeps [] w w3 from hkw.trans hk3' (fun q hq => .inr (by have := hzl q hq; have := HRE.out; omega)))
        have HB03 := Lib.hid (hk3'.heap hb0 (fun hq => by have := hzl _ hq; omega))
        have HB13 := Lib.hid (hk3'.heap hb1 (fun hq => by have := hzl _ hq; omega))
        have HR3 := Lib.hid hrow3
        have HSZ3 := Lib.hid (show R + 2 ≤ w3.heap.size from Nat.le_trans hsz hk3'.size)
        obtain ⟨S, hS⟩ : ∃ S : World → Prop, S = fun y => Keeps ((R + 1) :: own (.slice az ((quN b).take k).length cz)) wr y := ⟨_, rfl⟩
        have HSE := Lib.hid hS
        have HB1 := Lib.hid hb1
        have HKS := Lib.hid (show Keeps ((R + 1) :: own (.slice az ((quN b).take k).length cz)) wr w3 from hk3'.more (fun q hq => List.mem_cons_of_mem _ hq))
        have HSH := Lib.hid (show ∃ p n c, v' = Value.slice p n c from by obtain ⟨p, c, e, -⟩ := hrow3.shape; exact ⟨p, _, c, e⟩)
        clear hz hkw hrun hrow3 hk3 hf3 hfl hS hzl hk3' hb0 hz0 hsz
        have wX : IntKind.u16.wrap (X : Int) = X := by simp [IntKind.wrap, IntKind.signed, IntKind.bits]; omega
        have wY : IntKind.u16.wrap (Y : Int) = Y := by simp [IntKind.wrap, IntKind.signed, IntKind.bits]; omega
        have wM : IntKind.u16.wrap ((X : Int) * 256) = X * 256 := by simp [IntKind.wrap, IntKind.signed, IntKind.bits]; omega
        have wI : IntKind.i64.wrap (((2 * k : Nat) : Int) + 1) = ((2 * k : Nat) : Int) + 1 := by simp [IntKind.wrap, IntKind.signed, IntKind.bits]; omega
        generalize ((quN b).take k).length = m at *
        generalize hp : 2 * k = p at *
        have HP := Lib.hid hp
        clear hp
        go_wp2_with fail
        refine wp_region_noPanic ?_
        refine wp_region_held_drew (S := (fun _ => True)) (by kernel_rfl) trivial (fun hHeld => ?_)
        refine tw 0 (h := ?_)
        refine tw 2 (h := ?_)
        refine tw 3 (h := ?_)
        refine tk 4 (y := by exact yields_idx (by rfl) (.tmp 19) (.tmp 20) rfl (s := .string B) (i := (p : Int)) rfl rfl h0) (h := ?_)
        refine tw 5 (h := ?_)
        refine tw 6 (h := ?_)
        refine tw 7 (h := ?_)
        refine tw 8 (h := ?_)
        refine tw 9 (h := ?_)
        refine tk 10 (y := by exact yields_idx (by rfl) (.tmp 24) (.tmp 26) rfl (s := .string B) (i := (p : Int) + 1) rfl rfl h1) (h := ?_)
        refine tw 11 (h := ?_)
        refine tw 12 (h := ?_)
        apply wpAnyH_ready (rs := [1, 13])
        · kernel_rfl
        · simp
        apply AllReadyH.cons
        · simp only [List.getElem?_toArray]; rfl
        · intro K hK
          rw [if_pos (by rfl)]
          refine wp_loadC rfl rfl (cell_lit (show wr.drew.heap[R + 1]? = _ from HB1.out) 0 rfl) ?_
          refine hK.out _ _ (by exact trivial) (fun hHeld => ?_); clear hK K; try simp only [Act.put, lsA, lsZ, lsS]
          refine rp 13 (h := fun K hK => ?_)
          refine wp_buildU _ rfl (y := (X : Int) * 256 + Y) rfl ?_
          refine hK.out _ _ (by exact trivial) (fun hHeld => ?_); clear hK K; try simp only [Act.put, lsA, lsZ, lsS]
          refine rp 14 (h := fun K hK => ?_)
          refine wp_append_run _ _ 78 rfl _ _ _ w3 rfl rfl HRUN.out ?_
          refine hK.out _ _ (by exact trivial) (fun hHeld => ?_); clear hK K; try simp only [Act.put, lsA, lsZ, lsS]
          refine tw 15 (h := ?_)
          refine rp 16 (h := fun K hK => ?_)
          refine wp_putC rfl rfl rfl HB13.out HSH.out (fun W6 hW6 hk6 => ?_)
          have HW6 := Lib.hid hW6; have HK6 := Lib.hid hk6
          clear hW6 hk6
          refine hK.out _ _ (by exact trivial) (fun hHeld => ?_); clear hK K; try simp only [Act.put, lsA, lsZ, lsS]
          refine wpAnyH_done (by kernel_rfl) ?_ _
          refine NoPanic.normal ?_
          go_wp2_with fail
          have HR6 := Lib.hid (HR3.out.keeps HK6.out (fun q hq => by have := (row_base HR3.out q hq).1; simp; omega))
          have HB06 := Lib.hid (HK6.out.heap HB03.out (by simp))
          have HKE := Lib.hid (show Keeps [] w W6 from HK3.out.trans HK6.out (fun q hq => .inr (by simp at hq; have := HRE.out; omega)))
          go_roundw
          case rel => exact ⟨k + 1, v', by rw [← HP.out]; go_num, by have := HP.out; omega, HB06.out, HW6.out, by rw [HTK.out]; exact HR6.out, fun h => by omega, HKE.out, Nat.le_trans HSZ3.out HK6.out.size⟩
          case measure => have := HP.out; simp [intOf]; omega
        apply AllReadyH.cons (hs := AllReadyH.nil)
        · simp only [List.getElem?_toArray]; rfl
        intro K hK
        rw [if_pos (by rfl)]
        refine wp_buildU _ rfl (y := (X : Int) * 256 + Y) rfl ?_
        refine hK.out _ _ (by exact trivial) (fun hHeld => ?_); clear hK K; try simp only [Act.put, lsA, lsZ, lsS]
        refine rp 1 (h := fun K hK => ?_)
        refine wp_loadC rfl rfl (((Keeps.refl [] wr.drew).alloc _).cell (cell_lit (show wr.drew.heap[R + 1]? = _ from HB1.out) 0 rfl) (by simp)) ?_
        refine hK.out _ _ (by exact trivial) (fun hHeld => ?_); clear hK K; try simp only [Act.put, lsA, lsZ, lsS]
        refine rp 14 (h := fun K hK => ?_)
        refine wp_append_run _ _ 78 rfl _ _ _ w3 rfl rfl HRUN.out ?_
        refine hK.out _ _ (by exact trivial) (fun hHeld => ?_); clear hK K; try simp only [Act.put, lsA, lsZ, lsS]
        refine tw 15 (h := ?_)
        refine rp 16 (h := fun K hK => ?_)
        refine wp_putC rfl rfl rfl HB13.out HSH.out (fun W6 hW6 hk6 => ?_)
        have HW6 := Lib.hid hW6; have HK6 := Lib.hid hk6
        clear hW6 hk6
        refine hK.out _ _ (by exact trivial) (fun hHeld => ?_); clear hK K; try simp only [Act.put, lsA, lsZ, lsS]
        refine wpAnyH_done (by kernel_rfl) ?_ _
        refine NoPanic.normal ?_
        go_wp2_with fail
        have HR6 := Lib.hid (HR3.out.keeps HK6.out (fun q hq => by have := (row_base HR3.out q hq).1; simp; omega))
        have HB06 := Lib.hid (HK6.out.heap HB03.out (by simp))
        have HKE := Lib.hid (show Keeps [] w W6 from HK3.out.trans HK6.out (fun q hq => .inr (by simp at hq; have := HRE.out; omega)))
        go_roundw
        case rel => exact ⟨k + 1, v', by rw [← HP.out]; go_num, by have := HP.out; omega, HB06.out, HW6.out, by rw [HTK.out]; exact HR6.out, fun h => by omega, HKE.out, Nat.le_trans HSZ3.out HK6.out.size⟩
        case measure => have := HP.out; simp [intOf]; omega
      · obtain rfl : 2 * k = n := by have := HO.out; omega
        have hall : (quN b).take k = quN b := List.take_of_length_le (by rw [quN_len]; have := HN.out; omega)
        rw [hall] at hz
        have hq : QIn wr z (quN b) := ⟨hz.in_, fun e => hz0 (by
          have h1 := quN_len b
          rw [e] at h1
          simp at h1
          have := HN.out; omega)⟩
        have HQ := Lib.hid hq
        have HZO := Lib.hid (fun q hq => (row_base hz q hq).1)
        have HB0 := Lib.hid hb0; have HKW := Lib.hid hkw
        obtain ⟨az, cz, rfl, hcz, hmz⟩ := hz.shape
        have HB1 := Lib.hid hb1
        clear hz hkw hall hq hb0 hz0 hb1
        go_wp2_with (first
          | ((with_reducible refine wpList_loadQ (g := R + 1) rfl ?_ HB1.out ?_); exact rfl)
          | ((with_reducible refine wpList_putQ (g := R) (old := .slice none 0 0) (z := .slice az (quN b).length cz) ?_ ?_ HB0.out (slice_one _ _ _) ?_); exact rfl; exact rfl))
        intro w5 hB5 hk5
        have HB5 := Lib.hid hB5; have HK5 := Lib.hid hk5
        clear hB5 hk5
        go_wp2_with fail
        try simp only [Exit.inBlock, Exit.then]
        exact bodyPost_ret (results_decQ rfl _ _ R rfl HB5.out) rfl ⟨_, rfl, HQ.out.keeps HK5.out (fun q hq => by have := HZO.out q hq; simp; omega), HKW.out.trans HK5.out (fun q hq => .inr (by simp at hq; have := HRE.out; omega)), fun q hq => by have := HZO.out q hq; have := HRE.out; omega⟩
end Go.Proofs.YtbnhcggjcdipeaaGreatDoor
