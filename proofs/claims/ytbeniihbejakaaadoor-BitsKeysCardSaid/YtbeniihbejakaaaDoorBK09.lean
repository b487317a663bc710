/-
  The program's queue: Encode.
-/
import Derived.Deep.RegionHeld3
import Derived.Laws.Tables
import Derived.BigQuiet
import Derived.Deep.AppendSrc
import Derived.Lib.SliceRun
import Derived.Laws.MakeOwn
import Derived.Laws.OwnMore
import Derived.Test.YtbeniihbejakaaaDoorBK07
import Derived.Test.YtbeniihbejakaaaDoorBK05
import Derived.Test.YtbeniihbejakaaaDoorBK06
import Derived.Test.YtbeniihbejakaaaDoorBK08
import Derived.Test.YtbeniihbejakaaaDoorBK01
set_option linter.unusedSimpArgs false
set_option linter.unusedVariables false
namespace Go.Proofs.YtbeniihbejakaaaDoor
set_option maxRecDepth 100000
open Go.RowKit
theorem Tryd.infoU8B : (Tryd.prog.info? 5).map (fun i => (i.zero, i.size, i.bytes)) = some (some (.int .u8 0), 1, 1) := by kernel_rfl
def u8C (x : Int) : List Value := [.int .u8 x]
/-- Bytes, side by side. -/
noncomputable def rkB : RK Int :=
  { T := 5, Sl := 67, s := 1, b := 1, cs := u8C, i := (info_parts Tryd.infoU8B).choose, z := .int .u8 0,
    len := fun _ => rfl, one := by intro x v hv; simp only [u8C, List.mem_cons, List.not_mem_nil, or_false] at hv; subst hv; rfl, s0 := by decide, b1 := by decide, und := Tryd.underlying67,
    hi := (info_parts Tryd.infoU8B).choose_spec.1, hz := (info_parts Tryd.infoU8B).choose_spec.2.1, hs := (info_parts Tryd.infoU8B).choose_spec.2.2.1, hb := (info_parts Tryd.infoU8B).choose_spec.2.2.2, hzs := rfl }
section
variable {ops : Array Oper} {rest : List Oper} {o : Oper} {a : Act} {w : World} {K : Act → World → Prop} {Q : Exit → Act → World → Prop}
theorem wp_makeB (x y : Operand) (ho : o.op = .makeSlice 67 x y) {p q v : Value} {w' : World} (hx : a.eval x = p) (hy : a.eval y = q)
    (hr : (Instr.makeSlice 67 p q).run Tryd.prog w = .ok v w') (h : K (a.put o.dst v) w') : o.wp Tryd.prog a w K Q := by
  unfold Oper.wp
  simp [execOp, ho, hx, hy, hr, Result.andThen]
  exact h
theorem wpList_makeB {dst : Option Tmp} {ty : TypeId} {pos : String} {after : Array Edge} {x y : Operand} (p q : Value) {v : Value} {w' : World} (hx : a.eval x = p) (hy : a.eval y = q)
    (hr : (Instr.makeSlice 67 p q).run Tryd.prog w = .ok v w') (h : wpList Tryd.prog ops Q rest (a.put dst v) w') :
    wpList Tryd.prog ops Q ({ dst := dst, op := .makeSlice 67 x y, type := ty, pos := pos, after := after, guard := none } :: rest) a w :=
  wpList_plain rfl fun _ hK => wp_makeB x y rfl hx hy hr (hK _ _ h)
end
theorem conv_own (w : World) {N : Nat} {v : Value} {L : List UInt8} (h : rkB.Own N w v (nb L)) : (convert 67 9 v).run Tryd.prog w = .ok (.string (bs L)) w := by
  by_cases hL : L = []
  · subst hL
    obtain ⟨a, c, rfl, -, -⟩ := h.shape
    rw [show (nb ([] : List UInt8)).length = 0 from rfl]
    cases a with
    | none => exact run_convert_bytes_nil _ _ _ Tryd.underlying67 Tryd.underlying5 0 _ _ Tryd.underlying9
    | some ad =>
      obtain ⟨b, o, sp⟩ := ad
      rcases h.2 with ⟨e, _⟩ | ⟨g, cap, cur, e, _⟩
      · cases e
      · simp only [Value.slice.injEq, Option.some.injEq, Addr.mk.injEq] at e
        obtain ⟨⟨rfl, rfl, rfl⟩, -, rfl⟩ := e
        have := run_convert_bytes_arg w 67 5 Tryd.underlying67 Tryd.underlying5 b 0 0 c [] rfl (fun i hi => absurd hi (Nat.not_lt_zero _)) 9 Tryd.underlying9
        exact this
  · obtain ⟨g, cap, rfl, _, _, _, _, hr⟩ := h.at (fun e => hL (by simpa [nb] using e))
    rw [← str_nb L]
    refine run_convert_bytes_arg w 67 5 Tryd.underlying67 Tryd.underlying5 g 0 _ cap (nb L) rfl (fun i hi => ?_) 9 Tryd.underlying9
    have := hr i hi 0 (.int .u8 (nb L)[i]) rfl
    rw [show i * rkB.s + 0 = 0 + i from by show i * 1 + 0 = _; omega] at this
    rw [List.getD_eq_getElem?_getD, List.getElem?_eq_getElem hi]
    exact this
set_option maxHeartbeats 8000000
set_option maxRecDepth 100000
end Go.Proofs.YtbeniihbejakaaaDoor
/-
  Slices of numbers; the document's sets: Has, Gap, Without, Down, Union.
-/
namespace Go.Proofs.YtbeniihbejakaaaDoor
open Go.RowKit
set_option maxRecDepth 100000
theorem Tryd.infoIntZ : (Tryd.prog.info? 3).map (fun i => (i.zero, i.size, i.bytes)) = some (some (.int .i64 0), 1, 8) := by kernel_rfl
def zC (x : Int) : List Value := [.int .i64 x]
/-- Numbers, side by side. -/
noncomputable def rkZ : RK Int :=
  { T := 3, Sl := 30, s := 1, b := 8, cs := zC, i := (info_parts Tryd.infoIntZ).choose, z := .int .i64 0,
    len := fun _ => rfl, one := by intro x v hv; simp only [zC, List.mem_cons, List.not_mem_nil, or_false] at hv; subst hv; rfl, s0 := by decide, b1 := by decide, und := Tryd.underlying30,
    hi := (info_parts Tryd.infoIntZ).choose_spec.1, hz := (info_parts Tryd.infoIntZ).choose_spec.2.1, hs := (info_parts Tryd.infoIntZ).choose_spec.2.2.1, hb := (info_parts Tryd.infoIntZ).choose_spec.2.2.2, hzs := rfl }
theorem InZ_at {N : Nat} {w : World} {a : Option Addr} {n c : Nat} {l : List Int} (h : rkZ.In N w (.slice a n c) l) {k : Nat} (hk : k < l.length) : ∃ bk o, a = some ⟨bk, o, none⟩ ∧ bk < N ∧ w.cell? ⟨bk, o + k, none⟩ = some (.int .i64 l[k]) := by
  obtain ⟨_, _, e, _, _, h⟩ := h
  simp at e
  obtain ⟨rfl, -, -⟩ := e
  obtain ⟨bk, o, e, hb, hr⟩ := h (fun e => by rw [e] at hk; simp at hk)
  refine ⟨bk, o, e, hb, ?_⟩
  have := hr k hk 0 (.int .i64 l[k]) rfl
  rw [show o + k * rkZ.s + 0 = o + k from by show o + k * 1 + 0 = _; omega] at this
  exact this
section
variable {ops : Array Oper} {rest : List Oper} {o : Oper} {a : Act} {w : World} {K : Act → World → Prop} {Q : Exit → Act → World → Prop}
theorem wp_buildZ (x : Operand) (ho : o.op = .buildSlice 30 1 #[(0, x)]) {y : Int} (hx : a.eval x = .int .i64 y)
    (h : K (a.put o.dst (.slice (some ⟨w.heap.size, 0, none⟩) 1 1)) (w.alloc (.cells (zC y).toArray 3))) : o.wp Tryd.prog a w K Q := by
  refine wp_buildSlice 30 3 1 #[(0, x)] ho #[.int .i64 y] rkZ.i _ rkZ.und rkZ.hi rkZ.hz (by rw [rkZ.hs]; decide) (by rw [rkZ.hs]; decide) ?_ h
  rw [rkZ.hs]
  have e : (#[(0, x)].map fun (i, z) => (i, a.eval z)).toList = [(0, a.eval x)] := by simp
  rw [e, hx, show rkZ.s = 1 from rfl, show rkZ.z = .int .i64 0 from rfl]
  simp [Instr.fill, Value.cells]
  rw [show Array.range 1 = #[0] from rfl]
  simp
theorem wpList_buildZ {dst : Option Tmp} {ty : TypeId} {pos : String} {after : Array Edge} {y : Operand} {x : Int} (hy : a.eval y = .int .i64 x)
    (h : wpList Tryd.prog ops Q rest (a.put dst (.slice (some ⟨w.heap.size, 0, none⟩) 1 1)) (w.alloc (.cells (zC x).toArray 3))) :
    wpList Tryd.prog ops Q ({ dst := dst, op := .buildSlice 30 1 #[(0, y)], type := ty, pos := pos, after := after, guard := none } :: rest) a w :=
  wpList_plain rfl fun _ hK => wp_buildZ y rfl hy (hK _ _ h)
end
set_option maxHeartbeats 4000000
theorem takeZ {l : List Int} {k : Nat} (hk : k < l.length) : l.take (k + 1) = l.take k ++ [l[k]] := by
  rw [List.take_add_one, List.getElem?_eq_getElem hk, Option.toList_some]
end Go.Proofs.YtbeniihbejakaaaDoor
/-
  The document's sets: FromKey.
-/
namespace Go.Proofs.YtbeniihbejakaaaDoor
open Go.RowKit
set_option maxRecDepth 100000
set_option maxHeartbeats 4000000
theorem bs_getZ (b : List UInt8) (i : Nat) (h : i < (bs b).size) : (bs b)[i] = b.getD i 0 := by
  have h2 : i < b.length := h
  rw [List.getD_eq_getElem?_getD, List.getElem?_eq_getElem h2]
  rfl
def bitsB (x i j : Nat) : List Int := ((List.range j).filter fun t => decide (x / 2 ^ t % 2 = 1)).map fun t : Nat => (8 * (i : Int) + (t : Int))
theorem bitsB_next (x i j : Nat) : bitsB x i (j + 1) = bitsB x i j ++ if x / 2 ^ j % 2 = 1 then [8 * (i : Int) + (j : Int)] else [] := by
  unfold bitsB
  rw [List.range_succ, List.filter_append, List.map_append]
  by_cases h : x / 2 ^ j % 2 = 1
  · rw [if_pos h, List.filter_cons_of_pos (by simpa using h), List.filter_nil]; rfl
  · rw [if_neg h, List.filter_cons_of_neg (by simpa using h), List.filter_nil]; rfl
theorem bitsB_len (x i j : Nat) : (bitsB x i j).length ≤ j := by
  unfold bitsB
  rw [List.length_map]
  exact Nat.le_trans (List.length_filter_le ..) (by simp)
/-- What has been read: i bytes, and of one more its j lowest bits. -/
def fromP (k : List UInt8) (i j : Nat) : List Int := (List.range i).flatMap (fun i => bitsB (k.getD i 0).toNat i 8) ++ bitsB (k.getD i 0).toNat i j
theorem fromP_8 (k : List UInt8) (i : Nat) : fromP k i 8 = fromP k (i + 1) 0 := by
  unfold fromP
  rw [List.range_succ, List.flatMap_append, List.flatMap_cons, List.flatMap_nil, List.append_nil]
  show _ = _ ++ []
  rw [List.append_nil]
theorem fromP_next (k : List UInt8) (i j : Nat) : fromP k i (j + 1) = fromP k i j ++ if (k.getD i 0).toNat / 2 ^ j % 2 = 1 then [8 * (i : Int) + (j : Int)] else [] := by
  unfold fromP
  rw [bitsB_next, List.append_assoc]
theorem fromP_len (k : List UInt8) (i j : Nat) : (fromP k i j).length ≤ 8 * i + j := by
  have go : ∀ n, ((List.range n).flatMap (fun i => bitsB (k.getD i 0).toNat i 8)).length ≤ 8 * n := by
    intro n
    induction n with
    | zero => simp
    | succ n ih =>
      rw [List.range_succ, List.flatMap_append, List.flatMap_cons, List.flatMap_nil, List.append_nil, List.length_append]
      have := bitsB_len (k.getD n 0).toNat n 8
      omega
  unfold fromP
  rw [List.length_append]
  have h1 := go i; have h2 := bitsB_len (k.getD i 0).toNat i j
  omega
theorem fromP_all (k : List UInt8) : fromP k k.length 0 = fromL k := by
  unfold fromP
  show _ ++ [] = _
  rw [List.append_nil]; rfl
theorem bit_mod (x j : Nat) : ((x : Int) / 2 ^ j).tmod 2 = ((x / 2 ^ j % 2 : Nat) : Int) := by
  rw [show ((2 : Int) ^ j) = ((2 ^ j : Nat) : Int) from by rw [Int.natCast_pow]; rfl, ← Int.natCast_ediv, Int.tmod_eq_emod_of_nonneg (Int.natCast_nonneg _)]
  omega
theorem r15FromKey_any (w : World) (key : List UInt8) : Calls Tryd.prog 19 #[.string (bs key)] w fun e w' => ∃ v', e = .returned (.tuple #[v', .int .i64 (fromB key).2]) ∧ rkZ.Own w.heap.size w' v' (fromB key).1 ∧ Keeps [] w w' := by
  obtain ⟨s, hs⟩ : ∃ s, s = bs key := ⟨_, rfl⟩
  have hz : s.size = key.length := by rw [hs]; rfl
  have HSS := Lib.hid hs
  have HZZ := Lib.hid hz
  rw [← hs]
  clear hs
  by_cases hbig : 8192 < key.length
  case pos =>
    have h1 : (8192 : Int) < s.size := by omega
    have HF := Lib.hid (show fromB key = ([], 4) from if_pos (.inl hbig))
    clear hbig hz
    go_enter Tryd.func19, Tryd.ntmps19
    go_wp2_with fail
    go_ret2
    exact ⟨_, by rw [HF.out]; rfl, by rw [HF.out]; exact RK.Own.nil rkZ _ _, Keeps.refl _ _⟩
  have h1 : ¬ (8192 : Int) < s.size := by omega
  have h8 : s.size ≤ 8192 := by omega
  by_cases hnil : key = []
  case pos =>
    subst hnil
    have h2 : s.size = 0 := by rw [hz]; rfl
    have HF := Lib.hid (show fromB [] = ([], 0) from rfl)
    rw [HF.out]
    clear hz hbig
    go_enter Tryd.func19, Tryd.ntmps19
    go_wp2_with fail
    go_loopw [4, 5] (fun v i wr => i = .int .i64 0 ∧ v = .slice none 0 0 ∧ wr = w) (fun _ _ _ => 0)
    case atStart => exact ⟨rfl, rfl, rfl⟩
    case round =>
      obtain ⟨rfl, rfl, rfl⟩ := hrel
      go_wp2_with fail
      go_ret2
      exact ⟨_, rfl, RK.Own.nil rkZ _ _, Keeps.refl _ _⟩
  have hpos : 0 < s.size := by rw [hz]; exact List.length_pos_iff.2 hnil
  have hlt : s.size - 1 < s.size := by omega
  have hlast : key.getLast? = some (s[s.size - 1]'hlt) := by
    subst_vars
    rw [List.getLast?_eq_getElem?, bs_getZ, List.getD_eq_getElem?_getD]
    show key[key.length - 1]? = _
    have h : key.length - 1 < key.length := by have := List.length_pos_iff.2 hnil; omega
    rw [show (bs key).size - 1 = key.length - 1 from rfl, List.getElem?_eq_getElem h]; rfl
  obtain ⟨xl, hxl⟩ : ∃ x : Nat, (s[s.size - 1]'hlt).toNat = x := ⟨_, rfl⟩
  have h2 : 0 < (s.size : Int) := by omega
  have HNL := Lib.hid hnil; have HBG := Lib.hid hbig
  clear hz hnil hbig
  by_cases hx0 : xl = 0
  case pos =>
    subst hx0
    have HF := Lib.hid (show fromB key = ([], 4) from if_pos (.inr (by rw [hlast]; congr 1; exact UInt8.toNat_inj.1 hxl)))
    clear hlast
    go_enter Tryd.func19, Tryd.ntmps19
    go_wp2_with fail
    go_ret2
    exact ⟨_, by rw [HF.out]; rfl, by rw [HF.out]; exact RK.Own.nil rkZ _ _, Keeps.refl _ _⟩
  have q0 : ((xl : Int) == 0) = false := by simpa using hx0
  have HF := Lib.hid (show fromB key = (fromL key, 0) from if_neg (by
    rintro (h | h)
    · exact HBG.out h
    · rw [hlast] at h
      have := Option.some.inj h
      rw [this] at hxl
      exact hx0 hxl.symm))
  rw [HF.out]
  clear hx0 hlast
  go_enter Tryd.func19, Tryd.ntmps19
  go_wp2_with fail
  go_loopw [4, 5] (fun v i wr => ∃ k : Nat, i = .int .i64 k ∧ k ≤ s.size ∧ rkZ.Own w.heap.size wr v (fromP key k 0) ∧ Keeps [] w wr) (fun _ i _ => s.size - (intOf i).toNat)
  case atStart => exact ⟨0, rfl, by omega, RK.Own.nil rkZ _ _, Keeps.refl _ _⟩
  case round =>
    obtain ⟨i, rfl, hi, hz, hkw⟩ := hrel
    by_cases hil : i < s.size
    case neg =>
      obtain rfl : i = s.size := by omega
      have HZ := Lib.hid (show rkZ.Own w.heap.size wr _ (fromL key) from by rw [← fromP_all, ← HZZ.out]; exact hz)
      have HK := Lib.hid hkw
      clear hz hkw
      go_wp2_with fail
      go_ret2
      exact ⟨_, rfl, HZ.out, HK.out⟩
    case pos =>
      obtain ⟨x, hx⟩ : ∃ x : Nat, (s[i]'hil).toNat = x := ⟨_, rfl⟩
      have HXD := Lib.hid (show (key.getD i 0).toNat = x from by rw [← hx]; subst_vars; rw [bs_getZ])
      have hx8 : x < 256 := by rw [← hx]; exact UInt8.toNat_lt _
      have HZ0 := Lib.hid hz; have HK0 := Lib.hid hkw
      clear hz hkw
      go_wp2_with fail
      go_loopw [4, 6] (fun v j wr => ∃ k : Nat, j = .int .i64 k ∧ k ≤ 8 ∧ rkZ.Own w.heap.size wr v (fromP key i k) ∧ Keeps [] w wr) (fun _ j _ => 8 - (intOf j).toNat)
      case atStart => exact ⟨0, rfl, by omega, HZ0.out, HK0.out⟩
      case round =>
        obtain ⟨j, rfl, hj, hz, hkw⟩ := hrel
        have HZ := Lib.hid hz; have HK := Lib.hid hkw
        by_cases hj8 : j < 8
        case neg =>
          obtain rfl : j = 8 := by omega
          have HZ9 := Lib.hid (show rkZ.Own w.heap.size wr _ (fromP key (i + 1) 0) from by rw [← fromP_8]; exact hz)
          clear hz hkw HZ
          go_wp2_with fail
          go_roundw
          case rel => exact ⟨i + 1, by go_num, by omega, HZ9.out, HK.out⟩
          case measure => simp [intOf]; omega
        case pos =>
          have HX := Lib.hid (fromP_next key i j)
          have HLN := Lib.hid (show (fromP key i j).length ≤ 1000000 from Nat.le_trans (fromP_len key i j) (by omega))
          rw [HXD.out] at HX
          generalize fromP key i j = L at *
          clear hz hkw
          by_cases hb : x / 2 ^ j % 2 = 1
          case pos =>
            have HB := Lib.hid hb
            have q3 : (((x : Int) / 2 ^ j).tmod 2 == 1) = true := by rw [bit_mod, hb]; rfl
            clear hb
            obtain ⟨v', w3, hrun, hrow, hk3, hf3⟩ := rkZ.append1 wr w.heap.size HK.out.size _ _ HZ.out ((8 * (i : Int) + (j : Int))) (by have := HLN.out; omega)
            obtain ⟨av, cv, rfl, -, -⟩ := id HZ.out.shape
            have HRUN := Lib.hid (show (Builtin.append_ #[30, 30] 30 #[.slice av _ cv, .slice (some ⟨wr.heap.size, 0, none⟩) 1 1]).run Tryd.prog (wr.alloc (.cells (zC ((8 * (i : Int) + (j : Int)))).toArray 3)) = .ok v' w3 from hrun)
            have HROW := Lib.hid hrow
            have HK3 := Lib.hid (HK.out.trans hk3 (fun q hq => .inr (row_base HZ.out q hq).1))
            clear hrun hrow hk3 hf3 HK HZ
            go_wp2_with (first
              | ((with_reducible refine wpList_buildZ (x := (8 * (i : Int) + (j : Int))) ?_ ?_); exact rfl)
              | ((with_reducible refine wpList_app _ _ ?_ ?_ HRUN.out ?_); exact rfl; exact rfl))
            go_roundw
            case rel => exact ⟨j + 1, by go_num, by omega, by rw [HX.out, if_pos HB.out]; exact HROW.out, HK3.out⟩
            case measure => simp [intOf]; omega
          case neg =>
            have HB := Lib.hid hb
            have q3 : (((x : Int) / 2 ^ j).tmod 2 == 1) = false := by
              rw [bit_mod]
              have : x / 2 ^ j % 2 = 0 := by omega
              rw [this]; rfl
            clear hb
            go_wp2_with fail
            go_roundw
            case rel => exact ⟨j + 1, by go_num, by omega, by rw [HX.out, if_neg HB.out, List.append_nil]; exact HZ.out, HK.out⟩
            case measure => simp [intOf]; omega
end Go.Proofs.YtbeniihbejakaaaDoor
/-
  The document's sets: Key.
-/
namespace Go.Proofs.YtbeniihbejakaaaDoor
open Go.RowKit
set_option maxRecDepth 100000
set_option maxHeartbeats 4000000
theorem rowB_rep : ∀ n : Nat, rkB.row (List.replicate n 0) = List.replicate n (.int .u8 0)
  | 0 => rfl
  | n + 1 => by
    show (List.replicate (n + 1) (0 : Int)).flatMap u8C = _
    rw [List.replicate_succ, List.flatMap_cons]
    have := rowB_rep n
    rw [show (List.replicate n (0 : Int)).flatMap u8C = rkB.row (List.replicate n 0) from rfl, this]; rfl
theorem run_makeZ (w : World) (n : Nat) (hn : n ≤ 10000) : ∃ w', (Instr.makeSlice 67 (.int .i64 (n : Int)) (.int .i64 (n : Int))).run Tryd.prog w = .ok (.slice (some ⟨w.heap.size, 0, none⟩) n n) w' ∧ rkB.Own w.heap.size w' (.slice (some ⟨w.heap.size, 0, none⟩) n n) (List.replicate n 0) ∧ Keeps [] w w' := by
  obtain ⟨w', h1, h2, h3⟩ := run_makeSlice_full (P := Tryd.prog) w w.heap.size 67 5 rkB.i _ 1 rkB.und rkB.hi rkB.hz rkB.hs .i64 .i64 n (by omega) (by rw [rkB.hb]; show 1 * n ≤ _; omega) (by unfold maxLen; omega) (Nat.le_refl _)
  refine ⟨w', h1, ?_, (Keeps.refl _ w).grown (v := .slice none 0 0) h3 (fun q hq => by simp [own, Value.ownBlock] at hq)⟩
  have e : (madeCells (Value.int .u8 0).cells (n * 1)).toList = rkB.row (List.replicate n 0) := by
    rw [Nat.mul_one]
    rw [rowB_rep]
    unfold madeCells
    apply List.ext_getElem
    · simp
    · intro i h5 h6
      have e0 : (Value.int .u8 0).cells = #[Value.int .u8 0] := rfl
      simp [e0, Nat.mod_one]
  show w'.ownsRow _ _ _ _ _ _
  rw [List.length_replicate, ← e]
  exact h2
section
variable {ops : Array Oper} {rest : List Oper} {S : World → Prop} {o : Oper} {a : Act} {w : World} {K : Act → World → Prop} {Q : Exit → Act → World → Prop}
end
/-- One byte of a row is put anew. -/
theorem B8.put {base : Nat} {w : World} {g cap n : Nat} {L : List Int} (h : rkB.Own base w (.slice (some ⟨g, 0, none⟩) n cap) L) (j : Nat) (hj : j < L.length) (x : Int) :
    rkB.Own base (w.setCell ⟨g, j, none⟩ (.int .u8 x)) (.slice (some ⟨g, 0, none⟩) n cap) (L.set j x) ∧ w.frozen? ⟨g, j, none⟩ = false ∧ w.cell? ⟨g, j, none⟩ = some (.int .u8 L[j]) := by
  have h1 := own_cell h j hj 0 (by decide) x (.int .u8 x) rfl
  have h2 := own_there h j hj 0 (by decide)
  rw [show j * rkB.s + 0 = j from by show j * 1 + 0 = j; omega] at h1 h2
  refine ⟨h1, h2.2, ?_⟩
  obtain ⟨_, _, e, _, _, hr⟩ := h.in_
  obtain ⟨bk, o, e2, -, hr2⟩ := hr (fun e => by rw [e] at hj; simp at hj)
  subst e2
  simp only [Value.slice.injEq, Option.some.injEq, Addr.mk.injEq, and_true] at e
  obtain ⟨⟨rfl, rfl⟩, -, -⟩ := e
  have := hr2 j hj 0 (.int .u8 L[j]) rfl
  rw [show 0 + j * rkB.s + 0 = j from by show 0 + j * 1 + 0 = j; omega] at this
  exact this
section
variable {o : Oper} {a : Act} {w : World} {K : Act → World → Prop} {Q : Exit → Act → World → Prop}
end
end Go.Proofs.YtbeniihbejakaaaDoor
