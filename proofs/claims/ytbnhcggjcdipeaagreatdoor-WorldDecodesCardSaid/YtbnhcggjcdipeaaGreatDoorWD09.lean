/-
  The document's queue: Step.
-/
import Derived.Test.YtbnhcggjcdipeaaGreatDoorWD00
import Derived.Deep.RegionHeld3
import Derived.Laws.Tables
import Derived.BigQuiet
import Derived.Test.YtbnhcggjcdipeaaGreatDoorWD08
import Derived.Test.YtbnhcggjcdipeaaGreatDoorWD07
set_option linter.unusedSimpArgs false
set_option linter.unusedVariables false
namespace Go.Proofs.YtbnhcggjcdipeaaGreatDoor
open Go.RowKit
section
variable {ops : Array Oper} {rest : List Oper} {a : Act} {w : World} {Q : Exit → Act → World → Prop}
theorem wpList_putN {dst : Option Tmp} {ty : TypeId} {pos : String} {after : Array Edge} {x y : Operand} {g : Nat} {old : Ans} (r : Ans) {t : TypeId}
    (hx : a.eval x = .pointer (some ⟨g, 0, none⟩)) (hy : a.eval y = .agg (ansC r).toArray) (hg : w.heap[g]? = some (.cells (ansC old).toArray t (0, 0)))
    (h : ∀ W, W.heap[g]? = some (.cells (ansC r).toArray t (0, 0)) → Keeps [g] w W → wpList Tryz.prog ops Q rest (a.put dst undef) W) :
    wpList Tryz.prog ops Q ({ dst := dst, op := .store 25 x y, type := ty, pos := pos, after := after, guard := none } :: rest) a w :=
  wpList_store_row rfl 25 x y rfl g (ansC r).toArray hx hy t (ansC old).toArray hg (by kernel_rfl) rfl (by rw [← Array.all_toList, List.all_eq_true]; exact ansC_one r) (h _ (setRow_heap w g (ansC old).toArray (ansC r).toArray t (0, 0) hg) ((Keeps.refl [g] w).setRow g _ (.inl (by simp))))
end
/-- The rest of a slice. -/
theorem U16.tail {N : Nat} {w : World} {bk o n c : Nat} {y : Int} {r : List Int} (h : rkU.In N w (.slice (some ⟨bk, o, none⟩) n c) (y :: r)) {A : Option Addr} (hA : (if c = 1 then some (⟨bk, o, none⟩ : Addr) else some ⟨bk, o + 1, none⟩) = A) : rkU.In N w (.slice A (n - 1) (c - 1)) r := by
  obtain ⟨a2, c2, e, hc, hm, h⟩ := h
  simp only [Value.slice.injEq] at e
  obtain ⟨rfl, rfl, rfl⟩ := e
  obtain ⟨b2, o2, e, hb, hr⟩ := h (by simp)
  simp only [Option.some.injEq, Addr.mk.injEq, and_true] at e
  obtain ⟨rfl, rfl⟩ := e
  refine ⟨A, c - 1, by simp, by simp at hc; omega, by omega, fun hn => ?_⟩
  have hlen : 0 < r.length := List.length_pos_iff.2 hn
  rw [if_neg (by simp at hc; omega)] at hA
  refine ⟨bk, o + 1, hA.symm, hb, fun j hj => ?_⟩
  have h2 := hr (j + 1) (by simp; omega)
  rw [show o + (j + 1) * rkU.s = o + 1 + j * rkU.s from by show o + (j + 1) * 1 = o + 1 + j * 1; omega] at h2
  exact h2
theorem U16.slice1 (w : World) {bk o n c : Nat} (hn : 1 ≤ n) (hc : n ≤ c) :
    (Instr.sliceAt 78 (.slice (some ⟨bk, o, none⟩) n c) (some (.int .i64 1)) none none).run Tryz.prog w = .ok (.slice (if c = 1 then some ⟨bk, o, none⟩ else some ⟨bk, o + 1, none⟩) (n - 1) (c - 1)) w := by
  have h1 : (1 : Int) ≤ n := by omega
  have h2 : (n : Int) ≤ c := by omega
  simp [go_sem, run_underlying Tryz.underlying78, h1, h2]
theorem yields_slice1 {ops : Array Oper} {S : World → Prop} {o : Oper} {a : Act} (hw : Region.wanted o (yielded ops a.tmps) = true) (x : Operand) (ho : o.op = .slice 78 x (some (.const (.int .i64 1))) none none) {v v' : Value} (hx : a.eval x = v)
    (hr : ∀ w, (Instr.sliceAt 78 v (some (.int .i64 1)) none none).run Tryz.prog w = .ok v' w) : YieldsIf Tryz.prog ops S o v' a :=
  Or.inl ⟨hw, by
    intro w _
    unfold execOp
    have hc : a.eval (.const (.int .i64 1)) = .int .i64 1 := rfl
    simp only [ho, hx, Option.map_some, Option.map_none, hc]
    have h := hr w
    simp [h, Result.andThen]⟩
set_option maxHeartbeats 8000000
set_option maxRecDepth 100000
end Go.Proofs.YtbnhcggjcdipeaaGreatDoor
/-
  The document's queue: Encode, Decode.
-/
namespace Go.Proofs.YtbnhcggjcdipeaaGreatDoor
open Go.RowKit
theorem two_str10 (W : World) (x y : Int) : (convert 109 9 (.slice (some ⟨W.heap.size, 0, none⟩) 2 2)).run Tryz.prog (W.alloc (.cells #[.int .u8 x, .int .u8 y] 5)) = .ok (.string (strOfNums [x, y])) (W.alloc (.cells #[.int .u8 x, .int .u8 y] 5)) := by
  refine run_convert_bytes_arg _ _ _ Tryz.underlying109 Tryz.underlying5 W.heap.size 0 2 2 [x, y] (by simp) (fun i hi => ?_) _ Tryz.underlying9
  match i, hi with
  | 0, _ => simp
  | 1, _ => simp
  | i + 2, hi => exact absurd hi (by omega)
theorem two_strD (W : World) (x y : Int) : (convert 109 9 (.slice (some ⟨W.heap.size, 0, none⟩) 2 2)).run Tryz.prog (W.alloc (.cells #[.int .u8 x, .int .u8 y] 5)).drew = .ok (.string (strOfNums [x, y])) (W.alloc (.cells #[.int .u8 x, .int .u8 y] 5)).drew := by
  refine run_convert_bytes_arg _ _ _ Tryz.underlying109 Tryz.underlying5 W.heap.size 0 2 2 [x, y] (by simp) (fun i hi => ?_) _ Tryz.underlying9
  match i, hi with
  | 0, _ => simp
  | 1, _ => simp
  | i + 2, hi => exact absurd hi (by omega)
theorem two_nums10 {s : Int} (h : 0 ≤ s ∧ s < 65536) : strOfNums [s / 256, s % 256] = bs (quB [s]) := by
  rw [← str_nb]
  have e : nb (quB [s]) = [s / 256, s % 256] := by
    simp only [nb, quB, List.flatMap_cons, List.flatMap_nil, List.append_nil, List.map_cons, List.map_nil, UInt8.toNat_ofNat', List.cons.injEq, and_true]
    omega
  rw [e]
set_option maxHeartbeats 8000000
set_option maxRecDepth 100000
theorem r10Encode_any (w : World) {v : Value} {l : List Int} (h : rkU.In w.heap.size w v l) (hl : l.length ≤ 10000) (hu : U16s l) :
    Calls Tryz.prog 61 #[v] w fun e w' => e = .returned (.string (bs (quB l))) ∧ Keeps [] w w' := by
  obtain ⟨a1, c1, rfl, hc1, hm1, -⟩ := id h
  have HIN := Lib.hid h; have HU := Lib.hid hu
  clear h hu
  generalize hn2 : l.length = n at *
  have HN2 := Lib.hid hn2
  clear hn2
  go_enter Tryz.func61, Tryz.ntmps61
  go_wp2_with fail
  go_loopw [3, 4] (fun t i wr => ∃ k : Nat, i = .int .i64 k ∧ k ≤ n ∧ t = .string (bs (quB (l.take k))) ∧ Keeps [] w wr) (fun _ i _ => n - (intOf i).toNat)
  case atStart => exact ⟨0, rfl, by omega, rfl, Keeps.refl _ _⟩
  case round =>
    obtain ⟨k, rfl, hk, rfl, hkw⟩ := hrel
    by_cases hlt : k < n
    · have hkl : k < l.length := by have := HN2.out; omega
      obtain ⟨b1, o1, rfl, _, d1⟩ := U16.at (HIN.out.new hkw (Nat.le_refl _)) hkl
      have hX := HU.out _ (getD_in 0 hkl)
      have HNX := Lib.hid (show bs (quB (l.take (k + 1))) = bs (quB (l.take k)) ++ bs (quB [l.getD k 0]) from by rw [take_nextD 0 hkl, quB_app, bs_app])
      have HK := Lib.hid hkw
      clear hkw
      generalize l.getD k 0 = X at *
      have hts : (bs (quB (l.take k))).size ≤ 20000 := by
        show (quB (l.take k)).toArray.size ≤ _
        rw [List.size_toArray, quB_len, List.length_take]
        omega
      generalize bs (quB (l.take k)) = T at *
      have hsz : ∀ a b : Int, ¬ 9223372036854775807 < T.size + (strOfNums [a, b]).size := fun a b => by
        have : (strOfNums [a, b]).size = 2 := rfl
        omega
      clear hts
      have hdv : IntKind.u16.wrap (X.tdiv 256) % 256 = X / 256 := by
        rw [Int.tdiv_eq_ediv_of_nonneg hX.1]
        simp [IntKind.wrap, IntKind.signed, IntKind.bits]
        omega
      have HTN := Lib.hid (show strOfNums [IntKind.u16.wrap (X.tdiv 256) % 256, X % 256] = bs (quB [X]) from by rw [hdv]; exact two_nums10 hX)
      clear hdv
      have hcv := two_strD
      go_wp2_with fail
      go_region
      have HKA := Lib.hid (show Keeps [] w ((wr.alloc (.cells #[.int .u8 (IntKind.u16.wrap (X.tdiv 256) % 256), .int .u8 (X % 256)] 5)).drew) from (HK.out.alloc _).drew)
      rw [HTN.out]
      go_wp2_with fail
      go_roundw
      case rel => exact ⟨k + 1, by go_num, by omega, by rw [HNX.out], HKA.out⟩
      case measure => simp [intOf]; omega
    · obtain rfl : k = n := by omega
      have hall : l.take k = l := by rw [← HN2.out, List.take_length]
      rw [hall]
      have HK := Lib.hid hkw
      clear hkw
      go_wp2_with fail
      go_ret
      exact ⟨rfl, HK.out⟩
theorem wp_buildU {o : Oper} {a : Act} {w : World} {K : Act → World → Prop} {Q : Exit → Act → World → Prop} (x : Operand) (ho : o.op = .buildSlice 78 1 #[(0, x)]) {y : Int} (hx : a.eval x = .int .u16 y)
    (h : K (a.put o.dst (.slice (some ⟨w.heap.size, 0, none⟩) 1 1)) (w.alloc (.cells #[.int .u16 y] 23))) : o.wp Tryz.prog a w K Q := by
  refine wp_buildSlice 78 23 1 #[(0, x)] ho #[.int .u16 y] rkU.i _ rkU.und rkU.hi rkU.hz (by rw [rkU.hs]; decide) (by rw [rkU.hs]; decide) ?_ h
  rw [rkU.hs]
  have e : (#[(0, x)].map fun (i, z) => (i, a.eval z)).toList = [(0, a.eval x)] := by simp
  rw [e, hx, show rkU.s = 1 from rfl, show rkU.z = .int .u16 0 from rfl]
  simp [Instr.fill, Value.cells]
  rw [show Array.range 1 = #[0] from by decide]
  apply Array.ext'
  simp
theorem yields_idx {ops : Array Oper} {S : World → Prop} {o : Oper} {a : Act} (hw : Region.wanted o (yielded ops a.tmps) = true) (x y : Operand) (ho : o.op = .index 9 x y) {s z : Value} {i : Int} (hx : a.eval x = s) (hy : a.eval y = .int .i64 i)
    (hr : ∀ w, (Instr.index 9 s (.int .i64 i)).run Tryz.prog w = .ok z w) : YieldsIf Tryz.prog ops S o z a :=
  Or.inl ⟨hw, by
    intro w _
    unfold execOp
    have h := hr w
    simp only [ho, hx, hy, h, Sem.run_bind]
    simp [h, Result.andThen]⟩
theorem str_at10 (w : World) (b : List UInt8) (i : Nat) (hi : i < b.length) : (Instr.index 9 (.string (bs b)) (.int .i64 i)).run Tryz.prog w = .ok (.int .u8 (b.getD i 0).toNat) w := by
  have h1 : i < (bs b).size := by show i < b.toArray.size; simpa using hi
  have h2 : (bs b)[i]'h1 = b[i] := rfl
  simp [Instr.index, run_underlying Tryz.underlying9, asIntOf, part, go_sem, h1, List.getElem?_eq_getElem hi]
  rw [h2]
  rfl
theorem r10Decode_any (w : World) (b : List UInt8) (hl : b.length ≤ 10000) :
    Calls Tryz.prog 63 #[.string (bs b)] w fun e w' => ∃ v, e = .returned (.tuple #[v, .int .i64 (if b.length % 2 = 1 then 5 else 0)]) ∧ rkU.Own w.heap.size w' v (if b.length % 2 = 1 then [] else quN b) ∧ Keeps [] w w' := by
  have hs : (bs b).size = b.length := by show b.toArray.size = _; simp
  by_cases ho : b.length % 2 = 1
  · rw [if_pos ho, if_pos ho]
    have e1 : ((b.length : Int) % 2 == 1) = true := by
      rw [show (b.length : Int) % 2 = 1 by omega]; rfl
    generalize hB : bs b = B at *
    clear hB ho
    generalize b.length = n at *
    go_enter Tryz.func63, Tryz.ntmps63
    go_wp2_with fail
    go_ret2
    exact ⟨_, rfl, RK.Own.nil _ _ _, Keeps.refl _ _⟩
  · rw [if_neg ho, if_neg ho]
    have e1 : ((b.length : Int) % 2 == 1) = false := by
      rw [show (b.length : Int) % 2 = 0 by omega]; rfl
    obtain ⟨n, hn⟩ : ∃ n, n = b.length := ⟨_, rfl⟩
    obtain ⟨N, hN⟩ : ∃ N, N = w.heap.size := ⟨_, rfl⟩
    rw [← hn] at e1 hs hl ho
    rw [← hN]
    have HN := Lib.hid hn; have HNE := Lib.hid hN; have HO := Lib.hid ho; have HAT := Lib.hid (fun w i hi => str_at10 w b i hi)
    clear hn hN ho
    obtain ⟨B, hB⟩ : ∃ B, B = bs b := ⟨_, rfl⟩
    rw [← hB] at hs HAT ⊢
    clear hB
    go_enter Tryz.func63, Tryz.ntmps63
    go_wp2_with fail
    go_loopw [4, 5] (fun z i wr => ∃ k : Nat, i = .int .i64 ((2 * k : Nat) : Int) ∧ 2 * k ≤ n ∧ rkU.Own N wr z ((quN b).take k) ∧ Keeps [] w wr) (fun _ i _ => n - (intOf i).toNat)
    case atStart => exact ⟨0, rfl, by omega, RK.Own.nil rkU _ _, Keeps.refl _ _⟩
    case round =>
      obtain ⟨k, rfl, hk, hz, hkw⟩ := hrel
      by_cases hlt : 2 * k + 1 < n
      · have h0 := fun w => HAT.out w (2 * k) (by have := HN.out; omega)
        have h1 : ∀ w, (Instr.index 9 (.string B) (.int .i64 (((2 * k : Nat) : Int) + 1))).run Tryz.prog w = .ok (.int .u8 (b.getD (2 * k + 1) 0).toNat) w := fun w => HAT.out w (2 * k + 1) (by have := HN.out; omega)
        have HTK := Lib.hid (show (quN b).take (k + 1) = (quN b).take k ++ [((b.getD (2 * k) 0).toNat * 256 + (b.getD (2 * k + 1) 0).toNat : Int)] from by
          rw [List.take_add_one, quN_get b k (by have := HN.out; omega)]; rfl)
        have hx := (b.getD (2 * k) 0).toNat_lt; have hy := (b.getD (2 * k + 1) 0).toNat_lt
        generalize (b.getD (2 * k) 0).toNat = X at *
        generalize (b.getD (2 * k + 1) 0).toNat = Y at *
        have HKW := Lib.hid hkw
        have hfl : ((quN b).take k).length ≤ 10000 := by rw [List.length_take]; omega
        obtain ⟨az, cz, rfl, hcz, hmz⟩ := hz.shape
        obtain ⟨v', w3, hrun, hrow3, hk3, hf3⟩ := rkU.append1 wr.drew N (by rw [HNE.out]; exact hkw.size) _ _ (hz.keeps ((Keeps.refl [] wr).drew) (by simp)) ((X : Int) * 256 + Y) (by omega)
        have HRUN := Lib.hid hrun
        have HK3 := Lib.hid (show Keeps [] w w3 from hkw.trans (((Keeps.refl [] wr).drew.more (by simp)).trans hk3 (FSub.refl _ _)) (fun q hq => .inr (by have := (row_base hz q hq).1; have := HNE.out; omega)))
        have HR3 := Lib.hid hrow3
        clear hz hkw hrun hrow3 hk3 hf3 hfl
        have wX : IntKind.u16.wrap (X : Int) = X := by simp [IntKind.wrap, IntKind.signed, IntKind.bits]; omega
        have wY : IntKind.u16.wrap (Y : Int) = Y := by simp [IntKind.wrap, IntKind.signed, IntKind.bits]; omega
        have wM : IntKind.u16.wrap ((X : Int) * 256) = X * 256 := by simp [IntKind.wrap, IntKind.signed, IntKind.bits]; omega
        have wA : IntKind.u16.wrap ((X : Int) * 256 + Y) = X * 256 + Y := by simp [IntKind.wrap, IntKind.signed, IntKind.bits]; omega
        have wI : IntKind.i64.wrap (((2 * k : Nat) : Int) + 1) = ((2 * k : Nat) : Int) + 1 := by simp [IntKind.wrap, IntKind.signed, IntKind.bits]; omega
        generalize ((quN b).take k).length = m at *
        generalize hp : 2 * k = p at *
        have HP := Lib.hid hp
        clear hp
        go_wp2_with fail
        refine wp_region_noPanic ?_
        refine wp_region_held_drew (S := (fun _ => True)) (by kernel_rfl) trivial (fun hHeld => ?_)
        refine tw 0 (h := ?_); try simp only [Act.put, lsA, lsZ, lsS]
        refine tw 1 (h := ?_); try simp only [Act.put, lsA, lsZ, lsS]
        refine tw 2 (h := ?_); try simp only [Act.put, lsA, lsZ, lsS]
        refine tk 3 (y := by exact yields_idx (by rfl) (.tmp 18) (.tmp 19) rfl (s := .string B) (i := (p : Int)) rfl rfl h0) (h := ?_); try simp only [Act.put, lsA, lsZ, lsS]
        refine tw 4 (h := ?_); try simp only [Act.put, lsA, lsZ, lsS]
        refine tw 5 (h := ?_); try simp only [Act.put, lsA, lsZ, lsS]
        refine tw 6 (h := ?_); try simp only [Act.put, lsA, lsZ, lsS]
        refine tw 7 (h := ?_); try simp only [Act.put, lsA, lsZ, lsS]
        refine tw 8 (h := ?_); try simp only [Act.put, lsA, lsZ, lsS]
        refine tk 9 (y := by exact yields_idx (by rfl) (.tmp 23) (.tmp 25) rfl (s := .string B) (i := (p : Int) + 1) rfl rfl h1) (h := ?_); try simp only [Act.put, lsA, lsZ, lsS]
        refine tw 10 (h := ?_); try simp only [Act.put, lsA, lsZ, lsS]
        refine tw 11 (h := ?_); try simp only [Act.put, lsA, lsZ, lsS]
        refine rp 12 (h := fun K hK => ?_)
        refine wp_buildU _ rfl (y := (X : Int) * 256 + Y) rfl ?_
        refine hK.out _ _ (by exact trivial) (fun hHeld => ?_); clear hK K; try simp only [Act.put, lsA, lsZ, lsS]
        refine rp 13 (h := fun K hK => ?_)
        refine wp_append_run _ _ 78 rfl _ _ _ w3 rfl rfl HRUN.out ?_
        refine hK.out _ _ (by exact trivial) (fun hHeld => ?_); clear hK K; try simp only [Act.put, lsA, lsZ, lsS]
        refine tw 14 (h := ?_); try simp only [Act.put, lsA, lsZ, lsS]
        refine wpAnyH_done (by kernel_rfl) ?_ _
        refine NoPanic.normal ?_
        go_wp2_with fail
        go_roundw
        case rel => exact ⟨k + 1, by rw [← HP.out]; go_num, by have := HP.out; omega, by rw [HTK.out]; exact HR3.out, HK3.out⟩
        case measure => have := HP.out; simp [intOf]; omega
      · obtain rfl : 2 * k = n := by have := HO.out; omega
        have hall : (quN b).take k = quN b := List.take_of_length_le (by rw [quN_len]; have := HN.out; omega)
        rw [hall] at hz
        have HZ := Lib.hid hz; have HKW := Lib.hid hkw
        obtain ⟨az, cz, rfl, hcz, hmz⟩ := hz.shape
        clear hz hkw hall
        go_wp2_with fail
        go_ret2
        exact ⟨_, rfl, HZ.out, HKW.out⟩
end Go.Proofs.YtbnhcggjcdipeaaGreatDoor
/-
  The law's steps and works, over any queue.
-/
namespace Go.Proofs.YtbnhcggjcdipeaaGreatDoor
open Go.RowKit
variable {G : World → Prop}
section
variable {o : Oper} {a : Act} {w : World} {K : Act → World → Prop} {Q : Exit → Act → World → Prop}
theorem run_allocA (w : World) : (Instr.alloc 25 true (.tuple #[])).run Tryz.prog w = .ok (.pointer (some ⟨w.heap.size, 0, none⟩)) (w.alloc (.cells (ansC ⟨0, 0⟩).toArray 25)) := by kernel_rfl
theorem wp_allocA (o : Oper) (a : Act) (w : World) (K : Act → World → Prop) (ho : o.op = .alloc 25) (h : K (a.put o.dst (.pointer (some ⟨w.heap.size, 0, none⟩))) (w.alloc (.cells (ansC ⟨0, 0⟩).toArray 25))) : o.wp Tryz.prog a w K Q := by
  unfold Oper.wp execOp
  simp only [ho, Sem.run_bind, run_allocA, Result.andThen_ok, Sem.run_pure]
  exact h
end
set_option maxHeartbeats 8000000
set_option maxRecDepth 100000
end Go.Proofs.YtbnhcggjcdipeaaGreatDoor
