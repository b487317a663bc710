/-
  Events in a slice; a builder of text; the program's Write.
-/
import Derived.Test.YtiljdehhjiahdaaGreatDoorG48
import Derived.Test.YtiljdehhjiahdaaGreatDoorG46
set_option linter.unusedSimpArgs false
set_option linter.unusedVariables false
namespace Go.Proofs.YtiljdehhjiahdaaGreatDoor
open Go.RowKit
/-- A slice of events. -/
def Evs (N : Nat) (w : World) (v : Value) (l : List Ev) : Prop :=
  ∃ a c, v = .slice a l.length c ∧ l.length ≤ c ∧ c ≤ 9223372036854775807 ∧ (l ≠ [] → ∃ bk o, a = some ⟨bk, o, none⟩ ∧ bk < N ∧
    ∀ j, j < l.length → ∃ tx rd, EvAt N w tx rd (l.getD j evZero) ∧ w.rangeAt bk (o + j * 19) (evC (l.getD j evZero) tx rd).toList)
theorem rangeAt_same {N : Nat} {w w' : World} {b o : Nat} {cs : List Value} (h : w.rangeAt b o cs) (hk : Same N w w') (hb : b < N) : w'.rangeAt b o cs := fun j v hv => hk.cell hb (h j v hv)
theorem Evs.same {N : Nat} {w w' : World} {v : Value} {l : List Ev} (h : Evs N w v l) (hk : Same N w w') : Evs N w' v l := by
  obtain ⟨a, c, rfl, hc, hm, h⟩ := h
  refine ⟨a, c, rfl, hc, hm, fun hn => ?_⟩
  obtain ⟨bk, o, rfl, hb, h'⟩ := h hn
  refine ⟨bk, o, rfl, hb, fun j hj => ?_⟩
  obtain ⟨tx, rd, h1, h2⟩ := h' j hj
  exact ⟨tx, rd, h1.same hk, rangeAt_same h2 hk hb⟩
theorem Evs.new {N : Nat} {w w' : World} {v : Value} {l : List Ev} (h : Evs N w v l) (hk : Keeps [] w w') (hN : N ≤ w.heap.size) : Evs N w' v l := h.same (hk.same hN (by simp))
theorem wpList_load_evM {ops : Array Oper} {rest : List Oper} {a : Act} {w : World} {Q : Exit → Act → World → Prop} {dst : Option Tmp} {ty : TypeId} {pos : String} {after : Array Edge} {x : Operand} {g o : Nat} {e : Ev} {tx rd : Value}
    (hx : a.eval x = .pointer (some ⟨g, o, none⟩)) (hr : w.rangeAt g o (evC e tx rd).toList) (h : wpList Tryz.prog ops Q rest (a.put dst (.agg (evC e tx rd))) w) :
    wpList Tryz.prog ops Q ({ dst := dst, op := .load 32 x, type := ty, pos := pos, after := after, guard := none } :: rest) a w :=
  wpList_load_mid rfl 32 x rfl g o hx _ _ hr Tryz.underlying32 rfl (by kernel_rfl) (by rw [Array.toArray_toList]; exact h)
/-- A script. -/
def wrS : List Ev → List UInt8
  | [] => []
  | x :: r => evLine x ++ 10 :: wrS r
noncomputable def wrX (l : List Ev) : List UInt8 := if l.all evGood then wrS l else []
noncomputable def wrE (l : List Ev) : Int := if l.all evGood then 0 else 4
theorem wrS_app : ∀ (l m : List Ev), wrS (l ++ m) = wrS l ++ wrS m
  | [], m => rfl
  | x :: r, m => by simp [wrS, wrS_app r m]
/-- A builder holds this text. -/
def Bld (B : Nat) (s : List UInt8) (w : World) : Prop := Lib.IsBuilderF 86 5 B B (Lib.byteCells s) w
theorem ownsRowF_keeps {w w' : World} {base : Nat} {e : TypeId} {v : Value} {n : Nat} {xs : List Value} (h : w.ownsRowF base e 1 v n xs) (hk : Keeps [] w w') : w'.ownsRowF base e 1 v n xs := by
  refine ⟨h.1, ?_⟩
  rcases h.2 with h2 | ⟨g, cap, cur, fz, h1, h2, h3, h4⟩
  · exact .inl h2
  · exact .inr ⟨g, cap, cur, fz, h1, h2, hk.heap h3 (by simp), h4⟩
theorem builderAtF_keeps {w w' : World} {T e : TypeId} {B b : Nat} {p : Value} {xs : List Value} (h : Lib.BuilderAtF T e B b p xs w) (hk : Keeps [] w w') : Lib.BuilderAtF T e B b p xs w' := by
  obtain ⟨h1, v, h2, h3, h4⟩ := h
  exact ⟨h1, v, hk.heap h2 (by simp), ownsRowF_keeps h3 hk, h4⟩
theorem Bld.new {B : Nat} {s : List UInt8} {w w' : World} (h : Bld B s w) (hk : Keeps [] w w') : Bld B s w' := h.elim (fun h => .inl (builderAtF_keeps h hk)) (fun h => .inr (builderAtF_keeps h hk))
theorem Bld.zero (w : World) : Bld w.heap.size [] (w.alloc (.cells #[.pointer none, .slice none 0 0] 86)) :=
  .inl ⟨Nat.le_refl _, _, heap_alloc_new _ _, World.ownsRowF_nil _ _ _ _, by simp [Value.ownBlock]⟩
theorem byteCells_app (a b : List UInt8) : Lib.byteCells (a ++ b) = Lib.byteCells a ++ Lib.byteCells b := by simp [Lib.byteCells]
theorem strCells_bs (s : List UInt8) : Lib.strCells (bs s) = Lib.byteCells s := by simp [Lib.strCells, Lib.byteCells, bs]
theorem BWrite6_any (w : World) (B : Nat) (l s : List UInt8) (h : Bld B l w) (hl : l.length + s.length ≤ 140737488355328) (hB : B ≤ w.heap.size) :
    Calls Tryz.prog 31 #[.pointer (some ⟨B, 0, none⟩), .string (bs s)] w fun e w' => (∃ v, e = .returned v) ∧ Bld B (l ++ s) w' ∧ Below B w w' := by
  refine (Any.Builder_WriteString_f { Tryz.lays156 with } Tryz.Builder_Extra_156 B B (Lib.byteCells l) (bs s) w h (by rw [Lib.byteCells_length, bs_size]; exact hl) hB).mono ?_
  rintro e w' ⟨he, h1, h2⟩
  rw [strCells_bs, ← byteCells_app] at h1
  exact ⟨⟨_, he⟩, .inr h1, h2⟩
theorem BString6_any (w : World) (B : Nat) (l : List UInt8) (h : Bld B l w) (hB : B ≤ w.heap.size) :
    Calls Tryz.prog 32 #[.pointer (some ⟨B, 0, none⟩)] w fun e w' => e = .returned (.string (bs l)) ∧ Below B w w' := by
  refine (Tryz.Builder_String_any_f B B l w h hB).mono ?_
  rintro e w' ⟨he, h1, h2⟩
  exact ⟨he, h2⟩
end Go.Proofs.YtiljdehhjiahdaaGreatDoor
/-
  The program's Write.
-/
namespace Go.Proofs.YtiljdehhjiahdaaGreatDoor
open Go.RowKit
theorem wrS_len : ∀ (l : List Ev), (∀ x ∈ l, (evLine x).length ≤ 1000000) → (wrS l).length ≤ l.length * 1000001
  | [], _ => by simp [wrS]
  | x :: r, h => by
    have h1 := h x (by simp)
    have h2 := wrS_len r (fun y hy => h y (by simp [hy]))
    simp [wrS]; omega
theorem take_next (l : List Ev) (k : Nat) (h : k < l.length) : l.take (k + 1) = l.take k ++ [l.getD k evZero] := by
  rw [List.take_add_one]
  simp [List.getD, h]
theorem getD_mem {l : List Ev} {k : Nat} (h : k < l.length) : l.getD k evZero ∈ l := by
  simp [List.getD, h]
def WrPost (l : List Ev) (w : World) (e : Ending) (w' : World) : Prop := e = .returned (.tuple #[.string (bs (wrX l)), .int .i64 (wrE l)]) ∧ Keeps [] w w'
structure WrInv (l : List Ev) (B : Nat) (w0 : World) (k : Nat) (w : World) : Prop where
  kp : Keeps [] w0 w
  bd : Bld B (wrS (l.take k)) w
  gd : ∀ x ∈ l.take k, evGood x = true
  sz : B < w.heap.size
set_option maxHeartbeats 8000000 in
set_option maxRecDepth 100000 in
theorem txWrite_any (w : World) (hG : Glob6 w) (l : List Ev) (hl : ∀ x ∈ l, x.In) (hn : l.length ≤ 1000) (v : Value) {N : Nat} (hv : Evs N w v l) (hN : N ≤ w.heap.size) : Calls Tryz.prog 14 #[v] w (WrPost l w) := by
  obtain ⟨a, c, rfl, hc, hm, hrow⟩ := hv
  have hrow := hrow
  have hb0 := Bld.zero w
  have hk0 := (Keeps.refl [] w).alloc (.cells #[.pointer none, .slice none 0 0] 86)
  have hz0 : w.heap.size < (w.alloc (.cells #[.pointer none, .slice none 0 0] 86)).heap.size := by simp
  have HI : Hid (WrInv l w.heap.size w 0 (w.alloc (.cells #[.pointer none, .slice none 0 0] 86))) := Lib.hid ⟨hk0, hb0, by simp, hz0⟩
  have HR := Lib.hid hrow; have HG := Lib.hid hG; have HL := Lib.hid hl
  have hnn : (l.length : Int) ≤ 9223372036854775807 := by omega
  clear hrow hb0 hk0 hz0 hG hl hm
  go_enter Tryz.func14, Tryz.ntmps14
  go_wp2_with fail
  generalize w.alloc (.cells #[.pointer none, .slice none 0 0] 86) = W1 at *
  generalize hB : w.heap.size = B at *
  have HB := Lib.hid hB
  clear hB
  generalize hn2 : l.length = n at *
  have HN2 := Lib.hid hn2
  clear hn2
  go_loopw [11] (fun i wr => ∃ k : Nat, k ≤ n ∧ i = .int .i64 k ∧ WrInv l B w k wr) (fun i _ => n - (intOf i).toNat)
  case atStart => exact ⟨0, by omega, rfl, HI.out⟩
  case round =>
    clear HI
    obtain ⟨k, hk, rfl, hI⟩ := hrel
    have HI := Lib.hid hI
    clear hI
    by_cases hlt : k < n
    · obtain ⟨bk, o, rfl, hbk, hcell⟩ := HR.out (fun e => by have := HN2.out; rw [e] at this; simp at this; omega)
      obtain ⟨tx, rd, ht, hr⟩ := hcell k (by have := HN2.out; omega)
      have hmem : l.getD k evZero ∈ l := getD_mem (by have := HN2.out; omega)
      have hbad : evGood (l.getD k evZero) = false → wrX l = [] ∧ wrE l = 4 := fun hf => by
        have : l.all evGood = false := by
          rw [List.all_eq_false]; exact ⟨_, hmem, by rw [hf]; decide⟩
        unfold wrX wrE; rw [this]; exact ⟨rfl, rfl⟩
      have HBAD := Lib.hid hbad
      clear hbad
      have htk := take_next l k (by have := HN2.out; omega)
      have hxi := HL.out _ hmem
      have hsame : Same N w wr := HI.out.kp.same (by have := HB.out; omega) (by simp)
      have hr2 := rangeAt_same hr hsame hbk
      have HT := Lib.hid (ht.same hsame)
      have hx1 := ht.t.one
      have hx2 := ht.r.one
      have HTK := Lib.hid htk
      have HXI := Lib.hid hxi
      have hwl : ∀ x ∈ l.take k, (evLine x).length ≤ 1000000 := fun x hx => line_short (HL.out x (List.mem_of_mem_take hx)) (HI.out.gd x hx)
      have HWL := Lib.hid hwl
      have HNN := Lib.hid (Nat.le_trans hN (Nat.le_of_lt HI.out.sz))
      clear HR hcell hrow ht hr hsame htk hxi hmem hbk hwl
      generalize l.getD k evZero = x at *
      have HG1 := Lib.hid (HG.out.new HI.out.kp)
      have HKA := Lib.hid ((Keeps.refl [] wr).alloc (.cells #[.int .u8 0, .int .u8 0, .int .u16 0, .int .u8 0, .int .u8 0, .int .u8 0, .int .u16 0, .int .u16 0, .int .u8 0, .int .u16 0, .slice none 0 0, .slice none 0 0, .int .u8 0, .int .i64 0, .int .i64 0, .int .i64 0, .bool false, .bool false, .bool false] 32))
      go_wp2_with (first | ((with_reducible apply wpList_load_evM); exact rfl; assumption) | ((with_reducible apply wpList_put_ev); exact rfl; exact rfl; (first | assumption | (refine heap_alloc_lt ?_; assumption) | (refine heap_alloc_lt (heap_alloc_lt ?_); assumption) | exact heap_alloc_at (by simp)); exact ⟨rfl, rfl⟩; (refine evC_one _ ?_ ?_ <;> first | rfl | assumption)))
      intro W2 hb2 hk2
      have hq2 : Keeps [] wr W2 := HKA.out.trans hk2 (fun q hq => .inr (by simp at hq; omega))
      have HK2 := Lib.hid hq2
      have HT2 := Lib.hid (HT.out.new hq2 HNN.out)
      have HG2 := Lib.hid (HG1.out.new hq2)
      have hn3 : N ≤ W2.heap.size := Nat.le_trans HNN.out hq2.size
      clear hq2 hk2 HKA HT HG1 hr2
      generalize wr.heap.size = c2 at *
      rcases bool_two (evGood x) with hg | hg
      · have hs := line_short HXI.out hg
        have hc := line_yes W2 HG2.out x HXI.out tx rd HT2.out hn3 hg
        have HGD := Lib.hid hg; have HS := Lib.hid hs
        have HC := Lib.hid hc
        clear hg hs hc
        go_wp2_with ((with_reducible apply wpList_load_ev); exact rfl; (first | assumption | (refine heap_alloc_lt ?_; assumption) | (refine heap_alloc_lt (heap_alloc_lt ?_); assumption) | exact heap_alloc_at (by simp)); exact rfl)
        refine HC.out.mono ?_; rintro z w3 ⟨rfl, hk3⟩
        have HK3 := Lib.hid (HK2.out.trans hk3 (FSub.refl _ _))
        clear hk3 HC HT2 HG2 HK2 hb2
        go_wp2_with fail
        have hz3 : B ≤ w3.heap.size := by have := HI.out.sz; have := HK3.out.size; omega
        have hbd := HI.out.bd.new HK3.out
        have hlen : (wrS (l.take k)).length ≤ 1000 * 1000001 := by
          have := wrS_len _ HWL.out
          have h2 : (l.take k).length ≤ 1000 := by simp; omega
          exact Nat.le_trans this (Nat.mul_le_mul h2 (Nat.le_refl _))
        refine (BWrite6_any w3 B _ (evLine x) hbd (by have := HS.out; omega) hz3).mono ?_; rintro z w4 ⟨⟨zv, rfl⟩, hbd4, hq4⟩
        have HQ4 := Lib.hid hq4; have HBD4 := Lib.hid hbd4; have HLEN := Lib.hid hlen
        clear hq4 hbd4 hbd hlen
        go_wp2_with fail
        have hz4 : B ≤ w4.heap.size := Nat.le_trans hz3 HQ4.out.size
        refine (BWrite6_any w4 B _ [10] HBD4.out (by have := HS.out; have := HLEN.out; simp; omega) hz4).mono ?_; rintro z w5 ⟨⟨zv2, rfl⟩, hbd5, hq5⟩
        have HQ5 := Lib.hid hq5; have HBD5 := Lib.hid hbd5
        clear hq5 hbd5
        go_wp2_with fail
        go_roundw
        case rel =>
          refine ⟨k + 1, by omega, by go_num, ?_⟩
          have hbl : Below B wr w5 := (HK3.out.belowAt B (Nat.le_of_lt HI.out.sz) (by simp)).trans (HQ4.out.trans HQ5.out)
          refine ⟨Keeps.ofBelow (HI.out.kp.below.trans (by rw [HB.out]; exact hbl)), ?_, ?_, ?_⟩
          · rw [HTK.out, wrS_app]
            have := HBD5.out
            simpa [wrS] using this
          · intro y hy
            rw [HTK.out] at hy
            rcases List.mem_append.1 hy with hy | hy
            · exact HI.out.gd y hy
            · simp at hy; rw [hy]; exact HGD.out
          · have := HI.out.sz; have := hbl.size; omega
        case measure => simp [intOf]; omega
      · obtain ⟨hX, hE⟩ := HBAD.out hg
        have hc := line_no W2 HG2.out x HXI.out tx rd HT2.out hn3 hg
        have HC := Lib.hid hc
        have HXE := Lib.hid (And.intro hX hE)
        clear hg hc hX hE
        go_wp2_with ((with_reducible apply wpList_load_ev); exact rfl; (first | assumption | (refine heap_alloc_lt ?_; assumption) | (refine heap_alloc_lt (heap_alloc_lt ?_); assumption) | exact heap_alloc_at (by simp)); exact rfl)
        refine HC.out.mono ?_; rintro z w3 ⟨rfl, hk3⟩
        have HK3 := Lib.hid (HK2.out.trans hk3 (FSub.refl _ _))
        have HK4 := Lib.hid (HI.out.kp.trans HK3.out (FSub.refl _ _))
        clear hk3 HC HT2 HG2 HK2 hb2 HK3
        go_wp2_with fail
        go_ret2
        show _ ∧ _
        rw [HXE.out.1, HXE.out.2]
        exact ⟨rfl, HK4.out⟩
    · have e : k = l.length := by have := HN2.out; omega
      have hall : l.all evGood = true := by
        rw [List.all_eq_true]
        have := HI.out.gd
        rwa [e, List.take_length] at this
      have hX : wrX l = wrS l := by unfold wrX; rw [hall]; rfl
      have hE : wrE l = 0 := by unfold wrE; rw [hall]; rfl
      have hbd := HI.out.bd
      rw [e, List.take_length] at hbd
      have hc := BString6_any wr B _ hbd (Nat.le_of_lt HI.out.sz)
      have HC := Lib.hid hc
      have HXE := Lib.hid (And.intro hX hE)
      clear hX hE hall hbd hc e
      go_wp2_with fail
      refine HC.out.mono ?_; rintro z w3 ⟨rfl, hk3⟩
      have HK3 := Lib.hid (Keeps.ofBelow (HI.out.kp.below.trans (by rw [HB.out]; exact hk3)))
      clear hk3 HC
      go_wp2_with fail
      go_ret2
      show _ ∧ _
      rw [HXE.out.1, HXE.out.2]
      exact ⟨rfl, HK3.out⟩
end Go.Proofs.YtiljdehhjiahdaaGreatDoor
/-
  The program's Parse once more: its event lies in new blocks.
-/
namespace Go.Proofs.YtiljdehhjiahdaaGreatDoor
open Go.RowKit
set_option maxHeartbeats 8000000 in
set_option maxRecDepth 100000 in
theorem txParse_fresh (w : World) (hG : Glob6 w) (s : List UInt8) (hs : s.length ≤ 1000000) (M : Nat) (hM : M ≤ w.heap.size) : Calls Tryz.prog 9 #[.string (bs s)] w fun e W =>
    ∃ tx rd, e = .returned (.tuple #[.agg (evC (lnX s) tx rd), .int .i64 (lnE s)]) ∧ EvKeeps M W tx rd (lnX s) ∧ Keeps [] w W := by
  have hmf : ∀ (fn : Fn) (first cap : Array Value) (w : World), (Instr.makeFunc fn first cap).run Tryz.prog w = .ok (.func fn first cap) w := fun _ _ _ _ => rfl
  obtain ⟨W0, hW0⟩ : ∃ W0, (w.alloc (.cells #[.int .u8 0, .int .u8 0, .int .u16 0, .int .u8 0, .int .u8 0, .int .u8 0, .int .u16 0, .int .u16 0, .int .u8 0, .int .u16 0, .slice none 0 0, .slice none 0 0, .int .u8 0, .int .i64 0, .int .i64 0, .int .i64 0, .bool false, .bool false, .bool false] 32)).alloc (.cells #[.int .i64 0] 35) = W0 := ⟨_, rfl⟩
  have hb0 : W0.heap[w.heap.size]? = some (.cells (evC evZero (.slice none 0 0) (.slice none 0 0)) 32 (0, 0)) := by rw [← hW0]; exact heap_alloc_lt (heap_alloc_new w _)
  have he0 : W0.heap[w.heap.size + 1]? = some (.cells #[.int .i64 0] 35 (0, 0)) := by
    rw [← hW0]
    have := heap_alloc_new (w.alloc (.cells #[.int .u8 0, .int .u8 0, .int .u16 0, .int .u8 0, .int .u8 0, .int .u8 0, .int .u16 0, .int .u16 0, .int .u8 0, .int .u16 0, .slice none 0 0, .slice none 0 0, .int .u8 0, .int .i64 0, .int .i64 0, .int .i64 0, .bool false, .bool false, .bool false] 32)) (.cells #[.int .i64 0] 35)
    simpa using this
  have hk0 : Keeps [] w W0 := by rw [← hW0]; exact ((Keeps.refl [] w).alloc _).alloc _
  have hz0 : W0.heap.size = w.heap.size + 2 := by rw [← hW0]; simp
  have HM := Lib.hid hM
  clear hM
  have hGb : w.heap.size ∉ globs := hG.above (Nat.le_refl _)
  have hGe : w.heap.size + 1 ∉ globs := hG.above (by omega)
  have HB := Lib.hid hb0; have HE := Lib.hid he0; have HK := Lib.hid hk0; have HG := Lib.hid (hG.new hk0)
  -- how it ends badly
  have hbad : lnGet s = none → ∀ (W W' : World), Keeps [] w W → Keeps [w.heap.size, w.heap.size + 1] W W' →
      ∃ tx rd, Ending.returned (.tuple #[.agg (evC evZero (.slice none 0 0) (.slice none 0 0)), .int .i64 4]) = .returned (.tuple #[.agg (evC (lnX s) tx rd), .int .i64 (lnE s)]) ∧ EvKeeps M W' tx rd (lnX s) ∧ Keeps [] w W' := by
    intro hn W W' hkW hkW'
    obtain ⟨e1, e2⟩ := ln_none hn
    rw [e1, e2]
    exact ⟨_, _, rfl, fun _ _ _ _ => ⟨Mics.nil _ _, Lists.nil _ _⟩, hkW.trans hkW' (fun y hy => .inr (by simp at hy; omega))⟩
  have HBAD := Lib.hid hbad
  clear hb0 he0 hk0 hbad
  go_enter_defers Tryz.func9, Tryz.ntmps9
  go_wp2_with fail
  clear hW0
  refine (SplitN6_any _ HG.out s hs 32 28 (by decide) (by decide)).mono ?_; rintro e w1 ⟨v1, rfl, hs1, hk1, hz1⟩
  have hcut := splitK_cut 32 27 s
  have hpl := splitK_part 32 27 s
  rw [show 28 - 1 = 27 from rfl] at hs1
  generalize hQ : Lib.splitK [32] 0 27 s = Q at *
  have hb1 := hk1.heap HB.out (by simp)
  have he1 := hk1.heap HE.out (by simp)
  have hK1 := HK.out.trans hk1 (FSub.refl _ _)
  have hln : Q.length ≤ 28 := by rw [← hQ]; exact splitK_len 32 27 s
  have hrd : RdAt (w1.alloc (.cells #[v1] 68)) w1.heap.size W0.heap.size Q :=
    ⟨⟨v1, heap_alloc_new _ _, hs1.keeps ((Keeps.refl [] w1).alloc _) (by simp)⟩, by omega, (HG.out.new hk1).new ((Keeps.refl [] w1).alloc _), hG.above (by have := hK1.size; omega), by simp; omega, by omega, fun x hx => Nat.le_trans (hpl x hx) hs⟩
  have hv1 : v1.oneCell' = true := by obtain ⟨a, c, rfl, _⟩ := hs1; rfl
  have hb2 := heap_alloc_lt (o := .cells #[v1] 68) hb1
  have he2 := heap_alloc_lt (o := .cells #[v1] 68) he1
  have hK2 := hK1.alloc (.cells #[v1] 68)
  have hr1 : w.heap.size + 2 ≤ w1.heap.size := by have := hk1.size; omega
  obtain ⟨a1, c1, rfl, hc1, hm1, _⟩ := hs1
  have c0 : (w1.alloc (.cells #[.slice a1 Q.length c1] 68)).cell? ⟨w1.heap.size, 0, none⟩ = some (.slice a1 Q.length c1) := by simp
  have HR := Lib.hid hrd; have HB2 := Lib.hid hb2; have HE2 := Lib.hid he2; have HK2 := Lib.hid hK2
  clear hb1 he1 hK1 hrd hb2 he2 hK2 hk1 HB HE HK HG
  by_cases hq : Q.length ≤ 27
  · have hQc : cutAt 32 s = Q := by
      rcases hcut with ⟨_, b⟩ | ⟨_, b, _⟩
      · rw [← b, ← hQ]
      · omega
--BEGIN
    have hlen : ∀ t : Wds, (∃ k, Q = k :: t) → (Lib.join t [32]).length ≤ 1000000 := by
      rintro t ⟨k, e⟩
      have hj := join_cut 32 s
      rw [hQc, e] at hj
      by_cases ht : t = []
      · subst ht; simp [Lib.join_nil]
      · rw [join_cons_ne _ _ _ ht] at hj
        have := congrArg List.length hj
        simp only [List.length_append] at this
        omega
    have HLEN := Lib.hid hlen
    have hqz : decide ((Q.length : Int) ≤ 27) = true := by simp; omega
    have HQC := Lib.hid hQc
    clear hcut hpl hQ hQc hlen
    go_wp2_with fail
    refine (need_yes _).mono ?_; rintro e w3 ⟨rfl, rfl⟩
    generalize w1.alloc (.cells #[.slice a1 Q.length c1] 68) = W2 at *
    generalize hR : w1.heap.size = r at *
    generalize hG0 : W0.heap.size = g at *
    clear hR hG0 hmf
    go_wp2_with fail
    refine (kind6_any _ r g Q HR.out).mono ?_; intro e w3 hRd
    have hbr : w.heap.size ≠ r := by omega
    have her : w.heap.size + 1 ≠ r := by omega
    generalize hB : w.heap.size = B at *
    have hrge : ∀ y ∈ [r], w.heap.size ≤ y := by intro y hy; simp at hy; omega
    cases e3 : rdKindO Q with
    | none =>
      rw [e3] at hRd
      obtain ⟨rfl, hk3⟩ := hRd
      have hnone : lnGet s = none := lnGet_rd HQC.out (rdEv_none e3)
      unfold PanicE
      go_wp2_with fail
      refine parse_dies _ _ B (B + 1) (by omega) _ _ (hk3.heap HB2.out (by simpa using hbr)) (evC_size _ _ _) _ (hk3.heap HE2.out (by simpa using her)) rfl rfl ?_
      intro W' hk'
      exact HBAD.out hnone _ _ (HK2.out.trans hk3 (fun y hy => .inr (hrge y hy))) hk'
    | some p =>
      obtain ⟨k, t⟩ := p
      rw [e3] at hRd
      obtain ⟨rfl, hr3, hk3⟩ := hRd
      obtain ⟨hQt, hk1, hk7, hrd⟩ := rdEv_some e3
      have hlt := HLEN.out t hQt
      have HRD := Lib.hid hrd
      have hB3 := hk3.heap HB2.out (by simpa using hbr)
      have E3 := Lib.hid (hk3.heap HE2.out (by simpa using her))
      have K3 := Lib.hid (HK2.out.trans hk3 (fun y hy => .inr (hrge y hy)))
      have H3 := Lib.hid hr3
      have HB3 := Lib.hid hB3
      have hBg : B ≠ g := by omega
      clear hr3 hk3 hB3 HB2 HE2 HK2 HR HLEN hrd hQt e3
      go_wp2_with ((with_reducible apply wpList_put_cell (T := 5) 0 { evZero with k := k } (.slice none 0 0) (.slice none 0 0)); exact rfl; exact rfl; exact HB3.out; kernel_rfl; exact rfl; exact rfl; exact rfl)
      intro W4 hb4 hk4
      have H4 := Lib.hid (⟨hb4, H3.out.keeps hk4 (by simpa using hbr.symm) (by simpa using hBg.symm) (by simpa using hGb), Keeps.refl _ _, hbr, hBg, hGb⟩ : Rdt B r g W4 W4 t { evZero with k := k } (.slice none 0 0) (.slice none 0 0))
      have E4 := Lib.hid (hk4.heap E3.out (by simp))
      have K4 := Lib.hid (K3.out.trans hk4 (fun y hy => .inr (by simp at hy; omega)))
      have c40 := ev_cell hb4 0 (evC_0 _ _ _)
      have c40D : W4.drew.cell? ⟨B, 0, none⟩ = some (.int .u8 k) := c40
      have hix := fun w => index_tx8 w k hk1 hk7
      have hC2 := fun w => field_tx2 w k hk1 hk7
      have hent := enter_read6 hk1 hk7
      have hread := fun w b r g l h hl => read6_any w b r g l k hk1 hk7 h hl
      generalize txKind k = C at *
      generalize kRead6 k = KR at *
      generalize hKC : txKindsC = KC at *
      have HREAD := Lib.hid hread
      clear hb4 hk4 H3 E3 K3 HB3 hread c40
      go_wp2_with fail
      refine wp_region_die B (fun W => lnGet s = none ∧ Keeps [B, r] W4 W ∧ ∃ cs, W.heap[B]? = some (.cells cs 32 (0, 0)) ∧ cs.size = 19) ?reg ?hq
      case hq =>
        intro a w' e2 e3 e4 hGG
        obtain ⟨hnone, hkw, cs, hcs, hsz⟩ := hGG
        show Leaves Tryz.prog Tryz.f9 a.tmps _ a.defers _ w'
        rw [e4]
        refine parse_dies _ _ B (B + 1) (by omega) _ _ hcs hsz _ (hkw.heap E4.out (by simp; omega)) e2 e3 ?_
        intro W' hk'
        exact HBAD.out hnone _ _ (K4.out.trans hkw (fun y hy => .inr (by simp at hy; omega))) hk'
      case reg =>
      refine wp_region_held_drew (S := fun w' => w'.cell? ⟨B, 0, none⟩ = some (.int .u8 k)) (by kernel_rfl) c40D (fun hHeld => ?_)
      apply wpAnyH_take (i := 1) (v := .pointer (some ⟨B, 0, none⟩))
      · simp only [List.getElem?_toArray]; rfl
      · kernel_rfl
      · kernel_rfl
      · kernel_rfl
      · exact DieQ.put (by decide) (by decide)
      · exact Or.inl ⟨by rfl, by intro w hSw; go_simp; try with_reducible rfl⟩
      · assumption
      try simp only [Act.put, List.setIfInBounds_toArray, List.set_cons_zero, List.set_cons_succ]
      apply wpAnyH_take (i := 2) (v := .int .u8 k)
      · simp only [List.getElem?_toArray]; rfl
      · kernel_rfl
      · kernel_rfl
      · kernel_rfl
      · exact DieQ.put (by decide) (by decide)
      · exact Or.inl ⟨by rfl, by intro w hSw; replace hSw : w.cell? ⟨B, 0, none⟩ = some (.int .u8 k) := hSw; go_simp; try with_reducible rfl⟩
      · assumption
      try simp only [Act.put, List.setIfInBounds_toArray, List.set_cons_zero, List.set_cons_succ]
      apply wpAnyH_take (i := 5) (v := .pointer (some ⟨r, 0, none⟩))
      · simp only [List.getElem?_toArray]; rfl
      · kernel_rfl
      · kernel_rfl
      · kernel_rfl
      · exact DieQ.put (by decide) (by decide)
      · exact Or.inl ⟨by rfl, by intro w hSw; go_simp; try with_reducible rfl⟩
      · assumption
      try simp only [Act.put, List.setIfInBounds_toArray, List.set_cons_zero, List.set_cons_succ]
      apply wpAnyH_ready (rs := [0])
      · kernel_rfl
      · simp
      apply AllReadyH.cons (hs := AllReadyH.nil)
      · simp only [List.getElem?_toArray]; rfl
      intro K hK
      rw [if_pos (by rfl)]
      go_simp
      refine (txKinds_any _).mono ?_; rintro e w5 ⟨rfl, hk5⟩
      rw [hKC]
      have hS5 := hk5.cell hHeld (by simp)
      have hk5 := hk5.undrew
      have H5 := Lib.hid (H4.out.news hk5); have E5 := Lib.hid (hk5.heap E4.out (by simp)); have K5 := Lib.hid (K4.out.trans hk5 (FSub.refl _ _))
      clear hk5
      go_wp2_with fail
      refine hK.out _ _ ?_ (fun hHeld => ?_)
      · exact hS5
      clear hK K
      try simp only [Act.put, List.setIfInBounds_toArray, List.set_cons_zero, List.set_cons_succ]
      apply wpAnyH_ready (rs := [3])
      · kernel_rfl
      · simp
      apply AllReadyH.cons (hs := AllReadyH.nil)
      · simp only [List.getElem?_toArray]; rfl
      intro K hK
      rw [if_pos (by rfl)]
      go_simp
      go_wp2_with fail
      refine hK.out _ _ ?_ (fun hHeld => ?_)
      · exact hS5
      clear hK K
      try simp only [Act.put, List.setIfInBounds_toArray, List.set_cons_zero, List.set_cons_succ]
      apply wpAnyH_ready (rs := [4])
      · kernel_rfl
      · simp
      apply AllReadyH.cons (hs := AllReadyH.nil)
      · simp only [List.getElem?_toArray]; rfl
      intro K hK
      rw [if_pos (by rfl)]
      go_simp
      go_wp2_with fail
      refine hK.out _ _ ?_ (fun hHeld => ?_)
      · exact hS5
      clear hK K
      try simp only [Act.put, List.setIfInBounds_toArray, List.set_cons_zero, List.set_cons_succ]
      apply wpAnyH_ready (rs := [6])
      · kernel_rfl
      · simp
      apply AllReadyH.cons (hs := AllReadyH.nil)
      · simp only [List.getElem?_toArray]; rfl
      intro K hK
      rw [if_pos (by rfl)]
      go_simp
      refine (HREAD.out w5 B r g t (⟨H5.out.ev, H5.out.rdr, Keeps.refl _ _, hbr, hBg, hGb⟩) hlt).mono ?_; rintro e w6 ⟨tx, rd, hF, hEK⟩
      have hbody := rdK_body k t
      have hkind := @rdK_kind k t
      cases e6 : rdK k t with
      | none =>
        rw [e6] at hF
        obtain ⟨rfl, hk6, hcs⟩ := hF
        have hnone : lnGet s = none := by
          refine lnGet_rd HQC.out ?_
          rw [HRD.out]
          cases hb : rdBody k t with
          | none => rfl
          | some x => rw [(hbody x).2 hb] at e6; cases e6
        unfold PanicE
        clear hbody hkind hEK
        go_wp2_with fail
        exact ⟨⟨rfl, rfl, rfl, rfl⟩, H5.out.keeps.trans hk6 (fun y hy => .inl hy), hcs⟩
      | some p =>
      obtain ⟨x, l2⟩ := p
      rw [e6] at hF
      obtain ⟨rfl, h6⟩ := hF
      have hxk := hkind e6
      have hEK2 := hEK x l2 e6
      have hS6 := ev_cell h6.ev 0 (evC_0 x tx rd)
      rw [hxk] at hS6
      have hbd : ∀ y, rdBody k t = some y → l2 = [] ∧ y = x := by
        intro y hy
        have := (hbody y).2 hy
        rw [e6] at this
        cases this
        exact ⟨rfl, rfl⟩
      have hbd2 : l2 = [] → rdBody k t = some x := fun h => (hbody x).1 (by rw [e6, h])
      have H6 := Lib.hid h6
      have E6 := Lib.hid (h6.keeps.heap E5.out (by simp; omega))
      have K6 := Lib.hid (K5.out.trans h6.keeps (fun y hy => .inr (by simp at hy; omega)))
      have HEK := Lib.hid hEK2
      have HBD := Lib.hid hbd; have HBD2 := Lib.hid hbd2
      have hB5 : B < w5.heap.size := lt_of_block H5.out.ev
      have hE5 : B + 1 < w5.heap.size := lt_of_block E5.out
      clear h6 hkind hbody hEK hEK2 hxk e6 hbd hbd2 H4 H5 E4 E5 K4 K5 HREAD hent hC2 hix hKC
      go_wp2_with fail
      refine hK.out _ _ ?_ (fun hHeld => ?_)
      · exact hS6
      clear hK K
      try simp only [Act.put]
      refine wpAnyH_done (by kernel_rfl) ?_ _
      refine DieQ.normal ?_
      obtain ⟨v6, hv6, hs6⟩ := H6.out.rdr.cell
      obtain ⟨a6, c6, rfl, _, _, _⟩ := hs6
      have c60 : w6.cell? ⟨r, 0, none⟩ = some (.slice a6 l2.length c6) := by simp [World.cell?, hv6]
      clear hv6 hS6
      by_cases hl2 : l2 = []
      · subst hl2
        have hxg := HBD2.out rfl
        have hrd : rdEv (cutAt 32 s) = some x := by rw [HQC.out, HRD.out, hxg]
        have hin := (rdEv_ok (cut_parts_free 32 s) hrd).2.1
        have hln : lnGet s = if evGood x then some x else none := by unfold lnGet; rw [hrd]
        have HLN := Lib.hid hln
        have hat6 := HEK.out [] w6 (Keeps.refl _ _) (by simp)
        have hchk := Check5_any w6 H6.out.rdr.glob.o x hin tx rd hat6 (Nat.le_refl _)
        have c60' : w6.cell? ⟨r, 0, none⟩ = some (.slice a6 0 c6) := c60
        clear c60 hxg hrd hln HBD HBD2 HRD HQC hat6
        go_wp2_with fail
        refine (need_yes _).mono ?_; rintro e w7 ⟨rfl, rfl⟩
        go_wp2_with ((with_reducible apply wpList_load_ev); exact rfl; exact H6.out.ev; exact rfl)
        refine hchk.mono ?_; rintro e w8 ⟨rfl, hk8⟩
        have H8 := Lib.hid (H6.out.news hk8)
        have E8 := Lib.hid (hk8.heap E6.out (by simp))
        have K8 := Lib.hid (K6.out.trans hk8 (FSub.refl _ _))
        have hEr : evErr x = if evGood x then 0 else 4 := rfl
        rw [hEr]
        clear hchk hEr
        cases hg : evGood x with
        | false =>
          have hnone : lnGet s = none := by rw [HLN.out, hg]; rfl
          go_wp2_with fail
          refine (need_no _).mono ?_; rintro e w9 ⟨rfl, rfl⟩
          unfold PanicE
          go_wp2_with fail
          refine parse_dies _ _ B (B + 1) (by omega) _ _ H8.out.ev (evC_size _ _ _) _ E8.out rfl rfl ?_
          intro W' hk'
          exact HBAD.out hnone _ _ K8.out hk'
        | true =>
          have hsome : lnGet s = some x := by rw [HLN.out, hg]; rfl
          have hEX : lnX s = x ∧ lnE s = 0 := by unfold lnX lnE; rw [hsome]; exact ⟨rfl, rfl⟩
          have HEX := Lib.hid hEX
          have h1c := (HEK.out [] w7 (Keeps.refl _ _) (by simp))
          have hone := Lib.hid (evC_one x h1c.t.one h1c.r.one)
          have HK8 := Lib.hid hk8
          clear hsome hEX h1c hk8
          go_wp2_with fail
          refine (need_yes _).mono ?_; rintro e w9 ⟨rfl, rfl⟩
          go_wp2_with (first | ((with_reducible apply wpList_load_ev); exact rfl; exact H8.out.ev; exact rfl) | ((with_reducible apply wpList_put_ev); exact rfl; exact rfl; exact H8.out.ev; exact ⟨rfl, rfl⟩; exact hone.out))
          intro W10 hb10 hk10
          have he10 := hk10.heap E8.out (by simp)
          have d0 : W10.cell? ⟨B + 1, 0, none⟩ = some (.int .i64 0) := by simp [World.cell?, he10]
          have dz : W10.frozen? ⟨B + 1, 0, none⟩ = false := by simp [World.frozen?, he10]
          have HB10 := Lib.hid hb10; have HE10 := Lib.hid he10; have HK10 := Lib.hid hk10
          clear hb10 hk10 he10
          go_wp2_with fail
          have hkf := (HK10.out.more (G := [B, B + 1]) (by simp)).setCell ⟨B + 1, 0, none⟩ (.int .i64 0) (.inl (by simp))
          refine parse_ends _ _ B (B + 1) _ ((Below.heap_setCell _ _ _ _ (by simp)).trans HB10.out) (put1 HE10.out _) rfl rfl ?_
          obtain ⟨e1, e2⟩ := HEX.out
          rw [e1, e2]
          refine ⟨tx, rd, rfl, fun F W' hkF hF => HEK.out (B :: (B + 1) :: F) W' (((((HK8.out.more (G := [B, B + 1]) (by simp))).trans hkf (FSub.refl _ _)).more (G := B :: (B + 1) :: F) (by intro q hq; simp at hq ⊢; rcases hq with h | h <;> simp [h])).step hkF (by intro q hq; simp [hq])) (fun q hq => ?_), K8.out.trans hkf (fun y hy => .inr (by simp at hy; omega))⟩
          simp at hq
          rcases hq with h | h | h
          · omega
          · omega
          · have := hF q h; have := HM.out; omega
      · have hnone : lnGet s = none := by
          refine lnGet_rd HQC.out ?_
          rw [HRD.out]
          cases hb : rdBody k t with
          | none => rfl
          | some y => exact absurd (HBD.out y hb).1 hl2
        have hpos : 0 < l2.length := List.length_pos_iff.2 hl2
        have hz : ((l2.length : Int) == 0) = false := by rw [beq_eq_false_iff_ne]; omega
        clear hl2 HBD HBD2 HRD HQC
        go_wp2_with fail
        refine (need_no _).mono ?_; rintro e w7 ⟨rfl, rfl⟩
        unfold PanicE
        go_wp2_with fail
        refine parse_dies _ _ B (B + 1) (by omega) _ _ H6.out.ev (evC_size _ _ _) _ E6.out rfl rfl ?_
        intro W' hk'
        exact HBAD.out hnone _ _ K6.out hk'
--END
  · have hnone : lnGet s = none := by
      rcases hcut with ⟨a, b⟩ | ⟨a, _⟩
      · exact lnGet_long (by rw [← b]; omega)
      · exact lnGet_long (by omega)
    have hqz : decide ((Q.length : Int) ≤ 27) = false := by simp; omega
    clear hcut hpl hQ
    go_wp2_with fail
    refine (need_no _).mono ?_; rintro e w3 ⟨rfl, rfl⟩
    unfold PanicE
    go_wp2_with fail
    refine parse_dies _ _ w.heap.size (w.heap.size + 1) (by omega) _ _ HB2.out (evC_size _ _ _) _ HE2.out rfl rfl ?_
    intro W' hk'
    exact HBAD.out hnone _ _ HK2.out hk'
end Go.Proofs.YtiljdehhjiahdaaGreatDoor
/-
  A script's lines; a row of events under way.
-/
namespace Go.Proofs.YtiljdehhjiahdaaGreatDoor
open Go.RowKit
/-- A script's lines. -/
def lnsOf : List UInt8 → List (List UInt8)
  | [] => []
  | c :: r => if c = 10 then [] :: lnsOf r else (match lnsOf r with
    | [] => [[c]]
    | h :: t => if r = [] then [[c]] else (c :: h) :: t)
theorem lnsOf_line : ∀ (w r : List UInt8), (10 : UInt8) ∉ w → lnsOf (w ++ 10 :: r) = w :: lnsOf r
  | [], r, _ => by show lnsOf (10 :: r) = _; rw [lnsOf, if_pos rfl]
  | c :: w, r, h => by
    have hc : ¬ c = 10 := fun e => h (by simp [e])
    have ih := lnsOf_line w r (fun hm => h (by simp [hm]))
    show lnsOf (c :: (w ++ 10 :: r)) = _
    rw [lnsOf, if_neg hc, ih]
    simp
theorem lnsOf_last : ∀ (w : List UInt8), (10 : UInt8) ∉ w → w ≠ [] → lnsOf w = [w]
  | [], _, h => absurd rfl h
  | c :: w, h, _ => by
    have hc : ¬ c = 10 := fun e => h (by simp [e])
    unfold lnsOf
    rw [if_neg hc]
    by_cases hw : w = []
    · subst hw; simp [lnsOf]
    · rw [lnsOf_last w (fun hm => h (by simp [hm])) hw]
      simp [hw]
theorem lnsOf_ne {s : List UInt8} (h : s ≠ []) : lnsOf s ≠ [] := by
  cases s with
  | nil => exact absurd rfl h
  | cons c r =>
    unfold lnsOf
    split
    · simp
    · split
      · simp
      · split <;> simp
theorem split10 : ∀ (s : List UInt8), (10 : UInt8) ∉ s ∨ ∃ w r, s = w ++ 10 :: r ∧ (10 : UInt8) ∉ w
  | [] => .inl (by simp)
  | c :: r => by
    by_cases hc : c = 10
    · exact .inr ⟨[], r, by simp [hc], by simp⟩
    · rcases split10 r with h | ⟨w, t, h1, h2⟩
      · exact .inl (by simp [h, Ne.symm hc])
      · exact .inr ⟨c :: w, t, by rw [h1]; rfl, by simp [h2, Ne.symm hc]⟩
theorem cut_free (s : List UInt8) (h : (10 : UInt8) ∉ s) : Lib.cut s [10] = (s, [], false) := by
  unfold Lib.cut
  rw [index_free 10 s h, if_neg (by decide)]
theorem cut_at10 (w r : List UInt8) (h : (10 : UInt8) ∉ w) : Lib.cut (w ++ 10 :: r) [10] = (w, r, true) := by
  unfold Lib.cut
  rw [index_at 10 w r h, if_pos (by omega)]
  have e : ((w.length : Nat) : Int).toNat = w.length := by omega
  simp only [e]
  simp
/-- What strings.Cut leaves of a script is what stands behind its first line. -/
theorem cut_lns {s : List UInt8} (h : s ≠ []) : lnsOf s = (Lib.cut s [10]).1 :: lnsOf (Lib.cut s [10]).2.1 ∧ (Lib.cut s [10]).2.1.length < s.length := by
  rcases split10 s with h1 | ⟨w, r, rfl, h2⟩
  · rw [cut_free s h1, lnsOf_last s h1 h]
    refine ⟨rfl, ?_⟩
    exact List.length_pos_iff.2 h
  · rw [cut_at10 w r h2, lnsOf_line w r h2]
    exact ⟨rfl, by simp; omega⟩
/-- The events of lines, how many there are, and the error. -/
noncomputable def rdS (acc : List Ev) (n : Int) : List (List UInt8) → List Ev × Int × Int
  | [] => (acc, n, 0)
  | x :: r => if lnE x = 0 then rdS (acc ++ [lnX x]) (n + 1) r else ([], n + 1, 4)
abbrev EvL := List (Ev × Value × Value)
def evsC : EvL → List Value
  | [] => []
  | p :: r => (evC p.1 p.2.1 p.2.2).toList ++ evsC r
theorem evC_len (x : Ev) (tx rd : Value) : (evC x tx rd).toList.length = 19 := rfl
theorem evsC_app : ∀ (l m : EvL), evsC (l ++ m) = evsC l ++ evsC m
  | [], m => rfl
  | p :: r, m => by show _ ++ evsC (r ++ m) = _; rw [evsC_app r m, ← List.append_assoc]; rfl
theorem evsC_len : ∀ (l : EvL), (evsC l).length = l.length * 19
  | [] => rfl
  | p :: r => by
    show ((evC p.1 p.2.1 p.2.2).toList ++ evsC r).length = _
    rw [List.length_append, evC_len, evsC_len r]; simp; omega
theorem evsC_get : ∀ (l : EvL) (j : Nat) (p : Ev × Value × Value), l[j]? = some p → ∀ i v, (evC p.1 p.2.1 p.2.2).toList[i]? = some v → (evsC l)[j * 19 + i]? = some v
  | [], j, p, h, _, _, _ => by simp at h
  | q :: r, 0, p, h, i, v, hi => by
    simp at h; subst h
    have hl : i < (evC q.1 q.2.1 q.2.2).toList.length := (List.getElem?_eq_some_iff.1 hi).1
    show ((evC q.1 q.2.1 q.2.2).toList ++ evsC r)[0 * 19 + i]? = _
    rw [show 0 * 19 + i = i by omega, List.getElem?_append_left hl]
    exact hi
  | q :: r, j + 1, p, h, i, v, hi => by
    show ((evC q.1 q.2.1 q.2.2).toList ++ evsC r)[(j + 1) * 19 + i]? = _
    rw [List.getElem?_append_right (by rw [evC_len]; omega), evC_len, show (j + 1) * 19 + i - 19 = j * 19 + i by omega]
    exact evsC_get r j p (by simpa using h) i v hi
def RowE (base : Nat) (w : World) (v : Value) (L : EvL) : Prop := w.ownsRow base 32 19 v L.length (evsC L)
theorem Tryz.infoE : (Tryz.prog.info? 32).map (fun i => (i.zero, i.size, i.bytes)) = some (some (.agg (evC evZero (.slice none 0 0) (.slice none 0 0))), 19, 104) := by kernel_rfl
theorem ev_new (w : World) (x : Ev) (tx rd : Value) (t : TypeId) : ∀ j u, (evC x tx rd).toList[j]? = some u → (w.alloc (.cells (evC x tx rd) t)).cell? ((⟨w.heap.size, 0, none⟩ : Addr).add j) = some u := by
  intro j u hj
  rw [Addr.add_mid, Nat.zero_add]
  have := heap_alloc_new w (.cells (evC x tx rd) t)
  simp only [World.cell?, this]
  rw [Array.getElem?_toList] at hj
  simpa using hj
theorem evC_onel {x : Ev} {tx rd : Value} (h1 : tx.oneCell' = true) (h2 : rd.oneCell' = true) : ∀ u ∈ (evC x tx rd).toList, u.oneCell' = true := by
  have h := evC_one x h1 h2
  rw [List.all_eq_true] at h
  exact fun u hu => h u hu
theorem append_ev (w : World) (base : Nat) (hbase : base ≤ w.heap.size) (v : Value) (L : EvL) (hrow : RowE base w v L) (hn : L.length ≤ 100000000) (x : Ev) (tx rd : Value) (h1 : tx.oneCell' = true) (h2 : rd.oneCell' = true) :
    ∃ v' w', (Builtin.append_ #[44, 44] 44 #[v, .slice (some ⟨w.heap.size, 0, none⟩) 1 1]).run Tryz.prog (w.alloc (.cells (evC x tx rd) 32)) = .ok v' w' ∧ RowE base w' v' (L ++ [(x, tx, rd)]) ∧ Keeps (own v) w w' ∧ FSub (own v') (own v) w.heap.size := by
  obtain ⟨i0, hi, hz0, hz1, hz2⟩ := info_parts Tryz.infoE
  have hk := (Keeps.refl (own v) w).alloc (.cells (evC x tx rd) 32)
  have hr2 : RowE base (w.alloc (.cells (evC x tx rd) 32)) v L := row_old hrow ((Keeps.refl [] w).alloc _) (by simp)
  have hsz : w.heap.size ≤ (w.alloc (.cells (evC x tx rd) 32)).heap.size := hk.size
  have hnew := ev_new w x tx rd 32
  have hone := evC_onel (x := x) h1 h2
  have hcells : evsC (L ++ [(x, tx, rd)]) = evsC L ++ (evC x tx rd).toList := by rw [evsC_app]; simp [evsC]
  have hb : (L.length + 1) * 104 ≤ 140737488355328 := by omega
  have hm : L.length + 1 ≤ maxLen := by unfold maxLen; omega
  generalize w.alloc (.cells (evC x tx rd) 32) = w1 at *
  have fin : ∀ {b2 : Nat} {v' : Value} {w' : World}, base ≤ b2 → w'.ownsRow b2 32 19 v' (L.length + 1) (evsC L ++ (evC x tx rd).toList) → RowE base w' v' (L ++ [(x, tx, rd)]) := by
    intro b2 v' w' hb2 h
    unfold RowE
    rw [hcells, List.length_append]
    exact row_up h (fun q hq => Nat.le_trans hb2 (row_base h q hq).1)
  unfold RowE at hr2
  rcases hr2.2 with ⟨rfl, h0⟩ | ⟨g, cap, cur, rfl, hbg, hg, hnc, hcm, hcs, htake⟩
  · obtain ⟨v', w', hr, ho, hgr, _⟩ := run_append_own (P := Tryz.prog) (w := w1) w1.heap.size 44 44 32 i0 _ 19 104 Tryz.underlying44 hi hz0 hz1 hz2 rfl (by decide) (.slice none 0 0) L.length (evsC L) ⟨hr2.1, .inl ⟨rfl, h0⟩⟩
      ⟨w.heap.size, 0, none⟩ 1 1 (evC x tx rd).toList rfl hnew hone hm hb (Nat.le_refl _)
    exact ⟨v', w', hr, fin (Nat.le_trans hbase hsz) ho, hk.grown hgr (fun q hq => .inl hq), fun q hq => .inr (Nat.le_trans hsz (row_base ho q hq).1)⟩
  · by_cases hroom : L.length + 1 ≤ cap
    · obtain ⟨w', hr, ho, hgr⟩ := run_append_fits (P := Tryz.prog) w1 base 44 44 32 i0 19 Tryz.underlying44 hi hz1 g L.length cap (evsC L) hr2 ⟨w.heap.size, 0, none⟩ 1 1 (evC x tx rd).toList rfl hnew hone hroom
      exact ⟨_, w', hr, fin (Nat.le_refl _) ho, hk.grown (v := .slice (some ⟨g, 0, none⟩) L.length cap) hgr (fun q hq => .inl hq), fun q hq => .inl hq⟩
    · obtain ⟨v', w', hr, ho, hgr⟩ := run_append_arg_grows (P := Tryz.prog) w1 44 44 32 i0 _ 19 104 Tryz.underlying44 hi hz0 hz1 hz2 rfl (by decide) ⟨g, 0, none⟩ L.length cap (evsC L) (evsC_len L) (hr2.cells (g := g) rfl) ⟨w.heap.size, 0, none⟩ 1 1 (evC x tx rd).toList rfl hnew (by omega) hm hb
      refine ⟨v', w', hr, fin (Nat.le_trans hbase hsz) ho, ?_, fun q hq => .inr (Nat.le_trans hsz (row_base ho q hq).1)⟩
      exact hk.grown (v := .slice none 0 0) hgr (fun q hq => by simp [own, Value.ownBlock] at hq)
end Go.Proofs.YtiljdehhjiahdaaGreatDoor
