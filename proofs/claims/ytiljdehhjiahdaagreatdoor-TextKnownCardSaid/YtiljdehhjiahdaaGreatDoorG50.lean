/-
  A slice literal of one event.
-/
import Derived.Great.BuildSlice
import Derived.Test.YtiljdehhjiahdaaGreatDoorG49
set_option linter.unusedSimpArgs false
set_option linter.unusedVariables false
namespace Go.Proofs.YtiljdehhjiahdaaGreatDoor
open Go.RowKit
theorem fill_ev (x : Ev) (tx rd : Value) (cells : Array Value) (h : cells.size = 19) : Instr.fill (fun i => some (i * 19, 19)) cells [(0, .agg (evC x tx rd))] = some (evC x tx rd) := by
  have := Great.fill_whole (s := 19) (by decide) [.agg (evC x tx rd)] cells (by intro v hv; simp at hv; subst hv; rfl) (by simp [h])
  exact this
theorem wpList_build_evs {ops : Array Oper} {rest : List Oper} {a : Act} {w : World} {Q : Exit → Act → World → Prop} {dst : Option Tmp} {ty : TypeId} {pos : String} {after : Array Edge} {y : Operand} {x : Ev} {tx rd : Value}
    (hy : a.eval y = .agg (evC x tx rd))
    (h : wpList Tryz.prog ops Q rest (a.put dst (.slice (some ⟨w.heap.size, 0, none⟩) 1 1)) (w.alloc (.cells (evC x tx rd) 32))) :
    wpList Tryz.prog ops Q ({ dst := dst, op := .buildSlice 44 1 #[(0, y)], type := ty, pos := pos, after := after, guard := none } :: rest) a w := by
  obtain ⟨i0, hi, hz0, hz1, hz2⟩ := info_parts Tryz.infoE
  refine wpList_buildSlice rfl 44 32 1 #[(0, y)] rfl (evC x tx rd) i0 _ Tryz.underlying44 hi hz0 (by rw [hz1]; decide) (by rw [hz1]; decide) ?_ h
  rw [hz1]
  have e : (#[(0, y)].map fun (i, z) => (i, a.eval z)).toList = [(0, a.eval y)] := by simp
  rw [e, hy]
  exact fill_ev x tx rd _ (by simp)
end Go.Proofs.YtiljdehhjiahdaaGreatDoor
/-
  The program's Read.
-/
namespace Go.Proofs.YtiljdehhjiahdaaGreatDoor
open Go.RowKit
def strSz (v : Value) : Nat := match v with
  | .string s => s.size
  | _ => 0
def EvOk (wr : World) (v : Value) (p : Ev × Value × Value) : Prop :=
  ∃ base Wk, EvKeeps base Wk p.2.1 p.2.2 p.1 ∧ Keeps (List.range base) Wk wr ∧ (∀ q ∈ own v, q < base ∨ Wk.heap.size ≤ q)
theorem EvOk.at {wr : World} {v : Value} {p : Ev × Value × Value} (h : EvOk wr v p) : EvAt wr.heap.size wr p.2.1 p.2.2 p.1 := by
  obtain ⟨base, Wk, h1, h2, _⟩ := h
  exact h1 _ _ h2 (by simp)
theorem EvOk.step {wr wr' : World} {v v' : Value} {p : Ev × Value × Value} (h : EvOk wr v p) (hk : Keeps (own v) wr wr') (hf : FSub (own v') (own v) wr.heap.size) : EvOk wr' v' p := by
  obtain ⟨base, Wk, h1, h2, h3⟩ := h
  refine ⟨base, Wk, h1, h2.trans hk (fun q hq => ?_), fun q hq => ?_⟩
  · rcases h3 q hq with h | h
    · exact .inl (by simp [h])
    · exact .inr h
  · rcases hf q hq with h | h
    · exact h3 q h
    · exact .inr (Nat.le_trans h2.size h)
theorem rowE_evs {w : World} {base : Nat} {v : Value} {L : EvL} (h : RowE base w v L) (hok : ∀ p ∈ L, EvOk w v p) : Evs w.heap.size w v (L.map (·.1)) := by
  have hlm : (L.map (·.1)).length = L.length := List.length_map ..
  rcases h.2 with ⟨rfl, hn⟩ | ⟨g, cap, cur, rfl, _, hh, hc, hm, hcs, htk⟩
  · have : L = [] := List.eq_nil_of_length_eq_zero hn
    subst this
    exact ⟨none, 0, rfl, by simp, by decide, fun h => absurd rfl h⟩
  · refine ⟨some ⟨g, 0, none⟩, cap, by rw [hlm], by omega, by unfold maxLen at hm; omega, fun _ => ⟨g, 0, rfl, lt_of_block hh, fun j hj => ?_⟩⟩
    have hjl : j < L.length := by omega
    have hget : L[j]? = some L[j] := List.getElem?_eq_getElem hjl
    have hD : (L.map (·.1)).getD j evZero = L[j].1 := by simp [List.getD, hjl]
    refine ⟨L[j].2.1, L[j].2.2, ?_, ?_⟩
    · rw [hD]; exact (hok _ (List.getElem_mem hjl)).at
    · rw [hD]
      intro i u hi
      have h2 := evsC_get L j L[j] hget i u hi
      rw [← htk, List.getElem?_take] at h2
      split at h2
      · simp only [World.cell?, hh, Nat.zero_add]
        simpa using h2
      · cases h2
theorem Cut10_any (w : World) (hG : Glob6 w) (s : List UInt8) (hs : s.length ≤ 100000000) :
    Calls Tryz.prog 33 #[.string (bs s), .string ⟨#[10]⟩] w fun e w' => e = .returned (.tuple #[.string (bs (Lib.cut s [10]).1), .string (bs (Lib.cut s [10]).2.1), .bool (Lib.cut s [10]).2.2]) ∧ Keeps [] w w' := by
  obtain ⟨m, hm⟩ := hG.r.ml
  have hsz := bs_size s
  refine (Tryz.strings_Cut (bs s) ⟨#[10]⟩ m w (by omega) hm).mono ?_
  rintro e w' ⟨he, n, rfl⟩
  have h1 : (bs s).data.toList = s := by simp [bs]
  rw [h1] at he
  exact ⟨he, (Keeps.refl _ _).drewN n⟩
structure RdInv (s : List UInt8) (w0 : World) (cur : List UInt8) (v : Value) (k : Nat) (L : EvL) (wr : World) : Prop where
  kp : Keeps [] w0 wr
  row : RowE w0.heap.size wr v L
  ok : ∀ p ∈ L, EvOk wr v p
  eq : rdS [] 0 (lnsOf s) = rdS (L.map (·.1)) k (lnsOf cur)
  ln : ∀ x ∈ lnsOf cur, x.length ≤ 1000000
  num : L.length + cur.length ≤ s.length
  kk : k = L.length
def RdPost (s : List UInt8) (w : World) (e : Ending) (W : World) : Prop :=
  ∃ v, e = .returned (.tuple #[v, .int .i64 (rdS [] 0 (lnsOf s)).2.1, .int .i64 (rdS [] 0 (lnsOf s)).2.2]) ∧ Evs W.heap.size W v (rdS [] 0 (lnsOf s)).1 ∧ Keeps [] w W
set_option maxHeartbeats 8000000 in
set_option maxRecDepth 100000 in
theorem txRead_any (w : World) (hG : Glob6 w) (s : List UInt8) (hs : s.length ≤ 100000000) (hl : ∀ x ∈ lnsOf s, x.length ≤ 1000000) : Calls Tryz.prog 15 #[.string (bs s)] w (RdPost s w) := by
  have HI : Hid (RdInv s w s (.slice none 0 0) 0 [] w) := Lib.hid ⟨Keeps.refl _ _, ⟨rfl, .inl ⟨rfl, rfl⟩⟩, by simp, rfl, hl, by simp, rfl⟩
  have HG := Lib.hid hG
  clear hG hl
  go_enter Tryz.func15, Tryz.ntmps15
  go_wp2_with fail
  go_loopw [0, 2, 3] (fun a b c wr => ∃ (cur : List UInt8) (k : Nat) (L : EvL), a = .string (bs cur) ∧ c = .int .i64 k ∧ RdInv s w cur b k L wr) (fun a _ _ _ => strSz a)
  case atStart => exact ⟨s, 0, [], rfl, rfl, HI.out⟩
  case round =>
    clear HI
    obtain ⟨cur, k, L, rfl, rfl, hI⟩ := hrel
    have HI := Lib.hid hI
    clear hI
    have hkb : (k : Int) ≤ 100000000 := by have := HI.out.kk; have := HI.out.num; omega
    by_cases hc : cur = []
    · have hs0 : (bs cur).toList.isEmpty = true := by rw [toL_bs, hc]; rfl
      have heq := HI.out.eq
      rw [hc] at heq
      have HEQ := Lib.hid heq
      have HEV := Lib.hid (rowE_evs HI.out.row HI.out.ok)
      clear heq hc
      generalize bs cur = S at *
      go_wp2_with fail
      go_ret3
      refine ⟨u2, ?_, ?_, HI.out.kp⟩
      · rw [HEQ.out]; rfl
      · rw [HEQ.out]; exact HEV.out
    · have hs0 : (bs cur).toList.isEmpty = false := by
        rw [toL_bs]
        cases cur with
        | nil => exact absurd rfl hc
        | cons a l => rfl
      obtain ⟨hlns, hsh⟩ := cut_lns hc
      have hcurz : cur.length ≤ 100000000 := by have := HI.out.num; omega
      have hG1 := HG.out.new HI.out.kp
      have hcut := Cut10_any wr hG1 cur hcurz
      have hln := HI.out.ln
      have heq := HI.out.eq
      rw [hlns] at hln heq
      have hf1 := hln _ List.mem_cons_self
      have hln2 : ∀ x ∈ lnsOf (Lib.cut cur [10]).2.1, x.length ≤ 1000000 := fun x hx => hln x (by simp [hx])
      have hsz2 : (bs cur).size = cur.length := bs_size cur
      have hsz3 : (bs (Lib.cut cur [10]).2.1).size = (Lib.cut cur [10]).2.1.length := bs_size _
      clear hln hlns hc
      generalize (Lib.cut cur [10]).1 = F1 at *
      generalize (Lib.cut cur [10]).2.1 = C2 at *
      generalize (Lib.cut cur [10]).2.2 = B2 at *
      have hpar := fun w hG M hM => txParse_fresh w hG F1 hf1 M hM
      have HCUT := Lib.hid hcut; have HPAR := Lib.hid hpar; have HEQ := Lib.hid heq; have HLN2 := Lib.hid hln2; have HG1 := Lib.hid hG1
      have HZ := Lib.hid (And.intro hsz2 hsz3)
      have HSH := Lib.hid hsh
      clear hcut hpar heq hln2 hG1 hf1 hsz2 hsz3 hsh
      generalize bs cur = S at *
      generalize hS2 : bs C2 = S2 at *
      have HS2 := Lib.hid hS2
      clear hS2
      generalize bs F1 = SF at *
      go_wp2_with fail
      refine HCUT.out.mono ?_; rintro z w1 ⟨rfl, hk1⟩
      have HK1 := Lib.hid hk1
      have HG2 := Lib.hid (HG1.out.new hk1)
      clear hk1 HCUT HG1
      go_wp2_with fail
      refine (HPAR.out w1 HG2.out w1.heap.size (Nat.le_refl _)).mono ?_; rintro z w2 ⟨tx, rd, rfl, hek, hk2⟩
      have hx := hek [] w2 (Keeps.refl _ _) (by simp)
      have hx1 := hx.t.one
      have hx2 := hx.r.one
      have HEK := Lib.hid hek; have HK2 := Lib.hid hk2
      have HKA := Lib.hid ((Keeps.refl [] w2).alloc (.cells #[.int .u8 0, .int .u8 0, .int .u16 0, .int .u8 0, .int .u8 0, .int .u8 0, .int .u16 0, .int .u16 0, .int .u8 0, .int .u16 0, .slice none 0 0, .slice none 0 0, .int .u8 0, .int .i64 0, .int .i64 0, .int .i64 0, .bool false, .bool false, .bool false] 32))
      clear hx hek hk2 HPAR
      have h2 := lnE_two F1
      generalize hX : lnX F1 = X at *
      generalize hE : lnE F1 = E at *
      have HX := Lib.hid hX; have HE := Lib.hid hE
      clear hX hE
      go_wp2_with ((with_reducible apply wpList_put_ev); exact rfl; exact rfl; (first | assumption | (refine heap_alloc_lt ?_; assumption) | (refine heap_alloc_lt (heap_alloc_lt ?_); assumption) | exact heap_alloc_at (by simp)); exact ⟨rfl, rfl⟩; (refine evC_one _ ?_ ?_ <;> first | rfl | assumption))
      intro W3 hb3 hk3
      have HK3 := Lib.hid (HKA.out.trans hk3 (fun q hq => .inr (by simp at hq; omega)) : Keeps [] w2 W3)
      clear hk3 HKA
      generalize w2.heap.size = c at *
      have hq3 : Keeps [] wr W3 := (HK1.out.trans HK2.out (FSub.refl _ _)).trans HK3.out (FSub.refl _ _)
      have HQ3 := Lib.hid hq3
      have HROW3 := Lib.hid (row_old HI.out.row hq3 (by simp))
      clear hq3
      rcases h2 with rfl | rfl
      · obtain ⟨v', w4, hr4, ho4, hk4, hf4⟩ := append_ev W3 w.heap.size (by have := HI.out.kp.size; have := HQ3.out.size; omega) u2 L HROW3.out (by have := HI.out.num; omega) X tx rd hx1 hx2
        have HO4 := Lib.hid ho4; have HK4 := Lib.hid hk4; have HF4 := Lib.hid hf4
        have HR4 := Lib.hid hr4
        clear ho4 hk4 hf4 hr4
        go_wp2_with (first | ((with_reducible apply wpList_load_ev); exact rfl; exact hb3; exact rfl) | ((with_reducible apply wpList_build_evs); exact rfl) | (at_builtin; refine wpList_append_run rfl _ _ 44 rfl _ _ _ _ rfl rfl HR4.out ?_))
        go_roundw
        case rel =>
          refine ⟨C2, k + 1, L ++ [(X, tx, rd)], by rw [HS2.out], by go_num, ?_⟩
          have hown : ∀ q ∈ own u2, q < wr.heap.size := fun q hq => (row_base HI.out.row q hq).2
          refine ⟨(HI.out.kp.trans HQ3.out (FSub.refl _ _)).trans HK4.out (fun q hq => .inr (row_base HI.out.row q hq).1), HO4.out, ?_, ?_, HLN2.out, ?_, ?_⟩
          · intro p hp
            rcases List.mem_append.1 hp with hp | hp
            · exact ((HI.out.ok p hp).step (HQ3.out.more (by simp)) (FSub.refl _ _)).step HK4.out HF4.out
            · simp at hp
              subst hp
              refine ⟨w1.heap.size, w2, HEK.out, (HK3.out.more (G := List.range w1.heap.size) (by simp)).trans HK4.out (fun q hq => .inl ?_), fun q hq => ?_⟩
              · have := hown q hq; have := HK1.out.size; simp; omega
              · rcases HF4.out q hq with h | h
                · have := hown q h; have := HK1.out.size; exact .inl (by omega)
                · exact .inr (Nat.le_trans HK3.out.size h)
          · rw [HEQ.out]
            simp [rdS, HE.out, HX.out]
          · have := HI.out.num; have := HSH.out; simp; omega
          · have := HI.out.kk; simp; omega
        case measure => simp [strSz]; have := HZ.out; have := HSH.out; omega
      · go_wp2_with fail
        go_ret3
        refine ⟨.slice none 0 0, ?_, ?_, HI.out.kp.trans HQ3.out (FSub.refl _ _)⟩
        · rw [HEQ.out]; simp [rdS, HE.out]
        · rw [HEQ.out]
          have : (rdS (L.map fun x => x.1) (↑k) (F1 :: lnsOf C2)).1 = [] := by simp [rdS, HE.out]
          rw [this]
          exact ⟨none, 0, rfl, by simp, by decide, fun h => absurd rfl h⟩
end Go.Proofs.YtiljdehhjiahdaaGreatDoor
/-
  TextKnown's events, lines and scripts. (Printed by draft/genknown6.py.)
-/
namespace Go.Proofs.YtiljdehhjiahdaaGreatDoor
open Go.RowKit
theorem dec_0 : dec 0 = [48] := by simp [dec, Lib.decDigits]
theorem dec_2 : dec 2 = [50] := by simp [dec, Lib.decDigits]
theorem dec_6 : dec 6 = [54] := by simp [dec, Lib.decDigits]
theorem dec_7 : dec 7 = [55] := by simp [dec, Lib.decDigits]
theorem dec_8 : dec 8 = [56] := by simp [dec, Lib.decDigits]
theorem dec_15 : dec 15 = [49, 53] := by simp [dec, Lib.decDigits]
theorem dec_32 : dec 32 = [51, 50] := by simp [dec, Lib.decDigits]
theorem dec_100 : dec 100 = [49, 48, 48] := by simp [dec, Lib.decDigits]
theorem dec_1000 : dec 1000 = [49, 48, 48, 48] := by simp [dec, Lib.decDigits]
theorem dec_4096 : dec 4096 = [52, 48, 57, 54] := by simp [dec, Lib.decDigits]
theorem dec_65535 : dec 65535 = [54, 53, 53, 51, 53] := by simp [dec, Lib.decDigits]
theorem dec_1048576 : dec 1048576 = [49, 48, 52, 56, 53, 55, 54] := by simp [dec, Lib.decDigits]
def kc1 : Ev := { evZero with k := 1, g := ⟨2, 8, 100, 1000, true, false, true⟩ }
theorem kc1_in : kc1.In := in6_by (by decide) (by decide) (by decide) (by decide)
theorem kc1_good : evGood kc1 = true := good6_by (by decide) rfl
theorem kc1_line : evLine kc1 = [99, 111, 110, 102, 105, 103, 32, 109, 97, 112, 32, 56, 32, 49, 48, 48, 32, 49, 48, 48, 48, 32, 112, 97, 114, 116, 105, 116, 105, 111, 110, 32, 109, 101, 109, 111] := by
  have e : evLine kc1 = Lib.join (configL :: [mdNm 2, dec 8, dec 100, dec 1000, partL, memoL]) [32] := rfl
  rw [e, dec_8, dec_100, dec_1000]; decide
def kr1 : Ev := { evZero with k := 3, c := 3, id := 258, rk := 1, rv := 7 }
theorem kr1_in : kr1.In := in6_by (by decide) (by decide) (by decide) (by decide)
theorem kr1_good : evGood kr1 = true := good6_by (by decide) rfl
theorem kr1_line : evLine kr1 = [114, 101, 116, 117, 114, 110, 32, 51, 32, 50, 53, 56, 32, 118, 97, 108, 117, 101, 32, 55] := by
  have e : evLine kr1 = Lib.join (returnL :: [dec 3, dec 258, valueL ++ dec 7]) [32] := rfl
  rw [e, dec_3, dec_258, dec_7]; decide
def ki1 : Ev := { evZero with k := 4, c := 3, id := 258 }
theorem ki1_in : ki1.In := in6_by (by decide) (by decide) (by decide) (by decide)
theorem ki1_good : evGood ki1 = true := good6_by (by decide) rfl
theorem ki1_line : evLine ki1 = [105, 110, 102, 111, 32, 51, 32, 50, 53, 56] := by
  have e : evLine ki1 = Lib.join (infoL :: [dec 3, dec 258]) [32] := rfl
  rw [e, dec_3, dec_258]; decide
def ka1 : Ev := { evZero with k := 7 }
theorem ka1_in : ka1.In := in6_by (by decide) (by decide) (by decide) (by decide)
theorem ka1_good : evGood ka1 = true := good6_by (by decide) rfl
theorem ka1_line : evLine ka1 = [97, 98, 111, 114, 116, 32, 48, 32, 48] := by
  have e : evLine ka1 = Lib.join (abortL :: [dec 0, dec 0]) [32] := rfl
  rw [e, dec_0]; decide
def kb1 : Ev := { evZero with k := 5, c := 1, id := 9, t := [⟨true, 2, 0⟩, ⟨false, 2, 6⟩] }
theorem kb1_in : kb1.In := in6_by (by decide) (by decide) (by decide) (by decide)
theorem kb1_good : evGood kb1 = true := good6_by (by decide) rfl
theorem kb1_line : evLine kb1 = [98, 101, 103, 105, 110, 32, 49, 32, 57, 32, 114, 101, 97, 100, 32, 50, 32, 97, 112, 112, 101, 110, 100, 32, 50, 32, 54] := by
  have e : evLine kb1 = Lib.join (beginL :: [dec 1, dec 9, readL, dec 2, appendL, dec 2, dec 6]) [32] := rfl
  rw [e, dec_1, dec_9, dec_2, dec_6]; decide
def km1 : Ev := { evZero with k := 6, c := 1, id := 9 }
theorem km1_in : km1.In := in6_by (by decide) (by decide) (by decide) (by decide)
theorem km1_good : evGood km1 = true := good6_by (by decide) rfl
theorem km1_line : evLine km1 = [99, 111, 109, 109, 105, 116, 32, 49, 32, 57] := by
  have e : evLine km1 = Lib.join (commitL :: [dec 1, dec 9]) [32] := rfl
  rw [e, dec_1, dec_9]; decide
def kn1 : Ev := { evZero with k := 3, c := 15, id := 65535, rk := 4 }
theorem kn1_in : kn1.In := in6_by (by decide) (by decide) (by decide) (by decide)
theorem kn1_good : evGood kn1 = true := good6_by (by decide) rfl
theorem kn1_line : evLine kn1 = [114, 101, 116, 117, 114, 110, 32, 49, 53, 32, 54, 53, 53, 51, 53, 32, 110, 111] := by
  have e : evLine kn1 = Lib.join (returnL :: [dec 15, dec 65535, rsWord 4]) [32] := rfl
  rw [e, dec_15, dec_65535]; decide
def kc2 : Ev := { evZero with k := 1, g := ⟨4, 32, 4096, 1048576, false, true, false⟩ }
theorem kc2_in : kc2.In := in6_by (by decide) (by decide) (by decide) (by decide)
theorem kc2_good : evGood kc2 = true := good6_by (by decide) rfl
theorem kc2_line : evLine kc2 = [99, 111, 110, 102, 105, 103, 32, 97, 112, 112, 101, 110, 100, 32, 51, 50, 32, 52, 48, 57, 54, 32, 49, 48, 52, 56, 53, 55, 54, 32, 99, 117, 116] := by
  have e : evLine kc2 = Lib.join (configL :: [mdNm 4, dec 32, dec 4096, dec 1048576, cutL]) [32] := rfl
  rw [e, dec_32, dec_4096, dec_1048576]; decide
def ki2 : Ev := { evZero with k := 4, id := 1 }
theorem ki2_in : ki2.In := in6_by (by decide) (by decide) (by decide) (by decide)
theorem ki2_good : evGood ki2 = true := good6_by (by decide) rfl
theorem ki2_line : evLine ki2 = [105, 110, 102, 111, 32, 48, 32, 49] := by
  have e : evLine ki2 = Lib.join (infoL :: [dec 0, dec 1]) [32] := rfl
  rw [e, dec_0, dec_1]; decide
def ki0 : Ev := { evZero with k := 4 }
theorem ki0_in : ki0.In := in6_by (by decide) (by decide) (by decide) (by decide)
theorem ki0_good : evGood ki0 = true := good6_by (by decide) rfl
theorem ki0_line : evLine ki0 = [105, 110, 102, 111, 32, 48, 32, 48] := by
  have e : evLine ki0 = Lib.join (infoL :: [dec 0, dec 0]) [32] := rfl
  rw [e, dec_0]; decide
def ka2 : Ev := { evZero with k := 7, id := 2 }
theorem ka2_in : ka2.In := in6_by (by decide) (by decide) (by decide) (by decide)
theorem ka2_good : evGood ka2 = true := good6_by (by decide) rfl
theorem ka2_line : evLine ka2 = [97, 98, 111, 114, 116, 32, 48, 32, 50] := by
  have e : evLine ka2 = Lib.join (abortL :: [dec 0, dec 2]) [32] := rfl
  rw [e, dec_0, dec_2]; decide
theorem ln_n {s : List UInt8} (h : (match rdEv (cutAt 32 s) with | none => true | some x => !(evKind x.k && decide (x.c < 16) && evFits x)) = true) : lnE s ≠ 0 := by
  unfold lnE lnGet
  split at h
  · rename_i e; rw [e]; decide
  · rename_i x e
    rw [e]
    have hb : evGood x = false := by
      unfold evGood
      cases h2 : (evKind x.k && decide (x.c < 16) && evFits x) with
      | false => rfl
      | true => rw [h2] at h; exact absurd h (by decide)
    simp [hb]
theorem kn_value : psE [118, 97, 108, 117, 101] = 4 := by
  simp [psE, psOk, gsK, gsV, rsWord, rsGood, rsTxt, valueL, Lib.cut, Lib.index, List.isPrefixOf, puOf, Lib.parseUintB, Lib.parseUintM, Lib.decDigits]
theorem kbad_0 : lnE [105, 110, 102, 111, 32, 49, 54, 32, 49] ≠ 0 := ln_n (by decide)
theorem kbad_1 : lnE [105, 110, 102, 111, 32, 51] ≠ 0 := ln_n (by decide)
theorem kbad_2 : lnE [73, 110, 102, 111, 32, 51, 32, 49] ≠ 0 := ln_n (by decide)
theorem kbad_3 : lnE [105, 110, 102, 111, 32, 51, 32, 49, 32] ≠ 0 := ln_n (by decide)
theorem kbad_4 : lnE [105, 110, 102, 111, 32, 32, 51, 32, 49] ≠ 0 := ln_n (by decide)
theorem kbad_5 : lnE [99, 111, 110, 102, 105, 103, 32, 109, 97, 112, 32, 48, 32, 49, 32, 49] ≠ 0 := ln_n (by decide)
theorem kbad_6 : lnE [99, 111, 110, 102, 105, 103, 32, 109, 97, 112, 32, 56, 32, 49, 32, 49, 32, 109, 101, 109, 111, 32, 99, 117, 116] ≠ 0 := ln_n (by decide)
theorem kbad_7 : lnE [99, 111, 110, 102, 105, 103, 32, 116, 114, 101, 101, 32, 56, 32, 49, 32, 49] ≠ 0 := ln_n (by decide)
theorem kbad_8 : lnE [99, 111, 110, 102, 105, 103, 32, 109, 97, 112, 32, 56, 32, 49] ≠ 0 := ln_n (by decide)
theorem kbad_9 : lnE [99, 111, 110, 102, 105, 103, 32, 109, 97, 112, 32, 56, 32, 49, 32, 49, 32, 109, 101, 109, 111, 32, 109, 101, 109, 111] ≠ 0 := ln_n (by decide)
theorem kbad_10 : lnE [99, 111, 109, 109, 105, 116, 32, 49, 32, 57, 32, 52, 44] ≠ 0 := ln_n (by decide)
theorem kbad_11 : lnE [99, 111, 109, 109, 105, 116, 32, 49, 32, 57, 32, 44, 52] ≠ 0 := ln_n (by decide)
theorem kbad_12 : lnE [99, 111, 109, 109, 105, 116, 32, 49, 32, 57, 32, 48, 52] ≠ 0 := ln_n (by decide)
theorem kbad_13 : lnE [98, 101, 103, 105, 110, 32, 49, 32, 57] ≠ 0 := ln_n (by decide)
theorem kbad_14 : lnE [98, 101, 103, 105, 110, 32, 49, 32, 57, 32, 114, 101, 97, 100] ≠ 0 := ln_n (by decide)
theorem kbad_15 : lnE [98, 101, 103, 105, 110, 32, 49, 32, 57, 32, 114, 101, 97, 100, 32, 56] ≠ 0 := ln_n (by decide)
theorem kbad_16 : lnE [98, 101, 103, 105, 110, 32, 49, 32, 57, 32, 97, 112, 112, 101, 110, 100, 32, 49] ≠ 0 := ln_n (by decide)
theorem kbad_17 : lnE [98, 101, 103, 105, 110, 32, 49, 32, 57, 32, 119, 114, 105, 116, 101, 32, 49, 32, 50] ≠ 0 := ln_n (by decide)
theorem kbad_18 : lnE [114, 101, 116, 117, 114, 110, 32, 49, 32, 57] ≠ 0 := ln_n (by decide)
theorem kbad_19 : lnE [114, 101, 116, 117, 114, 110, 32, 49, 32, 57, 32, 118, 97, 108, 117, 101] ≠ 0 := by
  refine ln_n ?_
  have h : cutAt 32 [114, 101, 116, 117, 114, 110, 32, 49, 32, 57, 32, 118, 97, 108, 117, 101] = [returnL, [49], [57], [118, 97, 108, 117, 101]] := by decide
  have e : rdEv [returnL, [49], [57], [118, 97, 108, 117, 101]] = none := by
    show (if psE (Lib.join [[118, 97, 108, 117, 101]] [32]) = 0 then some ({ evZero with k := kdOf returnL, c := num7 [49], id := num7 [57], rk := psK (Lib.join [[118, 97, 108, 117, 101]] [32]), rv := psV (Lib.join [[118, 97, 108, 117, 101]] [32]) } : Ev) else none) = none
    rw [Lib.join_one, kn_value]; rfl
  rw [h, e]
theorem kbad_20 : lnE [114, 101, 116, 117, 114, 110, 32, 49, 32, 57, 32, 89, 101, 115] ≠ 0 := ln_n (by decide)
theorem kbad_21 : lnE [105, 110, 118, 111, 107, 101, 32, 49, 32, 57, 32, 114, 101, 97, 100] ≠ 0 := ln_n (by decide)
theorem kbad_22 : lnE [105, 110, 118, 111, 107, 101, 32, 49, 32, 57, 32, 48, 32, 114, 101, 97, 100, 115] ≠ 0 := ln_n (by decide)
theorem kbad_23 : lnE [97, 98, 111, 114, 116, 32, 48, 32, 54, 53, 53, 51, 54] ≠ 0 := ln_n (by decide)
theorem kbad_24 : lnE [97, 98, 111, 114, 116, 32, 48, 32, 45, 49] ≠ 0 := ln_n (by decide)
theorem kbad_25 : lnE [105, 110, 102, 111, 32, 43, 51, 32, 49] ≠ 0 := ln_n (by decide)
theorem kbad_26 : lnE [120, 32, 49, 32, 50] ≠ 0 := ln_n (by decide)
theorem kbad_27 : lnE [99, 111, 110, 102, 105, 103] ≠ 0 := ln_n (by decide)
def badL : List (List UInt8) := [[105, 110, 102, 111, 32, 49, 54, 32, 49], [105, 110, 102, 111, 32, 51], [73, 110, 102, 111, 32, 51, 32, 49], [105, 110, 102, 111, 32, 51, 32, 49, 32], [105, 110, 102, 111, 32, 32, 51, 32, 49], [99, 111, 110, 102, 105, 103, 32, 109, 97, 112, 32, 48, 32, 49, 32, 49], [99, 111, 110, 102, 105, 103, 32, 109, 97, 112, 32, 56, 32, 49, 32, 49, 32, 109, 101, 109, 111, 32, 99, 117, 116], [99, 111, 110, 102, 105, 103, 32, 116, 114, 101, 101, 32, 56, 32, 49, 32, 49], [99, 111, 110, 102, 105, 103, 32, 109, 97, 112, 32, 56, 32, 49], [99, 111, 110, 102, 105, 103, 32, 109, 97, 112, 32, 56, 32, 49, 32, 49, 32, 109, 101, 109, 111, 32, 109, 101, 109, 111], [99, 111, 109, 109, 105, 116, 32, 49, 32, 57, 32, 52, 44], [99, 111, 109, 109, 105, 116, 32, 49, 32, 57, 32, 44, 52], [99, 111, 109, 109, 105, 116, 32, 49, 32, 57, 32, 48, 52], [98, 101, 103, 105, 110, 32, 49, 32, 57], [98, 101, 103, 105, 110, 32, 49, 32, 57, 32, 114, 101, 97, 100], [98, 101, 103, 105, 110, 32, 49, 32, 57, 32, 114, 101, 97, 100, 32, 56], [98, 101, 103, 105, 110, 32, 49, 32, 57, 32, 97, 112, 112, 101, 110, 100, 32, 49], [98, 101, 103, 105, 110, 32, 49, 32, 57, 32, 119, 114, 105, 116, 101, 32, 49, 32, 50], [114, 101, 116, 117, 114, 110, 32, 49, 32, 57], [114, 101, 116, 117, 114, 110, 32, 49, 32, 57, 32, 118, 97, 108, 117, 101], [114, 101, 116, 117, 114, 110, 32, 49, 32, 57, 32, 89, 101, 115], [105, 110, 118, 111, 107, 101, 32, 49, 32, 57, 32, 114, 101, 97, 100], [105, 110, 118, 111, 107, 101, 32, 49, 32, 57, 32, 48, 32, 114, 101, 97, 100, 115], [97, 98, 111, 114, 116, 32, 48, 32, 54, 53, 53, 51, 54], [97, 98, 111, 114, 116, 32, 48, 32, 45, 49], [105, 110, 102, 111, 32, 43, 51, 32, 49], [120, 32, 49, 32, 50], [99, 111, 110, 102, 105, 103]]
theorem badL_ok (k : Nat) (h : k < 28) : lnE (badL.getD k []) ≠ 0 ∧ (badL.getD k []).length ≤ 1000000 := by
  rcases (by omega : k = 0 ∨ k = 1 ∨ k = 2 ∨ k = 3 ∨ k = 4 ∨ k = 5 ∨ k = 6 ∨ k = 7 ∨ k = 8 ∨ k = 9 ∨ k = 10 ∨ k = 11 ∨ k = 12 ∨ k = 13 ∨ k = 14 ∨ k = 15 ∨ k = 16 ∨ k = 17 ∨ k = 18 ∨ k = 19 ∨ k = 20 ∨ k = 21 ∨ k = 22 ∨ k = 23 ∨ k = 24 ∨ k = 25 ∨ k = 26 ∨ k = 27) with rfl | rfl | rfl | rfl | rfl | rfl | rfl | rfl | rfl | rfl | rfl | rfl | rfl | rfl | rfl | rfl | rfl | rfl | rfl | rfl | rfl | rfl | rfl | rfl | rfl | rfl | rfl | rfl
  · exact ⟨kbad_0, by decide⟩
  · exact ⟨kbad_1, by decide⟩
  · exact ⟨kbad_2, by decide⟩
  · exact ⟨kbad_3, by decide⟩
  · exact ⟨kbad_4, by decide⟩
  · exact ⟨kbad_5, by decide⟩
  · exact ⟨kbad_6, by decide⟩
  · exact ⟨kbad_7, by decide⟩
  · exact ⟨kbad_8, by decide⟩
  · exact ⟨kbad_9, by decide⟩
  · exact ⟨kbad_10, by decide⟩
  · exact ⟨kbad_11, by decide⟩
  · exact ⟨kbad_12, by decide⟩
  · exact ⟨kbad_13, by decide⟩
  · exact ⟨kbad_14, by decide⟩
  · exact ⟨kbad_15, by decide⟩
  · exact ⟨kbad_16, by decide⟩
  · exact ⟨kbad_17, by decide⟩
  · exact ⟨kbad_18, by decide⟩
  · exact ⟨kbad_19, by decide⟩
  · exact ⟨kbad_20, by decide⟩
  · exact ⟨kbad_21, by decide⟩
  · exact ⟨kbad_22, by decide⟩
  · exact ⟨kbad_23, by decide⟩
  · exact ⟨kbad_24, by decide⟩
  · exact ⟨kbad_25, by decide⟩
  · exact ⟨kbad_26, by decide⟩
  · exact ⟨kbad_27, by decide⟩
theorem kx_lnE : lnE [120] ≠ 0 := ln_n (by decide)
theorem rd_1 : rdS [] 0 (lnsOf [105, 110, 102, 111, 32, 48, 32, 49, 10, 10, 120]) = ([], 2, 4) := by
  have h : lnsOf [105, 110, 102, 111, 32, 48, 32, 49, 10, 10, 120] = [[105, 110, 102, 111, 32, 48, 32, 49], [], [120]] := by decide
  obtain ⟨h1, h2⟩ := ln_yes ki2_in ki2_good ki2_line
  rw [h, rdS, if_pos h2, rdS, if_neg ln_e2]; rfl
theorem rd_2 : rdS [] 0 (lnsOf [105, 110, 102, 111, 32, 48, 32, 49]) = ([ki2], 1, 0) := by
  have h : lnsOf [105, 110, 102, 111, 32, 48, 32, 49] = [[105, 110, 102, 111, 32, 48, 32, 49]] := by decide
  obtain ⟨h1, h2⟩ := ln_yes ki2_in ki2_good ki2_line
  rw [h, rdS, if_pos h2, rdS, h1]; rfl
theorem rd_3 : rdS [] 0 (lnsOf []) = ([], 0, 0) := rfl
theorem rd_4 : rdS [] 0 (lnsOf [10]) = ([], 1, 4) := by
  have h : lnsOf [10] = [[]] := by decide
  rw [h, rdS, if_neg ln_e2]; rfl
def kx16 : Ev := { evZero with k := 4, c := 16 }
def kx9 : Ev := { evZero with k := 9 }
theorem bad6_by {x : Ev} (h : (evKind x.k && decide (x.c < 16) && evFits x) = false) : evGood x = false := by unfold evGood; rw [h]; rfl
theorem kx16_in : kx16.In := in6_by (by decide) (by decide) (by decide) (by decide)
theorem kx9_in : kx9.In := in6_by (by decide) (by decide) (by decide) (by decide)
theorem kx16_bad : evGood kx16 = false := bad6_by (by decide)
theorem kx9_bad : evGood kx9 = false := bad6_by (by decide)
theorem wr_1 : wrX [ki0, kx9] = [] ∧ wrE [ki0, kx9] = 4 := by
  have : [ki0, kx9].all evGood = false := by simp [kx9_bad]
  unfold wrX wrE; rw [this]; exact ⟨rfl, rfl⟩
theorem wr_2 : wrX [ki0, ka2] = [105, 110, 102, 111, 32, 48, 32, 48, 10, 97, 98, 111, 114, 116, 32, 48, 32, 50, 10] ∧ wrE [ki0, ka2] = 0 := by
  have : [ki0, ka2].all evGood = true := by simp [ki0_good, ka2_good]
  unfold wrX wrE; rw [this, if_pos rfl, if_pos rfl]
  refine ⟨?_, rfl⟩
  show evLine ki0 ++ 10 :: (evLine ka2 ++ 10 :: []) = _
  rw [ki0_line, ka2_line]; rfl
theorem kb_mics (w : World) : Mics (w.alloc (.cells #[.bool true, .int .u8 2, .int .u16 0, .bool false, .int .u8 2, .int .u16 6] 56)).heap.size (w.alloc (.cells #[.bool true, .int .u8 2, .int .u16 0, .bool false, .int .u8 2, .int .u16 6] 56)) (.slice (some ⟨w.heap.size, 0, none⟩) 2 2) kb1.t := by
  have h := heap_alloc_new w (.cells #[.bool true, .int .u8 2, .int .u16 0, .bool false, .int .u8 2, .int .u16 6] 56)
  refine ⟨_, 2, rfl, by decide, by decide, fun _ => ⟨_, _, rfl, lt_of_block h, fun j m hj => ?_⟩⟩
  generalize w.alloc (.cells #[.bool true, .int .u8 2, .int .u16 0, .bool false, .int .u8 2, .int .u16 6] 56) = W at *
  generalize w.heap.size = b at *
  match j, hj with
  | 0, hj => simp [kb1] at hj; subst hj; simp [World.cell?, h]
  | 1, hj => simp [kb1] at hj; subst hj; simp [World.cell?, h]
/-- A slice literal of two events. -/
theorem fill_ev2 (x y : Ev) (tx rd ty ry : Value) (cells : Array Value) (h : cells.size = 38) : Instr.fill (fun i => some (i * 19, 19)) cells [(0, .agg (evC x tx rd)), (1, .agg (evC y ty ry))] = some (evsC [(x, tx, rd), (y, ty, ry)]).toArray := by
  have := Great.fill_whole (s := 19) (by decide) [.agg (evC x tx rd), .agg (evC y ty ry)] cells (by intro v hv; simp at hv; rcases hv with rfl | rfl <;> rfl) (by simp [h])
  exact this
theorem wpList_build_evs2 {ops : Array Oper} {rest : List Oper} {a : Act} {w : World} {Q : Exit → Act → World → Prop} {dst : Option Tmp} {ty : TypeId} {pos : String} {after : Array Edge} {u v : Operand} (x y : Ev) (tx rd ty' ry : Value)
    (hu : a.eval u = .agg (evC x tx rd)) (hv : a.eval v = .agg (evC y ty' ry))
    (h : wpList Tryz.prog ops Q rest (a.put dst (.slice (some ⟨w.heap.size, 0, none⟩) 2 2)) (w.alloc (.cells (evsC [(x, tx, rd), (y, ty', ry)]).toArray 32))) :
    wpList Tryz.prog ops Q ({ dst := dst, op := .buildSlice 44 2 #[(0, u), (1, v)], type := ty, pos := pos, after := after, guard := none } :: rest) a w := by
  obtain ⟨i0, hi, hz0, hz1, hz2⟩ := info_parts Tryz.infoE
  refine wpList_buildSlice rfl 44 32 2 #[(0, u), (1, v)] rfl (evsC [(x, tx, rd), (y, ty', ry)]).toArray i0 _ Tryz.underlying44 hi hz0 (by rw [hz1]; decide) (by rw [hz1]; decide) ?_ h
  rw [hz1]
  have e : (#[(0, u), (1, v)].map fun (i, z) => (i, a.eval z)).toList = [(0, a.eval u), (1, a.eval v)] := by simp
  rw [e, hu, hv]
  exact fill_ev2 x y tx rd ty' ry _ (by simp)
theorem evs_two (w : World) (x y : Ev) (hx : x.t = [] ∧ x.r = []) (hy : y.t = [] ∧ y.r = []) : Evs (w.alloc (.cells (evsC [(x, .slice none 0 0, .slice none 0 0), (y, .slice none 0 0, .slice none 0 0)]).toArray 32)).heap.size (w.alloc (.cells (evsC [(x, .slice none 0 0, .slice none 0 0), (y, .slice none 0 0, .slice none 0 0)]).toArray 32)) (.slice (some ⟨w.heap.size, 0, none⟩) 2 2) [x, y] := by
  have h := heap_alloc_new w (.cells (evsC [(x, .slice none 0 0, .slice none 0 0), (y, .slice none 0 0, .slice none 0 0)]).toArray 32)
  generalize hL : [(x, Value.slice none 0 0, Value.slice none 0 0), (y, Value.slice none 0 0, Value.slice none 0 0)] = L at *
  have hat : ∀ (z : Ev) (N : Nat) (W : World), z.t = [] ∧ z.r = [] → EvAt N W (.slice none 0 0) (.slice none 0 0) z := fun z N W hz => ⟨by rw [hz.1]; exact Mics.nil _ _, by rw [hz.2]; exact Lists.nil _ _⟩
  refine ⟨_, 2, rfl, by simp, by decide, fun _ => ⟨_, _, rfl, lt_of_block h, fun j hj => ⟨.slice none 0 0, .slice none 0 0, ?_, ?_⟩⟩⟩
  · rcases (by change j < 2 at hj; omega : j = 0 ∨ j = 1) with rfl | rfl
    · exact hat x _ _ hx
    · exact hat y _ _ hy
  · intro i u hi
    have hget : (evsC L)[j * 19 + i]? = some u := by
      rcases (by change j < 2 at hj; omega : j = 0 ∨ j = 1) with rfl | rfl
      · exact evsC_get L 0 (x, .slice none 0 0, .slice none 0 0) (by rw [← hL]; rfl) i u hi
      · exact evsC_get L 1 (y, .slice none 0 0, .slice none 0 0) (by rw [← hL]; rfl) i u hi
    simp only [World.cell?, h, Nat.zero_add]
    simpa using hget
end Go.Proofs.YtiljdehhjiahdaaGreatDoor
