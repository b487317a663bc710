/-
  A slice literal of one event.
-/
import Derived.Great.BuildSlice
import Derived.Test.YtffldnjjijckcaaGreatDoorR41
import Derived.Test.YtffldnjjijckcaaGreatDoorR36
import Derived.Test.YtffldnjjijckcaaGreatDoorR28
set_option linter.unusedSimpArgs false
set_option linter.unusedVariables false
namespace Go.Proofs.YtffldnjjijckcaaGreatDoor
open Go.RowKit
theorem fill_ev (x : Ev) (tx rd : Value) (cells : Array Value) (h : cells.size = 19) : Instr.fill (fun i => some (i * 19, 19)) cells [(0, .agg (evC x tx rd))] = some (evC x tx rd) := by
  have := Great.fill_whole (s := 19) (by decide) [.agg (evC x tx rd)] cells (by intro v hv; simp at hv; subst hv; rfl) (by simp [h])
  exact this
theorem wpList_build_evs {ops : Array Oper} {rest : List Oper} {a : Act} {w : World} {Q : Exit → Act → World → Prop} {dst : Option Tmp} {ty : TypeId} {pos : String} {after : Array Edge} {y : Operand} {x : Ev} {tx rd : Value}
    (hy : a.eval y = .agg (evC x tx rd))
    (h : wpList Tryz.prog ops Q rest (a.put dst (.slice (some ⟨w.heap.size, 0, none⟩) 1 1)) (w.alloc (.cells (evC x tx rd) 32))) :
    wpList Tryz.prog ops Q ({ dst := dst, op := .buildSlice 46 1 #[(0, y)], type := ty, pos := pos, after := after, guard := none } :: rest) a w := by
  obtain ⟨i0, hi, hz0, hz1, hz2⟩ := info_parts Tryz.infoE
  refine wpList_buildSlice rfl 46 32 1 #[(0, y)] rfl (evC x tx rd) i0 _ Tryz.underlying46 hi hz0 (by rw [hz1]; decide) (by rw [hz1]; decide) ?_ h
  rw [hz1]
  have e : (#[(0, y)].map fun (i, z) => (i, a.eval z)).toList = [(0, a.eval y)] := by simp
  rw [e, hy]
  exact fill_ev x tx rd _ (by simp)
end Go.Proofs.YtffldnjjijckcaaGreatDoor
/-
  The program's Read.
-/
namespace Go.Proofs.YtffldnjjijckcaaGreatDoor
open Go.RowKit
def strSz (v : Value) : Nat := match v with
  | .string s => s.size
  | _ => 0
def EvOk (wr : World) (v : Value) (p : Ev × Value × Value) : Prop :=
  ∃ base Wk, EvKeeps base Wk p.2.1 p.2.2 p.1 ∧ Keeps (List.range base) Wk wr ∧ (∀ q ∈ own v, q < base ∨ Wk.heap.size ≤ q)
theorem EvOk.at {wr : World} {v : Value} {p : Ev × Value × Value} (h : EvOk wr v p) : EvAt wr.heap.size wr p.2.1 p.2.2 p.1 := by
  obtain ⟨base, Wk, h1, h2, _⟩ := h
  exact h1 _ _ h2 (by simp)
theorem EvOk.step {wr wr' : World} {v v' : Value} {p : Ev × Value × Value} (h : EvOk wr v p) (hk : Keeps (own v) wr wr') (hf : FSub (own v') (own v) wr.heap.size) : EvOk wr' v' p := by
  obtain ⟨base, Wk, h1, h2, h3⟩ := h
  refine ⟨base, Wk, h1, h2.trans hk (fun q hq => ?_), fun q hq => ?_⟩
  · rcases h3 q hq with h | h
    · exact .inl (by simp [h])
    · exact .inr h
  · rcases hf q hq with h | h
    · exact h3 q h
    · exact .inr (Nat.le_trans h2.size h)
theorem rowE_evs {w : World} {base : Nat} {v : Value} {L : EvL} (h : RowE base w v L) (hok : ∀ p ∈ L, EvOk w v p) : Evs w.heap.size w v (L.map (·.1)) := by
  have hlm : (L.map (·.1)).length = L.length := List.length_map ..
  rcases h.2 with ⟨rfl, hn⟩ | ⟨g, cap, cur, rfl, _, hh, hc, hm, hcs, htk⟩
  · have : L = [] := List.eq_nil_of_length_eq_zero hn
    subst this
    exact ⟨none, 0, rfl, by simp, by decide, fun h => absurd rfl h⟩
  · refine ⟨some ⟨g, 0, none⟩, cap, by rw [hlm], by omega, by unfold maxLen at hm; omega, fun _ => ⟨g, 0, rfl, lt_of_block hh, fun j hj => ?_⟩⟩
    have hjl : j < L.length := by omega
    have hget : L[j]? = some L[j] := List.getElem?_eq_getElem hjl
    have hD : (L.map (·.1)).getD j evZero = L[j].1 := by simp [List.getD, hjl]
    refine ⟨L[j].2.1, L[j].2.2, ?_, ?_⟩
    · rw [hD]; exact (hok _ (List.getElem_mem hjl)).at
    · rw [hD]
      intro i u hi
      have h2 := evsC_get L j L[j] hget i u hi
      rw [← htk, List.getElem?_take] at h2
      split at h2
      · simp only [World.cell?, hh, Nat.zero_add]
        simpa using h2
      · cases h2
theorem Cut10_any (w : World) (hG : Glob6 w) (s : List UInt8) (hs : s.length ≤ 100000000) :
    Calls Tryz.prog 42 #[.string (bs s), .string ⟨#[10]⟩] w fun e w' => e = .returned (.tuple #[.string (bs (Lib.cut s [10]).1), .string (bs (Lib.cut s [10]).2.1), .bool (Lib.cut s [10]).2.2]) ∧ Keeps [] w w' := by
  obtain ⟨m, hm⟩ := hG.r.ml
  have hsz := bs_size s
  refine (Tryz.strings_Cut (bs s) ⟨#[10]⟩ m w (by omega) hm).mono ?_
  rintro e w' ⟨he, n, rfl⟩
  have h1 : (bs s).data.toList = s := by simp [bs]
  rw [h1] at he
  exact ⟨he, (Keeps.refl _ _).drewN n⟩
structure RdInv (s : List UInt8) (w0 : World) (cur : List UInt8) (v : Value) (k : Nat) (L : EvL) (wr : World) : Prop where
  kp : Keeps [] w0 wr
  row : RowE w0.heap.size wr v L
  ok : ∀ p ∈ L, EvOk wr v p
  eq : rdS [] 0 (lnsOf s) = rdS (L.map (·.1)) k (lnsOf cur)
  ln : ∀ x ∈ lnsOf cur, x.length ≤ 1000000
  num : L.length + cur.length ≤ s.length
  kk : k = L.length
def RdPost (s : List UInt8) (w : World) (e : Ending) (W : World) : Prop :=
  ∃ v, e = .returned (.tuple #[v, .int .i64 (rdS [] 0 (lnsOf s)).2.1, .int .i64 (rdS [] 0 (lnsOf s)).2.2]) ∧ Evs W.heap.size W v (rdS [] 0 (lnsOf s)).1 ∧ Keeps [] w W
set_option maxHeartbeats 8000000 in
set_option maxRecDepth 100000 in
theorem txRead_any (w : World) (hG : Glob6 w) (s : List UInt8) (hs : s.length ≤ 100000000) (hl : ∀ x ∈ lnsOf s, x.length ≤ 1000000) : Calls Tryz.prog 13 #[.string (bs s)] w (RdPost s w) := by
  have HI : Hid (RdInv s w s (.slice none 0 0) 0 [] w) := Lib.hid ⟨Keeps.refl _ _, ⟨rfl, .inl ⟨rfl, rfl⟩⟩, by simp, rfl, hl, by simp, rfl⟩
  have HG := Lib.hid hG
  clear hG hl
  go_enter Tryz.func13, Tryz.ntmps13
  go_wp2_with fail
  go_loopw [0, 2, 3] (fun a b c wr => ∃ (cur : List UInt8) (k : Nat) (L : EvL), a = .string (bs cur) ∧ c = .int .i64 k ∧ RdInv s w cur b k L wr) (fun a _ _ _ => strSz a)
  case atStart => exact ⟨s, 0, [], rfl, rfl, HI.out⟩
  case round =>
    clear HI
    obtain ⟨cur, k, L, rfl, rfl, hI⟩ := hrel
    have HI := Lib.hid hI
    clear hI
    have hkb : (k : Int) ≤ 100000000 := by have := HI.out.kk; have := HI.out.num; omega
    by_cases hc : cur = []
    · have hs0 : (bs cur).toList.isEmpty = true := by rw [toL_bs, hc]; rfl
      have heq := HI.out.eq
      rw [hc] at heq
      have HEQ := Lib.hid heq
      have HEV := Lib.hid (rowE_evs HI.out.row HI.out.ok)
      clear heq hc
      generalize bs cur = S at *
      go_wp2_with fail
      go_ret3
      refine ⟨u2, ?_, ?_, HI.out.kp⟩
      · rw [HEQ.out]; rfl
      · rw [HEQ.out]; exact HEV.out
    · have hs0 : (bs cur).toList.isEmpty = false := by
        rw [toL_bs]
        cases cur with
        | nil => exact absurd rfl hc
        | cons a l => rfl
      obtain ⟨hlns, hsh⟩ := cut_lns hc
      have hcurz : cur.length ≤ 100000000 := by have := HI.out.num; omega
      have hG1 := HG.out.new HI.out.kp
      have hcut := Cut10_any wr hG1 cur hcurz
      have hln := HI.out.ln
      have heq := HI.out.eq
      rw [hlns] at hln heq
      have hf1 := hln _ List.mem_cons_self
      have hln2 : ∀ x ∈ lnsOf (Lib.cut cur [10]).2.1, x.length ≤ 1000000 := fun x hx => hln x (by simp [hx])
      have hsz2 : (bs cur).size = cur.length := bs_size cur
      have hsz3 : (bs (Lib.cut cur [10]).2.1).size = (Lib.cut cur [10]).2.1.length := bs_size _
      clear hln hlns hc
      generalize (Lib.cut cur [10]).1 = F1 at *
      generalize (Lib.cut cur [10]).2.1 = C2 at *
      generalize (Lib.cut cur [10]).2.2 = B2 at *
      have hpar := fun w hG M hM => txParse_fresh w hG F1 hf1 M hM
      have HCUT := Lib.hid hcut; have HPAR := Lib.hid hpar; have HEQ := Lib.hid heq; have HLN2 := Lib.hid hln2; have HG1 := Lib.hid hG1
      have HZ := Lib.hid (And.intro hsz2 hsz3)
      have HSH := Lib.hid hsh
      clear hcut hpar heq hln2 hG1 hf1 hsz2 hsz3 hsh
      generalize bs cur = S at *
      generalize hS2 : bs C2 = S2 at *
      have HS2 := Lib.hid hS2
      clear hS2
      generalize bs F1 = SF at *
      go_wp2_with fail
      refine HCUT.out.mono ?_; rintro z w1 ⟨rfl, hk1⟩
      have HK1 := Lib.hid hk1
      have HG2 := Lib.hid (HG1.out.new hk1)
      clear hk1 HCUT HG1
      go_wp2_with fail
      refine (HPAR.out w1 HG2.out w1.heap.size (Nat.le_refl _)).mono ?_; rintro z w2 ⟨tx, rd, rfl, hek, hk2⟩
      have hx := hek [] w2 (Keeps.refl _ _) (by simp)
      have hx1 := hx.t.one
      have hx2 := hx.r.one
      have HEK := Lib.hid hek; have HK2 := Lib.hid hk2
      have HKA := Lib.hid ((Keeps.refl [] w2).alloc (.cells #[.int .u8 0, .int .u8 0, .int .u16 0, .int .u8 0, .int .u8 0, .int .u8 0, .int .u16 0, .int .u16 0, .int .u8 0, .int .u16 0, .slice none 0 0, .slice none 0 0, .int .u8 0, .int .i64 0, .int .i64 0, .int .i64 0, .bool false, .bool false, .bool false] 32))
      clear hx hek hk2 HPAR
      have h2 := lnE_two F1
      generalize hX : lnX F1 = X at *
      generalize hE : lnE F1 = E at *
      have HX := Lib.hid hX; have HE := Lib.hid hE
      clear hX hE
      go_wp2_with ((with_reducible apply wpList_put_ev); exact rfl; exact rfl; (first | assumption | (refine heap_alloc_lt ?_; assumption) | (refine heap_alloc_lt (heap_alloc_lt ?_); assumption) | exact heap_alloc_at (by simp)); exact ⟨rfl, rfl⟩; (refine evC_one _ ?_ ?_ <;> first | rfl | assumption))
      intro W3 hb3 hk3
      have HK3 := Lib.hid (HKA.out.trans hk3 (fun q hq => .inr (by simp at hq; omega)) : Keeps [] w2 W3)
      clear hk3 HKA
      generalize w2.heap.size = c at *
      have hq3 : Keeps [] wr W3 := (HK1.out.trans HK2.out (FSub.refl _ _)).trans HK3.out (FSub.refl _ _)
      have HQ3 := Lib.hid hq3
      have HROW3 := Lib.hid (row_old HI.out.row hq3 (by simp))
      clear hq3
      rcases h2 with rfl | rfl
      · obtain ⟨v', w4, hr4, ho4, hk4, hf4⟩ := append_ev W3 w.heap.size (by have := HI.out.kp.size; have := HQ3.out.size; omega) u2 L HROW3.out (by have := HI.out.num; omega) X tx rd hx1 hx2
        have HO4 := Lib.hid ho4; have HK4 := Lib.hid hk4; have HF4 := Lib.hid hf4
        have HR4 := Lib.hid hr4
        clear ho4 hk4 hf4 hr4
        go_wp2_with (first | ((with_reducible apply wpList_load_ev); exact rfl; exact hb3; exact rfl) | ((with_reducible apply wpList_build_evs); exact rfl) | (at_builtin; refine wpList_append_run rfl _ _ 46 rfl _ _ _ _ rfl rfl HR4.out ?_))
        go_roundw
        case rel =>
          refine ⟨C2, k + 1, L ++ [(X, tx, rd)], by rw [HS2.out], by go_num, ?_⟩
          have hown : ∀ q ∈ own u2, q < wr.heap.size := fun q hq => (row_base HI.out.row q hq).2
          refine ⟨(HI.out.kp.trans HQ3.out (FSub.refl _ _)).trans HK4.out (fun q hq => .inr (row_base HI.out.row q hq).1), HO4.out, ?_, ?_, HLN2.out, ?_, ?_⟩
          · intro p hp
            rcases List.mem_append.1 hp with hp | hp
            · exact ((HI.out.ok p hp).step (HQ3.out.more (by simp)) (FSub.refl _ _)).step HK4.out HF4.out
            · simp at hp
              subst hp
              refine ⟨w1.heap.size, w2, HEK.out, (HK3.out.more (G := List.range w1.heap.size) (by simp)).trans HK4.out (fun q hq => .inl ?_), fun q hq => ?_⟩
              · have := hown q hq; have := HK1.out.size; simp; omega
              · rcases HF4.out q hq with h | h
                · have := hown q h; have := HK1.out.size; exact .inl (by omega)
                · exact .inr (Nat.le_trans HK3.out.size h)
          · rw [HEQ.out]
            simp [rdS, HE.out, HX.out]
          · have := HI.out.num; have := HSH.out; simp; omega
          · have := HI.out.kk; simp; omega
        case measure => simp [strSz]; have := HZ.out; have := HSH.out; omega
      · go_wp2_with fail
        go_ret3
        refine ⟨.slice none 0 0, ?_, ?_, HI.out.kp.trans HQ3.out (FSub.refl _ _)⟩
        · rw [HEQ.out]; simp [rdS, HE.out]
        · rw [HEQ.out]
          have : (rdS (L.map fun x => x.1) (↑k) (F1 :: lnsOf C2)).1 = [] := by simp [rdS, HE.out]
          rw [this]
          exact ⟨none, 0, rfl, by simp, by decide, fun h => absurd rfl h⟩
end Go.Proofs.YtffldnjjijckcaaGreatDoor
/-
  The document's Read.
-/
namespace Go.Proofs.YtffldnjjijckcaaGreatDoor
open Go.RowKit
/-- A script's lines: the last one goes if it is empty. -/
def trimL (l : Wds) : Wds := if l.getD (l.length - 1) [] = [] then l.take (l.length - 1) else l
theorem lns_cut : ∀ s, lnsOf s = trimL (cutAt 10 s) := by
  refine cut_rec 10 (P := fun s => lnsOf s = trimL (cutAt 10 s)) ?_ ?_
  · intro s h
    rw [cutAt_free 10 s h]
    by_cases h0 : s = []
    · subst h0; rfl
    · rw [lnsOf_last s h h0]
      unfold trimL
      rw [if_neg (by simpa using h0)]
  · intro w r h ih
    rw [lnsOf_line w r h, cutAt_hit 10 w r h, ih]
    have hp := cutAt_pos 10 r
    generalize cutAt 10 r = l at *
    unfold trimL
    have hg : (w :: l).getD ((w :: l).length - 1) [] = l.getD (l.length - 1) [] := by
      rw [List.length_cons, show l.length + 1 - 1 = (l.length - 1) + 1 by omega]; rfl
    rw [hg]
    split
    · rw [List.length_cons, show l.length + 1 - 1 = (l.length - 1) + 1 by omega, List.take_succ_cons]
    · rfl
structure R6RdInv (l : Wds) (w0 : World) (v : Value) (k : Nat) (L : EvL) (wr : World) : Prop where
  kp : Keeps [] w0 wr
  row : RowE w0.heap.size wr v L
  ok : ∀ p ∈ L, EvOk wr v p
  eq : rdS [] 0 l = rdS (L.map (·.1)) k (l.drop k)
  kk : L.length = k
def R6RdPost (s : List UInt8) (w : World) (e : Ending) (W : World) : Prop :=
  ∃ v, e = .returned (.tuple #[v, .int .i64 (rdS [] 0 (lnsOf s)).2.1, .int .i64 (rdS [] 0 (lnsOf s)).2.2]) ∧ Evs W.heap.size W v (rdS [] 0 (lnsOf s)).1 ∧ Keeps [] w W
theorem R6RdPost.of {s : List UInt8} {w W : World} {l : Wds} {E : List Ev} {n e : Int} (h : lnsOf s = l) (h2 : rdS [] 0 l = (E, n, e)) {v : Value} (hv : Evs W.heap.size W v E) (hk : Keeps [] w W) : R6RdPost s w (.returned (.tuple #[v, .int .i64 n, .int .i64 e])) W := by
  unfold R6RdPost
  rw [h, h2]
  exact ⟨v, rfl, hv, hk⟩
theorem drop_line {l : Wds} {k : Nat} (h : k < l.length) : l.drop k = l.getD k [] :: l.drop (k + 1) := by
  rw [List.getD_eq_getElem?_getD, List.getElem?_eq_getElem h]
  exact List.drop_eq_getElem_cons h
set_option maxHeartbeats 16000000 in
set_option maxRecDepth 100000 in
theorem r6Read_any (w : World) (s : List UInt8) (hs : s.length ≤ 80000) : Calls Tryz.prog 14 #[.string (bs s)] w (R6RdPost s w) := by
  have hcut := fun w => r6Cut_any w s 10 (by omega)
  unfold Words6 at hcut
  have hll := cut_len_le 10 s
  have hpl := cut_part_le 10 s
  have hpos := cutAt_pos 10 s
  have hln := lns_cut s
  generalize cutAt 10 s = L0 at *
  have HCT := Lib.hid hcut; have HPL := Lib.hid hpl; have HLNS := Lib.hid hln
  clear hcut hpl hln
  go_enter Tryz.func14, Tryz.ntmps14
  go_wp2_with fail
  refine (HCT.out _).mono ?_; rintro z w1 ⟨v1, rfl, hrow1, hk1⟩
  have hst1 := Strs.row (row_up (b2 := 0) hrow1 (fun _ _ => Nat.zero_le _))
  obtain ⟨a1, c1, rfl, hc1, hm1⟩ := hst1.shape
  have hne : L0 ≠ [] := fun e => by rw [e] at hpos; simp at hpos
  obtain ⟨-, -, -, bk, o, rfl, hbN, hcell, -⟩ := hst1.at hne
  have HK1 := Lib.hid hk1
  have HCL := Lib.hid hcell
  have hlast := hcell (L0.length - 1) (by omega)
  have hbkn : bk < w1.heap.size := hbN
  clear hk1 hrow1 hst1 hcell hne HCT
  generalize hn : L0.length = n at *
  have HN := Lib.hid hn
  clear hn
  have hq1 : ((n : Int) - 1).toNat = n - 1 := by omega
  by_cases hz : L0.getD (n - 1) [] = []
  · have ht : trimL L0 = L0.take (n - 1) := by unfold trimL; rw [HN.out, if_pos hz]
    have t1 : (bs (L0.getD (n - 1) [])).toList.isEmpty = true := by rw [toL_bs, hz]; rfl
    generalize bs (L0.getD (n - 1) []) = X at *
    go_wp2_with fail
    generalize hm : n - 1 = m at *
    have hlns := HLNS.out.trans ht
    have hlm : (L0.take m).length = m := by rw [List.length_take, HN.out]; omega
    have hcl : ∀ j, j < m → w1.cell? ⟨bk, o + j, none⟩ = some (.string (bs ((L0.take m).getD j []))) := by
      intro j hj
      have := HCL.out j (by omega)
      rw [List.getD_eq_getElem?_getD] at this ⊢
      rw [List.getElem?_take_of_lt hj]
      exact this
    have hpl2 : ∀ p ∈ L0.take m, p.length ≤ s.length := fun p hp => HPL.out p (List.mem_of_mem_take hp)
    have hmc : m ≤ 90000 := by omega
    clear ht
    generalize L0.take m = l at *
    have HCL2 := Lib.hid hcl; have HLM := Lib.hid hlm; have HPL2 := Lib.hid hpl2; have HLN := Lib.hid hlns
    clear hcl hlm hpl2 hlns HCL hlast t1 HLNS
    have H0 : Hid (R6RdInv l w1 (.slice none 0 0) 0 [] w1) := Lib.hid ⟨Keeps.refl _ _, ⟨rfl, .inl ⟨rfl, rfl⟩⟩, by simp, rfl, rfl⟩
    go_loopw [6, 7] (fun v i wr => ∃ (k : Nat) (L : EvL), i = .int .i64 k ∧ k ≤ m ∧ R6RdInv l w1 v k L wr) (fun _ i _ => m - (intOf i).toNat)
    case atStart => exact ⟨0, [], rfl, by omega, H0.out⟩
    case round =>
      clear H0
      obtain ⟨k, L, rfl, hkm, hI⟩ := hrel
      have HI := Lib.hid hI
      clear hI
      by_cases hlt : k < m
      · have hkl : k < l.length := by have := HLM.out; omega
        have hx := HI.out.kp.cell (HCL2.out k hlt) (by simp)
        have hdl := drop_line hkl
        have hf1 := HPL2.out (l.getD k []) (by rw [List.getD_eq_getElem?_getD, List.getElem?_eq_getElem hkl]; exact List.getElem_mem hkl)
        have heq := HI.out.eq
        rw [hdl] at heq
        generalize l.getD k [] = F1 at *
        have hpar := r6Parse_any wr F1 (by omega)
        unfold R6ParsePost at hpar
        have HPAR := Lib.hid hpar; have HEQ := Lib.hid heq
        have hk0 : (0 : Int) ≤ k := by omega
        have hkm2 : k < m := hlt
        clear hpar heq hdl hf1 hkl
        generalize bs F1 = SF at *
        go_wp2_with fail
        refine HPAR.out.mono ?_; rintro z w2 ⟨tx, rd, rfl, hek, hk2⟩
        have hxe := hek [] w2 (Keeps.refl _ _) (by simp)
        have hx1 := hxe.t.one
        have hx2 := hxe.r.one
        have HEK := Lib.hid hek; have HK2 := Lib.hid hk2
        have HKA := Lib.hid ((Keeps.refl [] w2).alloc (.cells #[.int .u8 0, .int .u8 0, .int .u16 0, .int .u8 0, .int .u8 0, .int .u8 0, .int .u16 0, .int .u16 0, .int .u8 0, .int .u16 0, .slice none 0 0, .slice none 0 0, .int .u8 0, .int .i64 0, .int .i64 0, .int .i64 0, .bool false, .bool false, .bool false] 32))
        clear hxe hek hk2 HPAR hx
        have h2 := lnE_two F1
        generalize hX : lnX F1 = X2 at *
        generalize hE : lnE F1 = E at *
        have HX := Lib.hid hX; have HE := Lib.hid hE
        clear hX hE
        go_wp2_with ((with_reducible apply wpList_put_ev); exact rfl; exact rfl; (first | assumption | (refine heap_alloc_lt ?_; assumption) | (refine heap_alloc_lt (heap_alloc_lt ?_); assumption) | exact heap_alloc_at (by simp)); exact ⟨rfl, rfl⟩; (refine evC_one _ ?_ ?_ <;> first | rfl | assumption))
        intro W3 hb3 hk3
        have HK3 := Lib.hid (HKA.out.trans hk3 (fun q hq => .inr (by simp at hq; omega)) : Keeps [] w2 W3)
        clear hk3 HKA
        generalize w2.heap.size = c at *
        have hq3 : Keeps [] wr W3 := HK2.out.trans HK3.out (FSub.refl _ _)
        have HQ3 := Lib.hid hq3
        have HROW3 := Lib.hid (row_old HI.out.row hq3 (by simp))
        clear hq3
        rcases h2 with rfl | rfl
        · obtain ⟨v', w4, hr4, ho4, hk4, hf4⟩ := append_ev W3 w1.heap.size (by have := HI.out.kp.size; have := HQ3.out.size; omega) u6 L HROW3.out (by have := HI.out.kk; omega) X2 tx rd hx1 hx2
          have HO4 := Lib.hid ho4; have HK4 := Lib.hid hk4; have HF4 := Lib.hid hf4
          have HR4 := Lib.hid hr4
          clear ho4 hk4 hf4 hr4
          go_wp2_with (first | ((with_reducible apply wpList_load_ev); exact rfl; exact hb3; exact rfl) | ((with_reducible apply wpList_build_evs); exact rfl) | (at_builtin; refine wpList_append_run rfl _ _ 46 rfl _ _ _ _ rfl rfl HR4.out ?_))
          go_roundw
          case rel =>
            refine ⟨k + 1, L ++ [(X2, tx, rd)], by go_num, by omega, ?_⟩
            have hown : ∀ q ∈ own u6, q < wr.heap.size := fun q hq => (row_base HI.out.row q hq).2
            refine ⟨(HI.out.kp.trans HQ3.out (FSub.refl _ _)).trans HK4.out (fun q hq => .inr (row_base HI.out.row q hq).1), HO4.out, ?_, ?_, ?_⟩
            · intro p hp
              rcases List.mem_append.1 hp with hp | hp
              · exact ((HI.out.ok p hp).step (HQ3.out.more (by simp)) (FSub.refl _ _)).step HK4.out HF4.out
              · simp at hp
                subst hp
                refine ⟨wr.heap.size, w2, HEK.out, (HK3.out.more (G := List.range wr.heap.size) (by simp)).trans HK4.out (fun q hq => .inl ?_), fun q hq => ?_⟩
                · have := hown q hq; simp; omega
                · rcases HF4.out q hq with h | h
                  · exact .inl (hown q h)
                  · exact .inr (Nat.le_trans HK3.out.size h)
            · rw [HEQ.out]
              simp [rdS, HE.out, HX.out]
            · have := HI.out.kk; simp; omega
          case measure => simp [intOf]; omega
        · go_wp2_with fail
          go_ret3
          refine R6RdPost.of HLN.out (E := []) (HEQ.out.trans ?_) ⟨none, 0, rfl, by simp, by decide, fun h => absurd rfl h⟩ ((HK1.out.trans HI.out.kp (FSub.refl _ _)).trans HQ3.out (FSub.refl _ _))
          simp [rdS, HE.out]
      · have hd : l.drop k = [] := List.drop_eq_nil_of_le (by have := HLM.out; omega)
        have heq := HI.out.eq
        rw [hd] at heq
        have hkm2 : k = m := by omega
        have HEQ := Lib.hid heq
        have HEV := Lib.hid (rowE_evs HI.out.row HI.out.ok)
        clear heq hd
        subst hkm2
        go_wp2_with fail
        go_ret3
        exact R6RdPost.of HLN.out (HEQ.out.trans rfl) HEV.out (HK1.out.trans HI.out.kp (FSub.refl _ _))
  · have ht : trimL L0 = L0 := by unfold trimL; rw [HN.out, if_neg hz]
    have t1 : (bs (L0.getD (n - 1) [])).toList.isEmpty = false := by
      rw [toL_bs]
      cases h : L0.getD (n - 1) [] with
      | nil => exact absurd h hz
      | cons a l => rfl
    generalize bs (L0.getD (n - 1) []) = X at *
    go_wp2_with fail
    have hlns := HLNS.out.trans ht
    have hlm := HN.out
    have hcl := HCL.out
    have hpl2 := HPL.out
    have hmc : n ≤ 90000 := by omega
    clear ht
    generalize n = m at *
    generalize L0 = l at *
    have HCL2 := Lib.hid hcl; have HLM := Lib.hid hlm; have HPL2 := Lib.hid hpl2; have HLN := Lib.hid hlns
    clear hcl hlm hpl2 hlns HCL hlast t1 HLNS
    have H0 : Hid (R6RdInv l w1 (.slice none 0 0) 0 [] w1) := Lib.hid ⟨Keeps.refl _ _, ⟨rfl, .inl ⟨rfl, rfl⟩⟩, by simp, rfl, rfl⟩
    go_loopw [6, 7] (fun v i wr => ∃ (k : Nat) (L : EvL), i = .int .i64 k ∧ k ≤ m ∧ R6RdInv l w1 v k L wr) (fun _ i _ => m - (intOf i).toNat)
    case atStart => exact ⟨0, [], rfl, by omega, H0.out⟩
    case round =>
      clear H0
      obtain ⟨k, L, rfl, hkm, hI⟩ := hrel
      have HI := Lib.hid hI
      clear hI
      by_cases hlt : k < m
      · have hkl : k < l.length := by have := HLM.out; omega
        have hx := HI.out.kp.cell (HCL2.out k hlt) (by simp)
        have hdl := drop_line hkl
        have hf1 := HPL2.out (l.getD k []) (by rw [List.getD_eq_getElem?_getD, List.getElem?_eq_getElem hkl]; exact List.getElem_mem hkl)
        have heq := HI.out.eq
        rw [hdl] at heq
        generalize l.getD k [] = F1 at *
        have hpar := r6Parse_any wr F1 (by omega)
        unfold R6ParsePost at hpar
        have HPAR := Lib.hid hpar; have HEQ := Lib.hid heq
        have hk0 : (0 : Int) ≤ k := by omega
        have hkm2 : k < m := hlt
        clear hpar heq hdl hf1 hkl
        generalize bs F1 = SF at *
        go_wp2_with fail
        refine HPAR.out.mono ?_; rintro z w2 ⟨tx, rd, rfl, hek, hk2⟩
        have hxe := hek [] w2 (Keeps.refl _ _) (by simp)
        have hx1 := hxe.t.one
        have hx2 := hxe.r.one
        have HEK := Lib.hid hek; have HK2 := Lib.hid hk2
        have HKA := Lib.hid ((Keeps.refl [] w2).alloc (.cells #[.int .u8 0, .int .u8 0, .int .u16 0, .int .u8 0, .int .u8 0, .int .u8 0, .int .u16 0, .int .u16 0, .int .u8 0, .int .u16 0, .slice none 0 0, .slice none 0 0, .int .u8 0, .int .i64 0, .int .i64 0, .int .i64 0, .bool false, .bool false, .bool false] 32))
        clear hxe hek hk2 HPAR hx
        have h2 := lnE_two F1
        generalize hX : lnX F1 = X2 at *
        generalize hE : lnE F1 = E at *
        have HX := Lib.hid hX; have HE := Lib.hid hE
        clear hX hE
        go_wp2_with ((with_reducible apply wpList_put_ev); exact rfl; exact rfl; (first | assumption | (refine heap_alloc_lt ?_; assumption) | (refine heap_alloc_lt (heap_alloc_lt ?_); assumption) | exact heap_alloc_at (by simp)); exact ⟨rfl, rfl⟩; (refine evC_one _ ?_ ?_ <;> first | rfl | assumption))
        intro W3 hb3 hk3
        have HK3 := Lib.hid (HKA.out.trans hk3 (fun q hq => .inr (by simp at hq; omega)) : Keeps [] w2 W3)
        clear hk3 HKA
        generalize w2.heap.size = c at *
        have hq3 : Keeps [] wr W3 := HK2.out.trans HK3.out (FSub.refl _ _)
        have HQ3 := Lib.hid hq3
        have HROW3 := Lib.hid (row_old HI.out.row hq3 (by simp))
        clear hq3
        rcases h2 with rfl | rfl
        · obtain ⟨v', w4, hr4, ho4, hk4, hf4⟩ := append_ev W3 w1.heap.size (by have := HI.out.kp.size; have := HQ3.out.size; omega) u6 L HROW3.out (by have := HI.out.kk; omega) X2 tx rd hx1 hx2
          have HO4 := Lib.hid ho4; have HK4 := Lib.hid hk4; have HF4 := Lib.hid hf4
          have HR4 := Lib.hid hr4
          clear ho4 hk4 hf4 hr4
          go_wp2_with (first | ((with_reducible apply wpList_load_ev); exact rfl; exact hb3; exact rfl) | ((with_reducible apply wpList_build_evs); exact rfl) | (at_builtin; refine wpList_append_run rfl _ _ 46 rfl _ _ _ _ rfl rfl HR4.out ?_))
          go_roundw
          case rel =>
            refine ⟨k + 1, L ++ [(X2, tx, rd)], by go_num, by omega, ?_⟩
            have hown : ∀ q ∈ own u6, q < wr.heap.size := fun q hq => (row_base HI.out.row q hq).2
            refine ⟨(HI.out.kp.trans HQ3.out (FSub.refl _ _)).trans HK4.out (fun q hq => .inr (row_base HI.out.row q hq).1), HO4.out, ?_, ?_, ?_⟩
            · intro p hp
              rcases List.mem_append.1 hp with hp | hp
              · exact ((HI.out.ok p hp).step (HQ3.out.more (by simp)) (FSub.refl _ _)).step HK4.out HF4.out
              · simp at hp
                subst hp
                refine ⟨wr.heap.size, w2, HEK.out, (HK3.out.more (G := List.range wr.heap.size) (by simp)).trans HK4.out (fun q hq => .inl ?_), fun q hq => ?_⟩
                · have := hown q hq; simp; omega
                · rcases HF4.out q hq with h | h
                  · exact .inl (hown q h)
                  · exact .inr (Nat.le_trans HK3.out.size h)
            · rw [HEQ.out]
              simp [rdS, HE.out, HX.out]
            · have := HI.out.kk; simp; omega
          case measure => simp [intOf]; omega
        · go_wp2_with fail
          go_ret3
          refine R6RdPost.of HLN.out (E := []) (HEQ.out.trans ?_) ⟨none, 0, rfl, by simp, by decide, fun h => absurd rfl h⟩ ((HK1.out.trans HI.out.kp (FSub.refl _ _)).trans HQ3.out (FSub.refl _ _))
          simp [rdS, HE.out]
      · have hd : l.drop k = [] := List.drop_eq_nil_of_le (by have := HLM.out; omega)
        have heq := HI.out.eq
        rw [hd] at heq
        have hkm2 : k = m := by omega
        have HEQ := Lib.hid heq
        have HEV := Lib.hid (rowE_evs HI.out.row HI.out.ok)
        clear heq hd
        subst hkm2
        go_wp2_with fail
        go_ret3
        exact R6RdPost.of HLN.out (HEQ.out.trans rfl) HEV.out (HK1.out.trans HI.out.kp (FSub.refl _ _))
end Go.Proofs.YtffldnjjijckcaaGreatDoor
/-
  TextReads' walk. (Printed by draft/genreads6.py.)
-/
namespace Go.Proofs.YtffldnjjijckcaaGreatDoor
open Go.RowKit
theorem yields_midR {ops : Array Oper} {S : World → Prop} {op : Oper} {a : Act} {x : Operand} {b o : Nat} {e : Ev} {tx rd : Value} (hw : Region.wanted op (yielded ops a.tmps) = true) (ho : op.op = .load 32 x) (hx : a.eval x = .pointer (some ⟨b, o, none⟩))
    (hS : ∀ w, S w → w.rangeAt b o (evC e tx rd).toList) : YieldsIf Tryz.prog ops S op (.agg (evC e tx rd)) a := by
  have := yieldsIf_load_mid (P := Tryz.prog) hw 32 x ho b o hx (evC e tx rd).toList _ hS Tryz.underlying32 rfl (by kernel_rfl)
  rwa [Array.toArray_toList] at this
theorem range_newR {w w' : World} {b o : Nat} {cs : List Value} (h : w.rangeAt b o cs) (hk : Keeps [] w w') (hb : b < w.heap.size) : w'.rangeAt b o cs := rangeAt_same h (hk.same (Nat.le_refl _) (by simp)) hb
theorem lns_len (s : List UInt8) : ∀ x ∈ lnsOf s, x.length ≤ s.length := by
  intro x hx
  rw [lns_cut] at hx
  refine cut_part_le 10 s x ?_
  unfold trimL at hx
  split at hx
  · exact List.mem_of_mem_take hx
  · exact hx
set_option maxHeartbeats 16000000 in
set_option maxRecDepth 100000 in
theorem TextReads_any (w : World) (hG : Glob6 w) (s : List UInt8) (hs : (s.length : Int) ≤ 9223372036854775807) :
    Calls Tryz.prog 4 #[.string (bs s)] w fun e w' => e = .returned (.bool true) ∧ Keeps [] w w' := by
  have hsz : (bs s).size = s.length := bs_size s
  have HG := Lib.hid hG
  by_cases hl : s.length ≤ 6000
  · have hr := txRead_any w hG s (by omega) (fun x hx => by have := lns_len s x hx; omega)
    have hd := fun w => r6Read_any w s (by omega)
    unfold RdPost at hr
    unfold R6RdPost at hd
    generalize rdS [] 0 (lnsOf s) = R at *
    obtain ⟨l, NN, EE⟩ := R
    simp only [] at hr hd
    have HR := Lib.hid hr; have HD := Lib.hid hd
    clear hr hd hG
    generalize bs s = S at *
    have z1 : ¬ 6000 < (S.size : Int) := by omega
    clear hsz hs
    go_enter Tryz.func4, Tryz.ntmps4
    go_wp2_with fail
    refine HR.out.mono ?_; rintro z w1 ⟨v1, rfl, hv1, hk1⟩
    have HG1 := Lib.hid (HG.out.new hk1)
    have HK1 := Lib.hid hk1
    have HV1 := Lib.hid hv1
    clear hk1 hv1 HR HG
    go_wp2_with fail
    refine (HD.out _).mono ?_; rintro z w2 ⟨v2, rfl, hv2, hk2⟩
    have HK2 := Lib.hid (HK1.out.trans hk2 (FSub.refl _ _))
    have HG2 := Lib.hid (HG1.out.new hk2)
    have hv1 := HV1.out.new hk2 (Nat.le_refl _)
    have hM := hk2.size
    obtain ⟨a1, c1, rfl, hc1, hm1, HE1⟩ := hv1
    obtain ⟨a2, c2, rfl, hc2, hm2, HE2⟩ := hv2
    replace HE1 := Lib.hid HE1; replace HE2 := Lib.hid HE2
    clear hk2 HV1 HK1 HG1 HD
    generalize w1.heap.size = NM at *
    generalize hNO : w2.heap.size = NO at *
    generalize hn : l.length = n at *
    have HN := Lib.hid hn
    have HNO := Lib.hid hNO
    clear hn hNO
    go_wp2_with fail
    go_loopw [9] (fun i wr => ∃ k : Nat, i = .int .i64 k ∧ k ≤ n ∧ Keeps [] w2 wr) (fun i _ => n - (intOf i).toNat)
    case atStart => exact ⟨0, rfl, by omega, Keeps.refl _ _⟩
    case round =>
      obtain ⟨k, rfl, hkn, hkp⟩ := hrel
      have HKP := Lib.hid hkp
      clear hkp
      by_cases hlt : k < n
      · have hne : l ≠ [] := fun e => by have := HN.out; rw [e] at this; simp at this; omega
        obtain ⟨b1, o1, rfl, hb1, hc1'⟩ := HE1.out hne
        obtain ⟨b2, o2, rfl, hb2, hc2'⟩ := HE2.out hne
        obtain ⟨tx1, rd1, ht1, hr1⟩ := hc1' k (by have := HN.out; omega)
        obtain ⟨tx2, rd2, ht2, hr2⟩ := hc2' k (by have := HN.out; omega)
        have hs1 : Same NM w2 wr := HKP.out.same (by rw [HNO.out]; omega) (by simp)
        have hs2 : Same NO w2 wr := HKP.out.same (by rw [HNO.out]; omega) (by simp)
        have hzz : NO ≤ wr.heap.size := by have := HKP.out.size; rw [HNO.out] at this; exact this
        have g1 := rangeAt_same hr1 hs1 hb1; have g2 := rangeAt_same hr2 hs2 hb2
        have T1 := Lib.hid (ht1.same hs1); have T2 := Lib.hid (ht2.same hs2)
        clear HE1 HE2 hc1' hc2' ht1 ht2 hr1 hr2 hs1 hs2 hne
        generalize l.getD k evZero = x at *
        have hki : (k : Int) < (n : Int) := by omega
        have hk0 : (0 : Int) ≤ (k : Int) := by omega
        go_wp2_with fail
        refine wp_region_noPanic ?_
        refine wp_region_held_drew (S := fun w' => w'.rangeAt b1 (o1 + k * 19) (evC x tx1 rd1).toList ∧ w'.rangeAt b2 (o2 + k * 19) (evC x tx2 rd2).toList) (by kernel_rfl) ⟨g1, g2⟩ (fun hHeld => ?_)
        apply wpAnyH_take (i := 0) (v := .slice (some ⟨b1, o1, none⟩) n c1)
        · simp only [List.getElem?_toArray]; rfl
        · kernel_rfl
        · kernel_rfl
        · kernel_rfl
        · exact fun _ _ _ h => h
        · exact Or.inl ⟨by rfl, by intro w hSw; go_simp; try with_reducible rfl⟩
        · assumption
        try simp only [Act.put, List.setIfInBounds_toArray, List.set_cons_zero, List.set_cons_succ]
        apply wpAnyH_take (i := 1) (v := .int .i64 k)
        · simp only [List.getElem?_toArray]; rfl
        · kernel_rfl
        · kernel_rfl
        · kernel_rfl
        · exact fun _ _ _ h => h
        · exact Or.inl ⟨by rfl, by intro w hSw; go_simp; try with_reducible rfl⟩
        · assumption
        try simp only [Act.put, List.setIfInBounds_toArray, List.set_cons_zero, List.set_cons_succ]
        apply wpAnyH_take (i := 2) (v := .pointer (some ⟨b1, o1 + k * 19, none⟩))
        · simp only [List.getElem?_toArray]; rfl
        · kernel_rfl
        · kernel_rfl
        · kernel_rfl
        · exact fun _ _ _ h => h
        · exact Or.inl ⟨by rfl, by intro w hSw; go_simp; try with_reducible rfl⟩
        · assumption
        try simp only [Act.put, List.setIfInBounds_toArray, List.set_cons_zero, List.set_cons_succ]
        apply wpAnyH_take (i := 3) (v := .agg (evC x tx1 rd1))
        · simp only [List.getElem?_toArray]; rfl
        · kernel_rfl
        · kernel_rfl
        · kernel_rfl
        · exact fun _ _ _ h => h
        · exact yields_midR (by rfl) rfl (b := b1) (o := o1 + k * 19) rfl (fun w hSw => hSw.1)
        · assumption
        try simp only [Act.put, List.setIfInBounds_toArray, List.set_cons_zero, List.set_cons_succ]
        apply wpAnyH_take (i := 4) (v := .slice (some ⟨b2, o2, none⟩) n c2)
        · simp only [List.getElem?_toArray]; rfl
        · kernel_rfl
        · kernel_rfl
        · kernel_rfl
        · exact fun _ _ _ h => h
        · exact Or.inl ⟨by rfl, by intro w hSw; go_simp; try with_reducible rfl⟩
        · assumption
        try simp only [Act.put, List.setIfInBounds_toArray, List.set_cons_zero, List.set_cons_succ]
        apply wpAnyH_take (i := 5) (v := .int .i64 k)
        · simp only [List.getElem?_toArray]; rfl
        · kernel_rfl
        · kernel_rfl
        · kernel_rfl
        · exact fun _ _ _ h => h
        · exact Or.inl ⟨by rfl, by intro w hSw; go_simp; try with_reducible rfl⟩
        · assumption
        try simp only [Act.put, List.setIfInBounds_toArray, List.set_cons_zero, List.set_cons_succ]
        apply wpAnyH_take (i := 6) (v := .pointer (some ⟨b2, o2 + k * 19, none⟩))
        · simp only [List.getElem?_toArray]; rfl
        · kernel_rfl
        · kernel_rfl
        · kernel_rfl
        · exact fun _ _ _ h => h
        · exact Or.inl ⟨by rfl, by intro w hSw; go_simp; try with_reducible rfl⟩
        · assumption
        try simp only [Act.put, List.setIfInBounds_toArray, List.set_cons_zero, List.set_cons_succ]
        apply wpAnyH_take (i := 7) (v := .agg (evC x tx2 rd2))
        · simp only [List.getElem?_toArray]; rfl
        · kernel_rfl
        · kernel_rfl
        · kernel_rfl
        · exact fun _ _ _ h => h
        · exact yields_midR (by rfl) rfl (b := b2) (o := o2 + k * 19) rfl (fun w hSw => hSw.2)
        · assumption
        try simp only [Act.put, List.setIfInBounds_toArray, List.set_cons_zero, List.set_cons_succ]
        apply wpAnyH_ready (rs := [8])
        · kernel_rfl
        · simp
        apply AllReadyH.cons (hs := AllReadyH.nil)
        · simp only [List.getElem?_toArray]; rfl
        intro K hK
        rw [if_pos (by rfl)]
        go_simp
        refine (refSame5_any wr.drew x x tx1 rd1 tx2 rd2 (T1.out.new (Keeps.refl [] wr).drew (by omega) : EvAt NM wr.drew tx1 rd1 x) (T2.out.new (Keeps.refl [] wr).drew (by omega) : EvAt NO wr.drew tx2 rd2 x) (by show NM ≤ wr.heap.size; omega) (by show NO ≤ wr.heap.size; omega)).mono ?_; rintro z w5 ⟨rfl, hk5⟩
        rw [evSame_self]
        have hk5 : Keeps [] wr w5 := hk5.undrew
        have p1 := range_newR g1 hk5 (by omega); have p2 := range_newR g2 hk5 (by omega)
        go_wp2_with fail
        refine hK.out _ _ ?_ (fun hHeld => ?_)
        · exact ⟨p1, p2⟩
        clear hK K
        try simp only [Act.put, List.setIfInBounds_toArray, List.set_cons_zero, List.set_cons_succ]
        apply wpAnyH_ready (rs := [9])
        · kernel_rfl
        · simp
        apply AllReadyH.cons (hs := AllReadyH.nil)
        · simp only [List.getElem?_toArray]; rfl
        intro K hK
        rw [if_pos (by rfl)]
        go_simp
        refine hK.out _ _ ?_ (fun hHeld => ?_)
        · exact ⟨p1, p2⟩
        clear hK K
        try simp only [Act.put, List.setIfInBounds_toArray, List.set_cons_zero, List.set_cons_succ]
        refine wpAnyH_done (by kernel_rfl) ?_ _
        refine NoPanic.normal ?_
        have HQ := Lib.hid (HKP.out.trans hk5 (FSub.refl _ _))
        clear hk5 HKP g1 g2 p1 p2 T1 T2
        go_wp2_with fail
        go_roundw
        case rel => exact ⟨k + 1, by go_num, by omega, HQ.out⟩
        case measure => simp [intOf]; omega
      · clear HE1 HE2
        go_wp2_with fail
        refine (works6_any wr (HG2.out.new HKP.out)).mono ?_; rintro z wa ⟨rfl, hka⟩
        have HKZ := Lib.hid ((HK2.out.trans HKP.out (FSub.refl _ _)).trans hka (FSub.refl _ _))
        clear hka
        go_wp2_with fail
        go_ret
        exact ⟨rfl, HKZ.out⟩
  · generalize bs s = S at *
    have z1 : 6000 < (S.size : Int) := by omega
    clear hsz hs hG
    go_enter Tryz.func4, Tryz.ntmps4
    go_wp2_with fail
    refine (works6_any w HG.out).mono ?_; rintro z wa ⟨rfl, hka⟩
    go_wp2_with fail
    go_ret
    exact ⟨rfl, hka⟩
end Go.Proofs.YtffldnjjijckcaaGreatDoor
