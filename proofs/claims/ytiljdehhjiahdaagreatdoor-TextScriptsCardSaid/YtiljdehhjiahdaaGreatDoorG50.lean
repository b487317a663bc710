/-
  A slice literal of one event.
-/
import Derived.Great.BuildSlice
import Derived.Test.YtiljdehhjiahdaaGreatDoorG49
set_option linter.unusedSimpArgs false
set_option linter.unusedVariables false
namespace Go.Proofs.YtiljdehhjiahdaaGreatDoor
open Go.RowKit
theorem fill_ev (x : Ev) (tx rd : Value) (cells : Array Value) (h : cells.size = 19) : Instr.fill (fun i => some (i * 19, 19)) cells [(0, .agg (evC x tx rd))] = some (evC x tx rd) := by
  have := Great.fill_whole (s := 19) (by decide) [.agg (evC x tx rd)] cells (by intro v hv; simp at hv; subst hv; rfl) (by simp [h])
  exact this
theorem wpList_build_evs {ops : Array Oper} {rest : List Oper} {a : Act} {w : World} {Q : Exit → Act → World → Prop} {dst : Option Tmp} {ty : TypeId} {pos : String} {after : Array Edge} {y : Operand} {x : Ev} {tx rd : Value}
    (hy : a.eval y = .agg (evC x tx rd))
    (h : wpList Tryz.prog ops Q rest (a.put dst (.slice (some ⟨w.heap.size, 0, none⟩) 1 1)) (w.alloc (.cells (evC x tx rd) 32))) :
    wpList Tryz.prog ops Q ({ dst := dst, op := .buildSlice 44 1 #[(0, y)], type := ty, pos := pos, after := after, guard := none } :: rest) a w := by
  obtain ⟨i0, hi, hz0, hz1, hz2⟩ := info_parts Tryz.infoE
  refine wpList_buildSlice rfl 44 32 1 #[(0, y)] rfl (evC x tx rd) i0 _ Tryz.underlying44 hi hz0 (by rw [hz1]; decide) (by rw [hz1]; decide) ?_ h
  rw [hz1]
  have e : (#[(0, y)].map fun (i, z) => (i, a.eval z)).toList = [(0, a.eval y)] := by simp
  rw [e, hy]
  exact fill_ev x tx rd _ (by simp)
end Go.Proofs.YtiljdehhjiahdaaGreatDoor
/-
  The program's Read.
-/
namespace Go.Proofs.YtiljdehhjiahdaaGreatDoor
open Go.RowKit
def strSz (v : Value) : Nat := match v with
  | .string s => s.size
  | _ => 0
def EvOk (wr : World) (v : Value) (p : Ev × Value × Value) : Prop :=
  ∃ base Wk, EvKeeps base Wk p.2.1 p.2.2 p.1 ∧ Keeps (List.range base) Wk wr ∧ (∀ q ∈ own v, q < base ∨ Wk.heap.size ≤ q)
theorem EvOk.at {wr : World} {v : Value} {p : Ev × Value × Value} (h : EvOk wr v p) : EvAt wr.heap.size wr p.2.1 p.2.2 p.1 := by
  obtain ⟨base, Wk, h1, h2, _⟩ := h
  exact h1 _ _ h2 (by simp)
theorem EvOk.step {wr wr' : World} {v v' : Value} {p : Ev × Value × Value} (h : EvOk wr v p) (hk : Keeps (own v) wr wr') (hf : FSub (own v') (own v) wr.heap.size) : EvOk wr' v' p := by
  obtain ⟨base, Wk, h1, h2, h3⟩ := h
  refine ⟨base, Wk, h1, h2.trans hk (fun q hq => ?_), fun q hq => ?_⟩
  · rcases h3 q hq with h | h
    · exact .inl (by simp [h])
    · exact .inr h
  · rcases hf q hq with h | h
    · exact h3 q h
    · exact .inr (Nat.le_trans h2.size h)
theorem rowE_evs {w : World} {base : Nat} {v : Value} {L : EvL} (h : RowE base w v L) (hok : ∀ p ∈ L, EvOk w v p) : Evs w.heap.size w v (L.map (·.1)) := by
  have hlm : (L.map (·.1)).length = L.length := List.length_map ..
  rcases h.2 with ⟨rfl, hn⟩ | ⟨g, cap, cur, rfl, _, hh, hc, hm, hcs, htk⟩
  · have : L = [] := List.eq_nil_of_length_eq_zero hn
    subst this
    exact ⟨none, 0, rfl, by simp, by decide, fun h => absurd rfl h⟩
  · refine ⟨some ⟨g, 0, none⟩, cap, by rw [hlm], by omega, by unfold maxLen at hm; omega, fun _ => ⟨g, 0, rfl, lt_of_block hh, fun j hj => ?_⟩⟩
    have hjl : j < L.length := by omega
    have hget : L[j]? = some L[j] := List.getElem?_eq_getElem hjl
    have hD : (L.map (·.1)).getD j evZero = L[j].1 := by simp [List.getD, hjl]
    refine ⟨L[j].2.1, L[j].2.2, ?_, ?_⟩
    · rw [hD]; exact (hok _ (List.getElem_mem hjl)).at
    · rw [hD]
      intro i u hi
      have h2 := evsC_get L j L[j] hget i u hi
      rw [← htk, List.getElem?_take] at h2
      split at h2
      · simp only [World.cell?, hh, Nat.zero_add]
        simpa using h2
      · cases h2
theorem Cut10_any (w : World) (hG : Glob6 w) (s : List UInt8) (hs : s.length ≤ 100000000) :
    Calls Tryz.prog 33 #[.string (bs s), .string ⟨#[10]⟩] w fun e w' => e = .returned (.tuple #[.string (bs (Lib.cut s [10]).1), .string (bs (Lib.cut s [10]).2.1), .bool (Lib.cut s [10]).2.2]) ∧ Keeps [] w w' := by
  obtain ⟨m, hm⟩ := hG.r.ml
  have hsz := bs_size s
  refine (Tryz.strings_Cut (bs s) ⟨#[10]⟩ m w (by omega) hm).mono ?_
  rintro e w' ⟨he, n, rfl⟩
  have h1 : (bs s).data.toList = s := by simp [bs]
  rw [h1] at he
  exact ⟨he, (Keeps.refl _ _).drewN n⟩
structure RdInv (s : List UInt8) (w0 : World) (cur : List UInt8) (v : Value) (k : Nat) (L : EvL) (wr : World) : Prop where
  kp : Keeps [] w0 wr
  row : RowE w0.heap.size wr v L
  ok : ∀ p ∈ L, EvOk wr v p
  eq : rdS [] 0 (lnsOf s) = rdS (L.map (·.1)) k (lnsOf cur)
  ln : ∀ x ∈ lnsOf cur, x.length ≤ 1000000
  num : L.length + cur.length ≤ s.length
  kk : k = L.length
def RdPost (s : List UInt8) (w : World) (e : Ending) (W : World) : Prop :=
  ∃ v, e = .returned (.tuple #[v, .int .i64 (rdS [] 0 (lnsOf s)).2.1, .int .i64 (rdS [] 0 (lnsOf s)).2.2]) ∧ Evs W.heap.size W v (rdS [] 0 (lnsOf s)).1 ∧ Keeps [] w W
set_option maxHeartbeats 8000000 in
set_option maxRecDepth 100000 in
theorem txRead_any (w : World) (hG : Glob6 w) (s : List UInt8) (hs : s.length ≤ 100000000) (hl : ∀ x ∈ lnsOf s, x.length ≤ 1000000) : Calls Tryz.prog 15 #[.string (bs s)] w (RdPost s w) := by
  have HI : Hid (RdInv s w s (.slice none 0 0) 0 [] w) := Lib.hid ⟨Keeps.refl _ _, ⟨rfl, .inl ⟨rfl, rfl⟩⟩, by simp, rfl, hl, by simp, rfl⟩
  have HG := Lib.hid hG
  clear hG hl
  go_enter Tryz.func15, Tryz.ntmps15
  go_wp2_with fail
  go_loopw [0, 2, 3] (fun a b c wr => ∃ (cur : List UInt8) (k : Nat) (L : EvL), a = .string (bs cur) ∧ c = .int .i64 k ∧ RdInv s w cur b k L wr) (fun a _ _ _ => strSz a)
  case atStart => exact ⟨s, 0, [], rfl, rfl, HI.out⟩
  case round =>
    clear HI
    obtain ⟨cur, k, L, rfl, rfl, hI⟩ := hrel
    have HI := Lib.hid hI
    clear hI
    have hkb : (k : Int) ≤ 100000000 := by have := HI.out.kk; have := HI.out.num; omega
    by_cases hc : cur = []
    · have hs0 : (bs cur).toList.isEmpty = true := by rw [toL_bs, hc]; rfl
      have heq := HI.out.eq
      rw [hc] at heq
      have HEQ := Lib.hid heq
      have HEV := Lib.hid (rowE_evs HI.out.row HI.out.ok)
      clear heq hc
      generalize bs cur = S at *
      go_wp2_with fail
      go_ret3
      refine ⟨u2, ?_, ?_, HI.out.kp⟩
      · rw [HEQ.out]; rfl
      · rw [HEQ.out]; exact HEV.out
    · have hs0 : (bs cur).toList.isEmpty = false := by
        rw [toL_bs]
        cases cur with
        | nil => exact absurd rfl hc
        | cons a l => rfl
      obtain ⟨hlns, hsh⟩ := cut_lns hc
      have hcurz : cur.length ≤ 100000000 := by have := HI.out.num; omega
      have hG1 := HG.out.new HI.out.kp
      have hcut := Cut10_any wr hG1 cur hcurz
      have hln := HI.out.ln
      have heq := HI.out.eq
      rw [hlns] at hln heq
      have hf1 := hln _ List.mem_cons_self
      have hln2 : ∀ x ∈ lnsOf (Lib.cut cur [10]).2.1, x.length ≤ 1000000 := fun x hx => hln x (by simp [hx])
      have hsz2 : (bs cur).size = cur.length := bs_size cur
      have hsz3 : (bs (Lib.cut cur [10]).2.1).size = (Lib.cut cur [10]).2.1.length := bs_size _
      clear hln hlns hc
      generalize (Lib.cut cur [10]).1 = F1 at *
      generalize (Lib.cut cur [10]).2.1 = C2 at *
      generalize (Lib.cut cur [10]).2.2 = B2 at *
      have hpar := fun w hG M hM => txParse_fresh w hG F1 hf1 M hM
      have HCUT := Lib.hid hcut; have HPAR := Lib.hid hpar; have HEQ := Lib.hid heq; have HLN2 := Lib.hid hln2; have HG1 := Lib.hid hG1
      have HZ := Lib.hid (And.intro hsz2 hsz3)
      have HSH := Lib.hid hsh
      clear hcut hpar heq hln2 hG1 hf1 hsz2 hsz3 hsh
      generalize bs cur = S at *
      generalize hS2 : bs C2 = S2 at *
      have HS2 := Lib.hid hS2
      clear hS2
      generalize bs F1 = SF at *
      go_wp2_with fail
      refine HCUT.out.mono ?_; rintro z w1 ⟨rfl, hk1⟩
      have HK1 := Lib.hid hk1
      have HG2 := Lib.hid (HG1.out.new hk1)
      clear hk1 HCUT HG1
      go_wp2_with fail
      refine (HPAR.out w1 HG2.out w1.heap.size (Nat.le_refl _)).mono ?_; rintro z w2 ⟨tx, rd, rfl, hek, hk2⟩
      have hx := hek [] w2 (Keeps.refl _ _) (by simp)
      have hx1 := hx.t.one
      have hx2 := hx.r.one
      have HEK := Lib.hid hek; have HK2 := Lib.hid hk2
      have HKA := Lib.hid ((Keeps.refl [] w2).alloc (.cells #[.int .u8 0, .int .u8 0, .int .u16 0, .int .u8 0, .int .u8 0, .int .u8 0, .int .u16 0, .int .u16 0, .int .u8 0, .int .u16 0, .slice none 0 0, .slice none 0 0, .int .u8 0, .int .i64 0, .int .i64 0, .int .i64 0, .bool false, .bool false, .bool false] 32))
      clear hx hek hk2 HPAR
      have h2 := lnE_two F1
      generalize hX : lnX F1 = X at *
      generalize hE : lnE F1 = E at *
      have HX := Lib.hid hX; have HE := Lib.hid hE
      clear hX hE
      go_wp2_with ((with_reducible apply wpList_put_ev); exact rfl; exact rfl; (first | assumption | (refine heap_alloc_lt ?_; assumption) | (refine heap_alloc_lt (heap_alloc_lt ?_); assumption) | exact heap_alloc_at (by simp)); exact ⟨rfl, rfl⟩; (refine evC_one _ ?_ ?_ <;> first | rfl | assumption))
      intro W3 hb3 hk3
      have HK3 := Lib.hid (HKA.out.trans hk3 (fun q hq => .inr (by simp at hq; omega)) : Keeps [] w2 W3)
      clear hk3 HKA
      generalize w2.heap.size = c at *
      have hq3 : Keeps [] wr W3 := (HK1.out.trans HK2.out (FSub.refl _ _)).trans HK3.out (FSub.refl _ _)
      have HQ3 := Lib.hid hq3
      have HROW3 := Lib.hid (row_old HI.out.row hq3 (by simp))
      clear hq3
      rcases h2 with rfl | rfl
      · obtain ⟨v', w4, hr4, ho4, hk4, hf4⟩ := append_ev W3 w.heap.size (by have := HI.out.kp.size; have := HQ3.out.size; omega) u2 L HROW3.out (by have := HI.out.num; omega) X tx rd hx1 hx2
        have HO4 := Lib.hid ho4; have HK4 := Lib.hid hk4; have HF4 := Lib.hid hf4
        have HR4 := Lib.hid hr4
        clear ho4 hk4 hf4 hr4
        go_wp2_with (first | ((with_reducible apply wpList_load_ev); exact rfl; exact hb3; exact rfl) | ((with_reducible apply wpList_build_evs); exact rfl) | (at_builtin; refine wpList_append_run rfl _ _ 44 rfl _ _ _ _ rfl rfl HR4.out ?_))
        go_roundw
        case rel =>
          refine ⟨C2, k + 1, L ++ [(X, tx, rd)], by rw [HS2.out], by go_num, ?_⟩
          have hown : ∀ q ∈ own u2, q < wr.heap.size := fun q hq => (row_base HI.out.row q hq).2
          refine ⟨(HI.out.kp.trans HQ3.out (FSub.refl _ _)).trans HK4.out (fun q hq => .inr (row_base HI.out.row q hq).1), HO4.out, ?_, ?_, HLN2.out, ?_, ?_⟩
          · intro p hp
            rcases List.mem_append.1 hp with hp | hp
            · exact ((HI.out.ok p hp).step (HQ3.out.more (by simp)) (FSub.refl _ _)).step HK4.out HF4.out
            · simp at hp
              subst hp
              refine ⟨w1.heap.size, w2, HEK.out, (HK3.out.more (G := List.range w1.heap.size) (by simp)).trans HK4.out (fun q hq => .inl ?_), fun q hq => ?_⟩
              · have := hown q hq; have := HK1.out.size; simp; omega
              · rcases HF4.out q hq with h | h
                · have := hown q h; have := HK1.out.size; exact .inl (by omega)
                · exact .inr (Nat.le_trans HK3.out.size h)
          · rw [HEQ.out]
            simp [rdS, HE.out, HX.out]
          · have := HI.out.num; have := HSH.out; simp; omega
          · have := HI.out.kk; simp; omega
        case measure => simp [strSz]; have := HZ.out; have := HSH.out; omega
      · go_wp2_with fail
        go_ret3
        refine ⟨.slice none 0 0, ?_, ?_, HI.out.kp.trans HQ3.out (FSub.refl _ _)⟩
        · rw [HEQ.out]; simp [rdS, HE.out]
        · rw [HEQ.out]
          have : (rdS (L.map fun x => x.1) (↑k) (F1 :: lnsOf C2)).1 = [] := by simp [rdS, HE.out]
          rw [this]
          exact ⟨none, 0, rfl, by simp, by decide, fun h => absurd rfl h⟩
end Go.Proofs.YtiljdehhjiahdaaGreatDoor
/-
  TextScripts' mathematics; all; SplitAfter; Join with no separator; TrimSuffix.
-/
namespace Go.Proofs.YtiljdehhjiahdaaGreatDoor
open Go.RowKit
theorem lnsOf_wr : ∀ (l : List Ev) (r : List UInt8), lnsOf (wrS l ++ r) = l.map evLine ++ lnsOf r
  | [], r => rfl
  | x :: l, r => by
    show lnsOf ((evLine x ++ 10 :: wrS l) ++ r) = _
    rw [List.append_assoc, List.cons_append, lnsOf_line _ _ (line_free x), lnsOf_wr l r]
    rfl
theorem rdS_good : ∀ (l : List Ev) (acc : List Ev) (n : Int) (r : List (List UInt8)), (∀ x ∈ l, x.In ∧ evGood x = true) → rdS acc n (l.map evLine ++ r) = rdS (acc ++ l) (n + l.length) r
  | [], acc, n, r, _ => by simp
  | x :: l, acc, n, r, h => by
    obtain ⟨h1, h2⟩ := ln_yes (h x (by simp)).1 (h x (by simp)).2 rfl
    show rdS acc n (evLine x :: (l.map evLine ++ r)) = _
    rw [rdS, if_pos h2, h1, rdS_good l _ _ r (fun y hy => h y (by simp [hy]))]
    congr 1
    · simp
    · simp; omega
theorem rd_whole {l : List Ev} (h : ∀ x ∈ l, x.In ∧ evGood x = true) : rdS [] 0 (lnsOf (wrS l)) = (l, (l.length : Int), 0) := by
  have h1 := lnsOf_wr l []
  rw [List.append_nil] at h1
  rw [h1, rdS_good l [] 0 _ h]
  simp [lnsOf, rdS]
def whatL : List UInt8 := [119, 104, 97, 116, 10]
theorem ln_what : lnE [119, 104, 97, 116] ≠ 0 := by
  have h : rdEv (cutAt 32 [119, 104, 97, 116]) = none := by decide
  unfold lnE lnGet; rw [h]; decide
theorem rd_what {l m : List Ev} (h : ∀ x ∈ l, x.In ∧ evGood x = true) : rdS [] 0 (lnsOf (wrS l ++ (whatL ++ wrS m))) = ([], (l.length : Int) + 1, 4) := by
  rw [lnsOf_wr, rdS_good l [] 0 _ h]
  have e : lnsOf (whatL ++ wrS m) = [119, 104, 97, 116] :: lnsOf (wrS m) := lnsOf_line [119, 104, 97, 116] (wrS m) (by decide)
  rw [e, rdS, if_neg ln_what]
  simp
theorem isSuffix_one (s : List UInt8) (c : UInt8) : [c].isSuffixOf (s ++ [c]) = true := by simp [List.isSuffixOf]
theorem trim_wr (l : List Ev) (hne : ∀ x ∈ l, evLine x ≠ []) : lnsOf (Lib.trimSuffix (wrS l) [10]) = lnsOf (wrS l) := by
  rcases List.eq_nil_or_concat l with rfl | ⟨l', x, rfl⟩
  · rfl
  · have hx : evLine x ≠ [] := hne x (by simp)
    · have e : wrS (l' ++ [x]) = (wrS l' ++ evLine x) ++ [10] := by rw [wrS_app]; simp [wrS]
      have e2 : lnsOf (wrS (l' ++ [x])) = l'.map evLine ++ [evLine x] := by
        have := lnsOf_wr (l' ++ [x]) []
        simpa [lnsOf] using this
      rw [List.concat_eq_append, e2, e]
      unfold Lib.trimSuffix Lib.hasSuffix
      rw [isSuffix_one, if_pos rfl]
      have e3 : ((wrS l' ++ evLine x) ++ [10]).take (((wrS l' ++ evLine x) ++ [10]).length - [(10 : UInt8)].length) = wrS l' ++ evLine x := by
        rw [List.take_append_of_le_length (by simp)]
        exact List.take_of_length_le (by simp)
      rw [e3, lnsOf_wr, lnsOf_last _ (line_free x) hx]
theorem trim_len (s p : List UInt8) : (Lib.trimSuffix s p).length ≤ s.length := by unfold Lib.trimSuffix; split <;> simp <;> omega
theorem wr_count : ∀ (l : List Ev), (wrS l).count 10 = l.length
  | [] => rfl
  | x :: l => by
    show (evLine x ++ 10 :: wrS l).count 10 = _
    rw [List.count_append, List.count_eq_zero_of_not_mem (line_free x), List.count_cons_self, wr_count l]
    simp
def pieces (l : List Ev) : List (List UInt8) := l.map (fun x => evLine x ++ [10]) ++ [[]]
theorem splitK_wr : ∀ (l : List Ev), Lib.splitK [10] 1 l.length (wrS l) = pieces l
  | [] => rfl
  | x :: l => by
    show Lib.splitK [10] 1 (l.length + 1) (evLine x ++ 10 :: wrS l) = _
    rw [splitK_hit 10 1 _ _ _ (line_free x), splitK_wr l]
    have e : (evLine x ++ 10 :: wrS l).take ((evLine x).length + 1) = evLine x ++ [10] := by
      rw [List.take_append, List.take_of_length_le (by omega)]
      simp
    rw [e]; rfl
theorem pieces_take (l : List Ev) (k : Nat) (h : k ≤ l.length) : ((pieces l).take k).flatten = wrS (l.take k) := by
  unfold pieces
  rw [List.take_append_of_le_length (by simpa using h), ← List.map_take]
  generalize l.take k = m
  induction m with
  | nil => rfl
  | cons x m ih => simp [wrS, ih]
theorem pieces_drop (l : List Ev) (k : Nat) (h : k ≤ l.length) : ((pieces l).drop k).flatten = wrS (l.drop k) := by
  unfold pieces
  rw [List.drop_append_of_le_length (by simpa using h), ← List.map_drop]
  generalize l.drop k = m
  induction m with
  | nil => rfl
  | cons x m ih => simp [wrS]; simpa using ih
theorem join_none : ∀ (l : List (List UInt8)), Lib.join l [] = l.flatten
  | [] => rfl
  | [x] => by simp [Lib.join]
  | x :: y :: r => by
    have := join_none (y :: r)
    simp [Lib.join] at this ⊢
    exact this
end Go.Proofs.YtiljdehhjiahdaaGreatDoor
/-
  all; SplitAfter; Join with no separator; TrimSuffix.
-/
namespace Go.Proofs.YtiljdehhjiahdaaGreatDoor
open Go.RowKit
def AllPost (n : Nat) (w : World) (e : Ending) (w' : World) : Prop := ∃ b, e = .returned (.bool b) ∧ (b = true → n ≤ 20) ∧ Keeps [] w w'
set_option maxHeartbeats 8000000 in
set_option maxRecDepth 100000 in
theorem all6_any (w : World) (l : List Ev) (v : Value) {N : Nat} (hv : Evs N w v l) (hN : N ≤ w.heap.size) : Calls Tryz.prog 13 #[v] w (AllPost l.length w) := by
  obtain ⟨a, c, rfl, hc, hm, hrow⟩ := hv
  have HR := Lib.hid hrow
  have hnn : (l.length : Int) ≤ 9223372036854775807 := by omega
  clear hrow hm
  generalize hn2 : l.length = n at *
  have HN2 := Lib.hid hn2
  clear hn2
  go_enter Tryz.func13, Tryz.ntmps13
  go_wp2_with fail
  go_loopw [3] (fun i wr => ∃ k : Nat, k ≤ n ∧ k ≤ 30 ∧ i = .int .i64 k ∧ Keeps [] w wr) (fun i _ => 30 - (intOf i).toNat)
  case atStart => exact ⟨0, by omega, by omega, rfl, Keeps.refl _ _⟩
  case round =>
    obtain ⟨k, hk, hk30, rfl, hkp⟩ := hrel
    have HK := Lib.hid hkp
    clear hkp
    by_cases hlt : k < n
    · by_cases h30 : k < 30
      · obtain ⟨bk, o, rfl, hbk, hcell⟩ := HR.out (fun e => by have := HN2.out; rw [e] at this; simp at this; omega)
        obtain ⟨tx, rd, ht, hr⟩ := hcell k (by have := HN2.out; omega)
        have hsame : Same N w wr := HK.out.same hN (by simp)
        have hr2 := rangeAt_same hr hsame hbk
        have HT := Lib.hid (ht.same hsame)
        have hnw := Nat.le_trans hN HK.out.size
        clear HR hcell ht hr hsame hbk
        generalize l.getD k evZero = x at *
        go_wp2_with ((with_reducible apply wpList_load_evM); exact rfl; assumption)
        refine (few6_any wr x tx rd HT.out hnw).mono ?_; rintro z w2 ⟨fb, rfl, hk2⟩
        have HK2 := Lib.hid (HK.out.trans hk2 (FSub.refl _ _))
        clear hk2 HK HT hr2
        cases fb with
        | false =>
          go_wp2_with fail
          go_ret
          exact ⟨false, rfl, by simp, HK2.out⟩
        | true =>
          go_wp2_with fail
          go_roundw
          case rel => exact ⟨k + 1, by omega, by omega, by go_num, HK2.out⟩
          case measure => simp [intOf]; omega
      · have h20 : ¬ (n : Int) ≤ 20 := by omega
        go_wp2_with fail
        go_ret
        exact ⟨_, rfl, by first | (simp; done) | (simp; omega), HK.out⟩
    · by_cases h20 : (n : Int) ≤ 20
      · go_wp2_with fail
        go_ret
        exact ⟨_, rfl, by first | (simp; done) | (simp; omega), HK.out⟩
      · go_wp2_with fail
        go_ret
        exact ⟨_, rfl, by first | (simp; done) | (simp; omega), HK.out⟩
theorem Strs.take {N : Nat} {w : World} {b o n c : Nat} {l : Wds} (h : Strs N w (.slice (some ⟨b, o, none⟩) n c) l) (k : Nat) (hk : k ≤ l.length) : Strs N w (.slice (some ⟨b, o, none⟩) k c) (l.take k) := by
  obtain ⟨a, c', he, hc, hm, h⟩ := h
  cases he
  refine ⟨_, c, by rw [List.length_take, Nat.min_eq_left hk], by simp; omega, hm, fun hn => ?_⟩
  obtain ⟨bk, o', ha, hb, h'⟩ := h (fun e => hn (by rw [e]; simp))
  cases ha
  refine ⟨_, _, rfl, hb, fun j hj => ?_⟩
  have hj2 : j < k ∧ j < l.length := by simp at hj; omega
  rw [h' j hj2.2]
  simp [List.getD, hj2.1, hj2.2]
theorem Strs.drop {N : Nat} {w : World} {b o n c : Nat} {l : Wds} (h : Strs N w (.slice (some ⟨b, o, none⟩) n c) l) (k : Nat) (hk : k ≤ l.length) : Strs N w (.slice (some ⟨b, o + k, none⟩) (l.length - k) (c - k)) (l.drop k) := by
  obtain ⟨a, c', he, hc, hm, h⟩ := h
  cases he
  refine ⟨_, c - k, by rw [List.length_drop], by simp; omega, by omega, fun hn => ?_⟩
  obtain ⟨bk, o', ha, hb, h'⟩ := h (fun e => hn (by rw [e]; simp))
  cases ha
  refine ⟨_, _, rfl, hb, fun j hj => ?_⟩
  have hj2 : k + j < l.length := by simp at hj; omega
  have := h' (k + j) hj2
  rw [← Nat.add_assoc] at this
  rw [this]
  simp [List.getD, hj2]
theorem JoinE6_any (w : World) (v : Value) (l : Wds) {N : Nat} (h : Strs N w v l) (hn : l.length ≤ 1000) (hb : l.flatten.length ≤ 140737488355328) :
    Calls Tryz.prog 18 #[v, .string ⟨#[]⟩] w fun e w' => e = .returned (.string (bs l.flatten)) ∧ Keeps [] w w' := by
  rw [← join_none] at hb ⊢
  obtain ⟨a, cap, rfl, hc, hm, h⟩ := h
  by_cases hl0 : l = []
  · subst hl0
    refine (Tryz.strings_Join_none _ cap ⟨#[]⟩ w).mono ?_
    rintro e w' ⟨rfl, rfl⟩
    exact ⟨rfl, Keeps.refl _ _⟩
  · obtain ⟨bk, o, rfl, hbN, h'⟩ := h hl0
    have e0 : (l.map bs).map (·.data.toList) = l := by simp [Function.comp_def, bs_list]
    have hl : (l.map bs).length = l.length := by simp
    have hbk : bk < w.heap.size := World.block_lt_of_cell? _ _ (h' 0 (List.length_pos_iff.2 hl0))
    have c := Tryz.strings_Join bk o cap (l.map bs) ⟨#[]⟩ w (fun j y hy => ?_) hbk (by rw [hl]; omega) (by rw [hl]; exact hc) (by rw [e0]; show (Lib.join l []).length ≤ _; omega)
    · rw [hl, e0] at c
      exact c.mono fun e w' ⟨he, hb⟩ => ⟨he, Keeps.ofBelow hb⟩
    · rw [List.getElem?_map] at hy
      cases hq : l[j]? with
      | none => simp [hq] at hy
      | some z =>
        simp [hq] at hy
        subst hy
        have hjl : j < l.length := (List.getElem?_eq_some_iff.1 hq).1
        have := h' j hjl
        rw [List.getD_eq_getElem?_getD, hq] at this
        exact this
theorem Trim6_any (w : World) (s : List UInt8) (hs : s.length ≤ 100000000) : Calls Tryz.prog 16 #[.string (bs s), .string ⟨#[10]⟩] w fun e w' => e = .returned (.string (bs (Lib.trimSuffix s [10]))) ∧ w' = w := by
  refine (Tryz.strings_TrimSuffix (bs s) ⟨#[10]⟩ w (by rw [bs_size]; omega)).mono ?_
  rintro e w' ⟨he, hw⟩
  have h1 : (bs s).data.toList = s := by simp [bs]
  rw [h1] at he
  exact ⟨he, hw⟩
theorem splitB_map (sep : ByteArray) (sv k : Nat) (s : List UInt8) : Lib.splitB sep sv k (bs s) = (Lib.splitK sep.data.toList sv k s).map bs := by
  have h := Lib.splitB_data sep sv k (bs s)
  rw [bs_list] at h
  have h2 := congrArg (List.map bs) h
  rw [List.map_map] at h2
  rw [← h2]
  conv => lhs; rw [← List.map_id (Lib.splitB _ _ _ _)]
  refine List.map_congr_left (fun x _ => ?_)
  show x = bs x.data.toList
  rw [bs_of]
set_option maxHeartbeats 8000000 in
set_option maxRecDepth 100000 in
theorem SplitAfter6_any (w : World) (hG : Glob6 w) (l : List Ev) (hs : (wrS l).length ≤ 100000000) :
    Calls Tryz.prog 17 #[.string (bs (wrS l)), .string ⟨#[10]⟩] w fun e w' => ∃ b c, e = .returned (.slice (some ⟨b, 0, none⟩) (l.length + 1 : Nat) c) ∧ Strs w'.heap.size w' (.slice (some ⟨b, 0, none⟩) (l.length + 1) c) (pieces l) ∧ Keeps [] w w' := by
  obtain ⟨m, hm⟩ := hG.r.ml
  have hcnt : Lib.countB (bs (wrS l)) ⟨#[10]⟩ = l.length := by
    show Lib.count (bs (wrS l)).data.toList [10] = _
    rw [bs_list, Lib.count_one, wr_count]
  have hle : l.length ≤ (wrS l).length := by
    have := wr_count l
    have h2 := List.count_le_length (a := (10 : UInt8)) (l := wrS l)
    omega
  have hsz := bs_size (wrS l)
  have hg := Tryz.strings_genSplit (bs (wrS l)) ⟨#[10]⟩ 1 (-1) (l.length + 1) m w (by omega) hm (by decide) (by decide) (by decide) (by decide) (by rw [if_pos (by decide), hcnt]; omega)
  rw [splitB_map, Nat.add_sub_cancel] at hg
  have e1 : Lib.splitK (⟨#[10]⟩ : ByteArray).data.toList 1 l.length (wrS l) = pieces l := splitK_wr l
  rw [e1] at hg
  have hpl : ((pieces l).map bs).length = l.length + 1 := by simp [pieces]
  rw [hpl] at hg
  have HP : Hid (Strs (w.alloc (.cells (Lib.cellsOf ((pieces l).map bs) (l.length + 1)) 9)).heap.size (w.alloc (.cells (Lib.cellsOf ((pieces l).map bs) (l.length + 1)) 9)) (.slice (some ⟨w.heap.size, 0, none⟩) (l.length + 1) (l.length + 1)) (pieces l)) := by
    refine Lib.hid ⟨_, l.length + 1, by simp [pieces], by simp [pieces], by omega, fun _ => ⟨w.heap.size, 0, rfl, by simp, fun j hj => ?_⟩⟩
    have hh := heap_alloc_new w (.cells (Lib.cellsOf ((pieces l).map bs) (l.length + 1)) 9)
    unfold World.cell?
    simp only [Nat.zero_add]
    rw [hh]
    simp only []
    rw [cellsOf_get _ _ _ (by simpa using hj) (by rw [hpl]; omega)]
    simp [List.getD, hj]
  have HG := Lib.hid hg
  have HK := Lib.hid ((Keeps.refl [] w).alloc (.cells (Lib.cellsOf ((pieces l).map bs) (l.length + 1)) 9))
  clear hg hpl e1 hsz hle hcnt hs hm hG
  generalize bs (wrS l) = S at *
  generalize Lib.cellsOf ((pieces l).map bs) (l.length + 1) = CC at *
  go_enter Tryz.func17, Tryz.ntmps17
  go_wp2_with fail
  refine HG.out.mono ?_; rintro z w' ⟨rfl, rfl⟩
  go_wp2_with fail
  go_ret
  exact ⟨_, _, rfl, HP.out, HK.out⟩
end Go.Proofs.YtiljdehhjiahdaaGreatDoor
/-
  TextScripts' walk. (Printed by draft/genscripts6.py.)
-/
namespace Go.Proofs.YtiljdehhjiahdaaGreatDoor
open Go.RowKit
theorem read_wr (w : World) (hG : Glob6 w) (s : List UInt8) (R : List Ev × Int × Int) (h : rdS [] 0 (lnsOf s) = R) (h1 : s.length ≤ 100000000) (h2 : ∀ x ∈ lnsOf s, x.length ≤ 1000000) :
    Calls Tryz.prog 15 #[.string (bs s)] w fun e W => ∃ v, e = .returned (.tuple #[v, .int .i64 R.2.1, .int .i64 R.2.2]) ∧ Evs W.heap.size W v R.1 ∧ Keeps [] w W := by
  refine (txRead_any w hG s h1 h2).mono ?_
  rintro e W ⟨v, he, hv, hk⟩
  rw [h] at he hv
  exact ⟨v, he, hv, hk⟩
theorem lines_short {l : List Ev} (h : ∀ x ∈ l, x.In ∧ evGood x = true) (m : List (List UInt8)) (hm : ∀ x ∈ m, x.length ≤ 1000000) : ∀ x ∈ l.map evLine ++ m, x.length ≤ 1000000 := by
  intro x hx
  rcases List.mem_append.1 hx with hx | hx
  · rw [List.mem_map] at hx
    obtain ⟨y, hy, rfl⟩ := hx
    exact line_short (h y hy).1 (h y hy).2
  · exact hm x hx
theorem mem_take {l : List Ev} {k : Nat} {P : Ev → Prop} (h : ∀ x ∈ l, P x) : ∀ x ∈ l.take k, P x := fun x hx => h x (List.mem_of_mem_take hx)
theorem mem_drop {l : List Ev} {k : Nat} {P : Ev → Prop} (h : ∀ x ∈ l, P x) : ∀ x ∈ l.drop k, P x := fun x hx => h x (List.mem_of_mem_drop hx)
theorem range_new {w w' : World} {b o : Nat} {cs : List Value} (h : w.rangeAt b o cs) (hk : Keeps [] w w') (hb : b < w.heap.size) : w'.rangeAt b o cs := rangeAt_same h (hk.same (Nat.le_refl _) (by simp)) hb
theorem yields_mid {ops : Array Oper} {S : World → Prop} {op : Oper} {a : Act} {x : Operand} {b o : Nat} {e : Ev} {tx rd : Value} (hw : Region.wanted op (yielded ops a.tmps) = true) (ho : op.op = .load 32 x) (hx : a.eval x = .pointer (some ⟨b, o, none⟩))
    (hS : ∀ w, S w → w.rangeAt b o (evC e tx rd).toList) : YieldsIf Tryz.prog ops S op (.agg (evC e tx rd)) a := by
  have := yieldsIf_load_mid (P := Tryz.prog) hw 32 x ho b o hx (evC e tx rd).toList _ hS Tryz.underlying32 rfl (by kernel_rfl)
  rwa [Array.toArray_toList] at this
set_option maxHeartbeats 16000000 in
set_option maxRecDepth 100000 in
theorem TextScripts_any (w : World) (hG : Glob6 w) (l : List Ev) (hl : ∀ x ∈ l, x.In) (v : Value) {N : Nat} (hv : Evs N w v l) (hN : N ≤ w.heap.size) (at0 : Int) (ha0 : 0 ≤ at0) (ha1 : at0 < 256) :
    Calls Tryz.prog 4 #[v, .int .u8 at0] w fun e w' => e = .returned (.bool true) ∧ Keeps [] w w' := by
  have hform : ∃ a c, v = .slice a l.length c ∧ l.length ≤ c ∧ c ≤ 9223372036854775807 := by obtain ⟨a, c, h1, h2, h3, _⟩ := hv; exact ⟨a, c, h1, h2, h3⟩
  have hall := all6_any w l v hv hN
  unfold AllPost at hall
  have HV := Lib.hid hv; have HG := Lib.hid hG; have HL := Lib.hid hl; have HA := Lib.hid hall; have HF := Lib.hid hform
  clear hv hG hl hall hform
  go_enter Tryz.func4, Tryz.ntmps4
  go_wp2_with fail
  refine HA.out.mono ?_; rintro z w1 ⟨fb, rfl, h20, hk1⟩
  have HK1 := Lib.hid hk1
  have HG1 := Lib.hid (HG.out.new hk1)
  have HV1 := Lib.hid (HV.out.new hk1 hN)
  have hN1 := Nat.le_trans hN hk1.size
  clear hk1 HG HV HA
  cases fb with
  | false =>
    go_wp2_with fail
    refine (works6_any w1 (HG1.out)).mono ?_; rintro z wa ⟨rfl, hka⟩
    have HKZ := Lib.hid (HK1.out.trans hka (FSub.refl _ _))
    clear hka
    go_wp2_with fail
    go_ret
    exact ⟨rfl, HKZ.out⟩
  | true =>
    have hn := h20 rfl
    clear h20
    have hw := txWrite_any w1 HG1.out l HL.out (by omega) v HV1.out hN1
    unfold WrPost at hw
    rcases bool_two (l.all evGood) with hg | hg
    · have hX : wrX l = wrS l ∧ wrE l = 0 := by unfold wrX wrE; rw [hg]; exact ⟨rfl, rfl⟩
      rw [hX.1, hX.2] at hw
      have hgood : ∀ x ∈ l, x.In ∧ evGood x = true := fun x hx => ⟨HL.out x hx, List.all_eq_true.1 hg x hx⟩
      have HW := Lib.hid hw; have HGD := Lib.hid hgood; have HNN := Lib.hid hn
      clear hg hX hw hgood hn HL
      have hwl : (wrS l).length ≤ 100000000 := by
        have h1 := wrS_len l (fun x hx => line_short (HGD.out x hx).1 (HGD.out x hx).2)
        have h2 : l.length * 1000001 ≤ 20 * 1000001 := Nat.mul_le_mul HNN.out (Nat.le_refl _)
        omega
      have hlw : lnsOf (wrS l) = l.map evLine := by have := lnsOf_wr l []; simpa [lnsOf] using this
      have hshort : ∀ x ∈ lnsOf (wrS l), x.length ≤ 1000000 := by
        rw [hlw]
        have := lines_short HGD.out [] (by simp)
        simpa using this
      have htr := trim_wr l (fun x hx => line_ne (good_parts (HGD.out x hx).2).1)
      have hr1 := fun w hG => read_wr w hG (wrS l) (l, (l.length : Int), 0) (rd_whole HGD.out) hwl hshort
      have hr2 := fun w hG => read_wr w hG (Lib.trimSuffix (wrS l) [10]) (l, (l.length : Int), 0) (by rw [htr]; exact rd_whole HGD.out) (Nat.le_trans (trim_len _ _) hwl) (by rw [htr]; exact hshort)
      have ht := fun w => Trim6_any w (wrS l) hwl
      have hsp := fun w hG => SplitAfter6_any w hG l hwl
      have HR1 := Lib.hid hr1; have HR2 := Lib.hid hr2; have HT := Lib.hid ht; have HSP := Lib.hid hsp; have HWL := Lib.hid hwl
      clear hr1 hr2 ht hsp hwl hlw hshort htr
      generalize bs (Lib.trimSuffix (wrS l) [10]) = ST at *
      generalize hSW : bs (wrS l) = SW at *
      have HSW := Lib.hid hSW
      clear hSW
      go_wp2_with fail
      refine HW.out.mono ?_; rintro z w2 ⟨rfl, hk2⟩
      have HK2 := Lib.hid (HK1.out.trans hk2 (FSub.refl _ _))
      have HG2 := Lib.hid (HG1.out.new hk2)
      have HV2 := Lib.hid (HV1.out.new hk2 hN1)
      have hN2 := Nat.le_trans hN1 hk2.size
      clear hk2 HG1 HV1 HK1 HW hN1
      go_wp2_with fail
      refine (HR1.out w2 HG2.out).mono ?_; rintro z w3 ⟨vm, rfl, hm, hk3⟩
      have HK3 := Lib.hid (HK2.out.trans hk3 (FSub.refl _ _))
      have HG3 := Lib.hid (HG2.out.new hk3)
      have HV3 := Lib.hid (HV2.out.new hk3 hN2)
      have HM3 := Lib.hid hm
      have hN3 := Nat.le_trans hN2 hk3.size
      clear hk3 HG2 HV2 HK2 hm hN2 HR1
      go_wp2_with fail
      refine (HT.out w3).mono ?_; rintro z w3 ⟨rfl, rfl⟩
      go_wp2_with fail
      refine (HR2.out w3 HG3.out).mono ?_; rintro z w4 ⟨vo, rfl, ho, hk4⟩
      have HK4 := Lib.hid (HK3.out.trans hk4 (FSub.refl _ _))
      have HG4 := Lib.hid (HG3.out.new hk4)
      have HV4 := Lib.hid (HV3.out.new hk4 hN3)
      have HM4 := Lib.hid (HM3.out.new hk4 (Nat.le_refl _))
      have HO4 := Lib.hid ho
      have hN4 := Nat.le_trans hN3 hk4.size
      have hM4 : w3.heap.size ≤ w4.heap.size := hk4.size
      clear hk4 HG3 HV3 HK3 HM3 ho hN3 HR2 HT
      obtain ⟨a0, c0, rfl, hc0, hm0, HE0⟩ := HV4.out
      obtain ⟨a1, c1, rfl, hc1, hm1, HE1⟩ := HM4.out
      obtain ⟨a2, c2, rfl, hc2, hm2, HE2⟩ := HO4.out
      replace HE0 := Lib.hid HE0; replace HE1 := Lib.hid HE1; replace HE2 := Lib.hid HE2
      clear HV4 HM4 HO4 HF
      generalize w3.heap.size = NM at *
      generalize hNO : w4.heap.size = NO at *
      generalize hn : l.length = n at *
      have HN := Lib.hid hn
      have HNO := Lib.hid hNO
      clear hn hNO
      have hnb : n ≤ 20 := HNN.out
      go_wp2_with fail
      go_loopw [13] (fun i wr => ∃ k : Nat, k ≤ n ∧ i = .int .i64 k ∧ Keeps [] w4 wr) (fun i _ => n - (intOf i).toNat)
      case atStart => exact ⟨0, by omega, rfl, Keeps.refl _ _⟩
      case round =>
        obtain ⟨k, hk, rfl, hkp⟩ := hrel
        have HKP := Lib.hid hkp
        clear hkp
        by_cases hlt : k < n
        · skip
          obtain ⟨b0, o0, rfl, hb0, hq0⟩ := HE0.out (fun e => by have := HN.out; rw [e] at this; simp at this; omega)
          obtain ⟨b1, o1, rfl, hb1, hq1⟩ := HE1.out (fun e => by have := HN.out; rw [e] at this; simp at this; omega)
          obtain ⟨b2, o2, rfl, hb2, hq2⟩ := HE2.out (fun e => by have := HN.out; rw [e] at this; simp at this; omega)
          obtain ⟨tx0, rd0, ht0, hr0⟩ := hq0 k hlt
          obtain ⟨tx1, rd1, ht1, hr1⟩ := hq1 k hlt
          obtain ⟨tx2, rd2, ht2, hr2⟩ := hq2 k hlt
          have hs0 : Same N w4 wr := HKP.out.same (by rw [HNO.out]; omega) (by simp)
          have hs1 : Same NM w4 wr := HKP.out.same (by rw [HNO.out]; omega) (by simp)
          have hs2 : Same NO w4 wr := HKP.out.same (by rw [HNO.out]; omega) (by simp)
          have hzz : NO ≤ wr.heap.size := by have := HKP.out.size; rw [HNO.out] at this; exact this
          have g0 := rangeAt_same hr0 hs0 hb0; have g1 := rangeAt_same hr1 hs1 hb1; have g2 := rangeAt_same hr2 hs2 hb2
          have T0 := Lib.hid (ht0.same hs0); have T1 := Lib.hid (ht1.same hs1); have T2 := Lib.hid (ht2.same hs2)
          clear HE0 HE1 HE2 hq0 hq1 hq2 ht0 ht1 ht2 hr0 hr1 hr2 hs0 hs1 hs2
          generalize l.getD k evZero = x at *
          have hki : (k : Int) < (n : Int) := by omega
          have hk0 : (0 : Int) ≤ (k : Int) := by omega
          go_wp2_with fail
          refine wp_region_noPanic ?_
          refine wp_region_held_drew (S := fun w' => w'.rangeAt b1 (o1 + k * 19) (evC x tx1 rd1).toList ∧ w'.rangeAt b0 (o0 + k * 19) (evC x tx0 rd0).toList ∧ w'.rangeAt b2 (o2 + k * 19) (evC x tx2 rd2).toList ∧ Keeps [] wr w') (by kernel_rfl) ⟨g1, g0, g2, (Keeps.refl _ _).drew⟩ (fun hHeld => ?_)
          apply wpAnyH_take (i := 0) (v := .slice (some ⟨b1, o1, none⟩) n c1)
          · simp only [List.getElem?_toArray]; rfl
          · kernel_rfl
          · kernel_rfl
          · kernel_rfl
          · exact fun _ _ _ h => h
          · exact Or.inl ⟨by rfl, by intro w hSw; go_simp; try with_reducible rfl⟩
          · assumption
          try simp only [Act.put, List.setIfInBounds_toArray, List.set_cons_zero, List.set_cons_succ]
          apply wpAnyH_take (i := 1) (v := .int .i64 k)
          · simp only [List.getElem?_toArray]; rfl
          · kernel_rfl
          · kernel_rfl
          · kernel_rfl
          · exact fun _ _ _ h => h
          · exact Or.inl ⟨by rfl, by intro w hSw; go_simp; try with_reducible rfl⟩
          · assumption
          try simp only [Act.put, List.setIfInBounds_toArray, List.set_cons_zero, List.set_cons_succ]
          apply wpAnyH_take (i := 2) (v := .pointer (some ⟨b1, o1 + k * 19, none⟩))
          · simp only [List.getElem?_toArray]; rfl
          · kernel_rfl
          · kernel_rfl
          · kernel_rfl
          · exact fun _ _ _ h => h
          · exact Or.inl ⟨by rfl, by intro w hSw; go_simp; try with_reducible rfl⟩
          · assumption
          try simp only [Act.put, List.setIfInBounds_toArray, List.set_cons_zero, List.set_cons_succ]
          apply wpAnyH_take (i := 3) (v := .agg (evC x tx1 rd1))
          · simp only [List.getElem?_toArray]; rfl
          · kernel_rfl
          · kernel_rfl
          · kernel_rfl
          · exact fun _ _ _ h => h
          · exact yields_mid (by rfl) rfl (b := b1) (o := o1 + k * 19) rfl (fun w hSw => hSw.1)
          · assumption
          try simp only [Act.put, List.setIfInBounds_toArray, List.set_cons_zero, List.set_cons_succ]
          apply wpAnyH_take (i := 4) (v := .slice (some ⟨b0, o0, none⟩) n c0)
          · simp only [List.getElem?_toArray]; rfl
          · kernel_rfl
          · kernel_rfl
          · kernel_rfl
          · exact fun _ _ _ h => h
          · exact Or.inl ⟨by rfl, by intro w hSw; go_simp; try with_reducible rfl⟩
          · assumption
          try simp only [Act.put, List.setIfInBounds_toArray, List.set_cons_zero, List.set_cons_succ]
          apply wpAnyH_take (i := 5) (v := .int .i64 k)
          · simp only [List.getElem?_toArray]; rfl
          · kernel_rfl
          · kernel_rfl
          · kernel_rfl
          · exact fun _ _ _ h => h
          · exact Or.inl ⟨by rfl, by intro w hSw; go_simp; try with_reducible rfl⟩
          · assumption
          try simp only [Act.put, List.setIfInBounds_toArray, List.set_cons_zero, List.set_cons_succ]
          apply wpAnyH_take (i := 6) (v := .pointer (some ⟨b0, o0 + k * 19, none⟩))
          · simp only [List.getElem?_toArray]; rfl
          · kernel_rfl
          · kernel_rfl
          · kernel_rfl
          · exact fun _ _ _ h => h
          · exact Or.inl ⟨by rfl, by intro w hSw; go_simp; try with_reducible rfl⟩
          · assumption
          try simp only [Act.put, List.setIfInBounds_toArray, List.set_cons_zero, List.set_cons_succ]
          apply wpAnyH_take (i := 7) (v := .agg (evC x tx0 rd0))
          · simp only [List.getElem?_toArray]; rfl
          · kernel_rfl
          · kernel_rfl
          · kernel_rfl
          · exact fun _ _ _ h => h
          · exact yields_mid (by rfl) rfl (b := b0) (o := o0 + k * 19) rfl (fun w hSw => hSw.2.1)
          · assumption
          try simp only [Act.put, List.setIfInBounds_toArray, List.set_cons_zero, List.set_cons_succ]
          apply wpAnyH_ready (rs := [8])
          · kernel_rfl
          · simp
          apply AllReadyH.cons (hs := AllReadyH.nil)
          · simp only [List.getElem?_toArray]; rfl
          intro K hK
          rw [if_pos (by rfl)]
          go_simp
          refine (Same5_any wr.drew x x tx1 rd1 tx0 rd0 (T1.out.new (Keeps.refl [] wr).drew (by omega) : EvAt NM wr.drew tx1 rd1 x) (T0.out.new (Keeps.refl [] wr).drew (by omega) : EvAt N wr.drew tx0 rd0 x) (by show NM ≤ wr.heap.size; omega) (by show N ≤ wr.heap.size; omega)).mono ?_; rintro z w5 ⟨rfl, hk5⟩
          rw [evSame_self]
          have hk5 : Keeps [] wr w5 := hk5.undrew
          have p0 := range_new g0 hk5 (by omega); have p1 := range_new g1 hk5 (by omega); have p2 := range_new g2 hk5 (by omega)
          have U0 := Lib.hid (T0.out.new hk5 (by omega)); have U2 := Lib.hid (T2.out.new hk5 (by omega))
          have hz5 : NO ≤ w5.heap.size := Nat.le_trans hzz hk5.size
          go_wp2_with fail
          refine hK.out _ _ ?_ (fun hHeld => ?_)
          · exact ⟨p1, p0, p2, hk5⟩
          clear hK K
          try simp only [Act.put, List.setIfInBounds_toArray, List.set_cons_zero, List.set_cons_succ]
          apply wpAnyH_take (i := 9) (v := .bool false)
          · simp only [List.getElem?_toArray]; rfl
          · kernel_rfl
          · kernel_rfl
          · kernel_rfl
          · exact fun _ _ _ h => h
          · exact Or.inl ⟨by rfl, by intro w hSw; go_simp; try with_reducible rfl⟩
          · assumption
          try simp only [Act.put, List.setIfInBounds_toArray, List.set_cons_zero, List.set_cons_succ]
          apply wpAnyH_take (i := 10) (v := .bool false)
          · simp only [List.getElem?_toArray]; rfl
          · kernel_rfl
          · kernel_rfl
          · kernel_rfl
          · exact fun _ _ _ h => h
          · exact Or.inl ⟨by rfl, by intro w hSw; go_simp; try with_reducible rfl⟩
          · assumption
          try simp only [Act.put, List.setIfInBounds_toArray, List.set_cons_zero, List.set_cons_succ]
          apply wpAnyH_take (i := 11) (v := .slice (some ⟨b2, o2, none⟩) n c2)
          · simp only [List.getElem?_toArray]; rfl
          · kernel_rfl
          · kernel_rfl
          · kernel_rfl
          · exact fun _ _ _ h => h
          · exact Or.inl ⟨by rfl, by intro w hSw; go_simp; try with_reducible rfl⟩
          · assumption
          try simp only [Act.put, List.setIfInBounds_toArray, List.set_cons_zero, List.set_cons_succ]
          apply wpAnyH_take (i := 12) (v := .int .i64 k)
          · simp only [List.getElem?_toArray]; rfl
          · kernel_rfl
          · kernel_rfl
          · kernel_rfl
          · exact fun _ _ _ h => h
          · exact Or.inl ⟨by rfl, by intro w hSw; go_simp; try with_reducible rfl⟩
          · assumption
          try simp only [Act.put, List.setIfInBounds_toArray, List.set_cons_zero, List.set_cons_succ]
          apply wpAnyH_take (i := 13) (v := .pointer (some ⟨b2, o2 + k * 19, none⟩))
          · simp only [List.getElem?_toArray]; rfl
          · kernel_rfl
          · kernel_rfl
          · kernel_rfl
          · exact fun _ _ _ h => h
          · exact Or.inl ⟨by rfl, by intro w hSw; go_simp; try with_reducible rfl⟩
          · assumption
          try simp only [Act.put, List.setIfInBounds_toArray, List.set_cons_zero, List.set_cons_succ]
          apply wpAnyH_take (i := 14) (v := .agg (evC x tx2 rd2))
          · simp only [List.getElem?_toArray]; rfl
          · kernel_rfl
          · kernel_rfl
          · kernel_rfl
          · exact fun _ _ _ h => h
          · exact yields_mid (by rfl) rfl (b := b2) (o := o2 + k * 19) rfl (fun w hSw => hSw.2.2.1)
          · assumption
          try simp only [Act.put, List.setIfInBounds_toArray, List.set_cons_zero, List.set_cons_succ]
          apply wpAnyH_take (i := 15) (v := .slice (some ⟨b0, o0, none⟩) n c0)
          · simp only [List.getElem?_toArray]; rfl
          · kernel_rfl
          · kernel_rfl
          · kernel_rfl
          · exact fun _ _ _ h => h
          · exact Or.inl ⟨by rfl, by intro w hSw; go_simp; try with_reducible rfl⟩
          · assumption
          try simp only [Act.put, List.setIfInBounds_toArray, List.set_cons_zero, List.set_cons_succ]
          apply wpAnyH_take (i := 16) (v := .int .i64 k)
          · simp only [List.getElem?_toArray]; rfl
          · kernel_rfl
          · kernel_rfl
          · kernel_rfl
          · exact fun _ _ _ h => h
          · exact Or.inl ⟨by rfl, by intro w hSw; go_simp; try with_reducible rfl⟩
          · assumption
          try simp only [Act.put, List.setIfInBounds_toArray, List.set_cons_zero, List.set_cons_succ]
          apply wpAnyH_take (i := 17) (v := .pointer (some ⟨b0, o0 + k * 19, none⟩))
          · simp only [List.getElem?_toArray]; rfl
          · kernel_rfl
          · kernel_rfl
          · kernel_rfl
          · exact fun _ _ _ h => h
          · exact Or.inl ⟨by rfl, by intro w hSw; go_simp; try with_reducible rfl⟩
          · assumption
          try simp only [Act.put, List.setIfInBounds_toArray, List.set_cons_zero, List.set_cons_succ]
          apply wpAnyH_take (i := 18) (v := .agg (evC x tx0 rd0))
          · simp only [List.getElem?_toArray]; rfl
          · kernel_rfl
          · kernel_rfl
          · kernel_rfl
          · exact fun _ _ _ h => h
          · exact yields_mid (by rfl) rfl (b := b0) (o := o0 + k * 19) rfl (fun w hSw => hSw.2.1)
          · assumption
          try simp only [Act.put, List.setIfInBounds_toArray, List.set_cons_zero, List.set_cons_succ]
          apply wpAnyH_ready (rs := [19])
          · kernel_rfl
          · simp
          apply AllReadyH.cons (hs := AllReadyH.nil)
          · simp only [List.getElem?_toArray]; rfl
          intro K hK
          rw [if_pos (by rfl)]
          go_simp
          refine (Same5_any w5 x x tx2 rd2 tx0 rd0 U2.out U0.out hz5 (by omega)).mono ?_; rintro z w6 ⟨rfl, hk6⟩
          rw [evSame_self]
          have hk6 : Keeps [] wr w6 := hk5.trans hk6 (FSub.refl _ _)
          have p0 := range_new g0 hk6 (by omega); have p1 := range_new g1 hk6 (by omega); have p2 := range_new g2 hk6 (by omega)
          have HQ6 := Lib.hid (HKP.out.trans hk6 (FSub.refl _ _))
          go_wp2_with fail
          refine hK.out _ _ ?_ (fun hHeld => ?_)
          · exact ⟨p1, p0, p2, hk6⟩
          clear hK K
          try simp only [Act.put, List.setIfInBounds_toArray, List.set_cons_zero, List.set_cons_succ]
          apply wpAnyH_take (i := 20) (v := .bool false)
          · simp only [List.getElem?_toArray]; rfl
          · kernel_rfl
          · kernel_rfl
          · kernel_rfl
          · exact fun _ _ _ h => h
          · exact Or.inl ⟨by rfl, by intro w hSw; go_simp; try with_reducible rfl⟩
          · assumption
          try simp only [Act.put, List.setIfInBounds_toArray, List.set_cons_zero, List.set_cons_succ]
          apply wpAnyH_take (i := 21) (v := .bool false)
          · simp only [List.getElem?_toArray]; rfl
          · kernel_rfl
          · kernel_rfl
          · kernel_rfl
          · exact fun _ _ _ h => h
          · exact Or.inl ⟨by rfl, by intro w hSw; go_simp; try with_reducible rfl⟩
          · assumption
          try simp only [Act.put, List.setIfInBounds_toArray, List.set_cons_zero, List.set_cons_succ]
          refine wpAnyH_done (by kernel_rfl) ?_ _
          refine NoPanic.normal ?_
          clear p0 p1 p2 hk5 hk6 U0 U2 T0 T1 T2 g0 g1 g2
          go_wp2_with fail
          go_roundw
          case rel => exact ⟨k + 1, by omega, by go_num, HQ6.out⟩
          case measure => simp [intOf]; omega
        · skip
          obtain rfl : k = n := by omega
          have hne : ¬ ((k : Int) + 1 = 0) := by omega
          have HG5 := Lib.hid (HG4.out.new HKP.out)
          have HK5 := Lib.hid (HK4.out.trans HKP.out (FSub.refl _ _))
          clear HE0 HE1 HE2 HG4 HK4 HKP
          go_wp2_with fail
          have hr0 : 0 ≤ at0 % ((k : Int) + 1) := Int.emod_nonneg _ hne
          have hr1 : at0 % ((k : Int) + 1) < (k : Int) + 1 := Int.emod_lt_of_pos _ (by omega)
          generalize at0 % ((k : Int) + 1) = KI at *
          obtain ⟨K, rfl⟩ : ∃ K : Nat, KI = (K : Int) := ⟨KI.toNat, by omega⟩
          have hKk : K ≤ k := by omega
          refine (HSP.out wr HG5.out).mono ?_; rintro z w6 ⟨B, C, rfl, hst, hk6⟩
          have HG6 := Lib.hid (HG5.out.new hk6)
          have HK6 := Lib.hid (HK5.out.trans hk6 (FSub.refl _ _))
          have hpl : (pieces l).length = k + 1 := by have := HN.out; simp [pieces]; omega
          have hC : k + 1 ≤ C ∧ C ≤ 9223372036854775807 := by
            obtain ⟨a, c, he, h1, h2, _⟩ := hst
            injection he with e1 e2 e3
            omega
          have hs1 := hst.take K (by omega)
          have hs2 := hst.drop K (by omega)
          rw [Nat.zero_add, hpl] at hs2
          have hlt : ∀ m : List Ev, (∀ x ∈ m, x.In ∧ evGood x = true) → m.length ≤ 20 → (wrS m).length ≤ 20 * 1000001 := fun m hm hm2 => Nat.le_trans (wrS_len m (fun x hx => line_short (hm x hx).1 (hm x hx).2)) (Nat.mul_le_mul hm2 (Nat.le_refl _))
          have hl1 : (wrS (l.take K)).length ≤ 20 * 1000001 := hlt _ (mem_take HGD.out) (by simp; omega)
          have hl2 : (wrS (l.drop K)).length ≤ 20 * 1000001 := hlt _ (mem_drop HGD.out) (by have := HN.out; simp; omega)
          have hj1 : ∀ w, Keeps [] w6 w → Calls Tryz.prog 18 #[.slice (some ⟨B, 0, none⟩) K C, .string ⟨#[]⟩] w fun e w' => e = .returned (.string (bs (wrS (l.take K)))) ∧ Keeps [] w w' := fun w hk => by
            have h := JoinE6_any w _ _ (hs1.keeps hk) (by simp; omega) (by rw [pieces_take l K (by have := HN.out; omega)]; omega)
            rwa [pieces_take l K (by have := HN.out; omega)] at h
          have hj2 : ∀ w, Keeps [] w6 w → Calls Tryz.prog 18 #[.slice (some ⟨B, K, none⟩) (k + 1 - K) (C - K), .string ⟨#[]⟩] w fun e w' => e = .returned (.string (bs (wrS (l.drop K)))) ∧ Keeps [] w w' := fun w hk => by
            have h := JoinE6_any w _ _ (hs2.keeps hk) (by simp; omega) (by rw [pieces_drop l K (by have := HN.out; omega)]; omega)
            rwa [pieces_drop l K (by have := HN.out; omega)] at h
          have hrd : ∀ w, Glob6 w → Calls Tryz.prog 15 #[.string (bs (wrS (l.take K) ++ (whatL ++ wrS (l.drop K))))] w fun e W => ∃ a c, e = .returned (.tuple #[.slice a 0 c, .int .i64 ((K : Int) + 1), .int .i64 4]) ∧ Keeps [] w W := fun w hG => by
            have hw := rd_what (m := l.drop K) (mem_take (k := K) HGD.out)
            have htl : ((l.take K).length : Int) = K := by have := HN.out; simp; omega
            rw [htl] at hw
            have hsh : ∀ x ∈ lnsOf (wrS (l.take K) ++ (whatL ++ wrS (l.drop K))), x.length ≤ 1000000 := by
              have e : lnsOf (whatL ++ wrS (l.drop K)) = [119, 104, 97, 116] :: lnsOf (wrS (l.drop K)) := lnsOf_line [119, 104, 97, 116] _ (by decide)
              have e2 : lnsOf (wrS (l.drop K)) = (l.drop K).map evLine := by have := lnsOf_wr (l.drop K) []; simpa [lnsOf] using this
              rw [lnsOf_wr, e, e2]
              refine lines_short (mem_take HGD.out) _ ?_
              intro x hx
              rcases List.mem_cons.1 hx with rfl | hx
              · decide
              · have := lines_short (mem_drop (k := K) HGD.out) [] (by simp)
                exact this x (by simpa using hx)
            refine (read_wr w hG _ _ hw (by simp [whatL]; omega) hsh).mono ?_
            rintro e W ⟨v, he, hv, hk⟩
            obtain ⟨a, c, rfl, _⟩ := hv
            exact ⟨a, c, he, hk⟩
          have hcat : bs (wrS (l.take K)) ++ (⟨#[119, 104, 97, 116, 10]⟩ : ByteArray) ++ bs (wrS (l.drop K)) = bs (wrS (l.take K) ++ (whatL ++ wrS (l.drop K))) := by
            have e : (⟨#[119, 104, 97, 116, 10]⟩ : ByteArray) = bs whatL := rfl
            rw [e, bs_app, bs_app, List.append_assoc]
          have f6 : (bs (wrS (l.take K))).size ≤ 9223372036854775802 := by rw [bs_size]; omega
          have f7 : (bs (wrS (l.take K))).size + 5 + (bs (wrS (l.drop K))).size ≤ 9223372036854775807 := by rw [bs_size, bs_size]; omega
          have HJ1 := Lib.hid hj1; have HJ2 := Lib.hid hj2; have HRD := Lib.hid hrd
          clear hj1 hj2 hrd hs1 hs2 hst hl1 hl2 hlt hpl hk6 HG5 HK5 HSP hr0 hr1
          generalize bs (wrS (l.take K) ++ (whatL ++ wrS (l.drop K))) = BZ at *
          generalize bs (wrS (l.take K)) = BX at *
          generalize bs (wrS (l.drop K)) = BY at *
          have HCAT := Lib.hid hcat
          clear hcat
          have f1 : (K : Int) ≤ (C : Int) := by omega
          have f2 : (K : Int) ≤ (k : Int) + 1 := by omega
          have f3 : (k : Int) + 1 ≤ (C : Int) := by omega
          have f4 : ¬ C = K := by omega
          go_wp2_with fail
          refine wp_region_noPanic ?_
          refine wp_region_held_drew (S := fun w' => Keeps [] w6 w') (by kernel_rfl) ((Keeps.refl _ _).drew) (fun hHeld => ?_)
          apply wpAnyH_take (i := 0) (v := .slice (some ⟨B, 0, none⟩) (k + 1) C)
          · simp only [List.getElem?_toArray]; rfl
          · kernel_rfl
          · kernel_rfl
          · kernel_rfl
          · exact fun _ _ _ h => h
          · exact Or.inl ⟨by rfl, by intro w hSw; go_simp; try with_reducible rfl⟩
          · assumption
          try simp only [Act.put, List.setIfInBounds_toArray, List.set_cons_zero, List.set_cons_succ]
          apply wpAnyH_take (i := 1) (v := .int .i64 K)
          · simp only [List.getElem?_toArray]; rfl
          · kernel_rfl
          · kernel_rfl
          · kernel_rfl
          · exact fun _ _ _ h => h
          · exact Or.inl ⟨by rfl, by intro w hSw; go_simp; try with_reducible rfl⟩
          · assumption
          try simp only [Act.put, List.setIfInBounds_toArray, List.set_cons_zero, List.set_cons_succ]
          apply wpAnyH_take (i := 2) (v := .slice (some ⟨B, 0, none⟩) K C)
          · simp only [List.getElem?_toArray]; rfl
          · kernel_rfl
          · kernel_rfl
          · kernel_rfl
          · exact fun _ _ _ h => h
          · exact Or.inl ⟨by rfl, by intro w hSw; go_simp; try with_reducible rfl⟩
          · assumption
          try simp only [Act.put, List.setIfInBounds_toArray, List.set_cons_zero, List.set_cons_succ]
          apply wpAnyH_take (i := 5) (v := .slice (some ⟨B, 0, none⟩) (k + 1) C)
          · simp only [List.getElem?_toArray]; rfl
          · kernel_rfl
          · kernel_rfl
          · kernel_rfl
          · exact fun _ _ _ h => h
          · exact Or.inl ⟨by rfl, by intro w hSw; go_simp; try with_reducible rfl⟩
          · assumption
          try simp only [Act.put, List.setIfInBounds_toArray, List.set_cons_zero, List.set_cons_succ]
          apply wpAnyH_take (i := 6) (v := .int .i64 K)
          · simp only [List.getElem?_toArray]; rfl
          · kernel_rfl
          · kernel_rfl
          · kernel_rfl
          · exact fun _ _ _ h => h
          · exact Or.inl ⟨by rfl, by intro w hSw; go_simp; try with_reducible rfl⟩
          · assumption
          try simp only [Act.put, List.setIfInBounds_toArray, List.set_cons_zero, List.set_cons_succ]
          apply wpAnyH_take (i := 7) (v := .slice (some ⟨B, K, none⟩) (k + 1 - K) (C - K))
          · simp only [List.getElem?_toArray]; rfl
          · kernel_rfl
          · kernel_rfl
          · kernel_rfl
          · exact fun _ _ _ h => h
          · exact Or.inl ⟨by rfl, by intro w hSw; go_simp; try with_reducible rfl⟩
          · assumption
          try simp only [Act.put, List.setIfInBounds_toArray, List.set_cons_zero, List.set_cons_succ]
          apply wpAnyH_ready (rs := [3])
          · kernel_rfl
          · simp
          apply AllReadyH.cons (hs := AllReadyH.nil)
          · simp only [List.getElem?_toArray]; rfl
          intro K hK
          rw [if_pos (by rfl)]
          go_simp
          refine (HJ1.out _ (Keeps.refl [] w6).drew).mono ?_; rintro z w7 ⟨rfl, hk7⟩
          have hk7 : Keeps [] w6 w7 := hk7.undrew
          go_wp2_with fail
          refine hK.out _ _ ?_ (fun hHeld => ?_)
          · exact hk7
          clear hK K
          try simp only [Act.put, List.setIfInBounds_toArray, List.set_cons_zero, List.set_cons_succ]
          apply wpAnyH_take (i := 4) (v := .string (BX ++ ⟨#[119, 104, 97, 116, 10]⟩))
          · simp only [List.getElem?_toArray]; rfl
          · kernel_rfl
          · kernel_rfl
          · kernel_rfl
          · exact fun _ _ _ h => h
          · exact Or.inl ⟨by rfl, by intro w hSw; go_simp; try with_reducible rfl⟩
          · assumption
          try simp only [Act.put, List.setIfInBounds_toArray, List.set_cons_zero, List.set_cons_succ]
          apply wpAnyH_ready (rs := [8])
          · kernel_rfl
          · simp
          apply AllReadyH.cons (hs := AllReadyH.nil)
          · simp only [List.getElem?_toArray]; rfl
          intro K hK
          rw [if_pos (by rfl)]
          go_simp
          refine (HJ2.out _ hk7).mono ?_; rintro z w8 ⟨rfl, hk8⟩
          have hk8 : Keeps [] w6 w8 := hk7.trans hk8 (FSub.refl _ _)
          go_wp2_with fail
          refine hK.out _ _ ?_ (fun hHeld => ?_)
          · exact hk8
          clear hK K
          try simp only [Act.put, List.setIfInBounds_toArray, List.set_cons_zero, List.set_cons_succ]
          apply wpAnyH_take (i := 9) (v := .string (BX ++ ⟨#[119, 104, 97, 116, 10]⟩ ++ BY))
          · simp only [List.getElem?_toArray]; rfl
          · kernel_rfl
          · kernel_rfl
          · kernel_rfl
          · exact fun _ _ _ h => h
          · exact Or.inl ⟨by rfl, by intro w hSw; go_simp; try with_reducible rfl⟩
          · assumption
          try simp only [Act.put, List.setIfInBounds_toArray, List.set_cons_zero, List.set_cons_succ]
          apply wpAnyH_ready (rs := [10])
          · kernel_rfl
          · simp
          apply AllReadyH.cons (hs := AllReadyH.nil)
          · simp only [List.getElem?_toArray]; rfl
          intro K hK
          rw [if_pos (by rfl)]
          go_simp
          rw [HCAT.out]
          refine (HRD.out w8 (HG6.out.new hk8)).mono ?_; rintro z w9 ⟨ar, cr, rfl, hk9⟩
          have hk9 : Keeps [] w6 w9 := hk8.trans hk9 (FSub.refl _ _)
          have HG9 := Lib.hid (HG6.out.new hk9)
          have HK9 := Lib.hid (HK6.out.trans hk9 (FSub.refl _ _))
          go_wp2_with fail
          refine hK.out _ _ ?_ (fun hHeld => ?_)
          · exact hk9
          clear hK K
          try simp only [Act.put, List.setIfInBounds_toArray, List.set_cons_zero, List.set_cons_succ]
          apply wpAnyH_take (i := 11) (v := .tuple #[.slice ar 0 cr, .int .i64 ((K : Int) + 1), .int .i64 4])
          · simp only [List.getElem?_toArray]; rfl
          · kernel_rfl
          · kernel_rfl
          · kernel_rfl
          · exact fun _ _ _ h => h
          · exact Or.inl ⟨by rfl, by intro w hSw; go_simp; try with_reducible rfl⟩
          · assumption
          try simp only [Act.put, List.setIfInBounds_toArray, List.set_cons_zero, List.set_cons_succ]
          apply wpAnyH_take (i := 12) (v := .slice ar 0 cr)
          · simp only [List.getElem?_toArray]; rfl
          · kernel_rfl
          · kernel_rfl
          · kernel_rfl
          · exact fun _ _ _ h => h
          · exact Or.inl ⟨by rfl, by intro w hSw; go_simp; try with_reducible rfl⟩
          · assumption
          try simp only [Act.put, List.setIfInBounds_toArray, List.set_cons_zero, List.set_cons_succ]
          apply wpAnyH_take (i := 13) (v := .int .i64 ((K : Int) + 1))
          · simp only [List.getElem?_toArray]; rfl
          · kernel_rfl
          · kernel_rfl
          · kernel_rfl
          · exact fun _ _ _ h => h
          · exact Or.inl ⟨by rfl, by intro w hSw; go_simp; try with_reducible rfl⟩
          · assumption
          try simp only [Act.put, List.setIfInBounds_toArray, List.set_cons_zero, List.set_cons_succ]
          apply wpAnyH_take (i := 14) (v := .int .i64 4)
          · simp only [List.getElem?_toArray]; rfl
          · kernel_rfl
          · kernel_rfl
          · kernel_rfl
          · exact fun _ _ _ h => h
          · exact Or.inl ⟨by rfl, by intro w hSw; go_simp; try with_reducible rfl⟩
          · assumption
          try simp only [Act.put, List.setIfInBounds_toArray, List.set_cons_zero, List.set_cons_succ]
          apply wpAnyH_take (i := 15) (v := .slice ar 0 cr)
          · simp only [List.getElem?_toArray]; rfl
          · kernel_rfl
          · kernel_rfl
          · kernel_rfl
          · exact fun _ _ _ h => h
          · exact Or.inl ⟨by rfl, by intro w hSw; go_simp; try with_reducible rfl⟩
          · assumption
          try simp only [Act.put, List.setIfInBounds_toArray, List.set_cons_zero, List.set_cons_succ]
          apply wpAnyH_take (i := 16) (v := .int .i64 ((K : Int) + 1))
          · simp only [List.getElem?_toArray]; rfl
          · kernel_rfl
          · kernel_rfl
          · kernel_rfl
          · exact fun _ _ _ h => h
          · exact Or.inl ⟨by rfl, by intro w hSw; go_simp; try with_reducible rfl⟩
          · assumption
          try simp only [Act.put, List.setIfInBounds_toArray, List.set_cons_zero, List.set_cons_succ]
          apply wpAnyH_take (i := 17) (v := .int .i64 4)
          · simp only [List.getElem?_toArray]; rfl
          · kernel_rfl
          · kernel_rfl
          · kernel_rfl
          · exact fun _ _ _ h => h
          · exact Or.inl ⟨by rfl, by intro w hSw; go_simp; try with_reducible rfl⟩
          · assumption
          try simp only [Act.put, List.setIfInBounds_toArray, List.set_cons_zero, List.set_cons_succ]
          refine wpAnyH_done (by kernel_rfl) ?_ _
          refine NoPanic.normal ?_
          clear hk8 hk9
          go_wp2_with fail
          refine (works6_any w9 HG9.out).mono ?_; rintro z wa ⟨rfl, hka⟩
          have HKZ := Lib.hid (HK9.out.trans hka (FSub.refl _ _))
          clear hka
          go_wp2_with fail
          go_ret
          exact ⟨rfl, HKZ.out⟩
    · have hX : wrX l = [] ∧ wrE l = 4 := by unfold wrX wrE; rw [hg]; exact ⟨rfl, rfl⟩
      rw [hX.1, hX.2] at hw
      have HW := Lib.hid hw
      clear hX hw hg
      go_wp2_with fail
      refine HW.out.mono ?_; rintro z w2 ⟨rfl, hk2⟩
      have HK2 := Lib.hid (HK1.out.trans hk2 (FSub.refl _ _))
      have HG2 := Lib.hid (HG1.out.new hk2)
      clear hk2 HG1 HV1 HK1 HW
      go_wp2_with fail
      refine (works6_any w2 (HG2.out)).mono ?_; rintro z wa ⟨rfl, hka⟩
      have HKZ := Lib.hid (HK2.out.trans hka (FSub.refl _ _))
      clear hka
      go_wp2_with fail
      go_ret
      exact ⟨rfl, HKZ.out⟩
end Go.Proofs.YtiljdehhjiahdaaGreatDoor
