/-
  The document's object: Text.
-/
import Derived.Test.YtbnhcggjcdipeaaGreatDoorWS00
import Derived.Deep.RegionHeld3
import Derived.Test.YtbnhcggjcdipeaaGreatDoorWS25
import Derived.Test.YtbnhcggjcdipeaaGreatDoorWS09
import Derived.Test.YtbnhcggjcdipeaaGreatDoorWS08
import Derived.Test.YtbnhcggjcdipeaaGreatDoorWS17
set_option linter.unusedSimpArgs false
set_option linter.unusedVariables false
namespace Go.Proofs.YtbnhcggjcdipeaaGreatDoor
open Go.RowKit
theorem bs_cat (l m : List UInt8) : bs l ++ bs m = bs (l ++ m) := (bs_app l m).symm
theorem spT_len : ∀ {l : List (List UInt8)} {n : Nat}, (∀ x ∈ l, x.length ≤ n) → (spT l).length ≤ l.length * (n + 1)
  | [], _, _ => by simp [spT]
  | [x], n, h => by have := h x (by simp); simp [spT]; omega
  | x :: y :: r, n, h => by
    have h1 := h x (by simp)
    have h2 := spT_len (l := y :: r) (n := n) (fun z hz => h z (List.mem_cons_of_mem _ hz))
    show (x ++ 32 :: spT (y :: r)).length ≤ _
    rw [List.length_append, List.length_cons, List.length_cons, Nat.add_mul]
    omega
theorem dec_len5 {v : Int} (h : v < 65536) : (dec v).length ≤ 5 := by
  have := dec_length_le 4 v.toNat (by omega)
  exact this
/-- One number more. -/
theorem spT_next {l : List Int} {k : Nat} (hk : k < l.length) : spT ((l.take (k + 1)).map dec) = spT ((l.take k).map dec) ++ (if k = 0 then [] else [32]) ++ dec (l.getD k 0) := by
  rw [take_nextD 0 hk, List.map_append, List.map_cons, List.map_nil, spT_snoc]
  congr 2
  have : (l.take k).map dec = [] ↔ k = 0 := by
    rw [List.map_eq_nil_iff, List.take_eq_nil_iff]
    constructor
    · rintro (h | h)
      · exact h
      · rw [h] at hk; simp at hk
    · exact fun h => .inl h
  by_cases h : k = 0
  · rw [if_pos h, if_pos (this.2 h)]
  · rw [if_neg h, if_neg (fun e => h (this.1 e))]
theorem itT_len {x : It} (h0 : 0 ≤ x.k) (h1 : x.k < 8) (h2 : x.v < 65536) : (itT x).length ≤ 7 := by
  have a := dec_length_le 0 x.k.toNat (by omega)
  have b := dec_len5 h2
  show (dec x.k ++ 58 :: dec x.v).length ≤ 7
  rw [List.length_append, List.length_cons]
  have a' : (dec x.k).length ≤ 1 := a
  omega
/-- The items of a map's first keys. -/
def mpT (a : Kv) (k : Nat) : List UInt8 := spT ((itOf 0 (a.take k)).map itT)
theorem mpT_len {a : Kv} (h : KvIn a) {k : Nat} (hk : k ≤ 8) : (mpT a k).length ≤ 64 := by
  have h1 := itOf_len 0 (a.take k)
  have h2 : (a.take k).length ≤ 8 := by rw [List.length_take]; omega
  have h3 := spT_len (l := (itOf 0 (a.take k)).map itT) (n := 7) (fun x hx => by
    obtain ⟨y, hy, rfl⟩ := List.mem_map.1 hx
    have hy1 := itOf_keys 0 (a.take k) y hy
    obtain ⟨j, hj⟩ := itOf_mem 0 (a.take k) y hy
    have hv := h.rng j y.v (by rw [List.getElem?_take] at hj; split at hj <;> first | exact hj | cases hj)
    exact itT_len (by omega) (by omega) hv.2)
  rw [List.length_map] at h3
  calc _ ≤ (itOf 0 (a.take k)).length * (7 + 1) := h3
    _ ≤ 8 * 8 := Nat.mul_le_mul_right 8 (by omega)
    _ = 64 := rfl
theorem mpT_none {a : Kv} {k : Nat} (hk : k < a.length) (h : a.getD k none = none) : mpT a (k + 1) = mpT a k := by
  unfold mpT
  rw [itOf_next hk, h]
  simp
theorem mpT_some {a : Kv} {k : Nat} (hk : k < a.length) {v : Int} (h : a.getD k none = some v) : mpT a (k + 1) = mpT a k ++ (if mpT a k = [] then [] else [32]) ++ itT ⟨k, v⟩ := by
  unfold mpT
  rw [itOf_next hk, h, List.map_append, List.map_cons, List.map_nil, spT_snoc]
  congr 2
  cases he : (itOf 0 (a.take k)).map itT with
  | nil => rfl
  | cons x r =>
    rw [if_neg (by simp), if_neg]
    have hx : x ≠ [] := by
      have : x ∈ (itOf 0 (a.take k)).map itT := by rw [he]; simp
      obtain ⟨y, _, rfl⟩ := List.mem_map.1 this
      exact (itT_word y).1
    exact spT_ne hx
/-- Which item has a key, if any. -/
theorem at_key {a : Kv} {t : List It} (h : Rel a t) {k : Nat} (hk : k < 8) : ∃ J : Nat, (∀ i (hi : i < t.length), i ≠ J → t[i].k ≠ k) ∧
    ((t.length ≤ J ∧ mpT a (k + 1) = mpT a k) ∨ ∃ hJ : J < t.length, t[J].k = k ∧ (0 ≤ t[J].v ∧ t[J].v < 65536) ∧ mpT a (k + 1) = mpT a k ++ (if mpT a k = [] then [] else [32]) ++ itT t[J]) := by
  have hl : k < a.length := by rw [h.in_.len]; exact hk
  rcases rel_idx h hk with ⟨h1, h2⟩ | ⟨v, i, h1, h2, h3, h4⟩
  · exact ⟨t.length, fun i hi _ => idx_none h2 _ (List.getElem_mem hi), .inl ⟨Nat.le_refl _, mpT_none hl h1⟩⟩
  · obtain ⟨h5, h6⟩ := itIdx_some h2
    refine ⟨i, fun j hj hne e => hne ?_, .inr ⟨h5, h6, ?_, ?_⟩⟩
    · have hn := h.nodup
      have e2 : (t.map (·.k))[j]'(by simpa using hj) = (t.map (·.k))[i]'(by simpa using h5) := by simp [e, h6]
      exact (List.getElem_inj hn).1 e2
    · rw [List.getD_eq_getElem?_getD, List.getElem?_eq_getElem h5] at h4
      have h4' : t[i].v = v := h4
      rw [h4']
      exact h.in_.get h1
    · rw [mpT_some hl h1]
      congr 1
      rw [List.getD_eq_getElem?_getD, List.getElem?_eq_getElem h5] at h4
      have h4' : t[i].v = v := h4
      rw [← h4', ← h6]
section
variable {ops : Array Oper} {S : World → Prop} {o : Oper} {a : Act}
theorem yields_indexI (hw : Region.wanted o (yielded ops a.tmps) = true) (x y : Operand) (ho : o.op = .indexAddr 79 x y) (g of n c k : Nat) (hx : a.eval x = .slice (some ⟨g, of, none⟩) n c) (hy : a.eval y = .int .i64 k) (hk : k < n) :
    YieldsIf Tryz.prog ops S o (.pointer (some ⟨g, of + k * 2, none⟩)) a :=
  Or.inl ⟨hw, by
    have hk2 : (k : Int) < n := by omega
    intro w _
    unfold execOp
    simp only [ho, hx, hy]
    go_simp⟩
end
set_option maxHeartbeats 8000000
set_option maxRecDepth 100000
theorem r13Text_any (w : World) {S : Md} (hS : S.In) (hl : S.len ≤ 10000) {q m : Value} (hD : D13 w S q m) : Calls Tryz.prog 60 #[.agg (mdC S q m).toArray] w fun e w' => e = .returned (.string (bs (mdT S))) ∧ Keeps [] w w' := by
  have hn := heap_alloc_new w (.cells (mdC S q m).toArray 81)
  have hk : Keeps [] w (w.alloc (.cells (mdC S q m).toArray 81)) := (Keeps.refl _ _).alloc _
  have HK := Lib.hid hk; have HD := Lib.hid (hD.new hk)
  have HR := Lib.hid (block_range hn)
  cases S with
  | rg s =>
    have hs : 0 ≤ s ∧ s < 65536 := hS
    have HT := Lib.hid (fun w => r13Digits_any w s hs.1 hs.2)
    have c0 := (cell_lit hn 0 rfl : World.cell? _ _ = some (Value.int .u8 0))
    have c1 := (cell_lit hn 1 rfl : World.cell? _ _ = some (Value.int .u16 s))
    have e1 : IntKind.i64.wrap s = s := by simp [IntKind.wrap, IntKind.signed, IntKind.bits]; omega
    clear hn hk hD hS hs
    go_enter Tryz.func60, Tryz.ntmps60
    go_wp2_with fail
    refine (HT.out _).mono ?_; rintro e w1 ⟨rfl, hk1⟩
    have HK1 := Lib.hid (HK.out.trans hk1 (FSub.refl _ _))
    clear hk1 c0 c1
    go_wp2_with fail
    go_ret
    exact ⟨rfl, HK1.out⟩
  | qu l =>
    have hu : U16s l := hS
    have hln : l.length ≤ 10000 := hl
    have HQ := Lib.hid (show rkU.In (w.alloc (.cells (mdC (.qu l) q m).toArray 81)).heap.size (w.alloc (.cells (mdC (.qu l) q m).toArray 81)) q l from HD.out.q)
    obtain ⟨aq, cq, rfl, hcq, hmq, -⟩ := id HQ.out
    have c0 := (cell_lit hn 0 rfl : World.cell? _ _ = some (Value.int .u8 1))
    have HU := Lib.hid hu
    have HC2 := Lib.hid (cell_lit hn 2 rfl : World.cell? _ _ = some (Value.slice aq l.length cq))
    have HLN := Lib.hid hln
    have HM := Lib.hid (fun k => (spT_len (l := (l.take k).map dec) (n := 5) (fun x hx => by
      obtain ⟨v, hv, rfl⟩ := List.mem_map.1 hx
      exact dec_len5 (hu v (List.mem_of_mem_take hv)).2)))
    clear hn hk hD hS hl hu hln
    go_enter Tryz.func60, Tryz.ntmps60
    go_wp2_with fail
    generalize w.alloc (.cells (mdC (.qu l) (.slice aq l.length cq) m).toArray 81) = W at *
    go_loopw [3, 4] (fun z i wr => ∃ k : Nat, i = .int .i64 k ∧ k ≤ l.length ∧ z = .string (bs (spT ((l.take k).map dec))) ∧ Keeps [] W wr) (fun _ i _ => l.length - (intOf i).toNat)
    case atStart => exact ⟨0, rfl, Nat.zero_le _, rfl, Keeps.refl _ _⟩
    case round =>
      obtain ⟨k, rfl, hk, rfl, hkw⟩ := hrel
      have c2 : wr.cell? ⟨w.heap.size, 2, none⟩ = some (.slice aq l.length cq) := hkw.cell HC2.out (by simp)
      have hm := HM.out k
      have hs1 : (bs (spT ((l.take k).map dec))).size ≤ 60000 := by
        rw [bs_size]
        have := List.length_take_le k l
        have := HLN.out
        rw [List.length_map] at hm
        have h3 : (l.take k).length ≤ 10000 := by rw [List.length_take]; omega
        calc _ ≤ (l.take k).length * (5 + 1) := hm
          _ ≤ 10000 * 6 := Nat.mul_le_mul_right 6 h3
          _ = 60000 := rfl
      have HKW := Lib.hid hkw
      clear hm hkw
      by_cases hlt : k < l.length
      · obtain ⟨b1, o1, rfl, _, d1⟩ := U16.at (HQ.out.new HKW.out (Nat.le_refl _)) hlt
        have HX := Lib.hid (HU.out _ (getD_in 0 hlt))
        have HN := Lib.hid (spT_next hlt)
        generalize l.getD k 0 = X at *
        have HT := Lib.hid (fun w => r13Digits_any w X HX.out.1 HX.out.2)
        have e1 : IntKind.i64.wrap X = X := by have := HX.out; simp [IntKind.wrap, IntKind.signed, IntKind.bits]; omega
        have hs2 : (bs (dec X)).size ≤ 5 := by rw [bs_size]; exact dec_len5 HX.out.2
        by_cases h0 : k = 0
        · have z : ¬ (0 : Int) < (k : Int) := by omega
          have E := Lib.hid (show bs (spT ((l.take k).map dec)) ++ bs (dec X) = bs (spT ((l.take (k + 1)).map dec)) from by rw [bs_cat, HN.out, if_pos h0]; simp)
          generalize bs (spT ((l.take k).map dec)) = TS at *
          generalize bs (dec X) = SD at *
          clear h0
          go_wp2_with fail
          refine (HT.out _).mono ?_; rintro e w1 ⟨rfl, hk1⟩
          have HK1 := Lib.hid (HKW.out.trans hk1 (FSub.refl _ _))
          clear hk1 c2 d1
          go_wp2_with fail
          go_roundw
          case rel => exact ⟨k + 1, by go_num, by omega, by rw [← E.out], HK1.out⟩
          case measure => simp [intOf]; omega
        · have z : (0 : Int) < (k : Int) := by omega
          have E := Lib.hid (show bs (spT ((l.take k).map dec)) ++ ⟨#[32]⟩ ++ bs (dec X) = bs (spT ((l.take (k + 1)).map dec)) from by
            rw [show (⟨#[32]⟩ : ByteArray) = bs [32] from rfl, bs_cat, bs_cat, HN.out, if_neg h0])
          generalize bs (spT ((l.take k).map dec)) = TS at *
          generalize bs (dec X) = SD at *
          clear h0
          have hs3 : (TS ++ ⟨#[32]⟩).size ≤ 60001 := by rw [ByteArray.size_append]; show TS.size + 1 ≤ _; omega
          go_wp2_with fail
          refine (HT.out _).mono ?_; rintro e w1 ⟨rfl, hk1⟩
          have HK1 := Lib.hid (HKW.out.trans hk1 (FSub.refl _ _))
          clear hk1 c2 d1
          go_wp2_with fail
          go_roundw
          case rel => exact ⟨k + 1, by go_num, by omega, by rw [← E.out], HK1.out⟩
          case measure => simp [intOf]; omega
      · obtain rfl : k = l.length := by omega
        have E := Lib.hid (show ⟨#[91]⟩ ++ bs (spT ((l.take l.length).map dec)) ++ ⟨#[93]⟩ = bs (mdT (.qu l)) from by
          rw [List.take_length, show (⟨#[91]⟩ : ByteArray) = bs [91] from rfl, show (⟨#[93]⟩ : ByteArray) = bs [93] from rfl, bs_cat, bs_cat]
          simp [mdT])
        generalize bs (spT ((l.take l.length).map dec)) = TS at *
        have hs3 : (⟨#[91]⟩ ++ TS : ByteArray).size ≤ 60001 := by rw [ByteArray.size_append]; show 1 + TS.size ≤ _; omega
        go_wp2_with fail
        go_ret
        exact ⟨by rw [← E.out]; rfl, HK.out.trans HKW.out (FSub.refl _ _)⟩
  | mp a =>
    have ha : KvIn a := hS
    obtain ⟨t, ht, hti⟩ := id HD.out.m
    replace hti : Rel a t := hti
    have hf := hti.few
    obtain ⟨am, cm, rfl, hcm, hmm, -⟩ := id ht
    have c0 := (cell_lit hn 0 rfl : World.cell? _ _ = some (Value.int .u8 2))
    have HC3 := Lib.hid (cell_lit hn 3 rfl : World.cell? _ _ = some (Value.slice am t.length cm))
    have HTI := Lib.hid ht; have HRL := Lib.hid hti; have HLEN := Lib.hid (fun k hk => mpT_len ha (k := k) hk)
    clear hn hk hD hS hl ht hti
    go_enter Tryz.func60, Tryz.ntmps60
    go_wp2_with fail
    generalize w.alloc (.cells (mdC (.mp a) q (.slice am t.length cm)).toArray 81) = W at *
    go_loopw [5, 6] (fun z i wr => ∃ k : Nat, i = .int .i64 k ∧ k ≤ 8 ∧ z = .string (bs (mpT a k)) ∧ Keeps [] W wr) (fun _ i _ => 8 - (intOf i).toNat)
    case atStart => exact ⟨0, rfl, Nat.zero_le _, rfl, Keeps.refl _ _⟩
    case round =>
      obtain ⟨k, rfl, hk, rfl, hkw⟩ := hrel
      have HKW := Lib.hid hkw
      by_cases hlt : k < 8
      · obtain ⟨J, hJ1, hJ2⟩ := at_key HRL.out hlt
        have HJ1 := Lib.hid hJ1; have HJ2 := Lib.hid hJ2
        have HL0 := Lib.hid (HLEN.out k (by omega)); have HL1 := Lib.hid (HLEN.out (k + 1) (by omega))
        have z8 : (k : Int) < 8 := by omega
        clear hJ1 hJ2 hkw
        go_wp2_with fail
        go_loopw [5, 7] (fun z i wr => ∃ j : Nat, i = .int .i64 j ∧ j ≤ t.length ∧ z = .string (bs (if j ≤ J then mpT a k else mpT a (k + 1))) ∧ Keeps [] W wr) (fun _ i _ => t.length - (intOf i).toNat)
        case atStart => exact ⟨0, rfl, Nat.zero_le _, by rw [if_pos (Nat.zero_le _)], HKW.out⟩
        case round =>
          obtain ⟨j, rfl, hj, rfl, hkq⟩ := hrel
          have HKQ := Lib.hid hkq
          have c3 : wr.cell? ⟨w.heap.size, 3, none⟩ = some (.slice am t.length cm) := hkq.cell HC3.out (by simp)
          by_cases hjt : j < t.length
          · obtain ⟨b1, o1, rfl, _, hr1⟩ := It.at (HTI.out.new hkq (Nat.le_refl _)) hjt
            have HR1 := Lib.hid hr1
            have d0 : wr.cell? ⟨b1, o1 + j * 2, none⟩ = some (.int .u8 t[j].k) := hr1 0 _ rfl
            have hkeys := HRL.out.keys t[j] (List.getElem_mem hjt)
            have e1 : IntKind.i64.wrap t[j].k = t[j].k := by simp [IntKind.wrap, IntKind.signed, IntKind.bits]; omega
            have zj : (j : Int) < t.length := by omega
            clear hr1 hkq
            by_cases hJ : j = J
            · subst hJ
              rw [if_pos (Nat.le_refl _)]
              have hj2 := HJ2.out
              have HEND := Lib.hid (show bs (if j + 1 ≤ j then mpT a k else mpT a (k + 1)) = bs (mpT a (k + 1)) from by rw [if_neg (by omega)])
              obtain ⟨hk1, hrv, hk2⟩ : t[j].k = k ∧ (0 ≤ t[j].v ∧ t[j].v < 65536) ∧ mpT a (k + 1) = mpT a k ++ (if mpT a k = [] then [] else [32]) ++ itT t[j] := by
                rcases hj2 with ⟨h, _⟩ | ⟨_, h1, h2, h3⟩
                · omega
                · exact ⟨h1, h2, h3⟩
              have zk : (t[j].k != (k : Int)) = false := by simpa using hk1
              have HD1 := Lib.hid (show wr.cell? ⟨b1, o1 + j * 2 + 1, none⟩ = some (.int .u16 t[j].v) from HR1.out 1 _ rfl)
              have HT1 := Lib.hid (fun w => r13Digits_any w k (by omega) (by omega))
              have HT2 := Lib.hid (fun w => r13Digits_any w t[j].v hrv.1 hrv.2)
              have e2 : IntKind.i64.wrap t[j].v = t[j].v := by simp [IntKind.wrap, IntKind.signed, IntKind.bits]; omega
              have hs1 : (bs (mpT a k)).size ≤ 64 := by rw [bs_size]; exact HL0.out
              have hs2 : (bs (dec k)).size ≤ 5 := by rw [bs_size]; exact dec_len5 (by omega)
              have hs3 : (bs (dec t[j].v)).size ≤ 5 := by rw [bs_size]; exact dec_len5 hrv.2
              have HC3r := Lib.hid c3
              have hem : (bs (mpT a k)).toList.isEmpty = decide (mpT a k = []) := by rw [toL_bs]; cases mpT a k <;> rfl
              have hit : itT t[j] = dec k ++ 58 :: dec t[j].v := by rw [← hk1]; rfl
              rw [hit] at hk2
              by_cases hE : mpT a k = []
              · rw [decide_eq_true hE] at hem
                rw [if_pos hE] at hk2
                have E := Lib.hid (show bs (mpT a k) ++ bs (dec k) ++ ⟨#[58]⟩ ++ bs (dec t[j].v) = bs (mpT a (k + 1)) from by
                  rw [show (⟨#[58]⟩ : ByteArray) = bs [58] from rfl, bs_cat, bs_cat, bs_cat, hk2]; simp)
                generalize bs (mpT a k) = TS at *
                generalize bs (mpT a (k + 1)) = TE at *
                generalize bs (dec k) = SK at *
                generalize bs (dec t[j].v) = SV at *
                generalize t[j].v = vv at *
                generalize t[j].k = kk at *
                clear hE hk2 hit hk1 hrv hkeys hj2
                go_wp2_with fail
                have q1 : ¬ 9223372036854775807 < TS.size + SK.size := by omega
                have q2 : ¬ 9223372036854775807 < TS.size + SK.size + 1 := by omega
                have q3 : ¬ 9223372036854775807 < TS.size + SK.size + 1 + SV.size := by omega
                obtain ⟨S0, hS0⟩ : ∃ S0 : World → Prop, S0 = fun y => Keeps [] wr y := ⟨_, rfl⟩
                have HSE := Lib.hid hS0
                have hSD : S0 wr.drew := by rw [hS0]; exact (Keeps.refl _ _).drew
                have HS3 := Lib.hid (fun (w' : World) (hh : S0 w') => show w'.cell? ⟨w.heap.size, 3, none⟩ = some (.slice (some ⟨b1, o1, none⟩) t.length cm) from by rw [hS0] at hh; exact hh.cell HC3r.out (by simp))
                have HS4 := Lib.hid (fun (w' : World) (hh : S0 w') => show w'.cell? ⟨b1, o1 + j * 2 + 1, none⟩ = some (.int .u16 vv) from by rw [hS0] at hh; exact hh.cell HD1.out (by simp))
                clear hS0
                refine wp_region_noPanic ?_
                refine wp_region_held_drew (S := S0) (by kernel_rfl) hSD (fun hHeld => ?_)
                refine tw 0 (h := ?_)
                refine tw 1 (h := ?_)
                refine tw 5 (h := ?_)
                refine tk 6 (y := by exact Or.inl ⟨by rfl, by intro w hSw; have q0 := HS3.out w hSw; go_simp; try with_reducible rfl⟩) (h := ?_)
                refine tw 7 (h := ?_)
                refine tk 8 (y := by exact yields_indexI rfl _ _ rfl b1 o1 t.length cm j rfl rfl hjt) (h := ?_)
                refine tw 9 (h := ?_)
                refine tk 10 (y := by exact Or.inl ⟨by rfl, by intro w hSw; have q0 := HS4.out w hSw; go_simp; try with_reducible rfl⟩) (h := ?_)
                refine tw 11 (h := ?_)
                refine rp 2 (h := fun K hK => ?_)
                refine wp_call9 59 _ _ rfl [.int .i64 k] rfl Tryz.func59 (by kernel_rfl) (by kernel_rfl) ((HT1.out _).mono ?_)
                rintro e y1 ⟨rfl, hk1⟩
                refine ⟨_, rfl, ?_⟩
                have HY1 := Lib.hid (((Keeps.refl [] wr).drew).trans hk1 (FSub.refl _ _))
                clear hk1
                refine hK.out _ _ (by rw [HSE.out]; exact HY1.out) (fun hHeld => ?_); clear hK K; try simp only [Act.put, lsA, lsZ, lsS]
                refine tw 3 (h := ?_)
                refine tw 4 (h := ?_)
                refine rp 12 (h := fun K hK => ?_)
                refine wp_call9 59 _ _ rfl [.int .i64 vv] rfl Tryz.func59 (by kernel_rfl) (by kernel_rfl) ((HT2.out _).mono ?_)
                rintro e y2 ⟨rfl, hk2⟩
                refine ⟨_, rfl, ?_⟩
                have HY2 := Lib.hid (HY1.out.trans hk2 (FSub.refl _ _))
                clear hk2
                refine hK.out _ _ (by rw [HSE.out]; exact HY2.out) (fun hHeld => ?_); clear hK K; try simp only [Act.put, lsA, lsZ, lsS]
                refine tw 13 (h := ?_)
                refine tw 14 (h := ?_)
                refine wpAnyH_done (by kernel_rfl) ?_ _
                refine NoPanic.normal ?_
                go_wp2_with fail
                go_roundw
                case rel => exact ⟨j + 1, by go_num, by omega, by rw [HEND.out, ← E.out], HKQ.out.trans HY2.out (FSub.refl _ _)⟩
                case measure => simp [intOf]; omega
              · rw [decide_eq_false hE] at hem
                rw [if_neg hE] at hk2
                have E := Lib.hid (show bs (mpT a k) ++ ⟨#[32]⟩ ++ bs (dec k) ++ ⟨#[58]⟩ ++ bs (dec t[j].v) = bs (mpT a (k + 1)) from by
                  rw [show (⟨#[58]⟩ : ByteArray) = bs [58] from rfl, show (⟨#[32]⟩ : ByteArray) = bs [32] from rfl, bs_cat, bs_cat, bs_cat, bs_cat, hk2]; simp)
                generalize bs (mpT a k) = TQ at *
                generalize bs (mpT a (k + 1)) = TE at *
                generalize bs (dec k) = SK at *
                generalize bs (dec t[j].v) = SV at *
                generalize t[j].v = vv at *
                generalize t[j].k = kk at *
                have hs4 : (TQ ++ ⟨#[32]⟩).size ≤ 65 := by rw [ByteArray.size_append]; show TQ.size + 1 ≤ _; omega
                clear hE hk2 hit hk1 hrv hkeys hj2
                go_wp2_with fail
                generalize TQ ++ ⟨#[32]⟩ = TS at *
                have q1 : ¬ 9223372036854775807 < TS.size + SK.size := by omega
                have q2 : ¬ 9223372036854775807 < TS.size + SK.size + 1 := by omega
                have q3 : ¬ 9223372036854775807 < TS.size + SK.size + 1 + SV.size := by omega
                obtain ⟨S0, hS0⟩ : ∃ S0 : World → Prop, S0 = fun y => Keeps [] wr y := ⟨_, rfl⟩
                have HSE := Lib.hid hS0
                have hSD : S0 wr.drew := by rw [hS0]; exact (Keeps.refl _ _).drew
                have HS3 := Lib.hid (fun (w' : World) (hh : S0 w') => show w'.cell? ⟨w.heap.size, 3, none⟩ = some (.slice (some ⟨b1, o1, none⟩) t.length cm) from by rw [hS0] at hh; exact hh.cell HC3r.out (by simp))
                have HS4 := Lib.hid (fun (w' : World) (hh : S0 w') => show w'.cell? ⟨b1, o1 + j * 2 + 1, none⟩ = some (.int .u16 vv) from by rw [hS0] at hh; exact hh.cell HD1.out (by simp))
                clear hS0
                refine wp_region_noPanic ?_
                refine wp_region_held_drew (S := S0) (by kernel_rfl) hSD (fun hHeld => ?_)
                refine tw 0 (h := ?_)
                refine tw 1 (h := ?_)
                refine tw 5 (h := ?_)
                refine tk 6 (y := by exact Or.inl ⟨by rfl, by intro w hSw; have q0 := HS3.out w hSw; go_simp; try with_reducible rfl⟩) (h := ?_)
                refine tw 7 (h := ?_)
                refine tk 8 (y := by exact yields_indexI rfl _ _ rfl b1 o1 t.length cm j rfl rfl hjt) (h := ?_)
                refine tw 9 (h := ?_)
                refine tk 10 (y := by exact Or.inl ⟨by rfl, by intro w hSw; have q0 := HS4.out w hSw; go_simp; try with_reducible rfl⟩) (h := ?_)
                refine tw 11 (h := ?_)
                refine rp 2 (h := fun K hK => ?_)
                refine wp_call9 59 _ _ rfl [.int .i64 k] rfl Tryz.func59 (by kernel_rfl) (by kernel_rfl) ((HT1.out _).mono ?_)
                rintro e y1 ⟨rfl, hk1⟩
                refine ⟨_, rfl, ?_⟩
                have HY1 := Lib.hid (((Keeps.refl [] wr).drew).trans hk1 (FSub.refl _ _))
                clear hk1
                refine hK.out _ _ (by rw [HSE.out]; exact HY1.out) (fun hHeld => ?_); clear hK K; try simp only [Act.put, lsA, lsZ, lsS]
                refine tw 3 (h := ?_)
                refine tw 4 (h := ?_)
                refine rp 12 (h := fun K hK => ?_)
                refine wp_call9 59 _ _ rfl [.int .i64 vv] rfl Tryz.func59 (by kernel_rfl) (by kernel_rfl) ((HT2.out _).mono ?_)
                rintro e y2 ⟨rfl, hk2⟩
                refine ⟨_, rfl, ?_⟩
                have HY2 := Lib.hid (HY1.out.trans hk2 (FSub.refl _ _))
                clear hk2
                refine hK.out _ _ (by rw [HSE.out]; exact HY2.out) (fun hHeld => ?_); clear hK K; try simp only [Act.put, lsA, lsZ, lsS]
                refine tw 13 (h := ?_)
                refine tw 14 (h := ?_)
                refine wpAnyH_done (by kernel_rfl) ?_ _
                refine NoPanic.normal ?_
                go_wp2_with fail
                go_roundw
                case rel => exact ⟨j + 1, by go_num, by omega, by rw [HEND.out, ← E.out], HKQ.out.trans HY2.out (FSub.refl _ _)⟩
                case measure => simp [intOf]; omega
            · have zk : (t[j].k != (k : Int)) = true := by simpa using HJ1.out j hjt hJ
              have HSAME := Lib.hid (show (if j + 1 ≤ J then mpT a k else mpT a (k + 1)) = (if j ≤ J then mpT a k else mpT a (k + 1)) from by
                by_cases h : j ≤ J
                · rw [if_pos h, if_pos (by omega)]
                · rw [if_neg h, if_neg (by omega)])
              generalize (if j ≤ J then mpT a k else mpT a (k + 1)) = TT at *
              generalize t[j].k = kk at *
              go_wp2_with fail
              go_roundw
              case rel => exact ⟨j + 1, by go_num, by omega, by rw [HSAME.out], HKQ.out⟩
              case measure => simp [intOf]; omega
          · obtain rfl : j = t.length := by omega
            have HEND := Lib.hid (show (if t.length ≤ J then mpT a k else mpT a (k + 1)) = mpT a (k + 1) from by
              rcases HJ2.out with ⟨h, h2⟩ | ⟨h, _⟩
              · rw [if_pos h, h2]
              · rw [if_neg (by omega)])
            generalize (if t.length ≤ J then mpT a k else mpT a (k + 1)) = TT at *
            have zj : ¬ ((t.length : Nat) : Int) < t.length := by omega
            clear hjt hj hkq
            go_wp2_with fail
            go_roundw
            case rel => exact ⟨k + 1, by go_num, by omega, by rw [HEND.out], HKQ.out⟩
            case measure => simp [intOf]; omega
      · obtain rfl : k = 8 := by omega
        have E := Lib.hid (show ⟨#[123]⟩ ++ bs (mpT a 8) ++ ⟨#[125]⟩ = bs (mdT (.mp a)) from by
          rw [show (⟨#[123]⟩ : ByteArray) = bs [123] from rfl, show (⟨#[125]⟩ : ByteArray) = bs [125] from rfl, bs_cat, bs_cat]
          have : a.take 8 = a := List.take_of_length_le (by rw [HRL.out.in_.len]; exact Nat.le_refl _)
          simp [mdT, mpT, this])
        have hs1 : (bs (mpT a 8)).size ≤ 64 := by rw [bs_size]; exact HLEN.out 8 (Nat.le_refl _)
        generalize bs (mpT a 8) = TS at *
        have hs3 : (⟨#[123]⟩ ++ TS : ByteArray).size ≤ 65 := by rw [ByteArray.size_append]; show 1 + TS.size ≤ _; omega
        clear hlt hk hkw
        go_wp2_with fail
        go_ret
        exact ⟨by rw [← E.out]; rfl, HK.out.trans HKW.out (FSub.refl _ _)⟩
  | lk s =>
    have hs : 0 ≤ s ∧ s ≤ 16 := hS
    have c0 := (cell_lit hn 0 rfl : World.cell? _ _ = some (Value.int .u8 3))
    have c4 := (cell_lit hn 4 rfl : World.cell? _ _ = some (Value.int .i64 (s - 1)))
    by_cases h0 : s = 0
    · have e1 : mdT (.lk s) = freeT := if_pos h0
      rw [e1]
      have z : decide (s - 1 < 0) = true := decide_eq_true (by omega)
      clear hn hk hD hS hs h0 e1
      go_enter Tryz.func60, Tryz.ntmps60
      go_wp2_with fail
      go_ret
      exact ⟨rfl, HK.out⟩
    · have e1 : mdT (.lk s) = heldT ++ dec (s - 1) := if_neg h0
      rw [e1]
      have z : decide (s - 1 < 0) = false := decide_eq_false (by omega)
      have HT := Lib.hid (fun w => r13Digits_any w (s - 1) (by omega) (by omega))
      have hsz := dec_len5 (v := s - 1) (by omega)
      have hs1 : (bs (dec (s - 1))).size ≤ 5 := by rw [bs_size]; exact hsz
      have E := Lib.hid (bs_cat heldT (dec (s - 1)))
      clear hn hk hD hS hs h0 e1 hsz
      generalize hS0 : bs (dec (s - 1)) = SD at *
      go_enter Tryz.func60, Tryz.ntmps60
      go_wp2_with fail
      refine (HT.out _).mono ?_; rintro e w1 ⟨rfl, hk1⟩
      have HK1 := Lib.hid (HK.out.trans hk1 (FSub.refl _ _))
      clear hk1 c0 c4
      go_wp2_with fail
      go_ret
      exact ⟨by rw [← E.out]; rfl, HK1.out⟩
end Go.Proofs.YtbnhcggjcdipeaaGreatDoor
/-
  What the program's objects must tell; the law's alike, over any such program.
-/
namespace Go.Proofs.YtbnhcggjcdipeaaGreatDoor
open Go.RowKit
/-- The program's State: how many cells it has, and the zero one (to be set anew for each program). -/
def skM : SK := { T := 30, s := 1, d := _, und := Tryz.underlying30, row := rfl, size := by kernel_rfl }
def mdZ : List Value := [.nilIface]
/-- The same, as a walk shows it. -/
abbrev mdZA : Array Value := #[.nilIface]
theorem mdZ_ok : skM.Ok mdZ := ⟨rfl, fun v hv => by
  simp only [mdZ, List.mem_cons, List.not_mem_nil, or_false] at hv
  subst hv; rfl⟩
/-! What is told of an object, or of none. -/
def oModel : Option Md → Int
  | some S => S.model
  | none => 0
def oB : Option Md → List UInt8
  | some S => mdB S
  | none => []
def oT : Option Md → List UInt8
  | some S => mdT S
  | none => []
def oX : Option Md → Int → Opn → Option Md × Ans × Int
  | some S, c, x => (some (mdX S c x).1, (mdX S c x).2.1, (mdX S c x).2.2)
  | none, _, _ => (none, ⟨0, 0⟩, 1)
def oSame : Option Md → Option Md → Bool
  | some S, some T => decide (S.model = T.model ∧ mdB S = mdB T)
  | none, none => true
  | _, _ => false
def oInit : Option Md → Bool
  | some S => decide (mdB S = mdB (mdInit S.model))
  | none => false
def oLen : Option Md → Nat
  | some S => S.len
  | none => 0
def oNew (m : Int) : Option Md := if m ≤ 3 then some (mdInit m) else none
/-- What bytes are, of a model; the error. -/
def mdD (m : Int) (b : List UInt8) : Option Md × Int :=
  if m = 0 then (if b.length = 2 then (some (.rg (rgN b)), 0) else (none, 4))
  else if m = 1 then (if b.length % 2 = 1 then (none, 4) else (some (.qu (quN b)), 0))
  else if m = 2 then (if (kvD (nb b)).2 = 0 then (some (.mp (kvD (nb b)).1), 0) else (none, 4))
  else if m = 3 then (if (lkD b).2 = 0 then (some (.lk (lkD b).1), 0) else (none, 4))
  else (none, 10)
def mdIdle (m f : Int) : Bool := decide (m = 0 ∧ f = 1 ∨ m = 2 ∧ f = 6)
/-- What the program's objects tell; G: what its package-level variables hold. -/
structure MdProg (G : World → Prop) where
  At : World → Value → Option Md → Prop
  foot : Value → List Nat
  keepG : ∀ {w w' : World}, G w → Keeps [] w w' → G w'
  keep : ∀ {w w' : World} {F : List Nat} {st : Value} {O : Option Md}, At w st O → Keeps F w w' → (∀ q ∈ foot st, q ∉ F) → At w' st O
  old : ∀ {w : World} {st : Value} {O : Option Md}, At w st O → ∀ q ∈ foot st, q < w.heap.size
  cells : ∀ {w : World} {st : Value} {O : Option Md}, At w st O → ∃ A : List Value, st = .agg A.toArray ∧ skM.Ok A
  in_ : ∀ {w : World} {st : Value} {S : Md}, At w st (some S) → S.In
  zero : ∀ w, At w (.agg mdZ.toArray) none
  new : ∀ w m, G w → 0 ≤ m ∧ m < 256 → Calls Tryz.prog 30 #[.int .u8 m] w fun e w' => ∃ st, e = .returned (.tuple #[st, .int .i64 (if m ≤ 3 then 0 else 10)]) ∧ At w' st (oNew m) ∧ Keeps [] w w' ∧ ∀ q ∈ foot st, w.heap.size ≤ q
  model : ∀ w st O, G w → At w st O → Calls Tryz.prog 32 #[st] w fun e w' => e = .returned (.tuple #[.int .u8 (oModel O), .bool O.isSome]) ∧ Keeps [] w w'
  step : ∀ w st O c x, G w → At w st O → oLen O ≤ 1000 → 0 ≤ c ∧ c < 256 → x.In → Calls Tryz.prog 33 #[st, .int .u8 c, x.val] w fun e w' =>
    ∃ st', e = .returned (.tuple #[st', .agg (ansC (oX O c x).2.1).toArray, .int .i64 (oX O c x).2.2]) ∧ At w' st' (oX O c x).1 ∧ Keeps [] w w' ∧ FSub (foot st') (foot st) w.heap.size
  initial : ∀ w st O, G w → At w st O → oLen O ≤ 1000 → Calls Tryz.prog 41 #[st] w fun e w' => e = .returned (.bool (oInit O)) ∧ Keeps [] w w'
  enc : ∀ w st O, G w → At w st O → oLen O ≤ 1000 → Calls Tryz.prog 22 #[st] w fun e w' => e = .returned (.string (bs (oB O))) ∧ Keeps [] w w'
  text : ∀ w st O, G w → At w st O → oLen O ≤ 1000 → Calls Tryz.prog 48 #[st] w fun e w' => e = .returned (.string (bs (oT O))) ∧ Keeps [] w w'
variable {G : World → Prop}
/-- What its Same tells. -/
structure MdSame (R : MdProg G) : Prop where
  same : ∀ w st O st2 P, G w → R.At w st O → R.At w st2 P → oLen O ≤ 1000 → oLen P ≤ 1000 → Calls Tryz.prog 45 #[st, st2] w fun e w' => e = .returned (.bool (oSame O P)) ∧ Keeps [] w w'
/-- What its Decode tells. -/
structure MdDec (R : MdProg G) : Prop where
  dec : ∀ w m b, G w → 0 ≤ m ∧ m < 256 → b.length ≤ 1000 → Calls Tryz.prog 40 #[.int .u8 m, .string (bs b)] w fun e w' =>
    ∃ st, e = .returned (.tuple #[st, .int .i64 (mdD m b).2]) ∧ R.At w' st (mdD m b).1 ∧ Keeps [] w w' ∧ ∀ q ∈ R.foot st, w.heap.size ≤ q
theorem MdProg.new_ (R : MdProg G) {w w' : World} {st : Value} {O : Option Md} (h : R.At w st O) (hk : Keeps [] w w') : R.At w' st O := R.keep h hk (by simp)
section
variable {ops : Array Oper} {rest : List Oper} {a : Act} {w : World} {Q : Exit → Act → World → Prop}
theorem wpList_loadM {dst : Option Tmp} {ty : TypeId} {pos : String} {after : Array Edge} {gd : Option (Nat × Bool)} {x : Operand} {g off : Nat} {A : List Value} (hA : skM.Ok A)
    (hw : Region.wanted { dst := dst, op := .load 30 x, type := ty, pos := pos, after := after, guard := gd } (yielded ops a.tmps) = true)
    (hx : a.eval x = .pointer (some ⟨g, off, none⟩)) (hr : w.rangeAt g off A) (h : wpList Tryz.prog ops Q rest (a.put dst (.agg A.toArray)) w) :
    wpList Tryz.prog ops Q ({ dst := dst, op := .load 30 x, type := ty, pos := pos, after := after, guard := gd } :: rest) a w := skM.wpList_load hA hw hx hr h
theorem wpList_putM {dst : Option Tmp} {ty : TypeId} {pos : String} {after : Array Edge} {x y : Operand} {g : Nat} {old A : List Value} (hA : skM.Ok A) (hO : skM.Ok old) {t : TypeId}
    (hx : a.eval x = .pointer (some ⟨g, 0, none⟩)) (hy : a.eval y = .agg A.toArray) (hg : w.heap[g]? = some (.cells old.toArray t (0, 0)))
    (h : ∀ W, W.heap[g]? = some (.cells A.toArray t (0, 0)) → Keeps [g] w W → wpList Tryz.prog ops Q rest (a.put dst undef) W) :
    wpList Tryz.prog ops Q ({ dst := dst, op := .store 30 x y, type := ty, pos := pos, after := after, guard := none } :: rest) a w := skM.wpList_put hA hO hx hy hg h
end
end Go.Proofs.YtbnhcggjcdipeaaGreatDoor
/-
  The law's behind, over any program's objects.
-/
namespace Go.Proofs.YtbnhcggjcdipeaaGreatDoor
open Go.RowKit
set_option maxRecDepth 100000
section
variable {ops : Array Oper} {S : World → Prop} {o : Oper} {a : Act} {w : World} {K : Act → World → Prop} {Q : Exit → Act → World → Prop}
theorem run_allocM (w : World) : (Instr.alloc 30 true (.tuple #[])).run Tryz.prog w = .ok (.pointer (some ⟨w.heap.size, 0, none⟩)) (w.alloc (.cells mdZ.toArray 30)) := by kernel_rfl
theorem wp_allocM (ho : o.op = .alloc 30) (h : K (a.put o.dst (.pointer (some ⟨w.heap.size, 0, none⟩))) (w.alloc (.cells mdZ.toArray 30))) : o.wp Tryz.prog a w K Q := by
  unfold Oper.wp execOp
  simp only [ho, Sem.run_bind, run_allocM, Result.andThen_ok, Sem.run_pure]
  exact h
end
variable {G : World → Prop}
set_option maxHeartbeats 8000000
end Go.Proofs.YtbnhcggjcdipeaaGreatDoor
/-
  The law's behind of no model, and its awake, over any program's objects.
-/
namespace Go.Proofs.YtbnhcggjcdipeaaGreatDoor
open Go.RowKit
section
variable {ops : Array Oper} {rest : List Oper} {a : Act} {w : World} {Q : Exit → Act → World → Prop}
end
variable {G : World → Prop}
set_option maxHeartbeats 8000000
set_option maxRecDepth 100000
theorem dec_lit {n : Nat} (h : n < 10) : dec (n : Int) = [UInt8.ofNat (48 + n)] := by
  show Lib.decDigits n = _
  rw [dec_small h, Nat.mod_eq_of_lt h]
end Go.Proofs.YtbnhcggjcdipeaaGreatDoor
/-
  The law ModelSteps, over any program's objects.
-/
namespace Go.Proofs.YtbnhcggjcdipeaaGreatDoor
open Go.RowKit
set_option maxRecDepth 100000
section
variable {o : Oper} {a : Act} {w : World} {K : Act → World → Prop} {Q : Exit → Act → World → Prop}
theorem run_allocD (w : World) : (Instr.alloc 81 true (.tuple #[])).run Tryz.prog w = .ok (.pointer (some ⟨w.heap.size, 0, none⟩)) (w.alloc (.cells mdC0.toArray 81)) := by kernel_rfl
theorem wp_allocD (ho : o.op = .alloc 81) (h : K (a.put o.dst (.pointer (some ⟨w.heap.size, 0, none⟩))) (w.alloc (.cells mdC0.toArray 81))) : o.wp Tryz.prog a w K Q := by
  unfold Oper.wp execOp
  simp only [ho, Sem.run_bind, run_allocD, Result.andThen_ok, Sem.run_pure]
  exact h
end
section
variable {ops : Array Oper} {rest : List Oper} {a : Act} {w : World} {Q : Exit → Act → World → Prop}
theorem wpList_loadN13 {dst : Option Tmp} {ty : TypeId} {pos : String} {after : Array Edge} {gd : Option (Nat × Bool)} {x : Operand} {g : Nat} {y : Ans}
    (hw : Region.wanted { dst := dst, op := .load 25 x, type := ty, pos := pos, after := after, guard := gd } (yielded ops a.tmps) = true)
    (hx : a.eval x = .pointer (some ⟨g, 0, none⟩)) (hr : w.heap[g]? = some (.cells (ansC y).toArray 25 (0, 0))) (h : wpList Tryz.prog ops Q rest (a.put dst (.agg #[.int .u8 y.k, .int .u16 y.v])) w) :
    wpList Tryz.prog ops Q ({ dst := dst, op := .load 25 x, type := ty, pos := pos, after := after, guard := gd } :: rest) a w := skR.wpList_load (ansC_ok y) hw hx (block_range hr) h
end
/-- A region's end, told once: what it puts into which slot, and the facts. -/
theorem wp_join13 {P : Program} {c : Code} {Q : Exit → Act → World → Prop} {a : Act} {w : World} (f : Nat → Nat → Value → List Value → Act → Act) (F : Nat → Nat → Value → World → Prop)
    (h : c.wp P (fun e a' w' => e = .normal ∧ ∃ qa qb zv us, a' = f qa qb zv us a ∧ F qa qb zv w') a w)
    (k : ∀ qa qb zv us w', F qa qb zv w' → Q .normal (f qa qb zv us a) w') : c.wp P Q a w :=
  Code.wp_mono (fun e a' w' ⟨he, qa, qb, zv, us, ha, hf⟩ => by subst he; subst ha; exact k qa qb zv us w' hf) h
variable {G : World → Prop}
set_option maxHeartbeats 8000000
end Go.Proofs.YtbnhcggjcdipeaaGreatDoor
/-
  A world of eight objects of one model, as data: its steps, its bytes, its text; no program.
-/
namespace Go.Proofs.YtbnhcggjcdipeaaGreatDoor
open Go.RowKit
structure Wd where
  m : Int
  l : List Md
structure Wd.In (W : Wd) : Prop where
  m0 : 0 ≤ W.m
  m3 : W.m ≤ 3
  n : W.l.length = 8
  each : ∀ S ∈ W.l, S.model = W.m ∧ S.In
def wd0 (m : Int) : Wd := ⟨m, List.replicate 8 (mdInit m)⟩
def Wd.at (W : Wd) (o : Nat) : Md := W.l.getD o (mdInit W.m)
/-- None of its lists is longer. -/
def Wd.upto (W : Wd) (k : Nat) : Prop := ∀ S ∈ W.l, S.len ≤ k
/-- The object that an operation is told to. -/
def wObj (x : Opn) : Nat := if 7 < x.o then 0 else x.o.toNat
def Wd.put (W : Wd) (o : Nat) (S : Md) : Wd := ⟨W.m, W.l.set o S⟩
/-- A step: the world behind it, the answer, the error. -/
def wdX (W : Wd) (c : Int) (x : Opn) : Wd × Ans × Int :=
  if (mdX (W.at (wObj x)) c x).2.2 = 0 then (W.put (wObj x) (mdX (W.at (wObj x)) c x).1, (mdX (W.at (wObj x)) c x).2.1, 0)
  else (W, ⟨0, 0⟩, (mdX (W.at (wObj x)) c x).2.2)
theorem wObj_lt (x : Opn) : wObj x < 8 := by unfold wObj; split <;> omega
theorem wd0_in {m : Int} (h0 : 0 ≤ m) (h3 : m ≤ 3) : (wd0 m).In :=
  ⟨h0, h3, rfl, fun S hS => by rw [(List.mem_replicate.1 hS).2]; exact ⟨mdInit_model h0 h3, mdInit_in m⟩⟩
theorem wd0_upto (m : Int) (k : Nat) : (wd0 m).upto k := fun S hS => by rw [(List.mem_replicate.1 hS).2, mdInit_len]; exact Nat.zero_le _
theorem wd0_at (m : Int) (o : Nat) : (wd0 m).at o = mdInit m := by
  show (List.replicate 8 (mdInit m)).getD o (mdInit m) = _
  rw [List.getD_eq_getElem?_getD, List.getElem?_replicate]
  split <;> rfl
theorem Wd.at_mem {W : Wd} (h : W.In) {o : Nat} (ho : o < 8) : W.at o ∈ W.l := by
  have h1 : o < W.l.length := by rw [h.n]; exact ho
  have e : W.at o = W.l[o] := by show W.l.getD o _ = _; rw [List.getD_eq_getElem?_getD, List.getElem?_eq_getElem h1]; rfl
  rw [e]; exact List.getElem_mem h1
theorem Wd.at_in {W : Wd} (h : W.In) {o : Nat} (ho : o < 8) : (W.at o).model = W.m ∧ (W.at o).In := h.each _ (Wd.at_mem h ho)
theorem Wd.put_at {W : Wd} (h : W.In) {o : Nat} (ho : o < 8) (S : Md) (p : Nat) : (W.put o S).at p = if p = o then S else W.at p := by
  show (W.l.set o S).getD p (mdInit W.m) = if p = o then S else W.l.getD p (mdInit W.m)
  simp only [List.getD_eq_getElem?_getD, List.getElem?_set]
  have h1 : o < W.l.length := by rw [h.n]; exact ho
  by_cases hp : p = o
  · subst hp; simp [h1]
  · rw [if_neg (fun e => hp e.symm), if_neg hp]
theorem Wd.put_in {W : Wd} (h : W.In) {o : Nat} {S : Md} (hm : S.model = W.m) (hS : S.In) : (W.put o S).In :=
  ⟨h.m0, h.m3, by show (W.l.set o S).length = 8; rw [List.length_set, h.n], fun T hT => by
    rcases List.mem_or_eq_of_mem_set hT with h1 | h1
    · exact h.each T h1
    · rw [h1]; exact ⟨hm, hS⟩⟩
theorem Wd.put_upto {W : Wd} {k : Nat} (h : W.upto k) {o : Nat} {S : Md} (hS : S.len ≤ k) : (W.put o S).upto k := fun T hT => by
  rcases List.mem_or_eq_of_mem_set hT with h1 | h1
  · exact h T h1
  · rw [h1]; exact hS
/-- Worlds with the same objects are the same. -/
theorem Wd.ext_at {W V : Wd} (hW : W.In) (hV : V.In) (hm : W.m = V.m) (h : ∀ o, o < 8 → W.at o = V.at o) : W = V := by
  obtain ⟨m, l⟩ := W; obtain ⟨n, k⟩ := V
  simp only at hm
  subst hm
  have e : l = k := List.ext_getElem (by rw [hW.n, hV.n]) fun o h1 h2 => by
    have := h o (by have := hW.n; simp only at this; omega)
    simp only [Wd.at, List.getD_eq_getElem?_getD, List.getElem?_eq_getElem h1, List.getElem?_eq_getElem h2] at this
    exact this
  rw [e]
theorem wdX_m (W : Wd) (c : Int) (x : Opn) : (wdX W c x).1.m = W.m := by unfold wdX; split <;> rfl
theorem wdX_err (W : Wd) (c : Int) (x : Opn) : (wdX W c x).2.2 = if 15 < c then 2 else opChk (W.at (wObj x)).model x := by
  rw [← mdX_err]
  unfold wdX
  split
  · rename_i h; exact h.symm
  · rfl
theorem wdX_bad {W : Wd} {c : Int} {x : Opn} (h : (wdX W c x).2.2 ≠ 0) : (wdX W c x).1 = W ∧ (wdX W c x).2.1 = ⟨0, 0⟩ := by
  unfold wdX at h ⊢
  split
  · rename_i h1; rw [if_pos h1] at h; exact absurd rfl h
  · exact ⟨rfl, rfl⟩
theorem wdX_ok {W : Wd} {c : Int} {x : Opn} (h : (wdX W c x).2.2 = 0) : (mdX (W.at (wObj x)) c x).2.2 = 0 ∧ wdX W c x = (W.put (wObj x) (mdX (W.at (wObj x)) c x).1, (mdX (W.at (wObj x)) c x).2.1, 0) := by
  have h1 : (mdX (W.at (wObj x)) c x).2.2 = 0 := by rw [mdX_err]; rw [wdX_err] at h; exact h
  refine ⟨h1, ?_⟩
  unfold wdX
  rw [if_pos h1]
theorem wdX_in {W : Wd} (h : W.In) {c : Int} (h0 : 0 ≤ c) {x : Opn} (hx : x.In) : (wdX W c x).1.In := by
  unfold wdX
  have h1 := Wd.at_in h (wObj_lt x)
  split
  · exact Wd.put_in h (by rw [mdX_model]; exact h1.1) (mdX_in h1.2 h0 hx)
  · exact h
theorem wdX_upto {W : Wd} (h : W.In) {k : Nat} (hk : W.upto k) (c : Int) (x : Opn) : (wdX W c x).1.upto (k + 1) := by
  unfold wdX
  split
  · have h1 := hk _ (Wd.at_mem h (wObj_lt x))
    exact Wd.put_upto (fun S hS => Nat.le_succ_of_le (hk S hS)) (Nat.le_trans (mdX_len _ c x) (by omega))
  · exact fun S hS => Nat.le_succ_of_le (hk S hS)
/-- Those that are listed: number and state. -/
def liW (m : Int) : Nat → List Md → List (Nat × Md)
  | _, [] => []
  | i, S :: r => if mdB S = mdB (mdInit m) then liW m (i + 1) r else (i, S) :: liW m (i + 1) r
def Wd.li (W : Wd) : List (Nat × Md) := liW W.m 0 W.l
def itB (p : Nat × Md) : List UInt8 := UInt8.ofNat p.1 :: UInt8.ofNat ((mdB p.2).length / 256) :: UInt8.ofNat ((mdB p.2).length % 256) :: mdB p.2
def wtT (p : Nat × Md) : List UInt8 := dec (p.1 : Int) ++ 61 :: mdT p.2
/-- Its bytes. -/
def wdB (W : Wd) : List UInt8 := W.li.flatMap itB
/-- Its text. -/
def wdT (W : Wd) : List UInt8 := if W.li = [] then [45] else spT (W.li.map wtT)
theorem liW_mem (m : Int) : ∀ (i : Nat) (l : List Md), ∀ p ∈ liW m i l, i ≤ p.1 ∧ p.1 < i + l.length ∧ p.2 ∈ l ∧ mdB p.2 ≠ mdB (mdInit m)
  | i, [], p, h => by cases h
  | i, S :: r, p, h => by
    unfold liW at h
    split at h
    · obtain ⟨h1, h2, h3, h4⟩ := liW_mem m (i + 1) r p h
      exact ⟨by omega, by simp only [List.length_cons]; omega, List.mem_cons_of_mem _ h3, h4⟩
    · rename_i hS
      rcases List.mem_cons.1 h with rfl | h
      · exact ⟨Nat.le_refl _, by simp only [List.length_cons]; omega, List.mem_cons_self, hS⟩
      · obtain ⟨h1, h2, h3, h4⟩ := liW_mem m (i + 1) r p h
        exact ⟨by omega, by simp only [List.length_cons]; omega, List.mem_cons_of_mem _ h3, h4⟩
theorem Wd.li_mem {W : Wd} (h : W.In) : ∀ p ∈ W.li, p.1 < 8 ∧ p.2.model = W.m ∧ p.2.In ∧ mdB p.2 ≠ mdB (mdInit W.m) := fun p hp => by
  obtain ⟨-, h2, h3, h4⟩ := liW_mem W.m 0 W.l p hp
  rw [h.n] at h2
  exact ⟨by omega, (h.each _ h3).1, (h.each _ h3).2, h4⟩
end Go.Proofs.YtbnhcggjcdipeaaGreatDoor
/-
  A world's bytes and text tell it; what bytes are, as data; no program.
-/
namespace Go.Proofs.YtbnhcggjcdipeaaGreatDoor
open Go.RowKit
theorem wtT_ne (p : Nat × Md) : wtT p ≠ [] := fun h => dec_ne' _ (List.append_eq_nil_iff.1 h).1
theorem mdB_short {S : Md} (h : S.In) {k : Nat} (hk : S.len ≤ k) : (mdB S).length ≤ 2 * k + 300 := by
  cases S with
  | rg s => show (rgB s).length ≤ _; rw [rgB_len]; omega
  | qu l => show (quB l).length ≤ _; rw [quB_len]; have : l.length ≤ k := hk; omega
  | mp m =>
    show ((kvBn m).map _).length ≤ _
    rw [List.length_map]
    have h1 := kvR_len m
    have h2 : m.length = 8 := h.1
    show (kvR m).length + 1 ≤ _
    omega
  | lk s => show 1 ≤ _; omega
/-- The object that the first byte names, and how many bytes its state has. -/
def bO (b : List UInt8) : Nat := (b.getD 0 0).toNat
def bL (b : List UInt8) : Nat := 256 * (b.getD 1 0).toNat + (b.getD 2 0).toNat
/-- What bytes are: n rounds at most, the states so far, the number last told. -/
def wdD (m : Int) : Nat → List Md → Int → List UInt8 → Option (List Md) × Int
  | 0, l, _, _ => (some l, 0)
  | n + 1, l, last, b =>
    if b = [] then (some l, 0)
    else if b.length < 3 ∨ b.length < 3 + bL b then (none, 5)
    else if 7 < bO b ∨ (bO b : Int) ≤ last then (none, 4)
    else match (mdD m ((b.drop 3).take (bL b))).1 with
      | none => (none, (mdD m ((b.drop 3).take (bL b))).2)
      | some S => if mdB S = mdB (mdInit m) then (none, 4) else wdD m n (l.set (bO b) S) (bO b) (b.drop (3 + bL b))
/-- The world that bytes are; the error. -/
def wdDec (m : Int) (b : List UInt8) : Option Wd × Int :=
  if m ≤ 3 then ((wdD m b.length (wd0 m).l (-1) b).1.map fun l => ⟨m, l⟩, (wdD m b.length (wd0 m).l (-1) b).2) else (none, 10)
theorem wdD_nil (m : Int) (n : Nat) (l : List Md) (last : Int) : wdD m n l last [] = (some l, 0) := by
  cases n with
  | zero => rfl
  | succ n => unfold wdD; rw [if_pos rfl]
/-- What an object's part says. -/
theorem itB_O {p : Nat × Md} (h : p.1 < 256) (r : List UInt8) : bO (itB p ++ r) = p.1 := by
  show (UInt8.ofNat p.1).toNat = p.1
  rw [UInt8.toNat_ofNat']; omega
theorem itB_L {p : Nat × Md} (h : (mdB p.2).length < 65536) (r : List UInt8) : bL (itB p ++ r) = (mdB p.2).length := by
  show 256 * (UInt8.ofNat ((mdB p.2).length / 256)).toNat + (UInt8.ofNat ((mdB p.2).length % 256)).toNat = _
  rw [UInt8.toNat_ofNat', UInt8.toNat_ofNat']; omega
theorem itB_len (p : Nat × Md) : (itB p).length = 3 + (mdB p.2).length := by simp [itB]; omega
end Go.Proofs.YtbnhcggjcdipeaaGreatDoor
/-
  A world's bytes are read back, and what was read has those bytes; no program.
-/
namespace Go.Proofs.YtbnhcggjcdipeaaGreatDoor
open Go.RowKit
theorem ofNat_toNat8 (x : UInt8) : UInt8.ofNat x.toNat = x := by
  have := x.toNat_lt
  apply UInt8.toNat_inj.1
  rw [UInt8.toNat_ofNat']; omega
theorem mdD_took {m : Int} {b : List UInt8} {S : Md} (h : (mdD m b).1 = some S) : S.model = m ∧ S.In ∧ mdB S = b ∧ (mdD m b).2 = 0 := by
  unfold mdD at h ⊢
  split at h
  · rename_i h1
    rw [if_pos h1]
    split at h
    · rename_i h2
      rw [if_pos h2]
      obtain rfl := Option.some.inj h
      refine ⟨h1.symm, ?_, rgB_rgN h2, rfl⟩
      match b, h2 with
      | [x, y], _ =>
        have hx := x.toNat_lt; have hy := y.toNat_lt
        show 0 ≤ (x.toNat : Int) * 256 + y.toNat ∧ (x.toNat : Int) * 256 + y.toNat < 65536
        omega
    · cases h
  · rename_i h1
    rw [if_neg h1]
    split at h
    · rename_i h1
      rw [if_pos h1]
      split at h
      · cases h
      · rename_i h2
        rw [if_neg h2]
        obtain rfl := Option.some.inj h
        exact ⟨h1.symm, quN_in b, quB_quN (by omega), rfl⟩
    · rename_i h1
      rw [if_neg h1]
      split at h
      · rename_i h1
        rw [if_pos h1]
        split at h
        · rename_i h2
          rw [if_pos h2]
          obtain rfl := Option.some.inj h
          refine ⟨h1.symm, kvD_in (nb_u8 b), ?_, rfl⟩
          show ((kvBn (kvD (nb b)).1).map fun n => UInt8.ofNat n.toNat) = b
          rw [kvD_back (nb_u8 b) h2]
          simp only [nb, List.map_map]
          conv => rhs; rw [← List.map_id b]
          exact List.map_congr_left fun x _ => by simp only [Function.comp, Int.toNat_natCast, ofNat_toNat8, id]
        · cases h
      · rename_i h1
        rw [if_neg h1]
        split at h
        · rename_i h1
          rw [if_pos h1]
          split at h
          · rename_i h2
            rw [if_pos h2]
            obtain rfl := Option.some.inj h
            by_cases hb : b.length = 1
            · match b, hb with
              | [x], _ =>
                rw [lkD_one] at h2 ⊢
                split at h2
                · rename_i hx
                  rw [if_pos hx]
                  refine ⟨h1.symm, ⟨Int.natCast_nonneg _, hx⟩, ?_, rfl⟩
                  show [UInt8.ofNat (x.toNat : Int).toNat] = [x]
                  rw [Int.toNat_natCast, ofNat_toNat8]
                · cases h2
            · rw [lkD_not hb] at h2; cases h2
          · cases h
        · cases h
theorem mdD_bk {S : Md} (h : S.In) : mdD S.model (mdB S) = (some S, 0) := by
  cases S with
  | rg s =>
    show (if (rgB s).length = 2 then (some (Md.rg (rgN (rgB s))), 0) else (none, 4)) = _
    rw [if_pos (rgB_len s), rgN_rgB h]
  | qu l =>
    show (if (quB l).length % 2 = 1 then (none, 4) else (some (Md.qu (quN (quB l))), 0)) = _
    rw [quB_len, if_neg (by omega), quN_quB h]
  | mp m =>
    show (if (kvD (nb (kvBy m))).2 = 0 then (some (Md.mp (kvD (nb (kvBy m))).1), 0) else (none, 4)) = _
    rw [kvBy_nb h, kvD_enc h]
    rfl
  | lk s =>
    have h1 : 0 ≤ s ∧ s ≤ 16 := h
    show (if (lkD [UInt8.ofNat s.toNat]).2 = 0 then (some (Md.lk (lkD [UInt8.ofNat s.toNat]).1), 0) else (none, 4)) = _
    have e : ((UInt8.ofNat s.toNat).toNat : Int) = s := by rw [UInt8.toNat_ofNat']; omega
    rw [lkD_one, e, if_pos h1.2]
    rfl
theorem mdB_long {S : Md} : S.len ≤ (mdB S).length := by
  cases S with
  | qu l => show l.length ≤ (quB l).length; rw [quB_len]; omega
  | _ => exact Nat.zero_le _
theorem wdD_go {m : Int} (h0 : 0 ≤ m) (h3 : m ≤ 3) : ∀ (r pre : List Md) (n : Nat) (last : Int), (∀ S ∈ r, S.model = m ∧ S.In ∧ S.len ≤ 20000) → pre.length + r.length ≤ 8 → last < pre.length → ((liW m pre.length r).flatMap itB).length ≤ n →
    wdD m n (pre ++ List.replicate r.length (mdInit m)) last ((liW m pre.length r).flatMap itB) = (some (pre ++ r), 0)
  | [], pre, n, last, _, _, _, _ => by
    show wdD m n (pre ++ []) last [] = (some (pre ++ []), 0)
    exact wdD_nil ..
  | S :: r, pre, n, last, hr, h8, hl, hn => by
    obtain ⟨s1, s2, s3⟩ := hr S List.mem_cons_self
    have hr' := fun A hA => hr A (List.mem_cons_of_mem _ hA)
    simp only [List.length_cons] at h8
    by_cases hS : mdB S = mdB (mdInit m)
    · have e : S = mdInit m := (mdB_inj s2 (mdInit_in m) (by rw [s1, mdInit_model h0 h3])).1 hS
      have ih := wdD_go h0 h3 r (pre ++ [S]) n last hr' (by simp; omega) (by simp; omega)
      unfold liW at hn ⊢
      rw [if_pos hS] at hn ⊢
      simp only [List.length_append, List.length_cons, List.length_nil, Nat.zero_add] at ih
      have ih2 := ih hn
      rw [List.append_assoc, List.append_assoc] at ih2
      rw [← e] at ih2 ⊢
      exact ih2
    · unfold liW at hn ⊢
      rw [if_neg hS] at hn ⊢
      rw [List.flatMap_cons] at hn ⊢
      have ih := fun n => wdD_go h0 h3 r (pre ++ [S]) n pre.length hr' (by simp; omega) (by simp only [List.length_append, List.length_cons, List.length_nil]; omega)
      simp only [List.length_append, List.length_cons, List.length_nil, Nat.zero_add] at ih
      generalize (liW m (pre.length + 1) r).flatMap itB = R at *
      have hb := mdB_short s2 s3
      have hO := itB_O (p := (pre.length, S)) (show pre.length < 256 by omega) R
      have hL := itB_L (p := (pre.length, S)) (show (mdB S).length < 65536 by omega) R
      have hlen := itB_len (pre.length, S)
      simp only at hO hL hlen
      have hd : (itB (pre.length, S) ++ R).drop 3 = mdB S ++ R := rfl
      have hd2 : (itB (pre.length, S) ++ R).drop (3 + (mdB S).length) = R := by
        rw [← List.drop_drop, hd, List.drop_left]
      rw [List.length_append] at hn
      obtain ⟨k, rfl⟩ : ∃ k, n = k + 1 := ⟨n - 1, by omega⟩
      unfold wdD
      rw [if_neg (by intro e; have := congrArg List.length e; rw [List.length_append, hlen, List.length_nil] at this; omega), if_neg (by rw [hL, List.length_append]; omega), if_neg (by rw [hO]; omega), hL, hd, List.take_left, hO, hd2]
      have hD : mdD m (mdB S) = (some S, 0) := by rw [← s1]; exact mdD_bk s2
      rw [hD]
      show (if mdB S = mdB (mdInit m) then _ else _) = _
      rw [if_neg hS]
      have e : (pre ++ List.replicate (S :: r).length (mdInit m)).set pre.length S = pre ++ [S] ++ List.replicate r.length (mdInit m) := by
        rw [List.set_append_right _ _ (Nat.le_refl _), Nat.sub_self, List.append_assoc]
        rfl
      rw [e, ih k (by omega), List.append_assoc]
      rfl
theorem wdDec_back {W : Wd} (h : W.In) (hu : W.upto 20000) : wdDec W.m (wdB W) = (some W, 0) := by
  have h1 := wdD_go h.m0 h.m3 W.l [] (wdB W).length (-1) (fun S hS => ⟨(h.each S hS).1, (h.each S hS).2, hu S hS⟩) (by simp [h.n]) (by simp) (Nat.le_refl _)
  rw [h.n] at h1
  unfold wdDec
  rw [if_pos h.m3]
  have h2 : wdD W.m (wdB W).length (wd0 W.m).l (-1) (wdB W) = (some W.l, 0) := h1
  rw [h2]
  rfl
end Go.Proofs.YtbnhcggjcdipeaaGreatDoor
/-
  Steps of unlike objects ask for no order: the worlds behind calls, as data; no program.
-/
namespace Go.Proofs.YtbnhcggjcdipeaaGreatDoor
open Go.RowKit
/-- A world behind calls: those that are told an error change nothing. -/
def bhW (W : Wd) : List Cl → Wd
  | [] => W
  | y :: l => bhW (wdX W y.c y.x).1 l
theorem bhW_app : ∀ (W : Wd) (l k : List Cl), bhW W (l ++ k) = bhW (bhW W l) k
  | _, [], _ => rfl
  | W, y :: l, k => bhW_app (wdX W y.c y.x).1 l k
theorem bhW_next {W : Wd} {l : List Cl} {k : Nat} (hk : k < l.length) : bhW W (l.take (k + 1)) = (wdX (bhW W (l.take k)) l[k].c l[k].x).1 := by
  rw [List.take_add_one, List.getElem?_eq_getElem hk, Option.toList_some, bhW_app]
  rfl
theorem bhW_in : ∀ {W : Wd} (l : List Cl), W.In → (∀ y ∈ l, y.In) → (bhW W l).In
  | _, [], h, _ => h
  | W, y :: l, h, hl => bhW_in l (wdX_in h (hl y (by simp)).c0 (hl y (by simp)).x) (fun z hz => hl z (by simp [hz]))
theorem bhW_m : ∀ (W : Wd) (l : List Cl), (bhW W l).m = W.m
  | _, [] => rfl
  | W, y :: l => (bhW_m (wdX W y.c y.x).1 l).trans (wdX_m W y.c y.x)
theorem bhW_upto : ∀ {W : Wd} (l : List Cl) {k : Nat}, W.In → (∀ y ∈ l, y.In) → W.upto k → (bhW W l).upto (k + l.length)
  | _, [], _, _, _, h => h
  | W, y :: l, k, h, hl, hk => by
    have h1 := bhW_upto l (wdX_in h (hl y (by simp)).c0 (hl y (by simp)).x) (fun z hz => hl z (by simp [hz])) (wdX_upto h hk y.c y.x)
    intro S hS
    have := h1 S hS
    simp only [List.length_cons]
    omega
end Go.Proofs.YtbnhcggjcdipeaaGreatDoor
/-
  What a step's call tells, whatever is stepped: its cells, what lasts, whose blocks; a region's end.
-/
namespace Go.Proofs.YtbnhcggjcdipeaaGreatDoor
open Go.RowKit
/-- Something in memory: its cells, what holds of it, which blocks are its own (Ap x p: all of them satisfy p). -/
structure Kept (β : Type) where
  cs : β → List Value
  P : β → World → Prop
  Ap : β → (Nat → Prop) → Prop
  keep : ∀ {x : β} {w w' : World} {F : List Nat}, P x w → Keeps F w w' → Ap x (fun q => q ∉ F) → P x w'
  old : ∀ {x : β} {w : World}, P x w → Ap x (fun q => q < w.heap.size)
  mono : ∀ {x : β} {p p' : Nat → Prop}, Ap x p → (∀ q, p q → p' q) → Ap x p'
  and_ : ∀ {x : β} {p p' : Nat → Prop}, Ap x p → Ap x p' → Ap x (fun q => p q ∧ p' q)
variable {β : Type}
theorem Kept.new (kp : Kept β) {x : β} {w w' : World} (h : kp.P x w) (hk : Keeps [] w w') : kp.P x w' := kp.keep h hk (kp.mono (kp.old h) (fun _ _ => by simp))
theorem Kept.put (kp : Kept β) {x : β} {w w' : World} {g : Nat} (h : kp.P x w) (hk : Keeps [g] w w') (hg : kp.Ap x (fun q => q ≠ g)) : kp.P x w' := kp.keep h hk (kp.mono hg (fun _ h => by simpa using h))
/-- What a step tells: the new thing, the answer, the error; ol: the old one's blocks. -/
def Post3 (kp : Kept β) (r : Ans) (e1 : Int) (ol : (Nat → Prop) → Prop) (w : World) (e : Ending) (w' : World) : Prop :=
  ∃ x : β, e = .returned (.tuple #[.agg (kp.cs x).toArray, .agg (ansC r).toArray, .int .i64 e1]) ∧ kp.P x w' ∧ Keeps [] w w' ∧ ∀ p : Nat → Prop, ol p → (∀ q, w.heap.size ≤ q → p q) → kp.Ap x p
/-- Behind a region that calls a step and lays its answers into two new blocks. -/
def Fin3 (kp : Kept β) (T : TypeId) (r : Ans) (ol : (Nat → Prop) → Prop) (V : World) (qa qb : Nat) (zv : Value) (w' : World) : Prop :=
  ∃ x : β, zv = .agg (kp.cs x).toArray ∧ w'.heap[qa]? = some (.cells (kp.cs x).toArray T (0, 0)) ∧ w'.heap[qb]? = some (.cells (ansC r).toArray 25 (0, 0)) ∧ kp.P x w' ∧ Keeps [] V w' ∧ V.heap.size ≤ qa ∧ V.heap.size ≤ qb ∧ qa ≠ qb ∧ (∀ p : Nat → Prop, ol p → (∀ q, V.heap.size ≤ q → p q) → kp.Ap x p) ∧ kp.Ap x (fun q => q ≠ qa ∧ q ≠ qb)
/-- The same with one new block, for the thing alone. -/
def Fin1 (kp : Kept β) (T : TypeId) (ol : (Nat → Prop) → Prop) (V : World) (qa : Nat) (zv : Value) (w' : World) : Prop :=
  ∃ x : β, zv = .agg (kp.cs x).toArray ∧ w'.heap[qa]? = some (.cells (kp.cs x).toArray T (0, 0)) ∧ kp.P x w' ∧ Keeps [] V w' ∧ V.heap.size ≤ qa ∧ (∀ p : Nat → Prop, ol p → (∀ q, V.heap.size ≤ q → p q) → kp.Ap x p) ∧ kp.Ap x (fun q => q ≠ qa)
end Go.Proofs.YtbnhcggjcdipeaaGreatDoor
/-
  The document's world in memory: a row of objects, each with its two lists.
-/
namespace Go.Proofs.YtbnhcggjcdipeaaGreatDoor
open Go.RowKit
set_option maxRecDepth 100000
/-- An object and where its lists lie. -/
structure Mq where
  S : Md
  qa : Option Addr
  qn : Nat
  qc : Nat
  ma : Option Addr
  mn : Nat
  mc : Nat
def Mq.q (y : Mq) : Value := .slice y.qa y.qn y.qc
def Mq.p (y : Mq) : Value := .slice y.ma y.mn y.mc
def mqC (y : Mq) : List Value := mdC y.S y.q y.p
theorem mqC_one (y : Mq) : ∀ v ∈ mqC y, v.oneCell' = true := fun v hv => by
  simp only [mqC, mdC, Mq.q, Mq.p, List.mem_cons, List.not_mem_nil, or_false] at hv
  rcases hv with rfl | rfl | rfl | rfl | rfl <;> rfl
theorem Tryz.infoMd13 : (Tryz.prog.info? 81).map (fun i => (i.zero, i.size, i.bytes)) = some (some (.agg mdC0.toArray), 5, 64) := by kernel_rfl
/-- Objects side by side. -/
noncomputable def rkW : RK Mq :=
  { T := 81, Sl := 37, s := 5, b := 64, cs := mqC, i := (info_parts Tryz.infoMd13).choose, z := .agg mdC0.toArray,
    len := fun _ => rfl, one := mqC_one, s0 := by decide, b1 := by decide, und := Tryz.underlying37,
    hi := (info_parts Tryz.infoMd13).choose_spec.1, hz := (info_parts Tryz.infoMd13).choose_spec.2.1, hs := (info_parts Tryz.infoMd13).choose_spec.2.2.1, hb := (info_parts Tryz.infoMd13).choose_spec.2.2.2, hzs := rfl }
/-- The document's world: two cells. -/
def skWd : SK := { T := 39, s := 2, d := _, und := Tryz.underlying39, row := rfl, size := by kernel_rfl }
def wdC (m : Int) (v : Value) : List Value := [.int .u8 m, v]
def wdC0 : List Value := [.int .u8 0, .slice none 0 0]
theorem wdC_ok (m : Int) (a : Option Addr) (n c : Nat) : skWd.Ok (wdC m (.slice a n c)) := ⟨rfl, fun v hv => by
  simp only [wdC, List.mem_cons, List.not_mem_nil, or_false] at hv
  rcases hv with rfl | rfl <;> rfl⟩
/-- All their lists lie there. -/
def All13 (w : World) (L : List Mq) : Prop := ∀ y ∈ L, D13 w y.S y.q y.p
/-- The document's world lies there: W's objects, in the row v. -/
structure W14 (w : World) (W : Wd) (v : Value) (L : List Mq) : Prop where
  row : rkW.In w.heap.size w v L
  is : L.map (·.S) = W.l
  all : All13 w L
theorem All13.new {w w' : World} {L : List Mq} (h : All13 w L) (hk : Keeps [] w w') : All13 w' L := fun y hy => (h y hy).new hk
theorem W14.new {w w' : World} {W : Wd} {v : Value} {L : List Mq} (h : W14 w W v L) (hk : Keeps [] w w') : W14 w' W v L :=
  ⟨(h.row.new hk (Nat.le_refl _)).more hk.size, h.is, h.all.new hk⟩
theorem W14.len {w : World} {W : Wd} {v : Value} {L : List Mq} (h : W14 w W v L) (hW : W.In) : L.length = 8 := by
  have := congrArg List.length h.is
  rw [List.length_map, hW.n] at this
  exact this
theorem W14.get {w : World} {W : Wd} {v : Value} {L : List Mq} (h : W14 w W v L) (hW : W.In) {o : Nat} (ho : o < 8) : ∃ y, L[o]? = some y ∧ y.S = W.at o ∧ D13 w y.S y.q y.p := by
  have hl := h.len hW
  have h1 : o < L.length := by omega
  refine ⟨L[o], List.getElem?_eq_getElem h1, ?_, h.all _ (List.getElem_mem h1)⟩
  show L[o].S = W.l.getD o (mdInit W.m)
  rw [← h.is, List.getD_eq_getElem?_getD, List.getElem?_map, List.getElem?_eq_getElem h1]
  rfl
/-- Where an object of the row lies. -/
theorem W14.at {w : World} {W : Wd} {a : Option Addr} {n c : Nat} {L : List Mq} (h : W14 w W (.slice a n c) L) (hW : W.In) : n = 8 ∧ ∃ bk o, a = some ⟨bk, o, none⟩ ∧ bk < w.heap.size ∧ ∀ (j : Nat) (y : Mq), L[j]? = some y → w.rangeAt bk (o + j * 5) (mqC y) := by
  have hl := h.len hW
  obtain ⟨_, _, e, _, _, h2⟩ := h.row
  simp only [Value.slice.injEq] at e
  obtain ⟨rfl, rfl, rfl⟩ := e
  obtain ⟨bk, o, rfl, hb, hr⟩ := h2 (fun e => by rw [e] at hl; cases hl)
  refine ⟨hl, bk, o, rfl, hb, fun j y hy => ?_⟩
  obtain ⟨hj, rfl⟩ := List.getElem?_eq_some_iff.1 hy
  exact hr j hj
/-- One object is put anew in the row: the lists of the others lie where they lay. -/
theorem map_set_S {L : List Mq} {W : Wd} (h : L.map (·.S) = W.l) (o : Nat) (y : Mq) : (L.set o y).map (·.S) = (W.put o y.S).l := by
  show (L.set o y).map (·.S) = W.l.set o y.S
  rw [← h, List.map_set]
theorem All13.set {w : World} {L : List Mq} (h : All13 w L) (o : Nat) {y : Mq} (hy : D13 w y.S y.q y.p) : All13 w (L.set o y) := fun z hz => by
  rcases List.mem_or_eq_of_mem_set hz with h1 | rfl
  · exact h z h1
  · exact hy
/-- The lists of an object are slices: as Mq. -/
theorem D13.mq {w : World} {S : Md} {q m : Value} (h : D13 w S q m) : ∃ y : Mq, y.S = S ∧ y.q = q ∧ y.p = m := by
  obtain ⟨t, h1, _⟩ := h.m
  obtain ⟨a, c, rfl, -⟩ := h.q
  obtain ⟨b, d, rfl, -⟩ := h1
  exact ⟨⟨S, a, _, c, b, _, d⟩, rfl, rfl, rfl⟩
end Go.Proofs.YtbnhcggjcdipeaaGreatDoor
/-
  The document's world: New.
-/
namespace Go.Proofs.YtbnhcggjcdipeaaGreatDoor
open Go.RowKit
set_option maxRecDepth 100000
set_option maxHeartbeats 8000000
section
variable {ops : Array Oper} {rest : List Oper} {a : Act} {w : World} {Q : Exit → Act → World → Prop}
theorem wpList_putV {dst : Option Tmp} {ty : TypeId} {pos : String} {after : Array Edge} {x y : Operand} {g : Nat} {old A : List Value} (hA : skWd.Ok A) (hO : skWd.Ok old) {t : TypeId}
    (hx : a.eval x = .pointer (some ⟨g, 0, none⟩)) (hy : a.eval y = .agg A.toArray) (hg : w.heap[g]? = some (.cells old.toArray t (0, 0)))
    (h : ∀ W, W.heap[g]? = some (.cells A.toArray t (0, 0)) → Keeps [g] w W → wpList Tryz.prog ops Q rest (a.put dst undef) W) :
    wpList Tryz.prog ops Q ({ dst := dst, op := .store 39 x y, type := ty, pos := pos, after := after, guard := none } :: rest) a w := skWd.wpList_put hA hO hx hy hg h
theorem wpList_loadV {dst : Option Tmp} {ty : TypeId} {pos : String} {after : Array Edge} {gd : Option (Nat × Bool)} {x : Operand} {g off : Nat} {A : List Value} (hA : skWd.Ok A)
    (hw : Region.wanted { dst := dst, op := .load 39 x, type := ty, pos := pos, after := after, guard := gd } (yielded ops a.tmps) = true)
    (hx : a.eval x = .pointer (some ⟨g, off, none⟩)) (hr : w.rangeAt g off A) (h : wpList Tryz.prog ops Q rest (a.put dst (.agg A.toArray)) w) :
    wpList Tryz.prog ops Q ({ dst := dst, op := .load 39 x, type := ty, pos := pos, after := after, guard := gd } :: rest) a w := skWd.wpList_load hA hw hx hr h
theorem wpList_buildW {dst : Option Tmp} {ty : TypeId} {pos : String} {after : Array Edge} {x : Operand} {z : Mq} (hx : a.eval x = .agg (mqC z).toArray)
    (h : wpList Tryz.prog ops Q rest (a.put dst (.slice (some ⟨w.heap.size, 0, none⟩) 1 1)) (w.alloc (.cells (mqC z).toArray 81))) :
    wpList Tryz.prog ops Q ({ dst := dst, op := .buildSlice 37 1 #[(0, x)], type := ty, pos := pos, after := after, guard := none } :: rest) a w :=
  wpList_plain rfl fun _ hK => rkW.wp_build1 x rfl hx (by show (5 : Nat) ≤ 10000; decide) (hK _ _ h)
end
theorem wdC0_ok : skWd.Ok wdC0 := wdC_ok 0 none 0 0
def mq0 (m : Int) : Mq := ⟨mdInit m, none, 0, 0, none, 0, 0⟩
theorem r14New_any (w : World) {m : Int} (h0 : 0 ≤ m) (h3 : m ≤ 3) : Calls Tryz.prog 11 #[.int .u8 m] w fun e w' => ∃ v, e = .returned (.tuple #[.agg (wdC m v).toArray, .int .i64 0]) ∧ rkW.Own w.heap.size w' v (List.replicate 8 (mq0 m)) ∧ Keeps [] w w' := by
  obtain ⟨-, a0, a1, ak⟩ := two_vars w #[.int .u8 0, .slice none 0 0] #[.int .u8 m, .slice none 0 0] 39 39
  have az := two_blocks w #[.int .u8 0, .slice none 0 0] #[.int .u8 m, .slice none 0 0] 39 39
  obtain ⟨R, hR⟩ : ∃ R, R = w.heap.size := ⟨_, rfl⟩
  rw [← hR] at a0 a1 az ⊢
  have HRE := Lib.hid hR; have HK0 := Lib.hid ak; have HA0 := Lib.hid a0; have HA1 := Lib.hid a1; have HAZ := Lib.hid az
  have HM := Lib.hid (⟨h0, h3⟩ : 0 ≤ m ∧ m ≤ 3)
  clear hR a0 a1 ak az h0 h3
  go_enter Tryz.func11, Tryz.ntmps11
  go_wp2_with fail
  generalize hWW : ((w.alloc (.cells #[.int .u8 0, .slice none 0 0] 39)).alloc (.cells #[.int .u8 m, .slice none 0 0] 39)) = W0 at *
  clear hWW
  rw [← HRE.out]
  go_loopw [5] (fun i wr => ∃ (k : Nat) (v : Value), i = .int .i64 k ∧ k ≤ 8 ∧ wr.heap[R]? = some (.cells #[.int .u8 0, .slice none 0 0] 39 (0, 0)) ∧ wr.heap[R + 1]? = some (.cells #[.int .u8 m, v] 39 (0, 0)) ∧ rkW.Own (R + 2) wr v (List.replicate k (mq0 m)) ∧ Keeps [] w wr ∧ R + 2 ≤ wr.heap.size) (fun i _ => 8 - (intOf i).toNat)
  case atStart => exact ⟨0, _, rfl, by omega, HA0.out, HA1.out, RK.Own.nil rkW _ _, HK0.out, by have := HAZ.out; omega⟩
  case round =>
    obtain ⟨k, v, rfl, hk, hb0, hb1, hz, hkw, hsz⟩ := hrel
    clear HA0 HA1 HK0 HAZ W0
    by_cases hlt : k < 8
    · have HB0 := Lib.hid hb0; have HB1 := Lib.hid hb1; have HZ := Lib.hid hz; have HK := Lib.hid hkw; have HS := Lib.hid hsz
      clear hb0 hb1 hz hkw hsz
      go_wp2_with fail
      refine (r13New_any wr m HM.out.1 (by have := HM.out.2; omega)).mono ?_; rintro e w2 ⟨rfl, hk2⟩
      rw [if_pos HM.out.2, if_pos HM.out.2]
      have HI := Lib.hid (D13.init w2 m).ok
      have HC := Lib.hid (show (w2.alloc (.cells #[.int .u8 0, .int .u16 0, .slice none 0 0, .slice none 0 0, .int .i64 0] 81)).heap[w2.heap.size]? = some (.cells mdC0.toArray 81 (0, 0)) from heap_alloc_new w2 _)
      have HKC := Lib.hid (show Keeps [] w2 (w2.alloc (.cells #[.int .u8 0, .int .u16 0, .slice none 0 0, .slice none 0 0, .int .i64 0] 81)) from (Keeps.refl _ _).alloc _)
      have HK2 := Lib.hid hk2
      clear hk2
      go_wp2_with ((with_reducible refine wpList_putD (g := w2.heap.size) (old := mdC0) (A := mdC (mdInit m) (.slice none 0 0) (.slice none 0 0)) HI.out mdC0_ok ?_ ?_ HC.out ?_); exact rfl; exact rfl)
      intro w3 hW3 hk3
      have hk23 := HK2.out.trans (HKC.out.trans' hk3 (Nat.le_refl _)) (FSub.refl _ _)
      have HD3 := Lib.hid hW3
      have hz3 := HZ.out.keeps hk23 (by simp)
      have hs3 : R + 2 ≤ w3.heap.size := Nat.le_trans HS.out hk23.size
      obtain ⟨v', w4, hrun, hrow, hk4, hf4⟩ := rkW.append1 w3 (R + 2) hs3 _ _ hz3 (mq0 m) (by simp; omega)
      have hzl : ∀ q ∈ own v, R + 2 ≤ q := fun q hq => (row_base hz3 q hq).1
      have hk34 : Keeps [] wr w3 := hk23
      have c1 := (cell_lit (hk34.heap HB1.out (by simp)) 1 rfl : World.cell? _ _ = some v)
      have HB04 := Lib.hid (hk4.heap (hk34.heap HB0.out (by simp)) (fun hq => by have := hzl _ hq; omega))
      have HB14 := Lib.hid (hk4.heap (hk34.heap HB1.out (by simp)) (fun hq => by have := hzl _ hq; omega))
      have HK4 := Lib.hid ((HK.out.trans hk34 (FSub.refl _ _)).trans hk4 (fun q hq => .inr (by have := hzl q hq; have := HRE.out; omega)))
      have HROW := Lib.hid (show rkW.Own (R + 2) w4 v' (List.replicate (k + 1) (mq0 m)) from by rw [List.replicate_succ']; exact hrow)
      have HS4 := Lib.hid (Nat.le_trans hs3 hk4.size)
      obtain ⟨av, cv, rfl, hcv, hmv⟩ := hz3.shape
      have HRUN := Lib.hid (show (Builtin.append_ #[37, 37] 37 #[.slice av _ cv, .slice (some ⟨w3.heap.size, 0, none⟩) 1 1]).run Tryz.prog (w3.alloc (.cells (mqC (mq0 m)).toArray 81)) = .ok v' w4 from hrun)
      rw [List.length_replicate] at c1 HB14 HRUN
      obtain ⟨a9, c9, rfl, hc9, hm9⟩ := HROW.out.shape
      rw [List.length_replicate] at HRUN HROW
      clear hW3 hk3 hk23 hz3 hs3 hrun hrow hk4 hf4 hzl hk34 HC HKC HK2 HB0 HB1 HZ HK HS
      generalize w2.heap.size = g6 at *
      go_wp2_with (first
        | ((with_reducible refine wpList_loadD (g := g6) (off := 0) HI.out ?_ ?_ (block_range HD3.out) ?_); exact rfl; exact rfl)
        | ((with_reducible refine wpList_buildW (z := mq0 m) ?_ ?_); exact rfl)
        | ((with_reducible refine wpList_app _ _ ?_ ?_ HRUN.out ?_); exact rfl; exact rfl)
        | ((with_reducible refine wpList_put1 (g := R + 1) (j := 1) (v := .slice a9 (k + 1) c9) (A := [.int .u8 m, .slice av k cv]) ?_ ?_ ?_ HB14.out ?_ ?_ ?_); exact (by kernel_rfl); exact rfl; exact rfl; exact (show (1 : Nat) < 2 by decide); exact rfl))
      intro w5 hW5 hk5
      have HB15 := Lib.hid (show w5.heap[R + 1]? = some (.cells #[.int .u8 m, .slice a9 (k + 1) c9] 39 (0, 0)) from hW5)
      have HB05 := Lib.hid (hk5.heap HB04.out (by simp))
      have HK5 := Lib.hid (HK4.out.trans' hk5 (by have := HRE.out; omega))
      have HROW5 := Lib.hid (HROW.out.keeps hk5 (fun q hq => by have := (row_base HROW.out q hq).1; simp; omega))
      have HS5 := Lib.hid (Nat.le_trans HS4.out hk5.size)
      clear hW5 hk5 HB04 HB14 HK4 HROW HS4 c1 HD3 HRUN
      go_wp2_with fail
      go_roundw
      case rel => exact ⟨k + 1, _, by go_num, by omega, HB05.out, HB15.out, HROW5.out, HK5.out, HS5.out⟩
      case measure => simp [intOf]; omega
    · obtain rfl : k = 8 := by omega
      have HK := Lib.hid hkw; have HB1 := Lib.hid hb1
      have HB0 := Lib.hid (show wr.heap[R]? = some (.cells wdC0.toArray 39 (0, 0)) from hb0)
      obtain ⟨az, cz, rfl, hcz, hmz⟩ := hz.shape
      have d0 := (cell_lit hb1 0 rfl : World.cell? _ _ = some (Value.int .u8 m))
      have d1 := (cell_lit hb1 1 rfl : World.cell? _ _ = some (Value.slice az (List.replicate 8 (mq0 m)).length cz))
      rw [List.length_replicate] at d1 hz
      have HZ := Lib.hid hz
      have HOA := Lib.hid (wdC_ok m az 8 cz)
      clear hz hkw hb0 hb1 hsz
      go_wp2_with ((with_reducible refine wpList_putV (g := R) (old := wdC0) (A := wdC m (.slice az 8 cz)) HOA.out wdC0_ok ?_ ?_ HB0.out ?_); exact rfl; exact rfl)
      intro w5 hW5 hk5
      have HB5 := Lib.hid hW5
      have HK5 := Lib.hid (HK.out.trans' hk5 (by have := HRE.out; omega))
      have HZ5 := Lib.hid (show rkW.Own R w5 (.slice az 8 cz) (List.replicate 8 (mq0 m)) from row_up (RK.Own.keeps HZ.out hk5 (fun q hq => by have := (row_base HZ.out q hq).1; simp; omega)) (fun q hq => by have := (row_base HZ.out q hq).1; omega))
      clear hW5 hk5 d0 d1
      go_wp2_with fail
      try simp only [Exit.inBlock, Exit.then]
      exact bodyPost_ret (results_sk1 skWd rfl _ _ R (wdC_ok m az 8 cz) rfl HB5.out) rfl ⟨_, rfl, HZ5.out, HK5.out⟩
theorem r14New_none (w : World) {m : Int} (h3 : 3 < m) (h4 : m < 256) : Calls Tryz.prog 11 #[.int .u8 m] w fun e w' => e = .returned (.tuple #[.agg wdC0.toArray, .int .i64 10]) ∧ Keeps [] w w' := by
  obtain ⟨-, a0, a1, ak⟩ := two_vars w #[.int .u8 0, .slice none 0 0] #[.int .u8 m, .slice none 0 0] 39 39
  obtain ⟨R, hR⟩ : ∃ R, R = w.heap.size := ⟨_, rfl⟩
  rw [← hR] at a0 a1
  have HRE := Lib.hid hR; have HK0 := Lib.hid ak; have HA0 := Lib.hid a0; have HA1 := Lib.hid a1
  have HM := Lib.hid (⟨h3, h4⟩ : 3 < m ∧ m < 256)
  clear hR a0 a1 ak h3 h4
  go_enter Tryz.func11, Tryz.ntmps11
  go_wp2_with fail
  generalize hWW : ((w.alloc (.cells #[.int .u8 0, .slice none 0 0] 39)).alloc (.cells #[.int .u8 m, .slice none 0 0] 39)) = W0 at *
  clear hWW
  rw [← HRE.out]
  go_loopw [5] (fun i wr => i = .int .i64 0 ∧ wr.heap[R]? = some (.cells #[.int .u8 0, .slice none 0 0] 39 (0, 0)) ∧ Keeps [] w wr) (fun i _ => 8 - (intOf i).toNat)
  case atStart => exact ⟨rfl, HA0.out, HK0.out⟩
  case round =>
    obtain ⟨rfl, hb0, hkw⟩ := hrel
    clear HA0 HA1 HK0 W0
    have HK := Lib.hid hkw
    have HB0 := Lib.hid (show wr.heap[R]? = some (.cells wdC0.toArray 39 (0, 0)) from hb0)
    clear hb0 hkw
    go_wp2_with fail
    refine (r13New_any wr m (by have := HM.out.1; omega) HM.out.2).mono ?_; rintro e w2 ⟨rfl, hk2⟩
    rw [if_neg (by have := HM.out.1; omega), if_neg (by have := HM.out.1; omega)]
    have HC := Lib.hid (show (w2.alloc (.cells #[.int .u8 0, .int .u16 0, .slice none 0 0, .slice none 0 0, .int .i64 0] 81)).heap[w2.heap.size]? = some (.cells mdC0.toArray 81 (0, 0)) from heap_alloc_new w2 _)
    have HKC := Lib.hid (show Keeps [] w2 (w2.alloc (.cells #[.int .u8 0, .int .u16 0, .slice none 0 0, .slice none 0 0, .int .i64 0] 81)) from (Keeps.refl _ _).alloc _)
    have HK2 := Lib.hid hk2
    clear hk2
    go_wp2_with ((with_reducible refine wpList_putD (g := w2.heap.size) (old := mdC0) (A := mdC0) mdC0_ok mdC0_ok ?_ ?_ HC.out ?_); exact rfl; exact rfl)
    intro w3 hW3 hk3
    have hk23 := HK2.out.trans (HKC.out.trans' hk3 (Nat.le_refl _)) (FSub.refl _ _)
    have HB3 := Lib.hid (hk23.heap HB0.out (by simp))
    have HK3 := Lib.hid (HK.out.trans hk23 (FSub.refl _ _))
    clear hW3 hk3 hk23 HC HKC HK2 HB0 HK
    generalize w2.heap.size = g6 at *
    go_wp2_with ((with_reducible refine wpList_putV (g := R) (old := wdC0) (A := wdC0) wdC0_ok wdC0_ok ?_ ?_ HB3.out ?_); exact rfl; exact rfl)
    intro w5 hW5 hk5
    have HB5 := Lib.hid hW5
    have HK5 := Lib.hid (HK3.out.trans' hk5 (by have := HRE.out; omega))
    clear hW5 hk5
    go_wp2_with fail
    try simp only [Exit.inBlock, Exit.then]
    exact bodyPost_ret (results_sk1 skWd rfl _ _ R wdC0_ok rfl HB5.out) rfl ⟨rfl, HK5.out⟩
end Go.Proofs.YtbnhcggjcdipeaaGreatDoor
/-
  The document's world: first.
-/
namespace Go.Proofs.YtbnhcggjcdipeaaGreatDoor
open Go.RowKit
set_option maxRecDepth 100000
set_option maxHeartbeats 8000000
section
variable {ops : Array Oper} {S : World → Prop} {o : Oper} {a : Act}
theorem yields_indexW (hw : Region.wanted o (yielded ops a.tmps) = true) (x y : Operand) (ho : o.op = .indexAddr 37 x y) (g of n c k : Nat) (hx : a.eval x = .slice (some ⟨g, of, none⟩) n c) (hy : a.eval y = .int .i64 k) (hk : k < n) :
    YieldsIf Tryz.prog ops S o (.pointer (some ⟨g, of + k * 5, none⟩)) a :=
  Or.inl ⟨hw, by
    have hk2 : (k : Int) < n := by omega
    intro w _
    unfold execOp
    simp only [ho, hx, hy]
    go_simp⟩
end
theorem r14first_any (w : World) {W : Wd} (hW : W.In) (hu : W.upto 10000) {a : Option Addr} {n c : Nat} {L : List Mq} (h : W14 w W (.slice a n c) L) {o : Nat} (ho : o < 8) :
    Calls Tryz.prog 43 #[.agg (wdC W.m (.slice a n c)).toArray, .int .i64 o] w fun e w' => e = .returned (.bool (decide (mdB (W.at o) = mdB (mdInit W.m)))) ∧ Keeps [] w w' := by
  obtain ⟨rfl, bk, of, rfl, hb, hr0⟩ := h.at hW
  obtain ⟨y, hy, hyS, hyD⟩ := h.get hW ho
  have hry := hr0 o y hy
  have hat := Wd.at_in hW ho
  rw [← hyS] at hat
  have hln : y.S.len ≤ 10000 := by rw [hyS]; exact hu _ (Wd.at_mem hW ho)
  rw [← hyS]
  have hm : 0 ≤ W.m ∧ W.m ≤ 3 := ⟨hW.m0, hW.m3⟩
  obtain ⟨hms, hyI⟩ := hat
  clear hyS hy hr0 hb h hu hW
  generalize W.m = m at *
  have hk := (Keeps.refl [] w).alloc (.cells #[.int .u8 m, .slice (some ⟨bk, of, none⟩) 8 c] 39)
  have h0 := heap_alloc_new w (.cells #[.int .u8 m, .slice (some ⟨bk, of, none⟩) 8 c] 39)
  have HK := Lib.hid hk; have H0 := Lib.hid h0
  have HRY := Lib.hid (fun w' (h : Keeps [] w w') => show w'.rangeAt bk (of + o * 5) (mqC y) from fun j v hv => h.cell (hry j v hv) (by simp))
  have HYD := Lib.hid (fun w' (h : Keeps [] w w') => hyD.new h)
  have HYI := Lib.hid hyI; have HYL := Lib.hid hln; have HM := Lib.hid hm
  have HOK := Lib.hid hyD.ok
  have c0 := (cell_lit h0 0 rfl : World.cell? _ _ = some (Value.int .u8 m))
  have e : decide ((mdInit m).model = y.S.model ∧ mdB (mdInit m) = mdB y.S) = decide (mdB y.S = mdB (mdInit m)) := by
    rw [mdInit_model hm.1 hm.2, hms]
    simp only [true_and]
    exact decide_eq_decide.2 ⟨Eq.symm, Eq.symm⟩
  have HE := Lib.hid e
  have HO := Lib.hid ho
  clear hk h0 hry hyD hyI hln hm hms e ho
  unfold wdC
  go_enter Tryz.func43, Tryz.ntmps43
  go_wp2_with fail
  refine (r13New_any _ m HM.out.1 (by have := HM.out.2; omega)).mono ?_; rintro e w2 ⟨rfl, hk2⟩
  rw [if_pos HM.out.2, if_pos HM.out.2]
  have HI := Lib.hid (D13.init w2 m)
  have HK2 := Lib.hid (HK.out.trans hk2 (FSub.refl _ _))
  have H02 := Lib.hid (hk2.heap H0.out (by simp))
  clear hk2 H0 HK c0
  have HC := Lib.hid (show (w2.alloc (.cells #[.int .u8 0, .int .u16 0, .slice none 0 0, .slice none 0 0, .int .i64 0] 81)).heap[w2.heap.size]? = some (.cells mdC0.toArray 81 (0, 0)) from heap_alloc_new w2 _)
  have HKC := Lib.hid (show Keeps [] w2 (w2.alloc (.cells #[.int .u8 0, .int .u16 0, .slice none 0 0, .slice none 0 0, .int .i64 0] 81)) from (Keeps.refl _ _).alloc _)
  go_wp2_with ((with_reducible refine wpList_putD (g := w2.heap.size) (old := mdC0) (A := mdC (mdInit m) (.slice none 0 0) (.slice none 0 0)) HI.out.ok mdC0_ok ?_ ?_ HC.out ?_); exact rfl; exact rfl)
  intro w3 hW3 hk3
  have hk23 := HKC.out.trans' hk3 (Nat.le_refl _)
  have H03 := Lib.hid (hk23.heap H02.out (by simp)); have H23 := Lib.hid hW3
  have HK3 := Lib.hid (HK2.out.trans hk23 (FSub.refl _ _))
  have HI3 := Lib.hid (D13.init w3 m)
  clear hW3 hk3 hk23 HC HKC H02 HK2 HI
  generalize w2.heap.size = g2 at *
  go_wp2_with fail
  obtain ⟨R0, hR0⟩ : ∃ R0, R0 = w.heap.size := ⟨_, rfl⟩
  rw [← hR0] at H03 ⊢
  clear hR0
  obtain ⟨S0, hS0⟩ : ∃ S0 : World → Prop, S0 = fun y => Keeps [] w3 y := ⟨_, rfl⟩
  have HSE := Lib.hid hS0
  have hSD : S0 w3.drew := by rw [hS0]; exact (Keeps.refl _ _).drew
  have HSA := Lib.hid (fun (w' : World) (hh : S0 w') => show w'.rangeAt bk (of + o * 5) (mqC y) from by rw [hS0] at hh; exact HRY.out _ (HK3.out.trans hh (FSub.refl _ _)))
  have HSI := Lib.hid (fun (w' : World) (hh : S0 w') => show w'.rangeAt g2 0 (mdC (mdInit m) (.slice none 0 0) (.slice none 0 0)) from by rw [hS0] at hh; exact fun j v hv => hh.cell (block_range H23.out j v hv) (by simp))
  have HC1 := Lib.hid (fun (w' : World) (hh : S0 w') => show w'.cell? ⟨R0, 1, none⟩ = some (.slice (some ⟨bk, of, none⟩) 8 c) from by rw [hS0] at hh; exact hh.cell (cell_lit H03.out 1 rfl) (by simp))
  clear hS0
  have HIL := Lib.hid (show (mdInit m).len ≤ 10000 from by rw [mdInit_len]; omega)
  have HSS := Lib.hid (fun w' (h : Keeps [] w3 w') => r13Same_any w' (mdInit_in m) HIL.out HYI.out HYL.out (HI3.out.new h) (HYD.out _ (HK3.out.trans h (FSub.refl _ _))))
  have HII := Lib.hid HI3.out.ok
  rw [HE.out] at HSS
  have HY := Lib.hid ((Keeps.refl [] w3).drew)
  refine wp_region_noPanic ?_
  refine wp_region_held_drew (S := S0) (by kernel_rfl) hSD (fun hHeld => ?_)
  refine tk 0 (y := by exact skD.yields HII.out rfl _ rfl g2 0 rfl HSI.out) (h := ?_)
  refine tw 1 (h := ?_)
  refine tk 2 (y := by exact Or.inl ⟨by rfl, by intro w hSw; have q0 := HC1.out w hSw; go_simp; try with_reducible rfl⟩) (h := ?_)
  refine tw 3 (h := ?_)
  refine tk 4 (y := by exact yields_indexW rfl _ _ rfl bk of 8 c o rfl rfl HO.out) (h := ?_)
  refine tk 5 (y := by exact skD.yields HOK.out rfl _ rfl bk (of + o * 5) rfl HSA.out) (h := ?_)
  refine rp 6 (h := fun K hK => ?_)
  refine wp_call9 66 _ _ rfl [.agg (mdC (mdInit m) (.slice none 0 0) (.slice none 0 0)).toArray, .agg (mdC y.S y.q y.p).toArray] rfl Tryz.func66 (by kernel_rfl) (by kernel_rfl) ((HSS.out _ HY.out).mono ?_)
  rintro e y1 ⟨rfl, hk1⟩
  refine ⟨_, rfl, ?_⟩
  replace HY := Lib.hid (HY.out.trans hk1 (FSub.refl _ _))
  clear hk1
  refine hK.out _ _ (by rw [HSE.out]; exact HY.out) (fun hHeld => ?_); clear hK K; try simp only [Act.put, lsA, lsZ, lsS]
  refine tw 7 (h := ?_)
  refine wpAnyH_done (by kernel_rfl) ?_ _
  refine NoPanic.normal ?_
  go_wp2_with fail
  go_ret
  exact ⟨rfl, HK3.out.trans HY.out (FSub.refl _ _)⟩
end Go.Proofs.YtbnhcggjcdipeaaGreatDoor
/-
  The document's world: Objects.
-/
namespace Go.Proofs.YtbnhcggjcdipeaaGreatDoor
open Go.RowKit
set_option maxRecDepth 100000
set_option maxHeartbeats 8000000
theorem Tryz.infoNat : (Tryz.prog.info? 3).map (fun i => (i.zero, i.size, i.bytes)) = some (some (.int .i64 0), 1, 8) := by kernel_rfl
def natC (k : Nat) : List Value := [.int .i64 k]
/-- Numbers from 0 on, side by side. -/
noncomputable def rkN : RK Nat :=
  { T := 3, Sl := 88, s := 1, b := 8, cs := natC, i := (info_parts Tryz.infoNat).choose, z := .int .i64 0,
    len := fun _ => rfl, one := by intro x v hv; simp only [natC, List.mem_cons, List.not_mem_nil, or_false] at hv; subst hv; rfl, s0 := by decide, b1 := by decide, und := Tryz.underlying88,
    hi := (info_parts Tryz.infoNat).choose_spec.1, hz := (info_parts Tryz.infoNat).choose_spec.2.1, hs := (info_parts Tryz.infoNat).choose_spec.2.2.1, hb := (info_parts Tryz.infoNat).choose_spec.2.2.2, hzs := rfl }
theorem liW_cons (m : Int) (i : Nat) (S : Md) (r : List Md) : liW m i (S :: r) = if mdB S = mdB (mdInit m) then liW m (i + 1) r else (i, S) :: liW m (i + 1) r := rfl
theorem liW_app (m : Int) : ∀ (i : Nat) (l k : List Md), liW m i (l ++ k) = liW m i l ++ liW m (i + l.length) k
  | i, [], k => rfl
  | i, S :: l, k => by
    show liW m i (S :: (l ++ k)) = liW m i (S :: l) ++ _
    rw [liW_cons, liW_cons, liW_app m (i + 1) l k, show i + 1 + l.length = i + (S :: l).length by simp only [List.length_cons]; omega]
    split <;> rfl
theorem liW_next {m : Int} {l : List Md} {k : Nat} (hk : k < l.length) : liW m 0 (l.take (k + 1)) = liW m 0 (l.take k) ++ (if mdB (l.getD k (mdInit m)) = mdB (mdInit m) then [] else [(k, l.getD k (mdInit m))]) := by
  rw [List.take_add_one, List.getElem?_eq_getElem hk, Option.toList_some, liW_app, List.length_take, Nat.min_eq_left (Nat.le_of_lt hk), Nat.zero_add, List.getD_eq_getElem?_getD, List.getElem?_eq_getElem hk]
  rfl
theorem liW_len (m : Int) : ∀ (i : Nat) (l : List Md), (liW m i l).length ≤ l.length
  | i, [] => Nat.le_refl _
  | i, S :: l => by
    have := liW_len m (i + 1) l
    unfold liW
    split <;> simp only [List.length_cons] <;> omega
theorem r14Objects_any (w : World) {W : Wd} (hW : W.In) (hu : W.upto 10000) {a : Option Addr} {n c : Nat} {L : List Mq} (h : W14 w W (.slice a n c) L) :
    Calls Tryz.prog 35 #[.agg (wdC W.m (.slice a n c)).toArray] w fun e w' => ∃ v, e = .returned v ∧ rkN.Own w.heap.size w' v (W.li.map (·.1)) ∧ Keeps [] w w' := by
  have hk0 : Keeps [] w (w.alloc (.cells #[.int .u8 W.m, .slice a n c] 39)) := (Keeps.refl _ _).alloc _
  have h0 := heap_alloc_new w (.cells #[.int .u8 W.m, .slice a n c] 39)
  have hsz : (w.alloc (.cells #[.int .u8 W.m, .slice a n c] 39)).heap.size = w.heap.size + 1 := Array.size_push _
  obtain ⟨rfl, -⟩ := h.at hW
  have HF := Lib.hid (fun w' (hk : Keeps [] w w') (o : Nat) (ho : o < 8) => r14first_any w' hW hu (h.new hk) ho)
  have HW8 := Lib.hid hW.n
  obtain ⟨R, hR⟩ : ∃ R, R = w.heap.size := ⟨_, rfl⟩
  rw [← hR] at h0 hsz ⊢
  have HRE := Lib.hid hR; have HK0 := Lib.hid hk0; have H0 := Lib.hid h0; have HSZ := Lib.hid hsz
  unfold Wd.li
  unfold Wd.at at HF
  clear hR hk0 h0 hsz h hW hu
  obtain ⟨m, l⟩ := W
  simp only at *
  unfold wdC
  go_enter Tryz.func35, Tryz.ntmps35
  go_wp2_with fail
  generalize hWW : w.alloc (.cells #[.int .u8 m, .slice a 8 c] 39) = W0 at *
  clear hWW
  rw [← HRE.out]
  go_loopw [3, 4] (fun z i wr => ∃ k : Nat, i = .int .i64 k ∧ k ≤ 8 ∧ wr.heap[R]? = some (.cells #[.int .u8 m, .slice a 8 c] 39 (0, 0)) ∧ rkN.Own (R + 1) wr z ((liW m 0 (l.take k)).map (·.1)) ∧ Keeps [] w wr ∧ R + 1 ≤ wr.heap.size) (fun _ i _ => 8 - (intOf i).toNat)
  case atStart => exact ⟨0, rfl, by omega, H0.out, RK.Own.nil rkN _ _, HK0.out, by have := HSZ.out; omega⟩
  case round =>
    obtain ⟨k, rfl, hk, hb0, hz, hkw, hsz⟩ := hrel
    clear H0 HK0 HSZ W0
    have c0 := (cell_lit hb0 0 rfl : World.cell? _ _ = some (Value.int .u8 m))
    have c1 := (cell_lit hb0 1 rfl : World.cell? _ _ = some (Value.slice a 8 c))
    by_cases hlt : k < 8
    · have hn := liW_next (m := m) (show k < l.length by rw [HW8.out]; exact hlt)
      have HB := Lib.hid hb0; have HK := Lib.hid hkw; have HZ := Lib.hid hz; have HS := Lib.hid hsz; have HN := Lib.hid hn
      clear hb0 hkw hz hsz hn
      go_wp2_with fail
      refine (HF.out wr HK.out k hlt).mono ?_; rintro e w2 ⟨rfl, hk2⟩
      have HK2 := Lib.hid hk2
      clear hk2 c0 c1
      by_cases hi : mdB (l.getD k (mdInit m)) = mdB (mdInit m)
      · rw [decide_eq_true hi]
        have hn := HN.out
        rw [if_pos hi, List.append_nil] at hn
        have HZ2 := Lib.hid (show rkN.Own (R + 1) w2 _ ((liW m 0 (l.take (k + 1))).map (·.1)) from by rw [hn]; exact HZ.out.keeps HK2.out (by simp))
        have HK3 := Lib.hid (HK.out.trans HK2.out (FSub.refl _ _)); have HB2 := Lib.hid (HK2.out.heap HB.out (by simp)); have HS2 := Lib.hid (Nat.le_trans HS.out HK2.out.size)
        obtain ⟨az, cz, rfl, hcz, hmz⟩ := HZ.out.shape
        clear hn hi HN HB HK HZ HS HK2
        go_wp2_with fail
        go_roundw
        case rel => exact ⟨k + 1, by go_num, by omega, HB2.out, (by have h := HZ2.out; rw [List.length_map] at h; exact h), HK3.out, HS2.out⟩
        case measure => simp [intOf]; omega
      · rw [decide_eq_false hi]
        have hn := HN.out
        rw [if_neg hi] at hn
        have hz2 := HZ.out.keeps HK2.out (by simp)
        have hs2 : R + 1 ≤ w2.heap.size := Nat.le_trans HS.out HK2.out.size
        have hlen : ((liW m 0 (l.take k)).map (·.1)).length ≤ 8 := by
          rw [List.length_map]
          exact Nat.le_trans (liW_len m 0 _) (by rw [List.length_take]; omega)
        obtain ⟨v', w3, hrun, hrow3, hk3, hf3⟩ := rkN.append1 w2 (R + 1) hs2 _ _ hz2 k (by omega)
        have hzl : ∀ q ∈ own _, R + 1 ≤ q := fun q hq => (row_base hz2 q hq).1
        have HB3 := Lib.hid (hk3.heap (HK2.out.heap HB.out (by simp)) (fun hq => by have := hzl _ hq; omega))
        have HK3 := Lib.hid ((HK.out.trans HK2.out (FSub.refl _ _)).trans hk3 (fun q hq => .inr (by have := hzl q hq; have := HRE.out; omega)))
        have HZ3 := Lib.hid (show rkN.Own (R + 1) w3 v' ((liW m 0 (l.take (k + 1))).map (·.1)) from by rw [hn, List.map_append]; exact hrow3)
        have HS3 := Lib.hid (Nat.le_trans hs2 hk3.size)
        obtain ⟨az, cz, rfl, hcz, hmz⟩ := hz2.shape
        obtain ⟨a9, c9, rfl, -, -⟩ := hrow3.shape
        have HRUN := Lib.hid (show (Builtin.append_ #[88, 88] 88 #[.slice az ((liW m 0 (l.take k)).map (·.1)).length cz, .slice (some ⟨w2.heap.size, 0, none⟩) 1 1]).run Tryz.prog (w2.alloc (.cells #[.int .i64 (k : Int)] 3)) = _ from hrun)
        clear hn hi HN HB HK HZ HS HK2 hz2 hs2 hrun hrow3 hk3 hf3 hzl
        generalize hLL : ((liW m 0 (l.take k)).map (·.1)).length = n0 at *
        clear hLL
        go_wp2_with ((with_reducible refine wpList_app _ _ ?_ ?_ HRUN.out ?_); exact rfl; exact rfl)
        go_roundw
        case rel => exact ⟨k + 1, by go_num, by omega, HB3.out, (by have h := HZ3.out; first | exact h | (rw [List.length_append, List.length_map] at h; exact h) | (rw [List.length_append] at h; exact h) | simpa using h), HK3.out, HS3.out⟩
        case measure => simp [intOf]; omega
    · obtain rfl : k = 8 := by omega
      have hall : l.take 8 = l := List.take_of_length_le (by rw [HW8.out]; exact Nat.le_refl _)
      rw [hall] at hz
      have HZ := Lib.hid (row_up hz (fun q hq => by have := (row_base hz q hq).1; omega : ∀ q ∈ own _, R ≤ q))
      have HK := Lib.hid hkw
      obtain ⟨az, cz, rfl, hcz, hmz⟩ := hz.shape
      clear hall hz hkw hb0 hsz
      go_wp2_with fail
      go_ret
      exact ⟨_, rfl, HZ.out, HK.out⟩
end Go.Proofs.YtbnhcggjcdipeaaGreatDoor
