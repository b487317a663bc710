/-
  The document's object: Text.
-/
import Derived.Test.YtdachaekcjbfmaaGreatDoorMS00
import Derived.Test.YtdachaekcjbfmaaGreatDoorMS28
set_option linter.unusedSimpArgs false
set_option linter.unusedVariables false
namespace Go.Proofs.YtdachaekcjbfmaaGreatDoor
open Go.RowKit
theorem bs_cat (l m : List UInt8) : bs l ++ bs m = bs (l ++ m) := (bs_app l m).symm
theorem spT_len : ∀ {l : List (List UInt8)} {n : Nat}, (∀ x ∈ l, x.length ≤ n) → (spT l).length ≤ l.length * (n + 1)
  | [], _, _ => by simp [spT]
  | [x], n, h => by have := h x (by simp); simp [spT]; omega
  | x :: y :: r, n, h => by
    have h1 := h x (by simp)
    have h2 := spT_len (l := y :: r) (n := n) (fun z hz => h z (List.mem_cons_of_mem _ hz))
    show (x ++ 32 :: spT (y :: r)).length ≤ _
    rw [List.length_append, List.length_cons, List.length_cons, Nat.add_mul]
    omega
theorem dec_len5 {v : Int} (h : v < 65536) : (dec v).length ≤ 5 := by
  have := dec_length_le 4 v.toNat (by omega)
  exact this
/-- One number more. -/
theorem spT_next {l : List Int} {k : Nat} (hk : k < l.length) : spT ((l.take (k + 1)).map dec) = spT ((l.take k).map dec) ++ (if k = 0 then [] else [32]) ++ dec (l.getD k 0) := by
  rw [take_nextD 0 hk, List.map_append, List.map_cons, List.map_nil, spT_snoc]
  congr 2
  have : (l.take k).map dec = [] ↔ k = 0 := by
    rw [List.map_eq_nil_iff, List.take_eq_nil_iff]
    constructor
    · rintro (h | h)
      · exact h
      · rw [h] at hk; simp at hk
    · exact fun h => .inl h
  by_cases h : k = 0
  · rw [if_pos h, if_pos (this.2 h)]
  · rw [if_neg h, if_neg (fun e => h (this.1 e))]
theorem itT_len {x : It} (h0 : 0 ≤ x.k) (h1 : x.k < 8) (h2 : x.v < 65536) : (itT x).length ≤ 7 := by
  have a := dec_length_le 0 x.k.toNat (by omega)
  have b := dec_len5 h2
  show (dec x.k ++ 58 :: dec x.v).length ≤ 7
  rw [List.length_append, List.length_cons]
  have a' : (dec x.k).length ≤ 1 := a
  omega
/-- The items of a map's first keys. -/
def mpT (a : Kv) (k : Nat) : List UInt8 := spT ((itOf 0 (a.take k)).map itT)
theorem mpT_len {a : Kv} (h : KvIn a) {k : Nat} (hk : k ≤ 8) : (mpT a k).length ≤ 64 := by
  have h1 := itOf_len 0 (a.take k)
  have h2 : (a.take k).length ≤ 8 := by rw [List.length_take]; omega
  have h3 := spT_len (l := (itOf 0 (a.take k)).map itT) (n := 7) (fun x hx => by
    obtain ⟨y, hy, rfl⟩ := List.mem_map.1 hx
    have hy1 := itOf_keys 0 (a.take k) y hy
    obtain ⟨j, hj⟩ := itOf_mem 0 (a.take k) y hy
    have hv := h.rng j y.v (by rw [List.getElem?_take] at hj; split at hj <;> first | exact hj | cases hj)
    exact itT_len (by omega) (by omega) hv.2)
  rw [List.length_map] at h3
  calc _ ≤ (itOf 0 (a.take k)).length * (7 + 1) := h3
    _ ≤ 8 * 8 := Nat.mul_le_mul_right 8 (by omega)
    _ = 64 := rfl
theorem mpT_none {a : Kv} {k : Nat} (hk : k < a.length) (h : a.getD k none = none) : mpT a (k + 1) = mpT a k := by
  unfold mpT
  rw [itOf_next hk, h]
  simp
theorem mpT_some {a : Kv} {k : Nat} (hk : k < a.length) {v : Int} (h : a.getD k none = some v) : mpT a (k + 1) = mpT a k ++ (if mpT a k = [] then [] else [32]) ++ itT ⟨k, v⟩ := by
  unfold mpT
  rw [itOf_next hk, h, List.map_append, List.map_cons, List.map_nil, spT_snoc]
  congr 2
  cases he : (itOf 0 (a.take k)).map itT with
  | nil => rfl
  | cons x r =>
    rw [if_neg (by simp), if_neg]
    have hx : x ≠ [] := by
      have : x ∈ (itOf 0 (a.take k)).map itT := by rw [he]; simp
      obtain ⟨y, _, rfl⟩ := List.mem_map.1 this
      exact (itT_word y).1
    exact spT_ne hx
/-- Which item has a key, if any. -/
theorem at_key {a : Kv} {t : List It} (h : Rel a t) {k : Nat} (hk : k < 8) : ∃ J : Nat, (∀ i (hi : i < t.length), i ≠ J → t[i].k ≠ k) ∧
    ((t.length ≤ J ∧ mpT a (k + 1) = mpT a k) ∨ ∃ hJ : J < t.length, t[J].k = k ∧ (0 ≤ t[J].v ∧ t[J].v < 65536) ∧ mpT a (k + 1) = mpT a k ++ (if mpT a k = [] then [] else [32]) ++ itT t[J]) := by
  have hl : k < a.length := by rw [h.in_.len]; exact hk
  rcases rel_idx h hk with ⟨h1, h2⟩ | ⟨v, i, h1, h2, h3, h4⟩
  · exact ⟨t.length, fun i hi _ => idx_none h2 _ (List.getElem_mem hi), .inl ⟨Nat.le_refl _, mpT_none hl h1⟩⟩
  · obtain ⟨h5, h6⟩ := itIdx_some h2
    refine ⟨i, fun j hj hne e => hne ?_, .inr ⟨h5, h6, ?_, ?_⟩⟩
    · have hn := h.nodup
      have e2 : (t.map (·.k))[j]'(by simpa using hj) = (t.map (·.k))[i]'(by simpa using h5) := by simp [e, h6]
      exact (List.getElem_inj hn).1 e2
    · rw [List.getD_eq_getElem?_getD, List.getElem?_eq_getElem h5] at h4
      have h4' : t[i].v = v := h4
      rw [h4']
      exact h.in_.get h1
    · rw [mpT_some hl h1]
      congr 1
      rw [List.getD_eq_getElem?_getD, List.getElem?_eq_getElem h5] at h4
      have h4' : t[i].v = v := h4
      rw [← h4', ← h6]
section
variable {ops : Array Oper} {S : World → Prop} {o : Oper} {a : Act}
theorem yields_indexI (hw : Region.wanted o (yielded ops a.tmps) = true) (x y : Operand) (ho : o.op = .indexAddr 34 x y) (g of n c k : Nat) (hx : a.eval x = .slice (some ⟨g, of, none⟩) n c) (hy : a.eval y = .int .i64 k) (hk : k < n) :
    YieldsIf Tryz.prog ops S o (.pointer (some ⟨g, of + k * 2, none⟩)) a :=
  Or.inl ⟨hw, by
    have hk2 : (k : Int) < n := by omega
    intro w _
    unfold execOp
    simp only [ho, hx, hy]
    go_simp⟩
end
set_option maxHeartbeats 8000000
set_option maxRecDepth 100000
theorem r13Text_any (w : World) {S : Md} (hS : S.In) (hl : S.len ≤ 10000) {q m : Value} (hD : D13 w S q m) : Calls Tryz.prog 32 #[.agg (mdC S q m).toArray] w fun e w' => e = .returned (.string (bs (mdT S))) ∧ Keeps [] w w' := by
  have hn := heap_alloc_new w (.cells (mdC S q m).toArray 36)
  have hk : Keeps [] w (w.alloc (.cells (mdC S q m).toArray 36)) := (Keeps.refl _ _).alloc _
  have HK := Lib.hid hk; have HD := Lib.hid (hD.new hk)
  have HR := Lib.hid (block_range hn)
  cases S with
  | rg s =>
    have hs : 0 ≤ s ∧ s < 65536 := hS
    have HT := Lib.hid (fun w => r13Digits_any w s hs.1 hs.2)
    have c0 := (cell_lit hn 0 rfl : World.cell? _ _ = some (Value.int .u8 0))
    have c1 := (cell_lit hn 1 rfl : World.cell? _ _ = some (Value.int .u16 s))
    have e1 : IntKind.i64.wrap s = s := by simp [IntKind.wrap, IntKind.signed, IntKind.bits]; omega
    clear hn hk hD hS hs
    go_enter Tryz.func32, Tryz.ntmps32
    go_wp2_with fail
    refine (HT.out _).mono ?_; rintro e w1 ⟨rfl, hk1⟩
    have HK1 := Lib.hid (HK.out.trans hk1 (FSub.refl _ _))
    clear hk1 c0 c1
    go_wp2_with fail
    go_ret
    exact ⟨rfl, HK1.out⟩
  | qu l =>
    have hu : U16s l := hS
    have hln : l.length ≤ 10000 := hl
    have HQ := Lib.hid (show rkU.In (w.alloc (.cells (mdC (.qu l) q m).toArray 36)).heap.size (w.alloc (.cells (mdC (.qu l) q m).toArray 36)) q l from HD.out.q)
    obtain ⟨aq, cq, rfl, hcq, hmq, -⟩ := id HQ.out
    have c0 := (cell_lit hn 0 rfl : World.cell? _ _ = some (Value.int .u8 1))
    have HU := Lib.hid hu
    have HC2 := Lib.hid (cell_lit hn 2 rfl : World.cell? _ _ = some (Value.slice aq l.length cq))
    have HLN := Lib.hid hln
    have HM := Lib.hid (fun k => (spT_len (l := (l.take k).map dec) (n := 5) (fun x hx => by
      obtain ⟨v, hv, rfl⟩ := List.mem_map.1 hx
      exact dec_len5 (hu v (List.mem_of_mem_take hv)).2)))
    clear hn hk hD hS hl hu hln
    go_enter Tryz.func32, Tryz.ntmps32
    go_wp2_with fail
    generalize w.alloc (.cells (mdC (.qu l) (.slice aq l.length cq) m).toArray 36) = W at *
    go_loopw [3, 4] (fun z i wr => ∃ k : Nat, i = .int .i64 k ∧ k ≤ l.length ∧ z = .string (bs (spT ((l.take k).map dec))) ∧ Keeps [] W wr) (fun _ i _ => l.length - (intOf i).toNat)
    case atStart => exact ⟨0, rfl, Nat.zero_le _, rfl, Keeps.refl _ _⟩
    case round =>
      obtain ⟨k, rfl, hk, rfl, hkw⟩ := hrel
      have c2 : wr.cell? ⟨w.heap.size, 2, none⟩ = some (.slice aq l.length cq) := hkw.cell HC2.out (by simp)
      have hm := HM.out k
      have hs1 : (bs (spT ((l.take k).map dec))).size ≤ 60000 := by
        rw [bs_size]
        have := List.length_take_le k l
        have := HLN.out
        rw [List.length_map] at hm
        have h3 : (l.take k).length ≤ 10000 := by rw [List.length_take]; omega
        calc _ ≤ (l.take k).length * (5 + 1) := hm
          _ ≤ 10000 * 6 := Nat.mul_le_mul_right 6 h3
          _ = 60000 := rfl
      have HKW := Lib.hid hkw
      clear hm hkw
      by_cases hlt : k < l.length
      · obtain ⟨b1, o1, rfl, _, d1⟩ := U16.at (HQ.out.new HKW.out (Nat.le_refl _)) hlt
        have HX := Lib.hid (HU.out _ (getD_in 0 hlt))
        have HN := Lib.hid (spT_next hlt)
        generalize l.getD k 0 = X at *
        have HT := Lib.hid (fun w => r13Digits_any w X HX.out.1 HX.out.2)
        have e1 : IntKind.i64.wrap X = X := by have := HX.out; simp [IntKind.wrap, IntKind.signed, IntKind.bits]; omega
        have hs2 : (bs (dec X)).size ≤ 5 := by rw [bs_size]; exact dec_len5 HX.out.2
        by_cases h0 : k = 0
        · have z : ¬ (0 : Int) < (k : Int) := by omega
          have E := Lib.hid (show bs (spT ((l.take k).map dec)) ++ bs (dec X) = bs (spT ((l.take (k + 1)).map dec)) from by rw [bs_cat, HN.out, if_pos h0]; simp)
          generalize bs (spT ((l.take k).map dec)) = TS at *
          generalize bs (dec X) = SD at *
          clear h0
          go_wp2_with fail
          refine (HT.out _).mono ?_; rintro e w1 ⟨rfl, hk1⟩
          have HK1 := Lib.hid (HKW.out.trans hk1 (FSub.refl _ _))
          clear hk1 c2 d1
          go_wp2_with fail
          go_roundw
          case rel => exact ⟨k + 1, by go_num, by omega, by rw [← E.out], HK1.out⟩
          case measure => simp [intOf]; omega
        · have z : (0 : Int) < (k : Int) := by omega
          have E := Lib.hid (show bs (spT ((l.take k).map dec)) ++ ⟨#[32]⟩ ++ bs (dec X) = bs (spT ((l.take (k + 1)).map dec)) from by
            rw [show (⟨#[32]⟩ : ByteArray) = bs [32] from rfl, bs_cat, bs_cat, HN.out, if_neg h0])
          generalize bs (spT ((l.take k).map dec)) = TS at *
          generalize bs (dec X) = SD at *
          clear h0
          have hs3 : (TS ++ ⟨#[32]⟩).size ≤ 60001 := by rw [ByteArray.size_append]; show TS.size + 1 ≤ _; omega
          go_wp2_with fail
          refine (HT.out _).mono ?_; rintro e w1 ⟨rfl, hk1⟩
          have HK1 := Lib.hid (HKW.out.trans hk1 (FSub.refl _ _))
          clear hk1 c2 d1
          go_wp2_with fail
          go_roundw
          case rel => exact ⟨k + 1, by go_num, by omega, by rw [← E.out], HK1.out⟩
          case measure => simp [intOf]; omega
      · obtain rfl : k = l.length := by omega
        have E := Lib.hid (show ⟨#[91]⟩ ++ bs (spT ((l.take l.length).map dec)) ++ ⟨#[93]⟩ = bs (mdT (.qu l)) from by
          rw [List.take_length, show (⟨#[91]⟩ : ByteArray) = bs [91] from rfl, show (⟨#[93]⟩ : ByteArray) = bs [93] from rfl, bs_cat, bs_cat]
          simp [mdT])
        generalize bs (spT ((l.take l.length).map dec)) = TS at *
        have hs3 : (⟨#[91]⟩ ++ TS : ByteArray).size ≤ 60001 := by rw [ByteArray.size_append]; show 1 + TS.size ≤ _; omega
        go_wp2_with fail
        go_ret
        exact ⟨by rw [← E.out]; rfl, HK.out.trans HKW.out (FSub.refl _ _)⟩
  | mp a =>
    have ha : KvIn a := hS
    obtain ⟨t, ht, hti⟩ := id HD.out.m
    replace hti : Rel a t := hti
    have hf := hti.few
    obtain ⟨am, cm, rfl, hcm, hmm, -⟩ := id ht
    have c0 := (cell_lit hn 0 rfl : World.cell? _ _ = some (Value.int .u8 2))
    have HC3 := Lib.hid (cell_lit hn 3 rfl : World.cell? _ _ = some (Value.slice am t.length cm))
    have HTI := Lib.hid ht; have HRL := Lib.hid hti; have HLEN := Lib.hid (fun k hk => mpT_len ha (k := k) hk)
    clear hn hk hD hS hl ht hti
    go_enter Tryz.func32, Tryz.ntmps32
    go_wp2_with fail
    generalize w.alloc (.cells (mdC (.mp a) q (.slice am t.length cm)).toArray 36) = W at *
    go_loopw [5, 6] (fun z i wr => ∃ k : Nat, i = .int .i64 k ∧ k ≤ 8 ∧ z = .string (bs (mpT a k)) ∧ Keeps [] W wr) (fun _ i _ => 8 - (intOf i).toNat)
    case atStart => exact ⟨0, rfl, Nat.zero_le _, rfl, Keeps.refl _ _⟩
    case round =>
      obtain ⟨k, rfl, hk, rfl, hkw⟩ := hrel
      have HKW := Lib.hid hkw
      by_cases hlt : k < 8
      · obtain ⟨J, hJ1, hJ2⟩ := at_key HRL.out hlt
        have HJ1 := Lib.hid hJ1; have HJ2 := Lib.hid hJ2
        have HL0 := Lib.hid (HLEN.out k (by omega)); have HL1 := Lib.hid (HLEN.out (k + 1) (by omega))
        have z8 : (k : Int) < 8 := by omega
        clear hJ1 hJ2 hkw
        go_wp2_with fail
        go_loopw [5, 7] (fun z i wr => ∃ j : Nat, i = .int .i64 j ∧ j ≤ t.length ∧ z = .string (bs (if j ≤ J then mpT a k else mpT a (k + 1))) ∧ Keeps [] W wr) (fun _ i _ => t.length - (intOf i).toNat)
        case atStart => exact ⟨0, rfl, Nat.zero_le _, by rw [if_pos (Nat.zero_le _)], HKW.out⟩
        case round =>
          obtain ⟨j, rfl, hj, rfl, hkq⟩ := hrel
          have HKQ := Lib.hid hkq
          have c3 : wr.cell? ⟨w.heap.size, 3, none⟩ = some (.slice am t.length cm) := hkq.cell HC3.out (by simp)
          by_cases hjt : j < t.length
          · obtain ⟨b1, o1, rfl, _, hr1⟩ := It.at (HTI.out.new hkq (Nat.le_refl _)) hjt
            have HR1 := Lib.hid hr1
            have d0 : wr.cell? ⟨b1, o1 + j * 2, none⟩ = some (.int .u8 t[j].k) := hr1 0 _ rfl
            have hkeys := HRL.out.keys t[j] (List.getElem_mem hjt)
            have e1 : IntKind.i64.wrap t[j].k = t[j].k := by simp [IntKind.wrap, IntKind.signed, IntKind.bits]; omega
            have zj : (j : Int) < t.length := by omega
            clear hr1 hkq
            by_cases hJ : j = J
            · subst hJ
              rw [if_pos (Nat.le_refl _)]
              have hj2 := HJ2.out
              have HEND := Lib.hid (show bs (if j + 1 ≤ j then mpT a k else mpT a (k + 1)) = bs (mpT a (k + 1)) from by rw [if_neg (by omega)])
              obtain ⟨hk1, hrv, hk2⟩ : t[j].k = k ∧ (0 ≤ t[j].v ∧ t[j].v < 65536) ∧ mpT a (k + 1) = mpT a k ++ (if mpT a k = [] then [] else [32]) ++ itT t[j] := by
                rcases hj2 with ⟨h, _⟩ | ⟨_, h1, h2, h3⟩
                · omega
                · exact ⟨h1, h2, h3⟩
              have zk : (t[j].k != (k : Int)) = false := by simpa using hk1
              have HD1 := Lib.hid (show wr.cell? ⟨b1, o1 + j * 2 + 1, none⟩ = some (.int .u16 t[j].v) from HR1.out 1 _ rfl)
              have HT1 := Lib.hid (fun w => r13Digits_any w k (by omega) (by omega))
              have HT2 := Lib.hid (fun w => r13Digits_any w t[j].v hrv.1 hrv.2)
              have e2 : IntKind.i64.wrap t[j].v = t[j].v := by simp [IntKind.wrap, IntKind.signed, IntKind.bits]; omega
              have hs1 : (bs (mpT a k)).size ≤ 64 := by rw [bs_size]; exact HL0.out
              have hs2 : (bs (dec k)).size ≤ 5 := by rw [bs_size]; exact dec_len5 (by omega)
              have hs3 : (bs (dec t[j].v)).size ≤ 5 := by rw [bs_size]; exact dec_len5 hrv.2
              have HC3r := Lib.hid c3
              have hem : (bs (mpT a k)).toList.isEmpty = decide (mpT a k = []) := by rw [toL_bs]; cases mpT a k <;> rfl
              have hit : itT t[j] = dec k ++ 58 :: dec t[j].v := by rw [← hk1]; rfl
              rw [hit] at hk2
              by_cases hE : mpT a k = []
              · rw [decide_eq_true hE] at hem
                rw [if_pos hE] at hk2
                have E := Lib.hid (show bs (mpT a k) ++ bs (dec k) ++ ⟨#[58]⟩ ++ bs (dec t[j].v) = bs (mpT a (k + 1)) from by
                  rw [show (⟨#[58]⟩ : ByteArray) = bs [58] from rfl, bs_cat, bs_cat, bs_cat, hk2]; simp)
                generalize bs (mpT a k) = TS at *
                generalize bs (mpT a (k + 1)) = TE at *
                generalize bs (dec k) = SK at *
                generalize bs (dec t[j].v) = SV at *
                generalize t[j].v = vv at *
                generalize t[j].k = kk at *
                clear hE hk2 hit hk1 hrv hkeys hj2
                go_wp2_with fail
                have q1 : ¬ 9223372036854775807 < TS.size + SK.size := by omega
                have q2 : ¬ 9223372036854775807 < TS.size + SK.size + 1 := by omega
                have q3 : ¬ 9223372036854775807 < TS.size + SK.size + 1 + SV.size := by omega
                obtain ⟨S0, hS0⟩ : ∃ S0 : World → Prop, S0 = fun y => Keeps [] wr y := ⟨_, rfl⟩
                have HSE := Lib.hid hS0
                have hSD : S0 wr.drew := by rw [hS0]; exact (Keeps.refl _ _).drew
                have HS3 := Lib.hid (fun (w' : World) (hh : S0 w') => show w'.cell? ⟨w.heap.size, 3, none⟩ = some (.slice (some ⟨b1, o1, none⟩) t.length cm) from by rw [hS0] at hh; exact hh.cell HC3r.out (by simp))
                have HS4 := Lib.hid (fun (w' : World) (hh : S0 w') => show w'.cell? ⟨b1, o1 + j * 2 + 1, none⟩ = some (.int .u16 vv) from by rw [hS0] at hh; exact hh.cell HD1.out (by simp))
                clear hS0
                refine wp_region_noPanic ?_
                refine wp_region_held_drew (S := S0) (by kernel_rfl) hSD (fun hHeld => ?_)
                apply wpAnyH_take (i := 0)
                · simp only [List.getElem?_toArray]; rfl
                iterate 3 (· kernel_rfl)
                · exact fun _ _ _ h => h
                · exact Or.inl ⟨by rfl, by intro w hSw; go_simp; try with_reducible rfl⟩
                · assumption
                try simp only [Act.put, lsA, lsZ, lsS]
                apply wpAnyH_take (i := 1)
                · simp only [List.getElem?_toArray]; rfl
                iterate 3 (· kernel_rfl)
                · exact fun _ _ _ h => h
                · exact Or.inl ⟨by rfl, by intro w hSw; go_simp; try with_reducible rfl⟩
                · assumption
                try simp only [Act.put, lsA, lsZ, lsS]
                apply wpAnyH_take (i := 5)
                · simp only [List.getElem?_toArray]; rfl
                iterate 3 (· kernel_rfl)
                · exact fun _ _ _ h => h
                · exact Or.inl ⟨by rfl, by intro w hSw; go_simp; try with_reducible rfl⟩
                · assumption
                try simp only [Act.put, lsA, lsZ, lsS]
                apply wpAnyH_take (i := 6)
                · simp only [List.getElem?_toArray]; rfl
                iterate 3 (· kernel_rfl)
                · exact fun _ _ _ h => h
                · exact Or.inl ⟨by rfl, by intro w hSw; have q0 := HS3.out w hSw; go_simp; try with_reducible rfl⟩
                · assumption
                try simp only [Act.put, lsA, lsZ, lsS]
                apply wpAnyH_take (i := 7)
                · simp only [List.getElem?_toArray]; rfl
                iterate 3 (· kernel_rfl)
                · exact fun _ _ _ h => h
                · exact Or.inl ⟨by rfl, by intro w hSw; go_simp; try with_reducible rfl⟩
                · assumption
                try simp only [Act.put, lsA, lsZ, lsS]
                apply wpAnyH_take (i := 8)
                · simp only [List.getElem?_toArray]; rfl
                iterate 3 (· kernel_rfl)
                · exact fun _ _ _ h => h
                · exact yields_indexI rfl _ _ rfl b1 o1 t.length cm j rfl rfl hjt
                · assumption
                try simp only [Act.put, lsA, lsZ, lsS]
                apply wpAnyH_take (i := 9)
                · simp only [List.getElem?_toArray]; rfl
                iterate 3 (· kernel_rfl)
                · exact fun _ _ _ h => h
                · exact Or.inl ⟨by rfl, by intro w hSw; go_simp; try with_reducible rfl⟩
                · assumption
                try simp only [Act.put, lsA, lsZ, lsS]
                apply wpAnyH_take (i := 10)
                · simp only [List.getElem?_toArray]; rfl
                iterate 3 (· kernel_rfl)
                · exact fun _ _ _ h => h
                · exact Or.inl ⟨by rfl, by intro w hSw; have q0 := HS4.out w hSw; go_simp; try with_reducible rfl⟩
                · assumption
                try simp only [Act.put, lsA, lsZ, lsS]
                apply wpAnyH_take (i := 11)
                · simp only [List.getElem?_toArray]; rfl
                iterate 3 (· kernel_rfl)
                · exact fun _ _ _ h => h
                · exact Or.inl ⟨by rfl, by intro w hSw; go_simp; try with_reducible rfl⟩
                · assumption
                try simp only [Act.put, lsA, lsZ, lsS]
                apply wpAnyH_ready (rs := [2])
                · kernel_rfl
                · simp
                apply AllReadyH.cons (hs := AllReadyH.nil)
                · simp only [List.getElem?_toArray]; rfl
                intro K hK
                rw [if_pos (by rfl)]
                refine wp_call9 51 _ _ rfl [.int .i64 k] rfl Tryz.func51 (by kernel_rfl) (by kernel_rfl) ((HT1.out _).mono ?_)
                rintro e y1 ⟨rfl, hk1⟩
                refine ⟨_, rfl, ?_⟩
                have HY1 := Lib.hid (((Keeps.refl [] wr).drew).trans hk1 (FSub.refl _ _))
                clear hk1
                refine hK.out _ _ ?_ (fun hHeld => ?_)
                · exact (by rw [HSE.out]; exact HY1.out)
                clear hK K
                try simp only [Act.put, lsA, lsZ, lsS]
                apply wpAnyH_take (i := 3)
                · simp only [List.getElem?_toArray]; rfl
                iterate 3 (· kernel_rfl)
                · exact fun _ _ _ h => h
                · exact Or.inl ⟨by rfl, by intro w hSw; go_simp; try with_reducible rfl⟩
                · assumption
                try simp only [Act.put, lsA, lsZ, lsS]
                apply wpAnyH_take (i := 4)
                · simp only [List.getElem?_toArray]; rfl
                iterate 3 (· kernel_rfl)
                · exact fun _ _ _ h => h
                · exact Or.inl ⟨by rfl, by intro w hSw; go_simp; try with_reducible rfl⟩
                · assumption
                try simp only [Act.put, lsA, lsZ, lsS]
                apply wpAnyH_ready (rs := [12])
                · kernel_rfl
                · simp
                apply AllReadyH.cons (hs := AllReadyH.nil)
                · simp only [List.getElem?_toArray]; rfl
                intro K hK
                rw [if_pos (by rfl)]
                refine wp_call9 51 _ _ rfl [.int .i64 vv] rfl Tryz.func51 (by kernel_rfl) (by kernel_rfl) ((HT2.out _).mono ?_)
                rintro e y2 ⟨rfl, hk2⟩
                refine ⟨_, rfl, ?_⟩
                have HY2 := Lib.hid (HY1.out.trans hk2 (FSub.refl _ _))
                clear hk2
                refine hK.out _ _ ?_ (fun hHeld => ?_)
                · exact (by rw [HSE.out]; exact HY2.out)
                clear hK K
                try simp only [Act.put, lsA, lsZ, lsS]
                apply wpAnyH_take (i := 13)
                · simp only [List.getElem?_toArray]; rfl
                iterate 3 (· kernel_rfl)
                · exact fun _ _ _ h => h
                · exact Or.inl ⟨by rfl, by intro w hSw; go_simp; try with_reducible rfl⟩
                · assumption
                try simp only [Act.put, lsA, lsZ, lsS]
                apply wpAnyH_take (i := 14)
                · simp only [List.getElem?_toArray]; rfl
                iterate 3 (· kernel_rfl)
                · exact fun _ _ _ h => h
                · exact Or.inl ⟨by rfl, by intro w hSw; go_simp; try with_reducible rfl⟩
                · assumption
                try simp only [Act.put, lsA, lsZ, lsS]
                refine wpAnyH_done (by kernel_rfl) ?_ _
                refine NoPanic.normal ?_
                go_wp2_with fail
                go_roundw
                case rel => exact ⟨j + 1, by go_num, by omega, by rw [HEND.out, ← E.out], HKQ.out.trans HY2.out (FSub.refl _ _)⟩
                case measure => simp [intOf]; omega
              · rw [decide_eq_false hE] at hem
                rw [if_neg hE] at hk2
                have E := Lib.hid (show bs (mpT a k) ++ ⟨#[32]⟩ ++ bs (dec k) ++ ⟨#[58]⟩ ++ bs (dec t[j].v) = bs (mpT a (k + 1)) from by
                  rw [show (⟨#[58]⟩ : ByteArray) = bs [58] from rfl, show (⟨#[32]⟩ : ByteArray) = bs [32] from rfl, bs_cat, bs_cat, bs_cat, bs_cat, hk2]; simp)
                generalize bs (mpT a k) = TQ at *
                generalize bs (mpT a (k + 1)) = TE at *
                generalize bs (dec k) = SK at *
                generalize bs (dec t[j].v) = SV at *
                generalize t[j].v = vv at *
                generalize t[j].k = kk at *
                have hs4 : (TQ ++ ⟨#[32]⟩).size ≤ 65 := by rw [ByteArray.size_append]; show TQ.size + 1 ≤ _; omega
                clear hE hk2 hit hk1 hrv hkeys hj2
                go_wp2_with fail
                generalize TQ ++ ⟨#[32]⟩ = TS at *
                have q1 : ¬ 9223372036854775807 < TS.size + SK.size := by omega
                have q2 : ¬ 9223372036854775807 < TS.size + SK.size + 1 := by omega
                have q3 : ¬ 9223372036854775807 < TS.size + SK.size + 1 + SV.size := by omega
                obtain ⟨S0, hS0⟩ : ∃ S0 : World → Prop, S0 = fun y => Keeps [] wr y := ⟨_, rfl⟩
                have HSE := Lib.hid hS0
                have hSD : S0 wr.drew := by rw [hS0]; exact (Keeps.refl _ _).drew
                have HS3 := Lib.hid (fun (w' : World) (hh : S0 w') => show w'.cell? ⟨w.heap.size, 3, none⟩ = some (.slice (some ⟨b1, o1, none⟩) t.length cm) from by rw [hS0] at hh; exact hh.cell HC3r.out (by simp))
                have HS4 := Lib.hid (fun (w' : World) (hh : S0 w') => show w'.cell? ⟨b1, o1 + j * 2 + 1, none⟩ = some (.int .u16 vv) from by rw [hS0] at hh; exact hh.cell HD1.out (by simp))
                clear hS0
                refine wp_region_noPanic ?_
                refine wp_region_held_drew (S := S0) (by kernel_rfl) hSD (fun hHeld => ?_)
                apply wpAnyH_take (i := 0)
                · simp only [List.getElem?_toArray]; rfl
                iterate 3 (· kernel_rfl)
                · exact fun _ _ _ h => h
                · exact Or.inl ⟨by rfl, by intro w hSw; go_simp; try with_reducible rfl⟩
                · assumption
                try simp only [Act.put, lsA, lsZ, lsS]
                apply wpAnyH_take (i := 1)
                · simp only [List.getElem?_toArray]; rfl
                iterate 3 (· kernel_rfl)
                · exact fun _ _ _ h => h
                · exact Or.inl ⟨by rfl, by intro w hSw; go_simp; try with_reducible rfl⟩
                · assumption
                try simp only [Act.put, lsA, lsZ, lsS]
                apply wpAnyH_take (i := 5)
                · simp only [List.getElem?_toArray]; rfl
                iterate 3 (· kernel_rfl)
                · exact fun _ _ _ h => h
                · exact Or.inl ⟨by rfl, by intro w hSw; go_simp; try with_reducible rfl⟩
                · assumption
                try simp only [Act.put, lsA, lsZ, lsS]
                apply wpAnyH_take (i := 6)
                · simp only [List.getElem?_toArray]; rfl
                iterate 3 (· kernel_rfl)
                · exact fun _ _ _ h => h
                · exact Or.inl ⟨by rfl, by intro w hSw; have q0 := HS3.out w hSw; go_simp; try with_reducible rfl⟩
                · assumption
                try simp only [Act.put, lsA, lsZ, lsS]
                apply wpAnyH_take (i := 7)
                · simp only [List.getElem?_toArray]; rfl
                iterate 3 (· kernel_rfl)
                · exact fun _ _ _ h => h
                · exact Or.inl ⟨by rfl, by intro w hSw; go_simp; try with_reducible rfl⟩
                · assumption
                try simp only [Act.put, lsA, lsZ, lsS]
                apply wpAnyH_take (i := 8)
                · simp only [List.getElem?_toArray]; rfl
                iterate 3 (· kernel_rfl)
                · exact fun _ _ _ h => h
                · exact yields_indexI rfl _ _ rfl b1 o1 t.length cm j rfl rfl hjt
                · assumption
                try simp only [Act.put, lsA, lsZ, lsS]
                apply wpAnyH_take (i := 9)
                · simp only [List.getElem?_toArray]; rfl
                iterate 3 (· kernel_rfl)
                · exact fun _ _ _ h => h
                · exact Or.inl ⟨by rfl, by intro w hSw; go_simp; try with_reducible rfl⟩
                · assumption
                try simp only [Act.put, lsA, lsZ, lsS]
                apply wpAnyH_take (i := 10)
                · simp only [List.getElem?_toArray]; rfl
                iterate 3 (· kernel_rfl)
                · exact fun _ _ _ h => h
                · exact Or.inl ⟨by rfl, by intro w hSw; have q0 := HS4.out w hSw; go_simp; try with_reducible rfl⟩
                · assumption
                try simp only [Act.put, lsA, lsZ, lsS]
                apply wpAnyH_take (i := 11)
                · simp only [List.getElem?_toArray]; rfl
                iterate 3 (· kernel_rfl)
                · exact fun _ _ _ h => h
                · exact Or.inl ⟨by rfl, by intro w hSw; go_simp; try with_reducible rfl⟩
                · assumption
                try simp only [Act.put, lsA, lsZ, lsS]
                apply wpAnyH_ready (rs := [2])
                · kernel_rfl
                · simp
                apply AllReadyH.cons (hs := AllReadyH.nil)
                · simp only [List.getElem?_toArray]; rfl
                intro K hK
                rw [if_pos (by rfl)]
                refine wp_call9 51 _ _ rfl [.int .i64 k] rfl Tryz.func51 (by kernel_rfl) (by kernel_rfl) ((HT1.out _).mono ?_)
                rintro e y1 ⟨rfl, hk1⟩
                refine ⟨_, rfl, ?_⟩
                have HY1 := Lib.hid (((Keeps.refl [] wr).drew).trans hk1 (FSub.refl _ _))
                clear hk1
                refine hK.out _ _ ?_ (fun hHeld => ?_)
                · exact (by rw [HSE.out]; exact HY1.out)
                clear hK K
                try simp only [Act.put, lsA, lsZ, lsS]
                apply wpAnyH_take (i := 3)
                · simp only [List.getElem?_toArray]; rfl
                iterate 3 (· kernel_rfl)
                · exact fun _ _ _ h => h
                · exact Or.inl ⟨by rfl, by intro w hSw; go_simp; try with_reducible rfl⟩
                · assumption
                try simp only [Act.put, lsA, lsZ, lsS]
                apply wpAnyH_take (i := 4)
                · simp only [List.getElem?_toArray]; rfl
                iterate 3 (· kernel_rfl)
                · exact fun _ _ _ h => h
                · exact Or.inl ⟨by rfl, by intro w hSw; go_simp; try with_reducible rfl⟩
                · assumption
                try simp only [Act.put, lsA, lsZ, lsS]
                apply wpAnyH_ready (rs := [12])
                · kernel_rfl
                · simp
                apply AllReadyH.cons (hs := AllReadyH.nil)
                · simp only [List.getElem?_toArray]; rfl
                intro K hK
                rw [if_pos (by rfl)]
                refine wp_call9 51 _ _ rfl [.int .i64 vv] rfl Tryz.func51 (by kernel_rfl) (by kernel_rfl) ((HT2.out _).mono ?_)
                rintro e y2 ⟨rfl, hk2⟩
                refine ⟨_, rfl, ?_⟩
                have HY2 := Lib.hid (HY1.out.trans hk2 (FSub.refl _ _))
                clear hk2
                refine hK.out _ _ ?_ (fun hHeld => ?_)
                · exact (by rw [HSE.out]; exact HY2.out)
                clear hK K
                try simp only [Act.put, lsA, lsZ, lsS]
                apply wpAnyH_take (i := 13)
                · simp only [List.getElem?_toArray]; rfl
                iterate 3 (· kernel_rfl)
                · exact fun _ _ _ h => h
                · exact Or.inl ⟨by rfl, by intro w hSw; go_simp; try with_reducible rfl⟩
                · assumption
                try simp only [Act.put, lsA, lsZ, lsS]
                apply wpAnyH_take (i := 14)
                · simp only [List.getElem?_toArray]; rfl
                iterate 3 (· kernel_rfl)
                · exact fun _ _ _ h => h
                · exact Or.inl ⟨by rfl, by intro w hSw; go_simp; try with_reducible rfl⟩
                · assumption
                try simp only [Act.put, lsA, lsZ, lsS]
                refine wpAnyH_done (by kernel_rfl) ?_ _
                refine NoPanic.normal ?_
                go_wp2_with fail
                go_roundw
                case rel => exact ⟨j + 1, by go_num, by omega, by rw [HEND.out, ← E.out], HKQ.out.trans HY2.out (FSub.refl _ _)⟩
                case measure => simp [intOf]; omega
            · have zk : (t[j].k != (k : Int)) = true := by simpa using HJ1.out j hjt hJ
              have HSAME := Lib.hid (show (if j + 1 ≤ J then mpT a k else mpT a (k + 1)) = (if j ≤ J then mpT a k else mpT a (k + 1)) from by
                by_cases h : j ≤ J
                · rw [if_pos h, if_pos (by omega)]
                · rw [if_neg h, if_neg (by omega)])
              generalize (if j ≤ J then mpT a k else mpT a (k + 1)) = TT at *
              generalize t[j].k = kk at *
              go_wp2_with fail
              go_roundw
              case rel => exact ⟨j + 1, by go_num, by omega, by rw [HSAME.out], HKQ.out⟩
              case measure => simp [intOf]; omega
          · obtain rfl : j = t.length := by omega
            have HEND := Lib.hid (show (if t.length ≤ J then mpT a k else mpT a (k + 1)) = mpT a (k + 1) from by
              rcases HJ2.out with ⟨h, h2⟩ | ⟨h, _⟩
              · rw [if_pos h, h2]
              · rw [if_neg (by omega)])
            generalize (if t.length ≤ J then mpT a k else mpT a (k + 1)) = TT at *
            have zj : ¬ ((t.length : Nat) : Int) < t.length := by omega
            clear hjt hj hkq
            go_wp2_with fail
            go_roundw
            case rel => exact ⟨k + 1, by go_num, by omega, by rw [HEND.out], HKQ.out⟩
            case measure => simp [intOf]; omega
      · obtain rfl : k = 8 := by omega
        have E := Lib.hid (show ⟨#[123]⟩ ++ bs (mpT a 8) ++ ⟨#[125]⟩ = bs (mdT (.mp a)) from by
          rw [show (⟨#[123]⟩ : ByteArray) = bs [123] from rfl, show (⟨#[125]⟩ : ByteArray) = bs [125] from rfl, bs_cat, bs_cat]
          have : a.take 8 = a := List.take_of_length_le (by rw [HRL.out.in_.len]; exact Nat.le_refl _)
          simp [mdT, mpT, this])
        have hs1 : (bs (mpT a 8)).size ≤ 64 := by rw [bs_size]; exact HLEN.out 8 (Nat.le_refl _)
        generalize bs (mpT a 8) = TS at *
        have hs3 : (⟨#[123]⟩ ++ TS : ByteArray).size ≤ 65 := by rw [ByteArray.size_append]; show 1 + TS.size ≤ _; omega
        clear hlt hk hkw
        go_wp2_with fail
        go_ret
        exact ⟨by rw [← E.out]; rfl, HK.out.trans HKW.out (FSub.refl _ _)⟩
  | lk s =>
    have hs : 0 ≤ s ∧ s ≤ 16 := hS
    have c0 := (cell_lit hn 0 rfl : World.cell? _ _ = some (Value.int .u8 3))
    have c4 := (cell_lit hn 4 rfl : World.cell? _ _ = some (Value.int .i64 (s - 1)))
    by_cases h0 : s = 0
    · have e1 : mdT (.lk s) = freeT := if_pos h0
      rw [e1]
      have z : decide (s - 1 < 0) = true := decide_eq_true (by omega)
      clear hn hk hD hS hs h0 e1
      go_enter Tryz.func32, Tryz.ntmps32
      go_wp2_with fail
      go_ret
      exact ⟨rfl, HK.out⟩
    · have e1 : mdT (.lk s) = heldT ++ dec (s - 1) := if_neg h0
      rw [e1]
      have z : decide (s - 1 < 0) = false := decide_eq_false (by omega)
      have HT := Lib.hid (fun w => r13Digits_any w (s - 1) (by omega) (by omega))
      have hsz := dec_len5 (v := s - 1) (by omega)
      have hs1 : (bs (dec (s - 1))).size ≤ 5 := by rw [bs_size]; exact hsz
      have E := Lib.hid (bs_cat heldT (dec (s - 1)))
      clear hn hk hD hS hs h0 e1 hsz
      generalize hS0 : bs (dec (s - 1)) = SD at *
      go_enter Tryz.func32, Tryz.ntmps32
      go_wp2_with fail
      refine (HT.out _).mono ?_; rintro e w1 ⟨rfl, hk1⟩
      have HK1 := Lib.hid (HK.out.trans hk1 (FSub.refl _ _))
      clear hk1 c0 c4
      go_wp2_with fail
      go_ret
      exact ⟨by rw [← E.out]; rfl, HK1.out⟩
end Go.Proofs.YtdachaekcjbfmaaGreatDoor
/-
  What the program's objects must tell; the law's alike, over any such program.
-/
namespace Go.Proofs.YtdachaekcjbfmaaGreatDoor
open Go.RowKit
/-- The program's State: how many cells it has, and the zero one (to be set anew for each program). -/
def skM : SK := { T := 29, s := 1, d := _, und := Tryz.underlying29, row := rfl, size := by kernel_rfl }
def mdZ : List Value := [.nilIface]
/-- The same, as a walk shows it. -/
abbrev mdZA : Array Value := #[.nilIface]
theorem mdZ_ok : skM.Ok mdZ := ⟨rfl, fun v hv => by
  simp only [mdZ, List.mem_cons, List.not_mem_nil, or_false] at hv
  subst hv; rfl⟩
/-! What is told of an object, or of none. -/
def oModel : Option Md → Int
  | some S => S.model
  | none => 0
def oB : Option Md → List UInt8
  | some S => mdB S
  | none => []
def oT : Option Md → List UInt8
  | some S => mdT S
  | none => []
def oX : Option Md → Int → Opn → Option Md × Ans × Int
  | some S, c, x => (some (mdX S c x).1, (mdX S c x).2.1, (mdX S c x).2.2)
  | none, _, _ => (none, ⟨0, 0⟩, 1)
def oInit : Option Md → Bool
  | some S => decide (mdB S = mdB (mdInit S.model))
  | none => false
def oLen : Option Md → Nat
  | some S => S.len
  | none => 0
def oNew (m : Int) : Option Md := if m ≤ 3 then some (mdInit m) else none
/-- What bytes are, of a model; the error. -/
def mdD (m : Int) (b : List UInt8) : Option Md × Int :=
  if m = 0 then (if b.length = 2 then (some (.rg (rgN b)), 0) else (none, 4))
  else if m = 1 then (if b.length % 2 = 1 then (none, 4) else (some (.qu (quN b)), 0))
  else if m = 2 then (if (kvD (nb b)).2 = 0 then (some (.mp (kvD (nb b)).1), 0) else (none, 4))
  else if m = 3 then (if (lkD b).2 = 0 then (some (.lk (lkD b).1), 0) else (none, 4))
  else (none, 10)
def mdIdle (m f : Int) : Bool := decide (m = 0 ∧ f = 1 ∨ m = 2 ∧ f = 6)
/-- What the program's objects tell; G: what its package-level variables hold. -/
structure MdProg (G : World → Prop) where
  At : World → Value → Option Md → Prop
  foot : Value → List Nat
  keepG : ∀ {w w' : World}, G w → Keeps [] w w' → G w'
  keep : ∀ {w w' : World} {F : List Nat} {st : Value} {O : Option Md}, At w st O → Keeps F w w' → (∀ q ∈ foot st, q ∉ F) → At w' st O
  old : ∀ {w : World} {st : Value} {O : Option Md}, At w st O → ∀ q ∈ foot st, q < w.heap.size
  cells : ∀ {w : World} {st : Value} {O : Option Md}, At w st O → ∃ A : List Value, st = .agg A.toArray ∧ skM.Ok A
  in_ : ∀ {w : World} {st : Value} {S : Md}, At w st (some S) → S.In
  zero : ∀ w, At w (.agg mdZ.toArray) none
  new : ∀ w m, G w → 0 ≤ m ∧ m < 256 → Calls Tryz.prog 9 #[.int .u8 m] w fun e w' => ∃ st, e = .returned (.tuple #[st, .int .i64 (if m ≤ 3 then 0 else 10)]) ∧ At w' st (oNew m) ∧ Keeps [] w w' ∧ ∀ q ∈ foot st, w.heap.size ≤ q
  model : ∀ w st O, G w → At w st O → Calls Tryz.prog 24 #[st] w fun e w' => e = .returned (.tuple #[.int .u8 (oModel O), .bool O.isSome]) ∧ Keeps [] w w'
  step : ∀ w st O c x, G w → At w st O → oLen O ≤ 1000 → 0 ≤ c ∧ c < 256 → x.In → Calls Tryz.prog 13 #[st, .int .u8 c, x.val] w fun e w' =>
    ∃ st', e = .returned (.tuple #[st', .agg (ansC (oX O c x).2.1).toArray, .int .i64 (oX O c x).2.2]) ∧ At w' st' (oX O c x).1 ∧ Keeps [] w w' ∧ FSub (foot st') (foot st) w.heap.size
  initial : ∀ w st O, G w → At w st O → oLen O ≤ 1000 → Calls Tryz.prog 22 #[st] w fun e w' => e = .returned (.bool (oInit O)) ∧ Keeps [] w w'
  enc : ∀ w st O, G w → At w st O → oLen O ≤ 1000 → Calls Tryz.prog 25 #[st] w fun e w' => e = .returned (.string (bs (oB O))) ∧ Keeps [] w w'
  text : ∀ w st O, G w → At w st O → oLen O ≤ 1000 → Calls Tryz.prog 21 #[st] w fun e w' => e = .returned (.string (bs (oT O))) ∧ Keeps [] w w'
variable {G : World → Prop}
/-- What its Fits tells. -/
structure MdFits (R : MdProg G) : Prop where
  fits : ∀ w st O c x r, G w → R.At w st O → oLen O ≤ 1000 → 0 ≤ c ∧ c < 256 → x.In → (0 ≤ r.k ∧ r.k < 256) ∧ (0 ≤ r.v ∧ r.v < 65536) → Calls Tryz.prog 15 #[st, .int .u8 c, x.val, .agg (ansC r).toArray] w fun e w' =>
    ∃ st', e = .returned (.tuple #[st', .bool (decide ((oX O c x).2.2 = 0 ∧ (oX O c x).2.1 = r))]) ∧ R.At w' st' (if (oX O c x).2.2 = 0 ∧ (oX O c x).2.1 = r then (oX O c x).1 else O) ∧ Keeps [] w w' ∧ FSub (R.foot st') (R.foot st) w.heap.size
theorem MdProg.new_ (R : MdProg G) {w w' : World} {st : Value} {O : Option Md} (h : R.At w st O) (hk : Keeps [] w w') : R.At w' st O := R.keep h hk (by simp)
/-- The state lies apart from blocks that are younger than it. -/
theorem MdProg.put (R : MdProg G) {w w' : World} {st : Value} {O : Option Md} (h : R.At w st O) {g : Nat} (hk : Keeps [g] w w') (hg : ∀ q ∈ R.foot st, q ≠ g) : R.At w' st O := R.keep h hk (fun q hq => by simpa using hg q hq)
section
variable {ops : Array Oper} {rest : List Oper} {a : Act} {w : World} {Q : Exit → Act → World → Prop}
theorem wpList_loadM {dst : Option Tmp} {ty : TypeId} {pos : String} {after : Array Edge} {gd : Option (Nat × Bool)} {x : Operand} {g off : Nat} {A : List Value} (hA : skM.Ok A)
    (hw : Region.wanted { dst := dst, op := .load 29 x, type := ty, pos := pos, after := after, guard := gd } (yielded ops a.tmps) = true)
    (hx : a.eval x = .pointer (some ⟨g, off, none⟩)) (hr : w.rangeAt g off A) (h : wpList Tryz.prog ops Q rest (a.put dst (.agg A.toArray)) w) :
    wpList Tryz.prog ops Q ({ dst := dst, op := .load 29 x, type := ty, pos := pos, after := after, guard := gd } :: rest) a w := skM.wpList_load hA hw hx hr h
theorem wpList_putM {dst : Option Tmp} {ty : TypeId} {pos : String} {after : Array Edge} {x y : Operand} {g : Nat} {old A : List Value} (hA : skM.Ok A) (hO : skM.Ok old) {t : TypeId}
    (hx : a.eval x = .pointer (some ⟨g, 0, none⟩)) (hy : a.eval y = .agg A.toArray) (hg : w.heap[g]? = some (.cells old.toArray t (0, 0)))
    (h : ∀ W, W.heap[g]? = some (.cells A.toArray t (0, 0)) → Keeps [g] w W → wpList Tryz.prog ops Q rest (a.put dst undef) W) :
    wpList Tryz.prog ops Q ({ dst := dst, op := .store 29 x y, type := ty, pos := pos, after := after, guard := none } :: rest) a w := skM.wpList_put hA hO hx hy hg h
end
end Go.Proofs.YtdachaekcjbfmaaGreatDoor
/-
  The law's alike, over any program's objects.
-/
namespace Go.Proofs.YtdachaekcjbfmaaGreatDoor
open Go.RowKit
variable {G : World → Prop}
set_option maxHeartbeats 8000000
set_option maxRecDepth 100000
theorem alike13_any (R : MdProg G) (w : World) (hG : G w) {st : Value} {S : Md} (hA : R.At w st (some S)) (hl : S.len ≤ 1000) {q m : Value} (hD : D13 w S q m) :
    Calls Tryz.prog 12 #[st, .agg (mdC S q m).toArray] w fun e w' => e = .returned (.bool true) ∧ Keeps [] w w' := by
  obtain ⟨A, rfl, hok⟩ := R.cells hA
  obtain ⟨-, h0, h1, hk⟩ := two_vars w A.toArray (mdC S q m).toArray 29 36
  have HG := Lib.hid (fun w' (h : Keeps [] w w') => R.keepG hG h)
  have HA := Lib.hid (fun w' (h : Keeps [] w w') => R.new_ hA h)
  have HD := Lib.hid (fun w' (h : Keeps [] w w') => hD.new h)
  have HS := Lib.hid (R.in_ hA)
  have HO := Lib.hid hok; have HQ := Lib.hid hD.ok
  have H0 := Lib.hid h0; have H1 := Lib.hid h1; have HK := Lib.hid hk
  have HL := Lib.hid hl
  have HRL := Lib.hid (show w.heap.size ≤ w.heap.size from Nat.le_refl _)
  clear h0 h1 hk hG hA hD hok hl
  go_enter Tryz.func12, Tryz.ntmps12
  go_wp2_with ((with_reducible refine wpList_loadM (g := w.heap.size) (off := 0) HO.out ?_ ?_ (block_range H0.out) ?_); exact rfl; exact rfl)
  refine (R.model _ _ _ (HG.out _ HK.out) (HA.out _ HK.out)).mono ?_; rintro e w1 ⟨rfl, hk1⟩
  have HK1 := Lib.hid (HK.out.trans hk1 (FSub.refl _ _))
  have H01 := Lib.hid (hk1.heap H0.out (by simp)); have H11 := Lib.hid (hk1.heap H1.out (by simp))
  have c0 := (cell_lit H11.out 0 rfl : World.cell? _ _ = some (Value.int .u8 S.model))
  clear hk1 H0 H1 HK
  go_wp2_with fail
  refine (r13New_any w1 S.model S.model_in.1 (by have := S.model_in.2; omega)).mono ?_; rintro e w2 ⟨rfl, hk2⟩
  rw [if_pos S.model_in.2, if_pos S.model_in.2]
  have HI := Lib.hid (D13.init w2 S.model)
  have HK2 := Lib.hid (HK1.out.trans hk2 (FSub.refl _ _))
  have H02 := Lib.hid (hk2.heap H01.out (by simp)); have H12 := Lib.hid (hk2.heap H11.out (by simp))
  clear hk2 H01 H11 HK1 c0
  have HC := Lib.hid (show (w2.alloc (.cells #[.int .u8 0, .int .u16 0, .slice none 0 0, .slice none 0 0, .int .i64 0] 36)).heap[w2.heap.size]? = some (.cells mdC0.toArray 36 (0, 0)) from heap_alloc_new w2 _)
  have HKC := Lib.hid (show Keeps [] w2 (w2.alloc (.cells #[.int .u8 0, .int .u16 0, .slice none 0 0, .slice none 0 0, .int .i64 0] 36)) from (Keeps.refl _ _).alloc _)
  go_wp2_with ((with_reducible refine wpList_putD (g := w2.heap.size) (old := mdC0) (A := mdC (mdInit S.model) (.slice none 0 0) (.slice none 0 0)) HI.out.ok mdC0_ok ?_ ?_ HC.out ?_); exact rfl; exact rfl)
  intro w3 hW3 hk3
  have hk23 := HKC.out.trans' hk3 (Nat.le_refl _)
  have H03 := Lib.hid (hk23.heap H02.out (by simp)); have H13 := Lib.hid (hk23.heap H12.out (by simp)); have H23 := Lib.hid hW3
  have HK3 := Lib.hid (HK2.out.trans hk23 (FSub.refl _ _))
  have HI3 := Lib.hid (D13.init w3 S.model)
  clear hW3 hk3 hk23 HC HKC H02 H12 HK2 HI
  generalize w2.heap.size = g2 at *
  go_wp2_with fail
  obtain ⟨R0, hR0⟩ : ∃ R0, R0 = w.heap.size := ⟨_, rfl⟩
  rw [← hR0] at H03 H13 ⊢
  clear hR0 HRL
  obtain ⟨S0, hS0⟩ : ∃ S0 : World → Prop, S0 = fun y => Keeps [] w3 y := ⟨_, rfl⟩
  have HSE := Lib.hid hS0
  have hSD : S0 w3.drew := by rw [hS0]; exact (Keeps.refl _ _).drew
  have HSA := Lib.hid (fun (w' : World) (hh : S0 w') => show w'.rangeAt R0 0 A from by rw [hS0] at hh; exact fun j v hv => hh.cell (block_range H03.out j v hv) (by simp))
  have HSD := Lib.hid (fun (w' : World) (hh : S0 w') => show w'.rangeAt (R0 + 1) 0 (mdC S q m) from by rw [hS0] at hh; exact fun j v hv => hh.cell (block_range H13.out j v hv) (by simp))
  have HSI := Lib.hid (fun (w' : World) (hh : S0 w') => show w'.rangeAt g2 0 (mdC (mdInit S.model) (.slice none 0 0) (.slice none 0 0)) from by rw [hS0] at hh; exact fun j v hv => hh.cell (block_range H23.out j v hv) (by simp))
  have HC0 := Lib.hid (fun (w' : World) (hh : S0 w') => show w'.cell? ⟨R0 + 1, 0, none⟩ = some (.int .u8 S.model) from HSD.out w' hh 0 _ rfl)
  clear hS0
  have hD0 : oInit (some S) = decide (S.model = (mdInit S.model).model ∧ mdB S = mdB (mdInit S.model)) := by
    rw [mdInit_model S.model_in.1 S.model_in.2]; simp [oInit]
  have HD0 := Lib.hid hD0
  have HIL := Lib.hid (show (mdInit S.model).len ≤ 10000 from by rw [mdInit_len]; omega)
  have tm : (S.model == S.model) = true := by simp
  have tb : ((bs (mdB S)).toList == (bs (mdB S)).toList) = true := by simp
  have tt : ((bs (mdT S)).toList == (bs (mdT S)).toList) = true := by simp
  have HMI := Lib.hid S.model_in
  have HSB := Lib.hid (fun w' (h : Keeps [] w3 w') => r13Encode_any w' HS.out (by have := HL.out; omega) (HD.out _ (HK3.out.trans h (FSub.refl _ _))))
  have HST := Lib.hid (fun w' (h : Keeps [] w3 w') => r13Text_any w' HS.out (by have := HL.out; omega) (HD.out _ (HK3.out.trans h (FSub.refl _ _))))
  have HSS := Lib.hid (fun w' (h : Keeps [] w3 w') => r13Same_any w' HS.out (by have := HL.out; omega) (mdInit_in S.model) HIL.out (HD.out _ (HK3.out.trans h (FSub.refl _ _))) (HI3.out.new h))
  have HPB := Lib.hid (fun w' (h : Keeps [] w3 w') => R.enc w' _ (some S) (HG.out _ (HK3.out.trans h (FSub.refl _ _))) (HA.out _ (HK3.out.trans h (FSub.refl _ _))) HL.out)
  have HPT := Lib.hid (fun w' (h : Keeps [] w3 w') => R.text w' _ (some S) (HG.out _ (HK3.out.trans h (FSub.refl _ _))) (HA.out _ (HK3.out.trans h (FSub.refl _ _))) HL.out)
  have HPI := Lib.hid (fun w' (h : Keeps [] w3 w') => R.initial w' _ (some S) (HG.out _ (HK3.out.trans h (FSub.refl _ _))) (HA.out _ (HK3.out.trans h (FSub.refl _ _))) HL.out)
  rw [hD0] at HPI
  have HII := Lib.hid HI3.out.ok
  clear hD0
  generalize decide (S.model = (mdInit S.model).model ∧ mdB S = mdB (mdInit S.model)) = D at *
  have td : (D == D) = true := by simp
  simp only [oModel, Option.isSome_some, oB, oT] at *
  generalize S.model = sm at *
  have HY := Lib.hid ((Keeps.refl [] w3).drew)
  refine wp_region_noPanic ?_
  refine wp_region_held_drew (S := S0) (by kernel_rfl) hSD (fun hHeld => ?_)
  apply wpAnyH_take (i := 0)
  · simp only [List.getElem?_toArray]; rfl
  iterate 3 (· kernel_rfl)
  · exact fun _ _ _ h => h
  · exact Or.inl ⟨by rfl, by intro w hSw; go_simp; try with_reducible rfl⟩
  · assumption
  try simp only [Act.put, lsA, lsZ, lsS]
  apply wpAnyH_take (i := 1)
  · simp only [List.getElem?_toArray]; rfl
  iterate 3 (· kernel_rfl)
  · exact fun _ _ _ h => h
  · exact Or.inl ⟨by rfl, by intro w hSw; go_simp; try with_reducible rfl⟩
  · assumption
  try simp only [Act.put, lsA, lsZ, lsS]
  apply wpAnyH_take (i := 2)
  · simp only [List.getElem?_toArray]; rfl
  iterate 3 (· kernel_rfl)
  · exact fun _ _ _ h => h
  · exact Or.inl ⟨by rfl, by intro w hSw; go_simp; try with_reducible rfl⟩
  · assumption
  try simp only [Act.put, lsA, lsZ, lsS]
  apply wpAnyH_take (i := 3)
  · simp only [List.getElem?_toArray]; rfl
  iterate 3 (· kernel_rfl)
  · exact fun _ _ _ h => h
  · exact Or.inl ⟨by rfl, by intro w hSw; go_simp; try with_reducible rfl⟩
  · assumption
  try simp only [Act.put, lsA, lsZ, lsS]
  apply wpAnyH_take (i := 4)
  · simp only [List.getElem?_toArray]; rfl
  iterate 3 (· kernel_rfl)
  · exact fun _ _ _ h => h
  · exact Or.inl ⟨by rfl, by intro w hSw; have q0 := HC0.out w hSw; go_simp; try with_reducible rfl⟩
  · assumption
  try simp only [Act.put, lsA, lsZ, lsS]
  apply wpAnyH_take (i := 5)
  · simp only [List.getElem?_toArray]; rfl
  iterate 3 (· kernel_rfl)
  · exact fun _ _ _ h => h
  · exact Or.inl ⟨by rfl, by intro w hSw; go_simp; try with_reducible rfl⟩
  · assumption
  try simp only [Act.put, lsA, lsZ, lsS]
  apply wpAnyH_take (i := 6)
  · simp only [List.getElem?_toArray]; rfl
  iterate 3 (· kernel_rfl)
  · exact fun _ _ _ h => h
  · exact Or.inl ⟨by rfl, by intro w hSw; go_simp; try with_reducible rfl⟩
  · assumption
  try simp only [Act.put, lsA, lsZ, lsS]
  apply wpAnyH_take (i := 7)
  · simp only [List.getElem?_toArray]; rfl
  iterate 3 (· kernel_rfl)
  · exact fun _ _ _ h => h
  · exact Or.inl ⟨by rfl, by intro w hSw; go_simp; try with_reducible rfl⟩
  · assumption
  try simp only [Act.put, lsA, lsZ, lsS]
  apply wpAnyH_take (i := 8)
  · simp only [List.getElem?_toArray]; rfl
  iterate 3 (· kernel_rfl)
  · exact fun _ _ _ h => h
  · exact skM.yields HO.out rfl _ rfl R0 0 rfl HSA.out
  · assumption
  try simp only [Act.put, lsA, lsZ, lsS]
  apply wpAnyH_take (i := 10)
  · simp only [List.getElem?_toArray]; rfl
  iterate 3 (· kernel_rfl)
  · exact fun _ _ _ h => h
  · exact skD.yields HQ.out rfl _ rfl (R0 + 1) 0 rfl HSD.out
  · assumption
  try simp only [Act.put, lsA, lsZ, lsS]
  apply wpAnyH_ready (rs := [9])
  · kernel_rfl
  · simp
  apply AllReadyH.cons (hs := AllReadyH.nil)
  · simp only [List.getElem?_toArray]; rfl
  intro K hK
  rw [if_pos (by rfl)]
  refine wp_call9 25 _ _ rfl [.agg A.toArray] rfl Tryz.func25 (by kernel_rfl) (by kernel_rfl) ((HPB.out _ HY.out).mono ?_)
  rintro e y ⟨rfl, hky⟩
  refine ⟨_, rfl, ?_⟩
  replace HY := Lib.hid (HY.out.trans hky (FSub.refl _ _))
  clear hky
  refine hK.out _ _ ?_ (fun hHeld => ?_)
  · exact (by rw [HSE.out]; exact HY.out)
  clear hK K
  try simp only [Act.put, lsA, lsZ, lsS]
  apply wpAnyH_ready (rs := [11])
  · kernel_rfl
  · simp
  apply AllReadyH.cons (hs := AllReadyH.nil)
  · simp only [List.getElem?_toArray]; rfl
  intro K hK
  rw [if_pos (by rfl)]
  refine wp_call9 31 _ _ rfl [.agg (mdC S q m).toArray] rfl Tryz.func31 (by kernel_rfl) (by kernel_rfl) ((HSB.out _ HY.out).mono ?_)
  rintro e y ⟨rfl, hky⟩
  refine ⟨_, rfl, ?_⟩
  replace HY := Lib.hid (HY.out.trans hky (FSub.refl _ _))
  clear hky
  refine hK.out _ _ ?_ (fun hHeld => ?_)
  · exact (by rw [HSE.out]; exact HY.out)
  clear hK K
  try simp only [Act.put, lsA, lsZ, lsS]
  apply wpAnyH_take (i := 12)
  · simp only [List.getElem?_toArray]; rfl
  iterate 3 (· kernel_rfl)
  · exact fun _ _ _ h => h
  · exact Or.inl ⟨by rfl, by intro w hSw; go_simp; try with_reducible rfl⟩
  · assumption
  try simp only [Act.put, lsA, lsZ, lsS]
  apply wpAnyH_take (i := 13)
  · simp only [List.getElem?_toArray]; rfl
  iterate 3 (· kernel_rfl)
  · exact fun _ _ _ h => h
  · exact Or.inl ⟨by rfl, by intro w hSw; go_simp; try with_reducible rfl⟩
  · assumption
  try simp only [Act.put, lsA, lsZ, lsS]
  apply wpAnyH_take (i := 14)
  · simp only [List.getElem?_toArray]; rfl
  iterate 3 (· kernel_rfl)
  · exact fun _ _ _ h => h
  · exact Or.inl ⟨by rfl, by intro w hSw; go_simp; try with_reducible rfl⟩
  · assumption
  try simp only [Act.put, lsA, lsZ, lsS]
  apply wpAnyH_take (i := 15)
  · simp only [List.getElem?_toArray]; rfl
  iterate 3 (· kernel_rfl)
  · exact fun _ _ _ h => h
  · exact skM.yields HO.out rfl _ rfl R0 0 rfl HSA.out
  · assumption
  try simp only [Act.put, lsA, lsZ, lsS]
  apply wpAnyH_take (i := 17)
  · simp only [List.getElem?_toArray]; rfl
  iterate 3 (· kernel_rfl)
  · exact fun _ _ _ h => h
  · exact skD.yields HQ.out rfl _ rfl (R0 + 1) 0 rfl HSD.out
  · assumption
  try simp only [Act.put, lsA, lsZ, lsS]
  apply wpAnyH_ready (rs := [16])
  · kernel_rfl
  · simp
  apply AllReadyH.cons (hs := AllReadyH.nil)
  · simp only [List.getElem?_toArray]; rfl
  intro K hK
  rw [if_pos (by rfl)]
  refine wp_call9 21 _ _ rfl [.agg A.toArray] rfl Tryz.func21 (by kernel_rfl) (by kernel_rfl) ((HPT.out _ HY.out).mono ?_)
  rintro e y ⟨rfl, hky⟩
  refine ⟨_, rfl, ?_⟩
  replace HY := Lib.hid (HY.out.trans hky (FSub.refl _ _))
  clear hky
  refine hK.out _ _ ?_ (fun hHeld => ?_)
  · exact (by rw [HSE.out]; exact HY.out)
  clear hK K
  try simp only [Act.put, lsA, lsZ, lsS]
  apply wpAnyH_ready (rs := [18])
  · kernel_rfl
  · simp
  apply AllReadyH.cons (hs := AllReadyH.nil)
  · simp only [List.getElem?_toArray]; rfl
  intro K hK
  rw [if_pos (by rfl)]
  refine wp_call9 32 _ _ rfl [.agg (mdC S q m).toArray] rfl Tryz.func32 (by kernel_rfl) (by kernel_rfl) ((HST.out _ HY.out).mono ?_)
  rintro e y ⟨rfl, hky⟩
  refine ⟨_, rfl, ?_⟩
  replace HY := Lib.hid (HY.out.trans hky (FSub.refl _ _))
  clear hky
  refine hK.out _ _ ?_ (fun hHeld => ?_)
  · exact (by rw [HSE.out]; exact HY.out)
  clear hK K
  try simp only [Act.put, lsA, lsZ, lsS]
  apply wpAnyH_take (i := 19)
  · simp only [List.getElem?_toArray]; rfl
  iterate 3 (· kernel_rfl)
  · exact fun _ _ _ h => h
  · exact Or.inl ⟨by rfl, by intro w hSw; go_simp; try with_reducible rfl⟩
  · assumption
  try simp only [Act.put, lsA, lsZ, lsS]
  apply wpAnyH_take (i := 20)
  · simp only [List.getElem?_toArray]; rfl
  iterate 3 (· kernel_rfl)
  · exact fun _ _ _ h => h
  · exact Or.inl ⟨by rfl, by intro w hSw; go_simp; try with_reducible rfl⟩
  · assumption
  try simp only [Act.put, lsA, lsZ, lsS]
  apply wpAnyH_take (i := 21)
  · simp only [List.getElem?_toArray]; rfl
  iterate 3 (· kernel_rfl)
  · exact fun _ _ _ h => h
  · exact Or.inl ⟨by rfl, by intro w hSw; go_simp; try with_reducible rfl⟩
  · assumption
  try simp only [Act.put, lsA, lsZ, lsS]
  apply wpAnyH_take (i := 22)
  · simp only [List.getElem?_toArray]; rfl
  iterate 3 (· kernel_rfl)
  · exact fun _ _ _ h => h
  · exact skM.yields HO.out rfl _ rfl R0 0 rfl HSA.out
  · assumption
  try simp only [Act.put, lsA, lsZ, lsS]
  apply wpAnyH_take (i := 24)
  · simp only [List.getElem?_toArray]; rfl
  iterate 3 (· kernel_rfl)
  · exact fun _ _ _ h => h
  · exact skD.yields HQ.out rfl _ rfl (R0 + 1) 0 rfl HSD.out
  · assumption
  try simp only [Act.put, lsA, lsZ, lsS]
  apply wpAnyH_take (i := 25)
  · simp only [List.getElem?_toArray]; rfl
  iterate 3 (· kernel_rfl)
  · exact fun _ _ _ h => h
  · exact skD.yields HII.out rfl _ rfl g2 0 rfl HSI.out
  · assumption
  try simp only [Act.put, lsA, lsZ, lsS]
  apply wpAnyH_ready (rs := [23])
  · kernel_rfl
  · simp
  apply AllReadyH.cons (hs := AllReadyH.nil)
  · simp only [List.getElem?_toArray]; rfl
  intro K hK
  rw [if_pos (by rfl)]
  refine wp_call9 22 _ _ rfl [.agg A.toArray] rfl Tryz.func22 (by kernel_rfl) (by kernel_rfl) ((HPI.out _ HY.out).mono ?_)
  rintro e y ⟨rfl, hky⟩
  refine ⟨_, rfl, ?_⟩
  replace HY := Lib.hid (HY.out.trans hky (FSub.refl _ _))
  clear hky
  refine hK.out _ _ ?_ (fun hHeld => ?_)
  · exact (by rw [HSE.out]; exact HY.out)
  clear hK K
  try simp only [Act.put, lsA, lsZ, lsS]
  apply wpAnyH_ready (rs := [26])
  · kernel_rfl
  · simp
  apply AllReadyH.cons (hs := AllReadyH.nil)
  · simp only [List.getElem?_toArray]; rfl
  intro K hK
  rw [if_pos (by rfl)]
  refine wp_call9 33 _ _ rfl [.agg (mdC S q m).toArray, .agg (mdC (mdInit sm) (.slice none 0 0) (.slice none 0 0)).toArray] rfl Tryz.func33 (by kernel_rfl) (by kernel_rfl) ((HSS.out _ HY.out).mono ?_)
  rintro e y ⟨rfl, hky⟩
  refine ⟨_, rfl, ?_⟩
  replace HY := Lib.hid (HY.out.trans hky (FSub.refl _ _))
  clear hky
  refine hK.out _ _ ?_ (fun hHeld => ?_)
  · exact (by rw [HSE.out]; exact HY.out)
  clear hK K
  try simp only [Act.put, lsA, lsZ, lsS]
  apply wpAnyH_take (i := 27)
  · simp only [List.getElem?_toArray]; rfl
  iterate 3 (· kernel_rfl)
  · exact fun _ _ _ h => h
  · exact Or.inl ⟨by rfl, by intro w hSw; go_simp; try with_reducible rfl⟩
  · assumption
  try simp only [Act.put, lsA, lsZ, lsS]
  apply wpAnyH_take (i := 28)
  · simp only [List.getElem?_toArray]; rfl
  iterate 3 (· kernel_rfl)
  · exact fun _ _ _ h => h
  · exact Or.inl ⟨by rfl, by intro w hSw; go_simp; try with_reducible rfl⟩
  · assumption
  try simp only [Act.put, lsA, lsZ, lsS]
  apply wpAnyH_take (i := 29)
  · simp only [List.getElem?_toArray]; rfl
  iterate 3 (· kernel_rfl)
  · exact fun _ _ _ h => h
  · exact Or.inl ⟨by rfl, by intro w hSw; go_simp; try with_reducible rfl⟩
  · assumption
  try simp only [Act.put, lsA, lsZ, lsS]
  refine wpAnyH_done (by kernel_rfl) ?_ _
  refine NoPanic.normal ?_
  go_wp2_with fail
  go_ret
  exact ⟨rfl, HK3.out.trans HY.out (FSub.refl _ _)⟩
end Go.Proofs.YtdachaekcjbfmaaGreatDoor
