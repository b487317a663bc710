/-
  The program's objects: their texts.
-/
import Derived.Test.YtbnhcggjcdipeaaGreatDoorWA00
import Derived.Test.YtbnhcggjcdipeaaGreatDoorWA30
set_option linter.unusedSimpArgs false
set_option linter.unusedVariables false
namespace Go.Proofs.YtbnhcggjcdipeaaGreatDoor
open Go.RowKit
set_option maxRecDepth 100000
theorem Itoa13_any (w : World) (hg : Glob13 w) (v : Int) (v0 : 0 ≤ v) (v1 : v < 65536) : Calls Tryz.prog 47 #[.int .i64 v] w fun e w' => e = .returned (.string (bs (dec v))) ∧ Keeps [] w w' := by
  refine (Tryz.strconv_Itoa v (by omega) (by omega) w hg.tab).mono ?_
  rintro e w' ⟨rfl, k, os, rfl⟩
  refine ⟨?_, ?_⟩
  · rw [Lib.itoa, if_neg (by omega)]; rfl
  · refine ⟨rfl, rfl, rfl, ?_, fun j hj _ => ?_⟩
    · show w.heap.size ≤ (w.heap ++ os).size
      simp
    · show (w.heap ++ os)[j]? = w.heap[j]?
      simp [Array.getElem?_append, hj]
set_option maxHeartbeats 8000000
theorem mdDecimal_any (w : World) (hg : Glob13 w) (v : Int) (v0 : 0 ≤ v) (v1 : v < 65536) : Calls Tryz.prog 142 #[.int .u16 v] w fun e w' => e = .returned (.string (bs (dec v))) ∧ Keeps [] w w' := by
  have hi := Itoa13_any w hg v v0 v1
  have hw : IntKind.i64.wrap v = v := by simp [IntKind.wrap, IntKind.signed, IntKind.bits]; omega
  go_enter Tryz.func142, Tryz.ntmps142
  go_wp2_with fail
  refine hi.mono ?_; rintro e w1 ⟨rfl, hk⟩
  go_wp2_with fail
  go_ret
  exact ⟨rfl, hk⟩
theorem mdNumT_any (w : World) (hg : Glob13 w) (v : Int) (hv : 0 ≤ v ∧ v < 65536) : Calls Tryz.prog 94 #[.int .u16 v] w fun e w' => e = .returned (.string (bs (mdT (.rg v)))) ∧ Keeps [] w w' := by
  have hi := mdDecimal_any w hg v hv.1 hv.2
  rw [show mdT (.rg v) = dec v from rfl]
  go_enter Tryz.func94, Tryz.ntmps94
  go_wp2_with fail
  refine hi.mono ?_; rintro e w1 ⟨rfl, hk⟩
  go_wp2_with fail
  go_ret
  exact ⟨rfl, hk⟩
theorem mdLkT_any (w : World) (hg : Glob13 w) (s : Int) (hs : 0 ≤ s ∧ s ≤ 16) : Calls Tryz.prog 126 #[.int .u8 s] w fun e w' => e = .returned (.string (bs (mdT (.lk s)))) ∧ Keeps [] w w' := by
  have hh := lkHolder_any w s hs.1 (by omega)
  by_cases h0 : s = 0
  · subst h0
    rw [show mdT (.lk 0) = freeT from rfl]
    have e1 : lkHeld 0 = false := rfl
    rw [e1] at hh
    go_enter Tryz.func126, Tryz.ntmps126
    go_wp2_with fail
    refine hh.mono ?_; rintro e w1 ⟨rfl, rfl⟩
    go_wp2_with fail
    go_ret
    exact ⟨rfl, Keeps.refl _ _⟩
  · have e1 : lkHeld s = true := decide_eq_true (by omega)
    have e2 : lkWho s = s - 1 := if_pos (by omega)
    have e3 : mdT (.lk s) = heldT ++ dec (s - 1) := if_neg h0
    have hi := mdDecimal_any w hg (s - 1) (by omega) (by omega)
    have hw : IntKind.u16.wrap (s - 1) = s - 1 := by simp [IntKind.wrap, IntKind.signed, IntKind.bits]; omega
    rw [e1, e2] at hh
    rw [e3]
    have hs1 : (bs (dec (s - 1))).size ≤ 5 := by rw [bs_size]; exact dec_len5 (v := s - 1) (by omega)
    have E := Lib.hid (bs_cat heldT (dec (s - 1)))
    clear e1 e2 e3
    generalize hS0 : bs (dec (s - 1)) = SD at *
    generalize s - 1 = t at *
    go_enter Tryz.func126, Tryz.ntmps126
    go_wp2_with fail
    refine hh.mono ?_; rintro e w1 ⟨rfl, rfl⟩
    go_wp2_with fail
    refine hi.mono ?_; rintro e w1 ⟨rfl, hk⟩
    go_wp2_with fail
    go_ret
    exact ⟨by rw [← E.out]; rfl, hk⟩
theorem Tryz.infoStr13 : (Tryz.prog.info? 9).map (fun i => (i.zero, i.size, i.bytes)) = some (some (.string ⟨#[]⟩), 1, 16) := by kernel_rfl
def strC (x : List UInt8) : List Value := [.string (bs x)]
/-- Strings, side by side. -/
noncomputable def rkS : RK (List UInt8) :=
  { T := 9, Sl := 111, s := 1, b := 16, cs := strC, i := (info_parts Tryz.infoStr13).choose, z := .string ⟨#[]⟩,
    len := fun _ => rfl, one := by intro x v hv; simp only [strC, List.mem_cons, List.not_mem_nil, or_false] at hv; subst hv; rfl, s0 := by decide, b1 := by decide, und := Tryz.underlying111,
    hi := (info_parts Tryz.infoStr13).choose_spec.1, hz := (info_parts Tryz.infoStr13).choose_spec.2.1, hs := (info_parts Tryz.infoStr13).choose_spec.2.2.1, hb := (info_parts Tryz.infoStr13).choose_spec.2.2.2, hzs := rfl }
theorem join_spT : ∀ l : List (List UInt8), Lib.join l [32] = spT l
  | [] => rfl
  | [x] => Lib.join_one x [32]
  | x :: y :: r => by
    have ih := join_spT (y :: r)
    rw [Lib.join_cons] at ih ⊢
    show x ++ Lib.joinTail [32] (y :: r) = x ++ 32 :: spT (y :: r)
    rw [← ih]
    simp [Lib.joinTail]
theorem Join13_any (w : World) {B : Nat} {v : Value} {l : List (List UInt8)} (h : rkS.Own B w v l) (hll : l.length ≤ 1000) (hlen : (spT l).length ≤ 1000000) :
    Calls Tryz.prog 49 #[v, .string ⟨#[32]⟩] w fun e w' => e = .returned (.string (bs (spT l))) ∧ Keeps [] w w' := by
  by_cases hn : l = []
  · subst hn
    obtain ⟨a, c, rfl, hc, hm⟩ := h.shape
    exact (Tryz.strings_Join_none a c ⟨#[32]⟩ w).mono fun e w' ⟨he, hw⟩ => ⟨he, by subst hw; exact Keeps.refl _ _⟩
  · rcases h.2 with ⟨rfl, h0⟩ | ⟨g, cap, cur, rfl, _, hh, hc, hm, _⟩
    · exact absurd (List.eq_nil_of_length_eq_zero h0) hn
    · have e0 : (l.map bs).map (·.data.toList) = l := by simp [Function.comp_def, bs_list]
      have hl : (l.map bs).length = l.length := by simp
      have c := Tryz.strings_Join g 0 cap (l.map bs) ⟨#[32]⟩ w (fun j x hj => ?_) (lt_of_block hh) (by rw [hl]; omega) (by rw [hl]; exact hc) (by rw [e0]; show (Lib.join l [32]).length ≤ _; rw [join_spT]; omega)
      · rw [hl, e0] at c
        exact c.mono fun e w' ⟨he, hb⟩ => ⟨by rw [he, ← join_spT]; rfl, Keeps.ofBelow hb⟩
      · have hrow : (rkS.row l)[j]? = some (.string x) := by
          rw [List.getElem?_map] at hj
          cases hq : l[j]? with
          | none => simp [hq] at hj
          | some y =>
            simp [hq] at hj
            have := rkS.row_get l j y hq 0 (.string (bs y)) rfl
            rw [show j * rkS.s + 0 = j from by show j * 1 + 0 = j; omega] at this
            rw [this, hj]
        have := h.cells (g := g) rfl j (.string x) hrow
        have ha : ((⟨g, 0, none⟩ : Addr).add j) = ⟨g, 0 + j, none⟩ := by unfold Addr.add; split <;> simp_all
        rw [ha] at this
        exact this
theorem mdQuT_any (w : World) (hg : Glob13 w) {v : Value} {l : List Int} (h : QIn w v l) (hu : U16s l) (hl : l.length ≤ 1000) : Calls Tryz.prog 105 #[.agg #[v]] w fun e w' => e = .returned (.string (bs (mdT (.qu l)))) ∧ Keeps [] w w' := by
  have hk0 : Keeps [] w (w.alloc (.cells #[v] 184)) := (Keeps.refl _ _).alloc _
  obtain ⟨a1, c1, rfl, hc1, hm1⟩ := h.shape
  have HV := Lib.hid (fun W (hk : Keeps [] w W) => quValues_any W (h.keeps hk (by simp)) (by omega))
  have HU := Lib.hid hu; have HK0 := Lib.hid hk0; have HL := Lib.hid hl; have HG := Lib.hid hg
  clear h hu hk0 hl hg
  generalize hn : l.length = n at *
  have HN := Lib.hid hn
  clear hn
  go_enter Tryz.func105, Tryz.ntmps105
  go_wp2_with fail
  refine (HV.out _ HK0.out).mono ?_
  rintro e w1 ⟨v', rfl, hown, hk1⟩
  have HOW := Lib.hid hown
  have HK1 := Lib.hid (HK0.out.trans hk1 (FSub.refl _ _))
  obtain ⟨a2, c2, rfl, hc2, hm2⟩ := hown.shape
  rw [HN.out] at hc2 ⊢
  clear hown hk1
  go_wp2_with fail
  have HVI := Lib.hid (HOW.out.in_)
  have HLL := Lib.hid (show ∀ k, (spT ((l.take k).map dec)).length ≤ 60000 from fun k => by
    have hm := spT_len (l := (l.take k).map dec) (n := 5) (fun x hx => by
      obtain ⟨v, hv, rfl⟩ := List.mem_map.1 hx
      exact dec_len5 (HU.out v (List.mem_of_mem_take hv)).2)
    rw [List.length_map] at hm
    have h3 : (l.take k).length ≤ 1000 := by rw [List.length_take]; have := HN.out; have := HL.out; omega
    have h4 : (l.take k).length * (5 + 1) ≤ 1000 * 6 := Nat.mul_le_mul_right 6 h3
    omega)
  clear HV HOW
  go_loopw [3, 9] (fun t i wr => ∃ (k : Nat), i = .int .i64 k ∧ k ≤ n ∧ rkS.Own w1.heap.size wr t ((l.take k).map dec) ∧ Keeps [] w1 wr) (fun _ i _ => n - (intOf i).toNat)
  case atStart => exact ⟨0, rfl, by omega, RK.Own.nil rkS _ _, Keeps.refl _ _⟩
  case round =>
    obtain ⟨k, rfl, hk, ht, hkw⟩ := hrel
    by_cases hlt : k < n
    · have hkl : k < l.length := by have := HN.out; omega
      obtain ⟨b1, o1, rfl, _, d1⟩ := U16.at (HVI.out.new hkw (Nat.le_refl _)) hkl
      have HX := Lib.hid (HU.out _ (getD_in 0 hkl))
      have HNX := Lib.hid (show (l.take (k + 1)).map dec = (l.take k).map dec ++ [dec (l.getD k 0)] from by rw [take_nextD 0 hkl, List.map_append]; rfl)
      have HT := Lib.hid ht; have HKW := Lib.hid hkw
      have HF := Lib.hid (show ((l.take k).map dec).length ≤ 1000 from by rw [List.length_map, List.length_take]; have := HL.out; omega)
      obtain ⟨a9, c9, rfl, hc9, hm9⟩ := ht.shape
      generalize l.getD k 0 = X at *
      generalize (l.take k).map dec = M at *
      have HDC := Lib.hid (mdDecimal_any wr (HG.out.new (HK1.out.trans HKW.out (FSub.refl _ _))) X HX.out.1 HX.out.2)
      clear ht hkw hc9 hm9
      go_wp2_with fail
      refine HDC.out.mono ?_; rintro e w2 ⟨rfl, hk2⟩
      have hT2 := HT.out.keeps hk2 (by simp)
      have HK2 := Lib.hid ((HK1.out.trans HKW.out (FSub.refl _ _)).trans hk2 (FSub.refl _ _))
      have HK3 := Lib.hid (HKW.out.trans hk2 (FSub.refl _ _))
      obtain ⟨v', w3, hrun, hrow3, hk3, hf3⟩ := rkS.append1 w2 w1.heap.size HK3.out.size _ _ hT2 (dec X) (by have := HF.out; omega)
      have HRUN := Lib.hid (show (Builtin.append_ #[111, 111] 111 #[.slice a9 M.length c9, .slice (some ⟨w2.heap.size, 0, none⟩) 1 1]).run Tryz.prog (w2.alloc (.cells #[.string (bs (dec X))] 9)) = .ok v' w3 from hrun)
      have HROW := Lib.hid hrow3
      have HK4 := Lib.hid (HK3.out.trans hk3 (fun q hq => .inr (row_base HT.out q hq).1))
      obtain ⟨a8, c8, rfl, -, -⟩ := hrow3.shape
      clear hk2 hT2 hrun hrow3 hk3 hf3 HK2 HK3 HKW HDC d1
      go_wp2_with ((with_reducible refine wpList_app (.slice a9 M.length c9) (.slice (some ⟨w2.heap.size, 0, none⟩) 1 1) ?_ ?_ HRUN.out ?_); exact rfl; exact rfl)
      go_roundw
      case rel => exact ⟨k + 1, by go_num, by omega, by rw [HNX.out]; have h := HROW.out; rw [List.length_append] at h; exact h, HK4.out⟩
      case measure => simp [intOf]; omega
    · obtain rfl : k = n := by omega
      have hall : l.take k = l := by rw [← HN.out, List.take_length]
      have hlen := HLL.out k
      rw [hall] at ht hlen
      have HKW := Lib.hid (HK1.out.trans hkw (FSub.refl _ _))
      obtain ⟨a9, c9, rfl, hc9, hm9⟩ := ht.shape
      have hj := Join13_any wr ht (by rw [List.length_map]; have := HN.out; have := HL.out; omega) (by omega)
      rw [show (l.map dec).length = k from by rw [List.length_map, HN.out]] at hj ⊢
      have HJ := Lib.hid hj
      have E := Lib.hid (show ⟨#[91]⟩ ++ bs (spT (l.map dec)) ++ ⟨#[93]⟩ = bs (mdT (.qu l)) from by
        rw [show (⟨#[91]⟩ : ByteArray) = bs [91] from rfl, show (⟨#[93]⟩ : ByteArray) = bs [93] from rfl, bs_cat, bs_cat]
        simp [mdT])
      have hs2 : (bs (spT (l.map dec))).size ≤ 60000 := by rw [bs_size]; exact hlen
      generalize bs (spT (l.map dec)) = TS at *
      have hs3 : (⟨#[91]⟩ ++ TS : ByteArray).size ≤ 60001 := by rw [ByteArray.size_append]; show 1 + TS.size ≤ _; omega
      clear ht hkw hall hlen hj hc9 hm9 hc2 hm2 hc1 hm1
      go_wp2_with fail
      refine HJ.out.mono ?_; rintro e w2 ⟨rfl, hk2⟩
      go_wp2_with fail
      go_ret
      exact ⟨by rw [← E.out]; rfl, HKW.out.trans hk2 (FSub.refl _ _)⟩
section
variable {o : Oper} {a : Act} {w : World} {K : Act → World → Prop} {Q : Exit → Act → World → Prop}
theorem wp_buildS (x : Operand) (ho : o.op = .buildSlice 111 1 #[(0, x)]) {y : ByteArray} (hx : a.eval x = .string y)
    (h : K (a.put o.dst (.slice (some ⟨w.heap.size, 0, none⟩) 1 1)) (w.alloc (.cells #[.string y] 9))) : o.wp Tryz.prog a w K Q := by
  refine wp_buildSlice 111 9 1 #[(0, x)] ho #[.string y] rkS.i _ rkS.und rkS.hi rkS.hz (by rw [rkS.hs]; decide) (by rw [rkS.hs]; decide) ?_ h
  rw [rkS.hs]
  have e : (#[(0, x)].map fun (i, z) => (i, a.eval z)).toList = [(0, a.eval x)] := by simp
  rw [e, hx]
  have := Great.fill_whole (s := 1) (by decide) [Value.string y] ((Array.range (1 * 1)).map (rkS.z.cells[· % rkS.z.cells.size]!)) (by intro v hv; simp at hv; subst hv; rfl) (by simp)
  exact this
end
theorem mdMpT_any (w : World) (hg : Glob13 w) {m : Kv} (hm : KvIn m) : Calls Tryz.prog 116 #[kvVal m] w fun e w' => e = .returned (.string (bs (mdT (.mp m)))) ∧ Keeps [] w w' := by
  have hk0 : Keeps [] w (w.alloc (.cells (kvA (kvH m) (kvV m)) 197)) := (Keeps.refl _ _).alloc _
  have HB := Lib.hid (heap_alloc_new w (.cells (kvA (kvH m) (kvV m)) 197))
  have HK0 := Lib.hid hk0; have HG := Lib.hid hg; have HM := Lib.hid hm
  have HH := Lib.hid (show kvH m < 256 from by have h := kvH_lt m; rw [hm.len] at h; exact h)
  clear hk0 hg hm
  unfold kvVal
  go_enter Tryz.func116, Tryz.ntmps116
  go_wp2_with fail
  generalize w.alloc (.cells (kvA (kvH m) (kvV m)) 197) = w1 at *
  go_loopw [3, 5] (fun t i wr => ∃ (k : Nat), i = .int .u8 k ∧ k ≤ 8 ∧ rkS.Own w1.heap.size wr t ((itOf 0 (m.take k)).map itT) ∧ Keeps [] w1 wr) (fun _ i _ => 8 - (intOf i).toNat)
  case atStart => exact ⟨0, rfl, by omega, RK.Own.nil rkS _ _, Keeps.refl _ _⟩
  case round =>
    obtain ⟨k, rfl, hk, ht, hkw⟩ := hrel
    have HKW := Lib.hid hkw; have HT := Lib.hid ht
    obtain ⟨a9, c9, rfl, hc9, hm9⟩ := ht.shape
    clear ht hkw hc9 hm9
    by_cases hlt : k < 8
    · have z8 : (k : Int) < 8 := by omega
      have c0 := kv_byte (HKW.out.heap HB.out (by simp))
      have hq : kvH m / 2 ^ k < 256 := Nat.lt_of_le_of_lt (Nat.div_le_self _ _) HH.out
      have hb := and8 hq
      rw [show ((kvH m / 2 ^ k : Nat) : Int) = (kvH m : Int) / 2 ^ k from by rw [Int.natCast_ediv, Int.natCast_pow]; rfl] at hb
      have HBT := Lib.hid (kvH_bit m k)
      have wk : IntKind.u8.wrap ((k : Int) + 1) = (k : Int) + 1 := by simp [IntKind.wrap, IntKind.signed, IntKind.bits]; omega
      clear hq
      cases ho : (m.getD k none).isSome with
      | false =>
        have e : kvH m / 2 ^ k % 2 = 0 := by have := HBT.out; rw [ho] at this; simpa using this
        rw [e] at hb
        have HNX := Lib.hid (show itOf 0 (m.take (k + 1)) = itOf 0 (m.take k) from by
          rw [itOf_next (by rw [HM.out.len]; exact hlt)]
          cases hh : m.getD k none with
          | none => simp
          | some v => rw [hh] at ho; cases ho)
        clear e ho
        go_wp2_with fail
        go_roundw
        case rel => exact ⟨k + 1, by go_num, by omega, by rw [HNX.out]; exact HT.out, HKW.out⟩
        case measure => simp [intOf]; omega
      | true =>
        have e : kvH m / 2 ^ k % 2 = 1 := by have := HBT.out; rw [ho] at this; simpa using this
        rw [e] at hb
        obtain ⟨v, hv⟩ : ∃ v, m.getD k none = some v := by
          cases hh : m.getD k none with
          | none => rw [hh] at ho; cases ho
          | some v => exact ⟨v, rfl⟩
        have hrv : 0 ≤ v ∧ v < 65536 := HM.out.rng k v (by
          rw [List.getD_eq_getElem?_getD, List.getElem?_eq_getElem (by rw [HM.out.len]; exact hlt)] at hv
          rw [List.getElem?_eq_getElem (by rw [HM.out.len]; exact hlt)]
          simpa using hv)
        have HNX := Lib.hid (show (itOf 0 (m.take (k + 1))).map itT = (itOf 0 (m.take k)).map itT ++ [itT ⟨k, v⟩] from by
          rw [itOf_next (by rw [HM.out.len]; exact hlt), hv, List.map_append]; rfl)
        have hcv := kv_cell (HKW.out.heap HB.out (by simp)) hlt
        rw [kvV_getD (by rw [HM.out.len]; exact hlt), hv] at hcv
        have HCV := Lib.hid (show wr.cell? ⟨w.heap.size, 1 + k, none⟩ = some (.int .u16 v) from hcv)
        have HF := Lib.hid (show ((itOf 0 (m.take k)).map itT).length ≤ 1000 from by
          have h1 := itOf_len 0 (m.take k); rw [List.length_map]; rw [List.length_take] at h1; omega)
        have hwk : IntKind.u16.wrap (k : Int) = k := by simp [IntKind.wrap, IntKind.signed, IntKind.bits]; omega
        have HGR := Lib.hid (HG.out.new (HK0.out.trans HKW.out (FSub.refl _ _)))
        have HD1 := Lib.hid (fun w hg => mdDecimal_any w hg (k : Int) (by omega) (by omega))
        have HD2 := Lib.hid (fun w hg => mdDecimal_any w hg v hrv.1 hrv.2)
        have hs2 : (bs (dec k)).size ≤ 5 := by rw [bs_size]; exact dec_len5 (by omega)
        have hs3 : (bs (dec v)).size ≤ 5 := by rw [bs_size]; exact dec_len5 hrv.2
        have E := Lib.hid (show bs (dec k) ++ ⟨#[58]⟩ ++ bs (dec v) = bs (itT ⟨k, v⟩) from by
          rw [show (⟨#[58]⟩ : ByteArray) = bs [58] from rfl, bs_cat, bs_cat]
          show bs (dec k ++ [58] ++ dec v) = bs (dec k ++ 58 :: dec v)
          simp)
        clear e ho hv hcv hrv
        generalize (itOf 0 (m.take k)).map itT = M at *
        generalize itT ⟨k, v⟩ = IT at *
        generalize bs (dec k) = SK at *
        generalize bs (dec v) = SV at *
        go_wp2_with fail
        have q1 : ¬ 9223372036854775807 < SK.size + 1 := by omega
        have q2 : ¬ 9223372036854775807 < SK.size + 1 + SV.size := by omega
        obtain ⟨S0, hS0⟩ : ∃ S0 : World → Prop, S0 = fun y => Keeps (own (.slice a9 M.length c9)) wr y := ⟨_, rfl⟩
        have HSE := Lib.hid hS0
        have hSD : S0 wr.drew := by rw [hS0]; exact ((Keeps.refl [] _).drew).more (by simp)
        have HS3 := Lib.hid (fun (w' : World) (hh : S0 w') => show w'.cell? ⟨w.heap.size, 1 + k, none⟩ = some (.int .u16 v) from by rw [hS0] at hh; exact hh.cell HCV.out (by
          intro hq
          have h1 : w1.heap.size ≤ w.heap.size := (row_base HT.out _ hq).1
          have h2 := lt_of_block HB.out
          omega))
        clear hS0
        refine wp_region_noPanic ?_
        refine wp_region_held_drew (S := S0) (by kernel_rfl) hSD (fun hHeld => ?_)
        refine tw 0 (h := ?_)
        refine tw 1 (h := ?_)
        refine tw 2 (h := ?_)
        refine tw 5 (h := ?_)
        refine tw 6 (h := ?_)
        refine tw 7 (h := ?_)
        refine tk 8 (y := by exact Or.inl ⟨by rfl, by intro w hSw; have q0 := HS3.out w hSw; go_simp; try with_reducible rfl⟩) (h := ?_)
        refine rp 3 (h := fun K hK => ?_)
        refine wp_call9 142 _ _ rfl [.int .u16 k] rfl Tryz.func142 (by kernel_rfl) (by kernel_rfl) ((HD1.out _ (HGR.out.new (Keeps.refl _ _).drew)).mono ?_)
        rintro e W2 ⟨rfl, hk2⟩
        refine ⟨_, rfl, ?_⟩
        have HK2 := Lib.hid (((Keeps.refl [] wr).drew).trans hk2 (FSub.refl _ _))
        clear hk2
        refine hK.out _ _ (by rw [HSE.out]; exact HK2.out.more (by simp)) (fun hHeld => ?_); clear hK K; try simp only [Act.put, lsA, lsZ, lsS]
        refine tw 4 (h := ?_)
        refine rp 9 (h := fun K hK => ?_)
        refine wp_call9 142 _ _ rfl [.int .u16 v] rfl Tryz.func142 (by kernel_rfl) (by kernel_rfl) ((HD2.out _ (HGR.out.new HK2.out)).mono ?_)
        rintro e W3 ⟨rfl, hk2⟩
        refine ⟨_, rfl, ?_⟩
        have HK3 := Lib.hid (HK2.out.trans hk2 (FSub.refl _ _))
        clear hk2
        refine hK.out _ _ (by rw [HSE.out]; exact HK3.out.more (by simp)) (fun hHeld => ?_); clear hK K; try simp only [Act.put, lsA, lsZ, lsS]
        refine tw 10 (h := ?_)
        refine rp 11 (h := fun K hK => ?_)
        refine wp_buildS (y := SK ++ ⟨#[58]⟩ ++ SV) _ rfl rfl ?_
        refine hK.out _ _ (by rw [HSE.out]; exact (HK3.out.alloc _).more (by simp)) (fun hHeld => ?_); clear hK K; try simp only [Act.put, lsA, lsZ, lsS]
        obtain ⟨v', w3, hrun, hrow3, hk3, hf3⟩ := rkS.append1 W3 w1.heap.size (Nat.le_trans HKW.out.size HK3.out.size) _ _ (HT.out.keeps HK3.out (by simp)) IT (by have := HF.out; omega)
        have HRUN := Lib.hid (show (Builtin.append_ #[111, 111] 111 #[.slice a9 M.length c9, .slice (some ⟨W3.heap.size, 0, none⟩) 1 1]).run Tryz.prog (W3.alloc (.cells #[.string (SK ++ ⟨#[58]⟩ ++ SV)] 9)) = .ok v' w3 from by rw [E.out]; exact hrun)
        have HROW := Lib.hid hrow3
        have HK4 := Lib.hid ((HK3.out.more (G := own (.slice a9 M.length c9)) (by simp)).trans hk3 (FSub.refl _ _))
        obtain ⟨a8, c8, rfl, -, -⟩ := hrow3.shape
        clear hrun hrow3 hk3 hf3 HK2
        refine rp 12 (h := fun K hK => ?_)
        refine wp_append_run _ _ 111 rfl _ _ _ w3 rfl rfl HRUN.out ?_
        refine hK.out _ _ (by rw [HSE.out]; exact HK4.out) (fun hHeld => ?_); clear hK K; try simp only [Act.put, lsA, lsZ, lsS]
        refine tw 13 (h := ?_)
        refine wpAnyH_done (by kernel_rfl) ?_ _
        refine NoPanic.normal ?_
        go_wp2_with fail
        go_roundw
        case rel => exact ⟨k + 1, by go_num, by omega, by rw [HNX.out]; have h := HROW.out; rw [List.length_append] at h; exact h, HKW.out.trans HK4.out (fun q hq => .inr (row_base HT.out q hq).1)⟩
        case measure => simp [intOf]; omega
    · obtain rfl : k = 8 := by omega
      have hall : m.take 8 = m := by rw [← HM.out.len, List.take_length]
      have ht := HT.out
      have hlen : (spT ((itOf 0 m).map itT)).length ≤ 64 := by have h := mpT_len HM.out (k := 8) (by omega); unfold mpT at h; rw [hall] at h; exact h
      have hml : ((itOf 0 m).map itT).length ≤ 8 := by have h1 := itOf_len 0 m; rw [HM.out.len] at h1; rw [List.length_map]; exact h1
      rw [hall] at ht ⊢
      have HJ := Lib.hid (Join13_any wr ht (by omega) (by omega))
      have E := Lib.hid (show ⟨#[123]⟩ ++ bs (spT ((itOf 0 m).map itT)) ++ ⟨#[125]⟩ = bs (mdT (.mp m)) from by
        rw [show (⟨#[123]⟩ : ByteArray) = bs [123] from rfl, show (⟨#[125]⟩ : ByteArray) = bs [125] from rfl, bs_cat, bs_cat]
        simp [mdT])
      have hs2 : (bs (spT ((itOf 0 m).map itT))).size ≤ 64 := by rw [bs_size]; exact hlen
      generalize ((itOf 0 m).map itT).length = nn at *
      generalize bs (spT ((itOf 0 m).map itT)) = TS at *
      have hs3 : (⟨#[123]⟩ ++ TS : ByteArray).size ≤ 65 := by rw [ByteArray.size_append]; show 1 + TS.size ≤ _; omega
      clear ht hall hlen hml
      go_wp2_with fail
      refine HJ.out.mono ?_; rintro e w2 ⟨rfl, hk2⟩
      go_wp2_with fail
      go_ret
      exact ⟨by rw [← E.out]; rfl, (HK0.out.trans HKW.out (FSub.refl _ _)).trans hk2 (FSub.refl _ _)⟩
end Go.Proofs.YtbnhcggjcdipeaaGreatDoor
/-
  The program's kinds: what the six function values of one model do.
-/
namespace Go.Proofs.YtbnhcggjcdipeaaGreatDoor
open Go.RowKit
set_option maxRecDepth 100000
/-- The six function values of a kind. -/
structure Kd where
  i : Nat × Array Value
  s : Nat × Array Value
  e : Nat × Array Value
  t : Nat × Array Value
  d : Nat × Array Value
  f : Nat × Array Value
def Kd.cs (k : Kd) : List Value := [fv k.i, fv k.s, fv k.e, fv k.t, fv k.d, fv k.f]
structure KindAt (w : World) (m : Int) (k : Kd) : Prop where
  init : ∀ w', Keeps [] w w' → CallsV w' (fv k.i) [] fun z w2 => ∃ o, z = .returned o ∧ ObAt w2 o (mdInit m) ∧ Keeps [] w' w2 ∧ obFoot o = []
  step : ∀ w' o S c x, Keeps [] w w' → Glob13 w' → ObAt w' o S → S.model = m → S.len ≤ 1000 → 0 ≤ c → c ≤ 15 → x.In → opChk m x = 0 → CallsV w' (fv k.s) [o, .int .u8 c, x.val] fun z w2 =>
    ∃ o', z = .returned (.tuple #[o', .agg (ansC (mdY S c x).2).toArray, .int .i64 0]) ∧ ObAt w2 o' (mdY S c x).1 ∧ Keeps [] w' w2 ∧ FSub (obFoot o') (obFoot o) w'.heap.size
  enc : ∀ w' o S, Keeps [] w w' → Glob13 w' → ObAt w' o S → S.model = m → S.len ≤ 1000 → CallsV w' (fv k.e) [o] fun z w2 => z = .returned (.string (bs (mdB S))) ∧ Keeps [] w' w2
  text : ∀ w' o S, Keeps [] w w' → Glob13 w' → ObAt w' o S → S.model = m → S.len ≤ 1000 → CallsV w' (fv k.t) [o] fun z w2 => z = .returned (.string (bs (mdT S))) ∧ Keeps [] w' w2
  dec : ∀ w' b, Keeps [] w w' → b.length ≤ 1000 → CallsV w' (fv k.d) [.string (bs b)] fun z w2 => ∃ o er, z = .returned (.tuple #[o, .int .i64 er]) ∧ o.oneCell' = true ∧ ((mdD m b).2 ≠ 0 → er ≠ 0) ∧ (∀ S, (mdD m b).1 = some S → er = 0 ∧ ObAt w2 o S) ∧ Keeps [] w' w2 ∧ ∀ q ∈ obFoot o, w'.heap.size ≤ q
  idle : ∀ w' g, Keeps [] w w' → 0 ≤ g ∧ g < 256 → CallsV w' (fv k.f) [.int .u8 g] fun z w2 => z = .returned (.bool (mdIdle m g)) ∧ Keeps [] w' w2
theorem CallsV.of {w : World} {k : Nat} {cap : Array Value} {args : List Value} {post : Ending → World → Prop} (A : Array Value) (hA : args.toArray ++ cap = A) (hf : ∃ fn, Tryz.prog.funcs[k]? = some fn ∧ (fn.name == "runtime.NumGoroutine") = false ∧ fn.body.isNone = false)
    (h : Calls Tryz.prog k A w post) : CallsV w (fv (k, cap)) args post := ⟨k, cap, rfl, hf, by rw [hA]; exact h⟩
theorem kindR_at (w : World) {p1 q1 pA pS pE pT pD qD : Nat} (h1 : w.cell? ⟨p1, 0, none⟩ = some (.int .u8 0)) (h2 : w.cell? ⟨q1, 0, none⟩ = some (fnV 88)) (h3 : w.cell? ⟨pA, 0, none⟩ = some (fnV 91))
    (h4 : w.cell? ⟨pS, 0, none⟩ = some (fv (139, #[ptr pA]))) (h5 : w.cell? ⟨pE, 0, none⟩ = some (fv (93, #[]))) (h6 : w.cell? ⟨pT, 0, none⟩ = some (fv (94, #[]))) (h7 : w.cell? ⟨pD, 0, none⟩ = some (.int .u8 0)) (h8 : w.cell? ⟨qD, 0, none⟩ = some (fnV 96)) :
    KindAt w 0 ⟨(137, #[ptr p1, ptr q1]), (138, #[ptr pS]), (141, #[ptr pE]), (141, #[ptr pT]), (143, #[ptr qD, ptr pD]), (97, #[])⟩ where
  init := fun w' hk => CallsV.of _ rfl ⟨_, Tryz.func137, by kernel_rfl, by kernel_rfl⟩ ((mdInitR1_any w' p1 q1 (hk.cell h1 (by simp)) (hk.cell h2 (by simp))).mono fun z w2 ⟨e, hk2⟩ => ⟨_, e, ⟨rfl, by decide, by decide⟩, hk2, rfl⟩)
  step := fun w' o S c x hk hg ho hm hl h0 h15 hx hq => by
    cases S <;> try cases hm
    rename_i s
    obtain ⟨rfl, hs⟩ := ho
    have he : (rgX s x).2.2 = 0 := mdY_err (S := .rg s) hs h15 hq
    refine CallsV.of _ rfl ⟨_, Tryz.func138, by kernel_rfl, by kernel_rfl⟩ ((mdStR1_any w' pS _ (hk.cell h4 (by simp)) s (rgX s x).1 c x (rgX s x).2.1 (fun w2 hk2 => ?_)).mono fun z w2 ⟨e, hk2⟩ => ⟨_, e, ⟨rfl, rgX_st hs hx⟩, hk2, fun q hq => by cases hq⟩)
    refine CallsV.of _ rfl ⟨_, Tryz.func139, by kernel_rfl, by kernel_rfl⟩ ((mdAnyR1_any w2 pA ((hk.trans hk2 (FSub.refl _ _)).cell h3 (by simp)) s c x hx).mono fun z w3 ⟨e, hk3⟩ => ⟨_, by rw [e, he], rfl, hk3⟩)
  enc := fun w' o S hk hg ho hm hl => by
    cases S <;> try cases hm
    obtain ⟨rfl, hs⟩ := ho
    refine CallsV.of _ rfl ⟨_, Tryz.func141, by kernel_rfl, by kernel_rfl⟩ (mdStrR1_any w' pE _ (hk.cell h5 (by simp)) _ fun w2 hk2 => ?_)
    exact CallsV.of _ rfl ⟨_, Tryz.func93, by kernel_rfl, by kernel_rfl⟩ (rgEncode_any w2 _ hs)
  text := fun w' o S hk hg ho hm hl => by
    cases S <;> try cases hm
    obtain ⟨rfl, hs⟩ := ho
    refine CallsV.of _ rfl ⟨_, Tryz.func141, by kernel_rfl, by kernel_rfl⟩ (mdStrR1_any w' pT _ (hk.cell h6 (by simp)) _ fun w2 hk2 => ?_)
    exact CallsV.of _ rfl ⟨_, Tryz.func94, by kernel_rfl, by kernel_rfl⟩ (mdNumT_any w2 (hg.new hk2) _ hs)
  dec := fun w' b hk hb => by
    have hd : mdD 0 b = if b.length = 2 then (some (.rg (rgN b)), 0) else (none, 4) := rfl
    refine CallsV.of _ rfl ⟨_, Tryz.func143, by kernel_rfl, by kernel_rfl⟩ ((mdDeR1_any w' pD qD (hk.cell h7 (by simp)) (hk.cell h8 (by simp)) (bs b) (if b.length = 2 then 0 else 4) (P := fun n => (b.length = 2 → n = rgN b) ∧ (0 ≤ n ∧ n < 65536)) ((rgDecode_any w' b hb).mono fun z w2 ⟨n, e, a1, a2, hk2⟩ => ⟨n, e, ⟨a1, a2⟩, hk2⟩)).mono ?_)
    rintro z w2 ⟨n, rfl, ⟨a1, a2⟩, hk2⟩
    refine ⟨_, _, rfl, rfl, fun hne => ?_, fun S hS => ?_, hk2, fun q hq => by cases hq⟩
    · rw [hd] at hne
      split at hne
      · exact absurd rfl hne
      · rename_i h; rw [if_neg h]; decide
    · rw [hd] at hS
      split at hS
      · rename_i h
        obtain rfl := Option.some.inj hS
        exact ⟨if_pos h, by rw [a1 h] at a2 ⊢; exact ⟨rfl, a2⟩⟩
      · cases hS
  idle := fun w' g hk hg => CallsV.of _ rfl ⟨_, Tryz.func97, by kernel_rfl, by kernel_rfl⟩ ((rgIdle_any w' g).mono fun z w2 ⟨e, hk2⟩ => ⟨by rw [e]; congr 2; simp [mdIdle], hk2⟩)
theorem kindL_at (w : World) {p1 q1 pS pE pT pD qD : Nat} (h1 : w.cell? ⟨p1, 0, none⟩ = some (.int .u8 3)) (h2 : w.cell? ⟨q1, 0, none⟩ = some (fnV 121))
    (h4 : w.cell? ⟨pS, 0, none⟩ = some (fv (123, #[]))) (h5 : w.cell? ⟨pE, 0, none⟩ = some (fv (125, #[]))) (h6 : w.cell? ⟨pT, 0, none⟩ = some (fv (126, #[]))) (h7 : w.cell? ⟨pD, 0, none⟩ = some (.int .u8 3)) (h8 : w.cell? ⟨qD, 0, none⟩ = some (fnV 128)) :
    KindAt w 3 ⟨(166, #[ptr p1, ptr q1]), (167, #[ptr pS]), (170, #[ptr pE]), (170, #[ptr pT]), (172, #[ptr qD, ptr pD]), (129, #[])⟩ where
  init := fun w' hk => CallsV.of _ rfl ⟨_, Tryz.func166, by kernel_rfl, by kernel_rfl⟩ ((mdInitL1_any w' p1 q1 (hk.cell h1 (by simp)) (hk.cell h2 (by simp))).mono fun z w2 ⟨e, hk2⟩ => ⟨_, e, ⟨rfl, by decide, by decide⟩, hk2, rfl⟩)
  step := fun w' o S c x hk hg ho hm hl h0 h15 hx hq => by
    cases S <;> try cases hm
    rename_i s
    obtain ⟨rfl, hs⟩ := ho
    have he : (lkX s c x).2.2 = 0 := mdY_err (S := .lk s) hs h15 hq
    have hin : 0 ≤ (lkX s c x).1 ∧ (lkX s c x).1 ≤ 16 := mdY_in (S := .lk s) hs h0 h15 hx
    refine CallsV.of _ rfl ⟨_, Tryz.func167, by kernel_rfl, by kernel_rfl⟩ ((mdStL1_any w' pS _ (hk.cell h4 (by simp)) s (lkX s c x).1 c x (lkX s c x).2.1 (fun w2 hk2 => ?_)).mono fun z w2 ⟨e, hk2⟩ => ⟨_, e, ⟨rfl, hin⟩, hk2, fun q hq => by cases hq⟩)
    exact CallsV.of _ rfl ⟨_, Tryz.func123, by kernel_rfl, by kernel_rfl⟩ ((lkStep_any w2 (hg.new hk2).ops x ⟨hs.1, by omega⟩ ⟨h0, by omega⟩ hx).mono fun z w3 ⟨e, hk3⟩ => ⟨_, by rw [e, he], rfl, hk3⟩)
  enc := fun w' o S hk hg ho hm hl => by
    cases S <;> try cases hm
    obtain ⟨rfl, hs⟩ := ho
    refine CallsV.of _ rfl ⟨_, Tryz.func170, by kernel_rfl, by kernel_rfl⟩ (mdStrL1_any w' pE _ (hk.cell h5 (by simp)) _ fun w2 hk2 => ?_)
    exact CallsV.of _ rfl ⟨_, Tryz.func125, by kernel_rfl, by kernel_rfl⟩ (lkEncode_any w2 _ hs.1 (by omega))
  text := fun w' o S hk hg ho hm hl => by
    cases S <;> try cases hm
    obtain ⟨rfl, hs⟩ := ho
    refine CallsV.of _ rfl ⟨_, Tryz.func170, by kernel_rfl, by kernel_rfl⟩ (mdStrL1_any w' pT _ (hk.cell h6 (by simp)) _ fun w2 hk2 => ?_)
    exact CallsV.of _ rfl ⟨_, Tryz.func126, by kernel_rfl, by kernel_rfl⟩ (mdLkT_any w2 (hg.new hk2) _ hs)
  dec := fun w' b hk hb => by
    have hd : mdD 3 b = if (lkD b).2 = 0 then (some (.lk (lkD b).1), 0) else (none, 4) := rfl
    refine CallsV.of _ rfl ⟨_, Tryz.func172, by kernel_rfl, by kernel_rfl⟩ ((mdDeL1_any w' pD qD (hk.cell h7 (by simp)) (hk.cell h8 (by simp)) (bs b) (lkD b).2 (P := fun n => n = (lkD b).1) ((lkDecode_any w' b).mono fun z w2 ⟨e, e2⟩ => ⟨_, e, rfl, by rw [e2]; exact Keeps.refl _ _⟩)).mono ?_)
    rintro z w2 ⟨n, rfl, rfl, hk2⟩
    refine ⟨_, _, rfl, rfl, fun hne => ?_, fun S hS => ?_, hk2, fun q hq => by cases hq⟩
    · rw [hd] at hne
      split at hne
      · exact absurd rfl hne
      · assumption
    · rw [hd] at hS
      split at hS
      · rename_i h
        obtain rfl := Option.some.inj hS
        exact ⟨h, rfl, lkD_in b⟩
      · cases hS
  idle := fun w' g hk hg => CallsV.of _ rfl ⟨_, Tryz.func129, by kernel_rfl, by kernel_rfl⟩ ((lkIdle_any w' g).mono fun z w2 ⟨e, e2⟩ => ⟨by rw [e]; simp [mdIdle], by rw [e2]; exact Keeps.refl _ _⟩)
theorem kvMap_lits (m : Kv) : obK m = obK9 (kvH m) ((kvV m).getD 0 0) ((kvV m).getD 1 0) ((kvV m).getD 2 0) ((kvV m).getD 3 0) ((kvV m).getD 4 0) ((kvV m).getD 5 0) ((kvV m).getD 6 0) ((kvV m).getD 7 0) := rfl
theorem kindK_at (w : World) {p1 q1 pA pS pE pT pD qD : Nat} (h1 : w.cell? ⟨p1, 0, none⟩ = some (.int .u8 2)) (h2 : w.cell? ⟨q1, 0, none⟩ = some (fnV 110)) (h3 : w.cell? ⟨pA, 0, none⟩ = some (fnV 113))
    (h4 : w.cell? ⟨pS, 0, none⟩ = some (fv (154, #[ptr pA]))) (h5 : w.cell? ⟨pE, 0, none⟩ = some (fv (115, #[]))) (h6 : w.cell? ⟨pT, 0, none⟩ = some (fv (116, #[]))) (h7 : w.cell? ⟨pD, 0, none⟩ = some (.int .u8 2)) (h8 : w.cell? ⟨qD, 0, none⟩ = some (fnV 118)) :
    KindAt w 2 ⟨(152, #[ptr p1, ptr q1]), (153, #[ptr pS]), (156, #[ptr pE]), (156, #[ptr pT]), (161, #[ptr qD, ptr pD]), (119, #[])⟩ where
  init := fun w' hk => CallsV.of _ rfl ⟨_, Tryz.func152, by kernel_rfl, by kernel_rfl⟩ ((mdInitK1_any w' p1 q1 (hk.cell h1 (by simp)) (hk.cell h2 (by simp))).mono fun z w2 ⟨e, hk2⟩ => ⟨_, e, ⟨rfl, kv0_in⟩, hk2, rfl⟩)
  step := fun w' o S c x hk hg ho hm hl h0 h15 hx hq => by
    cases S <;> try cases hm
    rename_i m
    obtain ⟨rfl, hs⟩ := ho
    have he : (ksX m x).2.2 = 0 := mdY_err (S := .mp m) hs h15 hq
    refine CallsV.of _ rfl ⟨_, Tryz.func153, by kernel_rfl, by kernel_rfl⟩ ((mdStK1_any w' pS _ (hk.cell h4 (by simp)) (kvH m) _ _ _ _ _ _ _ _ (kvH (ksX m x).1) ((kvV (ksX m x).1).getD 0 0) ((kvV (ksX m x).1).getD 1 0) ((kvV (ksX m x).1).getD 2 0) ((kvV (ksX m x).1).getD 3 0) ((kvV (ksX m x).1).getD 4 0) ((kvV (ksX m x).1).getD 5 0) ((kvV (ksX m x).1).getD 6 0) ((kvV (ksX m x).1).getD 7 0) c x (ksX m x).2.1 (fun w2 hk2 => ?_)).mono fun z w2 ⟨e, hk2⟩ => ⟨_, e, ⟨rfl, ksX_in hs hx⟩, hk2, fun q hq => by cases hq⟩)
    refine CallsV.of _ rfl ⟨_, Tryz.func154, by kernel_rfl, by kernel_rfl⟩ (mdAnyK1_any w2 pA ((hk.trans hk2 (FSub.refl _ _)).cell h3 (by simp)) _ _ _ _ _ _ _ _ _ _ _ _ _ _ _ _ _ _ c x _ fun w3 hk3 => ?_)
    exact (kvStep_any w3 hs x hx).mono fun z w4 ⟨e, hk4⟩ => ⟨by rw [e, he]; rfl, hk4⟩
  enc := fun w' o S hk hg ho hm hl => by
    cases S <;> try cases hm
    rename_i m
    obtain ⟨rfl, hs⟩ := ho
    refine CallsV.of _ rfl ⟨_, Tryz.func156, by kernel_rfl, by kernel_rfl⟩ (mdStrK1_any w' pE _ (hk.cell h5 (by simp)) _ _ _ _ _ _ _ _ _ fun w2 hk2 => ?_)
    exact CallsV.of _ rfl ⟨_, Tryz.func115, by kernel_rfl, by kernel_rfl⟩ ((kvEncode_any w2 hs).mono fun z w3 ⟨e, hk3⟩ => ⟨by rw [e, ← kvBy_nb hs, str_nb]; rfl, hk3⟩)
  text := fun w' o S hk hg ho hm hl => by
    cases S <;> try cases hm
    obtain ⟨rfl, hs⟩ := ho
    refine CallsV.of _ rfl ⟨_, Tryz.func156, by kernel_rfl, by kernel_rfl⟩ (mdStrK1_any w' pT _ (hk.cell h6 (by simp)) _ _ _ _ _ _ _ _ _ fun w2 hk2 => ?_)
    exact CallsV.of _ rfl ⟨_, Tryz.func116, by kernel_rfl, by kernel_rfl⟩ (mdMpT_any w2 (hg.new hk2) hs)
  dec := fun w' b hk hb => by
    have hd : mdD 2 b = if (kvD (nb b)).2 = 0 then (some (.mp (kvD (nb b)).1), 0) else (none, 4) := rfl
    refine CallsV.of _ rfl ⟨_, Tryz.func161, by kernel_rfl, by kernel_rfl⟩ ((mdDeK1_any w' pD qD (hk.cell h7 (by simp)) (hk.cell h8 (by simp)) (bs b) (kvD (nb b)).2 _ _ _ _ _ _ _ _ _ (kvDecode_any w' b hb)).mono ?_)
    rintro z w2 ⟨rfl, hk2⟩
    refine ⟨_, _, rfl, rfl, fun hne => ?_, fun S hS => ?_, hk2, fun q hq => by cases hq⟩
    · rw [hd] at hne
      split at hne
      · exact absurd rfl hne
      · assumption
    · rw [hd] at hS
      split at hS
      · rename_i h
        obtain rfl := Option.some.inj hS
        exact ⟨h, rfl, kvD_in (nb_u8 b)⟩
      · cases hS
  idle := fun w' g hk hg => CallsV.of _ rfl ⟨_, Tryz.func119, by kernel_rfl, by kernel_rfl⟩ ((kvIdle_any w' g).mono fun z w2 ⟨e, hk2⟩ => ⟨by rw [e]; congr 2; simp [mdIdle], hk2⟩)
/-- What is told of a queue behind a step. -/
def QPost (v0 : Value) (l : List Int) (w' w2 : World) (v : Value) : Prop := ∃ u, v = .agg #[u] ∧ QIn w2 u l ∧ FSub (own u) (own v0) w'.heap.size
theorem QPost.kept {B : Nat} {v0 : Value} {l : List Int} (h0 : ∀ q ∈ own v0, q < B) : KeptP B (QPost v0 l) := by
  rintro w' w2 w3 F v ⟨u, rfl, h, hf⟩ hF hk
  refine ⟨u, rfl, h.keeps hk (fun q hq hqF => ?_), hf⟩
  have h1 := hF q hqF
  rcases hf q hq with h2 | h2
  · have := h0 q h2; omega
  · omega
theorem kindQ_at (w : World) {p1 q1 pA pS pE pT pD qD : Nat} (h1 : w.cell? ⟨p1, 0, none⟩ = some (.int .u8 1)) (h2 : w.cell? ⟨q1, 0, none⟩ = some (fnV 99)) (h3 : w.cell? ⟨pA, 0, none⟩ = some (fnV 102))
    (h4 : w.cell? ⟨pS, 0, none⟩ = some (fv (146, #[ptr pA]))) (h5 : w.cell? ⟨pE, 0, none⟩ = some (fv (104, #[]))) (h6 : w.cell? ⟨pT, 0, none⟩ = some (fv (105, #[]))) (h7 : w.cell? ⟨pD, 0, none⟩ = some (.int .u8 1)) (h8 : w.cell? ⟨qD, 0, none⟩ = some (fnV 107)) :
    KindAt w 1 ⟨(144, #[ptr p1, ptr q1]), (145, #[ptr pS]), (149, #[ptr pE]), (149, #[ptr pT]), (151, #[ptr qD, ptr pD]), (108, #[])⟩ where
  init := fun w' hk => CallsV.of _ rfl ⟨_, Tryz.func144, by kernel_rfl, by kernel_rfl⟩ ((mdInitQ1_any w' p1 q1 (hk.cell h1 (by simp)) (hk.cell h2 (by simp))).mono fun z w2 ⟨e, hk2⟩ => ⟨_, e, ⟨_, rfl, ⟨⟨none, 0, rfl, by decide, by decide, fun h => absurd rfl h⟩, fun _ => rfl⟩, fun v hv => by cases hv⟩, hk2, rfl⟩)
  step := fun w' o S c x hk hg ho hm hl h0 h15 hx hq => by
    cases S <;> try cases hm
    rename_i l
    obtain ⟨v, rfl, hin, hu⟩ := ho
    have he : (quX l x).2.2 = 0 := mdY_err (S := .qu l) hu h15 hq
    have hll : l.length ≤ 1000 := hl
    obtain ⟨a, cp, rfl, -, -⟩ := id hin.shape
    refine CallsV.of _ rfl ⟨_, Tryz.func145, by kernel_rfl, by kernel_rfl⟩ ((mdStQ1_any w' pS (146, #[ptr pA]) (hk.cell h4 (by simp)) a l.length cp c x (quX l x).2.1 (P := QPost (.slice a l.length cp) (quX l x).1) (QPost.kept hin.old) (fun w2 hk2 => ?_)).mono ?_)
    · refine CallsV.of _ rfl ⟨_, Tryz.func146, by kernel_rfl, by kernel_rfl⟩ ((mdAnyQ1_any w2 pA ((hk.trans hk2 (FSub.refl _ _)).cell h3 (by simp)) a l.length cp c x (quX l x).2.1 (P := QPost (.slice a l.length cp) (quX l x).1) (QPost.kept (fun q hq => Nat.lt_of_lt_of_le (hin.old q hq) hk2.size)) (fun w3 hk3 => ?_)).mono fun z w4 ⟨a', n', cp', wb, e, hz, hp, hk4⟩ => ⟨a', n', cp', wb, e, hz, hp, hk4⟩)
      refine (quStep_any w3 ((hg.new hk2).new hk3).ops (hin.keeps (hk2.trans hk3 (FSub.refl _ _)) (by simp)) (by omega) x hx).mono ?_
      rintro z w4 ⟨v', rfl, hin4, hk4, hf4⟩
      obtain ⟨a', cp', rfl, -, -⟩ := id hin4.shape
      exact ⟨a', _, cp', by rw [he], ⟨_, rfl, hin4, hf4⟩, hk4⟩
    · rintro z w2 ⟨a', n', cp', wb, rfl, hz, ⟨u, e, h4, h5⟩, hk2⟩
      obtain rfl : Value.slice a' n' cp' = u := by simpa using e
      exact ⟨_, rfl, ⟨_, rfl, h4, mdY_in (S := .qu l) hu h0 h15 hx⟩, hk2, h5.mono hz⟩
  enc := fun w' o S hk hg ho hm hl => by
    cases S <;> try cases hm
    rename_i l
    obtain ⟨v, rfl, hin, hu⟩ := ho
    have hll : l.length ≤ 1000 := hl
    refine CallsV.of _ rfl ⟨_, Tryz.func149, by kernel_rfl, by kernel_rfl⟩ (mdStrQ1_any w' pE _ (hk.cell h5 (by simp)) _ fun w2 hk2 => ?_)
    exact CallsV.of _ rfl ⟨_, Tryz.func104, by kernel_rfl, by kernel_rfl⟩ (quEncode_any w2 (hin.keeps hk2 (by simp)) (by omega) hu)
  text := fun w' o S hk hg ho hm hl => by
    cases S <;> try cases hm
    rename_i l
    obtain ⟨v, rfl, hin, hu⟩ := ho
    have hll : l.length ≤ 1000 := hl
    refine CallsV.of _ rfl ⟨_, Tryz.func149, by kernel_rfl, by kernel_rfl⟩ (mdStrQ1_any w' pT _ (hk.cell h6 (by simp)) _ fun w2 hk2 => ?_)
    exact CallsV.of _ rfl ⟨_, Tryz.func105, by kernel_rfl, by kernel_rfl⟩ (mdQuT_any w2 (hg.new hk2) (hin.keeps hk2 (by simp)) hu hll)
  dec := fun w' b hk hb => by
    have hd : mdD 1 b = if b.length % 2 = 1 then (none, 4) else (some (.qu (quN b)), 0) := rfl
    refine CallsV.of _ rfl ⟨_, Tryz.func151, by kernel_rfl, by kernel_rfl⟩ ((mdDeQ1_any w' pD qD (hk.cell h7 (by simp)) (hk.cell h8 (by simp)) (bs b) (if b.length % 2 = 1 then 5 else 0) (P := fun w2 v => QIn w2 v (if b.length % 2 = 1 then [] else quN b) ∧ ∀ q ∈ own v, w'.heap.size ≤ q) (fun w2 w3 v h hk3 => ⟨h.1.keeps hk3 (by simp), h.2⟩) ((quDecode_any w' b (by omega)).mono ?_)).mono ?_)
    · rintro z w2 ⟨v, rfl, hin, hk2, hn⟩
      obtain ⟨a', cp', rfl, -, -⟩ := id hin.shape
      exact ⟨a', _, cp', rfl, ⟨hin, hn⟩, hk2⟩
    · rintro z w2 ⟨a', n', cp', rfl, ⟨hin, hn⟩, hk2⟩
      refine ⟨_, _, rfl, rfl, fun hne => ?_, fun S hS => ?_, hk2, hn⟩
      · rw [hd] at hne
        split at hne
        · rename_i h; rw [if_pos h]; decide
        · exact absurd rfl hne
      · rw [hd] at hS
        split at hS
        · cases hS
        · rename_i h
          obtain rfl := Option.some.inj hS
          rw [if_neg h] at hin
          exact ⟨if_neg h, _, rfl, hin, quN_in b⟩
  idle := fun w' g hk hg => CallsV.of _ rfl ⟨_, Tryz.func108, by kernel_rfl, by kernel_rfl⟩ ((quIdle_any w' g).mono fun z w2 ⟨e, hk2⟩ => ⟨by rw [e]; simp [mdIdle], hk2⟩)
end Go.Proofs.YtbnhcggjcdipeaaGreatDoor
/-
  The program's kinds: their making; which one is a model's.
-/
namespace Go.Proofs.YtbnhcggjcdipeaaGreatDoor
open Go.RowKit
set_option maxRecDepth 100000
def skKd : SK := { T := 106, s := 6, d := _, und := Tryz.underlying106, row := rfl, size := by kernel_rfl }
def kdZ : List Value := [.nilFunc, .nilFunc, .nilFunc, .nilFunc, .nilFunc, .nilFunc]
theorem kdZ_ok : skKd.Ok kdZ := ⟨rfl, fun v hv => by simp [kdZ] at hv; subst hv; rfl⟩
theorem Kd.ok (k : Kd) : skKd.Ok k.cs := ⟨rfl, fun v hv => by simp [Kd.cs] at hv; rcases hv with rfl | rfl | rfl | rfl | rfl | rfl <;> rfl⟩
section
variable {ops : Array Oper} {rest : List Oper} {a : Act} {w : World} {Q : Exit → Act → World → Prop}
theorem wpList_putKd {dst : Option Tmp} {ty : TypeId} {pos : String} {after : Array Edge} {x y : Operand} {g : Nat} {old A : List Value} (hA : skKd.Ok A) (hO : skKd.Ok old) {t : TypeId}
    (hx : a.eval x = .pointer (some ⟨g, 0, none⟩)) (hy : a.eval y = .agg A.toArray) (hg : w.heap[g]? = some (.cells old.toArray t (0, 0)))
    (h : ∀ W, W.heap[g]? = some (.cells A.toArray t (0, 0)) → Keeps [g] w W → wpList Tryz.prog ops Q rest (a.put dst undef) W) :
    wpList Tryz.prog ops Q ({ dst := dst, op := .store 106 x y, type := ty, pos := pos, after := after, guard := none } :: rest) a w := skKd.wpList_put hA hO hx hy hg h
end
set_option maxHeartbeats 8000000
/-- A kind that stays one whatever is written up to B. -/
def KindB (B : Nat) (w : World) (m : Int) (k : Kd) : Prop := ∀ W F, Keeps F w W → (∀ q ∈ F, q ≤ B) → KindAt W m k
theorem KindB.at {B : Nat} {w : World} {m : Int} {k : Kd} (h : KindB B w m k) : KindAt w m k := h w [] (Keeps.refl _ _) (by simp)
theorem KindB.put {B : Nat} {w W : World} {F : List Nat} {m : Int} {k : Kd} (h : KindB B w m k) (hk : Keeps F w W) (hF : ∀ q ∈ F, q ≤ B) : KindB B W m k := fun W' F' hk' hF' => h W' (F ++ F') ((hk.more (fun q hq => List.mem_append_left _ hq)).trans (hk'.more (fun q hq => List.mem_append_right _ hq)) (FSub.refl _ _)) (fun q hq => by
  rcases List.mem_append.1 hq with h | h
  · exact hF q h
  · exact hF' q h)
theorem KindB.new {B : Nat} {w W : World} {m : Int} {k : Kd} (h : KindB B w m k) (hk : Keeps [] w W) : KindB B W m k := h.put hk (by simp)
theorem KindB.mono {B B' : Nat} {w : World} {m : Int} {k : Kd} (h : KindB B w m k) (hb : B' ≤ B) : KindB B' w m k := fun W F hk hF => h W F hk (fun q hq => Nat.le_trans (hF q hq) hb)
theorem b_keep {B : Nat} {w w' W : World} {p : Nat} {v : Value} {F F' : List Nat} (hk : Keeps F w w') (hk2 : Keeps F' w' W) (h : w.cell? ⟨p, 0, none⟩ = some v) (hb : B < p) (hF : ∀ q ∈ F, q ≤ B) (hF' : ∀ q ∈ F', q ≤ B) : W.cell? ⟨p, 0, none⟩ = some v :=
  hk2.cell (hk.cell h (fun hm => by have : p ≤ B := hF _ hm; omega)) (fun hm => by have : p ≤ B := hF' _ hm; omega)
theorem mdRegs_any (w : World) : Calls Tryz.prog 72 #[] w fun e w' => ∃ k : Kd, e = .returned (.agg k.cs.toArray) ∧ KindB w.heap.size w' 0 k ∧ Keeps [] w w' := by
  have HN := Lib.hid (show (w.alloc (.cells #[.nilFunc, .nilFunc, .nilFunc, .nilFunc, .nilFunc, .nilFunc] 106)).heap[w.heap.size]? = some (.cells kdZ.toArray 106 (0, 0)) from heap_alloc_new w _)
  have HK := Lib.hid (show Keeps [] w (w.alloc (.cells #[.nilFunc, .nilFunc, .nilFunc, .nilFunc, .nilFunc, .nilFunc] 106)) from (Keeps.refl _ _).alloc _)
  go_enter Tryz.func72, Tryz.ntmps72
  go_wp2_with fail
  generalize w.alloc (.cells #[.nilFunc, .nilFunc, .nilFunc, .nilFunc, .nilFunc, .nilFunc] 106) = w0 at *
  refine (mdInitR_any w0 0 88).mono ?_; rintro e w1 ⟨p1, q1, rfl, h1, h2, hk, b1, b2⟩
  have hb := lt_of_block HN.out
  try replace H1 := Lib.hid (hk.cell H1.out (by simp))
  try replace H2 := Lib.hid (hk.cell H2.out (by simp))
  try replace H3 := Lib.hid (hk.cell H3.out (by simp))
  try replace H4 := Lib.hid (hk.cell H4.out (by simp))
  try replace H5 := Lib.hid (hk.cell H5.out (by simp))
  try replace H6 := Lib.hid (hk.cell H6.out (by simp))
  replace HK := Lib.hid (HK.out.trans hk (FSub.refl _ _))
  replace HN := Lib.hid (hk.heap HN.out (by simp))
  have H1 := Lib.hid h1; have H2 := Lib.hid h2; have B1 := Lib.hid (Nat.lt_of_lt_of_le hb b1); have B2 := Lib.hid (Nat.lt_of_lt_of_le hb b2)
  clear h1 h2 hk b1 b2 hb
  go_wp2_with fail
  refine (mdAnyR_any _ (91, #[])).mono ?_; rintro e w2 ⟨p3, rfl, hn, hk, bn⟩
  have hb := lt_of_block HN.out
  try replace H1 := Lib.hid (hk.cell H1.out (by simp))
  try replace H2 := Lib.hid (hk.cell H2.out (by simp))
  try replace H3 := Lib.hid (hk.cell H3.out (by simp))
  try replace H4 := Lib.hid (hk.cell H4.out (by simp))
  try replace H5 := Lib.hid (hk.cell H5.out (by simp))
  try replace H6 := Lib.hid (hk.cell H6.out (by simp))
  replace HK := Lib.hid (HK.out.trans hk (FSub.refl _ _))
  replace HN := Lib.hid (hk.heap HN.out (by simp))
  have H3 := Lib.hid hn; have B3 := Lib.hid (Nat.lt_of_lt_of_le hb bn)
  clear hn hk bn hb
  go_wp2_with fail
  refine (mdStR_any _ (139, #[ptr p3])).mono ?_; rintro e w3 ⟨p4, rfl, hn, hk, bn⟩
  have hb := lt_of_block HN.out
  try replace H1 := Lib.hid (hk.cell H1.out (by simp))
  try replace H2 := Lib.hid (hk.cell H2.out (by simp))
  try replace H3 := Lib.hid (hk.cell H3.out (by simp))
  try replace H4 := Lib.hid (hk.cell H4.out (by simp))
  try replace H5 := Lib.hid (hk.cell H5.out (by simp))
  try replace H6 := Lib.hid (hk.cell H6.out (by simp))
  replace HK := Lib.hid (HK.out.trans hk (FSub.refl _ _))
  replace HN := Lib.hid (hk.heap HN.out (by simp))
  have H4 := Lib.hid hn; have B4 := Lib.hid (Nat.lt_of_lt_of_le hb bn)
  clear hn hk bn hb
  go_wp2_with fail
  refine (mdStrR_any _ (93, #[])).mono ?_; rintro e w4 ⟨p5, rfl, hn, hk, bn⟩
  have hb := lt_of_block HN.out
  try replace H1 := Lib.hid (hk.cell H1.out (by simp))
  try replace H2 := Lib.hid (hk.cell H2.out (by simp))
  try replace H3 := Lib.hid (hk.cell H3.out (by simp))
  try replace H4 := Lib.hid (hk.cell H4.out (by simp))
  try replace H5 := Lib.hid (hk.cell H5.out (by simp))
  try replace H6 := Lib.hid (hk.cell H6.out (by simp))
  replace HK := Lib.hid (HK.out.trans hk (FSub.refl _ _))
  replace HN := Lib.hid (hk.heap HN.out (by simp))
  have H5 := Lib.hid hn; have B5 := Lib.hid (Nat.lt_of_lt_of_le hb bn)
  clear hn hk bn hb
  go_wp2_with fail
  refine (mdStrR_any _ (94, #[])).mono ?_; rintro e w5 ⟨p6, rfl, hn, hk, bn⟩
  have hb := lt_of_block HN.out
  try replace H1 := Lib.hid (hk.cell H1.out (by simp))
  try replace H2 := Lib.hid (hk.cell H2.out (by simp))
  try replace H3 := Lib.hid (hk.cell H3.out (by simp))
  try replace H4 := Lib.hid (hk.cell H4.out (by simp))
  try replace H5 := Lib.hid (hk.cell H5.out (by simp))
  try replace H6 := Lib.hid (hk.cell H6.out (by simp))
  replace HK := Lib.hid (HK.out.trans hk (FSub.refl _ _))
  replace HN := Lib.hid (hk.heap HN.out (by simp))
  have H6 := Lib.hid hn; have B6 := Lib.hid (Nat.lt_of_lt_of_le hb bn)
  clear hn hk bn hb
  go_wp2_with fail
  refine (mdDeR_any _ 0 96).mono ?_; rintro e w8 ⟨pD, qD, rfl, h7, h8, hk, b7, b8⟩
  have hb := lt_of_block HN.out
  try replace H1 := Lib.hid (hk.cell H1.out (by simp))
  try replace H2 := Lib.hid (hk.cell H2.out (by simp))
  try replace H3 := Lib.hid (hk.cell H3.out (by simp))
  try replace H4 := Lib.hid (hk.cell H4.out (by simp))
  try replace H5 := Lib.hid (hk.cell H5.out (by simp))
  try replace H6 := Lib.hid (hk.cell H6.out (by simp))
  replace HK := Lib.hid (HK.out.trans hk (FSub.refl _ _))
  replace HN := Lib.hid (hk.heap HN.out (by simp))
  have H7 := Lib.hid h7; have H8 := Lib.hid h8; have B7 := Lib.hid (Nat.lt_of_lt_of_le hb b7); have B8 := Lib.hid (Nat.lt_of_lt_of_le hb b8)
  clear h7 h8 hk b7 b8 hb
  go_wp2_with ((with_reducible refine wpList_putKd (g := w.heap.size) (A := Kd.cs ⟨(137, #[ptr p1, ptr q1]), (138, #[ptr p4]), (141, #[ptr p5]), (141, #[ptr p6]), (143, #[ptr qD, ptr pD]), (97, #[])⟩) (old := kdZ) (Kd.ok _) kdZ_ok ?_ ?_ HN.out ?_); exact rfl; exact rfl)
  intro W hW hkW
  have HW := Lib.hid hW; have HKW := Lib.hid hkW
  clear hW hkW
  go_wp2_with fail
  try simp only [Exit.inBlock, Exit.then]
  exact bodyPost_ret (results_sk skKd rfl _ _ (w.heap.size) (Kd.ok ⟨(137, #[ptr p1, ptr q1]), (138, #[ptr p4]), (141, #[ptr p5]), (141, #[ptr p6]), (143, #[ptr qD, ptr pD]), (97, #[])⟩) rfl HW.out) rfl ⟨_, rfl, fun W' F' hk' hF' => kindR_at W' (b_keep HKW.out hk' H1.out B1.out (by simp) hF') (b_keep HKW.out hk' H2.out B2.out (by simp) hF') (b_keep HKW.out hk' H3.out B3.out (by simp) hF') (b_keep HKW.out hk' H4.out B4.out (by simp) hF') (b_keep HKW.out hk' H5.out B5.out (by simp) hF') (b_keep HKW.out hk' H6.out B6.out (by simp) hF') (b_keep HKW.out hk' H7.out B7.out (by simp) hF') (b_keep HKW.out hk' H8.out B8.out (by simp) hF'), HK.out.trans HKW.out (fun q hq => .inr (by simp at hq; omega))⟩
theorem mdQues_any (w : World) : Calls Tryz.prog 73 #[] w fun e w' => ∃ k : Kd, e = .returned (.agg k.cs.toArray) ∧ KindB w.heap.size w' 1 k ∧ Keeps [] w w' := by
  have HN := Lib.hid (show (w.alloc (.cells #[.nilFunc, .nilFunc, .nilFunc, .nilFunc, .nilFunc, .nilFunc] 106)).heap[w.heap.size]? = some (.cells kdZ.toArray 106 (0, 0)) from heap_alloc_new w _)
  have HK := Lib.hid (show Keeps [] w (w.alloc (.cells #[.nilFunc, .nilFunc, .nilFunc, .nilFunc, .nilFunc, .nilFunc] 106)) from (Keeps.refl _ _).alloc _)
  go_enter Tryz.func73, Tryz.ntmps73
  go_wp2_with fail
  generalize w.alloc (.cells #[.nilFunc, .nilFunc, .nilFunc, .nilFunc, .nilFunc, .nilFunc] 106) = w0 at *
  refine (mdInitQ_any w0 1 99).mono ?_; rintro e w1 ⟨p1, q1, rfl, h1, h2, hk, b1, b2⟩
  have hb := lt_of_block HN.out
  try replace H1 := Lib.hid (hk.cell H1.out (by simp))
  try replace H2 := Lib.hid (hk.cell H2.out (by simp))
  try replace H3 := Lib.hid (hk.cell H3.out (by simp))
  try replace H4 := Lib.hid (hk.cell H4.out (by simp))
  try replace H5 := Lib.hid (hk.cell H5.out (by simp))
  try replace H6 := Lib.hid (hk.cell H6.out (by simp))
  replace HK := Lib.hid (HK.out.trans hk (FSub.refl _ _))
  replace HN := Lib.hid (hk.heap HN.out (by simp))
  have H1 := Lib.hid h1; have H2 := Lib.hid h2; have B1 := Lib.hid (Nat.lt_of_lt_of_le hb b1); have B2 := Lib.hid (Nat.lt_of_lt_of_le hb b2)
  clear h1 h2 hk b1 b2 hb
  go_wp2_with fail
  refine (mdAnyQ_any _ (102, #[])).mono ?_; rintro e w2 ⟨p3, rfl, hn, hk, bn⟩
  have hb := lt_of_block HN.out
  try replace H1 := Lib.hid (hk.cell H1.out (by simp))
  try replace H2 := Lib.hid (hk.cell H2.out (by simp))
  try replace H3 := Lib.hid (hk.cell H3.out (by simp))
  try replace H4 := Lib.hid (hk.cell H4.out (by simp))
  try replace H5 := Lib.hid (hk.cell H5.out (by simp))
  try replace H6 := Lib.hid (hk.cell H6.out (by simp))
  replace HK := Lib.hid (HK.out.trans hk (FSub.refl _ _))
  replace HN := Lib.hid (hk.heap HN.out (by simp))
  have H3 := Lib.hid hn; have B3 := Lib.hid (Nat.lt_of_lt_of_le hb bn)
  clear hn hk bn hb
  go_wp2_with fail
  refine (mdStQ_any _ (146, #[ptr p3])).mono ?_; rintro e w3 ⟨p4, rfl, hn, hk, bn⟩
  have hb := lt_of_block HN.out
  try replace H1 := Lib.hid (hk.cell H1.out (by simp))
  try replace H2 := Lib.hid (hk.cell H2.out (by simp))
  try replace H3 := Lib.hid (hk.cell H3.out (by simp))
  try replace H4 := Lib.hid (hk.cell H4.out (by simp))
  try replace H5 := Lib.hid (hk.cell H5.out (by simp))
  try replace H6 := Lib.hid (hk.cell H6.out (by simp))
  replace HK := Lib.hid (HK.out.trans hk (FSub.refl _ _))
  replace HN := Lib.hid (hk.heap HN.out (by simp))
  have H4 := Lib.hid hn; have B4 := Lib.hid (Nat.lt_of_lt_of_le hb bn)
  clear hn hk bn hb
  go_wp2_with fail
  refine (mdStrQ_any _ (104, #[])).mono ?_; rintro e w4 ⟨p5, rfl, hn, hk, bn⟩
  have hb := lt_of_block HN.out
  try replace H1 := Lib.hid (hk.cell H1.out (by simp))
  try replace H2 := Lib.hid (hk.cell H2.out (by simp))
  try replace H3 := Lib.hid (hk.cell H3.out (by simp))
  try replace H4 := Lib.hid (hk.cell H4.out (by simp))
  try replace H5 := Lib.hid (hk.cell H5.out (by simp))
  try replace H6 := Lib.hid (hk.cell H6.out (by simp))
  replace HK := Lib.hid (HK.out.trans hk (FSub.refl _ _))
  replace HN := Lib.hid (hk.heap HN.out (by simp))
  have H5 := Lib.hid hn; have B5 := Lib.hid (Nat.lt_of_lt_of_le hb bn)
  clear hn hk bn hb
  go_wp2_with fail
  refine (mdStrQ_any _ (105, #[])).mono ?_; rintro e w5 ⟨p6, rfl, hn, hk, bn⟩
  have hb := lt_of_block HN.out
  try replace H1 := Lib.hid (hk.cell H1.out (by simp))
  try replace H2 := Lib.hid (hk.cell H2.out (by simp))
  try replace H3 := Lib.hid (hk.cell H3.out (by simp))
  try replace H4 := Lib.hid (hk.cell H4.out (by simp))
  try replace H5 := Lib.hid (hk.cell H5.out (by simp))
  try replace H6 := Lib.hid (hk.cell H6.out (by simp))
  replace HK := Lib.hid (HK.out.trans hk (FSub.refl _ _))
  replace HN := Lib.hid (hk.heap HN.out (by simp))
  have H6 := Lib.hid hn; have B6 := Lib.hid (Nat.lt_of_lt_of_le hb bn)
  clear hn hk bn hb
  go_wp2_with fail
  refine (mdDeQ_any _ 1 107).mono ?_; rintro e w8 ⟨pD, qD, rfl, h7, h8, hk, b7, b8⟩
  have hb := lt_of_block HN.out
  try replace H1 := Lib.hid (hk.cell H1.out (by simp))
  try replace H2 := Lib.hid (hk.cell H2.out (by simp))
  try replace H3 := Lib.hid (hk.cell H3.out (by simp))
  try replace H4 := Lib.hid (hk.cell H4.out (by simp))
  try replace H5 := Lib.hid (hk.cell H5.out (by simp))
  try replace H6 := Lib.hid (hk.cell H6.out (by simp))
  replace HK := Lib.hid (HK.out.trans hk (FSub.refl _ _))
  replace HN := Lib.hid (hk.heap HN.out (by simp))
  have H7 := Lib.hid h7; have H8 := Lib.hid h8; have B7 := Lib.hid (Nat.lt_of_lt_of_le hb b7); have B8 := Lib.hid (Nat.lt_of_lt_of_le hb b8)
  clear h7 h8 hk b7 b8 hb
  go_wp2_with ((with_reducible refine wpList_putKd (g := w.heap.size) (A := Kd.cs ⟨(144, #[ptr p1, ptr q1]), (145, #[ptr p4]), (149, #[ptr p5]), (149, #[ptr p6]), (151, #[ptr qD, ptr pD]), (108, #[])⟩) (old := kdZ) (Kd.ok _) kdZ_ok ?_ ?_ HN.out ?_); exact rfl; exact rfl)
  intro W hW hkW
  have HW := Lib.hid hW; have HKW := Lib.hid hkW
  clear hW hkW
  go_wp2_with fail
  try simp only [Exit.inBlock, Exit.then]
  exact bodyPost_ret (results_sk skKd rfl _ _ (w.heap.size) (Kd.ok ⟨(144, #[ptr p1, ptr q1]), (145, #[ptr p4]), (149, #[ptr p5]), (149, #[ptr p6]), (151, #[ptr qD, ptr pD]), (108, #[])⟩) rfl HW.out) rfl ⟨_, rfl, fun W' F' hk' hF' => kindQ_at W' (b_keep HKW.out hk' H1.out B1.out (by simp) hF') (b_keep HKW.out hk' H2.out B2.out (by simp) hF') (b_keep HKW.out hk' H3.out B3.out (by simp) hF') (b_keep HKW.out hk' H4.out B4.out (by simp) hF') (b_keep HKW.out hk' H5.out B5.out (by simp) hF') (b_keep HKW.out hk' H6.out B6.out (by simp) hF') (b_keep HKW.out hk' H7.out B7.out (by simp) hF') (b_keep HKW.out hk' H8.out B8.out (by simp) hF'), HK.out.trans HKW.out (fun q hq => .inr (by simp at hq; omega))⟩
theorem mdMaps_any (w : World) : Calls Tryz.prog 74 #[] w fun e w' => ∃ k : Kd, e = .returned (.agg k.cs.toArray) ∧ KindB w.heap.size w' 2 k ∧ Keeps [] w w' := by
  have HN := Lib.hid (show (w.alloc (.cells #[.nilFunc, .nilFunc, .nilFunc, .nilFunc, .nilFunc, .nilFunc] 106)).heap[w.heap.size]? = some (.cells kdZ.toArray 106 (0, 0)) from heap_alloc_new w _)
  have HK := Lib.hid (show Keeps [] w (w.alloc (.cells #[.nilFunc, .nilFunc, .nilFunc, .nilFunc, .nilFunc, .nilFunc] 106)) from (Keeps.refl _ _).alloc _)
  go_enter Tryz.func74, Tryz.ntmps74
  go_wp2_with fail
  generalize w.alloc (.cells #[.nilFunc, .nilFunc, .nilFunc, .nilFunc, .nilFunc, .nilFunc] 106) = w0 at *
  refine (mdInitK_any w0 2 110).mono ?_; rintro e w1 ⟨p1, q1, rfl, h1, h2, hk, b1, b2⟩
  have hb := lt_of_block HN.out
  try replace H1 := Lib.hid (hk.cell H1.out (by simp))
  try replace H2 := Lib.hid (hk.cell H2.out (by simp))
  try replace H3 := Lib.hid (hk.cell H3.out (by simp))
  try replace H4 := Lib.hid (hk.cell H4.out (by simp))
  try replace H5 := Lib.hid (hk.cell H5.out (by simp))
  try replace H6 := Lib.hid (hk.cell H6.out (by simp))
  replace HK := Lib.hid (HK.out.trans hk (FSub.refl _ _))
  replace HN := Lib.hid (hk.heap HN.out (by simp))
  have H1 := Lib.hid h1; have H2 := Lib.hid h2; have B1 := Lib.hid (Nat.lt_of_lt_of_le hb b1); have B2 := Lib.hid (Nat.lt_of_lt_of_le hb b2)
  clear h1 h2 hk b1 b2 hb
  go_wp2_with fail
  refine (mdAnyK_any _ (113, #[])).mono ?_; rintro e w2 ⟨p3, rfl, hn, hk, bn⟩
  have hb := lt_of_block HN.out
  try replace H1 := Lib.hid (hk.cell H1.out (by simp))
  try replace H2 := Lib.hid (hk.cell H2.out (by simp))
  try replace H3 := Lib.hid (hk.cell H3.out (by simp))
  try replace H4 := Lib.hid (hk.cell H4.out (by simp))
  try replace H5 := Lib.hid (hk.cell H5.out (by simp))
  try replace H6 := Lib.hid (hk.cell H6.out (by simp))
  replace HK := Lib.hid (HK.out.trans hk (FSub.refl _ _))
  replace HN := Lib.hid (hk.heap HN.out (by simp))
  have H3 := Lib.hid hn; have B3 := Lib.hid (Nat.lt_of_lt_of_le hb bn)
  clear hn hk bn hb
  go_wp2_with fail
  refine (mdStK_any _ (154, #[ptr p3])).mono ?_; rintro e w3 ⟨p4, rfl, hn, hk, bn⟩
  have hb := lt_of_block HN.out
  try replace H1 := Lib.hid (hk.cell H1.out (by simp))
  try replace H2 := Lib.hid (hk.cell H2.out (by simp))
  try replace H3 := Lib.hid (hk.cell H3.out (by simp))
  try replace H4 := Lib.hid (hk.cell H4.out (by simp))
  try replace H5 := Lib.hid (hk.cell H5.out (by simp))
  try replace H6 := Lib.hid (hk.cell H6.out (by simp))
  replace HK := Lib.hid (HK.out.trans hk (FSub.refl _ _))
  replace HN := Lib.hid (hk.heap HN.out (by simp))
  have H4 := Lib.hid hn; have B4 := Lib.hid (Nat.lt_of_lt_of_le hb bn)
  clear hn hk bn hb
  go_wp2_with fail
  refine (mdStrK_any _ (115, #[])).mono ?_; rintro e w4 ⟨p5, rfl, hn, hk, bn⟩
  have hb := lt_of_block HN.out
  try replace H1 := Lib.hid (hk.cell H1.out (by simp))
  try replace H2 := Lib.hid (hk.cell H2.out (by simp))
  try replace H3 := Lib.hid (hk.cell H3.out (by simp))
  try replace H4 := Lib.hid (hk.cell H4.out (by simp))
  try replace H5 := Lib.hid (hk.cell H5.out (by simp))
  try replace H6 := Lib.hid (hk.cell H6.out (by simp))
  replace HK := Lib.hid (HK.out.trans hk (FSub.refl _ _))
  replace HN := Lib.hid (hk.heap HN.out (by simp))
  have H5 := Lib.hid hn; have B5 := Lib.hid (Nat.lt_of_lt_of_le hb bn)
  clear hn hk bn hb
  go_wp2_with fail
  refine (mdStrK_any _ (116, #[])).mono ?_; rintro e w5 ⟨p6, rfl, hn, hk, bn⟩
  have hb := lt_of_block HN.out
  try replace H1 := Lib.hid (hk.cell H1.out (by simp))
  try replace H2 := Lib.hid (hk.cell H2.out (by simp))
  try replace H3 := Lib.hid (hk.cell H3.out (by simp))
  try replace H4 := Lib.hid (hk.cell H4.out (by simp))
  try replace H5 := Lib.hid (hk.cell H5.out (by simp))
  try replace H6 := Lib.hid (hk.cell H6.out (by simp))
  replace HK := Lib.hid (HK.out.trans hk (FSub.refl _ _))
  replace HN := Lib.hid (hk.heap HN.out (by simp))
  have H6 := Lib.hid hn; have B6 := Lib.hid (Nat.lt_of_lt_of_le hb bn)
  clear hn hk bn hb
  go_wp2_with fail
  refine (mdDeK_any _ 2 118).mono ?_; rintro e w8 ⟨pD, qD, rfl, h7, h8, hk, b7, b8⟩
  have hb := lt_of_block HN.out
  try replace H1 := Lib.hid (hk.cell H1.out (by simp))
  try replace H2 := Lib.hid (hk.cell H2.out (by simp))
  try replace H3 := Lib.hid (hk.cell H3.out (by simp))
  try replace H4 := Lib.hid (hk.cell H4.out (by simp))
  try replace H5 := Lib.hid (hk.cell H5.out (by simp))
  try replace H6 := Lib.hid (hk.cell H6.out (by simp))
  replace HK := Lib.hid (HK.out.trans hk (FSub.refl _ _))
  replace HN := Lib.hid (hk.heap HN.out (by simp))
  have H7 := Lib.hid h7; have H8 := Lib.hid h8; have B7 := Lib.hid (Nat.lt_of_lt_of_le hb b7); have B8 := Lib.hid (Nat.lt_of_lt_of_le hb b8)
  clear h7 h8 hk b7 b8 hb
  go_wp2_with ((with_reducible refine wpList_putKd (g := w.heap.size) (A := Kd.cs ⟨(152, #[ptr p1, ptr q1]), (153, #[ptr p4]), (156, #[ptr p5]), (156, #[ptr p6]), (161, #[ptr qD, ptr pD]), (119, #[])⟩) (old := kdZ) (Kd.ok _) kdZ_ok ?_ ?_ HN.out ?_); exact rfl; exact rfl)
  intro W hW hkW
  have HW := Lib.hid hW; have HKW := Lib.hid hkW
  clear hW hkW
  go_wp2_with fail
  try simp only [Exit.inBlock, Exit.then]
  exact bodyPost_ret (results_sk skKd rfl _ _ (w.heap.size) (Kd.ok ⟨(152, #[ptr p1, ptr q1]), (153, #[ptr p4]), (156, #[ptr p5]), (156, #[ptr p6]), (161, #[ptr qD, ptr pD]), (119, #[])⟩) rfl HW.out) rfl ⟨_, rfl, fun W' F' hk' hF' => kindK_at W' (b_keep HKW.out hk' H1.out B1.out (by simp) hF') (b_keep HKW.out hk' H2.out B2.out (by simp) hF') (b_keep HKW.out hk' H3.out B3.out (by simp) hF') (b_keep HKW.out hk' H4.out B4.out (by simp) hF') (b_keep HKW.out hk' H5.out B5.out (by simp) hF') (b_keep HKW.out hk' H6.out B6.out (by simp) hF') (b_keep HKW.out hk' H7.out B7.out (by simp) hF') (b_keep HKW.out hk' H8.out B8.out (by simp) hF'), HK.out.trans HKW.out (fun q hq => .inr (by simp at hq; omega))⟩
theorem mdLocks_any (w : World) : Calls Tryz.prog 75 #[] w fun e w' => ∃ k : Kd, e = .returned (.agg k.cs.toArray) ∧ KindB w.heap.size w' 3 k ∧ Keeps [] w w' := by
  have HN := Lib.hid (show (w.alloc (.cells #[.nilFunc, .nilFunc, .nilFunc, .nilFunc, .nilFunc, .nilFunc] 106)).heap[w.heap.size]? = some (.cells kdZ.toArray 106 (0, 0)) from heap_alloc_new w _)
  have HK := Lib.hid (show Keeps [] w (w.alloc (.cells #[.nilFunc, .nilFunc, .nilFunc, .nilFunc, .nilFunc, .nilFunc] 106)) from (Keeps.refl _ _).alloc _)
  go_enter Tryz.func75, Tryz.ntmps75
  go_wp2_with fail
  generalize w.alloc (.cells #[.nilFunc, .nilFunc, .nilFunc, .nilFunc, .nilFunc, .nilFunc] 106) = w0 at *
  refine (mdInitL_any w0 3 121).mono ?_; rintro e w1 ⟨p1, q1, rfl, h1, h2, hk, b1, b2⟩
  have hb := lt_of_block HN.out
  try replace H1 := Lib.hid (hk.cell H1.out (by simp))
  try replace H2 := Lib.hid (hk.cell H2.out (by simp))
  try replace H3 := Lib.hid (hk.cell H3.out (by simp))
  try replace H4 := Lib.hid (hk.cell H4.out (by simp))
  try replace H5 := Lib.hid (hk.cell H5.out (by simp))
  try replace H6 := Lib.hid (hk.cell H6.out (by simp))
  replace HK := Lib.hid (HK.out.trans hk (FSub.refl _ _))
  replace HN := Lib.hid (hk.heap HN.out (by simp))
  have H1 := Lib.hid h1; have H2 := Lib.hid h2; have B1 := Lib.hid (Nat.lt_of_lt_of_le hb b1); have B2 := Lib.hid (Nat.lt_of_lt_of_le hb b2)
  clear h1 h2 hk b1 b2 hb
  go_wp2_with fail
  refine (mdStL_any _ (123, #[])).mono ?_; rintro e w3 ⟨p4, rfl, hn, hk, bn⟩
  have hb := lt_of_block HN.out
  try replace H1 := Lib.hid (hk.cell H1.out (by simp))
  try replace H2 := Lib.hid (hk.cell H2.out (by simp))
  try replace H3 := Lib.hid (hk.cell H3.out (by simp))
  try replace H4 := Lib.hid (hk.cell H4.out (by simp))
  try replace H5 := Lib.hid (hk.cell H5.out (by simp))
  try replace H6 := Lib.hid (hk.cell H6.out (by simp))
  replace HK := Lib.hid (HK.out.trans hk (FSub.refl _ _))
  replace HN := Lib.hid (hk.heap HN.out (by simp))
  have H4 := Lib.hid hn; have B4 := Lib.hid (Nat.lt_of_lt_of_le hb bn)
  clear hn hk bn hb
  go_wp2_with fail
  refine (mdStrL_any _ (125, #[])).mono ?_; rintro e w4 ⟨p5, rfl, hn, hk, bn⟩
  have hb := lt_of_block HN.out
  try replace H1 := Lib.hid (hk.cell H1.out (by simp))
  try replace H2 := Lib.hid (hk.cell H2.out (by simp))
  try replace H3 := Lib.hid (hk.cell H3.out (by simp))
  try replace H4 := Lib.hid (hk.cell H4.out (by simp))
  try replace H5 := Lib.hid (hk.cell H5.out (by simp))
  try replace H6 := Lib.hid (hk.cell H6.out (by simp))
  replace HK := Lib.hid (HK.out.trans hk (FSub.refl _ _))
  replace HN := Lib.hid (hk.heap HN.out (by simp))
  have H5 := Lib.hid hn; have B5 := Lib.hid (Nat.lt_of_lt_of_le hb bn)
  clear hn hk bn hb
  go_wp2_with fail
  refine (mdStrL_any _ (126, #[])).mono ?_; rintro e w5 ⟨p6, rfl, hn, hk, bn⟩
  have hb := lt_of_block HN.out
  try replace H1 := Lib.hid (hk.cell H1.out (by simp))
  try replace H2 := Lib.hid (hk.cell H2.out (by simp))
  try replace H3 := Lib.hid (hk.cell H3.out (by simp))
  try replace H4 := Lib.hid (hk.cell H4.out (by simp))
  try replace H5 := Lib.hid (hk.cell H5.out (by simp))
  try replace H6 := Lib.hid (hk.cell H6.out (by simp))
  replace HK := Lib.hid (HK.out.trans hk (FSub.refl _ _))
  replace HN := Lib.hid (hk.heap HN.out (by simp))
  have H6 := Lib.hid hn; have B6 := Lib.hid (Nat.lt_of_lt_of_le hb bn)
  clear hn hk bn hb
  go_wp2_with fail
  refine (mdDeL_any _ 3 128).mono ?_; rintro e w8 ⟨pD, qD, rfl, h7, h8, hk, b7, b8⟩
  have hb := lt_of_block HN.out
  try replace H1 := Lib.hid (hk.cell H1.out (by simp))
  try replace H2 := Lib.hid (hk.cell H2.out (by simp))
  try replace H3 := Lib.hid (hk.cell H3.out (by simp))
  try replace H4 := Lib.hid (hk.cell H4.out (by simp))
  try replace H5 := Lib.hid (hk.cell H5.out (by simp))
  try replace H6 := Lib.hid (hk.cell H6.out (by simp))
  replace HK := Lib.hid (HK.out.trans hk (FSub.refl _ _))
  replace HN := Lib.hid (hk.heap HN.out (by simp))
  have H7 := Lib.hid h7; have H8 := Lib.hid h8; have B7 := Lib.hid (Nat.lt_of_lt_of_le hb b7); have B8 := Lib.hid (Nat.lt_of_lt_of_le hb b8)
  clear h7 h8 hk b7 b8 hb
  go_wp2_with ((with_reducible refine wpList_putKd (g := w.heap.size) (A := Kd.cs ⟨(166, #[ptr p1, ptr q1]), (167, #[ptr p4]), (170, #[ptr p5]), (170, #[ptr p6]), (172, #[ptr qD, ptr pD]), (129, #[])⟩) (old := kdZ) (Kd.ok _) kdZ_ok ?_ ?_ HN.out ?_); exact rfl; exact rfl)
  intro W hW hkW
  have HW := Lib.hid hW; have HKW := Lib.hid hkW
  clear hW hkW
  go_wp2_with fail
  try simp only [Exit.inBlock, Exit.then]
  exact bodyPost_ret (results_sk skKd rfl _ _ (w.heap.size) (Kd.ok ⟨(166, #[ptr p1, ptr q1]), (167, #[ptr p4]), (170, #[ptr p5]), (170, #[ptr p6]), (172, #[ptr qD, ptr pD]), (129, #[])⟩) rfl HW.out) rfl ⟨_, rfl, fun W' F' hk' hF' => kindL_at W' (b_keep HKW.out hk' H1.out B1.out (by simp) hF') (b_keep HKW.out hk' H2.out B2.out (by simp) hF') (b_keep HKW.out hk' H4.out B4.out (by simp) hF') (b_keep HKW.out hk' H5.out B5.out (by simp) hF') (b_keep HKW.out hk' H6.out B6.out (by simp) hF') (b_keep HKW.out hk' H7.out B7.out (by simp) hF') (b_keep HKW.out hk' H8.out B8.out (by simp) hF'), HK.out.trans HKW.out (fun q hq => .inr (by simp at hq; omega))⟩
end Go.Proofs.YtbnhcggjcdipeaaGreatDoor
/-
  The program's objects: which kind is a model's; the model of a state; the kind of a state.
-/
namespace Go.Proofs.YtbnhcggjcdipeaaGreatDoor
open Go.RowKit
set_option maxRecDepth 100000
set_option maxHeartbeats 8000000
def skKs : SK := { T := 119, s := 4, d := _, und := Tryz.underlying119, row := rfl, size := by kernel_rfl }
def ksL : List Value := [.func (.func 72) #[] #[], .func (.func 73) #[] #[], .func (.func 74) #[] #[], .func (.func 75) #[] #[]]
theorem ksL_ok : skKs.Ok ksL := ⟨rfl, fun v hv => by simp [ksL] at hv; rcases hv with rfl | rfl | rfl | rfl <;> rfl⟩
def ksZ : List Value := [.nilFunc, .nilFunc, .nilFunc, .nilFunc]
theorem ksZ_ok : skKs.Ok ksZ := ⟨rfl, fun v hv => by simp [ksZ] at hv; subst hv; rfl⟩
section
variable {ops : Array Oper} {rest : List Oper} {a : Act} {w : World} {Q : Exit → Act → World → Prop}
theorem wpList_putKs {dst : Option Tmp} {ty : TypeId} {pos : String} {after : Array Edge} {x y : Operand} {g : Nat} {old A : List Value} (hA : skKs.Ok A) (hO : skKs.Ok old) {t : TypeId}
    (hx : a.eval x = .pointer (some ⟨g, 0, none⟩)) (hy : a.eval y = .agg A.toArray) (hg : w.heap[g]? = some (.cells old.toArray t (0, 0)))
    (h : ∀ W, W.heap[g]? = some (.cells A.toArray t (0, 0)) → Keeps [g] w W → wpList Tryz.prog ops Q rest (a.put dst undef) W) :
    wpList Tryz.prog ops Q ({ dst := dst, op := .store 119 x y, type := ty, pos := pos, after := after, guard := none } :: rest) a w := skKs.wpList_put hA hO hx hy hg h
end
theorem index_ks0 (w : World) : (Instr.index 119 (.agg #[.func (.func 72) #[] #[], .func (.func 73) #[] #[], .func (.func 74) #[] #[], .func (.func 75) #[] #[]]) (.int .u8 0)).run Tryz.prog w = .ok (.func (.func 72) #[] #[]) w := by kernel_rfl
theorem index_ks1 (w : World) : (Instr.index 119 (.agg #[.func (.func 72) #[] #[], .func (.func 73) #[] #[], .func (.func 74) #[] #[], .func (.func 75) #[] #[]]) (.int .u8 1)).run Tryz.prog w = .ok (.func (.func 73) #[] #[]) w := by kernel_rfl
theorem index_ks2 (w : World) : (Instr.index 119 (.agg #[.func (.func 72) #[] #[], .func (.func 73) #[] #[], .func (.func 74) #[] #[], .func (.func 75) #[] #[]]) (.int .u8 2)).run Tryz.prog w = .ok (.func (.func 74) #[] #[]) w := by kernel_rfl
theorem index_ks3 (w : World) : (Instr.index 119 (.agg #[.func (.func 72) #[] #[], .func (.func 73) #[] #[], .func (.func 74) #[] #[], .func (.func 75) #[] #[]]) (.int .u8 3)).run Tryz.prog w = .ok (.func (.func 75) #[] #[]) w := by kernel_rfl
theorem mdKinds_any (w : World) : Calls Tryz.prog 53 #[] w fun e w' => e = .returned (.agg #[.func (.func 72) #[] #[], .func (.func 73) #[] #[], .func (.func 74) #[] #[], .func (.func 75) #[] #[]]) ∧ Keeps [] w w' := by
  have HN := Lib.hid (show (w.alloc (.cells #[.nilFunc, .nilFunc, .nilFunc, .nilFunc] 119)).heap[w.heap.size]? = some (.cells ksZ.toArray 119 (0, 0)) from heap_alloc_new w _)
  have HK := Lib.hid (show Keeps [] w (w.alloc (.cells #[.nilFunc, .nilFunc, .nilFunc, .nilFunc] 119)) from (Keeps.refl _ _).alloc _)
  go_enter Tryz.func53, Tryz.ntmps53
  go_wp2_with ((with_reducible refine wpList_putKs (g := w.heap.size) (A := ksL) (old := ksZ) ksL_ok ksZ_ok ?_ ?_ HN.out ?_); exact rfl; exact rfl)
  intro W hW hkW
  have HW := Lib.hid hW; have HKW := Lib.hid hkW
  clear hW hkW
  go_wp2_with fail
  try simp only [Exit.inBlock, Exit.then]
  exact bodyPost_ret (results_sk skKs rfl _ _ (w.heap.size) ksL_ok rfl HW.out) rfl ⟨rfl, HK.out.trans HKW.out (fun q hq => .inr (by simp at hq; omega))⟩
theorem mdFind_any (w : World) {m : Int} (h0 : 0 ≤ m) (h3 : m ≤ 3) : Calls Tryz.prog 51 #[.int .u8 m] w fun e w' => ∃ k : Kd, e = .returned (.tuple #[.agg k.cs.toArray, .bool true]) ∧ KindB w.heap.size w' m k ∧ Keeps [] w w' := by
  rcases (by omega : m = 0 ∨ m = 1 ∨ m = 2 ∨ m = 3) with rfl | rfl | rfl | rfl
  · clear h0 h3
    have HN := Lib.hid (show (w.alloc (.cells #[.nilFunc, .nilFunc, .nilFunc, .nilFunc, .nilFunc, .nilFunc] 106)).heap[w.heap.size]? = some (.cells kdZ.toArray 106 (0, 0)) from heap_alloc_new w _)
    have HK := Lib.hid (show Keeps [] w (w.alloc (.cells #[.nilFunc, .nilFunc, .nilFunc, .nilFunc, .nilFunc, .nilFunc] 106)) from (Keeps.refl _ _).alloc _)
    have hi := index_ks0
    go_enter Tryz.func51, Tryz.ntmps51
    go_wp2_with fail
    generalize w.alloc (.cells #[.nilFunc, .nilFunc, .nilFunc, .nilFunc, .nilFunc, .nilFunc] 106) = w0 at *
    refine (mdKinds_any w0).mono ?_; rintro e w1 ⟨rfl, hk⟩
    replace HN := Lib.hid (hk.heap HN.out (by simp))
    replace HK := Lib.hid (HK.out.trans hk (FSub.refl _ _))
    clear hk
    go_wp2_with fail
    have hb := Nat.le_of_lt (lt_of_block HN.out)
    refine (mdRegs_any w1).mono ?_; rintro e w2 ⟨k, rfl, ha, hk⟩
    replace HN := Lib.hid (hk.heap HN.out (by simp))
    replace HK := Lib.hid (HK.out.trans hk (FSub.refl _ _))
    have HA := Lib.hid (ha.mono hb)
    clear hk ha hb
    go_wp2_with ((with_reducible refine wpList_putKd (g := w.heap.size) (A := Kd.cs k) (old := kdZ) (Kd.ok _) kdZ_ok ?_ ?_ HN.out ?_); exact rfl; exact rfl)
    intro W hW hkW
    have HW := Lib.hid hW; have HKW := Lib.hid hkW
    clear hW hkW
    go_wp2_with fail
    try simp only [Exit.inBlock, Exit.then]
    exact bodyPost_ret (results_sk1 skKd rfl _ _ (w.heap.size) (Kd.ok k) rfl HW.out) rfl ⟨k, rfl, HA.out.put HKW.out (by simp), HK.out.trans HKW.out (fun q hq => .inr (by simp at hq; omega))⟩
  · clear h0 h3
    have HN := Lib.hid (show (w.alloc (.cells #[.nilFunc, .nilFunc, .nilFunc, .nilFunc, .nilFunc, .nilFunc] 106)).heap[w.heap.size]? = some (.cells kdZ.toArray 106 (0, 0)) from heap_alloc_new w _)
    have HK := Lib.hid (show Keeps [] w (w.alloc (.cells #[.nilFunc, .nilFunc, .nilFunc, .nilFunc, .nilFunc, .nilFunc] 106)) from (Keeps.refl _ _).alloc _)
    have hi := index_ks1
    go_enter Tryz.func51, Tryz.ntmps51
    go_wp2_with fail
    generalize w.alloc (.cells #[.nilFunc, .nilFunc, .nilFunc, .nilFunc, .nilFunc, .nilFunc] 106) = w0 at *
    refine (mdKinds_any w0).mono ?_; rintro e w1 ⟨rfl, hk⟩
    replace HN := Lib.hid (hk.heap HN.out (by simp))
    replace HK := Lib.hid (HK.out.trans hk (FSub.refl _ _))
    clear hk
    go_wp2_with fail
    have hb := Nat.le_of_lt (lt_of_block HN.out)
    refine (mdQues_any w1).mono ?_; rintro e w2 ⟨k, rfl, ha, hk⟩
    replace HN := Lib.hid (hk.heap HN.out (by simp))
    replace HK := Lib.hid (HK.out.trans hk (FSub.refl _ _))
    have HA := Lib.hid (ha.mono hb)
    clear hk ha hb
    go_wp2_with ((with_reducible refine wpList_putKd (g := w.heap.size) (A := Kd.cs k) (old := kdZ) (Kd.ok _) kdZ_ok ?_ ?_ HN.out ?_); exact rfl; exact rfl)
    intro W hW hkW
    have HW := Lib.hid hW; have HKW := Lib.hid hkW
    clear hW hkW
    go_wp2_with fail
    try simp only [Exit.inBlock, Exit.then]
    exact bodyPost_ret (results_sk1 skKd rfl _ _ (w.heap.size) (Kd.ok k) rfl HW.out) rfl ⟨k, rfl, HA.out.put HKW.out (by simp), HK.out.trans HKW.out (fun q hq => .inr (by simp at hq; omega))⟩
  · clear h0 h3
    have HN := Lib.hid (show (w.alloc (.cells #[.nilFunc, .nilFunc, .nilFunc, .nilFunc, .nilFunc, .nilFunc] 106)).heap[w.heap.size]? = some (.cells kdZ.toArray 106 (0, 0)) from heap_alloc_new w _)
    have HK := Lib.hid (show Keeps [] w (w.alloc (.cells #[.nilFunc, .nilFunc, .nilFunc, .nilFunc, .nilFunc, .nilFunc] 106)) from (Keeps.refl _ _).alloc _)
    have hi := index_ks2
    go_enter Tryz.func51, Tryz.ntmps51
    go_wp2_with fail
    generalize w.alloc (.cells #[.nilFunc, .nilFunc, .nilFunc, .nilFunc, .nilFunc, .nilFunc] 106) = w0 at *
    refine (mdKinds_any w0).mono ?_; rintro e w1 ⟨rfl, hk⟩
    replace HN := Lib.hid (hk.heap HN.out (by simp))
    replace HK := Lib.hid (HK.out.trans hk (FSub.refl _ _))
    clear hk
    go_wp2_with fail
    have hb := Nat.le_of_lt (lt_of_block HN.out)
    refine (mdMaps_any w1).mono ?_; rintro e w2 ⟨k, rfl, ha, hk⟩
    replace HN := Lib.hid (hk.heap HN.out (by simp))
    replace HK := Lib.hid (HK.out.trans hk (FSub.refl _ _))
    have HA := Lib.hid (ha.mono hb)
    clear hk ha hb
    go_wp2_with ((with_reducible refine wpList_putKd (g := w.heap.size) (A := Kd.cs k) (old := kdZ) (Kd.ok _) kdZ_ok ?_ ?_ HN.out ?_); exact rfl; exact rfl)
    intro W hW hkW
    have HW := Lib.hid hW; have HKW := Lib.hid hkW
    clear hW hkW
    go_wp2_with fail
    try simp only [Exit.inBlock, Exit.then]
    exact bodyPost_ret (results_sk1 skKd rfl _ _ (w.heap.size) (Kd.ok k) rfl HW.out) rfl ⟨k, rfl, HA.out.put HKW.out (by simp), HK.out.trans HKW.out (fun q hq => .inr (by simp at hq; omega))⟩
  · clear h0 h3
    have HN := Lib.hid (show (w.alloc (.cells #[.nilFunc, .nilFunc, .nilFunc, .nilFunc, .nilFunc, .nilFunc] 106)).heap[w.heap.size]? = some (.cells kdZ.toArray 106 (0, 0)) from heap_alloc_new w _)
    have HK := Lib.hid (show Keeps [] w (w.alloc (.cells #[.nilFunc, .nilFunc, .nilFunc, .nilFunc, .nilFunc, .nilFunc] 106)) from (Keeps.refl _ _).alloc _)
    have hi := index_ks3
    go_enter Tryz.func51, Tryz.ntmps51
    go_wp2_with fail
    generalize w.alloc (.cells #[.nilFunc, .nilFunc, .nilFunc, .nilFunc, .nilFunc, .nilFunc] 106) = w0 at *
    refine (mdKinds_any w0).mono ?_; rintro e w1 ⟨rfl, hk⟩
    replace HN := Lib.hid (hk.heap HN.out (by simp))
    replace HK := Lib.hid (HK.out.trans hk (FSub.refl _ _))
    clear hk
    go_wp2_with fail
    have hb := Nat.le_of_lt (lt_of_block HN.out)
    refine (mdLocks_any w1).mono ?_; rintro e w2 ⟨k, rfl, ha, hk⟩
    replace HN := Lib.hid (hk.heap HN.out (by simp))
    replace HK := Lib.hid (HK.out.trans hk (FSub.refl _ _))
    have HA := Lib.hid (ha.mono hb)
    clear hk ha hb
    go_wp2_with ((with_reducible refine wpList_putKd (g := w.heap.size) (A := Kd.cs k) (old := kdZ) (Kd.ok _) kdZ_ok ?_ ?_ HN.out ?_); exact rfl; exact rfl)
    intro W hW hkW
    have HW := Lib.hid hW; have HKW := Lib.hid hkW
    clear hW hkW
    go_wp2_with fail
    try simp only [Exit.inBlock, Exit.then]
    exact bodyPost_ret (results_sk1 skKd rfl _ _ (w.heap.size) (Kd.ok k) rfl HW.out) rfl ⟨k, rfl, HA.out.put HKW.out (by simp), HK.out.trans HKW.out (fun q hq => .inr (by simp at hq; omega))⟩
theorem mdFind_none (w : World) {m : Int} (h3 : 3 < m) : Calls Tryz.prog 51 #[.int .u8 m] w fun e w' => e = .returned (.tuple #[.agg kdZ.toArray, .bool false]) ∧ Keeps [] w w' := by
  have HN := Lib.hid (show (w.alloc (.cells #[.nilFunc, .nilFunc, .nilFunc, .nilFunc, .nilFunc, .nilFunc] 106)).heap[w.heap.size]? = some (.cells kdZ.toArray 106 (0, 0)) from heap_alloc_new w _)
  have HK := Lib.hid (show Keeps [] w (w.alloc (.cells #[.nilFunc, .nilFunc, .nilFunc, .nilFunc, .nilFunc, .nilFunc] 106)) from (Keeps.refl _ _).alloc _)
  have z : decide (3 < m) = true := decide_eq_true h3
  clear h3
  go_enter Tryz.func51, Tryz.ntmps51
  go_wp2_with ((with_reducible refine wpList_putKd (g := w.heap.size) (A := kdZ) (old := kdZ) kdZ_ok kdZ_ok ?_ ?_ HN.out ?_); exact rfl; exact rfl)
  intro W hW hkW
  have HW := Lib.hid hW; have HKW := Lib.hid hkW
  clear hW hkW
  go_wp2_with fail
  try simp only [Exit.inBlock, Exit.then]
  exact bodyPost_ret (results_sk1 skKd rfl _ _ (w.heap.size) kdZ_ok rfl HW.out) rfl ⟨rfl, HK.out.trans HKW.out (fun q hq => .inr (by simp at hq; omega))⟩
theorem meth_R (n : Nat) (v : Value) (w : World) : (Go.method (n + 1) 226 v "umpire/model.model").run Tryz.prog w = .ok (226, v) w := by kernel_rfl
theorem mdOneR_any (w : World) (s : Int) : Calls Tryz.prog 226 #[.agg #[.int .u8 0, .int .u16 s]] w fun e w' => e = .returned (.int .u8 0) ∧ Keeps [] w w' := by
  go_enter Tryz.func226, Tryz.ntmps226
  go_wp2_with fail
  go_ret
  exact ⟨rfl, (Keeps.refl _ _).alloc _⟩
theorem meth_Q (n : Nat) (v : Value) (w : World) : (Go.method (n + 1) 237 v "umpire/model.model").run Tryz.prog w = .ok (227, v) w := by kernel_rfl
theorem mdOneQ_any (w : World) (v : Value) : Calls Tryz.prog 227 #[.agg #[.int .u8 1, v]] w fun e w' => e = .returned (.int .u8 1) ∧ Keeps [] w w' := by
  go_enter Tryz.func227, Tryz.ntmps227
  go_wp2_with fail
  go_ret
  exact ⟨rfl, (Keeps.refl _ _).alloc _⟩
theorem meth_K (n : Nat) (v : Value) (w : World) : (Go.method (n + 1) 243 v "umpire/model.model").run Tryz.prog w = .ok (228, v) w := by kernel_rfl
theorem mdOneK_any (w : World) (z0 a0 a1 a2 a3 a4 a5 a6 a7 : Int) : Calls Tryz.prog 228 #[.agg #[.int .u8 2, .int .u8 z0, .int .u16 a0, .int .u16 a1, .int .u16 a2, .int .u16 a3, .int .u16 a4, .int .u16 a5, .int .u16 a6, .int .u16 a7]] w fun e w' => e = .returned (.int .u8 2) ∧ Keeps [] w w' := by
  go_enter Tryz.func228, Tryz.ntmps228
  go_wp2_with fail
  go_ret
  exact ⟨rfl, (Keeps.refl _ _).alloc _⟩
theorem meth_L (n : Nat) (v : Value) (w : World) : (Go.method (n + 1) 265 v "umpire/model.model").run Tryz.prog w = .ok (231, v) w := by kernel_rfl
theorem mdOneL_any (w : World) (s : Int) : Calls Tryz.prog 231 #[.agg #[.int .u8 3, .int .u8 s]] w fun e w' => e = .returned (.int .u8 3) ∧ Keeps [] w w' := by
  go_enter Tryz.func231, Tryz.ntmps231
  go_wp2_with fail
  go_ret
  exact ⟨rfl, (Keeps.refl _ _).alloc _⟩
theorem mdModel_any (w : World) {st : Value} {O : Option Md} (h : StAt w st O) : Calls Tryz.prog 32 #[st] w fun e w' => e = .returned (.tuple #[.int .u8 (oModel O), .bool O.isSome]) ∧ Keeps [] w w' := by
  obtain ⟨o, rfl, h⟩ := h
  cases O with
  | none =>
    obtain rfl : o = .nilIface := h
    go_enter Tryz.func32, Tryz.ntmps32
    go_wp2_with fail
    go_ret2
    exact ⟨rfl, (Keeps.refl _ _).alloc _⟩
  | some S =>
    replace h : ObAt w o S := h
    cases S with
    | rg s =>
      obtain ⟨rfl, hs⟩ := h
      clear hs
      unfold obR
      have hm := meth_R
      go_enter Tryz.func32, Tryz.ntmps32
      go_wp2_with fail
      refine (mdOneR_any _ s).mono ?_; rintro e w1 ⟨rfl, hk⟩
      go_wp2_with fail
      go_ret2
      exact ⟨rfl, ((Keeps.refl _ _).alloc _).trans hk (FSub.refl _ _)⟩
    | qu l =>
      obtain ⟨v, rfl, h⟩ := h
      clear h
      unfold obQ
      have hm := meth_Q
      go_enter Tryz.func32, Tryz.ntmps32
      go_wp2_with fail
      refine (mdOneQ_any _ v).mono ?_; rintro e w1 ⟨rfl, hk⟩
      go_wp2_with fail
      go_ret2
      exact ⟨rfl, ((Keeps.refl _ _).alloc _).trans hk (FSub.refl _ _)⟩
    | mp m =>
      obtain ⟨rfl, h⟩ := h
      clear h
      rw [kvMap_lits]
      unfold obK9
      generalize (kvH m : Int) = z0
      generalize (kvV m).getD 0 0 = a0
      generalize (kvV m).getD 1 0 = a1
      generalize (kvV m).getD 2 0 = a2
      generalize (kvV m).getD 3 0 = a3
      generalize (kvV m).getD 4 0 = a4
      generalize (kvV m).getD 5 0 = a5
      generalize (kvV m).getD 6 0 = a6
      generalize (kvV m).getD 7 0 = a7
      have hm := meth_K
      go_enter Tryz.func32, Tryz.ntmps32
      go_wp2_with fail
      refine (mdOneK_any _ z0 a0 a1 a2 a3 a4 a5 a6 a7).mono ?_; rintro e w1 ⟨rfl, hk⟩
      go_wp2_with fail
      go_ret2
      exact ⟨rfl, ((Keeps.refl _ _).alloc _).trans hk (FSub.refl _ _)⟩
    | lk s =>
      obtain ⟨rfl, h⟩ := h
      clear h
      unfold obL
      have hm := meth_L
      go_enter Tryz.func32, Tryz.ntmps32
      go_wp2_with fail
      refine (mdOneL_any _ s).mono ?_; rintro e w1 ⟨rfl, hk⟩
      go_wp2_with fail
      go_ret2
      exact ⟨rfl, ((Keeps.refl _ _).alloc _).trans hk (FSub.refl _ _)⟩
end Go.Proofs.YtbnhcggjcdipeaaGreatDoor
/-
  The program's State: its kind, New, Idle.
-/
namespace Go.Proofs.YtbnhcggjcdipeaaGreatDoor
open Go.RowKit
set_option maxRecDepth 100000
theorem ObAt.iface {w : World} {o : Value} {S : Md} (h : ObAt w o S) : ∃ t v, o = .iface t v := by
  cases S with
  | rg s => obtain ⟨rfl, -⟩ := h; exact ⟨_, _, rfl⟩
  | qu l => obtain ⟨v, rfl, -⟩ := h; exact ⟨_, _, rfl⟩
  | mp m => obtain ⟨rfl, -⟩ := h; exact ⟨_, _, rfl⟩
  | lk s => obtain ⟨rfl, -⟩ := h; exact ⟨_, _, rfl⟩
theorem StAt.keep {w w' : World} {F : List Nat} {st : Value} {O : Option Md} (h : StAt w st O) (hk : Keeps F w w') (hF : ∀ q ∈ stFoot st, q ∉ F) : StAt w' st O := by
  obtain ⟨o, rfl, h⟩ := h
  refine ⟨o, rfl, ?_⟩
  cases O with
  | none => exact h
  | some S => exact ObAt.keep h hk hF
theorem StAt.new {w w' : World} {st : Value} {O : Option Md} (h : StAt w st O) (hk : Keeps [] w w') : StAt w' st O := h.keep hk (by simp)
theorem st_ok (o : Value) (h : o.oneCell' = true) : skM.Ok [o] := ⟨rfl, fun v hv => by simp at hv; subst hv; exact h⟩
set_option maxHeartbeats 8000000
theorem mdKind_any (w : World) {st : Value} {S : Md} (h : StAt w st (some S)) : Calls Tryz.prog 46 #[st] w fun e w' => ∃ k : Kd, e = .returned (.tuple #[.agg k.cs.toArray, .bool true]) ∧ KindB w.heap.size w' S.model k ∧ Keeps [] w w' := by
  obtain ⟨o, rfl, h⟩ := h
  obtain ⟨t, v, rfl⟩ := ObAt.iface h
  obtain ⟨e1, h0, h1, hk⟩ := two_vars w #[.iface t v] #[.nilFunc, .nilFunc, .nilFunc, .nilFunc, .nilFunc, .nilFunc] 30 106
  have HN := Lib.hid (show _ = some (Obj.cells kdZ.toArray 106 (0, 0)) from h1)
  have HK := Lib.hid hk
  have HS := Lib.hid (show StAt _ _ (some S) from ⟨_, rfl, ObAt.new h hk⟩)
  have HM := Lib.hid S.model_in
  clear h h0 h1 hk e1
  go_enter Tryz.func46, Tryz.ntmps46
  go_wp2_with fail
  generalize (w.alloc (.cells #[.iface t v] 30)).alloc (.cells #[.nilFunc, .nilFunc, .nilFunc, .nilFunc, .nilFunc, .nilFunc] 106) = w0 at *
  refine (mdModel_any _ HS.out).mono ?_; rintro e w1 ⟨rfl, hk⟩
  rw [show oModel (some S) = S.model from rfl, show (some S).isSome = true from rfl]
  replace HN := Lib.hid (hk.heap HN.out (by simp))
  replace HK := Lib.hid (HK.out.trans hk (FSub.refl _ _))
  clear hk HS
  go_wp2_with fail
  have hb := Nat.le_of_lt (lt_of_block HN.out)
  refine (mdFind_any w1 HM.out.1 HM.out.2).mono ?_; rintro e w2 ⟨k, rfl, ha, hk⟩
  replace HN := Lib.hid (hk.heap HN.out (by simp))
  replace HK := Lib.hid (HK.out.trans hk (FSub.refl _ _))
  have HA := Lib.hid (ha.mono hb)
  clear hk ha hb
  go_wp2_with ((with_reducible refine wpList_putKd (g := w.heap.size + 1) (A := Kd.cs k) (old := kdZ) (Kd.ok _) kdZ_ok ?_ ?_ HN.out ?_); exact rfl; exact rfl)
  intro W hW hkW
  have HW := Lib.hid hW; have HKW := Lib.hid hkW
  clear hW hkW
  go_wp2_with fail
  try simp only [Exit.inBlock, Exit.then]
  exact bodyPost_ret (results_sk1 skKd rfl _ _ (w.heap.size + 1) (Kd.ok k) rfl HW.out) rfl ⟨k, rfl, (HA.out.put HKW.out (by simp)).mono (Nat.le_succ _), HK.out.trans HKW.out (fun q hq => .inr (by simp at hq; omega))⟩
theorem mdKind_none (w : World) : Calls Tryz.prog 46 #[.agg #[.nilIface]] w fun e w' => e = .returned (.tuple #[.agg kdZ.toArray, .bool false]) ∧ Keeps [] w w' := by
  obtain ⟨e1, h0, h1, hk⟩ := two_vars w #[.nilIface] #[.nilFunc, .nilFunc, .nilFunc, .nilFunc, .nilFunc, .nilFunc] 30 106
  have HN := Lib.hid (show _ = some (Obj.cells kdZ.toArray 106 (0, 0)) from h1)
  have HK := Lib.hid hk
  clear h0 h1 hk e1
  go_enter Tryz.func46, Tryz.ntmps46
  go_wp2_with fail
  generalize (w.alloc (.cells #[.nilIface] 30)).alloc (.cells #[.nilFunc, .nilFunc, .nilFunc, .nilFunc, .nilFunc, .nilFunc] 106) = w0 at *
  refine (mdModel_any _ (O := none) ⟨_, rfl, rfl⟩).mono ?_; rintro e w1 ⟨rfl, hk⟩
  rw [show oModel none = 0 from rfl, show (none : Option Md).isSome = false from rfl]
  replace HN := Lib.hid (hk.heap HN.out (by simp))
  replace HK := Lib.hid (HK.out.trans hk (FSub.refl _ _))
  clear hk
  go_wp2_with ((with_reducible refine wpList_putKd (g := w.heap.size + 1) (A := kdZ) (old := kdZ) kdZ_ok kdZ_ok ?_ ?_ HN.out ?_); exact rfl; exact rfl)
  intro W hW hkW
  have HW := Lib.hid hW; have HKW := Lib.hid hkW
  clear hW hkW
  go_wp2_with fail
  try simp only [Exit.inBlock, Exit.then]
  exact bodyPost_ret (results_sk1 skKd rfl _ _ (w.heap.size + 1) kdZ_ok rfl HW.out) rfl ⟨rfl, HK.out.trans HKW.out (fun q hq => .inr (by simp at hq; omega))⟩
theorem mdNew_any (w : World) {m : Int} (h0 : 0 ≤ m) : Calls Tryz.prog 30 #[.int .u8 m] w fun e w' => ∃ st, e = .returned (.tuple #[st, .int .i64 (if m ≤ 3 then 0 else 10)]) ∧ StAt w' st (oNew m) ∧ Keeps [] w w' ∧ ∀ q ∈ stFoot st, w.heap.size ≤ q := by
  have HN := Lib.hid (show (w.alloc (.cells #[.nilIface] 30)).heap[w.heap.size]? = some (.cells mdZ.toArray 30 (0, 0)) from heap_alloc_new w _)
  have HK := Lib.hid (show Keeps [] w (w.alloc (.cells #[.nilIface] 30)) from (Keeps.refl _ _).alloc _)
  by_cases h3 : m ≤ 3
  · rw [if_pos h3]
    have HO := Lib.hid (show oNew m = some (mdInit m) from if_pos h3)
    go_enter Tryz.func30, Tryz.ntmps30
    go_wp2_with fail
    generalize w.alloc (.cells #[.nilIface] 30) = w0 at *
    have hb := Nat.le_of_lt (lt_of_block HN.out)
    refine (mdFind_any w0 h0 h3).mono ?_; rintro e w1 ⟨k, rfl, ha, hk⟩
    replace HN := Lib.hid (hk.heap HN.out (by simp))
    replace HK := Lib.hid (HK.out.trans hk (FSub.refl _ _))
    have HA := Lib.hid (ha.mono hb)
    clear hk ha hb h0 h3
    have HC := Lib.hid (show (w1.alloc (.cells #[.nilFunc, .nilFunc, .nilFunc, .nilFunc, .nilFunc, .nilFunc] 106)).heap[w1.heap.size]? = some (.cells kdZ.toArray 106 (0, 0)) from heap_alloc_new w1 _)
    have HCK := Lib.hid (show Keeps [] w1 (w1.alloc (.cells #[.nilFunc, .nilFunc, .nilFunc, .nilFunc, .nilFunc, .nilFunc] 106)) from (Keeps.refl _ _).alloc _)
    go_wp2_with ((with_reducible refine wpList_putKd (g := w1.heap.size) (A := Kd.cs k) (old := kdZ) (Kd.ok _) kdZ_ok ?_ ?_ HC.out ?_); exact rfl; exact rfl)
    intro W hW hkW
    have HKB := Lib.hid hW
    have hk := HCK.out.trans' hkW (Nat.le_refl _)
    replace HN := Lib.hid (hk.heap HN.out (by simp))
    replace HK := Lib.hid (HK.out.trans hk (FSub.refl _ _))
    replace HA := Lib.hid (HA.out.new hk)
    have c0 : W.cell? ⟨w1.heap.size, 0, none⟩ = some (fv k.i) := cell_lit hW 0 rfl
    clear hW hkW hk HC HCK
    generalize w1.heap.size = g at *
    go_wp2_with ((with_reducible refine wpList_callC (f := fv k.i) [] ?_ ?_ ?_); exact rfl; exact rfl)
    refine (HA.out.at.init _ (Keeps.refl _ _)).mono ?_
    rintro e w2 ⟨o, rfl, ho, hk, hfo⟩
    obtain ⟨t, v, rfl⟩ := ho.iface
    refine ⟨_, rfl, ?_⟩
    have HOB := Lib.hid ho; have HFO := Lib.hid hfo
    replace HN := Lib.hid (hk.heap HN.out (by simp))
    replace HK := Lib.hid (HK.out.trans hk (FSub.refl _ _))
    clear hk ho hfo c0 HA HKB
    go_wp2_with ((with_reducible refine wpList_putM (g := w.heap.size) (old := mdZ) (A := [.iface t v]) (st_ok _ rfl) mdZ_ok ?_ ?_ HN.out ?_); exact rfl; exact rfl)
    intro W2 hW hkW
    have HW := Lib.hid hW; have HKW := Lib.hid hkW
    clear hW hkW
    go_wp2_with fail
    try simp only [Exit.inBlock, Exit.then]
    exact bodyPost_ret (results_sk1 skM rfl _ _ (w.heap.size) (st_ok (.iface t v) rfl) rfl HW.out) rfl ⟨_, rfl, by rw [HO.out]; exact ⟨_, rfl, HOB.out.keep HKW.out (by rw [HFO.out]; simp)⟩, HK.out.trans HKW.out (fun q hq => .inr (by simp at hq; omega)), fun q hq => by
      have h : q ∈ obFoot (.iface t v) := hq
      rw [HFO.out] at h; cases h⟩
  · rw [if_neg h3]
    have HO := Lib.hid (show oNew m = none from if_neg h3)
    go_enter Tryz.func30, Tryz.ntmps30
    go_wp2_with fail
    generalize w.alloc (.cells #[.nilIface] 30) = w0 at *
    refine (mdFind_none w0 (by omega)).mono ?_; rintro e w1 ⟨rfl, hk⟩
    replace HN := Lib.hid (hk.heap HN.out (by simp))
    replace HK := Lib.hid (HK.out.trans hk (FSub.refl _ _))
    clear hk h0 h3
    have HC := Lib.hid (show (w1.alloc (.cells #[.nilFunc, .nilFunc, .nilFunc, .nilFunc, .nilFunc, .nilFunc] 106)).heap[w1.heap.size]? = some (.cells kdZ.toArray 106 (0, 0)) from heap_alloc_new w1 _)
    have HCK := Lib.hid (show Keeps [] w1 (w1.alloc (.cells #[.nilFunc, .nilFunc, .nilFunc, .nilFunc, .nilFunc, .nilFunc] 106)) from (Keeps.refl _ _).alloc _)
    go_wp2_with ((with_reducible refine wpList_putKd (g := w1.heap.size) (A := kdZ) (old := kdZ) kdZ_ok kdZ_ok ?_ ?_ HC.out ?_); exact rfl; exact rfl)
    intro W hW hkW
    have HKB := Lib.hid hW
    have hk := HCK.out.trans' hkW (Nat.le_refl _)
    replace HN := Lib.hid (hk.heap HN.out (by simp))
    replace HK := Lib.hid (HK.out.trans hk (FSub.refl _ _))
    clear hW hkW hk HC HCK HKB
    generalize w1.heap.size = g at *
    go_wp2_with ((with_reducible refine wpList_putM (g := w.heap.size) (old := mdZ) (A := mdZ) mdZ_ok mdZ_ok ?_ ?_ HN.out ?_); exact rfl; exact rfl)
    intro W2 hW hkW
    have HW := Lib.hid hW; have HKW := Lib.hid hkW
    clear hW hkW
    go_wp2_with fail
    try simp only [Exit.inBlock, Exit.then]
    exact bodyPost_ret (results_sk1 skM rfl _ _ (w.heap.size) mdZ_ok rfl HW.out) rfl ⟨_, rfl, by rw [HO.out]; exact ⟨_, rfl, rfl⟩, HK.out.trans HKW.out (fun q hq => .inr (by simp at hq; omega)), fun q hq => by cases hq⟩
end Go.Proofs.YtbnhcggjcdipeaaGreatDoor
