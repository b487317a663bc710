/-
  TablePlays: its walk.
-/
import Derived.Deep.RegionHeld3
import Derived.Test.YtjiglbjpmclncaaP11
import Derived.Test.YtjiglbjpmclncaaP04
set_option linter.unusedSimpArgs false
set_option linter.unusedVariables false
namespace Go.Proofs.Ytjiglbjpmclncaa
open Go.RowKit Go.Maps
theorem works_true (w : World) : Calls Try.prog 7 #[] w fun e w' => e = .returned (.bool true) ∧ Keeps [] w w' := works8_any tabP.toPTabs w (N := 0) trivial (Nat.zero_le _)
theorem Duo.rows {w0 w : World} {p : Value} {O : List Nat} {b base : Nat} {v : Value} {t : Tb} (h : Duo w0 w p O b base v t) (hl : t.L.length ≤ 1000) : Calls Try.prog 16 #[p, .pointer (some ⟨b, 0, none⟩)] w fun e w' => e = .returned (.bool true) ∧ Keeps [] w w' :=
  same8_any w p h.both.doc ((tabP.rows h.both.prog h.ok hl).mono fun e w' hp => by
    obtain ⟨v', rfl, hr, hk⟩ := hp
    exact ⟨v', rfl, hr.in_, hk⟩)
theorem Duo.far {w0 w w' : World} {p : Value} {O : List Nat} {b base : Nat} {v : Value} {t : Tb} {F : List Nat} (h : Duo w0 w p O b base v t) (hk : Keeps F w w') (hF : ∀ q ∈ F, q ∉ O ∧ q ≠ b ∧ q ∉ own v ∧ w0.heap.size ≤ q) : Duo w0 w' p O b base v t :=
  ⟨⟨tabP.keeps h.both.prog hk (fun q hq hb => (hF q hb).1 hq), h.both.doc.keeps hk (fun hb => (hF b hb).2.1 rfl) (fun q hq hb => (hF q hb).2.2.1 hq), h.both.dis, Nat.le_trans h.both.base hk.size⟩, h.k.trans hk (fun q hq => .inr (hF q hq).2.2.2), h.o, h.ok⟩
theorem wpList_storeP {ops : Array Oper} {rest : List Oper} {a : Act} {w : World} {Q : Exit → Act → World → Prop} {dst : Option Tmp} {ty : TypeId} {pos : String} {after : Array Edge} {x z : Operand} {g off : Nat} {y : Rw}
    (hx : a.eval x = .pointer (some ⟨g, off, none⟩)) (hy : a.eval z = .agg (rwC y).toArray) (hold : ∀ j, j < 12 → (w.cell? ⟨g, off + j, none⟩).isSome = true ∧ w.frozen? ⟨g, off + j, none⟩ = false)
    (h : wpList Try.prog ops Q rest (a.put dst undef) (w.setCells g off (rwC y))) : wpList Try.prog ops Q ({ dst := dst, op := .store 42 x z, type := ty, pos := pos, after := after, guard := none } :: rest) a w :=
  wpList_plain rfl fun _ hK => rkP.wp_store rfl hx hy hold (hK _ _ h)
set_option maxHeartbeats 8000000
set_option maxRecDepth 100000
theorem TablePlays_any (w : World) {N : Nat} {v : Value} {L : List Ac} (hv : kAc.In N w v L) (hN : N ≤ w.heap.size) (hin : ∀ x ∈ L, x.In) :
    Calls Try.prog 3 #[v] w fun e w' => e = .returned (.bool true) ∧ Keeps [] w w' := by
  have HV := Lib.hid hv; have HIN := Lib.hid hin
  obtain ⟨a0, n0, rfl, hn, hm, -⟩ := hv
  clear hin
  by_cases hlen : 60 < L.length
  · have hlen2 : (60 : Int) < L.length := by omega
    have HW := Lib.hid (works_true w)
    go_enter Try.func3, Try.ntmps3
    go_wp2_with fail
    refine (HW.out).mono ?_; rintro e w1 ⟨rfl, hk⟩
    have HK := Lib.hid hk
    clear hk HW
    go_wp2_with fail
    go_ret
    exact ⟨rfl, HK.out⟩
  · have hlen2 : (L.length : Int) ≤ 60 := by omega
    have HLEN := Lib.hid hlen
    have HNEW := Lib.hid (tabP.new (N := 0) (w := w) trivial (Nat.zero_le _))
    clear hlen
    go_enter Try.func3, Try.ntmps3
    go_wp2_with fail
    refine (HNEW.out).mono ?_; rintro e w1 ⟨p, O, rfl, hP, hk1, hO⟩
    have HP := Lib.hid hP; have HK1 := Lib.hid hk1; have HO := Lib.hid hO
    clear hP hk1 hO HNEW
    go_wp2_with fail
    refine (r8New_any w1).mono ?_; rintro e w2 ⟨b, rfl, hT, hk2, hb⟩
    have HDUO := Lib.hid (show Duo w w2 p O b (b + 1) (.slice none 0 0) tbNew from
      ⟨⟨tabP.keeps HP.out hk2 (by simp), hT, fun q hq => ⟨fun e => by have := tabP.below HP.out q hq; omega, by simp [own, Value.ownBlock]⟩, lt_of_block hT.heap⟩, HK1.out.trans hk2 (FSub.refl _ _), fun q hq => by
        simp [own, Value.ownBlock] at hq
        rcases hq with h | h
        · exact HO.out q h
        · have := HK1.out.size; omega, TbOk.new⟩)
    clear hT hk2 hb HP HK1 HO
    go_wp2_with fail
    go_loopw [3, 4, 5, 6, 7, 8, 9, 10, 11] (fun tp tr i _ _ _ _ _ _ wr => ∃ (k : Nat) (t : Tb) (p : Value) (O : List Nat) (b base : Nat) (v : Value), i = .int .i64 k ∧ k ≤ L.length ∧ tp = p ∧ tr = .pointer (some ⟨b, 0, none⟩) ∧ t.L.length ≤ k ∧ Duo w wr p O b base v t) (fun _ _ i _ _ _ _ _ _ _ => L.length - (intOf i).toNat)
    case atStart => exact ⟨0, tbNew, p, O, b, b + 1, .slice none 0 0, rfl, by omega, rfl, rfl, by simp [tbNew], HDUO.out⟩
    case round =>
      obtain ⟨k, t, p, O, b, base, v, rfl, hk, rfl, rfl, htl, hduo⟩ := hrel
      have HD := Lib.hid hduo
      clear hduo
      by_cases hlt : k < L.length
      · have hlt2 : (k : Int) < L.length := by omega
        have hx := HIN.out _ (List.getElem_mem hlt)
        obtain ⟨bk, o, rfl, hbN, hrow⟩ := kAc_at HV.out k hlt
        have HRW := Lib.hid (show wr.rangeAt bk (o + k * 11) (acC L[k]) from fun i u hi => HD.out.k.cell (hrow i u hi) (by simp))
        have HX := Lib.hid hx
        clear hrow hx
        generalize L[k] = x at *
        have HAZ := Lib.hid (heap_alloc_new wr (.cells (acC acZero).toArray 34))
        have HKA := Lib.hid ((Keeps.refl [] wr).alloc (.cells (acC acZero).toArray 34))
        have hk9 : x.k.tmod 9 = x.k % 9 := Int.tmod_eq_emod_of_nonneg HX.out.k.1
        go_wp2_with (first
          | ((with_reducible refine wpList_loadA (g := bk) (off := o + k * 11) (y := x) rfl ?_ HRW.out ?_); exact rfl)
          | ((with_reducible refine wpList_putA (old := acZero) (r := x) ?_ ?_ HAZ.out ?_); exact rfl; exact rfl))
        intro W hW hkW
        have hkV := HKA.out.trans hkW (fun q hq => .inr (by simp at hq; omega))
        have HD0 := Lib.hid (HD.out.new hkV)
        have HAC := Lib.hid (ac_cells hW)
        have HNB := Lib.hid (show ∀ q ∈ O ++ b :: own v, q ≠ wr.heap.size from fun q hq e => by
          rcases List.mem_append.1 hq with h | h
          · have := tabP.below HD.out.both.prog q h; omega
          · rcases List.mem_cons.1 h with h | h
            · have := lt_of_block HD.out.both.doc.heap; omega
            · have := (row_base HD.out.both.doc.row q h).2; omega)
        have HBW := Lib.hid (show wr.heap.size < W.heap.size from lt_of_block hW)
        clear hW hkW hkV HKA HAZ HRW HD hbN
        generalize wr.heap.size = B at *
        have c0 := HAC.out 0 _ (show (acC x)[0]? = some (.int .u8 x.k) from rfl)
        by_cases h8 : x.k % 9 = 8
        · have hm : x.k.tmod 9 = 8 := hk9.trans h8
          have t8 : (x.k.tmod 9 == 8) = true := by simp [hm]
          clear hk9 h8 hm
          have hl0 : t.L.length ≤ 1000 := by omega
          have HOW := Lib.hid (show ∀ q ∈ O, w.heap.size ≤ q from fun q hq => HD0.out.o q (by simp [hq]))
          have HOL := Lib.hid (show ∀ q ∈ O, q < W.heap.size from tabP.below HD0.out.both.prog)
          have HOB := Lib.hid (show B ∉ O from fun hq => HNB.out B (by simp [hq]) rfl)
          have HCOPY := Lib.hid (tabP.copy HD0.out.both.prog hl0)
          go_wp2_with fail
          refine (HCOPY.out).mono ?_; rintro e y1 ⟨p', O', rfl, hP1, hk1, hO1⟩
          have HP1 := Lib.hid hP1; have HK1 := Lib.hid hk1; have HO1 := Lib.hid hO1
          have HE1 := Lib.hid (tabP.below hP1)
          have HC8 := Lib.hid (r8Copy_any y1 (HD0.out.new hk1).both.doc)
          clear hP1 hk1 hO1 HCOPY
          go_wp2_with fail
          refine (HC8.out).mono ?_; rintro e y2 ⟨b', v', rfl, hT2, hk2, hb2⟩
          have HT2 := Lib.hid hT2
          have HK2 := Lib.hid hk2; have HB2 := Lib.hid hb2
          have HP2 := Lib.hid (tabP.keeps HP1.out hk2 (by simp))
          have hA2 := tabP.keeps (HD0.out.new (HK1.out.trans hk2 (FSub.refl _ _))).both.prog (Keeps.refl [] y2) (by simp)
          have HK02 := Lib.hid (HK1.out.trans hk2 (FSub.refl _ _))
          have HS5 := Lib.hid (tabP.settle hA2 HD0.out.ok hl0)
          have hok5 := HD0.out.ok.settle
          have hl5 : (tbSettle t).2.L.length ≤ 1000 := Nat.le_trans (List.length_filter_le _ _) hl0
          clear hT2 hk2 hb2 hA2 HC8 HP1
          go_wp2_with fail
          refine (HS5.out).mono ?_; rintro e y3 ⟨rfl, O3, hA3, hk3, hf3⟩
          have HK3 := Lib.hid hk3; have HF3 := Lib.hid hf3
          have HR6 := Lib.hid (tabP.rem hA3 hok5 hl5 x.id HX.out.id.1 HX.out.id.2)
          have hok6 := hok5.rem x.id
          have hl6 : (tbRem (tbSettle t).2 x.id).2.L.length ≤ 1000 := by
            unfold tbRem; split
            · exact Nat.le_trans (List.length_filter_le _ _) hl5
            · exact hl5
          have c2 : y3.cell? ⟨B, 2, none⟩ = some (.int .u16 x.id) := hk3.cell (HK02.out.cell (HAC.out 2 _ rfl) (by simp)) HOB.out
          clear hA3 hk3 hf3 HS5
          go_wp2_with fail
          refine (HR6.out).mono ?_; rintro e y4 ⟨rfl, O4, hA4, hk4, hf4⟩
          have HK4 := Lib.hid (HK3.out.trans hk4 HF3.out)
          have HF4 := Lib.hid (FSub.trans hf4 HF3.out HK3.out.size (Nat.le_refl _))
          have HI7 := Lib.hid (tabP.inv hA4 hok6 hl6 1 7777 x.o 1152921504606846976 (by decide) (by decide) (by decide) (by decide) HX.out.o (by decide) (by decide))
          have hx4 : ∀ i u, (acC x)[i]? = some u → y4.cell? ⟨B, i, none⟩ = some u := fun i u hi => HK4.out.cell (HK02.out.cell (HAC.out i u hi) (by simp)) HOB.out
          have c3 := hx4 3 _ (show (acC x)[3]? = some (.int .u8 x.o.f) from rfl); have c4 := hx4 4 _ (show (acC x)[4]? = some (.int .u8 x.o.o) from rfl); have c5 := hx4 5 _ (show (acC x)[5]? = some (.int .u8 x.o.k) from rfl); have c6 := hx4 6 _ (show (acC x)[6]? = some (.int .u16 x.o.a) from rfl); have c7 := hx4 7 _ (show (acC x)[7]? = some (.int .u16 x.o.b) from rfl)
          clear c2 hA4 hk4 hf4 HR6 hx4
          go_wp2_with fail
          refine (HI7.out).mono ?_; rintro e WA ⟨rfl, O5, hA5, hk5, hf5⟩
          have hk25 := HK4.out.trans hk5 HF4.out
          have HDX := Lib.hid (show Duo w WA p' O' b' (b' + 1) v' t from by
            have hdis : ∀ q ∈ O', q ∉ O := fun q hq h => by have := HO1.out q hq; have := HOL.out q h; omega
            have hbO : b' ∉ O := fun h => by have := HB2.out; have := HK1.out.size; have := HOL.out b' h; omega
            have hvb := row_base HT2.out.row
            have hvO : ∀ q ∈ own v', q ∉ O := fun q hq h => by have := (hvb q hq).1; have := HB2.out; have := HK1.out.size; have := HOL.out q h; omega
            have hsz := HK1.out.size
            have hdw := HD0.out.k.size
            refine ⟨⟨tabP.keeps HP2.out hk25 hdis, HT2.out.keeps hk25 hbO hvO, fun q hq => ?_, ?_⟩, (HD0.out.k.trans HK02.out (FSub.refl _ _)).trans hk25 (fun q hq => .inr (HOW.out q hq)), fun q hq => ?_, HD0.out.ok⟩
            · have h1 := HE1.out q hq
              have h2 := HB2.out
              exact ⟨by omega, fun h => by have := (hvb q h).1; omega⟩
            · have := lt_of_block HT2.out.heap; have := hk25.size; omega
            · rcases List.mem_append.1 hq with h | h
              · have := HO1.out q h; omega
              · rcases List.mem_cons.1 h with h | h
                · have := HB2.out; omega
                · have := (hvb q h).1; have := HB2.out; omega)
          have HACX := Lib.hid (show ∀ i u, (acC x)[i]? = some u → WA.cell? ⟨B, i, none⟩ = some u from fun i u hi => hk25.cell (HK02.out.cell (HAC.out i u hi) (by simp)) HOB.out)
          have HNBX := Lib.hid (show ∀ q ∈ O' ++ b' :: own v', q ≠ B from fun q hq e => by
            have h0 := HBW.out; have h1 := HK1.out.size; have h2 := HB2.out
            rcases List.mem_append.1 hq with h | h
            · have := HO1.out q h; omega
            · rcases List.mem_cons.1 h with h | h
              · omega
              · have := (row_base HT2.out.row q h).1; omega)
          have HBWX := Lib.hid (show B < WA.heap.size from by have := HBW.out; have := HK02.out.size; have := hk25.size; omega)
          clear c0 c3 c4 c5 c6 c7 hA5 hk5 hf5 hk25 hok5 hok6 hl5 hl6 hl0 HD0 HAC HNB HBW HI7 HK4 HF4 HK3 HF3 HK02 HP2 HT2 HB2 HK2 HK1 HO1 HE1 HOW HOL HOB
          have HRA := Lib.hid (show WA.rangeAt B 0 (acC x) from fun i u hi => by rw [Nat.zero_add]; exact HACX.out i u hi)
          have HONE := Lib.hid (one8_any tabP.toPTab WA HDX.out.both HDX.out.ok (by omega) x HX.out)
          go_wp2_with (first | ((with_reducible refine wpList_loadA (g := B) (off := 0) (y := x) rfl ?_ HRA.out ?_); exact rfl))
          refine (HONE.out).mono ?_; rintro e w3 ⟨rfl, O2, v2, hB2, hk2, hf2⟩
          have HD2 := Lib.hid (HDX.out.act HX.out hB2 hk2 hf2)
          have HAC2 := Lib.hid (show ∀ i u, (acC x)[i]? = some u → w3.cell? ⟨B, i, none⟩ = some u from fun i u hi => hk2.cell (HACX.out i u hi) (fun hq => HNBX.out B hq rfl))
          have HL2 := Lib.hid (Nat.le_trans (acX_len t x) (Nat.succ_le_succ htl))
          clear hB2 hk2 hf2 HONE HRA HACX HDX HNBX HBWX
          generalize (acX t x).2 = t2 at *
          have hl2 : t2.L.length ≤ 1000 := by have := HL2.out; omega
          have HSAME := Lib.hid (HD2.out.rows hl2)
          go_wp2_with fail
          refine (HSAME.out).mono ?_; rintro e w4 ⟨rfl, hk4⟩
          have HD4 := Lib.hid (HD2.out.new hk4)
          have HAC4 := Lib.hid (fun i u (hi : (acC x)[i]? = some u) => hk4.cell (HAC2.out i u hi) (by simp))
          clear hk4 HSAME HD2 HAC2
          have HFIND := Lib.hid (tabP.find HD4.out.both.prog HD4.out.ok hl2 x.id HX.out.id.1 HX.out.id.2)
          have c2 := HAC4.out 2 _ (show (acC x)[2]? = some (.int .u16 x.id) from rfl)
          go_wp2_with fail
          refine (HFIND.out).mono ?_; rintro e w5 ⟨rfl, hk5⟩
          have HD5 := Lib.hid (HD4.out.new hk5)
          have HAC5 := Lib.hid (fun i u (hi : (acC x)[i]? = some u) => hk5.cell (HAC4.out i u hi) (by simp))
          have HRZ := Lib.hid (heap_alloc_new w5 (.cells (rwC rwZero).toArray 42))
          have HKA := Lib.hid ((Keeps.refl [] w5).alloc (.cells (rwC rwZero).toArray 42))
          clear hk5 HFIND HD4 HAC4 c2
          obtain ⟨FR, hFR⟩ : ∃ FR, FR = tbFind t2 x.id := ⟨_, rfl⟩
          rw [← hFR]
          have HFR := Lib.hid hFR
          clear hFR
          generalize hr : FR.getD rwZero = r at *
          generalize hfl : FR.isSome = fl at *
          go_wp2_with (first | ((with_reducible refine wpList_putP (old := rwZero) (r := r) ?_ ?_ HRZ.out ?_); exact rfl; exact rfl))
          intro W6 h6 hk6
          have hk56 := HKA.out.trans hk6 (fun q hq => .inr (by simp at hq; omega))
          have HD6 := Lib.hid (HD5.out.new hk56)
          have HAC6 := Lib.hid (fun i u (hi : (acC x)[i]? = some u) => hk56.cell (HAC5.out i u hi) (by simp))
          have HR6 := Lib.hid h6
          clear h6 hk6 hk56 HKA HRZ HD5 HAC5
          generalize w5.heap.size = R6 at *
          have HF8 := Lib.hid (r8Find_any W6 HD6.out.both.doc x.id)
          rw [← HFR.out, hr, hfl] at HF8
          have c2 := HAC6.out 2 _ (show (acC x)[2]? = some (.int .u16 x.id) from rfl)
          go_wp2_with fail
          refine (HF8.out).mono ?_; rintro e w7 ⟨rfl, hk7⟩
          have HD7 := Lib.hid (HD6.out.new hk7)
          have HAC7 := Lib.hid (fun i u (hi : (acC x)[i]? = some u) => hk7.cell (HAC6.out i u hi) (by simp))
          have HR7 := Lib.hid (hk7.heap HR6.out (by simp))
          have HRZ := Lib.hid (heap_alloc_new w7 (.cells (rwC rwZero).toArray 45))
          have HKA := Lib.hid ((Keeps.refl [] w7).alloc (.cells (rwC rwZero).toArray 45))
          clear hk7 HF8 HD6 HAC6 HR6 c2
          go_wp2_with (first | ((with_reducible refine wpList_put8 (old := rwZero) (r := r) ?_ ?_ HRZ.out ?_); exact rfl; exact rfl))
          intro W8 h8 hk8
          have hk78 := HKA.out.trans hk8 (fun q hq => .inr (by simp at hq; omega))
          have HD8 := Lib.hid (HD7.out.new hk78)
          have HC8 := Lib.hid (hk78.cell (HAC7.out 0 _ (show (acC x)[0]? = some (.int .u8 x.k) from rfl)) (by simp))
          have HR8 := Lib.hid (hk78.heap HR7.out (by simp))
          have HQ8 := Lib.hid h8
          clear h8 hk8 hk78 HKA HRZ HD7 HAC7 HR7
          generalize w7.heap.size = R8 at *
          obtain ⟨S, hS⟩ : ∃ S : World → Prop, S = fun y => Keeps [] W8 y := ⟨_, rfl⟩
          have HSE := Lib.hid hS
          have hSD : S W8.drew := by rw [hS]; exact (Keeps.refl _ _).drew
          have HS0 := Lib.hid (fun (w' : World) (h : S w') => show w'.rangeAt R6 0 (rwC r) from by rw [hS] at h; exact fun i u hi => by rw [Nat.zero_add]; exact h.cell (rw_cell HR8.out i hi) (by simp))
          have HS1 := Lib.hid (fun (w' : World) (h : S w') => show w'.rangeAt R8 0 (rwC r) from by rw [hS] at h; exact fun i u hi => by rw [Nat.zero_add]; exact h.cell (rw_cell HQ8.out i hi) (by simp))
          have HS2 := Lib.hid (fun (w' : World) (h : S w') => show w'.cell? ⟨B, 0, none⟩ = some (.int .u8 x.k) from by rw [hS] at h; exact h.cell HC8.out (by simp))
          clear hS
          go_wp2_with fail
          refine wp_region_noPanic ?_
          refine wp_region_held_drew (S := S) (by kernel_rfl) hSD (fun hHeld => ?_)
          apply wpAnyH_take (i := 0)
          · simp only [List.getElem?_toArray]; rfl
          · kernel_rfl
          · kernel_rfl
          · kernel_rfl
          · exact fun _ _ _ h => h
          · exact yields_rowP r (by rfl) _ rfl R6 0 rfl HS0.out
          · assumption
          try simp only [Act.put, List.setIfInBounds_toArray, List.set_cons_zero, List.set_cons_succ]
          apply wpAnyH_take (i := 1)
          · simp only [List.getElem?_toArray]; rfl
          · kernel_rfl
          · kernel_rfl
          · kernel_rfl
          · exact fun _ _ _ h => h
          · exact yields_row8 r (by rfl) _ rfl R8 0 rfl HS1.out
          · assumption
          try simp only [Act.put, List.setIfInBounds_toArray, List.set_cons_zero, List.set_cons_succ]
          apply wpAnyH_take (i := 2)
          · simp only [List.getElem?_toArray]; rfl
          · kernel_rfl
          · kernel_rfl
          · kernel_rfl
          · exact fun _ _ _ h => h
          · exact Or.inl ⟨by rfl, by intro w hSw; go_simp; try with_reducible rfl⟩
          · assumption
          try simp only [Act.put, List.setIfInBounds_toArray, List.set_cons_zero, List.set_cons_succ]
          apply wpAnyH_take (i := 3)
          · simp only [List.getElem?_toArray]; rfl
          · kernel_rfl
          · kernel_rfl
          · kernel_rfl
          · exact fun _ _ _ h => h
          · exact Or.inl ⟨by rfl, by intro w hSw; go_simp; try with_reducible rfl⟩
          · assumption
          try simp only [Act.put, List.setIfInBounds_toArray, List.set_cons_zero, List.set_cons_succ]
          apply wpAnyH_take (i := 4)
          · simp only [List.getElem?_toArray]; rfl
          · kernel_rfl
          · kernel_rfl
          · kernel_rfl
          · exact fun _ _ _ h => h
          · exact Or.inl ⟨by rfl, by intro w hSw; go_simp; try with_reducible rfl⟩
          · assumption
          try simp only [Act.put, List.setIfInBounds_toArray, List.set_cons_zero, List.set_cons_succ]
          apply wpAnyH_take (i := 5)
          · simp only [List.getElem?_toArray]; rfl
          · kernel_rfl
          · kernel_rfl
          · kernel_rfl
          · exact fun _ _ _ h => h
          · exact Or.inl ⟨by rfl, by intro w hSw; go_simp; try with_reducible rfl⟩
          · assumption
          try simp only [Act.put, List.setIfInBounds_toArray, List.set_cons_zero, List.set_cons_succ]
          apply wpAnyH_take (i := 6)
          · simp only [List.getElem?_toArray]; rfl
          · kernel_rfl
          · kernel_rfl
          · kernel_rfl
          · exact fun _ _ _ h => h
          · exact Or.inl ⟨by rfl, by intro w hSw; go_simp; try with_reducible rfl⟩
          · assumption
          try simp only [Act.put, List.setIfInBounds_toArray, List.set_cons_zero, List.set_cons_succ]
          apply wpAnyH_take (i := 7)
          · simp only [List.getElem?_toArray]; rfl
          · kernel_rfl
          · kernel_rfl
          · kernel_rfl
          · exact fun _ _ _ h => h
          · exact Or.inl ⟨by rfl, by intro w hSw; go_simp; try with_reducible rfl⟩
          · assumption
          try simp only [Act.put, List.setIfInBounds_toArray, List.set_cons_zero, List.set_cons_succ]
          apply wpAnyH_take (i := 8)
          · simp only [List.getElem?_toArray]; rfl
          · kernel_rfl
          · kernel_rfl
          · kernel_rfl
          · exact fun _ _ _ h => h
          · exact Or.inl ⟨by rfl, by intro w hSw; go_simp; try with_reducible rfl⟩
          · assumption
          try simp only [Act.put, List.setIfInBounds_toArray, List.set_cons_zero, List.set_cons_succ]
          apply wpAnyH_take (i := 9)
          · simp only [List.getElem?_toArray]; rfl
          · kernel_rfl
          · kernel_rfl
          · kernel_rfl
          · exact fun _ _ _ h => h
          · exact Or.inl ⟨by rfl, by intro w hSw; go_simp; try with_reducible rfl⟩
          · assumption
          try simp only [Act.put, List.setIfInBounds_toArray, List.set_cons_zero, List.set_cons_succ]
          apply wpAnyH_take (i := 10)
          · simp only [List.getElem?_toArray]; rfl
          · kernel_rfl
          · kernel_rfl
          · kernel_rfl
          · exact fun _ _ _ h => h
          · exact Or.inl ⟨by rfl, by intro w hSw; go_simp; try with_reducible rfl⟩
          · assumption
          try simp only [Act.put, List.setIfInBounds_toArray, List.set_cons_zero, List.set_cons_succ]
          apply wpAnyH_take (i := 11)
          · simp only [List.getElem?_toArray]; rfl
          · kernel_rfl
          · kernel_rfl
          · kernel_rfl
          · exact fun _ _ _ h => h
          · exact Or.inl ⟨by rfl, by intro w hSw; have q0 := HS2.out w hSw; go_simp; try with_reducible rfl⟩
          · assumption
          try simp only [Act.put, List.setIfInBounds_toArray, List.set_cons_zero, List.set_cons_succ]
          apply wpAnyH_take (i := 13)
          · simp only [List.getElem?_toArray]; rfl
          · kernel_rfl
          · kernel_rfl
          · kernel_rfl
          · exact fun _ _ _ h => h
          · exact Or.inl ⟨by rfl, by intro w hSw; go_simp; try with_reducible rfl⟩
          · assumption
          try simp only [Act.put, List.setIfInBounds_toArray, List.set_cons_zero, List.set_cons_succ]
          apply wpAnyH_take (i := 14)
          · simp only [List.getElem?_toArray]; rfl
          · kernel_rfl
          · kernel_rfl
          · kernel_rfl
          · exact fun _ _ _ h => h
          · exact Or.inl ⟨by rfl, by intro w hSw; go_simp; try with_reducible rfl⟩
          · assumption
          try simp only [Act.put, List.setIfInBounds_toArray, List.set_cons_zero, List.set_cons_succ]
          apply wpAnyH_take (i := 15)
          · simp only [List.getElem?_toArray]; rfl
          · kernel_rfl
          · kernel_rfl
          · kernel_rfl
          · exact fun _ _ _ h => h
          · exact Or.inl ⟨by rfl, by intro w hSw; have q0 := HS2.out w hSw; go_simp; try with_reducible rfl⟩
          · assumption
          try simp only [Act.put, List.setIfInBounds_toArray, List.set_cons_zero, List.set_cons_succ]
          apply wpAnyH_ready (rs := [12])
          · kernel_rfl
          · simp
          apply AllReadyH.cons (hs := AllReadyH.nil)
          · simp only [List.getElem?_toArray]; rfl
          intro K hK
          rw [if_pos (by rfl)]
          refine wp_call8 19 _ _ rfl [p', .int .u8 x.k] rfl Try.func19 (by kernel_rfl) (by kernel_rfl) ((tabP.count (HD8.out.new (Keeps.refl [] W8).drew).both.prog hl2 x.k).mono ?_)
          rintro e y1 ⟨rfl, hk⟩
          refine ⟨_, rfl, ?_⟩
          have HY1 := Lib.hid ((Keeps.refl [] W8).drew.trans hk (FSub.refl _ _))
          clear hk
          refine hK.out _ _ ?_ (fun hHeld => ?_)
          · exact (by rw [HSE.out]; exact HY1.out)
          clear hK K
          try simp only [Act.put, List.setIfInBounds_toArray, List.set_cons_zero, List.set_cons_succ]
          apply wpAnyH_ready (rs := [16])
          · kernel_rfl
          · simp
          apply AllReadyH.cons (hs := AllReadyH.nil)
          · simp only [List.getElem?_toArray]; rfl
          intro K hK
          rw [if_pos (by rfl)]
          refine wp_call8 20 _ _ rfl [.pointer (some ⟨b', 0, none⟩), .int .u8 x.k] rfl Try.func20 (by kernel_rfl) (by kernel_rfl) ((r8Count_any y1 (HD8.out.new HY1.out).both.doc x.k).mono ?_)
          rintro e y2 ⟨rfl, rfl⟩
          refine ⟨_, rfl, ?_⟩
          refine hK.out _ _ ?_ (fun hHeld => ?_)
          · exact (by rw [HSE.out]; exact HY1.out)
          clear hK K
          try simp only [Act.put, List.setIfInBounds_toArray, List.set_cons_zero, List.set_cons_succ]
          apply wpAnyH_take (i := 17)
          · simp only [List.getElem?_toArray]; rfl
          · kernel_rfl
          · kernel_rfl
          · kernel_rfl
          · exact fun _ _ _ h => h
          · exact Or.inl ⟨by rfl, by intro w hSw; go_simp; try with_reducible rfl⟩
          · assumption
          try simp only [Act.put, List.setIfInBounds_toArray, List.set_cons_zero, List.set_cons_succ]
          apply wpAnyH_take (i := 18)
          · simp only [List.getElem?_toArray]; rfl
          · kernel_rfl
          · kernel_rfl
          · kernel_rfl
          · exact fun _ _ _ h => h
          · exact Or.inl ⟨by rfl, by intro w hSw; go_simp; try with_reducible rfl⟩
          · assumption
          try simp only [Act.put, List.setIfInBounds_toArray, List.set_cons_zero, List.set_cons_succ]
          apply wpAnyH_take (i := 19)
          · simp only [List.getElem?_toArray]; rfl
          · kernel_rfl
          · kernel_rfl
          · kernel_rfl
          · exact fun _ _ _ h => h
          · exact Or.inl ⟨by rfl, by intro w hSw; go_simp; try with_reducible rfl⟩
          · assumption
          try simp only [Act.put, List.setIfInBounds_toArray, List.set_cons_zero, List.set_cons_succ]
          apply wpAnyH_take (i := 20)
          · simp only [List.getElem?_toArray]; rfl
          · kernel_rfl
          · kernel_rfl
          · kernel_rfl
          · exact fun _ _ _ h => h
          · exact Or.inl ⟨by rfl, by intro w hSw; go_simp; try with_reducible rfl⟩
          · assumption
          try simp only [Act.put, List.setIfInBounds_toArray, List.set_cons_zero, List.set_cons_succ]
          apply wpAnyH_take (i := 22)
          · simp only [List.getElem?_toArray]; rfl
          · kernel_rfl
          · kernel_rfl
          · kernel_rfl
          · exact fun _ _ _ h => h
          · exact Or.inl ⟨by rfl, by intro w hSw; go_simp; try with_reducible rfl⟩
          · assumption
          try simp only [Act.put, List.setIfInBounds_toArray, List.set_cons_zero, List.set_cons_succ]
          apply wpAnyH_ready (rs := [21])
          · kernel_rfl
          · simp
          apply AllReadyH.cons (hs := AllReadyH.nil)
          · simp only [List.getElem?_toArray]; rfl
          intro K hK
          rw [if_pos (by rfl)]
          refine wp_call8 19 _ _ rfl [p', .int .u8 0] rfl Try.func19 (by kernel_rfl) (by kernel_rfl) ((tabP.count (HD8.out.new HY1.out).both.prog hl2 0).mono ?_)
          rintro e y3 ⟨rfl, hk⟩
          refine ⟨_, rfl, ?_⟩
          have HY3 := Lib.hid (HY1.out.trans hk (FSub.refl _ _))
          clear hk
          refine hK.out _ _ ?_ (fun hHeld => ?_)
          · exact (by rw [HSE.out]; exact HY3.out)
          clear hK K
          try simp only [Act.put, List.setIfInBounds_toArray, List.set_cons_zero, List.set_cons_succ]
          apply wpAnyH_ready (rs := [23])
          · kernel_rfl
          · simp
          apply AllReadyH.cons (hs := AllReadyH.nil)
          · simp only [List.getElem?_toArray]; rfl
          intro K hK
          rw [if_pos (by rfl)]
          refine wp_call8 20 _ _ rfl [.pointer (some ⟨b', 0, none⟩), .int .u8 0] rfl Try.func20 (by kernel_rfl) (by kernel_rfl) ((r8Count_any y3 (HD8.out.new HY3.out).both.doc 0).mono ?_)
          rintro e y4 ⟨rfl, rfl⟩
          refine ⟨_, rfl, ?_⟩
          refine hK.out _ _ ?_ (fun hHeld => ?_)
          · exact (by rw [HSE.out]; exact HY3.out)
          clear hK K
          try simp only [Act.put, List.setIfInBounds_toArray, List.set_cons_zero, List.set_cons_succ]
          apply wpAnyH_take (i := 24)
          · simp only [List.getElem?_toArray]; rfl
          · kernel_rfl
          · kernel_rfl
          · kernel_rfl
          · exact fun _ _ _ h => h
          · exact Or.inl ⟨by rfl, by intro w hSw; go_simp; try with_reducible rfl⟩
          · assumption
          try simp only [Act.put, List.setIfInBounds_toArray, List.set_cons_zero, List.set_cons_succ]
          apply wpAnyH_take (i := 25)
          · simp only [List.getElem?_toArray]; rfl
          · kernel_rfl
          · kernel_rfl
          · kernel_rfl
          · exact fun _ _ _ h => h
          · exact Or.inl ⟨by rfl, by intro w hSw; go_simp; try with_reducible rfl⟩
          · assumption
          try simp only [Act.put, List.setIfInBounds_toArray, List.set_cons_zero, List.set_cons_succ]
          refine wpAnyH_done (by kernel_rfl) ?_ _
          refine NoPanic.normal ?_
          have HFIN := Lib.hid (HD8.out.new HY3.out)
          clear hHeld hSD HS0 HS1 HS2 HSE HD8 HY1 HY3
          go_wp2_with fail
          go_roundw
          case rel => exact ⟨k + 1, t2, _, O2, _, _, v2, by go_num, by omega, rfl, rfl, HL2.out, HFIN.out⟩
          case measure => simp [intOf]; omega
        · have t8 : (x.k.tmod 9 == 8) = false := by simp [hk9, h8]
          clear hk9 h8
          obtain ⟨WA, hWA⟩ : ∃ WA, WA = W := ⟨_, rfl⟩
          have HDX := Lib.hid (show Duo w WA u3 O b base v t from by rw [hWA]; exact HD0.out)
          have HACX := Lib.hid (show ∀ i u, (acC x)[i]? = some u → WA.cell? ⟨B, i, none⟩ = some u from by rw [hWA]; exact HAC.out)
          have HNBX := HNB
          have HBWX := Lib.hid (show B < WA.heap.size from by rw [hWA]; exact HBW.out)
          clear HD0 HAC HNB HBW
          subst hWA
          have HRA := Lib.hid (show WA.rangeAt B 0 (acC x) from fun i u hi => by rw [Nat.zero_add]; exact HACX.out i u hi)
          have HONE := Lib.hid (one8_any tabP.toPTab WA HDX.out.both HDX.out.ok (by omega) x HX.out)
          go_wp2_with (first | ((with_reducible refine wpList_loadA (g := B) (off := 0) (y := x) rfl ?_ HRA.out ?_); exact rfl))
          refine (HONE.out).mono ?_; rintro e w3 ⟨rfl, O2, v2, hB2, hk2, hf2⟩
          have HD2 := Lib.hid (HDX.out.act HX.out hB2 hk2 hf2)
          have HAC2 := Lib.hid (show ∀ i u, (acC x)[i]? = some u → w3.cell? ⟨B, i, none⟩ = some u from fun i u hi => hk2.cell (HACX.out i u hi) (fun hq => HNBX.out B hq rfl))
          have HL2 := Lib.hid (Nat.le_trans (acX_len t x) (Nat.succ_le_succ htl))
          clear hB2 hk2 hf2 HONE HRA HACX HDX HNBX HBWX
          generalize (acX t x).2 = t2 at *
          have hl2 : t2.L.length ≤ 1000 := by have := HL2.out; omega
          have HSAME := Lib.hid (HD2.out.rows hl2)
          go_wp2_with fail
          refine (HSAME.out).mono ?_; rintro e w4 ⟨rfl, hk4⟩
          have HD4 := Lib.hid (HD2.out.new hk4)
          have HAC4 := Lib.hid (fun i u (hi : (acC x)[i]? = some u) => hk4.cell (HAC2.out i u hi) (by simp))
          clear hk4 HSAME HD2 HAC2
          have HFIND := Lib.hid (tabP.find HD4.out.both.prog HD4.out.ok hl2 x.id HX.out.id.1 HX.out.id.2)
          have c2 := HAC4.out 2 _ (show (acC x)[2]? = some (.int .u16 x.id) from rfl)
          go_wp2_with fail
          refine (HFIND.out).mono ?_; rintro e w5 ⟨rfl, hk5⟩
          have HD5 := Lib.hid (HD4.out.new hk5)
          have HAC5 := Lib.hid (fun i u (hi : (acC x)[i]? = some u) => hk5.cell (HAC4.out i u hi) (by simp))
          have HRZ := Lib.hid (heap_alloc_new w5 (.cells (rwC rwZero).toArray 42))
          have HKA := Lib.hid ((Keeps.refl [] w5).alloc (.cells (rwC rwZero).toArray 42))
          clear hk5 HFIND HD4 HAC4 c2
          obtain ⟨FR, hFR⟩ : ∃ FR, FR = tbFind t2 x.id := ⟨_, rfl⟩
          rw [← hFR]
          have HFR := Lib.hid hFR
          clear hFR
          generalize hr : FR.getD rwZero = r at *
          generalize hfl : FR.isSome = fl at *
          go_wp2_with (first | ((with_reducible refine wpList_putP (old := rwZero) (r := r) ?_ ?_ HRZ.out ?_); exact rfl; exact rfl))
          intro W6 h6 hk6
          have hk56 := HKA.out.trans hk6 (fun q hq => .inr (by simp at hq; omega))
          have HD6 := Lib.hid (HD5.out.new hk56)
          have HAC6 := Lib.hid (fun i u (hi : (acC x)[i]? = some u) => hk56.cell (HAC5.out i u hi) (by simp))
          have HR6 := Lib.hid h6
          clear h6 hk6 hk56 HKA HRZ HD5 HAC5
          generalize w5.heap.size = R6 at *
          have HF8 := Lib.hid (r8Find_any W6 HD6.out.both.doc x.id)
          rw [← HFR.out, hr, hfl] at HF8
          have c2 := HAC6.out 2 _ (show (acC x)[2]? = some (.int .u16 x.id) from rfl)
          go_wp2_with fail
          refine (HF8.out).mono ?_; rintro e w7 ⟨rfl, hk7⟩
          have HD7 := Lib.hid (HD6.out.new hk7)
          have HAC7 := Lib.hid (fun i u (hi : (acC x)[i]? = some u) => hk7.cell (HAC6.out i u hi) (by simp))
          have HR7 := Lib.hid (hk7.heap HR6.out (by simp))
          have HRZ := Lib.hid (heap_alloc_new w7 (.cells (rwC rwZero).toArray 45))
          have HKA := Lib.hid ((Keeps.refl [] w7).alloc (.cells (rwC rwZero).toArray 45))
          clear hk7 HF8 HD6 HAC6 HR6 c2
          go_wp2_with (first | ((with_reducible refine wpList_put8 (old := rwZero) (r := r) ?_ ?_ HRZ.out ?_); exact rfl; exact rfl))
          intro W8 h8 hk8
          have hk78 := HKA.out.trans hk8 (fun q hq => .inr (by simp at hq; omega))
          have HD8 := Lib.hid (HD7.out.new hk78)
          have HC8 := Lib.hid (hk78.cell (HAC7.out 0 _ (show (acC x)[0]? = some (.int .u8 x.k) from rfl)) (by simp))
          have HR8 := Lib.hid (hk78.heap HR7.out (by simp))
          have HQ8 := Lib.hid h8
          clear h8 hk8 hk78 HKA HRZ HD7 HAC7 HR7
          generalize w7.heap.size = R8 at *
          obtain ⟨S, hS⟩ : ∃ S : World → Prop, S = fun y => Keeps [] W8 y := ⟨_, rfl⟩
          have HSE := Lib.hid hS
          have hSD : S W8.drew := by rw [hS]; exact (Keeps.refl _ _).drew
          have HS0 := Lib.hid (fun (w' : World) (h : S w') => show w'.rangeAt R6 0 (rwC r) from by rw [hS] at h; exact fun i u hi => by rw [Nat.zero_add]; exact h.cell (rw_cell HR8.out i hi) (by simp))
          have HS1 := Lib.hid (fun (w' : World) (h : S w') => show w'.rangeAt R8 0 (rwC r) from by rw [hS] at h; exact fun i u hi => by rw [Nat.zero_add]; exact h.cell (rw_cell HQ8.out i hi) (by simp))
          have HS2 := Lib.hid (fun (w' : World) (h : S w') => show w'.cell? ⟨B, 0, none⟩ = some (.int .u8 x.k) from by rw [hS] at h; exact h.cell HC8.out (by simp))
          clear hS
          go_wp2_with fail
          refine wp_region_noPanic ?_
          refine wp_region_held_drew (S := S) (by kernel_rfl) hSD (fun hHeld => ?_)
          apply wpAnyH_take (i := 0)
          · simp only [List.getElem?_toArray]; rfl
          · kernel_rfl
          · kernel_rfl
          · kernel_rfl
          · exact fun _ _ _ h => h
          · exact yields_rowP r (by rfl) _ rfl R6 0 rfl HS0.out
          · assumption
          try simp only [Act.put, List.setIfInBounds_toArray, List.set_cons_zero, List.set_cons_succ]
          apply wpAnyH_take (i := 1)
          · simp only [List.getElem?_toArray]; rfl
          · kernel_rfl
          · kernel_rfl
          · kernel_rfl
          · exact fun _ _ _ h => h
          · exact yields_row8 r (by rfl) _ rfl R8 0 rfl HS1.out
          · assumption
          try simp only [Act.put, List.setIfInBounds_toArray, List.set_cons_zero, List.set_cons_succ]
          apply wpAnyH_take (i := 2)
          · simp only [List.getElem?_toArray]; rfl
          · kernel_rfl
          · kernel_rfl
          · kernel_rfl
          · exact fun _ _ _ h => h
          · exact Or.inl ⟨by rfl, by intro w hSw; go_simp; try with_reducible rfl⟩
          · assumption
          try simp only [Act.put, List.setIfInBounds_toArray, List.set_cons_zero, List.set_cons_succ]
          apply wpAnyH_take (i := 3)
          · simp only [List.getElem?_toArray]; rfl
          · kernel_rfl
          · kernel_rfl
          · kernel_rfl
          · exact fun _ _ _ h => h
          · exact Or.inl ⟨by rfl, by intro w hSw; go_simp; try with_reducible rfl⟩
          · assumption
          try simp only [Act.put, List.setIfInBounds_toArray, List.set_cons_zero, List.set_cons_succ]
          apply wpAnyH_take (i := 4)
          · simp only [List.getElem?_toArray]; rfl
          · kernel_rfl
          · kernel_rfl
          · kernel_rfl
          · exact fun _ _ _ h => h
          · exact Or.inl ⟨by rfl, by intro w hSw; go_simp; try with_reducible rfl⟩
          · assumption
          try simp only [Act.put, List.setIfInBounds_toArray, List.set_cons_zero, List.set_cons_succ]
          apply wpAnyH_take (i := 5)
          · simp only [List.getElem?_toArray]; rfl
          · kernel_rfl
          · kernel_rfl
          · kernel_rfl
          · exact fun _ _ _ h => h
          · exact Or.inl ⟨by rfl, by intro w hSw; go_simp; try with_reducible rfl⟩
          · assumption
          try simp only [Act.put, List.setIfInBounds_toArray, List.set_cons_zero, List.set_cons_succ]
          apply wpAnyH_take (i := 6)
          · simp only [List.getElem?_toArray]; rfl
          · kernel_rfl
          · kernel_rfl
          · kernel_rfl
          · exact fun _ _ _ h => h
          · exact Or.inl ⟨by rfl, by intro w hSw; go_simp; try with_reducible rfl⟩
          · assumption
          try simp only [Act.put, List.setIfInBounds_toArray, List.set_cons_zero, List.set_cons_succ]
          apply wpAnyH_take (i := 7)
          · simp only [List.getElem?_toArray]; rfl
          · kernel_rfl
          · kernel_rfl
          · kernel_rfl
          · exact fun _ _ _ h => h
          · exact Or.inl ⟨by rfl, by intro w hSw; go_simp; try with_reducible rfl⟩
          · assumption
          try simp only [Act.put, List.setIfInBounds_toArray, List.set_cons_zero, List.set_cons_succ]
          apply wpAnyH_take (i := 8)
          · simp only [List.getElem?_toArray]; rfl
          · kernel_rfl
          · kernel_rfl
          · kernel_rfl
          · exact fun _ _ _ h => h
          · exact Or.inl ⟨by rfl, by intro w hSw; go_simp; try with_reducible rfl⟩
          · assumption
          try simp only [Act.put, List.setIfInBounds_toArray, List.set_cons_zero, List.set_cons_succ]
          apply wpAnyH_take (i := 9)
          · simp only [List.getElem?_toArray]; rfl
          · kernel_rfl
          · kernel_rfl
          · kernel_rfl
          · exact fun _ _ _ h => h
          · exact Or.inl ⟨by rfl, by intro w hSw; go_simp; try with_reducible rfl⟩
          · assumption
          try simp only [Act.put, List.setIfInBounds_toArray, List.set_cons_zero, List.set_cons_succ]
          apply wpAnyH_take (i := 10)
          · simp only [List.getElem?_toArray]; rfl
          · kernel_rfl
          · kernel_rfl
          · kernel_rfl
          · exact fun _ _ _ h => h
          · exact Or.inl ⟨by rfl, by intro w hSw; go_simp; try with_reducible rfl⟩
          · assumption
          try simp only [Act.put, List.setIfInBounds_toArray, List.set_cons_zero, List.set_cons_succ]
          apply wpAnyH_take (i := 11)
          · simp only [List.getElem?_toArray]; rfl
          · kernel_rfl
          · kernel_rfl
          · kernel_rfl
          · exact fun _ _ _ h => h
          · exact Or.inl ⟨by rfl, by intro w hSw; have q0 := HS2.out w hSw; go_simp; try with_reducible rfl⟩
          · assumption
          try simp only [Act.put, List.setIfInBounds_toArray, List.set_cons_zero, List.set_cons_succ]
          apply wpAnyH_take (i := 13)
          · simp only [List.getElem?_toArray]; rfl
          · kernel_rfl
          · kernel_rfl
          · kernel_rfl
          · exact fun _ _ _ h => h
          · exact Or.inl ⟨by rfl, by intro w hSw; go_simp; try with_reducible rfl⟩
          · assumption
          try simp only [Act.put, List.setIfInBounds_toArray, List.set_cons_zero, List.set_cons_succ]
          apply wpAnyH_take (i := 14)
          · simp only [List.getElem?_toArray]; rfl
          · kernel_rfl
          · kernel_rfl
          · kernel_rfl
          · exact fun _ _ _ h => h
          · exact Or.inl ⟨by rfl, by intro w hSw; go_simp; try with_reducible rfl⟩
          · assumption
          try simp only [Act.put, List.setIfInBounds_toArray, List.set_cons_zero, List.set_cons_succ]
          apply wpAnyH_take (i := 15)
          · simp only [List.getElem?_toArray]; rfl
          · kernel_rfl
          · kernel_rfl
          · kernel_rfl
          · exact fun _ _ _ h => h
          · exact Or.inl ⟨by rfl, by intro w hSw; have q0 := HS2.out w hSw; go_simp; try with_reducible rfl⟩
          · assumption
          try simp only [Act.put, List.setIfInBounds_toArray, List.set_cons_zero, List.set_cons_succ]
          apply wpAnyH_ready (rs := [12])
          · kernel_rfl
          · simp
          apply AllReadyH.cons (hs := AllReadyH.nil)
          · simp only [List.getElem?_toArray]; rfl
          intro K hK
          rw [if_pos (by rfl)]
          refine wp_call8 19 _ _ rfl [u3, .int .u8 x.k] rfl Try.func19 (by kernel_rfl) (by kernel_rfl) ((tabP.count (HD8.out.new (Keeps.refl [] W8).drew).both.prog hl2 x.k).mono ?_)
          rintro e y1 ⟨rfl, hk⟩
          refine ⟨_, rfl, ?_⟩
          have HY1 := Lib.hid ((Keeps.refl [] W8).drew.trans hk (FSub.refl _ _))
          clear hk
          refine hK.out _ _ ?_ (fun hHeld => ?_)
          · exact (by rw [HSE.out]; exact HY1.out)
          clear hK K
          try simp only [Act.put, List.setIfInBounds_toArray, List.set_cons_zero, List.set_cons_succ]
          apply wpAnyH_ready (rs := [16])
          · kernel_rfl
          · simp
          apply AllReadyH.cons (hs := AllReadyH.nil)
          · simp only [List.getElem?_toArray]; rfl
          intro K hK
          rw [if_pos (by rfl)]
          refine wp_call8 20 _ _ rfl [.pointer (some ⟨b, 0, none⟩), .int .u8 x.k] rfl Try.func20 (by kernel_rfl) (by kernel_rfl) ((r8Count_any y1 (HD8.out.new HY1.out).both.doc x.k).mono ?_)
          rintro e y2 ⟨rfl, rfl⟩
          refine ⟨_, rfl, ?_⟩
          refine hK.out _ _ ?_ (fun hHeld => ?_)
          · exact (by rw [HSE.out]; exact HY1.out)
          clear hK K
          try simp only [Act.put, List.setIfInBounds_toArray, List.set_cons_zero, List.set_cons_succ]
          apply wpAnyH_take (i := 17)
          · simp only [List.getElem?_toArray]; rfl
          · kernel_rfl
          · kernel_rfl
          · kernel_rfl
          · exact fun _ _ _ h => h
          · exact Or.inl ⟨by rfl, by intro w hSw; go_simp; try with_reducible rfl⟩
          · assumption
          try simp only [Act.put, List.setIfInBounds_toArray, List.set_cons_zero, List.set_cons_succ]
          apply wpAnyH_take (i := 18)
          · simp only [List.getElem?_toArray]; rfl
          · kernel_rfl
          · kernel_rfl
          · kernel_rfl
          · exact fun _ _ _ h => h
          · exact Or.inl ⟨by rfl, by intro w hSw; go_simp; try with_reducible rfl⟩
          · assumption
          try simp only [Act.put, List.setIfInBounds_toArray, List.set_cons_zero, List.set_cons_succ]
          apply wpAnyH_take (i := 19)
          · simp only [List.getElem?_toArray]; rfl
          · kernel_rfl
          · kernel_rfl
          · kernel_rfl
          · exact fun _ _ _ h => h
          · exact Or.inl ⟨by rfl, by intro w hSw; go_simp; try with_reducible rfl⟩
          · assumption
          try simp only [Act.put, List.setIfInBounds_toArray, List.set_cons_zero, List.set_cons_succ]
          apply wpAnyH_take (i := 20)
          · simp only [List.getElem?_toArray]; rfl
          · kernel_rfl
          · kernel_rfl
          · kernel_rfl
          · exact fun _ _ _ h => h
          · exact Or.inl ⟨by rfl, by intro w hSw; go_simp; try with_reducible rfl⟩
          · assumption
          try simp only [Act.put, List.setIfInBounds_toArray, List.set_cons_zero, List.set_cons_succ]
          apply wpAnyH_take (i := 22)
          · simp only [List.getElem?_toArray]; rfl
          · kernel_rfl
          · kernel_rfl
          · kernel_rfl
          · exact fun _ _ _ h => h
          · exact Or.inl ⟨by rfl, by intro w hSw; go_simp; try with_reducible rfl⟩
          · assumption
          try simp only [Act.put, List.setIfInBounds_toArray, List.set_cons_zero, List.set_cons_succ]
          apply wpAnyH_ready (rs := [21])
          · kernel_rfl
          · simp
          apply AllReadyH.cons (hs := AllReadyH.nil)
          · simp only [List.getElem?_toArray]; rfl
          intro K hK
          rw [if_pos (by rfl)]
          refine wp_call8 19 _ _ rfl [u3, .int .u8 0] rfl Try.func19 (by kernel_rfl) (by kernel_rfl) ((tabP.count (HD8.out.new HY1.out).both.prog hl2 0).mono ?_)
          rintro e y3 ⟨rfl, hk⟩
          refine ⟨_, rfl, ?_⟩
          have HY3 := Lib.hid (HY1.out.trans hk (FSub.refl _ _))
          clear hk
          refine hK.out _ _ ?_ (fun hHeld => ?_)
          · exact (by rw [HSE.out]; exact HY3.out)
          clear hK K
          try simp only [Act.put, List.setIfInBounds_toArray, List.set_cons_zero, List.set_cons_succ]
          apply wpAnyH_ready (rs := [23])
          · kernel_rfl
          · simp
          apply AllReadyH.cons (hs := AllReadyH.nil)
          · simp only [List.getElem?_toArray]; rfl
          intro K hK
          rw [if_pos (by rfl)]
          refine wp_call8 20 _ _ rfl [.pointer (some ⟨b, 0, none⟩), .int .u8 0] rfl Try.func20 (by kernel_rfl) (by kernel_rfl) ((r8Count_any y3 (HD8.out.new HY3.out).both.doc 0).mono ?_)
          rintro e y4 ⟨rfl, rfl⟩
          refine ⟨_, rfl, ?_⟩
          refine hK.out _ _ ?_ (fun hHeld => ?_)
          · exact (by rw [HSE.out]; exact HY3.out)
          clear hK K
          try simp only [Act.put, List.setIfInBounds_toArray, List.set_cons_zero, List.set_cons_succ]
          apply wpAnyH_take (i := 24)
          · simp only [List.getElem?_toArray]; rfl
          · kernel_rfl
          · kernel_rfl
          · kernel_rfl
          · exact fun _ _ _ h => h
          · exact Or.inl ⟨by rfl, by intro w hSw; go_simp; try with_reducible rfl⟩
          · assumption
          try simp only [Act.put, List.setIfInBounds_toArray, List.set_cons_zero, List.set_cons_succ]
          apply wpAnyH_take (i := 25)
          · simp only [List.getElem?_toArray]; rfl
          · kernel_rfl
          · kernel_rfl
          · kernel_rfl
          · exact fun _ _ _ h => h
          · exact Or.inl ⟨by rfl, by intro w hSw; go_simp; try with_reducible rfl⟩
          · assumption
          try simp only [Act.put, List.setIfInBounds_toArray, List.set_cons_zero, List.set_cons_succ]
          refine wpAnyH_done (by kernel_rfl) ?_ _
          refine NoPanic.normal ?_
          have HFIN := Lib.hid (HD8.out.new HY3.out)
          clear hHeld hSD HS0 HS1 HS2 HSE HD8 HY1 HY3
          go_wp2_with fail
          go_roundw
          case rel => exact ⟨k + 1, t2, _, O2, _, _, v2, by go_num, by omega, rfl, rfl, HL2.out, HFIN.out⟩
          case measure => simp [intOf]; omega
      · obtain rfl : k = L.length := by omega
        have hl0 : t.L.length ≤ 1000 := by omega
        have HROWS := Lib.hid (tabP.rows HD.out.both.prog HD.out.ok hl0)
        have HOL := Lib.hid (show ∀ q ∈ O ++ b :: own v, q < wr.heap.size from fun q hq => by
          rcases List.mem_append.1 hq with h | h
          · exact tabP.below HD.out.both.prog q h
          · rcases List.mem_cons.1 h with h | h
            · rw [h]; exact lt_of_block HD.out.both.doc.heap
            · exact (row_base HD.out.both.doc.row q h).2)
        clear hk hlt
        go_wp2_with fail
        refine (HROWS.out).mono ?_; rintro e y0 ⟨lv, rfl, hrow, hk0⟩
        have HD0 := Lib.hid (HD.out.new hk0)
        have HLV := Lib.hid hrow
        have HFAR := Lib.hid (show ∀ q ∈ own lv, q ∉ O ∧ q ≠ b ∧ q ∉ own v ∧ w.heap.size ≤ q from fun q hq => by
          have h1 := (row_base hrow q hq).1
          have h2 := HD.out.k.size
          refine ⟨fun h => by have := HOL.out q (by simp [h]); omega, fun h => by have := HOL.out b (by simp); omega, fun h => by have := HOL.out q (by simp [h]); omega, by omega⟩)
        obtain ⟨la, lc, rfl, hlc, hlm⟩ := hrow.shape
        obtain ⟨va, vc, hva, hvc, hvm⟩ := HD0.out.both.doc.row.shape
        subst hva
        have HB0 := Lib.hid HD0.out.both.doc.cells.1
        clear hrow hk0 HD HROWS HOL
        generalize hNN : t.L.length = n at *
        have HNN := Lib.hid hNN
        clear hNN
        go_wp2_with fail
        go_loopw [13, 14] (fun i _ wq => ∃ m : Nat, i = .int .i64 m ∧ m ≤ n ∧ Keeps [] y0 wq) (fun i _ _ => n - (intOf i).toNat)
        case atStart => exact ⟨0, rfl, by omega, Keeps.refl _ _⟩
        case round =>
          obtain ⟨i, rfl, hi, hki⟩ := hrel
          have HKI := Lib.hid hki
          clear hki
          by_cases hil : i < n
          · have hil2 : (i : Int) < n := by omega
            go_wp2_with fail
            go_loopw [14] (fun j wq => ∃ m : Nat, j = .int .i64 m ∧ m ≤ n ∧ Keeps [] y0 wq) (fun j _ => n - (intOf j).toNat)
            case atStart => exact ⟨0, rfl, by omega, HKI.out⟩
            case round =>
              obtain ⟨j, rfl, hj, hkj⟩ := hrel
              have HKJ := Lib.hid hkj
              clear hkj
              by_cases hjl : j < n
              · have hjl2 : (j : Int) < n := by omega
                have hi3 : i < t.L.length := by have := HNN.out; omega
                have hj3 : j < t.L.length := by have := HNN.out; omega
                obtain ⟨g, cap, hg, -, -, -, -, hrow⟩ := HLV.out.at (fun e => by rw [e] at hi3; simp at hi3)
                obtain ⟨g8, cap8, hg8, -, -, -, -, hrow8⟩ := HD0.out.both.doc.row.at (fun e => by rw [e] at hi3; simp at hi3)
                simp only [Value.slice.injEq] at hg hg8
                obtain ⟨rfl, -, rfl⟩ := hg
                obtain ⟨rfl, -, rfl⟩ := hg8
                have HP1 := Lib.hid (show y0.rangeAt g (i * 12) (rwC t.L[i]) from hrow i hi3)
                have HP2 := Lib.hid (show y0.rangeAt g (j * 12) (rwC t.L[j]) from hrow j hj3)
                have HQ1 := Lib.hid (show y0.rangeAt g8 (i * 12) (rwC t.L[i]) from hrow8 i hi3)
                have HQ2 := Lib.hid (show y0.rangeAt g8 (j * 12) (rwC t.L[j]) from hrow8 j hj3)
                clear hrow hrow8
                generalize t.L[i] = x at *
                generalize t.L[j] = y at *
                clear hi3 hj3
                go_wp2_with fail
                obtain ⟨S, hS⟩ : ∃ S : World → Prop, S = fun z => Keeps [] wr z := ⟨_, rfl⟩
                have HSE := Lib.hid hS
                have hSD : S wr.drew := by rw [hS]; exact (Keeps.refl _ _).drew
                have HS1 := Lib.hid (fun (w' : World) (h : S w') => show w'.rangeAt g (i * 12) (rwC x) from by rw [hS] at h; exact fun q u hq => (HKJ.out.trans h (FSub.refl _ _)).cell (HP1.out q u hq) (by simp))
                have HS2 := Lib.hid (fun (w' : World) (h : S w') => show w'.rangeAt g (j * 12) (rwC y) from by rw [hS] at h; exact fun q u hq => (HKJ.out.trans h (FSub.refl _ _)).cell (HP2.out q u hq) (by simp))
                have HS3 := Lib.hid (fun (w' : World) (h : S w') => show w'.rangeAt g8 (i * 12) (rwC x) from by rw [hS] at h; exact fun q u hq => (HKJ.out.trans h (FSub.refl _ _)).cell (HQ1.out q u hq) (by simp))
                have HS4 := Lib.hid (fun (w' : World) (h : S w') => show w'.rangeAt g8 (j * 12) (rwC y) from by rw [hS] at h; exact fun q u hq => (HKJ.out.trans h (FSub.refl _ _)).cell (HQ2.out q u hq) (by simp))
                have HS5 := Lib.hid (fun (w' : World) (h : S w') => show w'.cell? ⟨b, 0, none⟩ = some (.slice (some ⟨g8, 0, none⟩) n vc) from by rw [hS] at h; exact (HKJ.out.trans h (FSub.refl _ _)).cell HB0.out (by simp))
                clear hS
                refine wp_region_noPanic ?_
                refine wp_region_held_drew (S := S) (by kernel_rfl) hSD (fun hHeld => ?_)
                apply wpAnyH_take (i := 0)
                · simp only [List.getElem?_toArray]; rfl
                · kernel_rfl
                · kernel_rfl
                · kernel_rfl
                · exact fun _ _ _ h => h
                · exact Or.inl ⟨by rfl, by intro w hSw; go_simp; try with_reducible rfl⟩
                · assumption
                try simp only [Act.put, List.setIfInBounds_toArray, List.set_cons_zero, List.set_cons_succ]
                apply wpAnyH_take (i := 1)
                · simp only [List.getElem?_toArray]; rfl
                · kernel_rfl
                · kernel_rfl
                · kernel_rfl
                · exact fun _ _ _ h => h
                · exact Or.inl ⟨by rfl, by intro w hSw; go_simp; try with_reducible rfl⟩
                · assumption
                try simp only [Act.put, List.setIfInBounds_toArray, List.set_cons_zero, List.set_cons_succ]
                apply wpAnyH_take (i := 2)
                · simp only [List.getElem?_toArray]; rfl
                · kernel_rfl
                · kernel_rfl
                · kernel_rfl
                · exact fun _ _ _ h => h
                · exact Or.inl ⟨by rfl, by intro w hSw; go_simp; try with_reducible rfl⟩
                · assumption
                try simp only [Act.put, List.setIfInBounds_toArray, List.set_cons_zero, List.set_cons_succ]
                apply wpAnyH_take (i := 3)
                · simp only [List.getElem?_toArray]; rfl
                · kernel_rfl
                · kernel_rfl
                · kernel_rfl
                · exact fun _ _ _ h => h
                · exact yields_rowP x (by rfl) _ rfl g (i * 12) rfl HS1.out
                · assumption
                try simp only [Act.put, List.setIfInBounds_toArray, List.set_cons_zero, List.set_cons_succ]
                apply wpAnyH_take (i := 4)
                · simp only [List.getElem?_toArray]; rfl
                · kernel_rfl
                · kernel_rfl
                · kernel_rfl
                · exact fun _ _ _ h => h
                · exact Or.inl ⟨by rfl, by intro w hSw; go_simp; try with_reducible rfl⟩
                · assumption
                try simp only [Act.put, List.setIfInBounds_toArray, List.set_cons_zero, List.set_cons_succ]
                apply wpAnyH_take (i := 5)
                · simp only [List.getElem?_toArray]; rfl
                · kernel_rfl
                · kernel_rfl
                · kernel_rfl
                · exact fun _ _ _ h => h
                · exact Or.inl ⟨by rfl, by intro w hSw; go_simp; try with_reducible rfl⟩
                · assumption
                try simp only [Act.put, List.setIfInBounds_toArray, List.set_cons_zero, List.set_cons_succ]
                apply wpAnyH_take (i := 6)
                · simp only [List.getElem?_toArray]; rfl
                · kernel_rfl
                · kernel_rfl
                · kernel_rfl
                · exact fun _ _ _ h => h
                · exact Or.inl ⟨by rfl, by intro w hSw; go_simp; try with_reducible rfl⟩
                · assumption
                try simp only [Act.put, List.setIfInBounds_toArray, List.set_cons_zero, List.set_cons_succ]
                apply wpAnyH_take (i := 7)
                · simp only [List.getElem?_toArray]; rfl
                · kernel_rfl
                · kernel_rfl
                · kernel_rfl
                · exact fun _ _ _ h => h
                · exact yields_rowP y (by rfl) _ rfl g (j * 12) rfl HS2.out
                · assumption
                try simp only [Act.put, List.setIfInBounds_toArray, List.set_cons_zero, List.set_cons_succ]
                apply wpAnyH_take (i := 9)
                · simp only [List.getElem?_toArray]; rfl
                · kernel_rfl
                · kernel_rfl
                · kernel_rfl
                · exact fun _ _ _ h => h
                · exact Or.inl ⟨by rfl, by intro w hSw; go_simp; try with_reducible rfl⟩
                · assumption
                try simp only [Act.put, List.setIfInBounds_toArray, List.set_cons_zero, List.set_cons_succ]
                apply wpAnyH_take (i := 10)
                · simp only [List.getElem?_toArray]; rfl
                · kernel_rfl
                · kernel_rfl
                · kernel_rfl
                · exact fun _ _ _ h => h
                · exact Or.inl ⟨by rfl, by intro w hSw; go_simp; try with_reducible rfl⟩
                · assumption
                try simp only [Act.put, List.setIfInBounds_toArray, List.set_cons_zero, List.set_cons_succ]
                apply wpAnyH_take (i := 11)
                · simp only [List.getElem?_toArray]; rfl
                · kernel_rfl
                · kernel_rfl
                · kernel_rfl
                · exact fun _ _ _ h => h
                · exact Or.inl ⟨by rfl, by intro w hSw; go_simp; try with_reducible rfl⟩
                · assumption
                try simp only [Act.put, List.setIfInBounds_toArray, List.set_cons_zero, List.set_cons_succ]
                apply wpAnyH_take (i := 12)
                · simp only [List.getElem?_toArray]; rfl
                · kernel_rfl
                · kernel_rfl
                · kernel_rfl
                · exact fun _ _ _ h => h
                · exact Or.inl ⟨by rfl, by intro w hSw; have q0 := HS5.out w hSw; go_simp; try with_reducible rfl⟩
                · assumption
                try simp only [Act.put, List.setIfInBounds_toArray, List.set_cons_zero, List.set_cons_succ]
                apply wpAnyH_take (i := 13)
                · simp only [List.getElem?_toArray]; rfl
                · kernel_rfl
                · kernel_rfl
                · kernel_rfl
                · exact fun _ _ _ h => h
                · exact Or.inl ⟨by rfl, by intro w hSw; go_simp; try with_reducible rfl⟩
                · assumption
                try simp only [Act.put, List.setIfInBounds_toArray, List.set_cons_zero, List.set_cons_succ]
                apply wpAnyH_take (i := 14)
                · simp only [List.getElem?_toArray]; rfl
                · kernel_rfl
                · kernel_rfl
                · kernel_rfl
                · exact fun _ _ _ h => h
                · exact Or.inl ⟨by rfl, by intro w hSw; go_simp; try with_reducible rfl⟩
                · assumption
                try simp only [Act.put, List.setIfInBounds_toArray, List.set_cons_zero, List.set_cons_succ]
                apply wpAnyH_take (i := 15)
                · simp only [List.getElem?_toArray]; rfl
                · kernel_rfl
                · kernel_rfl
                · kernel_rfl
                · exact fun _ _ _ h => h
                · exact yields_row8 x (by rfl) _ rfl g8 (i * 12) rfl HS3.out
                · assumption
                try simp only [Act.put, List.setIfInBounds_toArray, List.set_cons_zero, List.set_cons_succ]
                apply wpAnyH_take (i := 16)
                · simp only [List.getElem?_toArray]; rfl
                · kernel_rfl
                · kernel_rfl
                · kernel_rfl
                · exact fun _ _ _ h => h
                · exact Or.inl ⟨by rfl, by intro w hSw; go_simp; try with_reducible rfl⟩
                · assumption
                try simp only [Act.put, List.setIfInBounds_toArray, List.set_cons_zero, List.set_cons_succ]
                apply wpAnyH_take (i := 17)
                · simp only [List.getElem?_toArray]; rfl
                · kernel_rfl
                · kernel_rfl
                · kernel_rfl
                · exact fun _ _ _ h => h
                · exact Or.inl ⟨by rfl, by intro w hSw; go_simp; try with_reducible rfl⟩
                · assumption
                try simp only [Act.put, List.setIfInBounds_toArray, List.set_cons_zero, List.set_cons_succ]
                apply wpAnyH_take (i := 18)
                · simp only [List.getElem?_toArray]; rfl
                · kernel_rfl
                · kernel_rfl
                · kernel_rfl
                · exact fun _ _ _ h => h
                · exact Or.inl ⟨by rfl, by intro w hSw; go_simp; try with_reducible rfl⟩
                · assumption
                try simp only [Act.put, List.setIfInBounds_toArray, List.set_cons_zero, List.set_cons_succ]
                apply wpAnyH_take (i := 19)
                · simp only [List.getElem?_toArray]; rfl
                · kernel_rfl
                · kernel_rfl
                · kernel_rfl
                · exact fun _ _ _ h => h
                · exact Or.inl ⟨by rfl, by intro w hSw; have q0 := HS5.out w hSw; go_simp; try with_reducible rfl⟩
                · assumption
                try simp only [Act.put, List.setIfInBounds_toArray, List.set_cons_zero, List.set_cons_succ]
                apply wpAnyH_take (i := 20)
                · simp only [List.getElem?_toArray]; rfl
                · kernel_rfl
                · kernel_rfl
                · kernel_rfl
                · exact fun _ _ _ h => h
                · exact Or.inl ⟨by rfl, by intro w hSw; go_simp; try with_reducible rfl⟩
                · assumption
                try simp only [Act.put, List.setIfInBounds_toArray, List.set_cons_zero, List.set_cons_succ]
                apply wpAnyH_take (i := 21)
                · simp only [List.getElem?_toArray]; rfl
                · kernel_rfl
                · kernel_rfl
                · kernel_rfl
                · exact fun _ _ _ h => h
                · exact Or.inl ⟨by rfl, by intro w hSw; go_simp; try with_reducible rfl⟩
                · assumption
                try simp only [Act.put, List.setIfInBounds_toArray, List.set_cons_zero, List.set_cons_succ]
                apply wpAnyH_take (i := 22)
                · simp only [List.getElem?_toArray]; rfl
                · kernel_rfl
                · kernel_rfl
                · kernel_rfl
                · exact fun _ _ _ h => h
                · exact yields_row8 y (by rfl) _ rfl g8 (j * 12) rfl HS4.out
                · assumption
                try simp only [Act.put, List.setIfInBounds_toArray, List.set_cons_zero, List.set_cons_succ]
                apply wpAnyH_ready (rs := [8])
                · kernel_rfl
                · simp
                apply AllReadyH.cons (hs := AllReadyH.nil)
                · simp only [List.getElem?_toArray]; rfl
                intro K hK
                rw [if_pos (by rfl)]
                refine wp_call8 22 _ _ rfl [.agg (rwC x).toArray, .agg (rwC y).toArray] rfl Try.func22 (by kernel_rfl) (by kernel_rfl) ((tbBefore_any wr.drew x y).mono ?_)
                rintro e z1 ⟨rfl, hk⟩
                refine ⟨_, rfl, ?_⟩
                have HZ1 := Lib.hid ((Keeps.refl [] wr).drew.trans hk (FSub.refl _ _))
                clear hk
                refine hK.out _ _ ?_ (fun hHeld => ?_)
                · exact (by rw [HSE.out]; exact HZ1.out)
                clear hK K
                try simp only [Act.put, List.setIfInBounds_toArray, List.set_cons_zero, List.set_cons_succ]
                apply wpAnyH_ready (rs := [23])
                · kernel_rfl
                · simp
                apply AllReadyH.cons (hs := AllReadyH.nil)
                · simp only [List.getElem?_toArray]; rfl
                intro K hK
                rw [if_pos (by rfl)]
                refine wp_call8 23 _ _ rfl [.agg (rwC x).toArray, .agg (rwC y).toArray] rfl Try.func23 (by kernel_rfl) (by kernel_rfl) ((r8Before_any z1 x y).mono ?_)
                rintro e z2 ⟨rfl, hk⟩
                refine ⟨_, rfl, ?_⟩
                have HZ2 := Lib.hid (HZ1.out.trans hk (FSub.refl _ _))
                clear hk
                refine hK.out _ _ ?_ (fun hHeld => ?_)
                · exact (by rw [HSE.out]; exact HZ2.out)
                clear hK K
                try simp only [Act.put, List.setIfInBounds_toArray, List.set_cons_zero, List.set_cons_succ]
                apply wpAnyH_take (i := 24)
                · simp only [List.getElem?_toArray]; rfl
                · kernel_rfl
                · kernel_rfl
                · kernel_rfl
                · exact fun _ _ _ h => h
                · exact Or.inl ⟨by rfl, by intro w hSw; go_simp; try with_reducible rfl⟩
                · assumption
                try simp only [Act.put, List.setIfInBounds_toArray, List.set_cons_zero, List.set_cons_succ]
                refine wpAnyH_done (by kernel_rfl) ?_ _
                refine NoPanic.normal ?_
                have HFIN := Lib.hid (HKJ.out.trans HZ2.out (FSub.refl _ _))
                clear hHeld hSD HS1 HS2 HS3 HS4 HS5 HSE HZ1 HZ2 HP1 HP2 HQ1 HQ2 HKJ
                go_wp2_with fail
                go_roundw
                case rel => exact ⟨j + 1, by go_num, by omega, HFIN.out⟩
                case measure => simp [intOf]; omega
              · obtain rfl : j = n := by omega
                clear hj hjl
                go_wp2_with fail
                go_roundw
                case rel => exact ⟨i + 1, by go_num, by omega, HKJ.out⟩
                case measure => simp [intOf]; omega
          · obtain rfl : i = n := by omega
            clear hi hil
            go_wp2_with fail
            have HLV2 := Lib.hid (HLV.out.keeps HKI.out (by simp))
            have HDE := Lib.hid (HD0.out.new HKI.out)
            clear HLV HD0 HKI HB0
            go_loopw [15] (fun j wq => ∃ (m : Nat) (L' : List Rw) (N0 : Nat), j = .int .i64 m ∧ m ≤ i ∧ L'.length = i ∧ rkP.Own N0 wq (.slice la i lc) L' ∧ Keeps (own (.slice la i lc)) wr wq) (fun j _ => i - (intOf j).toNat)
            case atStart => exact ⟨0, t.L, _, rfl, by omega, HNN.out, HLV2.out, Keeps.refl _ _⟩
            case round =>
              obtain ⟨j, L', N0, rfl, hj, hL', hown, hkj⟩ := hrel
              have HOWN := Lib.hid hown; have HKJ := Lib.hid hkj
              clear hkj
              by_cases hjl : j < i
              · have hjl2 : (j : Int) < i := by omega
                have hj3 : j < L'.length := by omega
                obtain ⟨g, cap, hg, -, -, -, -, -⟩ := hown.at (fun e => by rw [e] at hj3; simp at hj3)
                simp only [Value.slice.injEq] at hg
                obtain ⟨rfl, -, rfl⟩ := hg
                have HHOLD := Lib.hid (show ∀ c, c < 12 → (wr.cell? ⟨g, j * 12 + c, none⟩).isSome = true ∧ wr.frozen? ⟨g, j * 12 + c, none⟩ = false from fun c hc => RK.Own.there hown j hj3 c hc)
                have hset : rkP.Own N0 (wr.setCells g (j * 12) (rwC rwZero)) (.slice (some ⟨g, 0, none⟩) i lc) (L'.set j rwZero) := by
                  have h := hown
                  rw [← hL'] at h ⊢
                  exact RK.Own.set h j hj3 rwZero
                have HSET := Lib.hid hset
                have HKS := Lib.hid (Keeps.setCellsQ (F := own (.slice (some ⟨g, 0, none⟩) i lc)) (g := g) (by simp [own, Value.ownBlock]) (rwC rwZero) (j * 12) HKJ.out)
                clear hown hset hj3
                go_wp2_with (first | ((with_reducible refine wpList_storeP (g := g) (off := j * 12) (y := rwZero) ?_ ?_ HHOLD.out ?_); exact rfl; exact rfl))
                go_roundw
                case rel => exact ⟨j + 1, L'.set j rwZero, N0, by go_num, by omega, by rw [List.length_set]; exact hL', HSET.out, HKS.out⟩
                case measure => simp [intOf]; omega
              · obtain rfl : j = i := by omega
                have HEND := Lib.hid (HDE.out.far HKJ.out HFAR.out)
                clear HOWN hown HKJ HDE hj hjl
                have HSAME := Lib.hid (HEND.out.rows (by have := HNN.out; omega))
                go_wp2_with fail
                refine (HSAME.out).mono ?_; rintro e z1 ⟨rfl, hk⟩
                have HK1 := Lib.hid (HEND.out.k.trans hk (FSub.refl _ _))
                have HW := Lib.hid (works_true z1)
                clear hk HSAME HEND
                go_wp2_with fail
                refine (HW.out).mono ?_; rintro e z2 ⟨rfl, hk⟩
                have HK2 := Lib.hid (HK1.out.trans hk (FSub.refl _ _))
                clear hk HW HK1
                go_wp2_with fail
                go_ret
                exact ⟨rfl, HK2.out⟩
end Go.Proofs.Ytjiglbjpmclncaa
