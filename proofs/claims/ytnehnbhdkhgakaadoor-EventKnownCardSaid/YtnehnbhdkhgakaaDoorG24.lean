/-
  What is read of an event: an operation; a micro.
-/
import Derived.Test.YtnehnbhdkhgakaaDoorG20
import Derived.Test.YtnehnbhdkhgakaaDoorG23
import Derived.Test.YtnehnbhdkhgakaaDoorG17
set_option linter.unusedSimpArgs false
set_option linter.unusedVariables false
namespace Go.Proofs.YtnehnbhdkhgakaaDoor
open Go.RowKit
/-- The bytes that are left. -/
def restL (L : List UInt8) (e : Int) (p : Nat) : List UInt8 := if e = 0 then L.drop p else []
theorem restL_len (L : List UInt8) (e : Int) (p : Nat) : (restL L e p).length ≤ L.length := by unfold restL; split <;> simp
theorem rest_raw (L : List UInt8) (e : Int) (p : Nat) (hp : p ≤ L.length) : strOfNums (rdRaw (((nb L).length : Int) - p).toNat (nb L) e p) = bs (restL L e p) := by
  rw [nb_length]
  unfold rdRaw restL
  have e1 : ((L.length : Int) - p).toNat = L.length - p := by omega
  rw [e1, nb_length]
  by_cases h : e = 0
  · rw [if_pos ⟨h, by omega⟩, if_pos h, ← str_nb]
    congr 1
    unfold nb
    rw [← List.map_drop, List.take_of_length_le (by simp)]
  · rw [if_neg (fun g => h g.1), if_neg h]; rfl
theorem Glob4.rdg {w W : World} (h : Glob4 w) {b r : Nat} (hk : Keeps [b, r] w W) (hb : 0 ≠ b) (hr : 0 ≠ r) : Glob4 W := by
  obtain ⟨t, fr, hw⟩ := h.kinds
  exact ⟨t, fr, hk.heap hw (by simp [hb, hr])⟩
set_option maxHeartbeats 8000000 in
set_option maxRecDepth 100000 in
theorem readInvoke_any (w0 w : World) (hG : Glob4 w0) (b r g cap p : Nat) (hb0 : 0 ≠ b) (hr0 : 0 ≠ r) (L : List UInt8) (hL : L.length ≤ 2500) (e : Int) (x : Ev) (tx rd : Value) (h : Rdg b r g cap (nb L) w0 w e p x tx rd) (hx : InU8 (nb L)) :
    Calls Tryd.prog 36 #[.pointer (some ⟨r, 0, none⟩), .pointer (some ⟨b, 0, none⟩)] w fun z W => ∃ e' p', RPost b r g cap (nb L) w0 (tkErr (nb (restL L (whE (nb L) e p) (whP (nb L) e p)))) e' p'
      { x with c := whC (nb L) e p, id := whI (nb L) e p, o := tkX (nb (restL L (whE (nb L) e p) (whP (nb L) e p))) } tx rd z W := by
  have hl : (nb L).length ≤ 1000000 := by rw [nb_length]; omega
  have h1 := readWho_any w0 w b r g cap p (nb L) e x tx rd h hx hl
  generalize whE (nb L) e p = e1 at *
  generalize whP (nb L) e p = p1 at *
  generalize whC (nb L) e p = cc at *
  generalize whI (nb L) e p = ii at *
  have h2 := fun w h => Left_any w r g cap p1 (nb L) e1 h hl
  have h3 := fun w h => RRaw_any w r g cap p1 (nb L) e1 h hl (((nb L).length : Int) - p1)
  have h4 := fun w hG => Take4_any w hG (restL L e1 p1) (by have := restL_len L e1 p1; omega)
  have hrw := fun h => rest_raw L e1 p1 h
  generalize restL L e1 p1 = RL at *
  generalize bs RL = RS at *
  generalize hx4 : tkX (nb RL) = X at *
  clear hx4
  obtain ⟨tf, to, tk, ta, tb⟩ := X
  simp only [Opn.val] at h4
  generalize tkErr (nb RL) = ee at *
  generalize bs (tkRest RL) = RR at *
  have hq1 : (nb L).length = L.length := nb_length L
  have H1 := Lib.hid h1; have H2 := Lib.hid h2; have H3 := Lib.hid h3; have H4 := Lib.hid h4; have HRW := Lib.hid hrw; have HQ1 := Lib.hid hq1; clear h h1 h2 h3 h4 hx hrw hq1
  generalize hNL : (((nb L).length : Int) - p1) = NL at *
  have HNL := Lib.hid hNL; clear hNL
  go_enter Tryd.func36, Tryd.ntmps36
  go_wp2_with fail
  refine H1.out.mono ?_; rintro z w1 ⟨rfl, hr1⟩
  have R1 := Lib.hid hr1
  clear H1 hr1
  go_wp2_with fail
  have hp1 : p1 ≤ L.length := by have := R1.out.rd.le; have := HQ1.out; omega
  have HS := Lib.hid (HRW.out hp1)
  clear HRW hp1
  refine (H2.out _ R1.out.rd).mono ?_; rintro z w2 ⟨rfl, n2, rfl⟩
  have R2 := Lib.hid (R1.out.news ((Keeps.refl [] w1).drewN n2))
  clear R1 H2
  generalize w1.drewN n2 = w2 at *
  go_wp2_with fail
  refine (H3.out _ R2.out.rd).mono ?_; rintro z w3 ⟨rfl, hr3, hk3⟩
  have R3 := Lib.hid (R2.out.reads hr3 hk3)
  clear R2 H3 hr3 hk3
  rw [HS.out]
  go_wp2_with fail
  refine (H4.out _ (hG.rdg R3.out.keeps hb0 hr0)).mono ?_; rintro z w4 ⟨rfl, hk4⟩
  have R4 := Lib.hid (R3.out.news hk4)
  clear R3 H4 hk4
  go_wp2_with ((with_reducible apply wpList_put_op); exact rfl; exact rfl; exact R4.out.ev)
  intro W5 hb5 hk5
  have R5 := Lib.hid (R4.out.puts hb5 hk5)
  clear R4 hb5 hk5
  go_wp2_with fail
  go_ret
  exact ⟨_, _, rfl, R5.out⟩
/-- A micro, and where the reader stands behind it. -/
def miM (xs : List Int) (s : Int × Nat) : Mic := if 128 ≤ vl 1 xs s then ⟨true, vl 1 xs s - 128, 0⟩ else ⟨false, vl 1 xs s, vl 2 xs (st 1 xs s)⟩
def miS (xs : List Int) (s : Int × Nat) : Int × Nat := if 128 ≤ vl 1 xs s then st 1 xs s else st 2 xs (st 1 xs s)
def micC (m : Mic) : Array Value := #[.bool m.rd, .int .u8 m.key, .int .u16 m.v]
theorem results_mic {fn : Func} {p : Tmp} (h : fn.results = #[.cell p 34]) (tmps : Array Value) (w : World) (b : Nat) {cs : Array Value} {t : TypeId} (hc : cs.size = 3)
    (hp : tmps.getD p undef = .pointer (some ⟨b, 0, none⟩)) (hb : w.heap[b]? = some (.cells cs t (0, 0))) : (results fn tmps).run Tryd.prog w = .ok (.agg cs) w :=
  results_cell_row h tmps w b t _ _ _ hp hb Tryd.underlying34 rfl (by rw [hc]; kernel_rfl)
set_option maxHeartbeats 8000000 in
set_option maxRecDepth 100000 in
theorem readMicro_any (w : World) (r g cap : Nat) (s : Int × Nat) (xs : List Int) (h : RAt w r g cap xs s.1 s.2) (hgl : g < w.heap.size) (hx : InU8 xs) (hl : xs.length ≤ 1000000) :
    Calls Tryd.prog 71 #[.pointer (some ⟨r, 0, none⟩)] w fun z W => z = .returned (.agg (micC (miM xs s))) ∧ RAt W r g cap xs (miS xs s).1 (miS xs s).2 ∧ Keeps [r] w W := by
  have hk0 := (Keeps.refl [] w).alloc (.cells #[.bool false, .int .u8 0, .int .u16 0] 34)
  have hR0 := h.keeps hk0 (by simp) (by simp)
  have hb0 := heap_alloc_new w (.cells #[.bool false, .int .u8 0, .int .u16 0] 34)
  have h1 := RU8_any _ r g cap s.2 xs s.1 hR0 hx hl
  have f1 : rdErr 1 xs s.1 s.2 = (st 1 xs s).1 := rfl
  have f2 : rdPos 1 xs s.1 s.2 = (st 1 xs s).2 := rfl
  have f3 : rdVal 1 xs s.1 s.2 = vl 1 xs s := rfl
  rw [f1, f2, f3] at h1
  have a1 : 0 ≤ vl 1 xs s ∧ vl 1 xs s < 256 := rdVal1_b hx _ _
  have hrl : r < w.heap.size := lt_of_block h.blk
  unfold miM miS
  generalize vl 1 xs s = v1 at *
  generalize st 1 xs s = s1 at *
  have h2 := fun w h => RU16_any w r g cap s1.2 xs s1.1 h hx hl
  have f1 : rdErr 2 xs s1.1 s1.2 = (st 2 xs s1).1 := rfl
  have f2 : rdPos 2 xs s1.1 s1.2 = (st 2 xs s1).2 := rfl
  have f3 : rdVal 2 xs s1.1 s1.2 = vl 2 xs s1 := rfl
  rw [f1, f2, f3] at h2
  have H2 := Lib.hid h2; have H1 := Lib.hid h1
  clear h1 h2 f1 f2 f3 hx hR0 h
  by_cases hv : 128 ≤ v1
  · rw [if_pos hv, if_pos hv]
    go_enter Tryd.func71, Tryd.ntmps71
    go_wp2_with fail
    refine H1.out.mono ?_; rintro z w1 ⟨rfl, hr1, hk1⟩
    have hb1 := hk1.heap hb0 (by simp; omega)
    have hK1 := (hk0.more (G := [r]) (by simp)).step hk1 (by simp)
    have HR1 := Lib.hid hr1
    clear H1 H2 hr1 hk1 hb0 hk0
    go_wp2_with ((with_reducible apply wpList_put_row (T := 34) 3); exact rfl; exact rfl; exact hb1; exact ⟨rfl, rfl⟩; kernel_rfl; exact rfl)
    intro W2 hb2 hk2
    have hz := hK1.size
    have hgz : g < w1.heap.size := by omega
    have hR2 := HR1.out.keeps hk2 (by simp; omega) (by simp; omega)
    have hK2 := hK1.trans hk2 (fun q hq => .inr (by simp at hq; omega))
    go_wp2_with fail
    try simp only [Exit.inBlock, Exit.then]
    exact bodyPost_ret (results_mic rfl _ _ _ rfl rfl hb2) rfl ⟨rfl, hR2, hK2⟩
  · rw [if_neg hv, if_neg hv]
    go_enter Tryd.func71, Tryd.ntmps71
    go_wp2_with fail
    refine H1.out.mono ?_; rintro z w1 ⟨rfl, hr1, hk1⟩
    have hb1 := hk1.heap hb0 (by simp; omega)
    have hK1 := (hk0.more (G := [r]) (by simp)).step hk1 (by simp)
    have HR1 := Lib.hid hr1
    clear H1 hr1 hk1 hb0 hk0
    go_wp2_with fail
    refine (H2.out _ HR1.out).mono ?_; rintro z w2 ⟨rfl, hr2, hk2⟩
    have hb2 := hk2.heap hb1 (by simp; omega)
    have hK2 := hK1.step hk2 (by simp)
    have HR2 := Lib.hid hr2
    clear H2 HR1 hr2 hk2 hb1 hK1
    go_wp2_with ((with_reducible apply wpList_put_row (T := 34) 3); exact rfl; exact rfl; exact hb2; exact ⟨rfl, rfl⟩; kernel_rfl; exact rfl)
    intro W3 hb3 hk3
    have hz := hK2.size
    have hR3 := HR2.out.keeps hk3 (by simp; omega) (by simp; omega)
    have hK3 := hK2.trans hk3 (fun q hq => .inr (by simp at hq; omega))
    go_wp2_with fail
    try simp only [Exit.inBlock, Exit.then]
    exact bodyPost_ret (results_mic rfl _ _ _ rfl rfl hb3) rfl ⟨rfl, hR3, hK3⟩
end Go.Proofs.YtnehnbhdkhgakaaDoor
