/-
  What is read of an event: who; an answer; a config.
-/
import Derived.IntWalk
import Derived.Test.YtnehnbhdkhgakaaDoorG17
import Derived.Test.YtnehnbhdkhgakaaDoorG19
set_option linter.unusedSimpArgs false
set_option linter.unusedVariables false
namespace Go.Proofs.YtnehnbhdkhgakaaDoor
open Go.RowKit
def whC (xs : List Int) (e : Int) (p : Nat) : Int := rdVal 1 xs e p
def whI (xs : List Int) (e : Int) (p : Nat) : Int := rdVal 2 xs (rdErr 1 xs e p) (rdPos 1 xs e p)
def whE (xs : List Int) (e : Int) (p : Nat) : Int := rdErr 2 xs (rdErr 1 xs e p) (rdPos 1 xs e p)
def whP (xs : List Int) (e : Int) (p : Nat) : Nat := rdPos 2 xs (rdErr 1 xs e p) (rdPos 1 xs e p)
/-- An event and a reader, under way: all other old blocks are as they were. -/
structure Rdg (b r g cap : Nat) (xs : List Int) (w : World) (W : World) (e : Int) (p : Nat) (x : Ev) (tx rd : Value) : Prop where
  ev : W.heap[b]? = some (.cells (evC x tx rd) 32 (0, 0))
  rd : RAt W r g cap xs e p
  keeps : Keeps [b, r] w W
  br : b ≠ r
  bg : b ≠ g
  gl : g < W.heap.size
theorem Rdg.reads {b r g cap : Nat} {xs : List Int} {w W W' : World} {e e' : Int} {p p' : Nat} {x : Ev} {tx rd : Value} (h : Rdg b r g cap xs w W e p x tx rd) (hr : RAt W' r g cap xs e' p') (hk : Keeps [r] W W') : Rdg b r g cap xs w W' e' p' x tx rd :=
  ⟨hk.heap h.ev (by simpa using h.br), hr, h.keeps.step hk (by simp), h.br, h.bg, Nat.lt_of_lt_of_le h.gl hk.size⟩
theorem Rdg.puts {b r g cap : Nat} {xs : List Int} {w W W' : World} {e : Int} {p : Nat} {x y : Ev} {tx rd tx' rd' : Value} (h : Rdg b r g cap xs w W e p x tx rd) (hy : W'.heap[b]? = some (.cells (evC y tx' rd') 32 (0, 0))) (hk : Keeps [b] W W') : Rdg b r g cap xs w W' e p y tx' rd' :=
  ⟨hy, h.rd.keeps hk (by simpa using h.br.symm) (by simpa using h.bg.symm), h.keeps.step hk (by simp), h.br, h.bg, Nat.lt_of_lt_of_le h.gl hk.size⟩
theorem Rdg.news {b r g cap : Nat} {xs : List Int} {w W W' : World} {e : Int} {p : Nat} {x : Ev} {tx rd : Value} (h : Rdg b r g cap xs w W e p x tx rd) (hk : Keeps [] W W') : Rdg b r g cap xs w W' e p x tx rd :=
  ⟨hk.heap h.ev (by simp), h.rd.keeps hk (by simp) (by simp), h.keeps.step hk (by simp), h.br, h.bg, Nat.lt_of_lt_of_le h.gl hk.size⟩
/-- What a reading of fields leaves. -/
def RPost (b r g cap : Nat) (xs : List Int) (w : World) (err : Int) (e : Int) (p : Nat) (x : Ev) (tx rd : Value) (z : Ending) (W : World) : Prop := z = .returned (.int .i64 err) ∧ Rdg b r g cap xs w W e p x tx rd
set_option maxHeartbeats 8000000 in
set_option maxRecDepth 100000 in
theorem readWho_any (w0 w : World) (b r g cap p : Nat) (xs : List Int) (e : Int) (x : Ev) (tx rd : Value) (h : Rdg b r g cap xs w0 w e p x tx rd) (hx : InU8 xs) (hl : xs.length ≤ 1000000) :
    Calls Tryd.prog 44 #[.pointer (some ⟨r, 0, none⟩), .pointer (some ⟨b, 0, none⟩)] w (RPost b r g cap xs w0 (whE xs e p) (whE xs e p) (whP xs e p) { x with c := whC xs e p, id := whI xs e p } tx rd) := by
  unfold whE whP whC whI
  have h1 := fun w h => RU8_any w r g cap p xs e h hx hl
  generalize rdErr 1 xs e p = e1 at *
  generalize rdPos 1 xs e p = p1 at *
  generalize rdVal 1 xs e p = v1 at *
  have h2 := fun w h => RU16_any w r g cap p1 xs e1 h hx hl
  generalize rdErr 2 xs e1 p1 = e2 at *
  generalize rdPos 2 xs e1 p1 = p2 at *
  generalize rdVal 2 xs e1 p1 = v2 at *
  have h3 := fun w h => Err_any w r g cap p2 xs e2 h
  have H := Lib.hid h; have H1 := Lib.hid h1; have H2 := Lib.hid h2; have H3 := Lib.hid h3; clear h h1 h2 h3 hx
  go_enter Tryd.func44, Tryd.ntmps44
  go_wp2_with fail
  refine (H1.out _ H.out.rd).mono ?_; rintro z w1 ⟨rfl, hr1, hk1⟩
  have R1 := Lib.hid (H.out.reads hr1 hk1)
  clear H H1 hr1 hk1
  go_wp2_with ((with_reducible apply wpList_put_cell (T := 5) 1 { x with c := v1 } tx rd); exact rfl; exact rfl; exact R1.out.ev; kernel_rfl; exact rfl; exact rfl; exact rfl)
  intro W2 hb2 hk2
  have R2 := Lib.hid (R1.out.puts hb2 hk2)
  clear R1 hb2 hk2
  go_wp2_with fail
  refine (H2.out _ R2.out.rd).mono ?_; rintro z w3 ⟨rfl, hr3, hk3⟩
  have R3 := Lib.hid (R2.out.reads hr3 hk3)
  clear R2 H2 hr3 hk3
  go_wp2_with ((with_reducible apply wpList_put_cell (T := 22) 2 { x with c := v1, id := v2 } tx rd); exact rfl; exact rfl; exact R3.out.ev; kernel_rfl; exact rfl; exact rfl; exact rfl)
  intro W4 hb4 hk4
  have R4 := Lib.hid (R3.out.puts hb4 hk4)
  clear R3 hb4 hk4
  go_wp2_with fail
  refine (H3.out _ R4.out.rd).mono ?_; rintro z w5 ⟨rfl, rfl⟩
  go_wp2_with fail
  go_ret
  exact ⟨rfl, R4.out⟩
set_option maxHeartbeats 8000000 in
set_option maxRecDepth 100000 in
theorem readReturn_any (w0 w : World) (b r g cap p : Nat) (xs : List Int) (e : Int) (x : Ev) (tx rd : Value) (h : Rdg b r g cap xs w0 w e p x tx rd) (hx : InU8 xs) (hl : xs.length ≤ 1000000) :
    Calls Tryd.prog 40 #[.pointer (some ⟨r, 0, none⟩), .pointer (some ⟨b, 0, none⟩)] w (RPost b r g cap xs w0 (tkE xs (whE xs e p) (whP xs e p)) (tkE2 xs (whE xs e p) (whP xs e p)) (tkP2 xs (whE xs e p) (whP xs e p))
      { x with c := whC xs e p, id := whI xs e p, rk := tkK xs (whE xs e p) (whP xs e p), rv := tkV xs (whE xs e p) (whP xs e p) } tx rd) := by
  have h1 := readWho_any w0 w b r g cap p xs e x tx rd h hx hl
  generalize whE xs e p = e1 at *
  generalize whP xs e p = p1 at *
  generalize whC xs e p = cc at *
  generalize whI xs e p = ii at *
  have h2 := fun w h hg => Take_any w r g cap p1 xs e1 h hx hl hg
  generalize tkK xs e1 p1 = kk at *
  generalize tkV xs e1 p1 = vv at *
  generalize tkE xs e1 p1 = ee at *
  generalize tkE2 xs e1 p1 = e2 at *
  generalize tkP2 xs e1 p1 = p2 at *
  have H2 := Lib.hid h2; clear h h2 hx
  go_enter Tryd.func40, Tryd.ntmps40
  go_wp2_with fail
  refine h1.mono ?_; rintro z w1 ⟨rfl, hr1⟩
  have R1 := Lib.hid hr1
  clear h1 hr1
  go_wp2_with fail
  refine (H2.out _ R1.out.rd R1.out.gl).mono ?_; rintro z w2 ⟨rfl, hr2, hk2⟩
  have R2 := Lib.hid (R1.out.reads hr2 hk2)
  clear R1 H2 hr2 hk2
  go_wp2_with ((with_reducible apply wpList_put_res); exact rfl; exact rfl; exact R2.out.ev)
  intro W3 hb3 hk3
  have R3 := Lib.hid (R2.out.puts hb3 hk3)
  clear R2 hb3 hk3
  go_wp2_with fail
  go_ret
  exact ⟨rfl, R3.out⟩
def st (W : Nat) (xs : List Int) (s : Int × Nat) : Int × Nat := (rdErr W xs s.1 s.2, rdPos W xs s.1 s.2)
def vl (W : Nat) (xs : List Int) (s : Int × Nat) : Int := rdVal W xs s.1 s.2
def bitOf (f : Int) (k : Nat) : Bool := f.toNat / 2 ^ k % 2 == 1
/-- A config, and where the reader stands behind it. -/
def cfG (xs : List Int) (s : Int × Nat) : Cfg :=
  ⟨vl 1 xs s, vl 1 xs (st 1 xs (st 1 xs s)), vl 2 xs (st 1 xs (st 1 xs (st 1 xs s))), vl 4 xs (st 2 xs (st 1 xs (st 1 xs (st 1 xs s)))),
    bitOf (vl 1 xs (st 1 xs s)) 0, bitOf (vl 1 xs (st 1 xs s)) 1, bitOf (vl 1 xs (st 1 xs s)) 2⟩
def cfS (xs : List Int) (s : Int × Nat) : Int × Nat := st 4 xs (st 2 xs (st 1 xs (st 1 xs (st 1 xs s))))
theorem bit_all : ∀ n : Fin 256, ((bits BinOp.and IntKind.u8 (n.val : Int) 1 != 0) = bitOf n.val 0) ∧ ((bits BinOp.and IntKind.u8 (n.val : Int) 2 != 0) = bitOf n.val 1) ∧ ((bits BinOp.and IntKind.u8 (n.val : Int) 4 != 0) = bitOf n.val 2) := by decide +kernel
theorem bit_of {f : Int} (h0 : 0 ≤ f) (h1 : f < 256) : (bits BinOp.and IntKind.u8 f 1 != 0) = bitOf f 0 ∧ (bits BinOp.and IntKind.u8 f 2 != 0) = bitOf f 1 ∧ (bits BinOp.and IntKind.u8 f 4 != 0) = bitOf f 2 := by
  obtain ⟨n, rfl⟩ := Int.eq_ofNat_of_zero_le h0
  exact bit_all ⟨n, by omega⟩
theorem rdVal4_b {xs : List Int} (hx : InU8 xs) (e : Int) (p : Nat) : 0 ≤ rdVal 4 xs e p ∧ rdVal 4 xs e p < 4294967296 := by
  unfold rdVal
  split
  · rename_i h
    rw [numOf_4 xs p h.2]
    have h0 := hx (p + 0)
    have h1 := hx (p + 1)
    have h2 := hx (p + 2)
    have h3 := hx (p + 3)
    omega
  · omega
set_option maxHeartbeats 8000000 in
set_option maxRecDepth 100000 in
theorem readConfigure_any (w0 w : World) (b r g cap p : Nat) (xs : List Int) (e : Int) (x : Ev) (tx rd : Value) (h : Rdg b r g cap xs w0 w e p x tx rd) (hx : InU8 xs) (hl : xs.length ≤ 1000000) :
    Calls Tryd.prog 32 #[.pointer (some ⟨r, 0, none⟩), .pointer (some ⟨b, 0, none⟩)] w (RPost b r g cap xs w0 (cfS xs (e, p)).1 (cfS xs (e, p)).1 (cfS xs (e, p)).2 { x with g := cfG xs (e, p) } tx rd) := by
  have h1 := fun w h => RU8_any w r g cap p xs e h hx hl
  have f1 : rdErr 1 xs e p = (st 1 xs (e, p)).1 := rfl
  have f2 : rdPos 1 xs e p = (st 1 xs (e, p)).2 := rfl
  have f3 : rdVal 1 xs e p = vl 1 xs (e, p) := rfl
  unfold cfS cfG
  rw [f1, f2, f3] at h1
  clear f1 f2 f3
  have bv1 := rdVal1_b hx
  have bv2 := rdVal2_b hx
  have a1 : 0 ≤ vl 1 xs (e, p) ∧ vl 1 xs (e, p) < 256 := bv1 _ _
  generalize vl 1 xs (e, p) = v1 at *
  generalize st 1 xs (e, p) = s1 at *
  have h2 := fun w h => RU8_any w r g cap s1.2 xs s1.1 h hx hl
  have a2 : 0 ≤ vl 1 xs s1 ∧ vl 1 xs s1 < 256 := bv1 _ _
  have f1 : rdErr 1 xs s1.1 s1.2 = (st 1 xs s1).1 := rfl
  have f2 : rdPos 1 xs s1.1 s1.2 = (st 1 xs s1).2 := rfl
  have f3 : rdVal 1 xs s1.1 s1.2 = vl 1 xs s1 := rfl
  rw [f1, f2, f3] at h2
  clear f1 f2 f3
  generalize vl 1 xs s1 = v2 at *
  generalize st 1 xs s1 = s2 at *
  have h3 := fun w h => RU8_any w r g cap s2.2 xs s2.1 h hx hl
  have a3 : 0 ≤ vl 1 xs s2 ∧ vl 1 xs s2 < 256 := bv1 _ _
  have f1 : rdErr 1 xs s2.1 s2.2 = (st 1 xs s2).1 := rfl
  have f2 : rdPos 1 xs s2.1 s2.2 = (st 1 xs s2).2 := rfl
  have f3 : rdVal 1 xs s2.1 s2.2 = vl 1 xs s2 := rfl
  rw [f1, f2, f3] at h3
  clear f1 f2 f3
  generalize vl 1 xs s2 = v3 at *
  generalize st 1 xs s2 = s3 at *
  have h4 := fun w h => RU16_any w r g cap s3.2 xs s3.1 h hx hl
  have a4 : 0 ≤ vl 2 xs s3 ∧ vl 2 xs s3 < 65536 := bv2 _ _
  have f1 : rdErr 2 xs s3.1 s3.2 = (st 2 xs s3).1 := rfl
  have f2 : rdPos 2 xs s3.1 s3.2 = (st 2 xs s3).2 := rfl
  have f3 : rdVal 2 xs s3.1 s3.2 = vl 2 xs s3 := rfl
  rw [f1, f2, f3] at h4
  clear f1 f2 f3
  generalize vl 2 xs s3 = v4 at *
  generalize st 2 xs s3 = s4 at *
  have h5 := fun w h => RU32_any w r g cap s4.2 xs s4.1 h hx hl
  have a5 : 0 ≤ vl 4 xs s4 ∧ vl 4 xs s4 < 4294967296 := rdVal4_b hx _ _
  have f1 : rdErr 4 xs s4.1 s4.2 = (st 4 xs s4).1 := rfl
  have f2 : rdPos 4 xs s4.1 s4.2 = (st 4 xs s4).2 := rfl
  have f3 : rdVal 4 xs s4.1 s4.2 = vl 4 xs s4 := rfl
  rw [f1, f2, f3] at h5
  clear f1 f2 f3
  generalize vl 4 xs s4 = v5 at *
  generalize st 4 xs s4 = s5 at *
  have h6 := fun w h => Err_any w r g cap s5.2 xs s5.1 h
  clear bv1 bv2
  obtain ⟨q1, q2, q3⟩ := bit_of a2.1 a2.2
  have q4 : IntKind.i64.wrap v3 = v3 := IntWalk.i64_in _ (by omega)
  have q5 : IntKind.i64.wrap v4 = v4 := IntWalk.i64_in _ (by omega)
  have q6 : IntKind.i64.wrap v5 = v5 := IntWalk.i64_in _ (by omega)
  have H := Lib.hid h; have H1 := Lib.hid h1; have H2 := Lib.hid h2; have H3 := Lib.hid h3; have H4 := Lib.hid h4; have H5 := Lib.hid h5; have H6 := Lib.hid h6; clear h h1 h2 h3 h4 h5 h6 hx
  go_enter Tryd.func32, Tryd.ntmps32
  go_wp2_with fail
  refine (H1.out _ H.out.rd).mono ?_; rintro z w1 ⟨rfl, hr1, hk1⟩
  have R1 := Lib.hid (H.out.reads hr1 hk1)
  clear H H1 hr1 hk1
  go_wp2_with ((with_reducible apply wpList_put_cell (T := 5) 12 { x with g := { x.g with m := v1 } } tx rd); exact rfl; exact rfl; exact R1.out.ev; kernel_rfl; exact rfl; exact rfl; exact rfl)
  intro W2 hb2 hk2
  have R2 := Lib.hid (R1.out.puts hb2 hk2)
  clear R1 hb2 hk2
  go_wp2_with fail
  refine (H2.out _ R2.out.rd).mono ?_; rintro z w3 ⟨rfl, hr3, hk3⟩
  have R3 := Lib.hid (R2.out.reads hr3 hk3)
  clear R2 H2 hr3 hk3
  go_wp2_with ((with_reducible apply wpList_put_cell (T := 4) 16 { x with g := { x.g with m := v1, p := bitOf v2 0 } } tx rd); exact rfl; exact rfl; exact R3.out.ev; kernel_rfl; exact rfl; exact rfl; exact rfl)
  intro W4 hb4 hk4
  have R4 := Lib.hid (R3.out.puts hb4 hk4)
  clear R3 hb4 hk4
  go_wp2_with ((with_reducible apply wpList_put_cell (T := 4) 17 { x with g := { x.g with m := v1, p := bitOf v2 0, cu := bitOf v2 1 } } tx rd); exact rfl; exact rfl; exact R4.out.ev; kernel_rfl; exact rfl; exact rfl; exact rfl)
  intro W5 hb5 hk5
  have R5 := Lib.hid (R4.out.puts hb5 hk5)
  clear R4 hb5 hk5
  go_wp2_with ((with_reducible apply wpList_put_cell (T := 4) 18 { x with g := { x.g with m := v1, p := bitOf v2 0, cu := bitOf v2 1, me := bitOf v2 2 } } tx rd); exact rfl; exact rfl; exact R5.out.ev; kernel_rfl; exact rfl; exact rfl; exact rfl)
  intro W6 hb6 hk6
  have R6 := Lib.hid (R5.out.puts hb6 hk6)
  clear R5 hb6 hk6
  go_wp2_with fail
  refine (H3.out _ R6.out.rd).mono ?_; rintro z w7 ⟨rfl, hr7, hk7⟩
  have R7 := Lib.hid (R6.out.reads hr7 hk7)
  clear R6 H3 hr7 hk7
  go_wp2_with ((with_reducible apply wpList_put_cell (T := 3) 13 { x with g := { x.g with m := v1, p := bitOf v2 0, cu := bitOf v2 1, me := bitOf v2 2, mo := v3 } } tx rd); exact rfl; exact rfl; exact R7.out.ev; kernel_rfl; exact rfl; exact rfl; exact rfl)
  intro W8 hb8 hk8
  have R8 := Lib.hid (R7.out.puts hb8 hk8)
  clear R7 hb8 hk8
  go_wp2_with fail
  refine (H4.out _ R8.out.rd).mono ?_; rintro z w9 ⟨rfl, hr9, hk9⟩
  have R9 := Lib.hid (R8.out.reads hr9 hk9)
  clear R8 H4 hr9 hk9
  go_wp2_with ((with_reducible apply wpList_put_cell (T := 3) 14 { x with g := { x.g with m := v1, p := bitOf v2 0, cu := bitOf v2 1, me := bitOf v2 2, mo := v3, ms := v4 } } tx rd); exact rfl; exact rfl; exact R9.out.ev; kernel_rfl; exact rfl; exact rfl; exact rfl)
  intro W10 hb10 hk10
  have R10 := Lib.hid (R9.out.puts hb10 hk10)
  clear R9 hb10 hk10
  go_wp2_with fail
  refine (H5.out _ R10.out.rd).mono ?_; rintro z w11 ⟨rfl, hr11, hk11⟩
  have R11 := Lib.hid (R10.out.reads hr11 hk11)
  clear R10 H5 hr11 hk11
  go_wp2_with ((with_reducible apply wpList_put_cell (T := 3) 15 { x with g := { x.g with m := v1, p := bitOf v2 0, cu := bitOf v2 1, me := bitOf v2 2, mo := v3, ms := v4, mt := v5 } } tx rd); exact rfl; exact rfl; exact R11.out.ev; kernel_rfl; exact rfl; exact rfl; exact rfl)
  intro W12 hb12 hk12
  have R12 := Lib.hid (R11.out.puts hb12 hk12)
  clear R11 hb12 hk12
  go_wp2_with fail
  refine (H6.out _ R12.out.rd).mono ?_; rintro z w13 ⟨rfl, rfl⟩
  go_wp2_with fail
  go_ret
  exact ⟨rfl, R12.out⟩
end Go.Proofs.YtnehnbhdkhgakaaDoor
