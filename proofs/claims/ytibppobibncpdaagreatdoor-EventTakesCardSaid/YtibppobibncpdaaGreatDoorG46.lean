/-
  The document's reading of a config.
-/
import Derived.Test.YtibppobibncpdaaGreatDoorG44
import Derived.Test.YtibppobibncpdaaGreatDoorG45
set_option linter.unusedSimpArgs false
set_option linter.unusedVariables false
namespace Go.Proofs.YtibppobibncpdaaGreatDoor
open Go.RowKit
theorem st_le {W : Nat} {xs : List Int} {s : Int × Nat} (h : s.2 ≤ xs.length) : (st W xs s).2 ≤ xs.length := rdPos_le h
theorem qNum (w : World) (q : Nat) (xs : List Int) (s : Int × Nat) (h : QAt w q xs s.1 s.2) (hx : InU8 xs) (hp : s.2 ≤ xs.length) (hl : xs.length ≤ 1000000) (W : Nat) (hW : W ≤ 4) :
    Calls Tryz.prog 35 #[.pointer (some ⟨q, 0, none⟩), .int .i64 W] w fun z w' => z = .returned (.int .u32 (vl W xs s)) ∧ QAt w' q xs (st W xs s).1 (st W xs s).2 ∧ Keeps [q] w w' :=
  qNumber_any w q s.2 xs s.1 h hx hp hl W hW
theorem bit0_is {f : Int} (h : 0 ≤ f) : bitOf f 0 = (f % 2 == 1) := by
  obtain ⟨n, rfl⟩ := Int.eq_ofNat_of_zero_le h
  unfold bitOf
  rw [Bool.eq_iff_iff]
  simp
  omega
theorem bit1_is {f : Int} (h : 0 ≤ f) : bitOf f 1 = (f / 2 % 2 == 1) := by
  obtain ⟨n, rfl⟩ := Int.eq_ofNat_of_zero_le h
  unfold bitOf
  rw [Bool.eq_iff_iff]
  simp
  omega
theorem bit2_is {f : Int} (h : 0 ≤ f) : bitOf f 2 = (f / 4 % 2 == 1) := by
  obtain ⟨n, rfl⟩ := Int.eq_ofNat_of_zero_le h
  unfold bitOf
  rw [Bool.eq_iff_iff]
  simp
  omega
theorem qNum1 (w : World) (q : Nat) (xs : List Int) (s : Int × Nat) (h : QAt w q xs s.1 s.2) (hx : InU8 xs) (hp : s.2 ≤ xs.length) (hl : xs.length ≤ 1000000) :
    Calls Tryz.prog 35 #[.pointer (some ⟨q, 0, none⟩), .int .i64 1] w fun z w' => z = .returned (.int .u32 (vl 1 xs s)) ∧ QAt w' q xs (st 1 xs s).1 (st 1 xs s).2 ∧ Keeps [q] w w' := qNum w q xs s h hx hp hl 1 (by omega)
theorem qNum2 (w : World) (q : Nat) (xs : List Int) (s : Int × Nat) (h : QAt w q xs s.1 s.2) (hx : InU8 xs) (hp : s.2 ≤ xs.length) (hl : xs.length ≤ 1000000) :
    Calls Tryz.prog 35 #[.pointer (some ⟨q, 0, none⟩), .int .i64 2] w fun z w' => z = .returned (.int .u32 (vl 2 xs s)) ∧ QAt w' q xs (st 2 xs s).1 (st 2 xs s).2 ∧ Keeps [q] w w' := qNum w q xs s h hx hp hl 2 (by omega)
theorem qNum4 (w : World) (q : Nat) (xs : List Int) (s : Int × Nat) (h : QAt w q xs s.1 s.2) (hx : InU8 xs) (hp : s.2 ≤ xs.length) (hl : xs.length ≤ 1000000) :
    Calls Tryz.prog 35 #[.pointer (some ⟨q, 0, none⟩), .int .i64 4] w fun z w' => z = .returned (.int .u32 (vl 4 xs s)) ∧ QAt w' q xs (st 4 xs s).1 (st 4 xs s).2 ∧ Keeps [q] w w' := qNum w q xs s h hx hp hl 4 (by omega)
/-- The cells of a config. -/
def cfC (g : Cfg) : Array Value := #[.int .u8 g.m, .int .i64 g.mo, .int .i64 g.ms, .int .i64 g.mt, .bool g.p, .bool g.cu, .bool g.me]
section
variable {ops : Array Oper} {rest : List Oper} {a : Act} {w : World} {Q : Exit → Act → World → Prop}
theorem wpList_put_cfg {dst : Option Tmp} {T ty : TypeId} {pos : String} {after : Array Edge} {x y : Operand} {b : Nat} {e : Cfg} {t : TypeId} {v : Value} (i : Nat) (e' : Cfg)
    (hx : a.eval x = .pointer (some ⟨b, i, none⟩)) (hy : a.eval y = v) (hg : w.heap[b]? = some (.cells (cfC e) t (0, 0))) (hi : (Tryz.prog.info? T).map (·.size) = some 1) (h1 : v.oneCell' = true)
    (hc : ((cfC e)[i]?).isSome = true) (hs : (cfC e).setIfInBounds i v = cfC e')
    (h : ∀ W, W.heap[b]? = some (.cells (cfC e') t (0, 0)) → Keeps [b] w W → wpList Tryz.prog ops Q rest (a.put dst undef) W) :
    wpList Tryz.prog ops Q ({ dst := dst, op := .store T x y, type := ty, pos := pos, after := after, guard := none } :: rest) a w := by
  have hcell : (w.cell? ⟨b, i, none⟩).isSome = true := by
    cases hq : (cfC e)[i]? with
    | none => rw [hq] at hc; cases hc
    | some u => simp [World.cell?, hg, hq]
  have hrun := run_put1 (P := Tryz.prog) w b i T v hi h1 hcell (by simp [World.frozen?, hg])
  refine wpList_plain rfl fun K hK => ?_
  unfold Oper.wp execOp
  simp only [hx, hy, Instr.storeAt, Instr.sureAddr, Sem.run_bind, Sem.run_pure, Result.andThen_ok, hrun]
  exact hK _ _ (h _ (by rw [heap_setCell_same w b i _ t v hg, hs]) ((Keeps.refl [b] w).own b i v))
end
section
variable {ops : Array Oper} {rest : List Oper} {a : Act} {w : World} {Q : Exit → Act → World → Prop}
theorem wpList_put_cfgrow {dst : Option Tmp} {ty : TypeId} {pos : String} {after : Array Edge} {x y : Operand} {g : Nat} {old : Array Value} {e : Cfg} {t : TypeId}
    (hx : a.eval x = .pointer (some ⟨g, 0, none⟩)) (hy : a.eval y = .agg (cfC e)) (hg : w.heap[g]? = some (.cells old t (0, 0))) (hs : old.size = 7)
    (h : ∀ W, W.heap[g]? = some (.cells (cfC e) t (0, 0)) → Keeps [g] w W → wpList Tryz.prog ops Q rest (a.put dst undef) W) :
    wpList Tryz.prog ops Q ({ dst := dst, op := .store 30 x y, type := ty, pos := pos, after := after, guard := none } :: rest) a w :=
  wpList_store_row rfl 30 x y rfl g (cfC e) hx hy t old hg (by rw [show (cfC e).size = 7 from rfl]; kernel_rfl) (by rw [hs]; rfl) (by rw [← Array.all_toList]; rfl) (h _ (setRow_heap w g old (cfC e) t (0, 0) hg) ((Keeps.refl [g] w).setRow g (cfC e) (.inl (by simp))))
theorem wpList_load_cfg {dst : Option Tmp} {ty : TypeId} {pos : String} {after : Array Edge} {x : Operand} {g : Nat} {e : Cfg} {t : TypeId} {fr : Nat × Nat}
    (hx : a.eval x = .pointer (some ⟨g, 0, none⟩)) (hg : w.heap[g]? = some (.cells (cfC e) t fr)) (h : wpList Tryz.prog ops Q rest (a.put dst (.agg (cfC e))) w) :
    wpList Tryz.prog ops Q ({ dst := dst, op := .load 30 x, type := ty, pos := pos, after := after, guard := none } :: rest) a w :=
  wpList_load_row rfl 30 x rfl g hx t (cfC e) fr _ hg Tryz.underlying30 rfl (by rw [show (cfC e).size = 7 from rfl]; kernel_rfl) h
end
theorem results_cfg {fn : Func} {p : Tmp} (h : fn.results = #[.cell p 30]) (tmps : Array Value) (w : World) (b : Nat) {e : Cfg} {t : TypeId}
    (hp : tmps.getD p undef = .pointer (some ⟨b, 0, none⟩)) (hb : w.heap[b]? = some (.cells (cfC e) t (0, 0))) : (results fn tmps).run Tryz.prog w = .ok (.agg (cfC e)) w :=
  results_cell_row h tmps w b t _ _ _ hp hb Tryz.underlying30 rfl (by rw [show (cfC e).size = 7 from rfl]; kernel_rfl)
theorem cfg_new (w : World) : (w.alloc (.cells #[.int .u8 0, .int .i64 0, .int .i64 0, .int .i64 0, .bool false, .bool false, .bool false] 30)).heap[w.heap.size]? = some (.cells (cfC cfgZero) 30) := heap_alloc_new w _
set_option maxHeartbeats 8000000 in
set_option maxRecDepth 100000 in
theorem refConfig_any (w : World) (q p : Nat) (xs : List Int) (e : Int) (h : QAt w q xs e p) (hx : InU8 xs) (hp : p ≤ xs.length) (hl : xs.length ≤ 1000000) :
    Calls Tryz.prog 36 #[.pointer (some ⟨q, 0, none⟩)] w fun z w' => z = .returned (.agg (cfC (cfG xs (e, p)))) ∧ QAt w' q xs (cfS xs (e, p)).1 (cfS xs (e, p)).2 ∧ Keeps [q] w w' := by
  have bv1 := rdVal1_b hx
  have bv2 := rdVal2_b hx
  have hqz : q < w.heap.size := lt_of_block h
  obtain ⟨s, hs⟩ : ∃ s : Int × Nat, s = (e, p) := ⟨_, rfl⟩
  have hq0 : QAt w q xs s.1 s.2 := by rw [hs]; exact h
  have hp0 : s.2 ≤ xs.length := by rw [hs]; exact hp
  rw [← hs]
  unfold cfS cfG
  have h1 := fun w h => qNum1 w q xs s h hx hp0 hl
  have hp1 : (st 1 xs s).2 ≤ xs.length := st_le hp0
  have a1 : 0 ≤ vl 1 xs s ∧ vl 1 xs s < 256 := bv1 _ _
  generalize vl 1 xs s = v1 at *
  generalize st 1 xs s = s1 at *
  have h2 := fun w h => qNum1 w q xs s1 h hx hp1 hl
  have hp2 : (st 1 xs s1).2 ≤ xs.length := st_le hp1
  have a2 : 0 ≤ vl 1 xs s1 ∧ vl 1 xs s1 < 256 := bv1 _ _
  generalize vl 1 xs s1 = v2 at *
  generalize st 1 xs s1 = s2 at *
  have h3 := fun w h => qNum1 w q xs s2 h hx hp2 hl
  have hp3 : (st 1 xs s2).2 ≤ xs.length := st_le hp2
  have a3 : 0 ≤ vl 1 xs s2 ∧ vl 1 xs s2 < 256 := bv1 _ _
  generalize vl 1 xs s2 = v3 at *
  generalize st 1 xs s2 = s3 at *
  have h4 := fun w h => qNum2 w q xs s3 h hx hp3 hl
  have hp4 : (st 2 xs s3).2 ≤ xs.length := st_le hp3
  have a4 : 0 ≤ vl 2 xs s3 ∧ vl 2 xs s3 < 65536 := bv2 _ _
  generalize vl 2 xs s3 = v4 at *
  generalize st 2 xs s3 = s4 at *
  have h5 := fun w h => qNum4 w q xs s4 h hx hp4 hl
  have a5 : 0 ≤ vl 4 xs s4 ∧ vl 4 xs s4 < 4294967296 := rdVal4_b hx _ _
  generalize vl 4 xs s4 = v5 at *
  generalize st 4 xs s4 = s5 at *
  have B0 : bitOf v2 0 = (v2 % 2 == 1) := bit0_is a2.1
  have B1 : bitOf v2 1 = (v2 / 2 % 2 == 1) := bit1_is a2.1
  have B2 : bitOf v2 2 = (v2 / 4 % 2 == 1) := bit2_is a2.1
  have w1 : v1 % 256 = v1 := Int.emod_eq_of_lt a1.1 a1.2
  obtain ⟨a10, a11⟩ := a1; obtain ⟨a20, a21⟩ := a2; obtain ⟨a30, a31⟩ := a3; obtain ⟨a40, a41⟩ := a4; obtain ⟨a50, a51⟩ := a5
  have H1 := Lib.hid h1; have H2 := Lib.hid h2; have H3 := Lib.hid h3; have H4 := Lib.hid h4; have H5 := Lib.hid h5
  rw [B0, B1, B2]
  have hk0 := Lib.hid (((Keeps.refl [q] w).alloc (.cells #[.int .u8 0, .int .i64 0, .int .i64 0, .int .i64 0, .bool false, .bool false, .bool false] 30)).alloc (.cells #[.int .u8 0, .int .i64 0, .int .i64 0, .int .i64 0, .bool false, .bool false, .bool false] 30))
  have hR := cfg_new w
  have hT := cfg_new (w.alloc (.cells #[.int .u8 0, .int .i64 0, .int .i64 0, .int .i64 0, .bool false, .bool false, .bool false] 30))
  have hR2 := heap_alloc_lt (o := .cells #[.int .u8 0, .int .i64 0, .int .i64 0, .int .i64 0, .bool false, .bool false, .bool false] 30) hR
  have hQ2 : QAt ((w.alloc (.cells #[.int .u8 0, .int .i64 0, .int .i64 0, .int .i64 0, .bool false, .bool false, .bool false] 30)).alloc (.cells #[.int .u8 0, .int .i64 0, .int .i64 0, .int .i64 0, .bool false, .bool false, .bool false] 30)) q xs s.1 s.2 := heap_alloc_lt (heap_alloc_lt hq0)
  have HQ2 := Lib.hid hQ2
  have hz : (w.alloc (.cells #[.int .u8 0, .int .i64 0, .int .i64 0, .int .i64 0, .bool false, .bool false, .bool false] 30)).heap.size = w.heap.size + 1 := by simp
  rw [hz] at hT
  clear h1 h2 h3 h4 h5 B0 B1 B2 bv1 bv2 hx hq0 h hR hs hQ2 hz
  go_enter Tryz.func36, Tryz.ntmps36
  go_wp2_with fail
  generalize (w.alloc (.cells #[.int .u8 0, .int .i64 0, .int .i64 0, .int .i64 0, .bool false, .bool false, .bool false] 30)).alloc (.cells #[.int .u8 0, .int .i64 0, .int .i64 0, .int .i64 0, .bool false, .bool false, .bool false] 30) = W0 at *
  refine (H1.out _ HQ2.out).mono ?_; rintro z wA ⟨rfl, hqA, hkA⟩
  have hTA := hkA.heap hT (by simp; omega)
  have hRA := hkA.heap hR2 (by simp; omega)
  have HKA := Lib.hid (hk0.out.trans hkA (FSub.refl _ _))
  clear hkA H1 hT hR2 hk0
  clear HQ2
  go_wp2_with ((with_reducible apply wpList_put_cfg (T := 5) 0 { cfgZero with m := v1 }); exact rfl; exact rfl; exact hTA; kernel_rfl; exact rfl; exact rfl; exact rfl)
  intro W1 hb1 hk1
  have hq1 := hqA.keep hk1 (by simp; omega)
  have hR1 := hk1.heap hRA (by simp)
  have HK1 := Lib.hid (HKA.out.trans hk1 (fun g hg => .inr (by simp at hg; omega)))
  clear hk1 HKA hTA hRA hqA
  go_wp2_with fail
  refine (H2.out _ hq1).mono ?_; rintro z wB ⟨rfl, hqB, hkB⟩
  have hTB := hkB.heap hb1 (by simp; omega)
  have hRB := hkB.heap hR1 (by simp; omega)
  have HKB := Lib.hid (HK1.out.trans hkB (FSub.refl _ _))
  clear hkB H2 hb1 hR1 HK1
  clear hq1
  go_wp2_with ((with_reducible apply wpList_put_cfg (T := 4) 4 { cfgZero with m := v1, p := (v2 % 2 == 1) }); exact rfl; exact rfl; exact hTB; kernel_rfl; exact rfl; exact rfl; exact rfl)
  intro W2 hb2 hk2
  have hq2 := hqB.keep hk2 (by simp; omega)
  have hR2 := hk2.heap hRB (by simp)
  have HK2 := Lib.hid (HKB.out.trans hk2 (fun g hg => .inr (by simp at hg; omega)))
  clear hk2 HKB hTB hRB hqB
  go_wp2_with ((with_reducible apply wpList_put_cfg (T := 4) 5 { cfgZero with m := v1, p := (v2 % 2 == 1), cu := (v2 / 2 % 2 == 1) }); exact rfl; exact rfl; exact hb2; kernel_rfl; exact rfl; exact rfl; exact rfl)
  intro W3 hb3 hk3
  have hq3 := hq2.keep hk3 (by simp; omega)
  have hR3 := hk3.heap hR2 (by simp)
  have HK3 := Lib.hid (HK2.out.trans hk3 (fun g hg => .inr (by simp at hg; omega)))
  clear hk3 HK2 hb2 hR2 hq2
  go_wp2_with ((with_reducible apply wpList_put_cfg (T := 4) 6 { cfgZero with m := v1, p := (v2 % 2 == 1), cu := (v2 / 2 % 2 == 1), me := (v2 / 4 % 2 == 1) }); exact rfl; exact rfl; exact hb3; kernel_rfl; exact rfl; exact rfl; exact rfl)
  intro W4 hb4 hk4
  have hq4 := hq3.keep hk4 (by simp; omega)
  have hR4 := hk4.heap hR3 (by simp)
  have HK4 := Lib.hid (HK3.out.trans hk4 (fun g hg => .inr (by simp at hg; omega)))
  clear hk4 HK3 hb3 hR3 hq3
  go_wp2_with fail
  refine (H3.out _ hq4).mono ?_; rintro z wC ⟨rfl, hqC, hkC⟩
  have hTC := hkC.heap hb4 (by simp; omega)
  have hRC := hkC.heap hR4 (by simp; omega)
  have HKC := Lib.hid (HK4.out.trans hkC (FSub.refl _ _))
  clear hkC H3 hb4 hR4 HK4
  clear hq4
  go_wp2_with ((with_reducible apply wpList_put_cfg (T := 3) 1 { cfgZero with m := v1, mo := v3, p := (v2 % 2 == 1), cu := (v2 / 2 % 2 == 1), me := (v2 / 4 % 2 == 1) }); exact rfl; exact rfl; exact hTC; kernel_rfl; exact rfl; exact rfl; exact rfl)
  intro W5 hb5 hk5
  have hq5 := hqC.keep hk5 (by simp; omega)
  have hR5 := hk5.heap hRC (by simp)
  have HK5 := Lib.hid (HKC.out.trans hk5 (fun g hg => .inr (by simp at hg; omega)))
  clear hk5 HKC hTC hRC hqC
  go_wp2_with fail
  refine (H4.out _ hq5).mono ?_; rintro z wD ⟨rfl, hqD, hkD⟩
  have hTD := hkD.heap hb5 (by simp; omega)
  have hRD := hkD.heap hR5 (by simp; omega)
  have HKD := Lib.hid (HK5.out.trans hkD (FSub.refl _ _))
  clear hkD H4 hb5 hR5 HK5
  clear hq5
  go_wp2_with ((with_reducible apply wpList_put_cfg (T := 3) 2 { cfgZero with m := v1, mo := v3, ms := v4, p := (v2 % 2 == 1), cu := (v2 / 2 % 2 == 1), me := (v2 / 4 % 2 == 1) }); exact rfl; exact rfl; exact hTD; kernel_rfl; exact rfl; exact rfl; exact rfl)
  intro W6 hb6 hk6
  have hq6 := hqD.keep hk6 (by simp; omega)
  have hR6 := hk6.heap hRD (by simp)
  have HK6 := Lib.hid (HKD.out.trans hk6 (fun g hg => .inr (by simp at hg; omega)))
  clear hk6 HKD hTD hRD hqD
  go_wp2_with fail
  refine (H5.out _ hq6).mono ?_; rintro z wE ⟨rfl, hqE, hkE⟩
  have hTE := hkE.heap hb6 (by simp; omega)
  have hRE := hkE.heap hR6 (by simp; omega)
  have HKE := Lib.hid (HK6.out.trans hkE (FSub.refl _ _))
  clear hkE H5 hb6 hR6 HK6
  clear hq6
  go_wp2_with ((with_reducible apply wpList_put_cfg (T := 3) 3 ⟨v1, v3, v4, v5, (v2 % 2 == 1), (v2 / 2 % 2 == 1), (v2 / 4 % 2 == 1)⟩); exact rfl; exact rfl; exact hTE; kernel_rfl; exact rfl; exact rfl; exact rfl)
  intro W7 hb7 hk7
  have hq7 := hqE.keep hk7 (by simp; omega)
  have hR7 := hk7.heap hRE (by simp)
  have HK7 := Lib.hid (HKE.out.trans hk7 (fun g hg => .inr (by simp at hg; omega)))
  clear hk7 HKE hTE hRE hqE
  go_wp2_with (first | ((with_reducible apply wpList_load_cfg); exact rfl; exact hb7) | ((with_reducible apply wpList_put_cfgrow); exact rfl; exact rfl; exact hR7; exact rfl))
  intro W8 hb8 hk8
  have hq8 := hq7.keep hk8 (by simp; omega)
  have HK8 := Lib.hid (HK7.out.trans hk8 (fun g hg => .inr (by simp at hg; omega)))
  clear hk8 HK7
  go_wp2_with fail
  try simp only [Exit.inBlock, Exit.then]
  exact bodyPost_ret (results_cfg rfl _ _ _ rfl hb8) rfl ⟨rfl, hq8, HK8.out⟩
end Go.Proofs.YtibppobibncpdaaGreatDoor
