/-
  The law WorldBack, over any program's worlds.
-/
import Derived.Test.YtbnhcggjcdipeaaGreatDoorWA00
import Derived.Deep.RegionHeld3
import Derived.Test.YtbnhcggjcdipeaaGreatDoorWA37
import Derived.Test.YtbnhcggjcdipeaaGreatDoorWA36
import Derived.Test.YtbnhcggjcdipeaaGreatDoorWA25
import Derived.Test.YtbnhcggjcdipeaaGreatDoorWA08
import Derived.Test.YtbnhcggjcdipeaaGreatDoorWA17
import Derived.Test.YtbnhcggjcdipeaaGreatDoorWA30
import Derived.Test.YtbnhcggjcdipeaaGreatDoorWA39
import Derived.Test.YtbnhcggjcdipeaaGreatDoorWA31
import Derived.Test.YtbnhcggjcdipeaaGreatDoorWA38
import Derived.Test.YtbnhcggjcdipeaaGreatDoorWA34
set_option linter.unusedSimpArgs false
set_option linter.unusedVariables false
namespace Go.Proofs.YtbnhcggjcdipeaaGreatDoor
open Go.RowKit
set_option maxRecDepth 100000
set_option maxHeartbeats 8000000
variable {G : World → Prop}
theorem woAt_ok {R : MdProg G} {w : World} {A : List Value} {O : Option Wd} (h : WoAt R w (.agg A.toArray) O) : skW.Ok A := by
  obtain ⟨B, e, hB⟩ := h.cells
  rw [show A = B by simpa using e]; exact hB
theorem oNew_some {m : Int} (h : m ≤ 3) : oWNew m = some (wd0 m) := if_pos h
end Go.Proofs.YtbnhcggjcdipeaaGreatDoor
/-
  The program's World: Text.
-/
namespace Go.Proofs.YtbnhcggjcdipeaaGreatDoor
open Go.RowKit Go.Shelf
attribute [local go_sem] Oper.semAt_some
set_option maxRecDepth 100000
set_option maxHeartbeats 8000000
variable {G : World → Prop}
section
variable {o : Oper} {a : Act} {w : World} {K : Act → World → Prop} {Q : Exit → Act → World → Prop}
theorem run_load14 (w : World) (g : Nat) (z : Value) (hc : w.cell? ⟨g, 0, none⟩ = some z) : (loadVar 111 ⟨g, 0, none⟩).run Tryz.prog w = .ok z w := by
  simp [loadVar, run_underlying Tryz.underlying111, hc]
theorem wp_load14 {x : Operand} (ho : o.op = .load 111 x) {g : Nat} {z : Value} (hx : a.eval x = .pointer (some ⟨g, 0, none⟩)) (hc : w.cell? ⟨g, 0, none⟩ = some z) (h : K (a.put o.dst z) w) : o.wp Tryz.prog a w K Q := by
  have hrun := run_load14 w g z hc
  unfold Oper.wp execOp
  simp only [ho, hx, Instr.loadAt, Instr.sureAddr, Sem.run_bind, Sem.run_pure, Result.andThen_ok, hrun]
  exact h
end
def listT (O : Option Wd) (pre : List (Fin 8)) : List (List UInt8) := pre.map fun o => match O with
  | some W => wtT (o.val, W.at o.val)
  | none => []
theorem listT_all {O : Option Wd} {pre : List (Fin 8)} (h : pre.map (·.val) = oWL O) : oWT O = if listT O pre = [] then [45] else spT (listT O pre) := by
  cases O with
  | none =>
    have : pre = [] := List.map_eq_nil_iff.1 h
    rw [this]; rfl
  | some W =>
    have e : listT (some W) pre = W.li.map wtT := by
      have h3 : W.li = (W.li.map (·.1)).map fun o => (o, W.at o) := by
        rw [List.map_map]
        conv => lhs; rw [← List.map_id W.li]
        exact List.map_congr_left fun p hp => by
          show p = (p.1, W.at p.1)
          rw [← Wd.li_at p hp]
      rw [h3, show W.li.map (·.1) = pre.map (·.val) from h.symm, List.map_map, List.map_map]
      rfl
    rw [e]
    show wdT W = _
    unfold wdT
    by_cases hl : W.li = []
    · rw [if_pos hl, if_pos (by rw [hl]; rfl)]
    · rw [if_neg hl, if_neg (by simpa using hl)]
theorem listT_next (W : Wd) (pre : List (Fin 8)) (x : Fin 8) : listT (some W) (pre ++ [x]) = listT (some W) pre ++ [wtT (x.val, W.at x.val)] := by
  unfold listT
  rw [List.map_append]
  rfl
theorem wdText_any (R : MdProg G) (HI : ∀ (w : World) (v : Int), G w → 0 ≤ v → v < 65536 → Calls Tryz.prog 47 #[.int .i64 v] w fun e w' => e = .returned (.string (bs (dec v))) ∧ Keeps [] w w') (w : World) {st : Value} {O : Option Wd} (hG : G w) (h : WoAt R w st O) (hu : wUp O 1000) : Calls Tryz.prog 25 #[st] w fun e w' => e = .returned (.string (bs (oWT O))) ∧ Keeps [] w w' := by
  obtain ⟨A, rfl, hA⟩ := h.cells
  obtain ⟨V0, hV0⟩ : ∃ V0, V0 = (w.alloc (.cells A.toArray 33)).alloc (.cells #[.slice none 0 0] 111) := ⟨_, rfl⟩
  obtain ⟨-, h0, h1, hk⟩ := two_vars w A.toArray #[.slice none 0 0] 33 111
  have hz := two_blocks w A.toArray #[.slice none 0 0] 33 111
  rw [← hV0] at h0 h1 hk hz
  have HWW := Lib.hid h; have HA := Lib.hid hA; have HU := Lib.hid hu; have HW := Lib.hid (h.new hk); have HOLD := Lib.hid h.old; have HGL := Lib.hid (fun w' (h : Keeps [] w w') => R.keepG hG h)
  have H0 := Lib.hid h0; have H1 := Lib.hid h1; have HK := Lib.hid hk; have HZ := Lib.hid hz
  have HRW := Lib.hid (block_range h0)
  rw [hV0] at HRW
  have HOB := Lib.hid (wdObjects_any R V0 (h.new hk))
  rw [hV0] at HOB
  clear h0 h1 hk hz h hG hu hA
  refine (callsIn_wide (n := 12)).1 ?_
  refine callsIn_of_wp_marks Tryz.func25 rfl trivial ?_ rfl
  simp only [Tryz.ntmps25, List.size_toArray, List.length_cons, List.length_nil, Nat.reduceAdd, Nat.reduceSub, Array.replicate_succ, Array.replicate_zero, List.push_toArray, List.append_toArray, List.nil_append, List.cons_append]
  gi_wp2_with ((with_reducible refine wideW (g := w.heap.size) HA.out ?_ ?_ HRW.out ?_); exact rfl; exact rfl)
  refine ⟨trivial, (callsIn_wide.2 HOB.out).mono ?_⟩
  rintro e w2 ⟨B, A2, rfl, hA2, hBB, hB, hk⟩
  obtain rfl : A2 = A.toArray := by simpa using hA2.symm
  rw [← hV0] at hBB hk
  have HB := Lib.hid hB; have HBB := Lib.hid hBB; have HK2 := Lib.hid (HK.out.trans hk (FSub.refl _ _)); have H02 := Lib.hid (hk.heap H0.out (by simp)); have H12 := Lib.hid (hk.heap H1.out (by simp)); have HW2 := Lib.hid (HW.out.new hk)
  clear hV0 hB hBB hk hA2 HOB HRW H0 H1 HW
  gi_wp2_with fail
  refine wpIn_rangeFunc_ownF (F := Fence.wide) rfl (by omega) (gf := 50) (lb := #[.pointer (some ⟨B, 0, none⟩)]) rfl trivial (enters_of Tryz.func50 (by kernel_rfl) rfl)
    (encs := fun o : Fin 8 => #[.int .u8 (o.val : Int)]) (Kp := KeB [w.heap.size + 1] w2.heap.size) (S := fun xs => xs.map (·.val) = oWL O) (Sp := fun pre => pre.map (·.val) <+: oWL O) (N := (oWL O).length) (w0 := w2)
    (wdIter_any R 11 w2.heap.size [w.heap.size + 1] B w2 A O (by omega) (fun w' hk => HGL.out w' (HK2.out.trans (hk.same rfl) (fun q hq => .inr (by simp at hq; omega)))) HW2.out HU.out HB.out (by have := HBB.out; have := HZ.out; simp; omega) (lt_of_block HB.out) (Nat.le_refl _) (fun q hq => by have h1 := HOLD.out q hq; have h2 := HK2.out.size; exact ⟨by simp; omega, by omega⟩))
    (fun h1 h2 => h1.trans h2) (fun W l o o' hl _ _ _ => keB_b W l o o' hl) (Below.refl _ _) (fun _ => rfl)
    (fun pre W => (∃ v, W.heap[w.heap.size + 1]? = some (.cells #[v] 111 (0, 0)) ∧ rkS.Own w2.heap.size W v (listT O pre)) ∧ W.heap[w.heap.size]? = some (.cells A.toArray 33 (0, 0)) ∧ Keeps [] w W ∧ Keeps [w.heap.size + 1] w2 W)
    (fun _ _ _ => False) ?hI (fun _ _ _ _ _ h => h.elim) ⟨⟨.slice none 0 0, H12.out, RK.Own.nil rkS _ _⟩, H02.out, HK2.out, Keeps.refl _ _⟩
    (fun o => { tmps := #[.agg A.toArray, .pointer (some ⟨w.heap.size, 0, none⟩), .string ⟨#[]⟩, .pointer (some ⟨w.heap.size + 1, 0, none⟩), .int .u8 (o.val : Int), .agg A.toArray, .func (.func 50) #[] #[.pointer (some ⟨B, 0, none⟩)], .int .u8 (o.val : Int), undef, undef, undef, undef, undef, undef, undef, undef, undef, undef, undef, undef, undef, undef, undef, undef, undef, undef], defers := [] }) ?assign ?body ?done ?stop
  case hI =>
    refine OwnFrom.and ?_ (cells_own.and ((keeps_own (by have := HK2.out.size; omega)).and (keeps_own (Nat.le_refl _))))
    rintro s W W' row ⟨v, h1, h2⟩ hg hr
    have hr2 : ∀ r, row = some r → ∃ o : Obj, W.heap[r]? = some o ∧ o.isCells = false := fun r e => (hr r e).2
    exact ⟨v, cells_own (B := w2.heap.size) (β := Unit) (cs := fun _ => #[v]) () W W' row h1 hg hr, h2.abides hg hr2⟩
  case assign =>
    intro l x W K hK
    gi_wp2
    exact hK
  case body =>
    rintro l pre x W ⟨⟨v, hb, hrow⟩, hbox, hkw, hk2w⟩ hlen
    have hsW := hk2w.size
    have HK2W := Lib.hid hk2w
    clear hk2w
    cases O with
    | none => exact absurd hlen (Nat.not_lt_zero _)
    | some X =>
      have hXI := HWW.out.in_
      obtain ⟨u, hu, hu1, hat⟩ := HWW.out.one x.isLt
      have HAT := Lib.hid (show R.At W (.agg #[u]) (some (X.at x.val)) from R.new_ hat hkw)
      have HR := Lib.hid (one_range hbox hu); have HVO := Lib.hid (v_ok hu1)
      have HLN := Lib.hid (show (X.at x.val).len ≤ 1000 from HU.out X rfl _ (Wd.at_mem hXI x.isLt))
      have HSI := Lib.hid (Wd.at_in hXI x.isLt).2
      have HW0 := Lib.hid (show w2.heap.size ≤ W.heap.size from hsW)
      have HBXW := Lib.hid hbox; have HKW0 := Lib.hid hkw
      obtain ⟨a9, c9, rfl, -, -⟩ := hrow.shape
      have HROW := Lib.hid hrow; have HOB9 := Lib.hid (row_base hrow)
      have HBC := Lib.hid (show W.heap[w.heap.size + 1]? = some (.cells [.slice a9 (listT (some X) pre).length c9].toArray 111 (0, 0)) from hb)
      have HPL := Lib.hid (show (listT (some X) pre).length ≤ 8 from by
        have h2 : (oWL (some X)).length ≤ 8 := by
          show (X.li.map (·.1)).length ≤ 8
          rw [List.length_map]
          have := liW_len X.m 0 X.l
          rw [hXI.n] at this; exact this
        unfold listT
        rw [List.length_map]
        omega)
      have HNX := Lib.hid (listT_next X pre x)
      have HGW := Lib.hid (fun w' (h : Keeps [] W w') => HGL.out w' (HKW0.out.trans h (FSub.refl _ _)))
      have x8 := x.isLt
      clear hu hu1 hat hrow hbox hkw hb hXI hlen
      have hx0 : (x.val : Int) < 8 := by omega
      have hx1 : 0 ≤ (x.val : Int) := by omega
      generalize X.at x.val = S at *
      generalize hLL : listT (some X) pre = L at *
      clear hLL
      obtain ⟨n9, hn9⟩ : ∃ n9, n9 = L.length := ⟨_, rfl⟩
      rw [← hn9] at HROW HBC HPL HOB9
      have HN9 := Lib.hid hn9
      clear hn9
      obtain ⟨xv, hxv⟩ : ∃ xv, xv = x.val := ⟨_, rfl⟩
      rw [← hxv] at hx0 hx1 x8 HR HNX ⊢
      clear hxv
      have HTX := Lib.hid (fun w' (h : Keeps [] W w') => R.text w' _ (some S) (HGW.out w' h) (R.new_ HAT.out h) HLN.out)
      obtain ⟨SD, hSDD⟩ : ∃ SD, SD = bs (dec (xv : Int)) := ⟨_, rfl⟩
      obtain ⟨ST, hST⟩ : ∃ ST, ST = bs (mdT S) := ⟨_, rfl⟩
      have zD : SD.size ≤ 5 := by rw [hSDD, bs_size]; exact dec_len5 (by omega)
      have zT : ST.size ≤ 6100 := by rw [hST, bs_size]; have := mdT_short HSI.out HLN.out; omega
      have HSUM := Lib.hid (show SD ++ ⟨#[61]⟩ ++ ST = bs (wtT (xv, S)) from by
        rw [hSDD, hST, wtT, show (⟨#[61]⟩ : ByteArray) = bs [61] from rfl, bs_cat, bs_cat]
        simp)
      have HSD := Lib.hid hSDD.symm; have HST := Lib.hid (show bs (oT (some S)) = ST from hST.symm)
      have q1 : ¬ 9223372036854775807 < SD.size + 1 := by omega
      have q2 : ¬ 9223372036854775807 < SD.size + 1 + ST.size := by omega
      have ew : IntKind.i64.wrap (xv : Int) = (xv : Int) := IntWalk.i64_in _ ⟨by omega, by omega⟩
      clear hSDD hST
      apply wpIn_block
      obtain ⟨S0, hS0⟩ : ∃ S0 : World → Prop, S0 = fun y => Keeps ((w.heap.size + 1) :: own (.slice a9 n9 c9)) W y := ⟨_, rfl⟩
      have HSE := Lib.hid hS0
      have hHeld : S0 W.drew := by rw [hS0]; exact ((Keeps.refl [] _).drew).more (by simp)
      have HSA := Lib.hid (fun (w' : World) (hh : S0 w') => show w'.rangeAt w.heap.size xv [u] from by
        rw [hS0] at hh
        exact fun j v hv => hh.cell (HR.out j v hv) (by
          intro hq
          rcases List.mem_cons.1 hq with h | h
          · simp at h
          · have h1 := (HOB9.out _ h).1; have h2 := lt_of_block H12.out; simp at h1; omega))
      clear hS0
      refine wpIn_region_drawn (S := S0) (by kernel_rfl) ?_ rfl ?_
      · rintro ⟨a, w, h⟩; exact h
      refine tw 1 (h := ?_)
      refine tw 2 (h := ?_)
      refine tw 5 (h := ?_)
      refine tw 6 (h := ?_)
      refine tk 7 (y := by exact yields_indexS rfl _ _ rfl w.heap.size xv .u8 rfl rfl x8) (h := ?_)
      refine tk 8 (y := by exact skM.yields HVO.out rfl _ rfl w.heap.size xv rfl HSA.out) (h := ?_)
      have HY := Lib.hid ((Keeps.refl [] W).drew)
      have HCW := Lib.hid HY.out
      have hdr : ({ W with drawn := W.drawn + 1 } : World) = W.drew := rfl
      rw [hdr]
      generalize W.drew = YC at *
      clear hdr
      iterate 4
        all_goals
          first
            | apply wpAnyH_ready (rs := [0, 3])
              · decide +kernel
              · simp
              refine acn ?_ (acn ?_ (AllReadyH.nil))
            | apply wpAnyH_ready (rs := [0, 9])
              · decide +kernel
              · simp
              refine acn ?_ (acn ?_ (AllReadyH.nil))
            | apply wpAnyH_ready (rs := [0, 11])
              · decide +kernel
              · simp
              refine acn ?_ (acn ?_ (AllReadyH.nil))
            | apply wpAnyH_ready (rs := [3])
              · decide +kernel
              · simp
              refine acn ?_ (AllReadyH.nil)
            | apply wpAnyH_ready (rs := [9])
              · decide +kernel
              · simp
              refine acn ?_ (AllReadyH.nil)
            | apply wpAnyH_ready (rs := [11])
              · decide +kernel
              · simp
              refine acn ?_ (AllReadyH.nil)
            | apply wpAnyH_ready (rs := [0])
              · decide +kernel
              · simp
              refine acn ?_ (AllReadyH.nil)
          all_goals
            intro K hK
            rw [if_pos (by rfl)]
            first
            | refine wp_call9 47 _ _ rfl [.int .i64 (xv : Int)] rfl Tryz.func47 (by kernel_rfl) (by kernel_rfl) ((HI _ (xv : Int) (HGW.out _ HY.out) (Int.natCast_nonneg _) (by omega)).mono ?_)
              rintro e YC ⟨rfl, hk1⟩
              refine ⟨_, rfl, ?_⟩
              rw [HSD.out]
              replace HY := Lib.hid (HY.out.trans hk1 (FSub.refl _ _))
              replace HCW := Lib.hid HY.out
              clear hk1
              refine hK.out _ _ (by rw [HSE.out]; exact HY.out.more (by simp)) (fun hHeld => ?_); clear hK K; try simp only [Act.put, lsA, lsZ, lsS]
              refine tw 4 (h := ?_)
            | refine wp_call9 48 _ _ rfl [.agg #[u]] rfl Tryz.func48 (by kernel_rfl) (by kernel_rfl) ((HTX.out _ HY.out).mono ?_)
              rintro e YC ⟨rfl, hk1⟩
              refine ⟨_, rfl, ?_⟩
              rw [HST.out]
              replace HY := Lib.hid (HY.out.trans hk1 (FSub.refl _ _))
              replace HCW := Lib.hid HY.out
              clear hk1
              refine hK.out _ _ (by rw [HSE.out]; exact HY.out.more (by simp)) (fun hHeld => ?_); clear hK K; try simp only [Act.put, lsA, lsZ, lsS]
              refine tw 10 (h := ?_)
            | refine wp_buildS (y := SD ++ ⟨#[61]⟩ ++ ST) _ rfl rfl ?_
              replace HCW := Lib.hid (HY.out.alloc (.cells #[.string (SD ++ ⟨#[61]⟩ ++ ST)] 9))
              refine hK.out _ _ (by rw [HSE.out]; exact HCW.out.more (by simp)) (fun hHeld => ?_); clear hK K; try simp only [Act.put, lsA, lsZ, lsS]
            | refine wp_load14 rfl (g := w.heap.size + 1) (z := .slice a9 n9 c9) rfl (cell_lit (HCW.out.heap HBC.out (by simp)) 0 rfl) ?_
              refine hK.out _ _ (by rw [HSE.out]; exact HCW.out.more (by simp)) (fun hHeld => ?_); clear hK K; try simp only [Act.put, lsA, lsZ, lsS]
      all_goals
        obtain ⟨v', w3, hrun, hrow3, hk3, hf3⟩ := rkS.append1 YC w2.heap.size (Nat.le_trans HW0.out HY.out.size) _ _ (HROW.out.keeps HY.out (by simp)) (wtT (xv, S)) (by have := HPL.out; have := HN9.out; omega)
        have HRUN := Lib.hid (show (Builtin.append_ #[111, 111] 111 #[.slice a9 n9 c9, .slice (some ⟨YC.heap.size, 0, none⟩) 1 1]).run Tryz.prog (YC.alloc (.cells #[.string (SD ++ ⟨#[61]⟩ ++ ST)] 9)) = .ok v' w3 from by rw [HSUM.out]; exact hrun)
        have HROW3 := Lib.hid hrow3
        have HK3 := Lib.hid ((HY.out.more (G := own (.slice a9 n9 c9)) (by simp)).trans hk3 (FSub.refl _ _))
        have HF3 := Lib.hid hf3
        obtain ⟨a8, c8, rfl, -, -⟩ := hrow3.shape
        clear hrun hrow3 hk3 hf3
        refine rp 12 (h := fun K hK => ?_)
        refine wp_append_run _ _ 111 rfl _ _ _ w3 rfl rfl HRUN.out ?_
        refine hK.out _ _ (by rw [HSE.out]; exact HK3.out.more (fun q hq => List.mem_cons_of_mem _ hq)) (fun hHeld => ?_); clear hK K; try simp only [Act.put, lsA, lsZ, lsS]
        refine rp 13 (h := fun K hK => ?_)
        refine wp_put13 (g := w.heap.size + 1) (j := 0) (A := [.slice a9 n9 c9]) rfl (by kernel_rfl) rfl rfl (HK3.out.heap HBC.out (fun hq => by have := (HOB9.out _ hq).1; have := lt_of_block H12.out; omega)) (by simp) rfl (fun W7 hV hkV => ?_)
        have hbc7 := hV
        have hrow7 := HROW3.out.keeps hkV (fun q hq => by have := (row_base HROW3.out q hq).1; have := lt_of_block H12.out; simp; omega)
        have hall : Keeps ((w.heap.size + 1) :: own (.slice a9 n9 c9)) W W7 := (HK3.out.more (fun q hq => List.mem_cons_of_mem _ hq)).trans (hkV.more (fun q hq => by simp at hq; simp [hq])) (FSub.refl _ _)
        have HALL := Lib.hid hall
        clear hV hkV hall
        refine hK.out _ _ (by rw [HSE.out]; exact HALL.out) (fun hHeld => ?_); clear hK K; try simp only [Act.put, lsA, lsZ, lsS]
        refine wpAnyH_done (by kernel_rfl) ?_ _
        have hkeb : KeB [w.heap.size + 1] w2.heap.size W W7 := (HALL.out.keB HW0.out).more (fun g hg => by
          rcases List.mem_cons.1 hg with h | h
          · exact .inl (by simp [h])
          · exact .inr (HOB9.out g h).1)
        have hoth : KeepsOthers W W7 := HALL.out.others (fun g hg o ho => by
          rcases List.mem_cons.1 hg with h | h
          · subst h; rw [HBC.out] at ho; cases ho; rfl
          · obtain ⟨cs, t, f, h2⟩ := HROW.out.cells_of g h
            rw [h2] at ho; cases ho; rfl)
        refine ⟨hoth, hkeb, ⟨_, hbc7, by rw [HNX.out]; exact hrow7⟩, ?_, ?_, ?_⟩
        · exact HALL.out.heap HBXW.out (by
            intro hq
            rcases List.mem_cons.1 hq with h | h
            · omega
            · have := (HOB9.out _ h).1; have := HK2.out.size; have := lt_of_block H12.out; omega)
        · exact HKW0.out.trans HALL.out (fun q hq => .inr (by
            rcases List.mem_cons.1 hq with h | h
            · omega
            · have := (HOB9.out _ h).1; have := HK2.out.size; omega))
        · exact HK2W.out.trans HALL.out (fun q hq => by
            rcases List.mem_cons.1 hq with h | h
            · exact .inl (by simp [h])
            · exact .inr (HOB9.out q h).1)
  case done =>
    rintro D ys W hD hys ⟨⟨v, hb, hrow⟩, hbox, hkw, -⟩ hKD
    have HTA := Lib.hid (listT_all hys)
    have hlen : (listT O ys).length ≤ 8 := by
      have h1 : ys.length = (oWL O).length := by rw [← hys, List.length_map]
      unfold listT
      rw [List.length_map, h1]
      cases O with
      | none => exact Nat.zero_le _
      | some X =>
        show (X.li.map (·.1)).length ≤ 8
        rw [List.length_map]
        have := liW_len X.m 0 X.l
        rw [HWW.out.in_.n] at this; exact this
    have hspl : (spT (listT O ys)).length ≤ 1000000 := by
      cases O with
      | none =>
        have h1 : listT none ys = [] := by
          have : ys = [] := List.map_eq_nil_iff.1 hys
          rw [this]; rfl
        rw [h1]; simp [spT]
      | some X =>
        have h1 := spT_len (l := listT (some X) ys) (n := 60110) (fun z hz => by
          obtain ⟨o, ho, rfl⟩ := List.mem_map.1 hz
          exact wtT_len o.isLt (Wd.at_in HWW.out.in_ o.isLt).2 (Nat.le_trans (HU.out X rfl _ (Wd.at_mem HWW.out.in_ o.isLt)) (by decide)))
        have h2 := Nat.mul_le_mul_right (60110 + 1) hlen
        omega
    have HJN := Lib.hid (Join13_any W hrow (by omega) hspl)
    obtain ⟨a9, c9, rfl, -, -⟩ := hrow.shape
    have c1 : W.cell? ⟨w.heap.size + 1, 0, none⟩ = some (.slice a9 (listT O ys).length c9) := cell_lit hb 0 rfl
    have HKD2 := Lib.hid hkw; have HKD3 := Lib.hid (fun (W' : World) (h : Keeps [] W W') => h.heap hKD (by simp))
    clear hrow hb hbox hkw hlen hspl hys
    generalize listT O ys = T at *
    by_cases hn : T = []
    · have HN := Lib.hid (show oWT O = [45] from by rw [HTA.out, if_pos hn])
      have t1 : T.length = 0 := by rw [hn]; rfl
      have c2 : W.cell? ⟨w.heap.size + 1, 0, none⟩ = some (.slice a9 0 c9) := by rw [c1, t1]
      clear hn HTA c1
      gi_wp2
      refine ⟨by simp, .inl ⟨_, _, rfl, run_takeDeferred hKD, ?_⟩⟩
      exact ⟨_, results_tmp rfl _ _ _, by rw [HN.out]; rfl, HKD2.out.putObj _ _ (by have := HK2.out.size; omega)⟩
    · have HN := Lib.hid (show oWT O = spT T from by rw [HTA.out, if_neg hn])
      have t1 : ((T.length : Int) == 0) = false := by
        have : 0 < T.length := List.length_pos_iff.2 hn
        simp; omega
      clear hn HTA
      gi_wp2_with fail
      refine ⟨trivial, (callsIn_wide.2 HJN.out).mono ?_⟩
      rintro e W2 ⟨rfl, hk2⟩
      have hKD2 := HKD3.out W2 hk2
      gi_wp2
      refine ⟨by simp, .inl ⟨_, _, rfl, run_takeDeferred hKD2, ?_⟩⟩
      exact ⟨_, results_tmp rfl _ _ _, by rw [HN.out]; rfl, (HKD2.out.trans hk2 (FSub.refl _ _)).putObj _ _ (by have := HK2.out.size; omega)⟩
  case stop =>
    rintro D c pre W hD hpre h hKD
    exact h.elim
end Go.Proofs.YtbnhcggjcdipeaaGreatDoor
/-
  All that the program's worlds must tell.
-/
namespace Go.Proofs.YtbnhcggjcdipeaaGreatDoor
open Go.RowKit
variable {G : World → Prop}
theorem wdP_of (R : MdProg G) (F : MdSame R) (D : MdDec R) (HI : ∀ (w : World) (v : Int), G w → 0 ≤ v → v < 65536 → Calls Tryz.prog 47 #[.int .i64 v] w fun e w' => e = .returned (.string (bs (dec v))) ∧ Keeps [] w w') : WdProg R where
  new := fun w m hG hm => wdNew_any R w hG hm
  model := fun w st O hG h => wdModel_any R w hG h
  at_ := fun w st O o hG h ho => wdAt_any R w hG h ho
  objects := fun w st O _ h => wdObjects_any R w h
  iter := fun n n0 F B w A O hn hG h hu hb h1 h2 h3 h4 => wdIter_any R n n0 F B w A O hn hG h hu hb h1 h2 h3 h4
  step := fun w st O c x hG h hu hc hx => by
    obtain ⟨A, rfl, hA⟩ := h.cells
    refine (wdStep_post R w hG h hu hc x hx).mono ?_
    rintro e w' ⟨B, rfl, hat, hk, hap⟩
    exact ⟨_, rfl, hat, hk, hap (fun q => q ∈ wFoot R (.agg A.toArray) ∨ w.heap.size ≤ q) (fun q hq => .inl hq) (fun q hq => .inr hq)⟩
  fits := fun w st O c x r hG h hu hc hx _ => wdFits_any R w hG h hu hc hx r
  enc := fun w st O hG h hu => wdEncode_any R w hG h hu
  text := fun w st O hG h hu => wdText_any R HI w hG h hu
  same := fun w st O st2 P hG h h2 hu hv => wdSame_any R F w hG h h2 hu hv
  dec := fun w m b hG hm hb hs => wdDecode_any R D w hG hm hb hs
theorem wdP : WdProg mdP := wdP_of mdP mdP_same mdP_dec (fun w v hG h0 h1 => Itoa13_any w hG v h0 h1)
end Go.Proofs.YtbnhcggjcdipeaaGreatDoor
