/-
  The program's World: Encode.
-/
import Derived.Lib.AppendStr
import Derived.Test.YtbnhcggjcdipeaaGreatDoorWA38
import Derived.Test.YtbnhcggjcdipeaaGreatDoorWA17
import Derived.Test.YtbnhcggjcdipeaaGreatDoorWA25
set_option linter.unusedSimpArgs false
set_option linter.unusedVariables false
namespace Go.Proofs.YtbnhcggjcdipeaaGreatDoor
open Go.RowKit Go.Shelf
attribute [local go_sem] Oper.semAt_some
set_option maxRecDepth 100000
set_option maxHeartbeats 8000000
variable {G : World → Prop}
theorem grown_keeps {W W' : World} {row : Option Nat} (hg : W.grownBy W' row) : Keeps row.toList W W' :=
  ⟨hg.os, hg.tape, hg.output, hg.size, fun k hk hF => hg.block k hk (fun e => hF (by simp [e]))⟩
theorem RK.Own.cells_of {α : Type} {R : RK α} {base : Nat} {w : World} {v : Value} {L : List α} (h : R.Own base w v L) : ∀ q ∈ own v, ∃ cs t f, w.heap[q]? = some (.cells cs t f) := fun q hq => by
  rcases h.2 with ⟨rfl, -⟩ | ⟨g, cap, cur, rfl, -, hh, -⟩
  · cases hq
  · simp [own, Value.ownBlock] at hq
    subst hq
    exact ⟨_, _, _, hh⟩
/-- An own row abides what the loop does beside it. -/
theorem RK.Own.abides {α : Type} {R : RK α} {base : Nat} {W W' : World} {row : Option Nat} {v : Value} {L : List α} (h : R.Own base W v L) (hg : W.grownBy W' row) (hr : ∀ r, row = some r → ∃ o : Obj, W.heap[r]? = some o ∧ o.isCells = false) : R.Own base W' v L :=
  h.keeps (grown_keeps hg) (fun q hq hF => by
    have e : row = some q := by simpa using hF
    obtain ⟨o, ho, hc⟩ := hr q e
    obtain ⟨cs, t, f, h2⟩ := h.cells_of q hq
    rw [ho] at h2
    cases h2
    cases hc)
theorem nb_app14 (l m : List UInt8) : nb (l ++ m) = nb l ++ nb m := List.map_append
theorem fm_map : ∀ M : List UInt8, (M.flatMap fun a => [Value.int .u8 (a.toNat : Int)]) = M.map fun b => Value.int .u8 (b.toNat : Int)
  | [] => rfl
  | x :: r => by rw [List.flatMap_cons, fm_map r]; rfl
theorem rkB_text (w : World) (base : Nat) (hbase : base ≤ w.heap.size) (v : Value) (L M : List UInt8) (h : rkB.Own base w v (nb L)) (hn : L.length + M.length ≤ 100000000) :
    ∃ v' w', (Builtin.append_ #[109, 9] 109 #[v, .string (bs M)]).run Tryz.prog w = .ok v' w' ∧ rkB.Own base w' v' (nb (L ++ M)) ∧ Keeps (own v) w w' := by
  have hl : (nb L).length = L.length := by simp [nb]
  obtain ⟨v', w', hr, ho, hg, -⟩ := Lib.run_append_own_string (P := Tryz.prog) w base 109 9 109 5 rkB.i rkB.und Tryz.underlying9 rkB.hi rkB.hz rkB.hs rkB.hb v L.length (rkB.row (nb L)) (by have h2 := h; unfold RK.Own at h2; rw [hl] at h2; exact h2) (bs M) (by rw [bs_size]; unfold maxLen; omega) (by rw [bs_size]; omega) hbase
  refine ⟨v', w', hr, ?_, (Keeps.refl _ w).grown hg (fun q hq => .inl hq)⟩
  unfold RK.Own
  rw [bs_size] at ho
  have e : rkB.row (nb (L ++ M)) = rkB.row (nb L) ++ Lib.strCells (bs M) := by
    rw [nb_app14, RK.row_app]
    congr 1
    show (nb M).flatMap u8C = (bs M).data.toList.map _
    simp [nb, u8C, bs, List.flatMap_map]
    exact fm_map M
  rw [e, show (nb (L ++ M)).length = L.length + M.length by simp [nb]]
  exact ho
section
variable {ops : Array Oper} {rest : List Oper} {a : Act} {w : World} {Q : Exit → Act → World → Prop}
theorem wpList_appS {dst : Option Tmp} {t u : TypeId} {pos : String} {after : Array Edge} {s x : Operand} (v y : Value) {v' : Value} {w' : World} (hs : a.eval s = v) (hx : a.eval x = y)
    (hr : (Builtin.append_ #[t, u] t #[v, y]).run Tryz.prog w = .ok v' w') (h : wpList Tryz.prog ops Q rest (a.put dst v') w') :
    wpList Tryz.prog ops Q ({ dst := dst, op := .call { callee := .builtin .append, args := #[s, x], argTypes := #[t, u] }, type := t, pos := pos, after := after, guard := none } :: rest) a w :=
  wpList_plain rfl fun _ hK => by
    unfold Oper.wp execOp
    simp only [resolve, invoke, builtin, Sem.run_bind, Sem.run_pure, Result.andThen_ok, List.map_toArray, List.map_cons, List.map_nil, hs, hx, hr]
    exact hK _ _ h
end
def listB (O : Option Wd) (pre : List (Fin 8)) : List UInt8 := pre.flatMap fun o => match O with
  | some W => itB (o.val, W.at o.val)
  | none => []
theorem listB_all {O : Option Wd} {pre : List (Fin 8)} (h : pre.map (·.val) = oWL O) : listB O pre = oWB O := by
  cases O with
  | none =>
    have : pre = [] := List.map_eq_nil_iff.1 h
    rw [this]; rfl
  | some W =>
    show pre.flatMap (fun o => itB (o.val, W.at o.val)) = W.li.flatMap itB
    have e : W.li = pre.map fun o => (o.val, W.at o.val) := by
      have h2 : W.li.map (·.1) = pre.map (·.val) := h.symm
      have h3 : W.li = (W.li.map (·.1)).map fun o => (o, W.at o) := by
        rw [List.map_map]
        conv => lhs; rw [← List.map_id W.li]
        exact List.map_congr_left fun p hp => by
          show p = (p.1, W.at p.1)
          rw [← Wd.li_at p hp]
      rw [h3, h2, List.map_map]
      rfl
    rw [e, List.flatMap_map]
theorem listB_next (W : Wd) (pre : List (Fin 8)) (x : Fin 8) : listB (some W) (pre ++ [x]) = listB (some W) pre ++ itB (x.val, W.at x.val) := by
  unfold listB
  rw [List.flatMap_append]
  simp
theorem listB_len {W : Wd} (hW : W.In) (hu : W.upto 1000) : ∀ pre : List (Fin 8), (listB (some W) pre).length ≤ pre.length * 2303
  | [] => Nat.zero_le _
  | x :: r => by
    have ih := listB_len hW hu r
    have h1 := mdB_short (Wd.at_in hW x.isLt).2 (hu _ (Wd.at_mem hW x.isLt))
    have e : listB (some W) (x :: r) = itB (x.val, W.at x.val) ++ listB (some W) r := rfl
    rw [e, List.length_append, itB_len, List.length_cons]
    show 3 + (mdB (W.at x.val)).length + _ ≤ _
    omega
theorem wdEncode_any (R : MdProg G) (w : World) {st : Value} {O : Option Wd} (hG : G w) (h : WoAt R w st O) (hu : wUp O 1000) : Calls Tryz.prog 24 #[st] w fun e w' => e = .returned (.string (bs (oWB O))) ∧ Keeps [] w w' := by
  obtain ⟨A, rfl, hA⟩ := h.cells
  obtain ⟨V0, hV0⟩ : ∃ V0, V0 = (w.alloc (.cells A.toArray 33)).alloc (.cells #[.slice none 0 0] 109) := ⟨_, rfl⟩
  obtain ⟨-, h0, h1, hk⟩ := two_vars w A.toArray #[.slice none 0 0] 33 109
  have hz := two_blocks w A.toArray #[.slice none 0 0] 33 109
  rw [← hV0] at h0 h1 hk hz
  have HWW := Lib.hid h; have HA := Lib.hid hA; have HU := Lib.hid hu; have HW := Lib.hid (h.new hk); have HOLD := Lib.hid h.old; have HGL := Lib.hid (fun w' (h : Keeps [] w w') => R.keepG hG h)
  have H0 := Lib.hid h0; have H1 := Lib.hid h1; have HK := Lib.hid hk; have HZ := Lib.hid hz
  have HRW := Lib.hid (block_range h0)
  rw [hV0] at HRW
  have HOB := Lib.hid (wdObjects_any R V0 (h.new hk))
  rw [hV0] at HOB
  clear h0 h1 hk hz h hG hu hA
  refine (callsIn_wide (n := 12)).1 ?_
  refine callsIn_of_wp_marks Tryz.func24 rfl trivial ?_ rfl
  simp only [Tryz.ntmps24, List.size_toArray, List.length_cons, List.length_nil, Nat.reduceAdd, Nat.reduceSub, Array.replicate_succ, Array.replicate_zero, List.push_toArray, List.append_toArray, List.nil_append, List.cons_append]
  gi_wp2_with ((with_reducible refine wideW (g := w.heap.size) HA.out ?_ ?_ HRW.out ?_); exact rfl; exact rfl)
  refine ⟨trivial, (callsIn_wide.2 HOB.out).mono ?_⟩
  rintro e w2 ⟨B, A2, rfl, hA2, hBB, hB, hk⟩
  obtain rfl : A2 = A.toArray := by simpa using hA2.symm
  rw [← hV0] at hBB hk
  have HB := Lib.hid hB; have HBB := Lib.hid hBB; have HK2 := Lib.hid (HK.out.trans hk (FSub.refl _ _)); have H02 := Lib.hid (hk.heap H0.out (by simp)); have H12 := Lib.hid (hk.heap H1.out (by simp)); have HW2 := Lib.hid (HW.out.new hk)
  clear hV0 hB hBB hk hA2 HOB HRW H0 H1 HW
  gi_wp2_with fail
  refine wpIn_rangeFunc_ownF (F := Fence.wide) rfl (by omega) (gf := 50) (lb := #[.pointer (some ⟨B, 0, none⟩)]) rfl trivial (enters_of Tryz.func50 (by kernel_rfl) rfl)
    (encs := fun o : Fin 8 => #[.int .u8 (o.val : Int)]) (Kp := KeB [w.heap.size + 1] w2.heap.size) (S := fun xs => xs.map (·.val) = oWL O) (Sp := fun pre => pre.map (·.val) <+: oWL O) (N := (oWL O).length) (w0 := w2)
    (wdIter_any R 11 w2.heap.size [w.heap.size + 1] B w2 A O (by omega) (fun w' hk => HGL.out w' (HK2.out.trans (hk.same rfl) (fun q hq => .inr (by simp at hq; omega)))) HW2.out HU.out HB.out (by have := HBB.out; have := HZ.out; simp; omega) (lt_of_block HB.out) (Nat.le_refl _) (fun q hq => by have h1 := HOLD.out q hq; have h2 := HK2.out.size; exact ⟨by simp; omega, by omega⟩))
    (fun h1 h2 => h1.trans h2) (fun W l o o' hl _ _ _ => keB_b W l o o' hl) (Below.refl _ _) (fun _ => rfl)
    (fun pre W => (∃ v, W.heap[w.heap.size + 1]? = some (.cells #[v] 109 (0, 0)) ∧ rkB.Own w2.heap.size W v (nb (listB O pre))) ∧ W.heap[w.heap.size]? = some (.cells A.toArray 33 (0, 0)) ∧ Keeps [] w W ∧ Keeps [w.heap.size + 1] w2 W)
    (fun _ _ _ => False) ?hI (fun _ _ _ _ _ h => h.elim) ⟨⟨.slice none 0 0, H12.out, RK.Own.nil rkB _ _⟩, H02.out, HK2.out, Keeps.refl _ _⟩
    (fun o => { tmps := #[.agg A.toArray, .pointer (some ⟨w.heap.size, 0, none⟩), .string ⟨#[]⟩, .pointer (some ⟨w.heap.size + 1, 0, none⟩), .int .u8 (o.val : Int), undef, .agg A.toArray, .func (.func 50) #[] #[.pointer (some ⟨B, 0, none⟩)], .int .u8 (o.val : Int), undef, undef, undef, undef, undef, undef, undef, undef, undef, undef, undef, undef, undef, undef, undef, undef, undef, undef, undef, undef, undef], defers := [] }) ?assign ?body ?done ?stop
  case hI =>
    refine OwnFrom.and ?_ (cells_own.and ((keeps_own (by have := HK2.out.size; omega)).and (keeps_own (Nat.le_refl _))))
    rintro s W W' row ⟨v, h1, h2⟩ hg hr
    have hr2 : ∀ r, row = some r → ∃ o : Obj, W.heap[r]? = some o ∧ o.isCells = false := fun r e => (hr r e).2
    exact ⟨v, cells_own (B := w2.heap.size) (β := Unit) (cs := fun _ => #[v]) () W W' row h1 hg hr, h2.abides hg hr2⟩
  case assign =>
    intro l x W K hK
    gi_wp2
    exact hK
  case body =>
    rintro l pre x W ⟨⟨v, hb, hrow⟩, hbox, hkw, hk2w⟩ hlen
    have hsW := hk2w.size
    have HK2W := Lib.hid hk2w
    clear hk2w
    cases O with
    | none => exact absurd hlen (Nat.not_lt_zero _)
    | some X =>
      have hXI := HWW.out.in_
      obtain ⟨u, hu, hu1, hat⟩ := HWW.out.one x.isLt
      have HAT := Lib.hid (show R.At W (.agg #[u]) (some (X.at x.val)) from R.new_ hat hkw)
      have HR := Lib.hid (one_range hbox hu); have HVO := Lib.hid (v_ok hu1)
      have HLN := Lib.hid (show (X.at x.val).len ≤ 1000 from HU.out X rfl _ (Wd.at_mem hXI x.isLt))
      have HSI := Lib.hid (Wd.at_in hXI x.isLt).2
      have HW0 := Lib.hid (show w2.heap.size ≤ W.heap.size from hsW)
      have HROWW := Lib.hid hrow; have HBXW := Lib.hid hbox; have HKW0 := Lib.hid hkw; have HBCW := Lib.hid hb
      have HROW := Lib.hid hrow; have HBX := Lib.hid hbox; have HKW := Lib.hid hkw; have HBC := Lib.hid hb
      have HPL := Lib.hid (show (listB (some X) pre).length ≤ 8 * 2303 from by
        have h1 := listB_len hXI (HU.out X rfl) pre
        have h2 : (oWL (some X)).length ≤ 8 := by
          show (X.li.map (·.1)).length ≤ 8
          rw [List.length_map]
          have := liW_len X.m 0 X.l
          rw [hXI.n] at this; exact this
        exact Nat.le_trans h1 (Nat.mul_le_mul_right _ (by omega)))
      have HNX := Lib.hid (listB_next X pre x)
      have HSB := Lib.hid (mdB_short HSI.out HLN.out)
      have x8 := x.isLt
      clear hu hu1 hat hrow hbox hkw hb hXI hlen
      have hx0 : (x.val : Int) < 8 := by omega
      have hx1 : 0 ≤ (x.val : Int) := by omega
      generalize X.at x.val = S at *
      generalize listB (some X) pre = L at *
      obtain ⟨xv, hxv⟩ : ∃ xv, xv = x.val := ⟨_, rfl⟩
      rw [← hxv] at hx0 hx1 x8 HR HNX ⊢
      clear hxv
      apply wpIn_block
      apply wpIn_seq_k; intro K1 hK1
      refine wpIn_region_plain ?_ rfl ?_
      · rintro ⟨a, w, h⟩; exact h
      go_wp2_with ((with_reducible refine wpList_loadM (g := w.heap.size) (off := xv) (A := [u]) HVO.out ?_ ?_ HR.out ?_); exact rfl; exact rfl)
      refine (R.enc W _ (some S) (HGL.out W HKW.out) HAT.out HLN.out).mono ?_; rintro e w3 ⟨rfl, hk3⟩
      rw [show oB (some S) = mdB S from rfl]
      have HROW3 := Lib.hid (HROW.out.keeps hk3 (by simp)); have HBX3 := Lib.hid (hk3.heap HBX.out (by simp)); have HK3 := Lib.hid (HKW.out.trans hk3 (FSub.refl _ _)); have HBC3 := Lib.hid (hk3.heap HBC.out (by simp))
      have HKO := Lib.hid hk3; have HSZ3 := Lib.hid (Nat.le_trans HW0.out hk3.size)
      clear hk3 HROW HBX HKW HBC HAT HR
      go_wp2_with fail
      apply wpIn_seq_k; intro K2 hK2
      refine wpIn_region_plain ?_ rfl ?_
      · rintro ⟨a, w, h⟩; exact h
      obtain ⟨n, hn⟩ : ∃ n, n = (mdB S).length := ⟨_, rfl⟩
      have hz : ((bs (mdB S)).size : Int) = n := by rw [hn]; rfl
      have hn2 : n ≤ 2300 := by rw [hn]; have := HSB.out; omega
      have hM : nb [UInt8.ofNat xv, UInt8.ofNat (n / 256), UInt8.ofNat (n % 256)] = [(xv : Int), ((bs (mdB S)).size : Int) / 256 % 256, ((bs (mdB S)).size : Int) % 256] := by
        rw [hz]
        simp only [nb, List.map_cons, List.map_nil, UInt8.toNat_ofNat', List.cons.injEq, and_true]
        omega
      have HM := Lib.hid hM; have HNN := Lib.hid hn
      have hrow := HROW3.out
      obtain ⟨a9, c9, rfl, hc9, hm9⟩ := hrow.shape
      have hbase := row_base hrow
      have hnL : (nb L).length ≤ 20000 := by rw [nb_length]; have := HPL.out; omega
      have hka : Keeps [] w3 (w3.alloc (.cells #[.int .u8 xv, .int .u8 (((bs (mdB S)).size : Int) / 256 % 256), .int .u8 (((bs (mdB S)).size : Int) % 256)] 5)) := (Keeps.refl _ _).alloc _
      have hnew := heap_alloc_new w3 (.cells #[.int .u8 xv, .int .u8 (((bs (mdB S)).size : Int) / 256 % 256), .int .u8 (((bs (mdB S)).size : Int) % 256)] 5)
      have hsz3 : w2.heap.size ≤ w3.heap.size ∧ w.heap.size + 1 < w2.heap.size := ⟨HSZ3.out, lt_of_block H12.out⟩
      obtain ⟨v', w4, hrun, hrow4, hk4, hf4⟩ := rkB.append _ w2.heap.size (Nat.le_trans hsz3.1 hka.size) _ _ (hrow.keeps hka (by simp)) [(xv : Int), ((bs (mdB S)).size : Int) / 256 % 256, ((bs (mdB S)).size : Int) % 256] (by simp; omega) ⟨w3.heap.size, 0, none⟩ 3 (by
        intro j u hj
        have hj2 : ([.int .u8 (xv : Int), .int .u8 (((bs (mdB S)).size : Int) / 256 % 256), .int .u8 (((bs (mdB S)).size : Int) % 256)] : List Value)[j]? = some u := hj
        rw [Addr.add_mid, Nat.zero_add]
        exact cell_lit hnew j (by simpa using hj2))
      obtain ⟨a8, c8, rfl, -, -⟩ := hrow4.shape
      have hbn : w.heap.size + 1 ∉ own (.slice a9 (nb L).length c9) := fun hq => by have := (hbase _ hq).1; omega
      have hbc4 := hk4.heap (hka.heap HBC3.out (by simp)) hbn
      have HRUN := Lib.hid (show (Builtin.append_ #[109, 109] 109 #[.slice a9 (nb L).length c9, .slice (some ⟨w3.heap.size, 0, none⟩) 3 3]).run Tryz.prog (w3.alloc (.cells #[.int .u8 xv, .int .u8 (((bs (mdB S)).size : Int) / 256 % 256), .int .u8 (((bs (mdB S)).size : Int) % 256)] 5)) = _ from hrun)
      have hkA : Keeps (own (.slice a9 (nb L).length c9)) w3 w4 := (hka.more (by simp)).trans hk4 (FSub.refl _ _)
      rw [← hM, ← nb_app14] at hrow4
      have HMM := Lib.hid hM
      generalize hv8 : (nb L ++ [(xv : Int), ((bs (mdB S)).size : Int) / 256 % 256, ((bs (mdB S)).size : Int) % 256]).length = n8 at *
      rw [← hM, ← nb_app14] at hv8
      rw [hv8] at hrow4
      clear hM hv8
      obtain ⟨w5, hw5⟩ : ∃ w5, w5 = w4.setCell ⟨w.heap.size + 1, 0, none⟩ (.slice a8 n8 c8) := ⟨_, rfl⟩
      have hk5 : Keeps [w.heap.size + 1] w4 w5 := by rw [hw5]; exact (Keeps.refl [w.heap.size + 1] w4).setCell _ _ (.inl (by simp))
      have hbc5 : w5.heap[w.heap.size + 1]? = some (.cells #[.slice a8 n8 c8] 109 (0, 0)) := by rw [hw5, heap_setCell_same w4 _ 0 _ 109 _ hbc4]; rfl
      have hrow5 := hrow4.keeps hk5 (fun q hq => by have := (row_base hrow4 q hq).1; simp; omega)
      obtain ⟨v'', w6, hrun2, hrow6, hk6⟩ := rkB_text w5 w2.heap.size (by have := hkA.size; have := hk5.size; omega) _ _ (mdB S) hrow5 (by simp; have := HPL.out; have := HSB.out; omega)
      obtain ⟨a7, c7, rfl, -, -⟩ := hrow6.shape
      have HRUN2 := Lib.hid hrun2
      have hbn5 : w.heap.size + 1 ∉ own (.slice a8 n8 c8) := fun hq => by have := (row_base hrow4 _ hq).1; omega
      have hbc6 := hk6.heap hbc5 hbn5
      generalize hn7 : (nb (L ++ [UInt8.ofNat xv, UInt8.ofNat (n / 256), UInt8.ofNat (n % 256)] ++ mdB S)).length = n7 at *
      obtain ⟨w7, hw7⟩ : ∃ w7, w7 = w6.setCell ⟨w.heap.size + 1, 0, none⟩ (.slice a7 n7 c7) := ⟨_, rfl⟩
      have hk7 : Keeps [w.heap.size + 1] w6 w7 := by rw [hw7]; exact (Keeps.refl [w.heap.size + 1] w6).setCell _ _ (.inl (by simp))
      have HBC7 := Lib.hid (show w7.heap[w.heap.size + 1]? = some (.cells #[.slice a7 n7 c7] 109 (0, 0)) from by rw [hw7, heap_setCell_same w6 _ 0 _ 109 _ hbc6]; rfl)
      have HROW7 := Lib.hid (hrow6.keeps hk7 (fun q hq => by have := (row_base hrow6 q hq).1; simp; omega))
      have HALL := Lib.hid (show Keeps ((w.heap.size + 1) :: own (.slice a9 (nb L).length c9)) W w7 from
        ((((HKO.out.more (by simp)).trans (hkA.more (fun q hq => List.mem_cons_of_mem _ hq)) (FSub.refl _ _)).trans (hk5.more (fun q hq => by simp at hq; simp [hq])) (FSub.refl _ _)).trans hk6 (fun q hq => by
          rcases hf4 q hq with h | h
          · exact .inl (List.mem_cons_of_mem _ h)
          · exact .inr (Nat.le_trans (Nat.le_trans HKO.out.size hka.size) h))).trans (hk7.more (fun q hq => by simp at hq; simp [hq])) (FSub.refl _ _))
      have HOB9 := Lib.hid hbase
      have c1 : w3.cell? ⟨w.heap.size + 1, 0, none⟩ = some (.slice a9 (nb L).length c9) := cell_lit HBC3.out 0 rfl
      have c4 : w4.cell? ⟨w.heap.size + 1, 0, none⟩ = some (.slice a9 (nb L).length c9) := cell_lit hbc4 0 rfl
      have f4 : w4.frozen? ⟨w.heap.size + 1, 0, none⟩ = false := by simp [World.frozen?, hbc4]
      have c5 : w5.cell? ⟨w.heap.size + 1, 0, none⟩ = some (.slice a8 n8 c8) := cell_lit hbc5 0 rfl
      have c6 : w6.cell? ⟨w.heap.size + 1, 0, none⟩ = some (.slice a8 n8 c8) := cell_lit hbc6 0 rfl
      have f6 : w6.frozen? ⟨w.heap.size + 1, 0, none⟩ = false := by simp [World.frozen?, hbc6]
      have hw5' := hw5.symm; have hw7' := hw7.symm
      clear hrow hc9 hm9 hbase hnL hka hnew hrun hrow4 hk4 hf4 hbn hbc4 hkA hw5 hk5 hbc5 hrow5 hrun2 hrow6 hk6 hbn5 hbc6 hw7 hk7 HROW3 HBC3 hz hn2 hsz3
      go_wp2_with (first
        | ((with_reducible refine wpList_app _ _ ?_ ?_ HRUN.out ?_); exact rfl; exact rfl))
      refine wpIn_region_plain ?_ rfl ?_
      · rintro ⟨a, w, h⟩; exact h
      go_wp2_with (first
        | ((with_reducible refine wpList_appS _ _ ?_ ?_ HRUN2.out ?_); exact rfl; exact rfl))
      have hkeb : KeB [w.heap.size + 1] w2.heap.size W w7 := (HALL.out.keB HW0.out).more (fun g hg => by
        rcases List.mem_cons.1 hg with h | h
        · exact .inl (by simp [h])
        · exact .inr (HOB9.out g h).1)
      have hoth : KeepsOthers W w7 := HALL.out.others (fun g hg o ho => by
        rcases List.mem_cons.1 hg with h | h
        · subst h; rw [HBCW.out] at ho; cases ho; rfl
        · obtain ⟨cs, t, f, h2⟩ := HROWW.out.cells_of g h
          rw [h2] at ho; cases ho; rfl)
      refine ⟨hoth, hkeb, ⟨.slice a7 n7 c7, HBC7.out, ?_⟩, ?_, ?_, ?_⟩
      · have h := HROW7.out
        have e : L ++ [UInt8.ofNat xv, UInt8.ofNat (n / 256), UInt8.ofNat (n % 256)] ++ mdB S = listB (some X) (pre ++ [x]) := by
          rw [HNX.out, itB, List.append_assoc, HNN.out]; rfl
        rw [e] at h
        exact h
      · exact HALL.out.heap HBXW.out (by
          intro hq
          rcases List.mem_cons.1 hq with h | h
          · omega
          · have := (HOB9.out _ h).1; have := HK2.out.size; have := lt_of_block H12.out; omega)
      · exact HKW0.out.trans HALL.out (fun q hq => .inr (by
          rcases List.mem_cons.1 hq with h | h
          · omega
          · have := (HOB9.out _ h).1; have := HK2.out.size; omega))
      · exact HK2W.out.trans HALL.out (fun q hq => by
          rcases List.mem_cons.1 hq with h | h
          · exact .inl (by simp [h])
          · exact .inr (HOB9.out q h).1)
  case done =>
    rintro D ys W hD hys ⟨⟨v, hb, hrow⟩, hbox, hkw, -⟩ hKD
    rw [listB_all hys] at hrow
    have hconv := conv_own W hrow
    obtain ⟨a9, c9, rfl, -, -⟩ := hrow.shape
    have c1 : W.cell? ⟨w.heap.size + 1, 0, none⟩ = some (.slice a9 (nb (oWB O)).length c9) := cell_lit hb 0 rfl
    gi_wp2
    refine ⟨by simp, .inl ⟨_, _, rfl, run_takeDeferred hKD, ?_⟩⟩
    exact ⟨_, results_tmp rfl _ _ _, rfl, hkw.putObj _ _ (by have := HK2.out.size; omega)⟩
  case stop =>
    rintro D c pre W hD hpre h hKD
    exact h.elim
end Go.Proofs.YtbnhcggjcdipeaaGreatDoor
