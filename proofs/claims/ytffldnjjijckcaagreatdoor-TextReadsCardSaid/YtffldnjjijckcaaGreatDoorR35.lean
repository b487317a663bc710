/-
  The document's Parse, way by way. (Printed by draft/genr6parse.py.)
-/
import Derived.Test.YtffldnjjijckcaaGreatDoorR25
import Derived.Test.YtffldnjjijckcaaGreatDoorR29
import Derived.Test.YtffldnjjijckcaaGreatDoorR33
import Derived.Test.YtffldnjjijckcaaGreatDoorR34
set_option linter.unusedSimpArgs false
set_option linter.unusedVariables false
namespace Go.Proofs.YtffldnjjijckcaaGreatDoor
open Go.RowKit
def R6ParsePost (s : List UInt8) (w : World) (e : Ending) (w' : World) : Prop :=
  ∃ tx rd, e = .returned (.tuple #[.agg (evC (lnX s) tx rd), .int .i64 (lnE s)]) ∧ EvKeeps w.heap.size w' tx rd (lnX s) ∧ Keeps [] w w'
theorem beh_len (c : UInt8) : ∀ (m : Nat) (s : List UInt8), (behN c m s).length ≤ s.length
  | 0, s => by unfold behN; rw [List.drop_zero, join_cut]; exact Nat.le_refl _
  | m + 1, s => by
    rcases cut_ways c s with h | ⟨w, r, h, rfl⟩
    · rw [beh_few (by rw [cnt_free c s h]; omega)]; simp
    · have := beh_len c m r
      have e : behN c (m + 1) (w ++ c :: r) = behN c m r := by unfold behN; rw [cutAt_hit c w r h, List.drop_succ_cons]
      rw [e]; simp; omega
theorem wpList_put_evc {ops : Array Oper} {rest : List Oper} {o : Oper} {a : Act} {w : World} {Q : Exit → Act → World → Prop} {T : TypeId} {x y : Operand} {b : Nat} {e : Ev} {tx rd : Value} {t : TypeId} {v : Value} (i : Nat) (e' : Ev) (tx' rd' : Value)
    (hgd : o.guard = none) (ho : o.op = .store T x y) (hx : a.eval x = .pointer (some ⟨b, i, none⟩)) (hy : a.eval y = v) (hg : w.heap[b]? = some (.cells (evC e tx rd) t (0, 0))) (hi : (Tryz.prog.info? T).map (·.size) = some 1) (h1 : v.oneCell' = true)
    (hc : ((evC e tx rd)[i]?).isSome = true) (hs : (evC e tx rd).setIfInBounds i v = evC e' tx' rd')
    (h : ∀ W, W.heap[b]? = some (.cells (evC e' tx' rd') t (0, 0)) → Keeps [b] w W → wpList Tryz.prog ops Q rest (a.put o.dst undef) W) : wpList Tryz.prog ops Q (o :: rest) a w :=
  wpList_plain hgd fun K hK => wp_put_cell i e' tx' rd' ho hx hy hg hi h1 hc hs (fun W h1 h2 => hK _ _ (h W h1 h2))
theorem R6ParsePost.no {s : List UInt8} {w w' : World} (h : lnX s = evZero ∧ lnE s = 4) (hk : Keeps [] w w') : R6ParsePost s w (.returned (.tuple #[.agg (evC evZero (.slice none 0 0) (.slice none 0 0)), .int .i64 4])) w' :=
  ⟨.slice none 0 0, .slice none 0 0, by rw [h.1, h.2], by rw [h.1]; exact fun _ _ _ _ => ⟨Mics.nil _ _, Lists.nil _ _⟩, hk⟩
theorem R6ParsePost.yes {s : List UInt8} {w w' : World} {x : Ev} {tx rd : Value} (h : lnX s = x ∧ lnE s = 0) (ht : EvKeeps w.heap.size w' tx rd x) (hk : Keeps [] w w') : R6ParsePost s w (.returned (.tuple #[.agg (evC x tx rd), .int .i64 0])) w' :=
  ⟨tx, rd, by rw [h.1, h.2], by rw [h.1]; exact ht, hk⟩
theorem Mics.up {N M : Nat} {w : World} {v : Value} {l : List Mic} (h : Mics N w v l) (hM : N ≤ M) : Mics M w v l := by
  obtain ⟨a, c, rfl, hc, hm, h⟩ := h
  exact ⟨a, c, rfl, hc, hm, fun hn => by obtain ⟨bk, o, rfl, hb, h'⟩ := h hn; exact ⟨bk, o, rfl, by omega, h'⟩⟩
theorem Lists.up {N M : Nat} {w : World} {v : Value} {l : List (List Int)} (h : Lists N w v l) (hM : N ≤ M) : Lists M w v l := by
  obtain ⟨a, c, rfl, hc, hm, h⟩ := h
  exact ⟨a, c, rfl, hc, hm, fun hn => by
    obtain ⟨bk, o, rfl, hb, h'⟩ := h hn
    exact ⟨bk, o, rfl, by omega, fun j hj => by obtain ⟨u, h1, h2⟩ := h' j hj; exact ⟨u, h1, h2.more hM⟩⟩⟩
theorem EvAt.up {N M : Nat} {w : World} {tx rd : Value} {x : Ev} (h : EvAt N w tx rd x) (hM : N ≤ M) : EvAt M w tx rd x := ⟨h.t.up hM, h.r.up hM⟩
theorem ev_set_cfg {w : World} {b : Nat} {x : Ev} {tx rd : Value} {t : TypeId} (h : w.heap[b]? = some (.cells (evC x tx rd) t (0, 0))) (g : Cfg) :
    (((((((w.setCell ⟨b, 12, none⟩ (.int .u8 g.m)).setCell ⟨b, 13, none⟩ (.int .i64 g.mo)).setCell ⟨b, 14, none⟩ (.int .i64 g.ms)).setCell ⟨b, 15, none⟩ (.int .i64 g.mt)).setCell ⟨b, 16, none⟩ (.bool g.p)).setCell ⟨b, 17, none⟩ (.bool g.cu)).setCell ⟨b, 18, none⟩ (.bool g.me)).heap[b]? = some (.cells (evC { x with g := g } tx rd) t (0, 0)) :=
  ev_set (ev_set (ev_set (ev_set (ev_set (ev_set (ev_set h 12 (.int .u8 g.m) (y := { x with g := { x.g with m := g.m } }) rfl) 13 (.int .i64 g.mo) (y := { x with g := { x.g with m := g.m, mo := g.mo } }) rfl) 14 (.int .i64 g.ms) (y := { x with g := { x.g with m := g.m, mo := g.mo, ms := g.ms } }) rfl) 15 (.int .i64 g.mt) (y := { x with g := { x.g with m := g.m, mo := g.mo, ms := g.ms, mt := g.mt } }) rfl)
    16 (.bool g.p) (y := { x with g := { x.g with m := g.m, mo := g.mo, ms := g.ms, mt := g.mt, p := g.p } }) rfl) 17 (.bool g.cu) (y := { x with g := { x.g with m := g.m, mo := g.mo, ms := g.ms, mt := g.mt, p := g.p, cu := g.cu } }) rfl) 18 (.bool g.me) (y := { x with g := g }) rfl
theorem wpList_put_cfg12 {ops : Array Oper} {rest : List Oper} {a : Act} {w : World} {Q : Exit → Act → World → Prop} {dst : Option Tmp} {ty : TypeId} {pos : String} {after : Array Edge} {x y : Operand} {b : Nat} {e : Ev} {tx rd : Value} {t : TypeId} {g : Cfg}
    (hx : a.eval x = .pointer (some ⟨b, 12, none⟩)) (hy : a.eval y = .agg (cfgL g).toArray) (hg : w.heap[b]? = some (.cells (evC e tx rd) t (0, 0)))
    (h : ∀ W, W.heap[b]? = some (.cells (evC { e with g := g } tx rd) t (0, 0)) → Keeps [b] w W → wpList Tryz.prog ops Q rest (a.put dst undef) W) :
    wpList Tryz.prog ops Q ({ dst := dst, op := .store 30 x y, type := ty, pos := pos, after := after, guard := none } :: rest) a w := by
  refine wpList_store_mid rfl 30 x y rfl b 12 (cfgL g).toArray hx hy (fun j hj => ⟨?_, ev_thaw hg _⟩) (by kernel_rfl) (by rw [← Array.all_toList]; rfl)
    (h _ (ev_set_cfg hg g) ((((((((Keeps.refl [b] w).own b 12 _).own b 13 _).own b 14 _).own b 15 _).own b 16 _).own b 17 _).own b 18 _))
  have hj2 : j < 7 := hj
  rcases (by omega : j = 0 ∨ j = 1 ∨ j = 2 ∨ j = 3 ∨ j = 4 ∨ j = 5 ∨ j = 6) with rfl | rfl | rfl | rfl | rfl | rfl | rfl
  all_goals rw [ev_cell hg _ rfl]; rfl
/-- An event's lists as new rows. -/
def EvRows (base : Nat) (W : World) (tx rd : Value) (x : Ev) : Prop := W.ownsRow base 70 3 tx x.t.length (micsC x.t) ∧ ∃ us, W.ownsRow base 54 1 rd us.length us ∧ Inner base W us x.r
theorem EvRows.at {base : Nat} {W : World} {tx rd : Value} {x : Ev} (h : EvRows base W tx rd x) : EvAt W.heap.size W tx rd x := by
  obtain ⟨h1, us, h2, h3⟩ := h
  rw [h3.1] at h2
  exact ⟨mics_row h1, lists_row h2 h3⟩
theorem EvRows.keeps {base : Nat} {W W' : World} {tx rd : Value} {x : Ev} {F : List Nat} (h : EvRows base W tx rd x) (hk : Keeps F W W') (hF : ∀ q ∈ F, q < base) : EvRows base W' tx rd x := by
  obtain ⟨h1, us, h2, h3⟩ := h
  exact ⟨row_old h1 hk (fun q hq hf => by have := (row_base h1 q hq).1; have := hF q hf; omega), us, row_old h2 hk (fun q hq hf => by have := (row_base h2 q hq).1; have := hF q hf; omega), h3.keeps hk (fun q hq => .inl (hF q hq))⟩
theorem EvRows.kept {base b2 : Nat} {W : World} {tx rd : Value} {x : Ev} (h : EvRows base W tx rd x) (hb : b2 ≤ base) : EvKeeps b2 W tx rd x :=
  fun F W' hk hF => (h.keeps hk (fun q hq => Nat.lt_of_lt_of_le (hF q hq) hb)).at
theorem EvRows.nil {base : Nat} {W : World} {x : Ev} (h1 : x.t = []) (h2 : x.r = []) : EvRows base W (.slice none 0 0) (.slice none 0 0) x := by
  unfold EvRows
  rw [h1, h2]
  exact ⟨World.ownsRow_nil _ _ _ _, [], World.ownsRow_nil _ _ _ _, rfl, fun j hj => by simp at hj⟩
set_option maxHeartbeats 16000000 in
set_option maxRecDepth 100000 in
theorem r6Parse_cfg (w : World) (s : List UInt8) (hs : s.length ≤ 90000) (hk : (cutAt 32 s).getD 0 [] = configL) :
    Calls Tryz.prog 11 #[.string (bs s)] w (R6ParsePost s w) := by
  have htc : ((bs ((cutAt 32 s).getD 0 [])).toList == [99, 111, 110, 102, 105, 103]) = true := by rw [toL_bs, hk]; rfl
  have hxe : dcX s = { evZero with k := 1, g := (dcCfg ((cutAt 32 s).drop 1)).getD cfgZero } := by unfold dcX; rw [if_pos hk]
  have hie : dcI s = (dcCfg ((cutAt 32 s).drop 1)).isSome := by unfold dcI; rw [if_pos hk]
  have HXE := Lib.hid hxe; have HIE := Lib.hid hie
  clear hk hxe hie
  have hcut := fun w => r6Cut_any w s 32 hs
  unfold Words6 at hcut
  have hne := cutAt_ne 32 s
  have hpl := cut_part_le 32 s
  have hll := cut_len_le 32 s
  generalize hL : cutAt 32 s = L at *
  have HL := Lib.hid hL
  have HPL := Lib.hid hpl
  clear hL hpl
  have hk0 := (Keeps.refl [] w).alloc (.cells (evC evZero (.slice none 0 0) (.slice none 0 0)) 32)
  have hb0 := heap_alloc_new w (.cells (evC evZero (.slice none 0 0) (.slice none 0 0)) 32)
  have HK0 := Lib.hid hk0; have HB0 := Lib.hid hb0
  have HCT := Lib.hid hcut
  clear hk0 hb0 hcut
  generalize hS : bs s = S at *
  have HS := Lib.hid hS
  clear hS
  go_enter Tryz.func11, Tryz.ntmps11
  go_wp2_with fail
  refine (HCT.out _).mono ?_; rintro z w1 ⟨v1, rfl, hrow1, hk1⟩
  have hst1 := Strs.row (row_up (b2 := 0) hrow1 (fun _ _ => Nat.zero_le _))
  obtain ⟨a1, c1, rfl, hc1, hm1⟩ := hst1.shape
  obtain ⟨-, -, -, bk, o, rfl, hbN, hcell, hdrop⟩ := hst1.at hne
  have hb01 : w1.heap[w.heap.size]? = some (.cells (evC evZero (.slice none 0 0) (.slice none 0 0)) 32 (0, 0)) := hk1.heap HB0.out (by simp)
  have HK1 := Lib.hid (HK0.out.trans hk1 (FSub.refl _ _))
  have hka := (Keeps.refl [] w1).alloc (.cells (evC evZero (.slice none 0 0) (.slice none 0 0)) 32)
  have HW0 := Lib.hid (lt_of_block hb01)
  have HKA := Lib.hid hka; have HB01 := Lib.hid hb01
  have HCL := Lib.hid hcell; have HDR := Lib.hid hdrop
  have hx0 : w1.cell? ⟨bk, o, none⟩ = some (.string (bs (L.getD 0 []))) := hcell 0 (List.length_pos_iff.2 hne)
  have hn0 : ¬ L.length = 0 := fun e => hne (List.eq_nil_of_length_eq_zero e)
  have hn1 : 1 ≤ L.length := by omega
  have hc2 : (c1 : Int) ≤ 9223372036854775807 := by omega
  have hbkn : bk < w1.heap.size := hbN
  have hcc1 : 1 ≤ c1 := by omega
  clear hk1 hrow1 hst1 hcell hdrop hb01 HK0 HB0 HCT hka hne
  generalize hn : L.length = n at *
  have HN := Lib.hid hn
  clear hn
  generalize bs (L.getD 0 []) = X0 at *
  go_wp2_with ((with_reducible apply wpList_put_ev); exact rfl; exact rfl; (first | assumption | (refine heap_alloc_lt ?_; assumption) | (refine heap_alloc_lt (heap_alloc_lt ?_); assumption) | exact heap_alloc_at (by simp)); exact ⟨rfl, rfl⟩; exact rfl)
  intro W2 hb2 hk2
  have hq2 : Keeps [] w1 W2 := HKA.out.trans hk2 (fun q hq => .inr (by simp at hq; omega))
  replace hb2 : W2.heap[w1.heap.size]? = some (.cells (evC evZero (.slice none 0 0) (.slice none 0 0)) 32 (0, 0)) := hb2
  have hb02 := hq2.heap HB01.out (by simp)
  replace hx0 := hq2.cell hx0 (by simp)
  have HB2 := Lib.hid hb2; have HB02 := Lib.hid hb02; have HQ2 := Lib.hid hq2
  have e0 := ev_cell hb2 0 (evC_0 _ _ _); have e1 := ev_cell hb2 1 (evC_1 _ _ _); have e2 := ev_cell hb2 2 (evC_2 _ _ _)
  have f0 := ev_thaw hb2 0; have f1 := ev_thaw hb2 1; have f2 := ev_thaw hb2 2
  have hlt2 : w1.heap.size < W2.heap.size := lt_of_block hb2
  clear hk2 hb2 hb02 hq2 HKA HB01
  obtain ⟨A2, hA2⟩ : ∃ A, (if c1 = 1 then some (⟨bk, o, none⟩ : Addr) else some ⟨bk, o + 1, none⟩) = A := ⟨_, rfl⟩
  have HA2 := Lib.hid hA2
  go_wp2_with fail
  have hb3 := ev_set HB2.out 0 (.int .u8 1) (y := { evZero with k := 1 }) rfl
  have hq3 := (Keeps.refl [w1.heap.size] W2).own w1.heap.size 0 (.int .u8 1)
  have hb03 := hq3.heap HB02.out (by have := HW0.out; simp; omega)
  have hs3 : Strs w1.heap.size (W2.setCell ⟨w1.heap.size, 0, none⟩ (.int .u8 1)) (.slice A2 (n - 1) (c1 - 1)) (L.drop 1) := ((HDR.out 1 hn1 A2 (fun hd => drop_addr HA2.out (by rw [HN.out]; exact hc1) hd)).keeps HQ2.out).set w1.heap.size 0 (Nat.le_refl _) _
  have hkw3 : Keeps [] w1 (W2.setCell ⟨w1.heap.size, 0, none⟩ (.int .u8 1)) := HQ2.out.setCell _ _ (.inr (Nat.le_refl _))
  have hcf := r6config_any _ _ (L.drop 1) hs3 hkw3.size (by rw [List.length_drop, HN.out]; omega) (fun x hx => by have := HPL.out x (List.mem_of_mem_drop hx); omega)
  unfold CfgPost at hcf
  have HK3 := Lib.hid (HK1.out.trans hkw3 (FSub.refl _ _))
  have HB3 := Lib.hid hb3; have HB03 := Lib.hid hb03
  clear hb3 hb03 hq3 hs3 hkw3 e0 e1 e2 f0 f1 f2 hlt2 HB2 HB02 HQ2 hx0 htc HDR HCL HA2
  generalize W2.setCell ⟨w1.heap.size, 0, none⟩ (.int .u8 1) = W3 at *
  generalize (dcCfg (L.drop 1)).getD cfgZero = g at *
  generalize (dcCfg (L.drop 1)).isSome = b at *
  refine hcf.mono ?_; rintro z w4 ⟨rfl, hk4⟩
  have HB4 := Lib.hid (hk4.heap HB3.out (by simp))
  have HB04 := Lib.hid (hk4.heap HB03.out (by simp))
  have HK4 := Lib.hid (HK3.out.trans hk4 (FSub.refl _ _))
  clear hk4 hcf HB3 HB03 HK3
  go_wp2_with ((with_reducible apply wpList_put_cfg12); exact rfl; exact rfl; exact HB4.out)
  intro W5 hb5 hk5
  have hev : W5.heap[w1.heap.size]? = some (.cells (evC { evZero with k := 1, g := g } (.slice none 0 0) (.slice none 0 0)) 32 (0, 0)) := hb5
  rw [← HXE.out] at hev
  have HEV := Lib.hid hev
  have HB := Lib.hid (hk5.heap HB04.out (by have := HW0.out; simp; omega))
  have HKW := Lib.hid (HK4.out.trans hk5 (fun q hq => .inr (by simp at hq; have := HW0.out; omega)))
  have HRW : Hid (EvRows (w1.heap.size + 1) W5 (.slice none 0 0) (.slice none 0 0) (dcX s)) := Lib.hid (EvRows.nil (by rw [HXE.out]; rfl) (by rw [HXE.out]; rfl))
  clear hb5 hk5 hev HXE HB4 HB04 HK4
  cases b with
  | true =>
    have hxi := dcX_in s
    have hnoI : dcI s = false → _ := fun h => dc_no (s := s) (.inl h)
    have hnoG : evGood (dcX s) = false → _ := fun h => dc_no (s := s) (.inr (.inl h))
    have hnoL : evLine (dcX s) ≠ s → _ := fun h => dc_no (s := s) (.inr (.inr h))
    have hyes : dcI s = true → evGood (dcX s) = true → evLine (dcX s) = s → _ := fun h1 h2 h3 => dc_yes (s := s) h1 h2 h3
    have hln := r6Line_any _ (dcX s) hxi _ _ HRW.out.at (Nat.le_refl _)
    unfold R6LinePost at hln
    generalize dcX s = x at *
    have HNI := Lib.hid hnoI; have HNG := Lib.hid hnoG; have HNL := Lib.hid hnoL; have HYS := Lib.hid hyes
    clear hnoI hnoG hnoL hyes hxi
    rcases bool_two (evGood x) with hg | hg
    · have hE : evErr x = 0 := by unfold evErr; rw [hg]; rfl
      rw [hE] at hln
      by_cases hl : evLine x = s
      · have HYES := Lib.hid (HYS.out HIE.out hg hl)
        have t9 : ((bs (lineX x)).toList == S.toList) = true := by
          rw [← HS.out, toL_bs, toL_bs]
          unfold lineX
          rw [hg]
          simpa using hl
        generalize bs (lineX x) = LX at *
        have HLN := Lib.hid hln
        clear hln HNI HNG HNL HYS HIE hE hl hg
        have hevp := HEV.out
        go_wp2_with ((with_reducible apply wpList_load_ev); exact rfl; (first | assumption | (refine heap_alloc_lt ?_; assumption) | (refine heap_alloc_lt (heap_alloc_lt ?_); assumption) | exact heap_alloc_at (by simp)); exact rfl)
        refine HLN.out.mono ?_; rintro z w8 ⟨rfl, hk8⟩
        have hb8 := hk8.heap HEV.out (by simp)
        have hb80 := hk8.heap HB.out (by simp)
        have HB80 := Lib.hid hb80
        have HK8 := Lib.hid (HKW.out.trans hk8 (FSub.refl _ _))
        have HR8 := Lib.hid (HRW.out.keeps hk8 (by simp))
        clear hk8 HLN HEV HB HRW HKW hb80 hevp
        go_wp2_with (first | ((with_reducible apply wpList_load_ev); exact rfl; (first | assumption | (refine heap_alloc_lt ?_; assumption) | (refine heap_alloc_lt (heap_alloc_lt ?_); assumption) | exact heap_alloc_at (by simp)); exact rfl) | ((with_reducible apply wpList_put_ev); exact rfl; exact rfl; exact HB80.out; exact ⟨rfl, rfl⟩; first | exact rfl | (refine evC_one _ ?_ ?_ <;> first | rfl | exact row_one HR8.out.1 | exact row_one HR8.out.2.choose_spec.1)))
        intro W9 hb9 hk9
        go_wp2_with fail
        try simp only [Exit.inBlock, Exit.then]
        exact bodyPost_ret (results_ev2 (p := 2) (u := 3) rfl _ _ _ rfl hb9) rfl (R6ParsePost.yes HYES.out ((HR8.out.keeps hk9 (fun q hq => by simp at hq; have := HW0.out; omega)).kept (by have := HW0.out; omega)) (HK8.out.trans hk9 (fun q hq => .inr (by simp at hq; omega))))
      · have HNO := Lib.hid (HNL.out hl)
        have t9 : ((bs (lineX x)).toList == S.toList) = false := by
          rw [← HS.out, toL_bs, toL_bs, beq_eq_false_iff_ne]
          unfold lineX
          rw [hg]
          simpa using hl
        generalize bs (lineX x) = LX at *
        have HLN := Lib.hid hln
        clear hln HNI HNG HNL HYS HIE hE hl hg
        have hevp := HEV.out
        go_wp2_with ((with_reducible apply wpList_load_ev); exact rfl; (first | assumption | (refine heap_alloc_lt ?_; assumption) | (refine heap_alloc_lt (heap_alloc_lt ?_); assumption) | exact heap_alloc_at (by simp)); exact rfl)
        refine HLN.out.mono ?_; rintro z w8 ⟨rfl, hk8⟩
        have hb8 := hk8.heap HEV.out (by simp)
        have hb80 := hk8.heap HB.out (by simp)
        have HB80 := Lib.hid hb80
        have HK8 := Lib.hid (HKW.out.trans hk8 (FSub.refl _ _))
        have HR8 := Lib.hid (HRW.out.keeps hk8 (by simp))
        clear hk8 HLN HEV HB HRW HKW hb80 hevp
        go_wp2_with (first | ((with_reducible apply wpList_load_ev); exact rfl; (first | assumption | (refine heap_alloc_lt ?_; assumption) | (refine heap_alloc_lt (heap_alloc_lt ?_); assumption) | exact heap_alloc_at (by simp)); exact rfl) | ((with_reducible apply wpList_put_ev); exact rfl; exact rfl; exact HB80.out; exact ⟨rfl, rfl⟩; first | exact rfl | (refine evC_one _ ?_ ?_ <;> first | rfl | exact row_one HR8.out.1 | exact row_one HR8.out.2.choose_spec.1)))
        intro W9 hb9 hk9
        replace hb9 : W9.heap[w.heap.size]? = some (.cells (evC evZero (.slice none 0 0) (.slice none 0 0)) 32 (0, 0)) := hb9
        go_wp2_with fail
        try simp only [Exit.inBlock, Exit.then]
        exact bodyPost_ret (results_ev2 (p := 2) (u := 3) rfl _ _ _ rfl hb9) rfl (R6ParsePost.no HNO.out (HK8.out.trans hk9 (fun q hq => .inr (by simp at hq; omega))))
    · have HNO := Lib.hid (HNG.out hg)
      have hE : evErr x = 4 := by unfold evErr; rw [hg]; rfl
      rw [hE] at hln
      generalize bs (lineX x) = LX at *
      have HLN := Lib.hid hln
      clear hln HNI HNG HNL HYS HIE hE hg
      have hevp := HEV.out
      go_wp2_with ((with_reducible apply wpList_load_ev); exact rfl; (first | assumption | (refine heap_alloc_lt ?_; assumption) | (refine heap_alloc_lt (heap_alloc_lt ?_); assumption) | exact heap_alloc_at (by simp)); exact rfl)
      refine HLN.out.mono ?_; rintro z w8 ⟨rfl, hk8⟩
      have hb8 := hk8.heap HEV.out (by simp)
      have hb80 := hk8.heap HB.out (by simp)
      have HB80 := Lib.hid hb80
      have HK8 := Lib.hid (HKW.out.trans hk8 (FSub.refl _ _))
      have HR8 := Lib.hid (HRW.out.keeps hk8 (by simp))
      clear hk8 HLN HEV HB HRW HKW hb80 hevp
      go_wp2_with (first | ((with_reducible apply wpList_load_ev); exact rfl; (first | assumption | (refine heap_alloc_lt ?_; assumption) | (refine heap_alloc_lt (heap_alloc_lt ?_); assumption) | exact heap_alloc_at (by simp)); exact rfl) | ((with_reducible apply wpList_put_ev); exact rfl; exact rfl; exact HB80.out; exact ⟨rfl, rfl⟩; first | exact rfl | (refine evC_one _ ?_ ?_ <;> first | rfl | exact row_one HR8.out.1 | exact row_one HR8.out.2.choose_spec.1)))
      intro W9 hb9 hk9
      replace hb9 : W9.heap[w.heap.size]? = some (.cells (evC evZero (.slice none 0 0) (.slice none 0 0)) 32 (0, 0)) := hb9
      go_wp2_with fail
      try simp only [Exit.inBlock, Exit.then]
      exact bodyPost_ret (results_ev2 (p := 2) (u := 3) rfl _ _ _ rfl hb9) rfl (R6ParsePost.no HNO.out (HK8.out.trans hk9 (fun q hq => .inr (by simp at hq; omega))))
  | false =>
    have hxi := dcX_in s
    have hnoI : dcI s = false → _ := fun h => dc_no (s := s) (.inl h)
    have hnoG : evGood (dcX s) = false → _ := fun h => dc_no (s := s) (.inr (.inl h))
    have hnoL : evLine (dcX s) ≠ s → _ := fun h => dc_no (s := s) (.inr (.inr h))
    have hyes : dcI s = true → evGood (dcX s) = true → evLine (dcX s) = s → _ := fun h1 h2 h3 => dc_yes (s := s) h1 h2 h3
    have hln := r6Line_any _ (dcX s) hxi _ _ HRW.out.at (Nat.le_refl _)
    unfold R6LinePost at hln
    generalize dcX s = x at *
    have HNI := Lib.hid hnoI; have HNG := Lib.hid hnoG; have HNL := Lib.hid hnoL; have HYS := Lib.hid hyes
    clear hnoI hnoG hnoL hyes hxi
    have HNO := Lib.hid (HNI.out HIE.out)
    generalize bs (lineX x) = LX at *
    generalize evErr x = EE at *
    have HLN := Lib.hid hln
    clear hln HNI HNG HNL HYS HIE
    have hevp := HEV.out
    go_wp2_with ((with_reducible apply wpList_load_ev); exact rfl; (first | assumption | (refine heap_alloc_lt ?_; assumption) | (refine heap_alloc_lt (heap_alloc_lt ?_); assumption) | exact heap_alloc_at (by simp)); exact rfl)
    refine HLN.out.mono ?_; rintro z w8 ⟨rfl, hk8⟩
    have hb8 := hk8.heap HEV.out (by simp)
    have hb80 := hk8.heap HB.out (by simp)
    have HB80 := Lib.hid hb80
    have HK8 := Lib.hid (HKW.out.trans hk8 (FSub.refl _ _))
    have HR8 := Lib.hid (HRW.out.keeps hk8 (by simp))
    clear hk8 HLN HEV HB HRW HKW hb80 hevp
    go_wp2_with (first | ((with_reducible apply wpList_load_ev); exact rfl; (first | assumption | (refine heap_alloc_lt ?_; assumption) | (refine heap_alloc_lt (heap_alloc_lt ?_); assumption) | exact heap_alloc_at (by simp)); exact rfl) | ((with_reducible apply wpList_put_ev); exact rfl; exact rfl; exact HB80.out; exact ⟨rfl, rfl⟩; first | exact rfl | (refine evC_one _ ?_ ?_ <;> first | rfl | exact row_one HR8.out.1 | exact row_one HR8.out.2.choose_spec.1)))
    intro W9 hb9 hk9
    replace hb9 : W9.heap[w.heap.size]? = some (.cells (evC evZero (.slice none 0 0) (.slice none 0 0)) 32 (0, 0)) := hb9
    go_wp2_with fail
    try simp only [Exit.inBlock, Exit.then]
    exact bodyPost_ret (results_ev2 (p := 2) (u := 3) rfl _ _ _ rfl hb9) rfl (R6ParsePost.no HNO.out (HK8.out.trans hk9 (fun q hq => .inr (by simp at hq; omega))))
set_option maxHeartbeats 16000000 in
set_option maxRecDepth 100000 in
theorem r6Parse_4 (w : World) (s : List UInt8) (hs : s.length ≤ 90000) (hk : (cutAt 32 s).getD 0 [] = infoL) (hwho : dcWho (cutAt 32 s) = true) :
    Calls Tryz.prog 11 #[.string (bs s)] w (R6ParsePost s w) := by
  have ht1 : ((bs ((cutAt 32 s).getD 0 [])).toList == [99, 111, 110, 102, 105, 103]) = false := by rw [toL_bs, hk]; decide
  have ht2 : ((bs ((cutAt 32 s).getD 0 [])).toList == [105, 110, 118, 111, 107, 101]) = false := by rw [toL_bs, hk]; decide
  have ht3 : ((bs ((cutAt 32 s).getD 0 [])).toList == [114, 101, 116, 117, 114, 110]) = false := by rw [toL_bs, hk]; decide
  have ht4 : ((bs ((cutAt 32 s).getD 0 [])).toList == [105, 110, 102, 111]) = true := by rw [toL_bs, hk]; decide
  have ht5 : ((bs ((cutAt 32 s).getD 0 [])).toList == [98, 101, 103, 105, 110]) = false := by rw [toL_bs, hk]; decide
  have ht6 : ((bs ((cutAt 32 s).getD 0 [])).toList == [99, 111, 109, 109, 105, 116]) = false := by rw [toL_bs, hk]; decide
  have ht7 : ((bs ((cutAt 32 s).getD 0 [])).toList == [97, 98, 111, 114, 116]) = false := by rw [toL_bs, hk]; decide
  have hxe : dcX s = { evZero with k := 4, c := sm ((cutAt 32 s).getD 1 []), id := sm ((cutAt 32 s).getD 2 []) } := by unfold dcX; rw [if_neg (by rw [hk]; decide), hwho, if_pos rfl, hk]; rfl
  have hie : dcI s = true := by unfold dcI; rw [if_neg (by rw [hk]; decide), hwho, if_pos rfl, hk]; rfl
  have HXE := Lib.hid hxe; have HIE := Lib.hid hie
  clear hxe hie
  clear hk
  unfold dcWho at hwho
  simp only [decide_eq_true_eq] at hwho
  obtain ⟨hw3, hcA, hcB, hiA⟩ := hwho
  have hcut := fun w => r6Cut_any w s 32 hs
  unfold Words6 at hcut
  have hne := cutAt_ne 32 s
  have hpl := cut_part_le 32 s
  have hll := cut_len_le 32 s
  generalize hL : cutAt 32 s = L at *
  have HL := Lib.hid hL
  have HPL := Lib.hid hpl
  clear hL hpl
  have hk0 := (Keeps.refl [] w).alloc (.cells (evC evZero (.slice none 0 0) (.slice none 0 0)) 32)
  have hb0 := heap_alloc_new w (.cells (evC evZero (.slice none 0 0) (.slice none 0 0)) 32)
  have HK0 := Lib.hid hk0; have HB0 := Lib.hid hb0
  have HCT := Lib.hid hcut
  clear hk0 hb0 hcut
  generalize hS : bs s = S at *
  have HS := Lib.hid hS
  clear hS
  go_enter Tryz.func11, Tryz.ntmps11
  go_wp2_with fail
  refine (HCT.out _).mono ?_; rintro z w1 ⟨v1, rfl, hrow1, hk1⟩
  have hst1 := Strs.row (row_up (b2 := 0) hrow1 (fun _ _ => Nat.zero_le _))
  obtain ⟨a1, c1, rfl, hc1, hm1⟩ := hst1.shape
  obtain ⟨-, -, -, bk, o, rfl, hbN, hcell, hdrop⟩ := hst1.at hne
  have hb01 : w1.heap[w.heap.size]? = some (.cells (evC evZero (.slice none 0 0) (.slice none 0 0)) 32 (0, 0)) := hk1.heap HB0.out (by simp)
  have HK1 := Lib.hid (HK0.out.trans hk1 (FSub.refl _ _))
  have hka := (Keeps.refl [] w1).alloc (.cells (evC evZero (.slice none 0 0) (.slice none 0 0)) 32)
  have HW0 := Lib.hid (lt_of_block hb01)
  have HKA := Lib.hid hka; have HB01 := Lib.hid hb01
  have HCL := Lib.hid hcell; have HDR := Lib.hid hdrop
  have hx0 : w1.cell? ⟨bk, o, none⟩ = some (.string (bs (L.getD 0 []))) := hcell 0 (List.length_pos_iff.2 hne)
  have hn0 : ¬ L.length = 0 := fun e => hne (List.eq_nil_of_length_eq_zero e)
  have hn1 : 1 ≤ L.length := by omega
  have hc2 : (c1 : Int) ≤ 9223372036854775807 := by omega
  have hbkn : bk < w1.heap.size := hbN
  have hcc1 : 1 ≤ c1 := by omega
  clear hk1 hrow1 hst1 hcell hdrop hb01 HK0 HB0 HCT hka hne
  generalize hn : L.length = n at *
  have HN := Lib.hid hn
  clear hn
  generalize bs (L.getD 0 []) = X0 at *
  go_wp2_with ((with_reducible apply wpList_put_ev); exact rfl; exact rfl; (first | assumption | (refine heap_alloc_lt ?_; assumption) | (refine heap_alloc_lt (heap_alloc_lt ?_); assumption) | exact heap_alloc_at (by simp)); exact ⟨rfl, rfl⟩; exact rfl)
  intro W2 hb2 hk2
  have hq2 : Keeps [] w1 W2 := HKA.out.trans hk2 (fun q hq => .inr (by simp at hq; omega))
  replace hb2 : W2.heap[w1.heap.size]? = some (.cells (evC evZero (.slice none 0 0) (.slice none 0 0)) 32 (0, 0)) := hb2
  have hb02 := hq2.heap HB01.out (by simp)
  replace hx0 := hq2.cell hx0 (by simp)
  have HB2 := Lib.hid hb2; have HB02 := Lib.hid hb02; have HQ2 := Lib.hid hq2
  have e0 := ev_cell hb2 0 (evC_0 _ _ _); have e1 := ev_cell hb2 1 (evC_1 _ _ _); have e2 := ev_cell hb2 2 (evC_2 _ _ _)
  have f0 := ev_thaw hb2 0; have f1 := ev_thaw hb2 1; have f2 := ev_thaw hb2 2
  have hlt2 : w1.heap.size < W2.heap.size := lt_of_block hb2
  clear hk2 hb2 hb02 hq2 HKA HB01
  have hg1 : (L.getD 1 []).length ≤ 1000000 := by
    by_cases hj : 1 < L.length
    · have := HPL.out (L.getD 1 []) (by rw [List.getD_eq_getElem?_getD, List.getElem?_eq_getElem hj]; exact List.getElem_mem hj); omega
    · rw [List.getD_eq_getElem?_getD, List.getElem?_eq_none (by omega)]; simp
  have hg2 : (L.getD 2 []).length ≤ 1000000 := by
    by_cases hj : 2 < L.length
    · have := HPL.out (L.getD 2 []) (by rw [List.getD_eq_getElem?_getD, List.getElem?_eq_getElem hj]; exact List.getElem_mem hj); omega
    · rw [List.getD_eq_getElem?_getD, List.getElem?_eq_none (by omega)]; simp
  have hsa := fun w => r6small_any w (L.getD 1 []) (by rw [bs_size]; omega)
  have hsb := fun w => r6small_any w (L.getD 2 []) (by rw [bs_size]; omega)
  have S1 := Lib.hid hsa; have S2 := Lib.hid hsb
  have hbi := sm_bounds (L.getD 2 [])
  have hbc := sm_bounds (L.getD 1 [])
  clear hsa hsb hg1 hg2
  have x1 := HQ2.out.cell (HCL.out 1 (by omega)) (by simp)
  have x2 := HQ2.out.cell (HCL.out 2 (by omega)) (by simp)
  generalize sm (L.getD 1 []) = c at *
  generalize sm (L.getD 2 []) = i at *
  generalize bs (L.getD 1 []) = X1 at *
  generalize bs (L.getD 2 []) = X2 at *
  have hn2 : 2 < n := by omega
  have hn1' : 1 < n := by omega
  have hwc : IntKind.u8.wrap c = c := by simp [IntKind.wrap, IntKind.bits, IntKind.signed]; omega
  have hwi : IntKind.u16.wrap i = i := by simp [IntKind.wrap, IntKind.bits, IntKind.signed]; omega
  have hz3 : (3 : Int) ≤ (n : Int) := by omega
  go_wp2_with fail
  refine (S1.out _).mono ?_; rintro z w9 ⟨rfl, rfl⟩
  go_wp2_with fail
  refine (S1.out _).mono ?_; rintro z w9 ⟨rfl, rfl⟩
  go_wp2_with fail
  refine (S2.out _).mono ?_; rintro z w9 ⟨rfl, rfl⟩
  go_wp2_with fail
  refine (S1.out _).mono ?_; rintro z w9 ⟨rfl, rfl⟩
  go_wp2_with (refine wpList_put_evc 1 { evZero with c := c } _ _ rfl rfl rfl rfl HB2.out (by kernel_rfl) rfl rfl rfl ?_)
  intro W3 hb3 hk3
  have hnb : bk ∉ [w1.heap.size] := by simp; omega
  replace x2 := hk3.cell x2 hnb
  replace hx0 := hk3.cell hx0 hnb
  have HB3 := Lib.hid hb3
  clear hb3
  go_wp2_with fail
  refine (S2.out _).mono ?_; rintro z w9 ⟨rfl, rfl⟩
  go_wp2_with (refine wpList_put_evc 2 { evZero with c := c, id := i } _ _ rfl rfl rfl rfl HB3.out (by kernel_rfl) rfl rfl rfl ?_)
  intro W4 hb4 hk4
  replace hx0 := hk4.cell hx0 hnb
  have HB4 := Lib.hid hb4
  have HQ4 := Lib.hid (hk3.trans hk4 (FSub.refl _ _))
  clear hb4 hk3 hk4 x1 x2 e0 e1 e2 f0 f1 f2 hlt2 HB3 HB2 S1 S2 hwc hwi hnb
  go_wp2_with (refine wpList_put_evc 0 { evZero with k := 4, c := c, id := i } _ _ rfl rfl rfl rfl HB4.out (by kernel_rfl) rfl rfl rfl ?_)
  intro W5 hb5 hk5
  have HQ5 := Lib.hid (HQ4.out.trans hk5 (FSub.refl _ _))
  have HB5 := Lib.hid hb5
  clear hb5 hk5 HB4 hx0 ht1 ht2 ht3 ht4 ht5 ht6 ht7
  have hev := HB5.out
  rw [← HXE.out] at hev
  have HEV := Lib.hid hev
  have HB := Lib.hid (HQ5.out.heap HB02.out (by have := HW0.out; simp; omega))
  have HKW := Lib.hid ((HK1.out.trans HQ2.out (FSub.refl _ _)).trans HQ5.out (fun q hq => .inr (by simp at hq; have := HW0.out; omega)))
  have HRW : Hid (EvRows (w1.heap.size + 1) W5 (.slice none 0 0) (.slice none 0 0) (dcX s)) := Lib.hid (EvRows.nil (by rw [HXE.out]; rfl) (by rw [HXE.out]; rfl))
  clear hev HXE HB5 HB02 HK1 HQ5 HQ4 HQ2 HDR HCL
  have hxi := dcX_in s
  have hnoI : dcI s = false → _ := fun h => dc_no (s := s) (.inl h)
  have hnoG : evGood (dcX s) = false → _ := fun h => dc_no (s := s) (.inr (.inl h))
  have hnoL : evLine (dcX s) ≠ s → _ := fun h => dc_no (s := s) (.inr (.inr h))
  have hyes : dcI s = true → evGood (dcX s) = true → evLine (dcX s) = s → _ := fun h1 h2 h3 => dc_yes (s := s) h1 h2 h3
  have hln := r6Line_any _ (dcX s) hxi _ _ HRW.out.at (Nat.le_refl _)
  unfold R6LinePost at hln
  generalize dcX s = x at *
  have HNI := Lib.hid hnoI; have HNG := Lib.hid hnoG; have HNL := Lib.hid hnoL; have HYS := Lib.hid hyes
  clear hnoI hnoG hnoL hyes hxi
  rcases bool_two (evGood x) with hg | hg
  · have hE : evErr x = 0 := by unfold evErr; rw [hg]; rfl
    rw [hE] at hln
    by_cases hl : evLine x = s
    · have HYES := Lib.hid (HYS.out HIE.out hg hl)
      have t9 : ((bs (lineX x)).toList == S.toList) = true := by
        rw [← HS.out, toL_bs, toL_bs]
        unfold lineX
        rw [hg]
        simpa using hl
      generalize bs (lineX x) = LX at *
      have HLN := Lib.hid hln
      clear hln HNI HNG HNL HYS HIE hE hl hg
      have hevp := HEV.out
      go_wp2_with ((with_reducible apply wpList_load_ev); exact rfl; (first | assumption | (refine heap_alloc_lt ?_; assumption) | (refine heap_alloc_lt (heap_alloc_lt ?_); assumption) | exact heap_alloc_at (by simp)); exact rfl)
      refine HLN.out.mono ?_; rintro z w8 ⟨rfl, hk8⟩
      have hb8 := hk8.heap HEV.out (by simp)
      have hb80 := hk8.heap HB.out (by simp)
      have HB80 := Lib.hid hb80
      have HK8 := Lib.hid (HKW.out.trans hk8 (FSub.refl _ _))
      have HR8 := Lib.hid (HRW.out.keeps hk8 (by simp))
      clear hk8 HLN HEV HB HRW HKW hb80 hevp
      go_wp2_with (first | ((with_reducible apply wpList_load_ev); exact rfl; (first | assumption | (refine heap_alloc_lt ?_; assumption) | (refine heap_alloc_lt (heap_alloc_lt ?_); assumption) | exact heap_alloc_at (by simp)); exact rfl) | ((with_reducible apply wpList_put_ev); exact rfl; exact rfl; exact HB80.out; exact ⟨rfl, rfl⟩; first | exact rfl | (refine evC_one _ ?_ ?_ <;> first | rfl | exact row_one HR8.out.1 | exact row_one HR8.out.2.choose_spec.1)))
      intro W9 hb9 hk9
      go_wp2_with fail
      try simp only [Exit.inBlock, Exit.then]
      exact bodyPost_ret (results_ev2 (p := 2) (u := 3) rfl _ _ _ rfl hb9) rfl (R6ParsePost.yes HYES.out ((HR8.out.keeps hk9 (fun q hq => by simp at hq; have := HW0.out; omega)).kept (by have := HW0.out; omega)) (HK8.out.trans hk9 (fun q hq => .inr (by simp at hq; omega))))
    · have HNO := Lib.hid (HNL.out hl)
      have t9 : ((bs (lineX x)).toList == S.toList) = false := by
        rw [← HS.out, toL_bs, toL_bs, beq_eq_false_iff_ne]
        unfold lineX
        rw [hg]
        simpa using hl
      generalize bs (lineX x) = LX at *
      have HLN := Lib.hid hln
      clear hln HNI HNG HNL HYS HIE hE hl hg
      have hevp := HEV.out
      go_wp2_with ((with_reducible apply wpList_load_ev); exact rfl; (first | assumption | (refine heap_alloc_lt ?_; assumption) | (refine heap_alloc_lt (heap_alloc_lt ?_); assumption) | exact heap_alloc_at (by simp)); exact rfl)
      refine HLN.out.mono ?_; rintro z w8 ⟨rfl, hk8⟩
      have hb8 := hk8.heap HEV.out (by simp)
      have hb80 := hk8.heap HB.out (by simp)
      have HB80 := Lib.hid hb80
      have HK8 := Lib.hid (HKW.out.trans hk8 (FSub.refl _ _))
      have HR8 := Lib.hid (HRW.out.keeps hk8 (by simp))
      clear hk8 HLN HEV HB HRW HKW hb80 hevp
      go_wp2_with (first | ((with_reducible apply wpList_load_ev); exact rfl; (first | assumption | (refine heap_alloc_lt ?_; assumption) | (refine heap_alloc_lt (heap_alloc_lt ?_); assumption) | exact heap_alloc_at (by simp)); exact rfl) | ((with_reducible apply wpList_put_ev); exact rfl; exact rfl; exact HB80.out; exact ⟨rfl, rfl⟩; first | exact rfl | (refine evC_one _ ?_ ?_ <;> first | rfl | exact row_one HR8.out.1 | exact row_one HR8.out.2.choose_spec.1)))
      intro W9 hb9 hk9
      replace hb9 : W9.heap[w.heap.size]? = some (.cells (evC evZero (.slice none 0 0) (.slice none 0 0)) 32 (0, 0)) := hb9
      go_wp2_with fail
      try simp only [Exit.inBlock, Exit.then]
      exact bodyPost_ret (results_ev2 (p := 2) (u := 3) rfl _ _ _ rfl hb9) rfl (R6ParsePost.no HNO.out (HK8.out.trans hk9 (fun q hq => .inr (by simp at hq; omega))))
  · have HNO := Lib.hid (HNG.out hg)
    have hE : evErr x = 4 := by unfold evErr; rw [hg]; rfl
    rw [hE] at hln
    generalize bs (lineX x) = LX at *
    have HLN := Lib.hid hln
    clear hln HNI HNG HNL HYS HIE hE hg
    have hevp := HEV.out
    go_wp2_with ((with_reducible apply wpList_load_ev); exact rfl; (first | assumption | (refine heap_alloc_lt ?_; assumption) | (refine heap_alloc_lt (heap_alloc_lt ?_); assumption) | exact heap_alloc_at (by simp)); exact rfl)
    refine HLN.out.mono ?_; rintro z w8 ⟨rfl, hk8⟩
    have hb8 := hk8.heap HEV.out (by simp)
    have hb80 := hk8.heap HB.out (by simp)
    have HB80 := Lib.hid hb80
    have HK8 := Lib.hid (HKW.out.trans hk8 (FSub.refl _ _))
    have HR8 := Lib.hid (HRW.out.keeps hk8 (by simp))
    clear hk8 HLN HEV HB HRW HKW hb80 hevp
    go_wp2_with (first | ((with_reducible apply wpList_load_ev); exact rfl; (first | assumption | (refine heap_alloc_lt ?_; assumption) | (refine heap_alloc_lt (heap_alloc_lt ?_); assumption) | exact heap_alloc_at (by simp)); exact rfl) | ((with_reducible apply wpList_put_ev); exact rfl; exact rfl; exact HB80.out; exact ⟨rfl, rfl⟩; first | exact rfl | (refine evC_one _ ?_ ?_ <;> first | rfl | exact row_one HR8.out.1 | exact row_one HR8.out.2.choose_spec.1)))
    intro W9 hb9 hk9
    replace hb9 : W9.heap[w.heap.size]? = some (.cells (evC evZero (.slice none 0 0) (.slice none 0 0)) 32 (0, 0)) := hb9
    go_wp2_with fail
    try simp only [Exit.inBlock, Exit.then]
    exact bodyPost_ret (results_ev2 (p := 2) (u := 3) rfl _ _ _ rfl hb9) rfl (R6ParsePost.no HNO.out (HK8.out.trans hk9 (fun q hq => .inr (by simp at hq; omega))))
set_option maxHeartbeats 16000000 in
set_option maxRecDepth 100000 in
theorem r6Parse_7 (w : World) (s : List UInt8) (hs : s.length ≤ 90000) (hk : (cutAt 32 s).getD 0 [] = abortL) (hwho : dcWho (cutAt 32 s) = true) :
    Calls Tryz.prog 11 #[.string (bs s)] w (R6ParsePost s w) := by
  have ht1 : ((bs ((cutAt 32 s).getD 0 [])).toList == [99, 111, 110, 102, 105, 103]) = false := by rw [toL_bs, hk]; decide
  have ht2 : ((bs ((cutAt 32 s).getD 0 [])).toList == [105, 110, 118, 111, 107, 101]) = false := by rw [toL_bs, hk]; decide
  have ht3 : ((bs ((cutAt 32 s).getD 0 [])).toList == [114, 101, 116, 117, 114, 110]) = false := by rw [toL_bs, hk]; decide
  have ht4 : ((bs ((cutAt 32 s).getD 0 [])).toList == [105, 110, 102, 111]) = false := by rw [toL_bs, hk]; decide
  have ht5 : ((bs ((cutAt 32 s).getD 0 [])).toList == [98, 101, 103, 105, 110]) = false := by rw [toL_bs, hk]; decide
  have ht6 : ((bs ((cutAt 32 s).getD 0 [])).toList == [99, 111, 109, 109, 105, 116]) = false := by rw [toL_bs, hk]; decide
  have ht7 : ((bs ((cutAt 32 s).getD 0 [])).toList == [97, 98, 111, 114, 116]) = true := by rw [toL_bs, hk]; decide
  have hxe : dcX s = { evZero with k := 7, c := sm ((cutAt 32 s).getD 1 []), id := sm ((cutAt 32 s).getD 2 []) } := by unfold dcX; rw [if_neg (by rw [hk]; decide), hwho, if_pos rfl, hk]; rfl
  have hie : dcI s = true := by unfold dcI; rw [if_neg (by rw [hk]; decide), hwho, if_pos rfl, hk]; rfl
  have HXE := Lib.hid hxe; have HIE := Lib.hid hie
  clear hxe hie
  clear hk
  unfold dcWho at hwho
  simp only [decide_eq_true_eq] at hwho
  obtain ⟨hw3, hcA, hcB, hiA⟩ := hwho
  have hcut := fun w => r6Cut_any w s 32 hs
  unfold Words6 at hcut
  have hne := cutAt_ne 32 s
  have hpl := cut_part_le 32 s
  have hll := cut_len_le 32 s
  generalize hL : cutAt 32 s = L at *
  have HL := Lib.hid hL
  have HPL := Lib.hid hpl
  clear hL hpl
  have hk0 := (Keeps.refl [] w).alloc (.cells (evC evZero (.slice none 0 0) (.slice none 0 0)) 32)
  have hb0 := heap_alloc_new w (.cells (evC evZero (.slice none 0 0) (.slice none 0 0)) 32)
  have HK0 := Lib.hid hk0; have HB0 := Lib.hid hb0
  have HCT := Lib.hid hcut
  clear hk0 hb0 hcut
  generalize hS : bs s = S at *
  have HS := Lib.hid hS
  clear hS
  go_enter Tryz.func11, Tryz.ntmps11
  go_wp2_with fail
  refine (HCT.out _).mono ?_; rintro z w1 ⟨v1, rfl, hrow1, hk1⟩
  have hst1 := Strs.row (row_up (b2 := 0) hrow1 (fun _ _ => Nat.zero_le _))
  obtain ⟨a1, c1, rfl, hc1, hm1⟩ := hst1.shape
  obtain ⟨-, -, -, bk, o, rfl, hbN, hcell, hdrop⟩ := hst1.at hne
  have hb01 : w1.heap[w.heap.size]? = some (.cells (evC evZero (.slice none 0 0) (.slice none 0 0)) 32 (0, 0)) := hk1.heap HB0.out (by simp)
  have HK1 := Lib.hid (HK0.out.trans hk1 (FSub.refl _ _))
  have hka := (Keeps.refl [] w1).alloc (.cells (evC evZero (.slice none 0 0) (.slice none 0 0)) 32)
  have HW0 := Lib.hid (lt_of_block hb01)
  have HKA := Lib.hid hka; have HB01 := Lib.hid hb01
  have HCL := Lib.hid hcell; have HDR := Lib.hid hdrop
  have hx0 : w1.cell? ⟨bk, o, none⟩ = some (.string (bs (L.getD 0 []))) := hcell 0 (List.length_pos_iff.2 hne)
  have hn0 : ¬ L.length = 0 := fun e => hne (List.eq_nil_of_length_eq_zero e)
  have hn1 : 1 ≤ L.length := by omega
  have hc2 : (c1 : Int) ≤ 9223372036854775807 := by omega
  have hbkn : bk < w1.heap.size := hbN
  have hcc1 : 1 ≤ c1 := by omega
  clear hk1 hrow1 hst1 hcell hdrop hb01 HK0 HB0 HCT hka hne
  generalize hn : L.length = n at *
  have HN := Lib.hid hn
  clear hn
  generalize bs (L.getD 0 []) = X0 at *
  go_wp2_with ((with_reducible apply wpList_put_ev); exact rfl; exact rfl; (first | assumption | (refine heap_alloc_lt ?_; assumption) | (refine heap_alloc_lt (heap_alloc_lt ?_); assumption) | exact heap_alloc_at (by simp)); exact ⟨rfl, rfl⟩; exact rfl)
  intro W2 hb2 hk2
  have hq2 : Keeps [] w1 W2 := HKA.out.trans hk2 (fun q hq => .inr (by simp at hq; omega))
  replace hb2 : W2.heap[w1.heap.size]? = some (.cells (evC evZero (.slice none 0 0) (.slice none 0 0)) 32 (0, 0)) := hb2
  have hb02 := hq2.heap HB01.out (by simp)
  replace hx0 := hq2.cell hx0 (by simp)
  have HB2 := Lib.hid hb2; have HB02 := Lib.hid hb02; have HQ2 := Lib.hid hq2
  have e0 := ev_cell hb2 0 (evC_0 _ _ _); have e1 := ev_cell hb2 1 (evC_1 _ _ _); have e2 := ev_cell hb2 2 (evC_2 _ _ _)
  have f0 := ev_thaw hb2 0; have f1 := ev_thaw hb2 1; have f2 := ev_thaw hb2 2
  have hlt2 : w1.heap.size < W2.heap.size := lt_of_block hb2
  clear hk2 hb2 hb02 hq2 HKA HB01
  have hg1 : (L.getD 1 []).length ≤ 1000000 := by
    by_cases hj : 1 < L.length
    · have := HPL.out (L.getD 1 []) (by rw [List.getD_eq_getElem?_getD, List.getElem?_eq_getElem hj]; exact List.getElem_mem hj); omega
    · rw [List.getD_eq_getElem?_getD, List.getElem?_eq_none (by omega)]; simp
  have hg2 : (L.getD 2 []).length ≤ 1000000 := by
    by_cases hj : 2 < L.length
    · have := HPL.out (L.getD 2 []) (by rw [List.getD_eq_getElem?_getD, List.getElem?_eq_getElem hj]; exact List.getElem_mem hj); omega
    · rw [List.getD_eq_getElem?_getD, List.getElem?_eq_none (by omega)]; simp
  have hsa := fun w => r6small_any w (L.getD 1 []) (by rw [bs_size]; omega)
  have hsb := fun w => r6small_any w (L.getD 2 []) (by rw [bs_size]; omega)
  have S1 := Lib.hid hsa; have S2 := Lib.hid hsb
  have hbi := sm_bounds (L.getD 2 [])
  have hbc := sm_bounds (L.getD 1 [])
  clear hsa hsb hg1 hg2
  have x1 := HQ2.out.cell (HCL.out 1 (by omega)) (by simp)
  have x2 := HQ2.out.cell (HCL.out 2 (by omega)) (by simp)
  generalize sm (L.getD 1 []) = c at *
  generalize sm (L.getD 2 []) = i at *
  generalize bs (L.getD 1 []) = X1 at *
  generalize bs (L.getD 2 []) = X2 at *
  have hn2 : 2 < n := by omega
  have hn1' : 1 < n := by omega
  have hwc : IntKind.u8.wrap c = c := by simp [IntKind.wrap, IntKind.bits, IntKind.signed]; omega
  have hwi : IntKind.u16.wrap i = i := by simp [IntKind.wrap, IntKind.bits, IntKind.signed]; omega
  have hz3 : (3 : Int) ≤ (n : Int) := by omega
  go_wp2_with fail
  refine (S1.out _).mono ?_; rintro z w9 ⟨rfl, rfl⟩
  go_wp2_with fail
  refine (S1.out _).mono ?_; rintro z w9 ⟨rfl, rfl⟩
  go_wp2_with fail
  refine (S2.out _).mono ?_; rintro z w9 ⟨rfl, rfl⟩
  go_wp2_with fail
  refine (S1.out _).mono ?_; rintro z w9 ⟨rfl, rfl⟩
  go_wp2_with (refine wpList_put_evc 1 { evZero with c := c } _ _ rfl rfl rfl rfl HB2.out (by kernel_rfl) rfl rfl rfl ?_)
  intro W3 hb3 hk3
  have hnb : bk ∉ [w1.heap.size] := by simp; omega
  replace x2 := hk3.cell x2 hnb
  replace hx0 := hk3.cell hx0 hnb
  have HB3 := Lib.hid hb3
  clear hb3
  go_wp2_with fail
  refine (S2.out _).mono ?_; rintro z w9 ⟨rfl, rfl⟩
  go_wp2_with (refine wpList_put_evc 2 { evZero with c := c, id := i } _ _ rfl rfl rfl rfl HB3.out (by kernel_rfl) rfl rfl rfl ?_)
  intro W4 hb4 hk4
  replace hx0 := hk4.cell hx0 hnb
  have HB4 := Lib.hid hb4
  have HQ4 := Lib.hid (hk3.trans hk4 (FSub.refl _ _))
  clear hb4 hk3 hk4 x1 x2 e0 e1 e2 f0 f1 f2 hlt2 HB3 HB2 S1 S2 hwc hwi hnb
  go_wp2_with (refine wpList_put_evc 0 { evZero with k := 7, c := c, id := i } _ _ rfl rfl rfl rfl HB4.out (by kernel_rfl) rfl rfl rfl ?_)
  intro W5 hb5 hk5
  have HQ5 := Lib.hid (HQ4.out.trans hk5 (FSub.refl _ _))
  have HB5 := Lib.hid hb5
  clear hb5 hk5 HB4 hx0 ht1 ht2 ht3 ht4 ht5 ht6 ht7
  have hev := HB5.out
  rw [← HXE.out] at hev
  have HEV := Lib.hid hev
  have HB := Lib.hid (HQ5.out.heap HB02.out (by have := HW0.out; simp; omega))
  have HKW := Lib.hid ((HK1.out.trans HQ2.out (FSub.refl _ _)).trans HQ5.out (fun q hq => .inr (by simp at hq; have := HW0.out; omega)))
  have HRW : Hid (EvRows (w1.heap.size + 1) W5 (.slice none 0 0) (.slice none 0 0) (dcX s)) := Lib.hid (EvRows.nil (by rw [HXE.out]; rfl) (by rw [HXE.out]; rfl))
  clear hev HXE HB5 HB02 HK1 HQ5 HQ4 HQ2 HDR HCL
  have hxi := dcX_in s
  have hnoI : dcI s = false → _ := fun h => dc_no (s := s) (.inl h)
  have hnoG : evGood (dcX s) = false → _ := fun h => dc_no (s := s) (.inr (.inl h))
  have hnoL : evLine (dcX s) ≠ s → _ := fun h => dc_no (s := s) (.inr (.inr h))
  have hyes : dcI s = true → evGood (dcX s) = true → evLine (dcX s) = s → _ := fun h1 h2 h3 => dc_yes (s := s) h1 h2 h3
  have hln := r6Line_any _ (dcX s) hxi _ _ HRW.out.at (Nat.le_refl _)
  unfold R6LinePost at hln
  generalize dcX s = x at *
  have HNI := Lib.hid hnoI; have HNG := Lib.hid hnoG; have HNL := Lib.hid hnoL; have HYS := Lib.hid hyes
  clear hnoI hnoG hnoL hyes hxi
  rcases bool_two (evGood x) with hg | hg
  · have hE : evErr x = 0 := by unfold evErr; rw [hg]; rfl
    rw [hE] at hln
    by_cases hl : evLine x = s
    · have HYES := Lib.hid (HYS.out HIE.out hg hl)
      have t9 : ((bs (lineX x)).toList == S.toList) = true := by
        rw [← HS.out, toL_bs, toL_bs]
        unfold lineX
        rw [hg]
        simpa using hl
      generalize bs (lineX x) = LX at *
      have HLN := Lib.hid hln
      clear hln HNI HNG HNL HYS HIE hE hl hg
      have hevp := HEV.out
      go_wp2_with ((with_reducible apply wpList_load_ev); exact rfl; (first | assumption | (refine heap_alloc_lt ?_; assumption) | (refine heap_alloc_lt (heap_alloc_lt ?_); assumption) | exact heap_alloc_at (by simp)); exact rfl)
      refine HLN.out.mono ?_; rintro z w8 ⟨rfl, hk8⟩
      have hb8 := hk8.heap HEV.out (by simp)
      have hb80 := hk8.heap HB.out (by simp)
      have HB80 := Lib.hid hb80
      have HK8 := Lib.hid (HKW.out.trans hk8 (FSub.refl _ _))
      have HR8 := Lib.hid (HRW.out.keeps hk8 (by simp))
      clear hk8 HLN HEV HB HRW HKW hb80 hevp
      go_wp2_with (first | ((with_reducible apply wpList_load_ev); exact rfl; (first | assumption | (refine heap_alloc_lt ?_; assumption) | (refine heap_alloc_lt (heap_alloc_lt ?_); assumption) | exact heap_alloc_at (by simp)); exact rfl) | ((with_reducible apply wpList_put_ev); exact rfl; exact rfl; exact HB80.out; exact ⟨rfl, rfl⟩; first | exact rfl | (refine evC_one _ ?_ ?_ <;> first | rfl | exact row_one HR8.out.1 | exact row_one HR8.out.2.choose_spec.1)))
      intro W9 hb9 hk9
      go_wp2_with fail
      try simp only [Exit.inBlock, Exit.then]
      exact bodyPost_ret (results_ev2 (p := 2) (u := 3) rfl _ _ _ rfl hb9) rfl (R6ParsePost.yes HYES.out ((HR8.out.keeps hk9 (fun q hq => by simp at hq; have := HW0.out; omega)).kept (by have := HW0.out; omega)) (HK8.out.trans hk9 (fun q hq => .inr (by simp at hq; omega))))
    · have HNO := Lib.hid (HNL.out hl)
      have t9 : ((bs (lineX x)).toList == S.toList) = false := by
        rw [← HS.out, toL_bs, toL_bs, beq_eq_false_iff_ne]
        unfold lineX
        rw [hg]
        simpa using hl
      generalize bs (lineX x) = LX at *
      have HLN := Lib.hid hln
      clear hln HNI HNG HNL HYS HIE hE hl hg
      have hevp := HEV.out
      go_wp2_with ((with_reducible apply wpList_load_ev); exact rfl; (first | assumption | (refine heap_alloc_lt ?_; assumption) | (refine heap_alloc_lt (heap_alloc_lt ?_); assumption) | exact heap_alloc_at (by simp)); exact rfl)
      refine HLN.out.mono ?_; rintro z w8 ⟨rfl, hk8⟩
      have hb8 := hk8.heap HEV.out (by simp)
      have hb80 := hk8.heap HB.out (by simp)
      have HB80 := Lib.hid hb80
      have HK8 := Lib.hid (HKW.out.trans hk8 (FSub.refl _ _))
      have HR8 := Lib.hid (HRW.out.keeps hk8 (by simp))
      clear hk8 HLN HEV HB HRW HKW hb80 hevp
      go_wp2_with (first | ((with_reducible apply wpList_load_ev); exact rfl; (first | assumption | (refine heap_alloc_lt ?_; assumption) | (refine heap_alloc_lt (heap_alloc_lt ?_); assumption) | exact heap_alloc_at (by simp)); exact rfl) | ((with_reducible apply wpList_put_ev); exact rfl; exact rfl; exact HB80.out; exact ⟨rfl, rfl⟩; first | exact rfl | (refine evC_one _ ?_ ?_ <;> first | rfl | exact row_one HR8.out.1 | exact row_one HR8.out.2.choose_spec.1)))
      intro W9 hb9 hk9
      replace hb9 : W9.heap[w.heap.size]? = some (.cells (evC evZero (.slice none 0 0) (.slice none 0 0)) 32 (0, 0)) := hb9
      go_wp2_with fail
      try simp only [Exit.inBlock, Exit.then]
      exact bodyPost_ret (results_ev2 (p := 2) (u := 3) rfl _ _ _ rfl hb9) rfl (R6ParsePost.no HNO.out (HK8.out.trans hk9 (fun q hq => .inr (by simp at hq; omega))))
  · have HNO := Lib.hid (HNG.out hg)
    have hE : evErr x = 4 := by unfold evErr; rw [hg]; rfl
    rw [hE] at hln
    generalize bs (lineX x) = LX at *
    have HLN := Lib.hid hln
    clear hln HNI HNG HNL HYS HIE hE hg
    have hevp := HEV.out
    go_wp2_with ((with_reducible apply wpList_load_ev); exact rfl; (first | assumption | (refine heap_alloc_lt ?_; assumption) | (refine heap_alloc_lt (heap_alloc_lt ?_); assumption) | exact heap_alloc_at (by simp)); exact rfl)
    refine HLN.out.mono ?_; rintro z w8 ⟨rfl, hk8⟩
    have hb8 := hk8.heap HEV.out (by simp)
    have hb80 := hk8.heap HB.out (by simp)
    have HB80 := Lib.hid hb80
    have HK8 := Lib.hid (HKW.out.trans hk8 (FSub.refl _ _))
    have HR8 := Lib.hid (HRW.out.keeps hk8 (by simp))
    clear hk8 HLN HEV HB HRW HKW hb80 hevp
    go_wp2_with (first | ((with_reducible apply wpList_load_ev); exact rfl; (first | assumption | (refine heap_alloc_lt ?_; assumption) | (refine heap_alloc_lt (heap_alloc_lt ?_); assumption) | exact heap_alloc_at (by simp)); exact rfl) | ((with_reducible apply wpList_put_ev); exact rfl; exact rfl; exact HB80.out; exact ⟨rfl, rfl⟩; first | exact rfl | (refine evC_one _ ?_ ?_ <;> first | rfl | exact row_one HR8.out.1 | exact row_one HR8.out.2.choose_spec.1)))
    intro W9 hb9 hk9
    replace hb9 : W9.heap[w.heap.size]? = some (.cells (evC evZero (.slice none 0 0) (.slice none 0 0)) 32 (0, 0)) := hb9
    go_wp2_with fail
    try simp only [Exit.inBlock, Exit.then]
    exact bodyPost_ret (results_ev2 (p := 2) (u := 3) rfl _ _ _ rfl hb9) rfl (R6ParsePost.no HNO.out (HK8.out.trans hk9 (fun q hq => .inr (by simp at hq; omega))))
end Go.Proofs.YtffldnjjijckcaaGreatDoor
/-
  The document's Parse, way by way. (Printed by draft/genr6parse.py.)
-/
namespace Go.Proofs.YtffldnjjijckcaaGreatDoor
open Go.RowKit
set_option maxHeartbeats 16000000 in
set_option maxRecDepth 100000 in
theorem r6Parse_2 (w : World) (s : List UInt8) (hs : s.length ≤ 90000) (hk : (cutAt 32 s).getD 0 [] = invokeL) (hwho : dcWho (cutAt 32 s) = true) :
    Calls Tryz.prog 11 #[.string (bs s)] w (R6ParsePost s w) := by
  have ht1 : ((bs ((cutAt 32 s).getD 0 [])).toList == [99, 111, 110, 102, 105, 103]) = false := by rw [toL_bs, hk]; decide
  have ht2 : ((bs ((cutAt 32 s).getD 0 [])).toList == [105, 110, 118, 111, 107, 101]) = true := by rw [toL_bs, hk]; decide
  have ht3 : ((bs ((cutAt 32 s).getD 0 [])).toList == [114, 101, 116, 117, 114, 110]) = false := by rw [toL_bs, hk]; decide
  have ht4 : ((bs ((cutAt 32 s).getD 0 [])).toList == [105, 110, 102, 111]) = false := by rw [toL_bs, hk]; decide
  have ht5 : ((bs ((cutAt 32 s).getD 0 [])).toList == [98, 101, 103, 105, 110]) = false := by rw [toL_bs, hk]; decide
  have ht6 : ((bs ((cutAt 32 s).getD 0 [])).toList == [99, 111, 109, 109, 105, 116]) = false := by rw [toL_bs, hk]; decide
  have ht7 : ((bs ((cutAt 32 s).getD 0 [])).toList == [97, 98, 111, 114, 116]) = false := by rw [toL_bs, hk]; decide
  have hxe : dcX s = { evZero with k := 2, c := sm ((cutAt 32 s).getD 1 []), id := sm ((cutAt 32 s).getD 2 []), o := opsX ((cutAt 32 s).drop 3) } := by unfold dcX; rw [if_neg (by rw [hk]; decide), hwho, if_pos rfl, hk]; rfl
  have hie : dcI s = decide (opsE ((cutAt 32 s).drop 3) = 0) := by unfold dcI; rw [if_neg (by rw [hk]; decide), hwho, if_pos rfl, hk]; rfl
  have HXE := Lib.hid hxe; have HIE := Lib.hid hie
  clear hxe hie
  clear hk
  unfold dcWho at hwho
  simp only [decide_eq_true_eq] at hwho
  obtain ⟨hw3, hcA, hcB, hiA⟩ := hwho
  have hcut := fun w => r6Cut_any w s 32 hs
  unfold Words6 at hcut
  have hne := cutAt_ne 32 s
  have hpl := cut_part_le 32 s
  have hll := cut_len_le 32 s
  generalize hL : cutAt 32 s = L at *
  have HL := Lib.hid hL
  have HPL := Lib.hid hpl
  clear hL hpl
  have hk0 := (Keeps.refl [] w).alloc (.cells (evC evZero (.slice none 0 0) (.slice none 0 0)) 32)
  have hb0 := heap_alloc_new w (.cells (evC evZero (.slice none 0 0) (.slice none 0 0)) 32)
  have HK0 := Lib.hid hk0; have HB0 := Lib.hid hb0
  have HCT := Lib.hid hcut
  clear hk0 hb0 hcut
  generalize hS : bs s = S at *
  have HS := Lib.hid hS
  clear hS
  go_enter Tryz.func11, Tryz.ntmps11
  go_wp2_with fail
  refine (HCT.out _).mono ?_; rintro z w1 ⟨v1, rfl, hrow1, hk1⟩
  have hst1 := Strs.row (row_up (b2 := 0) hrow1 (fun _ _ => Nat.zero_le _))
  obtain ⟨a1, c1, rfl, hc1, hm1⟩ := hst1.shape
  obtain ⟨-, -, -, bk, o, rfl, hbN, hcell, hdrop⟩ := hst1.at hne
  have hb01 : w1.heap[w.heap.size]? = some (.cells (evC evZero (.slice none 0 0) (.slice none 0 0)) 32 (0, 0)) := hk1.heap HB0.out (by simp)
  have HK1 := Lib.hid (HK0.out.trans hk1 (FSub.refl _ _))
  have hka := (Keeps.refl [] w1).alloc (.cells (evC evZero (.slice none 0 0) (.slice none 0 0)) 32)
  have HW0 := Lib.hid (lt_of_block hb01)
  have HKA := Lib.hid hka; have HB01 := Lib.hid hb01
  have HCL := Lib.hid hcell; have HDR := Lib.hid hdrop
  have hx0 : w1.cell? ⟨bk, o, none⟩ = some (.string (bs (L.getD 0 []))) := hcell 0 (List.length_pos_iff.2 hne)
  have hn0 : ¬ L.length = 0 := fun e => hne (List.eq_nil_of_length_eq_zero e)
  have hn1 : 1 ≤ L.length := by omega
  have hc2 : (c1 : Int) ≤ 9223372036854775807 := by omega
  have hbkn : bk < w1.heap.size := hbN
  have hcc1 : 1 ≤ c1 := by omega
  clear hk1 hrow1 hst1 hcell hdrop hb01 HK0 HB0 HCT hka hne
  generalize hn : L.length = n at *
  have HN := Lib.hid hn
  clear hn
  generalize bs (L.getD 0 []) = X0 at *
  go_wp2_with ((with_reducible apply wpList_put_ev); exact rfl; exact rfl; (first | assumption | (refine heap_alloc_lt ?_; assumption) | (refine heap_alloc_lt (heap_alloc_lt ?_); assumption) | exact heap_alloc_at (by simp)); exact ⟨rfl, rfl⟩; exact rfl)
  intro W2 hb2 hk2
  have hq2 : Keeps [] w1 W2 := HKA.out.trans hk2 (fun q hq => .inr (by simp at hq; omega))
  replace hb2 : W2.heap[w1.heap.size]? = some (.cells (evC evZero (.slice none 0 0) (.slice none 0 0)) 32 (0, 0)) := hb2
  have hb02 := hq2.heap HB01.out (by simp)
  replace hx0 := hq2.cell hx0 (by simp)
  have HB2 := Lib.hid hb2; have HB02 := Lib.hid hb02; have HQ2 := Lib.hid hq2
  have e0 := ev_cell hb2 0 (evC_0 _ _ _); have e1 := ev_cell hb2 1 (evC_1 _ _ _); have e2 := ev_cell hb2 2 (evC_2 _ _ _)
  have f0 := ev_thaw hb2 0; have f1 := ev_thaw hb2 1; have f2 := ev_thaw hb2 2
  have hlt2 : w1.heap.size < W2.heap.size := lt_of_block hb2
  clear hk2 hb2 hb02 hq2 HKA HB01
  have hg1 : (L.getD 1 []).length ≤ 1000000 := by
    by_cases hj : 1 < L.length
    · have := HPL.out (L.getD 1 []) (by rw [List.getD_eq_getElem?_getD, List.getElem?_eq_getElem hj]; exact List.getElem_mem hj); omega
    · rw [List.getD_eq_getElem?_getD, List.getElem?_eq_none (by omega)]; simp
  have hg2 : (L.getD 2 []).length ≤ 1000000 := by
    by_cases hj : 2 < L.length
    · have := HPL.out (L.getD 2 []) (by rw [List.getD_eq_getElem?_getD, List.getElem?_eq_getElem hj]; exact List.getElem_mem hj); omega
    · rw [List.getD_eq_getElem?_getD, List.getElem?_eq_none (by omega)]; simp
  have hsa := fun w => r6small_any w (L.getD 1 []) (by rw [bs_size]; omega)
  have hsb := fun w => r6small_any w (L.getD 2 []) (by rw [bs_size]; omega)
  have S1 := Lib.hid hsa; have S2 := Lib.hid hsb
  have hbi := sm_bounds (L.getD 2 [])
  have hbc := sm_bounds (L.getD 1 [])
  clear hsa hsb hg1 hg2
  have x1 := HQ2.out.cell (HCL.out 1 (by omega)) (by simp)
  have x2 := HQ2.out.cell (HCL.out 2 (by omega)) (by simp)
  generalize sm (L.getD 1 []) = c at *
  generalize sm (L.getD 2 []) = i at *
  generalize bs (L.getD 1 []) = X1 at *
  generalize bs (L.getD 2 []) = X2 at *
  have hn2 : 2 < n := by omega
  have hn1' : 1 < n := by omega
  have hwc : IntKind.u8.wrap c = c := by simp [IntKind.wrap, IntKind.bits, IntKind.signed]; omega
  have hwi : IntKind.u16.wrap i = i := by simp [IntKind.wrap, IntKind.bits, IntKind.signed]; omega
  have hz3 : (3 : Int) ≤ (n : Int) := by omega
  go_wp2_with fail
  refine (S1.out _).mono ?_; rintro z w9 ⟨rfl, rfl⟩
  go_wp2_with fail
  refine (S1.out _).mono ?_; rintro z w9 ⟨rfl, rfl⟩
  go_wp2_with fail
  refine (S2.out _).mono ?_; rintro z w9 ⟨rfl, rfl⟩
  go_wp2_with fail
  refine (S1.out _).mono ?_; rintro z w9 ⟨rfl, rfl⟩
  go_wp2_with (refine wpList_put_evc 1 { evZero with c := c } _ _ rfl rfl rfl rfl HB2.out (by kernel_rfl) rfl rfl rfl ?_)
  intro W3 hb3 hk3
  have hnb : bk ∉ [w1.heap.size] := by simp; omega
  replace x2 := hk3.cell x2 hnb
  replace hx0 := hk3.cell hx0 hnb
  have HB3 := Lib.hid hb3
  clear hb3
  go_wp2_with fail
  refine (S2.out _).mono ?_; rintro z w9 ⟨rfl, rfl⟩
  go_wp2_with (refine wpList_put_evc 2 { evZero with c := c, id := i } _ _ rfl rfl rfl rfl HB3.out (by kernel_rfl) rfl rfl rfl ?_)
  intro W4 hb4 hk4
  replace hx0 := hk4.cell hx0 hnb
  have HB4 := Lib.hid hb4
  have HQ4 := Lib.hid (hk3.trans hk4 (FSub.refl _ _))
  clear hb4 hk3 hk4 x1 x2 e0 e1 e2 f0 f1 f2 hlt2 HB3 HB2 S1 S2 hwc hwi hnb
  go_wp2_with (refine wpList_put_evc 0 { evZero with k := 2, c := c, id := i } _ _ rfl rfl rfl rfl HB4.out (by kernel_rfl) rfl rfl rfl ?_)
  intro W5 hb5 hk5
  have HQ5 := Lib.hid (HQ4.out.trans hk5 (FSub.refl _ _))
  have HB5 := Lib.hid hb5
  clear hb5 hk5 HB4 hx0 ht1 ht2 ht3 ht4 ht5 ht6 ht7
  obtain ⟨A3, hA3⟩ : ∃ A, (if c1 = 3 then some (⟨bk, o, none⟩ : Addr) else some ⟨bk, o + 3, none⟩) = A := ⟨_, rfl⟩
  have HA3 := Lib.hid hA3
  have hc33 : 3 ≤ c1 := by omega
  go_wp2_with fail
  have hst5 : Strs w1.heap.size W5 (.slice A3 (n - 3) (c1 - 3)) (L.drop 3) := ((HDR.out 3 hw3 A3 (fun hd => drop_addr HA3.out (by rw [HN.out]; exact hc1) hd)).keeps HQ2.out).others HQ5.out (by simp)
  have hz5 : w1.heap.size + 1 ≤ W5.heap.size := lt_of_block HB5.out
  have hld : (L.drop 3).length ≤ 90000 := by rw [List.length_drop, HN.out]; omega
  have hmd : ∀ x ∈ L.drop 3, x.length ≤ s.length := fun x hx => HPL.out x (List.mem_of_mem_drop hx)
  have hop := r4Parse_any W5 _ (L.drop 3) hst5.here (fun j => by
    by_cases hj : j < (L.drop 3).length
    · have := hmd ((L.drop 3).getD j []) (by rw [List.getD_eq_getElem?_getD, List.getElem?_eq_getElem hj]; exact List.getElem_mem hj); omega
    · rw [List.getD_eq_getElem?_getD, List.getElem?_eq_none (by omega)]; simp) hld
  have hoE := opsE_two (L.drop 3)
  generalize opsX (L.drop 3) = y at *
  obtain ⟨yf, yo, yk, ya, yb⟩ := y
  simp only [Opn.val] at hop
  generalize opsE (L.drop 3) = oe at *
  rcases hoE with rfl | rfl
  · refine hop.mono ?_; rintro z W6 ⟨rfl, hk6⟩
    have HB6 := Lib.hid (hk6.heap HB5.out (by simp))
    have HB06 := Lib.hid (hk6.heap (HQ5.out.heap HB02.out (by have := HW0.out; simp; omega)) (by simp))
    have HK6 := Lib.hid (((HK1.out.trans HQ2.out (FSub.refl _ _)).trans HQ5.out (fun q hq => .inr (by simp at hq; have := HW0.out; omega))).trans hk6 (FSub.refl _ _))
    clear hk6 hop hst5
    go_wp2_with ((with_reducible apply wpList_put_op); exact rfl; exact rfl; exact HB6.out)
    intro W7 hb7 hk7
    have hev : W7.heap[w1.heap.size]? = some (.cells (evC { evZero with k := 2, c := c, id := i, o := ⟨yf, yo, yk, ya, yb⟩ } (.slice none 0 0) (.slice none 0 0)) 32 (0, 0)) := hb7
    rw [← HXE.out] at hev
    have HEV := Lib.hid hev
    have HB := Lib.hid (hk7.heap HB06.out (by have := HW0.out; simp; omega))
    have HKW := Lib.hid (HK6.out.trans hk7 (fun q hq => .inr (by simp at hq; have := HW0.out; omega)))
    have HRW : Hid (EvRows (w1.heap.size + 1) W7 (.slice none 0 0) (.slice none 0 0) (dcX s)) := Lib.hid (EvRows.nil (by rw [HXE.out]; rfl) (by rw [HXE.out]; rfl))
    clear hb7 hk7 hev HXE HB5 HB02 HK1 HQ5 HQ4 HQ2 HDR HCL HB6 HB06 HK6
    replace HIE : Hid (dcI s = true) := Lib.hid (by rw [HIE.out]; rfl)
    have hxi := dcX_in s
    have hnoI : dcI s = false → _ := fun h => dc_no (s := s) (.inl h)
    have hnoG : evGood (dcX s) = false → _ := fun h => dc_no (s := s) (.inr (.inl h))
    have hnoL : evLine (dcX s) ≠ s → _ := fun h => dc_no (s := s) (.inr (.inr h))
    have hyes : dcI s = true → evGood (dcX s) = true → evLine (dcX s) = s → _ := fun h1 h2 h3 => dc_yes (s := s) h1 h2 h3
    have hln := r6Line_any _ (dcX s) hxi _ _ HRW.out.at (Nat.le_refl _)
    unfold R6LinePost at hln
    generalize dcX s = x at *
    have HNI := Lib.hid hnoI; have HNG := Lib.hid hnoG; have HNL := Lib.hid hnoL; have HYS := Lib.hid hyes
    clear hnoI hnoG hnoL hyes hxi
    rcases bool_two (evGood x) with hg | hg
    · have hE : evErr x = 0 := by unfold evErr; rw [hg]; rfl
      rw [hE] at hln
      by_cases hl : evLine x = s
      · have HYES := Lib.hid (HYS.out HIE.out hg hl)
        have t9 : ((bs (lineX x)).toList == S.toList) = true := by
          rw [← HS.out, toL_bs, toL_bs]
          unfold lineX
          rw [hg]
          simpa using hl
        generalize bs (lineX x) = LX at *
        have HLN := Lib.hid hln
        clear hln HNI HNG HNL HYS HIE hE hl hg
        have hevp := HEV.out
        go_wp2_with ((with_reducible apply wpList_load_ev); exact rfl; (first | assumption | (refine heap_alloc_lt ?_; assumption) | (refine heap_alloc_lt (heap_alloc_lt ?_); assumption) | exact heap_alloc_at (by simp)); exact rfl)
        refine HLN.out.mono ?_; rintro z w8 ⟨rfl, hk8⟩
        have hb8 := hk8.heap HEV.out (by simp)
        have hb80 := hk8.heap HB.out (by simp)
        have HB80 := Lib.hid hb80
        have HK8 := Lib.hid (HKW.out.trans hk8 (FSub.refl _ _))
        have HR8 := Lib.hid (HRW.out.keeps hk8 (by simp))
        clear hk8 HLN HEV HB HRW HKW hb80 hevp
        go_wp2_with (first | ((with_reducible apply wpList_load_ev); exact rfl; (first | assumption | (refine heap_alloc_lt ?_; assumption) | (refine heap_alloc_lt (heap_alloc_lt ?_); assumption) | exact heap_alloc_at (by simp)); exact rfl) | ((with_reducible apply wpList_put_ev); exact rfl; exact rfl; exact HB80.out; exact ⟨rfl, rfl⟩; first | exact rfl | (refine evC_one _ ?_ ?_ <;> first | rfl | exact row_one HR8.out.1 | exact row_one HR8.out.2.choose_spec.1)))
        intro W9 hb9 hk9
        go_wp2_with fail
        try simp only [Exit.inBlock, Exit.then]
        exact bodyPost_ret (results_ev2 (p := 2) (u := 3) rfl _ _ _ rfl hb9) rfl (R6ParsePost.yes HYES.out ((HR8.out.keeps hk9 (fun q hq => by simp at hq; have := HW0.out; omega)).kept (by have := HW0.out; omega)) (HK8.out.trans hk9 (fun q hq => .inr (by simp at hq; omega))))
      · have HNO := Lib.hid (HNL.out hl)
        have t9 : ((bs (lineX x)).toList == S.toList) = false := by
          rw [← HS.out, toL_bs, toL_bs, beq_eq_false_iff_ne]
          unfold lineX
          rw [hg]
          simpa using hl
        generalize bs (lineX x) = LX at *
        have HLN := Lib.hid hln
        clear hln HNI HNG HNL HYS HIE hE hl hg
        have hevp := HEV.out
        go_wp2_with ((with_reducible apply wpList_load_ev); exact rfl; (first | assumption | (refine heap_alloc_lt ?_; assumption) | (refine heap_alloc_lt (heap_alloc_lt ?_); assumption) | exact heap_alloc_at (by simp)); exact rfl)
        refine HLN.out.mono ?_; rintro z w8 ⟨rfl, hk8⟩
        have hb8 := hk8.heap HEV.out (by simp)
        have hb80 := hk8.heap HB.out (by simp)
        have HB80 := Lib.hid hb80
        have HK8 := Lib.hid (HKW.out.trans hk8 (FSub.refl _ _))
        have HR8 := Lib.hid (HRW.out.keeps hk8 (by simp))
        clear hk8 HLN HEV HB HRW HKW hb80 hevp
        go_wp2_with (first | ((with_reducible apply wpList_load_ev); exact rfl; (first | assumption | (refine heap_alloc_lt ?_; assumption) | (refine heap_alloc_lt (heap_alloc_lt ?_); assumption) | exact heap_alloc_at (by simp)); exact rfl) | ((with_reducible apply wpList_put_ev); exact rfl; exact rfl; exact HB80.out; exact ⟨rfl, rfl⟩; first | exact rfl | (refine evC_one _ ?_ ?_ <;> first | rfl | exact row_one HR8.out.1 | exact row_one HR8.out.2.choose_spec.1)))
        intro W9 hb9 hk9
        replace hb9 : W9.heap[w.heap.size]? = some (.cells (evC evZero (.slice none 0 0) (.slice none 0 0)) 32 (0, 0)) := hb9
        go_wp2_with fail
        try simp only [Exit.inBlock, Exit.then]
        exact bodyPost_ret (results_ev2 (p := 2) (u := 3) rfl _ _ _ rfl hb9) rfl (R6ParsePost.no HNO.out (HK8.out.trans hk9 (fun q hq => .inr (by simp at hq; omega))))
    · have HNO := Lib.hid (HNG.out hg)
      have hE : evErr x = 4 := by unfold evErr; rw [hg]; rfl
      rw [hE] at hln
      generalize bs (lineX x) = LX at *
      have HLN := Lib.hid hln
      clear hln HNI HNG HNL HYS HIE hE hg
      have hevp := HEV.out
      go_wp2_with ((with_reducible apply wpList_load_ev); exact rfl; (first | assumption | (refine heap_alloc_lt ?_; assumption) | (refine heap_alloc_lt (heap_alloc_lt ?_); assumption) | exact heap_alloc_at (by simp)); exact rfl)
      refine HLN.out.mono ?_; rintro z w8 ⟨rfl, hk8⟩
      have hb8 := hk8.heap HEV.out (by simp)
      have hb80 := hk8.heap HB.out (by simp)
      have HB80 := Lib.hid hb80
      have HK8 := Lib.hid (HKW.out.trans hk8 (FSub.refl _ _))
      have HR8 := Lib.hid (HRW.out.keeps hk8 (by simp))
      clear hk8 HLN HEV HB HRW HKW hb80 hevp
      go_wp2_with (first | ((with_reducible apply wpList_load_ev); exact rfl; (first | assumption | (refine heap_alloc_lt ?_; assumption) | (refine heap_alloc_lt (heap_alloc_lt ?_); assumption) | exact heap_alloc_at (by simp)); exact rfl) | ((with_reducible apply wpList_put_ev); exact rfl; exact rfl; exact HB80.out; exact ⟨rfl, rfl⟩; first | exact rfl | (refine evC_one _ ?_ ?_ <;> first | rfl | exact row_one HR8.out.1 | exact row_one HR8.out.2.choose_spec.1)))
      intro W9 hb9 hk9
      replace hb9 : W9.heap[w.heap.size]? = some (.cells (evC evZero (.slice none 0 0) (.slice none 0 0)) 32 (0, 0)) := hb9
      go_wp2_with fail
      try simp only [Exit.inBlock, Exit.then]
      exact bodyPost_ret (results_ev2 (p := 2) (u := 3) rfl _ _ _ rfl hb9) rfl (R6ParsePost.no HNO.out (HK8.out.trans hk9 (fun q hq => .inr (by simp at hq; omega))))
  · refine hop.mono ?_; rintro z W6 ⟨rfl, hk6⟩
    have HB6 := Lib.hid (hk6.heap HB5.out (by simp))
    have HB06 := Lib.hid (hk6.heap (HQ5.out.heap HB02.out (by have := HW0.out; simp; omega)) (by simp))
    have HK6 := Lib.hid (((HK1.out.trans HQ2.out (FSub.refl _ _)).trans HQ5.out (fun q hq => .inr (by simp at hq; have := HW0.out; omega))).trans hk6 (FSub.refl _ _))
    clear hk6 hop hst5
    go_wp2_with ((with_reducible apply wpList_put_op); exact rfl; exact rfl; exact HB6.out)
    intro W7 hb7 hk7
    have hev : W7.heap[w1.heap.size]? = some (.cells (evC { evZero with k := 2, c := c, id := i, o := ⟨yf, yo, yk, ya, yb⟩ } (.slice none 0 0) (.slice none 0 0)) 32 (0, 0)) := hb7
    rw [← HXE.out] at hev
    have HEV := Lib.hid hev
    have HB := Lib.hid (hk7.heap HB06.out (by have := HW0.out; simp; omega))
    have HKW := Lib.hid (HK6.out.trans hk7 (fun q hq => .inr (by simp at hq; have := HW0.out; omega)))
    have HRW : Hid (EvRows (w1.heap.size + 1) W7 (.slice none 0 0) (.slice none 0 0) (dcX s)) := Lib.hid (EvRows.nil (by rw [HXE.out]; rfl) (by rw [HXE.out]; rfl))
    clear hb7 hk7 hev HXE HB5 HB02 HK1 HQ5 HQ4 HQ2 HDR HCL HB6 HB06 HK6
    replace HIE : Hid (dcI s = false) := Lib.hid (by rw [HIE.out]; rfl)
    have hxi := dcX_in s
    have hnoI : dcI s = false → _ := fun h => dc_no (s := s) (.inl h)
    have hnoG : evGood (dcX s) = false → _ := fun h => dc_no (s := s) (.inr (.inl h))
    have hnoL : evLine (dcX s) ≠ s → _ := fun h => dc_no (s := s) (.inr (.inr h))
    have hyes : dcI s = true → evGood (dcX s) = true → evLine (dcX s) = s → _ := fun h1 h2 h3 => dc_yes (s := s) h1 h2 h3
    have hln := r6Line_any _ (dcX s) hxi _ _ HRW.out.at (Nat.le_refl _)
    unfold R6LinePost at hln
    generalize dcX s = x at *
    have HNI := Lib.hid hnoI; have HNG := Lib.hid hnoG; have HNL := Lib.hid hnoL; have HYS := Lib.hid hyes
    clear hnoI hnoG hnoL hyes hxi
    have HNO := Lib.hid (HNI.out HIE.out)
    generalize bs (lineX x) = LX at *
    generalize evErr x = EE at *
    have HLN := Lib.hid hln
    clear hln HNI HNG HNL HYS HIE
    have hevp := HEV.out
    go_wp2_with ((with_reducible apply wpList_load_ev); exact rfl; (first | assumption | (refine heap_alloc_lt ?_; assumption) | (refine heap_alloc_lt (heap_alloc_lt ?_); assumption) | exact heap_alloc_at (by simp)); exact rfl)
    refine HLN.out.mono ?_; rintro z w8 ⟨rfl, hk8⟩
    have hb8 := hk8.heap HEV.out (by simp)
    have hb80 := hk8.heap HB.out (by simp)
    have HB80 := Lib.hid hb80
    have HK8 := Lib.hid (HKW.out.trans hk8 (FSub.refl _ _))
    have HR8 := Lib.hid (HRW.out.keeps hk8 (by simp))
    clear hk8 HLN HEV HB HRW HKW hb80 hevp
    go_wp2_with (first | ((with_reducible apply wpList_load_ev); exact rfl; (first | assumption | (refine heap_alloc_lt ?_; assumption) | (refine heap_alloc_lt (heap_alloc_lt ?_); assumption) | exact heap_alloc_at (by simp)); exact rfl) | ((with_reducible apply wpList_put_ev); exact rfl; exact rfl; exact HB80.out; exact ⟨rfl, rfl⟩; first | exact rfl | (refine evC_one _ ?_ ?_ <;> first | rfl | exact row_one HR8.out.1 | exact row_one HR8.out.2.choose_spec.1)))
    intro W9 hb9 hk9
    replace hb9 : W9.heap[w.heap.size]? = some (.cells (evC evZero (.slice none 0 0) (.slice none 0 0)) 32 (0, 0)) := hb9
    go_wp2_with fail
    try simp only [Exit.inBlock, Exit.then]
    exact bodyPost_ret (results_ev2 (p := 2) (u := 3) rfl _ _ _ rfl hb9) rfl (R6ParsePost.no HNO.out (HK8.out.trans hk9 (fun q hq => .inr (by simp at hq; omega))))
set_option maxHeartbeats 16000000 in
set_option maxRecDepth 100000 in
theorem r6Parse_3 (w : World) (s : List UInt8) (hs : s.length ≤ 90000) (hk : (cutAt 32 s).getD 0 [] = returnL) (hwho : dcWho (cutAt 32 s) = true) :
    Calls Tryz.prog 11 #[.string (bs s)] w (R6ParsePost s w) := by
  have ht1 : ((bs ((cutAt 32 s).getD 0 [])).toList == [99, 111, 110, 102, 105, 103]) = false := by rw [toL_bs, hk]; decide
  have ht2 : ((bs ((cutAt 32 s).getD 0 [])).toList == [105, 110, 118, 111, 107, 101]) = false := by rw [toL_bs, hk]; decide
  have ht3 : ((bs ((cutAt 32 s).getD 0 [])).toList == [114, 101, 116, 117, 114, 110]) = true := by rw [toL_bs, hk]; decide
  have ht4 : ((bs ((cutAt 32 s).getD 0 [])).toList == [105, 110, 102, 111]) = false := by rw [toL_bs, hk]; decide
  have ht5 : ((bs ((cutAt 32 s).getD 0 [])).toList == [98, 101, 103, 105, 110]) = false := by rw [toL_bs, hk]; decide
  have ht6 : ((bs ((cutAt 32 s).getD 0 [])).toList == [99, 111, 109, 109, 105, 116]) = false := by rw [toL_bs, hk]; decide
  have ht7 : ((bs ((cutAt 32 s).getD 0 [])).toList == [97, 98, 111, 114, 116]) = false := by rw [toL_bs, hk]; decide
  have hxe : dcX s = { evZero with k := 3, c := sm ((cutAt 32 s).getD 1 []), id := sm ((cutAt 32 s).getD 2 []), rk := psK (behN 32 3 s), rv := psV (behN 32 3 s) } := by unfold dcX; rw [if_neg (by rw [hk]; decide), hwho, if_pos rfl, hk]; rfl
  have hie : dcI s = decide (psE (behN 32 3 s) = 0) := by unfold dcI; rw [if_neg (by rw [hk]; decide), hwho, if_pos rfl, hk]; rfl
  have HXE := Lib.hid hxe; have HIE := Lib.hid hie
  clear hxe hie
  clear hk
  unfold dcWho at hwho
  simp only [decide_eq_true_eq] at hwho
  obtain ⟨hw3, hcA, hcB, hiA⟩ := hwho
  have hcut := fun w => r6Cut_any w s 32 hs
  unfold Words6 at hcut
  have hne := cutAt_ne 32 s
  have hpl := cut_part_le 32 s
  have hll := cut_len_le 32 s
  generalize hL : cutAt 32 s = L at *
  have HL := Lib.hid hL
  have HPL := Lib.hid hpl
  clear hL hpl
  have hk0 := (Keeps.refl [] w).alloc (.cells (evC evZero (.slice none 0 0) (.slice none 0 0)) 32)
  have hb0 := heap_alloc_new w (.cells (evC evZero (.slice none 0 0) (.slice none 0 0)) 32)
  have HK0 := Lib.hid hk0; have HB0 := Lib.hid hb0
  have HCT := Lib.hid hcut
  clear hk0 hb0 hcut
  generalize hS : bs s = S at *
  have HS := Lib.hid hS
  clear hS
  go_enter Tryz.func11, Tryz.ntmps11
  go_wp2_with fail
  refine (HCT.out _).mono ?_; rintro z w1 ⟨v1, rfl, hrow1, hk1⟩
  have hst1 := Strs.row (row_up (b2 := 0) hrow1 (fun _ _ => Nat.zero_le _))
  obtain ⟨a1, c1, rfl, hc1, hm1⟩ := hst1.shape
  obtain ⟨-, -, -, bk, o, rfl, hbN, hcell, hdrop⟩ := hst1.at hne
  have hb01 : w1.heap[w.heap.size]? = some (.cells (evC evZero (.slice none 0 0) (.slice none 0 0)) 32 (0, 0)) := hk1.heap HB0.out (by simp)
  have HK1 := Lib.hid (HK0.out.trans hk1 (FSub.refl _ _))
  have hka := (Keeps.refl [] w1).alloc (.cells (evC evZero (.slice none 0 0) (.slice none 0 0)) 32)
  have HW0 := Lib.hid (lt_of_block hb01)
  have HKA := Lib.hid hka; have HB01 := Lib.hid hb01
  have HCL := Lib.hid hcell; have HDR := Lib.hid hdrop
  have hx0 : w1.cell? ⟨bk, o, none⟩ = some (.string (bs (L.getD 0 []))) := hcell 0 (List.length_pos_iff.2 hne)
  have hn0 : ¬ L.length = 0 := fun e => hne (List.eq_nil_of_length_eq_zero e)
  have hn1 : 1 ≤ L.length := by omega
  have hc2 : (c1 : Int) ≤ 9223372036854775807 := by omega
  have hbkn : bk < w1.heap.size := hbN
  have hcc1 : 1 ≤ c1 := by omega
  clear hk1 hrow1 hst1 hcell hdrop hb01 HK0 HB0 HCT hka hne
  generalize hn : L.length = n at *
  have HN := Lib.hid hn
  clear hn
  generalize bs (L.getD 0 []) = X0 at *
  go_wp2_with ((with_reducible apply wpList_put_ev); exact rfl; exact rfl; (first | assumption | (refine heap_alloc_lt ?_; assumption) | (refine heap_alloc_lt (heap_alloc_lt ?_); assumption) | exact heap_alloc_at (by simp)); exact ⟨rfl, rfl⟩; exact rfl)
  intro W2 hb2 hk2
  have hq2 : Keeps [] w1 W2 := HKA.out.trans hk2 (fun q hq => .inr (by simp at hq; omega))
  replace hb2 : W2.heap[w1.heap.size]? = some (.cells (evC evZero (.slice none 0 0) (.slice none 0 0)) 32 (0, 0)) := hb2
  have hb02 := hq2.heap HB01.out (by simp)
  replace hx0 := hq2.cell hx0 (by simp)
  have HB2 := Lib.hid hb2; have HB02 := Lib.hid hb02; have HQ2 := Lib.hid hq2
  have e0 := ev_cell hb2 0 (evC_0 _ _ _); have e1 := ev_cell hb2 1 (evC_1 _ _ _); have e2 := ev_cell hb2 2 (evC_2 _ _ _)
  have f0 := ev_thaw hb2 0; have f1 := ev_thaw hb2 1; have f2 := ev_thaw hb2 2
  have hlt2 : w1.heap.size < W2.heap.size := lt_of_block hb2
  clear hk2 hb2 hb02 hq2 HKA HB01
  have hg1 : (L.getD 1 []).length ≤ 1000000 := by
    by_cases hj : 1 < L.length
    · have := HPL.out (L.getD 1 []) (by rw [List.getD_eq_getElem?_getD, List.getElem?_eq_getElem hj]; exact List.getElem_mem hj); omega
    · rw [List.getD_eq_getElem?_getD, List.getElem?_eq_none (by omega)]; simp
  have hg2 : (L.getD 2 []).length ≤ 1000000 := by
    by_cases hj : 2 < L.length
    · have := HPL.out (L.getD 2 []) (by rw [List.getD_eq_getElem?_getD, List.getElem?_eq_getElem hj]; exact List.getElem_mem hj); omega
    · rw [List.getD_eq_getElem?_getD, List.getElem?_eq_none (by omega)]; simp
  have hsa := fun w => r6small_any w (L.getD 1 []) (by rw [bs_size]; omega)
  have hsb := fun w => r6small_any w (L.getD 2 []) (by rw [bs_size]; omega)
  have S1 := Lib.hid hsa; have S2 := Lib.hid hsb
  have hbi := sm_bounds (L.getD 2 [])
  have hbc := sm_bounds (L.getD 1 [])
  clear hsa hsb hg1 hg2
  have x1 := HQ2.out.cell (HCL.out 1 (by omega)) (by simp)
  have x2 := HQ2.out.cell (HCL.out 2 (by omega)) (by simp)
  generalize sm (L.getD 1 []) = c at *
  generalize sm (L.getD 2 []) = i at *
  generalize bs (L.getD 1 []) = X1 at *
  generalize bs (L.getD 2 []) = X2 at *
  have hn2 : 2 < n := by omega
  have hn1' : 1 < n := by omega
  have hwc : IntKind.u8.wrap c = c := by simp [IntKind.wrap, IntKind.bits, IntKind.signed]; omega
  have hwi : IntKind.u16.wrap i = i := by simp [IntKind.wrap, IntKind.bits, IntKind.signed]; omega
  have hz3 : (3 : Int) ≤ (n : Int) := by omega
  go_wp2_with fail
  refine (S1.out _).mono ?_; rintro z w9 ⟨rfl, rfl⟩
  go_wp2_with fail
  refine (S1.out _).mono ?_; rintro z w9 ⟨rfl, rfl⟩
  go_wp2_with fail
  refine (S2.out _).mono ?_; rintro z w9 ⟨rfl, rfl⟩
  go_wp2_with fail
  refine (S1.out _).mono ?_; rintro z w9 ⟨rfl, rfl⟩
  go_wp2_with (refine wpList_put_evc 1 { evZero with c := c } _ _ rfl rfl rfl rfl HB2.out (by kernel_rfl) rfl rfl rfl ?_)
  intro W3 hb3 hk3
  have hnb : bk ∉ [w1.heap.size] := by simp; omega
  replace x2 := hk3.cell x2 hnb
  replace hx0 := hk3.cell hx0 hnb
  have HB3 := Lib.hid hb3
  clear hb3
  go_wp2_with fail
  refine (S2.out _).mono ?_; rintro z w9 ⟨rfl, rfl⟩
  go_wp2_with (refine wpList_put_evc 2 { evZero with c := c, id := i } _ _ rfl rfl rfl rfl HB3.out (by kernel_rfl) rfl rfl rfl ?_)
  intro W4 hb4 hk4
  replace hx0 := hk4.cell hx0 hnb
  have HB4 := Lib.hid hb4
  have HQ4 := Lib.hid (hk3.trans hk4 (FSub.refl _ _))
  clear hb4 hk3 hk4 x1 x2 e0 e1 e2 f0 f1 f2 hlt2 HB3 HB2 S1 S2 hwc hwi hnb
  go_wp2_with (refine wpList_put_evc 0 { evZero with k := 3, c := c, id := i } _ _ rfl rfl rfl rfl HB4.out (by kernel_rfl) rfl rfl rfl ?_)
  intro W5 hb5 hk5
  have HQ5 := Lib.hid (HQ4.out.trans hk5 (FSub.refl _ _))
  have HB5 := Lib.hid hb5
  clear hb5 hk5 HB4 hx0 ht1 ht2 ht3 ht4 ht5 ht6 ht7
  have hbl := beh_len 32 3 s
  have hbh := fun w => r6behind_any w s hs
  rw [HS.out] at hbh
  have hrp := fun w => r3Parse_any w (bs (behN 32 3 s)) (by rw [bs_size]; omega)
  rw [bs_list] at hrp
  have hoE := psE_two (behN 32 3 s)
  generalize psK (behN 32 3 s) = rK at *
  generalize psV (behN 32 3 s) = rV at *
  generalize psE (behN 32 3 s) = oe at *
  generalize bs (behN 32 3 s) = BH at *
  have HBH := Lib.hid hbh; have HRP := Lib.hid hrp
  clear hbh hrp hbl
  go_wp2_with fail
  refine (HBH.out _).mono ?_; rintro z w9 ⟨rfl, rfl⟩
  go_wp2_with fail
  rcases hoE with rfl | rfl
  · refine (HRP.out _).mono ?_; rintro z W6 ⟨rfl, hk6⟩
    have HB6 := Lib.hid (hk6.heap HB5.out (by simp))
    have HB06 := Lib.hid (hk6.heap (HQ5.out.heap HB02.out (by have := HW0.out; simp; omega)) (by simp))
    have HK6 := Lib.hid (((HK1.out.trans HQ2.out (FSub.refl _ _)).trans HQ5.out (fun q hq => .inr (by simp at hq; have := HW0.out; omega))).trans hk6 (FSub.refl _ _))
    clear hk6 HRP HBH
    go_wp2_with ((with_reducible apply wpList_put_res); exact rfl; exact rfl; exact HB6.out)
    intro W7 hb7 hk7
    have hev : W7.heap[w1.heap.size]? = some (.cells (evC { evZero with k := 3, c := c, id := i, rk := rK, rv := rV } (.slice none 0 0) (.slice none 0 0)) 32 (0, 0)) := hb7
    rw [← HXE.out] at hev
    have HEV := Lib.hid hev
    have HB := Lib.hid (hk7.heap HB06.out (by have := HW0.out; simp; omega))
    have HKW := Lib.hid (HK6.out.trans hk7 (fun q hq => .inr (by simp at hq; have := HW0.out; omega)))
    have HRW : Hid (EvRows (w1.heap.size + 1) W7 (.slice none 0 0) (.slice none 0 0) (dcX s)) := Lib.hid (EvRows.nil (by rw [HXE.out]; rfl) (by rw [HXE.out]; rfl))
    clear hb7 hk7 hev HXE HB5 HB02 HK1 HQ5 HQ4 HQ2 HDR HCL HB6 HB06 HK6
    replace HIE : Hid (dcI s = true) := Lib.hid (by rw [HIE.out]; rfl)
    have hxi := dcX_in s
    have hnoI : dcI s = false → _ := fun h => dc_no (s := s) (.inl h)
    have hnoG : evGood (dcX s) = false → _ := fun h => dc_no (s := s) (.inr (.inl h))
    have hnoL : evLine (dcX s) ≠ s → _ := fun h => dc_no (s := s) (.inr (.inr h))
    have hyes : dcI s = true → evGood (dcX s) = true → evLine (dcX s) = s → _ := fun h1 h2 h3 => dc_yes (s := s) h1 h2 h3
    have hln := r6Line_any _ (dcX s) hxi _ _ HRW.out.at (Nat.le_refl _)
    unfold R6LinePost at hln
    generalize dcX s = x at *
    have HNI := Lib.hid hnoI; have HNG := Lib.hid hnoG; have HNL := Lib.hid hnoL; have HYS := Lib.hid hyes
    clear hnoI hnoG hnoL hyes hxi
    rcases bool_two (evGood x) with hg | hg
    · have hE : evErr x = 0 := by unfold evErr; rw [hg]; rfl
      rw [hE] at hln
      by_cases hl : evLine x = s
      · have HYES := Lib.hid (HYS.out HIE.out hg hl)
        have t9 : ((bs (lineX x)).toList == S.toList) = true := by
          rw [← HS.out, toL_bs, toL_bs]
          unfold lineX
          rw [hg]
          simpa using hl
        generalize bs (lineX x) = LX at *
        have HLN := Lib.hid hln
        clear hln HNI HNG HNL HYS HIE hE hl hg
        have hevp := HEV.out
        go_wp2_with ((with_reducible apply wpList_load_ev); exact rfl; (first | assumption | (refine heap_alloc_lt ?_; assumption) | (refine heap_alloc_lt (heap_alloc_lt ?_); assumption) | exact heap_alloc_at (by simp)); exact rfl)
        refine HLN.out.mono ?_; rintro z w8 ⟨rfl, hk8⟩
        have hb8 := hk8.heap HEV.out (by simp)
        have hb80 := hk8.heap HB.out (by simp)
        have HB80 := Lib.hid hb80
        have HK8 := Lib.hid (HKW.out.trans hk8 (FSub.refl _ _))
        have HR8 := Lib.hid (HRW.out.keeps hk8 (by simp))
        clear hk8 HLN HEV HB HRW HKW hb80 hevp
        go_wp2_with (first | ((with_reducible apply wpList_load_ev); exact rfl; (first | assumption | (refine heap_alloc_lt ?_; assumption) | (refine heap_alloc_lt (heap_alloc_lt ?_); assumption) | exact heap_alloc_at (by simp)); exact rfl) | ((with_reducible apply wpList_put_ev); exact rfl; exact rfl; exact HB80.out; exact ⟨rfl, rfl⟩; first | exact rfl | (refine evC_one _ ?_ ?_ <;> first | rfl | exact row_one HR8.out.1 | exact row_one HR8.out.2.choose_spec.1)))
        intro W9 hb9 hk9
        go_wp2_with fail
        try simp only [Exit.inBlock, Exit.then]
        exact bodyPost_ret (results_ev2 (p := 2) (u := 3) rfl _ _ _ rfl hb9) rfl (R6ParsePost.yes HYES.out ((HR8.out.keeps hk9 (fun q hq => by simp at hq; have := HW0.out; omega)).kept (by have := HW0.out; omega)) (HK8.out.trans hk9 (fun q hq => .inr (by simp at hq; omega))))
      · have HNO := Lib.hid (HNL.out hl)
        have t9 : ((bs (lineX x)).toList == S.toList) = false := by
          rw [← HS.out, toL_bs, toL_bs, beq_eq_false_iff_ne]
          unfold lineX
          rw [hg]
          simpa using hl
        generalize bs (lineX x) = LX at *
        have HLN := Lib.hid hln
        clear hln HNI HNG HNL HYS HIE hE hl hg
        have hevp := HEV.out
        go_wp2_with ((with_reducible apply wpList_load_ev); exact rfl; (first | assumption | (refine heap_alloc_lt ?_; assumption) | (refine heap_alloc_lt (heap_alloc_lt ?_); assumption) | exact heap_alloc_at (by simp)); exact rfl)
        refine HLN.out.mono ?_; rintro z w8 ⟨rfl, hk8⟩
        have hb8 := hk8.heap HEV.out (by simp)
        have hb80 := hk8.heap HB.out (by simp)
        have HB80 := Lib.hid hb80
        have HK8 := Lib.hid (HKW.out.trans hk8 (FSub.refl _ _))
        have HR8 := Lib.hid (HRW.out.keeps hk8 (by simp))
        clear hk8 HLN HEV HB HRW HKW hb80 hevp
        go_wp2_with (first | ((with_reducible apply wpList_load_ev); exact rfl; (first | assumption | (refine heap_alloc_lt ?_; assumption) | (refine heap_alloc_lt (heap_alloc_lt ?_); assumption) | exact heap_alloc_at (by simp)); exact rfl) | ((with_reducible apply wpList_put_ev); exact rfl; exact rfl; exact HB80.out; exact ⟨rfl, rfl⟩; first | exact rfl | (refine evC_one _ ?_ ?_ <;> first | rfl | exact row_one HR8.out.1 | exact row_one HR8.out.2.choose_spec.1)))
        intro W9 hb9 hk9
        replace hb9 : W9.heap[w.heap.size]? = some (.cells (evC evZero (.slice none 0 0) (.slice none 0 0)) 32 (0, 0)) := hb9
        go_wp2_with fail
        try simp only [Exit.inBlock, Exit.then]
        exact bodyPost_ret (results_ev2 (p := 2) (u := 3) rfl _ _ _ rfl hb9) rfl (R6ParsePost.no HNO.out (HK8.out.trans hk9 (fun q hq => .inr (by simp at hq; omega))))
    · have HNO := Lib.hid (HNG.out hg)
      have hE : evErr x = 4 := by unfold evErr; rw [hg]; rfl
      rw [hE] at hln
      generalize bs (lineX x) = LX at *
      have HLN := Lib.hid hln
      clear hln HNI HNG HNL HYS HIE hE hg
      have hevp := HEV.out
      go_wp2_with ((with_reducible apply wpList_load_ev); exact rfl; (first | assumption | (refine heap_alloc_lt ?_; assumption) | (refine heap_alloc_lt (heap_alloc_lt ?_); assumption) | exact heap_alloc_at (by simp)); exact rfl)
      refine HLN.out.mono ?_; rintro z w8 ⟨rfl, hk8⟩
      have hb8 := hk8.heap HEV.out (by simp)
      have hb80 := hk8.heap HB.out (by simp)
      have HB80 := Lib.hid hb80
      have HK8 := Lib.hid (HKW.out.trans hk8 (FSub.refl _ _))
      have HR8 := Lib.hid (HRW.out.keeps hk8 (by simp))
      clear hk8 HLN HEV HB HRW HKW hb80 hevp
      go_wp2_with (first | ((with_reducible apply wpList_load_ev); exact rfl; (first | assumption | (refine heap_alloc_lt ?_; assumption) | (refine heap_alloc_lt (heap_alloc_lt ?_); assumption) | exact heap_alloc_at (by simp)); exact rfl) | ((with_reducible apply wpList_put_ev); exact rfl; exact rfl; exact HB80.out; exact ⟨rfl, rfl⟩; first | exact rfl | (refine evC_one _ ?_ ?_ <;> first | rfl | exact row_one HR8.out.1 | exact row_one HR8.out.2.choose_spec.1)))
      intro W9 hb9 hk9
      replace hb9 : W9.heap[w.heap.size]? = some (.cells (evC evZero (.slice none 0 0) (.slice none 0 0)) 32 (0, 0)) := hb9
      go_wp2_with fail
      try simp only [Exit.inBlock, Exit.then]
      exact bodyPost_ret (results_ev2 (p := 2) (u := 3) rfl _ _ _ rfl hb9) rfl (R6ParsePost.no HNO.out (HK8.out.trans hk9 (fun q hq => .inr (by simp at hq; omega))))
  · refine (HRP.out _).mono ?_; rintro z W6 ⟨rfl, hk6⟩
    have HB6 := Lib.hid (hk6.heap HB5.out (by simp))
    have HB06 := Lib.hid (hk6.heap (HQ5.out.heap HB02.out (by have := HW0.out; simp; omega)) (by simp))
    have HK6 := Lib.hid (((HK1.out.trans HQ2.out (FSub.refl _ _)).trans HQ5.out (fun q hq => .inr (by simp at hq; have := HW0.out; omega))).trans hk6 (FSub.refl _ _))
    clear hk6 HRP HBH
    go_wp2_with ((with_reducible apply wpList_put_res); exact rfl; exact rfl; exact HB6.out)
    intro W7 hb7 hk7
    have hev : W7.heap[w1.heap.size]? = some (.cells (evC { evZero with k := 3, c := c, id := i, rk := rK, rv := rV } (.slice none 0 0) (.slice none 0 0)) 32 (0, 0)) := hb7
    rw [← HXE.out] at hev
    have HEV := Lib.hid hev
    have HB := Lib.hid (hk7.heap HB06.out (by have := HW0.out; simp; omega))
    have HKW := Lib.hid (HK6.out.trans hk7 (fun q hq => .inr (by simp at hq; have := HW0.out; omega)))
    have HRW : Hid (EvRows (w1.heap.size + 1) W7 (.slice none 0 0) (.slice none 0 0) (dcX s)) := Lib.hid (EvRows.nil (by rw [HXE.out]; rfl) (by rw [HXE.out]; rfl))
    clear hb7 hk7 hev HXE HB5 HB02 HK1 HQ5 HQ4 HQ2 HDR HCL HB6 HB06 HK6
    replace HIE : Hid (dcI s = false) := Lib.hid (by rw [HIE.out]; rfl)
    have hxi := dcX_in s
    have hnoI : dcI s = false → _ := fun h => dc_no (s := s) (.inl h)
    have hnoG : evGood (dcX s) = false → _ := fun h => dc_no (s := s) (.inr (.inl h))
    have hnoL : evLine (dcX s) ≠ s → _ := fun h => dc_no (s := s) (.inr (.inr h))
    have hyes : dcI s = true → evGood (dcX s) = true → evLine (dcX s) = s → _ := fun h1 h2 h3 => dc_yes (s := s) h1 h2 h3
    have hln := r6Line_any _ (dcX s) hxi _ _ HRW.out.at (Nat.le_refl _)
    unfold R6LinePost at hln
    generalize dcX s = x at *
    have HNI := Lib.hid hnoI; have HNG := Lib.hid hnoG; have HNL := Lib.hid hnoL; have HYS := Lib.hid hyes
    clear hnoI hnoG hnoL hyes hxi
    have HNO := Lib.hid (HNI.out HIE.out)
    generalize bs (lineX x) = LX at *
    generalize evErr x = EE at *
    have HLN := Lib.hid hln
    clear hln HNI HNG HNL HYS HIE
    have hevp := HEV.out
    go_wp2_with ((with_reducible apply wpList_load_ev); exact rfl; (first | assumption | (refine heap_alloc_lt ?_; assumption) | (refine heap_alloc_lt (heap_alloc_lt ?_); assumption) | exact heap_alloc_at (by simp)); exact rfl)
    refine HLN.out.mono ?_; rintro z w8 ⟨rfl, hk8⟩
    have hb8 := hk8.heap HEV.out (by simp)
    have hb80 := hk8.heap HB.out (by simp)
    have HB80 := Lib.hid hb80
    have HK8 := Lib.hid (HKW.out.trans hk8 (FSub.refl _ _))
    have HR8 := Lib.hid (HRW.out.keeps hk8 (by simp))
    clear hk8 HLN HEV HB HRW HKW hb80 hevp
    go_wp2_with (first | ((with_reducible apply wpList_load_ev); exact rfl; (first | assumption | (refine heap_alloc_lt ?_; assumption) | (refine heap_alloc_lt (heap_alloc_lt ?_); assumption) | exact heap_alloc_at (by simp)); exact rfl) | ((with_reducible apply wpList_put_ev); exact rfl; exact rfl; exact HB80.out; exact ⟨rfl, rfl⟩; first | exact rfl | (refine evC_one _ ?_ ?_ <;> first | rfl | exact row_one HR8.out.1 | exact row_one HR8.out.2.choose_spec.1)))
    intro W9 hb9 hk9
    replace hb9 : W9.heap[w.heap.size]? = some (.cells (evC evZero (.slice none 0 0) (.slice none 0 0)) 32 (0, 0)) := hb9
    go_wp2_with fail
    try simp only [Exit.inBlock, Exit.then]
    exact bodyPost_ret (results_ev2 (p := 2) (u := 3) rfl _ _ _ rfl hb9) rfl (R6ParsePost.no HNO.out (HK8.out.trans hk9 (fun q hq => .inr (by simp at hq; omega))))
end Go.Proofs.YtffldnjjijckcaaGreatDoor
