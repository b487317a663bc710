/-
  The document's Line, up to its switch.
-/
import Derived.Deep.RegionHeld3
import Derived.Test.YtffldnjjijckcaaGreatDoorR23
import Derived.Test.YtffldnjjijckcaaGreatDoorR12
import Derived.Test.YtffldnjjijckcaaGreatDoorR11
set_option linter.unusedSimpArgs false
set_option linter.unusedVariables false
namespace Go.Proofs.YtffldnjjijckcaaGreatDoor
open Go.RowKit
def cfgL (g : Cfg) : List Value := [.int .u8 g.m, .int .i64 g.mo, .int .i64 g.ms, .int .i64 g.mt, .bool g.p, .bool g.cu, .bool g.me]
theorem cfg_range {w : World} {b : Nat} {x : Ev} {tx rd : Value} {t : TypeId} {fr : Nat × Nat} (h : w.heap[b]? = some (.cells (evC x tx rd) t fr)) : w.rangeAt b 12 (cfgL x.g) := by
  intro j v hj
  have hl : j < 7 := (List.getElem?_eq_some_iff.1 hj).1
  rcases (by omega : j = 0 ∨ j = 1 ∨ j = 2 ∨ j = 3 ∨ j = 4 ∨ j = 5 ∨ j = 6) with rfl | rfl | rfl | rfl | rfl | rfl | rfl
  all_goals
    simp only [cfgL, List.getElem?_cons_zero, List.getElem?_cons_succ, Option.some.injEq] at hj
    subst hj
    simp only [World.cell?, h]
    rfl
theorem wpList_put_cfg {ops : Array Oper} {rest : List Oper} {a : Act} {w : World} {Q : Exit → Act → World → Prop} {dst : Option Tmp} {ty : TypeId} {pos : String} {after : Array Edge} {x y : Operand} {g : Nat} {old cells : Array Value} {t : TypeId}
    (hx : a.eval x = .pointer (some ⟨g, 0, none⟩)) (hy : a.eval y = .agg cells) (hg : w.heap[g]? = some (.cells old t (0, 0))) (hs : old.size = 7 ∧ cells.size = 7)
    (h1 : cells.toList.all (·.oneCell') = true) (h : ∀ W, W.heap[g]? = some (.cells cells t (0, 0)) → Keeps [g] w W → wpList Tryz.prog ops Q rest (a.put dst undef) W) :
    wpList Tryz.prog ops Q ({ dst := dst, op := .store 30 x y, type := ty, pos := pos, after := after, guard := none } :: rest) a w :=
  wpList_store_row rfl 30 x y rfl g cells hx hy t old hg (by rw [hs.2]; kernel_rfl) (by rw [hs.1, hs.2]) (by rw [← Array.all_toList]; exact h1) (h _ (setRow_heap w g old cells t (0, 0) hg) ((Keeps.refl [g] w).setRow g cells (.inl (by simp))))
set_option maxHeartbeats 16000000 in
set_option maxRecDepth 100000 in
theorem r6Line_none (w : World) (x : Ev) (hx : x.In) {N : Nat} (tx rd : Value) (ht : EvAt N w tx rd x) (hN : N ≤ w.heap.size) (hg : evGood x = false)
    (hmay : ∀ W, EvAt N W tx rd x → N ≤ W.heap.size → Calls Tryz.prog 22 #[.agg (evC x tx rd)] W fun e w' => e = .returned (.bool (evGood x)) ∧ Keeps [] W w') :
    Calls Tryz.prog 9 #[.agg (evC x tx rd)] w fun e w' => e = .returned (.tuple #[.string (bs []), .int .i64 4]) ∧ Keeps [] w w' := by
  have hk0 := (Keeps.refl [] w).alloc (.cells (evC x tx rd) 32)
  have hb0 := heap_alloc_new w (.cells (evC x tx rd) 32)
  have HM := Lib.hid (hmay _ (ht.new hk0 hN) (Nat.le_trans hN hk0.size))
  rw [hg] at HM
  have HK := Lib.hid hk0
  clear hk0 ht hN hx hmay hg
  go_enter Tryz.func9, Tryz.ntmps9
  go_wp2_with ((with_reducible apply wpList_load_ev); exact rfl; (first | assumption | (refine heap_alloc_lt ?_; assumption) | (refine heap_alloc_lt (heap_alloc_lt ?_); assumption) | exact heap_alloc_at (by simp)); exact rfl)
  refine HM.out.mono ?_; rintro z w1 ⟨rfl, hk1⟩
  have HK1 := Lib.hid (HK.out.trans hk1 (FSub.refl _ _))
  clear hk1 HK HM hb0
  go_wp2_with fail
  go_ret2
  exact ⟨rfl, HK1.out⟩
-- printed
set_option maxHeartbeats 16000000 in
set_option maxRecDepth 100000 in
theorem r6Line_4 (w : World) (x : Ev) (hx : x.In) {N : Nat} (tx rd : Value) (ht : EvAt N w tx rd x) (hN : N ≤ w.heap.size) (hg : evGood x = true) (hk : x.k = 4)
    (hmay : ∀ W, EvAt N W tx rd x → N ≤ W.heap.size → Calls Tryz.prog 22 #[.agg (evC x tx rd)] W fun e w' => e = .returned (.bool (evGood x)) ∧ Keeps [] W w') :
    Calls Tryz.prog 9 #[.agg (evC x tx rd)] w fun e w' => e = .returned (.tuple #[.string (bs (evLine x)), .int .i64 0]) ∧ Keeps [] w w' := by
  have hL : (⟨#[105, 110, 102, 111]⟩ : ByteArray) ++ bs (whoT x) = bs (evLine x) := by
    have e : (⟨#[105, 110, 102, 111]⟩ : ByteArray) = bs infoL := rfl
    rw [e, bs_app, line_who (by omega)]
    simp [kdNm, hk]
  have HL := Lib.hid hL
  clear hL
  generalize bs (evLine x) = SL at *
  have hk0 := (Keeps.refl [] w).alloc (.cells (evC x tx rd) 32)
  have hb0 := heap_alloc_new w (.cells (evC x tx rd) 32)
  have HM := Lib.hid (hmay _ (ht.new hk0 hN) (Nat.le_trans hN hk0.size))
  rw [hg] at HM
  have HK := Lib.hid hk0
  have HT := Lib.hid (ht.new hk0 hN)
  have hn0 : N ≤ (w.alloc (.cells (evC x tx rd) 32)).heap.size := Nat.le_trans hN hk0.size
  clear hk0 ht hN hmay
  have hd1 := fun w => r6d_any w x.c hx.c0 (by have := hx.c1; omega)
  have hd2 := fun w => r6d_any w x.id hx.i0 (by have := hx.i1; omega)
  have hw0 : IntKind.i64.wrap x.c = x.c := by have := hx.c0; have := hx.c1; simp [IntKind.wrap, IntKind.bits, IntKind.signed]; omega
  have hw1 : IntKind.i64.wrap x.id = x.id := by have := hx.i0; have := hx.i1; simp [IntKind.wrap, IntKind.bits, IntKind.signed]; omega
  have s1 : (dec x.c).length ≤ 7 := dec_length_le 6 _ (by have := hx.c1; omega)
  have s2 : (dec x.id).length ≤ 7 := dec_length_le 6 _ (by have := hx.i1; omega)
  have z1 : (bs (dec x.c)).size ≤ 7 := by rw [bs_size]; exact s1
  have z2 : (bs (dec x.id)).size ≤ 7 := by rw [bs_size]; exact s2
  have hwho : (⟨#[32]⟩ : ByteArray) ++ bs (dec x.c) ++ (⟨#[32]⟩ : ByteArray) ++ bs (dec x.id) = bs (whoT x) := by
    have e : (⟨#[32]⟩ : ByteArray) = bs [32] := rfl
    rw [e, bs_app, bs_app, bs_app]
    unfold whoT
    congr 1
    simp
  have HD1 := Lib.hid hd1; have HD2 := Lib.hid hd2; have HWHO := Lib.hid hwho
  have zw : (bs (whoT x)).size ≤ 16 := by rw [bs_size]; unfold whoT; simp; omega
  clear hd1 hd2 hwho s1 s2
  go_enter Tryz.func9, Tryz.ntmps9
  go_wp2_with ((with_reducible apply wpList_load_ev); exact rfl; (first | assumption | (refine heap_alloc_lt ?_; assumption) | (refine heap_alloc_lt (heap_alloc_lt ?_); assumption) | exact heap_alloc_at (by simp)); exact rfl)
  generalize w.alloc (.cells (evC x tx rd) 32) = W0 at *
  generalize w.heap.size = b at *
  refine HM.out.mono ?_; rintro z w1 ⟨rfl, hk1⟩
  have hb1 := hk1.heap hb0 (by simp)
  have HK1 := Lib.hid (HK.out.trans hk1 (FSub.refl _ _))
  have HT1 := Lib.hid (HT.out.new hk1 hn0)
  have hn1 := Nat.le_trans hn0 hk1.size
  have hr := cfg_range hb1
  clear hk1 HK HM hb0 HT hn0
  have HKA := Lib.hid ((Keeps.refl [] w1).alloc (.cells #[.int .u8 0, .int .i64 0, .int .i64 0, .int .i64 0, .bool false, .bool false, .bool false] 30))
  go_wp2_with (first | (refine wpList_load_mid rfl 30 _ rfl b 12 rfl (cfgL x.g) _ hr Tryz.underlying30 rfl (by kernel_rfl) ?_) | ((with_reducible apply wpList_put_cfg); exact rfl; exact rfl; exact heap_alloc_at (by simp); exact ⟨rfl, rfl⟩; exact rfl))
  intro W2 hc2 hk2
  have hq2 : Keeps [] w1 W2 := HKA.out.trans hk2 (fun q hq => .inr (by simp at hq; omega))
  have hb2 := hq2.heap hb1 (by simp)
  have HK2 := Lib.hid (HK1.out.trans hq2 (FSub.refl _ _))
  have HT2 := Lib.hid (HT1.out.new hq2 hn1)
  have hn2 := Nat.le_trans hn1 hq2.size
  clear hq2 hk2 HKA HK1 hr hb1 HT1 hn1
  generalize w1.heap.size = cb at *
  have HB2 := Lib.hid hb2; have HC2 := Lib.hid hc2
  clear hb2 hc2
  generalize hA : bs (dec x.c) = A at *
  generalize hB : bs (dec x.id) = B at *
  generalize hW : bs (whoT x) = WH at *
  have HA := Lib.hid hA; have HB := Lib.hid hB; have HW := Lib.hid hW
  clear hA hB hW
  have p1 : 1 + A.size ≤ 9223372036854775807 := by omega
  have p2 : 1 + A.size ≤ 9223372036854775806 := by omega
  have p3 : 1 + A.size + 1 + B.size ≤ 9223372036854775807 := by omega
  go_wp2_with fail
  refine wp_region_noPanic ?_
  refine wp_region_held_drew (S := fun w' => w'.heap[b]? = some (.cells (evC x tx rd) 32 (0, 0)) ∧ w'.heap[cb]? = some (.cells (cfgL x.g).toArray 30 (0, 0))) (by kernel_rfl) ⟨HB2.out, HC2.out⟩ (fun hHeld => ?_)
  apply wpAnyH_take (i := 0) (v := .pointer (some ⟨b, 1, none⟩))
  · simp only [List.getElem?_toArray]; rfl
  · kernel_rfl
  · kernel_rfl
  · kernel_rfl
  · exact fun _ _ _ h => h
  · exact Or.inl ⟨by rfl, by intro w hSw; go_simp; try with_reducible rfl⟩
  · assumption
  try simp only [Act.put, List.setIfInBounds_toArray, List.set_cons_zero, List.set_cons_succ]
  apply wpAnyH_take (i := 1) (v := .int .u8 x.c)
  · simp only [List.getElem?_toArray]; rfl
  · kernel_rfl
  · kernel_rfl
  · kernel_rfl
  · exact fun _ _ _ h => h
  · exact Or.inl ⟨by rfl, by intro w hSw; have d0 := ev_cell hSw.1 1 (evC_1 x tx rd); go_simp; try with_reducible rfl⟩
  · assumption
  try simp only [Act.put, List.setIfInBounds_toArray, List.set_cons_zero, List.set_cons_succ]
  apply wpAnyH_take (i := 2) (v := .int .i64 x.c)
  · simp only [List.getElem?_toArray]; rfl
  · kernel_rfl
  · kernel_rfl
  · kernel_rfl
  · exact fun _ _ _ h => h
  · exact Or.inl ⟨by rfl, by intro w hSw; go_simp; try with_reducible rfl⟩
  · assumption
  try simp only [Act.put, List.setIfInBounds_toArray, List.set_cons_zero, List.set_cons_succ]
  apply wpAnyH_take (i := 6) (v := .pointer (some ⟨b, 2, none⟩))
  · simp only [List.getElem?_toArray]; rfl
  · kernel_rfl
  · kernel_rfl
  · kernel_rfl
  · exact fun _ _ _ h => h
  · exact Or.inl ⟨by rfl, by intro w hSw; go_simp; try with_reducible rfl⟩
  · assumption
  try simp only [Act.put, List.setIfInBounds_toArray, List.set_cons_zero, List.set_cons_succ]
  apply wpAnyH_take (i := 7) (v := .int .u16 x.id)
  · simp only [List.getElem?_toArray]; rfl
  · kernel_rfl
  · kernel_rfl
  · kernel_rfl
  · exact fun _ _ _ h => h
  · exact Or.inl ⟨by rfl, by intro w hSw; have d0 := ev_cell hSw.1 2 (evC_2 x tx rd); go_simp; try with_reducible rfl⟩
  · assumption
  try simp only [Act.put, List.setIfInBounds_toArray, List.set_cons_zero, List.set_cons_succ]
  apply wpAnyH_take (i := 8) (v := .int .i64 x.id)
  · simp only [List.getElem?_toArray]; rfl
  · kernel_rfl
  · kernel_rfl
  · kernel_rfl
  · exact fun _ _ _ h => h
  · exact Or.inl ⟨by rfl, by intro w hSw; go_simp; try with_reducible rfl⟩
  · assumption
  try simp only [Act.put, List.setIfInBounds_toArray, List.set_cons_zero, List.set_cons_succ]
  apply wpAnyH_ready (rs := [3])
  · kernel_rfl
  · simp
  apply AllReadyH.cons (hs := AllReadyH.nil)
  · simp only [List.getElem?_toArray]; rfl
  intro K hK
  rw [if_pos (by rfl)]
  go_simp
  refine (HD1.out _).mono ?_; rintro z w3 ⟨rfl, hk3⟩
  have hk3 : Keeps [] W2 w3 := hk3.undrew
  have hb3 := hk3.heap HB2.out (by simp); have hc3 := hk3.heap HC2.out (by simp)
  go_wp2_with fail
  refine hK.out _ _ ?_ (fun hHeld => ?_)
  · exact ⟨hb3, hc3⟩
  clear hK K
  try simp only [Act.put, List.setIfInBounds_toArray, List.set_cons_zero, List.set_cons_succ]
  apply wpAnyH_take (i := 4) (v := .string (⟨#[32]⟩ ++ A))
  · simp only [List.getElem?_toArray]; rfl
  · kernel_rfl
  · kernel_rfl
  · kernel_rfl
  · exact fun _ _ _ h => h
  · exact Or.inl ⟨by rfl, by intro w hSw; go_simp; try with_reducible rfl⟩
  · assumption
  try simp only [Act.put, List.setIfInBounds_toArray, List.set_cons_zero, List.set_cons_succ]
  apply wpAnyH_take (i := 5) (v := .string (⟨#[32]⟩ ++ A ++ ⟨#[32]⟩))
  · simp only [List.getElem?_toArray]; rfl
  · kernel_rfl
  · kernel_rfl
  · kernel_rfl
  · exact fun _ _ _ h => h
  · exact Or.inl ⟨by rfl, by intro w hSw; go_simp; try with_reducible rfl⟩
  · assumption
  try simp only [Act.put, List.setIfInBounds_toArray, List.set_cons_zero, List.set_cons_succ]
  apply wpAnyH_ready (rs := [9])
  · kernel_rfl
  · simp
  apply AllReadyH.cons (hs := AllReadyH.nil)
  · simp only [List.getElem?_toArray]; rfl
  intro K hK
  rw [if_pos (by rfl)]
  go_simp
  refine (HD2.out _).mono ?_; rintro z w4 ⟨rfl, hk4⟩
  have hk4 : Keeps [] W2 w4 := hk3.trans hk4 (FSub.refl _ _)
  have hb4 := hk4.heap HB2.out (by simp); have hc4 := hk4.heap HC2.out (by simp)
  go_wp2_with fail
  refine hK.out _ _ ?_ (fun hHeld => ?_)
  · exact ⟨hb4, hc4⟩
  clear hK K
  try simp only [Act.put, List.setIfInBounds_toArray, List.set_cons_zero, List.set_cons_succ]
  apply wpAnyH_take (i := 10) (v := .string (⟨#[32]⟩ ++ A ++ ⟨#[32]⟩ ++ B))
  · simp only [List.getElem?_toArray]; rfl
  · kernel_rfl
  · kernel_rfl
  · kernel_rfl
  · exact fun _ _ _ h => h
  · exact Or.inl ⟨by rfl, by intro w hSw; go_simp; try with_reducible rfl⟩
  · assumption
  try simp only [Act.put, List.setIfInBounds_toArray, List.set_cons_zero, List.set_cons_succ]
  apply wpAnyH_ready (rs := [11])
  · kernel_rfl
  · simp
  apply AllReadyH.cons (hs := AllReadyH.nil)
  · simp only [List.getElem?_toArray]; rfl
  intro K hK
  rw [if_pos (by rfl)]
  go_simp
  refine hK.out _ _ ?_ (fun hHeld => ?_)
  · exact ⟨hb4, hc4⟩
  clear hK K
  try simp only [Act.put, List.setIfInBounds_toArray, List.set_cons_zero, List.set_cons_succ]
  refine wpAnyH_done (by kernel_rfl) ?_ _
  refine NoPanic.normal ?_
  rw [HWHO.out]
  have HK4 := Lib.hid (HK2.out.trans hk4 (FSub.refl _ _))
  have HT4 := Lib.hid (HT2.out.new hk4 hn2)
  have hn4 := Nat.le_trans hn2 hk4.size
  have HB4 := Lib.hid hb4; have HC4 := Lib.hid hc4
  clear hk3 hb3 hc3 hk4 hb4 hc4 HK2 HT2 hn2 HB2 HC2 HD1 HD2 HWHO z1 z2 HA HB p1 p2 p3
  have d0 := ev_cell HB4.out 0 (evC_0 x tx rd)
  rw [hk] at d0
  go_wp2_with fail
  go_ret2
  exact ⟨by rw [← HL.out]; rfl, HK4.out⟩
set_option maxHeartbeats 16000000 in
set_option maxRecDepth 100000 in
theorem r6Line_7 (w : World) (x : Ev) (hx : x.In) {N : Nat} (tx rd : Value) (ht : EvAt N w tx rd x) (hN : N ≤ w.heap.size) (hg : evGood x = true) (hk : x.k = 7)
    (hmay : ∀ W, EvAt N W tx rd x → N ≤ W.heap.size → Calls Tryz.prog 22 #[.agg (evC x tx rd)] W fun e w' => e = .returned (.bool (evGood x)) ∧ Keeps [] W w') :
    Calls Tryz.prog 9 #[.agg (evC x tx rd)] w fun e w' => e = .returned (.tuple #[.string (bs (evLine x)), .int .i64 0]) ∧ Keeps [] w w' := by
  have hL : (⟨#[97, 98, 111, 114, 116]⟩ : ByteArray) ++ bs (whoT x) = bs (evLine x) := by
    have e : (⟨#[97, 98, 111, 114, 116]⟩ : ByteArray) = bs abortL := rfl
    rw [e, bs_app, line_who (by omega)]
    simp [kdNm, hk]
  have HL := Lib.hid hL
  clear hL
  generalize bs (evLine x) = SL at *
  have hk0 := (Keeps.refl [] w).alloc (.cells (evC x tx rd) 32)
  have hb0 := heap_alloc_new w (.cells (evC x tx rd) 32)
  have HM := Lib.hid (hmay _ (ht.new hk0 hN) (Nat.le_trans hN hk0.size))
  rw [hg] at HM
  have HK := Lib.hid hk0
  have HT := Lib.hid (ht.new hk0 hN)
  have hn0 : N ≤ (w.alloc (.cells (evC x tx rd) 32)).heap.size := Nat.le_trans hN hk0.size
  clear hk0 ht hN hmay
  have hd1 := fun w => r6d_any w x.c hx.c0 (by have := hx.c1; omega)
  have hd2 := fun w => r6d_any w x.id hx.i0 (by have := hx.i1; omega)
  have hw0 : IntKind.i64.wrap x.c = x.c := by have := hx.c0; have := hx.c1; simp [IntKind.wrap, IntKind.bits, IntKind.signed]; omega
  have hw1 : IntKind.i64.wrap x.id = x.id := by have := hx.i0; have := hx.i1; simp [IntKind.wrap, IntKind.bits, IntKind.signed]; omega
  have s1 : (dec x.c).length ≤ 7 := dec_length_le 6 _ (by have := hx.c1; omega)
  have s2 : (dec x.id).length ≤ 7 := dec_length_le 6 _ (by have := hx.i1; omega)
  have z1 : (bs (dec x.c)).size ≤ 7 := by rw [bs_size]; exact s1
  have z2 : (bs (dec x.id)).size ≤ 7 := by rw [bs_size]; exact s2
  have hwho : (⟨#[32]⟩ : ByteArray) ++ bs (dec x.c) ++ (⟨#[32]⟩ : ByteArray) ++ bs (dec x.id) = bs (whoT x) := by
    have e : (⟨#[32]⟩ : ByteArray) = bs [32] := rfl
    rw [e, bs_app, bs_app, bs_app]
    unfold whoT
    congr 1
    simp
  have HD1 := Lib.hid hd1; have HD2 := Lib.hid hd2; have HWHO := Lib.hid hwho
  have zw : (bs (whoT x)).size ≤ 16 := by rw [bs_size]; unfold whoT; simp; omega
  clear hd1 hd2 hwho s1 s2
  go_enter Tryz.func9, Tryz.ntmps9
  go_wp2_with ((with_reducible apply wpList_load_ev); exact rfl; (first | assumption | (refine heap_alloc_lt ?_; assumption) | (refine heap_alloc_lt (heap_alloc_lt ?_); assumption) | exact heap_alloc_at (by simp)); exact rfl)
  generalize w.alloc (.cells (evC x tx rd) 32) = W0 at *
  generalize w.heap.size = b at *
  refine HM.out.mono ?_; rintro z w1 ⟨rfl, hk1⟩
  have hb1 := hk1.heap hb0 (by simp)
  have HK1 := Lib.hid (HK.out.trans hk1 (FSub.refl _ _))
  have HT1 := Lib.hid (HT.out.new hk1 hn0)
  have hn1 := Nat.le_trans hn0 hk1.size
  have hr := cfg_range hb1
  clear hk1 HK HM hb0 HT hn0
  have HKA := Lib.hid ((Keeps.refl [] w1).alloc (.cells #[.int .u8 0, .int .i64 0, .int .i64 0, .int .i64 0, .bool false, .bool false, .bool false] 30))
  go_wp2_with (first | (refine wpList_load_mid rfl 30 _ rfl b 12 rfl (cfgL x.g) _ hr Tryz.underlying30 rfl (by kernel_rfl) ?_) | ((with_reducible apply wpList_put_cfg); exact rfl; exact rfl; exact heap_alloc_at (by simp); exact ⟨rfl, rfl⟩; exact rfl))
  intro W2 hc2 hk2
  have hq2 : Keeps [] w1 W2 := HKA.out.trans hk2 (fun q hq => .inr (by simp at hq; omega))
  have hb2 := hq2.heap hb1 (by simp)
  have HK2 := Lib.hid (HK1.out.trans hq2 (FSub.refl _ _))
  have HT2 := Lib.hid (HT1.out.new hq2 hn1)
  have hn2 := Nat.le_trans hn1 hq2.size
  clear hq2 hk2 HKA HK1 hr hb1 HT1 hn1
  generalize w1.heap.size = cb at *
  have HB2 := Lib.hid hb2; have HC2 := Lib.hid hc2
  clear hb2 hc2
  generalize hA : bs (dec x.c) = A at *
  generalize hB : bs (dec x.id) = B at *
  generalize hW : bs (whoT x) = WH at *
  have HA := Lib.hid hA; have HB := Lib.hid hB; have HW := Lib.hid hW
  clear hA hB hW
  have p1 : 1 + A.size ≤ 9223372036854775807 := by omega
  have p2 : 1 + A.size ≤ 9223372036854775806 := by omega
  have p3 : 1 + A.size + 1 + B.size ≤ 9223372036854775807 := by omega
  go_wp2_with fail
  refine wp_region_noPanic ?_
  refine wp_region_held_drew (S := fun w' => w'.heap[b]? = some (.cells (evC x tx rd) 32 (0, 0)) ∧ w'.heap[cb]? = some (.cells (cfgL x.g).toArray 30 (0, 0))) (by kernel_rfl) ⟨HB2.out, HC2.out⟩ (fun hHeld => ?_)
  apply wpAnyH_take (i := 0) (v := .pointer (some ⟨b, 1, none⟩))
  · simp only [List.getElem?_toArray]; rfl
  · kernel_rfl
  · kernel_rfl
  · kernel_rfl
  · exact fun _ _ _ h => h
  · exact Or.inl ⟨by rfl, by intro w hSw; go_simp; try with_reducible rfl⟩
  · assumption
  try simp only [Act.put, List.setIfInBounds_toArray, List.set_cons_zero, List.set_cons_succ]
  apply wpAnyH_take (i := 1) (v := .int .u8 x.c)
  · simp only [List.getElem?_toArray]; rfl
  · kernel_rfl
  · kernel_rfl
  · kernel_rfl
  · exact fun _ _ _ h => h
  · exact Or.inl ⟨by rfl, by intro w hSw; have d0 := ev_cell hSw.1 1 (evC_1 x tx rd); go_simp; try with_reducible rfl⟩
  · assumption
  try simp only [Act.put, List.setIfInBounds_toArray, List.set_cons_zero, List.set_cons_succ]
  apply wpAnyH_take (i := 2) (v := .int .i64 x.c)
  · simp only [List.getElem?_toArray]; rfl
  · kernel_rfl
  · kernel_rfl
  · kernel_rfl
  · exact fun _ _ _ h => h
  · exact Or.inl ⟨by rfl, by intro w hSw; go_simp; try with_reducible rfl⟩
  · assumption
  try simp only [Act.put, List.setIfInBounds_toArray, List.set_cons_zero, List.set_cons_succ]
  apply wpAnyH_take (i := 6) (v := .pointer (some ⟨b, 2, none⟩))
  · simp only [List.getElem?_toArray]; rfl
  · kernel_rfl
  · kernel_rfl
  · kernel_rfl
  · exact fun _ _ _ h => h
  · exact Or.inl ⟨by rfl, by intro w hSw; go_simp; try with_reducible rfl⟩
  · assumption
  try simp only [Act.put, List.setIfInBounds_toArray, List.set_cons_zero, List.set_cons_succ]
  apply wpAnyH_take (i := 7) (v := .int .u16 x.id)
  · simp only [List.getElem?_toArray]; rfl
  · kernel_rfl
  · kernel_rfl
  · kernel_rfl
  · exact fun _ _ _ h => h
  · exact Or.inl ⟨by rfl, by intro w hSw; have d0 := ev_cell hSw.1 2 (evC_2 x tx rd); go_simp; try with_reducible rfl⟩
  · assumption
  try simp only [Act.put, List.setIfInBounds_toArray, List.set_cons_zero, List.set_cons_succ]
  apply wpAnyH_take (i := 8) (v := .int .i64 x.id)
  · simp only [List.getElem?_toArray]; rfl
  · kernel_rfl
  · kernel_rfl
  · kernel_rfl
  · exact fun _ _ _ h => h
  · exact Or.inl ⟨by rfl, by intro w hSw; go_simp; try with_reducible rfl⟩
  · assumption
  try simp only [Act.put, List.setIfInBounds_toArray, List.set_cons_zero, List.set_cons_succ]
  apply wpAnyH_ready (rs := [3])
  · kernel_rfl
  · simp
  apply AllReadyH.cons (hs := AllReadyH.nil)
  · simp only [List.getElem?_toArray]; rfl
  intro K hK
  rw [if_pos (by rfl)]
  go_simp
  refine (HD1.out _).mono ?_; rintro z w3 ⟨rfl, hk3⟩
  have hk3 : Keeps [] W2 w3 := hk3.undrew
  have hb3 := hk3.heap HB2.out (by simp); have hc3 := hk3.heap HC2.out (by simp)
  go_wp2_with fail
  refine hK.out _ _ ?_ (fun hHeld => ?_)
  · exact ⟨hb3, hc3⟩
  clear hK K
  try simp only [Act.put, List.setIfInBounds_toArray, List.set_cons_zero, List.set_cons_succ]
  apply wpAnyH_take (i := 4) (v := .string (⟨#[32]⟩ ++ A))
  · simp only [List.getElem?_toArray]; rfl
  · kernel_rfl
  · kernel_rfl
  · kernel_rfl
  · exact fun _ _ _ h => h
  · exact Or.inl ⟨by rfl, by intro w hSw; go_simp; try with_reducible rfl⟩
  · assumption
  try simp only [Act.put, List.setIfInBounds_toArray, List.set_cons_zero, List.set_cons_succ]
  apply wpAnyH_take (i := 5) (v := .string (⟨#[32]⟩ ++ A ++ ⟨#[32]⟩))
  · simp only [List.getElem?_toArray]; rfl
  · kernel_rfl
  · kernel_rfl
  · kernel_rfl
  · exact fun _ _ _ h => h
  · exact Or.inl ⟨by rfl, by intro w hSw; go_simp; try with_reducible rfl⟩
  · assumption
  try simp only [Act.put, List.setIfInBounds_toArray, List.set_cons_zero, List.set_cons_succ]
  apply wpAnyH_ready (rs := [9])
  · kernel_rfl
  · simp
  apply AllReadyH.cons (hs := AllReadyH.nil)
  · simp only [List.getElem?_toArray]; rfl
  intro K hK
  rw [if_pos (by rfl)]
  go_simp
  refine (HD2.out _).mono ?_; rintro z w4 ⟨rfl, hk4⟩
  have hk4 : Keeps [] W2 w4 := hk3.trans hk4 (FSub.refl _ _)
  have hb4 := hk4.heap HB2.out (by simp); have hc4 := hk4.heap HC2.out (by simp)
  go_wp2_with fail
  refine hK.out _ _ ?_ (fun hHeld => ?_)
  · exact ⟨hb4, hc4⟩
  clear hK K
  try simp only [Act.put, List.setIfInBounds_toArray, List.set_cons_zero, List.set_cons_succ]
  apply wpAnyH_take (i := 10) (v := .string (⟨#[32]⟩ ++ A ++ ⟨#[32]⟩ ++ B))
  · simp only [List.getElem?_toArray]; rfl
  · kernel_rfl
  · kernel_rfl
  · kernel_rfl
  · exact fun _ _ _ h => h
  · exact Or.inl ⟨by rfl, by intro w hSw; go_simp; try with_reducible rfl⟩
  · assumption
  try simp only [Act.put, List.setIfInBounds_toArray, List.set_cons_zero, List.set_cons_succ]
  apply wpAnyH_ready (rs := [11])
  · kernel_rfl
  · simp
  apply AllReadyH.cons (hs := AllReadyH.nil)
  · simp only [List.getElem?_toArray]; rfl
  intro K hK
  rw [if_pos (by rfl)]
  go_simp
  refine hK.out _ _ ?_ (fun hHeld => ?_)
  · exact ⟨hb4, hc4⟩
  clear hK K
  try simp only [Act.put, List.setIfInBounds_toArray, List.set_cons_zero, List.set_cons_succ]
  refine wpAnyH_done (by kernel_rfl) ?_ _
  refine NoPanic.normal ?_
  rw [HWHO.out]
  have HK4 := Lib.hid (HK2.out.trans hk4 (FSub.refl _ _))
  have HT4 := Lib.hid (HT2.out.new hk4 hn2)
  have hn4 := Nat.le_trans hn2 hk4.size
  have HB4 := Lib.hid hb4; have HC4 := Lib.hid hc4
  clear hk3 hb3 hc3 hk4 hb4 hc4 HK2 HT2 hn2 HB2 HC2 HD1 HD2 HWHO z1 z2 HA HB p1 p2 p3
  have d0 := ev_cell HB4.out 0 (evC_0 x tx rd)
  rw [hk] at d0
  go_wp2_with fail
  go_ret2
  exact ⟨by rw [← HL.out]; rfl, HK4.out⟩
set_option maxHeartbeats 16000000 in
set_option maxRecDepth 100000 in
theorem r6Line_3 (w : World) (x : Ev) (hx : x.In) {N : Nat} (tx rd : Value) (ht : EvAt N w tx rd x) (hN : N ≤ w.heap.size) (hg : evGood x = true) (hk : x.k = 3)
    (htext : ∀ W, Calls Tryz.prog 27 #[.agg #[.int .u8 x.rk, .int .u16 x.rv]] W fun e w' => (∃ v, e = .returned (.tuple #[.string (bs (rsTxt x.rk x.rv)), v])) ∧ Keeps [] W w')
    (hmay : ∀ W, EvAt N W tx rd x → N ≤ W.heap.size → Calls Tryz.prog 22 #[.agg (evC x tx rd)] W fun e w' => e = .returned (.bool (evGood x)) ∧ Keeps [] W w') :
    Calls Tryz.prog 9 #[.agg (evC x tx rd)] w fun e w' => e = .returned (.tuple #[.string (bs (evLine x)), .int .i64 0]) ∧ Keeps [] w w' := by
  have hL : (⟨#[114, 101, 116, 117, 114, 110]⟩ : ByteArray) ++ bs (whoT x) ++ (⟨#[32]⟩ : ByteArray) ++ bs (rsTxt x.rk x.rv) = bs (evLine x) := by
    have e : (⟨#[114, 101, 116, 117, 114, 110]⟩ : ByteArray) = bs returnL := rfl
    have e2 : (⟨#[32]⟩ : ByteArray) = bs [32] := rfl
    rw [e, e2, bs_app, bs_app, bs_app, line_res hk]
    congr 1
    simp
  have HL := Lib.hid hL
  have hts := txt_size (k := x.rk) (v := x.rv) (by have := hx.rv1; omega)
  have htz : (bs (rsTxt x.rk x.rv)).size ≤ 1000 := by rw [bs_size]; omega
  have HX3 := Lib.hid htext
  clear hL htext hts
  generalize bs (rsTxt x.rk x.rv) = TX at *
  generalize bs (evLine x) = SL at *
  have hk0 := (Keeps.refl [] w).alloc (.cells (evC x tx rd) 32)
  have hb0 := heap_alloc_new w (.cells (evC x tx rd) 32)
  have HM := Lib.hid (hmay _ (ht.new hk0 hN) (Nat.le_trans hN hk0.size))
  rw [hg] at HM
  have HK := Lib.hid hk0
  have HT := Lib.hid (ht.new hk0 hN)
  have hn0 : N ≤ (w.alloc (.cells (evC x tx rd) 32)).heap.size := Nat.le_trans hN hk0.size
  clear hk0 ht hN hmay
  have hd1 := fun w => r6d_any w x.c hx.c0 (by have := hx.c1; omega)
  have hd2 := fun w => r6d_any w x.id hx.i0 (by have := hx.i1; omega)
  have hw0 : IntKind.i64.wrap x.c = x.c := by have := hx.c0; have := hx.c1; simp [IntKind.wrap, IntKind.bits, IntKind.signed]; omega
  have hw1 : IntKind.i64.wrap x.id = x.id := by have := hx.i0; have := hx.i1; simp [IntKind.wrap, IntKind.bits, IntKind.signed]; omega
  have s1 : (dec x.c).length ≤ 7 := dec_length_le 6 _ (by have := hx.c1; omega)
  have s2 : (dec x.id).length ≤ 7 := dec_length_le 6 _ (by have := hx.i1; omega)
  have z1 : (bs (dec x.c)).size ≤ 7 := by rw [bs_size]; exact s1
  have z2 : (bs (dec x.id)).size ≤ 7 := by rw [bs_size]; exact s2
  have hwho : (⟨#[32]⟩ : ByteArray) ++ bs (dec x.c) ++ (⟨#[32]⟩ : ByteArray) ++ bs (dec x.id) = bs (whoT x) := by
    have e : (⟨#[32]⟩ : ByteArray) = bs [32] := rfl
    rw [e, bs_app, bs_app, bs_app]
    unfold whoT
    congr 1
    simp
  have HD1 := Lib.hid hd1; have HD2 := Lib.hid hd2; have HWHO := Lib.hid hwho
  have zw : (bs (whoT x)).size ≤ 16 := by rw [bs_size]; unfold whoT; simp; omega
  clear hd1 hd2 hwho s1 s2
  go_enter Tryz.func9, Tryz.ntmps9
  go_wp2_with ((with_reducible apply wpList_load_ev); exact rfl; (first | assumption | (refine heap_alloc_lt ?_; assumption) | (refine heap_alloc_lt (heap_alloc_lt ?_); assumption) | exact heap_alloc_at (by simp)); exact rfl)
  generalize w.alloc (.cells (evC x tx rd) 32) = W0 at *
  generalize w.heap.size = b at *
  refine HM.out.mono ?_; rintro z w1 ⟨rfl, hk1⟩
  have hb1 := hk1.heap hb0 (by simp)
  have HK1 := Lib.hid (HK.out.trans hk1 (FSub.refl _ _))
  have HT1 := Lib.hid (HT.out.new hk1 hn0)
  have hn1 := Nat.le_trans hn0 hk1.size
  have hr := cfg_range hb1
  clear hk1 HK HM hb0 HT hn0
  have HKA := Lib.hid ((Keeps.refl [] w1).alloc (.cells #[.int .u8 0, .int .i64 0, .int .i64 0, .int .i64 0, .bool false, .bool false, .bool false] 30))
  go_wp2_with (first | (refine wpList_load_mid rfl 30 _ rfl b 12 rfl (cfgL x.g) _ hr Tryz.underlying30 rfl (by kernel_rfl) ?_) | ((with_reducible apply wpList_put_cfg); exact rfl; exact rfl; exact heap_alloc_at (by simp); exact ⟨rfl, rfl⟩; exact rfl))
  intro W2 hc2 hk2
  have hq2 : Keeps [] w1 W2 := HKA.out.trans hk2 (fun q hq => .inr (by simp at hq; omega))
  have hb2 := hq2.heap hb1 (by simp)
  have HK2 := Lib.hid (HK1.out.trans hq2 (FSub.refl _ _))
  have HT2 := Lib.hid (HT1.out.new hq2 hn1)
  have hn2 := Nat.le_trans hn1 hq2.size
  clear hq2 hk2 HKA HK1 hr hb1 HT1 hn1
  generalize w1.heap.size = cb at *
  have HB2 := Lib.hid hb2; have HC2 := Lib.hid hc2
  clear hb2 hc2
  generalize hA : bs (dec x.c) = A at *
  generalize hB : bs (dec x.id) = B at *
  generalize hW : bs (whoT x) = WH at *
  have HA := Lib.hid hA; have HB := Lib.hid hB; have HW := Lib.hid hW
  clear hA hB hW
  have p1 : 1 + A.size ≤ 9223372036854775807 := by omega
  have p2 : 1 + A.size ≤ 9223372036854775806 := by omega
  have p3 : 1 + A.size + 1 + B.size ≤ 9223372036854775807 := by omega
  go_wp2_with fail
  refine wp_region_noPanic ?_
  refine wp_region_held_drew (S := fun w' => w'.heap[b]? = some (.cells (evC x tx rd) 32 (0, 0)) ∧ w'.heap[cb]? = some (.cells (cfgL x.g).toArray 30 (0, 0))) (by kernel_rfl) ⟨HB2.out, HC2.out⟩ (fun hHeld => ?_)
  apply wpAnyH_take (i := 0) (v := .pointer (some ⟨b, 1, none⟩))
  · simp only [List.getElem?_toArray]; rfl
  · kernel_rfl
  · kernel_rfl
  · kernel_rfl
  · exact fun _ _ _ h => h
  · exact Or.inl ⟨by rfl, by intro w hSw; go_simp; try with_reducible rfl⟩
  · assumption
  try simp only [Act.put, List.setIfInBounds_toArray, List.set_cons_zero, List.set_cons_succ]
  apply wpAnyH_take (i := 1) (v := .int .u8 x.c)
  · simp only [List.getElem?_toArray]; rfl
  · kernel_rfl
  · kernel_rfl
  · kernel_rfl
  · exact fun _ _ _ h => h
  · exact Or.inl ⟨by rfl, by intro w hSw; have d0 := ev_cell hSw.1 1 (evC_1 x tx rd); go_simp; try with_reducible rfl⟩
  · assumption
  try simp only [Act.put, List.setIfInBounds_toArray, List.set_cons_zero, List.set_cons_succ]
  apply wpAnyH_take (i := 2) (v := .int .i64 x.c)
  · simp only [List.getElem?_toArray]; rfl
  · kernel_rfl
  · kernel_rfl
  · kernel_rfl
  · exact fun _ _ _ h => h
  · exact Or.inl ⟨by rfl, by intro w hSw; go_simp; try with_reducible rfl⟩
  · assumption
  try simp only [Act.put, List.setIfInBounds_toArray, List.set_cons_zero, List.set_cons_succ]
  apply wpAnyH_take (i := 6) (v := .pointer (some ⟨b, 2, none⟩))
  · simp only [List.getElem?_toArray]; rfl
  · kernel_rfl
  · kernel_rfl
  · kernel_rfl
  · exact fun _ _ _ h => h
  · exact Or.inl ⟨by rfl, by intro w hSw; go_simp; try with_reducible rfl⟩
  · assumption
  try simp only [Act.put, List.setIfInBounds_toArray, List.set_cons_zero, List.set_cons_succ]
  apply wpAnyH_take (i := 7) (v := .int .u16 x.id)
  · simp only [List.getElem?_toArray]; rfl
  · kernel_rfl
  · kernel_rfl
  · kernel_rfl
  · exact fun _ _ _ h => h
  · exact Or.inl ⟨by rfl, by intro w hSw; have d0 := ev_cell hSw.1 2 (evC_2 x tx rd); go_simp; try with_reducible rfl⟩
  · assumption
  try simp only [Act.put, List.setIfInBounds_toArray, List.set_cons_zero, List.set_cons_succ]
  apply wpAnyH_take (i := 8) (v := .int .i64 x.id)
  · simp only [List.getElem?_toArray]; rfl
  · kernel_rfl
  · kernel_rfl
  · kernel_rfl
  · exact fun _ _ _ h => h
  · exact Or.inl ⟨by rfl, by intro w hSw; go_simp; try with_reducible rfl⟩
  · assumption
  try simp only [Act.put, List.setIfInBounds_toArray, List.set_cons_zero, List.set_cons_succ]
  apply wpAnyH_ready (rs := [3])
  · kernel_rfl
  · simp
  apply AllReadyH.cons (hs := AllReadyH.nil)
  · simp only [List.getElem?_toArray]; rfl
  intro K hK
  rw [if_pos (by rfl)]
  go_simp
  refine (HD1.out _).mono ?_; rintro z w3 ⟨rfl, hk3⟩
  have hk3 : Keeps [] W2 w3 := hk3.undrew
  have hb3 := hk3.heap HB2.out (by simp); have hc3 := hk3.heap HC2.out (by simp)
  go_wp2_with fail
  refine hK.out _ _ ?_ (fun hHeld => ?_)
  · exact ⟨hb3, hc3⟩
  clear hK K
  try simp only [Act.put, List.setIfInBounds_toArray, List.set_cons_zero, List.set_cons_succ]
  apply wpAnyH_take (i := 4) (v := .string (⟨#[32]⟩ ++ A))
  · simp only [List.getElem?_toArray]; rfl
  · kernel_rfl
  · kernel_rfl
  · kernel_rfl
  · exact fun _ _ _ h => h
  · exact Or.inl ⟨by rfl, by intro w hSw; go_simp; try with_reducible rfl⟩
  · assumption
  try simp only [Act.put, List.setIfInBounds_toArray, List.set_cons_zero, List.set_cons_succ]
  apply wpAnyH_take (i := 5) (v := .string (⟨#[32]⟩ ++ A ++ ⟨#[32]⟩))
  · simp only [List.getElem?_toArray]; rfl
  · kernel_rfl
  · kernel_rfl
  · kernel_rfl
  · exact fun _ _ _ h => h
  · exact Or.inl ⟨by rfl, by intro w hSw; go_simp; try with_reducible rfl⟩
  · assumption
  try simp only [Act.put, List.setIfInBounds_toArray, List.set_cons_zero, List.set_cons_succ]
  apply wpAnyH_ready (rs := [9])
  · kernel_rfl
  · simp
  apply AllReadyH.cons (hs := AllReadyH.nil)
  · simp only [List.getElem?_toArray]; rfl
  intro K hK
  rw [if_pos (by rfl)]
  go_simp
  refine (HD2.out _).mono ?_; rintro z w4 ⟨rfl, hk4⟩
  have hk4 : Keeps [] W2 w4 := hk3.trans hk4 (FSub.refl _ _)
  have hb4 := hk4.heap HB2.out (by simp); have hc4 := hk4.heap HC2.out (by simp)
  go_wp2_with fail
  refine hK.out _ _ ?_ (fun hHeld => ?_)
  · exact ⟨hb4, hc4⟩
  clear hK K
  try simp only [Act.put, List.setIfInBounds_toArray, List.set_cons_zero, List.set_cons_succ]
  apply wpAnyH_take (i := 10) (v := .string (⟨#[32]⟩ ++ A ++ ⟨#[32]⟩ ++ B))
  · simp only [List.getElem?_toArray]; rfl
  · kernel_rfl
  · kernel_rfl
  · kernel_rfl
  · exact fun _ _ _ h => h
  · exact Or.inl ⟨by rfl, by intro w hSw; go_simp; try with_reducible rfl⟩
  · assumption
  try simp only [Act.put, List.setIfInBounds_toArray, List.set_cons_zero, List.set_cons_succ]
  apply wpAnyH_ready (rs := [11])
  · kernel_rfl
  · simp
  apply AllReadyH.cons (hs := AllReadyH.nil)
  · simp only [List.getElem?_toArray]; rfl
  intro K hK
  rw [if_pos (by rfl)]
  go_simp
  refine hK.out _ _ ?_ (fun hHeld => ?_)
  · exact ⟨hb4, hc4⟩
  clear hK K
  try simp only [Act.put, List.setIfInBounds_toArray, List.set_cons_zero, List.set_cons_succ]
  refine wpAnyH_done (by kernel_rfl) ?_ _
  refine NoPanic.normal ?_
  rw [HWHO.out]
  have HK4 := Lib.hid (HK2.out.trans hk4 (FSub.refl _ _))
  have HT4 := Lib.hid (HT2.out.new hk4 hn2)
  have hn4 := Nat.le_trans hn2 hk4.size
  have HB4 := Lib.hid hb4; have HC4 := Lib.hid hc4
  clear hk3 hb3 hc3 hk4 hb4 hc4 HK2 HT2 hn2 HB2 HC2 HD1 HD2 HWHO z1 z2 HA HB p1 p2 p3
  have d0 := ev_cell HB4.out 0 (evC_0 x tx rd)
  have d8 := ev_cell HB4.out 8 (evC_8 x tx rd)
  have d9 := ev_cell HB4.out 9 (evC_9 x tx rd)
  rw [hk] at d0
  go_wp2_with fail
  refine (HX3.out _).mono ?_; rintro z w5 ⟨⟨tv, rfl⟩, hk5⟩
  have HK5 := Lib.hid (HK4.out.trans hk5 (FSub.refl _ _))
  clear hk5 HK4 d0 d8 d9 HX3
  go_wp2_with fail
  go_ret2
  exact ⟨by rw [← HL.out]; rfl, HK5.out⟩
set_option maxHeartbeats 16000000 in
set_option maxRecDepth 100000 in
theorem r6Line_1 (w : World) (x : Ev) (hx : x.In) {N : Nat} (tx rd : Value) (ht : EvAt N w tx rd x) (hN : N ≤ w.heap.size) (hg : evGood x = true) (hk : x.k = 1)
    (hmay : ∀ W, EvAt N W tx rd x → N ≤ W.heap.size → Calls Tryz.prog 22 #[.agg (evC x tx rd)] W fun e w' => e = .returned (.bool (evGood x)) ∧ Keeps [] W w') :
    Calls Tryz.prog 9 #[.agg (evC x tx rd)] w fun e w' => e = .returned (.tuple #[.string (bs (evLine x)), .int .i64 0]) ∧ Keeps [] w w' := by
  obtain ⟨gk, gc, gf, gn⟩ := good_parts hg
  unfold evFits at gf
  simp only [hk, if_true] at gf
  obtain ⟨g1, g2, g3, g4⟩ := cfg_all gf
  have hm0 := hx.m0
  have hL : (⟨#[99, 111, 110, 102, 105, 103, 32]⟩ : ByteArray) ++ bs (mdNm x.g.m) ++ (⟨#[32]⟩ : ByteArray) ++ bs (dec x.g.mo) ++ (⟨#[32]⟩ : ByteArray) ++ bs (dec x.g.ms) ++ (⟨#[32]⟩ : ByteArray) ++ bs (dec x.g.mt) ++ bs (flagT x.g.p partL) ++ bs (flagT x.g.cu cutL) ++ bs (flagT x.g.me memoL) = bs (evLine x) := by
    have e : (⟨#[99, 111, 110, 102, 105, 103, 32]⟩ : ByteArray) = bs (configL ++ [32]) := rfl
    have e2 : (⟨#[32]⟩ : ByteArray) = bs [32] := rfl
    rw [e, e2]
    simp only [bs_app]
    rw [line_cfg hk]
    congr 1
    simp
  have HL := Lib.hid hL
  have hcm := fun w => r6Model_any w x.g.m hm0 (by omega)
  have hc1 := fun w => r6d_any w x.g.mo (by omega) (by omega)
  have hc2 := fun w => r6d_any w x.g.ms (by omega) (by omega)
  have hc3 := fun w => r6d_any w x.g.mt (by omega) (by omega)
  have hf1 := fun w => r6flag_any w x.g.p partL (by decide)
  have hf2 := fun w => r6flag_any w x.g.cu cutL (by decide)
  have hf3 := fun w => r6flag_any w x.g.me memoL (by decide)
  have sm : (bs (mdNm x.g.m)).size ≤ 8 := by
    rw [bs_size]
    rcases (by omega : x.g.m = 0 ∨ x.g.m = 1 ∨ x.g.m = 2 ∨ x.g.m = 3 ∨ x.g.m = 4) with e | e | e | e | e <;> rw [e] <;> decide
  have q1 : (bs (dec x.g.mo)).size ≤ 7 := by rw [bs_size]; exact dec_length_le 6 _ (by omega)
  have q2 : (bs (dec x.g.ms)).size ≤ 7 := by rw [bs_size]; exact dec_length_le 6 _ (by omega)
  have q3 : (bs (dec x.g.mt)).size ≤ 7 := by rw [bs_size]; exact dec_length_le 6 _ (by omega)
  have r1 : (bs (flagT x.g.p partL)).size ≤ 10 := by rw [bs_size]; cases x.g.p <;> decide
  have r2 : (bs (flagT x.g.cu cutL)).size ≤ 10 := by rw [bs_size]; cases x.g.cu <;> decide
  have r3 : (bs (flagT x.g.me memoL)).size ≤ 10 := by rw [bs_size]; cases x.g.me <;> decide
  change ∀ w, Calls Tryz.prog _ _ w fun e w' => e = .returned (.string (bs (flagT x.g.p partL))) ∧ w' = w at hf1
  change ∀ w, Calls Tryz.prog _ _ w fun e w' => e = .returned (.string (bs (flagT x.g.cu cutL))) ∧ w' = w at hf2
  change ∀ w, Calls Tryz.prog _ _ w fun e w' => e = .returned (.string (bs (flagT x.g.me memoL))) ∧ w' = w at hf3
  have CM := Lib.hid hcm; have C1 := Lib.hid hc1; have C2 := Lib.hid hc2; have C3 := Lib.hid hc3; have F1H := Lib.hid hf1; have F2H := Lib.hid hf2; have F3H := Lib.hid hf3
  clear hL hcm hc1 hc2 hc3 hf1 hf2 hf3 g1 g2 g3 g4 gf gk gc gn hm0
  generalize bs (evLine x) = SL at *
  generalize bs (mdNm x.g.m) = M at *
  generalize bs (dec x.g.mo) = D1 at *
  generalize bs (dec x.g.ms) = D2 at *
  generalize bs (dec x.g.mt) = D3 at *
  generalize bs (flagT x.g.p partL) = F1 at *
  generalize bs (flagT x.g.cu cutL) = F2 at *
  generalize bs (flagT x.g.me memoL) = F3 at *
  have hk0 := (Keeps.refl [] w).alloc (.cells (evC x tx rd) 32)
  have hb0 := heap_alloc_new w (.cells (evC x tx rd) 32)
  have HM := Lib.hid (hmay _ (ht.new hk0 hN) (Nat.le_trans hN hk0.size))
  rw [hg] at HM
  have HK := Lib.hid hk0
  have HT := Lib.hid (ht.new hk0 hN)
  have hn0 : N ≤ (w.alloc (.cells (evC x tx rd) 32)).heap.size := Nat.le_trans hN hk0.size
  clear hk0 ht hN hmay
  have hd1 := fun w => r6d_any w x.c hx.c0 (by have := hx.c1; omega)
  have hd2 := fun w => r6d_any w x.id hx.i0 (by have := hx.i1; omega)
  have hw0 : IntKind.i64.wrap x.c = x.c := by have := hx.c0; have := hx.c1; simp [IntKind.wrap, IntKind.bits, IntKind.signed]; omega
  have hw1 : IntKind.i64.wrap x.id = x.id := by have := hx.i0; have := hx.i1; simp [IntKind.wrap, IntKind.bits, IntKind.signed]; omega
  have s1 : (dec x.c).length ≤ 7 := dec_length_le 6 _ (by have := hx.c1; omega)
  have s2 : (dec x.id).length ≤ 7 := dec_length_le 6 _ (by have := hx.i1; omega)
  have z1 : (bs (dec x.c)).size ≤ 7 := by rw [bs_size]; exact s1
  have z2 : (bs (dec x.id)).size ≤ 7 := by rw [bs_size]; exact s2
  have hwho : (⟨#[32]⟩ : ByteArray) ++ bs (dec x.c) ++ (⟨#[32]⟩ : ByteArray) ++ bs (dec x.id) = bs (whoT x) := by
    have e : (⟨#[32]⟩ : ByteArray) = bs [32] := rfl
    rw [e, bs_app, bs_app, bs_app]
    unfold whoT
    congr 1
    simp
  have HD1 := Lib.hid hd1; have HD2 := Lib.hid hd2; have HWHO := Lib.hid hwho
  have zw : (bs (whoT x)).size ≤ 16 := by rw [bs_size]; unfold whoT; simp; omega
  clear hd1 hd2 hwho s1 s2
  go_enter Tryz.func9, Tryz.ntmps9
  go_wp2_with ((with_reducible apply wpList_load_ev); exact rfl; (first | assumption | (refine heap_alloc_lt ?_; assumption) | (refine heap_alloc_lt (heap_alloc_lt ?_); assumption) | exact heap_alloc_at (by simp)); exact rfl)
  generalize w.alloc (.cells (evC x tx rd) 32) = W0 at *
  generalize w.heap.size = b at *
  refine HM.out.mono ?_; rintro z w1 ⟨rfl, hk1⟩
  have hb1 := hk1.heap hb0 (by simp)
  have HK1 := Lib.hid (HK.out.trans hk1 (FSub.refl _ _))
  have HT1 := Lib.hid (HT.out.new hk1 hn0)
  have hn1 := Nat.le_trans hn0 hk1.size
  have hr := cfg_range hb1
  clear hk1 HK HM hb0 HT hn0
  have HKA := Lib.hid ((Keeps.refl [] w1).alloc (.cells #[.int .u8 0, .int .i64 0, .int .i64 0, .int .i64 0, .bool false, .bool false, .bool false] 30))
  go_wp2_with (first | (refine wpList_load_mid rfl 30 _ rfl b 12 rfl (cfgL x.g) _ hr Tryz.underlying30 rfl (by kernel_rfl) ?_) | ((with_reducible apply wpList_put_cfg); exact rfl; exact rfl; exact heap_alloc_at (by simp); exact ⟨rfl, rfl⟩; exact rfl))
  intro W2 hc2 hk2
  have hq2 : Keeps [] w1 W2 := HKA.out.trans hk2 (fun q hq => .inr (by simp at hq; omega))
  have hb2 := hq2.heap hb1 (by simp)
  have HK2 := Lib.hid (HK1.out.trans hq2 (FSub.refl _ _))
  have HT2 := Lib.hid (HT1.out.new hq2 hn1)
  have hn2 := Nat.le_trans hn1 hq2.size
  clear hq2 hk2 HKA HK1 hr hb1 HT1 hn1
  generalize w1.heap.size = cb at *
  have HB2 := Lib.hid hb2; have HC2 := Lib.hid hc2
  clear hb2 hc2
  generalize hA : bs (dec x.c) = A at *
  generalize hB : bs (dec x.id) = B at *
  generalize hW : bs (whoT x) = WH at *
  have HA := Lib.hid hA; have HB := Lib.hid hB; have HW := Lib.hid hW
  clear hA hB hW
  have p1 : 1 + A.size ≤ 9223372036854775807 := by omega
  have p2 : 1 + A.size ≤ 9223372036854775806 := by omega
  have p3 : 1 + A.size + 1 + B.size ≤ 9223372036854775807 := by omega
  go_wp2_with fail
  refine wp_region_noPanic ?_
  refine wp_region_held_drew (S := fun w' => w'.heap[b]? = some (.cells (evC x tx rd) 32 (0, 0)) ∧ w'.heap[cb]? = some (.cells (cfgL x.g).toArray 30 (0, 0))) (by kernel_rfl) ⟨HB2.out, HC2.out⟩ (fun hHeld => ?_)
  apply wpAnyH_take (i := 0) (v := .pointer (some ⟨b, 1, none⟩))
  · simp only [List.getElem?_toArray]; rfl
  · kernel_rfl
  · kernel_rfl
  · kernel_rfl
  · exact fun _ _ _ h => h
  · exact Or.inl ⟨by rfl, by intro w hSw; go_simp; try with_reducible rfl⟩
  · assumption
  try simp only [Act.put, List.setIfInBounds_toArray, List.set_cons_zero, List.set_cons_succ]
  apply wpAnyH_take (i := 1) (v := .int .u8 x.c)
  · simp only [List.getElem?_toArray]; rfl
  · kernel_rfl
  · kernel_rfl
  · kernel_rfl
  · exact fun _ _ _ h => h
  · exact Or.inl ⟨by rfl, by intro w hSw; have d0 := ev_cell hSw.1 1 (evC_1 x tx rd); go_simp; try with_reducible rfl⟩
  · assumption
  try simp only [Act.put, List.setIfInBounds_toArray, List.set_cons_zero, List.set_cons_succ]
  apply wpAnyH_take (i := 2) (v := .int .i64 x.c)
  · simp only [List.getElem?_toArray]; rfl
  · kernel_rfl
  · kernel_rfl
  · kernel_rfl
  · exact fun _ _ _ h => h
  · exact Or.inl ⟨by rfl, by intro w hSw; go_simp; try with_reducible rfl⟩
  · assumption
  try simp only [Act.put, List.setIfInBounds_toArray, List.set_cons_zero, List.set_cons_succ]
  apply wpAnyH_take (i := 6) (v := .pointer (some ⟨b, 2, none⟩))
  · simp only [List.getElem?_toArray]; rfl
  · kernel_rfl
  · kernel_rfl
  · kernel_rfl
  · exact fun _ _ _ h => h
  · exact Or.inl ⟨by rfl, by intro w hSw; go_simp; try with_reducible rfl⟩
  · assumption
  try simp only [Act.put, List.setIfInBounds_toArray, List.set_cons_zero, List.set_cons_succ]
  apply wpAnyH_take (i := 7) (v := .int .u16 x.id)
  · simp only [List.getElem?_toArray]; rfl
  · kernel_rfl
  · kernel_rfl
  · kernel_rfl
  · exact fun _ _ _ h => h
  · exact Or.inl ⟨by rfl, by intro w hSw; have d0 := ev_cell hSw.1 2 (evC_2 x tx rd); go_simp; try with_reducible rfl⟩
  · assumption
  try simp only [Act.put, List.setIfInBounds_toArray, List.set_cons_zero, List.set_cons_succ]
  apply wpAnyH_take (i := 8) (v := .int .i64 x.id)
  · simp only [List.getElem?_toArray]; rfl
  · kernel_rfl
  · kernel_rfl
  · kernel_rfl
  · exact fun _ _ _ h => h
  · exact Or.inl ⟨by rfl, by intro w hSw; go_simp; try with_reducible rfl⟩
  · assumption
  try simp only [Act.put, List.setIfInBounds_toArray, List.set_cons_zero, List.set_cons_succ]
  apply wpAnyH_ready (rs := [3])
  · kernel_rfl
  · simp
  apply AllReadyH.cons (hs := AllReadyH.nil)
  · simp only [List.getElem?_toArray]; rfl
  intro K hK
  rw [if_pos (by rfl)]
  go_simp
  refine (HD1.out _).mono ?_; rintro z w3 ⟨rfl, hk3⟩
  have hk3 : Keeps [] W2 w3 := hk3.undrew
  have hb3 := hk3.heap HB2.out (by simp); have hc3 := hk3.heap HC2.out (by simp)
  go_wp2_with fail
  refine hK.out _ _ ?_ (fun hHeld => ?_)
  · exact ⟨hb3, hc3⟩
  clear hK K
  try simp only [Act.put, List.setIfInBounds_toArray, List.set_cons_zero, List.set_cons_succ]
  apply wpAnyH_take (i := 4) (v := .string (⟨#[32]⟩ ++ A))
  · simp only [List.getElem?_toArray]; rfl
  · kernel_rfl
  · kernel_rfl
  · kernel_rfl
  · exact fun _ _ _ h => h
  · exact Or.inl ⟨by rfl, by intro w hSw; go_simp; try with_reducible rfl⟩
  · assumption
  try simp only [Act.put, List.setIfInBounds_toArray, List.set_cons_zero, List.set_cons_succ]
  apply wpAnyH_take (i := 5) (v := .string (⟨#[32]⟩ ++ A ++ ⟨#[32]⟩))
  · simp only [List.getElem?_toArray]; rfl
  · kernel_rfl
  · kernel_rfl
  · kernel_rfl
  · exact fun _ _ _ h => h
  · exact Or.inl ⟨by rfl, by intro w hSw; go_simp; try with_reducible rfl⟩
  · assumption
  try simp only [Act.put, List.setIfInBounds_toArray, List.set_cons_zero, List.set_cons_succ]
  apply wpAnyH_ready (rs := [9])
  · kernel_rfl
  · simp
  apply AllReadyH.cons (hs := AllReadyH.nil)
  · simp only [List.getElem?_toArray]; rfl
  intro K hK
  rw [if_pos (by rfl)]
  go_simp
  refine (HD2.out _).mono ?_; rintro z w4 ⟨rfl, hk4⟩
  have hk4 : Keeps [] W2 w4 := hk3.trans hk4 (FSub.refl _ _)
  have hb4 := hk4.heap HB2.out (by simp); have hc4 := hk4.heap HC2.out (by simp)
  go_wp2_with fail
  refine hK.out _ _ ?_ (fun hHeld => ?_)
  · exact ⟨hb4, hc4⟩
  clear hK K
  try simp only [Act.put, List.setIfInBounds_toArray, List.set_cons_zero, List.set_cons_succ]
  apply wpAnyH_take (i := 10) (v := .string (⟨#[32]⟩ ++ A ++ ⟨#[32]⟩ ++ B))
  · simp only [List.getElem?_toArray]; rfl
  · kernel_rfl
  · kernel_rfl
  · kernel_rfl
  · exact fun _ _ _ h => h
  · exact Or.inl ⟨by rfl, by intro w hSw; go_simp; try with_reducible rfl⟩
  · assumption
  try simp only [Act.put, List.setIfInBounds_toArray, List.set_cons_zero, List.set_cons_succ]
  apply wpAnyH_ready (rs := [11])
  · kernel_rfl
  · simp
  apply AllReadyH.cons (hs := AllReadyH.nil)
  · simp only [List.getElem?_toArray]; rfl
  intro K hK
  rw [if_pos (by rfl)]
  go_simp
  refine hK.out _ _ ?_ (fun hHeld => ?_)
  · exact ⟨hb4, hc4⟩
  clear hK K
  try simp only [Act.put, List.setIfInBounds_toArray, List.set_cons_zero, List.set_cons_succ]
  refine wpAnyH_done (by kernel_rfl) ?_ _
  refine NoPanic.normal ?_
  rw [HWHO.out]
  have HK4 := Lib.hid (HK2.out.trans hk4 (FSub.refl _ _))
  have HT4 := Lib.hid (HT2.out.new hk4 hn2)
  have hn4 := Nat.le_trans hn2 hk4.size
  have HB4 := Lib.hid hb4; have HC4 := Lib.hid hc4
  clear hk3 hb3 hc3 hk4 hb4 hc4 HK2 HT2 hn2 HB2 HC2 HD1 HD2 HWHO z1 z2 HA HB p1 p2 p3
  have d0 := ev_cell HB4.out 0 (evC_0 x tx rd)
  rw [hk] at d0
  have y0 : 7 + M.size ≤ 9223372036854775807 := by omega
  have y1 : 7 + M.size ≤ 9223372036854775806 := by omega
  have y2 : 7 + M.size + 1 + D1.size ≤ 9223372036854775807 := by omega
  have y3 : 7 + M.size + 1 + D1.size ≤ 9223372036854775806 := by omega
  have y4 : 7 + M.size + 1 + D1.size + 1 + D2.size ≤ 9223372036854775807 := by omega
  have y5 : 7 + M.size + 1 + D1.size + 1 + D2.size ≤ 9223372036854775806 := by omega
  have y6 : 7 + M.size + 1 + D1.size + 1 + D2.size + 1 + D3.size ≤ 9223372036854775807 := by omega
  have y7 : 7 + M.size + 1 + D1.size + 1 + D2.size + 1 + D3.size + F1.size ≤ 9223372036854775807 := by omega
  have y8 : 7 + M.size + 1 + D1.size + 1 + D2.size + 1 + D3.size + F1.size + F2.size ≤ 9223372036854775807 := by omega
  have y9 : 7 + M.size + 1 + D1.size + 1 + D2.size + 1 + D3.size + F1.size + F2.size + F3.size ≤ 9223372036854775807 := by omega
  go_wp2_with fail
  refine wp_region_noPanic ?_
  refine wp_region_held_drew (S := fun w' => w'.heap[b]? = some (.cells (evC x tx rd) 32 (0, 0)) ∧ w'.heap[cb]? = some (.cells (cfgL x.g).toArray 30 (0, 0))) (by kernel_rfl) ⟨HB4.out, HC4.out⟩ (fun hHeld => ?_)
  apply wpAnyH_take (i := 0) (v := .pointer (some ⟨cb, 0, none⟩))
  · simp only [List.getElem?_toArray]; rfl
  · kernel_rfl
  · kernel_rfl
  · kernel_rfl
  · exact fun _ _ _ h => h
  · exact Or.inl ⟨by rfl, by intro w hSw; go_simp; try with_reducible rfl⟩
  · assumption
  try simp only [Act.put, List.setIfInBounds_toArray, List.set_cons_zero, List.set_cons_succ]
  apply wpAnyH_take (i := 1) (v := .int .u8 x.g.m)
  · simp only [List.getElem?_toArray]; rfl
  · kernel_rfl
  · kernel_rfl
  · kernel_rfl
  · exact fun _ _ _ h => h
  · exact Or.inl ⟨by rfl, by intro w hSw; have d0 : w.cell? ⟨cb, 0, none⟩ = some (.int .u8 x.g.m) := (by have := hSw.2; simp [World.cell?, this, cfgL]); go_simp; try with_reducible rfl⟩
  · assumption
  try simp only [Act.put, List.setIfInBounds_toArray, List.set_cons_zero, List.set_cons_succ]
  apply wpAnyH_take (i := 5) (v := .pointer (some ⟨cb, 1, none⟩))
  · simp only [List.getElem?_toArray]; rfl
  · kernel_rfl
  · kernel_rfl
  · kernel_rfl
  · exact fun _ _ _ h => h
  · exact Or.inl ⟨by rfl, by intro w hSw; go_simp; try with_reducible rfl⟩
  · assumption
  try simp only [Act.put, List.setIfInBounds_toArray, List.set_cons_zero, List.set_cons_succ]
  apply wpAnyH_take (i := 6) (v := .int .i64 x.g.mo)
  · simp only [List.getElem?_toArray]; rfl
  · kernel_rfl
  · kernel_rfl
  · kernel_rfl
  · exact fun _ _ _ h => h
  · exact Or.inl ⟨by rfl, by intro w hSw; have d0 : w.cell? ⟨cb, 1, none⟩ = some (.int .i64 x.g.mo) := (by have := hSw.2; simp [World.cell?, this, cfgL]); go_simp; try with_reducible rfl⟩
  · assumption
  try simp only [Act.put, List.setIfInBounds_toArray, List.set_cons_zero, List.set_cons_succ]
  apply wpAnyH_take (i := 10) (v := .pointer (some ⟨cb, 2, none⟩))
  · simp only [List.getElem?_toArray]; rfl
  · kernel_rfl
  · kernel_rfl
  · kernel_rfl
  · exact fun _ _ _ h => h
  · exact Or.inl ⟨by rfl, by intro w hSw; go_simp; try with_reducible rfl⟩
  · assumption
  try simp only [Act.put, List.setIfInBounds_toArray, List.set_cons_zero, List.set_cons_succ]
  apply wpAnyH_take (i := 11) (v := .int .i64 x.g.ms)
  · simp only [List.getElem?_toArray]; rfl
  · kernel_rfl
  · kernel_rfl
  · kernel_rfl
  · exact fun _ _ _ h => h
  · exact Or.inl ⟨by rfl, by intro w hSw; have d0 : w.cell? ⟨cb, 2, none⟩ = some (.int .i64 x.g.ms) := (by have := hSw.2; simp [World.cell?, this, cfgL]); go_simp; try with_reducible rfl⟩
  · assumption
  try simp only [Act.put, List.setIfInBounds_toArray, List.set_cons_zero, List.set_cons_succ]
  apply wpAnyH_take (i := 15) (v := .pointer (some ⟨cb, 3, none⟩))
  · simp only [List.getElem?_toArray]; rfl
  · kernel_rfl
  · kernel_rfl
  · kernel_rfl
  · exact fun _ _ _ h => h
  · exact Or.inl ⟨by rfl, by intro w hSw; go_simp; try with_reducible rfl⟩
  · assumption
  try simp only [Act.put, List.setIfInBounds_toArray, List.set_cons_zero, List.set_cons_succ]
  apply wpAnyH_take (i := 16) (v := .int .i64 x.g.mt)
  · simp only [List.getElem?_toArray]; rfl
  · kernel_rfl
  · kernel_rfl
  · kernel_rfl
  · exact fun _ _ _ h => h
  · exact Or.inl ⟨by rfl, by intro w hSw; have d0 : w.cell? ⟨cb, 3, none⟩ = some (.int .i64 x.g.mt) := (by have := hSw.2; simp [World.cell?, this, cfgL]); go_simp; try with_reducible rfl⟩
  · assumption
  try simp only [Act.put, List.setIfInBounds_toArray, List.set_cons_zero, List.set_cons_succ]
  apply wpAnyH_take (i := 19) (v := .pointer (some ⟨cb, 4, none⟩))
  · simp only [List.getElem?_toArray]; rfl
  · kernel_rfl
  · kernel_rfl
  · kernel_rfl
  · exact fun _ _ _ h => h
  · exact Or.inl ⟨by rfl, by intro w hSw; go_simp; try with_reducible rfl⟩
  · assumption
  try simp only [Act.put, List.setIfInBounds_toArray, List.set_cons_zero, List.set_cons_succ]
  apply wpAnyH_take (i := 20) (v := .bool x.g.p)
  · simp only [List.getElem?_toArray]; rfl
  · kernel_rfl
  · kernel_rfl
  · kernel_rfl
  · exact fun _ _ _ h => h
  · exact Or.inl ⟨by rfl, by intro w hSw; have d0 : w.cell? ⟨cb, 4, none⟩ = some (.bool x.g.p) := (by have := hSw.2; simp [World.cell?, this, cfgL]); go_simp; try with_reducible rfl⟩
  · assumption
  try simp only [Act.put, List.setIfInBounds_toArray, List.set_cons_zero, List.set_cons_succ]
  apply wpAnyH_take (i := 23) (v := .pointer (some ⟨cb, 5, none⟩))
  · simp only [List.getElem?_toArray]; rfl
  · kernel_rfl
  · kernel_rfl
  · kernel_rfl
  · exact fun _ _ _ h => h
  · exact Or.inl ⟨by rfl, by intro w hSw; go_simp; try with_reducible rfl⟩
  · assumption
  try simp only [Act.put, List.setIfInBounds_toArray, List.set_cons_zero, List.set_cons_succ]
  apply wpAnyH_take (i := 24) (v := .bool x.g.cu)
  · simp only [List.getElem?_toArray]; rfl
  · kernel_rfl
  · kernel_rfl
  · kernel_rfl
  · exact fun _ _ _ h => h
  · exact Or.inl ⟨by rfl, by intro w hSw; have d0 : w.cell? ⟨cb, 5, none⟩ = some (.bool x.g.cu) := (by have := hSw.2; simp [World.cell?, this, cfgL]); go_simp; try with_reducible rfl⟩
  · assumption
  try simp only [Act.put, List.setIfInBounds_toArray, List.set_cons_zero, List.set_cons_succ]
  apply wpAnyH_take (i := 27) (v := .pointer (some ⟨cb, 6, none⟩))
  · simp only [List.getElem?_toArray]; rfl
  · kernel_rfl
  · kernel_rfl
  · kernel_rfl
  · exact fun _ _ _ h => h
  · exact Or.inl ⟨by rfl, by intro w hSw; go_simp; try with_reducible rfl⟩
  · assumption
  try simp only [Act.put, List.setIfInBounds_toArray, List.set_cons_zero, List.set_cons_succ]
  apply wpAnyH_take (i := 28) (v := .bool x.g.me)
  · simp only [List.getElem?_toArray]; rfl
  · kernel_rfl
  · kernel_rfl
  · kernel_rfl
  · exact fun _ _ _ h => h
  · exact Or.inl ⟨by rfl, by intro w hSw; have d0 : w.cell? ⟨cb, 6, none⟩ = some (.bool x.g.me) := (by have := hSw.2; simp [World.cell?, this, cfgL]); go_simp; try with_reducible rfl⟩
  · assumption
  try simp only [Act.put, List.setIfInBounds_toArray, List.set_cons_zero, List.set_cons_succ]
  apply wpAnyH_ready (rs := [2])
  · kernel_rfl
  · simp
  apply AllReadyH.cons (hs := AllReadyH.nil)
  · simp only [List.getElem?_toArray]; rfl
  intro K hK
  rw [if_pos (by rfl)]
  go_simp
  refine (CM.out _).mono ?_; rintro z u0 ⟨rfl, hk5⟩
  have hku0 : Keeps [] w4 u0 := hk5.undrew
  clear hk5
  have hbu0 := hku0.heap HB4.out (by simp); have hcu0 := hku0.heap HC4.out (by simp)
  go_wp2_with fail
  refine hK.out _ _ ?_ (fun hHeld => ?_)
  · exact ⟨hbu0, hcu0⟩
  clear hK K
  try simp only [Act.put, List.setIfInBounds_toArray, List.set_cons_zero, List.set_cons_succ]
  apply wpAnyH_take (i := 3) (v := .string (⟨#[99, 111, 110, 102, 105, 103, 32]⟩ ++ M))
  · simp only [List.getElem?_toArray]; rfl
  · kernel_rfl
  · kernel_rfl
  · kernel_rfl
  · exact fun _ _ _ h => h
  · exact Or.inl ⟨by rfl, by intro w hSw; go_simp; try with_reducible rfl⟩
  · assumption
  try simp only [Act.put, List.setIfInBounds_toArray, List.set_cons_zero, List.set_cons_succ]
  apply wpAnyH_take (i := 4) (v := .string (⟨#[99, 111, 110, 102, 105, 103, 32]⟩ ++ M ++ ⟨#[32]⟩))
  · simp only [List.getElem?_toArray]; rfl
  · kernel_rfl
  · kernel_rfl
  · kernel_rfl
  · exact fun _ _ _ h => h
  · exact Or.inl ⟨by rfl, by intro w hSw; go_simp; try with_reducible rfl⟩
  · assumption
  try simp only [Act.put, List.setIfInBounds_toArray, List.set_cons_zero, List.set_cons_succ]
  apply wpAnyH_ready (rs := [7])
  · kernel_rfl
  · simp
  apply AllReadyH.cons (hs := AllReadyH.nil)
  · simp only [List.getElem?_toArray]; rfl
  intro K hK
  rw [if_pos (by rfl)]
  go_simp
  refine (C1.out _).mono ?_; rintro z u1 ⟨rfl, hk5⟩
  have hku1 : Keeps [] w4 u1 := hku0.trans hk5 (FSub.refl _ _)
  clear hk5
  have hbu1 := hku1.heap HB4.out (by simp); have hcu1 := hku1.heap HC4.out (by simp)
  go_wp2_with fail
  refine hK.out _ _ ?_ (fun hHeld => ?_)
  · exact ⟨hbu1, hcu1⟩
  clear hK K
  try simp only [Act.put, List.setIfInBounds_toArray, List.set_cons_zero, List.set_cons_succ]
  apply wpAnyH_take (i := 8) (v := .string (⟨#[99, 111, 110, 102, 105, 103, 32]⟩ ++ M ++ ⟨#[32]⟩ ++ D1))
  · simp only [List.getElem?_toArray]; rfl
  · kernel_rfl
  · kernel_rfl
  · kernel_rfl
  · exact fun _ _ _ h => h
  · exact Or.inl ⟨by rfl, by intro w hSw; go_simp; try with_reducible rfl⟩
  · assumption
  try simp only [Act.put, List.setIfInBounds_toArray, List.set_cons_zero, List.set_cons_succ]
  apply wpAnyH_take (i := 9) (v := .string (⟨#[99, 111, 110, 102, 105, 103, 32]⟩ ++ M ++ ⟨#[32]⟩ ++ D1 ++ ⟨#[32]⟩))
  · simp only [List.getElem?_toArray]; rfl
  · kernel_rfl
  · kernel_rfl
  · kernel_rfl
  · exact fun _ _ _ h => h
  · exact Or.inl ⟨by rfl, by intro w hSw; go_simp; try with_reducible rfl⟩
  · assumption
  try simp only [Act.put, List.setIfInBounds_toArray, List.set_cons_zero, List.set_cons_succ]
  apply wpAnyH_ready (rs := [12])
  · kernel_rfl
  · simp
  apply AllReadyH.cons (hs := AllReadyH.nil)
  · simp only [List.getElem?_toArray]; rfl
  intro K hK
  rw [if_pos (by rfl)]
  go_simp
  refine (C2.out _).mono ?_; rintro z u2 ⟨rfl, hk5⟩
  have hku2 : Keeps [] w4 u2 := hku1.trans hk5 (FSub.refl _ _)
  clear hk5
  have hbu2 := hku2.heap HB4.out (by simp); have hcu2 := hku2.heap HC4.out (by simp)
  go_wp2_with fail
  refine hK.out _ _ ?_ (fun hHeld => ?_)
  · exact ⟨hbu2, hcu2⟩
  clear hK K
  try simp only [Act.put, List.setIfInBounds_toArray, List.set_cons_zero, List.set_cons_succ]
  apply wpAnyH_take (i := 13) (v := .string (⟨#[99, 111, 110, 102, 105, 103, 32]⟩ ++ M ++ ⟨#[32]⟩ ++ D1 ++ ⟨#[32]⟩ ++ D2))
  · simp only [List.getElem?_toArray]; rfl
  · kernel_rfl
  · kernel_rfl
  · kernel_rfl
  · exact fun _ _ _ h => h
  · exact Or.inl ⟨by rfl, by intro w hSw; go_simp; try with_reducible rfl⟩
  · assumption
  try simp only [Act.put, List.setIfInBounds_toArray, List.set_cons_zero, List.set_cons_succ]
  apply wpAnyH_take (i := 14) (v := .string (⟨#[99, 111, 110, 102, 105, 103, 32]⟩ ++ M ++ ⟨#[32]⟩ ++ D1 ++ ⟨#[32]⟩ ++ D2 ++ ⟨#[32]⟩))
  · simp only [List.getElem?_toArray]; rfl
  · kernel_rfl
  · kernel_rfl
  · kernel_rfl
  · exact fun _ _ _ h => h
  · exact Or.inl ⟨by rfl, by intro w hSw; go_simp; try with_reducible rfl⟩
  · assumption
  try simp only [Act.put, List.setIfInBounds_toArray, List.set_cons_zero, List.set_cons_succ]
  apply wpAnyH_ready (rs := [17])
  · kernel_rfl
  · simp
  apply AllReadyH.cons (hs := AllReadyH.nil)
  · simp only [List.getElem?_toArray]; rfl
  intro K hK
  rw [if_pos (by rfl)]
  go_simp
  refine (C3.out _).mono ?_; rintro z u3 ⟨rfl, hk5⟩
  have hku3 : Keeps [] w4 u3 := hku2.trans hk5 (FSub.refl _ _)
  clear hk5
  have hbu3 := hku3.heap HB4.out (by simp); have hcu3 := hku3.heap HC4.out (by simp)
  go_wp2_with fail
  refine hK.out _ _ ?_ (fun hHeld => ?_)
  · exact ⟨hbu3, hcu3⟩
  clear hK K
  try simp only [Act.put, List.setIfInBounds_toArray, List.set_cons_zero, List.set_cons_succ]
  apply wpAnyH_take (i := 18) (v := .string (⟨#[99, 111, 110, 102, 105, 103, 32]⟩ ++ M ++ ⟨#[32]⟩ ++ D1 ++ ⟨#[32]⟩ ++ D2 ++ ⟨#[32]⟩ ++ D3))
  · simp only [List.getElem?_toArray]; rfl
  · kernel_rfl
  · kernel_rfl
  · kernel_rfl
  · exact fun _ _ _ h => h
  · exact Or.inl ⟨by rfl, by intro w hSw; go_simp; try with_reducible rfl⟩
  · assumption
  try simp only [Act.put, List.setIfInBounds_toArray, List.set_cons_zero, List.set_cons_succ]
  apply wpAnyH_ready (rs := [21])
  · kernel_rfl
  · simp
  apply AllReadyH.cons (hs := AllReadyH.nil)
  · simp only [List.getElem?_toArray]; rfl
  intro K hK
  rw [if_pos (by rfl)]
  go_simp
  refine (F1H.out _).mono ?_; rintro z u3 ⟨rfl, rfl⟩
  go_wp2_with fail
  refine hK.out _ _ ?_ (fun hHeld => ?_)
  · exact ⟨hbu3, hcu3⟩
  clear hK K
  try simp only [Act.put, List.setIfInBounds_toArray, List.set_cons_zero, List.set_cons_succ]
  apply wpAnyH_take (i := 22) (v := .string (⟨#[99, 111, 110, 102, 105, 103, 32]⟩ ++ M ++ ⟨#[32]⟩ ++ D1 ++ ⟨#[32]⟩ ++ D2 ++ ⟨#[32]⟩ ++ D3 ++ F1))
  · simp only [List.getElem?_toArray]; rfl
  · kernel_rfl
  · kernel_rfl
  · kernel_rfl
  · exact fun _ _ _ h => h
  · exact Or.inl ⟨by rfl, by intro w hSw; go_simp; try with_reducible rfl⟩
  · assumption
  try simp only [Act.put, List.setIfInBounds_toArray, List.set_cons_zero, List.set_cons_succ]
  apply wpAnyH_ready (rs := [25])
  · kernel_rfl
  · simp
  apply AllReadyH.cons (hs := AllReadyH.nil)
  · simp only [List.getElem?_toArray]; rfl
  intro K hK
  rw [if_pos (by rfl)]
  go_simp
  refine (F2H.out _).mono ?_; rintro z u3 ⟨rfl, rfl⟩
  go_wp2_with fail
  refine hK.out _ _ ?_ (fun hHeld => ?_)
  · exact ⟨hbu3, hcu3⟩
  clear hK K
  try simp only [Act.put, List.setIfInBounds_toArray, List.set_cons_zero, List.set_cons_succ]
  apply wpAnyH_take (i := 26) (v := .string (⟨#[99, 111, 110, 102, 105, 103, 32]⟩ ++ M ++ ⟨#[32]⟩ ++ D1 ++ ⟨#[32]⟩ ++ D2 ++ ⟨#[32]⟩ ++ D3 ++ F1 ++ F2))
  · simp only [List.getElem?_toArray]; rfl
  · kernel_rfl
  · kernel_rfl
  · kernel_rfl
  · exact fun _ _ _ h => h
  · exact Or.inl ⟨by rfl, by intro w hSw; go_simp; try with_reducible rfl⟩
  · assumption
  try simp only [Act.put, List.setIfInBounds_toArray, List.set_cons_zero, List.set_cons_succ]
  apply wpAnyH_ready (rs := [29])
  · kernel_rfl
  · simp
  apply AllReadyH.cons (hs := AllReadyH.nil)
  · simp only [List.getElem?_toArray]; rfl
  intro K hK
  rw [if_pos (by rfl)]
  go_simp
  refine (F3H.out _).mono ?_; rintro z u3 ⟨rfl, rfl⟩
  go_wp2_with fail
  refine hK.out _ _ ?_ (fun hHeld => ?_)
  · exact ⟨hbu3, hcu3⟩
  clear hK K
  try simp only [Act.put, List.setIfInBounds_toArray, List.set_cons_zero, List.set_cons_succ]
  apply wpAnyH_take (i := 30) (v := .string (⟨#[99, 111, 110, 102, 105, 103, 32]⟩ ++ M ++ ⟨#[32]⟩ ++ D1 ++ ⟨#[32]⟩ ++ D2 ++ ⟨#[32]⟩ ++ D3 ++ F1 ++ F2 ++ F3))
  · simp only [List.getElem?_toArray]; rfl
  · kernel_rfl
  · kernel_rfl
  · kernel_rfl
  · exact fun _ _ _ h => h
  · exact Or.inl ⟨by rfl, by intro w hSw; go_simp; try with_reducible rfl⟩
  · assumption
  try simp only [Act.put, List.setIfInBounds_toArray, List.set_cons_zero, List.set_cons_succ]
  apply wpAnyH_ready (rs := [31])
  · kernel_rfl
  · simp
  apply AllReadyH.cons (hs := AllReadyH.nil)
  · simp only [List.getElem?_toArray]; rfl
  intro K hK
  rw [if_pos (by rfl)]
  go_simp
  refine hK.out _ _ ?_ (fun hHeld => ?_)
  · exact ⟨hbu3, hcu3⟩
  clear hK K
  try simp only [Act.put, List.setIfInBounds_toArray, List.set_cons_zero, List.set_cons_succ]
  apply wpAnyH_ready (rs := [32])
  · kernel_rfl
  · simp
  apply AllReadyH.cons (hs := AllReadyH.nil)
  · simp only [List.getElem?_toArray]; rfl
  intro K hK
  rw [if_pos (by rfl)]
  go_simp
  refine hK.out _ _ ?_ (fun hHeld => ?_)
  · exact ⟨hbu3, hcu3⟩
  clear hK K
  try simp only [Act.put, List.setIfInBounds_toArray, List.set_cons_zero, List.set_cons_succ]
  refine wpAnyH_done (by kernel_rfl) ?_ _
  refine NoPanic.normal ?_
  have HK5 := Lib.hid (HK4.out.trans hku3 (FSub.refl _ _))
  go_wp2_with fail
  go_ret2
  exact ⟨by rw [← HL.out]; rfl, HK5.out⟩
end Go.Proofs.YtffldnjjijckcaaGreatDoor
/-
  The document's Line: kind 5 (begin).
-/
namespace Go.Proofs.YtffldnjjijckcaaGreatDoor
open Go.RowKit
theorem micT_len {m : Mic} (h : m.In) : (micT m).length ≤ 30 := by
  have h1 : (dec m.key).length ≤ 7 := dec_length_le 6 _ (by have := h.k1; omega)
  have h2 : (dec m.v).length ≤ 7 := dec_length_le 6 _ (by have := h.v1; omega)
  unfold micT readL appendL
  split <;> simp <;> omega
theorem mct_snoc (l : List Mic) (k : Nat) (h : k < l.length) (d : Mic) : (l.take (k + 1)).flatMap micT = (l.take k).flatMap micT ++ micT (l.getD k d) := by
  rw [List.take_add_one, List.getElem?_eq_getElem h, List.getD_eq_getElem?_getD, List.getElem?_eq_getElem h, List.flatMap_append]
  simp
theorem mct_len (l : List Mic) (h : ∀ m ∈ l, m.In) : ∀ k, ((l.take k).flatMap micT).length ≤ k * 30
  | 0 => by simp
  | k + 1 => by
    have hi := mct_len l h k
    by_cases hk : k < l.length
    · rw [mct_snoc l k hk ⟨false, 0, 0⟩]
      have hm : l.getD k ⟨false, 0, 0⟩ ∈ l := by rw [List.getD_eq_getElem?_getD, List.getElem?_eq_getElem hk]; exact List.getElem_mem hk
      have := micT_len (h _ hm)
      rw [List.length_append]; omega
    · rw [List.take_of_length_le (by omega), ← List.take_of_length_le (show l.length ≤ k by omega)]
      omega
set_option maxHeartbeats 16000000 in
set_option maxRecDepth 100000 in
theorem r6Line_5 (w : World) (x : Ev) (hx : x.In) {N : Nat} (tx rd : Value) (ht : EvAt N w tx rd x) (hN : N ≤ w.heap.size) (hg : evGood x = true) (hk : x.k = 5)
    (hmay : ∀ W, EvAt N W tx rd x → N ≤ W.heap.size → Calls Tryz.prog 22 #[.agg (evC x tx rd)] W fun e w' => e = .returned (.bool (evGood x)) ∧ Keeps [] W w') :
    Calls Tryz.prog 9 #[.agg (evC x tx rd)] w fun e w' => e = .returned (.tuple #[.string (bs (evLine x)), .int .i64 0]) ∧ Keeps [] w w' := by
  obtain ⟨gk, gc, gf, gn⟩ := good_parts hg
  have hga : micsGood x.t = true := by
    unfold evFits at gf
    simpa [hk] using gf
  obtain ⟨-, hn8, -⟩ := mics_all hga
  have HLN := Lib.hid (line_mics hk)
  have HMI := Lib.hid hx.t
  clear gk gc gf gn hga
  obtain ⟨⟨ar, cr, rfl, hcr, hmr, hcells⟩, ht1⟩ := (⟨ht.t, ht.r⟩ : Mics N w tx x.t ∧ Lists N w rd x.r)
  have ht : EvAt N w (.slice ar x.t.length cr) rd x := ⟨⟨ar, cr, rfl, hcr, hmr, hcells⟩, ht1⟩
  have HCL := Lib.hid hcells
  have HNN := Lib.hid hN
  clear ht1 hcells
  have hk0 := (Keeps.refl [] w).alloc (.cells (evC x (.slice ar x.t.length cr) rd) 32)
  have hb0 := heap_alloc_new w (.cells (evC x (.slice ar x.t.length cr) rd) 32)
  have HM := Lib.hid (hmay _ (ht.new hk0 hN) (Nat.le_trans hN hk0.size))
  rw [hg] at HM
  have HK := Lib.hid hk0
  have HT := Lib.hid (ht.new hk0 hN)
  have hn0 : N ≤ (w.alloc (.cells (evC x (.slice ar x.t.length cr) rd) 32)).heap.size := Nat.le_trans hN hk0.size
  clear hk0 ht hN hmay
  have hd1 := fun w => r6d_any w x.c hx.c0 (by have := hx.c1; omega)
  have hd2 := fun w => r6d_any w x.id hx.i0 (by have := hx.i1; omega)
  have hw0 : IntKind.i64.wrap x.c = x.c := by have := hx.c0; have := hx.c1; simp [IntKind.wrap, IntKind.bits, IntKind.signed]; omega
  have hw1 : IntKind.i64.wrap x.id = x.id := by have := hx.i0; have := hx.i1; simp [IntKind.wrap, IntKind.bits, IntKind.signed]; omega
  have s1 : (dec x.c).length ≤ 7 := dec_length_le 6 _ (by have := hx.c1; omega)
  have s2 : (dec x.id).length ≤ 7 := dec_length_le 6 _ (by have := hx.i1; omega)
  have z1 : (bs (dec x.c)).size ≤ 7 := by rw [bs_size]; exact s1
  have z2 : (bs (dec x.id)).size ≤ 7 := by rw [bs_size]; exact s2
  have hwho : (⟨#[32]⟩ : ByteArray) ++ bs (dec x.c) ++ (⟨#[32]⟩ : ByteArray) ++ bs (dec x.id) = bs (whoT x) := by
    have e : (⟨#[32]⟩ : ByteArray) = bs [32] := rfl
    rw [e, bs_app, bs_app, bs_app]
    unfold whoT
    congr 1
    simp
  have HD1 := Lib.hid hd1; have HD2 := Lib.hid hd2; have HWHO := Lib.hid hwho
  have zw : (bs (whoT x)).size ≤ 16 := by rw [bs_size]; unfold whoT; simp; omega
  clear hd1 hd2 hwho s1 s2
  go_enter Tryz.func9, Tryz.ntmps9
  go_wp2_with ((with_reducible apply wpList_load_ev); exact rfl; (first | assumption | (refine heap_alloc_lt ?_; assumption) | (refine heap_alloc_lt (heap_alloc_lt ?_); assumption) | exact heap_alloc_at (by simp)); exact rfl)
  generalize w.alloc (.cells (evC x (.slice ar x.t.length cr) rd) 32) = W0 at *
  generalize w.heap.size = b at *
  refine HM.out.mono ?_; rintro z w1 ⟨rfl, hk1⟩
  have hb1 := hk1.heap hb0 (by simp)
  have HK1 := Lib.hid (HK.out.trans hk1 (FSub.refl _ _))
  have HT1 := Lib.hid (HT.out.new hk1 hn0)
  have hn1 := Nat.le_trans hn0 hk1.size
  have hr := cfg_range hb1
  clear hk1 HK HM hb0 HT hn0
  have HKA := Lib.hid ((Keeps.refl [] w1).alloc (.cells #[.int .u8 0, .int .i64 0, .int .i64 0, .int .i64 0, .bool false, .bool false, .bool false] 30))
  go_wp2_with (first | (refine wpList_load_mid rfl 30 _ rfl b 12 rfl (cfgL x.g) _ hr Tryz.underlying30 rfl (by kernel_rfl) ?_) | ((with_reducible apply wpList_put_cfg); exact rfl; exact rfl; exact heap_alloc_at (by simp); exact ⟨rfl, rfl⟩; exact rfl))
  intro W2 hc2 hk2
  have hq2 : Keeps [] w1 W2 := HKA.out.trans hk2 (fun q hq => .inr (by simp at hq; omega))
  have hb2 := hq2.heap hb1 (by simp)
  have HK2 := Lib.hid (HK1.out.trans hq2 (FSub.refl _ _))
  have HT2 := Lib.hid (HT1.out.new hq2 hn1)
  have hn2 := Nat.le_trans hn1 hq2.size
  clear hq2 hk2 HKA HK1 hr hb1 HT1 hn1
  generalize w1.heap.size = cb at *
  have HB2 := Lib.hid hb2; have HC2 := Lib.hid hc2
  clear hb2 hc2
  generalize hA : bs (dec x.c) = A at *
  generalize hB : bs (dec x.id) = B at *
  generalize hW : bs (whoT x) = WH at *
  have HA := Lib.hid hA; have HB := Lib.hid hB; have HW := Lib.hid hW
  clear hA hB hW
  have p1 : 1 + A.size ≤ 9223372036854775807 := by omega
  have p2 : 1 + A.size ≤ 9223372036854775806 := by omega
  have p3 : 1 + A.size + 1 + B.size ≤ 9223372036854775807 := by omega
  go_wp2_with fail
  refine wp_region_noPanic ?_
  refine wp_region_held_drew (S := fun w' => w'.heap[b]? = some (.cells (evC x (.slice ar x.t.length cr) rd) 32 (0, 0)) ∧ w'.heap[cb]? = some (.cells (cfgL x.g).toArray 30 (0, 0))) (by kernel_rfl) ⟨HB2.out, HC2.out⟩ (fun hHeld => ?_)
  apply wpAnyH_take (i := 0) (v := .pointer (some ⟨b, 1, none⟩))
  · simp only [List.getElem?_toArray]; rfl
  · kernel_rfl
  · kernel_rfl
  · kernel_rfl
  · exact fun _ _ _ h => h
  · exact Or.inl ⟨by rfl, by intro w hSw; go_simp; try with_reducible rfl⟩
  · assumption
  try simp only [Act.put, List.setIfInBounds_toArray, List.set_cons_zero, List.set_cons_succ]
  apply wpAnyH_take (i := 1) (v := .int .u8 x.c)
  · simp only [List.getElem?_toArray]; rfl
  · kernel_rfl
  · kernel_rfl
  · kernel_rfl
  · exact fun _ _ _ h => h
  · exact Or.inl ⟨by rfl, by intro w hSw; have d0 := ev_cell hSw.1 1 (evC_1 x (.slice ar x.t.length cr) rd); go_simp; try with_reducible rfl⟩
  · assumption
  try simp only [Act.put, List.setIfInBounds_toArray, List.set_cons_zero, List.set_cons_succ]
  apply wpAnyH_take (i := 2) (v := .int .i64 x.c)
  · simp only [List.getElem?_toArray]; rfl
  · kernel_rfl
  · kernel_rfl
  · kernel_rfl
  · exact fun _ _ _ h => h
  · exact Or.inl ⟨by rfl, by intro w hSw; go_simp; try with_reducible rfl⟩
  · assumption
  try simp only [Act.put, List.setIfInBounds_toArray, List.set_cons_zero, List.set_cons_succ]
  apply wpAnyH_take (i := 6) (v := .pointer (some ⟨b, 2, none⟩))
  · simp only [List.getElem?_toArray]; rfl
  · kernel_rfl
  · kernel_rfl
  · kernel_rfl
  · exact fun _ _ _ h => h
  · exact Or.inl ⟨by rfl, by intro w hSw; go_simp; try with_reducible rfl⟩
  · assumption
  try simp only [Act.put, List.setIfInBounds_toArray, List.set_cons_zero, List.set_cons_succ]
  apply wpAnyH_take (i := 7) (v := .int .u16 x.id)
  · simp only [List.getElem?_toArray]; rfl
  · kernel_rfl
  · kernel_rfl
  · kernel_rfl
  · exact fun _ _ _ h => h
  · exact Or.inl ⟨by rfl, by intro w hSw; have d0 := ev_cell hSw.1 2 (evC_2 x (.slice ar x.t.length cr) rd); go_simp; try with_reducible rfl⟩
  · assumption
  try simp only [Act.put, List.setIfInBounds_toArray, List.set_cons_zero, List.set_cons_succ]
  apply wpAnyH_take (i := 8) (v := .int .i64 x.id)
  · simp only [List.getElem?_toArray]; rfl
  · kernel_rfl
  · kernel_rfl
  · kernel_rfl
  · exact fun _ _ _ h => h
  · exact Or.inl ⟨by rfl, by intro w hSw; go_simp; try with_reducible rfl⟩
  · assumption
  try simp only [Act.put, List.setIfInBounds_toArray, List.set_cons_zero, List.set_cons_succ]
  apply wpAnyH_ready (rs := [3])
  · kernel_rfl
  · simp
  apply AllReadyH.cons (hs := AllReadyH.nil)
  · simp only [List.getElem?_toArray]; rfl
  intro K hK
  rw [if_pos (by rfl)]
  go_simp
  refine (HD1.out _).mono ?_; rintro z w3 ⟨rfl, hk3⟩
  have hk3 : Keeps [] W2 w3 := hk3.undrew
  have hb3 := hk3.heap HB2.out (by simp); have hc3 := hk3.heap HC2.out (by simp)
  go_wp2_with fail
  refine hK.out _ _ ?_ (fun hHeld => ?_)
  · exact ⟨hb3, hc3⟩
  clear hK K
  try simp only [Act.put, List.setIfInBounds_toArray, List.set_cons_zero, List.set_cons_succ]
  apply wpAnyH_take (i := 4) (v := .string (⟨#[32]⟩ ++ A))
  · simp only [List.getElem?_toArray]; rfl
  · kernel_rfl
  · kernel_rfl
  · kernel_rfl
  · exact fun _ _ _ h => h
  · exact Or.inl ⟨by rfl, by intro w hSw; go_simp; try with_reducible rfl⟩
  · assumption
  try simp only [Act.put, List.setIfInBounds_toArray, List.set_cons_zero, List.set_cons_succ]
  apply wpAnyH_take (i := 5) (v := .string (⟨#[32]⟩ ++ A ++ ⟨#[32]⟩))
  · simp only [List.getElem?_toArray]; rfl
  · kernel_rfl
  · kernel_rfl
  · kernel_rfl
  · exact fun _ _ _ h => h
  · exact Or.inl ⟨by rfl, by intro w hSw; go_simp; try with_reducible rfl⟩
  · assumption
  try simp only [Act.put, List.setIfInBounds_toArray, List.set_cons_zero, List.set_cons_succ]
  apply wpAnyH_ready (rs := [9])
  · kernel_rfl
  · simp
  apply AllReadyH.cons (hs := AllReadyH.nil)
  · simp only [List.getElem?_toArray]; rfl
  intro K hK
  rw [if_pos (by rfl)]
  go_simp
  refine (HD2.out _).mono ?_; rintro z w4 ⟨rfl, hk4⟩
  have hk4 : Keeps [] W2 w4 := hk3.trans hk4 (FSub.refl _ _)
  have hb4 := hk4.heap HB2.out (by simp); have hc4 := hk4.heap HC2.out (by simp)
  go_wp2_with fail
  refine hK.out _ _ ?_ (fun hHeld => ?_)
  · exact ⟨hb4, hc4⟩
  clear hK K
  try simp only [Act.put, List.setIfInBounds_toArray, List.set_cons_zero, List.set_cons_succ]
  apply wpAnyH_take (i := 10) (v := .string (⟨#[32]⟩ ++ A ++ ⟨#[32]⟩ ++ B))
  · simp only [List.getElem?_toArray]; rfl
  · kernel_rfl
  · kernel_rfl
  · kernel_rfl
  · exact fun _ _ _ h => h
  · exact Or.inl ⟨by rfl, by intro w hSw; go_simp; try with_reducible rfl⟩
  · assumption
  try simp only [Act.put, List.setIfInBounds_toArray, List.set_cons_zero, List.set_cons_succ]
  apply wpAnyH_ready (rs := [11])
  · kernel_rfl
  · simp
  apply AllReadyH.cons (hs := AllReadyH.nil)
  · simp only [List.getElem?_toArray]; rfl
  intro K hK
  rw [if_pos (by rfl)]
  go_simp
  refine hK.out _ _ ?_ (fun hHeld => ?_)
  · exact ⟨hb4, hc4⟩
  clear hK K
  try simp only [Act.put, List.setIfInBounds_toArray, List.set_cons_zero, List.set_cons_succ]
  refine wpAnyH_done (by kernel_rfl) ?_ _
  refine NoPanic.normal ?_
  rw [HWHO.out]
  have HK4 := Lib.hid (HK2.out.trans hk4 (FSub.refl _ _))
  have HT4 := Lib.hid (HT2.out.new hk4 hn2)
  have hn4 := Nat.le_trans hn2 hk4.size
  have HB4 := Lib.hid hb4; have HC4 := Lib.hid hc4
  clear hk3 hb3 hc3 hk4 hb4 hc4 HK2 HT2 hn2 HB2 HC2 HD1 HD2 HWHO z1 z2 HA HB p1 p2 p3
  have d0 := ev_cell HB4.out 0 (evC_0 x (.slice ar x.t.length cr) rd)
  rw [hk] at d0
  have hS0 : (⟨#[98, 101, 103, 105, 110]⟩ : ByteArray) ++ WH = bs (beginL ++ whoT x ++ (x.t.take 0).flatMap micT) := by
    have e : (⟨#[98, 101, 103, 105, 110]⟩ : ByteArray) = bs beginL := rfl
    rw [e, ← HW.out, bs_app]
    simp
  have HS0 := Lib.hid hS0
  have HSL : Hid ((beginL ++ whoT x).length ≤ 30) := Lib.hid (by have := congrArg ByteArray.size HW.out; rw [bs_size] at this; have e : beginL.length = 5 := rfl; rw [List.length_append]; omega)
  have C10 := Lib.hid (ev_cell HB4.out 10 (evC_10 x (.slice ar x.t.length cr) rd))
  clear hS0 HW HB4 HC4 HT4 hn4
  go_wp2_with fail
  generalize hn : x.t.length = n at *
  have HN := Lib.hid hn
  clear hn d0
  go_loopw [11, 12] (fun s i wr => ∃ k : Nat, i = .int .i64 k ∧ k ≤ n ∧ s = .string (bs (beginL ++ whoT x ++ (x.t.take k).flatMap micT)) ∧ Keeps [] w4 wr) (fun _ i _ => n - (intOf i).toNat)
  case atStart => exact ⟨0, rfl, by omega, by rw [← HS0.out], Keeps.refl _ _⟩
  case round =>
    obtain ⟨k, rfl, hkn, rfl, hkp⟩ := hrel
    have HKP := Lib.hid hkp
    have c10 := hkp.cell C10.out (by simp)
    clear hkp
    by_cases hlt : k < n
    · have hlw : k < x.t.length := by have := HN.out; omega
      obtain ⟨bk, o, rfl, hbk, hcell⟩ := HCL.out (fun e => by rw [e] at hlw; simp at hlw)
      obtain ⟨d1, d2, d3⟩ := hcell k _ (getD_get ⟨false, 0, 0⟩ hlw)
      have hkw := HK4.out.trans HKP.out (FSub.refl _ _)
      replace d1 := hkw.cell d1 (by simp)
      replace d2 := hkw.cell d2 (by simp)
      replace d3 := hkw.cell d3 (by simp)
      have hmi := HMI.out _ (getD_in ⟨false, 0, 0⟩ hlw)
      have b1 := hmi.k0; have b2 := hmi.k1; have b3 := hmi.v0; have b4 := hmi.v1
      have hl2 := mct_len x.t HMI.out k
      have hl3 := HSL.out
      have z2 : (bs (beginL ++ whoT x ++ (x.t.take k).flatMap micT)).size ≤ 1000 := by rw [bs_size, List.length_append]; omega
      have hnx := mct_snoc x.t k hlw ⟨false, 0, 0⟩
      have HNX := Lib.hid hnx
      have hk0 : (0 : Int) ≤ k := by omega
      have hkn' : (k : Int) < n := by omega
      clear hmi hl2 hl3 hnx hcell HCL hlw hkw
      generalize x.t.getD k ⟨false, 0, 0⟩ = M at *
      obtain ⟨m1, m2, m3⟩ := M
      simp only [] at d1 d2 d3 b1 b2 b3 b4
      have i2 := fun w => r6d_any w m2 b1 (by omega)
      have i3 := fun w => r6d_any w m3 b3 (by omega)
      have wr2 : IntKind.i64.wrap m2 = m2 := by simp [IntKind.wrap, IntKind.bits, IntKind.signed]; omega
      have wr3 : IntKind.i64.wrap m3 = m3 := by simp [IntKind.wrap, IntKind.bits, IntKind.signed]; omega
      have s2 : (bs (dec m2)).size ≤ 7 := by rw [bs_size]; exact dec_length_le 6 _ (by omega)
      have s3 : (bs (dec m3)).size ≤ 7 := by rw [bs_size]; exact dec_length_le 6 _ (by omega)
      cases m1 with
      | true =>
        have e1 : bs (beginL ++ whoT x ++ (x.t.take k).flatMap micT) ++ (⟨#[32, 114, 101, 97, 100, 32]⟩ : ByteArray) ++ bs (dec m2) = bs (beginL ++ whoT x ++ (x.t.take (k + 1)).flatMap micT) := by
          have e : (⟨#[32, 114, 101, 97, 100, 32]⟩ : ByteArray) = bs (32 :: readL ++ [32]) := rfl
          rw [HNX.out, e, bs_app, bs_app]
          congr 1
          simp [micT]
        have E1 := Lib.hid e1
        have D2 := Lib.hid i2
        clear e1 i2 i3
        generalize bs (dec m2) = K2 at *
        generalize bs (beginL ++ whoT x ++ (x.t.take k).flatMap micT) = S at *
        go_wp2_with fail
        refine (D2.out _).mono ?_; rintro e w6 ⟨rfl, hk6⟩
        have HKQ := Lib.hid (HKP.out.trans hk6 (FSub.refl _ _))
        clear hk6 HKP d1 d2 d3 c10 D2
        go_wp2_with fail
        go_roundw
        case rel => exact ⟨k + 1, by go_num, by omega, by rw [← E1.out], HKQ.out⟩
        case measure => simp [intOf]; omega
      | false =>
        have e1 : bs (beginL ++ whoT x ++ (x.t.take k).flatMap micT) ++ (⟨#[32, 97, 112, 112, 101, 110, 100, 32]⟩ : ByteArray) ++ bs (dec m2) ++ (⟨#[32]⟩ : ByteArray) ++ bs (dec m3) = bs (beginL ++ whoT x ++ (x.t.take (k + 1)).flatMap micT) := by
          have e : (⟨#[32, 97, 112, 112, 101, 110, 100, 32]⟩ : ByteArray) = bs (32 :: appendL ++ [32]) := rfl
          have e' : (⟨#[32]⟩ : ByteArray) = bs [32] := rfl
          rw [HNX.out, e, e', bs_app, bs_app, bs_app, bs_app]
          congr 1
          simp [micT]
        have E1 := Lib.hid e1
        have D2 := Lib.hid i2
        have D3 := Lib.hid i3
        clear e1 i2 i3
        generalize bs (dec m2) = K2 at *
        generalize bs (dec m3) = K3 at *
        generalize bs (beginL ++ whoT x ++ (x.t.take k).flatMap micT) = S at *
        have y1 : S.size + 8 ≤ 9223372036854775807 := by omega
        have y2 : S.size + 8 + K2.size ≤ 9223372036854775807 := by omega
        have y3 : S.size + 8 + K2.size ≤ 9223372036854775806 := by omega
        have y4 : S.size + 8 + K2.size + 1 + K3.size ≤ 9223372036854775807 := by omega
        go_wp2_with fail
        refine wp_region_noPanic ?_
        refine wp_region_held_drew (S := fun w' => w'.cell? ⟨b, 10, none⟩ = some (.slice (some ⟨bk, o, none⟩) n cr) ∧ w'.cell? ⟨bk, o + k * 3 + 1, none⟩ = some (.int .u8 m2) ∧ w'.cell? ⟨bk, o + k * 3 + 2, none⟩ = some (.int .u16 m3)) (by kernel_rfl) ⟨c10, d2, d3⟩ (fun hHeld => ?_)
        apply wpAnyH_take (i := 0) (v := .string S)
        · simp only [List.getElem?_toArray]; rfl
        · kernel_rfl
        · kernel_rfl
        · kernel_rfl
        · exact fun _ _ _ h => h
        · exact Or.inl ⟨by rfl, by intro w hSw; go_simp; try with_reducible rfl⟩
        · assumption
        try simp only [Act.put, List.setIfInBounds_toArray, List.set_cons_zero, List.set_cons_succ]
        apply wpAnyH_take (i := 1) (v := .string (S ++ ⟨#[32, 97, 112, 112, 101, 110, 100, 32]⟩))
        · simp only [List.getElem?_toArray]; rfl
        · kernel_rfl
        · kernel_rfl
        · kernel_rfl
        · exact fun _ _ _ h => h
        · exact Or.inl ⟨by rfl, by intro w hSw; go_simp; try with_reducible rfl⟩
        · assumption
        try simp only [Act.put, List.setIfInBounds_toArray, List.set_cons_zero, List.set_cons_succ]
        apply wpAnyH_take (i := 2) (v := .pointer (some ⟨b, 10, none⟩))
        · simp only [List.getElem?_toArray]; rfl
        · kernel_rfl
        · kernel_rfl
        · kernel_rfl
        · exact fun _ _ _ h => h
        · exact Or.inl ⟨by rfl, by intro w hSw; go_simp; try with_reducible rfl⟩
        · assumption
        try simp only [Act.put, List.setIfInBounds_toArray, List.set_cons_zero, List.set_cons_succ]
        apply wpAnyH_take (i := 3) (v := .slice (some ⟨bk, o, none⟩) n cr)
        · simp only [List.getElem?_toArray]; rfl
        · kernel_rfl
        · kernel_rfl
        · kernel_rfl
        · exact fun _ _ _ h => h
        · exact Or.inl ⟨by rfl, by intro w hSw; have c10 := hSw.1; go_simp; try with_reducible rfl⟩
        · assumption
        try simp only [Act.put, List.setIfInBounds_toArray, List.set_cons_zero, List.set_cons_succ]
        apply wpAnyH_take (i := 4) (v := .int .i64 k)
        · simp only [List.getElem?_toArray]; rfl
        · kernel_rfl
        · kernel_rfl
        · kernel_rfl
        · exact fun _ _ _ h => h
        · exact Or.inl ⟨by rfl, by intro w hSw; go_simp; try with_reducible rfl⟩
        · assumption
        try simp only [Act.put, List.setIfInBounds_toArray, List.set_cons_zero, List.set_cons_succ]
        apply wpAnyH_take (i := 5) (v := .pointer (some ⟨bk, o + k * 3, none⟩))
        · simp only [List.getElem?_toArray]; rfl
        · kernel_rfl
        · kernel_rfl
        · kernel_rfl
        · exact fun _ _ _ h => h
        · exact Or.inl ⟨by rfl, by intro w hSw; go_simp; try with_reducible rfl⟩
        · assumption
        try simp only [Act.put, List.setIfInBounds_toArray, List.set_cons_zero, List.set_cons_succ]
        apply wpAnyH_take (i := 6) (v := .pointer (some ⟨bk, o + k * 3 + 1, none⟩))
        · simp only [List.getElem?_toArray]; rfl
        · kernel_rfl
        · kernel_rfl
        · kernel_rfl
        · exact fun _ _ _ h => h
        · exact Or.inl ⟨by rfl, by intro w hSw; go_simp; try with_reducible rfl⟩
        · assumption
        try simp only [Act.put, List.setIfInBounds_toArray, List.set_cons_zero, List.set_cons_succ]
        apply wpAnyH_take (i := 7) (v := .int .u8 m2)
        · simp only [List.getElem?_toArray]; rfl
        · kernel_rfl
        · kernel_rfl
        · kernel_rfl
        · exact fun _ _ _ h => h
        · exact Or.inl ⟨by rfl, by intro w hSw; have c1 := hSw.2.1; go_simp; try with_reducible rfl⟩
        · assumption
        try simp only [Act.put, List.setIfInBounds_toArray, List.set_cons_zero, List.set_cons_succ]
        apply wpAnyH_take (i := 8) (v := .int .i64 m2)
        · simp only [List.getElem?_toArray]; rfl
        · kernel_rfl
        · kernel_rfl
        · kernel_rfl
        · exact fun _ _ _ h => h
        · exact Or.inl ⟨by rfl, by intro w hSw; go_simp; try with_reducible rfl⟩
        · assumption
        try simp only [Act.put, List.setIfInBounds_toArray, List.set_cons_zero, List.set_cons_succ]
        apply wpAnyH_take (i := 12) (v := .pointer (some ⟨b, 10, none⟩))
        · simp only [List.getElem?_toArray]; rfl
        · kernel_rfl
        · kernel_rfl
        · kernel_rfl
        · exact fun _ _ _ h => h
        · exact Or.inl ⟨by rfl, by intro w hSw; go_simp; try with_reducible rfl⟩
        · assumption
        try simp only [Act.put, List.setIfInBounds_toArray, List.set_cons_zero, List.set_cons_succ]
        apply wpAnyH_take (i := 13) (v := .slice (some ⟨bk, o, none⟩) n cr)
        · simp only [List.getElem?_toArray]; rfl
        · kernel_rfl
        · kernel_rfl
        · kernel_rfl
        · exact fun _ _ _ h => h
        · exact Or.inl ⟨by rfl, by intro w hSw; have c10 := hSw.1; go_simp; try with_reducible rfl⟩
        · assumption
        try simp only [Act.put, List.setIfInBounds_toArray, List.set_cons_zero, List.set_cons_succ]
        apply wpAnyH_take (i := 14) (v := .int .i64 k)
        · simp only [List.getElem?_toArray]; rfl
        · kernel_rfl
        · kernel_rfl
        · kernel_rfl
        · exact fun _ _ _ h => h
        · exact Or.inl ⟨by rfl, by intro w hSw; go_simp; try with_reducible rfl⟩
        · assumption
        try simp only [Act.put, List.setIfInBounds_toArray, List.set_cons_zero, List.set_cons_succ]
        apply wpAnyH_take (i := 15) (v := .pointer (some ⟨bk, o + k * 3, none⟩))
        · simp only [List.getElem?_toArray]; rfl
        · kernel_rfl
        · kernel_rfl
        · kernel_rfl
        · exact fun _ _ _ h => h
        · exact Or.inl ⟨by rfl, by intro w hSw; go_simp; try with_reducible rfl⟩
        · assumption
        try simp only [Act.put, List.setIfInBounds_toArray, List.set_cons_zero, List.set_cons_succ]
        apply wpAnyH_take (i := 16) (v := .pointer (some ⟨bk, o + k * 3 + 2, none⟩))
        · simp only [List.getElem?_toArray]; rfl
        · kernel_rfl
        · kernel_rfl
        · kernel_rfl
        · exact fun _ _ _ h => h
        · exact Or.inl ⟨by rfl, by intro w hSw; go_simp; try with_reducible rfl⟩
        · assumption
        try simp only [Act.put, List.setIfInBounds_toArray, List.set_cons_zero, List.set_cons_succ]
        apply wpAnyH_take (i := 17) (v := .int .u16 m3)
        · simp only [List.getElem?_toArray]; rfl
        · kernel_rfl
        · kernel_rfl
        · kernel_rfl
        · exact fun _ _ _ h => h
        · exact Or.inl ⟨by rfl, by intro w hSw; have c2 := hSw.2.2; go_simp; try with_reducible rfl⟩
        · assumption
        try simp only [Act.put, List.setIfInBounds_toArray, List.set_cons_zero, List.set_cons_succ]
        apply wpAnyH_take (i := 18) (v := .int .i64 m3)
        · simp only [List.getElem?_toArray]; rfl
        · kernel_rfl
        · kernel_rfl
        · kernel_rfl
        · exact fun _ _ _ h => h
        · exact Or.inl ⟨by rfl, by intro w hSw; go_simp; try with_reducible rfl⟩
        · assumption
        try simp only [Act.put, List.setIfInBounds_toArray, List.set_cons_zero, List.set_cons_succ]
        apply wpAnyH_ready (rs := [9])
        · kernel_rfl
        · simp
        apply AllReadyH.cons (hs := AllReadyH.nil)
        · simp only [List.getElem?_toArray]; rfl
        intro K hK
        rw [if_pos (by rfl)]
        go_simp
        refine (D2.out _).mono ?_; rintro z u1 ⟨rfl, hu1⟩
        have hu1 : Keeps [] wr u1 := hu1.undrew
        have q1 := hu1.cell c10 (by simp); have q2 := hu1.cell d2 (by simp); have q3 := hu1.cell d3 (by simp)
        go_wp2_with fail
        refine hK.out _ _ ?_ (fun hHeld => ?_)
        · exact ⟨q1, q2, q3⟩
        clear hK K
        try simp only [Act.put, List.setIfInBounds_toArray, List.set_cons_zero, List.set_cons_succ]
        apply wpAnyH_take (i := 10) (v := .string (S ++ ⟨#[32, 97, 112, 112, 101, 110, 100, 32]⟩ ++ K2))
        · simp only [List.getElem?_toArray]; rfl
        · kernel_rfl
        · kernel_rfl
        · kernel_rfl
        · exact fun _ _ _ h => h
        · exact Or.inl ⟨by rfl, by intro w hSw; go_simp; try with_reducible rfl⟩
        · assumption
        try simp only [Act.put, List.setIfInBounds_toArray, List.set_cons_zero, List.set_cons_succ]
        apply wpAnyH_take (i := 11) (v := .string (S ++ ⟨#[32, 97, 112, 112, 101, 110, 100, 32]⟩ ++ K2 ++ ⟨#[32]⟩))
        · simp only [List.getElem?_toArray]; rfl
        · kernel_rfl
        · kernel_rfl
        · kernel_rfl
        · exact fun _ _ _ h => h
        · exact Or.inl ⟨by rfl, by intro w hSw; go_simp; try with_reducible rfl⟩
        · assumption
        try simp only [Act.put, List.setIfInBounds_toArray, List.set_cons_zero, List.set_cons_succ]
        apply wpAnyH_ready (rs := [19])
        · kernel_rfl
        · simp
        apply AllReadyH.cons (hs := AllReadyH.nil)
        · simp only [List.getElem?_toArray]; rfl
        intro K hK
        rw [if_pos (by rfl)]
        go_simp
        refine (D3.out _).mono ?_; rintro z u2 ⟨rfl, hu2⟩
        have hu2 : Keeps [] wr u2 := hu1.trans hu2 (FSub.refl _ _)
        have q4 := hu2.cell c10 (by simp); have q5 := hu2.cell d2 (by simp); have q6 := hu2.cell d3 (by simp)
        go_wp2_with fail
        refine hK.out _ _ ?_ (fun hHeld => ?_)
        · exact ⟨q4, q5, q6⟩
        clear hK K
        try simp only [Act.put, List.setIfInBounds_toArray, List.set_cons_zero, List.set_cons_succ]
        apply wpAnyH_take (i := 20) (v := .string (S ++ ⟨#[32, 97, 112, 112, 101, 110, 100, 32]⟩ ++ K2 ++ ⟨#[32]⟩ ++ K3))
        · simp only [List.getElem?_toArray]; rfl
        · kernel_rfl
        · kernel_rfl
        · kernel_rfl
        · exact fun _ _ _ h => h
        · exact Or.inl ⟨by rfl, by intro w hSw; go_simp; try with_reducible rfl⟩
        · assumption
        try simp only [Act.put, List.setIfInBounds_toArray, List.set_cons_zero, List.set_cons_succ]
        apply wpAnyH_ready (rs := [21])
        · kernel_rfl
        · simp
        apply AllReadyH.cons (hs := AllReadyH.nil)
        · simp only [List.getElem?_toArray]; rfl
        intro K hK
        rw [if_pos (by rfl)]
        go_simp
        refine hK.out _ _ ?_ (fun hHeld => ?_)
        · exact ⟨q4, q5, q6⟩
        clear hK K
        try simp only [Act.put, List.setIfInBounds_toArray, List.set_cons_zero, List.set_cons_succ]
        refine wpAnyH_done (by kernel_rfl) ?_ _
        refine NoPanic.normal ?_
        have HKQ := Lib.hid (HKP.out.trans hu2 (FSub.refl _ _))
        clear hu1 hu2 q1 q2 q3 q4 q5 q6 d1 d2 d3 c10 D2 D3
        go_wp2_with fail
        go_roundw
        case rel => exact ⟨k + 1, by go_num, by omega, by rw [← E1.out], HKQ.out⟩
        case measure => simp [intOf]; omega
    · have e : k = x.t.length := by have := HN.out; omega
      rw [e, List.take_length]
      go_wp2_with fail
      go_ret2
      exact ⟨by rw [HLN.out]; rfl, HK4.out.trans HKP.out (FSub.refl _ _)⟩
end Go.Proofs.YtffldnjjijckcaaGreatDoor
