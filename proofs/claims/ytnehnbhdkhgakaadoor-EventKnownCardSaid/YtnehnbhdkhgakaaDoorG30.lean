/-
  What is written of an event: who; a config; an operation; an answer.
-/
import Derived.IntWalk
import Derived.Test.YtnehnbhdkhgakaaDoorG17
set_option linter.unusedSimpArgs false
set_option linter.unusedVariables false
namespace Go.Proofs.YtnehnbhdkhgakaaDoor
open Go.RowKit
/-- What a writing leaves. -/
def WPost (b : Nat) (F : List Nat) (ys : List Int) (w : World) (e : Ending) (w' : World) : Prop := e = .returned (.tuple #[]) ∧ ∃ F', WAt w' b F' (some ys) ∧ Keeps F w w' ∧ FSub F' F w.heap.size
theorem WAt.fresh {w w' : World} {b : Nat} {F : List Nat} {st : Option (List Int)} (h : WAt w b F st) (hk : Keeps [] w w') : WAt w' b F st := h.keeps hk (by simp)
theorem WAt.out {w w' : World} {b : Nat} {F : List Nat} {st : Option (List Int)} (h : WAt w b F st) (hk : Keeps [] w w') : ∀ g ∈ F, g < w'.heap.size := fun g hg => Nat.lt_of_lt_of_le (h.lt g hg) hk.size
theorem be2_length (m : Int) : (be2 m).length = 2 := rfl
set_option maxHeartbeats 4000000 in
set_option maxRecDepth 100000 in
theorem writeWho_any (w : World) (b : Nat) (F : List Nat) (xs : List Int) (h : WAt w b F (some xs)) (hxs : xs.length ≤ 1000) (x : Ev) (hx : x.In) (tx rd : Value) :
    Calls Tryd.prog 43 #[.pointer (some ⟨b, 0, none⟩), .agg (evC x tx rd)] w (WPost b F (xs ++ whoPut x) w) := by
  have E1 := evC_1 x tx rd; have E2 := evC_2 x tx rd
  have hk0 := (Keeps.refl [] w).alloc (.cells (evC x tx rd) 32)
  have h0 := h.fresh hk0
  have hX := heap_alloc_new w (.cells (evC x tx rd) 32)
  have hlt := h.lt
  have c0 := hx.c0; have c1 := hx.c1; have i0 := hx.i0; have i1 := hx.i1
  have e : xs ++ whoPut x = xs ++ be1 x.c ++ be2 x.id := by simp [whoPut, be1]
  rw [e]
  generalize hP : WPost b F (xs ++ be1 x.c ++ be2 x.id) w = PP
  have HP := Lib.hid hP; clear hP e
  go_enter Tryd.func43, Tryd.ntmps43
  go_wp2_with fail
  refine (U8_any _ _ _ _ h0 x.c c0 c1 (fun ys e => by cases e; omega)).mono ?_; rintro e w1 ⟨rfl, F1, h1, hk1, hs1⟩
  have hX1 := hk1.heap hX (fun hg => by have := hlt _ hg; omega)
  have d2 := ev_cell hX1 2 E2
  clear E1 E2 hX hX1 h0
  go_wp2_with fail
  refine (U16_any _ _ _ _ h1 x.id i0 i1 (fun ys e => by simp at e; subst e; simp [be1]; omega)).mono ?_; rintro e w2 ⟨rfl, F2, h2, hk2, hs2⟩
  go_wp2_with fail
  refine bodyPost_ret (results_none rfl _ _ _) rfl ?_
  rw [← HP.out]
  have hK1 : Keeps F w w1 := (hk0.more (by simp)).trans hk1 (fun g hg => .inl hg)
  have hS1 : FSub F1 F w.heap.size := hs1.mono hk0.size
  exact ⟨rfl, F2, by simpa using h2, hK1.trans hk2 hS1, hs2.trans hS1 hK1.size (Nat.le_refl _)⟩
set_option maxHeartbeats 4000000 in
set_option maxRecDepth 100000 in
theorem flags_any (w : World) (g : Cfg) : Calls Tryd.prog 58 #[.agg #[.int .u8 g.m, .int .i64 g.mo, .int .i64 g.ms, .int .i64 g.mt, .bool g.p, .bool g.cu, .bool g.me]] w fun e w' => e = .returned (.int .u8 (flagsOf g)) ∧ Keeps [] w w' := by
  obtain ⟨m, mo, ms, mt, p, cu, me⟩ := g
  cases p <;> cases cu <;> cases me
  all_goals
    simp only [flagsOf, if_true, if_false, Bool.false_eq_true]
    go_enter Tryd.func58, Tryd.ntmps58
    go_wp2_with fail
    go_ret
    exact ⟨by first | rfl | (simp; done) | decide, (Keeps.refl _ _).alloc _⟩
theorem flagsOf_b (g : Cfg) : 0 ≤ flagsOf g ∧ flagsOf g < 8 := by unfold flagsOf; repeat' split
                                                                  all_goals omega
theorem step_keeps {F F1 F2 : List Nat} {w w1 w2 : World} (hK : Keeps F w w1) (hS : FSub F1 F w.heap.size) (hk : Keeps F1 w1 w2) (hs : FSub F2 F1 w1.heap.size) : Keeps F w w2 ∧ FSub F2 F w.heap.size :=
  ⟨hK.trans hk hS, hs.trans hS hK.size (Nat.le_refl _)⟩
theorem not_in {F G : List Nat} {B N : Nat} (hS : FSub G F N) (hlt : ∀ g ∈ F, g < B) (hN : B < N) : B ∉ G := fun hg => by
  rcases hS _ hg with h | h
  · have := hlt _ h; omega
  · omega
theorem post_end {b : Nat} {F G : List Nat} {ys : List Int} {w w0 w1 : World} (hk0 : Keeps [] w w0) (hK : Keeps F w0 w1) (hS : FSub G F w0.heap.size) (h : WAt w1 b G (some ys)) : WPost b F ys w (.returned (.tuple #[])) w1 :=
  ⟨rfl, G, h, (hk0.more (by simp)).trans hK (fun g hg => .inl hg), hS.mono hk0.size⟩
set_option maxHeartbeats 8000000 in
set_option maxRecDepth 100000 in
theorem writeConfigure_any (w : World) (_hG : Glob4 w) (b : Nat) (F : List Nat) (xs : List Int) (h : WAt w b F (some xs)) (hxs : xs.length ≤ 1000) (x : Ev) (hx : x.In) (hg : cfgGood x.g = true) (tx rd : Value) :
    Calls Tryd.prog 31 #[.pointer (some ⟨b, 0, none⟩), .agg (evC x tx rd)] w (WPost b F (xs ++ cfgPut x.g) w) := by
  have hk0 := (Keeps.refl [] w).alloc (.cells (evC x tx rd) 32)
  have h0 := h.fresh hk0
  have hX := heap_alloc_new w (.cells (evC x tx rd) 32)
  have hz0 : w.heap.size < (w.alloc (.cells (evC x tx rd) 32)).heap.size := by simp
  have hlt := h.lt
  simp only [cfgGood, Bool.and_eq_true, decide_eq_true_eq] at hg
  obtain ⟨⟨⟨g1, g2⟩, g3⟩, g4⟩ := hg
  have m0 := hx.m0
  have fl := flagsOf_b x.g
  have e : xs ++ cfgPut x.g = xs ++ be1 x.g.m ++ be1 (flagsOf x.g) ++ be1 x.g.mo ++ be2 x.g.ms ++ be4 x.g.mt := by simp [cfgPut, be1]
  rw [e]
  have q1 : IntKind.u8.wrap x.g.mo = x.g.mo := IntWalk.u8_in _ (by omega)
  have q2 : IntKind.u16.wrap x.g.ms = x.g.ms := IntWalk.u16_in _ (by omega)
  have q3 : IntKind.u32.wrap x.g.mt = x.g.mt := IntWalk.u32_in _ (by omega)
  have hfl := fun w => flags_any w x.g
  have E12 := evC_12 x tx rd
  have E13 := evC_13 x tx rd
  have E14 := evC_14 x tx rd
  have E15 := evC_15 x tx rd
  have E16 := evC_16 x tx rd
  have E17 := evC_17 x tx rd
  have E18 := evC_18 x tx rd
  generalize flagsOf x.g = FL at *
  generalize hP : WPost b F (xs ++ be1 x.g.m ++ be1 FL ++ be1 x.g.mo ++ be2 x.g.ms ++ be4 x.g.mt) w = PP
  have HP := Lib.hid hP; clear hP e
  go_enter Tryd.func31, Tryd.ntmps31
  go_wp2_with fail
  generalize w.alloc (.cells (evC x tx rd) 32) = w0 at *
  have hK0 := Keeps.refl F w0; have hS0 := FSub.refl F w0.heap.size
  refine (U8_any _ _ _ _ h0 x.g.m m0 (by omega) (fun ys e => by cases e; omega)).mono ?_; rintro e w1 ⟨rfl, F1, h1, hk1, hs1⟩
  have hX1 := hk1.heap hX (not_in hS0 hlt hz0)
  obtain ⟨hK1, hS1⟩ := step_keeps hK0 hS0 hk1 hs1
  clear hX h0 hk1 hs1 hK0 hS0
  have c12 := ev_cell hX1 12 E12
  have c13 := ev_cell hX1 13 E13
  have c14 := ev_cell hX1 14 E14
  have c15 := ev_cell hX1 15 E15
  have c16 := ev_cell hX1 16 E16
  have c17 := ev_cell hX1 17 E17
  have c18 := ev_cell hX1 18 E18
  go_wp2_with fail
  refine (hfl _).mono ?_; rintro e w2 ⟨rfl, hk2⟩
  have hX2 := hk2.heap hX1 (by simp)
  have h2 := h1.fresh hk2
  obtain ⟨hK2, hS2⟩ := step_keeps hK1 hS1 (hk2.more (by simp)) (FSub.refl F1 _)
  clear hX1 h1 hk2 hK1 hS1 c12 c13 c14 c15 c16 c17 c18 hfl
  go_wp2_with fail
  refine (U8_any _ _ _ _ h2 FL fl.1 (by omega) (fun ys e => by simp at e; subst e; simp [be1]; omega)).mono ?_; rintro e w3 ⟨rfl, F3, h3, hk3, hs3⟩
  have hX3 := hk3.heap hX2 (not_in hS2 hlt hz0)
  obtain ⟨hK3, hS3⟩ := step_keeps hK2 hS2 hk3 hs3
  clear hX2 h2 hk3 hs3 hK2 hS2
  have c13 := ev_cell hX3 13 E13
  go_wp2_with fail
  refine (U8_any _ _ _ _ h3 x.g.mo (by omega) (by omega) (fun ys e => by simp at e; subst e; simp [be1]; omega)).mono ?_; rintro e w4 ⟨rfl, F4, h4, hk4, hs4⟩
  have hX4 := hk4.heap hX3 (not_in hS3 hlt hz0)
  obtain ⟨hK4, hS4⟩ := step_keeps hK3 hS3 hk4 hs4
  clear hX3 h3 hk4 hs4 hK3 hS3
  have c14 := ev_cell hX4 14 E14
  go_wp2_with fail
  refine (U16_any _ _ _ _ h4 x.g.ms (by omega) (by omega) (fun ys e => by simp at e; subst e; simp [be1]; omega)).mono ?_; rintro e w5 ⟨rfl, F5, h5, hk5, hs5⟩
  have hX5 := hk5.heap hX4 (not_in hS4 hlt hz0)
  obtain ⟨hK5, hS5⟩ := step_keeps hK4 hS4 hk5 hs5
  clear hX4 h4 hk5 hs5 hK4 hS4
  have c15 := ev_cell hX5 15 E15
  go_wp2_with fail
  refine (U32_any _ _ _ _ h5 x.g.mt (by omega) (by omega) (fun ys e => by simp at e; subst e; simp [be1, be2]; omega)).mono ?_; rintro e w6 ⟨rfl, F6, h6, hk6, hs6⟩
  have hX6 := hk6.heap hX5 (not_in hS5 hlt hz0)
  obtain ⟨hK6, hS6⟩ := step_keeps hK5 hS5 hk6 hs6
  clear hX5 h5 hk6 hs6 hK5 hS5
  go_wp2_with fail
  refine bodyPost_ret (results_none rfl _ _ _) rfl ?_
  rw [← HP.out]
  exact post_end hk0 hK6 hS6 (by simpa using h6)
theorem nums_of {l : List Int} (h : ∀ n ∈ l, byteNum n) : nums (strOfNums l) = l := by
  simp only [nums, strOfNums]
  rw [List.map_map]
  conv => rhs; rw [← List.map_id l]
  apply List.map_congr_left
  intro n hn
  have := h n hn
  unfold byteNum at this
  simp only [Function.comp, id]
  rw [UInt8.toNat_ofNat']
  omega
theorem rsPut_in {k v : Int} (k0 : 0 ≤ k) (k1 : k < 256) (v0 : 0 ≤ v) (v1 : v < 65536) : ∀ n ∈ rsPut k v, byteNum n := by
  intro n hn
  unfold byteNum
  unfold rsPut at hn
  split at hn
  · simp at hn; omega
  · simp at hn; omega
theorem rsPut_len (k v : Int) : (rsPut k v).length ≤ 3 := by unfold rsPut; split <;> simp
theorem opPut_len (x : Opn) : (opPut x).length ≤ 7 := by
  rw [put_length]; unfold opLen opAtB opAtA
  repeat' split
  all_goals omega
theorem bool_dec {b : Bool} (h : b = true) {α : Type} (x y : α) : (if b = true then x else y) = x := by rw [if_pos h]
set_option maxHeartbeats 8000000 in
set_option maxRecDepth 100000 in
theorem writeInvoke_any (w : World) (hG : Glob4 w) (b : Nat) (F : List Nat) (hgF : 0 ∉ F) (xs : List Int) (h : WAt w b F (some xs)) (hxs : xs.length ≤ 900) (x : Ev) (hx : x.In) (hg : opGood x.o = true) (tx rd : Value) :
    Calls Tryd.prog 35 #[.pointer (some ⟨b, 0, none⟩), .agg (evC x tx rd)] w (WPost b F (xs ++ (whoPut x ++ opPut x.o)) w) := by
  have hk0 := (Keeps.refl [] w).alloc (.cells (evC x tx rd) 32)
  have h0 := h.fresh hk0
  have hX := heap_alloc_new w (.cells (evC x tx rd) 32)
  have hz0 : w.heap.size < (w.alloc (.cells (evC x tx rd) 32)).heap.size := by simp
  have hlt := h.lt
  have e : xs ++ (whoPut x ++ opPut x.o) = xs ++ whoPut x ++ nums (strOfNums (opPut x.o)) := by rw [nums_of (put_in hx.o)]; simp
  rw [e]
  have hsz : (strOfNums (opPut x.o)).size ≤ 7 := by rw [strOfNums_size]; have := opPut_len x.o; omega
  have hp := fun w hG => opPut_any w hG x.o.f x.o.o x.o.k x.o.a x.o.b hx.o
  have hr : opPutE x.o = 0 := by simp [opPutE, hg]
  have hs : (if opGood x.o = true then strOfNums (opPut x.o) else ⟨#[]⟩) = strOfNums (opPut x.o) := bool_dec hg _ _
  have hx2 : (⟨x.o.f, x.o.o, x.o.k, x.o.a, x.o.b⟩ : Opn) = x.o := rfl
  rw [hx2, hs, hr] at hp
  clear hs hr hx2 hg
  have E3 := evC_3 x tx rd
  have E4 := evC_4 x tx rd
  have E5 := evC_5 x tx rd
  have E6 := evC_6 x tx rd
  have E7 := evC_7 x tx rd
  generalize strOfNums (opPut x.o) = S at *
  have hwl : (whoPut x).length = 3 := rfl
  generalize hP : WPost b F (xs ++ whoPut x ++ nums S) w = PP
  have HP := Lib.hid hP; have HWL := Lib.hid hwl; clear hP e hwl
  go_enter Tryd.func35, Tryd.ntmps35
  go_wp2_with ((with_reducible apply wpList_load_ev); exact rfl; (first | assumption | (refine heap_alloc_lt ?_; assumption) | (refine heap_alloc_lt (heap_alloc_lt ?_); assumption) | exact heap_alloc_at (by simp)); exact rfl)
  generalize w.alloc (.cells (evC x tx rd) 32) = w0 at *
  have hK0 := Keeps.refl F w0; have hS0 := FSub.refl F w0.heap.size
  refine (writeWho_any w0 b F xs h0 (by omega) x hx tx rd).mono ?_; rintro e w1 ⟨rfl, F1, h1, hk1, hs1⟩
  have hX1 := hk1.heap hX (not_in hS0 hlt hz0)
  obtain ⟨hK1, hS1⟩ := step_keeps hK0 hS0 hk1 hs1
  clear hX h0 hk1 hs1 hK0 hS0
  have c3 := ev_cell hX1 3 E3
  have c4 := ev_cell hX1 4 E4
  have c5 := ev_cell hX1 5 E5
  have c6 := ev_cell hX1 6 E6
  have c7 := ev_cell hX1 7 E7
  have hk : Keeps F w w1 := (hk0.more (by simp)).trans hK1 (fun g hg => .inl hg)
  have hG1 : Glob4 w1 := by
    obtain ⟨t, fr, hw⟩ := hG.kinds
    exact ⟨t, fr, hk.heap hw hgF⟩
  go_wp2_with fail
  refine (hp _ hG1).mono ?_; rintro e w2 ⟨rfl, hk2⟩
  have h2 := h1.fresh hk2
  obtain ⟨hK2, hS2⟩ := step_keeps hK1 hS1 (hk2.more (by simp)) (FSub.refl F1 _)
  clear hX1 h1 hk2 hK1 hS1 hp c3 c4 c5 c6 c7
  go_wp2_with fail
  refine (WRaw_any _ _ _ _ h2 S (fun ys e => by simp at e; subst e; have := HWL.out; simp; omega)).mono ?_; rintro e w3 ⟨rfl, F3, h3, hk3, hs3⟩
  obtain ⟨hK3, hS3⟩ := step_keeps hK2 hS2 hk3 hs3
  go_wp2_with fail
  refine bodyPost_ret (results_none rfl _ _ _) rfl ?_
  rw [← HP.out]
  exact post_end hk0 hK3 hS3 (by simpa using h3)
set_option maxHeartbeats 8000000 in
set_option maxRecDepth 100000 in
theorem writeReturn_any (w : World) (b : Nat) (F : List Nat) (xs : List Int) (h : WAt w b F (some xs)) (hxs : xs.length ≤ 900) (x : Ev) (hx : x.In) (hg : rsGood x.rk x.rv = true) (tx rd : Value) :
    Calls Tryd.prog 39 #[.pointer (some ⟨b, 0, none⟩), .agg (evC x tx rd)] w (WPost b F (xs ++ (whoPut x ++ rsPut x.rk x.rv)) w) := by
  have hk0 := (Keeps.refl [] w).alloc (.cells (evC x tx rd) 32)
  have h0 := h.fresh hk0
  have hX := heap_alloc_new w (.cells (evC x tx rd) 32)
  have hz0 : w.heap.size < (w.alloc (.cells (evC x tx rd) 32)).heap.size := by simp
  have hlt := h.lt
  have e : xs ++ (whoPut x ++ rsPut x.rk x.rv) = xs ++ whoPut x ++ nums (strOfNums (rsPut x.rk x.rv)) := by rw [nums_of (rsPut_in hx.rk0 hx.rk1 hx.rv0 hx.rv1)]; simp
  rw [e]
  have hsz : (strOfNums (rsPut x.rk x.rv)).size ≤ 7 := by rw [strOfNums_size]; have := rsPut_len x.rk x.rv; omega
  have hp := fun w => rsPut_any w x.rk x.rv hx.rk0 hx.rk1 hx.rv0 hx.rv1
  have hr : rsErr x.rk x.rv = 0 := by simp [rsErr, hg]
  have hs : (if rsGood x.rk x.rv = true then strOfNums (rsPut x.rk x.rv) else ⟨#[]⟩) = strOfNums (rsPut x.rk x.rv) := bool_dec hg _ _
  rw [hs, hr] at hp
  clear hs hr hg
  have E8 := evC_8 x tx rd
  have E9 := evC_9 x tx rd
  generalize strOfNums (rsPut x.rk x.rv) = S at *
  have hwl : (whoPut x).length = 3 := rfl
  generalize hP : WPost b F (xs ++ whoPut x ++ nums S) w = PP
  have HP := Lib.hid hP; have HWL := Lib.hid hwl; clear hP e hwl
  go_enter Tryd.func39, Tryd.ntmps39
  go_wp2_with ((with_reducible apply wpList_load_ev); exact rfl; (first | assumption | (refine heap_alloc_lt ?_; assumption) | (refine heap_alloc_lt (heap_alloc_lt ?_); assumption) | exact heap_alloc_at (by simp)); exact rfl)
  generalize w.alloc (.cells (evC x tx rd) 32) = w0 at *
  have hK0 := Keeps.refl F w0; have hS0 := FSub.refl F w0.heap.size
  refine (writeWho_any w0 b F xs h0 (by omega) x hx tx rd).mono ?_; rintro e w1 ⟨rfl, F1, h1, hk1, hs1⟩
  have hX1 := hk1.heap hX (not_in hS0 hlt hz0)
  obtain ⟨hK1, hS1⟩ := step_keeps hK0 hS0 hk1 hs1
  clear hX h0 hk1 hs1 hK0 hS0
  have c8 := ev_cell hX1 8 E8
  have c9 := ev_cell hX1 9 E9
  go_wp2_with fail
  refine (hp _).mono ?_; rintro e w2 ⟨rfl, hk2⟩
  have h2 := h1.fresh hk2
  obtain ⟨hK2, hS2⟩ := step_keeps hK1 hS1 (hk2.more (by simp)) (FSub.refl F1 _)
  clear hX1 h1 hk2 hK1 hS1 hp c8 c9
  go_wp2_with fail
  refine (WRaw_any _ _ _ _ h2 S (fun ys e => by simp at e; subst e; have := HWL.out; simp; omega)).mono ?_; rintro e w3 ⟨rfl, F3, h3, hk3, hs3⟩
  obtain ⟨hK3, hS3⟩ := step_keeps hK2 hS2 hk3 hs3
  go_wp2_with fail
  refine bodyPost_ret (results_none rfl _ _ _) rfl ?_
  rw [← HP.out]
  exact post_end hk0 hK3 hS3 (by simpa using h3)
end Go.Proofs.YtnehnbhdkhgakaaDoor
