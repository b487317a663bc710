/-
  What the package-level variables hold, all of them; the reader of a line in memory; need, numberOf, word, has, number.
-/
import Derived.Test.YtffldnjjijckcaaGreatDoorR12
import Derived.Test.YtffldnjjijckcaaGreatDoorR11
import Derived.Test.YtffldnjjijckcaaGreatDoorR13
set_option linter.unusedSimpArgs false
set_option linter.unusedVariables false
namespace Go.Proofs.YtffldnjjijckcaaGreatDoor
open Go.RowKit
def modelCells : Array Value := #[.string ⟨#[114, 101, 103, 105, 115, 116, 101, 114]⟩, .string ⟨#[113, 117, 101, 117, 101]⟩, .string ⟨#[109, 97, 112]⟩, .string ⟨#[108, 111, 99, 107]⟩, .string ⟨#[97, 112, 112, 101, 110, 100]⟩]
/-- The blocks of the package-level variables. -/
def globs : List Nat := [2, 6, 7, 8, 3, 1, 0]
/-- The package-level variables hold what start-up lays: text's, op's, result's. -/
structure Glob6 (w : World) : Prop where
  r : Glob w
  o : Glob4 w
  models : ∃ t fr, w.heap[0]? = some (.cells modelCells t fr)
theorem Glob6.keeps {w w' : World} {F : List Nat} (h : Glob6 w) (hk : Keeps F w w') (hF : ∀ k ∈ F, k ∉ globs) : Glob6 w' := by
  have no : ∀ g ∈ globs, g ∉ F := fun g h1 h2 => hF g h2 h1
  obtain ⟨⟨⟨t, fr, hw⟩, ht, ⟨t1, p1, h1⟩, ⟨t2, p2, h2⟩, ⟨m, hm⟩⟩, ⟨⟨t3, fr3, hk3⟩, _, _, _, _⟩, ⟨t4, fr4, hm4⟩⟩ := h
  have q1 := var_keeps glob_pow10 ht hk (no _ (by simp [globs]))
  have q2 := var_keeps glob_syn h1 hk (no _ (by simp [globs]))
  have q3 := var_keeps glob_ran h2 hk (no _ (by simp [globs]))
  have q4 := hk.cell hm (no _ (by simp [globs]))
  exact ⟨⟨⟨t, fr, hk.heap hw (no _ (by simp [globs]))⟩, q1, ⟨t1, p1, q2⟩, ⟨t2, p2, q3⟩, ⟨m, q4⟩⟩, ⟨⟨t3, fr3, hk.heap hk3 (no _ (by simp [globs]))⟩, q1, ⟨t1, p1, q2⟩, ⟨t2, p2, q3⟩, ⟨m, q4⟩⟩, ⟨t4, fr4, hk.heap hm4 (no _ (by simp [globs]))⟩⟩
theorem Glob6.new {w w' : World} (h : Glob6 w) (hk : Keeps [] w w') : Glob6 w' := h.keeps hk (by simp)
theorem var_lt {w : World} {n : String} {g : Nat} {cs : Array Value} (hg : Tryz.prog.globalNamed n = some g) (hv : w.var? Tryz.prog n = some cs) : g < w.heap.size := by
  unfold World.var? at hv
  rw [hg] at hv
  simp only [Option.bind_some] at hv
  cases hh : w.heap[g]? with
  | none => rw [hh] at hv; simp at hv
  | some o => exact lt_of_block hh
theorem Glob6.lt {w : World} (h : Glob6 w) : ∀ k ∈ globs, k < w.heap.size := by
  obtain ⟨⟨⟨t, fr, hw⟩, ht, ⟨t1, p1, h1⟩, ⟨t2, p2, h2⟩, ⟨m, hm⟩⟩, ⟨⟨t3, fr3, hk3⟩, _, _, _, _⟩, ⟨t4, fr4, hm4⟩⟩ := h
  intro k hk
  simp only [globs, List.mem_cons, List.not_mem_nil, or_false] at hk
  rcases hk with rfl | rfl | rfl | rfl | rfl | rfl | rfl
  · exact lt_of_block hw
  · exact var_lt glob_pow10 ht
  · exact var_lt glob_syn h1
  · exact var_lt glob_ran h2
  · exact World.block_lt_of_cell? _ _ hm
  · exact lt_of_block hk3
  · exact lt_of_block hm4
theorem Glob6.above {w : World} (h : Glob6 w) {b : Nat} (hb : w.heap.size ≤ b) : b ∉ globs := fun hm => by have := h.lt b hm; omega
/-- A slice of words that lies in the block g. -/
def StrsIn (g : Nat) (w : World) (v : Value) (l : Wds) : Prop :=
  ∃ a c, v = .slice a l.length c ∧ l.length ≤ c ∧ c ≤ 9223372036854775807 ∧ (l ≠ [] → ∃ o, a = some ⟨g, o, none⟩ ∧ ∀ j, j < l.length → w.cell? ⟨g, o + j, none⟩ = some (.string (bs (l.getD j []))))
theorem StrsIn.keeps {g : Nat} {F : List Nat} {w w' : World} {v : Value} {l : Wds} (h : StrsIn g w v l) (hk : Keeps F w w') (hF : g ∉ F) : StrsIn g w' v l := by
  obtain ⟨a, c, rfl, hc, hm, h⟩ := h
  refine ⟨a, c, rfl, hc, hm, fun hn => ?_⟩
  obtain ⟨o, rfl, h'⟩ := h hn
  exact ⟨o, rfl, fun j hj => hk.cell (h' j hj) hF⟩
theorem StrsIn.strs {g : Nat} {w : World} {v : Value} {l : Wds} (h : StrsIn g w v l) : Strs w.heap.size w v l := by
  obtain ⟨a, c, rfl, hc, hm, h⟩ := h
  refine ⟨a, c, rfl, hc, hm, fun hn => ?_⟩
  obtain ⟨o, rfl, h'⟩ := h hn
  exact ⟨g, o, rfl, World.block_lt_of_cell? _ _ (h' 0 (List.length_pos_iff.2 hn)), h'⟩
theorem StrsIn.nil (g : Nat) (w : World) : StrsIn g w (.slice none 0 0) [] := ⟨none, 0, rfl, Nat.le_refl _, by decide, fun h => absurd rfl h⟩
/-- The reader r holds the words l, which lie in the block g. -/
structure RdAt (w : World) (r g : Nat) (l : Wds) : Prop where
  cell : ∃ v, w.heap[r]? = some (.cells #[v] 75 (0, 0)) ∧ StrsIn g w v l
  ne : r ≠ g
  glob : Glob6 w
  nr : r ∉ globs
  gl : g < w.heap.size
  ln : l.length ≤ 1000
  ws : ∀ x ∈ l, x.length ≤ 1000000
theorem RdAt.keeps {F : List Nat} {w w' : World} {r g : Nat} {l : Wds} (h : RdAt w r g l) (hk : Keeps F w w') (h1 : r ∉ F) (h2 : g ∉ F) (h3 : ∀ k ∈ F, k ∉ globs) : RdAt w' r g l := by
  obtain ⟨v, hv, hs⟩ := h.cell
  exact ⟨⟨v, hk.heap hv h1, hs.keeps hk h2⟩, h.ne, h.glob.keeps hk h3, h.nr, Nat.lt_of_lt_of_le h.gl hk.size, h.ln, h.ws⟩
theorem RdAt.new {w w' : World} {r g : Nat} {l : Wds} (h : RdAt w r g l) (hk : Keeps [] w w') : RdAt w' r g l := h.keeps hk (by simp) (by simp) (by simp)
theorem RdAt.off {F : List Nat} {w w1 w2 : World} {r g : Nat} {l l2 : Wds} (h : RdAt w r g l) (h2 : RdAt w1 r g l2) (hk : Keeps F w1 w2) (hF : ∀ n ∈ F, w.heap.size ≤ n) : RdAt w2 r g l2 := by
  have hr : r < w.heap.size := by obtain ⟨v, hv, _⟩ := h.cell; exact lt_of_block hv
  have hg := h.gl
  exact h2.keeps hk (fun hm => by have := hF _ hm; omega) (fun hm => by have := hF _ hm; omega) (fun k hm => h.glob.above (hF k hm))
theorem RdAt.lt {w : World} {r g : Nat} {l : Wds} (h : RdAt w r g l) : r < w.heap.size := by obtain ⟨v, hv, _⟩ := h.cell; exact lt_of_block hv
def PanicE : Ending := .panicked [{ v := .iface 35 (.int .i64 4), recovered := false }]
/-- What a step of the reader ends in: it panics, or hands a value back and stands further. -/
def Reads {α : Type} (r g : Nat) (w : World) (o : Option (α × Wds)) (val : α → Value) (e : Ending) (w' : World) : Prop :=
  match o with
  | none => e = PanicE ∧ Keeps [r] w w'
  | some (a, l) => e = .returned (val a) ∧ RdAt w' r g l ∧ Keeps [r] w w'
theorem need_yes (w : World) : Calls Tryz.prog 31 #[.bool true] w fun e w' => e = .returned (.tuple #[]) ∧ w' = w := by
  go_enter Tryz.func31, Tryz.ntmps31
  go_wp2_with fail
  go_end0
  exact ⟨rfl, rfl⟩
theorem need_no (w : World) : Calls Tryz.prog 31 #[.bool false] w fun e w' => e = PanicE ∧ w' = w := by
  go_enter Tryz.func31, Tryz.ntmps31
  go_wp2_with fail
  exact ⟨rfl, rfl, rfl⟩
theorem Itoa6_any (w : World) (hg : Glob6 w) (v : Int) (v0 : 0 ≤ v) (v1 : v ≤ 9223372036854775807) : Calls Tryz.prog 75 #[.int .i64 v] w fun e w' => e = .returned (.string (bs (dec v))) ∧ Keeps [] w w' := by
  refine (Tryz.strconv_Itoa v (by omega) (by omega) w hg.o.tab).mono ?_
  rintro e w' ⟨rfl, k, os, rfl⟩
  refine ⟨?_, ?_⟩
  · rw [Lib.itoa, if_neg (by omega)]; rfl
  · refine ⟨rfl, rfl, rfl, ?_, fun j hj _ => ?_⟩
    · show w.heap.size ≤ (w.heap ++ os).size
      simp
    · show (w.heap ++ os)[j]? = w.heap[j]?
      simp [Array.getElem?_append, hj]
theorem Atoi6_any (w : World) (hG : Glob6 w) (s : List UInt8) (hs : s.length ≤ 1000000) : Calls Tryz.prog 151 #[.string (bs s)] w fun e w' =>
    ∃ v x, e = .returned (.tuple #[.int .i64 v, x]) ∧ Keeps [] w w' ∧ (-9223372036854775808 ≤ v ∧ v ≤ 9223372036854775807) ∧ (0 ≤ num7 s → v = num7 s) := by
  have hsz : (bs s).size ≤ 1000000 := by rw [bs_size]; exact hs
  have hd : 0 ≤ num7 s → Lib.atoiAll (bs s).data.toList = .ok (num7 s) := fun h => by
    have := atoi_dec h (num7_bounds s).2
    rw [num7_ok h] at this
    rw [bs_list]; exact this
  cases h : Lib.atoiAll (bs s).data.toList with
  | ok u =>
    refine (Tryz.strconv_Atoi_ok (bs s) (by omega) u h w).mono ?_
    rintro e w' ⟨rfl, hw⟩
    refine ⟨u, _, rfl, ?_, Lib.atoiAll_bounds h, fun h0 => ?_⟩
    · rcases hw with rfl | ⟨t, rfl⟩
      · exact Keeps.refl _ _
      · exact Keeps.ofBelow (Lib.bytesWorld_below _ _ _)
    · have := hd h0
      rw [h] at this
      simpa using this
  | range =>
    obtain ⟨tp, p, hv⟩ := hG.o.ran
    refine (Tryz.strconv_Atoi_range_var (bs s) (by omega) h tp p w hv).mono ?_
    rintro e w' ⟨N, rfl, _, _, hb⟩
    refine ⟨_, _, rfl, Keeps.ofBelow hb, Lib.atoiSat_bounds _, fun h0 => ?_⟩
    have := hd h0
    rw [h] at this
    simp at this
  | _ =>
    obtain ⟨tp, p, hv⟩ := hG.o.syn
    have hc : Calls Tryz.prog 151 #[.string (bs s)] w fun e w' => (∃ x, e = .returned (.tuple #[.int .i64 0, x])) ∧ Below w.heap.size w w' :=
      (Any.strconv_Atoi_syntax_var Tryz.laysC172 (bs s) (by omega) h tp p w hv).mono fun e w' ⟨N, he, _, _, hb⟩ => ⟨⟨_, he⟩, hb⟩
    refine hc.mono ?_
    rintro e w' ⟨⟨x, rfl⟩, hb⟩
    refine ⟨0, x, rfl, Keeps.ofBelow hb, by omega, fun h0 => ?_⟩
    have := hd h0
    rw [h] at this
    simp at this
/-- A number of a word: it is one of at most 'most', or the step panics. -/
def numIs (most : Int) (s : List UInt8) : Bool := decide (0 ≤ num7 s ∧ num7 s ≤ most)
set_option maxHeartbeats 1000000 in
set_option maxRecDepth 100000 in
theorem numberOf_any (w : World) (hG : Glob6 w) (s : List UInt8) (hs : s.length ≤ 1000000) (most : Int) (m0 : 0 ≤ most) (m1 : most < 10000000) : Calls Tryz.prog 117 #[.string (bs s), .int .i64 most] w fun e w' =>
    (e = if numIs most s then .returned (.int .i64 (num7 s)) else PanicE) ∧ Keeps [] w w' := by
  have ha := Atoi6_any w hG s hs
  have hdec := Lib.hid (@num7_ok s)
  have hI := Lib.hid (show numIs most s = decide (0 ≤ num7 s ∧ num7 s ≤ most) from rfl)
  have hE : ∀ v : Int, 0 ≤ v → v < 10000000 → dec v = s → num7 s = v := fun v a b c => by rw [← c]; exact num7_dec a b
  have hE := Lib.hid hE
  generalize numIs most s = I at *
  generalize num7 s = n at *
  go_enter Tryz.func117, Tryz.ntmps117
  go_wp2_with fail
  refine ha.mono ?_; rintro e w1 ⟨v, x, rfl, hk1, hv, hv2⟩
  have hV := Lib.hid hv2
  clear hv2 ha
  have hG1 := hG.new hk1
  by_cases h0 : 0 ≤ v
  · by_cases h1 : v ≤ most
    · have hi := Itoa6_any w1 hG1 v h0 hv.2
      by_cases hd : dec v = s
      · have hIt : I = true := by rw [hI.out, hE.out v h0 (by omega) hd]; simp; omega
        have hn := hE.out v h0 (by omega) hd
        subst hIt
        have t1 : ((bs (dec v)).toList == (bs s).toList) = true := by rw [hd]; simp
        have hn := Lib.hid hn
        clear hd
        go_wp2_with fail
        refine hi.mono ?_; rintro e w2 ⟨rfl, hk2⟩
        go_wp2_with fail
        refine (need_yes _).mono ?_; rintro e w3 ⟨rfl, rfl⟩
        go_wp2_with fail
        go_ret
        exact ⟨by first | rfl | (rw [hn.out]; rfl), hk1.trans hk2 (FSub.refl _ _)⟩
      · have hIf : I = false := by
          rw [hI.out]; simp; intro h2
          have h3 := hV.out h2
          exact absurd (by rw [h3]; exact hdec.out h2) hd
        subst hIf
        have t1 : ((bs (dec v)).toList == (bs s).toList) = false := by
          rw [toL_bs, toL_bs]; exact beq_eq_false_iff_ne.2 hd
        clear hd
        go_wp2_with fail
        refine hi.mono ?_; rintro e w2 ⟨rfl, hk2⟩
        go_wp2_with fail
        refine (need_no _).mono ?_; rintro e w3 ⟨rfl, rfl⟩
        unfold PanicE
        go_wp2_with fail
        exact ⟨rfl, rfl, hk1.trans hk2 (FSub.refl _ _)⟩
    · have hIf : I = false := by rw [hI.out]; simp; intro h2; have := hV.out h2; omega
      subst hIf
      go_wp2_with fail
      refine (need_no _).mono ?_; rintro e w2 ⟨rfl, rfl⟩
      unfold PanicE
      go_wp2_with fail
      exact ⟨rfl, rfl, hk1⟩
  · have hIf : I = false := by rw [hI.out]; simp; intro h2; have := hV.out h2; omega
    subst hIf
    go_wp2_with fail
    refine (need_no _).mono ?_; rintro e w2 ⟨rfl, rfl⟩
    unfold PanicE
    go_wp2_with fail
    exact ⟨rfl, rfl, hk1⟩
/-- A tail of a slice of words. -/
theorem StrsIn.tail {g : Nat} {w : World} {a : Option Addr} {x : List UInt8} {r : Wds} {c : Nat} (h : StrsIn g w (.slice a (x :: r).length c) (x :: r)) : ∃ o, a = some ⟨g, o, none⟩ ∧ w.cell? ⟨g, o, none⟩ = some (.string (bs x)) ∧ r.length + 1 ≤ c ∧ c ≤ 9223372036854775807 ∧
    ∀ a2 : Option Addr, (r ≠ [] → a2 = some ⟨g, o + 1, none⟩) → StrsIn g w (.slice a2 r.length (c - 1)) r := by
  obtain ⟨a', c', hv, hc, hm, h⟩ := h
  simp only [Value.slice.injEq] at hv
  obtain ⟨rfl, _, rfl⟩ := hv
  obtain ⟨o, rfl, h'⟩ := h (by simp)
  have h0 := h' 0 (by simp)
  simp only [List.length_cons] at hc
  refine ⟨o, rfl, h0, hc, hm, fun a2 ha2 => ⟨a2, c - 1, rfl, by omega, by omega, fun hn => ?_⟩⟩
  refine ⟨o + 1, ha2 hn, fun j hj => ?_⟩
  have := h' (j + 1) (by simp; omega)
  have e : o + 1 + j = o + (j + 1) := by omega
  rw [e]; exact this
theorem put1 {w : World} {b : Nat} {x : Value} {t : TypeId} (h : w.heap[b]? = some (.cells #[x] t (0, 0))) (y : Value) : (w.setCell ⟨b, 0, none⟩ y).heap[b]? = some (.cells #[y] t (0, 0)) := by
  rw [heap_setCell_same w b 0 _ t y h]; rfl
theorem RdAt.put {w w' : World} {r g : Nat} {l l2 : Wds} {v : Value} (h : RdAt w r g l) (hk : Keeps [r] w w') (hv : w'.heap[r]? = some (.cells #[v] 75 (0, 0))) (hs : StrsIn g w v l2) (hl : ∀ x ∈ l2, x ∈ l) (hn : l2.length ≤ l.length) : RdAt w' r g l2 :=
  ⟨⟨v, hv, hs.keeps hk (by simpa using h.ne.symm)⟩, h.ne, h.glob.keeps hk (by simpa using h.nr), h.nr, Nat.lt_of_lt_of_le h.gl hk.size, Nat.le_trans hn h.ln, fun x hx => h.ws x (hl x hx)⟩
set_option maxHeartbeats 1000000 in
set_option maxRecDepth 100000 in
theorem word_any (w : World) (r g : Nat) (l : Wds) (h : RdAt w r g l) : Calls Tryz.prog 66 #[.pointer (some ⟨r, 0, none⟩)] w (Reads r g w (match l with | [] => none | x :: t => some (x, t)) fun s => .string (bs s)) := by
  obtain ⟨v, hv, hs⟩ := h.cell
  have H := Lib.hid h
  cases l with
  | nil =>
    obtain ⟨a, c, rfl, _, _, _⟩ := hs
    have c0 : w.cell? ⟨r, 0, none⟩ = some (.slice a 0 c) := by simp [World.cell?, hv]
    clear h hv
    go_enter Tryz.func66, Tryz.ntmps66
    go_wp2_with fail
    refine (need_no _).mono ?_; rintro e w3 ⟨rfl, rfl⟩
    unfold PanicE
    go_wp2_with fail
    exact ⟨rfl, rfl, Keeps.refl _ _⟩
  | cons x t =>
    have hs' := hs
    obtain ⟨a, c, rfl, hc, hm, _⟩ := hs
    obtain ⟨o, rfl, h0, hc1, hm1, htl⟩ := hs'.tail
    have hlen : (x :: t).length = t.length + 1 := rfl
    rw [hlen] at hv
    have c0 : w.cell? ⟨r, 0, none⟩ = some (.slice (some ⟨g, o, none⟩) (t.length + 1 : Nat) c) := by simp [World.cell?, hv]
    have hrl := lt_of_block hv
    have z0 : (((t.length + 1 : Nat) : Int) > 0) := by omega
    have z1 : 1 ≤ c := by omega
    have z2 : (c : Int) ≤ 9223372036854775807 := by omega
    have z3 : 1 ≤ t.length + 1 := by omega
    have HV := Lib.hid hv
    have hfz : w.frozen? ⟨r, 0, none⟩ = false := by simp [World.frozen?, hv]
    clear h hv hs' hlen
    go_enter Tryz.func66, Tryz.ntmps66
    go_wp2_with fail
    refine (need_yes _).mono ?_; rintro e w3 ⟨rfl, rfl⟩
    obtain ⟨A2, hA2⟩ : ∃ A, (if c = 1 then some (⟨g, o, none⟩ : Addr) else some ⟨g, o + 1, none⟩) = A := ⟨_, rfl⟩
    have HA2 := Lib.hid hA2
    go_wp2_with fail
    go_ret
    have hk := (Keeps.refl [r] w3).setCell ⟨r, 0, none⟩ (.slice A2 t.length (c - 1 : Nat)) (.inl (by simp))
    refine ⟨rfl, H.out.put hk (put1 HV.out _) (htl A2 fun hn => ?_) (fun y hy => by simp [hy]) (by simp), hk⟩
    have : t.length ≠ 0 := fun e => hn (List.eq_nil_of_length_eq_zero e)
    rw [← HA2.out, if_neg (by omega)]
theorem head_some {x w : List UInt8} {t : Wds} : rdHas w (x :: t) = decide (x = w) := by
  unfold rdHas
  by_cases h : x = w
  · subst h; simp
  · simp [h]
set_option maxHeartbeats 1000000 in
set_option maxRecDepth 100000 in
theorem has_any (w : World) (r g : Nat) (l : Wds) (h : RdAt w r g l) (W : List UInt8) (S : ByteArray) (hS : S = bs W) : Calls Tryz.prog 78 #[.pointer (some ⟨r, 0, none⟩), .string S] w fun e w' =>
    e = .returned (.bool (rdHas W l)) ∧ RdAt w' r g (rdLeft W l) ∧ Keeps [r] w w' := by
  subst hS
  obtain ⟨v, hv, hs⟩ := h.cell
  have H := Lib.hid h
  cases l with
  | nil =>
    obtain ⟨a, c, rfl, _, _, _⟩ := hs
    have c0 : w.cell? ⟨r, 0, none⟩ = some (.slice a 0 c) := by simp [World.cell?, hv]
    clear h hv
    go_enter Tryz.func78, Tryz.ntmps78
    go_wp2_with fail
    go_ret
    exact ⟨rfl, H.out, Keeps.refl _ _⟩
  | cons x t =>
    have hs' := hs
    obtain ⟨a, c, rfl, hc, hm, _⟩ := hs
    obtain ⟨o, rfl, h0, hc1, hm1, htl⟩ := hs'.tail
    have hlen : (x :: t).length = t.length + 1 := rfl
    rw [hlen] at hv
    have c0 : w.cell? ⟨r, 0, none⟩ = some (.slice (some ⟨g, o, none⟩) (t.length + 1 : Nat) c) := by simp [World.cell?, hv]
    have hrl := lt_of_block hv
    have z0 : (((t.length + 1 : Nat) : Int) == 0) = false := by rw [beq_eq_false_iff_ne]; omega
    have z1 : 1 ≤ c := by omega
    have z2 : (c : Int) ≤ 9223372036854775807 := by omega
    have z3 : 1 ≤ t.length + 1 := by omega
    have HV := Lib.hid hv
    have hfz : w.frozen? ⟨r, 0, none⟩ = false := by simp [World.frozen?, hv]
    have hh := @head_some x W t
    have hL : rdLeft W (x :: t) = if rdHas W (x :: t) then t else x :: t := rfl
    by_cases hq : x = W
    · have e1 : rdHas W (x :: t) = true := by rw [hh]; simp [hq]
      rw [hL, e1]
      have t1 : ((bs x).toList == (bs W).toList) = true := by rw [hq]; simp
      have t2 : ((bs x).toList != (bs W).toList) = false := by rw [hq]; simp
      clear hL e1 hh hq h hv hs' hlen
      obtain ⟨A2, hA2⟩ : ∃ A, (if c = 1 then some (⟨g, o, none⟩ : Addr) else some ⟨g, o + 1, none⟩) = A := ⟨_, rfl⟩
      have HA2 := Lib.hid hA2
      go_enter Tryz.func78, Tryz.ntmps78
      go_wp2_with fail
      go_ret
      have hk := (Keeps.refl [r] w).setCell ⟨r, 0, none⟩ (.slice A2 t.length (c - 1 : Nat)) (.inl (by simp))
      refine ⟨rfl, H.out.put hk (put1 HV.out _) (htl A2 fun hn => ?_) (fun y hy => by simp [hy]) (by simp), hk⟩
      have : t.length ≠ 0 := fun e => hn (List.eq_nil_of_length_eq_zero e)
      rw [← HA2.out, if_neg (by omega)]
    · have e1 : rdHas W (x :: t) = false := by rw [hh]; simp [hq]
      rw [hL, e1]
      have t1 : ((bs x).toList == (bs W).toList) = false := by rw [toL_bs, toL_bs]; exact beq_eq_false_iff_ne.2 hq
      have t2 : ((bs x).toList != (bs W).toList) = true := by rw [bne, t1]; rfl
      clear hL e1 hh hq h hv hs' hlen
      go_enter Tryz.func78, Tryz.ntmps78
      go_wp2_with fail
      go_ret
      exact ⟨rfl, H.out, Keeps.refl _ _⟩
theorem Reads.none {α : Type} {r g : Nat} {w w' : World} {val : α → Value} (hk : Keeps [r] w w') : Reads r g w (none : Option (α × Wds)) val PanicE w' := ⟨rfl, hk⟩
set_option maxHeartbeats 1000000 in
set_option maxRecDepth 100000 in
theorem number_any (w : World) (r g : Nat) (l : Wds) (h : RdAt w r g l) (most : Int) (m0 : 0 ≤ most) (m1 : most < 10000000) : Calls Tryz.prog 77 #[.pointer (some ⟨r, 0, none⟩), .int .i64 most] w (Reads r g w (rdNum most l) fun n => .int .i64 n) := by
  have hw := word_any w r g l h
  cases l with
  | nil =>
    simp only [] at hw
    show Calls _ _ _ _ (Reads r g w (none : Option (Int × Wds)) _)
    go_enter Tryz.func77, Tryz.ntmps77
    go_wp2_with fail
    refine hw.mono ?_; rintro e w1 ⟨rfl, hk1⟩
    unfold PanicE
    go_wp2_with fail
    exact ⟨rfl, rfl, hk1⟩
  | cons x t =>
    simp only [] at hw
    have hn := fun w hG => numberOf_any w hG x (h.ws x (by simp)) most m0 m1
    have hd : rdNum most (x :: t) = if numIs most x then some (num7 x, t) else none := by
      unfold numIs
      show (if 0 ≤ num7 x ∧ num7 x ≤ most then some (num7 x, t) else none) = _
      by_cases hh : 0 ≤ num7 x ∧ num7 x ≤ most <;> simp [hh]
    rw [hd]
    cases hI : numIs most x with
    | true =>
      rw [hI] at hn
      simp only [if_true] at hn ⊢
      generalize num7 x = n at *
      clear hd hI h
      go_enter Tryz.func77, Tryz.ntmps77
      go_wp2_with fail
      refine hw.mono ?_; rintro e w1 ⟨rfl, h1, hk1⟩
      go_wp2_with fail
      refine (hn _ h1.glob).mono ?_; rintro e w2 ⟨rfl, hk2⟩
      go_wp2_with fail
      go_ret
      exact ⟨rfl, h1.new hk2, hk1.step hk2 (by simp)⟩
    | false =>
      rw [hI] at hn
      simp only [Bool.false_eq_true, if_false] at hn ⊢
      clear hd hI h
      go_enter Tryz.func77, Tryz.ntmps77
      go_wp2_with fail
      refine hw.mono ?_; rintro e w1 ⟨rfl, h1, hk1⟩
      go_wp2_with fail
      refine (hn _ h1.glob).mono ?_; rintro e w2 ⟨rfl, hk2⟩
      unfold PanicE
      go_wp2_with fail
      exact ⟨rfl, rfl, hk1.step hk2 (by simp)⟩
end Go.Proofs.YtffldnjjijckcaaGreatDoor
/-
  The reader's steps over an event: kind, model, who, config, micro.
-/
namespace Go.Proofs.YtffldnjjijckcaaGreatDoor
open Go.RowKit
/-- An event and a reader under way: all other old blocks are as they were. -/
structure Rdt (b r g : Nat) (w W : World) (l : Wds) (x : Ev) (tx rd : Value) : Prop where
  ev : W.heap[b]? = some (.cells (evC x tx rd) 32 (0, 0))
  rdr : RdAt W r g l
  keeps : Keeps [b, r] w W
  br : b ≠ r
  bg : b ≠ g
  nb : b ∉ globs
theorem Rdt.reads {b r g : Nat} {w W W' : World} {l l' : Wds} {x : Ev} {tx rd : Value} (h : Rdt b r g w W l x tx rd) (hr : RdAt W' r g l') (hk : Keeps [r] W W') : Rdt b r g w W' l' x tx rd :=
  ⟨hk.heap h.ev (by simpa using h.br), hr, h.keeps.step hk (by simp), h.br, h.bg, h.nb⟩
theorem Rdt.puts {b r g : Nat} {w W W' : World} {l : Wds} {x y : Ev} {tx rd tx' rd' : Value} (h : Rdt b r g w W l x tx rd) (hy : W'.heap[b]? = some (.cells (evC y tx' rd') 32 (0, 0))) (hk : Keeps [b] W W') : Rdt b r g w W' l y tx' rd' :=
  ⟨hy, h.rdr.keeps hk (by simpa using h.br.symm) (by simpa using h.bg.symm) (by simpa using h.nb), h.keeps.step hk (by simp), h.br, h.bg, h.nb⟩
theorem Rdt.news {b r g : Nat} {w W W' : World} {l : Wds} {x : Ev} {tx rd : Value} (h : Rdt b r g w W l x tx rd) (hk : Keeps [] W W') : Rdt b r g w W' l x tx rd :=
  ⟨hk.heap h.ev (by simp), h.rdr.new hk, h.keeps.step hk (by simp), h.br, h.bg, h.nb⟩
theorem evC_size (x : Ev) (tx rd : Value) : (evC x tx rd).size = 19 := rfl
/-- What a step over the event ends in. -/
def Fills (b r g : Nat) (w : World) (o : Option (Ev × Wds)) (tx rd : Value) (e : Ending) (W : World) : Prop :=
  match o with
  | none => e = PanicE ∧ Keeps [b, r] w W ∧ ∃ cs, W.heap[b]? = some (.cells cs 32 (0, 0)) ∧ cs.size = 19
  | some (x, l) => e = .returned (.tuple #[]) ∧ Rdt b r g w W l x tx rd
/-- Where a reader's step panics. -/
theorem Rdt.bad {b r g : Nat} {w W W' : World} {l : Wds} {x : Ev} {tx rd : Value} (h : Rdt b r g w W l x tx rd) (hk : Keeps [r] W W') : Keeps [b, r] w W' ∧ ∃ cs, W'.heap[b]? = some (.cells cs 32 (0, 0)) ∧ cs.size = 19 :=
  ⟨h.keeps.step hk (by simp), _, hk.heap h.ev (by simpa using h.br), evC_size _ _ _⟩
theorem wrap8 {n : Int} (h0 : 0 ≤ n) (h1 : n < 256) : IntKind.u8.wrap n = n := by simp [IntKind.wrap, IntKind.bits, IntKind.signed]; omega
theorem wrap16 {n : Int} (h0 : 0 ≤ n) (h1 : n < 65536) : IntKind.u16.wrap n = n := by simp [IntKind.wrap, IntKind.bits, IntKind.signed]; omega
set_option maxHeartbeats 2000000 in
set_option maxRecDepth 100000 in
theorem who6_any (w0 w : World) (b r g : Nat) (l : Wds) (x : Ev) (tx rd : Value) (h : Rdt b r g w0 w l x tx rd) :
    Calls Tryz.prog 54 #[.pointer (some ⟨r, 0, none⟩), .pointer (some ⟨b, 0, none⟩)] w (Fills b r g w0 ((rdWho l).map fun p => ({ x with c := p.1, id := p.2.1 }, p.2.2)) tx rd) := by
  have h1 := number_any w r g l h.rdr 15 (by decide) (by decide)
  obtain ⟨O, hO⟩ : ∃ O, ((rdWho l).map fun p => (({ x with c := p.1, id := p.2.1 } : Ev), p.2.2)) = O := ⟨_, rfl⟩
  rw [hO]
  have HO := Lib.hid hO
  have H := Lib.hid h
  clear h hO
  go_enter Tryz.func54, Tryz.ntmps54
  go_wp2_with fail
  refine h1.mono ?_; intro e w1 hR
  clear h1
  cases e1 : rdNum 15 l with
  | none =>
    rw [e1] at hR
    obtain ⟨rfl, hk1⟩ := hR
    obtain rfl : O = none := by rw [← HO.out]; simp [rdWho, e1]
    unfold PanicE
    clear HO
    go_wp2_with fail
    exact ⟨rfl, rfl, H.out.bad hk1⟩
  | some p =>
    obtain ⟨c, l1⟩ := p
    rw [e1] at hR
    obtain ⟨rfl, hr1, hk1⟩ := hR
    have cb := (rdNum_ok e1).2
    have wc := wrap8 cb.1 (by omega)
    have R1 := Lib.hid (H.out.reads hr1 hk1)
    have E1 := Lib.hid e1
    clear H hr1 hk1 cb e1
    go_wp2_with ((with_reducible apply wpList_put_cell (T := 5) 1 { x with c := c } tx rd); exact rfl; exact rfl; exact R1.out.ev; kernel_rfl; exact rfl; exact rfl; exact rfl)
    intro W2 hb2 hk2
    have R2 := Lib.hid (R1.out.puts hb2 hk2)
    clear R1 hb2 hk2 wc
    go_wp2_with fail
    refine (number_any _ r g l1 R2.out.rdr 65535 (by decide) (by decide)).mono ?_; intro e w3 hR
    cases e2 : rdNum 65535 l1 with
    | none =>
      rw [e2] at hR
      obtain ⟨rfl, hk3⟩ := hR
      obtain rfl : O = none := by rw [← HO.out]; simp [rdWho, E1.out, e2]
      unfold PanicE
      clear HO
      go_wp2_with fail
      exact ⟨rfl, rfl, R2.out.bad hk3⟩
    | some q =>
      obtain ⟨i, l2⟩ := q
      rw [e2] at hR
      obtain ⟨rfl, hr3, hk3⟩ := hR
      have ib := (rdNum_ok e2).2
      have wi := wrap16 ib.1 (by omega)
      have R3 := Lib.hid (R2.out.reads hr3 hk3)
      obtain rfl : O = some ({ x with c := c, id := i }, l2) := by rw [← HO.out]; simp [rdWho, E1.out, e2]
      clear R2 hr3 hk3 ib HO E1 e2
      go_wp2_with ((with_reducible apply wpList_put_cell (T := 22) 2 { x with c := c, id := i } tx rd); exact rfl; exact rfl; exact R3.out.ev; kernel_rfl; exact rfl; exact rfl; exact rfl)
      intro W4 hb4 hk4
      have R4 := Lib.hid (R3.out.puts hb4 hk4)
      clear R3 hb4 hk4
      go_wp2_with fail
      go_end0
      exact ⟨rfl, R4.out⟩
end Go.Proofs.YtffldnjjijckcaaGreatDoor
