/-
  The program's table in memory: rows, a map of when each begins, the last moment.
-/
import Derived.Maps.OwnSet
import Derived.DeepKeys4
import Derived.Test.YtjiglbjpmclncaaO07
set_option linter.unusedSimpArgs false
set_option linter.unusedVariables false
namespace Go.Proofs.Ytjiglbjpmclncaa
open Go.RowKit Go.Maps
/-- When the row with an ID begins. -/
def frOf (id : Int) : List Rw → Option Int
  | [] => none
  | r :: l => if r.id = id then some r.fr else frOf id l
theorem frOf_app (id : Int) (A B : List Rw) : frOf id (A ++ B) = match frOf id A with | none => frOf id B | some f => some f := by
  induction A with
  | nil => rfl
  | cons a r ih =>
    show (if a.id = id then some a.fr else frOf id (r ++ B)) = match (if a.id = id then some a.fr else frOf id r) with | none => frOf id B | some f => some f
    by_cases h : a.id = id
    · rw [if_pos h, if_pos h]
    · rw [if_neg h, if_neg h, ih]
theorem frOf_none {id : Int} : ∀ {L : List Rw}, frOf id L = none ↔ ∀ r ∈ L, r.id ≠ id
  | [] => by simp [frOf]
  | a :: r => by
    unfold frOf
    by_cases h : a.id = id
    · rw [if_pos h]; simp [h]
    · rw [if_neg h, frOf_none]; simp [h]
theorem frOf_idx {id : Int} : ∀ {L : List Rw}, frOf id L = match rwIdx id L with | none => none | some i => (L[i]?).map (·.fr)
  | [] => rfl
  | a :: r => by
    unfold frOf rwIdx
    by_cases h : a.id = id
    · rw [if_pos h, if_pos h]; rfl
    · rw [if_neg h, if_neg h, frOf_idx]
      cases rwIdx id r <;> simp
theorem frOf_set {id : Int} : ∀ {L : List Rw} {i : Nat} (hi : i < L.length) {x : Rw}, x.id = L[i].id → x.fr = L[i].fr → frOf id (L.set i x) = frOf id L
  | [], i, hi, _, _, _ => by simp at hi
  | a :: r, 0, hi, x, h1, h2 => by
    simp only [List.getElem_cons_zero] at h1 h2
    simp only [List.set_cons_zero]
    unfold frOf
    rw [h1, h2]
  | a :: r, i + 1, hi, x, h1, h2 => by
    simp only [List.getElem_cons_succ] at h1 h2
    simp only [List.set_cons_succ]
    unfold frOf
    rw [frOf_set (by simpa using hi) h1 h2]
/-- A map of when the rows begin. -/
def Holds (D : DataW Unit) (L : List Rw) : Prop := ∀ id : Int, Maps.has D (.int .u16 id) = (frOf id L).isSome ∧ ∀ f, frOf id L = some f → ∀ z, D.atKey (.int .u16 id) z = .lit (.int .i64 f)
theorem Holds.nil : Holds (.map []) [] := fun _ => ⟨rfl, fun _ h => by cases h⟩
theorem Holds.congr {D : DataW Unit} {L L' : List Rw} (h : Holds D L) (he : ∀ id, frOf id L' = frOf id L) : Holds D L' := fun id => by rw [he]; exact h id
theorem lit_ne {a b : Int} (h : a ≠ b) : (Lit.int .u16 a) ≠ Lit.int .u16 b := fun e => h (by injection e)
theorem Holds.put {D : DataW Unit} {L : List Rw} (hD : IsMap D) (h : Holds D L) (r : Rw) (hn : frOf r.id L = none) : Holds (D.put (.int .u16 r.id) (.lit (.int .i64 r.fr))) (L ++ [r]) := by
  intro id
  rw [frOf_app]
  by_cases e : id = r.id
  · subst e
    have hs : frOf r.id [r] = some r.fr := by simp [frOf]
    rw [hn, has_put_same hD (show WideAt.IsKeyLit (.int .u16 r.id) from trivial), hs]
    refine ⟨rfl, fun f hf z => ?_⟩
    obtain rfl := Option.some.inj hf
    exact atKey_put_same hD (show WideAt.IsKeyLit (.int .u16 r.id) from trivial) _ _
  · have hs : frOf id [r] = none := by simp [frOf, Ne.symm e]
    rw [hs]
    have e2 : (match frOf id L with | none => none | some f => some f) = frOf id L := by cases frOf id L <;> rfl
    rw [e2, has_put_other (lit_ne e)]
    refine ⟨(h id).1, fun f hf z => ?_⟩
    rw [atKey_put_other (lit_ne e)]
    exact (h id).2 f hf z
theorem Holds.del {D : DataW Unit} {A B : List Rw} {r : Rw} (h : Holds D (A ++ r :: B)) (hne : ∀ x ∈ A ++ B, x.id ≠ r.id) : Holds (D.del (.int .u16 r.id)) (A ++ B) := by
  intro id
  by_cases e : id = r.id
  · subst e
    rw [frOf_none.2 hne, has_del_same]
    exact ⟨rfl, fun f hf => by cases hf⟩
  · have e2 : frOf id (A ++ B) = frOf id (A ++ r :: B) := by
      rw [frOf_app, frOf_app]
      cases frOf id A with
      | some f => rfl
      | none => show frOf id B = if r.id = id then _ else frOf id B; rw [if_neg (Ne.symm e)]
    rw [e2, has_del_other (lit_ne e)]
    refine ⟨(h id).1, fun f hf z => ?_⟩
    rw [atKey_del_other (lit_ne e)]
    exact (h id).2 f hf z
theorem Try.keyed16 : Keyed Try.prog 28 := int_keyed Try.underlying28
theorem key16 {id : Int} (h0 : 0 ≤ id) (h1 : id < 65536) : keyOf Try.prog 28 (.int .u16 id) = some (.int .u16 id) := keyOf_int_mk Try.underlying28 (WalkArith.wf_u16 (by omega))
/-- The program's map. -/
def FromAt (w : World) (mb : Nat) (L : List Rw) (last : Int) : Prop := ∃ n D, w.ownsMap Try.prog 28 (plainElem Try.prog 3) mb n D ∧ (n : Int) ≤ last + 1 ∧ Holds D L
theorem ownsFrom_at {w w' : World} {b n : Nat} {D : DataW Unit} (h : w.ownsMap Try.prog 28 (plainElem Try.prog 3) b n D) (hb : w'.heap[b]? = w.heap[b]?) : w'.ownsMap Try.prog 28 (plainElem Try.prog 3) b n D := by
  obtain ⟨es, clock, h1, h2⟩ := h
  exact ⟨es, clock, hb.trans h1, h2⟩
theorem FromAt.lt {w : World} {mb : Nat} {L : List Rw} {last : Int} (h : FromAt w mb L last) : mb < w.heap.size := by obtain ⟨n, D, h1, _⟩ := h; exact h1.lt
theorem FromAt.keeps {w w' : World} {F : List Nat} {mb : Nat} {L : List Rw} {last : Int} (h : FromAt w mb L last) (hk : Keeps F w w') (hF : mb ∉ F) : FromAt w' mb L last := by
  obtain ⟨n, D, h1, h2⟩ := h
  exact ⟨n, D, ownsFrom_at h1 (hk.block mb h1.lt hF), h2⟩
theorem FromAt.congr {w : World} {mb : Nat} {L L' : List Rw} {last last' : Int} (h : FromAt w mb L last) (he : ∀ id, frOf id L' = frOf id L) (hl : last ≤ last') : FromAt w mb L' last' := by
  obtain ⟨n, D, h1, h2, h3⟩ := h
  exact ⟨n, D, h1, by omega, h3.congr he⟩
theorem Keeps.turned {F : List Nat} {a w w' : World} {b : Nat} (h : Keeps F a w) (ht : w.mapTurned w' b) (hb : b ∈ F ∨ a.heap.size ≤ b) : Keeps F a w' := by
  have hg := ht.grown
  refine ⟨hg.os.trans h.os, hg.tape.trans h.tape, hg.output.trans h.output, Nat.le_trans h.size hg.size, fun k hk hF => ?_⟩
  rw [← h.block k hk hF]
  refine hg.block k (Nat.lt_of_lt_of_le hk h.size) (fun e => ?_)
  simp at e
  subst e
  rcases hb with h1 | h1
  · exact hF h1
  · omega
/-- What the program keeps: rows, the map, the last moment. -/
structure KAt (kb mb : Nat) (w : World) (v : Value) (t : Tb) : Prop where
  kept : w.heap[kb]? = some (.cells #[v, .map (some mb), .int .i64 t.last] 77 (0, 0))
  row : rkP.Own 0 w v t.L
  map : FromAt w mb t.L t.last
  ap : kb ≠ mb
  dis : ∀ q ∈ own v, q ≠ kb ∧ q ≠ mb
theorem KAt.keeps {kb mb : Nat} {w w' : World} {v : Value} {t : Tb} {F : List Nat} (h : KAt kb mb w v t) (hk : Keeps F w w') (h1 : kb ∉ F) (h2 : mb ∉ F) (h3 : ∀ q ∈ own v, q ∉ F) : KAt kb mb w' v t :=
  ⟨hk.heap h.kept h1, h.row.keeps hk h3, h.map.keeps hk h2, h.ap, h.dis⟩
theorem KAt.new {kb mb : Nat} {w w' : World} {v : Value} {t : Tb} (h : KAt kb mb w v t) (hk : Keeps [] w w') : KAt kb mb w' v t := h.keeps hk (by simp) (by simp) (by simp)
theorem KAt.cells {kb mb : Nat} {w : World} {v : Value} {t : Tb} (h : KAt kb mb w v t) : w.cell? ⟨kb, 0, none⟩ = some v ∧ w.cell? ⟨kb, 1, none⟩ = some (.map (some mb)) ∧ w.cell? ⟨kb, 2, none⟩ = some (.int .i64 t.last) := by
  refine ⟨?_, ?_, ?_⟩ <;> simp [World.cell?, h.kept]
theorem KAt.lt {kb mb : Nat} {w : World} {v : Value} {t : Tb} (h : KAt kb mb w v t) : kb < w.heap.size := lt_of_block h.kept
/-- What a call that may change it tells and leaves. -/
def KPost (kb mb : Nat) (w : World) (v : Value) (t : Tb) (w' : World) : Prop := ∃ v', KAt kb mb w' v' t ∧ Keeps (kb :: mb :: own v) w w' ∧ FSub (own v') (own v) w.heap.size
/-- A table: a pointer to what is kept. -/
structure TAt (b kb mb : Nat) (w : World) (v : Value) (t : Tb) : Prop where
  top : w.heap[b]? = some (.cells #[.pointer (some ⟨kb, 0, none⟩)] 63 (0, 0))
  at_ : KAt kb mb w v t
  ap : b ≠ kb ∧ b ≠ mb
  dis : b ∉ own v
theorem TAt.keeps {b kb mb : Nat} {w w' : World} {v : Value} {t : Tb} {F : List Nat} (h : TAt b kb mb w v t) (hk : Keeps F w w') (h0 : b ∉ F) (h1 : kb ∉ F) (h2 : mb ∉ F) (h3 : ∀ q ∈ own v, q ∉ F) : TAt b kb mb w' v t :=
  ⟨hk.heap h.top h0, h.at_.keeps hk h1 h2 h3, h.ap, h.dis⟩
theorem TAt.new {b kb mb : Nat} {w w' : World} {v : Value} {t : Tb} (h : TAt b kb mb w v t) (hk : Keeps [] w w') : TAt b kb mb w' v t := h.keeps hk (by simp) (by simp) (by simp) (by simp)
theorem TAt.cell {b kb mb : Nat} {w : World} {v : Value} {t : Tb} (h : TAt b kb mb w v t) : w.cell? ⟨b, 0, none⟩ = some (.pointer (some ⟨kb, 0, none⟩)) := by simp [World.cell?, h.top]
end Go.Proofs.Ytjiglbjpmclncaa
/-
  The program's table: the small functions, the search.
-/
namespace Go.Proofs.Ytjiglbjpmclncaa
open Go.RowKit Go.Maps
set_option maxHeartbeats 8000000
set_option maxRecDepth 100000
theorem tbMade_yes (w : World) {b kb : Nat} (hc : w.cell? ⟨b, 0, none⟩ = some (.pointer (some ⟨kb, 0, none⟩))) :
    Calls Try.prog 29 #[.pointer (some ⟨b, 0, none⟩)] w fun e w' => e = .returned (.bool true) ∧ w' = w := by
  go_enter Try.func29, Try.ntmps29
  go_wp2_with fail
  go_ret
  exact ⟨rfl, rfl⟩
theorem kpRises_any (w : World) {kb mb : Nat} {v : Value} {t : Tb} (hK : KAt kb mb w v t) (hlo : -1 ≤ t.last) (at_ : Int) :
    Calls Try.prog 35 #[.pointer (some ⟨kb, 0, none⟩), .int .i64 at_] w fun e w' => e = .returned (.bool (tbMay t at_)) ∧ w' = w := by
  obtain ⟨-, -, c2⟩ := hK.cells
  clear hK
  have he : tbMay t at_ = (decide (t.last < at_) && decide (at_ ≤ 2305843009213693952)) := by
    unfold tbMay rwMost
    by_cases h : t.last < at_
    · have : 0 ≤ at_ := by omega
      simp [h, this]
    · simp [h]
  rw [he]
  clear he
  by_cases h1 : t.last < at_
  · by_cases h2 : at_ ≤ 2305843009213693952
    · go_enter Try.func35, Try.ntmps35
      go_wp2_with fail
      go_ret
      exact ⟨by simp [h1, h2], rfl⟩
    · go_enter Try.func35, Try.ntmps35
      go_wp2_with fail
      go_ret
      exact ⟨by simp [h2], rfl⟩
  · go_enter Try.func35, Try.ntmps35
    go_wp2_with fail
    go_ret
    exact ⟨by simp; omega, rfl⟩
def cmpOf (x y : Int) : Int := if x < y then -1 else if y < x then 1 else 0
theorem isNaN_any (w : World) (x : Int) : Calls Try.prog 54 #[.int .i64 x] w fun e w' => e = .returned (.bool false) ∧ w' = w := by
  have hx : (x != x) = false := by simp
  go_enter Try.func54, Try.ntmps54
  go_wp2_with fail
  go_ret
  exact ⟨rfl, rfl⟩
theorem cmpInt_any (w : World) (x y : Int) : Calls Try.prog 53 #[.int .i64 x, .int .i64 y] w fun e w' => e = .returned (.int .i64 (cmpOf x y)) ∧ w' = w := by
  have H1 := Lib.hid (isNaN_any w x)
  have H2 := Lib.hid (isNaN_any w y)
  by_cases h1 : x < y
  · rw [show cmpOf x y = -1 from by simp [cmpOf, h1]]
    go_enter Try.func53, Try.ntmps53
    go_wp2_with fail
    refine (H1.out).mono ?_; rintro e w1 ⟨rfl, rfl⟩
    go_wp2_with fail
    refine (H2.out).mono ?_; rintro e w2 ⟨rfl, rfl⟩
    clear H1 H2
    go_wp2_with fail
    go_ret
    exact ⟨rfl, rfl⟩
  · by_cases h2 : y < x
    · rw [show cmpOf x y = 1 from by simp [cmpOf, h1, h2]]
      go_enter Try.func53, Try.ntmps53
      go_wp2_with fail
      refine (H1.out).mono ?_; rintro e w1 ⟨rfl, rfl⟩
      go_wp2_with fail
      refine (H2.out).mono ?_; rintro e w2 ⟨rfl, rfl⟩
      clear H1 H2
      go_wp2_with fail
      go_ret
      exact ⟨rfl, rfl⟩
    · rw [show cmpOf x y = 0 from by simp [cmpOf, h1, h2]]
      go_enter Try.func53, Try.ntmps53
      go_wp2_with fail
      refine (H1.out).mono ?_; rintro e w1 ⟨rfl, rfl⟩
      go_wp2_with fail
      refine (H2.out).mono ?_; rintro e w2 ⟨rfl, rfl⟩
      clear H1 H2
      go_wp2_with fail
      go_ret
      exact ⟨rfl, rfl⟩
theorem soughtCmp_any (w : World) {v : Value} {L : List Rw} (hrow : rkP.Own 0 w v L) (f : Int) (k : Nat) (hk : k < L.length) (hfew : L.length ≤ 1000000) :
    Calls Try.prog 48 #[.agg #[v, .int .i64 f], .int .i64 k] w fun e w' => e = .returned (.int .i64 (cmpOf f L[k].fr)) ∧ Keeps [] w w' := by
  obtain ⟨g, cap, rfl, hc, hm, -, hg, hcell⟩ := hrow.at (fun e => by rw [e] at hk; simp at hk)
  have HR := Lib.hid (show w.cell? ⟨g, k * 12 + 10, none⟩ = some (.int .i64 L[k].fr) from (rw_cells (show w.rangeAt g (k * 12) (rwC L[k]) from hcell k hk)).2.2.2.1)
  clear hcell hrow
  generalize L[k].fr = y at *
  generalize L.length = n at *
  have hka := (Keeps.refl [] w).alloc (.cells #[.slice (some ⟨g, 0, none⟩) n cap, .int .i64 f] 87)
  have hB := heap_alloc_new w (.cells #[.slice (some ⟨g, 0, none⟩) n cap, .int .i64 f] 87)
  have HKA := Lib.hid hka; have HB := Lib.hid hB
  clear hka hB
  go_enter Try.func48, Try.ntmps48
  go_wp2_with fail
  generalize w.alloc _ = W at *
  generalize w.heap.size = B at *
  obtain ⟨S, hS⟩ : ∃ S : World → Prop, S = fun y => Keeps [] W y := ⟨_, rfl⟩
  have HSE := Lib.hid hS
  have hSD : S W.drew := by rw [hS]; exact (Keeps.refl _ _).drew
  have HS0 := Lib.hid (fun (w' : World) (h : S w') => show w'.cell? ⟨B, 0, none⟩ = some (.slice (some ⟨g, 0, none⟩) n cap) from by rw [hS] at h; exact h.cell (by simp [World.cell?, HB.out]) (by simp))
  have HS1 := Lib.hid (fun (w' : World) (h : S w') => show w'.cell? ⟨B, 1, none⟩ = some (.int .i64 f) from by rw [hS] at h; exact h.cell (by simp [World.cell?, HB.out]) (by simp))
  have HS2 := Lib.hid (fun (w' : World) (h : S w') => show w'.cell? ⟨g, k * 12 + 10, none⟩ = some (.int .i64 y) from by rw [hS] at h; exact h.cell (HKA.out.cell HR.out (by simp)) (by simp))
  clear hS
  refine wp_region_noPanic ?_
  refine wp_region_held_drew (S := S) (by kernel_rfl) hSD (fun hHeld => ?_)
  apply wpAnyH_take (i := 0)
  · simp only [List.getElem?_toArray]; rfl
  · kernel_rfl
  · kernel_rfl
  · kernel_rfl
  · exact fun _ _ _ h => h
  · exact Or.inl ⟨by rfl, by intro w hSw; go_simp; try with_reducible rfl⟩
  · assumption
  try simp only [Act.put, List.setIfInBounds_toArray, List.set_cons_zero, List.set_cons_succ]
  apply wpAnyH_take (i := 1)
  · simp only [List.getElem?_toArray]; rfl
  · kernel_rfl
  · kernel_rfl
  · kernel_rfl
  · exact fun _ _ _ h => h
  · exact Or.inl ⟨by rfl, by intro w hSw; have q0 := HS1.out w hSw; go_simp; try with_reducible rfl⟩
  · assumption
  try simp only [Act.put, List.setIfInBounds_toArray, List.set_cons_zero, List.set_cons_succ]
  apply wpAnyH_take (i := 2)
  · simp only [List.getElem?_toArray]; rfl
  · kernel_rfl
  · kernel_rfl
  · kernel_rfl
  · exact fun _ _ _ h => h
  · exact Or.inl ⟨by rfl, by intro w hSw; go_simp; try with_reducible rfl⟩
  · assumption
  try simp only [Act.put, List.setIfInBounds_toArray, List.set_cons_zero, List.set_cons_succ]
  apply wpAnyH_take (i := 3)
  · simp only [List.getElem?_toArray]; rfl
  · kernel_rfl
  · kernel_rfl
  · kernel_rfl
  · exact fun _ _ _ h => h
  · exact Or.inl ⟨by rfl, by intro w hSw; have q0 := HS0.out w hSw; go_simp; try with_reducible rfl⟩
  · assumption
  try simp only [Act.put, List.setIfInBounds_toArray, List.set_cons_zero, List.set_cons_succ]
  apply wpAnyH_take (i := 4)
  · simp only [List.getElem?_toArray]; rfl
  · kernel_rfl
  · kernel_rfl
  · kernel_rfl
  · exact fun _ _ _ h => h
  · exact Or.inl ⟨by rfl, by intro w hSw; go_simp; try with_reducible rfl⟩
  · assumption
  try simp only [Act.put, List.setIfInBounds_toArray, List.set_cons_zero, List.set_cons_succ]
  apply wpAnyH_take (i := 5)
  · simp only [List.getElem?_toArray]; rfl
  · kernel_rfl
  · kernel_rfl
  · kernel_rfl
  · exact fun _ _ _ h => h
  · exact Or.inl ⟨by rfl, by intro w hSw; go_simp; try with_reducible rfl⟩
  · assumption
  try simp only [Act.put, List.setIfInBounds_toArray, List.set_cons_zero, List.set_cons_succ]
  apply wpAnyH_take (i := 6)
  · simp only [List.getElem?_toArray]; rfl
  · kernel_rfl
  · kernel_rfl
  · kernel_rfl
  · exact fun _ _ _ h => h
  · exact Or.inl ⟨by rfl, by intro w hSw; go_simp; try with_reducible rfl⟩
  · assumption
  try simp only [Act.put, List.setIfInBounds_toArray, List.set_cons_zero, List.set_cons_succ]
  apply wpAnyH_take (i := 7)
  · simp only [List.getElem?_toArray]; rfl
  · kernel_rfl
  · kernel_rfl
  · kernel_rfl
  · exact fun _ _ _ h => h
  · exact Or.inl ⟨by rfl, by intro w hSw; have q0 := HS2.out w hSw; go_simp; try with_reducible rfl⟩
  · assumption
  try simp only [Act.put, List.setIfInBounds_toArray, List.set_cons_zero, List.set_cons_succ]
  apply wpAnyH_ready (rs := [8])
  · kernel_rfl
  · simp
  apply AllReadyH.cons (hs := AllReadyH.nil)
  · simp only [List.getElem?_toArray]; rfl
  intro K hK
  rw [if_pos (by rfl)]
  refine wp_call8 53 _ _ rfl [.int .i64 f, .int .i64 y] rfl Try.func53 (by kernel_rfl) (by kernel_rfl) ((cmpInt_any _ f y).mono ?_)
  rintro e w3 ⟨rfl, rfl⟩
  refine ⟨_, rfl, ?_⟩
  refine hK.out _ _ ?_ (fun hHeld => ?_)
  · exact (by rw [HSE.out]; exact (Keeps.refl _ _).drew)
  clear hK K
  try simp only [Act.put, List.setIfInBounds_toArray, List.set_cons_zero, List.set_cons_succ]
  apply wpAnyH_take (i := 9)
  · simp only [List.getElem?_toArray]; rfl
  · kernel_rfl
  · kernel_rfl
  · kernel_rfl
  · exact fun _ _ _ h => h
  · exact Or.inl ⟨by rfl, by intro w hSw; go_simp; try with_reducible rfl⟩
  · assumption
  try simp only [Act.put, List.setIfInBounds_toArray, List.set_cons_zero, List.set_cons_succ]
  refine wpAnyH_done (by kernel_rfl) ?_ _
  refine NoPanic.normal ?_
  clear hHeld hSD HS0 HS1 HS2
  go_wp2_with fail
  go_ret
  exact ⟨rfl, HKA.out.trans (Keeps.refl _ _).drew (FSub.refl _ _)⟩
end Go.Proofs.Ytjiglbjpmclncaa
/-
  The program's table: the search by when a row begins.
-/
namespace Go.Proofs.Ytjiglbjpmclncaa
open Go.RowKit Go.Maps
set_option maxHeartbeats 8000000
set_option maxRecDepth 100000
theorem mid_int {lo hi n : Nat} (h1 : lo < hi) (h2 : hi ≤ n) (h3 : n ≤ 1000000) : ∃ h : Nat, lo ≤ h ∧ h < hi ∧ (h : Int) = ((lo : Int) + hi) / 2 := ⟨(lo + hi) / 2, by omega, by omega, by omega⟩
theorem cmpOf_at {L : List Rw} (hup : L.Pairwise fun a b => a.fr < b.fr) {i h : Nat} (hi : i < L.length) (hh : h < L.length) : cmpOf L[i].fr L[h].fr = if h < i then 1 else if h = i then 0 else -1 := by
  unfold cmpOf
  have hp := List.pairwise_iff_getElem.1 hup
  by_cases h1 : h < i
  · have := hp h i hh hi h1
    rw [if_pos h1, if_neg (by omega), if_pos this]
  · by_cases h2 : h = i
    · subst h2
      simp
    · have := hp i h hi hh (by omega)
      rw [if_neg h1, if_neg h2, if_pos this]
theorem sortFind_any (w : World) {v : Value} {L : List Rw} (hrow : rkP.Own 0 w v L) (hfew : L.length ≤ 1000000) (hup : L.Pairwise fun a b => a.fr < b.fr) (i : Nat) (hi : i < L.length) :
    Calls Try.prog 47 #[.int .i64 L.length, .func (.func 48) #[.agg #[v, .int .i64 L[i].fr]] #[]] w fun e w' => e = .returned (.tuple #[.int .i64 i, .bool true]) ∧ Keeps [] w w' := by
  have HC := Lib.hid (fun (w' : World) (hk : Keeps [] w w') (h : Nat) (hh : h < L.length) => show Calls Try.prog 48 #[.agg #[v, .int .i64 L[i].fr], .int .i64 h] w' fun e w2 => e = .returned (.int .i64 (if h < i then 1 else if h = i then 0 else -1)) ∧ Keeps [] w' w2 from by
    have := soughtCmp_any w' (hrow.keeps hk (by simp)) L[i].fr h hh hfew
    rw [cmpOf_at hup hi hh] at this
    exact this)
  clear hrow hup
  generalize L[i].fr = f at *
  generalize hn : L.length = n at *
  clear hn
  go_enter Try.func47, Try.ntmps47
  go_wp2_with fail
  go_loopw [4, 6, 7] (fun a b _ wr => ∃ lo hi2 : Nat, a = .int .i64 lo ∧ b = .int .i64 hi2 ∧ lo ≤ i ∧ i ≤ hi2 ∧ hi2 ≤ n ∧ Keeps [] w wr) (fun a b _ _ => (intOf b).toNat - (intOf a).toNat)
  case atStart => exact ⟨0, n, rfl, rfl, by omega, by omega, by omega, Keeps.refl _ _⟩
  case round =>
    obtain ⟨lo, hi2, rfl, rfl, hlo, hih, hhn, hkw⟩ := hrel
    have HKW := Lib.hid hkw
    clear hkw
    by_cases hlt : lo < hi2
    · obtain ⟨h, hh1, hh2, hh3⟩ := mid_int hlt hhn hfew
      have HQ := Lib.hid (HC.out _ HKW.out h (by omega))
      go_wp2_with fail
      rw [← hh3]
      refine (HQ.out).mono ?_; rintro e w2 ⟨rfl, hk2⟩
      have HK2 := Lib.hid (HKW.out.trans hk2 (FSub.refl _ _))
      clear hk2 HQ HC hh3
      by_cases hc : h < i
      · rw [if_pos hc]
        go_wp2_with fail
        go_roundw
        case rel => exact ⟨h + 1, hi2, by go_num, rfl, by omega, hih, hhn, HK2.out⟩
        case measure => simp [intOf]; omega
      · rw [if_neg hc]
        by_cases he : h = i
        · rw [if_pos he]
          go_wp2_with fail
          go_roundw
          case rel => exact ⟨lo, h, rfl, by go_num, hlo, by omega, by omega, HK2.out⟩
          case measure => simp [intOf]; omega
        · rw [if_neg he]
          go_wp2_with fail
          go_roundw
          case rel => exact ⟨lo, h, rfl, by go_num, hlo, by omega, by omega, HK2.out⟩
          case measure => simp [intOf]; omega
    · obtain rfl : lo = i := by omega
      have HQ := Lib.hid (HC.out _ HKW.out lo (by omega))
      rw [if_neg (Nat.lt_irrefl lo), if_pos rfl] at HQ
      clear HC
      go_wp2_with fail
      refine (HQ.out).mono ?_; rintro e w2 ⟨rfl, hk2⟩
      have HK2 := Lib.hid (HKW.out.trans hk2 (FSub.refl _ _))
      clear hk2 HQ HKW
      go_wp2_with fail
      exact bodyPost_ret (results_tmp2 rfl _ _ _) rfl ⟨rfl, HK2.out⟩
end Go.Proofs.Ytjiglbjpmclncaa
/-
  The program's table: where a row stands.
-/
namespace Go.Proofs.Ytjiglbjpmclncaa
open Go.RowKit Go.Maps
section
variable {ops : Array Oper} {rest : List Oper} {a : Act} {w : World} {Q : Exit → Act → World → Prop}
/-- A whole row is read; is put into a block of its own. -/
theorem wpList_loadP {dst : Option Tmp} {ty : TypeId} {pos : String} {after : Array Edge} {gd : Option (Nat × Bool)} {x : Operand} {g off : Nat} {y : Rw}
    (hw : Region.wanted { dst := dst, op := .load 42 x, type := ty, pos := pos, after := after, guard := gd } (yielded ops a.tmps) = true)
    (hx : a.eval x = .pointer (some ⟨g, off, none⟩)) (hr : w.rangeAt g off (rwC y)) (h : wpList Try.prog ops Q rest (a.put dst (.agg (rwC y).toArray)) w) :
    wpList Try.prog ops Q ({ dst := dst, op := .load 42 x, type := ty, pos := pos, after := after, guard := gd } :: rest) a w :=
  rkP.wpList_load Try.underlying42 rfl rfl hw hx hr h
theorem wpList_putP {dst : Option Tmp} {ty : TypeId} {pos : String} {after : Array Edge} {x y : Operand} {g : Nat} {old r : Rw} {t : TypeId}
    (hx : a.eval x = .pointer (some ⟨g, 0, none⟩)) (hy : a.eval y = .agg (rwC r).toArray) (hg : w.heap[g]? = some (.cells (rwC old).toArray t (0, 0)))
    (h : ∀ W, W.heap[g]? = some (.cells (rwC r).toArray t (0, 0)) → Keeps [g] w W → wpList Try.prog ops Q rest (a.put dst undef) W) :
    wpList Try.prog ops Q ({ dst := dst, op := .store 42 x y, type := ty, pos := pos, after := after, guard := none } :: rest) a w :=
  wpList_store_row rfl 42 x y rfl g (rwC r).toArray hx hy t (rwC old).toArray hg (by kernel_rfl) rfl (by rw [← Array.all_toList, List.all_eq_true]; exact rwC_one r) (h _ (setRow_heap w g (rwC old).toArray (rwC r).toArray t (0, 0) hg) ((Keeps.refl [g] w).setRow g _ (.inl (by simp))))
end
section
variable {o : Oper} {a : Act} {w : World} {K : Act → World → Prop} {Q : Exit → Act → World → Prop}
theorem wp_putP {x y : Operand} {g : Nat} {old r : Rw} {t : TypeId} (ho : o.op = .store 42 x y)
    (hx : a.eval x = .pointer (some ⟨g, 0, none⟩)) (hy : a.eval y = .agg (rwC r).toArray) (hg : w.heap[g]? = some (.cells (rwC old).toArray t (0, 0)))
    (h : ∀ W, W.heap[g]? = some (.cells (rwC r).toArray t (0, 0)) → Keeps [g] w W → K (a.put o.dst undef) W) : o.wp Try.prog a w K Q :=
  wp_store_row 42 x y ho g (rwC r).toArray hx hy t (rwC old).toArray hg (by kernel_rfl) rfl (by rw [← Array.all_toList, List.all_eq_true]; exact rwC_one r) (h _ (setRow_heap w g (rwC old).toArray (rwC r).toArray t (0, 0) hg) ((Keeps.refl [g] w).setRow g _ (.inl (by simp))))
end
theorem results_rowP {fn : Func} {p : Tmp} (h : fn.results = #[.cell p 42]) (tmps : Array Value) (w : World) (b : Nat) {x : Rw} {t : TypeId}
    (hp : tmps.getD p undef = .pointer (some ⟨b, 0, none⟩)) (hb : w.heap[b]? = some (.cells (rwC x).toArray t (0, 0))) : (results fn tmps).run Try.prog w = .ok (.agg (rwC x).toArray) w :=
  results_cell_row h tmps w b t _ _ _ hp hb Try.underlying42 rfl (by kernel_rfl)
theorem results_rowP2 {fn : Func} {p u : Tmp} (h : fn.results = #[.cell p 42, .tmp u]) (tmps : Array Value) (w : World) (b : Nat) {x : Rw} {t : TypeId}
    (hp : tmps.getD p undef = .pointer (some ⟨b, 0, none⟩)) (hb : w.heap[b]? = some (.cells (rwC x).toArray t (0, 0))) : (results fn tmps).run Try.prog w = .ok (.tuple #[.agg (rwC x).toArray, tmps.getD u undef]) w := by
  have h1 : (loadVar 42 ⟨b, 0, none⟩).run Try.prog w = .ok (.agg (rwC x).toArray) w := run_loadVar_row w b t 42 _ _ _ hb Try.underlying42 rfl (by kernel_rfl)
  rw [results_cell_tmp h, hp]
  simp [asAddr, h1, Result.andThen]
theorem results_row2P {fn : Func} {p u : Tmp} (h : fn.results = #[.tmp u, .cell p 42]) (tmps : Array Value) (w : World) (b : Nat) {x : Rw} {t : TypeId}
    (hp : tmps.getD p undef = .pointer (some ⟨b, 0, none⟩)) (hb : w.heap[b]? = some (.cells (rwC x).toArray t (0, 0))) : (results fn tmps).run Try.prog w = .ok (.tuple #[tmps.getD u undef, .agg (rwC x).toArray]) w := by
  have h1 : (loadVar 42 ⟨b, 0, none⟩).run Try.prog w = .ok (.agg (rwC x).toArray) w := run_loadVar_row w b t 42 _ _ _ hb Try.underlying42 rfl (by kernel_rfl)
  have hp' : tmps[p]?.getD undef = .pointer (some ⟨b, 0, none⟩) := by simpa using hp
  simp only [results, h]
  simp [Sem.run_bind, Result.andThen, hp', asAddr, h1]
set_option maxHeartbeats 8000000
set_option maxRecDepth 100000
theorem tbNone_any (w : World) : Calls Try.prog 33 #[] w fun e w' => e = .returned (.agg (rwC rwZero).toArray) ∧ Keeps [] w w' := by
  have HR := Lib.hid (heap_alloc_new w (.cells #[.int .u8 0, .int .u16 0, .int .u8 0, .int .u8 0, .int .u8 0, .int .u16 0, .int .u16 0, .int .u8 0, .int .u16 0, .int .u8 0, .int .i64 0, .int .i64 0] 42))
  have HK := Lib.hid ((Keeps.refl [] w).alloc (.cells #[.int .u8 0, .int .u16 0, .int .u8 0, .int .u8 0, .int .u8 0, .int .u16 0, .int .u16 0, .int .u8 0, .int .u16 0, .int .u8 0, .int .i64 0, .int .i64 0] 42))
  go_enter Try.func33, Try.ntmps33
  go_wp2_with (first | ((with_reducible refine wpList_putP (old := rwZero) (r := rwZero) ?_ ?_ HR.out ?_); exact rfl; exact rfl))
  intro W hb hk
  have HK2 := Lib.hid (HK.out.trans hk (fun q hq => .inr (by simp at hq; omega)))
  go_wp2_with fail
  exact bodyPost_ret (results_rowP (x := rwZero) rfl _ _ _ rfl hb) rfl ⟨rfl, HK2.out⟩
theorem zero_int (w : World) : (zeroValue 3).run Try.prog w = .ok (.int .i64 0) w := by kernel_rfl
theorem kpFind_any (w : World) {kb mb : Nat} {v : Value} {t : Tb} (hK : KAt kb mb w v t) (hok : TbOk t) (hfew : t.L.length ≤ 1000000) (id : Int) (h0 : 0 ≤ id) (h1 : id < 65536) :
    Calls Try.prog 32 #[.pointer (some ⟨kb, 0, none⟩), .int .u16 id] w fun e w' => (match rwIdx id t.L with | none => e = .returned (.tuple #[.int .i64 0, .agg (rwC rwZero).toArray]) | some i => ∃ r, t.L[i]? = some r ∧ e = .returned (.tuple #[.int .i64 i, .agg (rwC r).toArray])) ∧ Keeps [] w w' := by
  have hk0 := (Keeps.refl [] w).alloc (.cells #[.int .u8 0, .int .u16 0, .int .u8 0, .int .u8 0, .int .u8 0, .int .u16 0, .int .u16 0, .int .u8 0, .int .u16 0, .int .u8 0, .int .i64 0, .int .i64 0] 42)
  have hR : (w.alloc (.cells #[.int .u8 0, .int .u16 0, .int .u8 0, .int .u8 0, .int .u8 0, .int .u16 0, .int .u16 0, .int .u8 0, .int .u16 0, .int .u8 0, .int .i64 0, .int .i64 0] 42)).heap[w.heap.size]? = some (.cells (rwC rwZero).toArray 42 (0, 0)) := heap_alloc_new w (.cells #[.int .u8 0, .int .u16 0, .int .u8 0, .int .u8 0, .int .u8 0, .int .u16 0, .int .u16 0, .int .u8 0, .int .u16 0, .int .u8 0, .int .i64 0, .int .i64 0] 42)
  have hK0 := hK.new hk0
  have HK0 := Lib.hid hk0; have HR := Lib.hid hR; have HA := Lib.hid hK0
  obtain ⟨c0, c1, -⟩ := hK0.cells
  obtain ⟨n, D, hown, -, hD⟩ := hK0.map
  obtain ⟨av, cp, rfl, hc, hm⟩ := hK0.row.shape
  have HOWN := Lib.hid hown; have HKEY := Lib.hid (key16 h0 h1)
  have HB := Lib.hid (show ∀ q, q = kb ∨ q ∈ own (.slice av t.L.length cp) → q < w.heap.size from fun q hq => hq.elim (fun h => h ▸ hK.lt) (fun h => (row_base hK.row q h).2))
  clear hK hK0 hk0 hR hown h0 h1
  have hd := hD id
  rw [frOf_idx] at hd
  cases hi : rwIdx id t.L with
  | none =>
    rw [hi] at hd
    have hhas := hd.1
    have HNO := Lib.hid (fun w' => tbNone_any w')
    simp only [Option.isSome_none] at hhas
    clear hd hD hi
    go_enter Try.func32, Try.ntmps32
    go_wp2_with (at_lookup; refine wpList_lookup_own_ok_int _ rfl _ _ 75 rfl 28 3 .i64 Try.keyed16 Try.underlying75 Try.underlying3 (zero_int _) mb n D rfl HOWN.out _ _ rfl HKEY.out ?_; intro c hat hwc; rw [hhas])
    generalize w.alloc _ = W at *
    generalize hRe : w.heap.size = R at *
    have HRE := Lib.hid (Nat.le_of_eq hRe)
    refine (HNO.out W).mono ?_; rintro e w1 ⟨rfl, hk1⟩
    have HR1 := Lib.hid (hk1.heap HR.out (by simp))
    have HK1 := Lib.hid (HK0.out.trans hk1 (FSub.refl _ _))
    clear hk1 HNO hRe
    go_wp2_with (first | ((with_reducible refine wpList_putP (old := rwZero) (r := rwZero) ?_ ?_ HR1.out ?_); exact rfl; exact rfl))
    intro W2 h2 hk2
    have HK2 := Lib.hid (HK1.out.trans hk2 (fun q hq => .inr (by simp at hq; have := HRE.out; omega)))
    clear hk2
    go_wp2_with fail
    exact bodyPost_ret (results_row2P (x := rwZero) rfl _ _ _ rfl h2) rfl ⟨rfl, HK2.out⟩
  | some i =>
    obtain ⟨hil, -, -⟩ := rwIdx_some hi
    rw [hi] at hd
    simp only [List.getElem?_eq_getElem hil, Option.map_some, Option.isSome_some] at hd
    have hhas := hd.1
    have HAT := Lib.hid (hd.2 _ rfl)
    have HF := Lib.hid (fun (w' : World) (hk : Keeps [] (w.alloc (.cells #[.int .u8 0, .int .u16 0, .int .u8 0, .int .u8 0, .int .u8 0, .int .u16 0, .int .u16 0, .int .u8 0, .int .u16 0, .int .u8 0, .int .i64 0, .int .i64 0] 42)) w') => sortFind_any w' (HA.out.new hk).row hfew (hok.up.imp And.left) i hil)
    obtain ⟨g, cap, hgv, -, -, -, -, hcell⟩ := HA.out.row.at (fun e => by rw [e] at hil; simp at hil)
    simp at hgv
    obtain ⟨rfl, -, -⟩ := hgv
    have HRW := Lib.hid (hcell i hil)
    have HIL := Lib.hid hil
    have HB2 := Lib.hid (And.intro (HB.out kb (.inl rfl)) (HB.out g (.inr (by simp [own, Value.ownBlock]))))
    clear HB hd hD hi hcell
    go_enter Try.func32, Try.ntmps32
    go_wp2_with (at_lookup; refine wpList_lookup_own_ok_int _ rfl _ _ 75 rfl 28 3 .i64 Try.keyed16 Try.underlying75 Try.underlying3 (zero_int _) mb n D rfl HOWN.out _ _ rfl HKEY.out ?_; intro c hat hwc; rw [hhas])
    obtain rfl : c = t.L[i].fr := by
      have e := hat.symm.trans (HAT.out _)
      injection e with e
      injection e
    generalize w.alloc _ = W at *
    generalize hRe : w.heap.size = R at *
    have HRE := Lib.hid (Nat.le_of_eq hRe)
    clear hat hwc HAT HOWN HKEY hRe
    obtain ⟨S, hS⟩ : ∃ S : World → Prop, S = fun y => Keeps [] W y := ⟨_, rfl⟩
    have HSE := Lib.hid hS
    have hSD : S W.drew := by rw [hS]; exact (Keeps.refl _ _).drew
    have HS0 := Lib.hid (fun (w' : World) (h : S w') => show w'.cell? ⟨kb, 0, none⟩ = some (.slice (some ⟨g, 0, none⟩) t.L.length cp) from by rw [hS] at h; exact h.cell c0 (by simp))
    have HRES := Lib.hid (List.getElem?_eq_getElem hil)
    clear hS c1 HA
    generalize t.L[i] = r at *
    generalize hn : t.L.length = N at *
    clear hn
    refine wp_region_noPanic ?_
    refine wp_region_held_drew (S := S) (by kernel_rfl) hSD (fun hHeld => ?_)
    apply wpAnyH_take (i := 0)
    · simp only [List.getElem?_toArray]; rfl
    · kernel_rfl
    · kernel_rfl
    · kernel_rfl
    · exact fun _ _ _ h => h
    · exact Or.inl ⟨by rfl, by intro w hSw; go_simp; try with_reducible rfl⟩
    · assumption
    try simp only [Act.put, List.setIfInBounds_toArray, List.set_cons_zero, List.set_cons_succ]
    apply wpAnyH_take (i := 1)
    · simp only [List.getElem?_toArray]; rfl
    · kernel_rfl
    · kernel_rfl
    · kernel_rfl
    · exact fun _ _ _ h => h
    · exact Or.inl ⟨by rfl, by intro w hSw; go_simp; try with_reducible rfl⟩
    · assumption
    try simp only [Act.put, List.setIfInBounds_toArray, List.set_cons_zero, List.set_cons_succ]
    apply wpAnyH_take (i := 2)
    · simp only [List.getElem?_toArray]; rfl
    · kernel_rfl
    · kernel_rfl
    · kernel_rfl
    · exact fun _ _ _ h => h
    · exact Or.inl ⟨by rfl, by intro w hSw; go_simp; try with_reducible rfl⟩
    · assumption
    try simp only [Act.put, List.setIfInBounds_toArray, List.set_cons_zero, List.set_cons_succ]
    apply wpAnyH_take (i := 3)
    · simp only [List.getElem?_toArray]; rfl
    · kernel_rfl
    · kernel_rfl
    · kernel_rfl
    · exact fun _ _ _ h => h
    · exact Or.inl ⟨by rfl, by intro w hSw; have q0 := HS0.out w hSw; go_simp; try with_reducible rfl⟩
    · assumption
    try simp only [Act.put, List.setIfInBounds_toArray, List.set_cons_zero, List.set_cons_succ]
    apply wpAnyH_take (i := 4)
    · simp only [List.getElem?_toArray]; rfl
    · kernel_rfl
    · kernel_rfl
    · kernel_rfl
    · exact fun _ _ _ h => h
    · exact Or.inl ⟨by rfl, by intro w hSw; go_simp; try with_reducible rfl⟩
    · assumption
    try simp only [Act.put, List.setIfInBounds_toArray, List.set_cons_zero, List.set_cons_succ]
    apply wpAnyH_take (i := 5)
    · simp only [List.getElem?_toArray]; rfl
    · kernel_rfl
    · kernel_rfl
    · kernel_rfl
    · exact fun _ _ _ h => h
    · exact Or.inl ⟨by rfl, by intro w hSw; go_simp; try with_reducible rfl⟩
    · assumption
    try simp only [Act.put, List.setIfInBounds_toArray, List.set_cons_zero, List.set_cons_succ]
    apply wpAnyH_take (i := 6)
    · simp only [List.getElem?_toArray]; rfl
    · kernel_rfl
    · kernel_rfl
    · kernel_rfl
    · exact fun _ _ _ h => h
    · exact Or.inl ⟨by rfl, by intro w hSw; go_simp; try with_reducible rfl⟩
    · assumption
    try simp only [Act.put, List.setIfInBounds_toArray, List.set_cons_zero, List.set_cons_succ]
    apply wpAnyH_take (i := 7)
    · simp only [List.getElem?_toArray]; rfl
    · kernel_rfl
    · kernel_rfl
    · kernel_rfl
    · exact fun _ _ _ h => h
    · exact Or.inl ⟨by rfl, by intro w hSw; go_simp; try with_reducible rfl⟩
    · assumption
    try simp only [Act.put, List.setIfInBounds_toArray, List.set_cons_zero, List.set_cons_succ]
    apply wpAnyH_take (i := 8)
    · simp only [List.getElem?_toArray]; rfl
    · kernel_rfl
    · kernel_rfl
    · kernel_rfl
    · exact fun _ _ _ h => h
    · exact Or.inl ⟨by rfl, by intro w hSw; have q0 := HS0.out w hSw; go_simp; try with_reducible rfl⟩
    · assumption
    try simp only [Act.put, List.setIfInBounds_toArray, List.set_cons_zero, List.set_cons_succ]
    apply wpAnyH_take (i := 9)
    · simp only [List.getElem?_toArray]; rfl
    · kernel_rfl
    · kernel_rfl
    · kernel_rfl
    · exact fun _ _ _ h => h
    · exact Or.inl ⟨by rfl, by intro w hSw; go_simp; try with_reducible rfl⟩
    · assumption
    try simp only [Act.put, List.setIfInBounds_toArray, List.set_cons_zero, List.set_cons_succ]
    apply wpAnyH_take (i := 10)
    · simp only [List.getElem?_toArray]; rfl
    · kernel_rfl
    · kernel_rfl
    · kernel_rfl
    · exact fun _ _ _ h => h
    · exact Or.inl ⟨by rfl, by intro w hSw; go_simp; try with_reducible rfl⟩
    · assumption
    try simp only [Act.put, List.setIfInBounds_toArray, List.set_cons_zero, List.set_cons_succ]
    apply wpAnyH_take (i := 11)
    · simp only [List.getElem?_toArray]; rfl
    · kernel_rfl
    · kernel_rfl
    · kernel_rfl
    · exact fun _ _ _ h => h
    · exact Or.inl ⟨by rfl, by intro w hSw; go_simp; try with_reducible rfl⟩
    · assumption
    try simp only [Act.put, List.setIfInBounds_toArray, List.set_cons_zero, List.set_cons_succ]
    apply wpAnyH_ready (rs := [12])
    · kernel_rfl
    · simp
    apply AllReadyH.cons (hs := AllReadyH.nil)
    · simp only [List.getElem?_toArray]; rfl
    intro K hK
    rw [if_pos (by rfl)]
    refine wp_call8 47 _ _ rfl [.int .i64 N, .func (.func 48) #[.agg #[.slice (some ⟨g, 0, none⟩) N cp, .int .i64 r.fr]] #[]] rfl Try.func47 (by kernel_rfl) (by kernel_rfl) ((HF.out _ (Keeps.refl _ _).drew).mono ?_)
    rintro e w3 ⟨rfl, hk3⟩
    refine ⟨_, rfl, ?_⟩
    have HK3 := Lib.hid ((Keeps.refl [] W).drew.trans hk3 (FSub.refl _ _))
    clear hk3 HF
    refine hK.out _ _ ?_ (fun hHeld => ?_)
    · exact (by rw [HSE.out]; exact HK3.out)
    clear hK K
    try simp only [Act.put, List.setIfInBounds_toArray, List.set_cons_zero, List.set_cons_succ]
    apply wpAnyH_take (i := 13)
    · simp only [List.getElem?_toArray]; rfl
    · kernel_rfl
    · kernel_rfl
    · kernel_rfl
    · exact fun _ _ _ h => h
    · exact Or.inl ⟨by rfl, by intro w hSw; go_simp; try with_reducible rfl⟩
    · assumption
    try simp only [Act.put, List.setIfInBounds_toArray, List.set_cons_zero, List.set_cons_succ]
    apply wpAnyH_take (i := 14)
    · simp only [List.getElem?_toArray]; rfl
    · kernel_rfl
    · kernel_rfl
    · kernel_rfl
    · exact fun _ _ _ h => h
    · exact Or.inl ⟨by rfl, by intro w hSw; go_simp; try with_reducible rfl⟩
    · assumption
    try simp only [Act.put, List.setIfInBounds_toArray, List.set_cons_zero, List.set_cons_succ]
    apply wpAnyH_take (i := 15)
    · simp only [List.getElem?_toArray]; rfl
    · kernel_rfl
    · kernel_rfl
    · kernel_rfl
    · exact fun _ _ _ h => h
    · exact Or.inl ⟨by rfl, by intro w hSw; go_simp; try with_reducible rfl⟩
    · assumption
    try simp only [Act.put, List.setIfInBounds_toArray, List.set_cons_zero, List.set_cons_succ]
    apply wpAnyH_take (i := 16)
    · simp only [List.getElem?_toArray]; rfl
    · kernel_rfl
    · kernel_rfl
    · kernel_rfl
    · exact fun _ _ _ h => h
    · exact Or.inl ⟨by rfl, by intro w hSw; go_simp; try with_reducible rfl⟩
    · assumption
    try simp only [Act.put, List.setIfInBounds_toArray, List.set_cons_zero, List.set_cons_succ]
    refine wpAnyH_done (by kernel_rfl) ?_ _
    refine NoPanic.normal ?_
    clear hSD HS0 HSE
    have c3 := HK3.out.cell c0 (by simp)
    have HR3 := Lib.hid (HK3.out.heap HR.out (by simp))
    have HRW3 := Lib.hid (show w3.rangeAt g (i * 12) (rwC r) from fun j u hj => HK3.out.cell (HRW.out j u hj) (by simp))
    have HK03 := Lib.hid (HK0.out.trans HK3.out (FSub.refl _ _))
    have hlt2 : (i : Int) < N := by omega
    clear c0 HRW HR HK0 HK3
    go_wp2_with fail
    obtain ⟨S2, hS⟩ : ∃ S2 : World → Prop, S2 = fun y => Keeps [R] w3 y := ⟨_, rfl⟩
    have HSE := Lib.hid hS
    have hSD : S2 w3.drew := by rw [hS]; exact (Keeps.refl _ _).drew
    have HS0 := Lib.hid (fun (w' : World) (h : S2 w') => show w'.cell? ⟨kb, 0, none⟩ = some (.slice (some ⟨g, 0, none⟩) N cp) from by rw [hS] at h; exact h.cell c3 (by simp; have := HB2.out; have := HRE.out; omega))
    have HS1 := Lib.hid (fun (w' : World) (h : S2 w') => show w'.rangeAt g (i * 12) (rwC r) from by rw [hS] at h; exact fun j u hj => h.cell (HRW3.out j u hj) (by simp; have := HB2.out; have := HRE.out; omega))
    clear hS
    refine wp_region_noPanic ?_
    refine wp_region_held_drew (S := S2) (by kernel_rfl) hSD (fun hHeld => ?_)
    apply wpAnyH_take (i := 0)
    · simp only [List.getElem?_toArray]; rfl
    · kernel_rfl
    · kernel_rfl
    · kernel_rfl
    · exact fun _ _ _ h => h
    · exact Or.inl ⟨by rfl, by intro w hSw; go_simp; try with_reducible rfl⟩
    · assumption
    try simp only [Act.put, List.setIfInBounds_toArray, List.set_cons_zero, List.set_cons_succ]
    apply wpAnyH_take (i := 1)
    · simp only [List.getElem?_toArray]; rfl
    · kernel_rfl
    · kernel_rfl
    · kernel_rfl
    · exact fun _ _ _ h => h
    · exact Or.inl ⟨by rfl, by intro w hSw; go_simp; try with_reducible rfl⟩
    · assumption
    try simp only [Act.put, List.setIfInBounds_toArray, List.set_cons_zero, List.set_cons_succ]
    apply wpAnyH_take (i := 2)
    · simp only [List.getElem?_toArray]; rfl
    · kernel_rfl
    · kernel_rfl
    · kernel_rfl
    · exact fun _ _ _ h => h
    · exact Or.inl ⟨by rfl, by intro w hSw; go_simp; try with_reducible rfl⟩
    · assumption
    try simp only [Act.put, List.setIfInBounds_toArray, List.set_cons_zero, List.set_cons_succ]
    apply wpAnyH_take (i := 3)
    · simp only [List.getElem?_toArray]; rfl
    · kernel_rfl
    · kernel_rfl
    · kernel_rfl
    · exact fun _ _ _ h => h
    · exact Or.inl ⟨by rfl, by intro w hSw; go_simp; try with_reducible rfl⟩
    · assumption
    try simp only [Act.put, List.setIfInBounds_toArray, List.set_cons_zero, List.set_cons_succ]
    apply wpAnyH_take (i := 4)
    · simp only [List.getElem?_toArray]; rfl
    · kernel_rfl
    · kernel_rfl
    · kernel_rfl
    · exact fun _ _ _ h => h
    · exact Or.inl ⟨by rfl, by intro w hSw; have q0 := HS0.out w hSw; go_simp; try with_reducible rfl⟩
    · assumption
    try simp only [Act.put, List.setIfInBounds_toArray, List.set_cons_zero, List.set_cons_succ]
    apply wpAnyH_take (i := 5)
    · simp only [List.getElem?_toArray]; rfl
    · kernel_rfl
    · kernel_rfl
    · kernel_rfl
    · exact fun _ _ _ h => h
    · exact Or.inl ⟨by rfl, by intro w hSw; go_simp; try with_reducible rfl⟩
    · assumption
    try simp only [Act.put, List.setIfInBounds_toArray, List.set_cons_zero, List.set_cons_succ]
    apply wpAnyH_take (i := 6)
    · simp only [List.getElem?_toArray]; rfl
    · kernel_rfl
    · kernel_rfl
    · kernel_rfl
    · exact fun _ _ _ h => h
    · exact Or.inl ⟨by rfl, by intro w hSw; go_simp; try with_reducible rfl⟩
    · assumption
    try simp only [Act.put, List.setIfInBounds_toArray, List.set_cons_zero, List.set_cons_succ]
    apply wpAnyH_take (i := 7)
    · simp only [List.getElem?_toArray]; rfl
    · kernel_rfl
    · kernel_rfl
    · kernel_rfl
    · exact fun _ _ _ h => h
    · exact yields_rowP r (by rfl) _ rfl g (i * 12) rfl HS1.out
    · assumption
    try simp only [Act.put, List.setIfInBounds_toArray, List.set_cons_zero, List.set_cons_succ]
    apply wpAnyH_take (i := 8)
    · simp only [List.getElem?_toArray]; rfl
    · kernel_rfl
    · kernel_rfl
    · kernel_rfl
    · exact fun _ _ _ h => h
    · exact Or.inl ⟨by rfl, by intro w hSw; go_simp; try with_reducible rfl⟩
    · assumption
    try simp only [Act.put, List.setIfInBounds_toArray, List.set_cons_zero, List.set_cons_succ]
    apply wpAnyH_ready (rs := [9])
    · kernel_rfl
    · simp
    apply AllReadyH.cons (hs := AllReadyH.nil)
    · simp only [List.getElem?_toArray]; rfl
    intro K hK
    rw [if_pos (by rfl)]
    refine wp_putP (g := R) (old := rwZero) (r := r) rfl rfl rfl HR3.out ?_
    intro W4 h4 hk4
    refine hK.out _ _ ?_ (fun hHeld => ?_)
    · exact (by rw [HSE.out]; exact ((Keeps.refl [] w3).drew.more (G := [R]) (by simp)).step hk4 (fun q hq => hq))
    clear hK K
    try simp only [Act.put, List.setIfInBounds_toArray, List.set_cons_zero, List.set_cons_succ]
    refine wpAnyH_done (by kernel_rfl) ?_ _
    refine NoPanic.normal ?_
    have HFIN := Lib.hid (HK03.out.trans (((Keeps.refl [] w3).drew.more (G := [R]) (by simp)).step hk4 (fun q hq => hq)) (fun q hq => .inr (by simp at hq; have := HRE.out; omega)))
    clear hHeld hSD HS0 HS1 HSE hk4
    go_wp2_with fail
    exact bodyPost_ret (results_row2P (x := r) rfl _ _ _ rfl h4) rfl ⟨⟨r, HRES.out, rfl⟩, HFIN.out⟩
end Go.Proofs.Ytjiglbjpmclncaa
/-
  The program's table: a row more.
-/
namespace Go.Proofs.Ytjiglbjpmclncaa
open Go.RowKit Go.Maps
section
variable {o : Oper} {a : Act} {w : World} {K : Act → World → Prop} {Q : Exit → Act → World → Prop}
theorem wp_put1c {x y : Operand} {b i : Nat} (T : TypeId) (v : Value) (hi : (Try.prog.info? T).map (·.size) = some 1) (ho : o.op = .store T x y) (hx : a.eval x = .pointer (some ⟨b, i, none⟩)) (hy : a.eval y = v) (h1 : v.oneCell' = true)
    (hc : (w.cell? ⟨b, i, none⟩).isSome = true) (hf : w.frozen? ⟨b, i, none⟩ = false) (h : K (a.put o.dst undef) (w.setCell ⟨b, i, none⟩ v)) : o.wp Try.prog a w K Q := by
  have hrun := run_put1 (P := Try.prog) w b i T v hi h1 hc hf
  unfold Oper.wp execOp
  simp only [ho, hx, hy, Instr.storeAt, Instr.sureAddr, Sem.run_bind, Sem.run_pure, Result.andThen_ok, hrun]
  exact h
theorem wp_mapUpdate_run {m x y : Operand} (T : TypeId) {vm vx vy : Value} {w' : World} (ho : o.op = .mapUpdate T m x y) (hm : a.eval m = vm) (hx : a.eval x = vx) (hy : a.eval y = vy)
    (hr : (Instr.mapUpdate T vm vx vy).run Try.prog w = .ok () w') (h : K (a.put o.dst undef) w') : o.wp Try.prog a w K Q := by
  unfold Oper.wp
  simp [execOp, ho, hm, hx, hy, hr, Result.andThen]
  exact h
theorem wp_delete_run {m x : Operand} (T k : TypeId) {vm vx : Value} {w' : World} (ho : o.op = .call { callee := .builtin .delete, args := #[m, x], argTypes := #[T, k] }) (hm : a.eval m = vm) (hx : a.eval x = vx)
    (hr : (Builtin.delete_ #[T, k] o.type #[vm, vx]).run Try.prog w = .ok (.tuple #[]) w') (h : K (a.put o.dst (.tuple #[])) w') : o.wp Try.prog a w K Q := by
  unfold Oper.wp
  simp [execOp, ho, resolve, invoke, builtin, hm, hx, hr, Result.andThen]
  exact h
theorem wp_build_rowP {y : Operand} {x : Rw} (ho : o.op = .buildSlice 49 1 #[(0, y)]) (hy : a.eval y = .agg (rwC x).toArray)
    (h : K (a.put o.dst (.slice (some ⟨w.heap.size, 0, none⟩) 1 1)) (w.alloc (.cells (rwC x).toArray 42))) : o.wp Try.prog a w K Q :=
  rkP.wp_build1 y ho hy (by decide) h
end
set_option maxHeartbeats 8000000
set_option maxRecDepth 100000
theorem kpAdd_any (w : World) {kb mb : Nat} {v : Value} {t : Tb} (hK : KAt kb mb w v t) (hok : TbOk t) (hfew : t.L.length ≤ 1000000) (r : Rw) (h0 : 0 ≤ r.id ∧ r.id < 65536) (hno : rwIdx r.id t.L = none) (hfr : t.last < r.fr ∧ r.fr ≤ rwMost) :
    Calls Try.prog 36 #[.pointer (some ⟨kb, 0, none⟩), .agg (rwC r).toArray] w fun e w' => e = .returned (.tuple #[]) ∧ KPost kb mb w v ⟨t.L ++ [r], r.fr⟩ w' := by
  have hk0 := (Keeps.refl [] w).alloc (.cells (rwC r).toArray 42)
  have hX := heap_alloc_new w (.cells (rwC r).toArray 42)
  have hK0 := hK.new hk0
  obtain ⟨n, D, hown, hnl, hD⟩ := hK0.map
  have HKM := Lib.hid hK.ap
  have HBK := Lib.hid (show w.heap.size ≠ kb from fun e => by have := hK.lt; omega)
  have HBM := Lib.hid (show w.heap.size ≠ mb from fun e => by have := hK.map.lt; omega)
  have HOW := Lib.hid (show w.heap.size ∉ own v from fun hq => by have := (row_base hK.row _ hq).2; omega)
  have HOWN := Lib.hid hown; have HNN := Lib.hid hnl; have HD := Lib.hid hD; have HKEY := Lib.hid (key16 h0.1 h0.2)
  have HNL := Lib.hid (show (n : Int) ≤ rwMost + 1 by have := hok.hi; omega)
  have HWF := Lib.hid (show (Lit.int .i64 r.fr).wf = true from WalkArith.wf_i64 (by have := hok.lo; have := hfr.2; unfold rwMost at this; omega))
  have HM0 := Lib.hid hown.isMap
  have HNO := Lib.hid (show frOf r.id t.L = none by rw [frOf_idx, hno])
  have HFR := Lib.hid hfr
  have HK0 := Lib.hid hk0; have HX := Lib.hid hX
  obtain ⟨a0, cp, hvs, hc, hm⟩ := hK.row.shape
  have HA := Lib.hid hK0
  have HLT := Lib.hid hK.lt
  clear hK hK0 hk0 hX hown hnl hD hok
  subst hvs
  go_enter Try.func36, Try.ntmps36
  go_wp2_with fail
  generalize w.alloc _ = W at *
  generalize hBe : w.heap.size = B at *
  have HBE := Lib.hid (Nat.le_of_eq hBe)
  clear hBe
  obtain ⟨v', w3, hrun, hrow, hk2, hf2⟩ := rkP.append1 W.drew 0 (Nat.zero_le _) (.slice a0 t.L.length cp) t.L (HA.out.row.keeps ((Keeps.refl [] W).drew) (by simp)) r (by omega)
  have hk12 : Keeps (own (.slice a0 t.L.length cp)) W w3 := ((Keeps.refl [] W).drew.more (by simp)).step hk2 (fun q hq => hq)
  have HC3 := Lib.hid (hk12.heap HA.out.kept (fun hq => (HA.out.dis kb hq).1 rfl))
  have HRUN := Lib.hid (show (Builtin.append_ #[49, 49] 49 #[.slice a0 t.L.length cp, .slice (some ⟨W.drew.heap.size, 0, none⟩) 1 1]).run Try.prog (W.drew.alloc (.cells (rwC r).toArray 42)) = .ok v' w3 from hrun)
  have HK12 := Lib.hid hk12; have HROW := Lib.hid hrow
  have HF2 := Lib.hid (FSub.mono hf2 HK0.out.size)
  have HND := Lib.hid (show ∀ q ∈ own v', q ≠ kb ∧ q ≠ mb from fun q hq => by
    rcases hf2 q hq with h | h
    · exact HA.out.dis q h
    · have h3 := HA.out.lt; have h4 := HA.out.map.lt
      have h5 : W.drew.heap.size = W.heap.size := rfl
      omega)
  have HBF := Lib.hid (show B ∉ kb :: own (.slice a0 t.L.length cp) from fun hq => by
    rcases List.mem_cons.1 hq with h | h
    · exact HBK.out h
    · exact HOW.out h)
  have HMF := Lib.hid (show mb ∉ kb :: own (.slice a0 t.L.length cp) from fun hq => by
    rcases List.mem_cons.1 hq with h | h
    · exact HKM.out h.symm
    · exact (HA.out.dis mb h).2 rfl)
  have HKB := Lib.hid (((Keeps.refl [] W).drew).alloc (.cells (rwC r).toArray 42))
  have hv : W.cell? ⟨kb, 0, none⟩ = some (.slice a0 t.L.length cp) := HA.out.cells.1
  obtain ⟨a9, c9, rfl, hc9, hm9⟩ := hrow.shape
  have HCA := Lib.hid (show (W.drew.alloc (.cells (rwC r).toArray 42)).cell? ⟨kb, 0, none⟩ = some (.slice a0 t.L.length cp) from HKB.out.cell hv (by simp))
  have hs1 : W.drew.cell? ⟨kb, 0, none⟩ = some (.slice a0 t.L.length cp) := hv
  clear hrun hk12 hrow hf2 hk2 hv HA
  obtain ⟨S, hS⟩ : ∃ S : World → Prop, S = fun y => Keeps (kb :: own (.slice a0 t.L.length cp)) W y := ⟨_, rfl⟩
  have HSE := Lib.hid hS
  have hSD : S W.drew := by rw [hS]; exact (Keeps.refl _ _).drew
  have HS1 := Lib.hid (fun (w' : World) (h : S w') => show w'.rangeAt B 0 (rwC r) from by rw [hS] at h; exact fun i u hi => h.cell (by have := HX.out; simp only [World.cell?, this, Nat.zero_add]; simpa using hi) HBF.out)
  clear hS
  refine wp_region_noPanic ?_
  refine wp_region_held_drew (S := S) (by kernel_rfl) hSD (fun hHeld => ?_)
  apply wpAnyH_take (i := 0)
  · simp only [List.getElem?_toArray]; rfl
  · kernel_rfl
  · kernel_rfl
  · kernel_rfl
  · exact fun _ _ _ h => h
  · exact Or.inl ⟨by rfl, by intro w hSw; go_simp; try with_reducible rfl⟩
  · assumption
  try simp only [Act.put, List.setIfInBounds_toArray, List.set_cons_zero, List.set_cons_succ]
  apply wpAnyH_take (i := 1)
  · simp only [List.getElem?_toArray]; rfl
  · kernel_rfl
  · kernel_rfl
  · kernel_rfl
  · exact fun _ _ _ h => h
  · exact Or.inl ⟨by rfl, by intro w hSw; go_simp; try with_reducible rfl⟩
  · assumption
  try simp only [Act.put, List.setIfInBounds_toArray, List.set_cons_zero, List.set_cons_succ]
  apply wpAnyH_take (i := 2)
  · simp only [List.getElem?_toArray]; rfl
  · kernel_rfl
  · kernel_rfl
  · kernel_rfl
  · exact fun _ _ _ h => h
  · exact Or.inl ⟨by rfl, by intro w hSw; go_simp; try with_reducible rfl⟩
  · assumption
  try simp only [Act.put, List.setIfInBounds_toArray, List.set_cons_zero, List.set_cons_succ]
  apply wpAnyH_take (i := 3)
  · simp only [List.getElem?_toArray]; rfl
  · kernel_rfl
  · kernel_rfl
  · kernel_rfl
  · exact fun _ _ _ h => h
  · exact Or.inl ⟨by rfl, by intro w hSw; go_simp; try with_reducible rfl⟩
  · assumption
  try simp only [Act.put, List.setIfInBounds_toArray, List.set_cons_zero, List.set_cons_succ]
  apply wpAnyH_take (i := 5)
  · simp only [List.getElem?_toArray]; rfl
  · kernel_rfl
  · kernel_rfl
  · kernel_rfl
  · exact fun _ _ _ h => h
  · exact yields_rowP r (by rfl) _ rfl B 0 rfl HS1.out
  · assumption
  try simp only [Act.put, List.setIfInBounds_toArray, List.set_cons_zero, List.set_cons_succ]
  apply wpAnyH_ready (rs := [4, 6])
  · kernel_rfl
  · simp
  apply AllReadyH.cons
  · simp only [List.getElem?_toArray]; rfl
  · intro K hK
    rw [if_pos (by rfl)]
    go_wp2_with fail
    refine hK.out _ _ ?_ (fun hHeld => ?_)
    · exact (by rw [HSE.out]; exact (Keeps.refl _ _).drew)
    clear hK K
    try simp only [Act.put, List.setIfInBounds_toArray, List.set_cons_zero, List.set_cons_succ]
    apply wpAnyH_ready (rs := [6])
    · kernel_rfl
    · simp
    apply AllReadyH.cons (hs := AllReadyH.nil)
    · simp only [List.getElem?_toArray]; rfl
    intro K hK
    rw [if_pos (by rfl)]
    refine wp_build_rowP (x := r) rfl rfl ?_
    refine hK.out _ _ ?_ (fun hHeld => ?_)
    · exact (by rw [HSE.out]; exact HKB.out.more (by simp))
    clear hK K
    try simp only [Act.put, List.setIfInBounds_toArray, List.set_cons_zero, List.set_cons_succ]
    apply wpAnyH_ready (rs := [7])
    · kernel_rfl
    · simp
    apply AllReadyH.cons (hs := AllReadyH.nil)
    · simp only [List.getElem?_toArray]; rfl
    intro K hK
    rw [if_pos (by rfl)]
    refine wp_append_run _ _ 49 rfl _ _ _ w3 rfl rfl HRUN.out ?_
    refine hK.out _ _ ?_ (fun hHeld => ?_)
    · exact (by rw [HSE.out]; exact HK12.out.more (fun q hq => List.mem_cons_of_mem _ hq))
    clear hK K
    try simp only [Act.put, List.setIfInBounds_toArray, List.set_cons_zero, List.set_cons_succ]
    apply wpAnyH_take (i := 8)
    · simp only [List.getElem?_toArray]; rfl
    · kernel_rfl
    · kernel_rfl
    · kernel_rfl
    · exact fun _ _ _ h => h
    · exact Or.inl ⟨by rfl, by intro w hSw; go_simp; try with_reducible rfl⟩
    · assumption
    try simp only [Act.put, List.setIfInBounds_toArray, List.set_cons_zero, List.set_cons_succ]
    apply wpAnyH_take (i := 9)
    · simp only [List.getElem?_toArray]; rfl
    · kernel_rfl
    · kernel_rfl
    · kernel_rfl
    · exact fun _ _ _ h => h
    · exact Or.inl ⟨by rfl, by intro w hSw; go_simp; try with_reducible rfl⟩
    · assumption
    try simp only [Act.put, List.setIfInBounds_toArray, List.set_cons_zero, List.set_cons_succ]
    apply wpAnyH_ready (rs := [10])
    · kernel_rfl
    · simp
    apply AllReadyH.cons (hs := AllReadyH.nil)
    · simp only [List.getElem?_toArray]; rfl
    intro K hK
    rw [if_pos (by rfl)]
    refine wp_put1c 49 (.slice a9 (t.L ++ [r]).length c9) (b := kb) (i := 0) (by kernel_rfl) rfl rfl rfl rfl (by simp [World.cell?, HC3.out]) (by simp [World.frozen?, HC3.out]) ?_
    refine hK.out _ _ ?_ (fun hHeld => ?_)
    · exact (by rw [HSE.out]; exact (HK12.out.more (fun q hq => List.mem_cons_of_mem _ hq)).setCell _ _ (.inl (by simp)))
    clear hK K
    try simp only [Act.put, List.setIfInBounds_toArray, List.set_cons_zero, List.set_cons_succ]
    refine wpAnyH_done (by kernel_rfl) ?_ _
    refine NoPanic.normal ?_
    have k4 : Keeps [kb] w3 (w3.setCell ⟨kb, 0, none⟩ (.slice a9 (t.L ++ [r]).length c9)) := (Keeps.refl [kb] w3).setCell _ _ (.inl (by simp))
    have HC4 := Lib.hid (show (w3.setCell ⟨kb, 0, none⟩ (.slice a9 (t.L ++ [r]).length c9)).heap[kb]? = some (.cells #[.slice a9 (t.L ++ [r]).length c9, .map (some mb), .int .i64 t.last] 77 (0, 0)) from by rw [heap_setCell_same w3 kb 0 _ _ _ HC3.out]; rfl)
    have HK14 := Lib.hid ((HK12.out.more (fun q hq => List.mem_cons_of_mem kb hq)).step (k4.more (by simp)) (fun q hq => hq))
    have HROW4 := Lib.hid (RK.Own.keeps HROW.out k4 (fun q hq hb => by have := HND.out q hq; simp at hb; omega))
    have HX4 := Lib.hid (HK14.out.heap HX.out HBF.out)
    have HM4 := Lib.hid (ownsFrom_at HOWN.out (HK14.out.block mb HOWN.out.lt HMF.out))
    clear hHeld hSD HS1 HRUN HROW HC3 HK12 HKB HCA HX hs1 HSE k4 HOWN
    generalize w3.setCell _ _ = w4 at *
    have d1 := rw_cell HX4.out 1 (show (rwC r)[1]? = some (.int .u16 r.id) from rfl)
    have d10 := rw_cell HX4.out 10 (show (rwC r)[10]? = some (.int .i64 r.fr) from rfl)
    have e1 : w4.cell? ⟨kb, 1, none⟩ = some (.map (some mb)) := by simp [World.cell?, HC4.out]
    obtain ⟨w5, hrun5, hown5, hturn5⟩ := World.ownsMap.store (w := w4.drew) HM4.out Try.keyed16 Try.underlying75 (show n < maxLen by unfold maxLen; have := HNL.out; unfold rwMost at this; omega) HKEY.out (plainElem_int (H := Unit) Try.underlying3 HWF.out)
    have HRUN5 := Lib.hid hrun5; have HOWN5 := Lib.hid hown5
    have HK5 := Lib.hid (((Keeps.refl [mb] w4).drew).turned hturn5 (.inl (by simp)))
    clear hrun5 hown5 hturn5 HM4
    go_wp2_with fail
    obtain ⟨S2, hS2⟩ : ∃ S2 : World → Prop, S2 = fun y => Keeps [mb] w4 y := ⟨_, rfl⟩
    have HSE2 := Lib.hid hS2
    have hSD2 : S2 w4.drew := by rw [hS2]; exact (Keeps.refl _ _).drew
    have HT1 := Lib.hid (fun (w' : World) (h : S2 w') => show w'.cell? ⟨kb, 1, none⟩ = some (.map (some mb)) from by rw [hS2] at h; exact h.cell e1 (by simp; exact HKM.out))
    have HT2 := Lib.hid (fun (w' : World) (h : S2 w') => show w'.cell? ⟨B, 1, none⟩ = some (.int .u16 r.id) from by rw [hS2] at h; exact h.cell d1 (by simp; exact HBM.out))
    have HT3 := Lib.hid (fun (w' : World) (h : S2 w') => show w'.cell? ⟨B, 10, none⟩ = some (.int .i64 r.fr) from by rw [hS2] at h; exact h.cell d10 (by simp; exact HBM.out))
    clear hS2 d1 d10 e1
    refine wp_region_noPanic ?_
    refine wp_region_held_drew (S := S2) (by kernel_rfl) hSD2 (fun hHeld => ?_)
    apply wpAnyH_take (i := 0)
    · simp only [List.getElem?_toArray]; rfl
    · kernel_rfl
    · kernel_rfl
    · kernel_rfl
    · exact fun _ _ _ h => h
    · exact Or.inl ⟨by rfl, by intro w hSw; go_simp; try with_reducible rfl⟩
    · assumption
    try simp only [Act.put, List.setIfInBounds_toArray, List.set_cons_zero, List.set_cons_succ]
    apply wpAnyH_take (i := 1)
    · simp only [List.getElem?_toArray]; rfl
    · kernel_rfl
    · kernel_rfl
    · kernel_rfl
    · exact fun _ _ _ h => h
    · exact Or.inl ⟨by rfl, by intro w hSw; go_simp; try with_reducible rfl⟩
    · assumption
    try simp only [Act.put, List.setIfInBounds_toArray, List.set_cons_zero, List.set_cons_succ]
    apply wpAnyH_take (i := 2)
    · simp only [List.getElem?_toArray]; rfl
    · kernel_rfl
    · kernel_rfl
    · kernel_rfl
    · exact fun _ _ _ h => h
    · exact Or.inl ⟨by rfl, by intro w hSw; go_simp; try with_reducible rfl⟩
    · assumption
    try simp only [Act.put, List.setIfInBounds_toArray, List.set_cons_zero, List.set_cons_succ]
    apply wpAnyH_take (i := 3)
    · simp only [List.getElem?_toArray]; rfl
    · kernel_rfl
    · kernel_rfl
    · kernel_rfl
    · exact fun _ _ _ h => h
    · exact Or.inl ⟨by rfl, by intro w hSw; have q0 := HT1.out w hSw; go_simp; try with_reducible rfl⟩
    · assumption
    try simp only [Act.put, List.setIfInBounds_toArray, List.set_cons_zero, List.set_cons_succ]
    apply wpAnyH_take (i := 4)
    · simp only [List.getElem?_toArray]; rfl
    · kernel_rfl
    · kernel_rfl
    · kernel_rfl
    · exact fun _ _ _ h => h
    · exact Or.inl ⟨by rfl, by intro w hSw; go_simp; try with_reducible rfl⟩
    · assumption
    try simp only [Act.put, List.setIfInBounds_toArray, List.set_cons_zero, List.set_cons_succ]
    apply wpAnyH_take (i := 5)
    · simp only [List.getElem?_toArray]; rfl
    · kernel_rfl
    · kernel_rfl
    · kernel_rfl
    · exact fun _ _ _ h => h
    · exact Or.inl ⟨by rfl, by intro w hSw; have q0 := HT2.out w hSw; go_simp; try with_reducible rfl⟩
    · assumption
    try simp only [Act.put, List.setIfInBounds_toArray, List.set_cons_zero, List.set_cons_succ]
    apply wpAnyH_take (i := 6)
    · simp only [List.getElem?_toArray]; rfl
    · kernel_rfl
    · kernel_rfl
    · kernel_rfl
    · exact fun _ _ _ h => h
    · exact Or.inl ⟨by rfl, by intro w hSw; go_simp; try with_reducible rfl⟩
    · assumption
    try simp only [Act.put, List.setIfInBounds_toArray, List.set_cons_zero, List.set_cons_succ]
    apply wpAnyH_take (i := 7)
    · simp only [List.getElem?_toArray]; rfl
    · kernel_rfl
    · kernel_rfl
    · kernel_rfl
    · exact fun _ _ _ h => h
    · exact Or.inl ⟨by rfl, by intro w hSw; have q0 := HT3.out w hSw; go_simp; try with_reducible rfl⟩
    · assumption
    try simp only [Act.put, List.setIfInBounds_toArray, List.set_cons_zero, List.set_cons_succ]
    apply wpAnyH_ready (rs := [8])
    · kernel_rfl
    · simp
    apply AllReadyH.cons (hs := AllReadyH.nil)
    · simp only [List.getElem?_toArray]; rfl
    intro K hK
    rw [if_pos (by rfl)]
    refine wp_mapUpdate_run 75 rfl rfl rfl rfl HRUN5.out ?_
    refine hK.out _ _ ?_ (fun hHeld => ?_)
    · exact (by rw [HSE2.out]; exact HK5.out)
    clear hK K
    try simp only [Act.put, List.setIfInBounds_toArray, List.set_cons_zero, List.set_cons_succ]
    refine wpAnyH_done (by kernel_rfl) ?_ _
    refine NoPanic.normal ?_
    have hc5 := HK5.out.heap HC4.out (by simp; exact HKM.out)
    have d10 := rw_cell (HK5.out.heap HX4.out (by simp; exact HBM.out)) 10 (show (rwC r)[10]? = some (.int .i64 r.fr) from rfl)
    have g1 : w5.cell? ⟨kb, 2, none⟩ = some (.int .i64 t.last) := by simp [World.cell?, hc5]
    have g2 : w5.frozen? ⟨kb, 2, none⟩ = false := by simp [World.frozen?, hc5]
    have k6 : Keeps [kb] w5 (w5.setCell ⟨kb, 2, none⟩ (.int .i64 r.fr)) := (Keeps.refl [kb] w5).setCell _ _ (.inl (by simp))
    have HFIN := Lib.hid (show KPost kb mb w (.slice a0 t.L.length cp) ⟨t.L ++ [r], r.fr⟩ (w5.setCell ⟨kb, 2, none⟩ (.int .i64 r.fr)) from by
      refine ⟨.slice a9 (t.L ++ [r]).length c9, ⟨?_, ?_, ?_, HKM.out, HND.out⟩, ?_, HF2.out⟩
      · rw [heap_setCell_same w5 kb 2 _ _ _ hc5]; rfl
      · exact (HROW4.out.keeps HK5.out (fun q hq hb => by have := HND.out q hq; simp at hb; omega)).keeps k6 (fun q hq hb => by have := HND.out q hq; simp at hb; omega)
      · exact FromAt.keeps (F := [kb]) ⟨n + 1, _, HOWN5.out, by have := HNN.out; have := HFR.out; show ((n + 1 : Nat) : Int) ≤ r.fr + 1; omega, Holds.put HM0.out HD.out r HNO.out⟩ k6 (by simp; exact Ne.symm HKM.out)
      · refine ((HK0.out.more (by simp)).trans (HK14.out.more (G := kb :: mb :: own (.slice a0 t.L.length cp)) (fun q hq => ?_)) (fun q hq => .inl hq)).step ((HK5.out.more (by simp)).step (k6.more (by simp)) (fun q hq => hq)) (fun q hq => hq)
        rcases List.mem_cons.1 hq with h | h
        · exact List.mem_cons.2 (.inl h)
        · exact List.mem_cons_of_mem _ (List.mem_cons_of_mem _ h))
    clear hHeld hSD2 HT1 HT2 HT3 hc5 k6 HSE2 HK5 HK14 HROW4 HC4 HX4 HOWN5 HRUN5
    go_wp2_with fail
    go_end0
    exact ⟨rfl, HFIN.out⟩
  apply AllReadyH.cons (hs := AllReadyH.nil)
  · simp only [List.getElem?_toArray]; rfl
  · intro K hK
    rw [if_pos (by rfl)]
    refine wp_build_rowP (x := r) rfl rfl ?_
    refine hK.out _ _ ?_ (fun hHeld => ?_)
    · exact (by rw [HSE.out]; exact HKB.out.more (by simp))
    clear hK K
    try simp only [Act.put, List.setIfInBounds_toArray, List.set_cons_zero, List.set_cons_succ]
    generalize hW9 : W.drew.alloc (.cells (rwC r).toArray 42) = W9 at *
    clear hW9
    have hs2 := HCA.out
    apply wpAnyH_ready (rs := [4])
    · kernel_rfl
    · simp
    apply AllReadyH.cons (hs := AllReadyH.nil)
    · simp only [List.getElem?_toArray]; rfl
    intro K hK
    rw [if_pos (by rfl)]
    go_wp2_with fail
    refine hK.out _ _ ?_ (fun hHeld => ?_)
    · exact (by rw [HSE.out]; exact HKB.out.more (by simp))
    clear hK K
    try simp only [Act.put, List.setIfInBounds_toArray, List.set_cons_zero, List.set_cons_succ]
    clear hs2
    apply wpAnyH_ready (rs := [7])
    · kernel_rfl
    · simp
    apply AllReadyH.cons (hs := AllReadyH.nil)
    · simp only [List.getElem?_toArray]; rfl
    intro K hK
    rw [if_pos (by rfl)]
    refine wp_append_run _ _ 49 rfl _ _ _ w3 rfl rfl HRUN.out ?_
    refine hK.out _ _ ?_ (fun hHeld => ?_)
    · exact (by rw [HSE.out]; exact HK12.out.more (fun q hq => List.mem_cons_of_mem _ hq))
    clear hK K
    try simp only [Act.put, List.setIfInBounds_toArray, List.set_cons_zero, List.set_cons_succ]
    apply wpAnyH_take (i := 8)
    · simp only [List.getElem?_toArray]; rfl
    · kernel_rfl
    · kernel_rfl
    · kernel_rfl
    · exact fun _ _ _ h => h
    · exact Or.inl ⟨by rfl, by intro w hSw; go_simp; try with_reducible rfl⟩
    · assumption
    try simp only [Act.put, List.setIfInBounds_toArray, List.set_cons_zero, List.set_cons_succ]
    apply wpAnyH_take (i := 9)
    · simp only [List.getElem?_toArray]; rfl
    · kernel_rfl
    · kernel_rfl
    · kernel_rfl
    · exact fun _ _ _ h => h
    · exact Or.inl ⟨by rfl, by intro w hSw; go_simp; try with_reducible rfl⟩
    · assumption
    try simp only [Act.put, List.setIfInBounds_toArray, List.set_cons_zero, List.set_cons_succ]
    apply wpAnyH_ready (rs := [10])
    · kernel_rfl
    · simp
    apply AllReadyH.cons (hs := AllReadyH.nil)
    · simp only [List.getElem?_toArray]; rfl
    intro K hK
    rw [if_pos (by rfl)]
    refine wp_put1c 49 (.slice a9 (t.L ++ [r]).length c9) (b := kb) (i := 0) (by kernel_rfl) rfl rfl rfl rfl (by simp [World.cell?, HC3.out]) (by simp [World.frozen?, HC3.out]) ?_
    refine hK.out _ _ ?_ (fun hHeld => ?_)
    · exact (by rw [HSE.out]; exact (HK12.out.more (fun q hq => List.mem_cons_of_mem _ hq)).setCell _ _ (.inl (by simp)))
    clear hK K
    try simp only [Act.put, List.setIfInBounds_toArray, List.set_cons_zero, List.set_cons_succ]
    refine wpAnyH_done (by kernel_rfl) ?_ _
    refine NoPanic.normal ?_
    have k4 : Keeps [kb] w3 (w3.setCell ⟨kb, 0, none⟩ (.slice a9 (t.L ++ [r]).length c9)) := (Keeps.refl [kb] w3).setCell _ _ (.inl (by simp))
    have HC4 := Lib.hid (show (w3.setCell ⟨kb, 0, none⟩ (.slice a9 (t.L ++ [r]).length c9)).heap[kb]? = some (.cells #[.slice a9 (t.L ++ [r]).length c9, .map (some mb), .int .i64 t.last] 77 (0, 0)) from by rw [heap_setCell_same w3 kb 0 _ _ _ HC3.out]; rfl)
    have HK14 := Lib.hid ((HK12.out.more (fun q hq => List.mem_cons_of_mem kb hq)).step (k4.more (by simp)) (fun q hq => hq))
    have HROW4 := Lib.hid (RK.Own.keeps HROW.out k4 (fun q hq hb => by have := HND.out q hq; simp at hb; omega))
    have HX4 := Lib.hid (HK14.out.heap HX.out HBF.out)
    have HM4 := Lib.hid (ownsFrom_at HOWN.out (HK14.out.block mb HOWN.out.lt HMF.out))
    clear hHeld hSD HS1 HRUN HROW HC3 HK12 HKB HCA HX hs1 HSE k4 HOWN
    generalize w3.setCell _ _ = w4 at *
    have d1 := rw_cell HX4.out 1 (show (rwC r)[1]? = some (.int .u16 r.id) from rfl)
    have d10 := rw_cell HX4.out 10 (show (rwC r)[10]? = some (.int .i64 r.fr) from rfl)
    have e1 : w4.cell? ⟨kb, 1, none⟩ = some (.map (some mb)) := by simp [World.cell?, HC4.out]
    obtain ⟨w5, hrun5, hown5, hturn5⟩ := World.ownsMap.store (w := w4.drew) HM4.out Try.keyed16 Try.underlying75 (show n < maxLen by unfold maxLen; have := HNL.out; unfold rwMost at this; omega) HKEY.out (plainElem_int (H := Unit) Try.underlying3 HWF.out)
    have HRUN5 := Lib.hid hrun5; have HOWN5 := Lib.hid hown5
    have HK5 := Lib.hid (((Keeps.refl [mb] w4).drew).turned hturn5 (.inl (by simp)))
    clear hrun5 hown5 hturn5 HM4
    go_wp2_with fail
    obtain ⟨S2, hS2⟩ : ∃ S2 : World → Prop, S2 = fun y => Keeps [mb] w4 y := ⟨_, rfl⟩
    have HSE2 := Lib.hid hS2
    have hSD2 : S2 w4.drew := by rw [hS2]; exact (Keeps.refl _ _).drew
    have HT1 := Lib.hid (fun (w' : World) (h : S2 w') => show w'.cell? ⟨kb, 1, none⟩ = some (.map (some mb)) from by rw [hS2] at h; exact h.cell e1 (by simp; exact HKM.out))
    have HT2 := Lib.hid (fun (w' : World) (h : S2 w') => show w'.cell? ⟨B, 1, none⟩ = some (.int .u16 r.id) from by rw [hS2] at h; exact h.cell d1 (by simp; exact HBM.out))
    have HT3 := Lib.hid (fun (w' : World) (h : S2 w') => show w'.cell? ⟨B, 10, none⟩ = some (.int .i64 r.fr) from by rw [hS2] at h; exact h.cell d10 (by simp; exact HBM.out))
    clear hS2 d1 d10 e1
    refine wp_region_noPanic ?_
    refine wp_region_held_drew (S := S2) (by kernel_rfl) hSD2 (fun hHeld => ?_)
    apply wpAnyH_take (i := 0)
    · simp only [List.getElem?_toArray]; rfl
    · kernel_rfl
    · kernel_rfl
    · kernel_rfl
    · exact fun _ _ _ h => h
    · exact Or.inl ⟨by rfl, by intro w hSw; go_simp; try with_reducible rfl⟩
    · assumption
    try simp only [Act.put, List.setIfInBounds_toArray, List.set_cons_zero, List.set_cons_succ]
    apply wpAnyH_take (i := 1)
    · simp only [List.getElem?_toArray]; rfl
    · kernel_rfl
    · kernel_rfl
    · kernel_rfl
    · exact fun _ _ _ h => h
    · exact Or.inl ⟨by rfl, by intro w hSw; go_simp; try with_reducible rfl⟩
    · assumption
    try simp only [Act.put, List.setIfInBounds_toArray, List.set_cons_zero, List.set_cons_succ]
    apply wpAnyH_take (i := 2)
    · simp only [List.getElem?_toArray]; rfl
    · kernel_rfl
    · kernel_rfl
    · kernel_rfl
    · exact fun _ _ _ h => h
    · exact Or.inl ⟨by rfl, by intro w hSw; go_simp; try with_reducible rfl⟩
    · assumption
    try simp only [Act.put, List.setIfInBounds_toArray, List.set_cons_zero, List.set_cons_succ]
    apply wpAnyH_take (i := 3)
    · simp only [List.getElem?_toArray]; rfl
    · kernel_rfl
    · kernel_rfl
    · kernel_rfl
    · exact fun _ _ _ h => h
    · exact Or.inl ⟨by rfl, by intro w hSw; have q0 := HT1.out w hSw; go_simp; try with_reducible rfl⟩
    · assumption
    try simp only [Act.put, List.setIfInBounds_toArray, List.set_cons_zero, List.set_cons_succ]
    apply wpAnyH_take (i := 4)
    · simp only [List.getElem?_toArray]; rfl
    · kernel_rfl
    · kernel_rfl
    · kernel_rfl
    · exact fun _ _ _ h => h
    · exact Or.inl ⟨by rfl, by intro w hSw; go_simp; try with_reducible rfl⟩
    · assumption
    try simp only [Act.put, List.setIfInBounds_toArray, List.set_cons_zero, List.set_cons_succ]
    apply wpAnyH_take (i := 5)
    · simp only [List.getElem?_toArray]; rfl
    · kernel_rfl
    · kernel_rfl
    · kernel_rfl
    · exact fun _ _ _ h => h
    · exact Or.inl ⟨by rfl, by intro w hSw; have q0 := HT2.out w hSw; go_simp; try with_reducible rfl⟩
    · assumption
    try simp only [Act.put, List.setIfInBounds_toArray, List.set_cons_zero, List.set_cons_succ]
    apply wpAnyH_take (i := 6)
    · simp only [List.getElem?_toArray]; rfl
    · kernel_rfl
    · kernel_rfl
    · kernel_rfl
    · exact fun _ _ _ h => h
    · exact Or.inl ⟨by rfl, by intro w hSw; go_simp; try with_reducible rfl⟩
    · assumption
    try simp only [Act.put, List.setIfInBounds_toArray, List.set_cons_zero, List.set_cons_succ]
    apply wpAnyH_take (i := 7)
    · simp only [List.getElem?_toArray]; rfl
    · kernel_rfl
    · kernel_rfl
    · kernel_rfl
    · exact fun _ _ _ h => h
    · exact Or.inl ⟨by rfl, by intro w hSw; have q0 := HT3.out w hSw; go_simp; try with_reducible rfl⟩
    · assumption
    try simp only [Act.put, List.setIfInBounds_toArray, List.set_cons_zero, List.set_cons_succ]
    apply wpAnyH_ready (rs := [8])
    · kernel_rfl
    · simp
    apply AllReadyH.cons (hs := AllReadyH.nil)
    · simp only [List.getElem?_toArray]; rfl
    intro K hK
    rw [if_pos (by rfl)]
    refine wp_mapUpdate_run 75 rfl rfl rfl rfl HRUN5.out ?_
    refine hK.out _ _ ?_ (fun hHeld => ?_)
    · exact (by rw [HSE2.out]; exact HK5.out)
    clear hK K
    try simp only [Act.put, List.setIfInBounds_toArray, List.set_cons_zero, List.set_cons_succ]
    refine wpAnyH_done (by kernel_rfl) ?_ _
    refine NoPanic.normal ?_
    have hc5 := HK5.out.heap HC4.out (by simp; exact HKM.out)
    have d10 := rw_cell (HK5.out.heap HX4.out (by simp; exact HBM.out)) 10 (show (rwC r)[10]? = some (.int .i64 r.fr) from rfl)
    have g1 : w5.cell? ⟨kb, 2, none⟩ = some (.int .i64 t.last) := by simp [World.cell?, hc5]
    have g2 : w5.frozen? ⟨kb, 2, none⟩ = false := by simp [World.frozen?, hc5]
    have k6 : Keeps [kb] w5 (w5.setCell ⟨kb, 2, none⟩ (.int .i64 r.fr)) := (Keeps.refl [kb] w5).setCell _ _ (.inl (by simp))
    have HFIN := Lib.hid (show KPost kb mb w (.slice a0 t.L.length cp) ⟨t.L ++ [r], r.fr⟩ (w5.setCell ⟨kb, 2, none⟩ (.int .i64 r.fr)) from by
      refine ⟨.slice a9 (t.L ++ [r]).length c9, ⟨?_, ?_, ?_, HKM.out, HND.out⟩, ?_, HF2.out⟩
      · rw [heap_setCell_same w5 kb 2 _ _ _ hc5]; rfl
      · exact (HROW4.out.keeps HK5.out (fun q hq hb => by have := HND.out q hq; simp at hb; omega)).keeps k6 (fun q hq hb => by have := HND.out q hq; simp at hb; omega)
      · exact FromAt.keeps (F := [kb]) ⟨n + 1, _, HOWN5.out, by have := HNN.out; have := HFR.out; show ((n + 1 : Nat) : Int) ≤ r.fr + 1; omega, Holds.put HM0.out HD.out r HNO.out⟩ k6 (by simp; exact Ne.symm HKM.out)
      · refine ((HK0.out.more (by simp)).trans (HK14.out.more (G := kb :: mb :: own (.slice a0 t.L.length cp)) (fun q hq => ?_)) (fun q hq => .inl hq)).step ((HK5.out.more (by simp)).step (k6.more (by simp)) (fun q hq => hq)) (fun q hq => hq)
        rcases List.mem_cons.1 hq with h | h
        · exact List.mem_cons.2 (.inl h)
        · exact List.mem_cons_of_mem _ (List.mem_cons_of_mem _ h))
    clear hHeld hSD2 HT1 HT2 HT3 hc5 k6 HSE2 HK5 HK14 HROW4 HC4 HX4 HOWN5 HRUN5
    go_wp2_with fail
    go_end0
    exact ⟨rfl, HFIN.out⟩
end Go.Proofs.Ytjiglbjpmclncaa
/-
  The program's table: a row less.
-/
namespace Go.Proofs.Ytjiglbjpmclncaa
open Go.RowKit Go.Maps
theorem RK.Own.cut {α : Type} {R : RK α} {base : Nat} {w : World} {g cap n : Nat} {L : List α} (hn : L.length = n) (h : R.Own base w (.slice (some ⟨g, 0, none⟩) n cap) L) (i : Nat) (hi : i < n) (ad : Addr) (had : n = i + 1 ∨ ad = ⟨g, (i + 1) * R.s, none⟩) (c : Nat) (x : α) (ty : TypeId) :
    ∃ W, (Builtin.append_ #[R.Sl, R.Sl] ty #[.slice (some ⟨g, 0, none⟩) i cap, .slice (some ad) (n - (i + 1)) c]).run Try.prog w = .ok (.slice (some ⟨g, 0, none⟩) (n - 1) cap) W ∧ Keeps [g] w W ∧
      (∀ j, j < R.s → (W.cell? ⟨g, (n - 1) * R.s + j, none⟩).isSome = true ∧ W.frozen? ⟨g, (n - 1) * R.s + j, none⟩ = false) ∧ R.Own base (W.setCells g ((n - 1) * R.s) (R.cs x)) (.slice (some ⟨g, 0, none⟩) (n - 1) cap) (L.eraseIdx i) := by
  subst hn
  rcases h.2 with ⟨e, _⟩ | ⟨g', cap', cur, e, hb, hh, hc, hm, hcs, htk⟩
  · cases e
  · simp only [Value.slice.injEq, Option.some.injEq, Addr.mk.injEq, and_true, true_and] at e
    obtain ⟨rfl, rfl⟩ := e
    obtain ⟨Z, hZ⟩ : ∃ Z, Z = cur.toList.drop (L.length * R.s) := ⟨_, rfl⟩
    have hcur : cur.toList = R.row L ++ Z := by rw [← htk, hZ, List.take_append_drop]
    have hL : R.row L = R.row (L.take i) ++ (R.cs L[i] ++ R.row (L.drop (i + 1))) := by
      conv => lhs; rw [← List.take_append_drop i L, List.drop_eq_getElem_cons hi]
      rw [R.row_app]; rfl
    obtain ⟨A, hA⟩ : ∃ A, A = R.row (L.take i) := ⟨_, rfl⟩
    obtain ⟨B, hB⟩ : ∃ B, B = R.row (L.drop (i + 1)) := ⟨_, rfl⟩
    have hAl : A.length = i * R.s := by rw [hA, R.row_len, List.length_take, Nat.min_eq_left (by omega)]
    have hBl : B.length = (L.length - (i + 1)) * R.s := by rw [hB, R.row_len, List.length_drop]
    rw [← hA, ← hB] at hL
    have hx : (R.cs L[i]).length = R.s := R.len _
    have htot : i * R.s + (R.s + (L.length - (i + 1)) * R.s) = L.length * R.s := by
      have : L.length = i + (1 + (L.length - (i + 1))) := by omega
      conv => rhs; rw [this]
      simp only [Nat.add_mul, Nat.one_mul]
    have hn1 : (L.length - 1) * R.s = i * R.s + (L.length - (i + 1)) * R.s := by
      have : L.length - 1 = i + (L.length - (i + 1)) := by omega
      rw [this, Nat.add_mul]
    have hsz : cur.toList.length = A.length + (R.s + (B.length + Z.length)) := by rw [hcur, hL]; simp [hx]
    have hlast : cur.toList.length = cap * R.s := by simpa using hcs
    have hf : ∀ j u, B[j]? = some u → w.cell? (ad.add j) = some u := by
      intro j u hj
      rcases had with he | rfl
      · have h0 : B.length = 0 := by rw [hBl, he]; simp
        have : j < B.length := (List.getElem?_eq_some_iff.1 hj).1
        omega
      rw [Addr.add_mid]
      simp only [World.cell?, hh]
      have : cur.toList[(i + 1) * R.s + j]? = some u := by
        have hjl : j < B.length := (List.getElem?_eq_some_iff.1 hj).1
        rw [hcur, hL, Nat.add_mul, Nat.one_mul, List.append_assoc, List.append_assoc, List.getElem?_append_right (by omega), List.getElem?_append_right (by omega), List.getElem?_append_left (by omega)]
        rw [← hj]; congr 1; omega
      simpa using this
    have hr := run_append_room (P := Try.prog) w R.Sl ty R.T R.i R.und R.hi g i cap cur hh ad (L.length - (i + 1)) c B (by rw [hBl, R.hs]) hf (by rw [hB]; exact R.row_one _) (by omega) (by rw [R.hs]; have := hsz; simp only [Array.length_toList] at this; omega)
    have e1 : i + (L.length - (i + 1)) = L.length - 1 := by omega
    rw [e1, R.hs] at hr
    have htA : cur.toList.take (i * R.s) = A := by rw [hcur, hL, ← hAl]; simp
    obtain ⟨T, hT⟩ : ∃ T, T = cur.toList.drop (i * R.s + B.length) := ⟨_, rfl⟩
    have hTl : T.length = R.s + Z.length := by rw [hT, List.length_drop]; omega
    rw [htA, ← hT] at hr
    have hW := setRow_heap w g cur (A ++ B ++ T).toArray R.T (0, 0) hh
    obtain ⟨W, hWe⟩ : ∃ W, W = w.setRow g (A ++ B ++ T).toArray := ⟨_, rfl⟩
    rw [← hWe] at hr hW
    have hW2 : W.heap[g]? = some (.cells ((A ++ B) ++ (T.take R.s ++ T.drop R.s)).toArray R.T (0, 0)) := by rw [hW, List.take_append_drop]
    have hX : (A ++ B).length = (L.length - 1) * R.s := by rw [List.length_append, hAl, hBl, hn1]
    have h2 := heap_setCellsQ g R.T (R.cs x) (T.take R.s) (A ++ B) (T.drop R.s) ((L.length - 1) * R.s) W (by rw [R.len, List.length_take, hTl]; omega) hX hW2
    refine ⟨W, hr, by rw [hWe]; exact (Keeps.refl [g] w).setRow g _ (.inl (by simp)), fun j hj => ⟨?_, ?_⟩, ?_⟩
    · simp only [World.cell?, hW]
      have : (L.length - 1) * R.s + j < (A ++ B ++ T).length := by rw [List.length_append, hX, hTl]; omega
      simp [List.getElem?_eq_getElem this]
      simpa using this
    · simp [World.frozen?, hW]
    · have hel : (L.eraseIdx i).length = L.length - 1 := List.length_eraseIdx_of_lt hi
      have her : R.row (L.eraseIdx i) = A ++ B := by rw [List.eraseIdx_eq_take_drop_succ, R.row_app, hA, hB]
      refine ⟨by rw [R.row_len], .inr ⟨g, cap, _, by rw [hel], hb, h2, by rw [hel]; omega, hm, ?_, ?_⟩⟩
      · simp only [List.size_toArray, List.length_append, R.len, List.length_drop]
        have := hsz; rw [hlast] at this
        omega
      · rw [hel, her, ← hX]
        exact List.take_left' rfl
theorem run_clear_rowP (w : World) (b o c : Nat) (ty : TypeId) (hc : ∀ j, j < 12 → (w.cell? ⟨b, o + j, none⟩).isSome = true ∧ w.frozen? ⟨b, o + j, none⟩ = false) :
    (Builtin.clear_ #[49] ty #[.slice (some ⟨b, o, none⟩) 1 c]).run Try.prog w = .ok (.tuple #[]) (w.setCells b o (rwC rwZero)) := by
  have hst := run_storeCells_cells (P := Try.prog) b o (rwC rwZero) 0 w (fun j hj => (hc j hj).1) (fun j hj => (hc j hj).2) (rwC_one rwZero)
  simp only [Nat.add_zero] at hst
  have hz : (zeroValue 42).run Try.prog w = .ok (.agg (rwC rwZero).toArray) w := by kernel_rfl
  have hzc : (Builtin.zeroCells (Value.agg (rwC rwZero).toArray).cells 1).toList = rwC rwZero := by kernel_rfl
  simp [Builtin.clear_, run_underlying Try.underlying49, hz, hzc, hst]
set_option maxHeartbeats 8000000
set_option maxRecDepth 100000
theorem rowsDelete_any (w : World) {v : Value} {L : List Rw} (hrow : rkP.Own 0 w v L) (hfew : L.length ≤ 1000000) (i : Nat) (hi : i < L.length) :
    Calls Try.prog 49 #[v, .int .i64 i, .int .i64 ((i : Int) + 1)] w fun e w' => ∃ v', e = .returned v' ∧ rkP.Own 0 w' v' (L.eraseIdx i) ∧ Keeps (own v) w w' ∧ (∀ q ∈ own v', q ∈ own v) := by
  obtain ⟨g, cap, rfl, hc, hm, -, hg, -⟩ := hrow.at (fun e => by rw [e] at hi; simp at hi)
  have HROW := Lib.hid hrow
  clear hrow
  obtain ⟨n, hn⟩ : ∃ n, n = L.length := ⟨_, rfl⟩
  have HN := Lib.hid hn.symm
  rw [← hn] at hfew hi hc
  clear hn
  have te : ((i : Int) == (i : Int) + 1) = false := by simp; omega
  have hic : i ≤ cap := by omega
  have hin : 0 ≤ (i : Int) + 1 ∧ (i : Int) + 1 ≤ n := by omega
  have hcn : ¬ cap = n - 1 := by omega
  by_cases hcap : cap = i + 1
  ·
    have HAD := Lib.hid (show n = i + 1 ∨ (⟨g, 0, none⟩ : Addr) = ⟨g, (i + 1) * 12, none⟩ from (.inl (by omega)))
    have HCAP := Lib.hid (show cap = i + 1 ↔ True from by simp [hcap])
    clear hcap
    obtain ⟨W, hrun, hk, hcell, hown⟩ := RK.Own.cut HN.out (show rkP.Own 0 w.drew (.slice (some ⟨g, 0, none⟩) n cap) L from by have h := RK.Own.keeps HROW.out (Keeps.refl [] w).drew (by simp); rw [HN.out] at h; exact h) i hi ⟨g, 0, none⟩ HAD.out (cap - (i + 1)) rwZero 49
    have HRUN := Lib.hid (show (Builtin.append_ #[49, 49] 49 #[.slice (some ⟨g, 0, none⟩) i cap, .slice (some ⟨g, 0, none⟩) (n - (i + 1)) (cap - (i + 1))]).run Try.prog w.drew = .ok (.slice (some ⟨g, 0, none⟩) (n - 1) cap) W from hrun)
    have HKW := Lib.hid (((Keeps.refl [] w).drew.more (G := [g]) (by simp)).step hk (fun q hq => hq))
    have HCELL := Lib.hid (fun ty => run_clear_rowP W g ((n - 1) * 12) (cap - (n - 1)) ty hcell)
    have HOWN := Lib.hid hown
    clear hrun hk hcell hown
    go_enter Try.func49, Try.ntmps49
    rw [HN.out]
    go_wp2_with fail
    obtain ⟨S, hS⟩ : ∃ S : World → Prop, S = fun y => Keeps [g] w y := ⟨_, rfl⟩
    have HSE := Lib.hid hS
    have hSD : S w.drew := by rw [hS]; exact (Keeps.refl _ _).drew
    have HS1 := Lib.hid (fun (w' : World) (_ : S w') => hic)
    have HS2 := Lib.hid (fun (w' : World) (_ : S w') => hin)
    have HS3 := Lib.hid (fun (w' : World) (_ : S w') => HCAP.out)
    clear hS
    refine wp_region_noPanic ?_
    refine wp_region_held_drew (S := S) (by kernel_rfl) hSD (fun hHeld => ?_)
    apply wpAnyH_take (i := 0)
    · simp only [List.getElem?_toArray]; rfl
    · kernel_rfl
    · kernel_rfl
    · kernel_rfl
    · exact fun _ _ _ h => h
    · exact Or.inl ⟨by rfl, by intro w hSw; go_simp; try with_reducible rfl⟩
    · assumption
    try simp only [Act.put, List.setIfInBounds_toArray, List.set_cons_zero, List.set_cons_succ]
    apply wpAnyH_take (i := 1)
    · simp only [List.getElem?_toArray]; rfl
    · kernel_rfl
    · kernel_rfl
    · kernel_rfl
    · exact fun _ _ _ h => h
    · exact Or.inl ⟨by rfl, by intro w hSw; go_simp; try with_reducible rfl⟩
    · assumption
    try simp only [Act.put, List.setIfInBounds_toArray, List.set_cons_zero, List.set_cons_succ]
    apply wpAnyH_take (i := 2)
    · simp only [List.getElem?_toArray]; rfl
    · kernel_rfl
    · kernel_rfl
    · kernel_rfl
    · exact fun _ _ _ h => h
    · exact Or.inl ⟨by rfl, by intro w hSw; have q0 := HS1.out w hSw; go_simp; try with_reducible rfl⟩
    · assumption
    try simp only [Act.put, List.setIfInBounds_toArray, List.set_cons_zero, List.set_cons_succ]
    apply wpAnyH_take (i := 3)
    · simp only [List.getElem?_toArray]; rfl
    · kernel_rfl
    · kernel_rfl
    · kernel_rfl
    · exact fun _ _ _ h => h
    · exact Or.inl ⟨by rfl, by intro w hSw; go_simp; try with_reducible rfl⟩
    · assumption
    try simp only [Act.put, List.setIfInBounds_toArray, List.set_cons_zero, List.set_cons_succ]
    apply wpAnyH_take (i := 4)
    · simp only [List.getElem?_toArray]; rfl
    · kernel_rfl
    · kernel_rfl
    · kernel_rfl
    · exact fun _ _ _ h => h
    · exact Or.inl ⟨by rfl, by intro w hSw; go_simp; try with_reducible rfl⟩
    · assumption
    try simp only [Act.put, List.setIfInBounds_toArray, List.set_cons_zero, List.set_cons_succ]
    apply wpAnyH_take (i := 5)
    · simp only [List.getElem?_toArray]; rfl
    · kernel_rfl
    · kernel_rfl
    · kernel_rfl
    · exact fun _ _ _ h => h
    · exact Or.inl ⟨by rfl, by intro w hSw; have q0 := HS2.out w hSw; have q1 := HS3.out w hSw; go_simp; try with_reducible rfl⟩
    · assumption
    try simp only [Act.put, List.setIfInBounds_toArray, List.set_cons_zero, List.set_cons_succ]
    apply wpAnyH_ready (rs := [6])
    · kernel_rfl
    · simp
    apply AllReadyH.cons (hs := AllReadyH.nil)
    · simp only [List.getElem?_toArray]; rfl
    intro K hK
    rw [if_pos (by rfl)]
    refine wp_append_run _ _ 49 rfl _ _ _ W rfl rfl HRUN.out ?_
    refine hK.out _ _ ?_ (fun hHeld => ?_)
    · exact (by rw [HSE.out]; exact HKW.out)
    clear hK K
    try simp only [Act.put, List.setIfInBounds_toArray, List.set_cons_zero, List.set_cons_succ]
    apply wpAnyH_take (i := 7)
    · simp only [List.getElem?_toArray]; rfl
    · kernel_rfl
    · kernel_rfl
    · kernel_rfl
    · exact fun _ _ _ h => h
    · exact Or.inl ⟨by rfl, by intro w hSw; go_simp; try with_reducible rfl⟩
    · assumption
    try simp only [Act.put, List.setIfInBounds_toArray, List.set_cons_zero, List.set_cons_succ]
    refine wpAnyH_done (by kernel_rfl) ?_ _
    refine NoPanic.normal ?_
    clear hSD HSE HRUN
    go_wp2_with fail
    rw [show n - (n - 1) = 1 from by omega, HCELL.out]
    simp only [Result.andThen]
    rw [Oper.upon_value]
    go_wp2_with fail
    go_ret
    exact ⟨_, rfl, HOWN.out, Keeps.setCellsQ (by simp [own, Value.ownBlock]) (rwC rwZero) _ (HKW.out.more (by simp [own, Value.ownBlock])), by simp [own, Value.ownBlock]⟩
  ·
    have HAD := Lib.hid (show n = i + 1 ∨ (⟨g, (i + 1) * 12, none⟩ : Addr) = ⟨g, (i + 1) * 12, none⟩ from (.inr rfl))
    have HCAP := Lib.hid (show cap = i + 1 ↔ False from by simp [hcap])
    clear hcap
    obtain ⟨W, hrun, hk, hcell, hown⟩ := RK.Own.cut HN.out (show rkP.Own 0 w.drew (.slice (some ⟨g, 0, none⟩) n cap) L from by have h := RK.Own.keeps HROW.out (Keeps.refl [] w).drew (by simp); rw [HN.out] at h; exact h) i hi ⟨g, (i + 1) * 12, none⟩ HAD.out (cap - (i + 1)) rwZero 49
    have HRUN := Lib.hid (show (Builtin.append_ #[49, 49] 49 #[.slice (some ⟨g, 0, none⟩) i cap, .slice (some ⟨g, (i + 1) * 12, none⟩) (n - (i + 1)) (cap - (i + 1))]).run Try.prog w.drew = .ok (.slice (some ⟨g, 0, none⟩) (n - 1) cap) W from hrun)
    have HKW := Lib.hid (((Keeps.refl [] w).drew.more (G := [g]) (by simp)).step hk (fun q hq => hq))
    have HCELL := Lib.hid (fun ty => run_clear_rowP W g ((n - 1) * 12) (cap - (n - 1)) ty hcell)
    have HOWN := Lib.hid hown
    clear hrun hk hcell hown
    go_enter Try.func49, Try.ntmps49
    rw [HN.out]
    go_wp2_with fail
    obtain ⟨S, hS⟩ : ∃ S : World → Prop, S = fun y => Keeps [g] w y := ⟨_, rfl⟩
    have HSE := Lib.hid hS
    have hSD : S w.drew := by rw [hS]; exact (Keeps.refl _ _).drew
    have HS1 := Lib.hid (fun (w' : World) (_ : S w') => hic)
    have HS2 := Lib.hid (fun (w' : World) (_ : S w') => hin)
    have HS3 := Lib.hid (fun (w' : World) (_ : S w') => HCAP.out)
    clear hS
    refine wp_region_noPanic ?_
    refine wp_region_held_drew (S := S) (by kernel_rfl) hSD (fun hHeld => ?_)
    apply wpAnyH_take (i := 0)
    · simp only [List.getElem?_toArray]; rfl
    · kernel_rfl
    · kernel_rfl
    · kernel_rfl
    · exact fun _ _ _ h => h
    · exact Or.inl ⟨by rfl, by intro w hSw; go_simp; try with_reducible rfl⟩
    · assumption
    try simp only [Act.put, List.setIfInBounds_toArray, List.set_cons_zero, List.set_cons_succ]
    apply wpAnyH_take (i := 1)
    · simp only [List.getElem?_toArray]; rfl
    · kernel_rfl
    · kernel_rfl
    · kernel_rfl
    · exact fun _ _ _ h => h
    · exact Or.inl ⟨by rfl, by intro w hSw; go_simp; try with_reducible rfl⟩
    · assumption
    try simp only [Act.put, List.setIfInBounds_toArray, List.set_cons_zero, List.set_cons_succ]
    apply wpAnyH_take (i := 2)
    · simp only [List.getElem?_toArray]; rfl
    · kernel_rfl
    · kernel_rfl
    · kernel_rfl
    · exact fun _ _ _ h => h
    · exact Or.inl ⟨by rfl, by intro w hSw; have q0 := HS1.out w hSw; go_simp; try with_reducible rfl⟩
    · assumption
    try simp only [Act.put, List.setIfInBounds_toArray, List.set_cons_zero, List.set_cons_succ]
    apply wpAnyH_take (i := 3)
    · simp only [List.getElem?_toArray]; rfl
    · kernel_rfl
    · kernel_rfl
    · kernel_rfl
    · exact fun _ _ _ h => h
    · exact Or.inl ⟨by rfl, by intro w hSw; go_simp; try with_reducible rfl⟩
    · assumption
    try simp only [Act.put, List.setIfInBounds_toArray, List.set_cons_zero, List.set_cons_succ]
    apply wpAnyH_take (i := 4)
    · simp only [List.getElem?_toArray]; rfl
    · kernel_rfl
    · kernel_rfl
    · kernel_rfl
    · exact fun _ _ _ h => h
    · exact Or.inl ⟨by rfl, by intro w hSw; go_simp; try with_reducible rfl⟩
    · assumption
    try simp only [Act.put, List.setIfInBounds_toArray, List.set_cons_zero, List.set_cons_succ]
    apply wpAnyH_take (i := 5)
    · simp only [List.getElem?_toArray]; rfl
    · kernel_rfl
    · kernel_rfl
    · kernel_rfl
    · exact fun _ _ _ h => h
    · exact Or.inl ⟨by rfl, by intro w hSw; have q0 := HS2.out w hSw; have q1 := HS3.out w hSw; go_simp; try with_reducible rfl⟩
    · assumption
    try simp only [Act.put, List.setIfInBounds_toArray, List.set_cons_zero, List.set_cons_succ]
    apply wpAnyH_ready (rs := [6])
    · kernel_rfl
    · simp
    apply AllReadyH.cons (hs := AllReadyH.nil)
    · simp only [List.getElem?_toArray]; rfl
    intro K hK
    rw [if_pos (by rfl)]
    refine wp_append_run _ _ 49 rfl _ _ _ W rfl rfl HRUN.out ?_
    refine hK.out _ _ ?_ (fun hHeld => ?_)
    · exact (by rw [HSE.out]; exact HKW.out)
    clear hK K
    try simp only [Act.put, List.setIfInBounds_toArray, List.set_cons_zero, List.set_cons_succ]
    apply wpAnyH_take (i := 7)
    · simp only [List.getElem?_toArray]; rfl
    · kernel_rfl
    · kernel_rfl
    · kernel_rfl
    · exact fun _ _ _ h => h
    · exact Or.inl ⟨by rfl, by intro w hSw; go_simp; try with_reducible rfl⟩
    · assumption
    try simp only [Act.put, List.setIfInBounds_toArray, List.set_cons_zero, List.set_cons_succ]
    refine wpAnyH_done (by kernel_rfl) ?_ _
    refine NoPanic.normal ?_
    clear hSD HSE HRUN
    go_wp2_with fail
    rw [show n - (n - 1) = 1 from by omega, HCELL.out]
    simp only [Result.andThen]
    rw [Oper.upon_value]
    go_wp2_with fail
    go_ret
    exact ⟨_, rfl, HOWN.out, Keeps.setCellsQ (by simp [own, Value.ownBlock]) (rwC rwZero) _ (HKW.out.more (by simp [own, Value.ownBlock])), by simp [own, Value.ownBlock]⟩
theorem kpRemove_any (w : World) {kb mb : Nat} {v : Value} {t : Tb} (hK : KAt kb mb w v t) (hok : TbOk t) (hfew : t.L.length ≤ 1000000) (i : Nat) (hi : i < t.L.length) :
    Calls Try.prog 34 #[.pointer (some ⟨kb, 0, none⟩), .int .i64 i] w fun e w' => e = .returned (.tuple #[]) ∧ KPost kb mb w v ⟨t.L.eraseIdx i, t.last⟩ w' := by
  obtain ⟨g, cap, rfl, hc, hm, -, hg, hcell⟩ := hK.row.at (fun e => by rw [e] at hi; simp at hi)
  obtain ⟨c0, c1, c2⟩ := hK.cells
  have d1 : w.cell? ⟨g, i * 12 + 1, none⟩ = some (.int .u16 t.L[i].id) := (rw_cells (show w.rangeAt g (i * 12) (rwC t.L[i]) from hcell i hi)).2.1
  have hri := (hok.rows _ (List.getElem_mem hi)).id
  obtain ⟨n, D, hown, hnl, hD⟩ := hK.map
  obtain ⟨w1, hrun1, hown1, hturn1⟩ := World.ownsMap.drop (w := w.drew) hown Try.keyed16 Try.underlying75 (key16 hri.1 hri.2) 0
  have HRUN1 := Lib.hid hrun1
  have HK1 := Lib.hid (((Keeps.refl [mb] w).drew).turned hturn1 (.inl (by simp)))
  have hD1 : Holds (D.del (.int .u16 t.L[i].id)) (t.L.eraseIdx i) := by
    have h1 : t.L = t.L.take i ++ t.L[i] :: t.L.drop (i + 1) := by rw [← List.drop_eq_getElem_cons hi, List.take_append_drop]
    rw [List.eraseIdx_eq_take_drop_succ]
    rw [h1] at hD
    refine hD.del (fun x hx => ?_)
    obtain ⟨j, hj, rfl⟩ := List.mem_iff_getElem.1 hx
    have hp := List.pairwise_iff_getElem.1 hok.up
    rw [List.length_append, List.length_take, List.length_drop, Nat.min_eq_left (by omega)] at hj
    by_cases hji : j < i
    · rw [List.getElem_append_left (by simp; omega), List.getElem_take]
      exact (hp j i (by omega) hi hji).2
    · rw [List.getElem_append_right (by simp; omega), List.getElem_drop]
      exact fun e => (hp i _ hi (by simp; omega) (by simp; omega)).2 e.symm
  have HM1 := Lib.hid (show FromAt w1 mb (t.L.eraseIdx i) t.last from ⟨n, _, hown1, hnl, hD1⟩)
  have HKM := Lib.hid hK.ap
  have HDIS := Lib.hid hK.dis
  have HKEPT1 := Lib.hid (HK1.out.heap hK.kept (by simp; exact hK.ap))
  have HROW1 := Lib.hid (hK.row.keeps HK1.out (fun q hq hb => by have := (hK.dis q hq).2; simp at hb; omega))
  have HCALL := Lib.hid (rowsDelete_any w1 HROW1.out hfew i hi)
  have HI := Lib.hid hi
  have HG := Lib.hid (hK.dis g (by simp [own, Value.ownBlock])).2
  have hi2 : (i : Int) < t.L.length := by omega
  clear hK hown hnl hD hown1 hturn1 hD1 hcell hri hrun1 hok c2
  generalize hrid : t.L[i].id = rid at *
  clear hrid
  go_enter Try.func34, Try.ntmps34
  go_wp2_with fail
  obtain ⟨S, hS⟩ : ∃ S : World → Prop, S = fun y => Keeps [mb] w y := ⟨_, rfl⟩
  have HSE := Lib.hid hS
  have hSD : S w.drew := by rw [hS]; exact (Keeps.refl _ _).drew
  have HS0 := Lib.hid (fun (w' : World) (h : S w') => show w'.cell? ⟨kb, 0, none⟩ = some (.slice (some ⟨g, 0, none⟩) t.L.length cap) from by rw [hS] at h; exact h.cell c0 (by simp; exact HKM.out))
  have HS1 := Lib.hid (fun (w' : World) (h : S w') => show w'.cell? ⟨kb, 1, none⟩ = some (.map (some mb)) from by rw [hS] at h; exact h.cell c1 (by simp; exact HKM.out))
  have HS2 := Lib.hid (fun (w' : World) (h : S w') => show w'.cell? ⟨g, i * 12 + 1, none⟩ = some (.int .u16 rid) from by rw [hS] at h; exact h.cell d1 (by simp; exact HG.out))
  clear hS c0 c1 d1
  refine wp_region_noPanic ?_
  refine wp_region_held_drew (S := S) (by kernel_rfl) hSD (fun hHeld => ?_)
  apply wpAnyH_take (i := 0)
  · simp only [List.getElem?_toArray]; rfl
  · kernel_rfl
  · kernel_rfl
  · kernel_rfl
  · exact fun _ _ _ h => h
  · exact Or.inl ⟨by rfl, by intro w hSw; go_simp; try with_reducible rfl⟩
  · assumption
  try simp only [Act.put, List.setIfInBounds_toArray, List.set_cons_zero, List.set_cons_succ]
  apply wpAnyH_take (i := 1)
  · simp only [List.getElem?_toArray]; rfl
  · kernel_rfl
  · kernel_rfl
  · kernel_rfl
  · exact fun _ _ _ h => h
  · exact Or.inl ⟨by rfl, by intro w hSw; go_simp; try with_reducible rfl⟩
  · assumption
  try simp only [Act.put, List.setIfInBounds_toArray, List.set_cons_zero, List.set_cons_succ]
  apply wpAnyH_take (i := 2)
  · simp only [List.getElem?_toArray]; rfl
  · kernel_rfl
  · kernel_rfl
  · kernel_rfl
  · exact fun _ _ _ h => h
  · exact Or.inl ⟨by rfl, by intro w hSw; go_simp; try with_reducible rfl⟩
  · assumption
  try simp only [Act.put, List.setIfInBounds_toArray, List.set_cons_zero, List.set_cons_succ]
  apply wpAnyH_take (i := 3)
  · simp only [List.getElem?_toArray]; rfl
  · kernel_rfl
  · kernel_rfl
  · kernel_rfl
  · exact fun _ _ _ h => h
  · exact Or.inl ⟨by rfl, by intro w hSw; have q0 := HS1.out w hSw; go_simp; try with_reducible rfl⟩
  · assumption
  try simp only [Act.put, List.setIfInBounds_toArray, List.set_cons_zero, List.set_cons_succ]
  apply wpAnyH_take (i := 4)
  · simp only [List.getElem?_toArray]; rfl
  · kernel_rfl
  · kernel_rfl
  · kernel_rfl
  · exact fun _ _ _ h => h
  · exact Or.inl ⟨by rfl, by intro w hSw; go_simp; try with_reducible rfl⟩
  · assumption
  try simp only [Act.put, List.setIfInBounds_toArray, List.set_cons_zero, List.set_cons_succ]
  apply wpAnyH_take (i := 5)
  · simp only [List.getElem?_toArray]; rfl
  · kernel_rfl
  · kernel_rfl
  · kernel_rfl
  · exact fun _ _ _ h => h
  · exact Or.inl ⟨by rfl, by intro w hSw; go_simp; try with_reducible rfl⟩
  · assumption
  try simp only [Act.put, List.setIfInBounds_toArray, List.set_cons_zero, List.set_cons_succ]
  apply wpAnyH_take (i := 6)
  · simp only [List.getElem?_toArray]; rfl
  · kernel_rfl
  · kernel_rfl
  · kernel_rfl
  · exact fun _ _ _ h => h
  · exact Or.inl ⟨by rfl, by intro w hSw; go_simp; try with_reducible rfl⟩
  · assumption
  try simp only [Act.put, List.setIfInBounds_toArray, List.set_cons_zero, List.set_cons_succ]
  apply wpAnyH_take (i := 7)
  · simp only [List.getElem?_toArray]; rfl
  · kernel_rfl
  · kernel_rfl
  · kernel_rfl
  · exact fun _ _ _ h => h
  · exact Or.inl ⟨by rfl, by intro w hSw; have q0 := HS0.out w hSw; go_simp; try with_reducible rfl⟩
  · assumption
  try simp only [Act.put, List.setIfInBounds_toArray, List.set_cons_zero, List.set_cons_succ]
  apply wpAnyH_take (i := 8)
  · simp only [List.getElem?_toArray]; rfl
  · kernel_rfl
  · kernel_rfl
  · kernel_rfl
  · exact fun _ _ _ h => h
  · exact Or.inl ⟨by rfl, by intro w hSw; go_simp; try with_reducible rfl⟩
  · assumption
  try simp only [Act.put, List.setIfInBounds_toArray, List.set_cons_zero, List.set_cons_succ]
  apply wpAnyH_take (i := 9)
  · simp only [List.getElem?_toArray]; rfl
  · kernel_rfl
  · kernel_rfl
  · kernel_rfl
  · exact fun _ _ _ h => h
  · exact Or.inl ⟨by rfl, by intro w hSw; go_simp; try with_reducible rfl⟩
  · assumption
  try simp only [Act.put, List.setIfInBounds_toArray, List.set_cons_zero, List.set_cons_succ]
  apply wpAnyH_take (i := 10)
  · simp only [List.getElem?_toArray]; rfl
  · kernel_rfl
  · kernel_rfl
  · kernel_rfl
  · exact fun _ _ _ h => h
  · exact Or.inl ⟨by rfl, by intro w hSw; go_simp; try with_reducible rfl⟩
  · assumption
  try simp only [Act.put, List.setIfInBounds_toArray, List.set_cons_zero, List.set_cons_succ]
  apply wpAnyH_take (i := 11)
  · simp only [List.getElem?_toArray]; rfl
  · kernel_rfl
  · kernel_rfl
  · kernel_rfl
  · exact fun _ _ _ h => h
  · exact Or.inl ⟨by rfl, by intro w hSw; have q0 := HS2.out w hSw; go_simp; try with_reducible rfl⟩
  · assumption
  try simp only [Act.put, List.setIfInBounds_toArray, List.set_cons_zero, List.set_cons_succ]
  apply wpAnyH_ready (rs := [12])
  · kernel_rfl
  · simp
  apply AllReadyH.cons (hs := AllReadyH.nil)
  · simp only [List.getElem?_toArray]; rfl
  intro K hK
  rw [if_pos (by rfl)]
  refine wp_delete_run 75 28 rfl rfl rfl HRUN1.out ?_
  refine hK.out _ _ ?_ (fun hHeld => ?_)
  · exact (by rw [HSE.out]; exact HK1.out)
  clear hK K
  try simp only [Act.put, List.setIfInBounds_toArray, List.set_cons_zero, List.set_cons_succ]
  refine wpAnyH_done (by kernel_rfl) ?_ _
  refine NoPanic.normal ?_
  clear hHeld hSD HS0 HS1 HS2 HSE
  have g0 : w1.cell? ⟨kb, 0, none⟩ = some (.slice (some ⟨g, 0, none⟩) t.L.length cap) := by simp [World.cell?, HKEPT1.out]
  go_wp2_with fail
  refine (HCALL.out).mono ?_; rintro e w2 ⟨v', rfl, hrow2, hk2, hsub⟩
  have hkept2 := hk2.heap HKEPT1.out (fun hq => (HDIS.out kb hq).1 rfl)
  have g1 : w2.cell? ⟨kb, 0, none⟩ = some (.slice (some ⟨g, 0, none⟩) t.L.length cap) := by simp [World.cell?, hkept2]
  have g2 : w2.frozen? ⟨kb, 0, none⟩ = false := by simp [World.frozen?, hkept2]
  have k3 : Keeps [kb] w2 (w2.setCell ⟨kb, 0, none⟩ v') := (Keeps.refl [kb] w2).setCell _ _ (.inl (by simp))
  have HFIN := Lib.hid (show KPost kb mb w (.slice (some ⟨g, 0, none⟩) t.L.length cap) ⟨t.L.eraseIdx i, t.last⟩ (w2.setCell ⟨kb, 0, none⟩ v') from by
    refine ⟨v', ⟨?_, ?_, ?_, HKM.out, fun q hq => HDIS.out q (hsub q hq)⟩, ?_, fun q hq => .inl (hsub q hq)⟩
    · rw [heap_setCell_same w2 kb 0 _ _ _ hkept2]; rfl
    · exact hrow2.keeps k3 (fun q hq hb => by have := (HDIS.out q (hsub q hq)).1; simp at hb; omega)
    · exact ((HM1.out).keeps hk2 (fun hq => (HDIS.out mb hq).2 rfl)).keeps k3 (by simp; exact Ne.symm HKM.out)
    · refine (((HK1.out.more (by simp)).step (hk2.more (fun q hq => List.mem_cons_of_mem _ (List.mem_cons_of_mem _ hq))) (fun q hq => hq)).step (k3.more (by simp)) (fun q hq => hq)))
  obtain ⟨a9, c9, rfl, -, -⟩ := hrow2.shape
  clear hkept2 k3 hrow2 hk2 hsub HM1 HROW1 HKEPT1 g0
  go_wp2_with fail
  go_end0
  exact ⟨rfl, HFIN.out⟩
end Go.Proofs.Ytjiglbjpmclncaa
/-
  Rows that are thinned out where they stand.
-/
namespace Go.Proofs.Ytjiglbjpmclncaa
open Go.RowKit Go.Maps
/-- Of the rows L, the first k are worked off: F of them stay, at the beginning of the same block. -/
def RK.Mid {α : Type} (R : RK α) (w : World) (a : Option Addr) (cap : Nat) (L : List α) (k : Nat) (F : List α) : Prop :=
  L.length ≤ cap ∧ cap ≤ maxLen ∧ F.length ≤ k ∧ k ≤ L.length ∧ ((a = none ∧ cap = 0) ∨ ∃ g X Z, a = some ⟨g, 0, none⟩ ∧ w.heap[g]? = some (.cells (R.row F ++ (X ++ (R.row (L.drop k) ++ Z))).toArray R.T (0, 0)) ∧ X.length + F.length * R.s = k * R.s ∧ L.length * R.s + Z.length = cap * R.s)
section
variable {α : Type} {R : RK α} {w : World} {a : Option Addr} {cap : Nat} {L F : List α} {k : Nat}
theorem RK.Own.mid {v : Value} (h : R.Own 0 w v L) : ∃ a cap, v = .slice a L.length cap ∧ R.Mid w a cap L 0 [] := by
  rcases h.2 with ⟨rfl, h0⟩ | ⟨g, cap, cur, rfl, hb, hh, hc, hm, hcs, htk⟩
  · exact ⟨none, 0, by rw [h0], by omega, by decide, Nat.le_refl _, Nat.zero_le _, .inl ⟨rfl, rfl⟩⟩
  · refine ⟨_, cap, rfl, hc, hm, Nat.le_refl _, Nat.zero_le _, .inr ⟨g, [], cur.toList.drop (L.length * R.s), rfl, ?_, by simp, ?_⟩⟩
    · rw [hh]
      have : R.row ([] : List α) ++ ([] ++ (R.row (L.drop 0) ++ cur.toList.drop (L.length * R.s))) = cur.toList := by
        show R.row L ++ _ = _
        rw [← htk, List.take_append_drop]
      rw [this]
    · have h1 : L.length * R.s ≤ cap * R.s := Nat.mul_le_mul_right _ hc
      have h2 : cur.toList.length = cap * R.s := hcs
      rw [List.length_drop, h2]; omega
theorem RK.Mid.keeps {w' : World} {G : List Nat} (h : R.Mid w a cap L k F) (hk : Keeps G w w') (hG : ∀ q ∈ own (.slice a 0 0), q ∉ G) : R.Mid w' a cap L k F := by
  obtain ⟨h1, h2, h3, h4, h5⟩ := h
  refine ⟨h1, h2, h3, h4, ?_⟩
  rcases h5 with h5 | ⟨g, X, Z, rfl, hh, hr⟩
  · exact .inl h5
  · exact .inr ⟨g, X, Z, rfl, hk.heap hh (hG g (by simp [own, Value.ownBlock])), hr⟩
theorem RK.Mid.at_ (h : R.Mid w a cap L k F) (hk : k < L.length) : ∃ g, a = some ⟨g, 0, none⟩ ∧ g < w.heap.size ∧ w.rangeAt g (k * R.s) (R.cs L[k]) := by
  obtain ⟨h1, h2, h3, h4, h5⟩ := h
  rcases h5 with ⟨rfl, h5⟩ | ⟨g, X, Z, rfl, hh, hx, hz⟩
  · omega
  · refine ⟨g, rfl, lt_of_block hh, fun j u hj => ?_⟩
    have hjl : j < (R.cs L[k]).length := (List.getElem?_eq_some_iff.1 hj).1
    have hFl := R.row_len F
    have hd : R.row (L.drop k) = R.cs L[k] ++ R.row (L.drop (k + 1)) := by rw [List.drop_eq_getElem_cons hk]; rfl
    simp only [World.cell?, hh]
    have : (R.row F ++ (X ++ (R.row (L.drop k) ++ Z)))[k * R.s + j]? = some u := by
      rw [List.getElem?_append_right (by omega), List.getElem?_append_right (by omega), hd, List.append_assoc, List.getElem?_append_left (by omega), ← hj]
      congr 1; omega
    simpa using this
theorem RK.Mid.skip (h : R.Mid w a cap L k F) (hk : k < L.length) : R.Mid w a cap L (k + 1) F := by
  obtain ⟨h1, h2, h3, h4, h5⟩ := h
  refine ⟨h1, h2, by omega, hk, ?_⟩
  rcases h5 with h5 | ⟨g, X, Z, rfl, hh, hx, hz⟩
  · exact .inl h5
  · refine .inr ⟨g, X ++ R.cs L[k], Z, rfl, ?_, ?_, hz⟩
    · rw [hh]
      have hd : R.row (L.drop k) = R.cs L[k] ++ R.row (L.drop (k + 1)) := by rw [List.drop_eq_getElem_cons hk]; rfl
      rw [hd]; simp only [List.append_assoc]
    · rw [List.length_append, R.len, Nat.add_mul]; omega
theorem RK.Mid.put (h : R.Mid w a cap L k F) (hk : k < L.length) : ∃ W, (Builtin.append_ #[R.Sl, R.Sl] R.Sl #[.slice a F.length cap, .slice (some ⟨w.heap.size, 0, none⟩) 1 1]).run Try.prog (w.alloc (.cells (R.cs L[k]).toArray R.T)) = .ok (.slice a (F.length + 1) cap) W ∧ R.Mid W a cap L (k + 1) (F ++ [L[k]]) ∧ Keeps (own (.slice a 0 0)) w W := by
  have hall := h
  obtain ⟨h1, h2, h3, h4, h5⟩ := h
  rcases h5 with ⟨rfl, h5⟩ | ⟨g, X, Z, rfl, hh, hx, hz⟩
  · omega
  · have hg := lt_of_block hh
    have hFl := R.row_len F
    have hd : R.row (L.drop k) = R.cs L[k] ++ R.row (L.drop (k + 1)) := by rw [List.drop_eq_getElem_cons hk]; rfl
    rw [hd] at hh
    have hlk : (R.cs L[k]).length = R.s := R.len _
    have hlr : (R.row (L.drop (k + 1))).length = (L.length - (k + 1)) * R.s := by rw [R.row_len, List.length_drop]
    have htot : k * R.s + (R.s + (L.length - (k + 1)) * R.s) = L.length * R.s := by
      have : L.length = k + (1 + (L.length - (k + 1))) := by omega
      conv => rhs; rw [this]
      simp only [Nat.add_mul, Nat.one_mul]
    have hFk : F.length * R.s ≤ k * R.s := Nat.mul_le_mul_right _ h3
    have hh2 : (w.alloc (.cells (R.cs L[k]).toArray R.T)).heap[g]? = some (.cells (R.row F ++ (X ++ (R.cs L[k] ++ R.row (L.drop (k + 1)) ++ Z))).toArray R.T (0, 0)) := heap_alloc_lt hh
    have hnew := heap_alloc_new w (.cells (R.cs L[k]).toArray R.T)
    have hr := run_append_room (P := Try.prog) (w.alloc (.cells (R.cs L[k]).toArray R.T)) R.Sl R.Sl R.T R.i R.und R.hi g F.length cap _ hh2 ⟨w.heap.size, 0, none⟩ 1 1 (R.cs L[k]) (by rw [hlk, R.hs, Nat.one_mul])
      (fun j u hj => by rw [Addr.add_mid, Nat.zero_add]; simp only [World.cell?, hnew]; simpa using hj) (R.one _) (by omega) (by
        rw [R.hs]; simp only [List.size_toArray, List.length_append, hlk, hlr, hFl]; omega)
    refine ⟨_, hr, ?_, ((Keeps.refl _ w).alloc _).setRow g _ (.inl (by simp [own, Value.ownBlock]))⟩
    refine ⟨h1, h2, by simp; omega, hk, .inr ⟨g, (X ++ R.cs L[k]).drop R.s, Z, rfl, ?_, ?_, hz⟩⟩
    · rw [setRow_heap _ g _ _ R.T (0, 0) hh2]
      congr 2
      rw [R.hs]
      have e1 : (R.row F ++ (X ++ (R.cs L[k] ++ R.row (L.drop (k + 1)) ++ Z))).take (F.length * R.s) = R.row F := List.take_left' hFl
      have e2 : (R.row F ++ (X ++ (R.cs L[k] ++ R.row (L.drop (k + 1)) ++ Z))).drop (F.length * R.s + (R.cs L[k]).length) = (X ++ R.cs L[k]).drop R.s ++ (R.row (L.drop (k + 1)) ++ Z) := by
        rw [← hFl, hlk, List.drop_append, List.drop_of_length_le (by omega), List.nil_append]
        have e3 : (R.row F).length + R.s - (R.row F).length = R.s := by omega
        rw [e3]
        have e4 : X ++ (R.cs L[k] ++ R.row (L.drop (k + 1)) ++ Z) = (X ++ R.cs L[k]) ++ (R.row (L.drop (k + 1)) ++ Z) := by simp only [List.append_assoc]
        rw [e4, List.drop_append_of_le_length (by rw [List.length_append, hlk]; omega)]
      show (List.take (F.length * R.s) _ ++ R.cs L[k] ++ List.drop (F.length * R.s + (R.cs L[k]).length) _).toArray = _
      rw [e1, e2, R.row_app]
      simp [RK.row]
    · rw [List.length_drop, List.length_append, List.length_append, hlk]
      simp only [List.length_cons, List.length_nil, Nat.add_mul, Nat.zero_add, Nat.one_mul]
      omega
theorem RK.Mid.done (h : R.Mid w a cap L L.length F) : R.Own 0 w (.slice a F.length cap) F := by
  obtain ⟨h1, h2, h3, h4, h5⟩ := h
  rcases h5 with ⟨rfl, rfl⟩ | ⟨g, X, Z, rfl, hh, hx, hz⟩
  · have : F = [] := List.eq_nil_of_length_eq_zero (by omega)
    subst this
    exact RK.Own.nil R _ _
  · refine ⟨R.row_len F, .inr ⟨g, cap, _, rfl, Nat.zero_le _, hh, by omega, h2, ?_, ?_⟩⟩
    · rw [List.drop_length]
      simp only [List.size_toArray, List.length_append, R.row_len, RK.row, List.flatMap_nil, List.length_nil]
      show (R.row F).length + _ = _
      rw [R.row_len]; omega
    · exact List.take_left' (R.row_len F)
end
end Go.Proofs.Ytjiglbjpmclncaa
