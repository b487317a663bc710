/-
  What is read of an event, whatever its kind.
-/
import Derived.Test.YtnehnbhdkhgakaaDoorG29
import Derived.Test.YtnehnbhdkhgakaaDoorG32
import Derived.Test.YtnehnbhdkhgakaaDoorG14
import Derived.Test.YtnehnbhdkhgakaaDoorG19
set_option linter.unusedSimpArgs false
set_option linter.unusedVariables false
namespace Go.Proofs.YtnehnbhdkhgakaaDoor
open Go.RowKit
/-- An event's fields, read behind the kind's byte, and the error. -/
def evRdX (L : List UInt8) (k : Int) : Ev :=
  let xs := nb L
  let e := whE xs 0 1
  let p := whP xs 0 1
  let x : Ev := { evZero with k := k, c := whC xs 0 1, id := whI xs 0 1 }
  let s := st 1 xs (e, p)
  let n := (vl 1 xs (e, p)).toNat
  if k = 1 then { evZero with k := k, g := cfG xs (0, 1) } else if k = 2 then { x with o := tkX (nb (restL L e p)) } else if k = 3 then { x with rk := tkK xs e p, rv := tkV xs e p } else
  if k = 5 then { x with t := misM xs n s } else if k = 6 then { x with r := lisL xs n s } else x
def evRdE (L : List UInt8) (k : Int) : Int :=
  let xs := nb L
  let e := whE xs 0 1
  let p := whP xs 0 1
  let s := st 1 xs (e, p)
  let n := (vl 1 xs (e, p)).toNat
  if k = 1 then (cfS xs (0, 1)).1 else if k = 2 then tkErr (nb (restL L e p)) else if k = 3 then tkE xs e p else
  if k = 5 then (misS xs n s).1 else if k = 6 then (lisS xs n s).1 else e
theorem micsC_get (l : List Mic) (j : Nat) (m : Mic) (h : l[j]? = some m) : (micsC l)[j * 3]? = some (.bool m.rd) ∧ (micsC l)[j * 3 + 1]? = some (.int .u8 m.key) ∧ (micsC l)[j * 3 + 2]? = some (.int .u16 m.v) := by
  induction l generalizing j with
  | nil => simp at h
  | cons a l ih =>
    have e : micsC (a :: l) = .bool a.rd :: .int .u8 a.key :: .int .u16 a.v :: micsC l := rfl
    rw [e]
    cases j with
    | zero => simp at h; subst h; exact ⟨rfl, rfl, rfl⟩
    | succ j =>
      have := ih j (by simpa using h)
      have e2 : (j + 1) * 3 = j * 3 + 1 + 1 + 1 := by omega
      rw [e2]
      simpa using this
theorem micsC_length (l : List Mic) : (micsC l).length = l.length * 3 := by
  induction l with
  | nil => rfl
  | cons a l ih =>
    have e : micsC (a :: l) = .bool a.rd :: .int .u8 a.key :: .int .u16 a.v :: micsC l := rfl
    rw [e]; simp only [List.length_cons, ih]; omega
/-- Rows as the lists of an event. -/
theorem mics_row {W : World} {base : Nat} {v : Value} {l : List Mic} (h : W.ownsRow base 34 3 v l.length (micsC l)) : Mics W.heap.size W v l := by
  rcases h.2 with ⟨rfl, hn⟩ | ⟨g, cap, cur, rfl, _, hh, hc, hm, hcs, htk⟩
  · have : l = [] := List.eq_nil_of_length_eq_zero hn
    subst this
    exact Mics.nil _ _
  · refine ⟨_, cap, rfl, hc, by unfold maxLen at hm; omega, fun _ => ⟨g, 0, rfl, lt_of_block hh, fun j m hj => ?_⟩⟩
    have hjl : j < l.length := (List.getElem?_eq_some_iff.1 hj).1
    obtain ⟨e1, e2, e3⟩ := micsC_get l j m hj
    have hget : ∀ i v, (micsC l)[i]? = some v → W.cell? ⟨g, i, none⟩ = some v := by
      intro i v hi
      rw [← htk, List.getElem?_take] at hi
      split at hi
      · simp only [World.cell?, hh]
        simpa using hi
      · cases hi
    simp only [Nat.zero_add]
    exact ⟨hget _ _ e1, hget _ _ e2, hget _ _ e3⟩
theorem nums_row {W : World} {base : Nat} {v : Value} {l : List Int} (h : W.ownsRow base 22 1 v l.length (l.map (.int .u16))) : Nums W.heap.size W v l := by
  rcases h.2 with ⟨rfl, hn⟩ | ⟨g, cap, cur, rfl, _, hh, hc, hm, hcs, htk⟩
  · have : l = [] := List.eq_nil_of_length_eq_zero hn
    subst this
    exact ⟨none, 0, rfl, Nat.le_refl _, by decide, fun h => absurd rfl h⟩
  · refine ⟨_, cap, rfl, hc, by unfold maxLen at hm; omega, fun _ => ⟨g, 0, rfl, lt_of_block hh, fun j hj => ?_⟩⟩
    have := h.cells (g := g) rfl j (.int .u16 (l.getD j 0)) (by simp [hj, List.getD])
    have ha : ((⟨g, 0, none⟩ : Addr).add j) = ⟨g, 0 + j, none⟩ := by unfold Addr.add; split <;> simp_all
    rw [ha] at this
    exact this
theorem lists_row {W : World} {base : Nat} {v : Value} {us : List Value} {l : List (List Int)} (h : W.ownsRow base 35 1 v l.length us) (hi : Inner base W us l) : Lists W.heap.size W v l := by
  rcases h.2 with ⟨rfl, hn⟩ | ⟨g, cap, cur, rfl, _, hh, hc, hm, hcs, htk⟩
  · have : l = [] := List.eq_nil_of_length_eq_zero hn
    subst this
    exact Lists.nil _ _
  · refine ⟨_, cap, rfl, hc, by unfold maxLen at hm; omega, fun _ => ⟨g, 0, rfl, lt_of_block hh, fun j hj => ⟨us.getD j undef, ?_, nums_row (hi.2 j hj)⟩⟩⟩
    have := h.cells (g := g) rfl j (us.getD j undef) (by simp [List.getD, List.getElem?_eq_getElem (show j < us.length by rw [hi.1]; exact hj)])
    have ha : ((⟨g, 0, none⟩ : Addr).add j) = ⟨g, 0 + j, none⟩ := by unfold Addr.add; split <;> simp_all
    rw [ha] at this
    exact this
/-- The lists of an event that was read stay, whatever becomes of older blocks. -/
def EvKeeps (base : Nat) (W : World) (tx rd : Value) (x : Ev) : Prop := ∀ (F : List Nat) (W' : World), Keeps F W W' → (∀ q ∈ F, q < base) → EvAt W'.heap.size W' tx rd x
theorem read_any5 (w : World) (hG : Glob4 w) (b r g cap : Nat) (hb0 : 0 ≠ b) (hr0 : 0 ≠ r) (L : List UInt8) (hL : L.length ≤ 2500) (k : Int) (k1 : 1 ≤ k) (k7 : k ≤ 7) (h : Rdg b r g cap (nb L) w w 0 1 { evZero with k := k } (.slice none 0 0) (.slice none 0 0)) (hx : InU8 (nb L))
    (hb : b < w.heap.size) (hr : r < w.heap.size) (hg : g < w.heap.size) :
    Calls Tryd.prog (kRead k) #[.pointer (some ⟨r, 0, none⟩), .pointer (some ⟨b, 0, none⟩)] w fun z W => ∃ e' p' tx rd, RPost b r g cap (nb L) w (evRdE L k) e' p' (evRdX L k) tx rd z W ∧ EvKeeps w.heap.size W tx rd (evRdX L k) := by
  have hl : (nb L).length ≤ 1000000 := by rw [nb_length]; omega
  have v1 : 0 ≤ vl 1 (nb L) (whE (nb L) 0 1, whP (nb L) 0 1) := (rdVal1_b hx _ _).1
  rcases (by omega : k = 1 ∨ k = 2 ∨ k = 3 ∨ k = 4 ∨ k = 5 ∨ k = 6 ∨ k = 7) with rfl | rfl | rfl | rfl | rfl | rfl | rfl
  · exact (readConfigure_any w w b r g cap 1 (nb L) 0 _ _ _ h hx hl).mono fun z W hp => ⟨_, _, _, _, hp, fun _ _ _ _ => ⟨Mics.nil _ _, Lists.nil _ _⟩⟩
  · exact (readInvoke_any w w hG b r g cap 1 hb0 hr0 L hL 0 _ _ _ h hx).mono fun z W ⟨e', p', hp⟩ => ⟨_, _, _, _, hp, fun _ _ _ _ => ⟨Mics.nil _ _, Lists.nil _ _⟩⟩
  · exact (readReturn_any w w b r g cap 1 (nb L) 0 _ _ _ h hx hl).mono fun z W hp => ⟨_, _, _, _, hp, fun _ _ _ _ => ⟨Mics.nil _ _, Lists.nil _ _⟩⟩
  · exact (readWho_any w w b r g cap 1 (nb L) 0 _ _ _ h hx hl).mono fun z W hp => ⟨_, _, _, _, hp, fun _ _ _ _ => ⟨Mics.nil _ _, Lists.nil _ _⟩⟩
  · exact (readBegin_any w w b r g cap 1 (nb L) 0 _ _ h hx hl hb hr hg _ (Int.toNat_of_nonneg v1) _ rfl).mono fun z W ⟨tx, hp, hrow⟩ => ⟨_, _, _, _, hp, fun F W' hk hF => ⟨mics_row (by rw [show (evRdX L 5).t = misM (nb L) (vl 1 (nb L) (whE (nb L) 0 1, whP (nb L) 0 1)).toNat (st 1 (nb L) (whE (nb L) 0 1, whP (nb L) 0 1)) from rfl, misM_length]; exact row_old hrow hk (fun q hq hf => by have h1 := (row_base hrow q hq).1; have h2 := hF q hf; omega)), Lists.nil _ _⟩⟩
  · exact (readCommit_any w w b r g cap 1 (nb L) 0 _ _ h hx hl hb hr hg _ (Int.toNat_of_nonneg v1) _ rfl).mono fun z W ⟨tx, us, hp, hrow, hin⟩ => ⟨_, _, _, _, hp, fun F W' hk hF => ⟨Mics.nil _ _, lists_row (by rw [show (evRdX L 6).r = lisL (nb L) (vl 1 (nb L) (whE (nb L) 0 1, whP (nb L) 0 1)).toNat (st 1 (nb L) (whE (nb L) 0 1, whP (nb L) 0 1)) from rfl, lisL_length]; exact row_old hrow hk (fun q hq hf => by have h1 := (row_base hrow q hq).1; have h2 := hF q hf; omega)) (hin.keeps hk (fun q hq => .inl (hF q hq)))⟩⟩
  · exact (readWho_any w w b r g cap 1 (nb L) 0 _ _ _ h hx hl).mono fun z W hp => ⟨_, _, _, _, hp, fun _ _ _ _ => ⟨Mics.nil _ _, Lists.nil _ _⟩⟩
end Go.Proofs.YtnehnbhdkhgakaaDoor
/-
  The program's Take of an event.
-/
namespace Go.Proofs.YtnehnbhdkhgakaaDoor
open Go.RowKit
theorem miM_in {xs : List Int} (hx : InU8 xs) (s : Int × Nat) : (miM xs s).In := by
  have h1 : 0 ≤ vl 1 xs s ∧ vl 1 xs s < 256 := rdVal1_b hx _ _
  have h2 : 0 ≤ vl 2 xs (st 1 xs s) ∧ vl 2 xs (st 1 xs s) < 65536 := rdVal2_b hx _ _
  unfold miM
  split
  · exact ⟨by simp only; omega, by simp only; omega, by simp, by simp⟩
  · exact ⟨h1.1, h1.2, h2.1, h2.2⟩
theorem misM_in {xs : List Int} (hx : InU8 xs) (s : Int × Nat) : ∀ n, ∀ m ∈ misM xs n s, m.In
  | 0, m, h => by simp [misM] at h
  | n + 1, m, h => by
    simp only [misM, List.mem_append, List.mem_cons, List.not_mem_nil, or_false] at h
    rcases h with h | rfl
    · exact misM_in hx s n m h
    · exact miM_in hx _
theorem rlist_in {xs : List Int} (hx : InU8 xs) (e : Int) (p : Nat) : InU16 (rlist xs e p) := by
  intro j
  unfold rlist
  split
  · unfold lnums
    generalize (xs.getD p 0).toNat = n
    by_cases hj : j < n
    · have : ((List.range n).map (lnum xs (p + 1))).getD j 0 = lnum xs (p + 1) j := by simp [List.getD, hj]
      rw [this]
      unfold lnum
      have h1 := hx (p + 1 + 2 * j); have h2 := hx (p + 1 + 2 * j + 1)
      omega
    · have : ((List.range n).map (lnum xs (p + 1))).getD j 0 = 0 := by rw [List.getD_eq_getElem?_getD, List.getElem?_eq_none (by simp; omega)]; rfl
      rw [this]; omega
  · simp
theorem lisL_in {xs : List Int} (hx : InU8 xs) (s : Int × Nat) : ∀ n, ∀ l ∈ lisL xs n s, InU16 l
  | 0, l, h => by simp [lisL] at h
  | n + 1, l, h => by
    simp only [lisL, List.mem_append, List.mem_cons, List.not_mem_nil, or_false] at h
    rcases h with h | rfl
    · exact lisL_in hx s n l h
    · exact rlist_in hx _ _
theorem rs_in {xs : List Int} (hx : InU8 xs) (e : Int) (p : Nat) : 0 ≤ tkK xs e p ∧ tkK xs e p < 256 ∧ 0 ≤ tkV xs e p ∧ tkV xs e p < 65536 := by
  obtain ⟨K, V, E2, _, _, _, k0, k1, v0, v1, h⟩ := tk_cases xs e p hx
  rcases h with ⟨_, _, h1, h2⟩ | ⟨_, _, _, h1, h2⟩ | ⟨_, _, _, h1, h2⟩ <;> rw [h1, h2] <;> omega
theorem nb_in (L : List UInt8) : InU8 (nb L) := by
  intro j
  rw [nb_getD]
  have := (L.getD j 0).toNat_lt
  omega
theorem m63 : (-9223372036854775808 : Int) ≤ 0 := by decide
theorem p63 : (0 : Int) ≤ 9223372036854775807 := by decide
theorem zeroEv_in {k c id : Int} (k0 : 0 ≤ k) (k1 : k < 256) (c0 : 0 ≤ c) (c1 : c < 256) (i0 : 0 ≤ id) (i1 : id < 65536) : ({ evZero with k := k, c := c, id := id } : Ev).In :=
  ⟨k0, k1, c0, c1, i0, i1, zero_in, n00, n08, n00, n16, (by intro m hm; simp [evZero] at hm), (by intro m hm; simp [evZero] at hm), n00, n08, m63, p63, m63, p63, m63, p63⟩
theorem evRdX_in (L : List UInt8) (k : Int) (k1 : 1 ≤ k) (k7 : k ≤ 7) : (evRdX L k).In := by
  have hx := nb_in L
  have hc : 0 ≤ whC (nb L) 0 1 ∧ whC (nb L) 0 1 < 256 := rdVal1_b hx _ _
  have hi : 0 ≤ whI (nb L) 0 1 ∧ whI (nb L) 0 1 < 65536 := rdVal2_b hx _ _
  have hz := zeroEv_in (k := k) (by omega) (by omega) hc.1 hc.2 hi.1 hi.2
  unfold evRdX
  simp only
  split
  · have z2 := zeroEv_in (k := k) (c := 0) (id := 0) (by omega) (by omega) (by decide) (by decide) (by decide) (by decide)
    have a1 : 0 ≤ vl 1 (nb L) (0, 1) ∧ vl 1 (nb L) (0, 1) < 256 := rdVal1_b hx _ _
    have a2 : 0 ≤ vl 1 (nb L) (st 1 (nb L) (st 1 (nb L) (0, 1))) ∧ vl 1 (nb L) (st 1 (nb L) (st 1 (nb L) (0, 1))) < 256 := rdVal1_b hx _ _
    have a3 : 0 ≤ vl 2 (nb L) (st 1 (nb L) (st 1 (nb L) (st 1 (nb L) (0, 1)))) ∧ vl 2 (nb L) (st 1 (nb L) (st 1 (nb L) (st 1 (nb L) (0, 1)))) < 65536 := rdVal2_b hx _ _
    have a4 : 0 ≤ vl 4 (nb L) (st 2 (nb L) (st 1 (nb L) (st 1 (nb L) (st 1 (nb L) (0, 1))))) ∧ vl 4 (nb L) (st 2 (nb L) (st 1 (nb L) (st 1 (nb L) (st 1 (nb L) (0, 1))))) < 4294967296 := rdVal4_b hx _ _
    exact { z2 with m0 := a1.1, m1 := a1.2, mo0 := by simp only [cfG]; omega, mo1 := by simp only [cfG]; omega, ms0 := by simp only [cfG]; omega, ms1 := by simp only [cfG]; omega, mt0 := by simp only [cfG]; omega, mt1 := by simp only [cfG]; omega }
  · split
    · exact { hz with o := tkX_in _ }
    · split
      · have h3 := rs_in hx (whE (nb L) 0 1) (whP (nb L) 0 1)
        exact { hz with rk0 := h3.1, rk1 := h3.2.1, rv0 := h3.2.2.1, rv1 := h3.2.2.2 }
      · split
        · exact { hz with t := misM_in hx _ _ }
        · split
          · exact { hz with r := lisL_in hx _ _ }
          · exact hz
/-- What bytes are read as. -/
noncomputable def evTkE (L : List UInt8) : Int :=
  if L = [] then 5 else if evKind ((L.getD 0 0).toNat : Int) = false then 4 else if evRdE L ((L.getD 0 0).toNat : Int) ≠ 0 then evRdE L ((L.getD 0 0).toNat : Int) else
  if evGood (evRdX L ((L.getD 0 0).toNat : Int)) = true ∧ evPut (evRdX L ((L.getD 0 0).toNat : Int)) = nb L then 0 else 4
noncomputable def evTkX (L : List UInt8) : Ev := if evTkE L = 0 then evRdX L ((L.getD 0 0).toNat : Int) else evZero
/-- What Take tells. -/
def TkPost (L : List UInt8) (w : World) (z : Ending) (W : World) : Prop := ∃ tx rd, z = .returned (.tuple #[.agg (evC (evTkX L) tx rd), .int .i64 (evTkE L)]) ∧ EvAt W.heap.size W tx rd (evTkX L) ∧ Keeps [] w W
theorem tk_bad {L : List UInt8} {w W : World} {E : Int} (hE : evTkE L = E) (h0 : E ≠ 0) (hk : Keeps [] w W) {z : Ending} (hz : z = .returned (.tuple #[.agg (evC evZero (.slice none 0 0) (.slice none 0 0)), .int .i64 E])) : TkPost L w z W := by
  subst hz
  have hX : evTkX L = evZero := by unfold evTkX; rw [hE, if_neg h0]
  exact ⟨_, _, by rw [hX, hE], by rw [hX]; exact ⟨Mics.nil _ _, Lists.nil _ _⟩, hk⟩
theorem zero_cells : (#[.int .u8 0, .int .u8 0, .int .u16 0, .int .u8 0, .int .u8 0, .int .u8 0, .int .u16 0, .int .u16 0, .int .u8 0, .int .u16 0, .slice none 0 0, .slice none 0 0, .int .u8 0, .int .i64 0, .int .i64 0, .int .i64 0, .bool false, .bool false, .bool false] : Array Value) = evC evZero (.slice none 0 0) (.slice none 0 0) := rfl
set_option maxHeartbeats 8000000 in
set_option maxRecDepth 100000 in
theorem Take5_nil (w : World) : Calls Tryd.prog 13 #[.string (bs [])] w (TkPost [] w) := by
  have hov := fun w => Over_any w (bs [])
  have hnl : nums (bs []) = nb [] := rfl
  rw [hnl] at hov
  have hx := nb_in []
  have hu8 := fun w r g cap h => RU8_any w r g cap 0 (nb []) 0 h hx (by simp [nb])
  have f1 : rdErr 1 (nb []) 0 0 = 5 := by decide
  have f2 : rdPos 1 (nb []) 0 0 = 0 := by decide
  have f3 : rdVal 1 (nb []) 0 0 = 0 := by decide
  rw [f1, f2, f3] at hu8
  have her := fun w r g cap h => Err_any w r g cap 0 (nb []) 5 h
  have hE : evTkE [] = 5 := rfl
  have HOV := Lib.hid hov; have HU8 := Lib.hid hu8; have HER := Lib.hid her; have HE := Lib.hid hE
  clear hov hnl hu8 f1 f2 f3 her hx hE
  have hR := heap_alloc_new w (.cells (evC evZero (.slice none 0 0) (.slice none 0 0)) 32)
  have hk0 := (Keeps.refl [] w).alloc (.cells (evC evZero (.slice none 0 0) (.slice none 0 0)) 32)
  have HR := Lib.hid hR; have HK0 := Lib.hid hk0
  clear hR hk0
  generalize bs [] = S at *
  go_enter Tryd.func13, Tryd.ntmps13
  go_wp2_with fail
  rw [zero_cells]
  refine (HOV.out _).mono ?_; rintro z w1 ⟨rfl, ⟨cap, hr1⟩, hk1⟩
  have HR1 := Lib.hid (hk1.heap HR.out (by simp))
  have HK1 := Lib.hid (HK0.out.trans hk1 (FSub.refl _ _))
  have HA1 := Lib.hid hr1
  have hz0 : w.heap.size < (w.alloc (.cells (evC evZero (.slice none 0 0) (.slice none 0 0)) 32)).heap.size := by simp
  clear HR HK0 hr1 hk1 HOV
  generalize (w.alloc (.cells (evC evZero (.slice none 0 0) (.slice none 0 0)) 32)).heap.size = g at *
  go_wp2_with fail
  refine (HU8.out _ _ _ _ HA1.out).mono ?_; rintro z w2 ⟨rfl, hr2, hk2⟩
  have HR2 := Lib.hid (hk2.heap HR1.out (by simp; omega))
  have HK2 := Lib.hid (HK1.out.trans hk2 (fun q hq => .inr (by simp at hq; omega)))
  have HA2 := Lib.hid hr2
  have hz2 : g + 1 < w2.heap.size := lt_of_block hr2.blk
  clear HR1 HK1 HA1 hr2 hk2 HU8
  go_wp2_with ((with_reducible apply wpList_put_ev); exact rfl; exact rfl; (first | assumption | (refine heap_alloc_lt ?_; assumption) | (refine heap_alloc_lt (heap_alloc_lt ?_); assumption) | exact heap_alloc_at (by simp)); exact ⟨rfl, rfl⟩; exact rfl)
  intro W3 hb3 hk3
  have hR3 := hk3.heap (heap_alloc_lt HR2.out) (by simp; omega)
  have HK3 := Lib.hid ((HK2.out.alloc _).trans hk3 (fun q hq => .inr (by have := HK2.out.size; simp at hq; omega)))
  have HA3 := Lib.hid ((HA2.out.keeps ((Keeps.refl [] w2).alloc _) (by simp) (by simp)).keeps hk3 (by simp; omega) (by simp; omega))
  clear HR2 HK2 HA2 hk3 hb3
  go_wp2_with fail
  refine (HER.out _ _ _ _ HA3.out).mono ?_; rintro z w4 ⟨rfl, rfl⟩
  clear HA3 HER
  go_wp2_with ((with_reducible apply wpList_put_ev); exact rfl; exact rfl; (first | assumption | (refine heap_alloc_lt ?_; assumption) | (refine heap_alloc_lt (heap_alloc_lt ?_); assumption) | exact heap_alloc_at (by simp)); exact ⟨rfl, rfl⟩; exact rfl)
  intro W5 hb5 hk5
  have HK5 := Lib.hid (HK3.out.trans hk5 (fun q hq => .inr (by simp at hq; omega)))
  clear HK3 hk5 hR3
  go_wp2_with fail
  try simp only [Exit.inBlock, Exit.then]
  exact bodyPost_ret (results_ev2 (x := evZero) rfl _ _ _ rfl hb5) rfl (tk_bad HE.out (by decide) HK5.out rfl)
set_option maxHeartbeats 8000000 in
set_option maxRecDepth 100000 in
theorem Take5_kindless (w : World) (c : UInt8) (l : List UInt8) (hL : (c :: l).length ≤ 2500) (hkd : ¬ (1 ≤ (c.toNat : Int) ∧ (c.toNat : Int) ≤ 7)) : Calls Tryd.prog 13 #[.string (bs (c :: l))] w (TkPost (c :: l) w) := by
  have hov := fun w => Over_any w (bs (c :: l))
  have hnl : nums (bs (c :: l)) = nb (c :: l) := by rw [nb_nums, bs_list]
  rw [hnl] at hov
  have hx := nb_in (c :: l)
  have hlen : 1 ≤ (nb (c :: l)).length := by rw [nb_length]; simp
  have hu8 := fun w r g cap h => RU8_any w r g cap 0 (nb (c :: l)) 0 h hx (by rw [nb_length]; omega)
  have f1 : rdErr 1 (nb (c :: l)) 0 0 = 0 := by unfold rdErr; rw [if_neg (by decide), if_pos (by omega)]
  have f2 : rdPos 1 (nb (c :: l)) 0 0 = 1 := by unfold rdPos; rw [if_pos ⟨rfl, by omega⟩]
  have f3 : rdVal 1 (nb (c :: l)) 0 0 = (c.toNat : Int) := by unfold rdVal; rw [if_pos ⟨rfl, by omega⟩, numOf_1 _ _ (by omega)]; rfl
  rw [f1, f2, f3] at hu8
  have her := fun w r g cap h => Err_any w r g cap 1 (nb (c :: l)) 0 h
  have hE : evTkE (c :: l) = 4 := by
    unfold evTkE
    rw [if_neg (by simp), if_pos]
    simp [evKind]; omega
  have hfi := fun w => find5_no w (c.toNat : Int) hkd
  have HOV := Lib.hid hov; have HU8 := Lib.hid hu8; have HER := Lib.hid her; have HE := Lib.hid hE; have HFI := Lib.hid hfi
  clear hov hnl hu8 f1 f2 f3 her hx hE hkd hfi hlen hL
  have hR := heap_alloc_new w (.cells (evC evZero (.slice none 0 0) (.slice none 0 0)) 32)
  have hk0 := (Keeps.refl [] w).alloc (.cells (evC evZero (.slice none 0 0) (.slice none 0 0)) 32)
  have HR := Lib.hid hR; have HK0 := Lib.hid hk0
  clear hR hk0
  generalize bs (c :: l) = S at *
  generalize (c.toNat : Int) = kk at *
  go_enter Tryd.func13, Tryd.ntmps13
  go_wp2_with fail
  rw [zero_cells]
  refine (HOV.out _).mono ?_; rintro z w1 ⟨rfl, ⟨cap, hr1⟩, hk1⟩
  have HR1 := Lib.hid (hk1.heap HR.out (by simp))
  have HK1 := Lib.hid (HK0.out.trans hk1 (FSub.refl _ _))
  have HA1 := Lib.hid hr1
  have hz0 : w.heap.size < (w.alloc (.cells (evC evZero (.slice none 0 0) (.slice none 0 0)) 32)).heap.size := by simp
  clear HR HK0 hr1 hk1 HOV
  generalize (w.alloc (.cells (evC evZero (.slice none 0 0) (.slice none 0 0)) 32)).heap.size = g at *
  go_wp2_with fail
  refine (HU8.out _ _ _ _ HA1.out).mono ?_; rintro z w2 ⟨rfl, hr2, hk2⟩
  have HR2 := Lib.hid (hk2.heap HR1.out (by simp; omega))
  have HK2 := Lib.hid (HK1.out.trans hk2 (fun q hq => .inr (by simp at hq; omega)))
  have HA2 := Lib.hid hr2
  have hz2 : g + 1 < w2.heap.size := lt_of_block hr2.blk
  clear HR1 HK1 HA1 hr2 hk2 HU8
  go_wp2_with ((with_reducible apply wpList_put_ev); exact rfl; exact rfl; (first | assumption | (refine heap_alloc_lt ?_; assumption) | (refine heap_alloc_lt (heap_alloc_lt ?_); assumption) | exact heap_alloc_at (by simp)); exact ⟨rfl, rfl⟩; exact rfl)
  intro W3 hb3 hk3
  have hR3 := hk3.heap (heap_alloc_lt HR2.out) (by simp; omega)
  have HK3 := Lib.hid ((HK2.out.alloc _).trans hk3 (fun q hq => .inr (by have := HK2.out.size; simp at hq; omega)))
  have HA3 := Lib.hid ((HA2.out.keeps ((Keeps.refl [] w2).alloc _) (by simp) (by simp)).keeps hk3 (by simp; omega) (by simp; omega))
  have hX3 : W3.heap[w2.heap.size]? = some (.cells (evC { evZero with k := kk } (.slice none 0 0) (.slice none 0 0)) 32 (0, 0)) := hb3
  have c0 := ev_cell hX3 0 (evC_0 _ _ _)
  clear HR2 HK2 HA2 hk3 hb3 hX3
  go_wp2_with fail
  refine (HER.out _ _ _ _ HA3.out).mono ?_; rintro z w4 ⟨rfl, rfl⟩
  clear HA3 HER
  go_wp2_with fail
  refine (HFI.out _).mono ?_; rintro z w5 ⟨rfl, hk5⟩
  have hR5 := hk5.heap hR3 (by simp)
  have HK5 := Lib.hid (HK3.out.trans hk5 (FSub.refl _ _))
  clear HK3 hk5 hR3 c0 HFI
  go_wp2_with ((with_reducible apply wpList_put_row (T := 55) 4); exact rfl; exact rfl; exact heap_alloc_at (by simp); exact ⟨rfl, rfl⟩; kernel_rfl; exact rfl)
  intro W6 hb6 hk6
  have hz5 := lt_of_block hR5
  have hR6 := hk6.heap (heap_alloc_lt hR5) (by simp; omega)
  have HK6 := Lib.hid ((HK5.out.alloc _).trans hk6 (fun q hq => .inr (by have := HK5.out.size; simp at hq; omega)))
  clear HK5 hk6 hb6 hR5
  go_wp2_with ((with_reducible apply wpList_put_ev); exact rfl; exact rfl; (first | assumption | (refine heap_alloc_lt ?_; assumption) | (refine heap_alloc_lt (heap_alloc_lt ?_); assumption) | exact heap_alloc_at (by simp)); exact ⟨rfl, rfl⟩; exact rfl)
  intro W7 hb7 hk7
  have HK7 := Lib.hid (HK6.out.trans hk7 (fun q hq => .inr (by simp at hq; omega)))
  clear HK6 hk7 hR6
  go_wp2_with fail
  try simp only [Exit.inBlock, Exit.then]
  exact bodyPost_ret (results_ev2 (x := evZero) rfl _ _ _ rfl hb7) rfl (tk_bad HE.out (by decide) HK7.out rfl)
end Go.Proofs.YtnehnbhdkhgakaaDoor
/-
  The program's Take of an event: where there is a kind.
-/
namespace Go.Proofs.YtnehnbhdkhgakaaDoor
open Go.RowKit
theorem be2_in {m : Int} (h0 : 0 ≤ m) (h1 : m < 65536) : ∀ n ∈ be2 m, byteNum n := by
  intro n hn; unfold byteNum; simp [be2] at hn; omega
theorem be4_in {m : Int} (h0 : 0 ≤ m) (h1 : m < 4294967296) : ∀ n ∈ be4 m, byteNum n := by
  intro n hn; unfold byteNum; simp [be4] at hn; omega
theorem beList_in {l : List Int} (hl : l.length ≤ 255) (h : InU16 l) : ∀ n ∈ beList l, byteNum n := by
  intro n hn
  simp only [beList, List.mem_cons, List.mem_flatMap] at hn
  rcases hn with rfl | ⟨m, hm, hn⟩
  · unfold byteNum; omega
  · obtain ⟨i, hi, rfl⟩ := List.getElem_of_mem hm
    have := h i
    rw [List.getD_eq_getElem?_getD, List.getElem?_eq_getElem hi] at this
    exact be2_in this.1 this.2 n hn
theorem evPut_in {x : Ev} (hx : x.In) (hg : evGood x = true) : ∀ n ∈ evPut x, byteNum n := by
  obtain ⟨⟨k1, k7⟩, hc, hf, -⟩ := good_of hg
  have hw : ∀ n ∈ whoPut x, byteNum n := by
    intro n hn
    simp only [whoPut, List.mem_cons] at hn
    rcases hn with rfl | hn
    · exact ⟨hx.c0, hx.c1⟩
    · exact be2_in hx.i0 hx.i1 n hn
  intro n hn
  simp only [evPut, List.mem_cons] at hn
  rcases hn with rfl | hn
  · unfold byteNum; omega
  · unfold evFits at hf
    unfold evBody at hn
    rcases (by omega : x.k = 1 ∨ x.k = 2 ∨ x.k = 3 ∨ x.k = 4 ∨ x.k = 5 ∨ x.k = 6 ∨ x.k = 7) with e | e | e | e | e | e | e <;> rw [e] at hf hn
    · have hf : cfgGood x.g = true := hf
      have hn : n ∈ cfgPut x.g := hn
      simp only [cfgGood, Bool.and_eq_true, decide_eq_true_eq] at hf
      obtain ⟨⟨⟨g1, g2⟩, g3⟩, g4⟩ := hf
      have fl := flagsOf_b x.g
      have m0 := hx.m0
      simp only [cfgPut, List.mem_append, List.mem_cons, List.not_mem_nil, or_false] at hn
      rcases hn with (hn | hn) | hn
      · unfold byteNum; omega
      · exact be2_in (by omega) (by omega) n hn
      · exact be4_in (by omega) (by omega) n hn
    · rcases List.mem_append.1 (show n ∈ whoPut x ++ opPut x.o from hn) with hn | hn
      · exact hw n hn
      · exact put_in hx.o n hn
    · rcases List.mem_append.1 (show n ∈ whoPut x ++ rsPut x.rk x.rv from hn) with hn | hn
      · exact hw n hn
      · exact rsPut_in hx.rk0 hx.rk1 hx.rv0 hx.rv1 n hn
    · exact hw n hn
    · have hf : micsGood x.t = true := hf
      simp only [micsGood, Bool.and_eq_true, decide_eq_true_eq, List.all_eq_true] at hf
      rcases List.mem_append.1 (show n ∈ whoPut x ++ ((x.t.length : Int) :: x.t.flatMap micPut) from hn) with hn | hn
      · exact hw n hn
      · simp only [List.mem_cons, List.mem_flatMap] at hn
        rcases hn with rfl | ⟨m, hm, hn⟩
        · unfold byteNum; omega
        · have hmi := hx.t m hm
          have hgm := hf.2 m hm
          simp [micGood] at hgm
          have h1 := hmi.k0
          unfold micPut at hn
          split at hn
          · simp at hn; unfold byteNum; omega
          · simp only [List.mem_cons] at hn
            rcases hn with rfl | hn
            · unfold byteNum; omega
            · exact be2_in hmi.v0 hmi.v1 n hn
    · have hf : listsGood x.r = true := hf
      simp only [listsGood, Bool.and_eq_true, decide_eq_true_eq, List.all_eq_true] at hf
      rcases List.mem_append.1 (show n ∈ whoPut x ++ ((x.r.length : Int) :: x.r.flatMap beList) from hn) with hn | hn
      · exact hw n hn
      · simp only [List.mem_cons, List.mem_flatMap] at hn
        rcases hn with rfl | ⟨m, hm, hn⟩
        · unfold byteNum; omega
        · exact beList_in (by have := hf.2 m hm; omega) (hx.r m hm) n hn
    · exact hw n hn
set_option maxHeartbeats 8000000 in
set_option maxRecDepth 100000 in
theorem Take5_kind (w : World) (hG : Glob4 w) (c : UInt8) (l : List UInt8) (hL : (c :: l).length ≤ 2500) (k1 : 1 ≤ (c.toNat : Int)) (k7 : (c.toNat : Int) ≤ 7) : Calls Tryd.prog 13 #[.string (bs (c :: l))] w (TkPost (c :: l) w) := by
  have hov := fun w => Over_any w (bs (c :: l))
  have hnl : nums (bs (c :: l)) = nb (c :: l) := by rw [nb_nums, bs_list]
  rw [hnl] at hov
  have hx := nb_in (c :: l)
  have hlen : 1 ≤ (nb (c :: l)).length := by rw [nb_length]; simp
  have hu8 := fun w r g cap h => RU8_any w r g cap 0 (nb (c :: l)) 0 h hx (by rw [nb_length]; omega)
  have f1 : rdErr 1 (nb (c :: l)) 0 0 = 0 := by unfold rdErr; rw [if_neg (by decide), if_pos (by omega)]
  have f2 : rdPos 1 (nb (c :: l)) 0 0 = 1 := by unfold rdPos; rw [if_pos ⟨rfl, by omega⟩]
  have f3 : rdVal 1 (nb (c :: l)) 0 0 = (c.toNat : Int) := by unfold rdVal; rw [if_pos ⟨rfl, by omega⟩, numOf_1 _ _ (by omega)]; rfl
  rw [f1, f2, f3] at hu8
  have her := fun w r g cap h => Err_any w r g cap 1 (nb (c :: l)) 0 h
  have hfi := fun w => find5_yes w (c.toNat : Int) k1 k7
  rw [kindOf_eq k1 k7] at hfi
  obtain ⟨en1, en2, en3, en4⟩ := enter_kinds k1 k7
  clear en1 en2 en3
  have hrdg := fun w hG b r g cap hb0 hr0 h hb hr hg => read_any5 w hG b r g cap hb0 hr0 (c :: l) hL (c.toNat : Int) k1 k7 h hx hb hr hg
  have hin := evRdX_in (c :: l) (c.toNat : Int) k1 k7
  have hkz : 0 < w.heap.size := by obtain ⟨t, fr, h⟩ := hG.kinds; exact lt_of_block h
  have hek : evKind (c.toNat : Int) = true := by simp [evKind]; omega
  have hEE : evRdE (c :: l) (c.toNat : Int) ≠ 0 → evTkE (c :: l) = evRdE (c :: l) (c.toNat : Int) := fun h => by
    unfold evTkE
    rw [if_neg (by simp), if_neg (by rw [show (c :: l).getD 0 0 = c from rfl, hek]; simp), if_pos (by exact h)]; rfl
  have hE0 : evRdE (c :: l) (c.toNat : Int) = 0 → evTkE (c :: l) = if evGood (evRdX (c :: l) (c.toNat : Int)) = true ∧ evPut (evRdX (c :: l) (c.toNat : Int)) = nb (c :: l) then 0 else 4 := fun h => by
    unfold evTkE
    rw [if_neg (by simp), if_neg (by rw [show (c :: l).getD 0 0 = c from rfl, hek]; simp), if_neg (by rw [show (c :: l).getD 0 0 = c from rfl]; simp [h])]; rfl
  have hX0 : evTkE (c :: l) = 0 → evTkX (c :: l) = evRdX (c :: l) (c.toNat : Int) := fun h => by unfold evTkX; rw [if_pos h]; rfl
  have HOV := Lib.hid hov; have HU8 := Lib.hid hu8; have HER := Lib.hid her; have HFI := Lib.hid hfi; have HRD := Lib.hid hrdg; have HIN := Lib.hid hin; have HEE := Lib.hid hEE; have HE0 := Lib.hid hE0; have HX0 := Lib.hid hX0; have HKZ := Lib.hid hkz
  clear hov hnl hu8 f1 f2 f3 her hx hfi hlen hL hrdg hin hkz hEE hE0 hX0 hek
  have hR := heap_alloc_new w (.cells (evC evZero (.slice none 0 0) (.slice none 0 0)) 32)
  have hk0 := (Keeps.refl [] w).alloc (.cells (evC evZero (.slice none 0 0) (.slice none 0 0)) 32)
  have HR := Lib.hid hR; have HK0 := Lib.hid hk0
  clear hR hk0
  have hbs := str_nb (c :: l)
  have HBS := Lib.hid hbs; clear hbs
  generalize bs (c :: l) = S at *
  generalize kNeed (c.toNat : Int) = KN at *
  generalize kFits (c.toNat : Int) = KF at *
  generalize kWrite (c.toNat : Int) = KW at *
  generalize kRead (c.toNat : Int) = KR at *
  generalize evRdE (c :: l) (c.toNat : Int) = EE at *
  generalize evRdX (c :: l) (c.toNat : Int) = XX at *
  generalize (c.toNat : Int) = kk at *
  go_enter Tryd.func13, Tryd.ntmps13
  go_wp2_with fail
  rw [zero_cells]
  refine (HOV.out _).mono ?_; rintro z w1 ⟨rfl, ⟨cap, hr1⟩, hk1⟩
  have HR1 := Lib.hid (hk1.heap HR.out (by simp))
  have HK1 := Lib.hid (HK0.out.trans hk1 (FSub.refl _ _))
  have HA1 := Lib.hid hr1
  have hz0 : w.heap.size < (w.alloc (.cells (evC evZero (.slice none 0 0) (.slice none 0 0)) 32)).heap.size := by simp
  clear HR HK0 hr1 hk1 HOV
  generalize (w.alloc (.cells (evC evZero (.slice none 0 0) (.slice none 0 0)) 32)).heap.size = g at *
  go_wp2_with fail
  refine (HU8.out _ _ _ _ HA1.out).mono ?_; rintro z w2 ⟨rfl, hr2, hk2⟩
  have HR2 := Lib.hid (hk2.heap HR1.out (by simp; omega))
  have HK2 := Lib.hid (HK1.out.trans hk2 (fun q hq => .inr (by simp at hq; omega)))
  have HA2 := Lib.hid hr2
  have hz2 : g + 1 < w2.heap.size := lt_of_block hr2.blk
  clear HR1 HK1 HA1 hr2 hk2 HU8
  go_wp2_with ((with_reducible apply wpList_put_ev); exact rfl; exact rfl; (first | assumption | (refine heap_alloc_lt ?_; assumption) | (refine heap_alloc_lt (heap_alloc_lt ?_); assumption) | exact heap_alloc_at (by simp)); exact ⟨rfl, rfl⟩; exact rfl)
  intro W3 hb3 hk3
  have hR3 := hk3.heap (heap_alloc_lt HR2.out) (by simp; omega)
  have HK3 := Lib.hid ((HK2.out.alloc _).trans hk3 (fun q hq => .inr (by have := HK2.out.size; simp at hq; omega)))
  have HA3 := Lib.hid ((HA2.out.keeps ((Keeps.refl [] w2).alloc _) (by simp) (by simp)).keeps hk3 (by simp; omega) (by simp; omega))
  have hX3 : W3.heap[w2.heap.size]? = some (.cells (evC { evZero with k := kk } (.slice none 0 0) (.slice none 0 0)) 32 (0, 0)) := hb3
  have c0 := ev_cell hX3 0 (evC_0 _ _ _)
  have hz3 := lt_of_block hX3
  have hz4 := HK2.out.size
  clear HR2 HK2 HA2 hk3 hb3
  go_wp2_with fail
  refine (HER.out _ _ _ _ HA3.out).mono ?_; rintro z w4 ⟨rfl, rfl⟩
  clear HER
  go_wp2_with fail
  refine (HFI.out _).mono ?_; rintro z w5 ⟨rfl, hk5⟩
  have hR5 := hk5.heap hR3 (by simp)
  have hX5 := hk5.heap hX3 (by simp)
  have HA5 := Lib.hid (HA3.out.keeps hk5 (by simp) (by simp))
  have HK5 := Lib.hid (HK3.out.trans hk5 (FSub.refl _ _))
  have hz5 := hk5.size
  clear HK3 hk5 hR3 c0 HFI HA3 hX3
  go_wp2_with ((with_reducible apply wpList_put_row (T := 55) 4); exact rfl; exact rfl; exact heap_alloc_at (by simp); exact ⟨rfl, rfl⟩; kernel_rfl; exact rfl)
  intro W6 hb6 hk6
  have hR6 := hk6.heap (heap_alloc_lt hR5) (by simp; omega)
  have hX6 := hk6.heap (heap_alloc_lt hX5) (by simp; omega)
  have HA6 := Lib.hid ((HA5.out.keeps ((Keeps.refl [] w5).alloc _) (by simp) (by simp)).keeps hk6 (by simp; omega) (by simp; omega))
  have HK6 := Lib.hid ((HK5.out.alloc _).trans hk6 (fun q hq => .inr (by have := HK5.out.size; simp at hq; omega)))
  have k3 : W6.cell? ⟨w5.heap.size, 3, none⟩ = some (.func (.func KR) #[] #[]) := by simp [World.cell?, hb6]
  have hz6 := lt_of_block hb6
  clear HK5 hk6 hb6 hR5 hX5 HA5
  have hrd := HRD.out W6 (hG.new HK6.out) w2.heap.size (g + 1) g cap (by have := HKZ.out; omega) (by have := HKZ.out; omega) ⟨hX6, HA6.out, Keeps.refl _ _, by omega, by omega, by omega⟩ (by omega) (by omega) (by omega)
  clear HRD HA6
  go_wp2_with fail
  refine hrd.mono ?_; rintro z W7 ⟨e', p', tx, rd, ⟨rfl, hRd⟩, hEv⟩
  have hR7 := hRd.keeps.heap hR6 (by simp; omega)
  have HX7 := Lib.hid hRd.ev
  have HK7 := Lib.hid (HK6.out.trans hRd.keeps (fun q hq => .inr (by simp at hq; omega)))
  have hz7 := lt_of_block hR6
  have HEV := Lib.hid (hEv [] W7 (Keeps.refl _ _) (by simp)); have HEK := Lib.hid hEv
  clear hrd hRd hEv HK6 hR6 hX6 k3
  by_cases hee : EE = 0
  · subst hee
    have hE := HE0.out rfl
    have HE := Lib.hid hE
    clear HE0 HEE hE
    have hX7 := HX7.out
    have hput := Put5_any W7 (hG.new HK7.out) XX HIN.out tx rd HEV.out (Nat.le_refl _)
    rcases bool_two (evGood XX) with hgd | hgd
    · rw [show evErr XX = 0 by simp [evErr, hgd], if_pos hgd] at hput
      have hby := evPut_in HIN.out hgd
      by_cases heq : evPut XX = nb (c :: l)
      · have hEz : evTkE (c :: l) = 0 := by rw [HE.out, if_pos ⟨hgd, heq⟩]
        have t1 : (S.toList == S.toList) = true := by simp
        have t2 : (!(S.toList == S.toList)) = false := by simp
        rw [heq, HBS.out] at hput
        have HEZ := Lib.hid hEz
        clear hgd heq hby hEz
        go_wp2_with ((with_reducible apply wpList_load_ev); exact rfl; (first | assumption | (refine heap_alloc_lt ?_; assumption) | (refine heap_alloc_lt (heap_alloc_lt ?_); assumption) | exact heap_alloc_at (by simp)); exact rfl)
        refine hput.mono ?_; rintro z W8 ⟨rfl, hk8⟩
        have hR8 := hk8.heap hR7 (by simp)
        have hX8 := hk8.heap hX7 (by simp)
        have HK8 := Lib.hid (HK7.out.trans hk8 (FSub.refl _ _))
        have h1 := HEV.out.t.one; have h2 := HEV.out.r.one
        have HK78 := Lib.hid hk8
        clear hput hR7 hX7 hk8
        go_wp2_with (first | ((with_reducible apply wpList_load_ev); exact rfl; (first | assumption | (refine heap_alloc_lt ?_; assumption) | (refine heap_alloc_lt (heap_alloc_lt ?_); assumption) | exact heap_alloc_at (by simp)); exact rfl) | ((with_reducible apply wpList_put_ev); exact rfl; exact rfl; (first | assumption | (refine heap_alloc_lt ?_; assumption) | (refine heap_alloc_lt (heap_alloc_lt ?_); assumption) | exact heap_alloc_at (by simp)); exact ⟨rfl, rfl⟩; (refine evC_one _ ?_ ?_ <;> first | rfl | assumption)))
        intro W9 hb9 hk9
        have HEV9 := HEK.out [w.heap.size] W9 ((HK78.out.more (by simp)).step hk9 (by simp)) (by simpa using hz7)
        have HK9 := Lib.hid (HK8.out.trans hk9 (fun q hq => .inr (by simp at hq; omega)))
        clear hk9 hR8 hX8
        go_wp2_with fail
        try simp only [Exit.inBlock, Exit.then]
        exact bodyPost_ret (results_ev2 (x := XX) rfl _ _ _ rfl hb9) rfl ⟨tx, rd, by rw [HX0.out HEZ.out, HEZ.out]; rfl, by rw [HX0.out HEZ.out]; exact HEV9, HK9.out⟩
      · have hEz : evTkE (c :: l) = 4 := by rw [HE.out, if_neg (fun h => heq h.2)]
        have hne : ¬ strOfNums (evPut XX) = S := fun h => heq (by
          rw [← nums_of hby, h, ← HBS.out, nums_of (fun n hn => by
            obtain ⟨i, hi, rfl⟩ := List.getElem_of_mem hn
            have := nb_in (c :: l) i
            rw [List.getD_eq_getElem?_getD, List.getElem?_eq_getElem hi] at this
            exact this)])
        have t1 : ((strOfNums (evPut XX)).toList == S.toList) = false := by
          rw [toL_of, toL_of]
          exact beq_eq_false_iff_ne.2 (fun h => hne (ByteArray.ext (Array.ext' h)))
        have HEZ := Lib.hid hEz
        clear hgd heq hby hEz hne
        generalize strOfNums (evPut XX) = SP at *
        go_wp2_with ((with_reducible apply wpList_load_ev); exact rfl; (first | assumption | (refine heap_alloc_lt ?_; assumption) | (refine heap_alloc_lt (heap_alloc_lt ?_); assumption) | exact heap_alloc_at (by simp)); exact rfl)
        refine hput.mono ?_; rintro z W8 ⟨rfl, hk8⟩
        have hR8 := hk8.heap hR7 (by simp)
        have HK8 := Lib.hid (HK7.out.trans hk8 (FSub.refl _ _))
        clear hput hR7 hX7 hk8
        go_wp2_with ((with_reducible apply wpList_put_ev); exact rfl; exact rfl; (first | assumption | (refine heap_alloc_lt ?_; assumption) | (refine heap_alloc_lt (heap_alloc_lt ?_); assumption) | exact heap_alloc_at (by simp)); exact ⟨rfl, rfl⟩; exact rfl)
        intro W9 hb9 hk9
        have HK9 := Lib.hid (HK8.out.trans hk9 (fun q hq => .inr (by simp at hq; omega)))
        clear hk9 hR8
        go_wp2_with fail
        try simp only [Exit.inBlock, Exit.then]
        exact bodyPost_ret (results_ev2 (x := evZero) rfl _ _ _ rfl hb9) rfl (tk_bad HEZ.out (by decide) HK9.out rfl)
    · rw [show evErr XX = 4 by simp [evErr, hgd], if_neg (by simp [hgd])] at hput
      have hEz : evTkE (c :: l) = 4 := by rw [HE.out, if_neg (fun h => by rw [hgd] at h; cases h.1)]
      have HEZ := Lib.hid hEz
      clear hgd hEz
      go_wp2_with ((with_reducible apply wpList_load_ev); exact rfl; (first | assumption | (refine heap_alloc_lt ?_; assumption) | (refine heap_alloc_lt (heap_alloc_lt ?_); assumption) | exact heap_alloc_at (by simp)); exact rfl)
      refine hput.mono ?_; rintro z W8 ⟨rfl, hk8⟩
      have hR8 := hk8.heap hR7 (by simp)
      have HK8 := Lib.hid (HK7.out.trans hk8 (FSub.refl _ _))
      clear hput hR7 hX7 hk8
      go_wp2_with ((with_reducible apply wpList_put_ev); exact rfl; exact rfl; (first | assumption | (refine heap_alloc_lt ?_; assumption) | (refine heap_alloc_lt (heap_alloc_lt ?_); assumption) | exact heap_alloc_at (by simp)); exact ⟨rfl, rfl⟩; exact rfl)
      intro W9 hb9 hk9
      have HK9 := Lib.hid (HK8.out.trans hk9 (fun q hq => .inr (by simp at hq; omega)))
      clear hk9 hR8
      go_wp2_with fail
      try simp only [Exit.inBlock, Exit.then]
      exact bodyPost_ret (results_ev2 (x := evZero) rfl _ _ _ rfl hb9) rfl (tk_bad HEZ.out (by decide) HK9.out rfl)
  · have hEz := HEE.out hee
    have q1 : (EE == 0) = false := by simpa using hee
    have q2 : (EE != 0) = true := by simpa using hee
    have HEZ := Lib.hid hEz
    clear hEz HE0 HEE
    go_wp2_with ((with_reducible apply wpList_put_ev); exact rfl; exact rfl; (first | assumption | (refine heap_alloc_lt ?_; assumption) | (refine heap_alloc_lt (heap_alloc_lt ?_); assumption) | exact heap_alloc_at (by simp)); exact ⟨rfl, rfl⟩; exact rfl)
    intro W9 hb9 hk9
    have HK9 := Lib.hid (HK7.out.trans hk9 (fun q hq => .inr (by simp at hq; omega)))
    clear hk9 hR7
    go_wp2_with fail
    try simp only [Exit.inBlock, Exit.then]
    exact bodyPost_ret (results_ev2 (x := evZero) rfl _ _ _ rfl hb9) rfl (tk_bad HEZ.out hee HK9.out rfl)
theorem Take5_any (w : World) (hG : Glob4 w) (L : List UInt8) (hL : L.length ≤ 2500) : Calls Tryd.prog 13 #[.string (bs L)] w (TkPost L w) := by
  cases L with
  | nil => exact Take5_nil w
  | cons c l =>
    by_cases hk : 1 ≤ (c.toNat : Int) ∧ (c.toNat : Int) ≤ 7
    · exact Take5_kind w hG c l hL hk.1 hk.2
    · exact Take5_kindless w c l hL hk
end Go.Proofs.YtnehnbhdkhgakaaDoor
/-
  What is read of what was written, kind by kind; no program.
-/
namespace Go.Proofs.YtnehnbhdkhgakaaDoor
open Go.RowKit
/-- The reader stands, with no error, before these bytes. -/
structure Rs (xs : List Int) (s : Int × Nat) (ys : List Int) : Prop where
  e : s.1 = 0
  le : s.2 ≤ xs.length
  d : xs.drop s.2 = ys
theorem Rs.next {xs : List Int} {s : Int × Nat} {bs ys : List Int} {W : Nat} (h : Rs xs s (bs ++ ys)) (hW : bs.length = W) : vl W xs s = numOf bs ∧ Rs xs (st W xs s) ys := by
  obtain ⟨e, p⟩ := s
  obtain ⟨rfl, hle, hd⟩ := h
  obtain ⟨h1, -, h2, h3⟩ := rd_pre hd hle hW
  refine ⟨h1, ⟨h2, ?_, ?_⟩⟩
  · show rdPos W xs 0 p ≤ _
    rw [h3]; exact len_pre hd hle
  · show xs.drop (rdPos W xs 0 p) = _
    rw [h3, ← List.drop_drop]
    show (xs.drop p).drop bs.length = _
    rw [hd]; simp
theorem Rs.one {xs : List Int} {s : Int × Nat} {a : Int} {ys : List Int} (h : Rs xs s (a :: ys)) : vl 1 xs s = a ∧ Rs xs (st 1 xs s) ys := by
  have := Rs.next (bs := [a]) (W := 1) h rfl
  rwa [numOf_one] at this
theorem Rs.two {xs : List Int} {s : Int × Nat} {m : Int} {ys : List Int} (h : Rs xs s (be2 m ++ ys)) : vl 2 xs s = m ∧ Rs xs (st 2 xs s) ys := by
  have := Rs.next (W := 2) h rfl
  rwa [numOf_be2] at this
theorem Rs.four {xs : List Int} {s : Int × Nat} {m : Int} {ys : List Int} (h : Rs xs s (be4 m ++ ys)) : vl 4 xs s = m ∧ Rs xs (st 4 xs s) ys := by
  have := Rs.next (W := 4) h rfl
  rwa [numOf_be4] at this
theorem Rs.mic {xs : List Int} {s : Int × Nat} {m : Mic} {ys : List Int} (h : Rs xs s (micPut m ++ ys)) (hi : m.In) (hg : micGood m = true) : miM xs s = m ∧ Rs xs (miS xs s) ys := by
  obtain ⟨rd, key, v⟩ := m
  have k0 := hi.k0
  simp only [micGood, Bool.and_eq_true, decide_eq_true_eq] at hg
  obtain ⟨k8, hv⟩ := hg
  simp only at k0 k8 hv
  cases rd with
  | true =>
    obtain ⟨h1, h2⟩ := Rs.one (a := key + 128) (ys := ys) h
    have hv0 : v = 0 := by simpa using hv
    unfold miM miS
    rw [h1, if_pos (by omega), if_pos (by omega), hv0]
    exact ⟨by congr 1; omega, h2⟩
  | false =>
    obtain ⟨h1, h2⟩ := Rs.one (a := key) (ys := be2 v ++ ys) h
    obtain ⟨h3, h4⟩ := h2.two
    unfold miM miS
    rw [h1, if_neg (by omega), if_neg (by omega), h3]
    exact ⟨rfl, h4⟩
theorem drop_one {α : Type} {l : List α} {n : Nat} (h : n < l.length) : l.drop n = l[n] :: l.drop (n + 1) := (List.drop_eq_getElem_cons h)
theorem Rs.mics {xs : List Int} {s : Int × Nat} {t : List Mic} {ys : List Int} (h : Rs xs s (t.flatMap micPut ++ ys)) (hi : ∀ m ∈ t, m.In) (hg : t.all micGood = true) :
    ∀ n, n ≤ t.length → misM xs n s = t.take n ∧ Rs xs (misS xs n s) ((t.drop n).flatMap micPut ++ ys)
  | 0, _ => ⟨rfl, h⟩
  | n + 1, hn => by
    obtain ⟨e1, e2⟩ := Rs.mics h hi hg n (by omega)
    rw [drop_one (show n < t.length by omega), List.flatMap_cons, List.append_assoc] at e2
    have hm := List.getElem_mem (show n < t.length by omega)
    obtain ⟨e3, e4⟩ := e2.mic (hi _ hm) (List.all_eq_true.1 hg _ hm)
    refine ⟨?_, e4⟩
    show misM xs n s ++ [miM xs (misS xs n s)] = _
    rw [e1, e3, List.take_add_one, List.getElem?_eq_getElem (show n < t.length by omega)]
    rfl
theorem Rs.nums {xs : List Int} {s : Int × Nat} {l : List Int} {ys : List Int} (h : Rs xs s (beList l ++ ys)) : rlist xs s.1 s.2 = l ∧ Rs xs (liS xs s) ys := by
  obtain ⟨e, p⟩ := s
  obtain ⟨he, hle, hd⟩ := h
  simp only at he hle hd
  subst he
  obtain ⟨h1, h2, h3⟩ := lst_pre hd hle
  have hl := len_pre hd hle
  rw [length_beList] at hl
  refine ⟨by show rlist xs 0 p = l; rw [rlist, if_pos ⟨rfl, h1⟩, h2], ⟨?_, ?_, ?_⟩⟩
  · show rlErr xs 0 p = 0
    rw [rlErr, if_neg (by simp), if_pos h1]
  · show rlPos xs 0 p ≤ _
    rw [rlPos, if_pos ⟨rfl, h1⟩, h3]; omega
  · show xs.drop (rlPos xs 0 p) = _
    rw [rlPos, if_pos ⟨rfl, h1⟩, h3, Nat.add_assoc, ← List.drop_drop, hd, ← length_beList]
    simp
theorem Rs.lists {xs : List Int} {s : Int × Nat} {t : List (List Int)} {ys : List Int} (h : Rs xs s (t.flatMap beList ++ ys)) :
    ∀ n, n ≤ t.length → lisL xs n s = t.take n ∧ Rs xs (lisS xs n s) ((t.drop n).flatMap beList ++ ys)
  | 0, _ => ⟨rfl, h⟩
  | n + 1, hn => by
    obtain ⟨e1, e2⟩ := Rs.lists h n (by omega)
    rw [drop_one (show n < t.length by omega), List.flatMap_cons, List.append_assoc] at e2
    obtain ⟨e3, e4⟩ := e2.nums
    refine ⟨?_, e4⟩
    show lisL xs n s ++ [rlist xs (lisS xs n s).1 (lisS xs n s).2] = _
    rw [e1, e3, List.take_add_one, List.getElem?_eq_getElem (show n < t.length by omega)]
    rfl
theorem Rs.cfg {xs : List Int} {s : Int × Nat} {g : Cfg} {ys : List Int} (h : Rs xs s (cfgPut g ++ ys)) : cfG xs s = g ∧ Rs xs (cfS xs s) ys := by
  obtain ⟨m, mo, ms, mt, p, cu, me⟩ := g
  unfold cfgPut at h
  simp only [List.append_assoc, List.cons_append, List.nil_append] at h
  obtain ⟨a1, b1⟩ := h.one
  obtain ⟨a2, b2⟩ := b1.one
  obtain ⟨a3, b3⟩ := b2.one
  obtain ⟨a4, b4⟩ := b3.two
  obtain ⟨a5, b5⟩ := b4.four
  refine ⟨?_, b5⟩
  unfold cfG
  rw [a1, a2, a3, a4, a5]
  cases p <;> cases cu <;> cases me <;> simp [bitOf, flagsOf]
theorem Rs.who {xs : List Int} {p : Nat} {x : Ev} {ys : List Int} (h : Rs xs (0, p) (whoPut x ++ ys)) : whC xs 0 p = x.c ∧ whI xs 0 p = x.id ∧ Rs xs (whE xs 0 p, whP xs 0 p) ys := by
  unfold whoPut at h
  rw [List.cons_append] at h
  obtain ⟨a1, b1⟩ := h.one
  obtain ⟨a2, b2⟩ := b1.two
  exact ⟨a1, a2, b2⟩
end Go.Proofs.YtnehnbhdkhgakaaDoor
/-
  What is taken of what was put; no program.
-/
namespace Go.Proofs.YtnehnbhdkhgakaaDoor
open Go.RowKit
theorem Rs.ans {xs : List Int} {p : Nat} {k v : Int} {ys : List Int} (h : Rs xs (0, p) (rsPut k v ++ ys)) (h0 : 0 ≤ k) (hg : rsGood k v = true) :
    tkK xs 0 p = k ∧ tkV xs 0 p = v ∧ tkE xs 0 p = 0 := by
  rcases good_cases h0 hg with rfl | ⟨rfl, hk⟩
  · obtain ⟨a1, b1⟩ := Rs.one (a := 1) (ys := be2 v ++ ys) h
    obtain ⟨a2, b2⟩ := b1.two
    have r1 : rdVal 1 xs 0 p = 1 := a1
    have q2 : rdVal 2 xs (rdErr 1 xs 0 p) (rdPos 1 xs 0 p) = v := a2
    have q3 : rdErr 2 xs (rdErr 1 xs 0 p) (rdPos 1 xs 0 p) = 0 := b2.e
    have q1 : tkE2 xs 0 p = 0 := by rw [tkE2, if_pos r1, q3]
    have q4 : tkE xs 0 p = 0 := by rw [tkE, q1, r1]; rfl
    exact ⟨by rw [tkK, if_pos q4, r1], by rw [tkV, if_pos q4, tkV0, if_pos r1, q2], q4⟩
  · have hk1 : k ≠ 1 := by omega
    have e : rsPut k 0 = [k] := by unfold rsPut; rw [if_neg hk1]
    rw [e] at h
    obtain ⟨a1, b1⟩ := Rs.one (a := k) (ys := ys) h
    have r1 : rdVal 1 xs 0 p = k := a1
    have r2 : rdErr 1 xs 0 p = 0 := b1.e
    have q1 : tkE2 xs 0 p = 0 := by rw [tkE2, if_neg (by omega), r2]
    have q4 : tkE xs 0 p = 0 := by rw [tkE, q1, r1]; simp; omega
    exact ⟨by rw [tkK, if_pos q4, r1], by rw [tkV, if_pos q4, tkV0, if_neg (by omega)], q4⟩
theorem good_parts {x : Ev} (h : evGood x = true) : evKind x.k = true ∧ x.c < 16 ∧ evFits x = true ∧ x = evNeed x := by
  unfold evGood at h
  simp only [Bool.and_eq_true, decide_eq_true_eq, evSame_iff] at h
  exact ⟨h.1.1.1, h.1.1.2, h.1.2, h.2⟩
theorem nb_drop (L : List UInt8) (p : Nat) : nb (L.drop p) = (nb L).drop p := by simp [nb]
/-- A good event's bytes, and what lies behind: it is read. -/
theorem rd_put {x : Ev} (hi : x.In) (hg : evGood x = true) {L : List UInt8} {ys : List Int} (hL : nb L = evPut x ++ ys) : evRdE L x.k = 0 ∧ evRdX L x.k = x := by
  obtain ⟨hk, hc, hf, hn⟩ := good_parts hg
  have h0 : Rs (nb L) (0, 1) (evBody x ++ ys) := by
    refine ⟨rfl, ?_, ?_⟩
    · show 1 ≤ (nb L).length
      rw [hL]; simp [evPut]
    · show (nb L).drop 1 = _
      rw [hL]; simp [evPut]
  clear hg hL
  obtain ⟨k, c, id, o, rk, rv, t, r, g⟩ := x
  simp only at hk hc ⊢
  rcases kind_cases hk with rfl | rfl | rfl | rfl | rfl | rfl | rfl
  · simp only [evBody, evFits, evNeed, evRdE, evRdX, reduceIte] at *
    obtain ⟨a, b⟩ := h0.cfg
    exact ⟨b.e, by rw [a]; exact hn.symm⟩
  · simp only [evBody, evFits, evNeed, evRdE, evRdX, reduceIte, show ¬ (2 : Int) = 1 from by decide] at *
    rw [List.append_assoc] at h0
    obtain ⟨a, b, h1⟩ := h0.who
    have he : whE (nb L) 0 1 = 0 := h1.e
    have hd : (nb L).drop (whP (nb L) 0 1) = opPut o ++ ys := h1.d
    have hr : nb (restL L (whE (nb L) 0 1) (whP (nb L) 0 1)) = opPut o ++ ys := by rw [restL, if_pos he, nb_drop, hd]
    obtain ⟨e1, e2⟩ := optk_put hi.o ((good_iff o).1 hf) ys
    rw [hr]
    refine ⟨e2, ?_⟩
    rw [tkX, if_pos e2, e1, a, b]
    exact hn.symm
  · simp only [evBody, evFits, evNeed, evRdE, evRdX, reduceIte, show ¬ (3 : Int) = 1 from by decide, show ¬ (3 : Int) = 2 from by decide] at *
    rw [List.append_assoc] at h0
    obtain ⟨a, b, h1⟩ := h0.who
    have he : whE (nb L) 0 1 = 0 := h1.e
    rw [he] at h1 ⊢
    obtain ⟨e1, e2, e3⟩ := h1.ans hi.rk0 hf
    refine ⟨e3, ?_⟩
    rw [e1, e2, a, b]
    exact hn.symm
  · simp only [evBody, evFits, evNeed, evRdE, evRdX, reduceIte, show ¬ (4 : Int) = 1 from by decide, show ¬ (4 : Int) = 2 from by decide, show ¬ (4 : Int) = 3 from by decide, show ¬ (4 : Int) = 5 from by decide, show ¬ (4 : Int) = 6 from by decide] at *
    obtain ⟨a, b, h1⟩ := h0.who
    refine ⟨h1.e, ?_⟩
    rw [a, b]
    exact hn.symm
  · simp only [evBody, evFits, evNeed, evRdE, evRdX, reduceIte, show ¬ (5 : Int) = 1 from by decide, show ¬ (5 : Int) = 2 from by decide, show ¬ (5 : Int) = 3 from by decide] at *
    rw [List.append_assoc, List.cons_append] at h0
    obtain ⟨a, b, h1⟩ := h0.who
    obtain ⟨c1, h2⟩ := h1.one
    rw [c1]
    simp only [micsGood, Bool.and_eq_true, decide_eq_true_eq] at hf
    obtain ⟨c2, h3⟩ := Rs.mics h2 hi.t hf.2 t.length (Nat.le_refl _)
    rw [List.take_length] at c2
    rw [Int.toNat_natCast]
    refine ⟨h3.e, ?_⟩
    rw [c2, a, b]
    exact hn.symm
  · simp only [evBody, evFits, evNeed, evRdE, evRdX, reduceIte, show ¬ (6 : Int) = 1 from by decide, show ¬ (6 : Int) = 2 from by decide, show ¬ (6 : Int) = 3 from by decide, show ¬ (6 : Int) = 5 from by decide] at *
    rw [List.append_assoc, List.cons_append] at h0
    obtain ⟨a, b, h1⟩ := h0.who
    obtain ⟨c1, h2⟩ := h1.one
    rw [c1]
    obtain ⟨c2, h3⟩ := Rs.lists h2 r.length (Nat.le_refl _)
    rw [List.take_length] at c2
    rw [Int.toNat_natCast]
    refine ⟨h3.e, ?_⟩
    rw [c2, a, b]
    exact hn.symm
  · simp only [evBody, evFits, evNeed, evRdE, evRdX, reduceIte, show ¬ (7 : Int) = 1 from by decide, show ¬ (7 : Int) = 2 from by decide, show ¬ (7 : Int) = 3 from by decide, show ¬ (7 : Int) = 5 from by decide, show ¬ (7 : Int) = 6 from by decide] at *
    obtain ⟨a, b, h1⟩ := h0.who
    refine ⟨h1.e, ?_⟩
    rw [a, b]
    exact hn.symm
theorem put_head {x : Ev} {L : List UInt8} {ys : List Int} (hL : nb L = evPut x ++ ys) : L ≠ [] ∧ ((L.getD 0 0).toNat : Int) = x.k := by
  cases L with
  | nil => simp [nb, evPut] at hL
  | cons c l =>
    simp [nb, evPut] at hL
    exact ⟨by simp, by simpa using hL.1⟩
/-- A good event's bytes are taken as it. -/
theorem tk_evPut {x : Ev} (hi : x.In) (hg : evGood x = true) {L : List UInt8} (hL : nb L = evPut x) : evTkE L = 0 ∧ evTkX L = x := by
  obtain ⟨h1, h2⟩ := put_head (x := x) (ys := []) (by rw [hL]; simp)
  obtain ⟨h3, h4⟩ := rd_put (ys := []) hi hg (by rw [hL]; simp)
  have e : evTkE L = 0 := by
    unfold evTkE
    rw [if_neg h1, h2, if_neg (by simp [(good_parts hg).1]), if_neg (by simp [h3]), h4, if_pos ⟨hg, hL.symm⟩]
  exact ⟨e, by unfold evTkX; rw [if_pos e, h2, h4]⟩
/-- Bytes behind it: none is taken. -/
theorem tk_behind {x : Ev} (hi : x.In) (hg : evGood x = true) {L : List UInt8} {ys : List Int} (hy : ys ≠ []) (hL : nb L = evPut x ++ ys) : evTkE L = 4 := by
  obtain ⟨h1, h2⟩ := put_head hL
  obtain ⟨h3, h4⟩ := rd_put hi hg hL
  unfold evTkE
  rw [if_neg h1, h2, if_neg (by simp [(good_parts hg).1]), if_neg (by simp [h3]), h4, if_neg]
  rintro ⟨-, h5⟩
  rw [hL] at h5
  exact hy (by simpa using h5.symm)
/-- Unlike good events have unlike bytes. -/
theorem evPut_inj {x y : Ev} (hx : x.In) (hy : y.In) (gx : evGood x = true) (gy : evGood y = true) {L : List UInt8} (h1 : nb L = evPut x) (h2 : nb L = evPut y) : x = y := by
  rw [← (tk_evPut hx gx h1).2, (tk_evPut hy gy h2).2]
end Go.Proofs.YtnehnbhdkhgakaaDoor
/-
  What is taken of a piece of what was put; no program.
-/
namespace Go.Proofs.YtnehnbhdkhgakaaDoor
open Go.RowKit
/-- The reader stands before a piece of these bytes, not the whole; or has told so. -/
def Tn (xs : List Int) (s : Int × Nat) (ys : List Int) : Prop := s.1 = 5 ∨ (s.1 = 0 ∧ s.2 ≤ xs.length ∧ ∃ t, t ≠ [] ∧ xs.drop s.2 ++ t = ys)
theorem Tn.nil {xs : List Int} {s : Int × Nat} (h : Tn xs s []) : s.1 = 5 := by
  rcases h with h | ⟨_, _, t, ht, h⟩
  · exact h
  · exact absurd (List.append_eq_nil_iff.1 h).2 ht
theorem vl_err {W : Nat} {xs : List Int} {s : Int × Nat} (h : s.1 = 5) : vl W xs s = 0 := by
  unfold vl rdVal
  rw [if_neg (by rw [h]; simp)]
theorem st_err {W : Nat} {xs : List Int} {s : Int × Nat} (h : s.1 = 5) : (st W xs s).1 = 5 := by
  show rdErr W xs s.1 s.2 = 5
  rw [rdErr, if_pos (by rw [h]; simp), h]
theorem split_app {a t bs ys : List Int} (h : a ++ t = bs ++ ys) (hl : bs.length ≤ a.length) : ∃ c, a = bs ++ c ∧ c ++ t = ys := by
  refine ⟨a.drop bs.length, ?_, ?_⟩
  · have h1 : (a ++ t).take bs.length = bs := by rw [h]; simp
    rw [List.take_append_of_le_length hl] at h1
    have := List.take_append_drop bs.length a
    rw [h1] at this
    exact this.symm
  · have h1 : (a ++ t).drop bs.length = ys := by rw [h]; simp
    rwa [List.drop_append_of_le_length hl] at h1
theorem Tn.next {xs : List Int} {s : Int × Nat} {bs ys : List Int} {W : Nat} (h : Tn xs s (bs ++ ys)) (hW : bs.length = W) : (vl W xs s = numOf bs ∨ (st W xs s).1 = 5) ∧ Tn xs (st W xs s) ys := by
  rcases h with h | ⟨h0, hle, t, ht, h⟩
  · exact ⟨.inr (st_err h), .inl (st_err h)⟩
  · by_cases hl : bs.length ≤ (xs.drop s.2).length
    · obtain ⟨c, h1, h2⟩ := split_app h hl
      obtain ⟨a, b⟩ := Rs.next (s := s) (ys := c) ⟨h0, hle, h1⟩ hW
      exact ⟨.inl a, .inr ⟨b.e, b.le, t, ht, by rw [b.d, h2]⟩⟩
    · have hs : (st W xs s).1 = 5 := by
        show rdErr W xs s.1 s.2 = 5
        rw [h0]
        exact (rd_short (by omega) hle).1
      exact ⟨.inr hs, .inl hs⟩
theorem Tn.one {xs : List Int} {s : Int × Nat} {a : Int} {ys : List Int} (h : Tn xs s (a :: ys)) : (vl 1 xs s = a ∨ (st 1 xs s).1 = 5) ∧ Tn xs (st 1 xs s) ys := by
  have := Tn.next (bs := [a]) (W := 1) h rfl
  rwa [numOf_one] at this
theorem Tn.two {xs : List Int} {s : Int × Nat} {m : Int} {ys : List Int} (h : Tn xs s (be2 m ++ ys)) : Tn xs (st 2 xs s) ys := (Tn.next (W := 2) h rfl).2
theorem Tn.four {xs : List Int} {s : Int × Nat} {m : Int} {ys : List Int} (h : Tn xs s (be4 m ++ ys)) : Tn xs (st 4 xs s) ys := (Tn.next (W := 4) h rfl).2
theorem Tn.cfg {xs : List Int} {s : Int × Nat} {g : Cfg} {ys : List Int} (h : Tn xs s (cfgPut g ++ ys)) : Tn xs (cfS xs s) ys := by
  unfold cfgPut at h
  simp only [List.append_assoc, List.cons_append, List.nil_append] at h
  exact h.one.2.one.2.one.2.two.four
theorem Tn.who {xs : List Int} {s : Int × Nat} {x : Ev} {ys : List Int} (h : Tn xs s (whoPut x ++ ys)) : Tn xs (whE xs s.1 s.2, whP xs s.1 s.2) ys := by
  unfold whoPut at h
  rw [List.cons_append] at h
  exact h.one.2.two
theorem rdVal1_short {W : Nat} {xs : List Int} {s : Int × Nat} (h : (st W xs s).1 = 5) : vl W xs s = 0 := by
  unfold vl rdVal
  by_cases h1 : s.1 = 0
  · by_cases h2 : s.2 + W ≤ xs.length
    · exfalso
      have : rdErr W xs s.1 s.2 = 5 := h
      rw [rdErr, if_neg (by simp [h1]), if_pos h2] at this
      omega
    · rw [if_neg (fun g => h2 g.2)]
  · rw [if_neg (fun g => h1 g.1)]
theorem Tn.mic {xs : List Int} {s : Int × Nat} {m : Mic} {ys : List Int} (h : Tn xs s (micPut m ++ ys)) (hi : m.In) (hg : micGood m = true) : Tn xs (miS xs s) ys := by
  obtain ⟨rd, key, v⟩ := m
  have k0 := hi.k0
  simp only [micGood, Bool.and_eq_true, decide_eq_true_eq] at hg
  obtain ⟨k8, hv⟩ := hg
  simp only at k0 k8 hv
  cases rd with
  | true =>
    obtain ⟨h1, h2⟩ := Tn.one (a := key + 128) (ys := ys) h
    unfold miS
    rcases h1 with h1 | h1
    · rw [h1, if_pos (by omega)]; exact h2
    · rw [rdVal1_short h1, if_neg (by omega)]; exact .inl (st_err h1)
  | false =>
    obtain ⟨h1, h2⟩ := Tn.one (a := key) (ys := be2 v ++ ys) h
    unfold miS
    rcases h1 with h1 | h1
    · rw [h1, if_neg (by omega)]; exact h2.two
    · rw [rdVal1_short h1, if_neg (by omega)]; exact .inl (st_err h1)
theorem Tn.mics {xs : List Int} {s : Int × Nat} {t : List Mic} {ys : List Int} (h : Tn xs s (t.flatMap micPut ++ ys)) (hi : ∀ m ∈ t, m.In) (hg : t.all micGood = true) :
    ∀ n, n ≤ t.length → Tn xs (misS xs n s) ((t.drop n).flatMap micPut ++ ys)
  | 0, _ => h
  | n + 1, hn => by
    have e2 := Tn.mics h hi hg n (by omega)
    rw [drop_one (show n < t.length by omega), List.flatMap_cons, List.append_assoc] at e2
    have hm := List.getElem_mem (show n < t.length by omega)
    exact e2.mic (hi _ hm) (List.all_eq_true.1 hg _ hm)
theorem lst_err {xs : List Int} {s : Int × Nat} (h : s.1 = 5) : (liS xs s).1 = 5 := by
  show rlErr xs s.1 s.2 = 5
  rw [rlErr, if_pos (by rw [h]; simp), h]
theorem Tn.nums {xs : List Int} {s : Int × Nat} {l : List Int} {ys : List Int} (h : Tn xs s (beList l ++ ys)) : Tn xs (liS xs s) ys := by
  rcases h with h | ⟨h0, hle, t, ht, h⟩
  · exact .inl (lst_err h)
  · by_cases hl : (beList l).length ≤ (xs.drop s.2).length
    · obtain ⟨c, h1, h2⟩ := split_app h hl
      obtain ⟨a, b⟩ := Rs.nums (s := s) (ys := c) ⟨h0, hle, h1⟩
      exact .inr ⟨b.e, b.le, t, ht, by rw [b.d, h2]⟩
    · have hp : xs.drop s.2 <+: beList l := by
        have h1 : (xs.drop s.2 ++ t).take (xs.drop s.2).length = xs.drop s.2 := by simp
        rw [h, List.take_append_of_le_length (by omega)] at h1
        rw [← h1]
        exact List.take_prefix _ _
      refine .inl ?_
      show rlErr xs s.1 s.2 = 5
      rw [rlErr, if_neg (by simp [h0]), if_neg (lst_torn hp (by omega) hle)]
theorem Tn.lists {xs : List Int} {s : Int × Nat} {t : List (List Int)} {ys : List Int} (h : Tn xs s (t.flatMap beList ++ ys)) :
    ∀ n, n ≤ t.length → Tn xs (lisS xs n s) ((t.drop n).flatMap beList ++ ys)
  | 0, _ => h
  | n + 1, hn => by
    have e2 := Tn.lists h n (by omega)
    rw [drop_one (show n < t.length by omega), List.flatMap_cons, List.append_assoc] at e2
    exact e2.nums
end Go.Proofs.YtnehnbhdkhgakaaDoor
/-
  A piece of an event's bytes is torn; how long an event's bytes are; no program.
-/
namespace Go.Proofs.YtnehnbhdkhgakaaDoor
open Go.RowKit
theorem op_torn {l t : List Int} {o : Opn} (hg : opGood o = true) (h : l ++ t = opPut o) (ht : t ≠ []) : tkErr l = 5 := by
  have hl := congrArg List.length h
  rw [List.length_append, put_length] at hl
  have h0 : 0 < t.length := List.length_pos_iff.2 ht
  unfold tkErr
  by_cases h1 : l.length = 0
  · rw [if_pos h1]
  · have hf : l.getD 0 0 = o.f := by
      have e : (l ++ t).getD 0 0 = l.getD 0 0 := by
        rw [List.getD_eq_getElem?_getD, List.getElem?_append_left (by omega), ← List.getD_eq_getElem?_getD]
      rw [← e, h]; simp [opPut]
    rw [if_neg h1, hf, if_neg (by simp [((good_iff o).1 hg).is]), if_pos (by omega)]
theorem Tn.ans {xs : List Int} {e : Int} {p : Nat} {k v : Int} (h : Tn xs (e, p) (rsPut k v)) (h0 : 0 ≤ k) (hg : rsGood k v = true) : tkE xs e p = 5 := by
  have key : tkE2 xs e p = 5 → tkE xs e p = 5 := fun h => by rw [tkE, h, if_pos (by decide)]
  apply key
  rcases good_cases h0 hg with rfl | ⟨rfl, hk⟩
  · obtain ⟨a1, b1⟩ := Tn.one (a := 1) (ys := be2 v ++ []) h
    have b2 := b1.two.nil
    unfold tkE2
    split
    · exact b2
    · rename_i hv
      rcases a1 with a1 | a1
      · exact absurd a1 hv
      · exact a1
  · have er : rsPut k 0 = [k] := by unfold rsPut; rw [if_neg (by omega)]
    rw [er] at h
    obtain ⟨a1, b1⟩ := Tn.one (a := k) (ys := []) h
    have b2 := b1.nil
    have hv : rdVal 1 xs e p = 0 := rdVal1_short (s := (e, p)) b2
    unfold tkE2
    rw [hv, if_neg (by decide)]
    exact b2
/-- A good event's bytes, cut short: torn. -/
theorem rd_torn {x : Ev} (hi : x.In) (hg : evGood x = true) {L : List UInt8} {t : List Int} (hne : L ≠ []) (ht : t ≠ []) (hL : nb L ++ t = evPut x) : evRdE L x.k = 5 := by
  obtain ⟨hk, hc, hf, hn⟩ := good_parts hg
  have h0 : Tn (nb L) (0, 1) (evBody x) := by
    cases L with
    | nil => exact absurd rfl hne
    | cons c l =>
      refine .inr ⟨rfl, by simp [nb], t, ht, ?_⟩
      simp only [nb, List.map_cons, evPut, List.cons_append, List.cons.injEq] at hL
      exact hL.2
  clear hg hL hn
  obtain ⟨k, c, id, o, rk, rv, ts, r, g⟩ := x
  simp only at hk hc ⊢
  rcases kind_cases hk with rfl | rfl | rfl | rfl | rfl | rfl | rfl
  · simp only [evBody, evFits, evRdE, reduceIte] at *
    exact (Tn.cfg (ys := []) (by rw [List.append_nil]; exact h0)).nil
  · simp only [evBody, evFits, evRdE, reduceIte, show ¬ (2 : Int) = 1 from by decide] at *
    have h1 : Tn (nb L) (whE (nb L) 0 1, whP (nb L) 0 1) (opPut o) := h0.who
    rcases h1 with h1 | ⟨he, hle, t', ht', h1⟩
    · have h1 : whE (nb L) 0 1 = 5 := h1
      rw [restL, if_neg (by omega)]
      simp [tkErr, nb]
    · have he : whE (nb L) 0 1 = 0 := he
      rw [restL, if_pos he, nb_drop]
      exact op_torn hf h1 ht'
  · simp only [evBody, evFits, evRdE, reduceIte, show ¬ (3 : Int) = 1 from by decide, show ¬ (3 : Int) = 2 from by decide] at *
    have h1 : Tn (nb L) (whE (nb L) 0 1, whP (nb L) 0 1) (rsPut rk rv) := h0.who
    exact h1.ans hi.rk0 hf
  · simp only [evBody, evFits, evRdE, reduceIte, show ¬ (4 : Int) = 1 from by decide, show ¬ (4 : Int) = 2 from by decide, show ¬ (4 : Int) = 3 from by decide, show ¬ (4 : Int) = 5 from by decide, show ¬ (4 : Int) = 6 from by decide] at *
    exact (Tn.who (s := (0, 1)) (ys := []) (by rw [List.append_nil]; exact h0)).nil
  · simp only [evBody, evFits, evRdE, reduceIte, show ¬ (5 : Int) = 1 from by decide, show ¬ (5 : Int) = 2 from by decide, show ¬ (5 : Int) = 3 from by decide] at *
    have h1 : Tn (nb L) (whE (nb L) 0 1, whP (nb L) 0 1) ((ts.length : Int) :: ts.flatMap micPut) := h0.who
    obtain ⟨c1, h2⟩ := h1.one
    rcases c1 with c1 | c1
    · rw [c1, Int.toNat_natCast]
      simp only [micsGood, Bool.and_eq_true, decide_eq_true_eq] at hf
      have h3 := Tn.mics (ys := []) (by rw [List.append_nil]; exact h2) hi.t hf.2 ts.length (Nat.le_refl _)
      rw [List.drop_length] at h3
      exact h3.nil
    · rw [rdVal1_short c1]
      exact c1
  · simp only [evBody, evFits, evRdE, reduceIte, show ¬ (6 : Int) = 1 from by decide, show ¬ (6 : Int) = 2 from by decide, show ¬ (6 : Int) = 3 from by decide, show ¬ (6 : Int) = 5 from by decide] at *
    have h1 : Tn (nb L) (whE (nb L) 0 1, whP (nb L) 0 1) ((r.length : Int) :: r.flatMap beList) := h0.who
    obtain ⟨c1, h2⟩ := h1.one
    rcases c1 with c1 | c1
    · rw [c1, Int.toNat_natCast]
      have h3 := Tn.lists (ys := []) (by rw [List.append_nil]; exact h2) r.length (Nat.le_refl _)
      rw [List.drop_length] at h3
      exact h3.nil
    · rw [rdVal1_short c1]
      exact c1
  · simp only [evBody, evFits, evRdE, reduceIte, show ¬ (7 : Int) = 1 from by decide, show ¬ (7 : Int) = 2 from by decide, show ¬ (7 : Int) = 3 from by decide, show ¬ (7 : Int) = 5 from by decide, show ¬ (7 : Int) = 6 from by decide] at *
    exact (Tn.who (s := (0, 1)) (ys := []) (by rw [List.append_nil]; exact h0)).nil
theorem tk_torn {x : Ev} (hi : x.In) (hg : evGood x = true) {L : List UInt8} {t : List Int} (ht : t ≠ []) (hL : nb L ++ t = evPut x) : evTkE L = 5 := by
  unfold evTkE
  by_cases h : L = []
  · rw [if_pos h]
  · have hh : ((L.getD 0 0).toNat : Int) = x.k := by
      cases L with
      | nil => exact absurd rfl h
      | cons c l =>
        simp [nb, evPut] at hL
        simpa using hL.1
    have h5 := rd_torn hi hg h ht hL
    rw [if_neg h, hh, if_neg (by simp [(good_parts hg).1]), h5, if_pos (by decide)]
/-- What is taken whole is what is put. -/
theorem take_put {L : List UInt8} (h : evTkE L = 0) : evGood (evTkX L) = true ∧ evPut (evTkX L) = nb L := by
  have hX : evTkX L = evRdX L ((L.getD 0 0).toNat : Int) := by unfold evTkX; rw [if_pos h]
  rw [hX]
  unfold evTkE at h
  split at h
  · omega
  · split at h
    · omega
    · split at h
      · exact absurd h (by assumption)
      · split at h
        · assumption
        · omega
theorem evPut_len {x : Ev} (hg : evGood x = true) : (evPut x).length ≤ 525 := by
  obtain ⟨hk, -, hf, -⟩ := good_parts hg
  have hw : (whoPut x).length = 3 := rfl
  have ho := opPut_len x.o
  have hr := rsPut_len x.rk x.rv
  have hc : (cfgPut x.g).length = 9 := rfl
  have hm := mics_len x.t
  unfold evPut evBody
  unfold evFits at hf
  simp only [List.length_cons]
  split at hf
  · rename_i h; rw [if_pos h, hc]; omega
  · rename_i h1; rw [if_neg h1]
    split at hf
    · rename_i h; rw [if_pos h, List.length_append, hw]; omega
    · rename_i h2; rw [if_neg h2]
      split at hf
      · rename_i h; rw [if_pos h, List.length_append, hw]; omega
      · rename_i h3; rw [if_neg h3]
        split at hf
        · rename_i h; rw [if_pos h, List.length_append, hw, List.length_cons]
          simp only [micsGood, Bool.and_eq_true, decide_eq_true_eq] at hf
          omega
        · rename_i h5; rw [if_neg h5]
          split at hf
          · rename_i h; rw [if_pos h, List.length_append, hw, List.length_cons]
            simp only [listsGood, Bool.and_eq_true, decide_eq_true_eq, List.all_eq_true] at hf
            have := lists_len x.r (fun l hl => hf.2 l hl)
            omega
          · rename_i h6; rw [if_neg h6, hw]; omega
end Go.Proofs.YtnehnbhdkhgakaaDoor
/-
  fails, none and puts of the events' laws.
-/
namespace Go.Proofs.YtnehnbhdkhgakaaDoor
open Go.RowKit
/-- A whole event is read, under a guard that holds. -/
theorem wpList_load_evG {ops : Array Oper} {rest : List Oper} {a : Act} {w : World} {Q : Exit → Act → World → Prop} {dst : Option Tmp} {ty : TypeId} {pos : String} {after : Array Edge} {gd : Option (Nat × Bool)} {x : Operand} {g : Nat} {cells : Array Value} {t : TypeId} {fr : Nat × Nat}
    (hw : Region.wanted { dst := dst, op := .load 32 x, type := ty, pos := pos, after := after, guard := gd } (yielded ops a.tmps) = true)
    (hx : a.eval x = .pointer (some ⟨g, 0, none⟩)) (hg : w.heap[g]? = some (.cells cells t fr)) (hs : cells.size = 19) (h : wpList Tryd.prog ops Q rest (a.put dst (.agg cells)) w) :
    wpList Tryd.prog ops Q ({ dst := dst, op := .load 32 x, type := ty, pos := pos, after := after, guard := gd } :: rest) a w :=
  wpList_step fun _ hK => by
    rw [if_pos hw]
    exact wp_load_row 32 x rfl g hx t cells fr _ hg Tryd.underlying32 rfl (by rw [hs]; kernel_rfl) (hK _ _ h)
set_option maxHeartbeats 8000000 in
set_option maxRecDepth 100000 in
theorem fails5_any (w : World) (hG : Glob4 w) (L : List UInt8) (hL : L.length ≤ 2500) (E : Int) (hE : evTkE L = E) (h0 : E ≠ 0) :
    Calls Tryd.prog 8 #[.string (bs L), .int .i64 E] w fun e w' => e = .returned (.bool true) ∧ Keeps [] w w' := by
  have hT := Take5_any w hG L hL
  have hX : evTkX L = evZero := by unfold evTkX; rw [hE, if_neg h0]
  unfold TkPost at hT
  rw [hX, hE] at hT
  have HT := Lib.hid hT
  clear hT hX hE h0 hL
  generalize bs L = S at *
  go_enter Tryd.func8, Tryd.ntmps8
  go_wp2_with fail
  refine HT.out.mono ?_; rintro z w1 ⟨tx, rd, rfl, hx, hk1⟩
  have hz := heap_alloc_new w1 (.cells (evC evZero (.slice none 0 0) (.slice none 0 0)) 32)
  have hka := (Keeps.refl [] w1).alloc (.cells (evC evZero (.slice none 0 0) (.slice none 0 0)) 32)
  have hx1 := hx.t.one
  have hx2 := hx.r.one
  have HX := Lib.hid hx
  have HK := Lib.hid hk1
  have HR := Lib.hid hz
  have HKA := Lib.hid hka
  clear hx hk1 HT hz hka
  rw [show (.cells (evC evZero (.slice none 0 0) (.slice none 0 0)) 32 : Obj) = .cells #[.int .u8 0, .int .u8 0, .int .u16 0, .int .u8 0, .int .u8 0, .int .u8 0, .int .u16 0, .int .u16 0, .int .u8 0, .int .u16 0, .slice none 0 0, .slice none 0 0, .int .u8 0, .int .i64 0, .int .i64 0, .int .i64 0, .bool false, .bool false, .bool false] 32 from rfl] at HKA HR
  go_wp2_with ((with_reducible apply wpList_put_ev); exact rfl; exact rfl; (first | assumption | (refine heap_alloc_lt ?_; assumption) | (refine heap_alloc_lt (heap_alloc_lt ?_); assumption) | exact heap_alloc_at (by simp)); exact ⟨rfl, rfl⟩; (refine evC_one _ ?_ ?_ <;> first | rfl | assumption))
  intro W3 hb3 hk3
  have hq3 : Keeps [] w1 W3 := HKA.out.trans hk3 (fun q hq => .inr (by simp at hq; omega))
  have HK3 := Lib.hid (HK.out.trans hq3 (FSub.refl _ _))
  have HX3 := Lib.hid (HX.out.new hq3 (Nat.le_refl _))
  have hs3 : w1.heap.size ≤ W3.heap.size := hq3.size
  clear HK HKA HX HR hk3 hq3
  go_wp2_with ((with_reducible apply wpList_load_ev); exact rfl; (first | assumption | (refine heap_alloc_lt ?_; assumption) | (refine heap_alloc_lt (heap_alloc_lt ?_); assumption) | exact heap_alloc_at (by simp)); exact rfl)
  rw [zero_cells]
  refine (Same5_any W3 evZero evZero _ _ _ _ HX3.out (⟨Mics.nil w1.heap.size _, Lists.nil _ _⟩ : EvAt w1.heap.size W3 _ _ evZero) hs3 hs3).mono ?_; rintro z w4 ⟨rfl, hk4⟩
  rw [evSame_self]
  have HK4 := Lib.hid (HK3.out.trans hk4 (FSub.refl _ _))
  clear HK3 HX3 hk4
  go_wp2_with fail
  go_ret
  exact ⟨rfl, HK4.out⟩
set_option maxHeartbeats 8000000 in
set_option maxRecDepth 100000 in
theorem none5_any (w : World) (hG : Glob4 w) (x : Ev) (hx : x.In) {N : Nat} (tx rd : Value) (ht : EvAt N w tx rd x) (hN : N ≤ w.heap.size) (hg : evGood x = false) :
    Calls Tryd.prog 10 #[.agg (evC x tx rd)] w fun e w' => e = .returned (.bool true) ∧ Keeps [] w w' := by
  have hk0 := (Keeps.refl [] w).alloc (.cells (evC x tx rd) 32)
  have hb0 := heap_alloc_new w (.cells (evC x tx rd) 32)
  have hx1 := ht.t.one
  have hx2 := ht.r.one
  have HK0 := Lib.hid hk0; have HB0 := Lib.hid hb0; have HT0 := Lib.hid (ht.new hk0 hN)
  have hn1 : N ≤ (w.alloc (.cells (evC x tx rd) 32)).heap.size := Nat.le_trans hN hk0.size
  have he : evErr x = 4 := by simp [evErr, hg]
  have HG0 := Lib.hid (hG.new hk0)
  clear hk0 hb0 ht hN
  generalize hB : w.heap.size = b at *
  go_enter Tryd.func10, Tryd.ntmps10
  go_wp2_with ((with_reducible apply wpList_load_ev); exact rfl; (first | assumption | (refine heap_alloc_lt ?_; assumption) | (refine heap_alloc_lt (heap_alloc_lt ?_); assumption) | exact heap_alloc_at (by simp)); exact rfl)
  clear hB
  generalize w.alloc (.cells (evC x tx rd) 32) = W0 at *
  have hP := Put5_any W0 HG0.out x hx tx rd HT0.out hn1
  rw [if_neg (by simp [hg]), he] at hP
  refine hP.mono ?_; rintro z w1 ⟨rfl, hk1⟩
  have hb1 := hk1.heap HB0.out (by simp)
  have HK1 := Lib.hid (HK0.out.trans hk1 (FSub.refl _ _))
  have hC := Check5_any w1 (HG0.out.new hk1) x hx tx rd (HT0.out.new hk1 hn1) (Nat.le_trans hn1 hk1.size)
  rw [he] at hC
  have HC := Lib.hid hC
  clear hP hk1 HB0 HK0 HT0 HG0 hC hg he
  go_wp2_with ((with_reducible apply wpList_load_evG); exact rfl; exact rfl; assumption; exact rfl)
  refine HC.out.mono ?_; rintro z w2 ⟨rfl, hk2⟩
  have HK2 := Lib.hid (HK1.out.trans hk2 (FSub.refl _ _))
  clear HC HK1 hk2 hb1
  go_wp2_with fail
  go_ret
  exact ⟨rfl, HK2.out⟩
set_option maxHeartbeats 8000000 in
set_option maxRecDepth 100000 in
theorem puts5_any (w : World) (hG : Glob4 w) (x : Ev) (hx : x.In) {N : Nat} (tx rd : Value) (ht : EvAt N w tx rd x) (hN : N ≤ w.heap.size) (hg : evGood x = true) (M : List UInt8) (hM : nb M = evPut x) :
    Calls Tryd.prog 7 #[.agg (evC x tx rd), .string (bs M)] w fun e w' => e = .returned (.bool true) ∧ Keeps [] w w' := by
  have hk0 := (Keeps.refl [] w).alloc (.cells (evC x tx rd) 32)
  have hb0 := heap_alloc_new w (.cells (evC x tx rd) 32)
  have hx1 := ht.t.one
  have hx2 := ht.r.one
  have HK0 := Lib.hid hk0; have HT0 := Lib.hid (ht.new hk0 hN)
  have hn1 : N ≤ (w.alloc (.cells (evC x tx rd) 32)).heap.size := Nat.le_trans hN hk0.size
  have hz1 : w.heap.size < (w.alloc (.cells (evC x tx rd) 32)).heap.size := by simp
  have he : evErr x = 0 := by simp [evErr, hg]
  obtain ⟨hE, hX⟩ := tk_evPut hx hg hM
  have hl : M.length ≤ 2500 := by have := evPut_len hg; rw [← hM, nb_length] at this; omega
  have hP := fun w hG (ht : EvAt N w tx rd x) hN => Put5_any w hG x hx tx rd ht hN
  have hC := fun w hG (ht : EvAt N w tx rd x) hN => Check5_any w hG x hx tx rd ht hN
  have hT := fun w hG => Take5_any w hG M hl
  rw [if_pos hg, ← hM, str_nb, he] at hP
  rw [he] at hC
  unfold TkPost at hT
  rw [hX, hE] at hT
  have HP := Lib.hid hP; have HC := Lib.hid hC; have HTK := Lib.hid hT
  have HG0 := Lib.hid (hG.new hk0)
  clear hk0 ht hN hG hM hg he hE hX hl hP hC hT
  generalize bs M = S at *
  go_enter Tryd.func7, Tryd.ntmps7
  go_wp2_with ((with_reducible apply wpList_load_ev); exact rfl; (first | assumption | (refine heap_alloc_lt ?_; assumption) | (refine heap_alloc_lt (heap_alloc_lt ?_); assumption) | exact heap_alloc_at (by simp)); exact rfl)
  generalize w.alloc (.cells (evC x tx rd) 32) = W0 at *
  generalize w.heap.size = b at *
  refine (HP.out _ HG0.out HT0.out hn1).mono ?_; rintro z w1 ⟨rfl, hk1⟩
  have hb1 := hk1.heap hb0 (by simp)
  have HK1 := Lib.hid (HK0.out.trans hk1 (FSub.refl _ _))
  have HT1 := Lib.hid (HT0.out.new hk1 hn1)
  have HG1 := Lib.hid (HG0.out.new hk1)
  have hn2 := Nat.le_trans hn1 hk1.size
  have hz2 := Nat.lt_of_lt_of_le hz1 hk1.size
  clear hk1 hb0 HP HT0 HG0 HK0 hn1 hz1
  go_wp2_with fail
  refine (HTK.out _ HG1.out).mono ?_; rintro z w2 ⟨tx', rd', rfl, hx', hk2⟩
  have hb2 := hk2.heap hb1 (by simp)
  have HK2 := Lib.hid (HK1.out.trans hk2 (FSub.refl _ _))
  have HT2 := Lib.hid (HT1.out.new hk2 hn2)
  have HG2 := Lib.hid (HG1.out.new hk2)
  have hn3 := Nat.le_trans hn2 hk2.size
  have hz3 := Nat.lt_of_lt_of_le hz2 hk2.size
  have hx1' := hx'.t.one
  have hx2' := hx'.r.one
  have HX := Lib.hid hx'
  have HKA := Lib.hid ((Keeps.refl [] w2).alloc (.cells #[.int .u8 0, .int .u8 0, .int .u16 0, .int .u8 0, .int .u8 0, .int .u8 0, .int .u16 0, .int .u16 0, .int .u8 0, .int .u16 0, .slice none 0 0, .slice none 0 0, .int .u8 0, .int .i64 0, .int .i64 0, .int .i64 0, .bool false, .bool false, .bool false] 32))
  clear hk2 hb1 HTK HT1 HG1 HK1 hn2 hz2 hx'
  go_wp2_with ((with_reducible apply wpList_put_ev); exact rfl; exact rfl; (first | assumption | (refine heap_alloc_lt ?_; assumption) | (refine heap_alloc_lt (heap_alloc_lt ?_); assumption) | exact heap_alloc_at (by simp)); exact ⟨rfl, rfl⟩; (refine evC_one _ ?_ ?_ <;> first | rfl | assumption))
  intro W3 hb3 hk3
  have hq3 : Keeps [] w2 W3 := HKA.out.trans hk3 (fun q hq => .inr (by simp at hq; omega))
  have hb3x := hq3.heap hb2 (by simp)
  have HK3 := Lib.hid (HK2.out.trans hq3 (FSub.refl _ _))
  have HX3 := Lib.hid (HX.out.new hq3 (Nat.le_refl _))
  have HT3 := Lib.hid (HT2.out.new hq3 hn3)
  have HG3 := Lib.hid (HG2.out.new hq3)
  have hs3 : w2.heap.size ≤ W3.heap.size := hq3.size
  have hn4 := Nat.le_trans hn3 hs3
  clear hk3 hq3 HK2 HX HT2 HG2 HKA hb2 hn3
  generalize w2.heap.size = c at *
  go_wp2_with ((with_reducible apply wpList_load_evG); exact rfl; exact rfl; assumption; exact rfl)
  refine (Same5_any W3 x x _ _ _ _ HT3.out HX3.out hn4 hs3).mono ?_; rintro z w4 ⟨rfl, hk4⟩
  rw [evSame_self]
  have hb4 := hk4.heap hb3x (by simp)
  have HK4 := Lib.hid (HK3.out.trans hk4 (FSub.refl _ _))
  have HT4 := Lib.hid (HT3.out.new hk4 hn4)
  have HG4 := Lib.hid (HG3.out.new hk4)
  have hn5 := Nat.le_trans hn4 hk4.size
  clear hb3 hb3x HK3 HX3 HT3 HG3 hn4 hk4 hs3
  go_wp2_with ((with_reducible apply wpList_load_evG); exact rfl; exact rfl; assumption; exact rfl)
  refine (HC.out _ HG4.out HT4.out hn5).mono ?_; rintro z w5 ⟨rfl, hk5⟩
  have HK5 := Lib.hid (HK4.out.trans hk5 (FSub.refl _ _))
  clear HK4 HT4 HG4 hb4 hk5 HC
  go_wp2_with fail
  go_ret
  exact ⟨rfl, HK5.out⟩
end Go.Proofs.YtnehnbhdkhgakaaDoor
/-
  config and awake of the events' laws.
-/
namespace Go.Proofs.YtnehnbhdkhgakaaDoor
open Go.RowKit
def evCfg : Ev := { evZero with k := 1, g := ⟨2, 8, 100, 1000, true, false, true⟩ }
def evInfo : Ev := { evZero with k := 4, c := 3, id := 258 }
theorem good_by {x : Ev} (h : (evKind x.k && decide (x.c < 16) && evFits x) = true) (e : x = evNeed x) : evGood x = true := by
  unfold evGood
  rw [h, (evSame_iff _ _).2 e]; rfl
theorem cfg_good : evGood evCfg = true := good_by (by decide) rfl
theorem info_good : evGood evInfo = true := good_by (by decide) rfl
theorem cfg_in : evCfg.In := by
  constructor <;> first | decide | (constructor <;> decide) | (intro m hm; cases hm)
theorem info_in : evInfo.In := by
  constructor <;> first | decide | (constructor <;> decide) | (intro m hm; cases hm)
theorem cfg_bytes : nb [1, 2, 5, 8, 0, 100, 0, 0, 3, 232] = evPut evCfg := by decide
theorem info_bytes : nb [4, 3, 1, 2] = evPut evInfo := by decide
theorem tkE_8 : evTkE [8] = 4 := by unfold evTkE; rw [if_neg (by simp), if_pos (by decide)]
set_option maxHeartbeats 8000000 in
set_option maxRecDepth 100000 in
theorem config5_any (w : World) : Calls Tryd.prog 9 #[] w fun e w' => e = .returned (.agg (evC evCfg (.slice none 0 0) (.slice none 0 0))) ∧ Keeps [] w w' := by
  have hk0 := Lib.hid ((Keeps.refl [] w).alloc (.cells #[.int .u8 0, .int .u8 0, .int .u16 0, .int .u8 0, .int .u8 0, .int .u8 0, .int .u16 0, .int .u16 0, .int .u8 0, .int .u16 0, .slice none 0 0, .slice none 0 0, .int .u8 0, .int .i64 0, .int .i64 0, .int .i64 0, .bool false, .bool false, .bool false] 32))
  go_enter Tryd.func9, Tryd.ntmps9
  go_wp2_with ((with_reducible apply wpList_put_ev); exact rfl; exact rfl; (first | assumption | (refine heap_alloc_lt ?_; assumption) | (refine heap_alloc_lt (heap_alloc_lt ?_); assumption) | exact heap_alloc_at (by simp)); exact ⟨rfl, rfl⟩; exact rfl)
  intro W1 hb1 hk1
  have hq : Keeps [] w W1 := hk0.out.trans hk1 (fun q hq => .inr (by simp at hq; omega))
  clear hk0 hk1
  go_wp2_with fail
  try simp only [Exit.inBlock, Exit.then]
  exact bodyPost_ret (results_ev (x := evCfg) rfl _ _ _ rfl hb1) rfl ⟨rfl, hq⟩
set_option maxHeartbeats 8000000 in
set_option maxRecDepth 100000 in
theorem awake5_any (w : World) (hG : Glob4 w) : Calls Tryd.prog 6 #[] w fun e w' => e = .returned (.bool true) ∧ Keeps [] w w' := by
  have HG := Lib.hid hG
  clear hG
  go_enter Tryd.func6, Tryd.ntmps6
  go_wp2_with fail
  refine (config5_any w).mono ?_; rintro z w1 ⟨rfl, hk1⟩
  have HG1 := Lib.hid (HG.out.new hk1)
  have HK1 := Lib.hid hk1
  clear HG hk1
  go_wp2_with fail
  refine (puts5_any w1 HG1.out evCfg cfg_in _ _ (⟨Mics.nil 0 _, Lists.nil _ _⟩ : EvAt 0 w1 _ _ evCfg) (Nat.zero_le _) cfg_good [1, 2, 5, 8, 0, 100, 0, 0, 3, 232] cfg_bytes).mono ?_; rintro z w2 ⟨rfl, hk2⟩
  have HG2 := Lib.hid (HG1.out.new hk2)
  have HK2 := Lib.hid (HK1.out.trans hk2 (FSub.refl _ _))
  clear HG1 HK1 hk2
  go_wp2_with fail
  refine (puts5_any w2 HG2.out evInfo info_in _ _ (⟨Mics.nil 0 _, Lists.nil _ _⟩ : EvAt 0 w2 _ _ evInfo) (Nat.zero_le _) info_good [4, 3, 1, 2] info_bytes).mono ?_; rintro z w3 ⟨rfl, hk3⟩
  have HG3 := Lib.hid (HG2.out.new hk3)
  have HK3 := Lib.hid (HK2.out.trans hk3 (FSub.refl _ _))
  clear HG2 HK2 hk3
  go_wp2_with fail
  refine (fails5_any w3 HG3.out [] (by decide) 5 rfl (by decide)).mono ?_; rintro z w4 ⟨rfl, hk4⟩
  have HG4 := Lib.hid (HG3.out.new hk4)
  have HK4 := Lib.hid (HK3.out.trans hk4 (FSub.refl _ _))
  clear HG3 HK3 hk4
  go_wp2_with fail
  refine (fails5_any w4 HG4.out [8] (by decide) 4 tkE_8 (by decide)).mono ?_; rintro z w5 ⟨rfl, hk5⟩
  have HK5 := Lib.hid (HK4.out.trans hk5 (FSub.refl _ _))
  clear HG4 HK4 hk5
  go_wp2_with fail
  go_ret
  exact ⟨rfl, HK5.out⟩
end Go.Proofs.YtnehnbhdkhgakaaDoor
/-
  few of the events' laws: it answers, and changes nothing.
-/
namespace Go.Proofs.YtnehnbhdkhgakaaDoor
open Go.RowKit
def FewPost (w : World) (e : Ending) (w' : World) : Prop := ∃ b, e = .returned (.bool b) ∧ Keeps [] w w'
set_option maxHeartbeats 8000000 in
set_option maxRecDepth 100000 in
theorem few5_any (w : World) (x : Ev) {N : Nat} (tx rd : Value) (ht : EvAt N w tx rd x) (hN : N ≤ w.heap.size) : Calls Tryd.prog 11 #[.agg (evC x tx rd)] w (FewPost w) := by
  have hk0 := (Keeps.refl [] w).alloc (.cells (evC x tx rd) 32)
  have hX := heap_alloc_new w (.cells (evC x tx rd) 32)
  have h0 := ht.new hk0 hN
  have E10 := ev_cell hX 10 (evC_10 x tx rd)
  have E11 := ev_cell hX 11 (evC_11 x tx rd)
  obtain ⟨a1, c1, rfl, hc1, hm1, -⟩ := h0.t
  obtain ⟨a2, c2, rfl, hc2, hm2, hcells⟩ := h0.r
  have HC := Lib.hid hcells; have HK0 := Lib.hid hk0
  clear hcells hk0 hX h0 ht hN
  have hl1 : (x.t.length : Int) ≤ 9223372036854775807 := by omega
  have hl2 : (x.r.length : Int) ≤ 9223372036854775807 := by omega
  generalize hB : w.heap.size = b at *
  go_enter Tryd.func11, Tryd.ntmps11
  go_wp2_with fail
  clear hB
  generalize w.alloc (.cells (evC x (.slice a1 x.t.length c1) (.slice a2 x.r.length c2)) 32) = W0 at *
  generalize hR : evC x (.slice a1 x.t.length c1) (.slice a2 x.r.length c2) = R at *
  generalize x.t.length = nt at *
  generalize hrl : x.r.length = nr at *
  go_loopw [3] (fun i wr => ∃ k : Nat, k ≤ nr ∧ k ≤ 50 ∧ i = .int .i64 k ∧ wr = W0) (fun i _ => 50 - (intOf i).toNat)
  case atStart => exact ⟨0, by omega, by omega, rfl, rfl⟩
  case round =>
    obtain ⟨k, hk, hk50, rfl, rfl⟩ := hrel
    by_cases hlt : k < nr
    · by_cases h50 : k < 50
      · obtain ⟨bk, o, rfl, hbk, hcell⟩ := HC.out (fun e => by rw [e] at hrl; simp at hrl; omega)
        obtain ⟨u, hu, hnu⟩ := hcell k (by omega)
        obtain ⟨a3, c3, rfl, hc3, hm3, -⟩ := hnu
        clear hcell
        generalize (x.r.getD k []).length = nu at *
        by_cases h60 : nu ≤ 60
        · have z1 : ¬ 60 < (nu : Int) := by omega
          go_wp2_with fail
          go_roundw
          case rel => exact ⟨k + 1, by omega, by omega, by go_num, trivial⟩
          case measure => simp [intOf]; omega
        · have z1 : 60 < (nu : Int) := by omega
          go_wp2_with fail
          go_ret
          exact ⟨_, rfl, HK0.out⟩
      · by_cases h1 : nt ≤ 40
        · go_wp2_with fail
          go_ret
          exact ⟨_, rfl, HK0.out⟩
        · go_wp2_with fail
          go_ret
          exact ⟨_, rfl, HK0.out⟩
    · by_cases h1 : nt ≤ 40
      · go_wp2_with fail
        go_ret
        exact ⟨_, rfl, HK0.out⟩
      · go_wp2_with fail
        go_ret
        exact ⟨_, rfl, HK0.out⟩
end Go.Proofs.YtnehnbhdkhgakaaDoor
/-
  EventBack's walk. (Printed by draft/genback5.py.)
-/
namespace Go.Proofs.YtnehnbhdkhgakaaDoor
open Go.RowKit
theorem ev_bytes {x : Ev} (hx : x.In) (hg : evGood x = true) : ∃ M : List UInt8, nb M = evPut x :=
  ⟨(strOfNums (evPut x)).data.toList, by rw [← nb_nums, nums_of (evPut_in hx hg)]⟩
theorem evTkX_in {L : List UInt8} (h : evTkE L = 0) : (evTkX L).In := by
  have hk := (good_parts (take_put h).1).1
  have hX : evTkX L = evRdX L ((L.getD 0 0).toNat : Int) := by unfold evTkX; rw [if_pos h]
  have hk2 : evKind ((L.getD 0 0).toNat : Int) = true := by
    rcases bool_two (evKind ((L.getD 0 0).toNat : Int)) with h1 | h1
    · exact h1
    · exfalso
      unfold evTkE at h
      split at h
      · omega
      · first | omega | (rw [if_pos h1] at h; omega)
  rw [hX]
  have := kind_cases hk2
  exact evRdX_in L _ (by omega) (by omega)
set_option maxHeartbeats 8000000 in
set_option maxRecDepth 100000 in
theorem EventBack_any (w : World) (hG : Glob4 w) (x : Ev) (hx : x.In) {N : Nat} (tx rd : Value) (ht : EvAt N w tx rd x) (hN : N ≤ w.heap.size) (L : List UInt8) (hL : (L.length : Int) ≤ 9223372036854775807) :
    Calls Tryd.prog 4 #[.agg (evC x tx rd), .string (bs L)] w fun e w' => e = .returned (.bool true) ∧ Keeps [] w w' := by
  have hk0 := (Keeps.refl [] w).alloc (.cells (evC x tx rd) 32)
  have hb0 := heap_alloc_new w (.cells (evC x tx rd) 32)
  have hx1 := ht.t.one
  have hx2 := ht.r.one
  have HK0 := Lib.hid hk0; have HT0 := Lib.hid (ht.new hk0 hN)
  have hn1 : N ≤ (w.alloc (.cells (evC x tx rd) 32)).heap.size := Nat.le_trans hN hk0.size
  have HG0 := Lib.hid (hG.new hk0)
  have hsz : (bs L).size = L.length := bs_size L
  clear hk0 ht hN hG
  generalize hS : bs L = S at *
  go_enter Tryd.func4, Tryd.ntmps4
  go_wp2_with ((with_reducible apply wpList_load_ev); exact rfl; (first | assumption | (refine heap_alloc_lt ?_; assumption) | (refine heap_alloc_lt (heap_alloc_lt ?_); assumption) | exact heap_alloc_at (by simp)); exact rfl)
  generalize w.alloc (.cells (evC x tx rd) 32) = W0 at *
  generalize w.heap.size = b at *
  refine (few5_any W0 x tx rd HT0.out hn1).mono ?_; rintro z w1 ⟨fb, rfl, hk1⟩
  have hb1 := hk1.heap hb0 (by simp)
  have HK1 := Lib.hid (HK0.out.trans hk1 (FSub.refl _ _))
  have HT1 := Lib.hid (HT0.out.new hk1 hn1)
  have HG1 := Lib.hid (HG0.out.new hk1)
  have hn2 := Nat.le_trans hn1 hk1.size
  clear hk1 hb0 HT0 HG0 HK0 hn1
  cases fb with
  | false =>
    go_wp2_with fail
    refine (awake5_any w1 (HG1.out)).mono ?_; rintro z wa ⟨rfl, hka⟩
    have HKZ := Lib.hid (HK1.out.trans hka (FSub.refl _ _))
    clear hka
    go_wp2_with fail
    go_ret
    exact ⟨rfl, HKZ.out⟩
  | true =>
    by_cases hl : L.length ≤ 2000
    · have z1 : ¬ 2000 < (S.size : Int) := by omega
      have hT := fun w hG => Take5_any w hG L (by omega)
      replace hl : L.length ≤ 2500 := by omega
      unfold TkPost at hT
      rw [hS] at hT
      have HTK := Lib.hid hT
      clear hT hsz hL
      have hP := Put5_any w1 HG1.out x hx tx rd HT1.out hn2
      rcases bool_two (evGood x) with hg | hg
      · have he : evErr x = 0 := by simp [evErr, hg]
        rw [if_pos hg, he] at hP
        obtain ⟨M, hM⟩ := ev_bytes hx hg
        have hQ := fun w hG (ht : EvAt N w tx rd x) hN => puts5_any w hG x hx tx rd ht hN hg M hM
        rw [← hM, str_nb] at hP
        have HP := Lib.hid hP; have HQ := Lib.hid hQ
        clear hP hQ hM hg he hx
        generalize bs M = S2 at *
        go_wp2_with ((with_reducible apply wpList_load_ev); exact rfl; (first | assumption | (refine heap_alloc_lt ?_; assumption) | (refine heap_alloc_lt (heap_alloc_lt ?_); assumption) | exact heap_alloc_at (by simp)); exact rfl)
        refine HP.out.mono ?_; rintro z w2 ⟨rfl, hk2⟩
        have hb2 := hk2.heap hb1 (by simp)
        have HK2 := Lib.hid (HK1.out.trans hk2 (FSub.refl _ _))
        have HT2 := Lib.hid (HT1.out.new hk2 hn2)
        have HG2 := Lib.hid (HG1.out.new hk2)
        have hn3 := Nat.le_trans hn2 hk2.size
        clear hk2 hb1 HP HT1 HG1 HK1 hn2
        go_wp2_with ((with_reducible apply wpList_load_evG); exact rfl; exact rfl; assumption; exact rfl)
        refine (HQ.out _ HG2.out HT2.out hn3).mono ?_; rintro z w3 ⟨rfl, hk3⟩
        have HK3 := Lib.hid (HK2.out.trans hk3 (FSub.refl _ _))
        have HG3 := Lib.hid (HG2.out.new hk3)
        clear hk3 hb2 HQ HT2 HG2 HK2 hn3
        go_wp2_with fail
        refine (HTK.out _ HG3.out).mono ?_; rintro z w5 ⟨tx', rd', rfl, hx', hk5⟩
        have HK5 := Lib.hid (HK3.out.trans hk5 (FSub.refl _ _))
        have HG5 := Lib.hid (HG3.out.new hk5)
        have hx1' := hx'.t.one
        have hx2' := hx'.r.one
        have HX := Lib.hid hx'
        have HKA := Lib.hid ((Keeps.refl [] w5).alloc (.cells #[.int .u8 0, .int .u8 0, .int .u16 0, .int .u8 0, .int .u8 0, .int .u8 0, .int .u16 0, .int .u16 0, .int .u8 0, .int .u16 0, .slice none 0 0, .slice none 0 0, .int .u8 0, .int .i64 0, .int .i64 0, .int .i64 0, .bool false, .bool false, .bool false] 32))
        clear hk5 HTK HG3 HK3 hx'
        go_wp2_with ((with_reducible apply wpList_put_ev); exact rfl; exact rfl; (first | assumption | (refine heap_alloc_lt ?_; assumption) | (refine heap_alloc_lt (heap_alloc_lt ?_); assumption) | exact heap_alloc_at (by simp)); exact ⟨rfl, rfl⟩; (refine evC_one _ ?_ ?_ <;> first | rfl | assumption))
        intro W6 hb6 hk6
        have hq6 : Keeps [] w5 W6 := HKA.out.trans hk6 (fun q hq => .inr (by simp at hq; omega))
        have HK6 := Lib.hid (HK5.out.trans hq6 (FSub.refl _ _))
        have HX6 := Lib.hid (HX.out.new hq6 (Nat.le_refl _))
        have HG6 := Lib.hid (HG5.out.new hq6)
        have hs6 : w5.heap.size ≤ W6.heap.size := hq6.size
        clear hk6 hq6 HK5 HX HG5 HKA
        generalize w5.heap.size = c at *
        by_cases h0 : evTkE L = 0
        · rw [h0]
          obtain ⟨g1, g2⟩ := take_put h0
          have hp := puts5_any W6 HG6.out (evTkX L) (evTkX_in h0) tx' rd' HX6.out hs6 g1 L g2.symm
          rw [hS] at hp
          have HP2 := Lib.hid hp
          clear g1 g2 hp
          generalize evTkX L = y at *
          go_wp2_with ((with_reducible apply wpList_load_ev); exact rfl; (first | assumption | (refine heap_alloc_lt ?_; assumption) | (refine heap_alloc_lt (heap_alloc_lt ?_); assumption) | exact heap_alloc_at (by simp)); exact rfl)
          refine HP2.out.mono ?_; rintro z w7 ⟨rfl, hk7⟩
          have HK7 := Lib.hid (HK6.out.trans hk7 (FSub.refl _ _))
          have HG7 := Lib.hid (HG6.out.new hk7)
          clear HK6 HG6 hk7 HP2 HX6
          go_wp2_with fail
          refine (awake5_any w7 (HG7.out)).mono ?_; rintro z wa ⟨rfl, hka⟩
          have HKZ := Lib.hid (HK7.out.trans hka (FSub.refl _ _))
          clear hka
          go_wp2_with fail
          go_ret
          exact ⟨rfl, HKZ.out⟩
        · have hp := fails5_any W6 HG6.out L hl _ rfl h0
          rw [hS] at hp
          have HP2 := Lib.hid hp
          clear hp
          generalize evTkE L = E at *
          generalize evTkX L = y at *
          go_wp2_with fail
          refine HP2.out.mono ?_; rintro z w7 ⟨rfl, hk7⟩
          have HK7 := Lib.hid (HK6.out.trans hk7 (FSub.refl _ _))
          have HG7 := Lib.hid (HG6.out.new hk7)
          clear HK6 HG6 hk7 HP2 HX6
          go_wp2_with fail
          refine (awake5_any w7 (HG7.out)).mono ?_; rintro z wa ⟨rfl, hka⟩
          have HKZ := Lib.hid (HK7.out.trans hka (FSub.refl _ _))
          clear hka
          go_wp2_with fail
          go_ret
          exact ⟨rfl, HKZ.out⟩
      · have he : evErr x = 4 := by simp [evErr, hg]
        rw [if_neg (by simp [hg]), he] at hP
        have hQ := fun w hG (ht : EvAt N w tx rd x) hN => none5_any w hG x hx tx rd ht hN hg
        have HP := Lib.hid hP; have HQ := Lib.hid hQ
        clear hP hQ hg he hx
        go_wp2_with ((with_reducible apply wpList_load_ev); exact rfl; (first | assumption | (refine heap_alloc_lt ?_; assumption) | (refine heap_alloc_lt (heap_alloc_lt ?_); assumption) | exact heap_alloc_at (by simp)); exact rfl)
        refine HP.out.mono ?_; rintro z w2 ⟨rfl, hk2⟩
        have hb2 := hk2.heap hb1 (by simp)
        have HK2 := Lib.hid (HK1.out.trans hk2 (FSub.refl _ _))
        have HT2 := Lib.hid (HT1.out.new hk2 hn2)
        have HG2 := Lib.hid (HG1.out.new hk2)
        have hn3 := Nat.le_trans hn2 hk2.size
        clear hk2 hb1 HP HT1 HG1 HK1 hn2
        go_wp2_with ((with_reducible apply wpList_load_evG); exact rfl; exact rfl; assumption; exact rfl)
        refine (HQ.out _ HG2.out HT2.out hn3).mono ?_; rintro z w3 ⟨rfl, hk3⟩
        have HK3 := Lib.hid (HK2.out.trans hk3 (FSub.refl _ _))
        have HG3 := Lib.hid (HG2.out.new hk3)
        clear hk3 hb2 HQ HT2 HG2 HK2 hn3
        go_wp2_with fail
        refine (HTK.out _ HG3.out).mono ?_; rintro z w5 ⟨tx', rd', rfl, hx', hk5⟩
        have HK5 := Lib.hid (HK3.out.trans hk5 (FSub.refl _ _))
        have HG5 := Lib.hid (HG3.out.new hk5)
        have hx1' := hx'.t.one
        have hx2' := hx'.r.one
        have HX := Lib.hid hx'
        have HKA := Lib.hid ((Keeps.refl [] w5).alloc (.cells #[.int .u8 0, .int .u8 0, .int .u16 0, .int .u8 0, .int .u8 0, .int .u8 0, .int .u16 0, .int .u16 0, .int .u8 0, .int .u16 0, .slice none 0 0, .slice none 0 0, .int .u8 0, .int .i64 0, .int .i64 0, .int .i64 0, .bool false, .bool false, .bool false] 32))
        clear hk5 HTK HG3 HK3 hx'
        go_wp2_with ((with_reducible apply wpList_put_ev); exact rfl; exact rfl; (first | assumption | (refine heap_alloc_lt ?_; assumption) | (refine heap_alloc_lt (heap_alloc_lt ?_); assumption) | exact heap_alloc_at (by simp)); exact ⟨rfl, rfl⟩; (refine evC_one _ ?_ ?_ <;> first | rfl | assumption))
        intro W6 hb6 hk6
        have hq6 : Keeps [] w5 W6 := HKA.out.trans hk6 (fun q hq => .inr (by simp at hq; omega))
        have HK6 := Lib.hid (HK5.out.trans hq6 (FSub.refl _ _))
        have HX6 := Lib.hid (HX.out.new hq6 (Nat.le_refl _))
        have HG6 := Lib.hid (HG5.out.new hq6)
        have hs6 : w5.heap.size ≤ W6.heap.size := hq6.size
        clear hk6 hq6 HK5 HX HG5 HKA
        generalize w5.heap.size = c at *
        by_cases h0 : evTkE L = 0
        · rw [h0]
          obtain ⟨g1, g2⟩ := take_put h0
          have hp := puts5_any W6 HG6.out (evTkX L) (evTkX_in h0) tx' rd' HX6.out hs6 g1 L g2.symm
          rw [hS] at hp
          have HP2 := Lib.hid hp
          clear g1 g2 hp
          generalize evTkX L = y at *
          go_wp2_with ((with_reducible apply wpList_load_ev); exact rfl; (first | assumption | (refine heap_alloc_lt ?_; assumption) | (refine heap_alloc_lt (heap_alloc_lt ?_); assumption) | exact heap_alloc_at (by simp)); exact rfl)
          refine HP2.out.mono ?_; rintro z w7 ⟨rfl, hk7⟩
          have HK7 := Lib.hid (HK6.out.trans hk7 (FSub.refl _ _))
          have HG7 := Lib.hid (HG6.out.new hk7)
          clear HK6 HG6 hk7 HP2 HX6
          go_wp2_with fail
          refine (awake5_any w7 (HG7.out)).mono ?_; rintro z wa ⟨rfl, hka⟩
          have HKZ := Lib.hid (HK7.out.trans hka (FSub.refl _ _))
          clear hka
          go_wp2_with fail
          go_ret
          exact ⟨rfl, HKZ.out⟩
        · have hp := fails5_any W6 HG6.out L hl _ rfl h0
          rw [hS] at hp
          have HP2 := Lib.hid hp
          clear hp
          generalize evTkE L = E at *
          generalize evTkX L = y at *
          go_wp2_with fail
          refine HP2.out.mono ?_; rintro z w7 ⟨rfl, hk7⟩
          have HK7 := Lib.hid (HK6.out.trans hk7 (FSub.refl _ _))
          have HG7 := Lib.hid (HG6.out.new hk7)
          clear HK6 HG6 hk7 HP2 HX6
          go_wp2_with fail
          refine (awake5_any w7 (HG7.out)).mono ?_; rintro z wa ⟨rfl, hka⟩
          have HKZ := Lib.hid (HK7.out.trans hka (FSub.refl _ _))
          clear hka
          go_wp2_with fail
          go_ret
          exact ⟨rfl, HKZ.out⟩
    · have z1 : 2000 < (S.size : Int) := by omega
      go_wp2_with fail
      refine (awake5_any w1 (HG1.out)).mono ?_; rintro z wa ⟨rfl, hka⟩
      have HKZ := Lib.hid (HK1.out.trans hka (FSub.refl _ _))
      clear hka
      go_wp2_with fail
      go_ret
      exact ⟨rfl, HKZ.out⟩
end Go.Proofs.YtnehnbhdkhgakaaDoor
