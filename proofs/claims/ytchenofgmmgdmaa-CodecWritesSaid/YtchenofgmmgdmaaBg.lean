/-
  For every list of things, CodecWrites returns true and leaves the list as it was: the given statement CodecWritesSaid.
  Conditions: none beside those that the statement itself says.
-/
import Derived.Test.YtchenofgmmgdmaaBf
import Derived.ProofKit
import Derived.OpenShut
import Derived.Deep.Slices
import Derived.Deep.Fields
import Derived.ChangeSame
namespace Go.Proofs.Ytchenofgmmgdmaa
open Go.ChangeShapes Go.WideShapes Go.ChangeAt Go.RowKit
open Go.Deep
theorem own0 : ownKnob Try.prog.godebug = none := by kernel_rfl
theorem laidOut0 : laidOutB Try.prog = true := by kernel_rfl
section
variable {H : Type} {enc : TypeId × Value → H} {P : Program} {w : World} {base : Nat} {spare : Nat → Bool} {held : Bool}
/-- A slice of structs of one-cell fields, opened: each element's fields, by their cells. -/
theorem open_rec {t e : TypeId} {fs : Array Field} {fuel : Nat} {cs : List Value} {x : DataW H × List MemPlace} (ht : P.underlying t = some (.slice e)) (he : P.underlying e = some (.struct fs))
    (hone : oneCellFields P fs = true) (hC : P.cellsOf e = fs.size) (h : DataW.trod enc P w base spare held fuel t cs = some x) :
    (cs = [.slice none 0 0]) ∨
    ∃ (a : Addr) (len cap : Nat), cs = [.slice (some a) len cap] ∧ len ≤ maxLen ∧
      ∀ i, i < len → ∃ (n : Nat), ∀ (j : Nat) (f : Field), fs[j]? = some f → ∃ (v : Value) (y : DataW H × List MemPlace), w.cell? (a.add (i * fs.size + j)) = some v ∧ DataW.trod enc P w base spare held n f.type [v] = some y := by
  rcases open_slice ht h with ⟨h0, _⟩ | ⟨a, len, cap, m, n, D, Pl, hcs, hb, hl, hm, hmm, hx, hi⟩
  · exact .inl h0
  · have hlm : len ≤ m := by rw [hmm]; split <;> omega
    refine .inr ⟨a, len, cap, hcs, by omega, fun i hil => ?_⟩
    obtain ⟨cs', hc, ht'⟩ := hi i (by omega)
    rw [hC] at hc
    obtain ⟨ys, n', hn', hy, hlen, hyl, hf⟩ := DataW.trod_struct he ht'
    obtain ⟨_, hcl, hat⟩ := World.cells?_some hc
    refine ⟨n', fun j f hj => ?_⟩
    obtain ⟨ho, hk⟩ := hone_of hone j f hj
    have hjl : j < fs.size := (Array.getElem?_eq_some_iff.1 hj).1
    have hcell := hat j hjl
    have hv : cs'[j]? = some (cs'[j]'(by omega)) := List.getElem?_eq_getElem (by omega)
    have h1 := hf j f hj
    rw [ho, hk] at h1
    have hone' : (cs'.drop j).take 1 = [cs'[j]'(by omega)] := by
      rw [List.drop_eq_getElem_cons (by omega)]
      rfl
    rw [hone'] at h1
    have hys : ys[j]? = some (ys[j]'(by omega)) := List.getElem?_eq_getElem (by omega)
    exact ⟨_, _, by rw [← Go.Deep.add_add, hcell, hv], h1.trans hys⟩
end
/-- A cell that is there lies at a plain address. -/
theorem spot_none {w : World} {a : Addr} {v : Value} (h : w.cell? a = some v) : a.spot = none := by
  unfold World.cell? at h
  split at h
  · split at h
    · cases h
    · rename_i hs
      simpa using hs
  · cases h
theorem add_none (a : Addr) : a.add 0 = a := by simp [Addr.add]
theorem add_at (b o j : Nat) : ((⟨b, o, none⟩ : Addr).add j) = ⟨b, o + j, none⟩ := by unfold Addr.add; split <;> simp_all
theorem open_u16s {H : Type} {enc : TypeId × Value → H} {w : World} {fuel : Nat} {v : Value} {y : DataW H × List MemPlace} (h : DataW.trod enc Try.prog w 0 (fun _ => true) true fuel 36 [v] = some y) :
    ∃ (a : Option Addr) (c : Nat) (ls : List Int), v = .slice a ls.length c ∧ Src16 w a ls ∧ InU16 ls ∧ ls.length ≤ maxLen := by
  rcases open_ints Try.underlying36 Try.underlying54 (by kernel_rfl) h with ⟨hcs, _⟩ | ⟨x, l, c, zs, hcs, _, hl, hm, hz, _, hcell, hwz⟩
  · simp at hcs
    subst hcs
    exact ⟨none, 0, [], rfl, .inl rfl, fun j => by simp, by simp⟩
  · simp at hcs
    subst hcs
    have hz' : zs.length = c := by simpa using hz
    refine ⟨some x, c, zs.take l, by simp [hz', Nat.min_eq_left hl], ?_, ?_, by simp; omega⟩
    · by_cases h0 : l = 0
      · subst h0; exact .inl (by simp)
      · have hc0 := hcell 0 (by omega)
        have hs := spot_none hc0
        rw [add_none] at hs
        obtain ⟨b, o, sp⟩ := x
        simp only at hs
        subst hs
        refine .inr ⟨b, o, rfl, fun j hj => ?_⟩
        have hj' : j < l := by simp at hj; omega
        have := hcell j (by omega)
        rw [add_at] at this
        rw [this]
        simp [List.getD, hj']
    · intro j
      by_cases hj : j < l
      · have hj2 : j < zs.length := by omega
        have e : (zs.take l).getD j 0 = zs[j] := by simp [List.getD, hj, hj2]
        rw [e]
        have := hwz zs[j] (List.getElem_mem hj2)
        have h2 : 0 ≤ zs[j] ∧ zs[j] ≤ 65535 := by simpa [Lit.wf, IntKind.min, IntKind.max, IntKind.signed, IntKind.bits] using this
        omega
      · have e : (zs.take l).getD j 0 = 0 := by
          rw [List.getD, List.getElem?_eq_none (by simp; omega)]; rfl
        rw [e]; omega
theorem u8_of {a : Int} (h : (Lit.int .u8 a).wf = true) : 0 ≤ a ∧ a < 256 := by
  have h2 : 0 ≤ a ∧ a ≤ 255 := by simpa [Lit.wf, IntKind.min, IntKind.max, IntKind.signed, IntKind.bits] using h
  omega
theorem u32_of {a : Int} (h : (Lit.int .u32 a).wf = true) : 0 ≤ a ∧ a < 4294967296 := by
  have h2 : 0 ≤ a ∧ a ≤ 4294967295 := by simpa [Lit.wf, IntKind.min, IntKind.max, IntKind.signed, IntKind.bits] using h
  omega
/-- The things that came in. -/
theorem open_things {H : Type} {enc : TypeId × Value → H} {w : World} {a : Option Addr} {len cap : Nat} {d : DataW H} {p : List MemPlace} (h : DataW.Trod enc Try.prog w 0 (fun _ => true) true 22 (.slice a len cap) d p) :
    len = 0 ∨ ∃ (lb off : Nat) (ts : List LT), a = some ⟨lb, off, none⟩ ∧ ts.length = len ∧ Ths w lb off ts ∧ len ≤ maxLen := by
  obtain ⟨fuel, hf⟩ := h
  simp only [Value.cells] at hf
  rcases open_rec Try.underlying22 Try.underlying38 (by kernel_rfl) (by kernel_rfl) hf with h0 | ⟨x, l, c, hcs, hm, hi⟩
  · simp at h0; exact .inl h0.2.1
  · simp at hcs
    obtain ⟨rfl, rfl, rfl⟩ := hcs
    by_cases h0 : len = 0
    · exact .inl h0
    · right
      have each : ∀ i, i < len → ∃ t : LT, w.cell? (x.add (i * 4)) = some (.int .u8 t.k) ∧ w.cell? (x.add (i * 4 + 1)) = some (.int .u32 t.n) ∧ w.cell? (x.add (i * 4 + 2)) = some (.string t.s) ∧ w.cell? (x.add (i * 4 + 3)) = some (.slice t.a t.ls.length t.c) ∧
          Src16 w t.a t.ls ∧ InU16 t.ls ∧ (0 ≤ t.k ∧ t.k < 256) ∧ (0 ≤ t.n ∧ t.n < 4294967296) ∧ t.s.size ≤ maxLen ∧ t.ls.length ≤ maxLen := by
        intro i hil
        obtain ⟨n, hf⟩ := hi i hil
        obtain ⟨v0, y0, e0, t0⟩ := hf 0 _ rfl
        obtain ⟨v1, y1, e1, t1⟩ := hf 1 _ rfl
        obtain ⟨v2, y2, e2, t2⟩ := hf 2 _ rfl
        obtain ⟨v3, y3, e3, t3⟩ := hf 3 _ rfl
        obtain ⟨k, q0, _, w0⟩ := DataW.trod_int Try.underlying5 t0
        obtain ⟨m, q1, _, w1⟩ := DataW.trod_int Try.underlying35 t1
        obtain ⟨s, q2, _, w2⟩ := DataW.trod_string Try.underlying9 t2
        obtain ⟨a3, c3, ls, rfl, s3, u3, l3⟩ := open_u16s t3
        simp at q0 q1 q2
        subst q0 q1 q2
        exact ⟨⟨k, m, s, a3, c3, ls⟩, e0, e1, e2, e3, s3, u3, u8_of w0, u32_of w1, w2, l3⟩
      obtain ⟨T, hT⟩ := choose_lt each
      have hc0 := (hT 0 (by omega)).1
      simp only [Nat.zero_mul] at hc0
      have hs := spot_none hc0
      rw [add_none] at hs
      obtain ⟨b, o, sp⟩ := x
      simp only at hs
      subst hs
      refine ⟨b, o, (List.range len).map T, rfl, by simp, fun i hi => ?_, hm⟩
      have hi' : i < len := by simpa using hi
      have e : ((List.range len).map T).getD i default = T i := by simp [List.getD, hi']
      rw [e]
      obtain ⟨g0, g1, g2, g3, g4, g5, g6, g7, g8, g9⟩ := hT i hi'
      rw [add_at] at g0 g1 g2 g3
      unfold maxLen at g8 g9
      exact ⟨g0, by rw [← Nat.add_assoc] at g1; exact g1, by rw [← Nat.add_assoc] at g2; exact g2, by rw [← Nat.add_assoc] at g3; exact g3, g4, g5, g6.1, g6.2, g7.1, g7.2, g8, g9⟩

set_option maxRecDepth 100000 in
theorem writes_lifted (os : Os) (started : os.Started) (H : Type) (enc : TypeId × Value → H) :
    ReturnsInHanded {} Try.checked os 3 .any (Rows.codecWritesSpec.pre6 enc Try.prog Try.f3 Rows.codecWritesRow.domain false) (Rows.codecWritesSpec.post enc Try.prog Try.f3 false true false false) := by
  refine returnsInHanded_of_change (C := Try.checked) own0 started (by kernel_rfl) Try.func3
    (ChangeSpec.witness6 (enc := enc) (C := Try.checked) false ⟨#[], #[.slice none 0 0], []⟩ 8 (by kernel_rfl) (by kernel_rfl) (by kernel_rfl) (by kernel_rfl)) ?_
  intro W base args ds gs before hval0 hW hcnd _
  have hval : ∀ (j : Nat) t v, Try.f3.params[j]? = some t → args[j]? = some v → Value.okWide Try.prog W .any base t v := hval0
  have hW' := hW
  obtain ⟨p, q, hA0, hV, rfl, hfz, hnd⟩ := hW
  have hA : DataW.TrodAll enc Try.prog W 0 (fun _ => true) true Try.f3.params.toList args.toList ds p := hA0
  rw [Try.params3] at hA hval
  obtain ⟨v0, vs0, d0, ds0, p0, q0, hargs, rfl, rfl, h0, r0⟩ := trodAll_cons hA
  obtain ⟨rfl, rfl, rfl⟩ := trodAll_nil r0
  obtain rfl : args = #[v0] := by cases args; simp_all
  obtain ⟨rfl, rfl⟩ := trodVars_none hV
  obtain ⟨a0, len0, cap0, rfl⟩ := okWide_slice Try.underlying22 (hval 0 22 v0 rfl rfl)
  have k0 := h0
  have lt0 : ∀ x ∈ p0, x.block < W.heap.size := by obtain ⟨m, hm⟩ := k0; exact DataW.trod_lt m _ _ _ hm
  clear hA0 hval0
  have walk : Calls Try.prog 3 #[.slice a0 len0 cap0] W fun e w' => e = .returned (.bool true) ∧ Keeps [] W w' := by
    rcases open_things h0 with rfl | ⟨lb, off, ts, rfl, rfl, hT, hm⟩
    · exact writes_empty W a0 cap0
    · exact writes_some W lb off cap0 ts hT (by unfold maxLen at hm; exact hm)
  refine walk.mono fun e W' ⟨he, hk⟩ => ?_
  subst he
  have bel := hk.below
  exact ⟨_, rfl, _, _, _, [], _, [], hW', trodAll_mk1 (shut_bool Try.underlying4 _), (trodAll_cons_mk (Below.trod laidOut0 (by kernel_rfl) (of_decide_eq_true (by kernel_rfl)) k0 bel lt0) trodAll_mk0), rfl, bel.frame _, fun h => by cases h⟩

theorem codecWrites_holds : Rows.CodecWritesSaid :=
  OpenClaim.holds_of_wide 3 Try.f3 rfl rfl rfl rfl rfl rfl rfl ⟨rfl, rfl, rfl, rfl, rfl⟩ rfl rfl rfl rfl rfl (by kernel_rfl) Try.func3 (by kernel_rfl)
    (of_decide_eq_true (by kernel_rfl)) (by unfold Func.isWrapper; first | (rw [if_pos (by decide +kernel)]; kernel_rfl) | (rw [if_neg (by decide +kernel)]; exact ⟨rfl, rfl⟩))
    (fun os started H enc _ => writes_lifted os started H enc)
#print axioms codecWrites_holds
end Go.Proofs.Ytchenofgmmgdmaa
