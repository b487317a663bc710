/-
  For every list of things and every place to cut, CodecBack returns true and leaves the list as it was: the given statement CodecBackSaid.
  Conditions: none beside those that the statement itself says.
-/
import Derived.Test.YtchenofgmmgdmaaBs
import Derived.Test.YtchenofgmmgdmaaBo
namespace Go.Proofs.Ytchenofgmmgdmaa
open Go.ChangeShapes Go.WideShapes Go.ChangeAt Go.RowKit
open Go.Deep
theorem u16_of {a : Int} (h : (Lit.int .u16 a).wf = true) : 0 ≤ a ∧ a < 65536 := by
  have h2 : 0 ≤ a ∧ a ≤ 65535 := by simpa [Lit.wf, IntKind.min, IntKind.max, IntKind.signed, IntKind.bits] using h
  omega
/-- The things that came in. -/
theorem open_things {H : Type} {enc : TypeId × Value → H} {w : World} {a : Option Addr} {len cap : Nat} {d : DataW H} {p : List MemPlace} (h : DataW.Trod enc Try.prog w 0 (fun _ => true) true 22 (.slice a len cap) d p) :
    len = 0 ∨ ∃ (lb off : Nat) (ts : List LT), a = some ⟨lb, off, none⟩ ∧ ts.length = len ∧ Ths w lb off ts ∧ len ≤ maxLen := by
  obtain ⟨fuel, hf⟩ := h
  simp only [Value.cells] at hf
  rcases open_rec Try.underlying22 Try.underlying38 (by kernel_rfl) (by kernel_rfl) hf with h0 | ⟨x, l, c, hcs, hm, hi⟩
  · simp at h0; exact .inl h0.2.1
  · simp at hcs
    obtain ⟨rfl, rfl, rfl⟩ := hcs
    by_cases h0 : len = 0
    · exact .inl h0
    · right
      have each : ∀ i, i < len → ∃ t : LT, w.cell? (x.add (i * 4)) = some (.int .u8 t.k) ∧ w.cell? (x.add (i * 4 + 1)) = some (.int .u32 t.n) ∧ w.cell? (x.add (i * 4 + 2)) = some (.string t.s) ∧ w.cell? (x.add (i * 4 + 3)) = some (.slice t.a t.ls.length t.c) ∧
          Src16 w t.a t.ls ∧ InU16 t.ls ∧ (0 ≤ t.k ∧ t.k < 256) ∧ (0 ≤ t.n ∧ t.n < 4294967296) ∧ t.s.size ≤ maxLen ∧ t.ls.length ≤ maxLen := by
        intro i hil
        obtain ⟨n, hf⟩ := hi i hil
        obtain ⟨v0, y0, e0, t0⟩ := hf 0 _ rfl
        obtain ⟨v1, y1, e1, t1⟩ := hf 1 _ rfl
        obtain ⟨v2, y2, e2, t2⟩ := hf 2 _ rfl
        obtain ⟨v3, y3, e3, t3⟩ := hf 3 _ rfl
        obtain ⟨k, q0, _, w0⟩ := DataW.trod_int Try.underlying5 t0
        obtain ⟨m, q1, _, w1⟩ := DataW.trod_int Try.underlying35 t1
        obtain ⟨s, q2, _, w2⟩ := DataW.trod_string Try.underlying9 t2
        obtain ⟨a3, c3, ls, rfl, s3, u3, l3⟩ := open_u16s t3
        simp at q0 q1 q2
        subst q0 q1 q2
        exact ⟨⟨k, m, s, a3, c3, ls⟩, e0, e1, e2, e3, s3, u3, u8_of w0, u32_of w1, w2, l3⟩
      obtain ⟨T, hT⟩ := choose_lt each
      have hc0 := (hT 0 (by omega)).1
      simp only [Nat.zero_mul] at hc0
      have hs := spot_none hc0
      rw [add_none] at hs
      obtain ⟨b, o, sp⟩ := x
      simp only at hs
      subst hs
      refine ⟨b, o, (List.range len).map T, rfl, by simp, fun i hi => ?_, hm⟩
      have hi' : i < len := by simpa using hi
      have e : ((List.range len).map T).getD i default = T i := by simp [List.getD, hi']
      rw [e]
      obtain ⟨g0, g1, g2, g3, g4, g5, g6, g7, g8, g9⟩ := hT i hi'
      rw [add_at] at g0 g1 g2 g3
      unfold maxLen at g8 g9
      exact ⟨g0, by rw [← Nat.add_assoc] at g1; exact g1, by rw [← Nat.add_assoc] at g2; exact g2, by rw [← Nat.add_assoc] at g3; exact g3, g4, g5, g6.1, g6.2, g7.1, g7.2, g8, g9⟩


set_option maxRecDepth 100000 in
theorem back_lifted (os : Os) (started : os.Started) (H : Type) (enc : TypeId × Value → H) :
    ReturnsInHanded {} Try.checked os 6 .any (Rows.codecBackSpec.pre6 enc Try.prog Try.f6 Rows.codecBackRow.domain false) (Rows.codecBackSpec.post enc Try.prog Try.f6 false true false false) := by
  refine returnsInHanded_of_change (C := Try.checked) own0 started (by kernel_rfl) Try.func6
    (ChangeSpec.witness6 (enc := enc) (C := Try.checked) false ⟨#[], #[.slice none 0 0, .int .u16 0], []⟩ 8 (by kernel_rfl) (by kernel_rfl) (by kernel_rfl) (by kernel_rfl)) ?_
  intro W base args ds gs before hval0 hW hcnd _
  have hval : ∀ (j : Nat) t v, Try.f6.params[j]? = some t → args[j]? = some v → Value.okWide Try.prog W .any base t v := hval0
  have hW' := hW
  obtain ⟨p, q, hA0, hV, rfl, hfz, hnd⟩ := hW
  have hA : DataW.TrodAll enc Try.prog W 0 (fun _ => true) true Try.f6.params.toList args.toList ds p := hA0
  rw [Try.params6] at hA hval
  obtain ⟨v0, vs0, d0, ds0, p0, q0, hargs, rfl, rfl, h0, r0⟩ := trodAll_cons hA
  obtain ⟨v1, vs1, d1, ds1, p1, q1, rfl, rfl, rfl, h1, r1⟩ := trodAll_cons r0
  obtain ⟨rfl, rfl, rfl⟩ := trodAll_nil r1
  obtain rfl : args = #[v0, v1] := by cases args; simp_all
  obtain ⟨rfl, rfl⟩ := trodVars_none hV
  obtain ⟨a0, len0, cap0, rfl⟩ := okWide_slice Try.underlying22 (hval 0 22 v0 rfl rfl)
  obtain ⟨z, rfl, rfl, rfl, hz⟩ := open_int Try.underlying54 (hval 1 54 v1 rfl rfl) h1
  obtain ⟨z0, z1⟩ := u16_of hz
  have k0 := h0
  have lt0 : ∀ x ∈ p0, x.block < W.heap.size := by obtain ⟨m, hm⟩ := k0; exact DataW.trod_lt m _ _ _ hm
  clear hA0 hval0
  have walk : Calls Try.prog 6 #[.slice a0 len0 cap0, .int .u16 z] W fun e w' => e = .returned (.bool true) ∧ Keeps [] W w' := by
    rcases open_things h0 with rfl | ⟨lb, off, ts, rfl, rfl, hT, hm⟩
    · exact back_empty W a0 cap0 z
    · exact back_some W lb off cap0 z z0 z1 ts hT (by unfold maxLen at hm; exact hm)
  refine walk.mono fun e W' ⟨he, hk⟩ => ?_
  subst he
  have bel := hk.below
  exact ⟨_, rfl, _, _, _, [], _, [], hW', trodAll_mk1 (shut_bool Try.underlying4 _), (trodAll_cons_mk (Below.trod laidOut0 (by kernel_rfl) (of_decide_eq_true (by kernel_rfl)) k0 bel lt0) (trodAll_cons_mk (shut_int Try.underlying54 hz) trodAll_mk0)), rfl, bel.frame _, fun h => by cases h⟩

theorem codecBack_holds : Rows.CodecBackSaid :=
  OpenClaim.holds_of_wide 6 Try.f6 rfl rfl rfl rfl rfl rfl rfl ⟨rfl, rfl, rfl, rfl, rfl⟩ rfl rfl rfl rfl rfl (by kernel_rfl) Try.func6 (by kernel_rfl)
    (of_decide_eq_true (by kernel_rfl)) (by unfold Func.isWrapper; first | (rw [if_pos (by decide +kernel)]; kernel_rfl) | (rw [if_neg (by decide +kernel)]; exact ⟨rfl, rfl⟩))
    (fun os started H enc _ => back_lifted os started H enc)
#print axioms codecBack_holds
end Go.Proofs.Ytchenofgmmgdmaa
