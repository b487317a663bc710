/-
  For every text and every list of what is asked, CodecReads returns true and leaves both as they were: the given statement CodecReadsSaid.
  Conditions: none beside those that the statement itself says.
-/
import Derived.Test.YtchenofgmmgdmaaBk
import Derived.Test.YtchenofgmmgdmaaBo
namespace Go.Proofs.Ytchenofgmmgdmaa
open Go.ChangeShapes Go.WideShapes Go.ChangeAt Go.RowKit
open Go.ChangeMaps (open_string shut_string)
open Go.Deep
/-- What was asked. -/
theorem open_asks {H : Type} {enc : TypeId × Value → H} {w : World} {a : Option Addr} {len cap : Nat} {d : DataW H} {p : List MemPlace} (h : DataW.Trod enc Try.prog w 0 (fun _ => true) true 41 (.slice a len cap) d p) :
    len = 0 ∨ ∃ (lb off : Nat) (ts : List LA), a = some ⟨lb, off, none⟩ ∧ ts.length = len ∧ Asks w lb off ts ∧ len ≤ maxLen := by
  obtain ⟨fuel, hf⟩ := h
  simp only [Value.cells] at hf
  rcases open_rec Try.underlying41 Try.underlying49 (by kernel_rfl) (by kernel_rfl) hf with h0 | ⟨x, l, c, hcs, hm, hi⟩
  · simp at h0; exact .inl h0.2.1
  · simp at hcs
    obtain ⟨rfl, rfl, rfl⟩ := hcs
    by_cases h0 : len = 0
    · exact .inl h0
    · right
      have each : ∀ i, i < len → ∃ t : LA, w.cell? (x.add (i * 2)) = some (.int .u8 t.k) ∧ w.cell? (x.add (i * 2 + 1)) = some (.int .i64 t.n) ∧ 0 ≤ t.k := by
        intro i hil
        obtain ⟨n, hf⟩ := hi i hil
        obtain ⟨v0, y0, e0, t0⟩ := hf 0 _ rfl
        obtain ⟨v1, y1, e1, t1⟩ := hf 1 _ rfl
        obtain ⟨k, q0, _, w0⟩ := DataW.trod_int Try.underlying5 t0
        obtain ⟨m, q1, _, _⟩ := DataW.trod_int Try.underlying3 t1
        simp at q0 q1
        subst q0 q1
        exact ⟨⟨k, m⟩, e0, e1, (u8_of w0).1⟩
      obtain ⟨T, hT⟩ := choose_lt each
      have hc0 := (hT 0 (by omega)).1
      simp only [Nat.zero_mul] at hc0
      have hs := spot_none hc0
      rw [add_none] at hs
      obtain ⟨b, o, sp⟩ := x
      simp only at hs
      subst hs
      refine ⟨b, o, (List.range len).map T, rfl, by simp, fun i hi => ?_, hm⟩
      have hi' : i < len := by simpa using hi
      have e : ((List.range len).map T).getD i default = T i := by simp [List.getD, hi']
      rw [e]
      obtain ⟨g0, g1, g2⟩ := hT i hi'
      rw [add_at] at g0 g1
      exact ⟨g0, by rw [← Nat.add_assoc] at g1; exact g1, g2⟩

set_option maxRecDepth 100000 in
theorem reads_lifted (os : Os) (started : os.Started) (H : Type) (enc : TypeId × Value → H) :
    ReturnsInHanded {} Try.checked os 4 .any (Rows.codecReadsSpec.pre6 enc Try.prog Try.f4 Rows.codecReadsRow.domain false) (Rows.codecReadsSpec.post enc Try.prog Try.f4 false true false false) := by
  refine returnsInHanded_of_change (C := Try.checked) own0 started (by kernel_rfl) Try.func4
    (ChangeSpec.witness6 (enc := enc) (C := Try.checked) false ⟨#[], #[.string .empty, .slice none 0 0], []⟩ 8 (by kernel_rfl) (by kernel_rfl) (by kernel_rfl) (by kernel_rfl)) ?_
  intro W base args ds gs before hval0 hW hcnd _
  have hval : ∀ (j : Nat) t v, Try.f4.params[j]? = some t → args[j]? = some v → Value.okWide Try.prog W .any base t v := hval0
  have hW' := hW
  obtain ⟨p, q, hA0, hV, rfl, hfz, hnd⟩ := hW
  have hA : DataW.TrodAll enc Try.prog W 0 (fun _ => true) true Try.f4.params.toList args.toList ds p := hA0
  rw [Try.params4] at hA hval
  obtain ⟨v0, vs0, d0, ds0, p0, q0, hargs, rfl, rfl, h0, r0⟩ := trodAll_cons hA
  obtain ⟨v1, vs1, d1, ds1, p1, q1, rfl, rfl, rfl, h1, r1⟩ := trodAll_cons r0
  obtain ⟨rfl, rfl, rfl⟩ := trodAll_nil r1
  obtain rfl : args = #[v0, v1] := by cases args; simp_all
  obtain ⟨rfl, rfl⟩ := trodVars_none hV
  obtain ⟨s, rfl, rfl, rfl, hmax⟩ := open_string Try.underlying9 (hval 0 9 v0 rfl rfl) h0
  obtain ⟨a0, len0, cap0, rfl⟩ := okWide_slice Try.underlying41 (hval 1 41 v1 rfl rfl)
  have k1 := h1
  have lt1 : ∀ x ∈ p1, x.block < W.heap.size := by obtain ⟨m, hm⟩ := k1; exact DataW.trod_lt m _ _ _ hm
  clear hA0 hval0
  have walk : Calls Try.prog 4 #[.string s, .slice a0 len0 cap0] W fun e w' => e = .returned (.bool true) ∧ Keeps [] W w' := by
    by_cases hs : (3000 : Int) < (s.size : Int)
    · exact reads_long W s a0 len0 cap0 hs
    · by_cases hn : (100 : Int) < (len0 : Int)
      · exact reads_many W s a0 len0 cap0 hs hn
      · rcases open_asks h1 with rfl | ⟨lb, off, ts, rfl, rfl, hT, hm⟩
        · exact reads_empty W s a0 cap0 hs
        · exact reads_some W s lb off cap0 ts hT hs hn
  refine walk.mono fun e W' ⟨he, hk⟩ => ?_
  subst he
  have bel := hk.below
  exact ⟨_, rfl, _, _, _, [], _, [], hW', trodAll_mk1 (shut_bool Try.underlying4 _), (trodAll_cons_mk (shut_string Try.underlying9 hmax) (trodAll_cons_mk (Below.trod laidOut0 (by kernel_rfl) (of_decide_eq_true (by kernel_rfl)) k1 bel lt1) trodAll_mk0)), rfl, bel.frame _, fun h => by cases h⟩

theorem codecReads_holds : Rows.CodecReadsSaid :=
  OpenClaim.holds_of_wide 4 Try.f4 rfl rfl rfl rfl rfl rfl rfl ⟨rfl, rfl, rfl, rfl, rfl⟩ rfl rfl rfl rfl rfl (by kernel_rfl) Try.func4 (by kernel_rfl)
    (of_decide_eq_true (by kernel_rfl)) (by unfold Func.isWrapper; first | (rw [if_pos (by decide +kernel)]; kernel_rfl) | (rw [if_neg (by decide +kernel)]; exact ⟨rfl, rfl⟩))
    (fun os started H enc _ => reads_lifted os started H enc)
#print axioms codecReads_holds
end Go.Proofs.Ytchenofgmmgdmaa
