/-
  Two lists of answers that are the same: the document's and the law's comparison; the law's small functions.
-/
import Derived.StillTailTactics
import Derived.Deep.RegionHeld3
import Derived.Test.YtockahocmomdlaaRS05
set_option linter.unusedSimpArgs false
set_option linter.unusedVariables false
namespace Go.Proofs.Ytockahocmomdlaa
open Go.RowKit
theorem yields_ans {ops : Array Oper} {S : World → Prop} {o : Oper} {a : Act} (r : Ans) (hw : Region.wanted o (yielded ops a.tmps) = true) (y : Operand) (ho : o.op = .load 27 y) (b off : Nat) (hx : a.eval y = .pointer (some ⟨b, off, none⟩))
    (hS : ∀ w, S w → w.rangeAt b off (ansC r)) : YieldsIf Try.prog ops S o (.agg #[.int .u8 r.k, .int .u16 r.v]) a :=
  rkA.yields Try.underlying27 rfl hw y ho b off hx r hS
theorem InA_at {N : Nat} {w : World} {a : Option Addr} {n c : Nat} {l : List Ans} (h : rkA.In N w (.slice a n c) l) {k : Nat} (hk : k < l.length) : ∃ bk o, a = some ⟨bk, o, none⟩ ∧ bk < N ∧ w.rangeAt bk (o + k * 2) (ansC l[k]) := by
  obtain ⟨_, _, e, _, _, h⟩ := h
  simp at e
  obtain ⟨rfl, -, -⟩ := e
  obtain ⟨bk, o, e, hb, hr⟩ := h (fun e => by rw [e] at hk; simp at hk)
  exact ⟨bk, o, e, hb, hr k hk⟩
set_option maxHeartbeats 8000000
set_option maxRecDepth 100000
theorem answers9_any (w : World) {M N : Nat} {v u : Value} {l : List Ans} (hV : rkA.In M w v l) (hU : rkA.In N w u l) (hM : M ≤ w.heap.size) (hN : N ≤ w.heap.size) :
    Calls Try.prog 17 #[v, u] w fun e w' => e = .returned (.bool true) ∧ Keeps [] w w' := by
  obtain ⟨a, cp, rfl, hc, hm, -⟩ := id hV
  obtain ⟨a', cp', rfl, hc', hm', -⟩ := id hU
  have HV := Lib.hid hV; have HU := Lib.hid hU
  clear hV hU
  generalize hn2 : l.length = n at *
  have HN2 := Lib.hid hn2
  clear hn2
  have tn : ((n : Int) != n) = false := by simp
  go_enter Try.func17, Try.ntmps17
  go_wp2_with fail
  go_loopw [5] (fun i wr => ∃ k : Nat, i = .int .i64 k ∧ k ≤ n ∧ Keeps [] w wr) (fun i _ => n - (intOf i).toNat)
  case atStart => exact ⟨0, rfl, by omega, Keeps.refl _ _⟩
  case round =>
    obtain ⟨k, rfl, hk, hkr⟩ := hrel
    by_cases hlt : k < n
    · have hkl : k < l.length := by have := HN2.out; omega
      obtain ⟨g, o, rfl, -, hr⟩ := InA_at (HV.out.new hkr hM) hkl
      obtain ⟨g', o', rfl, -, hr'⟩ := InA_at (HU.out.new hkr hN) hkl
      generalize l[k] = r at *
      obtain ⟨S, hS⟩ : ∃ S : World → Prop, S = fun y => Keeps [] wr y := ⟨_, rfl⟩
      have hSD : S wr.drew := by rw [hS]; exact (Keeps.refl _ _).drew
      have HS3 := Lib.hid (fun (w' : World) (h : S w') => show w'.rangeAt g (o + k * 2) (ansC r) from by rw [hS] at h; exact fun i u hi => h.cell (hr i u hi) (by simp))
      have HS4 := Lib.hid (fun (w' : World) (h : S w') => show w'.rangeAt g' (o' + k * 2) (ansC r) from by rw [hS] at h; exact fun i u hi => h.cell (hr' i u hi) (by simp))
      have HKD := Lib.hid hkr.drew
      clear hS hr hr' hkr
      go_wp2_with fail
      refine wp_region_noPanic ?_
      refine wp_region_held_drew (S := S) (by kernel_rfl) hSD (fun hHeld => ?_)
      apply wpAnyH_take (i := 0)
      · simp only [List.getElem?_toArray]; rfl
      · kernel_rfl
      · kernel_rfl
      · kernel_rfl
      · exact fun _ _ _ h => h
      · exact Or.inl ⟨by rfl, by intro w hSw; go_simp; try with_reducible rfl⟩
      · assumption
      try simp only [Act.put, List.setIfInBounds_toArray, List.set_cons_zero, List.set_cons_succ]
      apply wpAnyH_take (i := 1)
      · simp only [List.getElem?_toArray]; rfl
      · kernel_rfl
      · kernel_rfl
      · kernel_rfl
      · exact fun _ _ _ h => h
      · exact Or.inl ⟨by rfl, by intro w hSw; go_simp; try with_reducible rfl⟩
      · assumption
      try simp only [Act.put, List.setIfInBounds_toArray, List.set_cons_zero, List.set_cons_succ]
      apply wpAnyH_take (i := 2)
      · simp only [List.getElem?_toArray]; rfl
      · kernel_rfl
      · kernel_rfl
      · kernel_rfl
      · exact fun _ _ _ h => h
      · exact Or.inl ⟨by rfl, by intro w hSw; go_simp; try with_reducible rfl⟩
      · assumption
      try simp only [Act.put, List.setIfInBounds_toArray, List.set_cons_zero, List.set_cons_succ]
      apply wpAnyH_take (i := 3)
      · simp only [List.getElem?_toArray]; rfl
      · kernel_rfl
      · kernel_rfl
      · kernel_rfl
      · exact fun _ _ _ h => h
      · exact yields_ans r (by rfl) _ rfl g (o + k * 2) rfl HS3.out
      · assumption
      try simp only [Act.put, List.setIfInBounds_toArray, List.set_cons_zero, List.set_cons_succ]
      apply wpAnyH_take (i := 4)
      · simp only [List.getElem?_toArray]; rfl
      · kernel_rfl
      · kernel_rfl
      · kernel_rfl
      · exact fun _ _ _ h => h
      · exact Or.inl ⟨by rfl, by intro w hSw; go_simp; try with_reducible rfl⟩
      · assumption
      try simp only [Act.put, List.setIfInBounds_toArray, List.set_cons_zero, List.set_cons_succ]
      apply wpAnyH_take (i := 5)
      · simp only [List.getElem?_toArray]; rfl
      · kernel_rfl
      · kernel_rfl
      · kernel_rfl
      · exact fun _ _ _ h => h
      · exact Or.inl ⟨by rfl, by intro w hSw; go_simp; try with_reducible rfl⟩
      · assumption
      try simp only [Act.put, List.setIfInBounds_toArray, List.set_cons_zero, List.set_cons_succ]
      apply wpAnyH_take (i := 6)
      · simp only [List.getElem?_toArray]; rfl
      · kernel_rfl
      · kernel_rfl
      · kernel_rfl
      · exact fun _ _ _ h => h
      · exact Or.inl ⟨by rfl, by intro w hSw; go_simp; try with_reducible rfl⟩
      · assumption
      try simp only [Act.put, List.setIfInBounds_toArray, List.set_cons_zero, List.set_cons_succ]
      apply wpAnyH_take (i := 7)
      · simp only [List.getElem?_toArray]; rfl
      · kernel_rfl
      · kernel_rfl
      · kernel_rfl
      · exact fun _ _ _ h => h
      · exact yields_ans r (by rfl) _ rfl g' (o' + k * 2) rfl HS4.out
      · assumption
      try simp only [Act.put, List.setIfInBounds_toArray, List.set_cons_zero, List.set_cons_succ]
      apply wpAnyH_take (i := 8)
      · simp only [List.getElem?_toArray]; rfl
      · kernel_rfl
      · kernel_rfl
      · kernel_rfl
      · exact fun _ _ _ h => h
      · exact Or.inl ⟨by rfl, by intro w hSw; go_simp; try with_reducible rfl⟩
      · assumption
      try simp only [Act.put, List.setIfInBounds_toArray, List.set_cons_zero, List.set_cons_succ]
      refine wpAnyH_done (by kernel_rfl) ?_ _
      refine NoPanic.normal ?_
      clear hHeld hSD HS3 HS4
      go_wp2_with fail
      go_roundw
      case rel => exact ⟨k + 1, by go_num, by omega, HKD.out⟩
      case measure => simp [intOf]; omega
    · obtain rfl : k = n := by omega
      have HKR := Lib.hid hkr
      clear hkr
      go_wp2_with fail
      go_ret
      exact ⟨rfl, HKR.out⟩
theorem op9_any (w : World) (f a b : Int) : Calls Try.prog 15 #[.int .u8 f, .int .u16 a, .int .u16 b] w fun e w' => e = .returned (Opn.val ⟨f, 0, 0, a, b⟩) ∧ Keeps [] w w' := by
  have hk := (Keeps.refl [] w).alloc (.cells (opC ⟨f, 0, 0, a, b⟩).toArray 24)
  have hb := heap_alloc_new w (.cells (opC ⟨f, 0, 0, a, b⟩).toArray 24)
  have HK := Lib.hid hk; have HB := Lib.hid hb
  clear hk hb
  go_enter Try.func15, Try.ntmps15
  go_wp2_with fail
  try simp only [Exit.inBlock, Exit.then]
  exact bodyPost_ret (results_cell_row (P := Try.prog) rfl _ _ _ _ _ _ _ rfl HB.out Try.underlying24 rfl (by kernel_rfl)) rfl ⟨rfl, HK.out⟩
theorem is9_any (w : World) (k v : Int) : Calls Try.prog 18 #[.int .u8 k, .int .u16 v] w fun e w' => e = .returned (.agg (ansC ⟨k, v⟩).toArray) ∧ Keeps [] w w' := by
  have hk := (Keeps.refl [] w).alloc (.cells (ansC ⟨k, v⟩).toArray 27)
  have hb := heap_alloc_new w (.cells (ansC ⟨k, v⟩).toArray 27)
  have HK := Lib.hid hk; have HB := Lib.hid hb
  clear hk hb
  go_enter Try.func18, Try.ntmps18
  go_wp2_with fail
  try simp only [Exit.inBlock, Exit.then]
  exact bodyPost_ret (results_cell_row (P := Try.prog) rfl _ _ _ _ _ _ _ rfl HB.out Try.underlying27 rfl (by kernel_rfl)) rfl ⟨rfl, HK.out⟩
end Go.Proofs.Ytockahocmomdlaa
