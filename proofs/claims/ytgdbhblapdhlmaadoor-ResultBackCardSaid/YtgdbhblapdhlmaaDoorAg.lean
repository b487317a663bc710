/-
  The Reader: how its memory looks; take.
-/
import Derived.Test.YtgdbhblapdhlmaaDoorAf
namespace Go.Proofs.YtgdbhblapdhlmaaDoor
open Go.RowKit
/-- THE READER at block r over the bytes xs (block g): its error, and where it stands. -/
structure RAt (w : World) (r g cap : Nat) (xs : List Int) (e : Int) (p : Nat) : Prop where
  blk : w.heap[r]? = some (.cells #[.slice (some ⟨g, 0, none⟩) xs.length cap, .int .i64 e, .int .i64 p] 75 (0, 0))
  src : ∀ j, j < xs.length → w.cell? ⟨g, j, none⟩ = some (.int .u8 (xs.getD j 0))
  le : p ≤ xs.length
  cap : xs.length ≤ cap
  ne : g ≠ r
theorem RAt.drew {w : World} {r g cap p : Nat} {xs : List Int} {e : Int} (h : RAt w r g cap xs e p) : RAt w.drew r g cap xs e p := ⟨h.blk, h.src, h.le, h.cap, h.ne⟩
theorem RAt.drewN {w : World} {r g cap p : Nat} {xs : List Int} {e : Int} (h : RAt w r g cap xs e p) (n : Nat) : RAt (w.drewN n) r g cap xs e p := ⟨h.blk, h.src, h.le, h.cap, h.ne⟩

set_option maxHeartbeats 400000 in
theorem Err_any (w : World) (r g cap p : Nat) (xs : List Int) (e : Int) (h : RAt w r g cap xs e p) :
    Calls Tryd.prog 38 #[.pointer (some ⟨r, 0, none⟩)] w fun x w' => x = .returned (.int .i64 e) ∧ w = w' := by
  obtain ⟨c0, c1, c2, f0, f1, f2⟩ := cell3 h.blk
  go_enter Tryd.func38, Tryd.ntmps38
  go_wp2
  go_ret
  exact ⟨rfl, rfl⟩
set_option maxHeartbeats 400000 in
theorem At_any (w : World) (r g cap p : Nat) (xs : List Int) (e : Int) (h : RAt w r g cap xs e p) :
    Calls Tryd.prog 19 #[.pointer (some ⟨r, 0, none⟩)] w fun x w' => x = .returned (.int .i64 p) ∧ w = w' := by
  obtain ⟨c0, c1, c2, f0, f1, f2⟩ := cell3 h.blk
  go_enter Tryd.func19, Tryd.ntmps19
  go_wp2
  go_ret
  exact ⟨rfl, rfl⟩
set_option maxHeartbeats 400000 in
theorem Left_any (w : World) (r g cap p : Nat) (xs : List Int) (e : Int) (h : RAt w r g cap xs e p) (hl : xs.length ≤ 1000000) :
    Calls Tryd.prog 27 #[.pointer (some ⟨r, 0, none⟩)] w fun x w' => x = .returned (.int .i64 ((xs.length : Int) - p)) ∧ ∃ n, w' = w.drewN n := by
  obtain ⟨c0, c1, c2, f0, f1, f2⟩ := cell3 h.blk
  have hp := h.le
  go_enter Tryd.func27, Tryd.ntmps27
  go_wp2
  go_quiet (fail)
  go_wp2
  go_ret
  exact ⟨rfl, _, rfl⟩
/-- What Close tells. -/
def closeOf (e : Int) (p n : Nat) : Int := if e = 0 ∧ p < n then 4 else e
set_option maxHeartbeats 400000 in
theorem Over_any (w : World) (s : ByteArray) :
    Calls Tryd.prog 16 #[.string s] w fun x w' => x = .returned (.pointer (some ⟨w.heap.size + 1, 0, none⟩)) ∧ (∃ cap, RAt w' (w.heap.size + 1) w.heap.size cap (nums s) 0 0) ∧ Keeps [] w w' := by
  have hcv := fun w => run_bytes_of_string (P := Tryd.prog) w 9 46 5 s Tryd.underlying9 Tryd.underlying46 Tryd.underlying5
  go_enter Tryd.func16, Tryd.ntmps16
  go_wp2
  go_ret
  have hc := grownCap_ge w s.size 0 5
  refine ⟨rfl, ⟨grownCap w s.size 0 5, RAt.drew ⟨?_, ?_, Nat.zero_le _, by rw [nums_length]; exact hc, by omega⟩⟩, (((Keeps.refl _ _).alloc _).alloc _).drew⟩
  · have := heap_alloc_new (w.alloc (.cells (bytesRow s (grownCap w s.size 0 5)) 5 ((bytesRow s (grownCap w s.size 0 5)).size, (bytesRow s (grownCap w s.size 0 5)).size + 1))) (.cells #[.slice (some ⟨w.heap.size, 0, none⟩) s.size (grownCap w s.size 0 5), .int .i64 0, .int .i64 0] 75)
    rw [nums_length]
    simpa using this
  · intro j hj
    have h1 := bytes_src w s (grownCap w s.size 0 5) 5 ((bytesRow s (grownCap w s.size 0 5)).size, (bytesRow s (grownCap w s.size 0 5)).size + 1) j (.int .u8 ((nums s).getD j 0)) (by simp [hj, List.getD])
    have ha : ((⟨w.heap.size, 0, none⟩ : Addr).add j) = ⟨w.heap.size, j, none⟩ := by unfold Addr.add; split <;> simp_all
    rw [ha] at h1
    exact ((Keeps.refl [] _).alloc _).cell h1 (by simp)
end Go.Proofs.YtgdbhblapdhlmaaDoor
