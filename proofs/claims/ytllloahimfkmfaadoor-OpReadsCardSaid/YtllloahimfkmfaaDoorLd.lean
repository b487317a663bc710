/-
  New blocks whose address is told by an equation; rows under way.
-/
import Derived.Test.YtllloahimfkmfaaDoorLc
namespace Go.Proofs.YtllloahimfkmfaaDoor
open Go.RowKit
theorem one_at {w : World} {b : Nat} (hb : w.heap.size = b) (u : Value) (t : TypeId) : ∀ j x, [u][j]? = some x → (w.alloc (.cells #[u] t)).cell? ((⟨b, 0, none⟩ : Addr).add j) = some x := by
  subst hb; exact one_new w u t
theorem two_at {w : World} {b : Nat} (hb : w.heap.size = b) (u v : Value) (t : TypeId) : ∀ j x, [u, v][j]? = some x → (w.alloc (.cells #[u, v] t)).cell? ((⟨b, 0, none⟩ : Addr).add j) = some x := by
  subst hb; exact two_new w u v t
theorem text1_at {W : World} {b : Nat} (hb : W.heap.size = b) (x : Int) : (convert 59 9 (.slice (some ⟨b, 0, none⟩) 1 1)).run Tryd.prog (W.alloc (.cells #[.int .u8 x] 5)) = .ok (.string (strOfNums [x])) (W.alloc (.cells #[.int .u8 x] 5)) := by
  subst hb
  refine run_convert_bytes_arg _ _ _ Tryd.underlying59 Tryd.underlying5 W.heap.size 0 1 1 [x] rfl (fun i hi => ?_) _ Tryd.underlying9
  obtain rfl : i = 0 := by omega
  simp
theorem text2_at {W : World} {b : Nat} (hb : W.heap.size = b) (x y : Int) : (convert 59 9 (.slice (some ⟨b, 0, none⟩) 2 2)).run Tryd.prog (W.alloc (.cells #[.int .u8 x, .int .u8 y] 5)) = .ok (.string (strOfNums [x, y])) (W.alloc (.cells #[.int .u8 x, .int .u8 y] 5)) := by
  subst hb
  refine run_convert_bytes_arg _ _ _ Tryd.underlying59 Tryd.underlying5 W.heap.size 0 2 2 [x, y] (by simp) (fun i hi => ?_) _ Tryd.underlying9
  match i, hi with
  | 0, _ => simp
  | 1, _ => simp
  | i + 2, hi => exact absurd hi (by omega)
theorem PAt.begin2 {w w1 : World} {e : TypeId} {xb qb : Obj} (hx : w1.heap[w.heap.size]? = some xb) (hk : Keeps [] w w1) (u v : Value) :
    PAt w w1 ((w1.alloc qb).alloc (.cells #[u, v] e)) e xb qb (.slice (some ⟨w1.heap.size + 1, 0, none⟩) 2 2) [u, v] := by
  have h := PAt.start (qb := qb) (e := e) hx hk #[u, v] (by simp)
  have e1 : (w1.alloc qb).heap.size = w1.heap.size + 1 := by simp
  rw [e1] at h
  exact h
theorem PAt.step2 {w w1 wc wd : World} {e : TypeId} {xb qb : Obj} {v v' : Value} {xs news : List Value} {n N : Nat} {o : Obj} (h : PAt w w1 wc e xb qb v xs) (hk : Keeps (own v) (wc.alloc o) wd)
    (hr : wd.ownsRow 0 e 1 v' n (xs ++ news)) (hs : FSub (own v') (own v) N) (hN : N = (wc.alloc o).heap.size) : PAt w w1 wd e xb qb v' (xs ++ news) :=
  PAt.step o h hk hr (hN ▸ hs)
end Go.Proofs.YtllloahimfkmfaaDoor
