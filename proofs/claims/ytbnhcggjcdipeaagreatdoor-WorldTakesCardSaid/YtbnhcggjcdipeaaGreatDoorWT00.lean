/-
  Short names for three laws of lists.
-/
import Derived.Test.YtbnhcggjcdipeaaGreatDoorProg
namespace Go.Proofs.YtbnhcggjcdipeaaGreatDoor
theorem lsA {α : Type _} (l : List α) (i : Nat) (a : α) : l.toArray.setIfInBounds i a = (l.set i a).toArray := by simp
theorem lsZ {α : Type _} (x a : α) (l : List α) : (x :: l).set 0 a = a :: l := rfl
theorem lsS {α : Type _} (x a : α) (l : List α) (n : Nat) : (x :: l).set (n + 1) a = x :: l.set n a := rfl
end Go.Proofs.YtbnhcggjcdipeaaGreatDoor
