/-
  The document's Line, every event.
-/
import Derived.Test.YtffldnjjijckcaaGreatDoorR27
import Derived.Test.YtffldnjjijckcaaGreatDoorR24
import Derived.Test.YtffldnjjijckcaaGreatDoorR28
import Derived.Test.YtffldnjjijckcaaGreatDoorR19
set_option linter.unusedSimpArgs false
set_option linter.unusedVariables false
namespace Go.Proofs.YtffldnjjijckcaaGreatDoor
open Go.RowKit
noncomputable def lineX (x : Ev) : List UInt8 := if evGood x then evLine x else []
def R6LinePost (x : Ev) (w : World) (e : Ending) (w' : World) : Prop := e = .returned (.tuple #[.string (bs (lineX x)), .int .i64 (evErr x)]) ∧ Keeps [] w w'
theorem r6Line_any (w : World) (x : Ev) (hx : x.In) {N : Nat} (tx rd : Value) (ht : EvAt N w tx rd x) (hN : N ≤ w.heap.size) :
    Calls Tryz.prog 9 #[.agg (evC x tx rd)] w (R6LinePost x w) := by
  have hmay : ∀ W, EvAt N W tx rd x → N ≤ W.heap.size → Calls Tryz.prog 22 #[.agg (evC x tx rd)] W fun e w' => e = .returned (.bool (evGood x)) ∧ Keeps [] W w' := fun W h1 h2 => refMay5_any W x hx tx rd h1 h2
  unfold R6LinePost lineX evErr
  rcases bool_two (evGood x) with hg | hg
  · simp only [hg, if_true]
    rcases kind_cases (good_parts hg).1 with h | h | h | h | h | h | h
    · exact r6Line_1 w x hx tx rd ht hN hg h hmay
    · exact r6Line_2 w x hx tx rd ht hN hg h hmay
    · refine r6Line_3 w x hx tx rd ht hN hg h (fun W => ?_) hmay
      have hr : rsGood x.rk x.rv = true := by
        have := (good_parts hg).2.2.1
        unfold evFits at this
        simpa [h] using this
      refine (r3Text_any W x.rk x.rv hx.rk0 hx.rk1 hx.rv0 hx.rv1).mono ?_
      rintro e W' ⟨rfl, hk⟩
      rw [hr]
      exact ⟨⟨_, rfl⟩, hk⟩
    · exact r6Line_4 w x hx tx rd ht hN hg h hmay
    · exact r6Line_5 w x hx tx rd ht hN hg h hmay
    · exact r6Line_6 w x hx tx rd ht hN hg h hmay
    · exact r6Line_7 w x hx tx rd ht hN hg h hmay
  · simp only [hg]
    exact r6Line_none w x hx tx rd ht hN hg hmay
end Go.Proofs.YtffldnjjijckcaaGreatDoor
