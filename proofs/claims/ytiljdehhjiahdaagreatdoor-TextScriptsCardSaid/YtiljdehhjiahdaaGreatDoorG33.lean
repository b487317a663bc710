/-
  The reader's steps over an event: kind, model, who, config, micro.
-/
import Derived.Test.YtiljdehhjiahdaaGreatDoorG20
import Derived.Test.YtiljdehhjiahdaaGreatDoorG24
set_option linter.unusedSimpArgs false
set_option linter.unusedVariables false
namespace Go.Proofs.YtiljdehhjiahdaaGreatDoor
open Go.RowKit
/-- An event and a reader under way: all other old blocks are as they were. -/
structure Rdt (b r g : Nat) (w W : World) (l : Wds) (x : Ev) (tx rd : Value) : Prop where
  ev : W.heap[b]? = some (.cells (evC x tx rd) 32 (0, 0))
  rdr : RdAt W r g l
  keeps : Keeps [b, r] w W
  br : b ≠ r
  bg : b ≠ g
  nb : b ∉ globs
theorem Rdt.reads {b r g : Nat} {w W W' : World} {l l' : Wds} {x : Ev} {tx rd : Value} (h : Rdt b r g w W l x tx rd) (hr : RdAt W' r g l') (hk : Keeps [r] W W') : Rdt b r g w W' l' x tx rd :=
  ⟨hk.heap h.ev (by simpa using h.br), hr, h.keeps.step hk (by simp), h.br, h.bg, h.nb⟩
theorem Rdt.puts {b r g : Nat} {w W W' : World} {l : Wds} {x y : Ev} {tx rd tx' rd' : Value} (h : Rdt b r g w W l x tx rd) (hy : W'.heap[b]? = some (.cells (evC y tx' rd') 32 (0, 0))) (hk : Keeps [b] W W') : Rdt b r g w W' l y tx' rd' :=
  ⟨hy, h.rdr.keeps hk (by simpa using h.br.symm) (by simpa using h.bg.symm) (by simpa using h.nb), h.keeps.step hk (by simp), h.br, h.bg, h.nb⟩
theorem Rdt.news {b r g : Nat} {w W W' : World} {l : Wds} {x : Ev} {tx rd : Value} (h : Rdt b r g w W l x tx rd) (hk : Keeps [] W W') : Rdt b r g w W' l x tx rd :=
  ⟨hk.heap h.ev (by simp), h.rdr.new hk, h.keeps.step hk (by simp), h.br, h.bg, h.nb⟩
theorem evC_size (x : Ev) (tx rd : Value) : (evC x tx rd).size = 19 := rfl
/-- What a step over the event ends in. -/
def Fills (b r g : Nat) (w : World) (o : Option (Ev × Wds)) (tx rd : Value) (e : Ending) (W : World) : Prop :=
  match o with
  | none => e = PanicE ∧ Keeps [b, r] w W ∧ ∃ cs, W.heap[b]? = some (.cells cs 32 (0, 0)) ∧ cs.size = 19
  | some (x, l) => e = .returned (.tuple #[]) ∧ Rdt b r g w W l x tx rd
/-- Where a reader's step panics. -/
theorem Rdt.bad {b r g : Nat} {w W W' : World} {l : Wds} {x : Ev} {tx rd : Value} (h : Rdt b r g w W l x tx rd) (hk : Keeps [r] W W') : Keeps [b, r] w W' ∧ ∃ cs, W'.heap[b]? = some (.cells cs 32 (0, 0)) ∧ cs.size = 19 :=
  ⟨h.keeps.step hk (by simp), _, hk.heap h.ev (by simpa using h.br), evC_size _ _ _⟩
theorem wrap8 {n : Int} (h0 : 0 ≤ n) (h1 : n < 256) : IntKind.u8.wrap n = n := by simp [IntKind.wrap, IntKind.bits, IntKind.signed]; omega
theorem wrap16 {n : Int} (h0 : 0 ≤ n) (h1 : n < 65536) : IntKind.u16.wrap n = n := by simp [IntKind.wrap, IntKind.bits, IntKind.signed]; omega
set_option maxHeartbeats 2000000 in
set_option maxRecDepth 100000 in
theorem who6_any (w0 w : World) (b r g : Nat) (l : Wds) (x : Ev) (tx rd : Value) (h : Rdt b r g w0 w l x tx rd) :
    Calls Tryz.prog 44 #[.pointer (some ⟨r, 0, none⟩), .pointer (some ⟨b, 0, none⟩)] w (Fills b r g w0 ((rdWho l).map fun p => ({ x with c := p.1, id := p.2.1 }, p.2.2)) tx rd) := by
  have h1 := number_any w r g l h.rdr 15 (by decide) (by decide)
  obtain ⟨O, hO⟩ : ∃ O, ((rdWho l).map fun p => (({ x with c := p.1, id := p.2.1 } : Ev), p.2.2)) = O := ⟨_, rfl⟩
  rw [hO]
  have HO := Lib.hid hO
  have H := Lib.hid h
  clear h hO
  go_enter Tryz.func44, Tryz.ntmps44
  go_wp2_with fail
  refine h1.mono ?_; intro e w1 hR
  clear h1
  cases e1 : rdNum 15 l with
  | none =>
    rw [e1] at hR
    obtain ⟨rfl, hk1⟩ := hR
    obtain rfl : O = none := by rw [← HO.out]; simp [rdWho, e1]
    unfold PanicE
    clear HO
    go_wp2_with fail
    exact ⟨rfl, rfl, H.out.bad hk1⟩
  | some p =>
    obtain ⟨c, l1⟩ := p
    rw [e1] at hR
    obtain ⟨rfl, hr1, hk1⟩ := hR
    have cb := (rdNum_ok e1).2
    have wc := wrap8 cb.1 (by omega)
    have R1 := Lib.hid (H.out.reads hr1 hk1)
    have E1 := Lib.hid e1
    clear H hr1 hk1 cb e1
    go_wp2_with ((with_reducible apply wpList_put_cell (T := 5) 1 { x with c := c } tx rd); exact rfl; exact rfl; exact R1.out.ev; kernel_rfl; exact rfl; exact rfl; exact rfl)
    intro W2 hb2 hk2
    have R2 := Lib.hid (R1.out.puts hb2 hk2)
    clear R1 hb2 hk2 wc
    go_wp2_with fail
    refine (number_any _ r g l1 R2.out.rdr 65535 (by decide) (by decide)).mono ?_; intro e w3 hR
    cases e2 : rdNum 65535 l1 with
    | none =>
      rw [e2] at hR
      obtain ⟨rfl, hk3⟩ := hR
      obtain rfl : O = none := by rw [← HO.out]; simp [rdWho, E1.out, e2]
      unfold PanicE
      clear HO
      go_wp2_with fail
      exact ⟨rfl, rfl, R2.out.bad hk3⟩
    | some q =>
      obtain ⟨i, l2⟩ := q
      rw [e2] at hR
      obtain ⟨rfl, hr3, hk3⟩ := hR
      have ib := (rdNum_ok e2).2
      have wi := wrap16 ib.1 (by omega)
      have R3 := Lib.hid (R2.out.reads hr3 hk3)
      obtain rfl : O = some ({ x with c := c, id := i }, l2) := by rw [← HO.out]; simp [rdWho, E1.out, e2]
      clear R2 hr3 hk3 ib HO E1 e2
      go_wp2_with ((with_reducible apply wpList_put_cell (T := 22) 2 { x with c := c, id := i } tx rd); exact rfl; exact rfl; exact R3.out.ev; kernel_rfl; exact rfl; exact rfl; exact rfl)
      intro W4 hb4 hk4
      have R4 := Lib.hid (R3.out.puts hb4 hk4)
      clear R3 hb4 hk4
      go_wp2_with fail
      go_end0
      exact ⟨rfl, R4.out⟩
end Go.Proofs.YtiljdehhjiahdaaGreatDoor
