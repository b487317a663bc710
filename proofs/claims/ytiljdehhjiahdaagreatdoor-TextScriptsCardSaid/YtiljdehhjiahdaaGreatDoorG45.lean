/-
  A line's reading, whatever its kind; what Parse's deferred closure does.
-/
import Derived.Defers
import Derived.Recover
import Derived.Test.YtiljdehhjiahdaaGreatDoorG44
set_option linter.unusedSimpArgs false
set_option linter.unusedVariables false
namespace Go.Proofs.YtiljdehhjiahdaaGreatDoor
open Go.RowKit
def kRead6 (k : Int) : Nat := if k = 1 then 38 else if k = 2 then 40 else if k = 3 then 42 else if k = 5 then 46 else if k = 6 then 48 else 44
def rdK (k : Int) (l : Wds) : Option (Ev × Wds) :=
  let x : Ev := { evZero with k := k }
  if k = 1 then (rdCfg l).map (fun p => ({ x with g := p.1 }, p.2)) else if k = 2 then rdInv x l else if k = 3 then rdRet x l else if k = 5 then rdBeg x l else if k = 6 then rdCom x l else
  (rdWho l).map fun p => ({ x with c := p.1, id := p.2.1 }, p.2.2)
theorem read6_any (w : World) (b r g : Nat) (l : Wds) (k : Int) (k1 : 1 ≤ k) (k7 : k ≤ 7) (h : Rdt b r g w w l { evZero with k := k } (.slice none 0 0) (.slice none 0 0)) (hlen : (Lib.join l [32]).length ≤ 1000000) :
    Calls Tryz.prog (kRead6 k) #[.pointer (some ⟨r, 0, none⟩), .pointer (some ⟨b, 0, none⟩)] w fun e W => ∃ tx rd, Fills b r g w (rdK k l) tx rd e W ∧ ∀ x' l', rdK k l = some (x', l') → EvKeeps w.heap.size W tx rd x' := by
  have hb : b < w.heap.size := lt_of_block h.ev
  have hr := h.rdr.lt
  have hg := h.rdr.gl
  have h0 := h.rdr.glob.lt
  have nil : ∀ (W : World) (x' : Ev), x'.t = [] → x'.r = [] → EvKeeps w.heap.size W (.slice none 0 0) (.slice none 0 0) x' := by
    intro W x' e1 e2 F W' _ _
    exact ⟨by rw [e1]; exact Mics.nil _ _, by rw [e2]; exact Lists.nil _ _⟩
  rcases (by omega : k = 1 ∨ k = 2 ∨ k = 3 ∨ k = 4 ∨ k = 5 ∨ k = 6 ∨ k = 7) with rfl | rfl | rfl | rfl | rfl | rfl | rfl
  · refine (config6_any w w b r g l _ _ _ h).mono fun e W hp => ⟨_, _, hp, fun x' l' hx => nil W x' ?_ ?_⟩
    all_goals
      replace hx : ((rdCfg l).map fun p => (({ ({ evZero with k := 1 } : Ev) with g := p.1 } : Ev), p.2)) = some (x', l') := hx
      rw [Option.map_eq_some_iff] at hx
      obtain ⟨p, _, hx⟩ := hx
      cases hx; rfl
  · refine (invoke6_any w w b r g l _ _ _ h).mono fun e W hp => ⟨_, _, hp, fun x' l' hx => nil W x' ?_ ?_⟩
    all_goals
      replace hx : rdInv { evZero with k := 2 } l = some (x', l') := hx
      unfold rdInv at hx
      split at hx
      · cases hx
      · split at hx
        · cases hx; rfl
        · cases hx
  · refine (returned6_any w w b r g l _ _ _ h hlen).mono fun e W hp => ⟨_, _, hp, fun x' l' hx => nil W x' ?_ ?_⟩
    all_goals
      replace hx : rdRet { evZero with k := 3 } l = some (x', l') := hx
      unfold rdRet at hx
      split at hx
      · cases hx
      · split at hx
        · cases hx; rfl
        · cases hx
  · refine (who6_any w w b r g l _ _ _ h).mono fun e W hp => ⟨_, _, hp, fun x' l' hx => nil W x' ?_ ?_⟩
    all_goals
      replace hx : ((rdWho l).map fun p => (({ ({ evZero with k := 4 } : Ev) with c := p.1, id := p.2.1 } : Ev), p.2.2)) = some (x', l') := hx
      rw [Option.map_eq_some_iff] at hx
      obtain ⟨p, _, hx⟩ := hx
      cases hx; rfl
  · refine (begin6_any w w b r g l _ _ h hb hr hg h0).mono fun e W ⟨tx, hp, hrow⟩ => ⟨tx, _, hp, fun x' l' hx F W' hk hF => ⟨mics_row (row_old (hrow x' l' hx) hk (fun q hq hf => by have h1 := (row_base (hrow x' l' hx) q hq).1; have h2 := hF q hf; omega)), ?_⟩⟩
    replace hx : rdBeg { evZero with k := 5 } l = some (x', l') := hx
    have e : x'.r = [] := by
      unfold rdBeg at hx
      split at hx
      · cases hx
      · rw [Option.map_eq_some_iff] at hx
        obtain ⟨p, _, hx⟩ := hx
        cases hx; rfl
    rw [e]; exact Lists.nil _ _
  · refine (commit6_any w w b r g l _ _ h hb hr hg h0).mono fun e W ⟨tx, us, hp, hrow⟩ => ⟨_, tx, hp, fun x' l' hx F W' hk hF => ⟨?_, lists_row (row_old (hrow x' l' hx).1 hk (fun q hq hf => by have h1 := (row_base (hrow x' l' hx).1 q hq).1; have h2 := hF q hf; omega)) ((hrow x' l' hx).2.keeps hk (fun q hq => .inl (hF q hq)))⟩⟩
    replace hx : rdCom { evZero with k := 6 } l = some (x', l') := hx
    have e : x'.t = [] := by
      unfold rdCom at hx
      split at hx
      · cases hx
      · rw [Option.map_eq_some_iff] at hx
        obtain ⟨p, _, hx⟩ := hx
        cases hx; rfl
    rw [e]; exact Mics.nil _ _
  · refine (who6_any w w b r g l _ _ _ h).mono fun e W hp => ⟨_, _, hp, fun x' l' hx => nil W x' ?_ ?_⟩
    all_goals
      replace hx : ((rdWho l).map fun p => (({ ({ evZero with k := 7 } : Ev) with c := p.1, id := p.2.1 } : Ev), p.2.2)) = some (x', l') := hx
      rw [Option.map_eq_some_iff] at hx
      obtain ⟨p, _, hx⟩ := hx
      cases hx; rfl
/-- A reading to the end is that of the words behind a kind's name. -/
theorem rdK_body (k : Int) (l : Wds) (x : Ev) : rdK k l = some (x, []) ↔ rdBody k l = some x := by
  unfold rdK rdBody
  by_cases k1 : k = 1
  · simp only [k1, if_true]
    cases h : rdCfg l with
    | none => simp
    | some p =>
      obtain ⟨g, r⟩ := p
      cases r <;> simp
  · simp only [k1, if_false]
    by_cases k2 : k = 2
    · simp only [k2, if_true, rdInv]
      cases h : rdWho l with
      | none => simp
      | some p =>
        obtain ⟨c, i, r⟩ := p
        simp only []
        split <;> simp
    · simp only [k2, if_false]
      by_cases k3 : k = 3
      · simp only [k3, if_true, rdRet]
        cases h : rdWho l with
        | none => simp
        | some p =>
          obtain ⟨c, i, r⟩ := p
          simp only []
          split <;> simp
      · simp only [k3, if_false]
        by_cases k5 : k = 5
        · simp only [k5, if_true, rdBeg]
          cases h : rdWho l with
          | none => simp
          | some p =>
            obtain ⟨c, i, r⟩ := p
            simp only []
            cases rdMics r <;> simp
        · simp only [k5, if_false]
          by_cases k6 : k = 6
          · simp only [k6, if_true, rdCom]
            cases h : rdWho l with
            | none => simp
            | some p =>
              obtain ⟨c, i, r⟩ := p
              simp only []
              cases rdLists r <;> simp
          · simp only [k6, if_false]
            cases h : rdWho l with
            | none => simp
            | some p =>
              obtain ⟨c, i, r⟩ := p
              simp only [Option.map_some]
              by_cases hr : r = []
              · simp [hr]
              · simp [hr]
theorem catch_panics (b eb : Nat) (hbe : b ≠ eb) (u : TypeId) (pv : Value) (older : List PanicEntry) (w : World) (cs : Array Value) (hx : w.heap[b]? = some (.cells cs 32 (0, 0))) (hs : cs.size = 19) (v : Value) (he : w.heap[eb]? = some (.cells #[v] 35 (0, 0))) :
    CallsD Tryz.prog 22 #[.pointer (some ⟨b, 0, none⟩), .pointer (some ⟨eb, 0, none⟩)] (.panicking ({ v := .iface u pv, recovered := false } :: older)) w fun e u' w' =>
      e = .returned (.tuple #[]) ∧ u' = .panicking ({ v := .iface u pv, recovered := true } :: older) ∧ w'.heap[b]? = some (.cells (evC evZero (.slice none 0 0) (.slice none 0 0)) 32 (0, 0)) ∧ w'.heap[eb]? = some (.cells #[.int .i64 4] 35 (0, 0)) ∧ Keeps [b, eb] w w' := by
  refine callsD_of_wpS Tryz.func22 rfl fun c₀ cs' hu => ?_
  apply wpS_seq
  apply wpS_region
  simp [wpOpsS, go_sem, recoverD, hu, Tryz.ntmps22, Exit.thenS]
  refine wpS_cond (t := true) (by simp [Act.eval, Array.replicate]) ?_
  simp only [if_true]
  refine wpS_of_wp ?_
  have et : (#[Value.pointer (some ⟨b, 0, none⟩), Value.pointer (some ⟨eb, 0, none⟩)] ++ ((Array.replicate 3 undef).setIfInBounds 0 (Value.iface u pv)).setIfInBounds 1 (Value.bool true)) = #[Value.pointer (some ⟨b, 0, none⟩), Value.pointer (some ⟨eb, 0, none⟩), .iface u pv, .bool true, undef] := rfl
  rw [et]
  clear et
  have HE := Lib.hid he
  clear he
  go_wp2_with ((with_reducible apply wpList_put_ev); exact rfl; exact rfl; exact hx; exact ⟨hs, rfl⟩; exact rfl)
  intro W hb hk
  have he2 := hk.heap HE.out (by simpa using hbe.symm)
  have c0 : W.cell? ⟨eb, 0, none⟩ = some v := by simp [World.cell?, he2]
  have hfz : W.frozen? ⟨eb, 0, none⟩ = false := by simp [World.frozen?, he2]
  have HB := Lib.hid hb; have HK := Lib.hid hk; have HE2 := Lib.hid he2
  clear hb hk he2 hx HE
  go_wp2_with fail
  have h1 : ((W.setCell ⟨eb, 0, none⟩ (.int .i64 4))).heap[eb]? = some (.cells #[.int .i64 4] 35 (0, 0)) := put1 HE2.out _
  have h2 : ((W.setCell ⟨eb, 0, none⟩ (.int .i64 4))).heap[b]? = some (.cells (evC evZero (.slice none 0 0) (.slice none 0 0)) 32 (0, 0)) := (Below.heap_setCell _ _ _ _ hbe).trans HB.out
  have h3 : Keeps [b, eb] w (W.setCell ⟨eb, 0, none⟩ (.int .i64 4)) := (HK.out.more (by simp)).setCell _ _ (.inl (by simp))
  refine ⟨rfl, _, rfl, _, results_none rfl _ _ _, ?_⟩
  exact ⟨rfl, rfl, h2, h1, h3⟩
theorem catch_idle6 (b eb : Nat) (w : World) :
    CallsD Tryz.prog 22 #[.pointer (some ⟨b, 0, none⟩), .pointer (some ⟨eb, 0, none⟩)] .returning w fun e u' w' => e = .returned (.tuple #[]) ∧ u' = .returning ∧ w' = w := by
  refine callsD_of_wpS Tryz.func22 rfl fun c₀ cs hu => ?_
  apply wpS_seq
  apply wpS_region
  simp [wpOpsS, go_sem, recoverD, hu, Tryz.ntmps22, Exit.thenS]
  refine wpS_cond (t := false) (by simp [Act.eval, Array.replicate]) ?_
  simp only [Bool.false_eq_true, if_false]
  refine wpS_of_wp (wp_skip ?_)
  cases c₀
  simp_all [bodyPostS, results, Tryz.results22]
end Go.Proofs.YtiljdehhjiahdaaGreatDoor
