/-
  A line's reading, whatever its kind; what Parse's deferred closure does.
-/
import Derived.Defers
import Derived.Recover
import Derived.Test.YtffldnjjijckcaaGreatDoorL40
import Derived.Test.YtffldnjjijckcaaGreatDoorL18
import Derived.Test.YtffldnjjijckcaaGreatDoorL39
set_option linter.unusedSimpArgs false
set_option linter.unusedVariables false
namespace Go.Proofs.YtffldnjjijckcaaGreatDoor
open Go.RowKit
def kRead6 (k : Int) : Nat := if k = 1 then 48 else if k = 2 then 50 else if k = 3 then 52 else if k = 5 then 56 else if k = 6 then 58 else 54
def rdK (k : Int) (l : Wds) : Option (Ev × Wds) :=
  let x : Ev := { evZero with k := k }
  if k = 1 then (rdCfg l).map (fun p => ({ x with g := p.1 }, p.2)) else if k = 2 then rdInv x l else if k = 3 then rdRet x l else if k = 5 then rdBeg x l else if k = 6 then rdCom x l else
  (rdWho l).map fun p => ({ x with c := p.1, id := p.2.1 }, p.2.2)
theorem read6_any (w : World) (b r g : Nat) (l : Wds) (k : Int) (k1 : 1 ≤ k) (k7 : k ≤ 7) (h : Rdt b r g w w l { evZero with k := k } (.slice none 0 0) (.slice none 0 0)) (hlen : (Lib.join l [32]).length ≤ 1000000) :
    Calls Tryz.prog (kRead6 k) #[.pointer (some ⟨r, 0, none⟩), .pointer (some ⟨b, 0, none⟩)] w fun e W => ∃ tx rd, Fills b r g w (rdK k l) tx rd e W ∧ ∀ x' l', rdK k l = some (x', l') → EvKeeps w.heap.size W tx rd x' := by
  have hb : b < w.heap.size := lt_of_block h.ev
  have hr := h.rdr.lt
  have hg := h.rdr.gl
  have h0 := h.rdr.glob.lt
  have nil : ∀ (W : World) (x' : Ev), x'.t = [] → x'.r = [] → EvKeeps w.heap.size W (.slice none 0 0) (.slice none 0 0) x' := by
    intro W x' e1 e2 F W' _ _
    exact ⟨by rw [e1]; exact Mics.nil _ _, by rw [e2]; exact Lists.nil _ _⟩
  rcases (by omega : k = 1 ∨ k = 2 ∨ k = 3 ∨ k = 4 ∨ k = 5 ∨ k = 6 ∨ k = 7) with rfl | rfl | rfl | rfl | rfl | rfl | rfl
  · refine (config6_any w w b r g l _ _ _ h).mono fun e W hp => ⟨_, _, hp, fun x' l' hx => nil W x' ?_ ?_⟩
    all_goals
      replace hx : ((rdCfg l).map fun p => (({ ({ evZero with k := 1 } : Ev) with g := p.1 } : Ev), p.2)) = some (x', l') := hx
      rw [Option.map_eq_some_iff] at hx
      obtain ⟨p, _, hx⟩ := hx
      cases hx; rfl
  · refine (invoke6_any w w b r g l _ _ _ h).mono fun e W hp => ⟨_, _, hp, fun x' l' hx => nil W x' ?_ ?_⟩
    all_goals
      replace hx : rdInv { evZero with k := 2 } l = some (x', l') := hx
      unfold rdInv at hx
      split at hx
      · cases hx
      · split at hx
        · cases hx; rfl
        · cases hx
  · refine (returned6_any w w b r g l _ _ _ h hlen).mono fun e W hp => ⟨_, _, hp, fun x' l' hx => nil W x' ?_ ?_⟩
    all_goals
      replace hx : rdRet { evZero with k := 3 } l = some (x', l') := hx
      unfold rdRet at hx
      split at hx
      · cases hx
      · split at hx
        · cases hx; rfl
        · cases hx
  · refine (who6_any w w b r g l _ _ _ h).mono fun e W hp => ⟨_, _, hp, fun x' l' hx => nil W x' ?_ ?_⟩
    all_goals
      replace hx : ((rdWho l).map fun p => (({ ({ evZero with k := 4 } : Ev) with c := p.1, id := p.2.1 } : Ev), p.2.2)) = some (x', l') := hx
      rw [Option.map_eq_some_iff] at hx
      obtain ⟨p, _, hx⟩ := hx
      cases hx; rfl
  · refine (begin6_any w w b r g l _ _ h hb hr hg h0).mono fun e W ⟨tx, hp, hrow⟩ => ⟨tx, _, hp, fun x' l' hx F W' hk hF => ⟨mics_row (row_old (hrow x' l' hx) hk (fun q hq hf => by have h1 := (row_base (hrow x' l' hx) q hq).1; have h2 := hF q hf; omega)), ?_⟩⟩
    replace hx : rdBeg { evZero with k := 5 } l = some (x', l') := hx
    have e : x'.r = [] := by
      unfold rdBeg at hx
      split at hx
      · cases hx
      · rw [Option.map_eq_some_iff] at hx
        obtain ⟨p, _, hx⟩ := hx
        cases hx; rfl
    rw [e]; exact Lists.nil _ _
  · refine (commit6_any w w b r g l _ _ h hb hr hg h0).mono fun e W ⟨tx, us, hp, hrow⟩ => ⟨_, tx, hp, fun x' l' hx F W' hk hF => ⟨?_, lists_row (row_old (hrow x' l' hx).1 hk (fun q hq hf => by have h1 := (row_base (hrow x' l' hx).1 q hq).1; have h2 := hF q hf; omega)) ((hrow x' l' hx).2.keeps hk (fun q hq => .inl (hF q hq)))⟩⟩
    replace hx : rdCom { evZero with k := 6 } l = some (x', l') := hx
    have e : x'.t = [] := by
      unfold rdCom at hx
      split at hx
      · cases hx
      · rw [Option.map_eq_some_iff] at hx
        obtain ⟨p, _, hx⟩ := hx
        cases hx; rfl
    rw [e]; exact Mics.nil _ _
  · refine (who6_any w w b r g l _ _ _ h).mono fun e W hp => ⟨_, _, hp, fun x' l' hx => nil W x' ?_ ?_⟩
    all_goals
      replace hx : ((rdWho l).map fun p => (({ ({ evZero with k := 7 } : Ev) with c := p.1, id := p.2.1 } : Ev), p.2.2)) = some (x', l') := hx
      rw [Option.map_eq_some_iff] at hx
      obtain ⟨p, _, hx⟩ := hx
      cases hx; rfl
/-- A reading to the end is that of the words behind a kind's name. -/
theorem rdK_body (k : Int) (l : Wds) (x : Ev) : rdK k l = some (x, []) ↔ rdBody k l = some x := by
  unfold rdK rdBody
  by_cases k1 : k = 1
  · simp only [k1, if_true]
    cases h : rdCfg l with
    | none => simp
    | some p =>
      obtain ⟨g, r⟩ := p
      cases r <;> simp
  · simp only [k1, if_false]
    by_cases k2 : k = 2
    · simp only [k2, if_true, rdInv]
      cases h : rdWho l with
      | none => simp
      | some p =>
        obtain ⟨c, i, r⟩ := p
        simp only []
        split <;> simp
    · simp only [k2, if_false]
      by_cases k3 : k = 3
      · simp only [k3, if_true, rdRet]
        cases h : rdWho l with
        | none => simp
        | some p =>
          obtain ⟨c, i, r⟩ := p
          simp only []
          split <;> simp
      · simp only [k3, if_false]
        by_cases k5 : k = 5
        · simp only [k5, if_true, rdBeg]
          cases h : rdWho l with
          | none => simp
          | some p =>
            obtain ⟨c, i, r⟩ := p
            simp only []
            cases rdMics r <;> simp
        · simp only [k5, if_false]
          by_cases k6 : k = 6
          · simp only [k6, if_true, rdCom]
            cases h : rdWho l with
            | none => simp
            | some p =>
              obtain ⟨c, i, r⟩ := p
              simp only []
              cases rdLists r <;> simp
          · simp only [k6, if_false]
            cases h : rdWho l with
            | none => simp
            | some p =>
              obtain ⟨c, i, r⟩ := p
              simp only [Option.map_some]
              by_cases hr : r = []
              · simp [hr]
              · simp [hr]
theorem catch_panics (b eb : Nat) (hbe : b ≠ eb) (u : TypeId) (pv : Value) (older : List PanicEntry) (w : World) (cs : Array Value) (hx : w.heap[b]? = some (.cells cs 32 (0, 0))) (hs : cs.size = 19) (v : Value) (he : w.heap[eb]? = some (.cells #[v] 35 (0, 0))) :
    CallsD Tryz.prog 29 #[.pointer (some ⟨b, 0, none⟩), .pointer (some ⟨eb, 0, none⟩)] (.panicking ({ v := .iface u pv, recovered := false } :: older)) w fun e u' w' =>
      e = .returned (.tuple #[]) ∧ u' = .panicking ({ v := .iface u pv, recovered := true } :: older) ∧ w'.heap[b]? = some (.cells (evC evZero (.slice none 0 0) (.slice none 0 0)) 32 (0, 0)) ∧ w'.heap[eb]? = some (.cells #[.int .i64 4] 35 (0, 0)) ∧ Keeps [b, eb] w w' := by
  refine callsD_of_wpS Tryz.func29 rfl fun c₀ cs' hu => ?_
  apply wpS_seq
  apply wpS_region
  simp [wpOpsS, go_sem, recoverD, hu, Tryz.ntmps29, Exit.thenS]
  refine wpS_cond (t := true) (by simp [Act.eval, Array.replicate]) ?_
  simp only [if_true]
  refine wpS_of_wp ?_
  have et : (#[Value.pointer (some ⟨b, 0, none⟩), Value.pointer (some ⟨eb, 0, none⟩)] ++ ((Array.replicate 3 undef).setIfInBounds 0 (Value.iface u pv)).setIfInBounds 1 (Value.bool true)) = #[Value.pointer (some ⟨b, 0, none⟩), Value.pointer (some ⟨eb, 0, none⟩), .iface u pv, .bool true, undef] := rfl
  rw [et]
  clear et
  have HE := Lib.hid he
  clear he
  go_wp2_with ((with_reducible apply wpList_put_ev); exact rfl; exact rfl; exact hx; exact ⟨hs, rfl⟩; exact rfl)
  intro W hb hk
  have he2 := hk.heap HE.out (by simpa using hbe.symm)
  have c0 : W.cell? ⟨eb, 0, none⟩ = some v := by simp [World.cell?, he2]
  have hfz : W.frozen? ⟨eb, 0, none⟩ = false := by simp [World.frozen?, he2]
  have HB := Lib.hid hb; have HK := Lib.hid hk; have HE2 := Lib.hid he2
  clear hb hk he2 hx HE
  go_wp2_with fail
  have h1 : ((W.setCell ⟨eb, 0, none⟩ (.int .i64 4))).heap[eb]? = some (.cells #[.int .i64 4] 35 (0, 0)) := put1 HE2.out _
  have h2 : ((W.setCell ⟨eb, 0, none⟩ (.int .i64 4))).heap[b]? = some (.cells (evC evZero (.slice none 0 0) (.slice none 0 0)) 32 (0, 0)) := (Below.heap_setCell _ _ _ _ hbe).trans HB.out
  have h3 : Keeps [b, eb] w (W.setCell ⟨eb, 0, none⟩ (.int .i64 4)) := (HK.out.more (by simp)).setCell _ _ (.inl (by simp))
  refine ⟨rfl, _, rfl, _, results_none rfl _ _ _, ?_⟩
  exact ⟨rfl, rfl, h2, h1, h3⟩
theorem catch_idle6 (b eb : Nat) (w : World) :
    CallsD Tryz.prog 29 #[.pointer (some ⟨b, 0, none⟩), .pointer (some ⟨eb, 0, none⟩)] .returning w fun e u' w' => e = .returned (.tuple #[]) ∧ u' = .returning ∧ w' = w := by
  refine callsD_of_wpS Tryz.func29 rfl fun c₀ cs hu => ?_
  apply wpS_seq
  apply wpS_region
  simp [wpOpsS, go_sem, recoverD, hu, Tryz.ntmps29, Exit.thenS]
  refine wpS_cond (t := false) (by simp [Act.eval, Array.replicate]) ?_
  simp only [Bool.false_eq_true, if_false]
  refine wpS_of_wp (wp_skip ?_)
  cases c₀
  simp_all [bodyPostS, results, Tryz.results29]
end Go.Proofs.YtffldnjjijckcaaGreatDoor
/-
  The program's Parse.
-/
namespace Go.Proofs.YtffldnjjijckcaaGreatDoor
open Go.RowKit
set_option maxRecDepth 100000 in
theorem results_ev_err {fn : Func} {p u : Tmp} (h : fn.results = #[.cell p 32, .cell u 35]) (tmps : Array Value) (w : World) (b eb : Nat) {x : Ev} {tx rd v : Value} {t t2 : TypeId}
    (hp : tmps.getD p undef = .pointer (some ⟨b, 0, none⟩)) (hu : tmps.getD u undef = .pointer (some ⟨eb, 0, none⟩)) (hb : w.heap[b]? = some (.cells (evC x tx rd) t (0, 0))) (he : w.heap[eb]? = some (.cells #[v] t2 (0, 0))) :
    (results fn tmps).run Tryz.prog w = .ok (.tuple #[.agg (evC x tx rd), v]) w := by
  have h1 : (loadVar 32 ⟨b, 0, none⟩).run Tryz.prog w = .ok (.agg (evC x tx rd)) w := run_loadVar_row w b t 32 _ _ _ hb Tryz.underlying32 rfl (by kernel_rfl)
  have c0 : w.cell? ⟨eb, 0, none⟩ = some v := by simp [World.cell?, he]
  have h2 : (loadVar 35 ⟨eb, 0, none⟩).run Tryz.prog w = .ok v w := by
    go_simp
  rw [Array.getD_eq_getD_getElem?] at hp hu
  simp only [results, h]
  simp [Sem.run_bind, Result.andThen, hp, hu, asAddr, h1, h2]
theorem zero_cells6 : (#[.int .u8 0, .int .u8 0, .int .u16 0, .int .u8 0, .int .u8 0, .int .u8 0, .int .u16 0, .int .u16 0, .int .u8 0, .int .u16 0, .slice none 0 0, .slice none 0 0, .int .u8 0, .int .i64 0, .int .i64 0, .int .i64 0, .bool false, .bool false, .bool false] : Array Value) = evC evZero (.slice none 0 0) (.slice none 0 0) := rfl
/-- How Parse ends where a step panicked: nothing, and the error. -/
theorem parse_dies (tmps : Array Value) (R : Ending → World → Prop) (b eb : Nat) (hbe : b ≠ eb) (W : World) (cs : Array Value) (hx : W.heap[b]? = some (.cells cs 32 (0, 0))) (hs : cs.size = 19) (v : Value) (he : W.heap[eb]? = some (.cells #[v] 35 (0, 0)))
    (hp : tmps.getD 2 undef = .pointer (some ⟨b, 0, none⟩)) (hu : tmps.getD 3 undef = .pointer (some ⟨eb, 0, none⟩))
    (h : ∀ W', Keeps [b, eb] W W' → R (.returned (.tuple #[.agg (evC evZero (.slice none 0 0) (.slice none 0 0)), .int .i64 4])) W') :
    Leaves Tryz.prog Tryz.f10 tmps R [{ target := .fn (.func 29) #[.pointer (some ⟨b, 0, none⟩), .pointer (some ⟨eb, 0, none⟩)], args := #[] }] (.panicking [{ v := .iface 35 (.int .i64 4), recovered := false }]) W := by
  refine leaves_cons (f := 29) (args := #[.pointer (some ⟨b, 0, none⟩), .pointer (some ⟨eb, 0, none⟩)]) (by simp) (by simp [go_sem]) ?_
  refine (catch_panics b eb hbe _ _ [] W cs hx hs v he).mono ?_
  rintro e u' w' ⟨rfl, rfl, hb', he', hk⟩
  exact ⟨_, results_ev_err rfl _ _ _ _ hp hu hb' he', h w' hk⟩
theorem parse_ends (tmps : Array Value) (R : Ending → World → Prop) (b eb : Nat) (W : World) {x : Ev} {tx rd v : Value} {t t2 : TypeId} (hx : W.heap[b]? = some (.cells (evC x tx rd) t (0, 0))) (he : W.heap[eb]? = some (.cells #[v] t2 (0, 0)))
    (hp : tmps.getD 2 undef = .pointer (some ⟨b, 0, none⟩)) (hu : tmps.getD 3 undef = .pointer (some ⟨eb, 0, none⟩)) (h : R (.returned (.tuple #[.agg (evC x tx rd), v])) W) :
    Leaves Tryz.prog Tryz.f10 tmps R [{ target := .fn (.func 29) #[.pointer (some ⟨b, 0, none⟩), .pointer (some ⟨eb, 0, none⟩)], args := #[] }] .returning W := by
  refine leaves_cons (f := 29) (args := #[.pointer (some ⟨b, 0, none⟩), .pointer (some ⟨eb, 0, none⟩)]) (by simp) (by simp [go_sem]) ?_
  refine (catch_idle6 b eb W).mono ?_
  rintro e u' w' ⟨rfl, rfl, rfl⟩
  exact ⟨_, results_ev_err rfl _ _ _ _ hp hu hx he, h⟩
/-- A post in which a panic hangs on nothing but the slots of the results, and the call that is deferred. -/
def DieQ (b : Nat) (G : World → Prop) (Q : Exit → Act → World → Prop) : Exit → Act → World → Prop
  | .panic c, a, w => (c = [{ v := .iface 35 (.int .i64 4), recovered := false }] ∧ a.tmps.getD 2 undef = .pointer (some ⟨b, 0, none⟩) ∧ a.tmps.getD 3 undef = .pointer (some ⟨b + 1, 0, none⟩) ∧
      a.defers = [{ target := .fn (.func 29) #[.pointer (some ⟨b, 0, none⟩), .pointer (some ⟨b + 1, 0, none⟩)], args := #[] }]) ∧ G w
  | e, a, w => Q e a w
theorem DieQ.normal {b : Nat} {G : World → Prop} {Q : Exit → Act → World → Prop} {a : Act} {w : World} (h : Q .normal a w) : DieQ b G Q .normal a w := h
theorem DieQ.put {b : Nat} {G : World → Prop} {Q : Exit → Act → World → Prop} {d : Tmp} {v : Value} (h2 : d ≠ 2) (h3 : d ≠ 3) : ∀ (c : List PanicEntry) (a : Act) (w : World), DieQ b G Q (.panic c) (a.put (some d) v) w → DieQ b G Q (.panic c) a w := by
  intro c a w ⟨⟨e1, e2, e3, e4⟩, hg⟩
  simp only [Act.put, Array.getD_eq_getD_getElem?, Array.getElem?_setIfInBounds_ne h2, Array.getElem?_setIfInBounds_ne h3] at e2 e3
  exact ⟨⟨e1, by rw [Array.getD_eq_getD_getElem?]; exact e2, by rw [Array.getD_eq_getD_getElem?]; exact e3, e4⟩, hg⟩
theorem wp_region_die {P : Program} {id : Nat} {ops : Array Oper} {bb : Bool} {Q : Exit → Act → World → Prop} {a : Act} {w : World} (b : Nat) (G : World → Prop) (h : (Code.region id ops bb).wp P (DieQ b G Q) a w)
    (hq : ∀ a w, a.tmps.getD 2 undef = .pointer (some ⟨b, 0, none⟩) → a.tmps.getD 3 undef = .pointer (some ⟨b + 1, 0, none⟩) → a.defers = [{ target := .fn (.func 29) #[.pointer (some ⟨b, 0, none⟩), .pointer (some ⟨b + 1, 0, none⟩)], args := #[] }] → G w →
      Q (.panic [{ v := .iface 35 (.int .i64 4), recovered := false }]) a w) : (Code.region id ops bb).wp P Q a w :=
  Code.wp_mono (fun e a w h => by
    cases e with
    | panic c => obtain ⟨⟨rfl, e2, e3, e4⟩, hg⟩ := h; exact hq a w e2 e3 e4 hg
    | _ => exact h) h
theorem words_le {x : Ev} (hi : x.In) (hg : evGood x = true) : (evWords x).length ≤ 27 := by
  obtain ⟨hk, hc, hf, hn⟩ := good_parts hg
  unfold evWords
  simp only [List.length_cons]
  unfold evFits at hf
  have hflag : ∀ b w, (flagW b w).length ≤ 1 := fun b w => by unfold flagW; split <;> simp
  by_cases k3 : x.k = 3
  · rw [if_pos k3, List.length_append]
    have h1 := cut_len_le 32 (rsTxt x.rk x.rv)
    have h2 := txt_size (k := x.rk) (v := x.rv) (by have := hi.rv1; omega)
    simp [whoW]; omega
  · rw [if_neg k3]
    unfold evTail
    by_cases k1 : x.k = 1
    · simp only [k1, if_true]
      have a := hflag x.g.p partL; have b := hflag x.g.cu cutL; have c := hflag x.g.me memoL
      unfold cfgW
      simp only [List.length_append, List.length_cons, List.length_nil]
      omega
    · simp only [k1, if_false] at hf ⊢
      by_cases k2 : x.k = 2
      · simp only [k2, if_true]
        rw [List.length_append, words_length]
        have := (opWN_le x.o.f).2
        simp [whoW]; omega
      · simp only [k2, k3, if_false] at hf ⊢
        by_cases k5 : x.k = 5
        · simp only [k5, if_true] at hf ⊢
          obtain ⟨_, a, _⟩ := mics_all hf
          rw [List.length_append]
          have : ∀ t : List Mic, (t.flatMap micW).length ≤ 3 * t.length := by
            intro t
            induction t with
            | nil => simp
            | cons m t ih => have := (micW_len m).2; simp only [List.flatMap_cons, List.length_append, List.length_cons]; omega
          have := this x.t
          simp only [whoW, List.length_cons, List.length_nil]; omega
        · simp only [k5, if_false] at hf ⊢
          by_cases k6 : x.k = 6
          · simp only [k6, if_true] at hf ⊢
            have := (lists_all hf).1
            simp [whoW]; omega
          · simp [k6, whoW]
/-- Of more words nothing is parsed. -/
theorem lnGet_long {s : List UInt8} (h : 27 < (cutAt 32 s).length) : lnGet s = none := by
  cases hl : lnGet s with
  | none => rfl
  | some x =>
    obtain ⟨a, b, c, d⟩ := lnGet_ok hl
    have := words_le b a
    rw [← c, cut_line] at h
    omega
theorem lnGet_rd {s : List UInt8} {l : Wds} (hl : cutAt 32 s = l) (h : rdEv l = none) : lnGet s = none := by unfold lnGet; rw [hl, h]
theorem ln_none {s : List UInt8} (h : lnGet s = none) : lnX s = evZero ∧ lnE s = 4 := by unfold lnX lnE; rw [h]; exact ⟨rfl, rfl⟩
theorem rdEv_none {l : Wds} (h : rdKindO l = none) : rdEv l = none := by
  cases l with
  | nil => rfl
  | cons w r =>
    replace h : (if kdOf w = 0 then none else some (kdOf w, r)) = (none : Option (Int × Wds)) := h
    show (if kdOf w = 0 then none else rdBody (kdOf w) r) = none
    split at h
    · rename_i hh; rw [if_pos hh]
    · cases h
theorem rdEv_some {l : Wds} {k : Int} {t : Wds} (h : rdKindO l = some (k, t)) : (∃ w, l = w :: t) ∧ 1 ≤ k ∧ k ≤ 7 ∧ rdEv l = rdBody k t := by
  cases l with
  | nil => cases h
  | cons w r =>
    replace h : (if kdOf w = 0 then none else some (kdOf w, r)) = some (k, t) := h
    split at h
    · cases h
    · rename_i hh
      cases h
      have hb := kdOf_bounds w
      refine ⟨⟨w, rfl⟩, by omega, by omega, ?_⟩
      show (if kdOf w = 0 then none else rdBody (kdOf w) _) = _
      rw [if_neg hh]
set_option maxRecDepth 100000 in
theorem field_tx2 (w : World) (k : Int) (h1 : 1 ≤ k) (h7 : k ≤ 7) : (Instr.field 59 (.agg (txKind k)) 2).run Tryz.prog w = .ok (.func (.func (kRead6 k)) #[] #[]) w := by
  have hu := Tryz.underlying59
  rcases (by omega : k = 1 ∨ k = 2 ∨ k = 3 ∨ k = 4 ∨ k = 5 ∨ k = 6 ∨ k = 7) with rfl | rfl | rfl | rfl | rfl | rfl | rfl
  all_goals first | rfl | kernel_rfl | (simp [Instr.field, run_underlying hu, txKind, kRead6, fn, go_sem]; done)
theorem enter_read6 {k : Int} (h1 : 1 ≤ k) (h7 : k ≤ 7) : ∀ u v w, (callFunc (kRead6 k) #[u, v]).run Tryz.prog w = .ok (.enter (kRead6 k) #[u, v]) w := by
  rcases (by omega : k = 1 ∨ k = 2 ∨ k = 3 ∨ k = 4 ∨ k = 5 ∨ k = 6 ∨ k = 7) with rfl | rfl | rfl | rfl | rfl | rfl | rfl
  all_goals
    intro u v w
    simp [kRead6, go_sem]
theorem rdK_kind {k : Int} {l : Wds} {x : Ev} {r : Wds} (h : rdK k l = some (x, r)) : x.k = k := by
  unfold rdK rdInv rdRet rdBeg rdCom at h
  simp only [] at h
  split at h
  · rw [Option.map_eq_some_iff] at h; obtain ⟨p, _, h⟩ := h; cases h; rfl
  · repeat' split at h
    all_goals first
      | cases h; done
      | (rw [Option.map_eq_some_iff] at h; obtain ⟨p, _, h⟩ := h; cases h; rfl)
      | (cases h; rfl)
set_option maxHeartbeats 8000000 in
set_option maxRecDepth 100000 in
theorem txParse_any (w : World) (hG : Glob6 w) (s : List UInt8) (hs : s.length ≤ 1000000) : Calls Tryz.prog 10 #[.string (bs s)] w fun e W =>
    ∃ tx rd, e = .returned (.tuple #[.agg (evC (lnX s) tx rd), .int .i64 (lnE s)]) ∧ EvAt W.heap.size W tx rd (lnX s) ∧ Keeps [] w W := by
  have hmf : ∀ (fn : Fn) (first cap : Array Value) (w : World), (Instr.makeFunc fn first cap).run Tryz.prog w = .ok (.func fn first cap) w := fun _ _ _ _ => rfl
  obtain ⟨W0, hW0⟩ : ∃ W0, (w.alloc (.cells #[.int .u8 0, .int .u8 0, .int .u16 0, .int .u8 0, .int .u8 0, .int .u8 0, .int .u16 0, .int .u16 0, .int .u8 0, .int .u16 0, .slice none 0 0, .slice none 0 0, .int .u8 0, .int .i64 0, .int .i64 0, .int .i64 0, .bool false, .bool false, .bool false] 32)).alloc (.cells #[.int .i64 0] 35) = W0 := ⟨_, rfl⟩
  have hb0 : W0.heap[w.heap.size]? = some (.cells (evC evZero (.slice none 0 0) (.slice none 0 0)) 32 (0, 0)) := by rw [← hW0]; exact heap_alloc_lt (heap_alloc_new w _)
  have he0 : W0.heap[w.heap.size + 1]? = some (.cells #[.int .i64 0] 35 (0, 0)) := by
    rw [← hW0]
    have := heap_alloc_new (w.alloc (.cells #[.int .u8 0, .int .u8 0, .int .u16 0, .int .u8 0, .int .u8 0, .int .u8 0, .int .u16 0, .int .u16 0, .int .u8 0, .int .u16 0, .slice none 0 0, .slice none 0 0, .int .u8 0, .int .i64 0, .int .i64 0, .int .i64 0, .bool false, .bool false, .bool false] 32)) (.cells #[.int .i64 0] 35)
    simpa using this
  have hk0 : Keeps [] w W0 := by rw [← hW0]; exact ((Keeps.refl [] w).alloc _).alloc _
  have hz0 : W0.heap.size = w.heap.size + 2 := by rw [← hW0]; simp
  have hGb : w.heap.size ∉ globs := hG.above (Nat.le_refl _)
  have hGe : w.heap.size + 1 ∉ globs := hG.above (by omega)
  have HB := Lib.hid hb0; have HE := Lib.hid he0; have HK := Lib.hid hk0; have HG := Lib.hid (hG.new hk0)
  -- how it ends badly
  have hbad : lnGet s = none → ∀ (W W' : World), Keeps [] w W → Keeps [w.heap.size, w.heap.size + 1] W W' →
      ∃ tx rd, Ending.returned (.tuple #[.agg (evC evZero (.slice none 0 0) (.slice none 0 0)), .int .i64 4]) = .returned (.tuple #[.agg (evC (lnX s) tx rd), .int .i64 (lnE s)]) ∧ EvAt W'.heap.size W' tx rd (lnX s) ∧ Keeps [] w W' := by
    intro hn W W' hkW hkW'
    obtain ⟨e1, e2⟩ := ln_none hn
    rw [e1, e2]
    exact ⟨_, _, rfl, ⟨Mics.nil _ _, Lists.nil _ _⟩, hkW.trans hkW' (fun y hy => .inr (by simp at hy; omega))⟩
  have HBAD := Lib.hid hbad
  clear hb0 he0 hk0 hbad
  go_enter_defers Tryz.func10, Tryz.ntmps10
  go_wp2_with fail
  clear hW0
  refine (SplitN6_any _ HG.out s hs 32 28 (by decide) (by decide)).mono ?_; rintro e w1 ⟨v1, rfl, hs1, hk1, hz1⟩
  have hcut := splitK_cut 32 27 s
  have hpl := splitK_part 32 27 s
  rw [show 28 - 1 = 27 from rfl] at hs1
  generalize hQ : Lib.splitK [32] 0 27 s = Q at *
  have hb1 := hk1.heap HB.out (by simp)
  have he1 := hk1.heap HE.out (by simp)
  have hK1 := HK.out.trans hk1 (FSub.refl _ _)
  have hln : Q.length ≤ 28 := by rw [← hQ]; exact splitK_len 32 27 s
  have hrd : RdAt (w1.alloc (.cells #[v1] 75)) w1.heap.size W0.heap.size Q :=
    ⟨⟨v1, heap_alloc_new _ _, hs1.keeps ((Keeps.refl [] w1).alloc _) (by simp)⟩, by omega, (HG.out.new hk1).new ((Keeps.refl [] w1).alloc _), hG.above (by have := hK1.size; omega), by simp; omega, by omega, fun x hx => Nat.le_trans (hpl x hx) hs⟩
  have hv1 : v1.oneCell' = true := by obtain ⟨a, c, rfl, _⟩ := hs1; rfl
  have hb2 := heap_alloc_lt (o := .cells #[v1] 75) hb1
  have he2 := heap_alloc_lt (o := .cells #[v1] 75) he1
  have hK2 := hK1.alloc (.cells #[v1] 75)
  have hr1 : w.heap.size + 2 ≤ w1.heap.size := by have := hk1.size; omega
  obtain ⟨a1, c1, rfl, hc1, hm1, _⟩ := hs1
  have c0 : (w1.alloc (.cells #[.slice a1 Q.length c1] 75)).cell? ⟨w1.heap.size, 0, none⟩ = some (.slice a1 Q.length c1) := by simp
  have HR := Lib.hid hrd; have HB2 := Lib.hid hb2; have HE2 := Lib.hid he2; have HK2 := Lib.hid hK2
  clear hb1 he1 hK1 hrd hb2 he2 hK2 hk1 HB HE HK HG
  by_cases hq : Q.length ≤ 27
  · have hQc : cutAt 32 s = Q := by
      rcases hcut with ⟨_, b⟩ | ⟨_, b, _⟩
      · rw [← b, ← hQ]
      · omega
--BEGIN
    have hlen : ∀ t : Wds, (∃ k, Q = k :: t) → (Lib.join t [32]).length ≤ 1000000 := by
      rintro t ⟨k, e⟩
      have hj := join_cut 32 s
      rw [hQc, e] at hj
      by_cases ht : t = []
      · subst ht; simp [Lib.join_nil]
      · rw [join_cons_ne _ _ _ ht] at hj
        have := congrArg List.length hj
        simp only [List.length_append] at this
        omega
    have HLEN := Lib.hid hlen
    have hqz : decide ((Q.length : Int) ≤ 27) = true := by simp; omega
    have HQC := Lib.hid hQc
    clear hcut hpl hQ hQc hlen
    go_wp2_with fail
    refine (need_yes _).mono ?_; rintro e w3 ⟨rfl, rfl⟩
    generalize w1.alloc (.cells #[.slice a1 Q.length c1] 75) = W2 at *
    generalize hR : w1.heap.size = r at *
    generalize hG0 : W0.heap.size = g at *
    clear hR hG0 hmf
    go_wp2_with fail
    refine (kind6_any _ r g Q HR.out).mono ?_; intro e w3 hRd
    have hbr : w.heap.size ≠ r := by omega
    have her : w.heap.size + 1 ≠ r := by omega
    generalize hB : w.heap.size = B at *
    have hrge : ∀ y ∈ [r], w.heap.size ≤ y := by intro y hy; simp at hy; omega
    cases e3 : rdKindO Q with
    | none =>
      rw [e3] at hRd
      obtain ⟨rfl, hk3⟩ := hRd
      have hnone : lnGet s = none := lnGet_rd HQC.out (rdEv_none e3)
      unfold PanicE
      go_wp2_with fail
      refine parse_dies _ _ B (B + 1) (by omega) _ _ (hk3.heap HB2.out (by simpa using hbr)) (evC_size _ _ _) _ (hk3.heap HE2.out (by simpa using her)) rfl rfl ?_
      intro W' hk'
      exact HBAD.out hnone _ _ (HK2.out.trans hk3 (fun y hy => .inr (hrge y hy))) hk'
    | some p =>
      obtain ⟨k, t⟩ := p
      rw [e3] at hRd
      obtain ⟨rfl, hr3, hk3⟩ := hRd
      obtain ⟨hQt, hk1, hk7, hrd⟩ := rdEv_some e3
      have hlt := HLEN.out t hQt
      have HRD := Lib.hid hrd
      have hB3 := hk3.heap HB2.out (by simpa using hbr)
      have E3 := Lib.hid (hk3.heap HE2.out (by simpa using her))
      have K3 := Lib.hid (HK2.out.trans hk3 (fun y hy => .inr (hrge y hy)))
      have H3 := Lib.hid hr3
      have HB3 := Lib.hid hB3
      have hBg : B ≠ g := by omega
      clear hr3 hk3 hB3 HB2 HE2 HK2 HR HLEN hrd hQt e3
      go_wp2_with ((with_reducible apply wpList_put_cell (T := 5) 0 { evZero with k := k } (.slice none 0 0) (.slice none 0 0)); exact rfl; exact rfl; exact HB3.out; kernel_rfl; exact rfl; exact rfl; exact rfl)
      intro W4 hb4 hk4
      have H4 := Lib.hid (⟨hb4, H3.out.keeps hk4 (by simpa using hbr.symm) (by simpa using hBg.symm) (by simpa using hGb), Keeps.refl _ _, hbr, hBg, hGb⟩ : Rdt B r g W4 W4 t { evZero with k := k } (.slice none 0 0) (.slice none 0 0))
      have E4 := Lib.hid (hk4.heap E3.out (by simp))
      have K4 := Lib.hid (K3.out.trans hk4 (fun y hy => .inr (by simp at hy; omega)))
      have c40 := ev_cell hb4 0 (evC_0 _ _ _)
      have c40D : W4.drew.cell? ⟨B, 0, none⟩ = some (.int .u8 k) := c40
      have hix := fun w => index_tx8 w k hk1 hk7
      have hC2 := fun w => field_tx2 w k hk1 hk7
      have hent := enter_read6 hk1 hk7
      have hread := fun w b r g l h hl => read6_any w b r g l k hk1 hk7 h hl
      generalize txKind k = C at *
      generalize kRead6 k = KR at *
      generalize hKC : txKindsC = KC at *
      have HREAD := Lib.hid hread
      clear hb4 hk4 H3 E3 K3 HB3 hread c40
      go_wp2_with fail
      refine wp_region_die B (fun W => lnGet s = none ∧ Keeps [B, r] W4 W ∧ ∃ cs, W.heap[B]? = some (.cells cs 32 (0, 0)) ∧ cs.size = 19) ?reg ?hq
      case hq =>
        intro a w' e2 e3 e4 hGG
        obtain ⟨hnone, hkw, cs, hcs, hsz⟩ := hGG
        show Leaves Tryz.prog Tryz.f10 a.tmps _ a.defers _ w'
        rw [e4]
        refine parse_dies _ _ B (B + 1) (by omega) _ _ hcs hsz _ (hkw.heap E4.out (by simp; omega)) e2 e3 ?_
        intro W' hk'
        exact HBAD.out hnone _ _ (K4.out.trans hkw (fun y hy => .inr (by simp at hy; omega))) hk'
      case reg =>
      refine wp_region_held_drew (S := fun w' => w'.cell? ⟨B, 0, none⟩ = some (.int .u8 k)) (by kernel_rfl) c40D (fun hHeld => ?_)
      apply wpAnyH_take (i := 1) (v := .pointer (some ⟨B, 0, none⟩))
      · simp only [List.getElem?_toArray]; rfl
      · kernel_rfl
      · kernel_rfl
      · kernel_rfl
      · exact DieQ.put (by decide) (by decide)
      · exact Or.inl ⟨by rfl, by intro w hSw; go_simp; try with_reducible rfl⟩
      · assumption
      try simp only [Act.put, List.setIfInBounds_toArray, List.set_cons_zero, List.set_cons_succ]
      apply wpAnyH_take (i := 2) (v := .int .u8 k)
      · simp only [List.getElem?_toArray]; rfl
      · kernel_rfl
      · kernel_rfl
      · kernel_rfl
      · exact DieQ.put (by decide) (by decide)
      · exact Or.inl ⟨by rfl, by intro w hSw; replace hSw : w.cell? ⟨B, 0, none⟩ = some (.int .u8 k) := hSw; go_simp; try with_reducible rfl⟩
      · assumption
      try simp only [Act.put, List.setIfInBounds_toArray, List.set_cons_zero, List.set_cons_succ]
      apply wpAnyH_take (i := 5) (v := .pointer (some ⟨r, 0, none⟩))
      · simp only [List.getElem?_toArray]; rfl
      · kernel_rfl
      · kernel_rfl
      · kernel_rfl
      · exact DieQ.put (by decide) (by decide)
      · exact Or.inl ⟨by rfl, by intro w hSw; go_simp; try with_reducible rfl⟩
      · assumption
      try simp only [Act.put, List.setIfInBounds_toArray, List.set_cons_zero, List.set_cons_succ]
      apply wpAnyH_ready (rs := [0])
      · kernel_rfl
      · simp
      apply AllReadyH.cons (hs := AllReadyH.nil)
      · simp only [List.getElem?_toArray]; rfl
      intro K hK
      rw [if_pos (by rfl)]
      go_simp
      refine (txKinds_any _).mono ?_; rintro e w5 ⟨rfl, hk5⟩
      rw [hKC]
      have hS5 := hk5.cell hHeld (by simp)
      have hk5 := hk5.undrew
      have H5 := Lib.hid (H4.out.news hk5); have E5 := Lib.hid (hk5.heap E4.out (by simp)); have K5 := Lib.hid (K4.out.trans hk5 (FSub.refl _ _))
      clear hk5
      go_wp2_with fail
      refine hK.out _ _ ?_ (fun hHeld => ?_)
      · exact hS5
      clear hK K
      try simp only [Act.put, List.setIfInBounds_toArray, List.set_cons_zero, List.set_cons_succ]
      apply wpAnyH_ready (rs := [3])
      · kernel_rfl
      · simp
      apply AllReadyH.cons (hs := AllReadyH.nil)
      · simp only [List.getElem?_toArray]; rfl
      intro K hK
      rw [if_pos (by rfl)]
      go_simp
      go_wp2_with fail
      refine hK.out _ _ ?_ (fun hHeld => ?_)
      · exact hS5
      clear hK K
      try simp only [Act.put, List.setIfInBounds_toArray, List.set_cons_zero, List.set_cons_succ]
      apply wpAnyH_ready (rs := [4])
      · kernel_rfl
      · simp
      apply AllReadyH.cons (hs := AllReadyH.nil)
      · simp only [List.getElem?_toArray]; rfl
      intro K hK
      rw [if_pos (by rfl)]
      go_simp
      go_wp2_with fail
      refine hK.out _ _ ?_ (fun hHeld => ?_)
      · exact hS5
      clear hK K
      try simp only [Act.put, List.setIfInBounds_toArray, List.set_cons_zero, List.set_cons_succ]
      apply wpAnyH_ready (rs := [6])
      · kernel_rfl
      · simp
      apply AllReadyH.cons (hs := AllReadyH.nil)
      · simp only [List.getElem?_toArray]; rfl
      intro K hK
      rw [if_pos (by rfl)]
      go_simp
      refine (HREAD.out w5 B r g t (⟨H5.out.ev, H5.out.rdr, Keeps.refl _ _, hbr, hBg, hGb⟩) hlt).mono ?_; rintro e w6 ⟨tx, rd, hF, hEK⟩
      have hbody := rdK_body k t
      have hkind := @rdK_kind k t
      cases e6 : rdK k t with
      | none =>
        rw [e6] at hF
        obtain ⟨rfl, hk6, hcs⟩ := hF
        have hnone : lnGet s = none := by
          refine lnGet_rd HQC.out ?_
          rw [HRD.out]
          cases hb : rdBody k t with
          | none => rfl
          | some x => rw [(hbody x).2 hb] at e6; cases e6
        unfold PanicE
        clear hbody hkind hEK
        go_wp2_with fail
        exact ⟨⟨rfl, rfl, rfl, rfl⟩, H5.out.keeps.trans hk6 (fun y hy => .inl hy), hcs⟩
      | some p =>
      obtain ⟨x, l2⟩ := p
      rw [e6] at hF
      obtain ⟨rfl, h6⟩ := hF
      have hxk := hkind e6
      have hEK2 := hEK x l2 e6
      have hS6 := ev_cell h6.ev 0 (evC_0 x tx rd)
      rw [hxk] at hS6
      have hbd : ∀ y, rdBody k t = some y → l2 = [] ∧ y = x := by
        intro y hy
        have := (hbody y).2 hy
        rw [e6] at this
        cases this
        exact ⟨rfl, rfl⟩
      have hbd2 : l2 = [] → rdBody k t = some x := fun h => (hbody x).1 (by rw [e6, h])
      have H6 := Lib.hid h6
      have E6 := Lib.hid (h6.keeps.heap E5.out (by simp; omega))
      have K6 := Lib.hid (K5.out.trans h6.keeps (fun y hy => .inr (by simp at hy; omega)))
      have HEK := Lib.hid hEK2
      have HBD := Lib.hid hbd; have HBD2 := Lib.hid hbd2
      have hB5 : B < w5.heap.size := lt_of_block H5.out.ev
      have hE5 : B + 1 < w5.heap.size := lt_of_block E5.out
      clear h6 hkind hbody hEK hEK2 hxk e6 hbd hbd2 H4 H5 E4 E5 K4 K5 HREAD hent hC2 hix hKC
      go_wp2_with fail
      refine hK.out _ _ ?_ (fun hHeld => ?_)
      · exact hS6
      clear hK K
      try simp only [Act.put]
      refine wpAnyH_done (by kernel_rfl) ?_ _
      refine DieQ.normal ?_
      obtain ⟨v6, hv6, hs6⟩ := H6.out.rdr.cell
      obtain ⟨a6, c6, rfl, _, _, _⟩ := hs6
      have c60 : w6.cell? ⟨r, 0, none⟩ = some (.slice a6 l2.length c6) := by simp [World.cell?, hv6]
      clear hv6 hS6
      by_cases hl2 : l2 = []
      · subst hl2
        have hxg := HBD2.out rfl
        have hrd : rdEv (cutAt 32 s) = some x := by rw [HQC.out, HRD.out, hxg]
        have hin := (rdEv_ok (cut_parts_free 32 s) hrd).2.1
        have hln : lnGet s = if evGood x then some x else none := by unfold lnGet; rw [hrd]
        have HLN := Lib.hid hln
        have hat6 := HEK.out [] w6 (Keeps.refl _ _) (by simp)
        have hchk := Check5_any w6 H6.out.rdr.glob.o x hin tx rd hat6 (Nat.le_refl _)
        have c60' : w6.cell? ⟨r, 0, none⟩ = some (.slice a6 0 c6) := c60
        clear c60 hxg hrd hln HBD HBD2 HRD HQC hat6
        go_wp2_with fail
        refine (need_yes _).mono ?_; rintro e w7 ⟨rfl, rfl⟩
        go_wp2_with ((with_reducible apply wpList_load_ev); exact rfl; exact H6.out.ev; exact rfl)
        refine hchk.mono ?_; rintro e w8 ⟨rfl, hk8⟩
        have H8 := Lib.hid (H6.out.news hk8)
        have E8 := Lib.hid (hk8.heap E6.out (by simp))
        have K8 := Lib.hid (K6.out.trans hk8 (FSub.refl _ _))
        have hEr : evErr x = if evGood x then 0 else 4 := rfl
        rw [hEr]
        clear hchk hEr
        cases hg : evGood x with
        | false =>
          have hnone : lnGet s = none := by rw [HLN.out, hg]; rfl
          go_wp2_with fail
          refine (need_no _).mono ?_; rintro e w9 ⟨rfl, rfl⟩
          unfold PanicE
          go_wp2_with fail
          refine parse_dies _ _ B (B + 1) (by omega) _ _ H8.out.ev (evC_size _ _ _) _ E8.out rfl rfl ?_
          intro W' hk'
          exact HBAD.out hnone _ _ K8.out hk'
        | true =>
          have hsome : lnGet s = some x := by rw [HLN.out, hg]; rfl
          have hEX : lnX s = x ∧ lnE s = 0 := by unfold lnX lnE; rw [hsome]; exact ⟨rfl, rfl⟩
          have HEX := Lib.hid hEX
          have h1c := (HEK.out [] w7 (Keeps.refl _ _) (by simp))
          have hone := Lib.hid (evC_one x h1c.t.one h1c.r.one)
          have HK8 := Lib.hid hk8
          clear hsome hEX h1c hk8
          go_wp2_with fail
          refine (need_yes _).mono ?_; rintro e w9 ⟨rfl, rfl⟩
          go_wp2_with (first | ((with_reducible apply wpList_load_ev); exact rfl; exact H8.out.ev; exact rfl) | ((with_reducible apply wpList_put_ev); exact rfl; exact rfl; exact H8.out.ev; exact ⟨rfl, rfl⟩; exact hone.out))
          intro W10 hb10 hk10
          have he10 := hk10.heap E8.out (by simp)
          have d0 : W10.cell? ⟨B + 1, 0, none⟩ = some (.int .i64 0) := by simp [World.cell?, he10]
          have dz : W10.frozen? ⟨B + 1, 0, none⟩ = false := by simp [World.frozen?, he10]
          have HB10 := Lib.hid hb10; have HE10 := Lib.hid he10; have HK10 := Lib.hid hk10
          clear hb10 hk10 he10
          go_wp2_with fail
          have hkf := (HK10.out.more (G := [B, B + 1]) (by simp)).setCell ⟨B + 1, 0, none⟩ (.int .i64 0) (.inl (by simp))
          refine parse_ends _ _ B (B + 1) _ ((Below.heap_setCell _ _ _ _ (by simp)).trans HB10.out) (put1 HE10.out _) rfl rfl ?_
          obtain ⟨e1, e2⟩ := HEX.out
          rw [e1, e2]
          exact ⟨tx, rd, rfl, HEK.out [B, B + 1] _ (((HK8.out.more (G := [B, B + 1]) (by simp))).trans hkf (FSub.refl _ _)) (by intro q hq; simp at hq; omega), K8.out.trans hkf (fun y hy => .inr (by simp at hy; omega))⟩
      · have hnone : lnGet s = none := by
          refine lnGet_rd HQC.out ?_
          rw [HRD.out]
          cases hb : rdBody k t with
          | none => rfl
          | some y => exact absurd (HBD.out y hb).1 hl2
        have hpos : 0 < l2.length := List.length_pos_iff.2 hl2
        have hz : ((l2.length : Int) == 0) = false := by rw [beq_eq_false_iff_ne]; omega
        clear hl2 HBD HBD2 HRD HQC
        go_wp2_with fail
        refine (need_no _).mono ?_; rintro e w7 ⟨rfl, rfl⟩
        unfold PanicE
        go_wp2_with fail
        refine parse_dies _ _ B (B + 1) (by omega) _ _ H6.out.ev (evC_size _ _ _) _ E6.out rfl rfl ?_
        intro W' hk'
        exact HBAD.out hnone _ _ K6.out hk'
--END
  · have hnone : lnGet s = none := by
      rcases hcut with ⟨a, b⟩ | ⟨a, _⟩
      · exact lnGet_long (by rw [← b]; omega)
      · exact lnGet_long (by omega)
    have hqz : decide ((Q.length : Int) ≤ 27) = false := by simp; omega
    clear hcut hpl hQ
    go_wp2_with fail
    refine (need_no _).mono ?_; rintro e w3 ⟨rfl, rfl⟩
    unfold PanicE
    go_wp2_with fail
    refine parse_dies _ _ w.heap.size (w.heap.size + 1) (by omega) _ _ HB2.out (evC_size _ _ _) _ HE2.out rfl rfl ?_
    intro W' hk'
    exact HBAD.out hnone _ _ HK2.out hk'
end Go.Proofs.YtffldnjjijckcaaGreatDoor
/-
  The program's Line.
-/
namespace Go.Proofs.YtffldnjjijckcaaGreatDoor
open Go.RowKit
def kWords (k : Int) : Nat := if k = 1 then 47 else if k = 2 then 49 else if k = 3 then 51 else if k = 5 then 55 else if k = 6 then 57 else 53
theorem words6_any (w : World) (hG : Glob6 w) (x : Ev) (hx : x.In) (hg : evGood x = true) (tx rd : Value) {N : Nat} (ht : EvAt N w tx rd x) (hN : N ≤ w.heap.size) : Calls Tryz.prog (kWords x.k) #[.agg (evC x tx rd)] w (Words6 w (evTail x)) := by
  obtain ⟨hk, hc, hf, hn⟩ := good_parts hg
  unfold evFits at hf
  rcases kind_cases hk with e | e | e | e | e | e | e
  · rw [show evTail x = cfgW x.g by simp [evTail, e], e]
    simp only [e, if_true] at hf
    exact wordsOfConfig_any w hG x hx hf tx rd
  · rw [show evTail x = whoW x ++ opWords x.o by simp [evTail, e], e]
    simp only [e] at hf
    exact wordsOfInvoke_any w hG x hx (by simpa using hf) tx rd
  · rw [show evTail x = whoW x ++ [rsTxt x.rk x.rv] by simp [evTail, e], e]
    simp only [e] at hf
    exact wordsOfReturn_any w hG x hx (by simpa using hf) tx rd
  · rw [show evTail x = whoW x by simp [evTail, e], e]
    exact wordsOfWho_any w hG x hx tx rd
  · rw [show evTail x = whoW x ++ x.t.flatMap micW by simp [evTail, e], e]
    simp only [e] at hf
    have := (mics_all (by simpa using hf)).2.1
    exact wordsOfBegin_any w hG x hx tx rd ht.t hN (by omega)
  · rw [show evTail x = whoW x ++ x.r.map listW by simp [evTail, e], e]
    simp only [e] at hf
    obtain ⟨h1, h2⟩ := lists_all (by simpa using hf)
    exact wordsOfCommit_any w hG x hx tx rd ht.r hN (by omega) (fun l hl => by have := h2 l hl; omega)
  · rw [show evTail x = whoW x by simp [evTail, e], e]
    exact wordsOfWho_any w hG x hx tx rd
theorem listW_len {l : List Int} (hi : InU16 l) (hl : l.length ≤ 32) : (listW l).length ≤ 1000 := by
  unfold listW
  split
  · simp
  · have := join_le (l := l.map dec) (N := 7) (fun x hx => by
      rw [List.mem_map] at hx
      obtain ⟨n, hn, rfl⟩ := hx
      have := mem_u16.1 hi n hn
      exact dec_short this.1 (by omega)) 44
    simp at this ⊢
    omega
set_option maxHeartbeats 4000000 in
theorem tail_short {x : Ev} (hx : x.In) (hg : evGood x = true) : (∀ w ∈ kdNm x.k :: evTail x, w.length ≤ 1000) ∧ (evTail x).length ≤ 100 := by
  obtain ⟨hk, hc, hf, hn⟩ := good_parts hg
  have hd : ∀ n : Int, 0 ≤ n → n < 10000000 → (dec n).length ≤ 1000 := fun n a b => by have := dec_short a b; omega
  have hwho : ∀ w ∈ whoW x, w.length ≤ 1000 := by
    intro w hw
    simp [whoW] at hw
    rcases hw with rfl | rfl
    · exact hd _ hx.c0 (by omega)
    · exact hd _ hx.i0 (by have := hx.i1; omega)
  have hkd : (kdNm x.k).length ≤ 1000 := by rcases kind_cases hk with e | e | e | e | e | e | e <;> rw [e] <;> decide
  have hwl : (evWords x).length ≤ 27 := words_le hx hg
  have ho := hx.o
  unfold evFits at hf
  have key : ∀ w ∈ evTail x, w.length ≤ 1000 := by
    unfold evTail
    rcases kind_cases hk with e | e | e | e | e | e | e
    · simp only [e, if_true] at hf ⊢
      obtain ⟨g1, g2, g3, g4⟩ := cfg_all hf
      have hm0 := hx.m0
      have hmd : (mdNm x.g.m).length ≤ 1000 := by
        rcases (by omega : x.g.m = 0 ∨ x.g.m = 1 ∨ x.g.m = 2 ∨ x.g.m = 3 ∨ x.g.m = 4) with e | e | e | e | e <;> rw [e] <;> decide
      have h1 := hd x.g.mo (by omega) (by omega)
      have h2 := hd x.g.ms (by omega) (by omega)
      have h3 := hd x.g.mt (by omega) (by omega)
      intro w hw
      unfold cfgW flagW at hw
      simp only [List.mem_append, List.mem_cons, List.not_mem_nil, or_false] at hw
      rcases hw with (((rfl | rfl | rfl | rfl) | h) | h) | h
      · exact hmd
      · exact h1
      · exact h2
      · exact h3
      all_goals
        split at h
        · simp at h; subst h; decide
        · simp at h
    · simp [e] at hf ⊢
      intro w hw
      rcases hw with h | h
      · exact hwho w h
      · unfold opWords at h
        simp only [List.mem_append, List.mem_cons, List.not_mem_nil, or_false] at h
        rcases h with (((rfl | rfl) | h) | h) | h
        · exact hd _ ho.o0 (by have := ho.o1; omega)
        · unfold opNm
          repeat' split
          all_goals decide
        all_goals
          split at h
          · simp at h; subst h; first | exact hd _ ho.k0 (by have := ho.k1; omega) | exact hd _ ho.a0 (by have := ho.a1; omega) | exact hd _ ho.b0 (by have := ho.b1; omega)
          · simp at h
    · simp [e]
      intro w hw
      rcases hw with h | rfl
      · exact hwho w h
      · have := txt_size (k := x.rk) (v := x.rv) (by have := hx.rv1; omega); omega
    · simp [e]; exact hwho
    · simp [e] at hf ⊢
      intro w hw
      rcases hw with h | ⟨m, hm, h⟩
      · exact hwho w h
      · have hmi := hx.t m hm
        unfold micW at h
        split at h
        · simp at h; rcases h with rfl | rfl
          · decide
          · exact hd _ hmi.k0 (by have := hmi.k1; omega)
        · simp at h; rcases h with rfl | rfl | rfl
          · decide
          · exact hd _ hmi.k0 (by have := hmi.k1; omega)
          · exact hd _ hmi.v0 (by have := hmi.v1; omega)
    · simp [e] at hf ⊢
      intro w hw
      rcases hw with h | ⟨l, hl, rfl⟩
      · exact hwho w h
      · exact listW_len (hx.r l hl) ((lists_all hf).2 l hl)
    · simp [e]; exact hwho
  refine ⟨fun w hw => ?_, ?_⟩
  · rcases List.mem_cons.1 hw with rfl | hw
    · exact hkd
    · exact key w hw
  · by_cases k3 : x.k = 3
    · simp [evTail, k3, whoW]
    · unfold evWords at hwl
      rw [if_neg k3] at hwl
      simp at hwl
      omega
theorem txKind_1 (k : Int) (h1 : 1 ≤ k) (h7 : k ≤ 7) : (txKind k)[1]? = some (.func (.func (kWords k)) #[] #[]) := by
  rcases (by omega : k = 1 ∨ k = 2 ∨ k = 3 ∨ k = 4 ∨ k = 5 ∨ k = 6 ∨ k = 7) with rfl | rfl | rfl | rfl | rfl | rfl | rfl <;> rfl
theorem enter_words6 {k : Int} (h1 : 1 ≤ k) (h7 : k ≤ 7) : ∀ v w, (callFunc (kWords k) #[v]).run Tryz.prog w = .ok (.enter (kWords k) #[v]) w := by
  rcases (by omega : k = 1 ∨ k = 2 ∨ k = 3 ∨ k = 4 ∨ k = 5 ∨ k = 6 ∨ k = 7) with rfl | rfl | rfl | rfl | rfl | rfl | rfl
  all_goals
    intro v w
    simp [kWords, go_sem]
theorem wp_put_rowO {o : Oper} {a : Act} {w : World} {K : Act → World → Prop} {Q : Exit → Act → World → Prop} {T : TypeId} {x y : Operand} {g : Nat} {old cells : Array Value} {t : TypeId} (n : Nat)
    (ho : o.op = .store T x y) (hx : a.eval x = .pointer (some ⟨g, 0, none⟩)) (hy : a.eval y = .agg cells) (hg : w.heap[g]? = some (.cells old t (0, 0))) (hs : old.size = n ∧ cells.size = n) (hT : (Tryz.prog.info? T).map (·.size) = some n)
    (h1 : cells.toList.all (·.oneCell') = true) (h : ∀ W, W.heap[g]? = some (.cells cells t (0, 0)) → Keeps [g] w W → K (a.put o.dst undef) W) : o.wp Tryz.prog a w K Q :=
  wp_store_row T x y ho g cells hx hy t old hg (by rw [hs.2]; exact hT) (by rw [hs.1, hs.2]) (by rw [← Array.all_toList]; exact h1) (h _ (setRow_heap w g old cells t (0, 0) hg) ((Keeps.refl [g] w).setRow g cells (.inl (by simp))))
def LinePost (x : Ev) (w : World) (e : Ending) (w' : World) : Prop := e = .returned (.tuple #[.string (bs (if evGood x then evLine x else [])), .int .i64 (evErr x)]) ∧ Keeps [] w w'
set_option maxHeartbeats 16000000 in
set_option maxRecDepth 100000 in
theorem txLine_any (w : World) (hG : Glob6 w) (x : Ev) (hx : x.In) (tx rd : Value) {N : Nat} (ht : EvAt N w tx rd x) (hN : N ≤ w.heap.size) : Calls Tryz.prog 8 #[.agg (evC x tx rd)] w (LinePost x w) := by
  have hk0 := (Keeps.refl [] w).alloc (.cells (evC x tx rd) 32)
  have HX := Lib.hid (heap_alloc_new w (.cells (evC x tx rd) 32))
  have HG0 := Lib.hid (hG.new hk0)
  have HK := Lib.hid hk0
  have hz : w.heap.size < (w.alloc (.cells (evC x tx rd) 32)).heap.size := lt_of_block HX.out
  have ht0 := ht.new hk0 hN
  have hchk := Check5_any _ HG0.out.o x hx tx rd ht0 (Nat.le_trans hN hk0.size)
  have HT := Lib.hid ht0
  unfold LinePost
  have hE : evErr x = if evGood x then 0 else 4 := rfl
  rw [hE] at hchk ⊢
  have hNw : N ≤ (w.alloc (.cells (evC x tx rd) 32)).heap.size := Nat.le_trans hN hk0.size
  clear hk0 ht ht0 hE hG
  cases hg : evGood x with
  | false =>
    rw [hg] at hchk
    simp only [Bool.false_eq_true, if_false] at hchk ⊢
    clear hg
    go_enter Tryz.func8, Tryz.ntmps8
    go_wp2_with ((with_reducible apply wpList_load_ev); exact rfl; exact HX.out; exact rfl)
    generalize w.alloc (.cells (evC x tx rd) 32) = w1 at *
    refine hchk.mono ?_; rintro e w2 ⟨rfl, hk2⟩
    have HK2 := Lib.hid (HK.out.trans hk2 (FSub.refl _ _))
    clear hchk hk2 HX HT
    go_wp2_with fail
    go_ret2
    exact ⟨rfl, HK2.out⟩
  | true =>
    rw [hg] at hchk
    have hline : evLine x = Lib.join (kdNm x.k :: evTail x) [32] := rfl
    simp only [if_true] at hchk ⊢
    rw [hline]
    clear hline
    obtain ⟨RS, hRS⟩ : ∃ R, bs (Lib.join (kdNm x.k :: evTail x) [32]) = R := ⟨_, rfl⟩
    rw [hRS]
    have HRS := Lib.hid hRS
    clear hRS
    go_enter Tryz.func8, Tryz.ntmps8
    go_wp2_with ((with_reducible apply wpList_load_ev); exact rfl; exact HX.out; exact rfl)
    generalize w.alloc (.cells (evC x tx rd) 32) = w1 at *
    refine hchk.mono ?_; rintro e w2 ⟨rfl, hk2⟩
    obtain ⟨hkd, -, -, -⟩ := good_parts hg
    have hk17 : 1 ≤ x.k ∧ x.k ≤ 7 := by simp [evKind] at hkd; omega
    have hts := tail_short hx hg
    have hX2 := hk2.heap HX.out (by simp)
    have HX2 := Lib.hid hX2
    have HG2 := Lib.hid (HG0.out.new hk2)
    have HK2 := Lib.hid (HK.out.trans hk2 (FSub.refl _ _))
    have HT2 := Lib.hid (HT.out.new hk2 hNw)
    have hN2 : N ≤ w2.heap.size := Nat.le_trans hNw hk2.size
    generalize hB : w.heap.size = B at *
    have hBw : B < w2.heap.size := lt_of_block hX2
    have hix := fun w => index_tx8 w x.k hk17.1 hk17.2
    have hz3 := txKind_size x.k; have ho3 := txKind_one x.k
    have h30 := txKind_0 x.k; have h31 := txKind_1 x.k hk17.1 hk17.2
    have hent := enter_words6 hk17.1 hk17.2
    have hwd := fun w hG ht hN => words6_any w hG x hx hg tx rd (N := N) ht hN
    have hTLn : evTail x ≠ [] := by
      unfold evTail cfgW whoW
      repeat' split
      all_goals simp
    have HTLN := Lib.hid hTLn
    clear hTLn
    generalize txKind x.k = C at *
    generalize kWords x.k = KW at *
    generalize kdNm x.k = NM at *
    generalize evTail x = TL at *
    generalize hKC : txKindsC = KC at *
    have HZ3 := Lib.hid hz3; have HO3 := Lib.hid ho3; have H30 := Lib.hid h30; have H31 := Lib.hid h31; have HWD := Lib.hid hwd; have HTS := Lib.hid hts
    have HTXX := Lib.hid hx
    have HKC := Lib.hid hKC
    clear HX HG0 HK HT hchk hk2 hz3 ho3 h30 h31 hwd hts hg hkd hX2 hx hKC hB hk17
    simp only []
    go_wp2_with fail
    refine wp_region_noPanic ?_
    refine wp_region_held_drew (S := fun w' => w'.heap[B]? = some (.cells (evC x tx rd) 32 (0, 0))) (by kernel_rfl) HX2.out (fun hHeld => ?_)
    apply wpAnyH_take (i := 1) (v := .pointer (some ⟨B, 0, none⟩))
    · simp only [List.getElem?_toArray]; rfl
    · kernel_rfl
    · kernel_rfl
    · kernel_rfl
    · exact fun _ _ _ h => h
    · exact Or.inl ⟨by rfl, by intro w hSw; go_simp; try with_reducible rfl⟩
    · assumption
    try simp only [Act.put, List.setIfInBounds_toArray, List.set_cons_zero, List.set_cons_succ]
    apply wpAnyH_take (i := 2) (v := .int .u8 x.k)
    · simp only [List.getElem?_toArray]; rfl
    · kernel_rfl
    · kernel_rfl
    · kernel_rfl
    · exact fun _ _ _ h => h
    · exact Or.inl ⟨by rfl, by intro w hSw; have d0 := ev_cell hSw 0 (evC_0 x tx rd); go_simp; try with_reducible rfl⟩
    · assumption
    try simp only [Act.put, List.setIfInBounds_toArray, List.set_cons_zero, List.set_cons_succ]
    apply wpAnyH_ready (rs := [0, 4])
    · kernel_rfl
    · simp
    refine AllReadyH.cons (o := ?o0) ?h0 ?k0 (AllReadyH.cons (o := ?o4) ?h4 ?k4 AllReadyH.nil)
    case h0 => simp only [List.getElem?_toArray]; rfl
    case h4 => simp only [List.getElem?_toArray]; rfl
    case k0 =>
      intro K hK
      rw [if_pos (by rfl)]
      go_simp
      refine (txKinds_any _).mono ?_; rintro e w3 ⟨rfl, hk3⟩
      rw [HKC.out]
      have hk3 := hk3.undrew
      have hX3 := hk3.heap HX2.out (by simp)
      go_wp2_with fail
      refine hK.out _ _ ?_ (fun hHeld => ?_)
      · exact hX3
      clear hK K
      try simp only [Act.put, List.setIfInBounds_toArray, List.set_cons_zero, List.set_cons_succ]
      apply wpAnyH_ready (rs := [3, 4])
      · kernel_rfl
      · simp
      refine AllReadyH.cons (o := ?o3q) ?h3q ?k3q (AllReadyH.cons (o := ?o4q) ?h4q ?k4q AllReadyH.nil)
      case h3q => simp only [List.getElem?_toArray]; rfl
      case h4q => simp only [List.getElem?_toArray]; rfl
      case k3q =>
        intro K hK
        rw [if_pos (by rfl)]
        go_simp
        go_wp2_with fail
        refine hK.out _ _ ?_ (fun hHeld => ?_)
        · exact hX3
        clear hK K
        try simp only [Act.put, List.setIfInBounds_toArray, List.set_cons_zero, List.set_cons_succ]
        apply wpAnyH_ready (rs := [4])
        · kernel_rfl
        · simp
        apply AllReadyH.cons (hs := AllReadyH.nil)
        · simp only [List.getElem?_toArray]; rfl
        intro K hK
        rw [if_pos (by rfl)]
        go_simp
        have hkP := hk3.alloc (.cells #[.string ⟨#[]⟩, .nilFunc, .nilFunc] 59)
        have hXP := hkP.heap HX2.out (by simp)
        have hPP := heap_alloc_new w3 (.cells #[.string ⟨#[]⟩, .nilFunc, .nilFunc] 59)
        have hBP : B < w3.heap.size := lt_of_block hX3
        have hPw : w2.heap.size ≤ w3.heap.size := hk3.size
        generalize w3.alloc (.cells #[.string ⟨#[]⟩, .nilFunc, .nilFunc] 59) = W4 at *
        generalize w3.heap.size = P at *
        refine hK.out _ _ ?_ (fun hHeld => ?_)
        · exact hXP
        clear hK K
        try simp only [Act.put, List.setIfInBounds_toArray, List.set_cons_zero, List.set_cons_succ]
        apply wpAnyH_ready (rs := [5])
        · kernel_rfl
        · simp
        apply AllReadyH.cons (hs := AllReadyH.nil)
        · simp only [List.getElem?_toArray]; rfl
        intro K hK
        rw [if_pos (by rfl)]
        refine wp_put_rowO (T := 59) 3 rfl rfl rfl hPP ⟨rfl, HZ3.out⟩ (by kernel_rfl) HO3.out ?_
        intro W5 hP5 hk5
        have hX5 := hk5.heap hXP (by simp; omega)
        have HX5 := Lib.hid hX5; have HP5 := Lib.hid hP5
        have hk25 : Keeps [] w2 W5 := hkP.trans hk5 (fun y hy => .inr (by simp at hy; omega))
        have K5 := Lib.hid (HK2.out.trans hk25 (FSub.refl _ _)); have G5 := Lib.hid (HG2.out.new hk25); have T5 := Lib.hid (HT2.out.new hk25 hN2)
        have hN5 : N ≤ W5.heap.size := Nat.le_trans hN2 hk25.size
        have hB5 : B < W5.heap.size := lt_of_block hX5
        have hP55 : P < W5.heap.size := lt_of_block hP5
        refine hK.out _ _ ?_ (fun hHeld => ?_)
        · exact hX5
        clear hK K
        try simp only [Act.put, List.setIfInBounds_toArray, List.set_cons_zero, List.set_cons_succ]
        clear hk5 hP5 hX5 hk25 hkP hXP hPP hk3 hX3
        refine wpAnyH_done (by kernel_rfl) ?_ _
        refine NoPanic.normal ?_
        have hTL0 : TL ≠ [] := HTLN.out
        have G5d := Lib.hid (G5.out.new (Keeps.refl [] W5).drew)
        have T5d := Lib.hid (T5.out.new (Keeps.refl [] W5).drew hN5)
        go_wp2_with fail
        refine wp_region_noPanic ?_
        refine wp_region_held_drew (S := fun w' => w'.heap[B]? = some (.cells (evC x tx rd) 32 (0, 0)) ∧ w'.heap[P]? = some (.cells C 59 (0, 0))) (by kernel_rfl) ⟨HX5.out, HP5.out⟩ (fun hHeld => ?_)
        apply wpAnyH_take (i := 0) (v := .pointer (some ⟨P, 0, none⟩))
        · simp only [List.getElem?_toArray]; rfl
        · kernel_rfl
        · kernel_rfl
        · kernel_rfl
        · exact fun _ _ _ h => h
        · exact Or.inl ⟨by rfl, by intro w hSw; go_simp; try with_reducible rfl⟩
        · assumption
        try simp only [Act.put, List.setIfInBounds_toArray, List.set_cons_zero, List.set_cons_succ]
        apply wpAnyH_take (i := 1) (v := .string (bs NM))
        · simp only [List.getElem?_toArray]; rfl
        · kernel_rfl
        · kernel_rfl
        · kernel_rfl
        · exact fun _ _ _ h => h
        · exact Or.inl ⟨by rfl, by intro w hSw; have d0 : w.cell? ⟨P, 0, none⟩ = some (.string (bs NM)) := (by have := hSw.2; simp [World.cell?, this, H30.out]); go_simp; try with_reducible rfl⟩
        · assumption
        try simp only [Act.put, List.setIfInBounds_toArray, List.set_cons_zero, List.set_cons_succ]
        apply wpAnyH_take (i := 3) (v := .pointer (some ⟨P, 1, none⟩))
        · simp only [List.getElem?_toArray]; rfl
        · kernel_rfl
        · kernel_rfl
        · kernel_rfl
        · exact fun _ _ _ h => h
        · exact Or.inl ⟨by rfl, by intro w hSw; go_simp; try with_reducible rfl⟩
        · assumption
        try simp only [Act.put, List.setIfInBounds_toArray, List.set_cons_zero, List.set_cons_succ]
        apply wpAnyH_take (i := 4) (v := .func (.func KW) #[] #[])
        · simp only [List.getElem?_toArray]; rfl
        · kernel_rfl
        · kernel_rfl
        · kernel_rfl
        · exact fun _ _ _ h => h
        · exact Or.inl ⟨by rfl, by intro w hSw; have d0 : w.cell? ⟨P, 1, none⟩ = some (.func (.func KW) #[] #[]) := (by have := hSw.2; simp [World.cell?, this, H31.out]); go_simp; try with_reducible rfl⟩
        · assumption
        try simp only [Act.put, List.setIfInBounds_toArray, List.set_cons_zero, List.set_cons_succ]
        apply wpAnyH_take (i := 5) (v := .agg (evC x tx rd))
        · simp only [List.getElem?_toArray]; rfl
        · kernel_rfl
        · kernel_rfl
        · kernel_rfl
        · exact fun _ _ _ h => h
        · exact yields_ev (by rfl) _ rfl B rfl (fun w hSw => ev_load hSw.1)
        · assumption
        try simp only [Act.put, List.setIfInBounds_toArray, List.set_cons_zero, List.set_cons_succ]
        apply wpAnyH_ready (rs := [2, 6])
        · kernel_rfl
        · simp
        refine AllReadyH.cons (o := ?o2r) ?h2r ?k2r (AllReadyH.cons (o := ?o6r) ?h6r ?k6r AllReadyH.nil)
        case h2r => simp only [List.getElem?_toArray]; rfl
        case h6r => simp only [List.getElem?_toArray]; rfl
        case k2r =>
          intro K hK
          rw [if_pos (by rfl)]
          go_simp
          have hrowL : RowW W5.heap.size ((W5.alloc (.cells #[.string (bs NM)] 9)).drew) (.slice (some ⟨W5.heap.size, 0, none⟩) 1 1) [NM] := World.ownsRow_lit (base := W5.heap.size) (e := 9) (size := 1) W5 #[.string (bs NM)] 1 (Nat.le_refl _) (by decide) rfl
          have hkL : Keeps [] W5 ((W5.alloc (.cells #[.string (bs NM)] 9)).drew) := ((Keeps.refl [] W5).alloc _).drew
          have hXL := hkL.heap HX5.out (by simp); have hPL := hkL.heap HP5.out (by simp)
          have hGL := G5.out.new hkL
          have hTL := T5.out.new hkL hN5
          have hNL : N ≤ ((W5.alloc (.cells #[.string (bs NM)] 9)).drew).heap.size := Nat.le_trans hN5 hkL.size
          have hBL : B < ((W5.alloc (.cells #[.string (bs NM)] 9)).drew).heap.size := lt_of_block hXL
          have hPPL : P < ((W5.alloc (.cells #[.string (bs NM)] 9)).drew).heap.size := lt_of_block hPL
          generalize (W5.alloc (.cells #[.string (bs NM)] 9)).drew = W6 at *
          refine hK.out _ _ ?_ (fun hHeld => ?_)
          · exact ⟨hXL, hPL⟩
          clear hK K
          try simp only [Act.put, List.setIfInBounds_toArray, List.set_cons_zero, List.set_cons_succ]
          apply wpAnyH_ready (rs := [6])
          · kernel_rfl
          · simp
          apply AllReadyH.cons (hs := AllReadyH.nil)
          · simp only [List.getElem?_toArray]; rfl
          intro K hK
          rw [if_pos (by rfl)]
          go_simp
          refine (HWD.out _ hGL hTL hNL).mono ?_; rintro e w7 ⟨v7, rfl, hrow7, hk7⟩
          have hk57 := hkL.trans hk7 (FSub.refl _ _)
          have hX7 := hk7.heap hXL (by simp); have hP7 := hk7.heap hPL (by simp)
          have hrowL7 := row_old hrowL hk7 (by simp)
          go_wp2_with fail
          refine hK.out _ _ ?_ (fun hHeld => ?_)
          · exact ⟨hX7, hP7⟩
          clear hK K
          try simp only [Act.put, List.setIfInBounds_toArray, List.set_cons_zero, List.set_cons_succ]
          obtain ⟨v8, w8, hr8, ho8, hk8⟩ := append_row w7 W5.heap.size hk57.size _ [NM] hrowL7 (by simp) v7 TL hrow7 (by have := HTS.out.2; omega) hTL0
          have hF8 : ∀ y ∈ own (.slice (some ⟨W5.heap.size, 0, none⟩) 1 1), W5.heap.size ≤ y := fun y hy => (row_base hrowL7 y hy).1
          have hk08 := K5.out.trans (hk57.trans hk8 (fun y hy => .inr (hF8 y hy))) (FSub.refl _ _)
          have HX8 := Lib.hid (hk8.heap hX7 (fun hm => by have := hF8 _ hm; omega)); have HP8 := Lib.hid (hk8.heap hP7 (fun hm => by have := hF8 _ hm; omega))
          clear hk8 hF8 hrowL7 hrow7 hk7 hk57 hX7 hP7 hrowL hXL hPL
          have HJ := Lib.hid (Join6_any w8 v8 (NM :: TL) 32 ho8.strs (M := 1000) HTS.out.1 (by simp only [List.length_cons]; have := HTS.out.2; omega))
          have HR8 := Lib.hid hr8; have K8 := Lib.hid hk08
          clear hr8 ho8 hk08
          apply wpAnyH_ready (rs := [7])
          · kernel_rfl
          · simp
          apply AllReadyH.cons (hs := AllReadyH.nil)
          · simp only [List.getElem?_toArray]; rfl
          intro K hK
          rw [if_pos (by rfl)]
          refine wp_append_run _ _ 63 rfl _ _ _ _ rfl rfl HR8.out ?_
          refine hK.out _ _ ?_ (fun hHeld => ?_)
          · exact ⟨HX8.out, HP8.out⟩
          clear hK K
          try simp only [Act.put, List.setIfInBounds_toArray, List.set_cons_zero, List.set_cons_succ]
          apply wpAnyH_ready (rs := [8])
          · kernel_rfl
          · simp
          apply AllReadyH.cons (hs := AllReadyH.nil)
          · simp only [List.getElem?_toArray]; rfl
          intro K hK
          rw [if_pos (by rfl)]
          go_simp
          refine HJ.out.mono ?_; rintro e w9 ⟨rfl, hk9⟩
          have hk09 := K8.out.trans hk9 (FSub.refl _ _)
          have hX9 := hk9.heap HX8.out (by simp); have hP9 := hk9.heap HP8.out (by simp)
          go_wp2_with fail
          refine hK.out _ _ ?_ (fun hHeld => ?_)
          · exact ⟨hX9, hP9⟩
          clear hK K
          try simp only [Act.put, List.setIfInBounds_toArray, List.set_cons_zero, List.set_cons_succ]
          apply wpAnyH_ready (rs := [9])
          · kernel_rfl
          · simp
          apply AllReadyH.cons (hs := AllReadyH.nil)
          · simp only [List.getElem?_toArray]; rfl
          intro K hK
          rw [if_pos (by rfl)]
          go_simp
          refine hK.out _ _ ?_ (fun hHeld => ?_)
          · exact ⟨hX9, hP9⟩
          clear hK K
          try simp only [Act.put, List.setIfInBounds_toArray, List.set_cons_zero, List.set_cons_succ]
          apply wpAnyH_ready (rs := [10])
          · kernel_rfl
          · simp
          apply AllReadyH.cons (hs := AllReadyH.nil)
          · simp only [List.getElem?_toArray]; rfl
          intro K hK
          rw [if_pos (by rfl)]
          go_simp
          refine hK.out _ _ ?_ (fun hHeld => ?_)
          · exact ⟨hX9, hP9⟩
          clear hK K
          try simp only [Act.put, List.setIfInBounds_toArray, List.set_cons_zero, List.set_cons_succ]
          refine wpAnyH_done (by kernel_rfl) ?_ _
          refine NoPanic.normal ?_
          go_wp2_with fail
          go_ret2
          exact ⟨by rw [HRS.out]; rfl, hk09⟩
        case k6r =>
          intro K hK
          rw [if_pos (by rfl)]
          go_simp
          refine (HWD.out _ G5d.out T5d.out hN5).mono ?_; rintro e w7 ⟨v7, rfl, hrow7, hk7⟩
          have hk57 : Keeps [] W5 w7 := hk7.undrew
          have hX7 := hk57.heap HX5.out (by simp); have hP7 := hk57.heap HP5.out (by simp)
          have hB7 : B < w7.heap.size := lt_of_block hX7
          have hP77 : P < w7.heap.size := lt_of_block hP7
          go_wp2_with fail
          refine hK.out _ _ ?_ (fun hHeld => ?_)
          · exact ⟨hX7, hP7⟩
          clear hK K
          try simp only [Act.put, List.setIfInBounds_toArray, List.set_cons_zero, List.set_cons_succ]
          have hrowL : RowW w7.heap.size (w7.alloc (.cells #[.string (bs NM)] 9)) (.slice (some ⟨w7.heap.size, 0, none⟩) 1 1) [NM] := World.ownsRow_lit (base := w7.heap.size) (e := 9) (size := 1) w7 #[.string (bs NM)] 1 (Nat.le_refl _) (by decide) rfl
          have hkL : Keeps [] w7 (w7.alloc (.cells #[.string (bs NM)] 9)) := (Keeps.refl [] w7).alloc _
          have hXL := hkL.heap hX7 (by simp); have hPL := hkL.heap hP7 (by simp)
          have hrow7L := row_old hrow7 hkL (by simp)
          apply wpAnyH_ready (rs := [2])
          · kernel_rfl
          · simp
          apply AllReadyH.cons (hs := AllReadyH.nil)
          · simp only [List.getElem?_toArray]; rfl
          intro K hK
          rw [if_pos (by rfl)]
          go_simp
          generalize w7.alloc (.cells #[.string (bs NM)] 9) = W6 at *
          refine hK.out _ _ ?_ (fun hHeld => ?_)
          · exact ⟨hXL, hPL⟩
          clear hK K
          try simp only [Act.put, List.setIfInBounds_toArray, List.set_cons_zero, List.set_cons_succ]
          obtain ⟨v8, w8, hr8, ho8, hk8⟩ := append_row W6 w7.heap.size hkL.size _ [NM] hrowL (by simp) v7 TL hrow7L (by have := HTS.out.2; omega) hTL0
          have hF8 : ∀ y ∈ own (.slice (some ⟨w7.heap.size, 0, none⟩) 1 1), w7.heap.size ≤ y := fun y hy => (row_base hrowL y hy).1
          have hk08 := K5.out.trans ((hk57.trans hkL (FSub.refl _ _)).trans hk8 (fun y hy => .inr (by have := hF8 y hy; have := hk57.size; omega))) (FSub.refl _ _)
          have HX8 := Lib.hid (hk8.heap hXL (fun hm => by have := hF8 _ hm; omega)); have HP8 := Lib.hid (hk8.heap hPL (fun hm => by have := hF8 _ hm; omega))
          clear hk8 hF8 hrow7L hrow7 hk7 hk57 hX7 hP7 hrowL hXL hPL hkL
          have HJ := Lib.hid (Join6_any w8 v8 (NM :: TL) 32 ho8.strs (M := 1000) HTS.out.1 (by simp only [List.length_cons]; have := HTS.out.2; omega))
          have HR8 := Lib.hid hr8; have K8 := Lib.hid hk08
          clear hr8 ho8 hk08
          apply wpAnyH_ready (rs := [7])
          · kernel_rfl
          · simp
          apply AllReadyH.cons (hs := AllReadyH.nil)
          · simp only [List.getElem?_toArray]; rfl
          intro K hK
          rw [if_pos (by rfl)]
          refine wp_append_run _ _ 63 rfl _ _ _ _ rfl rfl HR8.out ?_
          refine hK.out _ _ ?_ (fun hHeld => ?_)
          · exact ⟨HX8.out, HP8.out⟩
          clear hK K
          try simp only [Act.put, List.setIfInBounds_toArray, List.set_cons_zero, List.set_cons_succ]
          apply wpAnyH_ready (rs := [8])
          · kernel_rfl
          · simp
          apply AllReadyH.cons (hs := AllReadyH.nil)
          · simp only [List.getElem?_toArray]; rfl
          intro K hK
          rw [if_pos (by rfl)]
          go_simp
          refine HJ.out.mono ?_; rintro e w9 ⟨rfl, hk9⟩
          have hk09 := K8.out.trans hk9 (FSub.refl _ _)
          have hX9 := hk9.heap HX8.out (by simp); have hP9 := hk9.heap HP8.out (by simp)
          go_wp2_with fail
          refine hK.out _ _ ?_ (fun hHeld => ?_)
          · exact ⟨hX9, hP9⟩
          clear hK K
          try simp only [Act.put, List.setIfInBounds_toArray, List.set_cons_zero, List.set_cons_succ]
          apply wpAnyH_ready (rs := [9])
          · kernel_rfl
          · simp
          apply AllReadyH.cons (hs := AllReadyH.nil)
          · simp only [List.getElem?_toArray]; rfl
          intro K hK
          rw [if_pos (by rfl)]
          go_simp
          refine hK.out _ _ ?_ (fun hHeld => ?_)
          · exact ⟨hX9, hP9⟩
          clear hK K
          try simp only [Act.put, List.setIfInBounds_toArray, List.set_cons_zero, List.set_cons_succ]
          apply wpAnyH_ready (rs := [10])
          · kernel_rfl
          · simp
          apply AllReadyH.cons (hs := AllReadyH.nil)
          · simp only [List.getElem?_toArray]; rfl
          intro K hK
          rw [if_pos (by rfl)]
          go_simp
          refine hK.out _ _ ?_ (fun hHeld => ?_)
          · exact ⟨hX9, hP9⟩
          clear hK K
          try simp only [Act.put, List.setIfInBounds_toArray, List.set_cons_zero, List.set_cons_succ]
          refine wpAnyH_done (by kernel_rfl) ?_ _
          refine NoPanic.normal ?_
          go_wp2_with fail
          go_ret2
          exact ⟨by rw [HRS.out]; rfl, hk09⟩
      case k4q =>
        intro K hK
        rw [if_pos (by rfl)]
        go_simp
        have hkP := hk3.alloc (.cells #[.string ⟨#[]⟩, .nilFunc, .nilFunc] 59)
        have hXP := hkP.heap HX2.out (by simp)
        have hPP := heap_alloc_new w3 (.cells #[.string ⟨#[]⟩, .nilFunc, .nilFunc] 59)
        have hBP : B < w3.heap.size := lt_of_block hX3
        have hPw : w2.heap.size ≤ w3.heap.size := hk3.size
        generalize w3.alloc (.cells #[.string ⟨#[]⟩, .nilFunc, .nilFunc] 59) = W4 at *
        generalize w3.heap.size = P at *
        refine hK.out _ _ ?_ (fun hHeld => ?_)
        · exact hXP
        clear hK K
        try simp only [Act.put, List.setIfInBounds_toArray, List.set_cons_zero, List.set_cons_succ]
        apply wpAnyH_ready (rs := [3])
        · kernel_rfl
        · simp
        apply AllReadyH.cons (hs := AllReadyH.nil)
        · simp only [List.getElem?_toArray]; rfl
        intro K hK
        rw [if_pos (by rfl)]
        go_simp
        go_wp2_with fail
        refine hK.out _ _ ?_ (fun hHeld => ?_)
        · exact hXP
        clear hK K
        try simp only [Act.put, List.setIfInBounds_toArray, List.set_cons_zero, List.set_cons_succ]
        apply wpAnyH_ready (rs := [5])
        · kernel_rfl
        · simp
        apply AllReadyH.cons (hs := AllReadyH.nil)
        · simp only [List.getElem?_toArray]; rfl
        intro K hK
        rw [if_pos (by rfl)]
        refine wp_put_rowO (T := 59) 3 rfl rfl rfl hPP ⟨rfl, HZ3.out⟩ (by kernel_rfl) HO3.out ?_
        intro W5 hP5 hk5
        have hX5 := hk5.heap hXP (by simp; omega)
        have HX5 := Lib.hid hX5; have HP5 := Lib.hid hP5
        have hk25 : Keeps [] w2 W5 := hkP.trans hk5 (fun y hy => .inr (by simp at hy; omega))
        have K5 := Lib.hid (HK2.out.trans hk25 (FSub.refl _ _)); have G5 := Lib.hid (HG2.out.new hk25); have T5 := Lib.hid (HT2.out.new hk25 hN2)
        have hN5 : N ≤ W5.heap.size := Nat.le_trans hN2 hk25.size
        have hB5 : B < W5.heap.size := lt_of_block hX5
        have hP55 : P < W5.heap.size := lt_of_block hP5
        refine hK.out _ _ ?_ (fun hHeld => ?_)
        · exact hX5
        clear hK K
        try simp only [Act.put, List.setIfInBounds_toArray, List.set_cons_zero, List.set_cons_succ]
        clear hk5 hP5 hX5 hk25 hkP hXP hPP hk3 hX3
        refine wpAnyH_done (by kernel_rfl) ?_ _
        refine NoPanic.normal ?_
        have hTL0 : TL ≠ [] := HTLN.out
        have G5d := Lib.hid (G5.out.new (Keeps.refl [] W5).drew)
        have T5d := Lib.hid (T5.out.new (Keeps.refl [] W5).drew hN5)
        go_wp2_with fail
        refine wp_region_noPanic ?_
        refine wp_region_held_drew (S := fun w' => w'.heap[B]? = some (.cells (evC x tx rd) 32 (0, 0)) ∧ w'.heap[P]? = some (.cells C 59 (0, 0))) (by kernel_rfl) ⟨HX5.out, HP5.out⟩ (fun hHeld => ?_)
        apply wpAnyH_take (i := 0) (v := .pointer (some ⟨P, 0, none⟩))
        · simp only [List.getElem?_toArray]; rfl
        · kernel_rfl
        · kernel_rfl
        · kernel_rfl
        · exact fun _ _ _ h => h
        · exact Or.inl ⟨by rfl, by intro w hSw; go_simp; try with_reducible rfl⟩
        · assumption
        try simp only [Act.put, List.setIfInBounds_toArray, List.set_cons_zero, List.set_cons_succ]
        apply wpAnyH_take (i := 1) (v := .string (bs NM))
        · simp only [List.getElem?_toArray]; rfl
        · kernel_rfl
        · kernel_rfl
        · kernel_rfl
        · exact fun _ _ _ h => h
        · exact Or.inl ⟨by rfl, by intro w hSw; have d0 : w.cell? ⟨P, 0, none⟩ = some (.string (bs NM)) := (by have := hSw.2; simp [World.cell?, this, H30.out]); go_simp; try with_reducible rfl⟩
        · assumption
        try simp only [Act.put, List.setIfInBounds_toArray, List.set_cons_zero, List.set_cons_succ]
        apply wpAnyH_take (i := 3) (v := .pointer (some ⟨P, 1, none⟩))
        · simp only [List.getElem?_toArray]; rfl
        · kernel_rfl
        · kernel_rfl
        · kernel_rfl
        · exact fun _ _ _ h => h
        · exact Or.inl ⟨by rfl, by intro w hSw; go_simp; try with_reducible rfl⟩
        · assumption
        try simp only [Act.put, List.setIfInBounds_toArray, List.set_cons_zero, List.set_cons_succ]
        apply wpAnyH_take (i := 4) (v := .func (.func KW) #[] #[])
        · simp only [List.getElem?_toArray]; rfl
        · kernel_rfl
        · kernel_rfl
        · kernel_rfl
        · exact fun _ _ _ h => h
        · exact Or.inl ⟨by rfl, by intro w hSw; have d0 : w.cell? ⟨P, 1, none⟩ = some (.func (.func KW) #[] #[]) := (by have := hSw.2; simp [World.cell?, this, H31.out]); go_simp; try with_reducible rfl⟩
        · assumption
        try simp only [Act.put, List.setIfInBounds_toArray, List.set_cons_zero, List.set_cons_succ]
        apply wpAnyH_take (i := 5) (v := .agg (evC x tx rd))
        · simp only [List.getElem?_toArray]; rfl
        · kernel_rfl
        · kernel_rfl
        · kernel_rfl
        · exact fun _ _ _ h => h
        · exact yields_ev (by rfl) _ rfl B rfl (fun w hSw => ev_load hSw.1)
        · assumption
        try simp only [Act.put, List.setIfInBounds_toArray, List.set_cons_zero, List.set_cons_succ]
        apply wpAnyH_ready (rs := [2, 6])
        · kernel_rfl
        · simp
        refine AllReadyH.cons (o := ?o2r) ?h2r ?k2r (AllReadyH.cons (o := ?o6r) ?h6r ?k6r AllReadyH.nil)
        case h2r => simp only [List.getElem?_toArray]; rfl
        case h6r => simp only [List.getElem?_toArray]; rfl
        case k2r =>
          intro K hK
          rw [if_pos (by rfl)]
          go_simp
          have hrowL : RowW W5.heap.size ((W5.alloc (.cells #[.string (bs NM)] 9)).drew) (.slice (some ⟨W5.heap.size, 0, none⟩) 1 1) [NM] := World.ownsRow_lit (base := W5.heap.size) (e := 9) (size := 1) W5 #[.string (bs NM)] 1 (Nat.le_refl _) (by decide) rfl
          have hkL : Keeps [] W5 ((W5.alloc (.cells #[.string (bs NM)] 9)).drew) := ((Keeps.refl [] W5).alloc _).drew
          have hXL := hkL.heap HX5.out (by simp); have hPL := hkL.heap HP5.out (by simp)
          have hGL := G5.out.new hkL
          have hTL := T5.out.new hkL hN5
          have hNL : N ≤ ((W5.alloc (.cells #[.string (bs NM)] 9)).drew).heap.size := Nat.le_trans hN5 hkL.size
          have hBL : B < ((W5.alloc (.cells #[.string (bs NM)] 9)).drew).heap.size := lt_of_block hXL
          have hPPL : P < ((W5.alloc (.cells #[.string (bs NM)] 9)).drew).heap.size := lt_of_block hPL
          generalize (W5.alloc (.cells #[.string (bs NM)] 9)).drew = W6 at *
          refine hK.out _ _ ?_ (fun hHeld => ?_)
          · exact ⟨hXL, hPL⟩
          clear hK K
          try simp only [Act.put, List.setIfInBounds_toArray, List.set_cons_zero, List.set_cons_succ]
          apply wpAnyH_ready (rs := [6])
          · kernel_rfl
          · simp
          apply AllReadyH.cons (hs := AllReadyH.nil)
          · simp only [List.getElem?_toArray]; rfl
          intro K hK
          rw [if_pos (by rfl)]
          go_simp
          refine (HWD.out _ hGL hTL hNL).mono ?_; rintro e w7 ⟨v7, rfl, hrow7, hk7⟩
          have hk57 := hkL.trans hk7 (FSub.refl _ _)
          have hX7 := hk7.heap hXL (by simp); have hP7 := hk7.heap hPL (by simp)
          have hrowL7 := row_old hrowL hk7 (by simp)
          go_wp2_with fail
          refine hK.out _ _ ?_ (fun hHeld => ?_)
          · exact ⟨hX7, hP7⟩
          clear hK K
          try simp only [Act.put, List.setIfInBounds_toArray, List.set_cons_zero, List.set_cons_succ]
          obtain ⟨v8, w8, hr8, ho8, hk8⟩ := append_row w7 W5.heap.size hk57.size _ [NM] hrowL7 (by simp) v7 TL hrow7 (by have := HTS.out.2; omega) hTL0
          have hF8 : ∀ y ∈ own (.slice (some ⟨W5.heap.size, 0, none⟩) 1 1), W5.heap.size ≤ y := fun y hy => (row_base hrowL7 y hy).1
          have hk08 := K5.out.trans (hk57.trans hk8 (fun y hy => .inr (hF8 y hy))) (FSub.refl _ _)
          have HX8 := Lib.hid (hk8.heap hX7 (fun hm => by have := hF8 _ hm; omega)); have HP8 := Lib.hid (hk8.heap hP7 (fun hm => by have := hF8 _ hm; omega))
          clear hk8 hF8 hrowL7 hrow7 hk7 hk57 hX7 hP7 hrowL hXL hPL
          have HJ := Lib.hid (Join6_any w8 v8 (NM :: TL) 32 ho8.strs (M := 1000) HTS.out.1 (by simp only [List.length_cons]; have := HTS.out.2; omega))
          have HR8 := Lib.hid hr8; have K8 := Lib.hid hk08
          clear hr8 ho8 hk08
          apply wpAnyH_ready (rs := [7])
          · kernel_rfl
          · simp
          apply AllReadyH.cons (hs := AllReadyH.nil)
          · simp only [List.getElem?_toArray]; rfl
          intro K hK
          rw [if_pos (by rfl)]
          refine wp_append_run _ _ 63 rfl _ _ _ _ rfl rfl HR8.out ?_
          refine hK.out _ _ ?_ (fun hHeld => ?_)
          · exact ⟨HX8.out, HP8.out⟩
          clear hK K
          try simp only [Act.put, List.setIfInBounds_toArray, List.set_cons_zero, List.set_cons_succ]
          apply wpAnyH_ready (rs := [8])
          · kernel_rfl
          · simp
          apply AllReadyH.cons (hs := AllReadyH.nil)
          · simp only [List.getElem?_toArray]; rfl
          intro K hK
          rw [if_pos (by rfl)]
          go_simp
          refine HJ.out.mono ?_; rintro e w9 ⟨rfl, hk9⟩
          have hk09 := K8.out.trans hk9 (FSub.refl _ _)
          have hX9 := hk9.heap HX8.out (by simp); have hP9 := hk9.heap HP8.out (by simp)
          go_wp2_with fail
          refine hK.out _ _ ?_ (fun hHeld => ?_)
          · exact ⟨hX9, hP9⟩
          clear hK K
          try simp only [Act.put, List.setIfInBounds_toArray, List.set_cons_zero, List.set_cons_succ]
          apply wpAnyH_ready (rs := [9])
          · kernel_rfl
          · simp
          apply AllReadyH.cons (hs := AllReadyH.nil)
          · simp only [List.getElem?_toArray]; rfl
          intro K hK
          rw [if_pos (by rfl)]
          go_simp
          refine hK.out _ _ ?_ (fun hHeld => ?_)
          · exact ⟨hX9, hP9⟩
          clear hK K
          try simp only [Act.put, List.setIfInBounds_toArray, List.set_cons_zero, List.set_cons_succ]
          apply wpAnyH_ready (rs := [10])
          · kernel_rfl
          · simp
          apply AllReadyH.cons (hs := AllReadyH.nil)
          · simp only [List.getElem?_toArray]; rfl
          intro K hK
          rw [if_pos (by rfl)]
          go_simp
          refine hK.out _ _ ?_ (fun hHeld => ?_)
          · exact ⟨hX9, hP9⟩
          clear hK K
          try simp only [Act.put, List.setIfInBounds_toArray, List.set_cons_zero, List.set_cons_succ]
          refine wpAnyH_done (by kernel_rfl) ?_ _
          refine NoPanic.normal ?_
          go_wp2_with fail
          go_ret2
          exact ⟨by rw [HRS.out]; rfl, hk09⟩
        case k6r =>
          intro K hK
          rw [if_pos (by rfl)]
          go_simp
          refine (HWD.out _ G5d.out T5d.out hN5).mono ?_; rintro e w7 ⟨v7, rfl, hrow7, hk7⟩
          have hk57 : Keeps [] W5 w7 := hk7.undrew
          have hX7 := hk57.heap HX5.out (by simp); have hP7 := hk57.heap HP5.out (by simp)
          have hB7 : B < w7.heap.size := lt_of_block hX7
          have hP77 : P < w7.heap.size := lt_of_block hP7
          go_wp2_with fail
          refine hK.out _ _ ?_ (fun hHeld => ?_)
          · exact ⟨hX7, hP7⟩
          clear hK K
          try simp only [Act.put, List.setIfInBounds_toArray, List.set_cons_zero, List.set_cons_succ]
          have hrowL : RowW w7.heap.size (w7.alloc (.cells #[.string (bs NM)] 9)) (.slice (some ⟨w7.heap.size, 0, none⟩) 1 1) [NM] := World.ownsRow_lit (base := w7.heap.size) (e := 9) (size := 1) w7 #[.string (bs NM)] 1 (Nat.le_refl _) (by decide) rfl
          have hkL : Keeps [] w7 (w7.alloc (.cells #[.string (bs NM)] 9)) := (Keeps.refl [] w7).alloc _
          have hXL := hkL.heap hX7 (by simp); have hPL := hkL.heap hP7 (by simp)
          have hrow7L := row_old hrow7 hkL (by simp)
          apply wpAnyH_ready (rs := [2])
          · kernel_rfl
          · simp
          apply AllReadyH.cons (hs := AllReadyH.nil)
          · simp only [List.getElem?_toArray]; rfl
          intro K hK
          rw [if_pos (by rfl)]
          go_simp
          generalize w7.alloc (.cells #[.string (bs NM)] 9) = W6 at *
          refine hK.out _ _ ?_ (fun hHeld => ?_)
          · exact ⟨hXL, hPL⟩
          clear hK K
          try simp only [Act.put, List.setIfInBounds_toArray, List.set_cons_zero, List.set_cons_succ]
          obtain ⟨v8, w8, hr8, ho8, hk8⟩ := append_row W6 w7.heap.size hkL.size _ [NM] hrowL (by simp) v7 TL hrow7L (by have := HTS.out.2; omega) hTL0
          have hF8 : ∀ y ∈ own (.slice (some ⟨w7.heap.size, 0, none⟩) 1 1), w7.heap.size ≤ y := fun y hy => (row_base hrowL y hy).1
          have hk08 := K5.out.trans ((hk57.trans hkL (FSub.refl _ _)).trans hk8 (fun y hy => .inr (by have := hF8 y hy; have := hk57.size; omega))) (FSub.refl _ _)
          have HX8 := Lib.hid (hk8.heap hXL (fun hm => by have := hF8 _ hm; omega)); have HP8 := Lib.hid (hk8.heap hPL (fun hm => by have := hF8 _ hm; omega))
          clear hk8 hF8 hrow7L hrow7 hk7 hk57 hX7 hP7 hrowL hXL hPL hkL
          have HJ := Lib.hid (Join6_any w8 v8 (NM :: TL) 32 ho8.strs (M := 1000) HTS.out.1 (by simp only [List.length_cons]; have := HTS.out.2; omega))
          have HR8 := Lib.hid hr8; have K8 := Lib.hid hk08
          clear hr8 ho8 hk08
          apply wpAnyH_ready (rs := [7])
          · kernel_rfl
          · simp
          apply AllReadyH.cons (hs := AllReadyH.nil)
          · simp only [List.getElem?_toArray]; rfl
          intro K hK
          rw [if_pos (by rfl)]
          refine wp_append_run _ _ 63 rfl _ _ _ _ rfl rfl HR8.out ?_
          refine hK.out _ _ ?_ (fun hHeld => ?_)
          · exact ⟨HX8.out, HP8.out⟩
          clear hK K
          try simp only [Act.put, List.setIfInBounds_toArray, List.set_cons_zero, List.set_cons_succ]
          apply wpAnyH_ready (rs := [8])
          · kernel_rfl
          · simp
          apply AllReadyH.cons (hs := AllReadyH.nil)
          · simp only [List.getElem?_toArray]; rfl
          intro K hK
          rw [if_pos (by rfl)]
          go_simp
          refine HJ.out.mono ?_; rintro e w9 ⟨rfl, hk9⟩
          have hk09 := K8.out.trans hk9 (FSub.refl _ _)
          have hX9 := hk9.heap HX8.out (by simp); have hP9 := hk9.heap HP8.out (by simp)
          go_wp2_with fail
          refine hK.out _ _ ?_ (fun hHeld => ?_)
          · exact ⟨hX9, hP9⟩
          clear hK K
          try simp only [Act.put, List.setIfInBounds_toArray, List.set_cons_zero, List.set_cons_succ]
          apply wpAnyH_ready (rs := [9])
          · kernel_rfl
          · simp
          apply AllReadyH.cons (hs := AllReadyH.nil)
          · simp only [List.getElem?_toArray]; rfl
          intro K hK
          rw [if_pos (by rfl)]
          go_simp
          refine hK.out _ _ ?_ (fun hHeld => ?_)
          · exact ⟨hX9, hP9⟩
          clear hK K
          try simp only [Act.put, List.setIfInBounds_toArray, List.set_cons_zero, List.set_cons_succ]
          apply wpAnyH_ready (rs := [10])
          · kernel_rfl
          · simp
          apply AllReadyH.cons (hs := AllReadyH.nil)
          · simp only [List.getElem?_toArray]; rfl
          intro K hK
          rw [if_pos (by rfl)]
          go_simp
          refine hK.out _ _ ?_ (fun hHeld => ?_)
          · exact ⟨hX9, hP9⟩
          clear hK K
          try simp only [Act.put, List.setIfInBounds_toArray, List.set_cons_zero, List.set_cons_succ]
          refine wpAnyH_done (by kernel_rfl) ?_ _
          refine NoPanic.normal ?_
          go_wp2_with fail
          go_ret2
          exact ⟨by rw [HRS.out]; rfl, hk09⟩
    case k4 =>
      intro K hK
      rw [if_pos (by rfl)]
      go_simp
      have hk3 : Keeps [] w2 ((w2.alloc (.cells #[.string ⟨#[]⟩, .nilFunc, .nilFunc] 59)).drew) := ((Keeps.refl [] w2).alloc _).drew
      have hX3 := hk3.heap HX2.out (by simp)
      have hP3 := heap_alloc_new w2 (.cells #[.string ⟨#[]⟩, .nilFunc, .nilFunc] 59)
      replace hP3 : ((w2.alloc (.cells #[.string ⟨#[]⟩, .nilFunc, .nilFunc] 59)).drew).heap[w2.heap.size]? = some (.cells #[.string ⟨#[]⟩, .nilFunc, .nilFunc] 59 (0, 0)) := hP3
      generalize (w2.alloc (.cells #[.string ⟨#[]⟩, .nilFunc, .nilFunc] 59)).drew = w3 at *
      have hPw : w2.heap.size ≤ w2.heap.size := Nat.le_refl _
      have hBP : B < w2.heap.size := hBw
      generalize hPe : w2.heap.size = P at *
      replace hN2 : N ≤ w2.heap.size := by omega
      replace hPw : w2.heap.size ≤ P := by omega
      refine hK.out _ _ ?_ (fun hHeld => ?_)
      · exact hX3
      clear hK K
      try simp only [Act.put, List.setIfInBounds_toArray, List.set_cons_zero, List.set_cons_succ]
      apply wpAnyH_ready (rs := [0])
      · kernel_rfl
      · simp
      apply AllReadyH.cons (hs := AllReadyH.nil)
      · simp only [List.getElem?_toArray]; rfl
      intro K hK
      rw [if_pos (by rfl)]
      go_simp
      refine (txKinds_any _).mono ?_; rintro e W4 ⟨rfl, hk4⟩
      rw [HKC.out]
      have hkP := hk3.trans hk4 (FSub.refl _ _)
      have hXP := hk4.heap hX3 (by simp)
      have hPP := hk4.heap hP3 (by simp)
      go_wp2_with fail
      refine hK.out _ _ ?_ (fun hHeld => ?_)
      · exact hXP
      clear hK K
      try simp only [Act.put, List.setIfInBounds_toArray, List.set_cons_zero, List.set_cons_succ]
      apply wpAnyH_ready (rs := [3])
      · kernel_rfl
      · simp
      apply AllReadyH.cons (hs := AllReadyH.nil)
      · simp only [List.getElem?_toArray]; rfl
      intro K hK
      rw [if_pos (by rfl)]
      go_simp
      go_wp2_with fail
      refine hK.out _ _ ?_ (fun hHeld => ?_)
      · exact hXP
      clear hK K
      try simp only [Act.put, List.setIfInBounds_toArray, List.set_cons_zero, List.set_cons_succ]
      apply wpAnyH_ready (rs := [5])
      · kernel_rfl
      · simp
      apply AllReadyH.cons (hs := AllReadyH.nil)
      · simp only [List.getElem?_toArray]; rfl
      intro K hK
      rw [if_pos (by rfl)]
      refine wp_put_rowO (T := 59) 3 rfl rfl rfl hPP ⟨rfl, HZ3.out⟩ (by kernel_rfl) HO3.out ?_
      intro W5 hP5 hk5
      have hX5 := hk5.heap hXP (by simp; omega)
      have HX5 := Lib.hid hX5; have HP5 := Lib.hid hP5
      have hk25 : Keeps [] w2 W5 := hkP.trans hk5 (fun y hy => .inr (by simp at hy; omega))
      have K5 := Lib.hid (HK2.out.trans hk25 (FSub.refl _ _)); have G5 := Lib.hid (HG2.out.new hk25); have T5 := Lib.hid (HT2.out.new hk25 hN2)
      have hN5 : N ≤ W5.heap.size := Nat.le_trans hN2 hk25.size
      have hB5 : B < W5.heap.size := lt_of_block hX5
      have hP55 : P < W5.heap.size := lt_of_block hP5
      refine hK.out _ _ ?_ (fun hHeld => ?_)
      · exact hX5
      clear hK K
      try simp only [Act.put, List.setIfInBounds_toArray, List.set_cons_zero, List.set_cons_succ]
      clear hk5 hP5 hX5 hk25 hkP hXP hPP hk3 hX3
      refine wpAnyH_done (by kernel_rfl) ?_ _
      refine NoPanic.normal ?_
      have hTL0 : TL ≠ [] := HTLN.out
      have G5d := Lib.hid (G5.out.new (Keeps.refl [] W5).drew)
      have T5d := Lib.hid (T5.out.new (Keeps.refl [] W5).drew hN5)
      go_wp2_with fail
      refine wp_region_noPanic ?_
      refine wp_region_held_drew (S := fun w' => w'.heap[B]? = some (.cells (evC x tx rd) 32 (0, 0)) ∧ w'.heap[P]? = some (.cells C 59 (0, 0))) (by kernel_rfl) ⟨HX5.out, HP5.out⟩ (fun hHeld => ?_)
      apply wpAnyH_take (i := 0) (v := .pointer (some ⟨P, 0, none⟩))
      · simp only [List.getElem?_toArray]; rfl
      · kernel_rfl
      · kernel_rfl
      · kernel_rfl
      · exact fun _ _ _ h => h
      · exact Or.inl ⟨by rfl, by intro w hSw; go_simp; try with_reducible rfl⟩
      · assumption
      try simp only [Act.put, List.setIfInBounds_toArray, List.set_cons_zero, List.set_cons_succ]
      apply wpAnyH_take (i := 1) (v := .string (bs NM))
      · simp only [List.getElem?_toArray]; rfl
      · kernel_rfl
      · kernel_rfl
      · kernel_rfl
      · exact fun _ _ _ h => h
      · exact Or.inl ⟨by rfl, by intro w hSw; have d0 : w.cell? ⟨P, 0, none⟩ = some (.string (bs NM)) := (by have := hSw.2; simp [World.cell?, this, H30.out]); go_simp; try with_reducible rfl⟩
      · assumption
      try simp only [Act.put, List.setIfInBounds_toArray, List.set_cons_zero, List.set_cons_succ]
      apply wpAnyH_take (i := 3) (v := .pointer (some ⟨P, 1, none⟩))
      · simp only [List.getElem?_toArray]; rfl
      · kernel_rfl
      · kernel_rfl
      · kernel_rfl
      · exact fun _ _ _ h => h
      · exact Or.inl ⟨by rfl, by intro w hSw; go_simp; try with_reducible rfl⟩
      · assumption
      try simp only [Act.put, List.setIfInBounds_toArray, List.set_cons_zero, List.set_cons_succ]
      apply wpAnyH_take (i := 4) (v := .func (.func KW) #[] #[])
      · simp only [List.getElem?_toArray]; rfl
      · kernel_rfl
      · kernel_rfl
      · kernel_rfl
      · exact fun _ _ _ h => h
      · exact Or.inl ⟨by rfl, by intro w hSw; have d0 : w.cell? ⟨P, 1, none⟩ = some (.func (.func KW) #[] #[]) := (by have := hSw.2; simp [World.cell?, this, H31.out]); go_simp; try with_reducible rfl⟩
      · assumption
      try simp only [Act.put, List.setIfInBounds_toArray, List.set_cons_zero, List.set_cons_succ]
      apply wpAnyH_take (i := 5) (v := .agg (evC x tx rd))
      · simp only [List.getElem?_toArray]; rfl
      · kernel_rfl
      · kernel_rfl
      · kernel_rfl
      · exact fun _ _ _ h => h
      · exact yields_ev (by rfl) _ rfl B rfl (fun w hSw => ev_load hSw.1)
      · assumption
      try simp only [Act.put, List.setIfInBounds_toArray, List.set_cons_zero, List.set_cons_succ]
      apply wpAnyH_ready (rs := [2, 6])
      · kernel_rfl
      · simp
      refine AllReadyH.cons (o := ?o2r) ?h2r ?k2r (AllReadyH.cons (o := ?o6r) ?h6r ?k6r AllReadyH.nil)
      case h2r => simp only [List.getElem?_toArray]; rfl
      case h6r => simp only [List.getElem?_toArray]; rfl
      case k2r =>
        intro K hK
        rw [if_pos (by rfl)]
        go_simp
        have hrowL : RowW W5.heap.size ((W5.alloc (.cells #[.string (bs NM)] 9)).drew) (.slice (some ⟨W5.heap.size, 0, none⟩) 1 1) [NM] := World.ownsRow_lit (base := W5.heap.size) (e := 9) (size := 1) W5 #[.string (bs NM)] 1 (Nat.le_refl _) (by decide) rfl
        have hkL : Keeps [] W5 ((W5.alloc (.cells #[.string (bs NM)] 9)).drew) := ((Keeps.refl [] W5).alloc _).drew
        have hXL := hkL.heap HX5.out (by simp); have hPL := hkL.heap HP5.out (by simp)
        have hGL := G5.out.new hkL
        have hTL := T5.out.new hkL hN5
        have hNL : N ≤ ((W5.alloc (.cells #[.string (bs NM)] 9)).drew).heap.size := Nat.le_trans hN5 hkL.size
        have hBL : B < ((W5.alloc (.cells #[.string (bs NM)] 9)).drew).heap.size := lt_of_block hXL
        have hPPL : P < ((W5.alloc (.cells #[.string (bs NM)] 9)).drew).heap.size := lt_of_block hPL
        generalize (W5.alloc (.cells #[.string (bs NM)] 9)).drew = W6 at *
        refine hK.out _ _ ?_ (fun hHeld => ?_)
        · exact ⟨hXL, hPL⟩
        clear hK K
        try simp only [Act.put, List.setIfInBounds_toArray, List.set_cons_zero, List.set_cons_succ]
        apply wpAnyH_ready (rs := [6])
        · kernel_rfl
        · simp
        apply AllReadyH.cons (hs := AllReadyH.nil)
        · simp only [List.getElem?_toArray]; rfl
        intro K hK
        rw [if_pos (by rfl)]
        go_simp
        refine (HWD.out _ hGL hTL hNL).mono ?_; rintro e w7 ⟨v7, rfl, hrow7, hk7⟩
        have hk57 := hkL.trans hk7 (FSub.refl _ _)
        have hX7 := hk7.heap hXL (by simp); have hP7 := hk7.heap hPL (by simp)
        have hrowL7 := row_old hrowL hk7 (by simp)
        go_wp2_with fail
        refine hK.out _ _ ?_ (fun hHeld => ?_)
        · exact ⟨hX7, hP7⟩
        clear hK K
        try simp only [Act.put, List.setIfInBounds_toArray, List.set_cons_zero, List.set_cons_succ]
        obtain ⟨v8, w8, hr8, ho8, hk8⟩ := append_row w7 W5.heap.size hk57.size _ [NM] hrowL7 (by simp) v7 TL hrow7 (by have := HTS.out.2; omega) hTL0
        have hF8 : ∀ y ∈ own (.slice (some ⟨W5.heap.size, 0, none⟩) 1 1), W5.heap.size ≤ y := fun y hy => (row_base hrowL7 y hy).1
        have hk08 := K5.out.trans (hk57.trans hk8 (fun y hy => .inr (hF8 y hy))) (FSub.refl _ _)
        have HX8 := Lib.hid (hk8.heap hX7 (fun hm => by have := hF8 _ hm; omega)); have HP8 := Lib.hid (hk8.heap hP7 (fun hm => by have := hF8 _ hm; omega))
        clear hk8 hF8 hrowL7 hrow7 hk7 hk57 hX7 hP7 hrowL hXL hPL
        have HJ := Lib.hid (Join6_any w8 v8 (NM :: TL) 32 ho8.strs (M := 1000) HTS.out.1 (by simp only [List.length_cons]; have := HTS.out.2; omega))
        have HR8 := Lib.hid hr8; have K8 := Lib.hid hk08
        clear hr8 ho8 hk08
        apply wpAnyH_ready (rs := [7])
        · kernel_rfl
        · simp
        apply AllReadyH.cons (hs := AllReadyH.nil)
        · simp only [List.getElem?_toArray]; rfl
        intro K hK
        rw [if_pos (by rfl)]
        refine wp_append_run _ _ 63 rfl _ _ _ _ rfl rfl HR8.out ?_
        refine hK.out _ _ ?_ (fun hHeld => ?_)
        · exact ⟨HX8.out, HP8.out⟩
        clear hK K
        try simp only [Act.put, List.setIfInBounds_toArray, List.set_cons_zero, List.set_cons_succ]
        apply wpAnyH_ready (rs := [8])
        · kernel_rfl
        · simp
        apply AllReadyH.cons (hs := AllReadyH.nil)
        · simp only [List.getElem?_toArray]; rfl
        intro K hK
        rw [if_pos (by rfl)]
        go_simp
        refine HJ.out.mono ?_; rintro e w9 ⟨rfl, hk9⟩
        have hk09 := K8.out.trans hk9 (FSub.refl _ _)
        have hX9 := hk9.heap HX8.out (by simp); have hP9 := hk9.heap HP8.out (by simp)
        go_wp2_with fail
        refine hK.out _ _ ?_ (fun hHeld => ?_)
        · exact ⟨hX9, hP9⟩
        clear hK K
        try simp only [Act.put, List.setIfInBounds_toArray, List.set_cons_zero, List.set_cons_succ]
        apply wpAnyH_ready (rs := [9])
        · kernel_rfl
        · simp
        apply AllReadyH.cons (hs := AllReadyH.nil)
        · simp only [List.getElem?_toArray]; rfl
        intro K hK
        rw [if_pos (by rfl)]
        go_simp
        refine hK.out _ _ ?_ (fun hHeld => ?_)
        · exact ⟨hX9, hP9⟩
        clear hK K
        try simp only [Act.put, List.setIfInBounds_toArray, List.set_cons_zero, List.set_cons_succ]
        apply wpAnyH_ready (rs := [10])
        · kernel_rfl
        · simp
        apply AllReadyH.cons (hs := AllReadyH.nil)
        · simp only [List.getElem?_toArray]; rfl
        intro K hK
        rw [if_pos (by rfl)]
        go_simp
        refine hK.out _ _ ?_ (fun hHeld => ?_)
        · exact ⟨hX9, hP9⟩
        clear hK K
        try simp only [Act.put, List.setIfInBounds_toArray, List.set_cons_zero, List.set_cons_succ]
        refine wpAnyH_done (by kernel_rfl) ?_ _
        refine NoPanic.normal ?_
        go_wp2_with fail
        go_ret2
        exact ⟨by rw [HRS.out]; rfl, hk09⟩
      case k6r =>
        intro K hK
        rw [if_pos (by rfl)]
        go_simp
        refine (HWD.out _ G5d.out T5d.out hN5).mono ?_; rintro e w7 ⟨v7, rfl, hrow7, hk7⟩
        have hk57 : Keeps [] W5 w7 := hk7.undrew
        have hX7 := hk57.heap HX5.out (by simp); have hP7 := hk57.heap HP5.out (by simp)
        have hB7 : B < w7.heap.size := lt_of_block hX7
        have hP77 : P < w7.heap.size := lt_of_block hP7
        go_wp2_with fail
        refine hK.out _ _ ?_ (fun hHeld => ?_)
        · exact ⟨hX7, hP7⟩
        clear hK K
        try simp only [Act.put, List.setIfInBounds_toArray, List.set_cons_zero, List.set_cons_succ]
        have hrowL : RowW w7.heap.size (w7.alloc (.cells #[.string (bs NM)] 9)) (.slice (some ⟨w7.heap.size, 0, none⟩) 1 1) [NM] := World.ownsRow_lit (base := w7.heap.size) (e := 9) (size := 1) w7 #[.string (bs NM)] 1 (Nat.le_refl _) (by decide) rfl
        have hkL : Keeps [] w7 (w7.alloc (.cells #[.string (bs NM)] 9)) := (Keeps.refl [] w7).alloc _
        have hXL := hkL.heap hX7 (by simp); have hPL := hkL.heap hP7 (by simp)
        have hrow7L := row_old hrow7 hkL (by simp)
        apply wpAnyH_ready (rs := [2])
        · kernel_rfl
        · simp
        apply AllReadyH.cons (hs := AllReadyH.nil)
        · simp only [List.getElem?_toArray]; rfl
        intro K hK
        rw [if_pos (by rfl)]
        go_simp
        generalize w7.alloc (.cells #[.string (bs NM)] 9) = W6 at *
        refine hK.out _ _ ?_ (fun hHeld => ?_)
        · exact ⟨hXL, hPL⟩
        clear hK K
        try simp only [Act.put, List.setIfInBounds_toArray, List.set_cons_zero, List.set_cons_succ]
        obtain ⟨v8, w8, hr8, ho8, hk8⟩ := append_row W6 w7.heap.size hkL.size _ [NM] hrowL (by simp) v7 TL hrow7L (by have := HTS.out.2; omega) hTL0
        have hF8 : ∀ y ∈ own (.slice (some ⟨w7.heap.size, 0, none⟩) 1 1), w7.heap.size ≤ y := fun y hy => (row_base hrowL y hy).1
        have hk08 := K5.out.trans ((hk57.trans hkL (FSub.refl _ _)).trans hk8 (fun y hy => .inr (by have := hF8 y hy; have := hk57.size; omega))) (FSub.refl _ _)
        have HX8 := Lib.hid (hk8.heap hXL (fun hm => by have := hF8 _ hm; omega)); have HP8 := Lib.hid (hk8.heap hPL (fun hm => by have := hF8 _ hm; omega))
        clear hk8 hF8 hrow7L hrow7 hk7 hk57 hX7 hP7 hrowL hXL hPL hkL
        have HJ := Lib.hid (Join6_any w8 v8 (NM :: TL) 32 ho8.strs (M := 1000) HTS.out.1 (by simp only [List.length_cons]; have := HTS.out.2; omega))
        have HR8 := Lib.hid hr8; have K8 := Lib.hid hk08
        clear hr8 ho8 hk08
        apply wpAnyH_ready (rs := [7])
        · kernel_rfl
        · simp
        apply AllReadyH.cons (hs := AllReadyH.nil)
        · simp only [List.getElem?_toArray]; rfl
        intro K hK
        rw [if_pos (by rfl)]
        refine wp_append_run _ _ 63 rfl _ _ _ _ rfl rfl HR8.out ?_
        refine hK.out _ _ ?_ (fun hHeld => ?_)
        · exact ⟨HX8.out, HP8.out⟩
        clear hK K
        try simp only [Act.put, List.setIfInBounds_toArray, List.set_cons_zero, List.set_cons_succ]
        apply wpAnyH_ready (rs := [8])
        · kernel_rfl
        · simp
        apply AllReadyH.cons (hs := AllReadyH.nil)
        · simp only [List.getElem?_toArray]; rfl
        intro K hK
        rw [if_pos (by rfl)]
        go_simp
        refine HJ.out.mono ?_; rintro e w9 ⟨rfl, hk9⟩
        have hk09 := K8.out.trans hk9 (FSub.refl _ _)
        have hX9 := hk9.heap HX8.out (by simp); have hP9 := hk9.heap HP8.out (by simp)
        go_wp2_with fail
        refine hK.out _ _ ?_ (fun hHeld => ?_)
        · exact ⟨hX9, hP9⟩
        clear hK K
        try simp only [Act.put, List.setIfInBounds_toArray, List.set_cons_zero, List.set_cons_succ]
        apply wpAnyH_ready (rs := [9])
        · kernel_rfl
        · simp
        apply AllReadyH.cons (hs := AllReadyH.nil)
        · simp only [List.getElem?_toArray]; rfl
        intro K hK
        rw [if_pos (by rfl)]
        go_simp
        refine hK.out _ _ ?_ (fun hHeld => ?_)
        · exact ⟨hX9, hP9⟩
        clear hK K
        try simp only [Act.put, List.setIfInBounds_toArray, List.set_cons_zero, List.set_cons_succ]
        apply wpAnyH_ready (rs := [10])
        · kernel_rfl
        · simp
        apply AllReadyH.cons (hs := AllReadyH.nil)
        · simp only [List.getElem?_toArray]; rfl
        intro K hK
        rw [if_pos (by rfl)]
        go_simp
        refine hK.out _ _ ?_ (fun hHeld => ?_)
        · exact ⟨hX9, hP9⟩
        clear hK K
        try simp only [Act.put, List.setIfInBounds_toArray, List.set_cons_zero, List.set_cons_succ]
        refine wpAnyH_done (by kernel_rfl) ?_ _
        refine NoPanic.normal ?_
        go_wp2_with fail
        go_ret2
        exact ⟨by rw [HRS.out]; rfl, hk09⟩
end Go.Proofs.YtffldnjjijckcaaGreatDoor
