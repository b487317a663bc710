/-
  A line's reading, whatever its kind; what Parse's deferred closure does.
-/
import Derived.Defers
import Derived.Recover
import Derived.Test.YtffldnjjijckcaaGreatDoorR38
import Derived.Test.YtffldnjjijckcaaGreatDoorR17
set_option linter.unusedSimpArgs false
set_option linter.unusedVariables false
namespace Go.Proofs.YtffldnjjijckcaaGreatDoor
open Go.RowKit
def kRead6 (k : Int) : Nat := if k = 1 then 48 else if k = 2 then 50 else if k = 3 then 52 else if k = 5 then 56 else if k = 6 then 58 else 54
def rdK (k : Int) (l : Wds) : Option (Ev × Wds) :=
  let x : Ev := { evZero with k := k }
  if k = 1 then (rdCfg l).map (fun p => ({ x with g := p.1 }, p.2)) else if k = 2 then rdInv x l else if k = 3 then rdRet x l else if k = 5 then rdBeg x l else if k = 6 then rdCom x l else
  (rdWho l).map fun p => ({ x with c := p.1, id := p.2.1 }, p.2.2)
theorem read6_any (w : World) (b r g : Nat) (l : Wds) (k : Int) (k1 : 1 ≤ k) (k7 : k ≤ 7) (h : Rdt b r g w w l { evZero with k := k } (.slice none 0 0) (.slice none 0 0)) (hlen : (Lib.join l [32]).length ≤ 1000000) :
    Calls Tryz.prog (kRead6 k) #[.pointer (some ⟨r, 0, none⟩), .pointer (some ⟨b, 0, none⟩)] w fun e W => ∃ tx rd, Fills b r g w (rdK k l) tx rd e W ∧ ∀ x' l', rdK k l = some (x', l') → EvKeeps w.heap.size W tx rd x' := by
  have hb : b < w.heap.size := lt_of_block h.ev
  have hr := h.rdr.lt
  have hg := h.rdr.gl
  have h0 := h.rdr.glob.lt
  have nil : ∀ (W : World) (x' : Ev), x'.t = [] → x'.r = [] → EvKeeps w.heap.size W (.slice none 0 0) (.slice none 0 0) x' := by
    intro W x' e1 e2 F W' _ _
    exact ⟨by rw [e1]; exact Mics.nil _ _, by rw [e2]; exact Lists.nil _ _⟩
  rcases (by omega : k = 1 ∨ k = 2 ∨ k = 3 ∨ k = 4 ∨ k = 5 ∨ k = 6 ∨ k = 7) with rfl | rfl | rfl | rfl | rfl | rfl | rfl
  · refine (config6_any w w b r g l _ _ _ h).mono fun e W hp => ⟨_, _, hp, fun x' l' hx => nil W x' ?_ ?_⟩
    all_goals
      replace hx : ((rdCfg l).map fun p => (({ ({ evZero with k := 1 } : Ev) with g := p.1 } : Ev), p.2)) = some (x', l') := hx
      rw [Option.map_eq_some_iff] at hx
      obtain ⟨p, _, hx⟩ := hx
      cases hx; rfl
  · refine (invoke6_any w w b r g l _ _ _ h).mono fun e W hp => ⟨_, _, hp, fun x' l' hx => nil W x' ?_ ?_⟩
    all_goals
      replace hx : rdInv { evZero with k := 2 } l = some (x', l') := hx
      unfold rdInv at hx
      split at hx
      · cases hx
      · split at hx
        · cases hx; rfl
        · cases hx
  · refine (returned6_any w w b r g l _ _ _ h hlen).mono fun e W hp => ⟨_, _, hp, fun x' l' hx => nil W x' ?_ ?_⟩
    all_goals
      replace hx : rdRet { evZero with k := 3 } l = some (x', l') := hx
      unfold rdRet at hx
      split at hx
      · cases hx
      · split at hx
        · cases hx; rfl
        · cases hx
  · refine (who6_any w w b r g l _ _ _ h).mono fun e W hp => ⟨_, _, hp, fun x' l' hx => nil W x' ?_ ?_⟩
    all_goals
      replace hx : ((rdWho l).map fun p => (({ ({ evZero with k := 4 } : Ev) with c := p.1, id := p.2.1 } : Ev), p.2.2)) = some (x', l') := hx
      rw [Option.map_eq_some_iff] at hx
      obtain ⟨p, _, hx⟩ := hx
      cases hx; rfl
  · refine (begin6_any w w b r g l _ _ h hb hr hg h0).mono fun e W ⟨tx, hp, hrow⟩ => ⟨tx, _, hp, fun x' l' hx F W' hk hF => ⟨mics_row (row_old (hrow x' l' hx) hk (fun q hq hf => by have h1 := (row_base (hrow x' l' hx) q hq).1; have h2 := hF q hf; omega)), ?_⟩⟩
    replace hx : rdBeg { evZero with k := 5 } l = some (x', l') := hx
    have e : x'.r = [] := by
      unfold rdBeg at hx
      split at hx
      · cases hx
      · rw [Option.map_eq_some_iff] at hx
        obtain ⟨p, _, hx⟩ := hx
        cases hx; rfl
    rw [e]; exact Lists.nil _ _
  · refine (commit6_any w w b r g l _ _ h hb hr hg h0).mono fun e W ⟨tx, us, hp, hrow⟩ => ⟨_, tx, hp, fun x' l' hx F W' hk hF => ⟨?_, lists_row (row_old (hrow x' l' hx).1 hk (fun q hq hf => by have h1 := (row_base (hrow x' l' hx).1 q hq).1; have h2 := hF q hf; omega)) ((hrow x' l' hx).2.keeps hk (fun q hq => .inl (hF q hq)))⟩⟩
    replace hx : rdCom { evZero with k := 6 } l = some (x', l') := hx
    have e : x'.t = [] := by
      unfold rdCom at hx
      split at hx
      · cases hx
      · rw [Option.map_eq_some_iff] at hx
        obtain ⟨p, _, hx⟩ := hx
        cases hx; rfl
    rw [e]; exact Mics.nil _ _
  · refine (who6_any w w b r g l _ _ _ h).mono fun e W hp => ⟨_, _, hp, fun x' l' hx => nil W x' ?_ ?_⟩
    all_goals
      replace hx : ((rdWho l).map fun p => (({ ({ evZero with k := 7 } : Ev) with c := p.1, id := p.2.1 } : Ev), p.2.2)) = some (x', l') := hx
      rw [Option.map_eq_some_iff] at hx
      obtain ⟨p, _, hx⟩ := hx
      cases hx; rfl
/-- A reading to the end is that of the words behind a kind's name. -/
theorem rdK_body (k : Int) (l : Wds) (x : Ev) : rdK k l = some (x, []) ↔ rdBody k l = some x := by
  unfold rdK rdBody
  by_cases k1 : k = 1
  · simp only [k1, if_true]
    cases h : rdCfg l with
    | none => simp
    | some p =>
      obtain ⟨g, r⟩ := p
      cases r <;> simp
  · simp only [k1, if_false]
    by_cases k2 : k = 2
    · simp only [k2, if_true, rdInv]
      cases h : rdWho l with
      | none => simp
      | some p =>
        obtain ⟨c, i, r⟩ := p
        simp only []
        split <;> simp
    · simp only [k2, if_false]
      by_cases k3 : k = 3
      · simp only [k3, if_true, rdRet]
        cases h : rdWho l with
        | none => simp
        | some p =>
          obtain ⟨c, i, r⟩ := p
          simp only []
          split <;> simp
      · simp only [k3, if_false]
        by_cases k5 : k = 5
        · simp only [k5, if_true, rdBeg]
          cases h : rdWho l with
          | none => simp
          | some p =>
            obtain ⟨c, i, r⟩ := p
            simp only []
            cases rdMics r <;> simp
        · simp only [k5, if_false]
          by_cases k6 : k = 6
          · simp only [k6, if_true, rdCom]
            cases h : rdWho l with
            | none => simp
            | some p =>
              obtain ⟨c, i, r⟩ := p
              simp only []
              cases rdLists r <;> simp
          · simp only [k6, if_false]
            cases h : rdWho l with
            | none => simp
            | some p =>
              obtain ⟨c, i, r⟩ := p
              simp only [Option.map_some]
              by_cases hr : r = []
              · simp [hr]
              · simp [hr]
theorem catch_panics (b eb : Nat) (hbe : b ≠ eb) (u : TypeId) (pv : Value) (older : List PanicEntry) (w : World) (cs : Array Value) (hx : w.heap[b]? = some (.cells cs 32 (0, 0))) (hs : cs.size = 19) (v : Value) (he : w.heap[eb]? = some (.cells #[v] 35 (0, 0))) :
    CallsD Tryz.prog 29 #[.pointer (some ⟨b, 0, none⟩), .pointer (some ⟨eb, 0, none⟩)] (.panicking ({ v := .iface u pv, recovered := false } :: older)) w fun e u' w' =>
      e = .returned (.tuple #[]) ∧ u' = .panicking ({ v := .iface u pv, recovered := true } :: older) ∧ w'.heap[b]? = some (.cells (evC evZero (.slice none 0 0) (.slice none 0 0)) 32 (0, 0)) ∧ w'.heap[eb]? = some (.cells #[.int .i64 4] 35 (0, 0)) ∧ Keeps [b, eb] w w' := by
  refine callsD_of_wpS Tryz.func29 rfl fun c₀ cs' hu => ?_
  apply wpS_seq
  apply wpS_region
  simp [wpOpsS, go_sem, recoverD, hu, Tryz.ntmps29, Exit.thenS]
  refine wpS_cond (t := true) (by simp [Act.eval, Array.replicate]) ?_
  simp only [if_true]
  refine wpS_of_wp ?_
  have et : (#[Value.pointer (some ⟨b, 0, none⟩), Value.pointer (some ⟨eb, 0, none⟩)] ++ ((Array.replicate 3 undef).setIfInBounds 0 (Value.iface u pv)).setIfInBounds 1 (Value.bool true)) = #[Value.pointer (some ⟨b, 0, none⟩), Value.pointer (some ⟨eb, 0, none⟩), .iface u pv, .bool true, undef] := rfl
  rw [et]
  clear et
  have HE := Lib.hid he
  clear he
  go_wp2_with ((with_reducible apply wpList_put_ev); exact rfl; exact rfl; exact hx; exact ⟨hs, rfl⟩; exact rfl)
  intro W hb hk
  have he2 := hk.heap HE.out (by simpa using hbe.symm)
  have c0 : W.cell? ⟨eb, 0, none⟩ = some v := by simp [World.cell?, he2]
  have hfz : W.frozen? ⟨eb, 0, none⟩ = false := by simp [World.frozen?, he2]
  have HB := Lib.hid hb; have HK := Lib.hid hk; have HE2 := Lib.hid he2
  clear hb hk he2 hx HE
  go_wp2_with fail
  have h1 : ((W.setCell ⟨eb, 0, none⟩ (.int .i64 4))).heap[eb]? = some (.cells #[.int .i64 4] 35 (0, 0)) := put1 HE2.out _
  have h2 : ((W.setCell ⟨eb, 0, none⟩ (.int .i64 4))).heap[b]? = some (.cells (evC evZero (.slice none 0 0) (.slice none 0 0)) 32 (0, 0)) := (Below.heap_setCell _ _ _ _ hbe).trans HB.out
  have h3 : Keeps [b, eb] w (W.setCell ⟨eb, 0, none⟩ (.int .i64 4)) := (HK.out.more (by simp)).setCell _ _ (.inl (by simp))
  refine ⟨rfl, _, rfl, _, results_none rfl _ _ _, ?_⟩
  exact ⟨rfl, rfl, h2, h1, h3⟩
theorem catch_idle6 (b eb : Nat) (w : World) :
    CallsD Tryz.prog 29 #[.pointer (some ⟨b, 0, none⟩), .pointer (some ⟨eb, 0, none⟩)] .returning w fun e u' w' => e = .returned (.tuple #[]) ∧ u' = .returning ∧ w' = w := by
  refine callsD_of_wpS Tryz.func29 rfl fun c₀ cs hu => ?_
  apply wpS_seq
  apply wpS_region
  simp [wpOpsS, go_sem, recoverD, hu, Tryz.ntmps29, Exit.thenS]
  refine wpS_cond (t := false) (by simp [Act.eval, Array.replicate]) ?_
  simp only [Bool.false_eq_true, if_false]
  refine wpS_of_wp (wp_skip ?_)
  cases c₀
  simp_all [bodyPostS, results, Tryz.results29]
end Go.Proofs.YtffldnjjijckcaaGreatDoor
/-
  The program's Parse.
-/
namespace Go.Proofs.YtffldnjjijckcaaGreatDoor
open Go.RowKit
set_option maxRecDepth 100000 in
theorem results_ev_err {fn : Func} {p u : Tmp} (h : fn.results = #[.cell p 32, .cell u 35]) (tmps : Array Value) (w : World) (b eb : Nat) {x : Ev} {tx rd v : Value} {t t2 : TypeId}
    (hp : tmps.getD p undef = .pointer (some ⟨b, 0, none⟩)) (hu : tmps.getD u undef = .pointer (some ⟨eb, 0, none⟩)) (hb : w.heap[b]? = some (.cells (evC x tx rd) t (0, 0))) (he : w.heap[eb]? = some (.cells #[v] t2 (0, 0))) :
    (results fn tmps).run Tryz.prog w = .ok (.tuple #[.agg (evC x tx rd), v]) w := by
  have h1 : (loadVar 32 ⟨b, 0, none⟩).run Tryz.prog w = .ok (.agg (evC x tx rd)) w := run_loadVar_row w b t 32 _ _ _ hb Tryz.underlying32 rfl (by kernel_rfl)
  have c0 : w.cell? ⟨eb, 0, none⟩ = some v := by simp [World.cell?, he]
  have h2 : (loadVar 35 ⟨eb, 0, none⟩).run Tryz.prog w = .ok v w := by
    go_simp
  rw [Array.getD_eq_getD_getElem?] at hp hu
  simp only [results, h]
  simp [Sem.run_bind, Result.andThen, hp, hu, asAddr, h1, h2]
theorem zero_cells6 : (#[.int .u8 0, .int .u8 0, .int .u16 0, .int .u8 0, .int .u8 0, .int .u8 0, .int .u16 0, .int .u16 0, .int .u8 0, .int .u16 0, .slice none 0 0, .slice none 0 0, .int .u8 0, .int .i64 0, .int .i64 0, .int .i64 0, .bool false, .bool false, .bool false] : Array Value) = evC evZero (.slice none 0 0) (.slice none 0 0) := rfl
/-- How Parse ends where a step panicked: nothing, and the error. -/
theorem parse_dies (tmps : Array Value) (R : Ending → World → Prop) (b eb : Nat) (hbe : b ≠ eb) (W : World) (cs : Array Value) (hx : W.heap[b]? = some (.cells cs 32 (0, 0))) (hs : cs.size = 19) (v : Value) (he : W.heap[eb]? = some (.cells #[v] 35 (0, 0)))
    (hp : tmps.getD 2 undef = .pointer (some ⟨b, 0, none⟩)) (hu : tmps.getD 3 undef = .pointer (some ⟨eb, 0, none⟩))
    (h : ∀ W', Keeps [b, eb] W W' → R (.returned (.tuple #[.agg (evC evZero (.slice none 0 0) (.slice none 0 0)), .int .i64 4])) W') :
    Leaves Tryz.prog Tryz.f10 tmps R [{ target := .fn (.func 29) #[.pointer (some ⟨b, 0, none⟩), .pointer (some ⟨eb, 0, none⟩)], args := #[] }] (.panicking [{ v := .iface 35 (.int .i64 4), recovered := false }]) W := by
  refine leaves_cons (f := 29) (args := #[.pointer (some ⟨b, 0, none⟩), .pointer (some ⟨eb, 0, none⟩)]) (by simp) (by simp [go_sem]) ?_
  refine (catch_panics b eb hbe _ _ [] W cs hx hs v he).mono ?_
  rintro e u' w' ⟨rfl, rfl, hb', he', hk⟩
  exact ⟨_, results_ev_err rfl _ _ _ _ hp hu hb' he', h w' hk⟩
theorem parse_ends (tmps : Array Value) (R : Ending → World → Prop) (b eb : Nat) (W : World) {x : Ev} {tx rd v : Value} {t t2 : TypeId} (hx : W.heap[b]? = some (.cells (evC x tx rd) t (0, 0))) (he : W.heap[eb]? = some (.cells #[v] t2 (0, 0)))
    (hp : tmps.getD 2 undef = .pointer (some ⟨b, 0, none⟩)) (hu : tmps.getD 3 undef = .pointer (some ⟨eb, 0, none⟩)) (h : R (.returned (.tuple #[.agg (evC x tx rd), v])) W) :
    Leaves Tryz.prog Tryz.f10 tmps R [{ target := .fn (.func 29) #[.pointer (some ⟨b, 0, none⟩), .pointer (some ⟨eb, 0, none⟩)], args := #[] }] .returning W := by
  refine leaves_cons (f := 29) (args := #[.pointer (some ⟨b, 0, none⟩), .pointer (some ⟨eb, 0, none⟩)]) (by simp) (by simp [go_sem]) ?_
  refine (catch_idle6 b eb W).mono ?_
  rintro e u' w' ⟨rfl, rfl, rfl⟩
  exact ⟨_, results_ev_err rfl _ _ _ _ hp hu hx he, h⟩
/-- A post in which a panic hangs on nothing but the slots of the results, and the call that is deferred. -/
def DieQ (b : Nat) (G : World → Prop) (Q : Exit → Act → World → Prop) : Exit → Act → World → Prop
  | .panic c, a, w => (c = [{ v := .iface 35 (.int .i64 4), recovered := false }] ∧ a.tmps.getD 2 undef = .pointer (some ⟨b, 0, none⟩) ∧ a.tmps.getD 3 undef = .pointer (some ⟨b + 1, 0, none⟩) ∧
      a.defers = [{ target := .fn (.func 29) #[.pointer (some ⟨b, 0, none⟩), .pointer (some ⟨b + 1, 0, none⟩)], args := #[] }]) ∧ G w
  | e, a, w => Q e a w
theorem DieQ.normal {b : Nat} {G : World → Prop} {Q : Exit → Act → World → Prop} {a : Act} {w : World} (h : Q .normal a w) : DieQ b G Q .normal a w := h
theorem DieQ.put {b : Nat} {G : World → Prop} {Q : Exit → Act → World → Prop} {d : Tmp} {v : Value} (h2 : d ≠ 2) (h3 : d ≠ 3) : ∀ (c : List PanicEntry) (a : Act) (w : World), DieQ b G Q (.panic c) (a.put (some d) v) w → DieQ b G Q (.panic c) a w := by
  intro c a w ⟨⟨e1, e2, e3, e4⟩, hg⟩
  simp only [Act.put, Array.getD_eq_getD_getElem?, Array.getElem?_setIfInBounds_ne h2, Array.getElem?_setIfInBounds_ne h3] at e2 e3
  exact ⟨⟨e1, by rw [Array.getD_eq_getD_getElem?]; exact e2, by rw [Array.getD_eq_getD_getElem?]; exact e3, e4⟩, hg⟩
theorem wp_region_die {P : Program} {id : Nat} {ops : Array Oper} {bb : Bool} {Q : Exit → Act → World → Prop} {a : Act} {w : World} (b : Nat) (G : World → Prop) (h : (Code.region id ops bb).wp P (DieQ b G Q) a w)
    (hq : ∀ a w, a.tmps.getD 2 undef = .pointer (some ⟨b, 0, none⟩) → a.tmps.getD 3 undef = .pointer (some ⟨b + 1, 0, none⟩) → a.defers = [{ target := .fn (.func 29) #[.pointer (some ⟨b, 0, none⟩), .pointer (some ⟨b + 1, 0, none⟩)], args := #[] }] → G w →
      Q (.panic [{ v := .iface 35 (.int .i64 4), recovered := false }]) a w) : (Code.region id ops bb).wp P Q a w :=
  Code.wp_mono (fun e a w h => by
    cases e with
    | panic c => obtain ⟨⟨rfl, e2, e3, e4⟩, hg⟩ := h; exact hq a w e2 e3 e4 hg
    | _ => exact h) h
theorem words_le {x : Ev} (hi : x.In) (hg : evGood x = true) : (evWords x).length ≤ 27 := by
  obtain ⟨hk, hc, hf, hn⟩ := good_parts hg
  unfold evWords
  simp only [List.length_cons]
  unfold evFits at hf
  have hflag : ∀ b w, (flagW b w).length ≤ 1 := fun b w => by unfold flagW; split <;> simp
  by_cases k3 : x.k = 3
  · rw [if_pos k3, List.length_append]
    have h1 := cut_len_le 32 (rsTxt x.rk x.rv)
    have h2 := txt_size (k := x.rk) (v := x.rv) (by have := hi.rv1; omega)
    simp [whoW]; omega
  · rw [if_neg k3]
    unfold evTail
    by_cases k1 : x.k = 1
    · simp only [k1, if_true]
      have a := hflag x.g.p partL; have b := hflag x.g.cu cutL; have c := hflag x.g.me memoL
      unfold cfgW
      simp only [List.length_append, List.length_cons, List.length_nil]
      omega
    · simp only [k1, if_false] at hf ⊢
      by_cases k2 : x.k = 2
      · simp only [k2, if_true]
        rw [List.length_append, words_length]
        have := (opWN_le x.o.f).2
        simp [whoW]; omega
      · simp only [k2, k3, if_false] at hf ⊢
        by_cases k5 : x.k = 5
        · simp only [k5, if_true] at hf ⊢
          obtain ⟨_, a, _⟩ := mics_all hf
          rw [List.length_append]
          have : ∀ t : List Mic, (t.flatMap micW).length ≤ 3 * t.length := by
            intro t
            induction t with
            | nil => simp
            | cons m t ih => have := (micW_len m).2; simp only [List.flatMap_cons, List.length_append, List.length_cons]; omega
          have := this x.t
          simp only [whoW, List.length_cons, List.length_nil]; omega
        · simp only [k5, if_false] at hf ⊢
          by_cases k6 : x.k = 6
          · simp only [k6, if_true] at hf ⊢
            have := (lists_all hf).1
            simp [whoW]; omega
          · simp [k6, whoW]
/-- Of more words nothing is parsed. -/
theorem lnGet_long {s : List UInt8} (h : 27 < (cutAt 32 s).length) : lnGet s = none := by
  cases hl : lnGet s with
  | none => rfl
  | some x =>
    obtain ⟨a, b, c, d⟩ := lnGet_ok hl
    have := words_le b a
    rw [← c, cut_line] at h
    omega
theorem lnGet_rd {s : List UInt8} {l : Wds} (hl : cutAt 32 s = l) (h : rdEv l = none) : lnGet s = none := by unfold lnGet; rw [hl, h]
theorem ln_none {s : List UInt8} (h : lnGet s = none) : lnX s = evZero ∧ lnE s = 4 := by unfold lnX lnE; rw [h]; exact ⟨rfl, rfl⟩
theorem rdEv_none {l : Wds} (h : rdKindO l = none) : rdEv l = none := by
  cases l with
  | nil => rfl
  | cons w r =>
    replace h : (if kdOf w = 0 then none else some (kdOf w, r)) = (none : Option (Int × Wds)) := h
    show (if kdOf w = 0 then none else rdBody (kdOf w) r) = none
    split at h
    · rename_i hh; rw [if_pos hh]
    · cases h
theorem rdEv_some {l : Wds} {k : Int} {t : Wds} (h : rdKindO l = some (k, t)) : (∃ w, l = w :: t) ∧ 1 ≤ k ∧ k ≤ 7 ∧ rdEv l = rdBody k t := by
  cases l with
  | nil => cases h
  | cons w r =>
    replace h : (if kdOf w = 0 then none else some (kdOf w, r)) = some (k, t) := h
    split at h
    · cases h
    · rename_i hh
      cases h
      have hb := kdOf_bounds w
      refine ⟨⟨w, rfl⟩, by omega, by omega, ?_⟩
      show (if kdOf w = 0 then none else rdBody (kdOf w) _) = _
      rw [if_neg hh]
set_option maxRecDepth 100000 in
theorem field_tx2 (w : World) (k : Int) (h1 : 1 ≤ k) (h7 : k ≤ 7) : (Instr.field 59 (.agg (txKind k)) 2).run Tryz.prog w = .ok (.func (.func (kRead6 k)) #[] #[]) w := by
  have hu := Tryz.underlying59
  rcases (by omega : k = 1 ∨ k = 2 ∨ k = 3 ∨ k = 4 ∨ k = 5 ∨ k = 6 ∨ k = 7) with rfl | rfl | rfl | rfl | rfl | rfl | rfl
  all_goals first | rfl | kernel_rfl | (simp [Instr.field, run_underlying hu, txKind, kRead6, fn, go_sem]; done)
theorem enter_read6 {k : Int} (h1 : 1 ≤ k) (h7 : k ≤ 7) : ∀ u v w, (callFunc (kRead6 k) #[u, v]).run Tryz.prog w = .ok (.enter (kRead6 k) #[u, v]) w := by
  rcases (by omega : k = 1 ∨ k = 2 ∨ k = 3 ∨ k = 4 ∨ k = 5 ∨ k = 6 ∨ k = 7) with rfl | rfl | rfl | rfl | rfl | rfl | rfl
  all_goals
    intro u v w
    simp [kRead6, go_sem]
theorem rdK_kind {k : Int} {l : Wds} {x : Ev} {r : Wds} (h : rdK k l = some (x, r)) : x.k = k := by
  unfold rdK rdInv rdRet rdBeg rdCom at h
  simp only [] at h
  split at h
  · rw [Option.map_eq_some_iff] at h; obtain ⟨p, _, h⟩ := h; cases h; rfl
  · repeat' split at h
    all_goals first
      | cases h; done
      | (rw [Option.map_eq_some_iff] at h; obtain ⟨p, _, h⟩ := h; cases h; rfl)
      | (cases h; rfl)
set_option maxHeartbeats 8000000 in
set_option maxRecDepth 100000 in
theorem txParse_any (w : World) (hG : Glob6 w) (s : List UInt8) (hs : s.length ≤ 1000000) : Calls Tryz.prog 10 #[.string (bs s)] w fun e W =>
    ∃ tx rd, e = .returned (.tuple #[.agg (evC (lnX s) tx rd), .int .i64 (lnE s)]) ∧ EvAt W.heap.size W tx rd (lnX s) ∧ Keeps [] w W := by
  have hmf : ∀ (fn : Fn) (first cap : Array Value) (w : World), (Instr.makeFunc fn first cap).run Tryz.prog w = .ok (.func fn first cap) w := fun _ _ _ _ => rfl
  obtain ⟨W0, hW0⟩ : ∃ W0, (w.alloc (.cells #[.int .u8 0, .int .u8 0, .int .u16 0, .int .u8 0, .int .u8 0, .int .u8 0, .int .u16 0, .int .u16 0, .int .u8 0, .int .u16 0, .slice none 0 0, .slice none 0 0, .int .u8 0, .int .i64 0, .int .i64 0, .int .i64 0, .bool false, .bool false, .bool false] 32)).alloc (.cells #[.int .i64 0] 35) = W0 := ⟨_, rfl⟩
  have hb0 : W0.heap[w.heap.size]? = some (.cells (evC evZero (.slice none 0 0) (.slice none 0 0)) 32 (0, 0)) := by rw [← hW0]; exact heap_alloc_lt (heap_alloc_new w _)
  have he0 : W0.heap[w.heap.size + 1]? = some (.cells #[.int .i64 0] 35 (0, 0)) := by
    rw [← hW0]
    have := heap_alloc_new (w.alloc (.cells #[.int .u8 0, .int .u8 0, .int .u16 0, .int .u8 0, .int .u8 0, .int .u8 0, .int .u16 0, .int .u16 0, .int .u8 0, .int .u16 0, .slice none 0 0, .slice none 0 0, .int .u8 0, .int .i64 0, .int .i64 0, .int .i64 0, .bool false, .bool false, .bool false] 32)) (.cells #[.int .i64 0] 35)
    simpa using this
  have hk0 : Keeps [] w W0 := by rw [← hW0]; exact ((Keeps.refl [] w).alloc _).alloc _
  have hz0 : W0.heap.size = w.heap.size + 2 := by rw [← hW0]; simp
  have hGb : w.heap.size ∉ globs := hG.above (Nat.le_refl _)
  have hGe : w.heap.size + 1 ∉ globs := hG.above (by omega)
  have HB := Lib.hid hb0; have HE := Lib.hid he0; have HK := Lib.hid hk0; have HG := Lib.hid (hG.new hk0)
  -- how it ends badly
  have hbad : lnGet s = none → ∀ (W W' : World), Keeps [] w W → Keeps [w.heap.size, w.heap.size + 1] W W' →
      ∃ tx rd, Ending.returned (.tuple #[.agg (evC evZero (.slice none 0 0) (.slice none 0 0)), .int .i64 4]) = .returned (.tuple #[.agg (evC (lnX s) tx rd), .int .i64 (lnE s)]) ∧ EvAt W'.heap.size W' tx rd (lnX s) ∧ Keeps [] w W' := by
    intro hn W W' hkW hkW'
    obtain ⟨e1, e2⟩ := ln_none hn
    rw [e1, e2]
    exact ⟨_, _, rfl, ⟨Mics.nil _ _, Lists.nil _ _⟩, hkW.trans hkW' (fun y hy => .inr (by simp at hy; omega))⟩
  have HBAD := Lib.hid hbad
  clear hb0 he0 hk0 hbad
  go_enter_defers Tryz.func10, Tryz.ntmps10
  go_wp2_with fail
  clear hW0
  refine (SplitN6_any _ HG.out s hs 32 28 (by decide) (by decide)).mono ?_; rintro e w1 ⟨v1, rfl, hs1, hk1, hz1⟩
  have hcut := splitK_cut 32 27 s
  have hpl := splitK_part 32 27 s
  rw [show 28 - 1 = 27 from rfl] at hs1
  generalize hQ : Lib.splitK [32] 0 27 s = Q at *
  have hb1 := hk1.heap HB.out (by simp)
  have he1 := hk1.heap HE.out (by simp)
  have hK1 := HK.out.trans hk1 (FSub.refl _ _)
  have hln : Q.length ≤ 28 := by rw [← hQ]; exact splitK_len 32 27 s
  have hrd : RdAt (w1.alloc (.cells #[v1] 75)) w1.heap.size W0.heap.size Q :=
    ⟨⟨v1, heap_alloc_new _ _, hs1.keeps ((Keeps.refl [] w1).alloc _) (by simp)⟩, by omega, (HG.out.new hk1).new ((Keeps.refl [] w1).alloc _), hG.above (by have := hK1.size; omega), by simp; omega, by omega, fun x hx => Nat.le_trans (hpl x hx) hs⟩
  have hv1 : v1.oneCell' = true := by obtain ⟨a, c, rfl, _⟩ := hs1; rfl
  have hb2 := heap_alloc_lt (o := .cells #[v1] 75) hb1
  have he2 := heap_alloc_lt (o := .cells #[v1] 75) he1
  have hK2 := hK1.alloc (.cells #[v1] 75)
  have hr1 : w.heap.size + 2 ≤ w1.heap.size := by have := hk1.size; omega
  obtain ⟨a1, c1, rfl, hc1, hm1, _⟩ := hs1
  have c0 : (w1.alloc (.cells #[.slice a1 Q.length c1] 75)).cell? ⟨w1.heap.size, 0, none⟩ = some (.slice a1 Q.length c1) := by simp
  have HR := Lib.hid hrd; have HB2 := Lib.hid hb2; have HE2 := Lib.hid he2; have HK2 := Lib.hid hK2
  clear hb1 he1 hK1 hrd hb2 he2 hK2 hk1 HB HE HK HG
  by_cases hq : Q.length ≤ 27
  · have hQc : cutAt 32 s = Q := by
      rcases hcut with ⟨_, b⟩ | ⟨_, b, _⟩
      · rw [← b, ← hQ]
      · omega
--BEGIN
    have hlen : ∀ t : Wds, (∃ k, Q = k :: t) → (Lib.join t [32]).length ≤ 1000000 := by
      rintro t ⟨k, e⟩
      have hj := join_cut 32 s
      rw [hQc, e] at hj
      by_cases ht : t = []
      · subst ht; simp [Lib.join_nil]
      · rw [join_cons_ne _ _ _ ht] at hj
        have := congrArg List.length hj
        simp only [List.length_append] at this
        omega
    have HLEN := Lib.hid hlen
    have hqz : decide ((Q.length : Int) ≤ 27) = true := by simp; omega
    have HQC := Lib.hid hQc
    clear hcut hpl hQ hQc hlen
    go_wp2_with fail
    refine (need_yes _).mono ?_; rintro e w3 ⟨rfl, rfl⟩
    generalize w1.alloc (.cells #[.slice a1 Q.length c1] 75) = W2 at *
    generalize hR : w1.heap.size = r at *
    generalize hG0 : W0.heap.size = g at *
    clear hR hG0 hmf
    go_wp2_with fail
    refine (kind6_any _ r g Q HR.out).mono ?_; intro e w3 hRd
    have hbr : w.heap.size ≠ r := by omega
    have her : w.heap.size + 1 ≠ r := by omega
    generalize hB : w.heap.size = B at *
    have hrge : ∀ y ∈ [r], w.heap.size ≤ y := by intro y hy; simp at hy; omega
    cases e3 : rdKindO Q with
    | none =>
      rw [e3] at hRd
      obtain ⟨rfl, hk3⟩ := hRd
      have hnone : lnGet s = none := lnGet_rd HQC.out (rdEv_none e3)
      unfold PanicE
      go_wp2_with fail
      refine parse_dies _ _ B (B + 1) (by omega) _ _ (hk3.heap HB2.out (by simpa using hbr)) (evC_size _ _ _) _ (hk3.heap HE2.out (by simpa using her)) rfl rfl ?_
      intro W' hk'
      exact HBAD.out hnone _ _ (HK2.out.trans hk3 (fun y hy => .inr (hrge y hy))) hk'
    | some p =>
      obtain ⟨k, t⟩ := p
      rw [e3] at hRd
      obtain ⟨rfl, hr3, hk3⟩ := hRd
      obtain ⟨hQt, hk1, hk7, hrd⟩ := rdEv_some e3
      have hlt := HLEN.out t hQt
      have HRD := Lib.hid hrd
      have hB3 := hk3.heap HB2.out (by simpa using hbr)
      have E3 := Lib.hid (hk3.heap HE2.out (by simpa using her))
      have K3 := Lib.hid (HK2.out.trans hk3 (fun y hy => .inr (hrge y hy)))
      have H3 := Lib.hid hr3
      have HB3 := Lib.hid hB3
      have hBg : B ≠ g := by omega
      clear hr3 hk3 hB3 HB2 HE2 HK2 HR HLEN hrd hQt e3
      go_wp2_with ((with_reducible apply wpList_put_cell (T := 5) 0 { evZero with k := k } (.slice none 0 0) (.slice none 0 0)); exact rfl; exact rfl; exact HB3.out; kernel_rfl; exact rfl; exact rfl; exact rfl)
      intro W4 hb4 hk4
      have H4 := Lib.hid (⟨hb4, H3.out.keeps hk4 (by simpa using hbr.symm) (by simpa using hBg.symm) (by simpa using hGb), Keeps.refl _ _, hbr, hBg, hGb⟩ : Rdt B r g W4 W4 t { evZero with k := k } (.slice none 0 0) (.slice none 0 0))
      have E4 := Lib.hid (hk4.heap E3.out (by simp))
      have K4 := Lib.hid (K3.out.trans hk4 (fun y hy => .inr (by simp at hy; omega)))
      have c40 := ev_cell hb4 0 (evC_0 _ _ _)
      have c40D : W4.drew.cell? ⟨B, 0, none⟩ = some (.int .u8 k) := c40
      have hix := fun w => index_tx8 w k hk1 hk7
      have hC2 := fun w => field_tx2 w k hk1 hk7
      have hent := enter_read6 hk1 hk7
      have hread := fun w b r g l h hl => read6_any w b r g l k hk1 hk7 h hl
      generalize txKind k = C at *
      generalize kRead6 k = KR at *
      generalize hKC : txKindsC = KC at *
      have HREAD := Lib.hid hread
      clear hb4 hk4 H3 E3 K3 HB3 hread c40
      go_wp2_with fail
      refine wp_region_die B (fun W => lnGet s = none ∧ Keeps [B, r] W4 W ∧ ∃ cs, W.heap[B]? = some (.cells cs 32 (0, 0)) ∧ cs.size = 19) ?reg ?hq
      case hq =>
        intro a w' e2 e3 e4 hGG
        obtain ⟨hnone, hkw, cs, hcs, hsz⟩ := hGG
        show Leaves Tryz.prog Tryz.f10 a.tmps _ a.defers _ w'
        rw [e4]
        refine parse_dies _ _ B (B + 1) (by omega) _ _ hcs hsz _ (hkw.heap E4.out (by simp; omega)) e2 e3 ?_
        intro W' hk'
        exact HBAD.out hnone _ _ (K4.out.trans hkw (fun y hy => .inr (by simp at hy; omega))) hk'
      case reg =>
      refine wp_region_held_drew (S := fun w' => w'.cell? ⟨B, 0, none⟩ = some (.int .u8 k)) (by kernel_rfl) c40D (fun hHeld => ?_)
      apply wpAnyH_take (i := 1) (v := .pointer (some ⟨B, 0, none⟩))
      · simp only [List.getElem?_toArray]; rfl
      · kernel_rfl
      · kernel_rfl
      · kernel_rfl
      · exact DieQ.put (by decide) (by decide)
      · exact Or.inl ⟨by rfl, by intro w hSw; go_simp; try with_reducible rfl⟩
      · assumption
      try simp only [Act.put, List.setIfInBounds_toArray, List.set_cons_zero, List.set_cons_succ]
      apply wpAnyH_take (i := 2) (v := .int .u8 k)
      · simp only [List.getElem?_toArray]; rfl
      · kernel_rfl
      · kernel_rfl
      · kernel_rfl
      · exact DieQ.put (by decide) (by decide)
      · exact Or.inl ⟨by rfl, by intro w hSw; replace hSw : w.cell? ⟨B, 0, none⟩ = some (.int .u8 k) := hSw; go_simp; try with_reducible rfl⟩
      · assumption
      try simp only [Act.put, List.setIfInBounds_toArray, List.set_cons_zero, List.set_cons_succ]
      apply wpAnyH_take (i := 5) (v := .pointer (some ⟨r, 0, none⟩))
      · simp only [List.getElem?_toArray]; rfl
      · kernel_rfl
      · kernel_rfl
      · kernel_rfl
      · exact DieQ.put (by decide) (by decide)
      · exact Or.inl ⟨by rfl, by intro w hSw; go_simp; try with_reducible rfl⟩
      · assumption
      try simp only [Act.put, List.setIfInBounds_toArray, List.set_cons_zero, List.set_cons_succ]
      apply wpAnyH_ready (rs := [0])
      · kernel_rfl
      · simp
      apply AllReadyH.cons (hs := AllReadyH.nil)
      · simp only [List.getElem?_toArray]; rfl
      intro K hK
      rw [if_pos (by rfl)]
      go_simp
      refine (txKinds_any _).mono ?_; rintro e w5 ⟨rfl, hk5⟩
      rw [hKC]
      have hS5 := hk5.cell hHeld (by simp)
      have hk5 := hk5.undrew
      have H5 := Lib.hid (H4.out.news hk5); have E5 := Lib.hid (hk5.heap E4.out (by simp)); have K5 := Lib.hid (K4.out.trans hk5 (FSub.refl _ _))
      clear hk5
      go_wp2_with fail
      refine hK.out _ _ ?_ (fun hHeld => ?_)
      · exact hS5
      clear hK K
      try simp only [Act.put, List.setIfInBounds_toArray, List.set_cons_zero, List.set_cons_succ]
      apply wpAnyH_ready (rs := [3])
      · kernel_rfl
      · simp
      apply AllReadyH.cons (hs := AllReadyH.nil)
      · simp only [List.getElem?_toArray]; rfl
      intro K hK
      rw [if_pos (by rfl)]
      go_simp
      go_wp2_with fail
      refine hK.out _ _ ?_ (fun hHeld => ?_)
      · exact hS5
      clear hK K
      try simp only [Act.put, List.setIfInBounds_toArray, List.set_cons_zero, List.set_cons_succ]
      apply wpAnyH_ready (rs := [4])
      · kernel_rfl
      · simp
      apply AllReadyH.cons (hs := AllReadyH.nil)
      · simp only [List.getElem?_toArray]; rfl
      intro K hK
      rw [if_pos (by rfl)]
      go_simp
      go_wp2_with fail
      refine hK.out _ _ ?_ (fun hHeld => ?_)
      · exact hS5
      clear hK K
      try simp only [Act.put, List.setIfInBounds_toArray, List.set_cons_zero, List.set_cons_succ]
      apply wpAnyH_ready (rs := [6])
      · kernel_rfl
      · simp
      apply AllReadyH.cons (hs := AllReadyH.nil)
      · simp only [List.getElem?_toArray]; rfl
      intro K hK
      rw [if_pos (by rfl)]
      go_simp
      refine (HREAD.out w5 B r g t (⟨H5.out.ev, H5.out.rdr, Keeps.refl _ _, hbr, hBg, hGb⟩) hlt).mono ?_; rintro e w6 ⟨tx, rd, hF, hEK⟩
      have hbody := rdK_body k t
      have hkind := @rdK_kind k t
      cases e6 : rdK k t with
      | none =>
        rw [e6] at hF
        obtain ⟨rfl, hk6, hcs⟩ := hF
        have hnone : lnGet s = none := by
          refine lnGet_rd HQC.out ?_
          rw [HRD.out]
          cases hb : rdBody k t with
          | none => rfl
          | some x => rw [(hbody x).2 hb] at e6; cases e6
        unfold PanicE
        clear hbody hkind hEK
        go_wp2_with fail
        exact ⟨⟨rfl, rfl, rfl, rfl⟩, H5.out.keeps.trans hk6 (fun y hy => .inl hy), hcs⟩
      | some p =>
      obtain ⟨x, l2⟩ := p
      rw [e6] at hF
      obtain ⟨rfl, h6⟩ := hF
      have hxk := hkind e6
      have hEK2 := hEK x l2 e6
      have hS6 := ev_cell h6.ev 0 (evC_0 x tx rd)
      rw [hxk] at hS6
      have hbd : ∀ y, rdBody k t = some y → l2 = [] ∧ y = x := by
        intro y hy
        have := (hbody y).2 hy
        rw [e6] at this
        cases this
        exact ⟨rfl, rfl⟩
      have hbd2 : l2 = [] → rdBody k t = some x := fun h => (hbody x).1 (by rw [e6, h])
      have H6 := Lib.hid h6
      have E6 := Lib.hid (h6.keeps.heap E5.out (by simp; omega))
      have K6 := Lib.hid (K5.out.trans h6.keeps (fun y hy => .inr (by simp at hy; omega)))
      have HEK := Lib.hid hEK2
      have HBD := Lib.hid hbd; have HBD2 := Lib.hid hbd2
      have hB5 : B < w5.heap.size := lt_of_block H5.out.ev
      have hE5 : B + 1 < w5.heap.size := lt_of_block E5.out
      clear h6 hkind hbody hEK hEK2 hxk e6 hbd hbd2 H4 H5 E4 E5 K4 K5 HREAD hent hC2 hix hKC
      go_wp2_with fail
      refine hK.out _ _ ?_ (fun hHeld => ?_)
      · exact hS6
      clear hK K
      try simp only [Act.put]
      refine wpAnyH_done (by kernel_rfl) ?_ _
      refine DieQ.normal ?_
      obtain ⟨v6, hv6, hs6⟩ := H6.out.rdr.cell
      obtain ⟨a6, c6, rfl, _, _, _⟩ := hs6
      have c60 : w6.cell? ⟨r, 0, none⟩ = some (.slice a6 l2.length c6) := by simp [World.cell?, hv6]
      clear hv6 hS6
      by_cases hl2 : l2 = []
      · subst hl2
        have hxg := HBD2.out rfl
        have hrd : rdEv (cutAt 32 s) = some x := by rw [HQC.out, HRD.out, hxg]
        have hin := (rdEv_ok (cut_parts_free 32 s) hrd).2.1
        have hln : lnGet s = if evGood x then some x else none := by unfold lnGet; rw [hrd]
        have HLN := Lib.hid hln
        have hat6 := HEK.out [] w6 (Keeps.refl _ _) (by simp)
        have hchk := Check5_any w6 H6.out.rdr.glob.o x hin tx rd hat6 (Nat.le_refl _)
        have c60' : w6.cell? ⟨r, 0, none⟩ = some (.slice a6 0 c6) := c60
        clear c60 hxg hrd hln HBD HBD2 HRD HQC hat6
        go_wp2_with fail
        refine (need_yes _).mono ?_; rintro e w7 ⟨rfl, rfl⟩
        go_wp2_with ((with_reducible apply wpList_load_ev); exact rfl; exact H6.out.ev; exact rfl)
        refine hchk.mono ?_; rintro e w8 ⟨rfl, hk8⟩
        have H8 := Lib.hid (H6.out.news hk8)
        have E8 := Lib.hid (hk8.heap E6.out (by simp))
        have K8 := Lib.hid (K6.out.trans hk8 (FSub.refl _ _))
        have hEr : evErr x = if evGood x then 0 else 4 := rfl
        rw [hEr]
        clear hchk hEr
        cases hg : evGood x with
        | false =>
          have hnone : lnGet s = none := by rw [HLN.out, hg]; rfl
          go_wp2_with fail
          refine (need_no _).mono ?_; rintro e w9 ⟨rfl, rfl⟩
          unfold PanicE
          go_wp2_with fail
          refine parse_dies _ _ B (B + 1) (by omega) _ _ H8.out.ev (evC_size _ _ _) _ E8.out rfl rfl ?_
          intro W' hk'
          exact HBAD.out hnone _ _ K8.out hk'
        | true =>
          have hsome : lnGet s = some x := by rw [HLN.out, hg]; rfl
          have hEX : lnX s = x ∧ lnE s = 0 := by unfold lnX lnE; rw [hsome]; exact ⟨rfl, rfl⟩
          have HEX := Lib.hid hEX
          have h1c := (HEK.out [] w7 (Keeps.refl _ _) (by simp))
          have hone := Lib.hid (evC_one x h1c.t.one h1c.r.one)
          have HK8 := Lib.hid hk8
          clear hsome hEX h1c hk8
          go_wp2_with fail
          refine (need_yes _).mono ?_; rintro e w9 ⟨rfl, rfl⟩
          go_wp2_with (first | ((with_reducible apply wpList_load_ev); exact rfl; exact H8.out.ev; exact rfl) | ((with_reducible apply wpList_put_ev); exact rfl; exact rfl; exact H8.out.ev; exact ⟨rfl, rfl⟩; exact hone.out))
          intro W10 hb10 hk10
          have he10 := hk10.heap E8.out (by simp)
          have d0 : W10.cell? ⟨B + 1, 0, none⟩ = some (.int .i64 0) := by simp [World.cell?, he10]
          have dz : W10.frozen? ⟨B + 1, 0, none⟩ = false := by simp [World.frozen?, he10]
          have HB10 := Lib.hid hb10; have HE10 := Lib.hid he10; have HK10 := Lib.hid hk10
          clear hb10 hk10 he10
          go_wp2_with fail
          have hkf := (HK10.out.more (G := [B, B + 1]) (by simp)).setCell ⟨B + 1, 0, none⟩ (.int .i64 0) (.inl (by simp))
          refine parse_ends _ _ B (B + 1) _ ((Below.heap_setCell _ _ _ _ (by simp)).trans HB10.out) (put1 HE10.out _) rfl rfl ?_
          obtain ⟨e1, e2⟩ := HEX.out
          rw [e1, e2]
          exact ⟨tx, rd, rfl, HEK.out [B, B + 1] _ (((HK8.out.more (G := [B, B + 1]) (by simp))).trans hkf (FSub.refl _ _)) (by intro q hq; simp at hq; omega), K8.out.trans hkf (fun y hy => .inr (by simp at hy; omega))⟩
      · have hnone : lnGet s = none := by
          refine lnGet_rd HQC.out ?_
          rw [HRD.out]
          cases hb : rdBody k t with
          | none => rfl
          | some y => exact absurd (HBD.out y hb).1 hl2
        have hpos : 0 < l2.length := List.length_pos_iff.2 hl2
        have hz : ((l2.length : Int) == 0) = false := by rw [beq_eq_false_iff_ne]; omega
        clear hl2 HBD HBD2 HRD HQC
        go_wp2_with fail
        refine (need_no _).mono ?_; rintro e w7 ⟨rfl, rfl⟩
        unfold PanicE
        go_wp2_with fail
        refine parse_dies _ _ B (B + 1) (by omega) _ _ H6.out.ev (evC_size _ _ _) _ E6.out rfl rfl ?_
        intro W' hk'
        exact HBAD.out hnone _ _ K6.out hk'
--END
  · have hnone : lnGet s = none := by
      rcases hcut with ⟨a, b⟩ | ⟨a, _⟩
      · exact lnGet_long (by rw [← b]; omega)
      · exact lnGet_long (by omega)
    have hqz : decide ((Q.length : Int) ≤ 27) = false := by simp; omega
    clear hcut hpl hQ
    go_wp2_with fail
    refine (need_no _).mono ?_; rintro e w3 ⟨rfl, rfl⟩
    unfold PanicE
    go_wp2_with fail
    refine parse_dies _ _ w.heap.size (w.heap.size + 1) (by omega) _ _ HB2.out (evC_size _ _ _) _ HE2.out rfl rfl ?_
    intro W' hk'
    exact HBAD.out hnone _ _ HK2.out hk'
end Go.Proofs.YtffldnjjijckcaaGreatDoor
/-
  The program's Parse once more: its event lies in new blocks.
-/
namespace Go.Proofs.YtffldnjjijckcaaGreatDoor
open Go.RowKit
set_option maxHeartbeats 8000000 in
set_option maxRecDepth 100000 in
theorem txParse_fresh (w : World) (hG : Glob6 w) (s : List UInt8) (hs : s.length ≤ 1000000) (M : Nat) (hM : M ≤ w.heap.size) : Calls Tryz.prog 10 #[.string (bs s)] w fun e W =>
    ∃ tx rd, e = .returned (.tuple #[.agg (evC (lnX s) tx rd), .int .i64 (lnE s)]) ∧ EvKeeps M W tx rd (lnX s) ∧ Keeps [] w W := by
  have hmf : ∀ (fn : Fn) (first cap : Array Value) (w : World), (Instr.makeFunc fn first cap).run Tryz.prog w = .ok (.func fn first cap) w := fun _ _ _ _ => rfl
  obtain ⟨W0, hW0⟩ : ∃ W0, (w.alloc (.cells #[.int .u8 0, .int .u8 0, .int .u16 0, .int .u8 0, .int .u8 0, .int .u8 0, .int .u16 0, .int .u16 0, .int .u8 0, .int .u16 0, .slice none 0 0, .slice none 0 0, .int .u8 0, .int .i64 0, .int .i64 0, .int .i64 0, .bool false, .bool false, .bool false] 32)).alloc (.cells #[.int .i64 0] 35) = W0 := ⟨_, rfl⟩
  have hb0 : W0.heap[w.heap.size]? = some (.cells (evC evZero (.slice none 0 0) (.slice none 0 0)) 32 (0, 0)) := by rw [← hW0]; exact heap_alloc_lt (heap_alloc_new w _)
  have he0 : W0.heap[w.heap.size + 1]? = some (.cells #[.int .i64 0] 35 (0, 0)) := by
    rw [← hW0]
    have := heap_alloc_new (w.alloc (.cells #[.int .u8 0, .int .u8 0, .int .u16 0, .int .u8 0, .int .u8 0, .int .u8 0, .int .u16 0, .int .u16 0, .int .u8 0, .int .u16 0, .slice none 0 0, .slice none 0 0, .int .u8 0, .int .i64 0, .int .i64 0, .int .i64 0, .bool false, .bool false, .bool false] 32)) (.cells #[.int .i64 0] 35)
    simpa using this
  have hk0 : Keeps [] w W0 := by rw [← hW0]; exact ((Keeps.refl [] w).alloc _).alloc _
  have hz0 : W0.heap.size = w.heap.size + 2 := by rw [← hW0]; simp
  have HM := Lib.hid hM
  clear hM
  have hGb : w.heap.size ∉ globs := hG.above (Nat.le_refl _)
  have hGe : w.heap.size + 1 ∉ globs := hG.above (by omega)
  have HB := Lib.hid hb0; have HE := Lib.hid he0; have HK := Lib.hid hk0; have HG := Lib.hid (hG.new hk0)
  -- how it ends badly
  have hbad : lnGet s = none → ∀ (W W' : World), Keeps [] w W → Keeps [w.heap.size, w.heap.size + 1] W W' →
      ∃ tx rd, Ending.returned (.tuple #[.agg (evC evZero (.slice none 0 0) (.slice none 0 0)), .int .i64 4]) = .returned (.tuple #[.agg (evC (lnX s) tx rd), .int .i64 (lnE s)]) ∧ EvKeeps M W' tx rd (lnX s) ∧ Keeps [] w W' := by
    intro hn W W' hkW hkW'
    obtain ⟨e1, e2⟩ := ln_none hn
    rw [e1, e2]
    exact ⟨_, _, rfl, fun _ _ _ _ => ⟨Mics.nil _ _, Lists.nil _ _⟩, hkW.trans hkW' (fun y hy => .inr (by simp at hy; omega))⟩
  have HBAD := Lib.hid hbad
  clear hb0 he0 hk0 hbad
  go_enter_defers Tryz.func10, Tryz.ntmps10
  go_wp2_with fail
  clear hW0
  refine (SplitN6_any _ HG.out s hs 32 28 (by decide) (by decide)).mono ?_; rintro e w1 ⟨v1, rfl, hs1, hk1, hz1⟩
  have hcut := splitK_cut 32 27 s
  have hpl := splitK_part 32 27 s
  rw [show 28 - 1 = 27 from rfl] at hs1
  generalize hQ : Lib.splitK [32] 0 27 s = Q at *
  have hb1 := hk1.heap HB.out (by simp)
  have he1 := hk1.heap HE.out (by simp)
  have hK1 := HK.out.trans hk1 (FSub.refl _ _)
  have hln : Q.length ≤ 28 := by rw [← hQ]; exact splitK_len 32 27 s
  have hrd : RdAt (w1.alloc (.cells #[v1] 75)) w1.heap.size W0.heap.size Q :=
    ⟨⟨v1, heap_alloc_new _ _, hs1.keeps ((Keeps.refl [] w1).alloc _) (by simp)⟩, by omega, (HG.out.new hk1).new ((Keeps.refl [] w1).alloc _), hG.above (by have := hK1.size; omega), by simp; omega, by omega, fun x hx => Nat.le_trans (hpl x hx) hs⟩
  have hv1 : v1.oneCell' = true := by obtain ⟨a, c, rfl, _⟩ := hs1; rfl
  have hb2 := heap_alloc_lt (o := .cells #[v1] 75) hb1
  have he2 := heap_alloc_lt (o := .cells #[v1] 75) he1
  have hK2 := hK1.alloc (.cells #[v1] 75)
  have hr1 : w.heap.size + 2 ≤ w1.heap.size := by have := hk1.size; omega
  obtain ⟨a1, c1, rfl, hc1, hm1, _⟩ := hs1
  have c0 : (w1.alloc (.cells #[.slice a1 Q.length c1] 75)).cell? ⟨w1.heap.size, 0, none⟩ = some (.slice a1 Q.length c1) := by simp
  have HR := Lib.hid hrd; have HB2 := Lib.hid hb2; have HE2 := Lib.hid he2; have HK2 := Lib.hid hK2
  clear hb1 he1 hK1 hrd hb2 he2 hK2 hk1 HB HE HK HG
  by_cases hq : Q.length ≤ 27
  · have hQc : cutAt 32 s = Q := by
      rcases hcut with ⟨_, b⟩ | ⟨_, b, _⟩
      · rw [← b, ← hQ]
      · omega
--BEGIN
    have hlen : ∀ t : Wds, (∃ k, Q = k :: t) → (Lib.join t [32]).length ≤ 1000000 := by
      rintro t ⟨k, e⟩
      have hj := join_cut 32 s
      rw [hQc, e] at hj
      by_cases ht : t = []
      · subst ht; simp [Lib.join_nil]
      · rw [join_cons_ne _ _ _ ht] at hj
        have := congrArg List.length hj
        simp only [List.length_append] at this
        omega
    have HLEN := Lib.hid hlen
    have hqz : decide ((Q.length : Int) ≤ 27) = true := by simp; omega
    have HQC := Lib.hid hQc
    clear hcut hpl hQ hQc hlen
    go_wp2_with fail
    refine (need_yes _).mono ?_; rintro e w3 ⟨rfl, rfl⟩
    generalize w1.alloc (.cells #[.slice a1 Q.length c1] 75) = W2 at *
    generalize hR : w1.heap.size = r at *
    generalize hG0 : W0.heap.size = g at *
    clear hR hG0 hmf
    go_wp2_with fail
    refine (kind6_any _ r g Q HR.out).mono ?_; intro e w3 hRd
    have hbr : w.heap.size ≠ r := by omega
    have her : w.heap.size + 1 ≠ r := by omega
    generalize hB : w.heap.size = B at *
    have hrge : ∀ y ∈ [r], w.heap.size ≤ y := by intro y hy; simp at hy; omega
    cases e3 : rdKindO Q with
    | none =>
      rw [e3] at hRd
      obtain ⟨rfl, hk3⟩ := hRd
      have hnone : lnGet s = none := lnGet_rd HQC.out (rdEv_none e3)
      unfold PanicE
      go_wp2_with fail
      refine parse_dies _ _ B (B + 1) (by omega) _ _ (hk3.heap HB2.out (by simpa using hbr)) (evC_size _ _ _) _ (hk3.heap HE2.out (by simpa using her)) rfl rfl ?_
      intro W' hk'
      exact HBAD.out hnone _ _ (HK2.out.trans hk3 (fun y hy => .inr (hrge y hy))) hk'
    | some p =>
      obtain ⟨k, t⟩ := p
      rw [e3] at hRd
      obtain ⟨rfl, hr3, hk3⟩ := hRd
      obtain ⟨hQt, hk1, hk7, hrd⟩ := rdEv_some e3
      have hlt := HLEN.out t hQt
      have HRD := Lib.hid hrd
      have hB3 := hk3.heap HB2.out (by simpa using hbr)
      have E3 := Lib.hid (hk3.heap HE2.out (by simpa using her))
      have K3 := Lib.hid (HK2.out.trans hk3 (fun y hy => .inr (hrge y hy)))
      have H3 := Lib.hid hr3
      have HB3 := Lib.hid hB3
      have hBg : B ≠ g := by omega
      clear hr3 hk3 hB3 HB2 HE2 HK2 HR HLEN hrd hQt e3
      go_wp2_with ((with_reducible apply wpList_put_cell (T := 5) 0 { evZero with k := k } (.slice none 0 0) (.slice none 0 0)); exact rfl; exact rfl; exact HB3.out; kernel_rfl; exact rfl; exact rfl; exact rfl)
      intro W4 hb4 hk4
      have H4 := Lib.hid (⟨hb4, H3.out.keeps hk4 (by simpa using hbr.symm) (by simpa using hBg.symm) (by simpa using hGb), Keeps.refl _ _, hbr, hBg, hGb⟩ : Rdt B r g W4 W4 t { evZero with k := k } (.slice none 0 0) (.slice none 0 0))
      have E4 := Lib.hid (hk4.heap E3.out (by simp))
      have K4 := Lib.hid (K3.out.trans hk4 (fun y hy => .inr (by simp at hy; omega)))
      have c40 := ev_cell hb4 0 (evC_0 _ _ _)
      have c40D : W4.drew.cell? ⟨B, 0, none⟩ = some (.int .u8 k) := c40
      have hix := fun w => index_tx8 w k hk1 hk7
      have hC2 := fun w => field_tx2 w k hk1 hk7
      have hent := enter_read6 hk1 hk7
      have hread := fun w b r g l h hl => read6_any w b r g l k hk1 hk7 h hl
      generalize txKind k = C at *
      generalize kRead6 k = KR at *
      generalize hKC : txKindsC = KC at *
      have HREAD := Lib.hid hread
      clear hb4 hk4 H3 E3 K3 HB3 hread c40
      go_wp2_with fail
      refine wp_region_die B (fun W => lnGet s = none ∧ Keeps [B, r] W4 W ∧ ∃ cs, W.heap[B]? = some (.cells cs 32 (0, 0)) ∧ cs.size = 19) ?reg ?hq
      case hq =>
        intro a w' e2 e3 e4 hGG
        obtain ⟨hnone, hkw, cs, hcs, hsz⟩ := hGG
        show Leaves Tryz.prog Tryz.f10 a.tmps _ a.defers _ w'
        rw [e4]
        refine parse_dies _ _ B (B + 1) (by omega) _ _ hcs hsz _ (hkw.heap E4.out (by simp; omega)) e2 e3 ?_
        intro W' hk'
        exact HBAD.out hnone _ _ (K4.out.trans hkw (fun y hy => .inr (by simp at hy; omega))) hk'
      case reg =>
      refine wp_region_held_drew (S := fun w' => w'.cell? ⟨B, 0, none⟩ = some (.int .u8 k)) (by kernel_rfl) c40D (fun hHeld => ?_)
      apply wpAnyH_take (i := 1) (v := .pointer (some ⟨B, 0, none⟩))
      · simp only [List.getElem?_toArray]; rfl
      · kernel_rfl
      · kernel_rfl
      · kernel_rfl
      · exact DieQ.put (by decide) (by decide)
      · exact Or.inl ⟨by rfl, by intro w hSw; go_simp; try with_reducible rfl⟩
      · assumption
      try simp only [Act.put, List.setIfInBounds_toArray, List.set_cons_zero, List.set_cons_succ]
      apply wpAnyH_take (i := 2) (v := .int .u8 k)
      · simp only [List.getElem?_toArray]; rfl
      · kernel_rfl
      · kernel_rfl
      · kernel_rfl
      · exact DieQ.put (by decide) (by decide)
      · exact Or.inl ⟨by rfl, by intro w hSw; replace hSw : w.cell? ⟨B, 0, none⟩ = some (.int .u8 k) := hSw; go_simp; try with_reducible rfl⟩
      · assumption
      try simp only [Act.put, List.setIfInBounds_toArray, List.set_cons_zero, List.set_cons_succ]
      apply wpAnyH_take (i := 5) (v := .pointer (some ⟨r, 0, none⟩))
      · simp only [List.getElem?_toArray]; rfl
      · kernel_rfl
      · kernel_rfl
      · kernel_rfl
      · exact DieQ.put (by decide) (by decide)
      · exact Or.inl ⟨by rfl, by intro w hSw; go_simp; try with_reducible rfl⟩
      · assumption
      try simp only [Act.put, List.setIfInBounds_toArray, List.set_cons_zero, List.set_cons_succ]
      apply wpAnyH_ready (rs := [0])
      · kernel_rfl
      · simp
      apply AllReadyH.cons (hs := AllReadyH.nil)
      · simp only [List.getElem?_toArray]; rfl
      intro K hK
      rw [if_pos (by rfl)]
      go_simp
      refine (txKinds_any _).mono ?_; rintro e w5 ⟨rfl, hk5⟩
      rw [hKC]
      have hS5 := hk5.cell hHeld (by simp)
      have hk5 := hk5.undrew
      have H5 := Lib.hid (H4.out.news hk5); have E5 := Lib.hid (hk5.heap E4.out (by simp)); have K5 := Lib.hid (K4.out.trans hk5 (FSub.refl _ _))
      clear hk5
      go_wp2_with fail
      refine hK.out _ _ ?_ (fun hHeld => ?_)
      · exact hS5
      clear hK K
      try simp only [Act.put, List.setIfInBounds_toArray, List.set_cons_zero, List.set_cons_succ]
      apply wpAnyH_ready (rs := [3])
      · kernel_rfl
      · simp
      apply AllReadyH.cons (hs := AllReadyH.nil)
      · simp only [List.getElem?_toArray]; rfl
      intro K hK
      rw [if_pos (by rfl)]
      go_simp
      go_wp2_with fail
      refine hK.out _ _ ?_ (fun hHeld => ?_)
      · exact hS5
      clear hK K
      try simp only [Act.put, List.setIfInBounds_toArray, List.set_cons_zero, List.set_cons_succ]
      apply wpAnyH_ready (rs := [4])
      · kernel_rfl
      · simp
      apply AllReadyH.cons (hs := AllReadyH.nil)
      · simp only [List.getElem?_toArray]; rfl
      intro K hK
      rw [if_pos (by rfl)]
      go_simp
      go_wp2_with fail
      refine hK.out _ _ ?_ (fun hHeld => ?_)
      · exact hS5
      clear hK K
      try simp only [Act.put, List.setIfInBounds_toArray, List.set_cons_zero, List.set_cons_succ]
      apply wpAnyH_ready (rs := [6])
      · kernel_rfl
      · simp
      apply AllReadyH.cons (hs := AllReadyH.nil)
      · simp only [List.getElem?_toArray]; rfl
      intro K hK
      rw [if_pos (by rfl)]
      go_simp
      refine (HREAD.out w5 B r g t (⟨H5.out.ev, H5.out.rdr, Keeps.refl _ _, hbr, hBg, hGb⟩) hlt).mono ?_; rintro e w6 ⟨tx, rd, hF, hEK⟩
      have hbody := rdK_body k t
      have hkind := @rdK_kind k t
      cases e6 : rdK k t with
      | none =>
        rw [e6] at hF
        obtain ⟨rfl, hk6, hcs⟩ := hF
        have hnone : lnGet s = none := by
          refine lnGet_rd HQC.out ?_
          rw [HRD.out]
          cases hb : rdBody k t with
          | none => rfl
          | some x => rw [(hbody x).2 hb] at e6; cases e6
        unfold PanicE
        clear hbody hkind hEK
        go_wp2_with fail
        exact ⟨⟨rfl, rfl, rfl, rfl⟩, H5.out.keeps.trans hk6 (fun y hy => .inl hy), hcs⟩
      | some p =>
      obtain ⟨x, l2⟩ := p
      rw [e6] at hF
      obtain ⟨rfl, h6⟩ := hF
      have hxk := hkind e6
      have hEK2 := hEK x l2 e6
      have hS6 := ev_cell h6.ev 0 (evC_0 x tx rd)
      rw [hxk] at hS6
      have hbd : ∀ y, rdBody k t = some y → l2 = [] ∧ y = x := by
        intro y hy
        have := (hbody y).2 hy
        rw [e6] at this
        cases this
        exact ⟨rfl, rfl⟩
      have hbd2 : l2 = [] → rdBody k t = some x := fun h => (hbody x).1 (by rw [e6, h])
      have H6 := Lib.hid h6
      have E6 := Lib.hid (h6.keeps.heap E5.out (by simp; omega))
      have K6 := Lib.hid (K5.out.trans h6.keeps (fun y hy => .inr (by simp at hy; omega)))
      have HEK := Lib.hid hEK2
      have HBD := Lib.hid hbd; have HBD2 := Lib.hid hbd2
      have hB5 : B < w5.heap.size := lt_of_block H5.out.ev
      have hE5 : B + 1 < w5.heap.size := lt_of_block E5.out
      clear h6 hkind hbody hEK hEK2 hxk e6 hbd hbd2 H4 H5 E4 E5 K4 K5 HREAD hent hC2 hix hKC
      go_wp2_with fail
      refine hK.out _ _ ?_ (fun hHeld => ?_)
      · exact hS6
      clear hK K
      try simp only [Act.put]
      refine wpAnyH_done (by kernel_rfl) ?_ _
      refine DieQ.normal ?_
      obtain ⟨v6, hv6, hs6⟩ := H6.out.rdr.cell
      obtain ⟨a6, c6, rfl, _, _, _⟩ := hs6
      have c60 : w6.cell? ⟨r, 0, none⟩ = some (.slice a6 l2.length c6) := by simp [World.cell?, hv6]
      clear hv6 hS6
      by_cases hl2 : l2 = []
      · subst hl2
        have hxg := HBD2.out rfl
        have hrd : rdEv (cutAt 32 s) = some x := by rw [HQC.out, HRD.out, hxg]
        have hin := (rdEv_ok (cut_parts_free 32 s) hrd).2.1
        have hln : lnGet s = if evGood x then some x else none := by unfold lnGet; rw [hrd]
        have HLN := Lib.hid hln
        have hat6 := HEK.out [] w6 (Keeps.refl _ _) (by simp)
        have hchk := Check5_any w6 H6.out.rdr.glob.o x hin tx rd hat6 (Nat.le_refl _)
        have c60' : w6.cell? ⟨r, 0, none⟩ = some (.slice a6 0 c6) := c60
        clear c60 hxg hrd hln HBD HBD2 HRD HQC hat6
        go_wp2_with fail
        refine (need_yes _).mono ?_; rintro e w7 ⟨rfl, rfl⟩
        go_wp2_with ((with_reducible apply wpList_load_ev); exact rfl; exact H6.out.ev; exact rfl)
        refine hchk.mono ?_; rintro e w8 ⟨rfl, hk8⟩
        have H8 := Lib.hid (H6.out.news hk8)
        have E8 := Lib.hid (hk8.heap E6.out (by simp))
        have K8 := Lib.hid (K6.out.trans hk8 (FSub.refl _ _))
        have hEr : evErr x = if evGood x then 0 else 4 := rfl
        rw [hEr]
        clear hchk hEr
        cases hg : evGood x with
        | false =>
          have hnone : lnGet s = none := by rw [HLN.out, hg]; rfl
          go_wp2_with fail
          refine (need_no _).mono ?_; rintro e w9 ⟨rfl, rfl⟩
          unfold PanicE
          go_wp2_with fail
          refine parse_dies _ _ B (B + 1) (by omega) _ _ H8.out.ev (evC_size _ _ _) _ E8.out rfl rfl ?_
          intro W' hk'
          exact HBAD.out hnone _ _ K8.out hk'
        | true =>
          have hsome : lnGet s = some x := by rw [HLN.out, hg]; rfl
          have hEX : lnX s = x ∧ lnE s = 0 := by unfold lnX lnE; rw [hsome]; exact ⟨rfl, rfl⟩
          have HEX := Lib.hid hEX
          have h1c := (HEK.out [] w7 (Keeps.refl _ _) (by simp))
          have hone := Lib.hid (evC_one x h1c.t.one h1c.r.one)
          have HK8 := Lib.hid hk8
          clear hsome hEX h1c hk8
          go_wp2_with fail
          refine (need_yes _).mono ?_; rintro e w9 ⟨rfl, rfl⟩
          go_wp2_with (first | ((with_reducible apply wpList_load_ev); exact rfl; exact H8.out.ev; exact rfl) | ((with_reducible apply wpList_put_ev); exact rfl; exact rfl; exact H8.out.ev; exact ⟨rfl, rfl⟩; exact hone.out))
          intro W10 hb10 hk10
          have he10 := hk10.heap E8.out (by simp)
          have d0 : W10.cell? ⟨B + 1, 0, none⟩ = some (.int .i64 0) := by simp [World.cell?, he10]
          have dz : W10.frozen? ⟨B + 1, 0, none⟩ = false := by simp [World.frozen?, he10]
          have HB10 := Lib.hid hb10; have HE10 := Lib.hid he10; have HK10 := Lib.hid hk10
          clear hb10 hk10 he10
          go_wp2_with fail
          have hkf := (HK10.out.more (G := [B, B + 1]) (by simp)).setCell ⟨B + 1, 0, none⟩ (.int .i64 0) (.inl (by simp))
          refine parse_ends _ _ B (B + 1) _ ((Below.heap_setCell _ _ _ _ (by simp)).trans HB10.out) (put1 HE10.out _) rfl rfl ?_
          obtain ⟨e1, e2⟩ := HEX.out
          rw [e1, e2]
          refine ⟨tx, rd, rfl, fun F W' hkF hF => HEK.out (B :: (B + 1) :: F) W' (((((HK8.out.more (G := [B, B + 1]) (by simp))).trans hkf (FSub.refl _ _)).more (G := B :: (B + 1) :: F) (by intro q hq; simp at hq ⊢; rcases hq with h | h <;> simp [h])).step hkF (by intro q hq; simp [hq])) (fun q hq => ?_), K8.out.trans hkf (fun y hy => .inr (by simp at hy; omega))⟩
          simp at hq
          rcases hq with h | h | h
          · omega
          · omega
          · have := hF q h; have := HM.out; omega
      · have hnone : lnGet s = none := by
          refine lnGet_rd HQC.out ?_
          rw [HRD.out]
          cases hb : rdBody k t with
          | none => rfl
          | some y => exact absurd (HBD.out y hb).1 hl2
        have hpos : 0 < l2.length := List.length_pos_iff.2 hl2
        have hz : ((l2.length : Int) == 0) = false := by rw [beq_eq_false_iff_ne]; omega
        clear hl2 HBD HBD2 HRD HQC
        go_wp2_with fail
        refine (need_no _).mono ?_; rintro e w7 ⟨rfl, rfl⟩
        unfold PanicE
        go_wp2_with fail
        refine parse_dies _ _ B (B + 1) (by omega) _ _ H6.out.ev (evC_size _ _ _) _ E6.out rfl rfl ?_
        intro W' hk'
        exact HBAD.out hnone _ _ K6.out hk'
--END
  · have hnone : lnGet s = none := by
      rcases hcut with ⟨a, b⟩ | ⟨a, _⟩
      · exact lnGet_long (by rw [← b]; omega)
      · exact lnGet_long (by omega)
    have hqz : decide ((Q.length : Int) ≤ 27) = false := by simp; omega
    clear hcut hpl hQ
    go_wp2_with fail
    refine (need_no _).mono ?_; rintro e w3 ⟨rfl, rfl⟩
    unfold PanicE
    go_wp2_with fail
    refine parse_dies _ _ w.heap.size (w.heap.size + 1) (by omega) _ _ HB2.out (evC_size _ _ _) _ HE2.out rfl rfl ?_
    intro W' hk'
    exact HBAD.out hnone _ _ HK2.out hk'
end Go.Proofs.YtffldnjjijckcaaGreatDoor
