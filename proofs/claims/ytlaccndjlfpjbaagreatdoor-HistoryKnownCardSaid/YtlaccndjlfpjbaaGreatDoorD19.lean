/-
  The program's history: Config, Pending, Open, Last.
-/
import Derived.Test.YtlaccndjlfpjbaaGreatDoorD18
set_option linter.unusedSimpArgs false
set_option linter.unusedVariables false
namespace Go.Proofs.YtlaccndjlfpjbaaGreatDoor
open Go.RowKit Go.Maps
theorem results_cfg2 {fn : Func} {p u : Tmp} (h : fn.results = #[.cell p 40, .tmp u]) (tmps : Array Value) (w : World) (b : Nat) {g : Cfg} {t : TypeId}
    (hp : tmps.getD p undef = .pointer (some ⟨b, 0, none⟩)) (hb : w.heap[b]? = some (.cells (cfgC g).toArray t (0, 0))) : (results fn tmps).run Tryz.prog w = .ok (.tuple #[.agg (cfgC g).toArray, tmps.getD u undef]) w := by
  have h1 : (loadVar 40 ⟨b, 0, none⟩).run Tryz.prog w = .ok (.agg (cfgC g).toArray) w := run_loadVar_row w b t 40 _ _ _ hb Tryz.underlying40 rfl (by kernel_rfl)
  rw [results_cell_tmp h, hp]
  simp [asAddr, h1, Result.andThen]
theorem wp_put_cfg1 {o : Oper} {a : Act} {w : World} {K : Act → World → Prop} {Q : Exit → Act → World → Prop} {x y : Operand} {b : Nat} {old : Array Value} {t : TypeId} (g : Cfg)
    (ho : o.op = .store 40 x y) (hx : a.eval x = .pointer (some ⟨b, 0, none⟩)) (hy : a.eval y = .agg (cfgC g).toArray) (hg : w.heap[b]? = some (.cells old t (0, 0))) (hs : old.size = 7)
    (h : ∀ W, W.heap[b]? = some (.cells (cfgC g).toArray t (0, 0)) → Keeps [b] w W → K (a.put o.dst undef) W) : o.wp Tryz.prog a w K Q :=
  wp_store_row 40 x y ho b (cfgC g).toArray hx hy t old hg (by kernel_rfl) (by rw [hs]; rfl) (by simp [cfgC, Value.oneCell']) (h _ (setRow_heap w b old (cfgC g).toArray t (0, 0) hg) ((Keeps.refl [b] w).setRow b _ (.inl (by simp))))
set_option maxHeartbeats 8000000
set_option maxRecDepth 100000
section
variable {w : World} {a p mb n : Nat} {g : Cfg} {on : Bool} {op : EvL} {la : Int} {ap : List Mic} {O : List Nat}
theorem AAt.ptr (hA : AAt w a p mb n g on op la ap O) : w.cell? ⟨a, 0, none⟩ = some (.pointer (some ⟨p, 0, none⟩)) := by simp [World.cell?, hA.cell]
theorem hLast_any (hA : AAt w a p mb n g on op la ap O) : Calls Tryz.prog 15 #[.pointer (some ⟨a, 0, none⟩)] w fun e w' => e = .returned (.int .i64 la) ∧ w' = w := by
  have ca := hA.ptr
  have cl := past_la hA.past.len hA.past.heap
  have hm := made_yes w a p ca
  clear hA
  go_enter Tryz.func15, Tryz.ntmps15
  go_wp2_with fail
  refine hm.mono ?_; rintro e w1 ⟨rfl, hw1⟩
  rw [hw1]
  clear hw1 hm
  go_wp2_with fail
  go_ret
  exact ⟨rfl, rfl⟩
theorem hOpen_any (hA : AAt w a p mb n g on op la ap O) {L : List Ev} (hS : Stands L g on op la ap) : Calls Tryz.prog 21 #[.pointer (some ⟨a, 0, none⟩)] w fun e w' => e = .returned (.int .i64 (hOpenN L)) ∧ w' = w := by
  have ca := hA.ptr
  have hm := made_yes w a p ca
  have HA := Lib.hid hA; have HS := Lib.hid hS
  clear hA hS
  go_enter Tryz.func21, Tryz.ntmps21
  go_wp2_with fail
  refine hm.mono ?_; rintro e w1 ⟨rfl, hw1⟩
  rw [hw1]
  clear hw1 hm
  go_wp2_with fail
  go_loopw [3, 4, 8] (fun z _ i wr => ∃ k : Nat, i = .int .u8 k ∧ k ≤ 16 ∧ z = .int .i64 (((List.range k).filter fun (c : Nat) => (hPend L (c : Int)).isSome).length : Nat) ∧ wr = w) (fun _ _ i _ => 16 - (intOf i).toNat)
  case atStart => exact ⟨0, rfl, by omega, rfl, rfl⟩
  case round =>
    obtain ⟨k, rfl, hk, rfl, rfl⟩ := hrel
    by_cases hlt : k < 16
    · have hl : k < op.length := by rw [HA.out.past.len]; exact hlt
      have HB := Lib.hid (busy_cell wr p k (op[k]).1.k hlt (past_kind HA.out.past.heap k hl))
      have hkk : decide ((op[k]).1.k ≠ 0) = (hPend L (k : Int)).isSome := by
        rw [HS.out.op k hl]
        have := pend_k (L := L) (c := (k : Int))
        cases h : (hPend L (k : Int)).isSome
        · rw [h] at this; simp at this; simp [this]
        · rw [h] at this; simp at this; simp [this]
      rw [hkk] at HB
      have hi : (k : Int) < 16 := by omega
      have hcnt : ((List.range (k + 1)).filter fun (c : Nat) => (hPend L (c : Int)).isSome).length = ((List.range k).filter fun (c : Nat) => (hPend L (c : Int)).isSome).length + if (hPend L (k : Int)).isSome then 1 else 0 := by
        rw [List.range_succ, List.filter_append, List.length_append]
        congr 1
        simp only [List.filter_cons, List.filter_nil]
        split <;> rfl
      have hle : ((List.range k).filter fun (c : Nat) => (hPend L (c : Int)).isSome).length ≤ k := by
        have := List.length_filter_le (fun (c : Nat) => (hPend L (c : Int)).isSome) (List.range k)
        simpa using this
      have hw8 : IntKind.u8.wrap ((k : Int) + 1) = (k : Int) + 1 := by simp [IntKind.wrap, IntKind.bits, IntKind.signed]; omega
      generalize ((List.range k).filter fun (c : Nat) => (hPend L (c : Int)).isSome).length = M at *
      generalize (hPend L (k : Int)).isSome = Bz at *
      have HC := Lib.hid hcnt
      clear hcnt hkk hl
      go_wp2_with fail
      refine (HB.out).mono ?_; rintro e w1 ⟨rfl, hw1⟩
      rw [hw1]
      clear hw1 HB
      cases Bz with
      | true =>
        go_wp2_with fail
        go_roundw
        case rel => exact ⟨k + 1, by go_num, by omega, by rw [HC.out]; go_num, trivial⟩
        case measure => simp [intOf]; omega
      | false =>
        go_wp2_with fail
        go_roundw
        case rel => exact ⟨k + 1, by go_num, by omega, by rw [HC.out]; rfl, trivial⟩
        case measure => simp [intOf]; omega
    · obtain rfl : k = 16 := by omega
      generalize hM : ((List.range 16).filter fun (c : Nat) => (hPend L (c : Int)).isSome).length = M at *
      have HM := Lib.hid hM
      clear hM
      go_wp2_with fail
      go_ret
      exact ⟨by rw [← HM.out]; rfl, rfl⟩
end
end Go.Proofs.YtlaccndjlfpjbaaGreatDoor
