/-
  A key map's state in memory; the law's whole.
-/
import Derived.Deep.RegionHeld3
import Derived.BigQuiet
import Derived.Test.YtnmpekbkahkapaaKA07
set_option linter.unusedSimpArgs false
set_option linter.unusedVariables false
namespace Go.Proofs.Ytnmpekbkahkapaa
open Go.RowKit
theorem kv_cell {w : World} {b : Nat} {h : Int} {vs : List Int} {t : TypeId} (hg : w.heap[b]? = some (.cells (kvA h vs) t (0, 0))) {k : Nat} (hk : k < 8) : w.cell? ⟨b, 1 + k, none⟩ = some (.int .u16 (vs.getD k 0)) := by
  have := kvA_get h vs hk
  simp only [World.cell?, hg]
  exact this
theorem kv_byte {w : World} {b : Nat} {h : Int} {vs : List Int} {t : TypeId} (hg : w.heap[b]? = some (.cells (kvA h vs) t (0, 0))) : w.cell? ⟨b, 0, none⟩ = some (.int .u8 h) := cell_lit hg 0 rfl
theorem kv_thaw {w : World} {b : Nat} {h : Int} {vs : List Int} {t : TypeId} (hg : w.heap[b]? = some (.cells (kvA h vs) t (0, 0))) (i : Nat) : w.frozen? ⟨b, i, none⟩ = false := by simp [World.frozen?, hg]
theorem kv_put {w : World} {b : Nat} {h : Int} {vs : List Int} {t : TypeId} (hg : w.heap[b]? = some (.cells (kvA h vs) t (0, 0))) (hl : vs.length = 8) {k : Nat} (hk : k < 8) (v : Int) :
    (w.setCell ⟨b, 1 + k, none⟩ (.int .u16 v)).heap[b]? = some (.cells (kvA h (vs.set k v)) t (0, 0)) := by
  rw [heap_setCell_same w b (1 + k) _ t _ hg, kvA_set h hl hk]
theorem kv_puth {w : World} {b : Nat} {h h2 : Int} {vs : List Int} {t : TypeId} (hg : w.heap[b]? = some (.cells (kvA h vs) t (0, 0))) :
    (w.setCell ⟨b, 0, none⟩ (.int .u8 h2)).heap[b]? = some (.cells (kvA h2 vs) t (0, 0)) := by
  rw [heap_setCell_same w b 0 _ t _ hg, kvA_h]
section
variable {ops : Array Oper} {rest : List Oper} {o : Oper} {a : Act} {w : World} {K : Act → World → Prop} {Q : Exit → Act → World → Prop}
theorem wp_loadK {x : Operand} (ho : o.op = .load 25 x) {g : Nat} {h : Int} {vs : List Int} {t : TypeId} (hx : a.eval x = .pointer (some ⟨g, 0, none⟩)) (hg : w.heap[g]? = some (.cells (kvA h vs) t (0, 0)))
    (hK : K (a.put o.dst (.agg (kvA h vs))) w) : o.wp Try.prog a w K Q := wp_load_row 25 x ho g hx t (kvA h vs) (0, 0) _ hg Try.underlying25 rfl (by kernel_rfl) hK
theorem wpList_loadK {dst : Option Tmp} {ty : TypeId} {pos : String} {after : Array Edge} {gd : Option (Nat × Bool)} {x : Operand} {g : Nat} {h : Int} {vs : List Int} {t : TypeId}
    (hw : Region.wanted { dst := dst, op := .load 25 x, type := ty, pos := pos, after := after, guard := gd } (yielded ops a.tmps) = true)
    (hx : a.eval x = .pointer (some ⟨g, 0, none⟩)) (hg : w.heap[g]? = some (.cells (kvA h vs) t (0, 0))) (hK : wpList Try.prog ops Q rest (a.put dst (.agg (kvA h vs))) w) :
    wpList Try.prog ops Q ({ dst := dst, op := .load 25 x, type := ty, pos := pos, after := after, guard := gd } :: rest) a w :=
  wpList_step fun _ hk => by
    rw [if_pos hw]
    exact wp_loadK rfl hx hg (hk _ _ hK)
theorem wp_putK {x y : Operand} (ho : o.op = .store 25 x y) {g : Nat} {h h2 : Int} {vs vs2 : List Int} {t : TypeId}
    (hx : a.eval x = .pointer (some ⟨g, 0, none⟩)) (hy : a.eval y = .agg (kvA h vs)) (hg : w.heap[g]? = some (.cells (kvA h2 vs2) t (0, 0)))
    (hK : ∀ W, W.heap[g]? = some (.cells (kvA h vs) t (0, 0)) → Keeps [g] w W → K (a.put o.dst undef) W) : o.wp Try.prog a w K Q :=
  wp_store_row 25 x y ho g (kvA h vs) hx hy t (kvA h2 vs2) hg (by kernel_rfl) rfl (kvA_one h vs) (hK _ (setRow_heap w g _ _ t (0, 0) hg) ((Keeps.refl [g] w).setRow g _ (.inl (by simp))))
theorem wpList_putK {dst : Option Tmp} {ty : TypeId} {pos : String} {after : Array Edge} {x y : Operand} {g : Nat} {h h2 : Int} {vs vs2 : List Int} {t : TypeId}
    (hx : a.eval x = .pointer (some ⟨g, 0, none⟩)) (hy : a.eval y = .agg (kvA h vs)) (hg : w.heap[g]? = some (.cells (kvA h2 vs2) t (0, 0)))
    (hK : ∀ W, W.heap[g]? = some (.cells (kvA h vs) t (0, 0)) → Keeps [g] w W → wpList Try.prog ops Q rest (a.put dst undef) W) :
    wpList Try.prog ops Q ({ dst := dst, op := .store 25 x y, type := ty, pos := pos, after := after, guard := none } :: rest) a w :=
  wpList_plain rfl fun _ hk => wp_putK rfl hx hy hg fun W h3 h4 => hk _ _ (hK W h3 h4)
end
theorem results_kv {fn : Func} {p : Tmp} (h : fn.results = #[.cell p 25]) (tmps : Array Value) (w : World) (b : Nat) {x : Int} {vs : List Int} {t : TypeId}
    (hp : tmps.getD p undef = .pointer (some ⟨b, 0, none⟩)) (hb : w.heap[b]? = some (.cells (kvA x vs) t (0, 0))) : (results fn tmps).run Try.prog w = .ok (.agg (kvA x vs)) w :=
  results_cell_row h tmps w b t (kvA x vs) (0, 0) _ hp hb Try.underlying25 rfl (by kernel_rfl)
set_option maxHeartbeats 8000000
set_option maxRecDepth 100000
theorem whole11_any (w : World) {h : Nat} {vs : List Int} (hr : RawIn h vs) : Calls Try.prog 11 #[.agg (kvA h vs)] w fun e w' => e = .returned (kvVal (kvOf h vs)) ∧ Keeps [] w w' := by
  have hk0 : Keeps [] w ((w.alloc (.cells (kvA h vs) 25)).alloc (.cells (kvA 0 []) 25)) := ((Keeps.refl _ _).alloc _).alloc _
  have h0 : ((w.alloc (.cells (kvA h vs) 25)).alloc (.cells (kvA 0 []) 25)).heap[w.heap.size]? = some (.cells (kvA h vs) 25 (0, 0)) := ((Keeps.refl [] _).alloc _).heap (heap_alloc_new w _) (by simp)
  have h1 := heap_alloc_new (w.alloc (.cells (kvA h vs) 25)) (.cells (kvA 0 []) 25)
  have hz1 : (w.alloc (.cells (kvA h vs) 25)).heap.size = w.heap.size + 1 := Array.size_push _
  rw [hz1] at h1
  obtain ⟨R, hR⟩ : ∃ R, R = w.heap.size := ⟨_, rfl⟩
  rw [← hR] at h0 h1
  have HR := Lib.hid hr; have HK0 := Lib.hid hk0; have H0 := Lib.hid h0; have H1 := Lib.hid h1; have HRE := Lib.hid hR
  obtain ⟨us, hus⟩ : ∃ us, us = kvV (kvOf h vs) := ⟨_, rfl⟩
  have HU := Lib.hid hus
  have HLU := Lib.hid (show us.length = 8 ∧ us.length = vs.length from by rw [hus, kvV_len, kvOf_len, hr.len]; exact ⟨rfl, rfl⟩)
  have HKH := Lib.hid (show (kvH (kvOf h vs) : Int) = h from by rw [kvOf_H h vs (by rw [hr.len]; exact hr.h1)])
  clear hr hk0 h0 h1 hz1 hR hus
  go_enter Try.func11, Try.ntmps11
  go_wp2_with fail
  rw [← HRE.out]
  go_loopw [3] (fun i wr => ∃ k : Nat, i = .int .i64 k ∧ k ≤ 8 ∧ wr.heap[R]? = some (.cells (kvA h (us.take k ++ vs.drop k)) 25 (0, 0)) ∧ wr.heap[R + 1]? = some (.cells (kvA 0 []) 25 (0, 0)) ∧ Keeps [] w wr) (fun i _ => 8 - (intOf i).toNat)
  case atStart => exact ⟨0, rfl, by omega, H0.out, H1.out, HK0.out⟩
  case round =>
    obtain ⟨k, rfl, hk, hb0, hb1, hkw⟩ := hrel
    by_cases hlt : k < 8
    · have c0 := kv_byte hb0
      have hb := bit_eq h k
      have hval : us.getD k 0 = if h / 2 ^ k % 2 = 1 then vs.getD k 0 else 0 := by rw [HU.out]; exact kvOf_val HR.out.len hlt
      have hku : k < us.length := by rw [HLU.out.1]; exact hlt
      have hll : (us.take k ++ vs.drop k).length = 8 := by have := HLU.out; simp; omega
      rcases Nat.mod_two_eq_zero_or_one (h / 2 ^ k) with h01 | h01
      · have e0 : (((h : Int) / 2 ^ k).tmod 2 == 0) = true := by rw [hb, h01]; rfl
        rw [h01, if_neg (by decide)] at hval
        have cb := kv_cell hb0 hlt
        have cf := kv_thaw hb0 (1 + k)
        have HP := Lib.hid (show (wr.setCell ⟨R, 1 + k, none⟩ (.int .u16 0)).heap[R]? = some (.cells (kvA h (us.take (k + 1) ++ vs.drop (k + 1))) 25 (0, 0)) from by
          rw [kv_put hb0 hll hlt 0, take_drop_set HLU.out.2 hku hval])
        have hks : Keeps [R] wr (wr.setCell ⟨R, 1 + k, none⟩ (.int .u16 0)) := (Keeps.refl [R] wr).setCell _ _ (.inl (by simp))
        have HP1 := Lib.hid (hks.heap hb1 (by simp))
        have HKS := Lib.hid (hkw.trans hks (fun q hq => .inr (by simp at hq; have := HRE.out; omega)))
        clear hb hval hku hll h01 hb0 hb1 hks hkw
        go_wp2_with fail
        go_roundw
        case rel => exact ⟨k + 1, by go_num, by omega, HP.out, HP1.out, HKS.out⟩
        case measure => simp [intOf]; omega
      · have e0 : (((h : Int) / 2 ^ k).tmod 2 == 0) = false := by rw [hb, h01]; rfl
        rw [h01, if_pos rfl] at hval
        have HP := Lib.hid (show wr.heap[R]? = some (.cells (kvA h (us.take (k + 1) ++ vs.drop (k + 1))) 25 (0, 0)) from by rw [hb0, take_drop_same HLU.out.2 hku hval])
        have HP1 := Lib.hid hb1
        have HKS := Lib.hid hkw
        clear hb hval hku hll h01 hb0 hb1 hkw
        go_wp2_with fail
        go_roundw
        case rel => exact ⟨k + 1, by go_num, by omega, HP.out, HP1.out, HKS.out⟩
        case measure => simp [intOf]; omega
    · obtain rfl : k = 8 := by omega
      have hall : us.take 8 ++ vs.drop 8 = us := by
        have := HLU.out
        rw [List.take_of_length_le (by omega), List.drop_eq_nil_of_le (by omega), List.append_nil]
      rw [hall] at hb0
      have HB0 := Lib.hid hb0; have HB1 := Lib.hid hb1; have HKW := Lib.hid hkw
      clear hb0 hb1 hkw hall
      go_wp2_with (first
        | ((with_reducible refine wpList_loadK (g := R) rfl ?_ HB0.out ?_); exact rfl)
        | ((with_reducible refine wpList_putK (g := R + 1) (h := h) (vs := us) ?_ ?_ HB1.out ?_); exact rfl; exact rfl))
      intro W hW hk
      have HW := Lib.hid hW; have HK := Lib.hid hk
      clear hW hk
      go_wp2_with fail
      try simp only [Exit.inBlock, Exit.then]
      exact bodyPost_ret (results_kv rfl _ _ (R + 1) rfl HW.out) rfl ⟨by unfold kvVal; rw [← HU.out, HKH.out], HKW.out.trans HK.out (fun q hq => .inr (by simp at hq; have := HRE.out; omega))⟩
end Go.Proofs.Ytnmpekbkahkapaa
