/-
  The program's guess and Parse.
-/
import Derived.LoopTactic
import Derived.Laws.ResultCell
import Derived.Test.YtffldnjjijckcaaGreatDoorR19
import Derived.Test.YtffldnjjijckcaaGreatDoorR01
set_option linter.unusedSimpArgs false
set_option linter.unusedVariables false
namespace Go.Proofs.YtffldnjjijckcaaGreatDoor
open Go.RowKit
theorem Cut_any (w : World) (hG : Glob w) (s : ByteArray) (hs : s.size ≤ 1000000) :
    Calls Tryz.prog 42 #[.string s, .string ⟨#[32]⟩] w fun e w' => e = .returned (.tuple #[.string (bs (Lib.cut s.data.toList [32]).1), .string (bs (Lib.cut s.data.toList [32]).2.1), .bool (Lib.cut s.data.toList [32]).2.2]) ∧ Keeps [] w w' := by
  obtain ⟨m, hm⟩ := hG.ml
  refine (Tryz.strings_Cut s ⟨#[32]⟩ m w (by omega) hm).mono ?_
  rintro e w' ⟨rfl, n, rfl⟩
  exact ⟨rfl, (Keeps.refl _ _).drewN n⟩
theorem ParseUint_any (w : World) (hG : Glob w) (s : ByteArray) (hs : s.size ≤ 1000000) :
    Calls Tryz.prog 157 #[.string s, .int .i64 10, .int .i64 16] w fun e w' => (∃ x, e = .returned (.tuple #[.int .u64 (puOf s.data.toList), x])) ∧ Keeps [] w w' := by
  cases h : Lib.parseUintB 16 s.data.toList with
  | ok u =>
    refine (Tryz.strconv_ParseUint_10_at16_ok s (by omega) u h w).mono ?_
    rintro e w' ⟨rfl, hw⟩
    refine ⟨⟨_, by rw [puOf_ok h]⟩, ?_⟩
    rcases hw with rfl | rfl
    · exact Keeps.refl _ _
    · exact Keeps.ofBelow (Lib.bytesWorld_below _ _ _)
  | range =>
    obtain ⟨tp, p, hv⟩ := hG.ran
    refine (Tryz.strconv_ParseUint_10_at16_range_var s (by omega) h tp p w hv).mono ?_
    rintro e w' ⟨N, rfl, _, _, hb⟩
    exact ⟨⟨_, by simp only [puOf, h]; rfl⟩, Keeps.ofBelow hb⟩
  | _ =>
    obtain ⟨tp, p, hv⟩ := hG.syn
    have hc : Calls Tryz.prog 157 #[.string s, .int .i64 10, .int .i64 16] w fun e w' => (∃ x, e = .returned (.tuple #[.int .u64 0, x])) ∧ Below w.heap.size w w' :=
      (Any.strconv_ParseUint_10_at16_syntax_var Tryz.laysPu14 s (by omega) h tp p w hv).mono fun e w' ⟨N, he, _, _, hb⟩ => ⟨⟨_, he⟩, hb⟩
    refine hc.mono ?_
    rintro e w' ⟨⟨x, rfl⟩, hb⟩
    exact ⟨⟨x, by simp only [puOf, h]⟩, Keeps.ofBelow hb⟩
/-- A function that hands back an answer; an answer and an error. -/
theorem results_row {fn : Func} {p : Tmp} (h : fn.results = #[.cell p 26]) (tmps : Array Value) (w : World) (b : Nat) {x y : Value} {t : TypeId}
    (hp : tmps.getD p undef = .pointer (some ⟨b, 0, none⟩)) (hb : w.heap[b]? = some (.cells #[x, y] t (0, 0))) : (results fn tmps).run Tryz.prog w = .ok (.agg #[x, y]) w :=
  results_cell_row h tmps w b t _ _ _ hp hb Tryz.underlying26 rfl (by kernel_rfl)
set_option maxRecDepth 100000 in
theorem results_row2 {fn : Func} {p u : Tmp} (h : fn.results = #[.cell p 26, .tmp u]) (tmps : Array Value) (w : World) (b : Nat) {x y : Value} {t : TypeId}
    (hp : tmps.getD p undef = .pointer (some ⟨b, 0, none⟩)) (hb : w.heap[b]? = some (.cells #[x, y] t (0, 0))) : (results fn tmps).run Tryz.prog w = .ok (.tuple #[.agg #[x, y], tmps.getD u undef]) w := by
  have h1 : (loadVar 26 ⟨b, 0, none⟩).run Tryz.prog w = .ok (.agg #[x, y]) w := run_loadVar_row w b t 26 _ _ _ hb Tryz.underlying26 rfl (by kernel_rfl)
  rw [results_cell_tmp h, hp]
  simp [asAddr, h1, Result.andThen]
theorem cut_rest (l sep : List UInt8) : (Lib.cut l sep).2.1.length ≤ l.length := by
  unfold Lib.cut
  split
  · simp
  · simp
def wordsV : Value := .agg #[.string ⟨#[100, 111, 110, 101]⟩, .string ⟨#[118, 97, 108, 117, 101]⟩, .string ⟨#[110, 111, 110, 101]⟩, .string ⟨#[121, 101, 115]⟩, .string ⟨#[110, 111]⟩]
set_option maxRecDepth 100000 in
theorem index_words (w : World) (i : Nat) (hi : i < 5) (v : Value) (hv : wordCells[i]? = some v) : (Instr.index 129 wordsV (.int .i64 i)).run Tryz.prog w = .ok v w := by
  have hu := Tryz.underlying129
  have h5 : i = 0 ∨ i = 1 ∨ i = 2 ∨ i = 3 ∨ i = 4 := by omega
  rcases h5 with rfl | rfl | rfl | rfl | rfl
  all_goals
    simp [wordCells] at hv
    subst hv
    simp [Instr.index, wordsV, run_underlying hu, asIntOf, go_sem]
set_option maxHeartbeats 1000000 in
set_option maxRecDepth 100000 in
theorem rsGuess_any (w : World) (hG : Glob w) (s : ByteArray) (hs : s.size ≤ 1000000) :
    Calls Tryz.prog 122 #[.string s] w fun e w' => e = .returned (.agg #[.int .u8 (gsK s.data.toList), .int .u16 (gsV s.data.toList)]) ∧ Keeps [] w w' := by
  have hcut := fun w hG => Cut_any w hG s hs
  generalize hK : gsK s.data.toList = K at *
  generalize hV : gsV s.data.toList = V at *
  unfold gsK at hK
  unfold gsV at hV
  have HK := Lib.hid hK; have HV := Lib.hid hV; clear hK hV
  generalize hW : (Lib.cut s.data.toList [32]).1 = W at *
  generalize hD : (Lib.cut s.data.toList [32]).2.1 = D at *
  generalize (Lib.cut s.data.toList [32]).2.2 = B at *
  have hDs : (bs D).size ≤ 1000000 := by
    rw [← hD, bs_size]
    have := cut_rest s.data.toList [32]
    have h2 : s.data.toList.length = s.size := by simp
    omega
  have hp := fun w hG => ParseUint_any w hG (bs D) hDs
  rw [bs_list] at hp
  have HD := Lib.hid hD; have HW := Lib.hid hW; clear hD hW
  have hn := puOf_bounds D
  generalize puOf D = N at *
  obtain ⟨hn0, hn1⟩ := hn
  go_enter Tryz.func122, Tryz.ntmps122
  go_wp2_with fail
  refine (hcut _ (hG.new ((Keeps.refl _ _).alloc _))).mono ?_; rintro e w1 ⟨rfl, hk1⟩
  have hb := boxed2 hk1
  replace hk1 := ((Keeps.refl [] w).alloc _).trans hk1 (FSub.refl _ _)
  have hG1 := hG.new hk1
  have q0 := hG1.word 0 (.string ⟨#[100, 111, 110, 101]⟩) rfl
  have q1 := hG1.word 1 (.string ⟨#[118, 97, 108, 117, 101]⟩) rfl
  have q2 := hG1.word 2 (.string ⟨#[110, 111, 110, 101]⟩) rfl
  have q3 := hG1.word 3 (.string ⟨#[121, 101, 115]⟩) rfl
  have q4 := hG1.word 4 (.string ⟨#[110, 111]⟩) rfl
  go_wp2_with fail
  go_loop [17] (fun i => ∃ k : Nat, k ≤ 5 ∧ i = .int .i64 k ∧ ∀ j, j < k → W ≠ rsWord j) (fun i => 5 - (intOf i).toNat)
  case atStart => exact ⟨0, by omega, rfl, fun j hj => by omega⟩
  case round =>
    obtain ⟨k, hk, rfl, hne⟩ := hrel
    have hk5 : k = 0 ∨ k = 1 ∨ k = 2 ∨ k = 3 ∨ k = 4 ∨ k = 5 := by omega
    have HNE := Lib.hid hne; clear hne
    rcases hk5 with rfl | rfl | rfl | rfl | rfl | rfl
    · have hx : (Instr.index 129 (.agg #[.string ⟨#[100, 111, 110, 101]⟩, .string ⟨#[118, 97, 108, 117, 101]⟩, .string ⟨#[110, 111, 110, 101]⟩, .string ⟨#[121, 101, 115]⟩, .string ⟨#[110, 111]⟩]) (.int .i64 0)).run Tryz.prog w1 = .ok (.string ⟨#[100, 111, 110, 101]⟩) w1 := index_words w1 0 (by omega) _ rfl
      by_cases hW0 : W = rsWord 0
      · have ht : ([100, 111, 110, 101] == (bs W).toList) = true := by rw [toL_bs, hW0]; decide
        have hKV : K = 0 ∧ V = N := by rw [← HK.out, ← HV.out, hW0]; exact ⟨by decide, rfl⟩
        obtain ⟨rfl, rfl⟩ := hKV
        clear hW0 HK HV HNE HW
        generalize bs W = SW at *
        go_wp2_with fail
        refine (hp w1 hG1).mono ?_; rintro e w2 ⟨⟨x, rfl⟩, hk2⟩
        have hb2 := hk2.heap hb (by simp)
        obtain ⟨c0, c1, hlt⟩ := cell2 hb2
        have f0 : w2.frozen? ⟨w.heap.size, 0, none⟩ = false := by simp [World.frozen?, hb2]
        have f1 : w2.frozen? ⟨w.heap.size, 1, none⟩ = false := by simp [World.frozen?, hb2]
        have hr := put2 hb2 (.int .u8 0) (.int .u16 V)
        clear hb2
        go_wp2_with fail
        try simp only [Exit.inBlock, Exit.then]
        exact bodyPost_ret (results_row rfl _ _ _ rfl hr) rfl ⟨rfl, (((hk1.trans hk2 (FSub.refl _ _)).setCell _ _ (.inr (Nat.le_refl _))).setCell _ _ (.inr (Nat.le_refl _)))⟩
      · have ht : ([100, 111, 110, 101] == (bs W).toList) = false := by rw [toL_bs]; exact beq_eq_false_iff_ne.2 (fun h => hW0 h.symm)
        go_wp2_with fail
        go_round
        case rel => exact ⟨1, by omega, rfl, fun j hj => by rcases (by omega : j < 0 ∨ j = 0) with h | rfl; exact HNE.out j h; exact hW0⟩
        case measure => simp [intOf]
    · have hx : (Instr.index 129 (.agg #[.string ⟨#[100, 111, 110, 101]⟩, .string ⟨#[118, 97, 108, 117, 101]⟩, .string ⟨#[110, 111, 110, 101]⟩, .string ⟨#[121, 101, 115]⟩, .string ⟨#[110, 111]⟩]) (.int .i64 1)).run Tryz.prog w1 = .ok (.string ⟨#[118, 97, 108, 117, 101]⟩) w1 := index_words w1 1 (by omega) _ rfl
      by_cases hW0 : W = rsWord 1
      · have ht : ([118, 97, 108, 117, 101] == (bs W).toList) = true := by rw [toL_bs, hW0]; decide
        have hKV : K = 1 ∧ V = N := by rw [← HK.out, ← HV.out, hW0]; exact ⟨by decide, rfl⟩
        obtain ⟨rfl, rfl⟩ := hKV
        clear hW0 HK HV HNE HW
        generalize bs W = SW at *
        go_wp2_with fail
        refine (hp w1 hG1).mono ?_; rintro e w2 ⟨⟨x, rfl⟩, hk2⟩
        have hb2 := hk2.heap hb (by simp)
        obtain ⟨c0, c1, hlt⟩ := cell2 hb2
        have f0 : w2.frozen? ⟨w.heap.size, 0, none⟩ = false := by simp [World.frozen?, hb2]
        have f1 : w2.frozen? ⟨w.heap.size, 1, none⟩ = false := by simp [World.frozen?, hb2]
        have hr := put2 hb2 (.int .u8 1) (.int .u16 V)
        clear hb2
        go_wp2_with fail
        try simp only [Exit.inBlock, Exit.then]
        exact bodyPost_ret (results_row rfl _ _ _ rfl hr) rfl ⟨rfl, (((hk1.trans hk2 (FSub.refl _ _)).setCell _ _ (.inr (Nat.le_refl _))).setCell _ _ (.inr (Nat.le_refl _)))⟩
      · have ht : ([118, 97, 108, 117, 101] == (bs W).toList) = false := by rw [toL_bs]; exact beq_eq_false_iff_ne.2 (fun h => hW0 h.symm)
        go_wp2_with fail
        go_round
        case rel => exact ⟨2, by omega, rfl, fun j hj => by rcases (by omega : j < 1 ∨ j = 1) with h | rfl; exact HNE.out j h; exact hW0⟩
        case measure => simp [intOf]
    · have hx : (Instr.index 129 (.agg #[.string ⟨#[100, 111, 110, 101]⟩, .string ⟨#[118, 97, 108, 117, 101]⟩, .string ⟨#[110, 111, 110, 101]⟩, .string ⟨#[121, 101, 115]⟩, .string ⟨#[110, 111]⟩]) (.int .i64 2)).run Tryz.prog w1 = .ok (.string ⟨#[110, 111, 110, 101]⟩) w1 := index_words w1 2 (by omega) _ rfl
      by_cases hW0 : W = rsWord 2
      · have ht : ([110, 111, 110, 101] == (bs W).toList) = true := by rw [toL_bs, hW0]; decide
        have hKV : K = 2 ∧ V = N := by rw [← HK.out, ← HV.out, hW0]; exact ⟨by decide, rfl⟩
        obtain ⟨rfl, rfl⟩ := hKV
        clear hW0 HK HV HNE HW
        generalize bs W = SW at *
        go_wp2_with fail
        refine (hp w1 hG1).mono ?_; rintro e w2 ⟨⟨x, rfl⟩, hk2⟩
        have hb2 := hk2.heap hb (by simp)
        obtain ⟨c0, c1, hlt⟩ := cell2 hb2
        have f0 : w2.frozen? ⟨w.heap.size, 0, none⟩ = false := by simp [World.frozen?, hb2]
        have f1 : w2.frozen? ⟨w.heap.size, 1, none⟩ = false := by simp [World.frozen?, hb2]
        have hr := put2 hb2 (.int .u8 2) (.int .u16 V)
        clear hb2
        go_wp2_with fail
        try simp only [Exit.inBlock, Exit.then]
        exact bodyPost_ret (results_row rfl _ _ _ rfl hr) rfl ⟨rfl, (((hk1.trans hk2 (FSub.refl _ _)).setCell _ _ (.inr (Nat.le_refl _))).setCell _ _ (.inr (Nat.le_refl _)))⟩
      · have ht : ([110, 111, 110, 101] == (bs W).toList) = false := by rw [toL_bs]; exact beq_eq_false_iff_ne.2 (fun h => hW0 h.symm)
        go_wp2_with fail
        go_round
        case rel => exact ⟨3, by omega, rfl, fun j hj => by rcases (by omega : j < 2 ∨ j = 2) with h | rfl; exact HNE.out j h; exact hW0⟩
        case measure => simp [intOf]
    · have hx : (Instr.index 129 (.agg #[.string ⟨#[100, 111, 110, 101]⟩, .string ⟨#[118, 97, 108, 117, 101]⟩, .string ⟨#[110, 111, 110, 101]⟩, .string ⟨#[121, 101, 115]⟩, .string ⟨#[110, 111]⟩]) (.int .i64 3)).run Tryz.prog w1 = .ok (.string ⟨#[121, 101, 115]⟩) w1 := index_words w1 3 (by omega) _ rfl
      by_cases hW0 : W = rsWord 3
      · have ht : ([121, 101, 115] == (bs W).toList) = true := by rw [toL_bs, hW0]; decide
        have hKV : K = 3 ∧ V = N := by rw [← HK.out, ← HV.out, hW0]; exact ⟨by decide, rfl⟩
        obtain ⟨rfl, rfl⟩ := hKV
        clear hW0 HK HV HNE HW
        generalize bs W = SW at *
        go_wp2_with fail
        refine (hp w1 hG1).mono ?_; rintro e w2 ⟨⟨x, rfl⟩, hk2⟩
        have hb2 := hk2.heap hb (by simp)
        obtain ⟨c0, c1, hlt⟩ := cell2 hb2
        have f0 : w2.frozen? ⟨w.heap.size, 0, none⟩ = false := by simp [World.frozen?, hb2]
        have f1 : w2.frozen? ⟨w.heap.size, 1, none⟩ = false := by simp [World.frozen?, hb2]
        have hr := put2 hb2 (.int .u8 3) (.int .u16 V)
        clear hb2
        go_wp2_with fail
        try simp only [Exit.inBlock, Exit.then]
        exact bodyPost_ret (results_row rfl _ _ _ rfl hr) rfl ⟨rfl, (((hk1.trans hk2 (FSub.refl _ _)).setCell _ _ (.inr (Nat.le_refl _))).setCell _ _ (.inr (Nat.le_refl _)))⟩
      · have ht : ([121, 101, 115] == (bs W).toList) = false := by rw [toL_bs]; exact beq_eq_false_iff_ne.2 (fun h => hW0 h.symm)
        go_wp2_with fail
        go_round
        case rel => exact ⟨4, by omega, rfl, fun j hj => by rcases (by omega : j < 3 ∨ j = 3) with h | rfl; exact HNE.out j h; exact hW0⟩
        case measure => simp [intOf]
    · have hx : (Instr.index 129 (.agg #[.string ⟨#[100, 111, 110, 101]⟩, .string ⟨#[118, 97, 108, 117, 101]⟩, .string ⟨#[110, 111, 110, 101]⟩, .string ⟨#[121, 101, 115]⟩, .string ⟨#[110, 111]⟩]) (.int .i64 4)).run Tryz.prog w1 = .ok (.string ⟨#[110, 111]⟩) w1 := index_words w1 4 (by omega) _ rfl
      by_cases hW0 : W = rsWord 4
      · have ht : ([110, 111] == (bs W).toList) = true := by rw [toL_bs, hW0]; decide
        have hKV : K = 4 ∧ V = N := by rw [← HK.out, ← HV.out, hW0]; exact ⟨by decide, rfl⟩
        obtain ⟨rfl, rfl⟩ := hKV
        clear hW0 HK HV HNE HW
        generalize bs W = SW at *
        go_wp2_with fail
        refine (hp w1 hG1).mono ?_; rintro e w2 ⟨⟨x, rfl⟩, hk2⟩
        have hb2 := hk2.heap hb (by simp)
        obtain ⟨c0, c1, hlt⟩ := cell2 hb2
        have f0 : w2.frozen? ⟨w.heap.size, 0, none⟩ = false := by simp [World.frozen?, hb2]
        have f1 : w2.frozen? ⟨w.heap.size, 1, none⟩ = false := by simp [World.frozen?, hb2]
        have hr := put2 hb2 (.int .u8 4) (.int .u16 V)
        clear hb2
        go_wp2_with fail
        try simp only [Exit.inBlock, Exit.then]
        exact bodyPost_ret (results_row rfl _ _ _ rfl hr) rfl ⟨rfl, (((hk1.trans hk2 (FSub.refl _ _)).setCell _ _ (.inr (Nat.le_refl _))).setCell _ _ (.inr (Nat.le_refl _)))⟩
      · have ht : ([110, 111] == (bs W).toList) = false := by rw [toL_bs]; exact beq_eq_false_iff_ne.2 (fun h => hW0 h.symm)
        go_wp2_with fail
        go_round
        case rel => exact ⟨5, by omega, rfl, fun j hj => by rcases (by omega : j < 4 ∨ j = 4) with h | rfl; exact HNE.out j h; exact hW0⟩
        case measure => simp [intOf]
    · have hKV : K = 0 ∧ V = 0 := by
        have h := HNE.out
        have g0 : W ≠ rsWord 0 := h 0 (by omega)
        have g1 : W ≠ rsWord 1 := h 1 (by omega)
        have g2 : W ≠ rsWord 2 := h 2 (by omega)
        have g3 : W ≠ rsWord 3 := h 3 (by omega)
        have g4 : W ≠ rsWord 4 := h 4 (by omega)
        have e1 := HK.out; have e2 := HV.out
        rw [if_neg g0, if_neg g1, if_neg g2, if_neg g3, if_neg g4] at e1
        rw [if_neg (by rintro (g | g | g | g | g); exact g0 g; exact g1 g; exact g2 g; exact g3 g; exact g4 g)] at e2
        exact ⟨e1.symm, e2.symm⟩
      obtain ⟨rfl, rfl⟩ := hKV
      obtain ⟨c0, c1, hlt⟩ := cell2 hb
      have f0 : w1.frozen? ⟨w.heap.size, 0, none⟩ = false := by simp [World.frozen?, hb]
      have f1 : w1.frozen? ⟨w.heap.size, 1, none⟩ = false := by simp [World.frozen?, hb]
      have hr := put2 hb (.int .u8 0) (.int .u16 0)
      clear hb HK HV HNE
      go_wp2_with fail
      try simp only [Exit.inBlock, Exit.then]
      exact bodyPost_ret (results_row rfl _ _ _ rfl hr) rfl ⟨rfl, ((hk1.setCell _ _ (.inr (Nat.le_refl _))).setCell _ _ (.inr (Nat.le_refl _)))⟩
end Go.Proofs.YtffldnjjijckcaaGreatDoor
/-
  The program's Parse.
-/
namespace Go.Proofs.YtffldnjjijckcaaGreatDoor
open Go.RowKit
set_option maxHeartbeats 1000000 in
theorem parse_yes (w : World) (hG : Glob w) (s SX : ByteArray) (K V : Int) (k0 : 0 ≤ K) (k1 : K ≤ 4) (v0 : 0 ≤ V) (v1 : V ≤ 65535)
    (hg : ∀ w, Glob w → Calls Tryz.prog 122 #[.string s] w fun e w' => e = .returned (.agg #[.int .u8 K, .int .u16 V]) ∧ Keeps [] w w')
    (ht : ∀ w, Glob w → Calls Tryz.prog 81 #[.agg #[.int .u8 K, .int .u16 V]] w fun e w' => e = .returned (.tuple #[.string SX, .int .i64 0]) ∧ Keeps [] w w')
    (t1 : (SX.toList == s.toList) = true) (t2 : (SX.toList != s.toList) = false) :
    Calls Tryz.prog 82 #[.string s] w fun e w' => e = .returned (.tuple #[.agg #[.int .u8 K, .int .u16 V], .int .i64 0]) ∧ Keeps [] w w' := by
  go_enter Tryz.func82, Tryz.ntmps82
  go_wp2_with fail
  refine (hg _ (hG.new ((Keeps.refl _ _).alloc _))).mono ?_; rintro e w1 ⟨rfl, hk1⟩
  have hb := boxed2 hk1
  replace hk1 := ((Keeps.refl [] w).alloc _).trans hk1 (FSub.refl _ _)
  have hlt := lt_of_block hb
  have hk1' := hk1.alloc (.cells #[.int .u8 K, .int .u16 V] 26)
  go_wp2_with fail
  refine (ht _ (hG.new hk1')).mono ?_; rintro e w2 ⟨rfl, hk2⟩
  have hb2 := hk2.heap (heap_alloc_lt hb) (by simp)
  have hd2 := boxed2 hk2
  replace hk2 := hk1'.trans hk2 (FSub.refl _ _)
  obtain ⟨c0, c1, hlt2⟩ := cell2 hb2
  obtain ⟨d0, d1, hlt3⟩ := cell2 hd2
  have f0 : w2.frozen? ⟨w.heap.size, 0, none⟩ = false := by simp [World.frozen?, hb2]
  have f1 : w2.frozen? ⟨w.heap.size, 1, none⟩ = false := by simp [World.frozen?, hb2]
  have hr := put2 hb2 (.int .u8 K) (.int .u16 V)
  clear hb hk1 hk1' hb2 hd2
  go_wp2_with fail
  try simp only [Exit.inBlock, Exit.then]
  exact bodyPost_ret (results_row2 rfl _ _ _ rfl hr) rfl ⟨rfl, ((hk2.setCell _ _ (.inr (Nat.le_refl _))).setCell _ _ (.inr (Nat.le_refl _)))⟩
set_option maxHeartbeats 1000000 in
theorem parse_other (w : World) (hG : Glob w) (s SX : ByteArray) (K V : Int) (k0 : 0 ≤ K) (k1 : K ≤ 4) (v0 : 0 ≤ V) (v1 : V ≤ 65535)
    (hg : ∀ w, Glob w → Calls Tryz.prog 122 #[.string s] w fun e w' => e = .returned (.agg #[.int .u8 K, .int .u16 V]) ∧ Keeps [] w w')
    (ht : ∀ w, Glob w → Calls Tryz.prog 81 #[.agg #[.int .u8 K, .int .u16 V]] w fun e w' => e = .returned (.tuple #[.string SX, .int .i64 0]) ∧ Keeps [] w w')
    (t1 : (SX.toList == s.toList) = false) (t2 : (SX.toList != s.toList) = true) :
    Calls Tryz.prog 82 #[.string s] w fun e w' => e = .returned (.tuple #[.agg #[.int .u8 0, .int .u16 0], .int .i64 4]) ∧ Keeps [] w w' := by
  go_enter Tryz.func82, Tryz.ntmps82
  go_wp2_with fail
  refine (hg _ (hG.new ((Keeps.refl _ _).alloc _))).mono ?_; rintro e w1 ⟨rfl, hk1⟩
  have hb := boxed2 hk1
  replace hk1 := ((Keeps.refl [] w).alloc _).trans hk1 (FSub.refl _ _)
  have hlt := lt_of_block hb
  have hk1' := hk1.alloc (.cells #[.int .u8 K, .int .u16 V] 26)
  go_wp2_with fail
  refine (ht _ (hG.new hk1')).mono ?_; rintro e w2 ⟨rfl, hk2⟩
  have hb2 := hk2.heap (heap_alloc_lt hb) (by simp)
  have hd2 := boxed2 hk2
  replace hk2 := hk1'.trans hk2 (FSub.refl _ _)
  obtain ⟨c0, c1, hlt2⟩ := cell2 hb2
  obtain ⟨d0, d1, hlt3⟩ := cell2 hd2
  have f0 : w2.frozen? ⟨w.heap.size, 0, none⟩ = false := by simp [World.frozen?, hb2]
  have f1 : w2.frozen? ⟨w.heap.size, 1, none⟩ = false := by simp [World.frozen?, hb2]
  have hr := put2 hb2 (.int .u8 0) (.int .u16 0)
  clear hb hk1 hk1' hb2 hd2
  go_wp2_with fail
  try simp only [Exit.inBlock, Exit.then]
  exact bodyPost_ret (results_row2 rfl _ _ _ rfl hr) rfl ⟨rfl, ((hk2.setCell _ _ (.inr (Nat.le_refl _))).setCell _ _ (.inr (Nat.le_refl _)))⟩
set_option maxHeartbeats 1000000 in
theorem parse_bad (w : World) (hG : Glob w) (s SX : ByteArray) (K V : Int) (k0 : 0 ≤ K) (k1 : K ≤ 4) (v0 : 0 ≤ V) (v1 : V ≤ 65535)
    (hg : ∀ w, Glob w → Calls Tryz.prog 122 #[.string s] w fun e w' => e = .returned (.agg #[.int .u8 K, .int .u16 V]) ∧ Keeps [] w w')
    (ht : ∀ w, Glob w → Calls Tryz.prog 81 #[.agg #[.int .u8 K, .int .u16 V]] w fun e w' => e = .returned (.tuple #[.string SX, .int .i64 4]) ∧ Keeps [] w w') :
    Calls Tryz.prog 82 #[.string s] w fun e w' => e = .returned (.tuple #[.agg #[.int .u8 0, .int .u16 0], .int .i64 4]) ∧ Keeps [] w w' := by
  go_enter Tryz.func82, Tryz.ntmps82
  go_wp2_with fail
  refine (hg _ (hG.new ((Keeps.refl _ _).alloc _))).mono ?_; rintro e w1 ⟨rfl, hk1⟩
  have hb := boxed2 hk1
  replace hk1 := ((Keeps.refl [] w).alloc _).trans hk1 (FSub.refl _ _)
  have hlt := lt_of_block hb
  have hk1' := hk1.alloc (.cells #[.int .u8 K, .int .u16 V] 26)
  go_wp2_with fail
  refine (ht _ (hG.new hk1')).mono ?_; rintro e w2 ⟨rfl, hk2⟩
  have hb2 := hk2.heap (heap_alloc_lt hb) (by simp)
  have hd2 := boxed2 hk2
  replace hk2 := hk1'.trans hk2 (FSub.refl _ _)
  obtain ⟨c0, c1, hlt2⟩ := cell2 hb2
  obtain ⟨d0, d1, hlt3⟩ := cell2 hd2
  have f0 : w2.frozen? ⟨w.heap.size, 0, none⟩ = false := by simp [World.frozen?, hb2]
  have f1 : w2.frozen? ⟨w.heap.size, 1, none⟩ = false := by simp [World.frozen?, hb2]
  have hr := put2 hb2 (.int .u8 0) (.int .u16 0)
  clear hb hk1 hk1' hb2 hd2
  go_wp2_with fail
  try simp only [Exit.inBlock, Exit.then]
  exact bodyPost_ret (results_row2 rfl _ _ _ rfl hr) rfl ⟨rfl, ((hk2.setCell _ _ (.inr (Nat.le_refl _))).setCell _ _ (.inr (Nat.le_refl _)))⟩
theorem Parse_any (w : World) (hG : Glob w) (s : ByteArray) (hs : s.size ≤ 1000000) :
    Calls Tryz.prog 82 #[.string s] w fun e w' => e = .returned (.tuple #[.agg #[.int .u8 (psK s.data.toList), .int .u16 (psV s.data.toList)], .int .i64 (psE s.data.toList)]) ∧ Keeps [] w w' := by
  have hg := fun w hG => rsGuess_any w hG s hs
  have k0 := gsK_bounds s.data.toList
  have v0 := gsV_bounds s.data.toList
  obtain ⟨k0, k1⟩ := k0
  obtain ⟨v0, v1⟩ := v0
  have ht := fun w hG => Text_any w hG (gsK s.data.toList) (gsV s.data.toList) k0 (by omega) v0 (by omega)
  by_cases hgood : rsGood (gsK s.data.toList) (gsV s.data.toList) = true
  · rw [if_pos hgood, rsErr_good hgood] at ht
    by_cases hx : rsTxt (gsK s.data.toList) (gsV s.data.toList) = s.data.toList
    · have ok : psOk s.data.toList = true := by simp [psOk, hgood, hx]
      have e1 : psK s.data.toList = gsK s.data.toList := by simp [psK, ok]
      have e2 : psV s.data.toList = gsV s.data.toList := by simp [psV, ok]
      have e3 : psE s.data.toList = 0 := by simp [psE, ok]
      rw [e1, e2, e3]
      exact parse_yes w hG s _ _ _ k0 k1 v0 v1 hg ht (by rw [toL_bs, toL_of, hx]; simp) (by rw [toL_bs, toL_of, hx]; simp)
    · have ok : psOk s.data.toList = false := by simp [psOk, hx]
      have e1 : psK s.data.toList = 0 := by simp [psK, ok]
      have e2 : psV s.data.toList = 0 := by simp [psV, ok]
      have e3 : psE s.data.toList = 4 := by simp [psE, ok]
      rw [e1, e2, e3]
      exact parse_other w hG s _ _ _ k0 k1 v0 v1 hg ht (by rw [toL_bs, toL_of]; exact beq_eq_false_iff_ne.2 hx) (by rw [toL_bs, toL_of]; simp [hx])
  · have hb : rsGood (gsK s.data.toList) (gsV s.data.toList) = false := by simpa using hgood
    rw [rsErr_bad hb] at ht
    have ok : psOk s.data.toList = false := by simp [psOk, hb]
    have e1 : psK s.data.toList = 0 := by simp [psK, ok]
    have e2 : psV s.data.toList = 0 := by simp [psV, ok]
    have e3 : psE s.data.toList = 4 := by simp [psE, ok]
    rw [e1, e2, e3]
    exact parse_bad w hG s _ _ _ k0 k1 v0 v1 hg ht
end Go.Proofs.YtffldnjjijckcaaGreatDoor
/-
  The document's Parse.
-/
namespace Go.Proofs.YtffldnjjijckcaaGreatDoor
open Go.RowKit
theorem txt_words {k v : Int} (h0 : 0 ≤ k) (h : rsGood k v = true) : (∃ j : Nat, j < 5 ∧ rsTxt k v = rsTxt j 0) ∨ (k = 1 ∧ rsTxt k v = valueL ++ Lib.decDigits v.toNat) := by
  rcases good_cases h0 h with rfl | ⟨rfl, rfl | rfl | rfl | rfl⟩
  · exact .inr ⟨rfl, rfl⟩
  · exact .inl ⟨0, by omega, rfl⟩
  · exact .inl ⟨2, by omega, rfl⟩
  · exact .inl ⟨3, by omega, rfl⟩
  · exact .inl ⟨4, by omega, rfl⟩
theorem ps_no {l : List UInt8} (hj : ∀ j : Nat, j < 5 → rsTxt j 0 ≠ l) (hv : ∀ v : Nat, v ≤ 65535 → valueL ++ Lib.decDigits v ≠ l) : psK l = 0 ∧ psV l = 0 ∧ psE l = 4 :=
  ps_none fun k v h0 h1 h2 h => by
    rcases txt_words h0 h with ⟨j, hj5, e⟩ | ⟨rfl, e⟩
    · rw [e]; exact hj j hj5
    · rw [e]; exact hv v.toNat (by omega)
theorem good_word (j : Nat) (h : j < 5) : rsGood j 0 = true := by simp [rsGood]; omega
theorem ps_word {l : List UInt8} (j : Nat) (hj : j < 5) (h : rsTxt j 0 = l) : psK l = j ∧ psV l = 0 ∧ psE l = 0 := by
  subst h
  obtain ⟨_, h1, h2, h3⟩ := ps_text (k := j) (v := 0) (by omega) (by omega) (by omega) (good_word j hj)
  exact ⟨h1, h2, h3⟩
theorem ps_value {l : List UInt8} (v : Nat) (hv : v ≤ 65535) (h : valueL ++ Lib.decDigits v = l) : psK l = 1 ∧ psV l = v ∧ psE l = 0 := by
  have e : rsTxt 1 v = l := by rw [← h]; simp [rsTxt]
  subst e
  obtain ⟨_, h1, h2, h3⟩ := ps_text (k := 1) (v := v) (by omega) (by omega) (by omega) (by simp [rsGood])
  exact ⟨h1, h2, h3⟩
theorem spells_ltH : ∀ (l : List UInt8) (acc m : Nat), (∀ c ∈ l, isDig c) → acc < m → spells acc l < m * 10 ^ l.length
  | [], acc, m, _, h => by simpa [spells] using h
  | c :: r, acc, m, hd, h => by
    have hc := hd c (by simp)
    unfold isDig at hc
    have := spells_ltH r (10 * acc + (c.toNat - 48)) (m * 10) (fun d hd' => hd d (by simp [hd'])) (by omega)
    rw [List.length_cons, Nat.pow_succ, Nat.mul_comm (10 ^ r.length) 10, ← Nat.mul_assoc]
    exact this
/-- What of a text is behind 'value ', and is digits. -/
structure Digs (l : List UInt8) (k : Nat) (n : Nat) : Prop where
  low : 6 ≤ k
  high : k ≤ l.length
  digs : ∀ c ∈ (l.drop 6).take (k - 6), isDig c
  num : n = spells 0 ((l.drop 6).take (k - 6))
theorem Digs.lt {l : List UInt8} {k n : Nat} (h : Digs l k n) (hl : l.length ≤ 11) : n < 100000 := by
  have := spells_ltH _ 0 1 h.digs (by omega)
  rw [← h.num] at this
  have h2 : ((l.drop 6).take (k - 6)).length ≤ 5 := by simp; omega
  have h3 : (10 : Nat) ^ ((l.drop 6).take (k - 6)).length ≤ 10 ^ 5 := Nat.pow_le_pow_right (by omega) h2
  omega
theorem Digs.step {l : List UInt8} {k n : Nat} (h : Digs l k n) (hk : k < l.length) (hc : isDig (l.getD k 0)) : Digs l (k + 1) (10 * n + ((l.getD k 0).toNat - 48)) := by
  have h6 := h.low
  have e : (l.drop 6).take (k + 1 - 6) = (l.drop 6).take (k - 6) ++ [l.getD k 0] := by
    have e1 : k + 1 - 6 = (k - 6) + 1 := by omega
    rw [e1, List.take_succ_eq_append_getElem (by simp; omega)]
    have e2 : (l.drop 6)[k - 6]'(by simp; omega) = l.getD k 0 := by
      simp [List.getD, hk]
      congr 1; omega
    rw [e2]
  refine ⟨by omega, by omega, ?_, ?_⟩
  · rw [e]
    intro c hc2
    rcases List.mem_append.1 hc2 with h1 | h1
    · exact h.digs c h1
    · simp only [List.mem_singleton] at h1; subst h1; exact hc
  · rw [e, spells_snoc, h.num]
theorem tail_dec {l : List UInt8} {v : Nat} (h : valueL ++ Lib.decDigits v = l) : l.drop 6 = Lib.decDigits v ∧ l.take 6 = valueL := by subst h; exact ⟨by simp [valueL], by simp [valueL]⟩
theorem Digs.none {l : List UInt8} {k n : Nat} (h : Digs l k n) (hk : k < l.length) (hc : ¬ isDig (l.getD k 0)) (v : Nat) : valueL ++ Lib.decDigits v ≠ l := by
  intro e
  have h6 := h.low
  have hm : l.getD k 0 ∈ l.drop 6 := by
    have e2 : (l.drop 6)[k - 6]'(by simp; omega) = l.getD k 0 := by
      simp [List.getD, hk]
      congr 1; omega
    rw [← e2]; exact List.getElem_mem _
  rw [(tail_dec e).1] at hm
  exact hc (dec_digits v _ hm)
theorem Digs.num_of {l : List UInt8} {n v : Nat} (h : Digs l l.length n) (e : valueL ++ Lib.decDigits v = l) : n = v := by
  rw [h.num, List.take_of_length_le (by simp), (tail_dec e).1, spells_dec]
end Go.Proofs.YtffldnjjijckcaaGreatDoor
/-
  The document's Parse, walked.
-/
namespace Go.Proofs.YtffldnjjijckcaaGreatDoor
open Go.RowKit
theorem too_short {l : List UInt8} (h : l.length < 7) (v : Nat) : valueL ++ Lib.decDigits v ≠ l := by
  intro e
  have h3 := congrArg List.length e
  have h2 := List.length_pos_iff.2 (dec_ne v)
  rw [List.length_append] at h3
  simp [valueL] at h3
  omega
set_option maxHeartbeats 4000000 in
set_option maxRecDepth 100000 in
theorem r3Parse_any (w : World) (s : ByteArray) (hs : s.size ≤ 90000) :
    Calls Tryz.prog 37 #[.string s] w fun e w' => e = .returned (.tuple #[.agg #[.int .u8 (psK s.data.toList), .int .u16 (psV s.data.toList)], .int .i64 (psE s.data.toList)]) ∧ Keeps [] w w' := by
  generalize hl : s.data.toList = l at *
  have hsz : s.size = l.length := by rw [← hl]; simp
  have HL := Lib.hid hl; clear hl
  generalize hpk : psK l = PK at *
  generalize hpv : psV l = PV at *
  generalize hpe : psE l = PE at *
  have HPK := Lib.hid hpk; have HPV := Lib.hid hpv; have HPE := Lib.hid hpe; clear hpk hpv hpe
  go_enter Tryz.func37, Tryz.ntmps37
  go_wp2_with fail
  go_loopw [4] (fun i wr => ∃ k : Nat, k ≤ 5 ∧ i = .int .i64 k ∧ (∀ j : Nat, j < k → rsTxt j 0 ≠ l) ∧ wr.heap[w.heap.size]? = some (.cells #[.int .u8 0, .int .u16 0] 26 (0, 0)) ∧ Keeps [] w wr) (fun i _ => 5 - (intOf i).toNat)
  case atStart => exact ⟨0, by omega, rfl, fun j hj => by omega, heap_alloc_new w _, (Keeps.refl _ _).alloc _⟩
  case round =>
    obtain ⟨k, hk, rfl, hne, hb, hkp⟩ := hrel
    have HNE := Lib.hid hne; clear hne
    have hltb := lt_of_block hb
    by_cases hlt : k < 5
    · have ht := fun w => r3Text_any w k 0 (by omega) (by omega) (by omega) (by omega)
      rw [if_pos (good_word k hlt), rsErr_good (good_word k hlt)] at ht
      have hk' := hkp.alloc (.cells #[.int .u8 k, .int .u16 0] 26)
      by_cases hx : rsTxt k 0 = l
      · obtain ⟨e1, e2, e3⟩ := ps_word k hlt hx
        obtain rfl := HPK.out.symm.trans e1
        obtain rfl := HPV.out.symm.trans e2
        obtain rfl := HPE.out.symm.trans e3
        clear e1 e2 e3 HPK HPV HPE
        have t1 : ((bs (rsTxt k 0)).toList == s.toList) = true := by rw [toL_bs]; exact beq_lit HL.out true (by simp [hx])
        generalize bs (rsTxt k 0) = SX at *
        clear hx
        go_wp2_with fail
        refine (ht _).mono ?_; rintro e w2 ⟨rfl, hk2⟩
        have hb2 := hk2.heap (heap_alloc_lt hb) (by simp)
        have hd2 := boxed2 hk2
        replace hk2 := hk'.trans hk2 (FSub.refl _ _)
        obtain ⟨c0, c1, hlt2⟩ := cell2 hb2
        obtain ⟨d0, d1, hlt3⟩ := cell2 hd2
        have f0 : w2.frozen? ⟨w.heap.size, 0, none⟩ = false := by simp [World.frozen?, hb2]
        have f1 : w2.frozen? ⟨w.heap.size, 1, none⟩ = false := by simp [World.frozen?, hb2]
        have hr := put2 hb2 (.int .u8 k) (.int .u16 0)
        clear hb hkp hk' hb2 hd2
        go_wp2_with fail
        try simp only [Exit.inBlock, Exit.then]
        exact bodyPost_ret (results_row2 rfl _ _ _ rfl hr) rfl ⟨rfl, ((hk2.setCell _ _ (.inr (Nat.le_refl _))).setCell _ _ (.inr (Nat.le_refl _)))⟩
      · have t1 : ((bs (rsTxt k 0)).toList == s.toList) = false := by rw [toL_bs]; exact beq_lit HL.out false (by simp [hx])
        have HX := Lib.hid hx; clear hx
        generalize bs (rsTxt k 0) = SX at *
        go_wp2_with fail
        refine (ht _).mono ?_; rintro e w2 ⟨rfl, hk2⟩
        have hb2 := hk2.heap (heap_alloc_lt hb) (by simp)
        replace hk2 := hk'.trans hk2 (FSub.refl _ _)
        go_wp2_with fail
        go_roundw
        case rel => exact ⟨k + 1, by omega, by go_num, fun j hj => by rcases (by omega : j < k ∨ j = k) with h | rfl; exact HNE.out j h; exact HX.out, hb2, hk2⟩
        case measure => simp [intOf]; omega
    · obtain rfl : k = 5 := by omega
      obtain ⟨c0, c1, hlt2⟩ := cell2 hb
      have f0 : wr.frozen? ⟨w.heap.size, 0, none⟩ = false := by simp [World.frozen?, hb]
      have f1 : wr.frozen? ⟨w.heap.size, 1, none⟩ = false := by simp [World.frozen?, hb]
      by_cases h7 : l.length < 7
      · obtain ⟨e1, e2, e3⟩ := ps_no HNE.out (fun v _ => too_short h7 v)
        obtain rfl := HPK.out.symm.trans e1
        obtain rfl := HPV.out.symm.trans e2
        obtain rfl := HPE.out.symm.trans e3
        clear e1 e2 e3 HPK HPV HPE
        have hr := put2 hb (.int .u8 0) (.int .u16 0)
        have z7 : (s.size : Int) < 7 := by omega
        clear hb
        go_wp2_with fail
        try simp only [Exit.inBlock, Exit.then]
        exact bodyPost_ret (results_row2 rfl _ _ _ rfl hr) rfl ⟨rfl, ((hkp.setCell _ _ (.inr (Nat.le_refl _))).setCell _ _ (.inr (Nat.le_refl _)))⟩
      · by_cases h11 : 11 < l.length
        · obtain ⟨e1, e2, e3⟩ := ps_no HNE.out (fun v hv e => by have h2 := dec_length_le 4 v (by omega); have h3 := congrArg List.length e; rw [List.length_append] at h3; simp [valueL] at h3; omega)
          obtain rfl := HPK.out.symm.trans e1
          obtain rfl := HPV.out.symm.trans e2
          obtain rfl := HPE.out.symm.trans e3
          clear e1 e2 e3 HPK HPV HPE
          have hr := put2 hb (.int .u8 0) (.int .u16 0)
          have z7 : ¬ (s.size : Int) < 7 := by omega
          have z11 : 11 < (s.size : Int) := by omega
          clear hb
          go_wp2_with fail
          try simp only [Exit.inBlock, Exit.then]
          exact bodyPost_ret (results_row2 rfl _ _ _ rfl hr) rfl ⟨rfl, ((hkp.setCell _ _ (.inr (Nat.le_refl _))).setCell _ _ (.inr (Nat.le_refl _)))⟩
        · have z7 : ¬ (s.size : Int) < 7 := by omega
          have z11 : ¬ 11 < (s.size : Int) := by omega
          have z6 : 6 ≤ s.size := by omega
          have hpre : (s.extract 0 6).data.toList = l.take 6 := by rw [piece_list, HL.out]; rfl
          by_cases h6 : l.take 6 = valueL
          · have t1 : ((s.extract 0 6).toList == [118, 97, 108, 117, 101, 32]) = true := by
              rw [toL_of, hpre, h6]; decide
            clear hpre
            go_wp2_with fail
            have HB := Lib.hid hb
            clear c0 c1 f0 f1 hb t1
            go_loopw [8, 9] (fun n i wr2 => ∃ (c k : Nat), n = .int .u32 c ∧ i = .int .i64 k ∧ Digs l k c ∧ wr2 = wr) (fun _ i _ => l.length - (intOf i).toNat)
            case atStart => exact ⟨0, 6, rfl, rfl, ⟨by omega, by omega, by simp, by simp [spells]⟩, rfl⟩
            case round =>
              obtain ⟨n, k, rfl, rfl, hd, rfl⟩ := hrel
              have hn := hd.lt (by omega)
              by_cases hkl : k < l.length
              · have hks : k < s.size := by omega
                have hbyte : ((s[k]'hks).toNat : Int) = ((l.getD k 0).toNat : Int) := by
                  have : s[k]'hks = l.getD k 0 := by rw [byte_getD, HL.out]
                  rw [this]
                by_cases hdig : isDig (l.getD k 0)
                · have hst := hd.step hkl hdig
                  unfold isDig at hdig
                  generalize hC : (l.getD k 0).toNat = C at *
                  clear hC
                  have z1 : ¬ (C : Int) < 48 := by omega
                  have z2 : ¬ 57 < (C : Int) := by omega
                  go_wp2_with fail
                  go_roundw
                  case rel => exact ⟨10 * n + (C - 48), k + 1, by congr 1; omega, by go_num, hst, trivial⟩
                  case measure => simp [intOf]; omega
                · obtain ⟨e1, e2, e3⟩ := ps_no HNE.out (fun v _ => hd.none hkl hdig v)
                  obtain rfl := HPK.out.symm.trans e1
                  obtain rfl := HPV.out.symm.trans e2
                  obtain rfl := HPE.out.symm.trans e3
                  clear e1 e2 e3 HPK HPV HPE
                  obtain ⟨c0, c1, hlt2⟩ := cell2 HB.out
                  have f0 : wr.frozen? ⟨w.heap.size, 0, none⟩ = false := by simp [World.frozen?, HB.out]
                  have f1 : wr.frozen? ⟨w.heap.size, 1, none⟩ = false := by simp [World.frozen?, HB.out]
                  have hr := put2 HB.out (.int .u8 0) (.int .u16 0)
                  unfold isDig at hdig
                  generalize hC : (l.getD k 0).toNat = C at *
                  clear hC HB
                  by_cases z1 : (C : Int) < 48
                  · go_wp2_with fail
                    try simp only [Exit.inBlock, Exit.then]
                    exact bodyPost_ret (results_row2 rfl _ _ _ rfl hr) rfl ⟨rfl, ((hkp.setCell _ _ (.inr (Nat.le_refl _))).setCell _ _ (.inr (Nat.le_refl _)))⟩
                  · have z2 : 57 < (C : Int) := by omega
                    go_wp2_with fail
                    try simp only [Exit.inBlock, Exit.then]
                    exact bodyPost_ret (results_row2 rfl _ _ _ rfl hr) rfl ⟨rfl, ((hkp.setCell _ _ (.inr (Nat.le_refl _))).setCell _ _ (.inr (Nat.le_refl _)))⟩
              · obtain rfl : k = l.length := by have := hd.high; omega
                have z0 : ¬ (l.length : Int) < (s.size : Int) := by omega
                by_cases hbig : 65535 < n
                · obtain ⟨e1, e2, e3⟩ := ps_no HNE.out (fun v hv e => by have := hd.num_of e; omega)
                  obtain rfl := HPK.out.symm.trans e1
                  obtain rfl := HPV.out.symm.trans e2
                  obtain rfl := HPE.out.symm.trans e3
                  clear e1 e2 e3 HPK HPV HPE
                  obtain ⟨c0, c1, hlt2⟩ := cell2 HB.out
                  have f0 : wr.frozen? ⟨w.heap.size, 0, none⟩ = false := by simp [World.frozen?, HB.out]
                  have f1 : wr.frozen? ⟨w.heap.size, 1, none⟩ = false := by simp [World.frozen?, HB.out]
                  have hr := put2 HB.out (.int .u8 0) (.int .u16 0)
                  have z1 : 65535 < (n : Int) := by omega
                  clear HB
                  go_wp2_with fail
                  try simp only [Exit.inBlock, Exit.then]
                  exact bodyPost_ret (results_row2 rfl _ _ _ rfl hr) rfl ⟨rfl, ((hkp.setCell _ _ (.inr (Nat.le_refl _))).setCell _ _ (.inr (Nat.le_refl _)))⟩
                · have z1 : ¬ 65535 < (n : Int) := by omega
                  have hdg := fun w => digits_any w n (by omega)
                  have hsd : (bs (Lib.decDigits n)).size ≤ 5 := dec_length_le 4 n (by omega)
                  have hcat : ((⟨#[118, 97, 108, 117, 101, 32]⟩ : ByteArray) ++ bs (Lib.decDigits n)).toList = valueL ++ Lib.decDigits n := by
                    show (bs [118, 97, 108, 117, 101, 32] ++ bs (Lib.decDigits n)).toList = _
                    rw [bs_app, toL_bs]; rfl
                  by_cases hx : valueL ++ Lib.decDigits n = l
                  · obtain ⟨e1, e2, e3⟩ := ps_value n (by omega) hx
                    obtain rfl := HPK.out.symm.trans e1
                    obtain rfl := HPV.out.symm.trans e2
                    obtain rfl := HPE.out.symm.trans e3
                    clear e1 e2 e3 HPK HPV HPE
                    have t1 : (((⟨#[118, 97, 108, 117, 101, 32]⟩ : ByteArray) ++ bs (Lib.decDigits n)).toList == s.toList) = true := by rw [hcat]; exact beq_lit HL.out true (by simp [hx])
                    clear hcat hx
                    generalize bs (Lib.decDigits n) = SD at *
                    go_wp2_with fail
                    refine (hdg _).mono ?_; rintro e w2 ⟨rfl, hk2⟩
                    have hb2 := hk2.heap HB.out (by simp)
                    replace hkp := hkp.trans hk2 (FSub.refl _ _)
                    obtain ⟨c0, c1, hlt2⟩ := cell2 hb2
                    have f0 : w2.frozen? ⟨w.heap.size, 0, none⟩ = false := by simp [World.frozen?, hb2]
                    have f1 : w2.frozen? ⟨w.heap.size, 1, none⟩ = false := by simp [World.frozen?, hb2]
                    have hr := put2 hb2 (.int .u8 1) (.int .u16 n)
                    clear HB hb2
                    go_wp2_with fail
                    try simp only [Exit.inBlock, Exit.then]
                    exact bodyPost_ret (results_row2 rfl _ _ _ rfl hr) rfl ⟨rfl, ((hkp.setCell _ _ (.inr (Nat.le_refl _))).setCell _ _ (.inr (Nat.le_refl _)))⟩
                  · obtain ⟨e1, e2, e3⟩ := ps_no HNE.out (fun v hv e => hx (by rw [hd.num_of e]; exact e))
                    obtain rfl := HPK.out.symm.trans e1
                    obtain rfl := HPV.out.symm.trans e2
                    obtain rfl := HPE.out.symm.trans e3
                    clear e1 e2 e3 HPK HPV HPE
                    have t1 : (((⟨#[118, 97, 108, 117, 101, 32]⟩ : ByteArray) ++ bs (Lib.decDigits n)).toList == s.toList) = false := by rw [hcat]; exact beq_lit HL.out false (by simp [hx])
                    clear hcat hx
                    generalize bs (Lib.decDigits n) = SD at *
                    go_wp2_with fail
                    refine (hdg _).mono ?_; rintro e w2 ⟨rfl, hk2⟩
                    have hb2 := hk2.heap HB.out (by simp)
                    replace hkp := hkp.trans hk2 (FSub.refl _ _)
                    obtain ⟨c0, c1, hlt2⟩ := cell2 hb2
                    have f0 : w2.frozen? ⟨w.heap.size, 0, none⟩ = false := by simp [World.frozen?, hb2]
                    have f1 : w2.frozen? ⟨w.heap.size, 1, none⟩ = false := by simp [World.frozen?, hb2]
                    have hr := put2 hb2 (.int .u8 0) (.int .u16 0)
                    clear HB hb2
                    go_wp2_with fail
                    try simp only [Exit.inBlock, Exit.then]
                    exact bodyPost_ret (results_row2 rfl _ _ _ rfl hr) rfl ⟨rfl, ((hkp.setCell _ _ (.inr (Nat.le_refl _))).setCell _ _ (.inr (Nat.le_refl _)))⟩
          · obtain ⟨e1, e2, e3⟩ := ps_no HNE.out (fun v _ e => h6 (tail_dec e).2)
            obtain rfl := HPK.out.symm.trans e1
            obtain rfl := HPV.out.symm.trans e2
            obtain rfl := HPE.out.symm.trans e3
            clear e1 e2 e3 HPK HPV HPE
            have t1 : ((s.extract 0 6).toList == [118, 97, 108, 117, 101, 32]) = false := by
              rw [toL_of, hpre]; exact beq_eq_false_iff_ne.2 h6
            have hr := put2 hb (.int .u8 0) (.int .u16 0)
            clear hb hpre h6
            go_wp2_with fail
            try simp only [Exit.inBlock, Exit.then]
            exact bodyPost_ret (results_row2 rfl _ _ _ rfl hr) rfl ⟨rfl, ((hkp.setCell _ _ (.inr (Nat.le_refl _))).setCell _ _ (.inr (Nat.le_refl _)))⟩
end Go.Proofs.YtffldnjjijckcaaGreatDoor
