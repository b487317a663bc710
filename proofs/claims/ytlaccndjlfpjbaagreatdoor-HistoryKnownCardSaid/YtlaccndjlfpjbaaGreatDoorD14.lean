/-
  The program's history in memory: the struct, the automaton.
-/
import Derived.Deep.Upon
import Derived.Test.YtlaccndjlfpjbaaGreatDoorD13
set_option linter.unusedSimpArgs false
set_option linter.unusedVariables false
namespace Go.Proofs.YtlaccndjlfpjbaaGreatDoor
open Go.RowKit Go.Maps
/-- A slice of micros whose block is one of O. -/
def MicsIn (O : List Nat) (w : World) (v : Value) (l : List Mic) : Prop :=
  ∃ a c, v = .slice a l.length c ∧ l.length ≤ c ∧ c ≤ 9223372036854775807 ∧ (l ≠ [] → ∃ bk o, a = some ⟨bk, o, none⟩ ∧ bk ∈ O ∧ ∀ j m, l[j]? = some m →
    w.cell? ⟨bk, o + j * 3, none⟩ = some (.bool m.rd) ∧ w.cell? ⟨bk, o + j * 3 + 1, none⟩ = some (.int .u8 m.key) ∧ w.cell? ⟨bk, o + j * 3 + 2, none⟩ = some (.int .u16 m.v))
theorem MicsIn.nil (O : List Nat) (w : World) : MicsIn O w (.slice none 0 0) [] := ⟨none, 0, rfl, Nat.le_refl _, by decide, fun h => absurd rfl h⟩
theorem MicsIn.mics {O : List Nat} {w : World} {v : Value} {l : List Mic} (h : MicsIn O w v l) : Mics w.heap.size w v l := by
  obtain ⟨a, c, rfl, h1, h2, h3⟩ := h
  refine ⟨a, c, rfl, h1, h2, fun hn => ?_⟩
  obtain ⟨bk, o, rfl, _, h4⟩ := h3 hn
  refine ⟨bk, o, rfl, ?_, h4⟩
  cases l with
  | nil => exact absurd rfl hn
  | cons m r => exact World.block_lt_of_cell? _ _ (h4 0 m rfl).1
theorem MicsIn.keeps {O F : List Nat} {w w' : World} {v : Value} {l : List Mic} (h : MicsIn O w v l) (hk : Keeps F w w') (hF : ∀ q ∈ O, q ∉ F) : MicsIn O w' v l := by
  obtain ⟨a, c, rfl, h1, h2, h3⟩ := h
  refine ⟨a, c, rfl, h1, h2, fun hn => ?_⟩
  obtain ⟨bk, o, rfl, hb, h4⟩ := h3 hn
  exact ⟨bk, o, rfl, hb, fun j m hj => ⟨hk.cell (h4 j m hj).1 (hF bk hb), hk.cell (h4 j m hj).2.1 (hF bk hb), hk.cell (h4 j m hj).2.2 (hF bk hb)⟩⟩
theorem MicsIn.more {O O' : List Nat} {w : World} {v : Value} {l : List Mic} (h : MicsIn O w v l) (hO : ∀ q ∈ O, q ∈ O') : MicsIn O' w v l := by
  obtain ⟨a, c, rfl, h1, h2, h3⟩ := h
  refine ⟨a, c, rfl, h1, h2, fun hn => ?_⟩
  obtain ⟨bk, o, rfl, hb, h4⟩ := h3 hn
  exact ⟨bk, o, rfl, hO bk hb, h4⟩
/-- A row that the call made, as a slice of micros. -/
theorem micsIn_row {W : World} {base : Nat} {v : Value} {l : List Mic} (h : W.ownsRow base 52 3 v l.length (micsC l)) : MicsIn (own v) W v l := by
  obtain ⟨a, c, rfl, h1, h2, h3⟩ := mics_row h
  refine ⟨a, c, rfl, h1, h2, fun hn => ?_⟩
  obtain ⟨bk, o, rfl, _, h4⟩ := h3 hn
  exact ⟨bk, o, rfl, by simp [own, Value.ownBlock], h4⟩
/-- What lies behind the automaton's pointer. -/
structure HPast (w : World) (p mb n : Nat) (g : Cfg) (on : Bool) (op : EvL) (la : Int) (ap : List Mic) (O : List Nat) : Prop where
  heap : w.heap[p]? = some (.cells (pastL g on op la mb).toArray 73 (0, 0))
  len : op.length = 16
  map : MapAt w mb n ap
  evs : ∀ c (h : c < op.length), (op[c]).1.In ∧ MicsIn O w (op[c]).2.1 (op[c]).1.t ∧ (op[c]).2.2 = .slice none 0 0 ∧ (op[c]).1.r = []
  pm : p ≠ mb
  pO : p ∉ O
  mO : mb ∉ O
  oz : ∀ q ∈ O, q < w.heap.size
theorem HPast.keeps {w w' : World} {F : List Nat} {p mb n : Nat} {g : Cfg} {on : Bool} {op : EvL} {la : Int} {ap : List Mic} {O : List Nat} (h : HPast w p mb n g on op la ap O) (hk : Keeps F w w') (hp : p ∉ F) (hm : mb ∉ F) (hO : ∀ q ∈ O, q ∉ F) : HPast w' p mb n g on op la ap O :=
  ⟨hk.heap h.heap hp, h.len, h.map.keeps hk hm, fun c hc => ⟨(h.evs c hc).1, (h.evs c hc).2.1.keeps hk hO, (h.evs c hc).2.2⟩, h.pm, h.pO, h.mO, fun q hq => Nat.lt_of_lt_of_le (h.oz q hq) hk.size⟩
theorem HPast.new {w w' : World} {p mb n : Nat} {g : Cfg} {on : Bool} {op : EvL} {la : Int} {ap : List Mic} {O : List Nat} (h : HPast w p mb n g on op la ap O) (hk : Keeps [] w w') : HPast w' p mb n g on op la ap O := h.keeps hk (by simp) (by simp) (by simp)
section
variable {w : World} {p mb : Nat} {g : Cfg} {on : Bool} {op : EvL} {la : Int} {t : TypeId} {fr : Nat × Nat}
theorem past_cell (h : w.heap[p]? = some (.cells (pastL g on op la mb).toArray t fr)) (i : Nat) {v : Value} (hv : (pastL g on op la mb)[i]? = some v) : w.cell? ⟨p, i, none⟩ = some v := by
  simp only [World.cell?, h]
  simpa using hv
theorem past_c0 (h : w.heap[p]? = some (.cells (pastL g on op la mb).toArray t fr)) : w.cell? ⟨p, 0, none⟩ = some (.int .u8 g.m) := past_cell h 0 rfl
theorem past_c7 (h : w.heap[p]? = some (.cells (pastL g on op la mb).toArray t fr)) : w.cell? ⟨p, 7, none⟩ = some (.bool on) := past_cell h 7 rfl
theorem past_cfg (h : w.heap[p]? = some (.cells (pastL g on op la mb).toArray t fr)) : w.rangeAt p 0 (cfgC g) := by
  intro j v hj
  have hl : j < 7 := (List.getElem?_eq_some_iff.1 hj).1
  refine past_cell h (0 + j) ?_
  rw [Nat.zero_add, pastL, List.getElem?_append_left hl]; exact hj
theorem pastL_ev (c : Nat) (hc : c < op.length) (i : Nat) {v : Value} (hv : (evC (op[c]).1 (op[c]).2.1 (op[c]).2.2).toList[i]? = some v) : (pastL g on op la mb)[8 + c * 19 + i]? = some v := by
  have h1 := evsC_get op c op[c] (List.getElem?_eq_getElem hc) i v hv
  have hl : c * 19 + i < (evsC op).length := (List.getElem?_eq_some_iff.1 h1).1
  have e : pastL g on op la mb = (cfgC g ++ [.bool on]) ++ (evsC op ++ [.int .i64 la, .map (some mb)]) := by simp [pastL]
  have hl8 : (cfgC g ++ [Value.bool on]).length = 8 := rfl
  rw [e, List.getElem?_append_right (by rw [hl8]; omega), hl8, show 8 + c * 19 + i - 8 = c * 19 + i by omega, List.getElem?_append_left hl]
  exact h1
theorem past_ev (h : w.heap[p]? = some (.cells (pastL g on op la mb).toArray t fr)) (c : Nat) (hc : c < op.length) : w.rangeAt p (8 + c * 19) (evC (op[c]).1 (op[c]).2.1 (op[c]).2.2).toList := fun j _ hj => past_cell h _ (pastL_ev c hc j hj)
theorem past_kind (h : w.heap[p]? = some (.cells (pastL g on op la mb).toArray t fr)) (c : Nat) (hc : c < op.length) : w.cell? ⟨p, 8 + c * 19, none⟩ = some (.int .u8 (op[c]).1.k) := past_cell h _ (pastL_ev c hc 0 rfl)
theorem pastL_end (hl : op.length = 16) (i : Nat) : (pastL g on op la mb)[312 + i]? = [Value.int .i64 la, .map (some mb)][i]? := by
  have e : pastL g on op la mb = (cfgC g ++ [.bool on] ++ evsC op) ++ [.int .i64 la, .map (some mb)] := by simp [pastL]
  have hl8 : (cfgC g ++ [Value.bool on] ++ evsC op).length = 312 := by rw [List.length_append, evsC_len, hl]; rfl
  rw [e, List.getElem?_append_right (by rw [hl8]; omega), hl8, show 312 + i - 312 = i by omega]
theorem past_la (hl : op.length = 16) (h : w.heap[p]? = some (.cells (pastL g on op la mb).toArray t fr)) : w.cell? ⟨p, 312, none⟩ = some (.int .i64 la) := past_cell h 312 (by have := pastL_end (g := g) (on := on) (la := la) (mb := mb) hl 0; exact this)
theorem past_mb (hl : op.length = 16) (h : w.heap[p]? = some (.cells (pastL g on op la mb).toArray t fr)) : w.cell? ⟨p, 313, none⟩ = some (.map (some mb)) := past_cell h 313 (by have := pastL_end (g := g) (on := on) (la := la) (mb := mb) hl 1; exact this)
theorem past_thaw (h : w.heap[p]? = some (.cells (pastL g on op la mb).toArray t (0, 0))) (i : Nat) : w.frozen? ⟨p, i, none⟩ = false := by simp [World.frozen?, h]
/-- The parts that are stored. -/
theorem past_put_on (h : w.heap[p]? = some (.cells (pastL g on op la mb).toArray t (0, 0))) (b : Bool) : (w.setCell ⟨p, 7, none⟩ (.bool b)).heap[p]? = some (.cells (pastL g b op la mb).toArray t (0, 0)) := by
  rw [heap_setCell_same w p 7 _ t _ h]; rfl
theorem past_put_cfg (h : w.heap[p]? = some (.cells (pastL g on op la mb).toArray t (0, 0))) (g' : Cfg) : (w.setCells p 0 (cfgC g')).heap[p]? = some (.cells (pastL g' on op la mb).toArray t (0, 0)) :=
  heap_setCells p t (cfgC g') (cfgC g) [] _ 0 w rfl rfl h
theorem past_put_ev (h : w.heap[p]? = some (.cells (pastL g on op la mb).toArray t (0, 0))) (c : Nat) (hc : c < op.length) (e : Ev × Value × Value) :
    (w.setCells p (8 + c * 19) (evC e.1 e.2.1 e.2.2).toList).heap[p]? = some (.cells (pastL g on (op.set c e) la mb).toArray t (0, 0)) := by
  have e1 : ∀ x : Ev × Value × Value, cfgC g ++ [Value.bool on] ++ evsC (op.take c) ++ ((evC x.1 x.2.1 x.2.2).toList ++ (evsC (op.drop (c + 1)) ++ [.int .i64 la, .map (some mb)])) = cfgC g ++ ([.bool on] ++ ((evsC (op.take c) ++ ((evC x.1 x.2.1 x.2.2).toList ++ evsC (op.drop (c + 1)))) ++ [.int .i64 la, .map (some mb)])) := by intro x; simp
  have h1 := heap_setCells p t (evC e.1 e.2.1 e.2.2).toList (evC (op[c]).1 (op[c]).2.1 (op[c]).2.2).toList (cfgC g ++ [.bool on] ++ evsC (op.take c)) (evsC (op.drop (c + 1)) ++ [.int .i64 la, .map (some mb)]) (8 + c * 19) w (by rw [evC_len, evC_len])
    (by rw [List.length_append, evsC_len, List.length_take, Nat.min_eq_left (by omega)]; rfl) (by rw [e1, ← evsC_set op c hc]; exact h)
  rw [h1, e1, ← evsC_put op c hc]; rfl
theorem past_put_la (hl : op.length = 16) (h : w.heap[p]? = some (.cells (pastL g on op la mb).toArray t (0, 0))) (v : Int) : (w.setCell ⟨p, 312, none⟩ (.int .i64 v)).heap[p]? = some (.cells (pastL g on op v mb).toArray t (0, 0)) := by
  have e1 : ∀ v : Int, pastL g on op v mb = (cfgC g ++ [Value.bool on] ++ evsC op) ++ ([Value.int .i64 v] ++ [.map (some mb)]) := by intro v; simp [pastL]
  have h1 := heap_setCells p t [.int .i64 v] [.int .i64 la] (cfgC g ++ [Value.bool on] ++ evsC op) [.map (some mb)] 312 w rfl (by rw [List.length_append, evsC_len, hl]; rfl) (by rw [← e1]; exact h)
  rw [← e1] at h1; exact h1
end
/-- An automaton. -/
structure AAt (w : World) (a p mb n : Nat) (g : Cfg) (on : Bool) (op : EvL) (la : Int) (ap : List Mic) (O : List Nat) : Prop where
  cell : w.heap[a]? = some (.cells #[.pointer (some ⟨p, 0, none⟩)] 58 (0, 0))
  past : HPast w p mb n g on op la ap O
  ap : a ≠ p
  am : a ≠ mb
  aO : a ∉ O
theorem AAt.keeps {w w' : World} {F : List Nat} {a p mb n : Nat} {g : Cfg} {on : Bool} {op : EvL} {la : Int} {ap : List Mic} {O : List Nat} (h : AAt w a p mb n g on op la ap O) (hk : Keeps F w w') (ha : a ∉ F) (hp : p ∉ F) (hm : mb ∉ F) (hO : ∀ q ∈ O, q ∉ F) : AAt w' a p mb n g on op la ap O :=
  ⟨hk.heap h.cell ha, h.past.keeps hk hp hm hO, h.ap, h.am, h.aO⟩
theorem AAt.new {w w' : World} {a p mb n : Nat} {g : Cfg} {on : Bool} {op : EvL} {la : Int} {ap : List Mic} {O : List Nat} (h : AAt w a p mb n g on op la ap O) (hk : Keeps [] w w') : AAt w' a p mb n g on op la ap O := h.keeps hk (by simp) (by simp) (by simp) (by simp)
/-- It stands for the events that were taken. -/
structure Stands (L : List Ev) (g : Cfg) (on : Bool) (op : EvL) (la : Int) (ap : List Mic) : Prop where
  g : g = match L with | [] => cfgZero | x :: _ => x.g
  on : on = !L.isEmpty
  op : ∀ c (h : c < op.length), (op[c]).1 = (hPend L (c : Int)).getD evZero
  la : la = hMax L.tail
  ap : ap = hOld L
end Go.Proofs.YtlaccndjlfpjbaaGreatDoor
/-
  The program's history: reads, reads behind appends, an index.
-/
namespace Go.Proofs.YtlaccndjlfpjbaaGreatDoor
open Go.RowKit Go.Maps
set_option maxHeartbeats 4000000
set_option maxRecDepth 100000
theorem reads_any (w : World) (l : List Mic) {N : Nat} (v : Value) (hv : Mics N w v l) (hl : l.length ≤ 1000) (hN : N ≤ w.heap.size) :
    Calls Tryz.prog 55 #[v] w fun e w' => e = .returned (.int .i64 (hReads l)) ∧ Keeps [] w w' := by
  obtain ⟨a, c, rfl, hc, hm, h⟩ := hv
  have HH := Lib.hid h; clear h
  go_enter Tryz.func55, Tryz.ntmps55
  go_wp2_with fail
  go_loopw [3, 5, 8] (fun n _ i wr => ∃ k : Nat, n = .int .i64 (hReads (l.take k)) ∧ i = .int .i64 k ∧ k ≤ l.length ∧ Keeps [] w wr) (fun _ _ i _ => l.length - (intOf i).toNat)
  case atStart => exact ⟨0, rfl, rfl, by omega, Keeps.refl _ _⟩
  case round =>
    obtain ⟨k, rfl, rfl, hk, hkp⟩ := hrel
    by_cases hlt : k < l.length
    · obtain ⟨bk, o, rfl, hbN, hcells⟩ := HH.out (fun e => by rw [e] at hlt; simp at hlt)
      obtain ⟨d1, d2, d3⟩ := hcells k _ (getD_get micNone hlt)
      replace d1 := hkp.cell d1 (by simp)
      replace d2 := hkp.cell d2 (by simp)
      replace d3 := hkp.cell d3 (by simp)
      have hz : bk < wr.heap.size := by have := hkp.size; omega
      have HN := Lib.hid (congrArg hReads (take_nextD micNone hlt))
      have hle : hReads (l.take k) ≤ 1000 := by have := hReads_le (l.take k); simp at this; omega
      have HKP := Lib.hid hkp
      clear hkp hcells HH
      generalize hRk : hReads (l.take k) = R at *
      have HRk := Lib.hid hRk; clear hRk
      generalize l.getD k micNone = M at *
      obtain ⟨m1, m2, m3⟩ := M
      simp only at d1 d2 d3
      cases m1 with
      | false =>
        go_wp2_with fail
        go_roundw
        case rel => exact ⟨k + 1, by rw [HN.out, hReads_snoc, HRk.out]; simp, by go_num, by omega, HKP.out.alloc _⟩
        case measure => simp [intOf]; omega
      | true =>
        go_wp2_with fail
        go_roundw
        case rel => exact ⟨k + 1, by rw [HN.out, hReads_snoc, HRk.out]; simp, by go_num, by omega, HKP.out.alloc _⟩
        case measure => simp [intOf]; omega
    · obtain rfl : k = l.length := by omega
      have e : l.take l.length = l := List.take_length
      rw [e]
      clear e HH
      go_wp2_with fail
      go_ret
      exact ⟨rfl, hkp⟩
theorem readsOwn_any (w : World) (l : List Mic) {N : Nat} (v : Value) (hv : Mics N w v l) (hl : ∀ m ∈ l, 0 ≤ m.key ∧ m.key < 8) (hN : N ≤ w.heap.size) :
    Calls Tryz.prog 52 #[v] w fun e w' => e = .returned (.bool (hBehind l)) ∧ Keeps [] w w' := by
  obtain ⟨a, c, rfl, hc, hm, h⟩ := hv
  generalize hR : hBehind l = R at *
  have HH := Lib.hid h; have HL := Lib.hid hl; have HR := Lib.hid hR; clear h hl hR
  have hB0 := heap_alloc_new w (.cells (apdC []) 105)
  rw [apdC_nil] at hB0
  go_enter Tryz.func52, Tryz.ntmps52
  go_wp2_with fail
  go_loopw [2, 5, 8] (fun r _ i wr => ∃ k : Nat, r = .bool false ∧ i = .int .i64 k ∧ k ≤ l.length ∧ hBehind (l.take k) = false ∧ wr.heap[w.heap.size]? = some (.cells (apdC (l.take k)) 105 (0, 0)) ∧ Keeps [] w wr) (fun _ _ i _ => l.length - (intOf i).toNat)
  case atStart => exact ⟨0, rfl, rfl, by omega, rfl, hB0, (Keeps.refl _ _).alloc _⟩
  case round =>
    obtain ⟨k, rfl, rfl, hk, hno, hB, hkp⟩ := hrel
    clear hB0
    have HB := Lib.hid hB; have HNO := Lib.hid hno; clear hno
    by_cases hlt : k < l.length
    · obtain ⟨bk, o, rfl, hbN, hcells⟩ := HH.out (fun e => by rw [e] at hlt; simp at hlt)
      obtain ⟨d1, d2, d3⟩ := hcells k _ (getD_get micNone hlt)
      have hml := HL.out _ (getD_in micNone hlt)
      replace d1 := hkp.cell d1 (by simp)
      replace d2 := hkp.cell d2 (by simp)
      replace d3 := hkp.cell d3 (by simp)
      have hz : bk < wr.heap.size := by have := hkp.size; omega
      have hz2 : w.heap.size < wr.heap.size := lt_of_block hB
      have HT := Lib.hid (take_nextD micNone hlt)
      have HKP := Lib.hid hkp
      clear hkp hcells HH HL
      obtain ⟨M, hM⟩ : ∃ M, M = l.getD k micNone := ⟨_, rfl⟩
      rw [← hM] at d1 d2 d3 HT hml
      clear hM
      obtain ⟨m1, m2, m3⟩ := M
      simp only at d1 d2 d3 hml
      obtain ⟨j, rfl⟩ := Int.eq_ofNat_of_zero_le hml.1
      have hj : j < 8 := by omega
      have hj2 : (j : Int) < 8 := by omega
      obtain ⟨B, hBe⟩ : ∃ B, B = apdAt (l.take k) j := ⟨_, rfl⟩
      have a1 : wr.cell? ⟨w.heap.size, j, none⟩ = some (.bool B) := by simp only [World.cell?, hB]; rw [hBe]; simpa using apdC_get (l.take k) j hj
      have f1 : wr.frozen? ⟨w.heap.size, j, none⟩ = false := by simp [World.frozen?, hB]
      have HE := Lib.hid hBe
      clear hBe hB hml
      generalize hS : w.heap.size = S at *
      have HS := Lib.hid hS; clear hS
      cases m1 with
      | false =>
        go_wp2_with fail
        go_roundw
        case rel =>
          exact ⟨k + 1, rfl, by go_num, by omega, by rw [HT.out, hBehind_snoc, HNO.out]; rfl,
            by rw [HT.out, ← apdC_put _ ⟨false, j, m3⟩ j hj rfl rfl]; exact heap_alloc_lt (heap_setCell_same wr S j _ _ _ HB.out), (HKP.out.setCell _ _ (.inr (Nat.le_of_eq HS.out))).alloc _⟩
        case measure => simp [intOf]; omega
      | true =>
        cases B with
        | false =>
          go_wp2_with fail
          go_roundw
          case rel =>
            exact ⟨k + 1, rfl, by go_num, by omega, by rw [HT.out, hBehind_snoc, HNO.out]; show (false || (true && apdAt (l.take k) j)) = false; rw [← HE.out]; rfl,
              by rw [HT.out, ← apdC_put _ ⟨true, j, m3⟩ j hj rfl (by rw [← HE.out]; rfl)]; exact heap_alloc_lt (heap_setCell_same wr S j _ _ _ HB.out), (HKP.out.setCell _ _ (.inr (Nat.le_of_eq HS.out))).alloc _⟩
          case measure => simp [intOf]; omega
        | true =>
          obtain rfl : R = true := HR.out.symm.trans (hBehind_take (k := k + 1) (by
            rw [HT.out, hBehind_snoc]
            show (hBehind (l.take k) || (true && apdAt (l.take k) j)) = true
            rw [← HE.out, HNO.out]; rfl))
          clear HR
          go_wp2_with fail
          go_ret
          exact ⟨rfl, HKP.out.alloc _⟩
    · obtain rfl : k = l.length := by omega
      have e := HNO.out
      rw [List.take_length] at e
      obtain rfl := HR.out.symm.trans e
      clear e HH HL HR HB HNO hB
      go_wp2_with fail
      go_ret
      exact ⟨rfl, hkp⟩
end Go.Proofs.YtlaccndjlfpjbaaGreatDoor
