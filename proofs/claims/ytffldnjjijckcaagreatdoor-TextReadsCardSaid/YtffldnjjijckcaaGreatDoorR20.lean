/-
  The words behind a line's kind: who, invoke, return.
-/
import Derived.Deep.RegionHeld3
import Derived.Test.YtffldnjjijckcaaGreatDoorR14
import Derived.Test.YtffldnjjijckcaaGreatDoorR17
import Derived.Test.YtffldnjjijckcaaGreatDoorR18
import Derived.Test.YtffldnjjijckcaaGreatDoorR19
import Derived.Test.YtffldnjjijckcaaGreatDoorR13
import Derived.Test.YtffldnjjijckcaaGreatDoorR12
set_option linter.unusedSimpArgs false
set_option linter.unusedVariables false
namespace Go.Proofs.YtffldnjjijckcaaGreatDoor
open Go.RowKit
/-- A new row of words. -/
def RowW (base : Nat) (w : World) (v : Value) (l : Wds) : Prop := w.ownsRow base 9 1 v l.length (l.map fun s => .string (bs s))
theorem wrap64 {n : Int} (h0 : 0 ≤ n) (h1 : n < 9223372036854775808) : IntKind.i64.wrap n = n := by simp [IntKind.wrap, IntKind.bits, IntKind.signed]; omega
/-- What a function of words ends in. -/
def Words6 (w : World) (l : Wds) (e : Ending) (w' : World) : Prop := ∃ v, e = .returned v ∧ RowW w.heap.size w' v l ∧ Keeps [] w w'
set_option maxHeartbeats 8000000 in
set_option maxRecDepth 100000 in
theorem wordsOfWho_any (w : World) (hG : Glob6 w) (x : Ev) (hx : x.In) (tx rd : Value) : Calls Tryz.prog 53 #[.agg (evC x tx rd)] w (Words6 w (whoW x)) := by
  have hk0 := (Keeps.refl [] w).alloc (.cells (evC x tx rd) 32)
  have hX := heap_alloc_new w (.cells (evC x tx rd) 32)
  have c1 := ev_cell hX 1 (evC_1 x tx rd); have c2 := ev_cell hX 2 (evC_2 x tx rd)
  have hG0 := hG.new hk0
  have N1 := Lib.hid (fun w hG => Itoa6_any w hG x.c hx.c0 (by have := hx.c1; omega))
  have N2 := Lib.hid (fun w hG => Itoa6_any w hG x.id hx.i0 (by have := hx.i1; omega))
  have v1 := wrap64 hx.c0 (by have := hx.c1; omega)
  have v2 := wrap64 hx.i0 (by have := hx.i1; omega)
  have HK := Lib.hid hk0; have HG0 := Lib.hid hG0
  have hz : w.heap.size < (w.alloc (.cells (evC x tx rd) 32)).heap.size := lt_of_block hX
  generalize hdc : bs (dec x.c) = DC at *
  generalize hdi : bs (dec x.id) = DI at *
  have HDC := Lib.hid hdc; have HDI := Lib.hid hdi
  clear hdc hdi hX hk0 hG0
  go_enter Tryz.func53, Tryz.ntmps53
  go_wp2_with fail
  generalize w.alloc (.cells (evC x tx rd) 32) = w1 at *
  have HGD := Lib.hid (HG0.out.new (Keeps.refl [] w1).drew)
  go_region_held3 (fun w' => w'.cell? ⟨w.heap.size, 1, none⟩ = some (.int .u8 x.c) ∧ w'.cell? ⟨w.heap.size, 2, none⟩ = some (.int .u16 x.id))
    (first | (refine ⟨?_, ?_⟩ <;> assumption) | go_keep)
    (first
      | (go_at_call 75; (with_reducible refine (N1.out _ HGD.out).mono ?_); rintro e wA ⟨rfl, hkA⟩; have kA : Keeps [] w1 wA := Keeps.undrew hkA; have gA := HGD.out.new hkA; have a1 := kA.cell c1 (by simp); have a2 := kA.cell c2 (by simp))
      | (go_at_call 75; (with_reducible refine (N2.out _ gA).mono ?_); rintro e wB ⟨rfl, hkB⟩; have kB : Keeps [] w1 wB := kA.trans hkB (FSub.refl _ _); have b1 := kB.cell c1 (by simp); have b2 := kB.cell c2 (by simp)))
  have hkf : Keeps [] w (wB.alloc (.cells #[.string DC, .string DI] 9)) := (HK.out.trans kB (FSub.refl _ _)).alloc _
  have hbw : w.heap.size ≤ wB.heap.size := by have := HK.out.size; have := kB.size; omega
  clear hkA kA gA a1 a2 hkB b1 b2 c1 c2 N1 N2 v1 v2
  go_wp2_with fail
  go_ret
  refine ⟨_, rfl, ?_, hkf⟩
  have hr := World.ownsRow_lit (base := w.heap.size) (e := 9) (size := 1) wB #[.string DC, .string DI] 2 hbw (by decide) rfl
  unfold RowW whoW
  rw [List.map_cons, List.map_cons, HDC.out, HDI.out]
  exact hr
theorem new_at (w : World) (vs : List Value) (t : TypeId) : ∀ j u, vs[j]? = some u → (w.alloc (.cells vs.toArray t)).cell? ((⟨w.heap.size, 0, none⟩ : Addr).add j) = some u := by
  intro j u hj
  have hh := heap_alloc_new w (.cells vs.toArray t)
  have ha : ((⟨w.heap.size, 0, none⟩ : Addr).add j) = ⟨w.heap.size, j, none⟩ := by unfold Addr.add; split <;> simp_all
  rw [ha]
  unfold World.cell?
  simp only []
  rw [hh]
  simpa using hj
/-- Words more, behind an own row: those of a new array, those of another row. -/
theorem append_lit (w : World) (base : Nat) (hbase : base ≤ w.heap.size) (v : Value) (l : Wds) (hrow : RowW base w v l) (hn : l.length ≤ 100000) (m : Wds) (hm : m.length ≤ 1000) (N : Nat) (hN : N = m.length) (cs : Array Value) (hcs : cs = (m.map fun s => Value.string (bs s)).toArray) :
    ∃ v' w', (Builtin.append_ #[63, 63] 63 #[v, .slice (some ⟨w.heap.size, 0, none⟩) N N]).run Tryz.prog (w.alloc (.cells cs 9)) = .ok v' w' ∧ RowW base w' v' (l ++ m) ∧ Keeps (own v) w w' := by
  subst hN hcs
  obtain ⟨i0, hi, hz0, hz1, hz2⟩ := info_parts Tryz.infoS
  have hk := (Keeps.refl (own v) w).alloc (.cells (m.map fun s => Value.string (bs s)).toArray 9)
  have hr2 : (w.alloc (.cells (m.map fun s => Value.string (bs s)).toArray 9)).ownsRow base 9 1 v l.length (l.map fun s => .string (bs s)) := row_old hrow ((Keeps.refl [] w).alloc _) (by simp)
  obtain ⟨v', w', hr, ho, hg, _⟩ := run_append_own (P := Tryz.prog) (w := w.alloc (.cells (m.map fun s => Value.string (bs s)).toArray 9)) base 63 63 9 i0 (.string ⟨#[]⟩) 1 16 Tryz.underlying63 hi hz0 hz1 hz2 rfl (by decide) v l.length _ hr2
    ⟨w.heap.size, 0, none⟩ m.length m.length (m.map fun s => Value.string (bs s)) (by simp) (new_at w _ _) (by intro u hu; simp at hu; obtain ⟨a, _, rfl⟩ := hu; rfl) (by unfold maxLen; omega) (by omega) (by simp; omega)
  refine ⟨v', w', hr, ?_, hk.grown hg (fun q hq => .inl hq)⟩
  unfold RowW
  rw [List.length_append, List.map_append]
  exact ho
theorem append_row (w : World) (base : Nat) (hbase : base ≤ w.heap.size) (v : Value) (l : Wds) (hrow : RowW base w v l) (hn : l.length ≤ 100000) (u : Value) (m : Wds) {b2 : Nat} (hrow2 : RowW b2 w u m) (hm : m.length ≤ 1000) (h0 : m ≠ []) :
    ∃ v' w', (Builtin.append_ #[63, 63] 63 #[v, u]).run Tryz.prog w = .ok v' w' ∧ RowW base w' v' (l ++ m) ∧ Keeps (own v) w w' := by
  obtain ⟨i0, hi, hz0, hz1, hz2⟩ := info_parts Tryz.infoS
  have hrr := hrow2
  rcases hrow2.2 with ⟨rfl, hz⟩ | ⟨g, cap, cur, rfl, _⟩
  · exact absurd (List.eq_nil_of_length_eq_zero hz) h0
  · obtain ⟨v', w', hr, ho, hg, _⟩ := run_append_own (P := Tryz.prog) (w := w) base 63 63 9 i0 (.string ⟨#[]⟩) 1 16 Tryz.underlying63 hi hz0 hz1 hz2 rfl (by decide) v l.length _ hrow
      ⟨g, 0, none⟩ m.length cap (m.map fun s => Value.string (bs s)) (by simp) (fun j u hu => hrr.cells (g := g) rfl j u hu) (by intro u hu; simp at hu; obtain ⟨a, _, rfl⟩ := hu; rfl) (by unfold maxLen; omega) (by omega) (by omega)
    refine ⟨v', w', hr, ?_, (Keeps.refl (own v) w).grown hg (fun q hq => .inl hq)⟩
    unfold RowW
    rw [List.length_append, List.map_append]
    exact ho
end Go.Proofs.YtffldnjjijckcaaGreatDoor
/-
  The document's Cut.
-/
namespace Go.Proofs.YtffldnjjijckcaaGreatDoor
open Go.RowKit
/-- A text under way: what was cut off, where the piece begins, where one stands. -/
structure CutSt (c : UInt8) (s : List UInt8) (out : Wds) (f k : Nat) : Prop where
  hk : k ≤ s.length
  hf : f ≤ k
  ho : out.length ≤ k
  eq : cutAt c s = out ++ cutAt c (s.drop f)
  fr : c ∉ (s.drop f).take (k - f)
theorem CutSt.zero (c : UInt8) (s : List UInt8) : CutSt c s [] 0 0 := ⟨by omega, by omega, by simp, by simp, by simp⟩
theorem getD_at {s : List UInt8} {k : Nat} (h : k < s.length) : s.drop k = s.getD k 0 :: s.drop (k + 1) := by
  rw [List.getD_eq_getElem?_getD, List.getElem?_eq_getElem h]
  exact List.drop_eq_getElem_cons h
theorem take_piece {s : List UInt8} {f k : Nat} (hf : f ≤ k) : s.drop f = (s.drop f).take (k - f) ++ s.drop k := by
  have := List.take_append_drop (k - f) (s.drop f)
  rw [List.drop_drop] at this
  rw [show f + (k - f) = k by omega] at this
  exact this.symm
theorem take_more {s : List UInt8} {f k : Nat} (hf : f ≤ k) (hk : k < s.length) : (s.drop f).take (k + 1 - f) = (s.drop f).take (k - f) ++ [s.getD k 0] := by
  rw [show k + 1 - f = (k - f) + 1 by omega, List.take_add_one, List.getElem?_drop, show f + (k - f) = k by omega, List.getElem?_eq_getElem hk, List.getD_eq_getElem?_getD, List.getElem?_eq_getElem hk]
  rfl
theorem CutSt.hit {c : UInt8} {s : List UInt8} {out : Wds} {f k : Nat} (h : CutSt c s out f k) (hk : k < s.length) (hc : s.getD k 0 = c) : CutSt c s (out ++ [(s.drop f).take (k - f)]) (k + 1) (k + 1) := by
  refine ⟨hk, Nat.le_refl _, by have := h.ho; simp; omega, ?_, by simp⟩
  rw [h.eq, take_piece h.hf, getD_at hk, hc, cutAt_hit _ _ _ h.fr, ← hc, ← getD_at hk, ← take_piece h.hf]
  simp
theorem CutSt.on {c : UInt8} {s : List UInt8} {out : Wds} {f k : Nat} (h : CutSt c s out f k) (hk : k < s.length) (hc : s.getD k 0 ≠ c) : CutSt c s out f (k + 1) := by
  refine ⟨hk, by have := h.hf; omega, by have := h.ho; omega, h.eq, ?_⟩
  rw [take_more h.hf hk]
  simp only [List.mem_append, List.mem_singleton, not_or]
  exact ⟨h.fr, fun e => hc e.symm⟩
theorem CutSt.last {c : UInt8} {s : List UInt8} {out : Wds} {f k : Nat} (h : CutSt c s out f k) (hk : k = s.length) : cutAt c s = out ++ [(s.drop f).take (k - f)] := by
  have e : (s.drop f).take (k - f) = s.drop f := List.take_of_length_le (by simp; omega)
  have := h.fr
  rw [e] at this ⊢
  rw [h.eq, cutAt_free _ _ this]
set_option maxHeartbeats 8000000 in
set_option maxRecDepth 100000 in
theorem r6Cut_any (w : World) (s : List UInt8) (c : UInt8) (hs : s.length ≤ 90000) :
    Calls Tryz.prog 33 #[.string (bs s), .int .u8 c.toNat] w (Words6 w (cutAt c s)) := by
  have hz := bs_size s
  have hby : ∀ (k : Nat) (h : k < (bs s).size), (((bs s)[k]'h).toNat : Int) = ((s.getD k 0).toNat : Int) := fun k h => by
    have e : (bs s)[k]'h = s.getD k 0 := by rw [byte_getD]; rfl
    rw [e]
  have hpc := bs_piece s
  have HB := Lib.hid hby; have HP := Lib.hid hpc
  clear hby hpc
  generalize bs s = S at *
  obtain ⟨C, hC⟩ : ∃ C, c.toNat = C := ⟨_, rfl⟩
  have HC := Lib.hid hC
  rw [hC]
  clear hC
  go_enter Tryz.func33, Tryz.ntmps33
  go_wp2_with fail
  go_loopw [5, 6, 7] (fun v fr i wr => ∃ (out : Wds) (f k : Nat), fr = .int .i64 f ∧ i = .int .i64 k ∧ (CutSt c s out f k ∨ (k = s.length + 1 ∧ out = cutAt c s)) ∧ RowW w.heap.size wr v out ∧ Keeps [] w wr) (fun _ _ i _ => s.length + 1 - (intOf i).toNat)
  case atStart => exact ⟨[], 0, 0, rfl, rfl, .inl (CutSt.zero c s), World.ownsRow_nil _ _ _ _, Keeps.refl _ _⟩
  case round =>
    obtain ⟨out, f, k, rfl, rfl, hst, hrow, hkp⟩ := hrel
    have HR := Lib.hid hrow; have HK := Lib.hid hkp
    have hb := hkp.size
    clear hrow hkp
    rcases hst with hst | ⟨rfl, rfl⟩
    · have hk := hst.hk; have hf := hst.hf; have ho := hst.ho
      have hq : (k : Int) ≤ (S.size : Int) := by omega
      have HS := Lib.hid hst
      clear hst
      by_cases hlt : k < s.length
      · have hks : k < S.size := by omega
        have hbyte := HB.out k hks
        have hne : ((k : Int) == (S.size : Int)) = false := by rw [beq_eq_false_iff_ne]; omega
        by_cases hc : s.getD k 0 = c
        · have hy : (((S[k]'hks).toNat : Int) == (C : Int)) = true := by rw [hbyte, hc, HC.out]; simp
          have hst2 := HS.out.hit hlt hc
          have HS2 := Lib.hid hst2
          clear hst2 HS hc hbyte
          have hpk := HP.out f k
          obtain ⟨v', w', hr, ho2, hk2⟩ := append_lit wr w.heap.size hb u5 out HR.out (by omega) [(s.drop f).take (k - f)] (by simp) 1 rfl #[.string (S.extract f k)] (by rw [hpk]; rfl)
          have HRR := Lib.hid hr; have HO := Lib.hid ho2
          have HKK := Lib.hid (HK.out.trans hk2 (fun q hq => .inr ((row_base HR.out q hq).1)))
          have hf0 : (0 : Int) ≤ f := by omega
          have hfk : (f : Int) ≤ k := by omega
          clear hr ho2 hk2 hpk HB
          go_wp2_with (at_builtin; refine wpList_append_run rfl _ _ 63 rfl _ _ _ _ rfl rfl HRR.out ?_)
          go_roundw
          case rel => exact ⟨_, k + 1, k + 1, by go_num, by go_num, .inl HS2.out, HO.out, HKK.out⟩
          case measure => simp [intOf]; omega
        · have hy : (((S[k]'hks).toNat : Int) == (C : Int)) = false := by
            rw [hbyte, ← HC.out, beq_eq_false_iff_ne]
            exact fun e => hc (UInt8.toNat_inj.1 (Int.ofNat.inj e))
          have HS2 := Lib.hid (HS.out.on hlt hc)
          clear HB hc hbyte
          go_wp2_with fail
          go_roundw
          case rel => exact ⟨out, f, k + 1, rfl, by go_num, .inl HS2.out, HR.out, HK.out⟩
          case measure => simp [intOf]; omega
      · obtain rfl : k = s.length := by omega
        have hne : ((s.length : Int) == (S.size : Int)) = true := by simp; omega
        have hl2 := HS.out.last rfl
        have HS2 := Lib.hid hl2
        clear hl2 HS
        have hpk := HP.out f s.length
        obtain ⟨v', w', hr, ho2, hk2⟩ := append_lit wr w.heap.size hb u5 out HR.out (by omega) [(s.drop f).take (s.length - f)] (by simp) 1 rfl #[.string (S.extract f s.length)] (by rw [hpk]; rfl)
        have HRR := Lib.hid hr; have HO := Lib.hid ho2
        have HKK := Lib.hid (HK.out.trans hk2 (fun q hq => .inr ((row_base HR.out q hq).1)))
        have hf0 : (0 : Int) ≤ f := by omega
        have hfk : (f : Int) ≤ (s.length : Int) := by omega
        clear hr ho2 hk2 hpk HB
        go_wp2_with (at_builtin; refine wpList_append_run rfl _ _ 63 rfl _ _ _ _ rfl rfl HRR.out ?_)
        go_roundw
        case rel => exact ⟨_, s.length + 1, s.length + 1, by go_num, by go_num, .inr ⟨by omega, HS2.out.symm⟩, HO.out, HKK.out⟩
        case measure => simp [intOf]
    · go_wp2_with fail
      go_ret
      exact ⟨_, rfl, HR.out, HK.out⟩
end Go.Proofs.YtffldnjjijckcaaGreatDoor
/-
  The document's behind.
-/
namespace Go.Proofs.YtffldnjjijckcaaGreatDoor
open Go.RowKit
/-- What stands behind the first m places of a byte. -/
def behN (c : UInt8) (m : Nat) (s : List UInt8) : List UInt8 := Lib.join ((cutAt c s).drop m) [c]
/-- How often a byte is there. -/
def cnt (c : UInt8) : List UInt8 → Nat
  | [] => 0
  | x :: r => (if x = c then 1 else 0) + cnt c r
theorem cnt_app (c : UInt8) : ∀ (l m : List UInt8), cnt c (l ++ m) = cnt c l + cnt c m
  | [], m => by simp [cnt]
  | x :: r, m => by simp only [List.cons_append, cnt, cnt_app c r m]; omega
theorem cnt_free (c : UInt8) : ∀ l : List UInt8, c ∉ l → cnt c l = 0
  | [], _ => rfl
  | x :: r, h => by
    simp only [List.mem_cons, not_or] at h
    simp [cnt, cnt_free c r h.2, Ne.symm h.1]
theorem cut_cnt (c : UInt8) : ∀ s, (cutAt c s).length = cnt c s + 1 := by
  refine cut_rec c (P := fun s => (cutAt c s).length = cnt c s + 1) ?_ ?_
  · intro s h
    rw [cutAt_free c s h, cnt_free c s h]; rfl
  · intro w r h ih
    rw [cutAt_hit c w r h, cnt_app, cnt_free c w h, List.length_cons, ih]
    simp [cnt]; omega
theorem beh_few {c : UInt8} {m : Nat} {s : List UInt8} (h : cnt c s < m) : behN c m s = [] := by
  unfold behN
  rw [List.drop_of_length_le (by rw [cut_cnt]; omega)]
  rfl
theorem beh_split {c : UInt8} : ∀ (m : Nat) (a r : List UInt8), cnt c a = m → behN c (m + 1) (a ++ c :: r) = r := by
  intro m
  induction m with
  | zero =>
    intro a r h
    have hf : c ∉ a := by
      intro hm
      obtain ⟨x, y, rfl⟩ := List.append_of_mem hm
      rw [cnt_app] at h
      simp [cnt] at h
    unfold behN
    rw [cutAt_hit c a r hf]
    simp only [List.drop_succ_cons, List.drop_zero]
    exact join_cut c r
  | succ m ih =>
    intro a r h
    rcases cut_ways c a with hf | ⟨w, b, hw, rfl⟩
    · rw [cnt_free c a hf] at h; omega
    · rw [cnt_app, cnt_free c w hw] at h
      simp only [cnt, if_true] at h
      unfold behN
      rw [List.append_assoc, List.cons_append, cutAt_hit c w _ hw, List.drop_succ_cons]
      exact ih b r (by omega)
theorem cnt_take {c : UInt8} {s : List UInt8} {k : Nat} (h : k < s.length) : cnt c (s.take (k + 1)) = cnt c (s.take k) + (if s.getD k 0 = c then 1 else 0) := by
  rw [List.take_add_one, List.getElem?_eq_getElem h, List.getD_eq_getElem?_getD, List.getElem?_eq_getElem h, cnt_app]
  simp [cnt]
set_option maxHeartbeats 8000000 in
set_option maxRecDepth 100000 in
theorem r6behind_any (w : World) (s : List UInt8) (hs : s.length ≤ 90000) :
    Calls Tryz.prog 38 #[.string (bs s)] w fun e w' => e = .returned (.string (bs (behN 32 3 s))) ∧ w' = w := by
  have hz := bs_size s
  have hby : ∀ (k : Nat) (h : k < (bs s).size), (((bs s)[k]'h).toNat : Int) = ((s.getD k 0).toNat : Int) := fun k h => by
    have e : (bs s)[k]'h = s.getD k 0 := by rw [byte_getD]; rfl
    rw [e]
  have hpc : ∀ k, k < s.length → cnt 32 (s.take k) = 2 → s.getD k 0 = 32 → (bs s).extract (k + 1) s.length = bs (behN 32 3 s) := by
    intro k hk h2 hc
    rw [bs_piece]
    congr 1
    have e := List.take_append_drop k s
    rw [getD_at hk, hc] at e
    have := beh_split (c := 32) 2 (s.take k) (s.drop (k + 1)) h2
    rw [e] at this
    rw [this, List.take_of_length_le (by simp)]
  have hfw : cnt 32 s < 3 → bs (behN 32 3 s) = ⟨#[]⟩ := fun h => by rw [beh_few h]; rfl
  have HB := Lib.hid hby; have HP := Lib.hid hpc; have HF := Lib.hid hfw
  clear hby hpc hfw
  generalize bs (behN 32 3 s) = R at *
  generalize bs s = S at *
  go_enter Tryz.func38, Tryz.ntmps38
  go_wp2_with fail
  go_loopw [3, 4] (fun n i wr => ∃ (m k : Nat), n = .int .i64 m ∧ i = .int .i64 k ∧ k ≤ s.length ∧ m ≤ 2 ∧ m = cnt 32 (s.take k) ∧ wr = w) (fun _ i _ => s.length - (intOf i).toNat)
  case atStart => exact ⟨0, 0, rfl, rfl, by omega, by omega, by simp [cnt], rfl⟩
  case round =>
    obtain ⟨m, k, rfl, rfl, hk, hm2, hm, rfl⟩ := hrel
    have HM := Lib.hid hm
    clear hm
    by_cases hlt : k < s.length
    · have hks : k < S.size := by omega
      have hbyte := HB.out k hks
      have hnx := cnt_take (c := 32) hlt
      have hk0 : (0 : Int) ≤ k := by omega
      by_cases hc : s.getD k 0 = 32
      · have hy : (((S[k]'hks).toNat : Int) == 32) = true := by rw [hbyte, hc]; rfl
        rw [if_pos hc, ← HM.out] at hnx
        have HNX := Lib.hid hnx
        by_cases h2 : m = 2
        · subst h2
          have hx := HP.out k hlt HM.out.symm hc
          clear HB HF hnx HNX hc hbyte HP
          have hq : (k : Int) + 1 ≤ S.size := by omega
          subst hx
          go_wp2_with fail
          go_ret
          exact ⟨rfl, rfl⟩
        · have hne : (((m : Int) + 1) == 3) = false := by rw [beq_eq_false_iff_ne]; omega
          clear HB HF hnx hc hbyte HP
          go_wp2_with fail
          go_roundw
          case rel => exact ⟨m + 1, k + 1, by go_num, by go_num, by omega, by omega, HNX.out.symm, by trivial⟩
          case measure => simp [intOf]; omega
      · have hy : (((S[k]'hks).toNat : Int) == 32) = false := by
          rw [hbyte, beq_eq_false_iff_ne]
          exact fun e => hc (UInt8.toNat_inj.1 (show (s.getD k 0).toNat = (32 : UInt8).toNat from Int.ofNat.inj e))
        rw [if_neg hc, ← HM.out] at hnx
        have HNX := Lib.hid hnx
        have hne : ((m : Int) == 3) = false := by rw [beq_eq_false_iff_ne]; omega
        clear HB HF hnx hc hbyte HP
        go_wp2_with fail
        go_roundw
        case rel => exact ⟨m, k + 1, rfl, by go_num, by omega, hm2, HNX.out.symm, by trivial⟩
        case measure => simp [intOf]; omega
    · have hx := HF.out (by have := HM.out; rw [List.take_of_length_le (by omega)] at this; omega)
      clear HB HF HP HM
      subst hx
      go_wp2_with fail
      go_ret
      exact ⟨rfl, rfl⟩
end Go.Proofs.YtffldnjjijckcaaGreatDoor
/-
  Rows under way with room for many; words behind others.
-/
namespace Go.Proofs.YtffldnjjijckcaaGreatDoor
open Go.RowKit
theorem append_micB (w : World) (base : Nat) (hbase : base ≤ w.heap.size) (v : Value) (n : Nat) (l : List Value) (hrow : w.ownsRow base 70 3 v n l) (hn : n ≤ 1000000) (m : Mic) :
    ∃ v' w', (Builtin.append_ #[27, 27] 27 #[v, .slice (some ⟨w.heap.size, 0, none⟩) 1 1]).run Tryz.prog (w.alloc (.cells (micC m) 70)) = .ok v' w' ∧ w'.ownsRow base 70 3 v' (n + 1) (l ++ (micC m).toList) ∧ Keeps (own v) w w' := by
  obtain ⟨i0, hi, hz0, hz1, hz2⟩ := info_parts Tryz.infoM
  have hk := (Keeps.refl (own v) w).alloc (.cells (micC m) 70)
  have hr2 : (w.alloc (.cells (micC m) 70)).ownsRow base 70 3 v n l := row_old hrow ((Keeps.refl [] w).alloc _) (by simp)
  obtain ⟨v', w', hr, ho, hg, _⟩ := run_append_own (P := Tryz.prog) (w := w.alloc (.cells (micC m) 70)) base 27 27 70 i0 (.agg #[.bool false, .int .u8 0, .int .u16 0]) 3 4 Tryz.underlying27 hi hz0 hz1 hz2 rfl (by decide) v n l hr2
    ⟨w.heap.size, 0, none⟩ 1 1 (micC m).toList rfl (three_new w _ _ _ _) (by intro u hu; simp [micC] at hu; rcases hu with rfl | rfl | rfl <;> rfl) (by unfold maxLen; omega) (by omega) (by simp; omega)
  exact ⟨v', w', hr, ho, hk.grown hg (fun q hq => .inl hq)⟩
theorem append_listB (w : World) (base : Nat) (hbase : base ≤ w.heap.size) (v : Value) (n : Nat) (l : List Value) (hrow : w.ownsRow base 54 1 v n l) (hn : n ≤ 1000000) (u : Value) (hu : u.oneCell' = true) :
    ∃ v' w', (Builtin.append_ #[28, 28] 28 #[v, .slice (some ⟨w.heap.size, 0, none⟩) 1 1]).run Tryz.prog (w.alloc (.cells #[u] 54)) = .ok v' w' ∧ w'.ownsRow base 54 1 v' (n + 1) (l ++ [u]) ∧ Keeps (own v) w w' := by
  obtain ⟨i0, hi, hz0, hz1, hz2⟩ := info_parts Tryz.infoL
  have hk := (Keeps.refl (own v) w).alloc (.cells #[u] 54)
  have hr2 : (w.alloc (.cells #[u] 54)).ownsRow base 54 1 v n l := row_old hrow ((Keeps.refl [] w).alloc _) (by simp)
  obtain ⟨v', w', hr, ho, hg, _⟩ := run_append_own (P := Tryz.prog) (w := w.alloc (.cells #[u] 54)) base 28 28 54 i0 (.slice none 0 0) 1 24 Tryz.underlying28 hi hz0 hz1 hz2 rfl (by decide) v n l hr2
    ⟨w.heap.size, 0, none⟩ 1 1 [u] rfl (one_new w _ _) (by intro y hy; simp at hy; subst hy; exact hu) (by unfold maxLen; omega) (by omega) (by simp; omega)
  exact ⟨v', w', hr, ho, hk.grown hg (fun q hq => .inl hq)⟩
theorem append_u16B (w : World) (base : Nat) (hbase : base ≤ w.heap.size) (v : Value) (n : Nat) (l : List Value) (hrow : w.ownsRow base 22 1 v n l) (hn : n ≤ 1000000) (x : Int) :
    ∃ v' w', (Builtin.append_ #[54, 54] 54 #[v, .slice (some ⟨w.heap.size, 0, none⟩) 1 1]).run Tryz.prog (w.alloc (.cells #[.int .u16 x] 22)) = .ok v' w' ∧ w'.ownsRow base 22 1 v' (n + 1) (l ++ [.int .u16 x]) ∧ Keeps (own v) w w' := by
  obtain ⟨i0, hi, hz0, hz1, hz2⟩ := info_parts Tryz.info16
  have hk := (Keeps.refl (own v) w).alloc (.cells #[.int .u16 x] 22)
  have hr2 : (w.alloc (.cells #[.int .u16 x] 22)).ownsRow base 22 1 v n l := row_old hrow ((Keeps.refl [] w).alloc _) (by simp)
  obtain ⟨v', w', hr, ho, hg, _⟩ := run_append_own (P := Tryz.prog) (w := w.alloc (.cells #[.int .u16 x] 22)) base 54 54 22 i0 (.int .u16 0) 1 2 Tryz.underlying54 hi hz0 hz1 hz2 rfl (by decide) v n l hr2
    ⟨w.heap.size, 0, none⟩ 1 1 [.int .u16 x] rfl (one_new w _ _) (by intro u hu; simp at hu; subst hu; rfl) (by unfold maxLen; omega) (by omega) (by simp; omega)
  exact ⟨v', w', hr, ho, hk.grown hg (fun q hq => .inl hq)⟩
theorem Strs.at {N : Nat} {w : World} {a : Option Addr} {n c : Nat} {l : Wds} (h : Strs N w (.slice a n c) l) (hl : l ≠ []) : n = l.length ∧ l.length ≤ c ∧ c ≤ 9223372036854775807 ∧ ∃ bk o, a = some ⟨bk, o, none⟩ ∧ bk < N ∧
    (∀ j, j < l.length → w.cell? ⟨bk, o + j, none⟩ = some (.string (bs (l.getD j [])))) ∧
    ∀ k, k ≤ l.length → ∀ a2, (l.drop k ≠ [] → a2 = some ⟨bk, o + k, none⟩) → Strs N w (.slice a2 (l.length - k) (c - k)) (l.drop k) := by
  obtain ⟨a', c', hv, hc, hm, h⟩ := h
  simp only [Value.slice.injEq] at hv
  obtain ⟨rfl, rfl, rfl⟩ := hv
  obtain ⟨bk, o, rfl, hb, hcell⟩ := h hl
  refine ⟨rfl, hc, hm, bk, o, rfl, hb, hcell, fun k hk a2 ha2 => ⟨a2, c - k, by rw [List.length_drop], by rw [List.length_drop]; omega, by omega, fun hd => ⟨bk, o + k, ha2 hd, hb, fun j hj => ?_⟩⟩⟩
  rw [List.length_drop] at hj
  have := hcell (k + j) (by omega)
  have e : o + k + j = o + (k + j) := by omega
  rw [e, this]
  congr 3
  rw [List.getD_eq_getElem?_getD, List.getD_eq_getElem?_getD, List.getElem?_drop]
theorem Strs.shape {N : Nat} {w : World} {v : Value} {l : Wds} (h : Strs N w v l) : ∃ a c, v = .slice a l.length c ∧ l.length ≤ c ∧ c ≤ 9223372036854775807 := by
  obtain ⟨a, c, h1, h2, h3, _⟩ := h
  exact ⟨a, c, h1, h2, h3⟩
theorem drop_addr {c k : Nat} {bk o : Nat} {l : Wds} {A2 : Option Addr} (h : (if c = k then some (⟨bk, o, none⟩ : Addr) else some ⟨bk, o + k, none⟩) = A2) (hc : l.length ≤ c) (hd : l.drop k ≠ []) : A2 = some ⟨bk, o + k, none⟩ := by
  have : k < l.length := by
    rcases Nat.lt_or_ge k l.length with h1 | h1
    · exact h1
    · exact absurd (List.drop_eq_nil_of_le h1) hd
  rw [← h, if_neg (by omega)]
end Go.Proofs.YtffldnjjijckcaaGreatDoor
/-
  The words behind a line's kind: invoke, return.
-/
namespace Go.Proofs.YtffldnjjijckcaaGreatDoor
open Go.RowKit
theorem ev_load {w : World} {b : Nat} {x : Ev} {tx rd : Value} (h : w.heap[b]? = some (.cells (evC x tx rd) 32 (0, 0))) : (Instr.loadAt 32 (.pointer (some ⟨b, 0, none⟩))).run Tryz.prog w = .ok (.agg (evC x tx rd)) w := by
  simp only [Instr.loadAt, Instr.sureAddr, Sem.run_bind, Sem.run_pure, Result.andThen_ok, run_loadVar_row w _ _ 32 _ _ _ h Tryz.underlying32 rfl (by kernel_rfl)]
set_option maxHeartbeats 8000000 in
set_option maxRecDepth 100000 in
theorem wordsOfInvoke_any (w : World) (hG : Glob6 w) (x : Ev) (hx : x.In) (hg : opGood x.o = true) (tx rd : Value) : Calls Tryz.prog 49 #[.agg (evC x tx rd)] w (Words6 w (whoW x ++ opWords x.o)) := by
  have hk0 := (Keeps.refl [] w).alloc (.cells (evC x tx rd) 32)
  have HX := Lib.hid (heap_alloc_new w (.cells (evC x tx rd) 32))
  have HG0 := Lib.hid (hG.new hk0)
  have ho := fun w hG => opWords_any w hG x.o hx.o
  have hwo : wordsOf x.o = opWords x.o := by unfold wordsOf; rw [if_pos hg]
  rw [hwo] at ho
  simp only [Opn.val] at ho
  have HO := Lib.hid ho
  have HK := Lib.hid hk0
  have hz : w.heap.size < (w.alloc (.cells (evC x tx rd) 32)).heap.size := lt_of_block HX.out
  clear hk0 ho hwo hg
  go_enter Tryz.func49, Tryz.ntmps49
  go_wp2_with fail
  generalize w.alloc (.cells (evC x tx rd) 32) = w1 at *
  refine wp_region_noPanic ?_
  refine wp_region_held_drew (S := fun w' => w'.heap[w.heap.size]? = some (.cells (evC x tx rd) 32 (0, 0))) (by kernel_rfl) HX.out (fun hHeld => ?_)
  apply wpAnyH_take (i := 0) (v := .agg (evC x tx rd))
  · simp only [List.getElem?_toArray]; rfl
  · kernel_rfl
  · kernel_rfl
  · kernel_rfl
  · exact fun _ _ _ h => h
  · exact yields_ev (by rfl) _ rfl w.heap.size rfl (fun w hSw => ev_load hSw)
  · assumption
  try simp only [Act.put, List.setIfInBounds_toArray, List.set_cons_zero, List.set_cons_succ]
  apply wpAnyH_take (i := 2) (v := .pointer (some ⟨w.heap.size, 3, none⟩))
  · simp only [List.getElem?_toArray]; rfl
  · kernel_rfl
  · kernel_rfl
  · kernel_rfl
  · exact fun _ _ _ h => h
  · exact Or.inl ⟨by rfl, by intro w hSw; go_simp; try with_reducible rfl⟩
  · assumption
  try simp only [Act.put, List.setIfInBounds_toArray, List.set_cons_zero, List.set_cons_succ]
  apply wpAnyH_take (i := 3) (v := .agg #[.int .u8 x.o.f, .int .u8 x.o.o, .int .u8 x.o.k, .int .u16 x.o.a, .int .u16 x.o.b])
  · simp only [List.getElem?_toArray]; rfl
  · kernel_rfl
  · kernel_rfl
  · kernel_rfl
  · exact fun _ _ _ h => h
  · exact Or.inl ⟨by rfl, by intro w hSw; have d3 := ev_cell hSw 3 (evC_3 x tx rd); have d4 := ev_cell hSw 4 (evC_4 x tx rd); have d5 := ev_cell hSw 5 (evC_5 x tx rd); have d6 := ev_cell hSw 6 (evC_6 x tx rd); have d7 := ev_cell hSw 7 (evC_7 x tx rd); go_simp; try with_reducible rfl⟩
  · assumption
  try simp only [Act.put, List.setIfInBounds_toArray, List.set_cons_zero, List.set_cons_succ]
  apply wpAnyH_ready (rs := [1])
  · kernel_rfl
  · simp
  apply AllReadyH.cons (hs := AllReadyH.nil)
  · simp only [List.getElem?_toArray]; rfl
  intro K hK
  rw [if_pos (by rfl)]
  go_simp
  refine (wordsOfWho_any _ (HG0.out.new (Keeps.refl [] w1).drew) x hx tx rd).mono ?_; rintro e w2 ⟨v2, rfl, hrow2, hk2⟩
  have hk2' := hk2.undrew
  replace hrow2 : RowW w1.heap.size w2 v2 (whoW x) := hrow2
  have hX2 := hk2'.heap HX.out (by simp)
  have HG2 := Lib.hid (HG0.out.new hk2')
  have hz2 : w1.heap.size ≤ w2.heap.size := hk2.size
  go_wp2_with fail
  refine hK.out _ _ ?_ (fun hHeld => ?_)
  · exact hX2
  clear hK K
  try simp only [Act.put, List.setIfInBounds_toArray, List.set_cons_zero, List.set_cons_succ]
  apply wpAnyH_ready (rs := [4])
  · kernel_rfl
  · simp
  apply AllReadyH.cons (hs := AllReadyH.nil)
  · simp only [List.getElem?_toArray]; rfl
  intro K hK
  rw [if_pos (by rfl)]
  go_simp
  refine (HO.out _ HG2.out.o).mono ?_; rintro e w3 ⟨v3, rfl, hrow3, hk3, hf3⟩
  have hX3 := hk3.heap hX2 (by simp)
  have hrow23 := row_old hrow2 hk3 (by simp)
  go_wp2_with fail
  refine hK.out _ _ ?_ (fun hHeld => ?_)
  · exact hX3
  clear hK K
  try simp only [Act.put, List.setIfInBounds_toArray, List.set_cons_zero, List.set_cons_succ]
  obtain ⟨v', w4, hr4, ho4, hk4⟩ := append_row w3 w1.heap.size (Nat.le_trans hz2 hk3.size) v2 (whoW x) hrow23 (by simp [whoW]) v3 (opWords x.o) (b2 := 0) hrow3 (by rw [words_length]; have := (opWN_le x.o.f).2; omega) (fun e => by have := words_length x.o; rw [e] at this; have := (opWN_le x.o.f).1; simp at *; omega)
  have hX4 := hk4.heap hX3 (fun hm => by have := (row_base hrow23 _ hm).1; omega)
  apply wpAnyH_ready (rs := [5])
  · kernel_rfl
  · simp
  apply AllReadyH.cons (hs := AllReadyH.nil)
  · simp only [List.getElem?_toArray]; rfl
  intro K hK
  rw [if_pos (by rfl)]
  refine wp_append_run _ _ 63 rfl _ _ _ _ rfl rfl hr4 ?_
  refine hK.out _ _ ?_ (fun hHeld => ?_)
  · exact hX4
  clear hK K
  try simp only [Act.put, List.setIfInBounds_toArray, List.set_cons_zero, List.set_cons_succ]
  apply wpAnyH_take (i := 6) (v := v')
  · simp only [List.getElem?_toArray]; rfl
  · kernel_rfl
  · kernel_rfl
  · kernel_rfl
  · exact fun _ _ _ h => h
  · exact Or.inl ⟨by rfl, by intro w hSw; go_simp; try with_reducible rfl⟩
  · assumption
  try simp only [Act.put, List.setIfInBounds_toArray, List.set_cons_zero, List.set_cons_succ]
  refine wpAnyH_done (by kernel_rfl) ?_ _
  refine NoPanic.normal ?_
  have hkf : Keeps [] w w4 := HK.out.trans ((hk2'.trans hk3 (FSub.refl _ _)).trans hk4 (fun y hy => .inr (row_base hrow23 y hy).1)) (FSub.refl _ _)
  have HO4 := Lib.hid ho4
  clear hr4 ho4 hk4 hrow2 hrow3 hrow23 hk2 hk2' hk3 hf3 hX2 hX3 hX4
  go_wp2_with fail
  go_ret
  exact ⟨_, rfl, row_up HO4.out (fun y hy => by have := (row_base HO4.out y hy).1; omega), hkf⟩
set_option maxHeartbeats 8000000 in
set_option maxRecDepth 100000 in
theorem wordsOfReturn_any (w : World) (hG : Glob6 w) (x : Ev) (hx : x.In) (hg : rsGood x.rk x.rv = true) (tx rd : Value) : Calls Tryz.prog 51 #[.agg (evC x tx rd)] w (Words6 w (whoW x ++ [rsTxt x.rk x.rv])) := by
  have hk0 := (Keeps.refl [] w).alloc (.cells (evC x tx rd) 32)
  have HX := Lib.hid (heap_alloc_new w (.cells (evC x tx rd) 32))
  have HG0 := Lib.hid (hG.new hk0)
  have ht := fun w hG => Text_any w hG x.rk x.rv hx.rk0 hx.rk1 hx.rv0 hx.rv1
  rw [hg] at ht
  simp only [if_true] at ht
  have HT := Lib.hid ht
  have HK := Lib.hid hk0
  have hz : w.heap.size < (w.alloc (.cells (evC x tx rd) 32)).heap.size := lt_of_block HX.out
  have c8 := ev_cell HX.out 8 (evC_8 x tx rd); have c9 := ev_cell HX.out 9 (evC_9 x tx rd)
  generalize hRT : bs (rsTxt x.rk x.rv) = RT at *
  have HRT := Lib.hid hRT
  clear hk0 ht hg hRT
  go_enter Tryz.func51, Tryz.ntmps51
  go_wp2_with fail
  generalize w.alloc (.cells (evC x tx rd) 32) = w1 at *
  refine (HT.out _ HG0.out.r).mono ?_; rintro e w2 ⟨rfl, hk2⟩
  have HX2 := Lib.hid (hk2.heap HX.out (by simp))
  have HG2 := Lib.hid (HG0.out.new hk2)
  have HK2 := Lib.hid (HK.out.trans hk2 (FSub.refl _ _))
  clear HX HG0 HK HT c8 c9 hk2
  go_wp2_with ((with_reducible apply wpList_load_ev); exact rfl; exact HX2.out; exact rfl)
  refine (wordsOfWho_any _ HG2.out x hx tx rd).mono ?_; rintro e w3 ⟨v3, rfl, hrow3, hk3⟩
  obtain ⟨v', w4, hr4, ho4, hk4⟩ := append_lit w3 w2.heap.size hk3.size v3 (whoW x) hrow3 (by simp [whoW]) [rsTxt x.rk x.rv] (by simp) 1 rfl #[.string RT] (by rw [← HRT.out]; rfl)
  have hkf : Keeps [] w w4 := HK2.out.trans (hk3.trans hk4 (fun y hy => .inr (row_base hrow3 y hy).1)) (FSub.refl _ _)
  have HO4 := Lib.hid ho4; have HR4 := Lib.hid hr4
  have hz2 := HK2.out.size
  clear hr4 ho4 hk4 hrow3 hk3
  go_wp2_with (at_builtin; refine wpList_append_run rfl _ _ 63 rfl _ _ _ _ rfl rfl HR4.out ?_)
  go_ret
  exact ⟨_, rfl, row_up HO4.out (fun y hy => by have := (row_base HO4.out y hy).1; omega), hkf⟩
end Go.Proofs.YtffldnjjijckcaaGreatDoor
/-
  The words behind a line's kind: config.
-/
namespace Go.Proofs.YtffldnjjijckcaaGreatDoor
open Go.RowKit
theorem Glob6.model {w : World} (h : Glob6 w) (i : Nat) (hi : i < 5) : w.cell? ⟨0, i, none⟩ = some (.string (bs (mdNm i))) := by
  obtain ⟨t, fr, hw⟩ := h.models
  have hc : modelCells[i]? = some (.string (bs (mdNm i))) := by
    rcases (by omega : i = 0 ∨ i = 1 ∨ i = 2 ∨ i = 3 ∨ i = 4) with rfl | rfl | rfl | rfl | rfl <;> rfl
  simp [World.cell?, hw, hc]
/-- A config's words under way. -/
structure CfgSt (w : World) (B base : Nat) (cs : Array Value) (W : World) (v : Value) (l : Wds) : Prop where
  heap : W.heap[B]? = some (.cells cs 30 (0, 0))
  row : RowW base W v l
  keeps : Keeps [] w W
  lt : B < base
  le : base ≤ W.heap.size
  wb : w.heap.size ≤ base
theorem CfgSt.cell {w : World} {B base : Nat} {cs : Array Value} {W : World} {v : Value} {l : Wds} (h : CfgSt w B base cs W v l) (i : Nat) (u : Value) (hu : cs[i]? = some u) : W.cell? ⟨B, i, none⟩ = some u := by
  simp [World.cell?, h.heap, hu]
theorem CfgSt.add {w : World} {B base : Nat} {cs : Array Value} {W : World} {v : Value} {l : Wds} (h : CfgSt w B base cs W v l) (m : List UInt8) (S : ByteArray) (hS : S = bs m) (hn : l.length ≤ 1000) :
    ∃ v' w', (Builtin.append_ #[63, 63] 63 #[v, .slice (some ⟨W.heap.size, 0, none⟩) 1 1]).run Tryz.prog (W.alloc (.cells #[.string S] 9)) = .ok v' w' ∧ CfgSt w B base cs w' v' (l ++ [m]) := by
  subst hS
  obtain ⟨v', w', hr, ho, hk⟩ := append_lit W base h.le v l h.row (by omega) [m] (by simp) 1 rfl #[.string (bs m)] rfl
  have hF : ∀ y ∈ own v, base ≤ y := fun y hy => (row_base h.row y hy).1
  exact ⟨v', w', hr, hk.heap h.heap (fun hm => by have := hF _ hm; have := h.lt; omega), ho, h.keeps.trans hk (fun y hy => .inr (by have := hF y hy; have := h.wb; omega)), h.lt, Nat.le_trans h.le hk.size, h.wb⟩
set_option maxHeartbeats 16000000 in
set_option maxRecDepth 100000 in
theorem wordsOfConfig_any (w : World) (hG : Glob6 w) (x : Ev) (hx : x.In) (hg : cfgGood x.g = true) (tx rd : Value) : Calls Tryz.prog 47 #[.agg (evC x tx rd)] w (Words6 w (cfgW x.g)) := by
  obtain ⟨g1, g2, g3, g4⟩ := cfg_all hg
  have hk0 := (Keeps.refl [] w).alloc (.cells (evC x tx rd) 32)
  have HX := Lib.hid (heap_alloc_new w (.cells (evC x tx rd) 32))
  have HG0 := Lib.hid (hG.new hk0)
  have HK := Lib.hid hk0
  have hz : (w.alloc (.cells (evC x tx rd) 32)).heap.size = w.heap.size + 1 := by simp
  obtain ⟨M, hM⟩ := Int.eq_ofNat_of_zero_le hx.m0
  have hM5 : M < 5 := by omega
  have N1 := Lib.hid (fun w hG => Itoa6_any w hG x.g.mo (by omega) (by omega))
  have N2 := Lib.hid (fun w hG => Itoa6_any w hG x.g.ms (by omega) (by omega))
  have N3 := Lib.hid (fun w hG => Itoa6_any w hG x.g.mt (by omega) (by omega))
  have c12 := ev_cell HX.out 12 (evC_12 x tx rd); have c13 := ev_cell HX.out 13 (evC_13 x tx rd); have c14 := ev_cell HX.out 14 (evC_14 x tx rd); have c15 := ev_cell HX.out 15 (evC_15 x tx rd)
  have c16 := ev_cell HX.out 16 (evC_16 x tx rd); have c17 := ev_cell HX.out 17 (evC_17 x tx rd); have c18 := ev_cell HX.out 18 (evC_18 x tx rd)
  rw [hM] at c12
  obtain ⟨FP, hFP⟩ : ∃ F, x.g.p = F := ⟨_, rfl⟩
  obtain ⟨FC, hFC⟩ : ∃ F, x.g.cu = F := ⟨_, rfl⟩
  obtain ⟨FM, hFM⟩ : ∃ F, x.g.me = F := ⟨_, rfl⟩
  rw [hFP] at c16; rw [hFC] at c17; rw [hFM] at c18
  have hL : cfgW x.g = [mdNm M, dec x.g.mo, dec x.g.ms, dec x.g.mt] ++ flagW FP partL ++ flagW FC cutL ++ flagW FM memoL := by unfold cfgW; rw [hM, hFP, hFC, hFM]
  rw [hL]
  generalize x.g.mo = MO at *
  generalize x.g.ms = MS at *
  generalize x.g.mt = MT at *
  generalize hd1 : bs (dec MO) = D1 at *
  generalize hd2 : bs (dec MS) = D2 at *
  generalize hd3 : bs (dec MT) = D3 at *
  have HD1 := Lib.hid hd1; have HD2 := Lib.hid hd2; have HD3 := Lib.hid hd3
  clear hk0 hg hM hFP hFC hFM hL hd1 hd2 hd3 hG hx
  go_enter Tryz.func47, Tryz.ntmps47
  go_wp2_with ((with_reducible apply wpList_put_row (T := 30) 7); exact rfl; exact rfl; exact heap_alloc_at (by simp); exact ⟨rfl, rfl⟩; kernel_rfl; exact rfl)
  intro W2 hb2 hk2
  generalize w.alloc (.cells (evC x tx rd) 32) = w1 at *
  have hk2' : Keeps [] w1 W2 := ((Keeps.refl [] w1).alloc _).trans hk2 (fun y hy => .inr (by simp at hy; omega))
  have HG2 := Lib.hid (HG0.out.new hk2')
  have HK2 := Lib.hid (HK.out.trans hk2' (FSub.refl _ _))
  have hzb : w.heap.size + 1 < W2.heap.size := lt_of_block hb2
  clear hz
  generalize hBB : w.heap.size + 1 = B at *
  have e0 : W2.cell? ⟨B, 0, none⟩ = some (.int .u8 M) := by simp [World.cell?, hb2]
  have e1 : W2.cell? ⟨B, 1, none⟩ = some (.int .i64 MO) := by simp [World.cell?, hb2]
  have e2 : W2.cell? ⟨B, 2, none⟩ = some (.int .i64 MS) := by simp [World.cell?, hb2]
  have e3 : W2.cell? ⟨B, 3, none⟩ = some (.int .i64 MT) := by simp [World.cell?, hb2]
  have em := HG2.out.model M hM5
  have HB2 := Lib.hid hb2
  have HGD := Lib.hid (HG2.out.new (Keeps.refl [] W2).drew)
  generalize hmd : bs (mdNm M) = MD at *
  have HMD := Lib.hid hmd
  have hmb : 0 < W2.heap.size := World.block_lt_of_cell? _ _ em
  have hi0 : (0 : Int) ≤ (M : Int) := by omega
  have hi5 : (M : Int) < 5 := by omega
  clear hk2 hk2' hb2 HX HG0 HK c12 c13 c14 c15 c16 c17 c18 hmd
  go_wp2_with fail
  go_region_held3 (fun w' => w'.cell? ⟨B, 0, none⟩ = some (.int .u8 M) ∧ w'.cell? ⟨B, 1, none⟩ = some (.int .i64 MO) ∧ w'.cell? ⟨B, 2, none⟩ = some (.int .i64 MS) ∧ w'.cell? ⟨B, 3, none⟩ = some (.int .i64 MT) ∧ w'.cell? ⟨0, M, none⟩ = some (.string MD))
    (first | (refine ⟨?_, ?_, ?_, ?_, ?_⟩ <;> assumption) | go_keep)
    (first
      | (go_at_call 75; (with_reducible refine (N1.out _ HGD.out).mono ?_); rintro e wA ⟨rfl, hkA⟩; have kA : Keeps [] W2 wA := Keeps.undrew hkA; have gA := HGD.out.new hkA; have a0 := kA.cell e0 (by simp); have a1 := kA.cell e1 (by simp); have a2 := kA.cell e2 (by simp); have a3 := kA.cell e3 (by simp); have a4 := kA.cell em (by simp))
      | (go_at_call 75; (with_reducible refine (N2.out _ gA).mono ?_); rintro e wB ⟨rfl, hkB⟩; have kB : Keeps [] W2 wB := kA.trans hkB (FSub.refl _ _); have gB := gA.new hkB; have b0 := kB.cell e0 (by simp); have b1 := kB.cell e1 (by simp); have b2 := kB.cell e2 (by simp); have b3 := kB.cell e3 (by simp); have b4 := kB.cell em (by simp))
      | (go_at_call 75; (with_reducible refine (N3.out _ gB).mono ?_); rintro e wC ⟨rfl, hkC⟩; have kC : Keeps [] W2 wC := kB.trans hkC (FSub.refl _ _); have d0 := kC.cell e0 (by simp); have d1 := kC.cell e1 (by simp); have d2 := kC.cell e2 (by simp); have d3 := kC.cell e3 (by simp); have d4 := kC.cell em (by simp)))
  have hst : CfgSt w B wC.heap.size #[.int .u8 M, .int .i64 MO, .int .i64 MS, .int .i64 MT, .bool FP, .bool FC, .bool FM] (wC.alloc (.cells #[.string MD, .string D1, .string D2, .string D3] 9)) (.slice (some ⟨wC.heap.size, 0, none⟩) 4 4) [mdNm M, dec MO, dec MS, dec MT] := by
    have hr := World.ownsRow_lit (base := wC.heap.size) (e := 9) (size := 1) wC #[.string MD, .string D1, .string D2, .string D3] 4 (Nat.le_refl _) (by decide) rfl
    have hzc := kC.size
    refine ⟨heap_alloc_lt (kC.heap HB2.out (by simp)), ?_, (HK2.out.trans kC (FSub.refl _ _)).alloc _, by omega, by simp, by omega⟩
    unfold RowW
    rw [List.map_cons, List.map_cons, List.map_cons, List.map_cons, HMD.out, HD1.out, HD2.out, HD3.out]
    exact hr
  have S0 := Lib.hid hst
  clear hst hkA kA gA a0 a1 a2 a3 a4 hkB kB gB b0 b1 b2 b3 b4 hkC d0 d1 d2 d3 d4 e0 e1 e2 e3 em HGD HG2 HMD HD1 HD2 HD3 N1 N2 N3 HB2 hi0 hi5 hmb
  have hzC : w.heap.size ≤ wC.heap.size := by have := HK2.out.size; have := kC.size; omega
  clear kC HK2
  generalize wC.alloc (.cells #[.string MD, .string D1, .string D2, .string D3] 9) = WD at *
  generalize (Value.slice (some ⟨wC.heap.size, 0, none⟩) 4 4) = VD at *
  cases FP <;> cases FC <;> cases FM
  · have f04 := S0.out.cell 4 (.bool false) rfl; have f05 := S0.out.cell 5 (.bool false) rfl; have f06 := S0.out.cell 6 (.bool false) rfl
    go_wp2_with fail
    go_ret
    exact ⟨_, rfl, by have hrf := row_up (b2 := w.heap.size) S0.out.row (fun y hy => by have h1 := (row_base S0.out.row y hy).1; omega); simpa [RowW, flagW] using hrf, S0.out.keeps⟩
  · have f04 := S0.out.cell 4 (.bool false) rfl; have f05 := S0.out.cell 5 (.bool false) rfl; have f06 := S0.out.cell 6 (.bool true) rfl
    obtain ⟨v1, w1, hr1, hs⟩ := S0.out.add memoL (⟨#[109, 101, 109, 111]⟩ : ByteArray) rfl (by simp)
    have HR1 := Lib.hid hr1
    have S1 := Lib.hid hs
    clear hr1 hs
    have f14 := S1.out.cell 4 (.bool false) rfl; have f15 := S1.out.cell 5 (.bool false) rfl; have f16 := S1.out.cell 6 (.bool true) rfl
    go_wp2_with (at_builtin; first | (refine wpList_append_run rfl _ _ 63 rfl _ _ _ _ rfl rfl HR1.out ?_))
    go_ret
    exact ⟨_, rfl, by have hrf := row_up (b2 := w.heap.size) S1.out.row (fun y hy => by have h1 := (row_base S1.out.row y hy).1; omega); simpa [RowW, flagW] using hrf, S1.out.keeps⟩
  · have f04 := S0.out.cell 4 (.bool false) rfl; have f05 := S0.out.cell 5 (.bool true) rfl; have f06 := S0.out.cell 6 (.bool false) rfl
    obtain ⟨v1, w1, hr1, hs⟩ := S0.out.add cutL (⟨#[99, 117, 116]⟩ : ByteArray) rfl (by simp)
    have HR1 := Lib.hid hr1
    have S1 := Lib.hid hs
    clear hr1 hs
    have f14 := S1.out.cell 4 (.bool false) rfl; have f15 := S1.out.cell 5 (.bool true) rfl; have f16 := S1.out.cell 6 (.bool false) rfl
    go_wp2_with (at_builtin; first | (refine wpList_append_run rfl _ _ 63 rfl _ _ _ _ rfl rfl HR1.out ?_))
    go_ret
    exact ⟨_, rfl, by have hrf := row_up (b2 := w.heap.size) S1.out.row (fun y hy => by have h1 := (row_base S1.out.row y hy).1; omega); simpa [RowW, flagW] using hrf, S1.out.keeps⟩
  · have f04 := S0.out.cell 4 (.bool false) rfl; have f05 := S0.out.cell 5 (.bool true) rfl; have f06 := S0.out.cell 6 (.bool true) rfl
    obtain ⟨v1, w1, hr1, hs⟩ := S0.out.add cutL (⟨#[99, 117, 116]⟩ : ByteArray) rfl (by simp)
    have HR1 := Lib.hid hr1
    have S1 := Lib.hid hs
    clear hr1 hs
    have f14 := S1.out.cell 4 (.bool false) rfl; have f15 := S1.out.cell 5 (.bool true) rfl; have f16 := S1.out.cell 6 (.bool true) rfl
    obtain ⟨v2, w2, hr2, hs⟩ := S1.out.add memoL (⟨#[109, 101, 109, 111]⟩ : ByteArray) rfl (by simp)
    have HR2 := Lib.hid hr2
    have S2 := Lib.hid hs
    clear hr2 hs
    have f24 := S2.out.cell 4 (.bool false) rfl; have f25 := S2.out.cell 5 (.bool true) rfl; have f26 := S2.out.cell 6 (.bool true) rfl
    go_wp2_with (at_builtin; first | (refine wpList_append_run rfl _ _ 63 rfl _ _ _ _ rfl rfl HR1.out ?_) | (refine wpList_append_run rfl _ _ 63 rfl _ _ _ _ rfl rfl HR2.out ?_))
    go_ret
    exact ⟨_, rfl, by have hrf := row_up (b2 := w.heap.size) S2.out.row (fun y hy => by have h1 := (row_base S2.out.row y hy).1; omega); simpa [RowW, flagW] using hrf, S2.out.keeps⟩
  · have f04 := S0.out.cell 4 (.bool true) rfl; have f05 := S0.out.cell 5 (.bool false) rfl; have f06 := S0.out.cell 6 (.bool false) rfl
    obtain ⟨v1, w1, hr1, hs⟩ := S0.out.add partL (⟨#[112, 97, 114, 116, 105, 116, 105, 111, 110]⟩ : ByteArray) rfl (by simp)
    have HR1 := Lib.hid hr1
    have S1 := Lib.hid hs
    clear hr1 hs
    have f14 := S1.out.cell 4 (.bool true) rfl; have f15 := S1.out.cell 5 (.bool false) rfl; have f16 := S1.out.cell 6 (.bool false) rfl
    go_wp2_with (at_builtin; first | (refine wpList_append_run rfl _ _ 63 rfl _ _ _ _ rfl rfl HR1.out ?_))
    go_ret
    exact ⟨_, rfl, by have hrf := row_up (b2 := w.heap.size) S1.out.row (fun y hy => by have h1 := (row_base S1.out.row y hy).1; omega); simpa [RowW, flagW] using hrf, S1.out.keeps⟩
  · have f04 := S0.out.cell 4 (.bool true) rfl; have f05 := S0.out.cell 5 (.bool false) rfl; have f06 := S0.out.cell 6 (.bool true) rfl
    obtain ⟨v1, w1, hr1, hs⟩ := S0.out.add partL (⟨#[112, 97, 114, 116, 105, 116, 105, 111, 110]⟩ : ByteArray) rfl (by simp)
    have HR1 := Lib.hid hr1
    have S1 := Lib.hid hs
    clear hr1 hs
    have f14 := S1.out.cell 4 (.bool true) rfl; have f15 := S1.out.cell 5 (.bool false) rfl; have f16 := S1.out.cell 6 (.bool true) rfl
    obtain ⟨v2, w2, hr2, hs⟩ := S1.out.add memoL (⟨#[109, 101, 109, 111]⟩ : ByteArray) rfl (by simp)
    have HR2 := Lib.hid hr2
    have S2 := Lib.hid hs
    clear hr2 hs
    have f24 := S2.out.cell 4 (.bool true) rfl; have f25 := S2.out.cell 5 (.bool false) rfl; have f26 := S2.out.cell 6 (.bool true) rfl
    go_wp2_with (at_builtin; first | (refine wpList_append_run rfl _ _ 63 rfl _ _ _ _ rfl rfl HR1.out ?_) | (refine wpList_append_run rfl _ _ 63 rfl _ _ _ _ rfl rfl HR2.out ?_))
    go_ret
    exact ⟨_, rfl, by have hrf := row_up (b2 := w.heap.size) S2.out.row (fun y hy => by have h1 := (row_base S2.out.row y hy).1; omega); simpa [RowW, flagW] using hrf, S2.out.keeps⟩
  · have f04 := S0.out.cell 4 (.bool true) rfl; have f05 := S0.out.cell 5 (.bool true) rfl; have f06 := S0.out.cell 6 (.bool false) rfl
    obtain ⟨v1, w1, hr1, hs⟩ := S0.out.add partL (⟨#[112, 97, 114, 116, 105, 116, 105, 111, 110]⟩ : ByteArray) rfl (by simp)
    have HR1 := Lib.hid hr1
    have S1 := Lib.hid hs
    clear hr1 hs
    have f14 := S1.out.cell 4 (.bool true) rfl; have f15 := S1.out.cell 5 (.bool true) rfl; have f16 := S1.out.cell 6 (.bool false) rfl
    obtain ⟨v2, w2, hr2, hs⟩ := S1.out.add cutL (⟨#[99, 117, 116]⟩ : ByteArray) rfl (by simp)
    have HR2 := Lib.hid hr2
    have S2 := Lib.hid hs
    clear hr2 hs
    have f24 := S2.out.cell 4 (.bool true) rfl; have f25 := S2.out.cell 5 (.bool true) rfl; have f26 := S2.out.cell 6 (.bool false) rfl
    go_wp2_with (at_builtin; first | (refine wpList_append_run rfl _ _ 63 rfl _ _ _ _ rfl rfl HR1.out ?_) | (refine wpList_append_run rfl _ _ 63 rfl _ _ _ _ rfl rfl HR2.out ?_))
    go_ret
    exact ⟨_, rfl, by have hrf := row_up (b2 := w.heap.size) S2.out.row (fun y hy => by have h1 := (row_base S2.out.row y hy).1; omega); simpa [RowW, flagW] using hrf, S2.out.keeps⟩
  · have f04 := S0.out.cell 4 (.bool true) rfl; have f05 := S0.out.cell 5 (.bool true) rfl; have f06 := S0.out.cell 6 (.bool true) rfl
    obtain ⟨v1, w1, hr1, hs⟩ := S0.out.add partL (⟨#[112, 97, 114, 116, 105, 116, 105, 111, 110]⟩ : ByteArray) rfl (by simp)
    have HR1 := Lib.hid hr1
    have S1 := Lib.hid hs
    clear hr1 hs
    have f14 := S1.out.cell 4 (.bool true) rfl; have f15 := S1.out.cell 5 (.bool true) rfl; have f16 := S1.out.cell 6 (.bool true) rfl
    obtain ⟨v2, w2, hr2, hs⟩ := S1.out.add cutL (⟨#[99, 117, 116]⟩ : ByteArray) rfl (by simp)
    have HR2 := Lib.hid hr2
    have S2 := Lib.hid hs
    clear hr2 hs
    have f24 := S2.out.cell 4 (.bool true) rfl; have f25 := S2.out.cell 5 (.bool true) rfl; have f26 := S2.out.cell 6 (.bool true) rfl
    obtain ⟨v3, w3, hr3, hs⟩ := S2.out.add memoL (⟨#[109, 101, 109, 111]⟩ : ByteArray) rfl (by simp)
    have HR3 := Lib.hid hr3
    have S3 := Lib.hid hs
    clear hr3 hs
    have f34 := S3.out.cell 4 (.bool true) rfl; have f35 := S3.out.cell 5 (.bool true) rfl; have f36 := S3.out.cell 6 (.bool true) rfl
    go_wp2_with (at_builtin; first | (refine wpList_append_run rfl _ _ 63 rfl _ _ _ _ rfl rfl HR1.out ?_) | (refine wpList_append_run rfl _ _ 63 rfl _ _ _ _ rfl rfl HR2.out ?_) | (refine wpList_append_run rfl _ _ 63 rfl _ _ _ _ rfl rfl HR3.out ?_))
    go_ret
    exact ⟨_, rfl, by have hrf := row_up (b2 := w.heap.size) S3.out.row (fun y hy => by have h1 := (row_base S3.out.row y hy).1; omega); simpa [RowW, flagW] using hrf, S3.out.keeps⟩
end Go.Proofs.YtffldnjjijckcaaGreatDoor
