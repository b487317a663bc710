/-
  Rows of tables in memory: the document's.
-/
import Derived.Test.YtjiglbjpmclncaaP02
import Derived.Test.YtjiglbjpmclncaaP04
set_option linter.unusedSimpArgs false
set_option linter.unusedVariables false
namespace Go.Proofs.Ytjiglbjpmclncaa
open Go.RowKit
/-- A row's twelve cells. -/
def rwC (r : Rw) : List Value := [.int .u8 r.c, .int .u16 r.id, .int .u8 r.o.f, .int .u8 r.o.o, .int .u8 r.o.k, .int .u16 r.o.a, .int .u16 r.o.b, .int .u8 r.rk, .int .u16 r.rv, .int .u8 r.st, .int .i64 r.fr, .int .i64 r.to]
theorem rwC_len (r : Rw) : (rwC r).length = 12 := rfl
theorem rwC_one (r : Rw) : ∀ v ∈ rwC r, v.oneCell' = true := by
  intro v hv
  simp only [rwC, List.mem_cons, List.not_mem_nil, or_false] at hv
  rcases hv with rfl | rfl | rfl | rfl | rfl | rfl | rfl | rfl | rfl | rfl | rfl | rfl <;> rfl
theorem Try.infoRow8 : (Try.prog.info? 45).map (fun i => (i.zero, i.size, i.bytes)) = some (some (.agg (rwC ⟨0, 0, ⟨0, 0, 0, 0, 0⟩, 0, 0, 0, 0, 0⟩).toArray), 12, 40) := by kernel_rfl
noncomputable def rk8 : RK Rw :=
  { T := 45, Sl := 53, s := 12, b := 40, cs := rwC, i := (info_parts Try.infoRow8).choose, z := .agg (rwC ⟨0, 0, ⟨0, 0, 0, 0, 0⟩, 0, 0, 0, 0, 0⟩).toArray,
    len := rwC_len, one := rwC_one, s0 := by decide, b1 := by decide, und := Try.underlying53,
    hi := (info_parts Try.infoRow8).choose_spec.1, hz := (info_parts Try.infoRow8).choose_spec.2.1, hs := (info_parts Try.infoRow8).choose_spec.2.2.1, hb := (info_parts Try.infoRow8).choose_spec.2.2.2, hzs := rfl }
/-- The document's table: its rows, the last moment. -/
structure T8At (b base : Nat) (w : World) (v : Value) (t : Tb) : Prop where
  heap : w.heap[b]? = some (.cells #[v, .int .i64 t.last] 55 (0, 0))
  row : rk8.Own base w v t.L
  bb : b < base
  few : t.L.length ≤ 100000
theorem T8At.keeps {b base : Nat} {w w' : World} {v : Value} {t : Tb} {F : List Nat} (h : T8At b base w v t) (hk : Keeps F w w') (hb : b ∉ F) (hF : ∀ q ∈ own v, q ∉ F) : T8At b base w' v t :=
  ⟨hk.heap h.heap hb, h.row.keeps hk hF, h.bb, h.few⟩
theorem T8At.new {b base : Nat} {w w' : World} {v : Value} {t : Tb} (h : T8At b base w v t) (hk : Keeps [] w w') : T8At b base w' v t := h.keeps hk (by simp) (by simp)
theorem T8At.cells {b base : Nat} {w : World} {v : Value} {t : Tb} (h : T8At b base w v t) : w.cell? ⟨b, 0, none⟩ = some v ∧ w.cell? ⟨b, 1, none⟩ = some (.int .i64 t.last) := by
  constructor <;> simp [World.cell?, h.heap]
end Go.Proofs.Ytjiglbjpmclncaa
/-
  The document's table: its small functions.
-/
namespace Go.Proofs.Ytjiglbjpmclncaa
open Go.RowKit
set_option maxHeartbeats 8000000
set_option maxRecDepth 100000
def idxOf : Option Nat → Int
  | none => -1
  | some i => i
theorem rwIdx_take {id : Int} {l : List Rw} {k : Nat} (hk : k < l.length) (h0 : rwIdx id (l.take k) = none) : rwIdx id (l.take (k + 1)) = if (l[k]).id = id then some k else none := by
  by_cases e : (l[k]).id = id
  · rw [if_pos e]
    refine rwIdx_at (by simp; omega) (by simpa using e) (fun j hj => ?_)
    have h1 := rwIdx_none.1 h0 (l[j]) (by rw [List.mem_take_iff_getElem]; exact ⟨j, by omega, rfl⟩)
    simpa using h1
  · rw [if_neg e, rwIdx_none]
    intro r hr
    rw [List.take_add_one, List.getElem?_eq_getElem hk, Option.toList_some, List.mem_append, List.mem_singleton] at hr
    rcases hr with hr | rfl
    · exact rwIdx_none.1 h0 r hr
    · exact e
theorem rwIdx_of_take {id : Int} {l : List Rw} {k : Nat} (hk : k < l.length) (h0 : rwIdx id (l.take k) = none) (e : (l[k]).id = id) : rwIdx id l = some k := by
  refine rwIdx_at hk e (fun j hj => ?_)
  exact rwIdx_none.1 h0 (l[j]) (by rw [List.mem_take_iff_getElem]; exact ⟨j, by omega, rfl⟩)
/-- A row's cells, one by one. -/
theorem rw_cells {w : World} {g o : Nat} {r : Rw} (h : w.rangeAt g o (rwC r)) : w.cell? ⟨g, o, none⟩ = some (.int .u8 r.c) ∧ w.cell? ⟨g, o + 1, none⟩ = some (.int .u16 r.id) ∧ w.cell? ⟨g, o + 9, none⟩ = some (.int .u8 r.st) ∧ w.cell? ⟨g, o + 10, none⟩ = some (.int .i64 r.fr) ∧ w.cell? ⟨g, o + 11, none⟩ = some (.int .i64 r.to) :=
  ⟨h 0 _ rfl, h 1 _ rfl, h 9 _ rfl, h 10 _ rfl, h 11 _ rfl⟩
theorem rw_cell {w : World} {b : Nat} {T : TypeId} {r : Rw} (h : w.heap[b]? = some (.cells (rwC r).toArray T (0, 0))) (i : Nat) {v : Value} (hi : (rwC r)[i]? = some v) : w.cell? ⟨b, i, none⟩ = some v := by
  simp only [World.cell?, h]
  simpa using hi
theorem r8at_any (w : World) {b base : Nat} {v : Value} {t : Tb} (hT : T8At b base w v t) (id : Int) :
    Calls Try.prog 41 #[.pointer (some ⟨b, 0, none⟩), .int .u16 id] w fun e w' => e = .returned (.int .i64 (idxOf (rwIdx id t.L))) ∧ w' = w := by
  obtain ⟨a, cp, rfl, hc, hm⟩ := hT.row.shape
  obtain ⟨hv, -⟩ := hT.cells
  have hfew := hT.few
  have HT := Lib.hid hT
  clear hT
  generalize hn2 : t.L.length = n at *
  have HN2 := Lib.hid hn2
  clear hn2
  go_enter Try.func41, Try.ntmps41
  go_wp2_with fail
  go_loopw [5] (fun i wr => ∃ k : Nat, i = .int .i64 k ∧ k ≤ n ∧ rwIdx id (t.L.take k) = none ∧ wr = w) (fun i _ => n - (intOf i).toNat)
  case atStart => exact ⟨0, rfl, by omega, rfl, rfl⟩
  case round =>
    obtain ⟨k, rfl, hk, hno, rfl⟩ := hrel
    by_cases hlt : k < n
    · have hkl : k < t.L.length := by have := HN2.out; omega
      obtain ⟨g, cap, hg, -, -, -, -, hrow⟩ := HT.out.row.at (fun e => by rw [e] at hkl; simp at hkl)
      simp at hg
      obtain ⟨rfl, -, -⟩ := hg
      obtain ⟨-, m1, -⟩ := rw_cells (show wr.rangeAt g (k * 12) (rwC t.L[k]) from hrow k hkl)
      have HTK := Lib.hid (rwIdx_take hkl hno)
      have HOF := Lib.hid (rwIdx_of_take hkl hno)
      clear hrow hno
      generalize t.L[k] = r at *
      by_cases he : r.id = id
      · have hI := HOF.out he
        rw [he] at m1
        have HI := Lib.hid hI
        clear HTK HOF hI he
        go_wp2_with fail
        go_ret
        exact ⟨by rw [HI.out]; rfl, rfl⟩
      · have te : (r.id == id) = false := by simpa using he
        have htk := HTK.out
        rw [if_neg he] at htk
        have HTK2 := Lib.hid htk
        clear HTK HOF he htk
        go_wp2_with fail
        go_roundw
        case rel => exact ⟨k + 1, by go_num, by omega, HTK2.out, trivial⟩
        case measure => simp [intOf]; omega
    · obtain rfl : k = n := by omega
      have hall : rwIdx id t.L = none := by rw [← HN2.out, List.take_length] at hno; exact hno
      have HI := Lib.hid hall
      clear hno hall
      go_wp2_with fail
      go_ret
      exact ⟨by rw [HI.out]; rfl, rfl⟩
theorem r8may_any (w : World) {b base : Nat} {v : Value} {t : Tb} (hT : T8At b base w v t) (at_ : Int) :
    Calls Try.prog 50 #[.pointer (some ⟨b, 0, none⟩), .int .i64 at_] w fun e w' => e = .returned (.bool (tbMay t at_)) ∧ w' = w := by
  obtain ⟨-, hv⟩ := hT.cells
  clear hT
  unfold tbMay rwMost
  by_cases h1 : 0 ≤ at_
  · by_cases h2 : at_ ≤ 2305843009213693952
    · go_enter Try.func50, Try.ntmps50
      go_wp2_with fail
      go_ret
      exact ⟨by simp [h1, h2], rfl⟩
    · go_enter Try.func50, Try.ntmps50
      go_wp2_with fail
      go_ret
      exact ⟨by simp [h1, h2]; omega, rfl⟩
  · go_enter Try.func50, Try.ntmps50
    go_wp2_with fail
    go_ret
    exact ⟨by simp [h1]; omega, rfl⟩
theorem r8Before_any (w : World) (x y : Rw) : Calls Try.prog 23 #[.agg (rwC x).toArray, .agg (rwC y).toArray] w fun e w' => e = .returned (.bool (rwBefore x y)) ∧ Keeps [] w w' := by
  have hk1 := (Keeps.refl [] w).alloc (.cells (rwC x).toArray 45)
  have hk2 := hk1.alloc (.cells (rwC y).toArray 45)
  have hX := heap_alloc_new w (.cells (rwC x).toArray 45)
  have hX2 := ((Keeps.refl [] _).alloc (.cells (rwC y).toArray 45)).heap hX (by simp)
  have hY := heap_alloc_new (w.alloc (.cells (rwC x).toArray 45)) (.cells (rwC y).toArray 45)
  have c1 : ((w.alloc (.cells (rwC x).toArray 45)).alloc (.cells (rwC y).toArray 45)).cell? ⟨w.heap.size, 9, none⟩ = some (.int .u8 x.st) := rw_cell hX2 9 rfl
  have c2 : ((w.alloc (.cells (rwC x).toArray 45)).alloc (.cells (rwC y).toArray 45)).cell? ⟨w.heap.size, 11, none⟩ = some (.int .i64 x.to) := rw_cell hX2 11 rfl
  have c3 : ((w.alloc (.cells (rwC x).toArray 45)).alloc (.cells (rwC y).toArray 45)).cell? ⟨(w.alloc (.cells (rwC x).toArray 45)).heap.size, 10, none⟩ = some (.int .i64 y.fr) := rw_cell hY 10 rfl
  rw [show (w.alloc (.cells (rwC x).toArray 45)).heap.size = w.heap.size + 1 from Array.size_push _] at c3
  have HK := Lib.hid hk2
  clear hk1 hk2 hX hX2 hY
  unfold rwBefore
  generalize rwC x = X at *
  generalize rwC y = Y at *
  by_cases h1 : x.st = 1
  · rw [h1] at c1
    go_enter Try.func23, Try.ntmps23
    go_wp2_with fail
    go_ret
    exact ⟨by simp [h1], HK.out⟩
  · have t1 : (x.st == 1) = false := by simpa using h1
    go_enter Try.func23, Try.ntmps23
    go_wp2_with fail
    go_ret
    exact ⟨by simp [h1], HK.out⟩
theorem r8New_any (w : World) : Calls Try.prog 9 #[] w fun e w' => ∃ b, e = .returned (.pointer (some ⟨b, 0, none⟩)) ∧ T8At b (b + 1) w' (.slice none 0 0) tbNew ∧ Keeps [] w w' ∧ w.heap.size ≤ b := by
  go_enter Try.func9, Try.ntmps9
  go_wp2_with fail
  go_ret
  exact ⟨_, rfl, ⟨heap_alloc_new w (.cells #[.slice none 0 0, .int .i64 (-1)] 55), RK.Own.nil rk8 _ _, Nat.lt_succ_self _, by decide⟩, (Keeps.refl [] w).alloc _, Nat.le_refl _⟩
theorem tbCount_take {l : List Rw} {k : Nat} (hk : k < l.length) (st last : Int) : tbCount ⟨l.take (k + 1), last⟩ st = tbCount ⟨l.take k, last⟩ st + if (l[k]).st = st then 1 else 0 := by
  unfold tbCount
  rw [List.take_add_one, List.getElem?_eq_getElem hk, Option.toList_some, List.filter_append, List.length_append]
  by_cases e : (l[k]).st = st <;> simp [e]
theorem r8Count_any (w : World) {b base : Nat} {v : Value} {t : Tb} (hT : T8At b base w v t) (st : Int) :
    Calls Try.prog 20 #[.pointer (some ⟨b, 0, none⟩), .int .u8 st] w fun e w' => e = .returned (.int .i64 (tbCount t st)) ∧ w' = w := by
  obtain ⟨a, cp, rfl, hc, hm⟩ := hT.row.shape
  obtain ⟨hv, -⟩ := hT.cells
  have hfew := hT.few
  have HT := Lib.hid hT
  clear hT
  generalize hn2 : t.L.length = n at *
  have HN2 := Lib.hid hn2
  clear hn2
  go_enter Try.func20, Try.ntmps20
  go_wp2_with fail
  go_loopw [5, 6] (fun z i wr => ∃ k c : Nat, i = .int .i64 k ∧ k ≤ n ∧ z = .int .i64 c ∧ c ≤ k ∧ tbCount ⟨t.L.take k, t.last⟩ st = c ∧ wr = w) (fun _ i _ => n - (intOf i).toNat)
  case atStart => exact ⟨0, 0, rfl, by omega, rfl, by omega, rfl, rfl⟩
  case round =>
    obtain ⟨k, c, rfl, hk, rfl, hck, hcn, rfl⟩ := hrel
    by_cases hlt : k < n
    · have hkl : k < t.L.length := by have := HN2.out; omega
      obtain ⟨g, cap, hg, -, -, -, -, hrow⟩ := HT.out.row.at (fun e => by rw [e] at hkl; simp at hkl)
      simp at hg
      obtain ⟨rfl, -, -⟩ := hg
      obtain ⟨-, -, m1, -⟩ := rw_cells (show wr.rangeAt g (k * 12) (rwC t.L[k]) from hrow k hkl)
      have htk := tbCount_take hkl st t.last
      rw [hcn] at htk
      clear hrow hcn
      generalize t.L[k] = r at *
      by_cases he : r.st = st
      · rw [if_pos he] at htk
        rw [he] at m1
        have HTK := Lib.hid htk
        clear htk he
        go_wp2_with fail
        go_roundw
        case rel => exact ⟨k + 1, c + 1, by go_num, by omega, by go_num, by omega, HTK.out, trivial⟩
        case measure => simp [intOf]; omega
      · have te : (r.st == st) = false := by simpa using he
        rw [if_neg he] at htk
        have HTK := Lib.hid htk
        clear htk he
        go_wp2_with fail
        go_roundw
        case rel => exact ⟨k + 1, c, by go_num, by omega, rfl, by omega, HTK.out, trivial⟩
        case measure => simp [intOf]; omega
    · obtain rfl : k = n := by omega
      have hall : tbCount t st = c := by rw [← HN2.out, List.take_length] at hcn; exact hcn
      have HI := Lib.hid hall
      clear hcn hall
      go_wp2_with fail
      go_ret
      exact ⟨by rw [HI.out]; rfl, rfl⟩
end Go.Proofs.Ytjiglbjpmclncaa
/-
  The document's table: laws for whole rows; Find.
-/
namespace Go.Proofs.Ytjiglbjpmclncaa
open Go.RowKit
section
variable {ops : Array Oper} {rest : List Oper} {a : Act} {w : World} {Q : Exit → Act → World → Prop}
/-- A whole row is read. -/
theorem wpList_load8 {dst : Option Tmp} {ty : TypeId} {pos : String} {after : Array Edge} {gd : Option (Nat × Bool)} {x : Operand} {g off : Nat} {y : Rw}
    (hw : Region.wanted { dst := dst, op := .load 45 x, type := ty, pos := pos, after := after, guard := gd } (yielded ops a.tmps) = true)
    (hx : a.eval x = .pointer (some ⟨g, off, none⟩)) (hr : w.rangeAt g off (rwC y)) (h : wpList Try.prog ops Q rest (a.put dst (.agg (rwC y).toArray)) w) :
    wpList Try.prog ops Q ({ dst := dst, op := .load 45 x, type := ty, pos := pos, after := after, guard := gd } :: rest) a w :=
  rk8.wpList_load Try.underlying45 rfl rfl hw hx hr h
/-- A whole row is put into a block of its own. -/
theorem wpList_put8 {dst : Option Tmp} {ty : TypeId} {pos : String} {after : Array Edge} {x y : Operand} {g : Nat} {old r : Rw} {t : TypeId}
    (hx : a.eval x = .pointer (some ⟨g, 0, none⟩)) (hy : a.eval y = .agg (rwC r).toArray) (hg : w.heap[g]? = some (.cells (rwC old).toArray t (0, 0)))
    (h : ∀ W, W.heap[g]? = some (.cells (rwC r).toArray t (0, 0)) → Keeps [g] w W → wpList Try.prog ops Q rest (a.put dst undef) W) :
    wpList Try.prog ops Q ({ dst := dst, op := .store 45 x y, type := ty, pos := pos, after := after, guard := none } :: rest) a w :=
  wpList_store_row rfl 45 x y rfl g (rwC r).toArray hx hy t (rwC old).toArray hg (by kernel_rfl) rfl (by rw [← Array.all_toList, List.all_eq_true]; exact rwC_one r) (h _ (setRow_heap w g (rwC old).toArray (rwC r).toArray t (0, 0) hg) ((Keeps.refl [g] w).setRow g _ (.inl (by simp))))
end
theorem results_row8 {fn : Func} {p u : Tmp} (h : fn.results = #[.cell p 45, .tmp u]) (tmps : Array Value) (w : World) (b : Nat) {x : Rw} {t : TypeId}
    (hp : tmps.getD p undef = .pointer (some ⟨b, 0, none⟩)) (hb : w.heap[b]? = some (.cells (rwC x).toArray t (0, 0))) : (results fn tmps).run Try.prog w = .ok (.tuple #[.agg (rwC x).toArray, tmps.getD u undef]) w := by
  have h1 : (loadVar 45 ⟨b, 0, none⟩).run Try.prog w = .ok (.agg (rwC x).toArray) w := run_loadVar_row w b t 45 _ _ _ hb Try.underlying45 rfl (by kernel_rfl)
  rw [results_cell_tmp h, hp]
  simp [asAddr, h1, Result.andThen]
def rwZero : Rw := ⟨0, 0, ⟨0, 0, 0, 0, 0⟩, 0, 0, 0, 0, 0⟩
set_option maxHeartbeats 8000000
set_option maxRecDepth 100000
theorem r8Find_any (w : World) {b base : Nat} {v : Value} {t : Tb} (hT : T8At b base w v t) (id : Int) :
    Calls Try.prog 18 #[.pointer (some ⟨b, 0, none⟩), .int .u16 id] w fun e w' => e = .returned (.tuple #[.agg (rwC ((tbFind t id).getD rwZero)).toArray, .bool (tbFind t id).isSome]) ∧ Keeps [] w w' := by
  have hk0 := (Keeps.refl [] w).alloc (.cells #[.int .u8 0, .int .u16 0, .int .u8 0, .int .u8 0, .int .u8 0, .int .u16 0, .int .u16 0, .int .u8 0, .int .u16 0, .int .u8 0, .int .i64 0, .int .i64 0] 45)
  have hR : (w.alloc (.cells #[.int .u8 0, .int .u16 0, .int .u8 0, .int .u8 0, .int .u8 0, .int .u16 0, .int .u16 0, .int .u8 0, .int .u16 0, .int .u8 0, .int .i64 0, .int .i64 0] 45)).heap[w.heap.size]? = some (.cells (rwC rwZero).toArray 45 (0, 0)) := heap_alloc_new w (.cells #[.int .u8 0, .int .u16 0, .int .u8 0, .int .u8 0, .int .u8 0, .int .u16 0, .int .u16 0, .int .u8 0, .int .u16 0, .int .u8 0, .int .i64 0, .int .i64 0] 45)
  have hT0 := hT.new hk0
  have HAT := Lib.hid (r8at_any _ hT0 id)
  have HK0 := Lib.hid hk0; have HR := Lib.hid hR; have HT := Lib.hid hT0
  clear hT hT0 hk0 hR
  go_enter Try.func18, Try.ntmps18
  go_wp2_with fail
  generalize w.alloc _ = W at *
  generalize hRe : w.heap.size = R at *
  have HRE := Lib.hid (Nat.le_of_eq hRe)
  clear hRe
  refine (HAT.out).mono ?_; rintro e w1 ⟨rfl, rfl⟩
  cases hi : rwIdx id t.L with
  | none =>
    have HKA := Lib.hid ((Keeps.refl [] w1).alloc (.cells #[.int .u8 0, .int .u16 0, .int .u8 0, .int .u8 0, .int .u8 0, .int .u16 0, .int .u16 0, .int .u8 0, .int .u16 0, .int .u8 0, .int .i64 0, .int .i64 0] 45))
    have HF := Lib.hid (show tbFind t id = none by unfold tbFind; rw [hi])
    clear HKA
    simp only [idxOf]
    go_wp2_with (first | ((with_reducible refine wpList_put8 (g := R) (old := rwZero) (r := rwZero) ?_ ?_ HR.out ?_); exact rfl; exact rfl))
    intro W2 h2 hk2
    have HK2 := Lib.hid (HK0.out.trans hk2 (fun q hq => .inr (by simp at hq; have := HRE.out; omega)))
    clear hk2 HR HAT HT HK0
    go_wp2_with fail
    exact bodyPost_ret (results_row8 (x := rwZero) rfl _ _ _ rfl h2) rfl ⟨by rw [HF.out]; rfl, HK2.out⟩
  | some k =>
    obtain ⟨hk, -, -⟩ := rwIdx_some hi
    obtain ⟨g, cap, rfl, hc, hm, -, hg, hrow⟩ := HT.out.row.at (fun e => by rw [e] at hk; simp at hk)
    have HRW := Lib.hid (show w1.rangeAt g (k * 12) (rwC t.L[k]) from hrow k hk)
    obtain ⟨hv, -⟩ := HT.out.cells
    have HF := Lib.hid (show tbFind t id = some t.L[k] by unfold tbFind; rw [hi]; exact List.getElem?_eq_getElem hk)
    clear hrow
    generalize t.L[k] = r at *
    generalize hn2 : t.L.length = n at *
    clear hn2
    simp only [idxOf]
    go_wp2_with (first | ((with_reducible refine wpList_load8 (g := g) (off := k * 12) (y := r) rfl ?_ HRW.out ?_); exact rfl) | ((with_reducible refine wpList_put8 (g := R) (old := rwZero) (r := r) ?_ ?_ HR.out ?_); exact rfl; exact rfl))
    intro W2 h2 hk2
    have HK2 := Lib.hid (HK0.out.trans hk2 (fun q hq => .inr (by simp at hq; have := HRE.out; omega)))
    clear hk2 HR HAT HT HK0
    go_wp2_with fail
    exact bodyPost_ret (results_row8 (x := r) rfl _ _ _ rfl h2) rfl ⟨by rw [HF.out]; rfl, HK2.out⟩
end Go.Proofs.Ytjiglbjpmclncaa
