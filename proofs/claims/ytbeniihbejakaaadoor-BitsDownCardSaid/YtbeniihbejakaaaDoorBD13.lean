/-
  What the program's sets must tell. (skB, btZ: the program's Set: its cells: to be set anew to what landed.)
-/
import Derived.Test.YtbeniihbejakaaaDoorBD00
import Derived.Test.YtbeniihbejakaaaDoorBD01
import Derived.Test.YtbeniihbejakaaaDoorBD09
import Derived.Test.YtbeniihbejakaaaDoorBD11
import Derived.Test.YtbeniihbejakaaaDoorBD12
set_option linter.unusedSimpArgs false
set_option linter.unusedVariables false
namespace Go.Proofs.YtbeniihbejakaaaDoor
open Go.RowKit
set_option maxRecDepth 100000
def skB : SK := { T := 27, s := 1, d := _, und := Tryd.underlying27, row := rfl, size := by kernel_rfl }
def btZ : List Value := [.slice none 0 0]
abbrev btZA : Array Value := #[.slice none 0 0]
theorem btZ_ok : skB.Ok btZ := ⟨rfl, fun v hv => by simp only [btZ, List.mem_singleton] at hv; subst hv; rfl⟩
/-- All blocks below n, but those of F, are as they were. -/
structure KeC (F : List Nat) (n : Nat) (w w' : World) : Prop where
  os : w'.os = w.os
  tape : w'.tape = w.tape
  output : w'.output = w.output
  size : w.heap.size ≤ w'.heap.size
  block : ∀ k, k < n → k ∉ F → w'.heap[k]? = w.heap[k]?
theorem KeC.refl (F : List Nat) (n : Nat) (w : World) : KeC F n w w := ⟨rfl, rfl, rfl, Nat.le_refl _, fun _ _ _ => rfl⟩
theorem KeC.trans {F : List Nat} {n : Nat} {a b c : World} (h : KeC F n a b) (k : KeC F n b c) : KeC F n a c :=
  ⟨k.os.trans h.os, k.tape.trans h.tape, k.output.trans h.output, Nat.le_trans h.size k.size, fun i hi hF => (k.block i hi hF).trans (h.block i hi hF)⟩
theorem Keeps.keC {F : List Nat} {n : Nat} {a b : World} (h : Keeps F a b) (hn : n ≤ a.heap.size) : KeC F n a b :=
  ⟨h.os, h.tape, h.output, h.size, fun k hk hF => h.block k (Nat.lt_of_lt_of_le hk hn) hF⟩
theorem KeC.same {F : List Nat} {n : Nat} {a b : World} (h : KeC F n a b) (hn : n = a.heap.size) : Keeps F a b :=
  ⟨h.os, h.tape, h.output, h.size, fun k hk hF => h.block k (by omega) hF⟩
theorem keC_b {F : List Nat} {n : Nat} (W : World) (l : Nat) (o o' : Obj) (hl : n ≤ l) : KeC F n W (W.putObj l o') :=
  ⟨(grownBy_putObj' W l o').os, (grownBy_putObj' W l o').tape, (grownBy_putObj' W l o').output, (grownBy_putObj' W l o').size, fun k hk _ => World.putObj_heap_other (by omega)⟩
/-- What the program's functions tell. -/
structure BtProg (G : World → Prop) where
  At : World → Value → List Int → Prop
  foot : Value → List Nat
  cells : ∀ {w st S}, At w st S → ∃ A : List Value, st = .agg A.toArray ∧ skB.Ok A
  in_ : ∀ {w st S}, At w st S → BIn S
  keep : ∀ {w w' F st S}, At w st S → Keeps F w w' → (∀ q ∈ foot st, q ∉ F) → At w' st S
  old : ∀ {w st S}, At w st S → ∀ q ∈ foot st, q < w.heap.size
  keepG : ∀ {w w'}, G w → Keeps [] w w' → G w'
  zero : ∀ w, At w (.agg btZ.toArray) []
  of : ∀ w v l, G w → rkZ.In w.heap.size w v l → l.length ≤ 1000 → Calls Tryd.prog 20 #[v] w fun e w' => ∃ st, e = .returned st ∧ At w' st (ofB l) ∧ Keeps [] w w' ∧ ∀ q ∈ foot st, w.heap.size ≤ q
  has : ∀ w st S n, G w → At w st S → I64 n → Calls Tryd.prog 11 #[st, .int .i64 n] w fun e w' => e = .returned (.bool (decide (n ∈ S))) ∧ Keeps [] w w'
  with_ : ∀ w st S n, G w → At w st S → I64 n → Calls Tryd.prog 25 #[st, .int .i64 n] w fun e w' => ∃ st', e = .returned st' ∧ At w' st' (withB S n) ∧ Keeps [] w w' ∧ FSub (foot st') (foot st) w.heap.size
  without : ∀ w st S n, G w → At w st S → I64 n → Calls Tryd.prog 26 #[st, .int .i64 n] w fun e w' => ∃ st', e = .returned st' ∧ At w' st' (withoutB S n) ∧ Keeps [] w w' ∧ FSub (foot st') (foot st) w.heap.size
  union : ∀ w st S st2 T, G w → At w st S → At w st2 T → Calls Tryd.prog 27 #[st, st2] w fun e w' => ∃ st', e = .returned st' ∧ At w' st' (unionB S T) ∧ Keeps [] w w' ∧ FSub (foot st') (foot st ++ foot st2) w.heap.size
  within : ∀ w st S st2 T, G w → At w st S → At w st2 T → Calls Tryd.prog 24 #[st, st2] w fun e w' => e = .returned (.bool (withinB S T)) ∧ Keeps [] w w'
  count : ∀ w st S, G w → At w st S → Calls Tryd.prog 28 #[st] w fun e w' => e = .returned (.int .i64 (S.length : Int)) ∧ Keeps [] w w'
  least : ∀ w st S, G w → At w st S → Calls Tryd.prog 23 #[st] w fun e w' => e = .returned (.int .i64 (leastB S)) ∧ Keeps [] w w'
  gap : ∀ w st S n, G w → At w st S → I64 n → Calls Tryd.prog 13 #[st, .int .i64 n] w fun e w' => e = .returned (.int .i64 (gapB S n)) ∧ Keeps [] w w'
  key : ∀ w st S, G w → At w st S → Calls Tryd.prog 15 #[st] w fun e w' => e = .returned (.string (bs (keyB S))) ∧ Keeps [] w w'
  fromKey : ∀ w k, G w → k.length ≤ 10000 → Calls Tryd.prog 18 #[.string (bs k)] w fun e w' => ∃ st, e = .returned (.tuple #[st, .int .i64 (fromB k).2]) ∧ At w' st (fromB k).1 ∧ Keeps [] w w' ∧ ∀ q ∈ foot st, w.heap.size ≤ q
  down : ∀ w st S n, G w → At w st S → I64 n → Calls Tryd.prog 21 #[st, .int .i64 n] w fun e w' => ∃ st', e = .returned st' ∧ At w' st' (downB S n) ∧ Keeps [] w w' ∧ FSub (foot st') (foot st) w.heap.size
  all : ∀ w st S, G w → At w st S → Calls Tryd.prog 29 #[st] w fun e w' => ∃ B A, e = .returned (.func (.func 48) #[] #[.pointer (some ⟨B, 0, none⟩)]) ∧ st = .agg A ∧ w.heap.size ≤ B ∧ w'.heap[B]? = some (.cells A 27 (0, 0)) ∧ Keeps [] w w'
  iter : ∀ (n n0 : Nat) (F : List Nat) (B : Nat) (w : World) (A : List Value) (S : List Int), 2 ≤ n → (∀ w', KeC F n0 w w' → G w') → At w (.agg A.toArray) S → w.heap[B]? = some (.cells A.toArray 27 (0, 0)) → B ∉ F → B < n0 → n0 ≤ w.heap.size → (∀ q ∈ foot (.agg A.toArray), q ∉ F ∧ q < n0) →
    SeqStopsK Fence.wide n Tryd.prog 48 #[.pointer (some ⟨B, 0, none⟩)] (fun x : Int => #[.int .i64 x]) (KeC F n0) (fun xs => xs = S) (fun pre => pre <+: S) S.length w
variable {G : World → Prop}
theorem BtProg.new (R : BtProg G) {w w' : World} {st : Value} {S : List Int} (h : R.At w st S) (hk : Keeps [] w w') : R.At w' st S := R.keep h hk (by simp)
theorem btOk (R : BtProg G) {w : World} {A : List Value} {S : List Int} (h : R.At w (.agg A.toArray) S) : skB.Ok A := by
  obtain ⟨B, e, hB⟩ := R.cells h
  rw [show A = B by simpa using e]; exact hB
section
variable {ops : Array Oper} {rest : List Oper} {a : Act} {w : World} {Q : Exit → Act → World → Prop}
theorem wpList_loadBt {dst : Option Tmp} {ty : TypeId} {pos : String} {after : Array Edge} {gd : Option (Nat × Bool)} {x : Operand} {g : Nat} {A : List Value} (hA : skB.Ok A)
    (hw : Region.wanted { dst := dst, op := .load 27 x, type := ty, pos := pos, after := after, guard := gd } (yielded ops a.tmps) = true)
    (hx : a.eval x = .pointer (some ⟨g, 0, none⟩)) (hr : w.rangeAt g 0 A) (h : wpList Tryd.prog ops Q rest (a.put dst (.agg A.toArray)) w) :
    wpList Tryd.prog ops Q ({ dst := dst, op := .load 27 x, type := ty, pos := pos, after := after, guard := gd } :: rest) a w := skB.wpList_load hA hw hx hr h
theorem wpList_putBt {dst : Option Tmp} {ty : TypeId} {pos : String} {after : Array Edge} {x y : Operand} {g : Nat} {old A : List Value} (hA : skB.Ok A) (hO : skB.Ok old) {t : TypeId}
    (hx : a.eval x = .pointer (some ⟨g, 0, none⟩)) (hy : a.eval y = .agg A.toArray) (hg : w.heap[g]? = some (.cells old.toArray t (0, 0)))
    (h : ∀ W, W.heap[g]? = some (.cells A.toArray t (0, 0)) → Keeps [g] w W → wpList Tryd.prog ops Q rest (a.put dst undef) W) :
    wpList Tryd.prog ops Q ({ dst := dst, op := .store 27 x y, type := ty, pos := pos, after := after, guard := none } :: rest) a w := skB.wpList_put hA hO hx hy hg h
end
end Go.Proofs.YtbeniihbejakaaaDoor
/-
  The law's is, over any program's sets.
-/
namespace Go.Proofs.YtbeniihbejakaaaDoor
open Go.RowKit
attribute [local go_sem] Oper.semAt_some
set_option maxRecDepth 100000
set_option maxHeartbeats 8000000
variable {G : World → Prop}
theorem pfx15 {l pre : List Int} {x : Int} (h : pre <+: l) (hl : pre.length < l.length) (hx : x = l[pre.length]) : pre ++ [x] <+: l := by
  obtain ⟨t, rfl⟩ := h
  cases t with
  | nil => simp at hl
  | cons y t =>
    have e : x = y := by rw [hx]; simp
    rw [e]
    exact ⟨t, by simp⟩
theorem pfx15_no {l pre : List Int} {x : Int} (hl : pre.length < l.length) (hx : x ≠ l[pre.length]) : ¬ pre ++ [x] <+: l := by
  rintro ⟨t, rfl⟩
  exact hx (by simp)
theorem nil15 (w : World) (B : Nat) : (binOp .eql 58 (.func (.func 48) #[] #[.pointer (some ⟨B, 0, none⟩)]) .nilFunc).run Tryd.prog w = .ok (.bool false) w := by
  first
    | kernel_rfl
    | rfl
    | simp [binOp, go_sem]
theorem wp_put15 {o : Oper} {a : Act} {w : World} {K : Act → World → Prop} {Q : Exit → Act → World → Prop} {ty : TypeId} {x y : Operand} {g j : Nat} {v : Value} {A : List Value} {t : TypeId} (ho : o.op = .store ty x y) (hi : (Tryd.prog.info? ty).map (·.size) = some 1)
    (hx : a.eval x = .pointer (some ⟨g, j, none⟩)) (hy : a.eval y = v) (hg : w.heap[g]? = some (.cells A.toArray t (0, 0))) (hj : j < A.length) (h1 : v.oneCell' = true)
    (h : ∀ W, W.heap[g]? = some (.cells (A.set j v).toArray t (0, 0)) → Keeps [g] w W → K (a.put o.dst undef) W) : o.wp Tryd.prog a w K Q := by
  unfold Oper.wp execOp
  simp only [ho, hx, hy, Instr.storeAt, Instr.sureAddr, Sem.run_bind, Sem.run_pure, Result.andThen_ok, run_put13 hi hg (by simpa using hj) h1]
  refine h _ ?_ ((Keeps.refl [g] w).setCell _ _ (.inl (by simp)))
  have := heap_setCell_same w g j _ t v hg
  simpa using this
theorem is15_true (R : BtProg G) (w : World) {A : List Value} {S : List Int} (hG : G w) (h : R.At w (.agg A.toArray) S) {a : Option Addr} {m c : Nat} (hI : rkZ.In w.heap.size w (.slice a m c) S) :
    Calls Tryd.prog 17 #[.agg A.toArray, .slice a m c] w fun e w' => e = .returned (.bool true) ∧ Keeps [] w w' := by
  have hS := R.in_ h
  have hA := btOk R h
  obtain ⟨_, _, em, hmc, hc64, -⟩ := id hI
  simp at em
  obtain ⟨-, rfl, rfl⟩ := em
  have h64 := hS.len
  obtain ⟨X, hX⟩ : ∃ X, X = ((w.alloc (.cells A.toArray 27)).alloc (.cells #[.slice a S.length c] 30)).alloc (.cells #[.bool false] 4) := ⟨_, rfl⟩
  obtain ⟨-, a0, a1, ak⟩ := two_vars w A.toArray #[.slice a S.length c] 27 30
  have az := two_blocks w A.toArray #[.slice a S.length c] 27 30
  have hk2 : Keeps [] ((w.alloc (.cells A.toArray 27)).alloc (.cells #[.slice a S.length c] 30)) X := by rw [hX]; exact (Keeps.refl _ _).alloc _
  have a2 : X.heap[w.heap.size + 2]? = some (.cells #[.bool false] 4 (0, 0)) := by
    have := heap_alloc_new ((w.alloc (.cells A.toArray 27)).alloc (.cells #[.slice a S.length c] 30)) (.cells #[.bool false] 4)
    rw [az] at this
    rw [hX]; exact this
  have hk := ak.trans hk2 (FSub.refl _ _)
  have H2 := Lib.hid (show X.heap[w.heap.size]? = some (.cells A.toArray 27 (0, 0)) from hk2.heap a0 (by simp))
  have H3 := Lib.hid (show X.heap[w.heap.size + 1]? = some (.cells #[.slice a S.length c] 30 (0, 0)) from hk2.heap a1 (by simp))
  have H4 := Lib.hid a2; have HK := Lib.hid hk
  have HA := Lib.hid hA; have HS := Lib.hid hS
  have HGL := Lib.hid (fun w' (h : Keeps [] w w') => R.keepG hG h); have HAT := Lib.hid (fun w' (hk : Keeps [] w w') => R.new h hk)
  have HIN := Lib.hid hI; have HOLD := Lib.hid (R.old h)
  have HSX := Lib.hid (show X.heap.size = w.heap.size + 3 from by rw [hX]; show (World.alloc _ _).heap.size = _; rw [show ∀ (W : World) (o : Obj), (W.alloc o).heap.size = W.heap.size + 1 from fun _ _ => Array.size_push _, az])
  have HR2 := Lib.hid (block_range H2.out)
  rw [hX] at HR2
  clear a0 a1 a2 ak az hk hk2 h hG hI hS hA
  refine (callsIn_wide (n := 12)).1 ?_
  refine callsIn_of_wp_marks Tryd.func17 rfl trivial ?_ rfl
  simp only [Tryd.ntmps17, List.size_toArray, List.length_cons, List.length_nil, Nat.reduceAdd, Nat.reduceSub, Array.replicate_succ, Array.replicate_zero, List.push_toArray, List.append_toArray, List.nil_append, List.cons_append]
  refine wpIn_wide.2 ?_
  go_wp2_with ((with_reducible refine wpList_loadBt (g := w.heap.size) HA.out ?_ ?_ HR2.out ?_); exact rfl; exact rfl)
  rw [← hX]
  refine (R.all X _ _ (HGL.out _ HK.out) (HAT.out _ HK.out)).mono ?_
  rintro e y1 ⟨B, A2, rfl, hA2, hBB, hB, hk⟩
  obtain rfl : A2 = A.toArray := by simpa using hA2.symm
  have HB := Lib.hid hB; have HBB := Lib.hid hBB; have HK1 := Lib.hid (HK.out.trans hk (FSub.refl _ _))
  have H21 := Lib.hid (hk.heap H2.out (by simp)); have H31 := Lib.hid (hk.heap H3.out (by simp)); have H41 := Lib.hid (hk.heap H4.out (by simp))
  have HZ1 := Lib.hid (show w.heap.size + 3 ≤ B ∧ B < y1.heap.size from ⟨by have := HSX.out; omega, lt_of_block hB⟩)
  clear hA2 hBB hB hk H2 H3 H4 HK HR2 hX HSX
  have hnil := fun w => nil15 w B
  have hk5 : Keeps [] y1 (y1.alloc (.cells #[.int .i64 0] 3)) := (Keeps.refl _ _).alloc _
  have hb8 : (y1.alloc (.cells #[.int .i64 0] 3)).heap[y1.heap.size]? = some (.cells #[.int .i64 0] 3 (0, 0)) := heap_alloc_new y1 _
  have c8 := cell_of_one hb8
  have f8 := free_of_one hb8
  go_wp2_with fail
  clear hnil c8 f8
  have HS6 := Lib.hid (show w.heap.size + 3 ≤ B ∧ B < y1.heap.size ∧ y1.heap.size < (y1.alloc (.cells #[.int .i64 0] 3)).heap.size from ⟨HZ1.out.1, HZ1.out.2, lt_of_block hb8⟩)
  have H86 := Lib.hid hb8; have HK6 := Lib.hid (HK1.out.trans hk5 (FSub.refl _ _))
  have H26 := Lib.hid (hk5.heap H21.out (by simp)); have H36 := Lib.hid (hk5.heap H31.out (by simp)); have H46 := Lib.hid (hk5.heap H41.out (by simp)); have HB6 := Lib.hid (hk5.heap HB.out (by simp))
  clear hb8 hk5 H21 H31 H41 HB HK1 HZ1 HBB
  generalize y1.alloc (.cells #[.int .i64 0] 3) = y6 at *
  generalize y1.heap.size = B8 at *
  clear y1
  refine (wpIn_wide (n := 12)).1 ?_
  refine wpIn_rangeFunc_ownF (F := Fence.wide) rfl (by omega) (gf := 48) (lb := #[.pointer (some ⟨B, 0, none⟩)]) rfl trivial (enters_of Tryd.func48 (by kernel_rfl) rfl)
    (encs := fun x : Int => #[.int .i64 x]) (Kp := KeC [B8] y6.heap.size) (S := fun xs => xs = S) (Sp := fun pre => pre <+: S) (N := S.length) (w0 := y6)
    (R.iter 11 y6.heap.size [B8] B y6 A S (by omega) (fun w' hk => HGL.out w' (HK6.out.trans (hk.same rfl) (fun q hq => .inr (by simp at hq; have := HS6.out; omega)))) (HAT.out _ HK6.out) HB6.out (by have := HS6.out; simp; omega) (lt_of_block HB6.out) (Nat.le_refl _) (fun q hq => by have h1 := HOLD.out q hq; have h2 := HS6.out; exact ⟨by simp; omega, by omega⟩))
    (fun h1 h2 => h1.trans h2) (fun W l o o' hl _ _ _ => keC_b W l o o' hl) (Below.refl _ _) (fun _ => rfl)
    (fun pre Z => Z.heap[B8]? = some (.cells #[.int .i64 (pre.length : Int)] 3 (0, 0)) ∧ pre <+: S ∧ Keeps [B8] y6 Z)
    (fun _ pre _ => ¬ pre <+: S) (cells_own.and ((pure_own _).and (keeps_own (Nat.le_refl _)))) (fun _ => pure_own _) ⟨H86.out, List.nil_prefix, Keeps.refl _ _⟩
    ?a1 ?assign ?body ?done ?stop
  case assign =>
    intro l x Z K hK
    gi_wp2
    exact hK
  case body =>
    rintro l pre x Z ⟨hb8, hpre, hkz⟩ hlen
    have c8 := cell_of_one hb8
    have f8 := free_of_one hb8
    have hb3 := hkz.heap H36.out (by have := HS6.out; simp; omega)
    have c3 := cell_of_one hb3
    have hb4 := hkz.heap H46.out (by have := HS6.out; simp; omega)
    have f4 := free_of_one hb4
    have c4 := cell_of_one hb4
    have hl1 : ¬ (S.length : Int) ≤ (pre.length : Int) := by omega
    have hl2 : (pre.length : Int) < (S.length : Int) := by omega
    have hl3 : 0 ≤ (pre.length : Int) := by omega
    have ew : wrap64 ((pre.length : Int) + 1) = (pre.length : Int) + 1 := by unfold wrap64; omega
    have hwz : Keeps [] w Z := HK6.out.trans hkz (fun q hq => .inr (by simp at hq; have := HS6.out; omega))
    obtain ⟨bk, o, rfl, -, cl⟩ := InZ_at (HIN.out.new hwz (Nat.le_refl _)) hlen
    have hkb : Keeps [B8] y6 (Z.setCell ⟨B8, 0, none⟩ (.int .i64 ((pre.length : Int) + 1))) := hkz.setCell _ _ (.inl (by simp))
    have hke : KeC [B8] y6.heap.size Z (Z.setCell ⟨B8, 0, none⟩ (.int .i64 ((pre.length : Int) + 1))) := ((Keeps.refl [B8] Z).setCell _ _ (.inl (by simp))).keC hkz.size
    have hb8n : (Z.setCell ⟨B8, 0, none⟩ (.int .i64 ((pre.length : Int) + 1))).heap[B8]? = some (.cells #[.int .i64 (((pre ++ [x]).length : Nat) : Int)] 3 (0, 0)) := by
      rw [one_setCell hb8, List.length_append]; rfl
    have HKB := Lib.hid hkb; have HKE := Lib.hid hke; have HB8N := Lib.hid hb8n
    obtain ⟨el, hel⟩ : ∃ el, el = S[pre.length] := ⟨_, rfl⟩
    rw [← hel] at cl
    have HPRE := Lib.hid hpre; have HHLO := Lib.hid hel; have HLEN := Lib.hid hlen
    clear hkb hke hb8n hb8 hb3 hb4 hkz hpre hel hwz
    by_cases hx : x = el
    · have hpn := pfx15 HPRE.out hlen (x := x) (by rw [hx]; exact HHLO.out)
      have HPN := Lib.hid hpn
      have tx : (el != x) = false := by rw [hx]; simp
      clear hpn hx
      gi_wp2
      exact ⟨KeepsOthers.setCell _ _ _, HKE.out, HB8N.out, HPN.out, HKB.out⟩
    · have hpn := pfx15_no hlen (x := x) (by rw [← HHLO.out]; exact hx)
      have HPN := Lib.hid hpn
      have tx : (el != x) = true := by simp; omega
      clear hpn hx
      gi_wp2
      exact ⟨KeepsOthers.setCell _ _ _, HPN.out⟩
  case stop =>
    rintro D c pre Z hD hpre h hKD
    exact absurd hpre h
  case done =>
    rintro D ys Z hD hys ⟨hb8, -, hkz⟩ hKD
    rw [hys] at hb8
    have HKZ := Lib.hid (show Keeps [] w Z from HK6.out.trans hkz (fun q hq => .inr (by simp at hq; have := HS6.out; omega)))
    have H8Z := Lib.hid hb8; have H4Z := Lib.hid (hkz.heap H46.out (by have := HS6.out; simp; omega)); have H3Z := Lib.hid (hkz.heap H36.out (by have := HS6.out; simp; omega)); have H2Z := Lib.hid (hkz.heap H26.out (by have := HS6.out; simp; omega))
    have HKD := Lib.hid hKD; have HDL := Lib.hid (show w.heap.size + 3 ≤ B8 ∧ B8 < D from by have := HS6.out; omega)
    have hne4 : B8 ≠ w.heap.size + 2 := by have := HDL.out; omega
    have hb3 := H3Z.out
    have c3 := cell_of_one hb3
    clear hb8 hkz hKD hys hD H26 H36 H46 H86 HK6 HB6 HS6 hb3
    have HLE := Lib.hid (show ∀ hp : 0 < S.length, leastB S = S[0] from fun hp => by
      cases S with
      | nil => simp at hp
      | cons y r => rfl)
    have tkq : ((S.length : Int) == (S.length : Int)) = true := by simp
    have tl : (leastB S == leastB S) = true := by simp
    have HCN := Lib.hid (fun w' (h : Keeps [] Z w') => R.count w' _ S (HGL.out _ (HKZ.out.trans h (FSub.refl _ _))) (HAT.out _ (HKZ.out.trans h (FSub.refl _ _))))
    have HLS := Lib.hid (fun w' (h : Keeps [] Z w') => R.least w' _ S (HGL.out _ (HKZ.out.trans h (FSub.refl _ _))) (HAT.out _ (HKZ.out.trans h (FSub.refl _ _))))
    by_cases hp : 0 < S.length
    case pos =>
      obtain ⟨bk, o, rfl, -, cl⟩ := InZ_at (HIN.out.new HKZ.out (Nat.le_refl _)) hp
      rw [← HLE.out hp, Nat.add_zero] at cl
      have hp1 : 0 < (S.length : Int) := by omega
      go_wp2_with fail
      obtain ⟨S0, hS0⟩ : ∃ S0 : World → Prop, S0 = fun y => Keeps [w.heap.size + 2] Z y := ⟨_, rfl⟩
      have HSE := Lib.hid hS0
      have hSD : S0 Z.drew := by rw [hS0]; exact (Keeps.refl _ _).drew
      have HC8 := Lib.hid (fun (w' : World) (hh : S0 w') => show w'.cell? ⟨B8, 0, none⟩ = some (.int .i64 (S.length : Int)) from by rw [hS0] at hh; exact cell_of_one (hh.heap H8Z.out (by simpa using hne4)))
      have HC3 := Lib.hid (fun (w' : World) (hh : S0 w') => show w'.cell? ⟨w.heap.size + 1, 0, none⟩ = some _ from by rw [hS0] at hh; exact cell_of_one (hh.heap H3Z.out (by simp)))
      have HC2 := Lib.hid (fun (w' : World) (hh : S0 w') => show w'.rangeAt w.heap.size 0 A from by rw [hS0] at hh; exact block_range (hh.heap H2Z.out (by simp)))
      clear hS0
      refine wp_region_noPanic ?_
      refine wp_region_held_drew (S := S0) (by kernel_rfl) hSD (fun hHeld => ?_)
      have HY := Lib.hid ((Keeps.refl [] Z).drew)
      generalize Z.drew = YC at *
      refine tk 0 (y := by exact Or.inl ⟨by rfl, by intro w hSw; have q0 := HC8.out w hSw; go_simp; try with_reducible rfl⟩) (h := ?_)
      refine tk 1 (y := by exact Or.inl ⟨by rfl, by intro w hSw; have q0 := HC3.out w hSw; go_simp; try with_reducible rfl⟩) (h := ?_)
      refine tw 2 (h := ?_)
      refine tw 3 (h := ?_)
      refine tw 4 (h := ?_)
      refine tk 5 (y := by exact skB.yields HA.out rfl _ rfl w.heap.size 0 rfl HC2.out) (h := ?_)
      refine tk 7 (y := by exact Or.inl ⟨by rfl, by intro w hSw; have q0 := HC8.out w hSw; go_simp; try with_reducible rfl⟩) (h := ?_)
      refine rp 6 (h := fun K hK => ?_)
      refine wp_call9 28 _ _ rfl [.agg A.toArray] rfl Tryd.func28 (by kernel_rfl) (by kernel_rfl) ((HCN.out _ HY.out).mono ?_)
      rintro e YC ⟨rfl, hk1⟩
      refine ⟨_, rfl, ?_⟩
      replace HY := Lib.hid (HY.out.trans hk1 (FSub.refl _ _)); clear hk1
      refine hK.out _ _ (by rw [HSE.out]; exact HY.out.more (by simp)) (fun hHeld => ?_); clear hK K; try simp only [Act.put, lsA, lsZ, lsS]
      refine tw 8 (h := ?_)
      refine tw 9 (h := ?_)
      refine tw 10 (h := ?_)
      refine tk 11 (y := by exact skB.yields HA.out rfl _ rfl w.heap.size 0 rfl HC2.out) (h := ?_)
      refine tw 13 (h := ?_)
      refine rp 12 (h := fun K hK => ?_)
      refine wp_call9 23 _ _ rfl [.agg A.toArray] rfl Tryd.func23 (by kernel_rfl) (by kernel_rfl) ((HLS.out _ HY.out).mono ?_)
      rintro e YC ⟨rfl, hk1⟩
      refine ⟨_, rfl, ?_⟩
      replace HY := Lib.hid (HY.out.trans hk1 (FSub.refl _ _)); clear hk1
      refine hK.out _ _ (by rw [HSE.out]; exact HY.out.more (by simp)) (fun hHeld => ?_); clear hK K; try simp only [Act.put, lsA, lsZ, lsS]
      refine tw 14 (h := ?_)
      refine tw 15 (h := ?_)
      refine rp 16 (h := fun K hK => ?_)
      refine wp_put15 (g := w.heap.size + 2) (j := 0) (A := [.bool false]) rfl (by kernel_rfl) rfl rfl (HY.out.heap H4Z.out (by simp)) (by simp) rfl (fun YE hV hk => ?_)
      have HVE := Lib.hid hV; have HYE := Lib.hid ((HY.out.more (G := [w.heap.size + 2]) (by simp)).trans hk (FSub.refl _ _))
      clear hV hk
      refine hK.out _ _ (by rw [HSE.out]; exact HYE.out) (fun hHeld => ?_); clear hK K; try simp only [Act.put, lsA, lsZ, lsS]
      refine wpAnyH_done (by kernel_rfl) ?_ _
      refine NoPanic.normal ?_
      have HKF := Lib.hid (HKZ.out.trans HYE.out (fun q hq => .inr (by simp at hq; omega)))
      have HDF := Lib.hid (HYE.out.heap HKD.out (by have := HDL.out; simp; omega))
      clear hHeld hSD HSE HC8 HC3 HC2 HY HYE
      go_wp2_with fail
      have hc5 : (YE.putObj D (.deferred none)).cell? ⟨w.heap.size + 1 + 1, 0, none⟩ = some (.bool true) :=
        cell_kept (cell_of_one HVE.out) (grownBy_putObj' _ D (.deferred none)) (fun r e => by cases e; exact ⟨_, HDF.out, rfl⟩)
      refine ⟨by simp, .inl ⟨_, _, rfl, run_takeDeferred HDF.out, ?_⟩⟩
      refine ⟨.bool true, ?_, rfl, HKF.out.putObj _ _ (by have := HDL.out; omega)⟩
      simp [results, Tryd.f17, go_sem, hc5]
    case neg =>
      have hp1 : ¬ 0 < (S.length : Int) := by omega
      have hl1 : leastB S = -1 := by
        cases S with
        | nil => rfl
        | cons y r => simp at hp
      rw [hl1] at HLS tl
      go_wp2_with fail
      obtain ⟨S0, hS0⟩ : ∃ S0 : World → Prop, S0 = fun y => Keeps [w.heap.size + 2] Z y := ⟨_, rfl⟩
      have HSE := Lib.hid hS0
      have hSD : S0 Z.drew := by rw [hS0]; exact (Keeps.refl _ _).drew
      have HC8 := Lib.hid (fun (w' : World) (hh : S0 w') => show w'.cell? ⟨B8, 0, none⟩ = some (.int .i64 (S.length : Int)) from by rw [hS0] at hh; exact cell_of_one (hh.heap H8Z.out (by simpa using hne4)))
      have HC3 := Lib.hid (fun (w' : World) (hh : S0 w') => show w'.cell? ⟨w.heap.size + 1, 0, none⟩ = some _ from by rw [hS0] at hh; exact cell_of_one (hh.heap H3Z.out (by simp)))
      have HC2 := Lib.hid (fun (w' : World) (hh : S0 w') => show w'.rangeAt w.heap.size 0 A from by rw [hS0] at hh; exact block_range (hh.heap H2Z.out (by simp)))
      clear hS0
      refine wp_region_noPanic ?_
      refine wp_region_held_drew (S := S0) (by kernel_rfl) hSD (fun hHeld => ?_)
      have HY := Lib.hid ((Keeps.refl [] Z).drew)
      generalize Z.drew = YC at *
      refine tk 0 (y := by exact Or.inl ⟨by rfl, by intro w hSw; have q0 := HC8.out w hSw; go_simp; try with_reducible rfl⟩) (h := ?_)
      refine tk 1 (y := by exact Or.inl ⟨by rfl, by intro w hSw; have q0 := HC3.out w hSw; go_simp; try with_reducible rfl⟩) (h := ?_)
      refine tw 2 (h := ?_)
      refine tw 3 (h := ?_)
      refine tw 4 (h := ?_)
      refine tk 5 (y := by exact skB.yields HA.out rfl _ rfl w.heap.size 0 rfl HC2.out) (h := ?_)
      refine tk 7 (y := by exact Or.inl ⟨by rfl, by intro w hSw; have q0 := HC8.out w hSw; go_simp; try with_reducible rfl⟩) (h := ?_)
      refine rp 6 (h := fun K hK => ?_)
      refine wp_call9 28 _ _ rfl [.agg A.toArray] rfl Tryd.func28 (by kernel_rfl) (by kernel_rfl) ((HCN.out _ HY.out).mono ?_)
      rintro e YC ⟨rfl, hk1⟩
      refine ⟨_, rfl, ?_⟩
      replace HY := Lib.hid (HY.out.trans hk1 (FSub.refl _ _)); clear hk1
      refine hK.out _ _ (by rw [HSE.out]; exact HY.out.more (by simp)) (fun hHeld => ?_); clear hK K; try simp only [Act.put, lsA, lsZ, lsS]
      refine tw 8 (h := ?_)
      refine tw 9 (h := ?_)
      refine tw 10 (h := ?_)
      refine tk 11 (y := by exact skB.yields HA.out rfl _ rfl w.heap.size 0 rfl HC2.out) (h := ?_)
      refine tw 13 (h := ?_)
      refine rp 12 (h := fun K hK => ?_)
      refine wp_call9 23 _ _ rfl [.agg A.toArray] rfl Tryd.func23 (by kernel_rfl) (by kernel_rfl) ((HLS.out _ HY.out).mono ?_)
      rintro e YC ⟨rfl, hk1⟩
      refine ⟨_, rfl, ?_⟩
      replace HY := Lib.hid (HY.out.trans hk1 (FSub.refl _ _)); clear hk1
      refine hK.out _ _ (by rw [HSE.out]; exact HY.out.more (by simp)) (fun hHeld => ?_); clear hK K; try simp only [Act.put, lsA, lsZ, lsS]
      refine tw 14 (h := ?_)
      refine tw 15 (h := ?_)
      refine rp 16 (h := fun K hK => ?_)
      refine wp_put15 (g := w.heap.size + 2) (j := 0) (A := [.bool false]) rfl (by kernel_rfl) rfl rfl (HY.out.heap H4Z.out (by simp)) (by simp) rfl (fun YE hV hk => ?_)
      have HVE := Lib.hid hV; have HYE := Lib.hid ((HY.out.more (G := [w.heap.size + 2]) (by simp)).trans hk (FSub.refl _ _))
      clear hV hk
      refine hK.out _ _ (by rw [HSE.out]; exact HYE.out) (fun hHeld => ?_); clear hK K; try simp only [Act.put, lsA, lsZ, lsS]
      refine wpAnyH_done (by kernel_rfl) ?_ _
      refine NoPanic.normal ?_
      have HKF := Lib.hid (HKZ.out.trans HYE.out (fun q hq => .inr (by simp at hq; omega)))
      have HDF := Lib.hid (HYE.out.heap HKD.out (by have := HDL.out; simp; omega))
      clear hHeld hSD HSE HC8 HC3 HC2 HY HYE
      go_wp2_with fail
      have hc5 : (YE.putObj D (.deferred none)).cell? ⟨w.heap.size + 1 + 1, 0, none⟩ = some (.bool true) :=
        cell_kept (cell_of_one HVE.out) (grownBy_putObj' _ D (.deferred none)) (fun r e => by cases e; exact ⟨_, HDF.out, rfl⟩)
      refine ⟨by simp, .inl ⟨_, _, rfl, run_takeDeferred HDF.out, ?_⟩⟩
      refine ⟨.bool true, ?_, rfl, HKF.out.putObj _ _ (by have := HDL.out; omega)⟩
      simp [results, Tryd.f17, go_sem, hc5]
end Go.Proofs.YtbeniihbejakaaaDoor
