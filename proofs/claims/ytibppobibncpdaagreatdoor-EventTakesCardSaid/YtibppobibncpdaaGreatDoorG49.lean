/-
  The document's reading of what stands behind a client and an ID: an operation. (Printed by draft/genbody5.py.)
-/
import Derived.Test.YtibppobibncpdaaGreatDoorG46
import Derived.Test.YtibppobibncpdaaGreatDoorG48
import Derived.Test.YtibppobibncpdaaGreatDoorG33
import Derived.Test.YtibppobibncpdaaGreatDoorG28
set_option linter.unusedSimpArgs false
set_option linter.unusedVariables false
namespace Go.Proofs.YtibppobibncpdaaGreatDoor
open Go.RowKit
/-- What body tells. -/
def BodyPost (q : Nat) (E : Int) (X : Ev) (w : World) (z : Ending) (W : World) : Prop :=
  ∃ Y tx rd, z = .returned (.tuple #[.agg (evC Y tx rd), .int .i64 E]) ∧ tx.oneCell' = true ∧ rd.oneCell' = true ∧ (E = 0 → Y = X ∧ EvKeeps w.heap.size W tx rd X) ∧ Keeps [q] w W
theorem BodyPost.nil {q : Nat} {E : Int} {X Y : Ev} {w W : World} {z : Ending} (hz : z = .returned (.tuple #[.agg (evC Y (.slice none 0 0) (.slice none 0 0)), .int .i64 E])) (h : E = 0 → Y = X) (ht : X.t = []) (hr : X.r = []) (hk : Keeps [q] w W) : BodyPost q E X w z W :=
  ⟨Y, _, _, hz, rfl, rfl, fun e => ⟨h e, fun _ _ _ _ => ⟨by rw [ht]; exact Mics.nil _ _, by rw [hr]; exact Lists.nil _ _⟩⟩, hk⟩
def opE (l : List UInt8) : Int := if tkErr (nb l) = 0 ∧ tkRest l ≠ [] then 4 else tkErr (nb l)
theorem wpList_put_cells {ops : Array Oper} {rest : List Oper} {a : Act} {w : World} {Q : Exit → Act → World → Prop} {dst : Option Tmp} {ty : TypeId} {pos : String} {after : Array Edge} {x y : Operand} {g : Nat} {old cells : Array Value} {t T : TypeId}
    (hx : a.eval x = .pointer (some ⟨g, 0, none⟩)) (hy : a.eval y = .agg cells) (hg : w.heap[g]? = some (.cells old t (0, 0))) (hi : (Tryz.prog.info? T).map (·.size) = some cells.size) (hs : old.size = cells.size)
    (h1 : cells.toList.all (·.oneCell') = true) (h : ∀ W, W.heap[g]? = some (.cells cells t (0, 0)) → Keeps [g] w W → wpList Tryz.prog ops Q rest (a.put dst undef) W) :
    wpList Tryz.prog ops Q ({ dst := dst, op := .store T x y, type := ty, pos := pos, after := after, guard := none } :: rest) a w :=
  wpList_store_row rfl T x y rfl g cells hx hy t old hg hi hs (by rw [← Array.all_toList]; exact h1) (h _ (setRow_heap w g old cells t (0, 0) hg) ((Keeps.refl [g] w).setRow g cells (.inl (by simp))))
set_option maxHeartbeats 8000000 in
set_option maxRecDepth 100000 in
theorem refBody_2 (w : World) (q p : Nat) (L : List UInt8) (hL : L.length ≤ 2500) (h : QAt w q (nb L) 0 p) (x : Ev) (hk : x.k = 2) (hxt : x.t = []) (hxr : x.r = []) :
    Calls Tryz.prog 37 #[.agg (evC x (.slice none 0 0) (.slice none 0 0)), .pointer (some ⟨q, 0, none⟩)] w (BodyPost q (opE (L.drop p)) { x with o := tkX (nb (L.drop p)) } w) := by
  have hc := fun w => r4Take_any w (L.drop p) (by simp; omega)
  have hS : strOfNums ((nb L).drop p) = bs (L.drop p) := by rw [← nb_drop, str_nb]
  unfold QAt at h
  rw [hS] at h
  clear hS
  obtain ⟨l, hl⟩ : ∃ l, l = L.drop p := ⟨_, rfl⟩
  rw [← hl] at hc h ⊢
  clear hl
  obtain ⟨EE, hE⟩ : ∃ EE, EE = opE l := ⟨_, rfl⟩
  rw [← hE]
  unfold opE at hE
  generalize tkX (nb l) = O at *
  generalize tkRest l = RS at *
  generalize tkErr (nb l) = E at *
  obtain ⟨o1, o2, o3, o4, o5⟩ := O
  have HE := Lib.hid hE; have HC := Lib.hid hc
  clear hE hc hL
  have hqz : q < w.heap.size := lt_of_block h
  have hk0 := ((Keeps.refl [q] w).alloc (.cells (evC x (.slice none 0 0) (.slice none 0 0)) 32)).alloc (.cells #[.int .u8 0, .int .u8 0, .int .u16 0, .int .u8 0, .int .u8 0, .int .u8 0, .int .u16 0, .int .u16 0, .int .u8 0, .int .u16 0, .slice none 0 0, .slice none 0 0, .int .u8 0, .int .i64 0, .int .i64 0, .int .i64 0, .bool false, .bool false, .bool false] 32)
  have hX := heap_alloc_lt (o := .cells #[.int .u8 0, .int .u8 0, .int .u16 0, .int .u8 0, .int .u8 0, .int .u8 0, .int .u16 0, .int .u16 0, .int .u8 0, .int .u16 0, .slice none 0 0, .slice none 0 0, .int .u8 0, .int .i64 0, .int .i64 0, .int .i64 0, .bool false, .bool false, .bool false] 32) (heap_alloc_new w (.cells (evC x (.slice none 0 0) (.slice none 0 0)) 32))
  have hR : ((w.alloc (.cells (evC x (.slice none 0 0) (.slice none 0 0)) 32)).alloc (.cells #[.int .u8 0, .int .u8 0, .int .u16 0, .int .u8 0, .int .u8 0, .int .u8 0, .int .u16 0, .int .u16 0, .int .u8 0, .int .u16 0, .slice none 0 0, .slice none 0 0, .int .u8 0, .int .i64 0, .int .i64 0, .int .i64 0, .bool false, .bool false, .bool false] 32)).heap[w.heap.size + 1]? = some (.cells (evC evZero (.slice none 0 0) (.slice none 0 0)) 32) := heap_alloc2_new w _ _
  have hQ := heap_alloc_lt (o := .cells #[.int .u8 0, .int .u8 0, .int .u16 0, .int .u8 0, .int .u8 0, .int .u8 0, .int .u16 0, .int .u16 0, .int .u8 0, .int .u16 0, .slice none 0 0, .slice none 0 0, .int .u8 0, .int .i64 0, .int .i64 0, .int .i64 0, .bool false, .bool false, .bool false] 32) (heap_alloc_lt (o := .cells (evC x (.slice none 0 0) (.slice none 0 0)) 32) h)
  have E0 := evC_0 x (.slice none 0 0) (.slice none 0 0)
  rw [hk] at E0
  have HK0 := Lib.hid hk0; have HX0 := Lib.hid hX; have HR0 := Lib.hid hR; have HQ0 := Lib.hid hQ
  have HXT := Lib.hid hxt; have HXR := Lib.hid hxr
  clear hk0 h hX hR hQ hxt hxr hk
  go_enter Tryz.func37, Tryz.ntmps37
  have hc0 : ((w.alloc (.cells (evC x (.slice none 0 0) (.slice none 0 0)) 32)).alloc (.cells #[.int .u8 0, .int .u8 0, .int .u16 0, .int .u8 0, .int .u8 0, .int .u8 0, .int .u16 0, .int .u16 0, .int .u8 0, .int .u16 0, .slice none 0 0, .slice none 0 0, .int .u8 0, .int .i64 0, .int .i64 0, .int .i64 0, .bool false, .bool false, .bool false] 32)).cell? ⟨q, 0, none⟩ = some (.string (bs l)) := by unfold World.cell?; simp only [HQ0.out]; rfl
  have hX0 := HX0.out
  go_wp2_with fail
  generalize (w.alloc (.cells (evC x (.slice none 0 0) (.slice none 0 0)) 32)).alloc (.cells #[.int .u8 0, .int .u8 0, .int .u16 0, .int .u8 0, .int .u8 0, .int .u8 0, .int .u16 0, .int .u16 0, .int .u8 0, .int .u16 0, .slice none 0 0, .slice none 0 0, .int .u8 0, .int .i64 0, .int .i64 0, .int .i64 0, .bool false, .bool false, .bool false] 32) = W0 at *
  have hz0 := lt_of_block HR0.out
  refine (HC.out _).mono ?_; rintro z w1 ⟨rfl, hk1⟩
  have hX1 := hk1.heap HX0.out (by simp)
  have hR1 := hk1.heap HR0.out (by simp)
  have HK1 := Lib.hid (HK0.out.trans hk1 (fun g hg => by simp at hg))
  have hz1 := lt_of_block hR1
  clear hk1 HX0 HR0 HK0 HC hc0 HQ0 hz0 hX0 E0
  simp only [Opn.val]
  have hop := heap_alloc_new w1 (.cells #[.int .u8 o1, .int .u8 o2, .int .u8 o3, .int .u16 o4, .int .u16 o5] 24)
  have hXa := heap_alloc_lt (o := .cells #[.int .u8 o1, .int .u8 o2, .int .u8 o3, .int .u16 o4, .int .u16 o5] 24) hX1
  have hRa := heap_alloc_lt (o := .cells #[.int .u8 o1, .int .u8 o2, .int .u8 o3, .int .u16 o4, .int .u16 o5] 24) hR1
  have HKa := Lib.hid (HK1.out.alloc (.cells #[.int .u8 o1, .int .u8 o2, .int .u8 o3, .int .u16 o4, .int .u16 o5] 24))
  go_wp2_with ((with_reducible apply wpList_put_op); exact rfl; exact rfl; exact hXa)
  intro W2 hb2 hk2
  have hR2 := hk2.heap hRa (by simp)
  have HK2 := Lib.hid (HKa.out.trans hk2 (fun g hg => .inr (by simp at hg; omega)))
  clear hk2 HKa hop hXa hRa hX1 hR1 HK1
  by_cases he : E = 0
  · subst he
    by_cases hr : RS = []
    · have hEE : EE = 0 := HE.out.trans (if_neg (fun h => h.2 hr))
      subst hEE
      subst hr
      clear HE
      have t1 : (bs []).toList.isEmpty = true := by rw [toL_bs]; rfl
      go_wp2_with (first | ((with_reducible apply wpList_load_ev); exact rfl; (first | assumption | (refine heap_alloc_lt ?_; assumption) | (refine heap_alloc_lt (heap_alloc_lt ?_); assumption) | exact heap_alloc_at (by simp)); exact rfl) | ((with_reducible apply wpList_put_ev); exact rfl; exact rfl; (first | assumption | (refine heap_alloc_lt ?_; assumption) | (refine heap_alloc_lt (heap_alloc_lt ?_); assumption) | exact heap_alloc_at (by simp)); exact ⟨rfl, rfl⟩; (refine evC_one _ ?_ ?_ <;> first | rfl | assumption)))
      intro W3 hb3 hk3
      have HK3 := Lib.hid (HK2.out.trans hk3 (fun g hg => .inr (by simp at hg; omega)))
      clear hk3 HK2
      go_wp2_with fail
      refine bodyPost_ret (results_ev2 rfl _ _ _ rfl hb3) rfl ?_
      exact BodyPost.nil rfl (fun _ => rfl) HXT.out HXR.out HK3.out
    · have hEE : EE = 4 := HE.out.trans (if_pos ⟨rfl, hr⟩)
      subst hEE
      clear HE
      have t1 : (bs RS).toList.isEmpty = false := by
        rw [toL_bs]
        cases RS with
        | nil => exact absurd rfl hr
        | cons c l => rfl
      generalize bs RS = T at *
      go_wp2_with (first | ((with_reducible apply wpList_load_ev); exact rfl; (first | assumption | (refine heap_alloc_lt ?_; assumption) | (refine heap_alloc_lt (heap_alloc_lt ?_); assumption) | exact heap_alloc_at (by simp)); exact rfl) | ((with_reducible apply wpList_put_ev); exact rfl; exact rfl; (first | assumption | (refine heap_alloc_lt ?_; assumption) | (refine heap_alloc_lt (heap_alloc_lt ?_); assumption) | exact heap_alloc_at (by simp)); exact ⟨rfl, rfl⟩; (refine evC_one _ ?_ ?_ <;> first | rfl | assumption)))
      intro W3 hb3 hk3
      have HK3 := Lib.hid (HK2.out.trans hk3 (fun g hg => .inr (by simp at hg; omega)))
      clear hk3 HK2
      go_wp2_with fail
      refine bodyPost_ret (results_ev2 rfl _ _ _ rfl hb3) rfl ?_
      exact BodyPost.nil rfl (fun h => by cases h) HXT.out HXR.out HK3.out
  · have hEE : EE = E := HE.out.trans (if_neg (fun h => he h.1))
    subst hEE
    clear HE
    have t1 : (EE == 0) = false := by simpa using he
    go_wp2_with (first | ((with_reducible apply wpList_load_ev); exact rfl; (first | assumption | (refine heap_alloc_lt ?_; assumption) | (refine heap_alloc_lt (heap_alloc_lt ?_); assumption) | exact heap_alloc_at (by simp)); exact rfl) | ((with_reducible apply wpList_put_ev); exact rfl; exact rfl; (first | assumption | (refine heap_alloc_lt ?_; assumption) | (refine heap_alloc_lt (heap_alloc_lt ?_); assumption) | exact heap_alloc_at (by simp)); exact ⟨rfl, rfl⟩; (refine evC_one _ ?_ ?_ <;> first | rfl | assumption)))
    intro W3 hb3 hk3
    have HK3 := Lib.hid (HK2.out.trans hk3 (fun g hg => .inr (by simp at hg; omega)))
    clear hk3 HK2
    go_wp2_with fail
    refine bodyPost_ret (results_ev2 rfl _ _ _ rfl hb3) rfl ?_
    exact BodyPost.nil rfl (fun h => absurd h he) HXT.out HXR.out HK3.out
end Go.Proofs.YtibppobibncpdaaGreatDoor
/-
  The document's reading of what stands behind a client and an ID: an answer. (Printed by draft/genbody5.py.)
-/
namespace Go.Proofs.YtibppobibncpdaaGreatDoor
open Go.RowKit
set_option maxHeartbeats 8000000 in
set_option maxRecDepth 100000 in
theorem refBody_3 (w : World) (q p : Nat) (L : List UInt8) (hL : L.length ≤ 2500) (h : QAt w q (nb L) 0 p) (x : Ev) (hk : x.k = 3) (hxt : x.t = []) (hxr : x.r = []) (hpl : p ≤ (nb L).length) :
    Calls Tryz.prog 37 #[.agg (evC x (.slice none 0 0) (.slice none 0 0)), .pointer (some ⟨q, 0, none⟩)] w (BodyPost q (tkE (nb L) 0 p) { x with rk := tkK (nb L) 0 p, rv := tkV (nb L) 0 p } w) := by
  have hx := nb_in L
  have hl2 : (nb L).length ≤ 1000000 := by rw [nb_length]; omega
  have hc := fun w h => r3Take_any w q p (nb L) 0 h hx hpl hl2
  generalize tkK (nb L) 0 p = K3 at *
  generalize tkV (nb L) 0 p = V3 at *
  generalize tkE (nb L) 0 p = E at *
  have HC := Lib.hid hc
  clear hc hx hl2 hL
  have hqz : q < w.heap.size := lt_of_block h
  have hk0 := ((Keeps.refl [q] w).alloc (.cells (evC x (.slice none 0 0) (.slice none 0 0)) 32)).alloc (.cells #[.int .u8 0, .int .u8 0, .int .u16 0, .int .u8 0, .int .u8 0, .int .u8 0, .int .u16 0, .int .u16 0, .int .u8 0, .int .u16 0, .slice none 0 0, .slice none 0 0, .int .u8 0, .int .i64 0, .int .i64 0, .int .i64 0, .bool false, .bool false, .bool false] 32)
  have hX := heap_alloc_lt (o := .cells #[.int .u8 0, .int .u8 0, .int .u16 0, .int .u8 0, .int .u8 0, .int .u8 0, .int .u16 0, .int .u16 0, .int .u8 0, .int .u16 0, .slice none 0 0, .slice none 0 0, .int .u8 0, .int .i64 0, .int .i64 0, .int .i64 0, .bool false, .bool false, .bool false] 32) (heap_alloc_new w (.cells (evC x (.slice none 0 0) (.slice none 0 0)) 32))
  have hR : ((w.alloc (.cells (evC x (.slice none 0 0) (.slice none 0 0)) 32)).alloc (.cells #[.int .u8 0, .int .u8 0, .int .u16 0, .int .u8 0, .int .u8 0, .int .u8 0, .int .u16 0, .int .u16 0, .int .u8 0, .int .u16 0, .slice none 0 0, .slice none 0 0, .int .u8 0, .int .i64 0, .int .i64 0, .int .i64 0, .bool false, .bool false, .bool false] 32)).heap[w.heap.size + 1]? = some (.cells (evC evZero (.slice none 0 0) (.slice none 0 0)) 32) := heap_alloc2_new w _ _
  have hQ := heap_alloc_lt (o := .cells #[.int .u8 0, .int .u8 0, .int .u16 0, .int .u8 0, .int .u8 0, .int .u8 0, .int .u16 0, .int .u16 0, .int .u8 0, .int .u16 0, .slice none 0 0, .slice none 0 0, .int .u8 0, .int .i64 0, .int .i64 0, .int .i64 0, .bool false, .bool false, .bool false] 32) (heap_alloc_lt (o := .cells (evC x (.slice none 0 0) (.slice none 0 0)) 32) h)
  have E0 := evC_0 x (.slice none 0 0) (.slice none 0 0)
  rw [hk] at E0
  have HK0 := Lib.hid hk0; have HX0 := Lib.hid hX; have HR0 := Lib.hid hR; have HQ0 := Lib.hid hQ
  have HXT := Lib.hid hxt; have HXR := Lib.hid hxr
  clear hk0 h hX hR hQ hxt hxr hk
  go_enter Tryz.func37, Tryz.ntmps37
  have hX0 := HX0.out
  go_wp2_with fail
  generalize (w.alloc (.cells (evC x (.slice none 0 0) (.slice none 0 0)) 32)).alloc (.cells #[.int .u8 0, .int .u8 0, .int .u16 0, .int .u8 0, .int .u8 0, .int .u8 0, .int .u16 0, .int .u16 0, .int .u8 0, .int .u16 0, .slice none 0 0, .slice none 0 0, .int .u8 0, .int .i64 0, .int .i64 0, .int .i64 0, .bool false, .bool false, .bool false] 32) = W0 at *
  have hz0 := lt_of_block HR0.out
  refine (HC.out _ HQ0.out).mono ?_; rintro z w1 ⟨rfl, -, hk1⟩
  have hX1 := hk1.heap HX0.out (by simp; omega)
  have hR1 := hk1.heap HR0.out (by simp; omega)
  have HK1 := Lib.hid (HK0.out.trans hk1 (FSub.refl _ _))
  have hz1 := lt_of_block hR1
  clear hk1 HX0 HR0 HK0 HC HQ0 hz0 hX0 E0
  have hXa := heap_alloc_lt (o := .cells #[.int .u8 K3, .int .u16 V3] 26) hX1
  have hRa := heap_alloc_lt (o := .cells #[.int .u8 K3, .int .u16 V3] 26) hR1
  have HKa := Lib.hid (HK1.out.alloc (.cells #[.int .u8 K3, .int .u16 V3] 26))
  go_wp2_with ((with_reducible apply wpList_put_res); exact rfl; exact rfl; exact hXa)
  intro W2 hb2 hk2
  have hR2 := hk2.heap hRa (by simp)
  have HK2 := Lib.hid (HKa.out.trans hk2 (fun g hg => .inr (by simp at hg; omega)))
  clear hk2 HKa hXa hRa hX1 hR1 HK1
  go_wp2_with (first | ((with_reducible apply wpList_load_ev); exact rfl; (first | assumption | (refine heap_alloc_lt ?_; assumption) | (refine heap_alloc_lt (heap_alloc_lt ?_); assumption) | exact heap_alloc_at (by simp)); exact rfl) | ((with_reducible apply wpList_put_ev); exact rfl; exact rfl; (first | assumption | (refine heap_alloc_lt ?_; assumption) | (refine heap_alloc_lt (heap_alloc_lt ?_); assumption) | exact heap_alloc_at (by simp)); exact ⟨rfl, rfl⟩; (refine evC_one _ ?_ ?_ <;> first | rfl | assumption)))
  intro W3 hb3 hk3
  have HK3 := Lib.hid (HK2.out.trans hk3 (fun g hg => .inr (by simp at hg; omega)))
  clear hk3 HK2
  go_wp2_with fail
  refine bodyPost_ret (results_ev2 rfl _ _ _ rfl hb3) rfl ?_
  exact BodyPost.nil rfl (fun _ => rfl) HXT.out HXR.out HK3.out
end Go.Proofs.YtibppobibncpdaaGreatDoor
/-
  The document's reading of what stands behind a client and an ID: nothing. (Printed by draft/genbody5.py.)
-/
namespace Go.Proofs.YtibppobibncpdaaGreatDoor
open Go.RowKit
def BodyS (b q : Nat) (x : Ev) (tx rd : Value) (E : Int) (w : World) : Prop := w.heap[b]? = some (.cells (evC x tx rd) 32) ∧ w.cell? ⟨q, 2, none⟩ = some (.int .i64 E)
theorem BodyS.load {b q : Nat} {x : Ev} {tx rd : Value} {E : Int} {w : World} (h : BodyS b q x tx rd E w) : (Instr.loadAt 32 (.pointer (some ⟨b, 0, none⟩))).run Tryz.prog w = .ok (.agg (evC x tx rd)) w := by
  simp only [Instr.loadAt, Instr.sureAddr, Sem.run_bind, Sem.run_pure, Result.andThen_ok, run_loadVar_row w _ _ 32 _ _ _ h.1 Tryz.underlying32 rfl (by kernel_rfl)]
theorem wp_put_ev {o : Oper} {a : Act} {w : World} {K : Act → World → Prop} {Q : Exit → Act → World → Prop} (x y : Operand) {g : Nat} {old cells : Array Value} {t : TypeId}
    (ho : o.op = .store 32 x y) (hx : a.eval x = .pointer (some ⟨g, 0, none⟩)) (hy : a.eval y = .agg cells) (hg : w.heap[g]? = some (.cells old t (0, 0))) (hs : old.size = 19 ∧ cells.size = 19)
    (h1 : cells.toList.all (·.oneCell') = true) (h : ∀ W, W.heap[g]? = some (.cells cells t (0, 0)) → Keeps [g] w W → K (a.put o.dst undef) W) : o.wp Tryz.prog a w K Q :=
  wp_store_row 32 x y ho g cells hx hy t old hg (by rw [hs.2]; kernel_rfl) (by rw [hs.1, hs.2]) (by rw [← Array.all_toList]; exact h1) (h _ (setRow_heap w g old cells t (0, 0) hg) ((Keeps.refl [g] w).setRow g cells (.inl (by simp))))
set_option maxHeartbeats 8000000 in
set_option maxRecDepth 100000 in
theorem refBody_4 (w : World) (q p : Nat) (L : List UInt8) (hL : L.length ≤ 2500) (h : QAt w q (nb L) 0 p) (x : Ev) (hk : x.k = 4) (hxt : x.t = []) (hxr : x.r = []) :
    Calls Tryz.prog 37 #[.agg (evC x (.slice none 0 0) (.slice none 0 0)), .pointer (some ⟨q, 0, none⟩)] w (BodyPost q 0 x w) := by
  clear hL
  have hqz : q < w.heap.size := lt_of_block h
  have hk0 := ((Keeps.refl [q] w).alloc (.cells (evC x (.slice none 0 0) (.slice none 0 0)) 32)).alloc (.cells #[.int .u8 0, .int .u8 0, .int .u16 0, .int .u8 0, .int .u8 0, .int .u8 0, .int .u16 0, .int .u16 0, .int .u8 0, .int .u16 0, .slice none 0 0, .slice none 0 0, .int .u8 0, .int .i64 0, .int .i64 0, .int .i64 0, .bool false, .bool false, .bool false] 32)
  have hX := heap_alloc_lt (o := .cells #[.int .u8 0, .int .u8 0, .int .u16 0, .int .u8 0, .int .u8 0, .int .u8 0, .int .u16 0, .int .u16 0, .int .u8 0, .int .u16 0, .slice none 0 0, .slice none 0 0, .int .u8 0, .int .i64 0, .int .i64 0, .int .i64 0, .bool false, .bool false, .bool false] 32) (heap_alloc_new w (.cells (evC x (.slice none 0 0) (.slice none 0 0)) 32))
  have hR : ((w.alloc (.cells (evC x (.slice none 0 0) (.slice none 0 0)) 32)).alloc (.cells #[.int .u8 0, .int .u8 0, .int .u16 0, .int .u8 0, .int .u8 0, .int .u8 0, .int .u16 0, .int .u16 0, .int .u8 0, .int .u16 0, .slice none 0 0, .slice none 0 0, .int .u8 0, .int .i64 0, .int .i64 0, .int .i64 0, .bool false, .bool false, .bool false] 32)).heap[w.heap.size + 1]? = some (.cells (evC evZero (.slice none 0 0) (.slice none 0 0)) 32) := heap_alloc2_new w _ _
  have hQ := heap_alloc_lt (o := .cells #[.int .u8 0, .int .u8 0, .int .u16 0, .int .u8 0, .int .u8 0, .int .u8 0, .int .u16 0, .int .u16 0, .int .u8 0, .int .u16 0, .slice none 0 0, .slice none 0 0, .int .u8 0, .int .i64 0, .int .i64 0, .int .i64 0, .bool false, .bool false, .bool false] 32) (heap_alloc_lt (o := .cells (evC x (.slice none 0 0) (.slice none 0 0)) 32) h)
  have E0 := evC_0 x (.slice none 0 0) (.slice none 0 0)
  rw [hk] at E0
  have HK0 := Lib.hid hk0; have HX0 := Lib.hid hX; have HR0 := Lib.hid hR; have HQ0 := Lib.hid hQ
  have HXT := Lib.hid hxt; have HXR := Lib.hid hxr
  clear hk0 h hX hR hQ hxt hxr hk
  go_enter Tryz.func37, Tryz.ntmps37
  have hX0 := HX0.out
  have hq2 : ((w.alloc (.cells (evC x (.slice none 0 0) (.slice none 0 0)) 32)).alloc (.cells #[.int .u8 0, .int .u8 0, .int .u16 0, .int .u8 0, .int .u8 0, .int .u8 0, .int .u16 0, .int .u16 0, .int .u8 0, .int .u16 0, .slice none 0 0, .slice none 0 0, .int .u8 0, .int .i64 0, .int .i64 0, .int .i64 0, .bool false, .bool false, .bool false] 32)).cell? ⟨q, 2, none⟩ = some (.int .i64 0) := by unfold World.cell?; simp only [HQ0.out]; rfl
  go_wp2_with fail
  generalize (w.alloc (.cells (evC x (.slice none 0 0) (.slice none 0 0)) 32)).alloc (.cells #[.int .u8 0, .int .u8 0, .int .u16 0, .int .u8 0, .int .u8 0, .int .u8 0, .int .u16 0, .int .u16 0, .int .u8 0, .int .u16 0, .slice none 0 0, .slice none 0 0, .int .u8 0, .int .i64 0, .int .i64 0, .int .i64 0, .bool false, .bool false, .bool false] 32) = W0 at *
  have hz0 := lt_of_block HR0.out
  clear HQ0 E0 hX0
  have hqne : q ≠ w.heap.size + 1 := by omega
  have hSD : BodyS w.heap.size q x (.slice none 0 0) (.slice none 0 0) 0 (W0).drew := ⟨HX0.out, hq2⟩
  have hload := fun w' => BodyS.load (b := w.heap.size) (q := q) (x := x) (tx := (.slice none 0 0)) (rd := (.slice none 0 0)) (E := 0) (w := w')
  have hcE : ∀ w', BodyS w.heap.size q x (.slice none 0 0) (.slice none 0 0) 0 w' → w'.cell? ⟨q, 2, none⟩ = some (.int .i64 0) := fun w' h => h.2
  have hRD : (W0).drew.heap[w.heap.size + 1]? = some (.cells (evC evZero (.slice none 0 0) (.slice none 0 0)) 32) := HR0.out
  have HSD := Lib.hid hSD; have HLD := Lib.hid hload; have HRD := Lib.hid hRD; have HKD := Lib.hid (HK0.out.drew)
  clear hSD hload hRD
  refine wp_region_noPanic ?_
  refine wp_region_held_drew (S := (fun w' => BodyS w.heap.size q x (.slice none 0 0) (.slice none 0 0) 0 w')) (by kernel_rfl) HSD.out (fun hHeld => ?_)
  apply wpAnyH_take (i := 0)
  · simp only [List.getElem?_toArray]; rfl
  · kernel_rfl
  · kernel_rfl
  · kernel_rfl
  · exact fun _ _ _ h => h
  · exact yields_ev (by rfl) _ rfl _ rfl HLD.out
  · assumption
  try simp only [Act.put, List.setIfInBounds_toArray, List.set_cons_zero, List.set_cons_succ]
  apply wpAnyH_take (i := 1)
  · simp only [List.getElem?_toArray]; rfl
  · kernel_rfl
  · kernel_rfl
  · kernel_rfl
  · exact fun _ _ _ h => h
  · exact Or.inl ⟨by rfl, by intro w hSw; go_simp; try with_reducible rfl⟩
  · assumption
  try simp only [Act.put, List.setIfInBounds_toArray, List.set_cons_zero, List.set_cons_succ]
  apply wpAnyH_take (i := 2)
  · simp only [List.getElem?_toArray]; rfl
  · kernel_rfl
  · kernel_rfl
  · kernel_rfl
  · exact fun _ _ _ h => h
  · exact Or.inl ⟨by rfl, by intro w hSw; go_simp; try with_reducible rfl⟩
  · assumption
  try simp only [Act.put, List.setIfInBounds_toArray, List.set_cons_zero, List.set_cons_succ]
  apply wpAnyH_take (i := 3)
  · simp only [List.getElem?_toArray]; rfl
  · kernel_rfl
  · kernel_rfl
  · kernel_rfl
  · exact fun _ _ _ h => h
  · exact Or.inl ⟨by rfl, by intro w hSw; go_simp; try with_reducible rfl⟩
  · assumption
  try simp only [Act.put, List.setIfInBounds_toArray, List.set_cons_zero, List.set_cons_succ]
  apply wpAnyH_take (i := 4)
  · simp only [List.getElem?_toArray]; rfl
  · kernel_rfl
  · kernel_rfl
  · kernel_rfl
  · exact fun _ _ _ h => h
  · exact Or.inl ⟨by rfl, by intro w hSw; go_simp; try with_reducible rfl⟩
  · assumption
  try simp only [Act.put, List.setIfInBounds_toArray, List.set_cons_zero, List.set_cons_succ]
  apply wpAnyH_ready (rs := [5])
  · kernel_rfl
  · simp
  apply AllReadyH.cons (hs := AllReadyH.nil)
  · simp only [List.getElem?_toArray]; rfl
  intro K hK
  rw [if_pos (by rfl)]
  refine wp_put_ev _ _ rfl rfl rfl HRD.out ⟨rfl, rfl⟩ (evC_one _ rfl rfl) ?_
  intro W9 hb9 hk9
  have hS9 : BodyS w.heap.size q x (.slice none 0 0) (.slice none 0 0) 0 W9 := ⟨hk9.heap HSD.out.1 (by simp), hk9.cell HSD.out.2 (by simp; omega)⟩
  have HK9 := Lib.hid (HKD.out.trans hk9 (fun g hg => .inr (by simp at hg; omega)))
  refine hK.out _ _ hS9 (fun hHeld => ?_)
  clear hK K
  try simp only [Act.put, List.setIfInBounds_toArray, List.set_cons_zero, List.set_cons_succ]
  apply wpAnyH_take (i := 6)
  · simp only [List.getElem?_toArray]; rfl
  · kernel_rfl
  · kernel_rfl
  · kernel_rfl
  · exact fun _ _ _ h => h
  · exact Or.inl ⟨by rfl, by intro w hSw; go_simp; try with_reducible rfl⟩
  · assumption
  try simp only [Act.put, List.setIfInBounds_toArray, List.set_cons_zero, List.set_cons_succ]
  refine wpAnyH_done (by kernel_rfl) ?_ _
  refine NoPanic.normal ?_
  go_wp2_with fail
  refine bodyPost_ret (results_ev2 rfl _ _ _ rfl hb9) rfl ?_
  exact BodyPost.nil rfl (fun _ => rfl) HXT.out HXR.out HK9.out
set_option maxHeartbeats 8000000 in
set_option maxRecDepth 100000 in
theorem refBody_7 (w : World) (q p : Nat) (L : List UInt8) (hL : L.length ≤ 2500) (h : QAt w q (nb L) 0 p) (x : Ev) (hk : x.k = 7) (hxt : x.t = []) (hxr : x.r = []) :
    Calls Tryz.prog 37 #[.agg (evC x (.slice none 0 0) (.slice none 0 0)), .pointer (some ⟨q, 0, none⟩)] w (BodyPost q 0 x w) := by
  clear hL
  have hqz : q < w.heap.size := lt_of_block h
  have hk0 := ((Keeps.refl [q] w).alloc (.cells (evC x (.slice none 0 0) (.slice none 0 0)) 32)).alloc (.cells #[.int .u8 0, .int .u8 0, .int .u16 0, .int .u8 0, .int .u8 0, .int .u8 0, .int .u16 0, .int .u16 0, .int .u8 0, .int .u16 0, .slice none 0 0, .slice none 0 0, .int .u8 0, .int .i64 0, .int .i64 0, .int .i64 0, .bool false, .bool false, .bool false] 32)
  have hX := heap_alloc_lt (o := .cells #[.int .u8 0, .int .u8 0, .int .u16 0, .int .u8 0, .int .u8 0, .int .u8 0, .int .u16 0, .int .u16 0, .int .u8 0, .int .u16 0, .slice none 0 0, .slice none 0 0, .int .u8 0, .int .i64 0, .int .i64 0, .int .i64 0, .bool false, .bool false, .bool false] 32) (heap_alloc_new w (.cells (evC x (.slice none 0 0) (.slice none 0 0)) 32))
  have hR : ((w.alloc (.cells (evC x (.slice none 0 0) (.slice none 0 0)) 32)).alloc (.cells #[.int .u8 0, .int .u8 0, .int .u16 0, .int .u8 0, .int .u8 0, .int .u8 0, .int .u16 0, .int .u16 0, .int .u8 0, .int .u16 0, .slice none 0 0, .slice none 0 0, .int .u8 0, .int .i64 0, .int .i64 0, .int .i64 0, .bool false, .bool false, .bool false] 32)).heap[w.heap.size + 1]? = some (.cells (evC evZero (.slice none 0 0) (.slice none 0 0)) 32) := heap_alloc2_new w _ _
  have hQ := heap_alloc_lt (o := .cells #[.int .u8 0, .int .u8 0, .int .u16 0, .int .u8 0, .int .u8 0, .int .u8 0, .int .u16 0, .int .u16 0, .int .u8 0, .int .u16 0, .slice none 0 0, .slice none 0 0, .int .u8 0, .int .i64 0, .int .i64 0, .int .i64 0, .bool false, .bool false, .bool false] 32) (heap_alloc_lt (o := .cells (evC x (.slice none 0 0) (.slice none 0 0)) 32) h)
  have E0 := evC_0 x (.slice none 0 0) (.slice none 0 0)
  rw [hk] at E0
  have HK0 := Lib.hid hk0; have HX0 := Lib.hid hX; have HR0 := Lib.hid hR; have HQ0 := Lib.hid hQ
  have HXT := Lib.hid hxt; have HXR := Lib.hid hxr
  clear hk0 h hX hR hQ hxt hxr hk
  go_enter Tryz.func37, Tryz.ntmps37
  have hX0 := HX0.out
  have hq2 : ((w.alloc (.cells (evC x (.slice none 0 0) (.slice none 0 0)) 32)).alloc (.cells #[.int .u8 0, .int .u8 0, .int .u16 0, .int .u8 0, .int .u8 0, .int .u8 0, .int .u16 0, .int .u16 0, .int .u8 0, .int .u16 0, .slice none 0 0, .slice none 0 0, .int .u8 0, .int .i64 0, .int .i64 0, .int .i64 0, .bool false, .bool false, .bool false] 32)).cell? ⟨q, 2, none⟩ = some (.int .i64 0) := by unfold World.cell?; simp only [HQ0.out]; rfl
  go_wp2_with fail
  generalize (w.alloc (.cells (evC x (.slice none 0 0) (.slice none 0 0)) 32)).alloc (.cells #[.int .u8 0, .int .u8 0, .int .u16 0, .int .u8 0, .int .u8 0, .int .u8 0, .int .u16 0, .int .u16 0, .int .u8 0, .int .u16 0, .slice none 0 0, .slice none 0 0, .int .u8 0, .int .i64 0, .int .i64 0, .int .i64 0, .bool false, .bool false, .bool false] 32) = W0 at *
  have hz0 := lt_of_block HR0.out
  clear HQ0 E0 hX0
  have hqne : q ≠ w.heap.size + 1 := by omega
  have hSD : BodyS w.heap.size q x (.slice none 0 0) (.slice none 0 0) 0 (W0).drew := ⟨HX0.out, hq2⟩
  have hload := fun w' => BodyS.load (b := w.heap.size) (q := q) (x := x) (tx := (.slice none 0 0)) (rd := (.slice none 0 0)) (E := 0) (w := w')
  have hcE : ∀ w', BodyS w.heap.size q x (.slice none 0 0) (.slice none 0 0) 0 w' → w'.cell? ⟨q, 2, none⟩ = some (.int .i64 0) := fun w' h => h.2
  have hRD : (W0).drew.heap[w.heap.size + 1]? = some (.cells (evC evZero (.slice none 0 0) (.slice none 0 0)) 32) := HR0.out
  have HSD := Lib.hid hSD; have HLD := Lib.hid hload; have HRD := Lib.hid hRD; have HKD := Lib.hid (HK0.out.drew)
  clear hSD hload hRD
  refine wp_region_noPanic ?_
  refine wp_region_held_drew (S := (fun w' => BodyS w.heap.size q x (.slice none 0 0) (.slice none 0 0) 0 w')) (by kernel_rfl) HSD.out (fun hHeld => ?_)
  apply wpAnyH_take (i := 0)
  · simp only [List.getElem?_toArray]; rfl
  · kernel_rfl
  · kernel_rfl
  · kernel_rfl
  · exact fun _ _ _ h => h
  · exact yields_ev (by rfl) _ rfl _ rfl HLD.out
  · assumption
  try simp only [Act.put, List.setIfInBounds_toArray, List.set_cons_zero, List.set_cons_succ]
  apply wpAnyH_take (i := 1)
  · simp only [List.getElem?_toArray]; rfl
  · kernel_rfl
  · kernel_rfl
  · kernel_rfl
  · exact fun _ _ _ h => h
  · exact Or.inl ⟨by rfl, by intro w hSw; go_simp; try with_reducible rfl⟩
  · assumption
  try simp only [Act.put, List.setIfInBounds_toArray, List.set_cons_zero, List.set_cons_succ]
  apply wpAnyH_take (i := 2)
  · simp only [List.getElem?_toArray]; rfl
  · kernel_rfl
  · kernel_rfl
  · kernel_rfl
  · exact fun _ _ _ h => h
  · exact Or.inl ⟨by rfl, by intro w hSw; go_simp; try with_reducible rfl⟩
  · assumption
  try simp only [Act.put, List.setIfInBounds_toArray, List.set_cons_zero, List.set_cons_succ]
  apply wpAnyH_take (i := 3)
  · simp only [List.getElem?_toArray]; rfl
  · kernel_rfl
  · kernel_rfl
  · kernel_rfl
  · exact fun _ _ _ h => h
  · exact Or.inl ⟨by rfl, by intro w hSw; go_simp; try with_reducible rfl⟩
  · assumption
  try simp only [Act.put, List.setIfInBounds_toArray, List.set_cons_zero, List.set_cons_succ]
  apply wpAnyH_take (i := 4)
  · simp only [List.getElem?_toArray]; rfl
  · kernel_rfl
  · kernel_rfl
  · kernel_rfl
  · exact fun _ _ _ h => h
  · exact Or.inl ⟨by rfl, by intro w hSw; go_simp; try with_reducible rfl⟩
  · assumption
  try simp only [Act.put, List.setIfInBounds_toArray, List.set_cons_zero, List.set_cons_succ]
  apply wpAnyH_ready (rs := [5])
  · kernel_rfl
  · simp
  apply AllReadyH.cons (hs := AllReadyH.nil)
  · simp only [List.getElem?_toArray]; rfl
  intro K hK
  rw [if_pos (by rfl)]
  refine wp_put_ev _ _ rfl rfl rfl HRD.out ⟨rfl, rfl⟩ (evC_one _ rfl rfl) ?_
  intro W9 hb9 hk9
  have hS9 : BodyS w.heap.size q x (.slice none 0 0) (.slice none 0 0) 0 W9 := ⟨hk9.heap HSD.out.1 (by simp), hk9.cell HSD.out.2 (by simp; omega)⟩
  have HK9 := Lib.hid (HKD.out.trans hk9 (fun g hg => .inr (by simp at hg; omega)))
  refine hK.out _ _ hS9 (fun hHeld => ?_)
  clear hK K
  try simp only [Act.put, List.setIfInBounds_toArray, List.set_cons_zero, List.set_cons_succ]
  apply wpAnyH_take (i := 6)
  · simp only [List.getElem?_toArray]; rfl
  · kernel_rfl
  · kernel_rfl
  · kernel_rfl
  · exact fun _ _ _ h => h
  · exact Or.inl ⟨by rfl, by intro w hSw; go_simp; try with_reducible rfl⟩
  · assumption
  try simp only [Act.put, List.setIfInBounds_toArray, List.set_cons_zero, List.set_cons_succ]
  refine wpAnyH_done (by kernel_rfl) ?_ _
  refine NoPanic.normal ?_
  go_wp2_with fail
  refine bodyPost_ret (results_ev2 rfl _ _ _ rfl hb9) rfl ?_
  exact BodyPost.nil rfl (fun _ => rfl) HXT.out HXR.out HK9.out
end Go.Proofs.YtibppobibncpdaaGreatDoor
/-
  The document's reading of what stands behind a client and an ID: micros. (Printed by draft/genbody5.py.)
-/
namespace Go.Proofs.YtibppobibncpdaaGreatDoor
open Go.RowKit
theorem miS_err {xs : List Int} {s : Int × Nat} (h : s.1 ≠ 0) : (miS xs s).1 = s.1 := by
  have h1 : ∀ (W : Nat) (u : Int × Nat), u.1 ≠ 0 → (st W xs u).1 = u.1 := fun W u hu => by unfold st rdErr; rw [if_pos hu]
  unfold miS
  split
  · exact h1 1 s h
  · rw [h1 2 _ (by rw [h1 1 s h]; exact h), h1 1 s h]
theorem misS_err {xs : List Int} {s : Int × Nat} {k : Nat} (h : (misS xs k s).1 ≠ 0) : ∀ j, (misS xs (k + j) s).1 = (misS xs k s).1
  | 0 => rfl
  | j + 1 => by
    have h1 := misS_err h j
    show (miS xs (misS xs (k + j) s)).1 = _
    rw [miS_err (by rw [h1]; exact h), h1]
theorem misS_le {xs : List Int} {s : Int × Nat} (h : s.2 ≤ xs.length) : ∀ k, (misS xs k s).2 ≤ xs.length
  | 0 => h
  | k + 1 => by
    have h1 := misS_le h k
    show (miS xs _).2 ≤ _
    unfold miS
    split
    · exact st_le h1
    · exact st_le (st_le h1)
theorem wpList_put_one {ops : Array Oper} {rest : List Oper} {a : Act} {w : World} {Q : Exit → Act → World → Prop} {dst : Option Tmp} {T ty : TypeId} {pos : String} {after : Array Edge} {x y : Operand} {b : Nat} {cells : Array Value} {t : TypeId} {v : Value} (i : Nat) (cells' : Array Value)
    (hx : a.eval x = .pointer (some ⟨b, i, none⟩)) (hy : a.eval y = v) (hg : w.heap[b]? = some (.cells cells t (0, 0))) (hi : (Tryz.prog.info? T).map (·.size) = some 1) (h1 : v.oneCell' = true)
    (hc : (cells[i]?).isSome = true) (hs : cells.setIfInBounds i v = cells')
    (h : ∀ W, W.heap[b]? = some (.cells cells' t (0, 0)) → Keeps [b] w W → wpList Tryz.prog ops Q rest (a.put dst undef) W) :
    wpList Tryz.prog ops Q ({ dst := dst, op := .store T x y, type := ty, pos := pos, after := after, guard := none } :: rest) a w := by
  have hcell : (w.cell? ⟨b, i, none⟩).isSome = true := by
    cases hq : cells[i]? with
    | none => rw [hq] at hc; cases hc
    | some u => simp [World.cell?, hg, hq]
  have hrun := run_put1 (P := Tryz.prog) w b i T v hi h1 hcell (by simp [World.frozen?, hg])
  refine wpList_plain rfl fun K hK => ?_
  unfold Oper.wp execOp
  simp only [hx, hy, Instr.storeAt, Instr.sureAddr, Sem.run_bind, Sem.run_pure, Result.andThen_ok, hrun]
  exact hK _ _ (h _ (by rw [heap_setCell_same w b i _ t v hg, hs]) ((Keeps.refl [b] w).own b i v))
theorem wpList_append_run {ops : Array Oper} {rest : List Oper} {a : Act} {w : World} {Q : Exit → Act → World → Prop} {dst : Option Tmp} {ty : TypeId} {pos : String} {after : Array Edge} {s x : Operand} {t : TypeId} {vs vx v' : Value} {w' : World}
    (hs : a.eval s = vs) (hx : a.eval x = vx) (hr : (Builtin.append_ #[t, t] ty #[vs, vx]).run Tryz.prog w = .ok v' w') (h : wpList Tryz.prog ops Q rest (a.put dst v') w') :
    wpList Tryz.prog ops Q ({ dst := dst, op := .call { callee := .builtin .append, args := #[s, x], argTypes := #[t, t] }, type := ty, pos := pos, after := after, guard := none } :: rest) a w :=
  wpList_plain rfl fun _ hK => wp_append_run s x t rfl vs vx v' w' hs hx hr (hK _ _ h)
set_option maxHeartbeats 8000000 in
set_option maxRecDepth 100000 in
theorem refBody_5 (w : World) (q p : Nat) (L : List UInt8) (hL : L.length ≤ 2500) (h : QAt w q (nb L) 0 p) (x : Ev) (hk : x.k = 5) (hxt : x.t = []) (hxr : x.r = []) (hpl : p ≤ (nb L).length) :
    Calls Tryz.prog 37 #[.agg (evC x (.slice none 0 0) (.slice none 0 0)), .pointer (some ⟨q, 0, none⟩)] w (BodyPost q (misS (nb L) (vl 1 (nb L) (0, p)).toNat (st 1 (nb L) (0, p))).1 { x with t := misM (nb L) (vl 1 (nb L) (0, p)).toNat (st 1 (nb L) (0, p)) } w) := by
  have hx := nb_in L
  have hl2 : (nb L).length ≤ 1000000 := by rw [nb_length]; omega
  generalize nb L = xs at *
  have hc := fun w h => qNum1 w q xs (0, p) h hx hpl hl2
  have a1 : 0 ≤ vl 1 xs (0, p) ∧ vl 1 xs (0, p) < 256 := rdVal1_b hx _ _
  obtain ⟨n, hn⟩ := Int.eq_ofNat_of_zero_le a1.1
  have hpl1 : (st 1 xs (0, p)).2 ≤ xs.length := st_le hpl
  rw [hn] at hc a1 ⊢
  rw [Int.toNat_natCast]
  generalize st 1 xs (0, p) = s1 at *
  have hn2 : n < 256 := by omega
  have hq1 := fun w s hs h => qNum1 w q xs s h hx hs hl2
  have hq2 := fun w s hs h => qNum2 w q xs s h hx hs hl2
  have hv1 : ∀ s, 0 ≤ vl 1 xs s ∧ vl 1 xs s < 256 := fun s => rdVal1_b hx _ _
  have hv2 : ∀ s, 0 ≤ vl 2 xs s ∧ vl 2 xs s < 65536 := fun s => rdVal2_b hx _ _
  have hsl := misS_le (xs := xs) hpl1
  have HC := Lib.hid hc; have HQN1 := Lib.hid hq1; have HQN2 := Lib.hid hq2; have HV1 := Lib.hid hv1; have HV2 := Lib.hid hv2; have HSL := Lib.hid hsl
  clear hc hx hl2 hL hq1 hq2 hv1 hv2 hsl hpl1 hn a1
  have hqz : q < w.heap.size := lt_of_block h
  have hk0 := ((Keeps.refl [q] w).alloc (.cells (evC x (.slice none 0 0) (.slice none 0 0)) 32)).alloc (.cells #[.int .u8 0, .int .u8 0, .int .u16 0, .int .u8 0, .int .u8 0, .int .u8 0, .int .u16 0, .int .u16 0, .int .u8 0, .int .u16 0, .slice none 0 0, .slice none 0 0, .int .u8 0, .int .i64 0, .int .i64 0, .int .i64 0, .bool false, .bool false, .bool false] 32)
  have hX := heap_alloc_lt (o := .cells #[.int .u8 0, .int .u8 0, .int .u16 0, .int .u8 0, .int .u8 0, .int .u8 0, .int .u16 0, .int .u16 0, .int .u8 0, .int .u16 0, .slice none 0 0, .slice none 0 0, .int .u8 0, .int .i64 0, .int .i64 0, .int .i64 0, .bool false, .bool false, .bool false] 32) (heap_alloc_new w (.cells (evC x (.slice none 0 0) (.slice none 0 0)) 32))
  have hR : ((w.alloc (.cells (evC x (.slice none 0 0) (.slice none 0 0)) 32)).alloc (.cells #[.int .u8 0, .int .u8 0, .int .u16 0, .int .u8 0, .int .u8 0, .int .u8 0, .int .u16 0, .int .u16 0, .int .u8 0, .int .u16 0, .slice none 0 0, .slice none 0 0, .int .u8 0, .int .i64 0, .int .i64 0, .int .i64 0, .bool false, .bool false, .bool false] 32)).heap[w.heap.size + 1]? = some (.cells (evC evZero (.slice none 0 0) (.slice none 0 0)) 32) := heap_alloc2_new w _ _
  have hQ := heap_alloc_lt (o := .cells #[.int .u8 0, .int .u8 0, .int .u16 0, .int .u8 0, .int .u8 0, .int .u8 0, .int .u16 0, .int .u16 0, .int .u8 0, .int .u16 0, .slice none 0 0, .slice none 0 0, .int .u8 0, .int .i64 0, .int .i64 0, .int .i64 0, .bool false, .bool false, .bool false] 32) (heap_alloc_lt (o := .cells (evC x (.slice none 0 0) (.slice none 0 0)) 32) h)
  have E0 := evC_0 x (.slice none 0 0) (.slice none 0 0)
  rw [hk] at E0
  have HK0 := Lib.hid hk0; have HX0 := Lib.hid hX; have HR0 := Lib.hid hR; have HQ0 := Lib.hid hQ
  have HXT := Lib.hid hxt; have HXR := Lib.hid hxr
  clear hk0 h hX hR hQ hxt hxr hk
  go_enter Tryz.func37, Tryz.ntmps37
  have hX0 := HX0.out
  go_wp2_with fail
  generalize (w.alloc (.cells (evC x (.slice none 0 0) (.slice none 0 0)) 32)).alloc (.cells #[.int .u8 0, .int .u8 0, .int .u16 0, .int .u8 0, .int .u8 0, .int .u8 0, .int .u16 0, .int .u16 0, .int .u8 0, .int .u16 0, .slice none 0 0, .slice none 0 0, .int .u8 0, .int .i64 0, .int .i64 0, .int .i64 0, .bool false, .bool false, .bool false] 32) = W0 at *
  have hz0 := lt_of_block HR0.out
  refine (HC.out _ HQ0.out).mono ?_; rintro z w1 ⟨rfl, hq1, hk1⟩
  have hX1 := hk1.heap HX0.out (by simp; omega)
  have hR1 := hk1.heap HR0.out (by simp; omega)
  have HK1 := Lib.hid (HK0.out.trans hk1 (FSub.refl _ _))
  have hz1 := lt_of_block hR1
  have HX1 := Lib.hid hX1; have HR1 := Lib.hid hR1; have HQ1 := Lib.hid hq1
  clear hk1 HX0 HR0 HK0 HC HQ0 hz0 hX0 E0 hX1 hR1 hq1
  go_wp2_with fail
  go_loopw [12, 13, 14] (fun i _ _ wr => ∃ (k : Nat) (tx : Value), i = .int .i64 k ∧ k ≤ n ∧ wr.heap[w.heap.size]? = some (.cells (evC { x with t := misM xs k s1 } tx (.slice none 0 0)) 32) ∧ QAt wr q xs (misS xs k s1).1 (misS xs k s1).2 ∧
    wr.heap[w.heap.size + 1]? = some (.cells (evC evZero (.slice none 0 0) (.slice none 0 0)) 32) ∧ wr.ownsRow (w.heap.size + 2) 72 3 tx k (micsC (misM xs k s1)) ∧ Keeps [q] w wr) (fun i _ _ _ => n - (intOf i).toNat)
  case atStart => exact ⟨0, .slice none 0 0, rfl, by omega, by rw [show misM xs 0 s1 = x.t by rw [HXT.out]; rfl]; exact HX1.out, HQ1.out, HR1.out, World.ownsRow_nil _ _ _ _, HK1.out⟩
  case round =>
    obtain ⟨k, tx, rfl, hkn, hX, hQ, hR, hrow, hK⟩ := hrel
    have hq2 : wr.cell? ⟨q, 2, none⟩ = some (.int .i64 (misS xs k s1).1) := by unfold QAt at hQ; simp [World.cell?, hQ]
    have hzw := lt_of_block hR
    have HX := Lib.hid hX; have HQ := Lib.hid hQ; have HR := Lib.hid hR; have HROW := Lib.hid hrow; have HK := Lib.hid hK; have HT1 := Lib.hid (row_one hrow)
    clear hX hQ hR hrow hK HX1 HQ1 HR1 HK1
    by_cases hlt : k < n
    · have y1 : (k : Int) < (n : Int) := by omega
      have y2 : decide ((k : Int) < (n : Int)) = true := decide_eq_true y1
      by_cases he : (misS xs k s1).1 = 0
      · rw [he] at hq2
        have hcn := HQN1.out wr _ (HSL.out k) HQ.out
        obtain ⟨vb0, vb1⟩ := HV1.out (misS xs k s1)
        have HCN := Lib.hid hcn
        clear hcn
        go_wp2_with fail
        refine HCN.out.mono ?_; rintro z wA ⟨rfl, hqA, hkA⟩
        have hXA := hkA.heap HX.out (by simp; omega)
        have hRA := hkA.heap HR.out (by simp; omega)
        have hrA := row_old HROW.out hkA (fun q' hq' => by have := (row_base HROW.out q' hq').1; simp; omega)
        have HKA := Lib.hid (HK.out.trans hkA (FSub.refl _ _))
        have hzA := lt_of_block hRA
        have e10 := ev_cell hXA 10 (evC_10 _ _ _)
        have HRA := Lib.hid hRA; have HROWA := Lib.hid hrA; have HXA := Lib.hid hXA; have HQA := Lib.hid hqA
        clear hkA hRA hrA HCN HX HR HROW HK hq2 hXA hqA HQ
        obtain ⟨v, hv⟩ : ∃ v, v = vl 1 xs (misS xs k s1) := ⟨_, rfl⟩
        rw [← hv] at vb0 vb1 ⊢
        by_cases h128 : 128 ≤ v
        · have hM : miM xs (misS xs k s1) = ⟨true, v - 128, 0⟩ := by unfold miM; rw [← hv, if_pos h128]
          have hS : miS xs (misS xs k s1) = st 1 xs (misS xs k s1) := by unfold miS; rw [← hv, if_pos h128]
          have m1 : v % 128 = v - 128 := by omega
          have m2 : (v - 128) % 256 = v - 128 := by omega
          have d1 : decide (128 ≤ v) = true := decide_eq_true h128
          have HM := Lib.hid hM; have HS := Lib.hid hS
          clear hM hS hv
          have hXM := heap_alloc_lt (o := .cells #[.bool true, .int .u8 (v - 128), .int .u16 0] 72) HXA.out
          have e10M := ev_cell hXM 10 (evC_10 _ _ _)
          have HXM := Lib.hid hXM
          have HRM := Lib.hid (heap_alloc_lt (o := .cells #[.bool true, .int .u8 (v - 128), .int .u16 0] 72) HRA.out)
          have HQM : Hid (QAt (wA.alloc (.cells #[.bool true, .int .u8 (v - 128), .int .u16 0] 72)) q xs (st 1 xs (misS xs k s1)).1 (st 1 xs (misS xs k s1)).2) := Lib.hid (heap_alloc_lt HQA.out)
          have HKM := Lib.hid (HKA.out.alloc (.cells #[.bool true, .int .u8 (v - 128), .int .u16 0] 72))
          have HROWM := Lib.hid (row_old HROWA.out ((Keeps.refl [] wA).alloc (.cells #[.bool true, .int .u8 (v - 128), .int .u16 0] 72)) (by simp))
          clear hXM e10 HXA HRA HQA HKA HROWA
          have hszM : (wA.alloc (.cells #[.bool true, .int .u8 (v - 128), .int .u16 0] 72)).heap.size = wA.heap.size + 1 := by simp
          obtain ⟨v', w4, hr4, ho4, hk4⟩ := append_mic (wA.alloc (.cells #[.bool true, .int .u8 (v - 128), .int .u16 0] 72)) (w.heap.size + 2) (by omega) tx k (micsC (misM xs k s1)) HROWM.out (by omega) ⟨true, v - 128, 0⟩
          rw [hszM] at hr4
          have hown := fun q' hq' => (row_base HROWM.out q' hq').1
          have hX4 := hk4.heap HXM.out (fun hq' => by have := hown _ hq'; omega)
          have hR4 := hk4.heap HRM.out (fun hq' => by have := hown _ hq'; omega)
          have hQ4 := HQM.out.keep hk4 (fun hq' => by have := hown _ hq'; omega)
          have hK4 := HKM.out.trans hk4 (fun g hg => .inr (by have := hown _ hg; omega))
          have HR4x := Lib.hid hr4; have HO4 := Lib.hid ho4; have HX4 := Lib.hid hX4; have HR4 := Lib.hid hR4; have HQ4 := Lib.hid hQ4; have HK4 := Lib.hid hK4
          clear hr4 ho4 hk4 hown hX4 hR4 hQ4 hK4 HXM HRM HQM HKM HROWM
          go_wp2_with (first | ((with_reducible apply wpList_append_run); exact rfl; exact rfl; exact HR4x.out) | ((with_reducible apply wpList_put_cell (T := 27) 10 { x with t := misM xs (k + 1) s1 } v' (.slice none 0 0)); exact rfl; exact rfl; exact HX4.out; kernel_rfl; exact row_one HO4.out; exact rfl; exact rfl))
          intro W5 hb5 hk5
          have hR5 := hk5.heap HR4.out (by simp)
          have hQ5 := HQ4.out.keep hk5 (by simp; omega)
          have hO5 := row_old HO4.out hk5 (fun q' hq' => by have := (row_base HO4.out q' hq').1; simp; omega)
          have hK5 := HK4.out.trans hk5 (fun g hg => .inr (by simp at hg; omega))
          have HB5 := Lib.hid hb5; have HR5 := Lib.hid hR5; have HQ5 := Lib.hid hQ5; have HO5 := Lib.hid hO5; have HK5 := Lib.hid hK5
          clear hb5 hk5 hR5 hQ5 hO5 hK5 HX4 HR4 HQ4 HO4 HK4 HR4x
          have hsn : micsC (misM xs (k + 1) s1) = micsC (misM xs k s1) ++ (micC ⟨true, v - 128, 0⟩).toList := by rw [← HM.out]; exact micsC_snoc _ _
          have hst : misS xs (k + 1) s1 = st 1 xs (misS xs k s1) := HS.out
          go_wp2_with fail
          go_roundw
          case rel => exact ⟨k + 1, v', by go_num, by omega, HB5.out, by rw [hst]; exact HQ5.out, HR5.out, by rw [hsn]; exact HO5.out, HK5.out⟩
          case measure => simp [intOf]; omega
        · have hM : miM xs (misS xs k s1) = ⟨false, v, vl 2 xs (st 1 xs (misS xs k s1))⟩ := by unfold miM; rw [← hv, if_neg h128]
          have hS : miS xs (misS xs k s1) = st 2 xs (st 1 xs (misS xs k s1)) := by unfold miS; rw [← hv, if_neg h128]
          have m1 : v % 128 = v := by omega
          have m2 : v % 256 = v := by omega
          have d1 : decide (128 ≤ v) = false := decide_eq_false h128
          have HS := Lib.hid hS
          have hle1 : (st 1 xs (misS xs k s1)).2 ≤ xs.length := st_le (HSL.out k)
          obtain ⟨u, hu⟩ : ∃ u, u = vl 2 xs (st 1 xs (misS xs k s1)) := ⟨_, rfl⟩
          obtain ⟨ub0, ub1⟩ := HV2.out (st 1 xs (misS xs k s1))
          have hcn2 := HQN2.out (wA.alloc (.cells #[.bool false, .int .u8 v, .int .u16 0] 72)) _ hle1 (heap_alloc_lt HQA.out)
          rw [← hu] at hcn2 ub0 ub1 hM
          have HM := Lib.hid hM
          clear hM
          have m3 : u % 65536 = u := by omega
          have HCN2 := Lib.hid hcn2
          clear hS hv hcn2 hu e10
          go_wp2_with fail
          refine HCN2.out.mono ?_; rintro z wB ⟨rfl, hqB, hkB⟩
          have hMB := hkB.heap (heap_alloc_new wA (.cells #[.bool false, .int .u8 v, .int .u16 0] 72)) (by simp; omega)
          have hXB := hkB.heap (heap_alloc_lt (o := .cells #[.bool false, .int .u8 v, .int .u16 0] 72) HXA.out) (by simp; omega)
          have hRB := hkB.heap (heap_alloc_lt (o := .cells #[.bool false, .int .u8 v, .int .u16 0] 72) HRA.out) (by simp; omega)
          have hrB := row_old (row_old HROWA.out ((Keeps.refl [] wA).alloc (.cells #[.bool false, .int .u8 v, .int .u16 0] 72)) (by simp)) hkB (fun q' hq' => by have := (row_base HROWA.out q' hq').1; simp; omega)
          have hlB := fun q' hq' => (row_base HROWA.out q' hq').2
          have hKB := (HKA.out.alloc (.cells #[.bool false, .int .u8 v, .int .u16 0] 72)).trans hkB (FSub.refl _ _)
          clear hkB HXA HRA HROWA HKA HQA HCN2
          generalize wA.heap.size = m at *
          go_wp2_with ((with_reducible apply wpList_put_one (T := 22) 2 #[.bool false, .int .u8 v, .int .u16 u]); exact rfl; exact rfl; exact hMB; kernel_rfl; exact rfl; exact rfl; exact rfl)
          intro W2 hb2 hk2
          have hXM := hk2.heap hXB (by simp; omega)
          have e10M := ev_cell hXM 10 (evC_10 _ _ _)
          have HXM := Lib.hid hXM
          have HRM := Lib.hid (hk2.heap hRB (by simp; omega))
          have HQM := Lib.hid (hqB.keep hk2 (by simp; omega))
          have HROWM := Lib.hid (row_old hrB hk2 (fun q' hq' => by have := hlB q' hq'; simp; omega))
          have HKM := Lib.hid (hKB.trans hk2 (fun g hg => .inr (by simp at hg; omega)))
          have m0c : W2.cell? ⟨m, 0, none⟩ = some (.bool false) := by simp [World.cell?, hb2]
          have m1c : W2.cell? ⟨m, 1, none⟩ = some (.int .u8 v) := by simp [World.cell?, hb2]
          have m2c : W2.cell? ⟨m, 2, none⟩ = some (.int .u16 u) := by simp [World.cell?, hb2]
          have hz2 : w.heap.size + 2 ≤ W2.heap.size := by have := lt_of_block hb2; omega
          clear hXM hXB hRB hqB hrB hKB hk2 hb2 hMB hlB
          obtain ⟨v', w4, hr4, ho4, hk4⟩ := append_mic W2 (w.heap.size + 2) (by omega) tx k (micsC (misM xs k s1)) HROWM.out (by omega) ⟨false, v, u⟩
          have hown := fun q' hq' => (row_base HROWM.out q' hq').1
          have hX4 := hk4.heap HXM.out (fun hq' => by have := hown _ hq'; omega)
          have hR4 := hk4.heap HRM.out (fun hq' => by have := hown _ hq'; omega)
          have hQ4 := HQM.out.keep hk4 (fun hq' => by have := hown _ hq'; omega)
          have hK4 := HKM.out.trans hk4 (fun g hg => .inr (by have := hown _ hg; omega))
          have HR4x := Lib.hid hr4; have HO4 := Lib.hid ho4; have HX4 := Lib.hid hX4; have HR4 := Lib.hid hR4; have HQ4 := Lib.hid hQ4; have HK4 := Lib.hid hK4
          clear hr4 ho4 hk4 hown hX4 hR4 hQ4 hK4 HXM HRM HQM HKM HROWM
          go_wp2_with (first | ((with_reducible apply wpList_append_run); exact rfl; exact rfl; exact HR4x.out) | ((with_reducible apply wpList_put_cell (T := 27) 10 { x with t := misM xs (k + 1) s1 } v' (.slice none 0 0)); exact rfl; exact rfl; exact HX4.out; kernel_rfl; exact row_one HO4.out; exact rfl; exact rfl))
          intro W5 hb5 hk5
          have hR5 := hk5.heap HR4.out (by simp)
          have hQ5 := HQ4.out.keep hk5 (by simp; omega)
          have hO5 := row_old HO4.out hk5 (fun q' hq' => by have := (row_base HO4.out q' hq').1; simp; omega)
          have hK5 := HK4.out.trans hk5 (fun g hg => .inr (by simp at hg; omega))
          have HB5 := Lib.hid hb5; have HR5 := Lib.hid hR5; have HQ5 := Lib.hid hQ5; have HO5 := Lib.hid hO5; have HK5 := Lib.hid hK5
          clear hb5 hk5 hR5 hQ5 hO5 hK5 HX4 HR4 HQ4 HO4 HK4 HR4x
          have hsn : micsC (misM xs (k + 1) s1) = micsC (misM xs k s1) ++ (micC ⟨false, v, u⟩).toList := by rw [← HM.out]; exact micsC_snoc _ _
          have hst : misS xs (k + 1) s1 = st 2 xs (st 1 xs (misS xs k s1)) := HS.out
          go_wp2_with fail
          go_roundw
          case rel => exact ⟨k + 1, v', by go_num, by omega, HB5.out, by rw [hst]; exact HQ5.out, HR5.out, by rw [hsn]; exact HO5.out, HK5.out⟩
          case measure => simp [intOf]; omega
      · obtain ⟨E, hE⟩ : ∃ E, E = (misS xs k s1).1 := ⟨_, rfl⟩
        have hEn : (misS xs n s1).1 = E := by
          obtain ⟨j, rfl⟩ : ∃ j, n = k + j := ⟨n - k, by omega⟩
          rw [hE]; exact misS_err he j
        rw [← hE] at he hq2
        have t1 : (E == 0) = false := by simpa using he
        clear hE
        have HEN := Lib.hid hEn
        clear hEn HSL HQN1 HQN2 HV1 HV2
        go_wp2_with fail
        have hqne : q ≠ w.heap.size + 1 := by omega
        have hSD : BodyS w.heap.size q { x with t := misM xs k s1 } tx (.slice none 0 0) E (wr).drew := ⟨HX.out, hq2⟩
        have hload := fun w' => BodyS.load (b := w.heap.size) (q := q) (x := { x with t := misM xs k s1 }) (tx := tx) (rd := (.slice none 0 0)) (E := E) (w := w')
        have hcE : ∀ w', BodyS w.heap.size q { x with t := misM xs k s1 } tx (.slice none 0 0) E w' → w'.cell? ⟨q, 2, none⟩ = some (.int .i64 E) := fun w' h => h.2
        have hRD : (wr).drew.heap[w.heap.size + 1]? = some (.cells (evC evZero (.slice none 0 0) (.slice none 0 0)) 32) := HR.out
        have HSD := Lib.hid hSD; have HLD := Lib.hid hload; have HRD := Lib.hid hRD; have HKD := Lib.hid (HK.out.drew)
        clear hSD hload hRD
        refine wp_region_noPanic ?_
        refine wp_region_held_drew (S := (fun w' => BodyS w.heap.size q { x with t := misM xs k s1 } tx (.slice none 0 0) E w')) (by kernel_rfl) HSD.out (fun hHeld => ?_)
        apply wpAnyH_take (i := 0)
        · simp only [List.getElem?_toArray]; rfl
        · kernel_rfl
        · kernel_rfl
        · kernel_rfl
        · exact fun _ _ _ h => h
        · exact yields_ev (by rfl) _ rfl _ rfl HLD.out
        · assumption
        try simp only [Act.put, List.setIfInBounds_toArray, List.set_cons_zero, List.set_cons_succ]
        apply wpAnyH_take (i := 1)
        · simp only [List.getElem?_toArray]; rfl
        · kernel_rfl
        · kernel_rfl
        · kernel_rfl
        · exact fun _ _ _ h => h
        · exact Or.inl ⟨by rfl, by intro w hSw; go_simp; try with_reducible rfl⟩
        · assumption
        try simp only [Act.put, List.setIfInBounds_toArray, List.set_cons_zero, List.set_cons_succ]
        apply wpAnyH_take (i := 2)
        · simp only [List.getElem?_toArray]; rfl
        · kernel_rfl
        · kernel_rfl
        · kernel_rfl
        · exact fun _ _ _ h => h
        · exact Or.inl ⟨by rfl, by intro w hSw; go_simp; try with_reducible rfl⟩
        · assumption
        try simp only [Act.put, List.setIfInBounds_toArray, List.set_cons_zero, List.set_cons_succ]
        apply wpAnyH_take (i := 3)
        · simp only [List.getElem?_toArray]; rfl
        · kernel_rfl
        · kernel_rfl
        · kernel_rfl
        · exact fun _ _ _ h => h
        · exact Or.inl ⟨by rfl, by intro w hSw; go_simp; try with_reducible rfl⟩
        · assumption
        try simp only [Act.put, List.setIfInBounds_toArray, List.set_cons_zero, List.set_cons_succ]
        apply wpAnyH_take (i := 4)
        · simp only [List.getElem?_toArray]; rfl
        · kernel_rfl
        · kernel_rfl
        · kernel_rfl
        · exact fun _ _ _ h => h
        · exact Or.inl ⟨by rfl, by intro w hSw; go_simp; try with_reducible rfl⟩
        · assumption
        try simp only [Act.put, List.setIfInBounds_toArray, List.set_cons_zero, List.set_cons_succ]
        apply wpAnyH_ready (rs := [5])
        · kernel_rfl
        · simp
        apply AllReadyH.cons (hs := AllReadyH.nil)
        · simp only [List.getElem?_toArray]; rfl
        intro K hK
        rw [if_pos (by rfl)]
        refine wp_put_ev _ _ rfl rfl rfl HRD.out ⟨rfl, rfl⟩ (evC_one _ HT1.out rfl) ?_
        intro W9 hb9 hk9
        have hS9 : BodyS w.heap.size q { x with t := misM xs k s1 } tx (.slice none 0 0) E W9 := ⟨hk9.heap HSD.out.1 (by simp), hk9.cell HSD.out.2 (by simp; omega)⟩
        have HK9 := Lib.hid (HKD.out.trans hk9 (fun g hg => .inr (by simp at hg; omega)))
        refine hK.out _ _ hS9 (fun hHeld => ?_)
        clear hK K
        try simp only [Act.put, List.setIfInBounds_toArray, List.set_cons_zero, List.set_cons_succ]
        apply wpAnyH_take (i := 6)
        · simp only [List.getElem?_toArray]; rfl
        · kernel_rfl
        · kernel_rfl
        · kernel_rfl
        · exact fun _ _ _ h => h
        · exact Or.inl ⟨by rfl, by intro w hSw; go_simp; try with_reducible rfl⟩
        · assumption
        try simp only [Act.put, List.setIfInBounds_toArray, List.set_cons_zero, List.set_cons_succ]
        refine wpAnyH_done (by kernel_rfl) ?_ _
        refine NoPanic.normal ?_
        go_wp2_with fail
        refine bodyPost_ret (results_ev2 rfl _ _ _ rfl hb9) rfl ?_
        rw [HEN.out]
        exact ⟨_, tx, _, rfl, HT1.out, rfl, fun h => absurd h he, HK9.out⟩
    · obtain rfl : k = n := by omega
      have y1 : ¬ (k : Int) < (k : Int) := by omega
      have y2 : decide ((k : Int) < (k : Int)) = false := decide_eq_false y1
      clear HSL HQN1 HQN2 HV1 HV2
      go_wp2_with fail
      have hqne : q ≠ w.heap.size + 1 := by omega
      have hSD : BodyS w.heap.size q { x with t := misM xs k s1 } tx (.slice none 0 0) (misS xs k s1).1 (wr).drew := ⟨HX.out, hq2⟩
      have hload := fun w' => BodyS.load (b := w.heap.size) (q := q) (x := { x with t := misM xs k s1 }) (tx := tx) (rd := (.slice none 0 0)) (E := (misS xs k s1).1) (w := w')
      have hcE : ∀ w', BodyS w.heap.size q { x with t := misM xs k s1 } tx (.slice none 0 0) (misS xs k s1).1 w' → w'.cell? ⟨q, 2, none⟩ = some (.int .i64 (misS xs k s1).1) := fun w' h => h.2
      have hRD : (wr).drew.heap[w.heap.size + 1]? = some (.cells (evC evZero (.slice none 0 0) (.slice none 0 0)) 32) := HR.out
      have HSD := Lib.hid hSD; have HLD := Lib.hid hload; have HRD := Lib.hid hRD; have HKD := Lib.hid (HK.out.drew)
      clear hSD hload hRD
      refine wp_region_noPanic ?_
      refine wp_region_held_drew (S := (fun w' => BodyS w.heap.size q { x with t := misM xs k s1 } tx (.slice none 0 0) (misS xs k s1).1 w')) (by kernel_rfl) HSD.out (fun hHeld => ?_)
      apply wpAnyH_take (i := 0)
      · simp only [List.getElem?_toArray]; rfl
      · kernel_rfl
      · kernel_rfl
      · kernel_rfl
      · exact fun _ _ _ h => h
      · exact yields_ev (by rfl) _ rfl _ rfl HLD.out
      · assumption
      try simp only [Act.put, List.setIfInBounds_toArray, List.set_cons_zero, List.set_cons_succ]
      apply wpAnyH_take (i := 1)
      · simp only [List.getElem?_toArray]; rfl
      · kernel_rfl
      · kernel_rfl
      · kernel_rfl
      · exact fun _ _ _ h => h
      · exact Or.inl ⟨by rfl, by intro w hSw; go_simp; try with_reducible rfl⟩
      · assumption
      try simp only [Act.put, List.setIfInBounds_toArray, List.set_cons_zero, List.set_cons_succ]
      apply wpAnyH_take (i := 2)
      · simp only [List.getElem?_toArray]; rfl
      · kernel_rfl
      · kernel_rfl
      · kernel_rfl
      · exact fun _ _ _ h => h
      · exact Or.inl ⟨by rfl, by intro w hSw; go_simp; try with_reducible rfl⟩
      · assumption
      try simp only [Act.put, List.setIfInBounds_toArray, List.set_cons_zero, List.set_cons_succ]
      apply wpAnyH_take (i := 3)
      · simp only [List.getElem?_toArray]; rfl
      · kernel_rfl
      · kernel_rfl
      · kernel_rfl
      · exact fun _ _ _ h => h
      · exact Or.inl ⟨by rfl, by intro w hSw; go_simp; try with_reducible rfl⟩
      · assumption
      try simp only [Act.put, List.setIfInBounds_toArray, List.set_cons_zero, List.set_cons_succ]
      apply wpAnyH_take (i := 4)
      · simp only [List.getElem?_toArray]; rfl
      · kernel_rfl
      · kernel_rfl
      · kernel_rfl
      · exact fun _ _ _ h => h
      · exact Or.inl ⟨by rfl, by intro w hSw; go_simp; try with_reducible rfl⟩
      · assumption
      try simp only [Act.put, List.setIfInBounds_toArray, List.set_cons_zero, List.set_cons_succ]
      apply wpAnyH_ready (rs := [5])
      · kernel_rfl
      · simp
      apply AllReadyH.cons (hs := AllReadyH.nil)
      · simp only [List.getElem?_toArray]; rfl
      intro K hK
      rw [if_pos (by rfl)]
      refine wp_put_ev _ _ rfl rfl rfl HRD.out ⟨rfl, rfl⟩ (evC_one _ HT1.out rfl) ?_
      intro W9 hb9 hk9
      have hS9 : BodyS w.heap.size q { x with t := misM xs k s1 } tx (.slice none 0 0) (misS xs k s1).1 W9 := ⟨hk9.heap HSD.out.1 (by simp), hk9.cell HSD.out.2 (by simp; omega)⟩
      have HK9 := Lib.hid (HKD.out.trans hk9 (fun g hg => .inr (by simp at hg; omega)))
      refine hK.out _ _ hS9 (fun hHeld => ?_)
      clear hK K
      try simp only [Act.put, List.setIfInBounds_toArray, List.set_cons_zero, List.set_cons_succ]
      apply wpAnyH_take (i := 6)
      · simp only [List.getElem?_toArray]; rfl
      · kernel_rfl
      · kernel_rfl
      · kernel_rfl
      · exact fun _ _ _ h => h
      · exact Or.inl ⟨by rfl, by intro w hSw; go_simp; try with_reducible rfl⟩
      · assumption
      try simp only [Act.put, List.setIfInBounds_toArray, List.set_cons_zero, List.set_cons_succ]
      refine wpAnyH_done (by kernel_rfl) ?_ _
      refine NoPanic.normal ?_
      go_wp2_with fail
      refine bodyPost_ret (results_ev2 rfl _ _ _ rfl hb9) rfl ?_
      have hrow9 := row_old (row_old HROW.out (Keeps.refl [] wr).drew (by simp)) hk9 (fun q' hq' => by have := (row_base HROW.out q' hq').1; simp; omega)
      exact ⟨_, tx, _, rfl, HT1.out, rfl, fun _ => ⟨rfl, fun F W' hkk hF => ⟨mics_row (by rw [misM_length]; exact row_old hrow9 hkk (fun q' hq' hf => by have h1 := (row_base hrow9 q' hq').1; have h2 := hF q' hf; omega)), by rw [show ({ x with t := misM xs k s1 } : Ev).r = x.r from rfl, HXR.out]; exact Lists.nil _ _⟩⟩, HK9.out⟩
end Go.Proofs.YtibppobibncpdaaGreatDoor
/-
  The document's reading of what stands behind a client and an ID: lists. (Printed by draft/genbody5.py.)
-/
namespace Go.Proofs.YtibppobibncpdaaGreatDoor
open Go.RowKit
theorem liS_err {xs : List Int} {s : Int × Nat} (h : s.1 ≠ 0) : (liS xs s).1 = s.1 := by
  unfold liS
  exact (rl_err h).2.1
theorem lisS_err {xs : List Int} {s : Int × Nat} {k : Nat} (h : (lisS xs k s).1 ≠ 0) : ∀ j, (lisS xs (k + j) s).1 = (lisS xs k s).1
  | 0 => rfl
  | j + 1 => by
    have h1 := lisS_err h j
    show (liS xs (lisS xs (k + j) s)).1 = _
    rw [liS_err (by rw [h1]; exact h), h1]
theorem lisS_le {xs : List Int} {s : Int × Nat} (h : s.2 ≤ xs.length) : ∀ k, (lisS xs k s).2 ≤ xs.length
  | 0 => h
  | k + 1 => by
    have h1 := lisS_le h k
    show (liS xs _).2 ≤ _
    unfold liS rlPos
    split
    · rename_i hw
      have := hw.2
      unfold LWhole at this
      simp only
      omega
    · exact h1
set_option maxHeartbeats 8000000 in
set_option maxRecDepth 100000 in
theorem refBody_6 (w : World) (q p : Nat) (L : List UInt8) (hL : L.length ≤ 2500) (h : QAt w q (nb L) 0 p) (x : Ev) (hk : x.k = 6) (hxt : x.t = []) (hxr : x.r = []) (hpl : p ≤ (nb L).length) :
    Calls Tryz.prog 37 #[.agg (evC x (.slice none 0 0) (.slice none 0 0)), .pointer (some ⟨q, 0, none⟩)] w (BodyPost q (lisS (nb L) (vl 1 (nb L) (0, p)).toNat (st 1 (nb L) (0, p))).1 { x with r := lisL (nb L) (vl 1 (nb L) (0, p)).toNat (st 1 (nb L) (0, p)) } w) := by
  have hx := nb_in L
  have hl2 : (nb L).length ≤ 1000000 := by rw [nb_length]; omega
  generalize nb L = xs at *
  have hc := fun w h => qNum1 w q xs (0, p) h hx hpl hl2
  have a1 : 0 ≤ vl 1 xs (0, p) ∧ vl 1 xs (0, p) < 256 := rdVal1_b hx _ _
  obtain ⟨n, hn⟩ := Int.eq_ofNat_of_zero_le a1.1
  have hpl1 : (st 1 xs (0, p)).2 ≤ xs.length := st_le hpl
  rw [hn] at hc a1 ⊢
  rw [Int.toNat_natCast]
  generalize st 1 xs (0, p) = s1 at *
  have hn2 : n < 256 := by omega
  have hq1 := fun w (s : Int × Nat) hs h => qList_any w q s.2 xs s.1 h hx hs hl2
  have hsl := lisS_le (xs := xs) hpl1
  have HC := Lib.hid hc; have HQN1 := Lib.hid hq1; have HSL := Lib.hid hsl
  clear hc hx hl2 hL hq1 hsl hpl1 hn a1
  have hqz : q < w.heap.size := lt_of_block h
  have hk0 := ((Keeps.refl [q] w).alloc (.cells (evC x (.slice none 0 0) (.slice none 0 0)) 32)).alloc (.cells #[.int .u8 0, .int .u8 0, .int .u16 0, .int .u8 0, .int .u8 0, .int .u8 0, .int .u16 0, .int .u16 0, .int .u8 0, .int .u16 0, .slice none 0 0, .slice none 0 0, .int .u8 0, .int .i64 0, .int .i64 0, .int .i64 0, .bool false, .bool false, .bool false] 32)
  have hX := heap_alloc_lt (o := .cells #[.int .u8 0, .int .u8 0, .int .u16 0, .int .u8 0, .int .u8 0, .int .u8 0, .int .u16 0, .int .u16 0, .int .u8 0, .int .u16 0, .slice none 0 0, .slice none 0 0, .int .u8 0, .int .i64 0, .int .i64 0, .int .i64 0, .bool false, .bool false, .bool false] 32) (heap_alloc_new w (.cells (evC x (.slice none 0 0) (.slice none 0 0)) 32))
  have hR : ((w.alloc (.cells (evC x (.slice none 0 0) (.slice none 0 0)) 32)).alloc (.cells #[.int .u8 0, .int .u8 0, .int .u16 0, .int .u8 0, .int .u8 0, .int .u8 0, .int .u16 0, .int .u16 0, .int .u8 0, .int .u16 0, .slice none 0 0, .slice none 0 0, .int .u8 0, .int .i64 0, .int .i64 0, .int .i64 0, .bool false, .bool false, .bool false] 32)).heap[w.heap.size + 1]? = some (.cells (evC evZero (.slice none 0 0) (.slice none 0 0)) 32) := heap_alloc2_new w _ _
  have hQ := heap_alloc_lt (o := .cells #[.int .u8 0, .int .u8 0, .int .u16 0, .int .u8 0, .int .u8 0, .int .u8 0, .int .u16 0, .int .u16 0, .int .u8 0, .int .u16 0, .slice none 0 0, .slice none 0 0, .int .u8 0, .int .i64 0, .int .i64 0, .int .i64 0, .bool false, .bool false, .bool false] 32) (heap_alloc_lt (o := .cells (evC x (.slice none 0 0) (.slice none 0 0)) 32) h)
  have E0 := evC_0 x (.slice none 0 0) (.slice none 0 0)
  rw [hk] at E0
  have HK0 := Lib.hid hk0; have HX0 := Lib.hid hX; have HR0 := Lib.hid hR; have HQ0 := Lib.hid hQ
  have HXT := Lib.hid hxt; have HXR := Lib.hid hxr
  clear hk0 h hX hR hQ hxt hxr hk
  go_enter Tryz.func37, Tryz.ntmps37
  have hX0 := HX0.out
  go_wp2_with fail
  generalize (w.alloc (.cells (evC x (.slice none 0 0) (.slice none 0 0)) 32)).alloc (.cells #[.int .u8 0, .int .u8 0, .int .u16 0, .int .u8 0, .int .u8 0, .int .u8 0, .int .u16 0, .int .u16 0, .int .u8 0, .int .u16 0, .slice none 0 0, .slice none 0 0, .int .u8 0, .int .i64 0, .int .i64 0, .int .i64 0, .bool false, .bool false, .bool false] 32) = W0 at *
  have hz0 := lt_of_block HR0.out
  refine (HC.out _ HQ0.out).mono ?_; rintro z w1 ⟨rfl, hq1, hk1⟩
  have hX1 := hk1.heap HX0.out (by simp; omega)
  have hR1 := hk1.heap HR0.out (by simp; omega)
  have HK1 := Lib.hid (HK0.out.trans hk1 (FSub.refl _ _))
  have hz1 := lt_of_block hR1
  have HX1 := Lib.hid hX1; have HR1 := Lib.hid hR1; have HQ1 := Lib.hid hq1
  clear hk1 HX0 HR0 HK0 HC HQ0 hz0 hX0 E0 hX1 hR1 hq1
  go_wp2_with fail
  go_loopw [16, 17] (fun i _ wr => ∃ (k : Nat) (tx : Value) (us : List Value), i = .int .i64 k ∧ k ≤ n ∧ wr.heap[w.heap.size]? = some (.cells (evC { x with r := lisL xs k s1 } (.slice none 0 0) tx) 32) ∧ QAt wr q xs (lisS xs k s1).1 (lisS xs k s1).2 ∧
    wr.heap[w.heap.size + 1]? = some (.cells (evC evZero (.slice none 0 0) (.slice none 0 0)) 32) ∧ wr.ownsRow (w.heap.size + 2) 47 1 tx k us ∧ Inner (w.heap.size + 2) wr us (lisL xs k s1) ∧ Keeps [q] w wr) (fun i _ _ => n - (intOf i).toNat)
  case atStart => exact ⟨0, .slice none 0 0, [], rfl, by omega, by rw [show lisL xs 0 s1 = x.r by rw [HXR.out]; rfl]; exact HX1.out, HQ1.out, HR1.out, World.ownsRow_nil _ _ _ _, ⟨rfl, fun j hj => by simp [lisL] at hj⟩, HK1.out⟩
  case round =>
    obtain ⟨k, tx, us, rfl, hkn, hX, hQ, hR, hrow, hinn, hK⟩ := hrel
    have hq2 : wr.cell? ⟨q, 2, none⟩ = some (.int .i64 (lisS xs k s1).1) := by unfold QAt at hQ; simp [World.cell?, hQ]
    have hzw := lt_of_block hR
    have HX := Lib.hid hX; have HQ := Lib.hid hQ; have HR := Lib.hid hR; have HROW := Lib.hid hrow; have HINN := Lib.hid hinn; have HK := Lib.hid hK; have HT1 := Lib.hid (row_one hrow)
    clear hX hQ hR hrow hinn hK HX1 HQ1 HR1 HK1
    by_cases hlt : k < n
    · have y1 : (k : Int) < (n : Int) := by omega
      have y2 : decide ((k : Int) < (n : Int)) = true := decide_eq_true y1
      by_cases he : (lisS xs k s1).1 = 0
      · rw [he] at hq2
        clear he
        have hcn := HQN1.out wr _ (HSL.out k) HQ.out
        have HCN := Lib.hid hcn
        clear hcn
        go_wp2_with fail
        refine HCN.out.mono ?_; rintro z wA ⟨u, rfl, hrowA, hqA, hkA, hfsA⟩
        obtain ⟨ua, uc, rfl⟩ := row_form hrowA
        have hXA := hkA.heap HX.out (by simp; omega)
        have hRA := hkA.heap HR.out (by simp; omega)
        have hrA := row_old HROW.out hkA (fun q' hq' => by have := (row_base HROW.out q' hq').1; simp; omega)
        have HU1 := Lib.hid (row_one hrowA)
        have HKM := Lib.hid (HK.out.trans hkA (FSub.refl _ _))
        have hzA := lt_of_block hRA
        have HINA := Lib.hid ((HINN.out.keeps hkA (fun q' hq' => .inl (by simp at hq'; omega))).snoc (row_up hrowA (fun q' hq' => by rcases hfsA q' hq' with h | h; simp at h; omega)))
        have e11 := ev_cell hXA 11 (evC_11 _ _ _)
        have HRM := Lib.hid hRA; have HROWM := Lib.hid hrA; have HXM := Lib.hid hXA; have HQM := Lib.hid hqA
        clear hkA hRA hrA HCN HX HR HROW HINN HK hq2 hXA hqA HQ hrowA hfsA
        have hz2 : w.heap.size + 2 ≤ wA.heap.size := by omega
        obtain ⟨v', w4, hr4, ho4, hk4⟩ := append_list wA (w.heap.size + 2) hz2 tx k us HROWM.out (by omega) _ HU1.out
        have hown := fun q' hq' => (row_base HROWM.out q' hq').1
        have hX4 := hk4.heap HXM.out (fun hq' => by have := hown _ hq'; omega)
        have hR4 := hk4.heap HRM.out (fun hq' => by have := hown _ hq'; omega)
        have hQ4 := HQM.out.keep hk4 (fun hq' => by have := hown _ hq'; omega)
        have hK4 := HKM.out.trans hk4 (fun g hg => .inr (by have := hown _ hg; omega))
        have HIN4 := Lib.hid (HINA.out.keeps hk4 (fun q' hq' => .inr (by obtain ⟨cs, fr, h⟩ := row_kind HROWM.out q' hq'; exact ⟨cs, _, fr, h, by decide⟩)))
        have HR4x := Lib.hid hr4; have HO4 := Lib.hid ho4; have HX4 := Lib.hid hX4; have HR4 := Lib.hid hR4; have HQ4 := Lib.hid hQ4; have HK4 := Lib.hid hK4
        clear hr4 ho4 hk4 hown hX4 hR4 hQ4 hK4 HXM HRM HQM HKM HROWM HINA
        go_wp2_with (first | ((with_reducible apply wpList_append_run); exact rfl; exact rfl; exact HR4x.out) | ((with_reducible apply wpList_put_cell (T := 28) 11 { x with r := lisL xs (k + 1) s1 } (.slice none 0 0) v'); exact rfl; exact rfl; exact HX4.out; kernel_rfl; exact row_one HO4.out; exact rfl; exact rfl))
        intro W5 hb5 hk5
        have hR5 := hk5.heap HR4.out (by simp)
        have hQ5 := HQ4.out.keep hk5 (by simp; omega)
        have hO5 := row_old HO4.out hk5 (fun q' hq' => by have := (row_base HO4.out q' hq').1; simp; omega)
        have hI5 := HIN4.out.keeps hk5 (fun q' hq' => .inl (by simp at hq'; omega))
        have hK5 := HK4.out.trans hk5 (fun g hg => .inr (by simp at hg; omega))
        have HB5 := Lib.hid hb5; have HR5 := Lib.hid hR5; have HQ5 := Lib.hid hQ5; have HO5 := Lib.hid hO5; have HI5 := Lib.hid hI5; have HK5 := Lib.hid hK5
        clear hb5 hk5 hR5 hQ5 hO5 hI5 hK5 HX4 HR4 HQ4 HO4 HIN4 HK4 HR4x
        go_wp2_with fail
        go_roundw
        case rel => exact ⟨k + 1, v', _, by go_num, by omega, HB5.out, HQ5.out, HR5.out, HO5.out, HI5.out, HK5.out⟩
        case measure => simp [intOf]; omega
      · obtain ⟨E, hE⟩ : ∃ E, E = (lisS xs k s1).1 := ⟨_, rfl⟩
        have hEn : (lisS xs n s1).1 = E := by
          obtain ⟨j, rfl⟩ : ∃ j, n = k + j := ⟨n - k, by omega⟩
          rw [hE]; exact lisS_err he j
        rw [← hE] at he hq2
        have t1 : (E == 0) = false := by simpa using he
        clear hE
        have HEN := Lib.hid hEn
        clear hEn HSL HQN1
        go_wp2_with fail
        have hqne : q ≠ w.heap.size + 1 := by omega
        have hSD : BodyS w.heap.size q { x with r := lisL xs k s1 } (.slice none 0 0) tx E (wr).drew := ⟨HX.out, hq2⟩
        have hload := fun w' => BodyS.load (b := w.heap.size) (q := q) (x := { x with r := lisL xs k s1 }) (tx := (.slice none 0 0)) (rd := tx) (E := E) (w := w')
        have hcE : ∀ w', BodyS w.heap.size q { x with r := lisL xs k s1 } (.slice none 0 0) tx E w' → w'.cell? ⟨q, 2, none⟩ = some (.int .i64 E) := fun w' h => h.2
        have hRD : (wr).drew.heap[w.heap.size + 1]? = some (.cells (evC evZero (.slice none 0 0) (.slice none 0 0)) 32) := HR.out
        have HSD := Lib.hid hSD; have HLD := Lib.hid hload; have HRD := Lib.hid hRD; have HKD := Lib.hid (HK.out.drew)
        clear hSD hload hRD
        refine wp_region_noPanic ?_
        refine wp_region_held_drew (S := (fun w' => BodyS w.heap.size q { x with r := lisL xs k s1 } (.slice none 0 0) tx E w')) (by kernel_rfl) HSD.out (fun hHeld => ?_)
        apply wpAnyH_take (i := 0)
        · simp only [List.getElem?_toArray]; rfl
        · kernel_rfl
        · kernel_rfl
        · kernel_rfl
        · exact fun _ _ _ h => h
        · exact yields_ev (by rfl) _ rfl _ rfl HLD.out
        · assumption
        try simp only [Act.put, List.setIfInBounds_toArray, List.set_cons_zero, List.set_cons_succ]
        apply wpAnyH_take (i := 1)
        · simp only [List.getElem?_toArray]; rfl
        · kernel_rfl
        · kernel_rfl
        · kernel_rfl
        · exact fun _ _ _ h => h
        · exact Or.inl ⟨by rfl, by intro w hSw; go_simp; try with_reducible rfl⟩
        · assumption
        try simp only [Act.put, List.setIfInBounds_toArray, List.set_cons_zero, List.set_cons_succ]
        apply wpAnyH_take (i := 2)
        · simp only [List.getElem?_toArray]; rfl
        · kernel_rfl
        · kernel_rfl
        · kernel_rfl
        · exact fun _ _ _ h => h
        · exact Or.inl ⟨by rfl, by intro w hSw; go_simp; try with_reducible rfl⟩
        · assumption
        try simp only [Act.put, List.setIfInBounds_toArray, List.set_cons_zero, List.set_cons_succ]
        apply wpAnyH_take (i := 3)
        · simp only [List.getElem?_toArray]; rfl
        · kernel_rfl
        · kernel_rfl
        · kernel_rfl
        · exact fun _ _ _ h => h
        · exact Or.inl ⟨by rfl, by intro w hSw; go_simp; try with_reducible rfl⟩
        · assumption
        try simp only [Act.put, List.setIfInBounds_toArray, List.set_cons_zero, List.set_cons_succ]
        apply wpAnyH_take (i := 4)
        · simp only [List.getElem?_toArray]; rfl
        · kernel_rfl
        · kernel_rfl
        · kernel_rfl
        · exact fun _ _ _ h => h
        · exact Or.inl ⟨by rfl, by intro w hSw; go_simp; try with_reducible rfl⟩
        · assumption
        try simp only [Act.put, List.setIfInBounds_toArray, List.set_cons_zero, List.set_cons_succ]
        apply wpAnyH_ready (rs := [5])
        · kernel_rfl
        · simp
        apply AllReadyH.cons (hs := AllReadyH.nil)
        · simp only [List.getElem?_toArray]; rfl
        intro K hK
        rw [if_pos (by rfl)]
        refine wp_put_ev _ _ rfl rfl rfl HRD.out ⟨rfl, rfl⟩ (evC_one _ rfl HT1.out) ?_
        intro W9 hb9 hk9
        have hS9 : BodyS w.heap.size q { x with r := lisL xs k s1 } (.slice none 0 0) tx E W9 := ⟨hk9.heap HSD.out.1 (by simp), hk9.cell HSD.out.2 (by simp; omega)⟩
        have HK9 := Lib.hid (HKD.out.trans hk9 (fun g hg => .inr (by simp at hg; omega)))
        refine hK.out _ _ hS9 (fun hHeld => ?_)
        clear hK K
        try simp only [Act.put, List.setIfInBounds_toArray, List.set_cons_zero, List.set_cons_succ]
        apply wpAnyH_take (i := 6)
        · simp only [List.getElem?_toArray]; rfl
        · kernel_rfl
        · kernel_rfl
        · kernel_rfl
        · exact fun _ _ _ h => h
        · exact Or.inl ⟨by rfl, by intro w hSw; go_simp; try with_reducible rfl⟩
        · assumption
        try simp only [Act.put, List.setIfInBounds_toArray, List.set_cons_zero, List.set_cons_succ]
        refine wpAnyH_done (by kernel_rfl) ?_ _
        refine NoPanic.normal ?_
        go_wp2_with fail
        refine bodyPost_ret (results_ev2 rfl _ _ _ rfl hb9) rfl ?_
        rw [HEN.out]
        exact ⟨_, _, tx, rfl, rfl, HT1.out, fun h => absurd h he, HK9.out⟩
    · obtain rfl : k = n := by omega
      have y1 : ¬ (k : Int) < (k : Int) := by omega
      have y2 : decide ((k : Int) < (k : Int)) = false := decide_eq_false y1
      clear HSL HQN1
      go_wp2_with fail
      have hqne : q ≠ w.heap.size + 1 := by omega
      have hSD : BodyS w.heap.size q { x with r := lisL xs k s1 } (.slice none 0 0) tx (lisS xs k s1).1 (wr).drew := ⟨HX.out, hq2⟩
      have hload := fun w' => BodyS.load (b := w.heap.size) (q := q) (x := { x with r := lisL xs k s1 }) (tx := (.slice none 0 0)) (rd := tx) (E := (lisS xs k s1).1) (w := w')
      have hcE : ∀ w', BodyS w.heap.size q { x with r := lisL xs k s1 } (.slice none 0 0) tx (lisS xs k s1).1 w' → w'.cell? ⟨q, 2, none⟩ = some (.int .i64 (lisS xs k s1).1) := fun w' h => h.2
      have hRD : (wr).drew.heap[w.heap.size + 1]? = some (.cells (evC evZero (.slice none 0 0) (.slice none 0 0)) 32) := HR.out
      have HSD := Lib.hid hSD; have HLD := Lib.hid hload; have HRD := Lib.hid hRD; have HKD := Lib.hid (HK.out.drew)
      clear hSD hload hRD
      refine wp_region_noPanic ?_
      refine wp_region_held_drew (S := (fun w' => BodyS w.heap.size q { x with r := lisL xs k s1 } (.slice none 0 0) tx (lisS xs k s1).1 w')) (by kernel_rfl) HSD.out (fun hHeld => ?_)
      apply wpAnyH_take (i := 0)
      · simp only [List.getElem?_toArray]; rfl
      · kernel_rfl
      · kernel_rfl
      · kernel_rfl
      · exact fun _ _ _ h => h
      · exact yields_ev (by rfl) _ rfl _ rfl HLD.out
      · assumption
      try simp only [Act.put, List.setIfInBounds_toArray, List.set_cons_zero, List.set_cons_succ]
      apply wpAnyH_take (i := 1)
      · simp only [List.getElem?_toArray]; rfl
      · kernel_rfl
      · kernel_rfl
      · kernel_rfl
      · exact fun _ _ _ h => h
      · exact Or.inl ⟨by rfl, by intro w hSw; go_simp; try with_reducible rfl⟩
      · assumption
      try simp only [Act.put, List.setIfInBounds_toArray, List.set_cons_zero, List.set_cons_succ]
      apply wpAnyH_take (i := 2)
      · simp only [List.getElem?_toArray]; rfl
      · kernel_rfl
      · kernel_rfl
      · kernel_rfl
      · exact fun _ _ _ h => h
      · exact Or.inl ⟨by rfl, by intro w hSw; go_simp; try with_reducible rfl⟩
      · assumption
      try simp only [Act.put, List.setIfInBounds_toArray, List.set_cons_zero, List.set_cons_succ]
      apply wpAnyH_take (i := 3)
      · simp only [List.getElem?_toArray]; rfl
      · kernel_rfl
      · kernel_rfl
      · kernel_rfl
      · exact fun _ _ _ h => h
      · exact Or.inl ⟨by rfl, by intro w hSw; go_simp; try with_reducible rfl⟩
      · assumption
      try simp only [Act.put, List.setIfInBounds_toArray, List.set_cons_zero, List.set_cons_succ]
      apply wpAnyH_take (i := 4)
      · simp only [List.getElem?_toArray]; rfl
      · kernel_rfl
      · kernel_rfl
      · kernel_rfl
      · exact fun _ _ _ h => h
      · exact Or.inl ⟨by rfl, by intro w hSw; go_simp; try with_reducible rfl⟩
      · assumption
      try simp only [Act.put, List.setIfInBounds_toArray, List.set_cons_zero, List.set_cons_succ]
      apply wpAnyH_ready (rs := [5])
      · kernel_rfl
      · simp
      apply AllReadyH.cons (hs := AllReadyH.nil)
      · simp only [List.getElem?_toArray]; rfl
      intro K hK
      rw [if_pos (by rfl)]
      refine wp_put_ev _ _ rfl rfl rfl HRD.out ⟨rfl, rfl⟩ (evC_one _ rfl HT1.out) ?_
      intro W9 hb9 hk9
      have hS9 : BodyS w.heap.size q { x with r := lisL xs k s1 } (.slice none 0 0) tx (lisS xs k s1).1 W9 := ⟨hk9.heap HSD.out.1 (by simp), hk9.cell HSD.out.2 (by simp; omega)⟩
      have HK9 := Lib.hid (HKD.out.trans hk9 (fun g hg => .inr (by simp at hg; omega)))
      refine hK.out _ _ hS9 (fun hHeld => ?_)
      clear hK K
      try simp only [Act.put, List.setIfInBounds_toArray, List.set_cons_zero, List.set_cons_succ]
      apply wpAnyH_take (i := 6)
      · simp only [List.getElem?_toArray]; rfl
      · kernel_rfl
      · kernel_rfl
      · kernel_rfl
      · exact fun _ _ _ h => h
      · exact Or.inl ⟨by rfl, by intro w hSw; go_simp; try with_reducible rfl⟩
      · assumption
      try simp only [Act.put, List.setIfInBounds_toArray, List.set_cons_zero, List.set_cons_succ]
      refine wpAnyH_done (by kernel_rfl) ?_ _
      refine NoPanic.normal ?_
      go_wp2_with fail
      refine bodyPost_ret (results_ev2 rfl _ _ _ rfl hb9) rfl ?_
      have hrow9 := row_old (row_old HROW.out (Keeps.refl [] wr).drew (by simp)) hk9 (fun q' hq' => by have := (row_base HROW.out q' hq').1; simp; omega)
      have hinn9 := (HINN.out.keeps (Keeps.refl [] wr).drew (by simp)).keeps hk9 (fun q' hq' => .inl (by simp at hq'; omega))
      exact ⟨_, _, tx, rfl, rfl, HT1.out, fun _ => ⟨rfl, fun F W' hkk hF => ⟨by rw [show ({ x with r := lisL xs k s1 } : Ev).t = x.t from rfl, HXT.out]; exact Mics.nil _ _, lists_row (us := us) (by rw [lisL_length]; exact row_old hrow9 hkk (fun q' hq' hf => by have h1 := (row_base hrow9 q' hq').1; have h2 := hF q' hf; omega)) (hinn9.keeps hkk (fun q' hq' => .inl (by have := hF q' hq'; omega)))⟩⟩, HK9.out⟩
end Go.Proofs.YtibppobibncpdaaGreatDoor
/-
  The document's reading of what stands behind a client and an ID: what its parts tell. (Printed by draft/genbody5.py.)
-/
namespace Go.Proofs.YtibppobibncpdaaGreatDoor
open Go.RowKit
def bodyE (L : List UInt8) (p : Nat) (k : Int) : Int := if k = 2 then opE (L.drop p) else if k = 3 then tkE (nb L) 0 p else if k = 5 then (misS (nb L) (vl 1 (nb L) (0, p)).toNat (st 1 (nb L) (0, p))).1 else if k = 6 then (lisS (nb L) (vl 1 (nb L) (0, p)).toNat (st 1 (nb L) (0, p))).1 else 0
def bodyX (L : List UInt8) (p : Nat) (x : Ev) : Ev :=
  if x.k = 2 then { x with o := tkX (nb (L.drop p)) } else if x.k = 3 then { x with rk := tkK (nb L) 0 p, rv := tkV (nb L) 0 p } else if x.k = 5 then { x with t := misM (nb L) (vl 1 (nb L) (0, p)).toNat (st 1 (nb L) (0, p)) } else
  if x.k = 6 then { x with r := lisL (nb L) (vl 1 (nb L) (0, p)).toNat (st 1 (nb L) (0, p)) } else x
theorem refBody_any (w : World) (q p : Nat) (L : List UInt8) (hL : L.length ≤ 2500) (h : QAt w q (nb L) 0 p) (x : Ev) (k2 : 2 ≤ x.k) (k7 : x.k ≤ 7) (hxt : x.t = []) (hxr : x.r = []) (hpl : p ≤ (nb L).length) :
    Calls Tryz.prog 37 #[.agg (evC x (.slice none 0 0) (.slice none 0 0)), .pointer (some ⟨q, 0, none⟩)] w (BodyPost q (bodyE L p x.k) (bodyX L p x) w) := by
  unfold bodyE bodyX
  rcases (by omega : x.k = 2 ∨ x.k = 3 ∨ x.k = 4 ∨ x.k = 5 ∨ x.k = 6 ∨ x.k = 7) with hk | hk | hk | hk | hk | hk
  · rw [if_pos hk, if_pos hk]; exact refBody_2 w q p L hL h x hk hxt hxr
  · rw [if_neg (by omega), if_pos hk, if_neg (by omega), if_pos hk]; exact refBody_3 w q p L hL h x hk hxt hxr hpl
  · rw [if_neg (by omega), if_neg (by omega), if_neg (by omega), if_neg (by omega), if_neg (by omega), if_neg (by omega), if_neg (by omega), if_neg (by omega)]; exact refBody_4 w q p L hL h x hk hxt hxr
  · rw [if_neg (by omega), if_neg (by omega), if_pos hk, if_neg (by omega), if_neg (by omega), if_pos hk]; exact refBody_5 w q p L hL h x hk hxt hxr hpl
  · rw [if_neg (by omega), if_neg (by omega), if_neg (by omega), if_pos hk, if_neg (by omega), if_neg (by omega), if_neg (by omega), if_pos hk]; exact refBody_6 w q p L hL h x hk hxt hxr hpl
  · rw [if_neg (by omega), if_neg (by omega), if_neg (by omega), if_neg (by omega), if_neg (by omega), if_neg (by omega), if_neg (by omega), if_neg (by omega)]; exact refBody_7 w q p L hL h x hk hxt hxr
theorem rdErr_in {W : Nat} {xs : List Int} {e : Int} {p : Nat} (h : e = 0 ∨ e = 5) : rdErr W xs e p = 0 ∨ rdErr W xs e p = 5 := by
  unfold rdErr
  split
  · exact h
  · split
    · exact .inl rfl
    · exact .inr rfl
theorem whE_in (xs : List Int) : whE xs 0 1 = 0 ∨ whE xs 0 1 = 5 := rdErr_in (rdErr_in (.inl rfl))
theorem rdErr_zero {W : Nat} {xs : List Int} {e : Int} {p : Nat} (h : rdErr W xs e p = 0) : e = 0 ∧ p + W ≤ xs.length := by
  unfold rdErr at h
  split at h
  · rename_i h1; exact absurd h h1
  · rename_i h1
    split at h
    · rename_i h2; exact ⟨by simpa using h1, h2⟩
    · cases h
theorem whP_four {xs : List Int} (h : whE xs 0 1 = 0) : whP xs 0 1 = 4 ∧ 4 ≤ xs.length := by
  unfold whE at h
  obtain ⟨h1, h2⟩ := rdErr_zero h
  obtain ⟨_, h3⟩ := rdErr_zero h1
  have e1 : rdPos 1 xs 0 1 = 2 := by unfold rdPos; rw [if_pos ⟨rfl, h3⟩]
  rw [e1] at h2
  refine ⟨?_, by omega⟩
  unfold whP
  rw [h1, e1]
  unfold rdPos
  rw [if_pos ⟨rfl, by omega⟩]
/-- The event as it stands behind a client and an ID. -/
def whX (xs : List Int) (k : Int) : Ev := ⟨k, whC xs 0 1, whI xs 0 1, opZero, 0, 0, [], [], cfgZero⟩
theorem nb_byte (L : List UInt8) : ∀ n ∈ nb L, byteNum n := fun n hn => by
  obtain ⟨i, hi, rfl⟩ := List.getElem_of_mem hn
  have := nb_in L i
  rw [List.getD_eq_getElem?_getD, List.getElem?_eq_getElem hi] at this
  exact this
theorem tkE_err (xs : List Int) (p : Nat) : tkE xs 5 p = 5 := by
  unfold tkE tkE2 rdVal rdErr
  simp
section
variable {c : UInt8} {l : List UInt8}
theorem tk_err (k1 : 1 ≤ (c.toNat : Int)) (k7 : (c.toNat : Int) ≤ 7) (h : evRdE (c :: l) (c.toNat : Int) ≠ 0) : evTkE (c :: l) = evRdE (c :: l) (c.toNat : Int) := by
  have hek : evKind (c.toNat : Int) = true := by simp [evKind]; omega
  unfold evTkE
  rw [if_neg (by simp), if_neg (by rw [show (c :: l).getD 0 0 = c from rfl, hek]; simp), if_pos (by exact h)]; rfl
theorem tk_ok (k1 : 1 ≤ (c.toNat : Int)) (k7 : (c.toNat : Int) ≤ 7) (h : evRdE (c :: l) (c.toNat : Int) = 0) : evTkE (c :: l) = if evGood (evRdX (c :: l) (c.toNat : Int)) = true ∧ evPut (evRdX (c :: l) (c.toNat : Int)) = nb (c :: l) then 0 else 4 := by
  have hek : evKind (c.toNat : Int) = true := by simp [evKind]; omega
  unfold evTkE
  rw [if_neg (by simp), if_neg (by rw [show (c :: l).getD 0 0 = c from rfl, hek]; simp), if_neg (by rw [show (c :: l).getD 0 0 = c from rfl]; simp [h])]; rfl
theorem rd_who {L : List UInt8} {k : Int} (k2 : 2 ≤ k) (k7 : k ≤ 7) (h : whE (nb L) 0 1 ≠ 0) : evRdE L k = whE (nb L) 0 1 := by
  have h5 : whE (nb L) 0 1 = 5 := (whE_in _).resolve_left h
  have hst : (st 1 (nb L) (whE (nb L) 0 1, whP (nb L) 0 1)).1 = whE (nb L) 0 1 := by unfold st rdErr; rw [if_pos h]
  unfold evRdE
  rcases (by omega : k = 2 ∨ k = 3 ∨ k = 4 ∨ k = 5 ∨ k = 6 ∨ k = 7) with rfl | rfl | rfl | rfl | rfl | rfl
  · show tkErr (nb (restL L (whE (nb L) 0 1) (whP (nb L) 0 1))) = _
    unfold restL
    rw [if_neg h, h5]; decide
  · show tkE (nb L) (whE (nb L) 0 1) (whP (nb L) 0 1) = _
    rw [h5]
    exact tkE_err _ _
  · rfl
  · show (misS (nb L) _ (st 1 (nb L) (whE (nb L) 0 1, whP (nb L) 0 1))).1 = _
    have := misS_err (xs := nb L) (s := st 1 (nb L) (whE (nb L) 0 1, whP (nb L) 0 1)) (k := 0) (by show (st 1 (nb L) _).1 ≠ 0; rw [hst]; exact h) (vl 1 (nb L) (whE (nb L) 0 1, whP (nb L) 0 1)).toNat
    rw [Nat.zero_add] at this
    exact this.trans hst
  · show (lisS (nb L) _ (st 1 (nb L) (whE (nb L) 0 1, whP (nb L) 0 1))).1 = _
    have := lisS_err (xs := nb L) (s := st 1 (nb L) (whE (nb L) 0 1, whP (nb L) 0 1)) (k := 0) (by show (st 1 (nb L) _).1 ≠ 0; rw [hst]; exact h) (vl 1 (nb L) (whE (nb L) 0 1, whP (nb L) 0 1)).toNat
    rw [Nat.zero_add] at this
    exact this.trans hst
  · rfl
theorem body_zero {L : List UInt8} {k : Int} (k2 : 2 ≤ k) (k7 : k ≤ 7) (h : whE (nb L) 0 1 = 0) (hb : bodyE L (whP (nb L) 0 1) k = 0) : evRdE L k = 0 ∧ bodyX L (whP (nb L) 0 1) (whX (nb L) k) = evRdX L k := by
  unfold bodyE at hb
  unfold evRdE bodyX evRdX
  rcases (by omega : k = 2 ∨ k = 3 ∨ k = 4 ∨ k = 5 ∨ k = 6 ∨ k = 7) with rfl | rfl | rfl | rfl | rfl | rfl
  · have hb2 : opE (L.drop (whP (nb L) 0 1)) = 0 := hb
    have ht : tkErr (nb (L.drop (whP (nb L) 0 1))) = 0 := by
      unfold opE at hb2
      split at hb2
      · cases hb2
      · exact hb2
    have hr : restL L (whE (nb L) 0 1) (whP (nb L) 0 1) = L.drop (whP (nb L) 0 1) := by unfold restL; rw [if_pos h]
    refine ⟨?_, ?_⟩
    · show tkErr (nb (restL L (whE (nb L) 0 1) (whP (nb L) 0 1))) = 0
      rw [hr]; exact ht
    · show ({ whX (nb L) 2 with o := tkX (nb (L.drop (whP (nb L) 0 1))) } : Ev) = { whX (nb L) 2 with o := tkX (nb (restL L (whE (nb L) 0 1) (whP (nb L) 0 1))) }
      rw [hr]
  · refine ⟨?_, ?_⟩
    · show tkE (nb L) (whE (nb L) 0 1) (whP (nb L) 0 1) = 0
      rw [h]; exact hb
    · show ({ whX (nb L) 3 with rk := tkK (nb L) 0 (whP (nb L) 0 1), rv := tkV (nb L) 0 (whP (nb L) 0 1) } : Ev) = { whX (nb L) 3 with rk := tkK (nb L) (whE (nb L) 0 1) (whP (nb L) 0 1), rv := tkV (nb L) (whE (nb L) 0 1) (whP (nb L) 0 1) }
      rw [h]
  · exact ⟨h, rfl⟩
  · refine ⟨?_, ?_⟩
    · show (misS (nb L) (vl 1 (nb L) (whE (nb L) 0 1, whP (nb L) 0 1)).toNat (st 1 (nb L) (whE (nb L) 0 1, whP (nb L) 0 1))).1 = 0
      rw [h]; exact hb
    · show ({ whX (nb L) 5 with t := misM (nb L) (vl 1 (nb L) (0, whP (nb L) 0 1)).toNat (st 1 (nb L) (0, whP (nb L) 0 1)) } : Ev) = { whX (nb L) 5 with t := misM (nb L) (vl 1 (nb L) (whE (nb L) 0 1, whP (nb L) 0 1)).toNat (st 1 (nb L) (whE (nb L) 0 1, whP (nb L) 0 1)) }
      rw [h]
  · refine ⟨?_, ?_⟩
    · show (lisS (nb L) (vl 1 (nb L) (whE (nb L) 0 1, whP (nb L) 0 1)).toNat (st 1 (nb L) (whE (nb L) 0 1, whP (nb L) 0 1))).1 = 0
      rw [h]; exact hb
    · show ({ whX (nb L) 6 with r := lisL (nb L) (vl 1 (nb L) (0, whP (nb L) 0 1)).toNat (st 1 (nb L) (0, whP (nb L) 0 1)) } : Ev) = { whX (nb L) 6 with r := lisL (nb L) (vl 1 (nb L) (whE (nb L) 0 1, whP (nb L) 0 1)).toNat (st 1 (nb L) (whE (nb L) 0 1, whP (nb L) 0 1)) }
      rw [h]
  · exact ⟨h, rfl⟩
theorem body_err (k2 : 2 ≤ (c.toNat : Int)) (k7 : (c.toNat : Int) ≤ 7) (h : whE (nb (c :: l)) 0 1 = 0) (hb : bodyE (c :: l) (whP (nb (c :: l)) 0 1) (c.toNat : Int) ≠ 0) : evTkE (c :: l) = bodyE (c :: l) (whP (nb (c :: l)) 0 1) (c.toNat : Int) := by
  by_cases hk : (c.toNat : Int) = 2
  · obtain ⟨h4, hlen⟩ := whP_four h
    rw [h4] at hb ⊢
    have hr : restL (c :: l) (whE (nb (c :: l)) 0 1) (whP (nb (c :: l)) 0 1) = (c :: l).drop 4 := by unfold restL; rw [if_pos h, h4]
    have hbe : bodyE (c :: l) 4 (c.toNat : Int) = opE ((c :: l).drop 4) := by unfold bodyE; rw [if_pos hk]
    have hre : evRdE (c :: l) (c.toNat : Int) = tkErr (nb ((c :: l).drop 4)) := by
      rw [hk]
      show tkErr (nb (restL (c :: l) (whE (nb (c :: l)) 0 1) (whP (nb (c :: l)) 0 1))) = _
      rw [hr]
    by_cases ht : tkErr (nb ((c :: l).drop 4)) = 0
    · have hrest : tkRest ((c :: l).drop 4) ≠ [] := by
        intro hn
        apply hb
        rw [hbe]; unfold opE
        rw [if_neg (fun g => g.2 hn), ht]
      have hb4 : opE ((c :: l).drop 4) = 4 := by unfold opE; rw [if_pos ⟨ht, hrest⟩]
      rw [hbe, hb4, tk_ok (by omega) k7 (by rw [hre]; exact ht), if_neg]
      intro ⟨_, hp⟩
      apply hrest
      have hX : evRdX (c :: l) (c.toNat : Int) = { whX (nb (c :: l)) 2 with o := tkX (nb ((c :: l).drop 4)) } := by
        rw [hk]
        show ({ whX (nb (c :: l)) 2 with o := tkX (nb (restL (c :: l) (whE (nb (c :: l)) 0 1) (whP (nb (c :: l)) 0 1))) } : Ev) = _
        rw [hr]
      have htx : tkX (nb ((c :: l).drop 4)) = tkOp (nb ((c :: l).drop 4)) := by unfold tkX; rw [if_pos ht]
      obtain ⟨t1, _, t3, _⟩ := optk_take (l := nb ((c :: l).drop 4)) (nb_byte _) ht
      rw [hX] at hp
      have hpl := congrArg List.length hp
      have hev : evPut ({ whX (nb (c :: l)) 2 with o := tkX (nb ((c :: l).drop 4)) } : Ev) = 2 :: (whoPut { whX (nb (c :: l)) 2 with o := tkX (nb ((c :: l).drop 4)) } ++ opPut (tkX (nb ((c :: l).drop 4)))) := rfl
      rw [hev, htx, t3] at hpl
      simp only [List.length_cons, List.length_append, whoPut, be2, List.length_nil, List.length_take, nb_length, List.length_drop] at hpl t1 hlen
      have : (c :: l).length - 4 = opLen ((nb ((c :: l).drop 4)).getD 0 0) := by simp only [List.length_cons]; omega
      unfold tkRest
      rw [if_pos ht, ← this]
      simp
      omega
    · have hb5 : opE ((c :: l).drop 4) = tkErr (nb ((c :: l).drop 4)) := by unfold opE; rw [if_neg (fun g => ht g.1)]
      rw [hbe, hb5, tk_err (by omega) k7 (by rw [hre]; exact ht), hre]
  · have hre : evRdE (c :: l) (c.toNat : Int) = bodyE (c :: l) (whP (nb (c :: l)) 0 1) (c.toNat : Int) := by
      unfold bodyE evRdE
      rcases (by omega : (c.toNat : Int) = 3 ∨ (c.toNat : Int) = 4 ∨ (c.toNat : Int) = 5 ∨ (c.toNat : Int) = 6 ∨ (c.toNat : Int) = 7) with hk | hk | hk | hk | hk <;> rw [hk]
      · show tkE (nb (c :: l)) (whE (nb (c :: l)) 0 1) (whP (nb (c :: l)) 0 1) = tkE (nb (c :: l)) 0 (whP (nb (c :: l)) 0 1)
        rw [h]
      · exact h
      · show (misS (nb (c :: l)) (vl 1 (nb (c :: l)) (whE (nb (c :: l)) 0 1, whP (nb (c :: l)) 0 1)).toNat (st 1 (nb (c :: l)) (whE (nb (c :: l)) 0 1, whP (nb (c :: l)) 0 1))).1 = (misS (nb (c :: l)) (vl 1 (nb (c :: l)) (0, whP (nb (c :: l)) 0 1)).toNat (st 1 (nb (c :: l)) (0, whP (nb (c :: l)) 0 1))).1
        rw [h]
      · show (lisS (nb (c :: l)) (vl 1 (nb (c :: l)) (whE (nb (c :: l)) 0 1, whP (nb (c :: l)) 0 1)).toNat (st 1 (nb (c :: l)) (whE (nb (c :: l)) 0 1, whP (nb (c :: l)) 0 1))).1 = (lisS (nb (c :: l)) (vl 1 (nb (c :: l)) (0, whP (nb (c :: l)) 0 1)).toNat (st 1 (nb (c :: l)) (0, whP (nb (c :: l)) 0 1))).1
        rw [h]
      · exact h
    rw [← hre] at hb ⊢
    exact tk_err (by omega) k7 hb
end

end Go.Proofs.YtibppobibncpdaaGreatDoor
/-
  The document's reading of what stands behind a client and an ID: no kind, a config. (Printed by draft/genbody5.py.)
-/
namespace Go.Proofs.YtibppobibncpdaaGreatDoor
open Go.RowKit
theorem ev_set_cfg {w : World} {b : Nat} {x : Ev} {tx rd : Value} {t : TypeId} (h : w.heap[b]? = some (.cells (evC x tx rd) t (0, 0))) (g : Cfg) :
    (((((((w.setCell ⟨b, 12, none⟩ (.int .u8 g.m)).setCell ⟨b, 13, none⟩ (.int .i64 g.mo)).setCell ⟨b, 14, none⟩ (.int .i64 g.ms)).setCell ⟨b, 15, none⟩ (.int .i64 g.mt)).setCell ⟨b, 16, none⟩ (.bool g.p)).setCell ⟨b, 17, none⟩ (.bool g.cu)).setCell ⟨b, 18, none⟩ (.bool g.me)).heap[b]? = some (.cells (evC { x with g := g } tx rd) t (0, 0)) :=
  ev_set (x := { x with g := ⟨g.m, g.mo, g.ms, g.mt, g.p, g.cu, x.g.me⟩ }) (ev_set (x := { x with g := ⟨g.m, g.mo, g.ms, g.mt, g.p, x.g.cu, x.g.me⟩ }) (ev_set (x := { x with g := ⟨g.m, g.mo, g.ms, g.mt, x.g.p, x.g.cu, x.g.me⟩ }) (ev_set (x := { x with g := ⟨g.m, g.mo, g.ms, x.g.mt, x.g.p, x.g.cu, x.g.me⟩ }) (ev_set (x := { x with g := ⟨g.m, g.mo, x.g.ms, x.g.mt, x.g.p, x.g.cu, x.g.me⟩ }) (ev_set (x := { x with g := ⟨g.m, x.g.mo, x.g.ms, x.g.mt, x.g.p, x.g.cu, x.g.me⟩ }) (ev_set h 12 _ rfl) 13 _ rfl) 14 _ rfl) 15 _ rfl) 16 _ rfl) 17 _ rfl) 18 _ rfl
theorem wpList_put_cfgmid {ops : Array Oper} {rest : List Oper} {a : Act} {w : World} {Q : Exit → Act → World → Prop} {dst : Option Tmp} {ty : TypeId} {pos : String} {after : Array Edge} {x y : Operand} {b : Nat} {e : Ev} {tx rd : Value} {t : TypeId} {g : Cfg}
    (hx : a.eval x = .pointer (some ⟨b, 12, none⟩)) (hy : a.eval y = .agg (cfC g)) (hg : w.heap[b]? = some (.cells (evC e tx rd) t (0, 0)))
    (h : ∀ W, W.heap[b]? = some (.cells (evC { e with g := g } tx rd) t (0, 0)) → Keeps [b] w W → wpList Tryz.prog ops Q rest (a.put dst undef) W) :
    wpList Tryz.prog ops Q ({ dst := dst, op := .store 30 x y, type := ty, pos := pos, after := after, guard := none } :: rest) a w := by
  refine wpList_store_mid rfl 30 x y rfl b 12 (cfC g) hx hy (fun j hj => ⟨?_, ev_thaw hg _⟩) (by rw [show (cfC g).size = 7 from rfl]; kernel_rfl) (by rw [← Array.all_toList]; rfl)
    (h _ (ev_set_cfg hg g) ((((((((Keeps.refl [b] w).own b 12 _).own b 13 _).own b 14 _).own b 15 _).own b 16 _).own b 17 _).own b 18 _))
  have hj2 : j < 7 := hj
  rcases (by omega : j = 0 ∨ j = 1 ∨ j = 2 ∨ j = 3 ∨ j = 4 ∨ j = 5 ∨ j = 6) with rfl | rfl | rfl | rfl | rfl | rfl | rfl
  all_goals rw [ev_cell hg _ rfl]; rfl
set_option maxHeartbeats 8000000 in
set_option maxRecDepth 100000 in
theorem RTake5_kindless (w : World) (c : UInt8) (l : List UInt8) (hL : (c :: l).length ≤ 2500) (hk : ¬ (1 ≤ (c.toNat : Int) ∧ (c.toNat : Int) ≤ 7)) : Calls Tryz.prog 14 #[.string (bs (c :: l))] w (TkPost (c :: l) w) := by
  have hx := nb_in (c :: l)
  have hl2 : (nb (c :: l)).length ≤ 1000000 := by rw [nb_length]; omega
  have hlen : 1 ≤ (nb (c :: l)).length := by rw [nb_length]; simp
  have f1 : (st 1 (nb (c :: l)) (0, 0)) = (0, 1) := by
    have h1 : rdErr 1 (nb (c :: l)) 0 0 = 0 := by unfold rdErr; rw [if_neg (by decide), if_pos (by omega)]
    have h2 : rdPos 1 (nb (c :: l)) 0 0 = 1 := by unfold rdPos; rw [if_pos ⟨rfl, by omega⟩]
    unfold st; rw [h1, h2]
  have f3 : vl 1 (nb (c :: l)) (0, 0) = (c.toNat : Int) := by unfold vl rdVal; rw [if_pos ⟨rfl, by omega⟩, numOf_1 _ _ (by omega)]; rfl
  have hn1 := fun w q h => qNum1 w q (nb (c :: l)) (0, 0) h hx (by simp) hl2
  rw [f1, f3] at hn1
  have hX0 : evTkE (c :: l) = 0 → evTkX (c :: l) = evRdX (c :: l) (c.toNat : Int) := fun h => by unfold evTkX; rw [if_pos h]; rfl
  have hbs := str_nb (c :: l)
  have c256 : (c.toNat : Int) % 256 = (c.toNat : Int) := Int.emod_eq_of_lt (by omega) (by have := c.toNat_lt; omega)
  have hsz : (bs (c :: l)).size = l.length + 1 := by rw [bs_size]; rfl
  have z1 : ((l.length + 1 : Nat) : Int) ≠ 0 := by omega
  have z2 : (((l.length + 1 : Nat) : Int) == 0) = false := beq_eq_false_iff_ne.2 z1
  have hEz : evTkE (c :: l) = 4 := by
    have hek : evKind (c.toNat : Int) = false := by
      unfold evKind; exact decide_eq_false hk
    unfold evTkE
    rw [if_neg (by simp), if_pos (by rw [show (c :: l).getD 0 0 = c from rfl]; exact hek)]
  have HEZ := Lib.hid hEz
  clear hEz hx hl2 hL
  have HN1 := Lib.hid hn1; have HX0 := Lib.hid hX0; have HBS := Lib.hid hbs
  clear hn1 hX0 f1 f3 hbs hlen
  have hR : ((w.alloc (.cells #[.int .u8 0, .int .u8 0, .int .u16 0, .int .u8 0, .int .u8 0, .int .u8 0, .int .u16 0, .int .u16 0, .int .u8 0, .int .u16 0, .slice none 0 0, .slice none 0 0, .int .u8 0, .int .i64 0, .int .i64 0, .int .i64 0, .bool false, .bool false, .bool false] 32)).alloc (.cells #[.string (bs (c :: l)), .int .i64 0, .int .i64 0] 86)).heap[w.heap.size]? = some (.cells (evC evZero (.slice none 0 0) (.slice none 0 0)) 32) := heap_alloc_lt (heap_alloc_new w _)
  have hQ : QAt ((w.alloc (.cells #[.int .u8 0, .int .u8 0, .int .u16 0, .int .u8 0, .int .u8 0, .int .u8 0, .int .u16 0, .int .u16 0, .int .u8 0, .int .u16 0, .slice none 0 0, .slice none 0 0, .int .u8 0, .int .i64 0, .int .i64 0, .int .i64 0, .bool false, .bool false, .bool false] 32)).alloc (.cells #[.string (bs (c :: l)), .int .i64 0, .int .i64 0] 86)) (w.heap.size + 1) (nb (c :: l)) 0 0 := by
    unfold QAt
    rw [List.drop_zero, HBS.out]
    exact heap_alloc_at (by simp)
  have hk0 := ((Keeps.refl [] w).alloc (.cells #[.int .u8 0, .int .u8 0, .int .u16 0, .int .u8 0, .int .u8 0, .int .u8 0, .int .u16 0, .int .u16 0, .int .u8 0, .int .u16 0, .slice none 0 0, .slice none 0 0, .int .u8 0, .int .i64 0, .int .i64 0, .int .i64 0, .bool false, .bool false, .bool false] 32)).alloc (.cells #[.string (bs (c :: l)), .int .i64 0, .int .i64 0] 86)
  have HR := Lib.hid hR; have HQ := Lib.hid hQ; have HK0 := Lib.hid hk0
  clear hR hQ hk0
  generalize bs (c :: l) = S at *
  go_enter Tryz.func14, Tryz.ntmps14
  go_wp2_with fail
  generalize (w.alloc (.cells #[.int .u8 0, .int .u8 0, .int .u16 0, .int .u8 0, .int .u8 0, .int .u8 0, .int .u16 0, .int .u16 0, .int .u8 0, .int .u16 0, .slice none 0 0, .slice none 0 0, .int .u8 0, .int .i64 0, .int .i64 0, .int .i64 0, .bool false, .bool false, .bool false] 32)).alloc (.cells #[.string S, .int .i64 0, .int .i64 0] 86) = W0 at *
  refine (HN1.out _ _ HQ.out).mono ?_; rintro z w1 ⟨rfl, hq1, hk1⟩
  have hR1 := hk1.heap HR.out (by simp)
  have HK1 := Lib.hid (HK0.out.trans hk1 (fun g hg => .inr (by simp at hg; omega)))
  have hz1 := lt_of_block hq1
  clear hk1 HR HQ HK0 HN1
  go_wp2_with ((with_reducible apply wpList_put_ev); exact rfl; exact rfl; (first | assumption | (refine heap_alloc_lt ?_; assumption) | (refine heap_alloc_lt (heap_alloc_lt ?_); assumption) | exact heap_alloc_at (by simp)); exact ⟨rfl, rfl⟩; exact rfl)
  intro W2 hb2 hk2
  have hX2 : W2.heap[w1.heap.size]? = some (.cells (evC { evZero with k := (c.toNat : Int) } (.slice none 0 0) (.slice none 0 0)) 32) := hb2
  have hR2 := hk2.heap (heap_alloc_lt hR1) (by simp; omega)
  have hq2 : QAt W2 (w.heap.size + 1) (nb (c :: l)) 0 1 := hk2.heap (heap_alloc_lt hq1) (by simp; omega)
  have HK2 := Lib.hid ((HK1.out.alloc _).trans hk2 (fun g hg => .inr (by simp at hg; omega)))
  have e0 := ev_cell hX2 0 (evC_0 _ _ _)
  simp only at e0
  have hzb := lt_of_block hX2
  clear hk2 hb2 hR1 hq1 HK1
  generalize w1.heap.size = b at *
  generalize (c.toNat : Int) = kk at *
  by_cases h1 : kk < 1
  · have d1 : decide (kk < 1) = true := decide_eq_true h1
    clear hk
    go_wp2_with ((with_reducible apply wpList_put_ev); exact rfl; exact rfl; (first | assumption | (refine heap_alloc_lt ?_; assumption) | (refine heap_alloc_lt (heap_alloc_lt ?_); assumption) | exact heap_alloc_at (by simp)); exact ⟨rfl, rfl⟩; exact rfl)
    intro W9 hb9 hk9
    have HK9 := Lib.hid (HK2.out.trans hk9 (fun g hg => .inr (by simp at hg; omega)))
    clear hk9
    go_wp2_with fail
    try simp only [Exit.inBlock, Exit.then]
    exact bodyPost_ret (results_ev2 (x := evZero) rfl _ _ _ rfl hb9) rfl (tk_bad HEZ.out (by decide) HK9.out rfl)
  · have h7 : 7 < kk := by omega
    have d1 : decide (kk < 1) = false := decide_eq_false h1
    have d2 : decide (7 < kk) = true := decide_eq_true h7
    clear hk
    go_wp2_with ((with_reducible apply wpList_put_ev); exact rfl; exact rfl; (first | assumption | (refine heap_alloc_lt ?_; assumption) | (refine heap_alloc_lt (heap_alloc_lt ?_); assumption) | exact heap_alloc_at (by simp)); exact ⟨rfl, rfl⟩; exact rfl)
    intro W9 hb9 hk9
    have HK9 := Lib.hid (HK2.out.trans hk9 (fun g hg => .inr (by simp at hg; omega)))
    clear hk9
    go_wp2_with fail
    try simp only [Exit.inBlock, Exit.then]
    exact bodyPost_ret (results_ev2 (x := evZero) rfl _ _ _ rfl hb9) rfl (tk_bad HEZ.out (by decide) HK9.out rfl)
set_option maxHeartbeats 8000000 in
set_option maxRecDepth 100000 in
theorem RTake5_one (w : World) (c : UInt8) (l : List UInt8) (hL : (c :: l).length ≤ 2500) (hk : (c.toNat : Int) = 1) : Calls Tryz.prog 14 #[.string (bs (c :: l))] w (TkPost (c :: l) w) := by
  have hx := nb_in (c :: l)
  have hl2 : (nb (c :: l)).length ≤ 1000000 := by rw [nb_length]; omega
  have hlen : 1 ≤ (nb (c :: l)).length := by rw [nb_length]; simp
  have f1 : (st 1 (nb (c :: l)) (0, 0)) = (0, 1) := by
    have h1 : rdErr 1 (nb (c :: l)) 0 0 = 0 := by unfold rdErr; rw [if_neg (by decide), if_pos (by omega)]
    have h2 : rdPos 1 (nb (c :: l)) 0 0 = 1 := by unfold rdPos; rw [if_pos ⟨rfl, by omega⟩]
    unfold st; rw [h1, h2]
  have f3 : vl 1 (nb (c :: l)) (0, 0) = (c.toNat : Int) := by unfold vl rdVal; rw [if_pos ⟨rfl, by omega⟩, numOf_1 _ _ (by omega)]; rfl
  have hn1 := fun w q h => qNum1 w q (nb (c :: l)) (0, 0) h hx (by simp) hl2
  rw [f1, f3] at hn1
  have hX0 : evTkE (c :: l) = 0 → evTkX (c :: l) = evRdX (c :: l) (c.toNat : Int) := fun h => by unfold evTkX; rw [if_pos h]; rfl
  have hbs := str_nb (c :: l)
  have c256 : (c.toNat : Int) % 256 = (c.toNat : Int) := Int.emod_eq_of_lt (by omega) (by have := c.toNat_lt; omega)
  have hsz : (bs (c :: l)).size = l.length + 1 := by rw [bs_size]; rfl
  have z1 : ((l.length + 1 : Nat) : Int) ≠ 0 := by omega
  have z2 : (((l.length + 1 : Nat) : Int) == 0) = false := beq_eq_false_iff_ne.2 z1
  have hxin := evRdX_in (c :: l) (c.toNat : Int) (by omega) (by omega)
  have hee : evRdE (c :: l) (c.toNat : Int) ≠ 0 → evTkE (c :: l) = evRdE (c :: l) (c.toNat : Int) := tk_err (by omega) (by omega)
  have he0 := tk_ok (c := c) (l := l) (by omega) (by omega)
  have hcf := fun w q h => refConfig_any w q 1 (nb (c :: l)) 0 h hx hlen hl2
  have hde : evRdE (c :: l) (c.toNat : Int) = (cfS (nb (c :: l)) (0, 1)).1 := by rw [hk]; rfl
  have hdx : evRdX (c :: l) (c.toNat : Int) = { evZero with k := (c.toNat : Int), g := cfG (nb (c :: l)) (0, 1) } := by rw [hk]; rfl
  rw [hdx] at hxin he0 hX0
  rw [hde] at he0 hee
  have HIN := Lib.hid hxin; have HEE := Lib.hid hee; have HE0 := Lib.hid he0; have HCF := Lib.hid hcf; have HKK := Lib.hid hk
  clear hxin hee he0 hcf hde hdx hx hl2 hL hk
  generalize cfG (nb (c :: l)) (0, 1) = G at *
  generalize hcs : cfS (nb (c :: l)) (0, 1) = s3 at *
  clear hcs
  have HN1 := Lib.hid hn1; have HX0 := Lib.hid hX0; have HBS := Lib.hid hbs
  clear hn1 hX0 f1 f3 hbs hlen
  have hR : ((w.alloc (.cells #[.int .u8 0, .int .u8 0, .int .u16 0, .int .u8 0, .int .u8 0, .int .u8 0, .int .u16 0, .int .u16 0, .int .u8 0, .int .u16 0, .slice none 0 0, .slice none 0 0, .int .u8 0, .int .i64 0, .int .i64 0, .int .i64 0, .bool false, .bool false, .bool false] 32)).alloc (.cells #[.string (bs (c :: l)), .int .i64 0, .int .i64 0] 86)).heap[w.heap.size]? = some (.cells (evC evZero (.slice none 0 0) (.slice none 0 0)) 32) := heap_alloc_lt (heap_alloc_new w _)
  have hQ : QAt ((w.alloc (.cells #[.int .u8 0, .int .u8 0, .int .u16 0, .int .u8 0, .int .u8 0, .int .u8 0, .int .u16 0, .int .u16 0, .int .u8 0, .int .u16 0, .slice none 0 0, .slice none 0 0, .int .u8 0, .int .i64 0, .int .i64 0, .int .i64 0, .bool false, .bool false, .bool false] 32)).alloc (.cells #[.string (bs (c :: l)), .int .i64 0, .int .i64 0] 86)) (w.heap.size + 1) (nb (c :: l)) 0 0 := by
    unfold QAt
    rw [List.drop_zero, HBS.out]
    exact heap_alloc_at (by simp)
  have hk0 := ((Keeps.refl [] w).alloc (.cells #[.int .u8 0, .int .u8 0, .int .u16 0, .int .u8 0, .int .u8 0, .int .u8 0, .int .u16 0, .int .u16 0, .int .u8 0, .int .u16 0, .slice none 0 0, .slice none 0 0, .int .u8 0, .int .i64 0, .int .i64 0, .int .i64 0, .bool false, .bool false, .bool false] 32)).alloc (.cells #[.string (bs (c :: l)), .int .i64 0, .int .i64 0] 86)
  have HR := Lib.hid hR; have HQ := Lib.hid hQ; have HK0 := Lib.hid hk0
  clear hR hQ hk0
  generalize bs (c :: l) = S at *
  go_enter Tryz.func14, Tryz.ntmps14
  go_wp2_with fail
  generalize (w.alloc (.cells #[.int .u8 0, .int .u8 0, .int .u16 0, .int .u8 0, .int .u8 0, .int .u8 0, .int .u16 0, .int .u16 0, .int .u8 0, .int .u16 0, .slice none 0 0, .slice none 0 0, .int .u8 0, .int .i64 0, .int .i64 0, .int .i64 0, .bool false, .bool false, .bool false] 32)).alloc (.cells #[.string S, .int .i64 0, .int .i64 0] 86) = W0 at *
  refine (HN1.out _ _ HQ.out).mono ?_; rintro z w1 ⟨rfl, hq1, hk1⟩
  have hR1 := hk1.heap HR.out (by simp)
  have HK1 := Lib.hid (HK0.out.trans hk1 (fun g hg => .inr (by simp at hg; omega)))
  have hz1 := lt_of_block hq1
  clear hk1 HR HQ HK0 HN1
  go_wp2_with ((with_reducible apply wpList_put_ev); exact rfl; exact rfl; (first | assumption | (refine heap_alloc_lt ?_; assumption) | (refine heap_alloc_lt (heap_alloc_lt ?_); assumption) | exact heap_alloc_at (by simp)); exact ⟨rfl, rfl⟩; exact rfl)
  intro W2 hb2 hk2
  have hX2 : W2.heap[w1.heap.size]? = some (.cells (evC { evZero with k := (c.toNat : Int) } (.slice none 0 0) (.slice none 0 0)) 32) := hb2
  have hR2 := hk2.heap (heap_alloc_lt hR1) (by simp; omega)
  have hq2 : QAt W2 (w.heap.size + 1) (nb (c :: l)) 0 1 := hk2.heap (heap_alloc_lt hq1) (by simp; omega)
  have HK2 := Lib.hid ((HK1.out.alloc _).trans hk2 (fun g hg => .inr (by simp at hg; omega)))
  have e0 := ev_cell hX2 0 (evC_0 _ _ _)
  simp only at e0
  have hzb := lt_of_block hX2
  clear hk2 hb2 hR1 hq1 HK1
  generalize w1.heap.size = b at *
  have hk := HKK.out
  clear HKK
  generalize (c.toNat : Int) = kk at *
  subst hk
  have hcf := HCF.out _ _ hq2
  have hq0z : w.heap.size + 1 < W2.heap.size := by omega
  go_wp2_with fail
  refine hcf.mono ?_; rintro z w3 ⟨rfl, hq3, hk3⟩
  have hX3 := hk3.heap hX2 (by simp; omega)
  have hR3 := hk3.heap hR2 (by simp)
  have HK3 := Lib.hid (HK2.out.trans hk3 (fun g hg => .inr (by simp at hg; omega)))
  have hz3 := lt_of_block hX3
  clear hk3 hX2 hR2 HK2 hcf HCF hq2 e0
  go_wp2_with ((with_reducible apply wpList_put_cfgmid); exact rfl; exact rfl; exact hX3)
  intro W4 hb4 hk4
  have hq4 := hq3.keep hk4 (by simp; omega)
  have hR4 := hk4.heap hR3 (by simp; omega)
  have HK4 := Lib.hid (HK3.out.trans hk4 (fun g hg => .inr (by simp at hg; omega)))
  have hc2 : W4.cell? ⟨w.heap.size + 1, 2, none⟩ = some (.int .i64 s3.1) := by unfold QAt at hq4; simp [World.cell?, hq4]
  have hz4 := lt_of_block hb4
  clear hk4 hX3 hR3 HK3 hq3 hq4
  obtain ⟨X, hX⟩ : ∃ X : Ev, X = { evZero with k := 1, g := G } := ⟨_, rfl⟩
  have hX4 : W4.heap[b]? = some (.cells (evC X (.slice none 0 0) (.slice none 0 0)) 32) := by rw [hX]; exact hb4
  have HEV : Hid (EvAt W4.heap.size W4 (.slice none 0 0) (.slice none 0 0) X) := Lib.hid (by rw [hX]; exact ⟨Mics.nil _ _, Lists.nil _ _⟩)
  have HEK : Hid (EvKeeps W4.heap.size W4 (.slice none 0 0) (.slice none 0 0) X) := Lib.hid (fun _ _ _ _ => by rw [hX]; exact ⟨Mics.nil _ _, Lists.nil _ _⟩)
  rw [← hX] at HE0 HX0 HIN
  clear hX hb4
  generalize s3.1 = E at *
  by_cases hE0 : E = 0
  · have HE := Lib.hid (HE0.out hE0)
    subst hE0
    clear HE0 HEE
    have hput := RPut5_any W4 X HIN.out (.slice none 0 0) (.slice none 0 0) HEV.out (Nat.le_refl _)
    unfold RPutPost at hput
    rcases bool_two (evGood X) with hgd | hgd
    · rw [show evErr X = 0 by simp [evErr, hgd], hgd, if_pos rfl] at hput
      have hby := evPut_in HIN.out hgd
      by_cases heq : evPut X = nb (c :: l)
      · have hEz : evTkE (c :: l) = 0 := by rw [HE.out, if_pos ⟨hgd, heq⟩]
        have t1 : (S.toList == S.toList) = true := by simp
        rw [heq, HBS.out] at hput
        have HEZ := Lib.hid hEz
        clear hgd heq hby hEz
        go_wp2_with ((with_reducible apply wpList_load_ev); exact rfl; (first | assumption | (refine heap_alloc_lt ?_; assumption) | (refine heap_alloc_lt (heap_alloc_lt ?_); assumption) | exact heap_alloc_at (by simp)); exact rfl)
        refine hput.mono ?_; rintro z W8 ⟨rfl, hk8⟩
        have hR8 := hk8.heap hR4 (by simp)
        have hX8 := hk8.heap hX4 (by simp)
        have HK8 := Lib.hid (HK4.out.trans hk8 (FSub.refl _ _))
        have h1 := HEV.out.t.one; have h2 := HEV.out.r.one
        have HK78 := Lib.hid hk8
        clear hput hk8
        go_wp2_with (first | ((with_reducible apply wpList_load_ev); exact rfl; (first | assumption | (refine heap_alloc_lt ?_; assumption) | (refine heap_alloc_lt (heap_alloc_lt ?_); assumption) | exact heap_alloc_at (by simp)); exact rfl) | ((with_reducible apply wpList_put_ev); exact rfl; exact rfl; (first | assumption | (refine heap_alloc_lt ?_; assumption) | (refine heap_alloc_lt (heap_alloc_lt ?_); assumption) | exact heap_alloc_at (by simp)); exact ⟨rfl, rfl⟩; (refine evC_one _ ?_ ?_ <;> first | rfl | assumption)))
        intro W9 hb9 hk9
        have HEV9 := HEK.out [w.heap.size] W9 ((HK78.out.more (by simp)).step hk9 (by simp)) (by intro q' hq'; simp at hq'; omega)
        have HK9 := Lib.hid (HK8.out.trans hk9 (fun q hq => .inr (by simp at hq; omega)))
        clear hk9 hR8 hX8
        go_wp2_with fail
        try simp only [Exit.inBlock, Exit.then]
        exact bodyPost_ret (results_ev2 (x := X) rfl _ _ _ rfl hb9) rfl ⟨(.slice none 0 0), (.slice none 0 0), by rw [HX0.out HEZ.out, HEZ.out]; rfl, by rw [HX0.out HEZ.out]; exact HEV9, HK9.out⟩
      · have hEz : evTkE (c :: l) = 4 := by rw [HE.out, if_neg (fun h => heq h.2)]
        have hne : ¬ strOfNums (evPut X) = S := fun h => heq (by rw [← nums_of hby, h, ← HBS.out, nums_of (nb_byte _)])
        have t1 : ((strOfNums (evPut X)).toList == S.toList) = false := by
          rw [toL_of, toL_of]
          exact beq_eq_false_iff_ne.2 (fun h => hne (ByteArray.ext (Array.ext' h)))
        have HEZ := Lib.hid hEz
        clear hgd heq hby hEz hne
        generalize strOfNums (evPut X) = SP at *
        go_wp2_with ((with_reducible apply wpList_load_ev); exact rfl; (first | assumption | (refine heap_alloc_lt ?_; assumption) | (refine heap_alloc_lt (heap_alloc_lt ?_); assumption) | exact heap_alloc_at (by simp)); exact rfl)
        refine hput.mono ?_; rintro z W8 ⟨rfl, hk8⟩
        have hR8 := hk8.heap hR4 (by simp)
        have HK8 := Lib.hid (HK4.out.trans hk8 (FSub.refl _ _))
        clear hput hk8
        go_wp2_with ((with_reducible apply wpList_put_ev); exact rfl; exact rfl; (first | assumption | (refine heap_alloc_lt ?_; assumption) | (refine heap_alloc_lt (heap_alloc_lt ?_); assumption) | exact heap_alloc_at (by simp)); exact ⟨rfl, rfl⟩; exact rfl)
        intro W9 hb9 hk9
        have HK9 := Lib.hid (HK8.out.trans hk9 (fun g hg => .inr (by simp at hg; omega)))
        clear hk9
        go_wp2_with fail
        try simp only [Exit.inBlock, Exit.then]
        exact bodyPost_ret (results_ev2 (x := evZero) rfl _ _ _ rfl hb9) rfl (tk_bad HEZ.out (by decide) HK9.out rfl)
    · rw [show evErr X = 4 by simp [evErr, hgd], hgd, if_neg (by simp)] at hput
      have hEz : evTkE (c :: l) = 4 := by rw [HE.out, if_neg (fun h => by rw [hgd] at h; cases h.1)]
      have HEZ := Lib.hid hEz
      clear hgd hEz
      go_wp2_with ((with_reducible apply wpList_load_ev); exact rfl; (first | assumption | (refine heap_alloc_lt ?_; assumption) | (refine heap_alloc_lt (heap_alloc_lt ?_); assumption) | exact heap_alloc_at (by simp)); exact rfl)
      refine hput.mono ?_; rintro z W8 ⟨rfl, hk8⟩
      have hR8 := hk8.heap hR4 (by simp)
      have HK8 := Lib.hid (HK4.out.trans hk8 (FSub.refl _ _))
      clear hput hk8
      go_wp2_with ((with_reducible apply wpList_put_ev); exact rfl; exact rfl; (first | assumption | (refine heap_alloc_lt ?_; assumption) | (refine heap_alloc_lt (heap_alloc_lt ?_); assumption) | exact heap_alloc_at (by simp)); exact ⟨rfl, rfl⟩; exact rfl)
      intro W9 hb9 hk9
      have HK9 := Lib.hid (HK8.out.trans hk9 (fun g hg => .inr (by simp at hg; omega)))
      clear hk9
      go_wp2_with fail
      try simp only [Exit.inBlock, Exit.then]
      exact bodyPost_ret (results_ev2 (x := evZero) rfl _ _ _ rfl hb9) rfl (tk_bad HEZ.out (by decide) HK9.out rfl)
  · have HEZ := Lib.hid (HEE.out hE0)
    have t1 : (E == 0) = false := by simpa using hE0
    have t2 : (E != 0) = true := by simpa using hE0
    clear HE0 HEE
    go_wp2_with ((with_reducible apply wpList_put_ev); exact rfl; exact rfl; (first | assumption | (refine heap_alloc_lt ?_; assumption) | (refine heap_alloc_lt (heap_alloc_lt ?_); assumption) | exact heap_alloc_at (by simp)); exact ⟨rfl, rfl⟩; exact rfl)
    intro W9 hb9 hk9
    have HK9 := Lib.hid (HK4.out.trans hk9 (fun g hg => .inr (by simp at hg; omega)))
    clear hk9
    go_wp2_with fail
    try simp only [Exit.inBlock, Exit.then]
    exact bodyPost_ret (results_ev2 (x := evZero) rfl _ _ _ rfl hb9) rfl (tk_bad HEZ.out hE0 HK9.out rfl)

end Go.Proofs.YtibppobibncpdaaGreatDoor
/-
  The document's reading of what stands behind a client and an ID: a client's. (Printed by draft/genbody5.py.)
-/
namespace Go.Proofs.YtibppobibncpdaaGreatDoor
open Go.RowKit
set_option maxHeartbeats 8000000 in
set_option maxRecDepth 100000 in
theorem RTake5_more (w : World) (c : UInt8) (l : List UInt8) (hL : (c :: l).length ≤ 2500) (k2 : 2 ≤ (c.toNat : Int)) (k7 : (c.toNat : Int) ≤ 7) : Calls Tryz.prog 14 #[.string (bs (c :: l))] w (TkPost (c :: l) w) := by
  have hx := nb_in (c :: l)
  have hl2 : (nb (c :: l)).length ≤ 1000000 := by rw [nb_length]; omega
  have hlen : 1 ≤ (nb (c :: l)).length := by rw [nb_length]; simp
  have f1 : (st 1 (nb (c :: l)) (0, 0)) = (0, 1) := by
    have h1 : rdErr 1 (nb (c :: l)) 0 0 = 0 := by unfold rdErr; rw [if_neg (by decide), if_pos (by omega)]
    have h2 : rdPos 1 (nb (c :: l)) 0 0 = 1 := by unfold rdPos; rw [if_pos ⟨rfl, by omega⟩]
    unfold st; rw [h1, h2]
  have f3 : vl 1 (nb (c :: l)) (0, 0) = (c.toNat : Int) := by unfold vl rdVal; rw [if_pos ⟨rfl, by omega⟩, numOf_1 _ _ (by omega)]; rfl
  have hn1 := fun w q h => qNum1 w q (nb (c :: l)) (0, 0) h hx (by simp) hl2
  rw [f1, f3] at hn1
  have hX0 : evTkE (c :: l) = 0 → evTkX (c :: l) = evRdX (c :: l) (c.toNat : Int) := fun h => by unfold evTkX; rw [if_pos h]; rfl
  have hbs := str_nb (c :: l)
  have c256 : (c.toNat : Int) % 256 = (c.toNat : Int) := Int.emod_eq_of_lt (by omega) (by have := c.toNat_lt; omega)
  have hsz : (bs (c :: l)).size = l.length + 1 := by rw [bs_size]; rfl
  have z1 : ((l.length + 1 : Nat) : Int) ≠ 0 := by omega
  have z2 : (((l.length + 1 : Nat) : Int) == 0) = false := beq_eq_false_iff_ne.2 z1
  have hxin := evRdX_in (c :: l) (c.toNat : Int) (by omega) (by omega)
  have he0 := tk_ok (c := c) (l := l) (by omega) k7
  have hwh : whE (nb (c :: l)) 0 1 ≠ 0 → evTkE (c :: l) = whE (nb (c :: l)) 0 1 := fun h => by rw [tk_err (by omega) k7 (by rw [rd_who k2 k7 h]; exact h), rd_who k2 k7 h]
  have hbe := body_err (c := c) (l := l) k2 k7
  have hbz := fun h => body_zero (L := c :: l) k2 k7 h
  have hpl2 : whP (nb (c :: l)) 0 1 ≤ (nb (c :: l)).length := by unfold whP; exact rdPos_le (rdPos_le hlen)
  have hn2 := fun w q h => qNum1 w q (nb (c :: l)) (0, 1) h hx hlen hl2
  have hn3 := fun w q h => qNum2 w q (nb (c :: l)) (st 1 (nb (c :: l)) (0, 1)) h hx (st_le hlen) hl2
  have bc : 0 ≤ whC (nb (c :: l)) 0 1 ∧ whC (nb (c :: l)) 0 1 < 256 := rdVal1_b hx _ _
  have bi : 0 ≤ whI (nb (c :: l)) 0 1 ∧ whI (nb (c :: l)) 0 1 < 65536 := rdVal2_b hx _ _
  have g1 : vl 1 (nb (c :: l)) (0, 1) = whC (nb (c :: l)) 0 1 := rfl
  have g2 : vl 2 (nb (c :: l)) (st 1 (nb (c :: l)) (0, 1)) = whI (nb (c :: l)) 0 1 := rfl
  have g3 : st 2 (nb (c :: l)) (st 1 (nb (c :: l)) (0, 1)) = (whE (nb (c :: l)) 0 1, whP (nb (c :: l)) 0 1) := rfl
  rw [g1] at hn2
  rw [g2, g3] at hn3
  have m1 : whC (nb (c :: l)) 0 1 % 256 = whC (nb (c :: l)) 0 1 := Int.emod_eq_of_lt bc.1 bc.2
  have m2 : whI (nb (c :: l)) 0 1 % 65536 = whI (nb (c :: l)) 0 1 := Int.emod_eq_of_lt bi.1 bi.2
  obtain ⟨bc0, bc1⟩ := bc; obtain ⟨bi0, bi1⟩ := bi
  have hwx : whX (nb (c :: l)) (c.toNat : Int) = { evZero with k := (c.toNat : Int), c := whC (nb (c :: l)) 0 1, id := whI (nb (c :: l)) 0 1 } := rfl
  have hbd := fun w q p h x k2 k7 hxt hxr hpl => refBody_any w q p (c :: l) hL h x k2 k7 hxt hxr hpl
  have HIN := Lib.hid hxin; have HE0 := Lib.hid he0; have HWH := Lib.hid hwh; have HBE := Lib.hid hbe; have HBZ := Lib.hid hbz; have HPL := Lib.hid hpl2; have HN2 := Lib.hid hn2; have HN3 := Lib.hid hn3; have HWX := Lib.hid hwx; have HBD := Lib.hid hbd
  clear hxin he0 hwh hbe hbz hpl2 hn2 hn3 g1 g2 g3 hwx hbd hx hl2 hL
  have q1 : ((c.toNat : Int) == 1) = false := beq_eq_false_iff_ne.2 (by omega)
  have d1 : decide ((c.toNat : Int) < 1) = false := decide_eq_false (by omega)
  have d2 : decide (7 < (c.toNat : Int)) = false := decide_eq_false (by omega)
  generalize hgx : evRdX (c :: l) (c.toNat : Int) = RX at *
  generalize hge : evRdE (c :: l) (c.toNat : Int) = RE at *
  clear hgx hge
  generalize hC : whC (nb (c :: l)) 0 1 = C at *
  generalize hI : whI (nb (c :: l)) 0 1 = I at *
  generalize hEE : whE (nb (c :: l)) 0 1 = EE at *
  generalize hPP : whP (nb (c :: l)) 0 1 = PP at *
  clear hC hI hEE hPP
  generalize hs1 : st 1 (nb (c :: l)) (0, 1) = s1 at *
  clear hs1
  have HN1 := Lib.hid hn1; have HX0 := Lib.hid hX0; have HBS := Lib.hid hbs
  clear hn1 hX0 f1 f3 hbs hlen
  have hR : ((w.alloc (.cells #[.int .u8 0, .int .u8 0, .int .u16 0, .int .u8 0, .int .u8 0, .int .u8 0, .int .u16 0, .int .u16 0, .int .u8 0, .int .u16 0, .slice none 0 0, .slice none 0 0, .int .u8 0, .int .i64 0, .int .i64 0, .int .i64 0, .bool false, .bool false, .bool false] 32)).alloc (.cells #[.string (bs (c :: l)), .int .i64 0, .int .i64 0] 86)).heap[w.heap.size]? = some (.cells (evC evZero (.slice none 0 0) (.slice none 0 0)) 32) := heap_alloc_lt (heap_alloc_new w _)
  have hQ : QAt ((w.alloc (.cells #[.int .u8 0, .int .u8 0, .int .u16 0, .int .u8 0, .int .u8 0, .int .u8 0, .int .u16 0, .int .u16 0, .int .u8 0, .int .u16 0, .slice none 0 0, .slice none 0 0, .int .u8 0, .int .i64 0, .int .i64 0, .int .i64 0, .bool false, .bool false, .bool false] 32)).alloc (.cells #[.string (bs (c :: l)), .int .i64 0, .int .i64 0] 86)) (w.heap.size + 1) (nb (c :: l)) 0 0 := by
    unfold QAt
    rw [List.drop_zero, HBS.out]
    exact heap_alloc_at (by simp)
  have hk0 := ((Keeps.refl [] w).alloc (.cells #[.int .u8 0, .int .u8 0, .int .u16 0, .int .u8 0, .int .u8 0, .int .u8 0, .int .u16 0, .int .u16 0, .int .u8 0, .int .u16 0, .slice none 0 0, .slice none 0 0, .int .u8 0, .int .i64 0, .int .i64 0, .int .i64 0, .bool false, .bool false, .bool false] 32)).alloc (.cells #[.string (bs (c :: l)), .int .i64 0, .int .i64 0] 86)
  have HR := Lib.hid hR; have HQ := Lib.hid hQ; have HK0 := Lib.hid hk0
  clear hR hQ hk0
  generalize bs (c :: l) = S at *
  go_enter Tryz.func14, Tryz.ntmps14
  go_wp2_with fail
  generalize (w.alloc (.cells #[.int .u8 0, .int .u8 0, .int .u16 0, .int .u8 0, .int .u8 0, .int .u8 0, .int .u16 0, .int .u16 0, .int .u8 0, .int .u16 0, .slice none 0 0, .slice none 0 0, .int .u8 0, .int .i64 0, .int .i64 0, .int .i64 0, .bool false, .bool false, .bool false] 32)).alloc (.cells #[.string S, .int .i64 0, .int .i64 0] 86) = W0 at *
  refine (HN1.out _ _ HQ.out).mono ?_; rintro z w1 ⟨rfl, hq1, hk1⟩
  have hR1 := hk1.heap HR.out (by simp)
  have HK1 := Lib.hid (HK0.out.trans hk1 (fun g hg => .inr (by simp at hg; omega)))
  have hz1 := lt_of_block hq1
  clear hk1 HR HQ HK0 HN1
  go_wp2_with ((with_reducible apply wpList_put_ev); exact rfl; exact rfl; (first | assumption | (refine heap_alloc_lt ?_; assumption) | (refine heap_alloc_lt (heap_alloc_lt ?_); assumption) | exact heap_alloc_at (by simp)); exact ⟨rfl, rfl⟩; exact rfl)
  intro W2 hb2 hk2
  have hX2 : W2.heap[w1.heap.size]? = some (.cells (evC { evZero with k := (c.toNat : Int) } (.slice none 0 0) (.slice none 0 0)) 32) := hb2
  have hR2 := hk2.heap (heap_alloc_lt hR1) (by simp; omega)
  have hq2 : QAt W2 (w.heap.size + 1) (nb (c :: l)) 0 1 := hk2.heap (heap_alloc_lt hq1) (by simp; omega)
  have HK2 := Lib.hid ((HK1.out.alloc _).trans hk2 (fun g hg => .inr (by simp at hg; omega)))
  have e0 := ev_cell hX2 0 (evC_0 _ _ _)
  simp only at e0
  have hzb := lt_of_block hX2
  clear hk2 hb2 hR1 hq1 HK1
  generalize w1.heap.size = b at *
  generalize (c.toNat : Int) = kk at *
  have hn2 := HN2.out _ _ hq2
  go_wp2_with fail
  refine hn2.mono ?_; rintro z w3 ⟨rfl, hq3, hk3⟩
  have hX3 := hk3.heap hX2 (by simp; omega)
  have hR3 := hk3.heap hR2 (by simp)
  have HK3 := Lib.hid (HK2.out.trans hk3 (fun g hg => .inr (by simp at hg; omega)))
  clear hk3 hX2 hR2 HK2 hn2 HN2 hq2 e0
  go_wp2_with ((with_reducible apply wpList_put_cell (T := 5) 1 { evZero with k := kk, c := C } (.slice none 0 0) (.slice none 0 0)); exact rfl; exact rfl; exact hX3; kernel_rfl; exact rfl; exact rfl; exact rfl)
  intro W4 hb4 hk4
  have hq4 := hq3.keep hk4 (by simp; omega)
  have hR4 := hk4.heap hR3 (by simp; omega)
  have HK4 := Lib.hid (HK3.out.trans hk4 (fun g hg => .inr (by simp at hg; omega)))
  have hn3 := HN3.out _ _ hq4
  clear hk4 hX3 hR3 HK3 hq3 hq4 HN3
  go_wp2_with fail
  refine hn3.mono ?_; rintro z w5 ⟨rfl, hq5, hk5⟩
  have hX5 := hk5.heap hb4 (by simp; omega)
  have hR5 := hk5.heap hR4 (by simp)
  have HK5 := Lib.hid (HK4.out.trans hk5 (fun g hg => .inr (by simp at hg; omega)))
  clear hk5 hb4 hR4 HK4 hn3
  go_wp2_with ((with_reducible apply wpList_put_cell (T := 22) 2 { evZero with k := kk, c := C, id := I } (.slice none 0 0) (.slice none 0 0)); exact rfl; exact rfl; exact hX5; kernel_rfl; exact rfl; exact rfl; exact rfl)
  intro W6 hb6 hk6
  have hq6 := hq5.keep hk6 (by simp; omega)
  have hR6 := hk6.heap hR5 (by simp; omega)
  have HK6 := Lib.hid (HK5.out.trans hk6 (fun g hg => .inr (by simp at hg; omega)))
  have hc2 : W6.cell? ⟨w.heap.size + 1, 2, none⟩ = some (.int .i64 EE) := by unfold QAt at hq6; simp [World.cell?, hq6]
  have hz6 := lt_of_block hb6
  clear hk6 hX5 hR5 HK5 hq5
  obtain ⟨X, hX⟩ : ∃ X : Ev, X = { evZero with k := kk, c := C, id := I } := ⟨_, rfl⟩
  have hX6 : W6.heap[b]? = some (.cells (evC X (.slice none 0 0) (.slice none 0 0)) 32) := by rw [hX]; exact hb6
  have hwx := HWX.out.trans hX.symm
  have hXk : X.k = kk := by rw [hX]
  have hXt : X.t = [] := by rw [hX]; rfl
  have hXr : X.r = [] := by rw [hX]; rfl
  rw [hwx] at HBZ
  clear hX hb6 HWX hwx
  by_cases hEE : EE = 0
  · subst hEE
    have hbd := HBD.out W6 _ PP hq6 X (by omega) (by omega) hXt hXr HPL.out
    rw [hXk] at hbd
    have hbe := HBE.out rfl
    have hbz := HBZ.out rfl
    generalize bodyE (c :: l) PP kk = E at *
    generalize bodyX (c :: l) PP X = BX at *
    have HBE2 := Lib.hid hbe; have HBZ2 := Lib.hid hbz
    clear HBE HBZ HWH HBD hbe hbz hXk hXt hXr HPL
    go_wp2_with ((with_reducible apply wpList_load_ev); exact rfl; (first | assumption | (refine heap_alloc_lt ?_; assumption) | (refine heap_alloc_lt (heap_alloc_lt ?_); assumption) | exact heap_alloc_at (by simp)); exact rfl)
    refine hbd.mono ?_; rintro z w7 ⟨Y, tx, rd, rfl, o1, o2, hY, hk7⟩
    have hX7 := hk7.heap hX6 (by simp; omega)
    have hR7 := hk7.heap hR6 (by simp)
    have HK7 := Lib.hid (HK6.out.trans hk7 (fun g hg => .inr (by simp at hg; omega)))
    have HY := Lib.hid hY
    clear hk7 hX6 hR6 HK6 hbd hY hq6 hc2
    go_wp2_with ((with_reducible apply wpList_put_ev); exact rfl; exact rfl; (first | assumption | (refine heap_alloc_lt ?_; assumption) | (refine heap_alloc_lt (heap_alloc_lt ?_); assumption) | exact heap_alloc_at (by simp)); exact ⟨rfl, rfl⟩; (refine evC_one _ ?_ ?_ <;> first | rfl | assumption))
    intro W8x hb8 hk8x
    have hR8x := hk8x.heap hR7 (by simp; omega)
    have HK8x := Lib.hid (HK7.out.trans hk8x (fun g hg => .inr (by simp at hg; omega)))
    have HKX := Lib.hid hk8x
    clear hk8x hR7 HK7 hX7
    by_cases hE0 : E = 0
    · obtain ⟨hr0, hbx⟩ := HBZ2.out hE0
      obtain ⟨hyy, hevk⟩ := HY.out hE0
      subst hE0
      subst hbx
      subst hyy
      have HE := Lib.hid (HE0.out hr0)
      have HEK : Hid (EvKeeps W6.heap.size W8x tx rd Y) := Lib.hid (fun F W' hk hF => hevk (b :: F) W' ((HKX.out.more (by simp)).step hk (by intro g hg; simp [hg])) (by intro q' hq'; simp at hq'; rcases hq' with rfl | hq'; exact hz6; exact hF q' hq'))
      have HEV : Hid (EvAt W8x.heap.size W8x tx rd Y) := Lib.hid (HEK.out [] W8x (Keeps.refl _ _) (by simp))
      clear HE0 HBZ2 HBE2 HY hevk hr0 HKX
      have hput := RPut5_any W8x Y HIN.out tx rd HEV.out (Nat.le_refl _)
      unfold RPutPost at hput
      rcases bool_two (evGood Y) with hgd | hgd
      · rw [show evErr Y = 0 by simp [evErr, hgd], hgd, if_pos rfl] at hput
        have hby := evPut_in HIN.out hgd
        by_cases heq : evPut Y = nb (c :: l)
        · have hEz : evTkE (c :: l) = 0 := by rw [HE.out, if_pos ⟨hgd, heq⟩]
          have t1 : (S.toList == S.toList) = true := by simp
          rw [heq, HBS.out] at hput
          have HEZ := Lib.hid hEz
          clear hgd heq hby hEz
          go_wp2_with ((with_reducible apply wpList_load_ev); exact rfl; (first | assumption | (refine heap_alloc_lt ?_; assumption) | (refine heap_alloc_lt (heap_alloc_lt ?_); assumption) | exact heap_alloc_at (by simp)); exact rfl)
          refine hput.mono ?_; rintro z W8 ⟨rfl, hk8⟩
          have hR8 := hk8.heap hR8x (by simp)
          have hX8 := hk8.heap hb8 (by simp)
          have HK8 := Lib.hid (HK8x.out.trans hk8 (FSub.refl _ _))
          have h1 := HEV.out.t.one; have h2 := HEV.out.r.one
          have HK78 := Lib.hid hk8
          clear hput hk8
          go_wp2_with (first | ((with_reducible apply wpList_load_ev); exact rfl; (first | assumption | (refine heap_alloc_lt ?_; assumption) | (refine heap_alloc_lt (heap_alloc_lt ?_); assumption) | exact heap_alloc_at (by simp)); exact rfl) | ((with_reducible apply wpList_put_ev); exact rfl; exact rfl; (first | assumption | (refine heap_alloc_lt ?_; assumption) | (refine heap_alloc_lt (heap_alloc_lt ?_); assumption) | exact heap_alloc_at (by simp)); exact ⟨rfl, rfl⟩; (refine evC_one _ ?_ ?_ <;> first | rfl | assumption)))
          intro W9 hb9 hk9
          have HEV9 := HEK.out [w.heap.size] W9 ((HK78.out.more (by simp)).step hk9 (by simp)) (by intro q' hq'; simp at hq'; omega)
          have HK9 := Lib.hid (HK8.out.trans hk9 (fun q hq => .inr (by simp at hq; omega)))
          clear hk9 hR8 hX8
          go_wp2_with fail
          try simp only [Exit.inBlock, Exit.then]
          exact bodyPost_ret (results_ev2 (x := Y) rfl _ _ _ rfl hb9) rfl ⟨tx, rd, by rw [HX0.out HEZ.out, HEZ.out]; rfl, by rw [HX0.out HEZ.out]; exact HEV9, HK9.out⟩
        · have hEz : evTkE (c :: l) = 4 := by rw [HE.out, if_neg (fun h => heq h.2)]
          have hne : ¬ strOfNums (evPut Y) = S := fun h => heq (by rw [← nums_of hby, h, ← HBS.out, nums_of (nb_byte _)])
          have t1 : ((strOfNums (evPut Y)).toList == S.toList) = false := by
            rw [toL_of, toL_of]
            exact beq_eq_false_iff_ne.2 (fun h => hne (ByteArray.ext (Array.ext' h)))
          have HEZ := Lib.hid hEz
          clear hgd heq hby hEz hne
          generalize strOfNums (evPut Y) = SP at *
          go_wp2_with ((with_reducible apply wpList_load_ev); exact rfl; (first | assumption | (refine heap_alloc_lt ?_; assumption) | (refine heap_alloc_lt (heap_alloc_lt ?_); assumption) | exact heap_alloc_at (by simp)); exact rfl)
          refine hput.mono ?_; rintro z W8 ⟨rfl, hk8⟩
          have hR8 := hk8.heap hR8x (by simp)
          have HK8 := Lib.hid (HK8x.out.trans hk8 (FSub.refl _ _))
          clear hput hk8
          go_wp2_with ((with_reducible apply wpList_put_ev); exact rfl; exact rfl; (first | assumption | (refine heap_alloc_lt ?_; assumption) | (refine heap_alloc_lt (heap_alloc_lt ?_); assumption) | exact heap_alloc_at (by simp)); exact ⟨rfl, rfl⟩; exact rfl)
          intro W9 hb9 hk9
          have HK9 := Lib.hid (HK8.out.trans hk9 (fun g hg => .inr (by simp at hg; omega)))
          clear hk9
          go_wp2_with fail
          try simp only [Exit.inBlock, Exit.then]
          exact bodyPost_ret (results_ev2 (x := evZero) rfl _ _ _ rfl hb9) rfl (tk_bad HEZ.out (by decide) HK9.out rfl)
      · rw [show evErr Y = 4 by simp [evErr, hgd], hgd, if_neg (by simp)] at hput
        have hEz : evTkE (c :: l) = 4 := by rw [HE.out, if_neg (fun h => by rw [hgd] at h; cases h.1)]
        have HEZ := Lib.hid hEz
        clear hgd hEz
        go_wp2_with ((with_reducible apply wpList_load_ev); exact rfl; (first | assumption | (refine heap_alloc_lt ?_; assumption) | (refine heap_alloc_lt (heap_alloc_lt ?_); assumption) | exact heap_alloc_at (by simp)); exact rfl)
        refine hput.mono ?_; rintro z W8 ⟨rfl, hk8⟩
        have hR8 := hk8.heap hR8x (by simp)
        have HK8 := Lib.hid (HK8x.out.trans hk8 (FSub.refl _ _))
        clear hput hk8
        go_wp2_with ((with_reducible apply wpList_put_ev); exact rfl; exact rfl; (first | assumption | (refine heap_alloc_lt ?_; assumption) | (refine heap_alloc_lt (heap_alloc_lt ?_); assumption) | exact heap_alloc_at (by simp)); exact ⟨rfl, rfl⟩; exact rfl)
        intro W9 hb9 hk9
        have HK9 := Lib.hid (HK8.out.trans hk9 (fun g hg => .inr (by simp at hg; omega)))
        clear hk9
        go_wp2_with fail
        try simp only [Exit.inBlock, Exit.then]
        exact bodyPost_ret (results_ev2 (x := evZero) rfl _ _ _ rfl hb9) rfl (tk_bad HEZ.out (by decide) HK9.out rfl)
    · have HEZ := Lib.hid (HBE2.out hE0)
      have t1 : (E == 0) = false := by simpa using hE0
      have t2 : (E != 0) = true := by simpa using hE0
      clear HE0 HBZ2 HBE2 HY HKX
      go_wp2_with ((with_reducible apply wpList_put_ev); exact rfl; exact rfl; (first | assumption | (refine heap_alloc_lt ?_; assumption) | (refine heap_alloc_lt (heap_alloc_lt ?_); assumption) | exact heap_alloc_at (by simp)); exact ⟨rfl, rfl⟩; exact rfl)
      intro W9 hb9 hk9
      have HK9 := Lib.hid (HK8x.out.trans hk9 (fun g hg => .inr (by simp at hg; omega)))
      clear hk9
      go_wp2_with fail
      try simp only [Exit.inBlock, Exit.then]
      exact bodyPost_ret (results_ev2 (x := evZero) rfl _ _ _ rfl hb9) rfl (tk_bad HEZ.out hE0 HK9.out rfl)
  · have HEZ := Lib.hid (HWH.out hEE)
    have t1 : (EE == 0) = false := by simpa using hEE
    have t2 : (EE != 0) = true := by simpa using hEE
    clear HE0 HBE HBZ HWH HBD
    go_wp2_with ((with_reducible apply wpList_put_ev); exact rfl; exact rfl; (first | assumption | (refine heap_alloc_lt ?_; assumption) | (refine heap_alloc_lt (heap_alloc_lt ?_); assumption) | exact heap_alloc_at (by simp)); exact ⟨rfl, rfl⟩; exact rfl)
    intro W9 hb9 hk9
    have HK9 := Lib.hid (HK6.out.trans hk9 (fun g hg => .inr (by simp at hg; omega)))
    clear hk9
    go_wp2_with fail
    try simp only [Exit.inBlock, Exit.then]
    exact bodyPost_ret (results_ev2 (x := evZero) rfl _ _ _ rfl hb9) rfl (tk_bad HEZ.out hEE HK9.out rfl)

end Go.Proofs.YtibppobibncpdaaGreatDoor
