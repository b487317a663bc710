/-
  KvmapCodes over any key map.
-/
import Derived.Test.YtnmpekbkahkapaaKK15
import Derived.Test.YtnmpekbkahkapaaKK07
import Derived.Test.YtnmpekbkahkapaaKK06
import Derived.Test.YtnmpekbkahkapaaKK16
set_option linter.unusedSimpArgs false
set_option linter.unusedVariables false
namespace Go.Proofs.Ytnmpekbkahkapaa
open Go.RowKit
variable {G : World → Prop}
theorem look_filter (key k : Int) : ∀ t : List It, itLook k (t.filter fun x => x.k == key) = if k = key then itLook k t else none
  | [] => by simp [itLook]
  | a :: r => by
    have ih := look_filter key k r
    rw [List.filter_cons]
    by_cases ha : a.k = key
    · rw [if_pos (by simpa using ha), itLook, itLook, ih]
      by_cases hk : k = key
      · rw [if_pos hk, if_pos hk]
      · rw [if_neg hk, if_neg hk, if_neg (by rw [ha]; exact fun e => hk e.symm)]
    · rw [if_neg (by simpa using ha), ih]
      by_cases hk : k = key
      · rw [if_pos hk, if_pos hk, itLook, if_neg (by rw [hk]; exact ha)]
      · rw [if_neg hk, if_neg hk]
theorem kv0_get (k : Nat) : kv0.getD k none = none := by
  unfold kv0
  rw [List.getD_eq_getElem?_getD, List.getElem?_replicate]
  split <;> rfl
theorem only_get {m : Kv} {key : Int} (h0 : 0 ≤ key) {k : Nat} (hk : k < 8) : (kvOnly m key).getD k none = if (k : Int) = key then m.getD k none else none := by
  unfold kvOnly
  split
  · rename_i h8
    by_cases e : (k : Int) = key
    · rw [if_pos e, show key.toNat = k by omega, List.getD_eq_getElem?_getD, List.getElem?_set_self (by show k < 8; exact hk)]
      rfl
    · rw [if_neg e, List.getD_eq_getElem?_getD, List.getElem?_set_ne (by omega), ← List.getD_eq_getElem?_getD, kv0_get]
  · rw [if_neg (by omega), kv0_get]
theorem Rel.only {m : Kv} {t : List It} (h : Rel m t) {key : Int} (h0 : 0 ≤ key) : Rel (kvOnly m key) (t.filter fun x => x.k == key) := by
  refine ⟨kvOnly_in h.in_ h0, fun k hk => ?_, fun x hx => h.keys x (List.mem_filter.1 hx).1, h.nodup.sublist (List.Sublist.map _ List.filter_sublist)⟩
  rw [look_filter, only_get h0 hk]
  split
  · exact h.look k hk
  · rfl
set_option maxHeartbeats 8000000
set_option maxRecDepth 100000
end Go.Proofs.Ytnmpekbkahkapaa
/-
  A key map's bytes, read back.
-/
namespace Go.Proofs.Ytnmpekbkahkapaa
open Go.RowKit
theorem bits_more (B k : Nat) : B % 2 ^ (k + 1) = B % 2 ^ k + 2 ^ k * (B / 2 ^ k % 2) := Nat.mod_pow_succ
end Go.Proofs.Ytnmpekbkahkapaa
/-
  Keys are apart: what operations at one key answer, and leave there.
-/
namespace Go.Proofs.Ytnmpekbkahkapaa
open Go.RowKit
theorem get_set {m : Kv} {k j : Nat} (hk : k < m.length) (o : Option Int) : (m.set k o).getD j none = if k = j then o else m.getD j none := by
  rw [List.getD_eq_getElem?_getD, List.getElem?_set]
  split
  · rename_i e
    subst e
    first | rfl | (rw [if_pos hk]; rfl)
  · rw [← List.getD_eq_getElem?_getD]
end Go.Proofs.Ytnmpekbkahkapaa
/-
  KvmapLast: two arrays in memory, what a step does by its ways.
-/
namespace Go.Proofs.Ytnmpekbkahkapaa
open Go.RowKit
section
variable {w : World} {b : Nat} {m : Kv} {vs : List Int} {t : TypeId}
end
/-- What was put last. -/
structure LaOk (m : Kv) (vs : List Int) : Prop where
  len : vs.length = 8
  mlen : m.length = 8
  last : ∀ j v, m.getD j none = some v → vs.getD j 0 = v
theorem LaOk.first : LaOk kv0 [0, 0, 0, 0, 0, 0, 0, 0] := ⟨rfl, rfl, fun j v h => by
  have e : kv0.getD j none = none := by
    unfold kv0
    rw [List.getD_eq_getElem?_getD, List.getElem?_replicate]
    split <;> rfl
  rw [e] at h; cases h⟩
theorem LaOk.put {m : Kv} {vs : List Int} (h : LaOk m vs) {n : Nat} (hn : n < 8) (v : Int) : LaOk (m.set n (some v)) (vs.set n v) := by
  refine ⟨by simp [h.len], by simp [h.mlen], fun j u hj => ?_⟩
  rw [get_set (by rw [h.mlen]; exact hn)] at hj
  rw [List.getD_eq_getElem?_getD, List.getElem?_set]
  by_cases e : n = j
  · rw [if_pos e] at hj
    obtain rfl := Option.some.inj hj
    rw [if_pos e, if_pos (by rw [h.len]; exact hn)]
    rfl
  · rw [if_neg e] at hj
    rw [if_neg e, ← List.getD_eq_getElem?_getD]
    exact h.last j u hj
theorem LaOk.del {m : Kv} {vs : List Int} (h : LaOk m vs) {n : Nat} (hn : n < 8) : LaOk (m.set n none) vs := by
  refine ⟨h.len, by simp [h.mlen], fun j u hj => ?_⟩
  rw [get_set (by rw [h.mlen]; exact hn)] at hj
  by_cases e : n = j
  · rw [if_pos e] at hj; cases hj
  · rw [if_neg e] at hj
    exact h.last j u hj
section
variable {m : Kv} {x : Opn} {n : Nat}
end
section
variable {ops : Array Oper} {rest : List Oper} {a : Act} {w : World} {Q : Exit → Act → World → Prop}
end
end Go.Proofs.Ytnmpekbkahkapaa
/-
  KvmapKnown over any key map.
-/
namespace Go.Proofs.Ytnmpekbkahkapaa
open Go.RowKit
variable {G : World → Prop}
def kx1 : Opn := ⟨6, 0, 8, 0, 0⟩
def kx2 : Opn := ⟨1, 0, 0, 0, 0⟩
theorem kx1_in : kx1.In := ⟨by decide, by decide, by decide, by decide, by decide, by decide, by decide, by decide, by decide, by decide⟩
theorem kx2_in : kx2.In := ⟨by decide, by decide, by decide, by decide, by decide, by decide, by decide, by decide, by decide, by decide⟩
theorem kx1_eq : ksX ktM kx1 = (ktM, ⟨0, 0⟩, 10) := by decide
theorem kx2_eq : ksX ktM kx2 = (ktM, ⟨0, 0⟩, 10) := by decide
theorem ko1 : kvOnly ktM 1 = kv0 := by decide
theorem ko9 : kvOnly ktM 9 = kv0 := by decide
def kbad : List Int := [1, 0, 0, 0, 0, 0, 0, 0]
theorem kbad_in : RawIn 0 kbad := ⟨by decide, rfl, by decide⟩
theorem kbad_ne : ¬ kvV (kvOf 0 kbad) = kbad := by decide
theorem kd0 : kvD (nb [1, 0]) = (kv0, 4) := by decide +kernel
theorem kd1 : kvD (nb [0, 0]) = (kv0, 4) := by decide +kernel
theorem kd2 : kvD (nb [0]) = (kv0, 0) := by decide +kernel
theorem kd3 : kvD (nb []) = (kv0, 4) := by decide +kernel
set_option maxHeartbeats 8000000
set_option maxRecDepth 100000
theorem KvmapKnown_any (R : KvProg G) (w : World) (hG : G w) : Calls Try.prog 6 #[] w fun e w' => e = .returned (.bool true) ∧ Keeps [] w w' := by
  have HR := Lib.hid R; have HG := Lib.hid hG
  have HK := Lib.hid (Keeps.refl [] w)
  clear R hG
  go_enter Try.func6, Try.ntmps6
  generalize w = w0 at *
  have HK0 := Lib.hid (Keeps.refl [] w0)
  clear HK
  go_wp2_with fail
  refine (show Calls Try.prog 24 #[] w0 _ from two11_any HR.out w0 (HR.out.keep HG.out HK0.out)).mono ?_
  rintro e w1 ⟨rfl, hk⟩
  have HK1 := Lib.hid (HK0.out.trans hk (FSub.refl _ _))
  clear hk HK0
  go_wp2_with fail
  refine (op11_any w1 6 8 0 0).mono ?_
  rintro e w2 ⟨rfl, hk⟩
  have HK2 := Lib.hid (HK1.out.trans hk (FSub.refl _ _))
  clear hk HK1
  go_wp2_with fail
  refine (show Calls Try.prog 12 #[kvVal ktM, Opn.val kx1] w2 _ from HR.out.step w2 ktM kx1 (HR.out.keep HG.out HK2.out) kt_in kx1_in).mono ?_
  rintro e w3 ⟨rfl, hk⟩
  have HK3 := Lib.hid (HK2.out.trans hk (FSub.refl _ _))
  clear hk HK2
  rw [kx1_eq]
  have hka : Keeps [] w3 ((w3.alloc (.cells #[.int .u8 0, .int .u16 0, .int .u16 0, .int .u16 0, .int .u16 0, .int .u16 0, .int .u16 0, .int .u16 0, .int .u16 0] 25)).alloc (.cells #[.int .u8 0, .int .u16 0] 32)) := ((Keeps.refl _ _).alloc _).alloc _
  have hz : (w3.alloc (.cells #[.int .u8 0, .int .u16 0, .int .u16 0, .int .u16 0, .int .u16 0, .int .u16 0, .int .u16 0, .int .u16 0, .int .u16 0] 25)).heap.size = w3.heap.size + 1 := Array.size_push _
  have HB7 := Lib.hid (show ((w3.alloc (.cells #[.int .u8 0, .int .u16 0, .int .u16 0, .int .u16 0, .int .u16 0, .int .u16 0, .int .u16 0, .int .u16 0, .int .u16 0] 25)).alloc (.cells #[.int .u8 0, .int .u16 0] 32)).heap[w3.heap.size]? = some (.cells (kvA 0 []) 25 (0, 0)) from ((Keeps.refl [] _).alloc _).heap (heap_alloc_new w3 _) (by simp))
  have hb8 := heap_alloc_new (w3.alloc (.cells #[.int .u8 0, .int .u16 0, .int .u16 0, .int .u16 0, .int .u16 0, .int .u16 0, .int .u16 0, .int .u16 0, .int .u16 0] 25)) (.cells #[.int .u8 0, .int .u16 0] 32)
  rw [hz] at hb8
  have HB8 := Lib.hid (show ((w3.alloc (.cells #[.int .u8 0, .int .u16 0, .int .u16 0, .int .u16 0, .int .u16 0, .int .u16 0, .int .u16 0, .int .u16 0, .int .u16 0] 25)).alloc (.cells #[.int .u8 0, .int .u16 0] 32)).heap[w3.heap.size + 1]? = some (.cells (ansC ⟨0, 0⟩).toArray 32 (0, 0)) from hb8)
  clear hz hb8
  have HKA := Lib.hid hka
  clear hka
  unfold kvVal
  try simp only [ansC]
  go_wp2_with (first
    | ((with_reducible refine wpList_putK (g := w3.heap.size) (h := (kvH ktM : Int)) (vs := kvV ktM) ?_ ?_ HB7.out ?_); exact rfl; exact rfl))
  intro W hW hk
  have HW := Lib.hid hW
  have HB9 := Lib.hid (hk.heap HB8.out (by simp))
  have HKB := Lib.hid (show Keeps [] w3 W from HKA.out.trans hk (fun q hq => .inr (by simp at hq; omega)))
  clear hW hk HB7 HKA
  clear HB8
  go_wp2_with ((with_reducible refine wpList_putN (g := w3.heap.size + 1) (old := ⟨0, 0⟩) ⟨0, 0⟩ ?_ ?_ HB9.out ?_); exact rfl; exact rfl)
  intro W2 hW2 hk
  have HKC := Lib.hid (show Keeps [] w3 W2 from HKB.out.trans hk (fun q hq => .inr (by simp at hq; omega)))
  clear hW2 hk HB9 HKB HW
  have HK4 := Lib.hid (HK3.out.trans HKC.out (FSub.refl _ _))
  clear HKC HK3
  generalize W2 = w4 at *
  go_wp2_with fail
  refine (show Calls Try.prog 24 #[] w4 _ from two11_any HR.out w4 (HR.out.keep HG.out HK4.out)).mono ?_
  rintro e w5 ⟨rfl, hk⟩
  have HK5 := Lib.hid (HK4.out.trans hk (FSub.refl _ _))
  clear hk HK4
  go_wp2_with fail
  refine (op11_any w5 1 0 0 0).mono ?_
  rintro e w6 ⟨rfl, hk⟩
  have HK6 := Lib.hid (HK5.out.trans hk (FSub.refl _ _))
  clear hk HK5
  go_wp2_with fail
  refine (show Calls Try.prog 12 #[kvVal ktM, Opn.val kx2] w6 _ from HR.out.step w6 ktM kx2 (HR.out.keep HG.out HK6.out) kt_in kx2_in).mono ?_
  rintro e w7 ⟨rfl, hk⟩
  have HK7 := Lib.hid (HK6.out.trans hk (FSub.refl _ _))
  clear hk HK6
  rw [kx2_eq]
  have hka : Keeps [] w7 ((w7.alloc (.cells #[.int .u8 0, .int .u16 0, .int .u16 0, .int .u16 0, .int .u16 0, .int .u16 0, .int .u16 0, .int .u16 0, .int .u16 0] 25)).alloc (.cells #[.int .u8 0, .int .u16 0] 32)) := ((Keeps.refl _ _).alloc _).alloc _
  have hz : (w7.alloc (.cells #[.int .u8 0, .int .u16 0, .int .u16 0, .int .u16 0, .int .u16 0, .int .u16 0, .int .u16 0, .int .u16 0, .int .u16 0] 25)).heap.size = w7.heap.size + 1 := Array.size_push _
  have HB7 := Lib.hid (show ((w7.alloc (.cells #[.int .u8 0, .int .u16 0, .int .u16 0, .int .u16 0, .int .u16 0, .int .u16 0, .int .u16 0, .int .u16 0, .int .u16 0] 25)).alloc (.cells #[.int .u8 0, .int .u16 0] 32)).heap[w7.heap.size]? = some (.cells (kvA 0 []) 25 (0, 0)) from ((Keeps.refl [] _).alloc _).heap (heap_alloc_new w7 _) (by simp))
  have hb8 := heap_alloc_new (w7.alloc (.cells #[.int .u8 0, .int .u16 0, .int .u16 0, .int .u16 0, .int .u16 0, .int .u16 0, .int .u16 0, .int .u16 0, .int .u16 0] 25)) (.cells #[.int .u8 0, .int .u16 0] 32)
  rw [hz] at hb8
  have HB8 := Lib.hid (show ((w7.alloc (.cells #[.int .u8 0, .int .u16 0, .int .u16 0, .int .u16 0, .int .u16 0, .int .u16 0, .int .u16 0, .int .u16 0, .int .u16 0] 25)).alloc (.cells #[.int .u8 0, .int .u16 0] 32)).heap[w7.heap.size + 1]? = some (.cells (ansC ⟨0, 0⟩).toArray 32 (0, 0)) from hb8)
  clear hz hb8
  have HKA := Lib.hid hka
  clear hka
  unfold kvVal
  try simp only [ansC]
  go_wp2_with (first
    | ((with_reducible refine wpList_putK (g := w7.heap.size) (h := (kvH ktM : Int)) (vs := kvV ktM) ?_ ?_ HB7.out ?_); exact rfl; exact rfl))
  intro W hW hk
  have HW := Lib.hid hW
  have HB9 := Lib.hid (hk.heap HB8.out (by simp))
  have HKB := Lib.hid (show Keeps [] w7 W from HKA.out.trans hk (fun q hq => .inr (by simp at hq; omega)))
  clear hW hk HB7 HKA
  clear HB8
  go_wp2_with ((with_reducible refine wpList_putN (g := w7.heap.size + 1) (old := ⟨0, 0⟩) ⟨0, 0⟩ ?_ ?_ HB9.out ?_); exact rfl; exact rfl)
  intro W2 hW2 hk
  have HKC := Lib.hid (show Keeps [] w7 W2 from HKB.out.trans hk (fun q hq => .inr (by simp at hq; omega)))
  clear hW2 hk HB9 HKB HW
  have HK8 := Lib.hid (HK7.out.trans HKC.out (FSub.refl _ _))
  clear HKC HK7
  generalize W2 = w8 at *
  go_wp2_with fail
  refine (show Calls Try.prog 19 #[.string (bs [1, 0])] w8 _ from HR.out.dec w8 [1, 0] (HR.out.keep HG.out HK8.out) (by decide)).mono ?_
  rintro e w9 ⟨rfl, hk⟩
  have HK9 := Lib.hid (HK8.out.trans hk (FSub.refl _ _))
  clear hk HK8
  rw [kd0]
  have hka : Keeps [] w9 (w9.alloc (.cells #[.int .u8 0, .int .u16 0, .int .u16 0, .int .u16 0, .int .u16 0, .int .u16 0, .int .u16 0, .int .u16 0, .int .u16 0] 25)) := (Keeps.refl _ _).alloc _
  have HB7 := Lib.hid (show (w9.alloc (.cells #[.int .u8 0, .int .u16 0, .int .u16 0, .int .u16 0, .int .u16 0, .int .u16 0, .int .u16 0, .int .u16 0, .int .u16 0] 25)).heap[w9.heap.size]? = some (.cells (kvA 0 []) 25 (0, 0)) from heap_alloc_new w9 (.cells (kvA 0 []) 25))
  have HKA := Lib.hid hka
  clear hka
  unfold kvVal
  try simp only [ansC]
  go_wp2_with (first
    | ((with_reducible refine wpList_putK (g := w9.heap.size) (h := (kvH kv0 : Int)) (vs := kvV kv0) ?_ ?_ HB7.out ?_); exact rfl; exact rfl))
  intro W hW hk
  have HW := Lib.hid hW
  have HKB := Lib.hid (show Keeps [] w9 W from HKA.out.trans hk (fun q hq => .inr (by simp at hq; omega)))
  clear hW hk HB7 HKA
  have HK10 := Lib.hid (HK9.out.trans HKB.out (FSub.refl _ _))
  try clear HW
  clear HKB HK9
  generalize W = w10 at *
  go_wp2_with fail
  refine (show Calls Try.prog 19 #[.string (bs [0, 0])] w10 _ from HR.out.dec w10 [0, 0] (HR.out.keep HG.out HK10.out) (by decide)).mono ?_
  rintro e w11 ⟨rfl, hk⟩
  have HK11 := Lib.hid (HK10.out.trans hk (FSub.refl _ _))
  clear hk HK10
  rw [kd1]
  have hka : Keeps [] w11 (w11.alloc (.cells #[.int .u8 0, .int .u16 0, .int .u16 0, .int .u16 0, .int .u16 0, .int .u16 0, .int .u16 0, .int .u16 0, .int .u16 0] 25)) := (Keeps.refl _ _).alloc _
  have HB7 := Lib.hid (show (w11.alloc (.cells #[.int .u8 0, .int .u16 0, .int .u16 0, .int .u16 0, .int .u16 0, .int .u16 0, .int .u16 0, .int .u16 0, .int .u16 0] 25)).heap[w11.heap.size]? = some (.cells (kvA 0 []) 25 (0, 0)) from heap_alloc_new w11 (.cells (kvA 0 []) 25))
  have HKA := Lib.hid hka
  clear hka
  unfold kvVal
  try simp only [ansC]
  go_wp2_with (first
    | ((with_reducible refine wpList_putK (g := w11.heap.size) (h := (kvH kv0 : Int)) (vs := kvV kv0) ?_ ?_ HB7.out ?_); exact rfl; exact rfl))
  intro W hW hk
  have HW := Lib.hid hW
  have HKB := Lib.hid (show Keeps [] w11 W from HKA.out.trans hk (fun q hq => .inr (by simp at hq; omega)))
  clear hW hk HB7 HKA
  have HK12 := Lib.hid (HK11.out.trans HKB.out (FSub.refl _ _))
  try clear HW
  clear HKB HK11
  generalize W = w12 at *
  go_wp2_with fail
  refine (show Calls Try.prog 19 #[.string (bs [0])] w12 _ from HR.out.dec w12 [0] (HR.out.keep HG.out HK12.out) (by decide)).mono ?_
  rintro e w13 ⟨rfl, hk⟩
  have HK13 := Lib.hid (HK12.out.trans hk (FSub.refl _ _))
  clear hk HK12
  rw [kd2]
  have hka : Keeps [] w13 (w13.alloc (.cells #[.int .u8 0, .int .u16 0, .int .u16 0, .int .u16 0, .int .u16 0, .int .u16 0, .int .u16 0, .int .u16 0, .int .u16 0] 25)) := (Keeps.refl _ _).alloc _
  have HB7 := Lib.hid (show (w13.alloc (.cells #[.int .u8 0, .int .u16 0, .int .u16 0, .int .u16 0, .int .u16 0, .int .u16 0, .int .u16 0, .int .u16 0, .int .u16 0] 25)).heap[w13.heap.size]? = some (.cells (kvA 0 []) 25 (0, 0)) from heap_alloc_new w13 (.cells (kvA 0 []) 25))
  have HKA := Lib.hid hka
  clear hka
  unfold kvVal
  try simp only [ansC]
  go_wp2_with (first
    | ((with_reducible refine wpList_putK (g := w13.heap.size) (h := (kvH kv0 : Int)) (vs := kvV kv0) ?_ ?_ HB7.out ?_); exact rfl; exact rfl))
  intro W hW hk
  have HW := Lib.hid hW
  have HKB := Lib.hid (show Keeps [] w13 W from HKA.out.trans hk (fun q hq => .inr (by simp at hq; omega)))
  clear hW hk HB7 HKA
  obtain ⟨q11, hq11⟩ : ∃ q, q = w13.heap.size := ⟨_, rfl⟩
  have HK14 := Lib.hid (HK13.out.trans HKB.out (FSub.refl _ _))
  rw [← hq11] at HW ⊢
  have Fq11_14 := HW
  clear hq11
  try clear HW
  clear HKB HK13
  generalize W = w14 at *
  go_wp2_with fail
  refine (show Calls Try.prog 19 #[.string (bs [])] w14 _ from HR.out.dec w14 [] (HR.out.keep HG.out HK14.out) (by decide)).mono ?_
  rintro e w15 ⟨rfl, hk⟩
  have HK15 := Lib.hid (HK14.out.trans hk (FSub.refl _ _))
  have Fq11_15 := Lib.hid (hk.heap Fq11_14.out (by simp))
  clear hk HK14
  rw [kd3]
  have hka : Keeps [] w15 (w15.alloc (.cells #[.int .u8 0, .int .u16 0, .int .u16 0, .int .u16 0, .int .u16 0, .int .u16 0, .int .u16 0, .int .u16 0, .int .u16 0] 25)) := (Keeps.refl _ _).alloc _
  have HB7 := Lib.hid (show (w15.alloc (.cells #[.int .u8 0, .int .u16 0, .int .u16 0, .int .u16 0, .int .u16 0, .int .u16 0, .int .u16 0, .int .u16 0, .int .u16 0] 25)).heap[w15.heap.size]? = some (.cells (kvA 0 []) 25 (0, 0)) from heap_alloc_new w15 (.cells (kvA 0 []) 25))
  have HKA := Lib.hid hka
  clear hka
  unfold kvVal
  try simp only [ansC]
  go_wp2_with (first
    | ((with_reducible refine wpList_putK (g := w15.heap.size) (h := (kvH kv0 : Int)) (vs := kvV kv0) ?_ ?_ HB7.out ?_); exact rfl; exact rfl))
  intro W hW hk
  have HW := Lib.hid hW
  have HKB := Lib.hid (show Keeps [] w15 W from HKA.out.trans hk (fun q hq => .inr (by simp at hq; omega)))
  clear hW hk HB7 HKA
  have HK16 := Lib.hid (HK15.out.trans HKB.out (FSub.refl _ _))
  have Fq11_16 := Lib.hid (HKB.out.heap Fq11_15.out (by simp))
  try clear HW
  clear HKB HK15
  generalize W = w16 at *
  go_wp2_with fail
  refine (show Calls Try.prog 24 #[] w16 _ from two11_any HR.out w16 (HR.out.keep HG.out HK16.out)).mono ?_
  rintro e w17 ⟨rfl, hk⟩
  have HK17 := Lib.hid (HK16.out.trans hk (FSub.refl _ _))
  have Fq11_17 := Lib.hid (hk.heap Fq11_16.out (by simp))
  clear hk HK16
  go_wp2_with fail
  refine (show Calls Try.prog 23 #[kvVal ktM, .int .u8 2] w17 _ from HR.out.only w17 ktM 2 (HR.out.keep HG.out HK17.out) kt_in (by decide)).mono ?_
  rintro e w18 ⟨rfl, hk⟩
  have HK18 := Lib.hid (HK17.out.trans hk (FSub.refl _ _))
  have Fq11_18 := Lib.hid (hk.heap Fq11_17.out (by simp))
  clear hk HK17
  have hka : Keeps [] w18 (w18.alloc (.cells #[.int .u8 0, .int .u16 0, .int .u16 0, .int .u16 0, .int .u16 0, .int .u16 0, .int .u16 0, .int .u16 0, .int .u16 0] 25)) := (Keeps.refl _ _).alloc _
  have HB7 := Lib.hid (show (w18.alloc (.cells #[.int .u8 0, .int .u16 0, .int .u16 0, .int .u16 0, .int .u16 0, .int .u16 0, .int .u16 0, .int .u16 0, .int .u16 0] 25)).heap[w18.heap.size]? = some (.cells (kvA 0 []) 25 (0, 0)) from heap_alloc_new w18 (.cells (kvA 0 []) 25))
  have HKA := Lib.hid hka
  clear hka
  unfold kvVal
  try simp only [ansC]
  go_wp2_with (first
    | ((with_reducible refine wpList_putK (g := w18.heap.size) (h := (kvH (kvOnly ktM 2) : Int)) (vs := kvV (kvOnly ktM 2)) ?_ ?_ HB7.out ?_); exact rfl; exact rfl))
  intro W hW hk
  have HW := Lib.hid hW
  have HKB := Lib.hid (show Keeps [] w18 W from HKA.out.trans hk (fun q hq => .inr (by simp at hq; omega)))
  clear hW hk HB7 HKA
  obtain ⟨q15, hq15⟩ : ∃ q, q = w18.heap.size := ⟨_, rfl⟩
  have HK19 := Lib.hid (HK18.out.trans HKB.out (FSub.refl _ _))
  have Fq11_19 := Lib.hid (HKB.out.heap Fq11_18.out (by simp))
  rw [← hq15] at HW ⊢
  have Fq15_19 := HW
  clear hq15
  try clear HW
  clear HKB HK18
  generalize W = w19 at *
  obtain ⟨S, hS⟩ : ∃ S : World → Prop, S = fun y => Keeps [] w19 y := ⟨_, rfl⟩
  have HSE := Lib.hid hS
  have hSD : S w19.drew := by rw [hS]; exact (Keeps.refl _ _).drew
  have HSK := Lib.hid (fun (w' : World) (hh : S w') => show ∃ t, w'.heap[q11]? = some (.cells (kvA (kvH kv0) (kvV kv0)) t (0, 0)) from by rw [hS] at hh; exact ⟨_, hh.heap Fq11_19.out (by simp)⟩)
  have HC0 := Lib.hid (fun (w' : World) (hh : S w') => show w'.cell? ⟨q15, 0, none⟩ = some (.int .u8 4) from by rw [hS] at hh; exact hh.cell (kv_byte Fq15_19.out) (by simp))
  have HC3 := Lib.hid (fun (w' : World) (hh : S w') => show w'.cell? ⟨q15, 3, none⟩ = some (.int .u16 258) from by rw [hS] at hh; exact hh.cell (kv_cell (k := 2) Fq15_19.out (by decide)) (by simp))
  have HC1 := Lib.hid (fun (w' : World) (hh : S w') => show w'.cell? ⟨q15, 1, none⟩ = some (.int .u16 0) from by rw [hS] at hh; exact hh.cell (kv_cell (k := 0) Fq15_19.out (by decide)) (by simp))
  have HS0 := Lib.hid (show Keeps [] w19 w19.drew from (Keeps.refl _ _).drew)
  clear hS
  go_wp2_with fail
  refine wp_region_noPanic ?_
  refine wp_region_held_drew (S := S) (by kernel_rfl) hSD (fun hHeld => ?_)
  apply wpAnyH_take (i := 0)
  · simp only [List.getElem?_toArray]; rfl
  · kernel_rfl
  · kernel_rfl
  · kernel_rfl
  · exact fun _ _ _ h => h
  · exact Or.inl ⟨by rfl, by intro w hSw; go_simp; try with_reducible rfl⟩
  · assumption
  try simp only [Act.put, List.setIfInBounds_toArray, List.set_cons_zero, List.set_cons_succ]
  apply wpAnyH_take (i := 1)
  · simp only [List.getElem?_toArray]; rfl
  · kernel_rfl
  · kernel_rfl
  · kernel_rfl
  · exact fun _ _ _ h => h
  · exact Or.inl ⟨by rfl, by intro w hSw; go_simp; try with_reducible rfl⟩
  · assumption
  try simp only [Act.put, List.setIfInBounds_toArray, List.set_cons_zero, List.set_cons_succ]
  apply wpAnyH_take (i := 2)
  · simp only [List.getElem?_toArray]; rfl
  · kernel_rfl
  · kernel_rfl
  · kernel_rfl
  · exact fun _ _ _ h => h
  · exact Or.inl ⟨by rfl, by intro w hSw; go_simp; try with_reducible rfl⟩
  · assumption
  try simp only [Act.put, List.setIfInBounds_toArray, List.set_cons_zero, List.set_cons_succ]
  apply wpAnyH_take (i := 3)
  · simp only [List.getElem?_toArray]; rfl
  · kernel_rfl
  · kernel_rfl
  · kernel_rfl
  · exact fun _ _ _ h => h
  · exact Or.inl ⟨by rfl, by intro w hSw; go_simp; try with_reducible rfl⟩
  · assumption
  try simp only [Act.put, List.setIfInBounds_toArray, List.set_cons_zero, List.set_cons_succ]
  apply wpAnyH_take (i := 4)
  · simp only [List.getElem?_toArray]; rfl
  · kernel_rfl
  · kernel_rfl
  · kernel_rfl
  · exact fun _ _ _ h => h
  · exact Or.inl ⟨by rfl, by intro w hSw; go_simp; try with_reducible rfl⟩
  · assumption
  try simp only [Act.put, List.setIfInBounds_toArray, List.set_cons_zero, List.set_cons_succ]
  apply wpAnyH_take (i := 5)
  · simp only [List.getElem?_toArray]; rfl
  · kernel_rfl
  · kernel_rfl
  · kernel_rfl
  · exact fun _ _ _ h => h
  · exact Or.inl ⟨by rfl, by intro w hSw; go_simp; try with_reducible rfl⟩
  · assumption
  try simp only [Act.put, List.setIfInBounds_toArray, List.set_cons_zero, List.set_cons_succ]
  apply wpAnyH_take (i := 6)
  · simp only [List.getElem?_toArray]; rfl
  · kernel_rfl
  · kernel_rfl
  · kernel_rfl
  · exact fun _ _ _ h => h
  · exact Or.inl ⟨by rfl, by intro w hSw; go_simp; try with_reducible rfl⟩
  · assumption
  try simp only [Act.put, List.setIfInBounds_toArray, List.set_cons_zero, List.set_cons_succ]
  apply wpAnyH_take (i := 7)
  · simp only [List.getElem?_toArray]; rfl
  · kernel_rfl
  · kernel_rfl
  · kernel_rfl
  · exact fun _ _ _ h => h
  · exact Or.inl ⟨by rfl, by intro w hSw; go_simp; try with_reducible rfl⟩
  · assumption
  try simp only [Act.put, List.setIfInBounds_toArray, List.set_cons_zero, List.set_cons_succ]
  apply wpAnyH_take (i := 8)
  · simp only [List.getElem?_toArray]; rfl
  · kernel_rfl
  · kernel_rfl
  · kernel_rfl
  · exact fun _ _ _ h => h
  · exact Or.inl ⟨by rfl, by intro w hSw; go_simp; try with_reducible rfl⟩
  · assumption
  try simp only [Act.put, List.setIfInBounds_toArray, List.set_cons_zero, List.set_cons_succ]
  apply wpAnyH_take (i := 9)
  · simp only [List.getElem?_toArray]; rfl
  · kernel_rfl
  · kernel_rfl
  · kernel_rfl
  · exact fun _ _ _ h => h
  · exact Or.inl ⟨by rfl, by intro w hSw; go_simp; try with_reducible rfl⟩
  · assumption
  try simp only [Act.put, List.setIfInBounds_toArray, List.set_cons_zero, List.set_cons_succ]
  apply wpAnyH_take (i := 10)
  · simp only [List.getElem?_toArray]; rfl
  · kernel_rfl
  · kernel_rfl
  · kernel_rfl
  · exact fun _ _ _ h => h
  · exact Or.inl ⟨by rfl, by intro w hSw; go_simp; try with_reducible rfl⟩
  · assumption
  try simp only [Act.put, List.setIfInBounds_toArray, List.set_cons_zero, List.set_cons_succ]
  apply wpAnyH_take (i := 11)
  · simp only [List.getElem?_toArray]; rfl
  · kernel_rfl
  · kernel_rfl
  · kernel_rfl
  · exact fun _ _ _ h => h
  · exact Or.inl ⟨by rfl, by intro w hSw; go_simp; try with_reducible rfl⟩
  · assumption
  try simp only [Act.put, List.setIfInBounds_toArray, List.set_cons_zero, List.set_cons_succ]
  apply wpAnyH_take (i := 12)
  · simp only [List.getElem?_toArray]; rfl
  · kernel_rfl
  · kernel_rfl
  · kernel_rfl
  · exact fun _ _ _ h => h
  · exact Or.inl ⟨by rfl, by intro w hSw; go_simp; try with_reducible rfl⟩
  · assumption
  try simp only [Act.put, List.setIfInBounds_toArray, List.set_cons_zero, List.set_cons_succ]
  apply wpAnyH_take (i := 13)
  · simp only [List.getElem?_toArray]; rfl
  · kernel_rfl
  · kernel_rfl
  · kernel_rfl
  · exact fun _ _ _ h => h
  · exact Or.inl ⟨by rfl, by intro w hSw; go_simp; try with_reducible rfl⟩
  · assumption
  try simp only [Act.put, List.setIfInBounds_toArray, List.set_cons_zero, List.set_cons_succ]
  apply wpAnyH_take (i := 14)
  · simp only [List.getElem?_toArray]; rfl
  · kernel_rfl
  · kernel_rfl
  · kernel_rfl
  · exact fun _ _ _ h => h
  · exact Or.inl ⟨by rfl, by intro w hSw; go_simp; try with_reducible rfl⟩
  · assumption
  try simp only [Act.put, List.setIfInBounds_toArray, List.set_cons_zero, List.set_cons_succ]
  apply wpAnyH_take (i := 15)
  · simp only [List.getElem?_toArray]; rfl
  · kernel_rfl
  · kernel_rfl
  · kernel_rfl
  · exact fun _ _ _ h => h
  · exact yields_loadK (by rfl) (.tmp 11) rfl q11 rfl (kvH kv0) (kvV kv0) HSK.out
  · assumption
  try simp only [Act.put, List.setIfInBounds_toArray, List.set_cons_zero, List.set_cons_succ]
  apply wpAnyH_ready (rs := [16])
  · kernel_rfl
  · simp
  apply AllReadyH.cons (hs := AllReadyH.nil)
  · simp only [List.getElem?_toArray]; rfl
  intro K hK
  rw [if_pos (by rfl)]
  refine wp_call9 26 _ _ rfl [] rfl Try.func26 (by kernel_rfl) (by kernel_rfl) ((HR.out.new _ (HR.out.keep HG.out (HK19.out.trans HS0.out (FSub.refl _ _)))).mono ?_)
  rintro e X1 ⟨rfl, hk⟩
  refine ⟨_, rfl, ?_⟩
  have HS1 := Lib.hid (HS0.out.trans hk (FSub.refl _ _))
  clear hk HS0
  refine hK.out _ _ ?_ (fun hHeld => ?_)
  · exact (by rw [HSE.out]; exact HS1.out)
  clear hK K
  try simp only [Act.put, List.setIfInBounds_toArray, List.set_cons_zero, List.set_cons_succ]
  apply wpAnyH_take (i := 17)
  · simp only [List.getElem?_toArray]; rfl
  · kernel_rfl
  · kernel_rfl
  · kernel_rfl
  · exact fun _ _ _ h => h
  · exact yields_eqK (by rfl) (.tmp 63) (.tmp 64) _ rfl (h := (kvH kv0 : Int)) (h2 := (kvH kv0 : Int)) (vs := kvV kv0) (us := kvV kv0) rfl rfl
  · assumption
  try simp only [Act.put, List.setIfInBounds_toArray, List.set_cons_zero, List.set_cons_succ]
  rw [kvEq_same]
  apply wpAnyH_take (i := 18)
  · simp only [List.getElem?_toArray]; rfl
  · kernel_rfl
  · kernel_rfl
  · kernel_rfl
  · exact fun _ _ _ h => h
  · exact Or.inl ⟨by rfl, by intro w hSw; go_simp; try with_reducible rfl⟩
  · assumption
  try simp only [Act.put, List.setIfInBounds_toArray, List.set_cons_zero, List.set_cons_succ]
  apply wpAnyH_take (i := 19)
  · simp only [List.getElem?_toArray]; rfl
  · kernel_rfl
  · kernel_rfl
  · kernel_rfl
  · exact fun _ _ _ h => h
  · exact Or.inl ⟨by rfl, by intro w hSw; go_simp; try with_reducible rfl⟩
  · assumption
  try simp only [Act.put, List.setIfInBounds_toArray, List.set_cons_zero, List.set_cons_succ]
  apply wpAnyH_take (i := 20)
  · simp only [List.getElem?_toArray]; rfl
  · kernel_rfl
  · kernel_rfl
  · kernel_rfl
  · exact fun _ _ _ h => h
  · exact Or.inl ⟨by rfl, by intro w hSw; go_simp; try with_reducible rfl⟩
  · assumption
  try simp only [Act.put, List.setIfInBounds_toArray, List.set_cons_zero, List.set_cons_succ]
  apply wpAnyH_take (i := 21)
  · simp only [List.getElem?_toArray]; rfl
  · kernel_rfl
  · kernel_rfl
  · kernel_rfl
  · exact fun _ _ _ h => h
  · exact Or.inl ⟨by rfl, by intro w hSw; go_simp; try with_reducible rfl⟩
  · assumption
  try simp only [Act.put, List.setIfInBounds_toArray, List.set_cons_zero, List.set_cons_succ]
  apply wpAnyH_take (i := 22)
  · simp only [List.getElem?_toArray]; rfl
  · kernel_rfl
  · kernel_rfl
  · kernel_rfl
  · exact fun _ _ _ h => h
  · exact Or.inl ⟨by rfl, by intro w hSw; go_simp; try with_reducible rfl⟩
  · assumption
  try simp only [Act.put, List.setIfInBounds_toArray, List.set_cons_zero, List.set_cons_succ]
  apply wpAnyH_take (i := 23)
  · simp only [List.getElem?_toArray]; rfl
  · kernel_rfl
  · kernel_rfl
  · kernel_rfl
  · exact fun _ _ _ h => h
  · exact Or.inl ⟨by rfl, by intro w hSw; go_simp; try with_reducible rfl⟩
  · assumption
  try simp only [Act.put, List.setIfInBounds_toArray, List.set_cons_zero, List.set_cons_succ]
  apply wpAnyH_take (i := 24)
  · simp only [List.getElem?_toArray]; rfl
  · kernel_rfl
  · kernel_rfl
  · kernel_rfl
  · exact fun _ _ _ h => h
  · exact Or.inl ⟨by rfl, by intro w hSw; go_simp; try with_reducible rfl⟩
  · assumption
  try simp only [Act.put, List.setIfInBounds_toArray, List.set_cons_zero, List.set_cons_succ]
  apply wpAnyH_take (i := 25)
  · simp only [List.getElem?_toArray]; rfl
  · kernel_rfl
  · kernel_rfl
  · kernel_rfl
  · exact fun _ _ _ h => h
  · exact Or.inl ⟨by rfl, by intro w hSw; go_simp; try with_reducible rfl⟩
  · assumption
  try simp only [Act.put, List.setIfInBounds_toArray, List.set_cons_zero, List.set_cons_succ]
  apply wpAnyH_take (i := 26)
  · simp only [List.getElem?_toArray]; rfl
  · kernel_rfl
  · kernel_rfl
  · kernel_rfl
  · exact fun _ _ _ h => h
  · exact Or.inl ⟨by rfl, by intro w hSw; go_simp; try with_reducible rfl⟩
  · assumption
  try simp only [Act.put, List.setIfInBounds_toArray, List.set_cons_zero, List.set_cons_succ]
  apply wpAnyH_take (i := 27)
  · simp only [List.getElem?_toArray]; rfl
  · kernel_rfl
  · kernel_rfl
  · kernel_rfl
  · exact fun _ _ _ h => h
  · exact Or.inl ⟨by rfl, by intro w hSw; go_simp; try with_reducible rfl⟩
  · assumption
  try simp only [Act.put, List.setIfInBounds_toArray, List.set_cons_zero, List.set_cons_succ]
  apply wpAnyH_take (i := 28)
  · simp only [List.getElem?_toArray]; rfl
  · kernel_rfl
  · kernel_rfl
  · kernel_rfl
  · exact fun _ _ _ h => h
  · exact Or.inl ⟨by rfl, by intro w hSw; go_simp; try with_reducible rfl⟩
  · assumption
  try simp only [Act.put, List.setIfInBounds_toArray, List.set_cons_zero, List.set_cons_succ]
  apply wpAnyH_take (i := 29)
  · simp only [List.getElem?_toArray]; rfl
  · kernel_rfl
  · kernel_rfl
  · kernel_rfl
  · exact fun _ _ _ h => h
  · exact Or.inl ⟨by rfl, by intro w hSw; have q0 := HC0.out w hSw; go_simp; try with_reducible rfl⟩
  · assumption
  try simp only [Act.put, List.setIfInBounds_toArray, List.set_cons_zero, List.set_cons_succ]
  apply wpAnyH_take (i := 30)
  · simp only [List.getElem?_toArray]; rfl
  · kernel_rfl
  · kernel_rfl
  · kernel_rfl
  · exact fun _ _ _ h => h
  · exact Or.inl ⟨by rfl, by intro w hSw; go_simp; try with_reducible rfl⟩
  · assumption
  try simp only [Act.put, List.setIfInBounds_toArray, List.set_cons_zero, List.set_cons_succ]
  apply wpAnyH_take (i := 31)
  · simp only [List.getElem?_toArray]; rfl
  · kernel_rfl
  · kernel_rfl
  · kernel_rfl
  · exact fun _ _ _ h => h
  · exact Or.inl ⟨by rfl, by intro w hSw; go_simp; try with_reducible rfl⟩
  · assumption
  try simp only [Act.put, List.setIfInBounds_toArray, List.set_cons_zero, List.set_cons_succ]
  apply wpAnyH_take (i := 32)
  · simp only [List.getElem?_toArray]; rfl
  · kernel_rfl
  · kernel_rfl
  · kernel_rfl
  · exact fun _ _ _ h => h
  · exact Or.inl ⟨by rfl, by intro w hSw; go_simp; try with_reducible rfl⟩
  · assumption
  try simp only [Act.put, List.setIfInBounds_toArray, List.set_cons_zero, List.set_cons_succ]
  apply wpAnyH_take (i := 33)
  · simp only [List.getElem?_toArray]; rfl
  · kernel_rfl
  · kernel_rfl
  · kernel_rfl
  · exact fun _ _ _ h => h
  · exact Or.inl ⟨by rfl, by intro w hSw; go_simp; try with_reducible rfl⟩
  · assumption
  try simp only [Act.put, List.setIfInBounds_toArray, List.set_cons_zero, List.set_cons_succ]
  apply wpAnyH_take (i := 34)
  · simp only [List.getElem?_toArray]; rfl
  · kernel_rfl
  · kernel_rfl
  · kernel_rfl
  · exact fun _ _ _ h => h
  · exact Or.inl ⟨by rfl, by intro w hSw; go_simp; try with_reducible rfl⟩
  · assumption
  try simp only [Act.put, List.setIfInBounds_toArray, List.set_cons_zero, List.set_cons_succ]
  apply wpAnyH_take (i := 35)
  · simp only [List.getElem?_toArray]; rfl
  · kernel_rfl
  · kernel_rfl
  · kernel_rfl
  · exact fun _ _ _ h => h
  · exact Or.inl ⟨by rfl, by intro w hSw; have q0 := HC3.out w hSw; go_simp; try with_reducible rfl⟩
  · assumption
  try simp only [Act.put, List.setIfInBounds_toArray, List.set_cons_zero, List.set_cons_succ]
  apply wpAnyH_take (i := 36)
  · simp only [List.getElem?_toArray]; rfl
  · kernel_rfl
  · kernel_rfl
  · kernel_rfl
  · exact fun _ _ _ h => h
  · exact Or.inl ⟨by rfl, by intro w hSw; go_simp; try with_reducible rfl⟩
  · assumption
  try simp only [Act.put, List.setIfInBounds_toArray, List.set_cons_zero, List.set_cons_succ]
  apply wpAnyH_take (i := 37)
  · simp only [List.getElem?_toArray]; rfl
  · kernel_rfl
  · kernel_rfl
  · kernel_rfl
  · exact fun _ _ _ h => h
  · exact Or.inl ⟨by rfl, by intro w hSw; go_simp; try with_reducible rfl⟩
  · assumption
  try simp only [Act.put, List.setIfInBounds_toArray, List.set_cons_zero, List.set_cons_succ]
  apply wpAnyH_take (i := 38)
  · simp only [List.getElem?_toArray]; rfl
  · kernel_rfl
  · kernel_rfl
  · kernel_rfl
  · exact fun _ _ _ h => h
  · exact Or.inl ⟨by rfl, by intro w hSw; go_simp; try with_reducible rfl⟩
  · assumption
  try simp only [Act.put, List.setIfInBounds_toArray, List.set_cons_zero, List.set_cons_succ]
  apply wpAnyH_take (i := 39)
  · simp only [List.getElem?_toArray]; rfl
  · kernel_rfl
  · kernel_rfl
  · kernel_rfl
  · exact fun _ _ _ h => h
  · exact Or.inl ⟨by rfl, by intro w hSw; go_simp; try with_reducible rfl⟩
  · assumption
  try simp only [Act.put, List.setIfInBounds_toArray, List.set_cons_zero, List.set_cons_succ]
  apply wpAnyH_take (i := 40)
  · simp only [List.getElem?_toArray]; rfl
  · kernel_rfl
  · kernel_rfl
  · kernel_rfl
  · exact fun _ _ _ h => h
  · exact Or.inl ⟨by rfl, by intro w hSw; go_simp; try with_reducible rfl⟩
  · assumption
  try simp only [Act.put, List.setIfInBounds_toArray, List.set_cons_zero, List.set_cons_succ]
  apply wpAnyH_take (i := 41)
  · simp only [List.getElem?_toArray]; rfl
  · kernel_rfl
  · kernel_rfl
  · kernel_rfl
  · exact fun _ _ _ h => h
  · exact Or.inl ⟨by rfl, by intro w hSw; have q0 := HC1.out w hSw; go_simp; try with_reducible rfl⟩
  · assumption
  try simp only [Act.put, List.setIfInBounds_toArray, List.set_cons_zero, List.set_cons_succ]
  apply wpAnyH_take (i := 42)
  · simp only [List.getElem?_toArray]; rfl
  · kernel_rfl
  · kernel_rfl
  · kernel_rfl
  · exact fun _ _ _ h => h
  · exact Or.inl ⟨by rfl, by intro w hSw; go_simp; try with_reducible rfl⟩
  · assumption
  try simp only [Act.put, List.setIfInBounds_toArray, List.set_cons_zero, List.set_cons_succ]
  apply wpAnyH_take (i := 43)
  · simp only [List.getElem?_toArray]; rfl
  · kernel_rfl
  · kernel_rfl
  · kernel_rfl
  · exact fun _ _ _ h => h
  · exact Or.inl ⟨by rfl, by intro w hSw; go_simp; try with_reducible rfl⟩
  · assumption
  try simp only [Act.put, List.setIfInBounds_toArray, List.set_cons_zero, List.set_cons_succ]
  apply wpAnyH_take (i := 44)
  · simp only [List.getElem?_toArray]; rfl
  · kernel_rfl
  · kernel_rfl
  · kernel_rfl
  · exact fun _ _ _ h => h
  · exact Or.inl ⟨by rfl, by intro w hSw; go_simp; try with_reducible rfl⟩
  · assumption
  try simp only [Act.put, List.setIfInBounds_toArray, List.set_cons_zero, List.set_cons_succ]
  apply wpAnyH_ready (rs := [45])
  · kernel_rfl
  · simp
  apply AllReadyH.cons (hs := AllReadyH.nil)
  · simp only [List.getElem?_toArray]; rfl
  intro K hK
  rw [if_pos (by rfl)]
  refine wp_call9 24 _ _ rfl [] rfl Try.func24 (by kernel_rfl) (by kernel_rfl) ((two11_any HR.out _ (HR.out.keep HG.out (HK19.out.trans HS1.out (FSub.refl _ _)))).mono ?_)
  rintro e X2 ⟨rfl, hk⟩
  refine ⟨_, rfl, ?_⟩
  have HS2 := Lib.hid (HS1.out.trans hk (FSub.refl _ _))
  clear hk HS1
  refine hK.out _ _ ?_ (fun hHeld => ?_)
  · exact (by rw [HSE.out]; exact HS2.out)
  clear hK K
  try simp only [Act.put, List.setIfInBounds_toArray, List.set_cons_zero, List.set_cons_succ]
  apply wpAnyH_ready (rs := [46])
  · kernel_rfl
  · simp
  apply AllReadyH.cons (hs := AllReadyH.nil)
  · simp only [List.getElem?_toArray]; rfl
  intro K hK
  rw [if_pos (by rfl)]
  refine wp_call9 23 _ _ rfl [kvVal ktM, .int .u8 1] rfl Try.func23 (by kernel_rfl) (by kernel_rfl) ((HR.out.only _ ktM 1 (HR.out.keep HG.out (HK19.out.trans HS2.out (FSub.refl _ _))) kt_in (by decide)).mono ?_)
  rintro e X3 ⟨rfl, hk⟩
  refine ⟨_, rfl, ?_⟩
  rw [ko1]
  have HS3 := Lib.hid (HS2.out.trans hk (FSub.refl _ _))
  clear hk HS2
  refine hK.out _ _ ?_ (fun hHeld => ?_)
  · exact (by rw [HSE.out]; exact HS3.out)
  clear hK K
  try simp only [Act.put, List.setIfInBounds_toArray, List.set_cons_zero, List.set_cons_succ]
  apply wpAnyH_ready (rs := [47])
  · kernel_rfl
  · simp
  apply AllReadyH.cons (hs := AllReadyH.nil)
  · simp only [List.getElem?_toArray]; rfl
  intro K hK
  rw [if_pos (by rfl)]
  refine wp_call9 26 _ _ rfl [] rfl Try.func26 (by kernel_rfl) (by kernel_rfl) ((HR.out.new _ (HR.out.keep HG.out (HK19.out.trans HS3.out (FSub.refl _ _)))).mono ?_)
  rintro e X4 ⟨rfl, hk⟩
  refine ⟨_, rfl, ?_⟩
  have HS4 := Lib.hid (HS3.out.trans hk (FSub.refl _ _))
  clear hk HS3
  refine hK.out _ _ ?_ (fun hHeld => ?_)
  · exact (by rw [HSE.out]; exact HS4.out)
  clear hK K
  try simp only [Act.put, List.setIfInBounds_toArray, List.set_cons_zero, List.set_cons_succ]
  apply wpAnyH_take (i := 48)
  · simp only [List.getElem?_toArray]; rfl
  · kernel_rfl
  · kernel_rfl
  · kernel_rfl
  · exact fun _ _ _ h => h
  · exact yields_eqK (by rfl) (.tmp 94) (.tmp 95) _ rfl (h := (kvH kv0 : Int)) (h2 := (kvH kv0 : Int)) (vs := kvV kv0) (us := kvV kv0) rfl rfl
  · assumption
  try simp only [Act.put, List.setIfInBounds_toArray, List.set_cons_zero, List.set_cons_succ]
  rw [kvEq_same]
  apply wpAnyH_take (i := 49)
  · simp only [List.getElem?_toArray]; rfl
  · kernel_rfl
  · kernel_rfl
  · kernel_rfl
  · exact fun _ _ _ h => h
  · exact Or.inl ⟨by rfl, by intro w hSw; go_simp; try with_reducible rfl⟩
  · assumption
  try simp only [Act.put, List.setIfInBounds_toArray, List.set_cons_zero, List.set_cons_succ]
  apply wpAnyH_take (i := 50)
  · simp only [List.getElem?_toArray]; rfl
  · kernel_rfl
  · kernel_rfl
  · kernel_rfl
  · exact fun _ _ _ h => h
  · exact Or.inl ⟨by rfl, by intro w hSw; go_simp; try with_reducible rfl⟩
  · assumption
  try simp only [Act.put, List.setIfInBounds_toArray, List.set_cons_zero, List.set_cons_succ]
  apply wpAnyH_ready (rs := [51])
  · kernel_rfl
  · simp
  apply AllReadyH.cons (hs := AllReadyH.nil)
  · simp only [List.getElem?_toArray]; rfl
  intro K hK
  rw [if_pos (by rfl)]
  refine wp_call9 24 _ _ rfl [] rfl Try.func24 (by kernel_rfl) (by kernel_rfl) ((two11_any HR.out _ (HR.out.keep HG.out (HK19.out.trans HS4.out (FSub.refl _ _)))).mono ?_)
  rintro e X5 ⟨rfl, hk⟩
  refine ⟨_, rfl, ?_⟩
  have HS5 := Lib.hid (HS4.out.trans hk (FSub.refl _ _))
  clear hk HS4
  refine hK.out _ _ ?_ (fun hHeld => ?_)
  · exact (by rw [HSE.out]; exact HS5.out)
  clear hK K
  try simp only [Act.put, List.setIfInBounds_toArray, List.set_cons_zero, List.set_cons_succ]
  apply wpAnyH_ready (rs := [52])
  · kernel_rfl
  · simp
  apply AllReadyH.cons (hs := AllReadyH.nil)
  · simp only [List.getElem?_toArray]; rfl
  intro K hK
  rw [if_pos (by rfl)]
  refine wp_call9 23 _ _ rfl [kvVal ktM, .int .u8 9] rfl Try.func23 (by kernel_rfl) (by kernel_rfl) ((HR.out.only _ ktM 9 (HR.out.keep HG.out (HK19.out.trans HS5.out (FSub.refl _ _))) kt_in (by decide)).mono ?_)
  rintro e X6 ⟨rfl, hk⟩
  refine ⟨_, rfl, ?_⟩
  rw [ko9]
  have HS6 := Lib.hid (HS5.out.trans hk (FSub.refl _ _))
  clear hk HS5
  refine hK.out _ _ ?_ (fun hHeld => ?_)
  · exact (by rw [HSE.out]; exact HS6.out)
  clear hK K
  try simp only [Act.put, List.setIfInBounds_toArray, List.set_cons_zero, List.set_cons_succ]
  apply wpAnyH_ready (rs := [53])
  · kernel_rfl
  · simp
  apply AllReadyH.cons (hs := AllReadyH.nil)
  · simp only [List.getElem?_toArray]; rfl
  intro K hK
  rw [if_pos (by rfl)]
  refine wp_call9 26 _ _ rfl [] rfl Try.func26 (by kernel_rfl) (by kernel_rfl) ((HR.out.new _ (HR.out.keep HG.out (HK19.out.trans HS6.out (FSub.refl _ _)))).mono ?_)
  rintro e X7 ⟨rfl, hk⟩
  refine ⟨_, rfl, ?_⟩
  have HS7 := Lib.hid (HS6.out.trans hk (FSub.refl _ _))
  clear hk HS6
  refine hK.out _ _ ?_ (fun hHeld => ?_)
  · exact (by rw [HSE.out]; exact HS7.out)
  clear hK K
  try simp only [Act.put, List.setIfInBounds_toArray, List.set_cons_zero, List.set_cons_succ]
  apply wpAnyH_take (i := 54)
  · simp only [List.getElem?_toArray]; rfl
  · kernel_rfl
  · kernel_rfl
  · kernel_rfl
  · exact fun _ _ _ h => h
  · exact yields_eqK (by rfl) (.tmp 100) (.tmp 101) _ rfl (h := (kvH kv0 : Int)) (h2 := (kvH kv0 : Int)) (vs := kvV kv0) (us := kvV kv0) rfl rfl
  · assumption
  try simp only [Act.put, List.setIfInBounds_toArray, List.set_cons_zero, List.set_cons_succ]
  rw [kvEq_same]
  apply wpAnyH_take (i := 55)
  · simp only [List.getElem?_toArray]; rfl
  · kernel_rfl
  · kernel_rfl
  · kernel_rfl
  · exact fun _ _ _ h => h
  · exact Or.inl ⟨by rfl, by intro w hSw; go_simp; try with_reducible rfl⟩
  · assumption
  try simp only [Act.put, List.setIfInBounds_toArray, List.set_cons_zero, List.set_cons_succ]
  apply wpAnyH_take (i := 56)
  · simp only [List.getElem?_toArray]; rfl
  · kernel_rfl
  · kernel_rfl
  · kernel_rfl
  · exact fun _ _ _ h => h
  · exact Or.inl ⟨by rfl, by intro w hSw; go_simp; try with_reducible rfl⟩
  · assumption
  try simp only [Act.put, List.setIfInBounds_toArray, List.set_cons_zero, List.set_cons_succ]
  apply wpAnyH_ready (rs := [57])
  · kernel_rfl
  · simp
  apply AllReadyH.cons (hs := AllReadyH.nil)
  · simp only [List.getElem?_toArray]; rfl
  intro K hK
  rw [if_pos (by rfl)]
  refine wp_call9 27 _ _ rfl [.int .u8 6] rfl Try.func27 (by kernel_rfl) (by kernel_rfl) ((HR.out.idle _ 6 (HR.out.keep HG.out (HK19.out.trans HS7.out (FSub.refl _ _))) (by decide)).mono ?_)
  rintro e X8 ⟨rfl, hk⟩
  refine ⟨_, rfl, ?_⟩
  simp only [show decide ((6 : Int) = 6) = true from rfl]
  have HS8 := Lib.hid (HS7.out.trans hk (FSub.refl _ _))
  clear hk HS7
  refine hK.out _ _ ?_ (fun hHeld => ?_)
  · exact (by rw [HSE.out]; exact HS8.out)
  clear hK K
  try simp only [Act.put, List.setIfInBounds_toArray, List.set_cons_zero, List.set_cons_succ]
  apply wpAnyH_take (i := 58)
  · simp only [List.getElem?_toArray]; rfl
  · kernel_rfl
  · kernel_rfl
  · kernel_rfl
  · exact fun _ _ _ h => h
  · exact Or.inl ⟨by rfl, by intro w hSw; go_simp; try with_reducible rfl⟩
  · assumption
  try simp only [Act.put, List.setIfInBounds_toArray, List.set_cons_zero, List.set_cons_succ]
  apply wpAnyH_take (i := 59)
  · simp only [List.getElem?_toArray]; rfl
  · kernel_rfl
  · kernel_rfl
  · kernel_rfl
  · exact fun _ _ _ h => h
  · exact Or.inl ⟨by rfl, by intro w hSw; go_simp; try with_reducible rfl⟩
  · assumption
  try simp only [Act.put, List.setIfInBounds_toArray, List.set_cons_zero, List.set_cons_succ]
  apply wpAnyH_ready (rs := [60])
  · kernel_rfl
  · simp
  apply AllReadyH.cons (hs := AllReadyH.nil)
  · simp only [List.getElem?_toArray]; rfl
  intro K hK
  rw [if_pos (by rfl)]
  refine wp_call9 27 _ _ rfl [.int .u8 8] rfl Try.func27 (by kernel_rfl) (by kernel_rfl) ((HR.out.idle _ 8 (HR.out.keep HG.out (HK19.out.trans HS8.out (FSub.refl _ _))) (by decide)).mono ?_)
  rintro e X9 ⟨rfl, hk⟩
  refine ⟨_, rfl, ?_⟩
  simp only [show decide ((8 : Int) = 6) = false from rfl]
  have HS9 := Lib.hid (HS8.out.trans hk (FSub.refl _ _))
  clear hk HS8
  refine hK.out _ _ ?_ (fun hHeld => ?_)
  · exact (by rw [HSE.out]; exact HS9.out)
  clear hK K
  try simp only [Act.put, List.setIfInBounds_toArray, List.set_cons_zero, List.set_cons_succ]
  apply wpAnyH_take (i := 61)
  · simp only [List.getElem?_toArray]; rfl
  · kernel_rfl
  · kernel_rfl
  · kernel_rfl
  · exact fun _ _ _ h => h
  · exact Or.inl ⟨by rfl, by intro w hSw; go_simp; try with_reducible rfl⟩
  · assumption
  try simp only [Act.put, List.setIfInBounds_toArray, List.set_cons_zero, List.set_cons_succ]
  apply wpAnyH_take (i := 62)
  · simp only [List.getElem?_toArray]; rfl
  · kernel_rfl
  · kernel_rfl
  · kernel_rfl
  · exact fun _ _ _ h => h
  · exact Or.inl ⟨by rfl, by intro w hSw; go_simp; try with_reducible rfl⟩
  · assumption
  try simp only [Act.put, List.setIfInBounds_toArray, List.set_cons_zero, List.set_cons_succ]
  apply wpAnyH_take (i := 63)
  · simp only [List.getElem?_toArray]; rfl
  · kernel_rfl
  · kernel_rfl
  · kernel_rfl
  · exact fun _ _ _ h => h
  · exact Or.inl ⟨by rfl, by intro w hSw; go_simp; try with_reducible rfl⟩
  · assumption
  try simp only [Act.put, List.setIfInBounds_toArray, List.set_cons_zero, List.set_cons_succ]
  apply wpAnyH_ready (rs := [64])
  · kernel_rfl
  · simp
  apply AllReadyH.cons (hs := AllReadyH.nil)
  · simp only [List.getElem?_toArray]; rfl
  intro K hK
  rw [if_pos (by rfl)]
  refine wp_call9 27 _ _ rfl [.int .u8 1] rfl Try.func27 (by kernel_rfl) (by kernel_rfl) ((HR.out.idle _ 1 (HR.out.keep HG.out (HK19.out.trans HS9.out (FSub.refl _ _))) (by decide)).mono ?_)
  rintro e X10 ⟨rfl, hk⟩
  refine ⟨_, rfl, ?_⟩
  simp only [show decide ((1 : Int) = 6) = false from rfl]
  have HS10 := Lib.hid (HS9.out.trans hk (FSub.refl _ _))
  clear hk HS9
  refine hK.out _ _ ?_ (fun hHeld => ?_)
  · exact (by rw [HSE.out]; exact HS10.out)
  clear hK K
  try simp only [Act.put, List.setIfInBounds_toArray, List.set_cons_zero, List.set_cons_succ]
  apply wpAnyH_take (i := 65)
  · simp only [List.getElem?_toArray]; rfl
  · kernel_rfl
  · kernel_rfl
  · kernel_rfl
  · exact fun _ _ _ h => h
  · exact Or.inl ⟨by rfl, by intro w hSw; go_simp; try with_reducible rfl⟩
  · assumption
  try simp only [Act.put, List.setIfInBounds_toArray, List.set_cons_zero, List.set_cons_succ]
  apply wpAnyH_take (i := 66)
  · simp only [List.getElem?_toArray]; rfl
  · kernel_rfl
  · kernel_rfl
  · kernel_rfl
  · exact fun _ _ _ h => h
  · exact Or.inl ⟨by rfl, by intro w hSw; go_simp; try with_reducible rfl⟩
  · assumption
  try simp only [Act.put, List.setIfInBounds_toArray, List.set_cons_zero, List.set_cons_succ]
  apply wpAnyH_take (i := 67)
  · simp only [List.getElem?_toArray]; rfl
  · kernel_rfl
  · kernel_rfl
  · kernel_rfl
  · exact fun _ _ _ h => h
  · exact Or.inl ⟨by rfl, by intro w hSw; go_simp; try with_reducible rfl⟩
  · assumption
  try simp only [Act.put, List.setIfInBounds_toArray, List.set_cons_zero, List.set_cons_succ]
  apply wpAnyH_take (i := 68)
  · simp only [List.getElem?_toArray]; rfl
  · kernel_rfl
  · kernel_rfl
  · kernel_rfl
  · exact fun _ _ _ h => h
  · exact Or.inl ⟨by rfl, by intro w hSw; go_simp; try with_reducible rfl⟩
  · assumption
  try simp only [Act.put, List.setIfInBounds_toArray, List.set_cons_zero, List.set_cons_succ]
  apply wpAnyH_take (i := 69)
  · simp only [List.getElem?_toArray]; rfl
  · kernel_rfl
  · kernel_rfl
  · kernel_rfl
  · exact fun _ _ _ h => h
  · exact Or.inl ⟨by rfl, by intro w hSw; go_simp; try with_reducible rfl⟩
  · assumption
  try simp only [Act.put, List.setIfInBounds_toArray, List.set_cons_zero, List.set_cons_succ]
  apply wpAnyH_ready (rs := [70])
  · kernel_rfl
  · simp
  apply AllReadyH.cons (hs := AllReadyH.nil)
  · simp only [List.getElem?_toArray]; rfl
  intro K hK
  rw [if_pos (by rfl)]
  refine wp_call9 10 _ _ rfl [.agg (kvA (0 : Nat) kbad)] rfl Try.func10 (by kernel_rfl) (by kernel_rfl) ((HR.out.check _ 0 kbad (HR.out.keep HG.out (HK19.out.trans HS10.out (FSub.refl _ _))) kbad_in).mono ?_)
  rintro e X11 ⟨rfl, hk⟩
  refine ⟨_, rfl, ?_⟩
  rw [if_neg kbad_ne]
  have HS11 := Lib.hid (HS10.out.trans hk (FSub.refl _ _))
  clear hk HS10
  refine hK.out _ _ ?_ (fun hHeld => ?_)
  · exact (by rw [HSE.out]; exact HS11.out)
  clear hK K
  try simp only [Act.put, List.setIfInBounds_toArray, List.set_cons_zero, List.set_cons_succ]
  apply wpAnyH_take (i := 71)
  · simp only [List.getElem?_toArray]; rfl
  · kernel_rfl
  · kernel_rfl
  · kernel_rfl
  · exact fun _ _ _ h => h
  · exact Or.inl ⟨by rfl, by intro w hSw; go_simp; try with_reducible rfl⟩
  · assumption
  try simp only [Act.put, List.setIfInBounds_toArray, List.set_cons_zero, List.set_cons_succ]
  apply wpAnyH_take (i := 72)
  · simp only [List.getElem?_toArray]; rfl
  · kernel_rfl
  · kernel_rfl
  · kernel_rfl
  · exact fun _ _ _ h => h
  · exact Or.inl ⟨by rfl, by intro w hSw; go_simp; try with_reducible rfl⟩
  · assumption
  try simp only [Act.put, List.setIfInBounds_toArray, List.set_cons_zero, List.set_cons_succ]
  apply wpAnyH_take (i := 73)
  · simp only [List.getElem?_toArray]; rfl
  · kernel_rfl
  · kernel_rfl
  · kernel_rfl
  · exact fun _ _ _ h => h
  · exact Or.inl ⟨by rfl, by intro w hSw; go_simp; try with_reducible rfl⟩
  · assumption
  try simp only [Act.put, List.setIfInBounds_toArray, List.set_cons_zero, List.set_cons_succ]
  apply wpAnyH_ready (rs := [74])
  · kernel_rfl
  · simp
  apply AllReadyH.cons (hs := AllReadyH.nil)
  · simp only [List.getElem?_toArray]; rfl
  intro K hK
  rw [if_pos (by rfl)]
  refine wp_call9 16 _ _ rfl [] rfl Try.func16 (by kernel_rfl) (by kernel_rfl) ((awake11_any HR.out _ (HR.out.keep HG.out (HK19.out.trans HS11.out (FSub.refl _ _)))).mono ?_)
  rintro e X12 ⟨rfl, hk⟩
  refine ⟨_, rfl, ?_⟩
  have HS12 := Lib.hid (HS11.out.trans hk (FSub.refl _ _))
  clear hk HS11
  refine hK.out _ _ ?_ (fun hHeld => ?_)
  · exact (by rw [HSE.out]; exact HS12.out)
  clear hK K
  try simp only [Act.put, List.setIfInBounds_toArray, List.set_cons_zero, List.set_cons_succ]
  apply wpAnyH_take (i := 75)
  · simp only [List.getElem?_toArray]; rfl
  · kernel_rfl
  · kernel_rfl
  · kernel_rfl
  · exact fun _ _ _ h => h
  · exact Or.inl ⟨by rfl, by intro w hSw; go_simp; try with_reducible rfl⟩
  · assumption
  try simp only [Act.put, List.setIfInBounds_toArray, List.set_cons_zero, List.set_cons_succ]
  apply wpAnyH_take (i := 76)
  · simp only [List.getElem?_toArray]; rfl
  · kernel_rfl
  · kernel_rfl
  · kernel_rfl
  · exact fun _ _ _ h => h
  · exact Or.inl ⟨by rfl, by intro w hSw; go_simp; try with_reducible rfl⟩
  · assumption
  try simp only [Act.put, List.setIfInBounds_toArray, List.set_cons_zero, List.set_cons_succ]
  refine wpAnyH_done (by kernel_rfl) ?_ _
  refine NoPanic.normal ?_
  go_wp2_with fail
  go_ret
  exact ⟨rfl, HK19.out.trans HS12.out (FSub.refl _ _)⟩
end Go.Proofs.Ytnmpekbkahkapaa
/-
  The program's key map: the four steps.
-/
namespace Go.Proofs.Ytnmpekbkahkapaa
open Go.RowKit
theorem results_kv2 {fn : Func} {p u : Tmp} (h : fn.results = #[.cell p 25, .cell u 32]) (tmps : Array Value) (w : World) (b c : Nat) {z : Int} {vs : List Int} (y : Ans) {t t2 : TypeId}
    (hp : tmps.getD p undef = .pointer (some ⟨b, 0, none⟩)) (hb : w.heap[b]? = some (.cells (kvA z vs) t (0, 0))) (hu : tmps.getD u undef = .pointer (some ⟨c, 0, none⟩)) (hc : w.heap[c]? = some (.cells (ansC y).toArray t2 (0, 0))) :
    (results fn tmps).run Try.prog w = .ok (.tuple #[.agg (kvA z vs), .agg (ansC y).toArray]) w := by
  have h1 : (loadVar 25 ⟨b, 0, none⟩).run Try.prog w = .ok (.agg (kvA z vs)) w := run_loadVar_row w b t 25 _ _ _ hb Try.underlying25 rfl (by kernel_rfl)
  have h2 : (loadVar 32 ⟨c, 0, none⟩).run Try.prog w = .ok (.agg (ansC y).toArray) w := run_loadVar_row w c t2 32 _ _ _ hc Try.underlying32 rfl (by kernel_rfl)
  have hp' : tmps[p]?.getD undef = .pointer (some ⟨b, 0, none⟩) := by simpa using hp
  have hu' : tmps[u]?.getD undef = .pointer (some ⟨c, 0, none⟩) := by simpa using hu
  simp only [results, h]
  simp [Sem.run_bind, Result.andThen, hp', hu', asAddr, h1, h2]
theorem results_kv3 {fn : Func} {p u x : Tmp} (h : fn.results = #[.cell p 25, .cell u 32, .tmp x]) (tmps : Array Value) (w : World) (b c : Nat) {z : Int} {vs : List Int} (y : Ans) {t t2 : TypeId}
    (hp : tmps.getD p undef = .pointer (some ⟨b, 0, none⟩)) (hb : w.heap[b]? = some (.cells (kvA z vs) t (0, 0))) (hu : tmps.getD u undef = .pointer (some ⟨c, 0, none⟩)) (hc : w.heap[c]? = some (.cells (ansC y).toArray t2 (0, 0))) :
    (results fn tmps).run Try.prog w = .ok (.tuple #[.agg (kvA z vs), .agg (ansC y).toArray, tmps.getD x undef]) w := by
  have h1 : (loadVar 25 ⟨b, 0, none⟩).run Try.prog w = .ok (.agg (kvA z vs)) w := run_loadVar_row w b t 25 _ _ _ hb Try.underlying25 rfl (by kernel_rfl)
  have h2 : (loadVar 32 ⟨c, 0, none⟩).run Try.prog w = .ok (.agg (ansC y).toArray) w := run_loadVar_row w c t2 32 _ _ _ hc Try.underlying32 rfl (by kernel_rfl)
  have hp' : tmps[p]?.getD undef = .pointer (some ⟨b, 0, none⟩) := by simpa using hp
  have hu' : tmps[u]?.getD undef = .pointer (some ⟨c, 0, none⟩) := by simpa using hu
  simp only [results, h]
  simp [Sem.run_bind, Result.andThen, hp', hu', asAddr, h1, h2]
/-- The world behind a step's variables. -/
theorem vars_k (w : World) (h : Int) (vs : List Int) (A : Array Value) (W : World) (hW : W = (((w.alloc (.cells (kvA h vs) 25)).alloc (.cells A 27)).alloc (.cells (kvA 0 []) 25)).alloc (.cells (ansC ⟨0, 0⟩).toArray 32)) :
    Keeps [] w W ∧ W.heap[w.heap.size]? = some (.cells (kvA h vs) 25 (0, 0)) ∧ W.heap[w.heap.size + 1]? = some (.cells A 27 (0, 0)) ∧ W.heap[w.heap.size + 2]? = some (.cells (kvA 0 []) 25 (0, 0)) ∧ W.heap[w.heap.size + 3]? = some (.cells (ansC ⟨0, 0⟩).toArray 32 (0, 0)) ∧ W.heap.size = w.heap.size + 4 := by
  have e1 : (w.alloc (.cells (kvA h vs) 25)).heap.size = w.heap.size + 1 := Array.size_push _
  have e2 : ((w.alloc (.cells (kvA h vs) 25)).alloc (.cells A 27)).heap.size = w.heap.size + 2 := by
    rw [show ((w.alloc (.cells (kvA h vs) 25)).alloc (.cells A 27)).heap.size = (w.alloc (.cells (kvA h vs) 25)).heap.size + 1 from Array.size_push _, e1]
  have e3 : (((w.alloc (.cells (kvA h vs) 25)).alloc (.cells A 27)).alloc (.cells (kvA 0 []) 25)).heap.size = w.heap.size + 3 := by
    rw [show (((w.alloc (.cells (kvA h vs) 25)).alloc (.cells A 27)).alloc (.cells (kvA 0 []) 25)).heap.size = ((w.alloc (.cells (kvA h vs) 25)).alloc (.cells A 27)).heap.size + 1 from Array.size_push _, e2]
  subst hW
  refine ⟨((((Keeps.refl _ _).alloc _).alloc _).alloc _).alloc _, ?_, ?_, ?_, ?_, ?_⟩
  · exact ((((Keeps.refl [] (w.alloc (.cells (kvA h vs) 25))).alloc _).alloc _).alloc _).heap (heap_alloc_new w _) (by simp)
  · have h := heap_alloc_new (w.alloc (.cells (kvA h vs) 25)) (.cells A 27)
    rw [e1] at h
    exact (((Keeps.refl [] _).alloc _).alloc _).heap h (by simp)
  · have h := heap_alloc_new ((w.alloc (.cells (kvA h vs) 25)).alloc (.cells A 27)) (.cells (kvA 0 []) 25)
    rw [e2] at h
    exact ((Keeps.refl [] _).alloc _).heap h (by simp)
  · have h := heap_alloc_new (((w.alloc (.cells (kvA h vs) 25)).alloc (.cells A 27)).alloc (.cells (kvA 0 []) 25)) (.cells (ansC ⟨0, 0⟩).toArray 32)
    rw [e3] at h
    exact h
  · rw [show ((((w.alloc (.cells (kvA h vs) 25)).alloc (.cells A 27)).alloc (.cells (kvA 0 []) 25)).alloc (.cells (ansC ⟨0, 0⟩).toArray 32)).heap.size = (((w.alloc (.cells (kvA h vs) 25)).alloc (.cells A 27)).alloc (.cells (kvA 0 []) 25)).heap.size + 1 from Array.size_push _, e3]
theorem kvHas_kv (w : World) {m : Kv} (hm : KvIn m) {key : Int} (h0 : 0 ≤ key) : Calls Try.prog 30 #[.agg (kvA (kvH m) (kvV m)), .int .u8 key] w fun e w' => e = .returned (.bool (m.getD key.toNat none).isSome) ∧ Keeps [] w w' := by
  refine (kvHas_any w hm.small (kvV m) h0).mono ?_
  rintro e w' ⟨rfl, hk⟩
  refine ⟨?_, hk⟩
  have hb := kvH_bit m key.toNat
  cases ho : (m.getD key.toNat none).isSome with
  | true => rw [ho] at hb; rw [decide_eq_true (by simpa using hb)]
  | false => rw [ho] at hb; rw [decide_eq_false (by simp at hb; omega)]
/-- What a step tells. -/
def KsPost (w : World) (m : Kv) (r : Ans) (e : Ending) (w' : World) : Prop := e = .returned (.tuple #[kvVal m, .agg (ansC r).toArray]) ∧ Keeps [] w w'
set_option maxHeartbeats 8000000
set_option maxRecDepth 100000
section
variable {ops : Array Oper} {rest : List Oper} {o : Oper} {a : Act} {w : World} {K : Act → World → Prop} {Q : Exit → Act → World → Prop}
theorem wp_loadKh {x : Operand} (ho : o.op = .load 5 x) {g : Nat} {h : Int} {vs : List Int} {t : TypeId} (hx : a.eval x = .pointer (some ⟨g, 0, none⟩)) (hg : w.heap[g]? = some (.cells (kvA h vs) t (0, 0)))
    (hK : K (a.put o.dst (.int .u8 h)) w) : o.wp Try.prog a w K Q := by
  have hrun : (loadVar 5 ⟨g, 0, none⟩).run Try.prog w = .ok (.int .u8 h) w := by simp [loadVar, run_underlying Try.underlying5, kv_byte hg]
  unfold Oper.wp execOp
  simp only [ho, hx, Instr.loadAt, Instr.sureAddr, Sem.run_bind, Sem.run_pure, Result.andThen_ok, hrun]
  exact hK
theorem wpList_loadKh {dst : Option Tmp} {ty : TypeId} {pos : String} {after : Array Edge} {x : Operand} {g : Nat} {h : Int} {vs : List Int} {t : TypeId}
    (hx : a.eval x = .pointer (some ⟨g, 0, none⟩)) (hg : w.heap[g]? = some (.cells (kvA h vs) t (0, 0))) (hK : wpList Try.prog ops Q rest (a.put dst (.int .u8 h)) w) :
    wpList Try.prog ops Q ({ dst := dst, op := .load 5 x, type := ty, pos := pos, after := after, guard := none } :: rest) a w :=
  wpList_plain rfl fun _ hk => wp_loadKh rfl hx hg (hk _ _ hK)
theorem wp_putKh {x y : Operand} (ho : o.op = .store 5 x y) {g : Nat} {h h2 : Int} {vs : List Int} {t : TypeId}
    (hx : a.eval x = .pointer (some ⟨g, 0, none⟩)) (hy : a.eval y = .int .u8 h2) (hg : w.heap[g]? = some (.cells (kvA h vs) t (0, 0)))
    (hK : ∀ W, W.heap[g]? = some (.cells (kvA h2 vs) t (0, 0)) → Keeps [g] w W → K (a.put o.dst undef) W) : o.wp Try.prog a w K Q :=
  wp_put1 ho hx hy (by kernel_rfl) rfl (by rw [kv_byte hg]; rfl) (kv_thaw hg 0) (hK _ (kv_puth hg) ((Keeps.refl [g] w).setCell _ _ (.inl (by simp))))
theorem wpList_putKh {dst : Option Tmp} {ty : TypeId} {pos : String} {after : Array Edge} {x y : Operand} {g : Nat} {h h2 : Int} {vs : List Int} {t : TypeId}
    (hx : a.eval x = .pointer (some ⟨g, 0, none⟩)) (hy : a.eval y = .int .u8 h2) (hg : w.heap[g]? = some (.cells (kvA h vs) t (0, 0)))
    (hK : ∀ W, W.heap[g]? = some (.cells (kvA h2 vs) t (0, 0)) → Keeps [g] w W → wpList Try.prog ops Q rest (a.put dst undef) W) :
    wpList Try.prog ops Q ({ dst := dst, op := .store 5 x y, type := ty, pos := pos, after := after, guard := none } :: rest) a w :=
  wpList_plain rfl fun _ hk => wp_putKh rfl hx hy hg fun W h3 h4 => hk _ _ (hK W h3 h4)
theorem wp_putKv {x y : Operand} (ho : o.op = .store 22 x y) {g k : Nat} {h v : Int} {vs : List Int} {t : TypeId} (hl : vs.length = 8) (hk : k < 8)
    (hx : a.eval x = .pointer (some ⟨g, 1 + k, none⟩)) (hy : a.eval y = .int .u16 v) (hg : w.heap[g]? = some (.cells (kvA h vs) t (0, 0)))
    (hK : ∀ W, W.heap[g]? = some (.cells (kvA h (vs.set k v)) t (0, 0)) → Keeps [g] w W → K (a.put o.dst undef) W) : o.wp Try.prog a w K Q :=
  wp_put1 ho hx hy (by kernel_rfl) rfl (by rw [kv_cell hg hk]; rfl) (kv_thaw hg (1 + k)) (hK _ (kv_put hg hl hk v) ((Keeps.refl [g] w).setCell _ _ (.inl (by simp))))
theorem wpList_putKv {dst : Option Tmp} {ty : TypeId} {pos : String} {after : Array Edge} {x y : Operand} {g k : Nat} {h v : Int} {vs : List Int} {t : TypeId} (hl : vs.length = 8) (hk : k < 8)
    (hx : a.eval x = .pointer (some ⟨g, 1 + k, none⟩)) (hy : a.eval y = .int .u16 v) (hg : w.heap[g]? = some (.cells (kvA h vs) t (0, 0)))
    (hK : ∀ W, W.heap[g]? = some (.cells (kvA h (vs.set k v)) t (0, 0)) → Keeps [g] w W → wpList Try.prog ops Q rest (a.put dst undef) W) :
    wpList Try.prog ops Q ({ dst := dst, op := .store 22 x y, type := ty, pos := pos, after := after, guard := none } :: rest) a w :=
  wpList_plain rfl fun _ hj => wp_putKv rfl hl hk hx hy hg fun W h3 h4 => hj _ _ (hK W h3 h4)
theorem wpList_shl8 {dst : Option Tmp} {ty T : TypeId} {pos : String} {after : Array Edge} {x y : Operand} {k v : Int} (hx : a.eval x = .int .u8 1) (hy : a.eval y = .int .u8 k)
    (hr : ∀ w, (Op.shift BinOp.shl IntKind.u8 1 IntKind.u8 k).run Try.prog w = .ok (.int .u8 v) w) (h : wpList Try.prog ops Q rest (a.put dst (.int .u8 v)) w) :
    wpList Try.prog ops Q ({ dst := dst, op := .binOp .shl 5 x y T, type := ty, pos := pos, after := after, guard := none } :: rest) a w :=
  wpList_plain rfl fun _ hk => by
    unfold Oper.wp execOp
    have e := hr w
    simp only [hx, hy, Sem.run_bind]
    simp [go_sem, e, Result.andThen]
    exact hk _ _ h
theorem wpList_or8 {dst : Option Tmp} {ty T : TypeId} {pos : String} {after : Array Edge} {x y : Operand} {A B v : Int} (hx : a.eval x = .int .u8 A) (hy : a.eval y = .int .u8 B)
    (hr : bits .or .u8 A B = v) (h : wpList Try.prog ops Q rest (a.put dst (.int .u8 v)) w) :
    wpList Try.prog ops Q ({ dst := dst, op := .binOp .or 5 x y T, type := ty, pos := pos, after := after, guard := none } :: rest) a w :=
  wpList_plain rfl fun _ hk => by
    unfold Oper.wp execOp
    simp only [hx, hy, Sem.run_bind]
    simp [go_sem, hr, Result.andThen]
    exact hk _ _ h
theorem wpList_not8 {dst : Option Tmp} {ty T : TypeId} {pos : String} {after : Array Edge} {x y : Operand} {A B v : Int} (hx : a.eval x = .int .u8 A) (hy : a.eval y = .int .u8 B)
    (hr : bits .andNot .u8 A B = v) (h : wpList Try.prog ops Q rest (a.put dst (.int .u8 v)) w) :
    wpList Try.prog ops Q ({ dst := dst, op := .binOp .andNot 5 x y T, type := ty, pos := pos, after := after, guard := none } :: rest) a w :=
  wpList_plain rfl fun _ hk => by
    unfold Oper.wp execOp
    simp only [hx, hy, Sem.run_bind]
    simp [go_sem, hr, Result.andThen]
    exact hk _ _ h
end
theorem kvGet_none (w : World) {m : Kv} (hm : KvIn m) (f o a b : Int) {kn : Nat} (hk8 : kn < 8) (ho : m.getD kn none = none) :
    Calls Try.prog 53 #[.agg (kvA (kvH m) (kvV m)), .agg #[.int .u8 f, .int .u8 o, .int .u8 (kn : Int), .int .u16 a, .int .u16 b]] w (KsPost w m ⟨2, 0⟩) := by
  obtain ⟨W, hW⟩ : ∃ W, W = (((w.alloc (.cells (kvA (kvH m) (kvV m)) 25)).alloc (.cells #[.int .u8 f, .int .u8 o, .int .u8 (kn : Int), .int .u16 a, .int .u16 b] 27)).alloc (.cells (kvA 0 []) 25)).alloc (.cells (ansC ⟨0, 0⟩).toArray 32) := ⟨_, rfl⟩
  obtain ⟨hk0, h0, h1, h2, h3, hz⟩ := vars_k w _ _ _ W hW
  simp only [show (ansC ⟨0, 0⟩).toArray = #[Value.int .u8 0, .int .u16 0] from rfl, show kvA 0 [] = #[Value.int .u8 0, .int .u16 0, .int .u16 0, .int .u16 0, .int .u16 0, .int .u16 0, .int .u16 0, .int .u16 0, .int .u16 0] from rfl] at hW
  have h0' := h0
  rw [hW] at h0'
  have HL0 := Lib.hid h0'
  obtain ⟨R, hR⟩ : ∃ R, R = w.heap.size := ⟨_, rfl⟩
  rw [← hR] at h0 h1 h2 h3 hz
  have HWW := Lib.hid hW; have HRE := Lib.hid hR; have HK0 := Lib.hid hk0
  have HZ := Lib.hid hz; have HO := Lib.hid ho
  have HHAS := Lib.hid (fun w => kvHas_kv w hm (key := (kn : Int)) (Int.natCast_nonneg _))
  clear h0' hW hR hk0 hz
  go_enter Try.func53, Try.ntmps53
  go_wp2_with ((with_reducible refine wpList_loadK (g := w.heap.size) rfl ?_ HL0.out ?_); exact rfl)
  refine (HHAS.out _).mono ?_; rintro e w1 ⟨rfl, hk1⟩
  rw [← HWW.out] at hk1
  rw [← HRE.out, Int.toNat_natCast, HO.out]
  simp only [Option.isSome_none, Option.isSome_some]
  have HB0 := Lib.hid (hk1.heap h0 (by simp)); have HB2 := Lib.hid (hk1.heap h2 (by simp)); have HB3 := Lib.hid (hk1.heap h3 (by simp))
  have hb1 := hk1.heap h1 (by simp)
  have c2 : w1.cell? ⟨R + 1, 2, none⟩ = some (.int .u8 (kn : Int)) := cell_lit hb1 2 rfl
  have c3 : w1.cell? ⟨R + 1, 3, none⟩ = some (.int .u16 a) := cell_lit hb1 3 rfl
  have c4 : w1.cell? ⟨R + 1, 4, none⟩ = some (.int .u16 b) := cell_lit hb1 4 rfl
  have HK1 := Lib.hid (HK0.out.trans hk1 (FSub.refl _ _))
  clear h0 h1 h2 h3 hb1 hk1 HL0 HK0 HHAS
  go_wp2_with (first
    | ((with_reducible refine wpList_loadK (g := R) rfl ?_ HB0.out ?_); exact rfl)
    | ((with_reducible refine wpList_putK (g := R + 2) (h := kvH m) (vs := kvV m) ?_ ?_ HB2.out ?_); exact rfl; exact rfl))
  intro W2 hW2 hk2
  have HW2 := Lib.hid hW2
  have HA2 := Lib.hid (hk2.heap HB3.out (by simp))
  have HK2 := Lib.hid (HK1.out.trans hk2 (fun q hq => .inr (by have := HRE.out; simp at hq; omega)))
  clear hW2 hk2
  go_wp2_with ((with_reducible refine wpList_putN (g := R + 3) (old := ⟨0, 0⟩) ⟨2, 0⟩ ?_ ?_ HA2.out ?_); exact rfl; exact rfl)
  intro W3 hW3 hk3
  have HW3 := Lib.hid hW3
  have HS3 := Lib.hid (hk3.heap HW2.out (by simp))
  have HK3 := Lib.hid (HK2.out.trans hk3 (fun q hq => .inr (by have := HRE.out; simp at hq; omega)))
  clear hW3 hk3
  go_wp2_with fail
  try simp only [Exit.inBlock, Exit.then]
  exact bodyPost_ret (results_kv2 rfl _ _ (R + 2) (R + 3) ⟨2, 0⟩ rfl HS3.out rfl HW3.out) rfl ⟨rfl, HK3.out⟩
theorem kvGet_some (w : World) {m : Kv} (hm : KvIn m) (f o a b : Int) {kn : Nat} (hk8 : kn < 8) {v : Int} (ho : m.getD kn none = some v) :
    Calls Try.prog 53 #[.agg (kvA (kvH m) (kvV m)), .agg #[.int .u8 f, .int .u8 o, .int .u8 (kn : Int), .int .u16 a, .int .u16 b]] w (KsPost w m ⟨1, v⟩) := by
  have hcv : (kvV m).getD kn 0 = v := by rw [kvV_getD (by rw [hm.len]; exact hk8), ho]; rfl
  have HCV := Lib.hid hcv
  clear hcv
  obtain ⟨W, hW⟩ : ∃ W, W = (((w.alloc (.cells (kvA (kvH m) (kvV m)) 25)).alloc (.cells #[.int .u8 f, .int .u8 o, .int .u8 (kn : Int), .int .u16 a, .int .u16 b] 27)).alloc (.cells (kvA 0 []) 25)).alloc (.cells (ansC ⟨0, 0⟩).toArray 32) := ⟨_, rfl⟩
  obtain ⟨hk0, h0, h1, h2, h3, hz⟩ := vars_k w _ _ _ W hW
  simp only [show (ansC ⟨0, 0⟩).toArray = #[Value.int .u8 0, .int .u16 0] from rfl, show kvA 0 [] = #[Value.int .u8 0, .int .u16 0, .int .u16 0, .int .u16 0, .int .u16 0, .int .u16 0, .int .u16 0, .int .u16 0, .int .u16 0] from rfl] at hW
  have h0' := h0
  rw [hW] at h0'
  have HL0 := Lib.hid h0'
  obtain ⟨R, hR⟩ : ∃ R, R = w.heap.size := ⟨_, rfl⟩
  rw [← hR] at h0 h1 h2 h3 hz
  have HWW := Lib.hid hW; have HRE := Lib.hid hR; have HK0 := Lib.hid hk0
  have HZ := Lib.hid hz; have HO := Lib.hid ho
  have HHAS := Lib.hid (fun w => kvHas_kv w hm (key := (kn : Int)) (Int.natCast_nonneg _))
  clear h0' hW hR hk0 hz
  go_enter Try.func53, Try.ntmps53
  go_wp2_with ((with_reducible refine wpList_loadK (g := w.heap.size) rfl ?_ HL0.out ?_); exact rfl)
  refine (HHAS.out _).mono ?_; rintro e w1 ⟨rfl, hk1⟩
  rw [← HWW.out] at hk1
  rw [← HRE.out, Int.toNat_natCast, HO.out]
  simp only [Option.isSome_none, Option.isSome_some]
  have HB0 := Lib.hid (hk1.heap h0 (by simp)); have HB2 := Lib.hid (hk1.heap h2 (by simp)); have HB3 := Lib.hid (hk1.heap h3 (by simp))
  have hb1 := hk1.heap h1 (by simp)
  have c2 : w1.cell? ⟨R + 1, 2, none⟩ = some (.int .u8 (kn : Int)) := cell_lit hb1 2 rfl
  have c3 : w1.cell? ⟨R + 1, 3, none⟩ = some (.int .u16 a) := cell_lit hb1 3 rfl
  have c4 : w1.cell? ⟨R + 1, 4, none⟩ = some (.int .u16 b) := cell_lit hb1 4 rfl
  have HK1 := Lib.hid (HK0.out.trans hk1 (FSub.refl _ _))
  clear h0 h1 h2 h3 hb1 hk1 HL0 HK0 HHAS
  have c0 := kv_cell HB0.out hk8
  rw [HCV.out] at c0
  obtain ⟨S, hS⟩ : ∃ S : World → Prop, S = fun y => Keeps [R + 2, R + 3] w1 y := ⟨_, rfl⟩
  have HSE := Lib.hid hS
  have hSD : S w1.drew := by rw [hS]; exact (Keeps.refl _ _).drew
  have HS0 := Lib.hid (fun (w' : World) (hh : S w') => show ∃ t, w'.heap[R]? = some (.cells (kvA (kvH m) (kvV m)) t (0, 0)) from by rw [hS] at hh; exact ⟨_, hh.heap HB0.out (by simp)⟩)
  have HSK := Lib.hid (fun (w' : World) (hh : S w') => show w'.cell? ⟨R + 1, 2, none⟩ = some (.int .u8 (kn : Int)) from by rw [hS] at hh; exact hh.cell c2 (by simp))
  have HSV := Lib.hid (fun (w' : World) (hh : S w') => show w'.cell? ⟨R, 1 + kn, none⟩ = some (.int .u16 v) from by rw [hS] at hh; exact hh.cell c0 (by simp))
  have HLT := Lib.hid (fun (w' : World) (_ : S w') => show (kn : Int) < 8 from by omega)
  clear hS c0 c2 c3 c4
  go_wp2_with fail
  refine wp_region_noPanic ?_
  refine wp_region_held_drew (S := S) (by kernel_rfl) hSD (fun hHeld => ?_)
  apply wpAnyH_take (i := 0)
  · simp only [List.getElem?_toArray]; rfl
  · kernel_rfl
  · kernel_rfl
  · kernel_rfl
  · exact fun _ _ _ h => h
  · exact yields_loadK (by rfl) _ rfl R rfl _ _ HS0.out
  · assumption
  try simp only [Act.put, List.setIfInBounds_toArray, List.set_cons_zero, List.set_cons_succ]
  apply wpAnyH_take (i := 1)
  · simp only [List.getElem?_toArray]; rfl
  · kernel_rfl
  · kernel_rfl
  · kernel_rfl
  · exact fun _ _ _ h => h
  · exact Or.inl ⟨by rfl, by intro w hSw; go_simp; try with_reducible rfl⟩
  · assumption
  try simp only [Act.put, List.setIfInBounds_toArray, List.set_cons_zero, List.set_cons_succ]
  apply wpAnyH_take (i := 2)
  · simp only [List.getElem?_toArray]; rfl
  · kernel_rfl
  · kernel_rfl
  · kernel_rfl
  · exact fun _ _ _ h => h
  · exact Or.inl ⟨by rfl, by intro w hSw; have q0 := HSK.out w hSw; go_simp; try with_reducible rfl⟩
  · assumption
  try simp only [Act.put, List.setIfInBounds_toArray, List.set_cons_zero, List.set_cons_succ]
  apply wpAnyH_take (i := 3)
  · simp only [List.getElem?_toArray]; rfl
  · kernel_rfl
  · kernel_rfl
  · kernel_rfl
  · exact fun _ _ _ h => h
  · exact Or.inl ⟨by rfl, by intro w hSw; go_simp; try with_reducible rfl⟩
  · assumption
  try simp only [Act.put, List.setIfInBounds_toArray, List.set_cons_zero, List.set_cons_succ]
  apply wpAnyH_take (i := 4)
  · simp only [List.getElem?_toArray]; rfl
  · kernel_rfl
  · kernel_rfl
  · kernel_rfl
  · exact fun _ _ _ h => h
  · exact Or.inl ⟨by rfl, by intro w hSw; have q0 := HLT.out w hSw; go_simp; try with_reducible rfl⟩
  · assumption
  try simp only [Act.put, List.setIfInBounds_toArray, List.set_cons_zero, List.set_cons_succ]
  apply wpAnyH_take (i := 5)
  · simp only [List.getElem?_toArray]; rfl
  · kernel_rfl
  · kernel_rfl
  · kernel_rfl
  · exact fun _ _ _ h => h
  · exact Or.inl ⟨by rfl, by intro w hSw; have q0 := HSV.out w hSw; go_simp; try with_reducible rfl⟩
  · assumption
  try simp only [Act.put, List.setIfInBounds_toArray, List.set_cons_zero, List.set_cons_succ]
  apply wpAnyH_take (i := 6)
  · simp only [List.getElem?_toArray]; rfl
  · kernel_rfl
  · kernel_rfl
  · kernel_rfl
  · exact fun _ _ _ h => h
  · exact Or.inl ⟨by rfl, by intro w hSw; go_simp; try with_reducible rfl⟩
  · assumption
  try simp only [Act.put, List.setIfInBounds_toArray, List.set_cons_zero, List.set_cons_succ]
  apply wpAnyH_ready (rs := [7])
  · kernel_rfl
  · simp
  apply AllReadyH.cons (hs := AllReadyH.nil)
  · simp only [List.getElem?_toArray]; rfl
  intro K hK
  rw [if_pos (by rfl)]
  refine wp_putK rfl (g := R + 2) (h := kvH m) (vs := kvV m) rfl rfl (HB2.out) (fun W2 hW2 hk2 => ?_)
  have HW2 := Lib.hid hW2
  have HA2 := Lib.hid (hk2.heap HB3.out (by simp))
  have HK2 := Lib.hid (show Keeps [R + 2, R + 3] w1 W2 from (((Keeps.refl [R + 2, R + 3] w1).drew).step hk2 (by simp)))
  clear hW2 hk2
  refine hK.out _ _ ?_ (fun hHeld => ?_)
  · exact (by rw [HSE.out]; exact HK2.out)
  clear hK K
  try simp only [Act.put, List.setIfInBounds_toArray, List.set_cons_zero, List.set_cons_succ]
  apply wpAnyH_ready (rs := [8])
  · kernel_rfl
  · simp
  apply AllReadyH.cons (hs := AllReadyH.nil)
  · simp only [List.getElem?_toArray]; rfl
  intro K hK
  rw [if_pos (by rfl)]
  refine wp_putN rfl (g := R + 3) (old := ⟨0, 0⟩) ⟨1, v⟩ rfl rfl HA2.out (fun W3 hW3 hk3 => ?_)
  have HW3 := Lib.hid hW3
  have HS3 := Lib.hid (hk3.heap HW2.out (by simp))
  have HK3 := Lib.hid (HK2.out.step hk3 (by simp))
  clear hW3 hk3
  refine hK.out _ _ ?_ (fun hHeld => ?_)
  · exact (by rw [HSE.out]; exact HK3.out)
  clear hK K
  try simp only [Act.put, List.setIfInBounds_toArray, List.set_cons_zero, List.set_cons_succ]
  refine wpAnyH_done (by kernel_rfl) ?_ _
  refine NoPanic.normal ?_
  go_wp2_with fail
  try simp only [Exit.inBlock, Exit.then]
  exact bodyPost_ret (results_kv2 rfl _ _ (R + 2) (R + 3) ⟨1, v⟩ rfl HS3.out rfl HW3.out) rfl ⟨rfl, HK1.out.trans HK3.out (fun q hq => .inr (by have := HRE.out; simp at hq; omega))⟩
theorem kvPut_all (w : World) {m : Kv} (hm : KvIn m) (f o a b : Int) {kn : Nat} (hk8 : kn < 8) :
    Calls Try.prog 54 #[.agg (kvA (kvH m) (kvV m)), .agg #[.int .u8 f, .int .u8 o, .int .u8 (kn : Int), .int .u16 a, .int .u16 b]] w (KsPost w (m.set kn (some a)) ⟨0, 0⟩) := by
  have ho : kvV (m.set kn (some a)) = (kvV m).set kn a := kvV_set m kn (some a)
  have HSH := Lib.hid (shl8 hk8)
  have hor := kvH_put hm.len hk8 a
  obtain ⟨H2, hH2⟩ : ∃ H2, H2 = kvH (m.set kn (some a)) := ⟨_, rfl⟩
  rw [← hH2] at hor
  have HOR := Lib.hid hor; have HH2 := Lib.hid hH2
  have hvl : (kvV m).length = 8 := by rw [kvV_len, hm.len]
  have HVL := Lib.hid hvl; have HK8 := Lib.hid hk8
  obtain ⟨W, hW⟩ : ∃ W, W = (((w.alloc (.cells (kvA (kvH m) (kvV m)) 25)).alloc (.cells #[.int .u8 f, .int .u8 o, .int .u8 (kn : Int), .int .u16 a, .int .u16 b] 27)).alloc (.cells (kvA 0 []) 25)).alloc (.cells (ansC ⟨0, 0⟩).toArray 32) := ⟨_, rfl⟩
  obtain ⟨hk0, h0, h1, h2, h3, hz⟩ := vars_k w _ _ _ W hW
  simp only [show (ansC ⟨0, 0⟩).toArray = #[Value.int .u8 0, .int .u16 0] from rfl, show kvA 0 [] = #[Value.int .u8 0, .int .u16 0, .int .u16 0, .int .u16 0, .int .u16 0, .int .u16 0, .int .u16 0, .int .u16 0, .int .u16 0] from rfl] at hW
  have h0' := h0
  rw [hW] at h0'
  have HL0 := Lib.hid h0'
  obtain ⟨R, hR⟩ : ∃ R, R = w.heap.size := ⟨_, rfl⟩
  rw [← hR] at h0 h1 h2 h3 hz
  have HWW := Lib.hid hW; have HRE := Lib.hid hR; have HK0 := Lib.hid hk0
  have HZ := Lib.hid hz; have HO := Lib.hid ho
  have HHAS := Lib.hid (fun w => kvHas_kv w hm (key := (kn : Int)) (Int.natCast_nonneg _))
  clear h0' hW hR hk0 hz
  clear HHAS hvl hk8 hm ho hor hH2
  generalize 2 ^ kn = q at *
  go_enter Try.func54, Try.ntmps54
  go_wp2_with (first
    | ((with_reducible refine wpList_loadKh (g := w.heap.size) ?_ HL0.out ?_); exact rfl)
    | ((with_reducible refine wpList_shl8 (v := (q : Int)) ?_ ?_ HSH.out ?_); exact rfl; exact rfl)
    | ((with_reducible refine wpList_or8 (v := (H2 : Int)) ?_ ?_ HOR.out ?_); exact rfl; exact rfl)
    | ((with_reducible refine wpList_putKh (g := w.heap.size) (h2 := (H2 : Int)) ?_ ?_ HL0.out ?_); exact rfl; exact rfl))
  intro w1 hb0 hk1
  rw [← HWW.out, ← HRE.out] at hk1
  rw [← HRE.out] at hb0
  rw [← HRE.out]
  have HB0 := Lib.hid hb0
  have hb1 := hk1.heap h1 (by simp)
  have c2 : w1.cell? ⟨R + 1, 2, none⟩ = some (.int .u8 (kn : Int)) := cell_lit hb1 2 rfl
  have c3 : w1.cell? ⟨R + 1, 3, none⟩ = some (.int .u16 a) := cell_lit hb1 3 rfl
  have HB2 := Lib.hid (hk1.heap h2 (by simp)); have HB3 := Lib.hid (hk1.heap h3 (by simp))
  have HK1 := Lib.hid (HK0.out.trans hk1 (fun q hq => .inr (by have := HRE.out; simp at hq; omega)))
  have hlt : (kn : Int) < 8 := by have := HK8.out; omega
  clear hb0 hk1 h0 h1 h2 h3 HK0 HL0 hb1
  go_wp2_with ((with_reducible refine wpList_putKv (g := R) (k := kn) (v := a) HVL.out HK8.out ?_ ?_ HB0.out ?_); exact rfl; exact rfl)
  intro w2 hb0 hk2
  have hb2 := hk2.heap HB2.out (by simp)
  have hb3 := hk2.heap HB3.out (by simp)
  have hkn := HK1.out.trans hk2 (fun q hq => .inr (by have := HRE.out; simp at hq; omega))
  clear HB0 HB2 HB3 HK1 c2 c3 hk2
  rw [← HO.out] at hb0
  have HB0 := Lib.hid hb0; have HB2 := Lib.hid hb2; have HB3 := Lib.hid hb3; have HK1 := Lib.hid hkn
  clear hb0 hb2 hb3 hkn
  go_wp2_with (first
    | ((with_reducible refine wpList_loadK (g := R) rfl ?_ HB0.out ?_); exact rfl)
    | ((with_reducible refine wpList_putK (g := R + 2) (h := (H2 : Int)) (vs := (kvV (m.set kn (some a)))) ?_ ?_ HB2.out ?_); exact rfl; exact rfl))
  intro W2 hW2 hk2
  have HW2 := Lib.hid hW2
  have HA2 := Lib.hid (hk2.heap HB3.out (by simp))
  have HK2 := Lib.hid (HK1.out.trans hk2 (fun q hq => .inr (by have := HRE.out; simp at hq; omega)))
  clear hW2 hk2
  go_wp2_with ((with_reducible refine wpList_putN (g := R + 3) (old := ⟨0, 0⟩) ⟨0, 0⟩ ?_ ?_ HA2.out ?_); exact rfl; exact rfl)
  intro W3 hW3 hk3
  have HW3 := Lib.hid hW3
  have HS3 := Lib.hid (hk3.heap HW2.out (by simp))
  have HK3 := Lib.hid (HK2.out.trans hk3 (fun q hq => .inr (by have := HRE.out; simp at hq; omega)))
  clear hW3 hk3
  go_wp2_with fail
  try simp only [Exit.inBlock, Exit.then]
  exact bodyPost_ret (results_kv2 rfl _ _ (R + 2) (R + 3) ⟨0, 0⟩ rfl HS3.out rfl HW3.out) rfl ⟨(by unfold kvVal; rw [← HH2.out]), HK3.out⟩
theorem kvDel_none (w : World) {m : Kv} (hm : KvIn m) (f o a b : Int) {kn : Nat} (hk8 : kn < 8) (ho : m.getD kn none = none) :
    Calls Try.prog 55 #[.agg (kvA (kvH m) (kvV m)), .agg #[.int .u8 f, .int .u8 o, .int .u8 (kn : Int), .int .u16 a, .int .u16 b]] w (KsPost w m ⟨4, 0⟩) := by
  obtain ⟨W, hW⟩ : ∃ W, W = (((w.alloc (.cells (kvA (kvH m) (kvV m)) 25)).alloc (.cells #[.int .u8 f, .int .u8 o, .int .u8 (kn : Int), .int .u16 a, .int .u16 b] 27)).alloc (.cells (kvA 0 []) 25)).alloc (.cells (ansC ⟨0, 0⟩).toArray 32) := ⟨_, rfl⟩
  obtain ⟨hk0, h0, h1, h2, h3, hz⟩ := vars_k w _ _ _ W hW
  simp only [show (ansC ⟨0, 0⟩).toArray = #[Value.int .u8 0, .int .u16 0] from rfl, show kvA 0 [] = #[Value.int .u8 0, .int .u16 0, .int .u16 0, .int .u16 0, .int .u16 0, .int .u16 0, .int .u16 0, .int .u16 0, .int .u16 0] from rfl] at hW
  have h0' := h0
  rw [hW] at h0'
  have HL0 := Lib.hid h0'
  obtain ⟨R, hR⟩ : ∃ R, R = w.heap.size := ⟨_, rfl⟩
  rw [← hR] at h0 h1 h2 h3 hz
  have HWW := Lib.hid hW; have HRE := Lib.hid hR; have HK0 := Lib.hid hk0
  have HZ := Lib.hid hz; have HO := Lib.hid ho
  have HHAS := Lib.hid (fun w => kvHas_kv w hm (key := (kn : Int)) (Int.natCast_nonneg _))
  clear h0' hW hR hk0 hz
  go_enter Try.func55, Try.ntmps55
  go_wp2_with ((with_reducible refine wpList_loadK (g := w.heap.size) rfl ?_ HL0.out ?_); exact rfl)
  refine (HHAS.out _).mono ?_; rintro e w1 ⟨rfl, hk1⟩
  rw [← HWW.out] at hk1
  rw [← HRE.out, Int.toNat_natCast, HO.out]
  simp only [Option.isSome_none, Option.isSome_some]
  have HB0 := Lib.hid (hk1.heap h0 (by simp)); have HB2 := Lib.hid (hk1.heap h2 (by simp)); have HB3 := Lib.hid (hk1.heap h3 (by simp))
  have hb1 := hk1.heap h1 (by simp)
  have c2 : w1.cell? ⟨R + 1, 2, none⟩ = some (.int .u8 (kn : Int)) := cell_lit hb1 2 rfl
  have c3 : w1.cell? ⟨R + 1, 3, none⟩ = some (.int .u16 a) := cell_lit hb1 3 rfl
  have c4 : w1.cell? ⟨R + 1, 4, none⟩ = some (.int .u16 b) := cell_lit hb1 4 rfl
  have HK1 := Lib.hid (HK0.out.trans hk1 (FSub.refl _ _))
  clear h0 h1 h2 h3 hb1 hk1 HL0 HK0 HHAS
  go_wp2_with (first
    | ((with_reducible refine wpList_loadK (g := R) rfl ?_ HB0.out ?_); exact rfl)
    | ((with_reducible refine wpList_putK (g := R + 2) (h := kvH m) (vs := kvV m) ?_ ?_ HB2.out ?_); exact rfl; exact rfl))
  intro W2 hW2 hk2
  have HW2 := Lib.hid hW2
  have HA2 := Lib.hid (hk2.heap HB3.out (by simp))
  have HK2 := Lib.hid (HK1.out.trans hk2 (fun q hq => .inr (by have := HRE.out; simp at hq; omega)))
  clear hW2 hk2
  go_wp2_with ((with_reducible refine wpList_putN (g := R + 3) (old := ⟨0, 0⟩) ⟨4, 0⟩ ?_ ?_ HA2.out ?_); exact rfl; exact rfl)
  intro W3 hW3 hk3
  have HW3 := Lib.hid hW3
  have HS3 := Lib.hid (hk3.heap HW2.out (by simp))
  have HK3 := Lib.hid (HK2.out.trans hk3 (fun q hq => .inr (by have := HRE.out; simp at hq; omega)))
  clear hW3 hk3
  go_wp2_with fail
  try simp only [Exit.inBlock, Exit.then]
  exact bodyPost_ret (results_kv2 rfl _ _ (R + 2) (R + 3) ⟨4, 0⟩ rfl HS3.out rfl HW3.out) rfl ⟨rfl, HK3.out⟩
theorem kvDel_some (w : World) {m : Kv} (hm : KvIn m) (f o a b : Int) {kn : Nat} (hk8 : kn < 8) {v : Int} (ho : m.getD kn none = some v) :
    Calls Try.prog 55 #[.agg (kvA (kvH m) (kvV m)), .agg #[.int .u8 f, .int .u8 o, .int .u8 (kn : Int), .int .u16 a, .int .u16 b]] w (KsPost w (m.set kn none) ⟨3, 0⟩) := by
  have HVS := Lib.hid (show kvV (m.set kn none) = (kvV m).set kn 0 from kvV_set m kn none)
  have HSH := Lib.hid (shl8 hk8)
  have hnt := kvH_del hm.len hk8
  obtain ⟨H2, hH2⟩ : ∃ H2, H2 = kvH (m.set kn none) := ⟨_, rfl⟩
  rw [← hH2] at hnt
  have HNT := Lib.hid hnt; have HH2 := Lib.hid hH2
  clear hnt hH2
  have HVL := Lib.hid (show (kvV m).length = 8 by rw [kvV_len, hm.len]); have HK8 := Lib.hid hk8
  obtain ⟨W, hW⟩ : ∃ W, W = (((w.alloc (.cells (kvA (kvH m) (kvV m)) 25)).alloc (.cells #[.int .u8 f, .int .u8 o, .int .u8 (kn : Int), .int .u16 a, .int .u16 b] 27)).alloc (.cells (kvA 0 []) 25)).alloc (.cells (ansC ⟨0, 0⟩).toArray 32) := ⟨_, rfl⟩
  obtain ⟨hk0, h0, h1, h2, h3, hz⟩ := vars_k w _ _ _ W hW
  simp only [show (ansC ⟨0, 0⟩).toArray = #[Value.int .u8 0, .int .u16 0] from rfl, show kvA 0 [] = #[Value.int .u8 0, .int .u16 0, .int .u16 0, .int .u16 0, .int .u16 0, .int .u16 0, .int .u16 0, .int .u16 0, .int .u16 0] from rfl] at hW
  have h0' := h0
  rw [hW] at h0'
  have HL0 := Lib.hid h0'
  obtain ⟨R, hR⟩ : ∃ R, R = w.heap.size := ⟨_, rfl⟩
  rw [← hR] at h0 h1 h2 h3 hz
  have HWW := Lib.hid hW; have HRE := Lib.hid hR; have HK0 := Lib.hid hk0
  have HZ := Lib.hid hz; have HO := Lib.hid ho
  have HHAS := Lib.hid (fun w => kvHas_kv w hm (key := (kn : Int)) (Int.natCast_nonneg _))
  clear h0' hW hR hk0 hz
  generalize 2 ^ kn = q at *
  go_enter Try.func55, Try.ntmps55
  go_wp2_with ((with_reducible refine wpList_loadK (g := w.heap.size) rfl ?_ HL0.out ?_); exact rfl)
  refine (HHAS.out _).mono ?_; rintro e w1 ⟨rfl, hk1⟩
  rw [← HWW.out] at hk1
  rw [← HRE.out, Int.toNat_natCast, HO.out]
  simp only [Option.isSome_none, Option.isSome_some]
  have HB0 := Lib.hid (hk1.heap h0 (by simp)); have HB2 := Lib.hid (hk1.heap h2 (by simp)); have HB3 := Lib.hid (hk1.heap h3 (by simp))
  have hb1 := hk1.heap h1 (by simp)
  have c2 : w1.cell? ⟨R + 1, 2, none⟩ = some (.int .u8 (kn : Int)) := cell_lit hb1 2 rfl
  have c3 : w1.cell? ⟨R + 1, 3, none⟩ = some (.int .u16 a) := cell_lit hb1 3 rfl
  have c4 : w1.cell? ⟨R + 1, 4, none⟩ = some (.int .u16 b) := cell_lit hb1 4 rfl
  have HK1 := Lib.hid (HK0.out.trans hk1 (FSub.refl _ _))
  clear h0 h1 h2 h3 hb1 hk1 HL0 HK0 HHAS
  have hb1 := c2
  clear hk8
  go_wp2_with (first
    | ((with_reducible refine wpList_loadKh (g := R) ?_ HB0.out ?_); exact rfl)
    | ((with_reducible refine wpList_shl8 (v := (q : Int)) ?_ ?_ HSH.out ?_); exact rfl; exact rfl)
    | ((with_reducible refine wpList_not8 (v := (H2 : Int)) ?_ ?_ HNT.out ?_); exact rfl; exact rfl)
    | ((with_reducible refine wpList_putKh (g := R) (h2 := (H2 : Int)) ?_ ?_ HB0.out ?_); exact rfl; exact rfl))
  intro w2 hb0 hk2
  have HB0' := Lib.hid hb0
  have HB2' := Lib.hid (hk2.heap HB2.out (by simp)); have HB3' := Lib.hid (hk2.heap HB3.out (by simp))
  have HK1' := Lib.hid (HK1.out.trans hk2 (fun q hq => .inr (by have := HRE.out; simp at hq; omega)))
  have d2 : w2.cell? ⟨R + 1, 2, none⟩ = some (.int .u8 (kn : Int)) := hk2.cell c2 (by simp)
  have hlt : (kn : Int) < 8 := by have := HK8.out; omega
  clear hb0 hk2 HB0 HB2 HB3 HK1 c2 c3 c4 hb1
  go_wp2_with ((with_reducible refine wpList_putKv (g := R) (k := kn) (v := 0) HVL.out HK8.out ?_ ?_ HB0'.out ?_); exact rfl; exact rfl)
  intro w3 hb0 hk3
  have hb2 := hk3.heap HB2'.out (by simp)
  have hb3 := hk3.heap HB3'.out (by simp)
  have hkn := HK1'.out.trans hk3 (fun q hq => .inr (by have := HRE.out; simp at hq; omega))
  rw [← HVS.out] at hb0
  clear HB0' HB2' HB3' HK1' d2 hk3
  have HB0 := Lib.hid hb0; have HB2 := Lib.hid hb2; have HB3 := Lib.hid hb3; have HK1 := Lib.hid hkn
  clear hb0 hb2 hb3 hkn
  go_wp2_with (first
    | ((with_reducible refine wpList_loadK (g := R) rfl ?_ HB0.out ?_); exact rfl)
    | ((with_reducible refine wpList_putK (g := R + 2) (h := (H2 : Int)) (vs := (kvV (m.set kn none))) ?_ ?_ HB2.out ?_); exact rfl; exact rfl))
  intro W2 hW2 hk2
  have HW2 := Lib.hid hW2
  have HA2 := Lib.hid (hk2.heap HB3.out (by simp))
  have HK2 := Lib.hid (HK1.out.trans hk2 (fun q hq => .inr (by have := HRE.out; simp at hq; omega)))
  clear hW2 hk2
  go_wp2_with ((with_reducible refine wpList_putN (g := R + 3) (old := ⟨0, 0⟩) ⟨3, 0⟩ ?_ ?_ HA2.out ?_); exact rfl; exact rfl)
  intro W3 hW3 hk3
  have HW3 := Lib.hid hW3
  have HS3 := Lib.hid (hk3.heap HW2.out (by simp))
  have HK3 := Lib.hid (HK2.out.trans hk3 (fun q hq => .inr (by have := HRE.out; simp at hq; omega)))
  clear hW3 hk3
  go_wp2_with fail
  try simp only [Exit.inBlock, Exit.then]
  exact bodyPost_ret (results_kv2 rfl _ _ (R + 2) (R + 3) ⟨3, 0⟩ rfl HS3.out rfl HW3.out) rfl ⟨(by unfold kvVal; rw [← HH2.out]), HK3.out⟩
end Go.Proofs.Ytnmpekbkahkapaa
