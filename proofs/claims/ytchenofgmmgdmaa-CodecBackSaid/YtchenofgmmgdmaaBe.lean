/-
  awake: the chapter's small answers hold.
-/
import Derived.Test.YtchenofgmmgdmaaBd
namespace Go.Proofs.Ytchenofgmmgdmaa
open Go.RowKit
theorem wat_new (w : World) : WAt (w.alloc (.cells #[.slice none 0 0, .int .i64 0, .pointer none] 32)) w.heap.size [w.heap.size] (some []) :=
  .inl ⟨heap_alloc_new w _, rfl, rfl⟩
set_option maxHeartbeats 1000000 in
set_option maxRecDepth 100000 in
theorem awake_true (w : World) : Calls Try.prog 8 #[] w fun e w' => e = .returned (.bool true) ∧ Keeps [] w w' := by
  have h0 := wat_new w
  have hk0 : Keeps [] w (w.alloc (.cells #[.slice none 0 0, .int .i64 0, .pointer none] 32)) := (Keeps.refl _ _).alloc _
  go_enter Try.func8, Try.ntmps8
  go_wp2_with fail
  refine (U16_any _ _ _ _ h0 258 (by omega) (by omega) (fun xs e => by cases e; simp)).mono ?_
  rintro e w1 ⟨rfl, F1, h1, hk1, hs1⟩
  have hkk : Keeps [] w w1 := hk0.trans hk1 (fun g hg => .inr (by simp at hg; omega))
  go_wp2_with fail
  have ha : Keeps [] w1 (w1.alloc (.cells #[.int .u16 1, .int .u16 256] 54)) := (Keeps.refl _ _).alloc _
  refine (WList_any _ _ F1 _ (h1.keeps ha (by simp)) (some ⟨w1.heap.size, 0, none⟩) 2 2 [1, 256] rfl ?_ ?_ (fun xs e _ => by cases e; simp [be2])).mono ?_
  · refine .inr ⟨w1.heap.size, 0, rfl, fun j hj => ?_⟩
    match j, hj with
    | 0, _ => simp
    | 1, _ => simp
    | j + 2, hj => simp at hj; omega
  · intro j
    match j with
    | 0 => simp
    | 1 => simp
    | j + 2 => simp
  rintro e w2 ⟨rfl, F2, h2, hk2, hs2⟩
  have hst : (if [(1 : Int), 256].length ≤ 255 then Option.map (fun x => x ++ beList [1, 256]) (Option.map (fun x => x ++ be2 258) (some [])) else none) = some [1, 2, 2, 0, 1, 1, 0] := by decide
  rw [hst] at h2
  have hB := Bytes_any _ _ F2 _ h2
  have hss : strOfNums ((some [1, 2, 2, 0, 1, 1, 0]).getD ([] : List Int)) = ⟨#[1, 2, 2, 0, 1, 1, 0]⟩ := rfl
  rw [hss] at hB
  have HB := Lib.hid hB; clear hB hss hst
  have hk3 : Keeps [] w w2 := (hkk.alloc _).trans hk2 (fun g hg => .inr (by have := hs1 g hg; simp at this; omega))
  clear hk2 hs2 hk1 hs1 h1 h0 ha hkk hk0
  go_wp2_with fail
  refine HB.out.mono ?_
  rintro e w3 ⟨rfl, rfl⟩
  have hk4 : Keeps [] w w2.drew := hk3.drew
  clear HB
  generalize w2.drew = w3 at *
  go_wp2_with fail
  refine (Over_any _ _).mono ?_
  rintro e w4 ⟨rfl, ⟨cap, hR⟩, hk5⟩
  have hk6 := hk4.step hk5 (fun _ h => h)
  have hx : nums ⟨#[1, 2, 7]⟩ = [1, 2, 7] := rfl
  rw [hx] at hR
  have hin : InU8 [1, 2, 7] := by
    intro j
    match j with
    | 0 => simp
    | 1 => simp
    | 2 => simp
    | j + 3 => simp
  have hU := RU16_any _ _ _ _ _ _ _ hR hin (by simp)
  have e1 : rdVal 2 [1, 2, 7] 0 0 = 258 := rfl
  have e2 : rdErr 2 [1, 2, 7] 0 0 = 0 := rfl
  have e3 : rdPos 2 [1, 2, 7] 0 0 = 2 := rfl
  rw [e1, e2, e3] at hU
  have HU := Lib.hid hU; clear hU e1 e2 e3 hx
  go_wp2_with fail
  refine HU.out.mono ?_
  rintro e w5 ⟨rfl, hR2, hk7⟩
  have hk8 := hk6.trans hk7 (fun g hg => .inr (by have := hk4.size; simp at hg; omega))
  go_wp2_with fail
  refine (At_any _ _ _ _ _ _ _ hR2).mono ?_
  rintro e w6 ⟨rfl, rfl⟩
  go_wp2_with fail
  refine (Left_any _ _ _ _ _ _ _ hR2 (by simp)).mono ?_
  rintro e w6 ⟨rfl, n, rfl⟩
  go_wp2_with fail
  go_ret
  exact ⟨rfl, hk8.drewN n⟩
end Go.Proofs.Ytchenofgmmgdmaa
