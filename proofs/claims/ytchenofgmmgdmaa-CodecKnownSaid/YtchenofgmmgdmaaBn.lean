/-
  CodecKnown returns true: the given statement CodecKnownSaid.
  Conditions: none; it has no arguments.
-/
import Derived.Test.YtchenofgmmgdmaaBm
import Derived.Test.YtchenofgmmgdmaaBe
import Derived.Test.YtchenofgmmgdmaaBo
import Derived.Test.YtchenofgmmgdmaaBi
namespace Go.Proofs.Ytchenofgmmgdmaa
open Go.ChangeShapes Go.WideShapes Go.ChangeAt Go.RowKit
/-- Small lists of bytes are bytes. -/
theorem inu8_of {l : List Int} (h : l.all (fun c => decide (0 ≤ c) && decide (c < 256)) = true) : InU8 l := by
  intro j
  by_cases hj : j < l.length
  · have e : l.getD j 0 = l[j] := by simp [List.getD, hj]
    rw [e]
    have := List.all_eq_true.1 h l[j] (List.getElem_mem hj)
    simpa using this
  · have e : l.getD j 0 = 0 := by rw [List.getD, List.getElem?_eq_none (by omega)]; rfl
    rw [e]; omega
theorem inu16_two : InU16 [1, 256] := by
  intro j
  match j with
  | 0 => simp
  | 1 => simp
  | j + 2 => simp
theorem two_src (w : World) : Src16 (w.alloc (.cells #[.int .u16 1, .int .u16 256] 54)) (some ⟨w.heap.size, 0, none⟩) [1, 256] := by
  refine .inr ⟨w.heap.size, 0, rfl, fun j hj => ?_⟩
  match j, hj with
  | 0, _ => simp
  | 1, _ => simp
  | j + 2, hj => simp at hj; omega
set_option maxHeartbeats 4000000 in
set_option maxRecDepth 100000 in
theorem known_true (w : World) : Calls Try.prog 5 #[] w fun e w' => e = .returned (.bool true) ∧ Keeps [] w w' := by
  have h0 := wat_new w
  have hk0 : Keeps [] w (w.alloc (.cells #[.slice none 0 0, .int .i64 0, .pointer none] 32)) := (Keeps.refl _ _).alloc _
  have hmk := fun (w : World) => (show (Instr.makeSlice 36 (.int .i64 256) (.int .i64 256)).run Try.prog w = .ok (.slice (some ⟨w.heap.size, 0, none⟩) 256 256) (w.alloc (.cells (madeCells #[.int .u16 0] 256) 54)) by
    obtain ⟨i0, hi, hz0, hz1, hz2⟩ := info_parts Try.info16
    have h := run_make (P := Try.prog) w 36 54 i0 (.int .u16 0) Try.underlying36 hi hz0 .i64 .i64 256 256 (by omega) (Int.le_refl _) (by rw [hz2]; omega) (by omega)
    simpa [hz1, Value.cells] using h)
  go_enter Try.func5, Try.ntmps5
  go_wp2_with fail
  refine (U16_any _ _ _ _ h0 258 (by omega) (by omega) (fun xs e => by cases e; simp)).mono ?_
  rintro e w1 ⟨rfl, F1, h1, hk1, hs1⟩
  have k1 : Keeps [] w w1 := hk0.trans hk1 (fun g hg => .inr (by simp at hg; omega))
  have f1 : FSub F1 [] w.heap.size := fun g hg => .inr ((hs1 g hg).elim (fun h => by simp at h; omega) (fun h => by simp at h; omega))
  clear hk0 h0 hk1 hs1
  go_wp2_with fail
  refine (U8_any _ _ _ _ h1 7 (by omega) (by omega) (fun xs e => by cases e; simp [be2])).mono ?_
  rintro e w2 ⟨rfl, F2, h2, hk2, hs2⟩
  have k2 : Keeps [] w w2 := k1.trans hk2 f1
  have f2 : FSub F2 [] w.heap.size := hs2.trans f1 k1.size (Nat.le_refl _)
  clear hk2 hs2 h1 k1 f1
  have ha : Keeps [] w2 (w2.alloc (.cells #[.int .u16 1, .int .u16 256] 54)) := (Keeps.refl _ _).alloc _
  go_wp2_with fail
  refine (WList_any _ _ F2 _ (h2.keeps ha (by simp)) (some ⟨w2.heap.size, 0, none⟩) 2 2 [1, 256] rfl (two_src w2) inu16_two (fun xs e _ => by cases e; simp [be2, be1])).mono ?_
  rintro e w3 ⟨rfl, F3, h3, hk3, hs3⟩
  have k3 : Keeps [] w w3 := (k2.alloc _).trans hk3 f2
  have f3 : FSub F3 [] w.heap.size := hs3.trans f2 (by have := k2.size; simp; omega) (Nat.le_refl _)
  have hst : (if [(1 : Int), 256].length ≤ 255 then Option.map (fun x => x ++ beList [1, 256]) (Option.map (fun x => x ++ be1 7) (Option.map (fun x => x ++ be2 258) (some []))) else none) = some [1, 2, 7, 2, 0, 1, 1, 0] := by decide
  rw [hst] at h3
  clear hk3 hs3 h2 k2 f2 ha hst
  go_wp2_with fail
  refine (WRaw_any _ _ F3 _ h3 ⟨#[97, 98]⟩ (fun xs e => by cases e; decide)).mono ?_
  rintro e w4 ⟨rfl, F4, h4, hk4, hs4⟩
  have k4 : Keeps [] w w4 := k3.trans hk4 f3
  have f4 : FSub F4 [] w.heap.size := hs4.trans f3 k3.size (Nat.le_refl _)
  have hst : Option.map (fun x => x ++ nums ⟨#[97, 98]⟩) (some [1, 2, 7, 2, 0, 1, 1, 0]) = some [1, 2, 7, 2, 0, 1, 1, 0, 97, 98] := rfl
  rw [hst] at h4
  have hB := Bytes_any _ _ F4 _ h4
  have hss : strOfNums ((some [1, 2, 7, 2, 0, 1, 1, 0, 97, 98]).getD ([] : List Int)) = ⟨#[1, 2, 7, 2, 0, 1, 1, 0, 97, 98]⟩ := rfl
  have hzz : (if (some [1, 2, 7, 2, 0, 1, 1, 0, 97, 98] : Option (List Int)).isSome then (0 : Int) else 3) = 0 := rfl
  rw [hss, hzz] at hB
  have HB := Lib.hid hB
  clear hB hss hzz hst hk4 hs4 h3 k3 f3
  go_wp2_with fail
  refine HB.out.mono ?_
  rintro e w5 ⟨rfl, rfl⟩
  replace h4 := h4.keeps (G := []) (Keeps.refl [] w4).drew (by simp)
  replace k4 := k4.drew
  clear HB
  generalize w4.drew = w5 at *
  have ha : Keeps [] w5 (w5.alloc (.cells (madeCells #[.int .u16 0] 256) 54)) := (Keeps.refl _ _).alloc _
  go_wp2_with fail
  refine (WList_long _ _ F4 _ (h4.keeps ha (by simp)) _ 256 256 (by omega)).mono ?_
  rintro e w6 ⟨rfl, h6, hk6⟩
  have k6 : Keeps [] w w6 := (k4.alloc _).trans hk6 f4
  clear ha hk6 h4 k4 f4 hmk
  have f6 : FSub [w.heap.size] [] w.heap.size := fun g hg => .inr (by simp at hg; omega)
  go_wp2_with fail
  refine (U32_any _ _ _ _ h6 1 (by omega) (by omega) (fun xs e => by cases e)).mono ?_
  rintro e w7 ⟨rfl, F7, h7, hk7, hs7⟩
  have k7 : Keeps [] w w7 := k6.trans hk7 f6
  have hB := Bytes_any _ _ F7 _ h7
  have hss : strOfNums ((Option.map (fun x => x ++ be4 1) (none : Option (List Int))).getD ([] : List Int)) = ⟨#[]⟩ := rfl
  have hzz : (if (Option.map (fun x => x ++ be4 1) (none : Option (List Int))).isSome then (0 : Int) else 3) = 3 := rfl
  rw [hss, hzz] at hB
  have HB := Lib.hid hB
  clear hB hss hzz hk7 hs7 h6 k6 f6
  go_wp2_with fail
  refine HB.out.mono ?_
  rintro e w8 ⟨rfl, rfl⟩
  replace k7 := k7.drew
  clear HB h7
  generalize w7.drew = w8 at *
  go_wp2_with fail
  refine (Over_any _ _).mono ?_
  rintro e wA ⟨rfl, ⟨capA, rA⟩, kkA⟩
  have hx : nums ⟨#[1, 2, 7]⟩ = [1, 2, 7] := rfl
  rw [hx] at rA
  clear hx
  have kA := k7.step kkA (fun _ h => h)
  have zA := kkA.size
  have bA := lt_of_block rA.blk
  have uA : w.heap.size ≤ w8.heap.size := k7.size
  generalize hrA : w8.heap.size + 1 = ra at *
  generalize hgA : w8.heap.size = ga at *
  go_wp2_with fail
  refine (Over_any _ _).mono ?_
  rintro e wB ⟨rfl, ⟨capB, rB⟩, kkB⟩
  have hx : nums ⟨#[2, 0, 1, 0]⟩ = [2, 0, 1, 0] := rfl
  rw [hx] at rB
  clear hx
  replace rA := rA.keeps kkB (by simp) (by simp)
  have kB := kA.step kkB (fun _ h => h)
  have bB := lt_of_block rB.blk
  generalize hrB : wA.heap.size + 1 = rb at *
  generalize hgB : wA.heap.size = gb at *
  go_wp2_with fail
  refine (Over_any _ _).mono ?_
  rintro e wC ⟨rfl, ⟨capC, rC⟩, kkC⟩
  have hx : nums ⟨#[97, 98]⟩ = [97, 98] := rfl
  rw [hx] at rC
  clear hx
  replace rA := rA.keeps kkC (by simp) (by simp)
  replace rB := rB.keeps kkC (by simp) (by simp)
  have kC := kB.step kkC (fun _ h => h)
  generalize hrC : wB.heap.size + 1 = rc at *
  generalize hgC : wB.heap.size = gc at *
  go_wp2_with fail
  have o1 : ga < ra := by omega
  have o2 : gb < rb := by omega
  have o3 : gc < rc := by omega
  have o4 : w.heap.size ≤ ga := uA
  clear hrA hgA hrB hgB hrC hgC kkA kkB kkC kA kB k7 uA zA
  have iA : InU8 [1, 2, 7] := inu8_of (by decide)
  have iB : InU8 [2, 0, 1, 0] := inu8_of (by decide)
  have IA := Lib.hid iA; have IB := Lib.hid iB; clear iA iB
  have hU := RU16_any _ ra ga capA 0 [1, 2, 7] 0 rA IA.out (by simp)
  rw [show rdVal 2 [1, 2, 7] 0 0 = 258 from rfl] at hU
  rw [show rdErr 2 [1, 2, 7] 0 0 = 0 from rfl] at hU
  rw [show rdPos 2 [1, 2, 7] 0 0 = 2 from rfl] at hU
  have HU := Lib.hid hU; clear hU
  refine HU.out.mono ?_
  clear HU
  clear rA
  rintro e v1 ⟨rfl, rA, hk⟩
  replace rB := rB.keeps hk (by simp; omega) (by simp; omega)
  replace rC := rC.keeps hk (by simp; omega) (by simp; omega)
  replace kC := kC.trans hk (fun g hg => .inr (by simp at hg; omega))
  clear hk
  go_wp2_with fail
  have hU := RU16_any _ ra ga capA 2 [1, 2, 7] 0 rA IA.out (by simp)
  rw [show rdVal 2 [1, 2, 7] 0 2 = 0 from rfl] at hU
  rw [show rdErr 2 [1, 2, 7] 0 2 = 5 from rfl] at hU
  rw [show rdPos 2 [1, 2, 7] 0 2 = 2 from rfl] at hU
  have HU := Lib.hid hU; clear hU
  refine HU.out.mono ?_
  clear HU
  clear rA
  rintro e v2 ⟨rfl, rA, hk⟩
  replace rB := rB.keeps hk (by simp; omega) (by simp; omega)
  replace rC := rC.keeps hk (by simp; omega) (by simp; omega)
  replace kC := kC.trans hk (fun g hg => .inr (by simp at hg; omega))
  clear hk
  go_wp2_with fail
  have hU := Err_any _ ra ga capA 2 [1, 2, 7] 5 rA
  have HU := Lib.hid hU; clear hU
  refine HU.out.mono ?_
  clear HU
  rintro e v3 ⟨rfl, rfl⟩
  go_wp2_with fail
  have hU := At_any _ ra ga capA 2 [1, 2, 7] 5 rA
  have HU := Lib.hid hU; clear hU
  refine HU.out.mono ?_
  clear HU
  rintro e v4 ⟨rfl, rfl⟩
  go_wp2_with fail
  have hU := RU8_any _ ra ga capA 2 [1, 2, 7] 5 rA IA.out (by simp)
  rw [show rdVal 1 [1, 2, 7] 5 2 = 0 from rfl] at hU
  rw [show rdErr 1 [1, 2, 7] 5 2 = 5 from rfl] at hU
  rw [show rdPos 1 [1, 2, 7] 5 2 = 2 from rfl] at hU
  have HU := Lib.hid hU; clear hU
  refine HU.out.mono ?_
  clear HU
  clear rA
  rintro e v5 ⟨rfl, rA, hk⟩
  replace rB := rB.keeps hk (by simp; omega) (by simp; omega)
  replace rC := rC.keeps hk (by simp; omega) (by simp; omega)
  replace kC := kC.trans hk (fun g hg => .inr (by simp at hg; omega))
  clear hk
  go_wp2_with fail
  have hU := Left_any _ ra ga capA 2 [1, 2, 7] 5 rA (by simp)
  have HU := Lib.hid hU; clear hU
  refine HU.out.mono ?_
  clear HU
  rintro e v6 ⟨rfl, dn, rfl⟩
  replace rA := rA.drewN dn
  replace rB := rB.drewN dn
  replace rC := rC.drewN dn
  replace kC := kC.drewN dn
  generalize hz : World.drewN _ dn = v6 at *
  clear hz
  go_wp2_with fail
  have hU := RList_torn _ rb gb capB 0 [2, 0, 1, 0] rB IB.out (by simp) (by unfold LWhole; decide)
  have HU := Lib.hid hU; clear hU
  refine HU.out.mono ?_
  clear HU
  clear rB
  rintro e v7 ⟨rfl, rB, hk⟩
  replace rA := rA.keeps hk (by simp; omega) (by simp; omega)
  replace rC := rC.keeps hk (by simp; omega) (by simp; omega)
  replace kC := kC.trans hk (fun g hg => .inr (by simp at hg; omega))
  clear hk
  go_wp2_with fail
  have hU := Err_any _ rb gb capB 0 [2, 0, 1, 0] 5 rB
  have HU := Lib.hid hU; clear hU
  refine HU.out.mono ?_
  clear HU
  rintro e v8 ⟨rfl, rfl⟩
  go_wp2_with fail
  have hU := At_any _ rb gb capB 0 [2, 0, 1, 0] 5 rB
  have HU := Lib.hid hU; clear hU
  refine HU.out.mono ?_
  clear HU
  rintro e v9 ⟨rfl, rfl⟩
  go_wp2_with fail
  have hU := Close_any _ rb gb capB 0 [2, 0, 1, 0] 5 rB (by simp)
  rw [show closeOf 5 0 ([2, 0, 1, 0] : List Int).length = 5 from rfl] at hU
  have HU := Lib.hid hU; clear hU
  refine HU.out.mono ?_
  clear HU
  rintro e v10 ⟨rfl, dn, rfl⟩
  replace rA := rA.drewN dn
  replace rB := rB.drewN dn
  replace rC := rC.drewN dn
  replace kC := kC.drewN dn
  generalize hz : World.drewN _ dn = v10 at *
  clear hz
  go_wp2_with fail
  have hU := RRaw_any _ rc gc capC 0 [97, 98] 0 rC (by simp) (-1)
  rw [show strOfNums (rdRaw (-1 : Int).toNat [97, 98] 0 0) = ⟨#[]⟩ from rfl] at hU
  rw [show rdErr (-1 : Int).toNat [97, 98] 0 0 = 0 from rfl] at hU
  rw [show rdPos (-1 : Int).toNat [97, 98] 0 0 = 0 from rfl] at hU
  have HU := Lib.hid hU; clear hU
  refine HU.out.mono ?_
  clear HU
  clear rC
  rintro e v11 ⟨rfl, rC, hk⟩
  replace rA := rA.keeps hk (by simp; omega) (by simp; omega)
  replace rB := rB.keeps hk (by simp; omega) (by simp; omega)
  replace kC := kC.trans hk (fun g hg => .inr (by simp at hg; omega))
  clear hk
  go_wp2_with fail
  have hU := RRaw_any _ rc gc capC 0 [97, 98] 0 rC (by simp) 1
  rw [show strOfNums (rdRaw (1 : Int).toNat [97, 98] 0 0) = ⟨#[97]⟩ from rfl] at hU
  rw [show rdErr (1 : Int).toNat [97, 98] 0 0 = 0 from rfl] at hU
  rw [show rdPos (1 : Int).toNat [97, 98] 0 0 = 1 from rfl] at hU
  have HU := Lib.hid hU; clear hU
  refine HU.out.mono ?_
  clear HU
  clear rC
  rintro e v12 ⟨rfl, rC, hk⟩
  replace rA := rA.keeps hk (by simp; omega) (by simp; omega)
  replace rB := rB.keeps hk (by simp; omega) (by simp; omega)
  replace kC := kC.trans hk (fun g hg => .inr (by simp at hg; omega))
  clear hk
  go_wp2_with fail
  have hU := Close_any _ rc gc capC 1 [97, 98] 0 rC (by simp)
  rw [show closeOf 0 1 ([97, 98] : List Int).length = 4 from rfl] at hU
  have HU := Lib.hid hU; clear hU
  refine HU.out.mono ?_
  clear HU
  rintro e v13 ⟨rfl, dn, rfl⟩
  replace rA := rA.drewN dn
  replace rB := rB.drewN dn
  replace rC := rC.drewN dn
  replace kC := kC.drewN dn
  generalize hz : World.drewN _ dn = v13 at *
  clear hz
  go_wp2_with fail
  have hU := RRaw_any _ rc gc capC 1 [97, 98] 0 rC (by simp) 1
  rw [show strOfNums (rdRaw (1 : Int).toNat [97, 98] 0 1) = ⟨#[98]⟩ from rfl] at hU
  rw [show rdErr (1 : Int).toNat [97, 98] 0 1 = 0 from rfl] at hU
  rw [show rdPos (1 : Int).toNat [97, 98] 0 1 = 2 from rfl] at hU
  have HU := Lib.hid hU; clear hU
  refine HU.out.mono ?_
  clear HU
  clear rC
  rintro e v14 ⟨rfl, rC, hk⟩
  replace rA := rA.keeps hk (by simp; omega) (by simp; omega)
  replace rB := rB.keeps hk (by simp; omega) (by simp; omega)
  replace kC := kC.trans hk (fun g hg => .inr (by simp at hg; omega))
  clear hk
  go_wp2_with fail
  have hU := Close_any _ rc gc capC 2 [97, 98] 0 rC (by simp)
  rw [show closeOf 0 2 ([97, 98] : List Int).length = 0 from rfl] at hU
  have HU := Lib.hid hU; clear hU
  refine HU.out.mono ?_
  clear HU
  rintro e v15 ⟨rfl, dn, rfl⟩
  replace rA := rA.drewN dn
  replace rB := rB.drewN dn
  replace rC := rC.drewN dn
  replace kC := kC.drewN dn
  generalize hz : World.drewN _ dn = v15 at *
  clear hz
  go_wp2_with fail
  clear rA rB rC IA IB o1 o2 o3 o4 bA bB
  generalize hV : v15 = W at *
  clear hV
  have h0 := wat_new W
  have hk0 : Keeps [] w (W.alloc (.cells #[.slice none 0 0, .int .i64 0, .pointer none] 32)) := kC.alloc _
  have z0 := kC.size
  go_wp2_with fail
  refine (U32_any _ _ _ _ h0 2147483650 (by omega) (by omega) (fun xs e => by cases e; simp)).mono ?_
  rintro e x1 ⟨rfl, G1, h1, hk1, hs1⟩
  have k1 : Keeps [] w x1 := hk0.trans hk1 (fun g hg => .inr (by simp at hg; omega))
  have f1 : FSub G1 [] w.heap.size := fun g hg => .inr ((hs1 g hg).elim (fun h => by simp at h; omega) (fun h => by simp at h; omega))
  clear hk0 h0 hk1 hs1
  go_wp2_with fail
  refine (WList_any _ _ G1 _ h1 none 0 0 [] rfl (.inl rfl) (fun j => by simp) (fun xs e _ => by cases e; simp [be4])).mono ?_
  rintro e x2 ⟨rfl, G2, h2, hk2, hs2⟩
  have k2 : Keeps [] w x2 := k1.trans hk2 f1
  have hst : (if ([] : List Int).length ≤ 255 then Option.map (fun x => x ++ beList []) (Option.map (fun x => x ++ be4 2147483650) (some [])) else none) = some [128, 0, 0, 2, 0] := by decide
  rw [hst] at h2
  have hB := Bytes_any _ _ G2 _ h2
  have hss : strOfNums ((some [128, 0, 0, 2, 0]).getD ([] : List Int)) = ⟨#[128, 0, 0, 2, 0]⟩ := rfl
  have hzz : (if (some [128, 0, 0, 2, 0] : Option (List Int)).isSome then (0 : Int) else 3) = 0 := rfl
  rw [hss, hzz] at hB
  have HB := Lib.hid hB
  clear hB hss hzz hst hk2 hs2 h1 k1 f1 z0 kC
  go_wp2_with fail
  refine HB.out.mono ?_
  rintro e x3 ⟨rfl, rfl⟩
  replace k2 := k2.drew
  clear HB h2
  generalize x2.drew = x3 at *
  go_wp2_with fail
  refine (WRaw_nil _ _).mono ?_
  rintro e x4 ⟨rfl, hk4⟩
  replace k2 := k2.step hk4 (fun _ h => h)
  clear hk4
  go_wp2_with fail
  refine (WList_nil _).mono ?_
  rintro e x5 ⟨rfl, hk5⟩
  replace k2 := k2.step hk5 (fun _ h => h)
  clear hk5
  go_wp2_with fail
  refine (Bytes_nil _).mono ?_
  rintro e x6 ⟨rfl, rfl⟩
  go_wp2_with fail
  refine (RU16_nil _).mono ?_
  rintro e x6 ⟨rfl, rfl⟩
  go_wp2_with fail
  refine (RRaw_nil _).mono ?_
  rintro e x6 ⟨rfl, rfl⟩
  go_wp2_with fail
  refine (RList_nil _).mono ?_
  rintro e x6 ⟨rfl, rfl⟩
  go_wp2_with fail
  refine (At_nil _).mono ?_
  rintro e x6 ⟨rfl, rfl⟩
  go_wp2_with fail
  refine (Left_nil _).mono ?_
  rintro e x6 ⟨rfl, rfl⟩
  go_wp2_with fail
  refine (Err_nil _).mono ?_
  rintro e x6 ⟨rfl, rfl⟩
  go_wp2_with fail
  refine (Close_nil _).mono ?_
  rintro e x6 ⟨rfl, rfl⟩
  go_wp2_with fail
  refine (awake_true _).mono ?_
  rintro e x6 ⟨rfl, hk6⟩
  go_wp2_with fail
  go_ret
  exact ⟨rfl, k2.step hk6 (fun _ h => h)⟩

set_option maxRecDepth 100000 in
theorem known_lifted (os : Os) (started : os.Started) (H : Type) (enc : TypeId × Value → H) :
    ReturnsInHanded {} Try.checked os 5 .any (Rows.codecKnownSpec.pre6 enc Try.prog Try.f5 Rows.codecKnownRow.domain false) (Rows.codecKnownSpec.post enc Try.prog Try.f5 false true false false) := by
  refine returnsInHanded_of_change (C := Try.checked) own0 started (by kernel_rfl) Try.func5
    (ChangeSpec.witness6 (enc := enc) (C := Try.checked) false ⟨#[], #[], []⟩ 8 (by kernel_rfl) (by kernel_rfl) (by kernel_rfl) (by kernel_rfl)) ?_
  intro W base args ds gs before hval0 hW hcnd _
  have hW' := hW
  obtain ⟨p, q, hA0, hV, rfl, hfz, hnd⟩ := hW
  have hA : DataW.TrodAll enc Try.prog W 0 (fun _ => true) true Try.f5.params.toList args.toList ds p := hA0
  rw [Try.params5] at hA
  obtain ⟨hargs, rfl, rfl⟩ := trodAll_nil hA
  obtain rfl : args = #[] := by cases args; simp_all
  obtain ⟨rfl, rfl⟩ := trodVars_none hV
  clear hA0 hval0
  refine (known_true W).mono fun e W' ⟨he, hk⟩ => ?_
  subst he
  have bel := hk.below
  exact ⟨_, rfl, _, _, _, [], _, [], hW', trodAll_mk1 (shut_bool Try.underlying4 _), trodAll_mk0, rfl, bel.frame _, fun h => by cases h⟩

theorem codecKnown_holds : Rows.CodecKnownSaid :=
  OpenClaim.holds_of_wide 5 Try.f5 rfl rfl rfl rfl rfl rfl rfl ⟨rfl, rfl, rfl, rfl, rfl⟩ rfl rfl rfl rfl rfl (by kernel_rfl) Try.func5 (by kernel_rfl)
    (of_decide_eq_true (by kernel_rfl)) (by unfold Func.isWrapper; first | (rw [if_pos (by decide +kernel)]; kernel_rfl) | (rw [if_neg (by decide +kernel)]; exact ⟨rfl, rfl⟩))
    (fun os started H enc _ => known_lifted os started H enc)
#print axioms codecKnown_holds
end Go.Proofs.Ytchenofgmmgdmaa
