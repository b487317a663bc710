/-
  The program's table: Settle.
-/
import Derived.Test.YtjiglbjpmclncaaO08
set_option linter.unusedSimpArgs false
set_option linter.unusedVariables false
namespace Go.Proofs.Ytjiglbjpmclncaa
open Go.RowKit Go.Maps
def rwLive (r : Rw) : Bool := decide (r.st ≠ 1)
theorem apart_at {L : List Rw} (hup : L.Pairwise fun a b => a.fr < b.fr ∧ a.id ≠ b.id) {k : Nat} (hk : k < L.length) (p : Rw → Bool) : ∀ x ∈ (L.take k).filter p ++ L.drop (k + 1), x.id ≠ L[k].id := by
  intro x hx
  have hp := List.pairwise_iff_getElem.1 hup
  rcases List.mem_append.1 hx with h | h
  · obtain ⟨j, hj, rfl⟩ := List.mem_take_iff_getElem.1 (List.mem_filter.1 h).1
    exact (hp j k (by omega) hk (by omega)).2
  · obtain ⟨j, hj, rfl⟩ := List.mem_iff_getElem.1 h
    rw [List.length_drop] at hj
    rw [List.getElem_drop]
    exact fun e => (hp k _ hk (by omega) (by omega)).2 e.symm
theorem wpList_build_rowP {ops : Array Oper} {rest : List Oper} {a : Act} {w : World} {Q : Exit → Act → World → Prop} {dst : Option Tmp} {ty : TypeId} {pos : String} {after : Array Edge} {y : Operand} {x : Rw} (hy : a.eval y = .agg (rwC x).toArray)
    (h : wpList Try.prog ops Q rest (a.put dst (.slice (some ⟨w.heap.size, 0, none⟩) 1 1)) (w.alloc (.cells (rwC x).toArray 42))) :
    wpList Try.prog ops Q ({ dst := dst, op := .buildSlice 49 1 #[(0, y)], type := ty, pos := pos, after := after, guard := none } :: rest) a w :=
  wpList_plain rfl fun _ hK => wp_build_rowP rfl hy (hK _ _ h)
set_option maxHeartbeats 8000000
set_option maxRecDepth 100000
theorem kpSettle_any (w : World) {kb mb : Nat} {v : Value} {t : Tb} (hK : KAt kb mb w v t) (hok : TbOk t) (hfew : t.L.length ≤ 1000000) :
    Calls Try.prog 31 #[.pointer (some ⟨kb, 0, none⟩)] w fun e w' => e = .returned (.int .i64 ((tbSettle t).1 : Int)) ∧ KPost kb mb w v (tbSettle t).2 w' := by
  obtain ⟨a, cap, rfl, hmid⟩ := hK.row.mid
  obtain ⟨c0, c1, c2⟩ := hK.cells
  have HKM := Lib.hid hK.ap; have HDIS := Lib.hid hK.dis; have HMAP := Lib.hid hK.map; have HKEPT := Lib.hid hK.kept
  have HUP := Lib.hid hok.up; have HROWS := Lib.hid hok.rows; have HKLT := Lib.hid hK.lt
  have HMID := Lib.hid hmid
  have HOWN := Lib.hid (show ∀ c : Nat, own (.slice a c cap) = own (.slice a 0 0) from fun c => by cases a <;> rfl)
  have hcap : t.L.length ≤ cap := hmid.1
  have hcap2 : cap ≤ 9223372036854775807 := by have := hmid.2.1; unfold maxLen at this; omega
  have h0a : (0 : Int) ≤ 0 ∧ (0 : Int) ≤ cap := by omega
  clear hK hok hmid
  go_enter Try.func31, Try.ntmps31
  go_wp2_with fail
  have HLIM := Lib.hid (And.intro hcap hcap2)
  go_loopw [3, 5, 17] (fun z _ i wr => ∃ k : Nat, i = .int .i64 k ∧ k ≤ t.L.length ∧ z = .slice a ((t.L.take k).filter rwLive).length cap ∧ rkP.Mid wr a cap t.L k ((t.L.take k).filter rwLive) ∧ FromAt wr mb ((t.L.take k).filter rwLive ++ t.L.drop k) t.last ∧ Keeps (mb :: own (.slice a t.L.length cap)) w wr) (fun _ _ i _ => t.L.length - (intOf i).toNat)
  case atStart => exact ⟨0, rfl, by omega, rfl, HMID.out, HMAP.out, Keeps.refl _ _⟩
  case round =>
    obtain ⟨k, rfl, hk, rfl, hmid, hmap, hkw⟩ := hrel
    have HM := Lib.hid hmid; have HF := Lib.hid hmap; have HKW := Lib.hid hkw
    have HFL := Lib.hid (show ((t.L.take k).filter rwLive).length ≤ k from Nat.le_trans (List.length_filter_le _ _) (by rw [List.length_take]; omega))
    have HKB := Lib.hid (show kb ∉ mb :: own (.slice a t.L.length cap) from fun hq => by
      rcases List.mem_cons.1 hq with h | h
      · exact HKM.out h
      · exact (HDIS.out kb h).1 rfl)
    have HKR := Lib.hid (hkw.heap HKEPT.out HKB.out)
    clear hmid hmap hkw c0 c1 c2
    by_cases hlt : k < t.L.length
    · obtain ⟨g, rfl, hg, hrow⟩ := HM.out.at_ hlt
      have hlt2 : (k : Int) < t.L.length := by omega
      have HRW := Lib.hid (show wr.rangeAt g (k * 12) (rwC t.L[k]) from hrow)
      have HAP := Lib.hid (apart_at HUP.out hlt rwLive)
      have HID := Lib.hid (HROWS.out _ (List.getElem_mem hlt)).id
      have HTK := Lib.hid (filter_takeS rwLive hlt)
      have HPUT := Lib.hid (fun (w' : World) (h : rkP.Mid w' (some ⟨g, 0, none⟩) cap t.L k ((t.L.take k).filter rwLive)) => h.put hlt)
      have HSK := Lib.hid (fun (w' : World) (h : rkP.Mid w' (some ⟨g, 0, none⟩) cap t.L k ((t.L.take k).filter rwLive)) => h.skip hlt)
      have HDR := Lib.hid (show t.L.drop k = t.L[k] :: t.L.drop (k + 1) from List.drop_eq_getElem_cons hlt)
      have HRZ := Lib.hid (heap_alloc_new wr (.cells (rwC rwZero).toArray 42))
      have HKA := Lib.hid ((Keeps.refl [] wr).alloc (.cells (rwC rwZero).toArray 42))
      clear hrow
      generalize hr : t.L[k] = r at *
      clear hr
      go_wp2_with (first
        | ((with_reducible refine wpList_loadP (g := g) (off := k * 12) (y := r) rfl ?_ HRW.out ?_); exact rfl)
        | ((with_reducible refine wpList_putP (old := rwZero) (r := r) ?_ ?_ HRZ.out ?_); exact rfl; exact rfl))
      intro W hW hkW
      have hkV := HKA.out.trans hkW (fun q hq => .inr (by simp at hq; omega))
      have HKV := Lib.hid hkV
      have HMW := Lib.hid (HM.out.keeps hkV (by simp))
      have HFW := Lib.hid (HF.out.keeps hkV (by simp))
      have HKRW := Lib.hid (hkV.heap HKR.out (by simp))
      have HWB := Lib.hid hW
      have HKWW := Lib.hid (HKW.out.trans hkV (fun q hq => by simp at hq))
      have HRB := Lib.hid (show wr.heap.size ≠ mb ∧ wr.heap.size ≠ kb from ⟨fun e => by have := HF.out.lt; omega, fun e => by have := lt_of_block HKR.out; omega⟩)
      have m9 := rw_cell hW 9 (show (rwC r)[9]? = some (.int .u8 r.st) from rfl)
      have m1 := rw_cell hW 1 (show (rwC r)[1]? = some (.int .u16 r.id) from rfl)
      have e1 : W.cell? ⟨kb, 1, none⟩ = some (.map (some mb)) := by simp [World.cell?, HKRW.out]
      clear hkV hkW HM HF HKR HKA HRZ HRW
      generalize hRe : wr.heap.size = R9 at *
      clear hRe
      by_cases he : r.st = 1
      · have hp : ¬ rwLive r = true := by simp [rwLive, he]
        have hfk := HTK.out
        rw [if_neg hp, List.append_nil] at hfk
        have HFK := Lib.hid hfk
        rw [he] at m9
        obtain ⟨n, D, hown, hnl, hD⟩ := HFW.out
        obtain ⟨w5, hrun5, hown5, hturn5⟩ := World.ownsMap.drop (w := W.drew) hown Try.keyed16 Try.underlying75 (key16 HID.out.1 HID.out.2) 0
        have HRUN5 := Lib.hid hrun5
        have HK5 := Lib.hid (((Keeps.refl [mb] W).drew).turned hturn5 (.inl (by simp)))
        have HM5 := Lib.hid (show FromAt w5 mb ((t.L.take (k + 1)).filter rwLive ++ t.L.drop (k + 1)) t.last from ⟨n, _, hown5, hnl, by rw [HFK.out]; rw [HDR.out] at hD; exact hD.del HAP.out⟩)
        clear hp hfk he hown hnl hD hown5 hturn5 hrun5 HFW
        go_wp2_with fail
        obtain ⟨S, hS⟩ : ∃ S : World → Prop, S = fun y => Keeps [mb] W y := ⟨_, rfl⟩
        have HSE := Lib.hid hS
        have hSD : S W.drew := by rw [hS]; exact (Keeps.refl _ _).drew
        have HS1 := Lib.hid (fun (w' : World) (h : S w') => show w'.cell? ⟨kb, 1, none⟩ = some (.map (some mb)) from by rw [hS] at h; exact h.cell e1 (by simp; exact HKM.out))
        have HS2 := Lib.hid (fun (w' : World) (h : S w') => show w'.cell? ⟨R9, 1, none⟩ = some (.int .u16 r.id) from by rw [hS] at h; exact h.cell m1 (by simp; exact HRB.out.1))
        clear hS e1 m1
        refine wp_region_noPanic ?_
        refine wp_region_held_drew (S := S) (by kernel_rfl) hSD (fun hHeld => ?_)
        apply wpAnyH_take (i := 0)
        · simp only [List.getElem?_toArray]; rfl
        · kernel_rfl
        · kernel_rfl
        · kernel_rfl
        · exact fun _ _ _ h => h
        · exact Or.inl ⟨by rfl, by intro w hSw; go_simp; try with_reducible rfl⟩
        · assumption
        try simp only [Act.put, List.setIfInBounds_toArray, List.set_cons_zero, List.set_cons_succ]
        apply wpAnyH_take (i := 1)
        · simp only [List.getElem?_toArray]; rfl
        · kernel_rfl
        · kernel_rfl
        · kernel_rfl
        · exact fun _ _ _ h => h
        · exact Or.inl ⟨by rfl, by intro w hSw; go_simp; try with_reducible rfl⟩
        · assumption
        try simp only [Act.put, List.setIfInBounds_toArray, List.set_cons_zero, List.set_cons_succ]
        apply wpAnyH_take (i := 2)
        · simp only [List.getElem?_toArray]; rfl
        · kernel_rfl
        · kernel_rfl
        · kernel_rfl
        · exact fun _ _ _ h => h
        · exact Or.inl ⟨by rfl, by intro w hSw; go_simp; try with_reducible rfl⟩
        · assumption
        try simp only [Act.put, List.setIfInBounds_toArray, List.set_cons_zero, List.set_cons_succ]
        apply wpAnyH_take (i := 3)
        · simp only [List.getElem?_toArray]; rfl
        · kernel_rfl
        · kernel_rfl
        · kernel_rfl
        · exact fun _ _ _ h => h
        · exact Or.inl ⟨by rfl, by intro w hSw; have q0 := HS1.out w hSw; go_simp; try with_reducible rfl⟩
        · assumption
        try simp only [Act.put, List.setIfInBounds_toArray, List.set_cons_zero, List.set_cons_succ]
        apply wpAnyH_take (i := 4)
        · simp only [List.getElem?_toArray]; rfl
        · kernel_rfl
        · kernel_rfl
        · kernel_rfl
        · exact fun _ _ _ h => h
        · exact Or.inl ⟨by rfl, by intro w hSw; go_simp; try with_reducible rfl⟩
        · assumption
        try simp only [Act.put, List.setIfInBounds_toArray, List.set_cons_zero, List.set_cons_succ]
        apply wpAnyH_take (i := 5)
        · simp only [List.getElem?_toArray]; rfl
        · kernel_rfl
        · kernel_rfl
        · kernel_rfl
        · exact fun _ _ _ h => h
        · exact Or.inl ⟨by rfl, by intro w hSw; have q0 := HS2.out w hSw; go_simp; try with_reducible rfl⟩
        · assumption
        try simp only [Act.put, List.setIfInBounds_toArray, List.set_cons_zero, List.set_cons_succ]
        apply wpAnyH_ready (rs := [6])
        · kernel_rfl
        · simp
        apply AllReadyH.cons (hs := AllReadyH.nil)
        · simp only [List.getElem?_toArray]; rfl
        intro K hK
        rw [if_pos (by rfl)]
        refine wp_delete_run 75 28 rfl rfl rfl HRUN5.out ?_
        refine hK.out _ _ ?_ (fun hHeld => ?_)
        · exact (by rw [HSE.out]; exact HK5.out)
        clear hK K
        try simp only [Act.put, List.setIfInBounds_toArray, List.set_cons_zero, List.set_cons_succ]
        refine wpAnyH_done (by kernel_rfl) ?_ _
        refine NoPanic.normal ?_
        clear hHeld hSD HS1 HS2 HSE
        go_wp2_with fail
        go_roundw
        case rel =>
          exact ⟨k + 1, by go_num, by omega, by rw [HFK.out], by rw [HFK.out]; exact HSK.out w5 (HMW.out.keeps HK5.out (fun q hq hb => by have := (HDIS.out q (by rw [HOWN.out]; exact hq)).2; simp at hb; omega)), HM5.out, HKWW.out.step (HK5.out.more (by simp)) (fun q hq => hq)⟩
        case measure => simp [intOf]; omega
      · have hp : rwLive r = true := by simp [rwLive, he]
        have te : (r.st == 1) = false := by simpa using he
        have hfk := HTK.out
        rw [if_pos hp] at hfk
        have HFK := Lib.hid hfk
        obtain ⟨w5, hrun5, hmid5, hk5⟩ := HPUT.out W HMW.out
        have HRUN5 := Lib.hid (show (Builtin.append_ #[49, 49] 49 #[.slice (some ⟨g, 0, none⟩) ((t.L.take k).filter rwLive).length cap, .slice (some ⟨W.heap.size, 0, none⟩) 1 1]).run Try.prog (W.alloc (.cells (rwC r).toArray 42)) = .ok (.slice (some ⟨g, 0, none⟩) (((t.L.take k).filter rwLive).length + 1) cap) w5 from hrun5)
        have HMID5 := Lib.hid hmid5
        have HK5 := Lib.hid hk5
        have HRW9 := Lib.hid (show W.rangeAt R9 0 (rwC r) from fun i u hi => by rw [Nat.zero_add]; exact rw_cell HWB.out i hi)
        clear hp hfk he hrun5 hmid5 hk5 e1 m1
        go_wp2_with (first
          | ((with_reducible refine wpList_loadP (g := R9) (off := 0) (y := r) rfl ?_ HRW9.out ?_); exact rfl)
          | ((with_reducible refine wpList_build_rowP (x := r) ?_ ?_); exact rfl)
          | (refine wpList_append_run rfl _ _ 49 rfl _ _ _ w5 rfl rfl HRUN5.out ?_))
        clear HRUN5 HRW9 m9
        go_wp2_with fail
        go_roundw
        case rel =>
          exact ⟨k + 1, by go_num, by omega, by rw [HFK.out, List.length_append]; rfl, by rw [HFK.out]; exact HMID5.out, by
            have h := HFW.out
            rw [HDR.out] at h
            rw [HFK.out, List.append_assoc]
            exact h.keeps HK5.out (fun hq => (HDIS.out mb (by rw [HOWN.out]; exact hq)).2 rfl), HKWW.out.trans HK5.out (fun q hq => .inl (List.mem_cons_of_mem _ (by rw [HOWN.out]; exact hq)))⟩
        case measure => simp [intOf]; omega
    · obtain rfl : k = t.L.length := by omega
      have hd := HM.out.done
      have hf := HF.out
      rw [List.take_length] at hd
      rw [List.take_length, List.drop_length, List.append_nil] at hf
      have hlen := filter_len t.L 1
      have HROW := Lib.hid hd; have HF2 := Lib.hid hf
      have HCNT := Lib.hid (show ((tbSettle t).1 : Int) = (t.L.length : Int) - ((t.L.filter rwLive).length : Nat) from by
        have e : (t.L.filter rwLive).length = (t.L.filter fun r => decide (r.st ≠ 1)).length := rfl
        show (((t.L.filter fun r => decide (r.st = 1)).length : Nat) : Int) = _
        omega)
      have hml : (t.L.filter rwLive).length ≤ t.L.length := List.length_filter_le _ _
      have g1 : wr.cell? ⟨kb, 0, none⟩ = some (.slice a t.L.length cap) := by simp [World.cell?, HKR.out]
      have g2 : wr.frozen? ⟨kb, 0, none⟩ = false := by simp [World.frozen?, HKR.out]
      have k3 : Keeps [kb] wr (wr.setCell ⟨kb, 0, none⟩ (.slice a (t.L.filter rwLive).length cap)) := (Keeps.refl [kb] wr).setCell _ _ (.inl (by simp))
      have HFIN := Lib.hid (show KPost kb mb w (.slice a t.L.length cap) (tbSettle t).2 (wr.setCell ⟨kb, 0, none⟩ (.slice a (t.L.filter rwLive).length cap)) from by
        have hown : ∀ c : Nat, own (.slice a c cap) = own (.slice a t.L.length cap) := fun c => by cases a <;> rfl
        refine ⟨.slice a (t.L.filter rwLive).length cap, ⟨?_, ?_, ?_, HKM.out, fun q hq => HDIS.out q (by rw [hown] at hq; exact hq)⟩, ?_, fun q hq => .inl (by rw [hown] at hq; exact hq)⟩
        · rw [heap_setCell_same wr kb 0 _ _ _ HKR.out]; rfl
        · exact HROW.out.keeps k3 (fun q hq hb => by have := (HDIS.out q (by rw [hown] at hq; exact hq)).1; simp at hb; omega)
        · exact HF2.out.keeps k3 (by simp; exact Ne.symm HKM.out)
        · exact (HKW.out.more (fun q hq => List.mem_cons_of_mem _ hq)).step (k3.more (by simp)) (fun q hq => hq))
      clear hd hf hlen HM HF HKW HROW HF2 k3 HMID
      simp only [List.take_length]
      generalize (t.L.filter rwLive).length = M at *
      go_wp2_with fail
      go_ret
      exact ⟨by rw [HCNT.out]; rfl, HFIN.out⟩
end Go.Proofs.Ytjiglbjpmclncaa
