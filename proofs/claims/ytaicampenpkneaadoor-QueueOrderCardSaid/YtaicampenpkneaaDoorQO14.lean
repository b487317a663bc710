/-
  QueueOrder's walk, over any queue.
-/
import Derived.Test.YtaicampenpkneaaDoorQO13
import Derived.Test.YtaicampenpkneaaDoorQO04
set_option linter.unusedSimpArgs false
set_option linter.unusedVariables false
namespace Go.Proofs.YtaicampenpkneaaDoor
open Go.RowKit
variable {G : World → Prop}
section
variable {ops : Array Oper} {rest : List Oper} {a : Act} {w : World} {Q : Exit → Act → World → Prop}
theorem wpList_buildO {dst : Option Tmp} {ty : TypeId} {pos : String} {after : Array Edge} {y : Operand} {x : Opn} (hy : a.eval y = .agg (opC x).toArray)
    (h : wpList Tryd.prog ops Q rest (a.put dst (.slice (some ⟨w.heap.size, 0, none⟩) 1 1)) (w.alloc (.cells (opC x).toArray 25))) :
    wpList Tryd.prog ops Q ({ dst := dst, op := .buildSlice 41 1 #[(0, y)], type := ty, pos := pos, after := after, guard := none } :: rest) a w :=
  wpList_plain rfl fun _ hK => rkO.wp_build1 y rfl hy (by show (5 : Nat) ≤ 10000; decide) (hK _ _ h)
end
set_option maxHeartbeats 8000000
set_option maxRecDepth 100000
theorem QueueOrder_any (R : QuProg G) (w : World) (hG : G w) {v v2 : Value} {l : List Int} {raw : List Opn} (hl : rkU.In w.heap.size w v l) (ho : rkO.In w.heap.size w v2 raw) (hin : ∀ x ∈ raw, x.In) :
    Calls Tryd.prog 6 #[v, v2] w fun e w' => e = .returned (.bool true) ∧ Keeps [] w w' := by
  obtain ⟨a1, c1, rfl, hc1, hm1, -⟩ := id hl
  obtain ⟨a2, c2, rfl, hc2, hm2, -⟩ := id ho
  have HG := Lib.hid hG; have HL := Lib.hid hl; have HI := Lib.hid ho; have HIN := Lib.hid hin
  clear hG hl ho hin
  by_cases hn : l.length ≤ 200
  · have t2 : ¬ (200 : Int) < l.length := by omega
    by_cases hn2 : raw.length ≤ 200
    · have t3 : ¬ (200 : Int) < raw.length := by omega
      obtain ⟨vi, w1, hr1, ho1, hk1, -⟩ := rkU.appendIn w w.heap.size (Nat.le_refl _) (.slice none 0 0) [] (RK.Own.nil _ _ _) HL.out (by simp; omega)
      have HR1 := Lib.hid (show (Builtin.append_ #[22, 22] 22 #[.slice none 0 0, .slice a1 l.length c1]).run Tryd.prog w = .ok vi w1 from hr1)
      rw [List.nil_append] at ho1
      have HO1 := Lib.hid ho1
      have HK1 := Lib.hid (show Keeps [] w w1 from hk1)
      obtain ⟨ai, ci, rfl, hci, hmi⟩ := ho1.shape
      clear hr1 ho1 hk1
      generalize hnr : raw.length = n at *
      have HNR := Lib.hid hnr
      clear hnr
      go_enter Tryd.func6, Tryd.ntmps6
      go_wp2_with ((with_reducible refine wpList_app (.slice none 0 0) _ ?_ ?_ HR1.out ?_); exact rfl; exact rfl)
      go_loopw [5, 6, 8] (fun vo vn i wr => ∃ k : Nat, i = .int .i64 k ∧ k ≤ n ∧ rkO.Own w.heap.size wr vo (okO (raw.take k)) ∧ rkU.Own w.heap.size wr vn (l ++ inV (okO (raw.take k))) ∧ (∀ q ∈ own vo, q ∉ own vn) ∧ Keeps [] w wr) (fun _ _ i _ => n - (intOf i).toNat)
      case atStart => exact ⟨0, rfl, Nat.zero_le _, RK.Own.nil rkO _ _, by simpa [okO, inV] using HO1.out, by simp [own, Value.ownBlock], HK1.out⟩
      case round =>
        obtain ⟨k, rfl, hk, hvo, hvn, hap, hkw⟩ := hrel
        by_cases hlt : k < n
        · have hkl : k < raw.length := by have := HNR.out; omega
          obtain ⟨g, o, rfl, hg, hr⟩ := In_at (HI.out.new hkw (Nat.le_refl _)) hkl
          have HNX := Lib.hid (okO_next hkl)
          have HXI := Lib.hid (HIN.out raw[k] (List.getElem_mem hkl))
          have HFO := Lib.hid (show (okO (raw.take k)).length ≤ 200 from Nat.le_trans (okO_len _) (by rw [List.length_take]; omega))
          have HFI := Lib.hid (show (l ++ inV (okO (raw.take k))).length ≤ 400 from by
            rw [List.length_append]
            have h1 := inV_len (okO (raw.take k)); have h2 := okO_len (raw.take k)
            rw [List.length_take] at h2; omega)
          have HVO := Lib.hid hvo; have HVN := Lib.hid hvn; have HAP := Lib.hid hap; have HKW := Lib.hid hkw; have HRW := Lib.hid hr
          obtain ⟨ao, co, rfl, hco, hmo⟩ := hvo.shape
          obtain ⟨an, cn, rfl, hcn, hmn⟩ := hvn.shape
          clear hvo hvn hap hkw hr
          generalize raw[k] = x at *
          obtain ⟨LO, hLO⟩ : ∃ LO, LO = okO (raw.take k) := ⟨_, rfl⟩
          obtain ⟨LI, hLI⟩ : ∃ LI, LI = l ++ inV (okO (raw.take k)) := ⟨_, rfl⟩
          rw [← hLI] at HVN HFI HAP ⊢
          rw [← hLO] at HVO HFO HAP ⊢
          have HLO := Lib.hid hLO; have HLI := Lib.hid hLI
          clear hLO hLI
          have hb1 : (k : Int) < (n : Int) := by omega
          go_wp2_with fail
          refine wp_fork (fun qa qb zv us a => (((((((((((((a.put (some 36) (us.getD 0 undef)).put (some 37) (us.getD 1 undef)).put (some 38) (us.getD 2 undef)).put (some 39) (us.getD 3 undef)).put (some 40) (us.getD 4 undef)).put (some 41) (us.getD 5 undef)).put (some 35) (us.getD 6 undef)).put (some 42) (us.getD 7 undef)).put (some 43) (us.getD 8 undef)).put (some 44) (us.getD 9 undef)).put (some 9) (.pointer (some ⟨qa, 0, none⟩))).put (some 10) (.pointer (some ⟨qb, 0, none⟩))).put (some 11) (.int .i64 (opChk 1 x)))) (fun qa qb zv w' => Keeps [] wr w') ?_ ?_
          ·
            obtain ⟨S, hS⟩ : ∃ S : World → Prop, S = fun y => Keeps [] wr y := ⟨_, rfl⟩
            have HSE := Lib.hid hS
            have hSD : S wr.drew := by rw [hS]; exact (Keeps.refl _ _).drew
            have HS0 := Lib.hid (fun (w' : World) (h : S w') => show w'.rangeAt g (o + k * 5) (opC x) from by rw [hS] at h; exact fun i u hi => h.cell (HRW.out i u hi) (by simp))
            have hd0 : Keeps [] wr wr.drew := (Keeps.refl _ _).drew
            clear hS
            refine wp_region_noPanic ?_
            refine wp_region_held_drew (S := S) (by kernel_rfl) hSD (fun hHeld => ?_)
            generalize wr.drew = V0 at *
            have HK0 := Lib.hid hd0
            clear hd0
            apply wpAnyH_take (i := 1)
            · simp only [List.getElem?_toArray]; rfl
            · kernel_rfl
            · kernel_rfl
            · kernel_rfl
            · exact fun _ _ _ h => h
            · exact Or.inl ⟨by rfl, by intro w hSw; go_simp; try with_reducible rfl⟩
            · assumption
            try simp only [Act.put, List.setIfInBounds_toArray, List.set_cons_zero, List.set_cons_succ]
            apply wpAnyH_take (i := 2)
            · simp only [List.getElem?_toArray]; rfl
            · kernel_rfl
            · kernel_rfl
            · kernel_rfl
            · exact fun _ _ _ h => h
            · exact Or.inl ⟨by rfl, by intro w hSw; go_simp; try with_reducible rfl⟩
            · assumption
            try simp only [Act.put, List.setIfInBounds_toArray, List.set_cons_zero, List.set_cons_succ]
            apply wpAnyH_take (i := 3)
            · simp only [List.getElem?_toArray]; rfl
            · kernel_rfl
            · kernel_rfl
            · kernel_rfl
            · exact fun _ _ _ h => h
            · exact Or.inl ⟨by rfl, by intro w hSw; go_simp; try with_reducible rfl⟩
            · assumption
            try simp only [Act.put, List.setIfInBounds_toArray, List.set_cons_zero, List.set_cons_succ]
            apply wpAnyH_take (i := 4)
            · simp only [List.getElem?_toArray]; rfl
            · kernel_rfl
            · kernel_rfl
            · kernel_rfl
            · exact fun _ _ _ h => h
            · exact rkO.yields Tryd.underlying25 rfl (by rfl) _ rfl g (o + k * 5) rfl x HS0.out
            · assumption
            try simp only [Act.put, List.setIfInBounds_toArray, List.set_cons_zero, List.set_cons_succ]
            apply wpAnyH_ready (rs := [0, 10, 11])
            · kernel_rfl
            · simp
            apply AllReadyH.cons
            · simp only [List.getElem?_toArray]; rfl
            · intro K hK
              rw [if_pos (by rfl)]
              refine wp_call10 24 _ _ rfl [] rfl Tryd.func24 (by kernel_rfl) (by kernel_rfl) ?_
              refine (R.new V0 (R.keepG HG.out (HKW.out.trans HK0.out (FSub.refl _ _)))).mono ?_
              rintro e V1 ⟨st, rfl, hz, hk, hf⟩
              obtain ⟨zu, rfl, -⟩ := R.one hz
              refine ⟨_, rfl, ?_⟩
              have HK1 := Lib.hid (HK0.out.trans hk (FSub.refl _ _))
              have HZu1 := Lib.hid hz
              clear hz hf
              clear hk
              refine hK.out _ _ ?_ (fun hHeld => ?_)
              · exact (by rw [HSE.out]; exact HK1.out)
              clear hK K
              try simp only [Act.put, List.setIfInBounds_toArray, List.set_cons_zero, List.set_cons_succ]
              apply wpAnyH_ready (rs := [5, 10, 11])
              · kernel_rfl
              · simp
              apply AllReadyH.cons
              · simp only [List.getElem?_toArray]; rfl
              · intro K hK
                rw [if_pos (by rfl)]
                refine wp_call10 12 _ _ rfl [.agg #[zu], .agg (opC x).toArray] rfl Tryd.func12 (by kernel_rfl) (by kernel_rfl) ?_
                refine (R.step V1 _ [] x (R.keepG HG.out (HKW.out.trans HK1.out (FSub.refl _ _))) HZu1.out (by decide) HXI.out).mono ?_
                rintro e V2 ⟨st, rfl, hz, hk, hf⟩
                rw [quX_err]
                obtain ⟨zv, rfl, ho⟩ := R.one hz
                have HOV := Lib.hid ho
                clear ho
                refine ⟨_, rfl, ?_⟩
                have HK2 := Lib.hid (HK1.out.trans hk (FSub.refl _ _))
                have HZu2 := Lib.hid (R.new_ HZu1.out hk)
                have HZv2 := Lib.hid hz
                clear hz hf
                clear hk
                refine hK.out _ _ ?_ (fun hHeld => ?_)
                · exact (by rw [HSE.out]; exact HK2.out)
                clear hK K
                try simp only [Act.put, List.setIfInBounds_toArray, List.set_cons_zero, List.set_cons_succ]
                apply wpAnyH_take (i := 6)
                · simp only [List.getElem?_toArray]; rfl
                · kernel_rfl
                · kernel_rfl
                · kernel_rfl
                · exact fun _ _ _ h => h
                · exact Or.inl ⟨by rfl, by intro w hSw; go_simp; try with_reducible rfl⟩
                · assumption
                try simp only [Act.put, List.setIfInBounds_toArray, List.set_cons_zero, List.set_cons_succ]
                apply wpAnyH_take (i := 7)
                · simp only [List.getElem?_toArray]; rfl
                · kernel_rfl
                · kernel_rfl
                · kernel_rfl
                · exact fun _ _ _ h => h
                · exact Or.inl ⟨by rfl, by intro w hSw; go_simp; try with_reducible rfl⟩
                · assumption
                try simp only [Act.put, List.setIfInBounds_toArray, List.set_cons_zero, List.set_cons_succ]
                apply wpAnyH_take (i := 8)
                · simp only [List.getElem?_toArray]; rfl
                · kernel_rfl
                · kernel_rfl
                · kernel_rfl
                · exact fun _ _ _ h => h
                · exact Or.inl ⟨by rfl, by intro w hSw; go_simp; try with_reducible rfl⟩
                · assumption
                try simp only [Act.put, List.setIfInBounds_toArray, List.set_cons_zero, List.set_cons_succ]
                apply wpAnyH_take (i := 9)
                · simp only [List.getElem?_toArray]; rfl
                · kernel_rfl
                · kernel_rfl
                · kernel_rfl
                · exact fun _ _ _ h => h
                · exact Or.inl ⟨by rfl, by intro w hSw; go_simp; try with_reducible rfl⟩
                · assumption
                try simp only [Act.put, List.setIfInBounds_toArray, List.set_cons_zero, List.set_cons_succ]
                apply wpAnyH_ready (rs := [10, 11])
                · kernel_rfl
                · simp
                apply AllReadyH.cons
                · simp only [List.getElem?_toArray]; rfl
                · intro K hK
                  rw [if_pos (by rfl)]
                  refine wp_allocS _ _ _ _ rfl ?_
                  have hk : Keeps [] V2 (V2.alloc (.cells #[.slice none 0 0] 28)) := (Keeps.refl _ _).alloc _
                  have hb := heap_alloc_new V2 (.cells #[.slice none 0 0] 28)
                  have hl : V2.heap.size < (V2.alloc (.cells #[.slice none 0 0] 28)).heap.size := by rw [show (V2.alloc (.cells #[.slice none 0 0] 28)).heap.size = V2.heap.size + 1 from Array.size_push _]; omega
                  have HPua := Lib.hid (fun p hp => (Nat.ne_of_lt (R.old HZu2.out p hp) : p ≠ V2.heap.size))
                  have HPva := Lib.hid (fun p hp => (Nat.ne_of_lt (R.old HZv2.out p hp) : p ≠ V2.heap.size))
                  have HGa := Lib.hid HK2.out.size
                  generalize V2.alloc (.cells #[.slice none 0 0] 28) = V3 at *
                  have HBa3 := Lib.hid hb; have HLa3 := Lib.hid hl
                  have HK3 := Lib.hid (HK2.out.trans hk (FSub.refl _ _))
                  have HZu3 := Lib.hid (R.new_ HZu2.out hk)
                  have HZv3 := Lib.hid (R.new_ HZv2.out hk)
                  clear hb hl hk
                  generalize V2.heap.size = qa at *
                  refine hK.out _ _ ?_ (fun hHeld => ?_)
                  · exact (by rw [HSE.out]; exact HK3.out)
                  clear hK K
                  try simp only [Act.put, List.setIfInBounds_toArray, List.set_cons_zero, List.set_cons_succ]
                  apply wpAnyH_ready (rs := [11])
                  · kernel_rfl
                  · simp
                  apply AllReadyH.cons (hs := AllReadyH.nil)
                  · simp only [List.getElem?_toArray]; rfl
                  intro K hK
                  rw [if_pos (by rfl)]
                  refine wp_allocA _ _ _ _ rfl ?_
                  have hk : Keeps [] V3 (V3.alloc (.cells (ansC ⟨0, 0⟩).toArray 31)) := (Keeps.refl _ _).alloc _
                  have hb := heap_alloc_new V3 (.cells (ansC ⟨0, 0⟩).toArray 31)
                  have hl : V3.heap.size < (V3.alloc (.cells (ansC ⟨0, 0⟩).toArray 31)).heap.size := by rw [show (V3.alloc (.cells (ansC ⟨0, 0⟩).toArray 31)).heap.size = V3.heap.size + 1 from Array.size_push _]; omega
                  have HPub := Lib.hid (fun p hp => (Nat.ne_of_lt (R.old HZu3.out p hp) : p ≠ V3.heap.size))
                  have HPvb := Lib.hid (fun p hp => (Nat.ne_of_lt (R.old HZv3.out p hp) : p ≠ V3.heap.size))
                  have HAB := Lib.hid (Nat.ne_of_lt HLa3.out)
                  have HGb := Lib.hid HK3.out.size
                  generalize V3.alloc (.cells (ansC ⟨0, 0⟩).toArray 31) = V4 at *
                  have HBb4 := Lib.hid hb; have HLb4 := Lib.hid hl
                  have HK4 := Lib.hid (HK3.out.trans hk (FSub.refl _ _))
                  have HZu4 := Lib.hid (R.new_ HZu3.out hk)
                  have HZv4 := Lib.hid (R.new_ HZv3.out hk)
                  have HBa4 := Lib.hid (hk.heap HBa3.out (by simp))
                  have HLa4 := Lib.hid (Nat.lt_of_lt_of_le HLa3.out hk.size)
                  clear hb hl hk
                  generalize V3.heap.size = qb at *
                  refine hK.out _ _ ?_ (fun hHeld => ?_)
                  · exact (by rw [HSE.out]; exact HK4.out)
                  clear hK K
                  try simp only [Act.put, List.setIfInBounds_toArray, List.set_cons_zero, List.set_cons_succ]
                  apply wpAnyH_ready (rs := [12])
                  · kernel_rfl
                  · simp
                  apply AllReadyH.cons (hs := AllReadyH.nil)
                  · simp only [List.getElem?_toArray]; rfl
                  intro K hK
                  rw [if_pos (by rfl)]
                  refine wp_putS (g := qa) (z := zv) rfl rfl rfl HBa4.out HOV.out ?_
                  intro W5 h5 k5
                  have HK5 := Lib.hid (HK4.out.trans k5 (fun p hp => .inr (by simp at hp; have := HGa.out; omega)))
                  have HB5 := Lib.hid (k5.heap HBb4.out (by simp; have := HAB.out; omega))
                  clear h5 k5
                  refine hK.out _ _ ?_ (fun hHeld => ?_)
                  · exact (by rw [HSE.out]; exact HK5.out)
                  clear hK K
                  try simp only [Act.put, List.setIfInBounds_toArray, List.set_cons_zero, List.set_cons_succ]
                  apply wpAnyH_ready (rs := [13])
                  · kernel_rfl
                  · simp
                  apply AllReadyH.cons (hs := AllReadyH.nil)
                  · simp only [List.getElem?_toArray]; rfl
                  intro K hK
                  rw [if_pos (by rfl)]
                  refine wp_putNw (g := qb) (old := ⟨0, 0⟩) (quX [] x).2.1 rfl rfl rfl HB5.out ?_
                  intro W6 h6 k6
                  have HK6 := Lib.hid (HK5.out.trans k6 (fun p hp => .inr (by simp at hp; have := HGb.out; omega)))
                  clear h6 k6
                  refine hK.out _ _ ?_ (fun hHeld => ?_)
                  · exact (by rw [HSE.out]; exact HK6.out)
                  clear hK K
                  try simp only [Act.put, List.setIfInBounds_toArray, List.set_cons_zero, List.set_cons_succ]
                  apply wpAnyH_take (i := 14)
                  · simp only [List.getElem?_toArray]; rfl
                  · kernel_rfl
                  · kernel_rfl
                  · kernel_rfl
                  · exact fun _ _ _ h => h
                  · exact Or.inl ⟨by rfl, by intro w hSw; go_simp; try with_reducible rfl⟩
                  · assumption
                  try simp only [Act.put, List.setIfInBounds_toArray, List.set_cons_zero, List.set_cons_succ]
                  refine wpAnyH_done (by kernel_rfl) ?_ _
                  refine NoPanic.normal ?_
                  exact ⟨rfl, qa, qb, zv, [_, _, _, _, _, _, _, _, _, _], rfl, HK6.out⟩
                apply AllReadyH.cons (hs := AllReadyH.nil)
                · simp only [List.getElem?_toArray]; rfl
                intro K hK
                rw [if_pos (by rfl)]
                refine wp_allocA _ _ _ _ rfl ?_
                have hk : Keeps [] V2 (V2.alloc (.cells (ansC ⟨0, 0⟩).toArray 31)) := (Keeps.refl _ _).alloc _
                have hb := heap_alloc_new V2 (.cells (ansC ⟨0, 0⟩).toArray 31)
                have hl : V2.heap.size < (V2.alloc (.cells (ansC ⟨0, 0⟩).toArray 31)).heap.size := by rw [show (V2.alloc (.cells (ansC ⟨0, 0⟩).toArray 31)).heap.size = V2.heap.size + 1 from Array.size_push _]; omega
                have HPub := Lib.hid (fun p hp => (Nat.ne_of_lt (R.old HZu2.out p hp) : p ≠ V2.heap.size))
                have HPvb := Lib.hid (fun p hp => (Nat.ne_of_lt (R.old HZv2.out p hp) : p ≠ V2.heap.size))
                have HGb := Lib.hid HK2.out.size
                generalize V2.alloc (.cells (ansC ⟨0, 0⟩).toArray 31) = V3 at *
                have HBb3 := Lib.hid hb; have HLb3 := Lib.hid hl
                have HK3 := Lib.hid (HK2.out.trans hk (FSub.refl _ _))
                have HZu3 := Lib.hid (R.new_ HZu2.out hk)
                have HZv3 := Lib.hid (R.new_ HZv2.out hk)
                clear hb hl hk
                generalize V2.heap.size = qb at *
                refine hK.out _ _ ?_ (fun hHeld => ?_)
                · exact (by rw [HSE.out]; exact HK3.out)
                clear hK K
                try simp only [Act.put, List.setIfInBounds_toArray, List.set_cons_zero, List.set_cons_succ]
                apply wpAnyH_ready (rs := [10])
                · kernel_rfl
                · simp
                apply AllReadyH.cons (hs := AllReadyH.nil)
                · simp only [List.getElem?_toArray]; rfl
                intro K hK
                rw [if_pos (by rfl)]
                refine wp_allocS _ _ _ _ rfl ?_
                have hk : Keeps [] V3 (V3.alloc (.cells #[.slice none 0 0] 28)) := (Keeps.refl _ _).alloc _
                have hb := heap_alloc_new V3 (.cells #[.slice none 0 0] 28)
                have hl : V3.heap.size < (V3.alloc (.cells #[.slice none 0 0] 28)).heap.size := by rw [show (V3.alloc (.cells #[.slice none 0 0] 28)).heap.size = V3.heap.size + 1 from Array.size_push _]; omega
                have HPua := Lib.hid (fun p hp => (Nat.ne_of_lt (R.old HZu3.out p hp) : p ≠ V3.heap.size))
                have HPva := Lib.hid (fun p hp => (Nat.ne_of_lt (R.old HZv3.out p hp) : p ≠ V3.heap.size))
                have HAB := Lib.hid (Nat.ne_of_lt HLb3.out)
                have HGa := Lib.hid HK3.out.size
                generalize V3.alloc (.cells #[.slice none 0 0] 28) = V4 at *
                have HBa4 := Lib.hid hb; have HLa4 := Lib.hid hl
                have HK4 := Lib.hid (HK3.out.trans hk (FSub.refl _ _))
                have HZu4 := Lib.hid (R.new_ HZu3.out hk)
                have HZv4 := Lib.hid (R.new_ HZv3.out hk)
                have HBb4 := Lib.hid (hk.heap HBb3.out (by simp))
                have HLb4 := Lib.hid (Nat.lt_of_lt_of_le HLb3.out hk.size)
                clear hb hl hk
                generalize V3.heap.size = qa at *
                refine hK.out _ _ ?_ (fun hHeld => ?_)
                · exact (by rw [HSE.out]; exact HK4.out)
                clear hK K
                try simp only [Act.put, List.setIfInBounds_toArray, List.set_cons_zero, List.set_cons_succ]
                apply wpAnyH_ready (rs := [12])
                · kernel_rfl
                · simp
                apply AllReadyH.cons (hs := AllReadyH.nil)
                · simp only [List.getElem?_toArray]; rfl
                intro K hK
                rw [if_pos (by rfl)]
                refine wp_putS (g := qa) (z := zv) rfl rfl rfl HBa4.out HOV.out ?_
                intro W5 h5 k5
                have HK5 := Lib.hid (HK4.out.trans k5 (fun p hp => .inr (by simp at hp; have := HGa.out; omega)))
                have HB5 := Lib.hid (k5.heap HBb4.out (by simp; have := HAB.out; omega))
                clear h5 k5
                refine hK.out _ _ ?_ (fun hHeld => ?_)
                · exact (by rw [HSE.out]; exact HK5.out)
                clear hK K
                try simp only [Act.put, List.setIfInBounds_toArray, List.set_cons_zero, List.set_cons_succ]
                apply wpAnyH_ready (rs := [13])
                · kernel_rfl
                · simp
                apply AllReadyH.cons (hs := AllReadyH.nil)
                · simp only [List.getElem?_toArray]; rfl
                intro K hK
                rw [if_pos (by rfl)]
                refine wp_putNw (g := qb) (old := ⟨0, 0⟩) (quX [] x).2.1 rfl rfl rfl HB5.out ?_
                intro W6 h6 k6
                have HK6 := Lib.hid (HK5.out.trans k6 (fun p hp => .inr (by simp at hp; have := HGb.out; omega)))
                clear h6 k6
                refine hK.out _ _ ?_ (fun hHeld => ?_)
                · exact (by rw [HSE.out]; exact HK6.out)
                clear hK K
                try simp only [Act.put, List.setIfInBounds_toArray, List.set_cons_zero, List.set_cons_succ]
                apply wpAnyH_take (i := 14)
                · simp only [List.getElem?_toArray]; rfl
                · kernel_rfl
                · kernel_rfl
                · kernel_rfl
                · exact fun _ _ _ h => h
                · exact Or.inl ⟨by rfl, by intro w hSw; go_simp; try with_reducible rfl⟩
                · assumption
                try simp only [Act.put, List.setIfInBounds_toArray, List.set_cons_zero, List.set_cons_succ]
                refine wpAnyH_done (by kernel_rfl) ?_ _
                refine NoPanic.normal ?_
                exact ⟨rfl, qa, qb, zv, [_, _, _, _, _, _, _, _, _, _], rfl, HK6.out⟩
              apply AllReadyH.cons
              · simp only [List.getElem?_toArray]; rfl
              · intro K hK
                rw [if_pos (by rfl)]
                refine wp_allocS _ _ _ _ rfl ?_
                have hk : Keeps [] V1 (V1.alloc (.cells #[.slice none 0 0] 28)) := (Keeps.refl _ _).alloc _
                have hb := heap_alloc_new V1 (.cells #[.slice none 0 0] 28)
                have hl : V1.heap.size < (V1.alloc (.cells #[.slice none 0 0] 28)).heap.size := by rw [show (V1.alloc (.cells #[.slice none 0 0] 28)).heap.size = V1.heap.size + 1 from Array.size_push _]; omega
                have HPua := Lib.hid (fun p hp => (Nat.ne_of_lt (R.old HZu1.out p hp) : p ≠ V1.heap.size))
                have HGa := Lib.hid HK1.out.size
                generalize V1.alloc (.cells #[.slice none 0 0] 28) = V2 at *
                have HBa2 := Lib.hid hb; have HLa2 := Lib.hid hl
                have HK2 := Lib.hid (HK1.out.trans hk (FSub.refl _ _))
                have HZu2 := Lib.hid (R.new_ HZu1.out hk)
                clear hb hl hk
                generalize V1.heap.size = qa at *
                refine hK.out _ _ ?_ (fun hHeld => ?_)
                · exact (by rw [HSE.out]; exact HK2.out)
                clear hK K
                try simp only [Act.put, List.setIfInBounds_toArray, List.set_cons_zero, List.set_cons_succ]
                apply wpAnyH_ready (rs := [5, 11])
                · kernel_rfl
                · simp
                apply AllReadyH.cons
                · simp only [List.getElem?_toArray]; rfl
                · intro K hK
                  rw [if_pos (by rfl)]
                  refine wp_call10 12 _ _ rfl [.agg #[zu], .agg (opC x).toArray] rfl Tryd.func12 (by kernel_rfl) (by kernel_rfl) ?_
                  refine (R.step V2 _ [] x (R.keepG HG.out (HKW.out.trans HK2.out (FSub.refl _ _))) HZu2.out (by decide) HXI.out).mono ?_
                  rintro e V3 ⟨st, rfl, hz, hk, hf⟩
                  rw [quX_err]
                  obtain ⟨zv, rfl, ho⟩ := R.one hz
                  have HOV := Lib.hid ho
                  clear ho
                  refine ⟨_, rfl, ?_⟩
                  have HK3 := Lib.hid (HK2.out.trans hk (FSub.refl _ _))
                  have HZu3 := Lib.hid (R.new_ HZu2.out hk)
                  have HBa3 := Lib.hid (hk.heap HBa2.out (by simp))
                  have HLa3 := Lib.hid (Nat.lt_of_lt_of_le HLa2.out hk.size)
                  have HZv3 := Lib.hid hz
                  have HPva := Lib.hid (show ∀ p ∈ R.foot (.agg #[zv]), p ≠ qa from fun p hp e => by
                    rcases hf p hp with h | h
                    · exact HPua.out p h e
                    · have := HLa2.out; omega)
                  clear hz hf
                  clear hk
                  refine hK.out _ _ ?_ (fun hHeld => ?_)
                  · exact (by rw [HSE.out]; exact HK3.out)
                  clear hK K
                  try simp only [Act.put, List.setIfInBounds_toArray, List.set_cons_zero, List.set_cons_succ]
                  apply wpAnyH_take (i := 6)
                  · simp only [List.getElem?_toArray]; rfl
                  · kernel_rfl
                  · kernel_rfl
                  · kernel_rfl
                  · exact fun _ _ _ h => h
                  · exact Or.inl ⟨by rfl, by intro w hSw; go_simp; try with_reducible rfl⟩
                  · assumption
                  try simp only [Act.put, List.setIfInBounds_toArray, List.set_cons_zero, List.set_cons_succ]
                  apply wpAnyH_take (i := 7)
                  · simp only [List.getElem?_toArray]; rfl
                  · kernel_rfl
                  · kernel_rfl
                  · kernel_rfl
                  · exact fun _ _ _ h => h
                  · exact Or.inl ⟨by rfl, by intro w hSw; go_simp; try with_reducible rfl⟩
                  · assumption
                  try simp only [Act.put, List.setIfInBounds_toArray, List.set_cons_zero, List.set_cons_succ]
                  apply wpAnyH_take (i := 8)
                  · simp only [List.getElem?_toArray]; rfl
                  · kernel_rfl
                  · kernel_rfl
                  · kernel_rfl
                  · exact fun _ _ _ h => h
                  · exact Or.inl ⟨by rfl, by intro w hSw; go_simp; try with_reducible rfl⟩
                  · assumption
                  try simp only [Act.put, List.setIfInBounds_toArray, List.set_cons_zero, List.set_cons_succ]
                  apply wpAnyH_take (i := 9)
                  · simp only [List.getElem?_toArray]; rfl
                  · kernel_rfl
                  · kernel_rfl
                  · kernel_rfl
                  · exact fun _ _ _ h => h
                  · exact Or.inl ⟨by rfl, by intro w hSw; go_simp; try with_reducible rfl⟩
                  · assumption
                  try simp only [Act.put, List.setIfInBounds_toArray, List.set_cons_zero, List.set_cons_succ]
                  apply wpAnyH_ready (rs := [11])
                  · kernel_rfl
                  · simp
                  apply AllReadyH.cons (hs := AllReadyH.nil)
                  · simp only [List.getElem?_toArray]; rfl
                  intro K hK
                  rw [if_pos (by rfl)]
                  refine wp_allocA _ _ _ _ rfl ?_
                  have hk : Keeps [] V3 (V3.alloc (.cells (ansC ⟨0, 0⟩).toArray 31)) := (Keeps.refl _ _).alloc _
                  have hb := heap_alloc_new V3 (.cells (ansC ⟨0, 0⟩).toArray 31)
                  have hl : V3.heap.size < (V3.alloc (.cells (ansC ⟨0, 0⟩).toArray 31)).heap.size := by rw [show (V3.alloc (.cells (ansC ⟨0, 0⟩).toArray 31)).heap.size = V3.heap.size + 1 from Array.size_push _]; omega
                  have HPub := Lib.hid (fun p hp => (Nat.ne_of_lt (R.old HZu3.out p hp) : p ≠ V3.heap.size))
                  have HPvb := Lib.hid (fun p hp => (Nat.ne_of_lt (R.old HZv3.out p hp) : p ≠ V3.heap.size))
                  have HAB := Lib.hid (Nat.ne_of_lt HLa3.out)
                  have HGb := Lib.hid HK3.out.size
                  generalize V3.alloc (.cells (ansC ⟨0, 0⟩).toArray 31) = V4 at *
                  have HBb4 := Lib.hid hb; have HLb4 := Lib.hid hl
                  have HK4 := Lib.hid (HK3.out.trans hk (FSub.refl _ _))
                  have HZu4 := Lib.hid (R.new_ HZu3.out hk)
                  have HZv4 := Lib.hid (R.new_ HZv3.out hk)
                  have HBa4 := Lib.hid (hk.heap HBa3.out (by simp))
                  have HLa4 := Lib.hid (Nat.lt_of_lt_of_le HLa3.out hk.size)
                  clear hb hl hk
                  generalize V3.heap.size = qb at *
                  refine hK.out _ _ ?_ (fun hHeld => ?_)
                  · exact (by rw [HSE.out]; exact HK4.out)
                  clear hK K
                  try simp only [Act.put, List.setIfInBounds_toArray, List.set_cons_zero, List.set_cons_succ]
                  apply wpAnyH_ready (rs := [12])
                  · kernel_rfl
                  · simp
                  apply AllReadyH.cons (hs := AllReadyH.nil)
                  · simp only [List.getElem?_toArray]; rfl
                  intro K hK
                  rw [if_pos (by rfl)]
                  refine wp_putS (g := qa) (z := zv) rfl rfl rfl HBa4.out HOV.out ?_
                  intro W5 h5 k5
                  have HK5 := Lib.hid (HK4.out.trans k5 (fun p hp => .inr (by simp at hp; have := HGa.out; omega)))
                  have HB5 := Lib.hid (k5.heap HBb4.out (by simp; have := HAB.out; omega))
                  clear h5 k5
                  refine hK.out _ _ ?_ (fun hHeld => ?_)
                  · exact (by rw [HSE.out]; exact HK5.out)
                  clear hK K
                  try simp only [Act.put, List.setIfInBounds_toArray, List.set_cons_zero, List.set_cons_succ]
                  apply wpAnyH_ready (rs := [13])
                  · kernel_rfl
                  · simp
                  apply AllReadyH.cons (hs := AllReadyH.nil)
                  · simp only [List.getElem?_toArray]; rfl
                  intro K hK
                  rw [if_pos (by rfl)]
                  refine wp_putNw (g := qb) (old := ⟨0, 0⟩) (quX [] x).2.1 rfl rfl rfl HB5.out ?_
                  intro W6 h6 k6
                  have HK6 := Lib.hid (HK5.out.trans k6 (fun p hp => .inr (by simp at hp; have := HGb.out; omega)))
                  clear h6 k6
                  refine hK.out _ _ ?_ (fun hHeld => ?_)
                  · exact (by rw [HSE.out]; exact HK6.out)
                  clear hK K
                  try simp only [Act.put, List.setIfInBounds_toArray, List.set_cons_zero, List.set_cons_succ]
                  apply wpAnyH_take (i := 14)
                  · simp only [List.getElem?_toArray]; rfl
                  · kernel_rfl
                  · kernel_rfl
                  · kernel_rfl
                  · exact fun _ _ _ h => h
                  · exact Or.inl ⟨by rfl, by intro w hSw; go_simp; try with_reducible rfl⟩
                  · assumption
                  try simp only [Act.put, List.setIfInBounds_toArray, List.set_cons_zero, List.set_cons_succ]
                  refine wpAnyH_done (by kernel_rfl) ?_ _
                  refine NoPanic.normal ?_
                  exact ⟨rfl, qa, qb, zv, [_, _, _, _, _, _, _, _, _, _], rfl, HK6.out⟩
                apply AllReadyH.cons (hs := AllReadyH.nil)
                · simp only [List.getElem?_toArray]; rfl
                intro K hK
                rw [if_pos (by rfl)]
                refine wp_allocA _ _ _ _ rfl ?_
                have hk : Keeps [] V2 (V2.alloc (.cells (ansC ⟨0, 0⟩).toArray 31)) := (Keeps.refl _ _).alloc _
                have hb := heap_alloc_new V2 (.cells (ansC ⟨0, 0⟩).toArray 31)
                have hl : V2.heap.size < (V2.alloc (.cells (ansC ⟨0, 0⟩).toArray 31)).heap.size := by rw [show (V2.alloc (.cells (ansC ⟨0, 0⟩).toArray 31)).heap.size = V2.heap.size + 1 from Array.size_push _]; omega
                have HPub := Lib.hid (fun p hp => (Nat.ne_of_lt (R.old HZu2.out p hp) : p ≠ V2.heap.size))
                have HAB := Lib.hid (Nat.ne_of_lt HLa2.out)
                have HGb := Lib.hid HK2.out.size
                generalize V2.alloc (.cells (ansC ⟨0, 0⟩).toArray 31) = V3 at *
                have HBb3 := Lib.hid hb; have HLb3 := Lib.hid hl
                have HK3 := Lib.hid (HK2.out.trans hk (FSub.refl _ _))
                have HZu3 := Lib.hid (R.new_ HZu2.out hk)
                have HBa3 := Lib.hid (hk.heap HBa2.out (by simp))
                have HLa3 := Lib.hid (Nat.lt_of_lt_of_le HLa2.out hk.size)
                clear hb hl hk
                generalize V2.heap.size = qb at *
                refine hK.out _ _ ?_ (fun hHeld => ?_)
                · exact (by rw [HSE.out]; exact HK3.out)
                clear hK K
                try simp only [Act.put, List.setIfInBounds_toArray, List.set_cons_zero, List.set_cons_succ]
                apply wpAnyH_ready (rs := [5])
                · kernel_rfl
                · simp
                apply AllReadyH.cons (hs := AllReadyH.nil)
                · simp only [List.getElem?_toArray]; rfl
                intro K hK
                rw [if_pos (by rfl)]
                refine wp_call10 12 _ _ rfl [.agg #[zu], .agg (opC x).toArray] rfl Tryd.func12 (by kernel_rfl) (by kernel_rfl) ?_
                refine (R.step V3 _ [] x (R.keepG HG.out (HKW.out.trans HK3.out (FSub.refl _ _))) HZu3.out (by decide) HXI.out).mono ?_
                rintro e V4 ⟨st, rfl, hz, hk, hf⟩
                rw [quX_err]
                obtain ⟨zv, rfl, ho⟩ := R.one hz
                have HOV := Lib.hid ho
                clear ho
                refine ⟨_, rfl, ?_⟩
                have HK4 := Lib.hid (HK3.out.trans hk (FSub.refl _ _))
                have HZu4 := Lib.hid (R.new_ HZu3.out hk)
                have HBa4 := Lib.hid (hk.heap HBa3.out (by simp))
                have HLa4 := Lib.hid (Nat.lt_of_lt_of_le HLa3.out hk.size)
                have HBb4 := Lib.hid (hk.heap HBb3.out (by simp))
                have HLb4 := Lib.hid (Nat.lt_of_lt_of_le HLb3.out hk.size)
                have HZv4 := Lib.hid hz
                have HPva := Lib.hid (show ∀ p ∈ R.foot (.agg #[zv]), p ≠ qa from fun p hp e => by
                  rcases hf p hp with h | h
                  · exact HPua.out p h e
                  · have := HLa3.out; omega)
                have HPvb := Lib.hid (show ∀ p ∈ R.foot (.agg #[zv]), p ≠ qb from fun p hp e => by
                  rcases hf p hp with h | h
                  · exact HPub.out p h e
                  · have := HLb3.out; omega)
                clear hz hf
                clear hk
                refine hK.out _ _ ?_ (fun hHeld => ?_)
                · exact (by rw [HSE.out]; exact HK4.out)
                clear hK K
                try simp only [Act.put, List.setIfInBounds_toArray, List.set_cons_zero, List.set_cons_succ]
                apply wpAnyH_take (i := 6)
                · simp only [List.getElem?_toArray]; rfl
                · kernel_rfl
                · kernel_rfl
                · kernel_rfl
                · exact fun _ _ _ h => h
                · exact Or.inl ⟨by rfl, by intro w hSw; go_simp; try with_reducible rfl⟩
                · assumption
                try simp only [Act.put, List.setIfInBounds_toArray, List.set_cons_zero, List.set_cons_succ]
                apply wpAnyH_take (i := 7)
                · simp only [List.getElem?_toArray]; rfl
                · kernel_rfl
                · kernel_rfl
                · kernel_rfl
                · exact fun _ _ _ h => h
                · exact Or.inl ⟨by rfl, by intro w hSw; go_simp; try with_reducible rfl⟩
                · assumption
                try simp only [Act.put, List.setIfInBounds_toArray, List.set_cons_zero, List.set_cons_succ]
                apply wpAnyH_take (i := 8)
                · simp only [List.getElem?_toArray]; rfl
                · kernel_rfl
                · kernel_rfl
                · kernel_rfl
                · exact fun _ _ _ h => h
                · exact Or.inl ⟨by rfl, by intro w hSw; go_simp; try with_reducible rfl⟩
                · assumption
                try simp only [Act.put, List.setIfInBounds_toArray, List.set_cons_zero, List.set_cons_succ]
                apply wpAnyH_take (i := 9)
                · simp only [List.getElem?_toArray]; rfl
                · kernel_rfl
                · kernel_rfl
                · kernel_rfl
                · exact fun _ _ _ h => h
                · exact Or.inl ⟨by rfl, by intro w hSw; go_simp; try with_reducible rfl⟩
                · assumption
                try simp only [Act.put, List.setIfInBounds_toArray, List.set_cons_zero, List.set_cons_succ]
                apply wpAnyH_ready (rs := [12])
                · kernel_rfl
                · simp
                apply AllReadyH.cons (hs := AllReadyH.nil)
                · simp only [List.getElem?_toArray]; rfl
                intro K hK
                rw [if_pos (by rfl)]
                refine wp_putS (g := qa) (z := zv) rfl rfl rfl HBa4.out HOV.out ?_
                intro W5 h5 k5
                have HK5 := Lib.hid (HK4.out.trans k5 (fun p hp => .inr (by simp at hp; have := HGa.out; omega)))
                have HB5 := Lib.hid (k5.heap HBb4.out (by simp; have := HAB.out; omega))
                clear h5 k5
                refine hK.out _ _ ?_ (fun hHeld => ?_)
                · exact (by rw [HSE.out]; exact HK5.out)
                clear hK K
                try simp only [Act.put, List.setIfInBounds_toArray, List.set_cons_zero, List.set_cons_succ]
                apply wpAnyH_ready (rs := [13])
                · kernel_rfl
                · simp
                apply AllReadyH.cons (hs := AllReadyH.nil)
                · simp only [List.getElem?_toArray]; rfl
                intro K hK
                rw [if_pos (by rfl)]
                refine wp_putNw (g := qb) (old := ⟨0, 0⟩) (quX [] x).2.1 rfl rfl rfl HB5.out ?_
                intro W6 h6 k6
                have HK6 := Lib.hid (HK5.out.trans k6 (fun p hp => .inr (by simp at hp; have := HGb.out; omega)))
                clear h6 k6
                refine hK.out _ _ ?_ (fun hHeld => ?_)
                · exact (by rw [HSE.out]; exact HK6.out)
                clear hK K
                try simp only [Act.put, List.setIfInBounds_toArray, List.set_cons_zero, List.set_cons_succ]
                apply wpAnyH_take (i := 14)
                · simp only [List.getElem?_toArray]; rfl
                · kernel_rfl
                · kernel_rfl
                · kernel_rfl
                · exact fun _ _ _ h => h
                · exact Or.inl ⟨by rfl, by intro w hSw; go_simp; try with_reducible rfl⟩
                · assumption
                try simp only [Act.put, List.setIfInBounds_toArray, List.set_cons_zero, List.set_cons_succ]
                refine wpAnyH_done (by kernel_rfl) ?_ _
                refine NoPanic.normal ?_
                exact ⟨rfl, qa, qb, zv, [_, _, _, _, _, _, _, _, _, _], rfl, HK6.out⟩
              apply AllReadyH.cons (hs := AllReadyH.nil)
              · simp only [List.getElem?_toArray]; rfl
              intro K hK
              rw [if_pos (by rfl)]
              refine wp_allocA _ _ _ _ rfl ?_
              have hk : Keeps [] V1 (V1.alloc (.cells (ansC ⟨0, 0⟩).toArray 31)) := (Keeps.refl _ _).alloc _
              have hb := heap_alloc_new V1 (.cells (ansC ⟨0, 0⟩).toArray 31)
              have hl : V1.heap.size < (V1.alloc (.cells (ansC ⟨0, 0⟩).toArray 31)).heap.size := by rw [show (V1.alloc (.cells (ansC ⟨0, 0⟩).toArray 31)).heap.size = V1.heap.size + 1 from Array.size_push _]; omega
              have HPub := Lib.hid (fun p hp => (Nat.ne_of_lt (R.old HZu1.out p hp) : p ≠ V1.heap.size))
              have HGb := Lib.hid HK1.out.size
              generalize V1.alloc (.cells (ansC ⟨0, 0⟩).toArray 31) = V2 at *
              have HBb2 := Lib.hid hb; have HLb2 := Lib.hid hl
              have HK2 := Lib.hid (HK1.out.trans hk (FSub.refl _ _))
              have HZu2 := Lib.hid (R.new_ HZu1.out hk)
              clear hb hl hk
              generalize V1.heap.size = qb at *
              refine hK.out _ _ ?_ (fun hHeld => ?_)
              · exact (by rw [HSE.out]; exact HK2.out)
              clear hK K
              try simp only [Act.put, List.setIfInBounds_toArray, List.set_cons_zero, List.set_cons_succ]
              apply wpAnyH_ready (rs := [5, 10])
              · kernel_rfl
              · simp
              apply AllReadyH.cons
              · simp only [List.getElem?_toArray]; rfl
              · intro K hK
                rw [if_pos (by rfl)]
                refine wp_call10 12 _ _ rfl [.agg #[zu], .agg (opC x).toArray] rfl Tryd.func12 (by kernel_rfl) (by kernel_rfl) ?_
                refine (R.step V2 _ [] x (R.keepG HG.out (HKW.out.trans HK2.out (FSub.refl _ _))) HZu2.out (by decide) HXI.out).mono ?_
                rintro e V3 ⟨st, rfl, hz, hk, hf⟩
                rw [quX_err]
                obtain ⟨zv, rfl, ho⟩ := R.one hz
                have HOV := Lib.hid ho
                clear ho
                refine ⟨_, rfl, ?_⟩
                have HK3 := Lib.hid (HK2.out.trans hk (FSub.refl _ _))
                have HZu3 := Lib.hid (R.new_ HZu2.out hk)
                have HBb3 := Lib.hid (hk.heap HBb2.out (by simp))
                have HLb3 := Lib.hid (Nat.lt_of_lt_of_le HLb2.out hk.size)
                have HZv3 := Lib.hid hz
                have HPvb := Lib.hid (show ∀ p ∈ R.foot (.agg #[zv]), p ≠ qb from fun p hp e => by
                  rcases hf p hp with h | h
                  · exact HPub.out p h e
                  · have := HLb2.out; omega)
                clear hz hf
                clear hk
                refine hK.out _ _ ?_ (fun hHeld => ?_)
                · exact (by rw [HSE.out]; exact HK3.out)
                clear hK K
                try simp only [Act.put, List.setIfInBounds_toArray, List.set_cons_zero, List.set_cons_succ]
                apply wpAnyH_take (i := 6)
                · simp only [List.getElem?_toArray]; rfl
                · kernel_rfl
                · kernel_rfl
                · kernel_rfl
                · exact fun _ _ _ h => h
                · exact Or.inl ⟨by rfl, by intro w hSw; go_simp; try with_reducible rfl⟩
                · assumption
                try simp only [Act.put, List.setIfInBounds_toArray, List.set_cons_zero, List.set_cons_succ]
                apply wpAnyH_take (i := 7)
                · simp only [List.getElem?_toArray]; rfl
                · kernel_rfl
                · kernel_rfl
                · kernel_rfl
                · exact fun _ _ _ h => h
                · exact Or.inl ⟨by rfl, by intro w hSw; go_simp; try with_reducible rfl⟩
                · assumption
                try simp only [Act.put, List.setIfInBounds_toArray, List.set_cons_zero, List.set_cons_succ]
                apply wpAnyH_take (i := 8)
                · simp only [List.getElem?_toArray]; rfl
                · kernel_rfl
                · kernel_rfl
                · kernel_rfl
                · exact fun _ _ _ h => h
                · exact Or.inl ⟨by rfl, by intro w hSw; go_simp; try with_reducible rfl⟩
                · assumption
                try simp only [Act.put, List.setIfInBounds_toArray, List.set_cons_zero, List.set_cons_succ]
                apply wpAnyH_take (i := 9)
                · simp only [List.getElem?_toArray]; rfl
                · kernel_rfl
                · kernel_rfl
                · kernel_rfl
                · exact fun _ _ _ h => h
                · exact Or.inl ⟨by rfl, by intro w hSw; go_simp; try with_reducible rfl⟩
                · assumption
                try simp only [Act.put, List.setIfInBounds_toArray, List.set_cons_zero, List.set_cons_succ]
                apply wpAnyH_ready (rs := [10])
                · kernel_rfl
                · simp
                apply AllReadyH.cons (hs := AllReadyH.nil)
                · simp only [List.getElem?_toArray]; rfl
                intro K hK
                rw [if_pos (by rfl)]
                refine wp_allocS _ _ _ _ rfl ?_
                have hk : Keeps [] V3 (V3.alloc (.cells #[.slice none 0 0] 28)) := (Keeps.refl _ _).alloc _
                have hb := heap_alloc_new V3 (.cells #[.slice none 0 0] 28)
                have hl : V3.heap.size < (V3.alloc (.cells #[.slice none 0 0] 28)).heap.size := by rw [show (V3.alloc (.cells #[.slice none 0 0] 28)).heap.size = V3.heap.size + 1 from Array.size_push _]; omega
                have HPua := Lib.hid (fun p hp => (Nat.ne_of_lt (R.old HZu3.out p hp) : p ≠ V3.heap.size))
                have HPva := Lib.hid (fun p hp => (Nat.ne_of_lt (R.old HZv3.out p hp) : p ≠ V3.heap.size))
                have HAB := Lib.hid (Nat.ne_of_lt HLb3.out)
                have HGa := Lib.hid HK3.out.size
                generalize V3.alloc (.cells #[.slice none 0 0] 28) = V4 at *
                have HBa4 := Lib.hid hb; have HLa4 := Lib.hid hl
                have HK4 := Lib.hid (HK3.out.trans hk (FSub.refl _ _))
                have HZu4 := Lib.hid (R.new_ HZu3.out hk)
                have HZv4 := Lib.hid (R.new_ HZv3.out hk)
                have HBb4 := Lib.hid (hk.heap HBb3.out (by simp))
                have HLb4 := Lib.hid (Nat.lt_of_lt_of_le HLb3.out hk.size)
                clear hb hl hk
                generalize V3.heap.size = qa at *
                refine hK.out _ _ ?_ (fun hHeld => ?_)
                · exact (by rw [HSE.out]; exact HK4.out)
                clear hK K
                try simp only [Act.put, List.setIfInBounds_toArray, List.set_cons_zero, List.set_cons_succ]
                apply wpAnyH_ready (rs := [12])
                · kernel_rfl
                · simp
                apply AllReadyH.cons (hs := AllReadyH.nil)
                · simp only [List.getElem?_toArray]; rfl
                intro K hK
                rw [if_pos (by rfl)]
                refine wp_putS (g := qa) (z := zv) rfl rfl rfl HBa4.out HOV.out ?_
                intro W5 h5 k5
                have HK5 := Lib.hid (HK4.out.trans k5 (fun p hp => .inr (by simp at hp; have := HGa.out; omega)))
                have HB5 := Lib.hid (k5.heap HBb4.out (by simp; have := HAB.out; omega))
                clear h5 k5
                refine hK.out _ _ ?_ (fun hHeld => ?_)
                · exact (by rw [HSE.out]; exact HK5.out)
                clear hK K
                try simp only [Act.put, List.setIfInBounds_toArray, List.set_cons_zero, List.set_cons_succ]
                apply wpAnyH_ready (rs := [13])
                · kernel_rfl
                · simp
                apply AllReadyH.cons (hs := AllReadyH.nil)
                · simp only [List.getElem?_toArray]; rfl
                intro K hK
                rw [if_pos (by rfl)]
                refine wp_putNw (g := qb) (old := ⟨0, 0⟩) (quX [] x).2.1 rfl rfl rfl HB5.out ?_
                intro W6 h6 k6
                have HK6 := Lib.hid (HK5.out.trans k6 (fun p hp => .inr (by simp at hp; have := HGb.out; omega)))
                clear h6 k6
                refine hK.out _ _ ?_ (fun hHeld => ?_)
                · exact (by rw [HSE.out]; exact HK6.out)
                clear hK K
                try simp only [Act.put, List.setIfInBounds_toArray, List.set_cons_zero, List.set_cons_succ]
                apply wpAnyH_take (i := 14)
                · simp only [List.getElem?_toArray]; rfl
                · kernel_rfl
                · kernel_rfl
                · kernel_rfl
                · exact fun _ _ _ h => h
                · exact Or.inl ⟨by rfl, by intro w hSw; go_simp; try with_reducible rfl⟩
                · assumption
                try simp only [Act.put, List.setIfInBounds_toArray, List.set_cons_zero, List.set_cons_succ]
                refine wpAnyH_done (by kernel_rfl) ?_ _
                refine NoPanic.normal ?_
                exact ⟨rfl, qa, qb, zv, [_, _, _, _, _, _, _, _, _, _], rfl, HK6.out⟩
              apply AllReadyH.cons (hs := AllReadyH.nil)
              · simp only [List.getElem?_toArray]; rfl
              intro K hK
              rw [if_pos (by rfl)]
              refine wp_allocS _ _ _ _ rfl ?_
              have hk : Keeps [] V2 (V2.alloc (.cells #[.slice none 0 0] 28)) := (Keeps.refl _ _).alloc _
              have hb := heap_alloc_new V2 (.cells #[.slice none 0 0] 28)
              have hl : V2.heap.size < (V2.alloc (.cells #[.slice none 0 0] 28)).heap.size := by rw [show (V2.alloc (.cells #[.slice none 0 0] 28)).heap.size = V2.heap.size + 1 from Array.size_push _]; omega
              have HPua := Lib.hid (fun p hp => (Nat.ne_of_lt (R.old HZu2.out p hp) : p ≠ V2.heap.size))
              have HAB := Lib.hid (Nat.ne_of_lt HLb2.out)
              have HGa := Lib.hid HK2.out.size
              generalize V2.alloc (.cells #[.slice none 0 0] 28) = V3 at *
              have HBa3 := Lib.hid hb; have HLa3 := Lib.hid hl
              have HK3 := Lib.hid (HK2.out.trans hk (FSub.refl _ _))
              have HZu3 := Lib.hid (R.new_ HZu2.out hk)
              have HBb3 := Lib.hid (hk.heap HBb2.out (by simp))
              have HLb3 := Lib.hid (Nat.lt_of_lt_of_le HLb2.out hk.size)
              clear hb hl hk
              generalize V2.heap.size = qa at *
              refine hK.out _ _ ?_ (fun hHeld => ?_)
              · exact (by rw [HSE.out]; exact HK3.out)
              clear hK K
              try simp only [Act.put, List.setIfInBounds_toArray, List.set_cons_zero, List.set_cons_succ]
              apply wpAnyH_ready (rs := [5])
              · kernel_rfl
              · simp
              apply AllReadyH.cons (hs := AllReadyH.nil)
              · simp only [List.getElem?_toArray]; rfl
              intro K hK
              rw [if_pos (by rfl)]
              refine wp_call10 12 _ _ rfl [.agg #[zu], .agg (opC x).toArray] rfl Tryd.func12 (by kernel_rfl) (by kernel_rfl) ?_
              refine (R.step V3 _ [] x (R.keepG HG.out (HKW.out.trans HK3.out (FSub.refl _ _))) HZu3.out (by decide) HXI.out).mono ?_
              rintro e V4 ⟨st, rfl, hz, hk, hf⟩
              rw [quX_err]
              obtain ⟨zv, rfl, ho⟩ := R.one hz
              have HOV := Lib.hid ho
              clear ho
              refine ⟨_, rfl, ?_⟩
              have HK4 := Lib.hid (HK3.out.trans hk (FSub.refl _ _))
              have HZu4 := Lib.hid (R.new_ HZu3.out hk)
              have HBb4 := Lib.hid (hk.heap HBb3.out (by simp))
              have HLb4 := Lib.hid (Nat.lt_of_lt_of_le HLb3.out hk.size)
              have HBa4 := Lib.hid (hk.heap HBa3.out (by simp))
              have HLa4 := Lib.hid (Nat.lt_of_lt_of_le HLa3.out hk.size)
              have HZv4 := Lib.hid hz
              have HPvb := Lib.hid (show ∀ p ∈ R.foot (.agg #[zv]), p ≠ qb from fun p hp e => by
                rcases hf p hp with h | h
                · exact HPub.out p h e
                · have := HLb3.out; omega)
              have HPva := Lib.hid (show ∀ p ∈ R.foot (.agg #[zv]), p ≠ qa from fun p hp e => by
                rcases hf p hp with h | h
                · exact HPua.out p h e
                · have := HLa3.out; omega)
              clear hz hf
              clear hk
              refine hK.out _ _ ?_ (fun hHeld => ?_)
              · exact (by rw [HSE.out]; exact HK4.out)
              clear hK K
              try simp only [Act.put, List.setIfInBounds_toArray, List.set_cons_zero, List.set_cons_succ]
              apply wpAnyH_take (i := 6)
              · simp only [List.getElem?_toArray]; rfl
              · kernel_rfl
              · kernel_rfl
              · kernel_rfl
              · exact fun _ _ _ h => h
              · exact Or.inl ⟨by rfl, by intro w hSw; go_simp; try with_reducible rfl⟩
              · assumption
              try simp only [Act.put, List.setIfInBounds_toArray, List.set_cons_zero, List.set_cons_succ]
              apply wpAnyH_take (i := 7)
              · simp only [List.getElem?_toArray]; rfl
              · kernel_rfl
              · kernel_rfl
              · kernel_rfl
              · exact fun _ _ _ h => h
              · exact Or.inl ⟨by rfl, by intro w hSw; go_simp; try with_reducible rfl⟩
              · assumption
              try simp only [Act.put, List.setIfInBounds_toArray, List.set_cons_zero, List.set_cons_succ]
              apply wpAnyH_take (i := 8)
              · simp only [List.getElem?_toArray]; rfl
              · kernel_rfl
              · kernel_rfl
              · kernel_rfl
              · exact fun _ _ _ h => h
              · exact Or.inl ⟨by rfl, by intro w hSw; go_simp; try with_reducible rfl⟩
              · assumption
              try simp only [Act.put, List.setIfInBounds_toArray, List.set_cons_zero, List.set_cons_succ]
              apply wpAnyH_take (i := 9)
              · simp only [List.getElem?_toArray]; rfl
              · kernel_rfl
              · kernel_rfl
              · kernel_rfl
              · exact fun _ _ _ h => h
              · exact Or.inl ⟨by rfl, by intro w hSw; go_simp; try with_reducible rfl⟩
              · assumption
              try simp only [Act.put, List.setIfInBounds_toArray, List.set_cons_zero, List.set_cons_succ]
              apply wpAnyH_ready (rs := [12])
              · kernel_rfl
              · simp
              apply AllReadyH.cons (hs := AllReadyH.nil)
              · simp only [List.getElem?_toArray]; rfl
              intro K hK
              rw [if_pos (by rfl)]
              refine wp_putS (g := qa) (z := zv) rfl rfl rfl HBa4.out HOV.out ?_
              intro W5 h5 k5
              have HK5 := Lib.hid (HK4.out.trans k5 (fun p hp => .inr (by simp at hp; have := HGa.out; omega)))
              have HB5 := Lib.hid (k5.heap HBb4.out (by simp; have := HAB.out; omega))
              clear h5 k5
              refine hK.out _ _ ?_ (fun hHeld => ?_)
              · exact (by rw [HSE.out]; exact HK5.out)
              clear hK K
              try simp only [Act.put, List.setIfInBounds_toArray, List.set_cons_zero, List.set_cons_succ]
              apply wpAnyH_ready (rs := [13])
              · kernel_rfl
              · simp
              apply AllReadyH.cons (hs := AllReadyH.nil)
              · simp only [List.getElem?_toArray]; rfl
              intro K hK
              rw [if_pos (by rfl)]
              refine wp_putNw (g := qb) (old := ⟨0, 0⟩) (quX [] x).2.1 rfl rfl rfl HB5.out ?_
              intro W6 h6 k6
              have HK6 := Lib.hid (HK5.out.trans k6 (fun p hp => .inr (by simp at hp; have := HGb.out; omega)))
              clear h6 k6
              refine hK.out _ _ ?_ (fun hHeld => ?_)
              · exact (by rw [HSE.out]; exact HK6.out)
              clear hK K
              try simp only [Act.put, List.setIfInBounds_toArray, List.set_cons_zero, List.set_cons_succ]
              apply wpAnyH_take (i := 14)
              · simp only [List.getElem?_toArray]; rfl
              · kernel_rfl
              · kernel_rfl
              · kernel_rfl
              · exact fun _ _ _ h => h
              · exact Or.inl ⟨by rfl, by intro w hSw; go_simp; try with_reducible rfl⟩
              · assumption
              try simp only [Act.put, List.setIfInBounds_toArray, List.set_cons_zero, List.set_cons_succ]
              refine wpAnyH_done (by kernel_rfl) ?_ _
              refine NoPanic.normal ?_
              exact ⟨rfl, qa, qb, zv, [_, _, _, _, _, _, _, _, _, _], rfl, HK6.out⟩
            apply AllReadyH.cons
            · simp only [List.getElem?_toArray]; rfl
            · intro K hK
              rw [if_pos (by rfl)]
              refine wp_allocS _ _ _ _ rfl ?_
              have hk : Keeps [] V0 (V0.alloc (.cells #[.slice none 0 0] 28)) := (Keeps.refl _ _).alloc _
              have hb := heap_alloc_new V0 (.cells #[.slice none 0 0] 28)
              have hl : V0.heap.size < (V0.alloc (.cells #[.slice none 0 0] 28)).heap.size := by rw [show (V0.alloc (.cells #[.slice none 0 0] 28)).heap.size = V0.heap.size + 1 from Array.size_push _]; omega
              have HGa := Lib.hid HK0.out.size
              generalize V0.alloc (.cells #[.slice none 0 0] 28) = V1 at *
              have HBa1 := Lib.hid hb; have HLa1 := Lib.hid hl
              have HK1 := Lib.hid (HK0.out.trans hk (FSub.refl _ _))
              clear hb hl hk
              generalize V0.heap.size = qa at *
              refine hK.out _ _ ?_ (fun hHeld => ?_)
              · exact (by rw [HSE.out]; exact HK1.out)
              clear hK K
              try simp only [Act.put, List.setIfInBounds_toArray, List.set_cons_zero, List.set_cons_succ]
              apply wpAnyH_ready (rs := [0, 11])
              · kernel_rfl
              · simp
              apply AllReadyH.cons
              · simp only [List.getElem?_toArray]; rfl
              · intro K hK
                rw [if_pos (by rfl)]
                refine wp_call10 24 _ _ rfl [] rfl Tryd.func24 (by kernel_rfl) (by kernel_rfl) ?_
                refine (R.new V1 (R.keepG HG.out (HKW.out.trans HK1.out (FSub.refl _ _)))).mono ?_
                rintro e V2 ⟨st, rfl, hz, hk, hf⟩
                obtain ⟨zu, rfl, -⟩ := R.one hz
                refine ⟨_, rfl, ?_⟩
                have HK2 := Lib.hid (HK1.out.trans hk (FSub.refl _ _))
                have HBa2 := Lib.hid (hk.heap HBa1.out (by simp))
                have HLa2 := Lib.hid (Nat.lt_of_lt_of_le HLa1.out hk.size)
                have HZu2 := Lib.hid hz
                have HPua := Lib.hid (show ∀ p ∈ R.foot (.agg #[zu]), p ≠ qa from fun p hp e => by
                  have := hf p hp; have := HLa1.out; omega)
                clear hz hf
                clear hk
                refine hK.out _ _ ?_ (fun hHeld => ?_)
                · exact (by rw [HSE.out]; exact HK2.out)
                clear hK K
                try simp only [Act.put, List.setIfInBounds_toArray, List.set_cons_zero, List.set_cons_succ]
                apply wpAnyH_ready (rs := [5, 11])
                · kernel_rfl
                · simp
                apply AllReadyH.cons
                · simp only [List.getElem?_toArray]; rfl
                · intro K hK
                  rw [if_pos (by rfl)]
                  refine wp_call10 12 _ _ rfl [.agg #[zu], .agg (opC x).toArray] rfl Tryd.func12 (by kernel_rfl) (by kernel_rfl) ?_
                  refine (R.step V2 _ [] x (R.keepG HG.out (HKW.out.trans HK2.out (FSub.refl _ _))) HZu2.out (by decide) HXI.out).mono ?_
                  rintro e V3 ⟨st, rfl, hz, hk, hf⟩
                  rw [quX_err]
                  obtain ⟨zv, rfl, ho⟩ := R.one hz
                  have HOV := Lib.hid ho
                  clear ho
                  refine ⟨_, rfl, ?_⟩
                  have HK3 := Lib.hid (HK2.out.trans hk (FSub.refl _ _))
                  have HZu3 := Lib.hid (R.new_ HZu2.out hk)
                  have HBa3 := Lib.hid (hk.heap HBa2.out (by simp))
                  have HLa3 := Lib.hid (Nat.lt_of_lt_of_le HLa2.out hk.size)
                  have HZv3 := Lib.hid hz
                  have HPva := Lib.hid (show ∀ p ∈ R.foot (.agg #[zv]), p ≠ qa from fun p hp e => by
                    rcases hf p hp with h | h
                    · exact HPua.out p h e
                    · have := HLa2.out; omega)
                  clear hz hf
                  clear hk
                  refine hK.out _ _ ?_ (fun hHeld => ?_)
                  · exact (by rw [HSE.out]; exact HK3.out)
                  clear hK K
                  try simp only [Act.put, List.setIfInBounds_toArray, List.set_cons_zero, List.set_cons_succ]
                  apply wpAnyH_take (i := 6)
                  · simp only [List.getElem?_toArray]; rfl
                  · kernel_rfl
                  · kernel_rfl
                  · kernel_rfl
                  · exact fun _ _ _ h => h
                  · exact Or.inl ⟨by rfl, by intro w hSw; go_simp; try with_reducible rfl⟩
                  · assumption
                  try simp only [Act.put, List.setIfInBounds_toArray, List.set_cons_zero, List.set_cons_succ]
                  apply wpAnyH_take (i := 7)
                  · simp only [List.getElem?_toArray]; rfl
                  · kernel_rfl
                  · kernel_rfl
                  · kernel_rfl
                  · exact fun _ _ _ h => h
                  · exact Or.inl ⟨by rfl, by intro w hSw; go_simp; try with_reducible rfl⟩
                  · assumption
                  try simp only [Act.put, List.setIfInBounds_toArray, List.set_cons_zero, List.set_cons_succ]
                  apply wpAnyH_take (i := 8)
                  · simp only [List.getElem?_toArray]; rfl
                  · kernel_rfl
                  · kernel_rfl
                  · kernel_rfl
                  · exact fun _ _ _ h => h
                  · exact Or.inl ⟨by rfl, by intro w hSw; go_simp; try with_reducible rfl⟩
                  · assumption
                  try simp only [Act.put, List.setIfInBounds_toArray, List.set_cons_zero, List.set_cons_succ]
                  apply wpAnyH_take (i := 9)
                  · simp only [List.getElem?_toArray]; rfl
                  · kernel_rfl
                  · kernel_rfl
                  · kernel_rfl
                  · exact fun _ _ _ h => h
                  · exact Or.inl ⟨by rfl, by intro w hSw; go_simp; try with_reducible rfl⟩
                  · assumption
                  try simp only [Act.put, List.setIfInBounds_toArray, List.set_cons_zero, List.set_cons_succ]
                  apply wpAnyH_ready (rs := [11])
                  · kernel_rfl
                  · simp
                  apply AllReadyH.cons (hs := AllReadyH.nil)
                  · simp only [List.getElem?_toArray]; rfl
                  intro K hK
                  rw [if_pos (by rfl)]
                  refine wp_allocA _ _ _ _ rfl ?_
                  have hk : Keeps [] V3 (V3.alloc (.cells (ansC ⟨0, 0⟩).toArray 31)) := (Keeps.refl _ _).alloc _
                  have hb := heap_alloc_new V3 (.cells (ansC ⟨0, 0⟩).toArray 31)
                  have hl : V3.heap.size < (V3.alloc (.cells (ansC ⟨0, 0⟩).toArray 31)).heap.size := by rw [show (V3.alloc (.cells (ansC ⟨0, 0⟩).toArray 31)).heap.size = V3.heap.size + 1 from Array.size_push _]; omega
                  have HPub := Lib.hid (fun p hp => (Nat.ne_of_lt (R.old HZu3.out p hp) : p ≠ V3.heap.size))
                  have HPvb := Lib.hid (fun p hp => (Nat.ne_of_lt (R.old HZv3.out p hp) : p ≠ V3.heap.size))
                  have HAB := Lib.hid (Nat.ne_of_lt HLa3.out)
                  have HGb := Lib.hid HK3.out.size
                  generalize V3.alloc (.cells (ansC ⟨0, 0⟩).toArray 31) = V4 at *
                  have HBb4 := Lib.hid hb; have HLb4 := Lib.hid hl
                  have HK4 := Lib.hid (HK3.out.trans hk (FSub.refl _ _))
                  have HZu4 := Lib.hid (R.new_ HZu3.out hk)
                  have HZv4 := Lib.hid (R.new_ HZv3.out hk)
                  have HBa4 := Lib.hid (hk.heap HBa3.out (by simp))
                  have HLa4 := Lib.hid (Nat.lt_of_lt_of_le HLa3.out hk.size)
                  clear hb hl hk
                  generalize V3.heap.size = qb at *
                  refine hK.out _ _ ?_ (fun hHeld => ?_)
                  · exact (by rw [HSE.out]; exact HK4.out)
                  clear hK K
                  try simp only [Act.put, List.setIfInBounds_toArray, List.set_cons_zero, List.set_cons_succ]
                  apply wpAnyH_ready (rs := [12])
                  · kernel_rfl
                  · simp
                  apply AllReadyH.cons (hs := AllReadyH.nil)
                  · simp only [List.getElem?_toArray]; rfl
                  intro K hK
                  rw [if_pos (by rfl)]
                  refine wp_putS (g := qa) (z := zv) rfl rfl rfl HBa4.out HOV.out ?_
                  intro W5 h5 k5
                  have HK5 := Lib.hid (HK4.out.trans k5 (fun p hp => .inr (by simp at hp; have := HGa.out; omega)))
                  have HB5 := Lib.hid (k5.heap HBb4.out (by simp; have := HAB.out; omega))
                  clear h5 k5
                  refine hK.out _ _ ?_ (fun hHeld => ?_)
                  · exact (by rw [HSE.out]; exact HK5.out)
                  clear hK K
                  try simp only [Act.put, List.setIfInBounds_toArray, List.set_cons_zero, List.set_cons_succ]
                  apply wpAnyH_ready (rs := [13])
                  · kernel_rfl
                  · simp
                  apply AllReadyH.cons (hs := AllReadyH.nil)
                  · simp only [List.getElem?_toArray]; rfl
                  intro K hK
                  rw [if_pos (by rfl)]
                  refine wp_putNw (g := qb) (old := ⟨0, 0⟩) (quX [] x).2.1 rfl rfl rfl HB5.out ?_
                  intro W6 h6 k6
                  have HK6 := Lib.hid (HK5.out.trans k6 (fun p hp => .inr (by simp at hp; have := HGb.out; omega)))
                  clear h6 k6
                  refine hK.out _ _ ?_ (fun hHeld => ?_)
                  · exact (by rw [HSE.out]; exact HK6.out)
                  clear hK K
                  try simp only [Act.put, List.setIfInBounds_toArray, List.set_cons_zero, List.set_cons_succ]
                  apply wpAnyH_take (i := 14)
                  · simp only [List.getElem?_toArray]; rfl
                  · kernel_rfl
                  · kernel_rfl
                  · kernel_rfl
                  · exact fun _ _ _ h => h
                  · exact Or.inl ⟨by rfl, by intro w hSw; go_simp; try with_reducible rfl⟩
                  · assumption
                  try simp only [Act.put, List.setIfInBounds_toArray, List.set_cons_zero, List.set_cons_succ]
                  refine wpAnyH_done (by kernel_rfl) ?_ _
                  refine NoPanic.normal ?_
                  exact ⟨rfl, qa, qb, zv, [_, _, _, _, _, _, _, _, _, _], rfl, HK6.out⟩
                apply AllReadyH.cons (hs := AllReadyH.nil)
                · simp only [List.getElem?_toArray]; rfl
                intro K hK
                rw [if_pos (by rfl)]
                refine wp_allocA _ _ _ _ rfl ?_
                have hk : Keeps [] V2 (V2.alloc (.cells (ansC ⟨0, 0⟩).toArray 31)) := (Keeps.refl _ _).alloc _
                have hb := heap_alloc_new V2 (.cells (ansC ⟨0, 0⟩).toArray 31)
                have hl : V2.heap.size < (V2.alloc (.cells (ansC ⟨0, 0⟩).toArray 31)).heap.size := by rw [show (V2.alloc (.cells (ansC ⟨0, 0⟩).toArray 31)).heap.size = V2.heap.size + 1 from Array.size_push _]; omega
                have HPub := Lib.hid (fun p hp => (Nat.ne_of_lt (R.old HZu2.out p hp) : p ≠ V2.heap.size))
                have HAB := Lib.hid (Nat.ne_of_lt HLa2.out)
                have HGb := Lib.hid HK2.out.size
                generalize V2.alloc (.cells (ansC ⟨0, 0⟩).toArray 31) = V3 at *
                have HBb3 := Lib.hid hb; have HLb3 := Lib.hid hl
                have HK3 := Lib.hid (HK2.out.trans hk (FSub.refl _ _))
                have HZu3 := Lib.hid (R.new_ HZu2.out hk)
                have HBa3 := Lib.hid (hk.heap HBa2.out (by simp))
                have HLa3 := Lib.hid (Nat.lt_of_lt_of_le HLa2.out hk.size)
                clear hb hl hk
                generalize V2.heap.size = qb at *
                refine hK.out _ _ ?_ (fun hHeld => ?_)
                · exact (by rw [HSE.out]; exact HK3.out)
                clear hK K
                try simp only [Act.put, List.setIfInBounds_toArray, List.set_cons_zero, List.set_cons_succ]
                apply wpAnyH_ready (rs := [5])
                · kernel_rfl
                · simp
                apply AllReadyH.cons (hs := AllReadyH.nil)
                · simp only [List.getElem?_toArray]; rfl
                intro K hK
                rw [if_pos (by rfl)]
                refine wp_call10 12 _ _ rfl [.agg #[zu], .agg (opC x).toArray] rfl Tryd.func12 (by kernel_rfl) (by kernel_rfl) ?_
                refine (R.step V3 _ [] x (R.keepG HG.out (HKW.out.trans HK3.out (FSub.refl _ _))) HZu3.out (by decide) HXI.out).mono ?_
                rintro e V4 ⟨st, rfl, hz, hk, hf⟩
                rw [quX_err]
                obtain ⟨zv, rfl, ho⟩ := R.one hz
                have HOV := Lib.hid ho
                clear ho
                refine ⟨_, rfl, ?_⟩
                have HK4 := Lib.hid (HK3.out.trans hk (FSub.refl _ _))
                have HZu4 := Lib.hid (R.new_ HZu3.out hk)
                have HBa4 := Lib.hid (hk.heap HBa3.out (by simp))
                have HLa4 := Lib.hid (Nat.lt_of_lt_of_le HLa3.out hk.size)
                have HBb4 := Lib.hid (hk.heap HBb3.out (by simp))
                have HLb4 := Lib.hid (Nat.lt_of_lt_of_le HLb3.out hk.size)
                have HZv4 := Lib.hid hz
                have HPva := Lib.hid (show ∀ p ∈ R.foot (.agg #[zv]), p ≠ qa from fun p hp e => by
                  rcases hf p hp with h | h
                  · exact HPua.out p h e
                  · have := HLa3.out; omega)
                have HPvb := Lib.hid (show ∀ p ∈ R.foot (.agg #[zv]), p ≠ qb from fun p hp e => by
                  rcases hf p hp with h | h
                  · exact HPub.out p h e
                  · have := HLb3.out; omega)
                clear hz hf
                clear hk
                refine hK.out _ _ ?_ (fun hHeld => ?_)
                · exact (by rw [HSE.out]; exact HK4.out)
                clear hK K
                try simp only [Act.put, List.setIfInBounds_toArray, List.set_cons_zero, List.set_cons_succ]
                apply wpAnyH_take (i := 6)
                · simp only [List.getElem?_toArray]; rfl
                · kernel_rfl
                · kernel_rfl
                · kernel_rfl
                · exact fun _ _ _ h => h
                · exact Or.inl ⟨by rfl, by intro w hSw; go_simp; try with_reducible rfl⟩
                · assumption
                try simp only [Act.put, List.setIfInBounds_toArray, List.set_cons_zero, List.set_cons_succ]
                apply wpAnyH_take (i := 7)
                · simp only [List.getElem?_toArray]; rfl
                · kernel_rfl
                · kernel_rfl
                · kernel_rfl
                · exact fun _ _ _ h => h
                · exact Or.inl ⟨by rfl, by intro w hSw; go_simp; try with_reducible rfl⟩
                · assumption
                try simp only [Act.put, List.setIfInBounds_toArray, List.set_cons_zero, List.set_cons_succ]
                apply wpAnyH_take (i := 8)
                · simp only [List.getElem?_toArray]; rfl
                · kernel_rfl
                · kernel_rfl
                · kernel_rfl
                · exact fun _ _ _ h => h
                · exact Or.inl ⟨by rfl, by intro w hSw; go_simp; try with_reducible rfl⟩
                · assumption
                try simp only [Act.put, List.setIfInBounds_toArray, List.set_cons_zero, List.set_cons_succ]
                apply wpAnyH_take (i := 9)
                · simp only [List.getElem?_toArray]; rfl
                · kernel_rfl
                · kernel_rfl
                · kernel_rfl
                · exact fun _ _ _ h => h
                · exact Or.inl ⟨by rfl, by intro w hSw; go_simp; try with_reducible rfl⟩
                · assumption
                try simp only [Act.put, List.setIfInBounds_toArray, List.set_cons_zero, List.set_cons_succ]
                apply wpAnyH_ready (rs := [12])
                · kernel_rfl
                · simp
                apply AllReadyH.cons (hs := AllReadyH.nil)
                · simp only [List.getElem?_toArray]; rfl
                intro K hK
                rw [if_pos (by rfl)]
                refine wp_putS (g := qa) (z := zv) rfl rfl rfl HBa4.out HOV.out ?_
                intro W5 h5 k5
                have HK5 := Lib.hid (HK4.out.trans k5 (fun p hp => .inr (by simp at hp; have := HGa.out; omega)))
                have HB5 := Lib.hid (k5.heap HBb4.out (by simp; have := HAB.out; omega))
                clear h5 k5
                refine hK.out _ _ ?_ (fun hHeld => ?_)
                · exact (by rw [HSE.out]; exact HK5.out)
                clear hK K
                try simp only [Act.put, List.setIfInBounds_toArray, List.set_cons_zero, List.set_cons_succ]
                apply wpAnyH_ready (rs := [13])
                · kernel_rfl
                · simp
                apply AllReadyH.cons (hs := AllReadyH.nil)
                · simp only [List.getElem?_toArray]; rfl
                intro K hK
                rw [if_pos (by rfl)]
                refine wp_putNw (g := qb) (old := ⟨0, 0⟩) (quX [] x).2.1 rfl rfl rfl HB5.out ?_
                intro W6 h6 k6
                have HK6 := Lib.hid (HK5.out.trans k6 (fun p hp => .inr (by simp at hp; have := HGb.out; omega)))
                clear h6 k6
                refine hK.out _ _ ?_ (fun hHeld => ?_)
                · exact (by rw [HSE.out]; exact HK6.out)
                clear hK K
                try simp only [Act.put, List.setIfInBounds_toArray, List.set_cons_zero, List.set_cons_succ]
                apply wpAnyH_take (i := 14)
                · simp only [List.getElem?_toArray]; rfl
                · kernel_rfl
                · kernel_rfl
                · kernel_rfl
                · exact fun _ _ _ h => h
                · exact Or.inl ⟨by rfl, by intro w hSw; go_simp; try with_reducible rfl⟩
                · assumption
                try simp only [Act.put, List.setIfInBounds_toArray, List.set_cons_zero, List.set_cons_succ]
                refine wpAnyH_done (by kernel_rfl) ?_ _
                refine NoPanic.normal ?_
                exact ⟨rfl, qa, qb, zv, [_, _, _, _, _, _, _, _, _, _], rfl, HK6.out⟩
              apply AllReadyH.cons (hs := AllReadyH.nil)
              · simp only [List.getElem?_toArray]; rfl
              intro K hK
              rw [if_pos (by rfl)]
              refine wp_allocA _ _ _ _ rfl ?_
              have hk : Keeps [] V1 (V1.alloc (.cells (ansC ⟨0, 0⟩).toArray 31)) := (Keeps.refl _ _).alloc _
              have hb := heap_alloc_new V1 (.cells (ansC ⟨0, 0⟩).toArray 31)
              have hl : V1.heap.size < (V1.alloc (.cells (ansC ⟨0, 0⟩).toArray 31)).heap.size := by rw [show (V1.alloc (.cells (ansC ⟨0, 0⟩).toArray 31)).heap.size = V1.heap.size + 1 from Array.size_push _]; omega
              have HAB := Lib.hid (Nat.ne_of_lt HLa1.out)
              have HGb := Lib.hid HK1.out.size
              generalize V1.alloc (.cells (ansC ⟨0, 0⟩).toArray 31) = V2 at *
              have HBb2 := Lib.hid hb; have HLb2 := Lib.hid hl
              have HK2 := Lib.hid (HK1.out.trans hk (FSub.refl _ _))
              have HBa2 := Lib.hid (hk.heap HBa1.out (by simp))
              have HLa2 := Lib.hid (Nat.lt_of_lt_of_le HLa1.out hk.size)
              clear hb hl hk
              generalize V1.heap.size = qb at *
              refine hK.out _ _ ?_ (fun hHeld => ?_)
              · exact (by rw [HSE.out]; exact HK2.out)
              clear hK K
              try simp only [Act.put, List.setIfInBounds_toArray, List.set_cons_zero, List.set_cons_succ]
              apply wpAnyH_ready (rs := [0])
              · kernel_rfl
              · simp
              apply AllReadyH.cons (hs := AllReadyH.nil)
              · simp only [List.getElem?_toArray]; rfl
              intro K hK
              rw [if_pos (by rfl)]
              refine wp_call10 24 _ _ rfl [] rfl Tryd.func24 (by kernel_rfl) (by kernel_rfl) ?_
              refine (R.new V2 (R.keepG HG.out (HKW.out.trans HK2.out (FSub.refl _ _)))).mono ?_
              rintro e V3 ⟨st, rfl, hz, hk, hf⟩
              obtain ⟨zu, rfl, -⟩ := R.one hz
              refine ⟨_, rfl, ?_⟩
              have HK3 := Lib.hid (HK2.out.trans hk (FSub.refl _ _))
              have HBa3 := Lib.hid (hk.heap HBa2.out (by simp))
              have HLa3 := Lib.hid (Nat.lt_of_lt_of_le HLa2.out hk.size)
              have HBb3 := Lib.hid (hk.heap HBb2.out (by simp))
              have HLb3 := Lib.hid (Nat.lt_of_lt_of_le HLb2.out hk.size)
              have HZu3 := Lib.hid hz
              have HPua := Lib.hid (show ∀ p ∈ R.foot (.agg #[zu]), p ≠ qa from fun p hp e => by
                have := hf p hp; have := HLa2.out; omega)
              have HPub := Lib.hid (show ∀ p ∈ R.foot (.agg #[zu]), p ≠ qb from fun p hp e => by
                have := hf p hp; have := HLb2.out; omega)
              clear hz hf
              clear hk
              refine hK.out _ _ ?_ (fun hHeld => ?_)
              · exact (by rw [HSE.out]; exact HK3.out)
              clear hK K
              try simp only [Act.put, List.setIfInBounds_toArray, List.set_cons_zero, List.set_cons_succ]
              apply wpAnyH_ready (rs := [5])
              · kernel_rfl
              · simp
              apply AllReadyH.cons (hs := AllReadyH.nil)
              · simp only [List.getElem?_toArray]; rfl
              intro K hK
              rw [if_pos (by rfl)]
              refine wp_call10 12 _ _ rfl [.agg #[zu], .agg (opC x).toArray] rfl Tryd.func12 (by kernel_rfl) (by kernel_rfl) ?_
              refine (R.step V3 _ [] x (R.keepG HG.out (HKW.out.trans HK3.out (FSub.refl _ _))) HZu3.out (by decide) HXI.out).mono ?_
              rintro e V4 ⟨st, rfl, hz, hk, hf⟩
              rw [quX_err]
              obtain ⟨zv, rfl, ho⟩ := R.one hz
              have HOV := Lib.hid ho
              clear ho
              refine ⟨_, rfl, ?_⟩
              have HK4 := Lib.hid (HK3.out.trans hk (FSub.refl _ _))
              have HZu4 := Lib.hid (R.new_ HZu3.out hk)
              have HBa4 := Lib.hid (hk.heap HBa3.out (by simp))
              have HLa4 := Lib.hid (Nat.lt_of_lt_of_le HLa3.out hk.size)
              have HBb4 := Lib.hid (hk.heap HBb3.out (by simp))
              have HLb4 := Lib.hid (Nat.lt_of_lt_of_le HLb3.out hk.size)
              have HZv4 := Lib.hid hz
              have HPva := Lib.hid (show ∀ p ∈ R.foot (.agg #[zv]), p ≠ qa from fun p hp e => by
                rcases hf p hp with h | h
                · exact HPua.out p h e
                · have := HLa3.out; omega)
              have HPvb := Lib.hid (show ∀ p ∈ R.foot (.agg #[zv]), p ≠ qb from fun p hp e => by
                rcases hf p hp with h | h
                · exact HPub.out p h e
                · have := HLb3.out; omega)
              clear hz hf
              clear hk
              refine hK.out _ _ ?_ (fun hHeld => ?_)
              · exact (by rw [HSE.out]; exact HK4.out)
              clear hK K
              try simp only [Act.put, List.setIfInBounds_toArray, List.set_cons_zero, List.set_cons_succ]
              apply wpAnyH_take (i := 6)
              · simp only [List.getElem?_toArray]; rfl
              · kernel_rfl
              · kernel_rfl
              · kernel_rfl
              · exact fun _ _ _ h => h
              · exact Or.inl ⟨by rfl, by intro w hSw; go_simp; try with_reducible rfl⟩
              · assumption
              try simp only [Act.put, List.setIfInBounds_toArray, List.set_cons_zero, List.set_cons_succ]
              apply wpAnyH_take (i := 7)
              · simp only [List.getElem?_toArray]; rfl
              · kernel_rfl
              · kernel_rfl
              · kernel_rfl
              · exact fun _ _ _ h => h
              · exact Or.inl ⟨by rfl, by intro w hSw; go_simp; try with_reducible rfl⟩
              · assumption
              try simp only [Act.put, List.setIfInBounds_toArray, List.set_cons_zero, List.set_cons_succ]
              apply wpAnyH_take (i := 8)
              · simp only [List.getElem?_toArray]; rfl
              · kernel_rfl
              · kernel_rfl
              · kernel_rfl
              · exact fun _ _ _ h => h
              · exact Or.inl ⟨by rfl, by intro w hSw; go_simp; try with_reducible rfl⟩
              · assumption
              try simp only [Act.put, List.setIfInBounds_toArray, List.set_cons_zero, List.set_cons_succ]
              apply wpAnyH_take (i := 9)
              · simp only [List.getElem?_toArray]; rfl
              · kernel_rfl
              · kernel_rfl
              · kernel_rfl
              · exact fun _ _ _ h => h
              · exact Or.inl ⟨by rfl, by intro w hSw; go_simp; try with_reducible rfl⟩
              · assumption
              try simp only [Act.put, List.setIfInBounds_toArray, List.set_cons_zero, List.set_cons_succ]
              apply wpAnyH_ready (rs := [12])
              · kernel_rfl
              · simp
              apply AllReadyH.cons (hs := AllReadyH.nil)
              · simp only [List.getElem?_toArray]; rfl
              intro K hK
              rw [if_pos (by rfl)]
              refine wp_putS (g := qa) (z := zv) rfl rfl rfl HBa4.out HOV.out ?_
              intro W5 h5 k5
              have HK5 := Lib.hid (HK4.out.trans k5 (fun p hp => .inr (by simp at hp; have := HGa.out; omega)))
              have HB5 := Lib.hid (k5.heap HBb4.out (by simp; have := HAB.out; omega))
              clear h5 k5
              refine hK.out _ _ ?_ (fun hHeld => ?_)
              · exact (by rw [HSE.out]; exact HK5.out)
              clear hK K
              try simp only [Act.put, List.setIfInBounds_toArray, List.set_cons_zero, List.set_cons_succ]
              apply wpAnyH_ready (rs := [13])
              · kernel_rfl
              · simp
              apply AllReadyH.cons (hs := AllReadyH.nil)
              · simp only [List.getElem?_toArray]; rfl
              intro K hK
              rw [if_pos (by rfl)]
              refine wp_putNw (g := qb) (old := ⟨0, 0⟩) (quX [] x).2.1 rfl rfl rfl HB5.out ?_
              intro W6 h6 k6
              have HK6 := Lib.hid (HK5.out.trans k6 (fun p hp => .inr (by simp at hp; have := HGb.out; omega)))
              clear h6 k6
              refine hK.out _ _ ?_ (fun hHeld => ?_)
              · exact (by rw [HSE.out]; exact HK6.out)
              clear hK K
              try simp only [Act.put, List.setIfInBounds_toArray, List.set_cons_zero, List.set_cons_succ]
              apply wpAnyH_take (i := 14)
              · simp only [List.getElem?_toArray]; rfl
              · kernel_rfl
              · kernel_rfl
              · kernel_rfl
              · exact fun _ _ _ h => h
              · exact Or.inl ⟨by rfl, by intro w hSw; go_simp; try with_reducible rfl⟩
              · assumption
              try simp only [Act.put, List.setIfInBounds_toArray, List.set_cons_zero, List.set_cons_succ]
              refine wpAnyH_done (by kernel_rfl) ?_ _
              refine NoPanic.normal ?_
              exact ⟨rfl, qa, qb, zv, [_, _, _, _, _, _, _, _, _, _], rfl, HK6.out⟩
            apply AllReadyH.cons (hs := AllReadyH.nil)
            · simp only [List.getElem?_toArray]; rfl
            intro K hK
            rw [if_pos (by rfl)]
            refine wp_allocA _ _ _ _ rfl ?_
            have hk : Keeps [] V0 (V0.alloc (.cells (ansC ⟨0, 0⟩).toArray 31)) := (Keeps.refl _ _).alloc _
            have hb := heap_alloc_new V0 (.cells (ansC ⟨0, 0⟩).toArray 31)
            have hl : V0.heap.size < (V0.alloc (.cells (ansC ⟨0, 0⟩).toArray 31)).heap.size := by rw [show (V0.alloc (.cells (ansC ⟨0, 0⟩).toArray 31)).heap.size = V0.heap.size + 1 from Array.size_push _]; omega
            have HGb := Lib.hid HK0.out.size
            generalize V0.alloc (.cells (ansC ⟨0, 0⟩).toArray 31) = V1 at *
            have HBb1 := Lib.hid hb; have HLb1 := Lib.hid hl
            have HK1 := Lib.hid (HK0.out.trans hk (FSub.refl _ _))
            clear hb hl hk
            generalize V0.heap.size = qb at *
            refine hK.out _ _ ?_ (fun hHeld => ?_)
            · exact (by rw [HSE.out]; exact HK1.out)
            clear hK K
            try simp only [Act.put, List.setIfInBounds_toArray, List.set_cons_zero, List.set_cons_succ]
            apply wpAnyH_ready (rs := [0, 10])
            · kernel_rfl
            · simp
            apply AllReadyH.cons
            · simp only [List.getElem?_toArray]; rfl
            · intro K hK
              rw [if_pos (by rfl)]
              refine wp_call10 24 _ _ rfl [] rfl Tryd.func24 (by kernel_rfl) (by kernel_rfl) ?_
              refine (R.new V1 (R.keepG HG.out (HKW.out.trans HK1.out (FSub.refl _ _)))).mono ?_
              rintro e V2 ⟨st, rfl, hz, hk, hf⟩
              obtain ⟨zu, rfl, -⟩ := R.one hz
              refine ⟨_, rfl, ?_⟩
              have HK2 := Lib.hid (HK1.out.trans hk (FSub.refl _ _))
              have HBb2 := Lib.hid (hk.heap HBb1.out (by simp))
              have HLb2 := Lib.hid (Nat.lt_of_lt_of_le HLb1.out hk.size)
              have HZu2 := Lib.hid hz
              have HPub := Lib.hid (show ∀ p ∈ R.foot (.agg #[zu]), p ≠ qb from fun p hp e => by
                have := hf p hp; have := HLb1.out; omega)
              clear hz hf
              clear hk
              refine hK.out _ _ ?_ (fun hHeld => ?_)
              · exact (by rw [HSE.out]; exact HK2.out)
              clear hK K
              try simp only [Act.put, List.setIfInBounds_toArray, List.set_cons_zero, List.set_cons_succ]
              apply wpAnyH_ready (rs := [5, 10])
              · kernel_rfl
              · simp
              apply AllReadyH.cons
              · simp only [List.getElem?_toArray]; rfl
              · intro K hK
                rw [if_pos (by rfl)]
                refine wp_call10 12 _ _ rfl [.agg #[zu], .agg (opC x).toArray] rfl Tryd.func12 (by kernel_rfl) (by kernel_rfl) ?_
                refine (R.step V2 _ [] x (R.keepG HG.out (HKW.out.trans HK2.out (FSub.refl _ _))) HZu2.out (by decide) HXI.out).mono ?_
                rintro e V3 ⟨st, rfl, hz, hk, hf⟩
                rw [quX_err]
                obtain ⟨zv, rfl, ho⟩ := R.one hz
                have HOV := Lib.hid ho
                clear ho
                refine ⟨_, rfl, ?_⟩
                have HK3 := Lib.hid (HK2.out.trans hk (FSub.refl _ _))
                have HZu3 := Lib.hid (R.new_ HZu2.out hk)
                have HBb3 := Lib.hid (hk.heap HBb2.out (by simp))
                have HLb3 := Lib.hid (Nat.lt_of_lt_of_le HLb2.out hk.size)
                have HZv3 := Lib.hid hz
                have HPvb := Lib.hid (show ∀ p ∈ R.foot (.agg #[zv]), p ≠ qb from fun p hp e => by
                  rcases hf p hp with h | h
                  · exact HPub.out p h e
                  · have := HLb2.out; omega)
                clear hz hf
                clear hk
                refine hK.out _ _ ?_ (fun hHeld => ?_)
                · exact (by rw [HSE.out]; exact HK3.out)
                clear hK K
                try simp only [Act.put, List.setIfInBounds_toArray, List.set_cons_zero, List.set_cons_succ]
                apply wpAnyH_take (i := 6)
                · simp only [List.getElem?_toArray]; rfl
                · kernel_rfl
                · kernel_rfl
                · kernel_rfl
                · exact fun _ _ _ h => h
                · exact Or.inl ⟨by rfl, by intro w hSw; go_simp; try with_reducible rfl⟩
                · assumption
                try simp only [Act.put, List.setIfInBounds_toArray, List.set_cons_zero, List.set_cons_succ]
                apply wpAnyH_take (i := 7)
                · simp only [List.getElem?_toArray]; rfl
                · kernel_rfl
                · kernel_rfl
                · kernel_rfl
                · exact fun _ _ _ h => h
                · exact Or.inl ⟨by rfl, by intro w hSw; go_simp; try with_reducible rfl⟩
                · assumption
                try simp only [Act.put, List.setIfInBounds_toArray, List.set_cons_zero, List.set_cons_succ]
                apply wpAnyH_take (i := 8)
                · simp only [List.getElem?_toArray]; rfl
                · kernel_rfl
                · kernel_rfl
                · kernel_rfl
                · exact fun _ _ _ h => h
                · exact Or.inl ⟨by rfl, by intro w hSw; go_simp; try with_reducible rfl⟩
                · assumption
                try simp only [Act.put, List.setIfInBounds_toArray, List.set_cons_zero, List.set_cons_succ]
                apply wpAnyH_take (i := 9)
                · simp only [List.getElem?_toArray]; rfl
                · kernel_rfl
                · kernel_rfl
                · kernel_rfl
                · exact fun _ _ _ h => h
                · exact Or.inl ⟨by rfl, by intro w hSw; go_simp; try with_reducible rfl⟩
                · assumption
                try simp only [Act.put, List.setIfInBounds_toArray, List.set_cons_zero, List.set_cons_succ]
                apply wpAnyH_ready (rs := [10])
                · kernel_rfl
                · simp
                apply AllReadyH.cons (hs := AllReadyH.nil)
                · simp only [List.getElem?_toArray]; rfl
                intro K hK
                rw [if_pos (by rfl)]
                refine wp_allocS _ _ _ _ rfl ?_
                have hk : Keeps [] V3 (V3.alloc (.cells #[.slice none 0 0] 28)) := (Keeps.refl _ _).alloc _
                have hb := heap_alloc_new V3 (.cells #[.slice none 0 0] 28)
                have hl : V3.heap.size < (V3.alloc (.cells #[.slice none 0 0] 28)).heap.size := by rw [show (V3.alloc (.cells #[.slice none 0 0] 28)).heap.size = V3.heap.size + 1 from Array.size_push _]; omega
                have HPua := Lib.hid (fun p hp => (Nat.ne_of_lt (R.old HZu3.out p hp) : p ≠ V3.heap.size))
                have HPva := Lib.hid (fun p hp => (Nat.ne_of_lt (R.old HZv3.out p hp) : p ≠ V3.heap.size))
                have HAB := Lib.hid (Nat.ne_of_lt HLb3.out)
                have HGa := Lib.hid HK3.out.size
                generalize V3.alloc (.cells #[.slice none 0 0] 28) = V4 at *
                have HBa4 := Lib.hid hb; have HLa4 := Lib.hid hl
                have HK4 := Lib.hid (HK3.out.trans hk (FSub.refl _ _))
                have HZu4 := Lib.hid (R.new_ HZu3.out hk)
                have HZv4 := Lib.hid (R.new_ HZv3.out hk)
                have HBb4 := Lib.hid (hk.heap HBb3.out (by simp))
                have HLb4 := Lib.hid (Nat.lt_of_lt_of_le HLb3.out hk.size)
                clear hb hl hk
                generalize V3.heap.size = qa at *
                refine hK.out _ _ ?_ (fun hHeld => ?_)
                · exact (by rw [HSE.out]; exact HK4.out)
                clear hK K
                try simp only [Act.put, List.setIfInBounds_toArray, List.set_cons_zero, List.set_cons_succ]
                apply wpAnyH_ready (rs := [12])
                · kernel_rfl
                · simp
                apply AllReadyH.cons (hs := AllReadyH.nil)
                · simp only [List.getElem?_toArray]; rfl
                intro K hK
                rw [if_pos (by rfl)]
                refine wp_putS (g := qa) (z := zv) rfl rfl rfl HBa4.out HOV.out ?_
                intro W5 h5 k5
                have HK5 := Lib.hid (HK4.out.trans k5 (fun p hp => .inr (by simp at hp; have := HGa.out; omega)))
                have HB5 := Lib.hid (k5.heap HBb4.out (by simp; have := HAB.out; omega))
                clear h5 k5
                refine hK.out _ _ ?_ (fun hHeld => ?_)
                · exact (by rw [HSE.out]; exact HK5.out)
                clear hK K
                try simp only [Act.put, List.setIfInBounds_toArray, List.set_cons_zero, List.set_cons_succ]
                apply wpAnyH_ready (rs := [13])
                · kernel_rfl
                · simp
                apply AllReadyH.cons (hs := AllReadyH.nil)
                · simp only [List.getElem?_toArray]; rfl
                intro K hK
                rw [if_pos (by rfl)]
                refine wp_putNw (g := qb) (old := ⟨0, 0⟩) (quX [] x).2.1 rfl rfl rfl HB5.out ?_
                intro W6 h6 k6
                have HK6 := Lib.hid (HK5.out.trans k6 (fun p hp => .inr (by simp at hp; have := HGb.out; omega)))
                clear h6 k6
                refine hK.out _ _ ?_ (fun hHeld => ?_)
                · exact (by rw [HSE.out]; exact HK6.out)
                clear hK K
                try simp only [Act.put, List.setIfInBounds_toArray, List.set_cons_zero, List.set_cons_succ]
                apply wpAnyH_take (i := 14)
                · simp only [List.getElem?_toArray]; rfl
                · kernel_rfl
                · kernel_rfl
                · kernel_rfl
                · exact fun _ _ _ h => h
                · exact Or.inl ⟨by rfl, by intro w hSw; go_simp; try with_reducible rfl⟩
                · assumption
                try simp only [Act.put, List.setIfInBounds_toArray, List.set_cons_zero, List.set_cons_succ]
                refine wpAnyH_done (by kernel_rfl) ?_ _
                refine NoPanic.normal ?_
                exact ⟨rfl, qa, qb, zv, [_, _, _, _, _, _, _, _, _, _], rfl, HK6.out⟩
              apply AllReadyH.cons (hs := AllReadyH.nil)
              · simp only [List.getElem?_toArray]; rfl
              intro K hK
              rw [if_pos (by rfl)]
              refine wp_allocS _ _ _ _ rfl ?_
              have hk : Keeps [] V2 (V2.alloc (.cells #[.slice none 0 0] 28)) := (Keeps.refl _ _).alloc _
              have hb := heap_alloc_new V2 (.cells #[.slice none 0 0] 28)
              have hl : V2.heap.size < (V2.alloc (.cells #[.slice none 0 0] 28)).heap.size := by rw [show (V2.alloc (.cells #[.slice none 0 0] 28)).heap.size = V2.heap.size + 1 from Array.size_push _]; omega
              have HPua := Lib.hid (fun p hp => (Nat.ne_of_lt (R.old HZu2.out p hp) : p ≠ V2.heap.size))
              have HAB := Lib.hid (Nat.ne_of_lt HLb2.out)
              have HGa := Lib.hid HK2.out.size
              generalize V2.alloc (.cells #[.slice none 0 0] 28) = V3 at *
              have HBa3 := Lib.hid hb; have HLa3 := Lib.hid hl
              have HK3 := Lib.hid (HK2.out.trans hk (FSub.refl _ _))
              have HZu3 := Lib.hid (R.new_ HZu2.out hk)
              have HBb3 := Lib.hid (hk.heap HBb2.out (by simp))
              have HLb3 := Lib.hid (Nat.lt_of_lt_of_le HLb2.out hk.size)
              clear hb hl hk
              generalize V2.heap.size = qa at *
              refine hK.out _ _ ?_ (fun hHeld => ?_)
              · exact (by rw [HSE.out]; exact HK3.out)
              clear hK K
              try simp only [Act.put, List.setIfInBounds_toArray, List.set_cons_zero, List.set_cons_succ]
              apply wpAnyH_ready (rs := [5])
              · kernel_rfl
              · simp
              apply AllReadyH.cons (hs := AllReadyH.nil)
              · simp only [List.getElem?_toArray]; rfl
              intro K hK
              rw [if_pos (by rfl)]
              refine wp_call10 12 _ _ rfl [.agg #[zu], .agg (opC x).toArray] rfl Tryd.func12 (by kernel_rfl) (by kernel_rfl) ?_
              refine (R.step V3 _ [] x (R.keepG HG.out (HKW.out.trans HK3.out (FSub.refl _ _))) HZu3.out (by decide) HXI.out).mono ?_
              rintro e V4 ⟨st, rfl, hz, hk, hf⟩
              rw [quX_err]
              obtain ⟨zv, rfl, ho⟩ := R.one hz
              have HOV := Lib.hid ho
              clear ho
              refine ⟨_, rfl, ?_⟩
              have HK4 := Lib.hid (HK3.out.trans hk (FSub.refl _ _))
              have HZu4 := Lib.hid (R.new_ HZu3.out hk)
              have HBb4 := Lib.hid (hk.heap HBb3.out (by simp))
              have HLb4 := Lib.hid (Nat.lt_of_lt_of_le HLb3.out hk.size)
              have HBa4 := Lib.hid (hk.heap HBa3.out (by simp))
              have HLa4 := Lib.hid (Nat.lt_of_lt_of_le HLa3.out hk.size)
              have HZv4 := Lib.hid hz
              have HPvb := Lib.hid (show ∀ p ∈ R.foot (.agg #[zv]), p ≠ qb from fun p hp e => by
                rcases hf p hp with h | h
                · exact HPub.out p h e
                · have := HLb3.out; omega)
              have HPva := Lib.hid (show ∀ p ∈ R.foot (.agg #[zv]), p ≠ qa from fun p hp e => by
                rcases hf p hp with h | h
                · exact HPua.out p h e
                · have := HLa3.out; omega)
              clear hz hf
              clear hk
              refine hK.out _ _ ?_ (fun hHeld => ?_)
              · exact (by rw [HSE.out]; exact HK4.out)
              clear hK K
              try simp only [Act.put, List.setIfInBounds_toArray, List.set_cons_zero, List.set_cons_succ]
              apply wpAnyH_take (i := 6)
              · simp only [List.getElem?_toArray]; rfl
              · kernel_rfl
              · kernel_rfl
              · kernel_rfl
              · exact fun _ _ _ h => h
              · exact Or.inl ⟨by rfl, by intro w hSw; go_simp; try with_reducible rfl⟩
              · assumption
              try simp only [Act.put, List.setIfInBounds_toArray, List.set_cons_zero, List.set_cons_succ]
              apply wpAnyH_take (i := 7)
              · simp only [List.getElem?_toArray]; rfl
              · kernel_rfl
              · kernel_rfl
              · kernel_rfl
              · exact fun _ _ _ h => h
              · exact Or.inl ⟨by rfl, by intro w hSw; go_simp; try with_reducible rfl⟩
              · assumption
              try simp only [Act.put, List.setIfInBounds_toArray, List.set_cons_zero, List.set_cons_succ]
              apply wpAnyH_take (i := 8)
              · simp only [List.getElem?_toArray]; rfl
              · kernel_rfl
              · kernel_rfl
              · kernel_rfl
              · exact fun _ _ _ h => h
              · exact Or.inl ⟨by rfl, by intro w hSw; go_simp; try with_reducible rfl⟩
              · assumption
              try simp only [Act.put, List.setIfInBounds_toArray, List.set_cons_zero, List.set_cons_succ]
              apply wpAnyH_take (i := 9)
              · simp only [List.getElem?_toArray]; rfl
              · kernel_rfl
              · kernel_rfl
              · kernel_rfl
              · exact fun _ _ _ h => h
              · exact Or.inl ⟨by rfl, by intro w hSw; go_simp; try with_reducible rfl⟩
              · assumption
              try simp only [Act.put, List.setIfInBounds_toArray, List.set_cons_zero, List.set_cons_succ]
              apply wpAnyH_ready (rs := [12])
              · kernel_rfl
              · simp
              apply AllReadyH.cons (hs := AllReadyH.nil)
              · simp only [List.getElem?_toArray]; rfl
              intro K hK
              rw [if_pos (by rfl)]
              refine wp_putS (g := qa) (z := zv) rfl rfl rfl HBa4.out HOV.out ?_
              intro W5 h5 k5
              have HK5 := Lib.hid (HK4.out.trans k5 (fun p hp => .inr (by simp at hp; have := HGa.out; omega)))
              have HB5 := Lib.hid (k5.heap HBb4.out (by simp; have := HAB.out; omega))
              clear h5 k5
              refine hK.out _ _ ?_ (fun hHeld => ?_)
              · exact (by rw [HSE.out]; exact HK5.out)
              clear hK K
              try simp only [Act.put, List.setIfInBounds_toArray, List.set_cons_zero, List.set_cons_succ]
              apply wpAnyH_ready (rs := [13])
              · kernel_rfl
              · simp
              apply AllReadyH.cons (hs := AllReadyH.nil)
              · simp only [List.getElem?_toArray]; rfl
              intro K hK
              rw [if_pos (by rfl)]
              refine wp_putNw (g := qb) (old := ⟨0, 0⟩) (quX [] x).2.1 rfl rfl rfl HB5.out ?_
              intro W6 h6 k6
              have HK6 := Lib.hid (HK5.out.trans k6 (fun p hp => .inr (by simp at hp; have := HGb.out; omega)))
              clear h6 k6
              refine hK.out _ _ ?_ (fun hHeld => ?_)
              · exact (by rw [HSE.out]; exact HK6.out)
              clear hK K
              try simp only [Act.put, List.setIfInBounds_toArray, List.set_cons_zero, List.set_cons_succ]
              apply wpAnyH_take (i := 14)
              · simp only [List.getElem?_toArray]; rfl
              · kernel_rfl
              · kernel_rfl
              · kernel_rfl
              · exact fun _ _ _ h => h
              · exact Or.inl ⟨by rfl, by intro w hSw; go_simp; try with_reducible rfl⟩
              · assumption
              try simp only [Act.put, List.setIfInBounds_toArray, List.set_cons_zero, List.set_cons_succ]
              refine wpAnyH_done (by kernel_rfl) ?_ _
              refine NoPanic.normal ?_
              exact ⟨rfl, qa, qb, zv, [_, _, _, _, _, _, _, _, _, _], rfl, HK6.out⟩
            apply AllReadyH.cons (hs := AllReadyH.nil)
            · simp only [List.getElem?_toArray]; rfl
            intro K hK
            rw [if_pos (by rfl)]
            refine wp_allocS _ _ _ _ rfl ?_
            have hk : Keeps [] V1 (V1.alloc (.cells #[.slice none 0 0] 28)) := (Keeps.refl _ _).alloc _
            have hb := heap_alloc_new V1 (.cells #[.slice none 0 0] 28)
            have hl : V1.heap.size < (V1.alloc (.cells #[.slice none 0 0] 28)).heap.size := by rw [show (V1.alloc (.cells #[.slice none 0 0] 28)).heap.size = V1.heap.size + 1 from Array.size_push _]; omega
            have HAB := Lib.hid (Nat.ne_of_lt HLb1.out)
            have HGa := Lib.hid HK1.out.size
            generalize V1.alloc (.cells #[.slice none 0 0] 28) = V2 at *
            have HBa2 := Lib.hid hb; have HLa2 := Lib.hid hl
            have HK2 := Lib.hid (HK1.out.trans hk (FSub.refl _ _))
            have HBb2 := Lib.hid (hk.heap HBb1.out (by simp))
            have HLb2 := Lib.hid (Nat.lt_of_lt_of_le HLb1.out hk.size)
            clear hb hl hk
            generalize V1.heap.size = qa at *
            refine hK.out _ _ ?_ (fun hHeld => ?_)
            · exact (by rw [HSE.out]; exact HK2.out)
            clear hK K
            try simp only [Act.put, List.setIfInBounds_toArray, List.set_cons_zero, List.set_cons_succ]
            apply wpAnyH_ready (rs := [0])
            · kernel_rfl
            · simp
            apply AllReadyH.cons (hs := AllReadyH.nil)
            · simp only [List.getElem?_toArray]; rfl
            intro K hK
            rw [if_pos (by rfl)]
            refine wp_call10 24 _ _ rfl [] rfl Tryd.func24 (by kernel_rfl) (by kernel_rfl) ?_
            refine (R.new V2 (R.keepG HG.out (HKW.out.trans HK2.out (FSub.refl _ _)))).mono ?_
            rintro e V3 ⟨st, rfl, hz, hk, hf⟩
            obtain ⟨zu, rfl, -⟩ := R.one hz
            refine ⟨_, rfl, ?_⟩
            have HK3 := Lib.hid (HK2.out.trans hk (FSub.refl _ _))
            have HBb3 := Lib.hid (hk.heap HBb2.out (by simp))
            have HLb3 := Lib.hid (Nat.lt_of_lt_of_le HLb2.out hk.size)
            have HBa3 := Lib.hid (hk.heap HBa2.out (by simp))
            have HLa3 := Lib.hid (Nat.lt_of_lt_of_le HLa2.out hk.size)
            have HZu3 := Lib.hid hz
            have HPub := Lib.hid (show ∀ p ∈ R.foot (.agg #[zu]), p ≠ qb from fun p hp e => by
              have := hf p hp; have := HLb2.out; omega)
            have HPua := Lib.hid (show ∀ p ∈ R.foot (.agg #[zu]), p ≠ qa from fun p hp e => by
              have := hf p hp; have := HLa2.out; omega)
            clear hz hf
            clear hk
            refine hK.out _ _ ?_ (fun hHeld => ?_)
            · exact (by rw [HSE.out]; exact HK3.out)
            clear hK K
            try simp only [Act.put, List.setIfInBounds_toArray, List.set_cons_zero, List.set_cons_succ]
            apply wpAnyH_ready (rs := [5])
            · kernel_rfl
            · simp
            apply AllReadyH.cons (hs := AllReadyH.nil)
            · simp only [List.getElem?_toArray]; rfl
            intro K hK
            rw [if_pos (by rfl)]
            refine wp_call10 12 _ _ rfl [.agg #[zu], .agg (opC x).toArray] rfl Tryd.func12 (by kernel_rfl) (by kernel_rfl) ?_
            refine (R.step V3 _ [] x (R.keepG HG.out (HKW.out.trans HK3.out (FSub.refl _ _))) HZu3.out (by decide) HXI.out).mono ?_
            rintro e V4 ⟨st, rfl, hz, hk, hf⟩
            rw [quX_err]
            obtain ⟨zv, rfl, ho⟩ := R.one hz
            have HOV := Lib.hid ho
            clear ho
            refine ⟨_, rfl, ?_⟩
            have HK4 := Lib.hid (HK3.out.trans hk (FSub.refl _ _))
            have HZu4 := Lib.hid (R.new_ HZu3.out hk)
            have HBb4 := Lib.hid (hk.heap HBb3.out (by simp))
            have HLb4 := Lib.hid (Nat.lt_of_lt_of_le HLb3.out hk.size)
            have HBa4 := Lib.hid (hk.heap HBa3.out (by simp))
            have HLa4 := Lib.hid (Nat.lt_of_lt_of_le HLa3.out hk.size)
            have HZv4 := Lib.hid hz
            have HPvb := Lib.hid (show ∀ p ∈ R.foot (.agg #[zv]), p ≠ qb from fun p hp e => by
              rcases hf p hp with h | h
              · exact HPub.out p h e
              · have := HLb3.out; omega)
            have HPva := Lib.hid (show ∀ p ∈ R.foot (.agg #[zv]), p ≠ qa from fun p hp e => by
              rcases hf p hp with h | h
              · exact HPua.out p h e
              · have := HLa3.out; omega)
            clear hz hf
            clear hk
            refine hK.out _ _ ?_ (fun hHeld => ?_)
            · exact (by rw [HSE.out]; exact HK4.out)
            clear hK K
            try simp only [Act.put, List.setIfInBounds_toArray, List.set_cons_zero, List.set_cons_succ]
            apply wpAnyH_take (i := 6)
            · simp only [List.getElem?_toArray]; rfl
            · kernel_rfl
            · kernel_rfl
            · kernel_rfl
            · exact fun _ _ _ h => h
            · exact Or.inl ⟨by rfl, by intro w hSw; go_simp; try with_reducible rfl⟩
            · assumption
            try simp only [Act.put, List.setIfInBounds_toArray, List.set_cons_zero, List.set_cons_succ]
            apply wpAnyH_take (i := 7)
            · simp only [List.getElem?_toArray]; rfl
            · kernel_rfl
            · kernel_rfl
            · kernel_rfl
            · exact fun _ _ _ h => h
            · exact Or.inl ⟨by rfl, by intro w hSw; go_simp; try with_reducible rfl⟩
            · assumption
            try simp only [Act.put, List.setIfInBounds_toArray, List.set_cons_zero, List.set_cons_succ]
            apply wpAnyH_take (i := 8)
            · simp only [List.getElem?_toArray]; rfl
            · kernel_rfl
            · kernel_rfl
            · kernel_rfl
            · exact fun _ _ _ h => h
            · exact Or.inl ⟨by rfl, by intro w hSw; go_simp; try with_reducible rfl⟩
            · assumption
            try simp only [Act.put, List.setIfInBounds_toArray, List.set_cons_zero, List.set_cons_succ]
            apply wpAnyH_take (i := 9)
            · simp only [List.getElem?_toArray]; rfl
            · kernel_rfl
            · kernel_rfl
            · kernel_rfl
            · exact fun _ _ _ h => h
            · exact Or.inl ⟨by rfl, by intro w hSw; go_simp; try with_reducible rfl⟩
            · assumption
            try simp only [Act.put, List.setIfInBounds_toArray, List.set_cons_zero, List.set_cons_succ]
            apply wpAnyH_ready (rs := [12])
            · kernel_rfl
            · simp
            apply AllReadyH.cons (hs := AllReadyH.nil)
            · simp only [List.getElem?_toArray]; rfl
            intro K hK
            rw [if_pos (by rfl)]
            refine wp_putS (g := qa) (z := zv) rfl rfl rfl HBa4.out HOV.out ?_
            intro W5 h5 k5
            have HK5 := Lib.hid (HK4.out.trans k5 (fun p hp => .inr (by simp at hp; have := HGa.out; omega)))
            have HB5 := Lib.hid (k5.heap HBb4.out (by simp; have := HAB.out; omega))
            clear h5 k5
            refine hK.out _ _ ?_ (fun hHeld => ?_)
            · exact (by rw [HSE.out]; exact HK5.out)
            clear hK K
            try simp only [Act.put, List.setIfInBounds_toArray, List.set_cons_zero, List.set_cons_succ]
            apply wpAnyH_ready (rs := [13])
            · kernel_rfl
            · simp
            apply AllReadyH.cons (hs := AllReadyH.nil)
            · simp only [List.getElem?_toArray]; rfl
            intro K hK
            rw [if_pos (by rfl)]
            refine wp_putNw (g := qb) (old := ⟨0, 0⟩) (quX [] x).2.1 rfl rfl rfl HB5.out ?_
            intro W6 h6 k6
            have HK6 := Lib.hid (HK5.out.trans k6 (fun p hp => .inr (by simp at hp; have := HGb.out; omega)))
            clear h6 k6
            refine hK.out _ _ ?_ (fun hHeld => ?_)
            · exact (by rw [HSE.out]; exact HK6.out)
            clear hK K
            try simp only [Act.put, List.setIfInBounds_toArray, List.set_cons_zero, List.set_cons_succ]
            apply wpAnyH_take (i := 14)
            · simp only [List.getElem?_toArray]; rfl
            · kernel_rfl
            · kernel_rfl
            · kernel_rfl
            · exact fun _ _ _ h => h
            · exact Or.inl ⟨by rfl, by intro w hSw; go_simp; try with_reducible rfl⟩
            · assumption
            try simp only [Act.put, List.setIfInBounds_toArray, List.set_cons_zero, List.set_cons_succ]
            refine wpAnyH_done (by kernel_rfl) ?_ _
            refine NoPanic.normal ?_
            exact ⟨rfl, qa, qb, zv, [_, _, _, _, _, _, _, _, _, _], rfl, HK6.out⟩
          rintro qa qb zv us w7 hk
          simp only [Act.put, List.setIfInBounds_toArray, List.set_cons_zero, List.set_cons_succ]
          have HK7 := Lib.hid hk; have HKX := Lib.hid (HKW.out.trans hk (FSub.refl _ _))
          have HVO7 := Lib.hid (HVO.out.keeps hk (by simp)); have HVN7 := Lib.hid (HVN.out.keeps hk (by simp))
          have HRW7 := Lib.hid (show w7.rangeAt g (o + k * 5) (opC x) from fun i u hi => hk.cell (HRW.out i u hi) (by simp))
          clear hk HVO HVN HRW HKW
          rcases opChk_or 1 x with hck | hck
          · have hnx := HNX.out
            rw [if_pos hck] at hnx
            have HN1 := Lib.hid hnx
            rw [hck]
            clear hnx HNX
            obtain ⟨v8, w8, hr8, ho8, hk8, hf8⟩ := rkO.append1 w7 w.heap.size HKX.out.size _ _ HVO7.out x (by have := HFO.out; omega)
            have HR8 := Lib.hid (show (Builtin.append_ #[41, 41] 41 #[.slice ao LO.length co, .slice (some ⟨w7.heap.size, 0, none⟩) 1 1]).run Tryd.prog (w7.alloc (.cells (opC x).toArray 25)) = .ok v8 w8 from hr8)
            have HO8 := Lib.hid ho8
            have HN8 := Lib.hid (HVN7.out.keeps hk8 (fun q hq hm => HAP.out q hm hq))
            have HK8 := Lib.hid (HKX.out.trans hk8 (fun q hq => .inr (row_base HVO7.out q hq).1))
            have HAP8 := Lib.hid (show ∀ q ∈ own v8, q ∉ own (.slice an LI.length cn) from fun q hq hm => by
              rcases hf8 q hq with h | h
              · exact HAP.out q h hm
              · have := (row_base HVN7.out q hm).2; omega)
            have hng : g ∉ own (.slice ao LO.length co) := fun hq => by have := (row_base HVO7.out g hq).1; omega
            have c0 : w8.cell? ⟨g, o + k * 5, none⟩ = some (.int .u8 x.f) := hk8.cell (HRW7.out 0 _ rfl) hng
            have c3 : w8.cell? ⟨g, o + k * 5 + 3, none⟩ = some (.int .u16 x.a) := hk8.cell (HRW7.out 3 _ rfl) hng
            obtain ⟨a8, c8, rfl, hc8, hm8⟩ := ho8.shape
            have HO8 := Lib.hid (show rkO.Own w.heap.size w8 (.slice a8 (LO.length + 1) c8) (LO ++ [x]) from by have h := HO8.out; rw [List.length_append] at h; exact h)
            have HAP8 := Lib.hid (show ∀ q ∈ own (.slice a8 (LO.length + 1) c8), q ∉ own (.slice an LI.length cn) from by have h := HAP8.out; rw [List.length_append] at h; exact h)
            have HR8 := Lib.hid (show (Builtin.append_ #[41, 41] 41 #[.slice ao LO.length co, .slice (some ⟨w7.heap.size, 0, none⟩) 1 1]).run Tryd.prog (w7.alloc (.cells (opC x).toArray 25)) = .ok (.slice a8 (LO.length + 1) c8) w8 from by have h := HR8.out; rw [List.length_append] at h; exact h)
            clear hr8 ho8 hk8 hf8 hng HVO7 HVN7 HAP HKX
            by_cases hf : x.f = 4
            · have e4 : (x.f == 4) = true := by simpa using hf
              obtain ⟨v9, w9, hr9, ho9, hk9, hf9⟩ := rkU.append1 w8 w.heap.size HK8.out.size _ _ HN8.out x.a (by have := HFI.out; omega)
              have HR9 := Lib.hid (show (Builtin.append_ #[22, 22] 22 #[.slice an LI.length cn, .slice (some ⟨w8.heap.size, 0, none⟩) 1 1]).run Tryd.prog (w8.alloc (.cells #[.int .u16 x.a] 23)) = .ok v9 w9 from hr9)
              have HO9 := Lib.hid (HO8.out.keeps hk9 (fun q hq hm => HAP8.out q hq hm))
              have HN9 := Lib.hid ho9
              have HK9 := Lib.hid (HK8.out.trans hk9 (fun q hq => .inr (row_base HN8.out q hq).1))
              have HAP9 := Lib.hid (show ∀ q ∈ own (.slice a8 (LO.length + 1) c8), q ∉ own v9 from fun q hq hm => by
                rcases hf9 q hm with h | h
                · exact HAP8.out q hq h
                · have := (row_base HO8.out q hq).2; omega)
              obtain ⟨a9, c9, rfl, hc9, hm9⟩ := ho9.shape
              have HN9 := Lib.hid (show rkU.Own w.heap.size w9 (.slice a9 (LI.length + 1) c9) (LI ++ [x.a]) from by have h := HN9.out; rw [List.length_append] at h; exact h)
              have HAP9 := Lib.hid (show ∀ q ∈ own (.slice a8 (LO.length + 1) c8), q ∉ own (.slice a9 (LI.length + 1) c9) from by have h := HAP9.out; rw [List.length_append] at h; exact h)
              have HR9 := Lib.hid (show (Builtin.append_ #[22, 22] 22 #[.slice an LI.length cn, .slice (some ⟨w8.heap.size, 0, none⟩) 1 1]).run Tryd.prog (w8.alloc (.cells #[.int .u16 x.a] 23)) = .ok (.slice a9 (LI.length + 1) c9) w9 from by have h := HR9.out; rw [List.length_append] at h; exact h)
              clear hr9 ho9 hk9 hf9
              go_wp2_with (first
                | ((with_reducible refine wpList_loadO (g := g) (off := o + k * 5) (y := x) rfl ?_ HRW7.out ?_); exact rfl)
                | ((with_reducible refine wpList_buildO (x := x) ?_ ?_); exact rfl)
                | ((with_reducible refine wpList_app (.slice ao LO.length co) (.slice (some ⟨w7.heap.size, 0, none⟩) 1 1) ?_ ?_ HR8.out ?_); exact rfl; exact rfl)
                | ((with_reducible refine wpList_app (.slice an LI.length cn) (.slice (some ⟨w8.heap.size, 0, none⟩) 1 1) ?_ ?_ HR9.out ?_); exact rfl; exact rfl))
              go_roundw
              case rel => exact ⟨k + 1, by go_num, by omega, by rw [HN1.out, ← HLO.out]; exact HO9.out, by rw [HN1.out, inV_app, show inV [x] = [x.a] from by simp [inV, hf], ← List.append_assoc, ← HLI.out]; exact HN9.out, HAP9.out, HK9.out⟩
              case measure => simp [intOf]; omega
            · have e4 : (x.f == 4) = false := by simpa using hf
              go_wp2_with (first
                | ((with_reducible refine wpList_loadO (g := g) (off := o + k * 5) (y := x) rfl ?_ HRW7.out ?_); exact rfl)
                | ((with_reducible refine wpList_buildO (x := x) ?_ ?_); exact rfl)
                | ((with_reducible refine wpList_app (.slice ao LO.length co) (.slice (some ⟨w7.heap.size, 0, none⟩) 1 1) ?_ ?_ HR8.out ?_); exact rfl; exact rfl))
              go_roundw
              case rel => exact ⟨k + 1, by go_num, by omega, by rw [HN1.out, ← HLO.out]; exact HO8.out, by rw [HN1.out, inV_app, show inV [x] = [] from by simp [inV, hf], List.append_nil, ← HLI.out]; exact HN8.out, HAP8.out, HK8.out⟩
              case measure => simp [intOf]; omega
          · have hnx := HNX.out
            rw [if_neg (by rw [hck]; decide), List.append_nil] at hnx
            have HN1 := Lib.hid hnx
            rw [hck]
            clear hnx HNX
            go_wp2_with fail
            go_roundw
            case rel => exact ⟨k + 1, by go_num, by omega, by rw [HN1.out, ← HLO.out]; exact HVO7.out, by rw [HN1.out, ← HLI.out]; exact HVN7.out, HAP.out, HKX.out⟩
            case measure => simp [intOf]; omega
        · obtain rfl : k = n := by omega
          have hall : raw.take k = raw := by rw [← HNR.out, List.take_length]
          rw [hall] at hvo hvn
          obtain ⟨LO, hLO⟩ : ∃ LO, LO = okO raw := ⟨_, rfl⟩
          rw [← hLO] at hvo hvn
          have HLO := Lib.hid hLO
          have HOK := Lib.hid (show ∀ x ∈ LO, opChk 1 x = 0 from fun x hx => by rw [hLO] at hx; exact (okO_in raw x hx).2)
          have HLIN := Lib.hid (show ∀ x ∈ LO, x.In from fun x hx => by rw [hLO] at hx; exact HIN.out x (okO_in raw x hx).1)
          have HLL := Lib.hid (show LO.length ≤ 200 from by rw [hLO]; have h1 := okO_len raw; have h2 := HNR.out; omega)
          have HLI := Lib.hid (show (l ++ inV LO).length ≤ 400 from by rw [List.length_append]; have h1 := inV_len LO; have h2 := HLL.out; omega)
          obtain ⟨LI, hLI⟩ : ∃ LI, LI = l ++ inV LO := ⟨_, rfl⟩
          rw [← hLI] at hvn HLI
          have HLE := Lib.hid hLI
          have HVO := Lib.hid hvo; have HVN := Lib.hid hvn; have HK := Lib.hid hkw
          obtain ⟨ao, co, rfl, hco, hmo⟩ := hvo.shape
          obtain ⟨an, cn, rfl, hcn, hmn⟩ := hvn.shape
          clear hvo hvn hap hkw hall hLO hLI HLO
          go_wp2_with fail
          refine (R.of wr w.heap.size _ l (R.keepG HG.out HK.out) (HL.out.new HK.out (Nat.le_refl _)) HK.out.size (by omega)).mono ?_
          rintro e w2 ⟨st, rfl, hz2, hk2, -⟩
          obtain ⟨z2, rfl, -⟩ := R.one hz2
          have HK2 := Lib.hid (HK.out.trans hk2 (FSub.refl _ _)); have HZ2 := Lib.hid hz2; have HVO2 := Lib.hid (HVO.out.keeps hk2 (by simp)); have HVN2 := Lib.hid (HVN.out.keeps hk2 (by simp))
          clear hz2 hk2 HK HVO HVN
          go_wp2_with fail
          have hE := ok_err l LO HOK.out
          have hLen := (stL_len quX l LO).2.1 hE
          refine (R.run w2 _ l _ LO (R.keepG HG.out HK2.out) HZ2.out (by omega) HLIN.out HVO2.out.in_ (by have := HLL.out; omega)).mono ?_
          rw [hE]
          rintro e w3 ⟨st3, vr, rfl, hz3, hi3, hk3, -⟩
          obtain ⟨z3, rfl, hone3⟩ := R.one hz3
          obtain ⟨ar, cr, rfl, hcr, hmr, -⟩ := id hi3
          rw [hLen] at hi3 hcr ⊢
          have HLen := Lib.hid hLen
          have HSL := Lib.hid (show (stS quX l LO).length ≤ 400 from by have := quS_len l LO; have := HLL.out; omega)
          have HC := Lib.hid (heap_alloc_new w3 (.cells #[.slice none 0 0] 28)); have HE3 := Lib.hid hone3
          have HK3 := Lib.hid (HK2.out.trans hk3 (FSub.refl _ _)); have HZ3 := Lib.hid hz3; have HVO3 := Lib.hid (HVO2.out.keeps hk3 (by simp)); have HVN3 := Lib.hid (HVN2.out.keeps hk3 (by simp)); have HI3 := Lib.hid hi3
          clear hz3 hk3 hi3 hone3 hE hLen HK2 HZ2 HVO2 HVN2
          go_wp2_with ((with_reducible refine wpList_putSt (g := w3.heap.size) (z := z3) ?_ ?_ HC.out HE3.out ?_); exact rfl; exact rfl)
          intro W h4 k4
          have k34 : Keeps [] w3 W := ((Keeps.refl [] w3).alloc _).trans k4 (fun q hq => .inr (by simp at hq; omega))
          have HK4 := Lib.hid (HK3.out.trans k34 (FSub.refl _ _)); have HZ4 := Lib.hid (R.new_ HZ3.out k34); have HVO4 := Lib.hid (HVO3.out.keeps k34 (by simp)); have HVN4 := Lib.hid (HVN3.out.keeps k34 (by simp))
          have HI4 := Lib.hid ((HI3.out.new k34 (Nat.le_refl _)).more k34.size); have HS4 := Lib.hid h4
          clear h4 k4 k34 HC HE3 HK3 HZ3 HVO3 HVN3 HI3
          generalize w3.heap.size = q12 at *
          have t5 : ((LO.length : Int) != LO.length) = false := by simp
          go_wp2_with fail
          go_loopw [7, 15, 16] (fun vx lf i wr => ∃ k : Nat, i = .int .i64 k ∧ k ≤ LO.length ∧ lf = .int .i64 (stS quX l (LO.take k)).length ∧ rkU.Own W.heap.size wr vx (outV (stL quX l (LO.take k))) ∧ Keeps [] W wr) (fun _ _ i _ => LO.length - (intOf i).toNat)
          case atStart => exact ⟨0, rfl, Nat.zero_le _, rfl, RK.Own.nil rkU _ _, Keeps.refl _ _⟩
          case round =>
            obtain ⟨k2, rfl, hk2, rfl, hvx, hkw⟩ := hrel
            by_cases hlt2 : k2 < LO.length
            · have HE0 := ok_err l (LO.take k2) (fun x hx => HOK.out x (List.mem_of_mem_take hx))
              have hnx := st_next quX hlt2 HE0
              have hx0 : (quX (stS quX l (LO.take k2)) LO[k2]).2.2 = 0 := by rw [quX_err]; exact HOK.out _ (List.getElem_mem hlt2)
              rw [if_pos hx0, if_pos hx0] at hnx
              have hat := ans_at (s := l) hlt2 HOK.out
              have hck := HOK.out _ (List.getElem_mem hlt2)
              obtain ⟨g, o, e1, -, hr⟩ := In_at (HVO4.out.in_.new hkw (Nat.le_refl _)) hlt2
              have hltA : k2 < (stL quX l LO).length := by rw [HLen.out]; exact hlt2
              have hi5 := HI4.out.new hkw (Nat.le_refl _)
              obtain ⟨g2, o2, e2, -, hr2⟩ := InA_at hi5 hltA
              rw [List.getElem?_eq_getElem hltA] at hat
              have hat := Option.some.inj hat
              rw [hat] at hr2
              have HSF := Lib.hid (show (stS quX l (LO.take k2)).length ≤ 400 from by have h1 := quS_len l (LO.take k2); rw [List.length_take] at h1; have := HLL.out; omega)
              have HOF := Lib.hid (show (outV (stL quX l (LO.take k2))).length ≤ 200 from Nat.le_trans (outV_len _) (Nat.le_trans (stL_few quX k2) HLL.out))
              subst e1; subst e2
              generalize LO[k2] = x at *
              obtain ⟨ST, hST⟩ : ∃ ST, ST = stS quX l (LO.take k2) := ⟨_, rfl⟩
              obtain ⟨OV, hOV⟩ : ∃ OV, OV = outV (stL quX l (LO.take k2)) := ⟨_, rfl⟩
              rw [← hST] at hnx hr2 HSF ⊢
              rw [← hOV] at hvx HOF
              have HS1 := Lib.hid hnx.2.1
              have HO1 := Lib.hid (show outV (stL quX l (LO.take (k2 + 1))) = OV ++ outV [(quX ST x).2.1] from by rw [hnx.2.2, outV_app, hOV])
              have c0 : wr.cell? ⟨g, o + k2 * 5, none⟩ = some (.int .u8 x.f) := hr 0 _ rfl
              have HVX := Lib.hid hvx; have HKR := Lib.hid hkw
              clear hnx hx0 hat hi5 hvx hkw HE0 hST hOV hr
              by_cases hf : x.f = 4
              · have e4 : (x.f == 4) = true := by simpa using hf
                have hq := quX_enq (s := ST) hck hf
                rw [hq] at hr2
                have HS2 := Lib.hid (show stS quX l (LO.take (k2 + 1)) = ST ++ [x.a] from HS1.out.trans (by rw [hq])); have HO2 := Lib.hid (show outV (stL quX l (LO.take (k2 + 1))) = OV from HO1.out.trans (by simp [hq, outV]))
                have d0 : wr.cell? ⟨g2, o2 + k2 * 2, none⟩ = some (.int .u8 0) := hr2 0 _ rfl
                have d1 : wr.cell? ⟨g2, o2 + k2 * 2 + 1, none⟩ = some (.int .u16 0) := hr2 1 _ rfl
                clear hr2 hq HS1 HO1
                have hsf : ST.length ≤ 400 := HSF.out
                go_wp2_with fail
                go_roundw
                case rel => exact ⟨k2 + 1, by go_num, by omega, by rw [HS2.out, List.length_append]; go_num, by rw [HO2.out]; exact HVX.out, HKR.out⟩
                case measure => simp [intOf]; omega
              · have e4 : (x.f == 4) = false := by simpa using hf
                cases ST with
                | nil =>
                  have hq := quX_none hck hf
                  rw [hq] at hr2
                  have HS2 := Lib.hid (show stS quX l (LO.take (k2 + 1)) = [] from HS1.out.trans (by rw [hq])); have HO2 := Lib.hid (show outV (stL quX l (LO.take (k2 + 1))) = OV from HO1.out.trans (by simp [hq, outV]))
                  have d0 : wr.cell? ⟨g2, o2 + k2 * 2, none⟩ = some (.int .u8 2) := hr2 0 _ rfl
                  have d1 : wr.cell? ⟨g2, o2 + k2 * 2 + 1, none⟩ = some (.int .u16 0) := hr2 1 _ rfl
                  clear hr2 hq HS1 HO1
                  go_wp2_with fail
                  go_roundw
                  case rel => exact ⟨k2 + 1, by go_num, by omega, by rw [HS2.out], by rw [HO2.out]; exact HVX.out, HKR.out⟩
                  case measure => simp [intOf]; omega
                | cons y t =>
                  have hq := quX_deq (v := y) (r := t) hck hf
                  rw [hq] at hr2
                  have HS2 := Lib.hid (show stS quX l (LO.take (k2 + 1)) = t from HS1.out.trans (by rw [hq])); have HO2 := Lib.hid (show outV (stL quX l (LO.take (k2 + 1))) = OV ++ [y] from HO1.out.trans (by rw [hq]; rfl))
                  have d0 : wr.cell? ⟨g2, o2 + k2 * 2, none⟩ = some (.int .u8 1) := hr2 0 _ rfl
                  have d1 : wr.cell? ⟨g2, o2 + k2 * 2 + 1, none⟩ = some (.int .u16 y) := hr2 1 _ rfl
                  clear hr2 hq HS1 HO1
                  obtain ⟨ax, cx, rfl, hcx, hmx⟩ := HVX.out.shape
                  obtain ⟨v9, w9, hr9, ho9, hk9, -⟩ := rkU.append1 wr W.heap.size HKR.out.size _ _ HVX.out y (by have := HOF.out; omega)
                  obtain ⟨a9, c9, rfl, hc9, hm9⟩ := ho9.shape
                  rw [List.length_append] at hr9
                  have HR9 := Lib.hid (show (Builtin.append_ #[22, 22] 22 #[.slice ax OV.length cx, .slice (some ⟨wr.heap.size, 0, none⟩) 1 1]).run Tryd.prog (wr.alloc (.cells #[.int .u16 y] 23)) = .ok (.slice a9 (OV.length + 1) c9) w9 from hr9)
                  have HN9 := Lib.hid (show rkU.Own W.heap.size w9 (.slice a9 (OV.length + 1) c9) (OV ++ [y]) from by rw [List.length_append] at ho9; exact ho9)
                  have HK9 := Lib.hid (HKR.out.trans hk9 (fun q hq => .inr (row_base HVX.out q hq).1))
                  have hsf : t.length + 1 ≤ 400 := HSF.out
                  have t6 : ¬ (t.length : Int) + 1 = 0 := by omega
                  have t7 : ((t.length : Int) + 1 == 0) = false := by simpa using t6
                  clear hr9 ho9 hk9
                  go_wp2_with ((with_reducible refine wpList_app (.slice ax OV.length cx) (.slice (some ⟨wr.heap.size, 0, none⟩) 1 1) ?_ ?_ HR9.out ?_); exact rfl; exact rfl)
                  go_roundw
                  case rel => exact ⟨k2 + 1, by go_num, by omega, by rw [HS2.out], by rw [HO2.out]; exact HN9.out, HK9.out⟩
                  case measure => simp [intOf]; omega
            · obtain rfl : k2 = LO.length := by omega
              rw [List.take_length] at hvx ⊢
              have HORD := Lib.hid (show outV (stL quX l LO) ++ stS quX l LO = LI from by rw [queue_order l LO HOK.out, HLE.out])
              have HOF := Lib.hid (show (outV (stL quX l LO)).length ≤ 200 from Nat.le_trans (outV_len _) (Nat.le_trans (stL_len quX l LO).1 HLL.out))
              have HVX := Lib.hid hvx; have HKR := Lib.hid hkw
              have HC4 := Lib.hid (hkw.heap HS4.out (by simp))
              have c12 : wr.cell? ⟨q12, 0, none⟩ = some z3 := cell_lit HC4.out 0 rfl
              clear hvx hkw
              obtain ⟨ax, cx, rfl, hcx, hmx⟩ := HVX.out.shape
              generalize stS quX l LO = LS at *
              generalize outV (stL quX l LO) = OV at *
              go_wp2_with fail
              refine (R.values wr _ LS (R.keepG HG.out (HK4.out.trans HKR.out (FSub.refl _ _))) (R.new_ HZ4.out HKR.out) (by have := HSL.out; omega)).mono ?_
              rintro e x1 ⟨v1, rfl, hr1, hx1⟩
              have hvx1 := HVX.out.keeps hx1 (by simp)
              obtain ⟨v5, x2, hr5, ho5, hk5, -⟩ := rkU.appendIn x1 W.heap.size (Nat.le_trans HKR.out.size hx1.size) _ OV hvx1 (hr1.in_) (by have := HSL.out; have := HOF.out; omega)
              obtain ⟨a7, c7, rfl, hc7, hm7⟩ := hr1.shape
              have HR5 := Lib.hid (show (Builtin.append_ #[22, 22] 22 #[.slice ax OV.length cx, .slice a7 LS.length c7]).run Tryd.prog x1 = .ok v5 x2 from hr5)
              rw [HORD.out] at ho5
              have HO5 := Lib.hid ho5
              have HX1 := Lib.hid (HKR.out.trans hx1 (FSub.refl _ _))
              have HX2 := Lib.hid (HX1.out.trans hk5 (fun q hq => .inr (row_base hvx1 q hq).1))
              have HZX := Lib.hid (R.new_ HZ4.out HX2.out); have HCX := Lib.hid (HX2.out.heap HS4.out (by simp)); have HVNX := Lib.hid (HVN4.out.keeps HX2.out (by simp))
              have HKX := Lib.hid (HK4.out.trans HX2.out (FSub.refl _ _))
              obtain ⟨a5, c5, rfl, hc5, hm5⟩ := ho5.shape
              clear hr1 hx1 hvx1 hr5 ho5 hk5 c12
              go_wp2_with ((with_reducible refine wpList_app (.slice ax OV.length cx) (.slice a7 LS.length c7) ?_ ?_ HR5.out ?_); exact rfl; exact rfl)
              refine (R.of x2 x2.heap.size _ LI (R.keepG HG.out HKX.out) HO5.out.in_ (Nat.le_refl _) (by have := HLI.out; omega)).mono ?_
              rintro e x3 ⟨sx, rfl, hz3, hk3, -⟩
              obtain ⟨zx, rfl, -⟩ := R.one hz3
              have HX3 := Lib.hid (show Keeps [] x2 x3 from hk3); have HZ6 := Lib.hid hz3
              clear hz3 hk3
              go_wp2_with fail
              refine (has10_true R x3 (R.keepG HG.out (HKX.out.trans HX3.out (FSub.refl _ _))) HZ6.out (by have := HLI.out; omega) (HVNX.out.in_.new HX3.out (Nat.le_refl _)) HX3.out.size).mono ?_
              rintro e x4 ⟨rfl, hk4⟩
              have HX4 := Lib.hid (HX3.out.trans hk4 (FSub.refl _ _))
              have c12 : x4.cell? ⟨q12, 0, none⟩ = some z3 := cell_lit (HX4.out.heap HCX.out (by simp)) 0 rfl
              clear hk4 HX3 HZ6
              have t8 : ((LS.length : Int) == LS.length) = true := by simp
              go_wp2_with fail
              refine (R.values x4 _ LS (R.keepG HG.out (HKX.out.trans HX4.out (FSub.refl _ _))) (R.new_ HZX.out HX4.out) (by have := HSL.out; omega)).mono ?_
              rintro e x5 ⟨v6, rfl, ho6, hk5⟩
              obtain ⟨a6, c6, rfl, hc6, hm6⟩ := ho6.shape
              have HX5 := Lib.hid ((HKX.out.trans HX4.out (FSub.refl _ _)).trans hk5 (FSub.refl _ _))
              clear ho6 hk5 c12
              go_wp2_with fail
              refine (works10_any R _ (R.keepG HG.out HX5.out)).mono ?_
              rintro e x6 ⟨rfl, hk6⟩
              have HX6 := Lib.hid (HX5.out.trans hk6 (FSub.refl _ _))
              clear hk6
              go_wp2_with fail
              go_ret
              exact ⟨rfl, HX6.out⟩
    · have t3 : (200 : Int) < raw.length := by omega
      go_enter Tryd.func6, Tryd.ntmps6
      go_wp2_with fail
      refine (works10_any R _ HG.out).mono ?_; rintro e w1 ⟨rfl, hk1⟩
      have HK1 := Lib.hid hk1
      clear hk1
      go_wp2_with fail
      go_ret
      exact ⟨rfl, HK1.out⟩
  · have t2 : (200 : Int) < l.length := by omega
    go_enter Tryd.func6, Tryd.ntmps6
    go_wp2_with fail
    refine (works10_any R _ HG.out).mono ?_; rintro e w1 ⟨rfl, hk1⟩
    have HK1 := Lib.hid hk1
    clear hk1
    go_wp2_with fail
    go_ret
    exact ⟨rfl, HK1.out⟩
end Go.Proofs.YtaicampenpkneaaDoor
