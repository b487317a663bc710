/-
  The program's queue: Step.
-/
import Derived.Test.YtaicampenpkneaaDoorQB17
import Derived.Test.YtaicampenpkneaaDoorQB07
set_option linter.unusedSimpArgs false
set_option linter.unusedVariables false
namespace Go.Proofs.YtaicampenpkneaaDoor
open Go.RowKit
theorem frees_none {base : Nat} {v : Value} (h : ∀ q ∈ own v, q < base) : frees base v = [] := by
  unfold frees
  rw [List.filter_eq_nil_iff]
  intro q hq
  have := h q hq
  simp; omega
set_option maxHeartbeats 8000000
set_option maxRecDepth 100000
theorem quStep_any (w : World) (hG : Glob4 w) {v : Value} {l : List Int} (h : QIn w v l) (hl : l.length ≤ 1000000) (x : Opn) (hx : x.In) :
    Calls Tryd.prog 12 #[.agg #[v], x.val] w fun e w' => ∃ v', e = .returned (.tuple #[.agg #[v'], .agg (ansC (quX l x).2.1).toArray, .int .i64 (quX l x).2.2]) ∧ QIn w' v' (quX l x).1 ∧ Keeps [] w w' ∧ FSub (own v') (own v) w.heap.size := by
  have hone : v.oneCell' = true := by obtain ⟨a, c, rfl, -⟩ := h.shape; rfl
  obtain ⟨W, hW⟩ : ∃ W, W = (((w.alloc (.cells #[v] 28)).alloc (.cells #[.int .u8 x.f, .int .u8 x.o, .int .u8 x.k, .int .u16 x.a, .int .u16 x.b] 25)).alloc (.cells #[.slice none 0 0] 28)).alloc (.cells (ansC ⟨0, 0⟩).toArray 31) := ⟨_, rfl⟩
  obtain ⟨hk0, h0, h1, h2, h3, hz⟩ := vars_q w v _ W _ _ hW
  simp only [show (ansC ⟨0, 0⟩).toArray = #[Value.int .u8 0, .int .u16 0] from rfl] at hW
  obtain ⟨R, hR⟩ : ∃ R, R = w.heap.size := ⟨_, rfl⟩
  have hv := h.old
  rw [← hR] at h0 h1 h2 h3 hz hv
  have HRL := Lib.hid (show w.heap.size ≤ R from Nat.le_of_eq hR.symm)
  have HQ := Lib.hid (h.keeps hk0 (by simp))
  obtain ⟨S, hS⟩ : ∃ S : World → Prop, S = fun y => Keeps [R + 2, R + 3] W y := ⟨_, rfl⟩
  have HSE := Lib.hid hS
  have hSD : S W.drew := by rw [hS]; exact (Keeps.refl _ _).drew
  have HS0 := Lib.hid (fun (w' : World) (hh : S w') => show w'.cell? ⟨R, 0, none⟩ = some v from by rw [hS] at hh; exact hh.cell (cell_lit h0 0 rfl) (by simp))
  have HS1 := Lib.hid (fun (w' : World) (hh : S w') => show w'.rangeAt (R + 1) 0 (opC x) from by
    rw [hS] at hh
    intro j v hv
    rw [Nat.zero_add]
    exact hh.cell (cell_lit h1 j (by simpa [opC] using hv)) (by simp))
  have HK := Lib.hid hk0; have H2 := Lib.hid h2; have H3 := Lib.hid h3; have HSZ := Lib.hid hz; have HV := Lib.hid hv
  have HG := Lib.hid (hG.new hk0); have HL := Lib.hid hl; have HX := Lib.hid hx
  have HRR := Lib.hid hR; have HWW := Lib.hid hW
  clear h hS hk0 h0 h1 h2 h3 hz hv hR hW hG hl hx
  unfold Opn.val
  go_enter Tryd.func12, Tryd.ntmps12
  go_wp2_with fail
  rw [← HRR.out, ← HWW.out]
  clear HRR HWW
  refine wp_region_noPanic ?_
  refine wp_region_held_drew (S := S) (by kernel_rfl) hSD (fun hHeld => ?_)
  apply wpAnyH_take (i := 0)
  · simp only [List.getElem?_toArray]; rfl
  · kernel_rfl
  · kernel_rfl
  · kernel_rfl
  · exact fun _ _ _ h => h
  · exact yields_loadQ (by rfl) (.tmp 2) rfl R rfl v HS0.out
  · assumption
  try simp only [Act.put, List.setIfInBounds_toArray, List.set_cons_zero, List.set_cons_succ]
  apply wpAnyH_take (i := 2)
  · simp only [List.getElem?_toArray]; rfl
  · kernel_rfl
  · kernel_rfl
  · kernel_rfl
  · exact fun _ _ _ h => h
  · exact rkO.yields Tryd.underlying25 rfl (by rfl) _ rfl (R + 1) 0 rfl x HS1.out
  · assumption
  try simp only [Act.put, List.setIfInBounds_toArray, List.set_cons_zero, List.set_cons_succ]
  apply wpAnyH_ready (rs := [1])
  · kernel_rfl
  · simp
  apply AllReadyH.cons (hs := AllReadyH.nil)
  · simp only [List.getElem?_toArray]; rfl
  intro K hK
  rw [if_pos (by rfl)]
  refine wp_call9 29 _ _ rfl [.agg #[v]] rfl Tryd.func29 (by kernel_rfl) (by kernel_rfl) ((quCut_any W.drew (HQ.out.keeps ((Keeps.refl [] W).drew) (by simp)) R).mono ?_)
  rintro e W1 ⟨v1, rfl, hq1, hk1, ho1⟩
  refine ⟨_, rfl, ?_⟩
  have HK1 := Lib.hid (((Keeps.refl [] W).drew).trans hk1 (FSub.refl _ _))
  have HQ1 := Lib.hid hq1; have HO1 := Lib.hid ho1
  clear hk1 hq1 ho1
  refine hK.out _ _ ?_ (fun hHeld => ?_)
  · exact (by rw [HSE.out]; exact HK1.out.more (by simp))
  clear hK K
  try simp only [Act.put, List.setIfInBounds_toArray, List.set_cons_zero, List.set_cons_succ]
  apply wpAnyH_ready (rs := [3])
  · kernel_rfl
  · simp
  apply AllReadyH.cons (hs := AllReadyH.nil)
  · simp only [List.getElem?_toArray]; rfl
  intro K hK
  rw [if_pos (by rfl)]
  refine wp_call9 30 _ _ rfl [.agg #[v1], x.val] rfl Tryd.func30 (by kernel_rfl) (by kernel_rfl) ((perform_any W1 (HG.out.new HK1.out) (base := R) (by have := HSZ.out; have := HK1.out.size; omega) HQ1.out HL.out x HX.out).mono ?_)
  rintro e W2 ⟨v2, rfl, hq2, hk2, hs2, -⟩
  refine ⟨_, rfl, ?_⟩
  rw [frees_none (by rw [HO1.out]; exact HV.out)] at hk2
  have HK2 := Lib.hid (HK1.out.trans hk2 (FSub.refl _ _))
  have HQ2 := Lib.hid hq2
  have HOW := Lib.hid (show ∀ q ∈ own v2, q ∈ own v ∨ R + 4 ≤ q from fun q hq => (hs2 q hq).imp (by rw [HO1.out]; exact id) (fun h => by have := HSZ.out; have := HK1.out.size; omega))
  clear hk2 hq2 hs2
  refine hK.out _ _ ?_ (fun hHeld => ?_)
  · exact (by rw [HSE.out]; exact HK2.out.more (by simp))
  clear hK K
  try simp only [Act.put, List.setIfInBounds_toArray, List.set_cons_zero, List.set_cons_succ]
  apply wpAnyH_take (i := 4)
  · simp only [List.getElem?_toArray]; rfl
  · kernel_rfl
  · kernel_rfl
  · kernel_rfl
  · exact fun _ _ _ h => h
  · exact Or.inl ⟨by rfl, by intro w hSw; go_simp; try with_reducible rfl⟩
  · assumption
  try simp only [Act.put, List.setIfInBounds_toArray, List.set_cons_zero, List.set_cons_succ]
  apply wpAnyH_take (i := 5)
  · simp only [List.getElem?_toArray]; rfl
  · kernel_rfl
  · kernel_rfl
  · kernel_rfl
  · exact fun _ _ _ h => h
  · exact Or.inl ⟨by rfl, by intro w hSw; go_simp; try with_reducible rfl⟩
  · assumption
  try simp only [Act.put, List.setIfInBounds_toArray, List.set_cons_zero, List.set_cons_succ]
  apply wpAnyH_take (i := 6)
  · simp only [List.getElem?_toArray]; rfl
  · kernel_rfl
  · kernel_rfl
  · kernel_rfl
  · exact fun _ _ _ h => h
  · exact Or.inl ⟨by rfl, by intro w hSw; go_simp; try with_reducible rfl⟩
  · assumption
  try simp only [Act.put, List.setIfInBounds_toArray, List.set_cons_zero, List.set_cons_succ]
  apply wpAnyH_ready (rs := [7])
  · kernel_rfl
  · simp
  apply AllReadyH.cons (hs := AllReadyH.nil)
  · simp only [List.getElem?_toArray]; rfl
  intro K hK
  rw [if_pos (by rfl)]
  refine wp_putQ rfl (g := R + 2) (old := .slice none 0 0) (z := v2) rfl rfl (HK2.out.heap H2.out (by simp)) (QF.one HQ2.out) (fun W3 hW3 hk3 => ?_)
  have HW3 := Lib.hid hW3
  have HA3 := Lib.hid (hk3.heap (HK2.out.heap H3.out (by simp)) (by simp))
  have HK3 := Lib.hid (show Keeps [R + 2, R + 3] W W3 from (HK2.out.more (by simp)).step hk3 (by simp))
  have hown : ∀ q ∈ own v2, q < R ∨ R + 4 ≤ q := fun q hq => (HOW.out q hq).imp (HV.out q) id
  have HQ3 := Lib.hid (HQ2.out.keeps hk3 (fun q hq => by have := hown q hq; simp; omega))
  clear hW3 hk3 hown
  refine hK.out _ _ ?_ (fun hHeld => ?_)
  · exact (by rw [HSE.out]; exact HK3.out)
  clear hK K
  try simp only [Act.put, List.setIfInBounds_toArray, List.set_cons_zero, List.set_cons_succ]
  apply wpAnyH_ready (rs := [8])
  · kernel_rfl
  · simp
  apply AllReadyH.cons (hs := AllReadyH.nil)
  · simp only [List.getElem?_toArray]; rfl
  intro K hK
  rw [if_pos (by rfl)]
  refine wp_putN rfl (g := R + 3) (old := ⟨0, 0⟩) (quX l x).2.1 rfl rfl HA3.out (fun W4 hW4 hk4 => ?_)
  have HW4 := Lib.hid hW4
  have HS4 := Lib.hid (hk4.heap HW3.out (by simp))
  have HK4 := Lib.hid (HK3.out.step hk4 (by simp))
  have hown : ∀ q ∈ own v2, q < R ∨ R + 4 ≤ q := fun q hq => (HOW.out q hq).imp (HV.out q) id
  have HQ4 := Lib.hid (HQ3.out.keeps hk4 (fun q hq => by have := hown q hq; simp; omega))
  clear hW4 hk4 hown
  refine hK.out _ _ ?_ (fun hHeld => ?_)
  · exact (by rw [HSE.out]; exact HK4.out)
  clear hK K
  try simp only [Act.put, List.setIfInBounds_toArray, List.set_cons_zero, List.set_cons_succ]
  apply wpAnyH_take (i := 9)
  · simp only [List.getElem?_toArray]; rfl
  · kernel_rfl
  · kernel_rfl
  · kernel_rfl
  · exact fun _ _ _ h => h
  · exact Or.inl ⟨by rfl, by intro w hSw; go_simp; try with_reducible rfl⟩
  · assumption
  try simp only [Act.put, List.setIfInBounds_toArray, List.set_cons_zero, List.set_cons_succ]
  refine wpAnyH_done (by kernel_rfl) ?_ _
  refine NoPanic.normal ?_
  go_wp2_with fail
  try simp only [Exit.inBlock, Exit.then]
  exact bodyPost_ret (results_st3 rfl _ _ (R + 2) (R + 3) _ rfl HS4.out rfl HW4.out) rfl ⟨v2, rfl, HQ4.out.in_, HK.out.trans HK4.out (fun q hq => .inr (by have := HRL.out; simp at hq; omega)), fun q hq => (HOW.out q hq).imp id (fun h => by have := HRL.out; omega)⟩
end Go.Proofs.YtaicampenpkneaaDoor
/-
  The program's queue: Run.
-/
namespace Go.Proofs.YtaicampenpkneaaDoor
open Go.RowKit
theorem results_runQ {fn : Func} {p u x : Tmp} (h : fn.results = #[.cell p 28, .tmp u, .tmp x]) (tmps : Array Value) (w : World) (b : Nat) {z : Value} {t : TypeId}
    (hp : tmps.getD p undef = .pointer (some ⟨b, 0, none⟩)) (hb : w.heap[b]? = some (.cells #[z] t (0, 0))) :
    (results fn tmps).run Tryd.prog w = .ok (.tuple #[.agg #[z], tmps.getD u undef, tmps.getD x undef]) w := by
  have h1 : (loadVar 28 ⟨b, 0, none⟩).run Tryd.prog w = .ok (.agg #[z]) w := run_loadVar_row w b t 28 _ _ _ hb Tryd.underlying28 rfl (by kernel_rfl)
  have hp' : tmps[p]?.getD undef = .pointer (some ⟨b, 0, none⟩) := by simpa using hp
  simp only [results, h]
  simp [Sem.run_bind, Result.andThen, hp', asAddr, h1]
section
variable {ops : Array Oper} {rest : List Oper} {a : Act} {w : World} {Q : Exit → Act → World → Prop}
theorem wpList_loadX10 {dst : Option Tmp} {ty : TypeId} {pos : String} {after : Array Edge} {gd : Option (Nat × Bool)} {x : Operand} {g off : Nat} (y : Opn)
    (hw : Region.wanted { dst := dst, op := .load 25 x, type := ty, pos := pos, after := after, guard := gd } (yielded ops a.tmps) = true)
    (hx : a.eval x = .pointer (some ⟨g, off, none⟩)) (hr : w.rangeAt g off (opC y)) (h : wpList Tryd.prog ops Q rest (a.put dst (.agg #[.int .u8 y.f, .int .u8 y.o, .int .u8 y.k, .int .u16 y.a, .int .u16 y.b])) w) :
    wpList Tryd.prog ops Q ({ dst := dst, op := .load 25 x, type := ty, pos := pos, after := after, guard := gd } :: rest) a w :=
  wpList_loadO hw hx hr h
theorem wpList_loadQ {dst : Option Tmp} {ty : TypeId} {pos : String} {after : Array Edge} {gd : Option (Nat × Bool)} {x : Operand} {g : Nat} {z : Value} {t : TypeId}
    (hw : Region.wanted { dst := dst, op := .load 28 x, type := ty, pos := pos, after := after, guard := gd } (yielded ops a.tmps) = true)
    (hx : a.eval x = .pointer (some ⟨g, 0, none⟩)) (hg : w.heap[g]? = some (.cells #[z] t (0, 0))) (h : wpList Tryd.prog ops Q rest (a.put dst (.agg #[z])) w) :
    wpList Tryd.prog ops Q ({ dst := dst, op := .load 28 x, type := ty, pos := pos, after := after, guard := gd } :: rest) a w :=
  wpList_step fun _ hK => by
    rw [if_pos hw]
    exact wp_load_mid 28 x rfl g 0 hx [z] _ (fun j u hj => by
      match j, hj with
      | 0, hj => simp at hj; subst hj; exact cell_lit hg 0 rfl
      | j + 1, hj => simp at hj) Tryd.underlying28 rfl (by kernel_rfl) (hK _ _ h)
end
theorem st_len {s : List Int} {l : List Opn} {k n : Nat} (hs : s.length ≤ 1000) (hn : n ≤ 1000) (hk : k ≤ n) : (stS quX s (l.take k)).length ≤ 1000000 := by
  have h := quS_len s (l.take k)
  have h2 : (l.take k).length ≤ k := List.length_take_le _ _
  omega
set_option maxHeartbeats 8000000
set_option maxRecDepth 100000
theorem quRun_any (w : World) (hG : Glob4 w) {v0 v : Value} {s : List Int} {l : List Opn} (hs : QIn w v0 s) (hsl : s.length ≤ 1000) (hl : ∀ x ∈ l, x.In) (hI : rkO.In w.heap.size w v l) (hn : l.length ≤ 1000) :
    Calls Tryd.prog 17 #[.agg #[v0], v] w fun e w' => ∃ v1 v2, e = .returned (.tuple #[.agg #[v1], v2, .int .i64 (stE quX s l)]) ∧ QIn w' v1 (stS quX s l) ∧ rkA.Own w.heap.size w' v2 (stL quX s l) ∧ Keeps [] w w' ∧ FSub (own v1) (own v0) w.heap.size := by
  have hone : v0.oneCell' = true := by obtain ⟨a, c, rfl, -⟩ := hs.shape; rfl
  obtain ⟨a, cp, rfl, hc, hm, -⟩ := id hI
  have hk0 : Keeps [] w ((w.alloc (.cells #[v0] 28)).alloc (.cells #[.slice none 0 0] 28)) := ((Keeps.refl _ _).alloc _).alloc _
  have h0 : ((w.alloc (.cells #[v0] 28)).alloc (.cells #[.slice none 0 0] 28)).heap[w.heap.size]? = some (.cells #[v0] 28 (0, 0)) := ((Keeps.refl [] _).alloc _).heap (heap_alloc_new w _) (by simp)
  have h1 := heap_alloc_new (w.alloc (.cells #[v0] 28)) (.cells #[.slice none 0 0] 28)
  have hz : ((w.alloc (.cells #[v0] 28)).alloc (.cells #[.slice none 0 0] 28)).heap.size = (w.alloc (.cells #[v0] 28)).heap.size + 1 := Array.size_push _
  have hz1 : (w.alloc (.cells #[v0] 28)).heap.size = w.heap.size + 1 := Array.size_push _
  rw [hz1] at h1 hz
  obtain ⟨R, hR⟩ : ∃ R, R = w.heap.size := ⟨_, rfl⟩
  have hv := hs.old
  rw [← hR] at h0 h1 hz hv
  have HK0 := Lib.hid hk0; have H0 := Lib.hid h0; have H1 := Lib.hid h1; have HZ0 := Lib.hid hz; have HV := Lib.hid hv
  have HCUT := Lib.hid (quCut_any _ (hs.keeps hk0 (by simp)) R)
  have HRL := Lib.hid (show w.heap.size = R from hR.symm)
  have HIN := Lib.hid hI; have HLI := Lib.hid hl; have HGL := Lib.hid hG
  clear hI hl hs hk0 h0 h1 hz hz1 hv hG hR
  generalize hn2 : l.length = n at *
  have HN2 := Lib.hid hn2
  clear hn2
  go_enter Tryd.func17, Tryd.ntmps17
  go_wp2_with fail
  refine HCUT.out.mono ?_; rintro e w1 ⟨v1, rfl, hq1, hk1, ho1⟩
  have HB0 := Lib.hid (hk1.heap H0.out (by simp)); have HB1 := Lib.hid (hk1.heap H1.out (by simp))
  have HK1 := Lib.hid (HK0.out.trans hk1 (FSub.refl _ _))
  have HQ1 := Lib.hid hq1
  have HO1 := Lib.hid (show ∀ q ∈ own v1, q ∈ own v0 from fun q hq => by rw [← ho1]; exact hq)
  have HZ1 := Lib.hid (show R + 2 ≤ w1.heap.size from by have := HZ0.out; have := hk1.size; omega)
  rw [HRL.out]
  clear hk1 hq1 ho1 H0 H1 HZ0 HCUT HK0
  go_wp2_with ((with_reducible refine wpList_putQ (g := R) (old := v0) (z := v1) ?_ ?_ HB0.out (QF.one HQ1.out) ?_); exact rfl; exact rfl)
  intro w2 hB2 hk2
  have HB2 := Lib.hid hB2
  have HB12 := Lib.hid (hk2.heap HB1.out (by simp))
  have HK2 := Lib.hid (HK1.out.trans hk2 (fun q hq => .inr (by have := HRL.out; simp at hq; omega)))
  have HQ2 := Lib.hid (HQ1.out.keeps hk2 (fun q hq => by have := HV.out q (HO1.out q hq); simp; omega))
  have HZ2 := Lib.hid (show R + 2 ≤ w2.heap.size from Nat.le_trans HZ1.out hk2.size)
  clear hB2 hk2 HB0 HB1 HK1 HQ1 HZ1
  go_wp2_with fail
  go_loopw [7, 17] (fun z i wr => ∃ (k : Nat) (sv : Value), i = .int .i64 k ∧ k ≤ n ∧ stE quX s (l.take k) = 0 ∧ wr.heap[R]? = some (.cells #[sv] 28 (0, 0)) ∧ wr.heap[R + 1]? = some (.cells #[.slice none 0 0] 28 (0, 0)) ∧ QF R wr sv (stS quX s (l.take k)) ∧ rkA.Own (R + 2) wr z (stL quX s (l.take k)) ∧ (∀ q ∈ own sv, q ∉ own z ∧ (q ∈ own v0 ∨ R + 2 ≤ q)) ∧ Keeps [] w wr ∧ R + 2 ≤ wr.heap.size) (fun _ i _ => n - (intOf i).toNat)
  case atStart => exact ⟨0, v1, rfl, by omega, rfl, HB2.out, HB12.out, HQ2.out, RK.Own.nil rkA _ _, fun q hq => ⟨by simp [own, Value.ownBlock], .inl (HO1.out q hq)⟩, HK2.out, HZ2.out⟩
  case round =>
    obtain ⟨k, sv, rfl, hk, he0, hb0, hb1, hsv, hz, hap, hkw, hsz⟩ := hrel
    by_cases hlt : k < n
    · have hkl : k < l.length := by have := HN2.out; omega
      obtain ⟨g, o, rfl, hg, hr⟩ := In_at (HIN.out.new hkw (Nat.le_refl _)) hkl
      have HRW := Lib.hid hr
      have HNX := Lib.hid (st_next quX hkl he0)
      have HST := Lib.hid (st_stop quX hkl he0)
      have HXI := Lib.hid (HLI.out l[k] (List.getElem_mem hkl))
      have HB0 := Lib.hid hb0; have HB1 := Lib.hid hb1; have HSV := Lib.hid hsv; have HZ := Lib.hid hz; have HAP := Lib.hid hap; have HKW := Lib.hid hkw; have HSZ := Lib.hid hsz
      have HFL := Lib.hid (show (stL quX s (l.take k)).length ≤ 10000 from Nat.le_trans (stL_few quX k) (by have := HN2.out; omega))
      have HSL := Lib.hid (st_len (l := l) hsl hn hk)
      obtain ⟨az, cz, rfl, hcz, hmz⟩ := hz.shape
      clear hz hkw he0 hr hsv hap hb0 hb1 hsz
      generalize l[k] = x at *
      have hka : Keeps [] wr (wr.alloc (.cells #[.int .u8 x.f, .int .u8 x.o, .int .u8 x.k, .int .u16 x.a, .int .u16 x.b] 25)) := (Keeps.refl [] wr).alloc _
      have HPF := Lib.hid (perform_any _ (HGL.out.new (HKW.out.trans hka (FSub.refl _ _))) (base := R) (by have := HSZ.out; have := hka.size; omega) (HSV.out.keeps hka (by simp)) HSL.out x HXI.out)
      have HKA := Lib.hid hka
      have HA0 := Lib.hid (hka.heap HB0.out (by simp))
      have hone1 : sv.oneCell' = true := HSV.out.one
      clear hka
      have HVAL := Lib.hid (show Value.agg #[.int .u8 x.f, .int .u8 x.o, .int .u8 x.k, .int .u16 x.a, .int .u16 x.b] = x.val from rfl)
      go_wp2_with (first
        | ((with_reducible refine wpList_loadX10 (g := g) (off := o + k * 5) x rfl ?_ HRW.out ?_); exact rfl)
        | ((with_reducible refine wpList_loadQ (g := R) (z := sv) rfl ?_ HA0.out ?_); exact rfl))
      refine HPF.out.mono ?_
      rintro e w3 ⟨sv2, rfl, hq3, hk3, hs3, hbad⟩
      have HFR := Lib.hid (show ∀ q ∈ frees R sv, R + 2 ≤ q ∧ q < wr.heap.size from fun q hq => by
        obtain ⟨h1, h2⟩ := mem_frees.1 hq
        have h3 := HSV.out.in_.old q h1
        rcases (HAP.out q h1).2 with h | h
        · have := HV.out q h; omega
        · exact ⟨h, h3⟩)
      have HK3 := Lib.hid (HKW.out.trans ((HKA.out.more (by simp)).trans hk3 (FSub.refl _ _)) (fun q hq => .inr (by have := (HFR.out q hq).1; have := HRL.out; omega)))
      have hk13 : Keeps (frees R sv) wr w3 := (HKA.out.more (by simp)).trans hk3 (FSub.refl _ _)
      have HB03 := Lib.hid (hk13.heap HB0.out (fun hq => by have := (HFR.out _ hq).1; omega))
      have HB13 := Lib.hid (hk13.heap HB1.out (fun hq => by have := (HFR.out _ hq).1; omega))
      have HZ3 := Lib.hid (HZ.out.keeps hk13 (fun q hq hf => (HAP.out q (mem_frees.1 hf).1).1 hq))
      have HQ3 := Lib.hid hq3
      have HAP3 := Lib.hid (show ∀ q ∈ own sv2, q ∉ own (.slice az (stL quX s (l.take k)).length cz) ∧ (q ∈ own v0 ∨ R + 2 ≤ q) from fun q hq => by
        rcases hs3 q hq with h | h
        · exact HAP.out q h
        · have h2 := HKA.out.size
          exact ⟨fun hz => by have := (row_base HZ.out q hz).2; omega, .inr (by have := HSZ.out; omega)⟩)
      have HSZ3 := Lib.hid (show R + 2 ≤ w3.heap.size from Nat.le_trans HSZ.out hk13.size)
      have hone3 : sv2.oneCell' = true := hq3.one
      have HSVX := Lib.hid (show (quX (stS quX s (l.take k)) x).2.2 ≠ 0 → QF R w3 sv (stS quX s (l.take k)) ∧ sv2 = sv from fun hne => by
        have h2 := hbad hne
        have := hq3; rw [quX_bad hne, h2] at this; exact ⟨this, h2⟩)
      obtain ⟨sa, sn, sc, rfl⟩ : ∃ a n c, sv2 = .slice a n c := by obtain ⟨a, c, e, -⟩ := hq3.free; exact ⟨a, _, c, e⟩
      clear hbad hq3 hk3 hs3 hk13 HKW HB0 HB1 HSV HZ HAP HSZ HRW HPF HKA HA0 HVAL HXI hone1
      by_cases hx : (quX (stS quX s (l.take k)) x).2.2 = 0
      · have hn1 := HNX.out
        have HX1 := HQ3.out
        generalize quX (stS quX s (l.take k)) x = X at *
        obtain ⟨s1, ⟨yk, yv⟩, e1⟩ := X
        simp only at hx HX1
        subst hx
        simp only [if_true] at hn1
        have HN1 := Lib.hid hn1
        have hka : Keeps [] w3 ((w3.alloc (.cells #[(.slice sa sn sc)] 28)).alloc (.cells (ansC ⟨yk, yv⟩).toArray 31)) := ((Keeps.refl [] w3).alloc _).alloc _
        have hza : (w3.alloc (.cells #[(.slice sa sn sc)] 28)).heap.size = w3.heap.size + 1 := Array.size_push _
        have hqa : ((w3.alloc (.cells #[(.slice sa sn sc)] 28)).alloc (.cells (ansC ⟨yk, yv⟩).toArray 31)).heap[w3.heap.size]? = some (.cells #[(.slice sa sn sc)] 28 (0, 0)) := ((Keeps.refl [] _).alloc _).heap (heap_alloc_new w3 _) (by simp)
        have hqb := heap_alloc_new (w3.alloc (.cells #[(.slice sa sn sc)] 28)) (.cells (ansC ⟨yk, yv⟩).toArray 31)
        rw [hza] at hqb
        obtain ⟨W4, hW4⟩ : ∃ W4, W4 = (w3.alloc (.cells #[(.slice sa sn sc)] 28)).alloc (.cells (ansC ⟨yk, yv⟩).toArray 31) := ⟨_, rfl⟩
        rw [← hW4] at hka hqa hqb
        obtain ⟨N3, hN3⟩ : ∃ N3, N3 = w3.heap.size := ⟨_, rfl⟩
        rw [← hN3] at hqa hqb
        have HSN := Lib.hid (show R + 2 ≤ N3 from by have := HSZ3.out; omega)
        obtain ⟨v5, w5, hrun, hrow5, hk5, hf5⟩ := rkA.append1 W4.drew (R + 2) (by have := HSZ3.out; have := hka.size; exact Nat.le_trans HSZ3.out hka.size) _ _ ((HZ3.out.keeps hka (by simp)).keeps ((Keeps.refl [] W4).drew) (by simp)) ⟨yk, yv⟩ (by have := HFL.out; omega)
        have hk45 : Keeps (own (.slice az (stL quX s (l.take k)).length cz)) W4 w5 := (((Keeps.refl [] W4).drew).more (by simp)).trans hk5 (FSub.refl _ _)
        have hzl : ∀ q ∈ own (.slice az (stL quX s (l.take k)).length cz), R + 2 ≤ q ∧ q < w3.heap.size := fun q hq => ⟨(row_base HZ3.out q hq).1, (row_base HZ3.out q hq).2⟩
        obtain ⟨S, hS⟩ : ∃ S : World → Prop, S = fun y => Keeps (R :: own (.slice az (stL quX s (l.take k)).length cz)) W4 y := ⟨_, rfl⟩
        have HSE := Lib.hid hS
        have hSD : S W4.drew := by rw [hS]; exact (Keeps.refl _ _).drew
        have HS0 := Lib.hid (fun (w' : World) (hh : S w') => show w'.cell? ⟨N3, 0, none⟩ = some (.slice sa sn sc) from by rw [hS] at hh; exact hh.cell (cell_lit hqa 0 rfl) (fun hq => by
          rcases List.mem_cons.1 hq with h | h
          · have := HSN.out; simp at h; omega
          · have := (hzl _ h).2; simp at this; omega))
        have HS1 := Lib.hid (fun (w' : World) (hh : S w') => show w'.rangeAt (N3 + 1) 0 (ansC ⟨yk, yv⟩) from by
          rw [hS] at hh
          intro j v hv
          rw [Nat.zero_add]
          exact hh.cell (cell_lit hqb j (by simpa using hv)) (fun hq => by
            rcases List.mem_cons.1 hq with h | h
            · have := HSN.out; simp at h; omega
            · have := (hzl _ h).2; simp at this; omega))
        have HRUN := Lib.hid (show (Builtin.append_ #[42, 42] 42 #[.slice az (stL quX s (l.take k)).length cz, .slice (some ⟨W4.drew.heap.size, 0, none⟩) 1 1]).run Tryd.prog (W4.drew.alloc (.cells (ansC ⟨yk, yv⟩).toArray 31)) = .ok v5 w5 from hrun)
        have HROW := Lib.hid hrow5
        have HB5 := Lib.hid (hk45.heap (hka.heap HB03.out (by simp)) (fun hq => by have := (hzl _ hq).1; omega))
        have HB15 := Lib.hid (hk45.heap (hka.heap HB13.out (by simp)) (fun hq => by have := (hzl _ hq).1; omega))
        have HQ5 := Lib.hid ((HX1.keeps hka (by simp)).keeps hk45 (fun q hq hf => (HAP3.out q hq).1 hf))
        have HAP5 := Lib.hid (show ∀ q ∈ own (.slice sa sn sc), q ∉ own v5 ∧ (q ∈ own v0 ∨ R + 2 ≤ q) from fun q hq => ⟨fun h => by
          rcases hf5 q h with h | h
          · exact (HAP3.out q hq).1 h
          · have h1 := HX1.in_.old q hq
            have h2 := hka.size
            have h3 : W4.heap.size ≤ q := h
            omega, (HAP3.out q hq).2⟩)
        have HKS := Lib.hid (show Keeps (R :: own (.slice az (stL quX s (l.take k)).length cz)) W4 w5 from hk45.more (fun q hq => List.mem_cons_of_mem _ hq))
        have HK4 := Lib.hid (show Keeps [] w W4 from HK3.out.trans hka (FSub.refl _ _))
        have HZL := Lib.hid hzl
        have HSZ5 := Lib.hid (show R + 2 ≤ w5.heap.size from Nat.le_trans (Nat.le_trans HSZ3.out hka.size) hk45.size)
        obtain ⟨a9, c9, rfl, -, -⟩ := hrow5.shape
        simp only [show (ansC ⟨yk, yv⟩).toArray = #[Value.int .u8 yk, .int .u16 yv] from rfl] at hW4
        have HWW := Lib.hid hW4; have HNN := Lib.hid hN3
        clear hn1 HNX HST HQ3 HX1 hka hza hqa hqb hrun hrow5 hk5 hf5 hk45 hzl hS HSVX HZ3 HAP3 HB03 HB13 HFR hW4 hN3 HFL HSL
        simp only [ansC]
        go_wp2_with fail
        rw [← HNN.out, ← HWW.out]
        clear HNN HWW
        refine wp_region_noPanic ?_
        refine wp_region_held_drew (S := S) (by kernel_rfl) hSD (fun hHeld => ?_)
        apply wpAnyH_take (i := 0)
        · simp only [List.getElem?_toArray]; rfl
        · kernel_rfl
        · kernel_rfl
        · kernel_rfl
        · exact fun _ _ _ h => h
        · exact yields_loadQ (by rfl) (.tmp 10) rfl N3 rfl (.slice sa sn sc) HS0.out
        · assumption
        try simp only [Act.put, List.setIfInBounds_toArray, List.set_cons_zero, List.set_cons_succ]
        apply wpAnyH_take (i := 1)
        · simp only [List.getElem?_toArray]; rfl
        · kernel_rfl
        · kernel_rfl
        · kernel_rfl
        · exact fun _ _ _ h => h
        · exact Or.inl ⟨by rfl, by intro w hSw; go_simp; try with_reducible rfl⟩
        · assumption
        try simp only [Act.put, List.setIfInBounds_toArray, List.set_cons_zero, List.set_cons_succ]
        apply wpAnyH_take (i := 2)
        · simp only [List.getElem?_toArray]; rfl
        · kernel_rfl
        · kernel_rfl
        · kernel_rfl
        · exact fun _ _ _ h => h
        · exact rkA.yields Tryd.underlying31 rfl (by rfl) _ rfl (N3 + 1) 0 rfl ⟨yk, yv⟩ HS1.out
        · assumption
        try simp only [Act.put, List.setIfInBounds_toArray, List.set_cons_zero, List.set_cons_succ]
        apply wpAnyH_ready (rs := [3])
        · kernel_rfl
        · simp
        apply AllReadyH.cons (hs := AllReadyH.nil)
        · simp only [List.getElem?_toArray]; rfl
        intro K hK
        rw [if_pos (by rfl)]
        refine rkA.wp_build1 _ rfl (y := ⟨yk, yv⟩) rfl (by decide) ?_
        refine hK.out _ _ ?_ (fun hHeld => ?_)
        · exact (by rw [HSE.out]; exact ((Keeps.refl _ _).drew).alloc _)
        clear hK K
        try simp only [Act.put, List.setIfInBounds_toArray, List.set_cons_zero, List.set_cons_succ]
        apply wpAnyH_ready (rs := [4])
        · kernel_rfl
        · simp
        apply AllReadyH.cons (hs := AllReadyH.nil)
        · simp only [List.getElem?_toArray]; rfl
        intro K hK
        rw [if_pos (by rfl)]
        refine wp_append_run _ _ 42 rfl _ _ _ w5 rfl rfl HRUN.out ?_
        refine hK.out _ _ ?_ (fun hHeld => ?_)
        · exact (by rw [HSE.out]; exact HKS.out)
        clear hK K
        try simp only [Act.put, List.setIfInBounds_toArray, List.set_cons_zero, List.set_cons_succ]
        apply wpAnyH_ready (rs := [5])
        · kernel_rfl
        · simp
        apply AllReadyH.cons (hs := AllReadyH.nil)
        · simp only [List.getElem?_toArray]; rfl
        intro K hK
        rw [if_pos (by rfl)]
        refine wp_putQ rfl (g := R) (old := sv) (z := (.slice sa sn sc)) rfl rfl HB5.out (QF.one HQ5.out) (fun W6 hW6 hk6 => ?_)
        have HW6 := Lib.hid hW6; have HK6 := Lib.hid hk6
        clear hW6 hk6
        refine hK.out _ _ ?_ (fun hHeld => ?_)
        · exact (by rw [HSE.out]; exact HKS.out.step HK6.out (by simp))
        clear hK K
        try simp only [Act.put, List.setIfInBounds_toArray, List.set_cons_zero, List.set_cons_succ]
        apply wpAnyH_take (i := 6)
        · simp only [List.getElem?_toArray]; rfl
        · kernel_rfl
        · kernel_rfl
        · kernel_rfl
        · exact fun _ _ _ h => h
        · exact Or.inl ⟨by rfl, by intro w hSw; go_simp; try with_reducible rfl⟩
        · assumption
        try simp only [Act.put, List.setIfInBounds_toArray, List.set_cons_zero, List.set_cons_succ]
        refine wpAnyH_done (by kernel_rfl) ?_ _
        refine NoPanic.normal ?_
        go_wp2_with fail
        have HQ6 := Lib.hid (HQ5.out.keeps HK6.out (fun q hq => by
          rcases (HAP5.out q hq).2 with h | h
          · have := HV.out q h; simp; omega
          · simp; omega))
        have HZ6 := Lib.hid (HROW.out.keeps HK6.out (fun q hq => by have := (row_base HROW.out q hq).1; simp; omega))
        have HB16 := Lib.hid (HK6.out.heap HB15.out (by simp))
        have HKE := Lib.hid (show Keeps [] w W6 from HK4.out.trans (HKS.out.step HK6.out (by simp)) (fun q hq => .inr (by
          rcases List.mem_cons.1 hq with h | h
          · have := HRL.out; omega
          · have := (HZL.out q h).1; have := HRL.out; omega)))
        go_roundw
        case rel => exact ⟨k + 1, (.slice sa sn sc), by go_num, by omega, HN1.out.1, HW6.out, HB16.out, by rw [HN1.out.2.1]; exact HQ6.out, by rw [HN1.out.2.2]; have h := HZ6.out; rw [List.length_append] at h; exact h, by have h := HAP5.out; rw [List.length_append] at h; exact h, HKE.out, Nat.le_trans HSZ5.out HK6.out.size⟩
        case measure => simp [intOf]; omega
      · have te : ((quX (stS quX s (l.take k)) x).2.2 != 0) = true := by simpa using hx
        have HE := Lib.hid (HST.out hx)
        obtain ⟨hq4, rfl⟩ := HSVX.out hx
        generalize quX (stS quX s (l.take k)) x = X at *
        obtain ⟨s1, ⟨yk, yv⟩, e1⟩ := X
        simp only at te hx
        have hka : Keeps [] w3 ((w3.alloc (.cells #[(.slice sa sn sc)] 28)).alloc (.cells (ansC ⟨yk, yv⟩).toArray 31)) := ((Keeps.refl [] w3).alloc _).alloc _
        have HKA := Lib.hid (HK3.out.trans hka (FSub.refl _ _))
        have HZA := Lib.hid (HZ3.out.keeps hka (by simp))
        have HQA := Lib.hid (hq4.keeps hka (by simp))
        have HBA := Lib.hid (show ((w3.alloc (.cells #[.slice sa sn sc] 28)).alloc (.cells #[.int .u8 yk, .int .u16 yv] 31)).heap[R]? = some (.cells #[.slice sa sn sc] 28 (0, 0)) from hka.heap HB03.out (by simp))
        have HBA1 := Lib.hid (show ((w3.alloc (.cells #[.slice sa sn sc] 28)).alloc (.cells #[.int .u8 yk, .int .u16 yv] 31)).heap[R + 1]? = some (.cells #[.slice none 0 0] 28 (0, 0)) from hka.heap HB13.out (by simp))
        clear HST HNX hx hka hq4 HSVX HQ3 HZ3 HB03 HB13 HFL HSL HK3
        simp only [ansC]
        go_wp2_with (first
          | ((with_reducible refine wpList_loadQ (g := R) (z := (.slice sa sn sc)) rfl ?_ HBA.out ?_); exact rfl)
          | ((with_reducible refine wpList_putQ (g := R + 1) (old := .slice none 0 0) (z := (.slice sa sn sc)) ?_ ?_ HBA1.out (QF.one HQA.out) ?_); exact rfl; exact rfl))
        intro w5 hB5 hk5
        have HB5 := Lib.hid hB5; have HK5 := Lib.hid hk5
        clear hB5 hk5
        go_wp2_with fail
        try simp only [Exit.inBlock, Exit.then]
        have hz5 : ∀ q ∈ own (.slice az (stL quX s (l.take k)).length cz), q ∉ [R + 1] := fun q hq => by have := (row_base HZA.out q hq).1; simp; omega
        have hs5 : ∀ q ∈ own (.slice sa sn sc), q ∉ [R + 1] := fun q hq => by
          rcases (HAP3.out q hq).2 with h | h
          · have := HV.out q h; simp; omega
          · simp; omega
        refine bodyPost_ret (results_runQ rfl _ _ (R + 1) rfl HB5.out) rfl ⟨(.slice sa sn sc), _, by rw [HE.out.1]; rfl, by rw [HE.out.2.1]; exact (HQA.out.keeps HK5.out hs5).in_, by rw [HE.out.2.2]; exact row_up (HZA.out.keeps HK5.out hz5) (fun q hq => by have := (row_base HZA.out q hq).1; have := HRL.out; omega), HKA.out.trans HK5.out (fun q hq => .inr (by have := HRL.out; simp at hq; omega)), fun q hq => (HAP3.out q hq).2.imp id (fun h => by have := HRL.out; omega)⟩
    · obtain rfl : k = n := by omega
      have hall : l.take k = l := by rw [← HN2.out, List.take_length]
      rw [hall] at he0 hz hsv
      have HZ := Lib.hid hz; have HKW := Lib.hid hkw; have HE := Lib.hid he0; have HSV := Lib.hid hsv; have HB0 := Lib.hid hb0; have HB1 := Lib.hid hb1; have HSZ := Lib.hid hsz; have HAP := Lib.hid hap
      obtain ⟨az, cz, rfl, hcz, hmz⟩ := hz.shape
      clear hz hkw he0 hall hsv hap hb0 hb1 hsz
      go_wp2_with (first
        | ((with_reducible refine wpList_loadQ (g := R) (z := sv) rfl ?_ HB0.out ?_); exact rfl)
        | ((with_reducible refine wpList_putQ (g := R + 1) (old := .slice none 0 0) (z := sv) ?_ ?_ HB1.out (QF.one HSV.out) ?_); exact rfl; exact rfl))
      intro w5 hB5 hk5
      have HB5 := Lib.hid hB5; have HK5 := Lib.hid hk5
      clear hB5 hk5
      go_wp2_with fail
      try simp only [Exit.inBlock, Exit.then]
      have hz5 : ∀ q ∈ own (.slice az (stL quX s l).length cz), q ∉ [R + 1] := fun q hq => by have := (row_base HZ.out q hq).1; simp; omega
      have hs5 : ∀ q ∈ own sv, q ∉ [R + 1] := fun q hq => by
        rcases (HAP.out q hq).2 with h | h
        · have := HV.out q h; simp; omega
        · simp; omega
      refine bodyPost_ret (results_runQ rfl _ _ (R + 1) rfl HB5.out) rfl ⟨sv, _, by rw [HE.out]; rfl, (HSV.out.keeps HK5.out hs5).in_, row_up (HZ.out.keeps HK5.out hz5) (fun q hq => by have := (row_base HZ.out q hq).1; have := HRL.out; omega), HKW.out.trans HK5.out (fun q hq => .inr (by have := HRL.out; simp at hq; omega)), fun q hq => (HAP.out q hq).2.imp id (fun h => by have := HRL.out; omega)⟩
end Go.Proofs.YtaicampenpkneaaDoor
