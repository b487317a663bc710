/-
  The document's config.
-/
import Derived.Test.YtffldnjjijckcaaGreatDoorR24
import Derived.Test.YtffldnjjijckcaaGreatDoorR22
import Derived.Test.YtffldnjjijckcaaGreatDoorR20
import Derived.Test.YtffldnjjijckcaaGreatDoorR12
set_option linter.unusedSimpArgs false
set_option linter.unusedVariables false
namespace Go.Proofs.YtffldnjjijckcaaGreatDoor
open Go.RowKit
def dcCfg (l : Wds) : Option Cfg := if 4 ≤ l.length ∧ 0 ≤ mdOf (l.getD 0 []) then some ⟨mdOf (l.getD 0 []), num7 (l.getD 1 []), num7 (l.getD 2 []), num7 (l.getD 3 []), (l.drop 4).contains partL, (l.drop 4).contains cutL, (l.drop 4).contains memoL⟩ else none
def CfgPost (L : Wds) (w : World) (e : Ending) (w' : World) : Prop := e = .returned (.tuple #[.agg (cfgL ((dcCfg L).getD cfgZero)).toArray, .bool (dcCfg L).isSome]) ∧ Keeps [] w w'
/-- A config in its block. -/
def CfgIn (B : Nat) (g : Cfg) (w : World) : Prop := w.heap[B]? = some (.cells (cfgL g).toArray 30 (0, 0))
theorem CfgIn.cells {B : Nat} {g : Cfg} {w : World} (h : CfgIn B g w) : w.cell? ⟨B, 0, none⟩ = some (.int .u8 g.m) ∧ w.cell? ⟨B, 1, none⟩ = some (.int .i64 g.mo) ∧ w.cell? ⟨B, 2, none⟩ = some (.int .i64 g.ms) ∧ w.cell? ⟨B, 3, none⟩ = some (.int .i64 g.mt) ∧
    w.cell? ⟨B, 4, none⟩ = some (.bool g.p) ∧ w.cell? ⟨B, 5, none⟩ = some (.bool g.cu) ∧ w.cell? ⟨B, 6, none⟩ = some (.bool g.me) ∧ B < w.heap.size := by
  have hl := lt_of_block h
  unfold CfgIn at h
  refine ⟨?_, ?_, ?_, ?_, ?_, ?_, ?_, hl⟩ <;> simp [World.cell?, h, cfgL]
theorem CfgIn.thaw {B : Nat} {g : Cfg} {w : World} (h : CfgIn B g w) (i : Nat) : w.frozen? ⟨B, i, none⟩ = false := by
  unfold CfgIn at h
  simp [World.frozen?, h]
theorem CfgIn.set {B : Nat} {g : Cfg} {w : World} (h : CfgIn B g w) (i : Nat) (v : Value) (g' : Cfg) (e : (cfgL g).toArray.setIfInBounds i v = (cfgL g').toArray) : CfgIn B g' (w.setCell ⟨B, i, none⟩ v) := by
  unfold CfgIn at h ⊢
  rw [heap_setCell_same w B i _ _ v h, e]
theorem CfgIn.new {B : Nat} {g : Cfg} {w w' : World} (h : CfgIn B g w) (hk : Keeps [] w w') : CfgIn B g w' := hk.heap h (by simp)
theorem CfgIn.fresh2 {B i : Nat} {v : Value} {g : Cfg} {w : World} (h : CfgIn B g w) {C : Nat} (hC : C = B + 1 := by rfl) : CfgIn B g (w.setCell ⟨C, i, none⟩ v) := by
  subst hC
  exact ((Keeps.refl [B + 1] w).setCell ⟨B + 1, i, none⟩ v (.inl (by simp))).heap h (by simp)
def cfgM (m : Int) : Cfg := { cfgZero with m := m }
/-- The models looked at so far. -/
def mdSo (l0 : List UInt8) (m : Int) : Bool := decide (0 ≤ mdOf l0 ∧ mdOf l0 < m)
def mdC (l0 : List UInt8) (m : Int) : Cfg := cfgM (if mdSo l0 m then mdOf l0 else 0)
theorem md_hit {l0 : List UInt8} {m : Int} (h0 : 0 ≤ m) (h : l0 = mdNm m) (h5 : m ≤ 4) : mdSo l0 (m + 1) = true ∧ mdC l0 (m + 1) = cfgM m := by
  have e : mdOf l0 = m := by rw [h, mdOf_nm h0 h5]
  have : mdSo l0 (m + 1) = true := by unfold mdSo; rw [e]; simp; omega
  exact ⟨this, by unfold mdC; rw [this, if_pos rfl, e]⟩
theorem md_miss {l0 : List UInt8} {m : Int} (h : l0 ≠ mdNm m) : mdSo l0 (m + 1) = mdSo l0 m ∧ mdC l0 (m + 1) = mdC l0 m := by
  have hne : ¬ (0 ≤ mdOf l0 ∧ mdOf l0 = m) := by
    rintro ⟨h1, h2⟩
    have := mdNm_of h1
    rw [h2] at this
    exact h this.symm
  have : mdSo l0 (m + 1) = mdSo l0 m := by
    unfold mdSo
    congr 1
    simp only [eq_iff_iff]
    omega
  exact ⟨this, by unfold mdC; rw [this]⟩
theorem wpList_load_cfg {ops : Array Oper} {rest : List Oper} {a : Act} {w : World} {Q : Exit → Act → World → Prop} {dst : Option Tmp} {ty : TypeId} {pos : String} {after : Array Edge} {x : Operand} {B : Nat} {g : Cfg}
    (hx : a.eval x = .pointer (some ⟨B, 0, none⟩)) (hg : CfgIn B g w) (h : wpList Tryz.prog ops Q rest (a.put dst (.agg (cfgL g).toArray)) w) :
    wpList Tryz.prog ops Q ({ dst := dst, op := .load 30 x, type := ty, pos := pos, after := after, guard := none } :: rest) a w :=
  wpList_load_row rfl 30 x rfl B hx 30 _ (0, 0) _ hg Tryz.underlying30 rfl (by kernel_rfl) h
theorem results_cfg2 {fn : Func} {p u : Tmp} (h : fn.results = #[.cell p 30, .tmp u]) (tmps : Array Value) (w : World) (b : Nat) {g : Cfg}
    (hp : tmps.getD p undef = .pointer (some ⟨b, 0, none⟩)) (hb : CfgIn b g w) : (results fn tmps).run Tryz.prog w = .ok (.tuple #[.agg (cfgL g).toArray, tmps.getD u undef]) w := by
  have h1 : (loadVar 30 ⟨b, 0, none⟩).run Tryz.prog w = .ok (.agg (cfgL g).toArray) w := run_loadVar_row w b 30 30 _ _ _ hb Tryz.underlying30 rfl (by kernel_rfl)
  rw [results_cell_tmp h, hp]
  simp [asAddr, h1, Result.andThen]
set_option maxHeartbeats 16000000 in
set_option maxRecDepth 100000 in
theorem r6config_few (w : World) (v : Value) (L : Wds) {N : Nat} (h : Strs N w v L) (hl : L.length < 4) : Calls Tryz.prog 34 #[v] w (CfgPost L w) := by
  have hno : dcCfg L = none := by unfold dcCfg; rw [if_neg (by omega)]
  unfold CfgPost
  rw [hno]
  obtain ⟨a0, c0, rfl, hc0, hm0⟩ := h.shape
  have hB0 := heap_alloc_lt (o := .cells #[.int .u8 0, .int .i64 0, .int .i64 0, .int .i64 0, .bool false, .bool false, .bool false] 30) (heap_alloc_new w (.cells #[.int .u8 0, .int .i64 0, .int .i64 0, .int .i64 0, .bool false, .bool false, .bool false] 30))
  have hk0 := ((Keeps.refl [] w).alloc (.cells #[.int .u8 0, .int .i64 0, .int .i64 0, .int .i64 0, .bool false, .bool false, .bool false] 30)).alloc (.cells #[.int .u8 0, .int .i64 0, .int .i64 0, .int .i64 0, .bool false, .bool false, .bool false] 30)
  clear h hno
  go_enter Tryz.func34, Tryz.ntmps34
  go_wp2_with ((with_reducible apply wpList_put_cfg); exact rfl; exact rfl; exact heap_alloc_at (by simp); exact ⟨rfl, rfl⟩; exact rfl)
  intro W hb1 hk1
  have hb0 : CfgIn w.heap.size cfgZero W := hk1.heap hB0 (by simp)
  have hb1 : CfgIn (w.heap.size + 1) cfgZero W := hb1
  have hkW := hk0.trans hk1 (fun q hq => .inr (by simp at hq; omega))
  have HB0 := Lib.hid hb0; have HB1 := Lib.hid hb1; have HKW := Lib.hid hkW
  have HZ := Lib.hid (Nat.le_refl w.heap.size)
  clear hB0 hk0 hk1 hb0 hb1 hkW
  generalize hBB : w.heap.size = B at *
  have HBB := Lib.hid hBB
  clear hBB
  go_wp2_with fail
  go_loopw [5, 6] (fun is m wr => ∃ f : Nat, is = .bool false ∧ m = .int .u8 f ∧ f ≤ 5 ∧ CfgIn B cfgZero wr ∧ CfgIn (B + 1) cfgZero wr ∧ Keeps [] w wr) (fun _ m _ => 5 - (intOf m).toNat)
  case atStart => exact ⟨0, rfl, rfl, by omega, HB0.out, HB1.out, HKW.out⟩
  case round =>
    clear HB0 HB1 HKW
    obtain ⟨f, rfl, rfl, hf5, hb0, hb1, hkp⟩ := hrel
    have HB0 := Lib.hid hb0; have HB1 := Lib.hid hb1; have HKP := Lib.hid hkp
    clear hb0 hb1 hkp
    by_cases hf : f < 5
    · have z1 : ¬ (L.length : Int) ≥ 4 := by omega
      have z2 : decide ((L.length : Int) ≥ 4) = false := by simpa using z1
      go_wp2_with fail
      go_quiet (fail)
      go_wp2_with fail
      go_roundw
      case rel => exact ⟨f + 1, rfl, by go_num, by omega, HB0.out.new ((Keeps.refl [] _).drewN _), HB1.out.new ((Keeps.refl [] _).drewN _), HKP.out.drewN _⟩
      case measure => simp [intOf]; omega
    · go_wp2_with (first | ((with_reducible apply wpList_load_cfg); exact rfl; exact HB1.out) | ((with_reducible apply wpList_put_cfg); exact rfl; exact rfl; exact HB0.out; exact ⟨rfl, rfl⟩; exact rfl))
      intro W3 hb3 hk3
      go_wp2_with fail
      try simp only [Exit.inBlock, Exit.then]
      exact bodyPost_ret (results_cfg2 rfl _ _ _ rfl hb3) rfl ⟨rfl, HKP.out.trans hk3 (fun q hq => .inr (by simp at hq; have := HBB.out; omega))⟩
theorem cfg_set3 {B : Nat} {g : Cfg} {w : World} (h : CfgIn B g w) (p c m : Bool) : CfgIn B { g with p := p, cu := c, me := m } (((w.setCell ⟨B, 4, none⟩ (.bool p)).setCell ⟨B, 5, none⟩ (.bool c)).setCell ⟨B, 6, none⟩ (.bool m)) :=
  ((h.set 4 (.bool p) { g with p := p } rfl).set 5 (.bool c) { g with p := p, cu := c } rfl).set 6 (.bool m) { g with p := p, cu := c, me := m } rfl
theorem has_snoc {l : Wds} {k : Nat} (h : k < l.length) (x : List UInt8) : (l.take (k + 1)).contains x = ((l.take k).contains x || (l.getD k [] == x)) := by
  rw [List.take_add_one, List.getElem?_eq_getElem h, List.getD_eq_getElem?_getD, List.getElem?_eq_getElem h]
  simp only [List.contains_eq_any_beq, List.any_append, Option.toList_some, List.any_cons, List.any_nil, Bool.or_false]
  congr 1
  rw [Bool.eq_iff_iff, beq_iff_eq, beq_iff_eq]
  exact eq_comm
set_option maxHeartbeats 16000000 in
set_option maxRecDepth 100000 in
theorem r6config_many (w : World) (v : Value) (L : Wds) {N : Nat} (h : Strs N w v L) (hN : N ≤ w.heap.size) (hl : 4 ≤ L.length) (hlen : L.length ≤ 90000) (hb : ∀ x ∈ L, x.length ≤ 1000000) : Calls Tryz.prog 34 #[v] w (CfgPost L w) := by
  unfold CfgPost
  obtain ⟨O, hO⟩ : ∃ O, dcCfg L = O := ⟨_, rfl⟩
  rw [hO]
  have HO := Lib.hid hO
  obtain ⟨a0, c0, rfl, hc0, hm0⟩ := h.shape
  obtain ⟨-, -, -, bk, o, rfl, hbN, hcell, -⟩ := h.at (by intro e; rw [e] at hl; simp at hl)
  have hB0 := heap_alloc_lt (o := .cells #[.int .u8 0, .int .i64 0, .int .i64 0, .int .i64 0, .bool false, .bool false, .bool false] 30) (heap_alloc_new w (.cells #[.int .u8 0, .int .i64 0, .int .i64 0, .int .i64 0, .bool false, .bool false, .bool false] 30))
  have hk0 := ((Keeps.refl [] w).alloc (.cells #[.int .u8 0, .int .i64 0, .int .i64 0, .int .i64 0, .bool false, .bool false, .bool false] 30)).alloc (.cells #[.int .u8 0, .int .i64 0, .int .i64 0, .int .i64 0, .bool false, .bool false, .bool false] 30)
  have HCL := Lib.hid hcell; have HBD := Lib.hid hb
  clear h hO hcell hb
  generalize hn : L.length = n at *
  have HN := Lib.hid hn
  clear hn
  go_enter Tryz.func34, Tryz.ntmps34
  go_wp2_with ((with_reducible apply wpList_put_cfg); exact rfl; exact rfl; exact heap_alloc_at (by simp); exact ⟨rfl, rfl⟩; exact rfl)
  intro W hb1 hk1
  have hb0 : CfgIn w.heap.size cfgZero W := hk1.heap hB0 (by simp)
  have hb1 : CfgIn (w.heap.size + 1) cfgZero W := hb1
  have hkW := hk0.trans hk1 (fun q hq => .inr (by simp at hq; omega))
  have HB0 := Lib.hid hb0; have HB1 := Lib.hid hb1; have HKW := Lib.hid hkW
  clear hB0 hk0 hk1 hb0 hb1 hkW
  have HBN : Hid (N ≤ w.heap.size) := Lib.hid hN
  clear hN
  generalize hBB : w.heap.size = B at *
  have HBB := Lib.hid hBB
  clear hBB
  have hl4 : (4 : Int) ≤ (n : Int) := by omega
  have hnz : ¬ n = 0 := by omega
  have HL0 : Hid (∃ l0, l0 = L.getD 0 []) := Lib.hid ⟨_, rfl⟩
  obtain ⟨l0, hl0⟩ := HL0.out
  have HL := Lib.hid hl0
  clear hl0 HL0
  go_wp2_with fail
  go_loopw [5, 6] (fun is m wr => ∃ f : Nat, is = .bool (mdSo l0 f) ∧ m = .int .u8 f ∧ f ≤ 5 ∧ CfgIn B cfgZero wr ∧ CfgIn (B + 1) (mdC l0 f) wr ∧ Keeps [] w wr) (fun _ m _ => 5 - (intOf m).toNat)
  case atStart =>
    have e : mdSo l0 (0 : Nat) = false := by unfold mdSo; simp; try omega
    exact ⟨0, by rw [e], rfl, by omega, HB0.out, by unfold mdC; rw [e]; exact HB1.out, HKW.out⟩
  case round =>
    clear HB0 HB1 HKW
    obtain ⟨f, rfl, rfl, hf5, hb0, hb1, hkp⟩ := hrel
    have HB0 := Lib.hid hb0; have HB1 := Lib.hid hb1; have HKP := Lib.hid hkp
    have hx0 : wr.cell? ⟨bk, o, none⟩ = some (.string (bs l0)) := by rw [HL.out]; exact hkp.cell (HCL.out 0 (by omega)) (by simp)
    clear hb0 hb1 hkp
    by_cases hf : f < 5
    · have z2 : decide ((n : Int) ≥ 4) = true := by simpa using hl4
      have hmd := fun w => r6Model_any w f (by omega) (by omega)
      have HMD := Lib.hid hmd
      clear hmd
      have hff : (f : Int) < 5 := by omega
      by_cases hq : l0 = mdNm f
      · have t1 : ((bs l0).toList == (bs (mdNm f)).toList) = true := by rw [toL_bs, toL_bs, ← hq]; simp
        have HQ := Lib.hid (md_hit (by omega) hq (by omega))
        clear hq
        generalize bs (mdNm f) = NM at *
        generalize bs l0 = X at *
        go_wp2_with fail
        refine wp_region_noPanic ?_
        refine wp_region_held_drew (S := fun w' => w'.cell? ⟨bk, o, none⟩ = some (.string X)) (by kernel_rfl) hx0 (fun hHeld => ?_)
        apply wpAnyH_take (i := 0) (v := .slice (some ⟨bk, o, none⟩) n c0)
        · simp only [List.getElem?_toArray]; rfl
        · kernel_rfl
        · kernel_rfl
        · kernel_rfl
        · exact fun _ _ _ h => h
        · exact Or.inl ⟨by rfl, by intro w hSw; go_simp; try with_reducible rfl⟩
        · assumption
        try simp only [Act.put, List.setIfInBounds_toArray, List.set_cons_zero, List.set_cons_succ]
        apply wpAnyH_take (i := 1) (v := .int .i64 n)
        · simp only [List.getElem?_toArray]; rfl
        · kernel_rfl
        · kernel_rfl
        · kernel_rfl
        · exact fun _ _ _ h => h
        · exact Or.inl ⟨by rfl, by intro w hSw; go_simp; try with_reducible rfl⟩
        · assumption
        try simp only [Act.put, List.setIfInBounds_toArray, List.set_cons_zero, List.set_cons_succ]
        apply wpAnyH_take (i := 2) (v := .bool true)
        · simp only [List.getElem?_toArray]; rfl
        · kernel_rfl
        · kernel_rfl
        · kernel_rfl
        · exact fun _ _ _ h => h
        · exact Or.inl ⟨by rfl, by intro w hSw; go_simp; try with_reducible rfl⟩
        · assumption
        try simp only [Act.put, List.setIfInBounds_toArray, List.set_cons_zero, List.set_cons_succ]
        apply wpAnyH_take (i := 3) (v := .bool true)
        · simp only [List.getElem?_toArray]; rfl
        · kernel_rfl
        · kernel_rfl
        · kernel_rfl
        · exact fun _ _ _ h => h
        · exact Or.inl ⟨by rfl, by intro w hSw; go_simp; try with_reducible rfl⟩
        · assumption
        try simp only [Act.put, List.setIfInBounds_toArray, List.set_cons_zero, List.set_cons_succ]
        apply wpAnyH_take (i := 4) (v := .slice (some ⟨bk, o, none⟩) n c0)
        · simp only [List.getElem?_toArray]; rfl
        · kernel_rfl
        · kernel_rfl
        · kernel_rfl
        · exact fun _ _ _ h => h
        · exact Or.inl ⟨by rfl, by intro w hSw; go_simp; try with_reducible rfl⟩
        · assumption
        try simp only [Act.put, List.setIfInBounds_toArray, List.set_cons_zero, List.set_cons_succ]
        apply wpAnyH_take (i := 5) (v := .pointer (some ⟨bk, o, none⟩))
        · simp only [List.getElem?_toArray]; rfl
        · kernel_rfl
        · kernel_rfl
        · kernel_rfl
        · exact fun _ _ _ h => h
        · exact Or.inl ⟨by rfl, by intro w hSw; go_simp; try with_reducible rfl⟩
        · assumption
        try simp only [Act.put, List.setIfInBounds_toArray, List.set_cons_zero, List.set_cons_succ]
        apply wpAnyH_take (i := 6) (v := .string X)
        · simp only [List.getElem?_toArray]; rfl
        · kernel_rfl
        · kernel_rfl
        · kernel_rfl
        · exact fun _ _ _ h => h
        · exact Or.inl ⟨by rfl, by intro w hSw; have d0 := hSw; go_simp; try with_reducible rfl⟩
        · assumption
        try simp only [Act.put, List.setIfInBounds_toArray, List.set_cons_zero, List.set_cons_succ]
        apply wpAnyH_take (i := 7) (v := .int .u8 f)
        · simp only [List.getElem?_toArray]; rfl
        · kernel_rfl
        · kernel_rfl
        · kernel_rfl
        · exact fun _ _ _ h => h
        · exact Or.inl ⟨by rfl, by intro w hSw; go_simp; try with_reducible rfl⟩
        · assumption
        try simp only [Act.put, List.setIfInBounds_toArray, List.set_cons_zero, List.set_cons_succ]
        apply wpAnyH_ready (rs := [8])
        · kernel_rfl
        · simp
        apply AllReadyH.cons (hs := AllReadyH.nil)
        · simp only [List.getElem?_toArray]; rfl
        intro K hK
        rw [if_pos (by rfl)]
        go_simp
        refine (HMD.out _).mono ?_; rintro z wA ⟨rfl, hkA⟩
        have kA : Keeps [] wr wA := hkA.undrew
        have a1 := kA.cell hx0 (by simp)
        go_wp2_with fail
        refine hK.out _ _ ?_ (fun hHeld => ?_)
        · exact a1
        clear hK K
        try simp only [Act.put, List.setIfInBounds_toArray, List.set_cons_zero, List.set_cons_succ]
        apply wpAnyH_take (i := 9) (v := .bool true)
        · simp only [List.getElem?_toArray]; rfl
        · kernel_rfl
        · kernel_rfl
        · kernel_rfl
        · exact fun _ _ _ h => h
        · exact Or.inl ⟨by rfl, by intro w hSw; go_simp; try with_reducible rfl⟩
        · assumption
        try simp only [Act.put, List.setIfInBounds_toArray, List.set_cons_zero, List.set_cons_succ]
        apply wpAnyH_ready (rs := [10])
        · kernel_rfl
        · simp
        apply AllReadyH.cons (hs := AllReadyH.nil)
        · simp only [List.getElem?_toArray]; rfl
        intro K hK
        rw [if_pos (by rfl)]
        go_simp
        refine hK.out _ _ ?_ (fun hHeld => ?_)
        · exact a1
        clear hK K
        try simp only [Act.put, List.setIfInBounds_toArray, List.set_cons_zero, List.set_cons_succ]
        refine wpAnyH_done (by kernel_rfl) ?_ _
        refine NoPanic.normal ?_
        have HA0 := Lib.hid (HB0.out.new kA)
        have hA1 := HB1.out.new kA
        have HA1 := Lib.hid hA1
        have HKA := Lib.hid (HKP.out.trans kA (FSub.refl _ _))
        obtain ⟨c0', -, -, -, -, -, -, hz⟩ := hA1.cells
        have hfz := hA1.thaw 0
        have hset := hA1.set 0 (.int .u8 f) (cfgM f) rfl
        have HSET := Lib.hid hset
        clear hset hkA kA a1 hA1 hx0 t1 z2 HMD HB0 HB1 HKP
        go_wp2_with fail
        go_roundw
        case rel => exact ⟨f + 1, by rw [← HQ.out.1]; rfl, by go_num, by omega, HA0.out.fresh2, by rw [show ((f + 1 : Nat) : Int) = (f : Int) + 1 by omega, HQ.out.2]; exact HSET.out, HKA.out.setCell _ _ (.inr (by have := HBB.out; show _ ≤ B + 1; omega))⟩
        case measure => simp [intOf]; omega
      · have t1 : ((bs l0).toList == (bs (mdNm f)).toList) = false := by rw [toL_bs, toL_bs, beq_eq_false_iff_ne]; exact hq
        have HQ := Lib.hid (md_miss (m := f) hq)
        clear hq
        generalize bs (mdNm f) = NM at *
        generalize bs l0 = X at *
        go_wp2_with fail
        refine wp_region_noPanic ?_
        refine wp_region_held_drew (S := fun w' => w'.cell? ⟨bk, o, none⟩ = some (.string X)) (by kernel_rfl) hx0 (fun hHeld => ?_)
        apply wpAnyH_take (i := 0) (v := .slice (some ⟨bk, o, none⟩) n c0)
        · simp only [List.getElem?_toArray]; rfl
        · kernel_rfl
        · kernel_rfl
        · kernel_rfl
        · exact fun _ _ _ h => h
        · exact Or.inl ⟨by rfl, by intro w hSw; go_simp; try with_reducible rfl⟩
        · assumption
        try simp only [Act.put, List.setIfInBounds_toArray, List.set_cons_zero, List.set_cons_succ]
        apply wpAnyH_take (i := 1) (v := .int .i64 n)
        · simp only [List.getElem?_toArray]; rfl
        · kernel_rfl
        · kernel_rfl
        · kernel_rfl
        · exact fun _ _ _ h => h
        · exact Or.inl ⟨by rfl, by intro w hSw; go_simp; try with_reducible rfl⟩
        · assumption
        try simp only [Act.put, List.setIfInBounds_toArray, List.set_cons_zero, List.set_cons_succ]
        apply wpAnyH_take (i := 2) (v := .bool true)
        · simp only [List.getElem?_toArray]; rfl
        · kernel_rfl
        · kernel_rfl
        · kernel_rfl
        · exact fun _ _ _ h => h
        · exact Or.inl ⟨by rfl, by intro w hSw; go_simp; try with_reducible rfl⟩
        · assumption
        try simp only [Act.put, List.setIfInBounds_toArray, List.set_cons_zero, List.set_cons_succ]
        apply wpAnyH_take (i := 3) (v := .bool true)
        · simp only [List.getElem?_toArray]; rfl
        · kernel_rfl
        · kernel_rfl
        · kernel_rfl
        · exact fun _ _ _ h => h
        · exact Or.inl ⟨by rfl, by intro w hSw; go_simp; try with_reducible rfl⟩
        · assumption
        try simp only [Act.put, List.setIfInBounds_toArray, List.set_cons_zero, List.set_cons_succ]
        apply wpAnyH_take (i := 4) (v := .slice (some ⟨bk, o, none⟩) n c0)
        · simp only [List.getElem?_toArray]; rfl
        · kernel_rfl
        · kernel_rfl
        · kernel_rfl
        · exact fun _ _ _ h => h
        · exact Or.inl ⟨by rfl, by intro w hSw; go_simp; try with_reducible rfl⟩
        · assumption
        try simp only [Act.put, List.setIfInBounds_toArray, List.set_cons_zero, List.set_cons_succ]
        apply wpAnyH_take (i := 5) (v := .pointer (some ⟨bk, o, none⟩))
        · simp only [List.getElem?_toArray]; rfl
        · kernel_rfl
        · kernel_rfl
        · kernel_rfl
        · exact fun _ _ _ h => h
        · exact Or.inl ⟨by rfl, by intro w hSw; go_simp; try with_reducible rfl⟩
        · assumption
        try simp only [Act.put, List.setIfInBounds_toArray, List.set_cons_zero, List.set_cons_succ]
        apply wpAnyH_take (i := 6) (v := .string X)
        · simp only [List.getElem?_toArray]; rfl
        · kernel_rfl
        · kernel_rfl
        · kernel_rfl
        · exact fun _ _ _ h => h
        · exact Or.inl ⟨by rfl, by intro w hSw; have d0 := hSw; go_simp; try with_reducible rfl⟩
        · assumption
        try simp only [Act.put, List.setIfInBounds_toArray, List.set_cons_zero, List.set_cons_succ]
        apply wpAnyH_take (i := 7) (v := .int .u8 f)
        · simp only [List.getElem?_toArray]; rfl
        · kernel_rfl
        · kernel_rfl
        · kernel_rfl
        · exact fun _ _ _ h => h
        · exact Or.inl ⟨by rfl, by intro w hSw; go_simp; try with_reducible rfl⟩
        · assumption
        try simp only [Act.put, List.setIfInBounds_toArray, List.set_cons_zero, List.set_cons_succ]
        apply wpAnyH_ready (rs := [8])
        · kernel_rfl
        · simp
        apply AllReadyH.cons (hs := AllReadyH.nil)
        · simp only [List.getElem?_toArray]; rfl
        intro K hK
        rw [if_pos (by rfl)]
        go_simp
        refine (HMD.out _).mono ?_; rintro z wA ⟨rfl, hkA⟩
        have kA : Keeps [] wr wA := hkA.undrew
        have a1 := kA.cell hx0 (by simp)
        go_wp2_with fail
        refine hK.out _ _ ?_ (fun hHeld => ?_)
        · exact a1
        clear hK K
        try simp only [Act.put, List.setIfInBounds_toArray, List.set_cons_zero, List.set_cons_succ]
        apply wpAnyH_take (i := 9) (v := .bool false)
        · simp only [List.getElem?_toArray]; rfl
        · kernel_rfl
        · kernel_rfl
        · kernel_rfl
        · exact fun _ _ _ h => h
        · exact Or.inl ⟨by rfl, by intro w hSw; go_simp; try with_reducible rfl⟩
        · assumption
        try simp only [Act.put, List.setIfInBounds_toArray, List.set_cons_zero, List.set_cons_succ]
        apply wpAnyH_ready (rs := [10])
        · kernel_rfl
        · simp
        apply AllReadyH.cons (hs := AllReadyH.nil)
        · simp only [List.getElem?_toArray]; rfl
        intro K hK
        rw [if_pos (by rfl)]
        go_simp
        refine hK.out _ _ ?_ (fun hHeld => ?_)
        · exact a1
        clear hK K
        try simp only [Act.put, List.setIfInBounds_toArray, List.set_cons_zero, List.set_cons_succ]
        refine wpAnyH_done (by kernel_rfl) ?_ _
        refine NoPanic.normal ?_
        have HA0 := Lib.hid (HB0.out.new kA)
        have HA1 := Lib.hid (HB1.out.new kA)
        have HKA := Lib.hid (HKP.out.trans kA (FSub.refl _ _))
        clear hkA kA a1 hx0 t1 z2 HMD HB0 HB1 HKP
        go_wp2_with fail
        go_roundw
        case rel => exact ⟨f + 1, by rw [show ((f + 1 : Nat) : Int) = (f : Int) + 1 by omega, HQ.out.1], by go_num, by omega, HA0.out, by rw [show ((f + 1 : Nat) : Int) = (f : Int) + 1 by omega, HQ.out.2]; exact HA1.out, HKA.out⟩
        case measure => simp [intOf]; omega
    · obtain rfl : f = 5 := by omega
      have hmb := mdOf_bounds l0
      by_cases hm : 0 ≤ mdOf l0
      · have hso : mdSo l0 (5 : Nat) = true := by unfold mdSo; simp; omega
        have hcc : mdC l0 (5 : Nat) = cfgM (mdOf l0) := by unfold mdC; rw [hso]; rfl
        have hdc : dcCfg L = some ⟨mdOf l0, num7 (L.getD 1 []), num7 (L.getD 2 []), num7 (L.getD 3 []), (L.drop 4).contains partL, (L.drop 4).contains cutL, (L.drop 4).contains memoL⟩ := by
          unfold dcCfg
          rw [← HL.out, if_pos ⟨by have := HN.out; omega, hm⟩]
        have HDC := Lib.hid (HO.out.symm.trans hdc)
        have hb1 := HB1.out
        rw [hcc] at hb1
        have hge : w.heap.size ≤ B + 1 := by have := HBB.out; omega
        have hne : ¬ (bk = B + 1) := by have := HBN.out; omega
        have hg : ∀ j, j < n → (L.getD j []).length ≤ 1000000 := fun j hj => HBD.out _ (by have := HN.out; rw [List.getD_eq_getElem?_getD, List.getElem?_eq_getElem (by omega)]; exact List.getElem_mem (by omega))
        have x1 := HKP.out.cell (HCL.out 1 (by omega)) (by simp)
        have x2 := HKP.out.cell (HCL.out 2 (by omega)) (by simp)
        have x3 := HKP.out.cell (HCL.out 3 (by omega)) (by simp)
        have s1 := fun w => r6number_any w (L.getD 1 []) (by rw [bs_size]; have := hg 1 (by omega); omega)
        have s2 := fun w => r6number_any w (L.getD 2 []) (by rw [bs_size]; have := hg 2 (by omega); omega)
        have s3 := fun w => r6number_any w (L.getD 3 []) (by rw [bs_size]; have := hg 3 (by omega); omega)
        have S1 := Lib.hid s1; have S2 := Lib.hid s2; have S3 := Lib.hid s3
        rw [hso]
        clear s1 s2 s3 hso hcc hdc hx0 HB1 hmb hm HO
        generalize hM : mdOf l0 = M at *
        generalize num7 (L.getD 1 []) = n1 at *
        generalize num7 (L.getD 2 []) = n2 at *
        generalize num7 (L.getD 3 []) = n3 at *
        generalize bs (L.getD 1 []) = X1 at *
        generalize bs (L.getD 2 []) = X2 at *
        generalize bs (L.getD 3 []) = X3 at *
        clear hM
        have hb2 := hb1.set 1 (.int .i64 n1) ⟨M, n1, 0, 0, false, false, false⟩ rfl
        have hb3 := hb2.set 2 (.int .i64 n2) ⟨M, n1, n2, 0, false, false, false⟩ rfl
        have hb4 := hb3.set 3 (.int .i64 n3) ⟨M, n1, n2, n3, false, false, false⟩ rfl
        obtain ⟨-, d1, d2, d3, -, -, -, hzz⟩ := hb1.cells
        have f1 := hb1.thaw 1; have f2 := hb1.thaw 2; have f3 := hb1.thaw 3
        have HB4 := Lib.hid hb4
        have HK4 := Lib.hid (((HKP.out.setCell ⟨B + 1, 1, none⟩ (.int .i64 n1) (.inr hge)).setCell ⟨B + 1, 2, none⟩ (.int .i64 n2) (.inr hge)).setCell ⟨B + 1, 3, none⟩ (.int .i64 n3) (.inr hge))
        have HC0 := Lib.hid (((HB0.out.fresh2 (v := .int .i64 n1) (i := 1)).fresh2 (v := .int .i64 n2) (i := 2)).fresh2 (v := .int .i64 n3) (i := 3))
        clear hb1 hb2 hb3 hb4 HB0 HKP
        have hc1 : 1 < n := by omega
        have hc2 : 2 < n := by omega
        have hc3 : 3 < n := by omega
        go_wp2_with fail
        refine (S1.out _).mono ?_; rintro e w5 ⟨rfl, rfl⟩
        go_wp2_with fail
        refine (S2.out _).mono ?_; rintro e w6 ⟨rfl, rfl⟩
        go_wp2_with fail
        refine (S3.out _).mono ?_; rintro e w7 ⟨rfl, rfl⟩
        go_wp2_with fail
        generalize (((w5.setCell ⟨B + 1, 1, none⟩ (.int .i64 n1)).setCell ⟨B + 1, 2, none⟩ (.int .i64 n2)).setCell ⟨B + 1, 3, none⟩ (.int .i64 n3)) = W8 at *
        clear x1 x2 x3 d1 d2 d3 hzz f1 f2 f3 S1 S2 S3 hg
        go_loopw [7] (fun i wr => ∃ (k : Nat) (p cu me : Bool), i = .int .i64 k ∧ 4 ≤ k ∧ k ≤ n ∧ CfgIn (B + 1) ⟨M, n1, n2, n3, p, cu, me⟩ wr ∧ CfgIn B cfgZero wr ∧
          p = ((L.drop 4).take (k - 4)).contains partL ∧ cu = ((L.drop 4).take (k - 4)).contains cutL ∧ me = ((L.drop 4).take (k - 4)).contains memoL ∧ Keeps [] w wr) (fun i _ => n - (intOf i).toNat)
        case atStart => exact ⟨4, false, false, false, rfl, by omega, hl, HB4.out, HC0.out, by simp, by simp, by simp, HK4.out⟩
        case round =>
          clear HB4 HC0 HK4
          obtain ⟨k, p, cu, me, rfl, hk4, hkn, hb, hc, hp, hcu, hme, hkp⟩ := hrel
          have HB := Lib.hid hb; have HC := Lib.hid hc; have HP := Lib.hid hp; have HU := Lib.hid hcu; have HE := Lib.hid hme; have HKP := Lib.hid hkp
          clear hp hcu hme hkp hc
          by_cases hlt : k < n
          · have hx := HKP.out.cell (HCL.out k hlt) (by simp)
            have hd4 : k - 4 < (L.drop 4).length := by rw [List.length_drop, HN.out]; omega
            have hge4 : (L.drop 4).getD (k - 4) [] = L.getD k [] := by
              rw [List.getD_eq_getElem?_getD, List.getElem?_drop, List.getD_eq_getElem?_getD, show 4 + (k - 4) = k by omega]
            have hnx := fun x => has_snoc hd4 x
            rw [show k - 4 + 1 = k + 1 - 4 by omega, hge4] at hnx
            have HNX := Lib.hid hnx
            obtain ⟨e1, he1⟩ : ∃ e, (L.getD k [] == partL) = e := ⟨_, rfl⟩
            obtain ⟨e2, he2⟩ : ∃ e, (L.getD k [] == cutL) = e := ⟨_, rfl⟩
            obtain ⟨e3, he3⟩ : ∃ e, (L.getD k [] == memoL) = e := ⟨_, rfl⟩
            have t1 : ((bs (L.getD k [])).toList == [112, 97, 114, 116, 105, 116, 105, 111, 110]) = e1 := by rw [toL_bs]; exact he1
            have t2 : ((bs (L.getD k [])).toList == [99, 117, 116]) = e2 := by rw [toL_bs]; exact he2
            have t3 : ((bs (L.getD k [])).toList == [109, 101, 109, 111]) = e3 := by rw [toL_bs]; exact he3
            have HE1 := Lib.hid he1; have HE2 := Lib.hid he2; have HE3 := Lib.hid he3
            have hk0 : (0 : Int) ≤ k := by omega
            obtain ⟨-, -, -, -, d4, d5, d6, hzz⟩ := hb.cells
            have f4 := hb.thaw 4; have f5 := hb.thaw 5; have f6 := hb.thaw 6
            clear hb hnx hd4 hge4 he1 he2 he3
            generalize bs (L.getD k []) = X at *
            simp only [] at d4 d5 d6
            cases p <;> cases cu <;> cases me
            all_goals
              go_wp2_with fail
              go_roundw
              case rel =>
                refine ⟨k + 1, _, _, _, by go_num, by omega, by omega, cfg_set3 HB.out _ _ _, (((HC.out.fresh2).fresh2).fresh2), ?_, ?_, ?_, ((HKP.out.setCell _ _ (.inr hge)).setCell _ _ (.inr hge)).setCell _ _ (.inr hge)⟩
                · rw [HNX.out, ← HP.out, HE1.out]; simp
                · rw [HNX.out, ← HU.out, HE2.out]; simp
                · rw [HNX.out, ← HE.out, HE3.out]; simp
              case measure => simp [intOf]; omega
          · obtain rfl : k = n := by omega
            have e : (L.drop 4).take (k - 4) = L.drop 4 := List.take_of_length_le (by rw [List.length_drop, HN.out]; omega)
            have hpp := HP.out; have huu := HU.out; have hee := HE.out
            rw [e] at hpp huu hee
            have hoo := HDC.out
            rw [← hpp, ← huu, ← hee] at hoo
            have HOO := Lib.hid hoo
            clear hb hpp huu hee hoo e HP HU HE
            go_wp2_with (first | ((with_reducible apply wpList_load_cfg); exact rfl; exact HB.out) | ((with_reducible apply wpList_put_cfg); exact rfl; exact rfl; exact HC.out; exact ⟨rfl, rfl⟩; exact rfl))
            intro W3 hb3 hk3
            go_wp2_with fail
            try simp only [Exit.inBlock, Exit.then]
            exact bodyPost_ret (results_cfg2 rfl _ _ _ rfl hb3) rfl ⟨by rw [HOO.out]; rfl, HKP.out.trans hk3 (fun q hq => .inr (by simp at hq; have := HBB.out; omega))⟩
      · have hso : mdSo l0 (5 : Nat) = false := by unfold mdSo; simp; omega
        have hcc : mdC l0 (5 : Nat) = cfgZero := by unfold mdC; rw [hso]; rfl
        have hdc : dcCfg L = none := by
          unfold dcCfg
          rw [← HL.out, if_neg]
          intro h; exact hm h.2
        obtain rfl := HO.out.symm.trans hdc
        have hb1 := HB1.out
        rw [hcc] at hb1
        have HC1 := Lib.hid hb1
        rw [hso]
        clear hso hcc hdc hx0 HB1 hmb hm HO hb1
        go_wp2_with (first | ((with_reducible apply wpList_load_cfg); exact rfl; exact HC1.out) | ((with_reducible apply wpList_put_cfg); exact rfl; exact rfl; exact HB0.out; exact ⟨rfl, rfl⟩; exact rfl))
        intro W3 hb3 hk3
        go_wp2_with fail
        try simp only [Exit.inBlock, Exit.then]
        exact bodyPost_ret (results_cfg2 rfl _ _ _ rfl hb3) rfl ⟨rfl, HKP.out.trans hk3 (fun q hq => .inr (by simp at hq; have := HBB.out; omega))⟩
theorem r6config_any (w : World) (v : Value) (L : Wds) {N : Nat} (h : Strs N w v L) (hN : N ≤ w.heap.size) (hlen : L.length ≤ 90000) (hb : ∀ x ∈ L, x.length ≤ 1000000) : Calls Tryz.prog 34 #[v] w (CfgPost L w) := by
  rcases Nat.lt_or_ge L.length 4 with hl | hl
  · exact r6config_few w v L h hl
  · exact r6config_many w v L h hN hl hlen hb
end Go.Proofs.YtffldnjjijckcaaGreatDoor
/-
  What the document's Parse makes of a text; no program.
-/
namespace Go.Proofs.YtffldnjjijckcaaGreatDoor
open Go.RowKit
noncomputable def dcWho (l : Wds) : Bool := decide (3 ≤ l.length ∧ 0 ≤ sm (l.getD 1 []) ∧ sm (l.getD 1 []) < 16 ∧ 0 ≤ sm (l.getD 2 []))
noncomputable def dcBody (k : Int) (x : Ev) (r : Wds) (b : List UInt8) : Ev :=
  if k = 2 then { x with k := 2, o := opsX r } else if k = 3 then { x with k := 3, rk := psK b, rv := psV b } else if k = 4 then { x with k := 4 } else if k = 5 then { x with k := 5, t := (rdMics r).getD [] }
  else if k = 6 then { x with k := 6, r := (dcLists r).getD [] } else if k = 7 then { x with k := 7 } else x
noncomputable def dcIs (k : Int) (r : Wds) (b : List UInt8) : Bool :=
  if k = 2 then decide (opsE r = 0) else if k = 3 then decide (psE b = 0) else if k = 4 then true else if k = 5 then (rdMics r).isSome else if k = 6 then (dcLists r).isSome else decide (k = 7)
noncomputable def dcAt (l : Wds) : Ev := { evZero with c := sm (l.getD 1 []), id := sm (l.getD 2 []) }
noncomputable def dcX (s : List UInt8) : Ev :=
  if (cutAt 32 s).getD 0 [] = configL then { evZero with k := 1, g := (dcCfg ((cutAt 32 s).drop 1)).getD cfgZero }
  else if dcWho (cutAt 32 s) then dcBody (kdOf ((cutAt 32 s).getD 0 [])) (dcAt (cutAt 32 s)) ((cutAt 32 s).drop 3) (behN 32 3 s) else evZero
noncomputable def dcI (s : List UInt8) : Bool :=
  if (cutAt 32 s).getD 0 [] = configL then (dcCfg ((cutAt 32 s).drop 1)).isSome
  else if dcWho (cutAt 32 s) then dcIs (kdOf ((cutAt 32 s).getD 0 [])) ((cutAt 32 s).drop 3) (behN 32 3 s) else false
theorem dcList_w {l : List Int} (h : InU16 l) : dcList (listW l) = some l := by
  unfold dcList
  by_cases h0 : l = []
  · subst h0; rfl
  · have e : listW l = Lib.join (l.map dec) [44] := by unfold listW; rw [if_neg h0]
    rw [e, if_neg (listW_ne45 h0), cut_join 44 _ (by simpa using h0) (fun w hw => by
      rw [List.mem_map] at hw
      obtain ⟨n, _, rfl⟩ := hw
      exact dec_free44 n)]
    exact rdAll_w (by decide) (mem_u16.1 h)
theorem dcLists_w : ∀ (t : List (List Int)), (∀ x ∈ t, InU16 x) → dcLists (t.map listW) = some t
  | [], _ => rfl
  | x :: r, h => by
    show (match dcList (listW x) with | none => none | some l => (dcLists (r.map listW)).map (l :: ·)) = _
    rw [dcList_w (h x (by simp)), dcLists_w r (fun y hy => h y (by simp [hy]))]
    rfl
theorem dcList_in {w : List UInt8} {l : List Int} (h : dcList w = some l) : InU16 l := by
  unfold dcList at h
  split at h
  · simp at h; subst h; rw [mem_u16]; simp
  · exact mem_u16.2 (rdAll_ok h).2.2.1
theorem dcLists_in : ∀ {l : Wds} {t : List (List Int)}, dcLists l = some t → ∀ x ∈ t, InU16 x
  | [], t, h => by simp [dcLists] at h; subst h; simp
  | w :: r, t, h => by
    replace h : (match dcList w with | none => none | some l => (dcLists r).map (l :: ·)) = some t := h
    cases hw : dcList w with
    | none => simp [hw] at h
    | some l =>
      simp only [hw] at h
      cases hr : dcLists r with
      | none => simp [hr] at h
      | some q =>
        simp [hr] at h
        subst h
        intro x hx
        rcases List.mem_cons.1 hx with rfl | hx
        · exact dcList_in hw
        · exact dcLists_in hr x hx
theorem flags_has (p cu me : Bool) : (flagW p partL ++ flagW cu cutL ++ flagW me memoL).contains partL = p ∧ (flagW p partL ++ flagW cu cutL ++ flagW me memoL).contains cutL = cu ∧ (flagW p partL ++ flagW cu cutL ++ flagW me memoL).contains memoL = me := by
  cases p <;> cases cu <;> cases me <;> decide
theorem dcCfg_w {g : Cfg} (h : cfgGood g = true) (m0 : 0 ≤ g.m) : dcCfg (cfgW g) = some g := by
  obtain ⟨g1, g2, g3, g4⟩ := cfg_all h
  obtain ⟨m, mo, ms, mt, p, cu, me⟩ := g
  simp only at g1 g2 g3 g4 m0
  have e1 : mdOf (mdNm m) = m := mdOf_nm m0 g1
  have e2 : num7 (dec mo) = mo := num7_dec (by omega) (by omega)
  have e3 : num7 (dec ms) = ms := num7_dec (by omega) (by omega)
  have e4 : num7 (dec mt) = mt := num7_dec (by omega) (by omega)
  unfold dcCfg
  have hw : cfgW ⟨m, mo, ms, mt, p, cu, me⟩ = mdNm m :: dec mo :: dec ms :: dec mt :: (flagW p partL ++ flagW cu cutL ++ flagW me memoL) := by simp [cfgW]
  rw [hw]
  have d : (mdNm m :: dec mo :: dec ms :: dec mt :: (flagW p partL ++ flagW cu cutL ++ flagW me memoL)).drop 4 = flagW p partL ++ flagW cu cutL ++ flagW me memoL := rfl
  rw [d, if_pos ⟨by simp, by show 0 ≤ mdOf (mdNm m); omega⟩]
  show some (Cfg.mk (mdOf (mdNm m)) (num7 (dec mo)) (num7 (dec ms)) (num7 (dec mt)) _ _ _) = _
  obtain ⟨f1, f2, f3⟩ := flags_has p cu me
  rw [e1, e2, e3, e4, f1, f2, f3]
theorem evKind_cfg {k : Int} (h : evKind k = true) (h1 : ¬ k = 1) : kdNm k ≠ configL := by
  intro e
  have := kdOf_nm h
  rw [e] at this
  have e2 : kdOf configL = 1 := by decide
  omega
theorem dec_sm {n : Int} (h0 : 0 ≤ n) (h1 : n ≤ 65535) : sm (dec n) = n := by
  have e := num7_dec h0 (by omega : n < 10000000)
  unfold sm
  rw [e, if_neg (by omega)]
/-- A good event's line is read as the event. -/
theorem dc_whole {y : Ev} (hi : y.In) (hg : evGood y = true) {s : List UInt8} (hs : evLine y = s) : dcI s = true ∧ dcX s = y := by
  obtain ⟨hk, hc, hf, hn⟩ := good_parts hg
  have hcut : cutAt 32 s = evWords y := by rw [← hs]; exact cut_line y
  have hbeh : behN 32 3 s = Lib.join ((evWords y).drop 3) [32] := by unfold behN; rw [hcut]
  unfold dcI dcX
  rw [hcut, hbeh]
  have h0 : (evWords y).getD 0 [] = kdNm y.k := rfl
  rw [h0]
  unfold evNeed at hn
  unfold evFits at hf
  by_cases k1 : y.k = 1
  · simp only [k1, if_true] at hn hf
    have hw : (evWords y).drop 1 = cfgW y.g := by unfold evWords evTail; simp [k1]
    have hd := dcCfg_w hf hi.m0
    have e1 : kdNm y.k = configL := by rw [k1]; decide
    rw [e1, if_pos rfl, if_pos rfl, hw, hd]
    exact ⟨rfl, hn.symm⟩
  · have hw : evWords y = kdNm y.k :: dec y.c :: dec y.id :: (evWords y).drop 3 := by
      unfold evWords evTail whoW
      rcases kind_cases hk with h | h | h | h | h | h | h
      · exact absurd h k1
      all_goals simp [h]
    have g1 : (evWords y).getD 1 [] = dec y.c := by rw [hw]; rfl
    have g2 : (evWords y).getD 2 [] = dec y.id := by rw [hw]; rfl
    have hwho : dcWho (evWords y) = true := by
      unfold dcWho
      rw [g1, g2, dec_sm hi.c0 (by omega), dec_sm hi.i0 (by have := hi.i1; omega)]
      have hl : 3 ≤ (evWords y).length := by rw [hw]; simp
      simp only [decide_eq_true_eq]
      exact ⟨hl, hi.c0, hc, hi.i0⟩
    have hat : dcAt (evWords y) = { evZero with c := y.c, id := y.id } := by
      unfold dcAt
      rw [g1, g2, dec_sm hi.c0 (by omega), dec_sm hi.i0 (by have := hi.i1; omega)]
    rw [if_neg (evKind_cfg hk k1), if_neg (evKind_cfg hk k1), hwho, if_pos rfl, if_pos rfl, hat, kdOf_nm hk]
    simp only [k1, if_false] at hn hf
    unfold dcIs dcBody
    have hd3 : (evWords y).drop 3 = (if y.k = 3 then cutAt 32 (rsTxt y.rk y.rv) else (evTail y).drop 2) := by
      unfold evWords evTail whoW
      split <;> simp
    by_cases k2 : y.k = 2
    · simp only [k2, if_true] at hn hf ⊢
      have e : (evWords y).drop 3 = opWords y.o := by rw [hd3]; unfold evTail whoW; simp [k2]
      obtain ⟨e1, e2⟩ := ops_yes hi.o ((good_iff _).1 hf) e.symm
      rw [e1, e2]
      refine ⟨by simp, ?_⟩
      rw [← k2]; exact hn.symm
    · simp only [k2, if_false] at hn hf ⊢
      by_cases k3 : y.k = 3
      · simp only [k3, if_true] at hn hf ⊢
        have e : (evWords y).drop 3 = cutAt 32 (rsTxt y.rk y.rv) := by rw [hd3, if_pos k3]
        obtain ⟨_, e1, e2, e3⟩ := ps_text hi.rk0 hi.rv0 (by have := hi.rv1; omega) hf
        rw [e, join_cut, e1, e2, e3]
        refine ⟨by simp, ?_⟩
        rw [← k3]; exact hn.symm
      · simp only [k3, if_false] at hn hf ⊢
        by_cases k5 : y.k = 5
        · simp only [k5, if_true] at hn hf ⊢
          obtain ⟨_, _, b⟩ := mics_all hf
          have e : (evWords y).drop 3 = y.t.flatMap micW := by rw [hd3]; unfold evTail whoW; simp [k5]
          rw [e, rdMics_w y.t hi.t b]
          refine ⟨by simp, ?_⟩
          rw [Option.getD_some, if_neg (by decide), ← k5]; exact hn.symm
        · simp only [k5, if_false] at hn hf ⊢
          by_cases k6 : y.k = 6
          · simp only [k6, if_true] at hn hf ⊢
            have e : (evWords y).drop 3 = y.r.map listW := by rw [hd3]; unfold evTail whoW; simp [k6]
            rw [e, dcLists_w y.r hi.r]
            refine ⟨by simp, ?_⟩
            rw [Option.getD_some, if_neg (by decide), ← k6]; exact hn.symm
          · simp only [k6, if_false] at hn hf ⊢
            rcases kind_cases hk with h | h | h | h | h | h | h
            · exact absurd h k1
            · exact absurd h k2
            · exact absurd h k3
            · simp only [h, if_true]
              refine ⟨trivial, ?_⟩
              rw [← h]; exact hn.symm
            · exact absurd h k5
            · exact absurd h k6
            · refine ⟨by simp [h], ?_⟩
              rw [h]
              simp only [show ¬ ((7 : Int) = 4) by decide, if_false, if_true]
              rw [← h]; exact hn.symm
theorem zero_in6 : evZero.In := zero_evIn zA zB zA zB zA zC zero_in zA zB zA zC (by simp [evZero]) (by simp [evZero]) (by decide)
theorem dcX_in (s : List UInt8) : (dcX s).In := by
  have gz : 0 ≤ cfgZero.m ∧ cfgZero.m ≤ 4 ∧ 0 ≤ cfgZero.mo ∧ cfgZero.mo ≤ 32 ∧ 0 ≤ cfgZero.ms ∧ cfgZero.ms ≤ 4096 ∧ 0 ≤ cfgZero.mt ∧ cfgZero.mt ≤ 1048576 := by decide
  unfold dcX
  split
  · cases h : dcCfg ((cutAt 32 s).drop 1) with
    | none => exact zero_evIn (by simp) (by simp) zA zB zA zC zero_in zA zB zA zC (by simp [evZero]) (by simp [evZero]) gz
    | some g =>
      unfold dcCfg at h
      split at h
      · rename_i hh
        simp only [Option.some.injEq] at h
        subst h
        have b0 := mdOf_bounds (((cutAt 32 s).drop 1).getD 0 [])
        have b1 := num7_bounds (((cutAt 32 s).drop 1).getD 1 [])
        have b2 := num7_bounds (((cutAt 32 s).drop 1).getD 2 [])
        have b3 := num7_bounds (((cutAt 32 s).drop 1).getD 3 [])
        simp only [Option.getD_some]
        exact ⟨by simp, by simp, zA, zB, zA, zC, zero_in, zA, zB, zA, zC, by simp [evZero], by simp [evZero], hh.2, by show mdOf _ < 256; omega, by show _ ≤ num7 _; omega, by show num7 _ ≤ _; omega, by show _ ≤ num7 _; omega, by show num7 _ ≤ _; omega, by show _ ≤ num7 _; omega, by show num7 _ ≤ _; omega⟩
      · cases h
  · split
    · rename_i hw
      unfold dcWho at hw
      simp only [decide_eq_true_eq] at hw
      obtain ⟨_, c0, c1, i0⟩ := hw
      have i1 := sm_bounds ((cutAt 32 s).getD 2 [])
      have A0 : 0 ≤ (dcAt (cutAt 32 s)).c := c0
      have A1 : (dcAt (cutAt 32 s)).c < 256 := by show sm _ < 256; omega
      have A2 : 0 ≤ (dcAt (cutAt 32 s)).id := i0
      have A3 : (dcAt (cutAt 32 s)).id < 65536 := by show sm _ < 65536; omega
      unfold dcBody
      split
      · exact zero_evIn (by simp) (by simp) A0 A1 A2 A3 (opsX_in _) zA zB zA zC (by simp [dcAt, evZero]) (by simp [dcAt, evZero]) gz
      · split
        · have b1 := psK_bounds (behN 32 3 s)
          have b2 := psV_bounds (behN 32 3 s)
          exact zero_evIn (by simp) (by simp) A0 A1 A2 A3 zero_in b1.1 (by show psK _ < 256; omega) b2.1 (by show psV _ < 65536; omega) (by simp [dcAt, evZero]) (by simp [dcAt, evZero]) gz
        · split
          · exact zero_evIn (by simp) (by simp) A0 A1 A2 A3 zero_in zA zB zA zC (by simp [dcAt, evZero]) (by simp [dcAt, evZero]) gz
          · split
            · refine zero_evIn (by simp) (by simp) A0 A1 A2 A3 zero_in zA zB zA zC ?_ (by simp [dcAt, evZero]) gz
              cases h : rdMics ((cutAt 32 s).drop 3) with
              | none => simp
              | some t => exact (rdMics_ok _ _ (Nat.le_refl _) t h).2.1
            · split
              · refine zero_evIn (by simp) (by simp) A0 A1 A2 A3 zero_in zA zB zA zC (by simp [dcAt, evZero]) ?_ gz
                cases h : dcLists ((cutAt 32 s).drop 3) with
                | none => simp
                | some t => exact dcLists_in h
              · split
                · exact zero_evIn (by simp) (by simp) A0 A1 A2 A3 zero_in zA zB zA zC (by simp [dcAt, evZero]) (by simp [dcAt, evZero]) gz
                · exact zero_evIn zA zB A0 A1 A2 A3 zero_in zA zB zA zC (by simp [dcAt, evZero]) (by simp [dcAt, evZero]) gz
    · exact zero_in6
/-- What is told. -/
theorem dc_yes {s : List UInt8} (h1 : dcI s = true) (h2 : evGood (dcX s) = true) (h3 : evLine (dcX s) = s) : lnX s = dcX s ∧ lnE s = 0 := ln_yes (dcX_in s) h2 h3
theorem dc_no {s : List UInt8} (h : dcI s = false ∨ evGood (dcX s) = false ∨ evLine (dcX s) ≠ s) : lnX s = evZero ∧ lnE s = 4 :=
  ln_no fun x hi hg hl => by
    obtain ⟨a, b⟩ := dc_whole hi hg hl
    rcases h with h | h | h
    · rw [a] at h; cases h
    · rw [b, hg] at h; cases h
    · rw [b] at h; exact h hl
end Go.Proofs.YtffldnjjijckcaaGreatDoor
