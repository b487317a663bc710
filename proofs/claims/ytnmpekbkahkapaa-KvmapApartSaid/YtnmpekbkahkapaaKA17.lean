/-
  KvmapCodes over any key map.
-/
import Derived.Test.YtnmpekbkahkapaaKA15
import Derived.Test.YtnmpekbkahkapaaKA07
import Derived.Test.YtnmpekbkahkapaaKA06
import Derived.Test.YtnmpekbkahkapaaKA16
set_option linter.unusedSimpArgs false
set_option linter.unusedVariables false
namespace Go.Proofs.Ytnmpekbkahkapaa
open Go.RowKit
variable {G : World → Prop}
theorem look_filter (key k : Int) : ∀ t : List It, itLook k (t.filter fun x => x.k == key) = if k = key then itLook k t else none
  | [] => by simp [itLook]
  | a :: r => by
    have ih := look_filter key k r
    rw [List.filter_cons]
    by_cases ha : a.k = key
    · rw [if_pos (by simpa using ha), itLook, itLook, ih]
      by_cases hk : k = key
      · rw [if_pos hk, if_pos hk]
      · rw [if_neg hk, if_neg hk, if_neg (by rw [ha]; exact fun e => hk e.symm)]
    · rw [if_neg (by simpa using ha), ih]
      by_cases hk : k = key
      · rw [if_pos hk, if_pos hk, itLook, if_neg (by rw [hk]; exact ha)]
      · rw [if_neg hk, if_neg hk]
theorem kv0_get (k : Nat) : kv0.getD k none = none := by
  unfold kv0
  rw [List.getD_eq_getElem?_getD, List.getElem?_replicate]
  split <;> rfl
theorem only_get {m : Kv} {key : Int} (h0 : 0 ≤ key) {k : Nat} (hk : k < 8) : (kvOnly m key).getD k none = if (k : Int) = key then m.getD k none else none := by
  unfold kvOnly
  split
  · rename_i h8
    by_cases e : (k : Int) = key
    · rw [if_pos e, show key.toNat = k by omega, List.getD_eq_getElem?_getD, List.getElem?_set_self (by show k < 8; exact hk)]
      rfl
    · rw [if_neg e, List.getD_eq_getElem?_getD, List.getElem?_set_ne (by omega), ← List.getD_eq_getElem?_getD, kv0_get]
  · rw [if_neg (by omega), kv0_get]
theorem Rel.only {m : Kv} {t : List It} (h : Rel m t) {key : Int} (h0 : 0 ≤ key) : Rel (kvOnly m key) (t.filter fun x => x.k == key) := by
  refine ⟨kvOnly_in h.in_ h0, fun k hk => ?_, fun x hx => h.keys x (List.mem_filter.1 hx).1, h.nodup.sublist (List.Sublist.map _ List.filter_sublist)⟩
  rw [look_filter, only_get h0 hk]
  split
  · exact h.look k hk
  · rfl
set_option maxHeartbeats 8000000
set_option maxRecDepth 100000
end Go.Proofs.Ytnmpekbkahkapaa
/-
  A key map's bytes, read back.
-/
namespace Go.Proofs.Ytnmpekbkahkapaa
open Go.RowKit
theorem bits_more (B k : Nat) : B % 2 ^ (k + 1) = B % 2 ^ k + 2 ^ k * (B / 2 ^ k % 2) := Nat.mod_pow_succ
end Go.Proofs.Ytnmpekbkahkapaa
/-
  Keys are apart: what operations at one key answer, and leave there.
-/
namespace Go.Proofs.Ytnmpekbkahkapaa
open Go.RowKit
theorem get_set {m : Kv} {k j : Nat} (hk : k < m.length) (o : Option Int) : (m.set k o).getD j none = if k = j then o else m.getD j none := by
  rw [List.getD_eq_getElem?_getD, List.getElem?_set]
  split
  · rename_i e
    subst e
    first | rfl | (rw [if_pos hk]; rfl)
  · rw [← List.getD_eq_getElem?_getD]
/-- A step looks at its own key alone. -/
theorem ksX_key {m n : Kv} (hm : m.length = 8) (hn : n.length = 8) {x : Opn} (hk : 0 ≤ x.k) (h : n.getD x.k.toNat none = m.getD x.k.toNat none) :
    (ksX n x).2 = (ksX m x).2 ∧ (ksX n x).1.getD x.k.toNat none = (ksX m x).1.getD x.k.toNat none ∧ ∀ j, j ≠ x.k.toNat → (ksX n x).1.getD j none = n.getD j none := by
  unfold ksX
  by_cases hb : 7 < x.k ∨ x.f < 6 ∨ 9 < x.f
  · rw [if_pos hb, if_pos hb]
    exact ⟨rfl, h, fun _ _ => rfl⟩
  · rw [if_neg hb, if_neg hb]
    have h8 : x.k.toNat < 8 := by omega
    by_cases h7 : x.f = 7
    · rw [if_pos h7, if_pos h7]
      refine ⟨rfl, ?_, fun j hj => ?_⟩
      · rw [get_set (by omega), get_set (by omega), if_pos rfl, if_pos rfl]
      · rw [get_set (by omega), if_neg (Ne.symm hj)]
    · rw [if_neg h7, if_neg h7, h]
      cases hg : m.getD x.k.toNat none with
      | none =>
        rw [hg] at h
        by_cases h6 : x.f = 6
        · simp only [if_pos h6]; exact ⟨trivial, by rw [h, hg], fun _ _ => trivial⟩
        · simp only [if_neg h6]; exact ⟨trivial, by rw [h, hg], fun _ _ => trivial⟩
      | some v =>
        rw [hg] at h
        by_cases h6 : x.f = 6
        · simp only [if_pos h6]; exact ⟨trivial, by rw [h, hg], fun _ _ => trivial⟩
        · simp only [if_neg h6]
          by_cases h8' : x.f = 8
          · simp only [if_pos h8']
            refine ⟨trivial, ?_, fun j hj => ?_⟩
            · rw [get_set (by omega), get_set (by omega), if_pos rfl, if_pos rfl]
            · rw [get_set (by omega), if_neg (Ne.symm hj)]
          · simp only [if_neg h8']
            by_cases hv : v = x.a
            · simp only [if_pos hv]
              refine ⟨trivial, ?_, fun j hj => ?_⟩
              · rw [get_set (by omega), get_set (by omega), if_pos rfl, if_pos rfl]
              · rw [get_set (by omega), if_neg (Ne.symm hj)]
            · simp only [if_neg hv]; exact ⟨trivial, by rw [h, hg], fun _ _ => trivial⟩
theorem ksX_len {m : Kv} (hm : m.length = 8) (x : Opn) : (ksX m x).1.length = 8 := by
  unfold ksX
  split
  · exact hm
  · split
    · simp [hm]
    · split
      · split <;> exact hm
      · split
        · exact hm
        · split
          · simp [hm]
          · split <;> simp [hm]
/-- The operations at a key, with their answers. -/
def atKey (k : Int) (m : Kv) (l : List Opn) : List (Opn × Ans) := (l.zip (stL ksX m l)).filter fun p => p.1.k == k
theorem apart {k : Nat} : ∀ (l : List Opn) (m n : Kv), m.length = 8 → n.length = 8 → (∀ x ∈ l, x.In) → n.getD k none = m.getD k none →
    stE ksX n ((atKey k m l).map Prod.fst) = 0 ∧ stL ksX n ((atKey k m l).map Prod.fst) = (atKey k m l).map Prod.snd ∧
    (stS ksX n ((atKey k m l).map Prod.fst)).getD k none = (stS ksX m l).getD k none ∧ (∀ j, j ≠ k → (stS ksX n ((atKey k m l).map Prod.fst)).getD j none = n.getD j none) ∧ (stS ksX n ((atKey k m l).map Prod.fst)).length = 8
  | [], m, n, hm, hn, _, h => ⟨rfl, rfl, h, fun _ _ => rfl, hn⟩
  | x :: l, m, n, hm, hn, hl, h => by
    have hx := hl x (by simp)
    by_cases h0 : (ksX m x).2.2 = 0
    · have e1 : stS ksX m (x :: l) = stS ksX (ksX m x).1 l := by unfold stS; rw [if_pos h0]; cases l <;> rfl
      have e2 : atKey k m (x :: l) = if x.k == (k : Int) then (x, (ksX m x).2.1) :: atKey k (ksX m x).1 l else atKey k (ksX m x).1 l := by
        unfold atKey
        rw [show stL ksX m (x :: l) = (ksX m x).2.1 :: stL ksX (ksX m x).1 l from by show (if _ then _ else _) = _; rw [if_pos h0], List.zip_cons_cons, List.filter_cons]
      by_cases hk : x.k = k
      · obtain ⟨g1, g2, g3⟩ := ksX_key hm hn hx.k0 (by rw [show x.k.toNat = k by omega]; exact h)
        have ekk : x.k.toNat = k := by omega
        rw [ekk] at g2
        have ih := apart (k := k) l (ksX m x).1 (ksX n x).1 (ksX_len hm x) (ksX_len hn x) (fun y hy => hl y (by simp [hy])) g2
        rw [e2, if_pos (by simpa using hk), e1]
        have h0n : (ksX n x).2.2 = 0 := by rw [g1]; exact h0
        have a1 : ∀ q, stE ksX n (x :: q) = stE ksX (ksX n x).1 q := fun q => by show (if _ then _ else _) = _; rw [if_pos h0n]
        have a2 : ∀ q, stL ksX n (x :: q) = (ksX n x).2.1 :: stL ksX (ksX n x).1 q := fun q => by show (if _ then _ else _) = _; rw [if_pos h0n]
        have a3 : ∀ q, stS ksX n (x :: q) = stS ksX (ksX n x).1 q := fun q => by show (if _ then _ else _) = _; rw [if_pos h0n]
        simp only [List.map_cons]
        rw [a1, a2, a3]
        refine ⟨ih.1, by rw [ih.2.1, g1], ih.2.2.1, fun j hj => ?_, ih.2.2.2.2⟩
        rw [ih.2.2.2.1 j hj, g3 j (by omega)]
      · have hother : (ksX m x).1.getD k none = m.getD k none := (ksX_key hm hm hx.k0 rfl).2.2 k (by have := hx.k0; omega)
        have ih := apart (k := k) l (ksX m x).1 n (ksX_len hm x) hn (fun y hy => hl y (by simp [hy])) (by rw [hother]; exact h)
        rw [e2, if_neg (by simpa using hk), e1]
        exact ih
    · have e1 : stS ksX m (x :: l) = m := by show (if _ then _ else _) = _; rw [if_neg h0]
      have e2 : atKey k m (x :: l) = [] := by
        unfold atKey
        rw [show stL ksX m (x :: l) = [] from by show (if _ then _ else _) = _; rw [if_neg h0]]
        rfl
      rw [e1, e2]
      exact ⟨rfl, rfl, h, fun _ _ => rfl, hn⟩
theorem kv_ext {m n : Kv} (hm : m.length = 8) (hn : n.length = 8) (h : ∀ j, j < 8 → m.getD j none = n.getD j none) : m = n := by
  apply List.ext_getElem (by omega)
  intro i h1 h2
  have := h i (by omega)
  rw [List.getD_eq_getElem?_getD, List.getD_eq_getElem?_getD, List.getElem?_eq_getElem h1, List.getElem?_eq_getElem h2] at this
  simpa using this
/-- Alone, and beside others. -/
theorem alone_eq {k : Nat} (hk : k < 8) {m : Kv} (hm : KvIn m) {l : List Opn} (hl : ∀ x ∈ l, x.In) :
    stS ksX (kvOnly m k) ((atKey k m l).map Prod.fst) = kvOnly (stS ksX m l) k ∧ kvOnly (stS ksX m ((atKey k m l).map Prod.fst)) k = stS ksX (kvOnly m k) ((atKey k m l).map Prod.fst) := by
  have ho : (kvOnly m k).length = 8 := (kvOnly_in hm (by omega)).len
  have hg : (kvOnly m k).getD k none = m.getD k none := by rw [only_get (by omega) hk, if_pos rfl]
  have h1 := apart l m (kvOnly m k) hm.len ho hl hg
  have h2 := apart (k := k) l m m hm.len hm.len hl rfl
  have hend : (stS ksX m l).length = 8 := (ksS_in m l hm hl).len
  have e1 : stS ksX (kvOnly m k) ((atKey k m l).map Prod.fst) = kvOnly (stS ksX m l) k := by
    refine kv_ext h1.2.2.2.2 (kvOnly_in (ksS_in m l hm hl) (by omega)).len fun j hj => ?_
    rw [only_get (by omega) hj]
    by_cases e : (j : Int) = k
    · rw [if_pos e, show j = k by omega]; exact h1.2.2.1
    · rw [if_neg e, h1.2.2.2.1 j (by omega), only_get (by omega) hj, if_neg e]
  refine ⟨e1, ?_⟩
  rw [e1]
  have hb : ∀ p : Kv, (kvOnly p k).length = 8 := fun p => by unfold kvOnly; split <;> simp [kv0]
  refine kv_ext (hb _) (hb _) fun j hj => ?_
  rw [only_get (by omega) hj, only_get (by omega) hj]
  by_cases e : (j : Int) = k
  · rw [if_pos e, if_pos e, show j = k by omega, h2.2.2.1]
  · rw [if_neg e, if_neg e]
theorem atKey_next {k : Int} {m : Kv} {l : List Opn} {i : Nat} (hi : i < (stL ksX m l).length) (hj : i < l.length) :
    ((l.zip (stL ksX m l)).take (i + 1)).filter (fun p => p.1.k == k) = ((l.zip (stL ksX m l)).take i).filter (fun p => p.1.k == k) ++ (if l[i].k = k then [(l[i], (stL ksX m l)[i])] else []) := by
  have hz : i < (l.zip (stL ksX m l)).length := by rw [List.length_zip]; omega
  rw [List.take_add_one, List.getElem?_eq_getElem hz, Option.toList_some, List.filter_append, List.getElem_zip]
  congr 1
  by_cases e : l[i].k = k
  · rw [if_pos e, List.filter_cons, if_pos (by simpa using e)]; rfl
  · rw [if_neg e, List.filter_cons, if_neg (by simpa using e)]; rfl
theorem atKey_in {k : Int} {m : Kv} {l : List Opn} (hl : ∀ x ∈ l, x.In) : ∀ x ∈ (atKey k m l).map Prod.fst, x.In := by
  intro x hx
  obtain ⟨p, hp, rfl⟩ := List.mem_map.1 hx
  exact hl _ (List.of_mem_zip (List.mem_filter.1 hp).1).1
theorem atKey_len (k : Int) (m : Kv) (l : List Opn) : (atKey k m l).length ≤ l.length := Nat.le_trans (List.length_filter_le _ _) (by rw [List.length_zip]; exact Nat.min_le_left _ _)
end Go.Proofs.Ytnmpekbkahkapaa
/-
  KvmapApart over any key map.
-/
namespace Go.Proofs.Ytnmpekbkahkapaa
open Go.RowKit
section
variable {ops : Array Oper} {rest : List Oper} {a : Act} {w : World} {Q : Exit → Act → World → Prop}
set_option maxRecDepth 100000 in
theorem wpList_buildO11 {dst : Option Tmp} {ty : TypeId} {pos : String} {after : Array Edge} {y : Operand} {x : Opn} (hy : a.eval y = .agg (opC x).toArray)
    (h : wpList Try.prog ops Q rest (a.put dst (.slice (some ⟨w.heap.size, 0, none⟩) 1 1)) (w.alloc (.cells (opC x).toArray 27))) :
    wpList Try.prog ops Q ({ dst := dst, op := .buildSlice 42 1 #[(0, y)], type := ty, pos := pos, after := after, guard := none } :: rest) a w :=
  wpList_plain rfl fun _ hK => rkO.wp_build1 y rfl hy (by decide) (hK _ _ h)
set_option maxRecDepth 100000 in
theorem wpList_buildA11 {dst : Option Tmp} {ty : TypeId} {pos : String} {after : Array Edge} {y : Operand} {x : Ans} (hy : a.eval y = .agg (ansC x).toArray)
    (h : wpList Try.prog ops Q rest (a.put dst (.slice (some ⟨w.heap.size, 0, none⟩) 1 1)) (w.alloc (.cells (ansC x).toArray 32))) :
    wpList Try.prog ops Q ({ dst := dst, op := .buildSlice 43 1 #[(0, y)], type := ty, pos := pos, after := after, guard := none } :: rest) a w :=
  wpList_plain rfl fun _ hK => rkA.wp_build1 y rfl hy (by decide) (hK _ _ h)
theorem wpList_loadA11 {dst : Option Tmp} {ty : TypeId} {pos : String} {after : Array Edge} {gd : Option (Nat × Bool)} {x : Operand} {g off : Nat} {y : Ans}
    (hw : Region.wanted { dst := dst, op := .load 32 x, type := ty, pos := pos, after := after, guard := gd } (yielded ops a.tmps) = true)
    (hx : a.eval x = .pointer (some ⟨g, off, none⟩)) (hr : w.rangeAt g off (ansC y)) (h : wpList Try.prog ops Q rest (a.put dst (.agg (ansC y).toArray)) w) :
    wpList Try.prog ops Q ({ dst := dst, op := .load 32 x, type := ty, pos := pos, after := after, guard := gd } :: rest) a w :=
  rkA.wpList_load Try.underlying32 rfl rfl hw hx hr h
end
variable {G : World → Prop}
set_option maxHeartbeats 8000000
set_option maxRecDepth 100000
theorem KvmapApart_any (R : KvProg G) (w : World) (hG : G w) {h : Nat} {vs : List Int} (hr : RawIn h vs) {v : Value} {l : List Opn} (hI : rkO.In w.heap.size w v l) (hl : ∀ x ∈ l, x.In) (key : Int) (hkey : 0 ≤ key ∧ key < 256) :
    Calls Try.prog 7 #[.agg (kvA h vs), v, .int .u8 key] w fun e w' => e = .returned (.bool true) ∧ Keeps [] w w' := by
  obtain ⟨a, cp, rfl, hc, hm0, -⟩ := id hI
  have hk0 : Keeps [] w (w.alloc (.cells (kvA h vs) 25)) := (Keeps.refl _ _).alloc _
  have h0 := heap_alloc_new w (.cells (kvA h vs) 25)
  obtain ⟨C, hC⟩ : ∃ C, C = w.heap.size := ⟨_, rfl⟩
  have HH0 := Lib.hid h0
  rw [← hC] at h0
  have HR := Lib.hid R; have HG := Lib.hid hG; have HI := Lib.hid hI; have HLI := Lib.hid hl
  have HK0 := Lib.hid hk0; have H0 := Lib.hid h0; have HCE := Lib.hid hC
  obtain ⟨m, hm⟩ : ∃ m, m = kvOf h vs := ⟨_, rfl⟩
  have HMI := Lib.hid (show KvIn m from by rw [hm]; exact kvOf_in hr)
  have HWH := Lib.hid (fun w => show Calls Try.prog 11 #[.agg (kvA h vs)] w (fun e w' => e = .returned (kvVal m) ∧ Keeps [] w w') from by rw [hm]; exact whole11_any w hr)
  obtain ⟨kn, hkn⟩ : ∃ kn : Nat, kn = (key % 8).toNat := ⟨_, rfl⟩
  have hk8 : kn < 8 := by omega
  have tk : key.tmod 8 = kn := by rw [Int.tmod_eq_emod_of_nonneg hkey.1]; omega
  have HK8 := Lib.hid hk8
  clear R hG hI hk0 h0 hC hm hr hkn hk8 hkey
  by_cases hn : l.length ≤ 200
  · have HN := Lib.hid hn
    have t2 : ¬ (200 : Int) < l.length := by omega
    clear hn
    go_enter Try.func7, Try.ntmps7
    go_wp2_with ((with_reducible refine wpList_loadK (g := w.heap.size) (h := (h : Int)) (vs := vs) rfl ?_ HH0.out ?_); exact rfl)
    clear HH0
    rw [← HCE.out]
    generalize w.alloc (.cells (kvA h vs) 25) = W at *
    refine (HWH.out _).mono ?_; rintro e w1 ⟨rfl, hk1⟩
    have HB1 := Lib.hid (hk1.heap H0.out (by simp))
    have HK1 := Lib.hid (HK0.out.trans hk1 (FSub.refl _ _))
    clear hk1 H0 HK0
    unfold kvVal
    go_wp2_with ((with_reducible refine wpList_putK (g := C) (h := (kvH m : Int)) (vs := kvV m) ?_ ?_ HB1.out ?_); exact rfl; exact rfl)
    intro W2 hW2 hk2
    have HB2 := Lib.hid hW2
    have HK2 := Lib.hid (HK1.out.trans hk2 (fun q hq => .inr (by simp at hq; have := HCE.out; omega)))
    clear hW2 hk2 HB1 HK1
    obtain ⟨LA, hLA⟩ : ∃ LA, LA = stL ksX m l := ⟨_, rfl⟩
    obtain ⟨E, hE⟩ : ∃ E, E = stE ksX m l := ⟨_, rfl⟩
    obtain ⟨m2, hm2⟩ : ∃ m2, m2 = stS ksX m l := ⟨_, rfl⟩
    have HRU := Lib.hid (HR.out.run W2 m _ l (HR.out.keep HG.out HK2.out) HMI.out HLI.out ((HI.out.new HK2.out (Nat.le_refl _)).more HK2.out.size) (by have := HN.out; omega))
    have HM2 := Lib.hid (show KvIn m2 from by rw [hm2]; exact ksS_in m l HMI.out HLI.out)
    have HAL := Lib.hid (alone_eq HK8.out HMI.out HLI.out)
    have HAP := Lib.hid (And.intro (apart (k := kn) l m (kvOnly m kn) HMI.out.len (kvOnly_in HMI.out (by omega)).len HLI.out (by rw [only_get (by omega) HK8.out, if_pos rfl])) (apart (k := kn) l m m HMI.out.len HMI.out.len HLI.out rfl))
    have hlen := (stL_len ksX m l).1
    rw [← hLA, ← hE, ← hm2] at HRU
    rw [← hm2] at HAL
    rw [← hLA] at hlen
    have HLA := Lib.hid hlen
    have HLE := Lib.hid hLA
    have t3 : ¬ (l.length : Int) < LA.length := by omega
    clear hLA hE hm2 hlen
    go_wp2_with ((with_reducible refine wpList_loadK (g := C) (h := (kvH m : Int)) (vs := kvV m) rfl ?_ HB2.out ?_); exact rfl)
    refine (show Calls Try.prog 17 #[kvVal m, _] W2 _ from HRU.out).mono ?_
    rintro e w3 ⟨v3, rfl, hin3, hk3⟩
    obtain ⟨a3, c3, rfl, hc3, hm3, -⟩ := id hin3
    have HK3 := Lib.hid (HK2.out.trans hk3 (FSub.refl _ _))
    have HB3 := Lib.hid (hk3.heap HB2.out (by simp))
    have HIN3 := Lib.hid hin3
    clear hk3 hin3 HB2 HK2 HRU
    have HZ := Lib.hid (show (w3.alloc (.cells #[.int .u8 0, .int .u16 0, .int .u16 0, .int .u16 0, .int .u16 0, .int .u16 0, .int .u16 0, .int .u16 0, .int .u16 0] 25)).heap[w3.heap.size]? = some (.cells (kvA 0 []) 25 (0, 0)) from heap_alloc_new w3 (.cells (kvA 0 []) 25))
    have HKA := Lib.hid (show Keeps [] w3 (w3.alloc (.cells #[.int .u8 0, .int .u16 0, .int .u16 0, .int .u16 0, .int .u16 0, .int .u16 0, .int .u16 0, .int .u16 0, .int .u16 0] 25)) from (Keeps.refl _ _).alloc _)
    unfold kvVal
    go_wp2_with ((with_reducible refine wpList_putK (g := w3.heap.size) (h := (kvH m2 : Int)) (vs := kvV m2) ?_ ?_ HZ.out ?_); exact rfl; exact rfl)
    intro W4 hW4 hk4
    obtain ⟨D, hD⟩ : ∃ D, D = w3.heap.size := ⟨_, rfl⟩
    have hk34 : Keeps [] w3 W4 := HKA.out.trans hk4 (fun q hq => .inr (by simp at hq; omega))
    have HIN4 := Lib.hid ((HIN3.out.new hk34 (Nat.le_refl _)).more hk34.size)
    have HB4 := Lib.hid (hk34.heap HB3.out (by simp))
    have HK4 := Lib.hid (HK3.out.trans hk34 (FSub.refl _ _))
    rw [← hD] at hW4 ⊢
    have HW4 := Lib.hid hW4
    clear hW4 hk4 hk34 hD HZ HKA HIN3 HB3 HK3
    obtain ⟨B, hB⟩ : ∃ B, B = W4.heap.size := ⟨_, rfl⟩
    have HBE := Lib.hid hB
    clear hB
    go_wp2_with fail
    go_loopw [11, 12, 13] (fun z1 z2 i wr => ∃ k : Nat, i = .int .i64 k ∧ k ≤ LA.length ∧ rkO.Own B wr z1 ((((l.zip LA).take k).filter fun p => p.1.k == (kn : Int)).map Prod.fst) ∧ rkA.Own B wr z2 ((((l.zip LA).take k).filter fun p => p.1.k == (kn : Int)).map Prod.snd) ∧ (∀ q ∈ own z1, q ∉ own z2) ∧ Keeps [] W4 wr) (fun _ _ i _ => LA.length - (intOf i).toNat)
    case atStart => exact ⟨0, rfl, Nat.zero_le _, RK.Own.nil rkO _ _, RK.Own.nil rkA _ _, by simp [own, Value.ownBlock], Keeps.refl _ _⟩
    case round =>
      obtain ⟨k, rfl, hk, hz1, hz2, hap, hkr⟩ := hrel
      by_cases hlt : k < LA.length
      · have hkl : k < l.length := Nat.lt_of_lt_of_le hlt HLA.out
        obtain ⟨g, o, rfl, hg, hrg⟩ := In_at (((HI.out.new HK4.out (Nat.le_refl _)).more HK4.out.size).new hkr (Nat.le_refl _)) hkl
        obtain ⟨g2, o2, rfl, hg2, hrg2⟩ := InA_at (HIN4.out.new hkr (Nat.le_refl _)) hlt
        have HF := Lib.hid (show ((l.zip LA).take (k + 1)).filter (fun p => p.1.k == (kn : Int)) = ((l.zip LA).take k).filter (fun p => p.1.k == (kn : Int)) ++ (if l[k].k = kn then [(l[k], LA[k])] else []) from by
          have hLE := HLE.out
          subst hLE
          exact atKey_next hlt hkl)
        have HRG := Lib.hid hrg; have HRG2 := Lib.hid hrg2
        have m2' : wr.cell? ⟨g, o + k * 5 + 2, none⟩ = some (.int .u8 l[k].k) := hrg 2 _ rfl
        generalize l[k] = x at *
        generalize LA[k] = y at *
        have HFL := Lib.hid (show (((l.zip LA).take k).filter fun p => p.1.k == (kn : Int)).length ≤ 1000 from Nat.le_trans (List.length_filter_le _ _) (by rw [List.length_take, List.length_zip]; have := HN.out; omega))
        generalize (((l.zip LA).take k).filter fun p => p.1.k == (kn : Int)) = Q at *
        by_cases he : x.k = kn
        · have te : (x.k == (kn : Int)) = true := by simpa using he
          have hf := HF.out
          rw [if_pos he] at hf
          obtain ⟨v1, w6, hrun1, hrow1, hk6, hf6⟩ := rkO.append1 wr B (by have := HBE.out; have := hkr.size; omega) _ _ hz1 x (by rw [List.length_map]; have := HFL.out; omega)
          have hz26 := hz2.keeps hk6 (fun q hq hh => hap q hh hq)
          obtain ⟨v2, w7, hrun2, hrow2, hk7, hf7⟩ := rkA.append1 w6 B (by have := HBE.out; have := hkr.size; have := hk6.size; omega) _ _ hz26 y (by rw [List.length_map]; have := HFL.out; omega)
          have hnot1 : ∀ q ∈ own v1, q ∉ own _ := fun q hq hh => by
            rcases hf6 q hq with h1 | h1
            · exact hap q h1 hh
            · have := (row_base hz2 q hh).2; omega
          have HZ1 := Lib.hid (show rkO.Own B w7 v1 (Q.map Prod.fst ++ [x]) from hrow1.keeps hk7 hnot1)
          have HZ2 := Lib.hid (show rkA.Own B w7 v2 (Q.map Prod.snd ++ [y]) from hrow2)
          have HAPN := Lib.hid (show ∀ q ∈ own v1, q ∉ own v2 from fun q hq hh => by
            rcases hf7 q hh with h1 | h1
            · exact hnot1 q hq h1
            · have := (row_base hrow1 q hq).2; omega)
          have HRG26 := Lib.hid (show w6.rangeAt g2 (o2 + k * 2) (ansC y) from fun j u hj => hk6.cell (hrg2 j u hj) (fun hh => by have h9 : B ≤ g2 := (row_base hz1 _ hh).1; have := HBE.out; omega))
          have HK7 := Lib.hid ((hkr.trans hk6 (fun q hq => .inr (by have := (row_base hz1 q hq).1; have := HBE.out; omega))).trans hk7 (fun q hq => .inr (by have := (row_base hz26 q hq).1; have := HBE.out; omega)))
          obtain ⟨az1, cz1, rfl, -, -⟩ := hz1.shape
          obtain ⟨az2, cz2, rfl, -, -⟩ := hz2.shape
          obtain ⟨b1, d1, rfl, -, -⟩ := hrow1.shape
          obtain ⟨b2, d2, rfl, -, -⟩ := hrow2.shape
          have HRUN1 := Lib.hid (show (Builtin.append_ #[42, 42] 42 #[.slice az1 (Q.map Prod.fst).length cz1, .slice (some ⟨wr.heap.size, 0, none⟩) 1 1]).run Try.prog (wr.alloc (.cells (opC x).toArray 27)) = _ from hrun1)
          have HRUN2 := Lib.hid (show (Builtin.append_ #[43, 43] 43 #[.slice az2 (Q.map Prod.snd).length cz2, .slice (some ⟨w6.heap.size, 0, none⟩) 1 1]).run Try.prog (w6.alloc (.cells (ansC y).toArray 32)) = _ from hrun2)
          have HN9 := Lib.hid hf
          clear hz1 hz2 hap hkr hrg hrg2 hnot1 hk6 hk7 hz26 hf6 hf7 hrow1 hrow2 hf hrun1 hrun2
          obtain ⟨Q1, hQ1⟩ : ∃ Q1, Q1 = Q.map Prod.fst := ⟨_, rfl⟩
          obtain ⟨Q2, hQ2⟩ : ∃ Q2, Q2 = Q.map Prod.snd := ⟨_, rfl⟩
          have HQ1 := Lib.hid hQ1; have HQ2 := Lib.hid hQ2
          rw [← hQ1] at HZ1 HRUN1 HAPN ⊢
          rw [← hQ2] at HZ2 HRUN2 HAPN ⊢
          have HRUN1 := Lib.hid (show (Builtin.append_ #[42, 42] 42 #[.slice az1 Q1.length cz1, .slice (some ⟨wr.heap.size, 0, none⟩) 1 1]).run Try.prog (wr.alloc (.cells (opC x).toArray 27)) = .ok (.slice b1 (Q1.length + 1) d1) w6 from by have h := HRUN1.out; rw [List.length_append] at h; exact h)
          have HRUN2 := Lib.hid (show (Builtin.append_ #[43, 43] 43 #[.slice az2 Q2.length cz2, .slice (some ⟨w6.heap.size, 0, none⟩) 1 1]).run Try.prog (w6.alloc (.cells (ansC y).toArray 32)) = .ok (.slice b2 (Q2.length + 1) d2) w7 from by have h := HRUN2.out; rw [List.length_append] at h; exact h)
          have HZ1 := Lib.hid (show rkO.Own B w7 (.slice b1 (Q1.length + 1) d1) (Q1 ++ [x]) from by have h := HZ1.out; rw [List.length_append] at h; exact h)
          have HZ2 := Lib.hid (show rkA.Own B w7 (.slice b2 (Q2.length + 1) d2) (Q2 ++ [y]) from by have h := HZ2.out; rw [List.length_append] at h; exact h)
          have HAPN := Lib.hid (show ∀ q ∈ own (.slice b1 (Q1.length + 1) d1), q ∉ own (.slice b2 (Q2.length + 1) d2) from by have h := HAPN.out; rw [List.length_append, List.length_append] at h; exact h)
          clear hQ1 hQ2
          go_wp2_with (first
            | ((with_reducible refine wpList_loadO (g := g) (off := o + k * 5) (y := x) rfl ?_ HRG.out ?_); exact rfl)
            | ((with_reducible refine wpList_buildO11 (x := x) ?_ ?_); exact rfl)
            | ((with_reducible refine wpList_app (.slice az1 Q1.length cz1) (.slice (some ⟨wr.heap.size, 0, none⟩) 1 1) ?_ ?_ HRUN1.out ?_); exact rfl; exact rfl)
            | ((with_reducible refine wpList_loadA11 (g := g2) (off := o2 + k * 2) (y := y) rfl ?_ HRG26.out ?_); exact rfl)
            | ((with_reducible refine wpList_buildA11 (x := y) ?_ ?_); exact rfl)
            | ((with_reducible refine wpList_app (.slice az2 Q2.length cz2) (.slice (some ⟨w6.heap.size, 0, none⟩) 1 1) ?_ ?_ HRUN2.out ?_); exact rfl; exact rfl))
          rw [show decide (l.length < LA.length) = false from decide_eq_false (by omega)]
          go_roundw
          case rel => exact ⟨k + 1, by go_num, by omega, by rw [HN9.out, List.map_append, ← HQ1.out]; exact HZ1.out, by rw [HN9.out, List.map_append, ← HQ2.out]; exact HZ2.out, HAPN.out, HK7.out⟩
          case measure => simp [intOf]; omega
        · have te : (x.k == (kn : Int)) = false := by simpa using he
          have hf := HF.out
          rw [if_neg he, List.append_nil] at hf
          have HN9 := Lib.hid hf
          have HZ1 := Lib.hid hz1; have HZ2 := Lib.hid hz2; have HAPN := Lib.hid hap; have HK7 := Lib.hid hkr
          clear hz1 hz2 hap hkr hrg hrg2 hf
          go_wp2_with fail
          go_roundw
          case rel => exact ⟨k + 1, by go_num, by omega, by rw [HN9.out]; exact HZ1.out, by rw [HN9.out]; exact HZ2.out, HAPN.out, HK7.out⟩
          case measure => simp [intOf]; omega
      · obtain rfl : k = LA.length := by omega
        have hall : (((l.zip LA).take LA.length).filter fun p => p.1.k == (kn : Int)) = atKey kn m l := by
          have hLE := HLE.out
          subst hLE
          rw [List.take_of_length_le (by rw [List.length_zip]; exact Nat.min_le_right _ _)]
          rfl
        rw [hall] at hz1 hz2
        obtain ⟨MI, hMI⟩ : ∃ MI, MI = (atKey kn m l).map Prod.fst := ⟨_, rfl⟩
        obtain ⟨WA, hWA⟩ : ∃ WA, WA = (atKey kn m l).map Prod.snd := ⟨_, rfl⟩
        have HMN := Lib.hid (show ∀ x ∈ MI, x.In from by rw [hMI]; exact atKey_in HLI.out)
        have HML := Lib.hid (show MI.length ≤ 200 from by rw [hMI, List.length_map]; exact Nat.le_trans (atKey_len _ _ _) HN.out)
        have hal := HAL.out; have hap2 := HAP.out
        rw [← hMI] at hz1 hal hap2
        rw [← hWA] at hz2 hap2
        obtain ⟨mo, hmo⟩ : ∃ mo, mo = kvOnly m2 (kn : Int) := ⟨_, rfl⟩
        obtain ⟨mb, hmb⟩ : ∃ mb, mb = stS ksX m MI := ⟨_, rfl⟩
        have hA1 := hal.1
        have hA2 := hal.2
        rw [hA1, ← hmo, ← hmb] at hA2
        rw [← hmo] at hA1
        have HA1 := Lib.hid hA1; have HA2 := Lib.hid hA2
        have HP1 := Lib.hid hap2.1.1; have HP2 := Lib.hid hap2.1.2.1
        have HP3 := Lib.hid hap2.2.1; have HP4 := Lib.hid hap2.2.2.1
        have HMO := Lib.hid (show KvIn mo from by rw [hmo]; exact kvOnly_in HM2.out (by omega))
        have HMB := Lib.hid (show KvIn mb from by rw [hmb]; exact ksS_in m MI HMI.out HMN.out)
        have HMOE := Lib.hid hmo; have HMBE := Lib.hid hmb
        have HKN := Lib.hid (show (0 : Int) ≤ (kn : Int) ∧ (kn : Int) < 256 from by have := HK8.out; omega)
        have HIM := Lib.hid hz1.in_; have HIW := Lib.hid hz2.in_
        obtain ⟨a1, c1, rfl, -, -⟩ := hz1.shape
        obtain ⟨a2, c2, rfl, -, -⟩ := hz2.shape
        have HBR := Lib.hid (hkr.heap HB4.out (by simp)); have HDR := Lib.hid (hkr.heap HW4.out (by simp))
        have HKR := Lib.hid (HK4.out.trans hkr (FSub.refl _ _))
        clear hall hz1 hz2 hap hkr hal hap2 hA1 hA2 hmo hmb hMI hWA HB4 HW4 HK4 HAL HAP
        go_wp2_with ((with_reducible refine wpList_loadK (g := C) (h := (kvH m : Int)) (vs := kvV m) rfl ?_ HBR.out ?_); exact rfl)
        refine (show Calls Try.prog 23 #[kvVal m, _] wr _ from HR.out.only wr m kn (HR.out.keep HG.out HKR.out) HMI.out HKN.out).mono ?_
        rintro e w6 ⟨rfl, hk6⟩
        have HB6 := Lib.hid (hk6.heap HBR.out (by simp)); have HD6 := Lib.hid (hk6.heap HDR.out (by simp))
        have HIM6 := Lib.hid ((HIM.out.new hk6 (Nat.le_refl _)).more hk6.size); have HIW6 := Lib.hid ((HIW.out.new hk6 (Nat.le_refl _)).more hk6.size)
        have HK6 := Lib.hid (HKR.out.trans hk6 (FSub.refl _ _))
        clear hk6 HBR HDR HIM HIW HKR
        go_wp2_with fail
        refine (HR.out.run w6 (kvOnly m kn) _ MI (HR.out.keep HG.out HK6.out) (kvOnly_in HMI.out (by omega)) HMN.out HIM6.out (by have := HML.out; omega)).mono ?_
        rintro e w7 ⟨v7, rfl, hin7, hk7⟩
        rw [HA1.out, HP1.out]
        rw [HP2.out] at hin7
        obtain ⟨a7, c7, rfl, -, -, -⟩ := id hin7
        have HB7 := Lib.hid (hk7.heap HB6.out (by simp)); have HD7 := Lib.hid (hk7.heap HD6.out (by simp))
        have HIM7 := Lib.hid ((HIM6.out.new hk7 (Nat.le_refl _)).more hk7.size); have HIW7 := Lib.hid ((HIW6.out.new hk7 (Nat.le_refl _)).more hk7.size)
        have HIA7 := Lib.hid hin7
        have HK7 := Lib.hid (HK6.out.trans hk7 (FSub.refl _ _))
        clear hk7 hin7 HB6 HD6 HIM6 HIW6 HK6
        have HZ := Lib.hid (show (w7.alloc (.cells #[.int .u8 0, .int .u16 0, .int .u16 0, .int .u16 0, .int .u16 0, .int .u16 0, .int .u16 0, .int .u16 0, .int .u16 0] 25)).heap[w7.heap.size]? = some (.cells (kvA 0 []) 25 (0, 0)) from heap_alloc_new w7 (.cells (kvA 0 []) 25))
        have HKA := Lib.hid (show Keeps [] w7 (w7.alloc (.cells #[.int .u8 0, .int .u16 0, .int .u16 0, .int .u16 0, .int .u16 0, .int .u16 0, .int .u16 0, .int .u16 0, .int .u16 0] 25)) from (Keeps.refl _ _).alloc _)
        unfold kvVal
        go_wp2_with ((with_reducible refine wpList_putK (g := w7.heap.size) (h := (kvH mo : Int)) (vs := kvV mo) ?_ ?_ HZ.out ?_); exact rfl; exact rfl)
        intro W8 hW hkW
        obtain ⟨F, hD⟩ : ∃ F, F = w7.heap.size := ⟨_, rfl⟩
        have hkw : Keeps [] w7 W8 := HKA.out.trans hkW (fun q hq => .inr (by simp at hq; omega))
        rw [← hD] at hW ⊢
        have HB8 := Lib.hid (hkw.heap HB7.out (by simp)); have HD8 := Lib.hid (hkw.heap HD7.out (by simp)); have HF8 := Lib.hid hW
        have HIM8 := Lib.hid ((HIM7.out.new hkw (Nat.le_refl _)).more hkw.size); have HIW8 := Lib.hid ((HIW7.out.new hkw (Nat.le_refl _)).more hkw.size)
        have HIA8 := Lib.hid ((HIA7.out.new hkw (Nat.le_refl _)).more hkw.size)
        have HK8' := Lib.hid (HK7.out.trans hkw (FSub.refl _ _))
        clear hW hkW hkw hD HZ HKA HB7 HD7 HIM7 HIW7 HIA7 HK7
        go_wp2_with ((with_reducible refine wpList_loadK (g := C) (h := (kvH m : Int)) (vs := kvV m) rfl ?_ HB8.out ?_); exact rfl)
        refine (show Calls Try.prog 17 #[kvVal m, _] W8 _ from HR.out.run W8 m _ MI (HR.out.keep HG.out HK8'.out) HMI.out HMN.out HIM8.out (by have := HML.out; omega)).mono ?_
        rintro e w9 ⟨v9, rfl, hin9, hk9⟩
        rw [← HMBE.out, HP3.out]
        rw [HP4.out] at hin9
        obtain ⟨a9, c9, rfl, -, -, -⟩ := id hin9
        have HD9 := Lib.hid (hk9.heap HD8.out (by simp)); have HF9 := Lib.hid (hk9.heap HF8.out (by simp))
        have HIW9 := Lib.hid ((HIW8.out.new hk9 (Nat.le_refl _)).more hk9.size); have HIA9 := Lib.hid ((HIA8.out.new hk9 (Nat.le_refl _)).more hk9.size)
        have HIB9 := Lib.hid hin9
        have HK9 := Lib.hid (HK8'.out.trans hk9 (FSub.refl _ _))
        clear hk9 hin9 HB8 HD8 HF8 HIM8 HIW8 HIA8 HK8'
        have HZ := Lib.hid (show (w9.alloc (.cells #[.int .u8 0, .int .u16 0, .int .u16 0, .int .u16 0, .int .u16 0, .int .u16 0, .int .u16 0, .int .u16 0, .int .u16 0] 25)).heap[w9.heap.size]? = some (.cells (kvA 0 []) 25 (0, 0)) from heap_alloc_new w9 (.cells (kvA 0 []) 25))
        have HKA := Lib.hid (show Keeps [] w9 (w9.alloc (.cells #[.int .u8 0, .int .u16 0, .int .u16 0, .int .u16 0, .int .u16 0, .int .u16 0, .int .u16 0, .int .u16 0, .int .u16 0] 25)) from (Keeps.refl _ _).alloc _)
        unfold kvVal
        go_wp2_with ((with_reducible refine wpList_putK (g := w9.heap.size) (h := (kvH mb : Int)) (vs := kvV mb) ?_ ?_ HZ.out ?_); exact rfl; exact rfl)
        intro W10 hW hkW
        obtain ⟨H, hD⟩ : ∃ H, H = w9.heap.size := ⟨_, rfl⟩
        have hkw : Keeps [] w9 W10 := HKA.out.trans hkW (fun q hq => .inr (by simp at hq; omega))
        rw [← hD] at hW ⊢
        have HD10 := Lib.hid (hkw.heap HD9.out (by simp)); have HF10 := Lib.hid (hkw.heap HF9.out (by simp)); have HH10 := Lib.hid hW
        have HIW10 := Lib.hid ((HIW9.out.new hkw (Nat.le_refl _)).more hkw.size); have HIA10 := Lib.hid ((HIA9.out.new hkw (Nat.le_refl _)).more hkw.size)
        have HIB10 := Lib.hid ((HIB9.out.new hkw (Nat.le_refl _)).more hkw.size)
        have HKW := Lib.hid (HK9.out.trans hkw (FSub.refl _ _))
        clear hW hkW hkw hD HZ HKA HD9 HF9 HIW9 HIA9 HIB9 HK9
        obtain ⟨S, hS⟩ : ∃ S : World → Prop, S = fun y => Keeps [] W10 y := ⟨_, rfl⟩
        have HSE := Lib.hid hS
        have hSD : S W10.drew := by rw [hS]; exact (Keeps.refl _ _).drew
        have HSD := Lib.hid (fun (w' : World) (hh : S w') => show ∃ t, w'.heap[D]? = some (.cells (kvA (kvH m2) (kvV m2)) t (0, 0)) from by rw [hS] at hh; exact ⟨_, hh.heap HD10.out (by simp)⟩)
        have HSF := Lib.hid (fun (w' : World) (hh : S w') => show ∃ t, w'.heap[F]? = some (.cells (kvA (kvH mo) (kvV mo)) t (0, 0)) from by rw [hS] at hh; exact ⟨_, hh.heap HF10.out (by simp)⟩)
        have HSH := Lib.hid (fun (w' : World) (hh : S w') => show ∃ t, w'.heap[H]? = some (.cells (kvA (kvH mb) (kvV mb)) t (0, 0)) from by rw [hS] at hh; exact ⟨_, hh.heap HH10.out (by simp)⟩)
        have HS0 := Lib.hid (show Keeps [] W10 W10.drew from (Keeps.refl _ _).drew)
        clear hS
        go_wp2_with fail
        refine wp_region_noPanic ?_
        refine wp_region_held_drew (S := S) (by kernel_rfl) hSD (fun hHeld => ?_)
        apply wpAnyH_take (i := 0)
        · simp only [List.getElem?_toArray]; rfl
        · kernel_rfl
        · kernel_rfl
        · kernel_rfl
        · exact fun _ _ _ h => h
        · exact Or.inl ⟨by rfl, by intro w hSw; go_simp; try with_reducible rfl⟩
        · assumption
        try simp only [Act.put, List.setIfInBounds_toArray, List.set_cons_zero, List.set_cons_succ]
        apply wpAnyH_take (i := 1)
        · simp only [List.getElem?_toArray]; rfl
        · kernel_rfl
        · kernel_rfl
        · kernel_rfl
        · exact fun _ _ _ h => h
        · exact Or.inl ⟨by rfl, by intro w hSw; go_simp; try with_reducible rfl⟩
        · assumption
        try simp only [Act.put, List.setIfInBounds_toArray, List.set_cons_zero, List.set_cons_succ]
        apply wpAnyH_take (i := 2)
        · simp only [List.getElem?_toArray]; rfl
        · kernel_rfl
        · kernel_rfl
        · kernel_rfl
        · exact fun _ _ _ h => h
        · exact Or.inl ⟨by rfl, by intro w hSw; go_simp; try with_reducible rfl⟩
        · assumption
        try simp only [Act.put, List.setIfInBounds_toArray, List.set_cons_zero, List.set_cons_succ]
        apply wpAnyH_take (i := 3)
        · simp only [List.getElem?_toArray]; rfl
        · kernel_rfl
        · kernel_rfl
        · kernel_rfl
        · exact fun _ _ _ h => h
        · exact Or.inl ⟨by rfl, by intro w hSw; go_simp; try with_reducible rfl⟩
        · assumption
        try simp only [Act.put, List.setIfInBounds_toArray, List.set_cons_zero, List.set_cons_succ]
        apply wpAnyH_take (i := 4)
        · simp only [List.getElem?_toArray]; rfl
        · kernel_rfl
        · kernel_rfl
        · kernel_rfl
        · exact fun _ _ _ h => h
        · exact Or.inl ⟨by rfl, by intro w hSw; go_simp; try with_reducible rfl⟩
        · assumption
        try simp only [Act.put, List.setIfInBounds_toArray, List.set_cons_zero, List.set_cons_succ]
        apply wpAnyH_take (i := 5)
        · simp only [List.getElem?_toArray]; rfl
        · kernel_rfl
        · kernel_rfl
        · kernel_rfl
        · exact fun _ _ _ h => h
        · exact Or.inl ⟨by rfl, by intro w hSw; go_simp; try with_reducible rfl⟩
        · assumption
        try simp only [Act.put, List.setIfInBounds_toArray, List.set_cons_zero, List.set_cons_succ]
        apply wpAnyH_take (i := 6)
        · simp only [List.getElem?_toArray]; rfl
        · kernel_rfl
        · kernel_rfl
        · kernel_rfl
        · exact fun _ _ _ h => h
        · exact Or.inl ⟨by rfl, by intro w hSw; go_simp; try with_reducible rfl⟩
        · assumption
        try simp only [Act.put, List.setIfInBounds_toArray, List.set_cons_zero, List.set_cons_succ]
        apply wpAnyH_take (i := 7)
        · simp only [List.getElem?_toArray]; rfl
        · kernel_rfl
        · kernel_rfl
        · kernel_rfl
        · exact fun _ _ _ h => h
        · exact Or.inl ⟨by rfl, by intro w hSw; go_simp; try with_reducible rfl⟩
        · assumption
        try simp only [Act.put, List.setIfInBounds_toArray, List.set_cons_zero, List.set_cons_succ]
        apply wpAnyH_take (i := 8)
        · simp only [List.getElem?_toArray]; rfl
        · kernel_rfl
        · kernel_rfl
        · kernel_rfl
        · exact fun _ _ _ h => h
        · exact Or.inl ⟨by rfl, by intro w hSw; go_simp; try with_reducible rfl⟩
        · assumption
        try simp only [Act.put, List.setIfInBounds_toArray, List.set_cons_zero, List.set_cons_succ]
        apply wpAnyH_ready (rs := [9])
        · kernel_rfl
        · simp
        apply AllReadyH.cons (hs := AllReadyH.nil)
        · simp only [List.getElem?_toArray]; rfl
        intro K hK
        rw [if_pos (by rfl)]
        refine wp_call9 28 _ _ rfl [.slice a7 WA.length c7, .slice a2 WA.length c2] rfl Try.func28 (by kernel_rfl) (by kernel_rfl) ((same11_any _ (HIA10.out.new HS0.out (Nat.le_refl _)) (HIW10.out.new HS0.out (Nat.le_refl _)) HS0.out.size HS0.out.size).mono ?_)
        rintro e X1 ⟨rfl, hk⟩
        refine ⟨_, rfl, ?_⟩
        have HS1 := Lib.hid (HS0.out.trans hk (FSub.refl _ _))
        clear hk HS0
        refine hK.out _ _ ?_ (fun hHeld => ?_)
        · exact (by rw [HSE.out]; exact HS1.out)
        clear hK K
        try simp only [Act.put, List.setIfInBounds_toArray, List.set_cons_zero, List.set_cons_succ]
        apply wpAnyH_take (i := 10)
        · simp only [List.getElem?_toArray]; rfl
        · kernel_rfl
        · kernel_rfl
        · kernel_rfl
        · exact fun _ _ _ h => h
        · exact Or.inl ⟨by rfl, by intro w hSw; go_simp; try with_reducible rfl⟩
        · assumption
        try simp only [Act.put, List.setIfInBounds_toArray, List.set_cons_zero, List.set_cons_succ]
        apply wpAnyH_take (i := 11)
        · simp only [List.getElem?_toArray]; rfl
        · kernel_rfl
        · kernel_rfl
        · kernel_rfl
        · exact fun _ _ _ h => h
        · exact Or.inl ⟨by rfl, by intro w hSw; go_simp; try with_reducible rfl⟩
        · assumption
        try simp only [Act.put, List.setIfInBounds_toArray, List.set_cons_zero, List.set_cons_succ]
        apply wpAnyH_take (i := 12)
        · simp only [List.getElem?_toArray]; rfl
        · kernel_rfl
        · kernel_rfl
        · kernel_rfl
        · exact fun _ _ _ h => h
        · exact Or.inl ⟨by rfl, by intro w hSw; go_simp; try with_reducible rfl⟩
        · assumption
        try simp only [Act.put, List.setIfInBounds_toArray, List.set_cons_zero, List.set_cons_succ]
        apply wpAnyH_take (i := 13)
        · simp only [List.getElem?_toArray]; rfl
        · kernel_rfl
        · kernel_rfl
        · kernel_rfl
        · exact fun _ _ _ h => h
        · exact Or.inl ⟨by rfl, by intro w hSw; go_simp; try with_reducible rfl⟩
        · assumption
        try simp only [Act.put, List.setIfInBounds_toArray, List.set_cons_zero, List.set_cons_succ]
        apply wpAnyH_ready (rs := [14])
        · kernel_rfl
        · simp
        apply AllReadyH.cons (hs := AllReadyH.nil)
        · simp only [List.getElem?_toArray]; rfl
        intro K hK
        rw [if_pos (by rfl)]
        refine wp_call9 28 _ _ rfl [.slice a9 WA.length c9, .slice a2 WA.length c2] rfl Try.func28 (by kernel_rfl) (by kernel_rfl) ((same11_any _ (HIB10.out.new HS1.out (Nat.le_refl _)) (HIW10.out.new HS1.out (Nat.le_refl _)) HS1.out.size HS1.out.size).mono ?_)
        rintro e X2 ⟨rfl, hk⟩
        refine ⟨_, rfl, ?_⟩
        have HS2 := Lib.hid (HS1.out.trans hk (FSub.refl _ _))
        clear hk HS1
        refine hK.out _ _ ?_ (fun hHeld => ?_)
        · exact (by rw [HSE.out]; exact HS2.out)
        clear hK K
        try simp only [Act.put, List.setIfInBounds_toArray, List.set_cons_zero, List.set_cons_succ]
        apply wpAnyH_take (i := 15)
        · simp only [List.getElem?_toArray]; rfl
        · kernel_rfl
        · kernel_rfl
        · kernel_rfl
        · exact fun _ _ _ h => h
        · exact Or.inl ⟨by rfl, by intro w hSw; go_simp; try with_reducible rfl⟩
        · assumption
        try simp only [Act.put, List.setIfInBounds_toArray, List.set_cons_zero, List.set_cons_succ]
        apply wpAnyH_take (i := 16)
        · simp only [List.getElem?_toArray]; rfl
        · kernel_rfl
        · kernel_rfl
        · kernel_rfl
        · exact fun _ _ _ h => h
        · exact Or.inl ⟨by rfl, by intro w hSw; go_simp; try with_reducible rfl⟩
        · assumption
        try simp only [Act.put, List.setIfInBounds_toArray, List.set_cons_zero, List.set_cons_succ]
        apply wpAnyH_take (i := 17)
        · simp only [List.getElem?_toArray]; rfl
        · kernel_rfl
        · kernel_rfl
        · kernel_rfl
        · exact fun _ _ _ h => h
        · exact yields_loadK (by rfl) (.tmp 14) rfl F rfl (kvH mo) (kvV mo) HSF.out
        · assumption
        try simp only [Act.put, List.setIfInBounds_toArray, List.set_cons_zero, List.set_cons_succ]
        apply wpAnyH_take (i := 18)
        · simp only [List.getElem?_toArray]; rfl
        · kernel_rfl
        · kernel_rfl
        · kernel_rfl
        · exact fun _ _ _ h => h
        · exact yields_loadK (by rfl) (.tmp 7) rfl D rfl (kvH m2) (kvV m2) HSD.out
        · assumption
        try simp only [Act.put, List.setIfInBounds_toArray, List.set_cons_zero, List.set_cons_succ]
        apply wpAnyH_take (i := 19)
        · simp only [List.getElem?_toArray]; rfl
        · kernel_rfl
        · kernel_rfl
        · kernel_rfl
        · exact fun _ _ _ h => h
        · exact Or.inl ⟨by rfl, by intro w hSw; go_simp; try with_reducible rfl⟩
        · assumption
        try simp only [Act.put, List.setIfInBounds_toArray, List.set_cons_zero, List.set_cons_succ]
        apply wpAnyH_ready (rs := [20])
        · kernel_rfl
        · simp
        apply AllReadyH.cons (hs := AllReadyH.nil)
        · simp only [List.getElem?_toArray]; rfl
        intro K hK
        rw [if_pos (by rfl)]
        refine wp_call9 23 _ _ rfl [kvVal m2, .int .u8 (kn : Int)] rfl Try.func23 (by kernel_rfl) (by kernel_rfl) ((HR.out.only _ m2 kn (HR.out.keep HG.out (HKW.out.trans HS2.out (FSub.refl _ _))) HM2.out HKN.out).mono ?_)
        rintro e X3 ⟨rfl, hk⟩
        refine ⟨_, rfl, ?_⟩
        rw [← HMOE.out]
        have HS3 := Lib.hid (HS2.out.trans hk (FSub.refl _ _))
        clear hk HS2
        refine hK.out _ _ ?_ (fun hHeld => ?_)
        · exact (by rw [HSE.out]; exact HS3.out)
        clear hK K
        try simp only [Act.put, List.setIfInBounds_toArray, List.set_cons_zero, List.set_cons_succ]
        apply wpAnyH_take (i := 21)
        · simp only [List.getElem?_toArray]; rfl
        · kernel_rfl
        · kernel_rfl
        · kernel_rfl
        · exact fun _ _ _ h => h
        · exact yields_eqK (by rfl) (.tmp 100) (.tmp 103) _ rfl (h := (kvH mo : Int)) (h2 := (kvH mo : Int)) (vs := kvV mo) (us := kvV mo) rfl rfl
        · assumption
        try simp only [Act.put, List.setIfInBounds_toArray, List.set_cons_zero, List.set_cons_succ]
        rw [kvEq_same]
        apply wpAnyH_take (i := 22)
        · simp only [List.getElem?_toArray]; rfl
        · kernel_rfl
        · kernel_rfl
        · kernel_rfl
        · exact fun _ _ _ h => h
        · exact Or.inl ⟨by rfl, by intro w hSw; go_simp; try with_reducible rfl⟩
        · assumption
        try simp only [Act.put, List.setIfInBounds_toArray, List.set_cons_zero, List.set_cons_succ]
        apply wpAnyH_take (i := 23)
        · simp only [List.getElem?_toArray]; rfl
        · kernel_rfl
        · kernel_rfl
        · kernel_rfl
        · exact fun _ _ _ h => h
        · exact Or.inl ⟨by rfl, by intro w hSw; go_simp; try with_reducible rfl⟩
        · assumption
        try simp only [Act.put, List.setIfInBounds_toArray, List.set_cons_zero, List.set_cons_succ]
        apply wpAnyH_take (i := 24)
        · simp only [List.getElem?_toArray]; rfl
        · kernel_rfl
        · kernel_rfl
        · kernel_rfl
        · exact fun _ _ _ h => h
        · exact yields_loadK (by rfl) (.tmp 17) rfl H rfl (kvH mb) (kvV mb) HSH.out
        · assumption
        try simp only [Act.put, List.setIfInBounds_toArray, List.set_cons_zero, List.set_cons_succ]
        apply wpAnyH_take (i := 25)
        · simp only [List.getElem?_toArray]; rfl
        · kernel_rfl
        · kernel_rfl
        · kernel_rfl
        · exact fun _ _ _ h => h
        · exact Or.inl ⟨by rfl, by intro w hSw; go_simp; try with_reducible rfl⟩
        · assumption
        try simp only [Act.put, List.setIfInBounds_toArray, List.set_cons_zero, List.set_cons_succ]
        apply wpAnyH_take (i := 27)
        · simp only [List.getElem?_toArray]; rfl
        · kernel_rfl
        · kernel_rfl
        · kernel_rfl
        · exact fun _ _ _ h => h
        · exact yields_loadK (by rfl) (.tmp 14) rfl F rfl (kvH mo) (kvV mo) HSF.out
        · assumption
        try simp only [Act.put, List.setIfInBounds_toArray, List.set_cons_zero, List.set_cons_succ]
        apply wpAnyH_ready (rs := [26])
        · kernel_rfl
        · simp
        apply AllReadyH.cons (hs := AllReadyH.nil)
        · simp only [List.getElem?_toArray]; rfl
        intro K hK
        rw [if_pos (by rfl)]
        refine wp_call9 23 _ _ rfl [kvVal mb, .int .u8 (kn : Int)] rfl Try.func23 (by kernel_rfl) (by kernel_rfl) ((HR.out.only _ mb kn (HR.out.keep HG.out (HKW.out.trans HS3.out (FSub.refl _ _))) HMB.out HKN.out).mono ?_)
        rintro e X4 ⟨rfl, hk⟩
        refine ⟨_, rfl, ?_⟩
        rw [HA2.out]
        have HS4 := Lib.hid (HS3.out.trans hk (FSub.refl _ _))
        clear hk HS3
        refine hK.out _ _ ?_ (fun hHeld => ?_)
        · exact (by rw [HSE.out]; exact HS4.out)
        clear hK K
        try simp only [Act.put, List.setIfInBounds_toArray, List.set_cons_zero, List.set_cons_succ]
        apply wpAnyH_take (i := 28)
        · simp only [List.getElem?_toArray]; rfl
        · kernel_rfl
        · kernel_rfl
        · kernel_rfl
        · exact fun _ _ _ h => h
        · exact yields_eqK (by rfl) (.tmp 109) (.tmp 110) _ rfl (h := (kvH mo : Int)) (h2 := (kvH mo : Int)) (vs := kvV mo) (us := kvV mo) rfl rfl
        · assumption
        try simp only [Act.put, List.setIfInBounds_toArray, List.set_cons_zero, List.set_cons_succ]
        rw [kvEq_same]
        apply wpAnyH_take (i := 29)
        · simp only [List.getElem?_toArray]; rfl
        · kernel_rfl
        · kernel_rfl
        · kernel_rfl
        · exact fun _ _ _ h => h
        · exact Or.inl ⟨by rfl, by intro w hSw; go_simp; try with_reducible rfl⟩
        · assumption
        try simp only [Act.put, List.setIfInBounds_toArray, List.set_cons_zero, List.set_cons_succ]
        apply wpAnyH_take (i := 30)
        · simp only [List.getElem?_toArray]; rfl
        · kernel_rfl
        · kernel_rfl
        · kernel_rfl
        · exact fun _ _ _ h => h
        · exact Or.inl ⟨by rfl, by intro w hSw; go_simp; try with_reducible rfl⟩
        · assumption
        try simp only [Act.put, List.setIfInBounds_toArray, List.set_cons_zero, List.set_cons_succ]
        apply wpAnyH_ready (rs := [31])
        · kernel_rfl
        · simp
        apply AllReadyH.cons (hs := AllReadyH.nil)
        · simp only [List.getElem?_toArray]; rfl
        intro K hK
        rw [if_pos (by rfl)]
        refine wp_call9 16 _ _ rfl [] rfl Try.func16 (by kernel_rfl) (by kernel_rfl) ((awake11_any HR.out _ (HR.out.keep HG.out (HKW.out.trans HS4.out (FSub.refl _ _)))).mono ?_)
        rintro e X5 ⟨rfl, hk⟩
        refine ⟨_, rfl, ?_⟩
        have HS5 := Lib.hid (HS4.out.trans hk (FSub.refl _ _))
        clear hk HS4
        refine hK.out _ _ ?_ (fun hHeld => ?_)
        · exact (by rw [HSE.out]; exact HS5.out)
        clear hK K
        try simp only [Act.put, List.setIfInBounds_toArray, List.set_cons_zero, List.set_cons_succ]
        apply wpAnyH_take (i := 32)
        · simp only [List.getElem?_toArray]; rfl
        · kernel_rfl
        · kernel_rfl
        · kernel_rfl
        · exact fun _ _ _ h => h
        · exact Or.inl ⟨by rfl, by intro w hSw; go_simp; try with_reducible rfl⟩
        · assumption
        try simp only [Act.put, List.setIfInBounds_toArray, List.set_cons_zero, List.set_cons_succ]
        apply wpAnyH_take (i := 33)
        · simp only [List.getElem?_toArray]; rfl
        · kernel_rfl
        · kernel_rfl
        · kernel_rfl
        · exact fun _ _ _ h => h
        · exact Or.inl ⟨by rfl, by intro w hSw; go_simp; try with_reducible rfl⟩
        · assumption
        try simp only [Act.put, List.setIfInBounds_toArray, List.set_cons_zero, List.set_cons_succ]
        refine wpAnyH_done (by kernel_rfl) ?_ _
        refine NoPanic.normal ?_
        go_wp2_with fail
        go_ret
        exact ⟨rfl, HKW.out.trans HS5.out (FSub.refl _ _)⟩
  · generalize l.length = n at *
    have t2 : (200 : Int) < n := by omega
    go_enter Try.func7, Try.ntmps7
    go_wp2_with fail
    refine (awake11_any HR.out _ (HR.out.keep HG.out HK0.out)).mono ?_; rintro e w4 ⟨rfl, hk4⟩
    have HK4 := Lib.hid (HK0.out.trans hk4 (FSub.refl _ _))
    clear hk4
    go_wp2_with fail
    go_ret
    exact ⟨rfl, HK4.out⟩
end Go.Proofs.Ytnmpekbkahkapaa
/-
  KvmapLast: two arrays in memory, what a step does by its ways.
-/
namespace Go.Proofs.Ytnmpekbkahkapaa
open Go.RowKit
section
variable {w : World} {b : Nat} {m : Kv} {vs : List Int} {t : TypeId}
end
/-- What was put last. -/
structure LaOk (m : Kv) (vs : List Int) : Prop where
  len : vs.length = 8
  mlen : m.length = 8
  last : ∀ j v, m.getD j none = some v → vs.getD j 0 = v
theorem LaOk.first : LaOk kv0 [0, 0, 0, 0, 0, 0, 0, 0] := ⟨rfl, rfl, fun j v h => by
  have e : kv0.getD j none = none := by
    unfold kv0
    rw [List.getD_eq_getElem?_getD, List.getElem?_replicate]
    split <;> rfl
  rw [e] at h; cases h⟩
theorem LaOk.put {m : Kv} {vs : List Int} (h : LaOk m vs) {n : Nat} (hn : n < 8) (v : Int) : LaOk (m.set n (some v)) (vs.set n v) := by
  refine ⟨by simp [h.len], by simp [h.mlen], fun j u hj => ?_⟩
  rw [get_set (by rw [h.mlen]; exact hn)] at hj
  rw [List.getD_eq_getElem?_getD, List.getElem?_set]
  by_cases e : n = j
  · rw [if_pos e] at hj
    obtain rfl := Option.some.inj hj
    rw [if_pos e, if_pos (by rw [h.len]; exact hn)]
    rfl
  · rw [if_neg e] at hj
    rw [if_neg e, ← List.getD_eq_getElem?_getD]
    exact h.last j u hj
theorem LaOk.del {m : Kv} {vs : List Int} (h : LaOk m vs) {n : Nat} (hn : n < 8) : LaOk (m.set n none) vs := by
  refine ⟨h.len, by simp [h.mlen], fun j u hj => ?_⟩
  rw [get_set (by rw [h.mlen]; exact hn)] at hj
  by_cases e : n = j
  · rw [if_pos e] at hj; cases hj
  · rw [if_neg e] at hj
    exact h.last j u hj
section
variable {m : Kv} {x : Opn} {n : Nat}
end
section
variable {ops : Array Oper} {rest : List Oper} {a : Act} {w : World} {Q : Exit → Act → World → Prop}
end
end Go.Proofs.Ytnmpekbkahkapaa
/-
  The program's key map: the four steps.
-/
namespace Go.Proofs.Ytnmpekbkahkapaa
open Go.RowKit
theorem results_kv2 {fn : Func} {p u : Tmp} (h : fn.results = #[.cell p 25, .cell u 32]) (tmps : Array Value) (w : World) (b c : Nat) {z : Int} {vs : List Int} (y : Ans) {t t2 : TypeId}
    (hp : tmps.getD p undef = .pointer (some ⟨b, 0, none⟩)) (hb : w.heap[b]? = some (.cells (kvA z vs) t (0, 0))) (hu : tmps.getD u undef = .pointer (some ⟨c, 0, none⟩)) (hc : w.heap[c]? = some (.cells (ansC y).toArray t2 (0, 0))) :
    (results fn tmps).run Try.prog w = .ok (.tuple #[.agg (kvA z vs), .agg (ansC y).toArray]) w := by
  have h1 : (loadVar 25 ⟨b, 0, none⟩).run Try.prog w = .ok (.agg (kvA z vs)) w := run_loadVar_row w b t 25 _ _ _ hb Try.underlying25 rfl (by kernel_rfl)
  have h2 : (loadVar 32 ⟨c, 0, none⟩).run Try.prog w = .ok (.agg (ansC y).toArray) w := run_loadVar_row w c t2 32 _ _ _ hc Try.underlying32 rfl (by kernel_rfl)
  have hp' : tmps[p]?.getD undef = .pointer (some ⟨b, 0, none⟩) := by simpa using hp
  have hu' : tmps[u]?.getD undef = .pointer (some ⟨c, 0, none⟩) := by simpa using hu
  simp only [results, h]
  simp [Sem.run_bind, Result.andThen, hp', hu', asAddr, h1, h2]
theorem results_kv3 {fn : Func} {p u x : Tmp} (h : fn.results = #[.cell p 25, .cell u 32, .tmp x]) (tmps : Array Value) (w : World) (b c : Nat) {z : Int} {vs : List Int} (y : Ans) {t t2 : TypeId}
    (hp : tmps.getD p undef = .pointer (some ⟨b, 0, none⟩)) (hb : w.heap[b]? = some (.cells (kvA z vs) t (0, 0))) (hu : tmps.getD u undef = .pointer (some ⟨c, 0, none⟩)) (hc : w.heap[c]? = some (.cells (ansC y).toArray t2 (0, 0))) :
    (results fn tmps).run Try.prog w = .ok (.tuple #[.agg (kvA z vs), .agg (ansC y).toArray, tmps.getD x undef]) w := by
  have h1 : (loadVar 25 ⟨b, 0, none⟩).run Try.prog w = .ok (.agg (kvA z vs)) w := run_loadVar_row w b t 25 _ _ _ hb Try.underlying25 rfl (by kernel_rfl)
  have h2 : (loadVar 32 ⟨c, 0, none⟩).run Try.prog w = .ok (.agg (ansC y).toArray) w := run_loadVar_row w c t2 32 _ _ _ hc Try.underlying32 rfl (by kernel_rfl)
  have hp' : tmps[p]?.getD undef = .pointer (some ⟨b, 0, none⟩) := by simpa using hp
  have hu' : tmps[u]?.getD undef = .pointer (some ⟨c, 0, none⟩) := by simpa using hu
  simp only [results, h]
  simp [Sem.run_bind, Result.andThen, hp', hu', asAddr, h1, h2]
/-- The world behind a step's variables. -/
theorem vars_k (w : World) (h : Int) (vs : List Int) (A : Array Value) (W : World) (hW : W = (((w.alloc (.cells (kvA h vs) 25)).alloc (.cells A 27)).alloc (.cells (kvA 0 []) 25)).alloc (.cells (ansC ⟨0, 0⟩).toArray 32)) :
    Keeps [] w W ∧ W.heap[w.heap.size]? = some (.cells (kvA h vs) 25 (0, 0)) ∧ W.heap[w.heap.size + 1]? = some (.cells A 27 (0, 0)) ∧ W.heap[w.heap.size + 2]? = some (.cells (kvA 0 []) 25 (0, 0)) ∧ W.heap[w.heap.size + 3]? = some (.cells (ansC ⟨0, 0⟩).toArray 32 (0, 0)) ∧ W.heap.size = w.heap.size + 4 := by
  have e1 : (w.alloc (.cells (kvA h vs) 25)).heap.size = w.heap.size + 1 := Array.size_push _
  have e2 : ((w.alloc (.cells (kvA h vs) 25)).alloc (.cells A 27)).heap.size = w.heap.size + 2 := by
    rw [show ((w.alloc (.cells (kvA h vs) 25)).alloc (.cells A 27)).heap.size = (w.alloc (.cells (kvA h vs) 25)).heap.size + 1 from Array.size_push _, e1]
  have e3 : (((w.alloc (.cells (kvA h vs) 25)).alloc (.cells A 27)).alloc (.cells (kvA 0 []) 25)).heap.size = w.heap.size + 3 := by
    rw [show (((w.alloc (.cells (kvA h vs) 25)).alloc (.cells A 27)).alloc (.cells (kvA 0 []) 25)).heap.size = ((w.alloc (.cells (kvA h vs) 25)).alloc (.cells A 27)).heap.size + 1 from Array.size_push _, e2]
  subst hW
  refine ⟨((((Keeps.refl _ _).alloc _).alloc _).alloc _).alloc _, ?_, ?_, ?_, ?_, ?_⟩
  · exact ((((Keeps.refl [] (w.alloc (.cells (kvA h vs) 25))).alloc _).alloc _).alloc _).heap (heap_alloc_new w _) (by simp)
  · have h := heap_alloc_new (w.alloc (.cells (kvA h vs) 25)) (.cells A 27)
    rw [e1] at h
    exact (((Keeps.refl [] _).alloc _).alloc _).heap h (by simp)
  · have h := heap_alloc_new ((w.alloc (.cells (kvA h vs) 25)).alloc (.cells A 27)) (.cells (kvA 0 []) 25)
    rw [e2] at h
    exact ((Keeps.refl [] _).alloc _).heap h (by simp)
  · have h := heap_alloc_new (((w.alloc (.cells (kvA h vs) 25)).alloc (.cells A 27)).alloc (.cells (kvA 0 []) 25)) (.cells (ansC ⟨0, 0⟩).toArray 32)
    rw [e3] at h
    exact h
  · rw [show ((((w.alloc (.cells (kvA h vs) 25)).alloc (.cells A 27)).alloc (.cells (kvA 0 []) 25)).alloc (.cells (ansC ⟨0, 0⟩).toArray 32)).heap.size = (((w.alloc (.cells (kvA h vs) 25)).alloc (.cells A 27)).alloc (.cells (kvA 0 []) 25)).heap.size + 1 from Array.size_push _, e3]
theorem kvHas_kv (w : World) {m : Kv} (hm : KvIn m) {key : Int} (h0 : 0 ≤ key) : Calls Try.prog 30 #[.agg (kvA (kvH m) (kvV m)), .int .u8 key] w fun e w' => e = .returned (.bool (m.getD key.toNat none).isSome) ∧ Keeps [] w w' := by
  refine (kvHas_any w hm.small (kvV m) h0).mono ?_
  rintro e w' ⟨rfl, hk⟩
  refine ⟨?_, hk⟩
  have hb := kvH_bit m key.toNat
  cases ho : (m.getD key.toNat none).isSome with
  | true => rw [ho] at hb; rw [decide_eq_true (by simpa using hb)]
  | false => rw [ho] at hb; rw [decide_eq_false (by simp at hb; omega)]
/-- What a step tells. -/
def KsPost (w : World) (m : Kv) (r : Ans) (e : Ending) (w' : World) : Prop := e = .returned (.tuple #[kvVal m, .agg (ansC r).toArray]) ∧ Keeps [] w w'
set_option maxHeartbeats 8000000
set_option maxRecDepth 100000
section
variable {ops : Array Oper} {rest : List Oper} {o : Oper} {a : Act} {w : World} {K : Act → World → Prop} {Q : Exit → Act → World → Prop}
theorem wp_loadKh {x : Operand} (ho : o.op = .load 5 x) {g : Nat} {h : Int} {vs : List Int} {t : TypeId} (hx : a.eval x = .pointer (some ⟨g, 0, none⟩)) (hg : w.heap[g]? = some (.cells (kvA h vs) t (0, 0)))
    (hK : K (a.put o.dst (.int .u8 h)) w) : o.wp Try.prog a w K Q := by
  have hrun : (loadVar 5 ⟨g, 0, none⟩).run Try.prog w = .ok (.int .u8 h) w := by simp [loadVar, run_underlying Try.underlying5, kv_byte hg]
  unfold Oper.wp execOp
  simp only [ho, hx, Instr.loadAt, Instr.sureAddr, Sem.run_bind, Sem.run_pure, Result.andThen_ok, hrun]
  exact hK
theorem wpList_loadKh {dst : Option Tmp} {ty : TypeId} {pos : String} {after : Array Edge} {x : Operand} {g : Nat} {h : Int} {vs : List Int} {t : TypeId}
    (hx : a.eval x = .pointer (some ⟨g, 0, none⟩)) (hg : w.heap[g]? = some (.cells (kvA h vs) t (0, 0))) (hK : wpList Try.prog ops Q rest (a.put dst (.int .u8 h)) w) :
    wpList Try.prog ops Q ({ dst := dst, op := .load 5 x, type := ty, pos := pos, after := after, guard := none } :: rest) a w :=
  wpList_plain rfl fun _ hk => wp_loadKh rfl hx hg (hk _ _ hK)
theorem wp_putKh {x y : Operand} (ho : o.op = .store 5 x y) {g : Nat} {h h2 : Int} {vs : List Int} {t : TypeId}
    (hx : a.eval x = .pointer (some ⟨g, 0, none⟩)) (hy : a.eval y = .int .u8 h2) (hg : w.heap[g]? = some (.cells (kvA h vs) t (0, 0)))
    (hK : ∀ W, W.heap[g]? = some (.cells (kvA h2 vs) t (0, 0)) → Keeps [g] w W → K (a.put o.dst undef) W) : o.wp Try.prog a w K Q :=
  wp_put1 ho hx hy (by kernel_rfl) rfl (by rw [kv_byte hg]; rfl) (kv_thaw hg 0) (hK _ (kv_puth hg) ((Keeps.refl [g] w).setCell _ _ (.inl (by simp))))
theorem wpList_putKh {dst : Option Tmp} {ty : TypeId} {pos : String} {after : Array Edge} {x y : Operand} {g : Nat} {h h2 : Int} {vs : List Int} {t : TypeId}
    (hx : a.eval x = .pointer (some ⟨g, 0, none⟩)) (hy : a.eval y = .int .u8 h2) (hg : w.heap[g]? = some (.cells (kvA h vs) t (0, 0)))
    (hK : ∀ W, W.heap[g]? = some (.cells (kvA h2 vs) t (0, 0)) → Keeps [g] w W → wpList Try.prog ops Q rest (a.put dst undef) W) :
    wpList Try.prog ops Q ({ dst := dst, op := .store 5 x y, type := ty, pos := pos, after := after, guard := none } :: rest) a w :=
  wpList_plain rfl fun _ hk => wp_putKh rfl hx hy hg fun W h3 h4 => hk _ _ (hK W h3 h4)
theorem wp_putKv {x y : Operand} (ho : o.op = .store 22 x y) {g k : Nat} {h v : Int} {vs : List Int} {t : TypeId} (hl : vs.length = 8) (hk : k < 8)
    (hx : a.eval x = .pointer (some ⟨g, 1 + k, none⟩)) (hy : a.eval y = .int .u16 v) (hg : w.heap[g]? = some (.cells (kvA h vs) t (0, 0)))
    (hK : ∀ W, W.heap[g]? = some (.cells (kvA h (vs.set k v)) t (0, 0)) → Keeps [g] w W → K (a.put o.dst undef) W) : o.wp Try.prog a w K Q :=
  wp_put1 ho hx hy (by kernel_rfl) rfl (by rw [kv_cell hg hk]; rfl) (kv_thaw hg (1 + k)) (hK _ (kv_put hg hl hk v) ((Keeps.refl [g] w).setCell _ _ (.inl (by simp))))
theorem wpList_putKv {dst : Option Tmp} {ty : TypeId} {pos : String} {after : Array Edge} {x y : Operand} {g k : Nat} {h v : Int} {vs : List Int} {t : TypeId} (hl : vs.length = 8) (hk : k < 8)
    (hx : a.eval x = .pointer (some ⟨g, 1 + k, none⟩)) (hy : a.eval y = .int .u16 v) (hg : w.heap[g]? = some (.cells (kvA h vs) t (0, 0)))
    (hK : ∀ W, W.heap[g]? = some (.cells (kvA h (vs.set k v)) t (0, 0)) → Keeps [g] w W → wpList Try.prog ops Q rest (a.put dst undef) W) :
    wpList Try.prog ops Q ({ dst := dst, op := .store 22 x y, type := ty, pos := pos, after := after, guard := none } :: rest) a w :=
  wpList_plain rfl fun _ hj => wp_putKv rfl hl hk hx hy hg fun W h3 h4 => hj _ _ (hK W h3 h4)
theorem wpList_shl8 {dst : Option Tmp} {ty T : TypeId} {pos : String} {after : Array Edge} {x y : Operand} {k v : Int} (hx : a.eval x = .int .u8 1) (hy : a.eval y = .int .u8 k)
    (hr : ∀ w, (Op.shift BinOp.shl IntKind.u8 1 IntKind.u8 k).run Try.prog w = .ok (.int .u8 v) w) (h : wpList Try.prog ops Q rest (a.put dst (.int .u8 v)) w) :
    wpList Try.prog ops Q ({ dst := dst, op := .binOp .shl 5 x y T, type := ty, pos := pos, after := after, guard := none } :: rest) a w :=
  wpList_plain rfl fun _ hk => by
    unfold Oper.wp execOp
    have e := hr w
    simp only [hx, hy, Sem.run_bind]
    simp [go_sem, e, Result.andThen]
    exact hk _ _ h
theorem wpList_or8 {dst : Option Tmp} {ty T : TypeId} {pos : String} {after : Array Edge} {x y : Operand} {A B v : Int} (hx : a.eval x = .int .u8 A) (hy : a.eval y = .int .u8 B)
    (hr : bits .or .u8 A B = v) (h : wpList Try.prog ops Q rest (a.put dst (.int .u8 v)) w) :
    wpList Try.prog ops Q ({ dst := dst, op := .binOp .or 5 x y T, type := ty, pos := pos, after := after, guard := none } :: rest) a w :=
  wpList_plain rfl fun _ hk => by
    unfold Oper.wp execOp
    simp only [hx, hy, Sem.run_bind]
    simp [go_sem, hr, Result.andThen]
    exact hk _ _ h
theorem wpList_not8 {dst : Option Tmp} {ty T : TypeId} {pos : String} {after : Array Edge} {x y : Operand} {A B v : Int} (hx : a.eval x = .int .u8 A) (hy : a.eval y = .int .u8 B)
    (hr : bits .andNot .u8 A B = v) (h : wpList Try.prog ops Q rest (a.put dst (.int .u8 v)) w) :
    wpList Try.prog ops Q ({ dst := dst, op := .binOp .andNot 5 x y T, type := ty, pos := pos, after := after, guard := none } :: rest) a w :=
  wpList_plain rfl fun _ hk => by
    unfold Oper.wp execOp
    simp only [hx, hy, Sem.run_bind]
    simp [go_sem, hr, Result.andThen]
    exact hk _ _ h
end
theorem kvGet_none (w : World) {m : Kv} (hm : KvIn m) (f o a b : Int) {kn : Nat} (hk8 : kn < 8) (ho : m.getD kn none = none) :
    Calls Try.prog 53 #[.agg (kvA (kvH m) (kvV m)), .agg #[.int .u8 f, .int .u8 o, .int .u8 (kn : Int), .int .u16 a, .int .u16 b]] w (KsPost w m ⟨2, 0⟩) := by
  obtain ⟨W, hW⟩ : ∃ W, W = (((w.alloc (.cells (kvA (kvH m) (kvV m)) 25)).alloc (.cells #[.int .u8 f, .int .u8 o, .int .u8 (kn : Int), .int .u16 a, .int .u16 b] 27)).alloc (.cells (kvA 0 []) 25)).alloc (.cells (ansC ⟨0, 0⟩).toArray 32) := ⟨_, rfl⟩
  obtain ⟨hk0, h0, h1, h2, h3, hz⟩ := vars_k w _ _ _ W hW
  simp only [show (ansC ⟨0, 0⟩).toArray = #[Value.int .u8 0, .int .u16 0] from rfl, show kvA 0 [] = #[Value.int .u8 0, .int .u16 0, .int .u16 0, .int .u16 0, .int .u16 0, .int .u16 0, .int .u16 0, .int .u16 0, .int .u16 0] from rfl] at hW
  have h0' := h0
  rw [hW] at h0'
  have HL0 := Lib.hid h0'
  obtain ⟨R, hR⟩ : ∃ R, R = w.heap.size := ⟨_, rfl⟩
  rw [← hR] at h0 h1 h2 h3 hz
  have HWW := Lib.hid hW; have HRE := Lib.hid hR; have HK0 := Lib.hid hk0
  have HZ := Lib.hid hz; have HO := Lib.hid ho
  have HHAS := Lib.hid (fun w => kvHas_kv w hm (key := (kn : Int)) (Int.natCast_nonneg _))
  clear h0' hW hR hk0 hz
  go_enter Try.func53, Try.ntmps53
  go_wp2_with ((with_reducible refine wpList_loadK (g := w.heap.size) rfl ?_ HL0.out ?_); exact rfl)
  refine (HHAS.out _).mono ?_; rintro e w1 ⟨rfl, hk1⟩
  rw [← HWW.out] at hk1
  rw [← HRE.out, Int.toNat_natCast, HO.out]
  simp only [Option.isSome_none, Option.isSome_some]
  have HB0 := Lib.hid (hk1.heap h0 (by simp)); have HB2 := Lib.hid (hk1.heap h2 (by simp)); have HB3 := Lib.hid (hk1.heap h3 (by simp))
  have hb1 := hk1.heap h1 (by simp)
  have c2 : w1.cell? ⟨R + 1, 2, none⟩ = some (.int .u8 (kn : Int)) := cell_lit hb1 2 rfl
  have c3 : w1.cell? ⟨R + 1, 3, none⟩ = some (.int .u16 a) := cell_lit hb1 3 rfl
  have c4 : w1.cell? ⟨R + 1, 4, none⟩ = some (.int .u16 b) := cell_lit hb1 4 rfl
  have HK1 := Lib.hid (HK0.out.trans hk1 (FSub.refl _ _))
  clear h0 h1 h2 h3 hb1 hk1 HL0 HK0 HHAS
  go_wp2_with (first
    | ((with_reducible refine wpList_loadK (g := R) rfl ?_ HB0.out ?_); exact rfl)
    | ((with_reducible refine wpList_putK (g := R + 2) (h := kvH m) (vs := kvV m) ?_ ?_ HB2.out ?_); exact rfl; exact rfl))
  intro W2 hW2 hk2
  have HW2 := Lib.hid hW2
  have HA2 := Lib.hid (hk2.heap HB3.out (by simp))
  have HK2 := Lib.hid (HK1.out.trans hk2 (fun q hq => .inr (by have := HRE.out; simp at hq; omega)))
  clear hW2 hk2
  go_wp2_with ((with_reducible refine wpList_putN (g := R + 3) (old := ⟨0, 0⟩) ⟨2, 0⟩ ?_ ?_ HA2.out ?_); exact rfl; exact rfl)
  intro W3 hW3 hk3
  have HW3 := Lib.hid hW3
  have HS3 := Lib.hid (hk3.heap HW2.out (by simp))
  have HK3 := Lib.hid (HK2.out.trans hk3 (fun q hq => .inr (by have := HRE.out; simp at hq; omega)))
  clear hW3 hk3
  go_wp2_with fail
  try simp only [Exit.inBlock, Exit.then]
  exact bodyPost_ret (results_kv2 rfl _ _ (R + 2) (R + 3) ⟨2, 0⟩ rfl HS3.out rfl HW3.out) rfl ⟨rfl, HK3.out⟩
theorem kvGet_some (w : World) {m : Kv} (hm : KvIn m) (f o a b : Int) {kn : Nat} (hk8 : kn < 8) {v : Int} (ho : m.getD kn none = some v) :
    Calls Try.prog 53 #[.agg (kvA (kvH m) (kvV m)), .agg #[.int .u8 f, .int .u8 o, .int .u8 (kn : Int), .int .u16 a, .int .u16 b]] w (KsPost w m ⟨1, v⟩) := by
  have hcv : (kvV m).getD kn 0 = v := by rw [kvV_getD (by rw [hm.len]; exact hk8), ho]; rfl
  have HCV := Lib.hid hcv
  clear hcv
  obtain ⟨W, hW⟩ : ∃ W, W = (((w.alloc (.cells (kvA (kvH m) (kvV m)) 25)).alloc (.cells #[.int .u8 f, .int .u8 o, .int .u8 (kn : Int), .int .u16 a, .int .u16 b] 27)).alloc (.cells (kvA 0 []) 25)).alloc (.cells (ansC ⟨0, 0⟩).toArray 32) := ⟨_, rfl⟩
  obtain ⟨hk0, h0, h1, h2, h3, hz⟩ := vars_k w _ _ _ W hW
  simp only [show (ansC ⟨0, 0⟩).toArray = #[Value.int .u8 0, .int .u16 0] from rfl, show kvA 0 [] = #[Value.int .u8 0, .int .u16 0, .int .u16 0, .int .u16 0, .int .u16 0, .int .u16 0, .int .u16 0, .int .u16 0, .int .u16 0] from rfl] at hW
  have h0' := h0
  rw [hW] at h0'
  have HL0 := Lib.hid h0'
  obtain ⟨R, hR⟩ : ∃ R, R = w.heap.size := ⟨_, rfl⟩
  rw [← hR] at h0 h1 h2 h3 hz
  have HWW := Lib.hid hW; have HRE := Lib.hid hR; have HK0 := Lib.hid hk0
  have HZ := Lib.hid hz; have HO := Lib.hid ho
  have HHAS := Lib.hid (fun w => kvHas_kv w hm (key := (kn : Int)) (Int.natCast_nonneg _))
  clear h0' hW hR hk0 hz
  go_enter Try.func53, Try.ntmps53
  go_wp2_with ((with_reducible refine wpList_loadK (g := w.heap.size) rfl ?_ HL0.out ?_); exact rfl)
  refine (HHAS.out _).mono ?_; rintro e w1 ⟨rfl, hk1⟩
  rw [← HWW.out] at hk1
  rw [← HRE.out, Int.toNat_natCast, HO.out]
  simp only [Option.isSome_none, Option.isSome_some]
  have HB0 := Lib.hid (hk1.heap h0 (by simp)); have HB2 := Lib.hid (hk1.heap h2 (by simp)); have HB3 := Lib.hid (hk1.heap h3 (by simp))
  have hb1 := hk1.heap h1 (by simp)
  have c2 : w1.cell? ⟨R + 1, 2, none⟩ = some (.int .u8 (kn : Int)) := cell_lit hb1 2 rfl
  have c3 : w1.cell? ⟨R + 1, 3, none⟩ = some (.int .u16 a) := cell_lit hb1 3 rfl
  have c4 : w1.cell? ⟨R + 1, 4, none⟩ = some (.int .u16 b) := cell_lit hb1 4 rfl
  have HK1 := Lib.hid (HK0.out.trans hk1 (FSub.refl _ _))
  clear h0 h1 h2 h3 hb1 hk1 HL0 HK0 HHAS
  have c0 := kv_cell HB0.out hk8
  rw [HCV.out] at c0
  obtain ⟨S, hS⟩ : ∃ S : World → Prop, S = fun y => Keeps [R + 2, R + 3] w1 y := ⟨_, rfl⟩
  have HSE := Lib.hid hS
  have hSD : S w1.drew := by rw [hS]; exact (Keeps.refl _ _).drew
  have HS0 := Lib.hid (fun (w' : World) (hh : S w') => show ∃ t, w'.heap[R]? = some (.cells (kvA (kvH m) (kvV m)) t (0, 0)) from by rw [hS] at hh; exact ⟨_, hh.heap HB0.out (by simp)⟩)
  have HSK := Lib.hid (fun (w' : World) (hh : S w') => show w'.cell? ⟨R + 1, 2, none⟩ = some (.int .u8 (kn : Int)) from by rw [hS] at hh; exact hh.cell c2 (by simp))
  have HSV := Lib.hid (fun (w' : World) (hh : S w') => show w'.cell? ⟨R, 1 + kn, none⟩ = some (.int .u16 v) from by rw [hS] at hh; exact hh.cell c0 (by simp))
  have HLT := Lib.hid (fun (w' : World) (_ : S w') => show (kn : Int) < 8 from by omega)
  clear hS c0 c2 c3 c4
  go_wp2_with fail
  refine wp_region_noPanic ?_
  refine wp_region_held_drew (S := S) (by kernel_rfl) hSD (fun hHeld => ?_)
  apply wpAnyH_take (i := 0)
  · simp only [List.getElem?_toArray]; rfl
  · kernel_rfl
  · kernel_rfl
  · kernel_rfl
  · exact fun _ _ _ h => h
  · exact yields_loadK (by rfl) _ rfl R rfl _ _ HS0.out
  · assumption
  try simp only [Act.put, List.setIfInBounds_toArray, List.set_cons_zero, List.set_cons_succ]
  apply wpAnyH_take (i := 1)
  · simp only [List.getElem?_toArray]; rfl
  · kernel_rfl
  · kernel_rfl
  · kernel_rfl
  · exact fun _ _ _ h => h
  · exact Or.inl ⟨by rfl, by intro w hSw; go_simp; try with_reducible rfl⟩
  · assumption
  try simp only [Act.put, List.setIfInBounds_toArray, List.set_cons_zero, List.set_cons_succ]
  apply wpAnyH_take (i := 2)
  · simp only [List.getElem?_toArray]; rfl
  · kernel_rfl
  · kernel_rfl
  · kernel_rfl
  · exact fun _ _ _ h => h
  · exact Or.inl ⟨by rfl, by intro w hSw; have q0 := HSK.out w hSw; go_simp; try with_reducible rfl⟩
  · assumption
  try simp only [Act.put, List.setIfInBounds_toArray, List.set_cons_zero, List.set_cons_succ]
  apply wpAnyH_take (i := 3)
  · simp only [List.getElem?_toArray]; rfl
  · kernel_rfl
  · kernel_rfl
  · kernel_rfl
  · exact fun _ _ _ h => h
  · exact Or.inl ⟨by rfl, by intro w hSw; go_simp; try with_reducible rfl⟩
  · assumption
  try simp only [Act.put, List.setIfInBounds_toArray, List.set_cons_zero, List.set_cons_succ]
  apply wpAnyH_take (i := 4)
  · simp only [List.getElem?_toArray]; rfl
  · kernel_rfl
  · kernel_rfl
  · kernel_rfl
  · exact fun _ _ _ h => h
  · exact Or.inl ⟨by rfl, by intro w hSw; have q0 := HLT.out w hSw; go_simp; try with_reducible rfl⟩
  · assumption
  try simp only [Act.put, List.setIfInBounds_toArray, List.set_cons_zero, List.set_cons_succ]
  apply wpAnyH_take (i := 5)
  · simp only [List.getElem?_toArray]; rfl
  · kernel_rfl
  · kernel_rfl
  · kernel_rfl
  · exact fun _ _ _ h => h
  · exact Or.inl ⟨by rfl, by intro w hSw; have q0 := HSV.out w hSw; go_simp; try with_reducible rfl⟩
  · assumption
  try simp only [Act.put, List.setIfInBounds_toArray, List.set_cons_zero, List.set_cons_succ]
  apply wpAnyH_take (i := 6)
  · simp only [List.getElem?_toArray]; rfl
  · kernel_rfl
  · kernel_rfl
  · kernel_rfl
  · exact fun _ _ _ h => h
  · exact Or.inl ⟨by rfl, by intro w hSw; go_simp; try with_reducible rfl⟩
  · assumption
  try simp only [Act.put, List.setIfInBounds_toArray, List.set_cons_zero, List.set_cons_succ]
  apply wpAnyH_ready (rs := [7])
  · kernel_rfl
  · simp
  apply AllReadyH.cons (hs := AllReadyH.nil)
  · simp only [List.getElem?_toArray]; rfl
  intro K hK
  rw [if_pos (by rfl)]
  refine wp_putK rfl (g := R + 2) (h := kvH m) (vs := kvV m) rfl rfl (HB2.out) (fun W2 hW2 hk2 => ?_)
  have HW2 := Lib.hid hW2
  have HA2 := Lib.hid (hk2.heap HB3.out (by simp))
  have HK2 := Lib.hid (show Keeps [R + 2, R + 3] w1 W2 from (((Keeps.refl [R + 2, R + 3] w1).drew).step hk2 (by simp)))
  clear hW2 hk2
  refine hK.out _ _ ?_ (fun hHeld => ?_)
  · exact (by rw [HSE.out]; exact HK2.out)
  clear hK K
  try simp only [Act.put, List.setIfInBounds_toArray, List.set_cons_zero, List.set_cons_succ]
  apply wpAnyH_ready (rs := [8])
  · kernel_rfl
  · simp
  apply AllReadyH.cons (hs := AllReadyH.nil)
  · simp only [List.getElem?_toArray]; rfl
  intro K hK
  rw [if_pos (by rfl)]
  refine wp_putN rfl (g := R + 3) (old := ⟨0, 0⟩) ⟨1, v⟩ rfl rfl HA2.out (fun W3 hW3 hk3 => ?_)
  have HW3 := Lib.hid hW3
  have HS3 := Lib.hid (hk3.heap HW2.out (by simp))
  have HK3 := Lib.hid (HK2.out.step hk3 (by simp))
  clear hW3 hk3
  refine hK.out _ _ ?_ (fun hHeld => ?_)
  · exact (by rw [HSE.out]; exact HK3.out)
  clear hK K
  try simp only [Act.put, List.setIfInBounds_toArray, List.set_cons_zero, List.set_cons_succ]
  refine wpAnyH_done (by kernel_rfl) ?_ _
  refine NoPanic.normal ?_
  go_wp2_with fail
  try simp only [Exit.inBlock, Exit.then]
  exact bodyPost_ret (results_kv2 rfl _ _ (R + 2) (R + 3) ⟨1, v⟩ rfl HS3.out rfl HW3.out) rfl ⟨rfl, HK1.out.trans HK3.out (fun q hq => .inr (by have := HRE.out; simp at hq; omega))⟩
theorem kvPut_all (w : World) {m : Kv} (hm : KvIn m) (f o a b : Int) {kn : Nat} (hk8 : kn < 8) :
    Calls Try.prog 54 #[.agg (kvA (kvH m) (kvV m)), .agg #[.int .u8 f, .int .u8 o, .int .u8 (kn : Int), .int .u16 a, .int .u16 b]] w (KsPost w (m.set kn (some a)) ⟨0, 0⟩) := by
  have ho : kvV (m.set kn (some a)) = (kvV m).set kn a := kvV_set m kn (some a)
  have HSH := Lib.hid (shl8 hk8)
  have hor := kvH_put hm.len hk8 a
  obtain ⟨H2, hH2⟩ : ∃ H2, H2 = kvH (m.set kn (some a)) := ⟨_, rfl⟩
  rw [← hH2] at hor
  have HOR := Lib.hid hor; have HH2 := Lib.hid hH2
  have hvl : (kvV m).length = 8 := by rw [kvV_len, hm.len]
  have HVL := Lib.hid hvl; have HK8 := Lib.hid hk8
  obtain ⟨W, hW⟩ : ∃ W, W = (((w.alloc (.cells (kvA (kvH m) (kvV m)) 25)).alloc (.cells #[.int .u8 f, .int .u8 o, .int .u8 (kn : Int), .int .u16 a, .int .u16 b] 27)).alloc (.cells (kvA 0 []) 25)).alloc (.cells (ansC ⟨0, 0⟩).toArray 32) := ⟨_, rfl⟩
  obtain ⟨hk0, h0, h1, h2, h3, hz⟩ := vars_k w _ _ _ W hW
  simp only [show (ansC ⟨0, 0⟩).toArray = #[Value.int .u8 0, .int .u16 0] from rfl, show kvA 0 [] = #[Value.int .u8 0, .int .u16 0, .int .u16 0, .int .u16 0, .int .u16 0, .int .u16 0, .int .u16 0, .int .u16 0, .int .u16 0] from rfl] at hW
  have h0' := h0
  rw [hW] at h0'
  have HL0 := Lib.hid h0'
  obtain ⟨R, hR⟩ : ∃ R, R = w.heap.size := ⟨_, rfl⟩
  rw [← hR] at h0 h1 h2 h3 hz
  have HWW := Lib.hid hW; have HRE := Lib.hid hR; have HK0 := Lib.hid hk0
  have HZ := Lib.hid hz; have HO := Lib.hid ho
  have HHAS := Lib.hid (fun w => kvHas_kv w hm (key := (kn : Int)) (Int.natCast_nonneg _))
  clear h0' hW hR hk0 hz
  clear HHAS hvl hk8 hm ho hor hH2
  generalize 2 ^ kn = q at *
  go_enter Try.func54, Try.ntmps54
  go_wp2_with (first
    | ((with_reducible refine wpList_loadKh (g := w.heap.size) ?_ HL0.out ?_); exact rfl)
    | ((with_reducible refine wpList_shl8 (v := (q : Int)) ?_ ?_ HSH.out ?_); exact rfl; exact rfl)
    | ((with_reducible refine wpList_or8 (v := (H2 : Int)) ?_ ?_ HOR.out ?_); exact rfl; exact rfl)
    | ((with_reducible refine wpList_putKh (g := w.heap.size) (h2 := (H2 : Int)) ?_ ?_ HL0.out ?_); exact rfl; exact rfl))
  intro w1 hb0 hk1
  rw [← HWW.out, ← HRE.out] at hk1
  rw [← HRE.out] at hb0
  rw [← HRE.out]
  have HB0 := Lib.hid hb0
  have hb1 := hk1.heap h1 (by simp)
  have c2 : w1.cell? ⟨R + 1, 2, none⟩ = some (.int .u8 (kn : Int)) := cell_lit hb1 2 rfl
  have c3 : w1.cell? ⟨R + 1, 3, none⟩ = some (.int .u16 a) := cell_lit hb1 3 rfl
  have HB2 := Lib.hid (hk1.heap h2 (by simp)); have HB3 := Lib.hid (hk1.heap h3 (by simp))
  have HK1 := Lib.hid (HK0.out.trans hk1 (fun q hq => .inr (by have := HRE.out; simp at hq; omega)))
  have hlt : (kn : Int) < 8 := by have := HK8.out; omega
  clear hb0 hk1 h0 h1 h2 h3 HK0 HL0 hb1
  go_wp2_with ((with_reducible refine wpList_putKv (g := R) (k := kn) (v := a) HVL.out HK8.out ?_ ?_ HB0.out ?_); exact rfl; exact rfl)
  intro w2 hb0 hk2
  have hb2 := hk2.heap HB2.out (by simp)
  have hb3 := hk2.heap HB3.out (by simp)
  have hkn := HK1.out.trans hk2 (fun q hq => .inr (by have := HRE.out; simp at hq; omega))
  clear HB0 HB2 HB3 HK1 c2 c3 hk2
  rw [← HO.out] at hb0
  have HB0 := Lib.hid hb0; have HB2 := Lib.hid hb2; have HB3 := Lib.hid hb3; have HK1 := Lib.hid hkn
  clear hb0 hb2 hb3 hkn
  go_wp2_with (first
    | ((with_reducible refine wpList_loadK (g := R) rfl ?_ HB0.out ?_); exact rfl)
    | ((with_reducible refine wpList_putK (g := R + 2) (h := (H2 : Int)) (vs := (kvV (m.set kn (some a)))) ?_ ?_ HB2.out ?_); exact rfl; exact rfl))
  intro W2 hW2 hk2
  have HW2 := Lib.hid hW2
  have HA2 := Lib.hid (hk2.heap HB3.out (by simp))
  have HK2 := Lib.hid (HK1.out.trans hk2 (fun q hq => .inr (by have := HRE.out; simp at hq; omega)))
  clear hW2 hk2
  go_wp2_with ((with_reducible refine wpList_putN (g := R + 3) (old := ⟨0, 0⟩) ⟨0, 0⟩ ?_ ?_ HA2.out ?_); exact rfl; exact rfl)
  intro W3 hW3 hk3
  have HW3 := Lib.hid hW3
  have HS3 := Lib.hid (hk3.heap HW2.out (by simp))
  have HK3 := Lib.hid (HK2.out.trans hk3 (fun q hq => .inr (by have := HRE.out; simp at hq; omega)))
  clear hW3 hk3
  go_wp2_with fail
  try simp only [Exit.inBlock, Exit.then]
  exact bodyPost_ret (results_kv2 rfl _ _ (R + 2) (R + 3) ⟨0, 0⟩ rfl HS3.out rfl HW3.out) rfl ⟨(by unfold kvVal; rw [← HH2.out]), HK3.out⟩
theorem kvDel_none (w : World) {m : Kv} (hm : KvIn m) (f o a b : Int) {kn : Nat} (hk8 : kn < 8) (ho : m.getD kn none = none) :
    Calls Try.prog 55 #[.agg (kvA (kvH m) (kvV m)), .agg #[.int .u8 f, .int .u8 o, .int .u8 (kn : Int), .int .u16 a, .int .u16 b]] w (KsPost w m ⟨4, 0⟩) := by
  obtain ⟨W, hW⟩ : ∃ W, W = (((w.alloc (.cells (kvA (kvH m) (kvV m)) 25)).alloc (.cells #[.int .u8 f, .int .u8 o, .int .u8 (kn : Int), .int .u16 a, .int .u16 b] 27)).alloc (.cells (kvA 0 []) 25)).alloc (.cells (ansC ⟨0, 0⟩).toArray 32) := ⟨_, rfl⟩
  obtain ⟨hk0, h0, h1, h2, h3, hz⟩ := vars_k w _ _ _ W hW
  simp only [show (ansC ⟨0, 0⟩).toArray = #[Value.int .u8 0, .int .u16 0] from rfl, show kvA 0 [] = #[Value.int .u8 0, .int .u16 0, .int .u16 0, .int .u16 0, .int .u16 0, .int .u16 0, .int .u16 0, .int .u16 0, .int .u16 0] from rfl] at hW
  have h0' := h0
  rw [hW] at h0'
  have HL0 := Lib.hid h0'
  obtain ⟨R, hR⟩ : ∃ R, R = w.heap.size := ⟨_, rfl⟩
  rw [← hR] at h0 h1 h2 h3 hz
  have HWW := Lib.hid hW; have HRE := Lib.hid hR; have HK0 := Lib.hid hk0
  have HZ := Lib.hid hz; have HO := Lib.hid ho
  have HHAS := Lib.hid (fun w => kvHas_kv w hm (key := (kn : Int)) (Int.natCast_nonneg _))
  clear h0' hW hR hk0 hz
  go_enter Try.func55, Try.ntmps55
  go_wp2_with ((with_reducible refine wpList_loadK (g := w.heap.size) rfl ?_ HL0.out ?_); exact rfl)
  refine (HHAS.out _).mono ?_; rintro e w1 ⟨rfl, hk1⟩
  rw [← HWW.out] at hk1
  rw [← HRE.out, Int.toNat_natCast, HO.out]
  simp only [Option.isSome_none, Option.isSome_some]
  have HB0 := Lib.hid (hk1.heap h0 (by simp)); have HB2 := Lib.hid (hk1.heap h2 (by simp)); have HB3 := Lib.hid (hk1.heap h3 (by simp))
  have hb1 := hk1.heap h1 (by simp)
  have c2 : w1.cell? ⟨R + 1, 2, none⟩ = some (.int .u8 (kn : Int)) := cell_lit hb1 2 rfl
  have c3 : w1.cell? ⟨R + 1, 3, none⟩ = some (.int .u16 a) := cell_lit hb1 3 rfl
  have c4 : w1.cell? ⟨R + 1, 4, none⟩ = some (.int .u16 b) := cell_lit hb1 4 rfl
  have HK1 := Lib.hid (HK0.out.trans hk1 (FSub.refl _ _))
  clear h0 h1 h2 h3 hb1 hk1 HL0 HK0 HHAS
  go_wp2_with (first
    | ((with_reducible refine wpList_loadK (g := R) rfl ?_ HB0.out ?_); exact rfl)
    | ((with_reducible refine wpList_putK (g := R + 2) (h := kvH m) (vs := kvV m) ?_ ?_ HB2.out ?_); exact rfl; exact rfl))
  intro W2 hW2 hk2
  have HW2 := Lib.hid hW2
  have HA2 := Lib.hid (hk2.heap HB3.out (by simp))
  have HK2 := Lib.hid (HK1.out.trans hk2 (fun q hq => .inr (by have := HRE.out; simp at hq; omega)))
  clear hW2 hk2
  go_wp2_with ((with_reducible refine wpList_putN (g := R + 3) (old := ⟨0, 0⟩) ⟨4, 0⟩ ?_ ?_ HA2.out ?_); exact rfl; exact rfl)
  intro W3 hW3 hk3
  have HW3 := Lib.hid hW3
  have HS3 := Lib.hid (hk3.heap HW2.out (by simp))
  have HK3 := Lib.hid (HK2.out.trans hk3 (fun q hq => .inr (by have := HRE.out; simp at hq; omega)))
  clear hW3 hk3
  go_wp2_with fail
  try simp only [Exit.inBlock, Exit.then]
  exact bodyPost_ret (results_kv2 rfl _ _ (R + 2) (R + 3) ⟨4, 0⟩ rfl HS3.out rfl HW3.out) rfl ⟨rfl, HK3.out⟩
theorem kvDel_some (w : World) {m : Kv} (hm : KvIn m) (f o a b : Int) {kn : Nat} (hk8 : kn < 8) {v : Int} (ho : m.getD kn none = some v) :
    Calls Try.prog 55 #[.agg (kvA (kvH m) (kvV m)), .agg #[.int .u8 f, .int .u8 o, .int .u8 (kn : Int), .int .u16 a, .int .u16 b]] w (KsPost w (m.set kn none) ⟨3, 0⟩) := by
  have HVS := Lib.hid (show kvV (m.set kn none) = (kvV m).set kn 0 from kvV_set m kn none)
  have HSH := Lib.hid (shl8 hk8)
  have hnt := kvH_del hm.len hk8
  obtain ⟨H2, hH2⟩ : ∃ H2, H2 = kvH (m.set kn none) := ⟨_, rfl⟩
  rw [← hH2] at hnt
  have HNT := Lib.hid hnt; have HH2 := Lib.hid hH2
  clear hnt hH2
  have HVL := Lib.hid (show (kvV m).length = 8 by rw [kvV_len, hm.len]); have HK8 := Lib.hid hk8
  obtain ⟨W, hW⟩ : ∃ W, W = (((w.alloc (.cells (kvA (kvH m) (kvV m)) 25)).alloc (.cells #[.int .u8 f, .int .u8 o, .int .u8 (kn : Int), .int .u16 a, .int .u16 b] 27)).alloc (.cells (kvA 0 []) 25)).alloc (.cells (ansC ⟨0, 0⟩).toArray 32) := ⟨_, rfl⟩
  obtain ⟨hk0, h0, h1, h2, h3, hz⟩ := vars_k w _ _ _ W hW
  simp only [show (ansC ⟨0, 0⟩).toArray = #[Value.int .u8 0, .int .u16 0] from rfl, show kvA 0 [] = #[Value.int .u8 0, .int .u16 0, .int .u16 0, .int .u16 0, .int .u16 0, .int .u16 0, .int .u16 0, .int .u16 0, .int .u16 0] from rfl] at hW
  have h0' := h0
  rw [hW] at h0'
  have HL0 := Lib.hid h0'
  obtain ⟨R, hR⟩ : ∃ R, R = w.heap.size := ⟨_, rfl⟩
  rw [← hR] at h0 h1 h2 h3 hz
  have HWW := Lib.hid hW; have HRE := Lib.hid hR; have HK0 := Lib.hid hk0
  have HZ := Lib.hid hz; have HO := Lib.hid ho
  have HHAS := Lib.hid (fun w => kvHas_kv w hm (key := (kn : Int)) (Int.natCast_nonneg _))
  clear h0' hW hR hk0 hz
  generalize 2 ^ kn = q at *
  go_enter Try.func55, Try.ntmps55
  go_wp2_with ((with_reducible refine wpList_loadK (g := w.heap.size) rfl ?_ HL0.out ?_); exact rfl)
  refine (HHAS.out _).mono ?_; rintro e w1 ⟨rfl, hk1⟩
  rw [← HWW.out] at hk1
  rw [← HRE.out, Int.toNat_natCast, HO.out]
  simp only [Option.isSome_none, Option.isSome_some]
  have HB0 := Lib.hid (hk1.heap h0 (by simp)); have HB2 := Lib.hid (hk1.heap h2 (by simp)); have HB3 := Lib.hid (hk1.heap h3 (by simp))
  have hb1 := hk1.heap h1 (by simp)
  have c2 : w1.cell? ⟨R + 1, 2, none⟩ = some (.int .u8 (kn : Int)) := cell_lit hb1 2 rfl
  have c3 : w1.cell? ⟨R + 1, 3, none⟩ = some (.int .u16 a) := cell_lit hb1 3 rfl
  have c4 : w1.cell? ⟨R + 1, 4, none⟩ = some (.int .u16 b) := cell_lit hb1 4 rfl
  have HK1 := Lib.hid (HK0.out.trans hk1 (FSub.refl _ _))
  clear h0 h1 h2 h3 hb1 hk1 HL0 HK0 HHAS
  have hb1 := c2
  clear hk8
  go_wp2_with (first
    | ((with_reducible refine wpList_loadKh (g := R) ?_ HB0.out ?_); exact rfl)
    | ((with_reducible refine wpList_shl8 (v := (q : Int)) ?_ ?_ HSH.out ?_); exact rfl; exact rfl)
    | ((with_reducible refine wpList_not8 (v := (H2 : Int)) ?_ ?_ HNT.out ?_); exact rfl; exact rfl)
    | ((with_reducible refine wpList_putKh (g := R) (h2 := (H2 : Int)) ?_ ?_ HB0.out ?_); exact rfl; exact rfl))
  intro w2 hb0 hk2
  have HB0' := Lib.hid hb0
  have HB2' := Lib.hid (hk2.heap HB2.out (by simp)); have HB3' := Lib.hid (hk2.heap HB3.out (by simp))
  have HK1' := Lib.hid (HK1.out.trans hk2 (fun q hq => .inr (by have := HRE.out; simp at hq; omega)))
  have d2 : w2.cell? ⟨R + 1, 2, none⟩ = some (.int .u8 (kn : Int)) := hk2.cell c2 (by simp)
  have hlt : (kn : Int) < 8 := by have := HK8.out; omega
  clear hb0 hk2 HB0 HB2 HB3 HK1 c2 c3 c4 hb1
  go_wp2_with ((with_reducible refine wpList_putKv (g := R) (k := kn) (v := 0) HVL.out HK8.out ?_ ?_ HB0'.out ?_); exact rfl; exact rfl)
  intro w3 hb0 hk3
  have hb2 := hk3.heap HB2'.out (by simp)
  have hb3 := hk3.heap HB3'.out (by simp)
  have hkn := HK1'.out.trans hk3 (fun q hq => .inr (by have := HRE.out; simp at hq; omega))
  rw [← HVS.out] at hb0
  clear HB0' HB2' HB3' HK1' d2 hk3
  have HB0 := Lib.hid hb0; have HB2 := Lib.hid hb2; have HB3 := Lib.hid hb3; have HK1 := Lib.hid hkn
  clear hb0 hb2 hb3 hkn
  go_wp2_with (first
    | ((with_reducible refine wpList_loadK (g := R) rfl ?_ HB0.out ?_); exact rfl)
    | ((with_reducible refine wpList_putK (g := R + 2) (h := (H2 : Int)) (vs := (kvV (m.set kn none))) ?_ ?_ HB2.out ?_); exact rfl; exact rfl))
  intro W2 hW2 hk2
  have HW2 := Lib.hid hW2
  have HA2 := Lib.hid (hk2.heap HB3.out (by simp))
  have HK2 := Lib.hid (HK1.out.trans hk2 (fun q hq => .inr (by have := HRE.out; simp at hq; omega)))
  clear hW2 hk2
  go_wp2_with ((with_reducible refine wpList_putN (g := R + 3) (old := ⟨0, 0⟩) ⟨3, 0⟩ ?_ ?_ HA2.out ?_); exact rfl; exact rfl)
  intro W3 hW3 hk3
  have HW3 := Lib.hid hW3
  have HS3 := Lib.hid (hk3.heap HW2.out (by simp))
  have HK3 := Lib.hid (HK2.out.trans hk3 (fun q hq => .inr (by have := HRE.out; simp at hq; omega)))
  clear hW3 hk3
  go_wp2_with fail
  try simp only [Exit.inBlock, Exit.then]
  exact bodyPost_ret (results_kv2 rfl _ _ (R + 2) (R + 3) ⟨3, 0⟩ rfl HS3.out rfl HW3.out) rfl ⟨(by unfold kvVal; rw [← HH2.out]), HK3.out⟩
end Go.Proofs.Ytnmpekbkahkapaa
