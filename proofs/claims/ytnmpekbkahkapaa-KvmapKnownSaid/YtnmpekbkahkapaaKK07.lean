/-
  Slices of 16 bits; appends of any slice; the document's queue: Same, Step.
-/
import Derived.Test.YtnmpekbkahkapaaKK04
import Derived.Test.YtnmpekbkahkapaaKK06
set_option linter.unusedSimpArgs false
set_option linter.unusedVariables false
namespace Go.Proofs.Ytnmpekbkahkapaa
open Go.RowKit
theorem Try.infoU16R : (Try.prog.info? 22).map (fun i => (i.zero, i.size, i.bytes)) = some (some (.int .u16 0), 1, 2) := by kernel_rfl
section
variable {α : Type}
theorem RK.In.more {R : RK α} {N M : Nat} {w : World} {v : Value} {L : List α} (h : R.In N w v L) (hM : N ≤ M) : R.In M w v L := by
  obtain ⟨a, c, rfl, hc, hm, h⟩ := h
  refine ⟨a, c, rfl, hc, hm, fun hn => ?_⟩
  obtain ⟨bk, o, rfl, hb, h'⟩ := h hn
  exact ⟨bk, o, rfl, by omega, h'⟩
theorem RK.In.keeps {R : RK α} {N : Nat} {w w' : World} {v : Value} {L : List α} {F : List Nat} (h : R.In N w v L) (hk : Keeps F w w') (hF : L ≠ [] → ∀ q ∈ own v, q ∉ F) : R.In N w' v L := by
  obtain ⟨a, c, rfl, hc, hm, h⟩ := h
  refine ⟨a, c, rfl, hc, hm, fun hn => ?_⟩
  obtain ⟨bk, o, rfl, hb, h'⟩ := h hn
  exact ⟨bk, o, rfl, hb, fun j hj i u hi => hk.cell (h' j hj i u hi) (hF hn bk (by simp [own, Value.ownBlock]))⟩
theorem RK.In.old {R : RK α} {N : Nat} {w : World} {v : Value} {L : List α} (h : R.In N w v L) (hn : L ≠ []) : ∀ q ∈ own v, q < N := by
  obtain ⟨a, c, rfl, hc, hm, h⟩ := h
  obtain ⟨bk, o, rfl, hb, h'⟩ := h hn
  intro q hq
  simp [own, Value.ownBlock] at hq
  omega
end
section
variable {ops : Array Oper} {rest : List Oper} {a : Act} {w : World} {Q : Exit → Act → World → Prop}
end
set_option maxHeartbeats 4000000
set_option maxRecDepth 100000
end Go.Proofs.Ytnmpekbkahkapaa
/-
  A map of a few keys, as data: items, as the document keeps them; no program.
-/
namespace Go.Proofs.Ytnmpekbkahkapaa
open Go.RowKit
/-- An item: a key and its number. -/
structure It where
  k : Int
  v : Int
deriving DecidableEq
/-- Where a key stands. -/
def itIdx (key : Int) : List It → Option Nat
  | [] => none
  | a :: r => if a.k = key then some 0 else (itIdx key r).map (· + 1)
def idxI : Option Nat → Int
  | none => -1
  | some i => i
/-- The items but the one at a place. -/
def wo (i : Int) : Nat → List It → List It
  | _, [] => []
  | n, a :: r => if (n : Int) = i then wo i (n + 1) r else a :: wo i (n + 1) r
/-- A step, as the document has it. -/
def kvX (l : List It) (x : Opn) : List It × Ans × Int :=
  if 7 < x.k ∨ x.f < 6 ∨ 9 < x.f then (l, ⟨0, 0⟩, 10)
  else if x.f = 7 then (wo (idxI (itIdx x.k l)) 0 l ++ [⟨x.k, x.a⟩], ⟨0, 0⟩, 0)
  else match itIdx x.k l with
    | none => if x.f = 6 then (l, ⟨2, 0⟩, 0) else (l, ⟨4, 0⟩, 0)
    | some i =>
      if x.f = 6 then (l, ⟨1, (l.getD i ⟨0, 0⟩).v⟩, 0)
      else if x.f = 8 then (wo i 0 l, ⟨3, 0⟩, 0)
      else if (l.getD i ⟨0, 0⟩).v = x.a then (wo i 0 l ++ [⟨x.k, x.b⟩], ⟨3, 0⟩, 0) else (l, ⟨4, 0⟩, 0)
def itC (x : It) : List Go.Value := [.int .u8 x.k, .int .u16 x.v]
theorem itC_one (x : It) : ∀ v ∈ itC x, v.oneCell' = true := by
  intro v hv
  simp only [itC, List.mem_cons, List.not_mem_nil, or_false] at hv
  rcases hv with rfl | rfl <;> rfl
theorem Try.infoItR : (Try.prog.info? 54).map (fun i => (i.zero, i.size, i.bytes)) = some (some (.agg (itC ⟨0, 0⟩).toArray), 2, 4) := by kernel_rfl
/-- Items, side by side. -/
noncomputable def rkI : RK It :=
  { T := 54, Sl := 35, s := 2, b := 4, cs := itC, i := (info_parts Try.infoItR).choose, z := .agg (itC ⟨0, 0⟩).toArray,
    len := fun _ => rfl, one := itC_one, s0 := by decide, b1 := by decide, und := Try.underlying35,
    hi := (info_parts Try.infoItR).choose_spec.1, hz := (info_parts Try.infoItR).choose_spec.2.1, hs := (info_parts Try.infoItR).choose_spec.2.2.1, hb := (info_parts Try.infoItR).choose_spec.2.2.2, hzs := rfl }
theorem It.at {N : Nat} {w : World} {a : Option Addr} {n c : Nat} {l : List It} (h : rkI.In N w (.slice a n c) l) {k : Nat} (hk : k < l.length) : ∃ bk o, a = some ⟨bk, o, none⟩ ∧ bk < N ∧ w.rangeAt bk (o + k * 2) (itC l[k]) := by
  obtain ⟨_, _, e, _, _, h⟩ := h
  simp at e
  obtain ⟨rfl, -, -⟩ := e
  obtain ⟨bk, o, e, hb, hr⟩ := h (fun e => by rw [e] at hk; simp at hk)
  exact ⟨bk, o, e, hb, hr k hk⟩
end Go.Proofs.Ytnmpekbkahkapaa
/-
  A key map as data: for each key nothing, or a number; no program.
-/
namespace Go.Proofs.Ytnmpekbkahkapaa
open Go.RowKit
abbrev Kv := List (Option Int)
/-- The byte that tells which keys there are. -/
def kvH : Kv → Nat
  | [] => 0
  | none :: r => 2 * kvH r
  | some _ :: r => 1 + 2 * kvH r
def kvV (m : Kv) : List Int := m.map (·.getD 0)
/-- A state's cells. -/
def kvA (h : Int) (vs : List Int) : Array Value :=
  #[.int .u8 h, .int .u16 (vs.getD 0 0), .int .u16 (vs.getD 1 0), .int .u16 (vs.getD 2 0), .int .u16 (vs.getD 3 0), .int .u16 (vs.getD 4 0), .int .u16 (vs.getD 5 0), .int .u16 (vs.getD 6 0), .int .u16 (vs.getD 7 0)]
def kvVal (m : Kv) : Value := .agg (kvA (kvH m) (kvV m))
structure KvIn (m : Kv) : Prop where
  len : m.length = 8
  rng : ∀ (k : Nat) v, m[k]? = some (some v) → 0 ≤ v ∧ v < 65536
def kv0 : Kv := List.replicate 8 none
theorem kvV_len (m : Kv) : (kvV m).length = m.length := by simp [kvV]
theorem kvA_get (h : Int) (vs : List Int) {k : Nat} (hk : k < 8) : (kvA h vs)[1 + k]? = some (.int .u16 (vs.getD k 0)) := by
  match k, hk with
  | 0, _ | 1, _ | 2, _ | 3, _ | 4, _ | 5, _ | 6, _ | 7, _ => rfl
theorem kvA_set (h : Int) {vs : List Int} (hl : vs.length = 8) {k : Nat} (hk : k < 8) (v : Int) : (kvA h vs).setIfInBounds (1 + k) (.int .u16 v) = kvA h (vs.set k v) := by
  match vs, hl, k, hk with
  | [a, b, c, d, e, f, g, i], _, 0, _ | [a, b, c, d, e, f, g, i], _, 1, _ | [a, b, c, d, e, f, g, i], _, 2, _ | [a, b, c, d, e, f, g, i], _, 3, _
  | [a, b, c, d, e, f, g, i], _, 4, _ | [a, b, c, d, e, f, g, i], _, 5, _ | [a, b, c, d, e, f, g, i], _, 6, _ | [a, b, c, d, e, f, g, i], _, 7, _ => rfl
theorem kvA_h (h h2 : Int) (vs : List Int) : (kvA h vs).setIfInBounds 0 (.int .u8 h2) = kvA h2 vs := rfl
theorem kvA_one (h : Int) (vs : List Int) : (kvA h vs).all (·.oneCell') = true := by rw [← Array.all_toList]; rfl
theorem kvH_lt : ∀ m : Kv, kvH m < 2 ^ m.length
  | [] => by simp [kvH]
  | none :: r => by have := kvH_lt r; simp only [kvH, List.length_cons, Nat.pow_succ]; omega
  | some _ :: r => by have := kvH_lt r; simp only [kvH, List.length_cons, Nat.pow_succ]; omega
theorem kvH_bit : ∀ (m : Kv) (k : Nat), kvH m / 2 ^ k % 2 = if (m.getD k none).isSome then 1 else 0
  | [], k => by simp [kvH]
  | none :: r, 0 => by simp [kvH]
  | some _ :: r, 0 => by simp [kvH]
  | none :: r, k + 1 => by
    have h := kvH_bit r k
    rw [Nat.pow_succ, Nat.mul_comm, ← Nat.div_div_eq_div_mul, kvH, show 2 * kvH r / 2 = kvH r by omega, h]
    simp
  | some _ :: r, k + 1 => by
    have h := kvH_bit r k
    rw [Nat.pow_succ, Nat.mul_comm, ← Nat.div_div_eq_div_mul, kvH, show (1 + 2 * kvH r) / 2 = kvH r by omega, h]
    simp
theorem kvH_set : ∀ (m : Kv) (k : Nat), k < m.length → ∀ o, kvH (m.set k o) + (if (m.getD k none).isSome then 2 ^ k else 0) = kvH m + (if o.isSome then 2 ^ k else 0)
  | [], k, h, _ => by simp at h
  | a :: r, 0, _, o => by cases a <;> cases o <;> simp [kvH] <;> omega
  | a :: r, k + 1, h, o => by
    have ih := kvH_set r k (by simpa using h) o
    have e : ((a :: r).getD (k + 1) none) = r.getD k none := by simp
    rw [e]
    cases a with
    | none => simp only [List.set_cons_succ, kvH, Nat.pow_succ]; split at ih <;> split at ih <;> simp_all <;> omega
    | some x => simp only [List.set_cons_succ, kvH, Nat.pow_succ]; split at ih <;> split at ih <;> simp_all <;> omega
theorem kvV_set (m : Kv) (k : Nat) (o : Option Int) : kvV (m.set k o) = (kvV m).set k (o.getD 0) := by
  unfold kvV
  rw [List.map_set]
theorem kvV_getD {m : Kv} {k : Nat} (hk : k < m.length) : (kvV m).getD k 0 = (m.getD k none).getD 0 := by
  unfold kvV
  rw [List.getD_eq_getElem?_getD, List.getElem?_map, List.getElem?_eq_getElem hk, List.getD_eq_getElem?_getD, List.getElem?_eq_getElem hk]
  rfl
theorem KvIn.set {m : Kv} (h : KvIn m) (k : Nat) {o : Option Int} (ho : ∀ v, o = some v → 0 ≤ v ∧ v < 65536) : KvIn (m.set k o) := by
  refine ⟨by rw [List.length_set]; exact h.len, fun j v hj => ?_⟩
  rw [List.getElem?_set] at hj
  split at hj
  · split at hj
    · exact ho v (by simpa using hj)
    · cases hj
  · exact h.rng j v hj
theorem KvIn.get {m : Kv} (h : KvIn m) {k : Nat} {v : Int} (hv : m.getD k none = some v) : 0 ≤ v ∧ v < 65536 := by
  refine h.rng k v ?_
  rw [List.getD_eq_getElem?_getD] at hv
  cases hk : m[k]? with
  | none => rw [hk] at hv; cases hv
  | some o => rw [hk] at hv; simp at hv; rw [hv]
theorem kv0_in : KvIn kv0 := ⟨rfl, fun k v h => by
  simp only [kv0, List.getElem?_replicate] at h
  split at h <;> simp at h⟩
theorem KvIn.small {m : Kv} (h : KvIn m) : kvH m < 256 := by
  have := kvH_lt m
  rw [h.len] at this
  exact this
/-- A state as it may come: its byte and numbers; what it has. -/
def kvOf : Nat → List Int → Kv
  | _, [] => []
  | h, v :: r => (if h % 2 = 1 then some v else none) :: kvOf (h / 2) r
theorem kvOf_len : ∀ (h : Nat) (vs : List Int), (kvOf h vs).length = vs.length
  | _, [] => rfl
  | h, v :: r => by rw [kvOf, List.length_cons, kvOf_len, List.length_cons]
theorem kvOf_getD : ∀ (h : Nat) (vs : List Int) (k : Nat), k < vs.length → (kvOf h vs).getD k none = if h / 2 ^ k % 2 = 1 then some (vs.getD k 0) else none
  | h, [], k, hk => by simp at hk
  | h, v :: r, 0, _ => by simp [kvOf]
  | h, v :: r, k + 1, hk => by
    have ih := kvOf_getD (h / 2) r k (by simpa using hk)
    rw [kvOf, List.getD_cons_succ, ih, Nat.div_div_eq_div_mul, Nat.pow_succ, Nat.mul_comm 2, List.getD_cons_succ]
structure RawIn (h : Nat) (vs : List Int) : Prop where
  h1 : h < 256
  len : vs.length = 8
  rng : ∀ v ∈ vs, 0 ≤ v ∧ v < 65536
/-- What stands under a key. -/
def itLook (key : Int) : List It → Option Int
  | [] => none
  | a :: r => if a.k = key then some a.v else itLook key r
theorem itLook_idx (key : Int) : ∀ l : List It, itLook key l = (itIdx key l).map fun i => (l.getD i ⟨0, 0⟩).v
  | [] => rfl
  | a :: r => by
    unfold itLook itIdx
    split
    · rfl
    · rw [itLook_idx key r]
      cases itIdx key r with
      | none => rfl
      | some i => simp
theorem itLook_app (key : Int) : ∀ l m : List It, itLook key (l ++ m) = (itLook key l).or (itLook key m)
  | [], m => by simp [itLook]
  | a :: r, m => by
    rw [List.cons_append, itLook, itLook]
    split
    · rfl
    · exact itLook_app key r m
theorem itLook_none {key : Int} : ∀ {l : List It}, (∀ x ∈ l, x.k ≠ key) → itLook key l = none
  | [], _ => rfl
  | a :: r, h => by
    rw [itLook, if_neg (h a (by simp)), itLook_none (fun x hx => h x (by simp [hx]))]
/-- The document's state is this one. -/
structure Rel (m : Kv) (t : List It) : Prop where
  in_ : KvIn m
  look : ∀ k : Nat, k < 8 → itLook k t = m.getD k none
  keys : ∀ x ∈ t, 0 ≤ x.k ∧ x.k < 8
  nodup : (t.map (·.k)).Nodup
theorem kvOf_val {h : Nat} {vs : List Int} (hl : vs.length = 8) {k : Nat} (hk : k < 8) : (kvV (kvOf h vs)).getD k 0 = if h / 2 ^ k % 2 = 1 then vs.getD k 0 else 0 := by
  rw [kvV_getD (by rw [kvOf_len]; omega), kvOf_getD h vs k (by omega)]
  split <;> rfl
end Go.Proofs.Ytnmpekbkahkapaa
/-
  A key map's steps: on what stands under each key; the document's are the same.
-/
namespace Go.Proofs.Ytnmpekbkahkapaa
open Go.RowKit
/-- A step. -/
def ksX (m : Kv) (x : Opn) : Kv × Ans × Int :=
  if 7 < x.k ∨ x.f < 6 ∨ 9 < x.f then (m, ⟨0, 0⟩, 10)
  else if x.f = 7 then (m.set x.k.toNat (some x.a), ⟨0, 0⟩, 0)
  else match m.getD x.k.toNat none with
    | none => if x.f = 6 then (m, ⟨2, 0⟩, 0) else (m, ⟨4, 0⟩, 0)
    | some v =>
      if x.f = 6 then (m, ⟨1, v⟩, 0)
      else if x.f = 8 then (m.set x.k.toNat none, ⟨3, 0⟩, 0)
      else if v = x.a then (m.set x.k.toNat (some x.b), ⟨3, 0⟩, 0) else (m, ⟨4, 0⟩, 0)
theorem ksX_in {m : Kv} {x : Opn} (h : KvIn m) (hx : x.In) : KvIn (ksX m x).1 := by
  unfold ksX
  split
  · exact h
  · split
    · exact h.set _ (fun v e => by obtain rfl := Option.some.inj e; exact ⟨hx.a0, hx.a1⟩)
    · split
      · split <;> exact h
      · split
        · exact h
        · split
          · exact h.set _ (fun v e => by cases e)
          · split
            · exact h.set _ (fun v e => by obtain rfl := Option.some.inj e; exact ⟨hx.b0, hx.b1⟩)
            · exact h
theorem wo_none : ∀ (n : Nat) (l : List It), wo (-1) n l = l
  | _, [] => rfl
  | n, a :: r => by
    rw [wo, if_neg (by omega), wo_none (n + 1) r]
theorem wo_at : ∀ (n : Nat) (l : List It) (i : Nat), wo ((n + i : Nat) : Int) n l = l.eraseIdx i
  | _, [], i => by simp [wo]
  | n, a :: r, 0 => by
    rw [wo, if_pos (by simp)]
    have : ∀ (k : Nat) (q : List It), n < k → wo ((n + 0 : Nat) : Int) k q = q := by
      intro k q
      induction q generalizing k with
      | nil => intro _; rfl
      | cons b s ih => intro hk; rw [wo, if_neg (by omega), ih (k + 1) (by omega)]
    rw [this (n + 1) r (by omega)]
    rfl
  | n, a :: r, i + 1 => by
    rw [wo, if_neg (by omega), show n + (i + 1) = n + 1 + i by omega, wo_at (n + 1) r i]
    rfl
theorem wo_idx {key : Int} {l : List It} : wo (idxI (itIdx key l)) 0 l = match itIdx key l with | some i => l.eraseIdx i | none => l := by
  cases h : itIdx key l with
  | none => exact wo_none 0 l
  | some i =>
    have := wo_at 0 l i
    rw [Nat.zero_add] at this
    exact this
theorem mem_erase {l : List It} {i : Nat} {x : It} (h : x ∈ l.eraseIdx i) : x ∈ l := (List.eraseIdx_sublist l i).subset h
theorem nodup_erase {l : List It} (i : Nat) (h : (l.map (·.k)).Nodup) : ((l.eraseIdx i).map (·.k)).Nodup := h.sublist ((List.eraseIdx_sublist l i).map _)
theorem look_erase_self {key : Int} : ∀ {l : List It} {i : Nat}, itIdx key l = some i → (l.map (·.k)).Nodup → ∀ x ∈ l.eraseIdx i, x.k ≠ key
  | [], i, h, _ => by cases h
  | a :: r, i, h, hn => by
    rw [List.map_cons, List.nodup_cons] at hn
    unfold itIdx at h
    split at h
    · rename_i e
      obtain rfl := Option.some.inj h
      intro x hx he
      exact hn.1 (List.mem_map.2 ⟨x, hx, he.trans e.symm⟩)
    · rename_i e
      cases hr : itIdx key r with
      | none => rw [hr] at h; cases h
      | some j =>
        rw [hr] at h
        obtain rfl := Option.some.inj h
        intro x hx
        rw [List.eraseIdx_cons_succ] at hx
        rcases List.mem_cons.1 hx with rfl | hx
        · exact e
        · exact look_erase_self hr hn.2 x hx
theorem look_erase_other {key k2 : Int} (hk : k2 ≠ key) : ∀ {l : List It} {i : Nat}, itIdx key l = some i → itLook k2 (l.eraseIdx i) = itLook k2 l
  | [], i, h => by cases h
  | a :: r, i, h => by
    unfold itIdx at h
    split at h
    · rename_i e
      obtain rfl := Option.some.inj h
      rw [List.eraseIdx_cons_zero, itLook, if_neg (by rw [e]; exact fun e => hk e.symm)]
    · cases hr : itIdx key r with
      | none => rw [hr] at h; cases h
      | some j =>
        rw [hr] at h
        obtain rfl := Option.some.inj h
        show itLook k2 ((a :: r).eraseIdx (j + 1)) = _
        rw [List.eraseIdx_cons_succ, itLook, itLook, look_erase_other hk hr]
theorem idx_none {key : Int} : ∀ {l : List It}, itIdx key l = none → ∀ x ∈ l, x.k ≠ key
  | [], _, x, hx => by cases hx
  | a :: r, h, x, hx => by
    unfold itIdx at h
    split at h
    · cases h
    · rename_i e
      rcases List.mem_cons.1 hx with rfl | hx
      · exact e
      · cases hr : itIdx key r with
        | none => exact idx_none hr x hx
        | some j => rw [hr] at h; cases h
/-- The items without a key. -/
theorem wo_key {key : Int} {t : List It} (hn : (t.map (·.k)).Nodup) :
    (∀ x ∈ wo (idxI (itIdx key t)) 0 t, x ∈ t ∧ x.k ≠ key) ∧ ((wo (idxI (itIdx key t)) 0 t).map (·.k)).Nodup ∧ ∀ k2, k2 ≠ key → itLook k2 (wo (idxI (itIdx key t)) 0 t) = itLook k2 t := by
  rw [wo_idx]
  cases h : itIdx key t with
  | none => exact ⟨fun x hx => ⟨hx, idx_none h x hx⟩, hn, fun _ _ => rfl⟩
  | some i => exact ⟨fun x hx => ⟨mem_erase hx, look_erase_self h hn x hx⟩, nodup_erase i hn, fun k2 hk => look_erase_other hk h⟩
theorem Rel.put {m : Kv} {t : List It} (h : Rel m t) {k : Nat} (hk : k < 8) {v : Int} (hv : 0 ≤ v ∧ v < 65536) : Rel (m.set k (some v)) (wo (idxI (itIdx k t)) 0 t ++ [⟨k, v⟩]) := by
  obtain ⟨h1, h2, h3⟩ := wo_key (key := k) h.nodup
  refine ⟨h.in_.set k (fun u e => by obtain rfl := Option.some.inj e; exact hv), fun j hj => ?_, fun x hx => ?_, ?_⟩
  · rw [itLook_app]
    by_cases e : j = k
    · subst e
      rw [itLook_none (fun x hx => (h1 x hx).2), List.getD_eq_getElem?_getD, List.getElem?_set_self (by rw [h.in_.len]; exact hj)]
      simp [itLook]
    · rw [h3 j (by omega), h.look j hj, show itLook (j : Int) [(⟨k, v⟩ : It)] = none from itLook_none (fun x hx => by simp at hx; subst hx; simp; omega), Option.or_none]
      rw [List.getD_eq_getElem?_getD, List.getD_eq_getElem?_getD, List.getElem?_set_ne (by omega)]
  · rcases List.mem_append.1 hx with hx | hx
    · exact h.keys x (h1 x hx).1
    · simp at hx; subst hx; simp; omega
  · rw [List.map_append, List.nodup_append]
    refine ⟨h2, by simp, fun a ha b hb => ?_⟩
    obtain ⟨x, hx, rfl⟩ := List.mem_map.1 ha
    simp at hb
    subst hb
    exact (h1 x hx).2
theorem Rel.del {m : Kv} {t : List It} (h : Rel m t) {k : Nat} (hk : k < 8) : Rel (m.set k none) (wo (idxI (itIdx k t)) 0 t) := by
  obtain ⟨h1, h2, h3⟩ := wo_key (key := k) h.nodup
  refine ⟨h.in_.set k (fun u e => by cases e), fun j hj => ?_, fun x hx => h.keys x (h1 x hx).1, h2⟩
  by_cases e : j = k
  · subst e
    rw [itLook_none (fun x hx => (h1 x hx).2), List.getD_eq_getElem?_getD, List.getElem?_set_self (by rw [h.in_.len]; exact hj)]
    rfl
  · rw [h3 j (by omega), h.look j hj, List.getD_eq_getElem?_getD, List.getD_eq_getElem?_getD, List.getElem?_set_ne (by omega)]
/-- One step of both. -/
theorem Rel.step {m : Kv} {t : List It} (h : Rel m t) {x : Opn} (hx : x.In) : Rel (ksX m x).1 (kvX t x).1 ∧ (ksX m x).2 = (kvX t x).2 := by
  by_cases hb : 7 < x.k ∨ x.f < 6 ∨ 9 < x.f
  · rw [ksX, if_pos hb, kvX, if_pos hb]
    exact ⟨h, rfl⟩
  · have hk0 := hx.k0
    have hk : x.k.toNat < 8 := by omega
    have ek : ((x.k.toNat : Nat) : Int) = x.k := by omega
    have hl := h.look x.k.toNat hk
    rw [ek] at hl
    have hput := fun v hv => h.put hk (v := v) hv
    have hdel := h.del hk
    rw [ek] at hput hdel
    rw [ksX, if_neg hb, kvX, if_neg hb]
    by_cases h7 : x.f = 7
    · rw [if_pos h7, if_pos h7]
      exact ⟨hput x.a ⟨hx.a0, hx.a1⟩, rfl⟩
    · rw [if_neg h7, if_neg h7]
      rw [itLook_idx] at hl
      cases hi : itIdx x.k t with
      | none =>
        rw [hi] at hl
        rw [← hl]
        show Rel (if x.f = 6 then _ else _ : Kv × Ans × Int).1 (if x.f = 6 then _ else _ : List It × Ans × Int).1 ∧ _
        split <;> exact ⟨h, rfl⟩
      | some i =>
        rw [hi] at hl
        rw [← hl]
        rw [hi] at hput hdel
        show Rel (if x.f = 6 then _ else _ : Kv × Ans × Int).1 (if x.f = 6 then _ else _ : List It × Ans × Int).1 ∧ (if x.f = 6 then _ else _ : Kv × Ans × Int).2 = (if x.f = 6 then _ else _ : List It × Ans × Int).2
        split
        · exact ⟨h, rfl⟩
        · split
          · exact ⟨hdel, rfl⟩
          · split
            · exact ⟨hput x.b ⟨hx.b0, hx.b1⟩, rfl⟩
            · exact ⟨h, rfl⟩
theorem Rel.run : ∀ {m : Kv} {t : List It} (l : List Opn), Rel m t → (∀ x ∈ l, x.In) → Rel (stS ksX m l) (stS kvX t l) ∧ stL ksX m l = stL kvX t l ∧ stE ksX m l = stE kvX t l
  | m, t, [], h, _ => ⟨h, rfl, rfl⟩
  | m, t, x :: l, h, hl => by
    obtain ⟨h1, h2⟩ := h.step (hl x (by simp))
    have ih := Rel.run l h1 (fun y hy => hl y (by simp [hy]))
    unfold stS stL stE
    rw [h2]
    split
    · exact ⟨ih.1, by rw [ih.2.1], ih.2.2⟩
    · exact ⟨h, rfl, rfl⟩
theorem ksS_in (m : Kv) (l : List Opn) (h : KvIn m) (hl : ∀ x ∈ l, x.In) : KvIn (stS ksX m l) := stS_inv ksX (I := KvIn) (fun _ _ h hx => ksX_in h hx) m l h hl
end Go.Proofs.Ytnmpekbkahkapaa
/-
  A function value without variables, and a call of one; an answer stored whole.
-/
namespace Go.Proofs.Ytnmpekbkahkapaa
open Go.RowKit
/-- A function value without variables. -/
def fnV (k : Nat) : Value := .func (.func k) #[] #[]
section
variable {o : Oper} {a : Act} {w : World} {K : Act → World → Prop} {Q : Exit → Act → World → Prop}
theorem wp_callV (y : Operand) (args : Array Operand) (tys : Array TypeId) (ho : o.op = .call { callee := .value y, args := args, argTypes := tys }) {k : Nat} (hy : a.eval y = fnV k) (vs : List Value) (hv : args.toList.map a.eval = vs)
    (hf : ∃ fn, Try.prog.funcs[k]? = some fn ∧ (fn.name == "runtime.NumGoroutine") = false ∧ fn.body.isNone = false)
    (h : Calls Try.prog k vs.toArray w fun e w' => ∃ v, e = .returned v ∧ K (a.put o.dst v) w') : o.wp Try.prog a w K Q := by
  have hv2 : args.map a.eval = vs.toArray := by rw [← hv]; apply Array.ext'; simp
  obtain ⟨fn, hf, hname, hb⟩ := hf
  unfold Oper.wp execOp
  have h1 : fn.name ≠ "runtime.NumGoroutine" := by simpa using hname
  have h2 : ∃ z, fn.body = some z := by
    cases h : fn.body with
    | none => rw [h] at hb; cases hb
    | some z => exact ⟨z, rfl⟩
  obtain ⟨z, h2⟩ := h2
  simp only [ho, resolve, invoke, Sem.run_bind, Sem.run_pure, Result.andThen_ok, hv2, hy, fnV, Deferred.ofValue, Array.empty_append, Array.append_empty]
  simp [callFunc, hf, h1, h2, Sem.run]
  rw [Oper.upon_enter]
  exact h.mono fun e w' ⟨v, he, hk⟩ => by subst he; exact hk
theorem wpList_callV {ops : Array Oper} {rest : List Oper} {dst : Option Tmp} {ty : TypeId} {pos : String} {after : Array Edge} {y : Operand} {args : Array Operand} {tys : Array TypeId} {k : Nat} (vs : List Value) (hy : a.eval y = fnV k) (hv : args.toList.map a.eval = vs)
    (hf : ∃ fn, Try.prog.funcs[k]? = some fn ∧ (fn.name == "runtime.NumGoroutine") = false ∧ fn.body.isNone = false)
    (h : Calls Try.prog k vs.toArray w fun e w' => ∃ v, e = .returned v ∧ wpList Try.prog ops Q rest (a.put dst v) w') :
    wpList Try.prog ops Q ({ dst := dst, op := .call { callee := .value y, args := args, argTypes := tys }, type := ty, pos := pos, after := after, guard := none } :: rest) a w :=
  wpList_plain rfl fun _ hK => wp_callV y args tys rfl hy vs hv hf (h.mono fun _ _ ⟨v, he, hk⟩ => ⟨v, he, hK _ _ hk⟩)
theorem wp_putN {x y : Operand} (ho : o.op = .store 32 x y) {g : Nat} {old : Ans} (r : Ans) {t : TypeId}
    (hx : a.eval x = .pointer (some ⟨g, 0, none⟩)) (hy : a.eval y = .agg (ansC r).toArray) (hg : w.heap[g]? = some (.cells (ansC old).toArray t (0, 0)))
    (h : ∀ W, W.heap[g]? = some (.cells (ansC r).toArray t (0, 0)) → Keeps [g] w W → K (a.put o.dst undef) W) : o.wp Try.prog a w K Q :=
  wp_store_row 32 x y ho g (ansC r).toArray hx hy t (ansC old).toArray hg (by kernel_rfl) rfl (by rw [← Array.all_toList, List.all_eq_true]; exact ansC_one r) (h _ (setRow_heap w g (ansC old).toArray (ansC r).toArray t (0, 0) hg) ((Keeps.refl [g] w).setRow g _ (.inl (by simp))))
end
end Go.Proofs.Ytnmpekbkahkapaa
