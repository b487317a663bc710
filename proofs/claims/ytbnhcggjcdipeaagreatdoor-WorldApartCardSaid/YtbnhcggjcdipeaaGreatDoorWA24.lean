/-
  A key map's bytes, read back.
-/
import Derived.Test.YtbnhcggjcdipeaaGreatDoorWA00
import Derived.Test.YtbnhcggjcdipeaaGreatDoorWA23
import Derived.Test.YtbnhcggjcdipeaaGreatDoorWA08
import Derived.Test.YtbnhcggjcdipeaaGreatDoorWA07
import Derived.Test.YtbnhcggjcdipeaaGreatDoorWA09
import Derived.Test.YtbnhcggjcdipeaaGreatDoorWA21
set_option linter.unusedSimpArgs false
set_option linter.unusedVariables false
namespace Go.Proofs.YtbnhcggjcdipeaaGreatDoor
open Go.RowKit
theorem bits_more (B k : Nat) : B % 2 ^ (k + 1) = B % 2 ^ k + 2 ^ k * (B / 2 ^ k % 2) := Nat.mod_pow_succ
theorem kvR_u8 : ∀ {m : Kv}, (∀ (k : Nat) v, m[k]? = some (some v) → 0 ≤ v ∧ v < 65536) → ∀ x ∈ kvR m, 0 ≤ x ∧ x < 256
  | [], _, x, hx => by cases hx
  | none :: r, h, x, hx => kvR_u8 (m := r) (fun k v hk => h (k + 1) v (by simpa using hk)) x hx
  | some v :: r, h, x, hx => by
    have hv := h 0 v (by simp)
    rcases List.mem_cons.1 hx with rfl | hx
    · omega
    · rcases List.mem_cons.1 hx with rfl | hx
      · omega
      · exact kvR_u8 (m := r) (fun k v hk => h (k + 1) v (by simpa using hk)) x hx
theorem kvBn_u8 {m : Kv} (h : KvIn m) : ∀ x ∈ kvBn m, 0 ≤ x ∧ x < 256 := by
  intro x hx
  rcases List.mem_cons.1 hx with rfl | hx
  · have := h.small; omega
  · exact kvR_u8 h.rng x hx
theorem kvBn_split (m : Kv) (k : Nat) : kvBn m = (kvH m : Int) :: (kvR (m.take k) ++ kvR (m.drop k)) := by rw [← kvR_app, List.take_append_drop]; rfl
/-- What was written is read. -/
theorem dk_enc {m : Kv} (h : KvIn m) : ∀ k, k ≤ 8 → dkS (kvBn m) k = (0, 1 + (kvR (m.take k)).length, m.take k)
  | 0, _ => by
    have hl : 0 + 1 ≤ (kvBn m).length := by simp [kvBn]
    simp only [dkS, rdErr, rdPos, List.take_zero, kvR, List.length_nil]
    rw [if_neg (by simp), if_pos hl, if_pos ⟨trivial, hl⟩]
  | k + 1, hk => by
    have ih := dk_enc h k (by omega)
    have hkm : k < m.length := by rw [h.len]; omega
    have hl : 0 + 1 ≤ (kvBn m).length := by simp [kvBn]
    have hv : rdVal 1 (kvBn m) 0 0 = kvH m := by
      unfold rdVal
      rw [if_pos ⟨rfl, hl⟩, numOf_1 _ _ hl]
      rfl
    rw [dkS, hv, Int.toNat_natCast, ih]
    have hb := kvH_bit m k
    have hn := kvR_next hkm
    have ht : m.take (k + 1) = m.take k ++ [m.getD k none] := by
      rw [List.take_add_one, List.getElem?_eq_getElem hkm, Option.toList_some, List.getD_eq_getElem?_getD, List.getElem?_eq_getElem hkm]
      rfl
    cases ho : m.getD k none with
    | none =>
      rw [ho] at hb hn ht
      simp only [Option.isSome_none, Bool.false_eq_true, if_false] at hb
      rw [if_neg (by omega), hn, List.append_nil, ht]
    | some v =>
      rw [ho] at hb hn ht
      simp only [Option.isSome_some, if_true] at hb
      have hs := kvBn_split m k
      have hd : kvR (m.drop k) = v / 256 :: v % 256 :: kvR (m.drop (k + 1)) := by
        rw [List.drop_eq_getElem_cons hkm]
        rw [List.getD_eq_getElem?_getD, List.getElem?_eq_getElem hkm, Option.getD_some] at ho
        rw [ho]
        rfl
      have hlen : 1 + (kvR (m.take k)).length + 2 ≤ (kvBn m).length := by
        rw [hs, hd]; simp; omega
      have hval : rdVal 2 (kvBn m) 0 (1 + (kvR (m.take k)).length) = v := by
        unfold rdVal
        rw [if_pos ⟨rfl, hlen⟩, numOf_2 _ _ hlen]
        have e0 : (kvBn m).getD (1 + (kvR (m.take k)).length + 0) 0 = v / 256 := by
          rw [hs, hd, Nat.add_zero, Nat.add_comm 1, List.getD_cons_succ, List.getD_eq_getElem?_getD, List.getElem?_append_right (Nat.le_refl _), Nat.sub_self]
          rfl
        have e1 : (kvBn m).getD (1 + (kvR (m.take k)).length + 1) 0 = v % 256 := by
          rw [hs, hd, Nat.add_comm 1, List.getD_cons_succ, List.getD_eq_getElem?_getD, List.getElem?_append_right (by omega), Nat.add_sub_cancel_left]
          rfl
        rw [e0, e1]
        have := h.get ho
        omega
      rw [if_pos hb, hval, ht, ← ht, hn]
      simp only [rdErr, rdPos]
      rw [if_neg (by simp), if_pos hlen, if_pos ⟨trivial, hlen⟩, ht]
      simp only [List.length_append, List.length_cons, List.length_nil]
      congr 2
theorem kvD_enc {m : Kv} (h : KvIn m) : kvD (kvBn m) = (m, 0) := by
  have hm : m.take 8 = m := List.take_of_length_le (by rw [h.len]; exact Nat.le_refl _)
  unfold kvD
  rw [dk_enc h 8 (Nat.le_refl _), hm]
  have hc : closeOf 0 (1 + (kvR m).length) (kvBn m).length = 0 := by
    unfold closeOf
    rw [if_neg (by simp [kvBn]; omega)]
  rw [if_pos hc]
/-- What is read was written. -/
theorem dk_inv {xs : List Int} (hx : InU8 xs) : ∀ k, (dkS xs k).1 = 0 → 1 ≤ xs.length ∧ (dkS xs k).2.1 = 1 + (kvR (dkS xs k).2.2).length ∧ xs.take (dkS xs k).2.1 = rdVal 1 xs 0 0 :: kvR (dkS xs k).2.2 ∧ (dkS xs k).2.1 ≤ xs.length ∧ kvH (dkS xs k).2.2 = (rdVal 1 xs 0 0).toNat % 2 ^ k
  | 0, h => by
    simp only [dkS, rdErr] at h
    rw [if_neg (by simp)] at h
    have hl : 0 + 1 ≤ xs.length := by
      by_cases hl : 0 + 1 ≤ xs.length
      · exact hl
      · rw [if_neg hl] at h; exact absurd h (by decide)
    have hv : rdVal 1 xs 0 0 = xs.getD 0 0 := by unfold rdVal; rw [if_pos ⟨rfl, hl⟩, numOf_1 _ _ hl]
    refine ⟨by omega, ?_, ?_, ?_, ?_⟩
    · simp only [dkS, rdPos]; rw [if_pos ⟨trivial, hl⟩]; rfl
    · simp only [dkS, rdPos]; rw [if_pos ⟨trivial, hl⟩, hv]
      match xs, hl with
      | x :: r, _ => rfl
    · simp only [dkS, rdPos]; rw [if_pos ⟨trivial, hl⟩]; omega
    · simp [dkS, kvH, Nat.mod_one]
  | k + 1, h => by
    rw [dkS] at h ⊢
    have hm := bits_more (rdVal 1 xs 0 0).toNat k
    split at h
    · rename_i hb
      rw [if_pos hb]
      simp only at h ⊢
      have he : (dkS xs k).1 = 0 := by
        by_cases he : (dkS xs k).1 = 0
        · exact he
        · unfold rdErr at h; rw [if_pos he] at h; exact absurd h he
      obtain ⟨h1, h2, h3, h4, h5⟩ := dk_inv hx k he
      have hlen : (dkS xs k).2.1 + 2 ≤ xs.length := by
        unfold rdErr at h
        rw [if_neg (by simp [he])] at h
        by_cases hl : (dkS xs k).2.1 + 2 ≤ xs.length
        · exact hl
        · rw [if_neg hl] at h; exact absurd h (by decide)
      have hp : rdPos 2 xs (dkS xs k).1 (dkS xs k).2.1 = (dkS xs k).2.1 + 2 := by unfold rdPos; rw [if_pos ⟨he, hlen⟩]
      have hv : rdVal 2 xs (dkS xs k).1 (dkS xs k).2.1 = xs.getD ((dkS xs k).2.1 + 0) 0 * 256 + xs.getD ((dkS xs k).2.1 + 1) 0 := by unfold rdVal; rw [if_pos ⟨he, hlen⟩, numOf_2 _ _ hlen]
      have hr : kvR ((dkS xs k).2.2 ++ [some (rdVal 2 xs (dkS xs k).1 (dkS xs k).2.1)]) = kvR (dkS xs k).2.2 ++ [xs.getD ((dkS xs k).2.1 + 0) 0, xs.getD ((dkS xs k).2.1 + 1) 0] := by
        rw [kvR_app, kvR, kvR, hv]
        have a0 := hx ((dkS xs k).2.1 + 0); have a1 := hx ((dkS xs k).2.1 + 1)
        congr 2
        · omega
        · congr 1
          omega
      rw [hp, hr]
      refine ⟨h1, by rw [List.length_append, h2]; simp; omega, ?_, hlen, ?_⟩
      · rw [List.take_add, h3, drop_cons xs (dkS xs k).2.1 (by omega), drop_cons xs ((dkS xs k).2.1 + 1) (by omega)]
        rfl
      · rw [kvH_app, h5, hm, dkS_len, hb]
        simp [kvH]
    · rename_i hb
      rw [if_neg hb]
      simp only at h ⊢
      obtain ⟨h1, h2, h3, h4, h5⟩ := dk_inv hx k h
      have hr : kvR ((dkS xs k).2.2 ++ [none]) = kvR (dkS xs k).2.2 := by rw [kvR_app]; simp [kvR]
      rw [hr]
      refine ⟨h1, h2, h3, h4, ?_⟩
      rw [kvH_app, h5, hm, dkS_len, show (rdVal 1 xs 0 0).toNat / 2 ^ k % 2 = 0 by omega]
      simp [kvH]
theorem kvD_back {xs : List Int} (hx : InU8 xs) (h : (kvD xs).2 = 0) : kvBn (kvD xs).1 = xs := by
  unfold kvD at h ⊢
  split at h
  · rename_i hc
    rw [if_pos hc]
    simp only
    unfold closeOf at hc
    split at hc
    · exact absurd hc (by decide)
    · rename_i hp
      obtain ⟨h1, h2, h3, h4, h5⟩ := dk_inv hx 8 hc
      have e : (dkS xs 8).2.1 = xs.length := by
        have : ¬ (dkS xs 8).2.1 < xs.length := fun hh => hp ⟨hc, hh⟩
        omega
      rw [e, List.take_length] at h3
      have hb := rdVal1_in hx 0 0
      unfold kvBn
      rw [h5, Nat.mod_eq_of_lt (by omega), show (((rdVal 1 xs 0 0).toNat : Nat) : Int) = rdVal 1 xs 0 0 by omega]
      exact h3.symm
  · exact absurd h (by decide)
end Go.Proofs.YtbnhcggjcdipeaaGreatDoor
/-
  The program's key map: the four steps.
-/
namespace Go.Proofs.YtbnhcggjcdipeaaGreatDoor
open Go.RowKit
theorem results_kv2 {fn : Func} {p u : Tmp} (h : fn.results = #[.cell p 197, .cell u 25]) (tmps : Array Value) (w : World) (b c : Nat) {z : Int} {vs : List Int} (y : Ans) {t t2 : TypeId}
    (hp : tmps.getD p undef = .pointer (some ⟨b, 0, none⟩)) (hb : w.heap[b]? = some (.cells (kvA z vs) t (0, 0))) (hu : tmps.getD u undef = .pointer (some ⟨c, 0, none⟩)) (hc : w.heap[c]? = some (.cells (ansC y).toArray t2 (0, 0))) :
    (results fn tmps).run Tryz.prog w = .ok (.tuple #[.agg (kvA z vs), .agg (ansC y).toArray]) w := by
  have h1 : (loadVar 197 ⟨b, 0, none⟩).run Tryz.prog w = .ok (.agg (kvA z vs)) w := run_loadVar_row w b t 197 _ _ _ hb Tryz.underlying197 rfl (by kernel_rfl)
  have h2 : (loadVar 25 ⟨c, 0, none⟩).run Tryz.prog w = .ok (.agg (ansC y).toArray) w := run_loadVar_row w c t2 25 _ _ _ hc Tryz.underlying25 rfl (by kernel_rfl)
  have hp' : tmps[p]?.getD undef = .pointer (some ⟨b, 0, none⟩) := by simpa using hp
  have hu' : tmps[u]?.getD undef = .pointer (some ⟨c, 0, none⟩) := by simpa using hu
  simp only [results, h]
  simp [Sem.run_bind, Result.andThen, hp', hu', asAddr, h1, h2]
theorem results_kv3 {fn : Func} {p u x : Tmp} (h : fn.results = #[.cell p 197, .cell u 25, .tmp x]) (tmps : Array Value) (w : World) (b c : Nat) {z : Int} {vs : List Int} (y : Ans) {t t2 : TypeId}
    (hp : tmps.getD p undef = .pointer (some ⟨b, 0, none⟩)) (hb : w.heap[b]? = some (.cells (kvA z vs) t (0, 0))) (hu : tmps.getD u undef = .pointer (some ⟨c, 0, none⟩)) (hc : w.heap[c]? = some (.cells (ansC y).toArray t2 (0, 0))) :
    (results fn tmps).run Tryz.prog w = .ok (.tuple #[.agg (kvA z vs), .agg (ansC y).toArray, tmps.getD x undef]) w := by
  have h1 : (loadVar 197 ⟨b, 0, none⟩).run Tryz.prog w = .ok (.agg (kvA z vs)) w := run_loadVar_row w b t 197 _ _ _ hb Tryz.underlying197 rfl (by kernel_rfl)
  have h2 : (loadVar 25 ⟨c, 0, none⟩).run Tryz.prog w = .ok (.agg (ansC y).toArray) w := run_loadVar_row w c t2 25 _ _ _ hc Tryz.underlying25 rfl (by kernel_rfl)
  have hp' : tmps[p]?.getD undef = .pointer (some ⟨b, 0, none⟩) := by simpa using hp
  have hu' : tmps[u]?.getD undef = .pointer (some ⟨c, 0, none⟩) := by simpa using hu
  simp only [results, h]
  simp [Sem.run_bind, Result.andThen, hp', hu', asAddr, h1, h2]
/-- The world behind a step's variables. -/
theorem vars_k (w : World) (h : Int) (vs : List Int) (A : Array Value) (W : World) (hW : W = (((w.alloc (.cells (kvA h vs) 197)).alloc (.cells A 47)).alloc (.cells (kvA 0 []) 197)).alloc (.cells (ansC ⟨0, 0⟩).toArray 25)) :
    Keeps [] w W ∧ W.heap[w.heap.size]? = some (.cells (kvA h vs) 197 (0, 0)) ∧ W.heap[w.heap.size + 1]? = some (.cells A 47 (0, 0)) ∧ W.heap[w.heap.size + 2]? = some (.cells (kvA 0 []) 197 (0, 0)) ∧ W.heap[w.heap.size + 3]? = some (.cells (ansC ⟨0, 0⟩).toArray 25 (0, 0)) ∧ W.heap.size = w.heap.size + 4 := by
  have e1 : (w.alloc (.cells (kvA h vs) 197)).heap.size = w.heap.size + 1 := Array.size_push _
  have e2 : ((w.alloc (.cells (kvA h vs) 197)).alloc (.cells A 47)).heap.size = w.heap.size + 2 := by
    rw [show ((w.alloc (.cells (kvA h vs) 197)).alloc (.cells A 47)).heap.size = (w.alloc (.cells (kvA h vs) 197)).heap.size + 1 from Array.size_push _, e1]
  have e3 : (((w.alloc (.cells (kvA h vs) 197)).alloc (.cells A 47)).alloc (.cells (kvA 0 []) 197)).heap.size = w.heap.size + 3 := by
    rw [show (((w.alloc (.cells (kvA h vs) 197)).alloc (.cells A 47)).alloc (.cells (kvA 0 []) 197)).heap.size = ((w.alloc (.cells (kvA h vs) 197)).alloc (.cells A 47)).heap.size + 1 from Array.size_push _, e2]
  subst hW
  refine ⟨((((Keeps.refl _ _).alloc _).alloc _).alloc _).alloc _, ?_, ?_, ?_, ?_, ?_⟩
  · exact ((((Keeps.refl [] (w.alloc (.cells (kvA h vs) 197))).alloc _).alloc _).alloc _).heap (heap_alloc_new w _) (by simp)
  · have h := heap_alloc_new (w.alloc (.cells (kvA h vs) 197)) (.cells A 47)
    rw [e1] at h
    exact (((Keeps.refl [] _).alloc _).alloc _).heap h (by simp)
  · have h := heap_alloc_new ((w.alloc (.cells (kvA h vs) 197)).alloc (.cells A 47)) (.cells (kvA 0 []) 197)
    rw [e2] at h
    exact ((Keeps.refl [] _).alloc _).heap h (by simp)
  · have h := heap_alloc_new (((w.alloc (.cells (kvA h vs) 197)).alloc (.cells A 47)).alloc (.cells (kvA 0 []) 197)) (.cells (ansC ⟨0, 0⟩).toArray 25)
    rw [e3] at h
    exact h
  · rw [show ((((w.alloc (.cells (kvA h vs) 197)).alloc (.cells A 47)).alloc (.cells (kvA 0 []) 197)).alloc (.cells (ansC ⟨0, 0⟩).toArray 25)).heap.size = (((w.alloc (.cells (kvA h vs) 197)).alloc (.cells A 47)).alloc (.cells (kvA 0 []) 197)).heap.size + 1 from Array.size_push _, e3]
theorem kvHas_kv (w : World) {m : Kv} (hm : KvIn m) {key : Int} (h0 : 0 ≤ key) : Calls Tryz.prog 158 #[.agg (kvA (kvH m) (kvV m)), .int .u8 key] w fun e w' => e = .returned (.bool (m.getD key.toNat none).isSome) ∧ Keeps [] w w' := by
  refine (kvHas_any w hm.small (kvV m) h0).mono ?_
  rintro e w' ⟨rfl, hk⟩
  refine ⟨?_, hk⟩
  have hb := kvH_bit m key.toNat
  cases ho : (m.getD key.toNat none).isSome with
  | true => rw [ho] at hb; rw [decide_eq_true (by simpa using hb)]
  | false => rw [ho] at hb; rw [decide_eq_false (by simp at hb; omega)]
/-- What a step tells. -/
def KsPost (w : World) (m : Kv) (r : Ans) (e : Ending) (w' : World) : Prop := e = .returned (.tuple #[kvVal m, .agg (ansC r).toArray]) ∧ Keeps [] w w'
set_option maxHeartbeats 8000000
set_option maxRecDepth 100000
section
variable {ops : Array Oper} {rest : List Oper} {o : Oper} {a : Act} {w : World} {K : Act → World → Prop} {Q : Exit → Act → World → Prop}
theorem wp_loadKh {x : Operand} (ho : o.op = .load 5 x) {g : Nat} {h : Int} {vs : List Int} {t : TypeId} (hx : a.eval x = .pointer (some ⟨g, 0, none⟩)) (hg : w.heap[g]? = some (.cells (kvA h vs) t (0, 0)))
    (hK : K (a.put o.dst (.int .u8 h)) w) : o.wp Tryz.prog a w K Q := by
  have hrun : (loadVar 5 ⟨g, 0, none⟩).run Tryz.prog w = .ok (.int .u8 h) w := by simp [loadVar, run_underlying Tryz.underlying5, kv_byte hg]
  unfold Oper.wp execOp
  simp only [ho, hx, Instr.loadAt, Instr.sureAddr, Sem.run_bind, Sem.run_pure, Result.andThen_ok, hrun]
  exact hK
theorem wpList_loadKh {dst : Option Tmp} {ty : TypeId} {pos : String} {after : Array Edge} {x : Operand} {g : Nat} {h : Int} {vs : List Int} {t : TypeId}
    (hx : a.eval x = .pointer (some ⟨g, 0, none⟩)) (hg : w.heap[g]? = some (.cells (kvA h vs) t (0, 0))) (hK : wpList Tryz.prog ops Q rest (a.put dst (.int .u8 h)) w) :
    wpList Tryz.prog ops Q ({ dst := dst, op := .load 5 x, type := ty, pos := pos, after := after, guard := none } :: rest) a w :=
  wpList_plain rfl fun _ hk => wp_loadKh rfl hx hg (hk _ _ hK)
theorem wp_putKh {x y : Operand} (ho : o.op = .store 5 x y) {g : Nat} {h h2 : Int} {vs : List Int} {t : TypeId}
    (hx : a.eval x = .pointer (some ⟨g, 0, none⟩)) (hy : a.eval y = .int .u8 h2) (hg : w.heap[g]? = some (.cells (kvA h vs) t (0, 0)))
    (hK : ∀ W, W.heap[g]? = some (.cells (kvA h2 vs) t (0, 0)) → Keeps [g] w W → K (a.put o.dst undef) W) : o.wp Tryz.prog a w K Q :=
  wp_put1 ho hx hy (by kernel_rfl) rfl (by rw [kv_byte hg]; rfl) (kv_thaw hg 0) (hK _ (kv_puth hg) ((Keeps.refl [g] w).setCell _ _ (.inl (by simp))))
theorem wpList_putKh {dst : Option Tmp} {ty : TypeId} {pos : String} {after : Array Edge} {x y : Operand} {g : Nat} {h h2 : Int} {vs : List Int} {t : TypeId}
    (hx : a.eval x = .pointer (some ⟨g, 0, none⟩)) (hy : a.eval y = .int .u8 h2) (hg : w.heap[g]? = some (.cells (kvA h vs) t (0, 0)))
    (hK : ∀ W, W.heap[g]? = some (.cells (kvA h2 vs) t (0, 0)) → Keeps [g] w W → wpList Tryz.prog ops Q rest (a.put dst undef) W) :
    wpList Tryz.prog ops Q ({ dst := dst, op := .store 5 x y, type := ty, pos := pos, after := after, guard := none } :: rest) a w :=
  wpList_plain rfl fun _ hk => wp_putKh rfl hx hy hg fun W h3 h4 => hk _ _ (hK W h3 h4)
theorem wp_putKv {x y : Operand} (ho : o.op = .store 23 x y) {g k : Nat} {h v : Int} {vs : List Int} {t : TypeId} (hl : vs.length = 8) (hk : k < 8)
    (hx : a.eval x = .pointer (some ⟨g, 1 + k, none⟩)) (hy : a.eval y = .int .u16 v) (hg : w.heap[g]? = some (.cells (kvA h vs) t (0, 0)))
    (hK : ∀ W, W.heap[g]? = some (.cells (kvA h (vs.set k v)) t (0, 0)) → Keeps [g] w W → K (a.put o.dst undef) W) : o.wp Tryz.prog a w K Q :=
  wp_put1 ho hx hy (by kernel_rfl) rfl (by rw [kv_cell hg hk]; rfl) (kv_thaw hg (1 + k)) (hK _ (kv_put hg hl hk v) ((Keeps.refl [g] w).setCell _ _ (.inl (by simp))))
theorem wpList_putKv {dst : Option Tmp} {ty : TypeId} {pos : String} {after : Array Edge} {x y : Operand} {g k : Nat} {h v : Int} {vs : List Int} {t : TypeId} (hl : vs.length = 8) (hk : k < 8)
    (hx : a.eval x = .pointer (some ⟨g, 1 + k, none⟩)) (hy : a.eval y = .int .u16 v) (hg : w.heap[g]? = some (.cells (kvA h vs) t (0, 0)))
    (hK : ∀ W, W.heap[g]? = some (.cells (kvA h (vs.set k v)) t (0, 0)) → Keeps [g] w W → wpList Tryz.prog ops Q rest (a.put dst undef) W) :
    wpList Tryz.prog ops Q ({ dst := dst, op := .store 23 x y, type := ty, pos := pos, after := after, guard := none } :: rest) a w :=
  wpList_plain rfl fun _ hj => wp_putKv rfl hl hk hx hy hg fun W h3 h4 => hj _ _ (hK W h3 h4)
theorem wpList_shl8 {dst : Option Tmp} {ty T : TypeId} {pos : String} {after : Array Edge} {x y : Operand} {k v : Int} (hx : a.eval x = .int .u8 1) (hy : a.eval y = .int .u8 k)
    (hr : ∀ w, (Op.shift BinOp.shl IntKind.u8 1 IntKind.u8 k).run Tryz.prog w = .ok (.int .u8 v) w) (h : wpList Tryz.prog ops Q rest (a.put dst (.int .u8 v)) w) :
    wpList Tryz.prog ops Q ({ dst := dst, op := .binOp .shl 5 x y T, type := ty, pos := pos, after := after, guard := none } :: rest) a w :=
  wpList_plain rfl fun _ hk => by
    unfold Oper.wp execOp
    have e := hr w
    simp only [hx, hy, Sem.run_bind]
    simp [go_sem, e, Result.andThen]
    exact hk _ _ h
theorem wpList_or8 {dst : Option Tmp} {ty T : TypeId} {pos : String} {after : Array Edge} {x y : Operand} {A B v : Int} (hx : a.eval x = .int .u8 A) (hy : a.eval y = .int .u8 B)
    (hr : bits .or .u8 A B = v) (h : wpList Tryz.prog ops Q rest (a.put dst (.int .u8 v)) w) :
    wpList Tryz.prog ops Q ({ dst := dst, op := .binOp .or 5 x y T, type := ty, pos := pos, after := after, guard := none } :: rest) a w :=
  wpList_plain rfl fun _ hk => by
    unfold Oper.wp execOp
    simp only [hx, hy, Sem.run_bind]
    simp [go_sem, hr, Result.andThen]
    exact hk _ _ h
theorem wpList_not8 {dst : Option Tmp} {ty T : TypeId} {pos : String} {after : Array Edge} {x y : Operand} {A B v : Int} (hx : a.eval x = .int .u8 A) (hy : a.eval y = .int .u8 B)
    (hr : bits .andNot .u8 A B = v) (h : wpList Tryz.prog ops Q rest (a.put dst (.int .u8 v)) w) :
    wpList Tryz.prog ops Q ({ dst := dst, op := .binOp .andNot 5 x y T, type := ty, pos := pos, after := after, guard := none } :: rest) a w :=
  wpList_plain rfl fun _ hk => by
    unfold Oper.wp execOp
    simp only [hx, hy, Sem.run_bind]
    simp [go_sem, hr, Result.andThen]
    exact hk _ _ h
end
theorem kvGet_none (w : World) {m : Kv} (hm : KvIn m) (f o a b : Int) {kn : Nat} (hk8 : kn < 8) (ho : m.getD kn none = none) :
    Calls Tryz.prog 199 #[.agg (kvA (kvH m) (kvV m)), .agg #[.int .u8 f, .int .u8 o, .int .u8 (kn : Int), .int .u16 a, .int .u16 b]] w (KsPost w m ⟨2, 0⟩) := by
  obtain ⟨W, hW⟩ : ∃ W, W = (((w.alloc (.cells (kvA (kvH m) (kvV m)) 197)).alloc (.cells #[.int .u8 f, .int .u8 o, .int .u8 (kn : Int), .int .u16 a, .int .u16 b] 47)).alloc (.cells (kvA 0 []) 197)).alloc (.cells (ansC ⟨0, 0⟩).toArray 25) := ⟨_, rfl⟩
  obtain ⟨hk0, h0, h1, h2, h3, hz⟩ := vars_k w _ _ _ W hW
  simp only [show (ansC ⟨0, 0⟩).toArray = #[Value.int .u8 0, .int .u16 0] from rfl, show kvA 0 [] = #[Value.int .u8 0, .int .u16 0, .int .u16 0, .int .u16 0, .int .u16 0, .int .u16 0, .int .u16 0, .int .u16 0, .int .u16 0] from rfl] at hW
  have h0' := h0
  rw [hW] at h0'
  have HL0 := Lib.hid h0'
  obtain ⟨R, hR⟩ : ∃ R, R = w.heap.size := ⟨_, rfl⟩
  rw [← hR] at h0 h1 h2 h3 hz
  have HWW := Lib.hid hW; have HRE := Lib.hid hR; have HK0 := Lib.hid hk0
  have HZ := Lib.hid hz; have HO := Lib.hid ho
  have HHAS := Lib.hid (fun w => kvHas_kv w hm (key := (kn : Int)) (Int.natCast_nonneg _))
  clear h0' hW hR hk0 hz
  go_enter Tryz.func199, Tryz.ntmps199
  go_wp2_with ((with_reducible refine wpList_loadK (g := w.heap.size) rfl ?_ HL0.out ?_); exact rfl)
  refine (HHAS.out _).mono ?_; rintro e w1 ⟨rfl, hk1⟩
  rw [← HWW.out] at hk1
  rw [← HRE.out, Int.toNat_natCast, HO.out]
  simp only [Option.isSome_none, Option.isSome_some]
  have HB0 := Lib.hid (hk1.heap h0 (by simp)); have HB2 := Lib.hid (hk1.heap h2 (by simp)); have HB3 := Lib.hid (hk1.heap h3 (by simp))
  have hb1 := hk1.heap h1 (by simp)
  have c2 : w1.cell? ⟨R + 1, 2, none⟩ = some (.int .u8 (kn : Int)) := cell_lit hb1 2 rfl
  have c3 : w1.cell? ⟨R + 1, 3, none⟩ = some (.int .u16 a) := cell_lit hb1 3 rfl
  have c4 : w1.cell? ⟨R + 1, 4, none⟩ = some (.int .u16 b) := cell_lit hb1 4 rfl
  have HK1 := Lib.hid (HK0.out.trans hk1 (FSub.refl _ _))
  clear h0 h1 h2 h3 hb1 hk1 HL0 HK0 HHAS
  go_wp2_with (first
    | ((with_reducible refine wpList_loadK (g := R) rfl ?_ HB0.out ?_); exact rfl)
    | ((with_reducible refine wpList_putK (g := R + 2) (h := kvH m) (vs := kvV m) ?_ ?_ HB2.out ?_); exact rfl; exact rfl))
  intro W2 hW2 hk2
  have HW2 := Lib.hid hW2
  have HA2 := Lib.hid (hk2.heap HB3.out (by simp))
  have HK2 := Lib.hid (HK1.out.trans hk2 (fun q hq => .inr (by have := HRE.out; simp at hq; omega)))
  clear hW2 hk2
  go_wp2_with ((with_reducible refine wpList_putN (g := R + 3) (old := ⟨0, 0⟩) ⟨2, 0⟩ ?_ ?_ HA2.out ?_); exact rfl; exact rfl)
  intro W3 hW3 hk3
  have HW3 := Lib.hid hW3
  have HS3 := Lib.hid (hk3.heap HW2.out (by simp))
  have HK3 := Lib.hid (HK2.out.trans hk3 (fun q hq => .inr (by have := HRE.out; simp at hq; omega)))
  clear hW3 hk3
  go_wp2_with fail
  try simp only [Exit.inBlock, Exit.then]
  exact bodyPost_ret (results_kv2 rfl _ _ (R + 2) (R + 3) ⟨2, 0⟩ rfl HS3.out rfl HW3.out) rfl ⟨rfl, HK3.out⟩
theorem kvGet_some (w : World) {m : Kv} (hm : KvIn m) (f o a b : Int) {kn : Nat} (hk8 : kn < 8) {v : Int} (ho : m.getD kn none = some v) :
    Calls Tryz.prog 199 #[.agg (kvA (kvH m) (kvV m)), .agg #[.int .u8 f, .int .u8 o, .int .u8 (kn : Int), .int .u16 a, .int .u16 b]] w (KsPost w m ⟨1, v⟩) := by
  have hcv : (kvV m).getD kn 0 = v := by rw [kvV_getD (by rw [hm.len]; exact hk8), ho]; rfl
  have HCV := Lib.hid hcv
  clear hcv
  obtain ⟨W, hW⟩ : ∃ W, W = (((w.alloc (.cells (kvA (kvH m) (kvV m)) 197)).alloc (.cells #[.int .u8 f, .int .u8 o, .int .u8 (kn : Int), .int .u16 a, .int .u16 b] 47)).alloc (.cells (kvA 0 []) 197)).alloc (.cells (ansC ⟨0, 0⟩).toArray 25) := ⟨_, rfl⟩
  obtain ⟨hk0, h0, h1, h2, h3, hz⟩ := vars_k w _ _ _ W hW
  simp only [show (ansC ⟨0, 0⟩).toArray = #[Value.int .u8 0, .int .u16 0] from rfl, show kvA 0 [] = #[Value.int .u8 0, .int .u16 0, .int .u16 0, .int .u16 0, .int .u16 0, .int .u16 0, .int .u16 0, .int .u16 0, .int .u16 0] from rfl] at hW
  have h0' := h0
  rw [hW] at h0'
  have HL0 := Lib.hid h0'
  obtain ⟨R, hR⟩ : ∃ R, R = w.heap.size := ⟨_, rfl⟩
  rw [← hR] at h0 h1 h2 h3 hz
  have HWW := Lib.hid hW; have HRE := Lib.hid hR; have HK0 := Lib.hid hk0
  have HZ := Lib.hid hz; have HO := Lib.hid ho
  have HHAS := Lib.hid (fun w => kvHas_kv w hm (key := (kn : Int)) (Int.natCast_nonneg _))
  clear h0' hW hR hk0 hz
  go_enter Tryz.func199, Tryz.ntmps199
  go_wp2_with ((with_reducible refine wpList_loadK (g := w.heap.size) rfl ?_ HL0.out ?_); exact rfl)
  refine (HHAS.out _).mono ?_; rintro e w1 ⟨rfl, hk1⟩
  rw [← HWW.out] at hk1
  rw [← HRE.out, Int.toNat_natCast, HO.out]
  simp only [Option.isSome_none, Option.isSome_some]
  have HB0 := Lib.hid (hk1.heap h0 (by simp)); have HB2 := Lib.hid (hk1.heap h2 (by simp)); have HB3 := Lib.hid (hk1.heap h3 (by simp))
  have hb1 := hk1.heap h1 (by simp)
  have c2 : w1.cell? ⟨R + 1, 2, none⟩ = some (.int .u8 (kn : Int)) := cell_lit hb1 2 rfl
  have c3 : w1.cell? ⟨R + 1, 3, none⟩ = some (.int .u16 a) := cell_lit hb1 3 rfl
  have c4 : w1.cell? ⟨R + 1, 4, none⟩ = some (.int .u16 b) := cell_lit hb1 4 rfl
  have HK1 := Lib.hid (HK0.out.trans hk1 (FSub.refl _ _))
  clear h0 h1 h2 h3 hb1 hk1 HL0 HK0 HHAS
  have c0 := kv_cell HB0.out hk8
  rw [HCV.out] at c0
  obtain ⟨S, hS⟩ : ∃ S : World → Prop, S = fun y => Keeps [R + 2, R + 3] w1 y := ⟨_, rfl⟩
  have HSE := Lib.hid hS
  have hSD : S w1.drew := by rw [hS]; exact (Keeps.refl _ _).drew
  have HS0 := Lib.hid (fun (w' : World) (hh : S w') => show ∃ t, w'.heap[R]? = some (.cells (kvA (kvH m) (kvV m)) t (0, 0)) from by rw [hS] at hh; exact ⟨_, hh.heap HB0.out (by simp)⟩)
  have HSK := Lib.hid (fun (w' : World) (hh : S w') => show w'.cell? ⟨R + 1, 2, none⟩ = some (.int .u8 (kn : Int)) from by rw [hS] at hh; exact hh.cell c2 (by simp))
  have HSV := Lib.hid (fun (w' : World) (hh : S w') => show w'.cell? ⟨R, 1 + kn, none⟩ = some (.int .u16 v) from by rw [hS] at hh; exact hh.cell c0 (by simp))
  have HLT := Lib.hid (fun (w' : World) (_ : S w') => show (kn : Int) < 8 from by omega)
  clear hS c0 c2 c3 c4
  go_wp2_with fail
  refine wp_region_noPanic ?_
  refine wp_region_held_drew (S := S) (by kernel_rfl) hSD (fun hHeld => ?_)
  refine tk 0 (y := by exact yields_loadK (by rfl) _ rfl R rfl _ _ HS0.out) (h := ?_)
  refine tw 1 (h := ?_)
  refine tk 2 (y := by exact Or.inl ⟨by rfl, by intro w hSw; have q0 := HSK.out w hSw; go_simp; try with_reducible rfl⟩) (h := ?_)
  refine tw 3 (h := ?_)
  refine tk 4 (y := by exact Or.inl ⟨by rfl, by intro w hSw; have q0 := HLT.out w hSw; go_simp; try with_reducible rfl⟩) (h := ?_)
  refine tk 5 (y := by exact Or.inl ⟨by rfl, by intro w hSw; have q0 := HSV.out w hSw; go_simp; try with_reducible rfl⟩) (h := ?_)
  refine tw 6 (h := ?_)
  refine rp 7 (h := fun K hK => ?_)
  refine wp_putK rfl (g := R + 2) (h := kvH m) (vs := kvV m) rfl rfl (HB2.out) (fun W2 hW2 hk2 => ?_)
  have HW2 := Lib.hid hW2
  have HA2 := Lib.hid (hk2.heap HB3.out (by simp))
  have HK2 := Lib.hid (show Keeps [R + 2, R + 3] w1 W2 from (((Keeps.refl [R + 2, R + 3] w1).drew).step hk2 (by simp)))
  clear hW2 hk2
  refine hK.out _ _ (by rw [HSE.out]; exact HK2.out) (fun hHeld => ?_); clear hK K; try simp only [Act.put, lsA, lsZ, lsS]
  refine rp 8 (h := fun K hK => ?_)
  refine wp_putN rfl (g := R + 3) (old := ⟨0, 0⟩) ⟨1, v⟩ rfl rfl HA2.out (fun W3 hW3 hk3 => ?_)
  have HW3 := Lib.hid hW3
  have HS3 := Lib.hid (hk3.heap HW2.out (by simp))
  have HK3 := Lib.hid (HK2.out.step hk3 (by simp))
  clear hW3 hk3
  refine hK.out _ _ (by rw [HSE.out]; exact HK3.out) (fun hHeld => ?_); clear hK K; try simp only [Act.put, lsA, lsZ, lsS]
  refine wpAnyH_done (by kernel_rfl) ?_ _
  refine NoPanic.normal ?_
  go_wp2_with fail
  try simp only [Exit.inBlock, Exit.then]
  exact bodyPost_ret (results_kv2 rfl _ _ (R + 2) (R + 3) ⟨1, v⟩ rfl HS3.out rfl HW3.out) rfl ⟨rfl, HK1.out.trans HK3.out (fun q hq => .inr (by have := HRE.out; simp at hq; omega))⟩
theorem kvPut_all (w : World) {m : Kv} (hm : KvIn m) (f o a b : Int) {kn : Nat} (hk8 : kn < 8) :
    Calls Tryz.prog 200 #[.agg (kvA (kvH m) (kvV m)), .agg #[.int .u8 f, .int .u8 o, .int .u8 (kn : Int), .int .u16 a, .int .u16 b]] w (KsPost w (m.set kn (some a)) ⟨0, 0⟩) := by
  have ho : kvV (m.set kn (some a)) = (kvV m).set kn a := kvV_set m kn (some a)
  have HSH := Lib.hid (shl8 hk8)
  have hor := kvH_put hm.len hk8 a
  obtain ⟨H2, hH2⟩ : ∃ H2, H2 = kvH (m.set kn (some a)) := ⟨_, rfl⟩
  rw [← hH2] at hor
  have HOR := Lib.hid hor; have HH2 := Lib.hid hH2
  have hvl : (kvV m).length = 8 := by rw [kvV_len, hm.len]
  have HVL := Lib.hid hvl; have HK8 := Lib.hid hk8
  obtain ⟨W, hW⟩ : ∃ W, W = (((w.alloc (.cells (kvA (kvH m) (kvV m)) 197)).alloc (.cells #[.int .u8 f, .int .u8 o, .int .u8 (kn : Int), .int .u16 a, .int .u16 b] 47)).alloc (.cells (kvA 0 []) 197)).alloc (.cells (ansC ⟨0, 0⟩).toArray 25) := ⟨_, rfl⟩
  obtain ⟨hk0, h0, h1, h2, h3, hz⟩ := vars_k w _ _ _ W hW
  simp only [show (ansC ⟨0, 0⟩).toArray = #[Value.int .u8 0, .int .u16 0] from rfl, show kvA 0 [] = #[Value.int .u8 0, .int .u16 0, .int .u16 0, .int .u16 0, .int .u16 0, .int .u16 0, .int .u16 0, .int .u16 0, .int .u16 0] from rfl] at hW
  have h0' := h0
  rw [hW] at h0'
  have HL0 := Lib.hid h0'
  obtain ⟨R, hR⟩ : ∃ R, R = w.heap.size := ⟨_, rfl⟩
  rw [← hR] at h0 h1 h2 h3 hz
  have HWW := Lib.hid hW; have HRE := Lib.hid hR; have HK0 := Lib.hid hk0
  have HZ := Lib.hid hz; have HO := Lib.hid ho
  have HHAS := Lib.hid (fun w => kvHas_kv w hm (key := (kn : Int)) (Int.natCast_nonneg _))
  clear h0' hW hR hk0 hz
  clear HHAS hvl hk8 hm ho hor hH2
  generalize 2 ^ kn = q at *
  go_enter Tryz.func200, Tryz.ntmps200
  go_wp2_with (first
    | ((with_reducible refine wpList_loadKh (g := w.heap.size) ?_ HL0.out ?_); exact rfl)
    | ((with_reducible refine wpList_shl8 (v := (q : Int)) ?_ ?_ HSH.out ?_); exact rfl; exact rfl)
    | ((with_reducible refine wpList_or8 (v := (H2 : Int)) ?_ ?_ HOR.out ?_); exact rfl; exact rfl)
    | ((with_reducible refine wpList_putKh (g := w.heap.size) (h2 := (H2 : Int)) ?_ ?_ HL0.out ?_); exact rfl; exact rfl))
  intro w1 hb0 hk1
  rw [← HWW.out, ← HRE.out] at hk1
  rw [← HRE.out] at hb0
  rw [← HRE.out]
  have HB0 := Lib.hid hb0
  have hb1 := hk1.heap h1 (by simp)
  have c2 : w1.cell? ⟨R + 1, 2, none⟩ = some (.int .u8 (kn : Int)) := cell_lit hb1 2 rfl
  have c3 : w1.cell? ⟨R + 1, 3, none⟩ = some (.int .u16 a) := cell_lit hb1 3 rfl
  have HB2 := Lib.hid (hk1.heap h2 (by simp)); have HB3 := Lib.hid (hk1.heap h3 (by simp))
  have HK1 := Lib.hid (HK0.out.trans hk1 (fun q hq => .inr (by have := HRE.out; simp at hq; omega)))
  have hlt : (kn : Int) < 8 := by have := HK8.out; omega
  clear hb0 hk1 h0 h1 h2 h3 HK0 HL0 hb1
  go_wp2_with ((with_reducible refine wpList_putKv (g := R) (k := kn) (v := a) HVL.out HK8.out ?_ ?_ HB0.out ?_); exact rfl; exact rfl)
  intro w2 hb0 hk2
  have hb2 := hk2.heap HB2.out (by simp)
  have hb3 := hk2.heap HB3.out (by simp)
  have hkn := HK1.out.trans hk2 (fun q hq => .inr (by have := HRE.out; simp at hq; omega))
  clear HB0 HB2 HB3 HK1 c2 c3 hk2
  rw [← HO.out] at hb0
  have HB0 := Lib.hid hb0; have HB2 := Lib.hid hb2; have HB3 := Lib.hid hb3; have HK1 := Lib.hid hkn
  clear hb0 hb2 hb3 hkn
  go_wp2_with (first
    | ((with_reducible refine wpList_loadK (g := R) rfl ?_ HB0.out ?_); exact rfl)
    | ((with_reducible refine wpList_putK (g := R + 2) (h := (H2 : Int)) (vs := (kvV (m.set kn (some a)))) ?_ ?_ HB2.out ?_); exact rfl; exact rfl))
  intro W2 hW2 hk2
  have HW2 := Lib.hid hW2
  have HA2 := Lib.hid (hk2.heap HB3.out (by simp))
  have HK2 := Lib.hid (HK1.out.trans hk2 (fun q hq => .inr (by have := HRE.out; simp at hq; omega)))
  clear hW2 hk2
  go_wp2_with ((with_reducible refine wpList_putN (g := R + 3) (old := ⟨0, 0⟩) ⟨0, 0⟩ ?_ ?_ HA2.out ?_); exact rfl; exact rfl)
  intro W3 hW3 hk3
  have HW3 := Lib.hid hW3
  have HS3 := Lib.hid (hk3.heap HW2.out (by simp))
  have HK3 := Lib.hid (HK2.out.trans hk3 (fun q hq => .inr (by have := HRE.out; simp at hq; omega)))
  clear hW3 hk3
  go_wp2_with fail
  try simp only [Exit.inBlock, Exit.then]
  exact bodyPost_ret (results_kv2 rfl _ _ (R + 2) (R + 3) ⟨0, 0⟩ rfl HS3.out rfl HW3.out) rfl ⟨(by unfold kvVal; rw [← HH2.out]), HK3.out⟩
theorem kvDel_none (w : World) {m : Kv} (hm : KvIn m) (f o a b : Int) {kn : Nat} (hk8 : kn < 8) (ho : m.getD kn none = none) :
    Calls Tryz.prog 201 #[.agg (kvA (kvH m) (kvV m)), .agg #[.int .u8 f, .int .u8 o, .int .u8 (kn : Int), .int .u16 a, .int .u16 b]] w (KsPost w m ⟨4, 0⟩) := by
  obtain ⟨W, hW⟩ : ∃ W, W = (((w.alloc (.cells (kvA (kvH m) (kvV m)) 197)).alloc (.cells #[.int .u8 f, .int .u8 o, .int .u8 (kn : Int), .int .u16 a, .int .u16 b] 47)).alloc (.cells (kvA 0 []) 197)).alloc (.cells (ansC ⟨0, 0⟩).toArray 25) := ⟨_, rfl⟩
  obtain ⟨hk0, h0, h1, h2, h3, hz⟩ := vars_k w _ _ _ W hW
  simp only [show (ansC ⟨0, 0⟩).toArray = #[Value.int .u8 0, .int .u16 0] from rfl, show kvA 0 [] = #[Value.int .u8 0, .int .u16 0, .int .u16 0, .int .u16 0, .int .u16 0, .int .u16 0, .int .u16 0, .int .u16 0, .int .u16 0] from rfl] at hW
  have h0' := h0
  rw [hW] at h0'
  have HL0 := Lib.hid h0'
  obtain ⟨R, hR⟩ : ∃ R, R = w.heap.size := ⟨_, rfl⟩
  rw [← hR] at h0 h1 h2 h3 hz
  have HWW := Lib.hid hW; have HRE := Lib.hid hR; have HK0 := Lib.hid hk0
  have HZ := Lib.hid hz; have HO := Lib.hid ho
  have HHAS := Lib.hid (fun w => kvHas_kv w hm (key := (kn : Int)) (Int.natCast_nonneg _))
  clear h0' hW hR hk0 hz
  go_enter Tryz.func201, Tryz.ntmps201
  go_wp2_with ((with_reducible refine wpList_loadK (g := w.heap.size) rfl ?_ HL0.out ?_); exact rfl)
  refine (HHAS.out _).mono ?_; rintro e w1 ⟨rfl, hk1⟩
  rw [← HWW.out] at hk1
  rw [← HRE.out, Int.toNat_natCast, HO.out]
  simp only [Option.isSome_none, Option.isSome_some]
  have HB0 := Lib.hid (hk1.heap h0 (by simp)); have HB2 := Lib.hid (hk1.heap h2 (by simp)); have HB3 := Lib.hid (hk1.heap h3 (by simp))
  have hb1 := hk1.heap h1 (by simp)
  have c2 : w1.cell? ⟨R + 1, 2, none⟩ = some (.int .u8 (kn : Int)) := cell_lit hb1 2 rfl
  have c3 : w1.cell? ⟨R + 1, 3, none⟩ = some (.int .u16 a) := cell_lit hb1 3 rfl
  have c4 : w1.cell? ⟨R + 1, 4, none⟩ = some (.int .u16 b) := cell_lit hb1 4 rfl
  have HK1 := Lib.hid (HK0.out.trans hk1 (FSub.refl _ _))
  clear h0 h1 h2 h3 hb1 hk1 HL0 HK0 HHAS
  go_wp2_with (first
    | ((with_reducible refine wpList_loadK (g := R) rfl ?_ HB0.out ?_); exact rfl)
    | ((with_reducible refine wpList_putK (g := R + 2) (h := kvH m) (vs := kvV m) ?_ ?_ HB2.out ?_); exact rfl; exact rfl))
  intro W2 hW2 hk2
  have HW2 := Lib.hid hW2
  have HA2 := Lib.hid (hk2.heap HB3.out (by simp))
  have HK2 := Lib.hid (HK1.out.trans hk2 (fun q hq => .inr (by have := HRE.out; simp at hq; omega)))
  clear hW2 hk2
  go_wp2_with ((with_reducible refine wpList_putN (g := R + 3) (old := ⟨0, 0⟩) ⟨4, 0⟩ ?_ ?_ HA2.out ?_); exact rfl; exact rfl)
  intro W3 hW3 hk3
  have HW3 := Lib.hid hW3
  have HS3 := Lib.hid (hk3.heap HW2.out (by simp))
  have HK3 := Lib.hid (HK2.out.trans hk3 (fun q hq => .inr (by have := HRE.out; simp at hq; omega)))
  clear hW3 hk3
  go_wp2_with fail
  try simp only [Exit.inBlock, Exit.then]
  exact bodyPost_ret (results_kv2 rfl _ _ (R + 2) (R + 3) ⟨4, 0⟩ rfl HS3.out rfl HW3.out) rfl ⟨rfl, HK3.out⟩
theorem kvDel_some (w : World) {m : Kv} (hm : KvIn m) (f o a b : Int) {kn : Nat} (hk8 : kn < 8) {v : Int} (ho : m.getD kn none = some v) :
    Calls Tryz.prog 201 #[.agg (kvA (kvH m) (kvV m)), .agg #[.int .u8 f, .int .u8 o, .int .u8 (kn : Int), .int .u16 a, .int .u16 b]] w (KsPost w (m.set kn none) ⟨3, 0⟩) := by
  have HVS := Lib.hid (show kvV (m.set kn none) = (kvV m).set kn 0 from kvV_set m kn none)
  have HSH := Lib.hid (shl8 hk8)
  have hnt := kvH_del hm.len hk8
  obtain ⟨H2, hH2⟩ : ∃ H2, H2 = kvH (m.set kn none) := ⟨_, rfl⟩
  rw [← hH2] at hnt
  have HNT := Lib.hid hnt; have HH2 := Lib.hid hH2
  clear hnt hH2
  have HVL := Lib.hid (show (kvV m).length = 8 by rw [kvV_len, hm.len]); have HK8 := Lib.hid hk8
  obtain ⟨W, hW⟩ : ∃ W, W = (((w.alloc (.cells (kvA (kvH m) (kvV m)) 197)).alloc (.cells #[.int .u8 f, .int .u8 o, .int .u8 (kn : Int), .int .u16 a, .int .u16 b] 47)).alloc (.cells (kvA 0 []) 197)).alloc (.cells (ansC ⟨0, 0⟩).toArray 25) := ⟨_, rfl⟩
  obtain ⟨hk0, h0, h1, h2, h3, hz⟩ := vars_k w _ _ _ W hW
  simp only [show (ansC ⟨0, 0⟩).toArray = #[Value.int .u8 0, .int .u16 0] from rfl, show kvA 0 [] = #[Value.int .u8 0, .int .u16 0, .int .u16 0, .int .u16 0, .int .u16 0, .int .u16 0, .int .u16 0, .int .u16 0, .int .u16 0] from rfl] at hW
  have h0' := h0
  rw [hW] at h0'
  have HL0 := Lib.hid h0'
  obtain ⟨R, hR⟩ : ∃ R, R = w.heap.size := ⟨_, rfl⟩
  rw [← hR] at h0 h1 h2 h3 hz
  have HWW := Lib.hid hW; have HRE := Lib.hid hR; have HK0 := Lib.hid hk0
  have HZ := Lib.hid hz; have HO := Lib.hid ho
  have HHAS := Lib.hid (fun w => kvHas_kv w hm (key := (kn : Int)) (Int.natCast_nonneg _))
  clear h0' hW hR hk0 hz
  generalize 2 ^ kn = q at *
  go_enter Tryz.func201, Tryz.ntmps201
  go_wp2_with ((with_reducible refine wpList_loadK (g := w.heap.size) rfl ?_ HL0.out ?_); exact rfl)
  refine (HHAS.out _).mono ?_; rintro e w1 ⟨rfl, hk1⟩
  rw [← HWW.out] at hk1
  rw [← HRE.out, Int.toNat_natCast, HO.out]
  simp only [Option.isSome_none, Option.isSome_some]
  have HB0 := Lib.hid (hk1.heap h0 (by simp)); have HB2 := Lib.hid (hk1.heap h2 (by simp)); have HB3 := Lib.hid (hk1.heap h3 (by simp))
  have hb1 := hk1.heap h1 (by simp)
  have c2 : w1.cell? ⟨R + 1, 2, none⟩ = some (.int .u8 (kn : Int)) := cell_lit hb1 2 rfl
  have c3 : w1.cell? ⟨R + 1, 3, none⟩ = some (.int .u16 a) := cell_lit hb1 3 rfl
  have c4 : w1.cell? ⟨R + 1, 4, none⟩ = some (.int .u16 b) := cell_lit hb1 4 rfl
  have HK1 := Lib.hid (HK0.out.trans hk1 (FSub.refl _ _))
  clear h0 h1 h2 h3 hb1 hk1 HL0 HK0 HHAS
  have hb1 := c2
  clear hk8
  go_wp2_with (first
    | ((with_reducible refine wpList_loadKh (g := R) ?_ HB0.out ?_); exact rfl)
    | ((with_reducible refine wpList_shl8 (v := (q : Int)) ?_ ?_ HSH.out ?_); exact rfl; exact rfl)
    | ((with_reducible refine wpList_not8 (v := (H2 : Int)) ?_ ?_ HNT.out ?_); exact rfl; exact rfl)
    | ((with_reducible refine wpList_putKh (g := R) (h2 := (H2 : Int)) ?_ ?_ HB0.out ?_); exact rfl; exact rfl))
  intro w2 hb0 hk2
  have HB0' := Lib.hid hb0
  have HB2' := Lib.hid (hk2.heap HB2.out (by simp)); have HB3' := Lib.hid (hk2.heap HB3.out (by simp))
  have HK1' := Lib.hid (HK1.out.trans hk2 (fun q hq => .inr (by have := HRE.out; simp at hq; omega)))
  have d2 : w2.cell? ⟨R + 1, 2, none⟩ = some (.int .u8 (kn : Int)) := hk2.cell c2 (by simp)
  have hlt : (kn : Int) < 8 := by have := HK8.out; omega
  clear hb0 hk2 HB0 HB2 HB3 HK1 c2 c3 c4 hb1
  go_wp2_with ((with_reducible refine wpList_putKv (g := R) (k := kn) (v := 0) HVL.out HK8.out ?_ ?_ HB0'.out ?_); exact rfl; exact rfl)
  intro w3 hb0 hk3
  have hb2 := hk3.heap HB2'.out (by simp)
  have hb3 := hk3.heap HB3'.out (by simp)
  have hkn := HK1'.out.trans hk3 (fun q hq => .inr (by have := HRE.out; simp at hq; omega))
  rw [← HVS.out] at hb0
  clear HB0' HB2' HB3' HK1' d2 hk3
  have HB0 := Lib.hid hb0; have HB2 := Lib.hid hb2; have HB3 := Lib.hid hb3; have HK1 := Lib.hid hkn
  clear hb0 hb2 hb3 hkn
  go_wp2_with (first
    | ((with_reducible refine wpList_loadK (g := R) rfl ?_ HB0.out ?_); exact rfl)
    | ((with_reducible refine wpList_putK (g := R + 2) (h := (H2 : Int)) (vs := (kvV (m.set kn none))) ?_ ?_ HB2.out ?_); exact rfl; exact rfl))
  intro W2 hW2 hk2
  have HW2 := Lib.hid hW2
  have HA2 := Lib.hid (hk2.heap HB3.out (by simp))
  have HK2 := Lib.hid (HK1.out.trans hk2 (fun q hq => .inr (by have := HRE.out; simp at hq; omega)))
  clear hW2 hk2
  go_wp2_with ((with_reducible refine wpList_putN (g := R + 3) (old := ⟨0, 0⟩) ⟨3, 0⟩ ?_ ?_ HA2.out ?_); exact rfl; exact rfl)
  intro W3 hW3 hk3
  have HW3 := Lib.hid hW3
  have HS3 := Lib.hid (hk3.heap HW2.out (by simp))
  have HK3 := Lib.hid (HK2.out.trans hk3 (fun q hq => .inr (by have := HRE.out; simp at hq; omega)))
  clear hW3 hk3
  go_wp2_with fail
  try simp only [Exit.inBlock, Exit.then]
  exact bodyPost_ret (results_kv2 rfl _ _ (R + 2) (R + 3) ⟨3, 0⟩ rfl HS3.out rfl HW3.out) rfl ⟨(by unfold kvVal; rw [← HH2.out]), HK3.out⟩
end Go.Proofs.YtbnhcggjcdipeaaGreatDoor
/-
  The program's key map: the step of Swap.
-/
namespace Go.Proofs.YtbnhcggjcdipeaaGreatDoor
open Go.RowKit
set_option maxHeartbeats 8000000
set_option maxRecDepth 100000
theorem kvSwap_none (w : World) {m : Kv} (hm : KvIn m) (f o a b : Int) {kn : Nat} (hk8 : kn < 8) (ho : m.getD kn none = none) :
    Calls Tryz.prog 202 #[.agg (kvA (kvH m) (kvV m)), .agg #[.int .u8 f, .int .u8 o, .int .u8 (kn : Int), .int .u16 a, .int .u16 b]] w (KsPost w m ⟨4, 0⟩) := by
  obtain ⟨W, hW⟩ : ∃ W, W = (((w.alloc (.cells (kvA (kvH m) (kvV m)) 197)).alloc (.cells #[.int .u8 f, .int .u8 o, .int .u8 (kn : Int), .int .u16 a, .int .u16 b] 47)).alloc (.cells (kvA 0 []) 197)).alloc (.cells (ansC ⟨0, 0⟩).toArray 25) := ⟨_, rfl⟩
  obtain ⟨hk0, h0, h1, h2, h3, hz⟩ := vars_k w _ _ _ W hW
  simp only [show (ansC ⟨0, 0⟩).toArray = #[Value.int .u8 0, .int .u16 0] from rfl, show kvA 0 [] = #[Value.int .u8 0, .int .u16 0, .int .u16 0, .int .u16 0, .int .u16 0, .int .u16 0, .int .u16 0, .int .u16 0, .int .u16 0] from rfl] at hW
  have h0' := h0
  rw [hW] at h0'
  have HL0 := Lib.hid h0'
  obtain ⟨R, hR⟩ : ∃ R, R = w.heap.size := ⟨_, rfl⟩
  rw [← hR] at h0 h1 h2 h3 hz
  have HWW := Lib.hid hW; have HRE := Lib.hid hR; have HK0 := Lib.hid hk0
  have HZ := Lib.hid hz; have HO := Lib.hid ho
  have HHAS := Lib.hid (fun w => kvHas_kv w hm (key := (kn : Int)) (Int.natCast_nonneg _))
  clear h0' hW hR hk0 hz
  obtain ⟨S, hS⟩ : ∃ S : World → Prop, S = fun y => Keeps [] W y := ⟨_, rfl⟩
  have HSE := Lib.hid hS
  have hSD : S W.drew := by rw [hS]; exact (Keeps.refl _ _).drew
  have HS0 := Lib.hid (fun (w' : World) (hh : S w') => show ∃ t, w'.heap[R]? = some (.cells (kvA (kvH m) (kvV m)) t (0, 0)) from by rw [hS] at hh; exact ⟨_, hh.heap h0 (by simp)⟩)
  have HSK := Lib.hid (fun (w' : World) (hh : S w') => show w'.cell? ⟨R + 1, 2, none⟩ = some (.int .u8 (kn : Int)) from by rw [hS] at hh; exact hh.cell (cell_lit h1 2 rfl) (by simp))
  have HSA := Lib.hid (fun (w' : World) (hh : S w') => show w'.cell? ⟨R + 1, 3, none⟩ = some (.int .u16 a) from by rw [hS] at hh; exact hh.cell (cell_lit h1 3 rfl) (by simp))
  have hcv := kv_cell h0 hk8
  have HLT := Lib.hid (fun (w' : World) (_ : S w') => show (kn : Int) < 8 from by omega)
  clear hS hcv
  go_enter Tryz.func202, Tryz.ntmps202
  go_wp2_with fail
  rw [← HRE.out, ← HWW.out]
  refine wp_region_noPanic ?_
  refine wp_region_held_drew (S := S) (by kernel_rfl) hSD (fun hHeld => ?_)
  refine tk 0 (y := by exact yields_loadK (by rfl) _ rfl R rfl _ _ HS0.out) (h := ?_)
  refine tw 1 (h := ?_)
  refine tk 2 (y := by exact Or.inl ⟨by rfl, by intro w hSw; have q0 := HSK.out w hSw; go_simp; try with_reducible rfl⟩) (h := ?_)
  refine rp 3 (h := fun K hK => ?_)
  refine wp_call9 158 _ _ rfl [.agg (kvA (kvH m) (kvV m)), .int .u8 (kn : Int)] rfl Tryz.func158 (by kernel_rfl) (by kernel_rfl) ((HHAS.out W.drew).mono ?_)
  rintro e w1 ⟨rfl, hk1⟩
  refine ⟨_, rfl, ?_⟩
  rw [Int.toNat_natCast, HO.out]
  simp only [Option.isSome_none, Option.isSome_some]
  have HKW := Lib.hid (((Keeps.refl [] W).drew).trans hk1 (FSub.refl _ _))
  clear hk1
  refine hK.out _ _ (by rw [HSE.out]; exact HKW.out) (fun hHeld => ?_); clear hK K; try simp only [Act.put, lsA, lsZ, lsS]
  refine tw 4 (h := ?_)
  refine tw 5 (h := ?_)
  refine tk 6 (y := by exact Or.inr ⟨by rfl, rfl⟩) (h := ?_)
  refine tk 7 (y := by exact Or.inr ⟨by rfl, rfl⟩) (h := ?_)
  refine tk 8 (y := by exact Or.inr ⟨by rfl, rfl⟩) (h := ?_)
  refine tk 9 (y := by exact Or.inr ⟨by rfl, rfl⟩) (h := ?_)
  refine tk 10 (y := by exact Or.inr ⟨by rfl, rfl⟩) (h := ?_)
  refine tk 11 (y := by exact Or.inr ⟨by rfl, rfl⟩) (h := ?_)
  refine tk 12 (y := by exact Or.inr ⟨by rfl, rfl⟩) (h := ?_)
  refine tk 13 (y := by exact Or.inr ⟨by rfl, rfl⟩) (h := ?_)
  refine tw 14 (h := ?_)
  refine wpAnyH_done (by kernel_rfl) ?_ _
  refine NoPanic.normal ?_
  have HB0 := Lib.hid (HKW.out.heap h0 (by simp)); have HB2 := Lib.hid (HKW.out.heap h2 (by simp)); have HB3 := Lib.hid (HKW.out.heap h3 (by simp))
  have hb1 := HKW.out.heap h1 (by simp)
  have c2 : w1.cell? ⟨R + 1, 2, none⟩ = some (.int .u8 (kn : Int)) := cell_lit hb1 2 rfl
  have c4 : w1.cell? ⟨R + 1, 4, none⟩ = some (.int .u16 b) := cell_lit hb1 4 rfl
  have HK1 := Lib.hid (HK0.out.trans HKW.out (FSub.refl _ _))
  clear h0 h1 h2 h3 hb1 HL0 HK0 HKW HHAS HS0 HSK HSA HLT
  go_wp2_with (first
    | ((with_reducible refine wpList_loadK (g := R) rfl ?_ HB0.out ?_); exact rfl)
    | ((with_reducible refine wpList_putK (g := R + 2) (h := kvH m) (vs := kvV m) ?_ ?_ HB2.out ?_); exact rfl; exact rfl))
  intro W2 hW2 hk2
  have HW2 := Lib.hid hW2
  have HA2 := Lib.hid (hk2.heap HB3.out (by simp))
  have HK2 := Lib.hid (HK1.out.trans hk2 (fun q hq => .inr (by have := HRE.out; simp at hq; omega)))
  clear hW2 hk2
  go_wp2_with ((with_reducible refine wpList_putN (g := R + 3) (old := ⟨0, 0⟩) ⟨4, 0⟩ ?_ ?_ HA2.out ?_); exact rfl; exact rfl)
  intro W3 hW3 hk3
  have HW3 := Lib.hid hW3
  have HS3 := Lib.hid (hk3.heap HW2.out (by simp))
  have HK3 := Lib.hid (HK2.out.trans hk3 (fun q hq => .inr (by have := HRE.out; simp at hq; omega)))
  clear hW3 hk3
  go_wp2_with fail
  try simp only [Exit.inBlock, Exit.then]
  exact bodyPost_ret (results_kv2 rfl _ _ (R + 2) (R + 3) ⟨4, 0⟩ rfl HS3.out rfl HW3.out) rfl ⟨rfl, HK3.out⟩
theorem kvSwap_ne (w : World) {m : Kv} (hm : KvIn m) (f o a b : Int) {kn : Nat} (hk8 : kn < 8) {v : Int} (ho : m.getD kn none = some v) (hne : v ≠ a) :
    Calls Tryz.prog 202 #[.agg (kvA (kvH m) (kvV m)), .agg #[.int .u8 f, .int .u8 o, .int .u8 (kn : Int), .int .u16 a, .int .u16 b]] w (KsPost w m ⟨4, 0⟩) := by
  have hval : (kvV m).getD kn 0 = v := by rw [kvV_getD (by rw [hm.len]; exact hk8), ho]; rfl
  obtain ⟨W, hW⟩ : ∃ W, W = (((w.alloc (.cells (kvA (kvH m) (kvV m)) 197)).alloc (.cells #[.int .u8 f, .int .u8 o, .int .u8 (kn : Int), .int .u16 a, .int .u16 b] 47)).alloc (.cells (kvA 0 []) 197)).alloc (.cells (ansC ⟨0, 0⟩).toArray 25) := ⟨_, rfl⟩
  obtain ⟨hk0, h0, h1, h2, h3, hz⟩ := vars_k w _ _ _ W hW
  simp only [show (ansC ⟨0, 0⟩).toArray = #[Value.int .u8 0, .int .u16 0] from rfl, show kvA 0 [] = #[Value.int .u8 0, .int .u16 0, .int .u16 0, .int .u16 0, .int .u16 0, .int .u16 0, .int .u16 0, .int .u16 0, .int .u16 0] from rfl] at hW
  have h0' := h0
  rw [hW] at h0'
  have HL0 := Lib.hid h0'
  obtain ⟨R, hR⟩ : ∃ R, R = w.heap.size := ⟨_, rfl⟩
  rw [← hR] at h0 h1 h2 h3 hz
  have HWW := Lib.hid hW; have HRE := Lib.hid hR; have HK0 := Lib.hid hk0
  have HZ := Lib.hid hz; have HO := Lib.hid ho
  have HHAS := Lib.hid (fun w => kvHas_kv w hm (key := (kn : Int)) (Int.natCast_nonneg _))
  clear h0' hW hR hk0 hz
  obtain ⟨S, hS⟩ : ∃ S : World → Prop, S = fun y => Keeps [] W y := ⟨_, rfl⟩
  have HSE := Lib.hid hS
  have hSD : S W.drew := by rw [hS]; exact (Keeps.refl _ _).drew
  have HS0 := Lib.hid (fun (w' : World) (hh : S w') => show ∃ t, w'.heap[R]? = some (.cells (kvA (kvH m) (kvV m)) t (0, 0)) from by rw [hS] at hh; exact ⟨_, hh.heap h0 (by simp)⟩)
  have HSK := Lib.hid (fun (w' : World) (hh : S w') => show w'.cell? ⟨R + 1, 2, none⟩ = some (.int .u8 (kn : Int)) from by rw [hS] at hh; exact hh.cell (cell_lit h1 2 rfl) (by simp))
  have HSA := Lib.hid (fun (w' : World) (hh : S w') => show w'.cell? ⟨R + 1, 3, none⟩ = some (.int .u16 a) from by rw [hS] at hh; exact hh.cell (cell_lit h1 3 rfl) (by simp))
  have hcv := kv_cell h0 hk8
  have HLT := Lib.hid (fun (w' : World) (_ : S w') => show (kn : Int) < 8 from by omega)
  rw [hval] at hcv
  have HSV := Lib.hid (fun (w' : World) (hh : S w') => show w'.cell? ⟨R, 1 + kn, none⟩ = some (.int .u16 v) from by rw [hS] at hh; exact hh.cell hcv (by simp))
  have HNE := Lib.hid (fun (w' : World) (_ : S w') => show (v != a) = true from by simpa using hne)
  clear hS hcv hval hne
  go_enter Tryz.func202, Tryz.ntmps202
  go_wp2_with fail
  rw [← HRE.out, ← HWW.out]
  refine wp_region_noPanic ?_
  refine wp_region_held_drew (S := S) (by kernel_rfl) hSD (fun hHeld => ?_)
  refine tk 0 (y := by exact yields_loadK (by rfl) _ rfl R rfl _ _ HS0.out) (h := ?_)
  refine tw 1 (h := ?_)
  refine tk 2 (y := by exact Or.inl ⟨by rfl, by intro w hSw; have q0 := HSK.out w hSw; go_simp; try with_reducible rfl⟩) (h := ?_)
  refine rp 3 (h := fun K hK => ?_)
  refine wp_call9 158 _ _ rfl [.agg (kvA (kvH m) (kvV m)), .int .u8 (kn : Int)] rfl Tryz.func158 (by kernel_rfl) (by kernel_rfl) ((HHAS.out W.drew).mono ?_)
  rintro e w1 ⟨rfl, hk1⟩
  refine ⟨_, rfl, ?_⟩
  rw [Int.toNat_natCast, HO.out]
  simp only [Option.isSome_none, Option.isSome_some]
  have HKW := Lib.hid (((Keeps.refl [] W).drew).trans hk1 (FSub.refl _ _))
  clear hk1
  refine hK.out _ _ (by rw [HSE.out]; exact HKW.out) (fun hHeld => ?_); clear hK K; try simp only [Act.put, lsA, lsZ, lsS]
  refine tw 4 (h := ?_)
  refine tw 5 (h := ?_)
  refine tw 6 (h := ?_)
  refine tk 7 (y := by exact Or.inl ⟨by rfl, by intro w hSw; have q0 := HSK.out w hSw; go_simp; try with_reducible rfl⟩) (h := ?_)
  refine tw 8 (h := ?_)
  refine tk 9 (y := by exact Or.inl ⟨by rfl, by intro w hSw; have q0 := HLT.out w hSw; go_simp; try with_reducible rfl⟩) (h := ?_)
  refine tk 10 (y := by exact Or.inl ⟨by rfl, by intro w hSw; have q0 := HSV.out w hSw; go_simp; try with_reducible rfl⟩) (h := ?_)
  refine tw 11 (h := ?_)
  refine tk 12 (y := by exact Or.inl ⟨by rfl, by intro w hSw; have q0 := HSA.out w hSw; go_simp; try with_reducible rfl⟩) (h := ?_)
  refine tk 13 (y := by exact Or.inl ⟨by rfl, by intro w hSw; have q0 := HNE.out w hSw; go_simp; try with_reducible rfl⟩) (h := ?_)
  refine tw 14 (h := ?_)
  refine wpAnyH_done (by kernel_rfl) ?_ _
  refine NoPanic.normal ?_
  have HB0 := Lib.hid (HKW.out.heap h0 (by simp)); have HB2 := Lib.hid (HKW.out.heap h2 (by simp)); have HB3 := Lib.hid (HKW.out.heap h3 (by simp))
  have hb1 := HKW.out.heap h1 (by simp)
  have c2 : w1.cell? ⟨R + 1, 2, none⟩ = some (.int .u8 (kn : Int)) := cell_lit hb1 2 rfl
  have c4 : w1.cell? ⟨R + 1, 4, none⟩ = some (.int .u16 b) := cell_lit hb1 4 rfl
  have HK1 := Lib.hid (HK0.out.trans HKW.out (FSub.refl _ _))
  clear h0 h1 h2 h3 hb1 HL0 HK0 HKW HHAS HS0 HSK HSA HLT
  go_wp2_with (first
    | ((with_reducible refine wpList_loadK (g := R) rfl ?_ HB0.out ?_); exact rfl)
    | ((with_reducible refine wpList_putK (g := R + 2) (h := kvH m) (vs := kvV m) ?_ ?_ HB2.out ?_); exact rfl; exact rfl))
  intro W2 hW2 hk2
  have HW2 := Lib.hid hW2
  have HA2 := Lib.hid (hk2.heap HB3.out (by simp))
  have HK2 := Lib.hid (HK1.out.trans hk2 (fun q hq => .inr (by have := HRE.out; simp at hq; omega)))
  clear hW2 hk2
  go_wp2_with ((with_reducible refine wpList_putN (g := R + 3) (old := ⟨0, 0⟩) ⟨4, 0⟩ ?_ ?_ HA2.out ?_); exact rfl; exact rfl)
  intro W3 hW3 hk3
  have HW3 := Lib.hid hW3
  have HS3 := Lib.hid (hk3.heap HW2.out (by simp))
  have HK3 := Lib.hid (HK2.out.trans hk3 (fun q hq => .inr (by have := HRE.out; simp at hq; omega)))
  clear hW3 hk3
  go_wp2_with fail
  try simp only [Exit.inBlock, Exit.then]
  exact bodyPost_ret (results_kv2 rfl _ _ (R + 2) (R + 3) ⟨4, 0⟩ rfl HS3.out rfl HW3.out) rfl ⟨rfl, HK3.out⟩
theorem kvSwap_eq (w : World) {m : Kv} (hm : KvIn m) (f o a b : Int) {kn : Nat} (hk8 : kn < 8) (ho : m.getD kn none = some a) :
    Calls Tryz.prog 202 #[.agg (kvA (kvH m) (kvV m)), .agg #[.int .u8 f, .int .u8 o, .int .u8 (kn : Int), .int .u16 a, .int .u16 b]] w (KsPost w (m.set kn (some b)) ⟨3, 0⟩) := by
  have hval : (kvV m).getD kn 0 = a := by rw [kvV_getD (by rw [hm.len]; exact hk8), ho]; rfl
  have HVS := Lib.hid (show kvV (m.set kn (some b)) = (kvV m).set kn b from kvV_set m kn (some b))
  have HVL := Lib.hid (show (kvV m).length = 8 by rw [kvV_len, hm.len]); have HK8 := Lib.hid hk8
  have HH2 := Lib.hid (show kvH (m.set kn (some b)) = kvH m from by
    have h := kvH_set m kn (by rw [hm.len]; exact hk8) (some b)
    rw [ho] at h
    simp at h
    exact h)
  obtain ⟨W, hW⟩ : ∃ W, W = (((w.alloc (.cells (kvA (kvH m) (kvV m)) 197)).alloc (.cells #[.int .u8 f, .int .u8 o, .int .u8 (kn : Int), .int .u16 a, .int .u16 b] 47)).alloc (.cells (kvA 0 []) 197)).alloc (.cells (ansC ⟨0, 0⟩).toArray 25) := ⟨_, rfl⟩
  obtain ⟨hk0, h0, h1, h2, h3, hz⟩ := vars_k w _ _ _ W hW
  simp only [show (ansC ⟨0, 0⟩).toArray = #[Value.int .u8 0, .int .u16 0] from rfl, show kvA 0 [] = #[Value.int .u8 0, .int .u16 0, .int .u16 0, .int .u16 0, .int .u16 0, .int .u16 0, .int .u16 0, .int .u16 0, .int .u16 0] from rfl] at hW
  have h0' := h0
  rw [hW] at h0'
  have HL0 := Lib.hid h0'
  obtain ⟨R, hR⟩ : ∃ R, R = w.heap.size := ⟨_, rfl⟩
  rw [← hR] at h0 h1 h2 h3 hz
  have HWW := Lib.hid hW; have HRE := Lib.hid hR; have HK0 := Lib.hid hk0
  have HZ := Lib.hid hz; have HO := Lib.hid ho
  have HHAS := Lib.hid (fun w => kvHas_kv w hm (key := (kn : Int)) (Int.natCast_nonneg _))
  clear h0' hW hR hk0 hz
  obtain ⟨S, hS⟩ : ∃ S : World → Prop, S = fun y => Keeps [] W y := ⟨_, rfl⟩
  have HSE := Lib.hid hS
  have hSD : S W.drew := by rw [hS]; exact (Keeps.refl _ _).drew
  have HS0 := Lib.hid (fun (w' : World) (hh : S w') => show ∃ t, w'.heap[R]? = some (.cells (kvA (kvH m) (kvV m)) t (0, 0)) from by rw [hS] at hh; exact ⟨_, hh.heap h0 (by simp)⟩)
  have HSK := Lib.hid (fun (w' : World) (hh : S w') => show w'.cell? ⟨R + 1, 2, none⟩ = some (.int .u8 (kn : Int)) from by rw [hS] at hh; exact hh.cell (cell_lit h1 2 rfl) (by simp))
  have HSA := Lib.hid (fun (w' : World) (hh : S w') => show w'.cell? ⟨R + 1, 3, none⟩ = some (.int .u16 a) from by rw [hS] at hh; exact hh.cell (cell_lit h1 3 rfl) (by simp))
  have hcv := kv_cell h0 hk8
  have HLT := Lib.hid (fun (w' : World) (_ : S w') => show (kn : Int) < 8 from by omega)
  rw [hval] at hcv
  have HSV := Lib.hid (fun (w' : World) (hh : S w') => show w'.cell? ⟨R, 1 + kn, none⟩ = some (.int .u16 a) from by rw [hS] at hh; exact hh.cell hcv (by simp))
  have HNE := Lib.hid (fun (w' : World) (_ : S w') => show (a != a) = false from by simp)
  clear hS hcv hval
  go_enter Tryz.func202, Tryz.ntmps202
  go_wp2_with fail
  rw [← HRE.out, ← HWW.out]
  refine wp_region_noPanic ?_
  refine wp_region_held_drew (S := S) (by kernel_rfl) hSD (fun hHeld => ?_)
  refine tk 0 (y := by exact yields_loadK (by rfl) _ rfl R rfl _ _ HS0.out) (h := ?_)
  refine tw 1 (h := ?_)
  refine tk 2 (y := by exact Or.inl ⟨by rfl, by intro w hSw; have q0 := HSK.out w hSw; go_simp; try with_reducible rfl⟩) (h := ?_)
  refine rp 3 (h := fun K hK => ?_)
  refine wp_call9 158 _ _ rfl [.agg (kvA (kvH m) (kvV m)), .int .u8 (kn : Int)] rfl Tryz.func158 (by kernel_rfl) (by kernel_rfl) ((HHAS.out W.drew).mono ?_)
  rintro e w1 ⟨rfl, hk1⟩
  refine ⟨_, rfl, ?_⟩
  rw [Int.toNat_natCast, HO.out]
  simp only [Option.isSome_none, Option.isSome_some]
  have HKW := Lib.hid (((Keeps.refl [] W).drew).trans hk1 (FSub.refl _ _))
  clear hk1
  refine hK.out _ _ (by rw [HSE.out]; exact HKW.out) (fun hHeld => ?_); clear hK K; try simp only [Act.put, lsA, lsZ, lsS]
  refine tw 4 (h := ?_)
  refine tw 5 (h := ?_)
  refine tw 6 (h := ?_)
  refine tk 7 (y := by exact Or.inl ⟨by rfl, by intro w hSw; have q0 := HSK.out w hSw; go_simp; try with_reducible rfl⟩) (h := ?_)
  refine tw 8 (h := ?_)
  refine tk 9 (y := by exact Or.inl ⟨by rfl, by intro w hSw; have q0 := HLT.out w hSw; go_simp; try with_reducible rfl⟩) (h := ?_)
  refine tk 10 (y := by exact Or.inl ⟨by rfl, by intro w hSw; have q0 := HSV.out w hSw; go_simp; try with_reducible rfl⟩) (h := ?_)
  refine tw 11 (h := ?_)
  refine tk 12 (y := by exact Or.inl ⟨by rfl, by intro w hSw; have q0 := HSA.out w hSw; go_simp; try with_reducible rfl⟩) (h := ?_)
  refine tk 13 (y := by exact Or.inl ⟨by rfl, by intro w hSw; have q0 := HNE.out w hSw; go_simp; try with_reducible rfl⟩) (h := ?_)
  refine tw 14 (h := ?_)
  refine wpAnyH_done (by kernel_rfl) ?_ _
  refine NoPanic.normal ?_
  have HB0 := Lib.hid (HKW.out.heap h0 (by simp)); have HB2 := Lib.hid (HKW.out.heap h2 (by simp)); have HB3 := Lib.hid (HKW.out.heap h3 (by simp))
  have hb1 := HKW.out.heap h1 (by simp)
  have c2 : w1.cell? ⟨R + 1, 2, none⟩ = some (.int .u8 (kn : Int)) := cell_lit hb1 2 rfl
  have c4 : w1.cell? ⟨R + 1, 4, none⟩ = some (.int .u16 b) := cell_lit hb1 4 rfl
  have HK1 := Lib.hid (HK0.out.trans HKW.out (FSub.refl _ _))
  clear h0 h1 h2 h3 hb1 HL0 HK0 HKW HHAS HS0 HSK HSA HLT
  have hlt : (kn : Int) < 8 := by omega
  go_wp2_with ((with_reducible refine wpList_putKv (g := R) (k := kn) (v := b) HVL.out HK8.out ?_ ?_ HB0.out ?_); exact rfl; exact rfl)
  intro w3 hb0 hk3
  have hb2 := hk3.heap HB2.out (by simp)
  have hb3 := hk3.heap HB3.out (by simp)
  have hkn := HK1.out.trans hk3 (fun q hq => .inr (by have := HRE.out; simp at hq; omega))
  rw [← HVS.out] at hb0
  clear HB0 HB2 HB3 HK1 c2 c4 hk3
  have HB0 := Lib.hid hb0; have HB2 := Lib.hid hb2; have HB3 := Lib.hid hb3; have HK1 := Lib.hid hkn
  clear hb0 hb2 hb3 hkn
  go_wp2_with (first
    | ((with_reducible refine wpList_loadK (g := R) rfl ?_ HB0.out ?_); exact rfl)
    | ((with_reducible refine wpList_putK (g := R + 2) (h := (kvH m : Int)) (vs := (kvV (m.set kn (some b)))) ?_ ?_ HB2.out ?_); exact rfl; exact rfl))
  intro W2 hW2 hk2
  have HW2 := Lib.hid hW2
  have HA2 := Lib.hid (hk2.heap HB3.out (by simp))
  have HK2 := Lib.hid (HK1.out.trans hk2 (fun q hq => .inr (by have := HRE.out; simp at hq; omega)))
  clear hW2 hk2
  go_wp2_with ((with_reducible refine wpList_putN (g := R + 3) (old := ⟨0, 0⟩) ⟨3, 0⟩ ?_ ?_ HA2.out ?_); exact rfl; exact rfl)
  intro W3 hW3 hk3
  have HW3 := Lib.hid hW3
  have HS3 := Lib.hid (hk3.heap HW2.out (by simp))
  have HK3 := Lib.hid (HK2.out.trans hk3 (fun q hq => .inr (by have := HRE.out; simp at hq; omega)))
  clear hW3 hk3
  go_wp2_with fail
  try simp only [Exit.inBlock, Exit.then]
  exact bodyPost_ret (results_kv2 rfl _ _ (R + 2) (R + 3) ⟨3, 0⟩ rfl HS3.out rfl HW3.out) rfl ⟨(by unfold kvVal; rw [HH2.out]), HK3.out⟩
end Go.Proofs.YtbnhcggjcdipeaaGreatDoor
/-
  The program's key map: Step.
-/
namespace Go.Proofs.YtbnhcggjcdipeaaGreatDoor
open Go.RowKit
/-- An operation that the map does not do. -/
def kvBad (x : Opn) : Prop := 7 < x.k ∨ x.f < 6 ∨ 9 < x.f
theorem kvSt_bad {x : Opn} (h : kvBad x) : kvSt x = .nilFunc := by
  unfold kvSt
  split
  · rfl
  · unfold kvFn
    rw [if_pos]
    unfold kvBad at h
    omega
theorem kvSt_good {x : Opn} (h : ¬ kvBad x) : kvSt x = fnV (kvK x.f) := by
  unfold kvBad at h
  unfold kvSt
  rw [if_neg (by omega)]
  unfold kvFn
  rw [if_neg (by omega)]
theorem kvAct_any (w : World) {m : Kv} (hm : KvIn m) (x : Opn) (hx : x.In) (hg : ¬ kvBad x) :
    Calls Tryz.prog (kvK x.f) #[.agg (kvA (kvH m) (kvV m)), x.val] w (KsPost w (ksX m x).1 (ksX m x).2.1) := by
  have hb := hg
  unfold kvBad at hg
  obtain ⟨f, o, k, a, b⟩ := x
  obtain ⟨kn, rfl⟩ := Int.eq_ofNat_of_zero_le hx.k0
  simp only at hg
  have hk8 : kn < 8 := by omega
  unfold Opn.val kvK ksX
  rw [if_neg (show ¬ (7 < (kn : Int) ∨ f < 6 ∨ 9 < f) from hg)]
  simp only [Int.toNat_natCast]
  by_cases h7 : f = 7
  · subst h7
    simp only [show ¬ (7 : Int) = 6 by decide, if_false, if_true]
    exact kvPut_all w hm _ _ _ _ hk8
  · rw [if_neg h7]
    simp only [if_neg h7]
    by_cases h6 : f = 6
    · subst h6
      simp only [if_true]
      cases ho : m.getD kn none with
      | none => exact kvGet_none w hm _ _ _ _ hk8 ho
      | some v => exact kvGet_some w hm _ _ _ _ hk8 ho
    · simp only [if_neg h6]
      by_cases h8 : f = 8
      · subst h8
        simp only [if_true]
        cases ho : m.getD kn none with
        | none => exact kvDel_none w hm _ _ _ _ hk8 ho
        | some v => exact kvDel_some w hm _ _ _ _ hk8 ho
      · simp only [if_neg h8]
        cases ho : m.getD kn none with
        | none => exact kvSwap_none w hm _ _ _ _ hk8 ho
        | some v =>
          by_cases hv : v = a
          · subst hv
            simp only [if_true]
            exact kvSwap_eq w hm _ _ _ _ hk8 ho
          · simp only [if_neg hv]
            exact kvSwap_ne w hm _ _ _ _ hk8 ho hv
theorem ksX_bad {m : Kv} {x : Opn} (h : kvBad x) : ksX m x = (m, ⟨0, 0⟩, 10) := if_pos h
theorem ksX_good {m : Kv} {x : Opn} (h : ¬ kvBad x) : (ksX m x).2.2 = 0 := by
  unfold ksX
  rw [if_neg (show ¬ (7 < x.k ∨ x.f < 6 ∨ 9 < x.f) from h)]
  split
  · rfl
  · split
    · split <;> rfl
    · split
      · rfl
      · split
        · rfl
        · split <;> rfl
theorem eqIn_nil_nil (w : World) {ps : _} {rs : _} {v : _} (d : Nat) (t : TypeId) (h : Tryz.prog.underlying t = some (.func ps rs v)) : (Op.equalIn (d + 1) t .nilFunc .nilFunc).run Tryz.prog w = .ok true w := by
  simp [Op.equalIn, run_underlying h]
theorem eqIn_fn_nil (w : World) {ps : _} {rs : _} {v : _} (d : Nat) (t : TypeId) (h : Tryz.prog.underlying t = some (.func ps rs v)) (f : Fn) (xs ys : Array Value) : (Op.equalIn (d + 1) t (.func f xs ys) .nilFunc).run Tryz.prog w = .ok false w := by
  simp [Op.equalIn, run_underlying h]
theorem eql_nil_nil (w : World) : (binOp .eql 246 .nilFunc .nilFunc).run Tryz.prog w = .ok (.bool true) w := by
  simp only [binOp]
  simp [Op.equal, Op.maxDepth, eqIn_nil_nil w 9999 246 Tryz.underlying246]
theorem eql_fn_nil (w : World) (k : Nat) : (binOp .eql 246 (.func (.func k) #[] #[]) .nilFunc).run Tryz.prog w = .ok (.bool false) w := by
  simp only [binOp]
  simp [Op.equal, Op.maxDepth, eqIn_fn_nil w 9999 246 Tryz.underlying246]
section
variable {ops : Array Oper} {rest : List Oper} {a : Act} {w : World} {Q : Exit → Act → World → Prop}
theorem wpList_loadXc11 {dst : Option Tmp} {ty : TypeId} {pos : String} {after : Array Edge} {gd : Option (Nat × Bool)} {x : Operand} {g : Nat} {cs : Array Value} {t : TypeId}
    (hw : Region.wanted { dst := dst, op := .load 47 x, type := ty, pos := pos, after := after, guard := gd } (yielded ops a.tmps) = true) (hx : a.eval x = .pointer (some ⟨g, 0, none⟩))
    (hs : cs.size = 5) (hg : w.heap[g]? = some (.cells cs t (0, 0))) (h : wpList Tryz.prog ops Q rest (a.put dst (.agg cs)) w) :
    wpList Tryz.prog ops Q ({ dst := dst, op := .load 47 x, type := ty, pos := pos, after := after, guard := gd } :: rest) a w :=
  wpList_step fun _ hk => by
    rw [if_pos hw]
    exact wp_load_row 47 x rfl g hx t cs (0, 0) _ hg Tryz.underlying47 rfl (by rw [hs]; kernel_rfl) (hk _ _ h)
end
theorem cells_range {w : World} {b : Nat} {l : List Value} {t : TypeId} (h : w.heap[b]? = some (.cells l.toArray t (0, 0))) : w.rangeAt b 0 l := by
  intro j u hu
  exact cell_lit h (0 + j) (by simpa using hu)
set_option maxHeartbeats 8000000
set_option maxRecDepth 100000
theorem kvStep_any (w : World) {m : Kv} (hm : KvIn m) (x : Opn) (hx : x.In) : Calls Tryz.prog 113 #[kvVal m, x.val] w fun e w' =>
    e = .returned (.tuple #[kvVal (ksX m x).1, .agg (ansC (ksX m x).2.1).toArray, .int .i64 (ksX m x).2.2]) ∧ Keeps [] w w' := by
  by_cases hb : kvBad x
  · have HST := Lib.hid (kvSt_bad hb)
    have heq := eql_nil_nil
    rw [ksX_bad hb]
    clear hb
    obtain ⟨W, hW⟩ : ∃ W, W = (((w.alloc (.cells (kvA (kvH m) (kvV m)) 197)).alloc (.cells #[.int .u8 x.f, .int .u8 x.o, .int .u8 x.k, .int .u16 x.a, .int .u16 x.b] 47)).alloc (.cells (kvA 0 []) 197)).alloc (.cells (ansC ⟨0, 0⟩).toArray 25) := ⟨_, rfl⟩
    obtain ⟨hk0, h0, h1, h2, h3, hz⟩ := vars_k w _ _ _ W hW
    simp only [show (ansC ⟨0, 0⟩).toArray = #[Value.int .u8 0, .int .u16 0] from rfl, show kvA 0 [] = #[Value.int .u8 0, .int .u16 0, .int .u16 0, .int .u16 0, .int .u16 0, .int .u16 0, .int .u16 0, .int .u16 0, .int .u16 0] from rfl] at hW
    obtain ⟨R, hR⟩ : ∃ R, R = w.heap.size := ⟨_, rfl⟩
    rw [← hR] at h0 h1 h2 h3 hz
    have HWW := Lib.hid hW; have HRE := Lib.hid hR; have HK0 := Lib.hid hk0
    have HZ := Lib.hid hz
    have HOF := Lib.hid (fun w => kvStepOf_any w x hx)
    have HX := Lib.hid hx
    clear hW hR hk0 hz hx
    unfold Opn.val kvVal
    go_enter Tryz.func113, Tryz.ntmps113
    go_wp2_with fail
    refine (HOF.out _).mono ?_; rintro e w1 ⟨rfl, hk1⟩
    rw [← HWW.out] at hk1
    rw [← HRE.out, HST.out]
    have HB0 := Lib.hid (hk1.heap h0 (by simp)); have HB1 := Lib.hid (hk1.heap h1 (by simp)); have HB2 := Lib.hid (hk1.heap h2 (by simp)); have HB3 := Lib.hid (hk1.heap h3 (by simp))
    have HK1 := Lib.hid (HK0.out.trans hk1 (FSub.refl _ _))
    have HZ1 := Lib.hid (show R + 4 ≤ w1.heap.size from by have := HZ.out; have := hk1.size; omega)
    clear h0 h1 h2 h3 hk1 HK0 HOF HZ
    go_wp2_with (first
      | ((with_reducible refine wpList_loadK (g := R) rfl ?_ HB0.out ?_); exact rfl)
      | ((with_reducible refine wpList_putK (g := R + 2) (h := kvH m) (vs := kvV m) ?_ ?_ HB2.out ?_); exact rfl; exact rfl))
    intro W2 hW2 hk2
    have HW2 := Lib.hid hW2
    have HA2 := Lib.hid (hk2.heap HB3.out (by simp))
    have HK2 := Lib.hid (HK1.out.trans hk2 (fun q hq => .inr (by have := HRE.out; simp at hq; omega)))
    clear hW2 hk2
    go_wp2_with ((with_reducible refine wpList_putN (g := R + 3) (old := ⟨0, 0⟩) ⟨0, 0⟩ ?_ ?_ HA2.out ?_); exact rfl; exact rfl)
    intro W3 hW3 hk3
    have HW3 := Lib.hid hW3
    have HS3 := Lib.hid (hk3.heap HW2.out (by simp))
    have HK3 := Lib.hid (HK2.out.trans hk3 (fun q hq => .inr (by have := HRE.out; simp at hq; omega)))
    clear hW3 hk3
    go_wp2_with fail
    try simp only [Exit.inBlock, Exit.then]
    exact bodyPost_ret (results_kv3 rfl _ _ (R + 2) (R + 3) ⟨0, 0⟩ rfl HS3.out rfl HW3.out) rfl ⟨rfl, HK3.out⟩
  · have HST := Lib.hid (kvSt_good hb)
    have heq := fun w => eql_fn_nil w (kvK x.f)
    have hact := fun w => kvAct_any w hm x hx hb
    have HFN := Lib.hid (kvK_func x.f)
    rw [ksX_good hb]
    generalize (ksX m x).1 = m2 at hact ⊢
    generalize (ksX m x).2.1 = r at hact ⊢
    have HACT := Lib.hid hact
    clear hact
    clear hb
    obtain ⟨W, hW⟩ : ∃ W, W = (((w.alloc (.cells (kvA (kvH m) (kvV m)) 197)).alloc (.cells #[.int .u8 x.f, .int .u8 x.o, .int .u8 x.k, .int .u16 x.a, .int .u16 x.b] 47)).alloc (.cells (kvA 0 []) 197)).alloc (.cells (ansC ⟨0, 0⟩).toArray 25) := ⟨_, rfl⟩
    obtain ⟨hk0, h0, h1, h2, h3, hz⟩ := vars_k w _ _ _ W hW
    simp only [show (ansC ⟨0, 0⟩).toArray = #[Value.int .u8 0, .int .u16 0] from rfl, show kvA 0 [] = #[Value.int .u8 0, .int .u16 0, .int .u16 0, .int .u16 0, .int .u16 0, .int .u16 0, .int .u16 0, .int .u16 0, .int .u16 0] from rfl] at hW
    obtain ⟨R, hR⟩ : ∃ R, R = w.heap.size := ⟨_, rfl⟩
    rw [← hR] at h0 h1 h2 h3 hz
    have HWW := Lib.hid hW; have HRE := Lib.hid hR; have HK0 := Lib.hid hk0
    have HZ := Lib.hid hz
    have HOF := Lib.hid (fun w => kvStepOf_any w x hx)
    have HX := Lib.hid hx
    clear hW hR hk0 hz hx
    unfold Opn.val kvVal
    go_enter Tryz.func113, Tryz.ntmps113
    go_wp2_with fail
    refine (HOF.out _).mono ?_; rintro e w1 ⟨rfl, hk1⟩
    rw [← HWW.out] at hk1
    rw [← HRE.out, HST.out]
    have HB0 := Lib.hid (hk1.heap h0 (by simp)); have HB1 := Lib.hid (hk1.heap h1 (by simp)); have HB2 := Lib.hid (hk1.heap h2 (by simp)); have HB3 := Lib.hid (hk1.heap h3 (by simp))
    have HK1 := Lib.hid (HK0.out.trans hk1 (FSub.refl _ _))
    have HZ1 := Lib.hid (show R + 4 ≤ w1.heap.size from by have := HZ.out; have := hk1.size; omega)
    clear h0 h1 h2 h3 hk1 HK0 HOF HZ
    unfold fnV
    go_wp2_with (first
      | ((with_reducible refine wpList_loadK (g := R) rfl ?_ HB0.out ?_); exact rfl)
      | ((with_reducible refine wpList_loadXc11 (g := R + 1) rfl ?_ ?_ HB1.out ?_); exact rfl; exact rfl)
      | ((with_reducible refine wpList_callV (k := kvK x.f) [.agg (kvA (kvH m) (kvV m)), .agg #[.int .u8 x.f, .int .u8 x.o, .int .u8 x.k, .int .u16 x.a, .int .u16 x.b]] ?_ ?_ HFN.out ?_); exact rfl; exact rfl))
    refine (HACT.out w1).mono ?_; rintro e w2 ⟨rfl, hk2⟩
    refine ⟨_, rfl, ?_⟩
    have hka : Keeps [] w2 ((w2.alloc (.cells #[.int .u8 0, .int .u16 0, .int .u16 0, .int .u16 0, .int .u16 0, .int .u16 0, .int .u16 0, .int .u16 0, .int .u16 0] 197)).alloc (.cells #[.int .u8 0, .int .u16 0] 25)) := ((Keeps.refl _ _).alloc _).alloc _
    have hza : (w2.alloc (.cells #[.int .u8 0, .int .u16 0, .int .u16 0, .int .u16 0, .int .u16 0, .int .u16 0, .int .u16 0, .int .u16 0, .int .u16 0] 197)).heap.size = w2.heap.size + 1 := Array.size_push _
    have h8 : ((w2.alloc (.cells #[.int .u8 0, .int .u16 0, .int .u16 0, .int .u16 0, .int .u16 0, .int .u16 0, .int .u16 0, .int .u16 0, .int .u16 0] 197)).alloc (.cells #[.int .u8 0, .int .u16 0] 25)).heap[w2.heap.size]? = some (.cells (kvA 0 []) 197 (0, 0)) := ((Keeps.refl [] _).alloc _).heap (heap_alloc_new w2 _) (by simp)
    have h9 := heap_alloc_new (w2.alloc (.cells #[.int .u8 0, .int .u16 0, .int .u16 0, .int .u16 0, .int .u16 0, .int .u16 0, .int .u16 0, .int .u16 0, .int .u16 0] 197)) (.cells #[.int .u8 0, .int .u16 0] 25)
    rw [hza] at h9
    have H8 := Lib.hid h8; have H9 := Lib.hid h9; have HKA := Lib.hid hka
    have HZ2 := Lib.hid (show R + 4 ≤ w2.heap.size from Nat.le_trans HZ1.out hk2.size)
    have HB22 := Lib.hid (hka.heap (hk2.heap HB2.out (by simp)) (by simp)); have HB32 := Lib.hid (hka.heap (hk2.heap HB3.out (by simp)) (by simp))
    have HK2 := Lib.hid ((HK1.out.trans hk2 (FSub.refl _ _)).trans hka (FSub.refl _ _))
    obtain ⟨N, hN⟩ : ∃ N, N = w2.heap.size := ⟨_, rfl⟩
    have HN := Lib.hid hN
    clear hka hza h8 h9 hk2 hN HB0 HB1 HB2 HB3 HK1 HZ1 heq
    unfold kvVal
    go_wp2_with ((with_reducible refine wpList_putK (g := w2.heap.size) (h := kvH m2) (vs := kvV m2) ?_ ?_ H8.out ?_); exact rfl; exact rfl)
    intro w4 hW4 hk4
    rw [← HN.out] at hW4 hk4
    rw [← HN.out]
    have H84 := Lib.hid hW4
    have h94 : w4.heap[N + 1]? = some (.cells (ansC ⟨0, 0⟩).toArray 25 (0, 0)) := hk4.heap (by rw [HN.out]; exact H9.out) (by simp)
    have H94 := Lib.hid h94
    have HB24 := Lib.hid (hk4.heap HB22.out (by have := HZ2.out; have := HN.out; simp; omega)); have HB34 := Lib.hid (hk4.heap HB32.out (by have := HZ2.out; have := HN.out; simp; omega))
    have HK4 := Lib.hid (HK2.out.trans hk4 (fun q hq => .inr (by have := HZ2.out; have := HN.out; have := HRE.out; simp at hq; omega)))
    clear hW4 hk4 h94 H8 H9 HB22 HB32 HK2
    go_wp2_with ((with_reducible refine wpList_putN (g := N + 1) (old := ⟨0, 0⟩) r ?_ ?_ H94.out ?_); exact rfl; exact rfl)
    intro w5 hW5 hk5
    have HR5 := Lib.hid (cells_range hW5)
    have h85 := hk5.heap H84.out (by simp)
    have h25 := hk5.heap HB24.out (by have := HZ2.out; have := HN.out; simp; omega)
    have h35 := hk5.heap HB34.out (by have := HZ2.out; have := HN.out; simp; omega)
    have HB25 := Lib.hid h25; have HB35 := Lib.hid h35
    have HK5 := Lib.hid (HK4.out.trans hk5 (fun q hq => .inr (by have := HZ2.out; have := HN.out; have := HRE.out; simp at hq; omega)))
    obtain ⟨S, hS⟩ : ∃ S : World → Prop, S = fun y => Keeps [R + 2, R + 3] w5 y := ⟨_, rfl⟩
    have HSE := Lib.hid hS
    have hSD : S w5.drew := by rw [hS]; exact (Keeps.refl _ _).drew
    have hN1 : N ∉ [R + 2, R + 3] := by have := HZ2.out; have := HN.out; simp; omega
    have hN2 : N + 1 ∉ [R + 2, R + 3] := by have := HZ2.out; have := HN.out; simp; omega
    have HS0 := Lib.hid (fun (w' : World) (hh : S w') => show ∃ t, w'.heap[N]? = some (.cells (kvA (kvH m2) (kvV m2)) t (0, 0)) from by rw [hS] at hh; exact ⟨_, hh.heap h85 hN1⟩)
    have HS1 := Lib.hid (fun (w' : World) (hh : S w') => show w'.rangeAt (N + 1) 0 (ansC r) from by
      rw [hS] at hh
      intro j u hu
      exact hh.cell (HR5.out j u hu) hN2)
    clear hS hW5 hk5 h85 h25 h35 hN1 hN2 H84 H94 HB24 HB34 HK4
    go_wp2_with fail
    refine wp_region_noPanic ?_
    refine wp_region_held_drew (S := S) (by kernel_rfl) hSD (fun hHeld => ?_)
    refine tk 0 (y := by exact yields_loadK (by rfl) _ rfl N rfl _ _ HS0.out) (h := ?_)
    refine tk 1 (y := by exact yields_ans r (by rfl) _ rfl (N + 1) 0 rfl HS1.out) (h := ?_)
    refine rp 2 (h := fun K hK => ?_)
    refine wp_putK rfl (g := R + 2) (h := kvH m2) (vs := kvV m2) rfl rfl (HB25.out) (fun W6 hW6 hk6 => ?_)
    have HW6 := Lib.hid hW6
    have HA6 := Lib.hid (hk6.heap HB35.out (by simp))
    have HK6 := Lib.hid (show Keeps [R + 2, R + 3] w5 W6 from (((Keeps.refl [R + 2, R + 3] w5).drew).step hk6 (by simp)))
    clear hW6 hk6
    refine hK.out _ _ (by rw [HSE.out]; exact HK6.out) (fun hHeld => ?_); clear hK K; try simp only [Act.put, lsA, lsZ, lsS]
    refine rp 3 (h := fun K hK => ?_)
    refine wp_putN rfl (g := R + 3) (old := ⟨0, 0⟩) r rfl rfl HA6.out (fun W7 hW7 hk7 => ?_)
    have HW7 := Lib.hid hW7
    have HS7 := Lib.hid (hk7.heap HW6.out (by simp))
    have HK7 := Lib.hid (HK6.out.step hk7 (by simp))
    clear hW7 hk7
    refine hK.out _ _ (by rw [HSE.out]; exact HK7.out) (fun hHeld => ?_); clear hK K; try simp only [Act.put, lsA, lsZ, lsS]
    refine tw 4 (h := ?_)
    refine wpAnyH_done (by kernel_rfl) ?_ _
    refine NoPanic.normal ?_
    go_wp2_with fail
    try simp only [Exit.inBlock, Exit.then]
    exact bodyPost_ret (results_kv3 rfl _ _ (R + 2) (R + 3) r rfl HS7.out rfl HW7.out) rfl ⟨rfl, HK5.out.trans HK7.out (fun q hq => .inr (by have := HRE.out; simp at hq; omega))⟩
end Go.Proofs.YtbnhcggjcdipeaaGreatDoor
/-
  The program's key map: a state's numbers as an array; Check.
-/
namespace Go.Proofs.YtbnhcggjcdipeaaGreatDoor
open Go.RowKit
def kvTl (vs : List Int) : List Value := [.int .u16 (vs.getD 0 0), .int .u16 (vs.getD 1 0), .int .u16 (vs.getD 2 0), .int .u16 (vs.getD 3 0), .int .u16 (vs.getD 4 0), .int .u16 (vs.getD 5 0), .int .u16 (vs.getD 6 0), .int .u16 (vs.getD 7 0)]
theorem kv_range {w : World} {b : Nat} {h : Int} {vs : List Int} {t : TypeId} (hg : w.heap[b]? = some (.cells (kvA h vs) t (0, 0))) : w.rangeAt b 1 (kvTl vs) := by
  intro j u hu
  have hj : j < 8 := by
    have := (List.getElem?_eq_some_iff.1 hu).1
    simpa [kvTl] using this
  rw [kv_cell hg hj]
  match j, hj with
  | 0, _ | 1, _ | 2, _ | 3, _ | 4, _ | 5, _ | 6, _ | 7, _ => simpa [kvTl] using hu
section
variable {ops : Array Oper} {rest : List Oper} {o : Oper} {a : Act} {w : World} {K : Act → World → Prop} {Q : Exit → Act → World → Prop}
theorem wpList_loadKt {dst : Option Tmp} {ty : TypeId} {pos : String} {after : Array Edge} {x : Operand} {g : Nat} {h : Int} {vs : List Int} {t : TypeId}
    (hx : a.eval x = .pointer (some ⟨g, 1, none⟩)) (hg : w.heap[g]? = some (.cells (kvA h vs) t (0, 0))) (hK : wpList Tryz.prog ops Q rest (a.put dst (.agg (kvT vs))) w) :
    wpList Tryz.prog ops Q ({ dst := dst, op := .load 195 x, type := ty, pos := pos, after := after, guard := none } :: rest) a w :=
  wpList_plain rfl fun _ hk => wp_load_mid 195 x rfl g 1 hx (kvTl vs) _ (kv_range hg) Tryz.underlying195 rfl (by kernel_rfl) (hk _ _ hK)
end
set_option maxRecDepth 100000 in
theorem index_kvT (vs : List Int) {k : Nat} (hk : k < 8) (w : World) : (Instr.index 195 (.agg (kvT vs)) (.int .i64 k)).run Tryz.prog w = .ok (.int .u16 (vs.getD k 0)) w := by
  rcases (by omega : k = 0 ∨ k = 1 ∨ k = 2 ∨ k = 3 ∨ k = 4 ∨ k = 5 ∨ k = 6 ∨ k = 7) with rfl | rfl | rfl | rfl | rfl | rfl | rfl | rfl <;> simp [Instr.index, kvT, run_underlying Tryz.underlying195, asIntOf, go_sem]
set_option maxHeartbeats 8000000
set_option maxRecDepth 100000
end Go.Proofs.YtbnhcggjcdipeaaGreatDoor
/-
  The program's key map: Encode.
-/
namespace Go.Proofs.YtbnhcggjcdipeaaGreatDoor
open Go.RowKit
set_option maxHeartbeats 8000000
set_option maxRecDepth 100000
theorem kvEncode_any (w : World) {m : Kv} (hm : KvIn m) : Calls Tryz.prog 115 #[kvVal m] w fun e w' => e = .returned (.string (strOfNums (kvBn m))) ∧ Keeps [] w w' := by
  have hk0 : Keeps [] w ((w.alloc (.cells (kvA (kvH m) (kvV m)) 197)).alloc (.cells #[.slice none 0 0, .int .i64 0, .pointer none] 254)) := ((Keeps.refl _ _).alloc _).alloc _
  have h0 : ((w.alloc (.cells (kvA (kvH m) (kvV m)) 197)).alloc (.cells #[.slice none 0 0, .int .i64 0, .pointer none] 254)).heap[w.heap.size]? = some (.cells (kvA (kvH m) (kvV m)) 197 (0, 0)) := ((Keeps.refl [] _).alloc _).heap (heap_alloc_new w _) (by simp)
  have hw0 := wat_new (w.alloc (.cells (kvA (kvH m) (kvV m)) 197))
  have hz1 : (w.alloc (.cells (kvA (kvH m) (kvV m)) 197)).heap.size = w.heap.size + 1 := Array.size_push _
  rw [hz1] at hw0
  have hs := hm.small
  have HU8 := Lib.hid (U8_any _ _ _ _ hw0 (kvH m : Int) (by omega) (by omega) (fun xs e => by obtain rfl := Option.some.inj e; simp))
  have HL0 := Lib.hid h0; have HK0 := Lib.hid hk0
  obtain ⟨R, hR⟩ : ∃ R, R = w.heap.size := ⟨_, rfl⟩
  have HRE := Lib.hid hR; have HM := Lib.hid hm
  clear hk0 h0 hw0 hz1 hs hR hm
  unfold kvVal
  go_enter Tryz.func115, Tryz.ntmps115
  go_wp2_with ((with_reducible refine wpList_loadKh (g := w.heap.size) (h := kvH m) (vs := kvV m) ?_ HL0.out ?_); exact rfl)
  refine HU8.out.mono ?_; rintro e w1 ⟨rfl, F1, hw1, hk1, hs1⟩
  have HB0 := Lib.hid (hk1.heap HL0.out (by simp))
  have HW1 := Lib.hid hw1
  have HK1 := Lib.hid (HK0.out.trans hk1 (fun q hq => .inr (by simp at hq; omega)))
  have HF1 := Lib.hid (show ∀ q ∈ F1, R + 1 ≤ q from fun q hq => by
    have h1 := HRE.out
    rcases hs1 q hq with h | h
    · simp at h; omega
    · have := HK0.out.size
      have e2 : ((w.alloc (.cells (kvA (kvH m) (kvV m)) 197)).alloc (.cells #[.slice none 0 0, .int .i64 0, .pointer none] 254)).heap.size = (w.alloc (.cells (kvA (kvH m) (kvV m)) 197)).heap.size + 1 := Array.size_push _
      have e1 : (w.alloc (.cells (kvA (kvH m) (kvV m)) 197)).heap.size = w.heap.size + 1 := Array.size_push _
      omega)
  clear hw1 hk1 hs1 HL0 HK0 HU8
  rw [← HRE.out] at HB0 HW1 ⊢
  go_wp2_with ((with_reducible refine wpList_loadKt (g := R) (h := kvH m) (vs := kvV m) ?_ HB0.out ?_); exact rfl)
  go_loopw [16] (fun i wr => ∃ (k : Nat) (F : List Nat), i = .int .i64 k ∧ k ≤ 8 ∧ WAt wr (R + 1) F (some ((kvH m : Int) :: kvR (m.take k))) ∧ wr.heap[R]? = some (.cells (kvA (kvH m) (kvV m)) 197 (0, 0)) ∧ Keeps [] w wr ∧ ∀ q ∈ F, R + 1 ≤ q) (fun i _ => 8 - (intOf i).toNat)
  case atStart => exact ⟨0, F1, rfl, by omega, HW1.out, HB0.out, HK1.out, HF1.out⟩
  case round =>
    obtain ⟨k, F, rfl, hk, hw2, hb0, hkw, hF⟩ := hrel
    by_cases hlt : k < 8
    · have hkm : k < m.length := by rw [HM.out.len]; exact hlt
      have hix := index_kvT (kvV m) hlt
      have HN := Lib.hid (kvR_next hkm)
      obtain ⟨u, hu⟩ : ∃ u, u = (kvV m).getD k 0 := ⟨_, rfl⟩
      rw [← hu] at hix
      have HVK := Lib.hid (hu.trans (kvV_getD hkm))
      have HHAS := Lib.hid (fun w => kvHas_kv w HM.out (key := (k : Int)) (by omega))
      have HL := Lib.hid (show (kvR (m.take k)).length ≤ 16 from Nat.le_trans (kvR_len _) (by rw [List.length_take]; omega))
      have e8 : (k : Int) % 256 = k := by omega
      have HB := Lib.hid hb0; have HW2 := Lib.hid hw2; have HKW := Lib.hid hkw; have HF := Lib.hid hF
      clear hb0 hw2 hkw hF hkm hu
      go_wp2_with ((with_reducible refine wpList_loadK (g := R) (h := kvH m) (vs := kvV m) rfl ?_ HB.out ?_); exact rfl)
      refine (HHAS.out wr).mono ?_; rintro e w2 ⟨rfl, hk2⟩
      rw [Int.toNat_natCast]
      have HB2 := Lib.hid (hk2.heap HB.out (by simp))
      have hw3 := HW2.out.keeps hk2 (fun q hq => by simp)
      have HK2 := Lib.hid (HKW.out.trans hk2 (FSub.refl _ _))
      have HSZ := Lib.hid hk2.size
      clear hk2
      cases ho : m.getD k none with
      | none =>
        have hn := HN.out
        rw [ho] at hn
        simp only [List.append_nil] at hn
        have HN2 := Lib.hid hn; have HW3 := Lib.hid hw3
        clear hn hw3 ho HN HVK
        simp only [Option.isSome_none]
        go_wp2_with fail
        go_roundw
        case rel => exact ⟨k + 1, F, by go_num, by omega, by rw [HN2.out]; exact HW3.out, HB2.out, HK2.out, HF.out⟩
        case measure => simp [intOf]; omega
      | some v =>
        have hn := HN.out
        have hvk := HVK.out
        rw [ho] at hn hvk
        simp only [Option.getD_some] at hvk
        have hvr := HM.out.get ho
        have HU16 := Lib.hid (U16_any w2 _ _ _ hw3 v hvr.1 hvr.2 (fun xs e => by obtain rfl := Option.some.inj e; have := HL.out; simp only [List.length_cons]; omega))
        have HN2 := Lib.hid hn
        subst hvk
        clear hn hw3 ho HN HVK hvr
        simp only [Option.isSome_some]
        go_wp2_with fail
        refine HU16.out.mono ?_; rintro e w3 ⟨rfl, F3, hw3, hk3, hs3⟩
        have HW3 := Lib.hid hw3
        have HB3 := Lib.hid (hk3.heap HB2.out (fun hq => by have := HF.out _ hq; omega))
        have HK3 := Lib.hid (HK2.out.trans hk3 (fun q hq => .inr (by have := HF.out _ hq; have := HRE.out; omega)))
        have HF3 := Lib.hid (show ∀ q ∈ F3, R + 1 ≤ q from fun q hq => by
          rcases hs3 q hq with h | h
          · exact HF.out q h
          · have h1 := lt_of_block HB2.out; omega)
        clear hw3 hk3 hs3
        go_wp2_with fail
        go_roundw
        case rel => exact ⟨k + 1, F3, by go_num, by omega, by rw [HN2.out]; exact HW3.out, HB3.out, HK3.out, HF3.out⟩
        case measure => simp [intOf]; omega
    · obtain rfl : k = 8 := by omega
      have hall : m.take 8 = m := by rw [← HM.out.len, List.take_length]
      rw [hall] at hw2
      have HBY := Lib.hid (Bytes_any wr _ _ _ hw2)
      have HKW := Lib.hid hkw
      clear hw2 hb0 hkw hF hall
      go_wp2_with fail
      refine HBY.out.mono ?_; rintro e w3 ⟨rfl, rfl⟩
      simp only [Option.getD_some, Option.isSome_some, if_true]
      go_wp2_with fail
      go_ret
      exact ⟨rfl, HKW.out.drew⟩
end Go.Proofs.YtbnhcggjcdipeaaGreatDoor
/-
  The program's key map: Decode.
-/
namespace Go.Proofs.YtbnhcggjcdipeaaGreatDoor
open Go.RowKit
theorem dk_H (xs : List Int) : ∀ k, kvH (dkS xs k).2.2 = (rdVal 1 xs 0 0).toNat % 2 ^ k
  | 0 => by simp [dkS, kvH, Nat.mod_one]
  | k + 1 => by
    have ih := dk_H xs k
    have hb := bits_more (rdVal 1 xs 0 0).toNat k
    unfold dkS
    split
    · rename_i h
      simp only [kvH_app, dkS_len]
      rw [ih, hb, h]
      rfl
    · rename_i h
      have h0 : (rdVal 1 xs 0 0).toNat / 2 ^ k % 2 = 0 := by omega
      simp only [kvH_app, dkS_len]
      rw [ih, hb, h0]
      rfl
/-- The numbers that are there so far. -/
def vsOf (m : Kv) : List Int := kvV m ++ List.replicate (8 - m.length) 0
theorem vsOf_len {m : Kv} (h : m.length ≤ 8) : (vsOf m).length = 8 := by simp [vsOf, kvV_len]; omega
theorem vsOf_whole {m : Kv} (h : m.length = 8) : vsOf m = kvV m := by simp [vsOf, h]
theorem vsOf_none {m : Kv} (h : m.length < 8) : vsOf (m ++ [none]) = vsOf m := by
  unfold vsOf
  rw [List.length_append, List.length_singleton, show 8 - m.length = (8 - (m.length + 1)) + 1 by omega, List.replicate_succ]
  simp [kvV]
theorem vsOf_some {m : Kv} (h : m.length < 8) (v : Int) : vsOf (m ++ [some v]) = (vsOf m).set m.length v := by
  unfold vsOf
  rw [List.length_append, List.length_singleton, show 8 - m.length = (8 - (m.length + 1)) + 1 by omega, List.replicate_succ, List.set_append_right _ _ (by rw [kvV_len]; omega), kvV_len, Nat.sub_self, List.set_cons_zero]
  simp [kvV]
theorem results_kvE {fn : Func} {p x : Tmp} (h : fn.results = #[.cell p 197, .tmp x]) (tmps : Array Value) (w : World) (b : Nat) {z : Int} {vs : List Int} {t : TypeId}
    (hp : tmps.getD p undef = .pointer (some ⟨b, 0, none⟩)) (hb : w.heap[b]? = some (.cells (kvA z vs) t (0, 0))) : (results fn tmps).run Tryz.prog w = .ok (.tuple #[.agg (kvA z vs), tmps.getD x undef]) w := by
  have h1 : (loadVar 197 ⟨b, 0, none⟩).run Tryz.prog w = .ok (.agg (kvA z vs)) w := run_loadVar_row w b t 197 _ _ _ hb Tryz.underlying197 rfl (by kernel_rfl)
  have hp' : tmps[p]?.getD undef = .pointer (some ⟨b, 0, none⟩) := by simpa using hp
  simp only [results, h]
  simp [Sem.run_bind, Result.andThen, hp', asAddr, h1]
set_option maxHeartbeats 8000000
set_option maxRecDepth 100000
theorem kvDecode_any (w : World) (l : List UInt8) (hl : l.length ≤ 1000) : Calls Tryz.prog 118 #[.string (bs l)] w fun e w' => e = .returned (.tuple #[kvVal (kvD (nb l)).1, .int .i64 (kvD (nb l)).2]) ∧ Keeps [] w w' := by
  have hx := nb_u8 l
  have hlen : (nb l).length ≤ 1000 := by rw [nb_length]; exact hl
  have hov := fun w => Over_any w (bs l)
  rw [show nums (bs l) = nb l by rw [nb_nums, bs_list]] at hov
  generalize nb l = xs at *
  generalize bs l = B0 at *
  have HX := Lib.hid hx; have HL := Lib.hid hlen; have HOV := Lib.hid hov
  have hk0 : Keeps [] w (w.alloc (.cells (kvA 0 []) 197)) := (Keeps.refl _ _).alloc _
  have h0 := heap_alloc_new w (.cells (kvA 0 []) 197)
  have hz : (w.alloc (.cells (kvA 0 []) 197)).heap.size = w.heap.size + 1 := Array.size_push _
  obtain ⟨R, hR⟩ : ∃ R, R = w.heap.size := ⟨_, rfl⟩
  rw [← hR] at h0 hz
  have HK0 := Lib.hid hk0; have H0 := Lib.hid h0; have HRE := Lib.hid hR; have HZ := Lib.hid hz
  clear hx hlen hl hov hk0 h0 hz hR
  go_enter Tryz.func118, Tryz.ntmps118
  go_wp2_with fail
  refine (HOV.out _).mono ?_; rintro e w1 ⟨rfl, ⟨cap, hr1⟩, hk1⟩
  have hzl : (w.alloc (.cells #[.int .u8 0, .int .u16 0, .int .u16 0, .int .u16 0, .int .u16 0, .int .u16 0, .int .u16 0, .int .u16 0, .int .u16 0] 197)).heap.size = R + 1 := HZ.out
  rw [hzl] at hr1 ⊢
  have HU8 := Lib.hid (RU8_any w1 _ _ _ _ xs 0 hr1 HX.out (by have := HL.out; omega))
  have HB0 := Lib.hid (hk1.heap H0.out (by simp))
  have HK1 := Lib.hid (HK0.out.trans hk1 (FSub.refl _ _))
  rw [← HRE.out]
  clear hr1 hk1 hzl HK0 H0 HZ HOV
  go_wp2_with fail
  refine HU8.out.mono ?_; rintro e w2 ⟨rfl, hr2, hk2⟩
  have HR2 := Lib.hid hr2
  have HB02 := Lib.hid (hk2.heap HB0.out (by simp; omega))
  have HK2 := Lib.hid (HK1.out.trans hk2 (fun q hq => .inr (by have := HRE.out; simp at hq; omega)))
  have hbr := rdVal1_in HX.out 0 0
  obtain ⟨B, hB⟩ : ∃ B : Nat, rdVal 1 xs 0 0 = B := ⟨(rdVal 1 xs 0 0).toNat, by omega⟩
  have HBN := Lib.hid (show (rdVal 1 xs 0 0).toNat = B from by omega)
  rw [hB] at hbr ⊢
  have HBR := Lib.hid (show B < 256 from by omega)
  have HSZ := Lib.hid (show R + 3 ≤ w2.heap.size from by have := lt_of_block hr2.blk; omega)
  have hka : Keeps [] w2 (w2.alloc (.cells #[.int .u8 0, .int .u16 0, .int .u16 0, .int .u16 0, .int .u16 0, .int .u16 0, .int .u16 0, .int .u16 0, .int .u16 0] 197)) := (Keeps.refl _ _).alloc _
  have HA0 := Lib.hid (hka.heap HB02.out (by simp)); have HAN := Lib.hid (show (w2.alloc (.cells #[.int .u8 0, .int .u16 0, .int .u16 0, .int .u16 0, .int .u16 0, .int .u16 0, .int .u16 0, .int .u16 0, .int .u16 0] 197)).heap[w2.heap.size]? = some (.cells (kvA 0 []) 197 (0, 0)) from heap_alloc_new w2 _)
  have HAR := Lib.hid (hr2.keeps hka (by simp) (by simp))
  have HKA := Lib.hid (HK2.out.trans hka (FSub.refl _ _))
  obtain ⟨N, hN⟩ : ∃ N, N = w2.heap.size := ⟨_, rfl⟩
  have HN := Lib.hid hN
  clear hr2 hk2 hbr hB hka hN HU8 HB0 HK1 HR2 HB02 HK2
  go_wp2_with ((with_reducible refine wpList_putK (g := w2.heap.size) (h := B) (vs := []) ?_ ?_ HAN.out ?_); exact rfl; exact rfl)
  intro w3 hb3 hk3
  rw [← HN.out] at hb3 hk3 ⊢
  have HNR := Lib.hid (show R + 3 ≤ N from by have := HSZ.out; have := HN.out; omega)
  have HB3 := Lib.hid (show w3.heap[N]? = some (.cells (kvA B (vsOf (dkS xs 0).2.2)) 197 (0, 0)) from hb3)
  have HB03 := Lib.hid (hk3.heap HA0.out (by have := HNR.out; simp; omega))
  have HR3 := Lib.hid (show RAt w3 (R + 1 + 1) (R + 1) cap xs (dkS xs 0).1 (dkS xs 0).2.1 from HAR.out.keeps hk3 (by have := HNR.out; simp; omega) (by have := HNR.out; simp; omega))
  have HK3 := Lib.hid (HKA.out.trans hk3 (fun q hq => .inr (by have := HNR.out; have := HRE.out; simp at hq; omega)))
  clear hb3 hk3 HA0 HAN HAR HKA HSZ HN
  go_wp2_with fail
  go_loopw [12] (fun i wr => ∃ k : Nat, i = .int .i64 k ∧ k ≤ 8 ∧ RAt wr (R + 1 + 1) (R + 1) cap xs (dkS xs k).1 (dkS xs k).2.1 ∧ wr.heap[N]? = some (.cells (kvA B (vsOf (dkS xs k).2.2)) 197 (0, 0)) ∧ wr.heap[R]? = some (.cells (kvA 0 []) 197 (0, 0)) ∧ Keeps [] w wr) (fun i _ => 8 - (intOf i).toNat)
  case atStart => exact ⟨0, rfl, by omega, HR3.out, HB3.out, HB03.out, HK3.out⟩
  case round =>
    obtain ⟨k, rfl, hk, hr, hbn, hb0, hkw⟩ := hrel
    by_cases hlt : k < 8
    · have e8 : (k : Int) % 256 = k := by omega
      have HHAS := Lib.hid (fun w vs => kvHas_any w HBR.out vs (key := (k : Int)) (by omega))
      have HR := Lib.hid hr; have HBNN := Lib.hid hbn; have HB0 := Lib.hid hb0; have HKW := Lib.hid hkw
      have HDL := Lib.hid (dkS_len xs k)
      have HD1 := Lib.hid (show B / 2 ^ k % 2 = 1 → dkS xs (k + 1) = (rdErr 2 xs (dkS xs k).1 (dkS xs k).2.1, rdPos 2 xs (dkS xs k).1 (dkS xs k).2.1, (dkS xs k).2.2 ++ [some (rdVal 2 xs (dkS xs k).1 (dkS xs k).2.1)]) from fun h => by rw [dkS, HBN.out, if_pos h])
      have HD0 := Lib.hid (show ¬ B / 2 ^ k % 2 = 1 → dkS xs (k + 1) = ((dkS xs k).1, (dkS xs k).2.1, (dkS xs k).2.2 ++ [none]) from fun h => by rw [dkS, HBN.out, if_neg h])
      generalize dkS xs k = D at *
      obtain ⟨e1, p1, m1⟩ := D
      simp only at *
      clear hr hbn hb0 hkw
      go_wp2_with ((with_reducible refine wpList_loadK (g := N) (h := B) rfl ?_ HBNN.out ?_); exact rfl)
      refine (HHAS.out wr _).mono ?_; rintro e w4 ⟨rfl, hk4⟩
      rw [Int.toNat_natCast]
      have HBN4 := Lib.hid (hk4.heap HBNN.out (by simp)); have HB04 := Lib.hid (hk4.heap HB0.out (by simp))
      have hr4 := HR.out.keeps hk4 (by simp) (by simp)
      have HK4 := Lib.hid (HKW.out.trans hk4 (FSub.refl _ _))
      clear hk4
      by_cases hbit : B / 2 ^ k % 2 = 1
      · rw [decide_eq_true hbit]
        have HD := Lib.hid (HD1.out hbit)
        have HU := Lib.hid (RU16_any w4 _ _ _ _ xs e1 hr4 HX.out (by have := HL.out; omega))
        clear hbit HD1 HD0 hr4
        generalize hV : rdVal 2 xs e1 p1 = V at *
        clear hV
        go_wp2_with fail
        refine HU.out.mono ?_; rintro e w5 ⟨rfl, hr5, hk5⟩
        have HBN5 := Lib.hid (hk5.heap HBN4.out (by have := HNR.out; simp; omega)); have HB05 := Lib.hid (hk5.heap HB04.out (by simp; omega))
        have HR5 := Lib.hid hr5
        have HK5 := Lib.hid (HK4.out.trans hk5 (fun q hq => .inr (by have := HRE.out; simp at hq; omega)))
        have hlk : (k : Int) < 8 := by omega
        clear hr5 hk5
        have HVL := Lib.hid (vsOf_len (m := m1) (by rw [HDL.out]; exact hk))
        have HVS := Lib.hid (vsOf_some (m := m1) (by rw [HDL.out]; exact hlt) V)
        go_wp2_with ((with_reducible refine wpList_putKv (g := N) (k := k) (h := B) (v := V) HVL.out hlt ?_ ?_ HBN5.out ?_); exact rfl; exact rfl)
        intro w6 hb6 hk6
        have hvs := HVS.out
        rw [HDL.out] at hvs
        rw [← hvs] at hb6
        have HB6 := Lib.hid hb6
        have HB06 := Lib.hid (hk6.heap HB05.out (by have := HNR.out; simp; omega))
        have HR6 := Lib.hid (HR5.out.keeps hk6 (by have := HNR.out; simp; omega) (by have := HNR.out; simp; omega))
        have HK6 := Lib.hid (HK5.out.trans hk6 (fun q hq => .inr (by have := HNR.out; have := HRE.out; simp at hq; omega)))
        clear hb6 hk6 hvs
        go_wp2_with fail
        go_roundw
        case rel => exact ⟨k + 1, by go_num, by omega, by rw [HD.out]; exact HR6.out, by rw [HD.out]; exact HB6.out, HB06.out, HK6.out⟩
        case measure => simp [intOf]; omega
      · rw [decide_eq_false hbit]
        have HD := Lib.hid (HD0.out hbit)
        have HR4 := Lib.hid hr4
        have HVS := Lib.hid (vsOf_none (m := m1) (by rw [HDL.out]; exact hlt))
        clear hbit HD1 HD0 hr4
        go_wp2_with fail
        go_roundw
        case rel => exact ⟨k + 1, by go_num, by omega, by rw [HD.out]; exact HR4.out, by rw [HD.out]; show _ = some (Obj.cells (kvA B (vsOf (m1 ++ [none]))) _ _); rw [HVS.out]; exact HBN4.out, HB04.out, HK4.out⟩
        case measure => simp [intOf]; omega
    · obtain rfl : k = 8 := by omega
      have HB0 := Lib.hid hb0; have HKW := Lib.hid hkw
      have hm8 := dkS_len xs 8
      rw [vsOf_whole hm8] at hbn
      have HBNN := Lib.hid hbn
      have hH : kvH (dkS xs 8).2.2 = B := by
        rw [dk_H, HBN.out]
        exact Nat.mod_eq_of_lt HBR.out
      have HCL := Lib.hid (Close_any wr _ _ _ _ _ _ hr (by have := HL.out; omega))
      have HDC := Lib.hid (show kvD xs = if closeOf (dkS xs 8).1 (dkS xs 8).2.1 xs.length = 0 then ((dkS xs 8).2.2, 0) else (kv0, 4) from rfl)
      have HH := Lib.hid hH
      clear hb0 hkw hbn hr hm8 hH
      generalize dkS xs 8 = D at *
      obtain ⟨e1, p1, m1⟩ := D
      simp only at *
      generalize closeOf e1 p1 xs.length = C at *
      go_wp2_with fail
      refine HCL.out.mono ?_; rintro e w4 ⟨rfl, n, rfl⟩
      have HBN4 := Lib.hid (show (wr.drewN n).heap[N]? = some (.cells (kvA B (kvV m1)) 197 (0, 0)) from HBNN.out)
      have HB04 := Lib.hid (show (wr.drewN n).heap[R]? = some (.cells (kvA 0 []) 197 (0, 0)) from HB0.out)
      have HK4 := Lib.hid (HKW.out.drewN n)
      generalize wr.drewN n = w4 at *
      by_cases hC : C = 0
      · have HD := Lib.hid (HDC.out.trans (if_pos hC))
        subst hC
        clear HDC
        go_wp2_with (first
          | ((with_reducible refine wpList_loadK (g := N) rfl ?_ HBN4.out ?_); exact rfl)
          | ((with_reducible refine wpList_putK (g := R) (h := B) (vs := kvV m1) ?_ ?_ HB04.out ?_); exact rfl; exact rfl))
        intro w5 hb5 hk5
        have HB5 := Lib.hid hb5
        have HK5 := Lib.hid (HK4.out.trans hk5 (fun q hq => .inr (by have := HRE.out; simp at hq; omega)))
        clear hb5 hk5
        go_wp2_with fail
        try simp only [Exit.inBlock, Exit.then]
        exact bodyPost_ret (results_kvE rfl _ _ R rfl HB5.out) rfl ⟨by rw [HD.out]; unfold kvVal; rw [HH.out]; rfl, HK5.out⟩
      · have te : (C != 0) = true := by simpa using hC
        have HD := Lib.hid (HDC.out.trans (if_neg hC))
        clear HDC hC
        go_wp2_with ((with_reducible refine wpList_putK (g := R) (h := 0) (vs := []) ?_ ?_ HB04.out ?_); exact rfl; exact rfl)
        intro w5 hb5 hk5
        have HB5 := Lib.hid hb5
        have HK5 := Lib.hid (HK4.out.trans hk5 (fun q hq => .inr (by have := HRE.out; simp at hq; omega)))
        clear hb5 hk5
        go_wp2_with fail
        try simp only [Exit.inBlock, Exit.then]
        exact bodyPost_ret (results_kvE rfl _ _ R rfl HB5.out) rfl ⟨by rw [HD.out]; rfl, HK5.out⟩
end Go.Proofs.YtbnhcggjcdipeaaGreatDoor
