/-
  A key map's bytes; the document's Encode, Decode.
-/
import Derived.Test.YtbnhcggjcdipeaaGreatDoorWS19
import Derived.Test.YtbnhcggjcdipeaaGreatDoorWS21
set_option linter.unusedSimpArgs false
set_option linter.unusedVariables false
namespace Go.Proofs.YtbnhcggjcdipeaaGreatDoor
open Go.RowKit
/-- The numbers' bytes; a state's. -/
def kvR : Kv → List Int
  | [] => []
  | none :: r => kvR r
  | some v :: r => v / 256 :: v % 256 :: kvR r
def kvBn (m : Kv) : List Int := (kvH m : Int) :: kvR m
theorem kvR_app : ∀ l m : Kv, kvR (l ++ m) = kvR l ++ kvR m
  | [], m => rfl
  | none :: r, m => kvR_app r m
  | some v :: r, m => by rw [List.cons_append, kvR, kvR, kvR_app r m]; rfl
theorem kvR_len : ∀ l : Kv, (kvR l).length ≤ 2 * l.length
  | [] => Nat.le_refl _
  | none :: r => by have := kvR_len r; rw [kvR, List.length_cons]; omega
  | some v :: r => by have := kvR_len r; rw [kvR, List.length_cons, List.length_cons, List.length_cons]; omega
theorem kvR_next {m : Kv} {k : Nat} (hk : k < m.length) : kvR (m.take (k + 1)) = kvR (m.take k) ++ (match m.getD k none with | some v => [v / 256, v % 256] | none => []) := by
  rw [List.take_add_one, List.getElem?_eq_getElem hk, Option.toList_some, kvR_app]
  congr 1
  rw [List.getD_eq_getElem?_getD, List.getElem?_eq_getElem hk, Option.getD_some]
  cases m[k] <;> rfl
theorem kvH_app : ∀ l m : Kv, kvH (l ++ m) = kvH l + 2 ^ l.length * kvH m
  | [], m => by simp [kvH]
  | none :: r, m => by rw [List.cons_append, kvH, kvH, kvH_app r m, List.length_cons, Nat.pow_succ, Nat.mul_add, Nat.mul_comm (2 ^ r.length) 2, Nat.mul_assoc]
  | some _ :: r, m => by rw [List.cons_append, kvH, kvH, kvH_app r m, List.length_cons, Nat.pow_succ, Nat.mul_add, Nat.mul_comm (2 ^ r.length) 2, Nat.mul_assoc, Nat.add_assoc]
theorem kvH_next {m : Kv} {k : Nat} (hk : k < m.length) : kvH (m.take (k + 1)) = kvH (m.take k) + (if (m.getD k none).isSome then 2 ^ k else 0) := by
  rw [List.take_add_one, List.getElem?_eq_getElem hk, Option.toList_some, kvH_app, List.length_take, Nat.min_eq_left (by omega)]
  rw [List.getD_eq_getElem?_getD, List.getElem?_eq_getElem hk, Option.getD_some]
  cases m[k] <;> simp [kvH]
/-- What is read of bytes: the error, the place, the numbers of the first keys. -/
def dkS (xs : List Int) : Nat → Int × Nat × Kv
  | 0 => (rdErr 1 xs 0 0, rdPos 1 xs 0 0, [])
  | k + 1 => if (rdVal 1 xs 0 0).toNat / 2 ^ k % 2 = 1 then (rdErr 2 xs (dkS xs k).1 (dkS xs k).2.1, rdPos 2 xs (dkS xs k).1 (dkS xs k).2.1, (dkS xs k).2.2 ++ [some (rdVal 2 xs (dkS xs k).1 (dkS xs k).2.1)])
    else ((dkS xs k).1, (dkS xs k).2.1, (dkS xs k).2.2 ++ [none])
def kvD (xs : List Int) : Kv × Int := if closeOf (dkS xs 8).1 (dkS xs 8).2.1 xs.length = 0 then ((dkS xs 8).2.2, 0) else (kv0, 4)
theorem dkS_len (xs : List Int) : ∀ k, (dkS xs k).2.2.length = k
  | 0 => rfl
  | k + 1 => by unfold dkS; split <;> simp [dkS_len xs k]
theorem rdVal2_in {xs : List Int} (hx : InU8 xs) (e : Int) (p : Nat) : 0 ≤ rdVal 2 xs e p ∧ rdVal 2 xs e p < 65536 := by
  unfold rdVal
  split
  · rename_i h
    rw [numOf_2 xs p h.2]
    have h1 := hx (p + 0); have h2 := hx (p + 1)
    omega
  · exact ⟨Int.le_refl _, by decide⟩
theorem rdVal1_in {xs : List Int} (hx : InU8 xs) (e : Int) (p : Nat) : 0 ≤ rdVal 1 xs e p ∧ rdVal 1 xs e p < 256 := by
  unfold rdVal
  split
  · rename_i h
    rw [numOf_1 xs p h.2]
    exact hx (p + 0)
  · exact ⟨Int.le_refl _, by decide⟩
theorem dkS_rng {xs : List Int} (hx : InU8 xs) : ∀ k (j : Nat) v, (dkS xs k).2.2[j]? = some (some v) → 0 ≤ v ∧ v < 65536
  | 0, j, v, h => by simp [dkS] at h
  | k + 1, j, v, h => by
    unfold dkS at h
    split at h
    · simp only [List.getElem?_append] at h
      split at h
      · exact dkS_rng hx k j v h
      · simp only [List.getElem?_singleton] at h
        split at h
        · simp only [Option.some.injEq] at h
          rw [← h]
          exact rdVal2_in hx _ _
        · cases h
    · simp only [List.getElem?_append] at h
      split at h
      · exact dkS_rng hx k j v h
      · simp only [List.getElem?_singleton] at h
        split at h <;> simp at h
theorem kvD_in {xs : List Int} (hx : InU8 xs) : KvIn (kvD xs).1 := by
  unfold kvD
  split
  · exact ⟨dkS_len xs 8, dkS_rng hx 8⟩
  · exact kv0_in
theorem nb_u8 (l : List UInt8) : InU8 (nb l) := fun j => by
  rw [nb_getD]
  have := (l.getD j 0).toNat_lt
  omega
set_option maxHeartbeats 8000000
set_option maxRecDepth 100000
theorem rel_idx {m : Kv} {t : List It} (h : Rel m t) {k : Nat} (hk : k < 8) : (m.getD k none = none ∧ itIdx k t = none) ∨ ∃ v i, m.getD k none = some v ∧ itIdx k t = some i ∧ i < t.length ∧ (t.getD i ⟨0, 0⟩).v = v := by
  have hl := h.look k hk
  rw [itLook_idx] at hl
  cases hi : itIdx k t with
  | none => rw [hi] at hl; exact .inl ⟨hl.symm, rfl⟩
  | some i =>
    rw [hi] at hl
    exact .inr ⟨_, i, hl.symm, rfl, (itIdx_some hi).1, rfl⟩
theorem shl_int (k : Nat) (hk : k < 8) (w : World) : (Op.shift BinOp.shl IntKind.i64 1 IntKind.i64 (k : Int)).run Tryz.prog w = .ok (.int .i64 (2 ^ k)) w := by
  rcases (by omega : k = 0 ∨ k = 1 ∨ k = 2 ∨ k = 3 ∨ k = 4 ∨ k = 5 ∨ k = 6 ∨ k = 7) with rfl | rfl | rfl | rfl | rfl | rfl | rfl | rfl <;> kernel_rfl
theorem one_str (W : World) (x : Int) : (convert 109 9 (.slice (some ⟨W.heap.size, 0, none⟩) 1 1)).run Tryz.prog (W.alloc (.cells #[.int .u8 x] 5)) = .ok (.string (strOfNums [x])) (W.alloc (.cells #[.int .u8 x] 5)) := by
  refine run_convert_bytes_arg _ _ _ Tryz.underlying109 Tryz.underlying5 W.heap.size 0 1 1 [x] (by simp) (fun i hi => ?_) _ Tryz.underlying9
  match i, hi with
  | 0, _ => simp
  | i + 1, hi => exact absurd hi (by omega)
theorem str_size (l : List Int) : (strOfNums l).size = l.length := by
  show (strOfNums l).data.size = _
  simp [strOfNums]
theorem r11Encode_any (w : World) {m : Kv} {t : List It} {v : Value} (h : Rel m t) (ht : rkI.In w.heap.size w v t) (hn : t.length ≤ 1000) : Calls Tryz.prog 62 #[v] w fun e w' => e = .returned (.string (strOfNums (kvBn m))) ∧ Keeps [] w w' := by
  obtain ⟨a, cp, rfl, hc, hm, -⟩ := id ht
  have HR := Lib.hid h; have HT := Lib.hid ht
  have HAT := Lib.hid (fun (w' : World) (hk : Keeps [] w w') (key : Int) => r11at_any w' (ht.new hk (Nat.le_refl _)) (by omega) key)
  generalize hn2 : t.length = n at *
  have HN2 := Lib.hid hn2
  clear h ht hn2
  go_enter Tryz.func62, Tryz.ntmps62
  go_wp2_with fail
  go_loopw [3, 4, 5] (fun b s i wr => ∃ k : Nat, i = .int .i64 k ∧ k ≤ 8 ∧ b = .int .i64 (kvH (m.take k)) ∧ s = .string (strOfNums (kvR (m.take k))) ∧ Keeps [] w wr) (fun _ _ i _ => 8 - (intOf i).toNat)
  case atStart => exact ⟨0, rfl, by omega, rfl, rfl, Keeps.refl _ _⟩
  case round =>
    obtain ⟨k, rfl, hk, rfl, rfl, hkw⟩ := hrel
    by_cases hlt : k < 8
    · have hkm : k < m.length := by rw [HR.out.in_.len]; exact hlt
      have HB := Lib.hid (kvH_next hkm); have HX := Lib.hid (kvR_next hkm)
      have HKW := Lib.hid hkw
      have e8 : (k : Int) % 256 = k := by omega
      have HI := Lib.hid (rel_idx HR.out hlt)
      clear hkw
      go_wp2_with fail
      refine (HAT.out wr HKW.out k).mono ?_
      rintro e w1 ⟨rfl, rfl⟩
      rcases HI.out with ⟨hg, hi⟩ | ⟨v, i, hg, hi, hil, hv⟩
      · rw [hi]
        have hb := HB.out; have hx := HX.out
        rw [hg] at hb hx
        simp only [Option.isSome_none, Bool.false_eq_true, if_false, Nat.add_zero, List.append_nil] at hb hx
        have HB2 := Lib.hid hb; have HX2 := Lib.hid hx
        clear hb hx hg hi HB HX HI
        rw [show idxI none = -1 from rfl]
        go_wp2_with fail
        go_roundw
        case rel => exact ⟨k + 1, by go_num, by omega, by rw [HB2.out], by rw [HX2.out], HKW.out⟩
        case measure => simp [intOf]; omega
      · rw [hi, show idxI (some i) = (i : Int) from rfl]
        have hb := HB.out; have hx := HX.out
        rw [hg] at hb hx
        simp only [Option.isSome_some, if_true] at hb hx
        have hvin := HR.out.in_.get hg
        obtain ⟨bk, o, rfl, hbk, hr⟩ := It.at (HT.out.new HKW.out (Nat.le_refl _)) hil
        obtain ⟨-, m1⟩ := it_cells hr
        rw [List.getD_eq_getElem?_getD, List.getElem?_eq_getElem hil, Option.getD_some] at hv
        rw [hv] at m1
        have HN := Lib.hid (fun w' => refNumber_2 w' v hvin.1 (by omega))
        have hin : i < n := by have := HN2.out; omega
        have hsh := shl_int k hlt
        have hlt2 := kvH_lt (m.take k)
        have hpk : (2 : Nat) ^ k ≤ 128 := Nat.le_trans (Nat.pow_le_pow_right (by decide) (show k ≤ 7 by omega)) (by decide)
        have hpk2 : ((2 ^ k : Nat) : Int) = 2 ^ k := by rw [Int.natCast_pow]; rfl
        rw [List.length_take, Nat.min_eq_left (by omega)] at hlt2
        have hw : IntKind.i64.wrap ((kvH (m.take k) : Int) + 2 ^ k) = (kvH (m.take k) : Int) + 2 ^ k := by rw [← hpk2]; simp [IntKind.wrap, IntKind.signed, IntKind.bits]; omega
        have hv32 : v % 4294967296 = v := by omega
        have HB2 := Lib.hid hb; have HX2 := Lib.hid hx
        have HVB := Lib.hid (show be2 (v % 65536) = [v / 256, v % 256] from by rw [show v % 65536 = v by omega]; rfl)
        have HP := Lib.hid (And.intro hpk2 hvin)
        clear hb hx hg hi HB HX HI hr hv hvin
        go_wp2_with fail
        refine (HN.out w1).mono ?_
        rintro e w2 ⟨rfl, hk2⟩
        rw [HVB.out]
        have HK2 := Lib.hid (HKW.out.trans hk2 (FSub.refl _ _))
        have hs1 : (strOfNums (kvR (m.take k))).size ≤ 16 := by
          rw [str_size]
          have := kvR_len (m.take k)
          have h2 : (m.take k).length ≤ k := List.length_take_le _ _
          omega
        have HS := Lib.hid (show strOfNums (kvR (m.take (k + 1))) = strOfNums (kvR (m.take k)) ++ strOfNums [v / 256, v % 256] from by rw [HX2.out, strOfNums_append])
        have hs2 : (strOfNums [v / 256, v % 256]).size = 2 := rfl
        generalize strOfNums (kvR (m.take k)) = T at *
        generalize strOfNums [v / 256, v % 256] = U at *
        have hsz : ¬ 9223372036854775807 < T.size + U.size := by omega
        clear hk2
        go_wp2_with fail
        go_roundw
        case rel => exact ⟨k + 1, by go_num, by omega, by rw [HB2.out, Int.natCast_add, HP.out.1], by rw [HS.out], HK2.out⟩
        case measure => simp [intOf]; omega
    · obtain rfl : k = 8 := by omega
      have hall : m.take 8 = m := List.take_of_length_le (by rw [HR.out.in_.len]; exact Nat.le_refl _)
      rw [hall]
      have hlt2 := HR.out.in_.small
      have hb : (kvH m : Int) % 256 = kvH m := by omega
      have hcv := fun W => one_str W (kvH m)
      have HKW := Lib.hid (hkw.alloc (.cells #[.int .u8 (kvH m : Int)] 5))
      have HS := Lib.hid (show strOfNums (kvBn m) = strOfNums [(kvH m : Int)] ++ strOfNums (kvR m) from by rw [← strOfNums_append]; rfl)
      have hs1 : (strOfNums (kvR m)).size ≤ 16 := by
        rw [str_size]
        have := kvR_len m
        have := HR.out.in_.len
        omega
      have hs2 : (strOfNums [(kvH m : Int)]).size = 1 := rfl
      generalize strOfNums (kvR m) = T at *
      generalize strOfNums [(kvH m : Int)] = U at *
      have hsz : ¬ 9223372036854775807 < U.size + T.size := by omega
      clear hkw hall
      go_wp2_with fail
      go_ret
      exact ⟨by rw [HS.out]; rfl, HKW.out⟩
end Go.Proofs.YtbnhcggjcdipeaaGreatDoor
