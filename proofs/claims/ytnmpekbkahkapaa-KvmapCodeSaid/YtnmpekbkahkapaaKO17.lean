/-
  KvmapCodes over any key map.
-/
import Derived.Test.YtnmpekbkahkapaaKO15
import Derived.Test.YtnmpekbkahkapaaKO07
import Derived.Test.YtnmpekbkahkapaaKO06
import Derived.Test.YtnmpekbkahkapaaKO16
set_option linter.unusedSimpArgs false
set_option linter.unusedVariables false
namespace Go.Proofs.Ytnmpekbkahkapaa
open Go.RowKit
variable {G : World → Prop}
theorem look_filter (key k : Int) : ∀ t : List It, itLook k (t.filter fun x => x.k == key) = if k = key then itLook k t else none
  | [] => by simp [itLook]
  | a :: r => by
    have ih := look_filter key k r
    rw [List.filter_cons]
    by_cases ha : a.k = key
    · rw [if_pos (by simpa using ha), itLook, itLook, ih]
      by_cases hk : k = key
      · rw [if_pos hk, if_pos hk]
      · rw [if_neg hk, if_neg hk, if_neg (by rw [ha]; exact fun e => hk e.symm)]
    · rw [if_neg (by simpa using ha), ih]
      by_cases hk : k = key
      · rw [if_pos hk, if_pos hk, itLook, if_neg (by rw [hk]; exact ha)]
      · rw [if_neg hk, if_neg hk]
theorem kv0_get (k : Nat) : kv0.getD k none = none := by
  unfold kv0
  rw [List.getD_eq_getElem?_getD, List.getElem?_replicate]
  split <;> rfl
theorem only_get {m : Kv} {key : Int} (h0 : 0 ≤ key) {k : Nat} (hk : k < 8) : (kvOnly m key).getD k none = if (k : Int) = key then m.getD k none else none := by
  unfold kvOnly
  split
  · rename_i h8
    by_cases e : (k : Int) = key
    · rw [if_pos e, show key.toNat = k by omega, List.getD_eq_getElem?_getD, List.getElem?_set_self (by show k < 8; exact hk)]
      rfl
    · rw [if_neg e, List.getD_eq_getElem?_getD, List.getElem?_set_ne (by omega), ← List.getD_eq_getElem?_getD, kv0_get]
  · rw [if_neg (by omega), kv0_get]
theorem Rel.only {m : Kv} {t : List It} (h : Rel m t) {key : Int} (h0 : 0 ≤ key) : Rel (kvOnly m key) (t.filter fun x => x.k == key) := by
  refine ⟨kvOnly_in h.in_ h0, fun k hk => ?_, fun x hx => h.keys x (List.mem_filter.1 hx).1, h.nodup.sublist (List.Sublist.map _ List.filter_sublist)⟩
  rw [look_filter, only_get h0 hk]
  split
  · exact h.look k hk
  · rfl
set_option maxHeartbeats 8000000
set_option maxRecDepth 100000
end Go.Proofs.Ytnmpekbkahkapaa
/-
  A key map's bytes, read back.
-/
namespace Go.Proofs.Ytnmpekbkahkapaa
open Go.RowKit
theorem bits_more (B k : Nat) : B % 2 ^ (k + 1) = B % 2 ^ k + 2 ^ k * (B / 2 ^ k % 2) := Nat.mod_pow_succ
theorem u8_back {xs : List Int} (h : ∀ x ∈ xs, 0 ≤ x ∧ x < 256) : ∃ l : List UInt8, nb l = xs := by
  refine ⟨xs.map fun x => UInt8.ofNat x.toNat, ?_⟩
  simp only [nb, List.map_map]
  conv => rhs; rw [← List.map_id xs]
  refine List.map_congr_left fun x hx => ?_
  have := h x hx
  simp only [Function.comp_def, UInt8.toNat_ofNat', id]
  omega
theorem kvR_u8 : ∀ {m : Kv}, (∀ (k : Nat) v, m[k]? = some (some v) → 0 ≤ v ∧ v < 65536) → ∀ x ∈ kvR m, 0 ≤ x ∧ x < 256
  | [], _, x, hx => by cases hx
  | none :: r, h, x, hx => kvR_u8 (m := r) (fun k v hk => h (k + 1) v (by simpa using hk)) x hx
  | some v :: r, h, x, hx => by
    have hv := h 0 v (by simp)
    rcases List.mem_cons.1 hx with rfl | hx
    · omega
    · rcases List.mem_cons.1 hx with rfl | hx
      · omega
      · exact kvR_u8 (m := r) (fun k v hk => h (k + 1) v (by simpa using hk)) x hx
theorem kvBn_u8 {m : Kv} (h : KvIn m) : ∀ x ∈ kvBn m, 0 ≤ x ∧ x < 256 := by
  intro x hx
  rcases List.mem_cons.1 hx with rfl | hx
  · have := h.small; omega
  · exact kvR_u8 h.rng x hx
theorem kvBn_split (m : Kv) (k : Nat) : kvBn m = (kvH m : Int) :: (kvR (m.take k) ++ kvR (m.drop k)) := by rw [← kvR_app, List.take_append_drop]; rfl
/-- What was written is read. -/
theorem dk_enc {m : Kv} (h : KvIn m) : ∀ k, k ≤ 8 → dkS (kvBn m) k = (0, 1 + (kvR (m.take k)).length, m.take k)
  | 0, _ => by
    have hl : 0 + 1 ≤ (kvBn m).length := by simp [kvBn]
    simp only [dkS, rdErr, rdPos, List.take_zero, kvR, List.length_nil]
    rw [if_neg (by simp), if_pos hl, if_pos ⟨trivial, hl⟩]
  | k + 1, hk => by
    have ih := dk_enc h k (by omega)
    have hkm : k < m.length := by rw [h.len]; omega
    have hl : 0 + 1 ≤ (kvBn m).length := by simp [kvBn]
    have hv : rdVal 1 (kvBn m) 0 0 = kvH m := by
      unfold rdVal
      rw [if_pos ⟨rfl, hl⟩, numOf_1 _ _ hl]
      rfl
    rw [dkS, hv, Int.toNat_natCast, ih]
    have hb := kvH_bit m k
    have hn := kvR_next hkm
    have ht : m.take (k + 1) = m.take k ++ [m.getD k none] := by
      rw [List.take_add_one, List.getElem?_eq_getElem hkm, Option.toList_some, List.getD_eq_getElem?_getD, List.getElem?_eq_getElem hkm]
      rfl
    cases ho : m.getD k none with
    | none =>
      rw [ho] at hb hn ht
      simp only [Option.isSome_none, Bool.false_eq_true, if_false] at hb
      rw [if_neg (by omega), hn, List.append_nil, ht]
    | some v =>
      rw [ho] at hb hn ht
      simp only [Option.isSome_some, if_true] at hb
      have hs := kvBn_split m k
      have hd : kvR (m.drop k) = v / 256 :: v % 256 :: kvR (m.drop (k + 1)) := by
        rw [List.drop_eq_getElem_cons hkm]
        rw [List.getD_eq_getElem?_getD, List.getElem?_eq_getElem hkm, Option.getD_some] at ho
        rw [ho]
        rfl
      have hlen : 1 + (kvR (m.take k)).length + 2 ≤ (kvBn m).length := by
        rw [hs, hd]; simp; omega
      have hval : rdVal 2 (kvBn m) 0 (1 + (kvR (m.take k)).length) = v := by
        unfold rdVal
        rw [if_pos ⟨rfl, hlen⟩, numOf_2 _ _ hlen]
        have e0 : (kvBn m).getD (1 + (kvR (m.take k)).length + 0) 0 = v / 256 := by
          rw [hs, hd, Nat.add_zero, Nat.add_comm 1, List.getD_cons_succ, List.getD_eq_getElem?_getD, List.getElem?_append_right (Nat.le_refl _), Nat.sub_self]
          rfl
        have e1 : (kvBn m).getD (1 + (kvR (m.take k)).length + 1) 0 = v % 256 := by
          rw [hs, hd, Nat.add_comm 1, List.getD_cons_succ, List.getD_eq_getElem?_getD, List.getElem?_append_right (by omega), Nat.add_sub_cancel_left]
          rfl
        rw [e0, e1]
        have := h.get ho
        omega
      rw [if_pos hb, hval, ht, ← ht, hn]
      simp only [rdErr, rdPos]
      rw [if_neg (by simp), if_pos hlen, if_pos ⟨trivial, hlen⟩, ht]
      simp only [List.length_append, List.length_cons, List.length_nil]
      congr 2
theorem kvD_enc {m : Kv} (h : KvIn m) : kvD (kvBn m) = (m, 0) := by
  have hm : m.take 8 = m := List.take_of_length_le (by rw [h.len]; exact Nat.le_refl _)
  unfold kvD
  rw [dk_enc h 8 (Nat.le_refl _), hm]
  have hc : closeOf 0 (1 + (kvR m).length) (kvBn m).length = 0 := by
    unfold closeOf
    rw [if_neg (by simp [kvBn]; omega)]
  rw [if_pos hc]
theorem kvBn_inj {a b : Kv} (ha : KvIn a) (hb : KvIn b) (h : kvBn a = kvBn b) : a = b := by
  have h1 := kvD_enc ha
  rw [h, kvD_enc hb] at h1
  exact (congrArg Prod.fst h1).symm
/-- What is read was written. -/
theorem dk_inv {xs : List Int} (hx : InU8 xs) : ∀ k, (dkS xs k).1 = 0 → 1 ≤ xs.length ∧ (dkS xs k).2.1 = 1 + (kvR (dkS xs k).2.2).length ∧ xs.take (dkS xs k).2.1 = rdVal 1 xs 0 0 :: kvR (dkS xs k).2.2 ∧ (dkS xs k).2.1 ≤ xs.length ∧ kvH (dkS xs k).2.2 = (rdVal 1 xs 0 0).toNat % 2 ^ k
  | 0, h => by
    simp only [dkS, rdErr] at h
    rw [if_neg (by simp)] at h
    have hl : 0 + 1 ≤ xs.length := by
      by_cases hl : 0 + 1 ≤ xs.length
      · exact hl
      · rw [if_neg hl] at h; exact absurd h (by decide)
    have hv : rdVal 1 xs 0 0 = xs.getD 0 0 := by unfold rdVal; rw [if_pos ⟨rfl, hl⟩, numOf_1 _ _ hl]
    refine ⟨by omega, ?_, ?_, ?_, ?_⟩
    · simp only [dkS, rdPos]; rw [if_pos ⟨trivial, hl⟩]; rfl
    · simp only [dkS, rdPos]; rw [if_pos ⟨trivial, hl⟩, hv]
      match xs, hl with
      | x :: r, _ => rfl
    · simp only [dkS, rdPos]; rw [if_pos ⟨trivial, hl⟩]; omega
    · simp [dkS, kvH, Nat.mod_one]
  | k + 1, h => by
    rw [dkS] at h ⊢
    have hm := bits_more (rdVal 1 xs 0 0).toNat k
    split at h
    · rename_i hb
      rw [if_pos hb]
      simp only at h ⊢
      have he : (dkS xs k).1 = 0 := by
        by_cases he : (dkS xs k).1 = 0
        · exact he
        · unfold rdErr at h; rw [if_pos he] at h; exact absurd h he
      obtain ⟨h1, h2, h3, h4, h5⟩ := dk_inv hx k he
      have hlen : (dkS xs k).2.1 + 2 ≤ xs.length := by
        unfold rdErr at h
        rw [if_neg (by simp [he])] at h
        by_cases hl : (dkS xs k).2.1 + 2 ≤ xs.length
        · exact hl
        · rw [if_neg hl] at h; exact absurd h (by decide)
      have hp : rdPos 2 xs (dkS xs k).1 (dkS xs k).2.1 = (dkS xs k).2.1 + 2 := by unfold rdPos; rw [if_pos ⟨he, hlen⟩]
      have hv : rdVal 2 xs (dkS xs k).1 (dkS xs k).2.1 = xs.getD ((dkS xs k).2.1 + 0) 0 * 256 + xs.getD ((dkS xs k).2.1 + 1) 0 := by unfold rdVal; rw [if_pos ⟨he, hlen⟩, numOf_2 _ _ hlen]
      have hr : kvR ((dkS xs k).2.2 ++ [some (rdVal 2 xs (dkS xs k).1 (dkS xs k).2.1)]) = kvR (dkS xs k).2.2 ++ [xs.getD ((dkS xs k).2.1 + 0) 0, xs.getD ((dkS xs k).2.1 + 1) 0] := by
        rw [kvR_app, kvR, kvR, hv]
        have a0 := hx ((dkS xs k).2.1 + 0); have a1 := hx ((dkS xs k).2.1 + 1)
        congr 2
        · omega
        · congr 1
          omega
      rw [hp, hr]
      refine ⟨h1, by rw [List.length_append, h2]; simp; omega, ?_, hlen, ?_⟩
      · rw [List.take_add, h3, drop_cons xs (dkS xs k).2.1 (by omega), drop_cons xs ((dkS xs k).2.1 + 1) (by omega)]
        rfl
      · rw [kvH_app, h5, hm, dkS_len, hb]
        simp [kvH]
    · rename_i hb
      rw [if_neg hb]
      simp only at h ⊢
      obtain ⟨h1, h2, h3, h4, h5⟩ := dk_inv hx k h
      have hr : kvR ((dkS xs k).2.2 ++ [none]) = kvR (dkS xs k).2.2 := by rw [kvR_app]; simp [kvR]
      rw [hr]
      refine ⟨h1, h2, h3, h4, ?_⟩
      rw [kvH_app, h5, hm, dkS_len, show (rdVal 1 xs 0 0).toNat / 2 ^ k % 2 = 0 by omega]
      simp [kvH]
theorem kvD_back {xs : List Int} (hx : InU8 xs) (h : (kvD xs).2 = 0) : kvBn (kvD xs).1 = xs := by
  unfold kvD at h ⊢
  split at h
  · rename_i hc
    rw [if_pos hc]
    simp only
    unfold closeOf at hc
    split at hc
    · exact absurd hc (by decide)
    · rename_i hp
      obtain ⟨h1, h2, h3, h4, h5⟩ := dk_inv hx 8 hc
      have e : (dkS xs 8).2.1 = xs.length := by
        have : ¬ (dkS xs 8).2.1 < xs.length := fun hh => hp ⟨hc, hh⟩
        omega
      rw [e, List.take_length] at h3
      have hb := rdVal1_in hx 0 0
      unfold kvBn
      rw [h5, Nat.mod_eq_of_lt (by omega), show (((rdVal 1 xs 0 0).toNat : Nat) : Int) = rdVal 1 xs 0 0 by omega]
      exact h3.symm
  · exact absurd h (by decide)
theorem kvD_err (xs : List Int) : (kvD xs).2 = 0 ∨ (kvD xs).2 = 4 := by
  unfold kvD
  split
  · exact .inl rfl
  · exact .inr rfl
theorem str_eq {a b : Kv} (ha : KvIn a) (hb : KvIn b) : ((strOfNums (kvBn a)).toList == (strOfNums (kvBn b)).toList) = decide (a = b) := by
  rw [Bool.eq_iff_iff, beq_iff_eq, decide_eq_true_eq]
  refine ⟨fun h => ?_, fun h => by rw [h]⟩
  obtain ⟨l, hl⟩ := u8_back (kvBn_u8 ha)
  obtain ⟨k, hk⟩ := u8_back (kvBn_u8 hb)
  rw [← hl, ← hk, str_nb, str_nb, ByteArray.toList_eq, ByteArray.toList_eq] at h
  refine kvBn_inj ha hb ?_
  rw [← hl, ← hk]
  have : l = k := by simpa [bs] using h
  rw [this]
end Go.Proofs.Ytnmpekbkahkapaa
/-
  KvmapCode over any key map.
-/
namespace Go.Proofs.Ytnmpekbkahkapaa
open Go.RowKit
variable {G : World → Prop}
set_option maxHeartbeats 8000000
set_option maxRecDepth 100000
theorem KvmapCode_any (R : KvProg G) (w : World) (hG : G w) {h h2 : Nat} {vs us : List Int} (hr : RawIn h vs) (hr2 : RawIn h2 us) (l : List UInt8) :
    Calls Try.prog 9 #[.agg (kvA h vs), .agg (kvA h2 us), .string (bs l)] w fun e w' => e = .returned (.bool true) ∧ Keeps [] w w' := by
  have hk0 : Keeps [] w ((w.alloc (.cells (kvA h vs) 25)).alloc (.cells (kvA h2 us) 25)) := ((Keeps.refl _ _).alloc _).alloc _
  have h0 : ((w.alloc (.cells (kvA h vs) 25)).alloc (.cells (kvA h2 us) 25)).heap[w.heap.size]? = some (.cells (kvA h vs) 25 (0, 0)) := ((Keeps.refl [] _).alloc _).heap (heap_alloc_new w _) (by simp)
  have h1 := heap_alloc_new (w.alloc (.cells (kvA h vs) 25)) (.cells (kvA h2 us) 25)
  have hz1 : (w.alloc (.cells (kvA h vs) 25)).heap.size = w.heap.size + 1 := Array.size_push _
  have hz : ((w.alloc (.cells (kvA h vs) 25)).alloc (.cells (kvA h2 us) 25)).heap.size = (w.alloc (.cells (kvA h vs) 25)).heap.size + 1 := Array.size_push _
  rw [hz1] at h1 hz
  obtain ⟨C, hC⟩ : ∃ C, C = w.heap.size := ⟨_, rfl⟩
  have HH0 := Lib.hid h0
  rw [← hC] at h0 h1 hz
  have HR := Lib.hid R; have HG := Lib.hid hG
  have HK0 := Lib.hid hk0; have H0 := Lib.hid h0; have H1 := Lib.hid h1; have HZ0 := Lib.hid hz; have HCE := Lib.hid hC
  obtain ⟨m, hm⟩ : ∃ m, m = kvOf h vs := ⟨_, rfl⟩
  obtain ⟨n, hn⟩ : ∃ n, n = kvOf h2 us := ⟨_, rfl⟩
  have HMI := Lib.hid (show KvIn m from by rw [hm]; exact kvOf_in hr)
  have HNI := Lib.hid (show KvIn n from by rw [hn]; exact kvOf_in hr2)
  have HWH := Lib.hid (fun w => show Calls Try.prog 11 #[.agg (kvA h vs)] w (fun e w' => e = .returned (kvVal m) ∧ Keeps [] w w') from by rw [hm]; exact whole11_any w hr)
  have HWN := Lib.hid (fun w => show Calls Try.prog 11 #[.agg (kvA h2 us)] w (fun e w' => e = .returned (kvVal n) ∧ Keeps [] w w') from by rw [hn]; exact whole11_any w hr2)
  have hs : (bs l).size = l.length := by show l.toArray.size = _; simp
  clear R hG hk0 h0 h1 hz hz1 hC hm hn hr hr2
  by_cases hl : l.length ≤ 300
  · have HN := Lib.hid hl
    have t2 : ¬ (300 : Int) < (bs l).size := by rw [hs]; omega
    clear hl hs
    have HDE := Lib.hid (fun w hg => HR.out.dec w l hg (by have := HN.out; omega))
    obtain ⟨md, hmd⟩ : ∃ md, md = (kvD (nb l)).1 := ⟨_, rfl⟩
    obtain ⟨ed, hed⟩ : ∃ ed, ed = (kvD (nb l)).2 := ⟨_, rfl⟩
    obtain ⟨B, hB⟩ : ∃ B, B = bs l := ⟨_, rfl⟩
    rw [← hmd, ← hed, ← hB] at HDE
    rw [← hB] at t2 ⊢
    have HMD := Lib.hid (show KvIn md from by rw [hmd]; exact kvD_in (nb_u8 l))
    have HER := Lib.hid (show ed = 0 ∨ ed = 4 from by rw [hed]; exact kvD_err _)
    have HBK := Lib.hid (show ed = 0 → strOfNums (kvBn md) = B from fun he => by rw [hmd, kvD_back (nb_u8 l) (by rw [← hed]; exact he), str_nb, hB])
    clear hmd hed hB
    obtain ⟨lm, hlm⟩ := u8_back (kvBn_u8 HMI.out)
    have HLM := Lib.hid (show lm.length ≤ 1000 from by
      have h1 := congrArg List.length hlm
      rw [nb_length] at h1
      have h2 := kvR_len m
      have h3 := HMI.out.len
      have h4 : (kvBn m).length = (kvR m).length + 1 := rfl
      omega)
    have HDM := Lib.hid (fun w hg => show Calls Try.prog 19 #[.string (strOfNums (kvBn m))] w (fun e w' => e = .returned (.tuple #[kvVal m, .int .i64 0]) ∧ Keeps [] w w') from by
      have h1 := HR.out.dec w lm hg HLM.out
      rw [← str_nb, hlm, kvD_enc HMI.out] at h1
      exact h1)
    clear hlm
    obtain ⟨T, hT⟩ : ∃ T, T = strOfNums (kvBn m) := ⟨_, rfl⟩
    obtain ⟨U, hU⟩ : ∃ U, U = strOfNums (kvBn n) := ⟨_, rfl⟩
    obtain ⟨f, hf⟩ : ∃ f, f = decide (m = n) := ⟨_, rfl⟩
    have tTU : (T.toList == U.toList) = f := by rw [hT, hU, hf]; exact str_eq HMI.out HNI.out
    have HEQ := Lib.hid (show kvEq (kvH m) (kvH n) (kvV m) (kvV n) = f from by rw [hf]; exact kvEq_kv HMI.out.len HNI.out.len)
    rw [← hT] at HDM
    have HT := Lib.hid hT; have HU := Lib.hid hU
    have tf : (f == f) = true := by simp
    have HCM := Lib.hid (fun (w : World) (hg : G w) => show Calls Try.prog 10 #[kvVal md] w (fun e w' => e = .returned (.int .i64 0) ∧ Keeps [] w w') from by
      have h2 := HR.out.check w (kvH md) (kvV md) hg (raw_of HMD.out)
      rw [kvOf_self rfl, if_pos rfl] at h2
      exact h2)
    clear hT hU hf
    go_enter Try.func9, Try.ntmps9
    go_wp2_with ((with_reducible refine wpList_loadK (g := w.heap.size) (h := (h : Int)) (vs := vs) rfl ?_ HH0.out ?_); exact rfl)
    clear HH0
    rw [← HCE.out]
    generalize (w.alloc (.cells (kvA h vs) 25)).alloc (.cells (kvA h2 us) 25) = W at *
    refine (HWH.out _).mono ?_; rintro e w1 ⟨rfl, hk1⟩
    have HB1 := Lib.hid (hk1.heap H0.out (by simp)); have HN1 := Lib.hid (hk1.heap H1.out (by simp))
    have HK1 := Lib.hid (HK0.out.trans hk1 (FSub.refl _ _))
    clear hk1 H0 H1 HK0
    unfold kvVal
    go_wp2_with (first
      | ((with_reducible refine wpList_putK (g := C) (h := (kvH m : Int)) (vs := kvV m) ?_ ?_ HB1.out ?_); exact rfl; exact rfl))
    intro W2 hW2 hk2
    have HB2 := Lib.hid hW2
    have HN2 := Lib.hid (hk2.heap HN1.out (by simp))
    have HK2 := Lib.hid (HK1.out.trans hk2 (fun q hq => .inr (by simp at hq; have := HCE.out; omega)))
    clear hW2 hk2 HB1 HK1 HN1
    go_wp2_with ((with_reducible refine wpList_loadK (g := C + 1) (h := (h2 : Int)) (vs := us) rfl ?_ HN2.out ?_); exact rfl)
    refine (HWN.out _).mono ?_; rintro e w3 ⟨rfl, hk3⟩
    have HB3 := Lib.hid (hk3.heap HB2.out (by simp)); have HN3 := Lib.hid (hk3.heap HN2.out (by simp))
    have HK3 := Lib.hid (HK2.out.trans hk3 (FSub.refl _ _))
    clear hk3 HB2 HN2 HK2
    unfold kvVal
    go_wp2_with (first
      | ((with_reducible refine wpList_putK (g := C + 1) (h := (kvH n : Int)) (vs := kvV n) ?_ ?_ HN3.out ?_); exact rfl; exact rfl))
    intro W4 hW4 hk4
    have HN4 := Lib.hid hW4
    have HB4 := Lib.hid (hk4.heap HB3.out (by simp))
    have HK4 := Lib.hid (HK3.out.trans hk4 (fun q hq => .inr (by simp at hq; have := HCE.out; omega)))
    clear hW4 hk4 HB3 HN3 HK3
    go_wp2_with ((with_reducible refine wpList_loadK (g := C) (h := (kvH m : Int)) (vs := kvV m) rfl ?_ HB4.out ?_); exact rfl)
    refine (show Calls Try.prog 21 #[kvVal m] W4 _ from HR.out.enc W4 m (HR.out.keep HG.out HK4.out) HMI.out).mono ?_
    rintro e w5 ⟨rfl, hk5⟩
    rw [← HT.out]
    have HB5 := Lib.hid (hk5.heap HB4.out (by simp)); have HN5 := Lib.hid (hk5.heap HN4.out (by simp))
    have HK5 := Lib.hid (HK4.out.trans hk5 (FSub.refl _ _))
    clear hk5 HB4 HN4 HK4
    go_wp2_with fail
    refine (HDM.out w5 (HR.out.keep HG.out HK5.out)).mono ?_
    rintro e w6 ⟨rfl, hk6⟩
    have HB6 := Lib.hid (hk6.heap HB5.out (by simp)); have HN6 := Lib.hid (hk6.heap HN5.out (by simp))
    have HK6 := Lib.hid (HK5.out.trans hk6 (FSub.refl _ _))
    clear hk6 HB5 HN5 HK5
    have HZ := Lib.hid (show (w6.alloc (.cells #[.int .u8 0, .int .u16 0, .int .u16 0, .int .u16 0, .int .u16 0, .int .u16 0, .int .u16 0, .int .u16 0, .int .u16 0] 25)).heap[w6.heap.size]? = some (.cells (kvA 0 []) 25 (0, 0)) from heap_alloc_new w6 (.cells (kvA 0 []) 25))
    have HKA := Lib.hid (show Keeps [] w6 (w6.alloc (.cells #[.int .u8 0, .int .u16 0, .int .u16 0, .int .u16 0, .int .u16 0, .int .u16 0, .int .u16 0, .int .u16 0, .int .u16 0] 25)) from (Keeps.refl _ _).alloc _)
    unfold kvVal
    go_wp2_with ((with_reducible refine wpList_putK (g := w6.heap.size) (h := (kvH m : Int)) (vs := kvV m) ?_ ?_ HZ.out ?_); exact rfl; exact rfl)
    intro W7 hW7 hk7
    obtain ⟨D, hD⟩ : ∃ D, D = w6.heap.size := ⟨_, rfl⟩
    have hk67 : Keeps [] w6 W7 := HKA.out.trans hk7 (fun q hq => .inr (by simp at hq; omega))
    have HB7 := Lib.hid (hk67.heap HB6.out (by simp)); have HN7 := Lib.hid (hk67.heap HN6.out (by simp))
    have HK7 := Lib.hid (HK6.out.trans hk67 (FSub.refl _ _))
    rw [← hD] at hW7 ⊢
    have HD7 := Lib.hid hW7
    clear hW7 hk7 hk67 hD HZ HKA HB6 HN6 HK6
    go_wp2_with fail
    refine (HDE.out W7 (HR.out.keep HG.out HK7.out)).mono ?_
    rintro e w8 ⟨rfl, hk8⟩
    have HB8 := Lib.hid (hk8.heap HB7.out (by simp)); have HN8 := Lib.hid (hk8.heap HN7.out (by simp)); have HD8 := Lib.hid (hk8.heap HD7.out (by simp))
    have HK8 := Lib.hid (HK7.out.trans hk8 (FSub.refl _ _))
    clear hk8 HB7 HN7 HD7 HK7
    have HZ := Lib.hid (show (w8.alloc (.cells #[.int .u8 0, .int .u16 0, .int .u16 0, .int .u16 0, .int .u16 0, .int .u16 0, .int .u16 0, .int .u16 0, .int .u16 0] 25)).heap[w8.heap.size]? = some (.cells (kvA 0 []) 25 (0, 0)) from heap_alloc_new w8 (.cells (kvA 0 []) 25))
    have HKA := Lib.hid (show Keeps [] w8 (w8.alloc (.cells #[.int .u8 0, .int .u16 0, .int .u16 0, .int .u16 0, .int .u16 0, .int .u16 0, .int .u16 0, .int .u16 0, .int .u16 0] 25)) from (Keeps.refl _ _).alloc _)
    unfold kvVal
    go_wp2_with ((with_reducible refine wpList_putK (g := w8.heap.size) (h := (kvH md : Int)) (vs := kvV md) ?_ ?_ HZ.out ?_); exact rfl; exact rfl)
    intro W9 hW9 hk9
    obtain ⟨F, hF⟩ : ∃ F, F = w8.heap.size := ⟨_, rfl⟩
    have hk89 : Keeps [] w8 W9 := HKA.out.trans hk9 (fun q hq => .inr (by simp at hq; omega))
    have HB9 := Lib.hid (hk89.heap HB8.out (by simp)); have HN9 := Lib.hid (hk89.heap HN8.out (by simp)); have HD9 := Lib.hid (hk89.heap HD8.out (by simp))
    have HKW := Lib.hid (HK8.out.trans hk89 (FSub.refl _ _))
    rw [← hF] at hW9 ⊢
    have HF9 := Lib.hid hW9
    clear hW9 hk9 hk89 hF HZ HKA HB8 HN8 HD8 HK8
    obtain ⟨S, hS⟩ : ∃ S : World → Prop, S = fun y => Keeps [] W9 y := ⟨_, rfl⟩
    have HSE := Lib.hid hS
    have hSD : S W9.drew := by rw [hS]; exact (Keeps.refl _ _).drew
    have HSK := Lib.hid (fun (w' : World) (hh : S w') => show ∃ t, w'.heap[C]? = some (.cells (kvA (kvH m) (kvV m)) t (0, 0)) from by rw [hS] at hh; exact ⟨_, hh.heap HB9.out (by simp)⟩)
    have HSN := Lib.hid (fun (w' : World) (hh : S w') => show ∃ t, w'.heap[C + 1]? = some (.cells (kvA (kvH n) (kvV n)) t (0, 0)) from by rw [hS] at hh; exact ⟨_, hh.heap HN9.out (by simp)⟩)
    have HSD := Lib.hid (fun (w' : World) (hh : S w') => show ∃ t, w'.heap[D]? = some (.cells (kvA (kvH m) (kvV m)) t (0, 0)) from by rw [hS] at hh; exact ⟨_, hh.heap HD9.out (by simp)⟩)
    have HSF := Lib.hid (fun (w' : World) (hh : S w') => show ∃ t, w'.heap[F]? = some (.cells (kvA (kvH md) (kvV md)) t (0, 0)) from by rw [hS] at hh; exact ⟨_, hh.heap HF9.out (by simp)⟩)
    have HS0 := Lib.hid (show Keeps [] W9 W9.drew from (Keeps.refl _ _).drew)
    clear hS
    rcases HER.out with he | he
    · have HB := Lib.hid (HBK.out he)
      subst he
      have tB : (B.toList == B.toList) = true := by simp
      go_wp2_with fail
      refine wp_region_noPanic ?_
      refine wp_region_held_drew (S := S) (by kernel_rfl) hSD (fun hHeld => ?_)
      apply wpAnyH_take (i := 0)
      · simp only [List.getElem?_toArray]; rfl
      · kernel_rfl
      · kernel_rfl
      · kernel_rfl
      · exact fun _ _ _ h => h
      · exact yields_loadK (by rfl) (.tmp 7) rfl D rfl (kvH m) (kvV m) HSD.out
      · assumption
      try simp only [Act.put, List.setIfInBounds_toArray, List.set_cons_zero, List.set_cons_succ]
      apply wpAnyH_take (i := 1)
      · simp only [List.getElem?_toArray]; rfl
      · kernel_rfl
      · kernel_rfl
      · kernel_rfl
      · exact fun _ _ _ h => h
      · exact yields_loadK (by rfl) (.tmp 3) rfl C rfl (kvH m) (kvV m) HSK.out
      · assumption
      try simp only [Act.put, List.setIfInBounds_toArray, List.set_cons_zero, List.set_cons_succ]
      apply wpAnyH_take (i := 2)
      · simp only [List.getElem?_toArray]; rfl
      · kernel_rfl
      · kernel_rfl
      · kernel_rfl
      · exact fun _ _ _ h => h
      · exact yields_eqK (by rfl) (.tmp 30) (.tmp 31) _ rfl (h := (kvH m : Int)) (h2 := (kvH m : Int)) (vs := kvV m) (us := kvV m) rfl rfl
      · assumption
      try simp only [Act.put, List.setIfInBounds_toArray, List.set_cons_zero, List.set_cons_succ]
      rw [kvEq_same]
      apply wpAnyH_take (i := 3)
      · simp only [List.getElem?_toArray]; rfl
      · kernel_rfl
      · kernel_rfl
      · kernel_rfl
      · exact fun _ _ _ h => h
      · exact Or.inl ⟨by rfl, by intro w hSw; go_simp; try with_reducible rfl⟩
      · assumption
      try simp only [Act.put, List.setIfInBounds_toArray, List.set_cons_zero, List.set_cons_succ]
      apply wpAnyH_take (i := 4)
      · simp only [List.getElem?_toArray]; rfl
      · kernel_rfl
      · kernel_rfl
      · kernel_rfl
      · exact fun _ _ _ h => h
      · exact Or.inl ⟨by rfl, by intro w hSw; go_simp; try with_reducible rfl⟩
      · assumption
      try simp only [Act.put, List.setIfInBounds_toArray, List.set_cons_zero, List.set_cons_succ]
      apply wpAnyH_take (i := 5)
      · simp only [List.getElem?_toArray]; rfl
      · kernel_rfl
      · kernel_rfl
      · kernel_rfl
      · exact fun _ _ _ h => h
      · exact Or.inl ⟨by rfl, by intro w hSw; go_simp; try with_reducible rfl⟩
      · assumption
      try simp only [Act.put, List.setIfInBounds_toArray, List.set_cons_zero, List.set_cons_succ]
      apply wpAnyH_take (i := 6)
      · simp only [List.getElem?_toArray]; rfl
      · kernel_rfl
      · kernel_rfl
      · kernel_rfl
      · exact fun _ _ _ h => h
      · exact Or.inl ⟨by rfl, by intro w hSw; go_simp; try with_reducible rfl⟩
      · assumption
      try simp only [Act.put, List.setIfInBounds_toArray, List.set_cons_zero, List.set_cons_succ]
      apply wpAnyH_take (i := 7)
      · simp only [List.getElem?_toArray]; rfl
      · kernel_rfl
      · kernel_rfl
      · kernel_rfl
      · exact fun _ _ _ h => h
      · exact Or.inl ⟨by rfl, by intro w hSw; go_simp; try with_reducible rfl⟩
      · assumption
      try simp only [Act.put, List.setIfInBounds_toArray, List.set_cons_zero, List.set_cons_succ]
      apply wpAnyH_take (i := 8)
      · simp only [List.getElem?_toArray]; rfl
      · kernel_rfl
      · kernel_rfl
      · kernel_rfl
      · exact fun _ _ _ h => h
      · exact yields_loadK (by rfl) (.tmp 3) rfl C rfl (kvH m) (kvV m) HSK.out
      · assumption
      try simp only [Act.put, List.setIfInBounds_toArray, List.set_cons_zero, List.set_cons_succ]
      apply wpAnyH_take (i := 10)
      · simp only [List.getElem?_toArray]; rfl
      · kernel_rfl
      · kernel_rfl
      · kernel_rfl
      · exact fun _ _ _ h => h
      · exact yields_loadK (by rfl) (.tmp 4) rfl (C + 1) rfl (kvH n) (kvV n) HSN.out
      · assumption
      try simp only [Act.put, List.setIfInBounds_toArray, List.set_cons_zero, List.set_cons_succ]
      apply wpAnyH_take (i := 13)
      · simp only [List.getElem?_toArray]; rfl
      · kernel_rfl
      · kernel_rfl
      · kernel_rfl
      · exact fun _ _ _ h => h
      · exact yields_loadK (by rfl) (.tmp 3) rfl C rfl (kvH m) (kvV m) HSK.out
      · assumption
      try simp only [Act.put, List.setIfInBounds_toArray, List.set_cons_zero, List.set_cons_succ]
      apply wpAnyH_take (i := 14)
      · simp only [List.getElem?_toArray]; rfl
      · kernel_rfl
      · kernel_rfl
      · kernel_rfl
      · exact fun _ _ _ h => h
      · exact yields_loadK (by rfl) (.tmp 4) rfl (C + 1) rfl (kvH n) (kvV n) HSN.out
      · assumption
      try simp only [Act.put, List.setIfInBounds_toArray, List.set_cons_zero, List.set_cons_succ]
      apply wpAnyH_take (i := 15)
      · simp only [List.getElem?_toArray]; rfl
      · kernel_rfl
      · kernel_rfl
      · kernel_rfl
      · exact fun _ _ _ h => h
      · exact yields_eqK (by rfl) (.tmp 43) (.tmp 44) _ rfl (h := (kvH m : Int)) (h2 := (kvH n : Int)) (vs := kvV m) (us := kvV n) rfl rfl
      · assumption
      try simp only [Act.put, List.setIfInBounds_toArray, List.set_cons_zero, List.set_cons_succ]
      rw [HEQ.out]
      apply wpAnyH_ready (rs := [9])
      · kernel_rfl
      · simp
      apply AllReadyH.cons (hs := AllReadyH.nil)
      · simp only [List.getElem?_toArray]; rfl
      intro K hK
      rw [if_pos (by rfl)]
      refine wp_call9 21 _ _ rfl [kvVal m] rfl Try.func21 (by kernel_rfl) (by kernel_rfl) ((HR.out.enc _ m (HR.out.keep HG.out (HKW.out.trans HS0.out (FSub.refl _ _))) HMI.out).mono ?_)
      rintro e X0 ⟨rfl, hk⟩
      refine ⟨_, rfl, ?_⟩
      rw [← HT.out]
      have HS1 := Lib.hid (HS0.out.trans hk (FSub.refl _ _))
      clear hk HS0
      refine hK.out _ _ ?_ (fun hHeld => ?_)
      · exact (by rw [HSE.out]; exact HS1.out)
      clear hK K
      try simp only [Act.put, List.setIfInBounds_toArray, List.set_cons_zero, List.set_cons_succ]
      apply wpAnyH_ready (rs := [11])
      · kernel_rfl
      · simp
      apply AllReadyH.cons (hs := AllReadyH.nil)
      · simp only [List.getElem?_toArray]; rfl
      intro K hK
      rw [if_pos (by rfl)]
      refine wp_call9 21 _ _ rfl [kvVal n] rfl Try.func21 (by kernel_rfl) (by kernel_rfl) ((HR.out.enc _ n (HR.out.keep HG.out (HKW.out.trans HS1.out (FSub.refl _ _))) HNI.out).mono ?_)
      rintro e X1 ⟨rfl, hk⟩
      refine ⟨_, rfl, ?_⟩
      rw [← HU.out]
      have HS2 := Lib.hid (HS1.out.trans hk (FSub.refl _ _))
      clear hk HS1
      refine hK.out _ _ ?_ (fun hHeld => ?_)
      · exact (by rw [HSE.out]; exact HS2.out)
      clear hK K
      try simp only [Act.put, List.setIfInBounds_toArray, List.set_cons_zero, List.set_cons_succ]
      apply wpAnyH_take (i := 12)
      · simp only [List.getElem?_toArray]; rfl
      · kernel_rfl
      · kernel_rfl
      · kernel_rfl
      · exact fun _ _ _ h => h
      · exact Or.inl ⟨by rfl, by intro w hSw; go_simp; try with_reducible rfl⟩
      · assumption
      try simp only [Act.put, List.setIfInBounds_toArray, List.set_cons_zero, List.set_cons_succ]
      apply wpAnyH_take (i := 16)
      · simp only [List.getElem?_toArray]; rfl
      · kernel_rfl
      · kernel_rfl
      · kernel_rfl
      · exact fun _ _ _ h => h
      · exact Or.inl ⟨by rfl, by intro w hSw; go_simp; try with_reducible rfl⟩
      · assumption
      try simp only [Act.put, List.setIfInBounds_toArray, List.set_cons_zero, List.set_cons_succ]
      apply wpAnyH_take (i := 17)
      · simp only [List.getElem?_toArray]; rfl
      · kernel_rfl
      · kernel_rfl
      · kernel_rfl
      · exact fun _ _ _ h => h
      · exact Or.inl ⟨by rfl, by intro w hSw; go_simp; try with_reducible rfl⟩
      · assumption
      try simp only [Act.put, List.setIfInBounds_toArray, List.set_cons_zero, List.set_cons_succ]
      apply wpAnyH_take (i := 18)
      · simp only [List.getElem?_toArray]; rfl
      · kernel_rfl
      · kernel_rfl
      · kernel_rfl
      · exact fun _ _ _ h => h
      · exact Or.inl ⟨by rfl, by intro w hSw; go_simp; try with_reducible rfl⟩
      · assumption
      try simp only [Act.put, List.setIfInBounds_toArray, List.set_cons_zero, List.set_cons_succ]
      apply wpAnyH_take (i := 19)
      · simp only [List.getElem?_toArray]; rfl
      · kernel_rfl
      · kernel_rfl
      · kernel_rfl
      · exact fun _ _ _ h => h
      · exact Or.inl ⟨by rfl, by intro w hSw; go_simp; try with_reducible rfl⟩
      · assumption
      try simp only [Act.put, List.setIfInBounds_toArray, List.set_cons_zero, List.set_cons_succ]
      apply wpAnyH_take (i := 20)
      · simp only [List.getElem?_toArray]; rfl
      · kernel_rfl
      · kernel_rfl
      · kernel_rfl
      · exact fun _ _ _ h => h
      · exact Or.inl ⟨by rfl, by intro w hSw; go_simp; try with_reducible rfl⟩
      · assumption
      try simp only [Act.put, List.setIfInBounds_toArray, List.set_cons_zero, List.set_cons_succ]
      apply wpAnyH_take (i := 21)
      · simp only [List.getElem?_toArray]; rfl
      · kernel_rfl
      · kernel_rfl
      · kernel_rfl
      · exact fun _ _ _ h => h
      · exact Or.inl ⟨by rfl, by intro w hSw; go_simp; try with_reducible rfl⟩
      · assumption
      try simp only [Act.put, List.setIfInBounds_toArray, List.set_cons_zero, List.set_cons_succ]
      apply wpAnyH_take (i := 22)
      · simp only [List.getElem?_toArray]; rfl
      · kernel_rfl
      · kernel_rfl
      · kernel_rfl
      · exact fun _ _ _ h => h
      · exact yields_loadK (by rfl) (.tmp 9) rfl F rfl (kvH md) (kvV md) HSF.out
      · assumption
      try simp only [Act.put, List.setIfInBounds_toArray, List.set_cons_zero, List.set_cons_succ]
      apply wpAnyH_take (i := 24)
      · simp only [List.getElem?_toArray]; rfl
      · kernel_rfl
      · kernel_rfl
      · kernel_rfl
      · exact fun _ _ _ h => h
      · exact Or.inl ⟨by rfl, by intro w hSw; go_simp; try with_reducible rfl⟩
      · assumption
      try simp only [Act.put, List.setIfInBounds_toArray, List.set_cons_zero, List.set_cons_succ]
      apply wpAnyH_ready (rs := [23])
      · kernel_rfl
      · simp
      apply AllReadyH.cons (hs := AllReadyH.nil)
      · simp only [List.getElem?_toArray]; rfl
      intro K hK
      rw [if_pos (by rfl)]
      refine wp_call9 21 _ _ rfl [kvVal md] rfl Try.func21 (by kernel_rfl) (by kernel_rfl) ((HR.out.enc _ md (HR.out.keep HG.out (HKW.out.trans HS2.out (FSub.refl _ _))) HMD.out).mono ?_)
      rintro e X2 ⟨rfl, hk⟩
      refine ⟨_, rfl, ?_⟩
      rw [HB.out]
      have HS3 := Lib.hid (HS2.out.trans hk (FSub.refl _ _))
      clear hk HS2
      refine hK.out _ _ ?_ (fun hHeld => ?_)
      · exact (by rw [HSE.out]; exact HS3.out)
      clear hK K
      try simp only [Act.put, List.setIfInBounds_toArray, List.set_cons_zero, List.set_cons_succ]
      apply wpAnyH_take (i := 25)
      · simp only [List.getElem?_toArray]; rfl
      · kernel_rfl
      · kernel_rfl
      · kernel_rfl
      · exact fun _ _ _ h => h
      · exact Or.inl ⟨by rfl, by intro w hSw; go_simp; try with_reducible rfl⟩
      · assumption
      try simp only [Act.put, List.setIfInBounds_toArray, List.set_cons_zero, List.set_cons_succ]
      apply wpAnyH_take (i := 26)
      · simp only [List.getElem?_toArray]; rfl
      · kernel_rfl
      · kernel_rfl
      · kernel_rfl
      · exact fun _ _ _ h => h
      · exact Or.inl ⟨by rfl, by intro w hSw; go_simp; try with_reducible rfl⟩
      · assumption
      try simp only [Act.put, List.setIfInBounds_toArray, List.set_cons_zero, List.set_cons_succ]
      apply wpAnyH_take (i := 27)
      · simp only [List.getElem?_toArray]; rfl
      · kernel_rfl
      · kernel_rfl
      · kernel_rfl
      · exact fun _ _ _ h => h
      · exact yields_loadK (by rfl) (.tmp 9) rfl F rfl (kvH md) (kvV md) HSF.out
      · assumption
      try simp only [Act.put, List.setIfInBounds_toArray, List.set_cons_zero, List.set_cons_succ]
      apply wpAnyH_ready (rs := [28])
      · kernel_rfl
      · simp
      apply AllReadyH.cons (hs := AllReadyH.nil)
      · simp only [List.getElem?_toArray]; rfl
      intro K hK
      rw [if_pos (by rfl)]
      refine wp_call9 10 _ _ rfl [kvVal md] rfl Try.func10 (by kernel_rfl) (by kernel_rfl) ((HCM.out _ (HR.out.keep HG.out (HKW.out.trans HS3.out (FSub.refl _ _)))).mono ?_)
      rintro e X3 ⟨rfl, hk⟩
      refine ⟨_, rfl, ?_⟩
      have HS4 := Lib.hid (HS3.out.trans hk (FSub.refl _ _))
      clear hk HS3
      refine hK.out _ _ ?_ (fun hHeld => ?_)
      · exact (by rw [HSE.out]; exact HS4.out)
      clear hK K
      try simp only [Act.put, List.setIfInBounds_toArray, List.set_cons_zero, List.set_cons_succ]
      apply wpAnyH_take (i := 29)
      · simp only [List.getElem?_toArray]; rfl
      · kernel_rfl
      · kernel_rfl
      · kernel_rfl
      · exact fun _ _ _ h => h
      · exact Or.inl ⟨by rfl, by intro w hSw; go_simp; try with_reducible rfl⟩
      · assumption
      try simp only [Act.put, List.setIfInBounds_toArray, List.set_cons_zero, List.set_cons_succ]
      apply wpAnyH_take (i := 30)
      · simp only [List.getElem?_toArray]; rfl
      · kernel_rfl
      · kernel_rfl
      · kernel_rfl
      · exact fun _ _ _ h => h
      · exact Or.inl ⟨by rfl, by intro w hSw; go_simp; try with_reducible rfl⟩
      · assumption
      try simp only [Act.put, List.setIfInBounds_toArray, List.set_cons_zero, List.set_cons_succ]
      apply wpAnyH_take (i := 31)
      · simp only [List.getElem?_toArray]; rfl
      · kernel_rfl
      · kernel_rfl
      · kernel_rfl
      · exact fun _ _ _ h => h
      · exact Or.inl ⟨by rfl, by intro w hSw; go_simp; try with_reducible rfl⟩
      · assumption
      try simp only [Act.put, List.setIfInBounds_toArray, List.set_cons_zero, List.set_cons_succ]
      apply wpAnyH_take (i := 32)
      · simp only [List.getElem?_toArray]; rfl
      · kernel_rfl
      · kernel_rfl
      · kernel_rfl
      · exact fun _ _ _ h => h
      · exact Or.inl ⟨by rfl, by intro w hSw; go_simp; try with_reducible rfl⟩
      · assumption
      try simp only [Act.put, List.setIfInBounds_toArray, List.set_cons_zero, List.set_cons_succ]
      apply wpAnyH_take (i := 33)
      · simp only [List.getElem?_toArray]; rfl
      · kernel_rfl
      · kernel_rfl
      · kernel_rfl
      · exact fun _ _ _ h => h
      · exact Or.inl ⟨by rfl, by intro w hSw; go_simp; try with_reducible rfl⟩
      · assumption
      try simp only [Act.put, List.setIfInBounds_toArray, List.set_cons_zero, List.set_cons_succ]
      apply wpAnyH_ready (rs := [34])
      · kernel_rfl
      · simp
      apply AllReadyH.cons (hs := AllReadyH.nil)
      · simp only [List.getElem?_toArray]; rfl
      intro K hK
      rw [if_pos (by rfl)]
      refine wp_call9 16 _ _ rfl [] rfl Try.func16 (by kernel_rfl) (by kernel_rfl) ((awake11_any HR.out _ (HR.out.keep HG.out (HKW.out.trans HS4.out (FSub.refl _ _)))).mono ?_)
      rintro e X6 ⟨rfl, hk⟩
      refine ⟨_, rfl, ?_⟩
      have HS7 := Lib.hid (HS4.out.trans hk (FSub.refl _ _))
      clear hk HS4
      refine hK.out _ _ ?_ (fun hHeld => ?_)
      · exact (by rw [HSE.out]; exact HS7.out)
      clear hK K
      try simp only [Act.put, List.setIfInBounds_toArray, List.set_cons_zero, List.set_cons_succ]
      apply wpAnyH_take (i := 35)
      · simp only [List.getElem?_toArray]; rfl
      · kernel_rfl
      · kernel_rfl
      · kernel_rfl
      · exact fun _ _ _ h => h
      · exact Or.inl ⟨by rfl, by intro w hSw; go_simp; try with_reducible rfl⟩
      · assumption
      try simp only [Act.put, List.setIfInBounds_toArray, List.set_cons_zero, List.set_cons_succ]
      apply wpAnyH_take (i := 36)
      · simp only [List.getElem?_toArray]; rfl
      · kernel_rfl
      · kernel_rfl
      · kernel_rfl
      · exact fun _ _ _ h => h
      · exact Or.inl ⟨by rfl, by intro w hSw; go_simp; try with_reducible rfl⟩
      · assumption
      try simp only [Act.put, List.setIfInBounds_toArray, List.set_cons_zero, List.set_cons_succ]
      refine wpAnyH_done (by kernel_rfl) ?_ _
      refine NoPanic.normal ?_
      go_wp2_with fail
      go_ret
      exact ⟨rfl, HKW.out.trans HS7.out (FSub.refl _ _)⟩
    · subst he
      go_wp2_with fail
      refine wp_region_noPanic ?_
      refine wp_region_held_drew (S := S) (by kernel_rfl) hSD (fun hHeld => ?_)
      apply wpAnyH_take (i := 0)
      · simp only [List.getElem?_toArray]; rfl
      · kernel_rfl
      · kernel_rfl
      · kernel_rfl
      · exact fun _ _ _ h => h
      · exact yields_loadK (by rfl) (.tmp 7) rfl D rfl (kvH m) (kvV m) HSD.out
      · assumption
      try simp only [Act.put, List.setIfInBounds_toArray, List.set_cons_zero, List.set_cons_succ]
      apply wpAnyH_take (i := 1)
      · simp only [List.getElem?_toArray]; rfl
      · kernel_rfl
      · kernel_rfl
      · kernel_rfl
      · exact fun _ _ _ h => h
      · exact yields_loadK (by rfl) (.tmp 3) rfl C rfl (kvH m) (kvV m) HSK.out
      · assumption
      try simp only [Act.put, List.setIfInBounds_toArray, List.set_cons_zero, List.set_cons_succ]
      apply wpAnyH_take (i := 2)
      · simp only [List.getElem?_toArray]; rfl
      · kernel_rfl
      · kernel_rfl
      · kernel_rfl
      · exact fun _ _ _ h => h
      · exact yields_eqK (by rfl) (.tmp 30) (.tmp 31) _ rfl (h := (kvH m : Int)) (h2 := (kvH m : Int)) (vs := kvV m) (us := kvV m) rfl rfl
      · assumption
      try simp only [Act.put, List.setIfInBounds_toArray, List.set_cons_zero, List.set_cons_succ]
      rw [kvEq_same]
      apply wpAnyH_take (i := 3)
      · simp only [List.getElem?_toArray]; rfl
      · kernel_rfl
      · kernel_rfl
      · kernel_rfl
      · exact fun _ _ _ h => h
      · exact Or.inl ⟨by rfl, by intro w hSw; go_simp; try with_reducible rfl⟩
      · assumption
      try simp only [Act.put, List.setIfInBounds_toArray, List.set_cons_zero, List.set_cons_succ]
      apply wpAnyH_take (i := 4)
      · simp only [List.getElem?_toArray]; rfl
      · kernel_rfl
      · kernel_rfl
      · kernel_rfl
      · exact fun _ _ _ h => h
      · exact Or.inl ⟨by rfl, by intro w hSw; go_simp; try with_reducible rfl⟩
      · assumption
      try simp only [Act.put, List.setIfInBounds_toArray, List.set_cons_zero, List.set_cons_succ]
      apply wpAnyH_take (i := 5)
      · simp only [List.getElem?_toArray]; rfl
      · kernel_rfl
      · kernel_rfl
      · kernel_rfl
      · exact fun _ _ _ h => h
      · exact Or.inl ⟨by rfl, by intro w hSw; go_simp; try with_reducible rfl⟩
      · assumption
      try simp only [Act.put, List.setIfInBounds_toArray, List.set_cons_zero, List.set_cons_succ]
      apply wpAnyH_take (i := 6)
      · simp only [List.getElem?_toArray]; rfl
      · kernel_rfl
      · kernel_rfl
      · kernel_rfl
      · exact fun _ _ _ h => h
      · exact Or.inl ⟨by rfl, by intro w hSw; go_simp; try with_reducible rfl⟩
      · assumption
      try simp only [Act.put, List.setIfInBounds_toArray, List.set_cons_zero, List.set_cons_succ]
      apply wpAnyH_take (i := 7)
      · simp only [List.getElem?_toArray]; rfl
      · kernel_rfl
      · kernel_rfl
      · kernel_rfl
      · exact fun _ _ _ h => h
      · exact Or.inl ⟨by rfl, by intro w hSw; go_simp; try with_reducible rfl⟩
      · assumption
      try simp only [Act.put, List.setIfInBounds_toArray, List.set_cons_zero, List.set_cons_succ]
      apply wpAnyH_take (i := 8)
      · simp only [List.getElem?_toArray]; rfl
      · kernel_rfl
      · kernel_rfl
      · kernel_rfl
      · exact fun _ _ _ h => h
      · exact yields_loadK (by rfl) (.tmp 3) rfl C rfl (kvH m) (kvV m) HSK.out
      · assumption
      try simp only [Act.put, List.setIfInBounds_toArray, List.set_cons_zero, List.set_cons_succ]
      apply wpAnyH_take (i := 10)
      · simp only [List.getElem?_toArray]; rfl
      · kernel_rfl
      · kernel_rfl
      · kernel_rfl
      · exact fun _ _ _ h => h
      · exact yields_loadK (by rfl) (.tmp 4) rfl (C + 1) rfl (kvH n) (kvV n) HSN.out
      · assumption
      try simp only [Act.put, List.setIfInBounds_toArray, List.set_cons_zero, List.set_cons_succ]
      apply wpAnyH_take (i := 13)
      · simp only [List.getElem?_toArray]; rfl
      · kernel_rfl
      · kernel_rfl
      · kernel_rfl
      · exact fun _ _ _ h => h
      · exact yields_loadK (by rfl) (.tmp 3) rfl C rfl (kvH m) (kvV m) HSK.out
      · assumption
      try simp only [Act.put, List.setIfInBounds_toArray, List.set_cons_zero, List.set_cons_succ]
      apply wpAnyH_take (i := 14)
      · simp only [List.getElem?_toArray]; rfl
      · kernel_rfl
      · kernel_rfl
      · kernel_rfl
      · exact fun _ _ _ h => h
      · exact yields_loadK (by rfl) (.tmp 4) rfl (C + 1) rfl (kvH n) (kvV n) HSN.out
      · assumption
      try simp only [Act.put, List.setIfInBounds_toArray, List.set_cons_zero, List.set_cons_succ]
      apply wpAnyH_take (i := 15)
      · simp only [List.getElem?_toArray]; rfl
      · kernel_rfl
      · kernel_rfl
      · kernel_rfl
      · exact fun _ _ _ h => h
      · exact yields_eqK (by rfl) (.tmp 43) (.tmp 44) _ rfl (h := (kvH m : Int)) (h2 := (kvH n : Int)) (vs := kvV m) (us := kvV n) rfl rfl
      · assumption
      try simp only [Act.put, List.setIfInBounds_toArray, List.set_cons_zero, List.set_cons_succ]
      rw [HEQ.out]
      apply wpAnyH_ready (rs := [9])
      · kernel_rfl
      · simp
      apply AllReadyH.cons (hs := AllReadyH.nil)
      · simp only [List.getElem?_toArray]; rfl
      intro K hK
      rw [if_pos (by rfl)]
      refine wp_call9 21 _ _ rfl [kvVal m] rfl Try.func21 (by kernel_rfl) (by kernel_rfl) ((HR.out.enc _ m (HR.out.keep HG.out (HKW.out.trans HS0.out (FSub.refl _ _))) HMI.out).mono ?_)
      rintro e X0 ⟨rfl, hk⟩
      refine ⟨_, rfl, ?_⟩
      rw [← HT.out]
      have HS1 := Lib.hid (HS0.out.trans hk (FSub.refl _ _))
      clear hk HS0
      refine hK.out _ _ ?_ (fun hHeld => ?_)
      · exact (by rw [HSE.out]; exact HS1.out)
      clear hK K
      try simp only [Act.put, List.setIfInBounds_toArray, List.set_cons_zero, List.set_cons_succ]
      apply wpAnyH_ready (rs := [11])
      · kernel_rfl
      · simp
      apply AllReadyH.cons (hs := AllReadyH.nil)
      · simp only [List.getElem?_toArray]; rfl
      intro K hK
      rw [if_pos (by rfl)]
      refine wp_call9 21 _ _ rfl [kvVal n] rfl Try.func21 (by kernel_rfl) (by kernel_rfl) ((HR.out.enc _ n (HR.out.keep HG.out (HKW.out.trans HS1.out (FSub.refl _ _))) HNI.out).mono ?_)
      rintro e X1 ⟨rfl, hk⟩
      refine ⟨_, rfl, ?_⟩
      rw [← HU.out]
      have HS2 := Lib.hid (HS1.out.trans hk (FSub.refl _ _))
      clear hk HS1
      refine hK.out _ _ ?_ (fun hHeld => ?_)
      · exact (by rw [HSE.out]; exact HS2.out)
      clear hK K
      try simp only [Act.put, List.setIfInBounds_toArray, List.set_cons_zero, List.set_cons_succ]
      apply wpAnyH_take (i := 12)
      · simp only [List.getElem?_toArray]; rfl
      · kernel_rfl
      · kernel_rfl
      · kernel_rfl
      · exact fun _ _ _ h => h
      · exact Or.inl ⟨by rfl, by intro w hSw; go_simp; try with_reducible rfl⟩
      · assumption
      try simp only [Act.put, List.setIfInBounds_toArray, List.set_cons_zero, List.set_cons_succ]
      apply wpAnyH_take (i := 16)
      · simp only [List.getElem?_toArray]; rfl
      · kernel_rfl
      · kernel_rfl
      · kernel_rfl
      · exact fun _ _ _ h => h
      · exact Or.inl ⟨by rfl, by intro w hSw; go_simp; try with_reducible rfl⟩
      · assumption
      try simp only [Act.put, List.setIfInBounds_toArray, List.set_cons_zero, List.set_cons_succ]
      apply wpAnyH_take (i := 17)
      · simp only [List.getElem?_toArray]; rfl
      · kernel_rfl
      · kernel_rfl
      · kernel_rfl
      · exact fun _ _ _ h => h
      · exact Or.inl ⟨by rfl, by intro w hSw; go_simp; try with_reducible rfl⟩
      · assumption
      try simp only [Act.put, List.setIfInBounds_toArray, List.set_cons_zero, List.set_cons_succ]
      apply wpAnyH_take (i := 18)
      · simp only [List.getElem?_toArray]; rfl
      · kernel_rfl
      · kernel_rfl
      · kernel_rfl
      · exact fun _ _ _ h => h
      · exact Or.inl ⟨by rfl, by intro w hSw; go_simp; try with_reducible rfl⟩
      · assumption
      try simp only [Act.put, List.setIfInBounds_toArray, List.set_cons_zero, List.set_cons_succ]
      apply wpAnyH_take (i := 19)
      · simp only [List.getElem?_toArray]; rfl
      · kernel_rfl
      · kernel_rfl
      · kernel_rfl
      · exact fun _ _ _ h => h
      · exact Or.inl ⟨by rfl, by intro w hSw; go_simp; try with_reducible rfl⟩
      · assumption
      try simp only [Act.put, List.setIfInBounds_toArray, List.set_cons_zero, List.set_cons_succ]
      apply wpAnyH_take (i := 20)
      · simp only [List.getElem?_toArray]; rfl
      · kernel_rfl
      · kernel_rfl
      · kernel_rfl
      · exact fun _ _ _ h => h
      · exact Or.inl ⟨by rfl, by intro w hSw; go_simp; try with_reducible rfl⟩
      · assumption
      try simp only [Act.put, List.setIfInBounds_toArray, List.set_cons_zero, List.set_cons_succ]
      apply wpAnyH_take (i := 21)
      · simp only [List.getElem?_toArray]; rfl
      · kernel_rfl
      · kernel_rfl
      · kernel_rfl
      · exact fun _ _ _ h => h
      · exact Or.inl ⟨by rfl, by intro w hSw; go_simp; try with_reducible rfl⟩
      · assumption
      try simp only [Act.put, List.setIfInBounds_toArray, List.set_cons_zero, List.set_cons_succ]
      apply wpAnyH_take (i := 22)
      · simp only [List.getElem?_toArray]; rfl
      · kernel_rfl
      · kernel_rfl
      · kernel_rfl
      · exact fun _ _ _ h => h
      · exact Or.inr ⟨by rfl, rfl⟩
      · assumption
      try simp only [Act.put, List.setIfInBounds_toArray, List.set_cons_zero, List.set_cons_succ]
      apply wpAnyH_take (i := 23)
      · simp only [List.getElem?_toArray]; rfl
      · kernel_rfl
      · kernel_rfl
      · kernel_rfl
      · exact fun _ _ _ h => h
      · exact Or.inr ⟨by rfl, rfl⟩
      · assumption
      try simp only [Act.put, List.setIfInBounds_toArray, List.set_cons_zero, List.set_cons_succ]
      apply wpAnyH_take (i := 24)
      · simp only [List.getElem?_toArray]; rfl
      · kernel_rfl
      · kernel_rfl
      · kernel_rfl
      · exact fun _ _ _ h => h
      · exact Or.inr ⟨by rfl, rfl⟩
      · assumption
      try simp only [Act.put, List.setIfInBounds_toArray, List.set_cons_zero, List.set_cons_succ]
      apply wpAnyH_take (i := 25)
      · simp only [List.getElem?_toArray]; rfl
      · kernel_rfl
      · kernel_rfl
      · kernel_rfl
      · exact fun _ _ _ h => h
      · exact Or.inr ⟨by rfl, rfl⟩
      · assumption
      try simp only [Act.put, List.setIfInBounds_toArray, List.set_cons_zero, List.set_cons_succ]
      apply wpAnyH_take (i := 26)
      · simp only [List.getElem?_toArray]; rfl
      · kernel_rfl
      · kernel_rfl
      · kernel_rfl
      · exact fun _ _ _ h => h
      · exact Or.inr ⟨by rfl, rfl⟩
      · assumption
      try simp only [Act.put, List.setIfInBounds_toArray, List.set_cons_zero, List.set_cons_succ]
      apply wpAnyH_take (i := 27)
      · simp only [List.getElem?_toArray]; rfl
      · kernel_rfl
      · kernel_rfl
      · kernel_rfl
      · exact fun _ _ _ h => h
      · exact Or.inr ⟨by rfl, rfl⟩
      · assumption
      try simp only [Act.put, List.setIfInBounds_toArray, List.set_cons_zero, List.set_cons_succ]
      apply wpAnyH_take (i := 28)
      · simp only [List.getElem?_toArray]; rfl
      · kernel_rfl
      · kernel_rfl
      · kernel_rfl
      · exact fun _ _ _ h => h
      · exact Or.inr ⟨by rfl, rfl⟩
      · assumption
      try simp only [Act.put, List.setIfInBounds_toArray, List.set_cons_zero, List.set_cons_succ]
      apply wpAnyH_take (i := 29)
      · simp only [List.getElem?_toArray]; rfl
      · kernel_rfl
      · kernel_rfl
      · kernel_rfl
      · exact fun _ _ _ h => h
      · exact Or.inr ⟨by rfl, rfl⟩
      · assumption
      try simp only [Act.put, List.setIfInBounds_toArray, List.set_cons_zero, List.set_cons_succ]
      apply wpAnyH_take (i := 30)
      · simp only [List.getElem?_toArray]; rfl
      · kernel_rfl
      · kernel_rfl
      · kernel_rfl
      · exact fun _ _ _ h => h
      · exact Or.inr ⟨by rfl, rfl⟩
      · assumption
      try simp only [Act.put, List.setIfInBounds_toArray, List.set_cons_zero, List.set_cons_succ]
      apply wpAnyH_take (i := 31)
      · simp only [List.getElem?_toArray]; rfl
      · kernel_rfl
      · kernel_rfl
      · kernel_rfl
      · exact fun _ _ _ h => h
      · exact Or.inl ⟨by rfl, by intro w hSw; go_simp; try with_reducible rfl⟩
      · assumption
      try simp only [Act.put, List.setIfInBounds_toArray, List.set_cons_zero, List.set_cons_succ]
      apply wpAnyH_take (i := 32)
      · simp only [List.getElem?_toArray]; rfl
      · kernel_rfl
      · kernel_rfl
      · kernel_rfl
      · exact fun _ _ _ h => h
      · exact Or.inl ⟨by rfl, by intro w hSw; go_simp; try with_reducible rfl⟩
      · assumption
      try simp only [Act.put, List.setIfInBounds_toArray, List.set_cons_zero, List.set_cons_succ]
      apply wpAnyH_take (i := 33)
      · simp only [List.getElem?_toArray]; rfl
      · kernel_rfl
      · kernel_rfl
      · kernel_rfl
      · exact fun _ _ _ h => h
      · exact Or.inl ⟨by rfl, by intro w hSw; go_simp; try with_reducible rfl⟩
      · assumption
      try simp only [Act.put, List.setIfInBounds_toArray, List.set_cons_zero, List.set_cons_succ]
      apply wpAnyH_ready (rs := [34])
      · kernel_rfl
      · simp
      apply AllReadyH.cons (hs := AllReadyH.nil)
      · simp only [List.getElem?_toArray]; rfl
      intro K hK
      rw [if_pos (by rfl)]
      refine wp_call9 16 _ _ rfl [] rfl Try.func16 (by kernel_rfl) (by kernel_rfl) ((awake11_any HR.out _ (HR.out.keep HG.out (HKW.out.trans HS2.out (FSub.refl _ _)))).mono ?_)
      rintro e X6 ⟨rfl, hk⟩
      refine ⟨_, rfl, ?_⟩
      have HS7 := Lib.hid (HS2.out.trans hk (FSub.refl _ _))
      clear hk HS2
      refine hK.out _ _ ?_ (fun hHeld => ?_)
      · exact (by rw [HSE.out]; exact HS7.out)
      clear hK K
      try simp only [Act.put, List.setIfInBounds_toArray, List.set_cons_zero, List.set_cons_succ]
      apply wpAnyH_take (i := 35)
      · simp only [List.getElem?_toArray]; rfl
      · kernel_rfl
      · kernel_rfl
      · kernel_rfl
      · exact fun _ _ _ h => h
      · exact Or.inl ⟨by rfl, by intro w hSw; go_simp; try with_reducible rfl⟩
      · assumption
      try simp only [Act.put, List.setIfInBounds_toArray, List.set_cons_zero, List.set_cons_succ]
      apply wpAnyH_take (i := 36)
      · simp only [List.getElem?_toArray]; rfl
      · kernel_rfl
      · kernel_rfl
      · kernel_rfl
      · exact fun _ _ _ h => h
      · exact Or.inl ⟨by rfl, by intro w hSw; go_simp; try with_reducible rfl⟩
      · assumption
      try simp only [Act.put, List.setIfInBounds_toArray, List.set_cons_zero, List.set_cons_succ]
      refine wpAnyH_done (by kernel_rfl) ?_ _
      refine NoPanic.normal ?_
      go_wp2_with fail
      go_ret
      exact ⟨rfl, HKW.out.trans HS7.out (FSub.refl _ _)⟩
  · have t2 : (300 : Int) < (bs l).size := by rw [hs]; omega
    generalize bs l = B at *
    go_enter Try.func9, Try.ntmps9
    go_wp2_with fail
    refine (awake11_any HR.out _ (HR.out.keep HG.out HK0.out)).mono ?_; rintro e w4 ⟨rfl, hk4⟩
    have HK4 := Lib.hid (HK0.out.trans hk4 (FSub.refl _ _))
    clear hk4
    go_wp2_with fail
    go_ret
    exact ⟨rfl, HK4.out⟩
end Go.Proofs.Ytnmpekbkahkapaa
/-
  Keys are apart: what operations at one key answer, and leave there.
-/
namespace Go.Proofs.Ytnmpekbkahkapaa
open Go.RowKit
theorem get_set {m : Kv} {k j : Nat} (hk : k < m.length) (o : Option Int) : (m.set k o).getD j none = if k = j then o else m.getD j none := by
  rw [List.getD_eq_getElem?_getD, List.getElem?_set]
  split
  · rename_i e
    subst e
    first | rfl | (rw [if_pos hk]; rfl)
  · rw [← List.getD_eq_getElem?_getD]
end Go.Proofs.Ytnmpekbkahkapaa
/-
  KvmapLast: two arrays in memory, what a step does by its ways.
-/
namespace Go.Proofs.Ytnmpekbkahkapaa
open Go.RowKit
section
variable {w : World} {b : Nat} {m : Kv} {vs : List Int} {t : TypeId}
end
/-- What was put last. -/
structure LaOk (m : Kv) (vs : List Int) : Prop where
  len : vs.length = 8
  mlen : m.length = 8
  last : ∀ j v, m.getD j none = some v → vs.getD j 0 = v
theorem LaOk.first : LaOk kv0 [0, 0, 0, 0, 0, 0, 0, 0] := ⟨rfl, rfl, fun j v h => by
  have e : kv0.getD j none = none := by
    unfold kv0
    rw [List.getD_eq_getElem?_getD, List.getElem?_replicate]
    split <;> rfl
  rw [e] at h; cases h⟩
theorem LaOk.put {m : Kv} {vs : List Int} (h : LaOk m vs) {n : Nat} (hn : n < 8) (v : Int) : LaOk (m.set n (some v)) (vs.set n v) := by
  refine ⟨by simp [h.len], by simp [h.mlen], fun j u hj => ?_⟩
  rw [get_set (by rw [h.mlen]; exact hn)] at hj
  rw [List.getD_eq_getElem?_getD, List.getElem?_set]
  by_cases e : n = j
  · rw [if_pos e] at hj
    obtain rfl := Option.some.inj hj
    rw [if_pos e, if_pos (by rw [h.len]; exact hn)]
    rfl
  · rw [if_neg e] at hj
    rw [if_neg e, ← List.getD_eq_getElem?_getD]
    exact h.last j u hj
theorem LaOk.del {m : Kv} {vs : List Int} (h : LaOk m vs) {n : Nat} (hn : n < 8) : LaOk (m.set n none) vs := by
  refine ⟨h.len, by simp [h.mlen], fun j u hj => ?_⟩
  rw [get_set (by rw [h.mlen]; exact hn)] at hj
  by_cases e : n = j
  · rw [if_pos e] at hj; cases hj
  · rw [if_neg e] at hj
    exact h.last j u hj
section
variable {m : Kv} {x : Opn} {n : Nat}
end
section
variable {ops : Array Oper} {rest : List Oper} {a : Act} {w : World} {Q : Exit → Act → World → Prop}
end
end Go.Proofs.Ytnmpekbkahkapaa
/-
  The program's key map: the four steps.
-/
namespace Go.Proofs.Ytnmpekbkahkapaa
open Go.RowKit
theorem results_kv2 {fn : Func} {p u : Tmp} (h : fn.results = #[.cell p 25, .cell u 32]) (tmps : Array Value) (w : World) (b c : Nat) {z : Int} {vs : List Int} (y : Ans) {t t2 : TypeId}
    (hp : tmps.getD p undef = .pointer (some ⟨b, 0, none⟩)) (hb : w.heap[b]? = some (.cells (kvA z vs) t (0, 0))) (hu : tmps.getD u undef = .pointer (some ⟨c, 0, none⟩)) (hc : w.heap[c]? = some (.cells (ansC y).toArray t2 (0, 0))) :
    (results fn tmps).run Try.prog w = .ok (.tuple #[.agg (kvA z vs), .agg (ansC y).toArray]) w := by
  have h1 : (loadVar 25 ⟨b, 0, none⟩).run Try.prog w = .ok (.agg (kvA z vs)) w := run_loadVar_row w b t 25 _ _ _ hb Try.underlying25 rfl (by kernel_rfl)
  have h2 : (loadVar 32 ⟨c, 0, none⟩).run Try.prog w = .ok (.agg (ansC y).toArray) w := run_loadVar_row w c t2 32 _ _ _ hc Try.underlying32 rfl (by kernel_rfl)
  have hp' : tmps[p]?.getD undef = .pointer (some ⟨b, 0, none⟩) := by simpa using hp
  have hu' : tmps[u]?.getD undef = .pointer (some ⟨c, 0, none⟩) := by simpa using hu
  simp only [results, h]
  simp [Sem.run_bind, Result.andThen, hp', hu', asAddr, h1, h2]
theorem results_kv3 {fn : Func} {p u x : Tmp} (h : fn.results = #[.cell p 25, .cell u 32, .tmp x]) (tmps : Array Value) (w : World) (b c : Nat) {z : Int} {vs : List Int} (y : Ans) {t t2 : TypeId}
    (hp : tmps.getD p undef = .pointer (some ⟨b, 0, none⟩)) (hb : w.heap[b]? = some (.cells (kvA z vs) t (0, 0))) (hu : tmps.getD u undef = .pointer (some ⟨c, 0, none⟩)) (hc : w.heap[c]? = some (.cells (ansC y).toArray t2 (0, 0))) :
    (results fn tmps).run Try.prog w = .ok (.tuple #[.agg (kvA z vs), .agg (ansC y).toArray, tmps.getD x undef]) w := by
  have h1 : (loadVar 25 ⟨b, 0, none⟩).run Try.prog w = .ok (.agg (kvA z vs)) w := run_loadVar_row w b t 25 _ _ _ hb Try.underlying25 rfl (by kernel_rfl)
  have h2 : (loadVar 32 ⟨c, 0, none⟩).run Try.prog w = .ok (.agg (ansC y).toArray) w := run_loadVar_row w c t2 32 _ _ _ hc Try.underlying32 rfl (by kernel_rfl)
  have hp' : tmps[p]?.getD undef = .pointer (some ⟨b, 0, none⟩) := by simpa using hp
  have hu' : tmps[u]?.getD undef = .pointer (some ⟨c, 0, none⟩) := by simpa using hu
  simp only [results, h]
  simp [Sem.run_bind, Result.andThen, hp', hu', asAddr, h1, h2]
/-- The world behind a step's variables. -/
theorem vars_k (w : World) (h : Int) (vs : List Int) (A : Array Value) (W : World) (hW : W = (((w.alloc (.cells (kvA h vs) 25)).alloc (.cells A 27)).alloc (.cells (kvA 0 []) 25)).alloc (.cells (ansC ⟨0, 0⟩).toArray 32)) :
    Keeps [] w W ∧ W.heap[w.heap.size]? = some (.cells (kvA h vs) 25 (0, 0)) ∧ W.heap[w.heap.size + 1]? = some (.cells A 27 (0, 0)) ∧ W.heap[w.heap.size + 2]? = some (.cells (kvA 0 []) 25 (0, 0)) ∧ W.heap[w.heap.size + 3]? = some (.cells (ansC ⟨0, 0⟩).toArray 32 (0, 0)) ∧ W.heap.size = w.heap.size + 4 := by
  have e1 : (w.alloc (.cells (kvA h vs) 25)).heap.size = w.heap.size + 1 := Array.size_push _
  have e2 : ((w.alloc (.cells (kvA h vs) 25)).alloc (.cells A 27)).heap.size = w.heap.size + 2 := by
    rw [show ((w.alloc (.cells (kvA h vs) 25)).alloc (.cells A 27)).heap.size = (w.alloc (.cells (kvA h vs) 25)).heap.size + 1 from Array.size_push _, e1]
  have e3 : (((w.alloc (.cells (kvA h vs) 25)).alloc (.cells A 27)).alloc (.cells (kvA 0 []) 25)).heap.size = w.heap.size + 3 := by
    rw [show (((w.alloc (.cells (kvA h vs) 25)).alloc (.cells A 27)).alloc (.cells (kvA 0 []) 25)).heap.size = ((w.alloc (.cells (kvA h vs) 25)).alloc (.cells A 27)).heap.size + 1 from Array.size_push _, e2]
  subst hW
  refine ⟨((((Keeps.refl _ _).alloc _).alloc _).alloc _).alloc _, ?_, ?_, ?_, ?_, ?_⟩
  · exact ((((Keeps.refl [] (w.alloc (.cells (kvA h vs) 25))).alloc _).alloc _).alloc _).heap (heap_alloc_new w _) (by simp)
  · have h := heap_alloc_new (w.alloc (.cells (kvA h vs) 25)) (.cells A 27)
    rw [e1] at h
    exact (((Keeps.refl [] _).alloc _).alloc _).heap h (by simp)
  · have h := heap_alloc_new ((w.alloc (.cells (kvA h vs) 25)).alloc (.cells A 27)) (.cells (kvA 0 []) 25)
    rw [e2] at h
    exact ((Keeps.refl [] _).alloc _).heap h (by simp)
  · have h := heap_alloc_new (((w.alloc (.cells (kvA h vs) 25)).alloc (.cells A 27)).alloc (.cells (kvA 0 []) 25)) (.cells (ansC ⟨0, 0⟩).toArray 32)
    rw [e3] at h
    exact h
  · rw [show ((((w.alloc (.cells (kvA h vs) 25)).alloc (.cells A 27)).alloc (.cells (kvA 0 []) 25)).alloc (.cells (ansC ⟨0, 0⟩).toArray 32)).heap.size = (((w.alloc (.cells (kvA h vs) 25)).alloc (.cells A 27)).alloc (.cells (kvA 0 []) 25)).heap.size + 1 from Array.size_push _, e3]
theorem kvHas_kv (w : World) {m : Kv} (hm : KvIn m) {key : Int} (h0 : 0 ≤ key) : Calls Try.prog 30 #[.agg (kvA (kvH m) (kvV m)), .int .u8 key] w fun e w' => e = .returned (.bool (m.getD key.toNat none).isSome) ∧ Keeps [] w w' := by
  refine (kvHas_any w hm.small (kvV m) h0).mono ?_
  rintro e w' ⟨rfl, hk⟩
  refine ⟨?_, hk⟩
  have hb := kvH_bit m key.toNat
  cases ho : (m.getD key.toNat none).isSome with
  | true => rw [ho] at hb; rw [decide_eq_true (by simpa using hb)]
  | false => rw [ho] at hb; rw [decide_eq_false (by simp at hb; omega)]
/-- What a step tells. -/
def KsPost (w : World) (m : Kv) (r : Ans) (e : Ending) (w' : World) : Prop := e = .returned (.tuple #[kvVal m, .agg (ansC r).toArray]) ∧ Keeps [] w w'
set_option maxHeartbeats 8000000
set_option maxRecDepth 100000
section
variable {ops : Array Oper} {rest : List Oper} {o : Oper} {a : Act} {w : World} {K : Act → World → Prop} {Q : Exit → Act → World → Prop}
theorem wp_loadKh {x : Operand} (ho : o.op = .load 5 x) {g : Nat} {h : Int} {vs : List Int} {t : TypeId} (hx : a.eval x = .pointer (some ⟨g, 0, none⟩)) (hg : w.heap[g]? = some (.cells (kvA h vs) t (0, 0)))
    (hK : K (a.put o.dst (.int .u8 h)) w) : o.wp Try.prog a w K Q := by
  have hrun : (loadVar 5 ⟨g, 0, none⟩).run Try.prog w = .ok (.int .u8 h) w := by simp [loadVar, run_underlying Try.underlying5, kv_byte hg]
  unfold Oper.wp execOp
  simp only [ho, hx, Instr.loadAt, Instr.sureAddr, Sem.run_bind, Sem.run_pure, Result.andThen_ok, hrun]
  exact hK
theorem wpList_loadKh {dst : Option Tmp} {ty : TypeId} {pos : String} {after : Array Edge} {x : Operand} {g : Nat} {h : Int} {vs : List Int} {t : TypeId}
    (hx : a.eval x = .pointer (some ⟨g, 0, none⟩)) (hg : w.heap[g]? = some (.cells (kvA h vs) t (0, 0))) (hK : wpList Try.prog ops Q rest (a.put dst (.int .u8 h)) w) :
    wpList Try.prog ops Q ({ dst := dst, op := .load 5 x, type := ty, pos := pos, after := after, guard := none } :: rest) a w :=
  wpList_plain rfl fun _ hk => wp_loadKh rfl hx hg (hk _ _ hK)
theorem wp_putKh {x y : Operand} (ho : o.op = .store 5 x y) {g : Nat} {h h2 : Int} {vs : List Int} {t : TypeId}
    (hx : a.eval x = .pointer (some ⟨g, 0, none⟩)) (hy : a.eval y = .int .u8 h2) (hg : w.heap[g]? = some (.cells (kvA h vs) t (0, 0)))
    (hK : ∀ W, W.heap[g]? = some (.cells (kvA h2 vs) t (0, 0)) → Keeps [g] w W → K (a.put o.dst undef) W) : o.wp Try.prog a w K Q :=
  wp_put1 ho hx hy (by kernel_rfl) rfl (by rw [kv_byte hg]; rfl) (kv_thaw hg 0) (hK _ (kv_puth hg) ((Keeps.refl [g] w).setCell _ _ (.inl (by simp))))
theorem wpList_putKh {dst : Option Tmp} {ty : TypeId} {pos : String} {after : Array Edge} {x y : Operand} {g : Nat} {h h2 : Int} {vs : List Int} {t : TypeId}
    (hx : a.eval x = .pointer (some ⟨g, 0, none⟩)) (hy : a.eval y = .int .u8 h2) (hg : w.heap[g]? = some (.cells (kvA h vs) t (0, 0)))
    (hK : ∀ W, W.heap[g]? = some (.cells (kvA h2 vs) t (0, 0)) → Keeps [g] w W → wpList Try.prog ops Q rest (a.put dst undef) W) :
    wpList Try.prog ops Q ({ dst := dst, op := .store 5 x y, type := ty, pos := pos, after := after, guard := none } :: rest) a w :=
  wpList_plain rfl fun _ hk => wp_putKh rfl hx hy hg fun W h3 h4 => hk _ _ (hK W h3 h4)
theorem wp_putKv {x y : Operand} (ho : o.op = .store 22 x y) {g k : Nat} {h v : Int} {vs : List Int} {t : TypeId} (hl : vs.length = 8) (hk : k < 8)
    (hx : a.eval x = .pointer (some ⟨g, 1 + k, none⟩)) (hy : a.eval y = .int .u16 v) (hg : w.heap[g]? = some (.cells (kvA h vs) t (0, 0)))
    (hK : ∀ W, W.heap[g]? = some (.cells (kvA h (vs.set k v)) t (0, 0)) → Keeps [g] w W → K (a.put o.dst undef) W) : o.wp Try.prog a w K Q :=
  wp_put1 ho hx hy (by kernel_rfl) rfl (by rw [kv_cell hg hk]; rfl) (kv_thaw hg (1 + k)) (hK _ (kv_put hg hl hk v) ((Keeps.refl [g] w).setCell _ _ (.inl (by simp))))
theorem wpList_putKv {dst : Option Tmp} {ty : TypeId} {pos : String} {after : Array Edge} {x y : Operand} {g k : Nat} {h v : Int} {vs : List Int} {t : TypeId} (hl : vs.length = 8) (hk : k < 8)
    (hx : a.eval x = .pointer (some ⟨g, 1 + k, none⟩)) (hy : a.eval y = .int .u16 v) (hg : w.heap[g]? = some (.cells (kvA h vs) t (0, 0)))
    (hK : ∀ W, W.heap[g]? = some (.cells (kvA h (vs.set k v)) t (0, 0)) → Keeps [g] w W → wpList Try.prog ops Q rest (a.put dst undef) W) :
    wpList Try.prog ops Q ({ dst := dst, op := .store 22 x y, type := ty, pos := pos, after := after, guard := none } :: rest) a w :=
  wpList_plain rfl fun _ hj => wp_putKv rfl hl hk hx hy hg fun W h3 h4 => hj _ _ (hK W h3 h4)
theorem wpList_shl8 {dst : Option Tmp} {ty T : TypeId} {pos : String} {after : Array Edge} {x y : Operand} {k v : Int} (hx : a.eval x = .int .u8 1) (hy : a.eval y = .int .u8 k)
    (hr : ∀ w, (Op.shift BinOp.shl IntKind.u8 1 IntKind.u8 k).run Try.prog w = .ok (.int .u8 v) w) (h : wpList Try.prog ops Q rest (a.put dst (.int .u8 v)) w) :
    wpList Try.prog ops Q ({ dst := dst, op := .binOp .shl 5 x y T, type := ty, pos := pos, after := after, guard := none } :: rest) a w :=
  wpList_plain rfl fun _ hk => by
    unfold Oper.wp execOp
    have e := hr w
    simp only [hx, hy, Sem.run_bind]
    simp [go_sem, e, Result.andThen]
    exact hk _ _ h
theorem wpList_or8 {dst : Option Tmp} {ty T : TypeId} {pos : String} {after : Array Edge} {x y : Operand} {A B v : Int} (hx : a.eval x = .int .u8 A) (hy : a.eval y = .int .u8 B)
    (hr : bits .or .u8 A B = v) (h : wpList Try.prog ops Q rest (a.put dst (.int .u8 v)) w) :
    wpList Try.prog ops Q ({ dst := dst, op := .binOp .or 5 x y T, type := ty, pos := pos, after := after, guard := none } :: rest) a w :=
  wpList_plain rfl fun _ hk => by
    unfold Oper.wp execOp
    simp only [hx, hy, Sem.run_bind]
    simp [go_sem, hr, Result.andThen]
    exact hk _ _ h
theorem wpList_not8 {dst : Option Tmp} {ty T : TypeId} {pos : String} {after : Array Edge} {x y : Operand} {A B v : Int} (hx : a.eval x = .int .u8 A) (hy : a.eval y = .int .u8 B)
    (hr : bits .andNot .u8 A B = v) (h : wpList Try.prog ops Q rest (a.put dst (.int .u8 v)) w) :
    wpList Try.prog ops Q ({ dst := dst, op := .binOp .andNot 5 x y T, type := ty, pos := pos, after := after, guard := none } :: rest) a w :=
  wpList_plain rfl fun _ hk => by
    unfold Oper.wp execOp
    simp only [hx, hy, Sem.run_bind]
    simp [go_sem, hr, Result.andThen]
    exact hk _ _ h
end
theorem kvGet_none (w : World) {m : Kv} (hm : KvIn m) (f o a b : Int) {kn : Nat} (hk8 : kn < 8) (ho : m.getD kn none = none) :
    Calls Try.prog 53 #[.agg (kvA (kvH m) (kvV m)), .agg #[.int .u8 f, .int .u8 o, .int .u8 (kn : Int), .int .u16 a, .int .u16 b]] w (KsPost w m ⟨2, 0⟩) := by
  obtain ⟨W, hW⟩ : ∃ W, W = (((w.alloc (.cells (kvA (kvH m) (kvV m)) 25)).alloc (.cells #[.int .u8 f, .int .u8 o, .int .u8 (kn : Int), .int .u16 a, .int .u16 b] 27)).alloc (.cells (kvA 0 []) 25)).alloc (.cells (ansC ⟨0, 0⟩).toArray 32) := ⟨_, rfl⟩
  obtain ⟨hk0, h0, h1, h2, h3, hz⟩ := vars_k w _ _ _ W hW
  simp only [show (ansC ⟨0, 0⟩).toArray = #[Value.int .u8 0, .int .u16 0] from rfl, show kvA 0 [] = #[Value.int .u8 0, .int .u16 0, .int .u16 0, .int .u16 0, .int .u16 0, .int .u16 0, .int .u16 0, .int .u16 0, .int .u16 0] from rfl] at hW
  have h0' := h0
  rw [hW] at h0'
  have HL0 := Lib.hid h0'
  obtain ⟨R, hR⟩ : ∃ R, R = w.heap.size := ⟨_, rfl⟩
  rw [← hR] at h0 h1 h2 h3 hz
  have HWW := Lib.hid hW; have HRE := Lib.hid hR; have HK0 := Lib.hid hk0
  have HZ := Lib.hid hz; have HO := Lib.hid ho
  have HHAS := Lib.hid (fun w => kvHas_kv w hm (key := (kn : Int)) (Int.natCast_nonneg _))
  clear h0' hW hR hk0 hz
  go_enter Try.func53, Try.ntmps53
  go_wp2_with ((with_reducible refine wpList_loadK (g := w.heap.size) rfl ?_ HL0.out ?_); exact rfl)
  refine (HHAS.out _).mono ?_; rintro e w1 ⟨rfl, hk1⟩
  rw [← HWW.out] at hk1
  rw [← HRE.out, Int.toNat_natCast, HO.out]
  simp only [Option.isSome_none, Option.isSome_some]
  have HB0 := Lib.hid (hk1.heap h0 (by simp)); have HB2 := Lib.hid (hk1.heap h2 (by simp)); have HB3 := Lib.hid (hk1.heap h3 (by simp))
  have hb1 := hk1.heap h1 (by simp)
  have c2 : w1.cell? ⟨R + 1, 2, none⟩ = some (.int .u8 (kn : Int)) := cell_lit hb1 2 rfl
  have c3 : w1.cell? ⟨R + 1, 3, none⟩ = some (.int .u16 a) := cell_lit hb1 3 rfl
  have c4 : w1.cell? ⟨R + 1, 4, none⟩ = some (.int .u16 b) := cell_lit hb1 4 rfl
  have HK1 := Lib.hid (HK0.out.trans hk1 (FSub.refl _ _))
  clear h0 h1 h2 h3 hb1 hk1 HL0 HK0 HHAS
  go_wp2_with (first
    | ((with_reducible refine wpList_loadK (g := R) rfl ?_ HB0.out ?_); exact rfl)
    | ((with_reducible refine wpList_putK (g := R + 2) (h := kvH m) (vs := kvV m) ?_ ?_ HB2.out ?_); exact rfl; exact rfl))
  intro W2 hW2 hk2
  have HW2 := Lib.hid hW2
  have HA2 := Lib.hid (hk2.heap HB3.out (by simp))
  have HK2 := Lib.hid (HK1.out.trans hk2 (fun q hq => .inr (by have := HRE.out; simp at hq; omega)))
  clear hW2 hk2
  go_wp2_with ((with_reducible refine wpList_putN (g := R + 3) (old := ⟨0, 0⟩) ⟨2, 0⟩ ?_ ?_ HA2.out ?_); exact rfl; exact rfl)
  intro W3 hW3 hk3
  have HW3 := Lib.hid hW3
  have HS3 := Lib.hid (hk3.heap HW2.out (by simp))
  have HK3 := Lib.hid (HK2.out.trans hk3 (fun q hq => .inr (by have := HRE.out; simp at hq; omega)))
  clear hW3 hk3
  go_wp2_with fail
  try simp only [Exit.inBlock, Exit.then]
  exact bodyPost_ret (results_kv2 rfl _ _ (R + 2) (R + 3) ⟨2, 0⟩ rfl HS3.out rfl HW3.out) rfl ⟨rfl, HK3.out⟩
theorem kvGet_some (w : World) {m : Kv} (hm : KvIn m) (f o a b : Int) {kn : Nat} (hk8 : kn < 8) {v : Int} (ho : m.getD kn none = some v) :
    Calls Try.prog 53 #[.agg (kvA (kvH m) (kvV m)), .agg #[.int .u8 f, .int .u8 o, .int .u8 (kn : Int), .int .u16 a, .int .u16 b]] w (KsPost w m ⟨1, v⟩) := by
  have hcv : (kvV m).getD kn 0 = v := by rw [kvV_getD (by rw [hm.len]; exact hk8), ho]; rfl
  have HCV := Lib.hid hcv
  clear hcv
  obtain ⟨W, hW⟩ : ∃ W, W = (((w.alloc (.cells (kvA (kvH m) (kvV m)) 25)).alloc (.cells #[.int .u8 f, .int .u8 o, .int .u8 (kn : Int), .int .u16 a, .int .u16 b] 27)).alloc (.cells (kvA 0 []) 25)).alloc (.cells (ansC ⟨0, 0⟩).toArray 32) := ⟨_, rfl⟩
  obtain ⟨hk0, h0, h1, h2, h3, hz⟩ := vars_k w _ _ _ W hW
  simp only [show (ansC ⟨0, 0⟩).toArray = #[Value.int .u8 0, .int .u16 0] from rfl, show kvA 0 [] = #[Value.int .u8 0, .int .u16 0, .int .u16 0, .int .u16 0, .int .u16 0, .int .u16 0, .int .u16 0, .int .u16 0, .int .u16 0] from rfl] at hW
  have h0' := h0
  rw [hW] at h0'
  have HL0 := Lib.hid h0'
  obtain ⟨R, hR⟩ : ∃ R, R = w.heap.size := ⟨_, rfl⟩
  rw [← hR] at h0 h1 h2 h3 hz
  have HWW := Lib.hid hW; have HRE := Lib.hid hR; have HK0 := Lib.hid hk0
  have HZ := Lib.hid hz; have HO := Lib.hid ho
  have HHAS := Lib.hid (fun w => kvHas_kv w hm (key := (kn : Int)) (Int.natCast_nonneg _))
  clear h0' hW hR hk0 hz
  go_enter Try.func53, Try.ntmps53
  go_wp2_with ((with_reducible refine wpList_loadK (g := w.heap.size) rfl ?_ HL0.out ?_); exact rfl)
  refine (HHAS.out _).mono ?_; rintro e w1 ⟨rfl, hk1⟩
  rw [← HWW.out] at hk1
  rw [← HRE.out, Int.toNat_natCast, HO.out]
  simp only [Option.isSome_none, Option.isSome_some]
  have HB0 := Lib.hid (hk1.heap h0 (by simp)); have HB2 := Lib.hid (hk1.heap h2 (by simp)); have HB3 := Lib.hid (hk1.heap h3 (by simp))
  have hb1 := hk1.heap h1 (by simp)
  have c2 : w1.cell? ⟨R + 1, 2, none⟩ = some (.int .u8 (kn : Int)) := cell_lit hb1 2 rfl
  have c3 : w1.cell? ⟨R + 1, 3, none⟩ = some (.int .u16 a) := cell_lit hb1 3 rfl
  have c4 : w1.cell? ⟨R + 1, 4, none⟩ = some (.int .u16 b) := cell_lit hb1 4 rfl
  have HK1 := Lib.hid (HK0.out.trans hk1 (FSub.refl _ _))
  clear h0 h1 h2 h3 hb1 hk1 HL0 HK0 HHAS
  have c0 := kv_cell HB0.out hk8
  rw [HCV.out] at c0
  obtain ⟨S, hS⟩ : ∃ S : World → Prop, S = fun y => Keeps [R + 2, R + 3] w1 y := ⟨_, rfl⟩
  have HSE := Lib.hid hS
  have hSD : S w1.drew := by rw [hS]; exact (Keeps.refl _ _).drew
  have HS0 := Lib.hid (fun (w' : World) (hh : S w') => show ∃ t, w'.heap[R]? = some (.cells (kvA (kvH m) (kvV m)) t (0, 0)) from by rw [hS] at hh; exact ⟨_, hh.heap HB0.out (by simp)⟩)
  have HSK := Lib.hid (fun (w' : World) (hh : S w') => show w'.cell? ⟨R + 1, 2, none⟩ = some (.int .u8 (kn : Int)) from by rw [hS] at hh; exact hh.cell c2 (by simp))
  have HSV := Lib.hid (fun (w' : World) (hh : S w') => show w'.cell? ⟨R, 1 + kn, none⟩ = some (.int .u16 v) from by rw [hS] at hh; exact hh.cell c0 (by simp))
  have HLT := Lib.hid (fun (w' : World) (_ : S w') => show (kn : Int) < 8 from by omega)
  clear hS c0 c2 c3 c4
  go_wp2_with fail
  refine wp_region_noPanic ?_
  refine wp_region_held_drew (S := S) (by kernel_rfl) hSD (fun hHeld => ?_)
  apply wpAnyH_take (i := 0)
  · simp only [List.getElem?_toArray]; rfl
  · kernel_rfl
  · kernel_rfl
  · kernel_rfl
  · exact fun _ _ _ h => h
  · exact yields_loadK (by rfl) _ rfl R rfl _ _ HS0.out
  · assumption
  try simp only [Act.put, List.setIfInBounds_toArray, List.set_cons_zero, List.set_cons_succ]
  apply wpAnyH_take (i := 1)
  · simp only [List.getElem?_toArray]; rfl
  · kernel_rfl
  · kernel_rfl
  · kernel_rfl
  · exact fun _ _ _ h => h
  · exact Or.inl ⟨by rfl, by intro w hSw; go_simp; try with_reducible rfl⟩
  · assumption
  try simp only [Act.put, List.setIfInBounds_toArray, List.set_cons_zero, List.set_cons_succ]
  apply wpAnyH_take (i := 2)
  · simp only [List.getElem?_toArray]; rfl
  · kernel_rfl
  · kernel_rfl
  · kernel_rfl
  · exact fun _ _ _ h => h
  · exact Or.inl ⟨by rfl, by intro w hSw; have q0 := HSK.out w hSw; go_simp; try with_reducible rfl⟩
  · assumption
  try simp only [Act.put, List.setIfInBounds_toArray, List.set_cons_zero, List.set_cons_succ]
  apply wpAnyH_take (i := 3)
  · simp only [List.getElem?_toArray]; rfl
  · kernel_rfl
  · kernel_rfl
  · kernel_rfl
  · exact fun _ _ _ h => h
  · exact Or.inl ⟨by rfl, by intro w hSw; go_simp; try with_reducible rfl⟩
  · assumption
  try simp only [Act.put, List.setIfInBounds_toArray, List.set_cons_zero, List.set_cons_succ]
  apply wpAnyH_take (i := 4)
  · simp only [List.getElem?_toArray]; rfl
  · kernel_rfl
  · kernel_rfl
  · kernel_rfl
  · exact fun _ _ _ h => h
  · exact Or.inl ⟨by rfl, by intro w hSw; have q0 := HLT.out w hSw; go_simp; try with_reducible rfl⟩
  · assumption
  try simp only [Act.put, List.setIfInBounds_toArray, List.set_cons_zero, List.set_cons_succ]
  apply wpAnyH_take (i := 5)
  · simp only [List.getElem?_toArray]; rfl
  · kernel_rfl
  · kernel_rfl
  · kernel_rfl
  · exact fun _ _ _ h => h
  · exact Or.inl ⟨by rfl, by intro w hSw; have q0 := HSV.out w hSw; go_simp; try with_reducible rfl⟩
  · assumption
  try simp only [Act.put, List.setIfInBounds_toArray, List.set_cons_zero, List.set_cons_succ]
  apply wpAnyH_take (i := 6)
  · simp only [List.getElem?_toArray]; rfl
  · kernel_rfl
  · kernel_rfl
  · kernel_rfl
  · exact fun _ _ _ h => h
  · exact Or.inl ⟨by rfl, by intro w hSw; go_simp; try with_reducible rfl⟩
  · assumption
  try simp only [Act.put, List.setIfInBounds_toArray, List.set_cons_zero, List.set_cons_succ]
  apply wpAnyH_ready (rs := [7])
  · kernel_rfl
  · simp
  apply AllReadyH.cons (hs := AllReadyH.nil)
  · simp only [List.getElem?_toArray]; rfl
  intro K hK
  rw [if_pos (by rfl)]
  refine wp_putK rfl (g := R + 2) (h := kvH m) (vs := kvV m) rfl rfl (HB2.out) (fun W2 hW2 hk2 => ?_)
  have HW2 := Lib.hid hW2
  have HA2 := Lib.hid (hk2.heap HB3.out (by simp))
  have HK2 := Lib.hid (show Keeps [R + 2, R + 3] w1 W2 from (((Keeps.refl [R + 2, R + 3] w1).drew).step hk2 (by simp)))
  clear hW2 hk2
  refine hK.out _ _ ?_ (fun hHeld => ?_)
  · exact (by rw [HSE.out]; exact HK2.out)
  clear hK K
  try simp only [Act.put, List.setIfInBounds_toArray, List.set_cons_zero, List.set_cons_succ]
  apply wpAnyH_ready (rs := [8])
  · kernel_rfl
  · simp
  apply AllReadyH.cons (hs := AllReadyH.nil)
  · simp only [List.getElem?_toArray]; rfl
  intro K hK
  rw [if_pos (by rfl)]
  refine wp_putN rfl (g := R + 3) (old := ⟨0, 0⟩) ⟨1, v⟩ rfl rfl HA2.out (fun W3 hW3 hk3 => ?_)
  have HW3 := Lib.hid hW3
  have HS3 := Lib.hid (hk3.heap HW2.out (by simp))
  have HK3 := Lib.hid (HK2.out.step hk3 (by simp))
  clear hW3 hk3
  refine hK.out _ _ ?_ (fun hHeld => ?_)
  · exact (by rw [HSE.out]; exact HK3.out)
  clear hK K
  try simp only [Act.put, List.setIfInBounds_toArray, List.set_cons_zero, List.set_cons_succ]
  refine wpAnyH_done (by kernel_rfl) ?_ _
  refine NoPanic.normal ?_
  go_wp2_with fail
  try simp only [Exit.inBlock, Exit.then]
  exact bodyPost_ret (results_kv2 rfl _ _ (R + 2) (R + 3) ⟨1, v⟩ rfl HS3.out rfl HW3.out) rfl ⟨rfl, HK1.out.trans HK3.out (fun q hq => .inr (by have := HRE.out; simp at hq; omega))⟩
theorem kvPut_all (w : World) {m : Kv} (hm : KvIn m) (f o a b : Int) {kn : Nat} (hk8 : kn < 8) :
    Calls Try.prog 54 #[.agg (kvA (kvH m) (kvV m)), .agg #[.int .u8 f, .int .u8 o, .int .u8 (kn : Int), .int .u16 a, .int .u16 b]] w (KsPost w (m.set kn (some a)) ⟨0, 0⟩) := by
  have ho : kvV (m.set kn (some a)) = (kvV m).set kn a := kvV_set m kn (some a)
  have HSH := Lib.hid (shl8 hk8)
  have hor := kvH_put hm.len hk8 a
  obtain ⟨H2, hH2⟩ : ∃ H2, H2 = kvH (m.set kn (some a)) := ⟨_, rfl⟩
  rw [← hH2] at hor
  have HOR := Lib.hid hor; have HH2 := Lib.hid hH2
  have hvl : (kvV m).length = 8 := by rw [kvV_len, hm.len]
  have HVL := Lib.hid hvl; have HK8 := Lib.hid hk8
  obtain ⟨W, hW⟩ : ∃ W, W = (((w.alloc (.cells (kvA (kvH m) (kvV m)) 25)).alloc (.cells #[.int .u8 f, .int .u8 o, .int .u8 (kn : Int), .int .u16 a, .int .u16 b] 27)).alloc (.cells (kvA 0 []) 25)).alloc (.cells (ansC ⟨0, 0⟩).toArray 32) := ⟨_, rfl⟩
  obtain ⟨hk0, h0, h1, h2, h3, hz⟩ := vars_k w _ _ _ W hW
  simp only [show (ansC ⟨0, 0⟩).toArray = #[Value.int .u8 0, .int .u16 0] from rfl, show kvA 0 [] = #[Value.int .u8 0, .int .u16 0, .int .u16 0, .int .u16 0, .int .u16 0, .int .u16 0, .int .u16 0, .int .u16 0, .int .u16 0] from rfl] at hW
  have h0' := h0
  rw [hW] at h0'
  have HL0 := Lib.hid h0'
  obtain ⟨R, hR⟩ : ∃ R, R = w.heap.size := ⟨_, rfl⟩
  rw [← hR] at h0 h1 h2 h3 hz
  have HWW := Lib.hid hW; have HRE := Lib.hid hR; have HK0 := Lib.hid hk0
  have HZ := Lib.hid hz; have HO := Lib.hid ho
  have HHAS := Lib.hid (fun w => kvHas_kv w hm (key := (kn : Int)) (Int.natCast_nonneg _))
  clear h0' hW hR hk0 hz
  clear HHAS hvl hk8 hm ho hor hH2
  generalize 2 ^ kn = q at *
  go_enter Try.func54, Try.ntmps54
  go_wp2_with (first
    | ((with_reducible refine wpList_loadKh (g := w.heap.size) ?_ HL0.out ?_); exact rfl)
    | ((with_reducible refine wpList_shl8 (v := (q : Int)) ?_ ?_ HSH.out ?_); exact rfl; exact rfl)
    | ((with_reducible refine wpList_or8 (v := (H2 : Int)) ?_ ?_ HOR.out ?_); exact rfl; exact rfl)
    | ((with_reducible refine wpList_putKh (g := w.heap.size) (h2 := (H2 : Int)) ?_ ?_ HL0.out ?_); exact rfl; exact rfl))
  intro w1 hb0 hk1
  rw [← HWW.out, ← HRE.out] at hk1
  rw [← HRE.out] at hb0
  rw [← HRE.out]
  have HB0 := Lib.hid hb0
  have hb1 := hk1.heap h1 (by simp)
  have c2 : w1.cell? ⟨R + 1, 2, none⟩ = some (.int .u8 (kn : Int)) := cell_lit hb1 2 rfl
  have c3 : w1.cell? ⟨R + 1, 3, none⟩ = some (.int .u16 a) := cell_lit hb1 3 rfl
  have HB2 := Lib.hid (hk1.heap h2 (by simp)); have HB3 := Lib.hid (hk1.heap h3 (by simp))
  have HK1 := Lib.hid (HK0.out.trans hk1 (fun q hq => .inr (by have := HRE.out; simp at hq; omega)))
  have hlt : (kn : Int) < 8 := by have := HK8.out; omega
  clear hb0 hk1 h0 h1 h2 h3 HK0 HL0 hb1
  go_wp2_with ((with_reducible refine wpList_putKv (g := R) (k := kn) (v := a) HVL.out HK8.out ?_ ?_ HB0.out ?_); exact rfl; exact rfl)
  intro w2 hb0 hk2
  have hb2 := hk2.heap HB2.out (by simp)
  have hb3 := hk2.heap HB3.out (by simp)
  have hkn := HK1.out.trans hk2 (fun q hq => .inr (by have := HRE.out; simp at hq; omega))
  clear HB0 HB2 HB3 HK1 c2 c3 hk2
  rw [← HO.out] at hb0
  have HB0 := Lib.hid hb0; have HB2 := Lib.hid hb2; have HB3 := Lib.hid hb3; have HK1 := Lib.hid hkn
  clear hb0 hb2 hb3 hkn
  go_wp2_with (first
    | ((with_reducible refine wpList_loadK (g := R) rfl ?_ HB0.out ?_); exact rfl)
    | ((with_reducible refine wpList_putK (g := R + 2) (h := (H2 : Int)) (vs := (kvV (m.set kn (some a)))) ?_ ?_ HB2.out ?_); exact rfl; exact rfl))
  intro W2 hW2 hk2
  have HW2 := Lib.hid hW2
  have HA2 := Lib.hid (hk2.heap HB3.out (by simp))
  have HK2 := Lib.hid (HK1.out.trans hk2 (fun q hq => .inr (by have := HRE.out; simp at hq; omega)))
  clear hW2 hk2
  go_wp2_with ((with_reducible refine wpList_putN (g := R + 3) (old := ⟨0, 0⟩) ⟨0, 0⟩ ?_ ?_ HA2.out ?_); exact rfl; exact rfl)
  intro W3 hW3 hk3
  have HW3 := Lib.hid hW3
  have HS3 := Lib.hid (hk3.heap HW2.out (by simp))
  have HK3 := Lib.hid (HK2.out.trans hk3 (fun q hq => .inr (by have := HRE.out; simp at hq; omega)))
  clear hW3 hk3
  go_wp2_with fail
  try simp only [Exit.inBlock, Exit.then]
  exact bodyPost_ret (results_kv2 rfl _ _ (R + 2) (R + 3) ⟨0, 0⟩ rfl HS3.out rfl HW3.out) rfl ⟨(by unfold kvVal; rw [← HH2.out]), HK3.out⟩
theorem kvDel_none (w : World) {m : Kv} (hm : KvIn m) (f o a b : Int) {kn : Nat} (hk8 : kn < 8) (ho : m.getD kn none = none) :
    Calls Try.prog 55 #[.agg (kvA (kvH m) (kvV m)), .agg #[.int .u8 f, .int .u8 o, .int .u8 (kn : Int), .int .u16 a, .int .u16 b]] w (KsPost w m ⟨4, 0⟩) := by
  obtain ⟨W, hW⟩ : ∃ W, W = (((w.alloc (.cells (kvA (kvH m) (kvV m)) 25)).alloc (.cells #[.int .u8 f, .int .u8 o, .int .u8 (kn : Int), .int .u16 a, .int .u16 b] 27)).alloc (.cells (kvA 0 []) 25)).alloc (.cells (ansC ⟨0, 0⟩).toArray 32) := ⟨_, rfl⟩
  obtain ⟨hk0, h0, h1, h2, h3, hz⟩ := vars_k w _ _ _ W hW
  simp only [show (ansC ⟨0, 0⟩).toArray = #[Value.int .u8 0, .int .u16 0] from rfl, show kvA 0 [] = #[Value.int .u8 0, .int .u16 0, .int .u16 0, .int .u16 0, .int .u16 0, .int .u16 0, .int .u16 0, .int .u16 0, .int .u16 0] from rfl] at hW
  have h0' := h0
  rw [hW] at h0'
  have HL0 := Lib.hid h0'
  obtain ⟨R, hR⟩ : ∃ R, R = w.heap.size := ⟨_, rfl⟩
  rw [← hR] at h0 h1 h2 h3 hz
  have HWW := Lib.hid hW; have HRE := Lib.hid hR; have HK0 := Lib.hid hk0
  have HZ := Lib.hid hz; have HO := Lib.hid ho
  have HHAS := Lib.hid (fun w => kvHas_kv w hm (key := (kn : Int)) (Int.natCast_nonneg _))
  clear h0' hW hR hk0 hz
  go_enter Try.func55, Try.ntmps55
  go_wp2_with ((with_reducible refine wpList_loadK (g := w.heap.size) rfl ?_ HL0.out ?_); exact rfl)
  refine (HHAS.out _).mono ?_; rintro e w1 ⟨rfl, hk1⟩
  rw [← HWW.out] at hk1
  rw [← HRE.out, Int.toNat_natCast, HO.out]
  simp only [Option.isSome_none, Option.isSome_some]
  have HB0 := Lib.hid (hk1.heap h0 (by simp)); have HB2 := Lib.hid (hk1.heap h2 (by simp)); have HB3 := Lib.hid (hk1.heap h3 (by simp))
  have hb1 := hk1.heap h1 (by simp)
  have c2 : w1.cell? ⟨R + 1, 2, none⟩ = some (.int .u8 (kn : Int)) := cell_lit hb1 2 rfl
  have c3 : w1.cell? ⟨R + 1, 3, none⟩ = some (.int .u16 a) := cell_lit hb1 3 rfl
  have c4 : w1.cell? ⟨R + 1, 4, none⟩ = some (.int .u16 b) := cell_lit hb1 4 rfl
  have HK1 := Lib.hid (HK0.out.trans hk1 (FSub.refl _ _))
  clear h0 h1 h2 h3 hb1 hk1 HL0 HK0 HHAS
  go_wp2_with (first
    | ((with_reducible refine wpList_loadK (g := R) rfl ?_ HB0.out ?_); exact rfl)
    | ((with_reducible refine wpList_putK (g := R + 2) (h := kvH m) (vs := kvV m) ?_ ?_ HB2.out ?_); exact rfl; exact rfl))
  intro W2 hW2 hk2
  have HW2 := Lib.hid hW2
  have HA2 := Lib.hid (hk2.heap HB3.out (by simp))
  have HK2 := Lib.hid (HK1.out.trans hk2 (fun q hq => .inr (by have := HRE.out; simp at hq; omega)))
  clear hW2 hk2
  go_wp2_with ((with_reducible refine wpList_putN (g := R + 3) (old := ⟨0, 0⟩) ⟨4, 0⟩ ?_ ?_ HA2.out ?_); exact rfl; exact rfl)
  intro W3 hW3 hk3
  have HW3 := Lib.hid hW3
  have HS3 := Lib.hid (hk3.heap HW2.out (by simp))
  have HK3 := Lib.hid (HK2.out.trans hk3 (fun q hq => .inr (by have := HRE.out; simp at hq; omega)))
  clear hW3 hk3
  go_wp2_with fail
  try simp only [Exit.inBlock, Exit.then]
  exact bodyPost_ret (results_kv2 rfl _ _ (R + 2) (R + 3) ⟨4, 0⟩ rfl HS3.out rfl HW3.out) rfl ⟨rfl, HK3.out⟩
theorem kvDel_some (w : World) {m : Kv} (hm : KvIn m) (f o a b : Int) {kn : Nat} (hk8 : kn < 8) {v : Int} (ho : m.getD kn none = some v) :
    Calls Try.prog 55 #[.agg (kvA (kvH m) (kvV m)), .agg #[.int .u8 f, .int .u8 o, .int .u8 (kn : Int), .int .u16 a, .int .u16 b]] w (KsPost w (m.set kn none) ⟨3, 0⟩) := by
  have HVS := Lib.hid (show kvV (m.set kn none) = (kvV m).set kn 0 from kvV_set m kn none)
  have HSH := Lib.hid (shl8 hk8)
  have hnt := kvH_del hm.len hk8
  obtain ⟨H2, hH2⟩ : ∃ H2, H2 = kvH (m.set kn none) := ⟨_, rfl⟩
  rw [← hH2] at hnt
  have HNT := Lib.hid hnt; have HH2 := Lib.hid hH2
  clear hnt hH2
  have HVL := Lib.hid (show (kvV m).length = 8 by rw [kvV_len, hm.len]); have HK8 := Lib.hid hk8
  obtain ⟨W, hW⟩ : ∃ W, W = (((w.alloc (.cells (kvA (kvH m) (kvV m)) 25)).alloc (.cells #[.int .u8 f, .int .u8 o, .int .u8 (kn : Int), .int .u16 a, .int .u16 b] 27)).alloc (.cells (kvA 0 []) 25)).alloc (.cells (ansC ⟨0, 0⟩).toArray 32) := ⟨_, rfl⟩
  obtain ⟨hk0, h0, h1, h2, h3, hz⟩ := vars_k w _ _ _ W hW
  simp only [show (ansC ⟨0, 0⟩).toArray = #[Value.int .u8 0, .int .u16 0] from rfl, show kvA 0 [] = #[Value.int .u8 0, .int .u16 0, .int .u16 0, .int .u16 0, .int .u16 0, .int .u16 0, .int .u16 0, .int .u16 0, .int .u16 0] from rfl] at hW
  have h0' := h0
  rw [hW] at h0'
  have HL0 := Lib.hid h0'
  obtain ⟨R, hR⟩ : ∃ R, R = w.heap.size := ⟨_, rfl⟩
  rw [← hR] at h0 h1 h2 h3 hz
  have HWW := Lib.hid hW; have HRE := Lib.hid hR; have HK0 := Lib.hid hk0
  have HZ := Lib.hid hz; have HO := Lib.hid ho
  have HHAS := Lib.hid (fun w => kvHas_kv w hm (key := (kn : Int)) (Int.natCast_nonneg _))
  clear h0' hW hR hk0 hz
  generalize 2 ^ kn = q at *
  go_enter Try.func55, Try.ntmps55
  go_wp2_with ((with_reducible refine wpList_loadK (g := w.heap.size) rfl ?_ HL0.out ?_); exact rfl)
  refine (HHAS.out _).mono ?_; rintro e w1 ⟨rfl, hk1⟩
  rw [← HWW.out] at hk1
  rw [← HRE.out, Int.toNat_natCast, HO.out]
  simp only [Option.isSome_none, Option.isSome_some]
  have HB0 := Lib.hid (hk1.heap h0 (by simp)); have HB2 := Lib.hid (hk1.heap h2 (by simp)); have HB3 := Lib.hid (hk1.heap h3 (by simp))
  have hb1 := hk1.heap h1 (by simp)
  have c2 : w1.cell? ⟨R + 1, 2, none⟩ = some (.int .u8 (kn : Int)) := cell_lit hb1 2 rfl
  have c3 : w1.cell? ⟨R + 1, 3, none⟩ = some (.int .u16 a) := cell_lit hb1 3 rfl
  have c4 : w1.cell? ⟨R + 1, 4, none⟩ = some (.int .u16 b) := cell_lit hb1 4 rfl
  have HK1 := Lib.hid (HK0.out.trans hk1 (FSub.refl _ _))
  clear h0 h1 h2 h3 hb1 hk1 HL0 HK0 HHAS
  have hb1 := c2
  clear hk8
  go_wp2_with (first
    | ((with_reducible refine wpList_loadKh (g := R) ?_ HB0.out ?_); exact rfl)
    | ((with_reducible refine wpList_shl8 (v := (q : Int)) ?_ ?_ HSH.out ?_); exact rfl; exact rfl)
    | ((with_reducible refine wpList_not8 (v := (H2 : Int)) ?_ ?_ HNT.out ?_); exact rfl; exact rfl)
    | ((with_reducible refine wpList_putKh (g := R) (h2 := (H2 : Int)) ?_ ?_ HB0.out ?_); exact rfl; exact rfl))
  intro w2 hb0 hk2
  have HB0' := Lib.hid hb0
  have HB2' := Lib.hid (hk2.heap HB2.out (by simp)); have HB3' := Lib.hid (hk2.heap HB3.out (by simp))
  have HK1' := Lib.hid (HK1.out.trans hk2 (fun q hq => .inr (by have := HRE.out; simp at hq; omega)))
  have d2 : w2.cell? ⟨R + 1, 2, none⟩ = some (.int .u8 (kn : Int)) := hk2.cell c2 (by simp)
  have hlt : (kn : Int) < 8 := by have := HK8.out; omega
  clear hb0 hk2 HB0 HB2 HB3 HK1 c2 c3 c4 hb1
  go_wp2_with ((with_reducible refine wpList_putKv (g := R) (k := kn) (v := 0) HVL.out HK8.out ?_ ?_ HB0'.out ?_); exact rfl; exact rfl)
  intro w3 hb0 hk3
  have hb2 := hk3.heap HB2'.out (by simp)
  have hb3 := hk3.heap HB3'.out (by simp)
  have hkn := HK1'.out.trans hk3 (fun q hq => .inr (by have := HRE.out; simp at hq; omega))
  rw [← HVS.out] at hb0
  clear HB0' HB2' HB3' HK1' d2 hk3
  have HB0 := Lib.hid hb0; have HB2 := Lib.hid hb2; have HB3 := Lib.hid hb3; have HK1 := Lib.hid hkn
  clear hb0 hb2 hb3 hkn
  go_wp2_with (first
    | ((with_reducible refine wpList_loadK (g := R) rfl ?_ HB0.out ?_); exact rfl)
    | ((with_reducible refine wpList_putK (g := R + 2) (h := (H2 : Int)) (vs := (kvV (m.set kn none))) ?_ ?_ HB2.out ?_); exact rfl; exact rfl))
  intro W2 hW2 hk2
  have HW2 := Lib.hid hW2
  have HA2 := Lib.hid (hk2.heap HB3.out (by simp))
  have HK2 := Lib.hid (HK1.out.trans hk2 (fun q hq => .inr (by have := HRE.out; simp at hq; omega)))
  clear hW2 hk2
  go_wp2_with ((with_reducible refine wpList_putN (g := R + 3) (old := ⟨0, 0⟩) ⟨3, 0⟩ ?_ ?_ HA2.out ?_); exact rfl; exact rfl)
  intro W3 hW3 hk3
  have HW3 := Lib.hid hW3
  have HS3 := Lib.hid (hk3.heap HW2.out (by simp))
  have HK3 := Lib.hid (HK2.out.trans hk3 (fun q hq => .inr (by have := HRE.out; simp at hq; omega)))
  clear hW3 hk3
  go_wp2_with fail
  try simp only [Exit.inBlock, Exit.then]
  exact bodyPost_ret (results_kv2 rfl _ _ (R + 2) (R + 3) ⟨3, 0⟩ rfl HS3.out rfl HW3.out) rfl ⟨(by unfold kvVal; rw [← HH2.out]), HK3.out⟩
end Go.Proofs.Ytnmpekbkahkapaa
