/-
  CodecBack: its walk.
-/
import Derived.Test.YtchenofgmmgdmaaBr
import Derived.Test.YtchenofgmmgdmaaBe
import Derived.Deep.RegionWith
namespace Go.Proofs.Ytchenofgmmgdmaa
open Go.RowKit
theorem inu8_of {l : List Int} (h : ∀ c ∈ l, 0 ≤ c ∧ c < 256) : InU8 l := by
  intro j
  by_cases hj : j < l.length
  · have e : l.getD j 0 = l[j] := by simp [List.getD, hj]
    rw [e]; exact h _ (List.getElem_mem hj)
  · have e : l.getD j 0 = 0 := by rw [List.getD, List.getElem?_eq_none (by omega)]; rfl
    rw [e]; omega
theorem Try.infoInt : (Try.prog.info? 3).map (fun i => (i.zero, i.size, i.bytes)) = some (some (.int .i64 0), 1, 8) := by kernel_rfl
/-- What holds while all is written: the writer, the ends. -/
structure BInv (w wr : World) (B : Nat) (ts : List LT) (k : Nat) (F : List Nat) (v : Value) : Prop where
  wat : WAt wr B F (some (allBytes (ts.take k)))
  row : wr.ownsRow 0 3 1 v k ((endsOf ts k).map (.int .i64))
  kept : Keeps [] w wr
  sub : FSub F [] w.heap.size
  subv : FSub (own v) [] w.heap.size
  apart : ∀ g ∈ own v, g ∉ F
  fine : Fine ts k
/-- The writer has written one more thing. -/
structure BMid (w wr : World) (B : Nat) (ts : List LT) (k : Nat) (F : List Nat) (v : Value) : Prop where
  wat : WAt wr B F (some (allBytes (ts.take (k + 1))))
  row : wr.ownsRow 0 3 1 v k ((endsOf ts k).map (.int .i64))
  kept : Keeps [] w wr
  sub : FSub F [] w.heap.size
  subv : FSub (own v) [] w.heap.size
  apart : ∀ g ∈ own v, g ∉ F
  fine : Fine ts (k + 1)
theorem BInv.mid {w wr w1 : World} {B k : Nat} {ts : List LT} {F F' : List Nat} {v : Value} (h : BInv w wr B ts k F v) (hk : k < ts.length) (hw : WAt w1 B F' (some (allBytes (ts.take k) ++ thBytes (ts.getD k default)))) (hkk : Keeps F wr w1) (hs : FSub F' F wr.heap.size) (hl : (ts.getD k default).ls.length ≤ 255) : BMid w w1.drew B ts k F' v := by
  have hrl := row_lt h.row
  refine ⟨?_, ?_, (h.kept.trans hkk h.sub).drew, hs.trans h.sub h.kept.size (Nat.le_refl _), h.subv, fun g hg hm => ?_, fun j hj => ?_⟩
  · rw [allBytes_snoc ts k hk]
    exact hw.keeps (G := []) (Keeps.refl [] w1).drew (by simp)
  · exact (hkk.drew).row h.row (fun g hg => h.apart g hg)
  · rcases hs g hm with h1 | h1
    · exact h.apart g hg h1
    · have := hrl g hg; omega
  · by_cases hjk : j < k
    · exact h.fine j hjk
    · obtain rfl : j = k := by omega
      exact hl
/-- What holds while it is read. -/
structure RdInv (w wr : World) (r g cap : Nat) (xs : List Int) (p : Nat) (v : Value) (n : Nat) (es : List Int) : Prop where
  rat : RAt wr r g cap xs 0 p
  row : wr.ownsRow 0 3 1 v n (es.map (.int .i64))
  kept : Keeps [] w wr
theorem RdInv.step {w wr w1 : World} {r g cap p p' : Nat} {xs es : List Int} {v : Value} {n : Nat} (h : RdInv w wr r g cap xs p v n es) (hr : RAt w1 r g cap xs 0 p') (hk : Keeps [r] wr w1) (hrw : w.heap.size ≤ r) (hv : ∀ g ∈ own v, g ≠ r) : RdInv w w1 r g cap xs p' v n es :=
  ⟨hr, hk.row h.row (fun g hg => by simpa using hv g hg), h.kept.trans hk (fun g hg => .inr (by simp at hg; omega))⟩
theorem RdInv.drew {w wr : World} {r g cap p : Nat} {xs es : List Int} {v : Value} {n : Nat} (h : RdInv w wr r g cap xs p v n es) : RdInv w wr.drew r g cap xs p v n es :=
  ⟨h.rat.drew, ((Keeps.refl [] wr).drew).row h.row (by simp), h.kept.drew⟩
theorem RdInv.drewN {w wr : World} {r g cap p : Nat} {xs es : List Int} {v : Value} {n : Nat} (h : RdInv w wr r g cap xs p v n es) (m : Nat) : RdInv w (wr.drewN m) r g cap xs p v n es :=
  ⟨h.rat.drewN m, ((Keeps.refl [] wr).drewN m).row h.row (by simp), h.kept.drewN m⟩
theorem RdInv.close {w wr : World} {r g cap : Nat} {xs es : List Int} {v : Value} {n : Nat} (h : RdInv w wr r g cap xs xs.length v n es) (hl : xs.length ≤ 1000000) :
    Calls Try.prog 16 #[.pointer (some ⟨r, 0, none⟩)] wr fun x w' => x = .returned (.int .i64 0) ∧ RdInv w w' r g cap xs xs.length v n es := by
  refine (Close_any _ _ _ cap xs.length xs 0 h.rat hl).mono ?_
  rintro x w' ⟨hx, m, rfl⟩
  have hcl : closeOf 0 xs.length xs.length = 0 := by simp [closeOf]
  rw [hcl] at hx
  exact ⟨hx, h.drewN m⟩
theorem nums_extract (s : ByteArray) (k : Nat) : nums (s.extract 0 k) = (nums s).take k := by
  simp [nums, List.map_take]
theorem inu8_take {xs : List Int} (h : InU8 xs) (k : Nat) : InU8 (xs.take k) := inu8_sub h (fun c hc => List.mem_of_mem_take hc)
theorem end_mono (ts : List LT) (i k : Nat) (h : i ≤ k) : k ≤ ts.length → endAt ts i ≤ endAt ts k := by
  induction h with
  | refl => intro _; exact Nat.le_refl _
  | step h ih =>
    intro hk
    rw [endAt_succ ts _ (by omega)]
    have := ih (by omega)
    omega
theorem ThAt.ok {w wr : World} {lb o : Nat} {t : LT} (h : ThAt w lb o t) (hs : Small t) (hk : Keeps [] w wr) : ThOk wr t := ⟨h.src.keeps hk (fun _ _ _ _ => by simp), h.inu, h.k0, h.n0, h.n1, hs⟩
theorem RdInv.end_cell {w wr : World} {r g cap p : Nat} {xs : List Int} {v : Value} {ts : List LT} (h : RdInv w wr r g cap xs p v ts.length (endsOf ts ts.length)) {i : Nat} (hi : i < ts.length) :
    ∃ bv cv, v = .slice (some ⟨bv, 0, none⟩) ts.length cv ∧ wr.cell? ⟨bv, i, none⟩ = some (.int .i64 (endAt ts (i + 1) : Nat)) := by
  have hr := h.row
  rcases hr.2 with ⟨rfl, h0⟩ | ⟨bv, cv, cur, rfl, _⟩
  · omega
  · refine ⟨bv, cv, rfl, ?_⟩
    have := hr.cells (g := bv) rfl i _ (endsOf_get ts ts.length i hi)
    have ha : ((⟨bv, 0, none⟩ : Addr).add i) = ⟨bv, i, none⟩ := by unfold Addr.add; split <;> simp_all
    rw [ha] at this
    exact this
theorem BMid.next {w wr w4 : World} {B k : Nat} {ts : List LT} {F : List Nat} {v v4 : Value} {o : Obj} (h : BMid w wr B ts k F v) (hr : w4.ownsRow 0 3 1 v4 (k + 1) ((endsOf ts (k + 1)).map (.int .i64))) (hk : Keeps (own v) (wr.alloc o) w4) (hs : FSub (own v4) (own v) (wr.alloc o).heap.size) : BInv w w4 B ts (k + 1) F v4 := by
  have hwl := h.wat.lt
  have hsz : wr.heap.size ≤ (wr.alloc o).heap.size := ((Keeps.refl [] wr).alloc o).size
  refine ⟨?_, hr, (h.kept.alloc o).trans hk (fun g hg => h.subv g hg), h.sub, hs.trans h.subv (Nat.le_trans h.kept.size hsz) (Nat.le_refl _), fun g hg hm => ?_, h.fine⟩
  · exact (h.wat.keeps (G := []) ((Keeps.refl [] wr).alloc o) (by simp)).keeps hk (fun g hg hm => h.apart g hm hg)
  · rcases hs g hg with h1 | h1
    · exact h.apart g h1 hm
    · have := hwl g hm; omega
set_option maxHeartbeats 4000000 in
set_option maxRecDepth 100000 in
theorem back_some (w : World) (lb off c : Nat) (cut : Int) (hc0 : 0 ≤ cut) (hc1 : cut < 65536) (ts : List LT) (h : Ths w lb off ts) (hl : ts.length ≤ 9223372036854775807) :
    Calls Try.prog 6 #[.slice (some ⟨lb, off, none⟩) ts.length c, .int .u16 cut] w fun e w' => e = .returned (.bool true) ∧ Keeps [] w w' := by
  have H := Lib.hid h; clear h
  obtain ⟨iI, hi, hz0, hz1, hz2⟩ := info_parts Try.infoInt
  go_enter Try.func6, Try.ntmps6
  go_wp2_with fail
  refine (few_some w lb off c ts H.out hl).mono ?_
  rintro e w' ⟨b, rfl, hf, rfl⟩
  cases b with
  | false =>
    clear hf
    go_wp2_with fail
    refine (awake_true _).mono ?_
    rintro e w1 ⟨rfl, hk⟩
    go_wp2_with fail
    go_ret
    exact ⟨rfl, hk⟩
  | true =>
    obtain ⟨h50, hsm⟩ := hf rfl
    clear hf
    have HS := Lib.hid hsm; clear hsm
    have i0 : BInv w (w.alloc (.cells #[.slice none 0 0, .int .i64 0, .pointer none] 32)) w.heap.size ts 0 [w.heap.size] (.slice none 0 0) :=
      ⟨wat_new w, by simpa [endsOf] using World.ownsRow_nil _ _ _ _, (Keeps.refl _ _).alloc _, fun g hg => .inr (by simp at hg; omega), fun g hg => by simp [own_nil] at hg, fun g hg => by simp [own_nil] at hg, fun j hj => absurd hj (Nat.not_lt_zero _)⟩
    go_wp2_with fail
    go_loopw [6, 7, 8, 9] (fun ends i _ _ wr => ∃ (k : Nat) (F : List Nat), k ≤ ts.length ∧ i = .int .i64 k ∧ BInv w wr w.heap.size ts k F ends)
      (fun _ i _ _ _ => ts.length - (intOf i).toNat)
    case atStart => exact ⟨0, [w.heap.size], Nat.zero_le _, rfl, i0⟩
    case round =>
      obtain ⟨k, F, hk, rfl, hI⟩ := hrel
      clear i0
      by_cases hlt : k < ts.length
      · have ht := H.out k hlt
        have hs := HS.out k hlt
        have hL := H.out.lt hlt
        have hmid := fun F' w1 => @BInv.mid w wr w1 _ k ts F F' _ hI hlt
        have E3 := Lib.hid (endsOf_succ ts k)
        have hend : endAt ts (k + 1) = (allBytes (ts.take (k + 1))).length := rfl
        rw [allBytes_snoc ts k hlt] at hend
        generalize ts.getD k default = t at *
        obtain ⟨ck, cn, cs, cl, hsrc, hin, k0, k1, n0, n1, _, hlz⟩ := ht
        have hkp := hI.kept
        have d0 := hkp.cell ck (by simp)
        have d1 := hkp.cell cn (by simp)
        have d2 := hkp.cell cs (by simp)
        have d3 := hkp.cell cl (by simp)
        have hF : ∀ lb off, t.a = some ⟨lb, off, none⟩ → t.ls ≠ [] → lb ∉ F := fun lb off ha hn hm => by
          have h1 := hsrc.lt lb off ha hn
          rcases hI.sub lb hm with h2 | h2
          · simp at h2
          · omega
        have hshort : (allBytes (ts.take k)).length ≤ k * 600 := by
          have e1 : (ts.take k).length = k := by simp; omega
          have g1 : ∀ i, i < (ts.take k).length → (ts.take k).getD i default = ts.getD i default := fun i hi => by
            rw [e1] at hi
            simp [List.getD, hi]
          have := allBytes_le (ts.take k) (fun i hi => by rw [g1 i hi]; exact HS.out i (by omega)) (fun i hi => by rw [g1 i hi]; exact hI.fine i (by omega)) k (by omega)
          rw [List.take_take, Nat.min_self] at this
          exact this
        have hput := put_any wr w.heap.size F _ hI.wat t k0 n0 n1 (hsrc.keeps hkp (fun _ _ _ _ => by simp)) hF hin hs (fun xs e => by cases e; omega)
        have HP := Lib.hid hput; clear hput hF ck cn cs cl hsrc
        by_cases hbig : (255 : Int) < (t.ls.length : Int)
        · clear HP hI hin hmid
          go_wp2_with fail
          refine (awake_true _).mono ?_
          rintro e w1 ⟨rfl, hk1⟩
          go_wp2_with fail
          go_ret
          exact ⟨rfl, hkp.step hk1 (fun _ h => h)⟩
        · have hbad : ¬ ThBad t := fun hb => by have := hb.2.2.2.2; omega
          have hlen := thBytes_length t hs hbad
          generalize allBytes (ts.take k) = X at *
          have HM := Lib.hid hmid; clear hmid hI
          go_wp2_with fail
          refine HP.out.mono ?_
          rintro e w1 ⟨F', hd, hk', hs'⟩
          obtain ⟨rfl, hW⟩ : e = .returned (.tuple #[.string (strOfNums (thBytes t)), .int .i64 0]) ∧ WAt w1 w.heap.size F' (some (X ++ thBytes t)) := by
            rcases hd with ⟨h1, _, h2⟩ | ⟨_, h1, _⟩
            · exact ⟨h2, h1⟩
            · exact absurd h1 hbad
          have hB := Bytes_any _ _ _ _ hW
          have ew' : (some (X ++ thBytes t) : Option (List Int)).getD [] = X ++ thBytes t := rfl
          have eb' : (if (some (X ++ thBytes t) : Option (List Int)).isSome then (0 : Int) else 3) = 0 := rfl
          rw [ew', eb'] at hB
          have HB := Lib.hid hB; clear hB hd ew' eb'
          have hM := HM.out F' w1 hW hk' hs' (by omega)
          have HMid := Lib.hid hM; clear hM hW HM HP
          have hXl : (X ++ thBytes t).length ≤ 60000 := by rw [List.length_append]; omega
          have hSz : ((strOfNums (X ++ thBytes t)).size : Int) = (endAt ts (k + 1) : Nat) := by rw [strOfNums_size, hend]
          have hEl : endAt ts (k + 1) ≤ 60000 := by rw [hend]; exact hXl
          clear hend hXl
          generalize strOfNums (X ++ thBytes t) = S at *
          generalize endAt ts (k + 1) = E at *
          go_wp2_with fail
          refine HB.out.mono ?_
          rintro e w2 ⟨rfl, rfl⟩
          have hrow := HMid.out.row
          go_wp2_with (at_builtin; refine wpList_append_sharp _ rfl _ _ 63 rfl 3 iI (.int .i64 0) 8 Try.underlying63 hi hz0 hz1 hz2 rfl _ k _ rfl (hrow.alloc _) ⟨w1.drew.heap.size, 0, none⟩ 1 1 [.int .i64 E] rfl rfl ?c1 ?c2 ?c3 ?c4 ?_)
          case c1 => exact one_new w1 _ _
          case c2 => intro u hu; simp at hu; subst hu; rfl
          case c3 => unfold maxLen; omega
          case c4 => omega
          intro v4 w4 hrow4 hk4 hs4 _
          have hN := HMid.out.next (by rw [E3.out, List.map_append]; exact hrow4) hk4 (hs4.mono (by simp))
          clear hrow4 hk4 hs4 hrow HB HMid
          go_wp2_with fail
          go_roundw
          case rel => exact ⟨k + 1, F', by omega, by go_num, hN⟩
          case measure => simp [intOf]; omega
      · obtain rfl : k = ts.length := by omega
        have hfine := hI.fine
        have hu8 := allBytes_u8 ts (fun i hi => ⟨(H.out i hi).n0, (H.out i hi).n1, (H.out i hi).inu⟩) hfine
        have hlen := allBytes_le ts HS.out hfine ts.length (Nat.le_refl _)
        have hB := Bytes_any _ _ _ _ hI.wat
        rw [List.take_length] at hB hlen
        have eb' : (if (some (allBytes ts) : Option (List Int)).isSome then (0 : Int) else 3) = 0 := rfl
        have ew' : (some (allBytes ts) : Option (List Int)).getD [] = allBytes ts := rfl
        rw [eb', ew'] at hB
        have hNS := nums_strOf hu8
        have hX := inu8_of hu8
        have hXl : (allBytes ts).length ≤ 1000000 := by omega
        have hSz : (strOfNums (allBytes ts)).size = (allBytes ts).length := strOfNums_size _
        have hrow := hI.row
        have hkp := hI.kept
        have hsubv := hI.subv
        clear eb' ew' hI hu8
        have HB := Lib.hid hB; have HN := Lib.hid hNS; have HX := Lib.hid hX; have HF := Lib.hid hfine
        clear hB hNS hX hfine
        generalize strOfNums (allBytes ts) = S at *
        go_wp2_with fail
        refine HB.out.mono ?_
        rintro e w2 ⟨rfl, rfl⟩
        have hkp2 := hkp.drew
        have hrow2 := ((Keeps.refl [] wr).drew).row hrow (by simp)
        clear HB hkp hrow
        generalize wr.drew = w2 at *
        go_wp2_with fail
        refine (Over_any _ S).mono ?_
        rintro x w3 ⟨rfl, ⟨cap, hR⟩, hk3⟩
        rw [HN.out] at hR
        have hvr : ∀ g ∈ own u6, g ≠ w2.heap.size + 1 := fun g hg => by have := row_lt hrow2 g hg; omega
        have hwr : w.heap.size ≤ w2.heap.size + 1 := by have := hkp2.size; omega
        have iR : RdInv w w3 (w2.heap.size + 1) w2.heap.size cap (allBytes ts) 0 u6 ts.length (endsOf ts ts.length) :=
          ⟨hR, hk3.row hrow2 (by simp), hkp2.step hk3 (fun _ h => h)⟩
        clear hR hk3 hrow2 hkp2
        generalize w2.heap.size + 1 = r at *
        generalize w2.heap.size = g at *
        go_wp2_with fail
        go_loopw [13] (fun i wr => ∃ k : Nat, k ≤ ts.length ∧ i = .int .i64 k ∧ RdInv w wr r g cap (allBytes ts) (endAt ts k) u6 ts.length (endsOf ts ts.length))
          (fun i _ => ts.length - (intOf i).toNat)
        case atStart => exact ⟨0, Nat.zero_le _, rfl, iR⟩
        case round =>
          obtain ⟨k, hk, rfl, hI⟩ := hrel
          clear iR
          by_cases hlt : k < ts.length
          · obtain ⟨bv, cv, hv, he⟩ := hI.end_cell hlt
            have ht := H.out k hlt
            have hs := HS.out k hlt
            have hpre := at_whole ts k hlt
            have hsucc := endAt_succ ts k hlt
            have hok := ht.ok hs hI.kept
            generalize ts.getD k default = t at *
            have hkp := hI.kept
            have d0 := hkp.cell ht.ck (by simp)
            have d1 := hkp.cell ht.cn (by simp)
            have d2 := hkp.cell ht.cs (by simp)
            have d3 := hkp.cell ht.cl (by simp)
            have hF : ∀ lb off, t.a = some ⟨lb, off, none⟩ → t.ls ≠ [] → lb ∉ [r] := fun lb off ha hn hm => by
              have h1 := ht.src.lt lb off ha hn
              simp at hm; omega
            have hrd := fun w' (hr : RAt w' r g cap (allBytes ts) 0 (endAt ts k)) (hk' : ThOk w' t) => read_whole w' r g cap (endAt ts k) (allBytes ts) _ hr HX.out hXl t hk' hF hpre
            rw [← hsucc] at hrd
            have HR := Lib.hid hrd; clear hrd hF hpre ht hsucc hs
            have HI := Lib.hid hI; clear hI
            have HV := Lib.hid hv
            subst hv
            clear HV
            have hE1 : endAt ts (k + 1) ≤ (allBytes ts).length := end_le ts (k + 1)
            have hsum : IntKind.i64.wrap (((endAt ts (k + 1) : Nat) : Int) + (((allBytes ts).length : Int) - ((endAt ts (k + 1) : Nat) : Int))) = ((allBytes ts).length : Int) := by
              rw [IntKind.wrap_i64]; omega
            have hSz2 : (S.size : Int) = ((allBytes ts).length : Int) := by omega
            have HD := Lib.hid HI.out.drew
            have hokd : ThOk wr.drew t := ⟨hok.src.keeps (Keeps.refl [] wr).drew (by simp), hok.inu, hok.k0, hok.n0, hok.n1, hok.small⟩
            go_wp2_with fail
            refine wp_region_any (by kernel_rfl) ?_
            change wpAny _ _ _ _ _ _ _ (World.drew _)
            have e0 : wr.drew.cell? ⟨lb, off + k * 4, none⟩ = some (.int .u8 t.k) := d0
            have e1 : wr.drew.cell? ⟨lb, off + k * 4 + 1, none⟩ = some (.int .u32 t.n) := d1
            have e2 : wr.drew.cell? ⟨lb, off + k * 4 + 2, none⟩ = some (.string t.s) := d2
            have e3 : wr.drew.cell? ⟨lb, off + k * 4 + 3, none⟩ = some (.slice t.a t.ls.length t.c) := d3
            clear d0 d1 d2 d3 he HI hkp hok
            generalize wr.drew = X at *
            refine wpAny_take (i := 0) (v := .pointer (some ⟨r, 0, none⟩)) rfl (by kernel_rfl) (by kernel_rfl) (by kernel_rfl) (fun _ _ _ h => h) (Or.inl ⟨by rfl, fun w => by go_simp⟩) ?_
            refine wpAny_take (i := 1) (v := .slice (some ⟨lb, off, none⟩) ts.length c) rfl (by kernel_rfl) (by kernel_rfl) (by kernel_rfl) (fun _ _ _ h => h) (Or.inl ⟨by rfl, fun w => by go_simp⟩) ?_
            refine wpAny_take (i := 2) (v := .int .i64 k) rfl (by kernel_rfl) (by kernel_rfl) (by kernel_rfl) (fun _ _ _ h => h) (Or.inl ⟨by rfl, fun w => by go_simp⟩) ?_
            refine wpAny_ready (rs := [3]) (by kernel_rfl) (by simp) ?_
            refine AllReady.cons rfl (fun K hK => ?_) AllReady.nil
            go_simp
            refine hK _ _ ?_
            clear hK K
            refine wpAny_ready (rs := [4]) (by kernel_rfl) (by simp) ?_
            refine AllReady.cons rfl (fun K hK => ?_) AllReady.nil
            go_simp
            refine hK _ _ ?_
            clear hK K
            refine wpAny_ready (rs := [5]) (by kernel_rfl) (by simp) ?_
            refine AllReady.cons rfl (fun K hK => ?_) AllReady.nil
            go_simp
            refine (HR.out _ HD.out.rat hokd).mono ?_
            rintro x w4 ⟨b, rfl, hb, hr4, hk4⟩
            obtain rfl := hb trivial
            have hI4 := HD.out.step hr4 hk4 hwr hvr
            obtain ⟨bv2, cv2, hv2, he4⟩ := hI4.end_cell hlt
            cases hv2
            have HI4 := Lib.hid hI4; clear hI4 HD e0 e1 e2 e3 hokd HR hb hk4
            generalize hEE : endAt ts (k + 1) = E at *
            refine hK _ _ ?_
            clear hK K
            refine wpAny_of_quiet (C := fun w' => ∃ n, w' = w4.drewN n) (Q := fun a' => ∀ w', (∃ n, w' = w4.drewN n) → _) (fun a w' hw' h => h w' hw') _ _ _ _ ⟨0, rfl⟩ ?_
            refine wpAnyQ_lex (by kernel_rfl) _ 6 _ _ (fun j => by simp [Nat.add_comm]) (by kernel_rfl) ?_
            repeat (go_big_quiet_step (first
              | (go_at_call 14; exact Calls.quiet_of_same ((At_any _ _ _ cap E _ 0 (hr4.drewN _)).mono fun _ _ ⟨a, b⟩ => ⟨a, b.symm⟩))
              | (go_at_call 15; exact Calls.quiet_of (Left_any _ _ _ cap E _ 0 (hr4.drewN _) hXl))))
            refine wpQuiet_nil ?_
            rintro w' ⟨nq, rfl⟩
            have hI5 : RdInv w (w4.drewN nq) r g cap (allBytes ts) E (.slice (some ⟨bv, 0, none⟩) ts.length cv) ts.length (endsOf ts ts.length) :=
              ⟨HI4.out.rat.drewN nq, ((Keeps.refl [] w4).drewN nq).row HI4.out.row (by simp), HI4.out.kept.drewN nq⟩
            clear HI4 hr4 he4
            go_wp2_with fail
            go_roundw
            case rel => exact ⟨k + 1, by omega, by go_num, by rw [hEE]; exact hI5⟩
            case measure => simp [intOf]; omega
          · obtain rfl : k = ts.length := by omega
            have hEN := end_all ts
            rw [hEN] at hI
            have HI := Lib.hid hI; clear hI
            by_cases hS0 : (S.size : Int) = 0
            · have hS0' : ((S.size : Int) == 0) = true := by simpa using hS0
              go_wp2_with fail
              refine (HI.out.close hXl).mono ?_
              rintro x w4 ⟨rfl, hI4⟩
              clear HI
              have HI := Lib.hid hI4; clear hI4
              go_wp2_with fail
              refine (HI.out.close hXl).mono ?_
              rintro x w5 ⟨rfl, hI5⟩
              clear HI
              have hkp := hI5.kept
              clear hI5
              go_wp2_with fail
              refine (awake_true _).mono ?_
              rintro x w6 ⟨rfl, hk6⟩
              go_wp2_with fail
              go_ret
              exact ⟨rfl, hkp.step hk6 (fun _ h => h)⟩
            · have hS0' : ((S.size : Int) == 0) = false := by simpa using hS0
              go_wp2_with fail
              refine (HI.out.close hXl).mono ?_
              rintro x w4 ⟨rfl, hI4⟩
              clear HI
              have HI := Lib.hid hI4; clear hI4
              have hq0 : 0 ≤ cut % ((allBytes ts).length : Int) := Int.emod_nonneg _ (by omega)
              have hq1 : cut % ((allBytes ts).length : Int) < ((allBytes ts).length : Int) := Int.emod_lt_of_pos _ (by omega)
              have hq2 : cut % ((allBytes ts).length : Int) ≤ ((allBytes ts).length : Int) := by omega
              go_wp2_with fail
              have hTN := nums_extract S (cut % ((allBytes ts).length : Int)).toNat
              rw [HN.out] at hTN
              generalize hQ : cut % ((allBytes ts).length : Int) = Q at *
              obtain ⟨q, rfl⟩ := Int.eq_ofNat_of_zero_le hq0
              rw [Int.toNat_natCast] at hTN ⊢
              clear hQ hq0
              have hq : q < (allBytes ts).length := by omega
              have hYX := inu8_take HX.out q
              have hYl : ((allBytes ts).take q).length = q := by rw [List.length_take]; omega
              generalize S.extract 0 q = T at *
              have HYX := Lib.hid hYX; clear hYX
              have HTN := Lib.hid hTN; clear hTN
              refine (Over_any _ T).mono ?_
              rintro x w5 ⟨rfl, ⟨cap2, hR⟩, hk5⟩
              rw [HTN.out] at hR
              have hkp4 := HI.out.kept
              have hrow4 := HI.out.row
              have hvr2 : ∀ g ∈ own u6, g ≠ w4.heap.size + 1 := fun g hg => by have := row_lt hrow4 g hg; omega
              have hwr2 : w.heap.size ≤ w4.heap.size + 1 := by have := hkp4.size; omega
              have iR : RdInv w w5 (w4.heap.size + 1) w4.heap.size cap2 ((allBytes ts).take q) 0 u6 ts.length (endsOf ts ts.length) :=
                ⟨hR, hk5.row hrow4 (by simp), hkp4.step hk5 (fun _ h => h)⟩
              clear hR hk5 hrow4 hkp4 HI HX HN hvr hwr
              generalize w4.heap.size + 1 = r2 at *
              generalize w4.heap.size = g2 at *
              go_wp2_with fail
              go_loopw [16, 17] (fun began i wr => ∃ k : Nat, k ≤ ts.length ∧ endAt ts k ≤ q ∧ began = .int .i64 (endAt ts k : Nat) ∧ i = .int .i64 k ∧ RdInv w wr r2 g2 cap2 ((allBytes ts).take q) (endAt ts k) u6 ts.length (endsOf ts ts.length))
                (fun _ i _ => ts.length - (intOf i).toNat)
              case atStart => exact ⟨0, Nat.zero_le _, Nat.zero_le _, rfl, rfl, iR⟩
              case round =>
                obtain ⟨k, hk, hkq, rfl, rfl, hI⟩ := hrel
                clear iR
                have hltK : k < ts.length := by
                  by_cases h : k < ts.length
                  · exact h
                  · obtain rfl : k = ts.length := by omega
                    omega
                have hg1 : (k : Int) < (ts.length : Int) := by omega
                obtain ⟨bv, cv, hv, he⟩ := hI.end_cell hltK
                by_cases hin : endAt ts (k + 1) ≤ q
                · have ht := H.out k hltK
                  have hs := HS.out k hltK
                  obtain ⟨rest, hpre⟩ := cut_whole ts k q hltK hin
                  have hsucc := endAt_succ ts k hltK
                  have hok := ht.ok hs hI.kept
                  generalize ts.getD k default = t at *
                  have hkp := hI.kept
                  have d0 := hkp.cell ht.ck (by simp)
                  have d1 := hkp.cell ht.cn (by simp)
                  have d2 := hkp.cell ht.cs (by simp)
                  have d3 := hkp.cell ht.cl (by simp)
                  have hF : ∀ lb off, t.a = some ⟨lb, off, none⟩ → t.ls ≠ [] → lb ∉ [r2] := fun lb off ha hn hm => by
                    have h1 := ht.src.lt lb off ha hn
                    simp at hm; omega
                  have hrd := read_whole wr r2 g2 cap2 (endAt ts k) ((allBytes ts).take q) _ hI.rat HYX.out (by omega) t hok hF hpre
                  rw [← hsucc] at hrd
                  have HR := Lib.hid hrd; clear hrd hF hpre ht hsucc hs
                  have HI := Lib.hid hI; clear hI
                  have hg2 : ((endAt ts (k + 1) : Nat) : Int) ≤ (q : Int) := by omega
                  generalize hEE : endAt ts (k + 1) = E at *
                  subst hv
                  go_wp2_with fail
                  refine HR.out.mono ?_
                  rintro x w6 ⟨b, rfl, hb, hr6, hk6⟩
                  obtain rfl := hb trivial
                  have hI6 := HI.out.step hr6 hk6 hwr2 hvr2
                  obtain ⟨bv2, cv2, hv2, he6⟩ := hI6.end_cell hltK
                  cases hv2
                  rw [hEE] at he6
                  clear HR hb hr6 hk6 HI he d0 d1 d2 d3
                  have HI6 := Lib.hid hI6; clear hI6
                  go_wp2_with fail
                  go_roundw
                  case rel => exact ⟨k + 1, by omega, by omega, by rw [hEE], by go_num, by rw [hEE]; exact HI6.out⟩
                  case measure => simp [intOf]; omega
                · have hg2 : (q : Int) < ((endAt ts (k + 1) : Nat) : Int) := by omega
                  have hg3 : ¬ ((endAt ts (k + 1) : Nat) : Int) ≤ (q : Int) := by omega
                  have HI := Lib.hid hI; clear hI
                  subst hv
                  go_wp2_with fail
                  refine (Err_any _ _ _ cap2 _ _ 0 HI.out.rat).mono ?_
                  rintro x w6 ⟨rfl, rfl⟩
                  go_wp2_with fail
                  refine (At_any _ _ _ cap2 _ _ 0 HI.out.rat).mono ?_
                  rintro x w6 ⟨rfl, rfl⟩
                  clear he
                  have iL := HI.out
                  go_wp2_with fail
                  go_loopw [18] (fun i wr => ∃ j : Nat, j ≤ k ∧ i = .int .i64 j ∧ RdInv w wr r2 g2 cap2 ((allBytes ts).take q) (endAt ts k) (.slice (some ⟨bv, 0, none⟩) ts.length cv) ts.length (endsOf ts ts.length))
                    (fun i _ => ts.length - (intOf i).toNat)
                  case atStart => exact ⟨0, Nat.zero_le _, rfl, iL⟩
                  case round =>
                    obtain ⟨j, hj, rfl, hI⟩ := hrel
                    clear iL HI
                    have hg4 : (j : Int) < (ts.length : Int) := by omega
                    obtain ⟨bv2, cv2, hv2, he⟩ := hI.end_cell (i := j) (by omega)
                    cases hv2
                    by_cases hjk : j < k
                    · have hm := end_mono ts (j + 1) k hjk hk
                      have hg5 : ((endAt ts (j + 1) : Nat) : Int) ≤ (q : Int) := by omega
                      have HI := Lib.hid hI; clear hI
                      generalize endAt ts (j + 1) = E at *
                      go_wp2_with fail
                      go_roundw
                      case rel => exact ⟨j + 1, by omega, by go_num, HI.out⟩
                      case measure => simp [intOf]; omega
                    · obtain rfl : j = k := by omega
                      have ht := H.out j hltK
                      have hs := HS.out j hltK
                      obtain ⟨hpre, hsh⟩ := cut_torn ts j q hltK hkq (by omega)
                      have hok := ht.ok hs hI.kept
                      generalize ts.getD j default = t at *
                      have hkp := hI.kept
                      have d0 := hkp.cell ht.ck (by simp)
                      have d1 := hkp.cell ht.cn (by simp)
                      have d2 := hkp.cell ht.cs (by simp)
                      have d3 := hkp.cell ht.cl (by simp)
                      have hF : ∀ lb off, t.a = some ⟨lb, off, none⟩ → t.ls ≠ [] → lb ∉ [r2] := fun lb off ha hn hm => by
                        have h1 := ht.src.lt lb off ha hn
                        simp at hm; omega
                      have hrd := read_torn wr r2 g2 cap2 (endAt ts j) ((allBytes ts).take q) hI.rat HYX.out (by omega) t hok hF hpre hsh
                      have HR := Lib.hid hrd; clear hrd hF hpre hsh ht hs
                      clear hI
                      generalize endAt ts (j + 1) = E at *
                      generalize endAt ts j = P at *
                      go_wp2_with fail
                      refine HR.out.mono ?_
                      rintro x w6 ⟨b, rfl, hb, hr6, hk6⟩
                      have hkp6 : Keeps [] w w6 := hkp.trans hk6 (fun g hg => .inr (by simp at hg; omega))
                      clear HR hb hk6 he d0 d1 d2 d3 hok
                      go_wp2_with fail
                      refine (Err_any _ _ _ cap2 _ _ 5 hr6).mono ?_
                      rintro x w7 ⟨rfl, rfl⟩
                      go_wp2_with fail
                      refine (At_any _ _ _ cap2 _ _ 5 hr6).mono ?_
                      rintro x w7 ⟨rfl, rfl⟩
                      go_wp2_with fail
                      refine (awake_true _).mono ?_
                      rintro x w7 ⟨rfl, hk7⟩
                      go_wp2_with fail
                      go_ret
                      exact ⟨rfl, hkp6.step hk7 (fun _ h => h)⟩
set_option maxHeartbeats 2000000 in
set_option maxRecDepth 100000 in
theorem back_empty (w : World) (a : Option Addr) (c : Nat) (cut : Int) :
    Calls Try.prog 6 #[.slice a 0 c, .int .u16 cut] w fun e w' => e = .returned (.bool true) ∧ Keeps [] w w' := by
  have hW := wat_new w
  have hk0 : Keeps [] w (w.alloc (.cells #[.slice none 0 0, .int .i64 0, .pointer none] 32)) := (Keeps.refl _ _).alloc _
  have hB := Bytes_any _ _ _ _ hW
  have eb' : (if (some [] : Option (List Int)).isSome then (0 : Int) else 3) = 0 := rfl
  have ew' : strOfNums ((some [] : Option (List Int)).getD []) = ⟨#[]⟩ := rfl
  rw [eb', ew'] at hB
  have HB := Lib.hid hB; clear hB hW eb' ew'
  have HK := Lib.hid hk0; clear hk0
  go_enter Try.func6, Try.ntmps6
  go_wp2_with fail
  refine (few_empty w a c).mono ?_
  rintro e w' ⟨b, rfl, hf, rfl⟩
  clear hf
  cases b with
  | false =>
    go_wp2_with fail
    refine (awake_true _).mono ?_
    rintro e w1 ⟨rfl, hk⟩
    go_wp2_with fail
    go_ret
    exact ⟨rfl, hk⟩
  | true =>
    go_wp2_with fail
    refine wp_loop_rounds 1 ?_
    rw [rounds_succ]
    go_wp2_with fail
    refine HB.out.mono ?_
    rintro e w1 ⟨rfl, rfl⟩
    have hk1 := HK.out.drew
    clear HB HK
    generalize (w.alloc (.cells #[.slice none 0 0, .int .i64 0, .pointer none] 32)).drew = X at *
    go_wp2_with fail
    refine (Over_any _ ⟨#[]⟩).mono ?_
    rintro x w3 ⟨rfl, ⟨cap, hR⟩, hk3⟩
    have en : nums ⟨#[]⟩ = [] := rfl
    rw [en] at hR
    have hkp := hk1.step hk3 (fun _ h => h)
    clear hk1 hk3 en
    generalize X.heap.size + 1 = r at *
    generalize X.heap.size = g at *
    go_wp2_with fail
    refine wp_loop_rounds 1 ?_
    rw [rounds_succ]
    go_wp2_with fail
    have hcl : closeOf 0 0 ([] : List Int).length = 0 := rfl
    have hC := fun n => Close_any _ _ _ cap 0 [] 0 (hR.drewN n) (by simp)
    rw [hcl] at hC
    have HC := Lib.hid hC; clear hC hcl hR
    refine (HC.out 0).mono ?_
    rintro x w4 ⟨rfl, n, rfl⟩
    have hd : (w3.drewN 0).drewN n = w3.drewN n := by simp [World.drewN]
    rw [hd]
    go_wp2_with fail
    refine (HC.out n).mono ?_
    rintro x w5 ⟨rfl, m, rfl⟩
    have hkp5 := hkp.drewN (n + m)
    clear HC hkp
    go_wp2_with fail
    refine (awake_true _).mono ?_
    rintro e w6 ⟨rfl, hk⟩
    go_wp2_with fail
    go_ret
    exact ⟨rfl, hkp5.step hk (fun _ h => h)⟩
end Go.Proofs.Ytchenofgmmgdmaa
