/-
  The document's reader: lists; when two lists are the same.
-/
import Derived.Test.YtchenofgmmgdmaaBh
import Derived.Test.YtchenofgmmgdmaaAn
namespace Go.Proofs.Ytchenofgmmgdmaa
open Go.RowKit
instance (xs : List Int) (p : Nat) : Decidable (LWhole xs p) := by unfold LWhole; infer_instance
def rlist (xs : List Int) (e : Int) (p : Nat) : List Int := if e = 0 ∧ LWhole xs p then lnums xs p else []
def rlErr (xs : List Int) (e : Int) (p : Nat) : Int := if e ≠ 0 then e else if LWhole xs p then 0 else 5
def rlPos (xs : List Int) (e : Int) (p : Nat) : Nat := if e = 0 ∧ LWhole xs p then p + 1 + 2 * (xs.getD p 0).toNat else p
/-- What a List leaves, of either reader. -/
def ListPost (ok : World → Prop) (ls : List Int) (r : Nat) (w : World) (x : Ending) (w' : World) : Prop :=
  ∃ v, x = .returned v ∧ w'.ownsRow 0 54 1 v ls.length (ls.map (.int .u16)) ∧ ok w' ∧ Keeps [r] w w' ∧ FSub (own v) [] w.heap.size
theorem lnums_length (xs : List Int) (p : Nat) : (lnums xs p).length = (xs.getD p 0).toNat := by simp [lnums]
theorem rl_whole {xs : List Int} {p : Nat} (h : LWhole xs p) : rlist xs 0 p = lnums xs p ∧ rlErr xs 0 p = 0 ∧ rlPos xs 0 p = p + 1 + 2 * (xs.getD p 0).toNat :=
  ⟨by rw [rlist, if_pos ⟨rfl, h⟩], by rw [rlErr, if_neg (by simp), if_pos h], by rw [rlPos, if_pos ⟨rfl, h⟩]⟩
theorem rl_torn {xs : List Int} {p : Nat} (h : ¬ LWhole xs p) : rlist xs 0 p = [] ∧ rlErr xs 0 p = 5 ∧ rlPos xs 0 p = p :=
  ⟨by rw [rlist, if_neg (fun g => h g.2)], by rw [rlErr, if_neg (by simp), if_neg h], by rw [rlPos, if_neg (fun g => h g.2)]⟩
theorem rl_err {xs : List Int} {p : Nat} {e : Int} (h : e ≠ 0) : rlist xs e p = [] ∧ rlErr xs e p = e ∧ rlPos xs e p = p :=
  ⟨by rw [rlist, if_neg (fun g => h g.1)], by rw [rlErr, if_pos h], by rw [rlPos, if_neg (fun g => h g.1)]⟩
theorem RList_any (w : World) (r g cap p : Nat) (xs : List Int) (e : Int) (h : RAt w r g cap xs e p) (hx : InU8 xs) (hl : xs.length ≤ 1000000) :
    Calls Try.prog 25 #[.pointer (some ⟨r, 0, none⟩)] w (ListPost (fun w' => RAt w' r g cap xs (rlErr xs e p) (rlPos xs e p)) (rlist xs e p) r w) := by
  by_cases he : e = 0
  · subst he
    by_cases hw : LWhole xs p
    · rw [(rl_whole hw).1, (rl_whole hw).2.1, (rl_whole hw).2.2]
      refine (RList_ok w r g cap p xs h hx hl hw).mono fun x w' ⟨v, hv, hr, hR, hk, hs⟩ => ?_
      exact ⟨v, hv, by rw [lnums_length]; exact hr, hR, hk, hs⟩
    · rw [(rl_torn hw).1, (rl_torn hw).2.1, (rl_torn hw).2.2]
      refine (RList_torn w r g cap p xs h hx hl hw).mono fun x w' ⟨hv, hR, hk⟩ => ?_
      exact ⟨_, hv, World.ownsRow_nil _ _ _ _, hR, hk, fun g hg => by simp [own_nil] at hg⟩
  · rw [(rl_err he).1, (rl_err he).2.1, (rl_err he).2.2]
    refine (RList_err w r g cap p xs e h he).mono fun x w' ⟨hv, hw⟩ => ?_
    subst hw
    exact ⟨_, hv, World.ownsRow_nil _ _ _ _, h, Keeps.refl _ _, fun g hg => by simp [own_nil] at hg⟩

set_option maxHeartbeats 1000000 in
theorem qList_err (w : World) (q p : Nat) (xs : List Int) (e : Int) (h : QAt w q xs e p) (he : e ≠ 0) :
    Calls Try.prog 34 #[.pointer (some ⟨q, 0, none⟩)] w fun x w' => x = .returned (.slice none 0 0) ∧ w = w' := by
  have h' := h
  unfold QAt at h'
  obtain ⟨c0, c1, c2, f0, f1, f2⟩ := cell3 h'
  clear h'
  have he2 : (e != 0) = true := by simpa using he
  generalize strOfNums (xs.drop p) = X at *
  go_enter Try.func34, Try.ntmps34
  go_wp2_with fail
  go_ret
  exact ⟨rfl, rfl⟩
set_option maxHeartbeats 1000000 in
theorem qList_torn (w : World) (q p : Nat) (xs : List Int) (h : QAt w q xs 0 p) (hx : InU8 xs) (hp : p ≤ xs.length) (hl : xs.length ≤ 1000000) (hw : ¬ LWhole xs p) :
    Calls Try.prog 34 #[.pointer (some ⟨q, 0, none⟩)] w fun x w' => x = .returned (.slice none 0 0) ∧ QAt w' q xs 5 p ∧ Keeps [q] w w' := by
  have h' := h
  unfold QAt at h'
  obtain ⟨c0, c1, c2, f0, f1, f2⟩ := cell3 h'
  have hs : (strOfNums (xs.drop p)).size = xs.length - p := by rw [strOfNums_size]; simp
  have HG : ∀ W : World, (∃ n, W = w.drewN n) → QAt (W.setCell ⟨q, 2, none⟩ (.int .i64 5)) q xs 5 p := fun W ⟨n, hW⟩ => by subst hW; exact set3_2 (w := w.drewN n) h' (.int .i64 5)
  have HH := Lib.hid HG; clear HG h'
  by_cases hp2 : p < xs.length
  · have hlS : 0 < (strOfNums (xs.drop p)).size := by omega
    have hbyte := byte_at (xs.drop p) (inu8_sub hx (fun c hc => List.mem_of_mem_drop hc)) 0 hlS
    have e0 : (xs.drop p).getD 0 0 = xs.getD p 0 := by simp [List.getD]
    rw [e0] at hbyte
    have hc := hx p
    have ht : ¬ p + 1 + 2 * (xs.getD p 0).toNat ≤ xs.length := fun h => hw ⟨hp2, h⟩
    generalize hN : xs.getD p 0 = C at *
    clear hN e0
    obtain ⟨N, rfl⟩ := Int.eq_ofNat_of_zero_le hc.1
    rw [Int.toNat_natCast] at ht
    have hN2 : (N : Int) < 256 := hc.2
    have g1 : ¬ ((strOfNums (xs.drop p)).size : Int) < 1 := by omega
    have g2 : ((strOfNums (xs.drop p)).size : Int) < 1 + 2 * (N : Int) := by omega
    have g1' : decide (((strOfNums (xs.drop p)).size : Int) < 1) = false := by simpa using g1
    clear hs hc ht
    generalize strOfNums (xs.drop p) = X at *
    go_enter Try.func34, Try.ntmps34
    go_wp2_with fail
    go_quiet (fail)
    have hQ := HH.out (w.drewN nq) ⟨nq, rfl⟩
    have HQ := Lib.hid hQ; clear hQ
    have hk : Keeps [q] w (w.drewN nq) := (Keeps.refl _ _).drewN _
    have d2 : (w.drewN nq).cell? ⟨q, 2, none⟩ = some (.int .i64 0) := c2
    have z2 : (w.drewN nq).frozen? ⟨q, 2, none⟩ = false := f2
    clear c0 c1 c2 f0 f1 f2
    generalize w.drewN nq = w1 at *
    go_wp2_with fail
    go_ret
    exact ⟨rfl, HQ.out, hk.setCell _ _ (by simp)⟩
  · have g1 : ((strOfNums (xs.drop p)).size : Int) < 1 := by omega
    have g1' : decide (((strOfNums (xs.drop p)).size : Int) < 1) = true := by simpa using g1
    clear hs
    generalize strOfNums (xs.drop p) = X at *
    go_enter Try.func34, Try.ntmps34
    go_wp2_with fail
    go_quiet (fail)
    have hQ := HH.out (w.drewN nq) ⟨nq, rfl⟩
    have HQ := Lib.hid hQ; clear hQ
    have hk : Keeps [q] w (w.drewN nq) := (Keeps.refl _ _).drewN _
    have d2 : (w.drewN nq).cell? ⟨q, 2, none⟩ = some (.int .i64 0) := c2
    have z2 : (w.drewN nq).frozen? ⟨q, 2, none⟩ = false := f2
    clear c0 c1 c2 f0 f1 f2
    generalize w.drewN nq = w1 at *
    go_wp2_with fail
    go_ret
    exact ⟨rfl, HQ.out, hk.setCell _ _ (by simp)⟩
theorem numOf_2' (xs : List Int) (q j : Nat) (h : q + 2 * j + 2 ≤ xs.length) : rdVal 2 xs 0 (q + 2 * j) = lnum xs q j := by
  rw [rdVal, if_pos ⟨rfl, h⟩, numOf_2 xs (q + 2 * j) h]
  rfl
/-- What the document's loop has gathered. -/
structure QGath (w wr : World) (q : Nat) (xs : List Int) (p k : Nat) (v : Value) : Prop where
  qat : QAt wr q xs 0 (p + 1 + 2 * k)
  row : wr.ownsRow 0 54 1 v k (((List.range k).map (lnum xs (p + 1))).map (.int .u16))
  kept : Keeps [q] w wr
  sub : FSub (own v) [] w.heap.size
set_option maxHeartbeats 2000000 in
set_option maxRecDepth 100000 in
theorem qList_ok (w : World) (q p : Nat) (xs : List Int) (h : QAt w q xs 0 p) (hx : InU8 xs) (hl : xs.length ≤ 1000000) (hw : LWhole xs p) :
    Calls Try.prog 34 #[.pointer (some ⟨q, 0, none⟩)] w fun x w' => ∃ v, x = .returned v ∧ QGath w w' q xs p (xs.getD p 0).toNat v := by
  have h' := h
  unfold QAt at h'
  obtain ⟨c0, c1, c2, f0, f1, f2⟩ := cell3 h'
  obtain ⟨i0, hi, hz0, hz1, hz2⟩ := info_parts Try.info16
  obtain ⟨hp2, ht⟩ := hw
  have hs : (strOfNums (xs.drop p)).size = xs.length - p := by rw [strOfNums_size]; simp
  clear h'
  have hlS : 0 < (strOfNums (xs.drop p)).size := by omega
  have hbyte := byte_at (xs.drop p) (inu8_sub hx (fun c hc => List.mem_of_mem_drop hc)) 0 hlS
  have e0 : (xs.drop p).getD 0 0 = xs.getD p 0 := by simp [List.getD]
  rw [e0] at hbyte
  have hc := hx p
  have h1 := fun w' (h' : QAt w' q xs 0 p) => qNumber_any w' q p xs 0 h' hx (by omega) hl 1 (by omega)
  have v1 : rdVal 1 xs 0 p = xs.getD p 0 := by rw [rdVal, if_pos ⟨rfl, hp2⟩, numOf_1 xs p hp2]; rfl
  have v2 : rdErr 1 xs 0 p = 0 := by simp [rdErr]; omega
  have v3 : rdPos 1 xs 0 p = p + 1 := by rw [rdPos, if_pos ⟨rfl, hp2⟩]
  rw [v1, v2, v3] at h1
  clear v1 v2 v3
  generalize hN : xs.getD p 0 = C at *
  clear hN e0
  obtain ⟨m, rfl⟩ := Int.eq_ofNat_of_zero_le hc.1
  rw [Int.toNat_natCast] at *
  have hN2 : (m : Int) < 256 := hc.2
  have g1 : ¬ ((strOfNums (xs.drop p)).size : Int) < 1 := by omega
  have g2 : ¬ ((strOfNums (xs.drop p)).size : Int) < 1 + 2 * (m : Int) := by omega
  have g1' : decide (((strOfNums (xs.drop p)).size : Int) < 1) = false := by simpa using g1
  clear hs hc
  have H1 := Lib.hid h1; clear h1
  have HX := Lib.hid hx; clear hx
  have HQ := Lib.hid h; clear h
  generalize hX : strOfNums (xs.drop p) = X at *
  clear hX
  go_enter Try.func34, Try.ntmps34
  go_wp2_with fail
  go_quiet (fail)
  have hq1 : QAt (w.drewN nq) q xs 0 p := HQ.out
  have hk : Keeps [q] w (w.drewN nq) := (Keeps.refl _ _).drewN _
  clear c0 c1 c2 f0 f1 f2 hbyte g1' HQ
  generalize w.drewN nq = w1 at *
  go_wp2_with fail
  refine (H1.out _ hq1).mono ?_
  rintro y w2 ⟨rfl, hq2, hk2⟩
  have i1 : QGath w w2 q xs p 0 (.slice none 0 0) := ⟨hq2, by simpa using World.ownsRow_nil _ _ _ _, hk.step hk2 (fun _ h => h), fun g hg => by simp [own_nil] at hg⟩
  clear hq1 hk hq2 hk2 H1
  go_wp2_with fail
  go_loopw [4, 5, 6] (fun v i _ wr => ∃ k : Nat, k ≤ m ∧ i = .int .i64 k ∧ QGath w wr q xs p k v) (fun _ i _ _ => m - (intOf i).toNat)
  case atStart => exact ⟨0, Nat.zero_le _, rfl, i1⟩
  case round =>
    obtain ⟨k, hkk, rfl, hI⟩ := hrel
    by_cases hlt : k < m
    · have hq := hI.qat
      have hle : p + 1 + 2 * k + 2 ≤ xs.length := by omega
      have hn := qNumber_any wr q (p + 1 + 2 * k) xs 0 hq HX.out (by omega) hl 2 (by omega)
      have v2 : rdErr 2 xs 0 (p + 1 + 2 * k) = 0 := by simp [rdErr]; omega
      have v3 : rdPos 2 xs 0 (p + 1 + 2 * k) = p + 1 + 2 * (k + 1) := by rw [rdPos, if_pos ⟨rfl, hle⟩]; omega
      rw [numOf_2' xs (p + 1) k hle, v2, v3] at hn
      have b0 := HX.out (p + 1 + 2 * k)
      have b1 := HX.out (p + 1 + 2 * k + 1)
      have y0 : 0 ≤ lnum xs (p + 1) k := by unfold lnum; omega
      have y1 : lnum xs (p + 1) k < 65536 := by unfold lnum; omega
      have hne := row_ne hI.row hq (by decide)
      clear v2 v3 b0 b1 hq
      have HN := Lib.hid hn; clear hn
      have hrow := hI.row
      have hkp := hI.kept
      have hsub := hI.sub
      have e3 : ((List.range (k + 1)).map (lnum xs (p + 1))).map (Value.int .u16) = ((List.range k).map (lnum xs (p + 1))).map (.int .u16) ++ [.int .u16 (lnum xs (p + 1) k)] := by simp [List.range_succ]
      have E3 := Lib.hid e3; clear e3 hI
      generalize lnum xs (p + 1) k = Y at *
      go_wp2_with fail
      refine HN.out.mono ?_
      rintro y w3 ⟨rfl, hq3, hk3⟩
      have hrow3 := hk3.row hrow (fun g hg => by simpa using hne g hg)
      have hQ3 := Lib.hid hq3; clear hq3 HN hrow
      have z3 := hk3.size
      have z4 := hkp.size
      have y2 : Y % 65536 = Y := by omega
      go_wp2_with (at_builtin; refine wpList_append_sharp _ rfl _ _ 36 rfl 54 i0 (.int .u16 0) 2 Try.underlying36 hi hz0 hz1 hz2 rfl _ k _ rfl (hrow3.alloc _) ⟨w3.heap.size, 0, none⟩ 1 1 [.int .u16 Y] rfl rfl ?c1 ?c2 ?c3 ?c4 ?_)
      case c1 => exact one_new _ _ _
      case c2 => intro u hu; simp at hu; subst hu; rfl
      case c3 => unfold maxLen; omega
      case c4 => omega
      intro v4 w4 hrow4 hk4 hs4 _
      have hsub4 : FSub (own v4) [] w.heap.size := hs4.trans hsub (by omega) (Nat.le_refl _)
      have hk5 : Keeps [q] w w4 := ((hkp.step hk3 (fun _ h => h)).alloc _).trans hk4 (fun g hg => (hsub g hg).imp (fun h => by simp at h) id)
      have hq5 : QAt w4 q xs 0 (p + 1 + 2 * (k + 1)) := by
        have := hQ3.out
        unfold QAt at this ⊢
        exact hk4.heap (heap_alloc_lt this) (fun hm => hne q hm rfl)
      have hG : QGath w w4 q xs p (k + 1) v4 := ⟨hq5, by rw [E3.out, List.map_map]; exact hrow4, hk5, hsub4⟩
      clear hrow4 hk4 hs4 hsub4 hk5 hq5 hrow3 hkp hk3 y2
      go_wp2_with fail
      go_roundw
      case rel => exact ⟨k + 1, by omega, by go_num, hG⟩
      case measure => simp [intOf]; omega
    · obtain rfl : k = m := by omega
      go_wp2_with fail
      go_ret
      exact ⟨_, rfl, hI⟩
theorem qList_any (w : World) (q p : Nat) (xs : List Int) (e : Int) (h : QAt w q xs e p) (hx : InU8 xs) (hp : p ≤ xs.length) (hl : xs.length ≤ 1000000) :
    Calls Try.prog 34 #[.pointer (some ⟨q, 0, none⟩)] w (ListPost (fun w' => QAt w' q xs (rlErr xs e p) (rlPos xs e p)) (rlist xs e p) q w) := by
  by_cases he : e = 0
  · subst he
    by_cases hw : LWhole xs p
    · rw [(rl_whole hw).1, (rl_whole hw).2.1, (rl_whole hw).2.2]
      refine (qList_ok w q p xs h hx hl hw).mono fun x w' ⟨v, hv, hG⟩ => ?_
      exact ⟨v, hv, by rw [lnums_length]; exact hG.row, hG.qat, hG.kept, hG.sub⟩
    · rw [(rl_torn hw).1, (rl_torn hw).2.1, (rl_torn hw).2.2]
      refine (qList_torn w q p xs h hx hp hl hw).mono fun x w' ⟨hv, hR, hk⟩ => ?_
      exact ⟨_, hv, World.ownsRow_nil _ _ _ _, hR, hk, fun g hg => by simp [own_nil] at hg⟩
  · rw [(rl_err he).1, (rl_err he).2.1, (rl_err he).2.2]
    refine (qList_err w q p xs e h he).mono fun x w' ⟨hv, hw⟩ => ?_
    subst hw
    exact ⟨_, hv, World.ownsRow_nil _ _ _ _, h, Keeps.refl _ _, fun g hg => by simp [own_nil] at hg⟩
/-- A slice's cells, as Same reads them. -/
def SrcAt (w : World) (a : Option Addr) (ls : List Int) : Prop := ls = [] ∨ ∃ lb off, a = some ⟨lb, off, none⟩ ∧ ∀ j, j < ls.length → w.cell? ⟨lb, off + j, none⟩ = some (.int .u16 (ls.getD j 0))
set_option maxHeartbeats 1000000 in
set_option maxRecDepth 100000 in
theorem same_some (w : World) (ba oa ca bb ob cb : Nat) (ls : List Int) (ha : ∀ j, j < ls.length → w.cell? ⟨ba, oa + j, none⟩ = some (.int .u16 (ls.getD j 0))) (hb : ∀ j, j < ls.length → w.cell? ⟨bb, ob + j, none⟩ = some (.int .u16 (ls.getD j 0))) (hl : ls.length ≤ 1000000) :
    Calls Try.prog 33 #[.slice (some ⟨ba, oa, none⟩) ls.length ca, .slice (some ⟨bb, ob, none⟩) ls.length cb] w fun x w' => x = .returned (.bool true) ∧ Keeps [] w w' := by
  have HA := Lib.hid ha; have HB := Lib.hid hb; clear ha hb
  go_enter Try.func33, Try.ntmps33
  go_wp2_with fail
  go_loopw [5] (fun i wr => ∃ k : Nat, k ≤ ls.length ∧ i = .int .i64 k ∧ Keeps [] w wr) (fun i _ => ls.length - (intOf i).toNat)
  case atStart => exact ⟨0, Nat.zero_le _, rfl, Keeps.refl _ _⟩
  case round =>
    obtain ⟨k, hk, rfl, hkp⟩ := hrel
    by_cases hlt : k < ls.length
    · have c0 := hkp.cell (HA.out k hlt) (by simp)
      have c1 := hkp.cell (HB.out k hlt) (by simp)
      generalize ls.getD k 0 = Y at *
      have g1 : (k : Int) < (ls.length : Int) := by omega
      go_wp2_with fail
      go_quiet (fail)
      have hk2 := hkp.drewN nq
      clear c0 c1 hkp
      generalize wr.drewN nq = w2 at *
      go_wp2_with fail
      go_roundw
      case rel => exact ⟨k + 1, by omega, by go_num, hk2⟩
      case measure => simp [intOf]; omega
    · obtain rfl : k = ls.length := by omega
      go_wp2_with fail
      go_ret
      exact ⟨rfl, hkp⟩
set_option maxHeartbeats 1000000 in
theorem same_empty (w : World) (a b : Option Addr) (ca cb : Nat) :
    Calls Try.prog 33 #[.slice a 0 ca, .slice b 0 cb] w fun x w' => x = .returned (.bool true) ∧ Keeps [] w w' := by
  go_enter Try.func33, Try.ntmps33
  go_wp2_with fail
  refine wp_loop_rounds 1 ?_
  rw [rounds_succ]
  go_wp2_with fail
  go_ret
  exact ⟨rfl, Keeps.refl _ _⟩
theorem same_any (w : World) (a b : Option Addr) (na nb ca cb : Nat) (ls : List Int) (hna : na = ls.length) (hnb : nb = ls.length) (ha : SrcAt w a ls) (hb : SrcAt w b ls) (hl : ls.length ≤ 1000000) :
    Calls Try.prog 33 #[.slice a na ca, .slice b nb cb] w fun x w' => x = .returned (.bool true) ∧ Keeps [] w w' := by
  subst hna hnb
  rcases ha with rfl | ⟨ba, oa, rfl, ha⟩
  · exact same_empty w a b ca cb
  · rcases hb with rfl | ⟨bb, ob, rfl, hb⟩
    · exact same_empty w _ _ ca cb
    · exact same_some w ba oa ca bb ob cb ls ha hb hl
theorem row_srcAt {w : World} {v : Value} {n : Nat} {ls : List Int} (hr : w.ownsRow 0 54 1 v n (ls.map (.int .u16))) : ∃ a c, v = .slice a ls.length c ∧ SrcAt w a ls := by
  have hl : ls.length = n := by simpa using hr.1
  have hr' := hr
  rcases hr.2 with ⟨rfl, rfl⟩ | ⟨g, cap, cur, rfl, _⟩
  · exact ⟨none, 0, by rw [hl], .inl (List.eq_nil_of_length_eq_zero hl)⟩
  · refine ⟨_, cap, by rw [hl], .inr ⟨g, 0, rfl, fun j hj => ?_⟩⟩
    have := hr'.cells (g := g) rfl j (.int .u16 (ls.getD j 0)) (by simp [hj, List.getD])
    have ha : ((⟨g, 0, none⟩ : Addr).add j) = ⟨g, 0 + j, none⟩ := by unfold Addr.add; split <;> simp_all
    rw [ha] at this
    exact this
end Go.Proofs.Ytchenofgmmgdmaa
