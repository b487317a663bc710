/-
  CodecWrites: its walk.
-/
import Derived.Test.YtchenofgmmgdmaaBe
namespace Go.Proofs.Ytchenofgmmgdmaa
open Go.RowKit
/-- What holds at a round's head: the writer and what is wanted of it. -/
structure WInv (w wr : World) (B k : Nat) (F : List Nat) (st : Option (List Int)) : Prop where
  wat : WAt wr B F st
  kept : Keeps [] w wr
  sub : FSub F [] w.heap.size
  short : ∀ xs, st = some xs → xs.length ≤ k * 600
theorem Ths.lt {w : World} {lb off : Nat} {ts : List LT} (h : Ths w lb off ts) {i : Nat} (hi : i < ts.length) : lb < w.heap.size := World.block_lt_of_cell? w _ (h i hi).ck
theorem Src16.lt {w : World} {a : Option Addr} {ls : List Int} (h : Src16 w a ls) : ∀ lb off, a = some ⟨lb, off, none⟩ → ls ≠ [] → lb < w.heap.size := by
  intro lb off ha hn
  rcases h with h | ⟨lb', off', ha', hc⟩
  · exact absurd h hn
  · rw [ha] at ha'
    cases ha'
    have hl : 0 < ls.length := List.length_pos_iff.2 hn
    exact World.block_lt_of_cell? w _ (hc 0 hl)
theorem thBytes_length (t : LT) (h : Small t) (hb : ¬ ThBad t) : (thBytes t).length ≤ 600 := by
  obtain ⟨h1, h2⟩ := h
  unfold thBytes
  split
  · simp [be1]
  · split
    · simp [be2]
    · split
      · simp [be4]
      · split
        · rw [nums_length]; omega
        · rename_i g0 g1 g2 g3
          rw [length_beList]
          have : ¬ 255 < t.ls.length := fun h => hb ⟨g0, g1, g2, g3, h⟩
          omega
theorem WInv.next {w wr w1 : World} {B k : Nat} {F F' : List Nat} {st st' : Option (List Int)} (h : WInv w wr B k F st) (hw : WAt w1 B F' st') (hk : Keeps F wr w1) (hs : FSub F' F wr.heap.size) (hsh : ∀ xs, st' = some xs → xs.length ≤ (k + 1) * 600) : WInv w w1.drew B (k + 1) F' st' :=
  ⟨by
    have := hw.keeps (G := []) (Keeps.refl [] w1).drew (by simp)
    exact this, (h.kept.trans hk h.sub).drew, hs.trans h.sub h.kept.size (Nat.le_refl _), hsh⟩
set_option maxHeartbeats 2000000 in
set_option maxRecDepth 100000 in
theorem writes_some (w : World) (lb off c : Nat) (ts : List LT) (h : Ths w lb off ts) (hl : ts.length ≤ 9223372036854775807) :
    Calls Try.prog 3 #[.slice (some ⟨lb, off, none⟩) ts.length c] w fun e w' => e = .returned (.bool true) ∧ Keeps [] w w' := by
  have H := Lib.hid h; clear h
  go_enter Try.func3, Try.ntmps3
  go_wp2_with fail
  refine (few_some w lb off c ts H.out hl).mono ?_
  rintro e w' ⟨b, rfl, hf, rfl⟩
  cases b with
  | false =>
    clear hf
    go_wp2_with fail
    refine (awake_true _).mono ?_
    rintro e w1 ⟨rfl, hk⟩
    go_wp2_with fail
    go_ret
    exact ⟨rfl, hk⟩
  | true =>
    obtain ⟨h50, hsm⟩ := hf rfl
    clear hf
    have HS := Lib.hid hsm; clear hsm
    have i0 : WInv w (w.alloc (.cells #[.slice none 0 0, .int .i64 0, .pointer none] 32)) w.heap.size 0 [w.heap.size] (some []) :=
      ⟨wat_new w, (Keeps.refl _ _).alloc _, fun g hg => .inr (by simp at hg; omega), fun xs e => by cases e; simp⟩
    go_wp2_with fail
    go_loopw [4, 5, 6, 7, 8, 9, 10] (fun want err i _ _ _ _ wr => ∃ (k : Nat) (F : List Nat) (st : Option (List Int)), k ≤ ts.length ∧ i = .int .i64 k ∧ want = .string (strOfNums (st.getD [])) ∧ err = .int .i64 (if st.isSome then 0 else 3) ∧ WInv w wr w.heap.size k F st)
      (fun _ _ i _ _ _ _ _ => ts.length - (intOf i).toNat)
    case atStart => exact ⟨0, [w.heap.size], some [], Nat.zero_le _, rfl, rfl, rfl, i0⟩
    case round =>
      obtain ⟨k, F, st, hk, rfl, rfl, rfl, hI⟩ := hrel
      by_cases hlt : k < ts.length
      · have ht := H.out k hlt
        have hs := HS.out k hlt
        have hL := H.out.lt hlt
        generalize ts.getD k default = t at *
        obtain ⟨ck, cn, cs, cl, hsrc, hin, k0, k1, n0, n1, _, _⟩ := ht
        have hkp := hI.kept
        have d0 := hkp.cell ck (by simp)
        have d1 := hkp.cell cn (by simp)
        have d2 := hkp.cell cs (by simp)
        have d3 := hkp.cell cl (by simp)
        have hF : ∀ lb off, t.a = some ⟨lb, off, none⟩ → t.ls ≠ [] → lb ∉ F := fun lb off ha hn hm => by
          have h1 := hsrc.lt lb off ha hn
          rcases hI.sub lb hm with h2 | h2
          · simp at h2
          · omega
        have hput := put_any wr w.heap.size F st hI.wat t k0 n0 n1 (hsrc.keeps hkp (fun _ _ _ _ => by simp)) hF hin hs (fun xs e => by have := hI.short xs e; omega)
        have HP := Lib.hid hput; clear hput hF ck cn cs cl hsrc
        have HIn := Lib.hid hin; clear hin
        cases st with
        | none =>
          have ew : strOfNums ((none : Option (List Int)).getD []) = ⟨#[]⟩ := rfl
          have eb : (if (none : Option (List Int)).isSome then (0 : Int) else 3) = 3 := rfl
          rw [ew, eb]
          go_wp2_with fail
          refine HP.out.mono ?_
          rintro e w1 ⟨F', hd, hk', hs'⟩
          obtain ⟨S, er, rfl, hW⟩ : ∃ S er, e = .returned (.tuple #[.string S, .int .i64 er]) ∧ WAt w1 w.heap.size F' none := by
            rcases hd with ⟨h1, _, h2⟩ | ⟨h1, _, h2⟩
            · exact ⟨_, _, h2, h1⟩
            · exact ⟨_, _, h2, h1⟩
          have hB := Bytes_any _ _ _ _ hW
          rw [ew, eb] at hB
          have HB := Lib.hid hB; clear hB hd ew eb
          go_wp2_with fail
          refine HB.out.mono ?_
          rintro e w2 ⟨rfl, rfl⟩
          have hN := hI.next hW hk' hs' (fun xs e => by cases e)
          clear HB HP
          go_wp2_with fail
          go_roundw
          case rel => exact ⟨k + 1, F', none, by omega, by go_num, rfl, rfl, hN⟩
          case measure => simp [intOf]; omega
        | some xs =>
          have eb : (if (some xs : Option (List Int)).isSome then (0 : Int) else 3) = 0 := rfl
          have ew : (some xs : Option (List Int)).getD [] = xs := rfl
          rw [ew, eb]
          have hsz := hI.short xs rfl
          have hsz1 : (strOfNums xs).size ≤ 30000 := by rw [strOfNums_size]; omega
          by_cases hbad : ThBad t
          · go_wp2_with fail
            refine HP.out.mono ?_
            rintro e w1 ⟨F', hd, hk', hs'⟩
            obtain ⟨rfl, hW⟩ : e = .returned (.tuple #[.string ⟨#[]⟩, .int .i64 3]) ∧ WAt w1 w.heap.size F' none := by
              rcases hd with ⟨_, h1, _⟩ | ⟨h1, _, h2⟩
              · exact absurd hbad h1
              · exact ⟨h2, h1⟩
            have hB := Bytes_any _ _ _ _ hW
            have ew' : strOfNums ((none : Option (List Int)).getD []) = ⟨#[]⟩ := rfl
            have eb' : (if (none : Option (List Int)).isSome then (0 : Int) else 3) = 3 := rfl
            rw [ew', eb'] at hB
            have HB := Lib.hid hB; clear hB hd ew eb ew' eb'
            have hN := hI.next hW hk' hs' (fun xs e => by cases e)
            have HN := Lib.hid hN; clear hN hI
            generalize strOfNums xs = X at *
            go_wp2_with fail
            refine HB.out.mono ?_
            rintro e w2 ⟨rfl, rfl⟩
            clear HB HP
            go_wp2_with fail
            go_roundw
            case rel => exact ⟨k + 1, F', none, by omega, by go_num, rfl, rfl, HN.out⟩
            case measure => simp [intOf]; omega
          · go_wp2_with fail
            refine HP.out.mono ?_
            rintro e w1 ⟨F', hd, hk', hs'⟩
            obtain ⟨rfl, hW⟩ : e = .returned (.tuple #[.string (strOfNums (thBytes t)), .int .i64 0]) ∧ WAt w1 w.heap.size F' (some (xs ++ thBytes t)) := by
              rcases hd with ⟨h1, _, h2⟩ | ⟨_, h1, _⟩
              · exact ⟨h2, h1⟩
              · exact absurd h1 hbad
            have hlen := thBytes_length t hs hbad
            have hB := Bytes_any _ _ _ _ hW
            have ew' : strOfNums ((some (xs ++ thBytes t) : Option (List Int)).getD []) = strOfNums xs ++ strOfNums (thBytes t) := strOfNums_append _ _
            have eb' : (if (some (xs ++ thBytes t) : Option (List Int)).isSome then (0 : Int) else 3) = 0 := rfl
            rw [ew', eb'] at hB
            have HB := Lib.hid hB; clear hB hd ew eb eb'
            have hN := hI.next hW hk' hs' (fun ys e => by cases e; rw [List.length_append]; omega)
            have HN := Lib.hid hN; clear hN hI
            have EW := Lib.hid ew'; clear ew'
            have hsz2 : (strOfNums (thBytes t)).size ≤ 600 := by rw [strOfNums_size]; exact hlen
            generalize strOfNums xs = X at *
            generalize strOfNums (thBytes t) = Y at *
            go_wp2_with fail
            refine HB.out.mono ?_
            rintro e w2 ⟨rfl, rfl⟩
            clear HB HP
            go_wp2_with fail
            go_roundw
            case rel => exact ⟨k + 1, F', some (xs ++ thBytes t), by omega, by go_num, by rw [EW.out], rfl, HN.out⟩
            case measure => simp [intOf]; omega
      · obtain rfl : k = ts.length := by omega
        generalize strOfNums (st.getD []) = X at *
        generalize (if st.isSome then (0 : Int) else 3) = E at *
        have hkp := hI.kept
        clear hI
        go_wp2_with fail
        refine (awake_true _).mono ?_
        rintro e w1 ⟨rfl, hk⟩
        go_wp2_with fail
        go_ret
        exact ⟨rfl, hkp.step hk (fun _ h => h)⟩
set_option maxHeartbeats 2000000 in
set_option maxRecDepth 100000 in
theorem writes_empty (w : World) (a : Option Addr) (c : Nat) :
    Calls Try.prog 3 #[.slice a 0 c] w fun e w' => e = .returned (.bool true) ∧ Keeps [] w w' := by
  have hk0 : Keeps [] w (w.alloc (.cells #[.slice none 0 0, .int .i64 0, .pointer none] 32)) := (Keeps.refl _ _).alloc _
  go_enter Try.func3, Try.ntmps3
  go_wp2_with fail
  refine (few_empty w a c).mono ?_
  rintro e w' ⟨b, rfl, hf, rfl⟩
  clear hf
  cases b with
  | false =>
    go_wp2_with fail
    refine (awake_true _).mono ?_
    rintro e w1 ⟨rfl, hk⟩
    go_wp2_with fail
    go_ret
    exact ⟨rfl, hk⟩
  | true =>
    go_wp2_with fail
    refine wp_loop_rounds 1 ?_
    rw [rounds_succ]
    go_wp2_with fail
    refine (awake_true _).mono ?_
    rintro e w1 ⟨rfl, hk⟩
    go_wp2_with fail
    go_ret
    exact ⟨rfl, hk0.step hk (fun _ h => h)⟩
end Go.Proofs.Ytchenofgmmgdmaa
