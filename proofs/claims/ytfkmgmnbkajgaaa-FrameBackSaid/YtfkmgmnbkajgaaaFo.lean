/-
  The document's cutter.
-/
import Derived.Test.YtfkmgmnbkajgaaaFn
import Derived.LoopTactic
namespace Go.Proofs.Ytfkmgmnbkajgaaa
open Go.RowKit
theorem size_le (l : List UInt8) : sizeOf1 l ≤ l.length := by
  by_cases h : tellOf l = 1
  · exact (size_one h).2.2.1
  · rw [(size_none h).1]; omega
/-- Where the frame of a number begins. -/
def posOf (L : List UInt8) : Nat → Nat
  | 0 => 0
  | k + 1 => posOf L k + sizeOf1 (L.drop (posOf L k))
theorem posOf_le (L : List UInt8) (k : Nat) : posOf L k ≤ L.length := by
  induction k with
  | zero => exact Nat.zero_le _
  | succ k ih =>
    have := size_le (L.drop (posOf L k))
    simp only [List.length_drop] at this
    rw [posOf]; omega
/-- So many frames are there. -/
def Cuts (L : List UInt8) (n : Nat) : Prop := ∀ k, k < n → tellOf (L.drop (posOf L k)) = 1
theorem Cuts.app {L : List UInt8} {n : Nat} (h : Cuts L n) (m : List UInt8) : ∀ k, k ≤ n → posOf (L ++ m) k = posOf L k := by
  intro k
  induction k with
  | zero => intro _; rfl
  | succ k ih =>
    intro hk
    have e := ih (by omega)
    have t := h k (by omega)
    rw [posOf, posOf, e, List.drop_append_of_le_length (posOf_le L k), (pay_app _ m t).2]
theorem Cuts.more {L : List UInt8} {n : Nat} (h : Cuts L n) (m : List UInt8) : Cuts (L ++ m) n := by
  intro k hk
  have t := h k hk
  rw [h.app m k (by omega), List.drop_append_of_le_length (posOf_le L k), tell_app _ m (by omega), t]
theorem Cuts.succ {L : List UInt8} {n : Nat} (h : Cuts L n) (t : tellOf (L.drop (posOf L n)) = 1) : Cuts L (n + 1) := by
  intro k hk
  by_cases e : k = n
  · subst e; exact t
  · exact h k (by omega)
/-- The document's cutter at block q. -/
def RC (w : World) (q : Nat) (T : ByteArray) (n : Nat) : Prop := w.heap[q]? = some (.cells #[.string T, .int .i64 n] 39 (0, 0))
theorem RC.cells {w : World} {q n : Nat} {T : ByteArray} (h : RC w q T n) : w.cell? ⟨q, 0, none⟩ = some (.string T) ∧ w.cell? ⟨q, 1, none⟩ = some (.int .i64 n) ∧ w.frozen? ⟨q, 0, none⟩ = false ∧ w.frozen? ⟨q, 1, none⟩ = false := by
  unfold RC at h
  refine ⟨?_, ?_, ?_, ?_⟩ <;> simp [World.cell?, World.frozen?, h]
theorem RC.keeps {w w' : World} {q n : Nat} {T : ByteArray} {F : List Nat} (h : RC w q T n) (hk : Keeps F w w') (hq : q ∉ F) : RC w' q T n := hk.heap h hq
theorem RC.set0 {w : World} {q n : Nat} {T U : ByteArray} (h : RC w q T n) : RC (w.setCell ⟨q, 0, none⟩ (.string U)) q U n := by
  unfold RC; rw [heap_setCell_same w q 0 _ 39 _ h]; rfl
theorem RC.set1 {w : World} {q n : Nat} {T : ByteArray} (h : RC w q T n) : RC (w.setCell ⟨q, 1, none⟩ (.int .i64 ((n : Int) + 1))) q T (n + 1) := by
  unfold RC; rw [heap_setCell_same w q 1 _ 39 _ h]; rfl
theorem First_at (w : World) (T : ByteArray) (p : Nat) (hs : T.size ≤ 1000000) :
    Calls Try.prog 29 #[.string (T.extract p T.size)] w fun e w' => e = .returned (.tuple #[.string (bs (payOf (T.data.toList.drop p))), .int .i64 (sizeOf1 (T.data.toList.drop p)), .int .i64 (tellOf (T.data.toList.drop p))]) ∧ Keeps [] w w' := by
  have h := First_any w (T.extract p T.size) (by rw [ByteArray.size_extract]; omega)
  rw [rest_list] at h
  exact h
set_option maxHeartbeats 2000000 in
theorem rNext_any (w : World) (q n : Nat) (T : ByteArray) (p t : Nat) (s : ByteArray) (h : RC w q T n) (hl : T.size ≤ 1000000) (hn : n ≤ 1000000) (hp : posOf T.data.toList n = p) (ht : tellOf (T.data.toList.drop p) = t) (hs : bs (payOf (T.data.toList.drop p)) = s) :
    Calls Try.prog 18 #[.pointer (some ⟨q, 0, none⟩)] w fun e w' => e = .returned (.tuple #[.string s, .int .i64 p, .int .i64 t]) ∧ RC w' q T (if t = 1 then n + 1 else n) ∧ Keeps [q] w w' := by
  have hlen : T.data.toList.length = T.size := by simp
  have hple : ∀ k, posOf T.data.toList k ≤ T.size := fun k => by rw [← hlen]; exact posOf_le _ _
  have HPL := Lib.hid hple; clear hple
  have HP := Lib.hid hp; clear hp
  have HT := Lib.hid ht; clear ht
  have HS := Lib.hid hs; clear hs
  have HLEN := Lib.hid hlen; clear hlen
  obtain ⟨c0, c1, f0, f1⟩ := h.cells
  go_enter Try.func18, Try.ntmps18
  go_wp2_with fail
  go_loopw [5, 6] (fun at_ i wr => ∃ k : Nat, k ≤ n ∧ i = .int .i64 k ∧ at_ = .int .i64 (posOf T.data.toList k) ∧ Keeps [] w wr)
    (fun _ i _ => n - (intOf i).toNat)
  case atStart => exact ⟨0, Nat.zero_le _, rfl, rfl, Keeps.refl _ _⟩
  case round =>
    obtain ⟨k, hk, rfl, rfl, hkp⟩ := hrel
    clear c0 c1 f0 f1
    have hr := h.keeps hkp (by simp)
    obtain ⟨c0, c1, f0, f1⟩ := hr.cells
    have hRP : Keeps [q] w wr := hkp.more (by simp)
    by_cases hlt : k < n
    · have hj := HPL.out k
      have hsz := size_le (T.data.toList.drop (posOf T.data.toList k))
      have hz : sizeOf1 (T.data.toList.drop (posOf T.data.toList k)) ≤ 1000000 := by
        simp only [List.length_drop] at hsz; have := HLEN.out; omega
      have hF := First_at wr T (posOf T.data.toList k) hl
      have HN : Hid (posOf T.data.toList (k + 1) = posOf T.data.toList k + sizeOf1 (T.data.toList.drop (posOf T.data.toList k))) := Lib.hid rfl
      clear hsz
      generalize sizeOf1 (T.data.toList.drop (posOf T.data.toList k)) = z at *
      generalize tellOf (T.data.toList.drop (posOf T.data.toList k)) = tt at *
      generalize bs (payOf (T.data.toList.drop (posOf T.data.toList k))) = pp at *
      generalize posOf T.data.toList k = j at *
      have HF := Lib.hid hF; clear hF
      go_wp2_with fail
      refine HF.out.mono ?_; rintro e w2 ⟨rfl, hk2⟩
      have hkk := hkp.step hk2 (fun _ h => h)
      clear c0 c1 f0 f1 hr hkp hk2 hRP
      go_wp2_with fail
      go_roundw
      case rel => exact ⟨k + 1, by omega, by go_num, by rw [HN.out]; go_num, hkk⟩
      case measure => simp [intOf]; omega
    · obtain rfl : k = n := by omega
      have hj := HPL.out k
      have hF := First_at wr T (posOf T.data.toList k) hl
      rw [HP.out, HT.out, HS.out] at hF
      rw [HP.out] at hj ⊢
      have hz : sizeOf1 (T.data.toList.drop p) ≤ 1000000 := by
        have hsz := size_le (T.data.toList.drop p)
        simp only [List.length_drop] at hsz; have := HLEN.out; omega
      generalize sizeOf1 (T.data.toList.drop p) = z at *
      have HF := Lib.hid hF; clear hF
      by_cases h1 : t = 1
      · subst h1
        go_wp2_with fail
        refine HF.out.mono ?_; rintro e w2 ⟨rfl, hk2⟩
        have hr2 := hr.keeps hk2 (by simp)
        have hkk : Keeps [q] w w2 := hRP.step hk2 (by simp)
        clear c0 c1 f0 f1 hr hkp hk2 hRP
        obtain ⟨c0, c1, f0, f1⟩ := hr2.cells
        go_wp2_with fail
        go_ret3
        exact ⟨rfl, hr2.set1, hkk.setCell _ _ (by simp)⟩
      · have hb1 : ((t : Int) == 1) = false := by simp; omega
        have HT1 := Lib.hid h1; clear h1
        go_wp2_with fail
        refine HF.out.mono ?_; rintro e w2 ⟨rfl, hk2⟩
        have hr2 := hr.keeps hk2 (by simp)
        have hkk : Keeps [q] w w2 := hRP.step hk2 (by simp)
        clear c0 c1 f0 f1 hr hkp hk2 hRP
        go_wp2_with fail
        go_ret3
        exact ⟨rfl, hr2, hkk⟩
end Go.Proofs.Ytfkmgmnbkajgaaa
