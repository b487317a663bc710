/-
  The Writer's List.
-/
import Derived.Test.YtchenofgmmgdmaaAe
namespace Go.Proofs.Ytchenofgmmgdmaa
open Go.RowKit
/-- A list's numbers stand where the slice's address says. -/
def Src16 (w : World) (a : Option Addr) (ls : List Int) : Prop := ls = [] ∨ ∃ lb off, a = some ⟨lb, off, none⟩ ∧ ∀ j, j < ls.length → w.cell? ⟨lb, off + j, none⟩ = some (.int .u16 (ls.getD j 0))
def InU16 (ls : List Int) : Prop := ∀ j, 0 ≤ ls.getD j 0 ∧ ls.getD j 0 < 65536
/-- A list's bytes. -/
def beList (ls : List Int) : List Int := (ls.length : Int) :: ls.flatMap be2
theorem length_flat : ∀ ls : List Int, (ls.flatMap be2).length = 2 * ls.length
  | [] => rfl
  | x :: r => by simp [List.flatMap_cons, be2, length_flat r]; omega
theorem length_beList (ls : List Int) : (beList ls).length = 1 + 2 * ls.length := by
  simp only [beList, List.length_cons, length_flat]; omega
theorem flat_snoc (ls : List Int) (k : Nat) (h : k < ls.length) : (ls.take (k + 1)).flatMap be2 = (ls.take k).flatMap be2 ++ be2 (ls.getD k 0) := by
  rw [List.take_succ_eq_append_getElem h, List.flatMap_append]
  simp [List.getD, h]
/-- What the loop has gathered. -/
structure Gath (w wr : World) (v : Value) (ls : List Int) (k : Nat) : Prop where
  row : wr.ownsRow 0 5 1 v (1 + 2 * k) (((ls.length : Int) :: (ls.take k).flatMap be2).map (.int .u8))
  kept : Keeps [] w wr
  sub : FSub (own v) [] w.heap.size
  ne : v ≠ .slice none 0 0

theorem gath_step {w wr w' : World} {v v' : Value} {ls : List Int} {k : Nat} (h : Gath w wr v ls k) (hk : k < ls.length)
    (hown : w'.ownsRow 0 5 1 v' (1 + 2 * k + 2) ((((ls.length : Int) :: (ls.take k).flatMap be2) ++ be2 (ls.getD k 0)).map (.int .u8))) (hkp : Keeps (own v) wr w') (hs : FSub (own v') (own v) wr.heap.size) (hne : v' ≠ .slice none 0 0) : Gath w w' v' ls (k + 1) := by
  refine ⟨?_, h.kept.trans hkp h.sub, hs.trans h.sub h.kept.size (Nat.le_refl _), hne⟩
  have e1 : 1 + 2 * (k + 1) = 1 + 2 * k + 2 := by omega
  have e2 : (ls.length : Int) :: (ls.take (k + 1)).flatMap be2 = ((ls.length : Int) :: (ls.take k).flatMap be2) ++ be2 (ls.getD k 0) := by rw [flat_snoc ls k hk]; rfl
  rw [e1, e2]
  exact hown
theorem gath_end {w wr : World} {v : Value} {ls : List Int} {k : Nat} (h : Gath w wr v ls k) (hk : k = ls.length) :
    ∃ g cap, v = .slice (some ⟨g, 0, none⟩) (beList ls).length cap ∧ (∀ (j : Nat) u, ((beList ls).map (Value.int .u8))[j]? = some u → wr.cell? ((⟨g, 0, none⟩ : Addr).add j) = some u) ∧ w.heap.size ≤ g := by
  subst hk
  obtain ⟨g, cap, hv, hsrc, hg⟩ := row_src h.row h.ne
  have hl : (beList ls).length = 1 + 2 * ls.length := length_beList ls
  refine ⟨g, cap, by rw [hl]; exact hv, by simpa [beList] using hsrc, ?_⟩
  have := h.sub g hg
  simpa using this

set_option maxHeartbeats 1000000 in
set_option maxRecDepth 100000 in
theorem WList_some (w : World) (b : Nat) (F : List Nat) (st : Option (List Int)) (h : WAt w b F st) (lb off c : Nat) (ls : List Int) (hsrc : ∀ j, j < ls.length → w.cell? ⟨lb, off + j, none⟩ = some (.int .u16 (ls.getD j 0))) (hr : InU16 ls) (hl : ls.length ≤ 255)
    (hn : ∀ xs, st = some xs → xs.length + (1 + 2 * ls.length) ≤ 1000000) :
    Calls Try.prog 20 #[.pointer (some ⟨b, 0, none⟩), .slice (some ⟨lb, off, none⟩) ls.length c] w fun e w' => e = .returned (.tuple #[]) ∧ ∃ F', WAt w' b F' (st.map (· ++ beList ls)) ∧ Keeps F w w' ∧ FSub F' F w.heap.size := by
  have hb := h.lt b h.mem
  have hl1 : ¬ (255 : Int) < (ls.length : Int) := by omega
  have hl2 : (ls.length : Int) < 256 := by omega
  have hl3 : (0 : Int) ≤ (ls.length : Int) := by omega
  have Hr := Lib.hid hr; clear hr
  have Hsrc := Lib.hid hsrc; clear hsrc
  go_enter Try.func20, Try.ntmps20
  go_wp2_with fail
  refine (app8_any _ _ 0 [] (ls.length : Int) hl3 hl2 (World.ownsRow_nil _ _ _ _) (by omega)).mono ?_
  rintro e w1 ⟨v1, rfl, hown, hk, hs, hnn⟩
  have hg0 : Gath w w1 v1 ls 0 := ⟨by simpa [be1] using hown, by simpa [own_nil] using hk, by simpa [own_nil] using hs, hnn⟩
  clear hown hk hs hnn
  go_wp2_with fail
  go_loopw [4, 6, 18] (fun v n i wr => ∃ k : Nat, k ≤ ls.length ∧ i = .int .i64 k ∧ Gath w wr v ls k) (fun _ _ i _ => ls.length - (intOf i).toNat)
  case atStart => exact ⟨0, Nat.zero_le _, rfl, hg0⟩
  case round =>
    obtain ⟨k, hk, rfl, hg⟩ := hrel
    by_cases hlt : k < ls.length
    · have hcell : wr.cell? ⟨lb, off + k, none⟩ = some (.int .u16 (ls.getD k 0)) := hg.kept.cell (Hsrc.out k hlt) (by simp)
      have hrk := Hr.out k
      generalize hx : ls.getD k 0 = x at *
      have Hx := Lib.hid hx; clear hx
      go_wp2_with fail
      refine (app16_any _ _ _ _ x hrk.1 hrk.2 hg.row (by omega)).mono ?_
      rintro e w2 ⟨v2, rfl, hown, hk2, hs2, hnn⟩
      have hg2 : Gath w w2 v2 ls (k + 1) := gath_step hg hlt (by rw [Hx.out]; exact hown) hk2 hs2 hnn
      clear hown hk2 hs2 hnn hg hcell
      go_wp2
      go_roundw
      case rel => exact ⟨k + 1, by omega, by go_num, hg2⟩
      case measure => simp [intOf]; omega
    · obtain ⟨g, cap, rfl, hs, hge⟩ := gath_end hg (by omega)
      have hkp := hg.kept
      have Hs := Lib.hid hs; clear hs hg
      have hz := hkp.size
      go_wp2_with fail
      refine (write_any _ b F st (h.keeps hkp (by simp)) _ _ _ (beList ls) rfl Hs.out (by show g ≠ b; omega) (by rw [length_beList]; exact hn)).mono ?_
      rintro e w2 ⟨rfl, F', h3, hk3, hs3⟩
      go_wp2
      go_end0
      exact ⟨rfl, F', h3, (hkp.more (by simp)).step hk3 (fun _ h => h), hs3.mono hz⟩

set_option maxHeartbeats 1000000 in
set_option maxRecDepth 100000 in
theorem WList_empty (w : World) (b : Nat) (F : List Nat) (st : Option (List Int)) (h : WAt w b F st) (a : Option Addr) (c : Nat)
    (hn : ∀ xs, st = some xs → xs.length + 1 ≤ 1000000) :
    Calls Try.prog 20 #[.pointer (some ⟨b, 0, none⟩), .slice a 0 c] w fun e w' => e = .returned (.tuple #[]) ∧ ∃ F', WAt w' b F' (st.map (· ++ beList [])) ∧ Keeps F w w' ∧ FSub F' F w.heap.size := by
  have hb := h.lt b h.mem
  go_enter Try.func20, Try.ntmps20
  go_wp2_with fail
  refine (app8_any _ _ 0 [] 0 (by omega) (by omega) (World.ownsRow_nil _ _ _ _) (by omega)).mono ?_
  rintro e w1 ⟨v1, rfl, hown, hk, hs, hnn⟩
  have hg0 : Gath w w1 v1 [] 0 := ⟨by simpa [be1] using hown, by simpa [own_nil] using hk, by simpa [own_nil] using hs, hnn⟩
  clear hown hk hs hnn
  obtain ⟨g, cap, rfl, hs, hge⟩ := gath_end hg0 rfl
  have hkp := hg0.kept
  have Hs := Lib.hid hs; clear hs hg0
  have hz := hkp.size
  go_wp2_with fail
  refine wp_loop_rounds 1 ?_
  rw [rounds_succ]
  go_wp2_with fail
  refine (write_any _ b F st (h.keeps hkp (by simp)) _ _ _ (beList []) rfl Hs.out (by show g ≠ b; omega) (by rw [length_beList]; exact hn)).mono ?_
  rintro e w2 ⟨rfl, F', h3, hk3, hs3⟩
  go_wp2
  go_end0
  exact ⟨rfl, F', h3, (hkp.more (by simp)).step hk3 (fun _ h => h), hs3.mono hz⟩

set_option maxHeartbeats 1000000 in
set_option maxRecDepth 100000 in
theorem WList_long (w : World) (b : Nat) (F : List Nat) (st : Option (List Int)) (h : WAt w b F st) (a : Option Addr) (n c : Nat) (hl : 255 < n) :
    Calls Try.prog 20 #[.pointer (some ⟨b, 0, none⟩), .slice a n c] w fun e w' => e = .returned (.tuple #[]) ∧ WAt w' b [b] none ∧ Keeps F w w' := by
  have hl1 : (255 : Int) < (n : Int) := by omega
  go_enter Try.func20, Try.ntmps20
  go_wp2_with fail
  refine (fail_any _ b F st h).mono ?_
  rintro e w2 ⟨rfl, h3, hk3⟩
  go_wp2
  exact bodyPost_ret (results_none rfl _ _ _) rfl ⟨rfl, h3, hk3⟩

/-- List, whatever the list. -/
theorem WList_any (w : World) (b : Nat) (F : List Nat) (st : Option (List Int)) (h : WAt w b F st) (a : Option Addr) (n c : Nat) (ls : List Int) (hl : n = ls.length) (hsrc : Src16 w a ls) (hr : InU16 ls)
    (hn : ∀ xs, st = some xs → ls.length ≤ 255 → xs.length + (1 + 2 * ls.length) ≤ 1000000) :
    Calls Try.prog 20 #[.pointer (some ⟨b, 0, none⟩), .slice a n c] w fun e w' => e = .returned (.tuple #[]) ∧ ∃ F', WAt w' b F' (if ls.length ≤ 255 then st.map (· ++ beList ls) else none) ∧ Keeps F w w' ∧ FSub F' F w.heap.size := by
  subst hl
  by_cases hl : ls.length ≤ 255
  · rw [if_pos hl]
    rcases hsrc with rfl | ⟨lb, off, rfl, hc⟩
    · exact WList_empty w b F st h a c (fun xs e => by have := hn xs e (by simp); simpa using this)
    · exact WList_some w b F st h lb off c ls hc hr hl (fun xs e => hn xs e hl)
  · rw [if_neg hl]
    refine (WList_long w b F st h a _ c (by omega)).mono fun e w' ⟨he, h3, hk⟩ => ⟨he, [b], h3, hk, ?_⟩
    intro g hg
    simp at hg
    subst hg
    exact .inl h.mem
end Go.Proofs.Ytchenofgmmgdmaa
