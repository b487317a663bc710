/-
  put: a thing is written; what the document says of it.
-/
import Derived.Test.YtchenofgmmgdmaaBc
namespace Go.Proofs.Ytchenofgmmgdmaa
open Go.RowKit
def thBytes (t : LT) : List Int :=
  if t.k % 5 = 0 then be1 (t.n % 256) else if t.k % 5 = 1 then be2 (t.n % 65536) else if t.k % 5 = 2 then be4 t.n else if t.k % 5 = 3 then nums t.s else beList t.ls
/-- Does it fail? -/
def ThBad (t : LT) : Prop := ¬ t.k % 5 = 0 ∧ ¬ t.k % 5 = 1 ∧ ¬ t.k % 5 = 2 ∧ ¬ t.k % 5 = 3 ∧ 255 < t.ls.length
def PutPost (b : Nat) (F : List Nat) (st : Option (List Int)) (t : LT) (w : World) (e : Ending) (w' : World) : Prop :=
  (∃ F', (WAt w' b F' (st.map (· ++ thBytes t)) ∧ ¬ ThBad t ∧ e = .returned (.tuple #[.string (strOfNums (thBytes t)), .int .i64 0]) ∨
     WAt w' b F' none ∧ ThBad t ∧ e = .returned (.tuple #[.string ⟨#[]⟩, .int .i64 3])) ∧ Keeps F w w' ∧ FSub F' F w.heap.size)
theorem putPost_ok {b : Nat} {F F' : List Nat} {st : Option (List Int)} {t : LT} {w w1 w2 w' : World} {bs : List Int} (hb : thBytes t = bs) (hbad : ¬ ThBad t) (hk0 : Keeps [] w w1) (h3 : WAt w2 b F' (st.map (· ++ bs))) (hk : Keeps F w1 w2) (hs : FSub F' F w1.heap.size) (hk2 : Keeps [] w2 w') :
    PutPost b F st t w (.returned (.tuple #[.string (strOfNums bs), .int .i64 0])) w' := by
  subst hb
  exact ⟨F', .inl ⟨h3.keeps hk2 (by simp), hbad, rfl⟩, ((hk0.more (by simp)).step hk (fun _ h => h)).step (hk2.more (by simp)) (fun _ h => h), hs.mono hk0.size⟩
theorem putPost_bad {b : Nat} {F F' : List Nat} {st : Option (List Int)} {t : LT} {w w1 w2 w' : World} (hbad : ThBad t) (hk0 : Keeps [] w w1) (h3 : WAt w2 b F' none) (hk : Keeps F w1 w2) (hs : FSub F' F w1.heap.size) (hk2 : Keeps [] w2 w') :
    PutPost b F st t w (.returned (.tuple #[.string ⟨#[]⟩, .int .i64 3])) w' :=
  ⟨F', .inr ⟨h3.keeps hk2 (by simp), hbad, rfl⟩, ((hk0.more (by simp)).step hk (fun _ h => h)).step (hk2.more (by simp)) (fun _ h => h), hs.mono hk0.size⟩
theorem Src16.keeps {F : List Nat} {w w' : World} {a : Option Addr} {ls : List Int} (h : Src16 w a ls) (hk : Keeps F w w') (hF : ∀ lb off, a = some ⟨lb, off, none⟩ → ls ≠ [] → lb ∉ F) : Src16 w' a ls := by
  rcases h with h | ⟨lb, off, rfl, hc⟩
  · exact .inl h
  · by_cases he : ls = []
    · exact .inl he
    · exact .inr ⟨lb, off, rfl, fun j hj => hk.cell (hc j hj) (hF lb off rfl he)⟩

set_option maxHeartbeats 1000000 in
theorem put_0 (w : World) (b : Nat) (F : List Nat) (st : Option (List Int)) (h : WAt w b F st) (t : LT) (k0 : 0 ≤ t.k) (n0 : 0 ≤ t.n) (n1 : t.n < 4294967296) (hk : t.k % 5 = 0) (hn : ∀ xs, st = some xs → xs.length + 1 ≤ 1000000) :
    Calls Try.prog 9 #[.pointer (some ⟨b, 0, none⟩), .agg #[.int .u8 t.k, .int .u32 t.n, .string t.s, .slice t.a t.ls.length t.c]] w (PutPost b F st t w) := by
  have hby : thBytes t = be1 (t.n % 256) := by simp [thBytes, hk]
  have hbad : ¬ ThBad t := by simp [ThBad, hk]
  have hB := h.lt b h.mem
  have hk0 : Keeps [] w (w.alloc (.cells #[.int .u8 t.k, .int .u32 t.n, .string t.s, .slice t.a t.ls.length t.c] 38)) := (Keeps.refl _ _).alloc _
  go_enter Try.func9, Try.ntmps9
  go_wp2_with fail
  refine (U8_any _ b F st (h.keeps hk0 (by simp)) (t.n % 256) (by omega) (by omega) hn).mono ?_
  rintro e w2 ⟨rfl, F', h3, hk3, hs3⟩
  obtain ⟨cn, zz⟩ : w2.cell? ⟨w.heap.size, 1, none⟩ = some (.int .u32 t.n) ∧ True := ⟨hk3.cell (by simp) (fun hm => by have := h.lt _ hm; simp at this), trivial⟩
  go_wp2_with fail
  refine (refNumber_1 _ t.n n0 n1).mono ?_
  rintro e w4 ⟨rfl, hk4⟩
  go_wp2_with fail
  go_ret2
  exact putPost_ok (by rw [hby]) hbad hk0 h3 hk3 hs3 hk4

set_option maxHeartbeats 1000000 in
theorem put_1 (w : World) (b : Nat) (F : List Nat) (st : Option (List Int)) (h : WAt w b F st) (t : LT) (k0 : 0 ≤ t.k) (n0 : 0 ≤ t.n) (n1 : t.n < 4294967296) (hk : t.k % 5 = 1) (hn : ∀ xs, st = some xs → xs.length + 2 ≤ 1000000) :
    Calls Try.prog 9 #[.pointer (some ⟨b, 0, none⟩), .agg #[.int .u8 t.k, .int .u32 t.n, .string t.s, .slice t.a t.ls.length t.c]] w (PutPost b F st t w) := by
  have hby : thBytes t = be2 (t.n % 65536) := by simp [thBytes, hk]
  have hbad : ¬ ThBad t := by simp [ThBad, hk]
  have hB := h.lt b h.mem
  have hk0 : Keeps [] w (w.alloc (.cells #[.int .u8 t.k, .int .u32 t.n, .string t.s, .slice t.a t.ls.length t.c] 38)) := (Keeps.refl _ _).alloc _
  go_enter Try.func9, Try.ntmps9
  go_wp2_with fail
  refine (U16_any _ b F st (h.keeps hk0 (by simp)) (t.n % 65536) (by omega) (by omega) hn).mono ?_
  rintro e w2 ⟨rfl, F', h3, hk3, hs3⟩
  obtain ⟨cn, zz⟩ : w2.cell? ⟨w.heap.size, 1, none⟩ = some (.int .u32 t.n) ∧ True := ⟨hk3.cell (by simp) (fun hm => by have := h.lt _ hm; simp at this), trivial⟩
  go_wp2_with fail
  refine (refNumber_2 _ t.n n0 n1).mono ?_
  rintro e w4 ⟨rfl, hk4⟩
  go_wp2_with fail
  go_ret2
  exact putPost_ok (by rw [hby]) hbad hk0 h3 hk3 hs3 hk4

set_option maxHeartbeats 1000000 in
theorem put_2 (w : World) (b : Nat) (F : List Nat) (st : Option (List Int)) (h : WAt w b F st) (t : LT) (k0 : 0 ≤ t.k) (n0 : 0 ≤ t.n) (n1 : t.n < 4294967296) (hk : t.k % 5 = 2) (hn : ∀ xs, st = some xs → xs.length + 4 ≤ 1000000) :
    Calls Try.prog 9 #[.pointer (some ⟨b, 0, none⟩), .agg #[.int .u8 t.k, .int .u32 t.n, .string t.s, .slice t.a t.ls.length t.c]] w (PutPost b F st t w) := by
  have hby : thBytes t = be4 t.n := by simp [thBytes, hk]
  have hbad : ¬ ThBad t := by simp [ThBad, hk]
  have hB := h.lt b h.mem
  have hk0 : Keeps [] w (w.alloc (.cells #[.int .u8 t.k, .int .u32 t.n, .string t.s, .slice t.a t.ls.length t.c] 38)) := (Keeps.refl _ _).alloc _
  go_enter Try.func9, Try.ntmps9
  go_wp2_with fail
  refine (U32_any _ b F st (h.keeps hk0 (by simp)) (t.n) (by omega) (by omega) hn).mono ?_
  rintro e w2 ⟨rfl, F', h3, hk3, hs3⟩
  obtain ⟨cn, zz⟩ : w2.cell? ⟨w.heap.size, 1, none⟩ = some (.int .u32 t.n) ∧ True := ⟨hk3.cell (by simp) (fun hm => by have := h.lt _ hm; simp at this), trivial⟩
  go_wp2_with fail
  refine (refNumber_4 _ t.n n0 n1).mono ?_
  rintro e w4 ⟨rfl, hk4⟩
  go_wp2_with fail
  go_ret2
  exact putPost_ok (by rw [hby, Int.emod_eq_of_lt n0 n1]) hbad hk0 (by rw [Int.emod_eq_of_lt n0 n1]; exact h3) hk3 hs3 hk4

set_option maxHeartbeats 1000000 in
theorem put_3 (w : World) (b : Nat) (F : List Nat) (st : Option (List Int)) (h : WAt w b F st) (t : LT) (k0 : 0 ≤ t.k) (hk : t.k % 5 = 3) (hn : ∀ xs, st = some xs → xs.length + t.s.size ≤ 1000000) :
    Calls Try.prog 9 #[.pointer (some ⟨b, 0, none⟩), .agg #[.int .u8 t.k, .int .u32 t.n, .string t.s, .slice t.a t.ls.length t.c]] w (PutPost b F st t w) := by
  have hby : thBytes t = nums t.s := by simp [thBytes, hk]
  have hbad : ¬ ThBad t := by simp [ThBad, hk]
  have hB := h.lt b h.mem
  have hk0 : Keeps [] w (w.alloc (.cells #[.int .u8 t.k, .int .u32 t.n, .string t.s, .slice t.a t.ls.length t.c] 38)) := (Keeps.refl _ _).alloc _
  go_enter Try.func9, Try.ntmps9
  go_wp2_with fail
  refine (WRaw_any _ b F st (h.keeps hk0 (by simp)) t.s hn).mono ?_
  rintro e w2 ⟨rfl, F', h3, hk3, hs3⟩
  have cs : w2.cell? ⟨w.heap.size, 2, none⟩ = some (.string t.s) := hk3.cell (by simp) (fun hm => by have := h.lt _ hm; simp at this)
  go_wp2_with fail
  go_ret2
  have := putPost_ok (b := b) (F := F) (st := st) (w := w) hby hbad hk0 h3 hk3 hs3 (Keeps.refl _ _)
  rw [strOfNums_nums] at this
  exact this
set_option maxHeartbeats 1000000 in
theorem put_4 (w : World) (b : Nat) (F : List Nat) (st : Option (List Int)) (h : WAt w b F st) (t : LT) (k0 : 0 ≤ t.k) (g0 : ¬ t.k % 5 = 0) (g1 : ¬ t.k % 5 = 1) (g2 : ¬ t.k % 5 = 2) (g3 : ¬ t.k % 5 = 3)
    (hsrc : Src16 w t.a t.ls) (hF : ∀ lb off, t.a = some ⟨lb, off, none⟩ → t.ls ≠ [] → lb ∉ F) (hr : InU16 t.ls) (hn : ∀ xs, st = some xs → t.ls.length ≤ 255 → xs.length + (1 + 2 * t.ls.length) ≤ 1000000) :
    Calls Try.prog 9 #[.pointer (some ⟨b, 0, none⟩), .agg #[.int .u8 t.k, .int .u32 t.n, .string t.s, .slice t.a t.ls.length t.c]] w (PutPost b F st t w) := by
  have hby : thBytes t = beList t.ls := by simp [thBytes, g0, g1, g2, g3]
  have hB := h.lt b h.mem
  have hk0 : Keeps [] w (w.alloc (.cells #[.int .u8 t.k, .int .u32 t.n, .string t.s, .slice t.a t.ls.length t.c] 38)) := (Keeps.refl _ _).alloc _
  have hs0 := hsrc.keeps hk0 (fun _ _ _ _ => by simp)
  have HS := Lib.hid hs0; clear hs0 hsrc
  have HF := Lib.hid hF; clear hF
  go_enter Try.func9, Try.ntmps9
  go_wp2_with fail
  refine (WList_any _ b F st (h.keeps hk0 (by simp)) t.a t.ls.length t.c t.ls rfl HS.out hr hn).mono ?_
  rintro e w2 ⟨rfl, F', h3, hk3, hs3⟩
  have cl : w2.cell? ⟨w.heap.size, 3, none⟩ = some (.slice t.a t.ls.length t.c) := hk3.cell (by simp) (fun hm => by have := h.lt _ hm; simp at this)
  have hs2 := HS.out.keeps hk3 HF.out
  have HS2 := Lib.hid hs2; clear hs2
  go_wp2_with fail
  refine (refList_any _ t.a t.ls.length t.c t.ls rfl HS2.out hr).mono ?_
  by_cases hl : t.ls.length ≤ 255
  · have hbad : ¬ ThBad t := fun hb => by have := hb.2.2.2.2; omega
    rw [if_pos hl, if_pos hl]
    rw [if_pos hl] at h3
    rintro e w4 ⟨rfl, hk4⟩
    go_wp2_with fail
    go_ret2
    exact putPost_ok hby hbad hk0 h3 hk3 hs3 hk4
  · have hbad : ThBad t := ⟨g0, g1, g2, g3, by omega⟩
    rw [if_neg hl, if_neg hl]
    rw [if_neg hl] at h3
    rintro e w4 ⟨rfl, hk4⟩
    go_wp2_with fail
    go_ret2
    exact putPost_bad hbad hk0 h3 hk3 hs3 hk4
/-- put, whatever the thing. -/
theorem put_any (w : World) (b : Nat) (F : List Nat) (st : Option (List Int)) (h : WAt w b F st) (t : LT) (k0 : 0 ≤ t.k) (n0 : 0 ≤ t.n) (n1 : t.n < 4294967296) (hsrc : Src16 w t.a t.ls) (hF : ∀ lb off, t.a = some ⟨lb, off, none⟩ → t.ls ≠ [] → lb ∉ F) (hr : InU16 t.ls) (hsm : Small t)
    (hn : ∀ xs, st = some xs → xs.length + 600 ≤ 1000000) :
    Calls Try.prog 9 #[.pointer (some ⟨b, 0, none⟩), .agg #[.int .u8 t.k, .int .u32 t.n, .string t.s, .slice t.a t.ls.length t.c]] w (PutPost b F st t w) := by
  obtain ⟨hs1, hs2⟩ := hsm
  by_cases g0 : t.k % 5 = 0
  · exact put_0 w b F st h t k0 n0 n1 g0 (fun xs e => by have := hn xs e; omega)
  by_cases g1 : t.k % 5 = 1
  · exact put_1 w b F st h t k0 n0 n1 g1 (fun xs e => by have := hn xs e; omega)
  by_cases g2 : t.k % 5 = 2
  · exact put_2 w b F st h t k0 n0 n1 g2 (fun xs e => by have := hn xs e; omega)
  by_cases g3 : t.k % 5 = 3
  · exact put_3 w b F st h t k0 g3 (fun xs e => by have := hn xs e; omega)
  exact put_4 w b F st h t k0 g0 g1 g2 g3 hsrc hF hr (fun xs e _ => by have := hn xs e; omega)
end Go.Proofs.Ytchenofgmmgdmaa
