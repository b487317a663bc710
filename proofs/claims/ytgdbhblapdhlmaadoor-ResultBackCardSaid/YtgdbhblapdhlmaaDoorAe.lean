/-
  The Writer's calls, by what they do to what was written.
-/
import Derived.Test.YtgdbhblapdhlmaaDoorAd
namespace Go.Proofs.YtgdbhblapdhlmaaDoor
open Go.RowKit

theorem row_src {w : World} {e : TypeId} {v : Value} {n : Nat} {xs : List Value} (hr : w.ownsRow 0 e 1 v n xs) (hv : v ≠ .slice none 0 0) :
    ∃ g cap, v = .slice (some ⟨g, 0, none⟩) n cap ∧ (∀ (j : Nat) u, xs[j]? = some u → w.cell? ((⟨g, 0, none⟩ : Addr).add j) = some u) ∧ g ∈ own v := by
  have hr' := hr
  rcases hr.2 with ⟨rfl, rfl⟩ | ⟨g, cap, cur, rfl, _⟩
  · exact absurd rfl hv
  · exact ⟨g, cap, rfl, hr'.cells (g := g) rfl, by simp [own, Value.ownBlock]⟩

set_option maxHeartbeats 400000 in
theorem U8_any (w : World) (b : Nat) (F : List Nat) (st : Option (List Int)) (h : WAt w b F st) (m : Int) (h0 : 0 ≤ m) (h1 : m < 256) (hn : ∀ xs, st = some xs → xs.length + 1 ≤ 1000000) :
    Calls Tryd.prog 28 #[.pointer (some ⟨b, 0, none⟩), .int .u8 m] w fun e w' => e = .returned (.tuple #[]) ∧ ∃ F', WAt w' b F' (st.map (· ++ be1 m)) ∧ Keeps F w w' ∧ FSub F' F w.heap.size := by
  have hb := h.lt b h.mem
  go_enter Tryd.func28, Tryd.ntmps28
  go_wp2_with fail
  refine (app8_any _ _ 0 [] m h0 h1 (World.ownsRow_nil _ _ _ _) (by omega)).mono ?_
  rintro e w1 ⟨v', rfl, hown, hk, hs, hnn⟩
  obtain ⟨g, cap, rfl, hsrc, hg⟩ := row_src hown hnn
  have hgb : g ≠ b := by have := hs g hg; simp [own_nil] at this; omega
  have h2 := h.keeps hk (by simp [own_nil])
  have hk' := hk.more (G := F) (by simp [own_nil])
  have hz := hk.size
  clear hown hk hs hnn
  have Hsrc := Lib.hid hsrc; clear hsrc
  go_wp2_with fail
  refine (write_any _ b F st h2 _ _ _ (be1 m) rfl (by simpa using Hsrc.out) hgb hn).mono ?_
  rintro e w2 ⟨rfl, F', h3, hk3, hs3⟩
  go_wp2
  go_end0
  exact ⟨rfl, F', h3, hk'.step hk3 (fun _ h => h), hs3.mono hz⟩
set_option maxHeartbeats 400000 in
theorem U16_any (w : World) (b : Nat) (F : List Nat) (st : Option (List Int)) (h : WAt w b F st) (m : Int) (h0 : 0 ≤ m) (h1 : m < 65536) (hn : ∀ xs, st = some xs → xs.length + 2 ≤ 1000000) :
    Calls Tryd.prog 29 #[.pointer (some ⟨b, 0, none⟩), .int .u16 m] w fun e w' => e = .returned (.tuple #[]) ∧ ∃ F', WAt w' b F' (st.map (· ++ be2 m)) ∧ Keeps F w w' ∧ FSub F' F w.heap.size := by
  have hb := h.lt b h.mem
  go_enter Tryd.func29, Tryd.ntmps29
  go_wp2_with fail
  refine (app16_any _ _ 0 [] m h0 h1 (World.ownsRow_nil _ _ _ _) (by omega)).mono ?_
  rintro e w1 ⟨v', rfl, hown, hk, hs, hnn⟩
  obtain ⟨g, cap, rfl, hsrc, hg⟩ := row_src hown hnn
  have hgb : g ≠ b := by have := hs g hg; simp [own_nil] at this; omega
  have h2 := h.keeps hk (by simp [own_nil])
  have hk' := hk.more (G := F) (by simp [own_nil])
  have hz := hk.size
  clear hown hk hs hnn
  have Hsrc := Lib.hid hsrc; clear hsrc
  go_wp2_with fail
  refine (write_any _ b F st h2 _ _ _ (be2 m) rfl (by simpa using Hsrc.out) hgb hn).mono ?_
  rintro e w2 ⟨rfl, F', h3, hk3, hs3⟩
  go_wp2
  go_end0
  exact ⟨rfl, F', h3, hk'.step hk3 (fun _ h => h), hs3.mono hz⟩

/-- What stands in the cells of a text that was made bytes. -/
theorem bytes_src (w : World) (s : ByteArray) (cap : Nat) (t : TypeId) (fr : Nat × Nat) : ∀ (j : Nat) u, ((nums s).map (Value.int .u8))[j]? = some u → (w.alloc (.cells (bytesRow s cap) t fr)).cell? ((⟨w.heap.size, 0, none⟩ : Addr).add j) = some u := by
  intro j u hj
  have hj' : j < s.size := by
    have := (List.getElem?_eq_some_iff.1 hj).1
    simpa [nums_length] using this
  have ha : ((⟨w.heap.size, 0, none⟩ : Addr).add j) = ⟨w.heap.size, j, none⟩ := by unfold Addr.add; split <;> simp_all
  rw [ha, World.cell?_alloc_mark, ← hj]
  have hd : j < s.data.size := hj'
  simp [bytesRow, nums, Array.getElem?_append, hd, hj', Function.comp_def]

/-- 'string(v)' of an owned row of bytes. -/
theorem row_string {w : World} {v : Value} {n : Nat} {xs : List Int} (hr : w.ownsRow 0 5 1 v n (xs.map (.int .u8))) :
    (convert 46 9 v).run Tryd.prog w = .ok (.string (strOfNums xs)) w := by
  have hr' := hr
  have hl : xs.length = n := by simpa using hr.1
  rcases hr.2 with ⟨rfl, rfl⟩ | ⟨g, cap, cur, rfl, _⟩
  · have : xs = [] := List.eq_nil_of_length_eq_zero hl
    subst this
    exact run_convert_bytes_nil w _ _ Tryd.underlying46 Tryd.underlying5 0 0 _ Tryd.underlying9
  · refine run_convert_bytes_arg w _ _ Tryd.underlying46 Tryd.underlying5 g 0 n cap xs hl (fun i hi => ?_) _ Tryd.underlying9
    have := hr'.cells (g := g) rfl i (.int .u8 (xs.getD i 0)) (by simp [hl, hi, List.getD])
    have ha : ((⟨g, 0, none⟩ : Addr).add i) = ⟨g, 0 + i, none⟩ := by unfold Addr.add; split <;> simp_all
    rw [ha] at this
    exact this

set_option maxHeartbeats 400000 in
theorem Bytes_any (w : World) (b : Nat) (F : List Nat) (st : Option (List Int)) (h : WAt w b F st) :
    Calls Tryd.prog 30 #[.pointer (some ⟨b, 0, none⟩)] w fun e w' => e = .returned (.tuple #[.string (strOfNums (st.getD [])), .int .i64 (if st.isSome then 0 else 3)]) ∧ w.drew = w' := by
  obtain ⟨v, p, hb, hcv0, hcv2⟩ : ∃ v p, w.heap[b]? = some (.cells #[v, .int .i64 (if st.isSome then 0 else 3), .pointer p] 63 (0, 0)) ∧ (convert 46 9 v).run Tryd.prog w = .ok (.string (strOfNums (st.getD []))) w ∧ (convert 46 9 v).run Tryd.prog w.drew = .ok (.string (strOfNums (st.getD []))) w.drew := by
    cases st with
    | none => exact ⟨_, _, h.1, row_string (xs := []) (World.ownsRow_nil _ _ _ _), row_string (xs := []) (World.ownsRow_nil _ _ _ _)⟩
    | some xs =>
      rcases h with ⟨h1, rfl, _⟩ | ⟨k, v, h1, _⟩
      · exact ⟨_, _, h1, row_string (xs := []) (World.ownsRow_nil _ _ _ _), row_string (xs := []) (World.ownsRow_nil _ _ _ _)⟩
      · exact ⟨_, _, h1.blk, row_string h1.row, row_string (w := w.drew) h1.row.drew⟩
  obtain ⟨c0, c1, c2, f0, f1, f2⟩ := cell3 hb
  have HB := Lib.hid hb; clear hb
  generalize hs : strOfNums (st.getD []) = S at *
  generalize hr : (if st.isSome then (0 : Int) else 3) = R at *
  clear hs hr
  go_enter Tryd.func30, Tryd.ntmps30
  go_wp2
  go_region
  go_wp2
  go_ret2
  exact ⟨rfl, rfl⟩
theorem wat_new (w : World) : WAt (w.alloc (.cells #[.slice none 0 0, .int .i64 0, .pointer none] 63)) w.heap.size [w.heap.size] (some []) :=
  .inl ⟨heap_alloc_new w _, rfl, rfl⟩
end Go.Proofs.YtgdbhblapdhlmaaDoor
