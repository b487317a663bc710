/-
  The Cutter's memory; an append of a text whose row is told.
-/
import Derived.Test.YtfkmgmnbkajgaaaFd
import Derived.Lib.AppendStr
import Derived.Deep.CutBlock
namespace Go.Proofs.Ytfkmgmnbkajgaaa
open Go.RowKit
section
variable {P : Program} (w : World)
/-- AN APPEND OF A TEXT WHOSE ROW IS TOLD: the row that it was, or a new one. -/
theorem run_append_str_sharp (t u ty e : TypeId) (i : TypeInfo) (ht : P.underlying t = some (.slice e)) (hu : P.underlying u = some .string) (hi : P.info? e = some i) (hz : i.zero = some (.int .u8 0))
    (hsize : i.size = 1) (hby : i.bytes = 1) (v : Value) (n : Nat) (xs : List Value) (hown : w.ownsRow 0 e 1 v n xs) (s : ByteArray)
    (h63 : n + s.size ≤ maxLen) (hbytes : n + s.size ≤ 140737488355328) :
    ∃ v' w', (Builtin.append_ #[t, u] ty #[v, .string s]).run P w = .ok v' w' ∧ w'.ownsRow 0 e 1 v' (n + s.size) (xs ++ Lib.strCells s) ∧ Keeps (own v) w w' ∧ FSub (own v') (own v) w.heap.size := by
  have kept : ∀ {v0 : Value} {w' : World}, w.grownBy w' v0.ownBlock → Keeps (own v0) w w' := fun hg => (Keeps.refl _ w).grown hg fun g h => .inl h
  have zero : ∀ {b : Nat} {w' : World} {v' : Value} {k : Nat} {ys : List Value}, w'.ownsRow b e 1 v' k ys → w'.ownsRow 0 e 1 v' k ys := fun h => ⟨h.1, h.2.imp id fun ⟨g, cap, cur, r1, _, r⟩ => ⟨g, cap, cur, r1, Nat.zero_le _, r⟩⟩
  rcases hown.2 with ⟨rfl, rfl⟩ | ⟨g, cap, cur, rfl, hbg, hg, hnc, hcm, hcs, htake⟩
  · obtain ⟨v', w', hr, ho, hgr, _⟩ := Lib.run_append_own_string (P := P) w w.heap.size t u ty e i ht hu hi hz hsize hby (.slice none 0 0) 0 xs ⟨hown.1, .inl ⟨rfl, rfl⟩⟩ s h63 hbytes (Nat.le_refl _)
    exact ⟨v', w', hr, zero ho, kept hgr, fun g hg => .inr (ho.lt g (by simpa [own] using hg)).1⟩
  · obtain ⟨v', w', hr, ho, hgr, _⟩ := Lib.run_append_own_string (P := P) w 0 t u ty e i ht hu hi hz hsize hby _ n xs hown s h63 hbytes (Nat.zero_le _)
    refine ⟨v', w', hr, ho, kept hgr, ?_⟩
    by_cases hroom : n + s.size ≤ cap
    · have hcs' : cur.size = cap := by simpa using hcs
      have hr2 := Lib.run_append_room_string (P := P) w t u ty e i ht hu hi hsize g n cap cur hg s hroom (by omega)
      rw [hr2] at hr
      simp only [Result.ok.injEq] at hr
      rw [← hr.1]
      exact fun g' hg' => .inl (by simpa [own, Value.ownBlock] using hg')
    · have hxl : xs.length = n := by simpa using hown.1
      have hsmall : n + s.size ≤ 9223372036854775807 := by simp only [maxLen] at h63; omega
      have holds : ∀ j u, xs[j]? = some u → w.cell? ((⟨g, 0, none⟩ : Addr).add j) = some u := hown.cells (g := g) rfl
      have hr2 := Lib.run_append_grow_string (P := P) w t u ty e i (.int .u8 0) ht hu hi hz ⟨g, 0, none⟩ n cap xs (by rw [hsize]; simpa using hxl) holds s (by omega) (by omega) (by rw [hby]; exact growslice_fits (by omega) (by omega))
      rw [hr2] at hr
      simp only [Result.ok.injEq] at hr
      rw [← hr.1]
      intro g' hg'
      simp [own, Value.ownBlock] at hg'
      exact .inr (by omega)
theorem wpList_append_str_sharp {ops : Array Oper} {rest : List Oper} {o : Oper} {a : Act} {Q : Exit → Act → World → Prop} (hgd : o.guard = none) (sl x : Operand) (t u : TypeId)
    (ho : o.op = .call { callee := .builtin .append, args := #[sl, x], argTypes := #[t, u] })
    (e : TypeId) (i : TypeInfo) (ht : P.underlying t = some (.slice e)) (hu : P.underlying u = some .string) (hi : P.info? e = some i) (hz : i.zero = some (.int .u8 0))
    (hsize : i.size = 1) (hby : i.bytes = 1)
    (v : Value) (n : Nat) (xs : List Value) (hs : a.eval sl = v) (hown : w.ownsRow 0 e 1 v n xs) (s : ByteArray) (hx : a.eval x = .string s)
    (h63 : n + s.size ≤ maxLen) (hbytes : n + s.size ≤ 140737488355328)
    (h : ∀ v' w', w'.ownsRow 0 e 1 v' (n + s.size) (xs ++ Lib.strCells s) → Keeps (own v) w w' → FSub (own v') (own v) w.heap.size → wpList P ops Q rest (a.put o.dst v') w') : wpList P ops Q (o :: rest) a w := by
  refine wpList_plain hgd fun K hK => ?_
  obtain ⟨v', w', hr, h2, h3, h4⟩ := run_append_str_sharp (P := P) w t u o.type e i ht hu hi hz hsize hby v n xs hown s h63 hbytes
  unfold Oper.wp execOp
  simp only [ho, resolve, invoke, builtin, Sem.run_bind, Sem.run_pure, Result.andThen_ok, List.map_toArray, List.map_cons, List.map_nil, hs, hx, hr]
  exact hK _ _ (h v' w' h2 h3 h4)
end
theorem strCells_nb (s : ByteArray) : Lib.strCells s = (nb s.data.toList).map (.int .u8) := by simp [Lib.strCells, nb]
/-- The cells of a Cutter. -/
def CC (x0 x1 x2 x3 x4 x5 x6 : Value) : Obj := .cells #[x0, x1, x2, x3, x4, x5, x6] 56 (0, 0)
theorem cell7 {w : World} {b : Nat} {x0 x1 x2 x3 x4 x5 x6 : Value} (h : w.heap[b]? = some (CC x0 x1 x2 x3 x4 x5 x6)) :
    w.cell? ⟨b, 0, none⟩ = some x0 ∧ w.cell? ⟨b, 1, none⟩ = some x1 ∧ w.cell? ⟨b, 2, none⟩ = some x2 ∧ w.cell? ⟨b, 3, none⟩ = some x3 ∧ w.cell? ⟨b, 4, none⟩ = some x4 ∧ w.cell? ⟨b, 5, none⟩ = some x5 ∧ w.cell? ⟨b, 6, none⟩ = some x6 := by
  unfold CC at h
  refine ⟨?_, ?_, ?_, ?_, ?_, ?_, ?_⟩ <;> simp [World.cell?, h]
theorem free7 {w : World} {b : Nat} {x0 x1 x2 x3 x4 x5 x6 : Value} (h : w.heap[b]? = some (CC x0 x1 x2 x3 x4 x5 x6)) :
    w.frozen? ⟨b, 0, none⟩ = false ∧ w.frozen? ⟨b, 1, none⟩ = false ∧ w.frozen? ⟨b, 2, none⟩ = false ∧ w.frozen? ⟨b, 3, none⟩ = false ∧ w.frozen? ⟨b, 4, none⟩ = false ∧ w.frozen? ⟨b, 5, none⟩ = false ∧ w.frozen? ⟨b, 6, none⟩ = false := by
  unfold CC at h
  refine ⟨?_, ?_, ?_, ?_, ?_, ?_, ?_⟩ <;> simp [World.frozen?, h]
theorem set7_0 {w : World} {b : Nat} {x0 x1 x2 x3 x4 x5 x6 : Value} (h : w.heap[b]? = some (CC x0 x1 x2 x3 x4 x5 x6)) (v : Value) : (w.setCell ⟨b, 0, none⟩ v).heap[b]? = some (CC v x1 x2 x3 x4 x5 x6) := by
  rw [heap_setCell_same w b 0 _ 56 v h]; rfl
theorem set7_1 {w : World} {b : Nat} {x0 x1 x2 x3 x4 x5 x6 : Value} (h : w.heap[b]? = some (CC x0 x1 x2 x3 x4 x5 x6)) (v : Value) : (w.setCell ⟨b, 1, none⟩ v).heap[b]? = some (CC x0 v x2 x3 x4 x5 x6) := by
  rw [heap_setCell_same w b 1 _ 56 v h]; rfl
theorem set7_2 {w : World} {b : Nat} {x0 x1 x2 x3 x4 x5 x6 : Value} (h : w.heap[b]? = some (CC x0 x1 x2 x3 x4 x5 x6)) (v : Value) : (w.setCell ⟨b, 2, none⟩ v).heap[b]? = some (CC x0 x1 v x3 x4 x5 x6) := by
  rw [heap_setCell_same w b 2 _ 56 v h]; rfl
theorem set7_3 {w : World} {b : Nat} {x0 x1 x2 x3 x4 x5 x6 : Value} (h : w.heap[b]? = some (CC x0 x1 x2 x3 x4 x5 x6)) (v : Value) : (w.setCell ⟨b, 3, none⟩ v).heap[b]? = some (CC x0 x1 x2 v x4 x5 x6) := by
  rw [heap_setCell_same w b 3 _ 56 v h]; rfl
theorem set7_4 {w : World} {b : Nat} {x0 x1 x2 x3 x4 x5 x6 : Value} (h : w.heap[b]? = some (CC x0 x1 x2 x3 x4 x5 x6)) (v : Value) : (w.setCell ⟨b, 4, none⟩ v).heap[b]? = some (CC x0 x1 x2 x3 v x5 x6) := by
  rw [heap_setCell_same w b 4 _ 56 v h]; rfl
theorem set7_5 {w : World} {b : Nat} {x0 x1 x2 x3 x4 x5 x6 : Value} (h : w.heap[b]? = some (CC x0 x1 x2 x3 x4 x5 x6)) (v : Value) : (w.setCell ⟨b, 5, none⟩ v).heap[b]? = some (CC x0 x1 x2 x3 x4 v x6) := by
  rw [heap_setCell_same w b 5 _ 56 v h]; rfl
theorem set7_6 {w : World} {b : Nat} {x0 x1 x2 x3 x4 x5 x6 : Value} (h : w.heap[b]? = some (CC x0 x1 x2 x3 x4 x5 x6)) (v : Value) : (w.setCell ⟨b, 6, none⟩ v).heap[b]? = some (CC x0 x1 x2 x3 x4 x5 v) := by
  rw [heap_setCell_same w b 6 _ 56 v h]; rfl
theorem cell_of_one {w : World} {k : Nat} {x : Value} {t : TypeId} (h : w.heap[k]? = some (.cells #[x] t (0, 0))) : w.cell? ⟨k, 0, none⟩ = some x := by simp [World.cell?, h]
theorem free_of_one {w : World} {k : Nat} {x : Value} {t : TypeId} (h : w.heap[k]? = some (.cells #[x] t (0, 0))) : w.frozen? ⟨k, 0, none⟩ = false := by simp [World.frozen?, h]
theorem one_setCell {w : World} {k : Nat} {x v : Value} {t : TypeId} (h : w.heap[k]? = some (.cells #[x] t (0, 0))) : (w.setCell ⟨k, 0, none⟩ v).heap[k]? = some (.cells #[v] t (0, 0)) := by
  rw [heap_setCell_same w k 0 _ t v h]; rfl
theorem heap_alloc_lt {w : World} {o o' : Obj} {b : Nat} (h : w.heap[b]? = some o') : (w.alloc o).heap[b]? = some o' := (Below.heap_alloc _ _ _ (lt_of_block h)).trans h
theorem row_form {w : World} {e : TypeId} {v : Value} {n : Nat} {xs : List Value} (hr : w.ownsRow 0 e 1 v n xs) : ∃ a cap, v = .slice a n cap := by
  rcases hr.2 with ⟨rfl, rfl⟩ | ⟨g, cap, cur, rfl, _⟩
  · exact ⟨_, _, rfl⟩
  · exact ⟨_, _, rfl⟩
set_option maxHeartbeats 400000 in
theorem New_any (w : World) : Calls Try.prog 15 #[] w fun e w' => e = .returned (.pointer (some ⟨w.heap.size, 0, none⟩)) ∧ w' = w.alloc (.cells #[.slice none 0 0, .int .i64 0, .pointer none, .int .i64 0, .int .i64 0, .bool true, .bool false] 56) := by
  go_enter Try.func15, Try.ntmps15
  go_wp2
  go_ret
  exact ⟨rfl, rfl⟩
/-- What is left of a slice behind its first cells. -/
def leftV (a : Option Addr) (n c k : Nat) : Value := .slice (match a with | none => none | some x => if c = k then some x else some ⟨x.block, x.off + k, x.spot⟩) (n - k) (c - k)
set_option maxHeartbeats 400000 in
theorem left_none (w : World) (b : Nat) (c0 : w.cell? ⟨b, 0, none⟩ = some (.slice none 0 0)) (c1 : w.cell? ⟨b, 1, none⟩ = some (.int .i64 0)) :
    Calls Try.prog 27 #[.pointer (some ⟨b, 0, none⟩)] w fun e w' => e = .returned (.slice none 0 0) ∧ ∃ k, w' = w.drewN k := by
  go_enter Try.func27, Try.ntmps27
  go_wp2
  go_quiet (fail)
  go_wp2
  go_ret
  exact ⟨rfl, _, rfl⟩
set_option maxHeartbeats 400000 in
theorem left_some (w : World) (b g n c k : Nat) (hk : k ≤ n) (hn : n ≤ c) (hc : c ≤ maxLen) (c0 : w.cell? ⟨b, 0, none⟩ = some (.slice (some ⟨g, 0, none⟩) n c)) (c1 : w.cell? ⟨b, 1, none⟩ = some (.int .i64 k)) :
    Calls Try.prog 27 #[.pointer (some ⟨b, 0, none⟩)] w fun e w' => e = .returned (leftV (some ⟨g, 0, none⟩) n c k) ∧ ∃ k, w' = w.drewN k := by
  unfold maxLen at hc
  go_enter Try.func27, Try.ntmps27
  go_wp2
  go_quiet (fail)
  go_wp2
  all_goals
    go_ret
    exact ⟨by simp_all [leftV], _, rfl⟩
theorem leftV_src {w : World} {g n c k : Nat} {l : List UInt8} (hr : w.ownsRow 0 5 1 (.slice (some ⟨g, 0, none⟩) n c) n ((nb l).map (.int .u8))) (hk : k ≤ n) (hn : n = l.length) :
    ∃ o, leftV (some ⟨g, 0, none⟩) n c k = .slice (some ⟨g, o, none⟩) (l.drop k).length (c - k) ∧ (l.drop k).length ≤ c - k ∧ ∀ j, j < (l.drop k).length → w.cell? ⟨g, o + j, none⟩ = some (.int .u8 ((l.drop k).getD j 0).toNat) := by
  subst hn
  have hc : l.length ≤ c := by
    rcases hr.2 with ⟨h, _⟩ | ⟨g', cap, cur, h, _, _, r, _⟩
    · simp at h
    · simp at h; omega
  have hcell := hr.cells (g := g) rfl
  by_cases e : c = k
  · refine ⟨0, by simp [leftV, e], by simp; omega, fun j hj => ?_⟩
    simp at hj; omega
  · refine ⟨k, by simp [leftV, e], by simp; omega, fun j hj => ?_⟩
    have hj' : k + j < l.length := by simp at hj; omega
    have := hcell (k + j) (.int .u8 ((l.drop k).getD j 0).toNat) (by simp [nb, List.getD, hj'])
    have ha : ((⟨g, 0, none⟩ : Addr).add (k + j)) = ⟨g, k + j, none⟩ := by unfold Addr.add; split <;> simp_all
    rw [ha] at this
    exact this
/-- What move leaves. -/
def Moved (b : Nat) (l : List UInt8) (x3 x4 x5 x6 : Value) (w w' : World) : Prop :=
  ∃ k v, w'.heap[b]? = some (CC v (.int .i64 0) (.pointer (some ⟨k, 0, none⟩)) x3 x4 x5 x6) ∧ w'.heap[k]? = some (.cells #[.int .i64 l.length] 3 (0, 0)) ∧ w'.ownsRow 0 5 1 v l.length ((nb l).map (.int .u8)) ∧
    Keeps [b] w w' ∧ w.heap.size ≤ k ∧ FSub (own v) [] w.heap.size
set_option maxHeartbeats 1000000 in
theorem move_none (w : World) (b : Nat) (x2 x3 x4 x5 x6 : Value) (hb : w.heap[b]? = some (CC (.slice none 0 0) (.int .i64 0) x2 x3 x4 x5 x6)) :
    Calls Try.prog 36 #[.pointer (some ⟨b, 0, none⟩)] w fun e w' => e = .returned (.tuple #[]) ∧ Moved b [] x3 x4 x5 x6 w w' := by
  obtain ⟨c0, c1, c2, c3, c4, c5, c6⟩ := cell7 hb
  obtain ⟨f0, f1, f2, f3, f4, f5, f6⟩ := free7 hb
  have hlt := lt_of_block hb
  have HB := Lib.hid hb; clear hb
  go_enter Try.func36, Try.ntmps36
  go_wp2_with fail
  refine (left_none _ b c0 c1).mono ?_; rintro e w1 ⟨rfl, nq, rfl⟩
  have HB1 : Hid ((w.drewN nq).heap[b]? = some (CC (.slice none 0 0) (.int .i64 0) x2 x3 x4 x5 x6)) := HB
  have hk1 : Keeps [b] w (w.drewN nq) := (Keeps.refl _ _).drewN _
  clear c0 c1 c2 c3 c4 c5 c6 f0 f1 f2 f3 f4 f5 f6 HB
  generalize w.drewN nq = w1 at *
  obtain ⟨c0, c1, c2, c3, c4, c5, c6⟩ := cell7 HB1.out
  obtain ⟨f0, f1, f2, f3, f4, f5, f6⟩ := free7 HB1.out
  have hlt1 := lt_of_block HB1.out
  go_wp2_with fail
  go_end0
  refine ⟨rfl, w1.heap.size, .slice none 0 0, heap_alloc_lt (set7_2 (set7_1 (set7_0 HB1.out _) _) _), ?_, World.ownsRow_nil _ _ _ _, ?_, hk1.size, fun g hg => by simp [own_nil] at hg⟩
  · have := heap_alloc_new (((w1.setCell ⟨b, 0, none⟩ (.slice none 0 0)).setCell ⟨b, 1, none⟩ (.int .i64 0)).setCell ⟨b, 2, none⟩ (.pointer (some ⟨w1.heap.size, 0, none⟩))) (.cells #[.int .i64 0] 3)
    simpa using this
  · exact (((hk1.setCell _ _ (by simp)).setCell _ _ (by simp)).setCell _ _ (by simp)).alloc _
set_option maxHeartbeats 1000000 in
theorem move_some (w : World) (b g n c k : Nat) (l : List UInt8) (x2 x3 x4 x5 x6 : Value) (hb : w.heap[b]? = some (CC (.slice (some ⟨g, 0, none⟩) n c) (.int .i64 k) x2 x3 x4 x5 x6))
    (hr : w.ownsRow 0 5 1 (.slice (some ⟨g, 0, none⟩) n c) n ((nb l).map (.int .u8))) (hk : k ≤ n) (hn : n = l.length) (hl : l.length ≤ 1000000) :
    Calls Try.prog 36 #[.pointer (some ⟨b, 0, none⟩)] w fun e w' => e = .returned (.tuple #[]) ∧ Moved b (l.drop k) x3 x4 x5 x6 w w' := by
  obtain ⟨c0, c1, c2, c3, c4, c5, c6⟩ := cell7 hb
  obtain ⟨f0, f1, f2, f3, f4, f5, f6⟩ := free7 hb
  have hlt := lt_of_block hb
  have HB := Lib.hid hb; clear hb
  have hcc : n ≤ c ∧ c ≤ maxLen := by
    rcases hr.2 with ⟨h, _⟩ | ⟨g', cap, cur, h, _, _, r1, r2, _⟩
    · simp at h
    · simp at h; omega
  obtain ⟨o, ho, hle, hsrc⟩ := leftV_src hr hk hn
  have HO := Lib.hid ho; clear ho
  have HS := Lib.hid hsrc; clear hsrc
  obtain ⟨i0, hi, hz0, hz1, hz2⟩ := info_parts Try.info8
  go_enter Try.func36, Try.ntmps36
  go_wp2_with fail
  refine (left_some _ b g n c k hk hcc.1 hcc.2 c0 c1).mono ?_; rintro e w1 ⟨rfl, nq, rfl⟩
  rw [HO.out]
  have HB1 : Hid ((w.drewN nq).heap[b]? = some (CC (.slice (some ⟨g, 0, none⟩) n c) (.int .i64 k) x2 x3 x4 x5 x6)) := HB
  have hk1 : Keeps [b] w (w.drewN nq) := (Keeps.refl _ _).drewN _
  have HS1 : Hid (∀ j, j < (l.drop k).length → (w.drewN nq).cell? ⟨g, o + j, none⟩ = some (.int .u8 ((l.drop k).getD j 0).toNat)) := HS
  have hml : (l.drop k).length ≤ 1000000 := by simp; omega
  clear c0 c1 c2 c3 c4 c5 c6 f0 f1 f2 f3 f4 f5 f6 HB HO HS hr
  generalize w.drewN nq = w1 at *
  generalize hm : l.drop k = m at *
  have HM := Lib.hid hm; clear hm
  go_wp2_with (at_builtin; refine wpList_append_sharp _ rfl _ _ 33 rfl 5 i0 (.int .u8 0) 1 Try.underlying33 hi hz0 hz1 hz2 rfl (.slice none 0 0) 0 [] rfl (World.ownsRow_nil _ _ _ _) ⟨g, o, none⟩ m.length (c - k) ((nb m).map (.int .u8)) rfl (by simp [nb]) ?c0 (ints_one _ _) ?c3 ?c4 ?_)
  case c0 =>
    intro j u hj
    have hj2 : j < m.length := by
      have := (List.getElem?_eq_some_iff.1 hj).1
      simpa [nb] using this
    have ha : ((⟨g, o, none⟩ : Addr).add j) = ⟨g, o + j, none⟩ := by unfold Addr.add; split <;> simp_all
    rw [ha, HS1.out j hj2, ← hj]
    simp [nb, List.getD, hj2]
  case c3 => unfold maxLen; omega
  case c4 => omega
  intro v2 w2 hown2 hk2 hs2 _
  obtain ⟨a2, cap2, rfl⟩ := row_form hown2
  have HB2 : Hid (w2.heap[b]? = some (CC (.slice (some ⟨g, 0, none⟩) n c) (.int .i64 k) x2 x3 x4 x5 x6)) := Lib.hid (hk2.heap HB1.out (by simp [own_nil]))
  have hk3 : Keeps [b] w w2 := hk1.step hk2 (by simp [own_nil])
  have hsz : w.heap.size ≤ w1.heap.size := hk1.size
  have hsz2 : w1.heap.size ≤ w2.heap.size := hk2.size
  have hs3 : FSub (own (.slice a2 m.length cap2)) [] w.heap.size := by have := hs2.mono hsz; rw [own_nil] at this; simpa using this
  have HOW : Hid (w2.ownsRow 0 5 1 (.slice a2 m.length cap2) m.length ((nb m).map (.int .u8))) := Lib.hid (by simpa using hown2)
  clear hown2 hk2 hs2 HB1 hk1
  obtain ⟨c0, c1, c2, c3, c4, c5, c6⟩ := cell7 HB2.out
  obtain ⟨f0, f1, f2, f3, f4, f5, f6⟩ := free7 HB2.out
  have hlt2 := lt_of_block HB2.out
  go_wp2_with fail
  go_end0
  rw [HM.out]
  have hk4 : Keeps [b] w2 (((w2.setCell ⟨b, 0, none⟩ (.slice a2 m.length cap2)).setCell ⟨b, 1, none⟩ (.int .i64 0)).setCell ⟨b, 2, none⟩ (.pointer (some ⟨w2.heap.size, 0, none⟩))) := (((Keeps.refl _ _).setCell _ _ (by simp)).setCell _ _ (by simp)).setCell _ _ (by simp)
  have hne := row_ne HOW.out HB2.out (by decide)
  refine ⟨rfl, w2.heap.size, .slice a2 m.length cap2, heap_alloc_lt (set7_2 (set7_1 (set7_0 HB2.out _) _) _), ?_, ((hk4.row HOW.out (fun g hg => by simpa using hne g hg)).alloc _), ?_, by omega, hs3⟩
  · have := heap_alloc_new (((w2.setCell ⟨b, 0, none⟩ (.slice a2 m.length cap2)).setCell ⟨b, 1, none⟩ (.int .i64 0)).setCell ⟨b, 2, none⟩ (.pointer (some ⟨w2.heap.size, 0, none⟩))) (.cells #[.int .i64 m.length] 3)
    simpa using this
  · exact (hk3.step hk4 (fun _ h => h)).alloc _
end Go.Proofs.Ytfkmgmnbkajgaaa
