/-
  The world: what is kept, which rows are owned, an append whose row is told.
-/
import Derived.Test.YtbnhcggjcdipeaaGreatDoorRows
import Derived.WalkKit
import Derived.WalkSpells
import Derived.WalkLawsBesides
import Derived.Deep.QuietTactic
import Derived.BigQuiet
import Derived.Lib.Hide
set_option linter.unusedSimpArgs false
set_option linter.unusedVariables false
namespace Go.Proofs.YtbnhcggjcdipeaaGreatDoor
open Go.RowKit
/-- The block that a slice's row lies in. -/
def own (v : Value) : List Nat := v.ownBlock.toList
/-- What stands in F' stood in F, or is a block from n on. -/
def FSub (F' F : List Nat) (n : Nat) : Prop := ∀ g ∈ F', g ∈ F ∨ n ≤ g
theorem FSub.refl (F : List Nat) (n : Nat) : FSub F F n := fun _ h => .inl h
theorem FSub.trans {F G H : List Nat} {m n k : Nat} (h : FSub H G m) (h2 : FSub G F n) (hk : k ≤ m) (hk2 : k ≤ n) : FSub H F k :=
  fun g hg => (h g hg).elim (fun h3 => (h2 g h3).imp id fun h4 => Nat.le_trans hk2 h4) fun h3 => .inr (Nat.le_trans hk h3)
theorem FSub.mono {F G : List Nat} {m k : Nat} (h : FSub G F m) (hk : k ≤ m) : FSub G F k := fun g hg => (h g hg).imp id fun h => Nat.le_trans hk h
theorem own_nil : own (.slice none 0 0) = [] := rfl
/-- All blocks that were there, but those of F, are as they were. -/
structure Keeps (F : List Nat) (w w' : World) : Prop where
  os : w'.os = w.os
  tape : w'.tape = w.tape
  output : w'.output = w.output
  size : w.heap.size ≤ w'.heap.size
  block : ∀ k, k < w.heap.size → k ∉ F → w'.heap[k]? = w.heap[k]?
theorem Keeps.refl (F : List Nat) (w : World) : Keeps F w w := ⟨rfl, rfl, rfl, Nat.le_refl _, fun _ _ _ => rfl⟩
theorem Keeps.trans {F G : List Nat} {a b c : World} (h : Keeps F a b) (k : Keeps G b c) (hG : FSub G F a.heap.size) : Keeps F a c :=
  ⟨k.os.trans h.os, k.tape.trans h.tape, k.output.trans h.output, Nat.le_trans h.size k.size, fun i hi hF =>
    (k.block i (Nat.lt_of_lt_of_le hi h.size) (fun hg => by rcases hG i hg with h1 | h1; exact hF h1; omega)).trans (h.block i hi hF)⟩
theorem Keeps.step {F G : List Nat} {a b c : World} (h : Keeps F a b) (k : Keeps G b c) (hG : ∀ g ∈ G, g ∈ F) : Keeps F a c := h.trans k fun g hg => .inl (hG g hg)
theorem Keeps.more {F G : List Nat} {a b : World} (h : Keeps F a b) (hG : ∀ g ∈ F, g ∈ G) : Keeps G a b := ⟨h.os, h.tape, h.output, h.size, fun i hi hF => h.block i hi fun x => hF (hG i x)⟩
theorem Keeps.drew {F : List Nat} {a b : World} (h : Keeps F a b) : Keeps F a b.drew := ⟨h.os, h.tape, h.output, h.size, h.block⟩
theorem Keeps.drewN {F : List Nat} {a b : World} (h : Keeps F a b) (n : Nat) : Keeps F a (b.drewN n) := ⟨h.os, h.tape, h.output, h.size, h.block⟩
theorem Keeps.alloc {F : List Nat} {a b : World} (h : Keeps F a b) (o : Obj) : Keeps F a (b.alloc o) :=
  ⟨h.os, h.tape, h.output, by have := h.size; simp; omega, fun i hi hF => (Below.heap_alloc _ _ _ (Nat.lt_of_lt_of_le hi h.size)).trans (h.block i hi hF)⟩
theorem Keeps.setCell {F : List Nat} {a b : World} (h : Keeps F a b) (p : Addr) (v : Value) (hp : p.block ∈ F ∨ a.heap.size ≤ p.block) : Keeps F a (b.setCell p v) :=
  ⟨h.os, h.tape, h.output, by have := h.size; simpa using this, fun i hi hF => (Below.heap_setCell _ _ _ _ (fun e => by rcases hp with h1 | h1; exact hF (e ▸ h1); omega)).trans (h.block i hi hF)⟩
theorem Keeps.grown {F : List Nat} {a b c : World} {v : Value} (h : Keeps F a b) (k : b.grownBy c v.ownBlock) (hv : ∀ g ∈ own v, g ∈ F ∨ a.heap.size ≤ g) : Keeps F a c :=
  ⟨k.os.trans h.os, k.tape.trans h.tape, k.output.trans h.output, Nat.le_trans h.size k.size, fun i hi hF =>
    (k.block i (Nat.lt_of_lt_of_le hi h.size) (fun e => by rcases hv i (by simp [own, ← e]) with h1 | h1; exact hF h1; omega)).trans (h.block i hi hF)⟩
theorem Keeps.below {a b : World} (h : Keeps [] a b) : Below a.heap.size a b := ⟨h.os, h.tape, h.output, h.size, fun k hk => h.block k hk (by simp)⟩
theorem Keeps.cell {F : List Nat} {a b : World} (h : Keeps F a b) {p : Addr} {v : Value} (hv : a.cell? p = some v) (hp : p.block ∉ F) : b.cell? p = some v :=
  (World.cell?_of_block (h.block p.block (World.block_lt_of_cell? a p hv) hp)).trans hv
theorem Keeps.heap {F : List Nat} {a b : World} (h : Keeps F a b) {k : Nat} {o : Obj} (hv : a.heap[k]? = some o) (hp : k ∉ F) : b.heap[k]? = some o :=
  (h.block k (lt_of_block hv) hp).trans hv
theorem Keeps.row {F : List Nat} {a b : World} (h : Keeps F a b) {e : TypeId} {v : Value} {n : Nat} {xs : List Value} (hr : a.ownsRow 0 e 1 v n xs) (hp : ∀ g ∈ own v, g ∉ F) : b.ownsRow 0 e 1 v n xs := by
  obtain ⟨h1, h2⟩ := hr
  refine ⟨h1, ?_⟩
  rcases h2 with h2 | ⟨g, cap, cur, rfl, hg, hh, r⟩
  · exact .inl h2
  · exact .inr ⟨g, cap, cur, rfl, hg, h.heap hh (hp g (by simp [own, Value.ownBlock])), r⟩
theorem row_lt {w : World} {e : TypeId} {v : Value} {n : Nat} {xs : List Value} (hr : w.ownsRow 0 e 1 v n xs) : ∀ g ∈ own v, g < w.heap.size := by
  intro g hg
  exact (hr.lt g (by simpa [own] using hg)).2
/-- An owned row's block, against a block that is known. -/
theorem row_ne {w : World} {e : TypeId} {v : Value} {n : Nat} {xs : List Value} (hr : w.ownsRow 0 e 1 v n xs) {k : Nat} {cs : Array Value} {t : TypeId} {fr : Nat × Nat} (hk : w.heap[k]? = some (.cells cs t fr)) (ht : t ≠ e) : ∀ g ∈ own v, g ≠ k := by
  intro g hg e1
  subst e1
  rcases hr.2 with ⟨rfl, _⟩ | ⟨g', cap, cur, rfl, _, hh, _⟩
  · simp [own, Value.ownBlock] at hg
  · simp [own, Value.ownBlock] at hg
    subst hg
    rw [hh] at hk
    simp at hk
    exact ht hk.2.1.symm
section
variable {P : Program} (w : World)
/-- AN APPEND WHOSE ROW IS TOLD: the row that it was, or a new one. -/
theorem run_append_sharp (t ty e : TypeId) (i : TypeInfo) (z : Value) (bytes : Nat) (ht : P.underlying t = some (.slice e)) (hi : P.info? e = some i) (hz : i.zero = some z)
    (hsize : i.size = 1) (hby : i.bytes = bytes) (hzs : z.cells.size = 1)
    (v : Value) (n : Nat) (xs : List Value) (hown : w.ownsRow 0 e 1 v n xs)
    (a : Addr) (m c : Nat) (news : List Value) (hl : news.length = m) (hnews : ∀ j u, news[j]? = some u → w.cell? (a.add j) = some u) (h1 : ∀ u ∈ news, u.oneCell' = true)
    (h63 : n + m ≤ maxLen) (hbytes : (n + m) * bytes ≤ 140737488355328) :
    ∃ v' w', (Builtin.append_ #[t, t] ty #[v, .slice (some a) m c]).run P w = .ok v' w' ∧ w'.ownsRow 0 e 1 v' (n + m) (xs ++ news) ∧ Keeps (own v) w w' ∧
      FSub (own v') (own v) w.heap.size ∧ (v' = .slice none 0 0 → m = 0) := by
  have kept : ∀ {v0 : Value} {w' : World}, w.grownBy w' v0.ownBlock → Keeps (own v0) w w' := fun hg => (Keeps.refl _ w).grown hg fun g h => .inl h
  have zero : ∀ {b : Nat} {w' : World} {v' : Value} {k : Nat} {ys : List Value}, w'.ownsRow b e 1 v' k ys → w'.ownsRow 0 e 1 v' k ys := fun h => ⟨h.1, h.2.imp id fun ⟨g, cap, cur, r1, _, r⟩ => ⟨g, cap, cur, r1, Nat.zero_le _, r⟩⟩
  rcases hown.2 with ⟨rfl, rfl⟩ | ⟨g, cap, cur, rfl, hbg, hg, hnc, hcm, hcs, htake⟩
  · obtain ⟨v', w', hr, ho, hgr, hz'⟩ := run_append_own (P := P) w w.heap.size t ty e i z 1 bytes ht hi hz hsize hby hzs (by decide) (.slice none 0 0) 0 xs ⟨hown.1, .inl ⟨rfl, rfl⟩⟩ a m c news (by simpa using hl) hnews h1 h63 hbytes (Nat.le_refl _)
    exact ⟨v', w', hr, zero ho, kept hgr, fun g hg => .inr (ho.lt g (by simpa [own] using hg)).1, fun h => (hz'.1 h).2⟩
  · by_cases hroom : n + m ≤ cap
    · obtain ⟨w', hr, ho, hgr⟩ := run_append_fits (P := P) w 0 t ty e i 1 ht hi hsize g n cap xs hown a m c news (by simpa using hl) hnews h1 hroom
      exact ⟨_, w', hr, ho, kept (v0 := .slice (some ⟨g, 0, none⟩) n cap) hgr, fun g hg => .inl hg, fun h => by simp at h⟩
    · obtain ⟨v', w', hr, ho, hgr⟩ := run_append_arg_grows (P := P) w t ty e i z 1 bytes ht hi hz hsize hby hzs (by decide) ⟨g, 0, none⟩ n cap xs (by simpa using hown.1) (hown.cells (g := g) rfl) a m c news (by simpa using hl) hnews (by omega) h63 hbytes
      refine ⟨v', w', hr, zero ho, (kept (v0 := .slice none 0 0) hgr).more (by simp [own, Value.ownBlock]), fun g hg => .inr (ho.lt g (by simpa [own] using hg)).1, fun h => ?_⟩
      subst h
      rcases ho.2 with ⟨_, h0⟩ | ⟨g', cap', cur', h', _⟩
      · omega
      · simp at h'
theorem wpList_append_sharp {ops : Array Oper} {rest : List Oper} {o : Oper} {a : Act} {Q : Exit → Act → World → Prop} (hgd : o.guard = none) (s x : Operand) (t : TypeId)
    (ho : o.op = .call { callee := .builtin .append, args := #[s, x], argTypes := #[t, t] })
    (e : TypeId) (i : TypeInfo) (z : Value) (bytes : Nat) (ht : P.underlying t = some (.slice e)) (hi : P.info? e = some i) (hz : i.zero = some z)
    (hsize : i.size = 1) (hby : i.bytes = bytes) (hzs : z.cells.size = 1)
    (v : Value) (n : Nat) (xs : List Value) (hs : a.eval s = v) (hown : w.ownsRow 0 e 1 v n xs)
    (ad : Addr) (m c : Nat) (news : List Value) (hx : a.eval x = .slice (some ad) m c) (hl : news.length = m) (hnews : ∀ j u, news[j]? = some u → w.cell? (ad.add j) = some u) (h1 : ∀ u ∈ news, u.oneCell' = true)
    (h63 : n + m ≤ maxLen) (hbytes : (n + m) * bytes ≤ 140737488355328)
    (h : ∀ v' w', w'.ownsRow 0 e 1 v' (n + m) (xs ++ news) → Keeps (own v) w w' → FSub (own v') (own v) w.heap.size → (v' = .slice none 0 0 → m = 0) → wpList P ops Q rest (a.put o.dst v') w') : wpList P ops Q (o :: rest) a w :=
  wpList_plain hgd fun K hK => by
    obtain ⟨v', w', hr, h2, h3, h4, h5⟩ := run_append_sharp (P := P) w t o.type e i z bytes ht hi hz hsize hby hzs v n xs hown ad m c news hl hnews h1 h63 hbytes
    unfold Oper.wp execOp
    simp only [ho, resolve, invoke, builtin, Sem.run_bind, Sem.run_pure, Result.andThen_ok, List.map_toArray, List.map_cons, List.map_nil, hs, hx, hr]
    exact hK _ _ (h v' w' h2 h3 h4 h5)
end
theorem one_new (w : World) (u : Value) (t : TypeId) : ∀ j x, [u][j]? = some x → (w.alloc (.cells #[u] t)).cell? ((⟨w.heap.size, 0, none⟩ : Addr).add j) = some x := by
  intro j x hj
  match j, hj with
  | 0, hj => simp at hj; subst hj; simp [Addr.add]
theorem heap_alloc_lt {w : World} {o o' : Obj} {b : Nat} (h : w.heap[b]? = some o') : (w.alloc o).heap[b]? = some o' := (Below.heap_alloc _ _ _ (lt_of_block h)).trans h
theorem row_form {w : World} {e : TypeId} {v : Value} {n : Nat} {xs : List Value} (hr : w.ownsRow 0 e 1 v n xs) : ∃ a cap, v = .slice a n cap := by
  rcases hr.2 with ⟨rfl, rfl⟩ | ⟨g, cap, cur, rfl, _⟩
  · exact ⟨_, _, rfl⟩
  · exact ⟨_, _, rfl⟩
/-- Numbers as cells, numbers as a text. -/
def nums (s : ByteArray) : List Int := s.data.toList.map fun b => (b.toNat : Int)
theorem nums_length (s : ByteArray) : (nums s).length = s.size := by simp [nums]
theorem ints_one (k : IntKind) (zs : List Int) : ∀ u ∈ zs.map (Value.int k), u.oneCell' = true := ints_oneCell k zs
theorem Tryz.info8 : (Tryz.prog.info? 5).map (fun i => (i.zero, i.size, i.bytes)) = some (some (.int .u8 0), 1, 1) := by kernel_rfl
end Go.Proofs.YtbnhcggjcdipeaaGreatDoor
/-
  Texts as lists of bytes.
-/
namespace Go.Proofs.YtbnhcggjcdipeaaGreatDoor
open Go.RowKit
/-- Bytes as a text. -/
def bs (l : List UInt8) : ByteArray := ⟨l.toArray⟩
theorem bs_list (l : List UInt8) : (bs l).data.toList = l := by simp [bs]
theorem bs_of (s : ByteArray) : bs s.data.toList = s := by cases s; simp [bs]
theorem bs_size (l : List UInt8) : (bs l).size = l.length := rfl
theorem bs_app (l m : List UInt8) : bs l ++ bs m = bs (l ++ m) := by
  apply ByteArray.ext; rw [ByteArray.data_append]; simp [bs]
/-- Bytes as numbers. -/
def nb (l : List UInt8) : List Int := l.map fun b => (b.toNat : Int)
theorem nb_length (l : List UInt8) : (nb l).length = l.length := by simp [nb]
theorem nb_app (l m : List UInt8) : nb (l ++ m) = nb l ++ nb m := by simp [nb]
theorem str_nb (l : List UInt8) : strOfNums (nb l) = bs l := by
  simp [strOfNums, nb, bs, Function.comp_def]
theorem nb_nums (s : ByteArray) : nums s = nb s.data.toList := rfl
theorem nb_getD (l : List UInt8) (i : Nat) : (nb l).getD i 0 = ((l.getD i 0).toNat : Int) := by
  by_cases h : i < l.length
  · simp [nb, List.getD, h]
  · simp [nb, List.getD, List.getElem?_eq_none (by omega : l.length ≤ i)]
end Go.Proofs.YtbnhcggjcdipeaaGreatDoor
