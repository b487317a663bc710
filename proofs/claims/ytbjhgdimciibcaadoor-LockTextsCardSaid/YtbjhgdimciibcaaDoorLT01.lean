/-
  The world: what is kept, which rows are owned, an append whose row is told.
-/
import Derived.Test.YtbjhgdimciibcaaDoorRows
import Derived.WalkKit
import Derived.WalkSpells
import Derived.WalkLawsBesides
import Derived.Deep.QuietTactic
import Derived.BigQuiet
import Derived.Lib.Hide
set_option linter.unusedSimpArgs false
set_option linter.unusedVariables false
namespace Go.Proofs.YtbjhgdimciibcaaDoor
open Go.RowKit
/-- The block that a slice's row lies in. -/
def own (v : Value) : List Nat := v.ownBlock.toList
/-- What stands in F' stood in F, or is a block from n on. -/
def FSub (F' F : List Nat) (n : Nat) : Prop := ∀ g ∈ F', g ∈ F ∨ n ≤ g
theorem FSub.refl (F : List Nat) (n : Nat) : FSub F F n := fun _ h => .inl h
theorem FSub.trans {F G H : List Nat} {m n k : Nat} (h : FSub H G m) (h2 : FSub G F n) (hk : k ≤ m) (hk2 : k ≤ n) : FSub H F k :=
  fun g hg => (h g hg).elim (fun h3 => (h2 g h3).imp id fun h4 => Nat.le_trans hk2 h4) fun h3 => .inr (Nat.le_trans hk h3)
theorem FSub.mono {F G : List Nat} {m k : Nat} (h : FSub G F m) (hk : k ≤ m) : FSub G F k := fun g hg => (h g hg).imp id fun h => Nat.le_trans hk h
/-- All blocks that were there, but those of F, are as they were. -/
structure Keeps (F : List Nat) (w w' : World) : Prop where
  os : w'.os = w.os
  tape : w'.tape = w.tape
  output : w'.output = w.output
  size : w.heap.size ≤ w'.heap.size
  block : ∀ k, k < w.heap.size → k ∉ F → w'.heap[k]? = w.heap[k]?
theorem Keeps.refl (F : List Nat) (w : World) : Keeps F w w := ⟨rfl, rfl, rfl, Nat.le_refl _, fun _ _ _ => rfl⟩
theorem Keeps.trans {F G : List Nat} {a b c : World} (h : Keeps F a b) (k : Keeps G b c) (hG : FSub G F a.heap.size) : Keeps F a c :=
  ⟨k.os.trans h.os, k.tape.trans h.tape, k.output.trans h.output, Nat.le_trans h.size k.size, fun i hi hF =>
    (k.block i (Nat.lt_of_lt_of_le hi h.size) (fun hg => by rcases hG i hg with h1 | h1; exact hF h1; omega)).trans (h.block i hi hF)⟩
theorem Keeps.step {F G : List Nat} {a b c : World} (h : Keeps F a b) (k : Keeps G b c) (hG : ∀ g ∈ G, g ∈ F) : Keeps F a c := h.trans k fun g hg => .inl (hG g hg)
theorem Keeps.more {F G : List Nat} {a b : World} (h : Keeps F a b) (hG : ∀ g ∈ F, g ∈ G) : Keeps G a b := ⟨h.os, h.tape, h.output, h.size, fun i hi hF => h.block i hi fun x => hF (hG i x)⟩
theorem Keeps.drew {F : List Nat} {a b : World} (h : Keeps F a b) : Keeps F a b.drew := ⟨h.os, h.tape, h.output, h.size, h.block⟩
theorem Keeps.drewN {F : List Nat} {a b : World} (h : Keeps F a b) (n : Nat) : Keeps F a (b.drewN n) := ⟨h.os, h.tape, h.output, h.size, h.block⟩
theorem Keeps.alloc {F : List Nat} {a b : World} (h : Keeps F a b) (o : Obj) : Keeps F a (b.alloc o) :=
  ⟨h.os, h.tape, h.output, by have := h.size; simp; omega, fun i hi hF => (Below.heap_alloc _ _ _ (Nat.lt_of_lt_of_le hi h.size)).trans (h.block i hi hF)⟩
theorem Keeps.setCell {F : List Nat} {a b : World} (h : Keeps F a b) (p : Addr) (v : Value) (hp : p.block ∈ F ∨ a.heap.size ≤ p.block) : Keeps F a (b.setCell p v) :=
  ⟨h.os, h.tape, h.output, by have := h.size; simpa using this, fun i hi hF => (Below.heap_setCell _ _ _ _ (fun e => by rcases hp with h1 | h1; exact hF (e ▸ h1); omega)).trans (h.block i hi hF)⟩
theorem Keeps.below {a b : World} (h : Keeps [] a b) : Below a.heap.size a b := ⟨h.os, h.tape, h.output, h.size, fun k hk => h.block k hk (by simp)⟩
theorem Keeps.cell {F : List Nat} {a b : World} (h : Keeps F a b) {p : Addr} {v : Value} (hv : a.cell? p = some v) (hp : p.block ∉ F) : b.cell? p = some v :=
  (World.cell?_of_block (h.block p.block (World.block_lt_of_cell? a p hv) hp)).trans hv
theorem Keeps.heap {F : List Nat} {a b : World} (h : Keeps F a b) {k : Nat} {o : Obj} (hv : a.heap[k]? = some o) (hp : k ∉ F) : b.heap[k]? = some o :=
  (h.block k (lt_of_block hv) hp).trans hv
theorem Keeps.row {F : List Nat} {a b : World} (h : Keeps F a b) {e : TypeId} {v : Value} {n : Nat} {xs : List Value} (hr : a.ownsRow 0 e 1 v n xs) (hp : ∀ g ∈ own v, g ∉ F) : b.ownsRow 0 e 1 v n xs := by
  obtain ⟨h1, h2⟩ := hr
  refine ⟨h1, ?_⟩
  rcases h2 with h2 | ⟨g, cap, cur, rfl, hg, hh, r⟩
  · exact .inl h2
  · exact .inr ⟨g, cap, cur, rfl, hg, h.heap hh (hp g (by simp [own, Value.ownBlock])), r⟩
section
variable {P : Program} (w : World)
end
theorem heap_alloc_lt {w : World} {o o' : Obj} {b : Nat} (h : w.heap[b]? = some o') : (w.alloc o).heap[b]? = some o' := (Below.heap_alloc _ _ _ (lt_of_block h)).trans h
end Go.Proofs.YtbjhgdimciibcaaDoor
/-
  Texts as lists of bytes.
-/
namespace Go.Proofs.YtbjhgdimciibcaaDoor
open Go.RowKit
/-- Bytes as a text. -/
def bs (l : List UInt8) : ByteArray := ⟨l.toArray⟩
theorem bs_list (l : List UInt8) : (bs l).data.toList = l := by simp [bs]
theorem bs_of (s : ByteArray) : bs s.data.toList = s := by cases s; simp [bs]
end Go.Proofs.YtbjhgdimciibcaaDoor
