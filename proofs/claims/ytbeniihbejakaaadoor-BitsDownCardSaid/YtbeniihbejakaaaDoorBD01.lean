/-
  The world: what is kept, which rows are owned, an append whose row is told.
-/
import Derived.Test.YtbeniihbejakaaaDoorRows
import Derived.WalkKit
import Derived.WalkSpells
import Derived.WalkLawsBesides
import Derived.Deep.QuietTactic
import Derived.BigQuiet
import Derived.Lib.Hide
set_option linter.unusedSimpArgs false
set_option linter.unusedVariables false
namespace Go.Proofs.YtbeniihbejakaaaDoor
open Go.RowKit
/-- The block that a slice's row lies in. -/
def own (v : Value) : List Nat := v.ownBlock.toList
/-- What stands in F' stood in F, or is a block from n on. -/
def FSub (F' F : List Nat) (n : Nat) : Prop := ∀ g ∈ F', g ∈ F ∨ n ≤ g
theorem FSub.refl (F : List Nat) (n : Nat) : FSub F F n := fun _ h => .inl h
/-- All blocks that were there, but those of F, are as they were. -/
structure Keeps (F : List Nat) (w w' : World) : Prop where
  os : w'.os = w.os
  tape : w'.tape = w.tape
  output : w'.output = w.output
  size : w.heap.size ≤ w'.heap.size
  block : ∀ k, k < w.heap.size → k ∉ F → w'.heap[k]? = w.heap[k]?
theorem Keeps.refl (F : List Nat) (w : World) : Keeps F w w := ⟨rfl, rfl, rfl, Nat.le_refl _, fun _ _ _ => rfl⟩
theorem Keeps.trans {F G : List Nat} {a b c : World} (h : Keeps F a b) (k : Keeps G b c) (hG : FSub G F a.heap.size) : Keeps F a c :=
  ⟨k.os.trans h.os, k.tape.trans h.tape, k.output.trans h.output, Nat.le_trans h.size k.size, fun i hi hF =>
    (k.block i (Nat.lt_of_lt_of_le hi h.size) (fun hg => by rcases hG i hg with h1 | h1; exact hF h1; omega)).trans (h.block i hi hF)⟩
theorem Keeps.more {F G : List Nat} {a b : World} (h : Keeps F a b) (hG : ∀ g ∈ F, g ∈ G) : Keeps G a b := ⟨h.os, h.tape, h.output, h.size, fun i hi hF => h.block i hi fun x => hF (hG i x)⟩
theorem Keeps.drew {F : List Nat} {a b : World} (h : Keeps F a b) : Keeps F a b.drew := ⟨h.os, h.tape, h.output, h.size, h.block⟩
theorem Keeps.alloc {F : List Nat} {a b : World} (h : Keeps F a b) (o : Obj) : Keeps F a (b.alloc o) :=
  ⟨h.os, h.tape, h.output, by have := h.size; simp; omega, fun i hi hF => (Below.heap_alloc _ _ _ (Nat.lt_of_lt_of_le hi h.size)).trans (h.block i hi hF)⟩
theorem Keeps.setCell {F : List Nat} {a b : World} (h : Keeps F a b) (p : Addr) (v : Value) (hp : p.block ∈ F ∨ a.heap.size ≤ p.block) : Keeps F a (b.setCell p v) :=
  ⟨h.os, h.tape, h.output, by have := h.size; simpa using this, fun i hi hF => (Below.heap_setCell _ _ _ _ (fun e => by rcases hp with h1 | h1; exact hF (e ▸ h1); omega)).trans (h.block i hi hF)⟩
theorem Keeps.grown {F : List Nat} {a b c : World} {v : Value} (h : Keeps F a b) (k : b.grownBy c v.ownBlock) (hv : ∀ g ∈ own v, g ∈ F ∨ a.heap.size ≤ g) : Keeps F a c :=
  ⟨k.os.trans h.os, k.tape.trans h.tape, k.output.trans h.output, Nat.le_trans h.size k.size, fun i hi hF =>
    (k.block i (Nat.lt_of_lt_of_le hi h.size) (fun e => by rcases hv i (by simp [own, ← e]) with h1 | h1; exact hF h1; omega)).trans (h.block i hi hF)⟩
theorem Keeps.below {a b : World} (h : Keeps [] a b) : Below a.heap.size a b := ⟨h.os, h.tape, h.output, h.size, fun k hk => h.block k hk (by simp)⟩
theorem Keeps.cell {F : List Nat} {a b : World} (h : Keeps F a b) {p : Addr} {v : Value} (hv : a.cell? p = some v) (hp : p.block ∉ F) : b.cell? p = some v :=
  (World.cell?_of_block (h.block p.block (World.block_lt_of_cell? a p hv) hp)).trans hv
theorem Keeps.heap {F : List Nat} {a b : World} (h : Keeps F a b) {k : Nat} {o : Obj} (hv : a.heap[k]? = some o) (hp : k ∉ F) : b.heap[k]? = some o :=
  (h.block k (lt_of_block hv) hp).trans hv
section
variable {P : Program} (w : World)
end
end Go.Proofs.YtbeniihbejakaaaDoor
/-
  Texts as lists of bytes.
-/
namespace Go.Proofs.YtbeniihbejakaaaDoor
open Go.RowKit
/-- Bytes as a text. -/
def bs (l : List UInt8) : ByteArray := ⟨l.toArray⟩
theorem bs_list (l : List UInt8) : (bs l).data.toList = l := by simp [bs]
/-- Bytes as numbers. -/
def nb (l : List UInt8) : List Int := l.map fun b => (b.toNat : Int)
theorem str_nb (l : List UInt8) : strOfNums (nb l) = bs l := by
  simp [strOfNums, nb, bs, Function.comp_def]
end Go.Proofs.YtbeniihbejakaaaDoor
/-
  Sets of small numbers as data: rising lists (no program).
-/
namespace Go.Proofs.YtbeniihbejakaaaDoor
/-- A number of 64 bits. -/
def I64 (n : Int) : Prop := -9223372036854775808 ≤ n ∧ n ≤ 9223372036854775807
/-- A set: a rising list of numbers from 0 to 65535. -/
def BIn (l : List Int) : Prop := l.Pairwise (· < ·) ∧ ∀ x ∈ l, 0 ≤ x ∧ x < 65536
def insB (n : Int) : List Int → List Int
  | [] => [n]
  | x :: r => if x < n then x :: insB n r else if x = n then x :: r else n :: x :: r
def withB (l : List Int) (n : Int) : List Int := if 0 ≤ n ∧ n ≤ 65535 then insB n l else l
def withoutB (l : List Int) (n : Int) : List Int := l.filter fun x => decide (x ≠ n)
def unionB (s t : List Int) : List Int := t.foldl withB s
def ofB (l : List Int) : List Int := l.foldl withB []
def gapG (l : List Int) : Nat → Int → Int
  | 0, n => n
  | f + 1, n => if n ∈ l then gapG l f (n + 1) else n
def gapB (l : List Int) (n : Int) : Int := gapG l 65536 (if n < 0 then 0 else n)
def downB (l : List Int) (by_ : Int) : List Int := (l.filter fun x => decide ((if by_ < 0 then 0 else by_) ≤ x)).map fun x => x - (if by_ < 0 then 0 else by_)
theorem BIn.nil : BIn [] := ⟨List.Pairwise.nil, fun _ h => by cases h⟩
theorem BIn.tail {x : Int} {r : List Int} (h : BIn (x :: r)) : BIn r := ⟨(List.pairwise_cons.1 h.1).2, fun y hy => h.2 y (List.mem_cons_of_mem _ hy)⟩
theorem BIn.head {x : Int} {r : List Int} (h : BIn (x :: r)) : ∀ y ∈ r, x < y := (List.pairwise_cons.1 h.1).1
/-- Two sets with the same numbers are one. -/
theorem BIn.ext : ∀ {s t : List Int}, BIn s → BIn t → (∀ x, x ∈ s ↔ x ∈ t) → s = t
  | [], [], _, _, _ => rfl
  | [], y :: t, _, _, h => absurd ((h y).2 List.mem_cons_self) (by simp)
  | x :: s, [], _, _, h => absurd ((h x).1 List.mem_cons_self) (by simp)
  | x :: s, y :: t, hs, ht, h => by
    have e : x = y := by
      rcases List.mem_cons.1 ((h x).1 List.mem_cons_self) with h1 | h1
      · exact h1
      · rcases List.mem_cons.1 ((h y).2 List.mem_cons_self) with h2 | h2
        · exact h2.symm
        · have := hs.head y h2; have := ht.head x h1; omega
    subst e
    rw [BIn.ext hs.tail ht.tail fun z => ?_]
    constructor
    · intro hz
      rcases List.mem_cons.1 ((h z).1 (List.mem_cons_of_mem _ hz)) with h1 | h1
      · have := hs.head z hz; omega
      · exact h1
    · intro hz
      rcases List.mem_cons.1 ((h z).2 (List.mem_cons_of_mem _ hz)) with h1 | h1
      · have := ht.head z hz; omega
      · exact h1
theorem mem_insB (n : Int) : ∀ (l : List Int) (y : Int), y ∈ insB n l ↔ y = n ∨ y ∈ l
  | [], y => by simp [insB]
  | x :: r, y => by
    unfold insB
    split
    · rw [List.mem_cons, mem_insB n r y, List.mem_cons]
      constructor
      · rintro (h | h | h) <;> simp [h]
      · rintro (h | h | h) <;> simp [h]
    · split
      · rename_i h
        rw [List.mem_cons]
        constructor
        · exact fun h2 => .inr h2
        · rintro (h2 | h2)
          · exact .inl (by omega)
          · exact h2
      · rw [List.mem_cons]
theorem insB_in {n : Int} (hn : 0 ≤ n ∧ n ≤ 65535) : ∀ {l : List Int}, BIn l → BIn (insB n l)
  | [], _ => ⟨List.pairwise_singleton .., fun y hy => by simp [insB] at hy; omega⟩
  | x :: r, h => by
    have ih := insB_in hn h.tail
    have hx := h.2 x List.mem_cons_self
    unfold insB
    split
    · rename_i hxn
      refine ⟨List.pairwise_cons.2 ⟨fun y hy => ?_, ih.1⟩, fun y hy => ?_⟩
      · rcases (mem_insB n r y).1 hy with h1 | h1
        · omega
        · exact h.head y h1
      · rcases List.mem_cons.1 hy with h1 | h1
        · omega
        · exact ih.2 y h1
    · split
      · exact h
      · rename_i h1 h2
        refine ⟨List.pairwise_cons.2 ⟨fun y hy => ?_, h.1⟩, fun y hy => ?_⟩
        · rcases List.mem_cons.1 hy with h3 | h3
          · omega
          · have := h.head y h3; omega
        · rcases List.mem_cons.1 hy with h3 | h3
          · omega
          · exact h.2 y h3
theorem withB_in {l : List Int} (h : BIn l) (n : Int) : BIn (withB l n) := by
  unfold withB
  split
  · exact insB_in (by assumption) h
  · exact h
theorem mem_withB (l : List Int) (n y : Int) : y ∈ withB l n ↔ (y = n ∧ 0 ≤ n ∧ n ≤ 65535) ∨ y ∈ l := by
  unfold withB
  split
  · rename_i h; rw [mem_insB]; simp [h]
  · rename_i h; simp [h]
theorem withoutB_in {l : List Int} (h : BIn l) (n : Int) : BIn (withoutB l n) := ⟨h.1.filter _, fun x hx => h.2 x (List.mem_filter.1 hx).1⟩
theorem mem_withoutB (l : List Int) (n y : Int) : y ∈ withoutB l n ↔ y ∈ l ∧ y ≠ n := by unfold withoutB; rw [List.mem_filter, decide_eq_true_eq]
theorem unionB_in : ∀ (t : List Int) {s : List Int}, BIn s → BIn (unionB s t)
  | [], _, h => h
  | x :: t, _, h => unionB_in t (withB_in h x)
theorem mem_unionB : ∀ (t s : List Int) (y : Int), y ∈ unionB s t ↔ y ∈ s ∨ (y ∈ t ∧ 0 ≤ y ∧ y ≤ 65535)
  | [], s, y => by simp [unionB]
  | x :: t, s, y => by
    show y ∈ unionB (withB s x) t ↔ _
    rw [mem_unionB t, mem_withB, List.mem_cons]
    constructor
    · rintro ((⟨rfl, h⟩ | h) | h)
      · exact .inr ⟨.inl rfl, h⟩
      · exact .inl h
      · exact .inr ⟨.inr h.1, h.2⟩
    · rintro (h | ⟨rfl | h, h2⟩)
      · exact .inl (.inr h)
      · exact .inl (.inl ⟨rfl, h2⟩)
      · exact .inr ⟨h, h2⟩
theorem unionB_next {s t : List Int} {k : Nat} (hk : k < t.length) : unionB s (t.take (k + 1)) = withB (unionB s (t.take k)) t[k] := by
  unfold unionB
  rw [List.take_add_one, List.getElem?_eq_getElem hk, Option.toList_some, List.foldl_append]; rfl
theorem BIn.len {l : List Int} (h : BIn l) : l.length ≤ 65536 := by
  have go : ∀ (l : List Int) (b : Int), l.Pairwise (· < ·) → (∀ x ∈ l, b ≤ x ∧ x < 65536) → b ≤ 65536 → (l.length : Int) ≤ 65536 - b := by
    intro l
    induction l with
    | nil => intro b _ _ hb; simp; omega
    | cons x r ih =>
      intro b hp hb hb2
      have h1 := hb x List.mem_cons_self
      have := ih (x + 1) (List.pairwise_cons.1 hp).2 (fun y hy => ⟨by have := (List.pairwise_cons.1 hp).1 y hy; omega, (hb y (List.mem_cons_of_mem _ hy)).2⟩) (by omega)
      rw [List.length_cons]; omega
  have := go l 0 h.1 h.2 (by omega)
  omega
theorem downB_in {l : List Int} (h : BIn l) (b : Int) : BIn (downB l b) := by
  unfold downB
  refine ⟨?_, fun x hx => ?_⟩
  · rw [List.pairwise_map]
    exact (h.1.filter _).imp fun h => by omega
  · obtain ⟨y, hy, rfl⟩ := List.mem_map.1 hx
    have h1 := (List.mem_filter.1 hy); have h2 := h.2 y h1.1
    have h3 : (if b < 0 then 0 else b) ≤ y := by simpa using h1.2
    split at * <;> omega
theorem mem_downB (l : List Int) (b y : Int) : y ∈ downB l b ↔ 0 ≤ y ∧ y + (if b < 0 then 0 else b) ∈ l := by
  unfold downB
  generalize (if b < 0 then (0 : Int) else b) = c
  rw [List.mem_map]
  constructor
  · rintro ⟨x, hx, rfl⟩
    have h1 := List.mem_filter.1 hx
    have h3 : c ≤ x := by simpa using h1.2
    exact ⟨by omega, by rw [show x - c + c = x by omega]; exact h1.1⟩
  · rintro ⟨h, hy⟩
    exact ⟨y + c, List.mem_filter.2 ⟨hy, by simp; omega⟩, by omega⟩
/-- The gap: all from there up to it are there, it isn't. -/
theorem gapG_spec (l : List Int) : ∀ (f : Nat) (n : Int), n ≤ gapG l f n ∧ (∀ x, n ≤ x → x < gapG l f n → x ∈ l) ∧ (gapG l f n ∉ l ∨ gapG l f n = n + f)
  | 0, n => ⟨by simp [gapG], fun x h1 h2 => by simp [gapG] at h2; omega, .inr (by simp [gapG])⟩
  | f + 1, n => by
    unfold gapG
    split
    · rename_i hn
      obtain ⟨h1, h2, h3⟩ := gapG_spec l f (n + 1)
      refine ⟨by omega, fun x hx hl => ?_, h3.imp id (fun h => by omega)⟩
      by_cases e : x = n
      · rw [e]; exact hn
      · exact h2 x (by omega) hl
    · exact ⟨by omega, fun x h1 h2 => by omega, .inl (by assumption)⟩
theorem gapB_spec {l : List Int} (h : BIn l) (n : Int) : (if n < 0 then 0 else n) ≤ gapB l n ∧ (∀ x, (if n < 0 then 0 else n) ≤ x → x < gapB l n → x ∈ l) ∧ gapB l n ∉ l := by
  obtain ⟨h1, h2, h3⟩ := gapG_spec l 65536 (if n < 0 then 0 else n)
  refine ⟨h1, h2, h3.elim id fun e hm => ?_⟩
  have h4 := h.2 _ hm
  have h5 : gapB l n = (if n < 0 then 0 else n) + ((65536 : Nat) : Int) := e
  split at h5 <;> omega
theorem gapB_eq {l : List Int} (h : BIn l) {n g : Int} (h1 : (if n < 0 then 0 else n) ≤ g) (h2 : ∀ x, (if n < 0 then 0 else n) ≤ x → x < g → x ∈ l) (h3 : g ∉ l) : gapB l n = g := by
  obtain ⟨a, b, c⟩ := gapB_spec h n
  rcases Int.lt_trichotomy (gapB l n) g with hl | hl | hl
  · exact absurd (h2 _ a hl) c
  · exact hl
  · exact absurd (b g h1 hl) h3
end Go.Proofs.YtbeniihbejakaaaDoor
/-
  Keys of sets, as data (no program).
-/
namespace Go.Proofs.YtbeniihbejakaaaDoor
def bitB (l : List Int) (x : Int) : Nat := if x ∈ l then 1 else 0
theorem bitB_le (l : List Int) (x : Int) : bitB l x ≤ 1 := by unfold bitB; split <;> omega
theorem bitB_one {l : List Int} {x : Int} : bitB l x = 1 ↔ x ∈ l := by unfold bitB; split <;> simp [*]
/-- The byte of a group of eight. -/
def byteB (l : List Int) (i : Nat) : Nat :=
  bitB l (8 * i + 0) + 2 * bitB l (8 * i + 1) + 4 * bitB l (8 * i + 2) + 8 * bitB l (8 * i + 3) + 16 * bitB l (8 * i + 4) + 32 * bitB l (8 * i + 5) + 64 * bitB l (8 * i + 6) + 128 * bitB l (8 * i + 7)
theorem byteB_lt (l : List Int) (i : Nat) : byteB l i < 256 := by
  have h0 := bitB_le l (8 * i + 0); have h1 := bitB_le l (8 * i + 1); have h2 := bitB_le l (8 * i + 2); have h3 := bitB_le l (8 * i + 3)
  have h4 := bitB_le l (8 * i + 4); have h5 := bitB_le l (8 * i + 5); have h6 := bitB_le l (8 * i + 6); have h7 := bitB_le l (8 * i + 7)
  unfold byteB; omega
theorem eight {k : Nat} (h : k < 8) : k = 0 ∨ k = 1 ∨ k = 2 ∨ k = 3 ∨ k = 4 ∨ k = 5 ∨ k = 6 ∨ k = 7 := by omega
theorem byteB_bit (l : List Int) (i : Nat) {k : Nat} (hk : k < 8) : byteB l i / 2 ^ k % 2 = bitB l (8 * i + k) := by
  have h0 := bitB_le l (8 * i + 0); have h1 := bitB_le l (8 * i + 1); have h2 := bitB_le l (8 * i + 2); have h3 := bitB_le l (8 * i + 3)
  have h4 := bitB_le l (8 * i + 4); have h5 := bitB_le l (8 * i + 5); have h6 := bitB_le l (8 * i + 6); have h7 := bitB_le l (8 * i + 7)
  rcases eight hk with rfl | rfl | rfl | rfl | rfl | rfl | rfl | rfl
  · show byteB l i / 1 % 2 = bitB l (8 * i + 0); unfold byteB; omega
  · show byteB l i / 2 % 2 = bitB l (8 * i + 1); unfold byteB; omega
  · show byteB l i / 4 % 2 = bitB l (8 * i + 2); unfold byteB; omega
  · show byteB l i / 8 % 2 = bitB l (8 * i + 3); unfold byteB; omega
  · show byteB l i / 16 % 2 = bitB l (8 * i + 4); unfold byteB; omega
  · show byteB l i / 32 % 2 = bitB l (8 * i + 5); unfold byteB; omega
  · show byteB l i / 64 % 2 = bitB l (8 * i + 6); unfold byteB; omega
  · show byteB l i / 128 % 2 = bitB l (8 * i + 7); unfold byteB; omega
/-- How many bytes a key has. -/
def lenB (l : List Int) : Nat := match l.getLast? with
  | none => 0
  | some z => (z / 8).toNat + 1
def keyB (l : List Int) : List UInt8 := (List.range (lenB l)).map fun i => UInt8.ofNat (byteB l i)
theorem BIn.le_last : ∀ {l : List Int} {z : Int}, l.Pairwise (· < ·) → l.getLast? = some z → ∀ x ∈ l, x ≤ z
  | [], z, _, h, x, hx => by cases hx
  | [y], z, _, h, x, hx => by simp at h hx; omega
  | y :: y2 :: r, z, hp, h, x, hx => by
    have ih := BIn.le_last (List.pairwise_cons.1 hp).2 (by simpa using h)
    rcases List.mem_cons.1 hx with rfl | hx
    · have h1 := (List.pairwise_cons.1 hp).1 y2 List.mem_cons_self
      have h2 := ih y2 List.mem_cons_self
      omega
    · exact ih x hx
theorem lenB_le {l : List Int} (h : BIn l) : lenB l ≤ 8192 := by
  unfold lenB
  split
  · omega
  · rename_i z hz
    have := h.2 z (List.mem_of_getLast? hz)
    omega
/-- A number's bit in a key. -/
def keyBit (k : List UInt8) (x : Int) : Nat := (k.getD (x / 8).toNat 0).toNat / 2 ^ (x % 8).toNat % 2
/-- What is in a key. -/
def fromL (k : List UInt8) : List Int := (List.range k.length).flatMap fun i => ((List.range 8).filter fun j => decide ((k.getD i 0).toNat / 2 ^ j % 2 = 1)).map fun j : Nat => (8 * (i : Int) + (j : Int))
def fromB (k : List UInt8) : List Int × Int := if 8192 < k.length ∨ k.getLast? = some 0 then ([], 4) else (fromL k, 0)
theorem mem_fromL (k : List UInt8) (x : Int) : x ∈ fromL k ↔ 0 ≤ x ∧ keyBit k x = 1 := by
  unfold fromL keyBit
  rw [List.mem_flatMap]
  constructor
  · rintro ⟨i, hi, hx⟩
    obtain ⟨j, hj, rfl⟩ := List.mem_map.1 hx
    have h1 := List.mem_filter.1 hj
    have h2 : j < 8 := List.mem_range.1 h1.1
    refine ⟨by omega, ?_⟩
    rw [show (((8 : Int) * i + j) / 8).toNat = i by omega, show (((8 : Int) * i + j) % 8).toNat = j by omega]
    simpa using h1.2
  · rintro ⟨h0, hb⟩
    have hi : (x / 8).toNat < k.length := by
      by_cases h : (x / 8).toNat < k.length
      · exact h
      · rw [List.getD_eq_getElem?_getD, List.getElem?_eq_none (by omega)] at hb
        simp at hb
    exact ⟨(x / 8).toNat, List.mem_range.2 hi, List.mem_map.2 ⟨(x % 8).toNat, List.mem_filter.2 ⟨List.mem_range.2 (by omega), by simpa using hb⟩, by omega⟩⟩
theorem rise_flat : ∀ (n : Nat) (f : Nat → List Int), (∀ i, (f i).Pairwise (· < ·)) → (∀ i, ∀ x ∈ f i, 8 * (i : Int) ≤ x ∧ x < 8 * i + 8) → ((List.range n).flatMap f).Pairwise (· < ·) ∧ ∀ x ∈ (List.range n).flatMap f, 0 ≤ x ∧ x < 8 * n
  | 0, f, _, _ => ⟨by simp, by simp⟩
  | n + 1, f, h1, h2 => by
    obtain ⟨a, b⟩ := rise_flat n f h1 h2
    rw [List.range_succ, List.flatMap_append, List.flatMap_cons, List.flatMap_nil, List.append_nil]
    refine ⟨List.pairwise_append.2 ⟨a, h1 n, fun x hx y hy => ?_⟩, fun x hx => ?_⟩
    · have := b x hx; have := h2 n y hy; omega
    · rcases List.mem_append.1 hx with h | h
      · have := b x h; omega
      · have := h2 n x h; omega
theorem fromL_rise (k : List UInt8) : (fromL k).Pairwise (· < ·) ∧ ∀ x ∈ fromL k, 0 ≤ x ∧ x < 8 * k.length := by
  refine rise_flat k.length _ (fun i => ?_) (fun i x hx => ?_)
  · rw [List.pairwise_map]
    exact (List.pairwise_lt_range.filter _).imp fun h => by omega
  · obtain ⟨j, hj, rfl⟩ := List.mem_map.1 hx
    have h2 : j < 8 := List.mem_range.1 (List.mem_filter.1 hj).1
    omega
theorem fromL_in {k : List UInt8} (h : k.length ≤ 8192) : BIn (fromL k) := ⟨(fromL_rise k).1, fun x hx => by have := (fromL_rise k).2 x hx; omega⟩
end Go.Proofs.YtbeniihbejakaaaDoor
/-
  Sets as data: what the laws ask (no program).
-/
namespace Go.Proofs.YtbeniihbejakaaaDoor
def withinB (s t : List Int) : Bool := s.all fun x => decide (x ∈ t)
theorem withinB_iff {s t : List Int} : withinB s t = true ↔ ∀ x ∈ s, x ∈ t := by unfold withinB; simp
theorem BIn.of {l : List Int} (h : BIn l) {y : Int} (hy : y ∈ l) : 0 ≤ y ∧ y ≤ 65535 := by have := h.2 y hy; omega
theorem withB_has {s : List Int} (h : BIn s) {x : Int} (hx : x ∈ s) : withB s x = s := by
  refine BIn.ext (withB_in h x) h fun y => ?_
  rw [mem_withB]
  exact ⟨fun h1 => h1.elim (fun h => h.1 ▸ hx) id, .inr⟩
theorem unionB_comm {s t : List Int} (hs : BIn s) (ht : BIn t) : unionB s t = unionB t s := by
  refine BIn.ext (unionB_in t hs) (unionB_in s ht) fun y => ?_
  rw [mem_unionB, mem_unionB]
  constructor
  · rintro (h | h)
    · exact .inr ⟨h, hs.of h⟩
    · exact .inl h.1
  · rintro (h | h)
    · exact .inr ⟨h, ht.of h⟩
    · exact .inl h.1
theorem downB_down {s : List Int} (hs : BIn s) {x y : Int} (hx : 0 ≤ x) (hy : 0 ≤ y) : downB (downB s x) y = downB s (x + y) := by
  refine BIn.ext (downB_in (downB_in hs x) y) (downB_in hs _) fun n => ?_
  rw [mem_downB, mem_downB, mem_downB, if_neg (by omega), if_neg (by omega), if_neg (by omega)]
  constructor
  · rintro ⟨h1, h2, h3⟩; exact ⟨h1, by rw [show n + (x + y) = n + y + x by omega]; exact h3⟩
  · rintro ⟨h1, h2⟩; exact ⟨h1, by omega, by rw [show n + y + x = n + (x + y) by omega]; exact h2⟩
theorem downB_count (s : List Int) {x : Int} (hx : 0 ≤ x) : (downB s x).length = (s.filter fun n => decide (x ≤ n)).length := by
  unfold downB
  rw [if_neg (by omega), List.length_map]
theorem downB_has {s : List Int} {x n : Int} (hx : 0 ≤ x) (hn : n ∈ s) (h : x ≤ n) : n - x ∈ downB s x := by
  rw [mem_downB, if_neg (by omega)]
  exact ⟨by omega, by rw [show n - x + x = n by omega]; exact hn⟩
/-- The least one, or -1. -/
def leastB (l : List Int) : Int := match l with
  | [] => -1
  | x :: _ => x
end Go.Proofs.YtbeniihbejakaaaDoor
