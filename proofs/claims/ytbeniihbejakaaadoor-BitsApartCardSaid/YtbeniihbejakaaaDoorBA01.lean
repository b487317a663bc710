/-
  The world: what is kept, which rows are owned, an append whose row is told.
-/
import Derived.Test.YtbeniihbejakaaaDoorRows
import Derived.WalkKit
import Derived.WalkSpells
import Derived.WalkLawsBesides
import Derived.Deep.QuietTactic
import Derived.BigQuiet
import Derived.Lib.Hide
set_option linter.unusedSimpArgs false
set_option linter.unusedVariables false
namespace Go.Proofs.YtbeniihbejakaaaDoor
open Go.RowKit
/-- The block that a slice's row lies in. -/
def own (v : Value) : List Nat := v.ownBlock.toList
/-- What stands in F' stood in F, or is a block from n on. -/
def FSub (F' F : List Nat) (n : Nat) : Prop := ∀ g ∈ F', g ∈ F ∨ n ≤ g
theorem FSub.refl (F : List Nat) (n : Nat) : FSub F F n := fun _ h => .inl h
/-- All blocks that were there, but those of F, are as they were. -/
structure Keeps (F : List Nat) (w w' : World) : Prop where
  os : w'.os = w.os
  tape : w'.tape = w.tape
  output : w'.output = w.output
  size : w.heap.size ≤ w'.heap.size
  block : ∀ k, k < w.heap.size → k ∉ F → w'.heap[k]? = w.heap[k]?
theorem Keeps.refl (F : List Nat) (w : World) : Keeps F w w := ⟨rfl, rfl, rfl, Nat.le_refl _, fun _ _ _ => rfl⟩
theorem Keeps.trans {F G : List Nat} {a b c : World} (h : Keeps F a b) (k : Keeps G b c) (hG : FSub G F a.heap.size) : Keeps F a c :=
  ⟨k.os.trans h.os, k.tape.trans h.tape, k.output.trans h.output, Nat.le_trans h.size k.size, fun i hi hF =>
    (k.block i (Nat.lt_of_lt_of_le hi h.size) (fun hg => by rcases hG i hg with h1 | h1; exact hF h1; omega)).trans (h.block i hi hF)⟩
theorem Keeps.more {F G : List Nat} {a b : World} (h : Keeps F a b) (hG : ∀ g ∈ F, g ∈ G) : Keeps G a b := ⟨h.os, h.tape, h.output, h.size, fun i hi hF => h.block i hi fun x => hF (hG i x)⟩
theorem Keeps.drew {F : List Nat} {a b : World} (h : Keeps F a b) : Keeps F a b.drew := ⟨h.os, h.tape, h.output, h.size, h.block⟩
theorem Keeps.alloc {F : List Nat} {a b : World} (h : Keeps F a b) (o : Obj) : Keeps F a (b.alloc o) :=
  ⟨h.os, h.tape, h.output, by have := h.size; simp; omega, fun i hi hF => (Below.heap_alloc _ _ _ (Nat.lt_of_lt_of_le hi h.size)).trans (h.block i hi hF)⟩
theorem Keeps.setCell {F : List Nat} {a b : World} (h : Keeps F a b) (p : Addr) (v : Value) (hp : p.block ∈ F ∨ a.heap.size ≤ p.block) : Keeps F a (b.setCell p v) :=
  ⟨h.os, h.tape, h.output, by have := h.size; simpa using this, fun i hi hF => (Below.heap_setCell _ _ _ _ (fun e => by rcases hp with h1 | h1; exact hF (e ▸ h1); omega)).trans (h.block i hi hF)⟩
theorem Keeps.grown {F : List Nat} {a b c : World} {v : Value} (h : Keeps F a b) (k : b.grownBy c v.ownBlock) (hv : ∀ g ∈ own v, g ∈ F ∨ a.heap.size ≤ g) : Keeps F a c :=
  ⟨k.os.trans h.os, k.tape.trans h.tape, k.output.trans h.output, Nat.le_trans h.size k.size, fun i hi hF =>
    (k.block i (Nat.lt_of_lt_of_le hi h.size) (fun e => by rcases hv i (by simp [own, ← e]) with h1 | h1; exact hF h1; omega)).trans (h.block i hi hF)⟩
theorem Keeps.below {a b : World} (h : Keeps [] a b) : Below a.heap.size a b := ⟨h.os, h.tape, h.output, h.size, fun k hk => h.block k hk (by simp)⟩
theorem Keeps.cell {F : List Nat} {a b : World} (h : Keeps F a b) {p : Addr} {v : Value} (hv : a.cell? p = some v) (hp : p.block ∉ F) : b.cell? p = some v :=
  (World.cell?_of_block (h.block p.block (World.block_lt_of_cell? a p hv) hp)).trans hv
theorem Keeps.heap {F : List Nat} {a b : World} (h : Keeps F a b) {k : Nat} {o : Obj} (hv : a.heap[k]? = some o) (hp : k ∉ F) : b.heap[k]? = some o :=
  (h.block k (lt_of_block hv) hp).trans hv
section
variable {P : Program} (w : World)
end
end Go.Proofs.YtbeniihbejakaaaDoor
/-
  Texts as lists of bytes.
-/
namespace Go.Proofs.YtbeniihbejakaaaDoor
open Go.RowKit
/-- Bytes as a text. -/
def bs (l : List UInt8) : ByteArray := ⟨l.toArray⟩
theorem bs_list (l : List UInt8) : (bs l).data.toList = l := by simp [bs]
/-- Bytes as numbers. -/
def nb (l : List UInt8) : List Int := l.map fun b => (b.toNat : Int)
theorem str_nb (l : List UInt8) : strOfNums (nb l) = bs l := by
  simp [strOfNums, nb, bs, Function.comp_def]
end Go.Proofs.YtbeniihbejakaaaDoor
/-
  Sets of small numbers as data: rising lists (no program).
-/
namespace Go.Proofs.YtbeniihbejakaaaDoor
/-- A number of 64 bits. -/
def I64 (n : Int) : Prop := -9223372036854775808 ≤ n ∧ n ≤ 9223372036854775807
/-- A set: a rising list of numbers from 0 to 65535. -/
def BIn (l : List Int) : Prop := l.Pairwise (· < ·) ∧ ∀ x ∈ l, 0 ≤ x ∧ x < 65536
def insB (n : Int) : List Int → List Int
  | [] => [n]
  | x :: r => if x < n then x :: insB n r else if x = n then x :: r else n :: x :: r
def withB (l : List Int) (n : Int) : List Int := if 0 ≤ n ∧ n ≤ 65535 then insB n l else l
def withoutB (l : List Int) (n : Int) : List Int := l.filter fun x => decide (x ≠ n)
def unionB (s t : List Int) : List Int := t.foldl withB s
def ofB (l : List Int) : List Int := l.foldl withB []
def gapG (l : List Int) : Nat → Int → Int
  | 0, n => n
  | f + 1, n => if n ∈ l then gapG l f (n + 1) else n
def gapB (l : List Int) (n : Int) : Int := gapG l 65536 (if n < 0 then 0 else n)
def downB (l : List Int) (by_ : Int) : List Int := (l.filter fun x => decide ((if by_ < 0 then 0 else by_) ≤ x)).map fun x => x - (if by_ < 0 then 0 else by_)
theorem BIn.nil : BIn [] := ⟨List.Pairwise.nil, fun _ h => by cases h⟩
theorem BIn.tail {x : Int} {r : List Int} (h : BIn (x :: r)) : BIn r := ⟨(List.pairwise_cons.1 h.1).2, fun y hy => h.2 y (List.mem_cons_of_mem _ hy)⟩
theorem BIn.head {x : Int} {r : List Int} (h : BIn (x :: r)) : ∀ y ∈ r, x < y := (List.pairwise_cons.1 h.1).1
/-- Two sets with the same numbers are one. -/
theorem BIn.ext : ∀ {s t : List Int}, BIn s → BIn t → (∀ x, x ∈ s ↔ x ∈ t) → s = t
  | [], [], _, _, _ => rfl
  | [], y :: t, _, _, h => absurd ((h y).2 List.mem_cons_self) (by simp)
  | x :: s, [], _, _, h => absurd ((h x).1 List.mem_cons_self) (by simp)
  | x :: s, y :: t, hs, ht, h => by
    have e : x = y := by
      rcases List.mem_cons.1 ((h x).1 List.mem_cons_self) with h1 | h1
      · exact h1
      · rcases List.mem_cons.1 ((h y).2 List.mem_cons_self) with h2 | h2
        · exact h2.symm
        · have := hs.head y h2; have := ht.head x h1; omega
    subst e
    rw [BIn.ext hs.tail ht.tail fun z => ?_]
    constructor
    · intro hz
      rcases List.mem_cons.1 ((h z).1 (List.mem_cons_of_mem _ hz)) with h1 | h1
      · have := hs.head z hz; omega
      · exact h1
    · intro hz
      rcases List.mem_cons.1 ((h z).2 (List.mem_cons_of_mem _ hz)) with h1 | h1
      · have := ht.head z hz; omega
      · exact h1
theorem mem_insB (n : Int) : ∀ (l : List Int) (y : Int), y ∈ insB n l ↔ y = n ∨ y ∈ l
  | [], y => by simp [insB]
  | x :: r, y => by
    unfold insB
    split
    · rw [List.mem_cons, mem_insB n r y, List.mem_cons]
      constructor
      · rintro (h | h | h) <;> simp [h]
      · rintro (h | h | h) <;> simp [h]
    · split
      · rename_i h
        rw [List.mem_cons]
        constructor
        · exact fun h2 => .inr h2
        · rintro (h2 | h2)
          · exact .inl (by omega)
          · exact h2
      · rw [List.mem_cons]
theorem insB_in {n : Int} (hn : 0 ≤ n ∧ n ≤ 65535) : ∀ {l : List Int}, BIn l → BIn (insB n l)
  | [], _ => ⟨List.pairwise_singleton .., fun y hy => by simp [insB] at hy; omega⟩
  | x :: r, h => by
    have ih := insB_in hn h.tail
    have hx := h.2 x List.mem_cons_self
    unfold insB
    split
    · rename_i hxn
      refine ⟨List.pairwise_cons.2 ⟨fun y hy => ?_, ih.1⟩, fun y hy => ?_⟩
      · rcases (mem_insB n r y).1 hy with h1 | h1
        · omega
        · exact h.head y h1
      · rcases List.mem_cons.1 hy with h1 | h1
        · omega
        · exact ih.2 y h1
    · split
      · exact h
      · rename_i h1 h2
        refine ⟨List.pairwise_cons.2 ⟨fun y hy => ?_, h.1⟩, fun y hy => ?_⟩
        · rcases List.mem_cons.1 hy with h3 | h3
          · omega
          · have := h.head y h3; omega
        · rcases List.mem_cons.1 hy with h3 | h3
          · omega
          · exact h.2 y h3
theorem withB_in {l : List Int} (h : BIn l) (n : Int) : BIn (withB l n) := by
  unfold withB
  split
  · exact insB_in (by assumption) h
  · exact h
theorem mem_withB (l : List Int) (n y : Int) : y ∈ withB l n ↔ (y = n ∧ 0 ≤ n ∧ n ≤ 65535) ∨ y ∈ l := by
  unfold withB
  split
  · rename_i h; rw [mem_insB]; simp [h]
  · rename_i h; simp [h]
theorem withB_len (l : List Int) (n : Int) : (withB l n).length ≤ l.length + 1 := by
  have : ∀ l : List Int, (insB n l).length ≤ l.length + 1 := by
    intro l
    induction l with
    | nil => simp [insB]
    | cons x r ih => unfold insB; split <;> (try split) <;> simp <;> omega
  unfold withB
  split
  · exact this l
  · omega
theorem withoutB_in {l : List Int} (h : BIn l) (n : Int) : BIn (withoutB l n) := ⟨h.1.filter _, fun x hx => h.2 x (List.mem_filter.1 hx).1⟩
theorem mem_withoutB (l : List Int) (n y : Int) : y ∈ withoutB l n ↔ y ∈ l ∧ y ≠ n := by unfold withoutB; rw [List.mem_filter, decide_eq_true_eq]
theorem unionB_in : ∀ (t : List Int) {s : List Int}, BIn s → BIn (unionB s t)
  | [], _, h => h
  | x :: t, _, h => unionB_in t (withB_in h x)
theorem mem_unionB : ∀ (t s : List Int) (y : Int), y ∈ unionB s t ↔ y ∈ s ∨ (y ∈ t ∧ 0 ≤ y ∧ y ≤ 65535)
  | [], s, y => by simp [unionB]
  | x :: t, s, y => by
    show y ∈ unionB (withB s x) t ↔ _
    rw [mem_unionB t, mem_withB, List.mem_cons]
    constructor
    · rintro ((⟨rfl, h⟩ | h) | h)
      · exact .inr ⟨.inl rfl, h⟩
      · exact .inl h
      · exact .inr ⟨.inr h.1, h.2⟩
    · rintro (h | ⟨rfl | h, h2⟩)
      · exact .inl (.inr h)
      · exact .inl (.inl ⟨rfl, h2⟩)
      · exact .inr ⟨h, h2⟩
theorem unionB_len : ∀ (t s : List Int), (unionB s t).length ≤ s.length + t.length
  | [], s => Nat.le_refl _
  | x :: t, s => by
    have h1 := unionB_len t (withB s x); have h2 := withB_len s x
    show (unionB (withB s x) t).length ≤ _
    rw [List.length_cons]; omega
theorem unionB_next {s t : List Int} {k : Nat} (hk : k < t.length) : unionB s (t.take (k + 1)) = withB (unionB s (t.take k)) t[k] := by
  unfold unionB
  rw [List.take_add_one, List.getElem?_eq_getElem hk, Option.toList_some, List.foldl_append]; rfl
theorem ofB_in (l : List Int) : BIn (ofB l) := unionB_in l BIn.nil
theorem mem_ofB (l : List Int) (y : Int) : y ∈ ofB l ↔ y ∈ l ∧ 0 ≤ y ∧ y ≤ 65535 := by
  rw [show ofB l = unionB [] l from rfl, mem_unionB]; simp
theorem BIn.len {l : List Int} (h : BIn l) : l.length ≤ 65536 := by
  have go : ∀ (l : List Int) (b : Int), l.Pairwise (· < ·) → (∀ x ∈ l, b ≤ x ∧ x < 65536) → b ≤ 65536 → (l.length : Int) ≤ 65536 - b := by
    intro l
    induction l with
    | nil => intro b _ _ hb; simp; omega
    | cons x r ih =>
      intro b hp hb hb2
      have h1 := hb x List.mem_cons_self
      have := ih (x + 1) (List.pairwise_cons.1 hp).2 (fun y hy => ⟨by have := (List.pairwise_cons.1 hp).1 y hy; omega, (hb y (List.mem_cons_of_mem _ hy)).2⟩) (by omega)
      rw [List.length_cons]; omega
  have := go l 0 h.1 h.2 (by omega)
  omega
theorem downB_in {l : List Int} (h : BIn l) (b : Int) : BIn (downB l b) := by
  unfold downB
  refine ⟨?_, fun x hx => ?_⟩
  · rw [List.pairwise_map]
    exact (h.1.filter _).imp fun h => by omega
  · obtain ⟨y, hy, rfl⟩ := List.mem_map.1 hx
    have h1 := (List.mem_filter.1 hy); have h2 := h.2 y h1.1
    have h3 : (if b < 0 then 0 else b) ≤ y := by simpa using h1.2
    split at * <;> omega
theorem mem_downB (l : List Int) (b y : Int) : y ∈ downB l b ↔ 0 ≤ y ∧ y + (if b < 0 then 0 else b) ∈ l := by
  unfold downB
  generalize (if b < 0 then (0 : Int) else b) = c
  rw [List.mem_map]
  constructor
  · rintro ⟨x, hx, rfl⟩
    have h1 := List.mem_filter.1 hx
    have h3 : c ≤ x := by simpa using h1.2
    exact ⟨by omega, by rw [show x - c + c = x by omega]; exact h1.1⟩
  · rintro ⟨h, hy⟩
    exact ⟨y + c, List.mem_filter.2 ⟨hy, by simp; omega⟩, by omega⟩
/-- The gap: all from there up to it are there, it isn't. -/
theorem gapG_spec (l : List Int) : ∀ (f : Nat) (n : Int), n ≤ gapG l f n ∧ (∀ x, n ≤ x → x < gapG l f n → x ∈ l) ∧ (gapG l f n ∉ l ∨ gapG l f n = n + f)
  | 0, n => ⟨by simp [gapG], fun x h1 h2 => by simp [gapG] at h2; omega, .inr (by simp [gapG])⟩
  | f + 1, n => by
    unfold gapG
    split
    · rename_i hn
      obtain ⟨h1, h2, h3⟩ := gapG_spec l f (n + 1)
      refine ⟨by omega, fun x hx hl => ?_, h3.imp id (fun h => by omega)⟩
      by_cases e : x = n
      · rw [e]; exact hn
      · exact h2 x (by omega) hl
    · exact ⟨by omega, fun x h1 h2 => by omega, .inl (by assumption)⟩
theorem gapB_spec {l : List Int} (h : BIn l) (n : Int) : (if n < 0 then 0 else n) ≤ gapB l n ∧ (∀ x, (if n < 0 then 0 else n) ≤ x → x < gapB l n → x ∈ l) ∧ gapB l n ∉ l := by
  obtain ⟨h1, h2, h3⟩ := gapG_spec l 65536 (if n < 0 then 0 else n)
  refine ⟨h1, h2, h3.elim id fun e hm => ?_⟩
  have h4 := h.2 _ hm
  have h5 : gapB l n = (if n < 0 then 0 else n) + ((65536 : Nat) : Int) := e
  split at h5 <;> omega
theorem gapB_eq {l : List Int} (h : BIn l) {n g : Int} (h1 : (if n < 0 then 0 else n) ≤ g) (h2 : ∀ x, (if n < 0 then 0 else n) ≤ x → x < g → x ∈ l) (h3 : g ∉ l) : gapB l n = g := by
  obtain ⟨a, b, c⟩ := gapB_spec h n
  rcases Int.lt_trichotomy (gapB l n) g with hl | hl | hl
  · exact absurd (h2 _ a hl) c
  · exact hl
  · exact absurd (b g h1 hl) h3
end Go.Proofs.YtbeniihbejakaaaDoor
/-
  Keys of sets, as data (no program).
-/
namespace Go.Proofs.YtbeniihbejakaaaDoor
def bitB (l : List Int) (x : Int) : Nat := if x ∈ l then 1 else 0
theorem bitB_le (l : List Int) (x : Int) : bitB l x ≤ 1 := by unfold bitB; split <;> omega
theorem bitB_one {l : List Int} {x : Int} : bitB l x = 1 ↔ x ∈ l := by unfold bitB; split <;> simp [*]
/-- The byte of a group of eight. -/
def byteB (l : List Int) (i : Nat) : Nat :=
  bitB l (8 * i + 0) + 2 * bitB l (8 * i + 1) + 4 * bitB l (8 * i + 2) + 8 * bitB l (8 * i + 3) + 16 * bitB l (8 * i + 4) + 32 * bitB l (8 * i + 5) + 64 * bitB l (8 * i + 6) + 128 * bitB l (8 * i + 7)
theorem byteB_lt (l : List Int) (i : Nat) : byteB l i < 256 := by
  have h0 := bitB_le l (8 * i + 0); have h1 := bitB_le l (8 * i + 1); have h2 := bitB_le l (8 * i + 2); have h3 := bitB_le l (8 * i + 3)
  have h4 := bitB_le l (8 * i + 4); have h5 := bitB_le l (8 * i + 5); have h6 := bitB_le l (8 * i + 6); have h7 := bitB_le l (8 * i + 7)
  unfold byteB; omega
theorem eight {k : Nat} (h : k < 8) : k = 0 ∨ k = 1 ∨ k = 2 ∨ k = 3 ∨ k = 4 ∨ k = 5 ∨ k = 6 ∨ k = 7 := by omega
theorem byteB_bit (l : List Int) (i : Nat) {k : Nat} (hk : k < 8) : byteB l i / 2 ^ k % 2 = bitB l (8 * i + k) := by
  have h0 := bitB_le l (8 * i + 0); have h1 := bitB_le l (8 * i + 1); have h2 := bitB_le l (8 * i + 2); have h3 := bitB_le l (8 * i + 3)
  have h4 := bitB_le l (8 * i + 4); have h5 := bitB_le l (8 * i + 5); have h6 := bitB_le l (8 * i + 6); have h7 := bitB_le l (8 * i + 7)
  rcases eight hk with rfl | rfl | rfl | rfl | rfl | rfl | rfl | rfl
  · show byteB l i / 1 % 2 = bitB l (8 * i + 0); unfold byteB; omega
  · show byteB l i / 2 % 2 = bitB l (8 * i + 1); unfold byteB; omega
  · show byteB l i / 4 % 2 = bitB l (8 * i + 2); unfold byteB; omega
  · show byteB l i / 8 % 2 = bitB l (8 * i + 3); unfold byteB; omega
  · show byteB l i / 16 % 2 = bitB l (8 * i + 4); unfold byteB; omega
  · show byteB l i / 32 % 2 = bitB l (8 * i + 5); unfold byteB; omega
  · show byteB l i / 64 % 2 = bitB l (8 * i + 6); unfold byteB; omega
  · show byteB l i / 128 % 2 = bitB l (8 * i + 7); unfold byteB; omega
/-- How many bytes a key has. -/
def lenB (l : List Int) : Nat := match l.getLast? with
  | none => 0
  | some z => (z / 8).toNat + 1
def keyB (l : List Int) : List UInt8 := (List.range (lenB l)).map fun i => UInt8.ofNat (byteB l i)
theorem keyB_len (l : List Int) : (keyB l).length = lenB l := by simp [keyB]
theorem BIn.le_last : ∀ {l : List Int} {z : Int}, l.Pairwise (· < ·) → l.getLast? = some z → ∀ x ∈ l, x ≤ z
  | [], z, _, h, x, hx => by cases hx
  | [y], z, _, h, x, hx => by simp at h hx; omega
  | y :: y2 :: r, z, hp, h, x, hx => by
    have ih := BIn.le_last (List.pairwise_cons.1 hp).2 (by simpa using h)
    rcases List.mem_cons.1 hx with rfl | hx
    · have h1 := (List.pairwise_cons.1 hp).1 y2 List.mem_cons_self
      have h2 := ih y2 List.mem_cons_self
      omega
    · exact ih x hx
theorem lenB_le {l : List Int} (h : BIn l) : lenB l ≤ 8192 := by
  unfold lenB
  split
  · omega
  · rename_i z hz
    have := h.2 z (List.mem_of_getLast? hz)
    omega
theorem lenB_mem {l : List Int} (h : BIn l) {x : Int} (hx : x ∈ l) : (x / 8).toNat < lenB l := by
  unfold lenB
  split
  · rename_i hz
    have : l = [] := by simpa using hz
    rw [this] at hx; cases hx
  · rename_i z hz
    have := BIn.le_last h.1 hz x hx
    have := h.2 x hx
    omega
/-- A number's bit in a key. -/
def keyBit (k : List UInt8) (x : Int) : Nat := (k.getD (x / 8).toNat 0).toNat / 2 ^ (x % 8).toNat % 2
theorem keyB_at (l : List Int) {i : Nat} (hi : i < lenB l) : ((keyB l).getD i 0).toNat = byteB l i := by
  unfold keyB
  rw [List.getD_eq_getElem?_getD, List.getElem?_map, List.getElem?_range hi]
  show (UInt8.ofNat (byteB l i)).toNat = _
  rw [UInt8.toNat_ofNat']
  have := byteB_lt l i
  omega
theorem keyB_mem {l : List Int} (h : BIn l) (x : Int) : x ∈ l ↔ 0 ≤ x ∧ keyBit (keyB l) x = 1 := by
  constructor
  · intro hx
    refine ⟨(h.2 x hx).1, ?_⟩
    unfold keyBit
    rw [keyB_at l (lenB_mem h hx), byteB_bit l _ (by omega), bitB_one]
    have := (h.2 x hx).1
    rw [show (8 : Int) * ((x / 8).toNat : Nat) + ((x % 8).toNat : Nat) = x by omega]
    exact hx
  · rintro ⟨h0, hk⟩
    unfold keyBit at hk
    by_cases hi : (x / 8).toNat < lenB l
    · rw [keyB_at l hi, byteB_bit l _ (by omega), bitB_one] at hk
      rw [show (8 : Int) * ((x / 8).toNat : Nat) + ((x % 8).toNat : Nat) = x by omega] at hk
      exact hk
    · rw [List.getD_eq_getElem?_getD, List.getElem?_eq_none (by rw [keyB_len]; omega)] at hk
      simp at hk
/-- Two sets are the same just if their keys are. -/
theorem keyB_inj {s t : List Int} (hs : BIn s) (ht : BIn t) : keyB s = keyB t ↔ s = t :=
  ⟨fun h => BIn.ext hs ht fun x => by rw [keyB_mem hs, keyB_mem ht, h], fun h => by rw [h]⟩
/-- What is in a key. -/
def fromL (k : List UInt8) : List Int := (List.range k.length).flatMap fun i => ((List.range 8).filter fun j => decide ((k.getD i 0).toNat / 2 ^ j % 2 = 1)).map fun j : Nat => (8 * (i : Int) + (j : Int))
def fromB (k : List UInt8) : List Int × Int := if 8192 < k.length ∨ k.getLast? = some 0 then ([], 4) else (fromL k, 0)
theorem mem_fromL (k : List UInt8) (x : Int) : x ∈ fromL k ↔ 0 ≤ x ∧ keyBit k x = 1 := by
  unfold fromL keyBit
  rw [List.mem_flatMap]
  constructor
  · rintro ⟨i, hi, hx⟩
    obtain ⟨j, hj, rfl⟩ := List.mem_map.1 hx
    have h1 := List.mem_filter.1 hj
    have h2 : j < 8 := List.mem_range.1 h1.1
    refine ⟨by omega, ?_⟩
    rw [show (((8 : Int) * i + j) / 8).toNat = i by omega, show (((8 : Int) * i + j) % 8).toNat = j by omega]
    simpa using h1.2
  · rintro ⟨h0, hb⟩
    have hi : (x / 8).toNat < k.length := by
      by_cases h : (x / 8).toNat < k.length
      · exact h
      · rw [List.getD_eq_getElem?_getD, List.getElem?_eq_none (by omega)] at hb
        simp at hb
    exact ⟨(x / 8).toNat, List.mem_range.2 hi, List.mem_map.2 ⟨(x % 8).toNat, List.mem_filter.2 ⟨List.mem_range.2 (by omega), by simpa using hb⟩, by omega⟩⟩
theorem rise_flat : ∀ (n : Nat) (f : Nat → List Int), (∀ i, (f i).Pairwise (· < ·)) → (∀ i, ∀ x ∈ f i, 8 * (i : Int) ≤ x ∧ x < 8 * i + 8) → ((List.range n).flatMap f).Pairwise (· < ·) ∧ ∀ x ∈ (List.range n).flatMap f, 0 ≤ x ∧ x < 8 * n
  | 0, f, _, _ => ⟨by simp, by simp⟩
  | n + 1, f, h1, h2 => by
    obtain ⟨a, b⟩ := rise_flat n f h1 h2
    rw [List.range_succ, List.flatMap_append, List.flatMap_cons, List.flatMap_nil, List.append_nil]
    refine ⟨List.pairwise_append.2 ⟨a, h1 n, fun x hx y hy => ?_⟩, fun x hx => ?_⟩
    · have := b x hx; have := h2 n y hy; omega
    · rcases List.mem_append.1 hx with h | h
      · have := b x h; omega
      · have := h2 n x h; omega
theorem fromL_rise (k : List UInt8) : (fromL k).Pairwise (· < ·) ∧ ∀ x ∈ fromL k, 0 ≤ x ∧ x < 8 * k.length := by
  refine rise_flat k.length _ (fun i => ?_) (fun i x hx => ?_)
  · rw [List.pairwise_map]
    exact (List.pairwise_lt_range.filter _).imp fun h => by omega
  · obtain ⟨j, hj, rfl⟩ := List.mem_map.1 hx
    have h2 : j < 8 := List.mem_range.1 (List.mem_filter.1 hj).1
    omega
theorem fromL_in {k : List UInt8} (h : k.length ≤ 8192) : BIn (fromL k) := ⟨(fromL_rise k).1, fun x hx => by have := (fromL_rise k).2 x hx; omega⟩
theorem keyB_back {l : List Int} (h : BIn l) : fromL (keyB l) = l := by
  have hk : (keyB l).length ≤ 8192 := by rw [keyB_len]; exact lenB_le h
  exact BIn.ext (fromL_in hk) h fun x => by rw [mem_fromL, ← keyB_mem h]
theorem keyB_last {l : List Int} (h : BIn l) : (keyB l).getLast? ≠ some 0 := by
  intro e
  cases hz : l.getLast? with
  | none =>
    have : keyB l = [] := by unfold keyB lenB; rw [hz]; rfl
    rw [this] at e; cases e
  | some z =>
    have hm := List.mem_of_getLast? hz
    have h1 := (keyB_mem h z).1 hm
    have hl : lenB l = (z / 8).toNat + 1 := by unfold lenB; rw [hz]
    have hg : (keyB l).getD (z / 8).toNat 0 = 0 := by
      rw [List.getLast?_eq_getElem?, keyB_len, hl, Nat.add_sub_cancel] at e
      rw [List.getD_eq_getElem?_getD, e]; rfl
    have h2 := h1.2
    unfold keyBit at h2
    rw [hg] at h2
    simp at h2
theorem fromB_key {l : List Int} (h : BIn l) : fromB (keyB l) = (l, 0) := by
  unfold fromB
  rw [if_neg, keyB_back h]
  rintro (h1 | h1)
  · rw [keyB_len] at h1; have := lenB_le h; omega
  · exact keyB_last h h1
end Go.Proofs.YtbeniihbejakaaaDoor
/-
  Sets as data: what the laws ask (no program).
-/
namespace Go.Proofs.YtbeniihbejakaaaDoor
def withinB (s t : List Int) : Bool := s.all fun x => decide (x ∈ t)
theorem withinB_iff {s t : List Int} : withinB s t = true ↔ ∀ x ∈ s, x ∈ t := by unfold withinB; simp
theorem withinB_refl (s : List Int) : withinB s s = true := withinB_iff.2 fun _ h => h
theorem BIn.of {l : List Int} (h : BIn l) {y : Int} (hy : y ∈ l) : 0 ≤ y ∧ y ≤ 65535 := by have := h.2 y hy; omega
/-- Over any lists: the sets are the same just if each of both has what is listed. -/
theorem ofB_same {a b : List Int} : ofB a = ofB b ↔ ∀ n ∈ a ++ b, (n ∈ ofB a ↔ n ∈ ofB b) := by
  refine ⟨fun h n _ => by rw [h], fun h => BIn.ext (ofB_in a) (ofB_in b) fun n => ?_⟩
  by_cases hn : n ∈ a ++ b
  · exact h n hn
  · rw [mem_ofB, mem_ofB]
    have h1 : n ∉ a := fun h => hn (List.mem_append.2 (.inl h))
    have h2 : n ∉ b := fun h => hn (List.mem_append.2 (.inr h))
    simp [h1, h2]
theorem withoutB_withB {s : List Int} (h : BIn s) (x : Int) : withoutB (withB s x) x = withoutB s x := by
  refine BIn.ext (withoutB_in (withB_in h x) x) (withoutB_in h x) fun y => ?_
  rw [mem_withoutB, mem_withoutB, mem_withB]
  constructor
  · rintro ⟨⟨h1, -⟩ | h1, h2⟩
    · exact absurd h1 h2
    · exact ⟨h1, h2⟩
  · exact fun h1 => ⟨.inr h1.1, h1.2⟩
theorem withB_has {s : List Int} (h : BIn s) {x : Int} (hx : x ∈ s) : withB s x = s := by
  refine BIn.ext (withB_in h x) h fun y => ?_
  rw [mem_withB]
  exact ⟨fun h1 => h1.elim (fun h => h.1 ▸ hx) id, .inr⟩
theorem unionB_comm {s t : List Int} (hs : BIn s) (ht : BIn t) : unionB s t = unionB t s := by
  refine BIn.ext (unionB_in t hs) (unionB_in s ht) fun y => ?_
  rw [mem_unionB, mem_unionB]
  constructor
  · rintro (h | h)
    · exact .inr ⟨h, hs.of h⟩
    · exact .inl h.1
  · rintro (h | h)
    · exact .inr ⟨h, ht.of h⟩
    · exact .inl h.1
theorem unionB_again {s t : List Int} (hs : BIn s) : unionB (unionB s t) t = unionB s t := by
  refine BIn.ext (unionB_in t (unionB_in t hs)) (unionB_in t hs) fun y => ?_
  rw [mem_unionB, mem_unionB]
  constructor
  · rintro (h | h)
    · exact h
    · exact .inr h
  · exact .inl
theorem within_union1 (s t : List Int) : withinB s (unionB s t) = true := withinB_iff.2 fun x hx => (mem_unionB t s x).2 (.inl hx)
theorem within_union2 {s t : List Int} (ht : BIn t) : withinB t (unionB s t) = true := withinB_iff.2 fun x hx => (mem_unionB t s x).2 (.inr ⟨hx, ht.of hx⟩)
theorem within_iff {s t : List Int} (hs : BIn s) (ht : BIn t) : withinB s t = true ↔ unionB s t = t := by
  rw [withinB_iff]
  constructor
  · intro h
    refine BIn.ext (unionB_in t hs) ht fun y => ?_
    rw [mem_unionB]
    exact ⟨fun h1 => h1.elim (h y) (·.1), fun h1 => .inr ⟨h1, ht.of h1⟩⟩
  · intro h x hx
    rw [← h, mem_unionB]
    exact .inl hx
/-- The least one, or -1. -/
def leastB (l : List Int) : Int := match l with
  | [] => -1
  | x :: _ => x
end Go.Proofs.YtbeniihbejakaaaDoor
