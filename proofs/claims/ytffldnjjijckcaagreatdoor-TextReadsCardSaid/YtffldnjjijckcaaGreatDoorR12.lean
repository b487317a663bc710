/-
  Texts cut at a byte; numbers' words; no program.
-/
import Derived.Lib.SplitLaws
import Derived.Lib.Join
import Derived.Lib.AtoiTie
import Derived.Lib.AtoiAllCases
import Derived.Test.YtffldnjjijckcaaGreatDoorR02
set_option linter.unusedSimpArgs false
set_option linter.unusedVariables false
namespace Go.Proofs.YtffldnjjijckcaaGreatDoor
open Go.RowKit
/-- A text cut at a byte. -/
def cutAt (c : UInt8) : List UInt8 → List (List UInt8)
  | [] => [[]]
  | x :: r => if x = c then [] :: cutAt c r else (x :: (cutAt c r).headD []) :: (cutAt c r).tail
theorem cutAt_ne (c : UInt8) (s : List UInt8) : cutAt c s ≠ [] := by
  cases s with
  | nil => simp [cutAt]
  | cons x r => unfold cutAt; split <;> simp
theorem cutAt_pos (c : UInt8) (s : List UInt8) : 1 ≤ (cutAt c s).length := List.length_pos_iff.2 (cutAt_ne c s)
theorem cutAt_hit (c : UInt8) : ∀ (w r : List UInt8), c ∉ w → cutAt c (w ++ c :: r) = w :: cutAt c r
  | [], r, _ => by simp [cutAt]
  | x :: w, r, h => by
    have hx : ¬ x = c := fun e => h (by simp [e])
    have ih := cutAt_hit c w r (fun hm => h (by simp [hm]))
    rw [List.cons_append, cutAt, if_neg hx, ih]
    rfl
theorem cutAt_free (c : UInt8) : ∀ (w : List UInt8), c ∉ w → cutAt c w = [w]
  | [], _ => rfl
  | x :: w, h => by
    have hx : ¬ x = c := fun e => h (by simp [e])
    have ih := cutAt_free c w (fun hm => h (by simp [hm]))
    rw [cutAt, if_neg hx, ih]
    rfl
/-- The two ways of a text: it has the byte, or it has not. -/
theorem cut_ways (c : UInt8) (s : List UInt8) : c ∉ s ∨ ∃ w r, c ∉ w ∧ s = w ++ c :: r := by
  by_cases h : c ∈ s
  · obtain ⟨w, r, e, hw⟩ := List.eq_append_cons_of_mem h
    exact .inr ⟨w, r, hw, e⟩
  · exact .inl h
/-- A proof by the cuts of a text. -/
theorem cut_rec (c : UInt8) {P : List UInt8 → Prop} (h0 : ∀ s, c ∉ s → P s) (h1 : ∀ w r, c ∉ w → P r → P (w ++ c :: r)) : ∀ s, P s := by
  have key : ∀ n (s : List UInt8), s.length ≤ n → P s := by
    intro n
    induction n with
    | zero =>
      intro s hs
      refine h0 s (fun h => ?_)
      have : s = [] := List.eq_nil_of_length_eq_zero (by omega)
      subst this; simp at h
    | succ n ih =>
      intro s hs
      rcases cut_ways c s with h | ⟨w, r, hw, rfl⟩
      · exact h0 s h
      · exact h1 w r hw (ih r (by simp at hs; omega))
  exact fun s => key s.length s (Nat.le_refl _)
theorem join_cons2 (x y : List UInt8) (r : List (List UInt8)) (sep : List UInt8) : Lib.join (x :: y :: r) sep = x ++ sep ++ Lib.join (y :: r) sep := by
  simp [Lib.join_cons, Lib.joinTail, List.append_assoc]
theorem join_cons_ne (x : List UInt8) (r : List (List UInt8)) (sep : List UInt8) (h : r ≠ []) : Lib.join (x :: r) sep = x ++ sep ++ Lib.join r sep := by
  cases r with
  | nil => exact absurd rfl h
  | cons y r => exact join_cons2 x y r sep
theorem join_cut (c : UInt8) : ∀ s, Lib.join (cutAt c s) [c] = s := by
  refine cut_rec c (fun s h => ?_) (fun w r h ih => ?_)
  · rw [cutAt_free c s h, Lib.join_one]
  · rw [cutAt_hit c w r h, join_cons_ne _ _ _ (cutAt_ne c r), ih]; simp
theorem cut_parts_free (c : UInt8) : ∀ s, ∀ p ∈ cutAt c s, c ∉ p := by
  refine cut_rec c (fun s h => ?_) (fun w r h ih => ?_)
  · rw [cutAt_free c s h]; simpa using h
  · rw [cutAt_hit c w r h]
    intro p hp
    rcases List.mem_cons.1 hp with rfl | hp
    · exact h
    · exact ih p hp
theorem cut_join (c : UInt8) : ∀ ws : List (List UInt8), ws ≠ [] → (∀ w ∈ ws, c ∉ w) → cutAt c (Lib.join ws [c]) = ws
  | [], h, _ => absurd rfl h
  | [w], _, hf => by rw [Lib.join_one]; exact cutAt_free c w (hf w (by simp))
  | w :: y :: r, _, hf => by
    rw [join_cons2, List.append_assoc, List.singleton_append, cutAt_hit c w _ (hf w (by simp)), cut_join c (y :: r) (by simp) (fun x hx => hf x (by simp [hx]))]
/-- What the joined text of two lists of words is. -/
theorem join_app (l m : List (List UInt8)) (sep : List UInt8) (hl : l ≠ []) (hm : m ≠ []) : Lib.join (l ++ m) sep = Lib.join l sep ++ sep ++ Lib.join m sep := by
  induction l with
  | nil => exact absurd rfl hl
  | cons x r ih =>
    by_cases h : r = []
    · subst h; rw [List.singleton_append, join_cons_ne _ _ _ hm, Lib.join_one]
    · rw [List.cons_append, join_cons_ne _ _ _ (by simp [h]), join_cons_ne _ _ _ h, ih h]; simp [List.append_assoc]
/-- A word that is itself joined of words. -/
theorem join_join (l : List (List UInt8)) (t : List (List UInt8)) (sep : List UInt8) (ht : t ≠ []) : Lib.join (l ++ [Lib.join t sep]) sep = Lib.join (l ++ t) sep := by
  by_cases h : l = []
  · subst h; simp [Lib.join_one]
  · rw [join_app _ _ _ h (by simp), join_app _ _ _ h ht, Lib.join_one]
theorem join_mem {c : UInt8} {ws : List (List UInt8)} {sep : List UInt8} (h : c ∈ Lib.join ws sep) : c ∈ sep ∨ ∃ w ∈ ws, c ∈ w := by
  induction ws with
  | nil => simp [Lib.join_nil] at h
  | cons x r ih =>
    by_cases hr : r = []
    · subst hr; rw [Lib.join_one] at h; exact .inr ⟨x, by simp, h⟩
    · rw [join_cons_ne _ _ _ hr] at h
      simp only [List.mem_append] at h
      rcases h with (h | h) | h
      · exact .inr ⟨x, by simp, h⟩
      · exact .inl h
      · rcases ih h with h | ⟨w, hw, h⟩
        · exact .inl h
        · exact .inr ⟨w, by simp [hw], h⟩
theorem cut_len_le (c : UInt8) (s : List UInt8) : (cutAt c s).length ≤ s.length + 1 := by
  induction s with
  | nil => simp [cutAt]
  | cons x r ih =>
    unfold cutAt
    split
    · simp; omega
    · have := cutAt_pos c r; simp; omega
theorem cut_part_le (c : UInt8) : ∀ s, ∀ p ∈ cutAt c s, p.length ≤ s.length := by
  refine cut_rec c (fun s h => ?_) (fun w r h ih => ?_)
  · rw [cutAt_free c s h]; simp
  · rw [cutAt_hit c w r h]
    intro p hp
    rcases List.mem_cons.1 hp with rfl | hp
    · simp
    · have := ih p hp; simp; omega
/-- The library's cuts. -/
theorem index_free (c : UInt8) (s : List UInt8) (h : c ∉ s) : Lib.index s [c] = -1 := by
  refine Lib.index_none (fun j _ => ?_)
  unfold Lib.occAt
  cases hd : s.drop j with
  | nil => rfl
  | cons x r =>
    have : x ∈ s := List.mem_of_mem_drop (i := j) (by rw [hd]; simp)
    have hx : c ≠ x := fun e => h (e ▸ this)
    simp [List.isPrefixOf, hx]
theorem index_at (c : UInt8) (w r : List UInt8) (h : c ∉ w) : Lib.index (w ++ c :: r) [c] = w.length := by
  refine Lib.index_first (by simp) ?_ (fun j hj => ?_)
  · unfold Lib.occAt; rw [List.drop_left]; simp [List.isPrefixOf]
  · unfold Lib.occAt
    rw [List.drop_append_of_le_length (by omega)]
    cases hd : w.drop j with
    | nil => have := congrArg List.length hd; simp at this; omega
    | cons x t =>
      have : x ∈ w := List.mem_of_mem_drop (i := j) (by rw [hd]; simp)
      have hx : c ≠ x := fun e => h (e ▸ this)
      simp [List.isPrefixOf, hx]
theorem splitK_free (c : UInt8) (k : Nat) (s : List UInt8) (h : c ∉ s) : Lib.splitK [c] 0 k s = [s] := by
  cases k with
  | zero => rfl
  | succ k => unfold Lib.splitK; rw [index_free c s h]; rfl
theorem splitK_hit (c : UInt8) (sv k : Nat) (w r : List UInt8) (h : c ∉ w) : Lib.splitK [c] sv (k + 1) (w ++ c :: r) = (w ++ c :: r).take (w.length + sv) :: Lib.splitK [c] sv k r := by
  have e : (((w.length : Int)) == -1) = false := by rw [beq_eq_false_iff_ne]; omega
  rw [Lib.splitK, index_at c w r h, e]
  simp
/-- At most k cuts: all pieces, or k of them and one that still has the byte. -/
theorem splitK_cut (c : UInt8) : ∀ (k : Nat) (s : List UInt8), ((cutAt c s).length ≤ k + 1 ∧ Lib.splitK [c] 0 k s = cutAt c s) ∨
    (k + 1 < (cutAt c s).length ∧ (Lib.splitK [c] 0 k s).length = k + 1 ∧ ∃ q ∈ Lib.splitK [c] 0 k s, c ∈ q)
  | 0, s => by
    rcases cut_ways c s with h | ⟨w, r, hw, rfl⟩
    · left; rw [cutAt_free c s h]; exact ⟨Nat.le_refl _, rfl⟩
    · right
      rw [cutAt_hit c w r hw]
      have := cutAt_pos c r
      exact ⟨by simp; omega, rfl, w ++ c :: r, by simp [Lib.splitK], by simp⟩
  | k + 1, s => by
    rcases cut_ways c s with h | ⟨w, r, hw, rfl⟩
    · left; rw [cutAt_free c s h, splitK_free c _ s h]; exact ⟨by simp, rfl⟩
    · rw [cutAt_hit c w r hw, splitK_hit c 0 k w r hw]
      rcases splitK_cut c k r with ⟨h1, h2⟩ | ⟨h1, h2, q, hq, hc⟩
      · left; rw [h2]; exact ⟨by simp; omega, by simp⟩
      · right; exact ⟨by simp; omega, by simp [h2], q, by simp [hq], hc⟩
theorem splitB_cut (c : UInt8) (k : Nat) (s : List UInt8) : ∃ l, Lib.splitB ⟨#[c]⟩ 0 k (bs s) = l.map bs ∧ l = Lib.splitK [c] 0 k s := by
  refine ⟨_, ?_, rfl⟩
  have h := Lib.splitB_data ⟨#[c]⟩ 0 k (bs s)
  rw [bs_list] at h
  have h2 := congrArg (List.map bs) h
  rw [List.map_map] at h2
  rw [show ((⟨#[c]⟩ : ByteArray).data.toList) = [c] from rfl] at h2
  rw [← h2]
  conv => lhs; rw [← List.map_id (Lib.splitB _ _ _ _)]
  refine List.map_congr_left (fun x _ => ?_)
  show x = bs x.data.toList
  rw [bs_of]
/-- A number's word, up to seven digits; below 0: it is none. -/
def num7Ok (s : List UInt8) : Bool := decide (1 ≤ s.length) && decide (s.length ≤ 7) && (s.getD 0 0 != 48 || s.length == 1) && s.all (fun c => decide (48 ≤ c.toNat) && decide (c.toNat ≤ 57))
def num7 (s : List UInt8) : Int := if num7Ok s then spells 0 s else -1
theorem num7Ok_iff (s : List UInt8) : num7Ok s = true ↔ 1 ≤ s.length ∧ s.length ≤ 7 ∧ (s.getD 0 0 ≠ 48 ∨ s.length = 1) ∧ ∀ c ∈ s, isDig c := by
  unfold num7Ok isDig
  simp [and_assoc]
theorem spells_lt : ∀ (s : List UInt8) (acc k : Nat), (∀ c ∈ s, isDig c) → acc < 10 ^ k → spells acc s < 10 ^ (k + s.length)
  | [], acc, k, _, h => by simpa [spells] using h
  | c :: r, acc, k, hd, h => by
    have h1 := hd c (by simp)
    unfold isDig at h1
    have := spells_lt r (10 * acc + (c.toNat - 48)) (k + 1) (fun x hx => hd x (by simp [hx])) (by rw [Nat.pow_succ]; omega)
    have e : k + (c :: r).length = k + 1 + r.length := by simp; omega
    rw [e]
    exact this
theorem num7_bounds (s : List UInt8) : -1 ≤ num7 s ∧ num7 s < 10000000 := by
  unfold num7
  split
  · rename_i h
    obtain ⟨h1, h2, h3, h4⟩ := (num7Ok_iff s).1 h
    have := spells_lt s 0 0 h4 (by decide)
    have h5 : 10 ^ (0 + s.length) ≤ 10 ^ 7 := Nat.pow_le_pow_right (by decide) (by omega)
    omega
  · omega
theorem num7_ok {s : List UInt8} (h : 0 ≤ num7 s) : dec (num7 s) = s := by
  unfold num7 at *
  split at h
  · rename_i hh
    rw [if_pos hh]
    obtain ⟨h1, h2, h3, h4⟩ := (num7Ok_iff s).1 hh
    unfold dec
    exact dec_spells _ s rfl (fun e => by subst e; simp at h1) h4 h3
  · omega
theorem num7_dec {n : Int} (h0 : 0 ≤ n) (h1 : n < 10000000) : num7 (dec n) = n := by
  have hlen : (Lib.decDigits n.toNat).length ≤ 7 := dec_length_le 6 n.toNat (by omega)
  have hne := dec_ne n.toNat
  have hok : num7Ok (dec n) = true := by
    rw [num7Ok_iff]
    refine ⟨List.length_pos_iff.2 hne, hlen, ?_, dec_digits _⟩
    by_cases hz : n.toNat = 0
    · right; unfold dec; rw [hz, dec_small (by decide)]; rfl
    · left; exact fun e => hz (dec_head _ e)
  unfold num7
  rw [if_pos hok]
  unfold dec
  rw [spells_dec]
  omega
/-- What strconv.Atoi tells of a number's word. -/
theorem decFrom_spells : ∀ (s : List UInt8) (acc : Nat), (∀ c ∈ s, isDig c) → Lib.decFrom acc s = some (spells acc s)
  | [], acc, _ => rfl
  | c :: r, acc, h => by
    have h1 := h c (by simp)
    unfold isDig at h1
    have hv : Lib.digitVal c = some (c.toNat - 48) := by unfold Lib.digitVal; rw [if_pos h1]
    unfold Lib.decFrom
    rw [hv]
    have := decFrom_spells r (acc * 10 + (c.toNat - 48)) (fun x hx => h x (by simp [hx]))
    simp only [this]
    show _ = some (spells (10 * acc + (c.toNat - 48)) r)
    rw [Nat.mul_comm]
theorem atoi_dec {n : Int} (h0 : 0 ≤ n) (h1 : n < 10000000) : Lib.atoiAll (dec n) = .ok n := by
  have hlen : (dec n).length ≤ 7 := dec_length_le 6 n.toNat (by omega)
  have hne : dec n ≠ [] := dec_ne n.toNat
  have hd : ∀ c ∈ dec n, isDig c := dec_digits _
  have hs : spells 0 (dec n) = n.toNat := spells_dec _
  generalize dec n = s at *
  cases s with
  | nil => exact absurd rfl hne
  | cons c r =>
    have hc := hd c (by simp)
    unfold isDig at hc
    rw [Lib.atoiAll_plain c r (by omega) (by omega), Lib.signless_short (by omega)]
    unfold Lib.decNat
    rw [if_neg (by simp), decFrom_spells _ _ hd, hs]
    simp [Lib.NumEnd.ofOption]
    omega
end Go.Proofs.YtffldnjjijckcaaGreatDoor
/-
  Events' lines, and what a line's words are read as; no program.
-/
namespace Go.Proofs.YtffldnjjijckcaaGreatDoor
open Go.RowKit
def configL : List UInt8 := [99, 111, 110, 102, 105, 103]
def invokeL : List UInt8 := [105, 110, 118, 111, 107, 101]
def returnL : List UInt8 := [114, 101, 116, 117, 114, 110]
def infoL : List UInt8 := [105, 110, 102, 111]
def beginL : List UInt8 := [98, 101, 103, 105, 110]
def commitL : List UInt8 := [99, 111, 109, 109, 105, 116]
def abortL : List UInt8 := [97, 98, 111, 114, 116]
def partL : List UInt8 := [112, 97, 114, 116, 105, 116, 105, 111, 110]
def cutL : List UInt8 := [99, 117, 116]
def memoL : List UInt8 := [109, 101, 109, 111]
def readL : List UInt8 := [114, 101, 97, 100]
def appendL : List UInt8 := [97, 112, 112, 101, 110, 100]
/-- A kind's name; a model's. -/
def kdNm (k : Int) : List UInt8 := if k = 1 then configL else if k = 2 then invokeL else if k = 3 then returnL else if k = 4 then infoL else if k = 5 then beginL else if k = 6 then commitL else if k = 7 then abortL else []
def kdOf (w : List UInt8) : Int := if w = configL then 1 else if w = invokeL then 2 else if w = returnL then 3 else if w = infoL then 4 else if w = beginL then 5 else if w = commitL then 6 else if w = abortL then 7 else 0
def mdNm (m : Int) : List UInt8 := if m = 0 then [114, 101, 103, 105, 115, 116, 101, 114] else if m = 1 then [113, 117, 101, 117, 101] else if m = 2 then [109, 97, 112] else if m = 3 then [108, 111, 99, 107] else if m = 4 then appendL else []
def mdOf (w : List UInt8) : Int := if w = mdNm 0 then 0 else if w = mdNm 1 then 1 else if w = mdNm 2 then 2 else if w = mdNm 3 then 3 else if w = mdNm 4 then 4 else -1
theorem kdOf_bounds (w : List UInt8) : 0 ≤ kdOf w ∧ kdOf w ≤ 7 := by unfold kdOf; repeat' split
                                                                     all_goals omega
theorem mdOf_bounds (w : List UInt8) : -1 ≤ mdOf w ∧ mdOf w ≤ 4 := by unfold mdOf; repeat' split
                                                                      all_goals omega
theorem kdOf_nm {k : Int} (h : evKind k = true) : kdOf (kdNm k) = k := by
  rcases kind_cases h with rfl | rfl | rfl | rfl | rfl | rfl | rfl <;> decide
theorem kdNm_of {w : List UInt8} (h : kdOf w ≠ 0) : kdNm (kdOf w) = w ∧ evKind (kdOf w) = true := by
  unfold kdOf at *
  repeat' split
  all_goals first
    | (rename_i e; subst e; exact ⟨rfl, by decide⟩)
    | (exfalso; revert h; simp [*])
theorem mdOf_nm {m : Int} (h0 : 0 ≤ m) (h1 : m ≤ 4) : mdOf (mdNm m) = m := by
  rcases (by omega : m = 0 ∨ m = 1 ∨ m = 2 ∨ m = 3 ∨ m = 4) with rfl | rfl | rfl | rfl | rfl <;> decide
theorem mdNm_of {w : List UInt8} (h : 0 ≤ mdOf w) : mdNm (mdOf w) = w := by
  unfold mdOf at *
  repeat' split
  all_goals first
    | (rename_i e; subst e; rfl)
    | (exfalso; revert h; simp [*])
/-- The words of an event behind its kind's. -/
def whoW (x : Ev) : List (List UInt8) := [dec x.c, dec x.id]
def flagW (b : Bool) (w : List UInt8) : List (List UInt8) := if b then [w] else []
def cfgW (g : Cfg) : List (List UInt8) := [mdNm g.m, dec g.mo, dec g.ms, dec g.mt] ++ flagW g.p partL ++ flagW g.cu cutL ++ flagW g.me memoL
def micW (m : Mic) : List (List UInt8) := if m.rd then [readL, dec m.key] else [appendL, dec m.key, dec m.v]
def listW (l : List Int) : List UInt8 := if l = [] then [45] else Lib.join (l.map dec) [44]
def evTail (x : Ev) : List (List UInt8) :=
  if x.k = 1 then cfgW x.g else if x.k = 2 then whoW x ++ opWords x.o else if x.k = 3 then whoW x ++ [rsTxt x.rk x.rv] else
  if x.k = 5 then whoW x ++ x.t.flatMap micW else if x.k = 6 then whoW x ++ x.r.map listW else whoW x
/-- An event's line. -/
def evLine (x : Ev) : List UInt8 := Lib.join (kdNm x.k :: evTail x) [32]
/-- The line's words: the text of an answer may have two. -/
def evWords (x : Ev) : List (List UInt8) := kdNm x.k :: (if x.k = 3 then whoW x ++ cutAt 32 (rsTxt x.rk x.rv) else evTail x)
theorem line_words (x : Ev) : evLine x = Lib.join (evWords x) [32] := by
  unfold evLine evWords
  split
  · rename_i h
    have e : evTail x = whoW x ++ [rsTxt x.rk x.rv] := by unfold evTail; simp [h]
    have j := join_join (kdNm x.k :: whoW x) (cutAt 32 (rsTxt x.rk x.rv)) [32] (cutAt_ne _ _)
    rw [join_cut] at j
    rw [e, ← List.cons_append, ← List.cons_append, j]
  · rfl
/-- Bytes that words are made of: letters and digits. -/
def plainB (w : List UInt8) : Bool := w.all fun c => decide (48 ≤ c.toNat)
theorem plain_free {w : List UInt8} (h : plainB w = true) (c : UInt8) (hc : c.toNat < 48) : c ∉ w := by
  intro hm
  unfold plainB at h
  rw [List.all_eq_true] at h
  have := h c hm
  simp at this
  omega
theorem dec_plain (n : Int) : plainB (dec n) = true := by
  unfold plainB
  rw [List.all_eq_true]
  intro c hc
  have := dec_digits _ c hc
  unfold isDig at this
  simp; omega
theorem nm_plain (f : Int) : plainB (opNm f) = true := by
  unfold opNm
  repeat' split
  all_goals decide
theorem kd_plain (k : Int) : plainB (kdNm k) = true := by
  unfold kdNm
  repeat' split
  all_goals decide
theorem md_plain (m : Int) : plainB (mdNm m) = true := by
  unfold mdNm
  repeat' split
  all_goals decide
theorem opw_plain (x : Opn) : ∀ w ∈ opWords x, plainB w = true := by
  intro w hw
  unfold opWords at hw
  simp only [List.mem_append, List.mem_cons, List.not_mem_nil, or_false] at hw
  rcases hw with (((rfl | rfl) | h) | h) | h
  · exact dec_plain _
  · exact nm_plain _
  all_goals
    split at h
    · simp at h; subst h; exact dec_plain _
    · simp at h
theorem who_plain (x : Ev) : ∀ w ∈ whoW x, plainB w = true := by
  intro w hw
  unfold whoW at hw
  simp at hw
  rcases hw with rfl | rfl <;> exact dec_plain _
theorem cfg_plain (g : Cfg) : ∀ w ∈ cfgW g, plainB w = true := by
  intro w hw
  unfold cfgW flagW at hw
  simp only [List.mem_append, List.mem_cons, List.not_mem_nil, or_false] at hw
  rcases hw with (((rfl | rfl | rfl | rfl) | h) | h) | h
  · exact md_plain _
  · exact dec_plain _
  · exact dec_plain _
  · exact dec_plain _
  all_goals
    split at h
    · simp at h; subst h; decide
    · simp at h
theorem mic_plain (m : Mic) : ∀ w ∈ micW m, plainB w = true := by
  intro w hw
  unfold micW at hw
  split at hw
  · simp at hw; rcases hw with rfl | rfl
    · decide
    · exact dec_plain _
  · simp at hw; rcases hw with rfl | rfl | rfl
    · decide
    · exact dec_plain _
    · exact dec_plain _
theorem join_dec_free (c : UInt8) (hc : c.toNat < 44) (l : List Int) : c ∉ Lib.join (l.map dec) [44] := by
  intro h
  rcases join_mem h with h | ⟨w, hw, h⟩
  · simp at h; subst h; revert hc; decide
  · rw [List.mem_map] at hw
    obtain ⟨n, _, rfl⟩ := hw
    exact plain_free (dec_plain n) c (by omega) h
theorem listW_free (c : UInt8) (hc : c.toNat < 44) (l : List Int) : c ∉ listW l := by
  unfold listW
  split
  · intro h; simp at h; subst h; revert hc; decide
  · exact join_dec_free c hc l
theorem rs_free (k v : Int) : (10 : UInt8) ∉ rsTxt k v := by
  unfold rsTxt
  split
  · intro h
    rw [List.mem_append] at h
    rcases h with h | h
    · revert h; decide
    · exact plain_free (dec_plain v) 10 (by decide) h
  · unfold rsWord
    repeat' split
    all_goals decide
/-- No word of a line has a byte 32, or 10. -/
theorem words_free (x : Ev) (c : UInt8) (hc : c = 32 ∨ c = 10) : ∀ w ∈ evWords x, c ∉ w := by
  have hlt : c.toNat < 44 := by rcases hc with rfl | rfl <;> decide
  intro w hw
  unfold evWords at hw
  rcases List.mem_cons.1 hw with rfl | hw
  · exact plain_free (kd_plain _) c (by omega)
  · split at hw
    · rcases List.mem_append.1 hw with h | h
      · exact plain_free (who_plain x w h) c (by omega)
      · rcases hc with rfl | rfl
        · exact cut_parts_free 32 _ w h
        · intro hm
          have e := join_cut 32 (rsTxt x.rk x.rv)
          refine rs_free x.rk x.rv ?_
          rw [← e]
          clear e hw
          clear hw
          revert h
          generalize cutAt 32 (rsTxt x.rk x.rv) = ws at *
          intro h
          induction ws with
          | nil => simp at h
          | cons y r ih =>
            by_cases hr : r = []
            · subst hr; simp at h; subst h; rw [Lib.join_one]; exact hm
            · rw [join_cons_ne _ _ _ hr]
              rcases List.mem_cons.1 h with rfl | h
              · simp [hm]
              · simp [ih h]
    · unfold evTail at hw
      repeat' split at hw
      · exact plain_free (cfg_plain _ w hw) c (by omega)
      · rcases List.mem_append.1 hw with h | h
        · exact plain_free (who_plain x w h) c (by omega)
        · exact plain_free (opw_plain _ w h) c (by omega)
      · rcases List.mem_append.1 hw with h | h
        · exact plain_free (who_plain x w h) c (by omega)
        · rw [List.mem_flatMap] at h
          obtain ⟨m, _, h⟩ := h
          exact plain_free (mic_plain m w h) c (by omega)
      · rcases List.mem_append.1 hw with h | h
        · exact plain_free (who_plain x w h) c (by omega)
        · rw [List.mem_map] at h
          obtain ⟨l, _, rfl⟩ := h
          exact listW_free c hlt l
      · exact plain_free (who_plain x w hw) c (by omega)
theorem cut_line (x : Ev) : cutAt 32 (evLine x) = evWords x := by
  rw [line_words]
  exact cut_join 32 _ (by simp [evWords]) (words_free x 32 (.inl rfl))
abbrev Wds := List (List UInt8)
/-- A number is read, at most 'most'. -/
def rdNum (most : Int) : Wds → Option (Int × Wds)
  | [] => none
  | w :: r => if 0 ≤ num7 w ∧ num7 w ≤ most then some (num7 w, r) else none
def rdWho (l : Wds) : Option (Int × Int × Wds) :=
  match rdNum 15 l with
  | none => none
  | some (c, r) => match rdNum 65535 r with
    | none => none
    | some (i, r2) => some (c, i, r2)
def rdHas (w : List UInt8) (l : Wds) : Bool := l.head? == some w
def rdLeft (w : List UInt8) (l : Wds) : Wds := if rdHas w l then l.tail else l
def rdModel : Wds → Option (Int × Wds)
  | [] => none
  | w :: r => if 0 ≤ mdOf w then some (mdOf w, r) else none
def rdFlags (m mo ms mt : Int) (l : Wds) : Cfg × Wds :=
  (⟨m, mo, ms, mt, rdHas partL l, rdHas cutL (rdLeft partL l), rdHas memoL (rdLeft cutL (rdLeft partL l))⟩, rdLeft memoL (rdLeft cutL (rdLeft partL l)))
def rdCfg (l : Wds) : Option (Cfg × Wds) :=
  match rdModel l with
  | none => none
  | some (m, l1) => match rdNum 32 l1 with
    | none => none
    | some (mo, l2) => match rdNum 4096 l2 with
      | none => none
      | some (ms, l3) => match rdNum 1048576 l3 with
        | none => none
        | some (mt, l4) => some (rdFlags m mo ms mt l4)
def rdMic (l : Wds) : Option (Mic × Wds) :=
  if rdHas readL l then
    match rdNum 7 l.tail with
    | none => none
    | some (k, r) => some (⟨true, k, 0⟩, r)
  else if rdHas appendL l then
    match rdNum 7 l.tail with
    | none => none
    | some (k, r) => match rdNum 65535 r with
      | none => none
      | some (v, r2) => some (⟨false, k, v⟩, r2)
  else none
theorem rdNum_len {most : Int} {l : Wds} {n : Int} {r : Wds} (h : rdNum most l = some (n, r)) : l.length = r.length + 1 := by
  cases l with
  | nil => simp [rdNum] at h
  | cons w l =>
    simp only [rdNum] at h
    split at h
    · simp at h; simp [h.2]
    · simp at h
theorem rdMic_len {l : Wds} {m : Mic} {r : Wds} (h : rdMic l = some (m, r)) : r.length < l.length := by
  unfold rdMic at h
  split at h
  · cases h1 : rdNum 7 l.tail with
    | none => simp [h1] at h
    | some p =>
      obtain ⟨k, r1⟩ := p
      have := rdNum_len h1
      simp [h1] at h
      obtain ⟨_, rfl⟩ := h
      simp at this
      omega
  · split at h
    · cases h1 : rdNum 7 l.tail with
      | none => simp [h1] at h
      | some p =>
        obtain ⟨k, r1⟩ := p
        have l1 := rdNum_len h1
        simp [h1] at h
        cases h2 : rdNum 65535 r1 with
        | none => simp [h2] at h
        | some q =>
          obtain ⟨v, r2⟩ := q
          have l2 := rdNum_len h2
          simp [h2] at h
          obtain ⟨_, rfl⟩ := h
          simp at l1
          omega
    · simp at h
/-- All micros; fuel: as many words as there are. -/
def rdMicsF : Nat → Wds → Option (List Mic)
  | _, [] => some []
  | 0, _ :: _ => none
  | n + 1, w :: l => match rdMic (w :: l) with
    | none => none
    | some (m, r) => (rdMicsF n r).map (m :: ·)
theorem rdMicsF_step (n : Nat) (w : List UInt8) (l : Wds) : rdMicsF (n + 1) (w :: l) = (match rdMic (w :: l) with | none => none | some (m, r) => (rdMicsF n r).map (m :: ·)) := rfl
def rdMics (l : Wds) : Option (List Mic) := rdMicsF l.length l
theorem rdMicsF_more : ∀ (n m : Nat) (l : Wds), l.length ≤ n → l.length ≤ m → rdMicsF n l = rdMicsF m l
  | 0, m, [], _, _ => by cases m <;> rfl
  | n + 1, 0, [], _, _ => rfl
  | n + 1, m + 1, [], _, _ => rfl
  | n + 1, m + 1, w :: l, h1, h2 => by
    unfold rdMicsF
    cases h : rdMic (w :: l) with
    | none => rfl
    | some p =>
      obtain ⟨mm, r⟩ := p
      have := rdMic_len h
      simp at this h1 h2
      simp only []
      rw [rdMicsF_more n m r (by omega) (by omega)]
theorem rdMics_nil : rdMics [] = some [] := rfl
theorem rdMics_none {l : Wds} (hl : l ≠ []) (h : rdMic l = none) : rdMics l = none := by
  cases l with
  | nil => exact absurd rfl hl
  | cons w l => unfold rdMics; show rdMicsF (l.length + 1) (w :: l) = none; rw [rdMicsF_step, h]
theorem rdMics_some {l : Wds} {m : Mic} {r : Wds} (hl : l ≠ []) (h : rdMic l = some (m, r)) : rdMics l = (rdMics r).map (m :: ·) := by
  cases l with
  | nil => exact absurd rfl hl
  | cons w l =>
    have hlen := rdMic_len h
    unfold rdMics
    show rdMicsF (l.length + 1) (w :: l) = _
    rw [rdMicsF_step, h]
    show Option.map (fun x => m :: x) (rdMicsF l.length r) = Option.map (fun x => m :: x) (rdMicsF r.length r)
    rw [rdMicsF_more l.length r.length r (by simp at hlen; omega) (Nat.le_refl _)]
def rdAll (most : Int) (l : Wds) : Option (List Int) := if l.all (fun w => decide (0 ≤ num7 w ∧ num7 w ≤ most)) then some (l.map num7) else none
def rdList (w : List UInt8) : Option (List Int) := if w = [45] then some [] else rdAll 65535 (Lib.splitK [44] 0 32 w)
def rdLists : Wds → Option (List (List Int))
  | [] => some []
  | w :: r => match rdList w with
    | none => none
    | some l => (rdLists r).map (l :: ·)
/-- What stands behind a kind's name. -/
def rdBody (k : Int) (l : Wds) : Option Ev :=
  if k = 1 then (match rdCfg l with
    | some (g, []) => some { evZero with k := k, g := g }
    | _ => none)
  else match rdWho l with
    | none => none
    | some (c, i, r) =>
      if k = 2 then (if opsE r = 0 then some { evZero with k := k, c := c, id := i, o := opsX r } else none)
      else if k = 3 then (if psE (Lib.join r [32]) = 0 then some { evZero with k := k, c := c, id := i, rk := psK (Lib.join r [32]), rv := psV (Lib.join r [32]) } else none)
      else if k = 5 then (rdMics r).map fun t => { evZero with k := k, c := c, id := i, t := t }
      else if k = 6 then (rdLists r).map fun t => { evZero with k := k, c := c, id := i, r := t }
      else if r = [] then some { evZero with k := k, c := c, id := i } else none
def rdEv : Wds → Option Ev
  | [] => none
  | w :: r => if kdOf w = 0 then none else rdBody (kdOf w) r
end Go.Proofs.YtffldnjjijckcaaGreatDoor
/-
  A line is read as the event whose line it is; no program.
-/
namespace Go.Proofs.YtffldnjjijckcaaGreatDoor
open Go.RowKit
theorem rdNum_ok {most : Int} {l : Wds} {n : Int} {r : Wds} (h : rdNum most l = some (n, r)) : l = dec n :: r ∧ 0 ≤ n ∧ n ≤ most := by
  cases l with
  | nil => simp [rdNum] at h
  | cons w l =>
    simp only [rdNum] at h
    split at h
    · rename_i hh
      simp at h
      obtain ⟨rfl, rfl⟩ := h
      exact ⟨by rw [num7_ok hh.1], hh.1, hh.2⟩
    · simp at h
theorem rdNum_dec {most n : Int} (r : Wds) (h0 : 0 ≤ n) (h1 : n ≤ most) (h2 : most < 10000000) : rdNum most (dec n :: r) = some (n, r) := by
  show (if 0 ≤ num7 (dec n) ∧ num7 (dec n) ≤ most then some (num7 (dec n), r) else none) = _
  rw [num7_dec h0 (by omega), if_pos ⟨h0, h1⟩]
theorem rdWho_ok {l : Wds} {c i : Int} {r : Wds} (h : rdWho l = some (c, i, r)) : l = dec c :: dec i :: r ∧ 0 ≤ c ∧ c ≤ 15 ∧ 0 ≤ i ∧ i ≤ 65535 := by
  unfold rdWho at h
  cases h1 : rdNum 15 l with
  | none => simp [h1] at h
  | some p =>
    obtain ⟨c1, r1⟩ := p
    simp only [h1] at h
    cases h2 : rdNum 65535 r1 with
    | none => simp [h2] at h
    | some q =>
      obtain ⟨i1, r2⟩ := q
      simp [h2] at h
      obtain ⟨rfl, rfl, rfl⟩ := h
      obtain ⟨e1, a1, a2⟩ := rdNum_ok h1
      obtain ⟨e2, a3, a4⟩ := rdNum_ok h2
      exact ⟨by rw [e1, e2], a1, a2, a3, a4⟩
theorem rdWho_w {c i : Int} (r : Wds) (c0 : 0 ≤ c) (c1 : c ≤ 15) (i0 : 0 ≤ i) (i1 : i ≤ 65535) : rdWho (dec c :: dec i :: r) = some (c, i, r) := by
  unfold rdWho
  rw [rdNum_dec _ c0 c1 (by decide)]
  simp only []
  rw [rdNum_dec _ i0 i1 (by decide)]
theorem rdHas_left (w : List UInt8) (l : Wds) : l = flagW (rdHas w l) w ++ rdLeft w l := by
  unfold rdLeft flagW
  cases h : rdHas w l with
  | false => simp
  | true =>
    cases l with
    | nil => simp [rdHas] at h
    | cons x r => simp [rdHas] at h; simp [h]
theorem rdCfg_ok {l : Wds} {g : Cfg} {r : Wds} (h : rdCfg l = some (g, r)) : l = cfgW g ++ r ∧ 0 ≤ g.m ∧ g.m ≤ 4 ∧ 0 ≤ g.mo ∧ g.mo ≤ 32 ∧ 0 ≤ g.ms ∧ g.ms ≤ 4096 ∧ 0 ≤ g.mt ∧ g.mt ≤ 1048576 := by
  unfold rdCfg at h
  cases hm : rdModel l with
  | none => simp [hm] at h
  | some p =>
    obtain ⟨m, l1⟩ := p
    simp only [hm] at h
    have em : l = mdNm m :: l1 ∧ 0 ≤ m ∧ m ≤ 4 := by
      cases l with
      | nil => simp [rdModel] at hm
      | cons w l =>
        simp only [rdModel] at hm
        split at hm
        · rename_i hh
          simp at hm
          obtain ⟨rfl, rfl⟩ := hm
          exact ⟨by rw [mdNm_of hh], hh, (mdOf_bounds w).2⟩
        · simp at hm
    cases h1 : rdNum 32 l1 with
    | none => simp [h1] at h
    | some p1 =>
      obtain ⟨mo, l2⟩ := p1
      simp only [h1] at h
      cases h2 : rdNum 4096 l2 with
      | none => simp [h2] at h
      | some p2 =>
        obtain ⟨ms, l3⟩ := p2
        simp only [h2] at h
        cases h3 : rdNum 1048576 l3 with
        | none => simp [h3] at h
        | some p3 =>
          obtain ⟨mt, l4⟩ := p3
          simp only [h3, Option.some.injEq] at h
          obtain ⟨e1, a1, a2⟩ := rdNum_ok h1
          obtain ⟨e2, a3, a4⟩ := rdNum_ok h2
          obtain ⟨e3, a5, a6⟩ := rdNum_ok h3
          unfold rdFlags at h
          simp only [Prod.mk.injEq] at h
          obtain ⟨rfl, rfl⟩ := h
          refine ⟨?_, em.2.1, em.2.2, a1, a2, a3, a4, a5, a6⟩
          have b1 := rdHas_left partL l4
          have b2 := rdHas_left cutL (rdLeft partL l4)
          have b3 := rdHas_left memoL (rdLeft cutL (rdLeft partL l4))
          unfold cfgW
          simp only [List.append_assoc]
          rw [← b3, ← b2, ← b1, em.1, e1, e2, e3]
          rfl
theorem rdFlags_w (m mo ms mt : Int) (p cu me : Bool) : rdFlags m mo ms mt (flagW p partL ++ flagW cu cutL ++ flagW me memoL) = (⟨m, mo, ms, mt, p, cu, me⟩, []) := by
  cases p <;> cases cu <;> cases me <;> rfl
theorem rdCfg_w {g : Cfg} (m0 : 0 ≤ g.m) (m1 : g.m ≤ 4) (a0 : 0 ≤ g.mo) (a1 : g.mo ≤ 32) (b0 : 0 ≤ g.ms) (b1 : g.ms ≤ 4096) (c0 : 0 ≤ g.mt) (c1 : g.mt ≤ 1048576) : rdCfg (cfgW g) = some (g, []) := by
  obtain ⟨m, mo, ms, mt, p, cu, me⟩ := g
  have e : cfgW ⟨m, mo, ms, mt, p, cu, me⟩ = mdNm m :: dec mo :: dec ms :: dec mt :: (flagW p partL ++ flagW cu cutL ++ flagW me memoL) := by
    simp [cfgW]
  rw [e]
  unfold rdCfg
  have hm : rdModel (mdNm m :: dec mo :: dec ms :: dec mt :: (flagW p partL ++ flagW cu cutL ++ flagW me memoL)) = some (m, dec mo :: dec ms :: dec mt :: (flagW p partL ++ flagW cu cutL ++ flagW me memoL)) := by
    have := mdOf_nm m0 m1
    simp only [] at this
    show (if 0 ≤ mdOf (mdNm m) then some (mdOf (mdNm m), _) else none) = _
    rw [this, if_pos m0]
  rw [hm]
  simp only [] at a0 a1 b0 b1 c0 c1
  simp only []
  rw [rdNum_dec _ a0 a1 (by decide)]
  simp only []
  rw [rdNum_dec _ b0 b1 (by decide)]
  simp only []
  rw [rdNum_dec _ c0 c1 (by decide)]
  simp only []
  rw [rdFlags_w]
theorem rdHas_cons (w : List UInt8) (r : Wds) : rdHas w (w :: r) = true := by simp [rdHas]
theorem rdHas_tail {w : List UInt8} {l : Wds} (h : rdHas w l = true) : l = w :: l.tail := by
  cases l with
  | nil => simp [rdHas] at h
  | cons x r => simp [rdHas] at h; simp [h]
theorem rdMic_ok {l : Wds} {m : Mic} {r : Wds} (h : rdMic l = some (m, r)) : l = micW m ++ r ∧ m.In ∧ micGood m = true := by
  unfold rdMic at h
  split at h
  · rename_i hh
    cases h1 : rdNum 7 l.tail with
    | none => simp [h1] at h
    | some p =>
      obtain ⟨k, r1⟩ := p
      obtain ⟨e1, a1, a2⟩ := rdNum_ok h1
      simp [h1] at h
      obtain ⟨rfl, rfl⟩ := h
      refine ⟨by rw [rdHas_tail hh, e1]; rfl, ⟨a1, by show k < 256; omega, Int.le_refl 0, (by decide : (0 : Int) < 65536)⟩, ?_⟩
      simp [micGood]; omega
  · split at h
    · rename_i hh
      cases h1 : rdNum 7 l.tail with
      | none => simp [h1] at h
      | some p =>
        obtain ⟨k, r1⟩ := p
        obtain ⟨e1, a1, a2⟩ := rdNum_ok h1
        simp [h1] at h
        cases h2 : rdNum 65535 r1 with
        | none => simp [h2] at h
        | some q =>
          obtain ⟨v, r2⟩ := q
          obtain ⟨e2, a3, a4⟩ := rdNum_ok h2
          simp [h2] at h
          obtain ⟨rfl, rfl⟩ := h
          refine ⟨by rw [rdHas_tail hh, e1, e2]; rfl, ⟨a1, by show k < 256; omega, a3, by show v < 65536; omega⟩, ?_⟩
          simp [micGood]; omega
    · simp at h
theorem rdMic_w {m : Mic} (r : Wds) (hi : m.In) (hg : micGood m = true) : rdMic (micW m ++ r) = some (m, r) := by
  obtain ⟨rd, k, v⟩ := m
  have h7 : k < 8 ∧ (rd = true → v = 0) := by
    simp [micGood] at hg
    refine ⟨hg.1, fun h => ?_⟩
    rcases hg.2 with h2 | h2
    · rw [h] at h2; exact absurd h2 (by decide)
    · exact h2
  have k0 : 0 ≤ k := hi.k0
  have v0 : 0 ≤ v := hi.v0
  have v1 : v < 65536 := hi.v1
  cases rd with
  | true =>
    have hv := h7.2 rfl
    subst hv
    show rdMic (readL :: dec k :: r) = _
    unfold rdMic
    rw [if_pos (rdHas_cons _ _)]
    show (match rdNum 7 (dec k :: r) with | none => none | some (k, r) => some ((⟨true, k, 0⟩ : Mic), r)) = _
    rw [rdNum_dec _ k0 (by omega) (by decide)]
  | false =>
    show rdMic (appendL :: dec k :: dec v :: r) = _
    unfold rdMic
    have e : rdHas readL (appendL :: dec k :: dec v :: r) = false := rfl
    rw [e, if_neg (by decide), if_pos (rdHas_cons _ _)]
    show (match rdNum 7 (dec k :: dec v :: r) with | none => none | some (k, r) => match rdNum 65535 r with | none => none | some (v, r2) => some ((⟨false, k, v⟩ : Mic), r2)) = _
    rw [rdNum_dec _ k0 (by omega) (by decide)]
    simp only []
    rw [rdNum_dec _ v0 (by omega) (by decide)]
theorem micW_len (m : Mic) : 2 ≤ (micW m).length ∧ (micW m).length ≤ 3 := by unfold micW; split <;> simp
theorem micW_ne (m : Mic) (r : Wds) : micW m ++ r ≠ [] := fun e => by have h1 := congrArg List.length e; have h2 := (micW_len m).1; rw [List.length_append] at h1; simp only [List.length_nil] at h1; omega
theorem rdMics_ok : ∀ (n : Nat) (l : Wds), l.length ≤ n → ∀ t, rdMics l = some t → l = t.flatMap micW ∧ (∀ m ∈ t, m.In) ∧ ∀ m ∈ t, micGood m = true
  | n, [], _, t, h => by rw [rdMics_nil] at h; simp at h; subst h; simp
  | 0, w :: l, hn, _, _ => by simp at hn
  | n + 1, w :: l, hn, t, h => by
    cases h1 : rdMic (w :: l) with
    | none => rw [rdMics_none (by simp) h1] at h; simp at h
    | some p =>
      obtain ⟨m, r⟩ := p
      have hlen := rdMic_len h1
      rw [rdMics_some (by simp) h1] at h
      cases h2 : rdMics r with
      | none => simp [h2] at h
      | some t' =>
        simp [h2] at h
        subst h
        obtain ⟨e, i1, i2⟩ := rdMics_ok n r (by simp at hlen hn; omega) t' h2
        obtain ⟨e1, j1, j2⟩ := rdMic_ok h1
        refine ⟨by rw [e1, e]; simp, ?_, ?_⟩
        · intro x hx; rcases List.mem_cons.1 hx with rfl | hx
          · exact j1
          · exact i1 x hx
        · intro x hx; rcases List.mem_cons.1 hx with rfl | hx
          · exact j2
          · exact i2 x hx
theorem rdMics_w : ∀ (t : List Mic), (∀ m ∈ t, m.In) → (∀ m ∈ t, micGood m = true) → rdMics (t.flatMap micW) = some t
  | [], _, _ => rfl
  | m :: t, h1, h2 => by
    rw [List.flatMap_cons, rdMics_some (micW_ne _ _) (rdMic_w _ (h1 m (by simp)) (h2 m (by simp))), rdMics_w t (fun x hx => h1 x (by simp [hx])) (fun x hx => h2 x (by simp [hx]))]
    rfl
theorem rdAll_ok {most : Int} {l : Wds} {n : List Int} (h : rdAll most l = some n) : n.map dec = l ∧ n = l.map num7 ∧ (∀ x ∈ n, 0 ≤ x ∧ x ≤ most) ∧ ∀ w ∈ l, 0 ≤ num7 w := by
  unfold rdAll at h
  split at h
  · rename_i hh
    simp at h
    subst h
    rw [List.all_eq_true] at hh
    have h0 : ∀ w ∈ l, 0 ≤ num7 w ∧ num7 w ≤ most := fun w hw => by have := hh w hw; simpa using this
    refine ⟨?_, rfl, ?_, fun w hw => (h0 w hw).1⟩
    · rw [List.map_map]
      conv => rhs; rw [← List.map_id l]
      exact List.map_congr_left fun w hw => num7_ok (h0 w hw).1
    · intro x hx
      rw [List.mem_map] at hx
      obtain ⟨w, hw, rfl⟩ := hx
      exact h0 w hw
  · simp at h
theorem rdAll_w {most : Int} (hm : most < 10000000) {n : List Int} (h : ∀ x ∈ n, 0 ≤ x ∧ x ≤ most) : rdAll most (n.map dec) = some n := by
  have e : (n.map dec).map num7 = n := by
    rw [List.map_map]
    conv => rhs; rw [← List.map_id n]
    exact List.map_congr_left fun x hx => num7_dec (h x hx).1 (by have := (h x hx).2; omega)
  unfold rdAll
  rw [if_pos, e]
  rw [List.all_eq_true]
  intro w hw
  rw [List.mem_map] at hw
  obtain ⟨x, hx, rfl⟩ := hw
  rw [num7_dec (h x hx).1 (by have := (h x hx).2; omega)]
  simpa using h x hx
theorem dec_free44 (n : Int) : (44 : UInt8) ∉ dec n := plain_free (dec_plain n) 44 (by decide)
theorem mem_u16 {l : List Int} : InU16 l ↔ ∀ x ∈ l, 0 ≤ x ∧ x ≤ 65535 := by
  constructor
  · intro h x hx
    obtain ⟨j, hj, rfl⟩ := List.mem_iff_getElem.1 hx
    have := h j
    simp [List.getD, hj] at this
    omega
  · intro h j
    by_cases hj : j < l.length
    · have := h _ (List.getElem_mem hj)
      simp [List.getD, hj]; omega
    · simp [List.getD, List.getElem?_eq_none (by omega : l.length ≤ j)]
theorem listW_ne45 {l : List Int} (h : l ≠ []) : Lib.join (l.map dec) [44] ≠ [45] := by
  intro e
  have : (45 : UInt8) ∈ Lib.join (l.map dec) [44] := by rw [e]; simp
  rcases join_mem this with h1 | ⟨w, hw, h1⟩
  · revert h1; decide
  · rw [List.mem_map] at hw
    obtain ⟨n, _, rfl⟩ := hw
    exact plain_free (dec_plain n) 45 (by decide) h1
theorem rdList_ok {w : List UInt8} {l : List Int} (h : rdList w = some l) : listW l = w ∧ InU16 l := by
  unfold rdList at h
  split at h
  · rename_i hh
    simp at h
    subst h hh
    exact ⟨rfl, by rw [mem_u16]; simp⟩
  · rename_i hh
    obtain ⟨e1, e2, b, hn⟩ := rdAll_ok h
    rcases splitK_cut 44 32 w with ⟨h1, h2⟩ | ⟨_, _, q, hq, hc⟩
    · rw [h2] at e1
      have hj := join_cut 44 w
      rw [← e1] at hj
      have hne : l ≠ [] := by
        intro e; subst e
        exact cutAt_ne 44 w (by rw [← e1]; rfl)
      refine ⟨?_, mem_u16.2 b⟩
      unfold listW
      rw [if_neg hne, hj]
    · exfalso
      have := num7_ok (hn q hq)
      rw [← this] at hc
      exact dec_free44 _ hc
theorem rdList_w {l : List Int} (h : InU16 l) (hl : l.length ≤ 33) : rdList (listW l) = some l := by
  unfold listW
  by_cases he : l = []
  · subst he; rfl
  · rw [if_neg he]
    unfold rdList
    rw [if_neg (listW_ne45 he)]
    have hc : cutAt 44 (Lib.join (l.map dec) [44]) = l.map dec := cut_join 44 _ (by simpa using he) (fun w hw => by
      rw [List.mem_map] at hw
      obtain ⟨n, _, rfl⟩ := hw
      exact dec_free44 n)
    rcases splitK_cut 44 32 (Lib.join (l.map dec) [44]) with ⟨_, h2⟩ | ⟨h1, _⟩
    · rw [h2, hc]
      exact rdAll_w (by decide) (mem_u16.1 h)
    · rw [hc] at h1; simp at h1; omega
theorem rdLists_ok : ∀ {l : Wds} {t : List (List Int)}, rdLists l = some t → t.map listW = l ∧ ∀ x ∈ t, InU16 x
  | [], t, h => by simp [rdLists] at h; subst h; simp
  | w :: r, t, h => by
    unfold rdLists at h
    cases h1 : rdList w with
    | none => simp [h1] at h
    | some x =>
      simp only [h1] at h
      cases h2 : rdLists r with
      | none => simp [h2] at h
      | some t' =>
        simp [h2] at h
        subst h
        obtain ⟨e1, a1⟩ := rdList_ok h1
        obtain ⟨e2, a2⟩ := rdLists_ok h2
        refine ⟨by simp [e1, e2], fun y hy => ?_⟩
        rcases List.mem_cons.1 hy with rfl | hy
        · exact a1
        · exact a2 y hy
theorem rdLists_w : ∀ (t : List (List Int)), (∀ x ∈ t, InU16 x ∧ x.length ≤ 33) → rdLists (t.map listW) = some t
  | [], _ => rfl
  | x :: t, h => by
    rw [List.map_cons]
    unfold rdLists
    rw [rdList_w (h x (by simp)).1 (h x (by simp)).2, rdLists_w t (fun y hy => h y (by simp [hy]))]
    rfl
theorem zero_evIn {x : Ev} (k0 : 0 ≤ x.k) (k1 : x.k < 256) (c0 : 0 ≤ x.c) (c1 : x.c < 256) (i0 : 0 ≤ x.id) (i1 : x.id < 65536) (o : x.o.In) (r0 : 0 ≤ x.rk) (r1 : x.rk < 256) (v0 : 0 ≤ x.rv) (v1 : x.rv < 65536)
    (t : ∀ m ∈ x.t, m.In) (r : ∀ l ∈ x.r, InU16 l) (hg : 0 ≤ x.g.m ∧ x.g.m ≤ 4 ∧ 0 ≤ x.g.mo ∧ x.g.mo ≤ 32 ∧ 0 ≤ x.g.ms ∧ x.g.ms ≤ 4096 ∧ 0 ≤ x.g.mt ∧ x.g.mt ≤ 1048576) : x.In :=
  ⟨k0, k1, c0, c1, i0, i1, o, r0, r1, v0, v1, t, r, hg.1, by omega, by omega, by omega, by omega, by omega, by omega, by omega⟩
theorem zA : (0 : Int) ≤ 0 := by decide
theorem zB : (0 : Int) < 256 := by decide
theorem zC : (0 : Int) < 65536 := by decide
theorem rdBody_ok {k : Int} {l : Wds} {x : Ev} (hk : evKind k = true) (hR : ∀ w ∈ l, (32 : UInt8) ∉ w) (h : rdBody k l = some x) : x.k = k ∧ evWords x = kdNm k :: l ∧ x.In := by
  have hk0 : 0 ≤ k ∧ k < 256 := by simp [evKind] at hk; omega
  have hz : cfgZero.m = 0 ∧ cfgZero.mo = 0 ∧ cfgZero.ms = 0 ∧ cfgZero.mt = 0 := ⟨rfl, rfl, rfl, rfl⟩
  have gz : 0 ≤ cfgZero.m ∧ cfgZero.m ≤ 4 ∧ 0 ≤ cfgZero.mo ∧ cfgZero.mo ≤ 32 ∧ 0 ≤ cfgZero.ms ∧ cfgZero.ms ≤ 4096 ∧ 0 ≤ cfgZero.mt ∧ cfgZero.mt ≤ 1048576 := by decide
  unfold rdBody at h
  by_cases k1 : k = 1
  · subst k1
    rw [if_pos rfl] at h
    cases hc : rdCfg l with
    | none => simp [hc] at h
    | some p =>
      obtain ⟨g, r⟩ := p
      simp only [hc] at h
      cases r with
      | cons _ _ => simp at h
      | nil =>
        simp at h
        subst h
        obtain ⟨e, b⟩ := rdCfg_ok hc
        refine ⟨rfl, ?_, zero_evIn hk0.1 hk0.2 zA zB zA zC zero_in zA zB zA zC (by simp [evZero]) (by simp [evZero]) b⟩
        rw [e, List.append_nil]; rfl
  · rw [if_neg k1] at h
    cases hw : rdWho l with
    | none => simp [hw] at h
    | some p =>
      obtain ⟨c, i, r⟩ := p
      obtain ⟨e, c0, c1, i0, i1⟩ := rdWho_ok hw
      simp only [hw] at h
      by_cases k2 : k = 2
      · subst k2
        rw [if_pos rfl] at h
        split at h
        · rename_i he
          simp at h
          subst h
          obtain ⟨hg, ew, hi⟩ := ops_ok he
          refine ⟨rfl, ?_, zero_evIn hk0.1 hk0.2 c0 (by show c < 256; omega) i0 (by show i < 65536; omega) hi zA zB zA zC (by simp [evZero]) (by simp [evZero]) gz⟩
          show invokeL :: ([dec c, dec i] ++ opWords (opsX r)) = _
          rw [ew, e]; rfl
        · simp at h
      · rw [if_neg k2] at h
        by_cases k3 : k = 3
        · subst k3
          rw [if_pos rfl] at h
          split at h
          · rename_i he
            simp at h
            subst h
            obtain ⟨hg, et⟩ := ps_ok he
            have b1 := psK_bounds (Lib.join r [32])
            have b2 := psV_bounds (Lib.join r [32])
            refine ⟨rfl, ?_, zero_evIn hk0.1 hk0.2 c0 (by show c < 256; omega) i0 (by show i < 65536; omega) zero_in b1.1 (by show psK _ < 256; omega) b2.1 (by show psV _ < 65536; omega) (by simp [evZero]) (by simp [evZero]) gz⟩
            have hne : r ≠ [] := by
              intro e2; subst e2
              rw [Lib.join_nil] at he
              revert he; decide
            have hfree : ∀ w ∈ r, (32 : UInt8) ∉ w := fun w hm => hR w (by rw [e]; simp [hm])
            show returnL :: ([dec c, dec i] ++ cutAt 32 (rsTxt (psK (Lib.join r [32])) (psV (Lib.join r [32])))) = _
            rw [et, cut_join 32 r hne hfree, e]; rfl
          · simp at h
        · rw [if_neg k3] at h
          by_cases k5 : k = 5
          · subst k5
            rw [if_pos rfl] at h
            cases ht : rdMics r with
            | none => simp [ht] at h
            | some t =>
              simp [ht] at h
              subst h
              obtain ⟨e2, a1, a2⟩ := rdMics_ok r.length r (Nat.le_refl _) t ht
              refine ⟨rfl, ?_, zero_evIn hk0.1 hk0.2 c0 (by show c < 256; omega) i0 (by show i < 65536; omega) zero_in zA zB zA zC a1 (by simp [evZero]) gz⟩
              show beginL :: ([dec c, dec i] ++ t.flatMap micW) = _
              rw [← e2, e]; rfl
          · rw [if_neg k5] at h
            by_cases k6 : k = 6
            · subst k6
              rw [if_pos rfl] at h
              cases ht : rdLists r with
              | none => simp [ht] at h
              | some t =>
                simp [ht] at h
                subst h
                obtain ⟨e2, a1⟩ := rdLists_ok ht
                refine ⟨rfl, ?_, zero_evIn hk0.1 hk0.2 c0 (by show c < 256; omega) i0 (by show i < 65536; omega) zero_in zA zB zA zC (by simp [evZero]) a1 gz⟩
                show commitL :: ([dec c, dec i] ++ t.map listW) = _
                rw [e2, e]; rfl
            · rw [if_neg k6] at h
              split at h
              · rename_i he
                simp at h
                subst h he
                refine ⟨rfl, ?_, zero_evIn hk0.1 hk0.2 c0 (by show c < 256; omega) i0 (by show i < 65536; omega) zero_in zA zB zA zC (by simp [evZero]) (by simp [evZero]) gz⟩
                rw [e]
                unfold evWords evTail whoW
                simp [k1, k2, k3, k5, k6, evZero]
              · simp at h
theorem good_parts {x : Ev} (h : evGood x = true) : evKind x.k = true ∧ x.c < 16 ∧ evFits x = true ∧ x = evNeed x := by
  unfold evGood at h
  simp only [Bool.and_eq_true, decide_eq_true_eq] at h
  exact ⟨h.1.1.1, h.1.1.2, h.1.2, (evSame_iff _ _).1 h.2⟩
theorem mics_all {t : List Mic} (h : micsGood t = true) : 1 ≤ t.length ∧ t.length ≤ 8 ∧ ∀ m ∈ t, micGood m = true := by
  unfold micsGood at h
  simp only [Bool.and_eq_true, decide_eq_true_eq, List.all_eq_true] at h
  exact ⟨h.1.1, h.1.2, h.2⟩
theorem lists_all {r : List (List Int)} (h : listsGood r = true) : r.length ≤ 8 ∧ ∀ l ∈ r, l.length ≤ 32 := by
  unfold listsGood at h
  simp only [Bool.and_eq_true, decide_eq_true_eq, List.all_eq_true] at h
  exact h
theorem cfg_all {g : Cfg} (h : cfgGood g = true) : g.m ≤ 4 ∧ (1 ≤ g.mo ∧ g.mo ≤ 32) ∧ (1 ≤ g.ms ∧ g.ms ≤ 4096) ∧ 1 ≤ g.mt ∧ g.mt ≤ 1048576 := by
  unfold cfgGood at h
  simp only [Bool.and_eq_true, decide_eq_true_eq] at h
  exact ⟨h.1.1.1, h.1.1.2, h.1.2, h.2⟩
/-- What a good event's words are read as. -/
theorem rdEv_w {x : Ev} (hi : x.In) (hg : evGood x = true) : rdEv (evWords x) = some x := by
  obtain ⟨hk, hc, hf, hn⟩ := good_parts hg
  have hkd := kdOf_nm hk
  have hk0 : kdOf (kdNm x.k) ≠ 0 := by rw [hkd]; simp [evKind] at hk; omega
  unfold evWords
  show (if kdOf (kdNm x.k) = 0 then none else rdBody (kdOf (kdNm x.k)) _) = _
  rw [if_neg hk0, hkd]
  have hwho : ∀ r, rdWho (whoW x ++ r) = some (x.c, x.id, r) := fun r => rdWho_w r hi.c0 (by omega) hi.i0 (by have := hi.i1; omega)
  have hwho0 : rdWho (whoW x) = some (x.c, x.id, []) := by have := hwho []; rwa [List.append_nil] at this
  unfold rdBody
  unfold evNeed at hn
  unfold evFits at hf
  unfold evTail
  by_cases k1 : x.k = 1
  · simp only [k1, if_true] at hn hf ⊢
    obtain ⟨b1, b2, b3, b4⟩ := cfg_all hf
    rw [if_neg (by decide), rdCfg_w hi.m0 b1 (by omega) b2.2 (by omega) b3.2 (by omega) b4.2]
    simp only [Option.some.injEq]
    exact hn.symm
  · simp only [k1, if_false] at hn hf ⊢
    by_cases k2 : x.k = 2
    · simp only [k2, if_true] at hn hf ⊢
      rw [if_neg (by decide), hwho]
      simp only []
      obtain ⟨e1, e2⟩ := ops_yes hi.o ((good_iff _).1 hf) rfl
      rw [if_pos e2, e1]
      simp only [Option.some.injEq]
      rw [← k2]
      exact hn.symm
    · simp only [k2, if_false] at hn hf ⊢
      by_cases k3 : x.k = 3
      · simp only [k3, if_true] at hn hf ⊢
        rw [hwho]
        simp only []
        obtain ⟨_, e1, e2, e3⟩ := ps_text hi.rk0 hi.rv0 (by have := hi.rv1; omega) hf
        rw [join_cut, if_pos e3, e1, e2]
        simp only [Option.some.injEq]
        rw [← k3]
        exact hn.symm
      · simp only [k3, if_false] at hn hf ⊢
        by_cases k5 : x.k = 5
        · simp only [k5, if_true] at hn hf ⊢
          obtain ⟨_, _, b⟩ := mics_all hf
          rw [hwho]
          simp only []
          rw [rdMics_w x.t hi.t b]
          simp only [Option.map_some, Option.some.injEq]
          rw [← k5]
          exact hn.symm
        · simp only [k5, if_false] at hn hf ⊢
          by_cases k6 : x.k = 6
          · simp only [k6, if_true] at hn hf ⊢
            obtain ⟨_, b⟩ := lists_all hf
            rw [hwho]
            simp only []
            rw [rdLists_w x.r (fun l hl => ⟨hi.r l hl, by have := b l hl; omega⟩)]
            simp only [Option.map_some, Option.some.injEq]
            rw [← k6]
            exact hn.symm
          · simp only [k6, if_false] at hn hf ⊢
            rw [hwho0]
            simp only [if_true, Option.some.injEq]
            exact hn.symm
theorem rdEv_ok {l : Wds} {x : Ev} (hR : ∀ w ∈ l, (32 : UInt8) ∉ w) (h : rdEv l = some x) : evWords x = l ∧ x.In ∧ evKind x.k = true := by
  cases l with
  | nil => simp [rdEv] at h
  | cons w r =>
    replace h : (if kdOf w = 0 then none else rdBody (kdOf w) r) = some x := h
    split at h
    · simp at h
    · rename_i hh
      obtain ⟨e1, e2⟩ := kdNm_of hh
      obtain ⟨a, b, c⟩ := rdBody_ok e2 (fun y hy => hR y (by simp [hy])) h
      exact ⟨by rw [b, e1], c, by rw [a]; exact e2⟩
/-- What a line is parsed as. -/
noncomputable def lnGet (s : List UInt8) : Option Ev := match rdEv (cutAt 32 s) with
  | some x => if evGood x then some x else none
  | none => none
noncomputable def lnX (s : List UInt8) : Ev := (lnGet s).getD evZero
noncomputable def lnE (s : List UInt8) : Int := if (lnGet s).isSome then 0 else 4
theorem lnGet_ok {s : List UInt8} {x : Ev} (h : lnGet s = some x) : evGood x = true ∧ x.In ∧ evLine x = s ∧ rdEv (cutAt 32 s) = some x := by
  unfold lnGet at h
  cases hr : rdEv (cutAt 32 s) with
  | none => simp [hr] at h
  | some y =>
    simp only [hr] at h
    split at h
    · rename_i hg
      simp at h
      subst h
      obtain ⟨e, hi, _⟩ := rdEv_ok (cut_parts_free 32 s) hr
      refine ⟨hg, hi, ?_, rfl⟩
      rw [line_words, e, join_cut]
    · simp at h
theorem lnGet_line {x : Ev} (hi : x.In) (hg : evGood x = true) : lnGet (evLine x) = some x := by
  unfold lnGet
  rw [cut_line, rdEv_w hi hg]
  simp [hg]
theorem ln_yes {x : Ev} {s : List UInt8} (hi : x.In) (hg : evGood x = true) (h : evLine x = s) : lnX s = x ∧ lnE s = 0 := by
  subst h
  unfold lnX lnE
  rw [lnGet_line hi hg]
  exact ⟨rfl, rfl⟩
theorem ln_no {s : List UInt8} (h : ∀ x : Ev, x.In → evGood x = true → evLine x ≠ s) : lnX s = evZero ∧ lnE s = 4 := by
  unfold lnX lnE
  cases hl : lnGet s with
  | none => exact ⟨rfl, rfl⟩
  | some x => obtain ⟨a, b, c, _⟩ := lnGet_ok hl; exact absurd c (h x b a)
theorem lnE_two (s : List UInt8) : lnE s = 0 ∨ lnE s = 4 := by unfold lnE; split <;> simp
theorem ln_bad {s : List UInt8} (h : lnE s ≠ 0) : lnX s = evZero ∧ lnE s = 4 := by
  unfold lnE lnX at *
  cases hl : lnGet s with
  | none => exact ⟨rfl, rfl⟩
  | some x => rw [hl] at h; exact absurd rfl h
end Go.Proofs.YtffldnjjijckcaaGreatDoor
/-
  An event's line as the document puts it together; no program.
-/
namespace Go.Proofs.YtffldnjjijckcaaGreatDoor
open Go.RowKit
theorem join_sp (w : List UInt8) : ∀ (l : Wds), Lib.join (w :: l) [32] = w ++ l.flatMap (fun y => 32 :: y)
  | [] => by rw [Lib.join_one]; simp
  | y :: r => by
    rw [join_cons2, join_sp y r]
    simp
theorem line_sp (x : Ev) : evLine x = kdNm x.k ++ (evTail x).flatMap (fun y => 32 :: y) := join_sp _ _
def whoT (x : Ev) : List UInt8 := 32 :: (dec x.c ++ 32 :: dec x.id)
theorem line_who {x : Ev} (h : x.k = 4 ∨ x.k = 7) : evLine x = kdNm x.k ++ whoT x := by
  rw [line_sp]
  rcases h with h | h <;> simp [evTail, h, whoW, whoT]
theorem line_op {x : Ev} (h : x.k = 2) : evLine x = invokeL ++ whoT x ++ (opWords x.o).flatMap (fun y => 32 :: y) := by
  rw [line_sp]
  simp [evTail, h, whoW, whoT, kdNm]
theorem line_res {x : Ev} (h : x.k = 3) : evLine x = returnL ++ whoT x ++ 32 :: rsTxt x.rk x.rv := by
  rw [line_sp]
  simp [evTail, h, whoW, whoT, kdNm]
def micT (m : Mic) : List UInt8 := if m.rd then 32 :: (readL ++ 32 :: dec m.key) else 32 :: (appendL ++ 32 :: (dec m.key ++ 32 :: dec m.v))
theorem micT_sp (m : Mic) : (micW m).flatMap (fun y => 32 :: y) = micT m := by
  unfold micW micT
  split <;> simp
theorem line_mics {x : Ev} (h : x.k = 5) : evLine x = beginL ++ whoT x ++ x.t.flatMap micT := by
  rw [line_sp]
  have e : (x.t.flatMap micW).flatMap (fun y => 32 :: y) = x.t.flatMap micT := by
    rw [List.flatMap_assoc]
    congr 1
    funext m
    exact micT_sp m
  simp [evTail, h, whoW, whoT, kdNm, e]
theorem line_lists {x : Ev} (h : x.k = 6) : evLine x = commitL ++ whoT x ++ x.r.flatMap (fun l => 32 :: listW l) := by
  rw [line_sp]
  simp [evTail, h, whoW, whoT, kdNm, List.flatMap_map]
def flagT (b : Bool) (w : List UInt8) : List UInt8 := if b then 32 :: w else []
theorem flagT_sp (b : Bool) (w : List UInt8) : (flagW b w).flatMap (fun y => 32 :: y) = flagT b w := by cases b <;> simp [flagW, flagT]
theorem line_cfg {x : Ev} (h : x.k = 1) : evLine x = configL ++ 32 :: (mdNm x.g.m ++ 32 :: (dec x.g.mo ++ 32 :: (dec x.g.ms ++ 32 :: (dec x.g.mt ++ (flagT x.g.p partL ++ (flagT x.g.cu cutL ++ flagT x.g.me memoL)))))) := by
  rw [line_sp]
  simp [evTail, h, cfgW, kdNm, flagT_sp]
end Go.Proofs.YtffldnjjijckcaaGreatDoor
