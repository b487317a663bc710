/-
  What the rows' condition on the package-level variables gives, all of them.
-/
import Derived.Deep.Slices
import Derived.Deep.Fields
import Derived.Test.YtffldnjjijckcaaGreatDoorR06
import Derived.Test.YtffldnjjijckcaaGreatDoorR11
import Derived.Test.YtffldnjjijckcaaGreatDoorR14
set_option linter.unusedSimpArgs false
set_option linter.unusedVariables false
namespace Go.Proofs.YtffldnjjijckcaaGreatDoor
open Go.ChangeShapes Go.WideShapes Go.ChangeAt Go.RowKit
open Go.Joins Go.Deep
/-- An array of texts that reads as these holds them, cell for cell. -/
theorem texts6_cells {H : Type} {enc : TypeId × Value → H} {P : Program} {w : World} {base : Nat} {sp : Nat → Bool} {held : Bool} {fuel : Nat} {t e : TypeId} {n : Nat} {cs : List Value} {ls : List (List UInt8)} {p : List MemPlace}
    (ht : P.underlying t = some (.array n e)) (he : P.underlying e = some .string) (hce : P.cellsOf e = 1) (hct : P.cellsOf t = n)
    (h : DataW.trod enc P w base sp held fuel t cs = some (.agg (ls.map fun l => .lit (.string l)), p)) : cs = ls.map fun l => Value.string (bs l) := by
  cases fuel with
  | zero => simp [DataW.trod] at h
  | succ fuel =>
    simp only [DataW.trod, ht, hce, hct, Nat.mul_one] at h
    split at h
    · rename_i hl
      obtain ⟨xs, hm, hx⟩ := Option.map_eq_some_iff.1 h
      have hxs : xs.map (·.1) = ls.map fun l => (DataW.lit (.string l) : DataW H) := by
        have := congrArg Prod.fst hx
        simpa using this
      have hxl : xs.length = n := by simpa using Lib.mapM_length hm
      have hzl : ls.length = n := by
        have := congrArg List.length hxs
        simp at this
        omega
      apply List.ext_getElem?
      intro i
      by_cases hi : i < n
      · obtain ⟨b, hb, hf⟩ := Lib.mapM_at hm i i (by simp [hi])
        obtain ⟨s, hc, rfl, _⟩ := DataW.trod_string he hf
        have h1 : cs[i]? = some (.string s) := by
          have := congrArg (·[0]?) hc
          simpa [List.getElem?_take, List.getElem?_drop] using this
        have h2 : (xs.map (·.1))[i]? = some (DataW.lit (.string s.data.toList) : DataW H) := by simp [hb]
        rw [hxs] at h2
        simp only [List.getElem?_map, Option.map_eq_some_iff, DataW.lit.injEq, Lit.string.injEq] at h2
        obtain ⟨l, hl2, hl3⟩ := h2
        have hs : s = bs l := by rw [hl3, bs_of]
        simp [h1, hl2, hs]
      · rw [List.getElem?_eq_none (by omega), List.getElem?_eq_none (by simp; omega)]
    · cases h
/-- What the rows of this seat list. -/
def laid6 : List (String × DataW Unit) := [("math/bits.deBruijn32tab", Rows.laid_math_bits_deBruijn32tab), ("math/bits.deBruijn64tab", Rows.laid_math_bits_deBruijn64tab), ("internal/strconv.uint64pow10", Rows.laid_internal_strconv_uint64pow10), ("unicode/utf8.acceptRanges", Rows.laid_unicode_utf8_acceptRanges), ("strconv.ErrRange", Rows.laid_strconv_ErrRange), ("strconv.ErrSyntax", Rows.laid_strconv_ErrSyntax), ("umpire/op.kinds", Rows.laid_umpire_op_kinds), ("umpire/result.words", Rows.laid_umpire_result_words), ("umpire/text.models", Rows.laid_umpire_text_models), ("unicode/utf8.first", Rows.laid_unicode_utf8_first)]
theorem laid6_met (os : Os) (args : Array Value) : laidMetH Tryz.prog laid6 ((World.laidAll Tryz.prog os laid6).forCall (fun _ _ => 0) ⟨#[], args, []⟩).memory := by
  rw [MakeChecks.laidMetH_plain _ _ _ (by kernel_rfl)]
  exact laidMet_laidAll _ (by kernel_rfl) (by kernel_rfl)
theorem maxlen_cell {w : World} (h : w.ShapedOpen Tryz.prog) : ∃ m, w.cell? ⟨3, 0, none⟩ = some (.int .i64 m)  :=
  cell_of_shapedOpen_int (t := 3) (zero := #[.int .i64 0]) h (of_decide_eq_true (by kernel_rfl)) (by kernel_rfl) rfl (by kernel_rfl) (by kernel_rfl) Tryz.underlying3
theorem star : ("*" ++ "errors.errorString" : String) = "*errors.errorString" := by decide
theorem typeName_one (u : TypeId) (h : Tryz.prog.typeName? 3 u = some "*errors.errorString") : u = 246 :=
  typeName_ptr_named (nm := "errors.errorString") (by rw [star]; kernel_rfl) (by kernel_rfl) (by decide) u (by rw [star]; exact h)
theorem glob_words : Tryz.prog.globalNamed "umpire/result.words" = some 2 := by kernel_rfl
theorem glob_models : Tryz.prog.globalNamed "umpire/text.models" = some 0 := by kernel_rfl
set_option maxRecDepth 100000 in
theorem glob6_of {W : World} (h : laidMetH Tryz.prog laid6 W) (hs : W.ShapedOpen Tryz.prog) : Glob6 W := by
  rw [MakeChecks.laidMetH_plain _ _ _ (by kernel_rfl)] at h
  have h2 := h.tail.tail
  have h5 := h2.tail.tail
  have h6 := h5.tail
  have h7 := h6.tail
  have h8 := h7.tail
  have h9 := h8.tail
  have hT : laidMet Tryz.prog (("internal/strconv.uint64pow10", Lib.tabData .u64 Lib.pow10Tab) :: _) W := h2
  have ht := Lib.tabIs_of_head glob_pow10 (by kernel_rfl) Tryz.underlying230 Tryz.underlying181 (by kernel_rfl) (by kernel_rfl) hT
  obtain ⟨a1, s1, hv1, _⟩ := laid_sentinel h6 glob_syn (by kernel_rfl) Tryz.underlying100 (typeName_one) Tryz.underlying246 Tryz.underlying248 rfl rfl Tryz.underlying9 (by kernel_rfl) (by kernel_rfl)
  obtain ⟨a2, s2, hv2, _⟩ := laid_sentinel h5 glob_ran (by kernel_rfl) Tryz.underlying100 (typeName_one) Tryz.underlying246 Tryz.underlying248 rfl rfl Tryz.underlying9 (by kernel_rfl) (by kernel_rfl)
  refine ⟨⟨?_, ht, ⟨_, _, hv1⟩, ⟨_, _, hv2⟩, maxlen_cell hs⟩, ⟨?_, ht, ⟨_, _, hv1⟩, ⟨_, _, hv2⟩, maxlen_cell hs⟩, ?_⟩
  · obtain ⟨ps, ⟨g', t', cs, fuel, p, q, hg', ht', hvar, hd, _, _⟩, _⟩ := h8
    obtain rfl := Option.some.inj (glob_words.symm.trans hg')
    obtain rfl := Option.some.inj ((show (Tryz.prog.globals[2]?).map (·.type) = some 129 by kernel_rfl).symm.trans ht')
    have e := texts6_cells (ls := [[100, 111, 110, 101], [118, 97, 108, 117, 101], [110, 111, 110, 101], [121, 101, 115], [110, 111]]) Tryz.underlying129 Tryz.underlying9 (by kernel_rfl) (by kernel_rfl) hd
    have e2 : cs = wordCells := by
      apply Array.ext'
      rw [e]; rfl
    rw [e2] at hvar
    exact block_of_var glob_words hvar
  · obtain ⟨ps, ⟨g', t', cs, fuel, p, q, hg', ht', hvar, hd, _, _⟩, _⟩ := h7
    obtain rfl := Option.some.inj (glob_kinds.symm.trans hg')
    obtain rfl := Option.some.inj ((show (Tryz.prog.globals[1]?).map (·.type) = some 145 by kernel_rfl).symm.trans ht')
    have e2 : cs = kindCells := by
      apply Array.ext'
      exact cells_of_kinds hd
    rw [e2] at hvar
    exact block_of_var glob_kinds hvar
  · obtain ⟨ps, ⟨g', t', cs, fuel, p, q, hg', ht', hvar, hd, _, _⟩, _⟩ := h9
    obtain rfl := Option.some.inj (glob_models.symm.trans hg')
    obtain rfl := Option.some.inj ((show (Tryz.prog.globals[0]?).map (·.type) = some 129 by kernel_rfl).symm.trans ht')
    have e := texts6_cells (ls := [[114, 101, 103, 105, 115, 116, 101, 114], [113, 117, 101, 117, 101], [109, 97, 112], [108, 111, 99, 107], [97, 112, 112, 101, 110, 100]]) Tryz.underlying129 Tryz.underlying9 (by kernel_rfl) (by kernel_rfl) hd
    have e2 : cs = modelCells := by
      apply Array.ext'
      rw [e]; rfl
    rw [e2] at hvar
    exact block_of_var glob_models hvar
end Go.Proofs.YtffldnjjijckcaaGreatDoor
