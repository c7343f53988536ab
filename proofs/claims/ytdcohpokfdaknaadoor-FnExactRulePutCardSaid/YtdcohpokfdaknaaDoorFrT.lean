/- Four tables: what the laid condition gives the walks of the texts. -/
import Derived.Test.YtdcohpokfdaknaaDoorFrC
import Derived.Test.YtdcohpokfdaknaaDoorTq
namespace Go.Proofs.YtdcohpokfdaknaaDoor
open Go.ChangeShapes Go.WideShapes Go.ChangeAt Go.WideMaps Go.WideElems Go.RowKit
set_option linter.unusedVariables false
abbrev laidFour : List (String × DataW Unit) := [("math/bits.deBruijn32tab", Rows.laid_math_bits_deBruijn32tab), ("math/bits.deBruijn64tab", Rows.laid_math_bits_deBruijn64tab), ("internal/strconv.uint64pow10", Rows.laid_internal_strconv_uint64pow10), ("loop.example/ephemeris/impl.monthSizes", Rows.laid_loop_example_ephemeris_impl_monthSizes)]
theorem tPow : (Tryd.prog.globals[4]?).map (·.type) = some 104 := by kernel_rfl
theorem cU64 : Tryd.prog.cellsOf 93 = 1 := by kernel_rfl
theorem cPow : Tryd.prog.cellsOf 104 = 20 := by kernel_rfl
theorem pow_data : (Rows.laid_internal_strconv_uint64pow10 : DataW Unit) = Lib.tabData .u64 Lib.pow10Tab := by kernel_rfl
theorem door_met4 (os : Os) (args : Array Value) : laidMetH Tryd.prog laidFour ((World.doorLaid Tryd.prog 400 os).forCall (fun _ _ => 0) ⟨#[], args, []⟩).memory :=
  laidMetH_of_parts3 (fuel := 8) (laidMet_of_run' 8 (by kernel_rfl) (by kernel_rfl)) (by kernel_rfl) (by kernel_rfl)
theorem four_of_laid {W : World} (h : laidMetH Tryd.prog laidFour W) : Tab W ∧ Pow W := by
  rw [MakeChecks.laidMetH_plain _ _ _ (by kernel_rfl)] at h
  obtain ⟨ps, ⟨_, _, _, _, _, _, _, _, _, _, h5, _⟩, _⟩ := h
  obtain ⟨_, _, _, _, _, _, _, _, _, _, h6, _⟩ := h5
  obtain ⟨g, t, cs, fuel, p, q, hg, ht, hvar, hd, h7, _⟩ := h6
  obtain ⟨g', t', cs', fuel', p', q', hg', ht', hvar', hd', _, _⟩ := h7
  obtain rfl := Option.some.inj (gPow.symm.trans hg)
  obtain rfl := Option.some.inj (tPow.symm.trans ht)
  obtain rfl := Option.some.inj (gSizes.symm.trans hg')
  obtain rfl := Option.some.inj (tSizes.symm.trans ht')
  rw [pow_data] at hd
  have hT : Lib.TabIs Tryd.prog W "loop.example/ephemeris/impl.monthSizes" .i64 sizes := by
    unfold Lib.TabIs
    rw [hvar', ← Lib.cells_of_tab (zs := sizes) Tryd.underlying102 Tryd.underlying3 cInt cSizes hd']
  refine ⟨fun i hi => hT.cell gSizes i (by simpa [sizes] using hi), ?_⟩
  unfold Pow Lib.TabIs
  rw [hvar, ← Lib.cells_of_tab Tryd.underlying104 Tryd.underlying93 cU64 cPow hd]
end Go.Proofs.YtdcohpokfdaknaaDoor
