/- The month table: what the laid condition gives the walks, and that it reads behind the call as before. -/
import Derived.Test.YtlfglhpepoepcaaDoorFrB
import Derived.Test.YtlfglhpepoepcaaDoorTab
import Derived.Test.YtlfglhpepoepcaaDoorTie
import Derived.LaidMore
import Derived.Lib.LaidTab
import Derived.WalkSmall
import Derived.Stop.Joined
namespace Go.Proofs.YtlfglhpepoepcaaDoor
open Go.ChangeShapes Go.WideShapes Go.ChangeAt Go.WideMaps Go.WideElems Go.RowKit
set_option linter.unusedVariables false

abbrev laidSizes : List (String × DataW Unit) := [("loop.example/ephemeris/impl.monthSizes", Rows.laid_loop_example_ephemeris_impl_monthSizes)]
theorem gSizes : Tryd.prog.globalNamed "loop.example/ephemeris/impl.monthSizes" = some 0 := by kernel_rfl
theorem tSizes : (Tryd.prog.globals[0]?).map (·.type) = some 78 := by kernel_rfl
theorem cInt : Tryd.prog.cellsOf 3 = 1 := by kernel_rfl
theorem cSizes : Tryd.prog.cellsOf 78 = 12 := by kernel_rfl

theorem door_met (os : Os) (args : Array Value) : laidMetH Tryd.prog laidSizes ((World.doorLaid Tryd.prog 400 os).forCall (fun _ _ => 0) ⟨#[], args, []⟩).memory :=
  laidMetH_of_parts3 (fuel := 8) (laidMet_of_run' 8 (by kernel_rfl) (by kernel_rfl)) (by kernel_rfl) (by kernel_rfl)

theorem sizes_of_laid {W : World} (h : laidMetH Tryd.prog laidSizes W) : Tab W := by
  rw [MakeChecks.laidMetH_plain _ _ _ (by kernel_rfl)] at h
  have hT : Lib.TabIs Tryd.prog W "loop.example/ephemeris/impl.monthSizes" .i64 sizes :=
    Lib.tabIs_of_head (rest := []) gSizes tSizes Tryd.underlying78 Tryd.underlying3 cInt cSizes h
  intro i hi
  exact hT.cell gSizes i (by simpa [sizes] using hi)

theorem vars_again {H : Type} {enc : TypeId × Value → H} {W W' : World} {gs : List (DataW H)} {q : List MemPlace} (hl : laidOutB Tryd.prog = true)
    (h : DataW.TrodVars enc Tryd.prog W (fun _ => true) ["loop.example/ephemeris/impl.monthSizes"] gs q) (hb : Below W.heap.size W W') :
    ∃ g1 pv, gs = [g1] ∧ DataW.TrodVars enc Tryd.prog W' (fun b => decide (b < W.heap.size)) ["loop.example/ephemeris/impl.monthSizes"] [g1] pv := by
  have hlt := DataW.TrodVars.lt h
  obtain ⟨g, t, cs, fuel, d, p, rfl, h1, h2, h3, h4, e⟩ := trodVars_one h
  obtain rfl := Option.some.inj (gSizes.symm.trans h1)
  obtain rfl := Option.some.inj (tSizes.symm.trans h2)
  have hv := var?_below hb h1 (by
    have := World.var?_cell h1 h3 0
    rcases Nat.lt_or_ge 0 W.heap.size with h' | h'
    · exact h'
    · unfold World.var? at h3
      rw [h1] at h3
      simp [Array.getElem?_eq_none h'] at h3) h3
  obtain ⟨fuel', h5⟩ := Below.trod (t := 78) (v := .agg cs) hl (by kernel_rfl) (of_decide_eq_true (by kernel_rfl)) ⟨fuel, h4⟩ hb (fun x hx => hlt x (by rw [e]; exact List.mem_append_right _ hx))
  exact ⟨d, _, rfl, trodVars_mk1 h1 tSizes hv h5⟩
end Go.Proofs.YtlfglhpepoepcaaDoor
