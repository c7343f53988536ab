/- What every row's proof takes: two closed facts of the program. -/
import Derived.Test.YtlfglhpepoepcaaDoorBs
import Derived.ProofKit
import Derived.OpenShut
import Derived.ShutString
import Derived.ChangeOld
import Derived.Below
import Derived.Test.YtlfglhpepoepcaaDoorRd
import Derived.Test.YtlfglhpepoepcaaDoorTab
import Derived.Test.YtlfglhpepoepcaaDoorTie
import Derived.LaidMore
import Derived.Lib.LaidTab
import Derived.WalkSmall
import Derived.Stop.Joined
import Derived.Test.YtlfglhpepoepcaaDoorJLRuleOn
import Derived.Test.YtlfglhpepoepcaaDoorCards
namespace Go.Proofs.YtlfglhpepoepcaaDoor
open Go.ChangeShapes Go.WideShapes Go.ChangeAt Go.RowKit
set_option linter.unusedVariables false

theorem own : ownKnob Tryd.prog.godebug = none := by kernel_rfl
theorem laidOut : laidOutB Tryd.prog = true := by kernel_rfl

end Go.Proofs.YtlfglhpepoepcaaDoor
namespace Go.Proofs.YtlfglhpepoepcaaDoor
open Go.ChangeShapes Go.WideShapes Go.ChangeAt Go.RowKit
set_option linter.unusedVariables false

theorem isCode_nil (W : World) : IsCode W none 0 0 := ⟨Nat.le_refl _, by omega, .inl rfl⟩
theorem isCode_row {W : World} {x : Addr} {len cap : Nat} {zs : List Int} (hl : len ≤ cap) (hm : cap ≤ maxLen) (hz : zs.length = cap) (hcell : ∀ i, i < zs.length → W.cell? (x.add i) = some (.int .u8 (zs.getD i 0))) (hwz : ∀ n ∈ zs, (Lit.int .u8 n).wf = true) :
    IsCode W (some x) len cap := by
  refine ⟨hl, by unfold maxLen at hm; omega, ?_⟩
  by_cases h0 : len = 0
  · exact .inl h0
  · right
    obtain ⟨b, off, spot⟩ := x
    have hc := hcell 0 (by omega)
    have hspot : spot = none := by simpa [Addr.add] using World.cell?_spot hc
    subst hspot
    refine ⟨b, off, rfl, ?_, fun i hi => ⟨zs.getD i 0, ?_⟩⟩
    · exact cell_lt (w := W) (b := b) (o := off + 0) (by simpa [Addr.add] using hc)
    · have hw := hwz (zs.getD i 0) (by simp [show i < zs.length from by omega])
      have hc := hcell i (by omega)
      have hb := bounds_u8 hw
      refine ⟨hb.1, hb.2, ?_⟩
      by_cases hi0 : i = 0
      · subst hi0; simpa [Addr.add] using hc
      · simpa [Addr.add, hi0] using hc
end Go.Proofs.YtlfglhpepoepcaaDoor
namespace Go.Proofs.YtlfglhpepoepcaaDoor
open Go.ChangeShapes Go.WideShapes Go.ChangeAt Go.WideMaps Go.WideElems Go.RowKit
set_option linter.unusedVariables false

abbrev laidSizes : List (String × DataW Unit) := [("loop.example/ephemeris/impl.monthSizes", Rows.laid_loop_example_ephemeris_impl_monthSizes)]
theorem gSizes : Tryd.prog.globalNamed "loop.example/ephemeris/impl.monthSizes" = some 0 := by kernel_rfl
theorem tSizes : (Tryd.prog.globals[0]?).map (·.type) = some 78 := by kernel_rfl
theorem cInt : Tryd.prog.cellsOf 3 = 1 := by kernel_rfl
theorem cSizes : Tryd.prog.cellsOf 78 = 12 := by kernel_rfl

theorem door_met (os : Os) (args : Array Value) : laidMetH Tryd.prog laidSizes ((World.doorLaid Tryd.prog 400 os).forCall (fun _ _ => 0) ⟨#[], args, []⟩).memory :=
  laidMetH_of_parts3 (fuel := 8) (laidMet_of_run' 8 (by kernel_rfl) (by kernel_rfl)) (by kernel_rfl) (by kernel_rfl)

theorem sizes_of_laid {W : World} (h : laidMetH Tryd.prog laidSizes W) : Tab W := by
  rw [MakeChecks.laidMetH_plain _ _ _ (by kernel_rfl)] at h
  have hT : Lib.TabIs Tryd.prog W "loop.example/ephemeris/impl.monthSizes" .i64 sizes :=
    Lib.tabIs_of_head (rest := []) gSizes tSizes Tryd.underlying78 Tryd.underlying3 cInt cSizes h
  intro i hi
  exact hT.cell gSizes i (by simpa [sizes] using hi)

theorem vars_again {H : Type} {enc : TypeId × Value → H} {W W' : World} {gs : List (DataW H)} {q : List MemPlace} (hl : laidOutB Tryd.prog = true)
    (h : DataW.TrodVars enc Tryd.prog W (fun _ => true) ["loop.example/ephemeris/impl.monthSizes"] gs q) (hb : Below W.heap.size W W') :
    ∃ g1 pv, gs = [g1] ∧ DataW.TrodVars enc Tryd.prog W' (fun b => decide (b < W.heap.size)) ["loop.example/ephemeris/impl.monthSizes"] [g1] pv := by
  have hlt := DataW.TrodVars.lt h
  obtain ⟨g, t, cs, fuel, d, p, rfl, h1, h2, h3, h4, e⟩ := trodVars_one h
  obtain rfl := Option.some.inj (gSizes.symm.trans h1)
  obtain rfl := Option.some.inj (tSizes.symm.trans h2)
  have hv := var?_below hb h1 (by
    have := World.var?_cell h1 h3 0
    rcases Nat.lt_or_ge 0 W.heap.size with h' | h'
    · exact h'
    · unfold World.var? at h3
      rw [h1] at h3
      simp [Array.getElem?_eq_none h'] at h3) h3
  obtain ⟨fuel', h5⟩ := Below.trod (t := 78) (v := .agg cs) hl (by kernel_rfl) (of_decide_eq_true (by kernel_rfl)) ⟨fuel, h4⟩ hb (fun x hx => hlt x (by rw [e]; exact List.mem_append_right _ hx))
  exact ⟨d, _, rfl, trodVars_mk1 h1 tSizes hv h5⟩
end Go.Proofs.YtlfglhpepoepcaaDoor
namespace Go.Proofs.YtlfglhpepoepcaaDoor.fnRuleOn
open Go.ChangeShapes Go.WideShapes Go.ChangeAt Go.RowKit
open Go.ChangeMaps (open_string shut_string)
set_option linter.unusedVariables false

set_option maxRecDepth 100000 in
theorem lifted (os : Os) (started : os.Started) (H : Type) (enc : TypeId × Value → H) :
    ReturnsInHanded {} Tryd.checked os 4 .any (fun w args => (Rows.fnRuleOnSpec.pre enc Tryd.prog Tryd.f4 [] false w args ∧ laidMetH Tryd.prog laidSizes w) ∧ sizedMet enc Tryd.prog Tryd.f4 (OpenSpec.ofChange Rows.fnRuleOnSpec) false w args)
      (Rows.fnRuleOnSpec.post enc Tryd.prog Tryd.f4 false true false false) := by
  refine returnsInHanded_of_change_and (C := Tryd.checked) (X := fun w _ => laidMetH Tryd.prog laidSizes w) (fun _ _ _ hh h => h.of_heap hh) own started (by kernel_rfl) Tryd.func4
    (ChangeSpec.witness_shaped (enc := enc) (C := Tryd.checked) (os := os) (X := fun w _ => laidMetH Tryd.prog laidSizes w) false (World.doorLaid Tryd.prog 400 os) #[.slice none 0 0] 8 rfl (World.shaped_of_RefB (by kernel_rfl) (by kernel_rfl)) (by kernel_rfl) (by kernel_rfl) (by kernel_rfl) (door_met os _)) ?_
  intro W base args ds gs before hval0 hW _ _ hL _
  have hval : ∀ (j : Nat) t v, Tryd.f4.params[j]? = some t → args[j]? = some v → Value.okWide Tryd.prog W .any base t v := hval0
  have hW' := hW
  have tcells := sizes_of_laid hL
  obtain ⟨p, q, hA0, hV, rfl, hfz, hnd⟩ := hW
  have hA : DataW.TrodAll enc Tryd.prog W 0 (fun _ => true) true Tryd.f4.params.toList args.toList ds p := hA0
  rw [Tryd.params4] at hA hval
  obtain ⟨v0, vs0, d0, ds0, p0, q0, hargs, rfl, rfl, h0, r0⟩ := trodAll_cons hA
  obtain ⟨rfl, rfl, rfl⟩ := trodAll_nil r0
  obtain rfl : args = #[v0] := by cases args; simp_all
  obtain ⟨a0, len0, cap0, rfl⟩ := okWide_slice Tryd.underlying22 (hval 0 22 v0 rfl rfl)
  have k0 := h0
  have lt0 : ∀ x ∈ p0, x.block < W.heap.size := by obtain ⟨m, hm⟩ := k0; exact DataW.trod_lt m _ _ _ hm
  have w0 : IsCode W a0 len0 cap0 := by
    obtain ⟨fuel, hf⟩ := h0
    rcases open_ints Tryd.underlying22 Tryd.underlying5 (by kernel_rfl) hf with ⟨hcs, _⟩ | ⟨x, l, c, zs, hcs, _, hl, hm, hz, _, hcell, hwz⟩
    · simp [Value.cells] at hcs
      obtain ⟨rfl, rfl, rfl⟩ := hcs
      exact isCode_nil W
    · simp [Value.cells] at hcs
      obtain ⟨rfl, rfl, rfl⟩ := hcs
      exact isCode_row hl hm (by simpa using hz) hcell hwz
  clear hA0 hval0
  refine (lawRuleOn a0 len0 cap0 W w0 tcells).mono fun e W' ⟨he, bel⟩ => ?_
  subst he
  obtain ⟨g1, pv, rfl, hv⟩ := vars_again laidOut hV bel
  exact ⟨_, rfl, _, _, _, [], _, _, hW', trodAll_mk1 (shut_bool Tryd.underlying4 _), (trodAll_cons_mk (Below.trod laidOut (by kernel_rfl) (of_decide_eq_true (by kernel_rfl)) k0 bel lt0) trodAll_mk0), hv, bel.frame _, fun h => by cases h⟩

theorem over : Rows.fnRuleOnRow.holds Tryd.pinned (OpenSpec.ofChange Rows.fnRuleOnSpec) :=
  OpenClaim.holds_of_wide 4 Tryd.f4 rfl rfl rfl rfl rfl rfl rfl ⟨rfl, rfl, rfl, rfl, rfl⟩ rfl rfl rfl rfl rfl (by kernel_rfl) Tryd.func4 (by kernel_rfl)
    (of_decide_eq_true (by kernel_rfl)) (by unfold Func.isWrapper; first | (rw [if_pos (by decide +kernel)]; kernel_rfl) | (rw [if_neg (by decide +kernel)]; exact ⟨rfl, rfl⟩))
    (fun os started H enc _ => lifted os started H enc)

theorem proved : Rows.FnRuleOnCardSaid :=
  Claim7.holds_tied_plain_at .later [] [.data] true Rows.fnRuleOnCard.stood.harness false
    over (fun _ h => by cases h) (by kernel_rfl) (fun _ h => by cases h) fnRuleOn_row_tie rfl ⟨rfl, rfl⟩ (by kernel_rfl) rfl
    (fun f fn hf hfn => by
      obtain rfl : f = 4 := Option.some.inj ((show Tryd.prog.funcNamed Rows.fnRuleOnRow.func = some 4 by kernel_rfl).symm.trans hf) |>.symm
      obtain rfl : fn = Tryd.f4 := (Option.some.inj (Tryd.func4.symm.trans hfn)).symm
      exact ⟨by kernel_rfl, fun j t ht => by
        rw [Tryd.params4] at ht
        have hm : t ∈ [22] := by simpa using Array.mem_of_getElem? ht
        have hall : ([22].all fun u => !Tryd.prog.wantsStandIn u) = true := by kernel_rfl
        exact (show Tryd.prog.wantsStandIn t = false by simpa using List.all_eq_true.1 hall t hm)⟩)
    (by kernel_rfl)
#print axioms proved
end Go.Proofs.YtlfglhpepoepcaaDoor.fnRuleOn
