/- FnExactZonesOk: the law's own walk. -/
import Derived.Test.YthenkgihofaaeaaZg
namespace Go.Proofs.Ythenkgihofaaeaa
open Go.RowKit
set_option linter.unusedVariables false
theorem zsOk_dec (zs : List ZR) : ∃ r : Bool, r = true ↔ ZsOk zs := by
  by_cases h : ZsOk zs
  · exact ⟨true, fun _ => h, fun _ => rfl⟩
  · exact ⟨false, fun e => Bool.noConfusion e, fun e => absurd e h⟩
set_option maxRecDepth 100000 in
set_option maxHeartbeats 8000000 in
theorem lawExZonesOk (a : Option Addr) (cap : Nat) (zs : List ZR) (w : World) (hw : ZWide zs) (h : IsZones w a zs) :
    Calls Try.prog 3 #[.slice a zs.length cap] w fun e w' => e = .returned (.bool true) ∧ Below w.heap.size w w' := by
  have HZ : Hid (IsZones w a zs) := h
  obtain ⟨r, hr⟩ := zsOk_dec zs
  have HR : Hid (r = true ↔ ZsOk zs) := hr
  clear h hr
  go_enter Try.func3, Try.ntmps3
  go_wp2_with fail
  with_reducible refine (lawSzZoneS _ _ _ _ HZ.out hw).mono ?_
  rintro e w1 ⟨⟨l, rfl, l0, l1, hsm⟩, b1⟩
  by_cases hl : 0 ≤ l
  · have HS : Hid (ZSmall zs) := hsm hl
    clear hsm hw
    go_wp2_with fail
    with_reducible refine (lawToZones _ _ _ _ (HZ.out.below b1) HS.out).mono ?_
    rintro e w2 ⟨rfl, Z2, b2⟩
    go_wp2_with fail
    with_reducible refine (specZonesOk _ _ _ _ Z2 HS.out r HR.out).mono ?_
    rintro e w3 ⟨rfl, b3⟩
    have B3 := bstep (bstep b1 b2) b3
    clear b1 b2 b3 Z2
    go_wp2_with fail
    with_reducible refine (lawToZones _ _ _ _ (HZ.out.below B3) HS.out).mono ?_
    rintro e w4 ⟨rfl, Z4, b4⟩
    have B4 := bstep B3 b4
    clear b4
    go_wp2_with fail
    with_reducible refine (implZonesOk _ _ _ _ Z4 HS.out r HR.out).mono ?_
    rintro e w5 ⟨rfl, b5⟩
    have B5 := bstep B4 b5
    have Z5 := Z4.below b5
    clear b5 B4 Z4
    cases r <;>
    · go_wp2_with fail
      with_reducible refine (lawToZones _ _ _ _ (HZ.out.below B5) HS.out).mono ?_
      rintro e w6 ⟨rfl, Z6, b6⟩
      have B6 := bstep B5 b6
      have Z7 := Z5.below b6
      clear b6 B5 Z5
      go_wp2_with fail
      with_reducible refine (lawEqZones _ _ _ _ _ _ Z7 Z6 HS.out).mono ?_
      rintro e w7 ⟨rfl, b7⟩
      have B7 := bstep B6 b7
      go_wp2
      go_ret
      exact ⟨rfl, B7⟩
  · clear hsm
    go_wp2
    go_ret
    exact ⟨rfl, b1⟩
end Go.Proofs.Ythenkgihofaaeaa
