/- How a code that came in is read: bridges between a row's reading and the walks. -/
import Derived.Test.YtkbgbccehijckaaRd
import Derived.Test.YtkbgbccehijckaaFrB
import Derived.ProofKit
import Derived.OpenShut
import Derived.ShutString
import Derived.ChangeOld
import Derived.Below
namespace Go.Proofs.Ytkbgbccehijckaa
open Go.ChangeShapes Go.WideShapes Go.ChangeAt Go.RowKit
set_option linter.unusedVariables false

theorem isCode_nil (W : World) : IsCode W none 0 0 := ⟨Nat.le_refl _, by omega, .inl rfl⟩
theorem isCode_row {W : World} {x : Addr} {len cap : Nat} {zs : List Int} (hl : len ≤ cap) (hm : cap ≤ maxLen) (hz : zs.length = cap) (hcell : ∀ i, i < zs.length → W.cell? (x.add i) = some (.int .u8 (zs.getD i 0))) (hwz : ∀ n ∈ zs, (Lit.int .u8 n).wf = true) :
    IsCode W (some x) len cap := by
  refine ⟨hl, by unfold maxLen at hm; omega, ?_⟩
  by_cases h0 : len = 0
  · exact .inl h0
  · right
    obtain ⟨b, off, spot⟩ := x
    have hc := hcell 0 (by omega)
    have hspot : spot = none := by simpa [Addr.add] using World.cell?_spot hc
    subst hspot
    refine ⟨b, off, rfl, ?_, fun i hi => ⟨zs.getD i 0, ?_⟩⟩
    · exact cell_lt (w := W) (b := b) (o := off + 0) (by simpa [Addr.add] using hc)
    · have hw := hwz (zs.getD i 0) (by simp [show i < zs.length from by omega])
      have hc := hcell i (by omega)
      have hb := bounds_u8 hw
      refine ⟨hb.1, hb.2, ?_⟩
      by_cases hi0 : i = 0
      · subst hi0; simpa [Addr.add] using hc
      · simpa [Addr.add, hi0] using hc
end Go.Proofs.Ytkbgbccehijckaa
