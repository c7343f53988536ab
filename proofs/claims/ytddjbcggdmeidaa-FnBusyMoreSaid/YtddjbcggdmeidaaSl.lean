/- What is free: the program's, where there is an answer. -/
import Derived.Test.YtddjbcggdmeidaaSk
namespace Go.Proofs.Ytddjbcggdmeidaa
open Go.RowKit
set_option linter.unusedVariables false
theorem app_below {w w3 w4 : World} {B g g4 n c : Nat} (b : Below B w w3) (hg : B ≤ g) (hB : B ≤ w3.heap.size) (hgrow : w3.grownBy w4 (Value.slice (some ⟨g, 0, none⟩) n c).ownBlock) (hat : (Value.slice (some ⟨g, 0, none⟩) n c).ownBlock = some g4 ∨ g4 = w3.heap.size) : Below B w w4 ∧ B ≤ g4 := by
  have e : (Value.slice (some ⟨g, 0, none⟩) n c).ownBlock = some g := rfl
  rw [e] at hgrow hat
  refine ⟨b.grown hgrow hB (fun k hk => ?_), ?_⟩
  · cases hk; exact hg
  · rcases hat with h | h
    · cases h; exact hg
    · omega
end Go.Proofs.Ytddjbcggdmeidaa
