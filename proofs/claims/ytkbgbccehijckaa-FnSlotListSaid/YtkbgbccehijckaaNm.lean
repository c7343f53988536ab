/- Names: small letters and figures, one to eight. -/
import Derived.Test.YtkbgbccehijckaaSpD
namespace Go.Proofs.Ytkbgbccehijckaa
open Go.RowKit
set_option linter.unusedVariables false

def nb (c : Int) : Bool := decide (97 ≤ c ∧ c ≤ 122 ∨ 48 ≤ c ∧ c ≤ 57)
theorem nb_iff (c : Int) : nb c = true ↔ (97 ≤ c ∧ c ≤ 122 ∨ 48 ≤ c ∧ c ≤ 57) := by unfold nb; exact decide_eq_true_iff
theorem nb_not (c : Int) : nb c = false ↔ ¬ (97 ≤ c ∧ c ≤ 122 ∨ 48 ≤ c ∧ c ≤ 57) := by unfold nb; exact decide_eq_false_iff_not
/-- Each byte of a text is one of a name's. -/
def nbAll (s : ByteArray) : Bool := decide (∀ i : Nat, (h : i < s.size) → nb s[i].toNat = true)
theorem nbAll_iff (s : ByteArray) : nbAll s = true ↔ ∀ i : Nat, (h : i < s.size) → nb s[i].toNat = true := by unfold nbAll; exact decide_eq_true_iff
def nmB (s : ByteArray) : Bool := decide (1 ≤ s.size ∧ s.size ≤ 8) && nbAll s
theorem nm_bad {s : ByteArray} {i : Nat} (h : i < s.size) (hb : nb s[i].toNat = false) : nmB s = false := by
  unfold nmB
  have : nbAll s = false := by
    cases hc : nbAll s with
    | false => rfl
    | true => have := (nbAll_iff s).1 hc i h; rw [hb] at this; cases this
  rw [this, Bool.and_false]
theorem nm_size {s : ByteArray} (h : ¬ (1 ≤ s.size ∧ s.size ≤ 8)) : nmB s = false := by unfold nmB; rw [decide_eq_false h, Bool.false_and]
theorem nm_yes {s : ByteArray} (h : 1 ≤ s.size ∧ s.size ≤ 8) (ha : ∀ i : Nat, (h : i < s.size) → nb s[i].toNat = true) : nmB s = true := by
  unfold nmB; rw [decide_eq_true h, (nbAll_iff s).2 ha, Bool.and_self]
theorem nm_all {s : ByteArray} (ha : ∀ i : Nat, (h : i < s.size) → nb s[i].toNat = true) : nmB s = inB (s.size : Int) 1 8 := by
  unfold nmB inB
  rw [(nbAll_iff s).2 ha, Bool.and_true, Bool.eq_iff_iff, decide_eq_true_iff, decide_eq_true_iff]
  omega
end Go.Proofs.Ytkbgbccehijckaa
