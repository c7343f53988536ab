/- Figures in texts. -/
import Derived.Test.YtdcohpokfdaknaaDoorNm
namespace Go.Proofs.YtdcohpokfdaknaaDoor
open Go.RowKit
set_option linter.unusedVariables false

/-- A text's byte. -/
def bt (s : ByteArray) (i : Nat) : Int := if h : i < s.size then (s[i].toNat : Int) else 0
theorem bt_get {s : ByteArray} {i : Nat} (h : i < s.size) : bt s i = (s[i].toNat : Int) := by unfold bt; rw [dif_pos h]
theorem bt_in (s : ByteArray) (i : Nat) : 0 ≤ bt s i ∧ bt s i ≤ 255 := by
  unfold bt
  split
  · rename_i h; have := s[i].toNat_lt; omega
  · omega
def dg (c : Int) : Bool := decide (48 ≤ c ∧ c ≤ 57)
theorem dg_iff (c : Int) : dg c = true ↔ 48 ≤ c ∧ c ≤ 57 := by unfold dg; exact decide_eq_true_iff
theorem dg_not (c : Int) : dg c = false ↔ ¬ (48 ≤ c ∧ c ≤ 57) := by unfold dg; exact decide_eq_false_iff_not
/-- The number that so many first bytes are. -/
def fv (s : ByteArray) : Nat → Int
  | 0 => 0
  | k + 1 => fv s k * 10 + (bt s k - 48)
def dgA (s : ByteArray) : Bool := decide (∀ i : Nat, (h : i < s.size) → dg (bt s i) = true)
theorem dgA_iff (s : ByteArray) : dgA s = true ↔ ∀ i : Nat, i < s.size → dg (bt s i) = true := by unfold dgA; exact decide_eq_true_iff
/-- What figures are; -1 if one is none. -/
def fg (s : ByteArray) : Int := if dgA s = true then fv s s.size else -1
theorem fg_no {s : ByteArray} {i : Nat} (h : i < s.size) (hd : dg (bt s i) = false) : fg s = -1 := by
  unfold fg
  rw [if_neg]
  intro ha
  have := (dgA_iff s).1 ha i h
  rw [hd] at this; cases this
theorem fg_yes {s : ByteArray} (ha : ∀ i, i < s.size → dg (bt s i) = true) : fg s = fv s s.size := by
  unfold fg; rw [if_pos ((dgA_iff s).2 ha)]
theorem fv_in (s : ByteArray) (k : Nat) (ha : ∀ i, i < k → dg (bt s i) = true) : 0 ≤ fv s k ∧ fv s k < 10 ^ k := by
  induction k with
  | zero => simp [fv]
  | succ k ih =>
    have h := ih (fun i hi => ha i (by omega))
    have d := (dg_iff _).1 (ha k (by omega))
    have p : (10 : Int) ^ (k + 1) = 10 ^ k * 10 := by rw [Int.pow_succ]
    rw [p]
    simp only [fv]
    omega
theorem ten_le {k : Nat} (h : k ≤ 9) : (10 : Int) ^ k ≤ 1000000000 := by
  have : k = 0 ∨ k = 1 ∨ k = 2 ∨ k = 3 ∨ k = 4 ∨ k = 5 ∨ k = 6 ∨ k = 7 ∨ k = 8 ∨ k = 9 := by omega
  rcases this with h | h | h | h | h | h | h | h | h | h <;> subst h <;> decide
theorem fv_le {s : ByteArray} {k : Nat} (h : k ≤ 9) (ha : ∀ i, i < k → dg (bt s i) = true) : 0 ≤ fv s k ∧ fv s k < 1000000000 := by
  have := fv_in s k ha
  have := ten_le h
  omega
theorem fg_in {s : ByteArray} (h : s.size ≤ 9) : -1 ≤ fg s ∧ fg s < 1000000000 := by
  unfold fg
  split
  · rename_i hd
    have := fv_le h (fun i hi => (dgA_iff s).1 hd i hi)
    omega
  · omega
end Go.Proofs.YtdcohpokfdaknaaDoor
