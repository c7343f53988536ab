/- Rules: their lists as they lie in memory, and when they are ok. -/
import Derived.Test.YtlhaldhfoeiohaaZn
import Derived.Test.YtlhaldhfoeiohaaOi
namespace Go.Proofs.Ytlhaldhfoeiohaa
open Go.RowKit
set_option linter.unusedVariables false

def nstB (l : List Int) (lo hi : Int) (i : Nat) : Bool := decide ((lo ≤ gi l i ∧ gi l i ≤ hi) ∧ gi l i ≠ 0 ∧ (0 < i → gi l (i - 1) < gi l i))
theorem nst_iff (l : List Int) (lo hi : Int) (i : Nat) : nstB l lo hi i = true ↔ (lo ≤ gi l i ∧ gi l i ≤ hi) ∧ gi l i ≠ 0 ∧ (0 < i → gi l (i - 1) < gi l i) := by unfold nstB; exact decide_eq_true_iff
def nuA (l : List Int) (lo hi : Int) : Bool := decide (∀ i : Nat, (h : i < l.length) → nstB l lo hi i = true)
theorem nuA_iff (l : List Int) (lo hi : Int) : nuA l lo hi = true ↔ ∀ i : Nat, i < l.length → nstB l lo hi i = true := by unfold nuA; exact decide_eq_true_iff
/-- Numbers are ok. -/
def nuB (l : List Int) (lo hi : Int) : Bool := decide (l.length ≤ 8) && nuA l lo hi
theorem nu_len {l : List Int} {lo hi : Int} (h : ¬ l.length ≤ 8) : nuB l lo hi = false := by unfold nuB; rw [decide_eq_false h, Bool.false_and]
theorem nu_bad {l : List Int} {lo hi : Int} {i : Nat} (h : i < l.length) (hb : nstB l lo hi i = false) : nuB l lo hi = false := by
  unfold nuB
  have : nuA l lo hi = false := by
    cases hc : nuA l lo hi with
    | false => rfl
    | true => have := (nuA_iff l lo hi).1 hc i h; rw [hb] at this; cases this
  rw [this, Bool.and_false]
theorem nu_all {l : List Int} {lo hi : Int} (ha : ∀ i, i < l.length → nstB l lo hi i = true) : nuB l lo hi = decide ((l.length : Int) ≤ 8) := by
  unfold nuB
  rw [(nuA_iff l lo hi).2 ha, Bool.and_true, Bool.eq_iff_iff, decide_eq_true_iff, decide_eq_true_iff]
  omega
theorem nst_snoc {l : List Int} {lo hi : Int} {k : Nat} (ha : ∀ j, j < k → nstB l lo hi j = true) (hk : nstB l lo hi k = true) : ∀ j, j < k + 1 → nstB l lo hi j = true := fun j hj => by
  by_cases hjk : j = k
  · subst hjk; exact hk
  · exact ha j (by omega)
def ahB (x y x' y' : Int) : Bool := decide (y < y' ∨ y = y' ∧ x < x')
theorem ah_iff (x y x' y' : Int) : ahB x y x' y' = true ↔ (y < y' ∨ y = y' ∧ x < x') := by unfold ahB; exact decide_eq_true_iff
theorem ah_not (x y x' y' : Int) : ahB x y x' y' = false ↔ ¬ (y < y' ∨ y = y' ∧ x < x') := by unfold ahB; exact decide_eq_false_iff_not
def dstB (l : List (Int × Int)) (m : Int) (i : Nat) : Bool := inB (tSh l i) 0 6 && (inB (tAt l i) (-m) m && decide (0 < i → ahB (tAt l (i - 1)) (tSh l (i - 1)) (tAt l i) (tSh l i) = true))
def dsA (l : List (Int × Int)) (m : Int) : Bool := decide (∀ i : Nat, (h : i < l.length) → dstB l m i = true)
theorem dsA_iff (l : List (Int × Int)) (m : Int) : dsA l m = true ↔ ∀ i : Nat, i < l.length → dstB l m i = true := by unfold dsA; exact decide_eq_true_iff
/-- Days of the week are ok. -/
def dsB (l : List (Int × Int)) (m : Int) : Bool := decide (l.length ≤ 8) && dsA l m
theorem ds_len {l : List (Int × Int)} {m : Int} (h : ¬ l.length ≤ 8) : dsB l m = false := by unfold dsB; rw [decide_eq_false h, Bool.false_and]
theorem dsA_bad {l : List (Int × Int)} {m : Int} {i : Nat} (h : i < l.length) (hb : dstB l m i = false) : dsA l m = false := by
  cases hc : dsA l m with
  | false => rfl
  | true => have := (dsA_iff l m).1 hc i h; rw [hb] at this; cases this
theorem ds_bad {l : List (Int × Int)} {m : Int} {i : Nat} (h : i < l.length) (hb : dstB l m i = false) : dsB l m = false := by
  unfold dsB; rw [dsA_bad h hb, Bool.and_false]
theorem ds_all {l : List (Int × Int)} {m : Int} (ha : ∀ i, i < l.length → dstB l m i = true) : dsB l m = decide (l.length ≤ 8) := by
  unfold dsB; rw [(dsA_iff l m).2 ha, Bool.and_true]
theorem dst_snoc {l : List (Int × Int)} {m : Int} {k : Nat} (ha : ∀ j, j < k → dstB l m j = true) (hk : dstB l m k = true) : ∀ j, j < k + 1 → dstB l m j = true := fun j hj => by
  by_cases hjk : j = k
  · subst hjk; exact hk
  · exact ha j (by omega)
/-- Up to which number days of the week are counted. -/
def numM (f : Int) (n : Nat) : Int := if f = 4 ∧ n = 0 then 53 else if f = 4 ∨ f = 3 then 5 else 0
theorem numM_in (f : Int) (n : Nat) : 0 ≤ numM f n ∧ numM f n ≤ 53 := by
  unfold numM
  split
  · omega
  · split <;> omega
def ofB (f e c u wk : Int) : Bool := inB f 1 4 && (inB e 1 100 && (inB c 0 500 && (inB u 0 3652058 && (decide (c = 0 ∨ u = 0) && inB wk 0 6))))
theorem of_iff (f e c u wk : Int) : ofB f e c u wk = true ↔ (1 ≤ f ∧ f ≤ 4) ∧ (1 ≤ e ∧ e ≤ 100) ∧ (0 ≤ c ∧ c ≤ 500) ∧ (0 ≤ u ∧ u ≤ 3652058) ∧ (c = 0 ∨ u = 0) ∧ (0 ≤ wk ∧ wk ≤ 6) := by
  unfold ofB; simp only [Bool.and_eq_true, in_iff, decide_eq_true_iff]
def liB (f : Int) (n : Nat) (da mo pl : List Int) : Bool := decide (¬ (f = 2 ∧ 0 < da.length)) && (decide (¬ (0 < pl.length ∧ n = 0 ∧ da.length = 0 ∧ mo.length = 0)) && (nuB da (-31) 31 && (nuB mo 1 12 && nuB pl (-366) 366)))
/-- A rule is ok. -/
def ruB (f e c u : Int) (ds : List (Int × Int)) (da mo pl : List Int) (wk : Int) : Bool := ofB f e c u wk && (dsB ds (numM f mo.length) && liB f ds.length da mo pl)
end Go.Proofs.Ytlhaldhfoeiohaa
