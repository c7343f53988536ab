/- The times at which a clock shows a time, in plain numbers. -/
import Derived.Test.YtihklmbblbnihaaZt
namespace Go.Proofs.Ytihklmbblbnihaa
open Go.RowKit
set_option linter.unusedVariables false
/-- From when, and until when, a leg goes. -/
def zfrom (ts : List (Int × Int)) (k : Nat) : Int := if k = 0 then 0 else tAt ts (k - 1)
def zto (ts : List (Int × Int)) (k : Nat) : Int := if k < ts.length then tAt ts k - 1 else 5258964959
/-- On leg k the clock shows loc, at loc less the leg's shift. -/
def zin (sh : Int) (ts : List (Int × Int)) (loc : Int) (k : Nat) : Bool := decide (zfrom ts k ≤ loc - lsh sh ts k ∧ loc - lsh sh ts k ≤ zto ts k)
/-- The times on the first k legs. -/
def ztl (sh : Int) (ts : List (Int × Int)) (loc : Int) : Nat → List Int
  | 0 => []
  | k + 1 => if zin sh ts loc k = true then ztl sh ts loc k ++ [loc - lsh sh ts k] else ztl sh ts loc k
theorem ztl_yes {sh : Int} {ts : List (Int × Int)} {loc : Int} {k : Nat} (h : zin sh ts loc k = true) : ztl sh ts loc (k + 1) = ztl sh ts loc k ++ [loc - lsh sh ts k] := by rw [ztl, if_pos h]
theorem ztl_no {sh : Int} {ts : List (Int × Int)} {loc : Int} {k : Nat} (h : zin sh ts loc k = false) : ztl sh ts loc (k + 1) = ztl sh ts loc k := by rw [ztl, if_neg (by rw [h]; exact Bool.false_ne_true)]
theorem ztl_len (sh : Int) (ts : List (Int × Int)) (loc : Int) (k : Nat) : (ztl sh ts loc k).length ≤ k := by
  induction k with
  | zero => simp [ztl]
  | succ k ih => rw [ztl]; split <;> (try simp) <;> omega
theorem zin_iff {sh : Int} {ts : List (Int × Int)} {loc : Int} {k : Nat} : zin sh ts loc k = true ↔ zfrom ts k ≤ loc - lsh sh ts k ∧ loc - lsh sh ts k ≤ zto ts k := by unfold zin; exact decide_eq_true_iff
theorem zin_leg {sh : Int} {ts : List (Int × Int)} {loc : Int} {k : Nat} (ok : TrOk ts) (hk : k ≤ ts.length) : zin sh ts loc k = true ↔ tiB (loc - lsh sh ts k) = true ∧ Leg ts (loc - lsh sh ts k) k := by
  rw [zin_iff, ti_iff]
  generalize loc - lsh sh ts k = x
  unfold zfrom zto Leg
  constructor
  · rintro ⟨a, b⟩
    have lo : 0 ≤ x := by
      by_cases h0 : k = 0
      · rw [if_pos h0] at a; exact a
      · rw [if_neg h0] at a
        have := (ok.2 (k - 1) (by omega)).1; omega
    have hi : x ≤ 5258964959 := by
      by_cases h0 : k < ts.length
      · rw [if_pos h0] at b
        have := (ok.2 k h0).1; omega
      · rw [if_neg h0] at b; exact b
    refine ⟨⟨lo, hi⟩, hk, fun i hi => ?_, fun h => ?_⟩
    · rw [if_neg (by omega)] at a
      have := ok.mono i (k - 1) (by omega) (by omega); omega
    · rw [if_pos h] at b; omega
  · rintro ⟨⟨lo, hi⟩, _, h1, h2⟩
    constructor
    · split
      · exact lo
      · exact h1 (k - 1) (by omega)
    · split
      · have := h2 (by assumption); omega
      · exact hi
theorem ztl_mem {sh : Int} {ts : List (Int × Int)} {loc : Int} {n : Nat} {x : Int} : x ∈ ztl sh ts loc n ↔ ∃ k, k < n ∧ zin sh ts loc k = true ∧ x = loc - lsh sh ts k := by
  induction n with
  | zero => simp [ztl]
  | succ n ih =>
    rw [ztl]
    split
    · rename_i h
      rw [List.mem_append, ih]
      constructor
      · rintro (⟨k, a, b⟩ | hx)
        · exact ⟨k, by omega, b⟩
        · simp at hx; exact ⟨n, by omega, h, hx⟩
      · rintro ⟨k, a, b, c⟩
        by_cases e : k = n
        · subst e; right; simp [c]
        · left; exact ⟨k, by omega, b, c⟩
    · rename_i h
      rw [ih]
      constructor
      · rintro ⟨k, a, b⟩; exact ⟨k, by omega, b⟩
      · rintro ⟨k, a, b, c⟩
        by_cases e : k = n
        · subst e; exact absurd b h
        · exact ⟨k, by omega, b, c⟩
/-- A turn that leaves a time out. -/
def Skip (sh : Int) (ts : List (Int × Int)) (loc : Int) (i : Nat) : Prop := tAt ts i ≤ loc - lsh sh ts i ∧ loc - tSh ts i < tAt ts i
theorem lsh_in {sh : Int} {ts : List (Int × Int)} (hs : -1440 ≤ sh ∧ sh ≤ 1440) (ok : TrOk ts) (k : Nat) (hk : k ≤ ts.length) : -1440 ≤ lsh sh ts k ∧ lsh sh ts k ≤ 1440 := by
  unfold lsh
  split
  · exact hs
  · exact (ok.2 (k - 1) (by omega)).2.1
theorem TrOk.apart {ts : List (Int × Int)} (ok : TrOk ts) (i j : Nat) (hij : i < j) (hj : j < ts.length) : tAt ts i + 10080 ≤ tAt ts j := by
  have h1 := ok.mono i (j - 1) (by omega) (by omega)
  have h2 := (ok.2 j hj).2.2 (by omega)
  omega
theorem Skip.uniq {sh : Int} {ts : List (Int × Int)} {loc : Int} {i j : Nat} (hs : -1440 ≤ sh ∧ sh ≤ 1440) (ok : TrOk ts) (hi : i < ts.length) (hj : j < ts.length) (a : Skip sh ts loc i) (b : Skip sh ts loc j) : i = j := by
  have li := lsh_in hs ok i (by omega)
  have lj := lsh_in hs ok j (by omega)
  have si := (ok.2 i hi).2.1
  have sj := (ok.2 j hj).2.1
  obtain ⟨a1, a2⟩ := a
  obtain ⟨b1, b2⟩ := b
  rcases Nat.lt_trichotomy i j with h | h | h
  · have := ok.apart i j h hj; omega
  · exact h
  · have := ok.apart j i h hi; omega
/-- What the time of a clock's time is: the first, or as if it had not turned. -/
def ZW (sh : Int) (ts : List (Int × Int)) (loc r : Int) : Prop :=
  (∃ l, ztl sh ts loc (ts.length + 1) = r :: l) ∨
  (ztl sh ts loc (ts.length + 1) = [] ∧ ((∃ i, i < ts.length ∧ Skip sh ts loc i ∧ r = if tiB (loc - lsh sh ts i) = true then loc - lsh sh ts i else -1) ∨ ((∀ i, i < ts.length → ¬ Skip sh ts loc i) ∧ r = -1)))
theorem ZW.ex (sh : Int) (ts : List (Int × Int)) (loc : Int) : ∃ r, ZW sh ts loc r := by
  cases h : ztl sh ts loc (ts.length + 1) with
  | cons x l => exact ⟨x, .inl ⟨l, h⟩⟩
  | nil =>
    by_cases e : ∃ i, i < ts.length ∧ Skip sh ts loc i
    · obtain ⟨i, hi, hs⟩ := e
      exact ⟨_, .inr ⟨h, .inl ⟨i, hi, hs, rfl⟩⟩⟩
    · exact ⟨-1, .inr ⟨h, .inr ⟨fun i hi hs => e ⟨i, hi, hs⟩, rfl⟩⟩⟩
end Go.Proofs.Ytihklmbblbnihaa
