/- Rules in plain numbers: the date of a day, which days a rule chooses of a period. -/
import Derived.Test.YtlhaldhfoeiohaaCal
import Derived.Test.YtlhaldhfoeiohaaRn
namespace Go.Proofs.Ytlhaldhfoeiohaa
open Go.RowKit
set_option linter.unusedVariables false

/-- The first place, from j on, of so many, at which something holds. -/
def findN (p : Nat → Bool) : Nat → Nat → Nat
  | 0, j => j
  | k + 1, j => if p j = true then j else findN p k (j + 1)
theorem findN_le (p : Nat → Bool) : ∀ k j, j ≤ findN p k j ∧ findN p k j ≤ j + k
  | 0, j => ⟨Nat.le_refl _, Nat.le_refl _⟩
  | k + 1, j => by
    unfold findN
    split
    · omega
    · have := findN_le p k (j + 1); omega
theorem findN_no (p : Nat → Bool) : ∀ k j i, j ≤ i → i < findN p k j → p i = false
  | 0, j, i, h, h' => by unfold findN at h'; omega
  | k + 1, j, i, h, h' => by
    unfold findN at h'
    split at h'
    · omega
    · rename_i hp
      rcases Nat.lt_or_ge j i with h1 | h1
      · exact findN_no p k (j + 1) i (by omega) h'
      · have : i = j := by omega
        subst this; simpa using hp
theorem findN_yes (p : Nat → Bool) : ∀ k j i, j ≤ i → i < j + k → p i = true → p (findN p k j) = true
  | 0, j, i, h, h', _ => by omega
  | k + 1, j, i, h, h', hp => by
    unfold findN
    split
    · assumption
    · rename_i hn
      rcases Nat.lt_or_ge j i with h1 | h1
      · exact findN_yes p k (j + 1) i (by omega) (by omega) hp
      · have : i = j := by omega
        subst this; exact absurd hp hn

/-- The date of a day. -/
def yOf (n : Int) : Int := (findN (fun j => decide (n < fst ((j : Int) + 2))) 10000 0 : Nat) + 1
def mOf (n : Int) : Int := (findN (fun j => decide (n - fst (yOf n) < cum (yOf n) ((j : Int) + 2))) 12 0 : Nat) + 1
def dOf (n : Int) : Int := n - fst (yOf n) - cum (yOf n) (mOf n) + 1
theorem yOf_is {n y : Int} (h0 : 1 ≤ y) (h1 : y ≤ 9999) (a : fst y ≤ n) (b : n < fst (y + 1)) : yOf n = y := by
  have l := findN_le (fun j => decide (n < fst ((j : Int) + 2))) 10000 0
  have e := findN_yes (fun j => decide (n < fst ((j : Int) + 2))) 10000 0 (y - 1).toNat (by omega) (by omega) (by
    simp only [decide_eq_true_eq]; rw [show (((y - 1).toNat : Nat) : Int) + 2 = y + 1 by omega]; exact b)
  have hn := findN_no (fun j => decide (n < fst ((j : Int) + 2))) 10000 0
  simp only [decide_eq_true_eq] at e
  have hy1 : fst (yOf n) ≤ n := by
    by_cases h : findN (fun j => decide (n < fst ((j : Int) + 2))) 10000 0 = 0
    · have : yOf n = 1 := by unfold yOf; rw [h]; rfl
      rw [this]
      have := fst_mono 1 y (by omega) h0
      omega
    · have := hn (findN (fun j => decide (n < fst ((j : Int) + 2))) 10000 0 - 1) (by omega) (by omega)
      simp only [decide_eq_false_iff_not] at this
      have h2 : (((findN (fun j => decide (n < fst ((j : Int) + 2))) 10000 0 - 1 : Nat) : Int) + 2) = yOf n := by unfold yOf; omega
      rw [h2] at this; omega
  have hy2 : n < fst (yOf n + 1) := by
    have h2 : yOf n + 1 = ((findN (fun j => decide (n < fst ((j : Int) + 2))) 10000 0 : Nat) : Int) + 2 := by unfold yOf; omega
    rw [h2]; exact e
  exact year_uniq (by unfold yOf; omega) h0 hy1 hy2 a b
theorem date_is {n y m d : Int} (h : okD y m d = true) (e : num y m d = n) : yOf n = y ∧ mOf n = m ∧ dOf n = d := by
  have hy := num_year h
  obtain ⟨a0, a1, a2, a3, a4, a5⟩ := (okD_iff _ _ _).1 h
  have y1 : yOf n = y := yOf_is a0 a1 (by omega) (by omega)
  have c0 := cum_succ y m a2 a3
  have hr : n - fst y = cum y m + d - 1 := by unfold num at e; omega
  have m1 : mOf n = m := by
    have l := findN_le (fun j => decide (n - fst (yOf n) < cum (yOf n) ((j : Int) + 2))) 12 0
    have e' := findN_yes (fun j => decide (n - fst (yOf n) < cum (yOf n) ((j : Int) + 2))) 12 0 (m - 1).toNat (by omega) (by omega) (by
      simp only [decide_eq_true_eq]; rw [show (((m - 1).toNat : Nat) : Int) + 2 = m + 1 by omega, y1]; omega)
    have hn := findN_no (fun j => decide (n - fst (yOf n) < cum (yOf n) ((j : Int) + 2))) 12 0
    simp only [decide_eq_true_eq] at e'
    have hm : mOf n = ((findN (fun j => decide (n - fst (yOf n) < cum (yOf n) ((j : Int) + 2))) 12 0 : Nat) : Int) + 1 := rfl
    have e2 : n - fst y < cum y (mOf n + 1) := by rw [hm, show ∀ x : Int, x + 1 + 1 = x + 2 from fun x => by omega]; rw [← y1]; exact e'
    -- not below
    rcases Int.lt_trichotomy (mOf n) m with lt | eq | gt
    · have := cum_mono y (mOf n + 1) m (by omega) (by omega) (by omega); omega
    · exact eq
    · have := hn (m - 1).toNat (by omega) (by omega)
      simp only [decide_eq_false_iff_not] at this
      rw [show (((m - 1).toNat : Nat) : Int) + 2 = m + 1 by omega, y1] at this
      omega
  exact ⟨y1, m1, by unfold dOf; rw [m1, y1]; omega⟩

def hasI (l : List Int) (x : Int) : Bool := decide (x ∈ l)
def inMo (r : Rl) : Bool := decide (r.f = 3 ∨ 0 < r.mo.length)
def pastOf (r : Rl) (n : Int) : Int := if inMo r = true then dOf n - 1 else n - fst (yOf n)
def leftOf (r : Rl) (n : Int) : Int := if inMo r = true then dim (yOf n) (mOf n) - dOf n else fst (yOf n + 1) - n - 1
/-- One of a rule's days of the week, at a day that is so far from both ends. -/
def byB (n past left : Int) (b : Int × Int) : Bool := decide (b.2 = n % 7 ∧ (b.1 = 0 ∨ b.1 = past / 7 + 1 ∨ b.1 = -(left / 7 + 1)))
def dfB (r : Rl) (n : Int) : Bool := r.ds.any (byB n (pastOf r n) (leftOf r n))
def dtB (r : Rl) (n : Int) : Bool := hasI r.da (dOf n) || hasI r.da (dOf n - dim (yOf n) (mOf n) - 1)
def ownB (r : Rl) (s n : Int) : Bool :=
  if r.f = 2 then decide (n % 7 = s % 7) else if r.f = 3 then decide (dOf n = dOf s)
  else if r.f = 4 then decide (dOf n = dOf s ∧ (0 < r.mo.length ∨ mOf n = mOf s)) else true
def fitB (r : Rl) (s n : Int) : Bool :=
  (decide (r.mo.length = 0) || hasI r.mo (mOf n)) && ((decide (r.da.length = 0) || dtB r n) && ((decide (r.ds.length = 0) || dfB r n) && (decide (0 < r.ds.length ∨ 0 < r.da.length) || ownB r s n)))

/-- The period so many behind that of the first day: its first day and its last. -/
def spanF (r : Rl) (s n : Int) : Int :=
  if r.f = 1 then s + n else if r.f = 2 then s - (s % 7 - r.wk + 7) % 7 + 7 * n
  else if r.f = 3 then num (yOf s + (mOf s - 1 + n) / 12) ((mOf s - 1 + n) % 12 + 1) 1 else fst (yOf s + n)
def spanL (r : Rl) (s n : Int) : Int :=
  if r.f = 1 then s + n else if r.f = 2 then s - (s % 7 - r.wk + 7) % 7 + 7 * n + 6
  else if r.f = 3 then num (yOf s + (mOf s - 1 + n) / 12) ((mOf s - 1 + n) % 12 + 1) 1 + dim (yOf s + (mOf s - 1 + n) / 12) ((mOf s - 1 + n) % 12 + 1) - 1
  else fst (yOf s + n + 1) - 1

/-- Whole numbers from one to ahead of another one. -/
def ira (a b : Int) : List Int := (List.range (b - a).toNat).map fun i : Nat => a + (i : Int)
theorem ira_nil {a b : Int} (h : b ≤ a) : ira a b = [] := by unfold ira; rw [show (b - a).toNat = 0 by omega]; rfl
theorem ira_snoc {a b : Int} (h : a ≤ b) : ira a (b + 1) = ira a b ++ [b] := by
  unfold ira
  rw [show (b + 1 - a).toNat = (b - a).toNat + 1 by omega, List.range_succ, List.map_append]
  simp; omega
theorem ira_cons {a b : Int} (h : a < b) : ira a b = a :: ira (a + 1) b := by
  unfold ira
  rw [show (b - a).toNat = (b - (a + 1)).toNat + 1 by omega, List.range_succ_eq_map, List.map_cons, List.map_map]
  congr 1
  · simp
  · apply List.map_congr_left; intro i _; simp; omega
theorem ira_mem {a b x : Int} : x ∈ ira a b ↔ a ≤ x ∧ x < b := by
  unfold ira
  rw [List.mem_map]
  constructor
  · rintro ⟨i, hi, rfl⟩; have := List.mem_range.1 hi; omega
  · rintro ⟨h0, h1⟩; exact ⟨(x - a).toNat, List.mem_range.2 (by omega), by omega⟩
theorem ira_split {a b c : Int} (h0 : a ≤ b) (h1 : b ≤ c) : ira a c = ira a b ++ ira b c := by
  obtain ⟨k, rfl⟩ : ∃ k : Nat, c = b + k := ⟨(c - b).toNat, by omega⟩
  induction k with
  | zero => rw [ira_nil (a := b) (by omega)]; simp
  | succ k ih =>
    rw [show b + ((k + 1 : Nat) : Int) = b + (k : Int) + 1 by omega, ira_snoc (by omega), ira_snoc (by omega), ih (by omega), List.append_assoc]
theorem ira_asc (a b : Int) : (ira a b).Pairwise (· < ·) := by
  unfold ira
  rw [List.pairwise_map]
  exact List.pairwise_lt_range.imp (by intro i j h; omega)

/-- The days of a period that a rule chooses, before its places do. -/
def fitL (r : Rl) (s a b : Int) : List Int := (ira a b).filter fun n => decide (0 ≤ n ∧ n ≤ 3652058) && fitB r s n
/-- Those at the rule's places. -/
def plB (pl : List Int) (n : Nat) (i : Nat) : Bool := hasI pl ((i : Int) + 1) || hasI pl ((i : Int) - (n : Int))
def plL (pl l : List Int) (k : Nat) : List Int := ((List.range k).filter (plB pl l.length)).map fun i => l.getD i 0
def choice (r : Rl) (s a b : Int) : List Int := if r.pl.length = 0 then fitL r s a (b + 1) else plL r.pl (fitL r s a (b + 1)) (fitL r s a (b + 1)).length
theorem plL_zero (pl l : List Int) : plL pl l 0 = [] := by simp [plL]
theorem plL_yes {pl l : List Int} {k : Nat} (h : plB pl l.length k = true) : plL pl l (k + 1) = plL pl l k ++ [l.getD k 0] := by simp [plL, List.range_succ, h]
theorem plL_no {pl l : List Int} {k : Nat} (h : plB pl l.length k = false) : plL pl l (k + 1) = plL pl l k := by simp [plL, List.range_succ, h]
theorem fitL_snoc_yes {r : Rl} {s a b : Int} (h : a ≤ b) (hd : 0 ≤ b ∧ b ≤ 3652058) (hf : fitB r s b = true) : fitL r s a (b + 1) = fitL r s a b ++ [b] := by simp [fitL, ira_snoc h, hf, hd.1, hd.2]
theorem fitL_snoc_no {r : Rl} {s a b : Int} (h : a ≤ b) (hd : ¬ ((0 ≤ b ∧ b ≤ 3652058) ∧ fitB r s b = true)) : fitL r s a (b + 1) = fitL r s a b := by
  have : (decide (0 ≤ b ∧ b ≤ 3652058) && fitB r s b) = false := by
    cases hf : fitB r s b
    · simp
    · rw [Bool.and_true, decide_eq_false_iff_not]; exact fun h' => hd ⟨h', hf⟩
  simp only [fitL, ira_snoc h, List.filter_append, List.filter_cons, this, List.filter_nil]
  simp
theorem fitL_out {r : Rl} {s a b : Int} (h : b ≤ 0 ∨ 3652058 < a) : fitL r s a b = [] := by
  unfold fitL
  rw [List.filter_eq_nil_iff]
  intro x hx
  have := ira_mem.1 hx
  simp; omega
theorem fitL_clip {r : Rl} {s a b : Int} (h : a ≤ b) (h0 : 0 ≤ b) (h1 : a ≤ 3652058) : fitL r s a (b + 1) = fitL r s (max a 0) (min b 3652058 + 1) := by
  have e1 : fitL r s a (b + 1) = fitL r s (max a 0) (b + 1) := by
    have : fitL r s a (b + 1) = fitL r s a (max a 0) ++ fitL r s (max a 0) (b + 1) := by
      unfold fitL; rw [← List.filter_append, ← ira_split (by omega) (by omega)]
    rw [this]
    by_cases ha : a ≤ 0
    · rw [fitL_out (by omega)]; rfl
    · rw [show max a 0 = a by omega]; unfold fitL; rw [ira_nil (by omega)]; rfl
  rw [e1]
  have : fitL r s (max a 0) (b + 1) = fitL r s (max a 0) (min b 3652058 + 1) ++ fitL r s (min b 3652058 + 1) (b + 1) := by
    unfold fitL; rw [← List.filter_append, ← ira_split (by omega) (by omega)]
  rw [this]
  by_cases hb : b ≤ 3652058
  · rw [show min b 3652058 = b by omega]; unfold fitL; rw [ira_nil (a := b + 1) (by omega)]; simp
  · rw [fitL_out (a := min b 3652058 + 1) (by omega), List.append_nil]
theorem fitL_mem {r : Rl} {s a b x : Int} (h : x ∈ fitL r s a b) : a ≤ x ∧ x < b ∧ 0 ≤ x ∧ x ≤ 3652058 := by
  unfold fitL at h
  rw [List.mem_filter] at h
  have := ira_mem.1 h.1
  have h2 := h.2
  simp at h2; omega
theorem fitL_asc (r : Rl) (s a b : Int) : (fitL r s a b).Pairwise (· < ·) := (ira_asc a b).filter _
theorem plL_mem {pl l : List Int} {k : Nat} {x : Int} (hk : k ≤ l.length) (h : x ∈ plL pl l k) : x ∈ l := by
  unfold plL at h
  rw [List.mem_map] at h
  obtain ⟨i, hi, rfl⟩ := h
  have := List.mem_range.1 (List.mem_filter.1 hi).1
  rw [List.getD_eq_getElem?_getD, List.getElem?_eq_getElem (by omega)]
  exact List.getElem_mem _
theorem choice_mem {r : Rl} {s a b x : Int} (h : x ∈ choice r s a b) : a ≤ x ∧ x ≤ b ∧ 0 ≤ x ∧ x ≤ 3652058 := by
  unfold choice at h
  split at h
  · have := fitL_mem h; omega
  · have := fitL_mem (plL_mem (Nat.le_refl _) h); omega
theorem plL_asc {pl l : List Int} (hl : l.Pairwise (· < ·)) : (plL pl l l.length).Pairwise (· < ·) := by
  unfold plL
  rw [List.pairwise_map]
  have h1 : (List.filter (plB pl l.length) (List.range l.length)).Pairwise (· < ·) := List.pairwise_lt_range.filter _
  refine List.Pairwise.imp_of_mem ?_ h1
  intro i j hi hj hij
  have h2 := List.mem_range.1 (List.mem_filter.1 hi).1
  have h3 := List.mem_range.1 (List.mem_filter.1 hj).1
  rw [List.getD_eq_getElem?_getD, List.getElem?_eq_getElem h2, List.getD_eq_getElem?_getD, List.getElem?_eq_getElem h3]
  exact List.pairwise_iff_getElem.1 hl i j h2 h3 hij
theorem choice_asc (r : Rl) (s a b : Int) : (choice r s a b).Pairwise (· < ·) := by
  unfold choice
  split
  · exact fitL_asc r s a (b + 1)
  · exact plL_asc (fitL_asc r s a (b + 1))
end Go.Proofs.Ytlhaldhfoeiohaa
