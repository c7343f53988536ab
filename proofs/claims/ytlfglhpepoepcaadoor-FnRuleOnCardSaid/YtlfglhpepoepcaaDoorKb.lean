/- Rules in plain numbers: periods, and all days on which something comes. -/
import Derived.Test.YtlfglhpepoepcaaDoorKa
namespace Go.Proofs.YtlfglhpepoepcaaDoor
open Go.RowKit
set_option linter.unusedVariables false

theorem date_ex {n : Int} (h0 : 0 ≤ n) (h1 : n ≤ 3652058) : okD (yOf n) (mOf n) (dOf n) = true ∧ num (yOf n) (mOf n) (dOf n) = n := by
  have l := findN_le (fun j => decide (n < fst ((j : Int) + 2))) 10000 0
  have e := findN_yes (fun j => decide (n < fst ((j : Int) + 2))) 10000 0 9998 (by omega) (by omega) (by
    simp only [decide_eq_true_eq]; have := fst_max; show n < fst (9998 + 2); rw [show (9998 : Int) + 2 = 10000 by omega]; omega)
  have hn := findN_no (fun j => decide (n < fst ((j : Int) + 2))) 10000 0
  simp only [decide_eq_true_eq] at e
  have hY : yOf n = ((findN (fun j => decide (n < fst ((j : Int) + 2))) 10000 0 : Nat) : Int) + 1 := rfl
  have hy1 : fst (yOf n) ≤ n := by
    by_cases h : findN (fun j => decide (n < fst ((j : Int) + 2))) 10000 0 = 0
    · have : yOf n = 1 := by rw [hY, h]; rfl
      rw [this]; unfold fst; omega
    · have := hn (findN (fun j => decide (n < fst ((j : Int) + 2))) 10000 0 - 1) (by omega) (by omega)
      simp only [decide_eq_false_iff_not] at this
      have h2 : (((findN (fun j => decide (n < fst ((j : Int) + 2))) 10000 0 - 1 : Nat) : Int) + 2) = yOf n := by omega
      rw [h2] at this; omega
  have hy2 : n < fst (yOf n + 1) := by
    have h2 : yOf n + 1 = ((findN (fun j => decide (n < fst ((j : Int) + 2))) 10000 0 : Nat) : Int) + 2 := by omega
    rw [h2]; exact e
  have hy3 : yOf n ≤ 9999 := by
    by_cases h : yOf n ≤ 9999
    · exact h
    · have := fst_mono 10000 (yOf n) (by omega) (by omega); have := fst_max; omega
  have hs := fst_succ (yOf n) (by omega)
  have l' := findN_le (fun j => decide (n - fst (yOf n) < cum (yOf n) ((j : Int) + 2))) 12 0
  have e' := findN_yes (fun j => decide (n - fst (yOf n) < cum (yOf n) ((j : Int) + 2))) 12 0 11 (by omega) (by omega) (by
    simp only [decide_eq_true_eq]; show n - fst (yOf n) < cum (yOf n) (11 + 2); rw [show (11 : Int) + 2 = 13 by omega, cum_13]; omega)
  have hn' := findN_no (fun j => decide (n - fst (yOf n) < cum (yOf n) ((j : Int) + 2))) 12 0
  simp only [decide_eq_true_eq] at e'
  have hM : mOf n = ((findN (fun j => decide (n - fst (yOf n) < cum (yOf n) ((j : Int) + 2))) 12 0 : Nat) : Int) + 1 := rfl
  have hm1 : cum (yOf n) (mOf n) ≤ n - fst (yOf n) := by
    by_cases h : findN (fun j => decide (n - fst (yOf n) < cum (yOf n) ((j : Int) + 2))) 12 0 = 0
    · have : mOf n = 1 := by rw [hM, h]; rfl
      rw [this, cum_one]; omega
    · have := hn' (findN (fun j => decide (n - fst (yOf n) < cum (yOf n) ((j : Int) + 2))) 12 0 - 1) (by omega) (by omega)
      simp only [decide_eq_false_iff_not] at this
      have h2 : (((findN (fun j => decide (n - fst (yOf n) < cum (yOf n) ((j : Int) + 2))) 12 0 - 1 : Nat) : Int) + 2) = mOf n := by omega
      rw [h2] at this; omega
  have hm2 : n - fst (yOf n) < cum (yOf n) (mOf n + 1) := by
    have h2 : mOf n + 1 = ((findN (fun j => decide (n - fst (yOf n) < cum (yOf n) ((j : Int) + 2))) 12 0 : Nat) : Int) + 2 := by omega
    rw [h2]; exact e'
  have hm3 : mOf n ≤ 12 := by
    by_cases h : mOf n ≤ 12
    · exact h
    · have h13 : mOf n = 13 := by omega
      rw [h13, cum_13] at hm1; omega
  have c := cum_succ (yOf n) (mOf n) (by omega) hm3
  refine ⟨(okD_iff _ _ _).2 ⟨by omega, hy3, by omega, hm3, ?_, ?_⟩, ?_⟩
  · unfold dOf; omega
  · unfold dOf; omega
  · unfold num dOf; omega

theorem mfirst_succ (y m : Int) (h0 : 1 ≤ m) (h1 : m ≤ 12) (hy : 1 ≤ y) : (if m = 12 then num (y + 1) 1 1 else num y (m + 1) 1) = num y m 1 + dim y m := by
  have c := cum_succ y m h0 h1
  split
  · rename_i h; subst h
    have := fst_succ y hy
    have c13 : cum y (12 + 1) = 365 + lp y := cum_13 y
    unfold num; rw [cum_one]; omega
  · unfold num; omega
/-- The first day of a month, months counted on and on. -/
def mfirst (q : Int) : Int := num (q / 12) (q % 12 + 1) 1
def mdim (q : Int) : Int := dim (q / 12) (q % 12 + 1)
theorem mfirst_next (q : Int) (h : 12 ≤ q) : mfirst (q + 1) = mfirst q + mdim q := by
  have := mfirst_succ (q / 12) (q % 12 + 1) (by omega) (by omega) (by omega)
  unfold mfirst mdim
  rw [← this]
  split
  · rename_i h'; rw [show (q + 1) / 12 = q / 12 + 1 by omega, show (q + 1) % 12 + 1 = 1 by omega]
  · rename_i h'; rw [show (q + 1) / 12 = q / 12 by omega, show (q + 1) % 12 + 1 = q % 12 + 1 + 1 by omega]
theorem mfirst_far (q : Int) (h : 12 ≤ q) (k : Nat) : mfirst q + mdim q + 28 * (k : Int) ≤ mfirst (q + 1 + k) := by
  induction k with
  | zero => simp [mfirst_next q h]
  | succ k ih =>
    rw [show q + 1 + ((k + 1 : Nat) : Int) = q + 1 + k + 1 by omega, mfirst_next _ (by omega)]
    have : 28 ≤ mdim (q + 1 + k) := (dim_bd _ _).1
    omega

/-- What is asked of a rule for its periods. -/
structure ROk (r : Rl) : Prop where
  f0 : 1 ≤ r.f
  f1 : r.f ≤ 4
  e0 : 1 ≤ r.ev
  e1 : r.ev ≤ 100
  c0 : 0 ≤ r.ct
  c1 : r.ct ≤ 500
  u0 : 0 ≤ r.un
  u1 : r.un ≤ 3652058
  w0 : 0 ≤ r.wk
  w1 : r.wk ≤ 6
theorem span_month {s n : Int} : num (yOf s + (mOf s - 1 + n) / 12) ((mOf s - 1 + n) % 12 + 1) 1 = mfirst (12 * yOf s + (mOf s - 1 + n)) ∧ dim (yOf s + (mOf s - 1 + n) / 12) ((mOf s - 1 + n) % 12 + 1) = mdim (12 * yOf s + (mOf s - 1 + n)) := by
  unfold mfirst mdim
  rw [show (12 * yOf s + (mOf s - 1 + n)) / 12 = yOf s + (mOf s - 1 + n) / 12 by omega, show (12 * yOf s + (mOf s - 1 + n)) % 12 = (mOf s - 1 + n) % 12 by omega]
  exact ⟨rfl, rfl⟩
theorem span_next {r : Rl} (hr : ROk r) {s n n' : Int} (h0 : 0 ≤ s) (h1 : s ≤ 3652058) (hn : 0 ≤ n) (h : n < n') : spanL r s n < spanF r s n' := by
  have hd := date_ex h0 h1
  obtain ⟨a0, a1, a2, a3, a4, a5⟩ := (okD_iff _ _ _).1 hd.1
  have f0 := hr.f0; have f1 := hr.f1
  unfold spanL spanF
  by_cases e1 : r.f = 1
  · rw [if_pos e1, if_pos e1]; omega
  rw [if_neg e1, if_neg e1]
  by_cases e2 : r.f = 2
  · rw [if_pos e2, if_pos e2]; omega
  rw [if_neg e2, if_neg e2]
  by_cases e3 : r.f = 3
  · rw [if_pos e3, if_pos e3, span_month.1, span_month.2, span_month.1]
    have := mfirst_far (12 * yOf s + (mOf s - 1 + n)) (by omega) (n' - n - 1).toNat
    rw [show 12 * yOf s + (mOf s - 1 + n) + 1 + (((n' - n - 1).toNat : Nat) : Int) = 12 * yOf s + (mOf s - 1 + n') by omega] at this
    omega
  · rw [if_neg e3, if_neg e3]
    have := fst_mono (yOf s + n + 1) (yOf s + n') (by omega) (by omega)
    omega
theorem span_len {r : Rl} (hr : ROk r) {s n : Int} (h0 : 0 ≤ s) (h1 : s ≤ 3652058) (hn : 0 ≤ n) : spanF r s n ≤ spanL r s n ∧ spanL r s n ≤ spanF r s n + 365 := by
  have hd := date_ex h0 h1
  obtain ⟨a0, a1, a2, a3, a4, a5⟩ := (okD_iff _ _ _).1 hd.1
  have f0 := hr.f0; have f1 := hr.f1
  unfold spanL spanF
  by_cases e1 : r.f = 1
  · rw [if_pos e1, if_pos e1]; omega
  rw [if_neg e1, if_neg e1]
  by_cases e2 : r.f = 2
  · rw [if_pos e2, if_pos e2]; omega
  rw [if_neg e2, if_neg e2]
  by_cases e3 : r.f = 3
  · rw [if_pos e3, if_pos e3]
    have := dim_bd (yOf s + (mOf s - 1 + n) / 12) ((mOf s - 1 + n) % 12 + 1)
    omega
  · rw [if_neg e3, if_neg e3]
    have := fst_succ (yOf s + n) (by omega)
    have := lp_01 (yOf s + n)
    omega
theorem span_zero {r : Rl} (hr : ROk r) {s : Int} (h0 : 0 ≤ s) (h1 : s ≤ 3652058) : spanF r s 0 ≤ s ∧ s ≤ spanL r s 0 ∧ -6 ≤ spanF r s 0 := by
  have hd := date_ex h0 h1
  have hy := num_year hd.1
  obtain ⟨a0, a1, a2, a3, a4, a5⟩ := (okD_iff _ _ _).1 hd.1
  have f0 := hr.f0; have f1 := hr.f1; have w0 := hr.w0; have w1 := hr.w1
  rw [hd.2] at hy
  unfold spanL spanF
  by_cases e1 : r.f = 1
  · rw [if_pos e1, if_pos e1]; omega
  rw [if_neg e1, if_neg e1]
  by_cases e2 : r.f = 2
  · rw [if_pos e2, if_pos e2]; omega
  rw [if_neg e2, if_neg e2]
  by_cases e3 : r.f = 3
  · rw [if_pos e3, if_pos e3]
    rw [show (mOf s - 1 + 0) / 12 = 0 by omega, show (mOf s - 1 + 0) % 12 + 1 = mOf s by omega, Int.add_zero]
    have e := hd.2
    have c := cum_bd (yOf s) (mOf s) a2 (by omega)
    have fb := fst_bd (yOf s) a0 (by omega)
    unfold num at e ⊢
    omega
  · rw [if_neg e3, if_neg e3]
    have fb := fst_bd (yOf s) a0 (by omega)
    rw [Int.add_zero]; omega
theorem span_grow {r : Rl} (hr : ROk r) {s : Int} (h0 : 0 ≤ s) (h1 : s ≤ 3652058) (n : Nat) : (n : Int) - 6 ≤ spanF r s n := by
  induction n with
  | zero => have := span_zero hr h0 h1; simp only [Int.natCast_zero] at *; omega
  | succ n ih =>
    have := span_next hr h0 h1 (n := n) (n' := ((n + 1 : Nat) : Int)) (by omega) (by omega)
    have := span_len hr h0 h1 (n := n) (by omega)
    omega

/-- How many periods there are that begin by a day. -/
def perP (r : Rl) (s to : Int) (j : Nat) : Bool := decide (to < spanF r s (j * r.ev) ∨ 3652058 < spanF r s (j * r.ev))
def perN (r : Rl) (s to : Int) : Nat := findN (perP r s to) 3652100 0
theorem perN_in {r : Rl} {s to : Int} {j : Nat} (h : j < perN r s to) : spanF r s (j * r.ev) ≤ to ∧ spanF r s (j * r.ev) ≤ 3652058 := by
  have := findN_no (perP r s to) 3652100 0 j (by omega) h
  unfold perP at this
  simp only [decide_eq_false_iff_not] at this
  omega
theorem perN_out {r : Rl} (hr : ROk r) {s to : Int} (h0 : 0 ≤ s) (h1 : s ≤ 3652058) : to < spanF r s ((perN r s to : Nat) * r.ev) ∨ 3652058 < spanF r s ((perN r s to : Nat) * r.ev) := by
  have e0 := hr.e0
  have := findN_yes (perP r s to) 3652100 0 3652090 (by omega) (by omega) (by
    unfold perP
    simp only [decide_eq_true_eq]
    right
    have h2 := span_grow hr h0 h1 (3652090 * r.ev).toNat
    rw [show (((3652090 * r.ev).toNat : Nat) : Int) = 3652090 * r.ev by omega] at h2
    show (3652058 : Int) < spanF r s (3652090 * r.ev)
    omega)
  unfold perP at this
  simp only [decide_eq_true_eq] at this
  exact this
theorem perN_le (r : Rl) (s to : Int) : perN r s to ≤ 3652100 := by have := findN_le (perP r s to) 3652100 0; unfold perN; omega
theorem perN_eq {r : Rl} (hr : ROk r) {s to : Int} (h0 : 0 ≤ s) (h1 : s ≤ 3652058) {j : Nat} (hj : j ≤ perN r s to) (h : to < spanF r s (j * r.ev) ∨ 3652058 < spanF r s (j * r.ev)) : j = perN r s to := by
  rcases Nat.lt_or_ge j (perN r s to) with h' | h'
  · have := perN_in h'; omega
  · omega
/-- The days of the first so many periods. -/
def chJ (r : Rl) (s : Int) (j : Nat) : List Int := choice r s (spanF r s (j * r.ev)) (spanL r s (j * r.ev))
def AL (r : Rl) (s : Int) (k : Nat) : List Int := (List.range k).flatMap (chJ r s)
theorem AL_zero (r : Rl) (s : Int) : AL r s 0 = [] := rfl
theorem AL_succ (r : Rl) (s : Int) (k : Nat) : AL r s (k + 1) = AL r s k ++ chJ r s k := by simp [AL, List.range_succ]
theorem AL_mem {r : Rl} (hr : ROk r) {s x : Int} {k : Nat} (h0 : 0 ≤ s) (h1 : s ≤ 3652058) (h : x ∈ AL r s k) : x < spanF r s (k * r.ev) ∧ 0 ≤ x ∧ x ≤ 3652058 := by
  unfold AL at h
  rw [List.mem_flatMap] at h
  obtain ⟨j, hj, hx⟩ := h
  have hj := List.mem_range.1 hj
  have hc := choice_mem hx
  have e0 := hr.e0
  have : spanL r s (j * r.ev) < spanF r s (k * r.ev) := span_next hr h0 h1 (Int.mul_nonneg (by omega) (by omega)) (Int.mul_lt_mul_of_pos_right (by omega) (by omega))
  omega
theorem AL_asc {r : Rl} (hr : ROk r) {s : Int} (h0 : 0 ≤ s) (h1 : s ≤ 3652058) (k : Nat) : (AL r s k).Pairwise (· < ·) := by
  induction k with
  | zero => exact List.Pairwise.nil
  | succ k ih =>
    rw [AL_succ, List.pairwise_append]
    refine ⟨ih, choice_asc _ _ _ _, fun x hx y hy => ?_⟩
    have := AL_mem hr h0 h1 hx
    have := choice_mem hy
    omega
theorem AL_pre (r : Rl) (s : Int) {j k : Nat} (h : j < k) : ∃ Y, AL r s k = AL r s j ++ chJ r s j ++ Y := by
  obtain ⟨m, rfl⟩ : ∃ m, k = j + 1 + m := ⟨k - j - 1, by omega⟩
  induction m with
  | zero => exact ⟨[], by rw [Nat.add_zero, AL_succ, List.append_nil]⟩
  | succ m ih =>
    obtain ⟨Y, hY⟩ := ih (by omega)
    exact ⟨Y ++ chJ r s (j + 1 + m), by rw [show j + 1 + (m + 1) = j + 1 + m + 1 by omega, AL_succ, hY, List.append_assoc]⟩

/-- Of days, those from one to another one. -/
def XF (s to : Int) (l : List Int) : List Int := l.filter fun d => decide (s ≤ d ∧ d ≤ to)
theorem XF_append (s to : Int) (l m : List Int) : XF s to (l ++ m) = XF s to l ++ XF s to m := by simp [XF]
theorem XF_yes {s to d : Int} {l : List Int} (h0 : s ≤ d) (h1 : d ≤ to) : XF s to (l ++ [d]) = XF s to l ++ [d] := by simp [XF, h0, h1]
theorem XF_no {s to d : Int} {l : List Int} (h : ¬ (s ≤ d ∧ d ≤ to)) : XF s to (l ++ [d]) = XF s to l := by simp [XF]; omega
theorem XF_stop {s to y : Int} {X Y L : List Int} (hL : L = X ++ y :: Y) (ha : L.Pairwise (· < ·)) (hy : to < y) : XF s to L = XF s to X := by
  subst hL
  rw [XF_append]
  have : XF s to (y :: Y) = [] := by
    unfold XF
    rw [List.filter_eq_nil_iff]
    intro x hx
    have h2 := (List.pairwise_append.1 ha).2.1
    rw [List.pairwise_cons] at h2
    rcases List.mem_cons.1 hx with rfl | hx
    · simp; omega
    · have := h2.1 x hx; simp; omega
  rw [this, List.append_nil]
/-- All days on which something comes, up to one. -/
def comes (r : Rl) (s to : Int) : List Int := XF s to (AL r s (perN r s to))
theorem comes_asc {r : Rl} (hr : ROk r) {s to : Int} (h0 : 0 ≤ s) (h1 : s ≤ 3652058) : (comes r s to).Pairwise (· < ·) := (AL_asc hr h0 h1 _).filter _
theorem comes_mem {r : Rl} {s to x : Int} (h : x ∈ comes r s to) : s ≤ x ∧ x ≤ to := by
  unfold comes XF at h
  have := (List.mem_filter.1 h).2
  simpa using this
theorem asc_len : ∀ (l : List Int) (a b : Int), l.Pairwise (· < ·) → (∀ x ∈ l, a ≤ x ∧ x ≤ b) → l.length ≤ (b + 1 - a).toNat
  | [], _, _, _, _ => Nat.zero_le _
  | x :: l, a, b, h, hm => by
    rw [List.pairwise_cons] at h
    have := asc_len l (x + 1) b h.2 (fun y hy => by have := h.1 y hy; have := hm y (List.mem_cons_of_mem _ hy); omega)
    have := hm x (List.mem_cons_self ..)
    simp only [List.length_cons]; omega
theorem comes_len {r : Rl} (hr : ROk r) {s to : Int} (h0 : 0 ≤ s) (h1 : s ≤ 3652058) : (comes r s to).length ≤ (to + 1 - s).toNat :=
  asc_len _ s to (comes_asc hr h0 h1) fun x hx => comes_mem hx
/-- The first so many, or all, if that is 0. -/
def tk (ct : Int) (l : List Int) : List Int := if ct = 0 then l else l.take ct.toNat
/-- The last day that is asked. -/
def limT (r : Rl) (to : Int) : Int := if 0 < r.un ∧ r.un < to then r.un else to
/-- What comes from a day to another one. -/
def coming (r : Rl) (s from_ to : Int) : List Int := (tk r.ct (comes r s (limT r to))).filter fun d => decide (from_ ≤ d)
end Go.Proofs.YtlfglhpepoepcaaDoor
