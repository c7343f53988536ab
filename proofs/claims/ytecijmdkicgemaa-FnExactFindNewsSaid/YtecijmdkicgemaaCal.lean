/- The calendar in plain numbers: no Go text stands here. -/
import Derived.Below
namespace Go.Proofs.Ytecijmdkicgemaa
set_option linter.unusedVariables false

/-- Is a year a leap year? -/
def lpB (y : Int) : Bool := decide (y % 4 = 0 ∧ (¬ y % 100 = 0 ∨ y % 400 = 0))
def lp (y : Int) : Int := if lpB y = true then 1 else 0
theorem lp_yes {y : Int} (h : lpB y = true) : lp y = 1 := by unfold lp; rw [if_pos h]
theorem lp_no {y : Int} (h : lpB y = false) : lp y = 0 := by unfold lp; rw [if_neg (by rw [h]; exact Bool.false_ne_true)]
theorem lp_01 (y : Int) : 0 ≤ lp y ∧ lp y ≤ 1 := by unfold lp; split <;> omega
theorem lpB_iff (y : Int) : lpB y = true ↔ (y % 4 = 0 ∧ (¬ y % 100 = 0 ∨ y % 400 = 0)) := by unfold lpB; exact decide_eq_true_iff
theorem lpB_not (y : Int) : lpB y = false ↔ ¬ (y % 4 = 0 ∧ (¬ y % 100 = 0 ∨ y % 400 = 0)) := by unfold lpB; exact decide_eq_false_iff_not

/-- How many days a month has. -/
def dim (y m : Int) : Int := if m = 2 then 28 + lp y else if m = 4 ∨ m = 6 ∨ m = 9 ∨ m = 11 then 30 else 31
theorem dim_bd (y m : Int) : 28 ≤ dim y m ∧ dim y m ≤ 31 := by
  have := lp_01 y
  unfold dim; split
  · omega
  · split <;> omega

/-- The number of the first day of a year. -/
def fst (y : Int) : Int := 365 * (y - 1) + (y - 1) / 4 - (y - 1) / 100 + (y - 1) / 400
theorem fst_bd (y : Int) (h0 : 1 ≤ y) (h1 : y ≤ 10000) : 0 ≤ fst y ∧ fst y ≤ 3652059 := by unfold fst; omega
theorem fst_succ (y : Int) (h : 1 ≤ y) : fst (y + 1) = fst y + 365 + lp y := by
  have hl := lpB_iff y
  cases hb : lpB y with
  | true => rw [lp_yes hb]; have := hl.1 hb; unfold fst; omega
  | false => rw [lp_no hb]; have := (lpB_not y).1 hb; unfold fst; omega
theorem fst_mono (a b : Int) (h0 : 1 ≤ a) (h : a ≤ b) : fst a ≤ fst b := by unfold fst; omega
theorem fst_max : fst 10000 = 3652059 := by decide

/-- How many days a year has ahead of a month. -/
def cum (y m : Int) : Int :=
  if m ≤ 1 then 0 else if m = 2 then 31 else if m = 3 then 59 + lp y else if m = 4 then 90 + lp y else if m = 5 then 120 + lp y else if m = 6 then 151 + lp y else if m = 7 then 181 + lp y
  else if m = 8 then 212 + lp y else if m = 9 then 243 + lp y else if m = 10 then 273 + lp y else if m = 11 then 304 + lp y else if m = 12 then 334 + lp y else 365 + lp y
theorem twelve {m : Int} (h0 : 1 ≤ m) (h1 : m ≤ 12) : m = 1 ∨ m = 2 ∨ m = 3 ∨ m = 4 ∨ m = 5 ∨ m = 6 ∨ m = 7 ∨ m = 8 ∨ m = 9 ∨ m = 10 ∨ m = 11 ∨ m = 12 := by omega
theorem cum_succ (y m : Int) (h0 : 1 ≤ m) (h1 : m ≤ 12) : cum y (m + 1) = cum y m + dim y m := by
  rcases twelve h0 h1 with rfl | rfl | rfl | rfl | rfl | rfl | rfl | rfl | rfl | rfl | rfl | rfl <;> simp [cum, dim] <;> omega
theorem cum_one (y : Int) : cum y 1 = 0 := by simp [cum]
theorem cum_13 (y : Int) : cum y 13 = 365 + lp y := by simp [cum]
theorem cum_bd (y m : Int) (h0 : 1 ≤ m) (h1 : m ≤ 13) : 0 ≤ cum y m ∧ cum y m ≤ 366 := by
  have := lp_01 y
  by_cases h : m = 13
  · subst h; rw [cum_13]; omega
  · rcases twelve h0 (by omega) with rfl | rfl | rfl | rfl | rfl | rfl | rfl | rfl | rfl | rfl | rfl | rfl <;> simp [cum] <;> omega
theorem cum_mono (y a b : Int) (h0 : 1 ≤ a) (h : a ≤ b) (h1 : b ≤ 13) : cum y a ≤ cum y b := by
  have l := lp_01 y
  have aux : ∀ n : Nat, ∀ b : Int, b = a + n → b ≤ 13 → cum y a ≤ cum y b := by
    intro n
    induction n with
    | zero => intro b hb _; have : b = a := by omega
              rw [this]; exact Int.le_refl _
    | succ n ih =>
      intro b hb hb1
      have h2 := ih (b - 1) (by omega) (by omega)
      have h3 := cum_succ y (b - 1) (by omega) (by omega)
      have h4 := dim_bd y (b - 1)
      rw [show b - 1 + 1 = b from by omega] at h3
      omega
  exact aux (b - a).toNat b (by omega) h1

/-- The number of a day. -/
def num (y m d : Int) : Int := fst y + cum y m + d - 1
/-- There is such a date. -/
def okD (y m d : Int) : Bool := decide (1 ≤ y ∧ y ≤ 9999 ∧ 1 ≤ m ∧ m ≤ 12 ∧ 1 ≤ d ∧ d ≤ dim y m)
theorem okD_iff (y m d : Int) : okD y m d = true ↔ (1 ≤ y ∧ y ≤ 9999 ∧ 1 ≤ m ∧ m ≤ 12 ∧ 1 ≤ d ∧ d ≤ dim y m) := by unfold okD; exact decide_eq_true_iff
theorem okD_not (y m d : Int) : okD y m d = false ↔ ¬ (1 ≤ y ∧ y ≤ 9999 ∧ 1 ≤ m ∧ m ≤ 12 ∧ 1 ≤ d ∧ d ≤ dim y m) := by unfold okD; exact decide_eq_false_iff_not
theorem num_year {y m d : Int} (h : okD y m d = true) : fst y ≤ num y m d ∧ num y m d < fst (y + 1) := by
  obtain ⟨a, b, c, e, f, g⟩ := (okD_iff y m d).1 h
  have h1 := cum_bd y m c (by omega)
  have h2 := cum_succ y m c e
  have h3 := cum_mono y (m + 1) 13 (by omega) (by omega) (by omega)
  have h4 := cum_13 y
  have h5 := fst_succ y a
  unfold num; omega
theorem num_bd {y m d : Int} (h : okD y m d = true) : 0 ≤ num y m d ∧ num y m d ≤ 3652058 := by
  have h1 := num_year h
  obtain ⟨a, b, _⟩ := (okD_iff y m d).1 h
  have h2 := fst_bd y a (by omega)
  have h3 := fst_mono (y + 1) 10000 (by omega) (by omega)
  have h4 := fst_max
  omega
/-- Each date has one number. -/
theorem num_inj {y m d y' m' d' : Int} (h : okD y m d = true) (h' : okD y' m' d' = true) (e : num y m d = num y' m' d') : y = y' ∧ m = m' ∧ d = d' := by
  have n1 := num_year h
  have n2 := num_year h'
  obtain ⟨a, b, c, f, g, i⟩ := (okD_iff y m d).1 h
  obtain ⟨a', b', c', f', g', i'⟩ := (okD_iff y' m' d').1 h'
  have hy : y = y' := by
    rcases Int.lt_trichotomy y y' with hl | hl | hl
    · have := fst_mono (y + 1) y' (by omega) (by omega); omega
    · exact hl
    · have := fst_mono (y' + 1) y (by omega) (by omega); omega
  subst hy
  have hm : m = m' := by
    unfold num at e
    have s1 := cum_succ y m c f
    have s2 := cum_succ y m' c' f'
    rcases Int.lt_trichotomy m m' with hl | hl | hl
    · have := cum_mono y (m + 1) m' (by omega) (by omega) (by omega); omega
    · exact hl
    · have := cum_mono y (m' + 1) m (by omega) (by omega) (by omega); omega
  subst hm
  unfold num at e
  exact ⟨rfl, rfl, by omega⟩

theorem fst_cyc (A B C D y : Int) (hA : 0 ≤ A) (hB0 : 0 ≤ B) (hB3 : B ≤ 3) (hC0 : 0 ≤ C) (hC1 : C ≤ 24) (hD0 : 0 ≤ D) (hD3 : D ≤ 3) (hy : y = 400 * A + 100 * B + 4 * C + D + 1) :
    fst y = 146097 * A + 36524 * B + 1461 * C + 365 * D := by
  have e1 : (y - 1) / 4 = 100 * A + 25 * B + C := by omega
  have e2 : (y - 1) / 100 = 4 * A + B := by omega
  have e3 : (y - 1) / 400 = A := by omega
  unfold fst; rw [e1, e2, e3]; omega
theorem leap_cyc (A B C y : Int) (hB0 : 0 ≤ B) (hB3 : B ≤ 3) (hC0 : 0 ≤ C) (hC1 : C ≤ 24) (hy : y = 400 * A + 100 * B + 4 * C + 4) (h : C = 24 → B = 3) : lpB y = true := by
  refine (lpB_iff y).2 ⟨by omega, ?_⟩
  by_cases hc : C = 24
  · have := h hc; right; omega
  · left; omega
/-- The year of a day, by whole cycles. -/
theorem year_fit (n A R B S C T D y : Int) (hA : 0 ≤ A) (hn : n = 146097 * A + R) (hR0 : 0 ≤ R) (hR1 : R < 146097) (hB0 : 0 ≤ B) (hB3 : B ≤ 3) (hB1 : 36524 * B ≤ R) (hB2 : B < 3 → R < 36524 * (B + 1))
    (hS : S = R - 36524 * B) (hT : S = 1461 * C + T) (hT0 : 0 ≤ T) (hT1 : T < 1461) (hD0 : 0 ≤ D) (hD3 : D ≤ 3) (hD1 : 365 * D ≤ T) (hD2 : D < 3 → T < 365 * (D + 1)) (hy : y = 400 * A + 100 * B + 4 * C + D + 1) :
    1 ≤ y ∧ fst y ≤ n ∧ n < fst (y + 1) := by
  have hC0 : 0 ≤ C := by omega
  have hC1 : C ≤ 24 := by omega
  have b3 : C = 24 → B = 3 ∨ T < 1460 := by
    intro hc
    by_cases hb : B < 3
    · have := hB2 hb; omega
    · omega
  have d3 : D = 3 ∨ T < 365 * (D + 1) := by
    by_cases hd : D < 3
    · exact .inr (hD2 hd)
    · left; omega
  clear hB2 hD2
  have hy1 : 1 ≤ y := by omega
  have ef := fst_cyc A B C D y hA hB0 hB3 hC0 hC1 hD0 hD3 hy
  have es := fst_succ y hy1
  have l := lp_01 y
  refine ⟨hy1, by omega, ?_⟩
  rcases d3 with rfl | d3
  · by_cases ht : T < 1460
    · omega
    · have hl := leap_cyc A B C y hB0 hB3 hC0 hC1 (by omega) (fun hc => by have := b3 hc; omega)
      rw [lp_yes hl] at es
      omega
  · omega
theorem year_ll (n : Int) (h0 : 0 ≤ n) (h1 : n ≤ 4000000) (a : 3 < n % 146097 / 36524) (b : 3 < (n % 146097 - 109572) % 1461 / 365) :
    ∀ y, y = n / 146097 * 400 + 300 + (n % 146097 - 109572) / 1461 * 4 + 3 + 1 → 1 ≤ y ∧ y ≤ 20000 ∧ fst y ≤ n ∧ n < fst (y + 1) := fun y hy => by
  have h := year_fit n (n / 146097) (n % 146097) 3 (n % 146097 - 109572) ((n % 146097 - 109572) / 1461) ((n % 146097 - 109572) % 1461) 3 y (by omega) (by omega) (by omega) (by omega) (by omega) (by omega) (by omega) (by omega) (by omega) (by omega) (by omega) (by omega) (by omega) (by omega) (by omega) (by omega) (by omega)
  exact ⟨h.1, by omega, h.2.1, h.2.2⟩
theorem year_lg (n : Int) (h0 : 0 ≤ n) (h1 : n ≤ 4000000) (a : 3 < n % 146097 / 36524) (b : (n % 146097 - 109572) % 1461 / 365 ≤ 3) :
    ∀ y, y = n / 146097 * 400 + 300 + (n % 146097 - 109572) / 1461 * 4 + (n % 146097 - 109572) % 1461 / 365 + 1 → 1 ≤ y ∧ y ≤ 20000 ∧ fst y ≤ n ∧ n < fst (y + 1) := fun y hy => by
  have h := year_fit n (n / 146097) (n % 146097) 3 (n % 146097 - 109572) ((n % 146097 - 109572) / 1461) ((n % 146097 - 109572) % 1461) ((n % 146097 - 109572) % 1461 / 365) y (by omega) (by omega) (by omega) (by omega) (by omega) (by omega) (by omega) (by omega) (by omega) (by omega) (by omega) (by omega) (by omega) (by omega) (by omega) (by omega) (by omega)
  exact ⟨h.1, by omega, h.2.1, h.2.2⟩
theorem year_gl (n : Int) (h0 : 0 ≤ n) (h1 : n ≤ 4000000) (a : n % 146097 / 36524 ≤ 3) (b : 3 < (n % 146097 - n % 146097 / 36524 * 36524) % 1461 / 365) :
    ∀ y, y = n / 146097 * 400 + n % 146097 / 36524 * 100 + (n % 146097 - n % 146097 / 36524 * 36524) / 1461 * 4 + 3 + 1 → 1 ≤ y ∧ y ≤ 20000 ∧ fst y ≤ n ∧ n < fst (y + 1) := fun y hy => by
  have h := year_fit n (n / 146097) (n % 146097) (n % 146097 / 36524) (n % 146097 - n % 146097 / 36524 * 36524) ((n % 146097 - n % 146097 / 36524 * 36524) / 1461) ((n % 146097 - n % 146097 / 36524 * 36524) % 1461) 3 y (by omega) (by omega) (by omega) (by omega) (by omega) (by omega) (by omega) (by omega) (by omega) (by omega) (by omega) (by omega) (by omega) (by omega) (by omega) (by omega) (by omega)
  exact ⟨h.1, by omega, h.2.1, h.2.2⟩
theorem year_gg (n : Int) (h0 : 0 ≤ n) (h1 : n ≤ 4000000) (a : n % 146097 / 36524 ≤ 3) (b : (n % 146097 - n % 146097 / 36524 * 36524) % 1461 / 365 ≤ 3) :
    ∀ y, y = n / 146097 * 400 + n % 146097 / 36524 * 100 + (n % 146097 - n % 146097 / 36524 * 36524) / 1461 * 4 + (n % 146097 - n % 146097 / 36524 * 36524) % 1461 / 365 + 1 → 1 ≤ y ∧ y ≤ 20000 ∧ fst y ≤ n ∧ n < fst (y + 1) := fun y hy => by
  have h := year_fit n (n / 146097) (n % 146097) (n % 146097 / 36524) (n % 146097 - n % 146097 / 36524 * 36524) ((n % 146097 - n % 146097 / 36524 * 36524) / 1461) ((n % 146097 - n % 146097 / 36524 * 36524) % 1461) ((n % 146097 - n % 146097 / 36524 * 36524) % 1461 / 365) y (by omega) (by omega) (by omega) (by omega) (by omega) (by omega) (by omega) (by omega) (by omega) (by omega) (by omega) (by omega) (by omega) (by omega) (by omega) (by omega) (by omega)
  exact ⟨h.1, by omega, h.2.1, h.2.2⟩
/-- The year of a day is one. -/
theorem year_uniq {n y z : Int} (hy : 1 ≤ y) (hz : 1 ≤ z) (a : fst y ≤ n) (b : n < fst (y + 1)) (c : fst z ≤ n) (d : n < fst (z + 1)) : y = z := by
  rcases Int.lt_trichotomy y z with hl | hl | hl
  · have := fst_mono (y + 1) z (by omega) (by omega); omega
  · exact hl
  · have := fst_mono (z + 1) y (by omega) (by omega); omega
end Go.Proofs.Ytecijmdkicgemaa
