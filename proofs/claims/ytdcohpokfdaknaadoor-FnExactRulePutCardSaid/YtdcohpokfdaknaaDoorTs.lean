/- A time as a text: the specification's and the program's. -/
import Derived.Test.YtdcohpokfdaknaaDoorTr
import Derived.Test.YtdcohpokfdaknaaDoorZn
namespace Go.Proofs.YtdcohpokfdaknaaDoor
open Go.RowKit
set_option linter.unusedVariables false
theorem year_ex (n : Int) (h0 : 0 ≤ n) (k : Nat) (hk : n < fst ((k : Int) + 1)) : ∃ y : Int, 1 ≤ y ∧ y ≤ k ∧ fst y ≤ n ∧ n < fst (y + 1) := by
  induction k with
  | zero => exact absurd hk (by have : fst (((0 : Nat) : Int) + 1) = 0 := by decide
                                omega)
  | succ k ih =>
    by_cases h : n < fst ((k : Int) + 1)
    · obtain ⟨y, a, b, c, d⟩ := ih h
      exact ⟨y, a, by omega, c, d⟩
    · exact ⟨(k : Int) + 1, by omega, by omega, by omega, by simpa using hk⟩
theorem month_ex (y r : Int) (h0 : 0 ≤ r) (k : Nat) (hk : r < cum y ((k : Int) + 1)) : ∃ m : Int, 1 ≤ m ∧ m ≤ k ∧ cum y m ≤ r ∧ r < cum y (m + 1) := by
  induction k with
  | zero => exact absurd hk (by have := cum_one y; simp at hk ⊢; omega)
  | succ k ih =>
    by_cases h : r < cum y ((k : Int) + 1)
    · obtain ⟨m, a, b, c, d⟩ := ih h
      exact ⟨m, a, by omega, c, d⟩
    · exact ⟨(k : Int) + 1, by omega, by omega, by omega, by simpa using hk⟩
/-- Each day has a date. -/
theorem date_ex (n : Int) (h0 : 0 ≤ n) (h1 : n ≤ 3652058) : ∃ y m d : Int, okD y m d = true ∧ num y m d = n := by
  obtain ⟨y, y0, y1, y2, y3⟩ := year_ex n h0 9999 (by have := fst_max; simp; omega)
  have e := fst_succ y y0
  have c13 := cum_13 y
  obtain ⟨m, m0, m1, m2, m3⟩ := month_ex y (n - fst y) (by omega) 12 (by simp; omega)
  have cs := cum_succ y m m0 (by omega)
  refine ⟨y, m, n - fst y - cum y m + 1, (okD_iff _ _ _).2 ⟨y0, by omega, m0, by omega, by omega, by omega⟩, ?_⟩
  unfold num
  omega
theorem specDate_num (n y m d : Int) (w : World) (ok : okD y m d = true) (hn : num y m d = n) :
    Calls Tryd.prog 32 #[.int .i64 n] w fun e w' => e = .returned (.agg #[.int .i64 y, .int .i64 m, .int .i64 d]) ∧ Below w.heap.size w w' := by
  have hb := num_bd ok
  refine (specDate n w (by omega) (by omega)).mono fun e w' hh => ⟨?_, hh.2⟩
  obtain ⟨⟨y', m', d', he, ok', hn'⟩, _⟩ := hh
  obtain ⟨rfl, rfl, rfl⟩ := num_inj ok ok' (hn.trans hn'.symm)
  exact he
theorem implDateOf_n (n y m d : Int) (w : World) (ht : Tab w) (ok : okD y m d = true) (hn : num y m d = n) :
    Calls Tryd.prog 20 #[.int .i64 n] w fun e w' => e = .returned (.agg #[.int .i64 y, .int .i64 m, .int .i64 d]) ∧ Below w.heap.size w w' := by
  have hb := num_bd ok
  refine (implDateOf_yes n w ht (by omega) (by omega)).mono fun e w' hh => ⟨?_, hh.2⟩
  obtain ⟨⟨y', m', d', he, ok', hn'⟩, _⟩ := hh
  obtain ⟨rfl, rfl, rfl⟩ := num_inj ok ok' (hn.trans hn'.symm)
  exact he
theorem dateT_size {y m d : Nat} (hy : y < 10000) (hm : m < 100) (hd : d < 100) : (dateT y m d).size = 10 := by
  unfold dateT; simp only [ByteArray.size_append, dash_size, pad_size (dec_4 hy), pad_size (dec_2 hm), pad_size (dec_2 hd)]
/-- A time as a text. -/
def timeT (y m d h n : Nat) : ByteArray := dateT y m d ++ ⟨#[84]⟩ ++ pad h 2 ++ ⟨#[58]⟩ ++ pad n 2
end Go.Proofs.YtdcohpokfdaknaaDoor
