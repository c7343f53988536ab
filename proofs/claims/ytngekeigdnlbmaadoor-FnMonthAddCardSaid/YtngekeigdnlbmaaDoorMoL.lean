/- Facts on months added, for FnMonthAdd. -/
import Derived.Test.YtngekeigdnlbmaaDoorMoC
namespace Go.Proofs.YtngekeigdnlbmaaDoor
open Go.RowKit
set_option linter.unusedVariables false
/-- What MonthAdd answers is just so many months later. -/
theorem ma_months {y m d n : Int} (h : moB y m d n = true) : (maY y m d n - y) * 12 + maM y m d n - m = n := by
  rw [(ma_yes h).1, (ma_yes h).2.1]
  unfold moY moM mon
  omega
/-- It is on the same day, or on the month's last, which is ahead of it. -/
theorem ma_day {y m d n : Int} (h : moB y m d n = true) : maD y m d n = d ∨ maD y m d n < d ∧ maD y m d n = dim (maY y m d n) (maM y m d n) := by
  obtain ⟨e1, e2, e3⟩ := ma_yes h
  rw [e1, e2, e3]
  unfold moD
  split <;> omega
theorem moB_of {y m d n : Int} (h : okD y m d = true) (h0 : -120000 ≤ n) (h1 : n ≤ 120000) (h2 : 0 ≤ mon y m n) (h3 : mon y m n < 119988) : moB y m d n = true := moB_yes h ⟨h0, h1, h2, h3⟩
theorem ma_zero {y m d : Int} (h : okD y m d = true) : maY y m d 0 = y ∧ maM y m d 0 = m ∧ maD y m d 0 = d := by
  obtain ⟨a, b, c, e, f, g⟩ := (okD_iff _ _ _).1 h
  have hb : moB y m d 0 = true := moB_of h (by omega) (by omega) (by unfold mon; omega) (by unfold mon; omega)
  obtain ⟨e1, e2, e3⟩ := ma_yes hb
  have k1 : moY (mon y m 0) = y := by unfold moY mon; omega
  have k2 : moM (mon y m 0) = m := by unfold moM mon; omega
  refine ⟨by rw [e1, k1], by rw [e2, k2], ?_⟩
  rw [e3]
  unfold moD
  rw [k1, k2]
  split <;> omega
theorem ma_year {y m d : Int} (h : okD y m d = true) (hy : y < 9999) : maY y m d 12 = y + 1 ∧ maM y m d 12 = m := by
  obtain ⟨a, b, c, e, f, g⟩ := (okD_iff _ _ _).1 h
  have hb : moB y m d 12 = true := moB_of h (by omega) (by omega) (by unfold mon; omega) (by unfold mon; omega)
  obtain ⟨e1, e2, _⟩ := ma_yes hb
  exact ⟨by rw [e1]; unfold moY mon; omega, by rw [e2]; unfold moM mon; omega⟩
end Go.Proofs.YtngekeigdnlbmaaDoor
