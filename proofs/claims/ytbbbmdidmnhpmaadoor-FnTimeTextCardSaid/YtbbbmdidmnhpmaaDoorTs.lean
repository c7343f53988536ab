/- A time as a text: the specification's and the program's. -/
import Derived.Test.YtbbbmdidmnhpmaaDoorTr
import Derived.Test.YtbbbmdidmnhpmaaDoorZn
namespace Go.Proofs.YtbbbmdidmnhpmaaDoor
open Go.RowKit
set_option linter.unusedVariables false
theorem year_ex (n : Int) (h0 : 0 ≤ n) (k : Nat) (hk : n < fst ((k : Int) + 1)) : ∃ y : Int, 1 ≤ y ∧ y ≤ k ∧ fst y ≤ n ∧ n < fst (y + 1) := by
  induction k with
  | zero => exact absurd hk (by have : fst (((0 : Nat) : Int) + 1) = 0 := by decide
                                omega)
  | succ k ih =>
    by_cases h : n < fst ((k : Int) + 1)
    · obtain ⟨y, a, b, c, d⟩ := ih h
      exact ⟨y, a, by omega, c, d⟩
    · exact ⟨(k : Int) + 1, by omega, by omega, by omega, by simpa using hk⟩
theorem month_ex (y r : Int) (h0 : 0 ≤ r) (k : Nat) (hk : r < cum y ((k : Int) + 1)) : ∃ m : Int, 1 ≤ m ∧ m ≤ k ∧ cum y m ≤ r ∧ r < cum y (m + 1) := by
  induction k with
  | zero => exact absurd hk (by have := cum_one y; simp at hk ⊢; omega)
  | succ k ih =>
    by_cases h : r < cum y ((k : Int) + 1)
    · obtain ⟨m, a, b, c, d⟩ := ih h
      exact ⟨m, a, by omega, c, d⟩
    · exact ⟨(k : Int) + 1, by omega, by omega, by omega, by simpa using hk⟩
/-- Each day has a date. -/
theorem date_ex (n : Int) (h0 : 0 ≤ n) (h1 : n ≤ 3652058) : ∃ y m d : Int, okD y m d = true ∧ num y m d = n := by
  obtain ⟨y, y0, y1, y2, y3⟩ := year_ex n h0 9999 (by have := fst_max; simp; omega)
  have e := fst_succ y y0
  have c13 := cum_13 y
  obtain ⟨m, m0, m1, m2, m3⟩ := month_ex y (n - fst y) (by omega) 12 (by simp; omega)
  have cs := cum_succ y m m0 (by omega)
  refine ⟨y, m, n - fst y - cum y m + 1, (okD_iff _ _ _).2 ⟨y0, by omega, m0, by omega, by omega, by omega⟩, ?_⟩
  unfold num
  omega
theorem specDate_num (n y m d : Int) (w : World) (ok : okD y m d = true) (hn : num y m d = n) :
    Calls Tryd.prog 45 #[.int .i64 n] w fun e w' => e = .returned (.agg #[.int .i64 y, .int .i64 m, .int .i64 d]) ∧ Below w.heap.size w w' := by
  have hb := num_bd ok
  refine (specDate n w (by omega) (by omega)).mono fun e w' hh => ⟨?_, hh.2⟩
  obtain ⟨⟨y', m', d', he, ok', hn'⟩, _⟩ := hh
  obtain ⟨rfl, rfl, rfl⟩ := num_inj ok ok' (hn.trans hn'.symm)
  exact he
theorem implDateOf_n (n y m d : Int) (w : World) (ht : Tab w) (ok : okD y m d = true) (hn : num y m d = n) :
    Calls Tryd.prog 42 #[.int .i64 n] w fun e w' => e = .returned (.agg #[.int .i64 y, .int .i64 m, .int .i64 d]) ∧ Below w.heap.size w w' := by
  have hb := num_bd ok
  refine (implDateOf_yes n w ht (by omega) (by omega)).mono fun e w' hh => ⟨?_, hh.2⟩
  obtain ⟨⟨y', m', d', he, ok', hn'⟩, _⟩ := hh
  obtain ⟨rfl, rfl, rfl⟩ := num_inj ok ok' (hn.trans hn'.symm)
  exact he
theorem dateT_size {y m d : Nat} (hy : y < 10000) (hm : m < 100) (hd : d < 100) : (dateT y m d).size = 10 := by
  unfold dateT; simp only [ByteArray.size_append, dash_size, pad_size (dec_4 hy), pad_size (dec_2 hm), pad_size (dec_2 hd)]
/-- A time as a text. -/
def timeT (y m d h n : Nat) : ByteArray := dateT y m d ++ ⟨#[84]⟩ ++ pad h 2 ++ ⟨#[58]⟩ ++ pad n 2
set_option maxRecDepth 100000 in
set_option maxHeartbeats 8000000 in
theorem specTimeText_yes (n : Int) (y m d h i : Nat) (w : World) (hn : tiB n = true) (ok : okD y m d = true) (hnum : num y m d = n / 1440) (hy : y < 10000) (hm : m < 100) (hd : d < 100) (hh : n / 60 % 24 = h) (hi : n % 60 = i) :
    Calls Tryd.prog 19 #[.int .i64 n] w fun e w' => e = .returned (.string (timeT y m d h i)) ∧ Below w.heap.size w w' := by
  obtain ⟨n0, n1⟩ := (ti_iff n).1 hn
  have HO : Hid (okD y m d = true) := ok
  have HN : Hid (num y m d = n / 1440) := hnum
  have HH : Hid (n / 60 % 24 = h) := hh
  have HI : Hid (n % 60 = i) := hi
  have h2 : h < 100 := by omega
  have i2 : i < 100 := by omega
  have q0 := dateT_size hy hm hd
  have p2 := pad_size (dec_2 h2)
  have p3 := pad_size (dec_2 i2)
  have HE : timeT y m d h i = dateT y m d ++ ⟨#[84]⟩ ++ pad h 2 ++ ⟨#[58]⟩ ++ pad i 2 := rfl
  generalize timeT y m d h i = T at HE ⊢
  have HT : Hid (T = dateT y m d ++ ⟨#[84]⟩ ++ pad h 2 ++ ⟨#[58]⟩ ++ pad i 2) := HE
  clear ok HE hnum hh hi
  go_enter Tryd.func19, Tryd.ntmps19
  go_wp2_with (go_at_call 44; refine (specTime _ _ true hn).mono ?_; rintro e w ⟨rfl, rfl⟩)
  with_reducible refine (specDate_num _ y m d _ HO.out HN.out).mono ?_
  rintro e w1 ⟨rfl, b1⟩
  go_wp2_with fail
  with_reducible refine (specDateText_yes y m d _ HO.out hy hm hd).mono ?_
  rintro e w2 ⟨rfl, b2⟩
  go_wp2_with fail
  rw [HH.out]
  with_reducible refine (specPad2 _ _ h2).mono ?_
  rintro e w3 ⟨rfl, b3⟩
  go_wp2_with fail
  rw [HI.out]
  with_reducible refine (specPad2 _ _ i2).mono ?_
  rintro e w4 ⟨rfl, b4⟩
  have B := bstep (bstep (bstep b1 b2) b3) b4
  go_wp2
  go_ret
  exact ⟨by rw [HT.out]; rfl, B⟩
theorem specTimeText_no (n : Int) (w : World) (hn : tiB n = false) : Calls Tryd.prog 19 #[.int .i64 n] w fun e w' => e = .returned (.string ByteArray.empty) ∧ Below w.heap.size w w' := by
  go_enter Tryd.func19, Tryd.ntmps19
  go_wp2_with (go_at_call 44; refine (specTime _ _ false hn).mono ?_; rintro e w ⟨rfl, rfl⟩)
  go_ret
  exact ⟨rfl, Below.refl _ _⟩
set_option maxRecDepth 100000 in
set_option maxHeartbeats 8000000 in
theorem implTimeText_yes (n : Int) (y m d h i : Nat) (w : World) (ht : Tab w) (hP : Pow w) (hn : tiB n = true) (ok : okD y m d = true) (hnum : num y m d = n / 1440) (hy : y < 10000) (hm : m < 100) (hd : d < 100) (hh : n / 60 % 24 = h) (hi : n % 60 = i) :
    Calls Tryd.prog 17 #[.int .i64 n] w fun e w' => e = .returned (.string (timeT y m d h i)) ∧ Below w.heap.size w w' := by
  obtain ⟨n0, n1⟩ := (ti_iff n).1 hn
  have HTab : Hid (Tab w) := ht
  have HPow : Hid (Pow w) := hP
  have HO : Hid (okD y m d = true) := ok
  have HN : Hid (num y m d = n / 1440) := hnum
  have HH : Hid (n % 1440 / 60 = h) := by unfold Hid; omega
  have HI : Hid (n % 1440 % 60 = i) := by unfold Hid; omega
  have HI2 : Hid (n % 60 = i) := hi
  have h2 : h < 100 := by omega
  have i2 : i < 100 := by omega
  have q0 := dateT_size hy hm hd
  have p2 := pad_size (dec_2 h2)
  have p3 := pad_size (dec_2 i2)
  have HE : timeT y m d h i = dateT y m d ++ ⟨#[84]⟩ ++ pad h 2 ++ ⟨#[58]⟩ ++ pad i 2 := rfl
  generalize timeT y m d h i = T at HE ⊢
  have HT : Hid (T = dateT y m d ++ ⟨#[84]⟩ ++ pad h 2 ++ ⟨#[58]⟩ ++ pad i 2) := HE
  clear ok HE hnum hh hi ht hP
  go_enter Tryd.func17, Tryd.ntmps17
  go_wp2_with (go_at_call 41; refine (implTime _ _ true hn).mono ?_; rintro e w ⟨rfl, rfl⟩)
  with_reducible refine (implDateOf_n _ y m d _ HTab.out HO.out HN.out).mono ?_
  rintro e w1 ⟨rfl, b1⟩
  go_wp2_with fail
  with_reducible refine (implDateText_yes y m d _ HO.out hy hm hd (HTab.out.on b1) (HPow.out.on b1)).mono ?_
  rintro e w2 ⟨rfl, b2⟩
  have B2 := bstep b1 b2
  go_wp2_with fail
  rw [HH.out]
  with_reducible refine (implFig2 _ _ h2 (HPow.out.on B2)).mono ?_
  rintro e w3 ⟨rfl, b3⟩
  have B3 := bstep B2 b3
  go_wp2_with fail
  rw [HI.out, HI2.out]
  with_reducible refine (implFig2 _ _ i2 (HPow.out.on B3)).mono ?_
  rintro e w4 ⟨rfl, b4⟩
  have B := bstep B3 b4
  go_wp2
  go_ret
  exact ⟨by rw [HT.out]; rfl, B⟩
theorem implTimeText_no (n : Int) (w : World) (hn : tiB n = false) : Calls Tryd.prog 17 #[.int .i64 n] w fun e w' => e = .returned (.string ByteArray.empty) ∧ Below w.heap.size w w' := by
  go_enter Tryd.func17, Tryd.ntmps17
  go_wp2_with (go_at_call 41; refine (implTime _ _ false hn).mono ?_; rintro e w ⟨rfl, rfl⟩)
  go_ret
  exact ⟨rfl, Below.refl _ _⟩
end Go.Proofs.YtbbbmdidmnhpmaaDoor
