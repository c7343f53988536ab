/- Months added: MonthAdd of the program and of the specification. -/
import Derived.Test.YtngekeigdnlbmaaDoorMoA
namespace Go.Proofs.YtngekeigdnlbmaaDoor
open Go.RowKit
set_option linter.unusedVariables false

/-- There is such a month. -/
def moB (y m d n : Int) : Bool := okD y m d && decide (-120000 ≤ n ∧ n ≤ 120000 ∧ 0 ≤ mon y m n ∧ mon y m n < 119988)
def maY (y m d n : Int) : Int := if moB y m d n = true then moY (mon y m n) else 0
def maM (y m d n : Int) : Int := if moB y m d n = true then moM (mon y m n) else 0
def maD (y m d n : Int) : Int := if moB y m d n = true then moD (mon y m n) d else 0
theorem moB_no1 {y m d n : Int} (h : okD y m d = false) : moB y m d n = false := by unfold moB; rw [h]; rfl
theorem moB_no2 {y m d n : Int} (h : ¬ (-120000 ≤ n ∧ n ≤ 120000 ∧ 0 ≤ mon y m n ∧ mon y m n < 119988)) : moB y m d n = false := by unfold moB; rw [decide_eq_false h, Bool.and_false]
theorem moB_yes {y m d n : Int} (h : okD y m d = true) (h' : -120000 ≤ n ∧ n ≤ 120000 ∧ 0 ≤ mon y m n ∧ mon y m n < 119988) : moB y m d n = true := by unfold moB; rw [h, decide_eq_true h', Bool.and_true]
theorem ma_no {y m d n : Int} (h : moB y m d n = false) : maY y m d n = 0 ∧ maM y m d n = 0 ∧ maD y m d n = 0 := by
  have hb : ¬ moB y m d n = true := by rw [h]; exact Bool.false_ne_true
  exact ⟨if_neg hb, if_neg hb, if_neg hb⟩
theorem ma_yes {y m d n : Int} (h : moB y m d n = true) : maY y m d n = moY (mon y m n) ∧ maM y m d n = moM (mon y m n) ∧ maD y m d n = moD (mon y m n) d := ⟨if_pos h, if_pos h, if_pos h⟩
theorem agg3 {a b c a' b' c' : Int} (h : a = a' ∧ b = b' ∧ c = c') : Ending.returned (.agg #[.int .i64 a, .int .i64 b, .int .i64 c]) = .returned (.agg #[.int .i64 a', .int .i64 b', .int .i64 c']) := by
  obtain ⟨rfl, rfl, rfl⟩ := h; rfl
set_option maxHeartbeats 2000000 in
theorem implMonthAdd_bad (y m d n : Int) (w : World) (ht : Tab w) (h : okD y m d = false) :
    Calls Tryd.prog 11 #[.agg #[.int .i64 y, .int .i64 m, .int .i64 d], .int .i64 n] w fun e w' => e = .returned (.agg #[.int .i64 0, .int .i64 0, .int .i64 0]) ∧ Below w.heap.size w w' := by
  have hb0 : Below w.heap.size w ((w.alloc (.cells #[.int .i64 y, .int .i64 m, .int .i64 d] 24)).alloc (.cells #[.int .i64 0, .int .i64 0, .int .i64 0] 24)) := ((Below.refl _ _).alloc (Nat.le_refl _) _).alloc (by simp) _
  have hT := ht.on hb0
  have HOK : Hid (okD y m d = false) := h
  clear ht h
  go_enter Tryd.func11, Tryd.ntmps11
  go_wp2_with fail
  refine (implDateOk y m d _ hT).mono ?_
  rintro e w1 ⟨rfl, hb1⟩
  rw [HOK.out]
  obtain ⟨hc, hf⟩ := bcell hb1
  have hs := hb1.size
  simp at hs
  have hs2 : w.heap.size + 1 < w1.heap.size := by omega
  have hbw := hb0.trans (hb1.mono (by simp; omega))
  clear hb0 hb1
  go_wp2
  refine bodyPost_ret (v := .agg #[.int .i64 0, .int .i64 0, .int .i64 0]) (by simp [results, Tryd.results11, go_sem, hc]) rfl ⟨rfl, ?_⟩
  exact (((hbw.setCell (p := ⟨w.heap.size + 1, 0, none⟩) (Nat.le_succ _) _).setCell (p := ⟨w.heap.size + 1, 1, none⟩) (Nat.le_succ _) _).setCell (p := ⟨w.heap.size + 1, 2, none⟩) (Nat.le_succ _) _)
set_option maxHeartbeats 2000000 in
theorem implMonthAdd_far (y m d n : Int) (w : World) (ht : Tab w) (h : okD y m d = true) (hn : n < -120000 ∨ 120000 < n) :
    Calls Tryd.prog 11 #[.agg #[.int .i64 y, .int .i64 m, .int .i64 d], .int .i64 n] w fun e w' => e = .returned (.agg #[.int .i64 0, .int .i64 0, .int .i64 0]) ∧ Below w.heap.size w w' := by
  have hb0 : Below w.heap.size w ((w.alloc (.cells #[.int .i64 y, .int .i64 m, .int .i64 d] 24)).alloc (.cells #[.int .i64 0, .int .i64 0, .int .i64 0] 24)) := ((Below.refl _ _).alloc (Nat.le_refl _) _).alloc (by simp) _
  have hT := ht.on hb0
  have HOK : Hid (okD y m d = true) := h
  clear ht h
  rcases hn with hn | hn
  all_goals
    go_enter Tryd.func11, Tryd.ntmps11
    go_wp2_with fail
    refine (implDateOk y m d _ hT).mono ?_
    rintro e w1 ⟨rfl, hb1⟩
    rw [HOK.out]
    obtain ⟨hc, hf⟩ := bcell hb1
    have hs := hb1.size
    simp at hs
    have hs2 : w.heap.size + 1 < w1.heap.size := by omega
    have hbw := hb0.trans (hb1.mono (by simp; omega))
    have hn' : ¬ (-120000 ≤ n ∧ n ≤ 120000) := by omega
    clear hb0 hb1 hn'
    go_wp2
    refine bodyPost_ret (v := .agg #[.int .i64 0, .int .i64 0, .int .i64 0]) (by simp [results, Tryd.results11, go_sem, hc]) rfl ⟨rfl, ?_⟩
    exact (((hbw.setCell (p := ⟨w.heap.size + 1, 0, none⟩) (Nat.le_succ _) _).setCell (p := ⟨w.heap.size + 1, 1, none⟩) (Nat.le_succ _) _).setCell (p := ⟨w.heap.size + 1, 2, none⟩) (Nat.le_succ _) _)
set_option maxHeartbeats 2000000 in
theorem implMonthAdd_in (y m d n : Int) (w : World) (ht : Tab w) (h : okD y m d = true) (hn0 : -120000 ≤ n) (hn1 : n ≤ 120000) :
    Calls Tryd.prog 11 #[.agg #[.int .i64 y, .int .i64 m, .int .i64 d], .int .i64 n] w fun e w' => e = .returned (.agg #[.int .i64 (maY y m d n), .int .i64 (maM y m d n), .int .i64 (maD y m d n)]) ∧ Below w.heap.size w w' := by
  have hb0 : Below w.heap.size w ((w.alloc (.cells #[.int .i64 y, .int .i64 m, .int .i64 d] 24)).alloc (.cells #[.int .i64 0, .int .i64 0, .int .i64 0] 24)) := ((Below.refl _ _).alloc (Nat.le_refl _) _).alloc (by simp) _
  have hT := ht.on hb0
  have HOK : Hid (okD y m d = true) := h
  clear ht h
  obtain ⟨k1, k2, k3, k4, k5, k6⟩ := (okD_iff _ _ _).1 HOK.out
  have db := dim_bd y m
  have plus : ∀ w1 : World, Tab w1 → Calls Tryd.prog 35 #[.agg #[.int .i64 y, .int .i64 m, .int .i64 d], .int .i64 n] w1 fun e w' => e = .returned (.agg #[.int .i64 (maY y m d n), .int .i64 (maM y m d n), .int .i64 (maD y m d n)]) ∧ Below w1.heap.size w1 w' := by
    intro w1 hT1
    by_cases hc : 0 ≤ mon y m n ∧ mon y m n < 119988
    · refine (implPlus_yes y m d n w1 hT1 k1 k2 k3 k4 hn0 hn1 hc.1 hc.2 k5 (by omega)).mono fun e w' hh => ⟨?_, hh.2⟩
      rw [hh.1]
      have := ma_yes (moB_yes HOK.out ⟨hn0, hn1, hc.1, hc.2⟩)
      exact agg3 ⟨this.1.symm, this.2.1.symm, this.2.2.symm⟩
    · refine (implPlus_no y m d n w1 k1 k2 k3 k4 hn0 hn1 (by omega)).mono fun e w' hh => ⟨?_, hh.2⟩
      rw [hh.1]
      have := ma_no (moB_no2 (d := d) (fun h => hc ⟨h.2.2.1, h.2.2.2⟩))
      exact agg3 ⟨this.1.symm, this.2.1.symm, this.2.2.symm⟩
  have HP : Hid (∀ w1 : World, Tab w1 → Calls Tryd.prog 35 #[.agg #[.int .i64 y, .int .i64 m, .int .i64 d], .int .i64 n] w1 fun e w' => e = .returned (.agg #[.int .i64 (maY y m d n), .int .i64 (maM y m d n), .int .i64 (maD y m d n)]) ∧ Below w1.heap.size w1 w') := plus
  clear plus
  go_enter Tryd.func11, Tryd.ntmps11
  go_wp2_with fail
  refine (implDateOk y m d _ hT).mono ?_
  rintro e w1 ⟨rfl, hb1⟩
  rw [HOK.out]
  obtain ⟨hc, hf⟩ := bcell hb1
  have hs := hb1.size
  simp at hs
  have hs2 : w.heap.size + 1 < w1.heap.size := by omega
  go_wp2_with fail
  refine (implParts y m d _).mono ?_
  rintro e w2 ⟨rfl, hb2⟩
  go_wp2_with fail
  refine (HP.out _ (hT.on (bstep hb1 hb2))).mono ?_
  rintro e w3 ⟨rfl, hb3⟩
  have hb := bstep (bstep hb1 hb2) hb3
  have hbw := hb0.trans (hb.mono (by simp; omega))
  clear hc hf
  obtain ⟨hc, hf⟩ := bcell hb
  have hs3 := hb.size
  simp at hs3
  have hs4 : w.heap.size + 1 < w3.heap.size := by omega
  clear hb0 hb1 hb2 hb3 hb hs hs2 hs3
  go_wp2
  refine bodyPost_ret (v := .agg #[.int .i64 (maY y m d n), .int .i64 (maM y m d n), .int .i64 (maD y m d n)]) (by simp [results, Tryd.results11, go_sem, hc]) rfl ⟨rfl, ?_⟩
  exact (((hbw.setCell (p := ⟨w.heap.size + 1, 0, none⟩) (Nat.le_succ _) _).setCell (p := ⟨w.heap.size + 1, 1, none⟩) (Nat.le_succ _) _).setCell (p := ⟨w.heap.size + 1, 2, none⟩) (Nat.le_succ _) _)
theorem implMonthAdd (y m d n : Int) (w : World) (ht : Tab w) :
    Calls Tryd.prog 11 #[.agg #[.int .i64 y, .int .i64 m, .int .i64 d], .int .i64 n] w fun e w' => e = .returned (.agg #[.int .i64 (maY y m d n), .int .i64 (maM y m d n), .int .i64 (maD y m d n)]) ∧ Below w.heap.size w w' := by
  cases h : okD y m d with
  | true =>
    by_cases hn : -120000 ≤ n ∧ n ≤ 120000
    · exact implMonthAdd_in y m d n w ht h hn.1 hn.2
    · refine (implMonthAdd_far y m d n w ht h (by omega)).mono fun e w' hh => ⟨?_, hh.2⟩
      rw [hh.1]
      have := ma_no (moB_no2 (y := y) (m := m) (d := d) (n := n) (fun h => hn ⟨h.1, h.2.1⟩))
      exact agg3 ⟨this.1.symm, this.2.1.symm, this.2.2.symm⟩
  | false =>
    refine (implMonthAdd_bad y m d n w ht h).mono fun e w' hh => ⟨?_, hh.2⟩
    rw [hh.1]
    have := ma_no (moB_no1 (n := n) h)
    exact agg3 ⟨this.1.symm, this.2.1.symm, this.2.2.symm⟩
theorem specMonth (y m n : Int) (w : World) (h0 : 0 ≤ y) (h1 : y ≤ 20000) (h2 : 0 ≤ m) (h3 : m ≤ 20) (h4 : -200000 ≤ n) (h5 : n ≤ 200000) (h6 : 0 ≤ y * 12 + m - 1 + n) :
    Calls Tryd.prog 37 #[.int .i64 y, .int .i64 m, .int .i64 n] w fun e w' => e = .returned (.tuple #[.int .i64 ((y * 12 + m - 1 + n) / 12), .int .i64 ((y * 12 + m - 1 + n) % 12 + 1)]) ∧ w' = w := by
  go_enter Tryd.func37, Tryd.ntmps37
  go_wp2
  go_ret2
  exact ⟨rfl, rfl⟩
set_option maxHeartbeats 2000000 in
theorem specMonthAdd_bad (y m d n : Int) (w : World) (h : okD y m d = false) :
    Calls Tryd.prog 12 #[.agg #[.int .i64 y, .int .i64 m, .int .i64 d], .int .i64 n] w fun e w' => e = .returned (.agg #[.int .i64 0, .int .i64 0, .int .i64 0]) ∧ Below w.heap.size w w' := by
  have hb0 : Below w.heap.size w ((w.alloc (.cells #[.int .i64 y, .int .i64 m, .int .i64 d] 24)).alloc (.cells #[.int .i64 0, .int .i64 0, .int .i64 0] 24)) := ((Below.refl _ _).alloc (Nat.le_refl _) _).alloc (by simp) _
  have HOK : Hid (okD y m d = false) := h
  clear h
  go_enter Tryd.func12, Tryd.ntmps12
  go_wp2_with fail
  refine (specDateOk y m d _).mono ?_
  rintro e w1 ⟨rfl, hb1⟩
  rw [HOK.out]
  obtain ⟨hc, hf⟩ := bcell hb1
  have hs := hb1.size
  simp at hs
  have hs2 : w.heap.size + 1 < w1.heap.size := by omega
  have hbw := hb0.trans (hb1.mono (by simp; omega))
  clear hb0 hb1
  go_wp2
  refine bodyPost_ret (v := .agg #[.int .i64 0, .int .i64 0, .int .i64 0]) (by simp [results, Tryd.results12, go_sem, hc]) rfl ⟨rfl, ?_⟩
  exact (((hbw.setCell (p := ⟨w.heap.size + 1, 0, none⟩) (Nat.le_succ _) _).setCell (p := ⟨w.heap.size + 1, 1, none⟩) (Nat.le_succ _) _).setCell (p := ⟨w.heap.size + 1, 2, none⟩) (Nat.le_succ _) _)
set_option maxHeartbeats 2000000 in
theorem specMonthAdd_far (y m d n : Int) (w : World) (h : okD y m d = true) (hn : n < -120000 ∨ 120000 < n) :
    Calls Tryd.prog 12 #[.agg #[.int .i64 y, .int .i64 m, .int .i64 d], .int .i64 n] w fun e w' => e = .returned (.agg #[.int .i64 0, .int .i64 0, .int .i64 0]) ∧ Below w.heap.size w w' := by
  have hb0 : Below w.heap.size w ((w.alloc (.cells #[.int .i64 y, .int .i64 m, .int .i64 d] 24)).alloc (.cells #[.int .i64 0, .int .i64 0, .int .i64 0] 24)) := ((Below.refl _ _).alloc (Nat.le_refl _) _).alloc (by simp) _
  have HOK : Hid (okD y m d = true) := h
  have hin : inB n (-120000) 120000 = false := in_no hn
  clear h hn
  go_enter Tryd.func12, Tryd.ntmps12
  go_wp2_with fail
  refine (specDateOk y m d _).mono ?_
  rintro e w1 ⟨rfl, hb1⟩
  rw [HOK.out]
  obtain ⟨hc, hf⟩ := bcell hb1
  have hs := hb1.size
  simp at hs
  have hs2 : w.heap.size + 1 < w1.heap.size := by omega
  have hbw := hb0.trans (hb1.mono (by simp; omega))
  clear hb0 hb1
  go_wp2_with (go_at_call 36; refine (specIn _ _ _ _).mono ?_; rintro e w' ⟨rfl, rfl⟩)
  refine bodyPost_ret (v := .agg #[.int .i64 0, .int .i64 0, .int .i64 0]) (by simp [results, Tryd.results12, go_sem, hc]) rfl ⟨rfl, ?_⟩
  exact (((hbw.setCell (p := ⟨w.heap.size + 1, 0, none⟩) (Nat.le_succ _) _).setCell (p := ⟨w.heap.size + 1, 1, none⟩) (Nat.le_succ _) _).setCell (p := ⟨w.heap.size + 1, 2, none⟩) (Nat.le_succ _) _)
set_option maxHeartbeats 2000000 in
theorem specMonthAdd_out (y m d n : Int) (w : World) (h : okD y m d = true) (hn0 : -120000 ≤ n) (hn1 : n ≤ 120000) (hk : mon y m n < 0 ∨ 119988 ≤ mon y m n) :
    Calls Tryd.prog 12 #[.agg #[.int .i64 y, .int .i64 m, .int .i64 d], .int .i64 n] w fun e w' => e = .returned (.agg #[.int .i64 0, .int .i64 0, .int .i64 0]) ∧ Below w.heap.size w w' := by
  have hb0 : Below w.heap.size w ((w.alloc (.cells #[.int .i64 y, .int .i64 m, .int .i64 d] 24)).alloc (.cells #[.int .i64 0, .int .i64 0, .int .i64 0] 24)) := ((Below.refl _ _).alloc (Nat.le_refl _) _).alloc (by simp) _
  have HOK : Hid (okD y m d = true) := h
  have hin : inB n (-120000) 120000 = true := in_yes hn0 hn1
  obtain ⟨k1, k2, k3, k4, _⟩ := (okD_iff _ _ _).1 h
  clear h
  have hk' : y * 12 + m - 1 + n < 12 ∨ (¬ y * 12 + m - 1 + n < 12 ∧ 120000 ≤ y * 12 + m - 1 + n) := by unfold mon at hk; omega
  clear hk
  rcases hk' with hk | ⟨hk, hk2⟩
  all_goals
    go_enter Tryd.func12, Tryd.ntmps12
    go_wp2_with fail
    refine (specDateOk y m d _).mono ?_
    rintro e w1 ⟨rfl, hb1⟩
    rw [HOK.out]
    obtain ⟨hc, hf⟩ := bcell hb1
    have hs := hb1.size
    simp at hs
    have hs2 : w.heap.size + 1 < w1.heap.size := by omega
    have hs3 : w.heap.size < w1.heap.size := by omega
    have hbw := hb0.trans (hb1.mono (by simp; omega))
    clear hb0 hb1
    go_wp2_with (go_at_call 36; refine (specIn _ _ _ _).mono ?_; rintro e w' ⟨rfl, rfl⟩)
    refine bodyPost_ret (v := .agg #[.int .i64 0, .int .i64 0, .int .i64 0]) (by simp [results, Tryd.results12, go_sem, hc]) rfl ⟨rfl, ?_⟩
    exact (((hbw.setCell (p := ⟨w.heap.size + 1, 0, none⟩) (Nat.le_succ _) _).setCell (p := ⟨w.heap.size + 1, 1, none⟩) (Nat.le_succ _) _).setCell (p := ⟨w.heap.size + 1, 2, none⟩) (Nat.le_succ _) _)
end Go.Proofs.YtngekeigdnlbmaaDoor
