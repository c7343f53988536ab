/- FnEsc: the law's own walk. -/
import Derived.Test.YtlanjdighccbpaaXd
namespace Go.Proofs.Ytlanjdighccbpaa
open Go.RowKit
set_option linter.unusedVariables false
theorem str1_esc (c : UInt8) (l : List UInt8) : readL (esc1 c ++ l) = c :: readL l := by
  unfold esc1
  split
  · rename_i h
    show readL (92 :: c :: l) = _
    have : str1 c = c := by unfold str1; rw [if_neg]; rcases h with rfl | rfl | rfl <;> decide
    simp [readL, this]
  · rename_i h
    split
    · rename_i h2
      subst h2
      show readL (92 :: 110 :: l) = _
      simp [readL, str1]
    · show readL (c :: l) = _
      exact (readL_plain (fun e => h (.inl e)) l).1
theorem read_esc (l : List UInt8) : readL (escL l) = l := by
  induction l with
  | nil => rfl
  | cons c l ih =>
    show readL (esc1 c ++ escL l) = c :: l
    rw [str1_esc, ih]
theorem get_put {s : ByteArray} (h : s.size ≤ 300) : getOk (escB s) = true ∧ getT (escB s) = s := by
  have e : escB s = oB (escL (bL s)) := if_pos h
  have hl := escL_len (bL s)
  rw [bL_len] at hl
  have r : oB (readL (bL (escB s))) = s := by rw [e, bL_oB, read_esc, oB_bL]
  have := get_yes (s := escB s) (by rw [e, oB_size]; omega) (by rw [r])
  rw [r] at this
  exact this
theorem put_get {s : ByteArray} (h : getOk s = true) : escB (getT s) = s ∧ (getT s).size ≤ s.size := by
  have e : getT s = oB (readL (bL s)) := if_pos h
  unfold getOk at h
  simp only [Bool.and_eq_true, decide_eq_true_eq] at h
  rw [e]
  have := readL_len (bL s)
  rw [bL_len] at this
  exact ⟨h.2, by rw [oB_size]; exact this⟩
set_option maxRecDepth 100000 in
set_option maxHeartbeats 8000000 in
theorem lawEsc (a0 : Option Addr) (len0 cap0 : Nat) (a9 : Option Addr) (len9 cap9 : Nat) (w : World) (h : IsCode w a0 len0 cap0) (h9 : IsCode w a9 len9 cap9) :
    Calls Try.prog 3 #[.slice a0 len0 cap0, .slice a9 len9 cap9] w fun e w' => e = .returned (.bool true) ∧ Below w.heap.size w w' := by
  by_cases hbig : 1048576 < len0
  · have hb1 : (1048576 : Int) < (len0 : Int) := by omega
    clear h h9
    go_enter Try.func3, Try.ntmps3
    go_wp2
    go_ret
    exact ⟨rfl, Below.refl _ _⟩
  · have hb1 : ¬ (1048576 : Int) < (len0 : Int) := by omega
    by_cases hbig9 : 1048576 < len9
    · have hb9 : (1048576 : Int) < (len9 : Int) := by omega
      clear h h9
      go_enter Try.func3, Try.ntmps3
      go_wp2
      go_ret
      exact ⟨rfl, Below.refl _ _⟩
    · have hb9 : ¬ (1048576 : Int) < (len9 : Int) := by omega
      have H9 : Hid (IsCode w a9 len9 cap9) := h9
      clear h9
      go_enter Try.func3, Try.ntmps3
      go_wp2_with fail
      refine (drawEscPut w a0 len0 cap0 h).mono ?_
      rintro e w1 ⟨⟨s, rfl, hs⟩, b1⟩
      clear h
      go_wp2_with fail
      refine (implEscPut s w1).mono ?_
      rintro e w2 ⟨rfl, b2⟩
      have B2 := bstep b1 b2
      clear b1 b2
      go_wp2_with fail
      refine (specEscPut s w2 (by omega)).mono ?_
      rintro e w3 ⟨rfl, rfl⟩
      have tail : Hid (∀ W, Below w.heap.size w W → Calls Try.prog 9 #[.slice a9 len9 cap9] W fun e w' => (∃ s : ByteArray, e = .returned (.string s) ∧ s.size ≤ 1000) ∧ Below W.heap.size W w') := fun W b => drawEscGet W a9 len9 cap9 (H9.out.below b)
      by_cases h3 : s.size ≤ 300
      · have HG : Hid (getOk (escB s) = true ∧ getT (escB s) = s) := get_put h3
        have h3' : (s.size : Int) ≤ 300 := by omega
        clear h3
        go_wp2_with fail
        refine (implEscGet (escB s) _).mono ?_
        rintro e w3 ⟨rfl, b3⟩
        rw [HG.out.1, HG.out.2]
        have B3 := bstep B2 b3
        clear b3
        go_wp2_with fail
        refine (tail.out _ B3).mono ?_
        rintro e w4 ⟨⟨t, rfl, ht⟩, b4⟩
        have B4 := bstep B3 b4
        clear b4
        go_wp2_with fail
        refine (implEscGet t _).mono ?_
        rintro e w5 ⟨rfl, b5⟩
        have B5 := bstep B4 b5
        clear b5
        go_wp2_with fail
        refine (specEscGet t _ (by omega)).mono ?_
        rintro e w6 ⟨rfl, rfl⟩
        cases hq : getOk t with
        | false =>
          go_wp2
          go_ret
          exact ⟨rfl, B5⟩
        | true =>
          have HP : Hid (escB (getT t) = t) := (put_get hq).1
          have hz : ((getT t).size : Int) ≤ (t.size : Int) := by have := (put_get hq).2; omega
          clear hq
          generalize getT t = u at HP hz ⊢
          go_wp2_with fail
          refine (implEscPut u _).mono ?_
          rintro e w7 ⟨rfl, b7⟩
          rw [HP.out]
          have B7 := bstep B5 b7
          clear b7
          go_wp2
          go_ret
          exact ⟨rfl, B7⟩
      · have h3' : ¬ (s.size : Int) ≤ 300 := by omega
        clear h3
        go_wp2_with fail
        refine (tail.out _ B2).mono ?_
        rintro e w4 ⟨⟨t, rfl, ht⟩, b4⟩
        have B4 := bstep B2 b4
        clear b4
        go_wp2_with fail
        refine (implEscGet t _).mono ?_
        rintro e w5 ⟨rfl, b5⟩
        have B5 := bstep B4 b5
        clear b5
        go_wp2_with fail
        refine (specEscGet t _ (by omega)).mono ?_
        rintro e w6 ⟨rfl, rfl⟩
        cases hq : getOk t with
        | false =>
          go_wp2
          go_ret
          exact ⟨rfl, B5⟩
        | true =>
          have HP : Hid (escB (getT t) = t) := (put_get hq).1
          have hz : ((getT t).size : Int) ≤ (t.size : Int) := by have := (put_get hq).2; omega
          clear hq
          generalize getT t = u at HP hz ⊢
          go_wp2_with fail
          refine (implEscPut u _).mono ?_
          rintro e w7 ⟨rfl, b7⟩
          rw [HP.out]
          have B7 := bstep B5 b7
          clear b7
          go_wp2
          go_ret
          exact ⟨rfl, B7⟩
end Go.Proofs.Ytlanjdighccbpaa
