/- FnSlotFirst: the law's own walk. -/
import Derived.Test.YtkbgbccehijckaaDv
import Derived.Test.YtkbgbccehijckaaCc
import Derived.Test.YtkbgbccehijckaaLSlotLess
namespace Go.Proofs.Ytkbgbccehijckaa
open Go.RowKit
set_option linter.unusedVariables false
set_option maxRecDepth 100000 in
set_option maxHeartbeats 16000000 in
theorem lawSlotFirst (a : Option Addr) (len cap : Nat) (w : World) (h : IsCode w a len cap) :
    Calls Try.prog 6 #[.slice a len cap] w fun e w' => e = .returned (.bool true) ∧ Below w.heap.size w w' := by
  have hlen := h.1
  by_cases hl : (len : Int) > 1048576
  · go_enter Try.func6, Try.ntmps6
    go_wp2
    go_ret
    exact ⟨rfl, Below.refl _ _⟩
  · go_enter Try.func6, Try.ntmps6
    go_wp2_with fail
    refine (drawSlotFirst w a len cap h).mono ?_
    rintro e w1 ⟨v, x, y, n, rfl, xb, yb, nb, ss, D, l7⟩
    obtain ⟨va, vc, rfl⟩ := D.own.shape0
    obtain ⟨r, hr⟩ := sp_dec ss
    have HR : Hid (r = true ↔ SpOk ss) := hr
    have HT : Hid (IsTurns w1 va ss) := D.own.isT.1
    have B1 := D.bel
    have l2 : ss.length ≤ 2000000 := by omega
    clear D hr h
    go_wp2_with fail
    with_reducible refine (implSlotFirst _ _ _ _ _ _ _ HT.out l2 r HR.out).mono ?_
    rintro e w2 ⟨rfl, b2⟩
    have HM0 : Hid (slA r ss x y n = slA r ss x y n) := rfl
    generalize hm : slA r ss x y n = m at HM0 ⊢
    have HM : Hid (slA r ss x y n = m) := hm
    clear hm HM0
    go_wp2_with fail
    with_reducible refine (specSlotFirst _ _ _ _ _ _ _ (HT.out.below (B := 0) b2) l2 r HR.out).mono ?_
    rintro e w3 ⟨rfl, b3⟩
    rw [HM.out]
    have b13 := bstep b2 b3
    clear b2 b3
    go_wp2_with fail
    with_reducible refine (specSpansOk _ _ _ _ (HT.out.below (B := 0) b13) l2 r HR.out).mono ?_
    rintro e w4 ⟨rfl, b4⟩
    have b14 := bstep b13 b4
    have B4 := bstep B1 b14
    have HT4 : Hid (IsTurns w4 va ss) := HT.out.below (B := 0) b14
    have AG : ∀ cc, Calls Try.prog 20 #[.slice va ss.length cc, .int .i64 x, .int .i64 y, .int .i64 n] w4 fun e w' => e = .returned (.int .i64 m) ∧ Below w4.heap.size w4 w' := fun cc => by have q := specSlotFirst va cc ss x y n w4 HT4.out l2 r HR.out; rw [HM.out] at q; exact q
    clear b13 b4 b14 HT B1
    by_cases hg : r = true ∧ x ≤ y ∧ 1 ≤ n ∧ n ≤ 20160
    · obtain ⟨rfl, hxy, n1, n2⟩ := hg
      have ok := HR.out.1 rfl
      have hf : frB true x y = true := frB_iff.2 ⟨rfl, (ti_iff _).2 (by omega), (ti_iff _).2 (by omega), hxy⟩
      have e := slA_eq (ss := ss) (in_yes (n := n) (a := 1) (b := 20160) n1 n2) hf
      obtain ⟨F1, F2⟩ := slot_first ss x y n (can_of_ok ok) n1 (by omega)
      rw [← e, HM.out] at F1 F2
      have mb : -1 ≤ m ∧ m ≤ 600 := by
        by_cases m0 : 0 ≤ m
        · have := F1 m0; omega
        · have e2 : m = -1 := by
            have hh := HM.out
            rw [e] at hh
            unfold slR at hh
            cases hq : (freeS ss x y).find? (fun s => decide (n ≤ s.2 - s.1)) with
            | none => rw [hq] at hh; exact hh.symm
            | some s =>
              rw [hq] at hh
              have := free_bd ss x y s (List.mem_of_find?_eq_some hq)
              simp only at hh
              omega
          omega
      have HF1 : Hid (0 ≤ m → x ≤ m ∧ m + n ≤ y ∧ ∀ k, m ≤ k → k < m + n → ¬ In ss k) := F1
      have HF2 : Hid (∀ t, x ≤ t → (0 ≤ m → t < m) → t + n ≤ y → ¬ ∀ k, t ≤ k → k < t + n → ¬ In ss k) := F2
      have x0 : ¬ x < 0 := by omega
      have y0 : ¬ y < x := by omega
      have q1 : ¬ n < 1 := by omega
      have q2 : ¬ 20160 < n := by omega
      have g1 := IntWalk.i64_in (y - n) (by omega)
      have g2 := IntWalk.i64_in (y - n + 1) (by omega)
      have g3 := IntWalk.i64_in (m + n) (by omega)
      clear F1 F2 AG hf e ok
      by_cases m0 : m < 0
      · go_wp2
        go_loopw [9, 10, 11] (fun av _ _ wr => ∃ A : Int, av = .int .i64 A ∧ x ≤ A ∧ (A ≤ x ∨ A ≤ (y - n + 1)) ∧ Below w4.heap.size w4 wr) (fun av _ _ _ => ((y - n + 1) - intOf av).toNat)
        case atStart => exact ⟨x, rfl, Int.le_refl _, .inl (Int.le_refl _), Below.refl _ _⟩
        case round =>
          obtain ⟨A, rfl, hA0, hA1, hb⟩ := hrel
          by_cases hlt : A < (y - n + 1)
          · have g4 := IntWalk.i64_in (A + n) (by omega)
            have g5 := IntWalk.i64_in (A + 1) (by omega)
            have NO : Hid (A + n ≤ y → ¬ ∀ k, A ≤ k → k < A + n → ¬ In ss k) := HF2.out A hA0 (fun h0 => by omega)
            go_wp2
            go_loopw [10, 11] (fun fv kv wi => ∃ (fb : Bool) (K : Int), fv = .bool fb ∧ kv = .int .i64 K ∧ A ≤ K ∧ K ≤ A + n ∧ (fb = true → A + n ≤ y ∧ ∀ j, A ≤ j → j < K → ¬ In ss j) ∧ Below w4.heap.size w4 wi) (fun _ kv _ => (A + n - intOf kv).toNat)
            case atStart => exact ⟨decide (A + n ≤ y), A, rfl, rfl, Int.le_refl _, by omega, fun hd => ⟨of_decide_eq_true hd, fun j j0 j1 => by omega⟩, hb⟩
            case round =>
              obtain ⟨fb, K, rfl, rfl, hK0, hK1, hfb, hb2⟩ := hrel
              have HFB : Hid (fb = true → A + n ≤ y ∧ ∀ j, A ≤ j → j < K → ¬ In ss j) := hfb
              clear hfb
              by_cases hk : K < A + n
              · cases fb with
                | false =>
                  go_wp2
                  go_roundw
                  case rel => exact ⟨A + 1, rfl, by omega, .inr (by omega), hb2⟩
                  case measure => simp [intOf]; omega
                | true =>
                  have g6 := IntWalk.i64_in (K + 1) (by omega)
                  have HF0 : Hid (A + n ≤ y ∧ ∀ j, A ≤ j → j < K → ¬ In ss j) := HFB.out rfl
                  clear HFB
                  go_wp2_with fail
                  cases hq : inL ss K with
                  | true =>
                    with_reducible refine (lawEpIn _ _ _ _ _ (HT4.out.below (B := 0) hb2) l2 true hq).mono ?_
                    rintro e w5 ⟨rfl, b5⟩
                    have B5 := bstep hb2 b5
                    clear b5 hq
                    go_wp2
                    go_roundw
                    case rel => exact ⟨false, K + 1, rfl, rfl, by omega, by omega, fun hd => Bool.noConfusion hd, B5⟩
                    case measure => simp [intOf]; omega
                  | false =>
                    have HQ : Hid (A + n ≤ y ∧ ∀ j, A ≤ j → j < K + 1 → ¬ In ss j) := ⟨HF0.out.1, fun j j0 j1 => by
                      by_cases ej : j = K
                      · subst ej; intro hin; rw [(inL_iff ss j).2 hin] at hq; cases hq
                      · exact HF0.out.2 j j0 (by omega)⟩
                    with_reducible refine (lawEpIn _ _ _ _ _ (HT4.out.below (B := 0) hb2) l2 false hq).mono ?_
                    rintro e w5 ⟨rfl, b5⟩
                    have B5 := bstep hb2 b5
                    clear b5 hq
                    go_wp2
                    go_roundw
                    case rel => exact ⟨true, K + 1, rfl, rfl, by omega, by omega, fun _ => HQ.out, B5⟩
                    case measure => simp [intOf]; omega
              · cases fb with
                | true => exact absurd (fun k k0 k1 => (HFB.out rfl).2 k k0 (by omega)) (NO.out (HFB.out rfl).1)
                | false =>
                  go_wp2
                  go_roundw
                  case rel => exact ⟨A + 1, rfl, by omega, .inr (by omega), hb2⟩
                  case measure => simp [intOf]; omega
          · have B5 := bstep B4 hb
            have mm : m < m + n := by omega
            go_wp2
            refine wp_loop_rounds 1 ?_; rw [rounds_succ]
            go_wp2
            go_ret
            exact ⟨rfl, B5⟩
      · go_wp2
        go_loopw [9, 10, 11] (fun av _ _ wr => ∃ A : Int, av = .int .i64 A ∧ x ≤ A ∧ (A ≤ x ∨ A ≤ m) ∧ Below w4.heap.size w4 wr) (fun av _ _ _ => (m - intOf av).toNat)
        case atStart => exact ⟨x, rfl, Int.le_refl _, .inl (Int.le_refl _), Below.refl _ _⟩
        case round =>
          obtain ⟨A, rfl, hA0, hA1, hb⟩ := hrel
          by_cases hlt : A < m
          · have g4 := IntWalk.i64_in (A + n) (by omega)
            have g5 := IntWalk.i64_in (A + 1) (by omega)
            have NO : Hid (A + n ≤ y → ¬ ∀ k, A ≤ k → k < A + n → ¬ In ss k) := HF2.out A hA0 (fun _ => hlt)
            go_wp2
            go_loopw [10, 11] (fun fv kv wi => ∃ (fb : Bool) (K : Int), fv = .bool fb ∧ kv = .int .i64 K ∧ A ≤ K ∧ K ≤ A + n ∧ (fb = true → A + n ≤ y ∧ ∀ j, A ≤ j → j < K → ¬ In ss j) ∧ Below w4.heap.size w4 wi) (fun _ kv _ => (A + n - intOf kv).toNat)
            case atStart => exact ⟨decide (A + n ≤ y), A, rfl, rfl, Int.le_refl _, by omega, fun hd => ⟨of_decide_eq_true hd, fun j j0 j1 => by omega⟩, hb⟩
            case round =>
              obtain ⟨fb, K, rfl, rfl, hK0, hK1, hfb, hb2⟩ := hrel
              have HFB : Hid (fb = true → A + n ≤ y ∧ ∀ j, A ≤ j → j < K → ¬ In ss j) := hfb
              clear hfb
              by_cases hk : K < A + n
              · cases fb with
                | false =>
                  go_wp2
                  go_roundw
                  case rel => exact ⟨A + 1, rfl, by omega, .inr (by omega), hb2⟩
                  case measure => simp [intOf]; omega
                | true =>
                  have g6 := IntWalk.i64_in (K + 1) (by omega)
                  have HF0 : Hid (A + n ≤ y ∧ ∀ j, A ≤ j → j < K → ¬ In ss j) := HFB.out rfl
                  clear HFB
                  go_wp2_with fail
                  cases hq : inL ss K with
                  | true =>
                    with_reducible refine (lawEpIn _ _ _ _ _ (HT4.out.below (B := 0) hb2) l2 true hq).mono ?_
                    rintro e w5 ⟨rfl, b5⟩
                    have B5 := bstep hb2 b5
                    clear b5 hq
                    go_wp2
                    go_roundw
                    case rel => exact ⟨false, K + 1, rfl, rfl, by omega, by omega, fun hd => Bool.noConfusion hd, B5⟩
                    case measure => simp [intOf]; omega
                  | false =>
                    have HQ : Hid (A + n ≤ y ∧ ∀ j, A ≤ j → j < K + 1 → ¬ In ss j) := ⟨HF0.out.1, fun j j0 j1 => by
                      by_cases ej : j = K
                      · subst ej; intro hin; rw [(inL_iff ss j).2 hin] at hq; cases hq
                      · exact HF0.out.2 j j0 (by omega)⟩
                    with_reducible refine (lawEpIn _ _ _ _ _ (HT4.out.below (B := 0) hb2) l2 false hq).mono ?_
                    rintro e w5 ⟨rfl, b5⟩
                    have B5 := bstep hb2 b5
                    clear b5 hq
                    go_wp2
                    go_roundw
                    case rel => exact ⟨true, K + 1, rfl, rfl, by omega, by omega, fun _ => HQ.out, B5⟩
                    case measure => simp [intOf]; omega
              · cases fb with
                | true => exact absurd (fun k k0 k1 => (HFB.out rfl).2 k k0 (by omega)) (NO.out (HFB.out rfl).1)
                | false =>
                  go_wp2
                  go_roundw
                  case rel => exact ⟨A + 1, rfl, by omega, .inr (by omega), hb2⟩
                  case measure => simp [intOf]; omega
          · obtain ⟨p1, p2, p3⟩ := HF1.out (by omega)
            have HP3 : Hid (∀ k, m ≤ k → k < m + n → ¬ In ss k) := p3
            have m0' : ¬ m < 0 := by omega
            clear p3
            go_wp2
            go_loopw [12] (fun kv wi => ∃ K : Int, kv = .int .i64 K ∧ m ≤ K ∧ K ≤ m + n ∧ Below w4.heap.size w4 wi) (fun kv _ => (m + n - intOf kv).toNat)
            case atStart => exact ⟨m, rfl, Int.le_refl _, by omega, hb⟩
            case round =>
              obtain ⟨K, rfl, hK0, hK1, hb2⟩ := hrel
              by_cases hk : K < m + n
              · have hq : inL ss K = false := by
                  rw [Bool.eq_false_iff]; intro hh; exact HP3.out K hK0 hk ((inL_iff ss K).1 hh)
                have g6 := IntWalk.i64_in (K + 1) (by omega)
                go_wp2_with fail
                with_reducible refine (lawEpIn _ _ _ _ _ (HT4.out.below (B := 0) hb2) l2 false hq).mono ?_
                rintro e w5 ⟨rfl, b5⟩
                have B5 := bstep hb2 b5
                clear b5 hq
                go_wp2
                go_roundw
                case rel => exact ⟨K + 1, rfl, by omega, by omega, B5⟩
                case measure => simp [intOf]; omega
              · have B5 := bstep B4 hb2
                go_wp2
                go_ret
                exact ⟨rfl, B5⟩
    · have HG : Hid (¬ (r = true ∧ x ≤ y ∧ 1 ≤ n ∧ n ≤ 20160)) := hg
      clear hg
      cases r with
      | false =>
        go_wp2_with fail
        refine (AG _).mono ?_
        rintro e w5 ⟨rfl, b5⟩
        have B5 := bstep B4 b5
        go_wp2
        go_ret
        exact ⟨rfl, B5⟩
      | true =>
        have x0 : ¬ x < 0 := by omega
        by_cases hxy : y < x
        · go_wp2_with fail
          refine (AG _).mono ?_
          rintro e w5 ⟨rfl, b5⟩
          have B5 := bstep B4 b5
          go_wp2
          go_ret
          exact ⟨rfl, B5⟩
        · by_cases n1 : n < 1
          · go_wp2_with fail
            refine (AG _).mono ?_
            rintro e w5 ⟨rfl, b5⟩
            have B5 := bstep B4 b5
            go_wp2
            go_ret
            exact ⟨rfl, B5⟩
          · have n2 : 20160 < n := by
              by_cases q : 20160 < n
              · exact q
              · exact absurd ⟨rfl, by omega, by omega, by omega⟩ HG.out
            go_wp2_with fail
            refine (AG _).mono ?_
            rintro e w5 ⟨rfl, b5⟩
            have B5 := bstep B4 b5
            go_wp2
            go_ret
            exact ⟨rfl, B5⟩
end Go.Proofs.Ytkbgbccehijckaa
