/- FnBusy: the law's own walk. -/
import Derived.Test.YtddjbcggdmeidaaSu
import Derived.Test.YtddjbcggdmeidaaSq
import Derived.Test.YtddjbcggdmeidaaCf
namespace Go.Proofs.Ytddjbcggdmeidaa
open Go.RowKit
set_option linter.unusedVariables false
set_option maxRecDepth 100000 in
set_option maxHeartbeats 16000000 in
theorem lawBusy (a : Option Addr) (len cap : Nat) (a' : Option Addr) (len' cap' : Nat) (w : World) (h : IsCode w a len cap) (h' : IsCode w a' len' cap') :
    Calls Try.prog 3 #[.slice a len cap, .slice a' len' cap'] w fun e w' => e = .returned (.bool true) ∧ Below w.heap.size w w' := by
  have hlen := h.1
  have hlen' := h'.1
  clear h'
  by_cases hl : (len : Int) > 1048576
  · go_enter Try.func3, Try.ntmps3
    go_wp2
    go_ret
    exact ⟨rfl, Below.refl _ _⟩
  · by_cases hl' : (len' : Int) > 1048576
    · go_enter Try.func3, Try.ntmps3
      go_wp2
      go_ret
      exact ⟨rfl, Below.refl _ _⟩
    · go_enter Try.func3, Try.ntmps3
      go_wp2_with fail
      refine (drawBusy w a len cap h).mono ?_
      rintro e w1 ⟨v, rfl, ss, D, l15⟩
      obtain ⟨va, vc, rfl⟩ := D.own.shape0
      have HT : Hid (IsTurns w1 va ss) := D.own.isT.1
      have HB1 : Hid (Below w.heap.size w w1) := D.bel
      have HSM : Hid (SmS ss) := D.sm
      have l3 : ss.length ≤ 300 := by omega
      have lb3 : (busyL (onesL ss)).length ≤ 300 := by have := busy_bd ss (by omega); omega
      have lb : (busyL (onesL ss)).length ≤ 2000000 := by omega
      clear D h
      go_wp2_with fail
      with_reducible refine (implBusy _ _ _ _ HT.out l3).mono ?_
      rintro e w2 ⟨⟨u, rfl, O2⟩, b2⟩
      obtain ⟨ua, uc, rfl⟩ := O2.shape0
      have HU : Hid (IsTurns w2 ua (busyL (onesL ss))) := O2.isT.1
      clear O2
      go_wp2_with fail
      with_reducible refine (specBusy _ _ _ _ (HT.out.below (B := 0) b2) l3).mono ?_
      rintro e w3 ⟨⟨x, rfl, O3⟩, b3⟩
      obtain ⟨xa, xc, rfl⟩ := O3.shape0
      go_wp2_with fail
      with_reducible refine (lawEpSpans _ _ _ _ _ _ _ (HU.out.below (B := 0) b3) O3.isT.1 lb lb true (decide_eq_true rfl)).mono ?_
      rintro e w4 ⟨rfl, b4⟩
      have b34 := bstep b3 b4
      have HU4 : Hid (IsTurns w4 ua (busyL (onesL ss))) := HU.out.below (B := 0) b34
      have HT4 : Hid (IsTurns w4 va ss) := HT.out.below (B := 0) (bstep b2 b34)
      have HB4 : Hid (Below w.heap.size w w4) := bstep HB1.out (bstep b2 b34)
      clear O3 b2 b3 b4 b34 HU HT HB1
      have t0 : 0 ≤ (len' : Int) % 400 := by omega
      generalize hT : (len' : Int) % 400 = t at t0
      have HTT : Hid ((len' : Int) % 400 = t) := hT
      go_wp2
      rw [hT]
      clear hT
      go_loopw [8, 9] (fun sv iv wr => ∃ k : Nat, k ≤ ss.length ∧ iv = .int .i64 k ∧ sv = .bool (someB (ss.take k) t) ∧ Below w4.heap.size w4 wr) (fun _ iv _ => ss.length - (intOf iv).toNat)
      case atStart => exact ⟨0, by omega, rfl, by simp [someB], Below.refl _ _⟩
      case round =>
        obtain ⟨k, hk, rfl, rfl, hb⟩ := hrel
        by_cases hlt : k < ss.length
        · have T := HT4.out.below (B := 0) hb
          rcases T with T | ⟨b, off, rfl, hbs, hc⟩
          · rw [T] at hlt; simp at hlt
          obtain ⟨c0, c1⟩ := hc k hlt
          have hi0 : (0 : Int) ≤ (k : Int) := by omega
          have hi1 : (k : Int) < (ss.length : Int) := by omega
          have HS2 : Hid (someB (ss.take (k + 1)) t = (someB (ss.take k) t || decide (0 ≤ tAt ss k ∧ tAt ss k ≤ t ∧ t < tSh ss k))) := someB_take ss t k hlt
          clear hc
          generalize tAt ss k = X at *
          generalize tSh ss k = Y at *
          cases hq : someB (ss.take k) t with
          | true =>
            have HS3 : Hid (someB (ss.take (k + 1)) t = true) := by unfold Hid; rw [HS2.out, hq]; rfl
            go_wp2
            go_roundw
            case rel => exact ⟨k + 1, by omega, by go_num, by rw [HS3.out], hb⟩
            case measure => simp [intOf]; omega
          | false =>
            have HS3 : Hid (someB (ss.take (k + 1)) t = decide (0 ≤ X ∧ X ≤ t ∧ t < Y)) := by unfold Hid; rw [HS2.out, hq, Bool.false_or]
            by_cases x0 : 0 ≤ X
            · by_cases x1 : X ≤ t
              · have HS4 : Hid (someB (ss.take (k + 1)) t = decide (t < Y)) := by unfold Hid; rw [HS3.out]; simp [x0, x1]
                go_wp2
                go_roundw
                case rel => exact ⟨k + 1, by omega, by go_num, by rw [HS4.out], hb⟩
                case measure => simp [intOf]; omega
              · have HS4 : Hid (someB (ss.take (k + 1)) t = false) := by unfold Hid; rw [HS3.out]; simp [x1]
                go_wp2
                go_roundw
                case rel => exact ⟨k + 1, by omega, by go_num, by rw [HS4.out], hb⟩
                case measure => simp [intOf]; omega
            · have HS4 : Hid (someB (ss.take (k + 1)) t = false) := by unfold Hid; rw [HS3.out]; simp [x0]
              go_wp2
              go_roundw
              case rel => exact ⟨k + 1, by omega, by go_num, by rw [HS4.out], hb⟩
              case measure => simp [intOf]; omega
        · obtain rfl : k = ss.length := by omega
          have HSA : Hid (inL (busyL (onesL ss)) t = someB (ss.take ss.length) t) := by unfold Hid; rw [List.take_length]; exact busy_in ss HSM.out t
          have HOK : Hid (SpOk (busyL (onesL ss))) := busy_ok ss (by omega)
          have HAG : Hid (busyL (onesL (busyL (onesL ss))) = busyL (onesL ss)) := busy_again ss (by omega)
          have HU5 := HU4.out.below (B := 0) hb
          generalize someB (ss.take ss.length) t = sb at HSA ⊢
          go_wp2_with fail
          with_reducible refine (implSpansOk _ _ _ _ HU5 lb true ⟨fun _ => HOK.out, fun _ => rfl⟩).mono ?_
          rintro e w5 ⟨rfl, b5⟩
          go_wp2_with fail
          with_reducible refine (lawEpIn _ _ _ _ _ (HU5.below (B := 0) b5) lb sb HSA.out).mono ?_
          rintro e w6 ⟨rfl, b6⟩
          have b56 := bstep b5 b6
          have IB := fun cc => implBusy ua cc (busyL (onesL ss)) w6 (HU5.below (B := 0) b56) lb3
          rw [HAG.out] at IB
          cases sb <;>
          · go_wp2_with fail
            refine (IB _).mono ?_
            rintro e w7 ⟨⟨y, rfl, O7⟩, b7⟩
            obtain ⟨ya, yc, rfl⟩ := O7.shape0
            have b57 := bstep b56 b7
            go_wp2_with fail
            with_reducible refine (lawEpSpans _ _ _ _ _ _ _ O7.isT.1 (HU5.below (B := 0) b57) lb lb true (decide_eq_true rfl)).mono ?_
            rintro e w8 ⟨rfl, b8⟩
            have B8 := bstep HB4.out (bstep hb (bstep b57 b8))
            clear O7 b7 b57 b8 IB b5 b6 b56
            go_wp2
            go_ret
            exact ⟨rfl, B8⟩
end Go.Proofs.Ytddjbcggdmeidaa
