/- FnSpansOk: the law's own walk. -/
import Derived.Test.YtcnemmmgnpociaaDv
import Derived.Test.YtcnemmmgnpociaaSq
import Derived.Test.YtcnemmmgnpociaaEpS
namespace Go.Proofs.Ytcnemmmgnpociaa
open Go.RowKit
set_option linter.unusedVariables false
set_option maxRecDepth 100000 in
set_option maxHeartbeats 8000000 in
theorem lawSpansOk (a : Option Addr) (len cap : Nat) (w : World) (h : IsCode w a len cap) :
    Calls Try.prog 7 #[.slice a len cap] w fun e w' => e = .returned (.bool true) ∧ Below w.heap.size w w' := by
  have hlen := h.1
  by_cases hl : (len : Int) > 1048576
  · go_enter Try.func7, Try.ntmps7
    go_wp2
    go_ret
    exact ⟨rfl, Below.refl _ _⟩
  · go_enter Try.func7, Try.ntmps7
    go_wp2_with fail
    refine (drawSpansOk w a len cap h).mono ?_
    rintro e w1 ⟨v, rfl, ss, D, l7⟩
    obtain ⟨va, vc, rfl⟩ := D.own.shape0
    obtain ⟨r, hr⟩ := sp_dec ss
    have HR : Hid (r = true ↔ SpOk ss) := hr
    have HT : Hid (IsTurns w1 va ss) := D.own.isT.1
    have B1 := D.bel
    have l2 : ss.length ≤ 2000000 := by omega
    have l3 : ss.length ≤ 300 := by omega
    have HL : Hid (decide (busyL (onesL ss) = ss) = r) := spans_law ss l3 r hr
    have lb : (busyL (onesL ss)).length ≤ 2000000 := by
      have h1 := busyL_len (onesL ss)
      have h2 := onesL_len ss ss.length
      rw [List.take_length] at h2
      omega
    clear D hr h
    go_wp2_with fail
    with_reducible refine (implSpansOk _ _ _ _ HT.out l2 r HR.out).mono ?_
    rintro e w2 ⟨rfl, b2⟩
    go_wp2_with fail
    with_reducible refine (specSpansOk _ _ _ _ (HT.out.below (B := 0) b2) l2 r HR.out).mono ?_
    rintro e w3 ⟨rfl, b3⟩
    have b13 := bstep b2 b3
    clear b2 b3
    cases r <;>
    · go_wp2_with fail
      with_reducible refine (implBusy _ _ _ _ (HT.out.below (B := 0) b13) l3).mono ?_
      rintro e w4 ⟨⟨u, rfl, O4⟩, b4⟩
      obtain ⟨ua, uc, rfl⟩ := O4.shape0
      have b14 := bstep b13 b4
      go_wp2_with fail
      with_reducible refine (lawEpSpans _ _ _ _ _ _ _ O4.isT.1 (HT.out.below (B := 0) b14) lb l2 _ HL.out).mono ?_
      rintro e w5 ⟨rfl, b5⟩
      have B5 := bstep B1 (bstep b14 b5)
      clear O4 b4 b14 b5 b13
      go_wp2
      go_ret
      exact ⟨rfl, B5⟩
end Go.Proofs.Ytcnemmmgnpociaa
