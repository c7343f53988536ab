/- What is drawn for the laws of plans. -/
import Derived.Test.YtkbgbccehijckaaDv
import Derived.Test.YtkbgbccehijckaaYd
import Derived.Test.YtkbgbccehijckaaYs
namespace Go.Proofs.Ytkbgbccehijckaa
open Go.RowKit
set_option linter.unusedVariables false
set_option maxHeartbeats 4000000 in
theorem drawSpansBoth (w : World) (a : Option Addr) (len cap : Nat) (h : IsCode w a len cap) :
    Calls Try.prog 33 #[.slice a len cap] w fun e w' => ∃ v v', e = .returned (.tuple #[v, v']) ∧ ∃ ss tt, SD w v ss w' ∧ SD w v' tt w' ∧ List.length ss ≤ 7 ∧ List.length tt ≤ 7 := by
  go_enter Try.func33, Try.ntmps33
  go_wp2_with fail
  refine (open_any w a len cap h).mono ?_
  rintro e w1 ⟨rfl, r1, b1⟩
  have hs1 := r1.size
  go_wp2_with fail
  refine (anyspans_any w1 _ 0 r1 (by omega)).mono ?_
  rintro e w2 ⟨v, rfl, ss, D, l7⟩
  have B2 := (SD.of D b1).bel
  go_wp2_with fail
  refine (anyspans_any w2 _ _ D.rd (by omega)).mono ?_
  rintro e w3 ⟨v', rfl, tt, D', k7⟩
  have HF : Hid (SD w v ss w3) := SD.of (D.picked hs1 D'.rd D'.but) b1
  have HF' : Hid (SD w v' tt w3) := SD.of D' B2
  clear D D' r1 b1 B2 hs1
  go_wp2
  refine bodyPost_ret (v := .tuple #[v, v']) (by simp [results, Try.results33, go_sem]) rfl ⟨_, _, rfl, ss, tt, HF.out, HF'.out, l7, k7⟩
set_option maxHeartbeats 4000000 in
theorem drawSlotList (w : World) (a : Option Addr) (len cap : Nat) (h : IsCode w a len cap) :
    Calls Try.prog 36 #[.slice a len cap] w fun e w' => ∃ v x y n m, e = .returned (.tuple #[v, .int .i64 x, .int .i64 y, .int .i64 n, .int .i64 m]) ∧ (0 ≤ x ∧ x ≤ 255) ∧ (-5 ≤ y ∧ y ≤ 600) ∧ (0 ≤ n ∧ n ≤ 60) ∧ (-1 ≤ m ∧ m ≤ 41) ∧ ∃ ss, SD w v ss w' ∧ List.length ss ≤ 7 := by
  go_enter Try.func36, Try.ntmps36
  go_wp2_with fail
  refine (open_any w a len cap h).mono ?_
  rintro e w1 ⟨rfl, r1, b1⟩
  go_wp2_with fail
  refine (pick_pos _ _ _ 0 r1 (by omega) (by omega)).mono ?_
  rintro e w2 ⟨⟨x, rfl, x0, x1⟩, r2, b2⟩
  have B2 : Below w.heap.size w w2 := b1.trans ((b2.mono b1.size).below (Nat.le_refl _))
  go_wp2_with fail
  refine (anyspans_any w2 _ _ r2 (by omega)).mono ?_
  rintro e w3 ⟨v, rfl, ss, D, l7⟩
  have hs2 := r2.size
  go_wp2_with fail
  refine (pick_pos _ _ _ _ D.rd (by omega) (by omega)).mono ?_
  rintro e w4 ⟨⟨y, rfl, y0, y1⟩, r4, b4⟩
  have D4 := D.picked hs2 r4 b4
  have g1 := IntWalk.i64_in (x + y) (by omega)
  have g2 := IntWalk.i64_in (x + y - 5) (by omega)
  go_wp2_with fail
  refine (one_list w4 _ _ D4.rd (by omega) 5 [1, 10, 30, 60, 0] rfl (by omega) (by omega) _ rfl).mono ?_
  rintro e w5 ⟨⟨n, rfl, hn⟩, r5, b5⟩
  have D5 := D4.picked hs2 r5 b5
  have nb : 0 ≤ n ∧ n ≤ 60 := by simp only [List.mem_cons, List.not_mem_nil, or_false] at hn; omega
  go_wp2_with fail
  refine (one_list w5 _ _ D5.rd (by omega) 6 [0, 1, 3, 40, 41, -1] rfl (by omega) (by omega) _ rfl).mono ?_
  rintro e w6 ⟨⟨m, rfl, hm⟩, r6, b6⟩
  have D6 := D5.picked hs2 r6 b6
  have HF : Hid (SD w v ss w6) := SD.of D6 B2
  have mb : -1 ≤ m ∧ m ≤ 41 := by simp only [List.mem_cons, List.not_mem_nil, or_false] at hm; omega
  clear D D4 D5 D6 r1 b1 r2 b2 r4 b4 r5 b5 r6 b6 B2 hn hm
  go_wp2
  refine bodyPost_ret (v := .tuple #[v, .int .i64 x, .int .i64 (x + y - 5), .int .i64 n, .int .i64 m]) (by simp [results, Try.results36, go_sem]) rfl ⟨_, _, _, _, _, rfl, ⟨by omega, by omega⟩, ⟨by omega, by omega⟩, nb, mb, ss, HF.out, l7⟩
end Go.Proofs.Ytkbgbccehijckaa
