/- What is drawn for the laws of spans. -/
import Derived.Test.YtkbgbccehijckaaDs
import Derived.Test.YtkbgbccehijckaaDr
namespace Go.Proofs.Ytkbgbccehijckaa
open Go.RowKit
set_option linter.unusedVariables false
/-- Spans that were drawn behind a world. -/
structure SD (w : World) (v : Value) (ss : List (Int × Int)) (W : World) : Prop where
  own : OP W w.heap.size 51 v ss
  bel : Below w.heap.size w W
  sm : SmS ss
theorem SD.of {w w1 W : World} {L : Nat} {v : Value} {ss : List (Int × Int)} (h : DS w1 w.heap.size L v ss W) (b : Below w.heap.size w w1) : SD w v ss W :=
  ⟨h.own.base b.size, b.trans ((h.but.mono b.size).below (Nat.le_refl _)), h.sm⟩
set_option maxHeartbeats 4000000 in
theorem drawFree (w : World) (a : Option Addr) (len cap : Nat) (h : IsCode w a len cap) :
    Calls Try.prog 22 #[.slice a len cap] w fun e w' => ∃ v x y, e = .returned (.tuple #[v, .int .i64 x, .int .i64 y]) ∧ (0 ≤ x ∧ x ≤ 255) ∧ (-5 ≤ y ∧ y ≤ 600) ∧ ∃ ss, SD w v ss w' ∧ List.length ss ≤ 7 := by
  go_enter Try.func22, Try.ntmps22
  go_wp2_with fail
  refine (open_any w a len cap h).mono ?_
  rintro e w1 ⟨rfl, r1, b1⟩
  go_wp2_with fail
  refine (pick_pos _ _ _ 0 r1 (by omega) (by omega)).mono ?_
  rintro e w2 ⟨⟨x, rfl, x0, x1⟩, r2, b2⟩
  have B2 : Below w.heap.size w w2 := b1.trans ((b2.mono b1.size).below (Nat.le_refl _))
  go_wp2_with fail
  refine (anyspans_any w2 _ _ r2 (by omega)).mono ?_
  rintro e w3 ⟨v, rfl, ss, D, l7⟩
  have hs2 := r2.size
  go_wp2_with fail
  refine (pick_pos _ _ _ _ D.rd (by omega) (by omega)).mono ?_
  rintro e w4 ⟨⟨y, rfl, y0, y1⟩, r4, b4⟩
  have D4 := D.picked hs2 r4 b4
  have HF : Hid (SD w v ss w4) := SD.of D4 B2
  have g1 := IntWalk.i64_in (x + y) (by omega)
  have g2 := IntWalk.i64_in (x + y - 5) (by omega)
  clear D D4 r1 b1 r2 b2 r4 b4 B2
  go_wp2
  refine bodyPost_ret (v := .tuple #[v, .int .i64 x, .int .i64 (x + y - 5)]) (by simp [results, Try.results22, go_sem]) rfl ⟨_, _, _, rfl, ⟨by omega, by omega⟩, ⟨by omega, by omega⟩, ss, HF.out, l7⟩
set_option maxHeartbeats 4000000 in
theorem drawSlotFirst (w : World) (a : Option Addr) (len cap : Nat) (h : IsCode w a len cap) :
    Calls Try.prog 28 #[.slice a len cap] w fun e w' => ∃ v x y n, e = .returned (.tuple #[v, .int .i64 x, .int .i64 y, .int .i64 n]) ∧ (0 ≤ x ∧ x ≤ 255) ∧ (-5 ≤ y ∧ y ≤ 600) ∧ (0 ≤ n ∧ n ≤ 20161) ∧ ∃ ss, SD w v ss w' ∧ List.length ss ≤ 7 := by
  go_enter Try.func28, Try.ntmps28
  go_wp2_with fail
  refine (open_any w a len cap h).mono ?_
  rintro e w1 ⟨rfl, r1, b1⟩
  go_wp2_with fail
  refine (pick_pos _ _ _ 0 r1 (by omega) (by omega)).mono ?_
  rintro e w2 ⟨⟨x, rfl, x0, x1⟩, r2, b2⟩
  have B2 : Below w.heap.size w w2 := b1.trans ((b2.mono b1.size).below (Nat.le_refl _))
  go_wp2_with fail
  refine (anyspans_any w2 _ _ r2 (by omega)).mono ?_
  rintro e w3 ⟨v, rfl, ss, D, l7⟩
  have hs2 := r2.size
  go_wp2_with fail
  refine (pick_pos _ _ _ _ D.rd (by omega) (by omega)).mono ?_
  rintro e w4 ⟨⟨y, rfl, y0, y1⟩, r4, b4⟩
  have D4 := D.picked hs2 r4 b4
  have g1 := IntWalk.i64_in (x + y) (by omega)
  have g2 := IntWalk.i64_in (x + y - 5) (by omega)
  go_wp2_with fail
  refine (one_list w4 _ _ D4.rd (by omega) 6 [1, 10, 30, 60, 0, 20161] rfl (by omega) (by omega) _ rfl).mono ?_
  rintro e w5 ⟨⟨n, rfl, hn⟩, r5, b5⟩
  have D5 := D4.picked hs2 r5 b5
  have HF : Hid (SD w v ss w5) := SD.of D5 B2
  have nb : 0 ≤ n ∧ n ≤ 20161 := by simp only [List.mem_cons, List.not_mem_nil, or_false] at hn; omega
  clear D D4 D5 r1 b1 r2 b2 r4 b4 r5 b5 B2 hn
  go_wp2
  refine bodyPost_ret (v := .tuple #[v, .int .i64 x, .int .i64 (x + y - 5), .int .i64 n]) (by simp [results, Try.results28, go_sem]) rfl ⟨_, _, _, _, rfl, ⟨by omega, by omega⟩, ⟨by omega, by omega⟩, nb, ss, HF.out, l7⟩
end Go.Proofs.Ytkbgbccehijckaa
