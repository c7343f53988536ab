/- A number in so many figures: the specification's and the program's. -/
import Derived.Test.YtdcohpokfdaknaaDoorTp
import Derived.Test.YtdcohpokfdaknaaDoorShf
import Derived.Lib.SmallJoins
import Derived.Lib.AppendIntMem
namespace Go.Proofs.YtdcohpokfdaknaaDoor
open Go.RowKit
set_option linter.unusedVariables false
/-- The library's table of tens, as its contracts read it. -/
def Pow (w : World) : Prop := Lib.TabIs Tryd.prog w "internal/strconv.uint64pow10" .u64 Lib.pow10Tab
theorem gPow : Tryd.prog.globalNamed "internal/strconv.uint64pow10" = some 4 := by kernel_rfl
theorem Pow.on {w w' : World} (h : Pow w) (hb : Below w.heap.size w w') : Pow w' := Joins.tab_stays gPow h hb (Nat.le_refl _)
set_option maxHeartbeats 4000000 in
theorem specPad (n k m : Nat) (w : World) (h : n < 10000) (hk : m + (dec n).size = k) (k9 : k ≤ 9) : Calls Tryd.prog 51 #[.int .i64 n, .int .i64 k] w fun e w' => e = .returned (.string (pad n k)) ∧ Below w.heap.size w w' := by
  have HS : Hid ((k : Int) - ((dec n).size : Int) = (m : Int)) := by unfold Hid; omega
  have HP : Hid (pad n k = zeros m ++ dec n) := by unfold Hid pad; congr 2; omega
  have zm := zeros_size m
  have k9i : (k : Int) ≤ 9 := by omega
  have d9 : (dec n).size ≤ 9 := by omega
  go_enter Tryd.func51, Tryd.ntmps51
  go_wp2_with (go_at_call 30; refine (specDec n h _).mono ?_; rintro e w1 ⟨rfl, b1⟩)
  rw [HS.out]
  refine (specMany m _ (by omega)).mono ?_
  rintro e w2 ⟨rfl, rfl⟩
  go_wp2
  go_ret
  exact ⟨by rw [HP.out]; rfl, b1⟩
theorem implItoa (n : Nat) (w : World) (h : n < 10000) (hP : Pow w) : Calls Tryd.prog 18 #[.int .i64 n] w fun e w' => e = .returned (.string (dec n)) ∧ Below w.heap.size w w' :=
  (Any.strconv_Itoa laysM171 (n : Int) (by omega) (by omega) w hP).mono fun e w' ⟨he, k, os, hw⟩ => ⟨by rw [he, itoa_nat], by rw [hw]; exact Lib.below_grow _ w (Nat.le_refl _) k os⟩
theorem implRepeat (m : Nat) (w : World) (h : m ≤ 9) : Calls Tryd.prog 62 #[.string ⟨#[48]⟩, .int .i64 m] w fun e w' => e = .returned (.string (zeros m)) ∧ Below w.heap.size w w' :=
  (Any.strings_Repeat lays105 Builder_Extra_105 ⟨#[48]⟩ m w (by omega) (by show 1 * m ≤ _; omega)).mono fun e w' ⟨he, hw⟩ => ⟨by rw [he]; exact congrArg (fun b => Ending.returned (Value.string b)) (repeat_zeros ⟨#[48]⟩ rfl m), hw⟩
set_option maxHeartbeats 4000000 in
theorem implFig (n k m : Nat) (w : World) (h : n < 10000) (hk : m + (dec n).size = k) (k9 : k ≤ 9) (hP : Pow w) : Calls Tryd.prog 45 #[.int .i64 n, .int .i64 k] w fun e w' => e = .returned (.string (pad n k)) ∧ Below w.heap.size w w' := by
  have HS : Hid ((k : Int) - ((dec n).size : Int) = (m : Int)) := by unfold Hid; omega
  have HP : Hid (pad n k = zeros m ++ dec n) := by unfold Hid pad; congr 2; omega
  have HQ : Hid (Pow w) := hP
  have zm := zeros_size m
  have k9i : (k : Int) ≤ 9 := by omega
  have d9 : (dec n).size ≤ 9 := by omega
  clear hP
  go_enter Tryd.func45, Tryd.ntmps45
  go_wp2_with (go_at_call 18; refine (implItoa n _ h HQ.out).mono ?_; rintro e w1 ⟨rfl, b1⟩)
  rw [HS.out]
  refine (implRepeat m _ (by omega)).mono ?_
  rintro e w2 ⟨rfl, b2⟩
  have bb := bstep b1 b2
  go_wp2
  go_ret
  exact ⟨by rw [HP.out]; rfl, bb⟩
end Go.Proofs.YtdcohpokfdaknaaDoor
