/- FnExactTimeText: the law's own walk. -/
import Derived.Test.YtbbbmdidmnhpmaaDoorTs
import Derived.Test.YtbbbmdidmnhpmaaDoorLExDateText
namespace Go.Proofs.YtbbbmdidmnhpmaaDoor
open Go.RowKit
set_option linter.unusedVariables false
/-- What both programs answer at a time. -/
theorem timeText_both (n : Int) : ∃ T : ByteArray, (∀ w0 : World, Calls Tryd.prog 19 #[.int .i64 n] w0 fun e w' => e = .returned (.string T) ∧ Below w0.heap.size w0 w') ∧ (∀ w0 : World, Tab w0 → Pow w0 → Calls Tryd.prog 17 #[.int .i64 n] w0 fun e w' => e = .returned (.string T) ∧ Below w0.heap.size w0 w') := by
  cases hn : tiB n with
  | true =>
    have hb := (ti_iff n).1 hn
    obtain ⟨y, m, d, ok, hq⟩ := date_ex (n / 1440) (by omega) (by omega)
    obtain ⟨a, b, c, rfl, rfl, rfl, ha, hb, hc⟩ := okD_nat ok
    exact ⟨_, fun w0 => specTimeText_yes n a b c (n / 60 % 24).toNat (n % 60).toNat w0 hn ok hq ha hb hc (by omega) (by omega), fun w0 t p => implTimeText_yes n a b c (n / 60 % 24).toNat (n % 60).toNat w0 t p hn ok hq ha hb hc (by omega) (by omega)⟩
  | false => exact ⟨_, fun w0 => specTimeText_no n w0 hn, fun w0 t p => implTimeText_no n w0 hn⟩
set_option maxHeartbeats 4000000 in
theorem lawExTimeText (n : Int) (w : World) (hw : (Lit.int .i64 n).wf = true) (ht : Tab w) (hP : Pow w) :
    Calls Tryd.prog 7 #[.int .i64 n] w fun e w' => e = .returned (.bool true) ∧ Below w.heap.size w w' := by
  have HT : Hid (Tab w) := ht
  have HP : Hid (Pow w) := hP
  obtain ⟨T, hS, hI⟩ := timeText_both n
  have HS : Hid (∀ w0 : World, Calls Tryd.prog 19 #[.int .i64 n] w0 fun e w' => e = .returned (.string T) ∧ Below w0.heap.size w0 w') := hS
  have HI : Hid (∀ w0 : World, Tab w0 → Pow w0 → Calls Tryd.prog 17 #[.int .i64 n] w0 fun e w' => e = .returned (.string T) ∧ Below w0.heap.size w0 w') := hI
  clear ht hP hS hI
  go_enter Tryd.func7, Tryd.ntmps7
  go_wp2_with fail
  refine (HS.out _).mono ?_
  rintro e w1 ⟨rfl, b1⟩
  go_wp2_with fail
  refine (HI.out _ (HT.out.on b1) (HP.out.on b1)).mono ?_
  rintro e w2 ⟨rfl, b2⟩
  have B := bstep b1 b2
  go_wp2
  go_ret
  exact ⟨rfl, B⟩
end Go.Proofs.YtbbbmdidmnhpmaaDoor
