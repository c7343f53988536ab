/- ZoneWorld of the specification. -/
import Derived.Test.YtihklmbblbnihaaZw
namespace Go.Proofs.Ytihklmbblbnihaa
open Go.RowKit
set_option linter.unusedVariables false
set_option maxHeartbeats 8000000 in
theorem specZoneWorld (s : ByteArray) (sh : Int) (a : Option Addr) (cap : Nat) (ts : List (Int × Int)) (x : Int) (q : Int) (w : World) (h : IsTurns w a ts) (hl : ts.length ≤ 2000000) (hs : s.size ≤ maxLen) (r : Bool) (hr : r = true ↔ TrOk ts) (HQ : Hid (ZW sh ts x q)) :
    Calls Try.prog 24 #[.agg #[.string s, .int .i64 sh, .slice a ts.length cap], .int .i64 x] w fun e w' => e = .returned (.int .i64 (zwz s sh r x q)) ∧ Below w.heap.size w w' := by
  have hb0 := (Below.refl w.heap.size w).alloc (Nat.le_refl _) (.cells #[.string s, .int .i64 sh, .slice a ts.length cap] 25)
  have HT : Hid (IsTurns (w.alloc (.cells #[.string s, .int .i64 sh, .slice a ts.length cap] 25)) a ts) := h.below (B := 0) hb0
  have HR : Hid (r = true ↔ TrOk ts) := hr
  clear h hr
  cases hz : znB s sh r with
  | false =>
    have HV : Hid (zwz s sh r x q = -1) := if_neg (by rw [hz]; exact fun h => Bool.noConfusion h.1)
    have HZ : Hid (znB s sh r = false) := hz
    clear hz
    go_enter Try.func24, Try.ntmps24
    go_wp2_with fail
    refine (specZoneOk s sh a cap ts _ HT.out hl hs r HR.out).mono ?_
    rintro e w1 ⟨rfl, hb1⟩
    rw [HZ.out]
    have hbw := bstep hb0 hb1
    go_wp2
    go_ret
    exact ⟨ret_i HV.out.symm, hbw⟩
  | true =>
    have HZ : Hid (znB s sh r = true) := hz
    cases ht : tiB x with
    | false =>
      have HV : Hid (zwz s sh r x q = -1) := if_neg (by rw [ht]; exact fun h => Bool.noConfusion h.2)
      clear hz
      go_enter Try.func24, Try.ntmps24
      go_wp2_with fail
      refine (specZoneOk s sh a cap ts _ HT.out hl hs r HR.out).mono ?_
      rintro e w1 ⟨rfl, hb1⟩
      rw [HZ.out]
      have hbw := bstep hb0 hb1
      go_wp2_with (first | (go_at_call 35; refine (specTime _ _ false ht).mono ?_; rintro e w' ⟨rfl, rfl⟩))
      go_ret
      exact ⟨ret_i HV.out.symm, hbw⟩
    | true =>
      have hv : zwz s sh r x q = q := if_pos ⟨hz, ht⟩
      have xb := (ti_iff _).1 ht
      obtain ⟨ok, sb⟩ := zn_parts hz HR.out
      have OK : Hid (TrOk ts) := ok
      obtain ⟨q', hq, eq⟩ := RW.of sb ok HQ.out
      have HQ' : Hid (RW sh ts x q') := hq
      have HV : Hid (zwz s sh r x q = if tiB q' = true then q' else -1) := by unfold Hid; rw [hv]; exact eq
      clear hz ok hq eq hv
      cases ht2 : tiB q' with
      | true =>
        have HV2 : Hid (zwz s sh r x q = q') := by unfold Hid; rw [HV.out, if_pos ht2]
        go_enter Try.func24, Try.ntmps24
        go_wp2_with fail
        refine (specZoneOk s sh a cap ts _ HT.out hl hs r HR.out).mono ?_
        rintro e w1 ⟨rfl, hb1⟩
        rw [HZ.out]
        have T1 := HT.out.below (B := 0) hb1
        have hbw := bstep hb0 hb1
        obtain ⟨c0, c1, c2⟩ := C3.on (C3.new w (.string s) (.int .i64 sh) (.slice a ts.length cap) 25) hb1
        clear hb1 hb0
        go_wp2_with (first | (go_at_call 35; refine (specTime _ _ true ht).mono ?_; rintro e w' ⟨rfl, rfl⟩))
        refine (specWorld s sh a cap ts x q' _ T1 OK.out sb xb.1 xb.2 HQ'.out).mono ?_
        rintro e w2 ⟨rfl, hb2⟩
        have B := bstep hbw hb2
        clear hb2
        go_wp2_with (first | (go_at_call 35; refine (specTime _ _ true ht2).mono ?_; rintro e w' ⟨rfl, rfl⟩))
        go_ret
        exact ⟨ret_i HV2.out.symm, B⟩
      | false =>
        have HV2 : Hid (zwz s sh r x q = -1) := by unfold Hid; rw [HV.out, if_neg (by rw [ht2]; exact Bool.false_ne_true)]
        go_enter Try.func24, Try.ntmps24
        go_wp2_with fail
        refine (specZoneOk s sh a cap ts _ HT.out hl hs r HR.out).mono ?_
        rintro e w1 ⟨rfl, hb1⟩
        rw [HZ.out]
        have T1 := HT.out.below (B := 0) hb1
        have hbw := bstep hb0 hb1
        obtain ⟨c0, c1, c2⟩ := C3.on (C3.new w (.string s) (.int .i64 sh) (.slice a ts.length cap) 25) hb1
        clear hb1 hb0
        go_wp2_with (first | (go_at_call 35; refine (specTime _ _ true ht).mono ?_; rintro e w' ⟨rfl, rfl⟩))
        refine (specWorld s sh a cap ts x q' _ T1 OK.out sb xb.1 xb.2 HQ'.out).mono ?_
        rintro e w2 ⟨rfl, hb2⟩
        have B := bstep hbw hb2
        clear hb2
        go_wp2_with (first | (go_at_call 35; refine (specTime _ _ false ht2).mono ?_; rintro e w' ⟨rfl, rfl⟩))
        go_ret
        exact ⟨ret_i HV2.out.symm, B⟩
end Go.Proofs.Ytihklmbblbnihaa
