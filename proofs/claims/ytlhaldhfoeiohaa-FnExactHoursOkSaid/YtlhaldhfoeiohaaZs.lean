/- Zones of the specification: when one is ok. -/
import Derived.Test.YtlhaldhfoeiohaaZn
namespace Go.Proofs.Ytlhaldhfoeiohaa
open Go.RowKit
set_option linter.unusedVariables false
set_option maxHeartbeats 8000000 in
theorem specZoneOk (s : ByteArray) (sh : Int) (a : Option Addr) (cap : Nat) (ts : List (Int × Int)) (w : World) (h : IsTurns w a ts) (hl : ts.length ≤ 2000000) (hs : s.size ≤ maxLen) (r : Bool) (hr : r = true ↔ TrOk ts) :
    Calls Try.prog 25 #[.agg #[.string s, .int .i64 sh, .slice a ts.length cap]] w fun e w' => e = .returned (.bool (znB s sh r)) ∧ Below w.heap.size w w' := by
  have hb0 : Below w.heap.size w (w.alloc (.cells #[.string s, .int .i64 sh, .slice a ts.length cap] 43)) := (Below.refl _ _).alloc (Nat.le_refl _) _
  have HT : Hid (IsTurns w a ts) := h
  have HRR : Hid (r = true ↔ TrOk ts) := hr
  have ZF : Hid (r = false → znB s sh r = false) := fun e => by unfold znB; rw [e, Bool.and_false, Bool.and_false]
  clear h hr
  go_enter Try.func25, Try.ntmps25
  go_wp2
  go_loopw [3] (fun i wr => ∃ k : Nat, k ≤ ts.length ∧ i = .int .i64 k ∧ (∀ j, j < k → stepOk ts j) ∧ w.heap.size < wr.heap.size ∧ wr.cell? ⟨w.heap.size, 0, none⟩ = some (.string s) ∧ wr.cell? ⟨w.heap.size, 1, none⟩ = some (.int .i64 sh) ∧ wr.cell? ⟨w.heap.size, 2, none⟩ = some (.slice a ts.length cap) ∧ Below w.heap.size w wr) (fun i _ => ts.length - (intOf i).toNat)
  case atStart => exact ⟨0, by omega, rfl, fun j h => by omega, by simp, by simp, by simp, by simp, hb0⟩
  case round =>
    obtain ⟨k, hk, rfl, ha, hsz, z0, z1, z2, hb⟩ := hrel
    have HA : Hid (∀ j, j < k → stepOk ts j) := ha
    clear ha
    by_cases hlt : k < ts.length
    · have HS : Hid (stepOk ts k ↔ (0 ≤ tAt ts k ∧ tAt ts k ≤ 5258964959) ∧ (-1440 ≤ tSh ts k ∧ tSh ts k ≤ 1440) ∧ (0 < k → tAt ts (k - 1) + 10080 ≤ tAt ts k)) := Iff.rfl
      have BAD : Hid (¬ stepOk ts k → znB s sh r = false) := fun hn => ZF.out (by
        cases hrr : r with
        | false => rfl
        | true => exact absurd ((HRR.out.1 hrr).2 k hlt) hn)
      have GOOD : Hid (stepOk ts k → ∀ j, j < k + 1 → stepOk ts j) := fun hg j hj => by
        by_cases hjk : j = k
        · subst hjk; exact hg
        · exact HA.out j (by omega)
      have HT2 := HT.out
      rcases HT2 with HT2 | ⟨b, off, rfl, hbs, hc⟩
      · rw [HT2] at hlt; simp at hlt
      have c0 : wr.cell? ⟨b, off + k * 2, none⟩ = some (.int .i64 (tAt ts k)) := by rw [hb.cell (p := ⟨b, off + k * 2, none⟩) hbs]; exact (hc k hlt).1
      have c1 : wr.cell? ⟨b, off + k * 2 + 1, none⟩ = some (.int .i64 (tSh ts k)) := by rw [hb.cell (p := ⟨b, off + k * 2 + 1, none⟩) hbs]; exact (hc k hlt).2
      have hi0 : (0 : Int) ≤ (k : Int) := by omega
      have hi1 : (k : Int) < (ts.length : Int) := by omega
      cases ht : tiB (tAt ts k) with
      | false =>
        have HB : Hid (znB s sh r = false) := BAD.out (fun hs => (ti_not _).1 ht (HS.out.1 hs).1)
        clear hc
        go_wp2
        go_quiet ((first | (go_at_call 39; exact Calls.quiet_of_same (specTime _ _ false ht))))
        go_wp2
        go_ret
        exact ⟨ret_b HB.out.symm, Below.drewN' hb _⟩
      | true =>
        have tb := (ti_iff _).1 ht
        cases hsb : shB (tSh ts k) with
        | false =>
          have HB : Hid (znB s sh r = false) := BAD.out (fun h => (sh_not _).1 hsb (HS.out.1 h).2.1)
          clear hc
          go_wp2
          go_quiet ((first | (go_at_call 39; exact Calls.quiet_of_same (specTime _ _ true ht)) | (go_at_call 15; exact Calls.quiet_of_same (specInR _ _ _ _ false hsb))))
          go_wp2
          go_ret
          exact ⟨ret_b HB.out.symm, Below.drewN' hb _⟩
        | true =>
          have sb := (sh_iff _).1 hsb
          by_cases hk0 : 0 < k
          · have pb : 0 ≤ tAt ts (k - 1) ∧ tAt ts (k - 1) ≤ 5258964959 := (HA.out (k - 1) (by omega)).1
            have p0 : wr.cell? ⟨b, off + (k - 1) * 2, none⟩ = some (.int .i64 (tAt ts (k - 1))) := by rw [hb.cell (p := ⟨b, off + (k - 1) * 2, none⟩) hbs]; exact (hc (k - 1) (by omega)).1
            clear hc
            obtain ⟨j, rfl⟩ : ∃ j, k = j + 1 := ⟨k - 1, by omega⟩
            simp only [Nat.add_sub_cancel] at pb p0 HS
            have q1 := IntWalk.i64_in (tAt ts j + 10080) (by omega)
            have q2 := IntWalk.i64_in ((j : Int) + 1 - 1) (by omega)
            by_cases hd : tAt ts (j + 1) < tAt ts j + 10080
            · have HB : Hid (znB s sh r = false) := BAD.out (fun h => by have := (HS.out.1 h).2.2 (by omega); omega)
              go_wp2
              go_quiet ((first | (go_at_call 39; exact Calls.quiet_of_same (specTime _ _ true ht)) | (go_at_call 15; exact Calls.quiet_of_same (specInR _ _ _ _ true hsb))))
              go_wp2
              go_ret
              exact ⟨ret_b HB.out.symm, Below.drewN' hb _⟩
            · have HG : Hid (∀ i, i < j + 1 + 1 → stepOk ts i) := GOOD.out (HS.out.2 ⟨tb, sb, fun _ => by omega⟩)
              go_wp2
              go_quiet ((first | (go_at_call 39; exact Calls.quiet_of_same (specTime _ _ true ht)) | (go_at_call 15; exact Calls.quiet_of_same (specInR _ _ _ _ true hsb))))
              go_wp2
              go_roundw
              case rel => exact ⟨j + 1 + 1, by omega, by go_num, HG.out, hsz, z0, z1, z2, Below.drewN' hb _⟩
              case measure => simp [intOf]; omega
          · have hk00 : k = 0 := by omega
            subst hk00
            simp only [Nat.zero_mul, Nat.add_zero] at c0 c1
            clear hc
            have HG : Hid (∀ i, i < 0 + 1 → stepOk ts i) := GOOD.out (HS.out.2 ⟨tb, sb, fun h => absurd h (by omega)⟩)
            go_wp2
            go_quiet ((first | (go_at_call 39; exact Calls.quiet_of_same (specTime _ _ true ht)) | (go_at_call 15; exact Calls.quiet_of_same (specInR _ _ _ _ true hsb))))
            go_wp2
            go_roundw
            case rel => exact ⟨0 + 1, by omega, by go_num, HG.out, hsz, z0, z1, z2, Below.drewN' hb _⟩
            case measure => simp [intOf]; omega
    · have e8 : r = decide (ts.length ≤ 8) := by
        rw [Bool.eq_iff_iff, HRR.out, decide_eq_true_iff]
        exact ⟨fun h => h.1, fun h => ⟨h, fun i hi => HA.out i (by omega)⟩⟩
      have E8 : Hid (r = decide (ts.length ≤ 8)) := e8
      clear e8
      cases hn : nmB s with
      | false =>
        have HZ : Hid (znB s sh r = false) := by unfold Hid znB; rw [hn, Bool.false_and]
        have HN : Hid (nmB s = false) := hn
        clear hn
        go_wp2_with fail
        refine (specName s _ hs).mono ?_
        rintro e w' ⟨rfl, rfl⟩
        rw [HN.out]
        go_wp2
        go_ret
        exact ⟨ret_b HZ.out.symm, hb⟩
      | true =>
        have HN : Hid (nmB s = true) := hn
        cases hsh : shB sh with
        | false =>
          have HZ : Hid (znB s sh r = false) := by unfold Hid znB; rw [hsh, Bool.false_and, Bool.and_false]
          clear hn
          go_wp2_with fail
          refine (specName s _ hs).mono ?_
          rintro e w' ⟨rfl, rfl⟩
          rw [HN.out]
          go_wp2_with (go_at_call 15; refine (specInR _ _ _ _ false hsh).mono ?_; rintro e w' ⟨rfl, rfl⟩)
          go_ret
          exact ⟨ret_b HZ.out.symm, hb⟩
        | true =>
          have HZ : Hid (znB s sh r = decide ((ts.length : Int) ≤ 8)) := by
            unfold Hid znB; rw [hn, hsh, Bool.true_and, Bool.true_and, E8.out, Bool.eq_iff_iff, decide_eq_true_iff, decide_eq_true_iff]; omega
          clear hn
          go_wp2_with fail
          refine (specName s _ hs).mono ?_
          rintro e w' ⟨rfl, rfl⟩
          rw [HN.out]
          go_wp2_with (go_at_call 15; refine (specInR _ _ _ _ true hsh).mono ?_; rintro e w' ⟨rfl, rfl⟩)
          go_ret
          exact ⟨ret_b HZ.out.symm, hb⟩
end Go.Proofs.Ytlhaldhfoeiohaa
