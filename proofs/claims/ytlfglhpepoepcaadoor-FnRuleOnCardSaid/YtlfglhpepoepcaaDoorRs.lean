/- Rules of the specification: numbers and days of the week. -/
import Derived.Test.YtlfglhpepoepcaaDoorRw
namespace Go.Proofs.YtlfglhpepoepcaaDoor
open Go.RowKit
set_option linter.unusedVariables false
set_option maxHeartbeats 4000000 in
theorem specInts (a : Option Addr) (cap n : Nat) (l : List Int) (lo hi : Int) (w : World) (h : IsInts w a l) (hl : l.length ≤ 2000000) (hn : l.length = n) (r : Bool) (hr : nuB l lo hi = r) :
    Calls Tryd.prog 53 #[.slice a n cap, .int .i64 lo, .int .i64 hi] w fun e w' => e = .returned (.bool r) ∧ Below w.heap.size w w' := by
  subst hn
  have HI : Hid (IsInts w a l) := h
  have HR0 : Hid (nuB l lo hi = r) := hr
  clear h hr
  go_enter Tryd.func53, Tryd.ntmps53
  go_wp2
  go_loopw [7] (fun i wr => ∃ k : Nat, k ≤ l.length ∧ i = .int .i64 k ∧ (∀ j, j < k → nstB l lo hi j = true) ∧ Below w.heap.size w wr) (fun i _ => l.length - (intOf i).toNat)
  case atStart => exact ⟨0, by omega, rfl, fun j h => by omega, Below.refl _ _⟩
  case round =>
    obtain ⟨k, hk, rfl, ha, hb⟩ := hrel
    have HA : Hid (∀ j, j < k → nstB l lo hi j = true) := ha
    clear ha
    by_cases hlt : k < l.length
    · have I := HI.out.below hb
      rcases I with I | ⟨b, off, rfl, hbs, hc⟩
      · rw [I] at hlt; simp at hlt
      have c0 := hc k hlt
      have hi0 : (0 : Int) ≤ (k : Int) := by omega
      have hi1 : (k : Int) < (l.length : Int) := by omega
      have BAD : Hid (¬ ((lo ≤ gi l k ∧ gi l k ≤ hi) ∧ gi l k ≠ 0 ∧ (0 < k → gi l (k - 1) < gi l k)) → r = false) := fun hn => HR0.out.symm.trans (nu_bad hlt (by
        cases hx : nstB l lo hi k with
        | false => rfl
        | true => exact absurd ((nst_iff _ _ _ _).1 hx) hn))
      cases hv : inB (gi l k) lo hi with
      | false =>
        have hv' := (in_not _ _ _).1 hv
        have HB : Hid (r = false) := BAD.out (by omega)
        clear hc
        go_wp2
        go_quiet ((first | (go_at_call 51; exact Calls.quiet_of_same (specInR _ _ _ _ false hv))))
        go_wp2
        go_ret
        exact ⟨ret_b HB.out.symm, by first | exact hb | exact Below.drewN' hb _⟩
      | true =>
        have hv' := (in_iff _ _ _).1 hv
        by_cases n2 : gi l k = 0
        · have HB : Hid (r = false) := BAD.out (fun h => h.2.1 n2)
          have n3 : (gi l k == 0) = true := by simpa using n2
          clear hc n2
          go_wp2
          go_quiet ((first | (go_at_call 51; exact Calls.quiet_of_same (specInR _ _ _ _ true hv))))
          go_wp2
          go_ret
          exact ⟨ret_b HB.out.symm, by first | exact hb | exact Below.drewN' hb _⟩
        · have n4 : (gi l k == 0) = false := by simpa using n2
          by_cases hk0 : 0 < k
          · have p0 := hc (k - 1) (by omega)
            clear hc
            obtain ⟨j, rfl⟩ : ∃ j, k = j + 1 := ⟨k - 1, by omega⟩
            simp only [Nat.add_sub_cancel] at p0 BAD
            have q2 := IntWalk.i64_in ((j : Int) + 1 - 1) (by omega)
            by_cases n3 : gi l (j + 1) ≤ gi l j
            · have HB : Hid (r = false) := BAD.out (fun h => by have := h.2.2 (by omega); omega)
              go_wp2
              go_quiet ((first | (go_at_call 51; exact Calls.quiet_of_same (specInR _ _ _ _ true hv))))
              go_wp2
              go_ret
              exact ⟨ret_b HB.out.symm, by first | exact hb | exact Below.drewN' hb _⟩
            · have HG : Hid (∀ i, i < j + 1 + 1 → nstB l lo hi i = true) := nst_snoc HA.out ((nst_iff _ _ _ _).2 ⟨by omega, n2, fun _ => by simp only [Nat.add_sub_cancel]; omega⟩)
              go_wp2
              go_quiet ((first | (go_at_call 51; exact Calls.quiet_of_same (specInR _ _ _ _ true hv))))
              go_wp2
              go_roundw
              case rel => exact ⟨j + 1 + 1, by omega, by go_num, HG.out, by first | exact hb | exact Below.drewN' hb _⟩
              case measure => simp [intOf]; omega
          · have hk00 : k = 0 := by omega
            subst hk00
            simp only [Nat.add_zero] at c0
            clear hc
            have HG : Hid (∀ i, i < 0 + 1 → nstB l lo hi i = true) := nst_snoc HA.out ((nst_iff _ _ _ _).2 ⟨by omega, n2, fun h => absurd h (by omega)⟩)
            go_wp2
            go_quiet ((first | (go_at_call 51; exact Calls.quiet_of_same (specInR _ _ _ _ true hv))))
            go_wp2
            go_roundw
            case rel => exact ⟨0 + 1, by omega, by go_num, HG.out, by first | exact hb | exact Below.drewN' hb _⟩
            case measure => simp [intOf]; omega
    · have HR : Hid (r = decide ((l.length : Int) ≤ 8)) := HR0.out.symm.trans (nu_all fun i hi => HA.out i (by omega))
      go_wp2
      go_ret
      exact ⟨ret_b HR.out.symm, hb⟩
theorem specAhead (x y x' y' : Int) (w : World) (r : Bool) (hr : ahB x y x' y' = r) : Calls Tryd.prog 52 #[.agg #[.int .i64 x, .int .i64 y], .agg #[.int .i64 x', .int .i64 y']] w fun e w' => e = .returned (.bool r) ∧ Below w.heap.size w w' := by
  subst hr
  have hb0 := ((Below.refl w.heap.size w).alloc (Nat.le_refl _) (.cells #[.int .i64 x, .int .i64 y] 38)).alloc (by simp) (.cells #[.int .i64 x', .int .i64 y'] 38)
  by_cases h0 : y < y'
  · have H : Hid (ahB x y x' y' = true) := (ah_iff _ _ _ _).2 (.inl h0)
    go_enter Tryd.func52, Tryd.ntmps52
    go_wp2
    first | go_quiet (fail) | skip
    go_wp2
    go_ret
    exact ⟨ret_b (by rw [H.out]; first | done | simp), by first | exact hb0 | exact Below.drewN' hb0 _⟩
  · by_cases h1 : y = y'
    · subst h1
      have H : Hid (ahB x y x' y = decide (x < x')) := by unfold Hid ahB; simp
      go_enter Tryd.func52, Tryd.ntmps52
      go_wp2
      first | go_quiet (fail) | skip
      go_wp2
      go_ret
      exact ⟨ret_b (by rw [H.out]; first | done | simp), by first | exact hb0 | exact Below.drewN' hb0 _⟩
    · have H : Hid (ahB x y x' y' = false) := (ah_not _ _ _ _).2 (by omega)
      go_enter Tryd.func52, Tryd.ntmps52
      go_wp2
      first | go_quiet (fail) | skip
      go_wp2
      go_ret
      exact ⟨ret_b (by rw [H.out]; first | done | simp), by first | exact hb0 | exact Below.drewN' hb0 _⟩
set_option maxHeartbeats 2000000 in
theorem specMost (f ev ct un : Int) (a0 : Option Addr) (n0 c0 : Nat) (a1 : Option Addr) (n1 c1 : Nat) (a2 : Option Addr) (n2 c2 : Nat) (a3 : Option Addr) (n3 c3 : Nat) (wk : Int) (w : World) (m : Int) (hm : numM f n2 = m) : Calls Tryd.prog 50 #[.agg #[.int .i64 f, .int .i64 ev, .int .i64 ct, .int .i64 un, .slice a0 n0 c0, .slice a1 n1 c1, .slice a2 n2 c2, .slice a3 n3 c3, .int .i64 wk]] w fun e w' => e = .returned (.int .i64 m) ∧ Below w.heap.size w w' := by
  subst hm
  have hb0 := (Below.refl w.heap.size w).alloc (Nat.le_refl _) (.cells #[.int .i64 f, .int .i64 ev, .int .i64 ct, .int .i64 un, .slice a0 n0 c0, .slice a1 n1 c1, .slice a2 n2 c2, .slice a3 n3 c3, .int .i64 wk] 26)
  by_cases h4 : f = 4
  · subst h4
    by_cases h0 : n2 = 0
    · subst h0
      have H : Hid (numM 4 0 = 53) := if_pos ⟨rfl, rfl⟩
      go_enter Tryd.func50, Tryd.ntmps50
      go_wp2
      first | go_quiet (fail) | skip
      go_wp2
      go_ret
      exact ⟨ret_i H.out.symm, by first | exact hb0 | exact Below.drewN' hb0 _⟩
    · have H : Hid (numM 4 n2 = 5) := by unfold Hid numM; rw [if_neg (by omega), if_pos (.inl rfl)]
      have p : 0 < n2 := by omega
      go_enter Tryd.func50, Tryd.ntmps50
      go_wp2
      first | go_quiet (fail) | skip
      go_wp2
      go_ret
      exact ⟨ret_i H.out.symm, by first | exact hb0 | exact Below.drewN' hb0 _⟩
  · by_cases h3 : f = 3
    · subst h3
      have H : Hid (numM 3 n2 = 5) := by unfold Hid numM; rw [if_neg (by omega), if_pos (.inr rfl)]
      go_enter Tryd.func50, Tryd.ntmps50
      go_wp2
      first | go_quiet (fail) | skip
      go_wp2
      go_ret
      exact ⟨ret_i H.out.symm, by first | exact hb0 | exact Below.drewN' hb0 _⟩
    · have H : Hid (numM f n2 = 0) := by unfold Hid numM; rw [if_neg (by omega), if_neg (by omega)]
      have b4 : (f == 4) = false := by simpa using h4
      have b3 : (f == 3) = false := by simpa using h3
      go_enter Tryd.func50, Tryd.ntmps50
      go_wp2
      first | go_quiet (fail) | skip
      go_wp2
      go_ret
      exact ⟨ret_i H.out.symm, by first | exact hb0 | exact Below.drewN' hb0 _⟩
end Go.Proofs.YtlfglhpepoepcaaDoor
