/- The specification's choice of days. -/
import Derived.Test.YtlnhagkipmcioaaDoorKl
import Derived.Test.YtlnhagkipmcioaaDoorSpD
namespace Go.Proofs.YtlnhagkipmcioaaDoor
open Go.RowKit Go.Shelf
set_option linter.unusedVariables false

theorem specDateN (n : Int) (w : World) (h0 : 0 ≤ n) (h1 : n ≤ 3652058) : Calls Tryd.prog 32 #[.int .i64 n] w fun e w' => e = .returned (.agg #[.int .i64 (yOf n), .int .i64 (mOf n), .int .i64 (dOf n)]) ∧ Below w.heap.size w w' := by
  refine (specDate n w h0 h1).mono ?_
  rintro e w' ⟨⟨y, m, d, rfl, a, b⟩, hb⟩
  obtain ⟨e1, e2, e3⟩ := date_is a b
  exact ⟨by rw [e1, e2, e3], hb⟩
def nthB (n fs ls x : Int) : Bool := if 0 < x then decide ((n - fs) / 7 + 1 = x) else decide ((ls - n) / 7 + 1 = -x)
theorem specNth (n fs ls x : Int) (w : World) (h0 : 0 ≤ n - fs) (h1 : n - fs ≤ 400) (h2 : 0 ≤ ls - n) (h3 : ls - n ≤ 400) (n0 : 0 ≤ n) (n1 : n ≤ 3652058) (x0 : -1000 ≤ x) (x1 : x ≤ 1000) :
    Calls Tryd.prog 61 #[.int .i64 n, .int .i64 fs, .int .i64 ls, .int .i64 x] w fun e w' => e = .returned (.bool (nthB n fs ls x)) ∧ w' = w := by
  by_cases hx : 0 < x
  · have HV : Hid (nthB n fs ls x = decide ((n - fs) / 7 + 1 = x)) := by unfold Hid nthB; rw [if_pos hx]
    go_enter Tryd.func61, Tryd.ntmps61
    go_wp2
    go_ret
    exact ⟨ret_b HV.out.symm, rfl⟩
  · have HV : Hid (nthB n fs ls x = decide ((ls - n) / 7 + 1 = -x)) := by unfold Hid nthB; rw [if_neg hx]
    go_enter Tryd.func61, Tryd.ntmps61
    go_wp2
    go_ret
    exact ⟨ret_b HV.out.symm, rfl⟩
theorem nth_by {n fs ls x y : Int} (h0 : 0 ≤ n - fs) (h2 : 0 ≤ ls - n) (hx : x ≠ 0) : byC n ((n - fs) / 7 + 1) (-((ls - n) / 7 + 1)) x (n % 7) = nthB n fs ls x := by
  unfold byC nthB
  rw [Bool.eq_iff_iff]
  split <;> simp <;> omega
set_option maxHeartbeats 4000000 in
theorem specDateFits (r : Rl) (m : Rm) (n : Int) (w : World) (hi : IsInts w m.a1 r.da) (hl : r.da.length ≤ 8) (h0 : 0 ≤ n) (h1 : n ≤ 3652058) :
    Calls Tryd.prog 46 #[.agg #[.int .i64 r.f, .int .i64 r.ev, .int .i64 r.ct, .int .i64 r.un, .slice m.a0 r.ds.length m.c0, .slice m.a1 r.da.length m.c1, .slice m.a2 r.mo.length m.c2, .slice m.a3 r.pl.length m.c3, .int .i64 r.wk], .agg #[.int .i64 (yOf n), .int .i64 (mOf n), .int .i64 (dOf n)]] w fun e w' => e = .returned (.bool (dtB r n)) ∧ Below w.heap.size w w' := by
  have hb0 : ∀ q, Below w.heap.size w (((w.alloc (.cells #[.int .i64 r.f, .int .i64 r.ev, .int .i64 r.ct, .int .i64 r.un, .slice m.a0 r.ds.length m.c0, .slice m.a1 r.da.length m.c1, .slice m.a2 r.mo.length m.c2, .slice m.a3 r.pl.length m.c3, .int .i64 r.wk] 30)).alloc (.cells #[.int .i64 (yOf n), .int .i64 (mOf n), .int .i64 (dOf n)] 59)).drewN q) := fun q => Below.drewN' (((Below.refl _ w).alloc (Nat.le_refl _) _).alloc (by simp) _) q
  have HI : Hid (∀ q, IsInts (((w.alloc (.cells #[.int .i64 r.f, .int .i64 r.ev, .int .i64 r.ct, .int .i64 r.un, .slice m.a0 r.ds.length m.c0, .slice m.a1 r.da.length m.c1, .slice m.a2 r.mo.length m.c2, .slice m.a3 r.pl.length m.c3, .int .i64 r.wk] 30)).alloc (.cells #[.int .i64 (yOf n), .int .i64 (mOf n), .int .i64 (dOf n)] 59)).drewN q) m.a1 r.da) := fun q => hi.below (hb0 q)
  have HB : Hid (∀ q, Below w.heap.size w (((w.alloc (.cells #[.int .i64 r.f, .int .i64 r.ev, .int .i64 r.ct, .int .i64 r.un, .slice m.a0 r.ds.length m.c0, .slice m.a1 r.da.length m.c1, .slice m.a2 r.mo.length m.c2, .slice m.a3 r.pl.length m.c3, .int .i64 r.wk] 30)).alloc (.cells #[.int .i64 (yOf n), .int .i64 (mOf n), .int .i64 (dOf n)] 59)).drewN q)) := hb0
  obtain ⟨a0, a1, a2, a3, a4, a5, _⟩ := date_bd h0 h1
  have db := dim_bd (yOf n) (mOf n)
  have k1 := IntWalk.i64_in (dOf n - dim (yOf n) (mOf n)) (by omega)
  have k2 := IntWalk.i64_in (dOf n - dim (yOf n) (mOf n) - 1) (by omega)
  clear hi hb0
  cases hh : hasI r.da (dOf n) with
  | true =>
    have HV : Hid (dtB r n = true) := by unfold Hid dtB; rw [hh]; rfl
    have HH : Hid (hasI r.da (dOf n) = true) := hh
    clear hh
    go_enter Tryd.func46, Tryd.ntmps46
    go_wp2
    go_quiet ((go_at_call 12; exact Calls.quiet_of_same (specHas _ _ _ _ _ (HI.out _) (by omega) _ HH.out)))
    go_wp2
    go_ret
    exact ⟨ret_b HV.out.symm, HB.out _⟩
  | false =>
    have HH : Hid (hasI r.da (dOf n) = false) := hh
    cases h2 : hasI r.da (dOf n - dim (yOf n) (mOf n) - 1) with
    | true =>
      have HV : Hid (dtB r n = true) := by unfold Hid dtB; rw [hh, h2]; rfl
      have H2 : Hid (hasI r.da (dOf n - dim (yOf n) (mOf n) - 1) = true) := h2
      clear hh h2
      go_enter Tryd.func46, Tryd.ntmps46
      go_wp2
      go_quiet ((first | (go_at_call 12; first | exact Calls.quiet_of_same (specHas _ _ _ _ _ (HI.out _) (by omega) _ HH.out) | exact Calls.quiet_of_same (specHas _ _ _ _ _ (HI.out _) (by omega) _ H2.out)) | (go_at_call 35; exact Calls.quiet_of_same (specDays _ _ _ (by omega) (by omega) (by omega) (by omega)))))
      go_wp2
      go_ret
      exact ⟨ret_b HV.out.symm, HB.out _⟩
    | false =>
      have HV : Hid (dtB r n = false) := by unfold Hid dtB; rw [hh, h2]; rfl
      have H2 : Hid (hasI r.da (dOf n - dim (yOf n) (mOf n) - 1) = false) := h2
      clear hh h2
      go_enter Tryd.func46, Tryd.ntmps46
      go_wp2
      go_quiet ((first | (go_at_call 12; first | exact Calls.quiet_of_same (specHas _ _ _ _ _ (HI.out _) (by omega) _ HH.out) | exact Calls.quiet_of_same (specHas _ _ _ _ _ (HI.out _) (by omega) _ H2.out)) | (go_at_call 35; exact Calls.quiet_of_same (specDays _ _ _ (by omega) (by omega) (by omega) (by omega)))))
      go_wp2
      go_ret
      exact ⟨ret_b HV.out.symm, HB.out _⟩
end Go.Proofs.YtlnhagkipmcioaaDoor
