/- What turned: held against its marks; all of it marked. -/
import Derived.Test.YtecijmdkicgemaaFw
import Derived.Test.YtecijmdkicgemaaFy
namespace Go.Proofs.Ytecijmdkicgemaa
open Go.RowKit
set_option linter.unusedVariables false
set_option maxRecDepth 100000 in
set_option maxHeartbeats 8000000 in
theorem lawHeldTexts (a : Option Addr) (cap n k : Nat) (w : World) (h : IsTx w a (mkS k n)) (hl : n ≤ 1000000) (k0 : 0 < k) (k1 : k ≤ 1000000) :
    Calls Try.prog 62 #[.slice a n cap, .int .i64 k] w fun e w' => e = .returned (.int .i64 (k + n : Nat)) ∧ Below w.heap.size w w' := by
  have HI : Hid (IsTx w a (mkS k n)) := h
  clear h
  go_enter Try.func62, Try.ntmps62
  go_wp2
  go_loopw [1, 5] (fun q i wr => ∃ j p : Nat, j ≤ n ∧ p = k + j ∧ i = .int .i64 j ∧ q = .int .i64 p ∧ Below w.heap.size w wr) (fun _ i _ => n - (intOf i).toNat)
  case atStart => exact ⟨0, k, by omega, rfl, rfl, rfl, Below.refl _ _⟩
  case round =>
    obtain ⟨j, p, hj, hp, rfl, rfl, hb⟩ := hrel
    by_cases hlt : j < n
    · have I := HI.out.below hb
      rcases I with I | ⟨b, off, rfl, hbs, hc⟩
      · have := congrArg List.length I; rw [mkS_len] at this; simp at this; omega
      have c0 := hc j (by rw [mkS_len]; exact hlt)
      rw [mkS_tx hlt, ← hp] at c0
      have HP : Hid (p = k + j) := hp
      have HB : Hid (Below w.heap.size w wr) := hb
      have hpk : p ≤ 1000000000 := by omega
      have hp0 : 0 < p := by omega
      have hi1 : (j : Int) < (n : Int) := by omega
      have hi0 : (0 : Int) ≤ (j : Int) := by omega
      clear hc hb hp
      go_wp2
      refine wp_region_cl (fun w' => Below wr.heap.size wr w') (by kernel_rfl) (by kernel_rfl) (Below.refl _ _).drew ?_
      repeat (first
        | go_big_quiet_skip
        | (go_big_quiet_want; go_big_quiet_op; go_big_quiet_on)
        | (go_big_quiet_want
           apply Exists.intro
           refine ⟨fun w7 hC7 => ?_, ?_⟩
           · (have b7 := hC7
              have y0 : w7.cell? ⟨b, off + j, none⟩ = some (.string (mtT p)) := (hC7.cell (p := ⟨b, off + j, none⟩) hbs).trans c0
              clear hC7
              go_simp
              first
                | done
                | rfl
                | exact ⟨rfl, rfl⟩
                | (with_reducible refine (lawMarkText p w7 hp0 hpk).mono ?_
                   rintro e w8 ⟨rfl, b8⟩
                   exact ⟨rfl, bstep b7 b8⟩))
           (go_simp; go_big_quiet_on)))
      refine wpQuiet_nil ?_
      intro w7 b7
      have B7 := bstep HB.out b7
      clear b7 c0
      go_wp2
      go_roundw
      case rel => exact ⟨j + 1, p + 1, by omega, by have := HP.out; omega, by go_num, by go_num, B7⟩
      case measure => simp [intOf]; omega
    · have hjj : j = n := by omega
      subst hjj
      subst hp
      go_wp2
      go_ret
      exact ⟨ret_i (by first | rfl | simp), hb⟩
set_option maxRecDepth 100000 in
set_option maxHeartbeats 8000000 in
theorem lawHeldFounds (a : Option Addr) (cap n k : Nat) (w : World) (h : IsFo w a (mkF k n)) (hl : n ≤ 1000000) (k0 : 0 < k) (k1 : k ≤ 10000000) :
    Calls Try.prog 29 #[.slice a n cap, .int .i64 k] w fun e w' => e = .returned (.int .i64 (k + n * 2 : Nat)) ∧ Below w.heap.size w w' := by
  have HI : Hid (IsFo w a (mkF k n)) := h
  clear h
  go_enter Try.func29, Try.ntmps29
  go_wp2
  go_loopw [1, 5] (fun q i wr => ∃ j p : Nat, j ≤ n ∧ p = k + j * 2 ∧ i = .int .i64 j ∧ q = .int .i64 p ∧ Below w.heap.size w wr) (fun _ i _ => n - (intOf i).toNat)
  case atStart => exact ⟨0, k, by omega, rfl, rfl, rfl, Below.refl _ _⟩
  case round =>
    obtain ⟨j, p, hj, hp, rfl, rfl, hb⟩ := hrel
    by_cases hlt : j < n
    · have I := HI.out.below hb
      rcases I with I | ⟨b, off, rfl, hbs, hc⟩
      · have := congrArg List.length I; rw [mkF_len] at this; simp at this; omega
      obtain ⟨c0, c1⟩ := hc j (by rw [mkF_len]; exact hlt)
      rw [(mkF_at hlt).1, ← hp] at c0
      rw [(mkF_at hlt).2, ← hp] at c1
      have c1 : wr.cell? ⟨b, off + j * 2 + 1, none⟩ = some (.int .i64 ((p : Int) + 1)) := by rw [c1]; simp
      have HP : Hid (p = k + j * 2) := hp
      have HB : Hid (Below w.heap.size w wr) := hb
      have hpk : p ≤ 1000000000 := by omega
      have hp0 : 0 < p := by omega
      have hi1 : (j : Int) < (n : Int) := by omega
      have hi0 : (0 : Int) ≤ (j : Int) := by omega
      clear hc hb hp
      go_wp2
      refine wp_region_cl (fun w' => Below wr.heap.size wr w') (by kernel_rfl) (by kernel_rfl) (Below.refl _ _).drew ?_
      repeat (first
        | go_big_quiet_skip
        | (go_big_quiet_want; go_big_quiet_op; go_big_quiet_on)
        | (go_big_quiet_want
           apply Exists.intro
           refine ⟨fun w7 hC7 => ?_, ?_⟩
           · (have b7 := hC7
              have y0 : w7.cell? ⟨b, off + j * 2, none⟩ = some (.string (mtT p)) := (hC7.cell (p := ⟨b, off + j * 2, none⟩) hbs).trans c0
              clear hC7
              go_simp
              first
                | done
                | rfl
                | exact ⟨rfl, rfl⟩
                | (with_reducible refine (lawMarkText p w7 hp0 hpk).mono ?_
                   rintro e w8 ⟨rfl, b8⟩
                   exact ⟨rfl, bstep b7 b8⟩))
           (go_simp; go_big_quiet_on)))
      refine wpQuiet_nil ?_
      intro w7 b7
      have B7 := bstep HB.out b7
      have d1 : w7.cell? ⟨b, off + j * 2 + 1, none⟩ = some (.int .i64 ((p : Int) + 1)) := (b7.cell (p := ⟨b, off + j * 2 + 1, none⟩) hbs).trans c1
      clear b7 c0 c1
      go_wp2
      first | go_quiet (fail) | skip
      go_wp2
      go_roundw
      case rel => exact ⟨j + 1, p + 2, by omega, by have := HP.out; omega, by go_num, by go_num, by first | exact B7 | exact Below.drewN' B7 _⟩
      case measure => simp [intOf]; omega
    · have hjj : j = n := by omega
      subst hjj
      subst hp
      go_wp2
      go_ret
      exact ⟨ret_i (by first | rfl | simp), hb⟩
set_option maxRecDepth 100000 in
set_option maxHeartbeats 8000000 in
theorem lawHeldTurned (a0 a1 a2 : Option Addr) (c0 c1 c2 n0 n1 n2 k : Nat) (w : World) (h : IT w a0 a1 a2 (mkS k n0) (mkF (k + n0) n1) (mks ((k + n0 + n1 * 2 : Nat) : Int) n2)) (l0 : n0 ≤ 1000) (l1 : n1 ≤ 1000) (l2 : n2 ≤ 1000) (k0 : 0 < k) (k1 : k ≤ 1000) :
    Calls Try.prog 24 #[.agg #[.slice a0 n0 c0, .slice a1 n1 c1, .slice a2 n2 c2], .int .i64 k] w fun e w' => e = .returned (.int .i64 (k + n0 + n1 * 2 + n2 : Nat)) ∧ Below w.heap.size w w' := by
  have HC0 : Hid (CL (w.alloc (.cells #[.slice a0 n0 c0, .slice a1 n1 c1, .slice a2 n2 c2] 37)) w.heap.size #[.slice a0 n0 c0, .slice a1 n1 c1, .slice a2 n2 c2]) := CL.new _ _ _
  have HB0 : Hid (Below w.heap.size w (w.alloc (.cells #[.slice a0 n0 c0, .slice a1 n1 c1, .slice a2 n2 c2] 37))) := (Below.refl _ _).alloc (Nat.le_refl _) _
  have HI : Hid (IT w a0 a1 a2 (mkS k n0) (mkF (k + n0) n1) (mks ((k + n0 + n1 * 2 : Nat) : Int) n2)) := h
  clear h
  go_enter Try.func24, Try.ntmps24
  go_wp2_with fail
  generalize w.alloc (.cells #[.slice a0 n0 c0, .slice a1 n1 c1, .slice a2 n2 c2] 37) = W0 at HC0 HB0 ⊢
  refine (lawHeldTexts a0 c0 n0 k W0 (HI.out.a.below HB0.out) (by omega) k0 (by omega)).mono ?_
  rintro e w1 ⟨rfl, b1⟩
  have HB1 : Hid (Below w.heap.size w w1) := bstep HB0.out b1
  have K1 := HC0.out.below b1
  have HC1 := Hid.of K1
  have x1 : World.cell? w1 ⟨w.heap.size, 1, none⟩ = some (.slice a1 n1 c1) := (K1.2 1 _ rfl).1
  obtain ⟨p1, hp1⟩ : ∃ p, p = k + n0 := ⟨_, rfl⟩
  have hh : ¬ (p1 : Int) < 0 := by omega
  rw [← hp1]
  have HP1 : Hid (p1 = k + n0) := hp1
  have l1p : p1 ≤ 2000 := by omega
  have l2p : 0 < p1 := by omega
  clear K1 b1 hp1
  go_wp2_with fail
  refine (lawHeldFounds a1 c1 n1 p1 w1 (by rw [HP1.out]; exact HI.out.b.below HB1.out) (by omega) l2p (by omega)).mono ?_
  rintro e w2 ⟨rfl, b2⟩
  have HB2 : Hid (Below w.heap.size w w2) := bstep HB1.out b2
  have K2 := HC1.out.below b2
  have x2 : World.cell? w2 ⟨w.heap.size, 2, none⟩ = some (.slice a2 n2 c2) := (K2.2 2 _ rfl).1
  obtain ⟨p2, hp2⟩ : ∃ p, p = p1 + n1 * 2 := ⟨_, rfl⟩
  have hh2 : ¬ (p2 : Int) < 0 := by omega
  rw [← hp2]
  have HP2 : Hid (p2 = p1 + n1 * 2) := hp2
  have l3p : p2 ≤ 5000 := by omega
  clear K2 b2 x1 hp2
  go_wp2_with fail
  refine (lawHeldInts a2 c2 n2 (p2 : Int) w2 (by rw [HP2.out, HP1.out]; exact HI.out.c.below HB2.out) (by omega) (by omega) (by omega)).mono ?_
  rintro e w3 ⟨rfl, b3⟩
  have B3 := bstep HB2.out b3
  have hh3 : ¬ (p2 : Int) + (n2 : Int) < 0 := by omega
  clear b3 x2
  go_wp2
  go_ret
  exact ⟨ret_i (by rw [HP2.out, HP1.out]; simp), B3⟩
end Go.Proofs.Ytecijmdkicgemaa
