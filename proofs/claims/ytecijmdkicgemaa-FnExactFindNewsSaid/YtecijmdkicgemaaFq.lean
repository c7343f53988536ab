/- What is found may be so: the specification's. -/
import Derived.Test.YtecijmdkicgemaaFp
namespace Go.Proofs.Ytecijmdkicgemaa
open Go.RowKit
set_option linter.unusedVariables false
/-- What holds of the first so many. -/
structure Pk (l : List FO) (k : Nat) : Prop where
  nm : ∀ i, i < k → nmB (fS l i) = true
  ah : ∀ i, i + 1 < k → aheadB (fo l i) (fo l (i + 1)) = true
  ds : ∀ i j, j < i → i < k → sameS (fS l j) (fS l i) = false
theorem Pk.zero (l : List FO) : Pk l 0 := ⟨fun i h => by omega, fun i h => by omega, fun i j _ h => by omega⟩
theorem Pk.step {l : List FO} {k : Nat} (h : Pk l k) (h1 : nmB (fS l k) = true) (h2 : ∀ i, i + 1 = k → aheadB (fo l i) (fo l (i + 1)) = true) (h3 : ∀ j, j < k → sameS (fS l j) (fS l k) = false) : Pk l (k + 1) := by
  refine ⟨fun i hi => ?_, fun i hi => ?_, fun i j hj hi => ?_⟩
  · by_cases e : i = k
    · subst e; exact h1
    · exact h.nm i (by omega)
  · by_cases e : i + 1 = k
    · exact h2 i e
    · exact h.ah i (by omega)
  · by_cases e : i = k
    · subst e; exact h3 j hj
    · exact h.ds i j hj (by omega)
theorem Pk.ok {l : List FO} (h : Pk l l.length) (hl : l.length ≤ 12) : FOk l := ⟨hl, h.nm, fun i hi => h.ah i hi, fun i k hk hi => h.ds i k hk hi⟩
set_option maxRecDepth 100000 in
set_option maxHeartbeats 16000000 in
theorem specFoundOk (a : Option Addr) (cap : Nat) (l : List FO) (w : World) (h : IsFo w a l) (hs : FSmall l) (r : Bool) (hr : r = true ↔ FOk l) :
    Calls Try.prog 15 #[.slice a l.length cap] w fun e w' => e = .returned (.bool r) ∧ Below w.heap.size w w' := by
  have HF : Hid (IsFo w a l) := h
  have HR : Hid (r = true ↔ FOk l) := hr
  have HS : Hid (∀ i, i < l.length → (fS l i).size ≤ maxLen) := fun i hi => by have := hs.2 i hi; unfold maxLen; omega
  have hll : (l.length : Int) ≤ 1048576 := by have := hs.1; omega
  clear h hr hs
  go_enter Try.func15, Try.ntmps15
  go_wp2
  go_loopw [3] (fun i wr => ∃ k : Nat, k ≤ l.length ∧ i = .int .i64 k ∧ Pk l k ∧ Below w.heap.size w wr) (fun i _ => l.length - (intOf i).toNat)
  case atStart => exact ⟨0, by omega, rfl, Pk.zero l, Below.refl _ _⟩
  case round =>
    obtain ⟨k, hk, rfl, hp, hb⟩ := hrel
    have HP : Hid (Pk l k) := hp
    have HB : Hid (Below w.heap.size w wr) := hb
    clear hp
    by_cases hlt : k < l.length
    · obtain ⟨b, off, rfl, hbs, hc⟩ := (HF.out.below hb).at (by omega)
      have HCL : Hid (∀ i, i < l.length → wr.cell? ⟨b, off + i * 2, none⟩ = some (.string (fS l i)) ∧ wr.cell? ⟨b, off + i * 2 + 1, none⟩ = some (.int .i64 (fA l i))) := hc
      have hi0 : (0 : Int) ≤ (k : Int) := by omega
      have hi1 : (k : Int) < (l.length : Int) := by omega
      clear hc hb
      by_cases hz : k = 0
      · subst hz
        have hi2 : (0 : Int) < (l.length : Int) := by omega
        have c0 := (HCL.out 0 hlt).1
        have c1 := (HCL.out 0 hlt).2
        cases hn : nmB (fS l 0) with
        | false =>
          have HN : Hid (nmB (fS l 0) = false) := hn
          have HV : Hid (r = false) := fok_not HR.out fun q => by have := q.nm _ hlt; rw [HN.out] at this; cases this
          have HSk : Hid ((fS l 0).size ≤ maxLen) := HS.out _ hlt
          clear hn
          go_wp2
          refine wp_region_cl (fun w' => Below wr.heap.size wr w') (by kernel_rfl) (by kernel_rfl) (Below.refl _ _).drew ?_
          repeat (first
            | go_big_quiet_skip
            | (go_big_quiet_want; go_big_quiet_op; go_big_quiet_on)
            | (go_big_quiet_want
               apply Exists.intro
               refine ⟨fun w7 hC7 => ?_, ?_⟩
               · (have b7 := hC7
                  have y0 : w7.cell? ⟨b, off + 0 * 2, none⟩ = some (.string (fS l 0)) := (hC7.cell (p := ⟨b, off + 0 * 2, none⟩) hbs).trans c0
                  try simp only [Nat.zero_mul, Nat.add_zero] at y0
                  clear hC7
                  go_simp
                  first
                    | done
                    | rfl
                    | exact ⟨rfl, rfl⟩
                    | (with_reducible refine (specName_is (fS l 0) false HN.out w7 HSk.out).mono ?_
                       rintro e w8 ⟨rfl, rfl⟩
                       first | exact ⟨rfl, b7⟩ | (go_simp; exact b7)))
               (go_simp; go_big_quiet_on)))
          refine wpQuiet_nil ?_
          intro w7 b7
          have Bf := bstep HB.out b7
          clear b7
          go_wp2
          go_ret
          exact ⟨ret_b HV.out.symm, Bf⟩
        | true =>
          have HN : Hid (nmB (fS l 0) = true) := hn
          have HSk : Hid ((fS l 0).size ≤ maxLen) := HS.out _ hlt
          have HAH : Hid (∀ i, i + 1 = 0 → aheadB (fo l i) (fo l (i + 1)) = true) := fun i hi => by omega
          clear hn
          go_wp2
          refine wp_region_cl (fun w' => Below wr.heap.size wr w') (by kernel_rfl) (by kernel_rfl) (Below.refl _ _).drew ?_
          repeat (first
            | go_big_quiet_skip
            | (go_big_quiet_want; go_big_quiet_op; go_big_quiet_on)
            | (go_big_quiet_want
               apply Exists.intro
               refine ⟨fun w7 hC7 => ?_, ?_⟩
               · (have b7 := hC7
                  have y0 : w7.cell? ⟨b, off + 0 * 2, none⟩ = some (.string (fS l 0)) := (hC7.cell (p := ⟨b, off + 0 * 2, none⟩) hbs).trans c0
                  try simp only [Nat.zero_mul, Nat.add_zero] at y0
                  clear hC7
                  go_simp
                  first
                    | done
                    | rfl
                    | exact ⟨rfl, rfl⟩
                    | (with_reducible refine (specName_is (fS l 0) true HN.out w7 HSk.out).mono ?_
                       rintro e w8 ⟨rfl, rfl⟩
                       first | exact ⟨rfl, b7⟩ | (go_simp; exact b7)))
               (go_simp; go_big_quiet_on)))
          refine wpQuiet_nil ?_
          intro w7 b7
          have HB7 : Hid (Below w.heap.size w w7) := bstep HB.out b7
          have hbs7 : b < w7.heap.size := Nat.lt_of_lt_of_le hbs b7.size
          have HC7 : Hid (∀ i, i < l.length → w7.cell? ⟨b, off + i * 2, none⟩ = some (.string (fS l i)) ∧ w7.cell? ⟨b, off + i * 2 + 1, none⟩ = some (.int .i64 (fA l i))) := fun i hi => ⟨(b7.cell (p := ⟨b, off + i * 2, none⟩) hbs).trans (HCL.out i hi).1, (b7.cell (p := ⟨b, off + i * 2 + 1, none⟩) hbs).trans (HCL.out i hi).2⟩
          clear b7 c0 c1
          go_wp2
          go_loopw [4] (fun q wr => ∃ jj : Nat, jj ≤ 0 ∧ q = .int .i64 jj ∧ (∀ i, i < jj → sameS (fS l i) (fS l 0) = false) ∧ Below w7.heap.size w7 wr) (fun q _ => 0 - (intOf q).toNat)
          case atStart => exact ⟨0, by omega, rfl, fun i hi => by omega, Below.refl _ _⟩
          case round =>
            obtain ⟨j', hj, rfl, hds, hb2⟩ := hrel
            have HDS : Hid (∀ i, i < j' → sameS (fS l i) (fS l 0) = false) := hds
            have HB2 : Hid (Below w7.heap.size w7 wr) := hb2
            clear hds
            by_cases hjl : j' < 0
            · exact absurd hjl (by omega)
            · have B10 := bstep HB7.out hb2
              have j3 : ¬ (j' : Int) < ((0 : Nat) : Int) := by omega
              have HPN : Hid (Pk l (0 + 1)) := HP.out.step HN.out HAH.out fun i hi => HDS.out i (by omega)
              clear hb2
              go_wp2
              go_roundw
              case rel => exact ⟨0 + 1, by omega, by go_num, HPN.out, B10⟩
              case measure => simp [intOf]; omega
      · obtain ⟨j, rfl⟩ : ∃ j, k = j + 1 := ⟨k - 1, by omega⟩
        have c0 := (HCL.out (j + 1) hlt).1
        have c1 := (HCL.out (j + 1) hlt).2
        cases hn : nmB (fS l (j + 1)) with
        | false =>
          have HN : Hid (nmB (fS l (j + 1)) = false) := hn
          have HV : Hid (r = false) := fok_not HR.out fun q => by have := q.nm _ hlt; rw [HN.out] at this; cases this
          have HSk : Hid ((fS l (j + 1)).size ≤ maxLen) := HS.out _ hlt
          clear hn
          go_wp2
          refine wp_region_cl (fun w' => Below wr.heap.size wr w') (by kernel_rfl) (by kernel_rfl) (Below.refl _ _).drew ?_
          repeat (first
            | go_big_quiet_skip
            | (go_big_quiet_want; go_big_quiet_op; go_big_quiet_on)
            | (go_big_quiet_want
               apply Exists.intro
               refine ⟨fun w7 hC7 => ?_, ?_⟩
               · (have b7 := hC7
                  have y0 : w7.cell? ⟨b, off + (j + 1) * 2, none⟩ = some (.string (fS l (j + 1))) := (hC7.cell (p := ⟨b, off + (j + 1) * 2, none⟩) hbs).trans c0
                  try simp only [Nat.zero_mul, Nat.add_zero] at y0
                  clear hC7
                  go_simp
                  first
                    | done
                    | rfl
                    | exact ⟨rfl, rfl⟩
                    | (with_reducible refine (specName_is (fS l (j + 1)) false HN.out w7 HSk.out).mono ?_
                       rintro e w8 ⟨rfl, rfl⟩
                       first | exact ⟨rfl, b7⟩ | (go_simp; exact b7)))
               (go_simp; go_big_quiet_on)))
          refine wpQuiet_nil ?_
          intro w7 b7
          have Bf := bstep HB.out b7
          clear b7
          go_wp2
          go_ret
          exact ⟨ret_b HV.out.symm, Bf⟩
        | true =>
          have HN : Hid (nmB (fS l (j + 1)) = true) := hn
          have HSk : Hid ((fS l (j + 1)).size ≤ maxLen) := HS.out _ hlt
          clear hn
          have p0 := (HCL.out j (by omega)).1
          have p1 := (HCL.out j (by omega)).2
          have z0 : (0 : Int) < ((j + 1 : Nat) : Int) := by omega
          have g2 := IntWalk.i64_in ((j : Int) + 1 - 1) (by omega)
          have hj1 : (j : Int) < (l.length : Int) := by omega
          have g3 := IntWalk.i64_in (j : Int) (by omega)
          have g4 : (((j + 1 : Nat) : Int)) - 1 = (j : Int) := by omega
          have g6 : ((j : Int) + 1) - 1 = (j : Int) := by omega
          have hj0 : (0 : Int) ≤ (j : Int) := by omega
          cases hq : aheadB (fS l j, fA l j) (fS l (j + 1), fA l (j + 1)) with
          | false =>
            have HQA : Hid (aheadB (fS l j, fA l j) (fS l (j + 1), fA l (j + 1)) = false) := hq
            have HV : Hid (r = false) := fok_not HR.out fun q => by have := q.ah j hlt; rw [show aheadB (fo l j) (fo l (j + 1)) = false from HQA.out] at this; cases this
            clear hq
            go_wp2
            refine wp_region_cl (fun w' => Below wr.heap.size wr w') (by kernel_rfl) (by kernel_rfl) (Below.refl _ _).drew ?_
            repeat (first
              | go_big_quiet_skip
              | (go_big_quiet_want; go_big_quiet_op; go_big_quiet_on)
              | (go_big_quiet_want
                 apply Exists.intro
                 refine ⟨fun w7 hC7 => ?_, ?_⟩
                 · (have b7 := hC7
                    have y0 : w7.cell? ⟨b, off + (j + 1) * 2, none⟩ = some (.string (fS l (j + 1))) := (hC7.cell (p := ⟨b, off + (j + 1) * 2, none⟩) hbs).trans c0
                    have y1 : w7.cell? ⟨b, off + (j + 1) * 2 + 1, none⟩ = some (.int .i64 (fA l (j + 1))) := (hC7.cell (p := ⟨b, off + (j + 1) * 2 + 1, none⟩) hbs).trans c1
                    have y2 : w7.cell? ⟨b, off + j * 2, none⟩ = some (.string (fS l j)) := (hC7.cell (p := ⟨b, off + j * 2, none⟩) hbs).trans p0
                    have y3 : w7.cell? ⟨b, off + j * 2 + 1, none⟩ = some (.int .i64 (fA l j)) := (hC7.cell (p := ⟨b, off + j * 2 + 1, none⟩) hbs).trans p1
                    clear hC7
                    go_simp
                    first
                      | done
                      | rfl
                      | exact ⟨rfl, rfl⟩
                      | (with_reducible refine (specName_is (fS l (j + 1)) true HN.out w7 HSk.out).mono ?_
                         rintro e w8 ⟨rfl, rfl⟩
                         first | exact ⟨rfl, b7⟩ | (go_simp; exact b7))
                      | (with_reducible refine (specAhead_is (fS l j) (fA l j) (fS l (j + 1)) (fA l (j + 1)) false HQA.out w7).mono ?_
                         rintro e w8 ⟨rfl, hb8⟩
                         first | exact ⟨rfl, bstep b7 hb8⟩ | (go_simp; exact bstep b7 hb8)))
                 (go_simp; go_big_quiet_on)))
            refine wpQuiet_nil ?_
            intro w7 b7
            have Bf := bstep HB.out b7
            clear b7
            go_wp2
            go_ret
            exact ⟨ret_b HV.out.symm, Bf⟩
          | true =>
            have HQA : Hid (aheadB (fS l j, fA l j) (fS l (j + 1), fA l (j + 1)) = true) := hq
            have HAH : Hid (∀ i, i + 1 = j + 1 → aheadB (fo l i) (fo l (i + 1)) = true) := fun i hi => by
              have e : i = j := by omega
              subst e; exact HQA.out
            clear hq
            go_wp2
            refine wp_region_cl (fun w' => Below wr.heap.size wr w') (by kernel_rfl) (by kernel_rfl) (Below.refl _ _).drew ?_
            repeat (first
              | go_big_quiet_skip
              | (go_big_quiet_want; go_big_quiet_op; go_big_quiet_on)
              | (go_big_quiet_want
                 apply Exists.intro
                 refine ⟨fun w7 hC7 => ?_, ?_⟩
                 · (have b7 := hC7
                    have y0 : w7.cell? ⟨b, off + (j + 1) * 2, none⟩ = some (.string (fS l (j + 1))) := (hC7.cell (p := ⟨b, off + (j + 1) * 2, none⟩) hbs).trans c0
                    have y1 : w7.cell? ⟨b, off + (j + 1) * 2 + 1, none⟩ = some (.int .i64 (fA l (j + 1))) := (hC7.cell (p := ⟨b, off + (j + 1) * 2 + 1, none⟩) hbs).trans c1
                    have y2 : w7.cell? ⟨b, off + j * 2, none⟩ = some (.string (fS l j)) := (hC7.cell (p := ⟨b, off + j * 2, none⟩) hbs).trans p0
                    have y3 : w7.cell? ⟨b, off + j * 2 + 1, none⟩ = some (.int .i64 (fA l j)) := (hC7.cell (p := ⟨b, off + j * 2 + 1, none⟩) hbs).trans p1
                    clear hC7
                    go_simp
                    first
                      | done
                      | rfl
                      | exact ⟨rfl, rfl⟩
                      | (with_reducible refine (specName_is (fS l (j + 1)) true HN.out w7 HSk.out).mono ?_
                         rintro e w8 ⟨rfl, rfl⟩
                         first | exact ⟨rfl, b7⟩ | (go_simp; exact b7))
                      | (with_reducible refine (specAhead_is (fS l j) (fA l j) (fS l (j + 1)) (fA l (j + 1)) true HQA.out w7).mono ?_
                         rintro e w8 ⟨rfl, hb8⟩
                         first | exact ⟨rfl, bstep b7 hb8⟩ | (go_simp; exact bstep b7 hb8)))
                 (go_simp; go_big_quiet_on)))
            refine wpQuiet_nil ?_
            intro w7 b7
            clear p0 p1
            have HB7 : Hid (Below w.heap.size w w7) := bstep HB.out b7
            have hbs7 : b < w7.heap.size := Nat.lt_of_lt_of_le hbs b7.size
            have HC7 : Hid (∀ i, i < l.length → w7.cell? ⟨b, off + i * 2, none⟩ = some (.string (fS l i)) ∧ w7.cell? ⟨b, off + i * 2 + 1, none⟩ = some (.int .i64 (fA l i))) := fun i hi => ⟨(b7.cell (p := ⟨b, off + i * 2, none⟩) hbs).trans (HCL.out i hi).1, (b7.cell (p := ⟨b, off + i * 2 + 1, none⟩) hbs).trans (HCL.out i hi).2⟩
            clear b7 c0 c1
            go_wp2
            go_loopw [4] (fun q wr => ∃ jj : Nat, jj ≤ (j + 1) ∧ q = .int .i64 jj ∧ (∀ i, i < jj → sameS (fS l i) (fS l (j + 1)) = false) ∧ Below w7.heap.size w7 wr) (fun q _ => (j + 1) - (intOf q).toNat)
            case atStart => exact ⟨0, by omega, rfl, fun i hi => by omega, Below.refl _ _⟩
            case round =>
              obtain ⟨j', hj, rfl, hds, hb2⟩ := hrel
              have HDS : Hid (∀ i, i < j' → sameS (fS l i) (fS l (j + 1)) = false) := hds
              have HB2 : Hid (Below w7.heap.size w7 wr) := hb2
              clear hds
              by_cases hjl : j' < (j + 1)
              · have d0 := (hb2.cell (p := ⟨b, off + j' * 2, none⟩) hbs7).trans (HC7.out j' (by omega)).1
                have d1 := (hb2.cell (p := ⟨b, off + (j + 1) * 2, none⟩) hbs7).trans (HC7.out (j + 1) hlt).1
                have hbs : b < wr.heap.size := Nat.lt_of_lt_of_le hbs7 hb2.size
                have j0 : (0 : Int) ≤ (j' : Int) := by omega
                have j1 : (j' : Int) < (((j + 1) : Nat) : Int) := by omega
                have j2 : (j' : Int) < (l.length : Int) := by omega
                have k2 : (((j + 1) : Nat) : Int) < (l.length : Int) := by omega
                have k3 : (0 : Int) ≤ (((j + 1) : Nat) : Int) := by omega
                clear hb2
                cases hq : sameS (fS l j') (fS l (j + 1)) with
                | true =>
                  have HV : Hid (r = false) := fok_not HR.out fun q => by have := q.ds _ _ hjl hlt; rw [hq] at this; cases this
                  unfold sameS at hq
                  go_wp2
                  refine wp_region_cl (fun w' => Below wr.heap.size wr w') (by kernel_rfl) (by kernel_rfl) (Below.refl _ _).drew ?_
                  repeat (first
                    | go_big_quiet_skip
                    | (go_big_quiet_want; go_big_quiet_op; go_big_quiet_on)
                    | (go_big_quiet_want
                       apply Exists.intro
                       refine ⟨fun w7 hC7 => ?_, ?_⟩
                       · (have b7 := hC7
                          have y0 : w7.cell? ⟨b, off + j' * 2, none⟩ = some (.string (fS l j')) := (hC7.cell (p := ⟨b, off + j' * 2, none⟩) hbs).trans d0
                          have y1 : w7.cell? ⟨b, off + (j + 1) * 2, none⟩ = some (.string (fS l (j + 1))) := (hC7.cell (p := ⟨b, off + (j + 1) * 2, none⟩) hbs).trans d1
                          clear hC7
                          go_simp
                          first
                            | done
                            | rfl
                            | exact ⟨rfl, rfl⟩)
                       (go_simp; go_big_quiet_on)))
                  refine wpQuiet_nil ?_
                  intro w7 b7
                  have Bf := bstep HB7.out (bstep HB2.out b7)
                  clear b7
                  go_wp2
                  go_ret
                  exact ⟨ret_b HV.out.symm, Bf⟩
                | false =>
                  have HQ : Hid (∀ i, i < j' + 1 → sameS (fS l i) (fS l (j + 1)) = false) := fun i hi => by
                    by_cases e : i = j'
                    · subst e; exact hq
                    · exact HDS.out i (by omega)
                  unfold sameS at hq
                  go_wp2
                  refine wp_region_cl (fun w' => Below wr.heap.size wr w') (by kernel_rfl) (by kernel_rfl) (Below.refl _ _).drew ?_
                  repeat (first
                    | go_big_quiet_skip
                    | (go_big_quiet_want; go_big_quiet_op; go_big_quiet_on)
                    | (go_big_quiet_want
                       apply Exists.intro
                       refine ⟨fun w7 hC7 => ?_, ?_⟩
                       · (have b7 := hC7
                          have y0 : w7.cell? ⟨b, off + j' * 2, none⟩ = some (.string (fS l j')) := (hC7.cell (p := ⟨b, off + j' * 2, none⟩) hbs).trans d0
                          have y1 : w7.cell? ⟨b, off + (j + 1) * 2, none⟩ = some (.string (fS l (j + 1))) := (hC7.cell (p := ⟨b, off + (j + 1) * 2, none⟩) hbs).trans d1
                          clear hC7
                          go_simp
                          first
                            | done
                            | rfl
                            | exact ⟨rfl, rfl⟩)
                       (go_simp; go_big_quiet_on)))
                  refine wpQuiet_nil ?_
                  intro w7 b7
                  have B2 := bstep HB2.out b7
                  clear b7
                  go_wp2
                  go_roundw
                  case rel => exact ⟨j' + 1, by omega, by go_num, HQ.out, B2⟩
                  case measure => simp [intOf]; omega
              · have B10 := bstep HB7.out hb2
                have j3 : ¬ (j' : Int) < (((j + 1) : Nat) : Int) := by omega
                have HPN : Hid (Pk l ((j + 1) + 1)) := HP.out.step HN.out HAH.out fun i hi => HDS.out i (by omega)
                clear hb2
                go_wp2
                go_roundw
                case rel => exact ⟨(j + 1) + 1, by omega, by go_num, HPN.out, B10⟩
                case measure => simp [intOf]; omega
    · have hkk : k = l.length := by omega
      subst hkk
      by_cases hl12 : (l.length : Int) ≤ 12
      · have HV : Hid (r = true) := HR.out.2 (HP.out.ok (by omega))
        go_wp2
        go_ret
        exact ⟨ret_b HV.out.symm, hb⟩
      · have HV : Hid (r = false) := fok_not HR.out fun q => by have := q.len; omega
        go_wp2
        go_ret
        exact ⟨ret_b HV.out.symm, hb⟩
end Go.Proofs.Ytecijmdkicgemaa
