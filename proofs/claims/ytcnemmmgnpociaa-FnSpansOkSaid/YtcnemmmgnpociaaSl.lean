/- What is free: the program's, where there is an answer. -/
import Derived.Test.YtcnemmmgnpociaaSk
namespace Go.Proofs.Ytcnemmmgnpociaa
open Go.RowKit
set_option linter.unusedVariables false
theorem app_below {w w3 w4 : World} {B g g4 n c : Nat} (b : Below B w w3) (hg : B ≤ g) (hB : B ≤ w3.heap.size) (hgrow : w3.grownBy w4 (Value.slice (some ⟨g, 0, none⟩) n c).ownBlock) (hat : (Value.slice (some ⟨g, 0, none⟩) n c).ownBlock = some g4 ∨ g4 = w3.heap.size) : Below B w w4 ∧ B ≤ g4 := by
  have e : (Value.slice (some ⟨g, 0, none⟩) n c).ownBlock = some g := rfl
  rw [e] at hgrow hat
  refine ⟨b.grown hgrow hB (fun k hk => ?_), ?_⟩
  · cases hk; exact hg
  · rcases hat with h | h
    · cases h; exact hg
    · omega
set_option maxRecDepth 100000 in
set_option maxHeartbeats 8000000 in
theorem implFreeYes (a : Option Addr) (cap : Nat) (ss : List (Int × Int)) (x y : Int) (w : World) (h : IsTurns w a ss) (hl : ss.length ≤ 300) (ho : SpOk ss) (hx : tiB x = true) (hy : tiB y = true) (hxy : x ≤ y) :
    Calls Try.prog 19 #[.slice a ss.length cap, .int .i64 x, .int .i64 y] w fun e w' => (∃ v, e = .returned v ∧ OP w' w.heap.size 47 v (freeS ss x y)) ∧ Below w.heap.size w w' := by
  obtain ⟨i0, hi, hz0, hz1, hz2⟩ := info_parts edgeInfo
  have HT : Hid (IsTurns w a ss) := h
  have HO : Hid (SpOk ss) := ho
  have HR : Hid (true = true ↔ SpOk ss) := ⟨fun _ => ho, fun _ => rfl⟩
  have hl2 : ss.length ≤ 2000000 := by omega
  have nxy : ¬ y < x := by omega
  clear h ho
  go_enter Try.func19, Try.ntmps19
  go_wp2_with (first | (go_at_call 14; with_reducible refine (implSpansOk _ _ _ _ HT.out hl2 true HR.out).mono ?_; rintro e w1 ⟨rfl, b1⟩) | (go_at_call 36; first | (with_reducible refine (implTime x _ true hx).mono ?_; rintro e w' ⟨rfl, rfl⟩) | (with_reducible refine (implTime y _ true hy).mono ?_; rintro e w' ⟨rfl, rfl⟩)) | (go_at_call 37; refine (implEdgesOf _ _ _ _ (by omega)).mono ?_; rintro e w2 ⟨g2, rfl, O2, b2, l2, u2⟩))
  have B2 := bstep b1 b2
  have s1 := b1.size
  have HO2 : Hid (OP w2 w.heap.size 63 (.slice (some ⟨g2, 0, none⟩) 2 2) (feL x y ss 0)) := by rw [feL_zero]; exact O2.base s1
  clear O2 b2 b1
  go_loopw [7, 9, 34] (fun ev _ i wr => ∃ (k g c : Nat), k ≤ ss.length ∧ i = .int .i64 k ∧ ev = .slice (some ⟨g, 0, none⟩) (2 + 2 * k) c ∧ OP wr w.heap.size 63 (.slice (some ⟨g, 0, none⟩) (2 + 2 * k) c) (feL x y ss k) ∧ w.heap.size ≤ g ∧ g < wr.heap.size ∧ Below w.heap.size w wr) (fun _ _ i _ => ss.length - (intOf i).toNat)
  case atStart => exact ⟨0, g2, 2, by omega, rfl, rfl, HO2.out, by omega, u2, B2⟩
  case round =>
    obtain ⟨k, g, c, hk, rfl, rfl, hO, hg0, hg1, hb⟩ := hrel
    have HOk : Hid (OP wr w.heap.size 63 (.slice (some ⟨g, 0, none⟩) (2 + 2 * k) c) (feL x y ss k)) := hO
    clear hO
    by_cases hlt : k < ss.length
    · have T := HT.out.below (B := 0) hb
      rcases T with T | ⟨b, off, rfl, hbs, hc⟩
      · rw [T] at hlt; simp at hlt
      obtain ⟨c0, c1⟩ := hc k hlt
      have hi0 : (0 : Int) ≤ (k : Int) := by omega
      have hi1 : (k : Int) < (ss.length : Int) := by omega
      have hsz := hb.size
      have hbA : Below w.heap.size w (wr.alloc (.cells #[.int .i64 (tAt ss k), .int .i64 (tSh ss k)] 47)) := hb.alloc hb.size _
      have HF : Hid (feL x y ss (k + 1) = feL x y ss k ++ edgesS (-1) [(tAt ss k, tSh ss k)]) := feL_succ x y ss k hlt
      have HL : Hid ((feL x y ss k).length = 2 + 2 * k) := feL_len x y ss k hk
      clear hc
      go_wp2_with (first
        | (go_at_call 37; refine (implEdgesOf _ _ _ _ (by omega)).mono ?_; rintro e w3 ⟨g3, rfl, O3, b3, l3, u3⟩; have B3 := hbA.trans (b3.mono (by simp; omega)); have s3 := b3.size; have OK3 : OP w3 w.heap.size 63 (.slice (some ⟨g, 0, none⟩) (2 + 2 * k) c) (feL x y ss k) := HOk.out.on (bstep ((Below.refl wr.heap.size wr).alloc (Nat.le_refl _) (.cells #[.int .i64 (tAt ss k), .int .i64 (tSh ss k)] 47)) b3); have OX3 : w3.ownsRow w.heap.size 63 2 (.slice (some ⟨g, 0, none⟩) (2 + 2 * k) c) (2 + 2 * k) (pcs (feL x y ss k)) := (by have q := OK3; unfold OP at q; rw [HL.out] at q; exact q); have HB3 : w.heap.size ≤ w3.heap.size := B3.size)
        | (at_builtin;  refine wpList_append_lies _ rfl _ _ _ rfl w.heap.size 63 i0 (.agg #[.int .i64 0, .int .i64 0]) 2 16 Try.underlying52 hi hz0 hz1 hz2 rfl (by omega) _ (2 + 2 * k) (pcs (feL x y ss k)) rfl OX3 ⟨g3, 0, none⟩ 2 2 (pcs (edgesS (-1) [(tAt ss k, tSh ss k)])) rfl rfl (OP.news O3 rfl) (pcs_one _) (by omega) (by unfold maxLen; omega) (by omega) HB3 _ rfl ?_; intro g4 c4 w4 hown hgrow hat hlt4; have O4 : OP w4 w.heap.size 63 (.slice (some ⟨g4, 0, none⟩) (2 + 2 * (k + 1)) c4) (feL x y ss (k + 1)) := (by rw [HF.out, show 2 + 2 * (k + 1) = 2 + 2 * k + 2 by omega]; exact OP.app hown HL.out.symm rfl); have HO4 : Hid (OP w4 w.heap.size 63 (.slice (some ⟨g4, 0, none⟩) (2 + 2 * (k + 1)) c4) (feL x y ss (k + 1))) := O4; have AB := app_below B3 hg0 HB3 hgrow hat; have B4 := AB.1; have g40 := AB.2; clear AB; clear O4 hown hgrow hat OK3 OX3 O3))
      go_roundw
      case rel => exact ⟨k + 1, g4, c4, by omega, by go_num, by rw [show 2 + 2 * (k + 1) = 2 + 2 * k + 2 by omega], HO4.out, g40, hlt4, B4⟩
      case measure => simp [intOf]; omega
    · obtain rfl : k = ss.length := by omega
      have HL : Hid ((feL x y ss ss.length).length = 2 + 2 * ss.length) := feL_len x y ss ss.length hk
      have hsz := hb.size
      have IC := implCounted w.heap.size g c (feL x y ss ss.length) wr (by rw [HL.out]; exact HOk.out) hg0 hg1 (by rw [HL.out]; omega) (by rw [feL_all]; exact fe_st x y ss)
      rw [HL.out] at IC
      have HF : Hid (runE (edSort (feL x y ss ss.length)) = freeS ss x y) := free_same ss _ x y (can_of_ok HO.out) hxy (by rw [← feL_all]; exact edSort_perm _) (edSort_sorted _)
      rw [HF.out] at IC
      go_wp2_with fail
      refine IC.mono ?_
      rintro e w3 ⟨⟨v, rfl, O3⟩, b3⟩
      have HO3 : Hid (OP w3 w.heap.size 47 v (freeS ss x y)) := O3.base hsz
      have B3 : Below w.heap.size w w3 := hb.trans b3
      clear O3 b3 IC
      go_wp2
      go_ret
      exact ⟨⟨_, rfl, HO3.out⟩, B3⟩
end Go.Proofs.Ytcnemmmgnpociaa
