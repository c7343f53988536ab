/- What is free: the specification's. -/
import Derived.Test.YtkbgbccehijckaaSm
namespace Go.Proofs.Ytkbgbccehijckaa
open Go.RowKit
set_option linter.unusedVariables false
def gpE (ss : List (Int × Int)) (a : Int) (k : Nat) : List (Int × Int) × Int := (ss.take k).foldl gapS ([], a)
theorem gpE_succ (ss : List (Int × Int)) (a : Int) (k : Nat) (h : k < ss.length) : gpE ss a (k + 1) = gapS (gpE ss a k) (tAt ss k, tSh ss k) := by
  unfold gpE
  rw [List.take_add_one, List.foldl_append, tAt_get ss k h]
  simp [h]
theorem gpE_len (ss : List (Int × Int)) (a : Int) : ∀ k, k ≤ ss.length → (gpE ss a k).1.length ≤ k := by
  intro k
  induction k with
  | zero => intro _; simp [gpE]
  | succ k ih =>
    intro hk
    have := ih (by omega)
    rw [gpE_succ ss a k (by omega)]
    unfold gapS
    simp only
    split
    · rw [List.length_append]; simp only [List.length_cons, List.length_nil]; omega
    · omega
theorem gpE_all (ss : List (Int × Int)) (a : Int) : gpE ss a ss.length = ss.foldl gapS ([], a) := by unfold gpE; rw [List.take_length]
set_option maxRecDepth 100000 in
set_option maxHeartbeats 8000000 in
theorem specL5Free (a : Option Addr) (cap : Nat) (ss : List (Int × Int)) (x y : Int) (w : World) (h : IsTurns w a ss) (hl : ss.length ≤ 1000000) :
    Calls Try.prog 39 #[.slice a ss.length cap, .int .i64 x, .int .i64 y] w fun e w' => (∃ v, e = .returned v ∧ OP w' w.heap.size 51 v (freeS ss x y)) ∧ Below w.heap.size w w' := by
  obtain ⟨i0, hi, hz0, hz1, hz2⟩ := info_parts spanInfo
  have HT : Hid (IsTurns w a ss) := h
  have O0 := OP.made w 51 [] #[] rfl (by simp)
  have HO0 : Hid (OP (w.alloc (.cells #[] 51)) w.heap.size 51 (.slice (some ⟨w.heap.size, 0, none⟩) 0 0) (gpE ss x 0).1) := by unfold Hid; simpa [gpE] using O0
  have HF : Hid (freeS ss x y = cutS x y ((gpE ss x ss.length).1 ++ (if (gpE ss x ss.length).2 < y then [((gpE ss x ss.length).2, y)] else []))) := by unfold Hid; rw [gpE_all]; rfl
  clear h O0
  go_enter Try.func39, Try.ntmps39
  go_wp2
  go_loopw [7, 8, 9] (fun ov av i wr => ∃ (k n g c : Nat), k ≤ ss.length ∧ i = .int .i64 k ∧ av = .int .i64 (gpE ss x k).2 ∧ ov = .slice (some ⟨g, 0, none⟩) n c ∧ n = (gpE ss x k).1.length ∧ OP wr w.heap.size 51 (.slice (some ⟨g, 0, none⟩) n c) (gpE ss x k).1 ∧ Below w.heap.size w wr) (fun _ _ i _ => ss.length - (intOf i).toNat)
  case atStart => exact ⟨0, 0, w.heap.size, 0, by omega, rfl, rfl, rfl, rfl, HO0.out, (Below.refl _ _).alloc (Nat.le_refl _) _⟩
  case round =>
    obtain ⟨k, n, g, c, hk, rfl, rfl, rfl, hn, hO, hb⟩ := hrel
    have HN : Hid (n = (gpE ss x k).1.length) := hn
    have n2 : n ≤ 1000000 := by have := gpE_len ss x k hk; omega
    have hsz := hb.size
    have HOX : Hid (OP wr w.heap.size 51 (.slice (some ⟨g, 0, none⟩) n c) (gpE ss x k).1) := hO
    have HOY : Hid (wr.ownsRow w.heap.size 51 2 (.slice (some ⟨g, 0, none⟩) n c) n (pcs (gpE ss x k).1)) := by have q := hO; unfold OP at q; rw [← hn] at q; exact q
    clear hO hn
    by_cases hlt : k < ss.length
    · have T := HT.out
      rcases T with T | ⟨b, off, rfl, hbs, hc⟩
      · rw [T] at hlt; simp at hlt
      have HC : Hid (∀ w' : World, Below w.heap.size w w' → w'.cell? ⟨b, off + k * 2, none⟩ = some (.int .i64 (tAt ss k)) ∧ w'.cell? ⟨b, off + k * 2 + 1, none⟩ = some (.int .i64 (tSh ss k))) := fun w' hb' => ⟨by rw [hb'.cell (p := ⟨b, off + k * 2, none⟩) hbs]; exact (hc k hlt).1, by rw [hb'.cell (p := ⟨b, off + k * 2 + 1, none⟩) hbs]; exact (hc k hlt).2⟩
      obtain ⟨c0, c1⟩ := HC.out wr hb
      have hi0 : (0 : Int) ≤ (k : Int) := by omega
      have hi1 : (k : Int) < (ss.length : Int) := by omega
      have hbr : b < wr.heap.size := cell_lt c0
      have HG : Hid (gpE ss x (k + 1) = gapS (gpE ss x k) (tAt ss k, tSh ss k)) := gpE_succ ss x k hlt
      clear hc
      generalize hq1 : gpE ss x (k + 1) = G1 at HG
      have HQ1 : Hid (gpE ss x (k + 1) = G1) := hq1
      clear hq1
      generalize gpE ss x k = G at HG HN HOX HOY ⊢
      generalize tAt ss k = X at *
      generalize tSh ss k = Y at *
      obtain ⟨l, A⟩ := G
      simp only at HN HOX HOY ⊢
      by_cases h1 : A < X
      · have HBX : Hid (w.heap.size ≤ (wr.alloc (.cells #[.int .i64 A, .int .i64 X] 51)).heap.size) := by unfold Hid; simp; omega
        by_cases h2 : A < Y
        · have HE : Hid (G1 = (l ++ [(A, X)], Y)) := by unfold Hid; rw [HG.out]; unfold gapS; simp only [if_pos h1, if_pos h2]
          go_wp2_with (first | (at_builtin; refine wpList_append_lies _ rfl _ _ _ rfl w.heap.size 51 i0 (.agg #[.int .i64 0, .int .i64 0]) 2 16 Try.underlying24 hi hz0 hz1 hz2 rfl (by omega) _ n (pcs l) rfl (World.ownsRow.alloc HOY.out _) ⟨_, 0, none⟩ 1 1 [.int .i64 _, .int .i64 _] rfl rfl (World.news_of_block (heap_alloc_new wr _)) (by simp [Value.oneCell']) (by omega) (by unfold maxLen; omega) (by omega) HBX.out _ rfl ?_; intro g4 c4 w4 hown hgrow hat hlt4; have HO4 : Hid (OP w4 w.heap.size 51 (.slice (some ⟨g4, 0, none⟩) (n + 1) c4) (l ++ [(A, X)])) := OP.snoc hown HN.out; have B4 : Below w.heap.size w w4 := grown_own HOY.out ⟨hb, hsz⟩ hgrow; have D4 := HC.out w4 B4; have d0 := D4.1; have d1 := D4.2; clear D4; clear hown hgrow hat))
          have HO5 : Hid (OP w4 w.heap.size 51 (.slice (some ⟨g4, 0, none⟩) (n + 1) c4) G1.1) := by unfold Hid; rw [HE.out]; exact HO4.out
          go_wp2
          go_roundw
          case rel => exact ⟨k + 1, n + 1, g4, c4, by omega, by go_num, by rw [HQ1.out, HE.out], rfl, by rw [HQ1.out, HE.out, List.length_append, ← HN.out]; rfl, by rw [HQ1.out]; exact HO5.out, B4⟩
          case measure => simp [intOf]; omega
        · have HE : Hid (G1 = (l ++ [(A, X)], A)) := by unfold Hid; rw [HG.out]; unfold gapS; simp only [if_pos h1, if_neg h2]
          go_wp2_with (first | (at_builtin; refine wpList_append_lies _ rfl _ _ _ rfl w.heap.size 51 i0 (.agg #[.int .i64 0, .int .i64 0]) 2 16 Try.underlying24 hi hz0 hz1 hz2 rfl (by omega) _ n (pcs l) rfl (World.ownsRow.alloc HOY.out _) ⟨_, 0, none⟩ 1 1 [.int .i64 _, .int .i64 _] rfl rfl (World.news_of_block (heap_alloc_new wr _)) (by simp [Value.oneCell']) (by omega) (by unfold maxLen; omega) (by omega) HBX.out _ rfl ?_; intro g4 c4 w4 hown hgrow hat hlt4; have HO4 : Hid (OP w4 w.heap.size 51 (.slice (some ⟨g4, 0, none⟩) (n + 1) c4) (l ++ [(A, X)])) := OP.snoc hown HN.out; have B4 : Below w.heap.size w w4 := grown_own HOY.out ⟨hb, hsz⟩ hgrow; have D4 := HC.out w4 B4; have d0 := D4.1; have d1 := D4.2; clear D4; clear hown hgrow hat))
          have HO5 : Hid (OP w4 w.heap.size 51 (.slice (some ⟨g4, 0, none⟩) (n + 1) c4) G1.1) := by unfold Hid; rw [HE.out]; exact HO4.out
          go_wp2
          go_roundw
          case rel => exact ⟨k + 1, n + 1, g4, c4, by omega, by go_num, by rw [HQ1.out, HE.out], rfl, by rw [HQ1.out, HE.out, List.length_append, ← HN.out]; rfl, by rw [HQ1.out]; exact HO5.out, B4⟩
          case measure => simp [intOf]; omega
      · by_cases h2 : A < Y
        · have HE : Hid (G1 = (l, Y)) := by unfold Hid; rw [HG.out]; unfold gapS; simp only [if_neg h1, if_pos h2]
          go_wp2
          go_roundw
          case rel => exact ⟨k + 1, n, g, c, by omega, by go_num, by rw [HQ1.out, HE.out], rfl, by rw [HQ1.out, HE.out]; exact HN.out, by rw [HQ1.out, HE.out]; exact HOX.out, hb⟩
          case measure => simp [intOf]; omega
        · have HE : Hid (G1 = (l, A)) := by unfold Hid; rw [HG.out]; unfold gapS; simp only [if_neg h1, if_neg h2]
          go_wp2
          go_roundw
          case rel => exact ⟨k + 1, n, g, c, by omega, by go_num, by rw [HQ1.out, HE.out], rfl, by rw [HQ1.out, HE.out]; exact HN.out, by rw [HQ1.out, HE.out]; exact HOX.out, hb⟩
          case measure => simp [intOf]; omega
    · obtain rfl : k = ss.length := by omega
      generalize gpE ss x ss.length = G at *
      obtain ⟨l, A⟩ := G
      simp only at HN HOX HOY HF ⊢
      have HBX : Hid (w.heap.size ≤ (wr.alloc (.cells #[.int .i64 A, .int .i64 y] 51)).heap.size) := by unfold Hid; simp; omega
      by_cases h1 : A < y
      · have HE : Hid (freeS ss x y = cutS x y (l ++ [(A, y)])) := by unfold Hid; rw [HF.out, if_pos h1]
        go_wp2_with (first | (at_builtin; refine wpList_append_lies _ rfl _ _ _ rfl w.heap.size 51 i0 (.agg #[.int .i64 0, .int .i64 0]) 2 16 Try.underlying24 hi hz0 hz1 hz2 rfl (by omega) _ n (pcs l) rfl (World.ownsRow.alloc HOY.out _) ⟨_, 0, none⟩ 1 1 [.int .i64 _, .int .i64 _] rfl rfl (World.news_of_block (heap_alloc_new wr _)) (by simp [Value.oneCell']) (by omega) (by unfold maxLen; omega) (by omega) HBX.out _ rfl ?_; intro g4 c4 w4 hown hgrow hat hlt4; have HO4 : Hid (OP w4 w.heap.size 51 (.slice (some ⟨g4, 0, none⟩) (n + 1) c4) (l ++ [(A, y)])) := OP.snoc hown HN.out; have B4 : Below w.heap.size w w4 := grown_own HOY.out ⟨hb, hsz⟩ hgrow; clear hown hgrow hat) | (go_at_call 55; fail))
        obtain ⟨T4, e4⟩ := HO4.out.isT
        have W5 := specWithin (some ⟨g4, 0, none⟩) c4 (l ++ [(A, y)]) x y w4 T4 (by rw [← e4]; omega)
        rw [← e4, ← HE.out] at W5
        refine W5.mono ?_
        rintro e w5 ⟨⟨v, rfl, O5⟩, b5⟩
        have HO5 : Hid (OP w5 w.heap.size 51 v (freeS ss x y)) := O5.base B4.size
        have B5 := bstep B4 b5
        clear O5 b5 T4 e4 W5
        go_wp2
        go_ret
        exact ⟨⟨_, rfl, HO5.out⟩, B5⟩
      · have HE : Hid (freeS ss x y = cutS x y l) := by unfold Hid; rw [HF.out, if_neg h1, List.append_nil]
        go_wp2_with fail
        obtain ⟨T4, e4⟩ := HOX.out.isT
        have W5 := specWithin (some ⟨g, 0, none⟩) c l x y wr T4 (by rw [← e4]; omega)
        rw [← e4, ← HE.out] at W5
        refine W5.mono ?_
        rintro e w5 ⟨⟨v, rfl, O5⟩, b5⟩
        have HO5 : Hid (OP w5 w.heap.size 51 v (freeS ss x y)) := O5.base hsz
        have B5 := bstep hb b5
        clear O5 b5 T4 e4 W5
        go_wp2
        go_ret
        exact ⟨⟨_, rfl, HO5.out⟩, B5⟩
end Go.Proofs.Ytkbgbccehijckaa
