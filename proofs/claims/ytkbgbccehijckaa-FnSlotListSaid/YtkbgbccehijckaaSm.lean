/- What is free: the specification's own loops. -/
import Derived.Test.YtkbgbccehijckaaSl
import Derived.Test.YtkbgbccehijckaaSb
namespace Go.Proofs.Ytkbgbccehijckaa
open Go.RowKit
set_option linter.unusedVariables false
theorem OP.snoc {w : World} {B g cap n : Nat} {T : TypeId} {ts : List (Int × Int)} {x y : Int} (h : w.ownsRow B T 2 (.slice (some ⟨g, 0, none⟩) (n + 1) cap) (n + 1) (pcs ts ++ [.int .i64 x, .int .i64 y])) (hn : n = ts.length) : OP w B T (.slice (some ⟨g, 0, none⟩) (n + 1) cap) (ts ++ [(x, y)]) := by
  unfold OP
  rw [pcs_snoc, List.length_append, ← hn]
  exact h
theorem grown_own {w W w4 : World} {B n : Nat} {T : TypeId} {v : Value} {xs : List Value} {o : Obj} (h : W.ownsRow B T 2 v n xs) (b : Below B w W ∧ B ≤ W.heap.size) (hgrow : (W.alloc o).grownBy w4 v.ownBlock) : Below B w w4 :=
  (b.1.alloc b.2 o).grown hgrow (by simp; have := b.2; omega) (fun k hk => (World.ownsRow.lt h k hk).1)
def cutV (a b : Int) (s : Int × Int) : Int × Int := ((if s.1 < a then a else s.1), (if b < s.2 then b else s.2))
theorem cut_yes (a b : Int) (ss : List (Int × Int)) (k : Nat) (h : k < ss.length) (x y : Int) (hx : (if tAt ss k < a then a else tAt ss k) = x) (hy : (if b < tSh ss k then b else tSh ss k) = y) (hxy : x < y) : cutS a b (ss.take (k + 1)) = cutS a b (ss.take k) ++ [(x, y)] := by
  rw [List.take_add_one, cutS_append]
  congr 1
  simp only [List.getElem?_eq_getElem h, Option.toList_some]
  rw [cutS_cons, ← tAt_get ss k h]
  simp only [hx, hy]
  rw [if_pos hxy]; rfl
theorem cut_no (a b : Int) (ss : List (Int × Int)) (k : Nat) (h : k < ss.length) (x y : Int) (hx : (if tAt ss k < a then a else tAt ss k) = x) (hy : (if b < tSh ss k then b else tSh ss k) = y) (hxy : ¬ x < y) : cutS a b (ss.take (k + 1)) = cutS a b (ss.take k) := by
  rw [List.take_add_one, cutS_append]
  simp only [List.getElem?_eq_getElem h, Option.toList_some]
  rw [cutS_cons, ← tAt_get ss k h]
  simp only [hx, hy]
  rw [if_neg hxy]; simp [cutS]
theorem cut_len (a b : Int) (ss : List (Int × Int)) (k : Nat) : (cutS a b (ss.take k)).length ≤ ss.length := by
  unfold cutS
  exact Nat.le_trans (List.length_filterMap_le _ _) (by simp; omega)
set_option maxRecDepth 100000 in
set_option maxHeartbeats 8000000 in
theorem specWithin (a : Option Addr) (cap : Nat) (ss : List (Int × Int)) (x y : Int) (w : World) (h : IsTurns w a ss) (hl : ss.length ≤ 2000000) :
    Calls Try.prog 55 #[.slice a ss.length cap, .int .i64 x, .int .i64 y] w fun e w' => (∃ v, e = .returned v ∧ OP w' w.heap.size 51 v (cutS x y ss)) ∧ Below w.heap.size w w' := by
  obtain ⟨i0, hi, hz0, hz1, hz2⟩ := info_parts spanInfo
  have HT : Hid (IsTurns w a ss) := h
  have O0 := OP.made w 51 [] #[] rfl (by simp)
  have HO0 : Hid (OP (w.alloc (.cells #[] 51)) w.heap.size 51 (.slice (some ⟨w.heap.size, 0, none⟩) 0 0) (cutS x y (ss.take 0))) := by unfold Hid; simpa [cutS] using O0
  clear h O0
  go_enter Try.func55, Try.ntmps55
  go_wp2
  go_loopw [7, 8, 9] (fun ov i _ wr => ∃ (k n g c : Nat), k ≤ ss.length ∧ i = .int .i64 k ∧ ov = .slice (some ⟨g, 0, none⟩) n c ∧ n = (cutS x y (ss.take k)).length ∧ OP wr w.heap.size 51 (.slice (some ⟨g, 0, none⟩) n c) (cutS x y (ss.take k)) ∧ Below w.heap.size w wr) (fun _ i _ _ => ss.length - (intOf i).toNat)
  case atStart => exact ⟨0, 0, w.heap.size, 0, by omega, rfl, rfl, by simp [cutS], HO0.out, (Below.refl _ _).alloc (Nat.le_refl _) _⟩
  case round =>
    obtain ⟨k, n, g, c, hk, rfl, rfl, hn, hO, hb⟩ := hrel
    have HO : Hid (OP wr w.heap.size 51 (.slice (some ⟨g, 0, none⟩) n c) (cutS x y (ss.take k))) := hO
    have HN : Hid (n = (cutS x y (ss.take k)).length) := hn
    have n2 : n ≤ 2000000 := by have := cut_len x y ss k; omega
    have hsz := hb.size
    clear hO hn
    by_cases hlt : k < ss.length
    · have T := HT.out.below (B := 0) hb
      rcases T with T | ⟨b, off, rfl, hbs, hc⟩
      · rw [T] at hlt; simp at hlt
      obtain ⟨c0, c1⟩ := hc k hlt
      have hi0 : (0 : Int) ≤ (k : Int) := by omega
      have hi1 : (k : Int) < (ss.length : Int) := by omega
      have CY : Hid (∀ lo hi, (if tAt ss k < x then x else tAt ss k) = lo → (if y < tSh ss k then y else tSh ss k) = hi → lo < hi → cutS x y (ss.take (k + 1)) = cutS x y (ss.take k) ++ [(lo, hi)]) := fun lo hi h1 h2 h3 => cut_yes x y ss k hlt lo hi h1 h2 h3
      have CN : Hid (∀ lo hi, (if tAt ss k < x then x else tAt ss k) = lo → (if y < tSh ss k then y else tSh ss k) = hi → ¬ lo < hi → cutS x y (ss.take (k + 1)) = cutS x y (ss.take k)) := fun lo hi h1 h2 h3 => cut_no x y ss k hlt lo hi h1 h2 h3
      have bA : Below wr.heap.size wr (wr.alloc (.cells #[.int .i64 (tAt ss k), .int .i64 (tSh ss k)] 51)) := (Below.refl _ _).alloc (Nat.le_refl _) _
      clear hc
      generalize tAt ss k = X at *
      generalize tSh ss k = Y at *
      by_cases h1 : X < x
      · by_cases h2 : y < Y
        · by_cases h3 : x < y
          · have OXn : Hid (n = (cutS x y (ss.take k)).length) := HN.out
            have HQ : Hid (cutS x y (ss.take (k + 1)) = cutS x y (ss.take k) ++ [(x, y)]) := CY.out _ _ (if_pos h1) (if_pos h2) h3
            have HOX : Hid (OP (wr.alloc (.cells #[.int .i64 x, .int .i64 y] 51)) w.heap.size 51 (.slice (some ⟨g, 0, none⟩) n c) (cutS x y (ss.take k))) := HO.out.on ((Below.refl _ _).alloc (Nat.le_refl _) _)
            have HBX : Hid (w.heap.size ≤ ((wr.alloc (.cells #[.int .i64 x, .int .i64 y] 51)).alloc (.cells #[.int .i64 x, .int .i64 y] 51)).heap.size) := by unfold Hid; simp; omega
            have HBW : Hid (Below w.heap.size w (wr.alloc (.cells #[.int .i64 x, .int .i64 y] 51)) ∧ w.heap.size ≤ (wr.alloc (.cells #[.int .i64 x, .int .i64 y] 51)).heap.size) := ⟨hb.alloc hsz _, by simp; omega⟩
            have HOY : Hid ((wr.alloc (.cells #[.int .i64 x, .int .i64 y] 51)).ownsRow w.heap.size 51 2 (.slice (some ⟨g, 0, none⟩) n c) n (pcs (cutS x y (ss.take k)))) := by have q := HOX.out; unfold OP at q; rw [← HN.out] at q; exact q
            have HNW : Hid (((wr.alloc (.cells #[.int .i64 x, .int .i64 y] 51)).alloc (.cells #[.int .i64 x, .int .i64 y] 51)).heap[wr.heap.size + 1]? = some (.cells #[.int .i64 x, .int .i64 y] 51)) := by have q := heap_alloc_new (wr.alloc (.cells #[.int .i64 x, .int .i64 y] 51)) (.cells #[.int .i64 x, .int .i64 y] 51); rw [World.size_alloc] at q; exact q
            clear CY CN
            go_wp2_with (first | (at_builtin; refine wpList_append_lies _ rfl _ _ _ rfl w.heap.size 51 i0 (.agg #[.int .i64 0, .int .i64 0]) 2 16 Try.underlying24 hi hz0 hz1 hz2 rfl (by omega) _ n (pcs (cutS x y (ss.take k))) rfl (World.ownsRow.alloc HOY.out _) ⟨_, 0, none⟩ 1 1 [.int .i64 _, .int .i64 _] rfl rfl (World.news_of_block HNW.out) (by simp [Value.oneCell']) (by omega) (by unfold maxLen; omega) (by omega) HBX.out _ rfl ?_; intro g4 c4 w4 hown hgrow hat hlt4; have HO4 : Hid (OP w4 w.heap.size 51 (.slice (some ⟨g4, 0, none⟩) (n + 1) c4) ((cutS x y (ss.take k)) ++ [(x, y)])) := OP.snoc hown HN.out; have B4 : Below w.heap.size w w4 := grown_own HOY.out HBW.out hgrow; clear hown hgrow hat))
            have HL4 : Hid ((cutS x y (ss.take (k + 1))).length = n + 1) := by unfold Hid; rw [HQ.out, List.length_append, ← HN.out]; rfl
            have HO5 : Hid (OP w4 w.heap.size 51 (.slice (some ⟨g4, 0, none⟩) (n + 1) c4) (cutS x y (ss.take (k + 1)))) := by unfold Hid; rw [HQ.out]; exact HO4.out
            go_roundw
            case rel => exact ⟨k + 1, n + 1, g4, c4, by omega, by go_num, rfl, HL4.out.symm, HO5.out, B4⟩
            case measure => simp [intOf]; omega
          · have HQ : Hid (cutS x y (ss.take (k + 1)) = cutS x y (ss.take k)) := CN.out _ _ (if_pos h1) (if_pos h2) h3
            have HOX : Hid (OP (wr.alloc (.cells #[.int .i64 x, .int .i64 y] 51)) w.heap.size 51 (.slice (some ⟨g, 0, none⟩) n c) (cutS x y (ss.take k))) := HO.out.on ((Below.refl _ _).alloc (Nat.le_refl _) _)
            have HBX : Hid (w.heap.size ≤ ((wr.alloc (.cells #[.int .i64 x, .int .i64 y] 51)).alloc (.cells #[.int .i64 x, .int .i64 y] 51)).heap.size) := by unfold Hid; simp; omega
            have HBW : Hid (Below w.heap.size w (wr.alloc (.cells #[.int .i64 x, .int .i64 y] 51)) ∧ w.heap.size ≤ (wr.alloc (.cells #[.int .i64 x, .int .i64 y] 51)).heap.size) := ⟨hb.alloc hsz _, by simp; omega⟩
            clear CY CN
            go_wp2
            go_roundw
            case rel => exact ⟨k + 1, n, g, c, by omega, by go_num, rfl, by rw [HQ.out]; exact HN.out, by rw [HQ.out]; exact HOX.out, HBW.out.1⟩
            case measure => simp [intOf]; omega
        · by_cases h3 : x < Y
          · have OXn : Hid (n = (cutS x y (ss.take k)).length) := HN.out
            have HQ : Hid (cutS x y (ss.take (k + 1)) = cutS x y (ss.take k) ++ [(x, Y)]) := CY.out _ _ (if_pos h1) (if_neg h2) h3
            have HOX : Hid (OP (wr.alloc (.cells #[.int .i64 x, .int .i64 Y] 51)) w.heap.size 51 (.slice (some ⟨g, 0, none⟩) n c) (cutS x y (ss.take k))) := HO.out.on ((Below.refl _ _).alloc (Nat.le_refl _) _)
            have HBX : Hid (w.heap.size ≤ ((wr.alloc (.cells #[.int .i64 x, .int .i64 Y] 51)).alloc (.cells #[.int .i64 x, .int .i64 Y] 51)).heap.size) := by unfold Hid; simp; omega
            have HBW : Hid (Below w.heap.size w (wr.alloc (.cells #[.int .i64 x, .int .i64 Y] 51)) ∧ w.heap.size ≤ (wr.alloc (.cells #[.int .i64 x, .int .i64 Y] 51)).heap.size) := ⟨hb.alloc hsz _, by simp; omega⟩
            have HOY : Hid ((wr.alloc (.cells #[.int .i64 x, .int .i64 Y] 51)).ownsRow w.heap.size 51 2 (.slice (some ⟨g, 0, none⟩) n c) n (pcs (cutS x y (ss.take k)))) := by have q := HOX.out; unfold OP at q; rw [← HN.out] at q; exact q
            have HNW : Hid (((wr.alloc (.cells #[.int .i64 x, .int .i64 Y] 51)).alloc (.cells #[.int .i64 x, .int .i64 Y] 51)).heap[wr.heap.size + 1]? = some (.cells #[.int .i64 x, .int .i64 Y] 51)) := by have q := heap_alloc_new (wr.alloc (.cells #[.int .i64 x, .int .i64 Y] 51)) (.cells #[.int .i64 x, .int .i64 Y] 51); rw [World.size_alloc] at q; exact q
            clear CY CN
            go_wp2_with (first | (at_builtin; refine wpList_append_lies _ rfl _ _ _ rfl w.heap.size 51 i0 (.agg #[.int .i64 0, .int .i64 0]) 2 16 Try.underlying24 hi hz0 hz1 hz2 rfl (by omega) _ n (pcs (cutS x y (ss.take k))) rfl (World.ownsRow.alloc HOY.out _) ⟨_, 0, none⟩ 1 1 [.int .i64 _, .int .i64 _] rfl rfl (World.news_of_block HNW.out) (by simp [Value.oneCell']) (by omega) (by unfold maxLen; omega) (by omega) HBX.out _ rfl ?_; intro g4 c4 w4 hown hgrow hat hlt4; have HO4 : Hid (OP w4 w.heap.size 51 (.slice (some ⟨g4, 0, none⟩) (n + 1) c4) ((cutS x y (ss.take k)) ++ [(x, Y)])) := OP.snoc hown HN.out; have B4 : Below w.heap.size w w4 := grown_own HOY.out HBW.out hgrow; clear hown hgrow hat))
            have HL4 : Hid ((cutS x y (ss.take (k + 1))).length = n + 1) := by unfold Hid; rw [HQ.out, List.length_append, ← HN.out]; rfl
            have HO5 : Hid (OP w4 w.heap.size 51 (.slice (some ⟨g4, 0, none⟩) (n + 1) c4) (cutS x y (ss.take (k + 1)))) := by unfold Hid; rw [HQ.out]; exact HO4.out
            go_roundw
            case rel => exact ⟨k + 1, n + 1, g4, c4, by omega, by go_num, rfl, HL4.out.symm, HO5.out, B4⟩
            case measure => simp [intOf]; omega
          · have HQ : Hid (cutS x y (ss.take (k + 1)) = cutS x y (ss.take k)) := CN.out _ _ (if_pos h1) (if_neg h2) h3
            have HOX : Hid (OP (wr.alloc (.cells #[.int .i64 x, .int .i64 Y] 51)) w.heap.size 51 (.slice (some ⟨g, 0, none⟩) n c) (cutS x y (ss.take k))) := HO.out.on ((Below.refl _ _).alloc (Nat.le_refl _) _)
            have HBX : Hid (w.heap.size ≤ ((wr.alloc (.cells #[.int .i64 x, .int .i64 Y] 51)).alloc (.cells #[.int .i64 x, .int .i64 Y] 51)).heap.size) := by unfold Hid; simp; omega
            have HBW : Hid (Below w.heap.size w (wr.alloc (.cells #[.int .i64 x, .int .i64 Y] 51)) ∧ w.heap.size ≤ (wr.alloc (.cells #[.int .i64 x, .int .i64 Y] 51)).heap.size) := ⟨hb.alloc hsz _, by simp; omega⟩
            clear CY CN
            go_wp2
            go_roundw
            case rel => exact ⟨k + 1, n, g, c, by omega, by go_num, rfl, by rw [HQ.out]; exact HN.out, by rw [HQ.out]; exact HOX.out, HBW.out.1⟩
            case measure => simp [intOf]; omega
      · by_cases h2 : y < Y
        · by_cases h3 : X < y
          · have OXn : Hid (n = (cutS x y (ss.take k)).length) := HN.out
            have HQ : Hid (cutS x y (ss.take (k + 1)) = cutS x y (ss.take k) ++ [(X, y)]) := CY.out _ _ (if_neg h1) (if_pos h2) h3
            have HOX : Hid (OP (wr.alloc (.cells #[.int .i64 X, .int .i64 y] 51)) w.heap.size 51 (.slice (some ⟨g, 0, none⟩) n c) (cutS x y (ss.take k))) := HO.out.on ((Below.refl _ _).alloc (Nat.le_refl _) _)
            have HBX : Hid (w.heap.size ≤ ((wr.alloc (.cells #[.int .i64 X, .int .i64 y] 51)).alloc (.cells #[.int .i64 X, .int .i64 y] 51)).heap.size) := by unfold Hid; simp; omega
            have HBW : Hid (Below w.heap.size w (wr.alloc (.cells #[.int .i64 X, .int .i64 y] 51)) ∧ w.heap.size ≤ (wr.alloc (.cells #[.int .i64 X, .int .i64 y] 51)).heap.size) := ⟨hb.alloc hsz _, by simp; omega⟩
            have HOY : Hid ((wr.alloc (.cells #[.int .i64 X, .int .i64 y] 51)).ownsRow w.heap.size 51 2 (.slice (some ⟨g, 0, none⟩) n c) n (pcs (cutS x y (ss.take k)))) := by have q := HOX.out; unfold OP at q; rw [← HN.out] at q; exact q
            have HNW : Hid (((wr.alloc (.cells #[.int .i64 X, .int .i64 y] 51)).alloc (.cells #[.int .i64 X, .int .i64 y] 51)).heap[wr.heap.size + 1]? = some (.cells #[.int .i64 X, .int .i64 y] 51)) := by have q := heap_alloc_new (wr.alloc (.cells #[.int .i64 X, .int .i64 y] 51)) (.cells #[.int .i64 X, .int .i64 y] 51); rw [World.size_alloc] at q; exact q
            clear CY CN
            go_wp2_with (first | (at_builtin; refine wpList_append_lies _ rfl _ _ _ rfl w.heap.size 51 i0 (.agg #[.int .i64 0, .int .i64 0]) 2 16 Try.underlying24 hi hz0 hz1 hz2 rfl (by omega) _ n (pcs (cutS x y (ss.take k))) rfl (World.ownsRow.alloc HOY.out _) ⟨_, 0, none⟩ 1 1 [.int .i64 _, .int .i64 _] rfl rfl (World.news_of_block HNW.out) (by simp [Value.oneCell']) (by omega) (by unfold maxLen; omega) (by omega) HBX.out _ rfl ?_; intro g4 c4 w4 hown hgrow hat hlt4; have HO4 : Hid (OP w4 w.heap.size 51 (.slice (some ⟨g4, 0, none⟩) (n + 1) c4) ((cutS x y (ss.take k)) ++ [(X, y)])) := OP.snoc hown HN.out; have B4 : Below w.heap.size w w4 := grown_own HOY.out HBW.out hgrow; clear hown hgrow hat))
            have HL4 : Hid ((cutS x y (ss.take (k + 1))).length = n + 1) := by unfold Hid; rw [HQ.out, List.length_append, ← HN.out]; rfl
            have HO5 : Hid (OP w4 w.heap.size 51 (.slice (some ⟨g4, 0, none⟩) (n + 1) c4) (cutS x y (ss.take (k + 1)))) := by unfold Hid; rw [HQ.out]; exact HO4.out
            go_roundw
            case rel => exact ⟨k + 1, n + 1, g4, c4, by omega, by go_num, rfl, HL4.out.symm, HO5.out, B4⟩
            case measure => simp [intOf]; omega
          · have HQ : Hid (cutS x y (ss.take (k + 1)) = cutS x y (ss.take k)) := CN.out _ _ (if_neg h1) (if_pos h2) h3
            have HOX : Hid (OP (wr.alloc (.cells #[.int .i64 X, .int .i64 y] 51)) w.heap.size 51 (.slice (some ⟨g, 0, none⟩) n c) (cutS x y (ss.take k))) := HO.out.on ((Below.refl _ _).alloc (Nat.le_refl _) _)
            have HBX : Hid (w.heap.size ≤ ((wr.alloc (.cells #[.int .i64 X, .int .i64 y] 51)).alloc (.cells #[.int .i64 X, .int .i64 y] 51)).heap.size) := by unfold Hid; simp; omega
            have HBW : Hid (Below w.heap.size w (wr.alloc (.cells #[.int .i64 X, .int .i64 y] 51)) ∧ w.heap.size ≤ (wr.alloc (.cells #[.int .i64 X, .int .i64 y] 51)).heap.size) := ⟨hb.alloc hsz _, by simp; omega⟩
            clear CY CN
            go_wp2
            go_roundw
            case rel => exact ⟨k + 1, n, g, c, by omega, by go_num, rfl, by rw [HQ.out]; exact HN.out, by rw [HQ.out]; exact HOX.out, HBW.out.1⟩
            case measure => simp [intOf]; omega
        · by_cases h3 : X < Y
          · have OXn : Hid (n = (cutS x y (ss.take k)).length) := HN.out
            have HQ : Hid (cutS x y (ss.take (k + 1)) = cutS x y (ss.take k) ++ [(X, Y)]) := CY.out _ _ (if_neg h1) (if_neg h2) h3
            have HOX : Hid (OP (wr.alloc (.cells #[.int .i64 X, .int .i64 Y] 51)) w.heap.size 51 (.slice (some ⟨g, 0, none⟩) n c) (cutS x y (ss.take k))) := HO.out.on ((Below.refl _ _).alloc (Nat.le_refl _) _)
            have HBX : Hid (w.heap.size ≤ ((wr.alloc (.cells #[.int .i64 X, .int .i64 Y] 51)).alloc (.cells #[.int .i64 X, .int .i64 Y] 51)).heap.size) := by unfold Hid; simp; omega
            have HBW : Hid (Below w.heap.size w (wr.alloc (.cells #[.int .i64 X, .int .i64 Y] 51)) ∧ w.heap.size ≤ (wr.alloc (.cells #[.int .i64 X, .int .i64 Y] 51)).heap.size) := ⟨hb.alloc hsz _, by simp; omega⟩
            have HOY : Hid ((wr.alloc (.cells #[.int .i64 X, .int .i64 Y] 51)).ownsRow w.heap.size 51 2 (.slice (some ⟨g, 0, none⟩) n c) n (pcs (cutS x y (ss.take k)))) := by have q := HOX.out; unfold OP at q; rw [← HN.out] at q; exact q
            have HNW : Hid (((wr.alloc (.cells #[.int .i64 X, .int .i64 Y] 51)).alloc (.cells #[.int .i64 X, .int .i64 Y] 51)).heap[wr.heap.size + 1]? = some (.cells #[.int .i64 X, .int .i64 Y] 51)) := by have q := heap_alloc_new (wr.alloc (.cells #[.int .i64 X, .int .i64 Y] 51)) (.cells #[.int .i64 X, .int .i64 Y] 51); rw [World.size_alloc] at q; exact q
            clear CY CN
            go_wp2_with (first | (at_builtin; refine wpList_append_lies _ rfl _ _ _ rfl w.heap.size 51 i0 (.agg #[.int .i64 0, .int .i64 0]) 2 16 Try.underlying24 hi hz0 hz1 hz2 rfl (by omega) _ n (pcs (cutS x y (ss.take k))) rfl (World.ownsRow.alloc HOY.out _) ⟨_, 0, none⟩ 1 1 [.int .i64 _, .int .i64 _] rfl rfl (World.news_of_block HNW.out) (by simp [Value.oneCell']) (by omega) (by unfold maxLen; omega) (by omega) HBX.out _ rfl ?_; intro g4 c4 w4 hown hgrow hat hlt4; have HO4 : Hid (OP w4 w.heap.size 51 (.slice (some ⟨g4, 0, none⟩) (n + 1) c4) ((cutS x y (ss.take k)) ++ [(X, Y)])) := OP.snoc hown HN.out; have B4 : Below w.heap.size w w4 := grown_own HOY.out HBW.out hgrow; clear hown hgrow hat))
            have HL4 : Hid ((cutS x y (ss.take (k + 1))).length = n + 1) := by unfold Hid; rw [HQ.out, List.length_append, ← HN.out]; rfl
            have HO5 : Hid (OP w4 w.heap.size 51 (.slice (some ⟨g4, 0, none⟩) (n + 1) c4) (cutS x y (ss.take (k + 1)))) := by unfold Hid; rw [HQ.out]; exact HO4.out
            go_roundw
            case rel => exact ⟨k + 1, n + 1, g4, c4, by omega, by go_num, rfl, HL4.out.symm, HO5.out, B4⟩
            case measure => simp [intOf]; omega
          · have HQ : Hid (cutS x y (ss.take (k + 1)) = cutS x y (ss.take k)) := CN.out _ _ (if_neg h1) (if_neg h2) h3
            have HOX : Hid (OP (wr.alloc (.cells #[.int .i64 X, .int .i64 Y] 51)) w.heap.size 51 (.slice (some ⟨g, 0, none⟩) n c) (cutS x y (ss.take k))) := HO.out.on ((Below.refl _ _).alloc (Nat.le_refl _) _)
            have HBX : Hid (w.heap.size ≤ ((wr.alloc (.cells #[.int .i64 X, .int .i64 Y] 51)).alloc (.cells #[.int .i64 X, .int .i64 Y] 51)).heap.size) := by unfold Hid; simp; omega
            have HBW : Hid (Below w.heap.size w (wr.alloc (.cells #[.int .i64 X, .int .i64 Y] 51)) ∧ w.heap.size ≤ (wr.alloc (.cells #[.int .i64 X, .int .i64 Y] 51)).heap.size) := ⟨hb.alloc hsz _, by simp; omega⟩
            clear CY CN
            go_wp2
            go_roundw
            case rel => exact ⟨k + 1, n, g, c, by omega, by go_num, rfl, by rw [HQ.out]; exact HN.out, by rw [HQ.out]; exact HOX.out, HBW.out.1⟩
            case measure => simp [intOf]; omega
    · obtain rfl : k = ss.length := by omega
      have HF : Hid (cutS x y (ss.take ss.length) = cutS x y ss) := by unfold Hid; rw [List.take_length]
      have HOF : Hid (OP wr w.heap.size 51 (.slice (some ⟨g, 0, none⟩) n c) (cutS x y ss)) := by have q := HO.out; rw [HF.out] at q; exact q
      clear HO HN
      go_wp2
      go_ret
      exact ⟨⟨_, rfl, HOF.out⟩, hb⟩
end Go.Proofs.Ytkbgbccehijckaa
