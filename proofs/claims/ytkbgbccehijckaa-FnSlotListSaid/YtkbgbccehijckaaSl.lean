/- What is free: the program's, where there is an answer. -/
import Derived.Test.YtkbgbccehijckaaYb
namespace Go.Proofs.Ytkbgbccehijckaa
open Go.RowKit
set_option linter.unusedVariables false
theorem app_below {w w3 w4 : World} {B g g4 n c : Nat} (b : Below B w w3) (hg : B ≤ g) (hB : B ≤ w3.heap.size) (hgrow : w3.grownBy w4 (Value.slice (some ⟨g, 0, none⟩) n c).ownBlock) (hat : (Value.slice (some ⟨g, 0, none⟩) n c).ownBlock = some g4 ∨ g4 = w3.heap.size) : Below B w w4 ∧ B ≤ g4 := by
  have e : (Value.slice (some ⟨g, 0, none⟩) n c).ownBlock = some g := rfl
  rw [e] at hgrow hat
  refine ⟨b.grown hgrow hB (fun k hk => ?_), ?_⟩
  · cases hk; exact hg
  · rcases hat with h | h
    · cases h; exact hg
    · omega
set_option maxRecDepth 100000 in
set_option maxHeartbeats 8000000 in
theorem implEdgesAll (a : Option Addr) (cap : Nat) (ss : List (Int × Int)) (st : Int) (w : World) (h : IsTurns w a ss) (hl : ss.length ≤ 300) (hst : -1 ≤ st ∧ st ≤ 1) :
    Calls Try.prog 44 #[.slice a ss.length cap, .int .i64 st] w fun e w' => (∃ v, e = .returned v ∧ OP w' w.heap.size 74 v (edgesS st ss)) ∧ Below w.heap.size w w' := by
  obtain ⟨i0, hi, hz0, hz1, hz2⟩ := info_parts edgeInfo
  have HT : Hid (IsTurns w a ss) := h
  have HS : Hid (-1 ≤ st ∧ st ≤ 1) := hst
  have HO0 : Hid (OP w w.heap.size 74 (.slice none 0 0) (edgesS st (ss.take 0))) := OP.nil _ _ _
  clear h hst
  go_enter Try.func44, Try.ntmps44
  go_wp2
  go_loopw [5, 7, 10] (fun ev0 _ i wr => ∃ (k : Nat) (ev : Value), k ≤ ss.length ∧ i = .int .i64 k ∧ ev = ev0 ∧ OP wr w.heap.size 74 ev (edgesS st (ss.take k)) ∧ Below w.heap.size w wr) (fun _ _ i _ => ss.length - (intOf i).toNat)
  case atStart => exact ⟨0, _, by omega, rfl, rfl, HO0.out, Below.refl _ _⟩
  case round =>
    obtain ⟨k, ev, hk, rfl, hev, hO, hb⟩ := hrel
    subst hev
    have HOk : Hid (OP wr w.heap.size 74 ev (edgesS st (ss.take k))) := hO
    have hsz := hb.size
    clear hO
    by_cases hlt : k < ss.length
    · have T := HT.out.below (B := 0) hb
      rcases T with T | ⟨b, off, rfl, hbs, hc⟩
      · rw [T] at hlt; simp at hlt
      obtain ⟨c0, c1⟩ := hc k hlt
      have hi0 : (0 : Int) ≤ (k : Int) := by omega
      have hi1 : (k : Int) < (ss.length : Int) := by omega
      have hbA : Below wr.heap.size wr (wr.alloc (.cells #[.int .i64 (tAt ss k), .int .i64 (tSh ss k)] 51)) := (Below.refl _ _).alloc (Nat.le_refl _) _
      have HF : Hid (edgesS st (ss.take (k + 1)) = edgesS st (ss.take k) ++ edgesS st [(tAt ss k, tSh ss k)]) := by
        unfold Hid
        rw [List.take_add_one, edgesS_append, tAt_get ss k hlt]
        simp [hlt]
      have HL : Hid ((edgesS st (ss.take k)).length + (edgesS st [(tAt ss k, tSh ss k)]).length ≤ 4000000) := by unfold Hid; rw [edgesS_len, edgesS_len]; simp; omega
      clear hc
      go_wp2_with fail
      with_reducible refine (implEdgesOf _ _ _ _ HS.out).mono ?_
      rintro e w3 ⟨g3, rfl, O3, b3, l3, u3⟩
      have b03 := bstep hbA b3
      have B3 := bstep hb b03
      have OK3 : Hid (OP w3 w.heap.size 74 ev (edgesS st (ss.take k))) := HOk.out.on b03
      have HB3 : w.heap.size ≤ w3.heap.size := B3.size
      clear b3 b03 hbA
      go_wp2_with (first
        | (at_builtin; refine wpList_append_rows rfl _ _ _ rfl w.heap.size _ 74 i0 (.agg #[.int .i64 0, .int .i64 0]) Try.underlying57 hi hz0 hz1 hz2 rfl ev _ (edgesS st (ss.take k)) (edgesS st [(tAt ss k, tSh ss k)]) rfl OK3.out rfl O3 HL.out HB3 ?_; intro v4 w4 O4 hgrow b4; rw [← HF.out] at O4; have HO4 : Hid (OP w4 w.heap.size 74 v4 (edgesS st (ss.take (k + 1)))) := O4; have B4 := B3.trans b4; clear O4 hgrow b4 O3))
      go_roundw
      case rel => exact ⟨k + 1, _, by omega, by go_num, rfl, HO4.out, B4⟩
      case measure => simp [intOf]; omega
    · obtain rfl : k = ss.length := by omega
      have HQ : Hid (OP wr w.heap.size 74 ev (edgesS st ss)) := by have q := HOk.out; rw [List.take_length] at q; exact q
      go_wp2
      go_ret
      exact ⟨⟨_, rfl, HQ.out⟩, hb⟩
set_option maxRecDepth 100000 in
set_option maxHeartbeats 8000000 in
theorem implFreeYes (a : Option Addr) (cap : Nat) (ss : List (Int × Int)) (x y : Int) (w : World) (h : IsTurns w a ss) (hl : ss.length ≤ 300) (ho : SpOk ss) (hx : tiB x = true) (hy : tiB y = true) (hxy : x ≤ y) :
    Calls Try.prog 16 #[.slice a ss.length cap, .int .i64 x, .int .i64 y] w fun e w' => (∃ v, e = .returned v ∧ OP w' w.heap.size 51 v (freeS ss x y)) ∧ Below w.heap.size w w' := by
  obtain ⟨i0, hi, hz0, hz1, hz2⟩ := info_parts edgeInfo
  have HT : Hid (IsTurns w a ss) := h
  have HO : Hid (SpOk ss) := ho
  have HR : Hid (true = true ↔ SpOk ss) := ⟨fun _ => ho, fun _ => rfl⟩
  have hl2 : ss.length ≤ 2000000 := by omega
  have nxy : ¬ y < x := by omega
  have HL : Hid ((edgesS 1 [(x, y)]).length + (edgesS (-1) ss).length ≤ 4000000) := by unfold Hid; rw [edgesS_len, edgesS_len]; simp; omega
  clear h ho
  go_enter Try.func16, Try.ntmps16
  go_wp2_with (first | (go_at_call 25; with_reducible refine (implSpansOk _ _ _ _ HT.out hl2 true HR.out).mono ?_; rintro e w1 ⟨rfl, b1⟩) | (go_at_call 41; first | (with_reducible refine (implTime x _ true hx).mono ?_; rintro e w' ⟨rfl, rfl⟩) | (with_reducible refine (implTime y _ true hy).mono ?_; rintro e w' ⟨rfl, rfl⟩)) | (go_at_call 43; refine (implEdgesOf _ _ _ _ (by omega)).mono ?_; rintro e w2 ⟨g2, rfl, O2, b2, l2, u2⟩) | (go_at_call 44; fail))
  have B2 := bstep b1 b2
  have s1 := b1.size
  have HO2 : Hid (OP w2 w.heap.size 74 (.slice (some ⟨g2, 0, none⟩) 2 2) (edgesS 1 [(x, y)])) := O2.base s1
  clear O2 b2 b1
  with_reducible refine (implEdgesAll _ _ _ _ _ (HT.out.below (B := 0) B2) hl (by omega)).mono ?_
  rintro e w3 ⟨⟨v3, rfl, O3⟩, b3⟩
  have B3 := bstep B2 b3
  have OK3 : Hid (OP w3 w.heap.size 74 (.slice (some ⟨g2, 0, none⟩) 2 2) (edgesS 1 [(x, y)])) := HO2.out.on b3
  have HB3 : w.heap.size ≤ w3.heap.size := B3.size
  clear b3 B2
  go_wp2_with (first
    | (at_builtin; refine wpList_append_rows rfl _ _ _ rfl w.heap.size _ 74 i0 (.agg #[.int .i64 0, .int .i64 0]) Try.underlying57 hi hz0 hz1 hz2 rfl (.slice (some ⟨g2, 0, none⟩) 2 2) _ (edgesS 1 [(x, y)]) (edgesS (-1) ss) rfl OK3.out rfl O3 HL.out HB3 ?_; intro v4 w4 O4 hgrow b4; have B4 := B3.trans b4; clear hgrow b4 O3)
    | (go_at_call 42; fail))
  have s4 := B4.size
  have IC := implCountedOwn w.heap.size v4 (edgesS 1 [(x, y)] ++ edgesS (-1) ss) w4 O4 s4 (by rw [List.length_append, edgesS_len, edgesS_len]; simp; omega) (by
    intro e he
    rcases List.mem_append.1 he with he | he
    · exact edgesS_st 1 (by omega) _ e he
    · exact edgesS_st (-1) (by omega) _ e he)
  have HF : Hid (runE (edSort (edgesS 1 [(x, y)] ++ edgesS (-1) ss)) = freeS ss x y) := free_same ss _ x y (can_of_ok HO.out) hxy (by have := edSort_perm (edgesS 1 [(x, y)] ++ edgesS (-1) ss); simpa [edgesS] using this) (edSort_sorted _)
  rw [HF.out] at IC
  clear HF O4
  refine IC.mono ?_
  rintro e w5 ⟨⟨v, rfl, O5⟩, b5⟩
  have HO5 : Hid (OP w5 w.heap.size 51 v (freeS ss x y)) := O5.base s4
  have B5 : Below w.heap.size w w5 := B4.trans b5
  clear O5 b5 IC
  go_wp2
  go_ret
  exact ⟨⟨_, rfl, HO5.out⟩, B5⟩
end Go.Proofs.Ytkbgbccehijckaa
