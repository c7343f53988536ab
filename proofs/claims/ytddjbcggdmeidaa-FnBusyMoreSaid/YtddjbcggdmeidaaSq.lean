/- Who is busy: the program's. -/
import Derived.Test.YtddjbcggdmeidaaSl
import Derived.Test.YtddjbcggdmeidaaCd
namespace Go.Proofs.Ytddjbcggdmeidaa
open Go.RowKit
set_option linter.unusedVariables false
theorem implSortNone (cap : Nat) (w : World) : Calls Try.prog 23 #[.slice none 0 cap, .func (.func 24) #[] #[]] w fun e w' => e = .returned (.tuple #[]) ∧ w' = w := by
  have hcon := AnyF.slices_SortFunc_none srt none cap (.func (.func 24) #[] #[]) w
  change Calls Try.prog 23 _ _ _ at hcon
  exact hcon
set_option maxRecDepth 100000 in
set_option maxHeartbeats 8000000 in
theorem implCountedNone (w : World) :
    Calls Try.prog 18 #[.slice none 0 0] w fun e w' => (∃ v, e = .returned v ∧ OP w' w.heap.size 28 v []) ∧ Below w.heap.size w w' := by
  go_enter Try.func18, Try.ntmps18
  go_wp2_with fail
  with_reducible refine (implSortNone 0 w).mono ?_
  rintro e w1 ⟨rfl, rfl⟩
  have K : TL w1 w1.heap.size 0 0 (.slice none 0 0) [] (w1.alloc (.cells #[.int .i64 0, .int .i64 0, .slice none 0 0] 50)) :=
    ⟨by simp, by simp, by simp, fun i => by simp, OP.nil _ _ _, (Below.refl _ _).alloc (Nat.le_refl _) _⟩
  have IO := implInOrder w1 _ w1.heap.size none 0 [] _ K (.inl rfl) rfl (by simp) (fun i hi => by simp at hi)
  clear K
  go_wp2_with fail
  refine IO.mono ?_
  rintro e w2 ⟨rfl, c, b, v, K2⟩
  have k2 := K2.c2
  have HO2 : Hid (OP w2 w1.heap.size 28 v []) := K2.own.base (by omega)
  have HB2 : Hid (Below w1.heap.size w1 w2) := K2.bel
  clear K2 IO
  go_wp2
  go_ret
  exact ⟨⟨_, rfl, HO2.out⟩, HB2.out⟩
/-- Edges that are owned, counted. -/
theorem implCountedOwn (B : Nat) (v : Value) (es : List (Int × Int)) (w : World) (h : OP w B 46 v es) (hB : B ≤ w.heap.size) (hl : es.length ≤ 1000000) (hs : ∀ e ∈ es, -1 ≤ e.2 ∧ e.2 ≤ 1) :
    Calls Try.prog 18 #[v] w fun e w' => (∃ u, e = .returned u ∧ OP w' w.heap.size 28 u (runE (edSort es))) ∧ Below B w w' := by
  rcases h.2 with ⟨rfl, h0⟩ | ⟨g, cap, cur, rfl, hg, hh, _⟩
  · obtain rfl : es = [] := List.length_eq_zero_iff.1 h0
    have e0 : runE (edSort []) = [] := by simp [edSort, runE]
    rw [e0]
    exact (implCountedNone w).mono fun e w' ⟨⟨u, he, o⟩, b⟩ => ⟨⟨u, he, o⟩, b.mono hB⟩
  · exact implCounted B g cap es w h hg (Array.getElem?_eq_some_iff.1 hh).1 hl hs
set_option maxRecDepth 100000 in
set_option maxHeartbeats 8000000 in
theorem implBusy (a : Option Addr) (cap : Nat) (ss : List (Int × Int)) (w : World) (h : IsTurns w a ss) (hl : ss.length ≤ 300) :
    Calls Try.prog 7 #[.slice a ss.length cap] w fun e w' => (∃ v, e = .returned v ∧ OP w' w.heap.size 28 v (busyL (onesL ss))) ∧ Below w.heap.size w w' := by
  obtain ⟨i0, hi, hz0, hz1, hz2⟩ := info_parts edgeInfo
  have HT : Hid (IsTurns w a ss) := h
  have HO0 : Hid (OP w w.heap.size 46 (.slice none 0 0) (edgesS 1 (onesL (ss.take 0)))) := OP.nil _ _ _
  clear h
  go_enter Try.func7, Try.ntmps7
  go_wp2
  go_loopw [3, 4, 6, 9] (fun ev cv _ i wr => ∃ (k n : Nat) (ea : Option Addr) (ec : Nat), k ≤ ss.length ∧ i = .int .i64 k ∧ n = (onesL (ss.take k)).length ∧ cv = .int .i64 n ∧ ev = .slice ea (2 * n) ec ∧ OP wr w.heap.size 46 (.slice ea (2 * n) ec) (edgesS 1 (onesL (ss.take k))) ∧ Below w.heap.size w wr) (fun _ _ _ i _ => ss.length - (intOf i).toNat)
  case atStart => exact ⟨0, 0, none, 0, by omega, rfl, rfl, rfl, rfl, HO0.out, Below.refl _ _⟩
  case round =>
    obtain ⟨k, n, ea, ec, hk, rfl, hn, rfl, rfl, hO, hb⟩ := hrel
    have HOk : Hid (OP wr w.heap.size 46 (.slice ea (2 * n) ec) (edgesS 1 (onesL (ss.take k)))) := hO
    have HN : Hid (n = (onesL (ss.take k)).length) := hn
    have hnk : n ≤ k := by have := onesL_len ss k; omega
    have hsz := hb.size
    clear hO hn
    by_cases hlt : k < ss.length
    · have T := HT.out.below (B := 0) hb
      rcases T with T | ⟨b, off, rfl, hbs, hc⟩
      · rw [T] at hlt; simp at hlt
      obtain ⟨c0, c1⟩ := hc k hlt
      have hi0 : (0 : Int) ≤ (k : Int) := by omega
      have hi1 : (k : Int) < (ss.length : Int) := by omega
      have hn300 : (n : Int) < 300 := by omega
      have hbA : Below wr.heap.size wr (wr.alloc (.cells #[.int .i64 (tAt ss k), .int .i64 (tSh ss k)] 28)) := (Below.refl _ _).alloc (Nat.le_refl _) _
      have HF : Hid (onesL (ss.take (k + 1)) = onesL (ss.take k) ++ (if spB (tAt ss k) (tSh ss k) = true then [(tAt ss k, tSh ss k)] else [])) := onesL_take ss k hlt
      clear hc
      cases ht : spB (tAt ss k) (tSh ss k) with
      | false =>
        have HF2 : Hid (onesL (ss.take (k + 1)) = onesL (ss.take k)) := by unfold Hid; rw [HF.out, ht]; simp
        clear HF
        go_wp2_with fail
        with_reducible refine (implSpan _ _ _ false ht).mono ?_
        rintro e w3 ⟨rfl, b3⟩
        have b03 := bstep hbA b3
        have B3 := bstep hb b03
        have HO3 : Hid (OP w3 w.heap.size 46 (.slice ea (2 * n) ec) (edgesS 1 (onesL (ss.take (k + 1))))) := by unfold Hid; rw [HF2.out]; exact HOk.out.on b03
        clear b3 b03 hbA ht
        go_wp2
        go_roundw
        case rel => exact ⟨k + 1, n, ea, ec, by omega, by go_num, by rw [HF2.out]; exact HN.out, rfl, rfl, HO3.out, B3⟩
        case measure => simp [intOf]; omega
      | true =>
        have HF2 : Hid (onesL (ss.take (k + 1)) = onesL (ss.take k) ++ [(tAt ss k, tSh ss k)]) := by unfold Hid; rw [HF.out, ht]; simp
        have HL : Hid ((edgesS 1 (onesL (ss.take k))).length = 2 * n) := by unfold Hid; rw [edgesS_len, ← HN.out]
        have D0 : (wr.alloc (.cells #[.int .i64 (tAt ss k), .int .i64 (tSh ss k)] 28)).cell? ⟨wr.heap.size, 0, none⟩ = some (.int .i64 (tAt ss k)) := by simp
        have D1 : (wr.alloc (.cells #[.int .i64 (tAt ss k), .int .i64 (tSh ss k)] 28)).cell? ⟨wr.heap.size, 1, none⟩ = some (.int .i64 (tSh ss k)) := by simp
        have HD0 : Hid ((wr.alloc (.cells #[.int .i64 (tAt ss k), .int .i64 (tSh ss k)] 28)).cell? ⟨wr.heap.size, 0, none⟩ = some (.int .i64 (tAt ss k))) := D0
        have HD1 : Hid ((wr.alloc (.cells #[.int .i64 (tAt ss k), .int .i64 (tSh ss k)] 28)).cell? ⟨wr.heap.size, 1, none⟩ = some (.int .i64 (tSh ss k))) := D1
        clear HF D0 D1
        go_wp2_with fail
        with_reducible refine (implSpan _ _ _ true ht).mono ?_
        rintro e w3 ⟨rfl, b3⟩
        have b03 := bstep hbA b3
        have d0 : w3.cell? ⟨wr.heap.size, 0, none⟩ = some (.int .i64 (tAt ss k)) := by rw [b3.cell (p := ⟨wr.heap.size, 0, none⟩) (by simp)]; exact HD0.out
        have d1 : w3.cell? ⟨wr.heap.size, 1, none⟩ = some (.int .i64 (tSh ss k)) := by rw [b3.cell (p := ⟨wr.heap.size, 1, none⟩) (by simp)]; exact HD1.out
        clear HD0 HD1 b3 hbA ht
        go_wp2_with fail
        with_reducible refine (implEdgesOf _ _ _ _ (by omega)).mono ?_
        rintro e w4 ⟨g4, rfl, O4, b4, l4, u4⟩
        have b04 := bstep b03 b4
        have B4 := bstep hb b04
        have HB4 : w.heap.size ≤ w4.heap.size := B4.size
        have OX4 : w4.ownsRow w.heap.size 46 2 (.slice ea (2 * n) ec) (2 * n) (pcs (edgesS 1 (onesL (ss.take k)))) := by have q := HOk.out.on b04; unfold OP at q; rw [HL.out] at q; exact q
        have OWN : ∀ j, (Value.slice ea (2 * n) ec).ownBlock = some j → w.heap.size ≤ j := fun j hj => (World.ownsRow.lt OX4 j hj).1
        clear d0 d1 b03 b4 b04
        go_wp2_with (first
          | (at_builtin; refine wpList_append_lies _ rfl _ _ _ rfl w.heap.size 46 i0 (.agg #[.int .i64 0, .int .i64 0]) 2 16 Try.underlying38 hi hz0 hz1 hz2 rfl (by omega) _ (2 * n) (pcs (edgesS 1 (onesL (ss.take k)))) rfl OX4 ⟨g4, 0, none⟩ 2 2 (pcs (edgesS 1 [(tAt ss k, tSh ss k)])) rfl rfl (OP.news O4 rfl) (pcs_one _) (by omega) (by unfold maxLen; omega) (by omega) HB4 _ rfl ?_; intro g5 c5 w5 hown hgrow hat hlt5; have HO5 : Hid (OP w5 w.heap.size 46 (.slice (some ⟨g5, 0, none⟩) (2 * n + 2) c5) (edgesS 1 (onesL (ss.take (k + 1))))) := (by unfold Hid; rw [HF2.out, edgesS_append]; exact OP.app hown HL.out.symm rfl); have B5 : Below w.heap.size w w5 := B4.grown hgrow HB4 OWN; clear hown hgrow hat OX4 O4))
        have HN1 : Hid (n + 1 = (onesL (ss.take (k + 1))).length) := by unfold Hid; rw [HF2.out, List.length_append, ← HN.out]; rfl
        go_roundw
        case rel => exact ⟨k + 1, n + 1, some ⟨g5, 0, none⟩, c5, by omega, by go_num, HN1.out, by go_num, by rw [show 2 * (n + 1) = 2 * n + 2 by omega], by rw [show 2 * (n + 1) = 2 * n + 2 by omega]; exact HO5.out, B5⟩
        case measure => simp [intOf]; omega
    · obtain rfl : k = ss.length := by omega
      have HQ : Hid (onesL (ss.take ss.length) = onesL ss) := by unfold Hid; rw [List.take_length]
      have IC := implCountedOwn w.heap.size (.slice ea (2 * n) ec) (edgesS 1 (onesL ss)) wr (by rw [← HQ.out]; exact HOk.out) hsz (by rw [← HQ.out, edgesS_len, ← HN.out]; omega) (edgesS_st 1 (by omega) _)
      go_wp2_with fail
      refine IC.mono ?_
      rintro e w3 ⟨⟨v, rfl, O3⟩, b3⟩
      have HO3 : Hid (OP w3 w.heap.size 28 v (busyL (onesL ss))) := O3.base hsz
      have B3 : Below w.heap.size w w3 := hb.trans b3
      clear O3 b3 IC
      go_wp2
      go_ret
      exact ⟨⟨_, rfl, HO3.out⟩, B3⟩
end Go.Proofs.Ytddjbcggdmeidaa
