/- FnBusyOrder: the law's own walk. -/
import Derived.Test.YtddjbcggdmeidaaSu
import Derived.Test.YtddjbcggdmeidaaSq
import Derived.Test.YtddjbcggdmeidaaCf
namespace Go.Proofs.Ytddjbcggdmeidaa
open Go.RowKit
set_option linter.unusedVariables false
theorem drop_rev (l : List (Int × Int)) (q : Nat) (h : q < l.length) : (l.drop q).reverse = (l.drop (q + 1)).reverse ++ [(tAt l q, tSh l q)] := by
  rw [List.drop_eq_getElem_cons h, List.reverse_cons, tAt_get l q h]
set_option maxRecDepth 100000 in
set_option maxHeartbeats 8000000 in
theorem lawBusyOrder (a : Option Addr) (len cap : Nat) (w : World) (h : IsCode w a len cap) :
    Calls Try.prog 5 #[.slice a len cap] w fun e w' => e = .returned (.bool true) ∧ Below w.heap.size w w' := by
  obtain ⟨i0, hi, hz0, hz1, hz2⟩ := info_parts spanInfo
  have hlen := h.1
  by_cases hl : (len : Int) > 1048576
  · go_enter Try.func5, Try.ntmps5
    go_wp2
    go_ret
    exact ⟨rfl, Below.refl _ _⟩
  · go_enter Try.func5, Try.ntmps5
    go_wp2_with fail
    refine (drawBusy w a len cap h).mono ?_
    rintro e w1 ⟨v, rfl, ss, D, l15⟩
    obtain ⟨va, vc, rfl⟩ := D.own.shape0
    have HT : Hid (IsTurns w1 va ss) := D.own.isT.1
    have HB1 : Hid (Below w.heap.size w w1) := D.bel
    have l3 : ss.length ≤ 300 := by omega
    have lb : (busyL (onesL ss)).length ≤ 2000000 := by have := busy_bd ss (by omega); omega
    clear D h
    go_wp2_with fail
    with_reducible refine (implBusy _ _ _ _ HT.out l3).mono ?_
    rintro e w2 ⟨⟨u, rfl, O2⟩, b2⟩
    obtain ⟨ua, uc, rfl⟩ := O2.shape0
    have HU : Hid (IsTurns w2 ua (busyL (onesL ss))) := O2.isT.1
    have HT2 : Hid (IsTurns w2 va ss) := HT.out.below (B := 0) b2
    have HB2 : Hid (Below w.heap.size w w2) := bstep HB1.out b2
    have O0 := OP.made w2 28 [] #[] rfl (by simp)
    have HO0 : Hid (OP (w2.alloc (.cells #[] 28)) w2.heap.size 28 (.slice (some ⟨w2.heap.size, 0, none⟩) 0 0) ((ss.drop ss.length).reverse)) := by unfold Hid; simpa using O0
    clear O2 b2 HT HB1 O0
    have g1 := IntWalk.i64_in ((ss.length : Int) - 1) (by omega)
    go_wp2
    go_loopw [5, 6] (fun tv iv wr => ∃ (j n g c : Nat), j ≤ ss.length ∧ iv = .int .i64 ((j : Int) - 1) ∧ tv = .slice (some ⟨g, 0, none⟩) n c ∧ n + j = ss.length ∧ OP wr w2.heap.size 28 (.slice (some ⟨g, 0, none⟩) n c) ((ss.drop j).reverse) ∧ Below w2.heap.size w2 wr) (fun _ iv _ => ((intOf iv) + 1).toNat)
    case atStart => exact ⟨ss.length, 0, w2.heap.size, 0, Nat.le_refl _, rfl, rfl, by omega, HO0.out, (Below.refl _ _).alloc (Nat.le_refl _) _⟩
    case round =>
      obtain ⟨j, n, g, c, hj, rfl, rfl, hnj, hO, hb⟩ := hrel
      have HOX : Hid (OP wr w2.heap.size 28 (.slice (some ⟨g, 0, none⟩) n c) ((ss.drop j).reverse)) := hO
      have HNJ : Hid (n + j = ss.length) := hnj
      have hsz := hb.size
      clear hO hnj
      by_cases hj0 : 0 < j
      · obtain ⟨q, rfl⟩ : ∃ q, j = q + 1 := ⟨j - 1, by omega⟩
        have hq : q < ss.length := by omega
        have T := HT2.out.below (B := 0) hb
        rcases T with T | ⟨b, off, rfl, hbs, hc⟩
        · rw [T] at hq; simp at hq
        obtain ⟨c0, c1⟩ := hc q hq
        have hi0 : (0 : Int) ≤ (q : Int) := by omega
        have hi1 : (q : Int) < (ss.length : Int) := by omega
        have q6 : ((q : Int) + 1) - 1 = (q : Int) := by omega
        have g2 := IntWalk.i64_in ((q : Int) - 1) (by omega)
        have HLN : Hid (n = ((ss.drop (q + 1)).reverse).length) := by unfold Hid; rw [List.length_reverse, List.length_drop]; have := HNJ.out; omega
        have HOY : Hid (wr.ownsRow w2.heap.size 28 2 (.slice (some ⟨g, 0, none⟩) n c) n (pcs ((ss.drop (q + 1)).reverse))) := by have z := HOX.out; unfold OP at z; rw [← HLN.out] at z; exact z
        have HBX : Hid (w2.heap.size ≤ (wr.alloc (.cells #[.int .i64 (tAt ss q), .int .i64 (tSh ss q)] 28)).heap.size) := by unfold Hid; simp; omega
        have HF2 : Hid ((ss.drop q).reverse = (ss.drop (q + 1)).reverse ++ [(tAt ss q, tSh ss q)]) := drop_rev ss q hq
        have n15 : n ≤ 15 := by have := HNJ.out; omega
        clear hc
        go_wp2_with (first | (at_builtin; refine wpList_append_lies _ rfl _ _ _ rfl w2.heap.size 28 i0 (.agg #[.int .i64 0, .int .i64 0]) 2 16 Try.underlying23 hi hz0 hz1 hz2 rfl (by omega) _ n (pcs ((ss.drop (q + 1)).reverse)) rfl (World.ownsRow.alloc HOY.out _) ⟨_, 0, none⟩ 1 1 [.int .i64 _, .int .i64 _] rfl rfl (World.news_of_block (heap_alloc_new wr _)) (by simp [Value.oneCell']) (by omega) (by unfold maxLen; omega) (by omega) HBX.out _ rfl ?_; intro g4 c4 w4 hown hgrow hat hlt4; have HO4 : Hid (OP w4 w2.heap.size 28 (.slice (some ⟨g4, 0, none⟩) (n + 1) c4) ((ss.drop q).reverse)) := (by unfold Hid; rw [HF2.out]; exact OP.snoc hown HLN.out); have B4 : Below w2.heap.size w2 w4 := grown_own HOY.out ⟨hb, hsz⟩ hgrow; clear hown hgrow hat))
        go_roundw
        case rel => exact ⟨q, n + 1, g4, c4, by omega, rfl, rfl, by have := HNJ.out; omega, HO4.out, B4⟩
        case measure => first | (simp [intOf]; done) | (simp [intOf]; omega)
      · obtain rfl : j = 0 := by omega
        have HRV : Hid ((ss.drop 0).reverse = ss.reverse) := by unfold Hid; rw [List.drop_zero]
        have en : n = ss.length := by have := HNJ.out; omega
        subst en
        have HO3 : Hid (OP wr w2.heap.size 28 (.slice (some ⟨g, 0, none⟩) ss.length c) ss.reverse) := by have z := HOX.out; rw [HRV.out] at z; exact z
        have HBR : Hid (busyL (onesL ss.reverse) = busyL (onesL ss)) := busy_rev ss
        have HLR : Hid (ss.reverse.length = ss.length) := List.length_reverse
        clear HOX HNJ HRV
        go_wp2_with fail
        with_reducible refine (specBusy _ _ _ _ (HT2.out.below (B := 0) hb) l3).mono ?_
        rintro e w5 ⟨⟨x, rfl, O5⟩, b5⟩
        obtain ⟨xa, xc, rfl⟩ := O5.shape0
        have b25 := bstep hb b5
        go_wp2_with fail
        with_reducible refine (lawEpSpans _ _ _ _ _ _ _ (HU.out.below (B := 0) b25) O5.isT.1 lb lb true (decide_eq_true rfl)).mono ?_
        rintro e w6 ⟨rfl, b6⟩
        have b56 := bstep b5 b6
        have b26 := bstep hb b56
        have IB := implBusy (some ⟨g, 0, none⟩) c ss.reverse w6 (HO3.out.isT.1.below (B := 0) b56) (by rw [HLR.out]; exact l3)
        rw [HLR.out, HBR.out] at IB
        clear O5 b5 b6 b25 b56
        go_wp2_with fail
        refine IB.mono ?_
        rintro e w7 ⟨⟨y, rfl, O7⟩, b7⟩
        obtain ⟨ya, yc, rfl⟩ := O7.shape0
        have b27 := bstep b26 b7
        go_wp2_with fail
        with_reducible refine (lawEpSpans _ _ _ _ _ _ _ O7.isT.1 (HU.out.below (B := 0) b27) lb lb true (decide_eq_true rfl)).mono ?_
        rintro e w8 ⟨rfl, b8⟩
        have B8 := bstep HB2.out (bstep b27 b8)
        clear O7 b7 b27 b8 b26 IB
        go_wp2
        go_ret
        exact ⟨rfl, B8⟩
end Go.Proofs.Ytddjbcggdmeidaa
