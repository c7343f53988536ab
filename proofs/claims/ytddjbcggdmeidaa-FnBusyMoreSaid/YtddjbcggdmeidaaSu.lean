/- Who is busy: the specification's; and spans drawn in any order. -/
import Derived.Test.YtddjbcggdmeidaaSt
import Derived.Test.YtddjbcggdmeidaaDs
import Derived.Laws.AppendOwnNone
namespace Go.Proofs.Ytddjbcggdmeidaa
open Go.RowKit
set_option linter.unusedVariables false
set_option maxRecDepth 100000 in
set_option maxHeartbeats 8000000 in
theorem specBusy (a : Option Addr) (cap : Nat) (ss : List (Int × Int)) (w : World) (h : IsTurns w a ss) (hl : ss.length ≤ 300) :
    Calls Try.prog 9 #[.slice a ss.length cap] w fun e w' => (∃ v, e = .returned v ∧ OP w' w.heap.size 28 v (busyL (onesL ss))) ∧ Below w.heap.size w w' := by
  obtain ⟨i0, hi, hz0, hz1, hz2⟩ := info_parts spanInfo
  have HT : Hid (IsTurns w a ss) := h
  have O0 := OP.made w 28 [] #[] rfl (by simp)
  have HO0 : Hid (OP (w.alloc (.cells #[] 28)) w.heap.size 28 (.slice (some ⟨w.heap.size, 0, none⟩) 0 0) (onesL (ss.take 0))) := by unfold Hid; simpa [onesL] using O0
  clear h O0
  go_enter Try.func9, Try.ntmps9
  go_wp2
  go_loopw [3, 4] (fun ov iv wr => ∃ (k n g c : Nat), k ≤ ss.length ∧ iv = .int .i64 k ∧ ov = .slice (some ⟨g, 0, none⟩) n c ∧ n = (onesL (ss.take k)).length ∧ OP wr w.heap.size 28 (.slice (some ⟨g, 0, none⟩) n c) (onesL (ss.take k)) ∧ Below w.heap.size w wr) (fun _ iv _ => ss.length - (intOf iv).toNat)
  case atStart => exact ⟨0, 0, w.heap.size, 0, by omega, rfl, rfl, rfl, HO0.out, (Below.refl _ _).alloc (Nat.le_refl _) _⟩
  case round =>
    obtain ⟨k, n, g, c, hk, rfl, rfl, hn, hO, hb⟩ := hrel
    have HN : Hid (n = (onesL (ss.take k)).length) := hn
    have hnk : n ≤ k := by have := onesL_len ss k; omega
    have hsz := hb.size
    have HOX : Hid (OP wr w.heap.size 28 (.slice (some ⟨g, 0, none⟩) n c) (onesL (ss.take k))) := hO
    clear hO hn
    by_cases hlt : k < ss.length
    · have T := HT.out.below (B := 0) hb
      rcases T with T | ⟨b, off, rfl, hbs, hc⟩
      · rw [T] at hlt; simp at hlt
      obtain ⟨c0, c1⟩ := hc k hlt
      have hi0 : (0 : Int) ≤ (k : Int) := by omega
      have hi1 : (k : Int) < (ss.length : Int) := by omega
      have hk300 : (k : Int) < 300 := by omega
      have HF : Hid (onesL (ss.take (k + 1)) = onesL (ss.take k) ++ (if spB (tAt ss k) (tSh ss k) = true then [(tAt ss k, tSh ss k)] else [])) := onesL_take ss k hlt
      clear hc
      cases ht : spB (tAt ss k) (tSh ss k) with
      | false =>
        have HF2 : Hid (onesL (ss.take (k + 1)) = onesL (ss.take k)) := by unfold Hid; rw [HF.out, ht]; simp
        go_wp2_with fail
        with_reducible refine (specSpan _ _ _ false ht).mono ?_
        rintro e w3 ⟨rfl, b3⟩
        have B3 := bstep hb b3
        have HO3 : Hid (OP w3 w.heap.size 28 (.slice (some ⟨g, 0, none⟩) n c) (onesL (ss.take (k + 1)))) := by unfold Hid; rw [HF2.out]; exact HOX.out.on b3
        clear b3 ht HF
        go_wp2
        go_roundw
        case rel => exact ⟨k + 1, n, g, c, by omega, by go_num, rfl, by rw [HF2.out]; exact HN.out, HO3.out, B3⟩
        case measure => simp [intOf]; omega
      | true =>
        have HF2 : Hid (onesL (ss.take (k + 1)) = onesL (ss.take k) ++ [(tAt ss k, tSh ss k)]) := by unfold Hid; rw [HF.out, ht]; simp
        go_wp2_with fail
        with_reducible refine (specSpan _ _ _ true ht).mono ?_
        rintro e w3 ⟨rfl, b3⟩
        have B3 := bstep hb b3
        have d0 : w3.cell? ⟨b, off + k * 2, none⟩ = some (.int .i64 (tAt ss k)) := by rw [b3.cell (p := ⟨b, off + k * 2, none⟩) hbs]; exact c0
        have d1 : w3.cell? ⟨b, off + k * 2 + 1, none⟩ = some (.int .i64 (tSh ss k)) := by rw [b3.cell (p := ⟨b, off + k * 2 + 1, none⟩) hbs]; exact c1
        have HOY : Hid (w3.ownsRow w.heap.size 28 2 (.slice (some ⟨g, 0, none⟩) n c) n (pcs (onesL (ss.take k)))) := by have q := HOX.out.on b3; unfold OP at q; rw [← HN.out] at q; exact q
        have HBX : Hid (w.heap.size ≤ (w3.alloc (.cells #[.int .i64 (tAt ss k), .int .i64 (tSh ss k)] 28)).heap.size) := by unfold Hid; simp; have := B3.size; omega
        clear c0 c1 b3 ht HF
        go_wp2_with (first | (at_builtin; refine wpList_append_lies _ rfl _ _ _ rfl w.heap.size 28 i0 (.agg #[.int .i64 0, .int .i64 0]) 2 16 Try.underlying23 hi hz0 hz1 hz2 rfl (by omega) _ n (pcs (onesL (ss.take k))) rfl (World.ownsRow.alloc HOY.out _) ⟨_, 0, none⟩ 1 1 [.int .i64 _, .int .i64 _] rfl rfl (World.news_of_block (heap_alloc_new w3 _)) (by simp [Value.oneCell']) (by omega) (by unfold maxLen; omega) (by omega) HBX.out _ rfl ?_; intro g4 c4 w4 hown hgrow hat hlt4; have HO4 : Hid (OP w4 w.heap.size 28 (.slice (some ⟨g4, 0, none⟩) (n + 1) c4) (onesL (ss.take (k + 1)))) := (by unfold Hid; rw [HF2.out]; exact OP.snoc hown HN.out); have B4 : Below w.heap.size w w4 := grown_own HOY.out ⟨B3, B3.size⟩ hgrow; clear hown hgrow hat))
        have HL4 : Hid (n + 1 = (onesL (ss.take (k + 1))).length) := by unfold Hid; rw [HF2.out, List.length_append, ← HN.out]; rfl
        go_roundw
        case rel => exact ⟨k + 1, n + 1, g4, c4, by omega, by go_num, rfl, HL4.out, HO4.out, B4⟩
        case measure => simp [intOf]; omega
    · obtain rfl : k = ss.length := by omega
      have HQ : Hid (onesL (ss.take ss.length) = onesL ss) := by unfold Hid; rw [List.take_length]
      have HO3 : Hid (OP wr w.heap.size 28 (.slice (some ⟨g, 0, none⟩) n c) (onesL ss)) := by have q := HOX.out; rw [HQ.out] at q; exact q
      have HL : Hid (n = (onesL ss).length) := by have q := HN.out; rw [HQ.out] at q; exact q
      have IC := specL5Busy (some ⟨g, 0, none⟩) c (onesL ss) wr HO3.out.isT.1 (by rw [← HL.out]; omega) (fun s hs => by have := (sp_iff _ _).1 (onesL_le ss s hs).1; omega)
      rw [← HL.out] at IC
      go_wp2_with fail
      refine IC.mono ?_
      rintro e w3 ⟨⟨v, rfl, O3⟩, b3⟩
      have HOF : Hid (OP w3 w.heap.size 28 v (busyL (onesL ss))) := O3.base hsz
      have B3 := bstep hb b3
      clear O3 b3 IC
      go_wp2
      go_ret
      exact ⟨⟨_, rfl, HOF.out⟩, B3⟩
theorem own_weak {w : World} {B B' n : Nat} {T : TypeId} {v : Value} {xs : List Value} (h : w.ownsRow B T 2 v n xs) (hB : B' ≤ B) : w.ownsRow B' T 2 v n xs := by
  obtain ⟨h1, h2⟩ := h
  refine ⟨h1, ?_⟩
  rcases h2 with h2 | ⟨g, cap, cur, hv, hg, r⟩
  · exact .inl h2
  · exact .inr ⟨g, cap, cur, hv, by omega, r⟩
/-- Spans that were drawn behind a world. -/
structure SDb (w : World) (v : Value) (ss : List (Int × Int)) (W : World) : Prop where
  own : OP W w.heap.size 28 v ss
  bel : Below w.heap.size w W
  sm : SmS ss
theorem SmS.append {l m : List (Int × Int)} (h : SmS l) (k : SmS m) : SmS (l ++ m) := fun s hs => by
  rcases List.mem_append.1 hs with e | e
  · exact h s e
  · exact k s e
set_option maxRecDepth 100000 in
set_option maxHeartbeats 8000000 in
theorem drawBusy (w0 : World) (a : Option Addr) (len cap : Nat) (h : IsCode w0 a len cap) :
    Calls Try.prog 6 #[.slice a len cap] w0 fun e w' => ∃ v, e = .returned v ∧ ∃ ss, SDb w0 v ss w' ∧ List.length ss ≤ 15 := by
  obtain ⟨i0, hi, hz0, hz1, hz2⟩ := info_parts spanInfo
  go_enter Try.func6, Try.ntmps6
  go_wp2_with fail
  refine (open_any w0 a len cap h).mono ?_
  rintro e w ⟨rfl, r1, b01⟩
  have hrb := r1.size
  have H01 : Hid (Below w0.heap.size w0 w) := b01
  have hsz := b01.size
  have D0 : DS w w0.heap.size 0 (.slice (some ⟨w.heap.size, 0, none⟩) 0 0) [] (w.alloc (.cells #[] 28)) :=
    ⟨by have := OP.made w 28 [] #[] rfl (by simp); simpa using this, r1.below ((Below.refl _ _).alloc (Nat.le_refl _) _), But.of_below ((Below.refl _ _).alloc (Nat.le_refl _) _), SmS.nil⟩
  have HD0 : Hid (DS w w0.heap.size 0 (.slice (some ⟨w.heap.size, 0, none⟩) 0 0) [] (w.alloc (.cells #[] 28))) := D0
  clear D0 r1 h b01
  go_wp2_with fail
  refine (pick_pos _ _ w0.heap.size 0 HD0.out.rd (by omega) (by omega)).mono ?_
  rintro e w2 ⟨⟨m, rfl, m0, m1⟩, r2, b2⟩
  have HD2 : Hid (DS w w0.heap.size 1 (.slice (some ⟨w.heap.size, 0, none⟩) 0 0) [] w2) := HD0.out.picked hrb r2 b2
  clear r2 b2 HD0
  go_wp2
  go_loopw [4, 5, 6] (fun ov nv _ wr => ∃ (ss : List (Int × Int)) (g c : Nat) (N : Int), ov = .slice (some ⟨g, 0, none⟩) ss.length c ∧ nv = .int .i64 N ∧ 0 ≤ N ∧ N + ss.length = m ∧ DS w w0.heap.size (1 + 2 * ss.length) (.slice (some ⟨g, 0, none⟩) ss.length c) ss wr) (fun _ nv _ _ => (intOf nv).toNat)
  case atStart => exact ⟨[], w.heap.size, 0, m, rfl, rfl, m0, by simp, HD2.out⟩
  case round =>
    obtain ⟨ss, g, c, N, rfl, rfl, hN0, hNm, hD⟩ := hrel
    have HD : Hid (DS w w0.heap.size (1 + 2 * ss.length) (.slice (some ⟨g, 0, none⟩) ss.length c) ss wr) := hD
    have HNM : Hid (N + ss.length = m) := hNm
    have l8 : ss.length ≤ 8 := by omega
    have n9 : N ≤ 9 := by omega
    clear hD hNm
    by_cases hlt : 0 < N
    · go_wp2_with fail
      refine (pick_pos _ _ w0.heap.size _ HD.out.rd (by omega) (by omega)).mono ?_
      rintro e w3 ⟨⟨p, rfl, p0, p1⟩, r3, b3⟩
      have HD3 : Hid (DS w w0.heap.size (1 + 2 * ss.length + 1) (.slice (some ⟨g, 0, none⟩) ss.length c) ss w3) := HD.out.picked hrb r3 b3
      clear r3 b3 HD
      go_wp2_with fail
      refine (pick_pos _ _ w0.heap.size _ HD3.out.rd (by omega) (by omega)).mono ?_
      rintro e WA ⟨⟨q, rfl, q0, q1⟩, RA, b4⟩
      have DA := HD3.out.picked hrb RA b4
      have OA : Hid (OP WA w.heap.size 28 (.slice (some ⟨g, 0, none⟩) ss.length c) ss) := DA.own
      have BA := DA.but
      have SM : Hid (SmS ss) := DA.sm
      have g2 := IntWalk.i64_in (p + q) (by omega)
      have g5 := IntWalk.i64_in (N - 1) (by omega)
      clear DA b4 HD3
      go_wp2_with (first | (at_builtin; refine wpList_append_lies _ rfl _ _ _ rfl w.heap.size 28 i0 (.agg #[.int .i64 0, .int .i64 0]) 2 16 Try.underlying23 hi hz0 hz1 hz2 rfl (by omega) _ ss.length (pcs ss) rfl (World.ownsRow.alloc OA.out _) ⟨_, 0, none⟩ 1 1 [.int .i64 _, .int .i64 _] rfl rfl (World.news_of_block (heap_alloc_new WA _)) (by simp [Value.oneCell']) (by omega) (by unfold maxLen; omega) (by omega) (by simp; have := BA.size; omega) _ rfl ?_; intro g4 c4 w4 hown hgrow hat hlt4; have HO4 : Hid (OP w4 w.heap.size 28 (.slice (some ⟨g4, 0, none⟩) (ss.length + 1) c4) (ss ++ [(p, p + q)])) := OP.snoc hown rfl; have LB4 : Below w.heap.size WA w4 := grown_own OA.out ⟨Below.refl _ _, BA.size⟩ hgrow; have B4 : But w0.heap.size w.heap.size w w4 := BA.trans (But.of_below LB4); have R4 := RA.under (LB4.mono (by omega)); clear hown hgrow hat LB4))
      have HLN : Hid ((ss ++ [(p, p + q)]).length = ss.length + 1) := by unfold Hid; simp
      have HF : Hid (DS w w0.heap.size (1 + 2 * (ss.length + 1)) (.slice (some ⟨g4, 0, none⟩) (ss.length + 1) c4) (ss ++ [(p, p + q)]) w4) := ⟨HO4.out, R4.mono (by omega), B4, SM.out.snoc (by omega) (by omega)⟩
      clear R4 B4 HO4 OA BA RA SM
      go_roundw
      case rel => exact ⟨ss ++ [(p, p + q)], g4, c4, N - 1, by rw [HLN.out], rfl, by omega, by have := HNM.out; rw [HLN.out]; omega, by rw [HLN.out]; exact HF.out⟩
      case measure => simp [intOf]; omega
    · go_wp2_with fail
      refine (anyspans_any wr w0.heap.size _ HD.out.rd (by omega)).mono ?_
      rintro e w5 ⟨u, rfl, us, U, l7⟩
      have hwr := HD.out.but.size
      have O5 : OP w5 w.heap.size 28 (.slice (some ⟨g, 0, none⟩) ss.length c) ss := HD.out.own.but hrb U.but
      have B5 : But w0.heap.size w.heap.size w w5 := HD.out.but.trans (U.but.mono hwr)
      have SMa : Hid (SmS (ss ++ us)) := HD.out.sm.append U.sm
      have HO5 : Hid (OP w5 w.heap.size 28 (.slice (some ⟨g, 0, none⟩) ss.length c) ss) := O5
      have HB5 : Hid (Below w0.heap.size w0 w5) := H01.out.trans ((B5.mono hsz).below (Nat.le_refl _))
      have h5 := B5.size
      rcases U.own.2 with ⟨eu, hu0⟩ | ⟨gu, cu, cur, eu, _, _, _⟩
      · subst eu
        have eus : us = [] := List.length_eq_zero_iff.1 hu0
        subst eus
        have HF : Hid (SDb w0 (.slice (some ⟨g, 0, none⟩) ss.length c) ss w5) := ⟨HO5.out.base hsz, HB5.out, by have q := SMa.out; rw [List.append_nil] at q; exact q⟩
        clear U O5 B5 SMa
        go_wp2_with (first | (at_builtin; refine wpList_append_own_none rfl _ _ _ rfl w.heap.size 28 i0 2 Try.underlying23 hi _ ss.length (pcs ss) rfl HO5.out rfl ?_))
        go_ret
        exact ⟨_, rfl, ss, HF.out, by omega⟩
      · subst eu
        have HU : Hid (OP w5 wr.heap.size 28 (.slice (some ⟨gu, 0, none⟩) us.length cu) us) := U.own
        clear U O5 B5
        go_wp2_with (first | (at_builtin; refine wpList_append_own _ rfl _ _ _ rfl w.heap.size 28 i0 (.agg #[.int .i64 0, .int .i64 0]) 2 16 Try.underlying23 hi hz0 hz1 hz2 rfl (by omega) _ ss.length (pcs ss) rfl HO5.out ⟨gu, 0, none⟩ us.length cu (pcs us) rfl (pcs_len us) (OP.news HU.out rfl) (pcs_one _) (by unfold maxLen; omega) (by omega) h5 ?_; intro v6 w6 hown hgrow _; have HF : Hid (SDb w0 v6 (ss ++ us) w6) := ⟨(by unfold OP; rw [pcs_append, List.length_append]; exact own_weak hown hsz), HB5.out.grown hgrow HB5.out.size (fun k hk => Nat.le_trans hsz (World.ownsRow.lt HO5.out k hk).1), SMa.out⟩; clear hown hgrow))
        go_ret
        exact ⟨_, rfl, ss ++ us, HF.out, by rw [List.length_append]; omega⟩
end Go.Proofs.Ytddjbcggdmeidaa
