/- FnBusyMore: the law's own walk. -/
import Derived.Test.YtddjbcggdmeidaaSu
import Derived.Test.YtddjbcggdmeidaaSq
import Derived.Test.YtddjbcggdmeidaaCf
namespace Go.Proofs.Ytddjbcggdmeidaa
open Go.RowKit
set_option linter.unusedVariables false
/-- One more span: in plain numbers. -/
theorem more_law (ss : List (Int × Int)) (h : SmS ss) (l15 : ss.length ≤ 15) (f : Int) (f0 : 0 ≤ f) (f1 : f < 300) :
    (∀ t, inL (busyL (onesL (ss ++ [(f, f + 20)]))) t = (inL (busyL (onesL ss)) t || (decide (f ≤ t) && decide (t < f + 20)))) ∧ sumL (busyL (onesL ss)) ≤ sumL (busyL (onesL (ss ++ [(f, f + 20)]))) := by
  have e : onesL (ss ++ [(f, f + 20)]) = onesL ss ++ [(f, f + 20)] := by
    unfold onesL
    rw [List.filter_append]
    congr 1
    have : spB f (f + 20) = true := (sp_iff _ _).2 ⟨by omega, by omega, by omega⟩
    simp [this]
  have hx := busyL_holds (onesL ss) fun s hs => (onesL_le ss s hs).2
  have hy := busyL_holds (onesL (ss ++ [(f, f + 20)])) fun s hs => (onesL_le _ s hs).2
  have hin : ∀ t, In (busyL (onesL (ss ++ [(f, f + 20)]))) t ↔ In (busyL (onesL ss)) t ∨ (f ≤ t ∧ t < f + 20) := fun t => by
    rw [hy.2, hx.2, e, in_append, in_one]
  have sm : SmS (ss ++ [(f, f + 20)]) := h.snoc (by omega) (by omega)
  have bd : ∀ (l : List (Int × Int)), SmS l → ∀ u ∈ busyL (onesL l), (0 : Int) ≤ u.1 ∧ u.2 ≤ 0 + (1000 : Nat) := fun l hl u hu => by
    obtain ⟨⟨s, hs, e1⟩, t, ht, e2⟩ := busyL_ends _ u hu
    have q1 := (sp_iff _ _).1 (onesL_le l s hs).1
    have q2 := hl t (List.mem_filter.1 ht).1
    omega
  refine ⟨fun t => ?_, sum_mono hx.1 hy.1 (fun t ht => (hin t).2 (.inl ht)) 0 1000 (bd ss h) (bd _ sm)⟩
  rw [Bool.eq_iff_iff, inL_iff, hin, Bool.or_eq_true, inL_iff, Bool.and_eq_true, decide_eq_true_iff, decide_eq_true_iff]
set_option maxRecDepth 100000 in
set_option maxHeartbeats 16000000 in
theorem lawBusyMore (a : Option Addr) (len cap : Nat) (a' : Option Addr) (len' cap' : Nat) (w : World) (h : IsCode w a len cap) (h' : IsCode w a' len' cap') :
    Calls Try.prog 4 #[.slice a len cap, .slice a' len' cap'] w fun e w' => e = .returned (.bool true) ∧ Below w.heap.size w w' := by
  obtain ⟨i0, hi, hz0, hz1, hz2⟩ := info_parts spanInfo
  have hlen := h.1
  have hlen' := h'.1
  clear h'
  by_cases hl : (len : Int) > 1048576
  · go_enter Try.func4, Try.ntmps4
    go_wp2
    go_ret
    exact ⟨rfl, Below.refl _ _⟩
  · by_cases hl' : (len' : Int) > 1048576
    · go_enter Try.func4, Try.ntmps4
      go_wp2
      go_ret
      exact ⟨rfl, Below.refl _ _⟩
    · go_enter Try.func4, Try.ntmps4
      go_wp2_with fail
      refine (drawBusy w a len cap h).mono ?_
      rintro e w1 ⟨v, rfl, ss, D, l15⟩
      have HV : Hid (OP w1 w.heap.size 28 v ss) := D.own
      have HB1 : Hid (Below w.heap.size w w1) := D.bel
      have HSM : Hid (SmS ss) := D.sm
      obtain ⟨va, vc, rfl⟩ := D.own.shape0
      have HT : Hid (IsTurns w1 va ss) := D.own.isT.1
      have l3 : ss.length ≤ 300 := by omega
      have lb3 : (busyL (onesL ss)).length ≤ 300 := by have := busy_bd ss (by omega); omega
      have lb : (busyL (onesL ss)).length ≤ 2000000 := by omega
      clear D h
      go_wp2_with fail
      with_reducible refine (implBusy _ _ _ _ HT.out l3).mono ?_
      rintro e w2 ⟨⟨u, rfl, O2⟩, b2⟩
      obtain ⟨ua, uc, rfl⟩ := O2.shape0
      have HU : Hid (IsTurns w2 ua (busyL (onesL ss))) := O2.isT.1
      clear O2
      go_wp2_with fail
      with_reducible refine (specBusy _ _ _ _ (HT.out.below (B := 0) b2) l3).mono ?_
      rintro e w3 ⟨⟨x, rfl, O3⟩, b3⟩
      obtain ⟨xa, xc, rfl⟩ := O3.shape0
      go_wp2_with fail
      with_reducible refine (lawEpSpans _ _ _ _ _ _ _ (HU.out.below (B := 0) b3) O3.isT.1 lb lb true (decide_eq_true rfl)).mono ?_
      rintro e w4 ⟨rfl, b4⟩
      have b34 := bstep b3 b4
      have HU4 : Hid (IsTurns w4 ua (busyL (onesL ss))) := HU.out.below (B := 0) b34
      have HV4 : Hid (OP w4 w.heap.size 28 (.slice va ss.length vc) ss) := HV.out.on (bstep b2 b34)
      have HB4 : Hid (Below w.heap.size w w4) := bstep HB1.out (bstep b2 b34)
      clear O3 b2 b3 b4 b34 HU HT HB1 HV
      have f0 : 0 ≤ (len' : Int) % 300 := by omega
      have f1 : (len' : Int) % 300 < 300 := by omega
      have LAW := more_law ss HSM.out l15 ((len' : Int) % 300) f0 f1
      have OKY := busy_ok (ss ++ [((len' : Int) % 300, (len' : Int) % 300 + 20)]) (by simp; omega)
      have OKX := busy_ok ss (by omega)
      have lby := busy_bd (ss ++ [((len' : Int) % 300, (len' : Int) % 300 + 20)]) (by simp; omega)
      have g1 := IntWalk.i64_in ((len' : Int) % 300 + 20) (by omega)
      have HLAW : Hid ((∀ t, inL (busyL (onesL (ss ++ [((len' : Int) % 300, (len' : Int) % 300 + 20)]))) t = (inL (busyL (onesL ss)) t || (decide ((len' : Int) % 300 ≤ t) && decide (t < (len' : Int) % 300 + 20)))) ∧ sumL (busyL (onesL ss)) ≤ sumL (busyL (onesL (ss ++ [((len' : Int) % 300, (len' : Int) % 300 + 20)])))) := LAW
      have HOKS : Hid (SpOk (busyL (onesL ss)) ∧ SpOk (busyL (onesL (ss ++ [((len' : Int) % 300, (len' : Int) % 300 + 20)]))) ∧ (busyL (onesL (ss ++ [((len' : Int) % 300, (len' : Int) % 300 + 20)]))).length ≤ 200) := ⟨OKX, OKY, lby⟩
      clear LAW OKX OKY lby
      have OE := own_e w4 w4.heap.size w4.heap.size 28 (Nat.le_refl _) rfl
      have HOE : Hid ((w4.alloc (.cells #[] 28)).ownsRow w4.heap.size 28 2 (.slice (some ⟨w4.heap.size, 0, none⟩) 0 0) 0 []) := OE
      have HVE : Hid (OP (w4.alloc (.cells #[] 28)) w.heap.size 28 (.slice va ss.length vc) ss) := HV4.out.on ((Below.refl _ _).alloc (Nat.le_refl _) _)
      have HBE : Hid (Below w4.heap.size w4 (w4.alloc (.cells #[] 28))) := (Below.refl _ _).alloc (Nat.le_refl _) _
      clear OE
      have key : ∃ v5 w5, (∀ {ops : Array Oper} {rest : List Oper} {o : Oper} {ac : Act} {Q : Exit → Act → World → Prop} (s x : Operand), o.guard = none → o.op = .call { callee := .builtin .append, args := #[s, x], argTypes := #[23, 23] } → ac.eval s = .slice (some ⟨w4.heap.size, 0, none⟩) 0 0 → ac.eval x = .slice va ss.length vc → (∀ v5 w5, w5.ownsRow w4.heap.size 28 2 v5 ss.length (pcs ss) → Below w4.heap.size w4 w5 → wpList Try.prog ops Q rest (ac.put o.dst v5) w5) → wpList Try.prog ops Q (o :: rest) ac (w4.alloc (.cells #[] 28))) ∧ v5 = (Value.bool true) ∧ w5 = w4 := by
        refine ⟨_, _, ?_, rfl, rfl⟩
        intro ops rest o ac Q s x hg ho hs hx hk
        rcases HVE.out.2 with ⟨eu, hu0⟩ | ⟨gu, cu, cur, eu, _, _, _⟩
        · simp only [Value.slice.injEq] at eu
          obtain ⟨rfl, e2, rfl⟩ := eu
          have es : ss = [] := List.length_eq_zero_iff.1 e2
          subst es
          refine wpList_append_own_none hg s x _ ho w4.heap.size 28 i0 2 Try.underlying23 hi _ 0 [] hs HOE.out hx ?_
          rw [← hs]
          exact hk _ _ (by rw [hs]; exact HOE.out) HBE.out
        · simp only [Value.slice.injEq] at eu
          obtain ⟨rfl, _, rfl⟩ := eu
          refine wpList_append_own _ hg s x _ ho w4.heap.size 28 i0 (.agg #[.int .i64 0, .int .i64 0]) 2 16 Try.underlying23 hi hz0 hz1 hz2 rfl (by omega) _ 0 [] hs HOE.out ⟨gu, 0, none⟩ ss.length _ (pcs ss) hx (pcs_len ss) (OP.news HVE.out rfl) (pcs_one _) (by unfold maxLen; omega) (by omega) (by simp) ?_
          intro v5 w5 hown hgrow _
          refine hk v5 w5 (by rw [Nat.zero_add, List.nil_append] at hown; exact hown) ?_
          exact HBE.out.grown hgrow HBE.out.size (fun q hq => (World.ownsRow.lt HOE.out q hq).1)
      obtain ⟨_, _, APP, _, _⟩ := key
      go_wp2_with (first
        | (at_builtin; refine APP _ _ rfl rfl rfl rfl ?_; intro v5 w5 o5 B5; have HO5 : Hid (w5.ownsRow w4.heap.size 28 2 v5 ss.length (pcs ss)) := o5; clear o5)
        | (at_builtin; refine wpList_append_lies _ rfl _ _ _ rfl w4.heap.size 28 i0 (.agg #[.int .i64 0, .int .i64 0]) 2 16 Try.underlying23 hi hz0 hz1 hz2 rfl (by omega) _ ss.length (pcs ss) rfl (World.ownsRow.alloc HO5.out _) ⟨_, 0, none⟩ 1 1 [.int .i64 _, .int .i64 _] rfl rfl (World.news_of_block (heap_alloc_new w5 _)) (by simp [Value.oneCell']) (by omega) (by unfold maxLen; omega) (by omega) (by simp; have := B5.size; omega) _ rfl ?_; intro g6 c6 w6 hown hgrow hat hlt6; have HO6 : Hid (OP w6 w4.heap.size 28 (.slice (some ⟨g6, 0, none⟩) (ss.length + 1) c6) (ss ++ [((len' : Int) % 300, (len' : Int) % 300 + 20)])) := OP.snoc hown rfl; have HB6 : Hid (Below w4.heap.size w4 w6) := grown_own HO5.out ⟨B5, B5.size⟩ hgrow; clear hown hgrow hat))
      have HLY : Hid ((ss ++ [((len' : Int) % 300, (len' : Int) % 300 + 20)]).length = ss.length + 1) := by unfold Hid; simp
      have IB := implBusy (some ⟨g6, 0, none⟩) c6 (ss ++ [((len' : Int) % 300, (len' : Int) % 300 + 20)]) w6 HO6.out.isT.1 (by rw [HLY.out]; omega)
      rw [HLY.out] at IB
      refine IB.mono ?_
      rintro e w7 ⟨⟨y, rfl, O7⟩, b7⟩
      obtain ⟨ya, yc, rfl⟩ := O7.shape0
      have HY7 : Hid (IsTurns w7 ya (busyL (onesL (ss ++ [((len' : Int) % 300, (len' : Int) % 300 + 20)])))) := O7.isT.1
      have b47 := bstep HB6.out b7
      have HX7 : Hid (IsTurns w7 ua (busyL (onesL ss))) := HU4.out.below (B := 0) b47
      have HB7 : Hid (Below w.heap.size w w7) := bstep HB4.out b47
      have ly : (busyL (onesL (ss ++ [((len' : Int) % 300, (len' : Int) % 300 + 20)]))).length ≤ 2000000 := by have := HOKS.out.2.2; omega
      clear O7 b7 b47 IB HO6 HB6 HO5 B5 HU4 HV4 HB4 HOE HVE HBE APP
      go_wp2
      go_loopw [9] (fun av wr => ∃ A : Int, av = .int .i64 A ∧ 0 ≤ A ∧ A ≤ 330 ∧ Below w7.heap.size w7 wr) (fun av _ => (330 - intOf av).toNat)
      case atStart => exact ⟨0, rfl, by omega, by omega, Below.refl _ _⟩
      case round =>
        obtain ⟨A, rfl, hA0, hA1, hb⟩ := hrel
        by_cases hlt : A < 320
        · have g2 := IntWalk.i64_in (A + 7) (by omega)
          cases hq : inL (busyL (onesL ss)) A with
          | true =>
            have HY : Hid (inL (busyL (onesL (ss ++ [((len' : Int) % 300, (len' : Int) % 300 + 20)]))) A = true) := by unfold Hid; rw [HLAW.out.1, hq]; rfl
            go_wp2_with fail
            with_reducible refine (lawEpIn _ _ _ _ _ (HY7.out.below (B := 0) hb) ly true HY.out).mono ?_
            rintro e w8 ⟨rfl, b8⟩
            have b78 := bstep hb b8
            go_wp2_with fail
            with_reducible refine (lawEpIn _ _ _ _ _ (HX7.out.below (B := 0) b78) lb true hq).mono ?_
            rintro e w9 ⟨rfl, b9⟩
            have B9 := bstep b78 b9
            clear b8 b9 b78 HY hq
            go_wp2
            go_roundw
            case rel => exact ⟨A + 7, rfl, by omega, by omega, B9⟩
            case measure => simp [intOf]; omega
          | false =>
            by_cases fa : (len' : Int) % 300 ≤ A
            · by_cases fb : A < (len' : Int) % 300 + 20
              · have HY : Hid (inL (busyL (onesL (ss ++ [((len' : Int) % 300, (len' : Int) % 300 + 20)]))) A = true) := by unfold Hid; rw [HLAW.out.1, hq]; simp [fa, fb]
                go_wp2_with fail
                with_reducible refine (lawEpIn _ _ _ _ _ (HY7.out.below (B := 0) hb) ly true HY.out).mono ?_
                rintro e w8 ⟨rfl, b8⟩
                have b78 := bstep hb b8
                go_wp2_with fail
                with_reducible refine (lawEpIn _ _ _ _ _ (HX7.out.below (B := 0) b78) lb false hq).mono ?_
                rintro e w9 ⟨rfl, b9⟩
                have B9 := bstep b78 b9
                clear b8 b9 b78 HY hq
                go_wp2
                go_roundw
                case rel => exact ⟨A + 7, rfl, by omega, by omega, B9⟩
                case measure => simp [intOf]; omega
              · have HY : Hid (inL (busyL (onesL (ss ++ [((len' : Int) % 300, (len' : Int) % 300 + 20)]))) A = false) := by unfold Hid; rw [HLAW.out.1, hq]; simp [fb]
                go_wp2_with fail
                with_reducible refine (lawEpIn _ _ _ _ _ (HY7.out.below (B := 0) hb) ly false HY.out).mono ?_
                rintro e w8 ⟨rfl, b8⟩
                have b78 := bstep hb b8
                go_wp2_with fail
                with_reducible refine (lawEpIn _ _ _ _ _ (HX7.out.below (B := 0) b78) lb false hq).mono ?_
                rintro e w9 ⟨rfl, b9⟩
                have B9 := bstep b78 b9
                clear b8 b9 b78 HY hq
                go_wp2
                go_roundw
                case rel => exact ⟨A + 7, rfl, by omega, by omega, B9⟩
                case measure => simp [intOf]; omega
            · have HY : Hid (inL (busyL (onesL (ss ++ [((len' : Int) % 300, (len' : Int) % 300 + 20)]))) A = false) := by unfold Hid; rw [HLAW.out.1, hq]; simp [fa]
              go_wp2_with fail
              with_reducible refine (lawEpIn _ _ _ _ _ (HY7.out.below (B := 0) hb) ly false HY.out).mono ?_
              rintro e w8 ⟨rfl, b8⟩
              have b78 := bstep hb b8
              go_wp2_with fail
              with_reducible refine (lawEpIn _ _ _ _ _ (HX7.out.below (B := 0) b78) lb false hq).mono ?_
              rintro e w9 ⟨rfl, b9⟩
              have B9 := bstep b78 b9
              clear b8 b9 b78 HY hq
              go_wp2
              go_roundw
              case rel => exact ⟨A + 7, rfl, by omega, by omega, B9⟩
              case measure => simp [intOf]; omega
        · have zx : Hid (szE (busyL (onesL ss)) true = szU (busyL (onesL ss)) (busyL (onesL ss)).length) := if_pos rfl
          have zy : Hid (szE (busyL (onesL (ss ++ [((len' : Int) % 300, (len' : Int) % 300 + 20)]))) true = szU (busyL (onesL (ss ++ [((len' : Int) % 300, (len' : Int) % 300 + 20)]))) (busyL (onesL (ss ++ [((len' : Int) % 300, (len' : Int) % 300 + 20)]))).length) := if_pos rfl
          have le := HLAW.out.2
          rw [← szU_all, ← szU_all] at le
          go_wp2_with fail
          with_reducible refine (implSpanSize _ _ _ _ (HY7.out.below (B := 0) hb) ly true ⟨fun _ => HOKS.out.2.1, fun _ => rfl⟩).mono ?_
          rintro e w8 ⟨rfl, b8⟩
          rw [zy.out]
          have b78 := bstep hb b8
          go_wp2_with fail
          with_reducible refine (implSpanSize _ _ _ _ (HX7.out.below (B := 0) b78) lb true ⟨fun _ => HOKS.out.1, fun _ => rfl⟩).mono ?_
          rintro e w9 ⟨rfl, b9⟩
          rw [zx.out]
          have B9 := bstep HB7.out (bstep b78 b9)
          clear b8 b9 b78 HLAW HOKS zx zy HX7 HY7
          generalize szU (busyL (onesL ss)) (busyL (onesL ss)).length = Z1 at le ⊢
          generalize szU (busyL (onesL (ss ++ [((len' : Int) % 300, (len' : Int) % 300 + 20)]))) (busyL (onesL (ss ++ [((len' : Int) % 300, (len' : Int) % 300 + 20)]))).length = Z2 at le ⊢
          go_wp2
          go_ret
          exact ⟨by first | rfl | (simp [le]; done), B9⟩
end Go.Proofs.Ytddjbcggdmeidaa
