/- FnSpansBoth: the law's own walk. -/
import Derived.Test.YtkbgbccehijckaaYv
namespace Go.Proofs.Ytkbgbccehijckaa
open Go.RowKit
set_option linter.unusedVariables false
/-- The arguments and the answers. -/
structure SBK (w : World) (va vb xa ya : Option Addr) (ss tt X Y : List (Int × Int)) (W : World) : Prop where
  a : IsTurns W va ss
  b : IsTurns W vb tt
  x : IsTurns W xa X
  y : IsTurns W ya Y
  bel : Below w.heap.size w W
theorem SBK.on {w W W' : World} {va vb xa ya : Option Addr} {ss tt X Y : List (Int × Int)} (h : SBK w va vb xa ya ss tt X Y W) (hb : Below W.heap.size W W') : SBK w va vb xa ya ss tt X Y W' :=
  ⟨h.a.below (B := 0) hb, h.b.below (B := 0) hb, h.x.below (B := 0) hb, h.y.below (B := 0) hb, bstep h.bel hb⟩
/-- What the law asks, in plain numbers. -/
structure SBL (ss tt X Y : List (Int × Int)) : Prop where
  oa : SpOk ss
  ob : SpOk tt
  ox : SpOk X
  oy : SpOk Y
  ix : ∀ t, inL X t = (inL ss t && inL tt t)
  iy : ∀ t, inL Y t = (inL ss t && !inL tt t)
  sz : szU X X.length + szU Y Y.length = szU ss ss.length
  co : bothS tt ss = X
theorem both_law {ss tt : List (Int × Int)} (oa : SpOk ss) (ob : SpOk tt) (la : ss.length ≤ 7) (lb : tt.length ≤ 7) (sm : SmS ss) : SBL ss tt (bothS ss tt) (lessS ss tt) := by
  have ca := can_of_ok oa
  have cb := can_of_ok ob
  have h5 : ∀ s ∈ ss, s.2 ≤ 5258964959 := fun s hs => by have := sm s hs; omega
  have m1 := Nat.mul_le_mul la lb
  have m2 := Nat.mul_le_mul la (Nat.add_le_add_right lb 1)
  refine ⟨oa, ob, both_ok ss tt oa ob h5 (by omega), less_ok ss tt oa ob h5 (by omega), fun t => both_in ss tt t ca cb, fun t => less_in ss tt t ca cb, ?_, both_comm ss tt ca cb⟩
  rw [szU_all, szU_all, szU_all]
  exact sum_both_less ss tt ca cb
set_option maxRecDepth 100000 in
set_option maxHeartbeats 16000000 in
theorem lawSpansBoth (a : Option Addr) (len cap : Nat) (a' : Option Addr) (len' cap' : Nat) (w : World) (h : IsCode w a len cap) (h' : IsCode w a' len' cap') :
    Calls Try.prog 10 #[.slice a len cap, .slice a' len' cap'] w fun e w' => e = .returned (.bool true) ∧ Below w.heap.size w w' := by
  have hlen := h.1
  have hlen' := h'.1
  clear h'
  by_cases hl : (len : Int) > 1048576
  · go_enter Try.func10, Try.ntmps10
    go_wp2
    go_ret
    exact ⟨rfl, Below.refl _ _⟩
  · by_cases hl' : (len' : Int) > 1048576
    · go_enter Try.func10, Try.ntmps10
      go_wp2
      go_ret
      exact ⟨rfl, Below.refl _ _⟩
    · go_enter Try.func10, Try.ntmps10
      go_wp2_with fail
      refine (drawSpansBoth w a len cap h).mono ?_
      rintro e w1 ⟨v, v', rfl, ss, tt, D, D', l7, k7⟩
      obtain ⟨va, vc, rfl⟩ := D.own.shape0
      obtain ⟨vb, vd, rfl⟩ := D'.own.shape0
      obtain ⟨r, hr⟩ := sp_dec ss
      obtain ⟨q, hq⟩ := sp_dec tt
      have HR : Hid (r = true ↔ SpOk ss) := hr
      have HQ : Hid (q = true ↔ SpOk tt) := hq
      have HT : Hid (IsTurns w1 va ss) := D.own.isT.1
      have HU : Hid (IsTurns w1 vb tt) := D'.own.isT.1
      have SM : Hid (SmS ss) := D.sm
      have B1 := D.bel
      have l2 : ss.length ≤ 2000000 := by omega
      have k2 : tt.length ≤ 2000000 := by omega
      have lx := bothA_len ss tt r q hr hq
      have ly := lessA_len ss tt r q hr hq
      clear D D' hr hq h
      go_wp2_with fail
      with_reducible refine (implSpansBoth _ _ _ _ _ _ _ HT.out HU.out l2 k2 r q HR.out HQ.out).mono ?_
      rintro e w2 ⟨⟨v2, rfl, O2⟩, b2⟩
      obtain ⟨xa, xc, rfl⟩ := O2.shape0
      go_wp2_with fail
      with_reducible refine (implSpansLess _ _ _ _ _ _ _ (HT.out.below (B := 0) b2) (HU.out.below (B := 0) b2) l2 k2 r q HR.out HQ.out).mono ?_
      rintro e w3 ⟨⟨v3, rfl, O3⟩, b3⟩
      obtain ⟨ya, yc, rfl⟩ := O3.shape0
      have b13 := bstep b2 b3
      have K3 : SBK w va vb xa ya ss tt (bothA r q ss tt) (lessA r q ss tt) w3 := ⟨HT.out.below (B := 0) b13, HU.out.below (B := 0) b13, O2.isT.1.below (B := 0) b3, O3.isT.1, bstep B1 b13⟩
      clear O2 O3 b2 b3 b13 HT HU B1
      go_wp2_with fail
      with_reducible refine (specSpansBoth _ _ _ _ _ _ _ K3.a K3.b l2 k2 r q HR.out HQ.out).mono ?_
      rintro e w4 ⟨⟨v4, rfl, O4⟩, b4⟩
      obtain ⟨pa, pc, rfl⟩ := O4.shape0
      have K4 := K3.on b4
      clear K3 b4
      go_wp2_with fail
      with_reducible refine (lawEpSpans _ _ _ _ _ _ _ K4.x O4.isT.1 lx lx true (decide_eq_true rfl)).mono ?_
      rintro e w5 ⟨rfl, b5⟩
      have K5 := K4.on b5
      clear K4 O4 b5
      go_wp2_with fail
      with_reducible refine (specSpansLess _ _ _ _ _ _ _ K5.a K5.b l2 k2 r q HR.out HQ.out).mono ?_
      rintro e w6 ⟨⟨v6, rfl, O6⟩, b6⟩
      obtain ⟨qa, qc, rfl⟩ := O6.shape0
      have K6 := K5.on b6
      clear K5 b6
      go_wp2_with fail
      with_reducible refine (lawEpSpans _ _ _ _ _ _ _ K6.y O6.isT.1 ly ly true (decide_eq_true rfl)).mono ?_
      rintro e w7 ⟨rfl, b7⟩
      have K7 := K6.on b7
      clear K6 O6 b7
      go_wp2_with fail
      with_reducible refine (specSpansOk _ _ _ _ K7.a l2 r HR.out).mono ?_
      rintro e w8 ⟨rfl, b8⟩
      have K8 := K7.on b8
      clear K7 b8
      cases r with
      | false =>
        have K8' := K8
        clear K8
        go_wp2_with fail
        with_reducible refine (specSpansBoth _ _ _ _ _ _ _ K8'.a K8'.b l2 k2 false q HR.out HQ.out).mono ?_
        rintro e wa ⟨⟨va4, rfl, Oa⟩, ba⟩
        obtain ⟨pb, pd, rfl⟩ := Oa.shape0
        have Ka := K8'.on ba
        clear K8' ba
        go_wp2_with fail
        with_reducible refine (lawEpSpans _ _ _ _ _ _ _ Ka.x Oa.isT.1 lx lx true (decide_eq_true rfl)).mono ?_
        rintro e wb ⟨rfl, bb⟩
        have Kb := Ka.on bb
        clear Ka Oa bb
        go_wp2_with fail
        with_reducible refine (specSpansLess _ _ _ _ _ _ _ Kb.a Kb.b l2 k2 false q HR.out HQ.out).mono ?_
        rintro e wc ⟨⟨vc4, rfl, Oc⟩, bc⟩
        obtain ⟨qb, qd, rfl⟩ := Oc.shape0
        have Kc := Kb.on bc
        clear Kb bc
        go_wp2_with fail
        with_reducible refine (lawEpSpans _ _ _ _ _ _ _ Kc.y Oc.isT.1 ly ly true (decide_eq_true rfl)).mono ?_
        rintro e wd ⟨rfl, bd⟩
        have Bd := bstep Kc.bel bd
        clear Kc Oc bd
        go_wp2
        go_ret
        exact ⟨rfl, Bd⟩
      | true =>
        go_wp2_with fail
        with_reducible refine (specSpansOk _ _ _ _ K8.b k2 q HQ.out).mono ?_
        rintro e w9 ⟨rfl, b9⟩
        have K9 := K8.on b9
        clear K8 b9
        cases q with
        | false =>
          have K9' := K9
          clear K9
          go_wp2_with fail
          with_reducible refine (specSpansBoth _ _ _ _ _ _ _ K9'.a K9'.b l2 k2 true false (by have z := HR.out; simpa using z) (by have z := HQ.out; simpa using z)).mono ?_
          rintro e wa ⟨⟨va4, rfl, Oa⟩, ba⟩
          obtain ⟨pb, pd, rfl⟩ := Oa.shape0
          have Ka := K9'.on ba
          clear K9' ba
          go_wp2_with fail
          with_reducible refine (lawEpSpans _ _ _ _ _ _ _ Ka.x Oa.isT.1 lx lx true (decide_eq_true rfl)).mono ?_
          rintro e wb ⟨rfl, bb⟩
          have Kb := Ka.on bb
          clear Ka Oa bb
          go_wp2_with fail
          with_reducible refine (specSpansLess _ _ _ _ _ _ _ Kb.a Kb.b l2 k2 true false (by have z := HR.out; simpa using z) (by have z := HQ.out; simpa using z)).mono ?_
          rintro e wc ⟨⟨vc4, rfl, Oc⟩, bc⟩
          obtain ⟨qb, qd, rfl⟩ := Oc.shape0
          have Kc := Kb.on bc
          clear Kb bc
          go_wp2_with fail
          with_reducible refine (lawEpSpans _ _ _ _ _ _ _ Kc.y Oc.isT.1 ly ly true (decide_eq_true rfl)).mono ?_
          rintro e wd ⟨rfl, bd⟩
          have Bd := bstep Kc.bel bd
          clear Kc Oc bd
          go_wp2
          go_ret
          exact ⟨rfl, Bd⟩
        | true =>
          have LW : Hid (SBL ss tt (bothS ss tt) (lessS ss tt)) := both_law (by have z := HR.out; simpa using z) (by have z := HQ.out; simpa using z) l7 k7 SM.out
          have KA : SBK w va vb xa ya ss tt (bothS ss tt) (lessS ss tt) w9 := K9
          have lx2 : (bothS ss tt).length ≤ 2000000 := lx
          have ly2 : (lessS ss tt).length ≤ 2000000 := ly
          have eX : Hid (bothA true true ss tt = bothS ss tt) := rfl
          have eY : Hid (lessA true true ss tt = lessS ss tt) := rfl
          rw [eX.out, eY.out]
          have eZ : Hid (bothA true true tt ss = bothS tt ss) := rfl
          clear lx ly K9 eX eY SM HR HQ
          generalize bothS ss tt = X at *
          generalize lessS ss tt = Y at *
          generalize ht : (len' : Int) % 600 = t
          have HI := (LW.out).ix t
          have HJ := (LW.out).iy t
          cases hp : inL ss t with
          | false =>
            rw [hp, Bool.false_and] at HI HJ
            have HIv : Hid (inL X t = false) := HI
            have HJv : Hid (inL Y t = false) := HJ
            have HPv : Hid (inL ss t = false) := hp
            clear HI HJ hp
            go_wp2_with fail
            with_reducible refine (lawEpIn _ _ _ _ _ KA.x lx2 false HIv.out).mono ?_
            rintro e wz1 ⟨rfl, bz1⟩
            have KB1 := KA.on bz1
            clear KA bz1
            go_wp2_with fail
            with_reducible refine (lawEpIn _ _ _ _ _ KB1.a l2 false HPv.out).mono ?_
            rintro e wz2 ⟨rfl, bz2⟩
            have KB2 := KB1.on bz2
            clear KB1 bz2
            go_wp2_with fail
            with_reducible refine (lawEpIn _ _ _ _ _ KB2.y ly2 false HJv.out).mono ?_
            rintro e wz3 ⟨rfl, bz3⟩
            have KB3 := KB2.on bz3
            clear KB2 bz3
            go_wp2_with fail
            with_reducible refine (lawEpIn _ _ _ _ _ KB3.a l2 false HPv.out).mono ?_
            rintro e wz4 ⟨rfl, bz4⟩
            have KB4 := KB3.on bz4
            clear KB3 bz4
            go_wp2_with fail
            with_reducible refine (implSpansOk _ _ _ _ KB4.x lx2 true ⟨fun _ => LW.out.ox, fun _ => rfl⟩).mono ?_
            rintro e wz5 ⟨rfl, bz5⟩
            have KB5 := KB4.on bz5
            clear KB4 bz5
            go_wp2_with fail
            with_reducible refine (implSpansOk _ _ _ _ KB5.y ly2 true ⟨fun _ => LW.out.oy, fun _ => rfl⟩).mono ?_
            rintro e wz6 ⟨rfl, bz6⟩
            have KB6 := KB5.on bz6
            clear KB5 bz6
            have zX : Hid (szE X true = szU X X.length) := if_pos rfl
            go_wp2_with fail
            with_reducible refine (implSpanSize _ _ _ _ KB6.x lx2 true ⟨fun _ => LW.out.ox, fun _ => rfl⟩).mono ?_
            rintro e wz7 ⟨rfl, bz7⟩
            have KB7 := KB6.on bz7
            clear KB6 bz7
            rw [zX.out]
            have zY : Hid (szE Y true = szU Y Y.length) := if_pos rfl
            go_wp2_with fail
            with_reducible refine (implSpanSize _ _ _ _ KB7.y ly2 true ⟨fun _ => LW.out.oy, fun _ => rfl⟩).mono ?_
            rintro e wz8 ⟨rfl, bz8⟩
            have KB8 := KB7.on bz8
            clear KB7 bz8
            rw [zY.out]
            have zS : Hid (szE ss true = szU ss ss.length) := if_pos rfl
            have zb1 := szU_bd X (fun i hi => (LW.out.ox.2 i hi).1) _ (Nat.le_refl _)
            have zb2 := szU_bd Y (fun i hi => (LW.out.oy.2 i hi).1) _ (Nat.le_refl _)
            have zs := LW.out.sz
            have g1 := IntWalk.i64_in (szU X X.length + szU Y Y.length) (by have := LW.out.ox.1; have := LW.out.oy.1; omega)
            go_wp2_with fail
            with_reducible refine (implSpanSize _ _ _ _ KB8.a l2 true ⟨fun _ => LW.out.oa, fun _ => rfl⟩).mono ?_
            rintro e wz9 ⟨rfl, bz9⟩
            have KB9 := KB8.on bz9
            clear KB8 bz9
            rw [zS.out]
            generalize szU X X.length = Z1 at *
            generalize szU Y Y.length = Z2 at *
            generalize szU ss ss.length = Z3 at *
            subst zs
            go_wp2_with fail
            with_reducible refine (implSpansBoth _ _ _ _ _ _ _ KB9.b KB9.a k2 l2 true true ⟨fun _ => LW.out.ob, fun _ => rfl⟩ ⟨fun _ => LW.out.oa, fun _ => rfl⟩).mono ?_
            rintro e wy ⟨⟨vy, rfl, Oy⟩, by1⟩
            rw [eZ.out, LW.out.co] at Oy
            obtain ⟨fa, fc, rfl⟩ := Oy.shape0
            have KY := KB9.on by1
            clear KB9 by1
            go_wp2_with fail
            with_reducible refine (lawEpSpans _ _ _ _ _ _ _ Oy.isT.1 KY.x lx2 lx2 true (decide_eq_true rfl)).mono ?_
            rintro e wx ⟨rfl, bx⟩
            have BX := bstep KY.bel bx
            clear KY Oy bx
            go_wp2
            go_ret
            exact ⟨by first | rfl | (simp; done), BX⟩
          | true =>
            cases hs : inL tt t with
            | false =>
              rw [hp, hs] at HI HJ
              have HIv : Hid (inL X t = false) := by unfold Hid; rw [HI]; rfl
              have HJv : Hid (inL Y t = true) := by unfold Hid; rw [HJ]; rfl
              have HPv : Hid (inL ss t = true) := hp
              have HSv : Hid (inL tt t = false) := hs
              clear HI HJ hp hs
              go_wp2_with fail
              with_reducible refine (lawEpIn _ _ _ _ _ KA.x lx2 false HIv.out).mono ?_
              rintro e wz1 ⟨rfl, bz1⟩
              have KB1 := KA.on bz1
              clear KA bz1
              go_wp2_with fail
              with_reducible refine (lawEpIn _ _ _ _ _ KB1.a l2 true HPv.out).mono ?_
              rintro e wz2 ⟨rfl, bz2⟩
              have KB2 := KB1.on bz2
              clear KB1 bz2
              go_wp2_with fail
              with_reducible refine (lawEpIn _ _ _ _ _ KB2.b k2 false HSv.out).mono ?_
              rintro e wz3 ⟨rfl, bz3⟩
              have KB3 := KB2.on bz3
              clear KB2 bz3
              go_wp2_with fail
              with_reducible refine (lawEpIn _ _ _ _ _ KB3.y ly2 true HJv.out).mono ?_
              rintro e wz4 ⟨rfl, bz4⟩
              have KB4 := KB3.on bz4
              clear KB3 bz4
              go_wp2_with fail
              with_reducible refine (lawEpIn _ _ _ _ _ KB4.a l2 true HPv.out).mono ?_
              rintro e wz5 ⟨rfl, bz5⟩
              have KB5 := KB4.on bz5
              clear KB4 bz5
              go_wp2_with fail
              with_reducible refine (lawEpIn _ _ _ _ _ KB5.b k2 false HSv.out).mono ?_
              rintro e wz6 ⟨rfl, bz6⟩
              have KB6 := KB5.on bz6
              clear KB5 bz6
              go_wp2_with fail
              with_reducible refine (implSpansOk _ _ _ _ KB6.x lx2 true ⟨fun _ => LW.out.ox, fun _ => rfl⟩).mono ?_
              rintro e wz7 ⟨rfl, bz7⟩
              have KB7 := KB6.on bz7
              clear KB6 bz7
              go_wp2_with fail
              with_reducible refine (implSpansOk _ _ _ _ KB7.y ly2 true ⟨fun _ => LW.out.oy, fun _ => rfl⟩).mono ?_
              rintro e wz8 ⟨rfl, bz8⟩
              have KB8 := KB7.on bz8
              clear KB7 bz8
              have zX : Hid (szE X true = szU X X.length) := if_pos rfl
              go_wp2_with fail
              with_reducible refine (implSpanSize _ _ _ _ KB8.x lx2 true ⟨fun _ => LW.out.ox, fun _ => rfl⟩).mono ?_
              rintro e wz9 ⟨rfl, bz9⟩
              have KB9 := KB8.on bz9
              clear KB8 bz9
              rw [zX.out]
              have zY : Hid (szE Y true = szU Y Y.length) := if_pos rfl
              go_wp2_with fail
              with_reducible refine (implSpanSize _ _ _ _ KB9.y ly2 true ⟨fun _ => LW.out.oy, fun _ => rfl⟩).mono ?_
              rintro e wz10 ⟨rfl, bz10⟩
              have KB10 := KB9.on bz10
              clear KB9 bz10
              rw [zY.out]
              have zS : Hid (szE ss true = szU ss ss.length) := if_pos rfl
              have zb1 := szU_bd X (fun i hi => (LW.out.ox.2 i hi).1) _ (Nat.le_refl _)
              have zb2 := szU_bd Y (fun i hi => (LW.out.oy.2 i hi).1) _ (Nat.le_refl _)
              have zs := LW.out.sz
              have g1 := IntWalk.i64_in (szU X X.length + szU Y Y.length) (by have := LW.out.ox.1; have := LW.out.oy.1; omega)
              go_wp2_with fail
              with_reducible refine (implSpanSize _ _ _ _ KB10.a l2 true ⟨fun _ => LW.out.oa, fun _ => rfl⟩).mono ?_
              rintro e wz11 ⟨rfl, bz11⟩
              have KB11 := KB10.on bz11
              clear KB10 bz11
              rw [zS.out]
              generalize szU X X.length = Z1 at *
              generalize szU Y Y.length = Z2 at *
              generalize szU ss ss.length = Z3 at *
              subst zs
              go_wp2_with fail
              with_reducible refine (implSpansBoth _ _ _ _ _ _ _ KB11.b KB11.a k2 l2 true true ⟨fun _ => LW.out.ob, fun _ => rfl⟩ ⟨fun _ => LW.out.oa, fun _ => rfl⟩).mono ?_
              rintro e wy ⟨⟨vy, rfl, Oy⟩, by1⟩
              rw [eZ.out, LW.out.co] at Oy
              obtain ⟨fa, fc, rfl⟩ := Oy.shape0
              have KY := KB11.on by1
              clear KB11 by1
              go_wp2_with fail
              with_reducible refine (lawEpSpans _ _ _ _ _ _ _ Oy.isT.1 KY.x lx2 lx2 true (decide_eq_true rfl)).mono ?_
              rintro e wx ⟨rfl, bx⟩
              have BX := bstep KY.bel bx
              clear KY Oy bx
              go_wp2
              go_ret
              exact ⟨by first | rfl | (simp; done), BX⟩
            | true =>
              rw [hp, hs] at HI HJ
              have HIv : Hid (inL X t = true) := by unfold Hid; rw [HI]; rfl
              have HJv : Hid (inL Y t = false) := by unfold Hid; rw [HJ]; rfl
              have HPv : Hid (inL ss t = true) := hp
              have HSv : Hid (inL tt t = true) := hs
              clear HI HJ hp hs
              go_wp2_with fail
              with_reducible refine (lawEpIn _ _ _ _ _ KA.x lx2 true HIv.out).mono ?_
              rintro e wz1 ⟨rfl, bz1⟩
              have KB1 := KA.on bz1
              clear KA bz1
              go_wp2_with fail
              with_reducible refine (lawEpIn _ _ _ _ _ KB1.a l2 true HPv.out).mono ?_
              rintro e wz2 ⟨rfl, bz2⟩
              have KB2 := KB1.on bz2
              clear KB1 bz2
              go_wp2_with fail
              with_reducible refine (lawEpIn _ _ _ _ _ KB2.b k2 true HSv.out).mono ?_
              rintro e wz3 ⟨rfl, bz3⟩
              have KB3 := KB2.on bz3
              clear KB2 bz3
              go_wp2_with fail
              with_reducible refine (lawEpIn _ _ _ _ _ KB3.y ly2 false HJv.out).mono ?_
              rintro e wz4 ⟨rfl, bz4⟩
              have KB4 := KB3.on bz4
              clear KB3 bz4
              go_wp2_with fail
              with_reducible refine (lawEpIn _ _ _ _ _ KB4.a l2 true HPv.out).mono ?_
              rintro e wz5 ⟨rfl, bz5⟩
              have KB5 := KB4.on bz5
              clear KB4 bz5
              go_wp2_with fail
              with_reducible refine (lawEpIn _ _ _ _ _ KB5.b k2 true HSv.out).mono ?_
              rintro e wz6 ⟨rfl, bz6⟩
              have KB6 := KB5.on bz6
              clear KB5 bz6
              go_wp2_with fail
              with_reducible refine (implSpansOk _ _ _ _ KB6.x lx2 true ⟨fun _ => LW.out.ox, fun _ => rfl⟩).mono ?_
              rintro e wz7 ⟨rfl, bz7⟩
              have KB7 := KB6.on bz7
              clear KB6 bz7
              go_wp2_with fail
              with_reducible refine (implSpansOk _ _ _ _ KB7.y ly2 true ⟨fun _ => LW.out.oy, fun _ => rfl⟩).mono ?_
              rintro e wz8 ⟨rfl, bz8⟩
              have KB8 := KB7.on bz8
              clear KB7 bz8
              have zX : Hid (szE X true = szU X X.length) := if_pos rfl
              go_wp2_with fail
              with_reducible refine (implSpanSize _ _ _ _ KB8.x lx2 true ⟨fun _ => LW.out.ox, fun _ => rfl⟩).mono ?_
              rintro e wz9 ⟨rfl, bz9⟩
              have KB9 := KB8.on bz9
              clear KB8 bz9
              rw [zX.out]
              have zY : Hid (szE Y true = szU Y Y.length) := if_pos rfl
              go_wp2_with fail
              with_reducible refine (implSpanSize _ _ _ _ KB9.y ly2 true ⟨fun _ => LW.out.oy, fun _ => rfl⟩).mono ?_
              rintro e wz10 ⟨rfl, bz10⟩
              have KB10 := KB9.on bz10
              clear KB9 bz10
              rw [zY.out]
              have zS : Hid (szE ss true = szU ss ss.length) := if_pos rfl
              have zb1 := szU_bd X (fun i hi => (LW.out.ox.2 i hi).1) _ (Nat.le_refl _)
              have zb2 := szU_bd Y (fun i hi => (LW.out.oy.2 i hi).1) _ (Nat.le_refl _)
              have zs := LW.out.sz
              have g1 := IntWalk.i64_in (szU X X.length + szU Y Y.length) (by have := LW.out.ox.1; have := LW.out.oy.1; omega)
              go_wp2_with fail
              with_reducible refine (implSpanSize _ _ _ _ KB10.a l2 true ⟨fun _ => LW.out.oa, fun _ => rfl⟩).mono ?_
              rintro e wz11 ⟨rfl, bz11⟩
              have KB11 := KB10.on bz11
              clear KB10 bz11
              rw [zS.out]
              generalize szU X X.length = Z1 at *
              generalize szU Y Y.length = Z2 at *
              generalize szU ss ss.length = Z3 at *
              subst zs
              go_wp2_with fail
              with_reducible refine (implSpansBoth _ _ _ _ _ _ _ KB11.b KB11.a k2 l2 true true ⟨fun _ => LW.out.ob, fun _ => rfl⟩ ⟨fun _ => LW.out.oa, fun _ => rfl⟩).mono ?_
              rintro e wy ⟨⟨vy, rfl, Oy⟩, by1⟩
              rw [eZ.out, LW.out.co] at Oy
              obtain ⟨fa, fc, rfl⟩ := Oy.shape0
              have KY := KB11.on by1
              clear KB11 by1
              go_wp2_with fail
              with_reducible refine (lawEpSpans _ _ _ _ _ _ _ Oy.isT.1 KY.x lx2 lx2 true (decide_eq_true rfl)).mono ?_
              rintro e wx ⟨rfl, bx⟩
              have BX := bstep KY.bel bx
              clear KY Oy bx
              go_wp2
              go_ret
              exact ⟨by first | rfl | (simp; done), BX⟩
end Go.Proofs.Ytkbgbccehijckaa
