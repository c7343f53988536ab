/- FnExactEventComes: the law's own walk. -/
import Derived.Test.YtjncaeealmmhmaaDoorJVf
import Derived.Test.YtjncaeealmmhmaaDoorJVd
namespace Go.Proofs.YtjncaeealmmhmaaDoor
open Go.RowKit
set_option linter.unusedVariables false
/-- An event's cells at two places, and what they lead to. -/
structure EKS (w : World) (b b' : Nat) (e : Ev) (m n : Em) (W : World) : Prop where
  c : CF W b #[.string e.id, .string e.ti, .string e.zn, .int .i64 e.st, .int .i64 e.lo, .int .i64 e.r.f, .int .i64 e.r.ev, .int .i64 e.r.ct, .int .i64 e.r.un, .slice m.r.a0 e.r.ds.length m.r.c0, .slice m.r.a1 e.r.da.length m.r.c1, .slice m.r.a2 e.r.mo.length m.r.c2, .slice m.r.a3 e.r.pl.length m.r.c3, .int .i64 e.r.wk, .slice m.ao e.ou.length m.co, .slice m.av e.ov.length m.cv]
  d : CF W b' #[.string e.id, .string e.ti, .string e.zn, .int .i64 e.st, .int .i64 e.lo, .int .i64 e.r.f, .int .i64 e.r.ev, .int .i64 e.r.ct, .int .i64 e.r.un, .slice n.r.a0 e.r.ds.length n.r.c0, .slice n.r.a1 e.r.da.length n.r.c1, .slice n.r.a2 e.r.mo.length n.r.c2, .slice n.r.a3 e.r.pl.length n.r.c3, .int .i64 e.r.wk, .slice n.ao e.ou.length n.co, .slice n.av e.ov.length n.cv]
  hm : EMem W e m
  hn : EMem W e n
  hb : Below w.heap.size w W
theorem EKS.on {w W W' : World} {b b' : Nat} {e : Ev} {m n : Em} (h : EKS w b b' e m n W) (hb : Below W.heap.size W W') : EKS w b b' e m n W' :=
  ⟨h.c.below hb, h.d.below hb, h.hm.below hb, h.hn.below hb, bstep h.hb hb⟩
set_option maxRecDepth 100000 in
set_option maxHeartbeats 16000000 in
theorem lawExEventComes (e : Ev) (m : Em) (a : Int) (w : World) (hm : EMem w e m) (hw : EWide e) (hx : (Lit.int .i64 a).wf = true) (ht : Tab w) :
    Calls Tryd.prog 5 #[.agg #[.string e.id, .string e.ti, .string e.zn, .int .i64 e.st, .int .i64 e.lo, .int .i64 e.r.f, .int .i64 e.r.ev, .int .i64 e.r.ct, .int .i64 e.r.un, .slice m.r.a0 e.r.ds.length m.r.c0, .slice m.r.a1 e.r.da.length m.r.c1, .slice m.r.a2 e.r.mo.length m.r.c2, .slice m.r.a3 e.r.pl.length m.r.c3, .int .i64 e.r.wk, .slice m.ao e.ou.length m.co, .slice m.av e.ov.length m.cv], .int .i64 a] w fun z w' => z = .returned (.bool true) ∧ Below w.heap.size w w' := by
  have ha : a ≤ 9223372036854775807 := by
    unfold Lit.wf at hx
    rw [Bool.and_eq_true] at hx
    have h2 : a ≤ IntKind.i64.max := of_decide_eq_true hx.2
    have e2 : IntKind.i64.max = 9223372036854775807 := by decide
    omega
  clear hx
  obtain ⟨W0, hW0⟩ : ∃ W0, W0 = w.alloc (.cells #[.string e.id, .string e.ti, .string e.zn, .int .i64 e.st, .int .i64 e.lo, .int .i64 e.r.f, .int .i64 e.r.ev, .int .i64 e.r.ct, .int .i64 e.r.un, .slice m.r.a0 e.r.ds.length m.r.c0, .slice m.r.a1 e.r.da.length m.r.c1, .slice m.r.a2 e.r.mo.length m.r.c2, .slice m.r.a3 e.r.pl.length m.r.c3, .int .i64 e.r.wk, .slice m.ao e.ou.length m.co, .slice m.av e.ov.length m.cv] 40) := ⟨_, rfl⟩
  have hb0 : Below w.heap.size w W0 := by rw [hW0]; exact (Below.refl _ w).alloc (Nat.le_refl _) _
  have HW0 : Hid (W0 = w.alloc (.cells #[.string e.id, .string e.ti, .string e.zn, .int .i64 e.st, .int .i64 e.lo, .int .i64 e.r.f, .int .i64 e.r.ev, .int .i64 e.r.ct, .int .i64 e.r.un, .slice m.r.a0 e.r.ds.length m.r.c0, .slice m.r.a1 e.r.da.length m.r.c1, .slice m.r.a2 e.r.mo.length m.r.c2, .slice m.r.a3 e.r.pl.length m.r.c3, .int .i64 e.r.wk, .slice m.ao e.ou.length m.co, .slice m.av e.ov.length m.cv] 40)) := hW0
  have HC0 : Hid (CF W0 w.heap.size #[.string e.id, .string e.ti, .string e.zn, .int .i64 e.st, .int .i64 e.lo, .int .i64 e.r.f, .int .i64 e.r.ev, .int .i64 e.r.ct, .int .i64 e.r.un, .slice m.r.a0 e.r.ds.length m.r.c0, .slice m.r.a1 e.r.da.length m.r.c1, .slice m.r.a2 e.r.mo.length m.r.c2, .slice m.r.a3 e.r.pl.length m.r.c3, .int .i64 e.r.wk, .slice m.ao e.ou.length m.co, .slice m.av e.ov.length m.cv]) := by unfold Hid; rw [hW0]; exact CF.new _ _ _
  have HB0 : Hid (Below w.heap.size w W0) := hb0
  have HM0 : Hid (EMem W0 e m) := hm.below hb0
  have HT : Hid (Tab w) := ht
  clear hW0 hb0 hm ht
  go_enter Tryd.func5, Tryd.ntmps5
  go_wp2_with fail
  rw [← HW0.out]
  refine (lawSzEvent e m _ W0 HM0.out hw (by omega) (by omega)).mono ?_
  rintro z w1 ⟨⟨l, rfl, l0, l1, hsm⟩, b1⟩
  have HB1 : Hid (Below W0.heap.size W0 w1) := b1
  by_cases hl : 0 ≤ l
  · have HS : Hid (ESmall e) := hsm hl
    have hl2 : ¬ l < 0 := by omega
    have C1 := HC0.out.below b1
    have x0 := (C1.2 0 _ rfl).1
    have x1 := (C1.2 1 _ rfl).1
    have x2 := (C1.2 2 _ rfl).1
    have x3 := (C1.2 3 _ rfl).1
    have x4 := (C1.2 4 _ rfl).1
    have x5 := (C1.2 5 _ rfl).1
    have x6 := (C1.2 6 _ rfl).1
    have x7 := (C1.2 7 _ rfl).1
    have x8 := (C1.2 8 _ rfl).1
    have x9 := (C1.2 9 _ rfl).1
    have x10 := (C1.2 10 _ rfl).1
    have x11 := (C1.2 11 _ rfl).1
    have x12 := (C1.2 12 _ rfl).1
    have x13 := (C1.2 13 _ rfl).1
    have x14 := (C1.2 14 _ rfl).1
    have x15 := (C1.2 15 _ rfl).1
    have zs := HS.out
    obtain ⟨⟨_, _, _, s0, s1, s2, s3, _⟩, _⟩ := zs
    have HL : Hid (e.r.ds.length ≤ 2000000 ∧ e.r.da.length ≤ 2000000 ∧ e.r.mo.length ≤ 2000000 ∧ e.r.pl.length ≤ 2000000) := ⟨by omega, by omega, by omega, by omega⟩
    clear hsm hw b1 C1 s0 s1 s2 s3
    as_aux_lemma =>
      go_wp2_with fail
      refine (lawToEvent e m w1 (HM0.out.below HB1.out) HS.out).mono ?_
      rintro z w2 ⟨n2, rfl, o2, b2⟩
      have HB2 : Hid (Below W0.heap.size W0 w2) := bstep HB1.out b2
      have ra2 : RAny w2 e.r n2.r := ⟨HL.out.1, HL.out.2.1, HL.out.2.2.1, HL.out.2.2.2, o2.mem.r, HT.out.on (HB0.out.trans (HB2.out.mono HB0.out.size))⟩
      clear o2 b2
      as_aux_lemma =>
        go_wp2_with fail
        refine (specEventComes e n2 a w2 ra2 ha).mono ?_
        rintro z w3 ⟨rfl, b3⟩
        have HB3 : Hid (Below W0.heap.size W0 w3) := bstep HB2.out b3
        have C3 := HC0.out.below HB3.out
        clear b3 ra2 x0 x1 x2 x3 x4 x5 x6 x7 x8 x9 x10 x11 x12 x13 x14 x15
        have x0 := (C3.2 0 _ rfl).1
        have x1 := (C3.2 1 _ rfl).1
        have x2 := (C3.2 2 _ rfl).1
        have x3 := (C3.2 3 _ rfl).1
        have x4 := (C3.2 4 _ rfl).1
        have x5 := (C3.2 5 _ rfl).1
        have x6 := (C3.2 6 _ rfl).1
        have x7 := (C3.2 7 _ rfl).1
        have x8 := (C3.2 8 _ rfl).1
        have x9 := (C3.2 9 _ rfl).1
        have x10 := (C3.2 10 _ rfl).1
        have x11 := (C3.2 11 _ rfl).1
        have x12 := (C3.2 12 _ rfl).1
        have x13 := (C3.2 13 _ rfl).1
        have x14 := (C3.2 14 _ rfl).1
        have x15 := (C3.2 15 _ rfl).1
        clear C3
        as_aux_lemma =>
          go_wp2_with fail
          refine (lawToEvent e m w3 (HM0.out.below HB3.out) HS.out).mono ?_
          rintro z w4 ⟨n4, rfl, o4, b4⟩
          have HB4 : Hid (Below W0.heap.size W0 w4) := bstep HB3.out b4
          obtain ⟨W5, hW5⟩ : ∃ W5, W5 = w4.alloc (.cells #[.string e.id, .string e.ti, .string e.zn, .int .i64 e.st, .int .i64 e.lo, .int .i64 e.r.f, .int .i64 e.r.ev, .int .i64 e.r.ct, .int .i64 e.r.un, .slice n4.r.a0 e.r.ds.length n4.r.c0, .slice n4.r.a1 e.r.da.length n4.r.c1, .slice n4.r.a2 e.r.mo.length n4.r.c2, .slice n4.r.a3 e.r.pl.length n4.r.c3, .int .i64 e.r.wk, .slice n4.ao e.ou.length n4.co, .slice n4.av e.ov.length n4.cv] 45) := ⟨_, rfl⟩
          have b5 : Below w4.heap.size w4 W5 := by rw [hW5]; exact (Below.refl _ _).alloc (Nat.le_refl _) _
          have HB5 : Hid (Below W0.heap.size W0 W5) := bstep HB4.out b5
          have HC5 : Hid (CF W5 w4.heap.size #[.string e.id, .string e.ti, .string e.zn, .int .i64 e.st, .int .i64 e.lo, .int .i64 e.r.f, .int .i64 e.r.ev, .int .i64 e.r.ct, .int .i64 e.r.un, .slice n4.r.a0 e.r.ds.length n4.r.c0, .slice n4.r.a1 e.r.da.length n4.r.c1, .slice n4.r.a2 e.r.mo.length n4.r.c2, .slice n4.r.a3 e.r.pl.length n4.r.c3, .int .i64 e.r.wk, .slice n4.ao e.ou.length n4.co, .slice n4.av e.ov.length n4.cv]) := by unfold Hid; rw [hW5]; exact CF.new _ _ _
          have HM5 : Hid (EMem W5 e n4) := o4.mem.below b5
          have ra5 : RAny W5 e.r n4.r := ⟨HL.out.1, HL.out.2.1, HL.out.2.2.1, HL.out.2.2.2, HM5.out.r, HT.out.on (HB0.out.trans (HB5.out.mono HB0.out.size))⟩
          have HW5 : Hid (W5 = w4.alloc (.cells #[.string e.id, .string e.ti, .string e.zn, .int .i64 e.st, .int .i64 e.lo, .int .i64 e.r.f, .int .i64 e.r.ev, .int .i64 e.r.ct, .int .i64 e.r.un, .slice n4.r.a0 e.r.ds.length n4.r.c0, .slice n4.r.a1 e.r.da.length n4.r.c1, .slice n4.r.a2 e.r.mo.length n4.r.c2, .slice n4.r.a3 e.r.pl.length n4.r.c3, .int .i64 e.r.wk, .slice n4.ao e.ou.length n4.co, .slice n4.av e.ov.length n4.cv] 45)) := hW5
          clear o4 b4 b5 hW5 x0 x1 x2 x3 x4 x5 x6 x7 x8 x9 x10 x11 x12 x13 x14 x15
          as_aux_lemma =>
            go_wp2_with fail
            rw [← HW5.out]
            refine (implEventComes e n4 a W5 ra5).mono ?_
            rintro z w6 ⟨rfl, b6⟩
            have K : EKS W0 w.heap.size w4.heap.size e m n4 w6 := ⟨HC0.out.below (bstep HB5.out b6), HC5.out.below b6, HM0.out.below (bstep HB5.out b6), HM5.out.below b6, bstep HB5.out b6⟩
            have HK : Hid (∀ W, Below w6.heap.size w6 W → EKS W0 w.heap.size w4.heap.size e m n4 W) := fun W hb => K.on hb
            have x0 := (K.c.2 0 _ rfl).1
            have x1 := (K.c.2 1 _ rfl).1
            have x2 := (K.c.2 2 _ rfl).1
            have x3 := (K.c.2 3 _ rfl).1
            have x4 := (K.c.2 4 _ rfl).1
            have x5 := (K.c.2 5 _ rfl).1
            have x6 := (K.c.2 6 _ rfl).1
            have x7 := (K.c.2 7 _ rfl).1
            have x8 := (K.c.2 8 _ rfl).1
            have x9 := (K.c.2 9 _ rfl).1
            have x10 := (K.c.2 10 _ rfl).1
            have x11 := (K.c.2 11 _ rfl).1
            have x12 := (K.c.2 12 _ rfl).1
            have x13 := (K.c.2 13 _ rfl).1
            have x14 := (K.c.2 14 _ rfl).1
            have x15 := (K.c.2 15 _ rfl).1
            have y0 := (K.d.2 0 _ rfl).1
            have y1 := (K.d.2 1 _ rfl).1
            have y2 := (K.d.2 2 _ rfl).1
            have y3 := (K.d.2 3 _ rfl).1
            have y4 := (K.d.2 4 _ rfl).1
            have y5 := (K.d.2 5 _ rfl).1
            have y6 := (K.d.2 6 _ rfl).1
            have y7 := (K.d.2 7 _ rfl).1
            have y8 := (K.d.2 8 _ rfl).1
            have y9 := (K.d.2 9 _ rfl).1
            have y10 := (K.d.2 10 _ rfl).1
            have y11 := (K.d.2 11 _ rfl).1
            have y12 := (K.d.2 12 _ rfl).1
            have y13 := (K.d.2 13 _ rfl).1
            have y14 := (K.d.2 14 _ rfl).1
            have y15 := (K.d.2 15 _ rfl).1
            clear b6 ra5 K
            as_aux_lemma =>
              go_wp2
              go_region_with (first
                | (go_at_call 19; refine (lawToEvent e m _ (HK.out _ (by first | exact (Below.refl _ _).drew | exact Below.refl _ _ | exact Below.drewN' (Below.refl _ _) _)).hm HS.out).mono ?_; rintro z y7 ⟨n7, rfl, o7, hb7⟩; have hz7 := bstep (show Below w6.heap.size w6 _ by first | exact (Below.refl _ _).drew | exact Below.refl _ _ | exact Below.drewN' (Below.refl _ _) _) hb7; have D7 := (HK.out _ hz7).d; clear hb7; have y0 := (D7.2 0 _ rfl).1; have y1 := (D7.2 1 _ rfl).1; have y2 := (D7.2 2 _ rfl).1; have y3 := (D7.2 3 _ rfl).1; have y4 := (D7.2 4 _ rfl).1; have y5 := (D7.2 5 _ rfl).1; have y6 := (D7.2 6 _ rfl).1; have y7 := (D7.2 7 _ rfl).1; have y8 := (D7.2 8 _ rfl).1; have y9 := (D7.2 9 _ rfl).1; have y10 := (D7.2 10 _ rfl).1; have y11 := (D7.2 11 _ rfl).1; have y12 := (D7.2 12 _ rfl).1; have y13 := (D7.2 13 _ rfl).1; have y14 := (D7.2 14 _ rfl).1; have y15 := (D7.2 15 _ rfl).1; clear D7)
                | (go_at_call 21; refine (lawEqEvent e n4 n7 _ (HK.out _ hz7).hn o7.mem HS.out).mono ?_; rintro z y8 ⟨rfl, hb8⟩; have hz8 := bstep hz7 hb8; clear hb8))
              all_goals (go_wp2; go_ret; exact ⟨rfl, HB0.out.trans ((HK.out _ (by assumption)).hb.mono HB0.out.size)⟩)
  · have hl2 : l < 0 := by omega
    clear hsm
    go_wp2
    go_ret
    exact ⟨rfl, HB0.out.trans (b1.mono HB0.out.size)⟩
end Go.Proofs.YtjncaeealmmhmaaDoor
