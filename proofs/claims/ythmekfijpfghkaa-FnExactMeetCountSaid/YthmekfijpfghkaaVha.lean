/- Meetings held against each other. -/
import Derived.Test.YthmekfijpfghkaaVhb
namespace Go.Proofs.Ythmekfijpfghkaa
open Go.RowKit
set_option linter.unusedVariables false
set_option maxRecDepth 100000 in
set_option maxHeartbeats 8000000 in
theorem lawEqMeet (q : Mt) (n k : Mm) (w : World) (hm : MMem w q n) (hn : MMem w q k) (hs : MSmall q) :
    Calls Try.prog 12 #[.agg #[.string q.e.id, .string q.e.ti, .string q.e.zn, .int .i64 q.e.st, .int .i64 q.e.lo, .int .i64 q.e.r.f, .int .i64 q.e.r.ev, .int .i64 q.e.r.ct, .int .i64 q.e.r.un, .slice n.m.r.a0 q.e.r.ds.length n.m.r.c0, .slice n.m.r.a1 q.e.r.da.length n.m.r.c1, .slice n.m.r.a2 q.e.r.mo.length n.m.r.c2, .slice n.m.r.a3 q.e.r.pl.length n.m.r.c3, .int .i64 q.e.r.wk, .slice n.m.ao q.e.ou.length n.m.co, .slice n.m.av q.e.ov.length n.m.cv, .string q.ho, .slice n.ag q.gu.length n.cg, .int .i64 q.sq, .bool q.of], .agg #[.string q.e.id, .string q.e.ti, .string q.e.zn, .int .i64 q.e.st, .int .i64 q.e.lo, .int .i64 q.e.r.f, .int .i64 q.e.r.ev, .int .i64 q.e.r.ct, .int .i64 q.e.r.un, .slice k.m.r.a0 q.e.r.ds.length k.m.r.c0, .slice k.m.r.a1 q.e.r.da.length k.m.r.c1, .slice k.m.r.a2 q.e.r.mo.length k.m.r.c2, .slice k.m.r.a3 q.e.r.pl.length k.m.r.c3, .int .i64 q.e.r.wk, .slice k.m.ao q.e.ou.length k.m.co, .slice k.m.av q.e.ov.length k.m.cv, .string q.ho, .slice k.ag q.gu.length k.cg, .int .i64 q.sq, .bool q.of]] w fun z w' => z = .returned (.bool true) ∧ Below w.heap.size w w' := by
  obtain ⟨he, hh, hg⟩ := hs
  have hb0 : Below w.heap.size w (((w).alloc (.cells #[.string q.e.id, .string q.e.ti, .string q.e.zn, .int .i64 q.e.st, .int .i64 q.e.lo, .int .i64 q.e.r.f, .int .i64 q.e.r.ev, .int .i64 q.e.r.ct, .int .i64 q.e.r.un, .slice n.m.r.a0 q.e.r.ds.length n.m.r.c0, .slice n.m.r.a1 q.e.r.da.length n.m.r.c1, .slice n.m.r.a2 q.e.r.mo.length n.m.r.c2, .slice n.m.r.a3 q.e.r.pl.length n.m.r.c3, .int .i64 q.e.r.wk, .slice n.m.ao q.e.ou.length n.m.co, .slice n.m.av q.e.ov.length n.m.cv, .string q.ho, .slice n.ag q.gu.length n.cg, .int .i64 q.sq, .bool q.of] 42)).alloc (.cells #[.string q.e.id, .string q.e.ti, .string q.e.zn, .int .i64 q.e.st, .int .i64 q.e.lo, .int .i64 q.e.r.f, .int .i64 q.e.r.ev, .int .i64 q.e.r.ct, .int .i64 q.e.r.un, .slice k.m.r.a0 q.e.r.ds.length k.m.r.c0, .slice k.m.r.a1 q.e.r.da.length k.m.r.c1, .slice k.m.r.a2 q.e.r.mo.length k.m.r.c2, .slice k.m.r.a3 q.e.r.pl.length k.m.r.c3, .int .i64 q.e.r.wk, .slice k.m.ao q.e.ou.length k.m.co, .slice k.m.av q.e.ov.length k.m.cv, .string q.ho, .slice k.ag q.gu.length k.cg, .int .i64 q.sq, .bool q.of] 42)) := ((Below.refl _ _).alloc (Nat.le_refl _) _).alloc (by simp) _
  have C0 : CF (((w).alloc (.cells #[.string q.e.id, .string q.e.ti, .string q.e.zn, .int .i64 q.e.st, .int .i64 q.e.lo, .int .i64 q.e.r.f, .int .i64 q.e.r.ev, .int .i64 q.e.r.ct, .int .i64 q.e.r.un, .slice n.m.r.a0 q.e.r.ds.length n.m.r.c0, .slice n.m.r.a1 q.e.r.da.length n.m.r.c1, .slice n.m.r.a2 q.e.r.mo.length n.m.r.c2, .slice n.m.r.a3 q.e.r.pl.length n.m.r.c3, .int .i64 q.e.r.wk, .slice n.m.ao q.e.ou.length n.m.co, .slice n.m.av q.e.ov.length n.m.cv, .string q.ho, .slice n.ag q.gu.length n.cg, .int .i64 q.sq, .bool q.of] 42)).alloc (.cells #[.string q.e.id, .string q.e.ti, .string q.e.zn, .int .i64 q.e.st, .int .i64 q.e.lo, .int .i64 q.e.r.f, .int .i64 q.e.r.ev, .int .i64 q.e.r.ct, .int .i64 q.e.r.un, .slice k.m.r.a0 q.e.r.ds.length k.m.r.c0, .slice k.m.r.a1 q.e.r.da.length k.m.r.c1, .slice k.m.r.a2 q.e.r.mo.length k.m.r.c2, .slice k.m.r.a3 q.e.r.pl.length k.m.r.c3, .int .i64 q.e.r.wk, .slice k.m.ao q.e.ou.length k.m.co, .slice k.m.av q.e.ov.length k.m.cv, .string q.ho, .slice k.ag q.gu.length k.cg, .int .i64 q.sq, .bool q.of] 42)) w.heap.size #[.string q.e.id, .string q.e.ti, .string q.e.zn, .int .i64 q.e.st, .int .i64 q.e.lo, .int .i64 q.e.r.f, .int .i64 q.e.r.ev, .int .i64 q.e.r.ct, .int .i64 q.e.r.un, .slice n.m.r.a0 q.e.r.ds.length n.m.r.c0, .slice n.m.r.a1 q.e.r.da.length n.m.r.c1, .slice n.m.r.a2 q.e.r.mo.length n.m.r.c2, .slice n.m.r.a3 q.e.r.pl.length n.m.r.c3, .int .i64 q.e.r.wk, .slice n.m.ao q.e.ou.length n.m.co, .slice n.m.av q.e.ov.length n.m.cv, .string q.ho, .slice n.ag q.gu.length n.cg, .int .i64 q.sq, .bool q.of] := (CF.new w _ _).past _
  have D0 : CF (((w).alloc (.cells #[.string q.e.id, .string q.e.ti, .string q.e.zn, .int .i64 q.e.st, .int .i64 q.e.lo, .int .i64 q.e.r.f, .int .i64 q.e.r.ev, .int .i64 q.e.r.ct, .int .i64 q.e.r.un, .slice n.m.r.a0 q.e.r.ds.length n.m.r.c0, .slice n.m.r.a1 q.e.r.da.length n.m.r.c1, .slice n.m.r.a2 q.e.r.mo.length n.m.r.c2, .slice n.m.r.a3 q.e.r.pl.length n.m.r.c3, .int .i64 q.e.r.wk, .slice n.m.ao q.e.ou.length n.m.co, .slice n.m.av q.e.ov.length n.m.cv, .string q.ho, .slice n.ag q.gu.length n.cg, .int .i64 q.sq, .bool q.of] 42)).alloc (.cells #[.string q.e.id, .string q.e.ti, .string q.e.zn, .int .i64 q.e.st, .int .i64 q.e.lo, .int .i64 q.e.r.f, .int .i64 q.e.r.ev, .int .i64 q.e.r.ct, .int .i64 q.e.r.un, .slice k.m.r.a0 q.e.r.ds.length k.m.r.c0, .slice k.m.r.a1 q.e.r.da.length k.m.r.c1, .slice k.m.r.a2 q.e.r.mo.length k.m.r.c2, .slice k.m.r.a3 q.e.r.pl.length k.m.r.c3, .int .i64 q.e.r.wk, .slice k.m.ao q.e.ou.length k.m.co, .slice k.m.av q.e.ov.length k.m.cv, .string q.ho, .slice k.ag q.gu.length k.cg, .int .i64 q.sq, .bool q.of] 42)) (w.heap.size + 1) #[.string q.e.id, .string q.e.ti, .string q.e.zn, .int .i64 q.e.st, .int .i64 q.e.lo, .int .i64 q.e.r.f, .int .i64 q.e.r.ev, .int .i64 q.e.r.ct, .int .i64 q.e.r.un, .slice k.m.r.a0 q.e.r.ds.length k.m.r.c0, .slice k.m.r.a1 q.e.r.da.length k.m.r.c1, .slice k.m.r.a2 q.e.r.mo.length k.m.r.c2, .slice k.m.r.a3 q.e.r.pl.length k.m.r.c3, .int .i64 q.e.r.wk, .slice k.m.ao q.e.ou.length k.m.co, .slice k.m.av q.e.ov.length k.m.cv, .string q.ho, .slice k.ag q.gu.length k.cg, .int .i64 q.sq, .bool q.of] := by
    have := CF.new ((w).alloc (.cells #[.string q.e.id, .string q.e.ti, .string q.e.zn, .int .i64 q.e.st, .int .i64 q.e.lo, .int .i64 q.e.r.f, .int .i64 q.e.r.ev, .int .i64 q.e.r.ct, .int .i64 q.e.r.un, .slice n.m.r.a0 q.e.r.ds.length n.m.r.c0, .slice n.m.r.a1 q.e.r.da.length n.m.r.c1, .slice n.m.r.a2 q.e.r.mo.length n.m.r.c2, .slice n.m.r.a3 q.e.r.pl.length n.m.r.c3, .int .i64 q.e.r.wk, .slice n.m.ao q.e.ou.length n.m.co, .slice n.m.av q.e.ov.length n.m.cv, .string q.ho, .slice n.ag q.gu.length n.cg, .int .i64 q.sq, .bool q.of] 42)) #[.string q.e.id, .string q.e.ti, .string q.e.zn, .int .i64 q.e.st, .int .i64 q.e.lo, .int .i64 q.e.r.f, .int .i64 q.e.r.ev, .int .i64 q.e.r.ct, .int .i64 q.e.r.un, .slice k.m.r.a0 q.e.r.ds.length k.m.r.c0, .slice k.m.r.a1 q.e.r.da.length k.m.r.c1, .slice k.m.r.a2 q.e.r.mo.length k.m.r.c2, .slice k.m.r.a3 q.e.r.pl.length k.m.r.c3, .int .i64 q.e.r.wk, .slice k.m.ao q.e.ou.length k.m.co, .slice k.m.av q.e.ov.length k.m.cv, .string q.ho, .slice k.ag q.gu.length k.cg, .int .i64 q.sq, .bool q.of] 42
    simpa using this
  have M0 := hm.below hb0
  have N0 := hn.below hb0
  go_enter Try.func12, Try.ntmps12
  go_wp2_with fail
  as_aux_lemma =>
    generalize ((w).alloc (.cells #[.string q.e.id, .string q.e.ti, .string q.e.zn, .int .i64 q.e.st, .int .i64 q.e.lo, .int .i64 q.e.r.f, .int .i64 q.e.r.ev, .int .i64 q.e.r.ct, .int .i64 q.e.r.un, .slice n.m.r.a0 q.e.r.ds.length n.m.r.c0, .slice n.m.r.a1 q.e.r.da.length n.m.r.c1, .slice n.m.r.a2 q.e.r.mo.length n.m.r.c2, .slice n.m.r.a3 q.e.r.pl.length n.m.r.c3, .int .i64 q.e.r.wk, .slice n.m.ao q.e.ou.length n.m.co, .slice n.m.av q.e.ov.length n.m.cv, .string q.ho, .slice n.ag q.gu.length n.cg, .int .i64 q.sq, .bool q.of] 42)).alloc (.cells #[.string q.e.id, .string q.e.ti, .string q.e.zn, .int .i64 q.e.st, .int .i64 q.e.lo, .int .i64 q.e.r.f, .int .i64 q.e.r.ev, .int .i64 q.e.r.ct, .int .i64 q.e.r.un, .slice k.m.r.a0 q.e.r.ds.length k.m.r.c0, .slice k.m.r.a1 q.e.r.da.length k.m.r.c1, .slice k.m.r.a2 q.e.r.mo.length k.m.r.c2, .slice k.m.r.a3 q.e.r.pl.length k.m.r.c3, .int .i64 q.e.r.wk, .slice k.m.ao q.e.ou.length k.m.co, .slice k.m.av q.e.ov.length k.m.cv, .string q.ho, .slice k.ag q.gu.length k.cg, .int .i64 q.sq, .bool q.of] 42) = W at hb0 C0 D0 M0 N0 ⊢
    refine (lawEqEvent q.e n.m k.m W M0.e N0.e he).mono ?_
    rintro z w1 ⟨rfl, b1⟩
    have C1 := C0.below b1
    have D1 := D0.below b1
    have M1 := M0.below b1
    have N1 := N0.below b1
    have B1 := hb0.trans (b1.mono hb0.size)
    have x16 := (C1.2 16 _ rfl).1
    have y16 := (D1.2 16 _ rfl).1
    have x17 := (C1.2 17 _ rfl).1
    have y17 := (D1.2 17 _ rfl).1
    have x18 := (C1.2 18 _ rfl).1
    have y18 := (D1.2 18 _ rfl).1
    have x19 := (C1.2 19 _ rfl).1
    have y19 := (D1.2 19 _ rfl).1
    clear b1 C0 D0 M0 N0 hb0
    as_aux_lemma =>
      go_wp2_with fail
      as_aux_lemma =>
        refine (lawEqGuests _ _ _ _ q.gu w1 M1.g N1.g (by have := hg.1; omega)).mono ?_
        rintro z w2 ⟨rfl, b2⟩
        have C2 := C1.below b2
        have D2 := D1.below b2
        have B2 := B1.trans (b2.mono B1.size)
        clear b2 C1 D1 M1 N1 B1 x16 x17 x18 x19 y16 y17 y18 y19
        have x18 := (C2.2 18 _ rfl).1
        have y18 := (D2.2 18 _ rfl).1
        have x19 := (C2.2 19 _ rfl).1
        have y19 := (D2.2 19 _ rfl).1
        as_aux_lemma =>
          go_wp2
          go_ret
          exact ⟨rfl, B2⟩
end Go.Proofs.Ythmekfijpfghkaa
