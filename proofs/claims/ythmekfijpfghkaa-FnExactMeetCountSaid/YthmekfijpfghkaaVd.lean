/- The exact laws' own helpers over events: held against each other. -/
import Derived.Test.YthmekfijpfghkaaVb
namespace Go.Proofs.Ythmekfijpfghkaa
open Go.RowKit
set_option linter.unusedVariables false
set_option maxRecDepth 100000 in
set_option maxHeartbeats 8000000 in
theorem lawEqEvent (e : Ev) (m n : Em) (w : World) (hm : EMem w e m) (hn : EMem w e n) (hs : ESmall e) :
    Calls Try.prog 30 #[.agg #[.string e.id, .string e.ti, .string e.zn, .int .i64 e.st, .int .i64 e.lo, .int .i64 e.r.f, .int .i64 e.r.ev, .int .i64 e.r.ct, .int .i64 e.r.un, .slice m.r.a0 e.r.ds.length m.r.c0, .slice m.r.a1 e.r.da.length m.r.c1, .slice m.r.a2 e.r.mo.length m.r.c2, .slice m.r.a3 e.r.pl.length m.r.c3, .int .i64 e.r.wk, .slice m.ao e.ou.length m.co, .slice m.av e.ov.length m.cv], .agg #[.string e.id, .string e.ti, .string e.zn, .int .i64 e.st, .int .i64 e.lo, .int .i64 e.r.f, .int .i64 e.r.ev, .int .i64 e.r.ct, .int .i64 e.r.un, .slice n.r.a0 e.r.ds.length n.r.c0, .slice n.r.a1 e.r.da.length n.r.c1, .slice n.r.a2 e.r.mo.length n.r.c2, .slice n.r.a3 e.r.pl.length n.r.c3, .int .i64 e.r.wk, .slice n.ao e.ou.length n.co, .slice n.av e.ov.length n.cv]] w fun z w' => z = .returned (.bool true) ∧ Below w.heap.size w w' := by
  obtain ⟨⟨z0, z1, z2, z3, z4, z5, z6, z7⟩, zo, zt⟩ := hs
  have hb0 : Below w.heap.size w (((w).alloc (.cells #[.string e.id, .string e.ti, .string e.zn, .int .i64 e.st, .int .i64 e.lo, .int .i64 e.r.f, .int .i64 e.r.ev, .int .i64 e.r.ct, .int .i64 e.r.un, .slice m.r.a0 e.r.ds.length m.r.c0, .slice m.r.a1 e.r.da.length m.r.c1, .slice m.r.a2 e.r.mo.length m.r.c2, .slice m.r.a3 e.r.pl.length m.r.c3, .int .i64 e.r.wk, .slice m.ao e.ou.length m.co, .slice m.av e.ov.length m.cv] 39)).alloc (.cells #[.string e.id, .string e.ti, .string e.zn, .int .i64 e.st, .int .i64 e.lo, .int .i64 e.r.f, .int .i64 e.r.ev, .int .i64 e.r.ct, .int .i64 e.r.un, .slice n.r.a0 e.r.ds.length n.r.c0, .slice n.r.a1 e.r.da.length n.r.c1, .slice n.r.a2 e.r.mo.length n.r.c2, .slice n.r.a3 e.r.pl.length n.r.c3, .int .i64 e.r.wk, .slice n.ao e.ou.length n.co, .slice n.av e.ov.length n.cv] 39)) := ((Below.refl _ _).alloc (Nat.le_refl _) _).alloc (by simp) _
  have C0 : CF (((w).alloc (.cells #[.string e.id, .string e.ti, .string e.zn, .int .i64 e.st, .int .i64 e.lo, .int .i64 e.r.f, .int .i64 e.r.ev, .int .i64 e.r.ct, .int .i64 e.r.un, .slice m.r.a0 e.r.ds.length m.r.c0, .slice m.r.a1 e.r.da.length m.r.c1, .slice m.r.a2 e.r.mo.length m.r.c2, .slice m.r.a3 e.r.pl.length m.r.c3, .int .i64 e.r.wk, .slice m.ao e.ou.length m.co, .slice m.av e.ov.length m.cv] 39)).alloc (.cells #[.string e.id, .string e.ti, .string e.zn, .int .i64 e.st, .int .i64 e.lo, .int .i64 e.r.f, .int .i64 e.r.ev, .int .i64 e.r.ct, .int .i64 e.r.un, .slice n.r.a0 e.r.ds.length n.r.c0, .slice n.r.a1 e.r.da.length n.r.c1, .slice n.r.a2 e.r.mo.length n.r.c2, .slice n.r.a3 e.r.pl.length n.r.c3, .int .i64 e.r.wk, .slice n.ao e.ou.length n.co, .slice n.av e.ov.length n.cv] 39)) w.heap.size #[.string e.id, .string e.ti, .string e.zn, .int .i64 e.st, .int .i64 e.lo, .int .i64 e.r.f, .int .i64 e.r.ev, .int .i64 e.r.ct, .int .i64 e.r.un, .slice m.r.a0 e.r.ds.length m.r.c0, .slice m.r.a1 e.r.da.length m.r.c1, .slice m.r.a2 e.r.mo.length m.r.c2, .slice m.r.a3 e.r.pl.length m.r.c3, .int .i64 e.r.wk, .slice m.ao e.ou.length m.co, .slice m.av e.ov.length m.cv] := (CF.new w _ _).past _
  have D0 : CF (((w).alloc (.cells #[.string e.id, .string e.ti, .string e.zn, .int .i64 e.st, .int .i64 e.lo, .int .i64 e.r.f, .int .i64 e.r.ev, .int .i64 e.r.ct, .int .i64 e.r.un, .slice m.r.a0 e.r.ds.length m.r.c0, .slice m.r.a1 e.r.da.length m.r.c1, .slice m.r.a2 e.r.mo.length m.r.c2, .slice m.r.a3 e.r.pl.length m.r.c3, .int .i64 e.r.wk, .slice m.ao e.ou.length m.co, .slice m.av e.ov.length m.cv] 39)).alloc (.cells #[.string e.id, .string e.ti, .string e.zn, .int .i64 e.st, .int .i64 e.lo, .int .i64 e.r.f, .int .i64 e.r.ev, .int .i64 e.r.ct, .int .i64 e.r.un, .slice n.r.a0 e.r.ds.length n.r.c0, .slice n.r.a1 e.r.da.length n.r.c1, .slice n.r.a2 e.r.mo.length n.r.c2, .slice n.r.a3 e.r.pl.length n.r.c3, .int .i64 e.r.wk, .slice n.ao e.ou.length n.co, .slice n.av e.ov.length n.cv] 39)) (w.heap.size + 1) #[.string e.id, .string e.ti, .string e.zn, .int .i64 e.st, .int .i64 e.lo, .int .i64 e.r.f, .int .i64 e.r.ev, .int .i64 e.r.ct, .int .i64 e.r.un, .slice n.r.a0 e.r.ds.length n.r.c0, .slice n.r.a1 e.r.da.length n.r.c1, .slice n.r.a2 e.r.mo.length n.r.c2, .slice n.r.a3 e.r.pl.length n.r.c3, .int .i64 e.r.wk, .slice n.ao e.ou.length n.co, .slice n.av e.ov.length n.cv] := by
    have := CF.new ((w).alloc (.cells #[.string e.id, .string e.ti, .string e.zn, .int .i64 e.st, .int .i64 e.lo, .int .i64 e.r.f, .int .i64 e.r.ev, .int .i64 e.r.ct, .int .i64 e.r.un, .slice m.r.a0 e.r.ds.length m.r.c0, .slice m.r.a1 e.r.da.length m.r.c1, .slice m.r.a2 e.r.mo.length m.r.c2, .slice m.r.a3 e.r.pl.length m.r.c3, .int .i64 e.r.wk, .slice m.ao e.ou.length m.co, .slice m.av e.ov.length m.cv] 39)) #[.string e.id, .string e.ti, .string e.zn, .int .i64 e.st, .int .i64 e.lo, .int .i64 e.r.f, .int .i64 e.r.ev, .int .i64 e.r.ct, .int .i64 e.r.un, .slice n.r.a0 e.r.ds.length n.r.c0, .slice n.r.a1 e.r.da.length n.r.c1, .slice n.r.a2 e.r.mo.length n.r.c2, .slice n.r.a3 e.r.pl.length n.r.c3, .int .i64 e.r.wk, .slice n.ao e.ou.length n.co, .slice n.av e.ov.length n.cv] 39
    simpa using this
  have M0 := hm.below hb0
  have N0 := hn.below hb0
  go_enter Try.func30, Try.ntmps30
  go_wp2_with fail
  generalize ((w).alloc (.cells #[.string e.id, .string e.ti, .string e.zn, .int .i64 e.st, .int .i64 e.lo, .int .i64 e.r.f, .int .i64 e.r.ev, .int .i64 e.r.ct, .int .i64 e.r.un, .slice m.r.a0 e.r.ds.length m.r.c0, .slice m.r.a1 e.r.da.length m.r.c1, .slice m.r.a2 e.r.mo.length m.r.c2, .slice m.r.a3 e.r.pl.length m.r.c3, .int .i64 e.r.wk, .slice m.ao e.ou.length m.co, .slice m.av e.ov.length m.cv] 39)).alloc (.cells #[.string e.id, .string e.ti, .string e.zn, .int .i64 e.st, .int .i64 e.lo, .int .i64 e.r.f, .int .i64 e.r.ev, .int .i64 e.r.ct, .int .i64 e.r.un, .slice n.r.a0 e.r.ds.length n.r.c0, .slice n.r.a1 e.r.da.length n.r.c1, .slice n.r.a2 e.r.mo.length n.r.c2, .slice n.r.a3 e.r.pl.length n.r.c3, .int .i64 e.r.wk, .slice n.ao e.ou.length n.co, .slice n.av e.ov.length n.cv] 39) = W at hb0 C0 D0 M0 N0 ⊢
  refine (lawEqRule _ _ _ _ _ _ e.r.ds _ _ e.r.da _ _ e.r.mo _ _ e.r.pl _ _ _ _ _ _ _ _ _ W M0.r.t M0.r.d M0.r.o M0.r.p N0.r.t N0.r.d N0.r.o N0.r.p (by omega) (by omega) (by omega) (by omega)).mono ?_
  rintro z w1 ⟨rfl, b1⟩
  have C1 := C0.below b1
  have D1 := D0.below b1
  have M1 := M0.below b1
  have N1 := N0.below b1
  have B1 := hb0.trans (b1.mono hb0.size)
  have x14 := (C1.2 14 _ rfl).1
  have x15 := (C1.2 15 _ rfl).1
  have y14 := (D1.2 14 _ rfl).1
  have y15 := (D1.2 15 _ rfl).1
  clear b1 C0 D0 M0 N0 hb0
  go_wp2_with fail
  refine (lawEqInts _ _ _ _ e.ou w1 M1.o N1.o (by omega)).mono ?_
  rintro z w2 ⟨rfl, b2⟩
  have C2 := C1.below b2
  have D2 := D1.below b2
  have M2 := M1.below b2
  have N2 := N1.below b2
  have B2 := B1.trans (b2.mono B1.size)
  clear b2 C1 D1 M1 N1 B1 x14 x15 y14 y15
  have x15 := (C2.2 15 _ rfl).1
  have y15 := (D2.2 15 _ rfl).1
  go_wp2_with fail
  refine (lawEqOvers _ _ _ _ e.ov w2 M2.v N2.v (by omega)).mono ?_
  rintro z w3 ⟨rfl, b3⟩
  have B3 := B2.trans (b3.mono B2.size)
  go_wp2
  go_ret
  exact ⟨rfl, B3⟩
end Go.Proofs.Ythmekfijpfghkaa
