/- The exact laws' own helpers over events: a copy, its lists new, and such as may be written. -/
import Derived.Test.YthmekfijpfghkaaVb
import Derived.Test.YthmekfijpfghkaaRg
namespace Go.Proofs.Ythmekfijpfghkaa
open Go.RowKit
set_option linter.unusedVariables false
/-- An event's lists in new blocks, one behind the other, that may be written. -/
structure EOwn (w : World) (e : Ev) (m : Em) (lo : Nat) : Prop where
  mem : EMem w e m
  new : ∃ g0 g1 g2 g3 g4 g5, m = ⟨⟨some ⟨g0, 0, none⟩, e.r.ds.length, some ⟨g1, 0, none⟩, e.r.da.length, some ⟨g2, 0, none⟩, e.r.mo.length, some ⟨g3, 0, none⟩, e.r.pl.length⟩, some ⟨g4, 0, none⟩, e.ou.length, some ⟨g5, 0, none⟩, e.ov.length⟩ ∧ lo ≤ g0 ∧ g0 < g1 ∧ g1 < g2 ∧ g2 < g3 ∧ g3 < g4 ∧ g4 < g5 ∧ FT w g0 e.r.ds.length ∧ FI w g1 e.r.da.length ∧ FI w g2 e.r.mo.length ∧ FI w g3 e.r.pl.length ∧ FI w g4 e.ou.length ∧ FO w g5 e.ov.length
structure TE (w W : World) (B : Nat) (ps os rs : Array Value) : Prop where
  p : CF W B ps
  o : CF W (B + 1 + 1) os
  r : CF W (B + 1) rs
  b : Below w.heap.size w W
theorem TE.below {w W W' : World} {B : Nat} {ps os rs : Array Value} (h : TE w W B ps os rs) (hb : Below W.heap.size W W') : TE w W' B ps os rs :=
  ⟨h.p.below hb, h.o.below hb, h.r.below hb, bstep h.b hb⟩
theorem TE.set {w W : World} {B : Nat} {ps os rs : Array Value} (h : TE w W B ps os rs) (hB : w.heap.size ≤ B) (i : Nat) (v : Value) (hi : i < os.size) : TE w (W.setCell ⟨B + 1 + 1, i, none⟩ v) B ps (os.set! i v) rs :=
  ⟨h.p.other i v (by omega), h.o.set i v hi, h.r.other i v (by omega), h.b.setCell (p := ⟨B + 1 + 1, i, none⟩) (by simp; omega) _⟩
theorem TE.nine {w W : World} {B : Nat} {ps rs : Array Value} {x0 x1 x2 x3 x4 x5 x6 x7 x8 x9 x10 x11 x12 x13 x14 x15 : Value} (h : TE w W B ps #[x0, x1, x2, x3, x4, x5, x6, x7, x8, x9, x10, x11, x12, x13, x14, x15] rs) (hB : w.heap.size ≤ B) (v5 v6 v7 v8 v9 v10 v11 v12 v13 : Value) : TE w (((((((((W.setCell ⟨B + 1 + 1, 5, none⟩ v5).setCell ⟨B + 1 + 1, 6, none⟩ v6).setCell ⟨B + 1 + 1, 7, none⟩ v7).setCell ⟨B + 1 + 1, 8, none⟩ v8).setCell ⟨B + 1 + 1, 9, none⟩ v9).setCell ⟨B + 1 + 1, 10, none⟩ v10).setCell ⟨B + 1 + 1, 11, none⟩ v11).setCell ⟨B + 1 + 1, 12, none⟩ v12).setCell ⟨B + 1 + 1, 13, none⟩ v13) B ps #[x0, x1, x2, x3, x4, v5, v6, v7, v8, v9, v10, v11, v12, v13, x14, x15] rs := by
  have h5 : TE w (W.setCell ⟨B + 1 + 1, 5, none⟩ v5) B ps #[x0, x1, x2, x3, x4, v5, x6, x7, x8, x9, x10, x11, x12, x13, x14, x15] rs := h.set hB 5 v5 (by simp)
  have h6 : TE w ((W.setCell ⟨B + 1 + 1, 5, none⟩ v5).setCell ⟨B + 1 + 1, 6, none⟩ v6) B ps #[x0, x1, x2, x3, x4, v5, v6, x7, x8, x9, x10, x11, x12, x13, x14, x15] rs := h5.set hB 6 v6 (by simp)
  have h7 : TE w (((W.setCell ⟨B + 1 + 1, 5, none⟩ v5).setCell ⟨B + 1 + 1, 6, none⟩ v6).setCell ⟨B + 1 + 1, 7, none⟩ v7) B ps #[x0, x1, x2, x3, x4, v5, v6, v7, x8, x9, x10, x11, x12, x13, x14, x15] rs := h6.set hB 7 v7 (by simp)
  have h8 : TE w ((((W.setCell ⟨B + 1 + 1, 5, none⟩ v5).setCell ⟨B + 1 + 1, 6, none⟩ v6).setCell ⟨B + 1 + 1, 7, none⟩ v7).setCell ⟨B + 1 + 1, 8, none⟩ v8) B ps #[x0, x1, x2, x3, x4, v5, v6, v7, v8, x9, x10, x11, x12, x13, x14, x15] rs := h7.set hB 8 v8 (by simp)
  have h9 : TE w (((((W.setCell ⟨B + 1 + 1, 5, none⟩ v5).setCell ⟨B + 1 + 1, 6, none⟩ v6).setCell ⟨B + 1 + 1, 7, none⟩ v7).setCell ⟨B + 1 + 1, 8, none⟩ v8).setCell ⟨B + 1 + 1, 9, none⟩ v9) B ps #[x0, x1, x2, x3, x4, v5, v6, v7, v8, v9, x10, x11, x12, x13, x14, x15] rs := h8.set hB 9 v9 (by simp)
  have h10 : TE w ((((((W.setCell ⟨B + 1 + 1, 5, none⟩ v5).setCell ⟨B + 1 + 1, 6, none⟩ v6).setCell ⟨B + 1 + 1, 7, none⟩ v7).setCell ⟨B + 1 + 1, 8, none⟩ v8).setCell ⟨B + 1 + 1, 9, none⟩ v9).setCell ⟨B + 1 + 1, 10, none⟩ v10) B ps #[x0, x1, x2, x3, x4, v5, v6, v7, v8, v9, v10, x11, x12, x13, x14, x15] rs := h9.set hB 10 v10 (by simp)
  have h11 : TE w (((((((W.setCell ⟨B + 1 + 1, 5, none⟩ v5).setCell ⟨B + 1 + 1, 6, none⟩ v6).setCell ⟨B + 1 + 1, 7, none⟩ v7).setCell ⟨B + 1 + 1, 8, none⟩ v8).setCell ⟨B + 1 + 1, 9, none⟩ v9).setCell ⟨B + 1 + 1, 10, none⟩ v10).setCell ⟨B + 1 + 1, 11, none⟩ v11) B ps #[x0, x1, x2, x3, x4, v5, v6, v7, v8, v9, v10, v11, x12, x13, x14, x15] rs := h10.set hB 11 v11 (by simp)
  have h12 : TE w ((((((((W.setCell ⟨B + 1 + 1, 5, none⟩ v5).setCell ⟨B + 1 + 1, 6, none⟩ v6).setCell ⟨B + 1 + 1, 7, none⟩ v7).setCell ⟨B + 1 + 1, 8, none⟩ v8).setCell ⟨B + 1 + 1, 9, none⟩ v9).setCell ⟨B + 1 + 1, 10, none⟩ v10).setCell ⟨B + 1 + 1, 11, none⟩ v11).setCell ⟨B + 1 + 1, 12, none⟩ v12) B ps #[x0, x1, x2, x3, x4, v5, v6, v7, v8, v9, v10, v11, v12, x13, x14, x15] rs := h11.set hB 12 v12 (by simp)
  have h13 : TE w (((((((((W.setCell ⟨B + 1 + 1, 5, none⟩ v5).setCell ⟨B + 1 + 1, 6, none⟩ v6).setCell ⟨B + 1 + 1, 7, none⟩ v7).setCell ⟨B + 1 + 1, 8, none⟩ v8).setCell ⟨B + 1 + 1, 9, none⟩ v9).setCell ⟨B + 1 + 1, 10, none⟩ v10).setCell ⟨B + 1 + 1, 11, none⟩ v11).setCell ⟨B + 1 + 1, 12, none⟩ v12).setCell ⟨B + 1 + 1, 13, none⟩ v13) B ps #[x0, x1, x2, x3, x4, v5, v6, v7, v8, v9, v10, v11, v12, v13, x14, x15] rs := h12.set hB 13 v13 (by simp)
  exact h13
theorem IsTurns.nine {W : World} {b g : Nat} {l : List (Int × Int)} (h : IsTurns W (some ⟨g, 0, none⟩) l) (hb : b ≠ g) (v5 v6 v7 v8 v9 v10 v11 v12 v13 : Value) : IsTurns (((((((((W.setCell ⟨b, 5, none⟩ v5).setCell ⟨b, 6, none⟩ v6).setCell ⟨b, 7, none⟩ v7).setCell ⟨b, 8, none⟩ v8).setCell ⟨b, 9, none⟩ v9).setCell ⟨b, 10, none⟩ v10).setCell ⟨b, 11, none⟩ v11).setCell ⟨b, 12, none⟩ v12).setCell ⟨b, 13, none⟩ v13) (some ⟨g, 0, none⟩) l :=
  ((((((((h.setCell (p := ⟨b, 5, none⟩) hb v5).setCell (p := ⟨b, 6, none⟩) hb v6).setCell (p := ⟨b, 7, none⟩) hb v7).setCell (p := ⟨b, 8, none⟩) hb v8).setCell (p := ⟨b, 9, none⟩) hb v9).setCell (p := ⟨b, 10, none⟩) hb v10).setCell (p := ⟨b, 11, none⟩) hb v11).setCell (p := ⟨b, 12, none⟩) hb v12).setCell (p := ⟨b, 13, none⟩) hb v13
theorem IsInts.nine {W : World} {b g : Nat} {l : List Int} (h : IsInts W (some ⟨g, 0, none⟩) l) (hb : b ≠ g) (v5 v6 v7 v8 v9 v10 v11 v12 v13 : Value) : IsInts (((((((((W.setCell ⟨b, 5, none⟩ v5).setCell ⟨b, 6, none⟩ v6).setCell ⟨b, 7, none⟩ v7).setCell ⟨b, 8, none⟩ v8).setCell ⟨b, 9, none⟩ v9).setCell ⟨b, 10, none⟩ v10).setCell ⟨b, 11, none⟩ v11).setCell ⟨b, 12, none⟩ v12).setCell ⟨b, 13, none⟩ v13) (some ⟨g, 0, none⟩) l :=
  ((((((((h.setCell (p := ⟨b, 5, none⟩) hb v5).setCell (p := ⟨b, 6, none⟩) hb v6).setCell (p := ⟨b, 7, none⟩) hb v7).setCell (p := ⟨b, 8, none⟩) hb v8).setCell (p := ⟨b, 9, none⟩) hb v9).setCell (p := ⟨b, 10, none⟩) hb v10).setCell (p := ⟨b, 11, none⟩) hb v11).setCell (p := ⟨b, 12, none⟩) hb v12).setCell (p := ⟨b, 13, none⟩) hb v13
theorem FT.nine {W : World} {b g n : Nat} (h : FT W g n) (v5 v6 v7 v8 v9 v10 v11 v12 v13 : Value) : FT (((((((((W.setCell ⟨b, 5, none⟩ v5).setCell ⟨b, 6, none⟩ v6).setCell ⟨b, 7, none⟩ v7).setCell ⟨b, 8, none⟩ v8).setCell ⟨b, 9, none⟩ v9).setCell ⟨b, 10, none⟩ v10).setCell ⟨b, 11, none⟩ v11).setCell ⟨b, 12, none⟩ v12).setCell ⟨b, 13, none⟩ v13) g n :=
  ((((((((h.setCell ⟨b, 5, none⟩ v5).setCell ⟨b, 6, none⟩ v6).setCell ⟨b, 7, none⟩ v7).setCell ⟨b, 8, none⟩ v8).setCell ⟨b, 9, none⟩ v9).setCell ⟨b, 10, none⟩ v10).setCell ⟨b, 11, none⟩ v11).setCell ⟨b, 12, none⟩ v12).setCell ⟨b, 13, none⟩ v13
theorem FI.nine {W : World} {b g n : Nat} (h : FI W g n) (v5 v6 v7 v8 v9 v10 v11 v12 v13 : Value) : FI (((((((((W.setCell ⟨b, 5, none⟩ v5).setCell ⟨b, 6, none⟩ v6).setCell ⟨b, 7, none⟩ v7).setCell ⟨b, 8, none⟩ v8).setCell ⟨b, 9, none⟩ v9).setCell ⟨b, 10, none⟩ v10).setCell ⟨b, 11, none⟩ v11).setCell ⟨b, 12, none⟩ v12).setCell ⟨b, 13, none⟩ v13) g n :=
  ((((((((h.setCell ⟨b, 5, none⟩ v5).setCell ⟨b, 6, none⟩ v6).setCell ⟨b, 7, none⟩ v7).setCell ⟨b, 8, none⟩ v8).setCell ⟨b, 9, none⟩ v9).setCell ⟨b, 10, none⟩ v10).setCell ⟨b, 11, none⟩ v11).setCell ⟨b, 12, none⟩ v12).setCell ⟨b, 13, none⟩ v13
set_option maxRecDepth 100000 in
set_option maxHeartbeats 16000000 in
theorem lawToEvent (e : Ev) (m : Em) (w : World) (hm : EMem w e m) (hs : ESmall e) :
    Calls Try.prog 28 #[.agg #[.string e.id, .string e.ti, .string e.zn, .int .i64 e.st, .int .i64 e.lo, .int .i64 e.r.f, .int .i64 e.r.ev, .int .i64 e.r.ct, .int .i64 e.r.un, .slice m.r.a0 e.r.ds.length m.r.c0, .slice m.r.a1 e.r.da.length m.r.c1, .slice m.r.a2 e.r.mo.length m.r.c2, .slice m.r.a3 e.r.pl.length m.r.c3, .int .i64 e.r.wk, .slice m.ao e.ou.length m.co, .slice m.av e.ov.length m.cv]] w fun z w' => ∃ n : Em, z = .returned (.agg #[.string e.id, .string e.ti, .string e.zn, .int .i64 e.st, .int .i64 e.lo, .int .i64 e.r.f, .int .i64 e.r.ev, .int .i64 e.r.ct, .int .i64 e.r.un, .slice n.r.a0 e.r.ds.length n.r.c0, .slice n.r.a1 e.r.da.length n.r.c1, .slice n.r.a2 e.r.mo.length n.r.c2, .slice n.r.a3 e.r.pl.length n.r.c3, .int .i64 e.r.wk, .slice n.ao e.ou.length n.co, .slice n.av e.ov.length n.cv]) ∧ EOwn w' e n w.heap.size ∧ Below w.heap.size w w' := by
  obtain ⟨⟨z0, z1, z2, z3, z4, z5, z6, z7⟩, zo, zt⟩ := hs
  have T0 : TE w ((((w).alloc (.cells #[.string e.id, .string e.ti, .string e.zn, .int .i64 e.st, .int .i64 e.lo, .int .i64 e.r.f, .int .i64 e.r.ev, .int .i64 e.r.ct, .int .i64 e.r.un, .slice m.r.a0 e.r.ds.length m.r.c0, .slice m.r.a1 e.r.da.length m.r.c1, .slice m.r.a2 e.r.mo.length m.r.c2, .slice m.r.a3 e.r.pl.length m.r.c3, .int .i64 e.r.wk, .slice m.ao e.ou.length m.co, .slice m.av e.ov.length m.cv] 28)).alloc (.cells #[.string ⟨#[]⟩, .string ⟨#[]⟩, .string ⟨#[]⟩, .int .i64 0, .int .i64 0, .int .i64 0, .int .i64 0, .int .i64 0, .int .i64 0, .slice none 0 0, .slice none 0 0, .slice none 0 0, .slice none 0 0, .int .i64 0, .slice none 0 0, .slice none 0 0] 39)).alloc (.cells #[.string e.id, .string e.ti, .string e.zn, .int .i64 e.st, .int .i64 e.lo, .int .i64 0, .int .i64 0, .int .i64 0, .int .i64 0, .slice none 0 0, .slice none 0 0, .slice none 0 0, .slice none 0 0, .int .i64 0, .slice none 0 0, .slice none 0 0] 39)) w.heap.size #[.string e.id, .string e.ti, .string e.zn, .int .i64 e.st, .int .i64 e.lo, .int .i64 e.r.f, .int .i64 e.r.ev, .int .i64 e.r.ct, .int .i64 e.r.un, .slice m.r.a0 e.r.ds.length m.r.c0, .slice m.r.a1 e.r.da.length m.r.c1, .slice m.r.a2 e.r.mo.length m.r.c2, .slice m.r.a3 e.r.pl.length m.r.c3, .int .i64 e.r.wk, .slice m.ao e.ou.length m.co, .slice m.av e.ov.length m.cv] #[.string e.id, .string e.ti, .string e.zn, .int .i64 e.st, .int .i64 e.lo, .int .i64 0, .int .i64 0, .int .i64 0, .int .i64 0, .slice none 0 0, .slice none 0 0, .slice none 0 0, .slice none 0 0, .int .i64 0, .slice none 0 0, .slice none 0 0] #[.string ⟨#[]⟩, .string ⟨#[]⟩, .string ⟨#[]⟩, .int .i64 0, .int .i64 0, .int .i64 0, .int .i64 0, .int .i64 0, .int .i64 0, .slice none 0 0, .slice none 0 0, .slice none 0 0, .slice none 0 0, .int .i64 0, .slice none 0 0, .slice none 0 0] := by
    refine ⟨((CF.new w _ _).past _).past _, ?_, ?_, (((Below.refl _ _).alloc (Nat.le_refl _) _).alloc (by simp) _).alloc (by simp; omega) _⟩
    · have := CF.new (((w).alloc (.cells #[.string e.id, .string e.ti, .string e.zn, .int .i64 e.st, .int .i64 e.lo, .int .i64 e.r.f, .int .i64 e.r.ev, .int .i64 e.r.ct, .int .i64 e.r.un, .slice m.r.a0 e.r.ds.length m.r.c0, .slice m.r.a1 e.r.da.length m.r.c1, .slice m.r.a2 e.r.mo.length m.r.c2, .slice m.r.a3 e.r.pl.length m.r.c3, .int .i64 e.r.wk, .slice m.ao e.ou.length m.co, .slice m.av e.ov.length m.cv] 28)).alloc (.cells #[.string ⟨#[]⟩, .string ⟨#[]⟩, .string ⟨#[]⟩, .int .i64 0, .int .i64 0, .int .i64 0, .int .i64 0, .int .i64 0, .int .i64 0, .slice none 0 0, .slice none 0 0, .slice none 0 0, .slice none 0 0, .int .i64 0, .slice none 0 0, .slice none 0 0] 39)) #[.string e.id, .string e.ti, .string e.zn, .int .i64 e.st, .int .i64 e.lo, .int .i64 0, .int .i64 0, .int .i64 0, .int .i64 0, .slice none 0 0, .slice none 0 0, .slice none 0 0, .slice none 0 0, .int .i64 0, .slice none 0 0, .slice none 0 0] 39
      simpa using this
    · have := (CF.new ((w).alloc (.cells #[.string e.id, .string e.ti, .string e.zn, .int .i64 e.st, .int .i64 e.lo, .int .i64 e.r.f, .int .i64 e.r.ev, .int .i64 e.r.ct, .int .i64 e.r.un, .slice m.r.a0 e.r.ds.length m.r.c0, .slice m.r.a1 e.r.da.length m.r.c1, .slice m.r.a2 e.r.mo.length m.r.c2, .slice m.r.a3 e.r.pl.length m.r.c3, .int .i64 e.r.wk, .slice m.ao e.ou.length m.co, .slice m.av e.ov.length m.cv] 28)) #[.string ⟨#[]⟩, .string ⟨#[]⟩, .string ⟨#[]⟩, .int .i64 0, .int .i64 0, .int .i64 0, .int .i64 0, .int .i64 0, .int .i64 0, .slice none 0 0, .slice none 0 0, .slice none 0 0, .slice none 0 0, .int .i64 0, .slice none 0 0, .slice none 0 0] 39).past (.cells #[.string e.id, .string e.ti, .string e.zn, .int .i64 e.st, .int .i64 e.lo, .int .i64 0, .int .i64 0, .int .i64 0, .int .i64 0, .slice none 0 0, .slice none 0 0, .slice none 0 0, .slice none 0 0, .int .i64 0, .slice none 0 0, .slice none 0 0] 39)
      simpa using this
  go_enter Try.func28, Try.ntmps28
  go_wp2_with fail
  generalize (((w).alloc (.cells #[.string e.id, .string e.ti, .string e.zn, .int .i64 e.st, .int .i64 e.lo, .int .i64 e.r.f, .int .i64 e.r.ev, .int .i64 e.r.ct, .int .i64 e.r.un, .slice m.r.a0 e.r.ds.length m.r.c0, .slice m.r.a1 e.r.da.length m.r.c1, .slice m.r.a2 e.r.mo.length m.r.c2, .slice m.r.a3 e.r.pl.length m.r.c3, .int .i64 e.r.wk, .slice m.ao e.ou.length m.co, .slice m.av e.ov.length m.cv] 28)).alloc (.cells #[.string ⟨#[]⟩, .string ⟨#[]⟩, .string ⟨#[]⟩, .int .i64 0, .int .i64 0, .int .i64 0, .int .i64 0, .int .i64 0, .int .i64 0, .slice none 0 0, .slice none 0 0, .slice none 0 0, .slice none 0 0, .int .i64 0, .slice none 0 0, .slice none 0 0] 39)).alloc (.cells #[.string e.id, .string e.ti, .string e.zn, .int .i64 e.st, .int .i64 e.lo, .int .i64 0, .int .i64 0, .int .i64 0, .int .i64 0, .slice none 0 0, .slice none 0 0, .slice none 0 0, .slice none 0 0, .int .i64 0, .slice none 0 0, .slice none 0 0] 39) = V0 at T0 ⊢
  refine (lawToRuleF _ _ _ _ _ _ e.r.ds _ _ e.r.da _ _ e.r.mo _ _ e.r.pl _ V0 (hm.r.t.below (B := 0) T0.b) (hm.r.d.below T0.b) (hm.r.o.below T0.b) (hm.r.p.below T0.b) (by omega) (by omega) (by omega) (by omega)).mono ?_
  rintro z w1 ⟨g0, g1, g2, g3, rfl, I0, I1, I2, I3, b1, u0, u1, u2, u3, G0, G1, G2, G3⟩
  have lt0 := T0.o.1
  have gl3 := G3.lt
  have U0 := T0.below b1
  obtain ⟨o5c, o5f⟩ := U0.o.2 5 (.int .i64 0) rfl
  obtain ⟨o6c, o6f⟩ := U0.o.2 6 (.int .i64 0) rfl
  obtain ⟨o7c, o7f⟩ := U0.o.2 7 (.int .i64 0) rfl
  obtain ⟨o8c, o8f⟩ := U0.o.2 8 (.int .i64 0) rfl
  obtain ⟨o9c, o9f⟩ := U0.o.2 9 (.slice none 0 0) rfl
  obtain ⟨o10c, o10f⟩ := U0.o.2 10 (.slice none 0 0) rfl
  obtain ⟨o11c, o11f⟩ := U0.o.2 11 (.slice none 0 0) rfl
  obtain ⟨o12c, o12f⟩ := U0.o.2 12 (.slice none 0 0) rfl
  obtain ⟨o13c, o13f⟩ := U0.o.2 13 (.int .i64 0) rfl
  have p14 := (U0.p.2 14 _ rfl).1
  have hV0 : V0.heap.size ≤ w1.heap.size := b1.size
  clear b1
  go_wp2_with fail
  have T1 : TE w ((((((((((w1).setCell ⟨w.heap.size + 1 + 1, 5, none⟩ (.int .i64 e.r.f)).setCell ⟨w.heap.size + 1 + 1, 6, none⟩ (.int .i64 e.r.ev)).setCell ⟨w.heap.size + 1 + 1, 7, none⟩ (.int .i64 e.r.ct)).setCell ⟨w.heap.size + 1 + 1, 8, none⟩ (.int .i64 e.r.un)).setCell ⟨w.heap.size + 1 + 1, 9, none⟩ (.slice (some ⟨g0, 0, none⟩) e.r.ds.length e.r.ds.length)).setCell ⟨w.heap.size + 1 + 1, 10, none⟩ (.slice (some ⟨g1, 0, none⟩) e.r.da.length e.r.da.length)).setCell ⟨w.heap.size + 1 + 1, 11, none⟩ (.slice (some ⟨g2, 0, none⟩) e.r.mo.length e.r.mo.length)).setCell ⟨w.heap.size + 1 + 1, 12, none⟩ (.slice (some ⟨g3, 0, none⟩) e.r.pl.length e.r.pl.length)).setCell ⟨w.heap.size + 1 + 1, 13, none⟩ (.int .i64 e.r.wk)) w.heap.size #[.string e.id, .string e.ti, .string e.zn, .int .i64 e.st, .int .i64 e.lo, .int .i64 e.r.f, .int .i64 e.r.ev, .int .i64 e.r.ct, .int .i64 e.r.un, .slice m.r.a0 e.r.ds.length m.r.c0, .slice m.r.a1 e.r.da.length m.r.c1, .slice m.r.a2 e.r.mo.length m.r.c2, .slice m.r.a3 e.r.pl.length m.r.c3, .int .i64 e.r.wk, .slice m.ao e.ou.length m.co, .slice m.av e.ov.length m.cv] #[.string e.id, .string e.ti, .string e.zn, .int .i64 e.st, .int .i64 e.lo, .int .i64 e.r.f, .int .i64 e.r.ev, .int .i64 e.r.ct, .int .i64 e.r.un, .slice (some ⟨g0, 0, none⟩) e.r.ds.length e.r.ds.length, .slice (some ⟨g1, 0, none⟩) e.r.da.length e.r.da.length, .slice (some ⟨g2, 0, none⟩) e.r.mo.length e.r.mo.length, .slice (some ⟨g3, 0, none⟩) e.r.pl.length e.r.pl.length, .int .i64 e.r.wk, .slice none 0 0, .slice none 0 0] #[.string ⟨#[]⟩, .string ⟨#[]⟩, .string ⟨#[]⟩, .int .i64 0, .int .i64 0, .int .i64 0, .int .i64 0, .int .i64 0, .int .i64 0, .slice none 0 0, .slice none 0 0, .slice none 0 0, .slice none 0 0, .int .i64 0, .slice none 0 0, .slice none 0 0] := U0.nine (Nat.le_refl _) _ _ _ _ _ _ _ _ _
  replace I0 := I0.nine (b := w.heap.size + 1 + 1) (by omega) (.int .i64 e.r.f) (.int .i64 e.r.ev) (.int .i64 e.r.ct) (.int .i64 e.r.un) (.slice (some ⟨g0, 0, none⟩) e.r.ds.length e.r.ds.length) (.slice (some ⟨g1, 0, none⟩) e.r.da.length e.r.da.length) (.slice (some ⟨g2, 0, none⟩) e.r.mo.length e.r.mo.length) (.slice (some ⟨g3, 0, none⟩) e.r.pl.length e.r.pl.length) (.int .i64 e.r.wk)
  replace G0 := G0.nine (b := w.heap.size + 1 + 1) (.int .i64 e.r.f) (.int .i64 e.r.ev) (.int .i64 e.r.ct) (.int .i64 e.r.un) (.slice (some ⟨g0, 0, none⟩) e.r.ds.length e.r.ds.length) (.slice (some ⟨g1, 0, none⟩) e.r.da.length e.r.da.length) (.slice (some ⟨g2, 0, none⟩) e.r.mo.length e.r.mo.length) (.slice (some ⟨g3, 0, none⟩) e.r.pl.length e.r.pl.length) (.int .i64 e.r.wk)
  replace I1 := I1.nine (b := w.heap.size + 1 + 1) (by omega) (.int .i64 e.r.f) (.int .i64 e.r.ev) (.int .i64 e.r.ct) (.int .i64 e.r.un) (.slice (some ⟨g0, 0, none⟩) e.r.ds.length e.r.ds.length) (.slice (some ⟨g1, 0, none⟩) e.r.da.length e.r.da.length) (.slice (some ⟨g2, 0, none⟩) e.r.mo.length e.r.mo.length) (.slice (some ⟨g3, 0, none⟩) e.r.pl.length e.r.pl.length) (.int .i64 e.r.wk)
  replace G1 := G1.nine (b := w.heap.size + 1 + 1) (.int .i64 e.r.f) (.int .i64 e.r.ev) (.int .i64 e.r.ct) (.int .i64 e.r.un) (.slice (some ⟨g0, 0, none⟩) e.r.ds.length e.r.ds.length) (.slice (some ⟨g1, 0, none⟩) e.r.da.length e.r.da.length) (.slice (some ⟨g2, 0, none⟩) e.r.mo.length e.r.mo.length) (.slice (some ⟨g3, 0, none⟩) e.r.pl.length e.r.pl.length) (.int .i64 e.r.wk)
  replace I2 := I2.nine (b := w.heap.size + 1 + 1) (by omega) (.int .i64 e.r.f) (.int .i64 e.r.ev) (.int .i64 e.r.ct) (.int .i64 e.r.un) (.slice (some ⟨g0, 0, none⟩) e.r.ds.length e.r.ds.length) (.slice (some ⟨g1, 0, none⟩) e.r.da.length e.r.da.length) (.slice (some ⟨g2, 0, none⟩) e.r.mo.length e.r.mo.length) (.slice (some ⟨g3, 0, none⟩) e.r.pl.length e.r.pl.length) (.int .i64 e.r.wk)
  replace G2 := G2.nine (b := w.heap.size + 1 + 1) (.int .i64 e.r.f) (.int .i64 e.r.ev) (.int .i64 e.r.ct) (.int .i64 e.r.un) (.slice (some ⟨g0, 0, none⟩) e.r.ds.length e.r.ds.length) (.slice (some ⟨g1, 0, none⟩) e.r.da.length e.r.da.length) (.slice (some ⟨g2, 0, none⟩) e.r.mo.length e.r.mo.length) (.slice (some ⟨g3, 0, none⟩) e.r.pl.length e.r.pl.length) (.int .i64 e.r.wk)
  replace I3 := I3.nine (b := w.heap.size + 1 + 1) (by omega) (.int .i64 e.r.f) (.int .i64 e.r.ev) (.int .i64 e.r.ct) (.int .i64 e.r.un) (.slice (some ⟨g0, 0, none⟩) e.r.ds.length e.r.ds.length) (.slice (some ⟨g1, 0, none⟩) e.r.da.length e.r.da.length) (.slice (some ⟨g2, 0, none⟩) e.r.mo.length e.r.mo.length) (.slice (some ⟨g3, 0, none⟩) e.r.pl.length e.r.pl.length) (.int .i64 e.r.wk)
  replace G3 := G3.nine (b := w.heap.size + 1 + 1) (.int .i64 e.r.f) (.int .i64 e.r.ev) (.int .i64 e.r.ct) (.int .i64 e.r.un) (.slice (some ⟨g0, 0, none⟩) e.r.ds.length e.r.ds.length) (.slice (some ⟨g1, 0, none⟩) e.r.da.length e.r.da.length) (.slice (some ⟨g2, 0, none⟩) e.r.mo.length e.r.mo.length) (.slice (some ⟨g3, 0, none⟩) e.r.pl.length e.r.pl.length) (.int .i64 e.r.wk)
  generalize hV1 : (((((((((w1).setCell ⟨w.heap.size + 1 + 1, 5, none⟩ (.int .i64 e.r.f)).setCell ⟨w.heap.size + 1 + 1, 6, none⟩ (.int .i64 e.r.ev)).setCell ⟨w.heap.size + 1 + 1, 7, none⟩ (.int .i64 e.r.ct)).setCell ⟨w.heap.size + 1 + 1, 8, none⟩ (.int .i64 e.r.un)).setCell ⟨w.heap.size + 1 + 1, 9, none⟩ (.slice (some ⟨g0, 0, none⟩) e.r.ds.length e.r.ds.length)).setCell ⟨w.heap.size + 1 + 1, 10, none⟩ (.slice (some ⟨g1, 0, none⟩) e.r.da.length e.r.da.length)).setCell ⟨w.heap.size + 1 + 1, 11, none⟩ (.slice (some ⟨g2, 0, none⟩) e.r.mo.length e.r.mo.length)).setCell ⟨w.heap.size + 1 + 1, 12, none⟩ (.slice (some ⟨g3, 0, none⟩) e.r.pl.length e.r.pl.length)).setCell ⟨w.heap.size + 1 + 1, 13, none⟩ (.int .i64 e.r.wk) = V1 at T1 I0 I1 I2 I3 G0 G1 G2 G3 ⊢
  have sV1 : Hid (V1.heap.size = w1.heap.size) := by unfold Hid; rw [← hV1]; simp
  clear hV1 U0 p14 o5c o5f o6c o6f o7c o7f o8c o8f o9c o9f o10c o10f o11c o11f o12c o12f o13c o13f
  have p14 := (T1.p.2 14 _ rfl).1
  obtain ⟨o14c, o14f⟩ := T1.o.2 14 (.slice none 0 0) rfl
  refine (lawToInts _ _ e.ou V1 (hm.o.below T1.b) (by omega)).mono ?_
  rintro z w2 ⟨rfl, I4, b2, G4⟩
  have gl4 := G4.lt
  have lt1 := T1.o.1
  replace I0 := I0.below (B := 0) b2
  replace G0 := G0.below b2
  replace I1 := I1.below b2
  replace G1 := G1.below b2
  replace I2 := I2.below b2
  replace G2 := G2.below b2
  replace I3 := I3.below b2
  replace G3 := G3.below b2
  have U1 := T1.below b2
  have sz1 := b2.size
  clear b2 p14 o14c o14f
  obtain ⟨o14c, o14f⟩ := U1.o.2 14 (.slice none 0 0) rfl
  have p15 := (U1.p.2 15 _ rfl).1
  go_wp2_with fail
  have T2 : TE w (w2.setCell ⟨w.heap.size + 1 + 1, 14, none⟩ (.slice (some ⟨V1.heap.size, 0, none⟩) e.ou.length e.ou.length)) w.heap.size #[.string e.id, .string e.ti, .string e.zn, .int .i64 e.st, .int .i64 e.lo, .int .i64 e.r.f, .int .i64 e.r.ev, .int .i64 e.r.ct, .int .i64 e.r.un, .slice m.r.a0 e.r.ds.length m.r.c0, .slice m.r.a1 e.r.da.length m.r.c1, .slice m.r.a2 e.r.mo.length m.r.c2, .slice m.r.a3 e.r.pl.length m.r.c3, .int .i64 e.r.wk, .slice m.ao e.ou.length m.co, .slice m.av e.ov.length m.cv] #[.string e.id, .string e.ti, .string e.zn, .int .i64 e.st, .int .i64 e.lo, .int .i64 e.r.f, .int .i64 e.r.ev, .int .i64 e.r.ct, .int .i64 e.r.un, .slice (some ⟨g0, 0, none⟩) e.r.ds.length e.r.ds.length, .slice (some ⟨g1, 0, none⟩) e.r.da.length e.r.da.length, .slice (some ⟨g2, 0, none⟩) e.r.mo.length e.r.mo.length, .slice (some ⟨g3, 0, none⟩) e.r.pl.length e.r.pl.length, .int .i64 e.r.wk, .slice (some ⟨V1.heap.size, 0, none⟩) e.ou.length e.ou.length, .slice none 0 0] #[.string ⟨#[]⟩, .string ⟨#[]⟩, .string ⟨#[]⟩, .int .i64 0, .int .i64 0, .int .i64 0, .int .i64 0, .int .i64 0, .int .i64 0, .slice none 0 0, .slice none 0 0, .slice none 0 0, .slice none 0 0, .int .i64 0, .slice none 0 0, .slice none 0 0] := U1.set (Nat.le_refl _) 14 _ (by simp)
  replace I0 := I0.setCell (p := ⟨w.heap.size + 1 + 1, 14, none⟩) (by simp; omega) (.slice (some ⟨V1.heap.size, 0, none⟩) e.ou.length e.ou.length)
  replace G0 := G0.setCell ⟨w.heap.size + 1 + 1, 14, none⟩ (.slice (some ⟨V1.heap.size, 0, none⟩) e.ou.length e.ou.length)
  replace I1 := I1.setCell (p := ⟨w.heap.size + 1 + 1, 14, none⟩) (by simp; omega) (.slice (some ⟨V1.heap.size, 0, none⟩) e.ou.length e.ou.length)
  replace G1 := G1.setCell ⟨w.heap.size + 1 + 1, 14, none⟩ (.slice (some ⟨V1.heap.size, 0, none⟩) e.ou.length e.ou.length)
  replace I2 := I2.setCell (p := ⟨w.heap.size + 1 + 1, 14, none⟩) (by simp; omega) (.slice (some ⟨V1.heap.size, 0, none⟩) e.ou.length e.ou.length)
  replace G2 := G2.setCell ⟨w.heap.size + 1 + 1, 14, none⟩ (.slice (some ⟨V1.heap.size, 0, none⟩) e.ou.length e.ou.length)
  replace I3 := I3.setCell (p := ⟨w.heap.size + 1 + 1, 14, none⟩) (by simp; omega) (.slice (some ⟨V1.heap.size, 0, none⟩) e.ou.length e.ou.length)
  replace G3 := G3.setCell ⟨w.heap.size + 1 + 1, 14, none⟩ (.slice (some ⟨V1.heap.size, 0, none⟩) e.ou.length e.ou.length)
  replace I4 := I4.setCell (p := ⟨w.heap.size + 1 + 1, 14, none⟩) (by simp; omega) (.slice (some ⟨V1.heap.size, 0, none⟩) e.ou.length e.ou.length)
  replace G4 := G4.setCell ⟨w.heap.size + 1 + 1, 14, none⟩ (.slice (some ⟨V1.heap.size, 0, none⟩) e.ou.length e.ou.length)
  generalize hV2 : w2.setCell ⟨w.heap.size + 1 + 1, 14, none⟩ (.slice (some ⟨V1.heap.size, 0, none⟩) e.ou.length e.ou.length) = V2 at T2 I0 I1 I2 I3 I4 G0 G1 G2 G3 G4 ⊢
  have sV2 : Hid (V2.heap.size = w2.heap.size) := by unfold Hid; rw [← hV2]; simp
  clear hV2 U1 o14c o14f p15
  have p15 := (T2.p.2 15 _ rfl).1
  refine (lawToOvers _ _ e.ov V2 (hm.v.below T2.b) (by omega)).mono ?_
  rintro z w3 ⟨rfl, I5, b3, G5⟩
  have gl5 := G5.lt
  have lt2 := T2.o.1
  replace I0 := I0.below (B := 0) b3
  replace G0 := G0.below b3
  replace I1 := I1.below b3
  replace G1 := G1.below b3
  replace I2 := I2.below b3
  replace G2 := G2.below b3
  replace I3 := I3.below b3
  replace G3 := G3.below b3
  replace I4 := I4.below b3
  replace G4 := G4.below b3
  have U2 := T2.below b3
  have sz2 := b3.size
  have o0 := (U2.o.2 0 _ rfl).1
  have o1 := (U2.o.2 1 _ rfl).1
  have o2 := (U2.o.2 2 _ rfl).1
  have o3 := (U2.o.2 3 _ rfl).1
  have o4 := (U2.o.2 4 _ rfl).1
  have o5 := (U2.o.2 5 _ rfl).1
  have o6 := (U2.o.2 6 _ rfl).1
  have o7 := (U2.o.2 7 _ rfl).1
  have o8 := (U2.o.2 8 _ rfl).1
  have o9 := (U2.o.2 9 _ rfl).1
  have o10 := (U2.o.2 10 _ rfl).1
  have o11 := (U2.o.2 11 _ rfl).1
  have o12 := (U2.o.2 12 _ rfl).1
  have o13 := (U2.o.2 13 _ rfl).1
  have o14 := (U2.o.2 14 _ rfl).1
  obtain ⟨o15c, o15f⟩ := U2.o.2 15 (.slice none 0 0) rfl
  obtain ⟨r0, rf0⟩ := U2.r.2 0 _ rfl
  obtain ⟨r1, rf1⟩ := U2.r.2 1 _ rfl
  obtain ⟨r2, rf2⟩ := U2.r.2 2 _ rfl
  obtain ⟨r3, rf3⟩ := U2.r.2 3 _ rfl
  obtain ⟨r4, rf4⟩ := U2.r.2 4 _ rfl
  obtain ⟨r5, rf5⟩ := U2.r.2 5 _ rfl
  obtain ⟨r6, rf6⟩ := U2.r.2 6 _ rfl
  obtain ⟨r7, rf7⟩ := U2.r.2 7 _ rfl
  obtain ⟨r8, rf8⟩ := U2.r.2 8 _ rfl
  obtain ⟨r9, rf9⟩ := U2.r.2 9 _ rfl
  obtain ⟨r10, rf10⟩ := U2.r.2 10 _ rfl
  obtain ⟨r11, rf11⟩ := U2.r.2 11 _ rfl
  obtain ⟨r12, rf12⟩ := U2.r.2 12 _ rfl
  obtain ⟨r13, rf13⟩ := U2.r.2 13 _ rfl
  obtain ⟨r14, rf14⟩ := U2.r.2 14 _ rfl
  obtain ⟨r15, rf15⟩ := U2.r.2 15 _ rfl
  have bz : w.heap.size + 1 + 1 < w3.heap.size := U2.o.1
  have bz1 : w.heap.size + 1 < w3.heap.size := by omega
  have BF : Hid (Below w.heap.size w w3) := U2.b
  have HI : Hid ((IsTurns w3 (some ⟨g0, 0, none⟩) e.r.ds ∧ IsInts w3 (some ⟨g1, 0, none⟩) e.r.da ∧ IsInts w3 (some ⟨g2, 0, none⟩) e.r.mo ∧ IsInts w3 (some ⟨g3, 0, none⟩) e.r.pl ∧ IsInts w3 (some ⟨V1.heap.size, 0, none⟩) e.ou ∧ IsOvers w3 (some ⟨V2.heap.size, 0, none⟩) e.ov)) := ⟨I0, I1, I2, I3, I4, I5⟩
  have HG : Hid (FT w3 g0 e.r.ds.length ∧ FI w3 g1 e.r.da.length ∧ FI w3 g2 e.r.mo.length ∧ FI w3 g3 e.r.pl.length ∧ FI w3 V1.heap.size e.ou.length ∧ FO w3 V2.heap.size e.ov.length) := ⟨G0, G1, G2, G3, G4, G5⟩
  have HO : Hid (w.heap.size + 1 + 1 < g0 ∧ g0 < g1 ∧ g1 < g2 ∧ g2 < g3 ∧ g3 < V1.heap.size ∧ V1.heap.size < V2.heap.size) := by have s1 := sV1.out; have s2 := sV2.out; exact ⟨by omega, by omega, by omega, by omega, by omega, by omega⟩
  clear I0 I1 I2 I3 I4 I5 G0 G1 G2 G3 G4 G5 U2 T0 T1 T2 hm b3 gl3 gl4 gl5 sV1 sV2 sz1 sz2 u0 u1 u2 u3 lt0 lt1 lt2 hV0 z0 z1 z2 z3 z4 z5 z6 z7 zo zt
  go_wp2
  refine bodyPost_ret (v := .agg #[.string e.id, .string e.ti, .string e.zn, .int .i64 e.st, .int .i64 e.lo, .int .i64 e.r.f, .int .i64 e.r.ev, .int .i64 e.r.ct, .int .i64 e.r.un, .slice (some ⟨g0, 0, none⟩) e.r.ds.length e.r.ds.length, .slice (some ⟨g1, 0, none⟩) e.r.da.length e.r.da.length, .slice (some ⟨g2, 0, none⟩) e.r.mo.length e.r.mo.length, .slice (some ⟨g3, 0, none⟩) e.r.pl.length e.r.pl.length, .int .i64 e.r.wk, .slice (some ⟨V1.heap.size, 0, none⟩) e.ou.length e.ou.length, .slice (some ⟨V2.heap.size, 0, none⟩) e.ov.length e.ov.length]) (by simp [results, Try.results28, go_sem, *]) rfl ⟨⟨⟨some ⟨g0, 0, none⟩, e.r.ds.length, some ⟨g1, 0, none⟩, e.r.da.length, some ⟨g2, 0, none⟩, e.r.mo.length, some ⟨g3, 0, none⟩, e.r.pl.length⟩, some ⟨V1.heap.size, 0, none⟩, e.ou.length, some ⟨V2.heap.size, 0, none⟩, e.ov.length⟩, rfl, ⟨⟨⟨?_, ?_, ?_, ?_⟩, ?_, ?_⟩, _, _, _, _, _, _, rfl, by have := HO.out; omega, HO.out.2.1, HO.out.2.2.1, HO.out.2.2.2.1, HO.out.2.2.2.2.1, HO.out.2.2.2.2.2, ?_, ?_, ?_, ?_, ?_, ?_⟩, ?_⟩
  · have hj := HO.out
    repeat (first | with_reducible exact HI.out.1 | with_reducible refine IsTurns.setCell ?_ (by simp; omega) _)
  · have hj := HO.out
    repeat (first | with_reducible exact HI.out.2.1 | with_reducible refine IsInts.setCell ?_ (by simp; omega) _)
  · have hj := HO.out
    repeat (first | with_reducible exact HI.out.2.2.1 | with_reducible refine IsInts.setCell ?_ (by simp; omega) _)
  · have hj := HO.out
    repeat (first | with_reducible exact HI.out.2.2.2.1 | with_reducible refine IsInts.setCell ?_ (by simp; omega) _)
  · have hj := HO.out
    repeat (first | with_reducible exact HI.out.2.2.2.2.1 | with_reducible refine IsInts.setCell ?_ (by simp; omega) _)
  · have hj := HO.out
    repeat (first | with_reducible exact HI.out.2.2.2.2.2 | with_reducible refine IsOvers.setCell ?_ (by simp; omega) _)
  · repeat (first | with_reducible exact HG.out.1 | with_reducible refine FT.setCell ?_ _ _)
  · repeat (first | with_reducible exact HG.out.2.1 | with_reducible refine FI.setCell ?_ _ _)
  · repeat (first | with_reducible exact HG.out.2.2.1 | with_reducible refine FI.setCell ?_ _ _)
  · repeat (first | with_reducible exact HG.out.2.2.2.1 | with_reducible refine FI.setCell ?_ _ _)
  · repeat (first | with_reducible exact HG.out.2.2.2.2.1 | with_reducible refine FI.setCell ?_ _ _)
  · repeat (first | with_reducible exact HG.out.2.2.2.2.2 | with_reducible refine FO.setCell ?_ _ _)
  · repeat (first | with_reducible exact BF.out | with_reducible refine Below.setCell ?_ (by first | (simp; done) | (simp; omega)) _)
end Go.Proofs.Ythmekfijpfghkaa
