/- A meeting in plain numbers, and as it lies in memory; its size, copy, and held against each other. -/
import Derived.Test.YthmekfijpfghkaaVc
import Derived.Test.YthmekfijpfghkaaVd
import Derived.Test.YthmekfijpfghkaaVg
namespace Go.Proofs.Ythmekfijpfghkaa
open Go.RowKit
set_option linter.unusedVariables false
/-- A meeting. -/
structure Mt where
  e : Ev
  ho : ByteArray
  gu : List GuR
  sq : Int
  of : Bool
structure Mm where
  m : Em
  ag : Option Addr
  cg : Nat
structure MMem (w : World) (q : Mt) (n : Mm) : Prop where
  e : EMem w q.e n.m
  g : IsGuests w n.ag q.gu
theorem MMem.below {w w' : World} {q : Mt} {n : Mm} (h : MMem w q n) (hb : Below w.heap.size w w') : MMem w' q n := ⟨h.e.below hb, h.g.below hb⟩
abbrev MWide (q : Mt) : Prop := EWide q.e ∧ q.ho.size ≤ maxLen ∧ UWide q.gu
abbrev MSmall (q : Mt) : Prop := ESmall q.e ∧ q.ho.size ≤ 1048576 ∧ USmall q.gu
set_option maxHeartbeats 8000000 in
theorem lawSzMeet (q : Mt) (n : Mm) (left : Int) (w : World) (hm : MMem w q n) (hw : MWide q) (k0 : 0 ≤ left) (k1 : left ≤ 1048576) :
    Calls Try.prog 8 #[.agg #[.string q.e.id, .string q.e.ti, .string q.e.zn, .int .i64 q.e.st, .int .i64 q.e.lo, .int .i64 q.e.r.f, .int .i64 q.e.r.ev, .int .i64 q.e.r.ct, .int .i64 q.e.r.un, .slice n.m.r.a0 q.e.r.ds.length n.m.r.c0, .slice n.m.r.a1 q.e.r.da.length n.m.r.c1, .slice n.m.r.a2 q.e.r.mo.length n.m.r.c2, .slice n.m.r.a3 q.e.r.pl.length n.m.r.c3, .int .i64 q.e.r.wk, .slice n.m.ao q.e.ou.length n.m.co, .slice n.m.av q.e.ov.length n.m.cv, .string q.ho, .slice n.ag q.gu.length n.cg, .int .i64 q.sq, .bool q.of], .int .i64 left] w fun z w' => (∃ r : Int, z = .returned (.int .i64 r) ∧ -1 ≤ r ∧ r ≤ left ∧ (0 ≤ r → MSmall q)) ∧ Below w.heap.size w w' := by
  obtain ⟨W0, hW0⟩ : ∃ W0, W0 = w.alloc (.cells #[.string q.e.id, .string q.e.ti, .string q.e.zn, .int .i64 q.e.st, .int .i64 q.e.lo, .int .i64 q.e.r.f, .int .i64 q.e.r.ev, .int .i64 q.e.r.ct, .int .i64 q.e.r.un, .slice n.m.r.a0 q.e.r.ds.length n.m.r.c0, .slice n.m.r.a1 q.e.r.da.length n.m.r.c1, .slice n.m.r.a2 q.e.r.mo.length n.m.r.c2, .slice n.m.r.a3 q.e.r.pl.length n.m.r.c3, .int .i64 q.e.r.wk, .slice n.m.ao q.e.ou.length n.m.co, .slice n.m.av q.e.ov.length n.m.cv, .string q.ho, .slice n.ag q.gu.length n.cg, .int .i64 q.sq, .bool q.of] 31) := ⟨_, rfl⟩
  have hb0 : Below w.heap.size w W0 := by rw [hW0]; exact (Below.refl _ w).alloc (Nat.le_refl _) _
  have HW0 : Hid (W0 = w.alloc (.cells #[.string q.e.id, .string q.e.ti, .string q.e.zn, .int .i64 q.e.st, .int .i64 q.e.lo, .int .i64 q.e.r.f, .int .i64 q.e.r.ev, .int .i64 q.e.r.ct, .int .i64 q.e.r.un, .slice n.m.r.a0 q.e.r.ds.length n.m.r.c0, .slice n.m.r.a1 q.e.r.da.length n.m.r.c1, .slice n.m.r.a2 q.e.r.mo.length n.m.r.c2, .slice n.m.r.a3 q.e.r.pl.length n.m.r.c3, .int .i64 q.e.r.wk, .slice n.m.ao q.e.ou.length n.m.co, .slice n.m.av q.e.ov.length n.m.cv, .string q.ho, .slice n.ag q.gu.length n.cg, .int .i64 q.sq, .bool q.of] 31)) := hW0
  have HC0 : Hid (CF W0 w.heap.size #[.string q.e.id, .string q.e.ti, .string q.e.zn, .int .i64 q.e.st, .int .i64 q.e.lo, .int .i64 q.e.r.f, .int .i64 q.e.r.ev, .int .i64 q.e.r.ct, .int .i64 q.e.r.un, .slice n.m.r.a0 q.e.r.ds.length n.m.r.c0, .slice n.m.r.a1 q.e.r.da.length n.m.r.c1, .slice n.m.r.a2 q.e.r.mo.length n.m.r.c2, .slice n.m.r.a3 q.e.r.pl.length n.m.r.c3, .int .i64 q.e.r.wk, .slice n.m.ao q.e.ou.length n.m.co, .slice n.m.av q.e.ov.length n.m.cv, .string q.ho, .slice n.ag q.gu.length n.cg, .int .i64 q.sq, .bool q.of]) := by unfold Hid; rw [hW0]; exact CF.new _ _ _
  have HB0 : Hid (Below w.heap.size w W0) := hb0
  have HM : Hid (MMem W0 q n) := hm.below hb0
  obtain ⟨he, hh, hg⟩ := hw
  have hh2 : q.ho.size ≤ 9223372036854775807 := hh
  clear hW0 hb0 hm
  go_enter Try.func8, Try.ntmps8
  go_wp2_with fail
  rw [← HW0.out]
  refine (lawSzEvent q.e n.m left W0 HM.out.e he k0 k1).mono ?_
  rintro z w1 ⟨⟨r1, rfl, r10, r11, r12⟩, b1⟩
  have HB1 : Hid (Below w.heap.size w w1) := bstep HB0.out b1
  have C1 := HC0.out.below b1
  have x16 := (C1.2 16 _ rfl).1
  have x17 := (C1.2 17 _ rfl).1
  have HM1 : Hid (MMem w1 q n) := HM.out.below b1
  have HR : Hid (0 ≤ r1 → ESmall q.e) := r12
  clear b1 C1 r12
  by_cases t3 : 0 ≤ r1
  · have t3' : ¬ r1 < 0 := by omega
    by_cases t4 : (q.ho.size : Int) ≤ r1
    · have t4' : ¬ r1 - (q.ho.size : Int) < 0 := by omega
      go_wp2_with fail
      refine (lawSzGuests _ _ q.gu _ w1 HM1.out.g hg (by omega) (by omega)).mono ?_
      rintro z w3 ⟨⟨r3, rfl, r30, r31, r32⟩, b3⟩
      have HB3 : Hid (Below w.heap.size w w3) := bstep HB1.out b3
      have HO : Hid (0 ≤ r3 → USmall q.gu) := r32
      clear b3 r32
      by_cases t5 : 0 ≤ r3
      · have t5' : ¬ r3 < 0 := by omega
        go_wp2
        go_ret
        exact ⟨⟨r3, rfl, by omega, by omega, fun _ => ⟨HR.out t3, by omega, HO.out t5⟩⟩, HB3.out⟩
      · have t5' : r3 < 0 := by omega
        go_wp2
        go_ret
        exact ⟨⟨-1, rfl, by omega, by omega, fun h => by omega⟩, HB3.out⟩
    · have t4' : r1 - (q.ho.size : Int) < 0 := by omega
      go_wp2
      go_ret
      exact ⟨⟨-1, rfl, by omega, by omega, fun h => by omega⟩, HB1.out⟩
  · have t3' : r1 < 0 := by omega
    go_wp2
    go_ret
    exact ⟨⟨-1, rfl, by omega, by omega, fun h => by omega⟩, HB1.out⟩
theorem EOwn.setCell {w : World} {e : Ev} {n : Em} {lo : Nat} (h : EOwn w e n lo) {p : Addr} (hp : p.block < lo) (v : Value) : EOwn (w.setCell p v) e n lo := by
  obtain ⟨⟨⟨i0, i1, i2, i3⟩, i4, i5⟩, g0, g1, g2, g3, g4, g5, rfl, o0, o1, o2, o3, o4, o5, f0, f1, f2, f3, f4, f5⟩ := h
  exact ⟨⟨⟨i0.setCell (by omega) _, i1.setCell (by omega) _, i2.setCell (by omega) _, i3.setCell (by omega) _⟩, i4.setCell (by omega) _, i5.setCell (by omega) _⟩, g0, g1, g2, g3, g4, g5, rfl, o0, o1, o2, o3, o4, o5, f0.setCell _ _, f1.setCell _ _, f2.setCell _ _, f3.setCell _ _, f4.setCell _ _, f5.setCell _ _⟩
theorem EOwn.below {w w' : World} {e : Ev} {n : Em} {lo : Nat} (h : EOwn w e n lo) (hb : Below w.heap.size w w') : EOwn w' e n lo := by
  obtain ⟨hm, g0, g1, g2, g3, g4, g5, rfl, o0, o1, o2, o3, o4, o5, f0, f1, f2, f3, f4, f5⟩ := h
  exact ⟨hm.below hb, g0, g1, g2, g3, g4, g5, rfl, o0, o1, o2, o3, o4, o5, f0.below hb, f1.below hb, f2.below hb, f3.below hb, f4.below hb, f5.below hb⟩
theorem EOwn.base {w : World} {e : Ev} {n : Em} {lo lo' : Nat} (h : EOwn w e n lo) (hl : lo' ≤ lo) : EOwn w e n lo' := by
  obtain ⟨hm, g0, g1, g2, g3, g4, g5, rfl, o0, r⟩ := h
  exact ⟨hm, g0, g1, g2, g3, g4, g5, rfl, by omega, r⟩
/-- A meeting's lists in new blocks, one behind the other, that may be written. -/
structure MOwn (w : World) (q : Mt) (n : Mm) (lo : Nat) : Prop where
  e : EOwn w q.e n.m lo
  g : IsGuests w n.ag q.gu
  new : ∃ g6, n.ag = some ⟨g6, 0, none⟩ ∧ n.cg = q.gu.length ∧ lo ≤ g6 ∧ FU w g6 q.gu.length
theorem MOwn.mem {w : World} {q : Mt} {n : Mm} {lo : Nat} (h : MOwn w q n lo) : MMem w q n := ⟨h.e.mem, h.g⟩
end Go.Proofs.Ythmekfijpfghkaa
