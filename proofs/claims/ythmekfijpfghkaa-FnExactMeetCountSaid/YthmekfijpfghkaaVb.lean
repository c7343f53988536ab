/- An event in plain numbers, and as it lies in memory; its size. -/
import Derived.Test.YthmekfijpfghkaaVa
namespace Go.Proofs.Ythmekfijpfghkaa
open Go.RowKit
set_option linter.unusedVariables false
/-- An event. -/
structure Ev where
  id : ByteArray
  ti : ByteArray
  zn : ByteArray
  st : Int
  lo : Int
  r : Rl
  ou : List Int
  ov : List OvR
/-- Where its lists lie. -/
structure Em where
  r : Rm
  ao : Option Addr
  co : Nat
  av : Option Addr
  cv : Nat
structure EMem (w : World) (e : Ev) (m : Em) : Prop where
  r : RMem w e.r m.r
  o : IsInts w m.ao e.ou
  v : IsOvers w m.av e.ov
theorem EMem.below {w w' : World} {e : Ev} {m : Em} (h : EMem w e m) (hb : Below w.heap.size w w') : EMem w' e m := ⟨h.r.below hb, h.o.below hb, h.v.below hb⟩
/-- An event of such sizes. -/
structure ESz (e : Ev) (n : Nat) : Prop where
  id : e.id.size ≤ n
  ti : e.ti.size ≤ n
  zn : e.zn.size ≤ n
  ds : e.r.ds.length ≤ n
  da : e.r.da.length ≤ n
  mo : e.r.mo.length ≤ n
  pl : e.r.pl.length ≤ n
  ou : e.ou.length ≤ n
abbrev EWide (e : Ev) : Prop := ESz e maxLen ∧ OWide e.ov
abbrev ESmall (e : Ev) : Prop := ESz e 1048576 ∧ OSmall e.ov
set_option maxHeartbeats 8000000 in
theorem lawSzRuleL (f ev ct un : Int) (a0 : Option Addr) (n0 c0 : Nat) (a1 : Option Addr) (n1 c1 : Nat) (a2 : Option Addr) (n2 c2 : Nat) (a3 : Option Addr) (n3 c3 : Nat) (wk left : Int) (w : World) (m0 : n0 ≤ maxLen) (m1 : n1 ≤ maxLen) (m2 : n2 ≤ maxLen) (m3 : n3 ≤ maxLen) (k0 : 0 ≤ left) (k1 : left ≤ 1048576) :
    Calls Try.prog 45 #[.agg #[.int .i64 f, .int .i64 ev, .int .i64 ct, .int .i64 un, .slice a0 n0 c0, .slice a1 n1 c1, .slice a2 n2 c2, .slice a3 n3 c3, .int .i64 wk], .int .i64 left] w fun e w' => (∃ r : Int, e = .returned (.int .i64 r) ∧ -1 ≤ r ∧ r ≤ left ∧ (0 ≤ r → n0 ≤ 1048576 ∧ n1 ≤ 1048576 ∧ n2 ≤ 1048576 ∧ n3 ≤ 1048576)) ∧ Below w.heap.size w w' := by
  have hb0 := (Below.refl w.heap.size w).alloc (Nat.le_refl _) (.cells #[.int .i64 f, .int .i64 ev, .int .i64 ct, .int .i64 un, .slice a0 n0 c0, .slice a1 n1 c1, .slice a2 n2 c2, .slice a3 n3 c3, .int .i64 wk] 25)
  by_cases t0 : (n0 : Int) ≤ left
  · by_cases t1 : (n0 : Int) + n1 ≤ left
    · by_cases t2 : (n0 : Int) + n1 + n2 ≤ left
      · by_cases t3 : (n0 : Int) + n1 + n2 + n3 ≤ left
        · go_enter Try.func45, Try.ntmps45
          go_wp2_with fail
          refine (lawSzBys _ _ _ _ _ m0 (by omega) (by omega)).mono ?_
          rintro e w' ⟨rfl, rfl⟩
          rw [sz_yes (by omega)]
          go_wp2_with fail
          refine (lawSzInts _ _ _ _ _ m1 (by omega) (by omega)).mono ?_
          rintro e w' ⟨rfl, rfl⟩
          rw [sz_yes (by omega)]
          go_wp2_with fail
          refine (lawSzInts _ _ _ _ _ m2 (by omega) (by omega)).mono ?_
          rintro e w' ⟨rfl, rfl⟩
          rw [sz_yes (by omega)]
          go_wp2_with fail
          refine (lawSzInts _ _ _ _ _ m3 (by omega) (by omega)).mono ?_
          rintro e w' ⟨rfl, rfl⟩
          rw [sz_yes (by omega)]
          go_wp2
          go_ret
          exact ⟨⟨_, rfl, by omega, by omega, fun _ => ⟨by omega, by omega, by omega, by omega⟩⟩, hb0⟩
        · go_enter Try.func45, Try.ntmps45
          go_wp2_with fail
          refine (lawSzBys _ _ _ _ _ m0 (by omega) (by omega)).mono ?_
          rintro e w' ⟨rfl, rfl⟩
          rw [sz_yes (by omega)]
          go_wp2_with fail
          refine (lawSzInts _ _ _ _ _ m1 (by omega) (by omega)).mono ?_
          rintro e w' ⟨rfl, rfl⟩
          rw [sz_yes (by omega)]
          go_wp2_with fail
          refine (lawSzInts _ _ _ _ _ m2 (by omega) (by omega)).mono ?_
          rintro e w' ⟨rfl, rfl⟩
          rw [sz_yes (by omega)]
          go_wp2_with fail
          refine (lawSzInts _ _ _ _ _ m3 (by omega) (by omega)).mono ?_
          rintro e w' ⟨rfl, rfl⟩
          rw [sz_no (by omega)]
          go_wp2
          go_ret
          exact ⟨⟨-1, rfl, by omega, by omega, fun h => by omega⟩, hb0⟩
      · go_enter Try.func45, Try.ntmps45
        go_wp2_with fail
        refine (lawSzBys _ _ _ _ _ m0 (by omega) (by omega)).mono ?_
        rintro e w' ⟨rfl, rfl⟩
        rw [sz_yes (by omega)]
        go_wp2_with fail
        refine (lawSzInts _ _ _ _ _ m1 (by omega) (by omega)).mono ?_
        rintro e w' ⟨rfl, rfl⟩
        rw [sz_yes (by omega)]
        go_wp2_with fail
        refine (lawSzInts _ _ _ _ _ m2 (by omega) (by omega)).mono ?_
        rintro e w' ⟨rfl, rfl⟩
        rw [sz_no (by omega)]
        go_wp2
        go_ret
        exact ⟨⟨-1, rfl, by omega, by omega, fun h => by omega⟩, hb0⟩
    · go_enter Try.func45, Try.ntmps45
      go_wp2_with fail
      refine (lawSzBys _ _ _ _ _ m0 (by omega) (by omega)).mono ?_
      rintro e w' ⟨rfl, rfl⟩
      rw [sz_yes (by omega)]
      go_wp2_with fail
      refine (lawSzInts _ _ _ _ _ m1 (by omega) (by omega)).mono ?_
      rintro e w' ⟨rfl, rfl⟩
      rw [sz_no (by omega)]
      go_wp2
      go_ret
      exact ⟨⟨-1, rfl, by omega, by omega, fun h => by omega⟩, hb0⟩
  · go_enter Try.func45, Try.ntmps45
    go_wp2_with fail
    refine (lawSzBys _ _ _ _ _ m0 (by omega) (by omega)).mono ?_
    rintro e w' ⟨rfl, rfl⟩
    rw [sz_no (by omega)]
    go_wp2
    go_ret
    exact ⟨⟨-1, rfl, by omega, by omega, fun h => by omega⟩, hb0⟩
set_option maxHeartbeats 8000000 in
theorem lawSzEvent (e : Ev) (m : Em) (left : Int) (w : World) (hm : EMem w e m) (hw : EWide e) (k0 : 0 ≤ left) (k1 : left ≤ 1048576) :
    Calls Try.prog 26 #[.agg #[.string e.id, .string e.ti, .string e.zn, .int .i64 e.st, .int .i64 e.lo, .int .i64 e.r.f, .int .i64 e.r.ev, .int .i64 e.r.ct, .int .i64 e.r.un, .slice m.r.a0 e.r.ds.length m.r.c0, .slice m.r.a1 e.r.da.length m.r.c1, .slice m.r.a2 e.r.mo.length m.r.c2, .slice m.r.a3 e.r.pl.length m.r.c3, .int .i64 e.r.wk, .slice m.ao e.ou.length m.co, .slice m.av e.ov.length m.cv], .int .i64 left] w fun z w' => (∃ r : Int, z = .returned (.int .i64 r) ∧ -1 ≤ r ∧ r ≤ left ∧ (0 ≤ r → ESmall e)) ∧ Below w.heap.size w w' := by
  obtain ⟨W0, hW0⟩ : ∃ W0, W0 = w.alloc (.cells #[.string e.id, .string e.ti, .string e.zn, .int .i64 e.st, .int .i64 e.lo, .int .i64 e.r.f, .int .i64 e.r.ev, .int .i64 e.r.ct, .int .i64 e.r.un, .slice m.r.a0 e.r.ds.length m.r.c0, .slice m.r.a1 e.r.da.length m.r.c1, .slice m.r.a2 e.r.mo.length m.r.c2, .slice m.r.a3 e.r.pl.length m.r.c3, .int .i64 e.r.wk, .slice m.ao e.ou.length m.co, .slice m.av e.ov.length m.cv] 28) := ⟨_, rfl⟩
  have hb0 : Below w.heap.size w W0 := by rw [hW0]; exact (Below.refl _ w).alloc (Nat.le_refl _) _
  have HW0 : Hid (W0 = w.alloc (.cells #[.string e.id, .string e.ti, .string e.zn, .int .i64 e.st, .int .i64 e.lo, .int .i64 e.r.f, .int .i64 e.r.ev, .int .i64 e.r.ct, .int .i64 e.r.un, .slice m.r.a0 e.r.ds.length m.r.c0, .slice m.r.a1 e.r.da.length m.r.c1, .slice m.r.a2 e.r.mo.length m.r.c2, .slice m.r.a3 e.r.pl.length m.r.c3, .int .i64 e.r.wk, .slice m.ao e.ou.length m.co, .slice m.av e.ov.length m.cv] 28)) := hW0
  have HC0 : Hid (CF W0 w.heap.size #[.string e.id, .string e.ti, .string e.zn, .int .i64 e.st, .int .i64 e.lo, .int .i64 e.r.f, .int .i64 e.r.ev, .int .i64 e.r.ct, .int .i64 e.r.un, .slice m.r.a0 e.r.ds.length m.r.c0, .slice m.r.a1 e.r.da.length m.r.c1, .slice m.r.a2 e.r.mo.length m.r.c2, .slice m.r.a3 e.r.pl.length m.r.c3, .int .i64 e.r.wk, .slice m.ao e.ou.length m.co, .slice m.av e.ov.length m.cv]) := by unfold Hid; rw [hW0]; exact CF.new _ _ _
  have HB0 : Hid (Below w.heap.size w W0) := hb0
  have HM : Hid (EMem W0 e m) := hm.below hb0
  obtain ⟨⟨z0, z1, z2, z3, z4, z5, z6, z7⟩, zo⟩ := hw
  have y0 : e.id.size ≤ 9223372036854775807 := z0
  have y1 : e.ti.size ≤ 9223372036854775807 := z1
  have y2 : e.zn.size ≤ 9223372036854775807 := z2
  have HBW : Hid (Below w.heap.size w (w.alloc (.cells #[.string e.id, .string e.ti, .string e.zn, .int .i64 e.st, .int .i64 e.lo, .int .i64 e.r.f, .int .i64 e.r.ev, .int .i64 e.r.ct, .int .i64 e.r.un, .slice m.r.a0 e.r.ds.length m.r.c0, .slice m.r.a1 e.r.da.length m.r.c1, .slice m.r.a2 e.r.mo.length m.r.c2, .slice m.r.a3 e.r.pl.length m.r.c3, .int .i64 e.r.wk, .slice m.ao e.ou.length m.co, .slice m.av e.ov.length m.cv] 28))) := by unfold Hid; rw [← hW0]; exact hb0
  clear hW0 hb0 hm
  by_cases t0 : (e.id.size : Int) ≤ left
  · by_cases t1 : (e.id.size : Int) + e.ti.size ≤ left
    · by_cases t2 : (e.id.size : Int) + e.ti.size + e.zn.size ≤ left
      · have q0 : ¬ left - (e.id.size : Int) < 0 := by omega
        have q1 : ¬ left - (e.id.size : Int) - (e.ti.size : Int) < 0 := by omega
        have q2 : ¬ left - (e.id.size : Int) - (e.ti.size : Int) - (e.zn.size : Int) < 0 := by omega
        go_enter Try.func26, Try.ntmps26
        go_wp2_with fail
        rw [← HW0.out]
        refine (lawSzRuleL _ _ _ _ _ _ _ _ _ _ _ _ _ _ _ _ _ _ W0 z3 z4 z5 z6 (by omega) (by omega)).mono ?_
        rintro z w1 ⟨⟨r1, rfl, r10, r11, r12⟩, b1⟩
        have HB1 : Hid (Below w.heap.size w w1) := bstep HB0.out b1
        have C1 := HC0.out.below b1
        have x14 := (C1.2 14 _ rfl).1
        have x15 := (C1.2 15 _ rfl).1
        have HM1 : Hid (EMem w1 e m) := HM.out.below b1
        have HR : Hid (0 ≤ r1 → e.r.ds.length ≤ 1048576 ∧ e.r.da.length ≤ 1048576 ∧ e.r.mo.length ≤ 1048576 ∧ e.r.pl.length ≤ 1048576) := r12
        clear b1 C1 r12
        by_cases t3 : 0 ≤ r1
        · have t3' : ¬ r1 < 0 := by omega
          go_wp2_with fail
          refine (lawSzInts _ _ _ r1 w1 z7 t3 (by omega)).mono ?_
          rintro z w2 ⟨rfl, rfl⟩
          by_cases t4 : (e.ou.length : Int) ≤ r1
          · rw [sz_yes t4]
            have t4' : ¬ r1 - (e.ou.length : Int) < 0 := by omega
            go_wp2_with fail
            refine (lawSzOvers _ _ e.ov _ w2 HM1.out.v zo (by omega) (by omega)).mono ?_
            rintro z w3 ⟨⟨r3, rfl, r30, r31, r32⟩, b3⟩
            have HB3 : Hid (Below w.heap.size w w3) := bstep HB1.out b3
            have HO : Hid (0 ≤ r3 → OSmall e.ov) := r32
            clear b3 r32
            by_cases t5 : 0 ≤ r3
            · have t5' : ¬ r3 < 0 := by omega
              go_wp2
              go_ret
              obtain ⟨a0, a1, a2, a3⟩ := HR.out t3
              exact ⟨⟨r3, rfl, by omega, by omega, fun _ => ⟨⟨by omega, by omega, by omega, a0, a1, a2, a3, by omega⟩, HO.out t5⟩⟩, HB3.out⟩
            · have t5' : r3 < 0 := by omega
              go_wp2
              go_ret
              exact ⟨⟨-1, rfl, by omega, by omega, fun h => by omega⟩, HB3.out⟩
          · rw [sz_no t4]
            go_wp2
            go_ret
            exact ⟨⟨-1, rfl, by omega, by omega, fun h => by omega⟩, HB1.out⟩
        · have t3' : r1 < 0 := by omega
          go_wp2
          go_ret
          exact ⟨⟨-1, rfl, by omega, by omega, fun h => by omega⟩, HB1.out⟩
      · have q2 : left - (e.id.size : Int) - (e.ti.size : Int) - (e.zn.size : Int) < 0 := by omega
        have q0 : ¬ left - (e.id.size : Int) < 0 := by omega
        have q1 : ¬ left - (e.id.size : Int) - (e.ti.size : Int) < 0 := by omega
        go_enter Try.func26, Try.ntmps26
        go_wp2
        go_ret
        exact ⟨⟨-1, rfl, by omega, by omega, fun h => by omega⟩, HBW.out⟩
    · have q1 : left - (e.id.size : Int) - (e.ti.size : Int) < 0 := by omega
      have q0 : ¬ left - (e.id.size : Int) < 0 := by omega
      go_enter Try.func26, Try.ntmps26
      go_wp2
      go_ret
      exact ⟨⟨-1, rfl, by omega, by omega, fun h => by omega⟩, HBW.out⟩
  · have q0 : left - (e.id.size : Int) < 0 := by omega
    go_enter Try.func26, Try.ntmps26
    go_wp2
    go_ret
    exact ⟨⟨-1, rfl, by omega, by omega, fun h => by omega⟩, HBW.out⟩
end Go.Proofs.Ythmekfijpfghkaa
