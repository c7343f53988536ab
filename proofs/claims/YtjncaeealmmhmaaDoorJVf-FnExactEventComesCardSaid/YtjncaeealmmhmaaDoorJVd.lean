/- The exact laws' own helpers over rules: a rule's copy, its lists new, and such as may be written. -/
import Derived.Test.YtjncaeealmmhmaaDoorRf
import Derived.Test.YtjncaeealmmhmaaDoorJVe
namespace Go.Proofs.YtjncaeealmmhmaaDoor
open Go.RowKit
set_option linter.unusedVariables false
set_option maxRecDepth 100000 in
set_option maxHeartbeats 16000000 in
theorem lawToRuleF (f ev ct un : Int) (a0 : Option Addr) (c0 : Nat) (ds : List (Int × Int)) (a1 : Option Addr) (c1 : Nat) (da : List Int) (a2 : Option Addr) (c2 : Nat) (mo : List Int) (a3 : Option Addr) (c3 : Nat) (pl : List Int) (wk : Int) (w : World) (h0 : IsTurns w a0 ds) (h1 : IsInts w a1 da) (h2 : IsInts w a2 mo) (h3 : IsInts w a3 pl) (l0 : ds.length ≤ 2000000) (l1 : da.length ≤ 2000000) (l2 : mo.length ≤ 2000000) (l3 : pl.length ≤ 2000000) :
    Calls Tryd.prog 8 #[.agg #[.int .i64 f, .int .i64 ev, .int .i64 ct, .int .i64 un, .slice a0 ds.length c0, .slice a1 da.length c1, .slice a2 mo.length c2, .slice a3 pl.length c3, .int .i64 wk]] w fun z w' => ∃ g0 g1 g2 g3, z = .returned (.agg #[.int .i64 f, .int .i64 ev, .int .i64 ct, .int .i64 un, .slice (some ⟨g0, 0, none⟩) ds.length ds.length, .slice (some ⟨g1, 0, none⟩) da.length da.length, .slice (some ⟨g2, 0, none⟩) mo.length mo.length, .slice (some ⟨g3, 0, none⟩) pl.length pl.length, .int .i64 wk]) ∧ IsTurns w' (some ⟨g0, 0, none⟩) ds ∧ IsInts w' (some ⟨g1, 0, none⟩) da ∧ IsInts w' (some ⟨g2, 0, none⟩) mo ∧ IsInts w' (some ⟨g3, 0, none⟩) pl ∧ Below w.heap.size w w' ∧ w.heap.size ≤ g0 ∧ g0 < g1 ∧ g1 < g2 ∧ g2 < g3 ∧ FT w' g0 ds.length ∧ FI w' g1 da.length ∧ FI w' g2 mo.length ∧ FI w' g3 pl.length := by
  have T0 : TR w (((w.alloc (.cells #[.int .i64 f, .int .i64 ev, .int .i64 ct, .int .i64 un, .slice a0 ds.length c0, .slice a1 da.length c1, .slice a2 mo.length c2, .slice a3 pl.length c3, .int .i64 wk] 25)).alloc (.cells #[.int .i64 0, .int .i64 0, .int .i64 0, .int .i64 0, .slice none 0 0, .slice none 0 0, .slice none 0 0, .slice none 0 0, .int .i64 0] 30)).alloc (.cells #[.int .i64 f, .int .i64 ev, .int .i64 ct, .int .i64 un, .slice none 0 0, .slice none 0 0, .slice none 0 0, .slice none 0 0, .int .i64 0] 30)) w.heap.size #[.int .i64 f, .int .i64 ev, .int .i64 ct, .int .i64 un, .slice a0 ds.length c0, .slice a1 da.length c1, .slice a2 mo.length c2, .slice a3 pl.length c3, .int .i64 wk] #[.int .i64 f, .int .i64 ev, .int .i64 ct, .int .i64 un, .slice none 0 0, .slice none 0 0, .slice none 0 0, .slice none 0 0, .int .i64 0] #[.int .i64 0, .int .i64 0, .int .i64 0, .int .i64 0, .slice none 0 0, .slice none 0 0, .slice none 0 0, .slice none 0 0, .int .i64 0] := by
    refine ⟨((CF.new w _ _).past _).past _, ?_, ?_, (((Below.refl _ _).alloc (Nat.le_refl _) _).alloc (by simp) _).alloc (by simp; omega) _⟩
    · have := CF.new ((w.alloc (.cells #[.int .i64 f, .int .i64 ev, .int .i64 ct, .int .i64 un, .slice a0 ds.length c0, .slice a1 da.length c1, .slice a2 mo.length c2, .slice a3 pl.length c3, .int .i64 wk] 25)).alloc (.cells #[.int .i64 0, .int .i64 0, .int .i64 0, .int .i64 0, .slice none 0 0, .slice none 0 0, .slice none 0 0, .slice none 0 0, .int .i64 0] 30)) #[.int .i64 f, .int .i64 ev, .int .i64 ct, .int .i64 un, .slice none 0 0, .slice none 0 0, .slice none 0 0, .slice none 0 0, .int .i64 0] 30
      simpa using this
    · have := (CF.new (w.alloc (.cells #[.int .i64 f, .int .i64 ev, .int .i64 ct, .int .i64 un, .slice a0 ds.length c0, .slice a1 da.length c1, .slice a2 mo.length c2, .slice a3 pl.length c3, .int .i64 wk] 25)) #[.int .i64 0, .int .i64 0, .int .i64 0, .int .i64 0, .slice none 0 0, .slice none 0 0, .slice none 0 0, .slice none 0 0, .int .i64 0] 30).past (.cells #[.int .i64 f, .int .i64 ev, .int .i64 ct, .int .i64 un, .slice none 0 0, .slice none 0 0, .slice none 0 0, .slice none 0 0, .int .i64 0] 30)
      simpa using this
  go_enter Tryd.func8, Tryd.ntmps8
  go_wp2_with fail
  generalize ((w.alloc (.cells #[.int .i64 f, .int .i64 ev, .int .i64 ct, .int .i64 un, .slice a0 ds.length c0, .slice a1 da.length c1, .slice a2 mo.length c2, .slice a3 pl.length c3, .int .i64 wk] 25)).alloc (.cells #[.int .i64 0, .int .i64 0, .int .i64 0, .int .i64 0, .slice none 0 0, .slice none 0 0, .slice none 0 0, .slice none 0 0, .int .i64 0] 30)).alloc (.cells #[.int .i64 f, .int .i64 ev, .int .i64 ct, .int .i64 un, .slice none 0 0, .slice none 0 0, .slice none 0 0, .slice none 0 0, .int .i64 0] 30) = V0 at T0 ⊢
  refine (lawToBys a0 c0 ds _ (h0.below (B := 0) T0.b) l0).mono ?_
  rintro z w1 ⟨rfl, I0, b1, G0⟩
  have gl0 := G0.lt
  have lt0 := T0.o.1
  have sz0 := b1.size
  have U0 := T0.below b1
  have o4 := U0.o.2 4 (.slice none 0 0) rfl
  have p5 := (U0.p.2 5 _ rfl).1
  obtain ⟨o4c, o4f⟩ := o4
  go_wp2_with fail
  have T1 : TR w (w1.setCell ⟨w.heap.size + 1 + 1, 4, none⟩ (.slice (some ⟨V0.heap.size, 0, none⟩) ds.length ds.length)) w.heap.size #[.int .i64 f, .int .i64 ev, .int .i64 ct, .int .i64 un, .slice a0 ds.length c0, .slice a1 da.length c1, .slice a2 mo.length c2, .slice a3 pl.length c3, .int .i64 wk] #[.int .i64 f, .int .i64 ev, .int .i64 ct, .int .i64 un, .slice (some ⟨V0.heap.size, 0, none⟩) ds.length ds.length, .slice none 0 0, .slice none 0 0, .slice none 0 0, .int .i64 0] #[.int .i64 0, .int .i64 0, .int .i64 0, .int .i64 0, .slice none 0 0, .slice none 0 0, .slice none 0 0, .slice none 0 0, .int .i64 0] := U0.set (Nat.le_refl _) 4 _ (by simp)
  replace I0 := I0.setCell (p := ⟨w.heap.size + 1 + 1, 4, none⟩) (by simp; omega) (.slice (some ⟨V0.heap.size, 0, none⟩) ds.length ds.length)
  replace G0 := G0.setCell ⟨w.heap.size + 1 + 1, 4, none⟩ (.slice (some ⟨V0.heap.size, 0, none⟩) ds.length ds.length)
  generalize hV1 : w1.setCell ⟨w.heap.size + 1 + 1, 4, none⟩ (.slice (some ⟨V0.heap.size, 0, none⟩) ds.length ds.length) = V1 at T1 I0 G0 ⊢
  have sV1 : Hid (V1.heap.size = w1.heap.size) := by unfold Hid; rw [← hV1]; simp
  clear hV1
  clear o4c o4f p5 U0
  refine (lawToInts a1 c1 da _ (h1.below T1.b) l1).mono ?_
  rintro z w2 ⟨rfl, I1, b2, G1⟩
  have gl1 := G1.lt
  have lt1 := T1.o.1
  replace I0 := I0.below (B := 0) b2
  replace G0 := G0.below b2
  have sz1 := b2.size
  have U1 := T1.below b2
  have o5 := U1.o.2 5 (.slice none 0 0) rfl
  have p6 := (U1.p.2 6 _ rfl).1
  obtain ⟨o5c, o5f⟩ := o5
  go_wp2_with fail
  have T2 : TR w (w2.setCell ⟨w.heap.size + 1 + 1, 5, none⟩ (.slice (some ⟨V1.heap.size, 0, none⟩) da.length da.length)) w.heap.size #[.int .i64 f, .int .i64 ev, .int .i64 ct, .int .i64 un, .slice a0 ds.length c0, .slice a1 da.length c1, .slice a2 mo.length c2, .slice a3 pl.length c3, .int .i64 wk] #[.int .i64 f, .int .i64 ev, .int .i64 ct, .int .i64 un, .slice (some ⟨V0.heap.size, 0, none⟩) ds.length ds.length, .slice (some ⟨V1.heap.size, 0, none⟩) da.length da.length, .slice none 0 0, .slice none 0 0, .int .i64 0] #[.int .i64 0, .int .i64 0, .int .i64 0, .int .i64 0, .slice none 0 0, .slice none 0 0, .slice none 0 0, .slice none 0 0, .int .i64 0] := U1.set (Nat.le_refl _) 5 _ (by simp)
  replace I0 := I0.setCell (p := ⟨w.heap.size + 1 + 1, 5, none⟩) (by simp; omega) (.slice (some ⟨V1.heap.size, 0, none⟩) da.length da.length)
  replace G0 := G0.setCell ⟨w.heap.size + 1 + 1, 5, none⟩ (.slice (some ⟨V1.heap.size, 0, none⟩) da.length da.length)
  replace I1 := I1.setCell (p := ⟨w.heap.size + 1 + 1, 5, none⟩) (by simp; omega) (.slice (some ⟨V1.heap.size, 0, none⟩) da.length da.length)
  replace G1 := G1.setCell ⟨w.heap.size + 1 + 1, 5, none⟩ (.slice (some ⟨V1.heap.size, 0, none⟩) da.length da.length)
  generalize hV2 : w2.setCell ⟨w.heap.size + 1 + 1, 5, none⟩ (.slice (some ⟨V1.heap.size, 0, none⟩) da.length da.length) = V2 at T2 I0 I1 G0 G1 ⊢
  have sV2 : Hid (V2.heap.size = w2.heap.size) := by unfold Hid; rw [← hV2]; simp
  clear hV2
  clear o5c o5f p6 U1
  refine (lawToInts a2 c2 mo _ (h2.below T2.b) l2).mono ?_
  rintro z w3 ⟨rfl, I2, b3, G2⟩
  have gl2 := G2.lt
  have lt2 := T2.o.1
  replace I0 := I0.below (B := 0) b3
  replace G0 := G0.below b3
  replace I1 := I1.below  b3
  replace G1 := G1.below b3
  have sz2 := b3.size
  have U2 := T2.below b3
  have o6 := U2.o.2 6 (.slice none 0 0) rfl
  have p7 := (U2.p.2 7 _ rfl).1
  obtain ⟨o6c, o6f⟩ := o6
  go_wp2_with fail
  have T3 : TR w (w3.setCell ⟨w.heap.size + 1 + 1, 6, none⟩ (.slice (some ⟨V2.heap.size, 0, none⟩) mo.length mo.length)) w.heap.size #[.int .i64 f, .int .i64 ev, .int .i64 ct, .int .i64 un, .slice a0 ds.length c0, .slice a1 da.length c1, .slice a2 mo.length c2, .slice a3 pl.length c3, .int .i64 wk] #[.int .i64 f, .int .i64 ev, .int .i64 ct, .int .i64 un, .slice (some ⟨V0.heap.size, 0, none⟩) ds.length ds.length, .slice (some ⟨V1.heap.size, 0, none⟩) da.length da.length, .slice (some ⟨V2.heap.size, 0, none⟩) mo.length mo.length, .slice none 0 0, .int .i64 0] #[.int .i64 0, .int .i64 0, .int .i64 0, .int .i64 0, .slice none 0 0, .slice none 0 0, .slice none 0 0, .slice none 0 0, .int .i64 0] := U2.set (Nat.le_refl _) 6 _ (by simp)
  replace I0 := I0.setCell (p := ⟨w.heap.size + 1 + 1, 6, none⟩) (by simp; omega) (.slice (some ⟨V2.heap.size, 0, none⟩) mo.length mo.length)
  replace G0 := G0.setCell ⟨w.heap.size + 1 + 1, 6, none⟩ (.slice (some ⟨V2.heap.size, 0, none⟩) mo.length mo.length)
  replace I1 := I1.setCell (p := ⟨w.heap.size + 1 + 1, 6, none⟩) (by simp; omega) (.slice (some ⟨V2.heap.size, 0, none⟩) mo.length mo.length)
  replace G1 := G1.setCell ⟨w.heap.size + 1 + 1, 6, none⟩ (.slice (some ⟨V2.heap.size, 0, none⟩) mo.length mo.length)
  replace I2 := I2.setCell (p := ⟨w.heap.size + 1 + 1, 6, none⟩) (by simp; omega) (.slice (some ⟨V2.heap.size, 0, none⟩) mo.length mo.length)
  replace G2 := G2.setCell ⟨w.heap.size + 1 + 1, 6, none⟩ (.slice (some ⟨V2.heap.size, 0, none⟩) mo.length mo.length)
  generalize hV3 : w3.setCell ⟨w.heap.size + 1 + 1, 6, none⟩ (.slice (some ⟨V2.heap.size, 0, none⟩) mo.length mo.length) = V3 at T3 I0 I1 I2 G0 G1 G2 ⊢
  have sV3 : Hid (V3.heap.size = w3.heap.size) := by unfold Hid; rw [← hV3]; simp
  clear hV3
  clear o6c o6f p7 U2
  refine (lawToInts a3 c3 pl _ (h3.below T3.b) l3).mono ?_
  rintro z w4 ⟨rfl, I3, b4, G3⟩
  have gl3 := G3.lt
  have lt3 := T3.o.1
  replace I0 := I0.below (B := 0) b4
  replace G0 := G0.below b4
  replace I1 := I1.below  b4
  replace G1 := G1.below b4
  replace I2 := I2.below  b4
  replace G2 := G2.below b4
  have sz3 := b4.size
  have U3 := T3.below b4
  have o7 := U3.o.2 7 (.slice none 0 0) rfl
  have p8 := (U3.p.2 8 _ rfl).1
  obtain ⟨o7c, o7f⟩ := o7
  have X8 := U3.o.2 8 (.int .i64 0) rfl
  obtain ⟨o8c, o8f⟩ := X8
  have o0 := (U3.o.2 0 _ rfl).1
  have o1 := (U3.o.2 1 _ rfl).1
  have o2 := (U3.o.2 2 _ rfl).1
  have o3 := (U3.o.2 3 _ rfl).1
  have o4 := (U3.o.2 4 _ rfl).1
  have o5 := (U3.o.2 5 _ rfl).1
  have o6 := (U3.o.2 6 _ rfl).1
  obtain ⟨r0, rf0⟩ := U3.r.2 0 _ rfl
  obtain ⟨r1, rf1⟩ := U3.r.2 1 _ rfl
  obtain ⟨r2, rf2⟩ := U3.r.2 2 _ rfl
  obtain ⟨r3, rf3⟩ := U3.r.2 3 _ rfl
  obtain ⟨r4, rf4⟩ := U3.r.2 4 _ rfl
  obtain ⟨r5, rf5⟩ := U3.r.2 5 _ rfl
  obtain ⟨r6, rf6⟩ := U3.r.2 6 _ rfl
  obtain ⟨r7, rf7⟩ := U3.r.2 7 _ rfl
  obtain ⟨r8, rf8⟩ := U3.r.2 8 _ rfl
  have bz : w.heap.size + 1 + 1 < w4.heap.size := U3.o.1
  have bz1 : w.heap.size + 1 < w4.heap.size := by omega
  have BF : Hid (Below w.heap.size w w4) := U3.b
  have J0 := I0
  have HG : Hid (FT w4 V0.heap.size ds.length ∧ FI w4 V1.heap.size da.length ∧ FI w4 V2.heap.size mo.length ∧ FI w4 V3.heap.size pl.length) := ⟨G0, G1, G2, G3⟩
  have HO : Hid (w.heap.size ≤ V0.heap.size ∧ V0.heap.size < V1.heap.size ∧ V1.heap.size < V2.heap.size ∧ V2.heap.size < V3.heap.size) := by have s1 := sV1.out; have s2 := sV2.out; have s3 := sV3.out; exact ⟨by omega, by omega, by omega, by omega⟩
  have HJ0 : Hid (IsTurns w4 (some ⟨V0.heap.size, 0, none⟩) ds ∧ w.heap.size + 1 + 1 < V0.heap.size) := ⟨I0, lt0⟩
  have J1 := I1
  have HJ1 : Hid (IsInts w4 (some ⟨V1.heap.size, 0, none⟩) da ∧ w.heap.size + 1 + 1 < V1.heap.size) := ⟨I1, lt1⟩
  have J2 := I2
  have HJ2 : Hid (IsInts w4 (some ⟨V2.heap.size, 0, none⟩) mo ∧ w.heap.size + 1 + 1 < V2.heap.size) := ⟨I2, lt2⟩
  have J3 := I3
  have HJ3 : Hid (IsInts w4 (some ⟨V3.heap.size, 0, none⟩) pl ∧ w.heap.size + 1 + 1 < V3.heap.size) := ⟨I3, lt3⟩
  clear J0 J1 J2 J3 I0 I1 I2 I3 G0 G1 G2 G3 gl0 gl1 gl2 gl3 sV1 sV2 sV3 U3 T0 T1 T2 T3 h0 h1 h2 h3 b1 b2 b3 b4
  go_wp2
  refine bodyPost_ret (v := .agg #[.int .i64 f, .int .i64 ev, .int .i64 ct, .int .i64 un, .slice (some ⟨V0.heap.size, 0, none⟩) ds.length ds.length, .slice (some ⟨V1.heap.size, 0, none⟩) da.length da.length, .slice (some ⟨V2.heap.size, 0, none⟩) mo.length mo.length, .slice (some ⟨V3.heap.size, 0, none⟩) pl.length pl.length, .int .i64 wk]) (by simp [results, Tryd.results8, go_sem, *]) rfl ⟨_, _, _, _, rfl, ?_, ?_, ?_, ?_, ?_, HO.out.1, HO.out.2.1, HO.out.2.2.1, HO.out.2.2.2, ?_, ?_, ?_, ?_⟩
  · have hj := HJ0.out.2
    repeat (first | with_reducible exact HJ0.out.1 | with_reducible refine IsTurns.setCell ?_ (by simp; omega) _)
  · have hj := HJ1.out.2
    repeat (first | with_reducible exact HJ1.out.1 | with_reducible refine IsInts.setCell ?_ (by simp; omega) _)
  · have hj := HJ2.out.2
    repeat (first | with_reducible exact HJ2.out.1 | with_reducible refine IsInts.setCell ?_ (by simp; omega) _)
  · have hj := HJ3.out.2
    repeat (first | with_reducible exact HJ3.out.1 | with_reducible refine IsInts.setCell ?_ (by simp; omega) _)
  · repeat (first | with_reducible exact BF.out | with_reducible refine Below.setCell ?_ (by first | (simp; done) | (simp; omega)) _)
  · repeat (first | with_reducible exact HG.out.1 | with_reducible refine FT.setCell ?_ _ _)
  · repeat (first | with_reducible exact HG.out.2.1 | with_reducible refine FI.setCell ?_ _ _)
  · repeat (first | with_reducible exact HG.out.2.2.1 | with_reducible refine FI.setCell ?_ _ _)
  · repeat (first | with_reducible exact HG.out.2.2.2 | with_reducible refine FI.setCell ?_ _ _)
end Go.Proofs.YtjncaeealmmhmaaDoor
namespace Go.Proofs.YtjncaeealmmhmaaDoor
open Go.RowKit
set_option linter.unusedVariables false
/-- An event's lists in new blocks, one behind the other, that may be written. -/
structure EOwn (w : World) (e : Ev) (m : Em) (lo : Nat) : Prop where
  mem : EMem w e m
  new : ∃ g0 g1 g2 g3 g4 g5, m = ⟨⟨some ⟨g0, 0, none⟩, e.r.ds.length, some ⟨g1, 0, none⟩, e.r.da.length, some ⟨g2, 0, none⟩, e.r.mo.length, some ⟨g3, 0, none⟩, e.r.pl.length⟩, some ⟨g4, 0, none⟩, e.ou.length, some ⟨g5, 0, none⟩, e.ov.length⟩ ∧ lo ≤ g0 ∧ g0 < g1 ∧ g1 < g2 ∧ g2 < g3 ∧ g3 < g4 ∧ g4 < g5 ∧ FT w g0 e.r.ds.length ∧ FI w g1 e.r.da.length ∧ FI w g2 e.r.mo.length ∧ FI w g3 e.r.pl.length ∧ FI w g4 e.ou.length ∧ FO w g5 e.ov.length
structure TE (w W : World) (B : Nat) (ps os rs : Array Value) : Prop where
  p : CF W B ps
  o : CF W (B + 1 + 1) os
  r : CF W (B + 1) rs
  b : Below w.heap.size w W
theorem TE.below {w W W' : World} {B : Nat} {ps os rs : Array Value} (h : TE w W B ps os rs) (hb : Below W.heap.size W W') : TE w W' B ps os rs :=
  ⟨h.p.below hb, h.o.below hb, h.r.below hb, bstep h.b hb⟩
theorem TE.set {w W : World} {B : Nat} {ps os rs : Array Value} (h : TE w W B ps os rs) (hB : w.heap.size ≤ B) (i : Nat) (v : Value) (hi : i < os.size) : TE w (W.setCell ⟨B + 1 + 1, i, none⟩ v) B ps (os.set! i v) rs :=
  ⟨h.p.other i v (by omega), h.o.set i v hi, h.r.other i v (by omega), h.b.setCell (p := ⟨B + 1 + 1, i, none⟩) (by simp; omega) _⟩
theorem TE.nine {w W : World} {B : Nat} {ps rs : Array Value} {x0 x1 x2 x3 x4 x5 x6 x7 x8 x9 x10 x11 x12 x13 x14 x15 : Value} (h : TE w W B ps #[x0, x1, x2, x3, x4, x5, x6, x7, x8, x9, x10, x11, x12, x13, x14, x15] rs) (hB : w.heap.size ≤ B) (v5 v6 v7 v8 v9 v10 v11 v12 v13 : Value) : TE w (((((((((W.setCell ⟨B + 1 + 1, 5, none⟩ v5).setCell ⟨B + 1 + 1, 6, none⟩ v6).setCell ⟨B + 1 + 1, 7, none⟩ v7).setCell ⟨B + 1 + 1, 8, none⟩ v8).setCell ⟨B + 1 + 1, 9, none⟩ v9).setCell ⟨B + 1 + 1, 10, none⟩ v10).setCell ⟨B + 1 + 1, 11, none⟩ v11).setCell ⟨B + 1 + 1, 12, none⟩ v12).setCell ⟨B + 1 + 1, 13, none⟩ v13) B ps #[x0, x1, x2, x3, x4, v5, v6, v7, v8, v9, v10, v11, v12, v13, x14, x15] rs := by
  have h5 : TE w (W.setCell ⟨B + 1 + 1, 5, none⟩ v5) B ps #[x0, x1, x2, x3, x4, v5, x6, x7, x8, x9, x10, x11, x12, x13, x14, x15] rs := h.set hB 5 v5 (by simp)
  have h6 : TE w ((W.setCell ⟨B + 1 + 1, 5, none⟩ v5).setCell ⟨B + 1 + 1, 6, none⟩ v6) B ps #[x0, x1, x2, x3, x4, v5, v6, x7, x8, x9, x10, x11, x12, x13, x14, x15] rs := h5.set hB 6 v6 (by simp)
  have h7 : TE w (((W.setCell ⟨B + 1 + 1, 5, none⟩ v5).setCell ⟨B + 1 + 1, 6, none⟩ v6).setCell ⟨B + 1 + 1, 7, none⟩ v7) B ps #[x0, x1, x2, x3, x4, v5, v6, v7, x8, x9, x10, x11, x12, x13, x14, x15] rs := h6.set hB 7 v7 (by simp)
  have h8 : TE w ((((W.setCell ⟨B + 1 + 1, 5, none⟩ v5).setCell ⟨B + 1 + 1, 6, none⟩ v6).setCell ⟨B + 1 + 1, 7, none⟩ v7).setCell ⟨B + 1 + 1, 8, none⟩ v8) B ps #[x0, x1, x2, x3, x4, v5, v6, v7, v8, x9, x10, x11, x12, x13, x14, x15] rs := h7.set hB 8 v8 (by simp)
  have h9 : TE w (((((W.setCell ⟨B + 1 + 1, 5, none⟩ v5).setCell ⟨B + 1 + 1, 6, none⟩ v6).setCell ⟨B + 1 + 1, 7, none⟩ v7).setCell ⟨B + 1 + 1, 8, none⟩ v8).setCell ⟨B + 1 + 1, 9, none⟩ v9) B ps #[x0, x1, x2, x3, x4, v5, v6, v7, v8, v9, x10, x11, x12, x13, x14, x15] rs := h8.set hB 9 v9 (by simp)
  have h10 : TE w ((((((W.setCell ⟨B + 1 + 1, 5, none⟩ v5).setCell ⟨B + 1 + 1, 6, none⟩ v6).setCell ⟨B + 1 + 1, 7, none⟩ v7).setCell ⟨B + 1 + 1, 8, none⟩ v8).setCell ⟨B + 1 + 1, 9, none⟩ v9).setCell ⟨B + 1 + 1, 10, none⟩ v10) B ps #[x0, x1, x2, x3, x4, v5, v6, v7, v8, v9, v10, x11, x12, x13, x14, x15] rs := h9.set hB 10 v10 (by simp)
  have h11 : TE w (((((((W.setCell ⟨B + 1 + 1, 5, none⟩ v5).setCell ⟨B + 1 + 1, 6, none⟩ v6).setCell ⟨B + 1 + 1, 7, none⟩ v7).setCell ⟨B + 1 + 1, 8, none⟩ v8).setCell ⟨B + 1 + 1, 9, none⟩ v9).setCell ⟨B + 1 + 1, 10, none⟩ v10).setCell ⟨B + 1 + 1, 11, none⟩ v11) B ps #[x0, x1, x2, x3, x4, v5, v6, v7, v8, v9, v10, v11, x12, x13, x14, x15] rs := h10.set hB 11 v11 (by simp)
  have h12 : TE w ((((((((W.setCell ⟨B + 1 + 1, 5, none⟩ v5).setCell ⟨B + 1 + 1, 6, none⟩ v6).setCell ⟨B + 1 + 1, 7, none⟩ v7).setCell ⟨B + 1 + 1, 8, none⟩ v8).setCell ⟨B + 1 + 1, 9, none⟩ v9).setCell ⟨B + 1 + 1, 10, none⟩ v10).setCell ⟨B + 1 + 1, 11, none⟩ v11).setCell ⟨B + 1 + 1, 12, none⟩ v12) B ps #[x0, x1, x2, x3, x4, v5, v6, v7, v8, v9, v10, v11, v12, x13, x14, x15] rs := h11.set hB 12 v12 (by simp)
  have h13 : TE w (((((((((W.setCell ⟨B + 1 + 1, 5, none⟩ v5).setCell ⟨B + 1 + 1, 6, none⟩ v6).setCell ⟨B + 1 + 1, 7, none⟩ v7).setCell ⟨B + 1 + 1, 8, none⟩ v8).setCell ⟨B + 1 + 1, 9, none⟩ v9).setCell ⟨B + 1 + 1, 10, none⟩ v10).setCell ⟨B + 1 + 1, 11, none⟩ v11).setCell ⟨B + 1 + 1, 12, none⟩ v12).setCell ⟨B + 1 + 1, 13, none⟩ v13) B ps #[x0, x1, x2, x3, x4, v5, v6, v7, v8, v9, v10, v11, v12, v13, x14, x15] rs := h12.set hB 13 v13 (by simp)
  exact h13
theorem IsTurns.nine {W : World} {b g : Nat} {l : List (Int × Int)} (h : IsTurns W (some ⟨g, 0, none⟩) l) (hb : b ≠ g) (v5 v6 v7 v8 v9 v10 v11 v12 v13 : Value) : IsTurns (((((((((W.setCell ⟨b, 5, none⟩ v5).setCell ⟨b, 6, none⟩ v6).setCell ⟨b, 7, none⟩ v7).setCell ⟨b, 8, none⟩ v8).setCell ⟨b, 9, none⟩ v9).setCell ⟨b, 10, none⟩ v10).setCell ⟨b, 11, none⟩ v11).setCell ⟨b, 12, none⟩ v12).setCell ⟨b, 13, none⟩ v13) (some ⟨g, 0, none⟩) l :=
  ((((((((h.setCell (p := ⟨b, 5, none⟩) hb v5).setCell (p := ⟨b, 6, none⟩) hb v6).setCell (p := ⟨b, 7, none⟩) hb v7).setCell (p := ⟨b, 8, none⟩) hb v8).setCell (p := ⟨b, 9, none⟩) hb v9).setCell (p := ⟨b, 10, none⟩) hb v10).setCell (p := ⟨b, 11, none⟩) hb v11).setCell (p := ⟨b, 12, none⟩) hb v12).setCell (p := ⟨b, 13, none⟩) hb v13
theorem IsInts.nine {W : World} {b g : Nat} {l : List Int} (h : IsInts W (some ⟨g, 0, none⟩) l) (hb : b ≠ g) (v5 v6 v7 v8 v9 v10 v11 v12 v13 : Value) : IsInts (((((((((W.setCell ⟨b, 5, none⟩ v5).setCell ⟨b, 6, none⟩ v6).setCell ⟨b, 7, none⟩ v7).setCell ⟨b, 8, none⟩ v8).setCell ⟨b, 9, none⟩ v9).setCell ⟨b, 10, none⟩ v10).setCell ⟨b, 11, none⟩ v11).setCell ⟨b, 12, none⟩ v12).setCell ⟨b, 13, none⟩ v13) (some ⟨g, 0, none⟩) l :=
  ((((((((h.setCell (p := ⟨b, 5, none⟩) hb v5).setCell (p := ⟨b, 6, none⟩) hb v6).setCell (p := ⟨b, 7, none⟩) hb v7).setCell (p := ⟨b, 8, none⟩) hb v8).setCell (p := ⟨b, 9, none⟩) hb v9).setCell (p := ⟨b, 10, none⟩) hb v10).setCell (p := ⟨b, 11, none⟩) hb v11).setCell (p := ⟨b, 12, none⟩) hb v12).setCell (p := ⟨b, 13, none⟩) hb v13
theorem FT.nine {W : World} {b g n : Nat} (h : FT W g n) (v5 v6 v7 v8 v9 v10 v11 v12 v13 : Value) : FT (((((((((W.setCell ⟨b, 5, none⟩ v5).setCell ⟨b, 6, none⟩ v6).setCell ⟨b, 7, none⟩ v7).setCell ⟨b, 8, none⟩ v8).setCell ⟨b, 9, none⟩ v9).setCell ⟨b, 10, none⟩ v10).setCell ⟨b, 11, none⟩ v11).setCell ⟨b, 12, none⟩ v12).setCell ⟨b, 13, none⟩ v13) g n :=
  ((((((((h.setCell ⟨b, 5, none⟩ v5).setCell ⟨b, 6, none⟩ v6).setCell ⟨b, 7, none⟩ v7).setCell ⟨b, 8, none⟩ v8).setCell ⟨b, 9, none⟩ v9).setCell ⟨b, 10, none⟩ v10).setCell ⟨b, 11, none⟩ v11).setCell ⟨b, 12, none⟩ v12).setCell ⟨b, 13, none⟩ v13
theorem FI.nine {W : World} {b g n : Nat} (h : FI W g n) (v5 v6 v7 v8 v9 v10 v11 v12 v13 : Value) : FI (((((((((W.setCell ⟨b, 5, none⟩ v5).setCell ⟨b, 6, none⟩ v6).setCell ⟨b, 7, none⟩ v7).setCell ⟨b, 8, none⟩ v8).setCell ⟨b, 9, none⟩ v9).setCell ⟨b, 10, none⟩ v10).setCell ⟨b, 11, none⟩ v11).setCell ⟨b, 12, none⟩ v12).setCell ⟨b, 13, none⟩ v13) g n :=
  ((((((((h.setCell ⟨b, 5, none⟩ v5).setCell ⟨b, 6, none⟩ v6).setCell ⟨b, 7, none⟩ v7).setCell ⟨b, 8, none⟩ v8).setCell ⟨b, 9, none⟩ v9).setCell ⟨b, 10, none⟩ v10).setCell ⟨b, 11, none⟩ v11).setCell ⟨b, 12, none⟩ v12).setCell ⟨b, 13, none⟩ v13
set_option maxRecDepth 100000 in
set_option maxHeartbeats 16000000 in
theorem lawToEvent (e : Ev) (m : Em) (w : World) (hm : EMem w e m) (hs : ESmall e) :
    Calls Tryd.prog 19 #[.agg #[.string e.id, .string e.ti, .string e.zn, .int .i64 e.st, .int .i64 e.lo, .int .i64 e.r.f, .int .i64 e.r.ev, .int .i64 e.r.ct, .int .i64 e.r.un, .slice m.r.a0 e.r.ds.length m.r.c0, .slice m.r.a1 e.r.da.length m.r.c1, .slice m.r.a2 e.r.mo.length m.r.c2, .slice m.r.a3 e.r.pl.length m.r.c3, .int .i64 e.r.wk, .slice m.ao e.ou.length m.co, .slice m.av e.ov.length m.cv]] w fun z w' => ∃ n : Em, z = .returned (.agg #[.string e.id, .string e.ti, .string e.zn, .int .i64 e.st, .int .i64 e.lo, .int .i64 e.r.f, .int .i64 e.r.ev, .int .i64 e.r.ct, .int .i64 e.r.un, .slice n.r.a0 e.r.ds.length n.r.c0, .slice n.r.a1 e.r.da.length n.r.c1, .slice n.r.a2 e.r.mo.length n.r.c2, .slice n.r.a3 e.r.pl.length n.r.c3, .int .i64 e.r.wk, .slice n.ao e.ou.length n.co, .slice n.av e.ov.length n.cv]) ∧ EOwn w' e n w.heap.size ∧ Below w.heap.size w w' := by
  obtain ⟨⟨z0, z1, z2, z3, z4, z5, z6, z7⟩, zo, zt⟩ := hs
  have T0 : TE w ((((w).alloc (.cells #[.string e.id, .string e.ti, .string e.zn, .int .i64 e.st, .int .i64 e.lo, .int .i64 e.r.f, .int .i64 e.r.ev, .int .i64 e.r.ct, .int .i64 e.r.un, .slice m.r.a0 e.r.ds.length m.r.c0, .slice m.r.a1 e.r.da.length m.r.c1, .slice m.r.a2 e.r.mo.length m.r.c2, .slice m.r.a3 e.r.pl.length m.r.c3, .int .i64 e.r.wk, .slice m.ao e.ou.length m.co, .slice m.av e.ov.length m.cv] 40)).alloc (.cells #[.string ⟨#[]⟩, .string ⟨#[]⟩, .string ⟨#[]⟩, .int .i64 0, .int .i64 0, .int .i64 0, .int .i64 0, .int .i64 0, .int .i64 0, .slice none 0 0, .slice none 0 0, .slice none 0 0, .slice none 0 0, .int .i64 0, .slice none 0 0, .slice none 0 0] 45)).alloc (.cells #[.string e.id, .string e.ti, .string e.zn, .int .i64 e.st, .int .i64 e.lo, .int .i64 0, .int .i64 0, .int .i64 0, .int .i64 0, .slice none 0 0, .slice none 0 0, .slice none 0 0, .slice none 0 0, .int .i64 0, .slice none 0 0, .slice none 0 0] 45)) w.heap.size #[.string e.id, .string e.ti, .string e.zn, .int .i64 e.st, .int .i64 e.lo, .int .i64 e.r.f, .int .i64 e.r.ev, .int .i64 e.r.ct, .int .i64 e.r.un, .slice m.r.a0 e.r.ds.length m.r.c0, .slice m.r.a1 e.r.da.length m.r.c1, .slice m.r.a2 e.r.mo.length m.r.c2, .slice m.r.a3 e.r.pl.length m.r.c3, .int .i64 e.r.wk, .slice m.ao e.ou.length m.co, .slice m.av e.ov.length m.cv] #[.string e.id, .string e.ti, .string e.zn, .int .i64 e.st, .int .i64 e.lo, .int .i64 0, .int .i64 0, .int .i64 0, .int .i64 0, .slice none 0 0, .slice none 0 0, .slice none 0 0, .slice none 0 0, .int .i64 0, .slice none 0 0, .slice none 0 0] #[.string ⟨#[]⟩, .string ⟨#[]⟩, .string ⟨#[]⟩, .int .i64 0, .int .i64 0, .int .i64 0, .int .i64 0, .int .i64 0, .int .i64 0, .slice none 0 0, .slice none 0 0, .slice none 0 0, .slice none 0 0, .int .i64 0, .slice none 0 0, .slice none 0 0] := by
    refine ⟨((CF.new w _ _).past _).past _, ?_, ?_, (((Below.refl _ _).alloc (Nat.le_refl _) _).alloc (by simp) _).alloc (by simp; omega) _⟩
    · have := CF.new (((w).alloc (.cells #[.string e.id, .string e.ti, .string e.zn, .int .i64 e.st, .int .i64 e.lo, .int .i64 e.r.f, .int .i64 e.r.ev, .int .i64 e.r.ct, .int .i64 e.r.un, .slice m.r.a0 e.r.ds.length m.r.c0, .slice m.r.a1 e.r.da.length m.r.c1, .slice m.r.a2 e.r.mo.length m.r.c2, .slice m.r.a3 e.r.pl.length m.r.c3, .int .i64 e.r.wk, .slice m.ao e.ou.length m.co, .slice m.av e.ov.length m.cv] 40)).alloc (.cells #[.string ⟨#[]⟩, .string ⟨#[]⟩, .string ⟨#[]⟩, .int .i64 0, .int .i64 0, .int .i64 0, .int .i64 0, .int .i64 0, .int .i64 0, .slice none 0 0, .slice none 0 0, .slice none 0 0, .slice none 0 0, .int .i64 0, .slice none 0 0, .slice none 0 0] 45)) #[.string e.id, .string e.ti, .string e.zn, .int .i64 e.st, .int .i64 e.lo, .int .i64 0, .int .i64 0, .int .i64 0, .int .i64 0, .slice none 0 0, .slice none 0 0, .slice none 0 0, .slice none 0 0, .int .i64 0, .slice none 0 0, .slice none 0 0] 45
      simpa using this
    · have := (CF.new ((w).alloc (.cells #[.string e.id, .string e.ti, .string e.zn, .int .i64 e.st, .int .i64 e.lo, .int .i64 e.r.f, .int .i64 e.r.ev, .int .i64 e.r.ct, .int .i64 e.r.un, .slice m.r.a0 e.r.ds.length m.r.c0, .slice m.r.a1 e.r.da.length m.r.c1, .slice m.r.a2 e.r.mo.length m.r.c2, .slice m.r.a3 e.r.pl.length m.r.c3, .int .i64 e.r.wk, .slice m.ao e.ou.length m.co, .slice m.av e.ov.length m.cv] 40)) #[.string ⟨#[]⟩, .string ⟨#[]⟩, .string ⟨#[]⟩, .int .i64 0, .int .i64 0, .int .i64 0, .int .i64 0, .int .i64 0, .int .i64 0, .slice none 0 0, .slice none 0 0, .slice none 0 0, .slice none 0 0, .int .i64 0, .slice none 0 0, .slice none 0 0] 45).past (.cells #[.string e.id, .string e.ti, .string e.zn, .int .i64 e.st, .int .i64 e.lo, .int .i64 0, .int .i64 0, .int .i64 0, .int .i64 0, .slice none 0 0, .slice none 0 0, .slice none 0 0, .slice none 0 0, .int .i64 0, .slice none 0 0, .slice none 0 0] 45)
      simpa using this
  go_enter Tryd.func19, Tryd.ntmps19
  go_wp2_with fail
  generalize (((w).alloc (.cells #[.string e.id, .string e.ti, .string e.zn, .int .i64 e.st, .int .i64 e.lo, .int .i64 e.r.f, .int .i64 e.r.ev, .int .i64 e.r.ct, .int .i64 e.r.un, .slice m.r.a0 e.r.ds.length m.r.c0, .slice m.r.a1 e.r.da.length m.r.c1, .slice m.r.a2 e.r.mo.length m.r.c2, .slice m.r.a3 e.r.pl.length m.r.c3, .int .i64 e.r.wk, .slice m.ao e.ou.length m.co, .slice m.av e.ov.length m.cv] 40)).alloc (.cells #[.string ⟨#[]⟩, .string ⟨#[]⟩, .string ⟨#[]⟩, .int .i64 0, .int .i64 0, .int .i64 0, .int .i64 0, .int .i64 0, .int .i64 0, .slice none 0 0, .slice none 0 0, .slice none 0 0, .slice none 0 0, .int .i64 0, .slice none 0 0, .slice none 0 0] 45)).alloc (.cells #[.string e.id, .string e.ti, .string e.zn, .int .i64 e.st, .int .i64 e.lo, .int .i64 0, .int .i64 0, .int .i64 0, .int .i64 0, .slice none 0 0, .slice none 0 0, .slice none 0 0, .slice none 0 0, .int .i64 0, .slice none 0 0, .slice none 0 0] 45) = V0 at T0 ⊢
  refine (lawToRuleF _ _ _ _ _ _ e.r.ds _ _ e.r.da _ _ e.r.mo _ _ e.r.pl _ V0 (hm.r.t.below (B := 0) T0.b) (hm.r.d.below T0.b) (hm.r.o.below T0.b) (hm.r.p.below T0.b) (by omega) (by omega) (by omega) (by omega)).mono ?_
  rintro z w1 ⟨g0, g1, g2, g3, rfl, I0, I1, I2, I3, b1, u0, u1, u2, u3, G0, G1, G2, G3⟩
  have lt0 := T0.o.1
  have gl3 := G3.lt
  have U0 := T0.below b1
  obtain ⟨o5c, o5f⟩ := U0.o.2 5 (.int .i64 0) rfl
  obtain ⟨o6c, o6f⟩ := U0.o.2 6 (.int .i64 0) rfl
  obtain ⟨o7c, o7f⟩ := U0.o.2 7 (.int .i64 0) rfl
  obtain ⟨o8c, o8f⟩ := U0.o.2 8 (.int .i64 0) rfl
  obtain ⟨o9c, o9f⟩ := U0.o.2 9 (.slice none 0 0) rfl
  obtain ⟨o10c, o10f⟩ := U0.o.2 10 (.slice none 0 0) rfl
  obtain ⟨o11c, o11f⟩ := U0.o.2 11 (.slice none 0 0) rfl
  obtain ⟨o12c, o12f⟩ := U0.o.2 12 (.slice none 0 0) rfl
  obtain ⟨o13c, o13f⟩ := U0.o.2 13 (.int .i64 0) rfl
  have p14 := (U0.p.2 14 _ rfl).1
  have hV0 : V0.heap.size ≤ w1.heap.size := b1.size
  clear b1
  go_wp2_with fail
  have T1 : TE w ((((((((((w1).setCell ⟨w.heap.size + 1 + 1, 5, none⟩ (.int .i64 e.r.f)).setCell ⟨w.heap.size + 1 + 1, 6, none⟩ (.int .i64 e.r.ev)).setCell ⟨w.heap.size + 1 + 1, 7, none⟩ (.int .i64 e.r.ct)).setCell ⟨w.heap.size + 1 + 1, 8, none⟩ (.int .i64 e.r.un)).setCell ⟨w.heap.size + 1 + 1, 9, none⟩ (.slice (some ⟨g0, 0, none⟩) e.r.ds.length e.r.ds.length)).setCell ⟨w.heap.size + 1 + 1, 10, none⟩ (.slice (some ⟨g1, 0, none⟩) e.r.da.length e.r.da.length)).setCell ⟨w.heap.size + 1 + 1, 11, none⟩ (.slice (some ⟨g2, 0, none⟩) e.r.mo.length e.r.mo.length)).setCell ⟨w.heap.size + 1 + 1, 12, none⟩ (.slice (some ⟨g3, 0, none⟩) e.r.pl.length e.r.pl.length)).setCell ⟨w.heap.size + 1 + 1, 13, none⟩ (.int .i64 e.r.wk)) w.heap.size #[.string e.id, .string e.ti, .string e.zn, .int .i64 e.st, .int .i64 e.lo, .int .i64 e.r.f, .int .i64 e.r.ev, .int .i64 e.r.ct, .int .i64 e.r.un, .slice m.r.a0 e.r.ds.length m.r.c0, .slice m.r.a1 e.r.da.length m.r.c1, .slice m.r.a2 e.r.mo.length m.r.c2, .slice m.r.a3 e.r.pl.length m.r.c3, .int .i64 e.r.wk, .slice m.ao e.ou.length m.co, .slice m.av e.ov.length m.cv] #[.string e.id, .string e.ti, .string e.zn, .int .i64 e.st, .int .i64 e.lo, .int .i64 e.r.f, .int .i64 e.r.ev, .int .i64 e.r.ct, .int .i64 e.r.un, .slice (some ⟨g0, 0, none⟩) e.r.ds.length e.r.ds.length, .slice (some ⟨g1, 0, none⟩) e.r.da.length e.r.da.length, .slice (some ⟨g2, 0, none⟩) e.r.mo.length e.r.mo.length, .slice (some ⟨g3, 0, none⟩) e.r.pl.length e.r.pl.length, .int .i64 e.r.wk, .slice none 0 0, .slice none 0 0] #[.string ⟨#[]⟩, .string ⟨#[]⟩, .string ⟨#[]⟩, .int .i64 0, .int .i64 0, .int .i64 0, .int .i64 0, .int .i64 0, .int .i64 0, .slice none 0 0, .slice none 0 0, .slice none 0 0, .slice none 0 0, .int .i64 0, .slice none 0 0, .slice none 0 0] := U0.nine (Nat.le_refl _) _ _ _ _ _ _ _ _ _
  replace I0 := I0.nine (b := w.heap.size + 1 + 1) (by omega) (.int .i64 e.r.f) (.int .i64 e.r.ev) (.int .i64 e.r.ct) (.int .i64 e.r.un) (.slice (some ⟨g0, 0, none⟩) e.r.ds.length e.r.ds.length) (.slice (some ⟨g1, 0, none⟩) e.r.da.length e.r.da.length) (.slice (some ⟨g2, 0, none⟩) e.r.mo.length e.r.mo.length) (.slice (some ⟨g3, 0, none⟩) e.r.pl.length e.r.pl.length) (.int .i64 e.r.wk)
  replace G0 := G0.nine (b := w.heap.size + 1 + 1) (.int .i64 e.r.f) (.int .i64 e.r.ev) (.int .i64 e.r.ct) (.int .i64 e.r.un) (.slice (some ⟨g0, 0, none⟩) e.r.ds.length e.r.ds.length) (.slice (some ⟨g1, 0, none⟩) e.r.da.length e.r.da.length) (.slice (some ⟨g2, 0, none⟩) e.r.mo.length e.r.mo.length) (.slice (some ⟨g3, 0, none⟩) e.r.pl.length e.r.pl.length) (.int .i64 e.r.wk)
  replace I1 := I1.nine (b := w.heap.size + 1 + 1) (by omega) (.int .i64 e.r.f) (.int .i64 e.r.ev) (.int .i64 e.r.ct) (.int .i64 e.r.un) (.slice (some ⟨g0, 0, none⟩) e.r.ds.length e.r.ds.length) (.slice (some ⟨g1, 0, none⟩) e.r.da.length e.r.da.length) (.slice (some ⟨g2, 0, none⟩) e.r.mo.length e.r.mo.length) (.slice (some ⟨g3, 0, none⟩) e.r.pl.length e.r.pl.length) (.int .i64 e.r.wk)
  replace G1 := G1.nine (b := w.heap.size + 1 + 1) (.int .i64 e.r.f) (.int .i64 e.r.ev) (.int .i64 e.r.ct) (.int .i64 e.r.un) (.slice (some ⟨g0, 0, none⟩) e.r.ds.length e.r.ds.length) (.slice (some ⟨g1, 0, none⟩) e.r.da.length e.r.da.length) (.slice (some ⟨g2, 0, none⟩) e.r.mo.length e.r.mo.length) (.slice (some ⟨g3, 0, none⟩) e.r.pl.length e.r.pl.length) (.int .i64 e.r.wk)
  replace I2 := I2.nine (b := w.heap.size + 1 + 1) (by omega) (.int .i64 e.r.f) (.int .i64 e.r.ev) (.int .i64 e.r.ct) (.int .i64 e.r.un) (.slice (some ⟨g0, 0, none⟩) e.r.ds.length e.r.ds.length) (.slice (some ⟨g1, 0, none⟩) e.r.da.length e.r.da.length) (.slice (some ⟨g2, 0, none⟩) e.r.mo.length e.r.mo.length) (.slice (some ⟨g3, 0, none⟩) e.r.pl.length e.r.pl.length) (.int .i64 e.r.wk)
  replace G2 := G2.nine (b := w.heap.size + 1 + 1) (.int .i64 e.r.f) (.int .i64 e.r.ev) (.int .i64 e.r.ct) (.int .i64 e.r.un) (.slice (some ⟨g0, 0, none⟩) e.r.ds.length e.r.ds.length) (.slice (some ⟨g1, 0, none⟩) e.r.da.length e.r.da.length) (.slice (some ⟨g2, 0, none⟩) e.r.mo.length e.r.mo.length) (.slice (some ⟨g3, 0, none⟩) e.r.pl.length e.r.pl.length) (.int .i64 e.r.wk)
  replace I3 := I3.nine (b := w.heap.size + 1 + 1) (by omega) (.int .i64 e.r.f) (.int .i64 e.r.ev) (.int .i64 e.r.ct) (.int .i64 e.r.un) (.slice (some ⟨g0, 0, none⟩) e.r.ds.length e.r.ds.length) (.slice (some ⟨g1, 0, none⟩) e.r.da.length e.r.da.length) (.slice (some ⟨g2, 0, none⟩) e.r.mo.length e.r.mo.length) (.slice (some ⟨g3, 0, none⟩) e.r.pl.length e.r.pl.length) (.int .i64 e.r.wk)
  replace G3 := G3.nine (b := w.heap.size + 1 + 1) (.int .i64 e.r.f) (.int .i64 e.r.ev) (.int .i64 e.r.ct) (.int .i64 e.r.un) (.slice (some ⟨g0, 0, none⟩) e.r.ds.length e.r.ds.length) (.slice (some ⟨g1, 0, none⟩) e.r.da.length e.r.da.length) (.slice (some ⟨g2, 0, none⟩) e.r.mo.length e.r.mo.length) (.slice (some ⟨g3, 0, none⟩) e.r.pl.length e.r.pl.length) (.int .i64 e.r.wk)
  generalize hV1 : (((((((((w1).setCell ⟨w.heap.size + 1 + 1, 5, none⟩ (.int .i64 e.r.f)).setCell ⟨w.heap.size + 1 + 1, 6, none⟩ (.int .i64 e.r.ev)).setCell ⟨w.heap.size + 1 + 1, 7, none⟩ (.int .i64 e.r.ct)).setCell ⟨w.heap.size + 1 + 1, 8, none⟩ (.int .i64 e.r.un)).setCell ⟨w.heap.size + 1 + 1, 9, none⟩ (.slice (some ⟨g0, 0, none⟩) e.r.ds.length e.r.ds.length)).setCell ⟨w.heap.size + 1 + 1, 10, none⟩ (.slice (some ⟨g1, 0, none⟩) e.r.da.length e.r.da.length)).setCell ⟨w.heap.size + 1 + 1, 11, none⟩ (.slice (some ⟨g2, 0, none⟩) e.r.mo.length e.r.mo.length)).setCell ⟨w.heap.size + 1 + 1, 12, none⟩ (.slice (some ⟨g3, 0, none⟩) e.r.pl.length e.r.pl.length)).setCell ⟨w.heap.size + 1 + 1, 13, none⟩ (.int .i64 e.r.wk) = V1 at T1 I0 I1 I2 I3 G0 G1 G2 G3 ⊢
  have sV1 : Hid (V1.heap.size = w1.heap.size) := by unfold Hid; rw [← hV1]; simp
  clear hV1 U0 p14 o5c o5f o6c o6f o7c o7f o8c o8f o9c o9f o10c o10f o11c o11f o12c o12f o13c o13f
  have p14 := (T1.p.2 14 _ rfl).1
  obtain ⟨o14c, o14f⟩ := T1.o.2 14 (.slice none 0 0) rfl
  refine (lawToInts _ _ e.ou V1 (hm.o.below T1.b) (by omega)).mono ?_
  rintro z w2 ⟨rfl, I4, b2, G4⟩
  have gl4 := G4.lt
  have lt1 := T1.o.1
  replace I0 := I0.below (B := 0) b2
  replace G0 := G0.below b2
  replace I1 := I1.below b2
  replace G1 := G1.below b2
  replace I2 := I2.below b2
  replace G2 := G2.below b2
  replace I3 := I3.below b2
  replace G3 := G3.below b2
  have U1 := T1.below b2
  have sz1 := b2.size
  clear b2 p14 o14c o14f
  obtain ⟨o14c, o14f⟩ := U1.o.2 14 (.slice none 0 0) rfl
  have p15 := (U1.p.2 15 _ rfl).1
  go_wp2_with fail
  have T2 : TE w (w2.setCell ⟨w.heap.size + 1 + 1, 14, none⟩ (.slice (some ⟨V1.heap.size, 0, none⟩) e.ou.length e.ou.length)) w.heap.size #[.string e.id, .string e.ti, .string e.zn, .int .i64 e.st, .int .i64 e.lo, .int .i64 e.r.f, .int .i64 e.r.ev, .int .i64 e.r.ct, .int .i64 e.r.un, .slice m.r.a0 e.r.ds.length m.r.c0, .slice m.r.a1 e.r.da.length m.r.c1, .slice m.r.a2 e.r.mo.length m.r.c2, .slice m.r.a3 e.r.pl.length m.r.c3, .int .i64 e.r.wk, .slice m.ao e.ou.length m.co, .slice m.av e.ov.length m.cv] #[.string e.id, .string e.ti, .string e.zn, .int .i64 e.st, .int .i64 e.lo, .int .i64 e.r.f, .int .i64 e.r.ev, .int .i64 e.r.ct, .int .i64 e.r.un, .slice (some ⟨g0, 0, none⟩) e.r.ds.length e.r.ds.length, .slice (some ⟨g1, 0, none⟩) e.r.da.length e.r.da.length, .slice (some ⟨g2, 0, none⟩) e.r.mo.length e.r.mo.length, .slice (some ⟨g3, 0, none⟩) e.r.pl.length e.r.pl.length, .int .i64 e.r.wk, .slice (some ⟨V1.heap.size, 0, none⟩) e.ou.length e.ou.length, .slice none 0 0] #[.string ⟨#[]⟩, .string ⟨#[]⟩, .string ⟨#[]⟩, .int .i64 0, .int .i64 0, .int .i64 0, .int .i64 0, .int .i64 0, .int .i64 0, .slice none 0 0, .slice none 0 0, .slice none 0 0, .slice none 0 0, .int .i64 0, .slice none 0 0, .slice none 0 0] := U1.set (Nat.le_refl _) 14 _ (by simp)
  replace I0 := I0.setCell (p := ⟨w.heap.size + 1 + 1, 14, none⟩) (by simp; omega) (.slice (some ⟨V1.heap.size, 0, none⟩) e.ou.length e.ou.length)
  replace G0 := G0.setCell ⟨w.heap.size + 1 + 1, 14, none⟩ (.slice (some ⟨V1.heap.size, 0, none⟩) e.ou.length e.ou.length)
  replace I1 := I1.setCell (p := ⟨w.heap.size + 1 + 1, 14, none⟩) (by simp; omega) (.slice (some ⟨V1.heap.size, 0, none⟩) e.ou.length e.ou.length)
  replace G1 := G1.setCell ⟨w.heap.size + 1 + 1, 14, none⟩ (.slice (some ⟨V1.heap.size, 0, none⟩) e.ou.length e.ou.length)
  replace I2 := I2.setCell (p := ⟨w.heap.size + 1 + 1, 14, none⟩) (by simp; omega) (.slice (some ⟨V1.heap.size, 0, none⟩) e.ou.length e.ou.length)
  replace G2 := G2.setCell ⟨w.heap.size + 1 + 1, 14, none⟩ (.slice (some ⟨V1.heap.size, 0, none⟩) e.ou.length e.ou.length)
  replace I3 := I3.setCell (p := ⟨w.heap.size + 1 + 1, 14, none⟩) (by simp; omega) (.slice (some ⟨V1.heap.size, 0, none⟩) e.ou.length e.ou.length)
  replace G3 := G3.setCell ⟨w.heap.size + 1 + 1, 14, none⟩ (.slice (some ⟨V1.heap.size, 0, none⟩) e.ou.length e.ou.length)
  replace I4 := I4.setCell (p := ⟨w.heap.size + 1 + 1, 14, none⟩) (by simp; omega) (.slice (some ⟨V1.heap.size, 0, none⟩) e.ou.length e.ou.length)
  replace G4 := G4.setCell ⟨w.heap.size + 1 + 1, 14, none⟩ (.slice (some ⟨V1.heap.size, 0, none⟩) e.ou.length e.ou.length)
  generalize hV2 : w2.setCell ⟨w.heap.size + 1 + 1, 14, none⟩ (.slice (some ⟨V1.heap.size, 0, none⟩) e.ou.length e.ou.length) = V2 at T2 I0 I1 I2 I3 I4 G0 G1 G2 G3 G4 ⊢
  have sV2 : Hid (V2.heap.size = w2.heap.size) := by unfold Hid; rw [← hV2]; simp
  clear hV2 U1 o14c o14f p15
  have p15 := (T2.p.2 15 _ rfl).1
  refine (lawToOvers _ _ e.ov V2 (hm.v.below T2.b) (by omega)).mono ?_
  rintro z w3 ⟨rfl, I5, b3, G5⟩
  have gl5 := G5.lt
  have lt2 := T2.o.1
  replace I0 := I0.below (B := 0) b3
  replace G0 := G0.below b3
  replace I1 := I1.below b3
  replace G1 := G1.below b3
  replace I2 := I2.below b3
  replace G2 := G2.below b3
  replace I3 := I3.below b3
  replace G3 := G3.below b3
  replace I4 := I4.below b3
  replace G4 := G4.below b3
  have U2 := T2.below b3
  have sz2 := b3.size
  have o0 := (U2.o.2 0 _ rfl).1
  have o1 := (U2.o.2 1 _ rfl).1
  have o2 := (U2.o.2 2 _ rfl).1
  have o3 := (U2.o.2 3 _ rfl).1
  have o4 := (U2.o.2 4 _ rfl).1
  have o5 := (U2.o.2 5 _ rfl).1
  have o6 := (U2.o.2 6 _ rfl).1
  have o7 := (U2.o.2 7 _ rfl).1
  have o8 := (U2.o.2 8 _ rfl).1
  have o9 := (U2.o.2 9 _ rfl).1
  have o10 := (U2.o.2 10 _ rfl).1
  have o11 := (U2.o.2 11 _ rfl).1
  have o12 := (U2.o.2 12 _ rfl).1
  have o13 := (U2.o.2 13 _ rfl).1
  have o14 := (U2.o.2 14 _ rfl).1
  obtain ⟨o15c, o15f⟩ := U2.o.2 15 (.slice none 0 0) rfl
  obtain ⟨r0, rf0⟩ := U2.r.2 0 _ rfl
  obtain ⟨r1, rf1⟩ := U2.r.2 1 _ rfl
  obtain ⟨r2, rf2⟩ := U2.r.2 2 _ rfl
  obtain ⟨r3, rf3⟩ := U2.r.2 3 _ rfl
  obtain ⟨r4, rf4⟩ := U2.r.2 4 _ rfl
  obtain ⟨r5, rf5⟩ := U2.r.2 5 _ rfl
  obtain ⟨r6, rf6⟩ := U2.r.2 6 _ rfl
  obtain ⟨r7, rf7⟩ := U2.r.2 7 _ rfl
  obtain ⟨r8, rf8⟩ := U2.r.2 8 _ rfl
  obtain ⟨r9, rf9⟩ := U2.r.2 9 _ rfl
  obtain ⟨r10, rf10⟩ := U2.r.2 10 _ rfl
  obtain ⟨r11, rf11⟩ := U2.r.2 11 _ rfl
  obtain ⟨r12, rf12⟩ := U2.r.2 12 _ rfl
  obtain ⟨r13, rf13⟩ := U2.r.2 13 _ rfl
  obtain ⟨r14, rf14⟩ := U2.r.2 14 _ rfl
  obtain ⟨r15, rf15⟩ := U2.r.2 15 _ rfl
  have bz : w.heap.size + 1 + 1 < w3.heap.size := U2.o.1
  have bz1 : w.heap.size + 1 < w3.heap.size := by omega
  have BF : Hid (Below w.heap.size w w3) := U2.b
  have HI : Hid ((IsTurns w3 (some ⟨g0, 0, none⟩) e.r.ds ∧ IsInts w3 (some ⟨g1, 0, none⟩) e.r.da ∧ IsInts w3 (some ⟨g2, 0, none⟩) e.r.mo ∧ IsInts w3 (some ⟨g3, 0, none⟩) e.r.pl ∧ IsInts w3 (some ⟨V1.heap.size, 0, none⟩) e.ou ∧ IsOvers w3 (some ⟨V2.heap.size, 0, none⟩) e.ov)) := ⟨I0, I1, I2, I3, I4, I5⟩
  have HG : Hid (FT w3 g0 e.r.ds.length ∧ FI w3 g1 e.r.da.length ∧ FI w3 g2 e.r.mo.length ∧ FI w3 g3 e.r.pl.length ∧ FI w3 V1.heap.size e.ou.length ∧ FO w3 V2.heap.size e.ov.length) := ⟨G0, G1, G2, G3, G4, G5⟩
  have HO : Hid (w.heap.size + 1 + 1 < g0 ∧ g0 < g1 ∧ g1 < g2 ∧ g2 < g3 ∧ g3 < V1.heap.size ∧ V1.heap.size < V2.heap.size) := by have s1 := sV1.out; have s2 := sV2.out; exact ⟨by omega, by omega, by omega, by omega, by omega, by omega⟩
  clear I0 I1 I2 I3 I4 I5 G0 G1 G2 G3 G4 G5 U2 T0 T1 T2 hm b3 gl3 gl4 gl5 sV1 sV2 sz1 sz2 u0 u1 u2 u3 lt0 lt1 lt2 hV0 z0 z1 z2 z3 z4 z5 z6 z7 zo zt
  go_wp2
  refine bodyPost_ret (v := .agg #[.string e.id, .string e.ti, .string e.zn, .int .i64 e.st, .int .i64 e.lo, .int .i64 e.r.f, .int .i64 e.r.ev, .int .i64 e.r.ct, .int .i64 e.r.un, .slice (some ⟨g0, 0, none⟩) e.r.ds.length e.r.ds.length, .slice (some ⟨g1, 0, none⟩) e.r.da.length e.r.da.length, .slice (some ⟨g2, 0, none⟩) e.r.mo.length e.r.mo.length, .slice (some ⟨g3, 0, none⟩) e.r.pl.length e.r.pl.length, .int .i64 e.r.wk, .slice (some ⟨V1.heap.size, 0, none⟩) e.ou.length e.ou.length, .slice (some ⟨V2.heap.size, 0, none⟩) e.ov.length e.ov.length]) (by simp [results, Tryd.results19, go_sem, *]) rfl ⟨⟨⟨some ⟨g0, 0, none⟩, e.r.ds.length, some ⟨g1, 0, none⟩, e.r.da.length, some ⟨g2, 0, none⟩, e.r.mo.length, some ⟨g3, 0, none⟩, e.r.pl.length⟩, some ⟨V1.heap.size, 0, none⟩, e.ou.length, some ⟨V2.heap.size, 0, none⟩, e.ov.length⟩, rfl, ⟨⟨⟨?_, ?_, ?_, ?_⟩, ?_, ?_⟩, _, _, _, _, _, _, rfl, by have := HO.out; omega, HO.out.2.1, HO.out.2.2.1, HO.out.2.2.2.1, HO.out.2.2.2.2.1, HO.out.2.2.2.2.2, ?_, ?_, ?_, ?_, ?_, ?_⟩, ?_⟩
  · have hj := HO.out
    repeat (first | with_reducible exact HI.out.1 | with_reducible refine IsTurns.setCell ?_ (by simp; omega) _)
  · have hj := HO.out
    repeat (first | with_reducible exact HI.out.2.1 | with_reducible refine IsInts.setCell ?_ (by simp; omega) _)
  · have hj := HO.out
    repeat (first | with_reducible exact HI.out.2.2.1 | with_reducible refine IsInts.setCell ?_ (by simp; omega) _)
  · have hj := HO.out
    repeat (first | with_reducible exact HI.out.2.2.2.1 | with_reducible refine IsInts.setCell ?_ (by simp; omega) _)
  · have hj := HO.out
    repeat (first | with_reducible exact HI.out.2.2.2.2.1 | with_reducible refine IsInts.setCell ?_ (by simp; omega) _)
  · have hj := HO.out
    repeat (first | with_reducible exact HI.out.2.2.2.2.2 | with_reducible refine IsOvers.setCell ?_ (by simp; omega) _)
  · repeat (first | with_reducible exact HG.out.1 | with_reducible refine FT.setCell ?_ _ _)
  · repeat (first | with_reducible exact HG.out.2.1 | with_reducible refine FI.setCell ?_ _ _)
  · repeat (first | with_reducible exact HG.out.2.2.1 | with_reducible refine FI.setCell ?_ _ _)
  · repeat (first | with_reducible exact HG.out.2.2.2.1 | with_reducible refine FI.setCell ?_ _ _)
  · repeat (first | with_reducible exact HG.out.2.2.2.2.1 | with_reducible refine FI.setCell ?_ _ _)
  · repeat (first | with_reducible exact HG.out.2.2.2.2.2 | with_reducible refine FO.setCell ?_ _ _)
  · repeat (first | with_reducible exact BF.out | with_reducible refine Below.setCell ?_ (by first | (simp; done) | (simp; omega)) _)
end Go.Proofs.YtjncaeealmmhmaaDoor
namespace Go.Proofs.YtjncaeealmmhmaaDoor
open Go.RowKit
set_option linter.unusedVariables false
set_option maxRecDepth 100000 in
set_option maxHeartbeats 8000000 in
theorem lawEqEvent (e : Ev) (m n : Em) (w : World) (hm : EMem w e m) (hn : EMem w e n) (hs : ESmall e) :
    Calls Tryd.prog 21 #[.agg #[.string e.id, .string e.ti, .string e.zn, .int .i64 e.st, .int .i64 e.lo, .int .i64 e.r.f, .int .i64 e.r.ev, .int .i64 e.r.ct, .int .i64 e.r.un, .slice m.r.a0 e.r.ds.length m.r.c0, .slice m.r.a1 e.r.da.length m.r.c1, .slice m.r.a2 e.r.mo.length m.r.c2, .slice m.r.a3 e.r.pl.length m.r.c3, .int .i64 e.r.wk, .slice m.ao e.ou.length m.co, .slice m.av e.ov.length m.cv], .agg #[.string e.id, .string e.ti, .string e.zn, .int .i64 e.st, .int .i64 e.lo, .int .i64 e.r.f, .int .i64 e.r.ev, .int .i64 e.r.ct, .int .i64 e.r.un, .slice n.r.a0 e.r.ds.length n.r.c0, .slice n.r.a1 e.r.da.length n.r.c1, .slice n.r.a2 e.r.mo.length n.r.c2, .slice n.r.a3 e.r.pl.length n.r.c3, .int .i64 e.r.wk, .slice n.ao e.ou.length n.co, .slice n.av e.ov.length n.cv]] w fun z w' => z = .returned (.bool true) ∧ Below w.heap.size w w' := by
  obtain ⟨⟨z0, z1, z2, z3, z4, z5, z6, z7⟩, zo, zt⟩ := hs
  have hb0 : Below w.heap.size w (((w).alloc (.cells #[.string e.id, .string e.ti, .string e.zn, .int .i64 e.st, .int .i64 e.lo, .int .i64 e.r.f, .int .i64 e.r.ev, .int .i64 e.r.ct, .int .i64 e.r.un, .slice m.r.a0 e.r.ds.length m.r.c0, .slice m.r.a1 e.r.da.length m.r.c1, .slice m.r.a2 e.r.mo.length m.r.c2, .slice m.r.a3 e.r.pl.length m.r.c3, .int .i64 e.r.wk, .slice m.ao e.ou.length m.co, .slice m.av e.ov.length m.cv] 45)).alloc (.cells #[.string e.id, .string e.ti, .string e.zn, .int .i64 e.st, .int .i64 e.lo, .int .i64 e.r.f, .int .i64 e.r.ev, .int .i64 e.r.ct, .int .i64 e.r.un, .slice n.r.a0 e.r.ds.length n.r.c0, .slice n.r.a1 e.r.da.length n.r.c1, .slice n.r.a2 e.r.mo.length n.r.c2, .slice n.r.a3 e.r.pl.length n.r.c3, .int .i64 e.r.wk, .slice n.ao e.ou.length n.co, .slice n.av e.ov.length n.cv] 45)) := ((Below.refl _ _).alloc (Nat.le_refl _) _).alloc (by simp) _
  have C0 : CF (((w).alloc (.cells #[.string e.id, .string e.ti, .string e.zn, .int .i64 e.st, .int .i64 e.lo, .int .i64 e.r.f, .int .i64 e.r.ev, .int .i64 e.r.ct, .int .i64 e.r.un, .slice m.r.a0 e.r.ds.length m.r.c0, .slice m.r.a1 e.r.da.length m.r.c1, .slice m.r.a2 e.r.mo.length m.r.c2, .slice m.r.a3 e.r.pl.length m.r.c3, .int .i64 e.r.wk, .slice m.ao e.ou.length m.co, .slice m.av e.ov.length m.cv] 45)).alloc (.cells #[.string e.id, .string e.ti, .string e.zn, .int .i64 e.st, .int .i64 e.lo, .int .i64 e.r.f, .int .i64 e.r.ev, .int .i64 e.r.ct, .int .i64 e.r.un, .slice n.r.a0 e.r.ds.length n.r.c0, .slice n.r.a1 e.r.da.length n.r.c1, .slice n.r.a2 e.r.mo.length n.r.c2, .slice n.r.a3 e.r.pl.length n.r.c3, .int .i64 e.r.wk, .slice n.ao e.ou.length n.co, .slice n.av e.ov.length n.cv] 45)) w.heap.size #[.string e.id, .string e.ti, .string e.zn, .int .i64 e.st, .int .i64 e.lo, .int .i64 e.r.f, .int .i64 e.r.ev, .int .i64 e.r.ct, .int .i64 e.r.un, .slice m.r.a0 e.r.ds.length m.r.c0, .slice m.r.a1 e.r.da.length m.r.c1, .slice m.r.a2 e.r.mo.length m.r.c2, .slice m.r.a3 e.r.pl.length m.r.c3, .int .i64 e.r.wk, .slice m.ao e.ou.length m.co, .slice m.av e.ov.length m.cv] := (CF.new w _ _).past _
  have D0 : CF (((w).alloc (.cells #[.string e.id, .string e.ti, .string e.zn, .int .i64 e.st, .int .i64 e.lo, .int .i64 e.r.f, .int .i64 e.r.ev, .int .i64 e.r.ct, .int .i64 e.r.un, .slice m.r.a0 e.r.ds.length m.r.c0, .slice m.r.a1 e.r.da.length m.r.c1, .slice m.r.a2 e.r.mo.length m.r.c2, .slice m.r.a3 e.r.pl.length m.r.c3, .int .i64 e.r.wk, .slice m.ao e.ou.length m.co, .slice m.av e.ov.length m.cv] 45)).alloc (.cells #[.string e.id, .string e.ti, .string e.zn, .int .i64 e.st, .int .i64 e.lo, .int .i64 e.r.f, .int .i64 e.r.ev, .int .i64 e.r.ct, .int .i64 e.r.un, .slice n.r.a0 e.r.ds.length n.r.c0, .slice n.r.a1 e.r.da.length n.r.c1, .slice n.r.a2 e.r.mo.length n.r.c2, .slice n.r.a3 e.r.pl.length n.r.c3, .int .i64 e.r.wk, .slice n.ao e.ou.length n.co, .slice n.av e.ov.length n.cv] 45)) (w.heap.size + 1) #[.string e.id, .string e.ti, .string e.zn, .int .i64 e.st, .int .i64 e.lo, .int .i64 e.r.f, .int .i64 e.r.ev, .int .i64 e.r.ct, .int .i64 e.r.un, .slice n.r.a0 e.r.ds.length n.r.c0, .slice n.r.a1 e.r.da.length n.r.c1, .slice n.r.a2 e.r.mo.length n.r.c2, .slice n.r.a3 e.r.pl.length n.r.c3, .int .i64 e.r.wk, .slice n.ao e.ou.length n.co, .slice n.av e.ov.length n.cv] := by
    have := CF.new ((w).alloc (.cells #[.string e.id, .string e.ti, .string e.zn, .int .i64 e.st, .int .i64 e.lo, .int .i64 e.r.f, .int .i64 e.r.ev, .int .i64 e.r.ct, .int .i64 e.r.un, .slice m.r.a0 e.r.ds.length m.r.c0, .slice m.r.a1 e.r.da.length m.r.c1, .slice m.r.a2 e.r.mo.length m.r.c2, .slice m.r.a3 e.r.pl.length m.r.c3, .int .i64 e.r.wk, .slice m.ao e.ou.length m.co, .slice m.av e.ov.length m.cv] 45)) #[.string e.id, .string e.ti, .string e.zn, .int .i64 e.st, .int .i64 e.lo, .int .i64 e.r.f, .int .i64 e.r.ev, .int .i64 e.r.ct, .int .i64 e.r.un, .slice n.r.a0 e.r.ds.length n.r.c0, .slice n.r.a1 e.r.da.length n.r.c1, .slice n.r.a2 e.r.mo.length n.r.c2, .slice n.r.a3 e.r.pl.length n.r.c3, .int .i64 e.r.wk, .slice n.ao e.ou.length n.co, .slice n.av e.ov.length n.cv] 45
    simpa using this
  have M0 := hm.below hb0
  have N0 := hn.below hb0
  go_enter Tryd.func21, Tryd.ntmps21
  go_wp2_with fail
  generalize ((w).alloc (.cells #[.string e.id, .string e.ti, .string e.zn, .int .i64 e.st, .int .i64 e.lo, .int .i64 e.r.f, .int .i64 e.r.ev, .int .i64 e.r.ct, .int .i64 e.r.un, .slice m.r.a0 e.r.ds.length m.r.c0, .slice m.r.a1 e.r.da.length m.r.c1, .slice m.r.a2 e.r.mo.length m.r.c2, .slice m.r.a3 e.r.pl.length m.r.c3, .int .i64 e.r.wk, .slice m.ao e.ou.length m.co, .slice m.av e.ov.length m.cv] 45)).alloc (.cells #[.string e.id, .string e.ti, .string e.zn, .int .i64 e.st, .int .i64 e.lo, .int .i64 e.r.f, .int .i64 e.r.ev, .int .i64 e.r.ct, .int .i64 e.r.un, .slice n.r.a0 e.r.ds.length n.r.c0, .slice n.r.a1 e.r.da.length n.r.c1, .slice n.r.a2 e.r.mo.length n.r.c2, .slice n.r.a3 e.r.pl.length n.r.c3, .int .i64 e.r.wk, .slice n.ao e.ou.length n.co, .slice n.av e.ov.length n.cv] 45) = W at hb0 C0 D0 M0 N0 ⊢
  refine (lawEqRule _ _ _ _ _ _ e.r.ds _ _ e.r.da _ _ e.r.mo _ _ e.r.pl _ _ _ _ _ _ _ _ _ W M0.r.t M0.r.d M0.r.o M0.r.p N0.r.t N0.r.d N0.r.o N0.r.p (by omega) (by omega) (by omega) (by omega)).mono ?_
  rintro z w1 ⟨rfl, b1⟩
  have C1 := C0.below b1
  have D1 := D0.below b1
  have M1 := M0.below b1
  have N1 := N0.below b1
  have B1 := hb0.trans (b1.mono hb0.size)
  have x14 := (C1.2 14 _ rfl).1
  have x15 := (C1.2 15 _ rfl).1
  have y14 := (D1.2 14 _ rfl).1
  have y15 := (D1.2 15 _ rfl).1
  clear b1 C0 D0 M0 N0 hb0
  go_wp2_with fail
  refine (lawEqInts _ _ _ _ e.ou w1 M1.o N1.o (by omega)).mono ?_
  rintro z w2 ⟨rfl, b2⟩
  have C2 := C1.below b2
  have D2 := D1.below b2
  have M2 := M1.below b2
  have N2 := N1.below b2
  have B2 := B1.trans (b2.mono B1.size)
  clear b2 C1 D1 M1 N1 B1 x14 x15 y14 y15
  have x15 := (C2.2 15 _ rfl).1
  have y15 := (D2.2 15 _ rfl).1
  go_wp2_with fail
  refine (lawEqOvers _ _ _ _ e.ov w2 M2.v N2.v (by omega)).mono ?_
  rintro z w3 ⟨rfl, b3⟩
  have B3 := B2.trans (b3.mono B2.size)
  go_wp2
  go_ret
  exact ⟨rfl, B3⟩
end Go.Proofs.YtjncaeealmmhmaaDoor
