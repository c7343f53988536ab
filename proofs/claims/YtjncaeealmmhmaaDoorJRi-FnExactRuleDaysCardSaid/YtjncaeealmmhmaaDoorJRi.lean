/- The exact laws' own helpers over rules: a rule's copy, its lists new, and such as may be written. -/
import Derived.Test.YtjncaeealmmhmaaDoorRf
import Derived.Test.YtjncaeealmmhmaaDoorOm
namespace Go.Proofs.YtjncaeealmmhmaaDoor
open Go.RowKit
set_option linter.unusedVariables false
set_option maxRecDepth 100000 in
set_option maxHeartbeats 16000000 in
theorem lawToRuleF (f ev ct un : Int) (a0 : Option Addr) (c0 : Nat) (ds : List (Int × Int)) (a1 : Option Addr) (c1 : Nat) (da : List Int) (a2 : Option Addr) (c2 : Nat) (mo : List Int) (a3 : Option Addr) (c3 : Nat) (pl : List Int) (wk : Int) (w : World) (h0 : IsTurns w a0 ds) (h1 : IsInts w a1 da) (h2 : IsInts w a2 mo) (h3 : IsInts w a3 pl) (l0 : ds.length ≤ 2000000) (l1 : da.length ≤ 2000000) (l2 : mo.length ≤ 2000000) (l3 : pl.length ≤ 2000000) :
    Calls Tryd.prog 8 #[.agg #[.int .i64 f, .int .i64 ev, .int .i64 ct, .int .i64 un, .slice a0 ds.length c0, .slice a1 da.length c1, .slice a2 mo.length c2, .slice a3 pl.length c3, .int .i64 wk]] w fun z w' => ∃ g0 g1 g2 g3, z = .returned (.agg #[.int .i64 f, .int .i64 ev, .int .i64 ct, .int .i64 un, .slice (some ⟨g0, 0, none⟩) ds.length ds.length, .slice (some ⟨g1, 0, none⟩) da.length da.length, .slice (some ⟨g2, 0, none⟩) mo.length mo.length, .slice (some ⟨g3, 0, none⟩) pl.length pl.length, .int .i64 wk]) ∧ IsTurns w' (some ⟨g0, 0, none⟩) ds ∧ IsInts w' (some ⟨g1, 0, none⟩) da ∧ IsInts w' (some ⟨g2, 0, none⟩) mo ∧ IsInts w' (some ⟨g3, 0, none⟩) pl ∧ Below w.heap.size w w' ∧ w.heap.size ≤ g0 ∧ g0 < g1 ∧ g1 < g2 ∧ g2 < g3 ∧ FT w' g0 ds.length ∧ FI w' g1 da.length ∧ FI w' g2 mo.length ∧ FI w' g3 pl.length := by
  have T0 : TR w (((w.alloc (.cells #[.int .i64 f, .int .i64 ev, .int .i64 ct, .int .i64 un, .slice a0 ds.length c0, .slice a1 da.length c1, .slice a2 mo.length c2, .slice a3 pl.length c3, .int .i64 wk] 25)).alloc (.cells #[.int .i64 0, .int .i64 0, .int .i64 0, .int .i64 0, .slice none 0 0, .slice none 0 0, .slice none 0 0, .slice none 0 0, .int .i64 0] 30)).alloc (.cells #[.int .i64 f, .int .i64 ev, .int .i64 ct, .int .i64 un, .slice none 0 0, .slice none 0 0, .slice none 0 0, .slice none 0 0, .int .i64 0] 30)) w.heap.size #[.int .i64 f, .int .i64 ev, .int .i64 ct, .int .i64 un, .slice a0 ds.length c0, .slice a1 da.length c1, .slice a2 mo.length c2, .slice a3 pl.length c3, .int .i64 wk] #[.int .i64 f, .int .i64 ev, .int .i64 ct, .int .i64 un, .slice none 0 0, .slice none 0 0, .slice none 0 0, .slice none 0 0, .int .i64 0] #[.int .i64 0, .int .i64 0, .int .i64 0, .int .i64 0, .slice none 0 0, .slice none 0 0, .slice none 0 0, .slice none 0 0, .int .i64 0] := by
    refine ⟨((CF.new w _ _).past _).past _, ?_, ?_, (((Below.refl _ _).alloc (Nat.le_refl _) _).alloc (by simp) _).alloc (by simp; omega) _⟩
    · have := CF.new ((w.alloc (.cells #[.int .i64 f, .int .i64 ev, .int .i64 ct, .int .i64 un, .slice a0 ds.length c0, .slice a1 da.length c1, .slice a2 mo.length c2, .slice a3 pl.length c3, .int .i64 wk] 25)).alloc (.cells #[.int .i64 0, .int .i64 0, .int .i64 0, .int .i64 0, .slice none 0 0, .slice none 0 0, .slice none 0 0, .slice none 0 0, .int .i64 0] 30)) #[.int .i64 f, .int .i64 ev, .int .i64 ct, .int .i64 un, .slice none 0 0, .slice none 0 0, .slice none 0 0, .slice none 0 0, .int .i64 0] 30
      simpa using this
    · have := (CF.new (w.alloc (.cells #[.int .i64 f, .int .i64 ev, .int .i64 ct, .int .i64 un, .slice a0 ds.length c0, .slice a1 da.length c1, .slice a2 mo.length c2, .slice a3 pl.length c3, .int .i64 wk] 25)) #[.int .i64 0, .int .i64 0, .int .i64 0, .int .i64 0, .slice none 0 0, .slice none 0 0, .slice none 0 0, .slice none 0 0, .int .i64 0] 30).past (.cells #[.int .i64 f, .int .i64 ev, .int .i64 ct, .int .i64 un, .slice none 0 0, .slice none 0 0, .slice none 0 0, .slice none 0 0, .int .i64 0] 30)
      simpa using this
  go_enter Tryd.func8, Tryd.ntmps8
  go_wp2_with fail
  generalize ((w.alloc (.cells #[.int .i64 f, .int .i64 ev, .int .i64 ct, .int .i64 un, .slice a0 ds.length c0, .slice a1 da.length c1, .slice a2 mo.length c2, .slice a3 pl.length c3, .int .i64 wk] 25)).alloc (.cells #[.int .i64 0, .int .i64 0, .int .i64 0, .int .i64 0, .slice none 0 0, .slice none 0 0, .slice none 0 0, .slice none 0 0, .int .i64 0] 30)).alloc (.cells #[.int .i64 f, .int .i64 ev, .int .i64 ct, .int .i64 un, .slice none 0 0, .slice none 0 0, .slice none 0 0, .slice none 0 0, .int .i64 0] 30) = V0 at T0 ⊢
  refine (lawToBys a0 c0 ds _ (h0.below (B := 0) T0.b) l0).mono ?_
  rintro z w1 ⟨rfl, I0, b1, G0⟩
  have gl0 := G0.lt
  have lt0 := T0.o.1
  have sz0 := b1.size
  have U0 := T0.below b1
  have o4 := U0.o.2 4 (.slice none 0 0) rfl
  have p5 := (U0.p.2 5 _ rfl).1
  obtain ⟨o4c, o4f⟩ := o4
  go_wp2_with fail
  have T1 : TR w (w1.setCell ⟨w.heap.size + 1 + 1, 4, none⟩ (.slice (some ⟨V0.heap.size, 0, none⟩) ds.length ds.length)) w.heap.size #[.int .i64 f, .int .i64 ev, .int .i64 ct, .int .i64 un, .slice a0 ds.length c0, .slice a1 da.length c1, .slice a2 mo.length c2, .slice a3 pl.length c3, .int .i64 wk] #[.int .i64 f, .int .i64 ev, .int .i64 ct, .int .i64 un, .slice (some ⟨V0.heap.size, 0, none⟩) ds.length ds.length, .slice none 0 0, .slice none 0 0, .slice none 0 0, .int .i64 0] #[.int .i64 0, .int .i64 0, .int .i64 0, .int .i64 0, .slice none 0 0, .slice none 0 0, .slice none 0 0, .slice none 0 0, .int .i64 0] := U0.set (Nat.le_refl _) 4 _ (by simp)
  replace I0 := I0.setCell (p := ⟨w.heap.size + 1 + 1, 4, none⟩) (by simp; omega) (.slice (some ⟨V0.heap.size, 0, none⟩) ds.length ds.length)
  replace G0 := G0.setCell ⟨w.heap.size + 1 + 1, 4, none⟩ (.slice (some ⟨V0.heap.size, 0, none⟩) ds.length ds.length)
  generalize hV1 : w1.setCell ⟨w.heap.size + 1 + 1, 4, none⟩ (.slice (some ⟨V0.heap.size, 0, none⟩) ds.length ds.length) = V1 at T1 I0 G0 ⊢
  have sV1 : Hid (V1.heap.size = w1.heap.size) := by unfold Hid; rw [← hV1]; simp
  clear hV1
  clear o4c o4f p5 U0
  refine (lawToInts a1 c1 da _ (h1.below T1.b) l1).mono ?_
  rintro z w2 ⟨rfl, I1, b2, G1⟩
  have gl1 := G1.lt
  have lt1 := T1.o.1
  replace I0 := I0.below (B := 0) b2
  replace G0 := G0.below b2
  have sz1 := b2.size
  have U1 := T1.below b2
  have o5 := U1.o.2 5 (.slice none 0 0) rfl
  have p6 := (U1.p.2 6 _ rfl).1
  obtain ⟨o5c, o5f⟩ := o5
  go_wp2_with fail
  have T2 : TR w (w2.setCell ⟨w.heap.size + 1 + 1, 5, none⟩ (.slice (some ⟨V1.heap.size, 0, none⟩) da.length da.length)) w.heap.size #[.int .i64 f, .int .i64 ev, .int .i64 ct, .int .i64 un, .slice a0 ds.length c0, .slice a1 da.length c1, .slice a2 mo.length c2, .slice a3 pl.length c3, .int .i64 wk] #[.int .i64 f, .int .i64 ev, .int .i64 ct, .int .i64 un, .slice (some ⟨V0.heap.size, 0, none⟩) ds.length ds.length, .slice (some ⟨V1.heap.size, 0, none⟩) da.length da.length, .slice none 0 0, .slice none 0 0, .int .i64 0] #[.int .i64 0, .int .i64 0, .int .i64 0, .int .i64 0, .slice none 0 0, .slice none 0 0, .slice none 0 0, .slice none 0 0, .int .i64 0] := U1.set (Nat.le_refl _) 5 _ (by simp)
  replace I0 := I0.setCell (p := ⟨w.heap.size + 1 + 1, 5, none⟩) (by simp; omega) (.slice (some ⟨V1.heap.size, 0, none⟩) da.length da.length)
  replace G0 := G0.setCell ⟨w.heap.size + 1 + 1, 5, none⟩ (.slice (some ⟨V1.heap.size, 0, none⟩) da.length da.length)
  replace I1 := I1.setCell (p := ⟨w.heap.size + 1 + 1, 5, none⟩) (by simp; omega) (.slice (some ⟨V1.heap.size, 0, none⟩) da.length da.length)
  replace G1 := G1.setCell ⟨w.heap.size + 1 + 1, 5, none⟩ (.slice (some ⟨V1.heap.size, 0, none⟩) da.length da.length)
  generalize hV2 : w2.setCell ⟨w.heap.size + 1 + 1, 5, none⟩ (.slice (some ⟨V1.heap.size, 0, none⟩) da.length da.length) = V2 at T2 I0 I1 G0 G1 ⊢
  have sV2 : Hid (V2.heap.size = w2.heap.size) := by unfold Hid; rw [← hV2]; simp
  clear hV2
  clear o5c o5f p6 U1
  refine (lawToInts a2 c2 mo _ (h2.below T2.b) l2).mono ?_
  rintro z w3 ⟨rfl, I2, b3, G2⟩
  have gl2 := G2.lt
  have lt2 := T2.o.1
  replace I0 := I0.below (B := 0) b3
  replace G0 := G0.below b3
  replace I1 := I1.below  b3
  replace G1 := G1.below b3
  have sz2 := b3.size
  have U2 := T2.below b3
  have o6 := U2.o.2 6 (.slice none 0 0) rfl
  have p7 := (U2.p.2 7 _ rfl).1
  obtain ⟨o6c, o6f⟩ := o6
  go_wp2_with fail
  have T3 : TR w (w3.setCell ⟨w.heap.size + 1 + 1, 6, none⟩ (.slice (some ⟨V2.heap.size, 0, none⟩) mo.length mo.length)) w.heap.size #[.int .i64 f, .int .i64 ev, .int .i64 ct, .int .i64 un, .slice a0 ds.length c0, .slice a1 da.length c1, .slice a2 mo.length c2, .slice a3 pl.length c3, .int .i64 wk] #[.int .i64 f, .int .i64 ev, .int .i64 ct, .int .i64 un, .slice (some ⟨V0.heap.size, 0, none⟩) ds.length ds.length, .slice (some ⟨V1.heap.size, 0, none⟩) da.length da.length, .slice (some ⟨V2.heap.size, 0, none⟩) mo.length mo.length, .slice none 0 0, .int .i64 0] #[.int .i64 0, .int .i64 0, .int .i64 0, .int .i64 0, .slice none 0 0, .slice none 0 0, .slice none 0 0, .slice none 0 0, .int .i64 0] := U2.set (Nat.le_refl _) 6 _ (by simp)
  replace I0 := I0.setCell (p := ⟨w.heap.size + 1 + 1, 6, none⟩) (by simp; omega) (.slice (some ⟨V2.heap.size, 0, none⟩) mo.length mo.length)
  replace G0 := G0.setCell ⟨w.heap.size + 1 + 1, 6, none⟩ (.slice (some ⟨V2.heap.size, 0, none⟩) mo.length mo.length)
  replace I1 := I1.setCell (p := ⟨w.heap.size + 1 + 1, 6, none⟩) (by simp; omega) (.slice (some ⟨V2.heap.size, 0, none⟩) mo.length mo.length)
  replace G1 := G1.setCell ⟨w.heap.size + 1 + 1, 6, none⟩ (.slice (some ⟨V2.heap.size, 0, none⟩) mo.length mo.length)
  replace I2 := I2.setCell (p := ⟨w.heap.size + 1 + 1, 6, none⟩) (by simp; omega) (.slice (some ⟨V2.heap.size, 0, none⟩) mo.length mo.length)
  replace G2 := G2.setCell ⟨w.heap.size + 1 + 1, 6, none⟩ (.slice (some ⟨V2.heap.size, 0, none⟩) mo.length mo.length)
  generalize hV3 : w3.setCell ⟨w.heap.size + 1 + 1, 6, none⟩ (.slice (some ⟨V2.heap.size, 0, none⟩) mo.length mo.length) = V3 at T3 I0 I1 I2 G0 G1 G2 ⊢
  have sV3 : Hid (V3.heap.size = w3.heap.size) := by unfold Hid; rw [← hV3]; simp
  clear hV3
  clear o6c o6f p7 U2
  refine (lawToInts a3 c3 pl _ (h3.below T3.b) l3).mono ?_
  rintro z w4 ⟨rfl, I3, b4, G3⟩
  have gl3 := G3.lt
  have lt3 := T3.o.1
  replace I0 := I0.below (B := 0) b4
  replace G0 := G0.below b4
  replace I1 := I1.below  b4
  replace G1 := G1.below b4
  replace I2 := I2.below  b4
  replace G2 := G2.below b4
  have sz3 := b4.size
  have U3 := T3.below b4
  have o7 := U3.o.2 7 (.slice none 0 0) rfl
  have p8 := (U3.p.2 8 _ rfl).1
  obtain ⟨o7c, o7f⟩ := o7
  have X8 := U3.o.2 8 (.int .i64 0) rfl
  obtain ⟨o8c, o8f⟩ := X8
  have o0 := (U3.o.2 0 _ rfl).1
  have o1 := (U3.o.2 1 _ rfl).1
  have o2 := (U3.o.2 2 _ rfl).1
  have o3 := (U3.o.2 3 _ rfl).1
  have o4 := (U3.o.2 4 _ rfl).1
  have o5 := (U3.o.2 5 _ rfl).1
  have o6 := (U3.o.2 6 _ rfl).1
  obtain ⟨r0, rf0⟩ := U3.r.2 0 _ rfl
  obtain ⟨r1, rf1⟩ := U3.r.2 1 _ rfl
  obtain ⟨r2, rf2⟩ := U3.r.2 2 _ rfl
  obtain ⟨r3, rf3⟩ := U3.r.2 3 _ rfl
  obtain ⟨r4, rf4⟩ := U3.r.2 4 _ rfl
  obtain ⟨r5, rf5⟩ := U3.r.2 5 _ rfl
  obtain ⟨r6, rf6⟩ := U3.r.2 6 _ rfl
  obtain ⟨r7, rf7⟩ := U3.r.2 7 _ rfl
  obtain ⟨r8, rf8⟩ := U3.r.2 8 _ rfl
  have bz : w.heap.size + 1 + 1 < w4.heap.size := U3.o.1
  have bz1 : w.heap.size + 1 < w4.heap.size := by omega
  have BF : Hid (Below w.heap.size w w4) := U3.b
  have J0 := I0
  have HG : Hid (FT w4 V0.heap.size ds.length ∧ FI w4 V1.heap.size da.length ∧ FI w4 V2.heap.size mo.length ∧ FI w4 V3.heap.size pl.length) := ⟨G0, G1, G2, G3⟩
  have HO : Hid (w.heap.size ≤ V0.heap.size ∧ V0.heap.size < V1.heap.size ∧ V1.heap.size < V2.heap.size ∧ V2.heap.size < V3.heap.size) := by have s1 := sV1.out; have s2 := sV2.out; have s3 := sV3.out; exact ⟨by omega, by omega, by omega, by omega⟩
  have HJ0 : Hid (IsTurns w4 (some ⟨V0.heap.size, 0, none⟩) ds ∧ w.heap.size + 1 + 1 < V0.heap.size) := ⟨I0, lt0⟩
  have J1 := I1
  have HJ1 : Hid (IsInts w4 (some ⟨V1.heap.size, 0, none⟩) da ∧ w.heap.size + 1 + 1 < V1.heap.size) := ⟨I1, lt1⟩
  have J2 := I2
  have HJ2 : Hid (IsInts w4 (some ⟨V2.heap.size, 0, none⟩) mo ∧ w.heap.size + 1 + 1 < V2.heap.size) := ⟨I2, lt2⟩
  have J3 := I3
  have HJ3 : Hid (IsInts w4 (some ⟨V3.heap.size, 0, none⟩) pl ∧ w.heap.size + 1 + 1 < V3.heap.size) := ⟨I3, lt3⟩
  clear J0 J1 J2 J3 I0 I1 I2 I3 G0 G1 G2 G3 gl0 gl1 gl2 gl3 sV1 sV2 sV3 U3 T0 T1 T2 T3 h0 h1 h2 h3 b1 b2 b3 b4
  go_wp2
  refine bodyPost_ret (v := .agg #[.int .i64 f, .int .i64 ev, .int .i64 ct, .int .i64 un, .slice (some ⟨V0.heap.size, 0, none⟩) ds.length ds.length, .slice (some ⟨V1.heap.size, 0, none⟩) da.length da.length, .slice (some ⟨V2.heap.size, 0, none⟩) mo.length mo.length, .slice (some ⟨V3.heap.size, 0, none⟩) pl.length pl.length, .int .i64 wk]) (by simp [results, Tryd.results8, go_sem, *]) rfl ⟨_, _, _, _, rfl, ?_, ?_, ?_, ?_, ?_, HO.out.1, HO.out.2.1, HO.out.2.2.1, HO.out.2.2.2, ?_, ?_, ?_, ?_⟩
  · have hj := HJ0.out.2
    repeat (first | with_reducible exact HJ0.out.1 | with_reducible refine IsTurns.setCell ?_ (by simp; omega) _)
  · have hj := HJ1.out.2
    repeat (first | with_reducible exact HJ1.out.1 | with_reducible refine IsInts.setCell ?_ (by simp; omega) _)
  · have hj := HJ2.out.2
    repeat (first | with_reducible exact HJ2.out.1 | with_reducible refine IsInts.setCell ?_ (by simp; omega) _)
  · have hj := HJ3.out.2
    repeat (first | with_reducible exact HJ3.out.1 | with_reducible refine IsInts.setCell ?_ (by simp; omega) _)
  · repeat (first | with_reducible exact BF.out | with_reducible refine Below.setCell ?_ (by first | (simp; done) | (simp; omega)) _)
  · repeat (first | with_reducible exact HG.out.1 | with_reducible refine FT.setCell ?_ _ _)
  · repeat (first | with_reducible exact HG.out.2.1 | with_reducible refine FI.setCell ?_ _ _)
  · repeat (first | with_reducible exact HG.out.2.2.1 | with_reducible refine FI.setCell ?_ _ _)
  · repeat (first | with_reducible exact HG.out.2.2.2 | with_reducible refine FI.setCell ?_ _ _)
end Go.Proofs.YtjncaeealmmhmaaDoor
namespace Go.Proofs.YtjncaeealmmhmaaDoor
open Go.RowKit
set_option linter.unusedVariables false
/-- All blocks but those from lo to hi lie as they lay. -/
structure GI (w w' : World) (lo hi : Nat) : Prop where
  os : w'.os = w.os
  tape : w'.tape = w.tape
  output : w'.output = w.output
  size : w.heap.size ≤ w'.heap.size
  block : ∀ k, k < w.heap.size → (k < lo ∨ hi < k) → w'.heap[k]? = w.heap[k]?
theorem GI.refl (w : World) (lo hi : Nat) : GI w w lo hi := ⟨rfl, rfl, rfl, Nat.le_refl _, fun _ _ _ => rfl⟩
theorem GI.trans {a b c : World} {lo hi : Nat} (h : GI a b lo hi) (k : GI b c lo hi) : GI a c lo hi :=
  ⟨k.os.trans h.os, k.tape.trans h.tape, k.output.trans h.output, Nat.le_trans h.size k.size, fun i hi hn => (k.block i (Nat.lt_of_lt_of_le hi h.size) hn).trans (h.block i hi hn)⟩
theorem GI.of_grown {w w' : World} {g lo hi : Nat} (h : w.grownBy w' (some g)) (h0 : lo ≤ g) (h1 : g ≤ hi) : GI w w' lo hi :=
  ⟨h.os, h.tape, h.output, h.size, fun k hk hn => h.block k hk (fun e => by simp only [Option.some.injEq] at e; omega)⟩
theorem GI.of_below {w w' : World} {lo hi : Nat} (h : Below w.heap.size w w') : GI w w' lo hi := ⟨h.os, h.tape, h.output, h.size, fun k hk _ => h.block k hk⟩
theorem GI.below {w w' : World} {lo hi B : Nat} (h : GI w w' lo hi) (hB : B ≤ w.heap.size) (hl : B ≤ lo) : Below B w w' := ⟨h.os, h.tape, h.output, h.size, fun k hk => h.block k (by omega) (.inl (by omega))⟩
theorem OI.gi {w w' : World} {B lo hi : Nat} {v : Value} {l : List Int} (h : OI w B v l) (hg : GI w w' lo hi) (hn : ∀ k, v.ownBlock = some k → k < lo ∨ hi < k) : OI w' B v l := by
  have hl := h.lt
  obtain ⟨h1, h2⟩ := h
  refine ⟨h1, ?_⟩
  rcases h2 with h2 | ⟨g, cap, cur, rfl, b, c, d⟩
  · exact .inl h2
  · exact .inr ⟨g, cap, cur, rfl, b, (hg.block g (hl g rfl).2 (hn g rfl)).trans c, d⟩
theorem FI.grown {w w' : World} {g n : Nat} {row : Option Nat} (h : FI w g n) (hg : w.grownBy w' row) (hn : some g ≠ row) : FI w' g n := by
  have hb := hg.block g h.lt hn
  refine ⟨fun i hi => ?_, fun i => ?_, Nat.lt_of_lt_of_le h.lt hg.size⟩
  · rw [World.cell?_of_block (w := w) (a := ⟨g, i, none⟩) hb]; exact h.there i hi
  · rw [World.frozen?_of_block (w := w) (a := ⟨g, i, none⟩) hb]; exact h.free i
theorem FT.grown {w w' : World} {g n : Nat} {row : Option Nat} (h : FT w g n) (hg : w.grownBy w' row) (hn : some g ≠ row) : FT w' g n := by
  have hb := hg.block g h.lt hn
  refine ⟨fun i hi => ?_, fun i => ?_, Nat.lt_of_lt_of_le h.lt hg.size⟩
  · rw [World.cell?_of_block (w := w) (a := ⟨g, i, none⟩) hb]; exact h.there i hi
  · rw [World.frozen?_of_block (w := w) (a := ⟨g, i, none⟩) hb]; exact h.free i
set_option maxHeartbeats 4000000 in
theorem lawMarkBys (g n cap : Nat) (k : Int) (w : World) (h : FT w g n) (hl : n ≤ 2000000) (k0 : 0 ≤ k) (k1 : k ≤ 1000000000) :
    Calls Tryd.prog 31 #[.slice (some ⟨g, 0, none⟩) n cap, .int .i64 k] w fun e w' => e = .returned (.int .i64 (k + 2 * n)) ∧ w.grownBy w' (some g) := by
  have HO : Hid (FT w g n) := h
  clear h
  go_enter Tryd.func31, Tryd.ntmps31
  go_wp2
  go_loopw [1, 5] (fun q i wr => ∃ j : Nat, j ≤ n ∧ i = .int .i64 j ∧ q = .int .i64 (k + 2 * j) ∧ FT wr g n ∧ w.grownBy wr (some g)) (fun _ i _ => n - (intOf i).toNat)
  case atStart => exact ⟨0, by omega, rfl, by go_num, HO.out, World.grownBy.refl _ _⟩
  case round =>
    obtain ⟨j, hj, rfl, rfl, O, G⟩ := hrel
    by_cases hlt : j < n
    · obtain ⟨v0, c0⟩ := O.there (j * 2) (by omega)
      obtain ⟨v1, c1⟩ := O.there (j * 2 + 1) (by omega)
      have f0 := O.free (j * 2)
      have f1 := O.free (j * 2 + 1)
      have FIN : Hid (FT ((wr.setCell ⟨g, j * 2, none⟩ (.int .i64 (k + 2 * j))).setCell ⟨g, j * 2 + 1, none⟩ (.int .i64 (k + 2 * j + 1))) g n ∧ w.grownBy ((wr.setCell ⟨g, j * 2, none⟩ (.int .i64 (k + 2 * j))).setCell ⟨g, j * 2 + 1, none⟩ (.int .i64 (k + 2 * j + 1))) (some g)) := ⟨(O.setCell _ _).setCell _ _, grown_trans (grown_trans G (grown_set _ ⟨g, j * 2, none⟩ _)) (grown_set _ ⟨g, j * 2 + 1, none⟩ _)⟩
      clear O G
      have hi1 : (j : Int) < (n : Int) := by omega
      go_wp2
      go_roundw
      case rel => exact ⟨j + 1, by omega, by go_num, by go_num, FIN.out.1, FIN.out.2⟩
      case measure => first | (simp [intOf]; done) | (simp [intOf]; omega)
    · have hjj : j = n := by omega
      subst hjj
      clear O
      go_wp2
      go_ret
      exact ⟨rfl, G⟩
set_option maxHeartbeats 4000000 in
theorem lawMarkIntsF (g n cap : Nat) (k : Int) (w : World) (h : FI w g n) (hl : n ≤ 2000000) (k0 : 0 ≤ k) (k1 : k ≤ 1000000000) :
    Calls Tryd.prog 13 #[.slice (some ⟨g, 0, none⟩) n cap, .int .i64 k] w fun e w' => e = .returned (.int .i64 (k + n)) ∧ w.grownBy w' (some g) := by
  have HO : Hid (FI w g n) := h
  clear h
  go_enter Tryd.func13, Tryd.ntmps13
  go_wp2
  go_loopw [1, 5] (fun q i wr => ∃ j : Nat, j ≤ n ∧ i = .int .i64 j ∧ q = .int .i64 (k + j) ∧ FI wr g n ∧ w.grownBy wr (some g)) (fun _ i _ => n - (intOf i).toNat)
  case atStart => exact ⟨0, by omega, rfl, by go_num, HO.out, World.grownBy.refl _ _⟩
  case round =>
    obtain ⟨j, hj, rfl, rfl, O, G⟩ := hrel
    by_cases hlt : j < n
    · obtain ⟨v0, c0⟩ := O.there j hlt
      have f0 := O.free j
      have FIN : Hid (FI (wr.setCell ⟨g, j, none⟩ (.int .i64 (k + j))) g n ∧ w.grownBy (wr.setCell ⟨g, j, none⟩ (.int .i64 (k + j))) (some g)) := ⟨O.setCell _ _, grown_trans G (grown_set _ ⟨g, j, none⟩ _)⟩
      clear O G
      have hi1 : (j : Int) < (n : Int) := by omega
      go_wp2
      go_roundw
      case rel => exact ⟨j + 1, by omega, by go_num, by go_num, FIN.out.1, FIN.out.2⟩
      case measure => first | (simp [intOf]; done) | (simp [intOf]; omega)
    · have hjj : j = n := by omega
      subst hjj
      clear O
      go_wp2
      go_ret
      exact ⟨rfl, G⟩
set_option maxHeartbeats 8000000 in
theorem lawMarkRule (f ev ct un : Int) (g0 n0 c0 g1 n1 c1 g2 n2 c2 g3 n3 c3 : Nat) (wk k : Int) (w : World) (h0 : FT w g0 n0) (h1 : FI w g1 n1) (h2 : FI w g2 n2) (h3 : FI w g3 n3) (o1 : g0 < g1) (o2 : g1 < g2) (o3 : g2 < g3)
    (l0 : n0 ≤ 2000000) (l1 : n1 ≤ 2000000) (l2 : n2 ≤ 2000000) (l3 : n3 ≤ 2000000) (k0 : 0 ≤ k) (k1 : k ≤ 100000000) :
    Calls Tryd.prog 12 #[.agg #[.int .i64 f, .int .i64 ev, .int .i64 ct, .int .i64 un, .slice (some ⟨g0, 0, none⟩) n0 c0, .slice (some ⟨g1, 0, none⟩) n1 c1, .slice (some ⟨g2, 0, none⟩) n2 c2, .slice (some ⟨g3, 0, none⟩) n3 c3, .int .i64 wk], .int .i64 k] w fun e w' => e = .returned (.int .i64 (k + 2 * n0 + n1 + n2 + n3)) ∧ GI w w' g0 g3 := by
  have hb0 := (Below.refl w.heap.size w).alloc (Nat.le_refl _) (.cells #[.int .i64 f, .int .i64 ev, .int .i64 ct, .int .i64 un, .slice (some ⟨g0, 0, none⟩) n0 c0, .slice (some ⟨g1, 0, none⟩) n1 c1, .slice (some ⟨g2, 0, none⟩) n2 c2, .slice (some ⟨g3, 0, none⟩) n3 c3, .int .i64 wk] 30)
  have C0 := CF.new w #[.int .i64 f, .int .i64 ev, .int .i64 ct, .int .i64 un, .slice (some ⟨g0, 0, none⟩) n0 c0, .slice (some ⟨g1, 0, none⟩) n1 c1, .slice (some ⟨g2, 0, none⟩) n2 c2, .slice (some ⟨g3, 0, none⟩) n3 c3, .int .i64 wk] 30
  have t0 := h0.lt; have t1 := h1.lt; have t2 := h2.lt; have t3 := h3.lt
  replace h0 := h0.below hb0
  replace h1 := h1.below hb0
  replace h2 := h2.below hb0
  replace h3 := h3.below hb0
  have G0 : GI w _ g0 g3 := GI.of_below hb0
  go_enter Tryd.func12, Tryd.ntmps12
  go_wp2_with fail
  generalize w.alloc (.cells #[.int .i64 f, .int .i64 ev, .int .i64 ct, .int .i64 un, .slice (some ⟨g0, 0, none⟩) n0 c0, .slice (some ⟨g1, 0, none⟩) n1 c1, .slice (some ⟨g2, 0, none⟩) n2 c2, .slice (some ⟨g3, 0, none⟩) n3 c3, .int .i64 wk] 30) = W at hb0 C0 h0 h1 h2 h3 G0 ⊢
  have cc : ∀ (w' : World) (g : Nat), W.grownBy w' (some g) → g < w.heap.size → ∀ (i : Nat) v, W.cell? ⟨w.heap.size, i, none⟩ = some v → w'.cell? ⟨w.heap.size, i, none⟩ = some v := fun w' g hg hl i v hv => hg.cell (a := ⟨w.heap.size, i, none⟩) hv (by simp; omega)
  refine (lawMarkBys g0 n0 c0 k _ h0 l0 k0 (by omega)).mono ?_
  rintro e w1 ⟨rfl, m1⟩
  have x5 := m1.cell (a := ⟨w.heap.size, 5, none⟩) (C0.2 5 _ rfl).1 (by simp; omega)
  have x6 := m1.cell (a := ⟨w.heap.size, 6, none⟩) (C0.2 6 _ rfl).1 (by simp; omega)
  have x7 := m1.cell (a := ⟨w.heap.size, 7, none⟩) (C0.2 7 _ rfl).1 (by simp; omega)
  replace h1 := h1.grown m1 (by simp; omega)
  replace h2 := h2.grown m1 (by simp; omega)
  replace h3 := h3.grown m1 (by simp; omega)
  have G1 := G0.trans (GI.of_grown m1 (Nat.le_refl _) (by omega))
  clear C0 h0 G0 cc hb0
  go_wp2_with fail
  refine (lawMarkIntsF g1 n1 c1 _ _ h1 l1 (by omega) (by omega)).mono ?_
  rintro e w2 ⟨rfl, m2⟩
  replace x6 := m2.cell (a := ⟨w.heap.size, 6, none⟩) x6 (by simp; omega)
  replace x7 := m2.cell (a := ⟨w.heap.size, 7, none⟩) x7 (by simp; omega)
  replace h2 := h2.grown m2 (by simp; omega)
  replace h3 := h3.grown m2 (by simp; omega)
  have G2 := G1.trans (GI.of_grown m2 (by omega) (by omega))
  clear h1 G1 x5 m1
  go_wp2_with fail
  refine (lawMarkIntsF g2 n2 c2 _ _ h2 l2 (by omega) (by omega)).mono ?_
  rintro e w3 ⟨rfl, m3⟩
  replace x7 := m3.cell (a := ⟨w.heap.size, 7, none⟩) x7 (by simp; omega)
  replace h3 := h3.grown m3 (by simp; omega)
  have G3 := G2.trans (GI.of_grown m3 (by omega) (by omega))
  clear h2 G2 x6 m2
  go_wp2_with fail
  refine (lawMarkIntsF g3 n3 c3 _ _ h3 l3 (by omega) (by omega)).mono ?_
  rintro e w4 ⟨rfl, m4⟩
  have G4 := G3.trans (GI.of_grown m4 (by omega) (Nat.le_refl _))
  clear h3 G3 x7 m3 m4
  go_wp2
  go_ret
  exact ⟨rfl, G4⟩
end Go.Proofs.YtjncaeealmmhmaaDoor
