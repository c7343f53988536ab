/- The exact laws' own helpers over rules: a rule's copy. -/
import Derived.Test.YtlnhagkipmcioaaDoorRe
namespace Go.Proofs.YtlnhagkipmcioaaDoor
open Go.RowKit
set_option linter.unusedVariables false
/-- The cells of a block, that may be written. -/
def CF (W : World) (b : Nat) (vs : Array Value) : Prop := b < W.heap.size ∧ ∀ i v, vs[i]? = some v → W.cell? ⟨b, i, none⟩ = some v ∧ W.frozen? ⟨b, i, none⟩ = false
theorem CF.below {W W' : World} {b : Nat} {vs : Array Value} (h : CF W b vs) (hb : Below W.heap.size W W') : CF W' b vs := by
  refine ⟨Nat.lt_of_lt_of_le h.1 hb.size, fun i v hv => ?_⟩
  rw [hb.cell (p := ⟨b, i, none⟩) h.1, hb.frozen (p := ⟨b, i, none⟩) h.1]; exact h.2 i v hv
theorem CF.new (W : World) (vs : Array Value) (T : TypeId) : CF (W.alloc (.cells vs T)) W.heap.size vs :=
  ⟨by simp, fun i v hv => ⟨by rw [World.cell?_alloc_new]; exact hv, by simp [go_sem]⟩⟩
theorem CF.past {W : World} {b : Nat} {vs : Array Value} (h : CF W b vs) (o : Obj) : CF (W.alloc o) b vs :=
  h.below ((Below.refl _ _).alloc (Nat.le_refl _) _)
theorem CF.set {W : World} {b : Nat} {vs : Array Value} (h : CF W b vs) (i : Nat) (v : Value) (hi : i < vs.size) : CF (W.setCell ⟨b, i, none⟩ v) b (vs.set! i v) := by
  refine ⟨by simpa using h.1, fun j u hu => ⟨?_, ?_⟩⟩
  · by_cases hij : j = i
    · subst hij
      simp [hi] at hu
      subst hu
      exact World.cell?_setCell_same _ _ _ (h.2 j vs[j] (by simp [hi])).1
    · rw [World.cell?_setCell_other _ _ _ _ (by simp)]
      exact (h.2 j u (by simpa [Array.getElem?_setIfInBounds, Ne.symm hij] using hu)).1
  · rw [World.frozen?_setCell]
    by_cases hij : j = i
    · subst hij; exact (h.2 j vs[j] (by simp [hi])).2
    · exact (h.2 j u (by simpa [Array.getElem?_setIfInBounds, Ne.symm hij] using hu)).2
theorem CF.other {W : World} {b b' : Nat} {vs : Array Value} (h : CF W b vs) (i : Nat) (v : Value) (hb : b ≠ b') : CF (W.setCell ⟨b', i, none⟩ v) b vs := by
  refine ⟨by simpa using h.1, fun j u hu => ⟨?_, ?_⟩⟩
  · rw [World.cell?_setCell_other _ _ _ _ (by simp)]; exact (h.2 j u hu).1
  · rw [World.frozen?_setCell]; exact (h.2 j u hu).2
theorem IsInts.setCell {w : World} {g : Nat} {l : List Int} (h : IsInts w (some ⟨g, 0, none⟩) l) {p : Addr} (hp : p.block ≠ g) (v : Value) : IsInts (w.setCell p v) (some ⟨g, 0, none⟩) l := by
  rcases h with h | ⟨b, off, h1, h2, h3⟩
  · exact .inl h
  · simp only [Option.some.injEq, Addr.mk.injEq] at h1
    obtain ⟨rfl, rfl, _⟩ := h1
    refine .inr ⟨g, 0, rfl, by simpa using h2, fun i hi => ?_⟩
    rw [World.cell?_of_block (w := w) (Below.heap_setCell _ _ _ _ (Ne.symm hp))]
    exact h3 i hi
/-- What stands while a rule is copied: what came, the copy, the answer, and the lists that were copied. -/
structure TR (w W : World) (B : Nat) (ps os rs : Array Value) : Prop where
  p : CF W B ps
  o : CF W (B + 1 + 1) os
  r : CF W (B + 1) rs
  b : Below w.heap.size w W
theorem TR.below {w W W' : World} {B : Nat} {ps os rs : Array Value} (h : TR w W B ps os rs) (hb : Below W.heap.size W W') : TR w W' B ps os rs :=
  ⟨h.p.below hb, h.o.below hb, h.r.below hb, bstep h.b hb⟩
theorem TR.set {w W : World} {B : Nat} {ps os rs : Array Value} (h : TR w W B ps os rs) (hB : w.heap.size ≤ B) (i : Nat) (v : Value) (hi : i < os.size) : TR w (W.setCell ⟨B + 1 + 1, i, none⟩ v) B ps (os.set! i v) rs :=
  ⟨h.p.other i v (by omega), h.o.set i v hi, h.r.other i v (by omega), h.b.setCell (p := ⟨B + 1 + 1, i, none⟩) (by simp; omega) _⟩
set_option maxRecDepth 100000 in
set_option maxHeartbeats 16000000 in
theorem lawToRule (f ev ct un : Int) (a0 : Option Addr) (c0 : Nat) (ds : List (Int × Int)) (a1 : Option Addr) (c1 : Nat) (da : List Int) (a2 : Option Addr) (c2 : Nat) (mo : List Int) (a3 : Option Addr) (c3 : Nat) (pl : List Int) (wk : Int) (w : World) (h0 : IsTurns w a0 ds) (h1 : IsInts w a1 da) (h2 : IsInts w a2 mo) (h3 : IsInts w a3 pl) (l0 : ds.length ≤ 2000000) (l1 : da.length ≤ 2000000) (l2 : mo.length ≤ 2000000) (l3 : pl.length ≤ 2000000) :
    Calls Tryd.prog 6 #[.agg #[.int .i64 f, .int .i64 ev, .int .i64 ct, .int .i64 un, .slice a0 ds.length c0, .slice a1 da.length c1, .slice a2 mo.length c2, .slice a3 pl.length c3, .int .i64 wk]] w fun z w' => ∃ g0 g1 g2 g3, z = .returned (.agg #[.int .i64 f, .int .i64 ev, .int .i64 ct, .int .i64 un, .slice (some ⟨g0, 0, none⟩) ds.length ds.length, .slice (some ⟨g1, 0, none⟩) da.length da.length, .slice (some ⟨g2, 0, none⟩) mo.length mo.length, .slice (some ⟨g3, 0, none⟩) pl.length pl.length, .int .i64 wk]) ∧ IsTurns w' (some ⟨g0, 0, none⟩) ds ∧ IsInts w' (some ⟨g1, 0, none⟩) da ∧ IsInts w' (some ⟨g2, 0, none⟩) mo ∧ IsInts w' (some ⟨g3, 0, none⟩) pl ∧ Below w.heap.size w w' := by
  have T0 : TR w (((w.alloc (.cells #[.int .i64 f, .int .i64 ev, .int .i64 ct, .int .i64 un, .slice a0 ds.length c0, .slice a1 da.length c1, .slice a2 mo.length c2, .slice a3 pl.length c3, .int .i64 wk] 25)).alloc (.cells #[.int .i64 0, .int .i64 0, .int .i64 0, .int .i64 0, .slice none 0 0, .slice none 0 0, .slice none 0 0, .slice none 0 0, .int .i64 0] 30)).alloc (.cells #[.int .i64 f, .int .i64 ev, .int .i64 ct, .int .i64 un, .slice none 0 0, .slice none 0 0, .slice none 0 0, .slice none 0 0, .int .i64 0] 30)) w.heap.size #[.int .i64 f, .int .i64 ev, .int .i64 ct, .int .i64 un, .slice a0 ds.length c0, .slice a1 da.length c1, .slice a2 mo.length c2, .slice a3 pl.length c3, .int .i64 wk] #[.int .i64 f, .int .i64 ev, .int .i64 ct, .int .i64 un, .slice none 0 0, .slice none 0 0, .slice none 0 0, .slice none 0 0, .int .i64 0] #[.int .i64 0, .int .i64 0, .int .i64 0, .int .i64 0, .slice none 0 0, .slice none 0 0, .slice none 0 0, .slice none 0 0, .int .i64 0] := by
    refine ⟨((CF.new w _ _).past _).past _, ?_, ?_, (((Below.refl _ _).alloc (Nat.le_refl _) _).alloc (by simp) _).alloc (by simp; omega) _⟩
    · have := CF.new ((w.alloc (.cells #[.int .i64 f, .int .i64 ev, .int .i64 ct, .int .i64 un, .slice a0 ds.length c0, .slice a1 da.length c1, .slice a2 mo.length c2, .slice a3 pl.length c3, .int .i64 wk] 25)).alloc (.cells #[.int .i64 0, .int .i64 0, .int .i64 0, .int .i64 0, .slice none 0 0, .slice none 0 0, .slice none 0 0, .slice none 0 0, .int .i64 0] 30)) #[.int .i64 f, .int .i64 ev, .int .i64 ct, .int .i64 un, .slice none 0 0, .slice none 0 0, .slice none 0 0, .slice none 0 0, .int .i64 0] 30
      simpa using this
    · have := (CF.new (w.alloc (.cells #[.int .i64 f, .int .i64 ev, .int .i64 ct, .int .i64 un, .slice a0 ds.length c0, .slice a1 da.length c1, .slice a2 mo.length c2, .slice a3 pl.length c3, .int .i64 wk] 25)) #[.int .i64 0, .int .i64 0, .int .i64 0, .int .i64 0, .slice none 0 0, .slice none 0 0, .slice none 0 0, .slice none 0 0, .int .i64 0] 30).past (.cells #[.int .i64 f, .int .i64 ev, .int .i64 ct, .int .i64 un, .slice none 0 0, .slice none 0 0, .slice none 0 0, .slice none 0 0, .int .i64 0] 30)
      simpa using this
  go_enter Tryd.func6, Tryd.ntmps6
  go_wp2_with fail
  generalize ((w.alloc (.cells #[.int .i64 f, .int .i64 ev, .int .i64 ct, .int .i64 un, .slice a0 ds.length c0, .slice a1 da.length c1, .slice a2 mo.length c2, .slice a3 pl.length c3, .int .i64 wk] 25)).alloc (.cells #[.int .i64 0, .int .i64 0, .int .i64 0, .int .i64 0, .slice none 0 0, .slice none 0 0, .slice none 0 0, .slice none 0 0, .int .i64 0] 30)).alloc (.cells #[.int .i64 f, .int .i64 ev, .int .i64 ct, .int .i64 un, .slice none 0 0, .slice none 0 0, .slice none 0 0, .slice none 0 0, .int .i64 0] 30) = V0 at T0 ⊢
  refine (lawToBys a0 c0 ds _ (h0.below (B := 0) T0.b) l0).mono ?_
  rintro z w1 ⟨rfl, I0, b1, _⟩
  have lt0 := T0.o.1
  have sz0 := b1.size
  have U0 := T0.below b1
  have o4 := U0.o.2 4 (.slice none 0 0) rfl
  have p5 := (U0.p.2 5 _ rfl).1
  obtain ⟨o4c, o4f⟩ := o4
  go_wp2_with fail
  have T1 : TR w (w1.setCell ⟨w.heap.size + 1 + 1, 4, none⟩ (.slice (some ⟨V0.heap.size, 0, none⟩) ds.length ds.length)) w.heap.size #[.int .i64 f, .int .i64 ev, .int .i64 ct, .int .i64 un, .slice a0 ds.length c0, .slice a1 da.length c1, .slice a2 mo.length c2, .slice a3 pl.length c3, .int .i64 wk] #[.int .i64 f, .int .i64 ev, .int .i64 ct, .int .i64 un, .slice (some ⟨V0.heap.size, 0, none⟩) ds.length ds.length, .slice none 0 0, .slice none 0 0, .slice none 0 0, .int .i64 0] #[.int .i64 0, .int .i64 0, .int .i64 0, .int .i64 0, .slice none 0 0, .slice none 0 0, .slice none 0 0, .slice none 0 0, .int .i64 0] := U0.set (Nat.le_refl _) 4 _ (by simp)
  replace I0 := I0.setCell (p := ⟨w.heap.size + 1 + 1, 4, none⟩) (by simp; omega) (.slice (some ⟨V0.heap.size, 0, none⟩) ds.length ds.length)
  generalize w1.setCell ⟨w.heap.size + 1 + 1, 4, none⟩ (.slice (some ⟨V0.heap.size, 0, none⟩) ds.length ds.length) = V1 at T1 I0 ⊢
  clear o4c o4f p5 U0
  refine (lawToInts a1 c1 da _ (h1.below T1.b) l1).mono ?_
  rintro z w2 ⟨rfl, I1, b2, _⟩
  have lt1 := T1.o.1
  replace I0 := I0.below (B := 0) b2
  have sz1 := b2.size
  have U1 := T1.below b2
  have o5 := U1.o.2 5 (.slice none 0 0) rfl
  have p6 := (U1.p.2 6 _ rfl).1
  obtain ⟨o5c, o5f⟩ := o5
  go_wp2_with fail
  have T2 : TR w (w2.setCell ⟨w.heap.size + 1 + 1, 5, none⟩ (.slice (some ⟨V1.heap.size, 0, none⟩) da.length da.length)) w.heap.size #[.int .i64 f, .int .i64 ev, .int .i64 ct, .int .i64 un, .slice a0 ds.length c0, .slice a1 da.length c1, .slice a2 mo.length c2, .slice a3 pl.length c3, .int .i64 wk] #[.int .i64 f, .int .i64 ev, .int .i64 ct, .int .i64 un, .slice (some ⟨V0.heap.size, 0, none⟩) ds.length ds.length, .slice (some ⟨V1.heap.size, 0, none⟩) da.length da.length, .slice none 0 0, .slice none 0 0, .int .i64 0] #[.int .i64 0, .int .i64 0, .int .i64 0, .int .i64 0, .slice none 0 0, .slice none 0 0, .slice none 0 0, .slice none 0 0, .int .i64 0] := U1.set (Nat.le_refl _) 5 _ (by simp)
  replace I0 := I0.setCell (p := ⟨w.heap.size + 1 + 1, 5, none⟩) (by simp; omega) (.slice (some ⟨V1.heap.size, 0, none⟩) da.length da.length)
  replace I1 := I1.setCell (p := ⟨w.heap.size + 1 + 1, 5, none⟩) (by simp; omega) (.slice (some ⟨V1.heap.size, 0, none⟩) da.length da.length)
  generalize w2.setCell ⟨w.heap.size + 1 + 1, 5, none⟩ (.slice (some ⟨V1.heap.size, 0, none⟩) da.length da.length) = V2 at T2 I0 I1 ⊢
  clear o5c o5f p6 U1
  refine (lawToInts a2 c2 mo _ (h2.below T2.b) l2).mono ?_
  rintro z w3 ⟨rfl, I2, b3, _⟩
  have lt2 := T2.o.1
  replace I0 := I0.below (B := 0) b3
  replace I1 := I1.below  b3
  have sz2 := b3.size
  have U2 := T2.below b3
  have o6 := U2.o.2 6 (.slice none 0 0) rfl
  have p7 := (U2.p.2 7 _ rfl).1
  obtain ⟨o6c, o6f⟩ := o6
  go_wp2_with fail
  have T3 : TR w (w3.setCell ⟨w.heap.size + 1 + 1, 6, none⟩ (.slice (some ⟨V2.heap.size, 0, none⟩) mo.length mo.length)) w.heap.size #[.int .i64 f, .int .i64 ev, .int .i64 ct, .int .i64 un, .slice a0 ds.length c0, .slice a1 da.length c1, .slice a2 mo.length c2, .slice a3 pl.length c3, .int .i64 wk] #[.int .i64 f, .int .i64 ev, .int .i64 ct, .int .i64 un, .slice (some ⟨V0.heap.size, 0, none⟩) ds.length ds.length, .slice (some ⟨V1.heap.size, 0, none⟩) da.length da.length, .slice (some ⟨V2.heap.size, 0, none⟩) mo.length mo.length, .slice none 0 0, .int .i64 0] #[.int .i64 0, .int .i64 0, .int .i64 0, .int .i64 0, .slice none 0 0, .slice none 0 0, .slice none 0 0, .slice none 0 0, .int .i64 0] := U2.set (Nat.le_refl _) 6 _ (by simp)
  replace I0 := I0.setCell (p := ⟨w.heap.size + 1 + 1, 6, none⟩) (by simp; omega) (.slice (some ⟨V2.heap.size, 0, none⟩) mo.length mo.length)
  replace I1 := I1.setCell (p := ⟨w.heap.size + 1 + 1, 6, none⟩) (by simp; omega) (.slice (some ⟨V2.heap.size, 0, none⟩) mo.length mo.length)
  replace I2 := I2.setCell (p := ⟨w.heap.size + 1 + 1, 6, none⟩) (by simp; omega) (.slice (some ⟨V2.heap.size, 0, none⟩) mo.length mo.length)
  generalize w3.setCell ⟨w.heap.size + 1 + 1, 6, none⟩ (.slice (some ⟨V2.heap.size, 0, none⟩) mo.length mo.length) = V3 at T3 I0 I1 I2 ⊢
  clear o6c o6f p7 U2
  refine (lawToInts a3 c3 pl _ (h3.below T3.b) l3).mono ?_
  rintro z w4 ⟨rfl, I3, b4, _⟩
  have lt3 := T3.o.1
  replace I0 := I0.below (B := 0) b4
  replace I1 := I1.below  b4
  replace I2 := I2.below  b4
  have sz3 := b4.size
  have U3 := T3.below b4
  have o7 := U3.o.2 7 (.slice none 0 0) rfl
  have p8 := (U3.p.2 8 _ rfl).1
  obtain ⟨o7c, o7f⟩ := o7
  have X8 := U3.o.2 8 (.int .i64 0) rfl
  obtain ⟨o8c, o8f⟩ := X8
  have o0 := (U3.o.2 0 _ rfl).1
  have o1 := (U3.o.2 1 _ rfl).1
  have o2 := (U3.o.2 2 _ rfl).1
  have o3 := (U3.o.2 3 _ rfl).1
  have o4 := (U3.o.2 4 _ rfl).1
  have o5 := (U3.o.2 5 _ rfl).1
  have o6 := (U3.o.2 6 _ rfl).1
  obtain ⟨r0, rf0⟩ := U3.r.2 0 _ rfl
  obtain ⟨r1, rf1⟩ := U3.r.2 1 _ rfl
  obtain ⟨r2, rf2⟩ := U3.r.2 2 _ rfl
  obtain ⟨r3, rf3⟩ := U3.r.2 3 _ rfl
  obtain ⟨r4, rf4⟩ := U3.r.2 4 _ rfl
  obtain ⟨r5, rf5⟩ := U3.r.2 5 _ rfl
  obtain ⟨r6, rf6⟩ := U3.r.2 6 _ rfl
  obtain ⟨r7, rf7⟩ := U3.r.2 7 _ rfl
  obtain ⟨r8, rf8⟩ := U3.r.2 8 _ rfl
  have bz : w.heap.size + 1 + 1 < w4.heap.size := U3.o.1
  have bz1 : w.heap.size + 1 < w4.heap.size := by omega
  have BF : Hid (Below w.heap.size w w4) := U3.b
  have J0 := I0
  have HJ0 : Hid (IsTurns w4 (some ⟨V0.heap.size, 0, none⟩) ds ∧ w.heap.size + 1 + 1 < V0.heap.size) := ⟨I0, lt0⟩
  have J1 := I1
  have HJ1 : Hid (IsInts w4 (some ⟨V1.heap.size, 0, none⟩) da ∧ w.heap.size + 1 + 1 < V1.heap.size) := ⟨I1, lt1⟩
  have J2 := I2
  have HJ2 : Hid (IsInts w4 (some ⟨V2.heap.size, 0, none⟩) mo ∧ w.heap.size + 1 + 1 < V2.heap.size) := ⟨I2, lt2⟩
  have J3 := I3
  have HJ3 : Hid (IsInts w4 (some ⟨V3.heap.size, 0, none⟩) pl ∧ w.heap.size + 1 + 1 < V3.heap.size) := ⟨I3, lt3⟩
  clear J0 J1 J2 J3 I0 I1 I2 I3 U3 T0 T1 T2 T3 h0 h1 h2 h3 b1 b2 b3 b4
  go_wp2
  refine bodyPost_ret (v := .agg #[.int .i64 f, .int .i64 ev, .int .i64 ct, .int .i64 un, .slice (some ⟨V0.heap.size, 0, none⟩) ds.length ds.length, .slice (some ⟨V1.heap.size, 0, none⟩) da.length da.length, .slice (some ⟨V2.heap.size, 0, none⟩) mo.length mo.length, .slice (some ⟨V3.heap.size, 0, none⟩) pl.length pl.length, .int .i64 wk]) (by simp [results, Tryd.results6, go_sem, *]) rfl ⟨_, _, _, _, rfl, ?_, ?_, ?_, ?_, ?_⟩
  · have hj := HJ0.out.2
    repeat (first | with_reducible exact HJ0.out.1 | with_reducible refine IsTurns.setCell ?_ (by simp; omega) _)
  · have hj := HJ1.out.2
    repeat (first | with_reducible exact HJ1.out.1 | with_reducible refine IsInts.setCell ?_ (by simp; omega) _)
  · have hj := HJ2.out.2
    repeat (first | with_reducible exact HJ2.out.1 | with_reducible refine IsInts.setCell ?_ (by simp; omega) _)
  · have hj := HJ3.out.2
    repeat (first | with_reducible exact HJ3.out.1 | with_reducible refine IsInts.setCell ?_ (by simp; omega) _)
  · repeat (first | with_reducible exact BF.out | with_reducible refine Below.setCell ?_ (by first | (simp; done) | (simp; omega)) _)
end Go.Proofs.YtlnhagkipmcioaaDoor
