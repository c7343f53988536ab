/- How a meeting that came in is read. -/
import Derived.Test.YthmekfijpfghkaaFrE
import Derived.Test.YthmekfijpfghkaaVhb
namespace Go.Proofs.Ythmekfijpfghkaa
open Go.ChangeShapes Go.WideShapes Go.ChangeAt Go.RowKit
set_option linter.unusedVariables false
theorem uAt_range (f : Nat → GuR) (n i : Nat) (h : i < n) : uAt ((List.range n).map f) i = f i := by simp [uAt, h]
set_option maxRecDepth 100000 in
theorem isGuests_open {H : Type} {enc : TypeId × Value → H} {W : World} {n : Nat} {v : Value} {y : DataW H × List MemPlace}
    (h : DataW.trod enc Try.prog W 0 (fun _ => true) true n 29 [v] = some y) : ∃ a cap os, v = .slice a (List.length os) cap ∧ UWide os ∧ IsGuests W a os := by
  have hC : Try.prog.cellsOf 86 = 3 := by kernel_rfl
  have hS : Try.prog.cellsOf 9 = 1 := by kernel_rfl
  have hI : Try.prog.cellsOf 3 = 1 := by kernel_rfl
  rcases Deep.open_slice Try.underlying29 h with ⟨hcs, _⟩ | ⟨x, len, cap, m, n', D, Pl, hcs, _, hl, hm, hmm, _, hall⟩
  · simp only [List.cons.injEq, and_true] at hcs
    exact ⟨none, 0, [], hcs, ⟨by simp, fun i hi => by simp at hi⟩, .inl rfl⟩
  · simp only [List.cons.injEq, and_true] at hcs
    have hlm : len ≤ m := by rw [hmm]; simp; omega
    have each : ∀ i, i < len → ∃ z : GuR, (W.cell? (x.add (i * 3)) = some (.string z.t) ∧ W.cell? (x.add (i * 3 + 1)) = some (.int .i64 z.s) ∧ W.cell? (x.add (i * 3 + 2)) = some (.int .i64 z.l)) ∧ z.t.size ≤ maxLen := by
      intro i hi
      obtain ⟨cs', h1, h2⟩ := hall i (by omega)
      rw [hC] at h1
      obtain ⟨_, hlen, hcell⟩ := World.cells?_some h1
      obtain ⟨xs, k, hk, hxy, _, hxl, hf⟩ := DataW.trod_struct Try.underlying86 h2
      match cs', hlen with
      | [v0, v1, v2], _ =>
        have some_of : ∀ j, j < 3 → ∃ y, xs[j]? = some y := fun j hj => ⟨xs[j]'(by rw [hxl]; exact hj), List.getElem?_eq_getElem _⟩
        obtain ⟨y0, q0⟩ : ∃ y, DataW.trod enc Try.prog W 0 (fun _ => true) true k 9 [v0] = some y := by
          obtain ⟨y, hy⟩ := some_of 0 (by omega)
          have q := hf 0 _ rfl
          have q' : DataW.trod enc Try.prog W 0 (fun _ => true) true k 9 (([v0, v1, v2].drop 0).take (Try.prog.cellsOf 9)) = xs[0]? := q
          rw [hS, hy] at q'
          exact ⟨y, q'⟩
        obtain ⟨y1, q1⟩ : ∃ y, DataW.trod enc Try.prog W 0 (fun _ => true) true k 3 [v1] = some y := by
          obtain ⟨y, hy⟩ := some_of 1 (by omega)
          have q := hf 1 _ rfl
          have q' : DataW.trod enc Try.prog W 0 (fun _ => true) true k 3 (([v0, v1, v2].drop 1).take (Try.prog.cellsOf 3)) = xs[1]? := q
          rw [hI, hy] at q'
          exact ⟨y, q'⟩
        obtain ⟨y2, q2⟩ : ∃ y, DataW.trod enc Try.prog W 0 (fun _ => true) true k 3 [v2] = some y := by
          obtain ⟨y, hy⟩ := some_of 2 (by omega)
          have q := hf 2 _ rfl
          have q' : DataW.trod enc Try.prog W 0 (fun _ => true) true k 3 (([v0, v1, v2].drop 2).take (Try.prog.cellsOf 3)) = xs[2]? := q
          rw [hI, hy] at q'
          exact ⟨y, q'⟩
        obtain ⟨t, e0, _, ht⟩ := DataW.trod_string Try.underlying9 q0
        obtain ⟨s, e1, _, _⟩ := DataW.trod_int Try.underlying3 q1
        obtain ⟨l, e2, _, _⟩ := DataW.trod_int Try.underlying3 q2
        simp at e0 e1 e2
        subst e0 e1 e2
        have c0 := hcell 0 (by omega)
        have c1 := hcell 1 (by omega)
        have c2 := hcell 2 (by omega)
        rw [Deep.add_add] at c0 c1 c2
        exact ⟨⟨t, s, l⟩, ⟨by simpa using c0, by simpa using c1, by simpa using c2⟩, ht⟩
    have inh : Inhabited GuR := ⟨gu0⟩
    obtain ⟨f, hf⟩ := Deep.choose_lt each
    refine ⟨some x, cap, (List.range len).map f, by simpa using hcs, ⟨by simpa using Nat.le_trans hl hm, fun i hi => ?_⟩, ?_⟩
    · have hi' : i < len := by simpa using hi
      rw [uAt_range f len i hi']
      exact (hf i hi').2
    · by_cases h0 : len = 0
      · subst h0; exact .inl (by simp)
      · right
        obtain ⟨b, off, spot⟩ := x
        obtain ⟨⟨hc, _⟩, _⟩ := hf 0 (by omega)
        have hspot : spot = none := by simpa [Addr.add] using World.cell?_spot hc
        subst hspot
        refine ⟨b, off, rfl, ?_, fun i hi => ?_⟩
        · rw [add_addr] at hc; exact cell_lt hc
        · have hi' : i < len := by simpa using hi
          obtain ⟨⟨d0, d1, d2⟩, _⟩ := hf i hi'
          rw [uAt_range f len i hi']
          rw [add_addr] at d0 d1 d2
          exact ⟨d0, by simpa [Nat.add_assoc] using d1, by simpa [Nat.add_assoc] using d2⟩
set_option maxRecDepth 100000 in
theorem eventCells_open {H : Type} {enc : TypeId × Value → H} {W : World} {n : Nat} {c0 c1 c2 c3 c4 c5 c6 c7 c8 c9 c10 c11 c12 c13 c14 c15 : Value} {y : DataW H × List MemPlace}
    (h : DataW.trod enc Try.prog W 0 (fun _ => true) true n 28 [c0, c1, c2, c3, c4, c5, c6, c7, c8, c9, c10, c11, c12, c13, c14, c15] = some y) :
    ∃ (e : Ev) (m : Em), c0 = .string e.id ∧ c1 = .string e.ti ∧ c2 = .string e.zn ∧ c3 = .int .i64 e.st ∧ c4 = .int .i64 e.lo ∧ c5 = .int .i64 e.r.f ∧ c6 = .int .i64 e.r.ev ∧ c7 = .int .i64 e.r.ct ∧ c8 = .int .i64 e.r.un ∧ c9 = .slice m.r.a0 e.r.ds.length m.r.c0 ∧ c10 = .slice m.r.a1 e.r.da.length m.r.c1 ∧ c11 = .slice m.r.a2 e.r.mo.length m.r.c2 ∧ c12 = .slice m.r.a3 e.r.pl.length m.r.c3 ∧ c13 = .int .i64 e.r.wk ∧ c14 = .slice m.ao e.ou.length m.co ∧ c15 = .slice m.av e.ov.length m.cv ∧ EMem W e m ∧ EWide e := by
  have hI : Try.prog.cellsOf 3 = 1 := by kernel_rfl
  have hS : Try.prog.cellsOf 9 = 1 := by kernel_rfl
  have hT : Try.prog.cellsOf 23 = 1 := by kernel_rfl
  have hO : Try.prog.cellsOf 26 = 1 := by kernel_rfl
  have hR : Try.prog.cellsOf 25 = 9 := by kernel_rfl
  obtain ⟨xs, k, hk, hxy, _, hxl, hf⟩ := DataW.trod_struct Try.underlying28 h
  have some_of : ∀ j, j < 8 → ∃ y, xs[j]? = some y := fun j hj => ⟨xs[j]'(by rw [hxl]; exact hj), List.getElem?_eq_getElem _⟩
  obtain ⟨y0, h0⟩ : ∃ y, DataW.trod enc Try.prog W 0 (fun _ => true) true k 9 [c0] = some y := by
    obtain ⟨y, hy⟩ := some_of 0 (by omega)
    have q := hf 0 _ rfl
    have q' : DataW.trod enc Try.prog W 0 (fun _ => true) true k 9 (([c0, c1, c2, c3, c4, c5, c6, c7, c8, c9, c10, c11, c12, c13, c14, c15].drop 0).take (Try.prog.cellsOf 9)) = xs[0]? := q
    rw [hS, hy] at q'
    exact ⟨y, q'⟩
  obtain ⟨y1, h1⟩ : ∃ y, DataW.trod enc Try.prog W 0 (fun _ => true) true k 9 [c1] = some y := by
    obtain ⟨y, hy⟩ := some_of 1 (by omega)
    have q := hf 1 _ rfl
    have q' : DataW.trod enc Try.prog W 0 (fun _ => true) true k 9 (([c0, c1, c2, c3, c4, c5, c6, c7, c8, c9, c10, c11, c12, c13, c14, c15].drop 1).take (Try.prog.cellsOf 9)) = xs[1]? := q
    rw [hS, hy] at q'
    exact ⟨y, q'⟩
  obtain ⟨y2, h2⟩ : ∃ y, DataW.trod enc Try.prog W 0 (fun _ => true) true k 9 [c2] = some y := by
    obtain ⟨y, hy⟩ := some_of 2 (by omega)
    have q := hf 2 _ rfl
    have q' : DataW.trod enc Try.prog W 0 (fun _ => true) true k 9 (([c0, c1, c2, c3, c4, c5, c6, c7, c8, c9, c10, c11, c12, c13, c14, c15].drop 2).take (Try.prog.cellsOf 9)) = xs[2]? := q
    rw [hS, hy] at q'
    exact ⟨y, q'⟩
  obtain ⟨y3, h3⟩ : ∃ y, DataW.trod enc Try.prog W 0 (fun _ => true) true k 3 [c3] = some y := by
    obtain ⟨y, hy⟩ := some_of 3 (by omega)
    have q := hf 3 _ rfl
    have q' : DataW.trod enc Try.prog W 0 (fun _ => true) true k 3 (([c0, c1, c2, c3, c4, c5, c6, c7, c8, c9, c10, c11, c12, c13, c14, c15].drop 3).take (Try.prog.cellsOf 3)) = xs[3]? := q
    rw [hI, hy] at q'
    exact ⟨y, q'⟩
  obtain ⟨y4, h4⟩ : ∃ y, DataW.trod enc Try.prog W 0 (fun _ => true) true k 3 [c4] = some y := by
    obtain ⟨y, hy⟩ := some_of 4 (by omega)
    have q := hf 4 _ rfl
    have q' : DataW.trod enc Try.prog W 0 (fun _ => true) true k 3 (([c0, c1, c2, c3, c4, c5, c6, c7, c8, c9, c10, c11, c12, c13, c14, c15].drop 4).take (Try.prog.cellsOf 3)) = xs[4]? := q
    rw [hI, hy] at q'
    exact ⟨y, q'⟩
  obtain ⟨y5, h5⟩ : ∃ y, DataW.trod enc Try.prog W 0 (fun _ => true) true k 25 [c5, c6, c7, c8, c9, c10, c11, c12, c13] = some y := by
    obtain ⟨y, hy⟩ := some_of 5 (by omega)
    have q := hf 5 _ rfl
    have q' : DataW.trod enc Try.prog W 0 (fun _ => true) true k 25 (([c0, c1, c2, c3, c4, c5, c6, c7, c8, c9, c10, c11, c12, c13, c14, c15].drop 5).take (Try.prog.cellsOf 25)) = xs[5]? := q
    rw [hR, hy] at q'
    exact ⟨y, q'⟩
  obtain ⟨y6, h6⟩ : ∃ y, DataW.trod enc Try.prog W 0 (fun _ => true) true k 23 [c14] = some y := by
    obtain ⟨y, hy⟩ := some_of 6 (by omega)
    have q := hf 6 _ rfl
    have q' : DataW.trod enc Try.prog W 0 (fun _ => true) true k 23 (([c0, c1, c2, c3, c4, c5, c6, c7, c8, c9, c10, c11, c12, c13, c14, c15].drop 14).take (Try.prog.cellsOf 23)) = xs[6]? := q
    rw [hT, hy] at q'
    exact ⟨y, q'⟩
  obtain ⟨y7, h7⟩ : ∃ y, DataW.trod enc Try.prog W 0 (fun _ => true) true k 26 [c15] = some y := by
    obtain ⟨y, hy⟩ := some_of 7 (by omega)
    have q := hf 7 _ rfl
    have q' : DataW.trod enc Try.prog W 0 (fun _ => true) true k 26 (([c0, c1, c2, c3, c4, c5, c6, c7, c8, c9, c10, c11, c12, c13, c14, c15].drop 15).take (Try.prog.cellsOf 26)) = xs[7]? := q
    rw [hO, hy] at q'
    exact ⟨y, q'⟩
  obtain ⟨id, e0, _, s0⟩ := DataW.trod_string Try.underlying9 h0
  obtain ⟨ti, e1, _, s1⟩ := DataW.trod_string Try.underlying9 h1
  obtain ⟨zn, e2, _, s2⟩ := DataW.trod_string Try.underlying9 h2
  obtain ⟨st, e3, _, _⟩ := DataW.trod_int Try.underlying3 h3
  obtain ⟨lo, e4, _, _⟩ := DataW.trod_int Try.underlying3 h4
  obtain ⟨r, m, f0, f1, f2, f3, f4, f5, f6, f7, f8, rm, l0, l1, l2, l3⟩ := ruleCells_open h5
  obtain ⟨ao, co, ou, e6, l6, t6⟩ := isInts_open h6
  obtain ⟨av, cv, ov, e7, w7, t7⟩ := isOvers_open h7
  simp at e0 e1 e2 e3 e4
  exact ⟨⟨id, ti, zn, st, lo, r, ou, ov⟩, ⟨m, ao, co, av, cv⟩, e0, e1, e2, e3, e4, f0, f1, f2, f3, f4, f5, f6, f7, f8, e6, e7, ⟨rm, t6, t7⟩, ⟨s0, s1, s2, l0, l1, l2, l3, l6⟩, w7⟩
theorem twenty {α : Type} {cs : Array α} (h : cs.size = 20) : ∃ c0 c1 c2 c3 c4 c5 c6 c7 c8 c9 c10 c11 c12 c13 c14 c15 c16 c17 c18 c19, cs = #[c0, c1, c2, c3, c4, c5, c6, c7, c8, c9, c10, c11, c12, c13, c14, c15, c16, c17, c18, c19] := by
  obtain ⟨l⟩ := cs
  match l, h with
  | [c0, c1, c2, c3, c4, c5, c6, c7, c8, c9, c10, c11, c12, c13, c14, c15, c16, c17, c18, c19], _ => exact ⟨c0, c1, c2, c3, c4, c5, c6, c7, c8, c9, c10, c11, c12, c13, c14, c15, c16, c17, c18, c19, rfl⟩
set_option maxRecDepth 100000 in
theorem isMeet_open {H : Type} {enc : TypeId × Value → H} {W : World} {r : Reach} {b0 : Nat} {v : Value} {d : DataW H} {p : List MemPlace}
    (hv : Value.okWide Try.prog W r b0 31 v) (h : DataW.Trod enc Try.prog W 0 (fun _ => true) true 31 v d p) :
    ∃ (q : Mt) (n : Mm), v = .agg #[.string q.e.id, .string q.e.ti, .string q.e.zn, .int .i64 q.e.st, .int .i64 q.e.lo, .int .i64 q.e.r.f, .int .i64 q.e.r.ev, .int .i64 q.e.r.ct, .int .i64 q.e.r.un, .slice n.m.r.a0 q.e.r.ds.length n.m.r.c0, .slice n.m.r.a1 q.e.r.da.length n.m.r.c1, .slice n.m.r.a2 q.e.r.mo.length n.m.r.c2, .slice n.m.r.a3 q.e.r.pl.length n.m.r.c3, .int .i64 q.e.r.wk, .slice n.m.ao q.e.ou.length n.m.co, .slice n.m.av q.e.ov.length n.m.cv, .string q.ho, .slice n.ag q.gu.length n.cg, .int .i64 q.sq, .bool q.of] ∧ MMem W q n ∧ MWide q := by
  obtain ⟨cs, n, rfl, hsz, hall⟩ := fields_open Try.underlying31 hv h
  obtain ⟨c0, c1, c2, c3, c4, c5, c6, c7, c8, c9, c10, c11, c12, c13, c14, c15, c16, c17, c18, c19, rfl⟩ := twenty (hsz.trans (by kernel_rfl))
  have hI : Try.prog.cellsOf 3 = 1 := by kernel_rfl
  have hS : Try.prog.cellsOf 9 = 1 := by kernel_rfl
  have hU : Try.prog.cellsOf 29 = 1 := by kernel_rfl
  have hB : Try.prog.cellsOf 4 = 1 := by kernel_rfl
  have hE : Try.prog.cellsOf 28 = 16 := by kernel_rfl
  obtain ⟨y0, h0⟩ : ∃ y, DataW.trod enc Try.prog W 0 (fun _ => true) true n 28 [c0, c1, c2, c3, c4, c5, c6, c7, c8, c9, c10, c11, c12, c13, c14, c15] = some y := by
    obtain ⟨y, q⟩ := hall 0 _ rfl
    have q' : DataW.trod enc Try.prog W 0 (fun _ => true) true n 28 (([c0, c1, c2, c3, c4, c5, c6, c7, c8, c9, c10, c11, c12, c13, c14, c15, c16, c17, c18, c19].drop 0).take (Try.prog.cellsOf 28)) = some y := q
    rw [hE] at q'
    exact ⟨y, q'⟩
  obtain ⟨y1, h1⟩ : ∃ y, DataW.trod enc Try.prog W 0 (fun _ => true) true n 9 [c16] = some y := by
    obtain ⟨y, q⟩ := hall 1 _ rfl
    have q' : DataW.trod enc Try.prog W 0 (fun _ => true) true n 9 (([c0, c1, c2, c3, c4, c5, c6, c7, c8, c9, c10, c11, c12, c13, c14, c15, c16, c17, c18, c19].drop 16).take (Try.prog.cellsOf 9)) = some y := q
    rw [hS] at q'
    exact ⟨y, q'⟩
  obtain ⟨y2, h2⟩ : ∃ y, DataW.trod enc Try.prog W 0 (fun _ => true) true n 29 [c17] = some y := by
    obtain ⟨y, q⟩ := hall 2 _ rfl
    have q' : DataW.trod enc Try.prog W 0 (fun _ => true) true n 29 (([c0, c1, c2, c3, c4, c5, c6, c7, c8, c9, c10, c11, c12, c13, c14, c15, c16, c17, c18, c19].drop 17).take (Try.prog.cellsOf 29)) = some y := q
    rw [hU] at q'
    exact ⟨y, q'⟩
  obtain ⟨y3, h3⟩ : ∃ y, DataW.trod enc Try.prog W 0 (fun _ => true) true n 3 [c18] = some y := by
    obtain ⟨y, q⟩ := hall 3 _ rfl
    have q' : DataW.trod enc Try.prog W 0 (fun _ => true) true n 3 (([c0, c1, c2, c3, c4, c5, c6, c7, c8, c9, c10, c11, c12, c13, c14, c15, c16, c17, c18, c19].drop 18).take (Try.prog.cellsOf 3)) = some y := q
    rw [hI] at q'
    exact ⟨y, q'⟩
  obtain ⟨y4, h4⟩ : ∃ y, DataW.trod enc Try.prog W 0 (fun _ => true) true n 4 [c19] = some y := by
    obtain ⟨y, q⟩ := hall 4 _ rfl
    have q' : DataW.trod enc Try.prog W 0 (fun _ => true) true n 4 (([c0, c1, c2, c3, c4, c5, c6, c7, c8, c9, c10, c11, c12, c13, c14, c15, c16, c17, c18, c19].drop 19).take (Try.prog.cellsOf 4)) = some y := q
    rw [hB] at q'
    exact ⟨y, q'⟩
  obtain ⟨e, m, f0, f1, f2, f3, f4, f5, f6, f7, f8, f9, f10, f11, f12, f13, f14, f15, em, ew⟩ := eventCells_open h0
  obtain ⟨ho, e1, _, s1⟩ := DataW.trod_string Try.underlying9 h1
  obtain ⟨ag, cg, gu, e2, w2, t2⟩ := isGuests_open h2
  obtain ⟨sq, e3, _, _⟩ := DataW.trod_int Try.underlying3 h3
  obtain ⟨of, e4, _⟩ := DataW.trod_bool Try.underlying4 h4
  simp at e1 e3 e4
  subst e1 e2 e3 e4 f0 f1 f2 f3 f4 f5 f6 f7 f8 f9 f10 f11 f12 f13 f14 f15
  exact ⟨⟨e, ho, gu, sq, of⟩, ⟨m, ag, cg⟩, rfl, ⟨em, t2⟩, ew, s1, w2⟩
end Go.Proofs.Ythmekfijpfghkaa
