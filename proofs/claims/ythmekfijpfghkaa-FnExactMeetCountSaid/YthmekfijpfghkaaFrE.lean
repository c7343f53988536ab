/- How an event that came in is read. -/
import Derived.Test.YthmekfijpfghkaaFrR
import Derived.Test.YthmekfijpfghkaaVb
namespace Go.Proofs.Ythmekfijpfghkaa
open Go.ChangeShapes Go.WideShapes Go.ChangeAt Go.RowKit
set_option linter.unusedVariables false
theorem oAt_range (f : Nat → OvR) (n i : Nat) (h : i < n) : oAt ((List.range n).map f) i = f i := by simp [oAt, h]
set_option maxRecDepth 100000 in
theorem isOvers_open {H : Type} {enc : TypeId × Value → H} {W : World} {n : Nat} {v : Value} {y : DataW H × List MemPlace}
    (h : DataW.trod enc Try.prog W 0 (fun _ => true) true n 26 [v] = some y) : ∃ a cap os, v = .slice a (List.length os) cap ∧ OWide os ∧ IsOvers W a os := by
  have hC : Try.prog.cellsOf 123 = 4 := by kernel_rfl
  have hS : Try.prog.cellsOf 9 = 1 := by kernel_rfl
  have hI : Try.prog.cellsOf 3 = 1 := by kernel_rfl
  rcases Deep.open_slice Try.underlying26 h with ⟨hcs, _⟩ | ⟨x, len, cap, m, n', D, Pl, hcs, _, hl, hm, hmm, _, hall⟩
  · simp only [List.cons.injEq, and_true] at hcs
    exact ⟨none, 0, [], hcs, ⟨by simp, fun i hi => by simp at hi⟩, .inl rfl⟩
  · simp only [List.cons.injEq, and_true] at hcs
    have hlm : len ≤ m := by rw [hmm]; simp; omega
    have each : ∀ i, i < len → ∃ z : OvR, (W.cell? (x.add (i * 4)) = some (.int .i64 z.a) ∧ W.cell? (x.add (i * 4 + 1)) = some (.int .i64 z.s) ∧ W.cell? (x.add (i * 4 + 2)) = some (.int .i64 z.l) ∧ W.cell? (x.add (i * 4 + 3)) = some (.string z.t)) ∧ z.t.size ≤ maxLen := by
      intro i hi
      obtain ⟨cs', h1, h2⟩ := hall i (by omega)
      rw [hC] at h1
      obtain ⟨_, hlen, hcell⟩ := World.cells?_some h1
      obtain ⟨xs, k, hk, hxy, _, hxl, hf⟩ := DataW.trod_struct Try.underlying123 h2
      match cs', hlen with
      | [v0, v1, v2, v3], _ =>
        have some_of : ∀ j, j < 4 → ∃ y, xs[j]? = some y := fun j hj => ⟨xs[j]'(by rw [hxl]; exact hj), List.getElem?_eq_getElem _⟩
        obtain ⟨y0, q0⟩ : ∃ y, DataW.trod enc Try.prog W 0 (fun _ => true) true k 3 [v0] = some y := by
          obtain ⟨y, hy⟩ := some_of 0 (by omega)
          have q := hf 0 _ rfl
          have q' : DataW.trod enc Try.prog W 0 (fun _ => true) true k 3 (([v0, v1, v2, v3].drop 0).take (Try.prog.cellsOf 3)) = xs[0]? := q
          rw [hI, hy] at q'
          exact ⟨y, q'⟩
        obtain ⟨y1, q1⟩ : ∃ y, DataW.trod enc Try.prog W 0 (fun _ => true) true k 3 [v1] = some y := by
          obtain ⟨y, hy⟩ := some_of 1 (by omega)
          have q := hf 1 _ rfl
          have q' : DataW.trod enc Try.prog W 0 (fun _ => true) true k 3 (([v0, v1, v2, v3].drop 1).take (Try.prog.cellsOf 3)) = xs[1]? := q
          rw [hI, hy] at q'
          exact ⟨y, q'⟩
        obtain ⟨y2, q2⟩ : ∃ y, DataW.trod enc Try.prog W 0 (fun _ => true) true k 3 [v2] = some y := by
          obtain ⟨y, hy⟩ := some_of 2 (by omega)
          have q := hf 2 _ rfl
          have q' : DataW.trod enc Try.prog W 0 (fun _ => true) true k 3 (([v0, v1, v2, v3].drop 2).take (Try.prog.cellsOf 3)) = xs[2]? := q
          rw [hI, hy] at q'
          exact ⟨y, q'⟩
        obtain ⟨y3, q3⟩ : ∃ y, DataW.trod enc Try.prog W 0 (fun _ => true) true k 9 [v3] = some y := by
          obtain ⟨y, hy⟩ := some_of 3 (by omega)
          have q := hf 3 _ rfl
          have q' : DataW.trod enc Try.prog W 0 (fun _ => true) true k 9 (([v0, v1, v2, v3].drop 3).take (Try.prog.cellsOf 9)) = xs[3]? := q
          rw [hS, hy] at q'
          exact ⟨y, q'⟩
        obtain ⟨a, e0, _, _⟩ := DataW.trod_int Try.underlying3 q0
        obtain ⟨s, e1, _, _⟩ := DataW.trod_int Try.underlying3 q1
        obtain ⟨l, e2, _, _⟩ := DataW.trod_int Try.underlying3 q2
        obtain ⟨t, e3, _, ht⟩ := DataW.trod_string Try.underlying9 q3
        simp at e0 e1 e2 e3
        subst e0 e1 e2 e3
        have c0 := hcell 0 (by omega)
        have c1 := hcell 1 (by omega)
        have c2 := hcell 2 (by omega)
        have c3 := hcell 3 (by omega)
        rw [Deep.add_add] at c0 c1 c2 c3
        exact ⟨⟨a, s, l, t⟩, ⟨by simpa using c0, by simpa using c1, by simpa using c2, by simpa using c3⟩, ht⟩
    have inh : Inhabited OvR := ⟨ov0⟩
    obtain ⟨f, hf⟩ := Deep.choose_lt each
    refine ⟨some x, cap, (List.range len).map f, by simpa using hcs, ⟨by simpa using Nat.le_trans hl hm, fun i hi => ?_⟩, ?_⟩
    · have hi' : i < len := by simpa using hi
      rw [oAt_range f len i hi']
      exact (hf i hi').2
    · by_cases h0 : len = 0
      · subst h0; exact .inl (by simp)
      · right
        obtain ⟨b, off, spot⟩ := x
        obtain ⟨⟨hc, _⟩, _⟩ := hf 0 (by omega)
        have hspot : spot = none := by simpa [Addr.add] using World.cell?_spot hc
        subst hspot
        refine ⟨b, off, rfl, ?_, fun i hi => ?_⟩
        · rw [add_addr] at hc; exact cell_lt hc
        · have hi' : i < len := by simpa using hi
          obtain ⟨⟨d0, d1, d2, d3⟩, _⟩ := hf i hi'
          rw [oAt_range f len i hi']
          rw [add_addr] at d0 d1 d2 d3
          exact ⟨d0, by simpa [Nat.add_assoc] using d1, by simpa [Nat.add_assoc] using d2, by simpa [Nat.add_assoc] using d3⟩
/-- A list of sixteen. -/
theorem sixteen {α : Type} {cs : Array α} (h : cs.size = 16) : ∃ c0 c1 c2 c3 c4 c5 c6 c7 c8 c9 c10 c11 c12 c13 c14 c15, cs = #[c0, c1, c2, c3, c4, c5, c6, c7, c8, c9, c10, c11, c12, c13, c14, c15] := by
  obtain ⟨l⟩ := cs
  match l, h with
  | [c0, c1, c2, c3, c4, c5, c6, c7, c8, c9, c10, c11, c12, c13, c14, c15], _ => exact ⟨c0, c1, c2, c3, c4, c5, c6, c7, c8, c9, c10, c11, c12, c13, c14, c15, rfl⟩
set_option maxRecDepth 100000 in
theorem ruleCells_open {H : Type} {enc : TypeId × Value → H} {W : World} {n : Nat} {c0 c1 c2 c3 c4 c5 c6 c7 c8 : Value} {y : DataW H × List MemPlace}
    (h : DataW.trod enc Try.prog W 0 (fun _ => true) true n 25 [c0, c1, c2, c3, c4, c5, c6, c7, c8] = some y) :
    ∃ (r : Rl) (m : Rm), c0 = .int .i64 r.f ∧ c1 = .int .i64 r.ev ∧ c2 = .int .i64 r.ct ∧ c3 = .int .i64 r.un ∧ c4 = .slice m.a0 r.ds.length m.c0 ∧ c5 = .slice m.a1 r.da.length m.c1 ∧ c6 = .slice m.a2 r.mo.length m.c2 ∧ c7 = .slice m.a3 r.pl.length m.c3 ∧ c8 = .int .i64 r.wk ∧ RMem W r m ∧ r.ds.length ≤ maxLen ∧ r.da.length ≤ maxLen ∧ r.mo.length ≤ maxLen ∧ r.pl.length ≤ maxLen := by
  have hI : Try.prog.cellsOf 3 = 1 := by kernel_rfl
  have hS : Try.prog.cellsOf 23 = 1 := by kernel_rfl
  have hB : Try.prog.cellsOf 22 = 1 := by kernel_rfl
  obtain ⟨xs, k, hk, hxy, _, hxl, hf⟩ := DataW.trod_struct Try.underlying25 h
  have some_of : ∀ j, j < 9 → ∃ y, xs[j]? = some y := fun j hj => ⟨xs[j]'(by rw [hxl]; exact hj), List.getElem?_eq_getElem _⟩
  obtain ⟨y0, q0⟩ : ∃ y, DataW.trod enc Try.prog W 0 (fun _ => true) true k 3 [c0] = some y := by
    obtain ⟨y, hy⟩ := some_of 0 (by omega)
    have q := hf 0 _ rfl
    have q' : DataW.trod enc Try.prog W 0 (fun _ => true) true k 3 (([c0, c1, c2, c3, c4, c5, c6, c7, c8].drop 0).take (Try.prog.cellsOf 3)) = xs[0]? := q
    rw [hI, hy] at q'
    exact ⟨y, q'⟩
  obtain ⟨y1, q1⟩ : ∃ y, DataW.trod enc Try.prog W 0 (fun _ => true) true k 3 [c1] = some y := by
    obtain ⟨y, hy⟩ := some_of 1 (by omega)
    have q := hf 1 _ rfl
    have q' : DataW.trod enc Try.prog W 0 (fun _ => true) true k 3 (([c0, c1, c2, c3, c4, c5, c6, c7, c8].drop 1).take (Try.prog.cellsOf 3)) = xs[1]? := q
    rw [hI, hy] at q'
    exact ⟨y, q'⟩
  obtain ⟨y2, q2⟩ : ∃ y, DataW.trod enc Try.prog W 0 (fun _ => true) true k 3 [c2] = some y := by
    obtain ⟨y, hy⟩ := some_of 2 (by omega)
    have q := hf 2 _ rfl
    have q' : DataW.trod enc Try.prog W 0 (fun _ => true) true k 3 (([c0, c1, c2, c3, c4, c5, c6, c7, c8].drop 2).take (Try.prog.cellsOf 3)) = xs[2]? := q
    rw [hI, hy] at q'
    exact ⟨y, q'⟩
  obtain ⟨y3, q3⟩ : ∃ y, DataW.trod enc Try.prog W 0 (fun _ => true) true k 3 [c3] = some y := by
    obtain ⟨y, hy⟩ := some_of 3 (by omega)
    have q := hf 3 _ rfl
    have q' : DataW.trod enc Try.prog W 0 (fun _ => true) true k 3 (([c0, c1, c2, c3, c4, c5, c6, c7, c8].drop 3).take (Try.prog.cellsOf 3)) = xs[3]? := q
    rw [hI, hy] at q'
    exact ⟨y, q'⟩
  obtain ⟨y4, q4⟩ : ∃ y, DataW.trod enc Try.prog W 0 (fun _ => true) true k 22 [c4] = some y := by
    obtain ⟨y, hy⟩ := some_of 4 (by omega)
    have q := hf 4 _ rfl
    have q' : DataW.trod enc Try.prog W 0 (fun _ => true) true k 22 (([c0, c1, c2, c3, c4, c5, c6, c7, c8].drop 4).take (Try.prog.cellsOf 22)) = xs[4]? := q
    rw [hB, hy] at q'
    exact ⟨y, q'⟩
  obtain ⟨y5, q5⟩ : ∃ y, DataW.trod enc Try.prog W 0 (fun _ => true) true k 23 [c5] = some y := by
    obtain ⟨y, hy⟩ := some_of 5 (by omega)
    have q := hf 5 _ rfl
    have q' : DataW.trod enc Try.prog W 0 (fun _ => true) true k 23 (([c0, c1, c2, c3, c4, c5, c6, c7, c8].drop 5).take (Try.prog.cellsOf 23)) = xs[5]? := q
    rw [hS, hy] at q'
    exact ⟨y, q'⟩
  obtain ⟨y6, q6⟩ : ∃ y, DataW.trod enc Try.prog W 0 (fun _ => true) true k 23 [c6] = some y := by
    obtain ⟨y, hy⟩ := some_of 6 (by omega)
    have q := hf 6 _ rfl
    have q' : DataW.trod enc Try.prog W 0 (fun _ => true) true k 23 (([c0, c1, c2, c3, c4, c5, c6, c7, c8].drop 6).take (Try.prog.cellsOf 23)) = xs[6]? := q
    rw [hS, hy] at q'
    exact ⟨y, q'⟩
  obtain ⟨y7, q7⟩ : ∃ y, DataW.trod enc Try.prog W 0 (fun _ => true) true k 23 [c7] = some y := by
    obtain ⟨y, hy⟩ := some_of 7 (by omega)
    have q := hf 7 _ rfl
    have q' : DataW.trod enc Try.prog W 0 (fun _ => true) true k 23 (([c0, c1, c2, c3, c4, c5, c6, c7, c8].drop 7).take (Try.prog.cellsOf 23)) = xs[7]? := q
    rw [hS, hy] at q'
    exact ⟨y, q'⟩
  obtain ⟨y8, q8⟩ : ∃ y, DataW.trod enc Try.prog W 0 (fun _ => true) true k 3 [c8] = some y := by
    obtain ⟨y, hy⟩ := some_of 8 (by omega)
    have q := hf 8 _ rfl
    have q' : DataW.trod enc Try.prog W 0 (fun _ => true) true k 3 (([c0, c1, c2, c3, c4, c5, c6, c7, c8].drop 8).take (Try.prog.cellsOf 3)) = xs[8]? := q
    rw [hI, hy] at q'
    exact ⟨y, q'⟩
  obtain ⟨f, e0, _, _⟩ := DataW.trod_int Try.underlying3 q0
  obtain ⟨ev, e1, _, _⟩ := DataW.trod_int Try.underlying3 q1
  obtain ⟨ct, e2, _, _⟩ := DataW.trod_int Try.underlying3 q2
  obtain ⟨un, e3, _, _⟩ := DataW.trod_int Try.underlying3 q3
  obtain ⟨a0, k0, ds, e4, l0, t0⟩ := isBys_open q4
  obtain ⟨a1, k1, da, e5, l1, t1⟩ := isInts_open q5
  obtain ⟨a2, k2, mo, e6, l2, t2⟩ := isInts_open q6
  obtain ⟨a3, k3, pl, e7, l3, t3⟩ := isInts_open q7
  obtain ⟨wk, e8, _, _⟩ := DataW.trod_int Try.underlying3 q8
  simp at e0 e1 e2 e3 e8
  exact ⟨⟨f, ev, ct, un, ds, da, mo, pl, wk⟩, ⟨a0, k0, a1, k1, a2, k2, a3, k3⟩, e0, e1, e2, e3, e4, e5, e6, e7, e8, ⟨t0, t1, t2, t3⟩, l0, l1, l2, l3⟩
set_option maxRecDepth 100000 in
theorem isEvent_open {H : Type} {enc : TypeId × Value → H} {W : World} {r : Reach} {b0 : Nat} {v : Value} {d : DataW H} {p : List MemPlace}
    (hv : Value.okWide Try.prog W r b0 28 v) (h : DataW.Trod enc Try.prog W 0 (fun _ => true) true 28 v d p) :
    ∃ (e : Ev) (m : Em), v = .agg #[.string e.id, .string e.ti, .string e.zn, .int .i64 e.st, .int .i64 e.lo, .int .i64 e.r.f, .int .i64 e.r.ev, .int .i64 e.r.ct, .int .i64 e.r.un, .slice m.r.a0 e.r.ds.length m.r.c0, .slice m.r.a1 e.r.da.length m.r.c1, .slice m.r.a2 e.r.mo.length m.r.c2, .slice m.r.a3 e.r.pl.length m.r.c3, .int .i64 e.r.wk, .slice m.ao e.ou.length m.co, .slice m.av e.ov.length m.cv] ∧ EMem W e m ∧ EWide e := by
  obtain ⟨cs, n, rfl, hsz, hall⟩ := fields_open Try.underlying28 hv h
  obtain ⟨c0, c1, c2, c3, c4, c5, c6, c7, c8, c9, c10, c11, c12, c13, c14, c15, rfl⟩ := sixteen (hsz.trans (by kernel_rfl))
  have hI : Try.prog.cellsOf 3 = 1 := by kernel_rfl
  have hS : Try.prog.cellsOf 9 = 1 := by kernel_rfl
  have hT : Try.prog.cellsOf 23 = 1 := by kernel_rfl
  have hO : Try.prog.cellsOf 26 = 1 := by kernel_rfl
  have hR : Try.prog.cellsOf 25 = 9 := by kernel_rfl
  obtain ⟨y0, h0⟩ : ∃ y, DataW.trod enc Try.prog W 0 (fun _ => true) true n 9 [c0] = some y := by
    obtain ⟨y, q⟩ := hall 0 _ rfl
    have q' : DataW.trod enc Try.prog W 0 (fun _ => true) true n 9 (([c0, c1, c2, c3, c4, c5, c6, c7, c8, c9, c10, c11, c12, c13, c14, c15].drop 0).take (Try.prog.cellsOf 9)) = some y := q
    rw [hS] at q'
    exact ⟨y, q'⟩
  obtain ⟨y1, h1⟩ : ∃ y, DataW.trod enc Try.prog W 0 (fun _ => true) true n 9 [c1] = some y := by
    obtain ⟨y, q⟩ := hall 1 _ rfl
    have q' : DataW.trod enc Try.prog W 0 (fun _ => true) true n 9 (([c0, c1, c2, c3, c4, c5, c6, c7, c8, c9, c10, c11, c12, c13, c14, c15].drop 1).take (Try.prog.cellsOf 9)) = some y := q
    rw [hS] at q'
    exact ⟨y, q'⟩
  obtain ⟨y2, h2⟩ : ∃ y, DataW.trod enc Try.prog W 0 (fun _ => true) true n 9 [c2] = some y := by
    obtain ⟨y, q⟩ := hall 2 _ rfl
    have q' : DataW.trod enc Try.prog W 0 (fun _ => true) true n 9 (([c0, c1, c2, c3, c4, c5, c6, c7, c8, c9, c10, c11, c12, c13, c14, c15].drop 2).take (Try.prog.cellsOf 9)) = some y := q
    rw [hS] at q'
    exact ⟨y, q'⟩
  obtain ⟨y3, h3⟩ : ∃ y, DataW.trod enc Try.prog W 0 (fun _ => true) true n 3 [c3] = some y := by
    obtain ⟨y, q⟩ := hall 3 _ rfl
    have q' : DataW.trod enc Try.prog W 0 (fun _ => true) true n 3 (([c0, c1, c2, c3, c4, c5, c6, c7, c8, c9, c10, c11, c12, c13, c14, c15].drop 3).take (Try.prog.cellsOf 3)) = some y := q
    rw [hI] at q'
    exact ⟨y, q'⟩
  obtain ⟨y4, h4⟩ : ∃ y, DataW.trod enc Try.prog W 0 (fun _ => true) true n 3 [c4] = some y := by
    obtain ⟨y, q⟩ := hall 4 _ rfl
    have q' : DataW.trod enc Try.prog W 0 (fun _ => true) true n 3 (([c0, c1, c2, c3, c4, c5, c6, c7, c8, c9, c10, c11, c12, c13, c14, c15].drop 4).take (Try.prog.cellsOf 3)) = some y := q
    rw [hI] at q'
    exact ⟨y, q'⟩
  obtain ⟨y5, h5⟩ : ∃ y, DataW.trod enc Try.prog W 0 (fun _ => true) true n 25 [c5, c6, c7, c8, c9, c10, c11, c12, c13] = some y := by
    obtain ⟨y, q⟩ := hall 5 _ rfl
    have q' : DataW.trod enc Try.prog W 0 (fun _ => true) true n 25 (([c0, c1, c2, c3, c4, c5, c6, c7, c8, c9, c10, c11, c12, c13, c14, c15].drop 5).take (Try.prog.cellsOf 25)) = some y := q
    rw [hR] at q'
    exact ⟨y, q'⟩
  obtain ⟨y6, h6⟩ : ∃ y, DataW.trod enc Try.prog W 0 (fun _ => true) true n 23 [c14] = some y := by
    obtain ⟨y, q⟩ := hall 6 _ rfl
    have q' : DataW.trod enc Try.prog W 0 (fun _ => true) true n 23 (([c0, c1, c2, c3, c4, c5, c6, c7, c8, c9, c10, c11, c12, c13, c14, c15].drop 14).take (Try.prog.cellsOf 23)) = some y := q
    rw [hT] at q'
    exact ⟨y, q'⟩
  obtain ⟨y7, h7⟩ : ∃ y, DataW.trod enc Try.prog W 0 (fun _ => true) true n 26 [c15] = some y := by
    obtain ⟨y, q⟩ := hall 7 _ rfl
    have q' : DataW.trod enc Try.prog W 0 (fun _ => true) true n 26 (([c0, c1, c2, c3, c4, c5, c6, c7, c8, c9, c10, c11, c12, c13, c14, c15].drop 15).take (Try.prog.cellsOf 26)) = some y := q
    rw [hO] at q'
    exact ⟨y, q'⟩
  obtain ⟨id, e0, _, s0⟩ := DataW.trod_string Try.underlying9 h0
  obtain ⟨ti, e1, _, s1⟩ := DataW.trod_string Try.underlying9 h1
  obtain ⟨zn, e2, _, s2⟩ := DataW.trod_string Try.underlying9 h2
  obtain ⟨st, e3, _, _⟩ := DataW.trod_int Try.underlying3 h3
  obtain ⟨lo, e4, _, _⟩ := DataW.trod_int Try.underlying3 h4
  obtain ⟨r, m, f0, f1, f2, f3, f4, f5, f6, f7, f8, rm, l0, l1, l2, l3⟩ := ruleCells_open h5
  obtain ⟨ao, co, ou, e6, l6, t6⟩ := isInts_open h6
  obtain ⟨av, cv, ov, e7, w7, t7⟩ := isOvers_open h7
  simp at e0 e1 e2 e3 e4
  subst e0 e1 e2 e3 e4 f0 f1 f2 f3 f4 f5 f6 f7 f8 e6 e7
  exact ⟨⟨id, ti, zn, st, lo, r, ou, ov⟩, ⟨m, ao, co, av, cv⟩, rfl, ⟨rm, t6, t7⟩, ⟨s0, s1, s2, l0, l1, l2, l3, l6⟩, w7⟩
end Go.Proofs.Ythmekfijpfghkaa
