/- What every row's proof takes: two closed facts of the program. -/
import Derived.Test.YtjncaeealmmhmaaDoorBs
import Derived.ProofKit
import Derived.OpenShut
import Derived.ShutString
import Derived.ChangeOld
import Derived.Below
import Derived.Test.YtjncaeealmmhmaaDoorTab
import Derived.Test.YtjncaeealmmhmaaDoorTie
import Derived.LaidMore
import Derived.Lib.LaidTab
import Derived.WalkSmall
import Derived.Stop.Joined
import Derived.Test.YtjncaeealmmhmaaDoorZn
import Derived.Lib.SmallJoins
import Derived.Deep.SlicePairs
import Derived.Test.YtjncaeealmmhmaaDoorOi
import Derived.Deep.Slices
import Derived.Test.YtjncaeealmmhmaaDoorJVe
namespace Go.Proofs.YtjncaeealmmhmaaDoor
open Go.ChangeShapes Go.WideShapes Go.ChangeAt Go.RowKit
set_option linter.unusedVariables false

theorem own : ownKnob Tryd.prog.godebug = none := by kernel_rfl
theorem laidOut : laidOutB Tryd.prog = true := by kernel_rfl

end Go.Proofs.YtjncaeealmmhmaaDoor
namespace Go.Proofs.YtjncaeealmmhmaaDoor
open Go.ChangeShapes Go.WideShapes Go.ChangeAt Go.WideMaps Go.WideElems Go.RowKit
set_option linter.unusedVariables false

abbrev laidSizes : List (String × DataW Unit) := [("loop.example/ephemeris/impl.monthSizes", Rows.laid_loop_example_ephemeris_impl_monthSizes)]
theorem gSizes : Tryd.prog.globalNamed "loop.example/ephemeris/impl.monthSizes" = some 0 := by kernel_rfl
theorem tSizes : (Tryd.prog.globals[0]?).map (·.type) = some 112 := by kernel_rfl
theorem cInt : Tryd.prog.cellsOf 3 = 1 := by kernel_rfl
theorem cSizes : Tryd.prog.cellsOf 112 = 12 := by kernel_rfl

theorem door_met (os : Os) (args : Array Value) : laidMetH Tryd.prog laidSizes ((World.doorLaid Tryd.prog 400 os).forCall (fun _ _ => 0) ⟨#[], args, []⟩).memory :=
  laidMetH_of_parts3 (fuel := 8) (laidMet_of_run' 8 (by kernel_rfl) (by kernel_rfl)) (by kernel_rfl) (by kernel_rfl)

theorem sizes_of_laid {W : World} (h : laidMetH Tryd.prog laidSizes W) : Tab W := by
  rw [MakeChecks.laidMetH_plain _ _ _ (by kernel_rfl)] at h
  have hT : Lib.TabIs Tryd.prog W "loop.example/ephemeris/impl.monthSizes" .i64 sizes :=
    Lib.tabIs_of_head (rest := []) gSizes tSizes Tryd.underlying112 Tryd.underlying3 cInt cSizes h
  intro i hi
  exact hT.cell gSizes i (by simpa [sizes] using hi)

theorem vars_again {H : Type} {enc : TypeId × Value → H} {W W' : World} {gs : List (DataW H)} {q : List MemPlace} (hl : laidOutB Tryd.prog = true)
    (h : DataW.TrodVars enc Tryd.prog W (fun _ => true) ["loop.example/ephemeris/impl.monthSizes"] gs q) (hb : Below W.heap.size W W') :
    ∃ g1 pv, gs = [g1] ∧ DataW.TrodVars enc Tryd.prog W' (fun b => decide (b < W.heap.size)) ["loop.example/ephemeris/impl.monthSizes"] [g1] pv := by
  have hlt := DataW.TrodVars.lt h
  obtain ⟨g, t, cs, fuel, d, p, rfl, h1, h2, h3, h4, e⟩ := trodVars_one h
  obtain rfl := Option.some.inj (gSizes.symm.trans h1)
  obtain rfl := Option.some.inj (tSizes.symm.trans h2)
  have hv := var?_below hb h1 (by
    have := World.var?_cell h1 h3 0
    rcases Nat.lt_or_ge 0 W.heap.size with h' | h'
    · exact h'
    · unfold World.var? at h3
      rw [h1] at h3
      simp [Array.getElem?_eq_none h'] at h3) h3
  obtain ⟨fuel', h5⟩ := Below.trod (t := 112) (v := .agg cs) hl (by kernel_rfl) (of_decide_eq_true (by kernel_rfl)) ⟨fuel, h4⟩ hb (fun x hx => hlt x (by rw [e]; exact List.mem_append_right _ hx))
  exact ⟨d, _, rfl, trodVars_mk1 h1 tSizes hv h5⟩
end Go.Proofs.YtjncaeealmmhmaaDoor
namespace Go.Proofs.YtjncaeealmmhmaaDoor
open Go.ChangeShapes Go.WideShapes Go.ChangeAt Go.RowKit
set_option linter.unusedVariables false
theorem tAt_range (f g : Nat → Int) (n i : Nat) (h : i < n) : tAt ((List.range n).map fun j => (f j, g j)) i = f i ∧ tSh ((List.range n).map fun j => (f j, g j)) i = g i := by
  simp [tAt, tSh, h]
theorem add_addr (b off i : Nat) : (⟨b, off, none⟩ : Addr).add i = ⟨b, off + i, none⟩ := by
  by_cases h : i = 0
  · subst h; simp [Addr.add]
  · simp [Addr.add, h]
end Go.Proofs.YtjncaeealmmhmaaDoor
namespace Go.Proofs.YtjncaeealmmhmaaDoor
open Go.ChangeShapes Go.WideShapes Go.ChangeAt Go.RowKit
set_option linter.unusedVariables false
theorem gi_range (f : Nat → Int) (n i : Nat) (h : i < n) : gi ((List.range n).map f) i = f i := by simp [gi, h]
theorem isInts_open {H : Type} {enc : TypeId × Value → H} {W : World} {n : Nat} {v : Value} {y : DataW H × List MemPlace}
    (h : DataW.trod enc Tryd.prog W 0 (fun _ => true) true n 23 [v] = some y) : ∃ a cap l, v = .slice a (List.length l) cap ∧ List.length l ≤ maxLen ∧ IsInts W a l := by
  rcases Deep.open_slice1 Tryd.underlying23 (by kernel_rfl) h with ⟨hcs, _⟩ | ⟨x, len, cap, m, n', V, D, Pl, hcs, _, hl, hm, hmm, _, hall⟩
  · simp only [List.cons.injEq, and_true] at hcs
    exact ⟨none, 0, [], hcs, by simp, .inl rfl⟩
  · simp only [List.cons.injEq, and_true] at hcs
    have hlm : len ≤ m := by rw [hmm]; simp; omega
    have e0 : ∀ i, i < len → ∃ z : Int, V i = .int .i64 z := fun i hi => by
      obtain ⟨z, e, _, _⟩ := DataW.trod_int Tryd.underlying3 (hall i (by omega)).2
      simp at e; exact ⟨z, e⟩
    obtain ⟨f, hf⟩ := Deep.choose_lt e0
    refine ⟨some x, cap, (List.range len).map f, by simpa using hcs, by simpa using Nat.le_trans hl hm, ?_⟩
    by_cases h0 : len = 0
    · subst h0; exact .inl (by simp)
    · right
      obtain ⟨b, off, spot⟩ := x
      have hc := (hall 0 (by omega)).1
      have hspot : spot = none := by simpa [Addr.add] using World.cell?_spot hc
      subst hspot
      refine ⟨b, off, rfl, ?_, fun i hi => ?_⟩
      · rw [add_addr] at hc; exact cell_lt hc
      · have hi' : i < len := by simpa using hi
        obtain ⟨q0, _⟩ := hall i (by omega)
        rw [add_addr, hf i hi'] at q0
        rw [gi_range f len i hi']
        exact q0
theorem isBys_open {H : Type} {enc : TypeId × Value → H} {W : World} {n : Nat} {v : Value} {y : DataW H × List MemPlace}
    (h : DataW.trod enc Tryd.prog W 0 (fun _ => true) true n 22 [v] = some y) : ∃ a cap ts, v = .slice a (List.length ts) cap ∧ List.length ts ≤ maxLen ∧ IsTurns W a ts := by
  rcases Deep.open_slice_pairs Tryd.underlying22 Tryd.underlying71 (by kernel_rfl) rfl rfl (by kernel_rfl) (by kernel_rfl) h with ⟨hcs, _⟩ | ⟨x, len, cap, m, n', V0, V1, D0, D1, P0, P1, hcs, _, hl, hm, hmm, _, hall⟩
  · simp only [List.cons.injEq, and_true] at hcs
    exact ⟨none, 0, [], hcs, by simp, .inl rfl⟩
  · simp only [List.cons.injEq, and_true] at hcs
    have hlm : len ≤ m := by rw [hmm]; simp; omega
    have e0 : ∀ i, i < len → ∃ z : Int, V0 i = .int .i64 z := fun i hi => by
      obtain ⟨z, e, _, _⟩ := DataW.trod_int Tryd.underlying3 (hall i (by omega)).2.2.1
      simp at e; exact ⟨z, e⟩
    have e1 : ∀ i, i < len → ∃ z : Int, V1 i = .int .i64 z := fun i hi => by
      obtain ⟨z, e, _, _⟩ := DataW.trod_int Tryd.underlying3 (hall i (by omega)).2.2.2
      simp at e; exact ⟨z, e⟩
    obtain ⟨f, hf⟩ := Deep.choose_lt e0
    obtain ⟨g, hg⟩ := Deep.choose_lt e1
    refine ⟨some x, cap, (List.range len).map fun j => (f j, g j), by simpa using hcs, by simpa using Nat.le_trans hl hm, ?_⟩
    by_cases h0 : len = 0
    · subst h0; exact .inl (by simp)
    · right
      obtain ⟨b, off, spot⟩ := x
      have hc := (hall 0 (by omega)).1
      have hspot : spot = none := by simpa [Addr.add] using World.cell?_spot hc
      subst hspot
      refine ⟨b, off, rfl, ?_, fun i hi => ?_⟩
      · rw [add_addr] at hc; exact cell_lt hc
      · have hi' : i < len := by simpa using hi
        obtain ⟨q0, q1, _, _⟩ := hall i (by omega)
        rw [add_addr, hf i hi'] at q0
        rw [add_addr, hg i hi'] at q1
        rw [(tAt_range f g len i hi').1, (tAt_range f g len i hi').2]
        exact ⟨q0, by simpa [Nat.add_assoc] using q1⟩
/-- A list of nine. -/
theorem nine {α : Type} {cs : Array α} (h : cs.size = 9) : ∃ c0 c1 c2 c3 c4 c5 c6 c7 c8, cs = #[c0, c1, c2, c3, c4, c5, c6, c7, c8] := by
  obtain ⟨l⟩ := cs
  match l, h with
  | [c0, c1, c2, c3, c4, c5, c6, c7, c8], _ => exact ⟨c0, c1, c2, c3, c4, c5, c6, c7, c8, rfl⟩
/-- Each field of a value that is read, by its place. -/
theorem fields_open {H : Type} {enc : TypeId × Value → H} {P : Program} {w : World} {base : Nat} {spare : Nat → Bool} {held : Bool} {r : Reach} {b0 : Nat} {t : TypeId} {fs : Array Field} {v : Value} {d : DataW H} {p : List MemPlace}
    (hs : P.underlying t = some (.struct fs)) (hv : Value.okWide P w r b0 t v) (h : DataW.Trod enc P w base spare held t v d p) :
    ∃ (cs : Array Value) (n : Nat), v = .agg cs ∧ cs.size = P.cellsOf t ∧ ∀ (i : Nat) (f : Field), fs[i]? = some f → ∃ y, DataW.trod enc P w base spare held n f.type ((cs.toList.drop f.offset).take (P.cellsOf f.type)) = some y := by
  obtain ⟨cs, rfl, hsz⟩ := okWide_struct hs hv
  obtain ⟨fuel, hf⟩ := h
  obtain ⟨xs, n, _, _, _, hlen, hf⟩ := DataW.trod_struct hs hf
  refine ⟨cs, n, rfl, hsz, fun i f hi => ?_⟩
  have hx := hf i f hi
  have hi' : i < xs.length := by rw [hlen]; exact (Array.getElem?_eq_some_iff.1 hi).1
  refine ⟨xs[i], ?_⟩
  rw [List.getElem?_eq_getElem hi'] at hx
  simpa [Value.cells] using hx
set_option maxRecDepth 100000 in
theorem isRule_open {H : Type} {enc : TypeId × Value → H} {W : World} {r : Reach} {b0 : Nat} {v : Value} {d : DataW H} {p : List MemPlace}
    (hv : Value.okWide Tryd.prog W r b0 25 v) (h : DataW.Trod enc Tryd.prog W 0 (fun _ => true) true 25 v d p) :
    ∃ (f ev ct un : Int) (a0 : Option Addr) (c0 : Nat) (ds : List (Int × Int)) (a1 : Option Addr) (c1 : Nat) (da : List Int) (a2 : Option Addr) (c2 : Nat) (mo : List Int) (a3 : Option Addr) (c3 : Nat) (pl : List Int) (wk : Int), v = .agg #[.int .i64 f, .int .i64 ev, .int .i64 ct, .int .i64 un, .slice a0 ds.length c0, .slice a1 da.length c1, .slice a2 mo.length c2, .slice a3 pl.length c3, .int .i64 wk] ∧ IsTurns W a0 ds ∧ IsInts W a1 da ∧ IsInts W a2 mo ∧ IsInts W a3 pl ∧ ds.length ≤ maxLen ∧ da.length ≤ maxLen ∧ mo.length ≤ maxLen ∧ pl.length ≤ maxLen := by
  obtain ⟨cs, n, rfl, hsz, hall⟩ := fields_open Tryd.underlying25 hv h
  obtain ⟨c0, c1, c2, c3, c4, c5, c6, c7, c8, rfl⟩ := nine (hsz.trans (by kernel_rfl))
  have hI : Tryd.prog.cellsOf 3 = 1 := by kernel_rfl
  have hS : Tryd.prog.cellsOf 23 = 1 := by kernel_rfl
  have hB : Tryd.prog.cellsOf 22 = 1 := by kernel_rfl
  obtain ⟨y0, h0⟩ : ∃ y, DataW.trod enc Tryd.prog W 0 (fun _ => true) true n 3 [c0] = some y := by
    obtain ⟨y, q⟩ := hall 0 _ rfl
    have q' : DataW.trod enc Tryd.prog W 0 (fun _ => true) true n 3 (([c0, c1, c2, c3, c4, c5, c6, c7, c8].drop 0).take (Tryd.prog.cellsOf 3)) = some y := q
    rw [hI] at q'
    exact ⟨y, q'⟩
  obtain ⟨y1, h1⟩ : ∃ y, DataW.trod enc Tryd.prog W 0 (fun _ => true) true n 3 [c1] = some y := by
    obtain ⟨y, q⟩ := hall 1 _ rfl
    have q' : DataW.trod enc Tryd.prog W 0 (fun _ => true) true n 3 (([c0, c1, c2, c3, c4, c5, c6, c7, c8].drop 1).take (Tryd.prog.cellsOf 3)) = some y := q
    rw [hI] at q'
    exact ⟨y, q'⟩
  obtain ⟨y2, h2⟩ : ∃ y, DataW.trod enc Tryd.prog W 0 (fun _ => true) true n 3 [c2] = some y := by
    obtain ⟨y, q⟩ := hall 2 _ rfl
    have q' : DataW.trod enc Tryd.prog W 0 (fun _ => true) true n 3 (([c0, c1, c2, c3, c4, c5, c6, c7, c8].drop 2).take (Tryd.prog.cellsOf 3)) = some y := q
    rw [hI] at q'
    exact ⟨y, q'⟩
  obtain ⟨y3, h3⟩ : ∃ y, DataW.trod enc Tryd.prog W 0 (fun _ => true) true n 3 [c3] = some y := by
    obtain ⟨y, q⟩ := hall 3 _ rfl
    have q' : DataW.trod enc Tryd.prog W 0 (fun _ => true) true n 3 (([c0, c1, c2, c3, c4, c5, c6, c7, c8].drop 3).take (Tryd.prog.cellsOf 3)) = some y := q
    rw [hI] at q'
    exact ⟨y, q'⟩
  obtain ⟨y4, h4⟩ : ∃ y, DataW.trod enc Tryd.prog W 0 (fun _ => true) true n 22 [c4] = some y := by
    obtain ⟨y, q⟩ := hall 4 _ rfl
    have q' : DataW.trod enc Tryd.prog W 0 (fun _ => true) true n 22 (([c0, c1, c2, c3, c4, c5, c6, c7, c8].drop 4).take (Tryd.prog.cellsOf 22)) = some y := q
    rw [hB] at q'
    exact ⟨y, q'⟩
  obtain ⟨y5, h5⟩ : ∃ y, DataW.trod enc Tryd.prog W 0 (fun _ => true) true n 23 [c5] = some y := by
    obtain ⟨y, q⟩ := hall 5 _ rfl
    have q' : DataW.trod enc Tryd.prog W 0 (fun _ => true) true n 23 (([c0, c1, c2, c3, c4, c5, c6, c7, c8].drop 5).take (Tryd.prog.cellsOf 23)) = some y := q
    rw [hS] at q'
    exact ⟨y, q'⟩
  obtain ⟨y6, h6⟩ : ∃ y, DataW.trod enc Tryd.prog W 0 (fun _ => true) true n 23 [c6] = some y := by
    obtain ⟨y, q⟩ := hall 6 _ rfl
    have q' : DataW.trod enc Tryd.prog W 0 (fun _ => true) true n 23 (([c0, c1, c2, c3, c4, c5, c6, c7, c8].drop 6).take (Tryd.prog.cellsOf 23)) = some y := q
    rw [hS] at q'
    exact ⟨y, q'⟩
  obtain ⟨y7, h7⟩ : ∃ y, DataW.trod enc Tryd.prog W 0 (fun _ => true) true n 23 [c7] = some y := by
    obtain ⟨y, q⟩ := hall 7 _ rfl
    have q' : DataW.trod enc Tryd.prog W 0 (fun _ => true) true n 23 (([c0, c1, c2, c3, c4, c5, c6, c7, c8].drop 7).take (Tryd.prog.cellsOf 23)) = some y := q
    rw [hS] at q'
    exact ⟨y, q'⟩
  obtain ⟨y8, h8⟩ : ∃ y, DataW.trod enc Tryd.prog W 0 (fun _ => true) true n 3 [c8] = some y := by
    obtain ⟨y, q⟩ := hall 8 _ rfl
    have q' : DataW.trod enc Tryd.prog W 0 (fun _ => true) true n 3 (([c0, c1, c2, c3, c4, c5, c6, c7, c8].drop 8).take (Tryd.prog.cellsOf 3)) = some y := q
    rw [hI] at q'
    exact ⟨y, q'⟩
  obtain ⟨f, e0, _, _⟩ := DataW.trod_int Tryd.underlying3 h0
  obtain ⟨ev, e1, _, _⟩ := DataW.trod_int Tryd.underlying3 h1
  obtain ⟨ct, e2, _, _⟩ := DataW.trod_int Tryd.underlying3 h2
  obtain ⟨un, e3, _, _⟩ := DataW.trod_int Tryd.underlying3 h3
  obtain ⟨a0, k0, ds, e4, l0, t0⟩ := isBys_open h4
  obtain ⟨a1, k1, da, e5, l1, t1⟩ := isInts_open h5
  obtain ⟨a2, k2, mo, e6, l2, t2⟩ := isInts_open h6
  obtain ⟨a3, k3, pl, e7, l3, t3⟩ := isInts_open h7
  obtain ⟨wk, e8, _, _⟩ := DataW.trod_int Tryd.underlying3 h8
  simp at e0 e1 e2 e3 e8
  subst e0 e1 e2 e3 e4 e5 e6 e7 e8
  exact ⟨f, ev, ct, un, a0, k0, ds, a1, k1, da, a2, k2, mo, a3, k3, pl, wk, rfl, t0, t1, t2, t3, l0, l1, l2, l3⟩
end Go.Proofs.YtjncaeealmmhmaaDoor
namespace Go.Proofs.YtjncaeealmmhmaaDoor
open Go.ChangeShapes Go.WideShapes Go.ChangeAt Go.RowKit
set_option linter.unusedVariables false
theorem oAt_range (f : Nat → OvR) (n i : Nat) (h : i < n) : oAt ((List.range n).map f) i = f i := by simp [oAt, h]
set_option maxRecDepth 100000 in
theorem isOvers_open {H : Type} {enc : TypeId × Value → H} {W : World} {n : Nat} {v : Value} {y : DataW H × List MemPlace}
    (h : DataW.trod enc Tryd.prog W 0 (fun _ => true) true n 38 [v] = some y) : ∃ a cap os, v = .slice a (List.length os) cap ∧ OWide os ∧ IsOvers W a os := by
  have hC : Tryd.prog.cellsOf 83 = 4 := by kernel_rfl
  have hS : Tryd.prog.cellsOf 9 = 1 := by kernel_rfl
  have hI : Tryd.prog.cellsOf 3 = 1 := by kernel_rfl
  rcases Deep.open_slice Tryd.underlying38 h with ⟨hcs, _⟩ | ⟨x, len, cap, m, n', D, Pl, hcs, _, hl, hm, hmm, _, hall⟩
  · simp only [List.cons.injEq, and_true] at hcs
    exact ⟨none, 0, [], hcs, ⟨by simp, fun i hi => by simp at hi⟩, .inl rfl⟩
  · simp only [List.cons.injEq, and_true] at hcs
    have hlm : len ≤ m := by rw [hmm]; simp; omega
    have each : ∀ i, i < len → ∃ z : OvR, (W.cell? (x.add (i * 4)) = some (.int .i64 z.a) ∧ W.cell? (x.add (i * 4 + 1)) = some (.int .i64 z.s) ∧ W.cell? (x.add (i * 4 + 2)) = some (.int .i64 z.l) ∧ W.cell? (x.add (i * 4 + 3)) = some (.string z.t)) ∧ z.t.size ≤ maxLen := by
      intro i hi
      obtain ⟨cs', h1, h2⟩ := hall i (by omega)
      rw [hC] at h1
      obtain ⟨_, hlen, hcell⟩ := World.cells?_some h1
      obtain ⟨xs, k, hk, hxy, _, hxl, hf⟩ := DataW.trod_struct Tryd.underlying83 h2
      match cs', hlen with
      | [v0, v1, v2, v3], _ =>
        have some_of : ∀ j, j < 4 → ∃ y, xs[j]? = some y := fun j hj => ⟨xs[j]'(by rw [hxl]; exact hj), List.getElem?_eq_getElem _⟩
        obtain ⟨y0, q0⟩ : ∃ y, DataW.trod enc Tryd.prog W 0 (fun _ => true) true k 3 [v0] = some y := by
          obtain ⟨y, hy⟩ := some_of 0 (by omega)
          have q := hf 0 _ rfl
          have q' : DataW.trod enc Tryd.prog W 0 (fun _ => true) true k 3 (([v0, v1, v2, v3].drop 0).take (Tryd.prog.cellsOf 3)) = xs[0]? := q
          rw [hI, hy] at q'
          exact ⟨y, q'⟩
        obtain ⟨y1, q1⟩ : ∃ y, DataW.trod enc Tryd.prog W 0 (fun _ => true) true k 3 [v1] = some y := by
          obtain ⟨y, hy⟩ := some_of 1 (by omega)
          have q := hf 1 _ rfl
          have q' : DataW.trod enc Tryd.prog W 0 (fun _ => true) true k 3 (([v0, v1, v2, v3].drop 1).take (Tryd.prog.cellsOf 3)) = xs[1]? := q
          rw [hI, hy] at q'
          exact ⟨y, q'⟩
        obtain ⟨y2, q2⟩ : ∃ y, DataW.trod enc Tryd.prog W 0 (fun _ => true) true k 3 [v2] = some y := by
          obtain ⟨y, hy⟩ := some_of 2 (by omega)
          have q := hf 2 _ rfl
          have q' : DataW.trod enc Tryd.prog W 0 (fun _ => true) true k 3 (([v0, v1, v2, v3].drop 2).take (Tryd.prog.cellsOf 3)) = xs[2]? := q
          rw [hI, hy] at q'
          exact ⟨y, q'⟩
        obtain ⟨y3, q3⟩ : ∃ y, DataW.trod enc Tryd.prog W 0 (fun _ => true) true k 9 [v3] = some y := by
          obtain ⟨y, hy⟩ := some_of 3 (by omega)
          have q := hf 3 _ rfl
          have q' : DataW.trod enc Tryd.prog W 0 (fun _ => true) true k 9 (([v0, v1, v2, v3].drop 3).take (Tryd.prog.cellsOf 9)) = xs[3]? := q
          rw [hS, hy] at q'
          exact ⟨y, q'⟩
        obtain ⟨a, e0, _, _⟩ := DataW.trod_int Tryd.underlying3 q0
        obtain ⟨s, e1, _, _⟩ := DataW.trod_int Tryd.underlying3 q1
        obtain ⟨l, e2, _, _⟩ := DataW.trod_int Tryd.underlying3 q2
        obtain ⟨t, e3, _, ht⟩ := DataW.trod_string Tryd.underlying9 q3
        simp at e0 e1 e2 e3
        subst e0 e1 e2 e3
        have c0 := hcell 0 (by omega)
        have c1 := hcell 1 (by omega)
        have c2 := hcell 2 (by omega)
        have c3 := hcell 3 (by omega)
        rw [Deep.add_add] at c0 c1 c2 c3
        exact ⟨⟨a, s, l, t⟩, ⟨by simpa using c0, by simpa using c1, by simpa using c2, by simpa using c3⟩, ht⟩
    have inh : Inhabited OvR := ⟨ov0⟩
    obtain ⟨f, hf⟩ := Deep.choose_lt each
    refine ⟨some x, cap, (List.range len).map f, by simpa using hcs, ⟨by simpa using Nat.le_trans hl hm, fun i hi => ?_⟩, ?_⟩
    · have hi' : i < len := by simpa using hi
      rw [oAt_range f len i hi']
      exact (hf i hi').2
    · by_cases h0 : len = 0
      · subst h0; exact .inl (by simp)
      · right
        obtain ⟨b, off, spot⟩ := x
        obtain ⟨⟨hc, _⟩, _⟩ := hf 0 (by omega)
        have hspot : spot = none := by simpa [Addr.add] using World.cell?_spot hc
        subst hspot
        refine ⟨b, off, rfl, ?_, fun i hi => ?_⟩
        · rw [add_addr] at hc; exact cell_lt hc
        · have hi' : i < len := by simpa using hi
          obtain ⟨⟨d0, d1, d2, d3⟩, _⟩ := hf i hi'
          rw [oAt_range f len i hi']
          rw [add_addr] at d0 d1 d2 d3
          exact ⟨d0, by simpa [Nat.add_assoc] using d1, by simpa [Nat.add_assoc] using d2, by simpa [Nat.add_assoc] using d3⟩
/-- A list of sixteen. -/
theorem sixteen {α : Type} {cs : Array α} (h : cs.size = 16) : ∃ c0 c1 c2 c3 c4 c5 c6 c7 c8 c9 c10 c11 c12 c13 c14 c15, cs = #[c0, c1, c2, c3, c4, c5, c6, c7, c8, c9, c10, c11, c12, c13, c14, c15] := by
  obtain ⟨l⟩ := cs
  match l, h with
  | [c0, c1, c2, c3, c4, c5, c6, c7, c8, c9, c10, c11, c12, c13, c14, c15], _ => exact ⟨c0, c1, c2, c3, c4, c5, c6, c7, c8, c9, c10, c11, c12, c13, c14, c15, rfl⟩
set_option maxRecDepth 100000 in
theorem ruleCells_open {H : Type} {enc : TypeId × Value → H} {W : World} {n : Nat} {c0 c1 c2 c3 c4 c5 c6 c7 c8 : Value} {y : DataW H × List MemPlace}
    (h : DataW.trod enc Tryd.prog W 0 (fun _ => true) true n 25 [c0, c1, c2, c3, c4, c5, c6, c7, c8] = some y) :
    ∃ (r : Rl) (m : Rm), c0 = .int .i64 r.f ∧ c1 = .int .i64 r.ev ∧ c2 = .int .i64 r.ct ∧ c3 = .int .i64 r.un ∧ c4 = .slice m.a0 r.ds.length m.c0 ∧ c5 = .slice m.a1 r.da.length m.c1 ∧ c6 = .slice m.a2 r.mo.length m.c2 ∧ c7 = .slice m.a3 r.pl.length m.c3 ∧ c8 = .int .i64 r.wk ∧ RMem W r m ∧ r.ds.length ≤ maxLen ∧ r.da.length ≤ maxLen ∧ r.mo.length ≤ maxLen ∧ r.pl.length ≤ maxLen := by
  have hI : Tryd.prog.cellsOf 3 = 1 := by kernel_rfl
  have hS : Tryd.prog.cellsOf 23 = 1 := by kernel_rfl
  have hB : Tryd.prog.cellsOf 22 = 1 := by kernel_rfl
  obtain ⟨xs, k, hk, hxy, _, hxl, hf⟩ := DataW.trod_struct Tryd.underlying25 h
  have some_of : ∀ j, j < 9 → ∃ y, xs[j]? = some y := fun j hj => ⟨xs[j]'(by rw [hxl]; exact hj), List.getElem?_eq_getElem _⟩
  obtain ⟨y0, q0⟩ : ∃ y, DataW.trod enc Tryd.prog W 0 (fun _ => true) true k 3 [c0] = some y := by
    obtain ⟨y, hy⟩ := some_of 0 (by omega)
    have q := hf 0 _ rfl
    have q' : DataW.trod enc Tryd.prog W 0 (fun _ => true) true k 3 (([c0, c1, c2, c3, c4, c5, c6, c7, c8].drop 0).take (Tryd.prog.cellsOf 3)) = xs[0]? := q
    rw [hI, hy] at q'
    exact ⟨y, q'⟩
  obtain ⟨y1, q1⟩ : ∃ y, DataW.trod enc Tryd.prog W 0 (fun _ => true) true k 3 [c1] = some y := by
    obtain ⟨y, hy⟩ := some_of 1 (by omega)
    have q := hf 1 _ rfl
    have q' : DataW.trod enc Tryd.prog W 0 (fun _ => true) true k 3 (([c0, c1, c2, c3, c4, c5, c6, c7, c8].drop 1).take (Tryd.prog.cellsOf 3)) = xs[1]? := q
    rw [hI, hy] at q'
    exact ⟨y, q'⟩
  obtain ⟨y2, q2⟩ : ∃ y, DataW.trod enc Tryd.prog W 0 (fun _ => true) true k 3 [c2] = some y := by
    obtain ⟨y, hy⟩ := some_of 2 (by omega)
    have q := hf 2 _ rfl
    have q' : DataW.trod enc Tryd.prog W 0 (fun _ => true) true k 3 (([c0, c1, c2, c3, c4, c5, c6, c7, c8].drop 2).take (Tryd.prog.cellsOf 3)) = xs[2]? := q
    rw [hI, hy] at q'
    exact ⟨y, q'⟩
  obtain ⟨y3, q3⟩ : ∃ y, DataW.trod enc Tryd.prog W 0 (fun _ => true) true k 3 [c3] = some y := by
    obtain ⟨y, hy⟩ := some_of 3 (by omega)
    have q := hf 3 _ rfl
    have q' : DataW.trod enc Tryd.prog W 0 (fun _ => true) true k 3 (([c0, c1, c2, c3, c4, c5, c6, c7, c8].drop 3).take (Tryd.prog.cellsOf 3)) = xs[3]? := q
    rw [hI, hy] at q'
    exact ⟨y, q'⟩
  obtain ⟨y4, q4⟩ : ∃ y, DataW.trod enc Tryd.prog W 0 (fun _ => true) true k 22 [c4] = some y := by
    obtain ⟨y, hy⟩ := some_of 4 (by omega)
    have q := hf 4 _ rfl
    have q' : DataW.trod enc Tryd.prog W 0 (fun _ => true) true k 22 (([c0, c1, c2, c3, c4, c5, c6, c7, c8].drop 4).take (Tryd.prog.cellsOf 22)) = xs[4]? := q
    rw [hB, hy] at q'
    exact ⟨y, q'⟩
  obtain ⟨y5, q5⟩ : ∃ y, DataW.trod enc Tryd.prog W 0 (fun _ => true) true k 23 [c5] = some y := by
    obtain ⟨y, hy⟩ := some_of 5 (by omega)
    have q := hf 5 _ rfl
    have q' : DataW.trod enc Tryd.prog W 0 (fun _ => true) true k 23 (([c0, c1, c2, c3, c4, c5, c6, c7, c8].drop 5).take (Tryd.prog.cellsOf 23)) = xs[5]? := q
    rw [hS, hy] at q'
    exact ⟨y, q'⟩
  obtain ⟨y6, q6⟩ : ∃ y, DataW.trod enc Tryd.prog W 0 (fun _ => true) true k 23 [c6] = some y := by
    obtain ⟨y, hy⟩ := some_of 6 (by omega)
    have q := hf 6 _ rfl
    have q' : DataW.trod enc Tryd.prog W 0 (fun _ => true) true k 23 (([c0, c1, c2, c3, c4, c5, c6, c7, c8].drop 6).take (Tryd.prog.cellsOf 23)) = xs[6]? := q
    rw [hS, hy] at q'
    exact ⟨y, q'⟩
  obtain ⟨y7, q7⟩ : ∃ y, DataW.trod enc Tryd.prog W 0 (fun _ => true) true k 23 [c7] = some y := by
    obtain ⟨y, hy⟩ := some_of 7 (by omega)
    have q := hf 7 _ rfl
    have q' : DataW.trod enc Tryd.prog W 0 (fun _ => true) true k 23 (([c0, c1, c2, c3, c4, c5, c6, c7, c8].drop 7).take (Tryd.prog.cellsOf 23)) = xs[7]? := q
    rw [hS, hy] at q'
    exact ⟨y, q'⟩
  obtain ⟨y8, q8⟩ : ∃ y, DataW.trod enc Tryd.prog W 0 (fun _ => true) true k 3 [c8] = some y := by
    obtain ⟨y, hy⟩ := some_of 8 (by omega)
    have q := hf 8 _ rfl
    have q' : DataW.trod enc Tryd.prog W 0 (fun _ => true) true k 3 (([c0, c1, c2, c3, c4, c5, c6, c7, c8].drop 8).take (Tryd.prog.cellsOf 3)) = xs[8]? := q
    rw [hI, hy] at q'
    exact ⟨y, q'⟩
  obtain ⟨f, e0, _, _⟩ := DataW.trod_int Tryd.underlying3 q0
  obtain ⟨ev, e1, _, _⟩ := DataW.trod_int Tryd.underlying3 q1
  obtain ⟨ct, e2, _, _⟩ := DataW.trod_int Tryd.underlying3 q2
  obtain ⟨un, e3, _, _⟩ := DataW.trod_int Tryd.underlying3 q3
  obtain ⟨a0, k0, ds, e4, l0, t0⟩ := isBys_open q4
  obtain ⟨a1, k1, da, e5, l1, t1⟩ := isInts_open q5
  obtain ⟨a2, k2, mo, e6, l2, t2⟩ := isInts_open q6
  obtain ⟨a3, k3, pl, e7, l3, t3⟩ := isInts_open q7
  obtain ⟨wk, e8, _, _⟩ := DataW.trod_int Tryd.underlying3 q8
  simp at e0 e1 e2 e3 e8
  exact ⟨⟨f, ev, ct, un, ds, da, mo, pl, wk⟩, ⟨a0, k0, a1, k1, a2, k2, a3, k3⟩, e0, e1, e2, e3, e4, e5, e6, e7, e8, ⟨t0, t1, t2, t3⟩, l0, l1, l2, l3⟩
set_option maxRecDepth 100000 in
theorem isEvent_open {H : Type} {enc : TypeId × Value → H} {W : World} {r : Reach} {b0 : Nat} {v : Value} {d : DataW H} {p : List MemPlace}
    (hv : Value.okWide Tryd.prog W r b0 40 v) (h : DataW.Trod enc Tryd.prog W 0 (fun _ => true) true 40 v d p) :
    ∃ (e : Ev) (m : Em), v = .agg #[.string e.id, .string e.ti, .string e.zn, .int .i64 e.st, .int .i64 e.lo, .int .i64 e.r.f, .int .i64 e.r.ev, .int .i64 e.r.ct, .int .i64 e.r.un, .slice m.r.a0 e.r.ds.length m.r.c0, .slice m.r.a1 e.r.da.length m.r.c1, .slice m.r.a2 e.r.mo.length m.r.c2, .slice m.r.a3 e.r.pl.length m.r.c3, .int .i64 e.r.wk, .slice m.ao e.ou.length m.co, .slice m.av e.ov.length m.cv] ∧ EMem W e m ∧ EWide e := by
  obtain ⟨cs, n, rfl, hsz, hall⟩ := fields_open Tryd.underlying40 hv h
  obtain ⟨c0, c1, c2, c3, c4, c5, c6, c7, c8, c9, c10, c11, c12, c13, c14, c15, rfl⟩ := sixteen (hsz.trans (by kernel_rfl))
  have hI : Tryd.prog.cellsOf 3 = 1 := by kernel_rfl
  have hS : Tryd.prog.cellsOf 9 = 1 := by kernel_rfl
  have hT : Tryd.prog.cellsOf 23 = 1 := by kernel_rfl
  have hO : Tryd.prog.cellsOf 38 = 1 := by kernel_rfl
  have hR : Tryd.prog.cellsOf 25 = 9 := by kernel_rfl
  obtain ⟨y0, h0⟩ : ∃ y, DataW.trod enc Tryd.prog W 0 (fun _ => true) true n 9 [c0] = some y := by
    obtain ⟨y, q⟩ := hall 0 _ rfl
    have q' : DataW.trod enc Tryd.prog W 0 (fun _ => true) true n 9 (([c0, c1, c2, c3, c4, c5, c6, c7, c8, c9, c10, c11, c12, c13, c14, c15].drop 0).take (Tryd.prog.cellsOf 9)) = some y := q
    rw [hS] at q'
    exact ⟨y, q'⟩
  obtain ⟨y1, h1⟩ : ∃ y, DataW.trod enc Tryd.prog W 0 (fun _ => true) true n 9 [c1] = some y := by
    obtain ⟨y, q⟩ := hall 1 _ rfl
    have q' : DataW.trod enc Tryd.prog W 0 (fun _ => true) true n 9 (([c0, c1, c2, c3, c4, c5, c6, c7, c8, c9, c10, c11, c12, c13, c14, c15].drop 1).take (Tryd.prog.cellsOf 9)) = some y := q
    rw [hS] at q'
    exact ⟨y, q'⟩
  obtain ⟨y2, h2⟩ : ∃ y, DataW.trod enc Tryd.prog W 0 (fun _ => true) true n 9 [c2] = some y := by
    obtain ⟨y, q⟩ := hall 2 _ rfl
    have q' : DataW.trod enc Tryd.prog W 0 (fun _ => true) true n 9 (([c0, c1, c2, c3, c4, c5, c6, c7, c8, c9, c10, c11, c12, c13, c14, c15].drop 2).take (Tryd.prog.cellsOf 9)) = some y := q
    rw [hS] at q'
    exact ⟨y, q'⟩
  obtain ⟨y3, h3⟩ : ∃ y, DataW.trod enc Tryd.prog W 0 (fun _ => true) true n 3 [c3] = some y := by
    obtain ⟨y, q⟩ := hall 3 _ rfl
    have q' : DataW.trod enc Tryd.prog W 0 (fun _ => true) true n 3 (([c0, c1, c2, c3, c4, c5, c6, c7, c8, c9, c10, c11, c12, c13, c14, c15].drop 3).take (Tryd.prog.cellsOf 3)) = some y := q
    rw [hI] at q'
    exact ⟨y, q'⟩
  obtain ⟨y4, h4⟩ : ∃ y, DataW.trod enc Tryd.prog W 0 (fun _ => true) true n 3 [c4] = some y := by
    obtain ⟨y, q⟩ := hall 4 _ rfl
    have q' : DataW.trod enc Tryd.prog W 0 (fun _ => true) true n 3 (([c0, c1, c2, c3, c4, c5, c6, c7, c8, c9, c10, c11, c12, c13, c14, c15].drop 4).take (Tryd.prog.cellsOf 3)) = some y := q
    rw [hI] at q'
    exact ⟨y, q'⟩
  obtain ⟨y5, h5⟩ : ∃ y, DataW.trod enc Tryd.prog W 0 (fun _ => true) true n 25 [c5, c6, c7, c8, c9, c10, c11, c12, c13] = some y := by
    obtain ⟨y, q⟩ := hall 5 _ rfl
    have q' : DataW.trod enc Tryd.prog W 0 (fun _ => true) true n 25 (([c0, c1, c2, c3, c4, c5, c6, c7, c8, c9, c10, c11, c12, c13, c14, c15].drop 5).take (Tryd.prog.cellsOf 25)) = some y := q
    rw [hR] at q'
    exact ⟨y, q'⟩
  obtain ⟨y6, h6⟩ : ∃ y, DataW.trod enc Tryd.prog W 0 (fun _ => true) true n 23 [c14] = some y := by
    obtain ⟨y, q⟩ := hall 6 _ rfl
    have q' : DataW.trod enc Tryd.prog W 0 (fun _ => true) true n 23 (([c0, c1, c2, c3, c4, c5, c6, c7, c8, c9, c10, c11, c12, c13, c14, c15].drop 14).take (Tryd.prog.cellsOf 23)) = some y := q
    rw [hT] at q'
    exact ⟨y, q'⟩
  obtain ⟨y7, h7⟩ : ∃ y, DataW.trod enc Tryd.prog W 0 (fun _ => true) true n 38 [c15] = some y := by
    obtain ⟨y, q⟩ := hall 7 _ rfl
    have q' : DataW.trod enc Tryd.prog W 0 (fun _ => true) true n 38 (([c0, c1, c2, c3, c4, c5, c6, c7, c8, c9, c10, c11, c12, c13, c14, c15].drop 15).take (Tryd.prog.cellsOf 38)) = some y := q
    rw [hO] at q'
    exact ⟨y, q'⟩
  obtain ⟨id, e0, _, s0⟩ := DataW.trod_string Tryd.underlying9 h0
  obtain ⟨ti, e1, _, s1⟩ := DataW.trod_string Tryd.underlying9 h1
  obtain ⟨zn, e2, _, s2⟩ := DataW.trod_string Tryd.underlying9 h2
  obtain ⟨st, e3, _, _⟩ := DataW.trod_int Tryd.underlying3 h3
  obtain ⟨lo, e4, _, _⟩ := DataW.trod_int Tryd.underlying3 h4
  obtain ⟨r, m, f0, f1, f2, f3, f4, f5, f6, f7, f8, rm, l0, l1, l2, l3⟩ := ruleCells_open h5
  obtain ⟨ao, co, ou, e6, l6, t6⟩ := isInts_open h6
  obtain ⟨av, cv, ov, e7, w7, t7⟩ := isOvers_open h7
  simp at e0 e1 e2 e3 e4
  subst e0 e1 e2 e3 e4 f0 f1 f2 f3 f4 f5 f6 f7 f8 e6 e7
  exact ⟨⟨id, ti, zn, st, lo, r, ou, ov⟩, ⟨m, ao, co, av, cv⟩, rfl, ⟨rm, t6, t7⟩, ⟨s0, s1, s2, l0, l1, l2, l3, l6⟩, w7⟩
end Go.Proofs.YtjncaeealmmhmaaDoor
