/- How a rule that came in is read. -/
import Derived.Test.YthmekfijpfghkaaFrB
import Derived.Test.YthmekfijpfghkaaFrZ
import Derived.Test.YthmekfijpfghkaaOi
import Derived.Lib.SmallJoins
import Derived.Deep.Slices
namespace Go.Proofs.Ythmekfijpfghkaa
open Go.ChangeShapes Go.WideShapes Go.ChangeAt Go.RowKit
set_option linter.unusedVariables false
theorem gi_range (f : Nat → Int) (n i : Nat) (h : i < n) : gi ((List.range n).map f) i = f i := by simp [gi, h]
theorem isInts_open {H : Type} {enc : TypeId × Value → H} {W : World} {n : Nat} {v : Value} {y : DataW H × List MemPlace}
    (h : DataW.trod enc Try.prog W 0 (fun _ => true) true n 23 [v] = some y) : ∃ a cap l, v = .slice a (List.length l) cap ∧ List.length l ≤ maxLen ∧ IsInts W a l := by
  rcases Deep.open_slice1 Try.underlying23 (by kernel_rfl) h with ⟨hcs, _⟩ | ⟨x, len, cap, m, n', V, D, Pl, hcs, _, hl, hm, hmm, _, hall⟩
  · simp only [List.cons.injEq, and_true] at hcs
    exact ⟨none, 0, [], hcs, by simp, .inl rfl⟩
  · simp only [List.cons.injEq, and_true] at hcs
    have hlm : len ≤ m := by rw [hmm]; simp; omega
    have e0 : ∀ i, i < len → ∃ z : Int, V i = .int .i64 z := fun i hi => by
      obtain ⟨z, e, _, _⟩ := DataW.trod_int Try.underlying3 (hall i (by omega)).2
      simp at e; exact ⟨z, e⟩
    obtain ⟨f, hf⟩ := Deep.choose_lt e0
    refine ⟨some x, cap, (List.range len).map f, by simpa using hcs, by simpa using Nat.le_trans hl hm, ?_⟩
    by_cases h0 : len = 0
    · subst h0; exact .inl (by simp)
    · right
      obtain ⟨b, off, spot⟩ := x
      have hc := (hall 0 (by omega)).1
      have hspot : spot = none := by simpa [Addr.add] using World.cell?_spot hc
      subst hspot
      refine ⟨b, off, rfl, ?_, fun i hi => ?_⟩
      · rw [add_addr] at hc; exact cell_lt hc
      · have hi' : i < len := by simpa using hi
        obtain ⟨q0, _⟩ := hall i (by omega)
        rw [add_addr, hf i hi'] at q0
        rw [gi_range f len i hi']
        exact q0
theorem isBys_open {H : Type} {enc : TypeId × Value → H} {W : World} {n : Nat} {v : Value} {y : DataW H × List MemPlace}
    (h : DataW.trod enc Try.prog W 0 (fun _ => true) true n 22 [v] = some y) : ∃ a cap ts, v = .slice a (List.length ts) cap ∧ List.length ts ≤ maxLen ∧ IsTurns W a ts := by
  rcases Deep.open_slice_pairs Try.underlying22 Try.underlying147 (by kernel_rfl) rfl rfl (by kernel_rfl) (by kernel_rfl) h with ⟨hcs, _⟩ | ⟨x, len, cap, m, n', V0, V1, D0, D1, P0, P1, hcs, _, hl, hm, hmm, _, hall⟩
  · simp only [List.cons.injEq, and_true] at hcs
    exact ⟨none, 0, [], hcs, by simp, .inl rfl⟩
  · simp only [List.cons.injEq, and_true] at hcs
    have hlm : len ≤ m := by rw [hmm]; simp; omega
    have e0 : ∀ i, i < len → ∃ z : Int, V0 i = .int .i64 z := fun i hi => by
      obtain ⟨z, e, _, _⟩ := DataW.trod_int Try.underlying3 (hall i (by omega)).2.2.1
      simp at e; exact ⟨z, e⟩
    have e1 : ∀ i, i < len → ∃ z : Int, V1 i = .int .i64 z := fun i hi => by
      obtain ⟨z, e, _, _⟩ := DataW.trod_int Try.underlying3 (hall i (by omega)).2.2.2
      simp at e; exact ⟨z, e⟩
    obtain ⟨f, hf⟩ := Deep.choose_lt e0
    obtain ⟨g, hg⟩ := Deep.choose_lt e1
    refine ⟨some x, cap, (List.range len).map fun j => (f j, g j), by simpa using hcs, by simpa using Nat.le_trans hl hm, ?_⟩
    by_cases h0 : len = 0
    · subst h0; exact .inl (by simp)
    · right
      obtain ⟨b, off, spot⟩ := x
      have hc := (hall 0 (by omega)).1
      have hspot : spot = none := by simpa [Addr.add] using World.cell?_spot hc
      subst hspot
      refine ⟨b, off, rfl, ?_, fun i hi => ?_⟩
      · rw [add_addr] at hc; exact cell_lt hc
      · have hi' : i < len := by simpa using hi
        obtain ⟨q0, q1, _, _⟩ := hall i (by omega)
        rw [add_addr, hf i hi'] at q0
        rw [add_addr, hg i hi'] at q1
        rw [(tAt_range f g len i hi').1, (tAt_range f g len i hi').2]
        exact ⟨q0, by simpa [Nat.add_assoc] using q1⟩
/-- A list of nine. -/
theorem nine {α : Type} {cs : Array α} (h : cs.size = 9) : ∃ c0 c1 c2 c3 c4 c5 c6 c7 c8, cs = #[c0, c1, c2, c3, c4, c5, c6, c7, c8] := by
  obtain ⟨l⟩ := cs
  match l, h with
  | [c0, c1, c2, c3, c4, c5, c6, c7, c8], _ => exact ⟨c0, c1, c2, c3, c4, c5, c6, c7, c8, rfl⟩
/-- Each field of a value that is read, by its place. -/
theorem fields_open {H : Type} {enc : TypeId × Value → H} {P : Program} {w : World} {base : Nat} {spare : Nat → Bool} {held : Bool} {r : Reach} {b0 : Nat} {t : TypeId} {fs : Array Field} {v : Value} {d : DataW H} {p : List MemPlace}
    (hs : P.underlying t = some (.struct fs)) (hv : Value.okWide P w r b0 t v) (h : DataW.Trod enc P w base spare held t v d p) :
    ∃ (cs : Array Value) (n : Nat), v = .agg cs ∧ cs.size = P.cellsOf t ∧ ∀ (i : Nat) (f : Field), fs[i]? = some f → ∃ y, DataW.trod enc P w base spare held n f.type ((cs.toList.drop f.offset).take (P.cellsOf f.type)) = some y := by
  obtain ⟨cs, rfl, hsz⟩ := okWide_struct hs hv
  obtain ⟨fuel, hf⟩ := h
  obtain ⟨xs, n, _, _, _, hlen, hf⟩ := DataW.trod_struct hs hf
  refine ⟨cs, n, rfl, hsz, fun i f hi => ?_⟩
  have hx := hf i f hi
  have hi' : i < xs.length := by rw [hlen]; exact (Array.getElem?_eq_some_iff.1 hi).1
  refine ⟨xs[i], ?_⟩
  rw [List.getElem?_eq_getElem hi'] at hx
  simpa [Value.cells] using hx
set_option maxRecDepth 100000 in
theorem isRule_open {H : Type} {enc : TypeId × Value → H} {W : World} {r : Reach} {b0 : Nat} {v : Value} {d : DataW H} {p : List MemPlace}
    (hv : Value.okWide Try.prog W r b0 25 v) (h : DataW.Trod enc Try.prog W 0 (fun _ => true) true 25 v d p) :
    ∃ (f ev ct un : Int) (a0 : Option Addr) (c0 : Nat) (ds : List (Int × Int)) (a1 : Option Addr) (c1 : Nat) (da : List Int) (a2 : Option Addr) (c2 : Nat) (mo : List Int) (a3 : Option Addr) (c3 : Nat) (pl : List Int) (wk : Int), v = .agg #[.int .i64 f, .int .i64 ev, .int .i64 ct, .int .i64 un, .slice a0 ds.length c0, .slice a1 da.length c1, .slice a2 mo.length c2, .slice a3 pl.length c3, .int .i64 wk] ∧ IsTurns W a0 ds ∧ IsInts W a1 da ∧ IsInts W a2 mo ∧ IsInts W a3 pl ∧ ds.length ≤ maxLen ∧ da.length ≤ maxLen ∧ mo.length ≤ maxLen ∧ pl.length ≤ maxLen := by
  obtain ⟨cs, n, rfl, hsz, hall⟩ := fields_open Try.underlying25 hv h
  obtain ⟨c0, c1, c2, c3, c4, c5, c6, c7, c8, rfl⟩ := nine (hsz.trans (by kernel_rfl))
  have hI : Try.prog.cellsOf 3 = 1 := by kernel_rfl
  have hS : Try.prog.cellsOf 23 = 1 := by kernel_rfl
  have hB : Try.prog.cellsOf 22 = 1 := by kernel_rfl
  obtain ⟨y0, h0⟩ : ∃ y, DataW.trod enc Try.prog W 0 (fun _ => true) true n 3 [c0] = some y := by
    obtain ⟨y, q⟩ := hall 0 _ rfl
    have q' : DataW.trod enc Try.prog W 0 (fun _ => true) true n 3 (([c0, c1, c2, c3, c4, c5, c6, c7, c8].drop 0).take (Try.prog.cellsOf 3)) = some y := q
    rw [hI] at q'
    exact ⟨y, q'⟩
  obtain ⟨y1, h1⟩ : ∃ y, DataW.trod enc Try.prog W 0 (fun _ => true) true n 3 [c1] = some y := by
    obtain ⟨y, q⟩ := hall 1 _ rfl
    have q' : DataW.trod enc Try.prog W 0 (fun _ => true) true n 3 (([c0, c1, c2, c3, c4, c5, c6, c7, c8].drop 1).take (Try.prog.cellsOf 3)) = some y := q
    rw [hI] at q'
    exact ⟨y, q'⟩
  obtain ⟨y2, h2⟩ : ∃ y, DataW.trod enc Try.prog W 0 (fun _ => true) true n 3 [c2] = some y := by
    obtain ⟨y, q⟩ := hall 2 _ rfl
    have q' : DataW.trod enc Try.prog W 0 (fun _ => true) true n 3 (([c0, c1, c2, c3, c4, c5, c6, c7, c8].drop 2).take (Try.prog.cellsOf 3)) = some y := q
    rw [hI] at q'
    exact ⟨y, q'⟩
  obtain ⟨y3, h3⟩ : ∃ y, DataW.trod enc Try.prog W 0 (fun _ => true) true n 3 [c3] = some y := by
    obtain ⟨y, q⟩ := hall 3 _ rfl
    have q' : DataW.trod enc Try.prog W 0 (fun _ => true) true n 3 (([c0, c1, c2, c3, c4, c5, c6, c7, c8].drop 3).take (Try.prog.cellsOf 3)) = some y := q
    rw [hI] at q'
    exact ⟨y, q'⟩
  obtain ⟨y4, h4⟩ : ∃ y, DataW.trod enc Try.prog W 0 (fun _ => true) true n 22 [c4] = some y := by
    obtain ⟨y, q⟩ := hall 4 _ rfl
    have q' : DataW.trod enc Try.prog W 0 (fun _ => true) true n 22 (([c0, c1, c2, c3, c4, c5, c6, c7, c8].drop 4).take (Try.prog.cellsOf 22)) = some y := q
    rw [hB] at q'
    exact ⟨y, q'⟩
  obtain ⟨y5, h5⟩ : ∃ y, DataW.trod enc Try.prog W 0 (fun _ => true) true n 23 [c5] = some y := by
    obtain ⟨y, q⟩ := hall 5 _ rfl
    have q' : DataW.trod enc Try.prog W 0 (fun _ => true) true n 23 (([c0, c1, c2, c3, c4, c5, c6, c7, c8].drop 5).take (Try.prog.cellsOf 23)) = some y := q
    rw [hS] at q'
    exact ⟨y, q'⟩
  obtain ⟨y6, h6⟩ : ∃ y, DataW.trod enc Try.prog W 0 (fun _ => true) true n 23 [c6] = some y := by
    obtain ⟨y, q⟩ := hall 6 _ rfl
    have q' : DataW.trod enc Try.prog W 0 (fun _ => true) true n 23 (([c0, c1, c2, c3, c4, c5, c6, c7, c8].drop 6).take (Try.prog.cellsOf 23)) = some y := q
    rw [hS] at q'
    exact ⟨y, q'⟩
  obtain ⟨y7, h7⟩ : ∃ y, DataW.trod enc Try.prog W 0 (fun _ => true) true n 23 [c7] = some y := by
    obtain ⟨y, q⟩ := hall 7 _ rfl
    have q' : DataW.trod enc Try.prog W 0 (fun _ => true) true n 23 (([c0, c1, c2, c3, c4, c5, c6, c7, c8].drop 7).take (Try.prog.cellsOf 23)) = some y := q
    rw [hS] at q'
    exact ⟨y, q'⟩
  obtain ⟨y8, h8⟩ : ∃ y, DataW.trod enc Try.prog W 0 (fun _ => true) true n 3 [c8] = some y := by
    obtain ⟨y, q⟩ := hall 8 _ rfl
    have q' : DataW.trod enc Try.prog W 0 (fun _ => true) true n 3 (([c0, c1, c2, c3, c4, c5, c6, c7, c8].drop 8).take (Try.prog.cellsOf 3)) = some y := q
    rw [hI] at q'
    exact ⟨y, q'⟩
  obtain ⟨f, e0, _, _⟩ := DataW.trod_int Try.underlying3 h0
  obtain ⟨ev, e1, _, _⟩ := DataW.trod_int Try.underlying3 h1
  obtain ⟨ct, e2, _, _⟩ := DataW.trod_int Try.underlying3 h2
  obtain ⟨un, e3, _, _⟩ := DataW.trod_int Try.underlying3 h3
  obtain ⟨a0, k0, ds, e4, l0, t0⟩ := isBys_open h4
  obtain ⟨a1, k1, da, e5, l1, t1⟩ := isInts_open h5
  obtain ⟨a2, k2, mo, e6, l2, t2⟩ := isInts_open h6
  obtain ⟨a3, k3, pl, e7, l3, t3⟩ := isInts_open h7
  obtain ⟨wk, e8, _, _⟩ := DataW.trod_int Try.underlying3 h8
  simp at e0 e1 e2 e3 e8
  subst e0 e1 e2 e3 e4 e5 e6 e7 e8
  exact ⟨f, ev, ct, un, a0, k0, ds, a1, k1, da, a2, k2, mo, a3, k3, pl, wk, rfl, t0, t1, t2, t3, l0, l1, l2, l3⟩
end Go.Proofs.Ythmekfijpfghkaa
