/- What every row's proof takes: two closed facts of the program. -/
import Derived.Test.YtlnhagkipmcioaaDoorBs
import Derived.ProofKit
import Derived.OpenShut
import Derived.ShutString
import Derived.ChangeOld
import Derived.Below
import Derived.Test.YtlnhagkipmcioaaDoorTab
import Derived.Test.YtlnhagkipmcioaaDoorTie
import Derived.LaidMore
import Derived.Lib.LaidTab
import Derived.WalkSmall
import Derived.Stop.Joined
import Derived.Test.YtlnhagkipmcioaaDoorZn
import Derived.Lib.SmallJoins
import Derived.Deep.SlicePairs
import Derived.Test.YtlnhagkipmcioaaDoorOi
import Derived.Deep.Slices
import Derived.Test.YtlnhagkipmcioaaDoorJLExRuleOn
import Derived.Test.YtlnhagkipmcioaaDoorCards
namespace Go.Proofs.YtlnhagkipmcioaaDoor
open Go.ChangeShapes Go.WideShapes Go.ChangeAt Go.RowKit
set_option linter.unusedVariables false

theorem own : ownKnob Tryd.prog.godebug = none := by kernel_rfl
theorem laidOut : laidOutB Tryd.prog = true := by kernel_rfl

end Go.Proofs.YtlnhagkipmcioaaDoor
namespace Go.Proofs.YtlnhagkipmcioaaDoor
open Go.ChangeShapes Go.WideShapes Go.ChangeAt Go.WideMaps Go.WideElems Go.RowKit
set_option linter.unusedVariables false

abbrev laidSizes : List (String × DataW Unit) := [("loop.example/ephemeris/impl.monthSizes", Rows.laid_loop_example_ephemeris_impl_monthSizes)]
theorem gSizes : Tryd.prog.globalNamed "loop.example/ephemeris/impl.monthSizes" = some 0 := by kernel_rfl
theorem tSizes : (Tryd.prog.globals[0]?).map (·.type) = some 89 := by kernel_rfl
theorem cInt : Tryd.prog.cellsOf 3 = 1 := by kernel_rfl
theorem cSizes : Tryd.prog.cellsOf 89 = 12 := by kernel_rfl

theorem door_met (os : Os) (args : Array Value) : laidMetH Tryd.prog laidSizes ((World.doorLaid Tryd.prog 400 os).forCall (fun _ _ => 0) ⟨#[], args, []⟩).memory :=
  laidMetH_of_parts3 (fuel := 8) (laidMet_of_run' 8 (by kernel_rfl) (by kernel_rfl)) (by kernel_rfl) (by kernel_rfl)

theorem sizes_of_laid {W : World} (h : laidMetH Tryd.prog laidSizes W) : Tab W := by
  rw [MakeChecks.laidMetH_plain _ _ _ (by kernel_rfl)] at h
  have hT : Lib.TabIs Tryd.prog W "loop.example/ephemeris/impl.monthSizes" .i64 sizes :=
    Lib.tabIs_of_head (rest := []) gSizes tSizes Tryd.underlying89 Tryd.underlying3 cInt cSizes h
  intro i hi
  exact hT.cell gSizes i (by simpa [sizes] using hi)

theorem vars_again {H : Type} {enc : TypeId × Value → H} {W W' : World} {gs : List (DataW H)} {q : List MemPlace} (hl : laidOutB Tryd.prog = true)
    (h : DataW.TrodVars enc Tryd.prog W (fun _ => true) ["loop.example/ephemeris/impl.monthSizes"] gs q) (hb : Below W.heap.size W W') :
    ∃ g1 pv, gs = [g1] ∧ DataW.TrodVars enc Tryd.prog W' (fun b => decide (b < W.heap.size)) ["loop.example/ephemeris/impl.monthSizes"] [g1] pv := by
  have hlt := DataW.TrodVars.lt h
  obtain ⟨g, t, cs, fuel, d, p, rfl, h1, h2, h3, h4, e⟩ := trodVars_one h
  obtain rfl := Option.some.inj (gSizes.symm.trans h1)
  obtain rfl := Option.some.inj (tSizes.symm.trans h2)
  have hv := var?_below hb h1 (by
    have := World.var?_cell h1 h3 0
    rcases Nat.lt_or_ge 0 W.heap.size with h' | h'
    · exact h'
    · unfold World.var? at h3
      rw [h1] at h3
      simp [Array.getElem?_eq_none h'] at h3) h3
  obtain ⟨fuel', h5⟩ := Below.trod (t := 89) (v := .agg cs) hl (by kernel_rfl) (of_decide_eq_true (by kernel_rfl)) ⟨fuel, h4⟩ hb (fun x hx => hlt x (by rw [e]; exact List.mem_append_right _ hx))
  exact ⟨d, _, rfl, trodVars_mk1 h1 tSizes hv h5⟩
end Go.Proofs.YtlnhagkipmcioaaDoor
namespace Go.Proofs.YtlnhagkipmcioaaDoor
open Go.ChangeShapes Go.WideShapes Go.ChangeAt Go.RowKit
set_option linter.unusedVariables false
theorem tAt_range (f g : Nat → Int) (n i : Nat) (h : i < n) : tAt ((List.range n).map fun j => (f j, g j)) i = f i ∧ tSh ((List.range n).map fun j => (f j, g j)) i = g i := by
  simp [tAt, tSh, h]
theorem add_addr (b off i : Nat) : (⟨b, off, none⟩ : Addr).add i = ⟨b, off + i, none⟩ := by
  by_cases h : i = 0
  · subst h; simp [Addr.add]
  · simp [Addr.add, h]
end Go.Proofs.YtlnhagkipmcioaaDoor
namespace Go.Proofs.YtlnhagkipmcioaaDoor
open Go.ChangeShapes Go.WideShapes Go.ChangeAt Go.RowKit
set_option linter.unusedVariables false
theorem gi_range (f : Nat → Int) (n i : Nat) (h : i < n) : gi ((List.range n).map f) i = f i := by simp [gi, h]
theorem isInts_open {H : Type} {enc : TypeId × Value → H} {W : World} {n : Nat} {v : Value} {y : DataW H × List MemPlace}
    (h : DataW.trod enc Tryd.prog W 0 (fun _ => true) true n 23 [v] = some y) : ∃ a cap l, v = .slice a (List.length l) cap ∧ List.length l ≤ maxLen ∧ IsInts W a l := by
  rcases Deep.open_slice1 Tryd.underlying23 (by kernel_rfl) h with ⟨hcs, _⟩ | ⟨x, len, cap, m, n', V, D, Pl, hcs, _, hl, hm, hmm, _, hall⟩
  · simp only [List.cons.injEq, and_true] at hcs
    exact ⟨none, 0, [], hcs, by simp, .inl rfl⟩
  · simp only [List.cons.injEq, and_true] at hcs
    have hlm : len ≤ m := by rw [hmm]; simp; omega
    have e0 : ∀ i, i < len → ∃ z : Int, V i = .int .i64 z := fun i hi => by
      obtain ⟨z, e, _, _⟩ := DataW.trod_int Tryd.underlying3 (hall i (by omega)).2
      simp at e; exact ⟨z, e⟩
    obtain ⟨f, hf⟩ := Deep.choose_lt e0
    refine ⟨some x, cap, (List.range len).map f, by simpa using hcs, by simpa using Nat.le_trans hl hm, ?_⟩
    by_cases h0 : len = 0
    · subst h0; exact .inl (by simp)
    · right
      obtain ⟨b, off, spot⟩ := x
      have hc := (hall 0 (by omega)).1
      have hspot : spot = none := by simpa [Addr.add] using World.cell?_spot hc
      subst hspot
      refine ⟨b, off, rfl, ?_, fun i hi => ?_⟩
      · rw [add_addr] at hc; exact cell_lt hc
      · have hi' : i < len := by simpa using hi
        obtain ⟨q0, _⟩ := hall i (by omega)
        rw [add_addr, hf i hi'] at q0
        rw [gi_range f len i hi']
        exact q0
theorem isBys_open {H : Type} {enc : TypeId × Value → H} {W : World} {n : Nat} {v : Value} {y : DataW H × List MemPlace}
    (h : DataW.trod enc Tryd.prog W 0 (fun _ => true) true n 22 [v] = some y) : ∃ a cap ts, v = .slice a (List.length ts) cap ∧ List.length ts ≤ maxLen ∧ IsTurns W a ts := by
  rcases Deep.open_slice_pairs Tryd.underlying22 Tryd.underlying50 (by kernel_rfl) rfl rfl (by kernel_rfl) (by kernel_rfl) h with ⟨hcs, _⟩ | ⟨x, len, cap, m, n', V0, V1, D0, D1, P0, P1, hcs, _, hl, hm, hmm, _, hall⟩
  · simp only [List.cons.injEq, and_true] at hcs
    exact ⟨none, 0, [], hcs, by simp, .inl rfl⟩
  · simp only [List.cons.injEq, and_true] at hcs
    have hlm : len ≤ m := by rw [hmm]; simp; omega
    have e0 : ∀ i, i < len → ∃ z : Int, V0 i = .int .i64 z := fun i hi => by
      obtain ⟨z, e, _, _⟩ := DataW.trod_int Tryd.underlying3 (hall i (by omega)).2.2.1
      simp at e; exact ⟨z, e⟩
    have e1 : ∀ i, i < len → ∃ z : Int, V1 i = .int .i64 z := fun i hi => by
      obtain ⟨z, e, _, _⟩ := DataW.trod_int Tryd.underlying3 (hall i (by omega)).2.2.2
      simp at e; exact ⟨z, e⟩
    obtain ⟨f, hf⟩ := Deep.choose_lt e0
    obtain ⟨g, hg⟩ := Deep.choose_lt e1
    refine ⟨some x, cap, (List.range len).map fun j => (f j, g j), by simpa using hcs, by simpa using Nat.le_trans hl hm, ?_⟩
    by_cases h0 : len = 0
    · subst h0; exact .inl (by simp)
    · right
      obtain ⟨b, off, spot⟩ := x
      have hc := (hall 0 (by omega)).1
      have hspot : spot = none := by simpa [Addr.add] using World.cell?_spot hc
      subst hspot
      refine ⟨b, off, rfl, ?_, fun i hi => ?_⟩
      · rw [add_addr] at hc; exact cell_lt hc
      · have hi' : i < len := by simpa using hi
        obtain ⟨q0, q1, _, _⟩ := hall i (by omega)
        rw [add_addr, hf i hi'] at q0
        rw [add_addr, hg i hi'] at q1
        rw [(tAt_range f g len i hi').1, (tAt_range f g len i hi').2]
        exact ⟨q0, by simpa [Nat.add_assoc] using q1⟩
/-- A list of nine. -/
theorem nine {α : Type} {cs : Array α} (h : cs.size = 9) : ∃ c0 c1 c2 c3 c4 c5 c6 c7 c8, cs = #[c0, c1, c2, c3, c4, c5, c6, c7, c8] := by
  obtain ⟨l⟩ := cs
  match l, h with
  | [c0, c1, c2, c3, c4, c5, c6, c7, c8], _ => exact ⟨c0, c1, c2, c3, c4, c5, c6, c7, c8, rfl⟩
/-- Each field of a value that is read, by its place. -/
theorem fields_open {H : Type} {enc : TypeId × Value → H} {P : Program} {w : World} {base : Nat} {spare : Nat → Bool} {held : Bool} {r : Reach} {b0 : Nat} {t : TypeId} {fs : Array Field} {v : Value} {d : DataW H} {p : List MemPlace}
    (hs : P.underlying t = some (.struct fs)) (hv : Value.okWide P w r b0 t v) (h : DataW.Trod enc P w base spare held t v d p) :
    ∃ (cs : Array Value) (n : Nat), v = .agg cs ∧ cs.size = P.cellsOf t ∧ ∀ (i : Nat) (f : Field), fs[i]? = some f → ∃ y, DataW.trod enc P w base spare held n f.type ((cs.toList.drop f.offset).take (P.cellsOf f.type)) = some y := by
  obtain ⟨cs, rfl, hsz⟩ := okWide_struct hs hv
  obtain ⟨fuel, hf⟩ := h
  obtain ⟨xs, n, _, _, _, hlen, hf⟩ := DataW.trod_struct hs hf
  refine ⟨cs, n, rfl, hsz, fun i f hi => ?_⟩
  have hx := hf i f hi
  have hi' : i < xs.length := by rw [hlen]; exact (Array.getElem?_eq_some_iff.1 hi).1
  refine ⟨xs[i], ?_⟩
  rw [List.getElem?_eq_getElem hi'] at hx
  simpa [Value.cells] using hx
set_option maxRecDepth 100000 in
theorem isRule_open {H : Type} {enc : TypeId × Value → H} {W : World} {r : Reach} {b0 : Nat} {v : Value} {d : DataW H} {p : List MemPlace}
    (hv : Value.okWide Tryd.prog W r b0 25 v) (h : DataW.Trod enc Tryd.prog W 0 (fun _ => true) true 25 v d p) :
    ∃ (f ev ct un : Int) (a0 : Option Addr) (c0 : Nat) (ds : List (Int × Int)) (a1 : Option Addr) (c1 : Nat) (da : List Int) (a2 : Option Addr) (c2 : Nat) (mo : List Int) (a3 : Option Addr) (c3 : Nat) (pl : List Int) (wk : Int), v = .agg #[.int .i64 f, .int .i64 ev, .int .i64 ct, .int .i64 un, .slice a0 ds.length c0, .slice a1 da.length c1, .slice a2 mo.length c2, .slice a3 pl.length c3, .int .i64 wk] ∧ IsTurns W a0 ds ∧ IsInts W a1 da ∧ IsInts W a2 mo ∧ IsInts W a3 pl ∧ ds.length ≤ maxLen ∧ da.length ≤ maxLen ∧ mo.length ≤ maxLen ∧ pl.length ≤ maxLen := by
  obtain ⟨cs, n, rfl, hsz, hall⟩ := fields_open Tryd.underlying25 hv h
  obtain ⟨c0, c1, c2, c3, c4, c5, c6, c7, c8, rfl⟩ := nine (hsz.trans (by kernel_rfl))
  have hI : Tryd.prog.cellsOf 3 = 1 := by kernel_rfl
  have hS : Tryd.prog.cellsOf 23 = 1 := by kernel_rfl
  have hB : Tryd.prog.cellsOf 22 = 1 := by kernel_rfl
  obtain ⟨y0, h0⟩ : ∃ y, DataW.trod enc Tryd.prog W 0 (fun _ => true) true n 3 [c0] = some y := by
    obtain ⟨y, q⟩ := hall 0 _ rfl
    have q' : DataW.trod enc Tryd.prog W 0 (fun _ => true) true n 3 (([c0, c1, c2, c3, c4, c5, c6, c7, c8].drop 0).take (Tryd.prog.cellsOf 3)) = some y := q
    rw [hI] at q'
    exact ⟨y, q'⟩
  obtain ⟨y1, h1⟩ : ∃ y, DataW.trod enc Tryd.prog W 0 (fun _ => true) true n 3 [c1] = some y := by
    obtain ⟨y, q⟩ := hall 1 _ rfl
    have q' : DataW.trod enc Tryd.prog W 0 (fun _ => true) true n 3 (([c0, c1, c2, c3, c4, c5, c6, c7, c8].drop 1).take (Tryd.prog.cellsOf 3)) = some y := q
    rw [hI] at q'
    exact ⟨y, q'⟩
  obtain ⟨y2, h2⟩ : ∃ y, DataW.trod enc Tryd.prog W 0 (fun _ => true) true n 3 [c2] = some y := by
    obtain ⟨y, q⟩ := hall 2 _ rfl
    have q' : DataW.trod enc Tryd.prog W 0 (fun _ => true) true n 3 (([c0, c1, c2, c3, c4, c5, c6, c7, c8].drop 2).take (Tryd.prog.cellsOf 3)) = some y := q
    rw [hI] at q'
    exact ⟨y, q'⟩
  obtain ⟨y3, h3⟩ : ∃ y, DataW.trod enc Tryd.prog W 0 (fun _ => true) true n 3 [c3] = some y := by
    obtain ⟨y, q⟩ := hall 3 _ rfl
    have q' : DataW.trod enc Tryd.prog W 0 (fun _ => true) true n 3 (([c0, c1, c2, c3, c4, c5, c6, c7, c8].drop 3).take (Tryd.prog.cellsOf 3)) = some y := q
    rw [hI] at q'
    exact ⟨y, q'⟩
  obtain ⟨y4, h4⟩ : ∃ y, DataW.trod enc Tryd.prog W 0 (fun _ => true) true n 22 [c4] = some y := by
    obtain ⟨y, q⟩ := hall 4 _ rfl
    have q' : DataW.trod enc Tryd.prog W 0 (fun _ => true) true n 22 (([c0, c1, c2, c3, c4, c5, c6, c7, c8].drop 4).take (Tryd.prog.cellsOf 22)) = some y := q
    rw [hB] at q'
    exact ⟨y, q'⟩
  obtain ⟨y5, h5⟩ : ∃ y, DataW.trod enc Tryd.prog W 0 (fun _ => true) true n 23 [c5] = some y := by
    obtain ⟨y, q⟩ := hall 5 _ rfl
    have q' : DataW.trod enc Tryd.prog W 0 (fun _ => true) true n 23 (([c0, c1, c2, c3, c4, c5, c6, c7, c8].drop 5).take (Tryd.prog.cellsOf 23)) = some y := q
    rw [hS] at q'
    exact ⟨y, q'⟩
  obtain ⟨y6, h6⟩ : ∃ y, DataW.trod enc Tryd.prog W 0 (fun _ => true) true n 23 [c6] = some y := by
    obtain ⟨y, q⟩ := hall 6 _ rfl
    have q' : DataW.trod enc Tryd.prog W 0 (fun _ => true) true n 23 (([c0, c1, c2, c3, c4, c5, c6, c7, c8].drop 6).take (Tryd.prog.cellsOf 23)) = some y := q
    rw [hS] at q'
    exact ⟨y, q'⟩
  obtain ⟨y7, h7⟩ : ∃ y, DataW.trod enc Tryd.prog W 0 (fun _ => true) true n 23 [c7] = some y := by
    obtain ⟨y, q⟩ := hall 7 _ rfl
    have q' : DataW.trod enc Tryd.prog W 0 (fun _ => true) true n 23 (([c0, c1, c2, c3, c4, c5, c6, c7, c8].drop 7).take (Tryd.prog.cellsOf 23)) = some y := q
    rw [hS] at q'
    exact ⟨y, q'⟩
  obtain ⟨y8, h8⟩ : ∃ y, DataW.trod enc Tryd.prog W 0 (fun _ => true) true n 3 [c8] = some y := by
    obtain ⟨y, q⟩ := hall 8 _ rfl
    have q' : DataW.trod enc Tryd.prog W 0 (fun _ => true) true n 3 (([c0, c1, c2, c3, c4, c5, c6, c7, c8].drop 8).take (Tryd.prog.cellsOf 3)) = some y := q
    rw [hI] at q'
    exact ⟨y, q'⟩
  obtain ⟨f, e0, _, _⟩ := DataW.trod_int Tryd.underlying3 h0
  obtain ⟨ev, e1, _, _⟩ := DataW.trod_int Tryd.underlying3 h1
  obtain ⟨ct, e2, _, _⟩ := DataW.trod_int Tryd.underlying3 h2
  obtain ⟨un, e3, _, _⟩ := DataW.trod_int Tryd.underlying3 h3
  obtain ⟨a0, k0, ds, e4, l0, t0⟩ := isBys_open h4
  obtain ⟨a1, k1, da, e5, l1, t1⟩ := isInts_open h5
  obtain ⟨a2, k2, mo, e6, l2, t2⟩ := isInts_open h6
  obtain ⟨a3, k3, pl, e7, l3, t3⟩ := isInts_open h7
  obtain ⟨wk, e8, _, _⟩ := DataW.trod_int Tryd.underlying3 h8
  simp at e0 e1 e2 e3 e8
  subst e0 e1 e2 e3 e4 e5 e6 e7 e8
  exact ⟨f, ev, ct, un, a0, k0, ds, a1, k1, da, a2, k2, mo, a3, k3, pl, wk, rfl, t0, t1, t2, t3, l0, l1, l2, l3⟩
end Go.Proofs.YtlnhagkipmcioaaDoor
namespace Go.Proofs.YtlnhagkipmcioaaDoor.fnExactRuleOn
open Go.ChangeShapes Go.WideShapes Go.ChangeAt Go.RowKit
open Go.ChangeMaps (open_string shut_string)
set_option linter.unusedVariables false

set_option maxRecDepth 100000 in
theorem lifted (os : Os) (started : os.Started) (H : Type) (enc : TypeId × Value → H) :
    ReturnsInHanded {} Tryd.checked os 3 .any (fun w args => (Rows.fnExactRuleOnSpec.pre enc Tryd.prog Tryd.f3 [] false w args ∧ laidMetH Tryd.prog laidSizes w) ∧ sizedMet enc Tryd.prog Tryd.f3 (OpenSpec.ofChange Rows.fnExactRuleOnSpec) false w args)
      (Rows.fnExactRuleOnSpec.post enc Tryd.prog Tryd.f3 false true false false) := by
  refine returnsInHanded_of_change_and (C := Tryd.checked) (X := fun w _ => laidMetH Tryd.prog laidSizes w) (fun _ _ _ hh h => h.of_heap hh) own started (by kernel_rfl) Tryd.func3
    (ChangeSpec.witness_shaped (enc := enc) (C := Tryd.checked) (os := os) (X := fun w _ => laidMetH Tryd.prog laidSizes w) false (World.doorLaid Tryd.prog 400 os) #[.agg #[.int .i64 0, .int .i64 0, .int .i64 0, .int .i64 0, .slice none 0 0, .slice none 0 0, .slice none 0 0, .slice none 0 0, .int .i64 0], .int .i64 0, .int .i64 0] 8 rfl (World.shaped_of_RefB (by kernel_rfl) (by kernel_rfl)) (by kernel_rfl) (by kernel_rfl) (by kernel_rfl) (door_met os _)) ?_
  intro W base args ds gs before hval0 hW _ _ hL _
  have hval : ∀ (j : Nat) t v, Tryd.f3.params[j]? = some t → args[j]? = some v → Value.okWide Tryd.prog W .any base t v := hval0
  have hW' := hW
  have tcells := sizes_of_laid hL
  obtain ⟨p, q, hA0, hV, rfl, hfz, hnd⟩ := hW
  have hA : DataW.TrodAll enc Tryd.prog W 0 (fun _ => true) true Tryd.f3.params.toList args.toList ds p := hA0
  rw [Tryd.params3] at hA hval
  obtain ⟨v0, vs0, d0, ds0, p0, q0, hargs, rfl, rfl, h0, r0⟩ := trodAll_cons hA
  obtain ⟨v1, vs1, d1, ds1, p1, q1, rfl, rfl, rfl, h1, r1⟩ := trodAll_cons r0
  obtain ⟨v2, vs2, d2, ds2, p2, q2, rfl, rfl, rfl, h2, r2⟩ := trodAll_cons r1
  obtain ⟨rfl, rfl, rfl⟩ := trodAll_nil r2
  obtain rfl : args = #[v0, v1, v2] := by cases args; simp_all
  have k0 := h0
  have lt0 : ∀ x ∈ p0, x.block < W.heap.size := by obtain ⟨m, hm⟩ := k0; exact DataW.trod_lt m _ _ _ hm
  obtain ⟨f, ev, ct, un, a0, c0, ds, a1, c1, da, a2, c2, mo, a3, c3, pl, wk, rfl, t0, t1, t2, t3, l0, l1, l2, l3⟩ := isRule_open (hval 0 25 v0 rfl rfl) h0
  obtain ⟨sd, rfl, rfl, rfl, w1⟩ := open_int Tryd.underlying3 (hval 1 3 v1 rfl rfl) h1
  obtain ⟨dd, rfl, rfl, rfl, w2⟩ := open_int Tryd.underlying3 (hval 2 3 v2 rfl rfl) h2
  clear hA0 hval0
  refine (lawExRuleOn f ev ct un a0 c0 ds a1 c1 da a2 c2 mo a3 c3 pl wk sd dd W tcells t0 t1 t2 t3 l0 l1 l2 l3).mono fun e W' ⟨he, bel⟩ => ?_
  subst he
  obtain ⟨g1, pv, rfl, hv⟩ := vars_again laidOut hV bel
  exact ⟨_, rfl, _, _, _, [], _, _, hW', trodAll_mk1 (shut_bool Tryd.underlying4 _), (trodAll_cons_mk (Below.trod laidOut (by kernel_rfl) (of_decide_eq_true (by kernel_rfl)) k0 bel lt0) (trodAll_cons_mk (shut_int Tryd.underlying3 w1) (trodAll_cons_mk (shut_int Tryd.underlying3 w2) trodAll_mk0))), hv, bel.frame _, fun h => by cases h⟩

theorem over : Rows.fnExactRuleOnRow.holds Tryd.pinned (OpenSpec.ofChange Rows.fnExactRuleOnSpec) :=
  OpenClaim.holds_of_wide 3 Tryd.f3 rfl rfl rfl rfl rfl rfl rfl ⟨rfl, rfl, rfl, rfl, rfl⟩ rfl rfl rfl rfl rfl (by kernel_rfl) Tryd.func3 (by kernel_rfl)
    (of_decide_eq_true (by kernel_rfl)) (by unfold Func.isWrapper; first | (rw [if_pos (by decide +kernel)]; kernel_rfl) | (rw [if_neg (by decide +kernel)]; exact ⟨rfl, rfl⟩))
    (fun os started H enc _ => lifted os started H enc)

theorem proved : Rows.FnExactRuleOnCardSaid :=
  Claim7.holds_tied_plain_at .later [] [.data] true Rows.fnExactRuleOnCard.stood.harness false
    over (fun _ h => by cases h) (by kernel_rfl) (fun _ h => by cases h) fnExactRuleOn_row_tie rfl ⟨rfl, rfl⟩ (by kernel_rfl) rfl
    (fun f fn hf hfn => by
      obtain rfl : f = 3 := Option.some.inj ((show Tryd.prog.funcNamed Rows.fnExactRuleOnRow.func = some 3 by kernel_rfl).symm.trans hf) |>.symm
      obtain rfl : fn = Tryd.f3 := (Option.some.inj (Tryd.func3.symm.trans hfn)).symm
      exact ⟨by kernel_rfl, fun j t ht => by
        rw [Tryd.params3] at ht
        have hm : t ∈ [25, 3, 3] := by simpa using Array.mem_of_getElem? ht
        have hall : ([25, 3, 3].all fun u => !Tryd.prog.wantsStandIn u) = true := by kernel_rfl
        exact (show Tryd.prog.wantsStandIn t = false by simpa using List.all_eq_true.1 hall t hm)⟩)
    (by kernel_rfl)
#print axioms proved
end Go.Proofs.YtlnhagkipmcioaaDoor.fnExactRuleOn
