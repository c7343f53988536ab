/- Six tables: what the laid condition gives the walk of a rule's text, and that the variables read behind the call as before. -/
import Derived.Test.YtdcohpokfdaknaaDoorFrT
import Derived.Test.YtdcohpokfdaknaaDoorPc
namespace Go.Proofs.YtdcohpokfdaknaaDoor
open Go.ChangeShapes Go.WideShapes Go.ChangeAt Go.WideMaps Go.WideElems Go.RowKit
set_option linter.unusedVariables false
abbrev laidSix : List (String × DataW Unit) := [("math/bits.deBruijn32tab", Rows.laid_math_bits_deBruijn32tab), ("math/bits.deBruijn64tab", Rows.laid_math_bits_deBruijn64tab), ("internal/strconv.uint64pow10", Rows.laid_internal_strconv_uint64pow10), ("loop.example/ephemeris/impl.monthSizes", Rows.laid_loop_example_ephemeris_impl_monthSizes), ("loop.example/ephemeris/impl.freqNames", Rows.laid_loop_example_ephemeris_impl_freqNames), ("loop.example/ephemeris/impl.weekDayNames", Rows.laid_loop_example_ephemeris_impl_weekDayNames)]
theorem gFreq : Tryd.prog.globalNamed "loop.example/ephemeris/impl.freqNames" = some 0 := by kernel_rfl
theorem tFreq : (Tryd.prog.globals[0]?).map (·.type) = some 42 := by kernel_rfl
theorem gWeek : Tryd.prog.globalNamed "loop.example/ephemeris/impl.weekDayNames" = some 1 := by kernel_rfl
theorem tWeek : (Tryd.prog.globals[1]?).map (·.type) = some 53 := by kernel_rfl
theorem cStr : Tryd.prog.cellsOf 9 = 1 := by kernel_rfl
theorem cFreq : Tryd.prog.cellsOf 42 = 4 := by kernel_rfl
theorem cWeek : Tryd.prog.cellsOf 53 = 7 := by kernel_rfl
theorem door_met6 (os : Os) (args : Array Value) : laidMetH Tryd.prog laidSix ((World.doorLaid Tryd.prog 400 os).forCall (fun _ _ => 0) ⟨#[], args, []⟩).memory :=
  laidMetH_of_parts3 (fuel := 8) (laidMet_of_run' 8 (by kernel_rfl) (by kernel_rfl)) (by kernel_rfl) (by kernel_rfl)
/-- An array of texts that reads as listed holds them, one a cell. -/
theorem cells_of_texts {H : Type} {enc : TypeId × Value → H} {P : Program} {w : World} {base : Nat} {sp : Nat → Bool} {held : Bool} {fuel : Nat} {t e : TypeId} {n : Nat} {cs : List Value} {zs : List (List UInt8)} {p : List MemPlace}
    (ht : P.underlying t = some (.array n e)) (he : P.underlying e = some .string) (hce : P.cellsOf e = 1) (hct : P.cellsOf t = n)
    (h : DataW.trod enc P w base sp held fuel t cs = some (.agg (zs.map fun z => .lit (.string z)), p)) (i : Nat) (hi : i < n) : ∃ s : ByteArray, cs[i]? = some (.string s) ∧ zs[i]? = some s.data.toList := by
  cases fuel with
  | zero => simp [DataW.trod] at h
  | succ fuel =>
    simp only [DataW.trod, ht, hce, hct, Nat.mul_one] at h
    split at h
    · obtain ⟨xs, hm, hx⟩ := Option.map_eq_some_iff.1 h
      have hxs : xs.map (·.1) = zs.map fun z => (DataW.lit (.string z) : DataW H) := by
        have := congrArg Prod.fst hx
        simpa using this
      obtain ⟨b, hb, hf⟩ := Lib.mapM_at hm i i (by simp [hi])
      obtain ⟨s, hc, rfl, _⟩ := DataW.trod_string he hf
      refine ⟨s, ?_, ?_⟩
      · have := congrArg (·[0]?) hc
        simpa [List.getElem?_take, List.getElem?_drop] using this
      · have h2 : (xs.map (·.1))[i]? = some (DataW.lit (.string s.data.toList) : DataW H) := by simp [hb]
        rw [hxs] at h2
        simp only [List.getElem?_map, Option.map_eq_some_iff, DataW.lit.injEq, Lit.string.injEq] at h2
        obtain ⟨z', hz', rfl⟩ := h2
        exact hz'
    · cases h
theorem text_of {s : ByteArray} {l : List UInt8} (h : l = s.data.toList) : s = ⟨l.toArray⟩ := by
  cases s with
  | mk d => simp only at h; subst h; simp
theorem six_of_laid {W : World} (h : laidMetH Tryd.prog laidSix W) : Tab W ∧ Pow W ∧ Wk W ∧ Fq W := by
  rw [MakeChecks.laidMetH_plain _ _ _ (by kernel_rfl)] at h
  obtain ⟨ps, ⟨_, _, _, _, _, _, _, _, _, _, h5, _⟩, _⟩ := h
  obtain ⟨_, _, _, _, _, _, _, _, _, _, h6, _⟩ := h5
  obtain ⟨g, t, cs, fuel, p, q, hg, ht, hvar, hd, h7, _⟩ := h6
  obtain ⟨g', t', cs', fuel', p', q', hg', ht', hvar', hd', h8, _⟩ := h7
  obtain ⟨g2, t2, cs2, fuel2, p2, q2, hg2, ht2, hvar2, hd2, h9, _⟩ := h8
  obtain ⟨g3, t3, cs3, fuel3, p3, q3, hg3, ht3, hvar3, hd3, _, _⟩ := h9
  obtain rfl := Option.some.inj (gPow.symm.trans hg)
  obtain rfl := Option.some.inj (tPow.symm.trans ht)
  obtain rfl := Option.some.inj (gSizes.symm.trans hg')
  obtain rfl := Option.some.inj (tSizes.symm.trans ht')
  obtain rfl := Option.some.inj (gFreq.symm.trans hg2)
  obtain rfl := Option.some.inj (tFreq.symm.trans ht2)
  obtain rfl := Option.some.inj (gWeek.symm.trans hg3)
  obtain rfl := Option.some.inj (tWeek.symm.trans ht3)
  rw [pow_data] at hd
  have hT : Lib.TabIs Tryd.prog W "loop.example/ephemeris/impl.monthSizes" .i64 sizes := by
    unfold Lib.TabIs
    rw [hvar', ← Lib.cells_of_tab (zs := sizes) Tryd.underlying102 Tryd.underlying3 cInt cSizes hd']
  refine ⟨fun i hi => hT.cell gSizes i (by simpa [sizes] using hi), ?_, ?_, ?_⟩
  · unfold Pow Lib.TabIs
    rw [hvar, ← Lib.cells_of_tab Tryd.underlying104 Tryd.underlying93 cU64 cPow hd]
  · intro i hi
    obtain ⟨s, e1, e2⟩ := cells_of_texts (zs := [[77, 79], [84, 85], [87, 69], [84, 72], [70, 82], [83, 65], [83, 85]]) Tryd.underlying53 Tryd.underlying9 cStr cWeek hd3 i hi
    have c := World.var?_cell gWeek hvar3 i
    have hs : s = wkT i := by
      have : i = 0 ∨ i = 1 ∨ i = 2 ∨ i = 3 ∨ i = 4 ∨ i = 5 ∨ i = 6 := by omega
      rcases this with rfl | rfl | rfl | rfl | rfl | rfl | rfl <;> (simp only [List.getElem?_cons_zero, List.getElem?_cons_succ, Option.some.injEq] at e2; rw [text_of e2]; rfl)
    rw [c]
    first | (rw [← hs]; simpa using e1) | (subst hs; simpa using e1)
  · intro i hi
    obtain ⟨s, e1, e2⟩ := cells_of_texts (zs := [[68, 65, 73, 76, 89], [87, 69, 69, 75, 76, 89], [77, 79, 78, 84, 72, 76, 89], [89, 69, 65, 82, 76, 89]]) Tryd.underlying42 Tryd.underlying9 cStr cFreq hd2 i hi
    have c := World.var?_cell gFreq hvar2 i
    have hs : s = fqT i := by
      have : i = 0 ∨ i = 1 ∨ i = 2 ∨ i = 3 := by omega
      rcases this with rfl | rfl | rfl | rfl <;> (simp only [List.getElem?_cons_zero, List.getElem?_cons_succ, Option.some.injEq] at e2; rw [text_of e2]; rfl)
    rw [c]
    first | (rw [← hs]; simpa using e1) | (subst hs; simpa using e1)
theorem varFreq_again {H : Type} {enc : TypeId × Value → H} {W W' : World} {cs : Array Value} {fuel : Nat} {d : DataW H} {p : List MemPlace} (hl : laidOutB Tryd.prog = true) (h3 : W.var? Tryd.prog "loop.example/ephemeris/impl.freqNames" = some cs)
    (h4 : DataW.trod enc Tryd.prog W 0 (fun _ => true) true fuel 42 cs.toList = some (d, p)) (hlt : ∀ x ∈ p, x.block < W.heap.size) (hb : Below W.heap.size W W') :
    W'.var? Tryd.prog "loop.example/ephemeris/impl.freqNames" = some cs ∧ ∃ fuel' p', DataW.trod enc Tryd.prog W' 0 (fun b => decide (b < W.heap.size)) true fuel' 42 cs.toList = some (d, p') := by
  refine ⟨var?_below hb gFreq ?_ h3, ?_⟩
  · rcases Nat.lt_or_ge 0 W.heap.size with h' | h'
    · exact h'
    · unfold World.var? at h3
      rw [gFreq] at h3
      simp [Array.getElem?_eq_none h'] at h3
  · obtain ⟨fuel', h5⟩ := Below.trod (t := 42) (v := .agg cs) hl (by kernel_rfl) (of_decide_eq_true (by kernel_rfl)) ⟨fuel, h4⟩ hb hlt
    exact ⟨fuel', _, h5⟩
theorem varWeek_again {H : Type} {enc : TypeId × Value → H} {W W' : World} {cs : Array Value} {fuel : Nat} {d : DataW H} {p : List MemPlace} (hl : laidOutB Tryd.prog = true) (h3 : W.var? Tryd.prog "loop.example/ephemeris/impl.weekDayNames" = some cs)
    (h4 : DataW.trod enc Tryd.prog W 0 (fun _ => true) true fuel 53 cs.toList = some (d, p)) (hlt : ∀ x ∈ p, x.block < W.heap.size) (hb : Below W.heap.size W W') :
    W'.var? Tryd.prog "loop.example/ephemeris/impl.weekDayNames" = some cs ∧ ∃ fuel' p', DataW.trod enc Tryd.prog W' 0 (fun b => decide (b < W.heap.size)) true fuel' 53 cs.toList = some (d, p') := by
  refine ⟨var?_below hb gWeek ?_ h3, ?_⟩
  · rcases Nat.lt_or_ge 1 W.heap.size with h' | h'
    · exact h'
    · unfold World.var? at h3
      rw [gWeek] at h3
      simp [Array.getElem?_eq_none h'] at h3
  · obtain ⟨fuel', h5⟩ := Below.trod (t := 53) (v := .agg cs) hl (by kernel_rfl) (of_decide_eq_true (by kernel_rfl)) ⟨fuel, h4⟩ hb hlt
    exact ⟨fuel', _, h5⟩
theorem varSizes_again {H : Type} {enc : TypeId × Value → H} {W W' : World} {cs : Array Value} {fuel : Nat} {d : DataW H} {p : List MemPlace} (hl : laidOutB Tryd.prog = true) (h3 : W.var? Tryd.prog "loop.example/ephemeris/impl.monthSizes" = some cs)
    (h4 : DataW.trod enc Tryd.prog W 0 (fun _ => true) true fuel 102 cs.toList = some (d, p)) (hlt : ∀ x ∈ p, x.block < W.heap.size) (hb : Below W.heap.size W W') :
    W'.var? Tryd.prog "loop.example/ephemeris/impl.monthSizes" = some cs ∧ ∃ fuel' p', DataW.trod enc Tryd.prog W' 0 (fun b => decide (b < W.heap.size)) true fuel' 102 cs.toList = some (d, p') := by
  refine ⟨var?_below hb gSizes ?_ h3, ?_⟩
  · rcases Nat.lt_or_ge 2 W.heap.size with h' | h'
    · exact h'
    · unfold World.var? at h3
      rw [gSizes] at h3
      simp [Array.getElem?_eq_none h'] at h3
  · obtain ⟨fuel', h5⟩ := Below.trod (t := 102) (v := .agg cs) hl (by kernel_rfl) (of_decide_eq_true (by kernel_rfl)) ⟨fuel, h4⟩ hb hlt
    exact ⟨fuel', _, h5⟩
theorem vars_again3 {H : Type} {enc : TypeId × Value → H} {W W' : World} {gs : List (DataW H)} {q : List MemPlace} (hl : laidOutB Tryd.prog = true)
    (h : DataW.TrodVars enc Tryd.prog W (fun _ => true) ["loop.example/ephemeris/impl.freqNames", "loop.example/ephemeris/impl.weekDayNames", "loop.example/ephemeris/impl.monthSizes"] gs q) (hb : Below W.heap.size W W') :
    ∃ g1 g2 g3 pv, gs = [g1, g2, g3] ∧ DataW.TrodVars enc Tryd.prog W' (fun b => decide (b < W.heap.size)) ["loop.example/ephemeris/impl.freqNames", "loop.example/ephemeris/impl.weekDayNames", "loop.example/ephemeris/impl.monthSizes"] [g1, g2, g3] pv := by
  have hlt := DataW.TrodVars.lt h
  match gs, h with
  | d1 :: gs1, h =>
    obtain ⟨g1, t1, cs1, f1, p1, q1, a1, b1, c1, e1, hs1, rfl⟩ := h
    match gs1, hs1 with
    | d2 :: gs2, hs1 =>
      obtain ⟨g2, t2, cs2, f2, p2, q2, a2, b2, c2, e2, hs2, rfl⟩ := hs1
      obtain ⟨g3, t3, cs3, f3, d3, p3, rfl, a3, b3, c3, e3, rfl⟩ := trodVars_one hs2
      obtain rfl := Option.some.inj (gFreq.symm.trans a1)
      obtain rfl := Option.some.inj (tFreq.symm.trans b1)
      obtain rfl := Option.some.inj (gWeek.symm.trans a2)
      obtain rfl := Option.some.inj (tWeek.symm.trans b2)
      obtain rfl := Option.some.inj (gSizes.symm.trans a3)
      obtain rfl := Option.some.inj (tSizes.symm.trans b3)
      obtain ⟨v1, f1', p1', r1⟩ := varFreq_again hl c1 e1 (fun x hx => hlt x (by simp [hx])) hb
      obtain ⟨v2, f2', p2', r2⟩ := varWeek_again hl c2 e2 (fun x hx => hlt x (by simp [hx])) hb
      obtain ⟨v3, f3', p3', r3⟩ := varSizes_again hl c3 e3 (fun x hx => hlt x (by simp [hx])) hb
      exact ⟨d1, d2, d3, _, rfl, _, _, _, _, _, _, gFreq, tFreq, v1, r1, ⟨_, _, _, _, _, _, gWeek, tWeek, v2, r2, trodVars_mk1 gSizes tSizes v3 r3, rfl⟩, rfl⟩
end Go.Proofs.YtdcohpokfdaknaaDoor
