/- The text of a rule: as the program puts it together. -/
import Derived.Test.YtdcohpokfdaknaaDoorPa
import Derived.Test.YtdcohpokfdaknaaDoorRy
import Derived.Deep.AppendLies
import Derived.Deep.RegionLaw
namespace Go.Proofs.YtdcohpokfdaknaaDoor
open Go.RowKit
set_option linter.unusedVariables false
theorem OS.shape {w : World} {B : Nat} {v : Value} {l : List ByteArray} (h : OS w B v l) (hl : l ≠ []) : ∃ g cap, v = .slice (some ⟨g, 0, none⟩) l.length cap ∧ l.length ≤ cap ∧ g < w.heap.size ∧ B ≤ g ∧ ∀ i t, l[i]? = some t → w.cell? ⟨g, i, none⟩ = some (.string t) := by
  have h' := h
  obtain ⟨h1, h2⟩ := h
  rcases h2 with ⟨_, h0⟩ | ⟨g, cap, cur, rfl, hB, hg, hn, hm, hs, ht⟩
  · exact absurd (List.length_eq_zero_iff.1 h0) hl
  · obtain ⟨a, c, e, hc⟩ := h'.at
    simp only [Value.slice.injEq, true_and] at e
    obtain ⟨rfl, rfl⟩ := e
    refine ⟨g, cap, rfl, hn, (Array.getElem?_eq_some_iff.1 hg).1, hB, fun i t hi => ?_⟩
    obtain ⟨g', e, q⟩ := hc i t hi
    simp only [Option.some.injEq, Addr.mk.injEq, and_true] at e
    rw [e]; exact q
theorem implJoin (sep : ByteArray) (l : List ByteArray) (v : Value) (w : World) (B : Nat) (h : OS w B v l) (hl : l.length ≤ 1000) (hs : (joinT sep l).size ≤ 100000) :
    Calls Tryd.prog 17 #[v, .string sep] w fun e w' => e = .returned (.string (joinT sep l)) ∧ Below w.heap.size w w' := by
  by_cases h0 : l = []
  · subst h0
    obtain ⟨a, cap, rfl, _⟩ := h.at
    exact (Any.strings_Join_none lays156 Builder_Extra_156 a cap sep w).mono fun e w' ⟨he, hw⟩ => ⟨he, hw ▸ Below.refl _ _⟩
  · obtain ⟨g, cap, rfl, hcap, hg, _, hc⟩ := h.shape h0
    refine (Any.strings_Join lays156 Builder_Extra_156 g 0 cap l sep w (fun j x hj => by rw [Nat.zero_add]; exact hc j x hj) hg (by omega) hcap ?_)
    have : (joinT sep l).size = (Lib.join (l.map (·.data.toList)) sep.data.toList).length := by rw [Lib.size_eq]; rfl
    omega
theorem OS.set {w : World} {B pb : Nat} {v : Value} {l : List ByteArray} (h : OS w B v l) (hB : pb < B) (x : Value) : OS (w.setCell ⟨pb, 0, none⟩ x) B v l := by
  obtain ⟨h1, h2⟩ := h
  refine ⟨h1, ?_⟩
  rcases h2 with h2 | ⟨g, cap, cur, a, b, c, d⟩
  · exact .inl h2
  · have e : (w.setCell ⟨pb, 0, none⟩ x).heap[g]? = w.heap[g]? := Below.heap_setCell _ _ _ _ (by show g ≠ pb; omega)
    exact .inr ⟨g, cap, cur, a, b, e.trans c, d⟩
/-- A part of a rule's text. -/
def ptT (name : ByteArray) (vals : List ByteArray) : ByteArray := name ++ eqS ++ joinT comma vals
/-- The parts so far, in a variable of their own. -/
structure PS (w : World) (pb : Nat) (l : List ByteArray) : Prop where
  have_ : ∃ v, w.cell? ⟨pb, 0, none⟩ = some v ∧ OS w (pb + 1) v l
  free : w.frozen? ⟨pb, 0, none⟩ = false
theorem PS.lt {w : World} {pb : Nat} {l : List ByteArray} (h : PS w pb l) : pb < w.heap.size := by
  obtain ⟨v, c, _⟩ := h.have_
  exact cell_lt c
theorem PS.on {w w' : World} {pb : Nat} {l : List ByteArray} (h : PS w pb l) (hb : Below w.heap.size w w') : PS w' pb l := by
  have lt := h.lt
  obtain ⟨⟨v, c, o⟩, f⟩ := h
  exact ⟨⟨v, by rw [hb.cell (p := ⟨pb, 0, none⟩) lt]; exact c, o.below hb⟩, by rw [hb.frozen (p := ⟨pb, 0, none⟩) lt]; exact f⟩
theorem implPut_no (name : ByteArray) (V : Value) (pb : Nat) (w : World) :
    Calls Tryd.prog 16 #[.bool false, .string name, V, .pointer (some ⟨pb, 0, none⟩)] w fun e w' => e = .returned (.tuple #[]) ∧ w' = w := by
  go_enter Tryd.func16, Tryd.ntmps16
  go_wp2
  exact bodyPost_end (v := .tuple #[]) (by simp [results, Tryd.results16, go_sem]) rfl ⟨rfl, rfl⟩
theorem far_cell {w5 w6 : World} {o : Obj} {v : Value} {pb : Nat} {l : List ByteArray} (O5 : OS w5 (pb + 1) v l) (lt5 : pb < w5.heap.size) (hgrow : (w5.alloc o).grownBy w6 v.ownBlock) :
    w6.cell? ⟨pb, 0, none⟩ = w5.cell? ⟨pb, 0, none⟩ ∧ w6.frozen? ⟨pb, 0, none⟩ = w5.frozen? ⟨pb, 0, none⟩ ∧ Below pb w5 w6 := by
  have ba : Below w5.heap.size w5 (w5.alloc o) := (Below.refl _ _).alloc (Nat.le_refl _) o
  have hne : some pb ≠ v.ownBlock := fun e => by have := (World.ownsRow.lt O5 pb e.symm).1; omega
  refine ⟨?_, ?_, ?_⟩
  · rw [hgrow.cell_far ⟨pb, 0, none⟩ (by simp; omega) hne]; exact ba.cell (p := ⟨pb, 0, none⟩) lt5
  · rw [hgrow.frozen_far ⟨pb, 0, none⟩ (by simp; omega) hne]; exact ba.frozen (p := ⟨pb, 0, none⟩) lt5
  · exact ((Below.refl pb w5).alloc (by omega) o).grown hgrow (by simp; omega) (fun k hk => by have := (World.ownsRow.lt O5 k hk).1; omega)
set_option maxRecDepth 100000 in
set_option maxHeartbeats 8000000 in
theorem implPut_yes (name : ByteArray) (V : Value) (vals l : List ByteArray) (pb B : Nat) (w : World) (hP : PS w pb l) (hV : OS w B V vals) (hv : vals.length ≤ 1000) (hs : (joinT comma vals).size ≤ 1000) (hn : name.size ≤ 20) (hl : l.length ≤ 20) :
    Calls Tryd.prog 16 #[.bool true, .string name, V, .pointer (some ⟨pb, 0, none⟩)] w fun e w' => e = .returned (.tuple #[]) ∧ PS w' pb (l ++ [ptT name vals]) ∧ Below pb w w' := by
  obtain ⟨i0, hi, hz0, hz1, hz2⟩ := info_parts strInfo
  have lt := hP.lt
  obtain ⟨⟨v, c0, own⟩, f0⟩ := hP
  have HO : Hid (OS w (pb + 1) v l) := own
  have HV : Hid (OS w B V vals) := hV
  have zz : ¬ 9223372036854775807 < name.size + 1 + (joinT comma vals).size := by omega
  have z1 : ¬ 9223372036854775807 < name.size + 1 := by omega
  have eq1 : (⟨#[61]⟩ : ByteArray).size = 1 := rfl
  clear own hV
  go_enter Tryd.func16, Tryd.ntmps16
  go_wp2_with fail
  go_region_law
    (first
      | (go_simp; go_at_call 17; refine (implJoin comma vals V w.drew B (HV.out.below (Below.refl _ _).drew) hv (by omega)).mono ?_; rintro e w5 ⟨rfl, b5⟩; have B5 : Below w.heap.size w w5 := bstep (Below.refl w.heap.size w).drew b5; have c5 : w5.cell? ⟨pb, 0, none⟩ = some v := (by rw [B5.cell (p := ⟨pb, 0, none⟩) lt]; exact c0); have f5 : w5.frozen? ⟨pb, 0, none⟩ = false := (by rw [B5.frozen (p := ⟨pb, 0, none⟩) lt]; exact f0); have lt5 := cell_lt c5; have O5 := HO.out.below B5; clear b5)
      | (refine step_append_lies _ rfl _ _ 39 rfl (pb + 1) 9 i0 (.string ByteArray.empty) 1 16 Tryd.underlying39 hi hz0 hz1 hz2 rfl (by decide) _ _ _ rfl (World.ownsRow.alloc O5 _) ⟨_, 0, none⟩ 1 1 [.string _] rfl rfl (World.news_of_block (heap_alloc_new w5 _)) (by simp [Value.oneCell']) (by decide) (by unfold maxLen; omega) (by omega) (by simp; omega) _ rfl ?_; intro g cap w6 hown hgrow hat hlt6; have FC := far_cell O5 lt5 hgrow; have c6 := FC.1.trans c5; have f6 := FC.2.1.trans f5; have BF : Below pb w w6 := (B5.mono (by omega)).trans FC.2.2; clear hgrow hat FC))
  all_goals
    have OW : OS w6 (pb + 1) (.slice (some ⟨g, 0, none⟩) (l.length + 1) cap) (l ++ [ptT name vals]) := (by unfold OS; simpa [ptT, eqS] using hown)
    refine bodyPost_end (v := .tuple #[]) (by simp [results, Tryd.results16, go_sem]) rfl ⟨rfl, ⟨⟨_, World.cell?_setCell_same _ _ _ c6, OW.set (by omega) _⟩, by rw [World.frozen?_setCell]; exact f6⟩, ?_⟩
    exact BF.setCell (p := ⟨pb, 0, none⟩) (Nat.le_refl _) _
end Go.Proofs.YtdcohpokfdaknaaDoor
