/- Edges are sorted: what the row holds behind it. -/
import Derived.Test.YtkbgbccehijckaaSf
namespace Go.Proofs.Ytkbgbccehijckaa
open Go.RowKit Go.Sort Go.Shelf
set_option linter.unusedVariables false
def encP (x : Int × Int) : List Value := [.int .i64 x.1, .int .i64 x.2]
theorem enc_at (ts : List (Int × Int)) (i : Nat) (h : i < ts.length) : ts.toArray[i]! = (tAt ts i, tSh ts i) := by
  rw [tAt_get ts i h]; simp [h]
theorem OP.holds {w : World} {B g cap : Nat} {T : TypeId} {ts : List (Int × Int)} (h : OP w B T (.slice (some ⟨g, 0, none⟩) ts.length cap) ts) : HoldsK encP 2 w g 0 ts.toArray := by
  intro j hj
  rw [size_flatK] at hj
  have hj' : j < ts.length * 2 := by simpa using hj
  have hi : j / 2 < ts.length := by omega
  obtain ⟨c0, c1, f⟩ := h.at hi
  refine ⟨?_, by rw [Nat.zero_add]; exact f j⟩
  rw [get_flatK _ _ _ _ hj, enc_at ts _ hi, Nat.zero_add]
  rcases Nat.mod_two_eq_zero_or_one j with e | e
  · have e2 : j = j / 2 * 2 := by omega
    rw [e]
    generalize j / 2 = i at c0 c1 e2 ⊢
    rw [e2, c0]; simp [encP]
  · have e2 : j = j / 2 * 2 + 1 := by omega
    rw [e]
    generalize j / 2 = i at c0 c1 e2 ⊢
    rw [e2, c1]; simp [encP]
theorem holds_turns {w : World} {g : Nat} {ts : List (Int × Int)} (h : HoldsK encP 2 w g 0 ts.toArray) (hg : g < w.heap.size) : IsTurns w (some ⟨g, 0, none⟩) ts := by
  refine .inr ⟨g, 0, rfl, hg, fun i hi => ?_⟩
  have h0 := (h.cell (i := i) (c := 0) (by simpa using hi) (by omega)).1
  have h1 := (h.cell (i := i) (c := 1) (by simpa using hi) (by omega)).1
  rw [enc_at ts i hi] at h0 h1
  exact ⟨by simpa [encP] using h0, by simpa [encP] using h1⟩
theorem sort_below (w : World) (B g n : Nat) (d : Array (Int × Int)) (os : Array Obj) (hB : B ≤ g) (hg : g < w.heap.size) : Below B w (sortWorldK encP 2 w g 0 n d os) := by
  unfold sortWorldK
  refine ⟨rfl, rfl, rfl, ?_, fun j hj => ?_⟩
  · rw [Go.Sort.size_grow, size_putRowK]; exact Nat.le_add_right _ _
  · rw [heap_grow_old _ _ (by rw [size_putRowK]; show j < w.heap.size; omega)]
    unfold putRowK putRow mapBlock
    show (w.heap.modify g _)[j]? = _
    rw [Array.getElem?_modify, if_neg (by omega)]
def edLe (x y : Int × Int) : Bool := !(ltOf edC) y x
theorem edLe_iff (x y : Int × Int) : edLe x y = true ↔ EdgeLe x y := by
  unfold edLe EdgeLe
  rw [edC_lt]
  simp
  omega
def edSort (es : List (Int × Int)) : List (Int × Int) := es.mergeSort edLe
theorem edSort_perm (es : List (Int × Int)) : (edSort es).Perm es := List.mergeSort_perm _ _
theorem edSort_sorted (es : List (Int × Int)) : (edSort es).Pairwise EdgeLe := by
  have h := List.pairwise_mergeSort (le := edLe) (fun a b c h1 h2 => by rw [edLe_iff] at *; unfold EdgeLe at *; omega) (fun a b => by rw [Bool.or_eq_true, edLe_iff, edLe_iff]; unfold EdgeLe; omega) es
  exact h.imp fun h => (edLe_iff _ _).1 h
theorem edSort_len (es : List (Int × Int)) : (edSort es).length = es.length := (edSort_perm es).length_eq
theorem edgeLays (blk off size : Nat) (w : World) : CmpLays Try.prog 60 #[] encP 2 edC blk off size w :=
  fun m os dk _ x y => (implEdgeOrder x y _).mono fun e w' h => h
theorem implSort (B g cap : Nat) (es : List (Int × Int)) (w : World) (h : OP w B 74 (.slice (some ⟨g, 0, none⟩) es.length cap) es) (hB : B ≤ g) (hg : g < w.heap.size) (hl : es.length ≤ 1000000) :
    Calls Try.prog 59 #[.slice (some ⟨g, 0, none⟩) es.length cap, .func (.func 60) #[] #[]] w fun e w' => e = .returned (.tuple #[]) ∧ IsTurns w' (some ⟨g, 0, none⟩) (edSort es) ∧ Below B w w' := by
  have eg : ∀ args w, (callFunc 60 args).run Try.prog w = .ok (.enter 60 args) w := enters_of Try.func60 (by kernel_rfl) rfl
  have hcon := AnyQ.slices_SortFunc_total srt 2 Try.isAgg74 Try.sizeOf74 encP (fun _ => rfl) (fun x v hv => by simp [encP] at hv; rcases hv with rfl | rfl <;> rfl) edC edC_swo 60 #[] g 0 cap es.toArray w eg (edgeLays g 0 es.toArray.size w) h.holds hg (by simp; omega) edC_total
  change Calls Try.prog 59 _ _ _ at hcon
  simp only [List.size_toArray] at hcon
  refine hcon.mono ?_
  rintro e w' ⟨rfl, n, os, rfl⟩
  have hh : HoldsK encP 2 (sortWorldK encP 2 w g 0 n (edSort es).toArray os) g 0 (edSort es).toArray := holdsK_sortWorldK_c encP 2 w g 0 es.toArray _ n os h.holds hg (by simp [edSort_len])
  have hb := sort_below w B g n (edSort es).toArray os hB hg
  exact ⟨rfl, holds_turns hh (Nat.lt_of_lt_of_le hg hb.size), hb⟩
end Go.Proofs.Ytkbgbccehijckaa
