/- Spans put in order, and made few, as the specification goes: in plain numbers. -/
import Derived.Test.YtkbgbccehijckaaCd
namespace Go.Proofs.Ytkbgbccehijckaa
set_option linter.unusedVariables false
def SrtF (l : List (Int × Int)) : Prop := l.Pairwise fun s u => s.1 ≤ u.1
theorem srtF_at {l : List (Int × Int)} (h : SrtF l) {i j : Nat} (hij : i ≤ j) (hj : j < l.length) : tAt l i ≤ tAt l j := by
  by_cases e : i = j
  · subst e; exact Int.le_refl _
  · have := List.pairwise_iff_getElem.1 h i j (by omega) hj (by omega)
    rw [← tAt_get l i (by omega), ← tAt_get l j hj] at this
    exact this
theorem mem_at {l : List (Int × Int)} {s : Int × Int} (h : s ∈ l) : ∃ i, i < l.length ∧ s = (tAt l i, tSh l i) := by
  obtain ⟨i, hi, rfl⟩ := List.getElem_of_mem h
  exact ⟨i, hi, (tAt_get l i hi).symm⟩
/-- One more, at its place. -/
theorem ins_sorted {l : List (Int × Int)} (h : SrtF l) (x : Int × Int) (k : Nat) (hk : k ≤ l.length) (h1 : ∀ j, j < k → tAt l j < x.1) (h2 : k < l.length → ¬ tAt l k < x.1) : SrtF (l.take k ++ [x] ++ l.drop k) ∧ (l.take k ++ [x] ++ l.drop k).Perm (x :: l) := by
  constructor
  · have lo : ∀ u ∈ l.take k, u.1 < x.1 := fun u hu => by
      obtain ⟨j, hj, rfl⟩ := List.getElem_of_mem hu
      have hj' : j < k := by simp at hj; omega
      have := h1 j hj'
      rw [List.getElem_take, ← tAt_get l j (by omega)]
      exact this
    have hi : ∀ u ∈ l.drop k, x.1 ≤ u.1 := fun u hu => by
      obtain ⟨j, hj, rfl⟩ := List.getElem_of_mem hu
      have hj' : k + j < l.length := by simp at hj; omega
      have := h2 (by omega)
      have := srtF_at h (i := k) (j := k + j) (by omega) hj'
      rw [List.getElem_drop, ← tAt_get l (k + j) hj']
      simp only; omega
    unfold SrtF
    rw [List.append_assoc, List.pairwise_append]
    refine ⟨h.sublist (List.take_sublist _ _), ?_, fun a ha b hb => ?_⟩
    · rw [List.singleton_append, List.pairwise_cons]
      exact ⟨hi, h.sublist (List.drop_sublist _ _)⟩
    · rw [List.singleton_append] at hb
      rcases List.mem_cons.1 hb with e | e
      · subst e; exact Int.le_of_lt (lo a ha)
      · have := lo a ha; have := hi b e; omega
  · have e : l = l.take k ++ l.drop k := (List.take_append_drop k l).symm
    rw [List.append_assoc, List.singleton_append]
    exact (List.perm_middle).trans (List.Perm.cons x (by rw [List.take_append_drop]))
theorem in_perm {l m : List (Int × Int)} (h : l.Perm m) (t : Int) : In l t ↔ In m t := by
  unfold In
  exact ⟨fun ⟨s, hs, q⟩ => ⟨s, h.mem_iff.1 hs, q⟩, fun ⟨s, hs, q⟩ => ⟨s, h.mem_iff.2 hs, q⟩⟩
/-- The first so many spans, made few. -/
structure Few (al : List (Int × Int)) (k : Nat) (out : List (Int × Int)) : Prop where
  can : Can out
  mem : ∀ t, In out t ↔ In (al.take k) t
  low : ∀ u ∈ out, ∀ j, k ≤ j → j < al.length → u.1 ≤ tAt al j
theorem take_in (al : List (Int × Int)) (k : Nat) (h : k < al.length) (t : Int) : In (al.take (k + 1)) t ↔ In (al.take k) t ∨ (tAt al k ≤ t ∧ t < tSh al k) := by
  rw [List.take_add_one, in_append]
  simp only [List.getElem?_eq_getElem h, Option.toList_some]
  rw [in_one, ← tAt_get al k h]
theorem few_new {al out : List (Int × Int)} {k : Nat} (h : Few al k out) (hs : SrtF al) (hk : k < al.length) (hp : tAt al k < tSh al k) (hl : ∀ u ∈ out, u.2 < tAt al k) : Few al (k + 1) (out ++ [(tAt al k, tSh al k)]) := by
  refine ⟨can_snoc h.can hp hl, fun t => ?_, fun u hu j hj hjl => ?_⟩
  · rw [in_append, in_one, h.mem, take_in al k hk]
  · rcases List.mem_append.1 hu with hu | hu
    · exact h.low u hu j (by omega) hjl
    · simp at hu; subst hu; exact srtF_at hs (by omega) hjl
theorem few_in {al o : List (Int × Int)} {l : Int × Int} {k : Nat} (h : Few al k (o ++ [l])) (hk : k < al.length) (h1 : tAt al k ≤ l.2) (h2 : ¬ l.2 < tSh al k) : Few al (k + 1) (o ++ [l]) := by
  have hlo := h.low l (by simp) k (Nat.le_refl _) hk
  refine ⟨h.can, fun t => ?_, fun u hu j hj hjl => h.low u hu j (by omega) hjl⟩
  rw [take_in al k hk, ← h.mem, in_append, in_one]
  constructor
  · exact .inl
  · rintro (h | h)
    · exact h
    · exact .inr ⟨by omega, by omega⟩
theorem few_more {al o : List (Int × Int)} {l : Int × Int} {k : Nat} (h : Few al k (o ++ [l])) (hk : k < al.length) (h1 : tAt al k ≤ l.2) (h2 : l.2 < tSh al k) : Few al (k + 1) (o ++ [(l.1, tSh al k)]) := by
  have hlo := h.low l (by simp) k (Nat.le_refl _) hk
  have hp := List.pairwise_append.1 h.can.2
  have hll := h.can.1 l (by simp)
  have co : Can o := ⟨fun s hs => h.can.1 s (by simp [hs]), hp.1⟩
  refine ⟨can_snoc co (by simp only; omega) (fun u hu => hp.2.2 u hu l (by simp)), fun t => ?_, fun u hu j hj hjl => ?_⟩
  · rw [take_in al k hk, ← h.mem, in_append, in_append, in_one, in_one]
    simp only
    constructor
    · rintro (h | h)
      · exact .inl (.inl h)
      · by_cases hq : t < l.2
        · exact .inl (.inr ⟨h.1, hq⟩)
        · exact .inr ⟨by omega, h.2⟩
    · rintro ((h | h) | h)
      · exact .inl h
      · exact .inr ⟨h.1, by omega⟩
      · exact .inr ⟨by omega, h.2⟩
  · rcases List.mem_append.1 hu with hu | hu
    · exact h.low u (by simp [hu]) j (by omega) hjl
    · simp at hu
      have := h.low l (by simp) j (by omega) hjl
      subst hu; exact this
theorem few_nil (al : List (Int × Int)) : Few al 0 [] := ⟨can_nil, fun t => by simp, fun u hu => by simp at hu⟩
/-- Both ways lead to the same spans. -/
theorem few_busy {al out l : List (Int × Int)} (h : Few al al.length out) (hp : al.Perm l) (hl : ∀ s ∈ l, s.1 ≤ s.2) : out = busyL l := by
  obtain ⟨b0, b1⟩ := busyL_holds l hl
  refine can_uniq _ _ h.can b0 fun t => ?_
  rw [h.mem, List.take_length, b1]
  exact in_perm hp t
end Go.Proofs.Ytkbgbccehijckaa
