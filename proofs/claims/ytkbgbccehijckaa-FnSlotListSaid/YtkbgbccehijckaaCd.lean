/- Who is busy, in plain numbers. -/
import Derived.Test.YtkbgbccehijckaaCb
namespace Go.Proofs.Ytkbgbccehijckaa
set_option linter.unusedVariables false
/-- Spans begin where an edge goes up, and end where one goes down. -/
structure PassEnds (p : List (Int × Int)) (s : Int × Int × List (Int × Int)) : Prop where
  ends : ∀ u ∈ s.2.2, (∃ e ∈ p, u.1 = e.1 ∧ 0 < e.2) ∧ ∃ e ∈ p, u.2 = e.1 ∧ e.2 < 0
  beg : 0 < s.1 → ∃ e ∈ p, s.2.1 = e.1 ∧ 0 < e.2
theorem passEnds_step {p : List (Int × Int)} {s : Int × Int × List (Int × Int)} {e : Int × Int} (h : PassEnds p s) : PassEnds (p ++ [e]) (passE s e) := by
  obtain ⟨c, b, out⟩ := s
  obtain ⟨he, hb⟩ := h
  simp only at he hb
  have up : ∀ u : Int × Int, ((∃ f ∈ p, u.1 = f.1 ∧ 0 < f.2) ∧ ∃ f ∈ p, u.2 = f.1 ∧ f.2 < 0) → (∃ f ∈ p ++ [e], u.1 = f.1 ∧ 0 < f.2) ∧ ∃ f ∈ p ++ [e], u.2 = f.1 ∧ f.2 < 0 := by
    rintro u ⟨⟨f, hf, h1⟩, g, hg, h2⟩
    exact ⟨⟨f, List.mem_append.2 (.inl hf), h1⟩, g, List.mem_append.2 (.inl hg), h2⟩
  unfold passE
  refine ⟨fun u hu => ?_, fun h0 => ?_⟩
  · simp only at hu
    by_cases hc : 0 < c ∧ ¬ 0 < c + e.2 ∧ b < e.1
    · rw [if_pos hc] at hu
      rcases List.mem_append.1 hu with hu | hu
      · exact up u (he u hu)
      · simp at hu
        subst hu
        obtain ⟨f, hf, h1⟩ := hb hc.1
        exact ⟨⟨f, List.mem_append.2 (.inl hf), h1⟩, e, by simp, rfl, by omega⟩
    · rw [if_neg hc] at hu
      exact up u (he u hu)
  · simp only at h0 ⊢
    by_cases hc : 0 < c + e.2 ∧ ¬ 0 < c
    · rw [if_pos hc]; exact ⟨e, by simp, rfl, by omega⟩
    · rw [if_neg hc]
      obtain ⟨f, hf, h1⟩ := hb (by omega)
      exact ⟨f, List.mem_append.2 (.inl hf), h1⟩
theorem passEnds_all : ∀ (q p : List (Int × Int)) (s : Int × Int × List (Int × Int)), PassEnds p s → PassEnds (p ++ q) (q.foldl passE s) := by
  intro q
  induction q with
  | nil => intro p s h; simpa using h
  | cons e q ih =>
    intro p s h
    have := ih (p ++ [e]) (passE s e) (passEnds_step h)
    simpa using this
theorem runE_ends (es : List (Int × Int)) : ∀ u ∈ runE es, (∃ e ∈ es, u.1 = e.1 ∧ 0 < e.2) ∧ ∃ e ∈ es, u.2 = e.1 ∧ e.2 < 0 := by
  have h := passEnds_all es [] (0, 0, []) ⟨fun u hu => by simp at hu, fun h => by simp at h⟩
  rw [List.nil_append] at h
  exact h.ends
/-- Who is busy. -/
def busyL (l : List (Int × Int)) : List (Int × Int) := runE (edSort (edgesS 1 l))
theorem busyL_holds (l : List (Int × Int)) (h : ∀ s ∈ l, s.1 ≤ s.2) : Can (busyL l) ∧ ∀ t, In (busyL l) t ↔ In l t := by
  obtain ⟨r0, r1⟩ := runE_holds (edSort (edgesS 1 l)) (edSort_sorted _) (by rw [tot_perm (edSort_perm _)]; exact edgesS_tot 1 l)
  refine ⟨r0, fun t => ?_⟩
  unfold busyL
  rw [r1, cnt_perm (edSort_perm _)]
  exact (nIn_pos l t h).2
theorem busyL_ends (l : List (Int × Int)) : ∀ u ∈ busyL l, (∃ s ∈ l, u.1 = s.1) ∧ ∃ s ∈ l, u.2 = s.2 := by
  intro u hu
  obtain ⟨⟨e, he, e1, e2⟩, f, hf, f1, f2⟩ := runE_ends _ u hu
  have he := (edSort_perm _).mem_iff.1 he
  have hf := (edSort_perm _).mem_iff.1 hf
  obtain ⟨s, hs, hse⟩ := List.mem_flatMap.1 he
  obtain ⟨t, ht, htf⟩ := List.mem_flatMap.1 hf
  simp at hse htf
  refine ⟨⟨s, hs, ?_⟩, t, ht, ?_⟩
  · rcases hse with rfl | rfl
    · exact e1
    · simp at e2
  · rcases htf with rfl | rfl
    · simp at f2
    · exact f1
theorem can_is_busy (l : List (Int × Int)) (h : Can l) : busyL l = l := by
  obtain ⟨b0, b1⟩ := busyL_holds l fun s hs => Int.le_of_lt (h.1 s hs)
  exact can_uniq _ _ b0 h b1
/-- Those that are spans. -/
def onesL (l : List (Int × Int)) : List (Int × Int) := l.filter fun s => spB s.1 s.2
theorem onesL_le (l : List (Int × Int)) : ∀ s ∈ onesL l, spB s.1 s.2 = true ∧ s.1 ≤ s.2 := by
  intro s hs
  have h := (List.mem_filter.1 hs).2
  exact ⟨h, by have := (sp_iff _ _).1 h; omega⟩
theorem ones_ok {l : List (Int × Int)} (h : SpOk l) : onesL l = l := by
  unfold onesL
  rw [List.filter_eq_self]
  intro s hs
  obtain ⟨i, hi, rfl⟩ := List.getElem_of_mem hs
  have := (h.2 i hi).1
  rw [← tAt_get l i hi]
  exact this
theorem busy_sp (l : List (Int × Int)) : ∀ u ∈ busyL (onesL l), spB u.1 u.2 = true := by
  intro u hu
  obtain ⟨⟨s, hs, e1⟩, t, ht, e2⟩ := busyL_ends _ u hu
  have h1 := (sp_iff _ _).1 (onesL_le l s hs).1
  have h2 := (sp_iff _ _).1 (onesL_le l t ht).1
  have h3 := (busyL_holds (onesL l) fun s hs => (onesL_le l s hs).2).1.1 u hu
  exact (sp_iff _ _).2 ⟨by omega, by omega, by omega⟩
theorem ok_can_sp {l : List (Int × Int)} (h : Can l) (hb : ∀ s ∈ l, spB s.1 s.2 = true) (hl : l.length ≤ 300) : SpOk l := by
  refine ⟨hl, fun i hi => ⟨?_, fun h0 => ?_⟩⟩
  · have := hb l[i] (List.getElem_mem hi)
    rw [← tAt_get l i hi] at this
    exact this
  · have := List.pairwise_iff_getElem.1 h.2 (i - 1) i (by omega) hi (by omega)
    rw [← tAt_get l (i - 1) (by omega), ← tAt_get l i hi] at this
    exact this
/-- Spans are ok just if they are as few as can be. -/
theorem spans_law (l : List (Int × Int)) (hl : l.length ≤ 300) (r : Bool) (hr : r = true ↔ SpOk l) : decide (busyL (onesL l) = l) = r := by
  rw [Bool.eq_iff_iff, decide_eq_true_iff, hr]
  constructor
  · intro e
    have hc := (busyL_holds (onesL l) fun s hs => (onesL_le l s hs).2).1
    have hb := busy_sp l
    rw [e] at hc hb
    exact ok_can_sp hc hb hl
  · intro h
    rw [ones_ok h]
    exact can_is_busy l (can_of_ok h)
theorem stE_len (es : List (Int × Int)) (hs : ∀ i, i < es.length → -1 ≤ tSh es i ∧ tSh es i ≤ 1) : (runE es).length ≤ es.length := by
  rw [← stE_all]
  exact (stE_bd es hs es.length (Nat.le_refl _)).2.2
theorem busyL_len (l : List (Int × Int)) : (busyL l).length ≤ 2 * l.length := by
  unfold busyL
  have := stE_len (edSort (edgesS 1 l)) (edSort_st _ (edgesS_st 1 (by omega) l))
  rw [edSort_len, edgesS_len] at this
  exact this
theorem onesL_take (l : List (Int × Int)) (k : Nat) (h : k < l.length) : onesL (l.take (k + 1)) = onesL (l.take k) ++ (if spB (tAt l k) (tSh l k) = true then [(tAt l k, tSh l k)] else []) := by
  unfold onesL
  rw [List.take_add_one, List.filter_append, tAt_get l k h]
  congr 1
  simp only [List.getElem?_eq_getElem h, Option.toList_some]
  have e1 : tAt l k = l[k].1 := by rw [← tAt_get l k h]
  have e2 : tSh l k = l[k].2 := by rw [← tAt_get l k h]
  rw [e1, e2]
  cases hq : spB l[k].1 l[k].2 with
  | true => simp [hq]
  | false => simp [hq]
theorem onesL_len (l : List (Int × Int)) (k : Nat) : (onesL (l.take k)).length ≤ k := by
  unfold onesL
  exact Nat.le_trans (List.length_filter_le _ _) (by simp; omega)
end Go.Proofs.Ytkbgbccehijckaa
