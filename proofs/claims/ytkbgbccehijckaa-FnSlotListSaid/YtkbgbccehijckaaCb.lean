/- More on what is free, in plain numbers. -/
import Derived.Test.YtkbgbccehijckaaSo
import Derived.Test.YtkbgbccehijckaaEpS
namespace Go.Proofs.Ytkbgbccehijckaa
set_option linter.unusedVariables false
def sumL : List (Int × Int) → Int
  | [] => 0
  | s :: l => (s.2 - s.1) + sumL l
theorem sumL_append (l m : List (Int × Int)) : sumL (l ++ m) = sumL l + sumL m := by
  induction l with
  | nil => simp [sumL]
  | cons s l ih => simp only [List.cons_append, sumL, ih]; omega
theorem szU_take (l : List (Int × Int)) : ∀ k, k ≤ l.length → szU l k = sumL (l.take k) := by
  intro k
  induction k with
  | zero => intro _; simp [szU, sumL]
  | succ k ih =>
    intro hk
    rw [szU, ih (by omega), List.take_add_one, sumL_append]
    have := tAt_get l k (by omega)
    simp only [List.getElem?_eq_getElem (show k < l.length by omega), Option.toList_some, sumL, ← this]
    omega
theorem szU_all (l : List (Int × Int)) : szU l l.length = sumL l := by rw [szU_take l l.length (Nat.le_refl _), List.take_length]
theorem cutS_id (a b : Int) (l : List (Int × Int)) (h : ∀ s ∈ l, a ≤ s.1 ∧ s.1 < s.2 ∧ s.2 ≤ b) : cutS a b l = l := by
  induction l with
  | nil => rfl
  | cons s l ih =>
    have hs := h s (by simp)
    rw [cutS_cons, if_neg (by omega : ¬ s.1 < a), if_neg (by omega : ¬ b < s.2), if_pos hs.2.1, ih fun u hu => h u (by simp [hu])]
    rfl
structure GapSum (a b : Int) (p : List (Int × Int)) (s : List (Int × Int) × Int) : Prop where
  sum : sumL s.1 + sumL p = s.2 - a
  lo : a ≤ s.2
  hi : s.2 ≤ b
  last : s.2 = a ∨ ∃ u ∈ p, s.2 = u.2
  wi : ∀ u ∈ s.1, a ≤ u.1 ∧ u.1 < u.2 ∧ u.2 ≤ b
theorem gapSum_step {a b : Int} {p : List (Int × Int)} {s : List (Int × Int) × Int} {e : Int × Int} (h : GapSum a b p s) (he : a ≤ e.1 ∧ e.1 < e.2 ∧ e.2 ≤ b) (hp : ∀ u ∈ p, u.2 < e.1) : GapSum a b (p ++ [e]) (gapS s e) := by
  obtain ⟨out, at'⟩ := s
  obtain ⟨hs, hlo, hhi, hla, hwi⟩ := h
  simp only at hs hlo hhi hla hwi
  have hae : at' ≤ e.1 := by
    rcases hla with h | ⟨u, hu, h⟩
    · omega
    · have := hp u hu; omega
  unfold gapS
  simp only
  rw [if_pos (by omega : at' < e.2)]
  by_cases h1 : at' < e.1
  · rw [if_pos h1]
    refine ⟨?_, by simp only; omega, by simp only; omega, .inr ⟨e, by simp, rfl⟩, fun u hu => ?_⟩
    · simp only; rw [sumL_append, sumL_append]; simp only [sumL]; omega
    · simp only at hu
      rcases List.mem_append.1 hu with hu | hu
      · exact hwi u hu
      · simp at hu; subst hu; simp only; omega
  · rw [if_neg h1]
    refine ⟨?_, by simp only; omega, by simp only; omega, .inr ⟨e, by simp, rfl⟩, hwi⟩
    simp only; rw [sumL_append]; simp only [sumL]; omega
theorem gapSum_all (a b : Int) : ∀ (q p : List (Int × Int)) (s : List (Int × Int) × Int), GapSum a b p s → Can (p ++ q) → (∀ u ∈ q, a ≤ u.1 ∧ u.1 < u.2 ∧ u.2 ≤ b) → GapSum a b (p ++ q) (q.foldl gapS s) := by
  intro q
  induction q with
  | nil => intro p s h _ _; simpa using h
  | cons e q ih =>
    intro p s h hs hq
    have hs' : Can ((p ++ [e]) ++ q) := by simpa using hs
    have := ih (p ++ [e]) (gapS s e) (gapSum_step h (hq e (by simp)) fun u hu => (List.pairwise_append.1 hs.2).2.2 u hu e (by simp)) hs' (fun u hu => hq u (by simp [hu]))
    simpa using this
/-- What is free and what is not are all. -/
theorem free_sum (l : List (Int × Int)) (a b : Int) (h : Can l) (hw : ∀ u ∈ l, a ≤ u.1 ∧ u.1 < u.2 ∧ u.2 ≤ b) (hab : a ≤ b) : sumL l + sumL (freeS l a b) = b - a := by
  have g := gapSum_all a b l [] ([], a) ⟨by simp [sumL], Int.le_refl _, hab, .inl rfl, fun u hu => by simp at hu⟩ (by simpa using h) hw
  rw [List.nil_append] at g
  unfold freeS
  generalize l.foldl gapS ([], a) = s at g
  obtain ⟨out, at'⟩ := s
  obtain ⟨hs, hlo, hhi, _, hwi⟩ := g
  simp only at hs hlo hhi hwi ⊢
  by_cases hb : at' < b
  · rw [if_pos hb, cutS_id a b _ (fun u hu => by
      rcases List.mem_append.1 hu with hu | hu
      · exact hwi u hu
      · simp at hu; subst hu; simp only; omega), sumL_append]
    simp only [sumL]; omega
  · rw [if_neg hb, List.append_nil, cutS_id a b _ hwi]
    omega
theorem ok_of_can {l : List (Int × Int)} (h : Can l) (hb : ∀ s ∈ l, 0 ≤ s.1 ∧ s.1 < s.2 ∧ s.2 ≤ 5258964959) (hl : l.length ≤ 300) : SpOk l := by
  refine ⟨hl, fun i hi => ⟨?_, fun h0 => ?_⟩⟩
  · have := hb l[i] (List.getElem_mem hi)
    rw [← tAt_get l i hi] at this
    refine (sp_iff _ _).2 ⟨⟨this.1, ?_⟩, this.2.1, ?_⟩
    · have := this.2; simp only at this; omega
    · have := this.2.2; simp only at this; omega
  · have := List.pairwise_iff_getElem.1 h.2 (i - 1) i (by omega) hi (by omega)
    rw [← tAt_get l (i - 1) (by omega), ← tAt_get l i hi] at this
    exact this
theorem free_bd (l : List (Int × Int)) (a b : Int) : ∀ s ∈ freeS l a b, a ≤ s.1 ∧ s.1 < s.2 ∧ s.2 ≤ b := cutS_bd a b _
theorem free_len (l : List (Int × Int)) (a b : Int) : (freeS l a b).length ≤ l.length + 1 := by
  unfold freeS
  rw [← gpE_all]
  have h := gpE_len l a l.length (Nat.le_refl _)
  unfold cutS
  refine Nat.le_trans (List.length_filterMap_le _ _) ?_
  rw [List.length_append]
  split
  · simp only [List.length_cons, List.length_nil]; omega
  · simp only [List.length_nil]; omega
theorem free_in (l : List (Int × Int)) (a b t : Int) (h : Can l) : inL (freeS l a b) t = ((decide (a ≤ t) && decide (t < b)) && !inL l t) := by
  rw [Bool.eq_iff_iff, inL_iff, (freeS_holds l a b h).2, Bool.and_eq_true, Bool.and_eq_true, decide_eq_true_iff, decide_eq_true_iff, Bool.not_eq_true', Bool.eq_false_iff, Ne, inL_iff]
/-- The first of some spans, where all from n on to e are in one of them. -/
theorem first_span (m : List (Int × Int)) (n e : Int) (h : Can m) (hlo : ∀ u ∈ m, n ≤ u.1) (hne : n < e) (hin : ∀ t, n ≤ t → t < e → In m t) : ∃ s l, m = s :: l ∧ s.1 = n ∧ e ≤ s.2 := by
  cases m with
  | nil => exact absurd (hin n (Int.le_refl _) hne) (in_nil _)
  | cons s l =>
    obtain ⟨h0, h1, h2⟩ := can_cons.1 h
    refine ⟨s, l, rfl, ?_, ?_⟩
    · rcases (in_cons _ _ _).1 (hin n (Int.le_refl _) hne) with hh | ⟨u, hu, hh⟩
      · have := hlo s (by simp); omega
      · have := h1 u hu; have := hlo s (by simp); omega
    · by_cases hs : e ≤ s.2
      · exact hs
      · rcases (in_cons _ _ _).1 (hin s.2 (by have := hlo s (by simp); omega) (by omega)) with hh | ⟨u, hu, hh⟩
        · omega
        · have := h1 u hu; omega
theorem slR_find (l : List (Int × Int)) (n : Int) (h : 0 ≤ slR l n) : ∃ s ∈ l, n ≤ s.2 - s.1 ∧ slR l n = s.1 := by
  unfold slR at h ⊢
  cases e : l.find? (fun s => decide (n ≤ s.2 - s.1)) with
  | none => rw [e] at h; simp at h
  | some s => exact ⟨s, List.mem_of_find?_eq_some e, by have := List.find?_some e; simpa using this, rfl⟩
theorem slR_head (s : Int × Int) (l : List (Int × Int)) (n : Int) (h : n ≤ s.2 - s.1) : slR (s :: l) n = s.1 := by
  unfold slR; rw [List.find?_cons_of_pos (by simpa using h)]
theorem slot_less (ss : List (Int × Int)) (a b n long : Int) (h : Can ss) (hl : 1 ≤ long) (hn : slR (freeS ss a b) long = n) (h0 : 0 ≤ n) :
    a ≤ slR (freeS ss a b) 1 ∧ slR (freeS ss a b) 1 ≤ n ∧ slR (freeS ss n b) long = n ∧ a ≤ n ∧ n < b := by
  obtain ⟨u, hu, hlong, hun⟩ := slR_find (freeS ss a b) long (by omega)
  obtain ⟨fc, fi⟩ := freeS_holds ss a b h
  have ub := free_bd ss a b u hu
  have hn2 : u.1 = n := by omega
  refine ⟨?_, ?_, ?_, by omega, by omega⟩
  · cases hf : freeS ss a b with
    | nil => rw [hf] at hu; simp at hu
    | cons s l =>
      have sb := free_bd ss a b s (by rw [hf]; simp)
      rw [slR_head s l 1 (by omega)]; omega
  · cases hf : freeS ss a b with
    | nil => rw [hf] at hu; simp at hu
    | cons s l =>
      have sb := free_bd ss a b s (by rw [hf]; simp)
      rw [slR_head s l 1 (by omega)]
      rw [hf] at hu fc
      obtain ⟨_, c1, _⟩ := can_cons.1 fc
      rcases List.mem_cons.1 hu with e | e
      · subst e; omega
      · have := c1 u e; omega
  · obtain ⟨gc, gi⟩ := freeS_holds ss n b h
    obtain ⟨s, l, hf, e1, e2⟩ := first_span (freeS ss n b) n u.2 gc (fun v hv => (free_bd ss n b v hv).1) (by omega) (fun t t0 t1 => by
      rw [gi]
      refine ⟨⟨t0, by omega⟩, ?_⟩
      exact ((fi t).1 ⟨u, hu, by omega, t1⟩).2)
    rw [hf, slR_head s l long (by omega)]
    exact e1
end Go.Proofs.Ytkbgbccehijckaa
