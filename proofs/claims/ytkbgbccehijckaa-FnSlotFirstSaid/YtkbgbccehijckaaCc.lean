/- The first slot, in plain numbers. -/
import Derived.Test.YtkbgbccehijckaaCb
namespace Go.Proofs.Ytkbgbccehijckaa
set_option linter.unusedVariables false
theorem can_cmp : ∀ (l : List (Int × Int)), Can l → ∀ s ∈ l, ∀ u ∈ l, s = u ∨ s.2 < u.1 ∨ u.2 < s.1 := by
  intro l
  induction l with
  | nil => intro _ s hs; simp at hs
  | cons h t ih =>
    intro hc s hs u hu
    obtain ⟨_, c1, c2⟩ := can_cons.1 hc
    rcases List.mem_cons.1 hs with e | e <;> rcases List.mem_cons.1 hu with f | f
    · exact .inl (e.trans f.symm)
    · subst e; exact .inr (.inl (c1 u f))
    · subst f; exact .inr (.inr (c1 s e))
    · exact ih c2 s e u f
theorem slR_le (n : Int) : ∀ (l : List (Int × Int)), Can l → ∀ s ∈ l, n ≤ s.2 - s.1 → (∃ u ∈ l, slR l n = u.1) ∧ slR l n ≤ s.1 := by
  intro l
  induction l with
  | nil => intro _ s hs; simp at hs
  | cons h t ih =>
    intro hc s hs hn
    obtain ⟨c0, c1, c2⟩ := can_cons.1 hc
    by_cases hh : n ≤ h.2 - h.1
    · rw [slR_head h t n hh]
      refine ⟨⟨h, by simp, rfl⟩, ?_⟩
      rcases List.mem_cons.1 hs with e | e
      · subst e; exact Int.le_refl _
      · have := c1 s e; omega
    · have e : slR (h :: t) n = slR t n := by unfold slR; rw [List.find?_cons_of_neg (by simpa using hh)]
      rw [e]
      rcases List.mem_cons.1 hs with e | e
      · subst e; exact absurd hn hh
      · obtain ⟨⟨u, hu, q⟩, r⟩ := ih c2 s e hn
        exact ⟨⟨u, by simp [hu], q⟩, r⟩
/-- What the law of the first slot asks. -/
theorem slot_first (ss : List (Int × Int)) (x y n : Int) (h : Can ss) (hn : 1 ≤ n) (hx : 0 ≤ x) :
    (0 ≤ slR (freeS ss x y) n → x ≤ slR (freeS ss x y) n ∧ slR (freeS ss x y) n + n ≤ y ∧ ∀ k, slR (freeS ss x y) n ≤ k → k < slR (freeS ss x y) n + n → ¬ In ss k) ∧
    (∀ t, x ≤ t → (0 ≤ slR (freeS ss x y) n → t < slR (freeS ss x y) n) → t + n ≤ y → ¬ ∀ k, t ≤ k → k < t + n → ¬ In ss k) := by
  obtain ⟨fc, fi⟩ := freeS_holds ss x y h
  have fb := free_bd ss x y
  refine ⟨fun h0 => ?_, fun t ht hm hy hall => ?_⟩
  · obtain ⟨u, hu, hl, e⟩ := slR_find (freeS ss x y) n h0
    have ub := fb u hu
    refine ⟨by omega, by omega, fun k k0 k1 => ?_⟩
    exact ((fi k).1 ⟨u, hu, by omega, by omega⟩).2
  · have hin : ∀ k, t ≤ k → k < t + n → In (freeS ss x y) k := fun k k0 k1 => (fi k).2 ⟨⟨by omega, by omega⟩, hall k k0 k1⟩
    obtain ⟨s, hs, s1, s2⟩ := hin t (Int.le_refl _) (by omega)
    have cover : t + n ≤ s.2 := by
      by_cases hc : t + n ≤ s.2
      · exact hc
      · obtain ⟨u, hu, u1, u2⟩ := hin s.2 (by omega) (by omega)
        rcases can_cmp _ fc s hs u hu with e | e | e
        · subst e; omega
        · omega
        · have := fb u hu; omega
    obtain ⟨⟨u, hu, e⟩, le⟩ := slR_le n _ fc s hs (by omega)
    have ub := fb u hu
    have := hm (by omega)
    omega
end Go.Proofs.Ytkbgbccehijckaa
