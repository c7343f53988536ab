/- Days of a rule in plain numbers: what is told of them. -/
import Derived.Test.YtlfglhpepoepcaaDoorLf
import Derived.Test.YtlfglhpepoepcaaDoorLj
namespace Go.Proofs.YtlfglhpepoepcaaDoor
open Go.RowKit Go.Shelf
set_option linter.unusedVariables false

theorem asc_ext : ∀ {l m : List Int}, l.Pairwise (· < ·) → m.Pairwise (· < ·) → (∀ x, x ∈ l ↔ x ∈ m) → l = m
  | [], [], _, _, _ => rfl
  | [], b :: m, _, _, h => absurd ((h b).2 (List.mem_cons_self ..)) (by simp)
  | a :: l, [], _, _, h => absurd ((h a).1 (List.mem_cons_self ..)) (by simp)
  | a :: l, b :: m, hl, hm, h => by
    rw [List.pairwise_cons] at hl hm
    have e : a = b := by
      have h1 := (h a).1 (List.mem_cons_self ..)
      have h2 := (h b).2 (List.mem_cons_self ..)
      rcases List.mem_cons.1 h1 with e | h1
      · exact e
      · rcases List.mem_cons.1 h2 with e | h2
        · exact e.symm
        · have := hl.1 b h2; have := hm.1 a h1; omega
    subst e
    congr 1
    refine asc_ext hl.2 hm.2 fun x => ?_
    constructor
    · intro hx
      rcases List.mem_cons.1 ((h x).1 (List.mem_cons_of_mem _ hx)) with e | h'
      · have := hl.1 x hx; omega
      · exact h'
    · intro hx
      rcases List.mem_cons.1 ((h x).2 (List.mem_cons_of_mem _ hx)) with e | h'
      · have := hm.1 x hx; omega
      · exact h'
/-- What of an ascending list is not above a number stands at its beginning. -/
theorem asc_pre {t : Int} : ∀ {l : List Int}, l.Pairwise (· < ·) → l.filter (fun x => decide (x ≤ t)) <+: l
  | [], _ => List.prefix_refl _
  | a :: l, h => by
    rw [List.pairwise_cons] at h
    by_cases ha : a ≤ t
    · rw [List.filter_cons_of_pos (by simpa using ha)]
      obtain ⟨m, hm⟩ := asc_pre (t := t) h.2
      exact ⟨m, by rw [List.cons_append, hm]⟩
    · have e : (a :: l).filter (fun x => decide (x ≤ t)) = [] := by
        rw [List.filter_eq_nil_iff]
        intro x hx
        rcases List.mem_cons.1 hx with rfl | hx
        · simpa using ha
        · have := h.1 x hx; simp; omega
      rw [e]; exact List.nil_prefix
theorem pre_take {a b : List Int} (k : Nat) (h : a <+: b) : a.take k <+: b.take k := by
  obtain ⟨m, rfl⟩ := h
  rw [List.take_append]
  exact ⟨_, rfl⟩
theorem take_le {a : List Int} {j k : Nat} (h : j ≤ k) : a.take j <+: a.take k := by
  have : a.take j = (a.take k).take j := by rw [List.take_take]; congr 1; omega
  rw [this]; exact List.take_prefix _ _

section
variable {r : Rl} {s : Int}
theorem per_mono (hr : ROk r) (h0 : 0 ≤ s) (h1 : s ≤ 3652058) {j k : Nat} (h : j ≤ k) : spanF r s (j * r.ev) ≤ spanF r s (k * r.ev) := by
  have e0 := hr.e0
  rcases Nat.lt_or_eq_of_le h with h | rfl
  · have a := span_next hr h0 h1 (n := j * r.ev) (n' := k * r.ev) (Int.mul_nonneg (by omega) (by omega)) (Int.mul_lt_mul_of_pos_right (by omega) (by omega))
    have b := span_len hr h0 h1 (n := j * r.ev) (Int.mul_nonneg (by omega) (by omega))
    omega
  · exact Int.le_refl _
/-- A day on which something comes, at any time. -/
def dayP (r : Rl) (s x : Int) : Prop := s ≤ x ∧ ∃ k : Nat, x ∈ chJ r s k
theorem comes_iff (hr : ROk r) (h0 : 0 ≤ s) (h1 : s ≤ 3652058) {te x : Int} : x ∈ comes r s te ↔ dayP r s x ∧ x ≤ te := by
  unfold comes XF dayP
  rw [List.mem_filter]
  simp only [decide_eq_true_eq]
  constructor
  · rintro ⟨h, a, b⟩
    unfold AL at h
    rw [List.mem_flatMap] at h
    obtain ⟨j, _, hj⟩ := h
    exact ⟨⟨a, j, hj⟩, b⟩
  · rintro ⟨⟨a, k, hk⟩, b⟩
    refine ⟨?_, a, b⟩
    unfold AL
    rw [List.mem_flatMap]
    refine ⟨k, List.mem_range.2 ?_, hk⟩
    have hc := choice_mem hk
    rcases Nat.lt_or_ge k (perN r s te) with h | h
    · exact h
    · have := per_mono hr h0 h1 h
      have := @perN_out r hr s te h0 h1
      omega
theorem comes_cut (hr : ROk r) (h0 : 0 ≤ s) (h1 : s ≤ 3652058) {t t' : Int} (h : t' ≤ t) : comes r s t' = (comes r s t).filter fun x => decide (x ≤ t') := by
  refine asc_ext (comes_asc hr h0 h1) ((comes_asc hr h0 h1).filter _) fun x => ?_
  rw [List.mem_filter, comes_iff hr h0 h1, comes_iff hr h0 h1]
  simp only [decide_eq_true_eq]
  constructor
  · rintro ⟨a, b⟩; exact ⟨⟨a, by omega⟩, b⟩
  · rintro ⟨⟨a, _⟩, b⟩; exact ⟨a, b⟩
theorem comes_pre (hr : ROk r) (h0 : 0 ≤ s) (h1 : s ≤ 3652058) {t t' : Int} (h : t' ≤ t) : comes r s t' <+: comes r s t := by
  rw [comes_cut hr h0 h1 h]; exact asc_pre (comes_asc hr h0 h1)
theorem lim_mono {t t' : Int} (h : t' ≤ t) : limT r t' ≤ limT r t := by unfold limT; split <;> split <;> omega
theorem days_no {d : Int} (h : mayB r s d = false) : daysL r s d = [] := by unfold daysL; rw [h]; rfl
theorem days_mem {d x : Int} (h : x ∈ daysL r s d) : mayB r s d = true ∧ x ∈ comes r s (limT r d) := by
  cases hm : mayB r s d with
  | false => rw [days_no hm] at h; simp at h
  | true => rw [days_eq hm] at h; exact ⟨rfl, List.mem_of_mem_take h⟩
theorem days_bd {d x : Int} (h : x ∈ daysL r s d) : s ≤ x ∧ x ≤ d ∧ (0 < r.un → x ≤ r.un) ∧ 0 ≤ x ∧ x ≤ 3652058 := by
  obtain ⟨hm, hc⟩ := days_mem h
  obtain ⟨hru, ⟨s0, s1⟩, ⟨d0, d1⟩, _⟩ := may_ok hm
  have := comes_mem hc
  have l := lim_le r d
  refine ⟨this.1, by omega, fun hu => ?_, by omega, by omega⟩
  have h2 := this.2
  unfold limT at h2
  split at h2 <;> omega
theorem days_asc (d : Int) : (daysL r s d).Pairwise (· < ·) := by
  cases hm : mayB r s d with
  | false => rw [days_no hm]; exact List.Pairwise.nil
  | true =>
    obtain ⟨hru, ⟨s0, s1⟩, _⟩ := may_ok hm
    rw [days_eq hm]
    exact (comes_asc (ru_ok hru).1 s0 s1).sublist (List.take_sublist _ _)
theorem days_ct {d : Int} (h : 0 < r.ct) : ((daysL r s d).length : Int) ≤ r.ct := by
  cases hm : mayB r s d with
  | false => rw [days_no hm]; simp; omega
  | true =>
    rw [days_eq hm, List.length_take]
    unfold mostT
    split <;> omega
theorem days_pre {t t' : Int} (hm : mayB r s t = true ∨ mayB r s t' = false) (h : t' ≤ t) : daysL r s t' <+: daysL r s t := by
  cases hm' : mayB r s t' with
  | false => rw [days_no hm']; exact List.nil_prefix
  | true =>
    have hm : mayB r s t = true := by rcases hm with h | h; exact h; rw [hm'] at h; cases h
    obtain ⟨hru, ⟨s0, s1⟩, _⟩ := may_ok hm
    rw [days_eq hm, days_eq hm']
    exact pre_take _ (comes_pre (ru_ok hru).1 s0 s1 (lim_mono h))
theorem days_gi_lt {d : Int} {i : Nat} (h : i + 1 < (daysL r s d).length) : gi (daysL r s d) i < gi (daysL r s d) (i + 1) := by
  rw [gi_get (by omega), gi_get h]
  exact List.pairwise_iff_getElem.1 (days_asc d) i (i + 1) (by omega) h (by omega)
theorem on_iff {d : Int} : onB r s d = true ↔ mayB r s d = true ∧ d ∈ (comes r s (limT r d)).take (mostT r 20000).toNat := by
  unfold onB
  cases hm : mayB r s d with
  | false => simp
  | true => rw [Bool.true_and, on_eq hm]; unfold hasI; simp
theorem most_le : (mostT r 200).toNat ≤ (mostT r 20000).toNat := by unfold mostT; split <;> split <;> omega
theorem days_on {d : Int} (h : d ∈ daysL r s d) : onB r s d = true := by
  obtain ⟨hm, _⟩ := days_mem h
  rw [days_eq hm] at h
  exact on_iff.2 ⟨hm, (take_le most_le).subset h⟩
theorem on_days {d : Int} (h : onB r s d = true) : d ∈ daysL r s d ∨ (daysL r s d).length = 200 := by
  obtain ⟨hm, hc⟩ := on_iff.1 h
  have hru := (ru_ok (may_ok hm).1).1
  have c0 := hru.c0
  rw [days_eq hm]
  by_cases hl : ((comes r s (limT r d)).take (mostT r 200).toNat).length = 200
  · exact .inr hl
  · refine .inl ?_
    rw [List.length_take] at hl
    by_cases hct : 0 < r.ct ∧ r.ct < 200
    · have e : mostT r 200 = mostT r 20000 := by unfold mostT; rw [if_pos hct, if_pos (by omega)]
      rw [e]; exact hc
    · have e : mostT r 200 = 200 := by unfold mostT; rw [if_neg hct]
      rw [e] at hl ⊢
      rw [List.take_of_length_le (by omega)]
      exact List.mem_of_mem_take hc
theorem fit_of_ch {k : Nat} {x : Int} (h : x ∈ chJ r s k) : fitB r s x = true := by
  unfold chJ choice at h
  have : x ∈ fitL r s (spanF r s (k * r.ev)) (spanL r s (k * r.ev) + 1) := by
    split at h
    · exact h
    · exact plL_mem (Nat.le_refl _) h
  unfold fitL at this
  have := (List.mem_filter.1 this).2
  simp at this
  exact this.2
theorem fit_parts {x : Int} (h : fitB r s x = true) : (r.mo.length = 0 ∨ mOf x ∈ r.mo) ∧ (r.da.length = 0 ∨ dOf x ∈ r.da ∨ dOf x - dim (yOf x) (mOf x) - 1 ∈ r.da) ∧ (r.ds.length = 0 ∨ dfB r x = true) ∧ (0 < r.ds.length ∨ 0 < r.da.length ∨ ownB r s x = true) := by
  unfold fitB dtB hasI at h
  simp only [Bool.and_eq_true, Bool.or_eq_true, decide_eq_true_eq] at h
  obtain ⟨a, b, c, d⟩ := h
  exact ⟨a, b, c, by rcases d with (d | d) | d <;> simp [d]⟩
theorem on_fit {d : Int} (h : onB r s d = true) : mayB r s d = true ∧ s ≤ d ∧ fitB r s d = true := by
  obtain ⟨hm, hc⟩ := on_iff.1 h
  obtain ⟨hru, ⟨s0, s1⟩, _⟩ := may_ok hm
  obtain ⟨⟨a, k, hk⟩, _⟩ := (comes_iff (ru_ok hru).1 s0 s1).1 (List.mem_of_mem_take hc)
  exact ⟨hm, a, fit_of_ch hk⟩
/-- The next day is one of the rule's, and none between is. -/
theorem next_facts {d : Int} (h : 0 ≤ nextV r s d) : d ≤ nextV r s d ∧ s ≤ nextV r s d ∧ nextV r s d ≤ d + 366 ∧ onB r s (nextV r s d) = true ∧ ∀ k, d ≤ k → k < nextV r s d → onB r s k = false := by
  cases hm : mayB r s d with
  | false => unfold nextV at h; rw [hm] at h; simp at h
  | true =>
    obtain ⟨hru, ⟨s0, s1⟩, ⟨d0, d1⟩, hd⟩ := may_ok hm
    have hr := (ru_ok hru).1
    have u0 := hr.u0; have u1 := hr.u1
    have e := next_eq hm
    have hl := lim_le r (nxT s d)
    have hnx : nxT s d ≤ d + 366 ∧ nxT s d ≤ s + 11000 ∧ nxT s d ≤ 3652058 := by unfold nxT; omega
    obtain ⟨M, hM⟩ : ∃ M, M = nxM r s d := ⟨_, rfl⟩
    rw [← hM] at e
    have asc : M.Pairwise (· < ·) := by rw [hM]; exact (comes_asc hr s0 s1).sublist (List.take_sublist _ _)
    have gasc : (geL d M).Pairwise (· < ·) := asc.filter _
    cases hg : geL d M with
    | nil => rw [hg] at e; unfold firstT at e; simp at e; omega
    | cons y t =>
      have hy : y ∈ geL d M := by rw [hg]; exact List.mem_cons_self ..
      have e2 : nextV r s d = y := by rw [e, hg]; rfl
      have hy2 : y ∈ M ∧ d ≤ y := by unfold geL at hy; rw [List.mem_filter] at hy; simpa using hy
      have hy3 : y ∈ comes r s (limT r (nxT s d)) := by have := hy2.1; rw [hM] at this; exact List.mem_of_mem_take this
      have hy4 := comes_mem hy3
      rw [e2]
      refine ⟨hy2.2, hy4.1, by omega, ?_, ?_⟩
      · refine on_iff.2 ⟨?_, ?_⟩
        · unfold mayB; rw [hru, (in_iff _ _ _).2 ⟨s0, s1⟩, (in_iff _ _ _).2 (show 0 ≤ y ∧ y ≤ 3652058 by omega)]; simp; omega
        · have hly : y ≤ limT r y := by
            have := hy4.2
            unfold limT at this ⊢
            split <;> split at this <;> omega
          have pre : comes r s (limT r y) <+: comes r s (limT r (nxT s d)) := comes_pre hr s0 s1 (lim_mono (by omega))
          have hin : y ∈ comes r s (limT r y) := (comes_iff hr s0 s1).2 ⟨((comes_iff hr s0 s1).1 hy3).1, hly⟩
          have hMy := hy2.1
          rw [hM] at hMy
          unfold nxM at hMy
          obtain ⟨i, hi, ei⟩ := List.getElem_of_mem hMy
          have hiK : i < (mostT r 20000).toNat ∧ i < (comes r s (limT r (nxT s d))).length := by have q := hi; rw [List.length_take] at q; omega
          obtain ⟨j, hj, ej⟩ := List.getElem_of_mem hin
          obtain ⟨Z, hZ⟩ := pre
          have hcasc : (comes r s (limT r (nxT s d))).Pairwise (· < ·) := comes_asc hr s0 s1
          rw [List.getElem_take] at ei
          have hjl : j < (comes r s (limT r (nxT s d))).length := by rw [← hZ, List.length_append]; omega
          have ej2 : (comes r s (limT r (nxT s d)))[j] = y := by
            rw [← ej]; simp only [← hZ]; rw [List.getElem_append_left hj]
          have hij : i = j := by
            rcases Nat.lt_trichotomy i j with h' | h' | h'
            · have := List.pairwise_iff_getElem.1 hcasc i j (by omega) hjl h'; omega
            · exact h'
            · have := List.pairwise_iff_getElem.1 hcasc j i hjl (by omega) h'; omega
          subst hij
          have h7 := hiK.1
          have h8 : i < min (mostT r 20000).toNat (comes r s (limT r y)).length := by omega
          have h9 : (comes r s (limT r y))[i] ∈ (comes r s (limT r y)).take (mostT r 20000).toNat := List.mem_take_iff_getElem.2 ⟨i, h8, rfl⟩
          rw [ej] at h9
          exact h9
      · intro k hk1 hk2
        cases ho : onB r s k with
        | false => rfl
        | true =>
          exfalso
          obtain ⟨hmk, hck⟩ := on_iff.1 ho
          have hkM : k ∈ M := by
            rw [hM]
            exact (pre_take _ (comes_pre hr s0 s1 (lim_mono (r := r) (t := nxT s d) (t' := k) (by omega)))).subset hck
          have hkg : k ∈ geL d M := by unfold geL; rw [List.mem_filter]; exact ⟨hkM, by simpa using hk1⟩
          rw [hg] at hkg
          rw [hg, List.pairwise_cons] at gasc
          rcases List.mem_cons.1 hkg with rfl | h'
          · omega
          · have := gasc.1 k h'; omega
end
end Go.Proofs.YtlfglhpepoepcaaDoor
