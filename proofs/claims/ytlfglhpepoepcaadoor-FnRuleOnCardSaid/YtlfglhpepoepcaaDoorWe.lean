/- A region that draws its order, and whose last operation is a store: the rest is walked under what holds of the cells that it reads, and the store comes behind it. -/
import Derived.Deep.RegionHeldLaw
namespace Go.Proofs.YtlfglhpepoepcaaDoor
set_option linter.unusedVariables false
/-- What is asked behind the rest: that the last operation leads to Q. -/
def Ql (P : Program) (o : Oper) (Q : Exit → Act → World → Prop) : Exit → Act → World → Prop
  | .normal, a, w => o.wp P a w (fun a w => Q .normal a w) Q
  | e, a, w => Q e a w
/-- The last operation waits for all: no guards, each waits for earlier ones alone, and each is waited for. -/
structure LastOk (ops : Array Oper) (o : Oper) : Prop where
  g : o.guard = none
  gs : ∀ (i : Nat) (oi : Oper), ops[i]? = some oi → oi.guard = none
  lt : ∀ (i : Nat) (oi : Oper), ops[i]? = some oi → ∀ e ∈ oi.after, e.on < i
  lo : ∀ e ∈ o.after, e.on < ops.size
  cov : ∀ i, i < ops.size → (∃ e ∈ o.after, Region.binds .any e = true ∧ e.on = i) ∨ (∃ (j : Nat) (oj : Oper), ops[j]? = some oj ∧ ∃ e ∈ oj.after, Region.binds .any e = true ∧ e.on = i)
def lastOk (ops : Array Oper) (o : Oper) : Bool :=
  o.guard.isNone && (List.range ops.size).all (fun i => match ops[i]? with
    | some oi => oi.guard.isNone && oi.after.toList.all (fun e => decide (e.on < i))
    | none => true) && o.after.toList.all (fun e => decide (e.on < ops.size)) &&
  (List.range ops.size).all (fun i => o.after.toList.any (fun e => Region.binds .any e && e.on == i) || (List.range ops.size).any (fun j => match ops[j]? with
    | some oj => oj.after.toList.any (fun e => Region.binds .any e && e.on == i)
    | none => false))
theorem LastOk.of {ops : Array Oper} {o : Oper} (h : lastOk ops o = true) : LastOk ops o := by
  unfold lastOk at h
  simp only [Bool.and_eq_true, List.all_eq_true, List.mem_range] at h
  obtain ⟨⟨⟨h1, h2⟩, h3⟩, h4⟩ := h
  refine ⟨by simpa using h1, fun i oi hi => ?_, fun i oi hi e he => ?_, fun e he => ?_, fun i hi => ?_⟩
  · have q := h2 i (Array.getElem?_eq_some_iff.1 hi).1
    rw [hi] at q
    simp only [Bool.and_eq_true] at q
    simpa using q.1
  · have q := h2 i (Array.getElem?_eq_some_iff.1 hi).1
    rw [hi] at q
    simp only [Bool.and_eq_true, List.all_eq_true, decide_eq_true_eq] at q
    exact q.2 e (by simpa using he)
  · have q := h3 e (by simpa using he)
    simpa using q
  · have q := h4 i hi
    simp only [Bool.or_eq_true, List.any_eq_true, Bool.and_eq_true, List.mem_range, beq_iff_eq] at q
    rcases q with ⟨e, he, hb, hon⟩ | ⟨j, hj, hq⟩
    · exact Or.inl ⟨e, by simpa using he, hb, hon⟩
    · cases hoj : ops[j]? with
      | none => rw [hoj] at hq; cases hq
      | some oj =>
        rw [hoj] at hq
        simp only [List.any_eq_true, Bool.and_eq_true, beq_iff_eq] at hq
        obtain ⟨e, he, hb, hon⟩ := hq
        exact Or.inr ⟨j, oj, hoj, e, by simpa using he, hb, hon⟩
/-- Who has come up, so have those that it waits for. -/
def Closed (ops : Array Oper) (l : Array Bool) : Prop := ∀ (j : Nat) (oj : Oper), ops[j]? = some oj → l.getD j true = true → ∀ e ∈ oj.after, Region.binds .any e = true → l.getD e.on false = true
section
variable {P : Program} {ops : Array Oper} {o : Oper} {Q : Exit → Act → World → Prop} {S : World → Prop}
theorem getD_tf {l : Array Bool} {i : Nat} (h : i < l.size) (x y : Bool) : l.getD i x = l.getD i y := by simp [Array.getD, h]
theorem getD_push_lt {l : Array Bool} {i : Nat} (b x : Bool) (h : i < l.size) : (l.push b).getD i x = l.getD i x := by
  simp [Array.getD, h, Nat.lt_succ_of_lt h, Array.getElem_push_lt]
/-- When the last may come up all have come up. -/
theorem all_listed (hk : LastOk ops o) {l : Array Bool} (hs : l.size = ops.size) (hc : Closed ops l) (ho : ∀ e ∈ o.after, Region.binds .any e = true → l.getD e.on false = true) :
    ∀ k i, i + k = ops.size → i < ops.size → l.getD i true = true := by
  intro k
  induction k using Nat.strongRecOn with
  | _ k ih =>
    intro i hik hi
    rcases hk.cov i hi with ⟨e, he, hb, rfl⟩ | ⟨j, oj, hj, e, he, hb, rfl⟩
    · rw [getD_tf (by omega) true false]; exact ho e he hb
    · have hlt := hk.lt j oj hj e he
      have hjs := (Array.getElem?_eq_some_iff.1 hj).1
      have q := ih (ops.size - j) (by omega) j (by omega) hjs
      rw [getD_tf (by omega) true false]; exact hc j oj hj q e he hb
/-- When none of the rest may come up all have come up. -/
theorem none_ready (hk : LastOk ops o) {l : Array Bool} (hs : l.size = ops.size) (hr : Region.ready .any ops l = []) : ∀ i, i < ops.size → l.getD i true = true := by
  intro i
  induction i using Nat.strongRecOn with
  | _ i ih =>
    intro hi
    cases hq : l.getD i true with
    | true => rfl
    | false =>
      have hm : i ∈ Region.ready .any ops l := mem_ready.2 ⟨hq, ops[i], by simp [hi], fun e he hb => by
        have hlt := hk.lt i ops[i] (by simp [hi]) e he
        rw [getD_tf (by omega) false true]; exact ih e.on hlt (by omega)⟩
      rw [hr] at hm; cases hm
theorem Closed.set {l : Array Bool} {i : Nat} (hs : l.size = ops.size) (hc : Closed ops l) (hi : i ∈ Region.ready .any ops l) : Closed ops (l.setIfInBounds i true) := by
  have mono : ∀ j, l.getD j false = true → (l.setIfInBounds i true).getD j false = true := fun j hj => by
    by_cases hij : i = j
    · subst hij
      have hlt : i < l.size := by rcases Nat.lt_or_ge i l.size with h | h; exact h; simp [Array.getD, Nat.not_lt.2 h] at hj
      simp [Array.getD, hlt]
    · rw [getD_set_ne false hij]; exact hj
  intro j oj hj hl e he hb
  by_cases hij : i = j
  · subst hij
    obtain ⟨_, oi, hoi, hall⟩ := mem_ready.1 hi
    rw [hj] at hoi; cases hoi
    exact mono _ (hall e he hb)
  · rw [getD_set_ne true hij] at hl
    exact mono _ (hc j oj hj hl e he hb)
theorem wpOp_last (hk : LastOk ops o) {i : Nat} {a : Act} {w : World} {K K' : Act → World → Prop} (hi : i < ops.size) (hKK : ∀ a w, K a w → K' a w)
    (h : wpOp P ops (Ql P o Q) i K a w) : wpOp P (ops.push o) Q i K' a w := by
  have e1 : (ops.push o)[i]? = ops[i]? := by rw [Array.getElem?_push]; simp [Nat.ne_of_lt hi]
  have e2 : ops[i]? = some ops[i] := by simp [hi]
  unfold wpOp at *
  rw [e1]
  rw [e2] at h ⊢
  have hg := hk.gs i _ e2
  simp only [Region.wanted, hg, if_true] at h ⊢
  rcases h with h | ⟨h, hl⟩
  · refine Or.inl (Oper.wp_mono hKK ?_)
    unfold Oper.wp at *
    generalize (execOp a.eval ops[i]).run P w = r at *
    cases r with
    | ok n w' => cases n <;> exact h
    | halt x w' => cases x <;> exact h
  · exact Or.inr ⟨h, hl⟩
theorem wpAny_last (hk : LastOk ops o) : ∀ (fuel : Nat) (l : Array Bool) (a : Act) (w : World), l.size = ops.size → Closed ops l → wpAnyH P .any ops (Ql P o Q) S fuel l a w →
    wpAny P .any (ops.push o) Q (fuel + 1) (l.push false) a w := by
  intro fuel
  -- the last comes up: all have come up
  have fin : ∀ (l : Array Bool) (a : Act) (w : World) (f : Nat), l.size = ops.size → (∀ i, i < ops.size → l.getD i true = true) → Ql P o Q .normal a w →
      wpOp P (ops.push o) Q ops.size (wpAny P .any (ops.push o) Q f ((l.push false).setIfInBounds ops.size true)) a w := fun l a w f hs hall hq => by
    have e : (ops.push o)[ops.size]? = some o := by simp
    have hr : Region.ready .any (ops.push o) ((l.push false).setIfInBounds ops.size true) = [] := by
      refine List.eq_nil_iff_forall_not_mem.2 fun i hi => ?_
      obtain ⟨h1, oi, h2, _⟩ := mem_ready.1 hi
      have hlt := (Array.getElem?_eq_some_iff.1 h2).1
      simp only [Array.size_push] at hlt
      by_cases hii : ops.size = i
      · subst hii; simp [Array.getD, hs] at h1
      · rw [getD_set_ne true hii, getD_push_lt _ _ (by omega), hall i (by omega)] at h1; cases h1
    unfold wpOp
    simp only [e, Region.wanted, hk.g, if_true]
    refine Or.inl (Oper.wp_mono (fun a w h => ?_) hq)
    cases f with
    | zero => exact ⟨hr, h⟩
    | succ f => exact ⟨fun _ => h, by rw [hr]; intro i hi; cases hi⟩
  have rdy : ∀ (l : Array Bool), l.size = ops.size → (∀ i, i < ops.size → l.getD i true = true) → ops.size ∈ Region.ready .any (ops.push o) (l.push false) := fun l hs hall =>
    mem_ready.2 ⟨by simp [Array.getD, ← hs], o, by simp, fun e he hb => by
      have := hk.lo e he
      rw [getD_push_lt _ _ (by omega), getD_tf (by omega) false true]; exact hall e.on this⟩
  have part : ∀ (l : Array Bool), l.size = ops.size → Closed ops l → ∀ i, i ∈ Region.ready .any (ops.push o) (l.push false) →
      (i < ops.size ∧ i ∈ Region.ready .any ops l) ∨ (i = ops.size ∧ ∀ i, i < ops.size → l.getD i true = true) := fun l hs hc i hi => by
    obtain ⟨h1, oi, h2, h3⟩ := mem_ready.1 hi
    have hlt := (Array.getElem?_eq_some_iff.1 h2).1
    simp only [Array.size_push] at hlt
    by_cases hii : i < ops.size
    · refine Or.inl ⟨hii, mem_ready.2 ⟨by rw [getD_push_lt _ _ (by omega)] at h1; exact h1, oi, by rw [Array.getElem?_push] at h2; simpa [Nat.ne_of_lt hii] using h2, fun e he hb => ?_⟩⟩
      have h4 : ops[i]? = some oi := by rw [Array.getElem?_push] at h2; simpa [Nat.ne_of_lt hii] using h2
      have := hk.lt i oi h4 e he
      have q := h3 e he hb
      rw [getD_push_lt _ _ (by omega)] at q
      exact q
    · have hie : i = ops.size := by omega
      subst hie
      simp only [Array.getElem?_push_size, Option.some.injEq] at h2
      subst h2
      refine Or.inr ⟨rfl, fun i hi => all_listed hk hs hc (fun e he hb => ?_) (ops.size - i) i (by omega) hi⟩
      have q := h3 e he hb
      have := hk.lo e he
      rw [getD_push_lt _ _ (by omega)] at q
      exact q
  induction fuel with
  | zero =>
    intro l a w hs hc h
    have hall := none_ready hk hs h.1
    refine ⟨fun hr => ?_, fun i hi => ?_⟩
    · have := rdy l hs hall; rw [hr] at this; cases this
    · rcases part l hs hc i hi with ⟨_, hm⟩ | ⟨rfl, _⟩
      · rw [h.1] at hm; cases hm
      · exact fin l a w 0 hs hall h.2
  | succ fuel ih =>
    intro l a w hs hc h
    refine ⟨fun hr => ?_, fun i hi => ?_⟩
    · have hr0 : Region.ready .any ops l = [] := by
        refine List.eq_nil_iff_forall_not_mem.2 fun i hi => ?_
        obtain ⟨h1, oi, h2, h3⟩ := mem_ready.1 hi
        have hlt := (Array.getElem?_eq_some_iff.1 h2).1
        have hm : i ∈ Region.ready .any (ops.push o) (l.push false) := mem_ready.2 ⟨by rw [getD_push_lt _ _ (by omega)]; exact h1, oi, by rw [Array.getElem?_push]; simp [Nat.ne_of_lt hlt, h2], fun e he hb => by
          have := hk.lt i oi h2 e he
          rw [getD_push_lt _ _ (by omega)]; exact h3 e he hb⟩
        rw [hr] at hm; cases hm
      have := rdy l hs (none_ready hk hs hr0); rw [hr] at this; cases this
    · rcases part l hs hc i hi with ⟨hlt, hm⟩ | ⟨rfl, hall⟩
      · have e : (l.push false).setIfInBounds i true = (l.setIfInBounds i true).push false := by
          have hls : i < l.size := by omega
          apply Array.ext_getElem?
          intro j
          by_cases hij : i = j
          · subst hij
            rw [Array.getElem?_setIfInBounds_self, Array.getElem?_push]
            simp [hls, Nat.ne_of_lt hls, Nat.lt_succ_of_lt hls]
          · rw [Array.getElem?_setIfInBounds_ne hij, Array.getElem?_push, Array.getElem?_push, Array.getElem?_setIfInBounds_ne hij, Array.size_setIfInBounds]
        rw [e]
        exact wpOp_last hk hlt (fun a' w' h' => ih (l.setIfInBounds i true) a' w' (by simpa using hs) (hc.set hs hm) h'.2) (h.2 i hm)
      · have hr0 : Region.ready .any ops l = [] := by
          refine List.eq_nil_iff_forall_not_mem.2 fun i hi => ?_
          obtain ⟨h1, oi, h2, h3⟩ := mem_ready.1 hi
          rw [hall i (Array.getElem?_eq_some_iff.1 h2).1] at h1; cases h1
        exact fin l a w (fuel + 1) hs hall (h.1 hr0)
/-- **THE BEGINNING**: the rest under S, and the last operation behind it. -/
theorem region_last {id : Nat} {ops' : Array Oper} {a : Act} {w : World} (ops : Array Oper) (o : Oper) (S : World → Prop) (he : ops' = ops.push o) (hk : lastOk ops o = true)
    (hm : P.follows .mixedOrders = true) (hS : S w.drew) (h : S w.drew → wpAnyH P .any ops (Ql P o Q) S ops.size (Array.replicate ops.size false) a w.drew) : (Code.region id ops' true).wp P Q a w := by
  subst he
  refine wp_region_any hm ?_
  have q := wpAny_last (LastOk.of hk) ops.size (Array.replicate ops.size false) a w.drew (by simp) (fun j oj hj hl => by
    have := (Array.getElem?_eq_some_iff.1 hj).1
    simp [Array.getD, this] at hl) (h hS)
  have e : (Array.replicate ops.size false).push false = Array.replicate (ops.push o).size false := by simp [Array.replicate_succ]
  rw [e] at q
  simpa using q
end
end Go.Proofs.YtlfglhpepoepcaaDoor
