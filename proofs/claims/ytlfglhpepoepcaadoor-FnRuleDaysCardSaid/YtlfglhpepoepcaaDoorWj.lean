/- What stands in a law of rules: the rule that was drawn, in its own block, and a list of days. -/
import Derived.Test.YtlfglhpepoepcaaDoorWi
import Derived.Test.YtlfglhpepoepcaaDoorWa
import Derived.Test.YtlfglhpepoepcaaDoorEp
import Derived.Test.YtlfglhpepoepcaaDoorLj
namespace Go.Proofs.YtlfglhpepoepcaaDoor
open Go.RowKit
set_option linter.unusedVariables false
structure RR (w : World) (X : Nat) (r : Rl) (m : Rm) (W : World) : Prop where
  c : CF W X (rcs r m)
  any : RAny W r m
  bel : Below w.heap.size w W
theorem RR.on {w W W' : World} {X : Nat} {r : Rl} {m : Rm} (h : RR w X r m W) (hb : Below W.heap.size W W') : RR w X r m W' := ⟨h.c.below hb, h.any.on hb, bstep h.bel hb⟩
structure RW (w : World) (X : Nat) (r : Rl) (m : Rm) (a : Option Addr) (L : List Int) (W : World) : Prop where
  k : RR w X r m W
  l : IsInts W a L
theorem RW.on {w W W' : World} {X : Nat} {r : Rl} {m : Rm} {a : Option Addr} {L : List Int} (h : RW w X r m a L W) (hb : Below W.heap.size W W') : RW w X r m a L W' := ⟨h.k.on hb, h.l.below hb⟩
theorem any_of {w W : World} {B : Nat} {r : Rl} {m : Rm} (h : OL B r m W) (sm : Sml 4 r) (ht : Tab W) : RAny W r m := ⟨by have := sm.1; omega, by have := sm.2.1; omega, by have := sm.2.2.1; omega, by have := sm.2.2.2; omega, h.mem, ht⟩
theorem IsInts.cell {w : World} {a : Option Addr} {l : List Int} (h : IsInts w a l) (hl : 0 < l.length) : ∃ b off, a = some ⟨b, off, none⟩ ∧ b < w.heap.size ∧ ∀ i, i < l.length → w.cell? ⟨b, off + i, none⟩ = some (.int .i64 (gi l i)) := by
  rcases h with h | h
  · rw [h] at hl; simp at hl
  · exact h
theorem may_same {r : Rl} {s t t' : Int} (hs : 0 ≤ s) (ht : t ≤ 3652058) (hd : t - s ≤ 11000) (h : t' ≤ t) : mayB r s t = true ∨ mayB r s t' = false := by
  cases hm : mayB r s t with
  | true => exact .inl rfl
  | false =>
    right
    cases hm' : mayB r s t' with
    | false => rfl
    | true =>
      obtain ⟨a, b, c, d⟩ := may_ok hm'
      have : mayB r s t = true := by
        unfold mayB at hm' ⊢
        simp only [Bool.and_eq_true, decide_eq_true_eq] at hm' ⊢
        exact ⟨hm'.1, hm'.2.1, (in_iff _ _ _).2 ⟨by omega, ht⟩, hd⟩
      rw [hm] at this; cases this
theorem gi_take {l : List Int} {n i : Nat} (h : i < n) (h2 : i < l.length) : gi (l.take n) i = gi l i := by unfold gi; simp [h, h2]
theorem ints_take {w : World} {a : Option Addr} {l : List Int} (h : IsInts w a l) (n : Nat) : IsInts w a (l.take n) := by
  rcases h with h | ⟨b, off, h1, h2, h3⟩
  · left; rw [h]; simp
  · refine .inr ⟨b, off, h1, h2, fun i hi => ?_⟩
    have h4 : i < n ∧ i < l.length := by rw [List.length_take] at hi; omega
    rw [gi_take h4.1 h4.2]; exact h3 i h4.2
theorem pre_eq {l m : List Int} (h : l <+: m) : m.take l.length = l := by
  obtain ⟨k, rfl⟩ := h
  simp
end Go.Proofs.YtlfglhpepoepcaaDoor
