/- The laws of who is busy, in plain numbers. -/
import Derived.Test.YtddjbcggdmeidaaCe
import Derived.Test.YtddjbcggdmeidaaDs
namespace Go.Proofs.Ytddjbcggdmeidaa
set_option linter.unusedVariables false
theorem busy_perm {l m : List (Int × Int)} (h : l.Perm m) : busyL (onesL l) = busyL (onesL m) := by
  have hp : (onesL l).Perm (onesL m) := h.filter _
  obtain ⟨a0, a1⟩ := busyL_holds (onesL l) fun s hs => (onesL_le l s hs).2
  obtain ⟨b0, b1⟩ := busyL_holds (onesL m) fun s hs => (onesL_le m s hs).2
  refine can_uniq _ _ a0 b0 fun t => ?_
  rw [a1, b1]
  exact in_perm hp t
theorem busy_rev (l : List (Int × Int)) : busyL (onesL l.reverse) = busyL (onesL l) := busy_perm (List.reverse_perm l)
theorem busy_bd (l : List (Int × Int)) (h : l.length ≤ 100) : (busyL (onesL l)).length ≤ 200 := by
  have h1 := busyL_len (onesL l)
  have h2 := onesL_len l l.length
  rw [List.take_length] at h2
  omega
theorem busy_ok (l : List (Int × Int)) (h : l.length ≤ 100) : SpOk (busyL (onesL l)) :=
  ok_can_sp (busyL_holds (onesL l) fun s hs => (onesL_le l s hs).2).1 (busy_sp l) (by have := busy_bd l h; omega)
theorem busy_again (l : List (Int × Int)) (h : l.length ≤ 100) : busyL (onesL (busyL (onesL l))) = busyL (onesL l) := by
  rw [ones_ok (busy_ok l h)]
  exact can_is_busy _ (busyL_holds (onesL l) fun s hs => (onesL_le l s hs).2).1
/-- One of the first so many has a time. -/
def someB (l : List (Int × Int)) (t : Int) : Bool := l.any fun s => decide (0 ≤ s.1 ∧ s.1 ≤ t ∧ t < s.2)
theorem someB_take (l : List (Int × Int)) (t : Int) (k : Nat) (h : k < l.length) : someB (l.take (k + 1)) t = (someB (l.take k) t || decide (0 ≤ tAt l k ∧ tAt l k ≤ t ∧ t < tSh l k)) := by
  unfold someB
  rw [List.take_add_one, List.any_append]
  simp only [List.getElem?_eq_getElem h, Option.toList_some, List.any_cons, List.any_nil, Bool.or_false]
  rw [← tAt_get l k h]
theorem busy_in (l : List (Int × Int)) (h : SmS l) (t : Int) : inL (busyL (onesL l)) t = someB l t := by
  rw [Bool.eq_iff_iff, inL_iff, (busyL_holds (onesL l) fun s hs => (onesL_le l s hs).2).2]
  unfold someB In
  rw [List.any_eq_true]
  constructor
  · rintro ⟨s, hs, q⟩
    have hs' := (List.mem_filter.1 hs).1
    have := (sp_iff _ _).1 (onesL_le l s hs).1
    exact ⟨s, hs', decide_eq_true ⟨by omega, q.1, q.2⟩⟩
  · rintro ⟨s, hs, q⟩
    have q := of_decide_eq_true q
    have b := h s hs
    exact ⟨s, List.mem_filter.2 ⟨hs, (sp_iff _ _).2 ⟨by omega, by omega, by omega⟩⟩, q.2⟩
/-- So many minutes, counted one by one. -/
def mins (l : List (Int × Int)) (lo : Int) : Nat → Int
  | 0 => 0
  | n + 1 => mins l lo n + nIn l (lo + n)
theorem mins_mono (a b : List (Int × Int)) (lo : Int) (h : ∀ t, nIn a t ≤ nIn b t) : ∀ n, mins a lo n ≤ mins b lo n := by
  intro n
  induction n with
  | zero => exact Int.le_refl _
  | succ n ih => have := h (lo + n); unfold mins; omega
theorem mins_cons (s : Int × Int) (l : List (Int × Int)) (lo : Int) (hs : lo ≤ s.1 ∧ s.1 ≤ s.2) : ∀ n : Nat, mins (s :: l) lo n = mins l lo n + ((if s.1 ≤ lo + n then lo + n - s.1 else 0) - (if s.2 ≤ lo + n then lo + n - s.2 else 0)) := by
  intro n
  induction n with
  | zero =>
    simp only [mins]
    split <;> split <;> omega
  | succ n ih =>
    unfold mins
    rw [ih, nIn_cons]
    split <;> split <;> split <;> split <;> omega
theorem mins_sum (l : List (Int × Int)) (lo : Int) (n : Nat) (h : ∀ s ∈ l, lo ≤ s.1 ∧ s.1 ≤ s.2 ∧ s.2 ≤ lo + n) : mins l lo n = sumL l := by
  induction l with
  | nil =>
    have : ∀ m : Nat, mins [] lo m = 0 := by
      intro m
      induction m with
      | zero => rfl
      | succ m ih => unfold mins; rw [ih]; rfl
    rw [this]; rfl
  | cons s l ih =>
    have hs := h s (by simp)
    rw [mins_cons s l lo ⟨hs.1, hs.2.1⟩, ih fun u hu => h u (by simp [hu]), if_pos (by omega), if_pos hs.2.2]
    simp only [sumL]; omega
/-- With more spans nobody is free who was busy. -/
theorem sum_mono {a b : List (Int × Int)} (ha : Can a) (hb : Can b) (h : ∀ t, In a t → In b t) (lo : Int) (n : Nat) (wa : ∀ s ∈ a, lo ≤ s.1 ∧ s.2 ≤ lo + n) (wb : ∀ s ∈ b, lo ≤ s.1 ∧ s.2 ≤ lo + n) : sumL a ≤ sumL b := by
  rw [← mins_sum a lo n fun s hs => ⟨(wa s hs).1, Int.le_of_lt (ha.1 s hs), (wa s hs).2⟩, ← mins_sum b lo n fun s hs => ⟨(wb s hs).1, Int.le_of_lt (hb.1 s hs), (wb s hs).2⟩]
  refine mins_mono a b lo (fun t => ?_) n
  have a1 := nIn_pos a t fun s hs => Int.le_of_lt (ha.1 s hs)
  have b1 := nIn_pos b t fun s hs => Int.le_of_lt (hb.1 s hs)
  have a2 := nIn_can a t ha
  by_cases hin : In a t
  · have := b1.2.2 (h t hin); omega
  · have : ¬ 0 < nIn a t := fun q => hin (a1.2.1 q)
    omega
end Go.Proofs.Ytddjbcggdmeidaa
