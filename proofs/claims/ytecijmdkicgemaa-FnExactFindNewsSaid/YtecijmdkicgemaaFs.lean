/- The order of what is found: the program's. -/
import Derived.Test.YtecijmdkicgemaaFq
import Derived.Test.YtecijmdkicgemaaShg
import Derived.Deep.DeepCutAuto
import Derived.Deep.MidRow
import Derived.Deep.CutBlock
namespace Go.Proofs.Ytecijmdkicgemaa
open Go.RowKit
set_option linter.unusedVariables false
theorem cmp_less : ∀ x y : List UInt8, (Lib.compareBytes x y < 0) ↔ Op.bytesLess x y = true
  | [], [] => by simp [Lib.compareBytes, Op.bytesLess]
  | _ :: _, [] => by simp [Lib.compareBytes, Op.bytesLess]
  | [], _ :: _ => by simp [Lib.compareBytes, Op.bytesLess]
  | a :: x, b :: y => by
    have ih := cmp_less x y
    unfold Lib.compareBytes Op.bytesLess
    by_cases h1 : a < b
    · simp [h1]
    · by_cases h2 : b < a
      · have : ¬ a = b := fun e => by subst e; exact h1 h2
        simp [h1, h2, this]
      · have h3 : a.toNat = b.toNat := by
          have q1 : ¬ a.toNat < b.toNat := h1
          have q2 : ¬ b.toNat < a.toNat := h2
          omega
        have : a = b := UInt8.toNat_inj.1 h3
        subst this
        simp [h1, ih]
theorem cmp_zero : ∀ x y : List UInt8, Lib.compareBytes x y = 0 → x = y
  | [], [] => fun _ => rfl
  | _ :: _, [] => by simp [Lib.compareBytes]
  | [], _ :: _ => by simp [Lib.compareBytes]
  | a :: x, b :: y => fun h => by
    unfold Lib.compareBytes at h
    by_cases h1 : a < b
    · simp [h1] at h
    · by_cases h2 : b < a
      · simp [h1, h2] at h
      · have h3 : a.toNat = b.toNat := by
          have q1 : ¬ a.toNat < b.toNat := h1
          have q2 : ¬ b.toNat < a.toNat := h2
          omega
        have : a = b := UInt8.toNat_inj.1 h3
        subst this
        simp [h1] at h
        rw [cmp_zero x y h]
theorem cmp_flip : ∀ x y : List UInt8, Lib.compareBytes y x = - Lib.compareBytes x y
  | [], [] => by simp [Lib.compareBytes]
  | _ :: _, [] => by simp [Lib.compareBytes]
  | [], _ :: _ => by simp [Lib.compareBytes]
  | a :: x, b :: y => by
    have ih := cmp_flip x y
    unfold Lib.compareBytes
    by_cases h1 : a < b
    · have h2 : ¬ b < a := fun q => by
        have q1 : a.toNat < b.toNat := h1
        have q2 : b.toNat < a.toNat := q
        omega
      simp [h1, h2]
    · by_cases h2 : b < a
      · simp [h1, h2]
      · simp [h1, h2, ih]
theorem cmp_bd : ∀ x y : List UInt8, -1 ≤ Lib.compareBytes x y ∧ Lib.compareBytes x y ≤ 1
  | [], [] => by simp [Lib.compareBytes]
  | _ :: _, [] => by simp [Lib.compareBytes]
  | [], _ :: _ => by simp [Lib.compareBytes]
  | a :: x, b :: y => by
    have ih := cmp_bd x y
    unfold Lib.compareBytes
    split
    · omega
    · split
      · omega
      · exact ih
def cI (x y : Int) : Int := if x < y then -1 else if y < x then 1 else 0
def cS (x y : ByteArray) : Int := Lib.compareBytes x.data.toList y.data.toList
def orI (x y : Int) : Int := if x = 0 then y else x
def ordI (p q : FO) : Int := orI (cI p.2 q.2) (cS p.1 q.1)
theorem ord_of_ahead {p q : FO} (h : aheadB p q = true) : ¬ ordI q p < 0 := by
  unfold aheadB at h
  unfold ordI orI cI cS
  rw [Bool.or_eq_true, decide_eq_true_eq, Bool.and_eq_true, beq_iff_eq, Lib.toList_data, Lib.toList_data, ← cmp_less] at h
  rcases h with h | ⟨h1, h2⟩
  · rw [if_neg (show ¬ q.2 < p.2 by omega), if_pos h]; simp
  · rw [if_neg (show ¬ q.2 < p.2 by omega), if_neg (show ¬ p.2 < q.2 by omega), if_pos rfl, cmp_flip]; omega
theorem ahead_of_ord {p q : FO} (h : ¬ ordI q p < 0) (hd : sameS p.1 q.1 = false) : aheadB p q = true := by
  unfold aheadB
  rw [Bool.or_eq_true, decide_eq_true_eq, Bool.and_eq_true, beq_iff_eq, Lib.toList_data, Lib.toList_data, ← cmp_less]
  unfold ordI orI cI cS at h
  rcases Int.lt_trichotomy p.2 q.2 with h1 | h1 | h1
  · exact .inl h1
  · refine .inr ⟨h1, ?_⟩
    rw [if_neg (show ¬ q.2 < p.2 by omega), if_neg (show ¬ p.2 < q.2 by omega), if_pos rfl, cmp_flip] at h
    have hz : Lib.compareBytes p.1.data.toList q.1.data.toList ≠ 0 := fun e => by
      have := cmp_zero _ _ e
      unfold sameS at hd
      rw [Lib.toList_data, Lib.toList_data, this] at hd
      simp at hd
    omega
  · rw [if_pos h1] at h; simp at h
theorem ok_of {l : List FO} (h1 : l.length ≤ 12) (h2 : ∀ i, i < l.length → nmB (fS l i) = true) (h3 : ∀ i, i + 1 < l.length → ¬ ordI (fo l (i + 1)) (fo l i) < 0) (h4 : ∀ i k, k < i → i < l.length → sameS (fS l k) (fS l i) = false) : FOk l :=
  ⟨h1, h2, fun i hi => ahead_of_ord (h3 i hi) (h4 (i + 1) i (by omega) hi), h4⟩
/-- The first place from j on, of so many, at which something holds; -1 if at none. -/
def pixF (p : Nat → Bool) : Nat → Nat → Int
  | 0, _ => -1
  | k + 1, j => if p j = true then (j : Int) else pixF p k (j + 1)
theorem pixF_no (p : Nat → Bool) : ∀ k j, (∀ i, j ≤ i → i < j + k → p i = false) → pixF p k j = -1
  | 0, _, _ => rfl
  | k + 1, j, h => by
    unfold pixF
    rw [if_neg (by rw [h j (by omega) (by omega)]; exact Bool.false_ne_true)]
    exact pixF_no p k (j + 1) fun i h1 h2 => h i (by omega) (by omega)
theorem pixF_at (p : Nat → Bool) : ∀ k j m, j ≤ m → m < j + k → (∀ i, j ≤ i → i < m → p i = false) → p m = true → pixF p k j = (m : Int)
  | 0, j, m, h1, h2, _, _ => by omega
  | k + 1, j, m, h1, h2, h3, h4 => by
    unfold pixF
    by_cases e : j = m
    · subst e; rw [if_pos h4]
    · rw [if_neg (by rw [h3 j (by omega) (by omega)]; exact Bool.false_ne_true)]
      exact pixF_at p k (j + 1) m (by omega) (by omega) (fun i a b => h3 i (by omega) b) h4
def plI (l : List FO) (n : Nat) (id : ByteArray) : Int := pixF (fun j => sameS (fS l j) id) n 0
theorem pl_no {l : List FO} {n : Nat} {id : ByteArray} (h : ∀ j, j < n → sameS (fS l j) id = false) : plI l n id = -1 := pixF_no _ _ _ fun i _ hi => h i (by omega)
theorem pl_at {l : List FO} {n m : Nat} {id : ByteArray} (hm : m < n) (h : ∀ j, j < m → sameS (fS l j) id = false) (h2 : sameS (fS l m) id = true) : plI l n id = (m : Int) := pixF_at _ _ _ _ (by omega) (by omega) (fun i _ hi => h i hi) h2
theorem implNaN (x : Int) (w : World) : Calls Try.prog 97 #[.int .i64 x] w fun e w' => e = .returned (.bool false) ∧ w' = w := by
  go_enter Try.func97, Try.ntmps97
  go_wp2
  go_ret
  exact ⟨rfl, rfl⟩
theorem implCmp (x y : Int) (w : World) : Calls Try.prog 85 #[.int .i64 x, .int .i64 y] w fun e w' => e = .returned (.int .i64 (cI x y)) ∧ w' = w := by
  by_cases h1 : x < y
  · have HV : Hid (cI x y = -1) := by unfold Hid cI; rw [if_pos h1]
    go_enter Try.func85, Try.ntmps85
    go_wp2_with (first | (go_at_call 97; refine (implNaN _ _).mono ?_; rintro e w' ⟨rfl, rfl⟩))
    go_ret
    exact ⟨ret_i HV.out.symm, rfl⟩
  · by_cases h2 : y < x
    · have HV : Hid (cI x y = 1) := by unfold Hid cI; rw [if_neg h1, if_pos h2]
      go_enter Try.func85, Try.ntmps85
      go_wp2_with (first | (go_at_call 97; refine (implNaN _ _).mono ?_; rintro e w' ⟨rfl, rfl⟩))
      go_ret
      exact ⟨ret_i HV.out.symm, rfl⟩
    · have HV : Hid (cI x y = 0) := by unfold Hid cI; rw [if_neg h1, if_neg h2]
      go_enter Try.func85, Try.ntmps85
      go_wp2_with (first | (go_at_call 97; refine (implNaN _ _).mono ?_; rintro e w' ⟨rfl, rfl⟩))
      go_ret
      exact ⟨ret_i HV.out.symm, rfl⟩
set_option maxHeartbeats 4000000 in
theorem implOr (g : Nat) (x y : Int) (w : World) (h0 : w.cell? ⟨g, 0, none⟩ = some (.int .i64 x)) (h1 : w.cell? ⟨g, 1, none⟩ = some (.int .i64 y)) :
    Calls Try.prog 84 #[.slice (some ⟨g, 0, none⟩) 2 2] w fun e w' => e = .returned (.int .i64 (orI x y)) ∧ w' = w := by
  have H0 : Hid (w.cell? ⟨g, 0, none⟩ = some (.int .i64 x)) := h0
  have H1 : Hid (w.cell? ⟨g, 1, none⟩ = some (.int .i64 y)) := h1
  clear h0 h1
  go_enter Try.func84, Try.ntmps84
  go_wp2
  go_loopw [5, 8] (fun _ i wr => ∃ k : Nat, k ≤ 2 ∧ i = .int .i64 k ∧ (1 ≤ k → x = 0) ∧ (2 ≤ k → y = 0) ∧ wr = w) (fun _ i _ => 2 - (intOf i).toNat)
  case atStart => exact ⟨0, by omega, rfl, fun h => by omega, fun h => by omega, rfl⟩
  case round =>
    obtain ⟨k, hk, rfl, hx, hy, rfl⟩ := hrel
    by_cases e0 : k = 0
    · subst e0
      have c0 := H0.out
      by_cases hz : x = 0
      · subst hz
        go_wp2
        go_roundw
        case rel => exact ⟨1, by omega, by go_num, fun _ => trivial, fun h => by omega, trivial⟩
        case measure => simp [intOf]
      · have hz1 : (x == 0) = false := beq_eq_false_iff_ne.2 hz
        have HV : Hid (orI x y = x) := if_neg hz
        go_wp2
        go_ret
        exact ⟨ret_i HV.out.symm, rfl⟩
    · by_cases e1 : k = 1
      · subst e1
        have c1 := H1.out
        have hx0 := hx (by omega)
        have HV : Hid (orI x y = y) := if_pos hx0
        by_cases hz : y = 0
        · have HZ : Hid (y = 0) := hz
          have HX : Hid (x = 0) := hx0
          subst hz
          clear hx hy hx0
          go_wp2
          go_roundw
          case rel => exact ⟨2, by omega, by go_num, fun _ => HX.out, fun _ => trivial, trivial⟩
          case measure => simp [intOf]
        · have hz1 : (y == 0) = false := beq_eq_false_iff_ne.2 hz
          clear hx hy hx0
          go_wp2
          go_ret
          exact ⟨ret_i HV.out.symm, rfl⟩
      · have hk2 : k = 2 := by omega
        subst hk2
        have HV : Hid (orI x y = 0) := by unfold Hid orI; rw [if_pos (hx (by omega)), hy (by omega)]
        clear hx hy
        go_wp2
        go_ret
        exact ⟨ret_i HV.out.symm, rfl⟩
end Go.Proofs.Ytecijmdkicgemaa
