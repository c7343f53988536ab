/- Figures in texts. -/
import Derived.Test.YtbbbmdidmnhpmaaDoorNm
namespace Go.Proofs.YtbbbmdidmnhpmaaDoor
open Go.RowKit
set_option linter.unusedVariables false

/-- A text's byte. -/
def bt (s : ByteArray) (i : Nat) : Int := if h : i < s.size then (s[i].toNat : Int) else 0
theorem bt_get {s : ByteArray} {i : Nat} (h : i < s.size) : bt s i = (s[i].toNat : Int) := by unfold bt; rw [dif_pos h]
theorem bt_in (s : ByteArray) (i : Nat) : 0 ≤ bt s i ∧ bt s i ≤ 255 := by
  unfold bt
  split
  · rename_i h; have := s[i].toNat_lt; omega
  · omega
def dg (c : Int) : Bool := decide (48 ≤ c ∧ c ≤ 57)
theorem dg_iff (c : Int) : dg c = true ↔ 48 ≤ c ∧ c ≤ 57 := by unfold dg; exact decide_eq_true_iff
theorem dg_not (c : Int) : dg c = false ↔ ¬ (48 ≤ c ∧ c ≤ 57) := by unfold dg; exact decide_eq_false_iff_not
/-- The number that so many first bytes are. -/
def fv (s : ByteArray) : Nat → Int
  | 0 => 0
  | k + 1 => fv s k * 10 + (bt s k - 48)
def dgA (s : ByteArray) : Bool := decide (∀ i : Nat, (h : i < s.size) → dg (bt s i) = true)
theorem dgA_iff (s : ByteArray) : dgA s = true ↔ ∀ i : Nat, i < s.size → dg (bt s i) = true := by unfold dgA; exact decide_eq_true_iff
/-- What figures are; -1 if one is none. -/
def fg (s : ByteArray) : Int := if dgA s = true then fv s s.size else -1
theorem fg_no {s : ByteArray} {i : Nat} (h : i < s.size) (hd : dg (bt s i) = false) : fg s = -1 := by
  unfold fg
  rw [if_neg]
  intro ha
  have := (dgA_iff s).1 ha i h
  rw [hd] at this; cases this
theorem fg_yes {s : ByteArray} (ha : ∀ i, i < s.size → dg (bt s i) = true) : fg s = fv s s.size := by
  unfold fg; rw [if_pos ((dgA_iff s).2 ha)]
theorem fv_in (s : ByteArray) (k : Nat) (ha : ∀ i, i < k → dg (bt s i) = true) : 0 ≤ fv s k ∧ fv s k < 10 ^ k := by
  induction k with
  | zero => simp [fv]
  | succ k ih =>
    have h := ih (fun i hi => ha i (by omega))
    have d := (dg_iff _).1 (ha k (by omega))
    have p : (10 : Int) ^ (k + 1) = 10 ^ k * 10 := by rw [Int.pow_succ]
    rw [p]
    simp only [fv]
    omega
theorem ten_le {k : Nat} (h : k ≤ 9) : (10 : Int) ^ k ≤ 1000000000 := by
  have : k = 0 ∨ k = 1 ∨ k = 2 ∨ k = 3 ∨ k = 4 ∨ k = 5 ∨ k = 6 ∨ k = 7 ∨ k = 8 ∨ k = 9 := by omega
  rcases this with h | h | h | h | h | h | h | h | h | h <;> subst h <;> decide
theorem fv_le {s : ByteArray} {k : Nat} (h : k ≤ 9) (ha : ∀ i, i < k → dg (bt s i) = true) : 0 ≤ fv s k ∧ fv s k < 1000000000 := by
  have := fv_in s k ha
  have := ten_le h
  omega
theorem fg_in {s : ByteArray} (h : s.size ≤ 9) : -1 ≤ fg s ∧ fg s < 1000000000 := by
  unfold fg
  split
  · rename_i hd
    have := fv_le h (fun i hi => (dgA_iff s).1 hd i hi)
    omega
  · omega
set_option maxHeartbeats 4000000 in
theorem implFigures (s : ByteArray) (w : World) (hs : s.size ≤ 9) :
    Calls Tryd.prog 29 #[.string s] w fun e w' => e = .returned (.int .i64 (fg s)) ∧ w' = w := by
  go_enter Tryd.func29, Tryd.ntmps29
  go_wp2
  go_loop [3, 4, 7] (fun n _ i => ∃ k : Nat, k ≤ s.size ∧ i = .int .i64 k ∧ n = .int .i64 (fv s k) ∧ ∀ j, j < k → dg (bt s j) = true) (fun _ _ i => s.size - (intOf i).toNat)
  case atStart => exact ⟨0, by omega, rfl, rfl, fun j h => by omega⟩
  case round =>
    obtain ⟨k, hk, rfl, rfl, ha⟩ := hrel
    have HA : Hid (∀ j, j < k → dg (bt s j) = true) := ha
    obtain ⟨v0, v1⟩ := fv_le (by omega) ha
    clear ha
    by_cases hlt : k < s.size
    · have hb : s[k].toNat ≤ 255 := by have := s[k].toNat_lt; omega
      have HBT : Hid (bt s k = (s[k].toNat : Int)) := bt_get hlt
      cases hc : dg (bt s k) with
      | true =>
        have hd := (dg_iff _).1 hc
        rw [HBT.out] at hd
        obtain ⟨d0, d1⟩ := hd
        have FIN : Hid (∀ j, j < k + 1 → dg (bt s j) = true) := fun j hj => by
          by_cases e : j = k
          · subst e; exact hc
          · exact HA.out j (by omega)
        have FV : Hid (fv s (k + 1) = fv s k * 10 + ((s[k].toNat : Int) - 48)) := by unfold Hid; simp only [fv]; rw [HBT.out]
        have n0 : ¬ ((s[k].toNat : Int) < 48) := by omega
        have n1 : ¬ (57 < (s[k].toNat : Int)) := by omega
        clear hc
        go_wp2
        go_round
        case rel => exact ⟨k + 1, by omega, by go_num, by rw [FV.out], FIN.out⟩
        case measure => simp [intOf]; omega
      | false =>
        have HN : Hid (fg s = -1) := fg_no hlt hc
        have hd := (dg_not _).1 hc
        rw [HBT.out] at hd
        clear hc
        by_cases n0 : (s[k].toNat : Int) < 48
        · go_wp2
          go_ret
          exact ⟨ret_i HN.out.symm, rfl⟩
        · have n1 : 57 < (s[k].toNat : Int) := by omega
          go_wp2
          go_ret
          exact ⟨ret_i HN.out.symm, rfl⟩
    · have hkk : k = s.size := by omega
      subst hkk
      have HN : Hid (fg s = fv s s.size) := fg_yes HA.out
      go_wp2
      go_ret
      exact ⟨ret_i HN.out.symm, rfl⟩
set_option maxHeartbeats 4000000 in
theorem specNum (s : ByteArray) (w : World) (hs1 : 1 ≤ s.size) (hs : s.size ≤ 9) :
    Calls Tryd.prog 39 #[.string s] w fun e w' => e = .returned (.int .i64 (fg s)) ∧ w' = w := by
  go_enter Tryd.func39, Tryd.ntmps39
  go_wp2
  go_loop [3, 4] (fun n i => ∃ k : Nat, k ≤ s.size ∧ i = .int .i64 k ∧ n = .int .i64 (fv s k) ∧ ∀ j, j < k → dg (bt s j) = true) (fun _ i => s.size - (intOf i).toNat)
  case atStart => exact ⟨0, by omega, rfl, rfl, fun j h => by omega⟩
  case round =>
    obtain ⟨k, hk, rfl, rfl, ha⟩ := hrel
    have HA : Hid (∀ j, j < k → dg (bt s j) = true) := ha
    obtain ⟨v0, v1⟩ := fv_le (by omega) ha
    clear ha
    by_cases hlt : k < s.size
    · have hb : s[k].toNat ≤ 255 := by have := s[k].toNat_lt; omega
      have HBT : Hid (bt s k = (s[k].toNat : Int)) := bt_get hlt
      cases hc : dg (bt s k) with
      | true =>
        have hd := (dg_iff _).1 hc
        rw [HBT.out] at hd
        obtain ⟨d0, d1⟩ := hd
        have FIN : Hid (∀ j, j < k + 1 → dg (bt s j) = true) := fun j hj => by
          by_cases e : j = k
          · subst e; exact hc
          · exact HA.out j (by omega)
        have FV : Hid (fv s (k + 1) = fv s k * 10 + ((s[k].toNat : Int) - 48)) := by unfold Hid; simp only [fv]; rw [HBT.out]
        have n0 : ¬ ((s[k].toNat : Int) < 48) := by omega
        have n1 : ¬ (57 < (s[k].toNat : Int)) := by omega
        clear hc
        go_wp2
        go_round
        case rel => exact ⟨k + 1, by omega, by go_num, by rw [FV.out], FIN.out⟩
        case measure => simp [intOf]; omega
      | false =>
        have HN : Hid (fg s = -1) := fg_no hlt hc
        have hd := (dg_not _).1 hc
        rw [HBT.out] at hd
        clear hc
        by_cases n0 : (s[k].toNat : Int) < 48
        · go_wp2
          go_ret
          exact ⟨ret_i HN.out.symm, rfl⟩
        · have n1 : 57 < (s[k].toNat : Int) := by omega
          go_wp2
          go_ret
          exact ⟨ret_i HN.out.symm, rfl⟩
    · have hkk : k = s.size := by omega
      subst hkk
      have HN : Hid (fg s = fv s s.size) := fg_yes HA.out
      have hi : inB (s.size : Int) 1 9 = true := in_yes (by omega) (by omega)
      go_wp2_with (go_at_call 32; refine (specInR _ _ _ _ true hi).mono ?_; rintro e w' ⟨rfl, rfl⟩)
      go_ret
      exact ⟨ret_i HN.out.symm, rfl⟩
end Go.Proofs.YtbbbmdidmnhpmaaDoor
