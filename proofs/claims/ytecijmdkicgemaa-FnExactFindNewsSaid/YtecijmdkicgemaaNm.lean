/- Names: small letters and figures, one to eight. -/
import Derived.Test.YtecijmdkicgemaaSpD
namespace Go.Proofs.Ytecijmdkicgemaa
open Go.RowKit
set_option linter.unusedVariables false

def nb (c : Int) : Bool := decide (97 ≤ c ∧ c ≤ 122 ∨ 48 ≤ c ∧ c ≤ 57)
theorem nb_iff (c : Int) : nb c = true ↔ (97 ≤ c ∧ c ≤ 122 ∨ 48 ≤ c ∧ c ≤ 57) := by unfold nb; exact decide_eq_true_iff
theorem nb_not (c : Int) : nb c = false ↔ ¬ (97 ≤ c ∧ c ≤ 122 ∨ 48 ≤ c ∧ c ≤ 57) := by unfold nb; exact decide_eq_false_iff_not
/-- Each byte of a text is one of a name's. -/
def nbAll (s : ByteArray) : Bool := decide (∀ i : Nat, (h : i < s.size) → nb s[i].toNat = true)
theorem nbAll_iff (s : ByteArray) : nbAll s = true ↔ ∀ i : Nat, (h : i < s.size) → nb s[i].toNat = true := by unfold nbAll; exact decide_eq_true_iff
def nmB (s : ByteArray) : Bool := decide (1 ≤ s.size ∧ s.size ≤ 8) && nbAll s
theorem nm_bad {s : ByteArray} {i : Nat} (h : i < s.size) (hb : nb s[i].toNat = false) : nmB s = false := by
  unfold nmB
  have : nbAll s = false := by
    cases hc : nbAll s with
    | false => rfl
    | true => have := (nbAll_iff s).1 hc i h; rw [hb] at this; cases this
  rw [this, Bool.and_false]
theorem nm_size {s : ByteArray} (h : ¬ (1 ≤ s.size ∧ s.size ≤ 8)) : nmB s = false := by unfold nmB; rw [decide_eq_false h, Bool.false_and]
theorem nm_yes {s : ByteArray} (h : 1 ≤ s.size ∧ s.size ≤ 8) (ha : ∀ i : Nat, (h : i < s.size) → nb s[i].toNat = true) : nmB s = true := by
  unfold nmB; rw [decide_eq_true h, (nbAll_iff s).2 ha, Bool.and_self]
theorem nm_all {s : ByteArray} (ha : ∀ i : Nat, (h : i < s.size) → nb s[i].toNat = true) : nmB s = inB (s.size : Int) 1 8 := by
  unfold nmB inB
  rw [(nbAll_iff s).2 ha, Bool.and_true, Bool.eq_iff_iff, decide_eq_true_iff, decide_eq_true_iff]
  omega
set_option maxHeartbeats 1000000 in
theorem implNameByte (c : Int) (w : World) (h0 : 0 ≤ c) (h1 : c ≤ 255) :
    Calls Try.prog 87 #[.int .u8 c] w fun e w' => e = .returned (.bool (nb c)) ∧ w' = w := by
  by_cases a : 97 ≤ c
  · by_cases b : c ≤ 122
    · have H : Hid (nb c = true) := (nb_iff c).2 (by omega)
      go_enter Try.func87, Try.ntmps87
      go_wp2
      go_ret
      exact ⟨ret_b (by rw [H.out]; first | done | simp), rfl⟩
    · have H : Hid (nb c = false) := (nb_not c).2 (by omega)
      have d : 48 ≤ c := by omega
      have e : ¬ c ≤ 57 := by omega
      go_enter Try.func87, Try.ntmps87
      go_wp2
      go_ret
      exact ⟨ret_b (by rw [H.out]; first | done | simp), rfl⟩
  · by_cases b : 48 ≤ c
    · by_cases d : c ≤ 57
      · have H : Hid (nb c = true) := (nb_iff c).2 (by omega)
        go_enter Try.func87, Try.ntmps87
        go_wp2
        go_ret
        exact ⟨ret_b (by rw [H.out]; first | done | simp), rfl⟩
      · have H : Hid (nb c = false) := (nb_not c).2 (by omega)
        go_enter Try.func87, Try.ntmps87
        go_wp2
        go_ret
        exact ⟨ret_b (by rw [H.out]; first | done | simp), rfl⟩
    · have H : Hid (nb c = false) := (nb_not c).2 (by omega)
      go_enter Try.func87, Try.ntmps87
      go_wp2
      go_ret
      exact ⟨ret_b (by rw [H.out]; first | done | simp), rfl⟩
theorem implNameByteR (c : Int) (w : World) (h0 : 0 ≤ c) (h1 : c ≤ 255) (r : Bool) (hr : nb c = r) :
    Calls Try.prog 87 #[.int .u8 c] w fun e w' => e = .returned (.bool r) ∧ w' = w := by subst hr; exact implNameByte c w h0 h1
set_option maxHeartbeats 1000000 in
theorem implName (s : ByteArray) (w : World) (hs : s.size ≤ maxLen) :
    Calls Try.prog 52 #[.string s] w fun e w' => e = .returned (.bool (nmB s)) ∧ w' = w := by
  unfold maxLen at hs
  by_cases a : 1 ≤ s.size
  · by_cases b : s.size ≤ 8
    · go_enter Try.func52, Try.ntmps52
      go_wp2
      go_loop [3, 14] (fun _ i => ∃ k : Nat, k ≤ s.size ∧ i = .int .i64 k ∧ ∀ j : Nat, (h : j < s.size) → j < k → nb s[j].toNat = true) (fun _ i => s.size - (intOf i).toNat)
      case atStart => exact ⟨0, by omega, rfl, fun j _ h => by omega⟩
      case round =>
        obtain ⟨k, hk, rfl, ha⟩ := hrel
        have HA : Hid (∀ j : Nat, (h : j < s.size) → j < k → nb s[j].toNat = true) := ha
        clear ha
        by_cases hlt : k < s.size
        · have hb : s[k].toNat ≤ 255 := by have := s[k].toNat_lt; omega
          cases hc : nb s[k].toNat with
          | true =>
            have HC : Hid (nb s[k].toNat = true) := hc
            clear hc
            go_wp2_with (go_at_call 87; refine (implNameByteR _ _ (by omega) (by omega) true HC.out).mono ?_; rintro e w' ⟨rfl, rfl⟩)
            go_round
            case rel =>
              refine ⟨k + 1, by omega, by go_num, fun j h hj => ?_⟩
              by_cases hjk : j = k
              · subst hjk; exact HC.out
              · exact HA.out j h (by omega)
            case measure => simp [intOf]; omega
          | false =>
            have HC : Hid (nb s[k].toNat = false) := hc
            have HN : Hid (nmB s = false) := nm_bad hlt hc
            clear hc
            go_wp2_with (go_at_call 87; refine (implNameByteR _ _ (by omega) (by omega) false HC.out).mono ?_; rintro e w' ⟨rfl, rfl⟩)
            go_ret
            exact ⟨ret_b HN.out.symm, rfl⟩
        · have HN : Hid (nmB s = true) := nm_yes ⟨a, b⟩ fun i h => HA.out i h (by omega)
          go_wp2
          go_ret
          exact ⟨ret_b HN.out.symm, rfl⟩
    · have HN : Hid (nmB s = false) := nm_size (by omega)
      go_enter Try.func52, Try.ntmps52
      go_wp2
      go_ret
      exact ⟨ret_b HN.out.symm, rfl⟩
  · have HN : Hid (nmB s = false) := nm_size (by omega)
    go_enter Try.func52, Try.ntmps52
    go_wp2
    go_ret
    exact ⟨ret_b HN.out.symm, rfl⟩
set_option maxHeartbeats 2000000 in
theorem specName (s : ByteArray) (w : World) (hs : s.size ≤ maxLen) :
    Calls Try.prog 47 #[.string s] w fun e w' => e = .returned (.bool (nmB s)) ∧ w' = w := by
  unfold maxLen at hs
  go_enter Try.func47, Try.ntmps47
  go_wp2
  go_loop [3] (fun i => ∃ k : Nat, k ≤ s.size ∧ i = .int .i64 k ∧ ∀ j : Nat, (h : j < s.size) → j < k → nb s[j].toNat = true) (fun i => s.size - (intOf i).toNat)
  case atStart => exact ⟨0, by omega, rfl, fun j _ h => by omega⟩
  case round =>
    obtain ⟨k, hk, rfl, ha⟩ := hrel
    have HA : Hid (∀ j : Nat, (h : j < s.size) → j < k → nb s[j].toNat = true) := ha
    clear ha
    by_cases hlt : k < s.size
    · have hb : s[k].toNat ≤ 255 := by have := s[k].toNat_lt; omega
      cases hc : nb s[k].toNat with
      | true =>
        have HC : Hid (nb s[k].toNat = true) := hc
        have hd := (nb_iff _).1 hc
        clear hc
        have fin : ∀ j : Nat, (h : j < s.size) → j < k + 1 → nb s[j].toNat = true := fun j h hj => by
          by_cases hjk : j = k
          · subst hjk; exact HC.out
          · exact HA.out j h (by omega)
        have FIN : Hid (∀ j : Nat, (h : j < s.size) → j < k + 1 → nb s[j].toNat = true) := fin
        clear fin
        rcases hd with ⟨d0, d1⟩ | ⟨d0, d1⟩
        · have n0 : ¬ ((s[k].toNat : Int) < 97) := by omega
          have n1 : ¬ (122 < (s[k].toNat : Int)) := by omega
          go_wp2
          go_round
          case rel => exact ⟨k + 1, by omega, by go_num, FIN.out⟩
          case measure => simp [intOf]; omega
        · have n0 : (s[k].toNat : Int) < 97 := by omega
          have n1 : ¬ ((s[k].toNat : Int) < 48) := by omega
          have n2 : ¬ (57 < (s[k].toNat : Int)) := by omega
          go_wp2
          go_round
          case rel => exact ⟨k + 1, by omega, by go_num, FIN.out⟩
          case measure => simp [intOf]; omega
      | false =>
        have HN : Hid (nmB s = false) := nm_bad hlt hc
        have hd := (nb_not _).1 hc
        clear hc
        by_cases n0 : (s[k].toNat : Int) < 97
        · by_cases n1 : (s[k].toNat : Int) < 48
          · go_wp2
            go_ret
            exact ⟨ret_b HN.out.symm, rfl⟩
          · have n2 : 57 < (s[k].toNat : Int) := by omega
            go_wp2
            go_ret
            exact ⟨ret_b HN.out.symm, rfl⟩
        · have n1 : 122 < (s[k].toNat : Int) := by omega
          have n2 : ¬ ((s[k].toNat : Int) < 48) := by omega
          have n3 : 57 < (s[k].toNat : Int) := by omega
          go_wp2
          go_ret
          exact ⟨ret_b HN.out.symm, rfl⟩
    · have HN : Hid (nmB s = inB (s.size : Int) 1 8) := nm_all fun i h => HA.out i h (by omega)
      go_wp2_with (go_at_call 67; refine (specIn _ _ _ _).mono ?_; rintro e w' ⟨rfl, rfl⟩)
      go_ret
      exact ⟨ret_b HN.out.symm, rfl⟩
end Go.Proofs.Ytecijmdkicgemaa
