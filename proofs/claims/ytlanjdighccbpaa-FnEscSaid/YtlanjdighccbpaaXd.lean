/- What the specification draws: a text many times; texts with strokes. -/
import Derived.Test.YtlanjdighccbpaaDo
import Derived.Test.YtlanjdighccbpaaXc
namespace Go.Proofs.Ytlanjdighccbpaa
open Go.RowKit
set_option linter.unusedVariables false
theorem dbl (a j : Nat) : (a + a) * j = a * (2 * j) := by rw [Nat.add_mul, Nat.two_mul, Nat.mul_add]
set_option maxHeartbeats 4000000 in
/-- A text so many times: how long it is. -/
theorem specMany (s0 : ByteArray) (n0 : Nat) (w : World) (h0 : 1 ≤ s0.size) (h : s0.size * n0 ≤ 5000) :
    Calls Try.prog 17 #[.string s0, .int .i64 n0] w fun e w' => (∃ r : ByteArray, e = .returned (.string r) ∧ r.size = s0.size * n0) ∧ w' = w := by
  obtain ⟨T, hT⟩ : ∃ T, T = s0.size * n0 := ⟨_, rfl⟩
  rw [← hT] at h ⊢
  have HT : Hid (T = s0.size * n0) := hT
  clear hT
  go_enter Try.func17, Try.ntmps17
  go_wp2
  go_loop [0, 1, 5] (fun sv nv ov => ∃ (s o : ByteArray) (k : Nat), sv = .string s ∧ nv = .int .i64 k ∧ ov = .string o ∧ o.size + s.size * k = T ∧ 1 ≤ s.size) (fun _ nv _ => (intOf nv).toNat)
  case atStart => exact ⟨s0, _, n0, rfl, rfl, rfl, by rw [HT.out]; exact Nat.zero_add _, h0⟩
  case round =>
    obtain ⟨s, o, k, rfl, rfl, rfl, hk, hs1⟩ := hrel
    by_cases hlt : 0 < k
    · have k1 : k ≤ s.size * k := Nat.le_mul_of_pos_left _ (by omega)
      have k2 : s.size ≤ s.size * k := Nat.le_mul_of_pos_right _ (by omega)
      have a1 : o.size ≤ 5000 := by omega
      have a2 : s.size ≤ 5000 := by omega
      have a3 : k ≤ 5000 := by omega
      have hz : (0 : Int) < (k : Int) := by omega
      have hm : (k : Int).tmod 2 = (k : Int) % 2 := Int.tmod_eq_emod_of_nonneg (by omega)
      have hd : (k : Int).tdiv 2 = (k : Int) / 2 := Int.tdiv_eq_ediv_of_nonneg (by omega)
      rcases Nat.mod_two_eq_zero_or_one k with e | e
      · obtain ⟨j, rfl⟩ : ∃ j, k = 2 * j := ⟨k / 2, by omega⟩
        have em : (((2 * j : Nat) : Int) % 2 == 1) = false := by rw [show ((2 * j : Nat) : Int) % 2 = 0 by omega]; rfl
        have ed : ((2 * j : Nat) : Int) / 2 = j := by omega
        have HK : Hid (o.size + (s ++ s).size * j = T) := by
          unfold Hid; rw [ByteArray.size_append, dbl]; exact hk
        have HS : Hid (1 ≤ (s ++ s).size) := by unfold Hid; rw [ByteArray.size_append]; omega
        clear k1 k2 hk e
        go_wp2
        go_round
        case rel => exact ⟨_, _, j, rfl, by go_num, rfl, HK.out, HS.out⟩
        case measure => simp [intOf]; omega
      · obtain ⟨j, rfl⟩ : ∃ j, k = 2 * j + 1 := ⟨k / 2, by omega⟩
        have em : (((2 * j + 1 : Nat) : Int) % 2 == 1) = true := by rw [show ((2 * j + 1 : Nat) : Int) % 2 = 1 by omega]; rfl
        have ed : ((2 * j + 1 : Nat) : Int) / 2 = j := by omega
        have HK : Hid ((o ++ s).size + (s ++ s).size * j = T) := by
          unfold Hid; rw [ByteArray.size_append, ByteArray.size_append, ← hk, Nat.mul_add, Nat.mul_one]
          have := dbl s.size j
          omega
        have HS : Hid (1 ≤ (s ++ s).size) := by unfold Hid; rw [ByteArray.size_append]; omega
        clear k1 k2 hk e
        go_wp2
        go_round
        case rel => exact ⟨_, _, j, rfl, by go_num, rfl, HK.out, HS.out⟩
        case measure => simp [intOf]; omega
    · have hz : ¬ (0 : Int) < (k : Int) := by omega
      have hk0 : k = 0 := by omega
      have HK : Hid (o.size = T) := by unfold Hid; rw [hk0] at hk; simpa using hk
      clear hk
      go_wp2
      go_ret
      exact ⟨⟨_, rfl, HK.out⟩, rfl⟩
theorem drawEscPut (w : World) (a : Option Addr) (len cap : Nat) (h : IsCode w a len cap) :
    Calls Try.prog 5 #[.slice a len cap] w fun e w' => (∃ s : ByteArray, e = .returned (.string s) ∧ s.size ≤ 1000) ∧ Below w.heap.size w w' := by
  go_enter Try.func5, Try.ntmps5
  go_wp2_with fail
  refine (open_any w a len cap h).mono ?_
  rintro e w1 ⟨rfl, hr1, hb1⟩
  go_wp2_with fail
  refine (specMany ⟨#[44]⟩ 300 w1 (by decide) (by decide)).mono ?_
  rintro e w2 ⟨⟨x, rfl, hx⟩, rfl⟩
  go_wp2_with fail
  refine (specMany ⟨#[120]⟩ 301 _ (by decide) (by decide)).mono ?_
  rintro e w2 ⟨⟨y, rfl, hy⟩, rfl⟩
  go_wp2_with fail
  refine (of_list _ _ 0 hr1 (by omega) 8 [⟨#[]⟩, ⟨#[97, 44, 98]⟩, ⟨#[97, 59, 98, 92]⟩, ⟨#[108, 105, 110, 101, 10, 110, 101, 120, 116]⟩, ⟨#[92, 110]⟩, x, y, ⟨#[112, 108, 97, 105, 110]⟩] rfl (by omega) (by omega) _ rfl).mono ?_
  rintro e w3 ⟨⟨r, rfl, hr⟩, hr3, hb3⟩
  have hb := hb1.trans ((hb3.mono hb1.size).below (Nat.le_refl _))
  have hr' : r.size ≤ 1000 := by
    simp only [List.mem_cons, List.not_mem_nil, or_false] at hr
    have hx' : x.size = 300 := hx
    have hy' : y.size = 301 := hy
    rcases hr with rfl | rfl | rfl | rfl | rfl | rfl | rfl | rfl <;> first | omega | decide
  clear hb1 hb3 hr1 hr3 h hr
  go_wp2
  go_ret
  exact ⟨⟨_, rfl, hr'⟩, hb⟩
theorem drawEscGet (w : World) (a : Option Addr) (len cap : Nat) (h : IsCode w a len cap) :
    Calls Try.prog 9 #[.slice a len cap] w fun e w' => (∃ s : ByteArray, e = .returned (.string s) ∧ s.size ≤ 1000) ∧ Below w.heap.size w w' := by
  go_enter Try.func9, Try.ntmps9
  go_wp2_with fail
  refine (open_any w a len cap h).mono ?_
  rintro e w1 ⟨rfl, hr1, hb1⟩
  go_wp2_with fail
  refine (specMany ⟨#[92, 44]⟩ 300 w1 (by decide) (by decide)).mono ?_
  rintro e w2 ⟨⟨x, rfl, hx⟩, rfl⟩
  go_wp2_with fail
  refine (specMany ⟨#[92, 44]⟩ 301 _ (by decide) (by decide)).mono ?_
  rintro e w2 ⟨⟨y, rfl, hy⟩, rfl⟩
  go_wp2_with fail
  refine (of_list _ _ 0 hr1 (by omega) 10 [⟨#[97, 92, 44, 98]⟩, ⟨#[97, 44, 98]⟩, ⟨#[92]⟩, ⟨#[92, 110]⟩, ⟨#[92, 120]⟩, ⟨#[92, 92]⟩, ⟨#[]⟩, ⟨#[92, 59]⟩, x, y] rfl (by omega) (by omega) _ rfl).mono ?_
  rintro e w3 ⟨⟨r, rfl, hr⟩, hr3, hb3⟩
  have hb := hb1.trans ((hb3.mono hb1.size).below (Nat.le_refl _))
  have hr' : r.size ≤ 1000 := by
    simp only [List.mem_cons, List.not_mem_nil, or_false] at hr
    have hx' : x.size = 600 := hx
    have hy' : y.size = 602 := hy
    rcases hr with rfl | rfl | rfl | rfl | rfl | rfl | rfl | rfl | rfl | rfl <;> first | omega | decide
  clear hb1 hb3 hr1 hr3 h hr
  go_wp2
  go_ret
  exact ⟨⟨_, rfl, hr'⟩, hb⟩
end Go.Proofs.Ytlanjdighccbpaa
