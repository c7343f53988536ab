/- Times, and texts of times, that the specification draws. -/
import Derived.Test.YtbbbmdidmnhpmaaDoorDz
import Derived.Test.YtbbbmdidmnhpmaaDoorDt
import Derived.Test.YtbbbmdidmnhpmaaDoorTv
namespace Go.Proofs.YtbbbmdidmnhpmaaDoor
open Go.RowKit
set_option linter.unusedVariables false
set_option maxHeartbeats 4000000 in
theorem drawTimeText (w : World) (a : Option Addr) (len cap : Nat) (h : IsCode w a len cap) :
    Calls Tryd.prog 16 #[.slice a len cap] w fun e w' => (∃ r : Int, e = .returned (.int .i64 r) ∧ -1 ≤ r ∧ r ≤ 5258964960) ∧ Below w.heap.size w w' := by
  go_enter Tryd.func16, Tryd.ntmps16
  go_wp2_with fail
  refine (open_any _ a len cap h).mono ?_
  rintro e w1 ⟨rfl, hr1, hb1⟩
  have hs1 := hb1.size
  go_wp2_with fail
  refine (anytime_any _ _ 0 hr1 (by omega)).mono ?_
  rintro e w2 ⟨⟨c, rfl, c0, c1⟩, hr2, hb2⟩
  have B2 : Below w.heap.size w w2 := hb1.trans ((hb2.mono hs1).below (Nat.le_refl _))
  clear hr1 hb1 hb2 h hr2
  go_wp2
  go_ret
  exact ⟨⟨_, rfl, c0, c1⟩, B2⟩
set_option maxHeartbeats 4000000 in
theorem drawTimeGet (w : World) (a : Option Addr) (len cap : Nat) (h : IsCode w a len cap) :
    Calls Tryd.prog 20 #[.slice a len cap] w fun e w' => (∃ r : ByteArray, e = .returned (.string r) ∧ r.size ≤ 10000) ∧ Below w.heap.size w w' := by
  go_enter Tryd.func20, Tryd.ntmps20
  go_wp2_with fail
  refine (open_any _ a len cap h).mono ?_
  rintro e w1 ⟨rfl, hr1, hb1⟩
  have hs1 := hb1.size
  go_wp2_with fail
  refine (pick_pos _ _ _ 0 hr1 (by omega) (by omega)).mono ?_
  rintro e w2 ⟨⟨c, rfl, c0, c1⟩, hr2, hb2⟩
  have B2 : Below w.heap.size w w2 := hb1.trans ((hb2.mono hs1).below (Nat.le_refl _))
  clear hr1 hb1 hb2 h
  by_cases hc : c = 0
  · subst hc
    go_wp2_with fail
    refine (oft_list w2 _ _ hr2 (by omega) 5 [⟨#[50, 48, 50, 54, 45, 48, 49, 45, 48, 49, 84, 50, 52, 58, 48, 48]⟩, ⟨#[50, 48, 50, 54, 45, 48, 49, 45, 48, 49, 84, 50, 51, 58, 54, 48]⟩, ⟨#[50, 48, 50, 54, 45, 48, 49, 45, 48, 49, 32, 49, 48, 58, 48, 48]⟩, ⟨#[50, 48, 50, 54, 45, 48, 49, 45, 48, 49, 84, 49, 58, 48, 48]⟩, ⟨#[]⟩] rfl (by omega) (by omega) _ rfl).mono ?_
    rintro e w3 ⟨⟨r, rfl, hr⟩, hr3, hb3⟩
    have r1 : r.size ≤ 10000 := by
      simp only [List.mem_cons, List.not_mem_nil, or_false] at hr
      rcases hr with h | h | h | h | h <;> (subst h; decide)
    have B3 : Below w.heap.size w w3 := B2.trans ((hb3.mono B2.size).below (Nat.le_refl _))
    clear hr hr3 hb3 B2 hr2
    go_wp2
    go_ret
    exact ⟨⟨_, rfl, r1⟩, B3⟩
  · have z0 : (c == 0) = false := by simpa using hc
    go_wp2_with fail
    refine (time_any _ _ _ hr2 (by omega)).mono ?_
    rintro e w3 ⟨⟨n, rfl, n0, n1⟩, hr3, hb3⟩
    obtain ⟨T, tz, hS, _⟩ := timeText_all n
    have HS : Hid (∀ w0 : World, Calls Tryd.prog 19 #[.int .i64 n] w0 fun e w' => e = .returned (.string T) ∧ Below w0.heap.size w0 w') := hS
    have B3 : Below w.heap.size w w3 := B2.trans ((hb3.mono B2.size).below (Nat.le_refl _))
    clear hb3 B2 hr2 hS
    go_wp2_with fail
    refine (HS.out _).mono ?_
    rintro e w4 ⟨rfl, hb4⟩
    have B4 := B3.trans (hb4.mono B3.size)
    have hr4 := hr3.below hb4
    clear hr3 B3 hb4
    go_wp2_with fail
    refine (cut_any _ _ _ _ hr4 (by omega) (by omega)).mono ?_
    rintro e w5 ⟨⟨r, rfl, r1⟩, hr5, hb5⟩
    have B5 : Below w.heap.size w w5 := B4.trans ((hb5.mono B4.size).below (Nat.le_refl _))
    clear hb5 B4 hr4 hr5
    go_wp2
    go_ret
    exact ⟨⟨_, rfl, r1⟩, B5⟩
end Go.Proofs.YtbbbmdidmnhpmaaDoor
