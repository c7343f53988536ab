/- Texts that the specification draws. -/
import Derived.Test.YtbbbmdidmnhpmaaDoorDr
import Derived.Test.YtbbbmdidmnhpmaaDoorDr2
import Derived.Test.YtbbbmdidmnhpmaaDoorTs
namespace Go.Proofs.YtbbbmdidmnhpmaaDoor
open Go.RowKit
set_option linter.unusedVariables false
theorem oft_any (w : World) (rb L : Nat) (h : Rd w rb L) (hL : L ≤ 1099511627776) (lb m cap : Nat) (xs : List ByteArray) (hx : xs.length = m) (hm : 1 ≤ m) (hm2 : m ≤ 1000) (hlb : lb ≠ rb) (hls : lb < w.heap.size)
    (hc : ∀ i, i < m → w.cell? ⟨lb, i, none⟩ = some (.string (xs.getD i ByteArray.empty))) :
    Calls Tryd.prog 35 #[.pointer (some ⟨rb, 0, none⟩), .slice (some ⟨lb, 0, none⟩) m cap] w fun e w' => (∃ r : ByteArray, e = .returned (.string r) ∧ r ∈ xs) ∧ Rd w' rb (L + 1) ∧ But rb w.heap.size w w' := by
  go_enter Tryd.func35, Tryd.ntmps35
  go_wp2_with fail
  refine (pick_pos _ _ rb L h hL (by omega)).mono ?_
  rintro e w1 ⟨⟨r, rfl, r0, r1⟩, hr, hb⟩
  have hcell : w1.cell? ⟨lb, r.toNat, none⟩ = some (.string (xs.getD r.toNat ByteArray.empty)) := by
    rw [hb.cell (p := ⟨lb, r.toNat, none⟩) hls hlb]; exact hc _ (by omega)
  go_wp2
  go_ret
  exact ⟨⟨_, rfl, List.getElem_mem (by omega)⟩, hr, hb⟩
theorem textsAt (xs : List ByteArray) (i : Nat) (h : i < xs.length) : ((xs.map Value.string).toArray)[i]? = some (.string (xs.getD i ByteArray.empty)) := by
  simp [h]
theorem oft_list (w : World) (rb L : Nat) (h : Rd w rb L) (hL : L ≤ 1099511627776) (n : Nat) (xs : List ByteArray) (hx : xs.length = n) (hm : 1 ≤ n) (hm2 : n ≤ 1000) (vs : Array Value) (hv : vs = (xs.map Value.string).toArray) :
    Calls Tryd.prog 35 #[.pointer (some ⟨rb, 0, none⟩), .slice (some ⟨w.heap.size, 0, none⟩) n n] (w.alloc (.cells vs 9)) fun e w' => (∃ r : ByteArray, e = .returned (.string r) ∧ r ∈ xs) ∧ Rd w' rb (L + 1) ∧ But rb w.heap.size w w' := by
  have hs := h.size
  have hb : Below w.heap.size w (w.alloc (.cells vs 9)) := (Below.refl _ _).alloc (Nat.le_refl _) _
  refine (oft_any (w.alloc (.cells vs 9)) rb L (h.below hb) hL w.heap.size n n xs hx hm hm2 (by omega) (by simp) ?_).mono fun e w' hh => ?_
  · intro i hi
    rw [World.cell?_alloc_new, hv]
    exact textsAt xs i (by omega)
  · obtain ⟨he, hr, hk⟩ := hh
    exact ⟨he, hr, (But.of_below hb).trans (hk.mono (by simp))⟩
set_option maxHeartbeats 4000000 in
theorem cut_any (s : ByteArray) (w : World) (rb L : Nat) (h : Rd w rb L) (hL : L ≤ 1099511620000) (hs : s.size ≤ 1000) :
    Calls Tryd.prog 36 #[.pointer (some ⟨rb, 0, none⟩), .string s] w fun e w' => (∃ r : ByteArray, e = .returned (.string r) ∧ r.size ≤ 10000) ∧ Rd w' rb (L + 3) ∧ But rb w.heap.size w w' := by
  go_enter Tryd.func36, Tryd.ntmps36
  go_wp2_with fail
  refine (pick_pos _ _ rb L h (by omega) (by omega)).mono ?_
  rintro e w1 ⟨⟨k, rfl, k0, k1⟩, hr1, hb1⟩
  go_wp2_with fail
  refine (pick_pos _ _ rb _ hr1 (by omega) (by omega)).mono ?_
  rintro e w2 ⟨⟨c, rfl, c0, c1⟩, hr2, hb2⟩
  have hb := hb1.trans (hb2.mono hb1.size)
  have hcs : c = 0 ∨ c = 1 ∨ (c ≠ 0 ∧ c ≠ 1) := by omega
  clear h hr1 hb1 hb2
  have hkn : k.toNat ≤ s.size := by omega
  have x1 : (s.extract 0 k.toNat).size ≤ 1000 := by rw [ByteArray.size_extract]; omega
  have x2 : (s.extract k.toNat s.size).size ≤ 1000 := by rw [ByteArray.size_extract]; omega
  rcases hcs with rfl | rfl | ⟨e0, e1⟩
  · go_wp2_with fail
    go_region_with ((go_at_call 35; refine (oft_list w2.drew rb (L + 2) (hr2.below (Below.refl _ _).drew) (by omega) 10 [⟨#[48]⟩, ⟨#[45]⟩, ⟨#[58]⟩, ⟨#[84]⟩, ⟨#[44]⟩, ⟨#[59]⟩, ⟨#[61]⟩, ⟨#[120]⟩, ⟨#[124]⟩, ⟨#[49]⟩] rfl (by omega) (by omega) _ rfl).mono ?_; rintro e w3 ⟨⟨r, rfl, hr⟩, hr3, hb3⟩; have r1 : r.size = 1 := by (simp only [List.mem_cons, List.not_mem_nil, or_false] at hr; rcases hr with h | h | h | h | h | h | h | h | h | h <;> (subst h; rfl))))
    all_goals (have hbF : But rb w.heap.size w w3 := hb.trans (((But.of_below (Below.refl w2.heap.size w2).drew).trans hb3).mono hb.size))
    all_goals (clear hb hb3 hr2; go_wp2; go_ret; exact ⟨⟨_, rfl, by simp only [ByteArray.size_append]; omega⟩, hr3, hbF⟩)
  · go_wp2
    go_ret
    exact ⟨⟨_, rfl, by omega⟩, hr2.mono (by omega), hb⟩
  · have z0 : (c == 0) = false := by simpa using e0
    have z1 : (c == 1) = false := by simpa using e1
    go_wp2
    go_ret
    exact ⟨⟨_, rfl, by omega⟩, hr2.mono (by omega), hb⟩
set_option maxHeartbeats 4000000 in
theorem drawDateGet (w : World) (a : Option Addr) (len cap : Nat) (h : IsCode w a len cap) :
    Calls Tryd.prog 14 #[.slice a len cap] w fun e w' => (∃ r : ByteArray, e = .returned (.string r) ∧ r.size ≤ 10000) ∧ Below w.heap.size w w' := by
  go_enter Tryd.func14, Tryd.ntmps14
  go_wp2_with fail
  refine (open_any _ a len cap h).mono ?_
  rintro e w1 ⟨rfl, hr1, hb1⟩
  have hs1 := hb1.size
  go_wp2_with fail
  refine (pick_pos _ _ _ 0 hr1 (by omega) (by omega)).mono ?_
  rintro e w2 ⟨⟨c, rfl, c0, c1⟩, hr2, hb2⟩
  have B2 : Below w.heap.size w w2 := hb1.trans ((hb2.mono hs1).below (Nat.le_refl _))
  clear hr1 hb1 hb2 h
  by_cases hc : c = 0
  · subst hc
    go_wp2_with fail
    refine (oft_list w2 _ _ hr2 (by omega) 6 [⟨#[50, 48, 50, 53, 45, 48, 50, 45, 50, 57]⟩, ⟨#[50, 48, 50, 52, 45, 48, 50, 45, 50, 57]⟩, ⟨#[50, 48, 50, 54, 45, 49, 51, 45, 48, 49]⟩, ⟨#[48, 48, 48, 48, 45, 48, 49, 45, 48, 49]⟩, ⟨#[49, 48, 48, 48, 48, 45, 48, 49, 45, 48, 49]⟩, ⟨#[50, 48, 50, 54, 45, 49, 45, 49]⟩] rfl (by omega) (by omega) _ rfl).mono ?_
    rintro e w3 ⟨⟨r, rfl, hr⟩, hr3, hb3⟩
    have r1 : r.size ≤ 10000 := by
      simp only [List.mem_cons, List.not_mem_nil, or_false] at hr
      rcases hr with h | h | h | h | h | h <;> (subst h; decide)
    have B3 : Below w.heap.size w w3 := B2.trans ((hb3.mono B2.size).below (Nat.le_refl _))
    clear hr hr3 hb3 B2 hr2
    go_wp2
    go_ret
    exact ⟨⟨_, rfl, r1⟩, B3⟩
  · have z0 : (c == 0) = false := by simpa using hc
    go_wp2_with fail
    refine (date_any _ _ _ hr2 (by omega)).mono ?_
    rintro e w3 ⟨⟨y, m, d, rfl, ok⟩, hr3, hb3⟩
    have k := (okD_iff y m d).1 ok
    have db := dim_bd y m
    obtain ⟨y, rfl⟩ : ∃ n : Nat, y = n := ⟨y.toNat, by omega⟩
    obtain ⟨m, rfl⟩ : ∃ n : Nat, m = n := ⟨m.toNat, by omega⟩
    obtain ⟨d, rfl⟩ : ∃ n : Nat, d = n := ⟨d.toNat, by omega⟩
    have HO : Hid (okD y m d = true) := ok
    have sz := dateT_size (y := y) (m := m) (d := d) (by omega) (by omega) (by omega)
    have b1 : (y : Int) ≤ 9999 := by omega
    have b2 : (m : Int) ≤ 12 := by omega
    have b3 : (d : Int) ≤ 31 := by omega
    have B3 : Below w.heap.size w w3 := B2.trans ((hb3.mono B2.size).below (Nat.le_refl _))
    clear hb3 B2 hr2 k db ok
    go_wp2_with fail
    refine (specDateText_yes y m d _ HO.out (by omega) (by omega) (by omega)).mono ?_
    rintro e w4 ⟨rfl, hb4⟩
    have B4 := B3.trans (hb4.mono B3.size)
    have hr4 := hr3.below hb4
    clear hr3 B3 hb4
    go_wp2_with fail
    refine (cut_any _ _ _ _ hr4 (by omega) (by omega)).mono ?_
    rintro e w5 ⟨⟨r, rfl, r1⟩, hr5, hb5⟩
    have B5 : Below w.heap.size w w5 := B4.trans ((hb5.mono B4.size).below (Nat.le_refl _))
    clear hb5 B4 hr4 hr5
    go_wp2
    go_ret
    exact ⟨⟨_, rfl, r1⟩, B5⟩
end Go.Proofs.YtbbbmdidmnhpmaaDoor
