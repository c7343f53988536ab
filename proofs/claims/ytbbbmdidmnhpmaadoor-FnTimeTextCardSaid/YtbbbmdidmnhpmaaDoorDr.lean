/- What the specification draws: numbers, years, dates and days, each within its bounds. -/
import Derived.Test.YtbbbmdidmnhpmaaDoorRd
import Derived.Test.YtbbbmdidmnhpmaaDoorSpC
namespace Go.Proofs.YtbbbmdidmnhpmaaDoor
open Go.RowKit
set_option linter.unusedVariables false

theorem getD_mem (xs : List Int) (i : Nat) (h : i < xs.length) : xs[i]?.getD 0 ∈ xs := by simp [h]

/-- One of some numbers. -/
theorem one_any (w : World) (rb L : Nat) (h : Rd w rb L) (hL : L ≤ 1099511627776) (lb m cap : Nat) (xs : List Int) (hx : xs.length = m) (hm : 1 ≤ m) (hm2 : m ≤ 1000) (hlb : lb ≠ rb) (hls : lb < w.heap.size)
    (hc : ∀ i, i < m → w.cell? ⟨lb, i, none⟩ = some (.int .i64 (xs.getD i 0))) :
    Calls Tryd.prog 48 #[.pointer (some ⟨rb, 0, none⟩), .slice (some ⟨lb, 0, none⟩) m cap] w fun e w' => (∃ r : Int, e = .returned (.int .i64 r) ∧ r ∈ xs) ∧ Rd w' rb (L + 1) ∧ But rb w.heap.size w w' := by
  go_enter Tryd.func48, Tryd.ntmps48
  go_wp2_with fail
  refine (pick_pos _ _ rb L h hL (by omega)).mono ?_
  rintro e w1 ⟨⟨r, rfl, r0, r1⟩, hr, hb⟩
  have hcell : w1.cell? ⟨lb, r.toNat, none⟩ = some (.int .i64 (xs.getD r.toNat 0)) := by
    rw [hb.cell (p := ⟨lb, r.toNat, none⟩) hls hlb]; exact hc _ (by omega)
  go_wp2
  go_ret
  exact ⟨⟨_, rfl, List.getElem_mem (by omega)⟩, hr, hb⟩

theorem big_any (n : Int) (w : World) (rb L : Nat) (h : Rd w rb L) (hL : L ≤ 1099511627000) (hn : 1 ≤ n) :
    Calls Tryd.prog 69 #[.pointer (some ⟨rb, 0, none⟩), .int .i64 n] w fun e w' => (∃ r : Int, e = .returned (.int .i64 r) ∧ 0 ≤ r ∧ r < n) ∧ Rd w' rb (L + 3) ∧ But rb w.heap.size w w' := by
  go_enter Tryd.func69, Tryd.ntmps69
  go_wp2_with fail
  refine (pick_pos _ _ rb L h (by omega) (by omega)).mono ?_
  rintro e w1 ⟨⟨r1, rfl, a0, a1⟩, hr1, hb1⟩
  go_wp2_with fail
  refine (pick_pos _ _ rb _ hr1 (by omega) (by omega)).mono ?_
  rintro e w2 ⟨⟨r2, rfl, b0, b1⟩, hr2, hb2⟩
  go_wp2_with fail
  refine (pick_pos _ _ rb _ hr2 (by omega) (by omega)).mono ?_
  rintro e w3 ⟨⟨r3, rfl, c0, c1⟩, hr3, hb3⟩
  have hs1 := hb1.size
  have hs2 := hb2.size
  have hb := (hb1.trans (hb2.mono hs1)).trans (hb3.mono (Nat.le_trans hs1 hs2))
  clear hb1 hb2 hb3 hs1 hs2 hr1 hr2 h
  go_wp2
  go_ret
  exact ⟨⟨_, rfl, Int.emod_nonneg _ (by omega), Int.emod_lt_of_pos _ (by omega)⟩, hr3, hb⟩

theorem ints_at (xs : List Int) (i : Nat) (h : i < xs.length) : ((xs.map (fun x => Value.int .i64 x)).toArray)[i]? = some (.int .i64 (xs.getD i 0)) := by
  simp [h]

/-- One of some numbers that have just been laid. -/
theorem one_list (w : World) (rb L : Nat) (h : Rd w rb L) (hL : L ≤ 1099511627776) (n : Nat) (xs : List Int) (hx : xs.length = n) (hm : 1 ≤ n) (hm2 : n ≤ 1000) (vs : Array Value) (hv : vs = (xs.map (fun x => Value.int .i64 x)).toArray) :
    Calls Tryd.prog 48 #[.pointer (some ⟨rb, 0, none⟩), .slice (some ⟨w.heap.size, 0, none⟩) n n] (w.alloc (.cells vs 3)) fun e w' => (∃ r : Int, e = .returned (.int .i64 r) ∧ r ∈ xs) ∧ Rd w' rb (L + 1) ∧ But rb w.heap.size w w' := by
  have hs := h.size
  have hb : Below w.heap.size w (w.alloc (.cells vs 3)) := (Below.refl _ _).alloc (Nat.le_refl _) _
  refine (one_any (w.alloc (.cells vs 3)) rb L (h.below hb) hL w.heap.size n n xs hx hm hm2 (by omega) (by simp) ?_).mono fun e w' hh => ?_
  · intro i hi
    rw [World.cell?_alloc_new, hv]
    exact ints_at xs i (by omega)
  · obtain ⟨he, hr, hk⟩ := hh
    exact ⟨he, hr, (But.of_below hb).trans (hk.mono (by simp))⟩

theorem year_any (w : World) (rb L : Nat) (h : Rd w rb L) (hL : L ≤ 1099511626000) :
    Calls Tryd.prog 55 #[.pointer (some ⟨rb, 0, none⟩)] w fun e w' => (∃ r : Int, e = .returned (.int .i64 r) ∧ 1 ≤ r ∧ r ≤ 9999) ∧ Rd w' rb (L + 4) ∧ But rb w.heap.size w w' := by
  go_enter Tryd.func55, Tryd.ntmps55
  go_wp2_with fail
  refine (big_any _ _ rb L h (by omega) (by omega)).mono ?_
  rintro e w1 ⟨⟨r1, rfl, a0, a1⟩, hr1, hb1⟩
  go_wp2_with fail
  refine (one_list w1 rb (L + 3) hr1 (by omega) 10 [2026, 2024, 2000, 1900, 1, 9999, 4, 1 + r1, 2026, 2027] rfl (by omega) (by omega) _ rfl).mono ?_
  rintro e w2 ⟨⟨r, rfl, hr⟩, hr2, hb2⟩
  have hb := hb1.trans (hb2.mono hb1.size)
  have hr' : 1 ≤ r ∧ r ≤ 9999 := by
    simp only [List.mem_cons, List.not_mem_nil, or_false] at hr
    omega
  clear hb1 hb2 hr1 h hr
  go_wp2
  go_ret
  exact ⟨⟨_, rfl, hr'⟩, hr2, hb⟩
set_option maxHeartbeats 1000000 in
theorem date_any (w : World) (rb L : Nat) (h : Rd w rb L) (hL : L ≤ 1099511625000) :
    Calls Tryd.prog 37 #[.pointer (some ⟨rb, 0, none⟩)] w fun e w' => (∃ y m d : Int, e = .returned (.agg #[.int .i64 y, .int .i64 m, .int .i64 d]) ∧ okD y m d = true) ∧ Rd w' rb (L + 6) ∧ But rb w.heap.size w w' := by
  have hs := h.size
  go_enter Tryd.func37, Tryd.ntmps37
  go_wp2_with fail
  refine (year_any _ rb L (h.below ((Below.refl _ _).alloc (Nat.le_refl _) _)) (by omega)).mono ?_
  rintro e w1 ⟨⟨y, rfl, y0, y1⟩, hr1, hb1⟩
  go_wp2_with fail
  refine (pick_pos _ _ rb _ hr1 (by omega) (by omega)).mono ?_
  rintro e w2 ⟨⟨m, rfl, m0, m1⟩, hr2, hb2⟩
  have db := dim_bd y (1 + m)
  go_wp2_with fail
  refine (specDays _ _ _ (by omega) (by omega) (by omega) (by omega)).mono ?_
  rintro e w2 ⟨rfl, rfl⟩
  go_wp2_with fail
  refine (pick_pos _ _ rb _ hr2 (by omega) (by omega)).mono ?_
  rintro e w3 ⟨⟨d, rfl, d0, d1⟩, hr3, hb3⟩
  have hb := (hb1.trans (hb2.mono hb1.size)).trans (hb3.mono (Nat.le_trans hb1.size hb2.size))
  have ok : okD y (1 + m) (1 + d) = true := (okD_iff _ _ _).2 (by omega)
  have OK : Hid (okD y (1 + m) (1 + d) = true) := ok
  clear ok hb1 hb2 hb3 hr1 hr2 h
  have c0 : w3.cell? ⟨w.heap.size, 0, none⟩ = some (.int .i64 0) := by rw [hb.cell (p := ⟨w.heap.size, 0, none⟩) (by simp) (by simp; omega)]; simp
  have c1 : w3.cell? ⟨w.heap.size, 1, none⟩ = some (.int .i64 0) := by rw [hb.cell (p := ⟨w.heap.size, 1, none⟩) (by simp) (by simp; omega)]; simp
  have c2 : w3.cell? ⟨w.heap.size, 2, none⟩ = some (.int .i64 0) := by rw [hb.cell (p := ⟨w.heap.size, 2, none⟩) (by simp) (by simp; omega)]; simp
  have f0 : w3.frozen? ⟨w.heap.size, 0, none⟩ = false := by rw [hb.frozen (p := ⟨w.heap.size, 0, none⟩) (by simp) (by simp; omega)]; simp
  have f1 : w3.frozen? ⟨w.heap.size, 1, none⟩ = false := by rw [hb.frozen (p := ⟨w.heap.size, 1, none⟩) (by simp) (by simp; omega)]; simp
  have f2 : w3.frozen? ⟨w.heap.size, 2, none⟩ = false := by rw [hb.frozen (p := ⟨w.heap.size, 2, none⟩) (by simp) (by simp; omega)]; simp
  go_wp2
  refine bodyPost_ret (v := .agg #[.int .i64 y, .int .i64 (1 + m), .int .i64 (1 + d)]) (by simp [results, Tryd.results37, go_sem, c0, c1, c2]) rfl ⟨⟨y, 1 + m, 1 + d, rfl, OK.out⟩, ?_, ?_⟩
  · exact (((hr3.setCell (p := ⟨w.heap.size, 0, none⟩) hs _).setCell (p := ⟨w.heap.size, 1, none⟩) hs _).setCell (p := ⟨w.heap.size, 2, none⟩) hs _)
  · exact ((((But.refl _ _ _).alloc (Nat.le_refl _) _).trans (hb.mono (by simp))).setCell (p := ⟨w.heap.size, 0, none⟩) (.inl (Nat.le_refl _)) _ |>.setCell (p := ⟨w.heap.size, 1, none⟩) (.inl (Nat.le_refl _)) _ |>.setCell (p := ⟨w.heap.size, 2, none⟩) (.inl (Nat.le_refl _)) _)
end Go.Proofs.YtbbbmdidmnhpmaaDoor
