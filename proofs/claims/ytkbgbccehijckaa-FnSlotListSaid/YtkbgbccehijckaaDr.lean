/- What the specification draws: numbers, years, dates and days, each within its bounds. -/
import Derived.Test.YtkbgbccehijckaaRd
import Derived.Test.YtkbgbccehijckaaSpC
namespace Go.Proofs.Ytkbgbccehijckaa
open Go.RowKit
set_option linter.unusedVariables false

theorem getD_mem (xs : List Int) (i : Nat) (h : i < xs.length) : xs[i]?.getD 0 ∈ xs := by simp [h]

/-- One of some numbers. -/
theorem one_any (w : World) (rb L : Nat) (h : Rd w rb L) (hL : L ≤ 1099511627776) (lb m cap : Nat) (xs : List Int) (hx : xs.length = m) (hm : 1 ≤ m) (hm2 : m ≤ 1000) (hlb : lb ≠ rb) (hls : lb < w.heap.size)
    (hc : ∀ i, i < m → w.cell? ⟨lb, i, none⟩ = some (.int .i64 (xs.getD i 0))) :
    Calls Try.prog 54 #[.pointer (some ⟨rb, 0, none⟩), .slice (some ⟨lb, 0, none⟩) m cap] w fun e w' => (∃ r : Int, e = .returned (.int .i64 r) ∧ r ∈ xs) ∧ Rd w' rb (L + 1) ∧ But rb w.heap.size w w' := by
  go_enter Try.func54, Try.ntmps54
  go_wp2_with fail
  refine (pick_pos _ _ rb L h hL (by omega)).mono ?_
  rintro e w1 ⟨⟨r, rfl, r0, r1⟩, hr, hb⟩
  have hcell : w1.cell? ⟨lb, r.toNat, none⟩ = some (.int .i64 (xs.getD r.toNat 0)) := by
    rw [hb.cell (p := ⟨lb, r.toNat, none⟩) hls hlb]; exact hc _ (by omega)
  go_wp2
  go_ret
  exact ⟨⟨_, rfl, List.getElem_mem (by omega)⟩, hr, hb⟩


theorem ints_at (xs : List Int) (i : Nat) (h : i < xs.length) : ((xs.map (fun x => Value.int .i64 x)).toArray)[i]? = some (.int .i64 (xs.getD i 0)) := by
  simp [h]

/-- One of some numbers that have just been laid. -/
theorem one_list (w : World) (rb L : Nat) (h : Rd w rb L) (hL : L ≤ 1099511627776) (n : Nat) (xs : List Int) (hx : xs.length = n) (hm : 1 ≤ n) (hm2 : n ≤ 1000) (vs : Array Value) (hv : vs = (xs.map (fun x => Value.int .i64 x)).toArray) :
    Calls Try.prog 54 #[.pointer (some ⟨rb, 0, none⟩), .slice (some ⟨w.heap.size, 0, none⟩) n n] (w.alloc (.cells vs 3)) fun e w' => (∃ r : Int, e = .returned (.int .i64 r) ∧ r ∈ xs) ∧ Rd w' rb (L + 1) ∧ But rb w.heap.size w w' := by
  have hs := h.size
  have hb : Below w.heap.size w (w.alloc (.cells vs 3)) := (Below.refl _ _).alloc (Nat.le_refl _) _
  refine (one_any (w.alloc (.cells vs 3)) rb L (h.below hb) hL w.heap.size n n xs hx hm hm2 (by omega) (by simp) ?_).mono fun e w' hh => ?_
  · intro i hi
    rw [World.cell?_alloc_new, hv]
    exact ints_at xs i (by omega)
  · obtain ⟨he, hr, hk⟩ := hh
    exact ⟨he, hr, (But.of_below hb).trans (hk.mono (by simp))⟩

end Go.Proofs.Ytkbgbccehijckaa
