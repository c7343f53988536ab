/- What the specification draws: one of some texts (as in Dz, where no zones are). -/
import Derived.Test.YtecijmdkicgemaaDr
namespace Go.Proofs.Ytecijmdkicgemaa
open Go.RowKit
set_option linter.unusedVariables false
/-- One of some texts. -/
theorem of_any (w : World) (rb L : Nat) (h : Rd w rb L) (hL : L ≤ 1099511627776) (lb m cap : Nat) (xs : List ByteArray) (hx : xs.length = m) (hm : 1 ≤ m) (hm2 : m ≤ 1000) (hlb : lb ≠ rb) (hls : lb < w.heap.size)
    (hc : ∀ i, i < m → w.cell? ⟨lb, i, none⟩ = some (.string (xs.getD i ByteArray.empty))) :
    Calls Try.prog 45 #[.pointer (some ⟨rb, 0, none⟩), .slice (some ⟨lb, 0, none⟩) m cap] w fun e w' => (∃ r : ByteArray, e = .returned (.string r) ∧ r ∈ xs) ∧ Rd w' rb (L + 1) ∧ But rb w.heap.size w w' := by
  go_enter Try.func45, Try.ntmps45
  go_wp2_with fail
  refine (pick_pos _ _ rb L h hL (by omega)).mono ?_
  rintro e w1 ⟨⟨r, rfl, r0, r1⟩, hr, hb⟩
  have hcell : w1.cell? ⟨lb, r.toNat, none⟩ = some (.string (xs.getD r.toNat ByteArray.empty)) := by
    rw [hb.cell (p := ⟨lb, r.toNat, none⟩) hls hlb]; exact hc _ (by omega)
  go_wp2
  go_ret
  exact ⟨⟨_, rfl, List.getElem_mem (by omega)⟩, hr, hb⟩
theorem texts_at (xs : List ByteArray) (i : Nat) (h : i < xs.length) : ((xs.map (fun x => Value.string x)).toArray)[i]? = some (.string (xs.getD i ByteArray.empty)) := by
  simp [h]
theorem of_list (w : World) (rb L : Nat) (h : Rd w rb L) (hL : L ≤ 1099511627776) (n : Nat) (xs : List ByteArray) (hx : xs.length = n) (hm : 1 ≤ n) (hm2 : n ≤ 1000) (vs : Array Value) (hv : vs = (xs.map (fun x => Value.string x)).toArray) :
    Calls Try.prog 45 #[.pointer (some ⟨rb, 0, none⟩), .slice (some ⟨w.heap.size, 0, none⟩) n n] (w.alloc (.cells vs 9)) fun e w' => (∃ r : ByteArray, e = .returned (.string r) ∧ r ∈ xs) ∧ Rd w' rb (L + 1) ∧ But rb w.heap.size w w' := by
  have hs := h.size
  have hb : Below w.heap.size w (w.alloc (.cells vs 9)) := (Below.refl _ _).alloc (Nat.le_refl _) _
  refine (of_any (w.alloc (.cells vs 9)) rb L (h.below hb) hL w.heap.size n n xs hx hm hm2 (by omega) (by simp) ?_).mono fun e w' hh => ?_
  · intro i hi
    rw [World.cell?_alloc_new, hv]
    exact texts_at xs i (by omega)
  · obtain ⟨he, hr, hk⟩ := hh
    exact ⟨he, hr, (But.of_below hb).trans (hk.mono (by simp))⟩
end Go.Proofs.Ytecijmdkicgemaa
