/- Lists of spans in memory: marked, and held against their marks. -/
import Derived.Test.YtkbgbccehijckaaSx
import Derived.Test.YtkbgbccehijckaaOw
import Derived.Test.YtkbgbccehijckaaOm
namespace Go.Proofs.Ytkbgbccehijckaa
open Go.RowKit
set_option linter.unusedVariables false
def mkp (k : Int) (n : Nat) : List (Int × Int) := (List.range n).map fun i : Nat => (k + 2 * (i : Int), k + 2 * (i : Int) + 1)
theorem mkp_len (k : Int) (n : Nat) : (mkp k n).length = n := by simp [mkp]
theorem mkp_at (k : Int) (n i : Nat) (h : i < n) : tAt (mkp k n) i = k + 2 * (i : Int) ∧ tSh (mkp k n) i = k + 2 * (i : Int) + 1 := by
  simp [mkp, tAt, tSh, h]
theorem OP.grown {w w' : World} {B : Nat} {T : TypeId} {v : Value} {l : List (Int × Int)} {row : Option Nat} (h : OP w B T v l) (hg : w.grownBy w' row) (hn : ∀ k, v.ownBlock = some k → some k ≠ row) : OP w' B T v l := by
  refine World.ownsRow.kept h hg ?_
  cases hv : v.ownBlock with
  | none => exact .inl rfl
  | some k => exact .inr (hn k hv)
theorem OP.ft {w : World} {B g cap : Nat} {T : TypeId} {ts : List (Int × Int)} (h : OP w B T (.slice (some ⟨g, 0, none⟩) ts.length cap) ts) (hg : g < w.heap.size) : FT w g ts.length := by
  have hc := fun j hj => World.ownsRow.cellAt (w := w) (base := B) (e := T) (size := 2) (g := g) (n := ts.length) (cap := cap) (xs := pcs ts) h j hj
  have hf := fun j => World.ownsRow.frozenAt (w := w) (base := B) (e := T) (size := 2) (g := g) (n := ts.length) (cap := cap) (xs := pcs ts) h j
  refine ⟨fun i hi => ?_, hf, hg⟩
  rw [hc i hi]
  have hl : i < (pcs ts).length := by rw [pcs_len]; exact hi
  exact ⟨(pcs ts)[i], by simp [hl]⟩
theorem IsTurns.grown {w w' : World} {a : Option Addr} {l : List (Int × Int)} {row : Option Nat} (h : IsTurns w a l) (hg : w.grownBy w' row) (hn : ∀ x, a = some x → some x.block ≠ row) : IsTurns w' a l := by
  rcases h with h | ⟨b, off, rfl, h2, h3⟩
  · exact .inl h
  · refine .inr ⟨b, off, rfl, Nat.lt_of_lt_of_le h2 hg.size, fun i hi => ?_⟩
    exact ⟨hg.cell (a := ⟨b, off + i * 2, none⟩) (h3 i hi).1 (hn ⟨b, off, none⟩ rfl), hg.cell (a := ⟨b, off + i * 2 + 1, none⟩) (h3 i hi).2 (hn ⟨b, off, none⟩ rfl)⟩
/-- The first j are marked. -/
structure MD (w wr : World) (g n : Nat) (k : Int) (j : Nat) : Prop where
  done : ∀ i, i < j → wr.cell? ⟨g, i * 2, none⟩ = some (.int .i64 (k + 2 * (i : Int))) ∧ wr.cell? ⟨g, i * 2 + 1, none⟩ = some (.int .i64 (k + 2 * (i : Int) + 1))
  ft : FT wr g n
  gr : w.grownBy wr (some g)
theorem MD.step {w wr : World} {g n : Nat} {k : Int} {j : Nat} (h : MD w wr g n k j) (hj : j < n) :
    MD w ((wr.setCell ⟨g, j * 2, none⟩ (.int .i64 (k + 2 * (j : Int)))).setCell ⟨g, j * 2 + 1, none⟩ (.int .i64 (k + 2 * (j : Int) + 1))) g n k (j + 1) := by
  obtain ⟨done, ft, gr⟩ := h
  obtain ⟨v0, c0⟩ := ft.there (j * 2) (by omega)
  obtain ⟨v1, c1⟩ := ft.there (j * 2 + 1) (by omega)
  refine ⟨fun i hi => ?_, (ft.setCell _ _).setCell _ _, grown_trans (grown_trans gr (grown_set _ ⟨g, j * 2, none⟩ _)) (grown_set _ ⟨g, j * 2 + 1, none⟩ _)⟩
  by_cases hik : i = j
  · subst hik
    constructor
    · rw [World.cell?_setCell_other _ _ _ _ (by simp)]; exact World.cell?_setCell_same _ _ _ c0
    · exact World.cell?_setCell_same _ _ _ (u := v1) (by rw [World.cell?_setCell_other _ _ _ _ (by simp)]; exact c1)
  · have hlt : i < j := by omega
    constructor
    · rw [World.cell?_setCell_other _ _ _ _ (by first | (simp; done) | (simp; omega)), World.cell?_setCell_other _ _ _ _ (by first | (simp; done) | (simp; omega))]; exact (done i hlt).1
    · rw [World.cell?_setCell_other _ _ _ _ (by first | (simp; done) | (simp; omega)), World.cell?_setCell_other _ _ _ _ (by first | (simp; done) | (simp; omega))]; exact (done i hlt).2
set_option maxHeartbeats 4000000 in
theorem lawMarkSpans (g cap n : Nat) (k : Int) (w : World) (h : FT w g n) (hl : n ≤ 4000000) (k0 : 0 ≤ k) (k1 : k ≤ 1000000000) :
    Calls Try.prog 18 #[.slice (some ⟨g, 0, none⟩) n cap, .int .i64 k] w fun e w' => e = .returned (.int .i64 (k + 2 * n)) ∧ IsTurns w' (some ⟨g, 0, none⟩) (mkp k n) ∧ w.grownBy w' (some g) := by
  have HM : Hid (MD w w g n k 0) := ⟨fun i hi => by omega, h, World.grownBy.refl _ _⟩
  clear h
  go_enter Try.func18, Try.ntmps18
  go_wp2
  go_loopw [1, 5] (fun q i wr => ∃ j : Nat, j ≤ n ∧ i = .int .i64 j ∧ q = .int .i64 (k + 2 * j) ∧ MD w wr g n k j) (fun _ i _ => n - (intOf i).toNat)
  case atStart => exact ⟨0, by omega, rfl, by go_num, HM.out⟩
  case round =>
    obtain ⟨j, hj, rfl, rfl, M⟩ := hrel
    have hM : Hid (MD w wr g n k j) := M
    clear M
    by_cases hlt : j < n
    · obtain ⟨v0, c0⟩ := hM.out.ft.there (j * 2) (by omega)
      obtain ⟨v1, c1⟩ := hM.out.ft.there (j * 2 + 1) (by omega)
      have f0 := hM.out.ft.free (j * 2)
      have f1 := hM.out.ft.free (j * 2 + 1)
      have FIN : Hid (MD w ((wr.setCell ⟨g, j * 2, none⟩ (.int .i64 (k + 2 * (j : Int)))).setCell ⟨g, j * 2 + 1, none⟩ (.int .i64 (k + 2 * (j : Int) + 1))) g n k (j + 1)) := hM.out.step hlt
      have hi0 : (0 : Int) ≤ (j : Int) := by omega
      have hi1 : (j : Int) < (n : Int) := by omega
      have g1 := IntWalk.i64_in (k + 2 * (j : Int) + 1) (by omega)
      have g2 := IntWalk.i64_in (k + 2 * (j : Int) + 1 + 1) (by omega)
      go_wp2
      go_roundw
      case rel => exact ⟨j + 1, by omega, by go_num, by congr 1; omega, FIN.out⟩
      case measure => first | (simp [intOf]; done) | (simp [intOf]; omega)
    · obtain rfl : j = n := by omega
      have FIN : Hid (IsTurns wr (some ⟨g, 0, none⟩) (mkp k j)) := .inr ⟨g, 0, rfl, hM.out.ft.lt, fun i hi => by
        rw [mkp_len] at hi
        obtain ⟨e0, e1⟩ := mkp_at k j i hi
        rw [e0, e1, Nat.zero_add]
        exact hM.out.done i hi⟩
      go_wp2
      go_ret
      exact ⟨rfl, FIN.out, hM.out.gr⟩
theorem lawMarkNone (a : Option Addr) (cap : Nat) (k : Int) (w : World) : Calls Try.prog 18 #[.slice a 0 cap, .int .i64 k] w fun e w' => e = .returned (.int .i64 k) ∧ w' = w := by
  go_enter Try.func18, Try.ntmps18
  go_wp2
  refine wp_loop_rounds 1 ?_; rw [rounds_succ]
  go_wp2
  go_ret
  exact ⟨rfl, rfl⟩
/-- A row that is owned, marked. -/
theorem lawMarkOwn (B : Nat) (T : TypeId) (v : Value) (l : List (Int × Int)) (k : Int) (w : World) (h : OP w B T v l) (hl : l.length ≤ 4000000) (k0 : 0 ≤ k) (k1 : k ≤ 1000000000) :
    Calls Try.prog 18 #[v, .int .i64 k] w fun e w' => e = .returned (.int .i64 (k + 2 * l.length)) ∧ (∀ a n cap, v = .slice a n cap → IsTurns w' a (mkp k l.length)) ∧ w.grownBy w' v.ownBlock := by
  by_cases hn : 0 < l.length
  · obtain ⟨g, cap, rfl, hB, hg⟩ := h.shape hn
    refine (lawMarkSpans g cap l.length k w (h.ft hg) hl k0 k1).mono ?_
    rintro e w' ⟨he, t, gr⟩
    exact ⟨he, fun a n c e => by simp only [Value.slice.injEq] at e; obtain ⟨rfl, _, _⟩ := e; exact t, gr⟩
  · have e0 : l = [] := List.length_eq_zero_iff.1 (by omega)
    subst e0
    obtain ⟨a, cap, rfl⟩ := h.shape0
    refine (lawMarkNone a cap k w).mono ?_
    rintro e w' ⟨rfl, rfl⟩
    exact ⟨ret_i (by simp), fun a n c e => .inl (by simp [mkp]), World.grownBy.refl _ _⟩
set_option maxHeartbeats 4000000 in
theorem lawHeldSpans (a : Option Addr) (cap n : Nat) (k : Int) (w : World) (h : IsTurns w a (mkp k n)) (hl : n ≤ 4000000) (k0 : 0 ≤ k) (k1 : k ≤ 1000000000) :
    Calls Try.prog 19 #[.slice a n cap, .int .i64 k] w fun e w' => e = .returned (.int .i64 (k + 2 * n)) ∧ Below w.heap.size w w' := by
  have HI : Hid (IsTurns w a (mkp k n)) := h
  clear h
  go_enter Try.func19, Try.ntmps19
  go_wp2
  go_loopw [1, 5] (fun q i wr => ∃ j : Nat, j ≤ n ∧ i = .int .i64 j ∧ q = .int .i64 (k + 2 * j) ∧ Below w.heap.size w wr) (fun _ i _ => n - (intOf i).toNat)
  case atStart => exact ⟨0, by omega, rfl, by go_num, Below.refl _ _⟩
  case round =>
    obtain ⟨j, hj, rfl, rfl, hb⟩ := hrel
    by_cases hlt : j < n
    · have I := HI.out.below (B := 0) hb
      rcases I with I | ⟨b, off, rfl, hbs, hc⟩
      · have := congrArg List.length I; rw [mkp_len] at this; simp at this; omega
      obtain ⟨c0, c1⟩ := hc j (by rw [mkp_len]; exact hlt)
      obtain ⟨e0, e1⟩ := mkp_at k n j hlt
      rw [e0] at c0
      rw [e1] at c1
      clear hc e0 e1
      have hi0 : (0 : Int) ≤ (j : Int) := by omega
      have hi1 : (j : Int) < (n : Int) := by omega
      have g1 := IntWalk.i64_in (k + 2 * (j : Int) + 1) (by omega)
      have g2 := IntWalk.i64_in (k + 2 * (j : Int) + 1 + 1) (by omega)
      go_wp2
      go_roundw
      case rel => exact ⟨j + 1, by omega, by go_num, by congr 1; omega, hb⟩
      case measure => first | (simp [intOf]; done) | (simp [intOf]; omega)
    · obtain rfl : j = n := by omega
      go_wp2
      go_ret
      exact ⟨rfl, hb⟩
end Go.Proofs.Ytkbgbccehijckaa
