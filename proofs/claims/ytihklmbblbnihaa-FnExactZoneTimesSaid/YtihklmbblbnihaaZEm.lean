/- The exact laws' own helpers over zones: a copy is marked. -/
import Derived.Test.YtihklmbblbnihaaZEx
import Derived.Test.YtihklmbblbnihaaOm
namespace Go.Proofs.Ytihklmbblbnihaa
open Go.RowKit
set_option linter.unusedVariables false
set_option maxHeartbeats 4000000 in
theorem lawMarkTurns (g n cap : Nat) (k : Int) (w : World) (h : FT w g n) (hl : n ≤ 2000000) (k0 : 0 ≤ k) (k1 : k ≤ 1000000000) :
    Calls Try.prog 49 #[.slice (some ⟨g, 0, none⟩) n cap, .int .i64 k] w fun e w' => e = .returned (.int .i64 (k + 2 * n)) ∧ w.grownBy w' (some g) := by
  have HO : Hid (FT w g n) := h
  clear h
  go_enter Try.func49, Try.ntmps49
  go_wp2
  go_loopw [1, 5] (fun q i wr => ∃ j : Nat, j ≤ n ∧ i = .int .i64 j ∧ q = .int .i64 (k + 2 * j) ∧ FT wr g n ∧ w.grownBy wr (some g)) (fun _ i _ => n - (intOf i).toNat)
  case atStart => exact ⟨0, by omega, rfl, by go_num, HO.out, World.grownBy.refl _ _⟩
  case round =>
    obtain ⟨j, hj, rfl, rfl, O, G⟩ := hrel
    by_cases hlt : j < n
    · obtain ⟨v0, c0⟩ := O.there (j * 2) (by omega)
      obtain ⟨v1, c1⟩ := O.there (j * 2 + 1) (by omega)
      have f0 := O.free (j * 2)
      have f1 := O.free (j * 2 + 1)
      have FIN : Hid (FT ((wr.setCell ⟨g, j * 2, none⟩ (.int .i64 (k + 2 * j))).setCell ⟨g, j * 2 + 1, none⟩ (.int .i64 (k + 2 * j + 1))) g n ∧ w.grownBy ((wr.setCell ⟨g, j * 2, none⟩ (.int .i64 (k + 2 * j))).setCell ⟨g, j * 2 + 1, none⟩ (.int .i64 (k + 2 * j + 1))) (some g)) := ⟨(O.setCell _ _).setCell _ _, grown_trans (grown_trans G (grown_set _ ⟨g, j * 2, none⟩ _)) (grown_set _ ⟨g, j * 2 + 1, none⟩ _)⟩
      clear O G
      have hi1 : (j : Int) < (n : Int) := by omega
      go_wp2
      go_roundw
      case rel => exact ⟨j + 1, by omega, by go_num, by go_num, FIN.out.1, FIN.out.2⟩
      case measure => first | (simp [intOf]; done) | (simp [intOf]; omega)
    · have hjj : j = n := by omega
      subst hjj
      clear O
      go_wp2
      go_ret
      exact ⟨rfl, G⟩
set_option maxHeartbeats 4000000 in
theorem lawMarkZone (s : ByteArray) (sh : Int) (g n cap : Nat) (k : Int) (w : World) (h : FT w g n) (hl : n ≤ 2000000) (k0 : 0 ≤ k) (k1 : k ≤ 1000000000) :
    Calls Try.prog 29 #[.agg #[.string s, .int .i64 sh, .slice (some ⟨g, 0, none⟩) n cap], .int .i64 k] w fun e w' => e = .returned (.int .i64 (k + 2 * n)) ∧ w.grownBy w' (some g) := by
  have hb0 := (Below.refl w.heap.size w).alloc (Nat.le_refl _) (.cells #[.string s, .int .i64 sh, .slice (some ⟨g, 0, none⟩) n cap] 25)
  have G0 := World.grownBy_alloc w (.cells #[.string s, .int .i64 sh, .slice (some ⟨g, 0, none⟩) n cap] 25) (some g)
  have F0 := h.below hb0
  clear h hb0
  go_enter Try.func29, Try.ntmps29
  go_wp2_with fail
  refine (lawMarkTurns g n cap k _ F0 hl k0 k1).mono ?_
  rintro e w1 ⟨rfl, G1⟩
  have G := grown_trans G0 G1
  clear G1
  go_wp2
  go_ret
  exact ⟨rfl, G⟩
end Go.Proofs.Ytihklmbblbnihaa
