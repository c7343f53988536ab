/- The exact laws' own helpers over zones: held against each other, and their size. -/
import Derived.Test.YtlhaldhfoeiohaaZEx
import Derived.Deep.RegionHeld3
namespace Go.Proofs.Ytlhaldhfoeiohaa
open Go.RowKit
set_option linter.unusedVariables false
theorem lawEqTurn (x y : Int) (w : World) :
    Calls Try.prog 44 #[.agg #[.int .i64 x, .int .i64 y], .agg #[.int .i64 x, .int .i64 y]] w fun e w' => e = .returned (.bool true) ∧ Below w.heap.size w w' := by
  go_enter Try.func44, Try.ntmps44
  go_wp2
  go_ret
  exact ⟨rfl, ((Below.refl _ _).alloc (Nat.le_refl _) _).alloc (by simp) _⟩
abbrev Two (w : World) (b o b' o' : Nat) (x y : Int) (w' : World) : Prop := w'.cell? ⟨b, o, none⟩ = some (.int .i64 x) ∧ w'.cell? ⟨b, o + 1, none⟩ = some (.int .i64 y) ∧ w'.cell? ⟨b', o', none⟩ = some (.int .i64 x) ∧ w'.cell? ⟨b', o' + 1, none⟩ = some (.int .i64 y) ∧ Below w.heap.size w w'
theorem Two.on {w W w' : World} {b o b' o' : Nat} {x y : Int} (h : Two w b o b' o' x y W) (hb : Below W.heap.size W w') : Two w b o b' o' x y w' := by
  obtain ⟨c0, c1, c2, c3, B⟩ := h
  refine ⟨?_, ?_, ?_, ?_, B.trans (hb.mono B.size)⟩
  · rw [hb.cell (p := ⟨b, o, none⟩) (cell_lt c0)]; exact c0
  · rw [hb.cell (p := ⟨b, o + 1, none⟩) (cell_lt c0)]; exact c1
  · rw [hb.cell (p := ⟨b', o', none⟩) (cell_lt c2)]; exact c2
  · rw [hb.cell (p := ⟨b', o' + 1, none⟩) (cell_lt c2)]; exact c3
set_option maxRecDepth 100000 in
set_option maxHeartbeats 4000000 in
theorem lawEqTurns (a a' : Option Addr) (cap cap' : Nat) (ts : List (Int × Int)) (w : World) (h : IsTurns w a ts) (h' : IsTurns w a' ts) (hl : ts.length ≤ 2000000) :
    Calls Try.prog 38 #[.slice a ts.length cap, .slice a' ts.length cap'] w fun e w' => e = .returned (.bool true) ∧ Below w.heap.size w w' := by
  have H1 : Hid (IsTurns w a ts) := h
  have H2 : Hid (IsTurns w a' ts) := h'
  clear h h'
  go_enter Try.func38, Try.ntmps38
  go_wp2
  go_loopw [5] (fun i wr => ∃ k : Nat, k ≤ ts.length ∧ i = .int .i64 k ∧ Below w.heap.size w wr) (fun i _ => ts.length - (intOf i).toNat)
  case atStart => exact ⟨0, by omega, rfl, Below.refl _ _⟩
  case round =>
    obtain ⟨k, hk, rfl, hb⟩ := hrel
    by_cases hlt : k < ts.length
    · have G1 := H1.out
      have G2 := H2.out
      rcases G1 with G1 | ⟨b, o, rfl, hbs, hc⟩
      · rw [G1] at hlt; simp at hlt
      rcases G2 with G2 | ⟨b', o', rfl, hbs', hc'⟩
      · rw [G2] at hlt; simp at hlt
      have c0 : wr.cell? ⟨b, o + k * 2, none⟩ = some (.int .i64 (tAt ts k)) := by rw [hb.cell (p := ⟨b, o + k * 2, none⟩) hbs]; exact (hc k hlt).1
      have c1 : wr.cell? ⟨b, o + k * 2 + 1, none⟩ = some (.int .i64 (tSh ts k)) := by rw [hb.cell (p := ⟨b, o + k * 2 + 1, none⟩) hbs]; exact (hc k hlt).2
      have c2 : wr.cell? ⟨b', o' + k * 2, none⟩ = some (.int .i64 (tAt ts k)) := by rw [hb.cell (p := ⟨b', o' + k * 2, none⟩) hbs']; exact (hc' k hlt).1
      have c3 : wr.cell? ⟨b', o' + k * 2 + 1, none⟩ = some (.int .i64 (tSh ts k)) := by rw [hb.cell (p := ⟨b', o' + k * 2 + 1, none⟩) hbs']; exact (hc' k hlt).2
      have K : Two w b (o + k * 2) b' (o' + k * 2) (tAt ts k) (tSh ts k) wr := ⟨c0, c1, c2, c3, hb⟩
      have hi1 : (k : Int) < (ts.length : Int) := by omega
      have hi0 : (0 : Int) ≤ (k : Int) := by omega
      clear hc hc'
      go_wp2
      go_region_held3 (fun w' => w'.cell? ⟨b, o + k * 2, none⟩ = some (.int .i64 (tAt ts k)) ∧ w'.cell? ⟨b, o + k * 2 + 1, none⟩ = some (.int .i64 (tSh ts k)) ∧ w'.cell? ⟨b', o' + k * 2, none⟩ = some (.int .i64 (tAt ts k)) ∧ w'.cell? ⟨b', o' + k * 2 + 1, none⟩ = some (.int .i64 (tSh ts k)) ∧ Below w.heap.size w w')
        (first | assumption | exact Two.on K (Below.refl _ _).drew | exact Two.on (by assumption) hb3)
        (first | (go_at_call 44; refine (lawEqTurn _ _ _).mono ?_; rintro e w3 ⟨rfl, hb3⟩))
      go_wp2
      go_roundw
      case rel => exact ⟨k + 1, by omega, by go_num, by have h := (by assumption : Two w b (o + k * 2) b' (o' + k * 2) (tAt ts k) (tSh ts k) w3); exact h.2.2.2.2⟩
      case measure => simp [intOf]; omega
    · go_wp2
      go_ret
      exact ⟨rfl, hb⟩
set_option maxHeartbeats 4000000 in
theorem lawEqZone (s : ByteArray) (sh : Int) (a a' : Option Addr) (cap cap' : Nat) (ts : List (Int × Int)) (w : World) (h : IsTurns w a ts) (h' : IsTurns w a' ts) (hl : ts.length ≤ 2000000) :
    Calls Try.prog 22 #[.agg #[.string s, .int .i64 sh, .slice a ts.length cap], .agg #[.string s, .int .i64 sh, .slice a' ts.length cap']] w fun e w' => e = .returned (.bool true) ∧ Below w.heap.size w w' := by
  have hb0 := ((Below.refl w.heap.size w).alloc (Nat.le_refl _) (.cells #[.string s, .int .i64 sh, .slice a ts.length cap] 43)).alloc (by simp) (.cells #[.string s, .int .i64 sh, .slice a' ts.length cap'] 43)
  have H1 : Hid (IsTurns ((w.alloc (.cells #[.string s, .int .i64 sh, .slice a ts.length cap] 43)).alloc (.cells #[.string s, .int .i64 sh, .slice a' ts.length cap'] 43)) a ts) := h.below (B := 0) hb0
  have H2 : Hid (IsTurns ((w.alloc (.cells #[.string s, .int .i64 sh, .slice a ts.length cap] 43)).alloc (.cells #[.string s, .int .i64 sh, .slice a' ts.length cap'] 43)) a' ts) := h'.below (B := 0) hb0
  clear h h'
  go_enter Try.func22, Try.ntmps22
  go_wp2_with fail
  refine (lawEqTurns a a' cap cap' ts _ H1.out H2.out hl).mono ?_
  rintro e w1 ⟨rfl, hb1⟩
  have hbw := hb0.trans (hb1.mono (by simp; omega))
  go_wp2
  go_ret
  exact ⟨rfl, hbw⟩
def szz (s : ByteArray) (n : Nat) : Int := if s.size + n ≤ 1048576 then 1048576 - (s.size : Int) - (n : Int) else -1
set_option maxHeartbeats 4000000 in
theorem lawSzZone (s : ByteArray) (sh : Int) (a : Option Addr) (cap n : Nat) (w : World) (hs : s.size ≤ maxLen) (hn : n ≤ maxLen) :
    Calls Try.prog 12 #[.agg #[.string s, .int .i64 sh, .slice a n cap], .int .i64 1048576] w fun e w' => e = .returned (.int .i64 (szz s n)) ∧ Below w.heap.size w w' := by
  unfold maxLen at hs hn
  have hb0 := (Below.refl w.heap.size w).alloc (Nat.le_refl _) (.cells #[.string s, .int .i64 sh, .slice a n cap] 39)
  by_cases h1 : s.size ≤ 1048576
  · by_cases h2 : s.size + n ≤ 1048576
    · have HZ : Hid (szz s n = 1048576 - (s.size : Int) - (n : Int)) := if_pos h2
      go_enter Try.func12, Try.ntmps12
      go_wp2
      go_ret
      exact ⟨ret_i HZ.out.symm, hb0⟩
    · have HZ : Hid (szz s n = -1) := if_neg h2
      have h3 : (1048576 : Int) - (s.size : Int) - (n : Int) < 0 := by omega
      go_enter Try.func12, Try.ntmps12
      go_wp2
      go_ret
      exact ⟨ret_i HZ.out.symm, hb0⟩
  · have HZ : Hid (szz s n = -1) := if_neg (by omega)
    have h3 : (1048576 : Int) - (s.size : Int) < 0 := by omega
    go_enter Try.func12, Try.ntmps12
    go_wp2
    go_ret
    exact ⟨ret_i HZ.out.symm, hb0⟩
end Go.Proofs.Ytlhaldhfoeiohaa
