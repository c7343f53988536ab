/- The reader that draws: what a draw leaves of memory, and that each draw is within its bounds. -/
import Derived.Test.YtkbgbccehijckaaBs
import Derived.WalkKit
import Derived.WalkLawsBesides
import Derived.Below
import Derived.Deep.QuietTactic
import Derived.BigQuiet
import Derived.Outline
import Derived.Laws.BitsAllLaws
namespace Go.Proofs.Ytkbgbccehijckaa
open Go.RowKit
set_option linter.unusedVariables false

/-- Below block B the world is as it was, but for block rb. -/
structure But (rb B : Nat) (w w' : World) : Prop where
  os : w'.os = w.os
  tape : w'.tape = w.tape
  output : w'.output = w.output
  size : w.heap.size ≤ w'.heap.size
  block : ∀ k, k < B → k ≠ rb → w'.heap[k]? = w.heap[k]?

theorem But.refl (rb B : Nat) (w : World) : But rb B w w := ⟨rfl, rfl, rfl, Nat.le_refl _, fun _ _ _ => rfl⟩
theorem But.trans {rb B : Nat} {a b c : World} (h : But rb B a b) (k : But rb B b c) : But rb B a c :=
  ⟨k.os.trans h.os, k.tape.trans h.tape, k.output.trans h.output, Nat.le_trans h.size k.size, fun i hi hr => (k.block i hi hr).trans (h.block i hi hr)⟩
theorem But.mono {rb B B' : Nat} {w w' : World} (h : But rb B w w') (hB : B' ≤ B) : But rb B' w w' := ⟨h.os, h.tape, h.output, h.size, fun k hk hr => h.block k (Nat.lt_of_lt_of_le hk hB) hr⟩
theorem But.drewN {rb B : Nat} {a w : World} (h : But rb B a w) (n : Nat) : But rb B a (w.drewN n) := ⟨h.os, h.tape, h.output, h.size, h.block⟩
theorem But.drew {rb B : Nat} {a w : World} (h : But rb B a w) : But rb B a w.drew := ⟨h.os, h.tape, h.output, h.size, h.block⟩
theorem But.of_below {rb B : Nat} {w w' : World} (h : Below B w w') : But rb B w w' := ⟨h.os, h.tape, h.output, h.size, fun k hk _ => h.block k hk⟩
theorem But.below {rb B : Nat} {w w' : World} (h : But rb B w w') (hb : B ≤ rb) : Below B w w' := ⟨h.os, h.tape, h.output, h.size, fun k hk => h.block k hk (by omega)⟩
theorem But.alloc {rb B : Nat} {a w : World} (h : But rb B a w) (hB : B ≤ w.heap.size) (o : Obj) : But rb B a (w.alloc o) :=
  h.trans (But.of_below ((Below.refl _ _).alloc hB o))
theorem But.setCell {rb B : Nat} {a w : World} (h : But rb B a w) {p : Addr} (hp : B ≤ p.block ∨ p.block = rb) (u : Value) : But rb B a (w.setCell p u) :=
  h.trans ⟨rfl, rfl, rfl, by simp [World.setCell], fun k hk hr => Below.heap_setCell _ _ _ _ (by omega)⟩
theorem But.cell {rb B : Nat} {w w' : World} (h : But rb B w w') {p : Addr} (hp : p.block < B) (hr : p.block ≠ rb) : w'.cell? p = w.cell? p := World.cell?_of_block (w := w) (h.block p.block hp hr)
theorem But.frozen {rb B : Nat} {w w' : World} (h : But rb B w w') {p : Addr} (hp : p.block < B) (hr : p.block ≠ rb) : w'.frozen? p = w.frozen? p := World.frozen?_of_block (w := w) (h.block p.block hp hr)

theorem cell_far (w : World) (p a : Addr) (v : Value) (h : p.block ≠ a.block) : (w.setCell p v).cell? a = w.cell? a :=
  World.cell?_of_block (w := w) (Below.heap_setCell _ _ _ _ (Ne.symm h))

/-- The reader lies in block rb: its code has at most 2000 bytes, and at most L picks have been made. -/
def Rd (w : World) (rb L : Nat) : Prop := ∃ (p : Int) (a : Option Addr) (len cap : Nat), 0 ≤ p ∧ p ≤ L ∧ len ≤ 2000 ∧ rb < w.heap.size ∧
  w.cell? ⟨rb, 0, none⟩ = some (.slice a len cap) ∧ w.cell? ⟨rb, 1, none⟩ = some (.int .i64 p) ∧ w.frozen? ⟨rb, 1, none⟩ = false ∧
  (len = 0 ∨ ∃ b off, a = some ⟨b, off, none⟩ ∧ b < rb ∧ ∀ i, i < len → ∃ z : Int, 0 ≤ z ∧ z ≤ 255 ∧ w.cell? ⟨b, off + i, none⟩ = some (.int .u8 z))

theorem Rd.size {w : World} {rb L : Nat} (h : Rd w rb L) : rb < w.heap.size := by obtain ⟨p, a, len, cap, _, _, _, h, _⟩ := h; exact h
theorem Rd.mono {w : World} {rb L L' : Nat} (h : Rd w rb L) (hl : L ≤ L') : Rd w rb L' := by
  obtain ⟨p, a, len, cap, h0, h1, h⟩ := h; exact ⟨p, a, len, cap, h0, by omega, h⟩

/-- Behind what turns no old block the reader is as it was. -/
theorem Rd.below {w w' : World} {rb L : Nat} (h : Rd w rb L) (hb : Below w.heap.size w w') : Rd w' rb L := by
  obtain ⟨p, a, len, cap, h0, h1, h2, h3, h4, h5, h6, h7⟩ := h
  refine ⟨p, a, len, cap, h0, h1, h2, Nat.lt_of_lt_of_le h3 hb.size, ?_, ?_, ?_, ?_⟩
  · rw [hb.cell (p := ⟨rb, 0, none⟩) h3]; exact h4
  · rw [hb.cell (p := ⟨rb, 1, none⟩) h3]; exact h5
  · rw [hb.frozen (p := ⟨rb, 1, none⟩) h3]; exact h6
  · rcases h7 with h7 | ⟨b, off, h8, h9, h11⟩
    · exact .inl h7
    · refine .inr ⟨b, off, h8, h9, fun i hi => ?_⟩
      obtain ⟨z, z0, z1, z2⟩ := h11 i hi
      exact ⟨z, z0, z1, by rw [hb.cell (p := ⟨b, off + i, none⟩) (Nat.lt_trans h9 h3)]; exact z2⟩

/-- A store into a later block leaves the reader as it was. -/
theorem Rd.setCell {w : World} {rb L : Nat} (h : Rd w rb L) {p : Addr} (hp : rb < p.block) (v : Value) : Rd (w.setCell p v) rb L := by
  obtain ⟨q, a, len, cap, h0, h1, h2, h3, h4, h5, h6, h7⟩ := h
  refine ⟨q, a, len, cap, h0, h1, h2, by simpa using h3, ?_, ?_, ?_, ?_⟩
  · rw [cell_far _ _ _ _ (by simp; omega)]; exact h4
  · rw [cell_far _ _ _ _ (by simp; omega)]; exact h5
  · rw [World.frozen?_setCell]; exact h6
  · rcases h7 with h7 | ⟨b, off, h8, h9, h11⟩
    · exact .inl h7
    · refine .inr ⟨b, off, h8, h9, fun i hi => ?_⟩
      obtain ⟨z, z0, z1, z2⟩ := h11 i hi
      exact ⟨z, z0, z1, by rw [cell_far _ _ _ _ (by simp; omega)]; exact z2⟩

set_option maxHeartbeats 1000000 in
theorem pick_low (n : Int) (w : World) (rb L : Nat) (h : Rd w rb L) (hL : L ≤ 1099511627776) (hn : n < 1) :
    Calls Try.prog 50 #[.pointer (some ⟨rb, 0, none⟩), .int .i64 n] w fun e w' => e = .returned (.int .i64 0) ∧ ∃ p : Int, 0 ≤ p ∧ p ≤ L ∧ w' = w.setCell ⟨rb, 1, none⟩ (.int .i64 (p + 1)) := by
  obtain ⟨p, a, len, cap, h0, h1, h2, h3, h4, h5, h6, h7⟩ := h
  clear h7
  have h8 : p ≤ 1099511627776 := by omega
  go_enter Try.func50, Try.ntmps50
  go_wp2
  go_ret
  exact ⟨rfl, p, h0, h1, rfl⟩

set_option maxHeartbeats 1000000 in
theorem pick_none (n : Int) (w : World) (rb : Nat) (p : Int) (a : Option Addr) (cap : Nat) (h0 : 0 ≤ p) (h8 : p ≤ 1099511627776) (h4 : w.cell? ⟨rb, 0, none⟩ = some (.slice a 0 cap)) (h5 : w.cell? ⟨rb, 1, none⟩ = some (.int .i64 p)) (h6 : w.frozen? ⟨rb, 1, none⟩ = false) (hn : 1 ≤ n) :
    Calls Try.prog 50 #[.pointer (some ⟨rb, 0, none⟩), .int .i64 n] w fun e w' => e = .returned (.int .i64 0) ∧ w' = w.setCell ⟨rb, 1, none⟩ (.int .i64 (p + 1)) := by
  go_enter Try.func50, Try.ntmps50
  go_wp2
  go_ret
  exact ⟨rfl, rfl⟩

set_option maxHeartbeats 1000000 in
theorem pick_in (n : Int) (w : World) (rb : Nat) (p : Nat) (b off len cap : Nat) (z : Int) (h8 : p < len) (hl : len ≤ 2000) (hb : b ≠ rb) (h4 : w.cell? ⟨rb, 0, none⟩ = some (.slice (some ⟨b, off, none⟩) len cap)) (h5 : w.cell? ⟨rb, 1, none⟩ = some (.int .i64 p)) (h6 : w.frozen? ⟨rb, 1, none⟩ = false) (hz0 : 0 ≤ z) (hz1 : z ≤ 255) (hz : w.cell? ⟨b, off + p, none⟩ = some (.int .u8 z)) (hn : 1 ≤ n) :
    Calls Try.prog 50 #[.pointer (some ⟨rb, 0, none⟩), .int .i64 n] w fun e w' => e = .returned (.int .i64 (z % n)) ∧ w' = w.setCell ⟨rb, 1, none⟩ (.int .i64 (p + 1)) := by
  have hne : ((len : Int) == 0) = false := by simp; omega
  have hzz : (w.setCell ⟨rb, 1, none⟩ (.int .i64 ((p : Int) + 1))).cell? ⟨b, off + p, none⟩ = some (.int .u8 z) := by
    rw [cell_far _ _ _ _ (Ne.symm hb)]; exact hz
  go_enter Try.func50, Try.ntmps50
  go_wp2
  go_ret
  exact ⟨rfl, rfl⟩

theorem mod_bd (x : Int) (l : Nat) (h : 0 < l) (hx : 0 ≤ x) : 0 ≤ x.tmod (l : Int) ∧ x.tmod (l : Int) < l :=
  ⟨Int.tmod_nonneg _ hx, Int.tmod_lt_of_pos _ (by omega)⟩
theorem div_bd (x : Int) (l : Nat) (h : 0 < l) (hx : 0 ≤ x) : 0 ≤ x.tdiv (l : Int) ∧ x.tdiv (l : Int) ≤ x :=
  ⟨Int.tdiv_nonneg hx (by omega), Int.tdiv_le_self _ hx⟩

theorem i64_xor_nonneg (a b : Int) (h1 : 0 ≤ a) (h2 : a ≤ 9223372036854775807) (h3 : 0 ≤ b) (h4 : b ≤ 9223372036854775807) : 0 ≤ bits .xor .i64 a b := by
  obtain ⟨A, rfl⟩ := Int.eq_ofNat_of_zero_le h1
  obtain ⟨B, rfl⟩ := Int.eq_ofNat_of_zero_le h3
  have hx : A ^^^ B < 2 ^ 63 := Nat.xor_lt_two_pow (by omega) (by omega)
  show 0 ≤ IntKind.i64.wrap ((BitVec.ofInt 64 (A : Int) ^^^ BitVec.ofInt 64 (B : Int)).toNat : Int)
  rw [BitVec.toNat_xor, ofInt_u64 A (by omega), ofInt_u64 B (by omega), IntKind.wrap_i64]
  omega

theorem pick_fin (p len : Nat) (z1 z2 n : Int) (hz0 : 0 ≤ z1) (hz1 : z1 ≤ 255) (hy0 : 0 ≤ z2) (hy1 : z2 ≤ 255) (h8 : p ≤ 1099511627776) (hl : 0 < len) (hn : 1 ≤ n) :
    0 ≤ (bits .xor .i64 (wrap64 (z1 * 131 + z2 * 1117 + (p : Int) * 29 + wrap64 (wrap64 ((p : Int) / (len : Int)) * 53))) (wrap64 ((wrap64 (z1 * 131 + z2 * 1117 + (p : Int) * 29 + wrap64 (wrap64 ((p : Int) / (len : Int)) * 53))).tdiv 64))).tmod n ∧
    (bits .xor .i64 (wrap64 (z1 * 131 + z2 * 1117 + (p : Int) * 29 + wrap64 (wrap64 ((p : Int) / (len : Int)) * 53))) (wrap64 ((wrap64 (z1 * 131 + z2 * 1117 + (p : Int) * 29 + wrap64 (wrap64 ((p : Int) / (len : Int)) * 53))).tdiv 64))).tmod n < n := by
  have q0 : 0 ≤ (p : Int) / (len : Int) := Int.ediv_nonneg (by omega) (by omega)
  have q1 : (p : Int) / (len : Int) ≤ p := Int.ediv_le_self _ (by omega)
  generalize (p : Int) / (len : Int) = q at q0 q1
  rw [IntWalk.wrap64_in q (by omega), IntWalk.wrap64_in (q * 53) (by omega), IntWalk.wrap64_in (z1 * 131 + z2 * 1117 + (p : Int) * 29 + q * 53) (by omega)]
  generalize hX : z1 * 131 + z2 * 1117 + (p : Int) * 29 + q * 53 = X
  have x0 : 0 ≤ X := by omega
  have x1 : X ≤ 9223372036854775807 := by omega
  have d0 : 0 ≤ X.tdiv 64 := Int.tdiv_nonneg x0 (by omega)
  have d1 : X.tdiv 64 ≤ X := Int.tdiv_le_self _ x0
  rw [IntWalk.wrap64_in (X.tdiv 64) (by omega)]
  exact ⟨Int.tmod_nonneg _ (i64_xor_nonneg _ _ x0 x1 d0 (by omega)), Int.tmod_lt_of_pos _ (by omega)⟩

set_option maxHeartbeats 1000000 in
theorem pick_past (n : Int) (w : World) (rb : Nat) (p : Nat) (b off len cap : Nat) (z1 z2 : Int) (h7 : len ≤ p) (h8 : p ≤ 1099511627776) (hl0 : 0 < len) (hl : len ≤ 2000) (hb : b ≠ rb) (h4 : w.cell? ⟨rb, 0, none⟩ = some (.slice (some ⟨b, off, none⟩) len cap)) (h5 : w.cell? ⟨rb, 1, none⟩ = some (.int .i64 p)) (h6 : w.frozen? ⟨rb, 1, none⟩ = false) (hz0 : 0 ≤ z1) (hz1 : z1 ≤ 255) (hz : w.cell? ⟨b, off + ((p : Int).tmod (len : Int)).toNat, none⟩ = some (.int .u8 z1)) (hy0 : 0 ≤ z2) (hy1 : z2 ≤ 255) (hy : w.cell? ⟨b, off + (((p : Int) * 7 + 3).tmod (len : Int)).toNat, none⟩ = some (.int .u8 z2)) (hn : 1 ≤ n) :
    Calls Try.prog 50 #[.pointer (some ⟨rb, 0, none⟩), .int .i64 n] w fun e w' => (∃ r : Int, e = .returned (.int .i64 r) ∧ 0 ≤ r ∧ r < n) ∧ ∃ nq, w' = (w.setCell ⟨rb, 1, none⟩ (.int .i64 (p + 1))).drewN nq := by
  have hne : ((len : Int) == 0) = false := by simp; omega
  have hge : ¬ ((p : Int) < (len : Int)) := by omega
  have hzz : (w.setCell ⟨rb, 1, none⟩ (.int .i64 ((p : Int) + 1))).cell? ⟨b, off + ((p : Int).tmod (len : Int)).toNat, none⟩ = some (.int .u8 z1) := by
    rw [cell_far _ _ _ _ (Ne.symm hb)]; exact hz
  have hyy : (w.setCell ⟨rb, 1, none⟩ (.int .i64 ((p : Int) + 1))).cell? ⟨b, off + (((p : Int) * 7 + 3).tmod (len : Int)).toNat, none⟩ = some (.int .u8 z2) := by
    rw [cell_far _ _ _ _ (Ne.symm hb)]; exact hy
  have hlz : ¬ len = 0 := by omega
  obtain ⟨b1a, b1b⟩ := mod_bd (p : Int) len hl0 (by omega)
  obtain ⟨b2a, b2b⟩ := mod_bd ((p : Int) * 7 + 3) len hl0 (by omega)
  obtain ⟨b3a, b3b⟩ := div_bd (p : Int) len hl0 (by omega)
  have k1 := IntWalk.i64_in ((p : Int) * 7) (by omega)
  have k2 := IntWalk.i64_in ((p : Int) * 7 + 3) (by omega)
  have k3 := IntWalk.i64_in z1 (by omega)
  have k4 := IntWalk.i64_in (z1 * 131) (by omega)
  have k5 := IntWalk.i64_in z2 (by omega)
  have k6 := IntWalk.i64_in (z2 * 1117) (by omega)
  have k7 := IntWalk.i64_in (z1 * 131 + z2 * 1117) (by omega)
  have k8 := IntWalk.i64_in ((p : Int) * 29) (by omega)
  have k9 := IntWalk.i64_in (z1 * 131 + z2 * 1117 + (p : Int) * 29) (by omega)
  have k10 := IntWalk.i64_in ((p : Int).tdiv (len : Int)) (by omega)
  have k11 := IntWalk.i64_in ((p : Int).tdiv (len : Int) * 53) (by omega)
  have k12 := IntWalk.i64_in (z1 * 131 + z2 * 1117 + (p : Int) * 29 + (p : Int).tdiv (len : Int) * 53) (by omega)
  go_enter Try.func50, Try.ntmps50
  go_wp2
  go_quiet (fail)
  clear k1 k2 k3 k4 k5 k6 k7 k8 k9 k10 k11 k12
  go_wp2
  go_ret
  exact ⟨⟨_, rfl, pick_fin p len z1 z2 n hz0 hz1 hy0 hy1 h8 hl0 hn⟩, _, rfl⟩

theorem Rd.picked {w : World} {rb L : Nat} {p : Int} {a : Option Addr} {len cap : Nat} (h0 : 0 ≤ p) (h1 : p ≤ L) (h2 : len ≤ 2000) (h3 : rb < w.heap.size)
    (h4 : w.cell? ⟨rb, 0, none⟩ = some (.slice a len cap)) (h5 : w.cell? ⟨rb, 1, none⟩ = some (.int .i64 p)) (h6 : w.frozen? ⟨rb, 1, none⟩ = false)
    (h7 : len = 0 ∨ ∃ b off, a = some ⟨b, off, none⟩ ∧ b < rb ∧ ∀ i, i < len → ∃ z : Int, 0 ≤ z ∧ z ≤ 255 ∧ w.cell? ⟨b, off + i, none⟩ = some (.int .u8 z)) (nq : Nat) :
    Rd ((w.setCell ⟨rb, 1, none⟩ (.int .i64 (p + 1))).drewN nq) rb (L + 1) ∧ But rb w.heap.size w ((w.setCell ⟨rb, 1, none⟩ (.int .i64 (p + 1))).drewN nq) := by
  refine ⟨⟨p + 1, a, len, cap, by omega, by omega, h2, ?_, ?_, ?_, ?_, ?_⟩, ((But.refl _ _ _).setCell (p := ⟨rb, 1, none⟩) (.inr rfl) _).drewN nq⟩
  · show rb < (w.setCell ⟨rb, 1, none⟩ (.int .i64 (p + 1))).heap.size
    simpa using h3
  · rw [World.cell?_drewN, World.cell?_setCell_other _ _ _ _ (by simp)]; exact h4
  · rw [World.cell?_drewN]; exact World.cell?_setCell_same _ _ _ h5
  · rw [World.frozen?_drewN, World.frozen?_setCell]; exact h6
  · rcases h7 with h7 | ⟨b, off, h8, h9, h11⟩
    · exact .inl h7
    · refine .inr ⟨b, off, h8, h9, fun i hi => ?_⟩
      obtain ⟨z, z0, z1, z2⟩ := h11 i hi
      exact ⟨z, z0, z1, by rw [World.cell?_drewN, cell_far _ _ _ _ (by simp; omega)]; exact z2⟩

/-- A pick of n, n at least 1: from 0 on, below n. -/
theorem pick_pos (n : Int) (w : World) (rb L : Nat) (h : Rd w rb L) (hL : L ≤ 1099511627776) (hn : 1 ≤ n) :
    Calls Try.prog 50 #[.pointer (some ⟨rb, 0, none⟩), .int .i64 n] w fun e w' => (∃ r : Int, e = .returned (.int .i64 r) ∧ 0 ≤ r ∧ r < n) ∧ Rd w' rb (L + 1) ∧ But rb w.heap.size w w' := by
  obtain ⟨p, a, len, cap, h0, h1, h2, h3, h4, h5, h6, h7⟩ := h
  have hp := fun nq => Rd.picked h0 h1 h2 h3 h4 h5 h6 h7 nq
  by_cases hl : len = 0
  · subst hl
    refine (pick_none n w rb p a cap h0 (by omega) h4 h5 h6 hn).mono fun e w' hh => ?_
    obtain ⟨he, hw⟩ := hh
    subst he; subst hw
    exact ⟨⟨0, rfl, by omega, by omega⟩, hp 0⟩
  · rcases h7 with h7 | ⟨b, off, rfl, h9', h11⟩
    · exact absurd h7 hl
    · have h9 : b ≠ rb := by omega
      obtain ⟨P, rfl⟩ := Int.eq_ofNat_of_zero_le h0
      by_cases hlt : P < len
      · obtain ⟨z, z0, z1, z2⟩ := h11 P hlt
        refine (pick_in n w rb P b off len cap z hlt h2 h9 h4 h5 h6 z0 z1 z2 hn).mono fun e w' hh => ?_
        obtain ⟨he, hw⟩ := hh
        subst he; subst hw
        exact ⟨⟨_, rfl, Int.emod_nonneg _ (by omega), Int.emod_lt_of_pos _ (by omega)⟩, hp 0⟩
      · have m1 := mod_bd (P : Int) len (by omega) (by omega)
        have m2 := mod_bd ((P : Int) * 7 + 3) len (by omega) (by omega)
        obtain ⟨z, z0, z1, z2⟩ := h11 ((P : Int).tmod (len : Int)).toNat (by omega)
        obtain ⟨y, y0, y1, y2⟩ := h11 (((P : Int) * 7 + 3).tmod (len : Int)).toNat (by omega)
        refine (pick_past n w rb P b off len cap z y (by omega) (by omega) (by omega) h2 h9 h4 h5 h6 z0 z1 z2 y0 y1 y2 hn).mono fun e w' hh => ?_
        obtain ⟨he, nq, hw⟩ := hh
        subst hw
        exact ⟨he, hp nq⟩

/-- The reader of a code that came in: a new block, no pick yet. -/
def IsCode (w : World) (a : Option Addr) (len cap : Nat) : Prop := len ≤ cap ∧ cap ≤ 9223372036854775807 ∧
  (len = 0 ∨ ∃ b off, a = some ⟨b, off, none⟩ ∧ b < w.heap.size ∧ ∀ i, i < len → ∃ z : Int, 0 ≤ z ∧ z ≤ 255 ∧ w.cell? ⟨b, off + i, none⟩ = some (.int .u8 z))

theorem IsCode.below {w w' : World} {a : Option Addr} {len cap : Nat} (h : IsCode w a len cap) (hb : Below w.heap.size w w') : IsCode w' a len cap := by
  obtain ⟨h0, h1, h2⟩ := h
  refine ⟨h0, h1, ?_⟩
  rcases h2 with h2 | ⟨b, off, h3, h4, h5⟩
  · exact .inl h2
  · refine .inr ⟨b, off, h3, Nat.lt_of_lt_of_le h4 hb.size, fun i hi => ?_⟩
    obtain ⟨z, z0, z1, z2⟩ := h5 i hi
    exact ⟨z, z0, z1, by rw [hb.cell (p := ⟨b, off + i, none⟩) h4]; exact z2⟩

theorem Rd.opened {w : World} {a : Option Addr} {len cap : Nat} (hl : len ≤ 2000) (h : len = 0 ∨ ∃ b off, a = some ⟨b, off, none⟩ ∧ b < w.heap.size ∧ ∀ i, i < len → ∃ z : Int, 0 ≤ z ∧ z ≤ 255 ∧ w.cell? ⟨b, off + i, none⟩ = some (.int .u8 z)) :
    Rd (w.alloc (.cells #[.slice a len cap, .int .i64 0] 81)) w.heap.size 0 := by
  refine ⟨0, a, len, cap, by omega, by omega, hl, by simp, by simp, by simp, ?_, ?_⟩
  · simp
  · rcases h with h | ⟨b, off, h3, h4, h5⟩
    · exact .inl h
    · refine .inr ⟨b, off, h3, h4, fun i hi => ?_⟩
      obtain ⟨z, z0, z1, z2⟩ := h5 i hi
      exact ⟨z, z0, z1, by rw [((Below.refl w.heap.size w).alloc (Nat.le_refl _) _).cell (p := ⟨b, off + i, none⟩) h4]; exact z2⟩

set_option maxHeartbeats 1000000 in
theorem open_any (w : World) (a : Option Addr) (len cap : Nat) (h : IsCode w a len cap) :
    Calls Try.prog 49 #[.slice a len cap] w fun e w' => e = .returned (.pointer (some ⟨w.heap.size, 0, none⟩)) ∧ Rd w' w.heap.size 0 ∧ Below w.heap.size w w' := by
  obtain ⟨h0, h1, h2⟩ := h
  by_cases hl : len ≤ 2000
  · have hr := Rd.opened (cap := cap) hl h2
    have HR : Hid (Rd (w.alloc (.cells #[.slice a len cap, .int .i64 0] 81)) w.heap.size 0) := hr
    clear hr h2
    go_enter Try.func49, Try.ntmps49
    go_wp2
    go_ret
    exact ⟨rfl, HR.out, (Below.refl _ _).alloc (Nat.le_refl _) _⟩
  · rcases h2 with h2 | ⟨b, off, rfl, h4, h5⟩
    · omega
    · have hr := Rd.opened (w := w) (a := some ⟨b, off, none⟩) (len := 2000) (cap := cap) (by omega) (.inr ⟨b, off, rfl, h4, fun i hi => h5 i (by omega)⟩)
      have HR : Hid (Rd (w.alloc (.cells #[.slice (some ⟨b, off, none⟩) 2000 cap, .int .i64 0] 81)) w.heap.size 0) := hr
      clear hr h5
      go_enter Try.func49, Try.ntmps49
      go_wp2
      go_ret
      exact ⟨rfl, HR.out, (Below.refl _ _).alloc (Nat.le_refl _) _⟩
end Go.Proofs.Ytkbgbccehijckaa
