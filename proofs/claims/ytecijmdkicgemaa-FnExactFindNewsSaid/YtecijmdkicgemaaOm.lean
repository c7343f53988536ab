/- Lists of numbers in memory: marked, and held against their marks. -/
import Derived.Test.YtecijmdkicgemaaOi
import Derived.Laws.OwnMore
namespace Go.Proofs.Ytecijmdkicgemaa
open Go.RowKit
set_option linter.unusedVariables false
set_option linter.unusedSimpArgs false
theorem grown_trans {a b c : World} {row : Option Nat} (h : a.grownBy b row) (k : b.grownBy c row) : a.grownBy c row :=
  ⟨k.os.trans h.os, k.tape.trans h.tape, k.output.trans h.output, Nat.le_trans h.size k.size, fun i hi hn => (k.block i (Nat.lt_of_lt_of_le hi h.size) hn).trans (h.block i hi hn)⟩
theorem grown_set (w : World) (a : Addr) (v : Value) : w.grownBy (w.setCell a v) (some a.block) :=
  ⟨rfl, rfl, rfl, by simp, fun k hk hn => Below.heap_setCell w a v k (fun e => hn (by rw [e]))⟩
theorem grown_below {w w' : World} {B : Nat} {row : Option Nat} (h : w.grownBy w' row) (hB : B ≤ w.heap.size) (hr : ∀ k, row = some k → B ≤ k) : Below B w w' :=
  ⟨h.os, h.tape, h.output, h.size, fun k hk => h.block k (by omega) (fun e => by have := hr k e.symm; omega)⟩
theorem grown_drewN {w w' : World} {row : Option Nat} (h : w.grownBy w' row) (n : Nat) : w.grownBy (w'.drewN n) row := ⟨h.os, h.tape, h.output, h.size, h.block⟩
theorem IsInts.grown {w w' : World} {a : Option Addr} {l : List Int} {row : Option Nat} (h : IsInts w a l) (hg : w.grownBy w' row) (hn : ∀ x, a = some x → some x.block ≠ row) : IsInts w' a l := by
  rcases h with h | ⟨b, off, rfl, h2, h3⟩
  · exact .inl h
  · refine .inr ⟨b, off, rfl, Nat.lt_of_lt_of_le h2 hg.size, fun i hi => ?_⟩
    exact hg.cell (a := ⟨b, off + i, none⟩) (h3 i hi) (hn ⟨b, off, none⟩ rfl)
theorem OI.grown {w w' : World} {B : Nat} {v : Value} {l : List Int} {row : Option Nat} (h : OI w B v l) (hg : w.grownBy w' row) (hn : ∀ k, v.ownBlock = some k → some k ≠ row) : OI w' B v l := by
  refine World.ownsRow.kept h hg ?_
  cases hv : v.ownBlock with
  | none => exact .inl rfl
  | some k => exact .inr (hn k hv)
/-- Marks, one behind the other. -/
def mks (k : Int) (n : Nat) : List Int := (List.range n).map fun i : Nat => k + (i : Int)
theorem mks_len (k : Int) (n : Nat) : (mks k n).length = n := by simp [mks]
theorem mks_gi (k : Int) (n i : Nat) (h : i < n) : gi (mks k n) i = k + i := by rw [gi_get (by rw [mks_len]; exact h)]; simp [mks]
/-- The first i are marked. -/
def mkd (k : Int) (l : List Int) (i : Nat) : List Int := mks k i ++ l.drop i
theorem mkd_len (k : Int) (l : List Int) (i : Nat) (h : i ≤ l.length) : (mkd k l i).length = l.length := by simp [mkd, mks_len]; omega
theorem mkd_zero (k : Int) (l : List Int) : mkd k l 0 = l := by simp [mkd, mks]
theorem mkd_all (k : Int) (l : List Int) : mkd k l l.length = mks k l.length := by simp [mkd]
theorem mkd_succ (k : Int) (l : List Int) (i : Nat) (h : i < l.length) : mkd k l (i + 1) = (mkd k l i).set i (k + i) := by
  apply List.ext_getElem?
  intro j
  simp only [mkd, mks, List.getElem?_append, List.length_map, List.length_range, List.getElem?_set, List.getElem?_map, List.length_append, List.length_drop, List.getElem?_drop]
  by_cases h1 : j < i
  · rw [if_pos (by omega), if_neg (by omega), if_pos h1]; simp [List.getElem?_range, h1, show j < i + 1 by omega]
  · by_cases h2 : j = i
    · subst h2; rw [if_pos (by omega), if_pos rfl, if_pos (by omega)]; simp
    · rw [if_neg (by omega), if_neg (by omega), if_neg h1, show i + 1 + (j - (i + 1)) = i + (j - i) from by omega]
theorem OI.set {w : World} {B g cap : Nat} {l : List Int} {n : Nat} (h : OI w B (.slice (some ⟨g, 0, none⟩) n cap) l) (hn : n = l.length) (i : Nat) (x : Int) : OI (w.setCell ⟨g, i, none⟩ (.int .i64 x)) B (.slice (some ⟨g, 0, none⟩) n cap) (l.set i x) := by
  subst hn
  have := (World.ownsRow.stored (w := w) (base := B) (e := 3) (size := 1) (g := g) (n := l.length) (cap := cap) (xs := l.map (Value.int .i64)) h i (.int .i64 x)).1
  unfold OI
  rw [List.length_set, List.map_set]
  exact this
theorem OI.at {w : World} {B g cap : Nat} {l : List Int} {n : Nat} (h : OI w B (.slice (some ⟨g, 0, none⟩) n cap) l) (hn : n = l.length) {i : Nat} (hi : i < l.length) : w.cell? ⟨g, i, none⟩ = some (.int .i64 (gi l i)) ∧ w.frozen? ⟨g, i, none⟩ = false := by
  subst hn
  have hc := World.ownsRow.cellAt (w := w) (base := B) (e := 3) (size := 1) (g := g) (n := l.length) (cap := cap) (xs := l.map (Value.int .i64)) h i (by omega)
  have hf := World.ownsRow.frozenAt (w := w) (base := B) (e := 3) (size := 1) (g := g) (n := l.length) (cap := cap) (xs := l.map (Value.int .i64)) h i
  refine ⟨?_, hf⟩
  rw [hc, gi_get hi]; simp [hi]
theorem OI.shape {w : World} {B : Nat} {v : Value} {l : List Int} (h : OI w B v l) (hl : 0 < l.length) : ∃ g cap, v = .slice (some ⟨g, 0, none⟩) l.length cap ∧ B ≤ g ∧ g < w.heap.size := by
  rcases h.2 with ⟨_, h0⟩ | ⟨g, cap, cur, rfl, hB, hg, _⟩
  · omega
  · exact ⟨g, cap, rfl, hB, (Array.getElem?_eq_some_iff.1 hg).1⟩
theorem OI.shape0 {w : World} {B : Nat} {v : Value} {l : List Int} (h : OI w B v l) : ∃ a cap, v = .slice a l.length cap := by
  obtain ⟨a, cap, e, _⟩ := h.val
  exact ⟨a, cap, e⟩
theorem OI.lt {w : World} {B : Nat} {v : Value} {l : List Int} (h : OI w B v l) : ∀ k, v.ownBlock = some k → B ≤ k ∧ k < w.heap.size := World.ownsRow.lt h
set_option maxHeartbeats 4000000 in
theorem lawMarkInts (B : Nat) (v : Value) (l : List Int) (k : Int) (w : World) (h : OI w B v l) (hl : l.length ≤ 4000000) (k0 : 0 ≤ k) (k1 : k ≤ 1000000000) :
    Calls Try.prog 61 #[v, .int .i64 k] w fun e w' => e = .returned (.int .i64 (k + l.length)) ∧ OI w' B v (mks k l.length) ∧ w.grownBy w' v.ownBlock := by
  by_cases hn : 0 < l.length
  · obtain ⟨g, cap, rfl, hB, hg⟩ := h.shape hn
    have HO : Hid (OI w B (.slice (some ⟨g, 0, none⟩) l.length cap) l) := h
    clear h
    go_enter Try.func61, Try.ntmps61
    go_wp2
    go_loopw [1, 5] (fun q i wr => ∃ j : Nat, j ≤ l.length ∧ i = .int .i64 j ∧ q = .int .i64 (k + j) ∧ OI wr B (.slice (some ⟨g, 0, none⟩) l.length cap) (mkd k l j) ∧ w.grownBy wr (some g)) (fun _ i _ => l.length - (intOf i).toNat)
    case atStart => exact ⟨0, by omega, rfl, by go_num, by rw [mkd_zero]; exact HO.out, World.grownBy.refl _ _⟩
    case round =>
      obtain ⟨j, hj, rfl, rfl, O, G⟩ := hrel
      by_cases hlt : j < l.length
      · have ml := mkd_len k l j (by omega)
        obtain ⟨c0, f0⟩ := O.at (i := j) ml.symm (by omega)
        have FIN : Hid (OI (wr.setCell ⟨g, j, none⟩ (.int .i64 (k + j))) B (.slice (some ⟨g, 0, none⟩) l.length cap) (mkd k l (j + 1)) ∧ w.grownBy (wr.setCell ⟨g, j, none⟩ (.int .i64 (k + j))) (some g)) := ⟨by rw [mkd_succ k l j hlt]; exact O.set ml.symm j _, grown_trans G (grown_set wr ⟨g, j, none⟩ _)⟩
        clear O G ml
        have hi1 : (j : Int) < (l.length : Int) := by omega
        go_wp2
        go_roundw
        case rel => exact ⟨j + 1, by omega, by go_num, by go_num, FIN.out.1, FIN.out.2⟩
        case measure => first | (simp [intOf]; done) | (simp [intOf]; omega)
      · have hjj : j = l.length := by omega
        subst hjj
        have FIN : Hid (OI wr B (.slice (some ⟨g, 0, none⟩) l.length cap) (mks k l.length)) := by rw [mkd_all] at O; exact O
        clear O
        go_wp2
        go_ret
        exact ⟨rfl, FIN.out, G⟩
  · have e0 : l = [] := List.length_eq_zero_iff.1 (by omega)
    subst e0
    obtain ⟨a, cap, rfl⟩ := h.shape0
    have HO : Hid (OI w B (.slice a ([] : List Int).length cap) []) := h
    clear h
    go_enter Try.func61, Try.ntmps61
    go_wp2
    refine wp_loop_rounds 1 ?_; rw [rounds_succ]
    go_wp2
    go_ret
    exact ⟨ret_i (by simp), by simpa [mks] using HO.out, World.grownBy.refl _ _⟩
set_option maxHeartbeats 4000000 in
theorem lawHeldInts (a : Option Addr) (cap n : Nat) (k : Int) (w : World) (h : IsInts w a (mks k n)) (hl : n ≤ 4000000) (k0 : 0 ≤ k) (k1 : k ≤ 1000000000) :
    Calls Try.prog 63 #[.slice a n cap, .int .i64 k] w fun e w' => e = .returned (.int .i64 (k + n)) ∧ Below w.heap.size w w' := by
  have HI : Hid (IsInts w a (mks k n)) := h
  clear h
  go_enter Try.func63, Try.ntmps63
  go_wp2
  go_loopw [1, 5] (fun q i wr => ∃ j : Nat, j ≤ n ∧ i = .int .i64 j ∧ q = .int .i64 (k + j) ∧ Below w.heap.size w wr) (fun _ i _ => n - (intOf i).toNat)
  case atStart => exact ⟨0, by omega, rfl, by go_num, Below.refl _ _⟩
  case round =>
    obtain ⟨j, hj, rfl, rfl, hb⟩ := hrel
    by_cases hlt : j < n
    · have I := HI.out.below hb
      rcases I with I | ⟨b, off, rfl, hbs, hc⟩
      · have := congrArg List.length I; rw [mks_len] at this; simp at this; omega
      have c0 := hc j (by rw [mks_len]; exact hlt)
      rw [mks_gi k n j hlt] at c0
      clear hc
      have hi1 : (j : Int) < (n : Int) := by omega
      go_wp2
      first | go_quiet (fail) | skip
      go_wp2
      go_roundw
      case rel => exact ⟨j + 1, by omega, by go_num, by go_num, by first | exact hb | exact Below.drewN' hb _⟩
      case measure => first | (simp [intOf]; done) | (simp [intOf]; omega)
    · have hjj : j = n := by omega
      subst hjj
      go_wp2
      go_ret
      exact ⟨rfl, hb⟩
end Go.Proofs.Ytecijmdkicgemaa
