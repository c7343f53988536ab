/- Rules: their lists as they lie in memory, and when they are ok. -/
import Derived.Test.YtlfglhpepoepcaaDoorZn
import Derived.Test.YtlfglhpepoepcaaDoorOi
namespace Go.Proofs.YtlfglhpepoepcaaDoor
open Go.RowKit
set_option linter.unusedVariables false

def nstB (l : List Int) (lo hi : Int) (i : Nat) : Bool := decide ((lo ≤ gi l i ∧ gi l i ≤ hi) ∧ gi l i ≠ 0 ∧ (0 < i → gi l (i - 1) < gi l i))
theorem nst_iff (l : List Int) (lo hi : Int) (i : Nat) : nstB l lo hi i = true ↔ (lo ≤ gi l i ∧ gi l i ≤ hi) ∧ gi l i ≠ 0 ∧ (0 < i → gi l (i - 1) < gi l i) := by unfold nstB; exact decide_eq_true_iff
def nuA (l : List Int) (lo hi : Int) : Bool := decide (∀ i : Nat, (h : i < l.length) → nstB l lo hi i = true)
theorem nuA_iff (l : List Int) (lo hi : Int) : nuA l lo hi = true ↔ ∀ i : Nat, i < l.length → nstB l lo hi i = true := by unfold nuA; exact decide_eq_true_iff
/-- Numbers are ok. -/
def nuB (l : List Int) (lo hi : Int) : Bool := decide (l.length ≤ 8) && nuA l lo hi
theorem nu_len {l : List Int} {lo hi : Int} (h : ¬ l.length ≤ 8) : nuB l lo hi = false := by unfold nuB; rw [decide_eq_false h, Bool.false_and]
theorem nu_bad {l : List Int} {lo hi : Int} {i : Nat} (h : i < l.length) (hb : nstB l lo hi i = false) : nuB l lo hi = false := by
  unfold nuB
  have : nuA l lo hi = false := by
    cases hc : nuA l lo hi with
    | false => rfl
    | true => have := (nuA_iff l lo hi).1 hc i h; rw [hb] at this; cases this
  rw [this, Bool.and_false]
theorem nu_all {l : List Int} {lo hi : Int} (ha : ∀ i, i < l.length → nstB l lo hi i = true) : nuB l lo hi = decide ((l.length : Int) ≤ 8) := by
  unfold nuB
  rw [(nuA_iff l lo hi).2 ha, Bool.and_true, Bool.eq_iff_iff, decide_eq_true_iff, decide_eq_true_iff]
  omega
theorem nst_snoc {l : List Int} {lo hi : Int} {k : Nat} (ha : ∀ j, j < k → nstB l lo hi j = true) (hk : nstB l lo hi k = true) : ∀ j, j < k + 1 → nstB l lo hi j = true := fun j hj => by
  by_cases hjk : j = k
  · subst hjk; exact hk
  · exact ha j (by omega)
def ahB (x y x' y' : Int) : Bool := decide (y < y' ∨ y = y' ∧ x < x')
theorem ah_iff (x y x' y' : Int) : ahB x y x' y' = true ↔ (y < y' ∨ y = y' ∧ x < x') := by unfold ahB; exact decide_eq_true_iff
theorem ah_not (x y x' y' : Int) : ahB x y x' y' = false ↔ ¬ (y < y' ∨ y = y' ∧ x < x') := by unfold ahB; exact decide_eq_false_iff_not
def dstB (l : List (Int × Int)) (m : Int) (i : Nat) : Bool := inB (tSh l i) 0 6 && (inB (tAt l i) (-m) m && decide (0 < i → ahB (tAt l (i - 1)) (tSh l (i - 1)) (tAt l i) (tSh l i) = true))
def dsA (l : List (Int × Int)) (m : Int) : Bool := decide (∀ i : Nat, (h : i < l.length) → dstB l m i = true)
theorem dsA_iff (l : List (Int × Int)) (m : Int) : dsA l m = true ↔ ∀ i : Nat, i < l.length → dstB l m i = true := by unfold dsA; exact decide_eq_true_iff
/-- Days of the week are ok. -/
def dsB (l : List (Int × Int)) (m : Int) : Bool := decide (l.length ≤ 8) && dsA l m
theorem ds_len {l : List (Int × Int)} {m : Int} (h : ¬ l.length ≤ 8) : dsB l m = false := by unfold dsB; rw [decide_eq_false h, Bool.false_and]
theorem dsA_bad {l : List (Int × Int)} {m : Int} {i : Nat} (h : i < l.length) (hb : dstB l m i = false) : dsA l m = false := by
  cases hc : dsA l m with
  | false => rfl
  | true => have := (dsA_iff l m).1 hc i h; rw [hb] at this; cases this
theorem ds_bad {l : List (Int × Int)} {m : Int} {i : Nat} (h : i < l.length) (hb : dstB l m i = false) : dsB l m = false := by
  unfold dsB; rw [dsA_bad h hb, Bool.and_false]
theorem ds_all {l : List (Int × Int)} {m : Int} (ha : ∀ i, i < l.length → dstB l m i = true) : dsB l m = decide (l.length ≤ 8) := by
  unfold dsB; rw [(dsA_iff l m).2 ha, Bool.and_true]
theorem dst_snoc {l : List (Int × Int)} {m : Int} {k : Nat} (ha : ∀ j, j < k → dstB l m j = true) (hk : dstB l m k = true) : ∀ j, j < k + 1 → dstB l m j = true := fun j hj => by
  by_cases hjk : j = k
  · subst hjk; exact hk
  · exact ha j (by omega)
/-- Up to which number days of the week are counted. -/
def numM (f : Int) (n : Nat) : Int := if f = 4 ∧ n = 0 then 53 else if f = 4 ∨ f = 3 then 5 else 0
theorem numM_in (f : Int) (n : Nat) : 0 ≤ numM f n ∧ numM f n ≤ 53 := by
  unfold numM
  split
  · omega
  · split <;> omega
def ofB (f e c u wk : Int) : Bool := inB f 1 4 && (inB e 1 100 && (inB c 0 500 && (inB u 0 3652058 && (decide (c = 0 ∨ u = 0) && inB wk 0 6))))
theorem of_iff (f e c u wk : Int) : ofB f e c u wk = true ↔ (1 ≤ f ∧ f ≤ 4) ∧ (1 ≤ e ∧ e ≤ 100) ∧ (0 ≤ c ∧ c ≤ 500) ∧ (0 ≤ u ∧ u ≤ 3652058) ∧ (c = 0 ∨ u = 0) ∧ (0 ≤ wk ∧ wk ≤ 6) := by
  unfold ofB; simp only [Bool.and_eq_true, in_iff, decide_eq_true_iff]
def liB (f : Int) (n : Nat) (da mo pl : List Int) : Bool := decide (¬ (f = 2 ∧ 0 < da.length)) && (decide (¬ (0 < pl.length ∧ n = 0 ∧ da.length = 0 ∧ mo.length = 0)) && (nuB da (-31) 31 && (nuB mo 1 12 && nuB pl (-366) 366)))
/-- A rule is ok. -/
def ruB (f e c u : Int) (ds : List (Int × Int)) (da mo pl : List Int) (wk : Int) : Bool := ofB f e c u wk && (dsB ds (numM f mo.length) && liB f ds.length da mo pl)
set_option maxHeartbeats 4000000 in
theorem implNumbers (a : Option Addr) (cap : Nat) (l : List Int) (lo hi : Int) (w : World) (h : IsInts w a l) (hl : l.length ≤ 2000000) :
    Calls Tryd.prog 86 #[.slice a l.length cap, .int .i64 lo, .int .i64 hi] w fun e w' => e = .returned (.bool (nuB l lo hi)) ∧ Below w.heap.size w w' := by
  by_cases h8 : l.length ≤ 8
  · have HI : Hid (IsInts w a l) := h
    clear h
    go_enter Tryd.func86, Tryd.ntmps86
    go_wp2
    go_loopw [7, 8, 14] (fun _ _ i wr => ∃ k : Nat, k ≤ l.length ∧ i = .int .i64 k ∧ (∀ j, j < k → nstB l lo hi j = true) ∧ Below w.heap.size w wr) (fun _ _ i _ => l.length - (intOf i).toNat)
    case atStart => exact ⟨0, by omega, rfl, fun j h => by omega, Below.refl _ _⟩
    case round =>
      obtain ⟨k, hk, rfl, ha, hb⟩ := hrel
      have HA : Hid (∀ j, j < k → nstB l lo hi j = true) := ha
      clear ha
      by_cases hlt : k < l.length
      · have I := HI.out.below hb
        rcases I with I | ⟨b, off, rfl, hbs, hc⟩
        · rw [I] at hlt; simp at hlt
        have c0 := hc k hlt
        have hi0 : (0 : Int) ≤ (k : Int) := by omega
        have hi1 : (k : Int) < (l.length : Int) := by omega
        have BAD : Hid (¬ ((lo ≤ gi l k ∧ gi l k ≤ hi) ∧ gi l k ≠ 0 ∧ (0 < k → gi l (k - 1) < gi l k)) → nuB l lo hi = false) := fun hn => nu_bad hlt (by
          cases hx : nstB l lo hi k with
          | false => rfl
          | true => exact absurd ((nst_iff _ _ _ _).1 hx) hn)
        by_cases n0 : gi l k < lo
        · have HB : Hid (nuB l lo hi = false) := BAD.out (by omega)
          clear hc
          go_wp2
          first | go_quiet (fail) | skip
          go_wp2
          go_ret
          exact ⟨ret_b HB.out.symm, by first | exact hb | exact Below.drewN' hb _⟩
        · by_cases n1 : hi < gi l k
          · have HB : Hid (nuB l lo hi = false) := BAD.out (by omega)
            clear hc
            go_wp2
            first | go_quiet (fail) | skip
            go_wp2
            go_ret
            exact ⟨ret_b HB.out.symm, by first | exact hb | exact Below.drewN' hb _⟩
          · by_cases n2 : gi l k = 0
            · have HB : Hid (nuB l lo hi = false) := BAD.out (fun h => h.2.1 n2)
              clear hc
              go_wp2
              first | go_quiet (fail) | skip
              go_wp2
              go_ret
              exact ⟨ret_b HB.out.symm, by first | exact hb | exact Below.drewN' hb _⟩
            · by_cases hk0 : 0 < k
              · have p0 := hc (k - 1) (by omega)
                clear hc
                obtain ⟨j, rfl⟩ : ∃ j, k = j + 1 := ⟨k - 1, by omega⟩
                simp only [Nat.add_sub_cancel] at p0 BAD
                have q2 := IntWalk.i64_in ((j : Int) + 1 - 1) (by omega)
                by_cases n3 : gi l (j + 1) ≤ gi l j
                · have HB : Hid (nuB l lo hi = false) := BAD.out (fun h => by have := h.2.2 (by omega); omega)
                  go_wp2
                  first | go_quiet (fail) | skip
                  go_wp2
                  go_ret
                  exact ⟨ret_b HB.out.symm, by first | exact hb | exact Below.drewN' hb _⟩
                · have HG : Hid (∀ i, i < j + 1 + 1 → nstB l lo hi i = true) := nst_snoc HA.out ((nst_iff _ _ _ _).2 ⟨by omega, n2, fun _ => by simp only [Nat.add_sub_cancel]; omega⟩)
                  go_wp2
                  first | go_quiet (fail) | skip
                  go_wp2
                  go_roundw
                  case rel => exact ⟨j + 1 + 1, by omega, by go_num, HG.out, by first | exact hb | exact Below.drewN' hb _⟩
                  case measure => simp [intOf]; omega
              · have hk00 : k = 0 := by omega
                subst hk00
                simp only [Nat.add_zero] at c0
                clear hc
                have HG : Hid (∀ i, i < 0 + 1 → nstB l lo hi i = true) := nst_snoc HA.out ((nst_iff _ _ _ _).2 ⟨by omega, n2, fun h => absurd h (by omega)⟩)
                go_wp2
                first | go_quiet (fail) | skip
                go_wp2
                go_roundw
                case rel => exact ⟨0 + 1, by omega, by go_num, HG.out, by first | exact hb | exact Below.drewN' hb _⟩
                case measure => simp [intOf]; omega
      · have HR : Hid (nuB l lo hi = true) := by
          unfold Hid; rw [nu_all fun i hi => HA.out i (by omega)]; exact decide_eq_true (by omega)
        go_wp2
        go_ret
        exact ⟨ret_b HR.out.symm, hb⟩
  · have HR : Hid (nuB l lo hi = false) := nu_len h8
    clear h
    go_enter Tryd.func86, Tryd.ntmps86
    go_wp2
    go_ret
    exact ⟨ret_b HR.out.symm, Below.refl _ _⟩
end Go.Proofs.YtlfglhpepoepcaaDoor
