/- More of clocks in plain numbers: their times ascend. -/
import Derived.Test.YtihklmbblbnihaaZw
namespace Go.Proofs.Ytihklmbblbnihaa
open Go.RowKit
set_option linter.unusedVariables false
theorem zin_apart {sh : Int} {ts : List (Int × Int)} {loc : Int} {k j : Nat} (ok : TrOk ts) (hk : k < j) (hj : j ≤ ts.length) (a : zin sh ts loc k = true) (b : zin sh ts loc j = true) : loc - lsh sh ts k < loc - lsh sh ts j := by
  rw [zin_iff] at a b
  obtain ⟨_, a2⟩ := a
  obtain ⟨b1, _⟩ := b
  unfold zto at a2
  unfold zfrom at b1
  rw [if_pos (by omega)] at a2
  rw [if_neg (by omega)] at b1
  have := ok.mono k (j - 1) (by omega) (by omega)
  omega
theorem ztl_lt {sh : Int} {ts : List (Int × Int)} {loc : Int} (ok : TrOk ts) (n : Nat) (hn : n ≤ ts.length + 1) : (ztl sh ts loc n).Pairwise (· < ·) := by
  induction n with
  | zero => simp [ztl]
  | succ n ih =>
    have ih := ih (by omega)
    rw [ztl]
    split
    · rename_i h
      rw [List.pairwise_append]
      refine ⟨ih, by simp, fun x hx y hy => ?_⟩
      simp at hy
      subst hy
      obtain ⟨k, hk, hz, rfl⟩ := ztl_mem.1 hx
      exact zin_apart ok hk (by omega) hz h
    · exact ih
/-- At each of the times that are told the clock shows it. -/
theorem ztl_shows {sh : Int} {ts : List (Int × Int)} {loc x : Int} (ok : TrOk ts) (h : x ∈ ztl sh ts loc (ts.length + 1)) : tiB x = true ∧ ∃ k, Leg ts x k ∧ x + lsh sh ts k = loc := by
  obtain ⟨k, hk, hz, rfl⟩ := ztl_mem.1 h
  have := (zin_leg ok (by omega)).1 hz
  exact ⟨this.1, k, this.2, by omega⟩
/-- A time at which it shows it is told. -/
theorem ztl_told {sh : Int} {ts : List (Int × Int)} {x : Int} {k : Nat} (ok : TrOk ts) (ht : tiB x = true) (hk : Leg ts x k) : x ∈ ztl sh ts (x + lsh sh ts k) (ts.length + 1) := by
  refine ztl_mem.2 ⟨k, by have := hk.1; omega, ?_, by omega⟩
  refine (zin_leg ok hk.1).2 ?_
  rw [show x + lsh sh ts k - lsh sh ts k = x from by omega]
  exact ⟨ht, hk⟩
theorem ztl_head {sh : Int} {ts : List (Int × Int)} {loc x y : Int} {l : List Int} (ok : TrOk ts) (e : ztl sh ts loc (ts.length + 1) = y :: l) (h : x ∈ ztl sh ts loc (ts.length + 1)) : y ≤ x := by
  have := ztl_lt (sh := sh) (loc := loc) ok (ts.length + 1) (Nat.le_refl _)
  rw [e] at this h
  rcases List.mem_cons.1 h with rfl | h
  · exact Int.le_refl _
  · have := (List.pairwise_cons.1 this).1 x h; omega
theorem has_first (l : List Int) (n : Int) : n ∈ l ∨ ∀ i, i < l.length → gi l i ≠ n := by
  by_cases h : n ∈ l
  · exact .inl h
  · exact .inr fun i hi e => h (e ▸ gi_mem hi)
set_option maxHeartbeats 2000000 in
theorem lawHas (a : Option Addr) (cap : Nat) (l : List Int) (n : Int) (r : Bool) (hr : r = true ↔ n ∈ l) (w : World) (h : IsInts w a l) (hl : l.length ≤ 4000000) :
    Calls Try.prog 21 #[.slice a l.length cap, .int .i64 n] w fun e w' => e = .returned (.bool r) ∧ Below w.heap.size w w' := by
  have H1 : Hid (IsInts w a l) := h
  have HR : Hid (r = true ↔ n ∈ l) := hr
  clear h hr
  go_enter Try.func21, Try.ntmps21
  go_wp2
  go_loopw [5] (fun i wr => ∃ k : Nat, k ≤ l.length ∧ i = .int .i64 k ∧ (∀ j, j < k → gi l j ≠ n) ∧ Below w.heap.size w wr) (fun i _ => l.length - (intOf i).toNat)
  case atStart => exact ⟨0, by omega, rfl, fun j hj => by omega, Below.refl _ _⟩
  case round =>
    obtain ⟨k, hk, rfl, ha, hb⟩ := hrel
    have HA : Hid (∀ j, j < k → gi l j ≠ n) := ha
    clear ha
    by_cases hlt : k < l.length
    · have G1 := H1.out.below hb
      rcases G1 with G1 | ⟨b, o, rfl, hbs, hc⟩
      · rw [G1] at hlt; simp at hlt
      have c0 : wr.cell? ⟨b, o + k, none⟩ = some (.int .i64 (gi l k)) := hc k hlt
      clear hc
      have hi1 : (k : Int) < (l.length : Int) := by omega
      by_cases hx : gi l k = n
      · have HV : Hid (r = true) := HR.out.2 (hx ▸ gi_mem hlt)
        have hx' : (gi l k == n) = true := beq_iff_eq.2 hx
        clear hx
        go_wp2
        first | (go_quiet (fail); go_wp2) | skip
        go_ret
        exact ⟨ret_b HV.out.symm, by first | exact hb | exact Below.drewN' hb _⟩
      · have HG : Hid (∀ j, j < k + 1 → gi l j ≠ n) := fun j hj => by
          by_cases e : j = k
          · subst e; exact hx
          · exact HA.out j (by omega)
        have hx' : (gi l k == n) = false := beq_eq_false_iff_ne.2 hx
        clear hx
        go_wp2
        first | (go_quiet (fail); go_wp2) | skip
        go_roundw
        case rel => exact ⟨k + 1, by omega, by go_num, HG.out, by first | exact hb | exact Below.drewN' hb _⟩
        case measure => first | (simp [intOf]; done) | (simp [intOf]; omega)
    · have HV : Hid (r = false) := by
        cases hrr : r with
        | false => rfl
        | true =>
          obtain ⟨i, hi, e⟩ := gi_ex (HR.out.1 hrr)
          exact absurd e (HA.out i (by omega))
      go_wp2
      go_ret
      exact ⟨ret_b HV.out.symm, hb⟩
end Go.Proofs.Ytihklmbblbnihaa
