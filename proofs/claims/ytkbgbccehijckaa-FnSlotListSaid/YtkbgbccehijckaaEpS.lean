/- Lists of spans held against each other, and a time in one of them: the laws' own. -/
import Derived.Test.YtkbgbccehijckaaSx
import Derived.Test.YtkbgbccehijckaaCls
import Derived.Test.YtkbgbccehijckaaOw
import Derived.Laws.StructEq
namespace Go.Proofs.Ytkbgbccehijckaa
open Go.RowKit
set_option linter.unusedVariables false
theorem sFields : Try.prog.underlying 51 = some (.struct (Try.prog.fieldsOf 51)) := by kernel_rfl
theorem sHeld : Try.prog.stoodInHeld 51 = false := by kernel_rfl
theorem sGuard : Try.prog.eqGuardType Try.prog.depth 51 = false := by kernel_rfl
theorem run_span_neq (x y x' y' : Int) (w : World) : (binOp .neq 51 (.agg #[.int .i64 x, .int .i64 y]) (.agg #[.int .i64 x', .int .i64 y'])).run Try.prog w = .ok (.bool !(x == x' && y == y')) w := by
  rw [run_neq_struct, run_equalIn_agg _ _ _ _ _ sFields sHeld]
  go_simp
  by_cases h1 : x = x' <;> by_cases h2 : y = y' <;> simp [h1, h2]
theorem run_span_guard (op : BinOp) (x y : Operand) (xs ys : Array Value) (w : World) : (eqGuard op 51 x y (.agg xs) (.agg ys)).run Try.prog w = .ok () w := run_eqGuard_agg w op _ x y xs ys sGuard
theorem list_ext (l m : List (Int × Int)) (h : l.length = m.length) (hh : ∀ i, i < l.length → tAt l i = tAt m i ∧ tSh l i = tSh m i) : l = m := by
  apply List.ext_getElem h
  intro i h1 h2
  obtain ⟨a, b⟩ := hh i h1
  rw [← tAt_get l i h1, ← tAt_get m i h2, a, b]
set_option maxRecDepth 100000 in
set_option maxHeartbeats 4000000 in
theorem lawEpSpans (a a' : Option Addr) (cap cap' : Nat) (l m : List (Int × Int)) (w : World) (h : IsTurns w a l) (h' : IsTurns w a' m) (hl : l.length ≤ 2000000) (hm : m.length ≤ 2000000) (r : Bool) (hr : decide (l = m) = r) :
    Calls Try.prog 23 #[.slice a l.length cap, .slice a' m.length cap'] w fun e w' => e = .returned (.bool r) ∧ Below w.heap.size w w' := by
  have H1 : Hid (IsTurns w a l) := h
  have H2 : Hid (IsTurns w a' m) := h'
  clear h h'
  by_cases hn : l.length = m.length
  · have HR : Hid (decide (l = m) = r) := hr
    have HN : Hid (l.length = m.length) := hn
    clear hr
    have hn' : (l.length : Int) = (m.length : Int) := by omega
    go_enter Try.func23, Try.ntmps23
    go_wp2
    go_loopw [5] (fun i wr => ∃ k : Nat, k ≤ l.length ∧ i = .int .i64 k ∧ (∀ j, j < k → tAt l j = tAt m j ∧ tSh l j = tSh m j) ∧ Below w.heap.size w wr) (fun i _ => l.length - (intOf i).toNat)
    case atStart => exact ⟨0, by omega, rfl, fun j h => by omega, Below.refl _ _⟩
    case round =>
      obtain ⟨k, hk, rfl, ha, hb⟩ := hrel
      have HA : Hid (∀ j, j < k → tAt l j = tAt m j ∧ tSh l j = tSh m j) := ha
      clear ha
      by_cases hlt : k < l.length
      · have G1 := H1.out
        have G2 := H2.out
        have hlm : k < m.length := by omega
        rcases G1 with G1 | ⟨b, o, rfl, hbs, hc⟩
        · rw [G1] at hlt; simp at hlt
        rcases G2 with G2 | ⟨b', o', rfl, hbs', hc'⟩
        · rw [G2] at hlm; simp at hlm
        have c0 : wr.cell? ⟨b, o + k * 2, none⟩ = some (.int .i64 (tAt l k)) := by rw [hb.cell (p := ⟨b, o + k * 2, none⟩) hbs]; exact (hc k hlt).1
        have c1 : wr.cell? ⟨b, o + k * 2 + 1, none⟩ = some (.int .i64 (tSh l k)) := by rw [hb.cell (p := ⟨b, o + k * 2 + 1, none⟩) hbs]; exact (hc k hlt).2
        have c2 : wr.cell? ⟨b', o' + k * 2, none⟩ = some (.int .i64 (tAt m k)) := by rw [hb.cell (p := ⟨b', o' + k * 2, none⟩) hbs']; exact (hc' k hlm).1
        have c3 : wr.cell? ⟨b', o' + k * 2 + 1, none⟩ = some (.int .i64 (tSh m k)) := by rw [hb.cell (p := ⟨b', o' + k * 2 + 1, none⟩) hbs']; exact (hc' k hlm).2
        have hi0 : (0 : Int) ≤ (k : Int) := by omega
        have hi1 : (k : Int) < (l.length : Int) := by omega
        have hi2 : (k : Int) < (m.length : Int) := by omega
        have RN := run_span_neq (tAt l k) (tSh l k) (tAt m k) (tSh m k)
        have RG := fun (op : BinOp) (x y : Operand) => run_span_guard op x y #[.int .i64 (tAt l k), .int .i64 (tSh l k)] #[.int .i64 (tAt m k), .int .i64 (tSh m k)]
        clear hc hc'
        by_cases he : tAt l k = tAt m k ∧ tSh l k = tSh m k
        · have HG : Hid (∀ j, j < k + 1 → tAt l j = tAt m j ∧ tSh l j = tSh m j) := fun j hj => by
            by_cases e : j = k
            · subst e; exact he
            · exact HA.out j (by omega)
          have HV : (!(tAt l k == tAt m k && tSh l k == tSh m k)) = false := by rw [he.1, he.2]; simp
          rw [HV] at RN
          clear he HV
          generalize tAt l k = X at *
          generalize tSh l k = Y at *
          generalize tAt m k = X' at *
          generalize tSh m k = Y' at *
          go_wp2
          go_quiet (fail)
          go_wp2
          go_roundw
          case rel => exact ⟨k + 1, by omega, by go_num, HG.out, Below.drewN' hb _⟩
          case measure => simp [intOf]; omega
        · have HQ : Hid (r = false) := by
            unfold Hid
            rw [← HR.out]
            exact decide_eq_false (fun e => he (by rw [e]; exact ⟨rfl, rfl⟩))
          have HV : (!(tAt l k == tAt m k && tSh l k == tSh m k)) = true := by
            rw [Bool.not_eq_true', Bool.eq_false_iff]
            intro hh
            rw [Bool.and_eq_true, beq_iff_eq, beq_iff_eq] at hh
            exact he hh
          rw [HV] at RN
          clear he HV
          generalize tAt l k = X at *
          generalize tSh l k = Y at *
          generalize tAt m k = X' at *
          generalize tSh m k = Y' at *
          go_wp2
          go_quiet (fail)
          go_wp2
          go_ret
          exact ⟨ret_b HQ.out.symm, Below.drewN' hb _⟩
      · have HQ : Hid (r = true) := by
          unfold Hid
          rw [← HR.out]
          exact decide_eq_true (list_ext l m HN.out fun i hi => HA.out i (by omega))
        have hi2 : ¬ (k : Int) < (l.length : Int) := by omega
        clear hn hn'
        go_wp2
        go_ret
        exact ⟨ret_b HQ.out.symm, hb⟩
  · have HR : Hid (r = false) := by
      unfold Hid
      rw [← hr]
      exact decide_eq_false (fun e => hn (by rw [e]))
    clear hr
    have hn' : ¬ (l.length : Int) = (m.length : Int) := by omega
    go_enter Try.func23, Try.ntmps23
    go_wp2
    go_ret
    exact ⟨ret_b HR.out.symm, Below.refl _ _⟩
/-- A time is in one of some spans. -/
def inL (l : List (Int × Int)) (t : Int) : Bool := l.any fun s => decide (s.1 ≤ t) && decide (t < s.2)
theorem inL_iff (l : List (Int × Int)) (t : Int) : inL l t = true ↔ In l t := by
  unfold inL In
  rw [List.any_eq_true]
  constructor
  · rintro ⟨s, hs, h⟩
    rw [Bool.and_eq_true, decide_eq_true_iff, decide_eq_true_iff] at h
    exact ⟨s, hs, h⟩
  · rintro ⟨s, hs, h⟩
    exact ⟨s, hs, by rw [Bool.and_eq_true, decide_eq_true_iff, decide_eq_true_iff]; exact h⟩
set_option maxRecDepth 100000 in
set_option maxHeartbeats 4000000 in
theorem lawEpIn (a : Option Addr) (cap : Nat) (l : List (Int × Int)) (t : Int) (w : World) (h : IsTurns w a l) (hl : l.length ≤ 2000000) (r : Bool) (hr : inL l t = r) :
    Calls Try.prog 26 #[.slice a l.length cap, .int .i64 t] w fun e w' => e = .returned (.bool r) ∧ Below w.heap.size w w' := by
  have H1 : Hid (IsTurns w a l) := h
  have HR : Hid (inL l t = r) := hr
  clear h hr
  go_enter Try.func26, Try.ntmps26
  go_wp2
  go_loopw [5] (fun i wr => ∃ k : Nat, k ≤ l.length ∧ i = .int .i64 k ∧ (∀ j, j < k → ¬ (tAt l j ≤ t ∧ t < tSh l j)) ∧ Below w.heap.size w wr) (fun i _ => l.length - (intOf i).toNat)
  case atStart => exact ⟨0, by omega, rfl, fun j h => by omega, Below.refl _ _⟩
  case round =>
    obtain ⟨k, hk, rfl, ha, hb⟩ := hrel
    have HA : Hid (∀ j, j < k → ¬ (tAt l j ≤ t ∧ t < tSh l j)) := ha
    clear ha
    by_cases hlt : k < l.length
    · have T := H1.out.below (B := 0) hb
      rcases T with T | ⟨b, off, rfl, hbs, hc⟩
      · rw [T] at hlt; simp at hlt
      obtain ⟨c0, c1⟩ := hc k hlt
      have hi0 : (0 : Int) ≤ (k : Int) := by omega
      have hi1 : (k : Int) < (l.length : Int) := by omega
      have YES : Hid (tAt l k ≤ t ∧ t < tSh l k → r = true) := fun hh => by
        rw [← HR.out]
        exact (inL_iff l t).2 ⟨l[k], List.getElem_mem hlt, by rw [← tAt_get l k hlt]; exact hh⟩
      have NO : Hid (¬ (tAt l k ≤ t ∧ t < tSh l k) → ∀ j, j < k + 1 → ¬ (tAt l j ≤ t ∧ t < tSh l j)) := fun hh j hj => by
        by_cases e : j = k
        · subst e; exact hh
        · exact HA.out j (by omega)
      clear hc
      by_cases h1 : tAt l k ≤ t
      · by_cases h2 : t < tSh l k
        · have HQ : Hid (r = true) := YES.out ⟨h1, h2⟩
          clear YES NO HA
          go_wp2
          go_ret
          exact ⟨ret_b HQ.out.symm, hb⟩
        · have HG : Hid (∀ j, j < k + 1 → ¬ (tAt l j ≤ t ∧ t < tSh l j)) := NO.out (by omega)
          clear YES NO HA
          go_wp2
          go_roundw
          case rel => exact ⟨k + 1, by omega, by go_num, fun j hj => by have := HG.out j hj; omega, hb⟩
          case measure => simp [intOf]; omega
      · have HG : Hid (∀ j, j < k + 1 → ¬ (tAt l j ≤ t ∧ t < tSh l j)) := NO.out (by omega)
        clear YES NO HA
        go_wp2
        go_roundw
        case rel => exact ⟨k + 1, by omega, by go_num, fun j hj => by have := HG.out j hj; omega, hb⟩
        case measure => simp [intOf]; omega
    · have HQ : Hid (r = false) := by
        unfold Hid
        rw [← HR.out, Bool.eq_false_iff]
        intro hh
        obtain ⟨s, hs, hx⟩ := (inL_iff l t).1 hh
        obtain ⟨j, hj, rfl⟩ := List.getElem_of_mem hs
        rw [← tAt_get l j hj] at hx
        exact HA.out j (by omega) hx
      have hi2 : ¬ (k : Int) < (l.length : Int) := by omega
      clear HA
      go_wp2
      go_ret
      exact ⟨ret_b HQ.out.symm, hb⟩
end Go.Proofs.Ytkbgbccehijckaa
