/- What is free, and the first slot: both sides, whole. -/
import Derived.Test.YtkbgbccehijckaaSn
namespace Go.Proofs.Ytkbgbccehijckaa
open Go.RowKit
set_option linter.unusedVariables false
theorem frA_yes {r : Bool} {ss : List (Int × Int)} {x y : Int} (h : frB r x y = true) : frA r ss x y = freeS ss x y := by unfold frA; rw [if_pos h]
theorem frA_no {r : Bool} {ss : List (Int × Int)} {x y : Int} (h : frB r x y = false) : frA r ss x y = [] := by unfold frA; rw [if_neg (by rw [h]; exact Bool.false_ne_true)]
theorem frB_iff {r : Bool} {x y : Int} : frB r x y = true ↔ r = true ∧ tiB x = true ∧ tiB y = true ∧ x ≤ y := by
  unfold frB
  rw [Bool.and_eq_true, Bool.and_eq_true, Bool.and_eq_true, decide_eq_true_iff]
theorem implFree (a : Option Addr) (cap : Nat) (ss : List (Int × Int)) (x y : Int) (w : World) (h : IsTurns w a ss) (hl : ss.length ≤ 2000000) (r : Bool) (hr : r = true ↔ SpOk ss) :
    Calls Try.prog 16 #[.slice a ss.length cap, .int .i64 x, .int .i64 y] w fun e w' => (∃ v, e = .returned v ∧ OP w' w.heap.size 51 v (frA r ss x y)) ∧ Below w.heap.size w w' := by
  cases hf : frB r x y with
  | false =>
    rw [frA_no hf]
    exact (implFreeNo a cap ss x y w h hl r hr hf).mono fun e w' ⟨he, hb⟩ => ⟨⟨_, he, OP.nil _ _ _⟩, hb⟩
  | true =>
    rw [frA_yes hf]
    obtain ⟨h1, h2, h3, h4⟩ := frB_iff.1 hf
    have ok := hr.1 h1
    exact implFreeYes a cap ss x y w h ok.1 ok h2 h3 h4
theorem specFree (a : Option Addr) (cap : Nat) (ss : List (Int × Int)) (x y : Int) (w : World) (h : IsTurns w a ss) (hl : ss.length ≤ 2000000) (r : Bool) (hr : r = true ↔ SpOk ss) :
    Calls Try.prog 14 #[.slice a ss.length cap, .int .i64 x, .int .i64 y] w fun e w' => (∃ v, e = .returned v ∧ OP w' w.heap.size 51 v (frA r ss x y)) ∧ Below w.heap.size w w' := by
  have HR : Hid (r = true ↔ SpOk ss) := hr
  have HT : Hid (IsTurns w a ss) := h
  have NO : Hid (∀ w1 : World, Below w.heap.size w w1 → OP (w1.alloc (.cells #[] 51)) w.heap.size 51 (.slice (some ⟨w1.heap.size, 0, none⟩) 0 0) []) := fun w1 b1 => (OP.made w1 51 [] #[] rfl (by simp)).base b1.size
  clear hr h
  cases hf : frB r x y with
  | false =>
    have HF : Hid (frA r ss x y = []) := frA_no hf
    rw [HF.out]
    cases r with
    | false =>
      clear hf
      go_enter Try.func14, Try.ntmps14
      go_wp2_with (first | (go_at_call 24; with_reducible refine (specSpansOk _ _ _ _ HT.out hl false HR.out).mono ?_; rintro e w' ⟨rfl, b1⟩))
      go_ret
      exact ⟨⟨_, rfl, NO.out _ b1⟩, b1.alloc b1.size _⟩
    | true =>
      unfold frB at hf
      rw [Bool.true_and] at hf
      cases hx : tiB x with
      | false =>
        clear hf
        go_enter Try.func14, Try.ntmps14
        go_wp2_with (first | (go_at_call 24; with_reducible refine (specSpansOk _ _ _ _ HT.out hl true HR.out).mono ?_; rintro e w' ⟨rfl, b1⟩) | (go_at_call 38; refine (specTime _ _ false hx).mono ?_; rintro e w' ⟨rfl, rfl⟩))
        go_ret
        exact ⟨⟨_, rfl, NO.out _ b1⟩, b1.alloc b1.size _⟩
      | true =>
        rw [hx, Bool.true_and] at hf
        cases hy : tiB y with
        | false =>
          clear hf
          go_enter Try.func14, Try.ntmps14
          go_wp2_with (first | (go_at_call 24; with_reducible refine (specSpansOk _ _ _ _ HT.out hl true HR.out).mono ?_; rintro e w' ⟨rfl, b1⟩) | (go_at_call 38; first | (with_reducible refine (specTime x _ true hx).mono ?_; rintro e w' ⟨rfl, rfl⟩) | (with_reducible refine (specTime y _ false hy).mono ?_; rintro e w' ⟨rfl, rfl⟩)))
          go_ret
          exact ⟨⟨_, rfl, NO.out _ b1⟩, b1.alloc b1.size _⟩
        | true =>
          rw [hy, Bool.true_and] at hf
          have hxy : y < x := by simp at hf; omega
          clear hf
          go_enter Try.func14, Try.ntmps14
          go_wp2_with (first | (go_at_call 24; with_reducible refine (specSpansOk _ _ _ _ HT.out hl true HR.out).mono ?_; rintro e w' ⟨rfl, b1⟩) | (go_at_call 38; first | (with_reducible refine (specTime x _ true hx).mono ?_; rintro e w' ⟨rfl, rfl⟩) | (with_reducible refine (specTime y _ true hy).mono ?_; rintro e w' ⟨rfl, rfl⟩)))
          go_ret
          exact ⟨⟨_, rfl, NO.out _ b1⟩, b1.alloc b1.size _⟩
  | true =>
    have HF : Hid (frA r ss x y = freeS ss x y) := frA_yes hf
    rw [HF.out]
    obtain ⟨rfl, hx, hy, hxy⟩ := frB_iff.1 hf
    have hl3 : ss.length ≤ 1000000 := by have := (HR.out.1 rfl).1; omega
    have nxy : ¬ y < x := by omega
    clear hf
    go_enter Try.func14, Try.ntmps14
    go_wp2_with (first | (go_at_call 24; with_reducible refine (specSpansOk _ _ _ _ HT.out hl true HR.out).mono ?_; rintro e w1 ⟨rfl, b1⟩) | (go_at_call 38; first | (with_reducible refine (specTime x _ true hx).mono ?_; rintro e w' ⟨rfl, rfl⟩) | (with_reducible refine (specTime y _ true hy).mono ?_; rintro e w' ⟨rfl, rfl⟩)))
    with_reducible refine (specL5Free _ _ _ _ _ _ (HT.out.below (B := 0) b1) hl3).mono ?_
    rintro e w2 ⟨⟨v, rfl, O2⟩, b2⟩
    have HO2 : Hid (OP w2 w.heap.size 51 v (freeS ss x y)) := O2.base b1.size
    have B2 := bstep b1 b2
    clear O2 b2
    go_wp2
    go_ret
    exact ⟨⟨_, rfl, HO2.out⟩, B2⟩
/-- The first that is long enough. -/
def slR (l : List (Int × Int)) (n : Int) : Int := match l.find? (fun s => decide (n ≤ s.2 - s.1)) with | some s => s.1 | none => -1
theorem slR_at (l : List (Int × Int)) (n : Int) (k : Nat) (hk : k < l.length) (h : ∀ j, j < k → ¬ n ≤ tSh l j - tAt l j) (hy : n ≤ tSh l k - tAt l k) : slR l n = tAt l k := by
  have e : l.find? (fun s => decide (n ≤ s.2 - s.1)) = some l[k] := by
    rw [List.find?_eq_some_iff_getElem]
    refine ⟨by rw [← tAt_get l k hk]; exact decide_eq_true hy, k, hk, rfl, fun j hj => ?_⟩
    rw [← tAt_get l j (by omega)]
    simp only [Bool.not_eq_true', decide_eq_false_iff_not]
    exact h j hj
  unfold slR
  rw [e]
  simp only
  rw [← tAt_get l k hk]
theorem slR_none (l : List (Int × Int)) (n : Int) (h : ∀ j, j < l.length → ¬ n ≤ tSh l j - tAt l j) : slR l n = -1 := by
  have e : l.find? (fun s => decide (n ≤ s.2 - s.1)) = none := by
    rw [List.find?_eq_none]
    intro s hs
    obtain ⟨j, hj, rfl⟩ := List.getElem_of_mem hs
    rw [← tAt_get l j hj]
    simp only [decide_eq_true_iff]
    exact h j hj
  unfold slR
  rw [e]
theorem cutS_bd (a b : Int) (l : List (Int × Int)) : ∀ s ∈ cutS a b l, a ≤ s.1 ∧ s.1 < s.2 ∧ s.2 ≤ b := by
  intro s hs
  unfold cutS at hs
  obtain ⟨v, hv, e⟩ := List.mem_filterMap.1 hs
  by_cases hc : (if v.1 < a then a else v.1) < (if b < v.2 then b else v.2)
  · rw [if_pos hc, Option.some.injEq] at e
    subst e
    refine ⟨?_, hc, ?_⟩
    · simp only; split <;> omega
    · simp only; split <;> omega
  · rw [if_neg hc] at e; cases e
theorem frA_bd (r : Bool) (ss : List (Int × Int)) (x y : Int) : ∀ j, j < (frA r ss x y).length → (0 ≤ tAt (frA r ss x y) j ∧ tAt (frA r ss x y) j < tSh (frA r ss x y) j ∧ tSh (frA r ss x y) j ≤ 5258964959) := by
  intro j hj
  cases hf : frB r x y with
  | false => rw [frA_no hf] at hj; simp at hj
  | true =>
    rw [frA_yes hf] at hj ⊢
    obtain ⟨_, hx, hy, _⟩ := frB_iff.1 hf
    have hx := (ti_iff _).1 hx
    have hy := (ti_iff _).1 hy
    have := cutS_bd x y _ _ (List.getElem_mem hj)
    rw [← tAt_get (freeS ss x y) j hj] at this
    simp only at this
    omega
theorem frA_len (r : Bool) (ss : List (Int × Int)) (x y : Int) : (frA r ss x y).length ≤ ss.length + 1 := by
  cases hf : frB r x y with
  | false => rw [frA_no hf]; simp
  | true =>
    rw [frA_yes hf]
    unfold freeS
    rw [← gpE_all]
    have h := gpE_len ss x ss.length (Nat.le_refl _)
    unfold cutS
    refine Nat.le_trans (List.length_filterMap_le _ _) ?_
    rw [List.length_append]
    split
    · simp only [List.length_cons, List.length_nil]; omega
    · simp only [List.length_nil]; omega
def slA (r : Bool) (ss : List (Int × Int)) (x y n : Int) : Int := if inB n 1 20160 = true then slR (frA r ss x y) n else -1
theorem implIsLong (n : Int) (w : World) (r : Bool) (hr : inB n 1 20160 = r) : Calls Try.prog 47 #[.int .i64 n] w fun e w' => e = .returned (.bool r) ∧ w' = w := by
  subst hr
  by_cases h0 : 1 ≤ n
  · go_enter Try.func47, Try.ntmps47
    go_wp2
    go_ret
    exact ⟨ret_b (by unfold inB; simp [h0]), rfl⟩
  · go_enter Try.func47, Try.ntmps47
    go_wp2
    go_ret
    exact ⟨ret_b (by unfold inB; simp; omega), rfl⟩
set_option maxRecDepth 100000 in
set_option maxHeartbeats 8000000 in
theorem implFirstOf (a : Option Addr) (cap : Nat) (L : List (Int × Int)) (n : Int) (w : World) (h : IsTurns w a L) (hl : L.length ≤ 4000000) (hB : ∀ j, j < L.length → (0 ≤ tAt L j ∧ tAt L j < tSh L j ∧ tSh L j ≤ 5258985119)) :
    Calls Try.prog 48 #[.slice a L.length cap, .int .i64 n] w fun e w' => e = .returned (.int .i64 (slR L n)) ∧ Below w.heap.size w w' := by
  have HT2 : Hid (IsTurns w a L) := h
  have HB : Hid (∀ j, j < L.length → (0 ≤ tAt L j ∧ tAt L j < tSh L j ∧ tSh L j ≤ 5258985119)) := hB
  clear h hB
  go_enter Try.func48, Try.ntmps48
  go_wp2
  go_loopw [6, 9] (fun _ i wr => ∃ k : Nat, k ≤ L.length ∧ i = .int .i64 k ∧ (∀ j, j < k → ¬ n ≤ tSh L j - tAt L j) ∧ Below w.heap.size w wr) (fun _ i _ => L.length - (intOf i).toNat)
  case atStart => exact ⟨0, by omega, rfl, fun j h => by omega, Below.refl _ _⟩
  case round =>
    obtain ⟨k, hk, rfl, ha, hb⟩ := hrel
    have HA : Hid (∀ j, j < k → ¬ n ≤ tSh L j - tAt L j) := ha
    clear ha
    by_cases hlt : k < L.length
    · have T := HT2.out.below (B := 0) hb
      rcases T with T | ⟨b, off, rfl, hbs, hc⟩
      · rw [T] at hlt; simp at hlt
      obtain ⟨c0, c1⟩ := hc k hlt
      have hi0 : (0 : Int) ≤ (k : Int) := by omega
      have hi1 : (k : Int) < (L.length : Int) := by omega
      have bd := HB.out k hlt
      have g1 := IntWalk.i64_in (tSh L k - tAt L k) (by omega)
      have B4 := hb.alloc hb.size (.cells #[.int .i64 (tAt L k), .int .i64 (tSh L k)] 51)
      clear hc
      by_cases hy : n ≤ tSh L k - tAt L k
      · have HQ : Hid (slR L n = tAt L k) := slR_at L n k hlt HA.out hy
        go_wp2
        go_ret
        exact ⟨ret_i HQ.out.symm, B4⟩
      · have HG : Hid (∀ j, j < k + 1 → ¬ n ≤ tSh L j - tAt L j) := fun j hj => by
          by_cases e : j = k
          · subst e; exact hy
          · exact HA.out j (by omega)
        go_wp2
        go_roundw
        case rel => exact ⟨k + 1, by omega, by go_num, HG.out, B4⟩
        case measure => simp [intOf]; omega
    · obtain rfl : k = L.length := by omega
      have HQ : Hid (slR L n = -1) := slR_none L n HA.out
      go_wp2
      go_ret
      exact ⟨ret_i HQ.out.symm, hb⟩
set_option maxRecDepth 100000 in
set_option maxHeartbeats 8000000 in
theorem implSlotFirst (a : Option Addr) (cap : Nat) (ss : List (Int × Int)) (x y n : Int) (w : World) (h : IsTurns w a ss) (hl : ss.length ≤ 2000000) (r : Bool) (hr : r = true ↔ SpOk ss) :
    Calls Try.prog 21 #[.slice a ss.length cap, .int .i64 x, .int .i64 y, .int .i64 n] w fun e w' => e = .returned (.int .i64 (slA r ss x y n)) ∧ Below w.heap.size w w' := by
  have HR : Hid (r = true ↔ SpOk ss) := hr
  have HT : Hid (IsTurns w a ss) := h
  clear hr h
  cases hn : inB n 1 20160 with
  | false =>
    have HV : Hid (slA r ss x y n = -1) := by unfold Hid slA; rw [if_neg (by rw [hn]; exact Bool.false_ne_true)]
    go_enter Try.func21, Try.ntmps21
    go_wp2_with (first | (go_at_call 47; refine (implIsLong _ _ false hn).mono ?_; rintro e w' ⟨rfl, rfl⟩))
    go_ret
    exact ⟨ret_i HV.out.symm, Below.refl _ _⟩
  | true =>
    have HV : Hid (slA r ss x y n = slR (frA r ss x y) n) := by unfold Hid slA; rw [if_pos hn]
    rw [HV.out]
    have HB : Hid (∀ j, j < (frA r ss x y).length → (0 ≤ tAt (frA r ss x y) j ∧ tAt (frA r ss x y) j < tSh (frA r ss x y) j ∧ tSh (frA r ss x y) j ≤ 5258985119)) := fun j hj => by
      have := frA_bd r ss x y j hj
      exact ⟨this.1, this.2.1, by omega⟩
    go_enter Try.func21, Try.ntmps21
    go_wp2_with (first | (go_at_call 47; refine (implIsLong _ _ true hn).mono ?_; rintro e w' ⟨rfl, rfl⟩))
    with_reducible refine (implFree _ _ _ _ _ _ HT.out hl r HR.out).mono ?_
    rintro e w2 ⟨⟨v, rfl, O2⟩, b2⟩
    have TT := O2.turns
    have hlen := frA_len r ss x y
    clear HV O2
    obtain ⟨la, lc, rfl, T2⟩ := TT
    have HT2 : Hid (IsTurns w2 la (frA r ss x y)) := T2
    clear T2 hn
    go_wp2_with fail
    with_reducible refine (implFirstOf _ _ _ _ _ HT2.out (by omega) HB.out).mono ?_
    rintro e w3 ⟨rfl, b3⟩
    have B3 := bstep b2 b3
    clear b3 b2
    go_wp2
    go_ret
    exact ⟨rfl, B3⟩
set_option maxRecDepth 100000 in
set_option maxHeartbeats 8000000 in
theorem specSlotFirst (a : Option Addr) (cap : Nat) (ss : List (Int × Int)) (x y n : Int) (w : World) (h : IsTurns w a ss) (hl : ss.length ≤ 2000000) (r : Bool) (hr : r = true ↔ SpOk ss) :
    Calls Try.prog 20 #[.slice a ss.length cap, .int .i64 x, .int .i64 y, .int .i64 n] w fun e w' => e = .returned (.int .i64 (slA r ss x y n)) ∧ Below w.heap.size w w' := by
  have HR : Hid (r = true ↔ SpOk ss) := hr
  have HT : Hid (IsTurns w a ss) := h
  clear hr h
  cases hf : frB r x y with
  | false =>
    have HV : Hid (slA r ss x y n = -1) := by unfold Hid slA; rw [frA_no hf]; split <;> rfl
    cases r with
    | false =>
      clear hf
      go_enter Try.func20, Try.ntmps20
      go_wp2_with (first | (go_at_call 24; with_reducible refine (specSpansOk _ _ _ _ HT.out hl false HR.out).mono ?_; rintro e w' ⟨rfl, b1⟩))
      go_ret
      exact ⟨ret_i HV.out.symm, b1⟩
    | true =>
      unfold frB at hf
      rw [Bool.true_and] at hf
      cases hx : tiB x with
      | false =>
        clear hf
        go_enter Try.func20, Try.ntmps20
        go_wp2_with (first | (go_at_call 24; with_reducible refine (specSpansOk _ _ _ _ HT.out hl true HR.out).mono ?_; rintro e w' ⟨rfl, b1⟩) | (go_at_call 38; refine (specTime _ _ false hx).mono ?_; rintro e w' ⟨rfl, rfl⟩))
        go_ret
        exact ⟨ret_i HV.out.symm, b1⟩
      | true =>
        rw [hx, Bool.true_and] at hf
        cases hy : tiB y with
        | false =>
          clear hf
          go_enter Try.func20, Try.ntmps20
          go_wp2_with (first | (go_at_call 24; with_reducible refine (specSpansOk _ _ _ _ HT.out hl true HR.out).mono ?_; rintro e w' ⟨rfl, b1⟩) | (go_at_call 38; first | (with_reducible refine (specTime x _ true hx).mono ?_; rintro e w' ⟨rfl, rfl⟩) | (with_reducible refine (specTime y _ false hy).mono ?_; rintro e w' ⟨rfl, rfl⟩)))
          go_ret
          exact ⟨ret_i HV.out.symm, b1⟩
        | true =>
          rw [hy, Bool.true_and] at hf
          have hxy : y < x := by simp at hf; omega
          clear hf
          go_enter Try.func20, Try.ntmps20
          go_wp2_with (first | (go_at_call 24; with_reducible refine (specSpansOk _ _ _ _ HT.out hl true HR.out).mono ?_; rintro e w' ⟨rfl, b1⟩) | (go_at_call 38; first | (with_reducible refine (specTime x _ true hx).mono ?_; rintro e w' ⟨rfl, rfl⟩) | (with_reducible refine (specTime y _ true hy).mono ?_; rintro e w' ⟨rfl, rfl⟩)))
          go_ret
          exact ⟨ret_i HV.out.symm, b1⟩
  | true =>
    have HF : Hid (frA r ss x y = freeS ss x y) := frA_yes hf
    have HB0 := frA_bd r ss x y
    have hlen := frA_len r ss x y
    obtain ⟨rfl, hx, hy, hxy⟩ := frB_iff.1 hf
    have hl3 : ss.length ≤ 1000000 := by have := (HR.out.1 rfl).1; omega
    have nxy : ¬ y < x := by omega
    clear hf
    cases hn : inB n 1 20160 with
    | false =>
      have HV : Hid (slA true ss x y n = -1) := by unfold Hid slA; rw [if_neg (by rw [hn]; exact Bool.false_ne_true)]
      clear HB0 hlen
      go_enter Try.func20, Try.ntmps20
      go_wp2_with (first | (go_at_call 24; with_reducible refine (specSpansOk _ _ _ _ HT.out hl true HR.out).mono ?_; rintro e w1 ⟨rfl, b1⟩) | (go_at_call 38; first | (with_reducible refine (specTime x _ true hx).mono ?_; rintro e w' ⟨rfl, rfl⟩) | (with_reducible refine (specTime y _ true hy).mono ?_; rintro e w' ⟨rfl, rfl⟩)) | (go_at_call 46; refine (specInR _ _ _ _ false hn).mono ?_; rintro e w' ⟨rfl, rfl⟩))
      go_ret
      exact ⟨ret_i HV.out.symm, b1⟩
    | true =>
      have HV : Hid (slA true ss x y n = slR (frA true ss x y) n) := by unfold Hid slA; rw [if_pos hn]
      rw [HV.out]
      have nb := (in_iff _ _ _).1 hn
      rw [HF.out] at HB0 hlen ⊢
      have HB : Hid (∀ j, j < (freeS ss x y).length → (0 ≤ tAt (freeS ss x y) j ∧ tAt (freeS ss x y) j < tSh (freeS ss x y) j ∧ tSh (freeS ss x y) j ≤ 5258964959)) := HB0
      clear HB0 HV HF
      go_enter Try.func20, Try.ntmps20
      go_wp2_with (first | (go_at_call 24; with_reducible refine (specSpansOk _ _ _ _ HT.out hl true HR.out).mono ?_; rintro e w1 ⟨rfl, b1⟩) | (go_at_call 38; first | (with_reducible refine (specTime x _ true hx).mono ?_; rintro e w' ⟨rfl, rfl⟩) | (with_reducible refine (specTime y _ true hy).mono ?_; rintro e w' ⟨rfl, rfl⟩)) | (go_at_call 46; refine (specInR _ _ _ _ true hn).mono ?_; rintro e w' ⟨rfl, rfl⟩))
      with_reducible refine (specL5Free _ _ _ _ _ _ (HT.out.below (B := 0) b1) hl3).mono ?_
      rintro e w2 ⟨⟨v, rfl, O2⟩, b2⟩
      have TT := O2.turns
      have B2 := bstep b1 b2
      clear O2 hn b1 b2
      generalize hL : freeS ss x y = L at HB TT hlen ⊢
      have HL : Hid (freeS ss x y = L) := hL
      clear hL
      obtain ⟨la, lc, rfl, T2⟩ := TT
      have HT2 : Hid (IsTurns w2 la L) := T2
      clear T2
      go_wp2
      go_loopw [10] (fun i wr => ∃ k : Nat, k ≤ L.length ∧ i = .int .i64 k ∧ (∀ j, j < k → ¬ n ≤ tSh L j - tAt L j) ∧ Below w2.heap.size w2 wr) (fun i _ => L.length - (intOf i).toNat)
      case atStart => exact ⟨0, by omega, rfl, fun j h => by omega, Below.refl _ _⟩
      case round =>
        obtain ⟨k, hk, rfl, ha, hb⟩ := hrel
        have HA : Hid (∀ j, j < k → ¬ n ≤ tSh L j - tAt L j) := ha
        clear ha
        by_cases hlt : k < L.length
        · have T := HT2.out.below (B := 0) hb
          rcases T with T | ⟨b, off, rfl, hbs, hc⟩
          · rw [T] at hlt; simp at hlt
          obtain ⟨c0, c1⟩ := hc k hlt
          have hi0 : (0 : Int) ≤ (k : Int) := by omega
          have hi1 : (k : Int) < (L.length : Int) := by omega
          have bd := HB.out k hlt
          have g1 := IntWalk.i64_in (tSh L k - tAt L k) (by omega)
          have B3 := bstep B2 hb
          clear hc
          by_cases hy2 : n ≤ tSh L k - tAt L k
          · have HQ : Hid (slR L n = tAt L k) := slR_at L n k hlt HA.out hy2
            go_wp2
            go_quiet (fail)
            go_wp2
            go_ret
            exact ⟨ret_i (by rw [HL.out]; exact HQ.out.symm), Below.drewN' B3 _⟩
          · have HG : Hid (∀ j, j < k + 1 → ¬ n ≤ tSh L j - tAt L j) := fun j hj => by
              by_cases e : j = k
              · subst e; exact hy2
              · exact HA.out j (by omega)
            go_wp2
            go_quiet (fail)
            go_wp2
            go_roundw
            case rel => exact ⟨k + 1, by omega, by go_num, fun j hj => by have := HG.out j hj; omega, Below.drewN' hb _⟩
            case measure => simp [intOf]; omega
        · obtain rfl : k = L.length := by omega
          have HQ : Hid (slR L n = -1) := slR_none L n HA.out
          have B3 := bstep B2 hb
          go_wp2
          go_ret
          exact ⟨ret_i (by rw [HL.out]; exact HQ.out.symm), B3⟩
end Go.Proofs.Ytkbgbccehijckaa
