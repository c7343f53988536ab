/- FnSlotList: the law's own walk. -/
import Derived.Test.YtkbgbccehijckaaYv
import Derived.Test.YtkbgbccehijckaaLSlotLess
import Derived.Deep.RegionHeld3
import Derived.Deep.DeepCutAuto
import Derived.Deep.MidRow
import Derived.Deep.CutBlock
namespace Go.Proofs.Ytkbgbccehijckaa
open Go.RowKit
set_option linter.unusedVariables false
theorem OP.cap2 {w : World} {B : Nat} {T : TypeId} {v : Value} {ts : List (Int × Int)} (h : OP w B T v ts) : ∀ a n c, v = .slice a n c → n ≤ c := by
  intro a n c e
  subst e
  obtain ⟨h1, h2⟩ := h
  rcases h2 with ⟨h2, h3⟩ | ⟨g, cap, cur, h2, hB, hg, hn, hm, hs, ht⟩
  · simp only [Value.slice.injEq] at h2; omega
  · simp only [Value.slice.injEq] at h2; omega
/-- What the law asks, in plain numbers. -/
structure SLK (r : Bool) (ss : List (Int × Int)) (x y n m : Int) (S : List (Int × Int)) : Prop where
  each : ∀ k, k < S.length → tSh S k = tAt S k + n ∧ x ≤ tAt S k ∧ tSh S k ≤ y ∧ cutS (tAt S k) (tSh S k) ss = []
  asc : ∀ k, k + 1 < S.length → tSh S k ≤ tAt S (k + 1)
  len : 0 < S.length → (S.length : Int) ≤ m ∧ 1 ≤ m
  head : 0 < S.length → tAt S 0 = slA r ss x y n
  less : 0 < S.length → ∀ j : Nat, (j : Int) = (if (S.length : Int) < m - 1 then (S.length : Int) else m - 1) → slotsA r ss x y n (m - 1) = S.take j
theorem slk {r : Bool} {ss : List (Int × Int)} {x y n m : Int} (hr : r = true → SpOk ss) : SLK r ss x y n m (slotsA r ss x y n m) := by
  by_cases hm : inB m 0 40 = true
  · have e : slotsA r ss x y n m = slotsL r ss y n m.toNat x := by unfold slotsA; rw [if_pos hm]
    have mb := (in_iff _ _ _).1 hm
    obtain ⟨h1, h2⟩ := slots_ok (y := y) (n := n) hr m.toNat x
    have hl := slots_len r ss y n m.toNat x
    rw [e]
    have hh : 0 < (slotsL r ss y n m.toNat x).length → tAt (slotsL r ss y n m.toNat x) 0 = slA r ss x y n ∧ 0 < m.toNat := fun hp => by
      cases hq : slotsL r ss y n m.toNat x with
      | nil => rw [hq] at hp; simp at hp
      | cons s l => exact slots_head hq
    refine ⟨fun k hk => ?_, fun k hk => ?_, fun hp => ?_, fun hp => (hh hp).1, fun hp j hj => ?_⟩
    · have q := h1 _ (List.getElem_mem hk)
      have e1 : tAt (slotsL r ss y n m.toNat x) k = (slotsL r ss y n m.toNat x)[k].1 := by unfold tAt; simp [hk]
      have e2 : tSh (slotsL r ss y n m.toNat x) k = (slotsL r ss y n m.toNat x)[k].2 := by unfold tSh; simp [hk]
      rw [e1, e2]; exact q
    · have q := List.pairwise_iff_getElem.1 h2 k (k + 1) (by omega) hk (by omega)
      have e1 : tAt (slotsL r ss y n m.toNat x) (k + 1) = (slotsL r ss y n m.toNat x)[k + 1].1 := by unfold tAt; simp [hk]
      have e2 : tSh (slotsL r ss y n m.toNat x) k = (slotsL r ss y n m.toNat x)[k].2 := by unfold tSh; simp [show k < (slotsL r ss y n m.toNat x).length by omega]
      rw [e1, e2]; exact q
    · have := (hh hp).2; omega
    · have h0 := (hh hp).2
      have hm1 : inB (m - 1) 0 40 = true := (in_iff _ _ _).2 ⟨by omega, by omega⟩
      have e3 : slotsA r ss x y n (m - 1) = slotsL r ss y n (m - 1).toNat x := by unfold slotsA; rw [if_pos hm1]
      rw [e3, slots_take r ss y n (m - 1).toNat m.toNat x (by omega)]
      by_cases hc : ((slotsL r ss y n m.toNat x).length : Int) < m - 1
      · rw [if_pos hc] at hj
        rw [List.take_of_length_le (by omega), List.take_of_length_le (by omega)]
      · rw [if_neg hc] at hj
        congr 1; omega
  · have e : slotsA r ss x y n m = [] := by unfold slotsA; rw [if_neg hm]
    rw [e]
    exact ⟨fun k hk => by simp at hk, fun k hk => by simp at hk, fun hp => by simp at hp, fun hp => by simp at hp, fun hp => by simp at hp⟩
theorem bothA_one {r1 r : Bool} {ss : List (Int × Int)} {p q : Int} (h : cutS p q ss = []) : bothA r1 r [(p, q)] ss = [] := by
  unfold bothA
  split
  · show [(p, q)].flatMap _ = []
    simp [h]
  · rfl
theorem turns_sub {w : World} {b off : Nat} {ts : List (Int × Int)} (hl : b < w.heap.size) (hc : ∀ i, i < ts.length → w.cell? ⟨b, off + i * 2, none⟩ = some (.int .i64 (tAt ts i)) ∧ w.cell? ⟨b, off + i * 2 + 1, none⟩ = some (.int .i64 (tSh ts i))) {k : Nat} (hk : k < ts.length) : IsTurns w (some ⟨b, off + k * 2, none⟩) [(tAt ts k, tSh ts k)] := by
  refine .inr ⟨b, off + k * 2, rfl, hl, fun i hi => ?_⟩
  have : i = 0 := by simpa using hi
  subst this
  exact hc k hk
theorem turns_take {w : World} {a : Option Addr} {ts : List (Int × Int)} (h : IsTurns w a ts) (j : Nat) : IsTurns w a (ts.take j) := by
  rcases h with h | ⟨b, off, h1, h2, h3⟩
  · left; rw [h]; simp
  · refine .inr ⟨b, off, h1, h2, fun i hi => ?_⟩
    have hi2 : i < ts.length ∧ i < j := by rw [List.length_take] at hi; omega
    have e1 : tAt (ts.take j) i = tAt ts i := by unfold tAt; simp [hi2.2]
    have e2 : tSh (ts.take j) i = tSh ts i := by unfold tSh; simp [hi2.2]
    rw [e1, e2]; exact h3 i hi2.1
theorem lawEpLess (p q : Int) (w : World) : Calls Try.prog 37 #[.int .i64 p, .int .i64 q] w fun e w' => e = .returned (.int .i64 (if p < q then p else q)) ∧ w' = w := by
  by_cases h : p < q
  · go_enter Try.func37, Try.ntmps37
    go_wp2
    go_ret
    exact ⟨rfl, rfl⟩
  · go_enter Try.func37, Try.ntmps37
    go_wp2
    go_ret
    exact ⟨rfl, rfl⟩
set_option maxRecDepth 100000 in
set_option maxHeartbeats 16000000 in
theorem lawSlotList (a : Option Addr) (len cap : Nat) (w : World) (h : IsCode w a len cap) :
    Calls Try.prog 12 #[.slice a len cap] w fun e w' => e = .returned (.bool true) ∧ Below w.heap.size w w' := by
  have hlen := h.1
  by_cases hl : (len : Int) > 1048576
  · go_enter Try.func12, Try.ntmps12
    go_wp2
    go_ret
    exact ⟨rfl, Below.refl _ _⟩
  go_enter Try.func12, Try.ntmps12
  go_wp2_with fail
  refine (drawSlotList w a len cap h).mono ?_
  rintro e w1 ⟨v, x, y, n, m, rfl, xb, yb, nb, mb, ss, D, l7⟩
  obtain ⟨va, vc, rfl⟩ := D.own.shape0
  obtain ⟨r, hr⟩ := sp_dec ss
  have HR : Hid (r = true ↔ SpOk ss) := hr
  have HT : Hid (IsTurns w1 va ss) := D.own.isT.1
  have HB1 : Hid (Below w.heap.size w w1) := D.bel
  have l2 : ss.length ≤ 2000000 := by omega
  have HK := Hid.mk' (slk (x := x) (y := y) (n := n) (m := m) (fun q => hr.1 q))
  have ls := slotsA_len r ss x y n m
  have HLT := Hid.mk' (slotsA_len r ss x y n (m - 1))
  clear D hr h
  go_wp2_with fail
  with_reducible refine (implSlotList _ _ _ _ _ _ _ _ HT.out l2 r HR.out).mono ?_
  rintro e w2 ⟨⟨v2, rfl, O2⟩, b2⟩
  have hcap := OP.cap2 O2
  obtain ⟨sa, sc, rfl⟩ := O2.shape0
  have HS2 : Hid (IsTurns w2 sa (slotsA r ss x y n m)) := O2.isT.1
  have HT2 : Hid (IsTurns w2 va ss) := HT.out.below (B := 0) b2
  have HB2 : Hid (Below w.heap.size w w2) := bstep HB1.out b2
  have hsc : (slotsA r ss x y n m).length ≤ sc := hcap _ _ _ rfl
  generalize hS : slotsA r ss x y n m = S at *
  have HSS : Hid (slotsA r ss x y n m = S) := hS
  clear O2 b2 HT HB1 hcap hS
  go_wp2_with fail
  with_reducible refine (specSlotList _ _ _ _ _ _ _ _ HT2.out l2 r HR.out).mono ?_
  rintro e w3 ⟨⟨v3, rfl, O3⟩, b3⟩
  rw [HSS.out] at O3
  obtain ⟨pa, pc, rfl⟩ := O3.shape0
  have HS3 : Hid (IsTurns w3 sa S) := HS2.out.below (B := 0) b3
  have HT3 : Hid (IsTurns w3 va ss) := HT2.out.below (B := 0) b3
  have HB3 : Hid (Below w.heap.size w w3) := bstep HB2.out b3
  have P3 := O3.isT.1
  clear O3 b3 HT2 HB2 HS2
  go_wp2_with fail
  with_reducible refine (lawEpSpans _ _ _ _ _ _ _ HS3.out P3 (by omega) (by omega) true (decide_eq_true rfl)).mono ?_
  rintro e w4 ⟨rfl, b4⟩
  have HS4 : Hid (IsTurns w4 sa S) := HS3.out.below (B := 0) b4
  have HT4 : Hid (IsTurns w4 va ss) := HT3.out.below (B := 0) b4
  have HB4 : Hid (Below w.heap.size w w4) := bstep HB3.out b4
  clear P3 b4 HT3 HB3 HS3
  by_cases h0 : (S.length : Int) = 0
  · go_wp2_with fail
    with_reducible refine (specSlotList _ _ _ _ _ _ _ _ HT4.out l2 r HR.out).mono ?_
    rintro e w5 ⟨⟨v5, rfl, O5⟩, b5⟩
    rw [HSS.out] at O5
    obtain ⟨qa, qc, rfl⟩ := O5.shape0
    have HS5 : Hid (IsTurns w5 sa S) := HS4.out.below (B := 0) b5
    have HB5 : Hid (Below w.heap.size w w5) := bstep HB4.out b5
    have P5 := O5.isT.1
    clear O5 b5
    go_wp2_with fail
    with_reducible refine (lawEpSpans _ _ _ _ _ _ _ HS5.out P5 (by omega) (by omega) true (decide_eq_true rfl)).mono ?_
    rintro e w6 ⟨rfl, b6⟩
    have B6 := bstep HB5.out b6
    clear b6 P5
    go_wp2
    go_ret
    exact ⟨rfl, B6⟩
  have g0 : ((S.length : Int) == 0) = false := beq_eq_false_iff_ne.2 h0
  have hp : 0 < S.length := by omega
  clear h0
  have sl40 : (S.length : Int) ≤ 40 := by omega
  obtain ⟨b, off, hsa⟩ : ∃ b off, sa = some ⟨b, off, none⟩ := by
    rcases HS4.out with q | ⟨b, off, q, _⟩
    · rw [q] at hp; simp at hp
    · exact ⟨b, off, q⟩
  subst hsa
  have HC4 : Hid (b < w4.heap.size ∧ ∀ i, i < S.length → w4.cell? ⟨b, off + i * 2, none⟩ = some (.int .i64 (tAt S i)) ∧ w4.cell? ⟨b, off + i * 2 + 1, none⟩ = some (.int .i64 (tSh S i))) := by
    rcases HS4.out with q | ⟨b', off', q, hl', hc'⟩
    · rw [q] at hp; simp at hp
    · simp only [Option.some.injEq, Addr.mk.injEq, and_true] at q
      obtain ⟨rfl, rfl⟩ := q
      exact ⟨hl', hc'⟩
  have hsci : (S.length : Int) ≤ (sc : Int) := by omega
  go_wp2
  go_loopw [9] (fun i wr => ∃ k : Nat, k ≤ S.length ∧ i = .int .i64 k ∧ Below w4.heap.size w4 wr) (fun i _ => S.length - (intOf i).toNat)
  case atStart => exact ⟨0, by omega, rfl, Below.refl _ _⟩
  case round =>
    obtain ⟨k, hk, rfl, hb⟩ := hrel
    have HB : Hid (Below w4.heap.size w4 wr) := hb
    have HCr : Hid (∀ i, i < S.length → wr.cell? ⟨b, off + i * 2, none⟩ = some (.int .i64 (tAt S i)) ∧ wr.cell? ⟨b, off + i * 2 + 1, none⟩ = some (.int .i64 (tSh S i))) := fun i hi => ⟨(hb.cell (p := ⟨b, off + i * 2, none⟩) HC4.out.1).trans (HC4.out.2 i hi).1, (hb.cell (p := ⟨b, off + i * 2 + 1, none⟩) HC4.out.1).trans (HC4.out.2 i hi).2⟩
    have hbr : b < wr.heap.size := Nat.lt_of_lt_of_le HC4.out.1 hb.size
    have HTr : Hid (IsTurns wr va ss) := HT4.out.below (B := 0) hb
    clear hb
    by_cases hlt : k < S.length
    · have hi0 : (0 : Int) ≤ (k : Int) := by omega
      have hi1 : (k : Int) < (S.length : Int) := by omega
      have hi2 : (k : Int) + 1 ≤ (sc : Int) := by omega
      have q := HK.out.each k hlt
      obtain ⟨q1, q2, q3, q4⟩ := q
      have HQ4 : Hid (cutS (tAt S k) (tSh S k) ss = []) := q4
      clear q4
      have gn : IntKind.i64.wrap (tAt S k + n - tAt S k) = n := by rw [show tAt S k + n - tAt S k = n by omega]; exact IntWalk.i64_in n (by omega)
      have gk := IntWalk.i64_in ((k : Int) + 1) (by omega)
      have d1 : ¬ tAt S k < x := by omega
      have d2 : ¬ y < tAt S k + n := by omega
      cases k with
      | zero =>
        have gk1 := IntWalk.i64_in 1 (by omega)
        have hs1 : (1 : Int) ≤ (sc : Int) := by omega
        go_upto_region 10 with fail
        have hbd : b < wr.drew.heap.size := hbr
        have CLD : ∀ i, i < S.length → wr.drew.cell? ⟨b, off + i * 2, none⟩ = some (.int .i64 (tAt S i)) ∧ wr.drew.cell? ⟨b, off + i * 2 + 1, none⟩ = some (.int .i64 (tSh S i)) := fun i hi => by simpa using HCr.out i hi
        refine wp_region_held_drew (S := (fun w' => ∀ i, i < S.length → w'.cell? ⟨b, off + i * 2, none⟩ = some (.int .i64 (tAt S i)) ∧ w'.cell? ⟨b, off + i * 2 + 1, none⟩ = some (.int .i64 (tSh S i)))) (by kernel_rfl) CLD (fun hHeld => ?_)
        refine wpAnyH_take (i := 0) (oi := { dst := some 55, op := Op.move (Operand.tmp 8), type := 24, pos := "laws.go:1871", after := #[], guard := none }) (v := ?_) rfl (by kernel_rfl) (by kernel_rfl) (by kernel_rfl) (fun _ _ _ h => h) (Or.inl ⟨by rfl, ?_⟩) hHeld ?_
        rotate_left
        · (intro w9 hC9; go_simp; first | done | rfl)
        (try simp only [Act.put, List.setIfInBounds_toArray, List.set_cons_zero, List.set_cons_succ])
        refine wpAnyH_take (i := 1) (oi := { dst := some 56, op := Op.move (Operand.tmp 9), type := 3, pos := "laws.go:1871", after := #[], guard := none }) (v := ?_) rfl (by kernel_rfl) (by kernel_rfl) (by kernel_rfl) (fun _ _ _ h => h) (Or.inl ⟨by rfl, ?_⟩) hHeld ?_
        rotate_left
        · (intro w9 hC9; go_simp; first | done | rfl)
        (try simp only [Act.put, List.setIfInBounds_toArray, List.set_cons_zero, List.set_cons_succ])
        refine wpAnyH_take (i := 2) (oi := { dst := some 57, op := Op.indexAddr 24 (Operand.tmp 55) (Operand.tmp 56), type := 0, pos := "laws.go:1871", after := #[{ on := 0, ground := Ground.data }, { on := 1, ground := Ground.data }], guard := none }) (v := ?_) rfl (by kernel_rfl) (by kernel_rfl) (by kernel_rfl) (fun _ _ _ h => h) (Or.inl ⟨by rfl, ?_⟩) hHeld ?_
        rotate_left
        · (intro w9 hC9; have c0 := (hC9 0 hlt).1; have c1 := (hC9 0 hlt).2; simp only [Nat.zero_mul, Nat.add_zero] at c0 c1; clear hC9; go_simp; first | done | rfl)
        (try simp only [Act.put, List.setIfInBounds_toArray, List.set_cons_zero, List.set_cons_succ])
        refine wpAnyH_take (i := 3) (oi := { dst := some 58, op := Op.fieldAddr 51 (Operand.tmp 57) 1, type := 0, pos := "laws.go:1871", after := #[{ on := 2, ground := Ground.data }], guard := none }) (v := ?_) rfl (by kernel_rfl) (by kernel_rfl) (by kernel_rfl) (fun _ _ _ h => h) (Or.inl ⟨by rfl, ?_⟩) hHeld ?_
        rotate_left
        · (intro w9 hC9; go_simp; first | done | rfl)
        (try simp only [Act.put, List.setIfInBounds_toArray, List.set_cons_zero, List.set_cons_succ])
        refine wpAnyH_take (i := 4) (oi := { dst := some 59, op := Op.load 3 (Operand.tmp 58), type := 3, pos := "laws.go:1871", after := #[{ on := 3, ground := Ground.data }], guard := none }) (v := ?_) rfl (by kernel_rfl) (by kernel_rfl) (by kernel_rfl) (fun _ _ _ h => h) (Or.inl ⟨by rfl, ?_⟩) hHeld ?_
        rotate_left
        · (intro w9 hC9; have c0 := (hC9 0 hlt).1; have c1 := (hC9 0 hlt).2; simp only [Nat.zero_mul, Nat.add_zero] at c0 c1; clear hC9; go_simp; first | done | rfl)
        (try simp only [Act.put, List.setIfInBounds_toArray, List.set_cons_zero, List.set_cons_succ])
        refine wpAnyH_take (i := 5) (oi := { dst := some 60, op := Op.move (Operand.tmp 8), type := 24, pos := "laws.go:1871", after := #[], guard := none }) (v := ?_) rfl (by kernel_rfl) (by kernel_rfl) (by kernel_rfl) (fun _ _ _ h => h) (Or.inl ⟨by rfl, ?_⟩) hHeld ?_
        rotate_left
        · (intro w9 hC9; go_simp; first | done | rfl)
        (try simp only [Act.put, List.setIfInBounds_toArray, List.set_cons_zero, List.set_cons_succ])
        refine wpAnyH_take (i := 6) (oi := { dst := some 61, op := Op.move (Operand.tmp 9), type := 3, pos := "laws.go:1871", after := #[], guard := none }) (v := ?_) rfl (by kernel_rfl) (by kernel_rfl) (by kernel_rfl) (fun _ _ _ h => h) (Or.inl ⟨by rfl, ?_⟩) hHeld ?_
        rotate_left
        · (intro w9 hC9; go_simp; first | done | rfl)
        (try simp only [Act.put, List.setIfInBounds_toArray, List.set_cons_zero, List.set_cons_succ])
        refine wpAnyH_take (i := 7) (oi := { dst := some 62, op := Op.indexAddr 24 (Operand.tmp 60) (Operand.tmp 61), type := 0, pos := "laws.go:1871", after := #[{ on := 5, ground := Ground.data }, { on := 6, ground := Ground.data }], guard := none }) (v := ?_) rfl (by kernel_rfl) (by kernel_rfl) (by kernel_rfl) (fun _ _ _ h => h) (Or.inl ⟨by rfl, ?_⟩) hHeld ?_
        rotate_left
        · (intro w9 hC9; have c0 := (hC9 0 hlt).1; have c1 := (hC9 0 hlt).2; simp only [Nat.zero_mul, Nat.add_zero] at c0 c1; clear hC9; go_simp; first | done | rfl)
        (try simp only [Act.put, List.setIfInBounds_toArray, List.set_cons_zero, List.set_cons_succ])
        refine wpAnyH_take (i := 8) (oi := { dst := some 63, op := Op.fieldAddr 51 (Operand.tmp 62) 0, type := 0, pos := "laws.go:1871", after := #[{ on := 7, ground := Ground.data }], guard := none }) (v := ?_) rfl (by kernel_rfl) (by kernel_rfl) (by kernel_rfl) (fun _ _ _ h => h) (Or.inl ⟨by rfl, ?_⟩) hHeld ?_
        rotate_left
        · (intro w9 hC9; go_simp; first | done | rfl)
        (try simp only [Act.put, List.setIfInBounds_toArray, List.set_cons_zero, List.set_cons_succ])
        refine wpAnyH_take (i := 9) (oi := { dst := some 64, op := Op.load 3 (Operand.tmp 63), type := 3, pos := "laws.go:1871", after := #[{ on := 8, ground := Ground.data }], guard := none }) (v := ?_) rfl (by kernel_rfl) (by kernel_rfl) (by kernel_rfl) (fun _ _ _ h => h) (Or.inl ⟨by rfl, ?_⟩) hHeld ?_
        rotate_left
        · (intro w9 hC9; have c0 := (hC9 0 hlt).1; have c1 := (hC9 0 hlt).2; simp only [Nat.zero_mul, Nat.add_zero] at c0 c1; clear hC9; go_simp; first | done | rfl)
        (try simp only [Act.put, List.setIfInBounds_toArray, List.set_cons_zero, List.set_cons_succ])
        refine wpAnyH_take (i := 10) (oi := { dst := some 65, op := Op.binOp BinOp.sub 3 (Operand.tmp 59) (Operand.tmp 64) 3, type := 3, pos := "laws.go:1871", after := #[{ on := 4, ground := Ground.data }, { on := 9, ground := Ground.data }], guard := none }) (v := ?_) rfl (by kernel_rfl) (by kernel_rfl) (by kernel_rfl) (fun _ _ _ h => h) (Or.inl ⟨by rfl, ?_⟩) hHeld ?_
        rotate_left
        · (intro w9 hC9; go_simp; first | done | rfl)
        (try simp only [Act.put, List.setIfInBounds_toArray, List.set_cons_zero, List.set_cons_succ])
        refine wpAnyH_take (i := 11) (oi := { dst := some 66, op := Op.move (Operand.tmp 6), type := 3, pos := "laws.go:1871", after := #[], guard := none }) (v := ?_) rfl (by kernel_rfl) (by kernel_rfl) (by kernel_rfl) (fun _ _ _ h => h) (Or.inl ⟨by rfl, ?_⟩) hHeld ?_
        rotate_left
        · (intro w9 hC9; go_simp; first | done | rfl)
        (try simp only [Act.put, List.setIfInBounds_toArray, List.set_cons_zero, List.set_cons_succ])
        refine wpAnyH_take (i := 12) (oi := { dst := some 67, op := Op.binOp BinOp.neq 3 (Operand.tmp 65) (Operand.tmp 66) 3, type := 4, pos := "laws.go:1871", after := #[{ on := 10, ground := Ground.data }, { on := 11, ground := Ground.data }], guard := none }) (v := ?_) rfl (by kernel_rfl) (by kernel_rfl) (by kernel_rfl) (fun _ _ _ h => h) (Or.inl ⟨by rfl, ?_⟩) hHeld ?_
        rotate_left
        · (intro w9 hC9; go_simp; first | done | rfl)
        (try simp only [Act.put, List.setIfInBounds_toArray, List.set_cons_zero, List.set_cons_succ])
        refine wpAnyH_take (i := 13) (oi := { dst := some 68, op := Op.move (Operand.tmp 67), type := 4, pos := "laws.go:1871", after := #[{ on := 12, ground := Ground.data }], guard := none }) (v := ?_) rfl (by kernel_rfl) (by kernel_rfl) (by kernel_rfl) (fun _ _ _ h => h) (Or.inl ⟨by rfl, ?_⟩) hHeld ?_
        rotate_left
        · (intro w9 hC9; go_simp; first | done | rfl)
        (try simp only [Act.put, List.setIfInBounds_toArray, List.set_cons_zero, List.set_cons_succ])
        refine wpAnyH_take (i := 14) (oi := { dst := some 69, op := Op.move (Operand.tmp 8), type := 24, pos := "laws.go:1871", after := #[{ on := 13, ground := Ground.guard }], guard := some (13, false) }) (v := ?_) rfl (by kernel_rfl) (by kernel_rfl) (by kernel_rfl) (fun _ _ _ h => h) (Or.inl ⟨by rfl, ?_⟩) hHeld ?_
        rotate_left
        · (intro w9 hC9; go_simp; first | done | rfl)
        (try simp only [Act.put, List.setIfInBounds_toArray, List.set_cons_zero, List.set_cons_succ])
        refine wpAnyH_take (i := 15) (oi := { dst := some 70, op := Op.move (Operand.tmp 9), type := 3, pos := "laws.go:1871", after := #[{ on := 13, ground := Ground.guard }], guard := some (13, false) }) (v := ?_) rfl (by kernel_rfl) (by kernel_rfl) (by kernel_rfl) (fun _ _ _ h => h) (Or.inl ⟨by rfl, ?_⟩) hHeld ?_
        rotate_left
        · (intro w9 hC9; go_simp; first | done | rfl)
        (try simp only [Act.put, List.setIfInBounds_toArray, List.set_cons_zero, List.set_cons_succ])
        refine wpAnyH_take (i := 16) (oi := { dst := some 71, op := Op.indexAddr 24 (Operand.tmp 69) (Operand.tmp 70), type := 0, pos := "laws.go:1871", after := #[{ on := 14, ground := Ground.data }, { on := 15, ground := Ground.data }, { on := 13, ground := Ground.guard }], guard := some (13, false) }) (v := ?_) rfl (by kernel_rfl) (by kernel_rfl) (by kernel_rfl) (fun _ _ _ h => h) (Or.inl ⟨by rfl, ?_⟩) hHeld ?_
        rotate_left
        · (intro w9 hC9; have c0 := (hC9 0 hlt).1; have c1 := (hC9 0 hlt).2; simp only [Nat.zero_mul, Nat.add_zero] at c0 c1; clear hC9; go_simp; first | done | rfl)
        (try simp only [Act.put, List.setIfInBounds_toArray, List.set_cons_zero, List.set_cons_succ])
        refine wpAnyH_take (i := 17) (oi := { dst := some 72, op := Op.fieldAddr 51 (Operand.tmp 71) 0, type := 0, pos := "laws.go:1871", after := #[{ on := 16, ground := Ground.data }, { on := 13, ground := Ground.guard }], guard := some (13, false) }) (v := ?_) rfl (by kernel_rfl) (by kernel_rfl) (by kernel_rfl) (fun _ _ _ h => h) (Or.inl ⟨by rfl, ?_⟩) hHeld ?_
        rotate_left
        · (intro w9 hC9; go_simp; first | done | rfl)
        (try simp only [Act.put, List.setIfInBounds_toArray, List.set_cons_zero, List.set_cons_succ])
        refine wpAnyH_take (i := 18) (oi := { dst := some 73, op := Op.load 3 (Operand.tmp 72), type := 3, pos := "laws.go:1871", after := #[{ on := 17, ground := Ground.data }, { on := 13, ground := Ground.guard }], guard := some (13, false) }) (v := ?_) rfl (by kernel_rfl) (by kernel_rfl) (by kernel_rfl) (fun _ _ _ h => h) (Or.inl ⟨by rfl, ?_⟩) hHeld ?_
        rotate_left
        · (intro w9 hC9; have c0 := (hC9 0 hlt).1; have c1 := (hC9 0 hlt).2; simp only [Nat.zero_mul, Nat.add_zero] at c0 c1; clear hC9; go_simp; first | done | rfl)
        (try simp only [Act.put, List.setIfInBounds_toArray, List.set_cons_zero, List.set_cons_succ])
        refine wpAnyH_take (i := 19) (oi := { dst := some 74, op := Op.move (Operand.tmp 4), type := 3, pos := "laws.go:1871", after := #[{ on := 13, ground := Ground.guard }], guard := some (13, false) }) (v := ?_) rfl (by kernel_rfl) (by kernel_rfl) (by kernel_rfl) (fun _ _ _ h => h) (Or.inl ⟨by rfl, ?_⟩) hHeld ?_
        rotate_left
        · (intro w9 hC9; go_simp; first | done | rfl)
        (try simp only [Act.put, List.setIfInBounds_toArray, List.set_cons_zero, List.set_cons_succ])
        refine wpAnyH_take (i := 20) (oi := { dst := some 75, op := Op.binOp BinOp.lss 3 (Operand.tmp 73) (Operand.tmp 74) 3, type := 4, pos := "laws.go:1871", after := #[{ on := 18, ground := Ground.data }, { on := 19, ground := Ground.data }, { on := 13, ground := Ground.guard }], guard := some (13, false) }) (v := ?_) rfl (by kernel_rfl) (by kernel_rfl) (by kernel_rfl) (fun _ _ _ h => h) (Or.inl ⟨by rfl, ?_⟩) hHeld ?_
        rotate_left
        · (intro w9 hC9; go_simp; first | done | rfl)
        (try simp only [Act.put, List.setIfInBounds_toArray, List.set_cons_zero, List.set_cons_succ])
        refine wpAnyH_take (i := 21) (oi := { dst := some 76, op := Op.pick (Operand.tmp 68) (Operand.const (Value.bool true)) (Operand.tmp 75), type := 4, pos := "laws.go:1871", after := #[{ on := 13, ground := Ground.data }, { on := 20, ground := Ground.data }], guard := none }) (v := ?_) rfl (by kernel_rfl) (by kernel_rfl) (by kernel_rfl) (fun _ _ _ h => h) (Or.inl ⟨by rfl, ?_⟩) hHeld ?_
        rotate_left
        · (intro w9 hC9; go_simp; first | done | rfl)
        (try simp only [Act.put, List.setIfInBounds_toArray, List.set_cons_zero, List.set_cons_succ])
        refine wpAnyH_take (i := 22) (oi := { dst := some 77, op := Op.move (Operand.tmp 76), type := 4, pos := "laws.go:1871", after := #[{ on := 21, ground := Ground.data }, { on := 13, ground := Ground.chain }], guard := none }) (v := ?_) rfl (by kernel_rfl) (by kernel_rfl) (by kernel_rfl) (fun _ _ _ h => h) (Or.inl ⟨by rfl, ?_⟩) hHeld ?_
        rotate_left
        · (intro w9 hC9; go_simp; first | done | rfl)
        (try simp only [Act.put, List.setIfInBounds_toArray, List.set_cons_zero, List.set_cons_succ])
        refine wpAnyH_take (i := 23) (oi := { dst := some 78, op := Op.move (Operand.tmp 8), type := 24, pos := "laws.go:1871", after := #[{ on := 22, ground := Ground.guard }], guard := some (22, false) }) (v := ?_) rfl (by kernel_rfl) (by kernel_rfl) (by kernel_rfl) (fun _ _ _ h => h) (Or.inl ⟨by rfl, ?_⟩) hHeld ?_
        rotate_left
        · (intro w9 hC9; go_simp; first | done | rfl)
        (try simp only [Act.put, List.setIfInBounds_toArray, List.set_cons_zero, List.set_cons_succ])
        refine wpAnyH_take (i := 24) (oi := { dst := some 79, op := Op.move (Operand.tmp 9), type := 3, pos := "laws.go:1871", after := #[{ on := 22, ground := Ground.guard }], guard := some (22, false) }) (v := ?_) rfl (by kernel_rfl) (by kernel_rfl) (by kernel_rfl) (fun _ _ _ h => h) (Or.inl ⟨by rfl, ?_⟩) hHeld ?_
        rotate_left
        · (intro w9 hC9; go_simp; first | done | rfl)
        (try simp only [Act.put, List.setIfInBounds_toArray, List.set_cons_zero, List.set_cons_succ])
        refine wpAnyH_take (i := 25) (oi := { dst := some 80, op := Op.indexAddr 24 (Operand.tmp 78) (Operand.tmp 79), type := 0, pos := "laws.go:1871", after := #[{ on := 23, ground := Ground.data }, { on := 24, ground := Ground.data }, { on := 22, ground := Ground.guard }], guard := some (22, false) }) (v := ?_) rfl (by kernel_rfl) (by kernel_rfl) (by kernel_rfl) (fun _ _ _ h => h) (Or.inl ⟨by rfl, ?_⟩) hHeld ?_
        rotate_left
        · (intro w9 hC9; have c0 := (hC9 0 hlt).1; have c1 := (hC9 0 hlt).2; simp only [Nat.zero_mul, Nat.add_zero] at c0 c1; clear hC9; go_simp; first | done | rfl)
        (try simp only [Act.put, List.setIfInBounds_toArray, List.set_cons_zero, List.set_cons_succ])
        refine wpAnyH_take (i := 26) (oi := { dst := some 81, op := Op.fieldAddr 51 (Operand.tmp 80) 1, type := 0, pos := "laws.go:1871", after := #[{ on := 25, ground := Ground.data }, { on := 22, ground := Ground.guard }], guard := some (22, false) }) (v := ?_) rfl (by kernel_rfl) (by kernel_rfl) (by kernel_rfl) (fun _ _ _ h => h) (Or.inl ⟨by rfl, ?_⟩) hHeld ?_
        rotate_left
        · (intro w9 hC9; go_simp; first | done | rfl)
        (try simp only [Act.put, List.setIfInBounds_toArray, List.set_cons_zero, List.set_cons_succ])
        refine wpAnyH_take (i := 27) (oi := { dst := some 82, op := Op.load 3 (Operand.tmp 81), type := 3, pos := "laws.go:1871", after := #[{ on := 26, ground := Ground.data }, { on := 22, ground := Ground.guard }], guard := some (22, false) }) (v := ?_) rfl (by kernel_rfl) (by kernel_rfl) (by kernel_rfl) (fun _ _ _ h => h) (Or.inl ⟨by rfl, ?_⟩) hHeld ?_
        rotate_left
        · (intro w9 hC9; have c0 := (hC9 0 hlt).1; have c1 := (hC9 0 hlt).2; simp only [Nat.zero_mul, Nat.add_zero] at c0 c1; clear hC9; go_simp; first | done | rfl)
        (try simp only [Act.put, List.setIfInBounds_toArray, List.set_cons_zero, List.set_cons_succ])
        refine wpAnyH_take (i := 28) (oi := { dst := some 83, op := Op.move (Operand.tmp 5), type := 3, pos := "laws.go:1871", after := #[{ on := 22, ground := Ground.guard }], guard := some (22, false) }) (v := ?_) rfl (by kernel_rfl) (by kernel_rfl) (by kernel_rfl) (fun _ _ _ h => h) (Or.inl ⟨by rfl, ?_⟩) hHeld ?_
        rotate_left
        · (intro w9 hC9; go_simp; first | done | rfl)
        (try simp only [Act.put, List.setIfInBounds_toArray, List.set_cons_zero, List.set_cons_succ])
        refine wpAnyH_take (i := 29) (oi := { dst := some 84, op := Op.binOp BinOp.gtr 3 (Operand.tmp 82) (Operand.tmp 83) 3, type := 4, pos := "laws.go:1871", after := #[{ on := 27, ground := Ground.data }, { on := 28, ground := Ground.data }, { on := 22, ground := Ground.guard }], guard := some (22, false) }) (v := ?_) rfl (by kernel_rfl) (by kernel_rfl) (by kernel_rfl) (fun _ _ _ h => h) (Or.inl ⟨by rfl, ?_⟩) hHeld ?_
        rotate_left
        · (intro w9 hC9; go_simp; first | done | rfl)
        (try simp only [Act.put, List.setIfInBounds_toArray, List.set_cons_zero, List.set_cons_succ])
        refine wpAnyH_take (i := 30) (oi := { dst := some 85, op := Op.pick (Operand.tmp 77) (Operand.const (Value.bool true)) (Operand.tmp 84), type := 4, pos := "laws.go:1871", after := #[{ on := 22, ground := Ground.data }, { on := 29, ground := Ground.data }], guard := none }) (v := ?_) rfl (by kernel_rfl) (by kernel_rfl) (by kernel_rfl) (fun _ _ _ h => h) (Or.inl ⟨by rfl, ?_⟩) hHeld ?_
        rotate_left
        · (intro w9 hC9; go_simp; first | done | rfl)
        (try simp only [Act.put, List.setIfInBounds_toArray, List.set_cons_zero, List.set_cons_succ])
        refine wpAnyH_take (i := 31) (oi := { dst := some 86, op := Op.move (Operand.tmp 85), type := 4, pos := "laws.go:1871", after := #[{ on := 30, ground := Ground.data }, { on := 22, ground := Ground.chain }], guard := none }) (v := ?_) rfl (by kernel_rfl) (by kernel_rfl) (by kernel_rfl) (fun _ _ _ h => h) (Or.inl ⟨by rfl, ?_⟩) hHeld ?_
        rotate_left
        · (intro w9 hC9; go_simp; first | done | rfl)
        (try simp only [Act.put, List.setIfInBounds_toArray, List.set_cons_zero, List.set_cons_succ])
        refine wpAnyH_take (i := 32) (oi := { dst := some 87, op := Op.move (Operand.tmp 9), type := 3, pos := "laws.go:1871", after := #[{ on := 31, ground := Ground.guard }], guard := some (31, false) }) (v := ?_) rfl (by kernel_rfl) (by kernel_rfl) (by kernel_rfl) (fun _ _ _ h => h) (Or.inl ⟨by rfl, ?_⟩) hHeld ?_
        rotate_left
        · (intro w9 hC9; go_simp; first | done | rfl)
        (try simp only [Act.put, List.setIfInBounds_toArray, List.set_cons_zero, List.set_cons_succ])
        refine wpAnyH_take (i := 33) (oi := { dst := some 88, op := Op.binOp BinOp.gtr 3 (Operand.tmp 87) (Operand.const (Value.int IntKind.i64 0)) 3, type := 4, pos := "laws.go:1871", after := #[{ on := 32, ground := Ground.data }, { on := 31, ground := Ground.guard }], guard := some (31, false) }) (v := ?_) rfl (by kernel_rfl) (by kernel_rfl) (by kernel_rfl) (fun _ _ _ h => h) (Or.inl ⟨by rfl, ?_⟩) hHeld ?_
        rotate_left
        · (intro w9 hC9; go_simp; first | done | rfl)
        (try simp only [Act.put, List.setIfInBounds_toArray, List.set_cons_zero, List.set_cons_succ])
        refine wpAnyH_take (i := 34) (oi := { dst := some 89, op := Op.move (Operand.tmp 88), type := 4, pos := "laws.go:1871", after := #[{ on := 33, ground := Ground.data }, { on := 31, ground := Ground.chain }, { on := 31, ground := Ground.guard }], guard := some (31, false) }) (v := ?_) rfl (by kernel_rfl) (by kernel_rfl) (by kernel_rfl) (fun _ _ _ h => h) (Or.inl ⟨by rfl, ?_⟩) hHeld ?_
        rotate_left
        · (intro w9 hC9; go_simp; first | done | rfl)
        (try simp only [Act.put, List.setIfInBounds_toArray, List.set_cons_zero, List.set_cons_succ])
        refine wpAnyH_take (i := 35) (oi := { dst := some 90, op := Op.move (Operand.tmp 8), type := 24, pos := "laws.go:1871", after := #[{ on := 34, ground := Ground.guard }], guard := some (34, true) }) (v := undef) rfl (by kernel_rfl) (by kernel_rfl) (by kernel_rfl) (fun _ _ _ h => h) (Or.inr ⟨by rfl, rfl⟩) hHeld ?_
        (try simp only [Act.put, List.setIfInBounds_toArray, List.set_cons_zero, List.set_cons_succ])
        refine wpAnyH_take (i := 36) (oi := { dst := some 91, op := Op.move (Operand.tmp 9), type := 3, pos := "laws.go:1871", after := #[{ on := 34, ground := Ground.guard }], guard := some (34, true) }) (v := undef) rfl (by kernel_rfl) (by kernel_rfl) (by kernel_rfl) (fun _ _ _ h => h) (Or.inr ⟨by rfl, rfl⟩) hHeld ?_
        (try simp only [Act.put, List.setIfInBounds_toArray, List.set_cons_zero, List.set_cons_succ])
        refine wpAnyH_take (i := 37) (oi := { dst := some 92, op := Op.binOp BinOp.sub 3 (Operand.tmp 91) (Operand.const (Value.int IntKind.i64 1)) 3, type := 3, pos := "laws.go:1871", after := #[{ on := 36, ground := Ground.data }, { on := 34, ground := Ground.guard }], guard := some (34, true) }) (v := undef) rfl (by kernel_rfl) (by kernel_rfl) (by kernel_rfl) (fun _ _ _ h => h) (Or.inr ⟨by rfl, rfl⟩) hHeld ?_
        (try simp only [Act.put, List.setIfInBounds_toArray, List.set_cons_zero, List.set_cons_succ])
        refine wpAnyH_take (i := 38) (oi := { dst := some 93, op := Op.indexAddr 24 (Operand.tmp 90) (Operand.tmp 92), type := 0, pos := "laws.go:1871", after := #[{ on := 35, ground := Ground.data }, { on := 37, ground := Ground.data }, { on := 34, ground := Ground.guard }], guard := some (34, true) }) (v := undef) rfl (by kernel_rfl) (by kernel_rfl) (by kernel_rfl) (fun _ _ _ h => h) (Or.inr ⟨by rfl, rfl⟩) hHeld ?_
        (try simp only [Act.put, List.setIfInBounds_toArray, List.set_cons_zero, List.set_cons_succ])
        refine wpAnyH_take (i := 39) (oi := { dst := some 94, op := Op.fieldAddr 51 (Operand.tmp 93) 1, type := 0, pos := "laws.go:1871", after := #[{ on := 38, ground := Ground.data }, { on := 34, ground := Ground.guard }], guard := some (34, true) }) (v := undef) rfl (by kernel_rfl) (by kernel_rfl) (by kernel_rfl) (fun _ _ _ h => h) (Or.inr ⟨by rfl, rfl⟩) hHeld ?_
        (try simp only [Act.put, List.setIfInBounds_toArray, List.set_cons_zero, List.set_cons_succ])
        refine wpAnyH_take (i := 40) (oi := { dst := some 95, op := Op.load 3 (Operand.tmp 94), type := 3, pos := "laws.go:1871", after := #[{ on := 39, ground := Ground.data }, { on := 34, ground := Ground.guard }], guard := some (34, true) }) (v := undef) rfl (by kernel_rfl) (by kernel_rfl) (by kernel_rfl) (fun _ _ _ h => h) (Or.inr ⟨by rfl, rfl⟩) hHeld ?_
        (try simp only [Act.put, List.setIfInBounds_toArray, List.set_cons_zero, List.set_cons_succ])
        refine wpAnyH_take (i := 41) (oi := { dst := some 96, op := Op.move (Operand.tmp 8), type := 24, pos := "laws.go:1871", after := #[{ on := 34, ground := Ground.guard }], guard := some (34, true) }) (v := undef) rfl (by kernel_rfl) (by kernel_rfl) (by kernel_rfl) (fun _ _ _ h => h) (Or.inr ⟨by rfl, rfl⟩) hHeld ?_
        (try simp only [Act.put, List.setIfInBounds_toArray, List.set_cons_zero, List.set_cons_succ])
        refine wpAnyH_take (i := 42) (oi := { dst := some 97, op := Op.move (Operand.tmp 9), type := 3, pos := "laws.go:1871", after := #[{ on := 34, ground := Ground.guard }], guard := some (34, true) }) (v := undef) rfl (by kernel_rfl) (by kernel_rfl) (by kernel_rfl) (fun _ _ _ h => h) (Or.inr ⟨by rfl, rfl⟩) hHeld ?_
        (try simp only [Act.put, List.setIfInBounds_toArray, List.set_cons_zero, List.set_cons_succ])
        refine wpAnyH_take (i := 43) (oi := { dst := some 98, op := Op.indexAddr 24 (Operand.tmp 96) (Operand.tmp 97), type := 0, pos := "laws.go:1871", after := #[{ on := 41, ground := Ground.data }, { on := 42, ground := Ground.data }, { on := 34, ground := Ground.guard }], guard := some (34, true) }) (v := undef) rfl (by kernel_rfl) (by kernel_rfl) (by kernel_rfl) (fun _ _ _ h => h) (Or.inr ⟨by rfl, rfl⟩) hHeld ?_
        (try simp only [Act.put, List.setIfInBounds_toArray, List.set_cons_zero, List.set_cons_succ])
        refine wpAnyH_take (i := 44) (oi := { dst := some 99, op := Op.fieldAddr 51 (Operand.tmp 98) 0, type := 0, pos := "laws.go:1871", after := #[{ on := 43, ground := Ground.data }, { on := 34, ground := Ground.guard }], guard := some (34, true) }) (v := undef) rfl (by kernel_rfl) (by kernel_rfl) (by kernel_rfl) (fun _ _ _ h => h) (Or.inr ⟨by rfl, rfl⟩) hHeld ?_
        (try simp only [Act.put, List.setIfInBounds_toArray, List.set_cons_zero, List.set_cons_succ])
        refine wpAnyH_take (i := 45) (oi := { dst := some 100, op := Op.load 3 (Operand.tmp 99), type := 3, pos := "laws.go:1871", after := #[{ on := 44, ground := Ground.data }, { on := 34, ground := Ground.guard }], guard := some (34, true) }) (v := undef) rfl (by kernel_rfl) (by kernel_rfl) (by kernel_rfl) (fun _ _ _ h => h) (Or.inr ⟨by rfl, rfl⟩) hHeld ?_
        (try simp only [Act.put, List.setIfInBounds_toArray, List.set_cons_zero, List.set_cons_succ])
        refine wpAnyH_take (i := 46) (oi := { dst := some 101, op := Op.binOp BinOp.gtr 3 (Operand.tmp 95) (Operand.tmp 100) 3, type := 4, pos := "laws.go:1871", after := #[{ on := 40, ground := Ground.data }, { on := 45, ground := Ground.data }, { on := 34, ground := Ground.guard }], guard := some (34, true) }) (v := undef) rfl (by kernel_rfl) (by kernel_rfl) (by kernel_rfl) (fun _ _ _ h => h) (Or.inr ⟨by rfl, rfl⟩) hHeld ?_
        (try simp only [Act.put, List.setIfInBounds_toArray, List.set_cons_zero, List.set_cons_succ])
        refine wpAnyH_take (i := 47) (oi := { dst := some 102, op := Op.pick (Operand.tmp 89) (Operand.tmp 101) (Operand.const (Value.bool false)), type := 4, pos := "laws.go:1871", after := #[{ on := 34, ground := Ground.data }, { on := 46, ground := Ground.data }, { on := 31, ground := Ground.guard }], guard := some (31, false) }) (v := ?_) rfl (by kernel_rfl) (by kernel_rfl) (by kernel_rfl) (fun _ _ _ h => h) (Or.inl ⟨by rfl, ?_⟩) hHeld ?_
        rotate_left
        · (intro w9 hC9; go_simp; first | done | rfl)
        (try simp only [Act.put, List.setIfInBounds_toArray, List.set_cons_zero, List.set_cons_succ])
        refine wpAnyH_take (i := 48) (oi := { dst := some 103, op := Op.pick (Operand.tmp 86) (Operand.const (Value.bool true)) (Operand.tmp 102), type := 4, pos := "laws.go:1871", after := #[{ on := 31, ground := Ground.data }, { on := 47, ground := Ground.data }], guard := none }) (v := ?_) rfl (by kernel_rfl) (by kernel_rfl) (by kernel_rfl) (fun _ _ _ h => h) (Or.inl ⟨by rfl, ?_⟩) hHeld ?_
        rotate_left
        · (intro w9 hC9; go_simp; first | done | rfl)
        (try simp only [Act.put, List.setIfInBounds_toArray, List.set_cons_zero, List.set_cons_succ])
        refine wpAnyH_take (i := 49) (oi := { dst := some 104, op := Op.move (Operand.tmp 103), type := 4, pos := "laws.go:1871", after := #[{ on := 48, ground := Ground.data }, { on := 34, ground := Ground.chain }], guard := none }) (v := ?_) rfl (by kernel_rfl) (by kernel_rfl) (by kernel_rfl) (fun _ _ _ h => h) (Or.inl ⟨by rfl, ?_⟩) hHeld ?_
        rotate_left
        · (intro w9 hC9; go_simp; first | done | rfl)
        (try simp only [Act.put, List.setIfInBounds_toArray, List.set_cons_zero, List.set_cons_succ])
        refine wpAnyH_take (i := 50) (oi := { dst := some 105, op := Op.move (Operand.tmp 8), type := 24, pos := "laws.go:1871", after := #[{ on := 49, ground := Ground.guard }], guard := some (49, false) }) (v := ?_) rfl (by kernel_rfl) (by kernel_rfl) (by kernel_rfl) (fun _ _ _ h => h) (Or.inl ⟨by rfl, ?_⟩) hHeld ?_
        rotate_left
        · (intro w9 hC9; go_simp; first | done | rfl)
        (try simp only [Act.put, List.setIfInBounds_toArray, List.set_cons_zero, List.set_cons_succ])
        refine wpAnyH_take (i := 51) (oi := { dst := some 106, op := Op.move (Operand.tmp 9), type := 3, pos := "laws.go:1871", after := #[{ on := 49, ground := Ground.guard }], guard := some (49, false) }) (v := ?_) rfl (by kernel_rfl) (by kernel_rfl) (by kernel_rfl) (fun _ _ _ h => h) (Or.inl ⟨by rfl, ?_⟩) hHeld ?_
        rotate_left
        · (intro w9 hC9; go_simp; first | done | rfl)
        (try simp only [Act.put, List.setIfInBounds_toArray, List.set_cons_zero, List.set_cons_succ])
        refine wpAnyH_take (i := 52) (oi := { dst := some 107, op := Op.move (Operand.tmp 9), type := 3, pos := "laws.go:1871", after := #[{ on := 49, ground := Ground.guard }], guard := some (49, false) }) (v := ?_) rfl (by kernel_rfl) (by kernel_rfl) (by kernel_rfl) (fun _ _ _ h => h) (Or.inl ⟨by rfl, ?_⟩) hHeld ?_
        rotate_left
        · (intro w9 hC9; go_simp; first | done | rfl)
        (try simp only [Act.put, List.setIfInBounds_toArray, List.set_cons_zero, List.set_cons_succ])
        refine wpAnyH_take (i := 53) (oi := { dst := some 108, op := Op.binOp BinOp.add 3 (Operand.tmp 107) (Operand.const (Value.int IntKind.i64 1)) 3, type := 3, pos := "laws.go:1871", after := #[{ on := 52, ground := Ground.data }, { on := 49, ground := Ground.guard }], guard := some (49, false) }) (v := ?_) rfl (by kernel_rfl) (by kernel_rfl) (by kernel_rfl) (fun _ _ _ h => h) (Or.inl ⟨by rfl, ?_⟩) hHeld ?_
        rotate_left
        · (intro w9 hC9; go_simp; first | done | rfl)
        (try simp only [Act.put, List.setIfInBounds_toArray, List.set_cons_zero, List.set_cons_succ])
        refine wpAnyH_take (i := 54) (oi := { dst := some 109, op := Op.slice 24 (Operand.tmp 105) (some (Operand.tmp 106)) (some (Operand.tmp 108)) none, type := 24, pos := "laws.go:1871", after := #[{ on := 50, ground := Ground.data }, { on := 51, ground := Ground.data }, { on := 53, ground := Ground.data }, { on := 49, ground := Ground.guard }], guard := some (49, false) }) (v := ?_) rfl (by kernel_rfl) (by kernel_rfl) (by kernel_rfl) (fun _ _ _ h => h) (Or.inl ⟨by rfl, ?_⟩) hHeld ?_
        rotate_left
        · (intro w9 hC9; go_simp; first | done | rfl)
        (try simp only [Act.put, List.setIfInBounds_toArray, List.set_cons_zero, List.set_cons_succ])
        refine wpAnyH_take (i := 55) (oi := { dst := some 110, op := Op.move (Operand.tmp 3), type := 24, pos := "laws.go:1871", after := #[{ on := 49, ground := Ground.guard }], guard := some (49, false) }) (v := ?_) rfl (by kernel_rfl) (by kernel_rfl) (by kernel_rfl) (fun _ _ _ h => h) (Or.inl ⟨by rfl, ?_⟩) hHeld ?_
        rotate_left
        · (intro w9 hC9; go_simp; first | done | rfl)
        (try simp only [Act.put, List.setIfInBounds_toArray, List.set_cons_zero, List.set_cons_succ])
        refine wpAnyH_ready (rs := [56]) (by kernel_rfl) (by simp) ?_
        refine AllReadyH.cons (o := { dst := some 111, op := Op.call { callee := Callee.value (Operand.func 30), args := #[Operand.tmp 109, Operand.tmp 110], argTypes := #[24, 24] }, type := 24, pos := "laws.go:1871", after := #[{ on := 54, ground := Ground.data }, { on := 55, ground := Ground.data }, { on := 49, ground := Ground.chain }, { on := 49, ground := Ground.guard }], guard := some (49, false) }) rfl (fun K hK => ?_) ?_
        · go_simp
          go_at_call 30
          obtain ⟨r1, hr1⟩ := sp_dec [(tAt S 0, tSh S 0)]
          refine (implSpansBoth _ _ [(tAt S 0, tSh S 0)] _ _ ss wr.drew (turns_sub (off := off) hbd CLD hlt) (HTr.out.below (B := 0) (Below.refl _ _).drew) (by show (1 : Nat) ≤ 2000000; omega) l2 r1 r hr1 HR.out).mono ?_
          rintro e w8 ⟨⟨v8, rfl, O8⟩, b8⟩
          rw [bothA_one HQ4.out] at O8
          obtain ⟨ea, ec, rfl⟩ := O8.shape0
          have CL8 : ∀ i, i < S.length → w8.cell? ⟨b, off + i * 2, none⟩ = some (.int .i64 (tAt S i)) ∧ w8.cell? ⟨b, off + i * 2 + 1, none⟩ = some (.int .i64 (tSh S i)) := fun i hi => ⟨(b8.cell (p := ⟨b, off + i * 2, none⟩) hbd).trans (CLD i hi).1, (b8.cell (p := ⟨b, off + i * 2 + 1, none⟩) hbd).trans (CLD i hi).2⟩
          have HB8 : Hid (Below w4.heap.size w4 w8) := bstep HB.out.drew b8
          clear O8 b8
          refine hK.out _ _ CL8 (fun hHeld => ?_)
          clear hK K
          (try simp only [Act.put, List.setIfInBounds_toArray, List.set_cons_zero, List.set_cons_succ])
          refine wpAnyH_take (i := 57) (oi := { dst := some 112, op := Op.call { callee := Callee.builtin Builtin.len, args := #[Operand.tmp 111], argTypes := #[24] }, type := 3, pos := "laws.go:1871", after := #[{ on := 56, ground := Ground.data }, { on := 49, ground := Ground.guard }], guard := some (49, false) }) (v := ?_) rfl (by kernel_rfl) (by kernel_rfl) (by kernel_rfl) (fun _ _ _ h => h) (Or.inl ⟨by rfl, ?_⟩) hHeld ?_
          rotate_left
          · (intro w9 hC9; go_simp; first | done | rfl)
          (try simp only [Act.put, List.setIfInBounds_toArray, List.set_cons_zero, List.set_cons_succ])
          refine wpAnyH_take (i := 58) (oi := { dst := some 113, op := Op.binOp BinOp.gtr 3 (Operand.tmp 112) (Operand.const (Value.int IntKind.i64 0)) 3, type := 4, pos := "laws.go:1871", after := #[{ on := 57, ground := Ground.data }, { on := 49, ground := Ground.guard }], guard := some (49, false) }) (v := ?_) rfl (by kernel_rfl) (by kernel_rfl) (by kernel_rfl) (fun _ _ _ h => h) (Or.inl ⟨by rfl, ?_⟩) hHeld ?_
          rotate_left
          · (intro w9 hC9; go_simp; first | done | rfl)
          (try simp only [Act.put, List.setIfInBounds_toArray, List.set_cons_zero, List.set_cons_succ])
          refine wpAnyH_take (i := 59) (oi := { dst := some 114, op := Op.pick (Operand.tmp 104) (Operand.const (Value.bool true)) (Operand.tmp 113), type := 4, pos := "laws.go:1871", after := #[{ on := 49, ground := Ground.data }, { on := 58, ground := Ground.data }], guard := none }) (v := ?_) rfl (by kernel_rfl) (by kernel_rfl) (by kernel_rfl) (fun _ _ _ h => h) (Or.inl ⟨by rfl, ?_⟩) hHeld ?_
          rotate_left
          · (intro w9 hC9; go_simp; first | done | rfl)
          (try simp only [Act.put, List.setIfInBounds_toArray, List.set_cons_zero, List.set_cons_succ])
          refine wpAnyH_done (by kernel_rfl) ?_ _
          clear CL8 CLD hHeld
          go_wp2
          go_roundw
          case rel => exact ⟨1, by omega, by go_num, HB8.out⟩
          case measure => simp [intOf]; omega
        exact AllReadyH.nil
      | succ j =>
        have z0 : (0 : Int) < ((j + 1 : Nat) : Int) := by omega
        have g2 := IntWalk.i64_in ((j : Int) + 1 - 1) (by omega)
        have hj1 : (j : Int) < (S.length : Int) := by omega
        have g3 := IntWalk.i64_in (j : Int) (by omega)
        have g4 : (((j + 1 : Nat) : Int)) - 1 = (j : Int) := by omega
        have g6 : ((j : Int) + 1) - 1 = (j : Int) := by omega
        have hj0 : (0 : Int) ≤ (j : Int) := by omega
        have gk2 := IntWalk.i64_in ((j : Int) + 1 + 1) (by omega)
        have hs2 : (j : Int) + 1 + 1 ≤ (sc : Int) := by omega
        have hm1 : max ((j : Int) + 1 + 1) 0 = (j : Int) + 1 + 1 := by omega
        have hm2 : ((j : Int) + 1 + 1).toNat = j + 1 + 1 := by omega
        have hm3 : ¬ sc = j + 1 := by omega
        have hm4 : (0 : Int) ≤ (j : Int) + 1 + 1 := by omega
        have hm5 : (0 : Int) ≤ (j : Int) + 1 := by omega
        have hm6 : (j : Int) + 1 ≤ (j : Int) + 1 + 1 := by omega
        have qa := HK.out.asc j hlt
        have d3 : ¬ tAt S (j + 1) < tSh S j := by omega
        go_upto_region 10 with fail
        have hbd : b < wr.drew.heap.size := hbr
        have CLD : ∀ i, i < S.length → wr.drew.cell? ⟨b, off + i * 2, none⟩ = some (.int .i64 (tAt S i)) ∧ wr.drew.cell? ⟨b, off + i * 2 + 1, none⟩ = some (.int .i64 (tSh S i)) := fun i hi => by simpa using HCr.out i hi
        refine wp_region_held_drew (S := (fun w' => ∀ i, i < S.length → w'.cell? ⟨b, off + i * 2, none⟩ = some (.int .i64 (tAt S i)) ∧ w'.cell? ⟨b, off + i * 2 + 1, none⟩ = some (.int .i64 (tSh S i)))) (by kernel_rfl) CLD (fun hHeld => ?_)
        refine wpAnyH_take (i := 0) (oi := { dst := some 55, op := Op.move (Operand.tmp 8), type := 24, pos := "laws.go:1871", after := #[], guard := none }) (v := ?_) rfl (by kernel_rfl) (by kernel_rfl) (by kernel_rfl) (fun _ _ _ h => h) (Or.inl ⟨by rfl, ?_⟩) hHeld ?_
        rotate_left
        · (intro w9 hC9; go_simp; first | done | rfl)
        (try simp only [Act.put, List.setIfInBounds_toArray, List.set_cons_zero, List.set_cons_succ])
        refine wpAnyH_take (i := 1) (oi := { dst := some 56, op := Op.move (Operand.tmp 9), type := 3, pos := "laws.go:1871", after := #[], guard := none }) (v := ?_) rfl (by kernel_rfl) (by kernel_rfl) (by kernel_rfl) (fun _ _ _ h => h) (Or.inl ⟨by rfl, ?_⟩) hHeld ?_
        rotate_left
        · (intro w9 hC9; go_simp; first | done | rfl)
        (try simp only [Act.put, List.setIfInBounds_toArray, List.set_cons_zero, List.set_cons_succ])
        refine wpAnyH_take (i := 2) (oi := { dst := some 57, op := Op.indexAddr 24 (Operand.tmp 55) (Operand.tmp 56), type := 0, pos := "laws.go:1871", after := #[{ on := 0, ground := Ground.data }, { on := 1, ground := Ground.data }], guard := none }) (v := ?_) rfl (by kernel_rfl) (by kernel_rfl) (by kernel_rfl) (fun _ _ _ h => h) (Or.inl ⟨by rfl, ?_⟩) hHeld ?_
        rotate_left
        · (intro w9 hC9; have c0 := (hC9 (j + 1) hlt).1; have c1 := (hC9 (j + 1) hlt).2; have p1 := (hC9 j (by omega)).2; clear hC9; go_simp; first | done | rfl)
        (try simp only [Act.put, List.setIfInBounds_toArray, List.set_cons_zero, List.set_cons_succ])
        refine wpAnyH_take (i := 3) (oi := { dst := some 58, op := Op.fieldAddr 51 (Operand.tmp 57) 1, type := 0, pos := "laws.go:1871", after := #[{ on := 2, ground := Ground.data }], guard := none }) (v := ?_) rfl (by kernel_rfl) (by kernel_rfl) (by kernel_rfl) (fun _ _ _ h => h) (Or.inl ⟨by rfl, ?_⟩) hHeld ?_
        rotate_left
        · (intro w9 hC9; go_simp; first | done | rfl)
        (try simp only [Act.put, List.setIfInBounds_toArray, List.set_cons_zero, List.set_cons_succ])
        refine wpAnyH_take (i := 4) (oi := { dst := some 59, op := Op.load 3 (Operand.tmp 58), type := 3, pos := "laws.go:1871", after := #[{ on := 3, ground := Ground.data }], guard := none }) (v := ?_) rfl (by kernel_rfl) (by kernel_rfl) (by kernel_rfl) (fun _ _ _ h => h) (Or.inl ⟨by rfl, ?_⟩) hHeld ?_
        rotate_left
        · (intro w9 hC9; have c0 := (hC9 (j + 1) hlt).1; have c1 := (hC9 (j + 1) hlt).2; have p1 := (hC9 j (by omega)).2; clear hC9; go_simp; first | done | rfl)
        (try simp only [Act.put, List.setIfInBounds_toArray, List.set_cons_zero, List.set_cons_succ])
        refine wpAnyH_take (i := 5) (oi := { dst := some 60, op := Op.move (Operand.tmp 8), type := 24, pos := "laws.go:1871", after := #[], guard := none }) (v := ?_) rfl (by kernel_rfl) (by kernel_rfl) (by kernel_rfl) (fun _ _ _ h => h) (Or.inl ⟨by rfl, ?_⟩) hHeld ?_
        rotate_left
        · (intro w9 hC9; go_simp; first | done | rfl)
        (try simp only [Act.put, List.setIfInBounds_toArray, List.set_cons_zero, List.set_cons_succ])
        refine wpAnyH_take (i := 6) (oi := { dst := some 61, op := Op.move (Operand.tmp 9), type := 3, pos := "laws.go:1871", after := #[], guard := none }) (v := ?_) rfl (by kernel_rfl) (by kernel_rfl) (by kernel_rfl) (fun _ _ _ h => h) (Or.inl ⟨by rfl, ?_⟩) hHeld ?_
        rotate_left
        · (intro w9 hC9; go_simp; first | done | rfl)
        (try simp only [Act.put, List.setIfInBounds_toArray, List.set_cons_zero, List.set_cons_succ])
        refine wpAnyH_take (i := 7) (oi := { dst := some 62, op := Op.indexAddr 24 (Operand.tmp 60) (Operand.tmp 61), type := 0, pos := "laws.go:1871", after := #[{ on := 5, ground := Ground.data }, { on := 6, ground := Ground.data }], guard := none }) (v := ?_) rfl (by kernel_rfl) (by kernel_rfl) (by kernel_rfl) (fun _ _ _ h => h) (Or.inl ⟨by rfl, ?_⟩) hHeld ?_
        rotate_left
        · (intro w9 hC9; have c0 := (hC9 (j + 1) hlt).1; have c1 := (hC9 (j + 1) hlt).2; have p1 := (hC9 j (by omega)).2; clear hC9; go_simp; first | done | rfl)
        (try simp only [Act.put, List.setIfInBounds_toArray, List.set_cons_zero, List.set_cons_succ])
        refine wpAnyH_take (i := 8) (oi := { dst := some 63, op := Op.fieldAddr 51 (Operand.tmp 62) 0, type := 0, pos := "laws.go:1871", after := #[{ on := 7, ground := Ground.data }], guard := none }) (v := ?_) rfl (by kernel_rfl) (by kernel_rfl) (by kernel_rfl) (fun _ _ _ h => h) (Or.inl ⟨by rfl, ?_⟩) hHeld ?_
        rotate_left
        · (intro w9 hC9; go_simp; first | done | rfl)
        (try simp only [Act.put, List.setIfInBounds_toArray, List.set_cons_zero, List.set_cons_succ])
        refine wpAnyH_take (i := 9) (oi := { dst := some 64, op := Op.load 3 (Operand.tmp 63), type := 3, pos := "laws.go:1871", after := #[{ on := 8, ground := Ground.data }], guard := none }) (v := ?_) rfl (by kernel_rfl) (by kernel_rfl) (by kernel_rfl) (fun _ _ _ h => h) (Or.inl ⟨by rfl, ?_⟩) hHeld ?_
        rotate_left
        · (intro w9 hC9; have c0 := (hC9 (j + 1) hlt).1; have c1 := (hC9 (j + 1) hlt).2; have p1 := (hC9 j (by omega)).2; clear hC9; go_simp; first | done | rfl)
        (try simp only [Act.put, List.setIfInBounds_toArray, List.set_cons_zero, List.set_cons_succ])
        refine wpAnyH_take (i := 10) (oi := { dst := some 65, op := Op.binOp BinOp.sub 3 (Operand.tmp 59) (Operand.tmp 64) 3, type := 3, pos := "laws.go:1871", after := #[{ on := 4, ground := Ground.data }, { on := 9, ground := Ground.data }], guard := none }) (v := ?_) rfl (by kernel_rfl) (by kernel_rfl) (by kernel_rfl) (fun _ _ _ h => h) (Or.inl ⟨by rfl, ?_⟩) hHeld ?_
        rotate_left
        · (intro w9 hC9; go_simp; first | done | rfl)
        (try simp only [Act.put, List.setIfInBounds_toArray, List.set_cons_zero, List.set_cons_succ])
        refine wpAnyH_take (i := 11) (oi := { dst := some 66, op := Op.move (Operand.tmp 6), type := 3, pos := "laws.go:1871", after := #[], guard := none }) (v := ?_) rfl (by kernel_rfl) (by kernel_rfl) (by kernel_rfl) (fun _ _ _ h => h) (Or.inl ⟨by rfl, ?_⟩) hHeld ?_
        rotate_left
        · (intro w9 hC9; go_simp; first | done | rfl)
        (try simp only [Act.put, List.setIfInBounds_toArray, List.set_cons_zero, List.set_cons_succ])
        refine wpAnyH_take (i := 12) (oi := { dst := some 67, op := Op.binOp BinOp.neq 3 (Operand.tmp 65) (Operand.tmp 66) 3, type := 4, pos := "laws.go:1871", after := #[{ on := 10, ground := Ground.data }, { on := 11, ground := Ground.data }], guard := none }) (v := ?_) rfl (by kernel_rfl) (by kernel_rfl) (by kernel_rfl) (fun _ _ _ h => h) (Or.inl ⟨by rfl, ?_⟩) hHeld ?_
        rotate_left
        · (intro w9 hC9; go_simp; first | done | rfl)
        (try simp only [Act.put, List.setIfInBounds_toArray, List.set_cons_zero, List.set_cons_succ])
        refine wpAnyH_take (i := 13) (oi := { dst := some 68, op := Op.move (Operand.tmp 67), type := 4, pos := "laws.go:1871", after := #[{ on := 12, ground := Ground.data }], guard := none }) (v := ?_) rfl (by kernel_rfl) (by kernel_rfl) (by kernel_rfl) (fun _ _ _ h => h) (Or.inl ⟨by rfl, ?_⟩) hHeld ?_
        rotate_left
        · (intro w9 hC9; go_simp; first | done | rfl)
        (try simp only [Act.put, List.setIfInBounds_toArray, List.set_cons_zero, List.set_cons_succ])
        refine wpAnyH_take (i := 14) (oi := { dst := some 69, op := Op.move (Operand.tmp 8), type := 24, pos := "laws.go:1871", after := #[{ on := 13, ground := Ground.guard }], guard := some (13, false) }) (v := ?_) rfl (by kernel_rfl) (by kernel_rfl) (by kernel_rfl) (fun _ _ _ h => h) (Or.inl ⟨by rfl, ?_⟩) hHeld ?_
        rotate_left
        · (intro w9 hC9; go_simp; first | done | rfl)
        (try simp only [Act.put, List.setIfInBounds_toArray, List.set_cons_zero, List.set_cons_succ])
        refine wpAnyH_take (i := 15) (oi := { dst := some 70, op := Op.move (Operand.tmp 9), type := 3, pos := "laws.go:1871", after := #[{ on := 13, ground := Ground.guard }], guard := some (13, false) }) (v := ?_) rfl (by kernel_rfl) (by kernel_rfl) (by kernel_rfl) (fun _ _ _ h => h) (Or.inl ⟨by rfl, ?_⟩) hHeld ?_
        rotate_left
        · (intro w9 hC9; go_simp; first | done | rfl)
        (try simp only [Act.put, List.setIfInBounds_toArray, List.set_cons_zero, List.set_cons_succ])
        refine wpAnyH_take (i := 16) (oi := { dst := some 71, op := Op.indexAddr 24 (Operand.tmp 69) (Operand.tmp 70), type := 0, pos := "laws.go:1871", after := #[{ on := 14, ground := Ground.data }, { on := 15, ground := Ground.data }, { on := 13, ground := Ground.guard }], guard := some (13, false) }) (v := ?_) rfl (by kernel_rfl) (by kernel_rfl) (by kernel_rfl) (fun _ _ _ h => h) (Or.inl ⟨by rfl, ?_⟩) hHeld ?_
        rotate_left
        · (intro w9 hC9; have c0 := (hC9 (j + 1) hlt).1; have c1 := (hC9 (j + 1) hlt).2; have p1 := (hC9 j (by omega)).2; clear hC9; go_simp; first | done | rfl)
        (try simp only [Act.put, List.setIfInBounds_toArray, List.set_cons_zero, List.set_cons_succ])
        refine wpAnyH_take (i := 17) (oi := { dst := some 72, op := Op.fieldAddr 51 (Operand.tmp 71) 0, type := 0, pos := "laws.go:1871", after := #[{ on := 16, ground := Ground.data }, { on := 13, ground := Ground.guard }], guard := some (13, false) }) (v := ?_) rfl (by kernel_rfl) (by kernel_rfl) (by kernel_rfl) (fun _ _ _ h => h) (Or.inl ⟨by rfl, ?_⟩) hHeld ?_
        rotate_left
        · (intro w9 hC9; go_simp; first | done | rfl)
        (try simp only [Act.put, List.setIfInBounds_toArray, List.set_cons_zero, List.set_cons_succ])
        refine wpAnyH_take (i := 18) (oi := { dst := some 73, op := Op.load 3 (Operand.tmp 72), type := 3, pos := "laws.go:1871", after := #[{ on := 17, ground := Ground.data }, { on := 13, ground := Ground.guard }], guard := some (13, false) }) (v := ?_) rfl (by kernel_rfl) (by kernel_rfl) (by kernel_rfl) (fun _ _ _ h => h) (Or.inl ⟨by rfl, ?_⟩) hHeld ?_
        rotate_left
        · (intro w9 hC9; have c0 := (hC9 (j + 1) hlt).1; have c1 := (hC9 (j + 1) hlt).2; have p1 := (hC9 j (by omega)).2; clear hC9; go_simp; first | done | rfl)
        (try simp only [Act.put, List.setIfInBounds_toArray, List.set_cons_zero, List.set_cons_succ])
        refine wpAnyH_take (i := 19) (oi := { dst := some 74, op := Op.move (Operand.tmp 4), type := 3, pos := "laws.go:1871", after := #[{ on := 13, ground := Ground.guard }], guard := some (13, false) }) (v := ?_) rfl (by kernel_rfl) (by kernel_rfl) (by kernel_rfl) (fun _ _ _ h => h) (Or.inl ⟨by rfl, ?_⟩) hHeld ?_
        rotate_left
        · (intro w9 hC9; go_simp; first | done | rfl)
        (try simp only [Act.put, List.setIfInBounds_toArray, List.set_cons_zero, List.set_cons_succ])
        refine wpAnyH_take (i := 20) (oi := { dst := some 75, op := Op.binOp BinOp.lss 3 (Operand.tmp 73) (Operand.tmp 74) 3, type := 4, pos := "laws.go:1871", after := #[{ on := 18, ground := Ground.data }, { on := 19, ground := Ground.data }, { on := 13, ground := Ground.guard }], guard := some (13, false) }) (v := ?_) rfl (by kernel_rfl) (by kernel_rfl) (by kernel_rfl) (fun _ _ _ h => h) (Or.inl ⟨by rfl, ?_⟩) hHeld ?_
        rotate_left
        · (intro w9 hC9; go_simp; first | done | rfl)
        (try simp only [Act.put, List.setIfInBounds_toArray, List.set_cons_zero, List.set_cons_succ])
        refine wpAnyH_take (i := 21) (oi := { dst := some 76, op := Op.pick (Operand.tmp 68) (Operand.const (Value.bool true)) (Operand.tmp 75), type := 4, pos := "laws.go:1871", after := #[{ on := 13, ground := Ground.data }, { on := 20, ground := Ground.data }], guard := none }) (v := ?_) rfl (by kernel_rfl) (by kernel_rfl) (by kernel_rfl) (fun _ _ _ h => h) (Or.inl ⟨by rfl, ?_⟩) hHeld ?_
        rotate_left
        · (intro w9 hC9; go_simp; first | done | rfl)
        (try simp only [Act.put, List.setIfInBounds_toArray, List.set_cons_zero, List.set_cons_succ])
        refine wpAnyH_take (i := 22) (oi := { dst := some 77, op := Op.move (Operand.tmp 76), type := 4, pos := "laws.go:1871", after := #[{ on := 21, ground := Ground.data }, { on := 13, ground := Ground.chain }], guard := none }) (v := ?_) rfl (by kernel_rfl) (by kernel_rfl) (by kernel_rfl) (fun _ _ _ h => h) (Or.inl ⟨by rfl, ?_⟩) hHeld ?_
        rotate_left
        · (intro w9 hC9; go_simp; first | done | rfl)
        (try simp only [Act.put, List.setIfInBounds_toArray, List.set_cons_zero, List.set_cons_succ])
        refine wpAnyH_take (i := 23) (oi := { dst := some 78, op := Op.move (Operand.tmp 8), type := 24, pos := "laws.go:1871", after := #[{ on := 22, ground := Ground.guard }], guard := some (22, false) }) (v := ?_) rfl (by kernel_rfl) (by kernel_rfl) (by kernel_rfl) (fun _ _ _ h => h) (Or.inl ⟨by rfl, ?_⟩) hHeld ?_
        rotate_left
        · (intro w9 hC9; go_simp; first | done | rfl)
        (try simp only [Act.put, List.setIfInBounds_toArray, List.set_cons_zero, List.set_cons_succ])
        refine wpAnyH_take (i := 24) (oi := { dst := some 79, op := Op.move (Operand.tmp 9), type := 3, pos := "laws.go:1871", after := #[{ on := 22, ground := Ground.guard }], guard := some (22, false) }) (v := ?_) rfl (by kernel_rfl) (by kernel_rfl) (by kernel_rfl) (fun _ _ _ h => h) (Or.inl ⟨by rfl, ?_⟩) hHeld ?_
        rotate_left
        · (intro w9 hC9; go_simp; first | done | rfl)
        (try simp only [Act.put, List.setIfInBounds_toArray, List.set_cons_zero, List.set_cons_succ])
        refine wpAnyH_take (i := 25) (oi := { dst := some 80, op := Op.indexAddr 24 (Operand.tmp 78) (Operand.tmp 79), type := 0, pos := "laws.go:1871", after := #[{ on := 23, ground := Ground.data }, { on := 24, ground := Ground.data }, { on := 22, ground := Ground.guard }], guard := some (22, false) }) (v := ?_) rfl (by kernel_rfl) (by kernel_rfl) (by kernel_rfl) (fun _ _ _ h => h) (Or.inl ⟨by rfl, ?_⟩) hHeld ?_
        rotate_left
        · (intro w9 hC9; have c0 := (hC9 (j + 1) hlt).1; have c1 := (hC9 (j + 1) hlt).2; have p1 := (hC9 j (by omega)).2; clear hC9; go_simp; first | done | rfl)
        (try simp only [Act.put, List.setIfInBounds_toArray, List.set_cons_zero, List.set_cons_succ])
        refine wpAnyH_take (i := 26) (oi := { dst := some 81, op := Op.fieldAddr 51 (Operand.tmp 80) 1, type := 0, pos := "laws.go:1871", after := #[{ on := 25, ground := Ground.data }, { on := 22, ground := Ground.guard }], guard := some (22, false) }) (v := ?_) rfl (by kernel_rfl) (by kernel_rfl) (by kernel_rfl) (fun _ _ _ h => h) (Or.inl ⟨by rfl, ?_⟩) hHeld ?_
        rotate_left
        · (intro w9 hC9; go_simp; first | done | rfl)
        (try simp only [Act.put, List.setIfInBounds_toArray, List.set_cons_zero, List.set_cons_succ])
        refine wpAnyH_take (i := 27) (oi := { dst := some 82, op := Op.load 3 (Operand.tmp 81), type := 3, pos := "laws.go:1871", after := #[{ on := 26, ground := Ground.data }, { on := 22, ground := Ground.guard }], guard := some (22, false) }) (v := ?_) rfl (by kernel_rfl) (by kernel_rfl) (by kernel_rfl) (fun _ _ _ h => h) (Or.inl ⟨by rfl, ?_⟩) hHeld ?_
        rotate_left
        · (intro w9 hC9; have c0 := (hC9 (j + 1) hlt).1; have c1 := (hC9 (j + 1) hlt).2; have p1 := (hC9 j (by omega)).2; clear hC9; go_simp; first | done | rfl)
        (try simp only [Act.put, List.setIfInBounds_toArray, List.set_cons_zero, List.set_cons_succ])
        refine wpAnyH_take (i := 28) (oi := { dst := some 83, op := Op.move (Operand.tmp 5), type := 3, pos := "laws.go:1871", after := #[{ on := 22, ground := Ground.guard }], guard := some (22, false) }) (v := ?_) rfl (by kernel_rfl) (by kernel_rfl) (by kernel_rfl) (fun _ _ _ h => h) (Or.inl ⟨by rfl, ?_⟩) hHeld ?_
        rotate_left
        · (intro w9 hC9; go_simp; first | done | rfl)
        (try simp only [Act.put, List.setIfInBounds_toArray, List.set_cons_zero, List.set_cons_succ])
        refine wpAnyH_take (i := 29) (oi := { dst := some 84, op := Op.binOp BinOp.gtr 3 (Operand.tmp 82) (Operand.tmp 83) 3, type := 4, pos := "laws.go:1871", after := #[{ on := 27, ground := Ground.data }, { on := 28, ground := Ground.data }, { on := 22, ground := Ground.guard }], guard := some (22, false) }) (v := ?_) rfl (by kernel_rfl) (by kernel_rfl) (by kernel_rfl) (fun _ _ _ h => h) (Or.inl ⟨by rfl, ?_⟩) hHeld ?_
        rotate_left
        · (intro w9 hC9; go_simp; first | done | rfl)
        (try simp only [Act.put, List.setIfInBounds_toArray, List.set_cons_zero, List.set_cons_succ])
        refine wpAnyH_take (i := 30) (oi := { dst := some 85, op := Op.pick (Operand.tmp 77) (Operand.const (Value.bool true)) (Operand.tmp 84), type := 4, pos := "laws.go:1871", after := #[{ on := 22, ground := Ground.data }, { on := 29, ground := Ground.data }], guard := none }) (v := ?_) rfl (by kernel_rfl) (by kernel_rfl) (by kernel_rfl) (fun _ _ _ h => h) (Or.inl ⟨by rfl, ?_⟩) hHeld ?_
        rotate_left
        · (intro w9 hC9; go_simp; first | done | rfl)
        (try simp only [Act.put, List.setIfInBounds_toArray, List.set_cons_zero, List.set_cons_succ])
        refine wpAnyH_take (i := 31) (oi := { dst := some 86, op := Op.move (Operand.tmp 85), type := 4, pos := "laws.go:1871", after := #[{ on := 30, ground := Ground.data }, { on := 22, ground := Ground.chain }], guard := none }) (v := ?_) rfl (by kernel_rfl) (by kernel_rfl) (by kernel_rfl) (fun _ _ _ h => h) (Or.inl ⟨by rfl, ?_⟩) hHeld ?_
        rotate_left
        · (intro w9 hC9; go_simp; first | done | rfl)
        (try simp only [Act.put, List.setIfInBounds_toArray, List.set_cons_zero, List.set_cons_succ])
        refine wpAnyH_take (i := 32) (oi := { dst := some 87, op := Op.move (Operand.tmp 9), type := 3, pos := "laws.go:1871", after := #[{ on := 31, ground := Ground.guard }], guard := some (31, false) }) (v := ?_) rfl (by kernel_rfl) (by kernel_rfl) (by kernel_rfl) (fun _ _ _ h => h) (Or.inl ⟨by rfl, ?_⟩) hHeld ?_
        rotate_left
        · (intro w9 hC9; go_simp; first | done | rfl)
        (try simp only [Act.put, List.setIfInBounds_toArray, List.set_cons_zero, List.set_cons_succ])
        refine wpAnyH_take (i := 33) (oi := { dst := some 88, op := Op.binOp BinOp.gtr 3 (Operand.tmp 87) (Operand.const (Value.int IntKind.i64 0)) 3, type := 4, pos := "laws.go:1871", after := #[{ on := 32, ground := Ground.data }, { on := 31, ground := Ground.guard }], guard := some (31, false) }) (v := ?_) rfl (by kernel_rfl) (by kernel_rfl) (by kernel_rfl) (fun _ _ _ h => h) (Or.inl ⟨by rfl, ?_⟩) hHeld ?_
        rotate_left
        · (intro w9 hC9; go_simp; first | done | rfl)
        (try simp only [Act.put, List.setIfInBounds_toArray, List.set_cons_zero, List.set_cons_succ])
        refine wpAnyH_take (i := 34) (oi := { dst := some 89, op := Op.move (Operand.tmp 88), type := 4, pos := "laws.go:1871", after := #[{ on := 33, ground := Ground.data }, { on := 31, ground := Ground.chain }, { on := 31, ground := Ground.guard }], guard := some (31, false) }) (v := ?_) rfl (by kernel_rfl) (by kernel_rfl) (by kernel_rfl) (fun _ _ _ h => h) (Or.inl ⟨by rfl, ?_⟩) hHeld ?_
        rotate_left
        · (intro w9 hC9; go_simp; first | done | rfl)
        (try simp only [Act.put, List.setIfInBounds_toArray, List.set_cons_zero, List.set_cons_succ])
        refine wpAnyH_take (i := 35) (oi := { dst := some 90, op := Op.move (Operand.tmp 8), type := 24, pos := "laws.go:1871", after := #[{ on := 34, ground := Ground.guard }], guard := some (34, true) }) (v := ?_) rfl (by kernel_rfl) (by kernel_rfl) (by kernel_rfl) (fun _ _ _ h => h) (Or.inl ⟨by rfl, ?_⟩) hHeld ?_
        rotate_left
        · (intro w9 hC9; go_simp; first | done | rfl)
        (try simp only [Act.put, List.setIfInBounds_toArray, List.set_cons_zero, List.set_cons_succ])
        refine wpAnyH_take (i := 36) (oi := { dst := some 91, op := Op.move (Operand.tmp 9), type := 3, pos := "laws.go:1871", after := #[{ on := 34, ground := Ground.guard }], guard := some (34, true) }) (v := ?_) rfl (by kernel_rfl) (by kernel_rfl) (by kernel_rfl) (fun _ _ _ h => h) (Or.inl ⟨by rfl, ?_⟩) hHeld ?_
        rotate_left
        · (intro w9 hC9; go_simp; first | done | rfl)
        (try simp only [Act.put, List.setIfInBounds_toArray, List.set_cons_zero, List.set_cons_succ])
        refine wpAnyH_take (i := 37) (oi := { dst := some 92, op := Op.binOp BinOp.sub 3 (Operand.tmp 91) (Operand.const (Value.int IntKind.i64 1)) 3, type := 3, pos := "laws.go:1871", after := #[{ on := 36, ground := Ground.data }, { on := 34, ground := Ground.guard }], guard := some (34, true) }) (v := ?_) rfl (by kernel_rfl) (by kernel_rfl) (by kernel_rfl) (fun _ _ _ h => h) (Or.inl ⟨by rfl, ?_⟩) hHeld ?_
        rotate_left
        · (intro w9 hC9; go_simp; first | done | rfl)
        (try simp only [Act.put, List.setIfInBounds_toArray, List.set_cons_zero, List.set_cons_succ])
        refine wpAnyH_take (i := 38) (oi := { dst := some 93, op := Op.indexAddr 24 (Operand.tmp 90) (Operand.tmp 92), type := 0, pos := "laws.go:1871", after := #[{ on := 35, ground := Ground.data }, { on := 37, ground := Ground.data }, { on := 34, ground := Ground.guard }], guard := some (34, true) }) (v := ?_) rfl (by kernel_rfl) (by kernel_rfl) (by kernel_rfl) (fun _ _ _ h => h) (Or.inl ⟨by rfl, ?_⟩) hHeld ?_
        rotate_left
        · (intro w9 hC9; have c0 := (hC9 (j + 1) hlt).1; have c1 := (hC9 (j + 1) hlt).2; have p1 := (hC9 j (by omega)).2; clear hC9; go_simp; first | done | rfl)
        (try simp only [Act.put, List.setIfInBounds_toArray, List.set_cons_zero, List.set_cons_succ])
        refine wpAnyH_take (i := 39) (oi := { dst := some 94, op := Op.fieldAddr 51 (Operand.tmp 93) 1, type := 0, pos := "laws.go:1871", after := #[{ on := 38, ground := Ground.data }, { on := 34, ground := Ground.guard }], guard := some (34, true) }) (v := ?_) rfl (by kernel_rfl) (by kernel_rfl) (by kernel_rfl) (fun _ _ _ h => h) (Or.inl ⟨by rfl, ?_⟩) hHeld ?_
        rotate_left
        · (intro w9 hC9; go_simp; first | done | rfl)
        (try simp only [Act.put, List.setIfInBounds_toArray, List.set_cons_zero, List.set_cons_succ])
        refine wpAnyH_take (i := 40) (oi := { dst := some 95, op := Op.load 3 (Operand.tmp 94), type := 3, pos := "laws.go:1871", after := #[{ on := 39, ground := Ground.data }, { on := 34, ground := Ground.guard }], guard := some (34, true) }) (v := ?_) rfl (by kernel_rfl) (by kernel_rfl) (by kernel_rfl) (fun _ _ _ h => h) (Or.inl ⟨by rfl, ?_⟩) hHeld ?_
        rotate_left
        · (intro w9 hC9; have c0 := (hC9 (j + 1) hlt).1; have c1 := (hC9 (j + 1) hlt).2; have p1 := (hC9 j (by omega)).2; clear hC9; go_simp; first | done | rfl)
        (try simp only [Act.put, List.setIfInBounds_toArray, List.set_cons_zero, List.set_cons_succ])
        refine wpAnyH_take (i := 41) (oi := { dst := some 96, op := Op.move (Operand.tmp 8), type := 24, pos := "laws.go:1871", after := #[{ on := 34, ground := Ground.guard }], guard := some (34, true) }) (v := ?_) rfl (by kernel_rfl) (by kernel_rfl) (by kernel_rfl) (fun _ _ _ h => h) (Or.inl ⟨by rfl, ?_⟩) hHeld ?_
        rotate_left
        · (intro w9 hC9; go_simp; first | done | rfl)
        (try simp only [Act.put, List.setIfInBounds_toArray, List.set_cons_zero, List.set_cons_succ])
        refine wpAnyH_take (i := 42) (oi := { dst := some 97, op := Op.move (Operand.tmp 9), type := 3, pos := "laws.go:1871", after := #[{ on := 34, ground := Ground.guard }], guard := some (34, true) }) (v := ?_) rfl (by kernel_rfl) (by kernel_rfl) (by kernel_rfl) (fun _ _ _ h => h) (Or.inl ⟨by rfl, ?_⟩) hHeld ?_
        rotate_left
        · (intro w9 hC9; go_simp; first | done | rfl)
        (try simp only [Act.put, List.setIfInBounds_toArray, List.set_cons_zero, List.set_cons_succ])
        refine wpAnyH_take (i := 43) (oi := { dst := some 98, op := Op.indexAddr 24 (Operand.tmp 96) (Operand.tmp 97), type := 0, pos := "laws.go:1871", after := #[{ on := 41, ground := Ground.data }, { on := 42, ground := Ground.data }, { on := 34, ground := Ground.guard }], guard := some (34, true) }) (v := ?_) rfl (by kernel_rfl) (by kernel_rfl) (by kernel_rfl) (fun _ _ _ h => h) (Or.inl ⟨by rfl, ?_⟩) hHeld ?_
        rotate_left
        · (intro w9 hC9; have c0 := (hC9 (j + 1) hlt).1; have c1 := (hC9 (j + 1) hlt).2; have p1 := (hC9 j (by omega)).2; clear hC9; go_simp; first | done | rfl)
        (try simp only [Act.put, List.setIfInBounds_toArray, List.set_cons_zero, List.set_cons_succ])
        refine wpAnyH_take (i := 44) (oi := { dst := some 99, op := Op.fieldAddr 51 (Operand.tmp 98) 0, type := 0, pos := "laws.go:1871", after := #[{ on := 43, ground := Ground.data }, { on := 34, ground := Ground.guard }], guard := some (34, true) }) (v := ?_) rfl (by kernel_rfl) (by kernel_rfl) (by kernel_rfl) (fun _ _ _ h => h) (Or.inl ⟨by rfl, ?_⟩) hHeld ?_
        rotate_left
        · (intro w9 hC9; go_simp; first | done | rfl)
        (try simp only [Act.put, List.setIfInBounds_toArray, List.set_cons_zero, List.set_cons_succ])
        refine wpAnyH_take (i := 45) (oi := { dst := some 100, op := Op.load 3 (Operand.tmp 99), type := 3, pos := "laws.go:1871", after := #[{ on := 44, ground := Ground.data }, { on := 34, ground := Ground.guard }], guard := some (34, true) }) (v := ?_) rfl (by kernel_rfl) (by kernel_rfl) (by kernel_rfl) (fun _ _ _ h => h) (Or.inl ⟨by rfl, ?_⟩) hHeld ?_
        rotate_left
        · (intro w9 hC9; have c0 := (hC9 (j + 1) hlt).1; have c1 := (hC9 (j + 1) hlt).2; have p1 := (hC9 j (by omega)).2; clear hC9; go_simp; first | done | rfl)
        (try simp only [Act.put, List.setIfInBounds_toArray, List.set_cons_zero, List.set_cons_succ])
        refine wpAnyH_take (i := 46) (oi := { dst := some 101, op := Op.binOp BinOp.gtr 3 (Operand.tmp 95) (Operand.tmp 100) 3, type := 4, pos := "laws.go:1871", after := #[{ on := 40, ground := Ground.data }, { on := 45, ground := Ground.data }, { on := 34, ground := Ground.guard }], guard := some (34, true) }) (v := ?_) rfl (by kernel_rfl) (by kernel_rfl) (by kernel_rfl) (fun _ _ _ h => h) (Or.inl ⟨by rfl, ?_⟩) hHeld ?_
        rotate_left
        · (intro w9 hC9; go_simp; first | done | rfl)
        (try simp only [Act.put, List.setIfInBounds_toArray, List.set_cons_zero, List.set_cons_succ])
        refine wpAnyH_take (i := 47) (oi := { dst := some 102, op := Op.pick (Operand.tmp 89) (Operand.tmp 101) (Operand.const (Value.bool false)), type := 4, pos := "laws.go:1871", after := #[{ on := 34, ground := Ground.data }, { on := 46, ground := Ground.data }, { on := 31, ground := Ground.guard }], guard := some (31, false) }) (v := ?_) rfl (by kernel_rfl) (by kernel_rfl) (by kernel_rfl) (fun _ _ _ h => h) (Or.inl ⟨by rfl, ?_⟩) hHeld ?_
        rotate_left
        · (intro w9 hC9; go_simp; first | done | rfl)
        (try simp only [Act.put, List.setIfInBounds_toArray, List.set_cons_zero, List.set_cons_succ])
        refine wpAnyH_take (i := 48) (oi := { dst := some 103, op := Op.pick (Operand.tmp 86) (Operand.const (Value.bool true)) (Operand.tmp 102), type := 4, pos := "laws.go:1871", after := #[{ on := 31, ground := Ground.data }, { on := 47, ground := Ground.data }], guard := none }) (v := ?_) rfl (by kernel_rfl) (by kernel_rfl) (by kernel_rfl) (fun _ _ _ h => h) (Or.inl ⟨by rfl, ?_⟩) hHeld ?_
        rotate_left
        · (intro w9 hC9; go_simp; first | done | rfl)
        (try simp only [Act.put, List.setIfInBounds_toArray, List.set_cons_zero, List.set_cons_succ])
        refine wpAnyH_take (i := 49) (oi := { dst := some 104, op := Op.move (Operand.tmp 103), type := 4, pos := "laws.go:1871", after := #[{ on := 48, ground := Ground.data }, { on := 34, ground := Ground.chain }], guard := none }) (v := ?_) rfl (by kernel_rfl) (by kernel_rfl) (by kernel_rfl) (fun _ _ _ h => h) (Or.inl ⟨by rfl, ?_⟩) hHeld ?_
        rotate_left
        · (intro w9 hC9; go_simp; first | done | rfl)
        (try simp only [Act.put, List.setIfInBounds_toArray, List.set_cons_zero, List.set_cons_succ])
        refine wpAnyH_take (i := 50) (oi := { dst := some 105, op := Op.move (Operand.tmp 8), type := 24, pos := "laws.go:1871", after := #[{ on := 49, ground := Ground.guard }], guard := some (49, false) }) (v := ?_) rfl (by kernel_rfl) (by kernel_rfl) (by kernel_rfl) (fun _ _ _ h => h) (Or.inl ⟨by rfl, ?_⟩) hHeld ?_
        rotate_left
        · (intro w9 hC9; go_simp; first | done | rfl)
        (try simp only [Act.put, List.setIfInBounds_toArray, List.set_cons_zero, List.set_cons_succ])
        refine wpAnyH_take (i := 51) (oi := { dst := some 106, op := Op.move (Operand.tmp 9), type := 3, pos := "laws.go:1871", after := #[{ on := 49, ground := Ground.guard }], guard := some (49, false) }) (v := ?_) rfl (by kernel_rfl) (by kernel_rfl) (by kernel_rfl) (fun _ _ _ h => h) (Or.inl ⟨by rfl, ?_⟩) hHeld ?_
        rotate_left
        · (intro w9 hC9; go_simp; first | done | rfl)
        (try simp only [Act.put, List.setIfInBounds_toArray, List.set_cons_zero, List.set_cons_succ])
        refine wpAnyH_take (i := 52) (oi := { dst := some 107, op := Op.move (Operand.tmp 9), type := 3, pos := "laws.go:1871", after := #[{ on := 49, ground := Ground.guard }], guard := some (49, false) }) (v := ?_) rfl (by kernel_rfl) (by kernel_rfl) (by kernel_rfl) (fun _ _ _ h => h) (Or.inl ⟨by rfl, ?_⟩) hHeld ?_
        rotate_left
        · (intro w9 hC9; go_simp; first | done | rfl)
        (try simp only [Act.put, List.setIfInBounds_toArray, List.set_cons_zero, List.set_cons_succ])
        refine wpAnyH_take (i := 53) (oi := { dst := some 108, op := Op.binOp BinOp.add 3 (Operand.tmp 107) (Operand.const (Value.int IntKind.i64 1)) 3, type := 3, pos := "laws.go:1871", after := #[{ on := 52, ground := Ground.data }, { on := 49, ground := Ground.guard }], guard := some (49, false) }) (v := ?_) rfl (by kernel_rfl) (by kernel_rfl) (by kernel_rfl) (fun _ _ _ h => h) (Or.inl ⟨by rfl, ?_⟩) hHeld ?_
        rotate_left
        · (intro w9 hC9; go_simp; first | done | rfl)
        (try simp only [Act.put, List.setIfInBounds_toArray, List.set_cons_zero, List.set_cons_succ])
        refine wpAnyH_take (i := 54) (oi := { dst := some 109, op := Op.slice 24 (Operand.tmp 105) (some (Operand.tmp 106)) (some (Operand.tmp 108)) none, type := 24, pos := "laws.go:1871", after := #[{ on := 50, ground := Ground.data }, { on := 51, ground := Ground.data }, { on := 53, ground := Ground.data }, { on := 49, ground := Ground.guard }], guard := some (49, false) }) (v := ?_) rfl (by kernel_rfl) (by kernel_rfl) (by kernel_rfl) (fun _ _ _ h => h) (Or.inl ⟨by rfl, ?_⟩) hHeld ?_
        rotate_left
        · (intro w9 hC9; go_simp; first | done | rfl)
        (try simp only [Act.put, List.setIfInBounds_toArray, List.set_cons_zero, List.set_cons_succ])
        refine wpAnyH_take (i := 55) (oi := { dst := some 110, op := Op.move (Operand.tmp 3), type := 24, pos := "laws.go:1871", after := #[{ on := 49, ground := Ground.guard }], guard := some (49, false) }) (v := ?_) rfl (by kernel_rfl) (by kernel_rfl) (by kernel_rfl) (fun _ _ _ h => h) (Or.inl ⟨by rfl, ?_⟩) hHeld ?_
        rotate_left
        · (intro w9 hC9; go_simp; first | done | rfl)
        (try simp only [Act.put, List.setIfInBounds_toArray, List.set_cons_zero, List.set_cons_succ])
        refine wpAnyH_ready (rs := [56]) (by kernel_rfl) (by simp) ?_
        refine AllReadyH.cons (o := { dst := some 111, op := Op.call { callee := Callee.value (Operand.func 30), args := #[Operand.tmp 109, Operand.tmp 110], argTypes := #[24, 24] }, type := 24, pos := "laws.go:1871", after := #[{ on := 54, ground := Ground.data }, { on := 55, ground := Ground.data }, { on := 49, ground := Ground.chain }, { on := 49, ground := Ground.guard }], guard := some (49, false) }) rfl (fun K hK => ?_) ?_
        · go_simp
          go_at_call 30
          obtain ⟨r1, hr1⟩ := sp_dec [(tAt S (j + 1), tSh S (j + 1))]
          refine (implSpansBoth _ _ [(tAt S (j + 1), tSh S (j + 1))] _ _ ss wr.drew (turns_sub (off := off) hbd CLD hlt) (HTr.out.below (B := 0) (Below.refl _ _).drew) (by show (1 : Nat) ≤ 2000000; omega) l2 r1 r hr1 HR.out).mono ?_
          rintro e w8 ⟨⟨v8, rfl, O8⟩, b8⟩
          rw [bothA_one HQ4.out] at O8
          obtain ⟨ea, ec, rfl⟩ := O8.shape0
          have CL8 : ∀ i, i < S.length → w8.cell? ⟨b, off + i * 2, none⟩ = some (.int .i64 (tAt S i)) ∧ w8.cell? ⟨b, off + i * 2 + 1, none⟩ = some (.int .i64 (tSh S i)) := fun i hi => ⟨(b8.cell (p := ⟨b, off + i * 2, none⟩) hbd).trans (CLD i hi).1, (b8.cell (p := ⟨b, off + i * 2 + 1, none⟩) hbd).trans (CLD i hi).2⟩
          have HB8 : Hid (Below w4.heap.size w4 w8) := bstep HB.out.drew b8
          clear O8 b8
          refine hK.out _ _ CL8 (fun hHeld => ?_)
          clear hK K
          (try simp only [Act.put, List.setIfInBounds_toArray, List.set_cons_zero, List.set_cons_succ])
          refine wpAnyH_take (i := 57) (oi := { dst := some 112, op := Op.call { callee := Callee.builtin Builtin.len, args := #[Operand.tmp 111], argTypes := #[24] }, type := 3, pos := "laws.go:1871", after := #[{ on := 56, ground := Ground.data }, { on := 49, ground := Ground.guard }], guard := some (49, false) }) (v := ?_) rfl (by kernel_rfl) (by kernel_rfl) (by kernel_rfl) (fun _ _ _ h => h) (Or.inl ⟨by rfl, ?_⟩) hHeld ?_
          rotate_left
          · (intro w9 hC9; go_simp; first | done | rfl)
          (try simp only [Act.put, List.setIfInBounds_toArray, List.set_cons_zero, List.set_cons_succ])
          refine wpAnyH_take (i := 58) (oi := { dst := some 113, op := Op.binOp BinOp.gtr 3 (Operand.tmp 112) (Operand.const (Value.int IntKind.i64 0)) 3, type := 4, pos := "laws.go:1871", after := #[{ on := 57, ground := Ground.data }, { on := 49, ground := Ground.guard }], guard := some (49, false) }) (v := ?_) rfl (by kernel_rfl) (by kernel_rfl) (by kernel_rfl) (fun _ _ _ h => h) (Or.inl ⟨by rfl, ?_⟩) hHeld ?_
          rotate_left
          · (intro w9 hC9; go_simp; first | done | rfl)
          (try simp only [Act.put, List.setIfInBounds_toArray, List.set_cons_zero, List.set_cons_succ])
          refine wpAnyH_take (i := 59) (oi := { dst := some 114, op := Op.pick (Operand.tmp 104) (Operand.const (Value.bool true)) (Operand.tmp 113), type := 4, pos := "laws.go:1871", after := #[{ on := 49, ground := Ground.data }, { on := 58, ground := Ground.data }], guard := none }) (v := ?_) rfl (by kernel_rfl) (by kernel_rfl) (by kernel_rfl) (fun _ _ _ h => h) (Or.inl ⟨by rfl, ?_⟩) hHeld ?_
          rotate_left
          · (intro w9 hC9; go_simp; first | done | rfl)
          (try simp only [Act.put, List.setIfInBounds_toArray, List.set_cons_zero, List.set_cons_succ])
          refine wpAnyH_done (by kernel_rfl) ?_ _
          clear CL8 CLD hHeld
          go_wp2
          go_roundw
          case rel => exact ⟨j + 1 + 1, by omega, by go_num, HB8.out⟩
          case measure => simp [intOf]; omega
        exact AllReadyH.nil
    · generalize wr = w9 at *
      go_upto_region 12 with fail
      have hbd : b < w9.drew.heap.size := hbr
      have hlm := HK.out.len hp
      have hl1 : decide ((S.length : Int) ≤ m) = true := decide_eq_true hlm.1
      have hl2 : (S.length : Int) ≤ m := hlm.1
      have hm1 : 1 ≤ m := hlm.2
      have gm := IntWalk.i64_in (m - 1) (by omega)
      obtain ⟨j, hj⟩ : ∃ j : Nat, (j : Int) = (if (S.length : Int) < m - 1 then (S.length : Int) else m - 1) := ⟨(if (S.length : Int) < m - 1 then (S.length : Int) else m - 1).toNat, by split <;> omega⟩
      have hjs : (j : Int) ≤ (S.length : Int) := by rw [hj]; split <;> omega
      have hj0 : (0 : Int) ≤ (j : Int) := by omega
      have hjc : (j : Int) ≤ (sc : Int) := by omega
      have HLS : Hid (slotsA r ss x y n (m - 1) = S.take j) := HK.out.less hp j hj
      have HJ : Hid ((j : Int) = (if (S.length : Int) < m - 1 then (S.length : Int) else m - 1)) := hj
      have hlen : (S.take j).length = j := by rw [List.length_take]; omega
      clear hj hlm
      have HH : Hid (tAt S 0 = slA r ss x y n) := HK.out.head hp
      have CLD : ∀ i, i < S.length → w9.drew.cell? ⟨b, off + i * 2, none⟩ = some (.int .i64 (tAt S i)) ∧ w9.drew.cell? ⟨b, off + i * 2 + 1, none⟩ = some (.int .i64 (tSh S i)) := fun i hi => by simpa using HCr.out i hi
      refine wp_region_held_drew (S := (fun w' => ∀ i, i < S.length → w'.cell? ⟨b, off + i * 2, none⟩ = some (.int .i64 (tAt S i)) ∧ w'.cell? ⟨b, off + i * 2 + 1, none⟩ = some (.int .i64 (tSh S i)))) (by kernel_rfl) CLD (fun hHeld => ?_)
      refine wpAnyH_take (i := 0) (oi := { dst := some 115, op := Op.move (Operand.tmp 8), type := 24, pos := "laws.go:1875", after := #[], guard := none }) (v := ?_) rfl (by kernel_rfl) (by kernel_rfl) (by kernel_rfl) (fun _ _ _ h => h) (Or.inl ⟨by rfl, ?_⟩) hHeld ?_
      rotate_left
      · (intro w10 hC9; go_simp; first | done | rfl)
      (try simp only [Act.put, List.setIfInBounds_toArray, List.set_cons_zero, List.set_cons_succ])
      refine wpAnyH_take (i := 1) (oi := { dst := some 116, op := Op.call { callee := Callee.builtin Builtin.len, args := #[Operand.tmp 115], argTypes := #[24] }, type := 3, pos := "laws.go:1875", after := #[{ on := 0, ground := Ground.data }], guard := none }) (v := ?_) rfl (by kernel_rfl) (by kernel_rfl) (by kernel_rfl) (fun _ _ _ h => h) (Or.inl ⟨by rfl, ?_⟩) hHeld ?_
      rotate_left
      · (intro w10 hC9; go_simp; first | done | rfl)
      (try simp only [Act.put, List.setIfInBounds_toArray, List.set_cons_zero, List.set_cons_succ])
      refine wpAnyH_take (i := 2) (oi := { dst := some 117, op := Op.move (Operand.tmp 7), type := 3, pos := "laws.go:1875", after := #[], guard := none }) (v := ?_) rfl (by kernel_rfl) (by kernel_rfl) (by kernel_rfl) (fun _ _ _ h => h) (Or.inl ⟨by rfl, ?_⟩) hHeld ?_
      rotate_left
      · (intro w10 hC9; go_simp; first | done | rfl)
      (try simp only [Act.put, List.setIfInBounds_toArray, List.set_cons_zero, List.set_cons_succ])
      refine wpAnyH_take (i := 3) (oi := { dst := some 118, op := Op.binOp BinOp.leq 3 (Operand.tmp 116) (Operand.tmp 117) 3, type := 4, pos := "laws.go:1875", after := #[{ on := 1, ground := Ground.data }, { on := 2, ground := Ground.data }], guard := none }) (v := ?_) rfl (by kernel_rfl) (by kernel_rfl) (by kernel_rfl) (fun _ _ _ h => h) (Or.inl ⟨by rfl, ?_⟩) hHeld ?_
      rotate_left
      · (intro w10 hC9; go_simp; first | done | rfl)
      (try simp only [Act.put, List.setIfInBounds_toArray, List.set_cons_zero, List.set_cons_succ])
      refine wpAnyH_take (i := 4) (oi := { dst := some 119, op := Op.move (Operand.tmp 118), type := 4, pos := "laws.go:1875", after := #[{ on := 3, ground := Ground.data }], guard := none }) (v := ?_) rfl (by kernel_rfl) (by kernel_rfl) (by kernel_rfl) (fun _ _ _ h => h) (Or.inl ⟨by rfl, ?_⟩) hHeld ?_
      rotate_left
      · (intro w10 hC9; go_simp; first | done | rfl)
      (try simp only [Act.put, List.setIfInBounds_toArray, List.set_cons_zero, List.set_cons_succ])
      refine wpAnyH_take (i := 5) (oi := { dst := some 120, op := Op.move (Operand.tmp 8), type := 24, pos := "laws.go:1875", after := #[{ on := 4, ground := Ground.guard }], guard := some (4, true) }) (v := ?_) rfl (by kernel_rfl) (by kernel_rfl) (by kernel_rfl) (fun _ _ _ h => h) (Or.inl ⟨by rfl, ?_⟩) hHeld ?_
      rotate_left
      · (intro w10 hC9; go_simp; first | done | rfl)
      (try simp only [Act.put, List.setIfInBounds_toArray, List.set_cons_zero, List.set_cons_succ])
      refine wpAnyH_take (i := 6) (oi := { dst := some 121, op := Op.indexAddr 24 (Operand.tmp 120) (Operand.const (Value.int IntKind.i64 0)), type := 0, pos := "laws.go:1875", after := #[{ on := 5, ground := Ground.data }, { on := 4, ground := Ground.guard }], guard := some (4, true) }) (v := ?_) rfl (by kernel_rfl) (by kernel_rfl) (by kernel_rfl) (fun _ _ _ h => h) (Or.inl ⟨by rfl, ?_⟩) hHeld ?_
      rotate_left
      · (intro w10 hC9; have c0 := (hC9 0 hp).1; have c1 := (hC9 0 hp).2; simp only [Nat.zero_mul, Nat.add_zero] at c0 c1; clear hC9; go_simp; first | done | rfl)
      (try simp only [Act.put, List.setIfInBounds_toArray, List.set_cons_zero, List.set_cons_succ])
      refine wpAnyH_take (i := 7) (oi := { dst := some 122, op := Op.fieldAddr 51 (Operand.tmp 121) 0, type := 0, pos := "laws.go:1875", after := #[{ on := 6, ground := Ground.data }, { on := 4, ground := Ground.guard }], guard := some (4, true) }) (v := ?_) rfl (by kernel_rfl) (by kernel_rfl) (by kernel_rfl) (fun _ _ _ h => h) (Or.inl ⟨by rfl, ?_⟩) hHeld ?_
      rotate_left
      · (intro w10 hC9; go_simp; first | done | rfl)
      (try simp only [Act.put, List.setIfInBounds_toArray, List.set_cons_zero, List.set_cons_succ])
      refine wpAnyH_take (i := 8) (oi := { dst := some 123, op := Op.load 3 (Operand.tmp 122), type := 3, pos := "laws.go:1875", after := #[{ on := 7, ground := Ground.data }, { on := 4, ground := Ground.guard }], guard := some (4, true) }) (v := ?_) rfl (by kernel_rfl) (by kernel_rfl) (by kernel_rfl) (fun _ _ _ h => h) (Or.inl ⟨by rfl, ?_⟩) hHeld ?_
      rotate_left
      · (intro w10 hC9; have c0 := (hC9 0 hp).1; have c1 := (hC9 0 hp).2; simp only [Nat.zero_mul, Nat.add_zero] at c0 c1; clear hC9; go_simp; first | done | rfl)
      (try simp only [Act.put, List.setIfInBounds_toArray, List.set_cons_zero, List.set_cons_succ])
      refine wpAnyH_take (i := 9) (oi := { dst := some 124, op := Op.move (Operand.tmp 3), type := 24, pos := "laws.go:1875", after := #[{ on := 4, ground := Ground.guard }], guard := some (4, true) }) (v := ?_) rfl (by kernel_rfl) (by kernel_rfl) (by kernel_rfl) (fun _ _ _ h => h) (Or.inl ⟨by rfl, ?_⟩) hHeld ?_
      rotate_left
      · (intro w10 hC9; go_simp; first | done | rfl)
      (try simp only [Act.put, List.setIfInBounds_toArray, List.set_cons_zero, List.set_cons_succ])
      refine wpAnyH_take (i := 10) (oi := { dst := some 125, op := Op.move (Operand.tmp 4), type := 3, pos := "laws.go:1875", after := #[{ on := 4, ground := Ground.guard }], guard := some (4, true) }) (v := ?_) rfl (by kernel_rfl) (by kernel_rfl) (by kernel_rfl) (fun _ _ _ h => h) (Or.inl ⟨by rfl, ?_⟩) hHeld ?_
      rotate_left
      · (intro w10 hC9; go_simp; first | done | rfl)
      (try simp only [Act.put, List.setIfInBounds_toArray, List.set_cons_zero, List.set_cons_succ])
      refine wpAnyH_take (i := 11) (oi := { dst := some 126, op := Op.move (Operand.tmp 5), type := 3, pos := "laws.go:1875", after := #[{ on := 4, ground := Ground.guard }], guard := some (4, true) }) (v := ?_) rfl (by kernel_rfl) (by kernel_rfl) (by kernel_rfl) (fun _ _ _ h => h) (Or.inl ⟨by rfl, ?_⟩) hHeld ?_
      rotate_left
      · (intro w10 hC9; go_simp; first | done | rfl)
      (try simp only [Act.put, List.setIfInBounds_toArray, List.set_cons_zero, List.set_cons_succ])
      refine wpAnyH_take (i := 12) (oi := { dst := some 127, op := Op.move (Operand.tmp 6), type := 3, pos := "laws.go:1875", after := #[{ on := 4, ground := Ground.guard }], guard := some (4, true) }) (v := ?_) rfl (by kernel_rfl) (by kernel_rfl) (by kernel_rfl) (fun _ _ _ h => h) (Or.inl ⟨by rfl, ?_⟩) hHeld ?_
      rotate_left
      · (intro w10 hC9; go_simp; first | done | rfl)
      (try simp only [Act.put, List.setIfInBounds_toArray, List.set_cons_zero, List.set_cons_succ])
      refine wpAnyH_ready (rs := [13]) (by kernel_rfl) (by simp) ?_
      refine AllReadyH.cons (o := { dst := some 128, op := Op.call { callee := Callee.value (Operand.func 21), args := #[Operand.tmp 124, Operand.tmp 125, Operand.tmp 126, Operand.tmp 127], argTypes := #[24, 3, 3, 3] }, type := 3, pos := "laws.go:1875", after := #[{ on := 9, ground := Ground.data }, { on := 10, ground := Ground.data }, { on := 11, ground := Ground.data }, { on := 12, ground := Ground.data }, { on := 4, ground := Ground.chain }, { on := 4, ground := Ground.guard }], guard := some (4, true) }) rfl (fun K hK => ?_) ?_
      · go_simp
        go_at_call 21
        have C1 := implSlotFirst va vc ss x y n w9.drew (HTr.out.below (B := 0) (Below.refl _ _).drew) l2 r HR.out
        rw [← HH.out] at C1
        refine C1.mono ?_
        rintro e wA ⟨rfl, bA⟩
        have CLA : ∀ i, i < S.length → wA.cell? ⟨b, off + i * 2, none⟩ = some (.int .i64 (tAt S i)) ∧ wA.cell? ⟨b, off + i * 2 + 1, none⟩ = some (.int .i64 (tSh S i)) := fun i hi => ⟨(bA.cell (p := ⟨b, off + i * 2, none⟩) hbd).trans (CLD i hi).1, (bA.cell (p := ⟨b, off + i * 2 + 1, none⟩) hbd).trans (CLD i hi).2⟩
        have hbA : b < wA.heap.size := Nat.lt_of_lt_of_le hbd bA.size
        have HTA : Hid (IsTurns wA va ss) := (HTr.out.below (B := 0) (Below.refl _ _).drew).below (B := 0) bA
        have HBA : Hid (Below w4.heap.size w4 wA) := bstep HB.out.drew bA
        clear bA C1
        refine hK.out _ _ CLA (fun hHeld => ?_)
        clear hK K
        (try simp only [Act.put, List.setIfInBounds_toArray, List.set_cons_zero, List.set_cons_succ])
        refine wpAnyH_take (i := 14) (oi := { dst := some 129, op := Op.binOp BinOp.eql 3 (Operand.tmp 123) (Operand.tmp 128) 3, type := 4, pos := "laws.go:1875", after := #[{ on := 8, ground := Ground.data }, { on := 13, ground := Ground.data }, { on := 4, ground := Ground.guard }], guard := some (4, true) }) (v := ?_) rfl (by kernel_rfl) (by kernel_rfl) (by kernel_rfl) (fun _ _ _ h => h) (Or.inl ⟨by rfl, ?_⟩) hHeld ?_
        rotate_left
        · (intro w10 hC9; go_simp; first | done | rfl)
        (try simp only [Act.put, List.setIfInBounds_toArray, List.set_cons_zero, List.set_cons_succ])
        refine wpAnyH_take (i := 15) (oi := { dst := some 130, op := Op.pick (Operand.tmp 119) (Operand.tmp 129) (Operand.const (Value.bool false)), type := 4, pos := "laws.go:1875", after := #[{ on := 4, ground := Ground.data }, { on := 14, ground := Ground.data }], guard := none }) (v := ?_) rfl (by kernel_rfl) (by kernel_rfl) (by kernel_rfl) (fun _ _ _ h => h) (Or.inl ⟨by rfl, ?_⟩) hHeld ?_
        rotate_left
        · (intro w10 hC9; go_simp; first | done | rfl)
        (try simp only [Act.put, List.setIfInBounds_toArray, List.set_cons_zero, List.set_cons_succ])
        refine wpAnyH_take (i := 16) (oi := { dst := some 131, op := Op.move (Operand.tmp 130), type := 4, pos := "laws.go:1875", after := #[{ on := 15, ground := Ground.data }, { on := 13, ground := Ground.chain }], guard := none }) (v := ?_) rfl (by kernel_rfl) (by kernel_rfl) (by kernel_rfl) (fun _ _ _ h => h) (Or.inl ⟨by rfl, ?_⟩) hHeld ?_
        rotate_left
        · (intro w10 hC9; go_simp; first | done | rfl)
        (try simp only [Act.put, List.setIfInBounds_toArray, List.set_cons_zero, List.set_cons_succ])
        refine wpAnyH_take (i := 17) (oi := { dst := some 132, op := Op.move (Operand.tmp 3), type := 24, pos := "laws.go:1875", after := #[{ on := 16, ground := Ground.guard }], guard := some (16, true) }) (v := ?_) rfl (by kernel_rfl) (by kernel_rfl) (by kernel_rfl) (fun _ _ _ h => h) (Or.inl ⟨by rfl, ?_⟩) hHeld ?_
        rotate_left
        · (intro w10 hC9; go_simp; first | done | rfl)
        (try simp only [Act.put, List.setIfInBounds_toArray, List.set_cons_zero, List.set_cons_succ])
        refine wpAnyH_take (i := 18) (oi := { dst := some 133, op := Op.move (Operand.tmp 4), type := 3, pos := "laws.go:1875", after := #[{ on := 16, ground := Ground.guard }], guard := some (16, true) }) (v := ?_) rfl (by kernel_rfl) (by kernel_rfl) (by kernel_rfl) (fun _ _ _ h => h) (Or.inl ⟨by rfl, ?_⟩) hHeld ?_
        rotate_left
        · (intro w10 hC9; go_simp; first | done | rfl)
        (try simp only [Act.put, List.setIfInBounds_toArray, List.set_cons_zero, List.set_cons_succ])
        refine wpAnyH_take (i := 19) (oi := { dst := some 134, op := Op.move (Operand.tmp 5), type := 3, pos := "laws.go:1875", after := #[{ on := 16, ground := Ground.guard }], guard := some (16, true) }) (v := ?_) rfl (by kernel_rfl) (by kernel_rfl) (by kernel_rfl) (fun _ _ _ h => h) (Or.inl ⟨by rfl, ?_⟩) hHeld ?_
        rotate_left
        · (intro w10 hC9; go_simp; first | done | rfl)
        (try simp only [Act.put, List.setIfInBounds_toArray, List.set_cons_zero, List.set_cons_succ])
        refine wpAnyH_take (i := 20) (oi := { dst := some 135, op := Op.move (Operand.tmp 6), type := 3, pos := "laws.go:1875", after := #[{ on := 16, ground := Ground.guard }], guard := some (16, true) }) (v := ?_) rfl (by kernel_rfl) (by kernel_rfl) (by kernel_rfl) (fun _ _ _ h => h) (Or.inl ⟨by rfl, ?_⟩) hHeld ?_
        rotate_left
        · (intro w10 hC9; go_simp; first | done | rfl)
        (try simp only [Act.put, List.setIfInBounds_toArray, List.set_cons_zero, List.set_cons_succ])
        refine wpAnyH_take (i := 21) (oi := { dst := some 136, op := Op.move (Operand.tmp 7), type := 3, pos := "laws.go:1875", after := #[{ on := 16, ground := Ground.guard }], guard := some (16, true) }) (v := ?_) rfl (by kernel_rfl) (by kernel_rfl) (by kernel_rfl) (fun _ _ _ h => h) (Or.inl ⟨by rfl, ?_⟩) hHeld ?_
        rotate_left
        · (intro w10 hC9; go_simp; first | done | rfl)
        (try simp only [Act.put, List.setIfInBounds_toArray, List.set_cons_zero, List.set_cons_succ])
        refine wpAnyH_take (i := 22) (oi := { dst := some 137, op := Op.binOp BinOp.sub 3 (Operand.tmp 136) (Operand.const (Value.int IntKind.i64 1)) 3, type := 3, pos := "laws.go:1875", after := #[{ on := 21, ground := Ground.data }, { on := 16, ground := Ground.guard }], guard := some (16, true) }) (v := ?_) rfl (by kernel_rfl) (by kernel_rfl) (by kernel_rfl) (fun _ _ _ h => h) (Or.inl ⟨by rfl, ?_⟩) hHeld ?_
        rotate_left
        · (intro w10 hC9; go_simp; first | done | rfl)
        (try simp only [Act.put, List.setIfInBounds_toArray, List.set_cons_zero, List.set_cons_succ])
        refine wpAnyH_take (i := 24) (oi := { dst := some 139, op := Op.move (Operand.tmp 8), type := 24, pos := "laws.go:1875", after := #[{ on := 16, ground := Ground.guard }], guard := some (16, true) }) (v := ?_) rfl (by kernel_rfl) (by kernel_rfl) (by kernel_rfl) (fun _ _ _ h => h) (Or.inl ⟨by rfl, ?_⟩) hHeld ?_
        rotate_left
        · (intro w10 hC9; go_simp; first | done | rfl)
        (try simp only [Act.put, List.setIfInBounds_toArray, List.set_cons_zero, List.set_cons_succ])
        refine wpAnyH_take (i := 25) (oi := { dst := some 140, op := Op.move (Operand.tmp 8), type := 24, pos := "laws.go:1875", after := #[{ on := 16, ground := Ground.guard }], guard := some (16, true) }) (v := ?_) rfl (by kernel_rfl) (by kernel_rfl) (by kernel_rfl) (fun _ _ _ h => h) (Or.inl ⟨by rfl, ?_⟩) hHeld ?_
        rotate_left
        · (intro w10 hC9; go_simp; first | done | rfl)
        (try simp only [Act.put, List.setIfInBounds_toArray, List.set_cons_zero, List.set_cons_succ])
        refine wpAnyH_take (i := 26) (oi := { dst := some 141, op := Op.call { callee := Callee.builtin Builtin.len, args := #[Operand.tmp 140], argTypes := #[24] }, type := 3, pos := "laws.go:1875", after := #[{ on := 25, ground := Ground.data }, { on := 16, ground := Ground.guard }], guard := some (16, true) }) (v := ?_) rfl (by kernel_rfl) (by kernel_rfl) (by kernel_rfl) (fun _ _ _ h => h) (Or.inl ⟨by rfl, ?_⟩) hHeld ?_
        rotate_left
        · (intro w10 hC9; go_simp; first | done | rfl)
        (try simp only [Act.put, List.setIfInBounds_toArray, List.set_cons_zero, List.set_cons_succ])
        refine wpAnyH_take (i := 27) (oi := { dst := some 142, op := Op.move (Operand.tmp 7), type := 3, pos := "laws.go:1875", after := #[{ on := 16, ground := Ground.guard }], guard := some (16, true) }) (v := ?_) rfl (by kernel_rfl) (by kernel_rfl) (by kernel_rfl) (fun _ _ _ h => h) (Or.inl ⟨by rfl, ?_⟩) hHeld ?_
        rotate_left
        · (intro w10 hC9; go_simp; first | done | rfl)
        (try simp only [Act.put, List.setIfInBounds_toArray, List.set_cons_zero, List.set_cons_succ])
        refine wpAnyH_take (i := 28) (oi := { dst := some 143, op := Op.binOp BinOp.sub 3 (Operand.tmp 142) (Operand.const (Value.int IntKind.i64 1)) 3, type := 3, pos := "laws.go:1875", after := #[{ on := 27, ground := Ground.data }, { on := 16, ground := Ground.guard }], guard := some (16, true) }) (v := ?_) rfl (by kernel_rfl) (by kernel_rfl) (by kernel_rfl) (fun _ _ _ h => h) (Or.inl ⟨by rfl, ?_⟩) hHeld ?_
        rotate_left
        · (intro w10 hC9; go_simp; first | done | rfl)
        (try simp only [Act.put, List.setIfInBounds_toArray, List.set_cons_zero, List.set_cons_succ])
        refine wpAnyH_ready (rs := [23]) (by kernel_rfl) (by simp) ?_
        refine AllReadyH.cons (o := { dst := some 138, op := Op.call { callee := Callee.value (Operand.func 35), args := #[Operand.tmp 132, Operand.tmp 133, Operand.tmp 134, Operand.tmp 135, Operand.tmp 137], argTypes := #[24, 3, 3, 3, 3] }, type := 24, pos := "laws.go:1875", after := #[{ on := 17, ground := Ground.data }, { on := 18, ground := Ground.data }, { on := 19, ground := Ground.data }, { on := 20, ground := Ground.data }, { on := 22, ground := Ground.data }, { on := 16, ground := Ground.chain }, { on := 16, ground := Ground.guard }], guard := some (16, true) }) rfl (fun K hK => ?_) ?_
        · go_simp
          go_at_call 35
          have C2 := implSlotList va vc ss x y n (m - 1) wA HTA.out l2 r HR.out
          rw [HLS.out] at C2
          refine C2.mono ?_
          rintro e wB ⟨⟨vB, rfl, OB⟩, bB⟩
          obtain ⟨ua, uc, rfl⟩ := OB.shape0
          have HUB : Hid (IsTurns wB ua (S.take j)) := OB.isT.1
          have CLB : ∀ i, i < S.length → wB.cell? ⟨b, off + i * 2, none⟩ = some (.int .i64 (tAt S i)) ∧ wB.cell? ⟨b, off + i * 2 + 1, none⟩ = some (.int .i64 (tSh S i)) := fun i hi => ⟨(bB.cell (p := ⟨b, off + i * 2, none⟩) hbA).trans (CLA i hi).1, (bB.cell (p := ⟨b, off + i * 2 + 1, none⟩) hbA).trans (CLA i hi).2⟩
          have hbB : b < wB.heap.size := Nat.lt_of_lt_of_le hbA bB.size
          have HBB : Hid (Below w4.heap.size w4 wB) := bstep HBA.out bB
          clear bB OB C2
          rw [hlen]
          refine hK.out _ _ CLB (fun hHeld => ?_)
          clear hK K
          (try simp only [Act.put, List.setIfInBounds_toArray, List.set_cons_zero, List.set_cons_succ])
          refine wpAnyH_ready (rs := [29]) (by kernel_rfl) (by simp) ?_
          refine AllReadyH.cons (o := { dst := some 144, op := Op.call { callee := Callee.value (Operand.func 37), args := #[Operand.tmp 141, Operand.tmp 143], argTypes := #[3, 3] }, type := 3, pos := "laws.go:1875", after := #[{ on := 26, ground := Ground.data }, { on := 28, ground := Ground.data }, { on := 23, ground := Ground.chain }, { on := 16, ground := Ground.guard }], guard := some (16, true) }) rfl (fun K hK => ?_) ?_
          · go_simp
            go_at_call 37
            have C3 := lawEpLess (S.length : Int) (m - 1) wB
            rw [← HJ.out] at C3
            refine C3.mono ?_
            rintro e wC ⟨rfl, rfl⟩
            clear C3
            refine hK.out _ _ CLB (fun hHeld => ?_)
            clear hK K
            (try simp only [Act.put, List.setIfInBounds_toArray, List.set_cons_zero, List.set_cons_succ])
            refine wpAnyH_take (i := 30) (oi := { dst := some 145, op := Op.slice 24 (Operand.tmp 139) none (some (Operand.tmp 144)) none, type := 24, pos := "laws.go:1875", after := #[{ on := 24, ground := Ground.data }, { on := 29, ground := Ground.data }, { on := 16, ground := Ground.guard }], guard := some (16, true) }) (v := ?_) rfl (by kernel_rfl) (by kernel_rfl) (by kernel_rfl) (fun _ _ _ h => h) (Or.inl ⟨by rfl, ?_⟩) hHeld ?_
            rotate_left
            · (intro w10 hC9; go_simp; first | done | rfl)
            (try simp only [Act.put, List.setIfInBounds_toArray, List.set_cons_zero, List.set_cons_succ])
            refine wpAnyH_ready (rs := [31]) (by kernel_rfl) (by simp) ?_
            refine AllReadyH.cons (o := { dst := some 146, op := Op.call { callee := Callee.value (Operand.func 23), args := #[Operand.tmp 138, Operand.tmp 145], argTypes := #[24, 24] }, type := 4, pos := "laws.go:1875", after := #[{ on := 23, ground := Ground.data }, { on := 30, ground := Ground.data }, { on := 29, ground := Ground.chain }, { on := 16, ground := Ground.guard }], guard := some (16, true) }) rfl (fun K hK => ?_) ?_
            · go_simp
              go_at_call 23
              have HSB : IsTurns wC (some ⟨b, off, none⟩) (S.take j) := turns_take (.inr ⟨b, off, rfl, hbB, CLB⟩) j
              have C4 := lawEpSpans ua (some ⟨b, off, none⟩) uc sc (S.take j) (S.take j) wC HUB.out HSB (by omega) (by omega) true (decide_eq_true rfl)
              rw [hlen] at C4
              refine C4.mono ?_
              rintro e wD ⟨rfl, bD⟩
              have CLE : ∀ i, i < S.length → wD.cell? ⟨b, off + i * 2, none⟩ = some (.int .i64 (tAt S i)) ∧ wD.cell? ⟨b, off + i * 2 + 1, none⟩ = some (.int .i64 (tSh S i)) := fun i hi => ⟨(bD.cell (p := ⟨b, off + i * 2, none⟩) hbB).trans (CLB i hi).1, (bD.cell (p := ⟨b, off + i * 2 + 1, none⟩) hbB).trans (CLB i hi).2⟩
              have HBD : Hid (Below w4.heap.size w4 wD) := bstep HBB.out bD
              clear bD C4
              refine hK.out _ _ CLE (fun hHeld => ?_)
              clear hK K
              (try simp only [Act.put, List.setIfInBounds_toArray, List.set_cons_zero, List.set_cons_succ])
              refine wpAnyH_take (i := 32) (oi := { dst := some 147, op := Op.pick (Operand.tmp 131) (Operand.tmp 146) (Operand.const (Value.bool false)), type := 4, pos := "laws.go:1875", after := #[{ on := 16, ground := Ground.data }, { on := 31, ground := Ground.data }], guard := none }) (v := ?_) rfl (by kernel_rfl) (by kernel_rfl) (by kernel_rfl) (fun _ _ _ h => h) (Or.inl ⟨by rfl, ?_⟩) hHeld ?_
              rotate_left
              · (intro w10 hC9; go_simp; first | done | rfl)
              (try simp only [Act.put, List.setIfInBounds_toArray, List.set_cons_zero, List.set_cons_succ])
              refine wpAnyH_take (i := 33) (oi := { dst := some 2, op := Op.assign (Operand.tmp 147), type := 4, pos := "laws.go:1875", after := #[{ on := 32, ground := Ground.data }, { on := 31, ground := Ground.chain }, { on := 0, ground := Ground.phase }, { on := 1, ground := Ground.phase }, { on := 2, ground := Ground.phase }, { on := 3, ground := Ground.phase }, { on := 4, ground := Ground.phase }, { on := 5, ground := Ground.phase }, { on := 6, ground := Ground.phase }, { on := 7, ground := Ground.phase }, { on := 8, ground := Ground.phase }, { on := 9, ground := Ground.phase }, { on := 10, ground := Ground.phase }, { on := 11, ground := Ground.phase }, { on := 12, ground := Ground.phase }, { on := 13, ground := Ground.phase }, { on := 14, ground := Ground.phase }, { on := 15, ground := Ground.phase }, { on := 16, ground := Ground.phase }, { on := 17, ground := Ground.phase }, { on := 18, ground := Ground.phase }, { on := 19, ground := Ground.phase }, { on := 20, ground := Ground.phase }, { on := 21, ground := Ground.phase }, { on := 22, ground := Ground.phase }, { on := 23, ground := Ground.phase }, { on := 24, ground := Ground.phase }, { on := 25, ground := Ground.phase }, { on := 26, ground := Ground.phase }, { on := 27, ground := Ground.phase }, { on := 28, ground := Ground.phase }, { on := 29, ground := Ground.phase }, { on := 30, ground := Ground.phase }, { on := 31, ground := Ground.phase }, { on := 32, ground := Ground.phase }], guard := none }) (v := ?_) rfl (by kernel_rfl) (by kernel_rfl) (by kernel_rfl) (fun _ _ _ h => h) (Or.inl ⟨by rfl, ?_⟩) hHeld ?_
              rotate_left
              · (intro w10 hC9; go_simp; first | done | rfl)
              (try simp only [Act.put, List.setIfInBounds_toArray, List.set_cons_zero, List.set_cons_succ])
              refine wpAnyH_done (by kernel_rfl) ?_ _
              have Bf := bstep HB4.out HBD.out
              clear CLE CLB CLA CLD hHeld
              go_wp2
              go_ret
              exact ⟨rfl, Bf⟩
            exact AllReadyH.nil
          exact AllReadyH.nil
        exact AllReadyH.nil
      exact AllReadyH.nil
end Go.Proofs.Ytkbgbccehijckaa
