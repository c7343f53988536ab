/- What two lists of spans both have, and what the first alone has: the specification's. -/
import Derived.Test.YtkbgbccehijckaaYc
import Derived.Test.YtkbgbccehijckaaSr
import Derived.Deep.RegionHeldLaw
namespace Go.Proofs.Ytkbgbccehijckaa
open Go.RowKit
set_option linter.unusedVariables false
/-- A row appended at a step of a region that draws its order, whatever either has. -/
theorem step_append_rows {P : Program} {w : World} {ops : Array Oper} {o : Oper} {a : Act} {K : Act → World → Prop} {Q : Exit → Act → World → Prop} {E : Prop} (hgd : o.guard = none) (s x : Operand) (t : TypeId)
    (ho : o.op = .call { callee := .builtin .append, args := #[s, x], argTypes := #[t, t] })
    (B B' : Nat) (T : TypeId) (i : TypeInfo) (z : Value) (ht : P.underlying t = some (.slice T)) (hi : P.info? T = some i) (hz : i.zero = some z)
    (hsize : i.size = 2) (hby : i.bytes = 16) (hzs : z.cells.size = 2)
    (v u : Value) (ts us : List (Int × Int)) (hs : a.eval s = v) (hown : OP w B T v ts) (hx : a.eval x = u) (hu : OP w B' T u us)
    (h63 : ts.length + us.length ≤ 4000000) (hbase : B ≤ w.heap.size)
    (h : ∀ v' w', OP w' B T v' (ts ++ us) → w.grownBy w' v.ownBlock → Below B w w' → K (a.put o.dst v') w') :
    if Region.wanted o (yielded ops a.tmps) = true then Oper.wp P o a w K Q else E := by
  have hw : Region.wanted o (yielded ops a.tmps) = true := by simp [Region.wanted, hgd]
  rw [if_pos hw]
  rcases hu.2 with ⟨rfl, h0⟩ | ⟨g, cap, cur, rfl, hB, hg, _⟩
  · obtain rfl : us = [] := List.length_eq_zero_iff.1 h0
    have hrun := run_append_owned_none (P := P) (w := w) B t o.type T i 2 ht hi v ts.length (pcs ts) hown
    have := h v w (by rw [List.append_nil]; exact hown) (World.grownBy.refl _ _) (Below.refl _ _)
    unfold Oper.wp
    simp [execOp, ho, resolve, invoke, builtin, hs, hx, hrun, Result.andThen]
    exact this
  · refine wp_append_own w s x t ho B T i z 2 16 ht hi hz hsize hby hzs (by omega) v ts.length (pcs ts) hs hown ⟨g, 0, none⟩ us.length cap (pcs us) hx (pcs_len us) (OP.news hu rfl) (pcs_one us) (by unfold maxLen; omega) (by omega) hbase ?_
    intro v' w' h2 h3 _
    exact h v' w' (by unfold OP; rw [pcs_append, List.length_append]; exact h2) h3 ((Below.refl _ _).grown h3 hbase (fun k hk => (World.ownsRow.lt hown k hk).1))
theorem bothS_le (a b : List (Int × Int)) (ha : a.length ≤ 300) (hb : b.length ≤ 300) (k : Nat) : (bothS (a.take k) b).length ≤ 90000 := by
  have := bothS_len (a.take k) b
  have := Nat.mul_le_mul (show (a.take k).length ≤ 300 by simp; omega) hb
  omega
theorem lessS_le (a b : List (Int × Int)) (ha : a.length ≤ 300) (hb : b.length ≤ 300) (k : Nat) : (lessS (a.take k) b).length ≤ 90300 := by
  have := lessS_len (a.take k) b
  have := Nat.mul_le_mul (show (a.take k).length ≤ 300 by simp; omega) (Nat.add_le_add_right hb 1)
  omega
set_option maxRecDepth 100000 in
set_option maxHeartbeats 8000000 in
theorem specSpansBoth (a : Option Addr) (cap : Nat) (ss : List (Int × Int)) (a' : Option Addr) (cap' : Nat) (tt : List (Int × Int)) (w : World) (h : IsTurns w a ss) (h' : IsTurns w a' tt) (hl : ss.length ≤ 2000000) (hk : tt.length ≤ 2000000) (r q : Bool) (hr : r = true ↔ SpOk ss) (hq : q = true ↔ SpOk tt) :
    Calls Try.prog 29 #[.slice a ss.length cap, .slice a' tt.length cap'] w fun e w' => (∃ v, e = .returned v ∧ OP w' w.heap.size 51 v (bothA r q ss tt)) ∧ Below w.heap.size w w' := by
  obtain ⟨i0, hi, hz0, hz1, hz2⟩ := info_parts spanInfo
  have HR : Hid (r = true ↔ SpOk ss) := hr
  have HQ : Hid (q = true ↔ SpOk tt) := hq
  have b0 : Below w.heap.size w (w.alloc (.cells #[] 51)) := (Below.refl _ _).alloc (Nat.le_refl _) _
  have HO0 : Hid (OP (w.alloc (.cells #[] 51)) w.heap.size 51 (.slice (some ⟨w.heap.size, 0, none⟩) 0 0) []) := OP.made w 51 [] #[] rfl (by simp)
  have HT0 : Hid (IsTurns w a ss) := h
  have HU0 : Hid (IsTurns w a' tt) := h'
  have HT : Hid (IsTurns (w.alloc (.cells #[] 51)) a ss) := h.below (B := 0) b0
  have HU : Hid (IsTurns (w.alloc (.cells #[] 51)) a' tt) := h'.below (B := 0) b0
  clear hr hq h h'
  cases r with
  | false =>
    go_enter Try.func29, Try.ntmps29
    go_wp2_with fail
    with_reducible refine (specSpansOk _ _ _ _ HT.out hl false HR.out).mono ?_
    rintro e w1 ⟨rfl, b1⟩
    have O1 : Hid (OP w1 w.heap.size 51 (.slice (some ⟨w.heap.size, 0, none⟩) 0 0) []) := HO0.out.on b1
    have B1 := bstep b0 b1
    clear b0 b1 HO0
    go_wp2
    go_ret
    exact ⟨⟨_, rfl, O1.out⟩, B1⟩
  | true =>
    cases q with
    | false =>
      go_enter Try.func29, Try.ntmps29
      go_wp2_with fail
      with_reducible refine (specSpansOk _ _ _ _ HT.out hl true (by have q := HR.out; simpa using q)).mono ?_
      rintro e w1 ⟨rfl, b1⟩
      go_wp2_with fail
      with_reducible refine (specSpansOk _ _ _ _ (HU.out.below (B := 0) b1) hk false HQ.out).mono ?_
      rintro e w2 ⟨rfl, b2⟩
      have b12 := bstep b1 b2
      have O2 : Hid (OP w2 w.heap.size 51 (.slice (some ⟨w.heap.size, 0, none⟩) 0 0) []) := HO0.out.on b12
      have B2 := bstep b0 b12
      clear b12 b0 b1 b2 HO0
      go_wp2
      go_ret
      exact ⟨⟨_, rfl, O2.out⟩, B2⟩
    | true =>
      have la : ss.length ≤ 300 := (by have q := HR.out; simpa using q : SpOk ss).1
      have lb : tt.length ≤ 300 := (by have q := HQ.out; simpa using q : SpOk tt).1
      go_enter Try.func29, Try.ntmps29
      go_wp2_with fail
      with_reducible refine (specSpansOk _ _ _ _ HT.out hl true (by have q := HR.out; simpa using q)).mono ?_
      rintro e w1 ⟨rfl, b1⟩
      go_wp2_with fail
      with_reducible refine (specSpansOk _ _ _ _ (HU.out.below (B := 0) b1) hk true (by have q := HQ.out; simpa using q)).mono ?_
      rintro e w2 ⟨rfl, b2⟩
      have b12 := bstep b1 b2
      have O2 : Hid (OP w2 w.heap.size 51 (.slice (some ⟨w.heap.size, 0, none⟩) 0 0) (bothS (ss.take 0) tt)) := HO0.out.on b12
      have HB2 : Hid (Below w.heap.size w w2) := bstep b0 b12
      clear b12 b1 b2 b0 HT HU HO0
      go_wp2
      go_loopw [5, 6] (fun ov0 i wr => ∃ (k : Nat) (ov : Value), k ≤ ss.length ∧ i = .int .i64 k ∧ ov = ov0 ∧ OP wr w.heap.size 51 ov (bothS (ss.take k) tt) ∧ Below w.heap.size w wr) (fun _ i _ => ss.length - (intOf i).toNat)
      case atStart => exact ⟨0, _, by omega, rfl, rfl, O2.out, HB2.out⟩
      case round =>
        obtain ⟨k, ov, hk1, rfl, hev, hO, hb⟩ := hrel
        subst hev
        have HOk : Hid (OP wr w.heap.size 51 ov (bothS (ss.take k) tt)) := hO
        have hsz := hb.size
        clear hO
        by_cases hlt : k < ss.length
        · have T := HT0.out
          rcases T with T | ⟨b, off, rfl, hbs, hc⟩
          · rw [T] at hlt; simp at hlt
          obtain ⟨c0, c1⟩ := hc k hlt
          have hi0 : (0 : Int) ≤ (k : Int) := by omega
          have hi1 : (k : Int) < (ss.length : Int) := by omega
          have HF : Hid (bothS (ss.take (k + 1)) tt = bothS (ss.take k) tt ++ cutS (tAt ss k) (tSh ss k) tt) := bothS_take ss tt k hlt
          have HL : Hid ((bothS (ss.take k) tt).length + (cutS (tAt ss k) (tSh ss k) tt).length ≤ 4000000) := by unfold Hid; have := bothS_le ss tt la lb k; have := cut_le (tAt ss k) (tSh ss k) tt; omega
          clear hc
          generalize tAt ss k = X at *
          generalize tSh ss k = Y at *
          have HV : Hid (∀ w' : World, Below w.heap.size w w' → IsTurns w' a' tt) := fun w' hb' => HU0.out.below (B := 0) hb'
          go_wp2
          go_region_held_law (fun w' => w'.cell? ⟨b, off + k * 2, none⟩ = some (.int .i64 X) ∧ w'.cell? ⟨b, off + k * 2 + 1, none⟩ = some (.int .i64 Y) ∧ b < w.heap.size ∧ Below w.heap.size w w')
            (first | assumption | exact SB.of c0 c1 hb.drew | exact SB.of c0 c1 (by assumption) | fail)
            (first
              | (go_simp; go_at_call 55; refine (specWithin a' cap' tt X Y _ (HV.out _ hb.drew) hk).mono ?_; rintro e w3 ⟨⟨v3, rfl, O3⟩, b3⟩; have b03 := bstep ((Below.refl wr.heap.size wr).drew) b3; have B3 := bstep hb b03; have OK3 : Hid (OP w3 w.heap.size 51 ov (bothS (ss.take k) tt)) := HOk.out.on b03; have HB3 : w.heap.size ≤ w3.heap.size := B3.size; have S3 : SB w b (off + k * 2) X Y w3 := SB.of c0 c1 B3)
              | (refine step_append_rows (by rfl) _ _ _ (by rfl) w.heap.size _ 51 i0 (.agg #[.int .i64 0, .int .i64 0]) Try.underlying24 hi hz0 hz1 hz2 rfl ov _ (bothS (ss.take k) tt) (cutS X Y tt) (by rfl) OK3.out (by rfl) O3 HL.out HB3 ?_; intro v4 w4 O4 hgrow b4; rw [← HF.out] at O4; have HO4 : Hid (OP w4 w.heap.size 51 v4 (bothS (ss.take (k + 1)) tt)) := O4; have B4 := B3.trans b4; have S4 : SB w b (off + k * 2) X Y w4 := SB.of c0 c1 B4; clear O4 hgrow b4 O3))
          all_goals
            clear S3 S4 OK3
            go_wp2
            go_roundw
            case rel => exact ⟨k + 1, _, by omega, by go_num, rfl, HO4.out, B4⟩
            case measure => simp [intOf]; omega
        · obtain rfl : k = ss.length := by omega
          have HQ2 : Hid (OP wr w.heap.size 51 ov (bothA true true ss tt)) := by have q := HOk.out; rw [List.take_length] at q; exact q
          go_wp2
          go_ret
          exact ⟨⟨_, rfl, HQ2.out⟩, hb⟩
set_option maxRecDepth 100000 in
set_option maxHeartbeats 8000000 in
theorem specL9Less (x y : Int) (a' : Option Addr) (cap' : Nat) (tt : List (Int × Int)) (w : World) (h : IsTurns w a' tt) (hl : tt.length ≤ 1000000) :
    Calls Try.prog 57 #[.agg #[.int .i64 x, .int .i64 y], .slice a' tt.length cap'] w fun e w' => (∃ v, e = .returned v ∧ OP w' w.heap.size 51 v (freeS tt x y)) ∧ Below w.heap.size w w' := by
  have b0 : Below w.heap.size w (w.alloc (.cells #[.int .i64 x, .int .i64 y] 51)) := (Below.refl _ _).alloc (Nat.le_refl _) _
  have HT : Hid (IsTurns (w.alloc (.cells #[.int .i64 x, .int .i64 y] 51)) a' tt) := h.below (B := 0) b0
  clear h
  go_enter Try.func57, Try.ntmps57
  go_wp2_with fail
  with_reducible refine (specL5Free _ _ _ _ _ _ HT.out hl).mono ?_
  rintro e w2 ⟨⟨v, rfl, O2⟩, b2⟩
  have HO2 : Hid (OP w2 w.heap.size 51 v (freeS tt x y)) := O2.base b0.size
  have B2 := bstep b0 b2
  clear O2 b2 b0
  go_wp2
  go_ret
  exact ⟨⟨_, rfl, HO2.out⟩, B2⟩
set_option maxRecDepth 100000 in
set_option maxHeartbeats 8000000 in
theorem specSpansLess (a : Option Addr) (cap : Nat) (ss : List (Int × Int)) (a' : Option Addr) (cap' : Nat) (tt : List (Int × Int)) (w : World) (h : IsTurns w a ss) (h' : IsTurns w a' tt) (hl : ss.length ≤ 2000000) (hk : tt.length ≤ 2000000) (r q : Bool) (hr : r = true ↔ SpOk ss) (hq : q = true ↔ SpOk tt) :
    Calls Try.prog 31 #[.slice a ss.length cap, .slice a' tt.length cap'] w fun e w' => (∃ v, e = .returned v ∧ OP w' w.heap.size 51 v (lessA r q ss tt)) ∧ Below w.heap.size w w' := by
  obtain ⟨i0, hi, hz0, hz1, hz2⟩ := info_parts spanInfo
  have HR : Hid (r = true ↔ SpOk ss) := hr
  have HQ : Hid (q = true ↔ SpOk tt) := hq
  have b0 : Below w.heap.size w (w.alloc (.cells #[] 51)) := (Below.refl _ _).alloc (Nat.le_refl _) _
  have HO0 : Hid (OP (w.alloc (.cells #[] 51)) w.heap.size 51 (.slice (some ⟨w.heap.size, 0, none⟩) 0 0) []) := OP.made w 51 [] #[] rfl (by simp)
  have HT0 : Hid (IsTurns w a ss) := h
  have HU0 : Hid (IsTurns w a' tt) := h'
  have HT : Hid (IsTurns (w.alloc (.cells #[] 51)) a ss) := h.below (B := 0) b0
  have HU : Hid (IsTurns (w.alloc (.cells #[] 51)) a' tt) := h'.below (B := 0) b0
  clear hr hq h h'
  cases r with
  | false =>
    go_enter Try.func31, Try.ntmps31
    go_wp2_with fail
    with_reducible refine (specSpansOk _ _ _ _ HT.out hl false HR.out).mono ?_
    rintro e w1 ⟨rfl, b1⟩
    have O1 : Hid (OP w1 w.heap.size 51 (.slice (some ⟨w.heap.size, 0, none⟩) 0 0) []) := HO0.out.on b1
    have B1 := bstep b0 b1
    clear b0 b1 HO0
    go_wp2
    go_ret
    exact ⟨⟨_, rfl, O1.out⟩, B1⟩
  | true =>
    cases q with
    | false =>
      go_enter Try.func31, Try.ntmps31
      go_wp2_with fail
      with_reducible refine (specSpansOk _ _ _ _ HT.out hl true (by have q := HR.out; simpa using q)).mono ?_
      rintro e w1 ⟨rfl, b1⟩
      go_wp2_with fail
      with_reducible refine (specSpansOk _ _ _ _ (HU.out.below (B := 0) b1) hk false HQ.out).mono ?_
      rintro e w2 ⟨rfl, b2⟩
      have b12 := bstep b1 b2
      have O2 : Hid (OP w2 w.heap.size 51 (.slice (some ⟨w.heap.size, 0, none⟩) 0 0) []) := HO0.out.on b12
      have B2 := bstep b0 b12
      clear b12 b0 b1 b2 HO0
      go_wp2
      go_ret
      exact ⟨⟨_, rfl, O2.out⟩, B2⟩
    | true =>
      have la : ss.length ≤ 300 := (by have q := HR.out; simpa using q : SpOk ss).1
      have lb : tt.length ≤ 300 := (by have q := HQ.out; simpa using q : SpOk tt).1
      go_enter Try.func31, Try.ntmps31
      go_wp2_with fail
      with_reducible refine (specSpansOk _ _ _ _ HT.out hl true (by have q := HR.out; simpa using q)).mono ?_
      rintro e w1 ⟨rfl, b1⟩
      go_wp2_with fail
      with_reducible refine (specSpansOk _ _ _ _ (HU.out.below (B := 0) b1) hk true (by have q := HQ.out; simpa using q)).mono ?_
      rintro e w2 ⟨rfl, b2⟩
      have b12 := bstep b1 b2
      have O2 : Hid (OP w2 w.heap.size 51 (.slice (some ⟨w.heap.size, 0, none⟩) 0 0) (lessS (ss.take 0) tt)) := HO0.out.on b12
      have HB2 : Hid (Below w.heap.size w w2) := bstep b0 b12
      clear b12 b1 b2 b0 HT HU HO0
      go_wp2
      go_loopw [5, 6] (fun ov0 i wr => ∃ (k : Nat) (ov : Value), k ≤ ss.length ∧ i = .int .i64 k ∧ ov = ov0 ∧ OP wr w.heap.size 51 ov (lessS (ss.take k) tt) ∧ Below w.heap.size w wr) (fun _ i _ => ss.length - (intOf i).toNat)
      case atStart => exact ⟨0, _, by omega, rfl, rfl, O2.out, HB2.out⟩
      case round =>
        obtain ⟨k, ov, hk1, rfl, hev, hO, hb⟩ := hrel
        subst hev
        have HOk : Hid (OP wr w.heap.size 51 ov (lessS (ss.take k) tt)) := hO
        have hsz := hb.size
        clear hO
        by_cases hlt : k < ss.length
        · have T := HT0.out.below (B := 0) hb
          have U := HU0.out.below (B := 0) hb
          rcases T with T | ⟨b, off, rfl, hbs, hc⟩
          · rw [T] at hlt; simp at hlt
          obtain ⟨c0, c1⟩ := hc k hlt
          have hi0 : (0 : Int) ≤ (k : Int) := by omega
          have hi1 : (k : Int) < (ss.length : Int) := by omega
          have HF : Hid (lessS (ss.take (k + 1)) tt = lessS (ss.take k) tt ++ freeS tt (tAt ss k) (tSh ss k)) := lessS_take ss tt k hlt
          have HL : Hid ((lessS (ss.take k) tt).length + (freeS tt (tAt ss k) (tSh ss k)).length ≤ 4000000) := by unfold Hid; have := lessS_le ss tt la lb k; have := free_len tt (tAt ss k) (tSh ss k); omega
          clear hc
          go_wp2_with fail
          with_reducible refine (specL9Less _ _ _ _ _ _ U (by omega)).mono ?_
          rintro e w3 ⟨⟨v3, rfl, O3⟩, b3⟩
          have B3 := bstep hb b3
          have OK3 : Hid (OP w3 w.heap.size 51 ov (lessS (ss.take k) tt)) := HOk.out.on b3
          have HB3 : w.heap.size ≤ w3.heap.size := B3.size
          clear b3
          go_wp2_with (first
            | (at_builtin; refine wpList_append_rows rfl _ _ _ rfl w.heap.size _ 51 i0 (.agg #[.int .i64 0, .int .i64 0]) Try.underlying24 hi hz0 hz1 hz2 rfl ov _ (lessS (ss.take k) tt) (freeS tt (tAt ss k) (tSh ss k)) rfl OK3.out rfl O3 HL.out HB3 ?_; intro v4 w4 O4 hgrow b4; rw [← HF.out] at O4; have HO4 : Hid (OP w4 w.heap.size 51 v4 (lessS (ss.take (k + 1)) tt)) := O4; have B4 := B3.trans b4; clear O4 hgrow b4 O3))
          go_roundw
          case rel => exact ⟨k + 1, _, by omega, by go_num, rfl, HO4.out, B4⟩
          case measure => simp [intOf]; omega
        · obtain rfl : k = ss.length := by omega
          have HQ2 : Hid (OP wr w.heap.size 51 ov (lessA true true ss tt)) := by have q := HOk.out; rw [List.take_length] at q; exact q
          go_wp2
          go_ret
          exact ⟨⟨_, rfl, HQ2.out⟩, hb⟩
end Go.Proofs.Ytkbgbccehijckaa
