/- Slots one behind the other: both sides. -/
import Derived.Test.YtkbgbccehijckaaYc
namespace Go.Proofs.Ytkbgbccehijckaa
open Go.RowKit
set_option linter.unusedVariables false
/-- Slots, where so many may be asked. -/
def slotsA (r : Bool) (ss : List (Int × Int)) (x y n m : Int) : List (Int × Int) := if inB m 0 40 = true then slotsL r ss y n m.toNat x else []
theorem slotsA_len (r : Bool) (ss : List (Int × Int)) (x y n m : Int) : (slotsA r ss x y n m).length ≤ 40 := by
  unfold slotsA
  by_cases h : inB m 0 40 = true
  · rw [if_pos h]
    have := (in_iff _ _ _).1 h
    have := slots_len r ss y n m.toNat x
    omega
  · rw [if_neg h]; simp
/-- What stands while slots are told. -/
structure SlI (r : Bool) (ss : List (Int × Int)) (x y n : Int) (m : Nat) (l : List (Int × Int)) (x' : Int) : Prop where
  le : l.length ≤ m
  eq : l ++ slotsL r ss y n (m - l.length) x' = slotsL r ss y n m x
theorem SlI.step {r : Bool} {ss : List (Int × Int)} {x y n : Int} {m : Nat} {l : List (Int × Int)} {x' : Int} (h : SlI r ss x y n m l x') (hl : l.length < m) (hs : ¬ slA r ss x' y n < 0) : SlI r ss x y n m (l ++ [(slA r ss x' y n, slA r ss x' y n + n)]) (slA r ss x' y n + n) := by
  refine ⟨by rw [List.length_append]; simp; omega, ?_⟩
  rw [← h.eq, List.append_assoc]
  congr 1
  have e : m - l.length = (m - (l ++ [(slA r ss x' y n, slA r ss x' y n + n)]).length) + 1 := by rw [List.length_append]; simp; omega
  rw [e, slots_go _ hs]
  rfl
theorem SlI.stop {r : Bool} {ss : List (Int × Int)} {x y n : Int} {m : Nat} {l : List (Int × Int)} {x' : Int} (h : SlI r ss x y n m l x') (hs : slA r ss x' y n < 0) : l = slotsL r ss y n m x := by
  rw [← h.eq, slots_stop _ hs, List.append_nil]
theorem SlI.full {r : Bool} {ss : List (Int × Int)} {x y n : Int} {m : Nat} {l : List (Int × Int)} {x' : Int} (h : SlI r ss x y n m l x') (hl : ¬ l.length < m) : l = slotsL r ss y n m x := by
  rw [← h.eq, show m - l.length = 0 by omega]
  exact (List.append_nil l).symm
def sliceLen : Value → Nat
  | .slice _ n _ => n
  | _ => 0
set_option maxRecDepth 100000 in
set_option maxHeartbeats 8000000 in
theorem implSlotList (a : Option Addr) (cap : Nat) (ss : List (Int × Int)) (x y n m : Int) (w : World) (h : IsTurns w a ss) (hl : ss.length ≤ 2000000) (r : Bool) (hr : r = true ↔ SpOk ss) :
    Calls Try.prog 35 #[.slice a ss.length cap, .int .i64 x, .int .i64 y, .int .i64 n, .int .i64 m] w fun e w' => (∃ v, e = .returned v ∧ OP w' w.heap.size 51 v (slotsA r ss x y n m)) ∧ Below w.heap.size w w' := by
  obtain ⟨i0, hi, hz0, hz1, hz2⟩ := info_parts spanInfo
  have HR : Hid (r = true ↔ SpOk ss) := hr
  have HT : Hid (IsTurns w a ss) := h
  clear hr h
  by_cases m0 : m < 0
  · have HV : Hid (slotsA r ss x y n m = []) := by unfold Hid slotsA; rw [if_neg (by rw [in_iff]; omega)]
    rw [HV.out]
    go_enter Try.func35, Try.ntmps35
    go_wp2
    go_ret
    exact ⟨⟨_, rfl, OP.nil _ _ _⟩, Below.refl _ _⟩
  by_cases m1 : 40 < m
  · have HV : Hid (slotsA r ss x y n m = []) := by unfold Hid slotsA; rw [if_neg (by rw [in_iff]; omega)]
    rw [HV.out]
    go_enter Try.func35, Try.ntmps35
    go_wp2
    go_ret
    exact ⟨⟨_, rfl, OP.nil _ _ _⟩, Below.refl _ _⟩
  obtain ⟨M, rfl⟩ := Int.eq_ofNat_of_zero_le (show 0 ≤ m by omega)
  have HV : Hid (slotsA r ss x y n M = slotsL r ss y n M x) := by unfold Hid slotsA; rw [if_pos (by rw [in_iff]; omega)]; simp
  rw [HV.out]
  have HI0 : Hid (SlI r ss x y n M [] x) := ⟨by simp, by simp⟩
  go_enter Try.func35, Try.ntmps35
  go_wp2
  go_loopw [1, 11, 12] (fun fv ov _ wr => ∃ (l : List (Int × Int)) (x' : Int) (oa : Option Addr) (oc : Nat), fv = .int .i64 x' ∧ ov = .slice oa l.length oc ∧ OP wr w.heap.size 51 (.slice oa l.length oc) l ∧ SlI r ss x y n M l x' ∧ Below w.heap.size w wr) (fun _ ov _ _ => M - sliceLen ov)
  case atStart => exact ⟨[], x, none, 0, rfl, rfl, OP.nil _ _ _, HI0.out, Below.refl _ _⟩
  case round =>
    obtain ⟨l, x', oa, oc, rfl, rfl, hO, hI, hb⟩ := hrel
    have HO : Hid (OP wr w.heap.size 51 (.slice oa l.length oc) l) := hO
    have HI : Hid (SlI r ss x y n M l x') := hI
    have hlm := hI.le
    have hsz := hb.size
    clear hO hI
    by_cases hlt : (l.length : Int) < (M : Int)
    · go_wp2_with fail
      with_reducible refine (implSlotFirst _ _ _ _ _ _ _ (HT.out.below (B := 0) hb) hl r HR.out).mono ?_
      rintro e w2 ⟨rfl, b2⟩
      have B2 := bstep hb b2
      have O2 : Hid (OP w2 w.heap.size 51 (.slice oa l.length oc) l) := HO.out.on b2
      by_cases hs : slA r ss x' y n < 0
      · have HF : Hid (l = slotsL r ss y n M x) := HI.out.stop hs
        generalize slA r ss x' y n = S at *
        go_wp2
        go_ret
        exact ⟨⟨_, rfl, HF.out ▸ O2.out⟩, B2⟩
      · have sb := slA_bd hs
        have HS : Hid (SlI r ss x y n M (l ++ [(slA r ss x' y n, slA r ss x' y n + n)]) (slA r ss x' y n + n)) := HI.out.step (by omega) hs
        generalize slA r ss x' y n = S at *
        have g1 := IntWalk.i64_in (S + n) (by omega)
        have HM : Hid (∀ cs : Array Value, cs = #[.int .i64 S, .int .i64 (S + n)] → OP (w2.alloc (.cells cs 51)) w2.heap.size 51 (.slice (some ⟨w2.heap.size, 0, none⟩) 1 1) [(S, S + n)]) := fun cs hcs => by
          subst hcs
          exact OP.made w2 51 [(S, S + n)] #[.int .i64 S, .int .i64 (S + n)] (by simp [pcs]) (by simp [maxLen])
        have HA : Hid (∀ o, OP (w2.alloc o) w.heap.size 51 (.slice oa l.length oc) l) := fun o => O2.out.on ((Below.refl _ _).alloc (Nat.le_refl _) o)
        have HBA : Hid (∀ o, Below w.heap.size w (w2.alloc o)) := fun o => B2.alloc B2.size o
        have HLL : Hid (l.length + [(S, S + n)].length ≤ 4000000) := by unfold Hid; simp; omega
        clear sb hb b2 B2
        go_wp2_with (first
          | (at_builtin; refine wpList_append_rows rfl _ _ _ rfl w.heap.size _ 51 i0 (.agg #[.int .i64 0, .int .i64 0]) Try.underlying24 hi hz0 hz1 hz2 rfl (.slice oa l.length oc) (.slice (some ⟨w2.heap.size, 0, none⟩) 1 1) l [(S, S + n)] rfl (HA.out _) rfl (HM.out _ rfl) HLL.out (HBA.out _).size ?_; intro v4 w4 O4 hgrow b4; have B4 := (HBA.out _).trans b4; obtain ⟨a4, c4, e4⟩ := O4.shape0; subst e4; have HO4 : Hid (OP w4 w.heap.size 51 (.slice a4 (l ++ [(S, S + n)]).length c4) (l ++ [(S, S + n)])) := O4; clear hgrow b4 O4))
        go_roundw
        case rel => exact ⟨l ++ [(S, S + n)], S + n, a4, c4, rfl, by rw [List.length_append]; rfl, HO4.out, HS.out, B4⟩
        case measure => simp [sliceLen]; omega
    · have HF : Hid (l = slotsL r ss y n M x) := HI.out.full (by omega)
      go_wp2
      go_ret
      exact ⟨⟨_, rfl, HF.out ▸ HO.out⟩, hb⟩
set_option maxRecDepth 100000 in
set_option maxHeartbeats 8000000 in
theorem specSlotList (a : Option Addr) (cap : Nat) (ss : List (Int × Int)) (x y n m : Int) (w : World) (h : IsTurns w a ss) (hl : ss.length ≤ 2000000) (r : Bool) (hr : r = true ↔ SpOk ss) :
    Calls Try.prog 34 #[.slice a ss.length cap, .int .i64 x, .int .i64 y, .int .i64 n, .int .i64 m] w fun e w' => (∃ v, e = .returned v ∧ OP w' w.heap.size 51 v (slotsA r ss x y n m)) ∧ Below w.heap.size w w' := by
  obtain ⟨i0, hi, hz0, hz1, hz2⟩ := info_parts spanInfo
  have HR : Hid (r = true ↔ SpOk ss) := hr
  have b0 : Below w.heap.size w (w.alloc (.cells #[] 51)) := (Below.refl _ _).alloc (Nat.le_refl _) _
  have HO0 : Hid (OP (w.alloc (.cells #[] 51)) w.heap.size 51 (.slice (some ⟨w.heap.size, 0, none⟩) 0 0) []) := OP.made w 51 [] #[] rfl (by simp)
  have HT : Hid (IsTurns w a ss) := h
  clear hr h
  cases hm : inB m 0 40 with
  | false =>
    have HV : Hid (slotsA r ss x y n m = []) := by unfold Hid slotsA; rw [if_neg (by rw [hm]; exact Bool.false_ne_true)]
    rw [HV.out]
    go_enter Try.func34, Try.ntmps34
    go_wp2_with (first | (go_at_call 46; refine (specInR _ _ _ _ false hm).mono ?_; rintro e w' ⟨rfl, rfl⟩))
    go_ret
    exact ⟨⟨_, rfl, HO0.out⟩, b0⟩
  | true =>
    have hm2 := (in_iff _ _ _).1 hm
    obtain ⟨M, rfl⟩ := Int.eq_ofNat_of_zero_le (show 0 ≤ m by omega)
    have HV : Hid (slotsA r ss x y n M = slotsL r ss y n M x) := by unfold Hid slotsA; rw [if_pos hm]; simp
    rw [HV.out]
    have HI0 : Hid (SlI r ss x y n M [] x) := ⟨by simp, by simp⟩
    go_enter Try.func34, Try.ntmps34
    go_wp2_with (first | (go_at_call 46; refine (specInR _ _ _ _ true hm).mono ?_; rintro e w' ⟨rfl, rfl⟩))
    clear hm
    go_loopw [1, 11, 12] (fun fv ov _ wr => ∃ (l : List (Int × Int)) (x' : Int) (oa : Option Addr) (oc : Nat), fv = .int .i64 x' ∧ ov = .slice oa l.length oc ∧ OP wr w.heap.size 51 (.slice oa l.length oc) l ∧ SlI r ss x y n M l x' ∧ Below w.heap.size w wr) (fun _ ov _ _ => M - sliceLen ov)
    case atStart => exact ⟨[], x, some ⟨w.heap.size, 0, none⟩, 0, rfl, rfl, HO0.out, HI0.out, b0⟩
    case round =>
      obtain ⟨l, x', oa, oc, rfl, rfl, hO, hI, hb⟩ := hrel
      have HO : Hid (OP wr w.heap.size 51 (.slice oa l.length oc) l) := hO
      have HI : Hid (SlI r ss x y n M l x') := hI
      have hlm := hI.le
      have hsz := hb.size
      clear hO hI HO0 b0
      by_cases hlt : (l.length : Int) < (M : Int)
      · go_wp2_with fail
        with_reducible refine (specSlotFirst _ _ _ _ _ _ _ (HT.out.below (B := 0) hb) hl r HR.out).mono ?_
        rintro e w2 ⟨rfl, b2⟩
        have B2 := bstep hb b2
        have O2 : Hid (OP w2 w.heap.size 51 (.slice oa l.length oc) l) := HO.out.on b2
        by_cases hs : slA r ss x' y n < 0
        · have HF : Hid (l = slotsL r ss y n M x) := HI.out.stop hs
          generalize slA r ss x' y n = S at *
          go_wp2
          go_ret
          exact ⟨⟨_, rfl, HF.out ▸ O2.out⟩, B2⟩
        · have sb := slA_bd hs
          have HS : Hid (SlI r ss x y n M (l ++ [(slA r ss x' y n, slA r ss x' y n + n)]) (slA r ss x' y n + n)) := HI.out.step (by omega) hs
          generalize slA r ss x' y n = S at *
          have g1 := IntWalk.i64_in (S + n) (by omega)
          have HM : Hid (∀ cs : Array Value, cs = #[.int .i64 S, .int .i64 (S + n)] → OP (w2.alloc (.cells cs 51)) w2.heap.size 51 (.slice (some ⟨w2.heap.size, 0, none⟩) 1 1) [(S, S + n)]) := fun cs hcs => by
            subst hcs
            exact OP.made w2 51 [(S, S + n)] #[.int .i64 S, .int .i64 (S + n)] (by simp [pcs]) (by simp [maxLen])
          have HA : Hid (∀ o, OP (w2.alloc o) w.heap.size 51 (.slice oa l.length oc) l) := fun o => O2.out.on ((Below.refl _ _).alloc (Nat.le_refl _) o)
          have HBA : Hid (∀ o, Below w.heap.size w (w2.alloc o)) := fun o => B2.alloc B2.size o
          have HLL : Hid (l.length + [(S, S + n)].length ≤ 4000000) := by unfold Hid; simp; omega
          clear sb hb b2 B2
          go_wp2_with (first
            | (at_builtin; refine wpList_append_rows rfl _ _ _ rfl w.heap.size _ 51 i0 (.agg #[.int .i64 0, .int .i64 0]) Try.underlying24 hi hz0 hz1 hz2 rfl (.slice oa l.length oc) (.slice (some ⟨w2.heap.size, 0, none⟩) 1 1) l [(S, S + n)] rfl (HA.out _) rfl (HM.out _ rfl) HLL.out (HBA.out _).size ?_; intro v4 w4 O4 hgrow b4; have B4 := (HBA.out _).trans b4; obtain ⟨a4, c4, e4⟩ := O4.shape0; subst e4; have HO4 : Hid (OP w4 w.heap.size 51 (.slice a4 (l ++ [(S, S + n)]).length c4) (l ++ [(S, S + n)])) := O4; clear hgrow b4 O4))
          go_roundw
          case rel => exact ⟨l ++ [(S, S + n)], S + n, a4, c4, rfl, by rw [List.length_append]; rfl, HO4.out, HS.out, B4⟩
          case measure => simp [sliceLen]; omega
      · have HF : Hid (l = slotsL r ss y n M x) := HI.out.full (by omega)
        go_wp2
        go_ret
        exact ⟨⟨_, rfl, HF.out ▸ HO.out⟩, hb⟩
end Go.Proofs.Ytkbgbccehijckaa
