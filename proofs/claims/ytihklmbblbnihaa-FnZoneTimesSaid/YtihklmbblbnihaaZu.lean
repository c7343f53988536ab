/- The times at which a clock shows a time: the program. -/
import Derived.Test.YtihklmbblbnihaaZm
import Derived.Test.YtihklmbblbnihaaOi
import Derived.Deep.RegionHeld3
import Derived.Maps.AppendAt
namespace Go.Proofs.Ytihklmbblbnihaa
open Go.RowKit
set_option linter.unusedVariables false
/-- What stands in the loop over the legs. -/
abbrev TU (W0 : World) (b : Nat) (x y : Value) (a : Option Addr) (ts : List (Int × Int)) (v : Value) (l : List Int) (w' : World) : Prop :=
  w'.cell? ⟨b, 0, none⟩ = some x ∧ w'.cell? ⟨b, 1, none⟩ = some y ∧ IsTurns w' a ts ∧ OI w' (b + 1) v l ∧ Below (b + 1) W0 w'
theorem TU.on {W0 W w' : World} {b : Nat} {x y : Value} {a : Option Addr} {ts : List (Int × Int)} {v : Value} {l : List Int} (h : TU W0 b x y a ts v l W) (hb : Below W.heap.size W w') : TU W0 b x y a ts v l w' := by
  obtain ⟨c0, c1, T, O, B⟩ := h
  have lt := cell_lt c0
  refine ⟨?_, ?_, T.below (B := 0) hb, O.below hb, B.trans (hb.mono (by omega))⟩
  · rw [hb.cell (p := ⟨b, 0, none⟩) lt]; exact c0
  · rw [hb.cell (p := ⟨b, 1, none⟩) lt]; exact c1
theorem TU.t {W0 W : World} {b : Nat} {x y : Value} {a : Option Addr} {ts : List (Int × Int)} {v : Value} {l : List Int} (h : TU W0 b x y a ts v l W) : IsTurns W a ts := h.2.2.1
theorem TU.app {W0 W w4 : World} {b : Nat} {x y : Value} {a : Option Addr} {ts : List (Int × Int)} {v v' : Value} {l : List Int} {z : Int} {o : Obj} (h0 : TU W0 b x y a ts (.slice none 0 0) [] W0) (hs : W0.heap.size = b + 1) (h : TU W0 b x y a ts v l W)
    (hown : w4.ownsRow (b + 1) 3 1 v' (l.length + 1) (l.map (Value.int .i64) ++ [Value.int .i64 z])) (hgrow : (W.alloc o).grownBy w4 v.ownBlock) : TU W0 b x y a ts v' (l ++ [z]) w4 := by
  have B : Below (b + 1) W0 w4 := (h.2.2.2.2.alloc (by have := h.2.2.2.2.size; omega) o).grown hgrow (by have := h.2.2.2.2.size; simp; omega) (fun k hk => (World.ownsRow.lt h.2.2.2.1 k hk).1)
  refine ⟨?_, ?_, h0.2.2.1.below (B := 0) (hs ▸ B), by unfold OI; simpa using hown, B⟩
  · rw [B.cell (p := ⟨b, 0, none⟩) (by simp)]; exact h0.1
  · rw [B.cell (p := ⟨b, 1, none⟩) (by simp)]; exact h0.2.1
set_option maxRecDepth 100000 in
set_option maxHeartbeats 8000000 in
theorem implTimes (sh : Int) (a : Option Addr) (cap : Nat) (ts : List (Int × Int)) (loc : Int) (w : World) (h : IsTurns w a ts) (ok : TrOk ts) (hs : -1440 ≤ sh ∧ sh ≤ 1440) (h0 : 0 ≤ loc) (h1 : loc ≤ 5258964959) :
    Calls Try.prog 54 #[.agg #[.int .i64 sh, .slice a ts.length cap], .int .i64 loc] w fun e w' => ∃ v, e = .returned v ∧ OI w' w.heap.size v (ztl sh ts loc (ts.length + 1)) ∧ Below w.heap.size w w' := by
  obtain ⟨i0, hi, hz0, hz1, hz2⟩ := info_parts intInfo
  have h8 : ts.length ≤ 8 := ok.1
  have OK : Hid (TrOk ts) := ok
  have hb0 := (Below.refl w.heap.size w).alloc (Nat.le_refl _) (.cells #[.int .i64 sh, .slice a ts.length cap] 67)
  have K0 : TU (w.alloc (.cells #[.int .i64 sh, .slice a ts.length cap] 67)) w.heap.size (.int .i64 sh) (.slice a ts.length cap) a ts (.slice none 0 0) [] (w.alloc (.cells #[.int .i64 sh, .slice a ts.length cap] 67)) := ⟨by simp, by simp, h.below (B := 0) hb0, World.ownsRow_nil _ _ _ _, Below.refl _ _⟩
  have HB0 : Hid (Below w.heap.size w (w.alloc (.cells #[.int .i64 sh, .slice a ts.length cap] 67))) := hb0
  have HK0 : Hid (TU (w.alloc (.cells #[.int .i64 sh, .slice a ts.length cap] 67)) w.heap.size (.int .i64 sh) (.slice a ts.length cap) a ts (.slice none 0 0) [] (w.alloc (.cells #[.int .i64 sh, .slice a ts.length cap] 67))) := K0
  clear h ok hb0
  go_enter Try.func54, Try.ntmps54
  go_wp2
  go_loopw [5, 6, 7, 12] (fun v _ _ i wr => ∃ k : Nat, k ≤ ts.length + 1 ∧ i = .int .i64 k ∧ TU (w.alloc (.cells #[.int .i64 sh, .slice a ts.length cap] 67)) w.heap.size (.int .i64 sh) (.slice a ts.length cap) a ts v (ztl sh ts loc k) wr) (fun _ _ _ i _ => ts.length + 1 - (intOf i).toNat)
  case atStart => exact ⟨0, by omega, rfl, K0⟩
  case round =>
    clear K0
    obtain ⟨k, hk, rfl, K⟩ := hrel
    by_cases hlt : k < ts.length + 1
    · have lb := lsh_in hs OK.out k (by omega)
      have hl : ts.length ≤ 2000000 := by omega
      cases ht : tiB (loc - lsh sh ts k) with
      | false =>
        have hz : zin sh ts loc k = false := by
          cases hz : zin sh ts loc k with
          | false => rfl
          | true => have := ((zin_leg OK.out (by omega)).1 hz).1; rw [ht] at this; cases this
        have HZ : Hid (ztl sh ts loc (k + 1) = ztl sh ts loc k) := ztl_no hz
        clear hz
        go_wp2_with (first
          | (go_at_call 63; refine (implLegShift sh a cap ts k _ K.t hl (by omega)).mono ?_; rintro e w2 ⟨rfl, hb2⟩; have K2 := TU.on K hb2; clear K hb2)
          | (go_at_call 33; refine (implTime _ _ false ht).mono ?_; rintro e w' ⟨rfl, rfl⟩))
        go_roundw
        case rel => exact ⟨k + 1, by omega, by go_num, by rw [HZ.out]; exact K2⟩
        case measure => simp [intOf]; omega
      | true =>
        cases hz : zin sh ts loc k with
        | false =>
          obtain ⟨k', hk'⟩ := Leg.ex ts (loc - lsh sh ts k)
          have hne : ((k' : Int) == (k : Int)) = false := by
            rw [beq_eq_false_iff_ne]
            intro e
            have e : k' = k := by omega
            subst e
            rw [(zin_leg OK.out (by omega)).2 ⟨ht, hk'⟩] at hz; cases hz
          have kl : k' ≤ ts.length := hk'.1
          have HK : Hid (Leg ts (loc - lsh sh ts k) k') := hk'
          have HZ : Hid (ztl sh ts loc (k + 1) = ztl sh ts loc k) := ztl_no hz
          clear hz hk'
          go_wp2_with (first
            | (go_at_call 63; refine (implLegShift sh a cap ts k _ K.t hl (by omega)).mono ?_; rintro e w2 ⟨rfl, hb2⟩; have K2 := TU.on K hb2; clear K hb2)
            | (go_at_call 33; refine (implTime _ _ true ht).mono ?_; rintro e w' ⟨rfl, rfl⟩)
            | (go_at_call 64; refine (implLeg sh a cap ts _ k' _ K2.t hl HK.out).mono ?_; rintro e w3 ⟨rfl, hb3⟩; have K3 := TU.on K2 hb3; clear K2 hb3))
          go_roundw
          case rel => exact ⟨k + 1, by omega, by go_num, by rw [HZ.out]; exact K3⟩
          case measure => simp [intOf]; omega
        | true =>
          have HK : Hid (Leg ts (loc - lsh sh ts k) k) := ((zin_leg OK.out (by omega)).1 hz).2
          have HZ : Hid (ztl sh ts loc (k + 1) = ztl sh ts loc k ++ [loc - lsh sh ts k]) := ztl_yes hz
          have zl := ztl_len sh ts loc k
          clear hz
          go_wp2_with (first
            | (go_at_call 63; refine (implLegShift sh a cap ts k _ K.t hl (by omega)).mono ?_; rintro e w2 ⟨rfl, hb2⟩; have K2 := TU.on K hb2; clear K hb2)
            | (go_at_call 33; refine (implTime _ _ true ht).mono ?_; rintro e w' ⟨rfl, rfl⟩)
            | (go_at_call 64; refine (implLeg sh a cap ts _ k _ K2.t hl HK.out).mono ?_; rintro e w3 ⟨rfl, hb3⟩; have K3 := TU.on K2 hb3; clear K2 hb3)
            | (at_builtin; refine wpList_append_own _ rfl _ _ 33 rfl (w.heap.size + 1) 3 i0 (.int .i64 0) 1 8 Try.underlying33 hi hz0 hz1 hz2 rfl (by decide) _ _ _ rfl (World.ownsRow.alloc K3.2.2.2.1 _) ⟨_, 0, none⟩ 1 1 [.int .i64 (loc - lsh sh ts k)] rfl rfl (cell_one_new _ _ _) (by simp [Value.oneCell']) (by unfold maxLen; omega) (by omega) (by have := K3.2.2.2.2.size; simp at this; simp; omega) ?_; intro v' w4 hown hgrow _; have K4 := TU.app HK0.out (by simp) K3 hown hgrow; clear hown hgrow K3))
          go_roundw
          case rel => exact ⟨k + 1, by omega, by go_num, by rw [HZ.out]; exact K4⟩
          case measure => simp [intOf]; omega
    · have hkk : k = ts.length + 1 := by omega
      subst hkk
      go_wp2
      go_ret
      exact ⟨_, rfl, OI.base K.2.2.2.1 (by omega), HB0.out.trans (K.2.2.2.2.mono (by omega))⟩
end Go.Proofs.Ytihklmbblbnihaa
