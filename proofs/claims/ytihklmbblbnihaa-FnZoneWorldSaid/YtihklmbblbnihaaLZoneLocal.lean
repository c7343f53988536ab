/- FnZoneLocal: the law's own walk. -/
import Derived.Test.YtihklmbblbnihaaZy
import Derived.Test.YtihklmbblbnihaaZx
import Derived.Test.YtihklmbblbnihaaDzD
import Derived.Test.YtihklmbblbnihaaZKp
import Derived.Deep.RegionHeld3
namespace Go.Proofs.Ytihklmbblbnihaa
open Go.RowKit
set_option linter.unusedVariables false
theorem leg_at {ts : List (Int × Int)} (ok : TrOk ts) (i : Nat) (hi : i < ts.length) : Leg ts (tAt ts i) (i + 1) := by
  refine ⟨by omega, fun j hj => ok.mono j i (by omega) hi, fun h => ?_⟩
  have := ok.apart i (i + 1) (by omega) h; omega
theorem leg_ahead {ts : List (Int × Int)} (ok : TrOk ts) (i : Nat) (hi : i < ts.length) : Leg ts (tAt ts i - 1) i := by
  refine ⟨by omega, fun j hj => ?_, fun _ => by omega⟩
  have := ok.apart j i hj hi; omega
abbrev LT (w0 : World) (b o B : Nat) (x y s sh sl : Value) (a : Option Addr) (ts : List (Int × Int)) (W : World) : Prop := W.cell? ⟨b, o, none⟩ = some x ∧ W.cell? ⟨b, o + 1, none⟩ = some y ∧ LZ w0 B s sh sl a ts W
theorem LT.on {w0 W W' : World} {b o B : Nat} {x y s sh sl : Value} {a : Option Addr} {ts : List (Int × Int)} (h : LT w0 b o B x y s sh sl a ts W) (hb : Below W.heap.size W W') : LT w0 b o B x y s sh sl a ts W' := by
  obtain ⟨c, d, K⟩ := h
  exact ⟨by rw [hb.cell (p := ⟨b, o, none⟩) (cell_lt c)]; exact c, by rw [hb.cell (p := ⟨b, o + 1, none⟩) (cell_lt c)]; exact d, K.on hb⟩
theorem LT.t {w0 W : World} {b o B : Nat} {x y s sh sl : Value} {a : Option Addr} {ts : List (Int × Int)} (h : LT w0 b o B x y s sh sl a ts W) : IsTurns W a ts := h.2.2.t
set_option maxRecDepth 100000 in
set_option maxHeartbeats 16000000 in
theorem lawZoneLocal' (hd : ∀ (w : World) (a : Option Addr) (len cap : Nat), IsCode w a len cap → Calls Try.prog 10 #[.slice a len cap] w fun e w' => DrewF w e w') (a0 : Option Addr) (len0 cap0 : Nat) (w : World) (h : IsCode w a0 len0 cap0) :
    Calls Try.prog 3 #[.slice a0 len0 cap0] w fun e w' => e = .returned (.bool true) ∧ Below w.heap.size w w' := by
  have hl0 : len0 ≤ 9223372036854775807 := Nat.le_trans h.1 h.2.1
  by_cases hbig : 1048576 < len0
  · have hb1 : (1048576 : Int) < (len0 : Int) := by omega
    go_enter Try.func3, Try.ntmps3
    go_wp2
    go_ret
    exact ⟨rfl, Below.refl _ _⟩
  · have hb1 : ¬ (1048576 : Int) < (len0 : Int) := by omega
    go_enter Try.func3, Try.ntmps3
    go_wp2_with fail
    refine (hd w a0 len0 cap0 h).mono ?_
    rintro e w1 ⟨s, sh, a, cap, ts, x, rfl, T1, l4, sz, B1, far⟩
    have FAR : Hid (∀ i, i < ts.length → tAt ts i ≠ 0) := far
    clear far
    have hl : ts.length ≤ 2000000 := by omega
    have hs : s.size ≤ maxLen := by unfold maxLen; omega
    obtain ⟨r, hr⟩ := tr_dec ts
    have HR : Hid (r = true ↔ TrOk ts) := hr
    obtain ⟨k, hk⟩ := Leg.ex ts x
    have HK : Hid (Leg ts x k) := hk
    have K := LZ.made (s := s) (sh := sh) (n := ts.length) (cap := cap) T1 B1 25
    clear hr hk T1 B1
    go_wp2_with fail
    generalize w1.alloc (.cells #[.string s, .int .i64 sh, .slice a ts.length cap] 25) = W1 at K ⊢
    refine (implZoneLocal s sh a cap ts x k _ K.t hl hs r HR.out HK.out).mono ?_
    rintro e w2 ⟨rfl, b2⟩
    replace K := K.on b2
    clear b2
    cases hz : znB s sh r with
    | false =>
      have HZ : Hid (znB s sh r = false) := hz
      clear hz
      go_wp2
      first
        | (go_region_held (fun w' => w'.cell? ⟨w1.heap.size, 0, none⟩ = some (.string s) ∧ w'.cell? ⟨w1.heap.size, 1, none⟩ = some (.int .i64 sh) ∧ w'.cell? ⟨w1.heap.size, 2, none⟩ = some (.slice a ts.length cap) ∧ IsTurns w' a ts ∧ Below w.heap.size w w')
          (first | assumption | exact LZ.on K (Below.refl _ _).drew | exact LZ.on (by assumption) hb7)
          (first
            | (go_at_call 12; refine (specZoneLocal s sh a cap ts x k _ (LZ.t (by assumption)) hl hs r HR.out HK.out).mono ?_; rintro e w7 ⟨rfl, hb7⟩)
            | (go_at_call 13; refine (implZoneShift s sh a cap ts x k _ (LZ.t (by assumption)) hl hs r HR.out HK.out).mono ?_; rintro e w7 ⟨rfl, hb7⟩)
            | (go_at_call 14; refine (specZoneShift s sh a cap ts x k _ (LZ.t (by assumption)) hl hs r HR.out HK.out).mono ?_; rintro e w7 ⟨rfl, hb7⟩)
            | (go_at_call 15; refine (implZoneOk s sh a cap ts _ (LZ.t (by assumption)) hl hs r HR.out).mono ?_; rintro e w7 ⟨rfl, hb7⟩; rw [HZ.out])
            | (go_at_call 16; refine (specZoneOk s sh a cap ts _ (LZ.t (by assumption)) hl hs r HR.out).mono ?_; rintro e w7 ⟨rfl, hb7⟩; rw [HZ.out])))
        | fail
      have K5 : LZ w w1.heap.size (.string s) (.int .i64 sh) (.slice a ts.length cap) a ts _ := ‹_›
      clear K
      go_wp2
      first
        | (go_region_held3 (fun w' => w'.cell? ⟨w1.heap.size, 0, none⟩ = some (.string s) ∧ w'.cell? ⟨w1.heap.size, 1, none⟩ = some (.int .i64 sh) ∧ w'.cell? ⟨w1.heap.size, 2, none⟩ = some (.slice a ts.length cap) ∧ IsTurns w' a ts ∧ Below w.heap.size w w')
          (first | assumption | exact LZ.on K5 (Below.refl _ _).drew | exact LZ.on (by assumption) hb7)
          (first
            | (go_at_call 12; refine (specZoneLocal s sh a cap ts x k _ (LZ.t (by assumption)) hl hs r HR.out HK.out).mono ?_; rintro e w7 ⟨rfl, hb7⟩)
            | (go_at_call 13; refine (implZoneShift s sh a cap ts x k _ (LZ.t (by assumption)) hl hs r HR.out HK.out).mono ?_; rintro e w7 ⟨rfl, hb7⟩)
            | (go_at_call 14; refine (specZoneShift s sh a cap ts x k _ (LZ.t (by assumption)) hl hs r HR.out HK.out).mono ?_; rintro e w7 ⟨rfl, hb7⟩)
            | (go_at_call 15; refine (implZoneOk s sh a cap ts _ (LZ.t (by assumption)) hl hs r HR.out).mono ?_; rintro e w7 ⟨rfl, hb7⟩; rw [HZ.out])
            | (go_at_call 16; refine (specZoneOk s sh a cap ts _ (LZ.t (by assumption)) hl hs r HR.out).mono ?_; rintro e w7 ⟨rfl, hb7⟩; rw [HZ.out])))
        | fail
      have K6 : LZ w w1.heap.size (.string s) (.int .i64 sh) (.slice a ts.length cap) a ts _ := ‹_›
      go_wp2
      go_ret
      exact ⟨ret_b (by simp), K6.b⟩
    | true =>
      have HZ : Hid (znB s sh r = true) := hz
      by_cases x0 : x < 0
      · have hd : decide (x < 0) = true := by simpa using x0
        clear hz
        go_wp2
        first
          | (go_region_held (fun w' => w'.cell? ⟨w1.heap.size, 0, none⟩ = some (.string s) ∧ w'.cell? ⟨w1.heap.size, 1, none⟩ = some (.int .i64 sh) ∧ w'.cell? ⟨w1.heap.size, 2, none⟩ = some (.slice a ts.length cap) ∧ IsTurns w' a ts ∧ Below w.heap.size w w')
            (first | assumption | exact LZ.on K (Below.refl _ _).drew | exact LZ.on (by assumption) hb7)
            (first
              | (go_at_call 12; refine (specZoneLocal s sh a cap ts x k _ (LZ.t (by assumption)) hl hs r HR.out HK.out).mono ?_; rintro e w7 ⟨rfl, hb7⟩)
              | (go_at_call 13; refine (implZoneShift s sh a cap ts x k _ (LZ.t (by assumption)) hl hs r HR.out HK.out).mono ?_; rintro e w7 ⟨rfl, hb7⟩)
              | (go_at_call 14; refine (specZoneShift s sh a cap ts x k _ (LZ.t (by assumption)) hl hs r HR.out HK.out).mono ?_; rintro e w7 ⟨rfl, hb7⟩)
              | (go_at_call 15; refine (implZoneOk s sh a cap ts _ (LZ.t (by assumption)) hl hs r HR.out).mono ?_; rintro e w7 ⟨rfl, hb7⟩; rw [HZ.out])
              | (go_at_call 16; refine (specZoneOk s sh a cap ts _ (LZ.t (by assumption)) hl hs r HR.out).mono ?_; rintro e w7 ⟨rfl, hb7⟩; rw [HZ.out])))
          | fail
        have K5 : LZ w w1.heap.size (.string s) (.int .i64 sh) (.slice a ts.length cap) a ts _ := ‹_›
        clear K
        go_wp2
        first
          | (go_region_held3 (fun w' => w'.cell? ⟨w1.heap.size, 0, none⟩ = some (.string s) ∧ w'.cell? ⟨w1.heap.size, 1, none⟩ = some (.int .i64 sh) ∧ w'.cell? ⟨w1.heap.size, 2, none⟩ = some (.slice a ts.length cap) ∧ IsTurns w' a ts ∧ Below w.heap.size w w')
            (first | assumption | exact LZ.on K5 (Below.refl _ _).drew | exact LZ.on (by assumption) hb7)
            (first
              | (go_at_call 12; refine (specZoneLocal s sh a cap ts x k _ (LZ.t (by assumption)) hl hs r HR.out HK.out).mono ?_; rintro e w7 ⟨rfl, hb7⟩)
              | (go_at_call 13; refine (implZoneShift s sh a cap ts x k _ (LZ.t (by assumption)) hl hs r HR.out HK.out).mono ?_; rintro e w7 ⟨rfl, hb7⟩)
              | (go_at_call 14; refine (specZoneShift s sh a cap ts x k _ (LZ.t (by assumption)) hl hs r HR.out HK.out).mono ?_; rintro e w7 ⟨rfl, hb7⟩)
              | (go_at_call 15; refine (implZoneOk s sh a cap ts _ (LZ.t (by assumption)) hl hs r HR.out).mono ?_; rintro e w7 ⟨rfl, hb7⟩; rw [HZ.out])
              | (go_at_call 16; refine (specZoneOk s sh a cap ts _ (LZ.t (by assumption)) hl hs r HR.out).mono ?_; rintro e w7 ⟨rfl, hb7⟩; rw [HZ.out])))
          | fail
        have K6 : LZ w w1.heap.size (.string s) (.int .i64 sh) (.slice a ts.length cap) a ts _ := ‹_›
        go_wp2
        go_ret
        exact ⟨ret_b (by simp), K6.b⟩
      · have hd : decide (x < 0) = false := by simpa using x0
        by_cases x1 : 5258964959 < x
        · have hd1 : decide (5258964959 < x) = true := by simpa using x1
          clear hz
          go_wp2
          first
            | (go_region_held (fun w' => w'.cell? ⟨w1.heap.size, 0, none⟩ = some (.string s) ∧ w'.cell? ⟨w1.heap.size, 1, none⟩ = some (.int .i64 sh) ∧ w'.cell? ⟨w1.heap.size, 2, none⟩ = some (.slice a ts.length cap) ∧ IsTurns w' a ts ∧ Below w.heap.size w w')
              (first | assumption | exact LZ.on K (Below.refl _ _).drew | exact LZ.on (by assumption) hb7)
              (first
                | (go_at_call 12; refine (specZoneLocal s sh a cap ts x k _ (LZ.t (by assumption)) hl hs r HR.out HK.out).mono ?_; rintro e w7 ⟨rfl, hb7⟩)
                | (go_at_call 13; refine (implZoneShift s sh a cap ts x k _ (LZ.t (by assumption)) hl hs r HR.out HK.out).mono ?_; rintro e w7 ⟨rfl, hb7⟩)
                | (go_at_call 14; refine (specZoneShift s sh a cap ts x k _ (LZ.t (by assumption)) hl hs r HR.out HK.out).mono ?_; rintro e w7 ⟨rfl, hb7⟩)
                | (go_at_call 15; refine (implZoneOk s sh a cap ts _ (LZ.t (by assumption)) hl hs r HR.out).mono ?_; rintro e w7 ⟨rfl, hb7⟩; rw [HZ.out])
                | (go_at_call 16; refine (specZoneOk s sh a cap ts _ (LZ.t (by assumption)) hl hs r HR.out).mono ?_; rintro e w7 ⟨rfl, hb7⟩; rw [HZ.out])))
            | fail
          have K5 : LZ w w1.heap.size (.string s) (.int .i64 sh) (.slice a ts.length cap) a ts _ := ‹_›
          clear K
          go_wp2
          first
            | (go_region_held3 (fun w' => w'.cell? ⟨w1.heap.size, 0, none⟩ = some (.string s) ∧ w'.cell? ⟨w1.heap.size, 1, none⟩ = some (.int .i64 sh) ∧ w'.cell? ⟨w1.heap.size, 2, none⟩ = some (.slice a ts.length cap) ∧ IsTurns w' a ts ∧ Below w.heap.size w w')
              (first | assumption | exact LZ.on K5 (Below.refl _ _).drew | exact LZ.on (by assumption) hb7)
              (first
                | (go_at_call 12; refine (specZoneLocal s sh a cap ts x k _ (LZ.t (by assumption)) hl hs r HR.out HK.out).mono ?_; rintro e w7 ⟨rfl, hb7⟩)
                | (go_at_call 13; refine (implZoneShift s sh a cap ts x k _ (LZ.t (by assumption)) hl hs r HR.out HK.out).mono ?_; rintro e w7 ⟨rfl, hb7⟩)
                | (go_at_call 14; refine (specZoneShift s sh a cap ts x k _ (LZ.t (by assumption)) hl hs r HR.out HK.out).mono ?_; rintro e w7 ⟨rfl, hb7⟩)
                | (go_at_call 15; refine (implZoneOk s sh a cap ts _ (LZ.t (by assumption)) hl hs r HR.out).mono ?_; rintro e w7 ⟨rfl, hb7⟩; rw [HZ.out])
                | (go_at_call 16; refine (specZoneOk s sh a cap ts _ (LZ.t (by assumption)) hl hs r HR.out).mono ?_; rintro e w7 ⟨rfl, hb7⟩; rw [HZ.out])))
            | fail
          have K6 : LZ w w1.heap.size (.string s) (.int .i64 sh) (.slice a ts.length cap) a ts _ := ‹_›
          go_wp2
          go_ret
          exact ⟨ret_b (by simp), K6.b⟩
        · have hd1 : decide (5258964959 < x) = false := by simpa using x1
          have ht : tiB x = true := (ti_iff _).2 (by omega)
          obtain ⟨ok, sb⟩ := zn_parts hz HR.out
          have OK : Hid (TrOk ts) := ok
          have lb := lsh_in sb ok k HK.out.1
          clear hz ok
          go_wp2
          first
            | (go_region_held3 (fun w' => w'.cell? ⟨w1.heap.size, 0, none⟩ = some (.string s) ∧ w'.cell? ⟨w1.heap.size, 1, none⟩ = some (.int .i64 sh) ∧ w'.cell? ⟨w1.heap.size, 2, none⟩ = some (.slice a ts.length cap) ∧ IsTurns w' a ts ∧ Below w.heap.size w w')
              (first | assumption | exact LZ.on K (Below.refl _ _).drew | exact LZ.on (by assumption) hb7)
              (first
                | (go_at_call 12; refine (specZoneLocal s sh a cap ts x k _ (LZ.t (by assumption)) hl hs r HR.out HK.out).mono ?_; rintro e w7 ⟨rfl, hb7⟩)
                | (go_at_call 13; refine (implZoneShift s sh a cap ts x k _ (LZ.t (by assumption)) hl hs r HR.out HK.out).mono ?_; rintro e w7 ⟨rfl, hb7⟩)
                | (go_at_call 14; refine (specZoneShift s sh a cap ts x k _ (LZ.t (by assumption)) hl hs r HR.out HK.out).mono ?_; rintro e w7 ⟨rfl, hb7⟩)
                | (go_at_call 15; refine (implZoneOk s sh a cap ts _ (LZ.t (by assumption)) hl hs r HR.out).mono ?_; rintro e w7 ⟨rfl, hb7⟩; rw [HZ.out])
                | (go_at_call 16; refine (specZoneOk s sh a cap ts _ (LZ.t (by assumption)) hl hs r HR.out).mono ?_; rintro e w7 ⟨rfl, hb7⟩; rw [HZ.out])))
            | fail
          have K5 : LZ w w1.heap.size (.string s) (.int .i64 sh) (.slice a ts.length cap) a ts _ := ‹_›
          clear K
          have hv : zlo s sh ts r x k = x + lsh sh ts k := if_pos ⟨HZ.out, ht⟩
          have hvs : zsh s sh ts r x k = lsh sh ts k := if_pos ⟨HZ.out, ht⟩
          have HVS : Hid (zsh s sh ts r x k = lsh sh ts k) := hvs
          clear hvs
          rw [hv]
          clear hv hd hd1
          go_wp2
          go_loopw [6, 7] (fun q i wr => ∃ j : Nat, j ≤ ts.length ∧ i = .int .i64 j ∧ q = .int .i64 (lsh sh ts j) ∧ LZ w w1.heap.size (.string s) (.int .i64 sh) (.slice a ts.length cap) a ts wr) (fun _ i _ => ts.length - (intOf i).toNat)
          case atStart => exact ⟨0, by omega, rfl, by rw [show lsh sh ts 0 = sh from if_pos rfl], K5⟩
          case round =>
            clear K5
            obtain ⟨i, hi, rfl, rfl, K⟩ := hrel
            by_cases hlt : i < ts.length
            · have LA : Hid (Leg ts (tAt ts i - 1) i) := leg_ahead OK.out i hlt
              have LB : Hid (Leg ts (tAt ts i) (i + 1)) := leg_at OK.out i hlt
              have tb := (OK.out.2 i hlt).1
              have sb2 := (OK.out.2 i hlt).2.1
              have tn := FAR.out i hlt
              have li := lsh_in sb OK.out i (by omega)
              have eL : lsh sh ts (i + 1) = tSh ts i := by unfold lsh; rw [if_neg (by omega), Nat.add_sub_cancel]
              have VB : Hid (zsh s sh ts r (tAt ts i) (i + 1) = tSh ts i) := by unfold Hid; rw [← eL]; exact if_pos ⟨HZ.out, (ti_iff _).2 (by omega)⟩
              have VA : Hid (zsh s sh ts r (tAt ts i - 1) i = lsh sh ts i) := if_pos ⟨HZ.out, (ti_iff _).2 (by omega)⟩
              have EL : Hid (lsh sh ts (i + 1) = tSh ts i) := eL
              have hd0 : decide (0 < tAt ts i) = true := by simp; omega
              have q1 := IntWalk.i64_in (tAt ts i - 1) (by omega)
              have G := K.t
              rcases G with G | ⟨b, off, rfl, hbs, hc⟩
              · rw [G] at hlt; simp at hlt
              have c0 : wr.cell? ⟨b, off + i * 2, none⟩ = some (.int .i64 (tAt ts i)) := (hc i hlt).1
              have c1 : wr.cell? ⟨b, off + i * 2 + 1, none⟩ = some (.int .i64 (tSh ts i)) := (hc i hlt).2
              have hi1 : (i : Int) < (ts.length : Int) := by omega
              have hi0 : (0 : Int) ≤ (i : Int) := by omega
              have K6 : LT w b (off + i * 2) w1.heap.size (.int .i64 (tAt ts i)) (.int .i64 (tSh ts i)) (.string s) (.int .i64 sh) (.slice (some ⟨b, off, none⟩) ts.length cap) (some ⟨b, off, none⟩) ts wr := ⟨c0, c1, K⟩
              clear hc eL tn
              go_wp2
              first
                | (go_region_held3 (fun w' => w'.cell? ⟨b, off + i * 2, none⟩ = some (.int .i64 (tAt ts i)) ∧ w'.cell? ⟨b, off + i * 2 + 1, none⟩ = some (.int .i64 (tSh ts i)) ∧ w'.cell? ⟨w1.heap.size, 0, none⟩ = some (.string s) ∧ w'.cell? ⟨w1.heap.size, 1, none⟩ = some (.int .i64 sh) ∧ w'.cell? ⟨w1.heap.size, 2, none⟩ = some (.slice (some ⟨b, off, none⟩) ts.length cap) ∧ IsTurns w' (some ⟨b, off, none⟩) ts ∧ Below w.heap.size w w')
                    (first | assumption | exact LT.on K6 (Below.refl _ _).drew | exact LT.on (by assumption) hb7)
                    (first
                | (go_at_call 13; have t8 := LB; clear LB; refine (implZoneShift s sh _ cap ts (tAt ts i) (i + 1) _ (LT.t (by assumption)) hl hs r HR.out t8.out).mono ?_; clear t8; rintro e w7 ⟨rfl, hb7⟩; rw [VB.out])
                | (go_at_call 13; refine (implZoneShift s sh _ cap ts (tAt ts i - 1) i _ (LT.t (by assumption)) hl hs r HR.out LA.out).mono ?_; rintro e w7 ⟨rfl, hb7⟩; rw [VA.out])))
                | fail
              have K7 : LT w b (off + i * 2) w1.heap.size (.int .i64 (tAt ts i)) (.int .i64 (tSh ts i)) (.string s) (.int .i64 sh) (.slice (some ⟨b, off, none⟩) ts.length cap) (some ⟨b, off, none⟩) ts _ := ‹_›
              have d0 := K7.1
              have d1 := K7.2.1
              clear c0 c1 hbs hb7 K6 K
              go_wp2
              go_roundw
              case rel =>
                have fin : ∃ j' : Nat, j' ≤ ts.length ∧ Value.int .i64 ((i : Int) + 1) = .int .i64 j' ∧ Value.int .i64 (tSh ts i) = .int .i64 (lsh sh ts j') ∧ LZ w w1.heap.size (.string s) (.int .i64 sh) (.slice (some ⟨b, off, none⟩) ts.length cap) (some ⟨b, off, none⟩) ts w7 := ⟨i + 1, by omega, by go_num, by rw [EL.out], K7.2.2⟩
                first
                  | exact fin
                  | exact ⟨_, _, _, _, _, _, _, _, _, _, _, _, _, _, _, _, _, _, _, _, _, _, _, _, _, _, _, _, _, _, _, _, _, _, _, _, _, _, _, _, _, _, _, _, _, _, _, _, _, _, _, _, _, fin, rfl⟩
              case measure => first | (simp [intOf]; done) | (simp [intOf]; omega)
            · go_wp2_with fail
              refine (implZoneShift s sh a cap ts x k _ K.t hl hs r HR.out HK.out).mono ?_
              rintro e w9 ⟨rfl, b9⟩
              rw [HVS.out]
              replace K := K.on b9
              clear b9
              go_wp2
              go_ret
              exact ⟨ret_b (by simp), K.b⟩
end Go.Proofs.Ytihklmbblbnihaa
