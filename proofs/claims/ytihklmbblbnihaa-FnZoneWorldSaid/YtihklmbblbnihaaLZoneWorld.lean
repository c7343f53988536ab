/- FnZoneWorld: the law's own walk. -/
import Derived.Test.YtihklmbblbnihaaLZoneLocal
import Derived.Test.YtihklmbblbnihaaZx
import Derived.Test.YtihklmbblbnihaaDzD
import Derived.Test.YtihklmbblbnihaaZKp
import Derived.Deep.RegionHeld3
namespace Go.Proofs.Ytihklmbblbnihaa
open Go.RowKit
set_option linter.unusedVariables false
set_option maxRecDepth 100000 in
set_option maxHeartbeats 16000000 in
theorem lawZoneWorld' (hd : ∀ (w : World) (a : Option Addr) (len cap : Nat), IsCode w a len cap → Calls Try.prog 22 #[.slice a len cap] w fun e w' => DrewF w e w') (a0 : Option Addr) (len0 cap0 : Nat) (w : World) (h : IsCode w a0 len0 cap0) :
    Calls Try.prog 5 #[.slice a0 len0 cap0] w fun e w' => e = .returned (.bool true) ∧ Below w.heap.size w w' := by
  have hl0 : len0 ≤ 9223372036854775807 := Nat.le_trans h.1 h.2.1
  by_cases hbig : 1048576 < len0
  · have hb1 : (1048576 : Int) < (len0 : Int) := by omega
    go_enter Try.func5, Try.ntmps5
    go_wp2
    go_ret
    exact ⟨rfl, Below.refl _ _⟩
  · have hb1 : ¬ (1048576 : Int) < (len0 : Int) := by omega
    go_enter Try.func5, Try.ntmps5
    go_wp2_with fail
    refine (hd w a0 len0 cap0 h).mono ?_
    rintro e w1 ⟨s, sh, a, cap, ts, x, rfl, T1, l4, sz, B1, far⟩
    have FAR : Hid (∀ i, i < ts.length → tAt ts i ≠ 0) := far
    clear far
    have hl : ts.length ≤ 2000000 := by omega
    have hs : s.size ≤ maxLen := by unfold maxLen; omega
    obtain ⟨r, hr⟩ := tr_dec ts
    have HR : Hid (r = true ↔ TrOk ts) := hr
    obtain ⟨q, hq⟩ := ZW.ex sh ts x
    have HQ : Hid (ZW sh ts x q) := hq
    have K := LZ.made (s := s) (sh := sh) (n := ts.length) (cap := cap) T1 B1 25
    clear hr hq T1 B1
    go_wp2_with fail
    generalize w1.alloc (.cells #[.string s, .int .i64 sh, .slice a ts.length cap] 25) = W1 at K ⊢
    refine (implZoneWorld s sh a cap ts x q _ K.t hl hs r HR.out HQ).mono ?_
    rintro e w2 ⟨rfl, b2⟩
    replace K := K.on b2
    clear b2
    go_wp2_with fail
    refine (specZoneWorld s sh a cap ts x q _ K.t hl hs r HR.out HQ).mono ?_
    rintro e w3 ⟨rfl, b3⟩
    replace K := K.on b3
    clear b3
    cases hz : znB s sh r with
    | false =>
      have HZ : Hid (znB s sh r = false) := hz
      clear hz
      go_wp2_with fail
      refine (specZoneOk s sh a cap ts _ K.t hl hs r HR.out).mono ?_
      rintro e w4 ⟨rfl, b4⟩
      rw [HZ.out]
      replace K := K.on b4
      clear b4
      go_wp2_with fail
      refine (specZoneWorld s sh a cap ts x q _ K.t hl hs r HR.out HQ).mono ?_
      rintro e w5 ⟨rfl, b5⟩
      replace K := K.on b5
      clear b5
      go_wp2
      go_ret
      exact ⟨ret_b (by simp), K.b⟩
    | true =>
      have HZ : Hid (znB s sh r = true) := hz
      by_cases x0 : x < 0
      · clear hz
        go_wp2_with fail
        refine (specZoneOk s sh a cap ts _ K.t hl hs r HR.out).mono ?_
        rintro e w4 ⟨rfl, b4⟩
        rw [HZ.out]
        replace K := K.on b4
        clear b4
        go_wp2_with fail
        refine (specZoneWorld s sh a cap ts x q _ K.t hl hs r HR.out HQ).mono ?_
        rintro e w5 ⟨rfl, b5⟩
        replace K := K.on b5
        clear b5
        go_wp2
        go_ret
        exact ⟨ret_b (by simp), K.b⟩
      · by_cases x1 : 5258964959 < x
        · clear hz
          go_wp2_with fail
          refine (specZoneOk s sh a cap ts _ K.t hl hs r HR.out).mono ?_
          rintro e w4 ⟨rfl, b4⟩
          rw [HZ.out]
          replace K := K.on b4
          clear b4
          go_wp2_with fail
          refine (specZoneWorld s sh a cap ts x q _ K.t hl hs r HR.out HQ).mono ?_
          rintro e w5 ⟨rfl, b5⟩
          replace K := K.on b5
          clear b5
          go_wp2
          go_ret
          exact ⟨ret_b (by simp), K.b⟩
        · have ht : tiB x = true := (ti_iff _).2 (by omega)
          have hv : zwz s sh r x q = q := if_pos ⟨hz, ht⟩
          have HV : Hid (zwz s sh r x q = q) := hv
          have hvt : ztz s sh ts r x = ztl sh ts x (ts.length + 1) := if_pos ⟨hz, ht⟩
          have HVT : Hid (ztz s sh ts r x = ztl sh ts x (ts.length + 1)) := hvt
          obtain ⟨ok, sb⟩ := zn_parts hz HR.out
          have OK : Hid (TrOk ts) := ok
          rw [hv]
          clear hz ok hv hvt
          by_cases n0 : q < 0
          · go_wp2_with fail
            refine (specZoneOk s sh a cap ts _ K.t hl hs r HR.out).mono ?_
            rintro e w4 ⟨rfl, b4⟩
            rw [HZ.out]
            replace K := K.on b4
            clear b4
            go_wp2_with fail
            refine (specZoneWorld s sh a cap ts x q _ K.t hl hs r HR.out HQ).mono ?_
            rintro e w5 ⟨rfl, b5⟩
            rw [HV.out]
            replace K := K.on b5
            clear b5
            go_wp2
            go_ret
            exact ⟨ret_b (by simp), K.b⟩
          · go_wp2_with fail
            refine (specZoneOk s sh a cap ts _ K.t hl hs r HR.out).mono ?_
            rintro e w4 ⟨rfl, b4⟩
            rw [HZ.out]
            replace K := K.on b4
            clear b4
            go_wp2_with fail
            refine (implZoneTimes s sh a cap ts x _ K.t hl hs r HR.out).mono ?_
            rintro e w5 ⟨v, rfl, O, b5⟩
            rw [HVT.out] at O
            replace K := K.on b5
            clear b5
            have ll := ztl_len sh ts x (ts.length + 1)
            cases hl5 : ztl sh ts x (ts.length + 1) with
            | cons y l =>
              have hq := HQ.out
              have ey : y = q := by
                rcases hq with ⟨l', e⟩ | ⟨e, _⟩
                · rw [hl5] at e; cases e; rfl
                · rw [hl5] at e; cases e
              subst ey
              obtain ⟨tq, kq, lq, sq⟩ := ztl_shows (x := y) OK.out (by rw [hl5]; simp)
              have SQ : Hid (zlo s sh ts r y kq = x) := by unfold Hid; rw [← sq]; exact if_pos ⟨HZ.out, tq⟩
              have LQ : Hid (Leg ts y kq) := lq
              rw [hl5] at O ll
              simp only [List.length_cons] at ll
              obtain ⟨av, cv, rfl, I, _, _⟩ := O.val
              rcases I with I | ⟨b, off, rfl, hbs, hcell⟩
              · cases I
              have e0 : w5.cell? ⟨b, off, none⟩ = some (.int .i64 y) := hcell 0 (by simp)
              clear hcell O hl5 lq sq hq
              go_wp2_with fail
              refine (implZoneLocal s sh a cap ts y kq _ K.t hl hs r HR.out LQ.out).mono ?_
              rintro e w6 ⟨rfl, b6⟩
              rw [SQ.out]
              replace K := K.on b6
              clear b6
              go_wp2
              go_ret
              exact ⟨ret_b (by simp), K.b⟩
            | nil =>
              have hq := HQ.out
              have sk : ∃ i, i < ts.length ∧ Skip sh ts x i ∧ q = x - lsh sh ts i ∧ tiB q = true := by
                rcases hq with ⟨l', e⟩ | ⟨_, ⟨i, hi, hk, e⟩ | ⟨_, e⟩⟩
                · rw [hl5] at e; cases e
                · by_cases t0 : tiB (x - lsh sh ts i) = true
                  · rw [if_pos t0] at e; exact ⟨i, hi, hk, e, by rw [e]; exact t0⟩
                  · rw [if_neg t0] at e; omega
                · omega
              obtain ⟨i, hi, ⟨sk1, sk2⟩, eq, tq⟩ := sk
              have EQ : Hid (q = x - lsh sh ts i) := eq
              have li := lsh_in sb OK.out i (by omega)
              have tb := (OK.out.2 i hi).1
              have sb2 := (OK.out.2 i hi).2.1
              have tn := FAR.out i hi
              have qb := (ti_iff _).1 tq
              have tq0 : tAt ts i ≤ q := by omega
              have tq1 : q < tAt ts i + 2881 := by omega
              have tpos : 0 < tAt ts i := by omega
              have legs : ∀ y, tAt ts i ≤ y → y ≤ q → Leg ts y (i + 1) := fun y h1 h2 => by
                refine ⟨by omega, fun j hj => ?_, fun h => ?_⟩
                · have := OK.out.mono j i (by omega) hi; omega
                · have := OK.out.apart i (i + 1) (by omega) h; omega
              have eL : lsh sh ts (i + 1) = tSh ts i := by unfold lsh; rw [if_neg (by omega), Nat.add_sub_cancel]
              have vals : ∀ y, tAt ts i ≤ y → y ≤ q → zsh s sh ts r y (i + 1) = tSh ts i := fun y h1 h2 => by
                rw [← eL]; exact if_pos ⟨HZ.out, (ti_iff _).2 (by omega)⟩
              have LEGS : Hid (∀ y, tAt ts i ≤ y → y ≤ q → Leg ts y (i + 1)) := legs
              have VALS : Hid (∀ y, tAt ts i ≤ y → y ≤ q → zsh s sh ts r y (i + 1) = tSh ts i) := vals
              have LB : Hid (Leg ts q (i + 1)) := legs q tq0 (Int.le_refl _)
              have VB : Hid (zsh s sh ts r q (i + 1) = tSh ts i) := vals q tq0 (Int.le_refl _)
              have hne : (lsh sh ts i == tSh ts i) = false := beq_eq_false_iff_ne.2 (by omega)
              have hxq : x = q + lsh sh ts i := by omega
              have HXQ : Hid (x = q + lsh sh ts i) := hxq
              rw [hl5] at O
              obtain ⟨av, cv, rfl, _⟩ := O.val
              have l0 : ([] : List Int).length = 0 := rfl
              rw [l0]
              clear O hl5 hq eq legs vals eL hxq sk1 sk2
              go_wp2
              go_loopw [7] (fun u wr => ∃ t : Int, tAt ts i ≤ t ∧ t ≤ q ∧ u = .int .i64 t ∧ LZ w w1.heap.size (.string s) (.int .i64 sh) (.slice a ts.length cap) a ts wr) (fun u _ => (intOf u - tAt ts i).toNat)
              case atStart => exact ⟨q, tq0, Int.le_refl _, rfl, K⟩
              case round =>
                clear K
                obtain ⟨t, t0, t1, rfl, K⟩ := hrel
                have hd0 : decide (0 < t) = true := by simp; omega
                have q1 := IntWalk.i64_in (t - 1) (by omega)
                by_cases hlt : tAt ts i < t
                · have LA : Hid (Leg ts (t - 1) (i + 1)) := LEGS.out (t - 1) (by omega) (by omega)
                  have VA : Hid (zsh s sh ts r (t - 1) (i + 1) = tSh ts i) := VALS.out (t - 1) (by omega) (by omega)
                  have hee : (tSh ts i == tSh ts i) = true := by simp
                  go_wp2
                  first
                    | (go_region_held3 (fun w' => w'.cell? ⟨w1.heap.size, 0, none⟩ = some (.string s) ∧ w'.cell? ⟨w1.heap.size, 1, none⟩ = some (.int .i64 sh) ∧ w'.cell? ⟨w1.heap.size, 2, none⟩ = some (.slice a ts.length cap) ∧ IsTurns w' a ts ∧ Below w.heap.size w w')
                      (first | assumption | exact LZ.on K (Below.refl _ _).drew | exact LZ.on (by assumption) hb7)
                      (first
                        | (go_at_call 13; have t8 := LA; clear LA; refine (implZoneShift s sh a cap ts (t - 1) (i + 1) _ (LZ.t (by assumption)) hl hs r HR.out t8.out).mono ?_; clear t8; rintro e w7 ⟨rfl, hb7⟩; rw [VA.out])
                        | (go_at_call 13; refine (implZoneShift s sh a cap ts q (i + 1) _ (LZ.t (by assumption)) hl hs r HR.out LB.out).mono ?_; rintro e w7 ⟨rfl, hb7⟩; rw [VB.out])))
                    | fail
                  have K7 : LZ w w1.heap.size (.string s) (.int .i64 sh) (.slice a ts.length cap) a ts _ := ‹_›
                  clear K hb7
                  go_wp2
                  go_roundw
                  case rel =>
                    have fin : ∃ t' : Int, tAt ts i ≤ t' ∧ t' ≤ q ∧ Value.int .i64 (t - 1) = .int .i64 t' ∧ LZ w w1.heap.size (.string s) (.int .i64 sh) (.slice a ts.length cap) a ts w7 := ⟨t - 1, by omega, by omega, rfl, K7⟩
                    first
                      | exact fin
                      | exact ⟨_, _, _, _, _, _, _, _, _, _, _, _, _, _, _, _, _, _, _, _, fin, rfl⟩
                      | exact ⟨_, _, _, _, _, _, _, _, _, _, _, _, _, _, _, _, _, _, _, fin, rfl⟩
                  case measure => first | (simp [intOf]; done) | (simp [intOf]; omega)
                · have ett : t = tAt ts i := by omega
                  have LA : Hid (Leg ts (t - 1) i) := by unfold Hid; rw [ett]; exact leg_ahead OK.out i hi
                  have VA : Hid (zsh s sh ts r (t - 1) i = lsh sh ts i) := if_pos ⟨HZ.out, (ti_iff _).2 (by omega)⟩
                  have LA2 : Hid (Leg ts (t - 1) i) := LA
                  clear ett
                  go_wp2
                  first
                    | (go_region_held3 (fun w' => w'.cell? ⟨w1.heap.size, 0, none⟩ = some (.string s) ∧ w'.cell? ⟨w1.heap.size, 1, none⟩ = some (.int .i64 sh) ∧ w'.cell? ⟨w1.heap.size, 2, none⟩ = some (.slice a ts.length cap) ∧ IsTurns w' a ts ∧ Below w.heap.size w w')
                      (first | assumption | exact LZ.on K (Below.refl _ _).drew | exact LZ.on (by assumption) hb7)
                      (first
                        | (go_at_call 13; have t8 := LA; clear LA; refine (implZoneShift s sh a cap ts (t - 1) i _ (LZ.t (by assumption)) hl hs r HR.out t8.out).mono ?_; clear t8; rintro e w7 ⟨rfl, hb7⟩; rw [VA.out])
                        | (go_at_call 13; refine (implZoneShift s sh a cap ts q (i + 1) _ (LZ.t (by assumption)) hl hs r HR.out LB.out).mono ?_; rintro e w7 ⟨rfl, hb7⟩; rw [VB.out])))
                    | fail
                  have K7 : LZ w w1.heap.size (.string s) (.int .i64 sh) (.slice a ts.length cap) a ts _ := ‹_›
                  clear K hb7
                  go_wp2_with fail
                  refine (implZoneShift s sh a cap ts (t - 1) i _ K7.t hl hs r HR.out LA2.out).mono ?_
                  rintro e w9 ⟨rfl, b9⟩
                  rw [VA.out]
                  have K9 := K7.on b9
                  clear b9
                  go_wp2
                  go_ret
                  exact ⟨ret_b (by have := HXQ.out; simp; omega), K9.b⟩
end Go.Proofs.Ytihklmbblbnihaa
