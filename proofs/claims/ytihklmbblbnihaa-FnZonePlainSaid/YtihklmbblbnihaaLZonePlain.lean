/- FnZonePlain: the law's own walk. -/
import Derived.Test.YtihklmbblbnihaaZy
import Derived.Test.YtihklmbblbnihaaZx
import Derived.Test.YtihklmbblbnihaaDzD
import Derived.Test.YtihklmbblbnihaaZKp
import Derived.Test.YtihklmbblbnihaaEp
namespace Go.Proofs.Ytihklmbblbnihaa
open Go.RowKit
set_option linter.unusedVariables false
theorem ztz_len' (s : ByteArray) (sh : Int) (ts : List (Int × Int)) (r : Bool) (x : Int) : (ztz s sh ts r x).length ≤ ts.length + 1 := by
  unfold ztz; split
  · exact ztl_len _ _ _ _
  · simp
abbrev PZ (w0 : World) (b off B : Nat) (x s sh sl : Value) (W : World) : Prop := W.cell? ⟨b, off, none⟩ = some x ∧ W.cell? ⟨B, 0, none⟩ = some s ∧ W.cell? ⟨B, 1, none⟩ = some sh ∧ W.cell? ⟨B, 2, none⟩ = some sl ∧ Below w0.heap.size w0 W
theorem PZ.on {w0 W W' : World} {b off B : Nat} {x s sh sl : Value} (h : PZ w0 b off B x s sh sl W) (hb : Below W.heap.size W W') : PZ w0 b off B x s sh sl W' := by
  obtain ⟨c, c0, c1, c2, Bw⟩ := h
  obtain ⟨d0, d1, d2⟩ := C3.on (w := W) ⟨c0, c1, c2⟩ hb
  exact ⟨by rw [hb.cell (p := ⟨b, off, none⟩) (cell_lt c)]; exact c, d0, d1, d2, bstep Bw hb⟩
set_option maxRecDepth 100000 in
set_option maxHeartbeats 16000000 in
theorem lawZonePlain' (hd : ∀ (w : World) (a : Option Addr) (len cap : Nat), IsCode w a len cap → Calls Try.prog 17 #[.slice a len cap] w fun e w' => DrewZ w e w') (a0 : Option Addr) (len0 cap0 : Nat) (w : World) (h : IsCode w a0 len0 cap0) :
    Calls Try.prog 7 #[.slice a0 len0 cap0] w fun e w' => e = .returned (.bool true) ∧ Below w.heap.size w w' := by
  have hl0 : len0 ≤ 9223372036854775807 := Nat.le_trans h.1 h.2.1
  by_cases hbig : 1048576 < len0
  · have hb1 : (1048576 : Int) < (len0 : Int) := by omega
    go_enter Try.func7, Try.ntmps7
    go_wp2
    go_ret
    exact ⟨rfl, Below.refl _ _⟩
  · have hb1 : ¬ (1048576 : Int) < (len0 : Int) := by omega
    go_enter Try.func7, Try.ntmps7
    go_wp2_with fail
    refine (hd w a0 len0 cap0 h).mono ?_
    rintro e w1 ⟨s, sh, a, cap, ts, x, rfl, T1, l4, sz, B1⟩
    have hl : ts.length ≤ 2000000 := by omega
    have hs : s.size ≤ maxLen := by unfold maxLen; omega
    obtain ⟨r, hr⟩ := tr_dec ts
    have HR : Hid (r = true ↔ TrOk ts) := hr
    have K := LZ.made (s := s) (sh := sh) (n := ts.length) (cap := cap) T1 B1 25
    have bw : w.heap.size ≤ w1.heap.size := B1.size
    have ln := ztz_len' s sh ts r x
    have lm : (ztz s sh ts r x).length ≤ 4000000 := by omega
    clear hr T1 B1
    go_wp2_with fail
    have F1 : (w1.alloc (.cells #[.string s, .int .i64 sh, .slice a ts.length cap] 25)).frozen? ⟨w1.heap.size, 2, none⟩ = false := by simp
    generalize w1.alloc (.cells #[.string s, .int .i64 sh, .slice a ts.length cap] 25) = W1 at K F1 ⊢
    have lt1 : w1.heap.size < W1.heap.size := cell_lt K.1
    have BB := Below.refl W1.heap.size W1
    refine (implZoneTimes s sh a cap ts x _ K.t hl hs r HR.out).mono ?_
    rintro e w2 ⟨v, rfl, O, b2⟩
    replace K := K.on b2
    replace BB := bstep BB b2
    obtain ⟨av, cv, rfl, _⟩ := O.val
    clear b2
    go_wp2_with fail
    refine (specZoneTimes s sh a cap ts x _ K.t hl hs r HR.out).mono ?_
    rintro e w3 ⟨v3, rfl, O3, b3⟩
    replace K := K.on b3
    replace BB := bstep BB b3
    replace O := O.below b3
    obtain ⟨a3, c3, rfl, I3, _⟩ := O3.val
    clear b3 O3
    go_wp2_with fail
    refine (lawEpInts av a3 cv c3 (ztz s sh ts r x) _ O.ints I3 lm).mono ?_
    rintro e w4 ⟨rfl, b4⟩
    replace K := K.on b4
    replace BB := bstep BB b4
    replace O := O.below b4
    clear b4 I3
    cases hz : znB s sh r with
    | false =>
      have HZ : Hid (znB s sh r = false) := hz
      clear hz
      go_wp2_with fail
      refine (specZoneOk s sh a cap ts _ K.t hl hs r HR.out).mono ?_
      rintro e w5 ⟨rfl, b5⟩
      rw [HZ.out]
      replace K := K.on b5
      replace BB := bstep BB b5
      replace O := O.below b5
      clear b5
      go_wp2_with fail
      refine (specZoneTimes s sh a cap ts x _ K.t hl hs r HR.out).mono ?_
      rintro e w6 ⟨v6, rfl, O6, b6⟩
      replace K := K.on b6
      replace BB := bstep BB b6
      replace O := O.below b6
      obtain ⟨a6, c6, rfl, I6, _⟩ := O6.val
      clear b6 O6
      go_wp2_with fail
      refine (lawEpInts av a6 cv c6 (ztz s sh ts r x) _ O.ints I6 lm).mono ?_
      rintro e w7 ⟨rfl, b7⟩
      replace K := K.on b7
      replace BB := bstep BB b7
      clear b7 I6 O
      go_wp2
      go_ret
      exact ⟨ret_b (by simp), K.b⟩
    | true =>
      have HZ : Hid (znB s sh r = true) := hz
      by_cases x0 : x < 0
      · clear hz
        go_wp2_with fail
        refine (specZoneOk s sh a cap ts _ K.t hl hs r HR.out).mono ?_
        rintro e w5 ⟨rfl, b5⟩
        rw [HZ.out]
        replace K := K.on b5
        replace BB := bstep BB b5
        replace O := O.below b5
        clear b5
        go_wp2_with fail
        refine (specZoneTimes s sh a cap ts x _ K.t hl hs r HR.out).mono ?_
        rintro e w6 ⟨v6, rfl, O6, b6⟩
        replace K := K.on b6
        replace BB := bstep BB b6
        replace O := O.below b6
        obtain ⟨a6, c6, rfl, I6, _⟩ := O6.val
        clear b6 O6
        go_wp2_with fail
        refine (lawEpInts av a6 cv c6 (ztz s sh ts r x) _ O.ints I6 lm).mono ?_
        rintro e w7 ⟨rfl, b7⟩
        replace K := K.on b7
        replace BB := bstep BB b7
        clear b7 I6 O
        go_wp2
        go_ret
        exact ⟨ret_b (by simp), K.b⟩
      · by_cases x1 : 5258964959 < x
        · clear hz
          go_wp2_with fail
          refine (specZoneOk s sh a cap ts _ K.t hl hs r HR.out).mono ?_
          rintro e w5 ⟨rfl, b5⟩
          rw [HZ.out]
          replace K := K.on b5
          replace BB := bstep BB b5
          replace O := O.below b5
          clear b5
          go_wp2_with fail
          refine (specZoneTimes s sh a cap ts x _ K.t hl hs r HR.out).mono ?_
          rintro e w6 ⟨v6, rfl, O6, b6⟩
          replace K := K.on b6
          replace BB := bstep BB b6
          replace O := O.below b6
          obtain ⟨a6, c6, rfl, I6, _⟩ := O6.val
          clear b6 O6
          go_wp2_with fail
          refine (lawEpInts av a6 cv c6 (ztz s sh ts r x) _ O.ints I6 lm).mono ?_
          rintro e w7 ⟨rfl, b7⟩
          replace K := K.on b7
          replace BB := bstep BB b7
          clear b7 I6 O
          go_wp2
          go_ret
          exact ⟨ret_b (by simp), K.b⟩
        · have ht : tiB x = true := (ti_iff _).2 (by omega)
          obtain ⟨ok, sb⟩ := zn_parts hz HR.out
          have hz2 : znB s sh true = true := by unfold znB at hz ⊢; simp only [Bool.and_eq_true] at hz ⊢; exact ⟨hz.1, hz.2.1, trivial⟩
          have TN : Hid (TrOk []) := ⟨by simp, fun i hi => by simp at hi⟩
          have hv : ztz s sh [] true x = ztl sh [] x 1 := if_pos ⟨hz2, ht⟩
          have HV : Hid (ztz s sh [] true x = ztl sh [] x 1) := hv
          have hzn := zin_nil sh x
          clear hz ok hv
          go_wp2_with fail
          refine (specZoneOk s sh a cap ts _ K.t hl hs r HR.out).mono ?_
          rintro e w5 ⟨rfl, b5⟩
          rw [HZ.out]
          replace K := K.on b5
          replace BB := bstep BB b5
          clear b5 O
          have f5 : w5.frozen? ⟨w1.heap.size, 2, none⟩ = false := (BB.frozen (p := ⟨w1.heap.size, 2, none⟩) lt1).trans F1
          have K6 : LZ w w1.heap.size (.string s) (.int .i64 sh) (.slice none 0 0) none [] (w5.setCell ⟨w1.heap.size, 2, none⟩ (.slice none 0 0)) := ⟨by rw [World.cell?_setCell_other _ _ _ _ (by simp)]; exact K.1, by rw [World.cell?_setCell_other _ _ _ _ (by simp)]; exact K.2.1, World.cell?_setCell_same _ _ _ K.2.2.1, .inl rfl, K.b.setCell (p := ⟨w1.heap.size, 2, none⟩) bw _⟩
          clear BB F1
          go_wp2_with fail
          generalize w5.setCell ⟨w1.heap.size, 2, none⟩ (.slice none 0 0) = W6 at K6 ⊢
          clear K f5
          refine (implZoneTimes s sh none 0 [] x _ K6.t (by simp) hs true ⟨fun _ => TN.out, fun _ => rfl⟩).mono ?_
          rintro e w7 ⟨v, rfl, O, b7⟩
          rw [HV.out] at O
          have K := K6.on b7
          clear b7 K6
          cases th : tiB (x - sh) with
          | true =>
            rw [th] at hzn
            have hxl : ztl sh [] x 1 = [x - sh] := by rw [show (1 : Nat) = 0 + 1 from rfl, ztl_yes hzn, lsh_nil, ztl]; rfl
            rw [hxl] at O
            have tb := (ti_iff _).1 th
            have HQ : Hid (ZW sh [] x (x - sh)) := .inl ⟨[], hxl⟩
            have HW : Hid (zwz s sh true x (x - sh) = x - sh) := if_pos ⟨hz2, ht⟩
            obtain ⟨aa, cc, rfl, I, _, _⟩ := O.val
            rcases I with I | ⟨b, off, rfl, hbs, hcell⟩
            · cases I
            have e0 : w7.cell? ⟨b, off, none⟩ = some (.int .i64 (x - sh)) := hcell 0 (by simp)
            clear hcell O hxl hzn
            have l1 : ([x - sh] : List Int).length = 1 := rfl
            rw [l1]
            have q1 := IntWalk.i64_in (x - sh) (by omega)
            have q2 : ((x - sh) == (x - sh)) = true := by simp
            have K7 : PZ w b off w1.heap.size (.int .i64 (x - sh)) (.string s) (.int .i64 sh) (.slice none 0 0) w7 := ⟨e0, K.1, K.2.1, K.2.2.1, K.b⟩
            go_wp2
            first
              | (
                  go_region_held3 (fun w' => w'.cell? ⟨b, off, none⟩ = some (.int .i64 (x - sh)) ∧ w'.cell? ⟨w1.heap.size, 0, none⟩ = some (.string s) ∧ w'.cell? ⟨w1.heap.size, 1, none⟩ = some (.int .i64 sh) ∧ w'.cell? ⟨w1.heap.size, 2, none⟩ = some (.slice none 0 0) ∧ Below w.heap.size w w')
                    (first | assumption | exact PZ.on K7 (Below.refl _ _).drew | exact PZ.on (by assumption) hb7)
                    (first
                      | (go_at_call 23; refine (implZoneWorld s sh none 0 [] x (x - sh) _ (.inl rfl) (by simp) hs true ⟨fun _ => TN.out, fun _ => rfl⟩ HQ).mono ?_; rintro e w8 ⟨rfl, hb7⟩; rw [HW.out])))
              | fail
            have K8 : PZ w b off w1.heap.size (.int .i64 (x - sh)) (.string s) (.int .i64 sh) (.slice none 0 0) w8 := by assumption
            go_wp2
            go_ret
            exact ⟨ret_b (by simp), K8.2.2.2.2⟩
          | false =>
            rw [th] at hzn
            have hxl : ztl sh [] x 1 = [] := by rw [show (1 : Nat) = 0 + 1 from rfl, ztl_no hzn, ztl]
            rw [hxl] at O
            have tb := (ti_not _).1 th
            obtain ⟨aa, cc, rfl, _⟩ := O.val
            clear O hxl hzn
            have l1 : ([] : List Int).length = 0 := rfl
            rw [l1]
            by_cases t0 : 0 ≤ x - sh
            · have hd1 : decide (x - sh ≤ 5258964959) = false := by simp; omega
              have hd0 : decide (0 ≤ x - sh) = true := by simpa using t0
              go_wp2
              go_quiet (fail)
              go_wp2
              go_ret
              exact ⟨ret_b (by simp), Below.drewN' K.b _⟩
            · have hd0 : decide (0 ≤ x - sh) = false := by simpa using t0
              go_wp2
              go_quiet (fail)
              go_wp2
              go_ret
              exact ⟨ret_b (by simp), Below.drewN' K.b _⟩
end Go.Proofs.Ytihklmbblbnihaa
