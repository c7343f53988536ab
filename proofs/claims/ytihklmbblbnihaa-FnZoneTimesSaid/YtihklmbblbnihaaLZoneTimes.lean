/- FnZoneTimes: the law's own walk. -/
import Derived.Test.YtihklmbblbnihaaZy
import Derived.Test.YtihklmbblbnihaaZx
import Derived.Test.YtihklmbblbnihaaDzD
import Derived.Test.YtihklmbblbnihaaZKp
import Derived.Test.YtihklmbblbnihaaEp
namespace Go.Proofs.Ytihklmbblbnihaa
open Go.RowKit
set_option linter.unusedVariables false
theorem ztz_len2 (s : ByteArray) (sh : Int) (ts : List (Int × Int)) (r : Bool) (x : Int) : (ztz s sh ts r x).length ≤ ts.length + 1 := by
  unfold ztz; split
  · exact ztl_len _ _ _ _
  · simp
abbrev QZ (w0 : World) (b off o o' B : Nat) (x y s sh sl : Value) (a : Option Addr) (ts : List (Int × Int)) (l : List Int) (W : World) : Prop := W.cell? ⟨b, o, none⟩ = some x ∧ W.cell? ⟨b, o', none⟩ = some y ∧ W.cell? ⟨B, 0, none⟩ = some s ∧ W.cell? ⟨B, 1, none⟩ = some sh ∧ W.cell? ⟨B, 2, none⟩ = some sl ∧ IsTurns W a ts ∧ IsInts W (some ⟨b, off, none⟩) l ∧ Below w0.heap.size w0 W
theorem QZ.on {w0 W W' : World} {b off o o' B : Nat} {x y s sh sl : Value} {a : Option Addr} {ts : List (Int × Int)} {l : List Int} (h : QZ w0 b off o o' B x y s sh sl a ts l W) (hb : Below W.heap.size W W') : QZ w0 b off o o' B x y s sh sl a ts l W' := by
  obtain ⟨e, e', c0, c1, c2, T, I, Bw⟩ := h
  obtain ⟨d0, d1, d2⟩ := C3.on (w := W) ⟨c0, c1, c2⟩ hb
  exact ⟨by rw [hb.cell (p := ⟨b, o, none⟩) (cell_lt e)]; exact e, by rw [hb.cell (p := ⟨b, o', none⟩) (cell_lt e')]; exact e', d0, d1, d2, T.below (B := 0) hb, I.below hb, bstep Bw hb⟩
theorem QZ.t {w0 W : World} {b off o o' B : Nat} {x y s sh sl : Value} {a : Option Addr} {ts : List (Int × Int)} {l : List Int} (h : QZ w0 b off o o' B x y s sh sl a ts l W) : IsTurns W a ts := h.2.2.2.2.2.1
theorem below_drew {w w' : World} (h : Below w.drew.heap.size w.drew w') : Below w.heap.size w w' := ⟨h.os, h.tape, h.output, h.size, h.block⟩
theorem wp_region_cls {P : Program} {id : Nat} {Q : Exit → Act → World → Prop} {a : Act} {w : World} {l : List Oper} (C : World → Prop) (hm : P.follows .mixedOrders = true) (hB : Region.lexB .any l.toArray = true) (hC : C w.drew)
    (h : wpQuiet P l.toArray C (fun a' => ∀ w', C w' → Q .normal a' w') l a) : (Code.region id l.toArray true).wp P Q a w :=
  wp_region_quiet (C := C) hm hB hC (by simpa using h)
set_option maxRecDepth 100000 in
set_option maxHeartbeats 16000000 in
theorem lawZoneTimes' (hd : ∀ (w : World) (a : Option Addr) (len cap : Nat), IsCode w a len cap → Calls Try.prog 17 #[.slice a len cap] w fun e w' => DrewZ w e w') (a0 : Option Addr) (len0 cap0 : Nat) (a9 : Option Addr) (len9 cap9 : Nat) (w : World) (h : IsCode w a0 len0 cap0) (h9 : IsCode w a9 len9 cap9) :
    Calls Try.prog 4 #[.slice a0 len0 cap0, .slice a9 len9 cap9] w fun e w' => e = .returned (.bool true) ∧ Below w.heap.size w w' := by
  have hl0 : len0 ≤ 9223372036854775807 := Nat.le_trans h.1 h.2.1
  have hl9 : len9 ≤ 9223372036854775807 := Nat.le_trans h9.1 h9.2.1
  clear h9
  by_cases hbig : 1048576 < len0
  · have hb1 : (1048576 : Int) < (len0 : Int) := by omega
    go_enter Try.func4, Try.ntmps4
    go_wp2
    go_ret
    exact ⟨rfl, Below.refl _ _⟩
  · have hb1 : ¬ (1048576 : Int) < (len0 : Int) := by omega
    by_cases hbig9 : 1048576 < len9
    · have hb9 : (1048576 : Int) < (len9 : Int) := by omega
      go_enter Try.func4, Try.ntmps4
      go_wp2
      go_ret
      exact ⟨rfl, Below.refl _ _⟩
    · have hb9 : ¬ (1048576 : Int) < (len9 : Int) := by omega
      go_enter Try.func4, Try.ntmps4
      go_wp2_with fail
      refine (hd w a0 len0 cap0 h).mono ?_
      rintro e w1 ⟨s, sh, a, cap, ts, x, rfl, T1, l4, sz, B1⟩
      have hl : ts.length ≤ 2000000 := by omega
      have hs : s.size ≤ maxLen := by unfold maxLen; omega
      obtain ⟨r, hr⟩ := tr_dec ts
      have HR : Hid (r = true ↔ TrOk ts) := hr
      have K := LZ.made (s := s) (sh := sh) (n := ts.length) (cap := cap) T1 B1 25
      have bw : w.heap.size ≤ w1.heap.size := B1.size
      have ln := ztz_len2 s sh ts r x
      have lm : (ztz s sh ts r x).length ≤ 4000000 := by omega
      clear hr T1 B1
      go_wp2_with fail
      generalize w1.alloc (.cells #[.string s, .int .i64 sh, .slice a ts.length cap] 25) = W1 at K ⊢
      refine (implZoneTimes s sh a cap ts x _ K.t hl hs r HR.out).mono ?_
      rintro e w2 ⟨v, rfl, O, b2⟩
      replace K := K.on b2
      obtain ⟨av, cv, rfl, _⟩ := O.val
      clear b2
      go_wp2_with fail
      refine (specZoneTimes s sh a cap ts x _ K.t hl hs r HR.out).mono ?_
      rintro e w3 ⟨v3, rfl, O3, b3⟩
      replace K := K.on b3
      replace O := O.below b3
      obtain ⟨a3, c3, rfl, I3, _⟩ := O3.val
      clear b3 O3
      go_wp2_with fail
      refine (lawEpInts av a3 cv c3 (ztz s sh ts r x) _ O.ints I3 lm).mono ?_
      rintro e w4 ⟨rfl, b4⟩
      replace K := K.on b4
      replace O := O.below b4
      clear b4 I3
      cases hz : znB s sh r with
      | false =>
        have HZ : Hid (znB s sh r = false) := hz
        clear hz
        go_wp2_with fail
        refine (specZoneOk s sh a cap ts _ K.t hl hs r HR.out).mono ?_
        rintro e w5 ⟨rfl, b5⟩
        rw [HZ.out]
        replace K := K.on b5
        replace O := O.below b5
        clear b5
        go_wp2_with fail
        refine (specZoneTimes s sh a cap ts x _ K.t hl hs r HR.out).mono ?_
        rintro e w6 ⟨v6, rfl, O6, b6⟩
        replace K := K.on b6
        replace O := O.below b6
        obtain ⟨a6, c6, rfl, I6, _⟩ := O6.val
        clear b6 O6
        go_wp2_with fail
        refine (lawEpInts av a6 cv c6 (ztz s sh ts r x) _ O.ints I6 lm).mono ?_
        rintro e w7 ⟨rfl, b7⟩
        replace K := K.on b7
        clear b7 I6 O
        go_wp2
        go_ret
        exact ⟨ret_b (by simp), K.b⟩
      | true =>
        have HZ : Hid (znB s sh r = true) := hz
        by_cases x0 : x < 0
        · clear hz
          go_wp2_with fail
          refine (specZoneOk s sh a cap ts _ K.t hl hs r HR.out).mono ?_
          rintro e w5 ⟨rfl, b5⟩
          rw [HZ.out]
          replace K := K.on b5
          replace O := O.below b5
          clear b5
          go_wp2_with fail
          refine (specZoneTimes s sh a cap ts x _ K.t hl hs r HR.out).mono ?_
          rintro e w6 ⟨v6, rfl, O6, b6⟩
          replace K := K.on b6
          replace O := O.below b6
          obtain ⟨a6, c6, rfl, I6, _⟩ := O6.val
          clear b6 O6
          go_wp2_with fail
          refine (lawEpInts av a6 cv c6 (ztz s sh ts r x) _ O.ints I6 lm).mono ?_
          rintro e w7 ⟨rfl, b7⟩
          replace K := K.on b7
          clear b7 I6 O
          go_wp2
          go_ret
          exact ⟨ret_b (by simp), K.b⟩
        · by_cases x1 : 5258964959 < x
          · clear hz
            go_wp2_with fail
            refine (specZoneOk s sh a cap ts _ K.t hl hs r HR.out).mono ?_
            rintro e w5 ⟨rfl, b5⟩
            rw [HZ.out]
            replace K := K.on b5
            replace O := O.below b5
            clear b5
            go_wp2_with fail
            refine (specZoneTimes s sh a cap ts x _ K.t hl hs r HR.out).mono ?_
            rintro e w6 ⟨v6, rfl, O6, b6⟩
            replace K := K.on b6
            replace O := O.below b6
            obtain ⟨a6, c6, rfl, I6, _⟩ := O6.val
            clear b6 O6
            go_wp2_with fail
            refine (lawEpInts av a6 cv c6 (ztz s sh ts r x) _ O.ints I6 lm).mono ?_
            rintro e w7 ⟨rfl, b7⟩
            replace K := K.on b7
            clear b7 I6 O
            go_wp2
            go_ret
            exact ⟨ret_b (by simp), K.b⟩
          · have ht : tiB x = true := (ti_iff _).2 (by omega)
            obtain ⟨ok, sb⟩ := zn_parts hz HR.out
            have hv : ztz s sh ts r x = ztl sh ts x (ts.length + 1) := if_pos ⟨hz, ht⟩
            have asc := ztl_lt (sh := sh) (loc := x) ok (ts.length + 1) (Nat.le_refl _)
            have OK : Hid (TrOk ts) := ok
            have ASC : Hid ((ztl sh ts x (ts.length + 1)).Pairwise (· < ·)) := asc
            rw [hv] at O lm ⊢
            have bds : ∀ i, i < (ztl sh ts x (ts.length + 1)).length → 0 ≤ gi (ztl sh ts x (ts.length + 1)) i ∧ gi (ztl sh ts x (ts.length + 1)) i ≤ 5258964959 := fun i hi => (ti_iff _).1 (ztl_bd sb ok (Nat.le_refl _) (gi_mem hi))
            have HBD : Hid (∀ i, i < (ztl sh ts x (ts.length + 1)).length → 0 ≤ gi (ztl sh ts x (ts.length + 1)) i ∧ gi (ztl sh ts x (ts.length + 1)) i ≤ 5258964959) := bds
            have SHW : Hid (∀ i, i < (ztl sh ts x (ts.length + 1)).length → ∃ k, Leg ts (gi (ztl sh ts x (ts.length + 1)) i) k ∧ zlo s sh ts r (gi (ztl sh ts x (ts.length + 1)) i) k = x) := fun i hi => by
              obtain ⟨tq, kq, lq, sq⟩ := ztl_shows (sh := sh) (loc := x) ok (gi_mem hi)
              exact ⟨kq, lq, (if_pos ⟨hz, tq⟩ : zlo s sh ts r _ kq = _).trans sq⟩
            have TLD : Hid (∀ (y : Int) (k : Nat), tiB y = true → Leg ts y k → zlo s sh ts r y k = x → y ∈ ztl sh ts x (ts.length + 1)) := fun y k ty ky e => by
              have e2 : zlo s sh ts r y k = y + lsh sh ts k := if_pos ⟨hz, ty⟩
              rw [← e, e2]; exact ztl_told ok ty ky
            have INC : Hid (∀ i, i + 1 < (ztl sh ts x (ts.length + 1)).length → gi (ztl sh ts x (ts.length + 1)) i < gi (ztl sh ts x (ts.length + 1)) (i + 1)) := fun i hi => by
              rw [gi_get (by omega), gi_get hi]
              exact List.pairwise_iff_getElem.1 asc i (i + 1) (by omega) hi (by omega)
            generalize ztl sh ts x (ts.length + 1) = l at O lm HBD SHW TLD INC ⊢
            clear hz ok hv asc bds ASC
            go_wp2_with fail
            refine (specZoneOk s sh a cap ts _ K.t hl hs r HR.out).mono ?_
            rintro e w5 ⟨rfl, b5⟩
            rw [HZ.out]
            replace K := K.on b5
            replace O := O.below b5
            clear b5
            go_wp2
            go_loopw [8] (fun i wr => ∃ k : Nat, k ≤ l.length ∧ i = .int .i64 k ∧ LZ w w1.heap.size (.string s) (.int .i64 sh) (.slice a ts.length cap) a ts wr ∧ IsInts wr av l) (fun i _ => l.length - (intOf i).toNat)
            case atStart => exact ⟨0, by omega, rfl, K, O.ints⟩
            case round =>
              clear K O
              obtain ⟨i, hi, rfl, K, I⟩ := hrel
              have HI : Hid (IsInts wr av l) := I
              by_cases hlt : i < l.length
              · rcases I with I | ⟨b, off, rfl, hbs, hc⟩
                · rw [I] at hlt; simp at hlt
                have hi1 : (i : Int) < (l.length : Int) := by omega
                have hi0 : (0 : Int) ≤ (i : Int) := by omega
                have e0 : wr.cell? ⟨b, off + i, none⟩ = some (.int .i64 (gi l i)) := hc i hlt
                obtain ⟨kq, lq, sq⟩ := SHW.out i hlt
                have LQ : Hid (Leg ts (gi l i) kq) := lq
                have SQ : Hid (zlo s sh ts r (gi l i) kq = x) := sq
                clear lq sq
                by_cases hi9 : i = 0
                · subst hi9
                  simp only [Nat.add_zero] at e0
                  have z0 : ¬ (0 : Int) < ((0 : Nat) : Int) := by omega
                  clear hc
                  go_wp2
                  have K6 : QZ w b off off off w1.heap.size (.int .i64 (gi l 0)) (.int .i64 (gi l 0)) (.string s) (.int .i64 sh) (.slice a ts.length cap) a ts l wr := ⟨e0, e0, K.1, K.2.1, K.2.2.1, K.t, HI.out, K.b⟩
                  refine wp_region_cls (fun w' => QZ w b off off off w1.heap.size (.int .i64 (gi l 0)) (.int .i64 (gi l 0)) (.string s) (.int .i64 sh) (.slice a ts.length cap) a ts l w') (by kernel_rfl) (by kernel_rfl) (QZ.on K6 (Below.refl _ _).drew) ?_
                  clear K6 K e0
                  repeat (first
                    | go_big_quiet_skip
                    | (go_big_quiet_want; go_big_quiet_op; go_big_quiet_on)
                    | (go_big_quiet_want
                       apply Exists.intro
                       refine ⟨fun w7 hC7 => ?_, ?_⟩
                       · (have hC8 := hC7
                          obtain ⟨e1, e2, c0, c1, c2, _, _, _⟩ := hC7
                          go_simp
                          first
                            | done
                            | rfl
                            | exact ⟨rfl, rfl⟩
                            | (refine (implZoneLocal s sh a cap ts (gi l 0) kq _ (QZ.t hC8) hl hs r HR.out LQ.out).mono ?_
                               rintro e w8 ⟨rfl, hb8⟩
                               rw [SQ.out]
                               have k8 := QZ.on hC8 hb8
                               exact ⟨rfl, k8.2⟩))
                       (go_simp; go_big_quiet_on)))
                  refine wpQuiet_nil ?_
                  intro w7 K7
                  go_wp2
                  go_roundw
                  case rel => exact ⟨0 + 1, by omega, by go_num, ⟨K7.2.2.1, K7.2.2.2.1, K7.2.2.2.2.1, K7.t, K7.2.2.2.2.2.2.2⟩, K7.2.2.2.2.2.2.1⟩
                  case measure => first | (simp [intOf]; done) | (simp [intOf]; omega)
                · obtain ⟨j, rfl⟩ : ∃ j, i = j + 1 := ⟨i - 1, by omega⟩
                  have e1 : wr.cell? ⟨b, off + j, none⟩ = some (.int .i64 (gi l j)) := hc j (by omega)
                  have inc := INC.out j hlt
                  have hd1 : decide (gi l (j + 1) ≤ gi l j) = false := by simp; omega
                  have b0 := HBD.out j (by omega)
                  have b1 := HBD.out (j + 1) hlt
                  have q2 := IntWalk.i64_in ((j : Int) + 1 - 1) (by omega)
                  have hj1 : (j : Int) < (l.length : Int) := by omega
                  have q3 := IntWalk.i64_in (j : Int) (by omega)
                  have q4 : (((j + 1 : Nat) : Int)) - 1 = (j : Int) := by omega
                  have q6 : ((j : Int) + 1) - 1 = (j : Int) := by omega
                  have hj0 : (0 : Int) ≤ (j : Int) := by omega
                  have K6 : QZ w b off (off + j) (off + (j + 1)) w1.heap.size (.int .i64 (gi l j)) (.int .i64 (gi l (j + 1))) (.string s) (.int .i64 sh) (.slice a ts.length cap) a ts l wr := ⟨e1, e0, K.1, K.2.1, K.2.2.1, K.t, HI.out, K.b⟩
                  clear hc
                  go_wp2
                  refine wp_region_cls (fun w' => QZ w b off (off + j) (off + (j + 1)) w1.heap.size (.int .i64 (gi l j)) (.int .i64 (gi l (j + 1))) (.string s) (.int .i64 sh) (.slice a ts.length cap) a ts l w') (by kernel_rfl) (by kernel_rfl) (QZ.on K6 (Below.refl _ _).drew) ?_
                  clear K6 K e0 e1
                  repeat (first
                    | go_big_quiet_skip
                    | (go_big_quiet_want; go_big_quiet_op; go_big_quiet_on)
                    | (go_big_quiet_want
                       apply Exists.intro
                       refine ⟨fun w7 hC7 => ?_, ?_⟩
                       · (have hC8 := hC7
                          obtain ⟨e1, e2, c0, c1, c2, _, _, _⟩ := hC7
                          go_simp
                          first
                            | done
                            | rfl
                            | exact ⟨rfl, rfl⟩
                            | (refine (implZoneLocal s sh a cap ts (gi l (j + 1)) kq _ (QZ.t hC8) hl hs r HR.out LQ.out).mono ?_
                               rintro e w8 ⟨rfl, hb8⟩
                               rw [SQ.out]
                               have k8 := QZ.on hC8 hb8
                               first | exact ⟨rfl, k8⟩ | exact ⟨rfl, k8.2⟩))
                       (go_simp; go_big_quiet_on)))
                  refine wpQuiet_nil ?_
                  intro w7 K7
                  go_wp2
                  go_roundw
                  case rel => exact ⟨j + 1 + 1, by omega, by go_num, ⟨K7.2.2.1, K7.2.2.2.1, K7.2.2.2.2.1, K7.t, K7.2.2.2.2.2.2.2⟩, K7.2.2.2.2.2.2.1⟩
                  case measure => first | (simp [intOf]; done) | (simp [intOf]; omega)
              · clear I
                by_cases a0' : x - (len9 : Int) * 10 < 0
                · go_wp2
                  go_ret
                  exact ⟨ret_b (by simp), K.b⟩
                · obtain ⟨kq, lq⟩ := Leg.ex ts (x - (len9 : Int) * 10)
                  have LQ : Hid (Leg ts (x - (len9 : Int) * 10) kq) := lq
                  clear lq
                  by_cases sq : zlo s sh ts r (x - (len9 : Int) * 10) kq = x
                  · have ty : tiB (x - (len9 : Int) * 10) = true := (ti_iff _).2 (by omega)
                    have TL : Hid (x - (len9 : Int) * 10 ∈ l) := TLD.out _ kq ty LQ.out sq
                    have SQ : Hid (zlo s sh ts r (x - (len9 : Int) * 10) kq = x) := sq
                    clear sq
                    go_wp2_with fail
                    refine (implZoneLocal s sh a cap ts _ kq _ K.t hl hs r HR.out LQ.out).mono ?_
                    rintro e w7 ⟨rfl, b7⟩
                    rw [SQ.out]
                    replace K := K.on b7
                    have I := HI.out.below b7
                    clear b7
                    go_wp2_with fail
                    refine (lawHas av cv l _ true ⟨fun _ => TL.out, fun _ => rfl⟩ _ I lm).mono ?_
                    rintro e w8 ⟨rfl, b8⟩
                    replace K := K.on b8
                    clear b8 I
                    go_wp2
                    go_ret
                    exact ⟨ret_b (by simp), K.b⟩
                  · have sq' : (zlo s sh ts r (x - (len9 : Int) * 10) kq != x) = true := by rw [bne_iff_ne]; exact sq
                    clear sq
                    go_wp2_with fail
                    refine (implZoneLocal s sh a cap ts _ kq _ K.t hl hs r HR.out LQ.out).mono ?_
                    rintro e w7 ⟨rfl, b7⟩
                    replace K := K.on b7
                    clear b7
                    go_wp2
                    go_ret
                    exact ⟨ret_b (by simp), K.b⟩
end Go.Proofs.Ytihklmbblbnihaa
