/- FnZoneBack: the law's own walk. -/
import Derived.Test.YtihklmbblbnihaaZy
import Derived.Test.YtihklmbblbnihaaZx
import Derived.Test.YtihklmbblbnihaaDzD
import Derived.Test.YtihklmbblbnihaaZKp
namespace Go.Proofs.Ytihklmbblbnihaa
open Go.RowKit
set_option linter.unusedVariables false
set_option maxRecDepth 100000 in
set_option maxHeartbeats 16000000 in
theorem lawZoneBack' (hd : ∀ (w : World) (a : Option Addr) (len cap : Nat), IsCode w a len cap → Calls Try.prog 10 #[.slice a len cap] w fun e w' => DrewZ w e w') (a0 : Option Addr) (len0 cap0 : Nat) (w : World) (h : IsCode w a0 len0 cap0) :
    Calls Try.prog 6 #[.slice a0 len0 cap0] w fun e w' => e = .returned (.bool true) ∧ Below w.heap.size w w' := by
  have hl0 : len0 ≤ 9223372036854775807 := Nat.le_trans h.1 h.2.1
  by_cases hbig : 1048576 < len0
  · have hb1 : (1048576 : Int) < (len0 : Int) := by omega
    go_enter Try.func6, Try.ntmps6
    go_wp2
    go_ret
    exact ⟨rfl, Below.refl _ _⟩
  · have hb1 : ¬ (1048576 : Int) < (len0 : Int) := by omega
    go_enter Try.func6, Try.ntmps6
    go_wp2_with fail
    refine (hd w a0 len0 cap0 h).mono ?_
    rintro e w1 ⟨s, sh, a, cap, ts, x, rfl, T1, l4, sz, B1⟩
    have hl : ts.length ≤ 2000000 := by omega
    have hs : s.size ≤ maxLen := by unfold maxLen; omega
    obtain ⟨r, hr⟩ := tr_dec ts
    have HR : Hid (r = true ↔ TrOk ts) := hr
    obtain ⟨k, hk⟩ := Leg.ex ts x
    have HK : Hid (Leg ts x k) := hk
    have K := LZ.made (s := s) (sh := sh) (n := ts.length) (cap := cap) T1 B1 25
    clear hr hk T1 B1
    have hneq : ∀ y : Int, (y != y) = false := fun y => by simp
    go_wp2_with fail
    generalize w1.alloc (.cells #[.string s, .int .i64 sh, .slice a ts.length cap] 25) = W1 at K ⊢
    refine (implZoneLocal s sh a cap ts x k _ K.t hl hs r HR.out HK.out).mono ?_
    rintro e w2 ⟨rfl, b2⟩
    replace K := K.on b2
    clear b2
    go_wp2_with fail
    refine (specZoneLocal s sh a cap ts x k _ K.t hl hs r HR.out HK.out).mono ?_
    rintro e w3 ⟨rfl, b3⟩
    replace K := K.on b3
    clear b3
    cases hz : znB s sh r with
    | false =>
      have HZ : Hid (znB s sh r = false) := hz
      clear hz
      go_wp2_with fail
      refine (specZoneOk s sh a cap ts _ K.t hl hs r HR.out).mono ?_
      rintro e w4 ⟨rfl, b4⟩
      rw [HZ.out]
      replace K := K.on b4
      clear b4
      go_wp2_with fail
      refine (specZoneLocal s sh a cap ts x k _ K.t hl hs r HR.out HK.out).mono ?_
      rintro e w5 ⟨rfl, b5⟩
      replace K := K.on b5
      clear b5
      go_wp2
      go_ret
      exact ⟨ret_b (by simp), K.b⟩
    | true =>
      have HZ : Hid (znB s sh r = true) := hz
      by_cases x0 : x < 0
      · clear hz
        go_wp2_with fail
        refine (specZoneOk s sh a cap ts _ K.t hl hs r HR.out).mono ?_
        rintro e w4 ⟨rfl, b4⟩
        rw [HZ.out]
        replace K := K.on b4
        clear b4
        go_wp2_with fail
        refine (specZoneLocal s sh a cap ts x k _ K.t hl hs r HR.out HK.out).mono ?_
        rintro e w5 ⟨rfl, b5⟩
        replace K := K.on b5
        clear b5
        go_wp2
        go_ret
        exact ⟨ret_b (by simp), K.b⟩
      · by_cases x1 : 5258964959 < x
        · clear hz
          go_wp2_with fail
          refine (specZoneOk s sh a cap ts _ K.t hl hs r HR.out).mono ?_
          rintro e w4 ⟨rfl, b4⟩
          rw [HZ.out]
          replace K := K.on b4
          clear b4
          go_wp2_with fail
          refine (specZoneLocal s sh a cap ts x k _ K.t hl hs r HR.out HK.out).mono ?_
          rintro e w5 ⟨rfl, b5⟩
          replace K := K.on b5
          clear b5
          go_wp2
          go_ret
          exact ⟨ret_b (by simp), K.b⟩
        · have ht : tiB x = true := (ti_iff _).2 (by omega)
          have hv : zlo s sh ts r x k = x + lsh sh ts k := if_pos ⟨hz, ht⟩
          obtain ⟨ok, sb⟩ := zn_parts hz HR.out
          have OK : Hid (TrOk ts) := ok
          have lb := lsh_in sb ok k HK.out.1
          rw [hv]
          clear hz ok
          by_cases n0 : x + lsh sh ts k < 0
          · go_wp2_with fail
            refine (specZoneOk s sh a cap ts _ K.t hl hs r HR.out).mono ?_
            rintro e w4 ⟨rfl, b4⟩
            rw [HZ.out]
            replace K := K.on b4
            clear b4
            go_wp2_with fail
            refine (specZoneLocal s sh a cap ts x k _ K.t hl hs r HR.out HK.out).mono ?_
            rintro e w5 ⟨rfl, b5⟩
            rw [hv]
            replace K := K.on b5
            clear b5
            go_wp2
            go_ret
            exact ⟨ret_b (by simp), K.b⟩
          · by_cases n1 : 5258964959 < x + lsh sh ts k
            · go_wp2_with fail
              refine (specZoneOk s sh a cap ts _ K.t hl hs r HR.out).mono ?_
              rintro e w4 ⟨rfl, b4⟩
              rw [HZ.out]
              replace K := K.on b4
              clear b4
              go_wp2_with fail
              refine (specZoneLocal s sh a cap ts x k _ K.t hl hs r HR.out HK.out).mono ?_
              rintro e w5 ⟨rfl, b5⟩
              rw [hv]
              replace K := K.on b5
              clear b5
              go_wp2
              go_ret
              exact ⟨ret_b (by simp), K.b⟩
            · have told := ztl_told (sh := sh) OK.out ht HK.out
              have tn : tiB (x + lsh sh ts k) = true := (ti_iff _).2 (by omega)
              obtain ⟨q, hq⟩ := ZW.ex sh ts (x + lsh sh ts k)
              have HQ : Hid (ZW sh ts (x + lsh sh ts k) q) := hq
              have hqq : ∃ l, ztl sh ts (x + lsh sh ts k) (ts.length + 1) = q :: l := by
                rcases hq with h | ⟨e, _⟩
                · exact h
                · rw [e] at told; cases told
              obtain ⟨l, el⟩ := hqq
              have qx := ztl_head OK.out el told
              obtain ⟨tq, kq, lq, sq⟩ := ztl_shows (x := q) OK.out (by rw [el]; simp)
              have qb := (ti_iff _).1 tq
              have hz := HZ.out
              have hvq : zlo s sh ts r q kq = x + lsh sh ts k := by rw [← sq]; exact if_pos ⟨hz, tq⟩
              have hvw : zwz s sh r (x + lsh sh ts k) q = q := if_pos ⟨hz, tn⟩
              have hvt : ztz s sh ts r (x + lsh sh ts k) = ztl sh ts (x + lsh sh ts k) (ts.length + 1) := if_pos ⟨hz, tn⟩
              have HVQ : Hid (zlo s sh ts r q kq = x + lsh sh ts k) := hvq
              have HVW : Hid (zwz s sh r (x + lsh sh ts k) q = q) := hvw
              have HVT : Hid (ztz s sh ts r (x + lsh sh ts k) = ztl sh ts (x + lsh sh ts k) (ts.length + 1)) := hvt
              have LQ : Hid (Leg ts q kq) := lq
              have TOLD : Hid (x ∈ ztl sh ts (x + lsh sh ts k) (ts.length + 1)) := told
              have ll := ztl_len sh ts (x + lsh sh ts k) (ts.length + 1)
              clear hq el hz hvq hvw hvt lq sq told hv
              go_wp2_with fail
              refine (specZoneOk s sh a cap ts _ K.t hl hs r HR.out).mono ?_
              rintro e w4 ⟨rfl, b4⟩
              rw [HZ.out]
              replace K := K.on b4
              clear b4
              go_wp2_with fail
              refine (implZoneWorld s sh a cap ts _ q _ K.t hl hs r HR.out HQ).mono ?_
              rintro e w5 ⟨rfl, b5⟩
              rw [HVW.out]
              replace K := K.on b5
              clear b5
              go_wp2_with fail
              refine (implZoneLocal s sh a cap ts q kq _ K.t hl hs r HR.out LQ.out).mono ?_
              rintro e w6 ⟨rfl, b6⟩
              rw [HVQ.out]
              replace K := K.on b6
              clear b6
              go_wp2_with fail
              refine (implZoneTimes s sh a cap ts _ _ K.t hl hs r HR.out).mono ?_
              rintro e w7 ⟨v, rfl, O, b7⟩
              rw [HVT.out] at O
              replace K := K.on b7
              clear b7
              obtain ⟨a2, cap2, rfl, I, _, _⟩ := O.val
              clear O
              go_wp2_with fail
              refine (lawHas a2 cap2 _ x true ⟨fun _ => TOLD.out, fun _ => rfl⟩ _ I (by omega)).mono ?_
              rintro e w8 ⟨rfl, b8⟩
              replace K := K.on b8
              clear b8 I
              go_wp2
              go_ret
              exact ⟨ret_b (by simp), K.b⟩
end Go.Proofs.Ytihklmbblbnihaa
