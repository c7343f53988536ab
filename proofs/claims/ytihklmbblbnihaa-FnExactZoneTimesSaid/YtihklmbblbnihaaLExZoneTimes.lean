/- FnExactZoneTimes: the law's own walk. -/
import Derived.Test.YtihklmbblbnihaaZKp
import Derived.Test.YtihklmbblbnihaaZEm
import Derived.Test.YtihklmbblbnihaaZw
namespace Go.Proofs.Ytihklmbblbnihaa
open Go.RowKit
set_option linter.unusedVariables false
theorem ztz_len (s : ByteArray) (sh : Int) (ts : List (Int × Int)) (r : Bool) (x : Int) : (ztz s sh ts r x).length ≤ ts.length + 1 := by
  unfold ztz; split
  · exact ztl_len _ _ _ _
  · simp
set_option maxRecDepth 100000 in
set_option maxHeartbeats 16000000 in
theorem lawExZoneTimes (s : ByteArray) (sh : Int) (a : Option Addr) (cap : Nat) (ts : List (Int × Int)) (x : Int) (w : World) (hs : s.size ≤ maxLen) (hn : ts.length ≤ maxLen) (h : IsTurns w a ts) (hx : (Lit.int .i64 x).wf = true) :
    Calls Try.prog 8 #[.agg #[.string s, .int .i64 sh, .slice a ts.length cap], .int .i64 x] w fun e w' => e = .returned (.bool true) ∧ Below w.heap.size w w' := by
  have hb0 := (Below.refl w.heap.size w).alloc (Nat.le_refl _) (.cells #[.string s, .int .i64 sh, .slice a ts.length cap] 40)
  have hsv : s.size ≤ 9223372036854775807 := hs
  have C0 := C3.new w (.string s) (.int .i64 sh) (.slice a ts.length cap) 40
  have T0 := h.below (B := 0) hb0
  go_enter Try.func8, Try.ntmps8
  go_wp2_with fail
  have HW : Hid ((w.alloc (.cells #[.string s, .int .i64 sh, .slice a ts.length cap] 40)).heap.size = w.heap.size + 1) := by simp [Hid]
  generalize w.alloc (.cells #[.string s, .int .i64 sh, .slice a ts.length cap] 40) = W0 at hb0 C0 T0 HW ⊢
  refine (lawSzZone s sh a cap ts.length _ hs hn).mono ?_
  rintro e w1 ⟨rfl, B1⟩
  by_cases hz : s.size + ts.length ≤ 1048576
  · have hv : szz s ts.length = 1048576 - (s.size : Int) - (ts.length : Int) := if_pos hz
    rw [hv]
    have hl : ts.length ≤ 2000000 := by omega
    obtain ⟨c0, c1, c2⟩ := C0.on B1
    obtain ⟨r, hr⟩ := tr_dec ts
    have HR : Hid (r = true ↔ TrOk ts) := hr
    have ln := ztz_len s sh ts r x
    clear hr hv
    go_wp2_with fail
    refine (lawToZone s sh a cap ts _ (T0.below (B := 0) B1) hl).mono ?_
    rintro e w2 ⟨g1, rfl, T2, b2⟩
    go_wp2_with fail
    refine (specZoneTimes s sh _ _ ts x _ T2 hl hs r HR.out).mono ?_
    rintro e w3 ⟨v0, rfl, O0, b3⟩
    have B3 := bstep B1 (bstep b2 b3)
    obtain ⟨a0, q0, rfl, _⟩ := O0.val
    clear c0 c1 c2 b2 b3 B1 T2
    obtain ⟨c0, c1, c2⟩ := C0.on B3
    go_wp2_with fail
    refine (lawToZoneS s sh a cap ts _ (T0.below (B := 0) B3) hl).mono ?_
    rintro e w4 ⟨g2, rfl, T4, b4, hg2, F4⟩
    have D := C3.new w4 (.string s) (.int .i64 sh) (.slice (some ⟨g2, 0, none⟩) ts.length ts.length) 25
    have b5 : Below w4.heap.size w4 (w4.alloc (.cells #[.string s, .int .i64 sh, .slice (some ⟨g2, 0, none⟩) ts.length ts.length] 25)) := (Below.refl _ _).alloc (Nat.le_refl _) _
    have sz5 : Hid ((w4.alloc (.cells #[.string s, .int .i64 sh, .slice (some ⟨g2, 0, none⟩) ts.length ts.length] 25)).heap.size = w4.heap.size + 1) := by simp [Hid]
    clear c0 c1 c2
    go_wp2_with fail
    generalize w4.alloc (.cells #[.string s, .int .i64 sh, .slice (some ⟨g2, 0, none⟩) ts.length ts.length] 25) = W5 at D b5 sz5 ⊢
    refine (implZoneTimes s sh _ _ ts x _ (T4.below (B := 0) b5) hl hs r HR.out).mono ?_
    rintro e w6 ⟨v1, rfl, O1, b6⟩
    have b46 := bstep b5 b6
    have B6 := bstep B3 (bstep b4 b46)
    have P0 := O0.below (bstep b4 b46)
    obtain ⟨a1, q1, rfl, _⟩ := O1.val
    have sz : w3.heap.size ≤ g2 ∧ g2 < w4.heap.size ∧ w4.heap.size < W5.heap.size := ⟨hg2, F4.lt, by rw [sz5.out]; omega⟩
    have lo0 : ∀ k, (Value.slice a0 (ztz s sh ts r x).length q0).ownBlock = some k → k < w3.heap.size := fun k hk => (O0.lt k hk).2
    have lo1 : ∀ k, (Value.slice a1 (ztz s sh ts r x).length q1).ownBlock = some k → W5.heap.size ≤ k := fun k hk => (O1.lt k hk).1
    have F6 := F4.below b46
    have T6 := T4.below (B := 0) b46
    have D6 := D.on b6
    have W0g : W0.heap.size ≤ g2 := Nat.le_trans B3.size hg2
    clear O0 T4 F4 D b4 b5 b6 b46 B3
    have HS : Hid (w3.heap.size ≤ g2 ∧ g2 < w4.heap.size ∧ w4.heap.size < W5.heap.size) := sz
    have HL0 : Hid (∀ k, (Value.slice a0 (ztz s sh ts r x).length q0).ownBlock = some k → k < w3.heap.size) := lo0
    have HL1 : Hid (∀ k, (Value.slice a1 (ztz s sh ts r x).length q1).ownBlock = some k → W5.heap.size ≤ k) := lo1
    clear sz lo0 lo1 hg2
    have lm : (ztz s sh ts r x).length ≤ 4000000 := by omega
    go_wp2_with fail
    refine (lawEqInts a1 a0 q1 q0 (ztz s sh ts r x) _ O1.ints P0.ints lm).mono ?_
    rintro e w7 ⟨rfl, b7⟩
    have B7 := bstep B6 b7
    have K : ZK w7 w.heap.size w4.heap.size (.string s) (.int .i64 sh) (.slice a ts.length cap) (.slice (some ⟨g2, 0, none⟩) ts.length ts.length) a (some ⟨g2, 0, none⟩) ts w7 := by
      obtain ⟨e0, e1, e2⟩ := C0.on B7
      obtain ⟨f0, f1, f2⟩ := D6.on b7
      exact ⟨e0, e1, e2, f0, f1, f2, T0.below (B := 0) B7, T6.below (B := 0) b7, Below.refl _ _⟩
    have P1 : Hid (OI w7 w2.heap.size (.slice a0 (ztz s sh ts r x).length q0) (ztz s sh ts r x) ∧ OI w7 W5.heap.size (.slice a1 (ztz s sh ts r x).length q1) (ztz s sh ts r x) ∧ FT w7 g2 ts.length) := ⟨P0.below b7, O1.below b7, F6.below b7⟩
    clear P0 O1 F6 T6 D6 b7 B6
    go_wp2
    go_region_held3 (fun w' => w'.cell? ⟨w.heap.size, 0, none⟩ = some (.string s) ∧ w'.cell? ⟨w.heap.size, 1, none⟩ = some (.int .i64 sh) ∧ w'.cell? ⟨w.heap.size, 2, none⟩ = some (.slice a ts.length cap) ∧ w'.cell? ⟨w4.heap.size, 0, none⟩ = some (.string s) ∧ w'.cell? ⟨w4.heap.size, 1, none⟩ = some (.int .i64 sh) ∧ w'.cell? ⟨w4.heap.size, 2, none⟩ = some (.slice (some ⟨g2, 0, none⟩) ts.length ts.length) ∧ IsTurns w' a ts ∧ IsTurns w' (some ⟨g2, 0, none⟩) ts ∧ Below w7.heap.size w7 w')
      (first | assumption | exact ZK.on K (Below.refl _ _).drew | exact ZK.on (by assumption) hb7)
      (first
        | (go_at_call 26; refine (lawToZone s sh a cap ts _ (ZK.t (by assumption)) hl).mono ?_; rintro e w8 ⟨g3, rfl, T7, hb7⟩)
        | (go_at_call 28; refine (lawEqZone s sh _ _ _ _ ts _ (ZK.t' (by assumption)) T7 hl).mono ?_; rintro e w9 ⟨rfl, hb7⟩))
    have K9 : ZK w7 w.heap.size w4.heap.size (.string s) (.int .i64 sh) (.slice a ts.length cap) (.slice (some ⟨g2, 0, none⟩) ts.length ts.length) a (some ⟨g2, 0, none⟩) ts w9 := by assumption
    obtain ⟨p0, p1, pf⟩ := P1.out
    have B9 := bstep B7 K9.b
    have Q0 := p0.below K9.b
    have Q1 := p1.below K9.b
    have F9 := pf.below K9.b
    have d0 := K9.2.2.2.1
    have d1 := K9.2.2.2.2.1
    have d2 := K9.2.2.2.2.2.1
    clear p0 p1 pf P1 B7 K K9 T7 hb7
    go_wp2_with fail
    refine (lawMarkZone s sh g2 ts.length ts.length 1 _ F9 hl (by omega) (by omega)).mono ?_
    rintro e w10 ⟨rfl, G10⟩
    have B10 := B9.trans (grown_below G10 B9.size (fun k hk => by cases hk; exact W0g))
    have R0 := Q0.grown G10 (fun k hk e => by cases e; have := HL0.out _ hk; have := HS.out; omega)
    have R1 := Q1.grown G10 (fun k hk e => by cases e; have := HL1.out _ hk; have := HS.out; omega)
    clear Q0 Q1 F9 G10 B9 d0 d1 d2
    have k10 : ¬ (1 + 2 * (ts.length : Int) < 0) := by omega
    go_wp2_with fail
    refine (lawEqInts a1 a0 q1 q0 (ztz s sh ts r x) _ R1.ints R0.ints lm).mono ?_
    rintro e w11 ⟨rfl, b11⟩
    have B11 := bstep B10 b11
    have S0 := R0.below b11
    have S1 := R1.below b11
    clear R0 R1 b11 B10
    go_wp2_with fail
    refine (lawMarkInts W5.heap.size _ (ztz s sh ts r x) 1 _ S1 lm (by omega) (by omega)).mono ?_
    rintro e w12 ⟨rfl, M12, G12⟩
    have B12 := B11.trans (grown_below G12 B11.size (fun k hk => by have := HL1.out k hk; have := HS.out; omega))
    have U0 := S0.grown G12 (fun k hk e => by have := HL0.out k hk; have := HL1.out k e.symm; have := HS.out; omega)
    clear S0 S1 G12 B11
    go_wp2_with fail
    refine (lawHeldInts a1 q1 (ztz s sh ts r x).length 1 _ M12.ints lm (by omega) (by omega)).mono ?_
    rintro e w13 ⟨rfl, b13⟩
    have B13 := bstep B12 b13
    have V0 := U0.below b13
    have M13 := M12.below b13
    clear U0 M12 b13 B12
    obtain ⟨c0, c1, c2⟩ := C0.on B13
    go_wp2_with fail
    refine (lawToZone s sh a cap ts _ (T0.below (B := 0) B13) hl).mono ?_
    rintro e w14 ⟨g4, rfl, T14, b14⟩
    clear c0 c1 c2
    go_wp2_with fail
    refine (implZoneTimes s sh _ _ ts x _ T14 hl hs r HR.out).mono ?_
    rintro e w15 ⟨v2, rfl, O2, b15⟩
    have b135 := bstep b14 b15
    have B15 := bstep B13 b135
    have X0 := V0.below b135
    have M15 := M13.below b135
    obtain ⟨a2, q2, rfl, I2, _⟩ := O2.val
    clear V0 M13 b14 b15 b135 B13 T14 O2
    go_wp2_with fail
    refine (lawEqInts a2 a0 q2 q0 (ztz s sh ts r x) _ I2 X0.ints lm).mono ?_
    rintro e w16 ⟨rfl, b16⟩
    have B16 := bstep B15 b16
    have M16 := M15.below b16
    clear X0 M15 b16 B15 I2
    go_wp2_with fail
    refine (lawHeldInts a1 q1 (ztz s sh ts r x).length 1 _ M16.ints lm (by omega) (by omega)).mono ?_
    rintro e w17 ⟨rfl, b17⟩
    have B17 := bstep B16 b17
    clear M16 b17 B16
    go_wp2
    go_ret
    exact ⟨rfl, hb0.trans (B17.mono hb0.size)⟩
  · have hv : szz s ts.length = -1 := if_neg hz
    rw [hv]
    go_wp2
    go_ret
    exact ⟨rfl, hb0.trans (B1.mono hb0.size)⟩
end Go.Proofs.Ytihklmbblbnihaa
