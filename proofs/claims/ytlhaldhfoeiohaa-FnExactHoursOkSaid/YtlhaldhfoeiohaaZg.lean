/- Lists of zones: none that is not ok, and all together, as the program says it. -/
import Derived.Test.YtlhaldhfoeiohaaZi
namespace Go.Proofs.Ytlhaldhfoeiohaa
open Go.RowKit
set_option linter.unusedVariables false
/-- Each is ok. -/
def AllOk (zs : List ZR) : Prop := ∀ i, i < zs.length → zOk (zAt zs i) = true
set_option maxRecDepth 100000 in
set_option maxHeartbeats 8000000 in
theorem implIndexNo (a : Option Addr) (cap : Nat) (zs : List ZR) (w : World) (h : IsZones w a zs) (hl : ZSmall zs) :
    Calls Try.prog 31 #[.slice a zs.length cap, .func (.func 30) #[] #[]] w fun e w' => (∃ n : Int, e = .returned (.int .i64 n) ∧ (0 ≤ n ↔ ¬ AllOk zs)) ∧ Below w.heap.size w w' := by
  have HZ : Hid (IsZones w a zs) := h
  have HL : Hid (ZSmall zs) := hl
  have hln := hl.1
  clear h hl
  go_enter Try.func31, Try.ntmps31
  go_wp2
  go_loopw [5, 8] (fun _ i wr => ∃ k : Nat, k ≤ zs.length ∧ i = .int .i64 k ∧ (∀ j, j < k → zOk (zAt zs j) = true) ∧ Below w.heap.size w wr) (fun _ i _ => zs.length - (intOf i).toNat)
  case atStart => exact ⟨0, by omega, rfl, fun j h => by omega, Below.refl _ _⟩
  case round =>
    obtain ⟨k, hk, rfl, ha, hb⟩ := hrel
    have HA : Hid (∀ j, j < k → zOk (zAt zs j) = true) := ha
    clear ha
    by_cases hlt : k < zs.length
    · have G1 := HZ.out.below hb
      rcases G1 with G1 | ⟨b, o, rfl, hbs, hc⟩
      · rw [G1] at hlt; simp at hlt
      obtain ⟨za, zc, c0, c1, c2, t1⟩ := hc k hlt
      have hl2 : (zAt zs k).ts.length ≤ 2000000 := by have := (HL.out.2 k hlt).2; omega
      have hs2 : (zAt zs k).s.size ≤ maxLen := by have := (HL.out.2 k hlt).1; unfold maxLen; omega
      have HT : Hid (IsTurns wr za (zAt zs k).ts) := t1
      clear t1 hc
      go_wp2_with fail
      with_reducible refine (implIsNoZone (zAt zs k) _ _ _ HT.out hl2 hs2).mono ?_
      rintro e w7 ⟨rfl, b7⟩
      have B7 := bstep hb b7
      clear hb b7 c0 c1 c2 HT
      cases hg : zOk (zAt zs k) with
      | true =>
        have HQ : Hid (∀ j, j < k + 1 → zOk (zAt zs j) = true) := fun j hj => by
          by_cases e : j = k
          · subst e; exact hg
          · exact HA.out j (by omega)
        clear hg
        go_wp2
        go_roundw
        case rel => exact ⟨k + 1, by omega, by go_num, HQ.out, B7⟩
        case measure => simp [intOf]; omega
      | false =>
        have HN : Hid (¬ AllOk zs) := fun hh => by have := hh k hlt; rw [hg] at this; cases this
        clear hg
        go_wp2
        go_ret
        refine ⟨⟨(k : Int), rfl, ?_⟩, B7⟩
        have q := HN.out
        exact ⟨fun _ => q, fun _ => by omega⟩
    · have HQ : Hid (AllOk zs) := fun i hi => HA.out i (by omega)
      have hi2 : ¬ (k : Int) < (zs.length : Int) := by omega
      go_wp2
      go_ret
      refine ⟨⟨-1, rfl, ?_⟩, hb⟩
      have q := HQ.out
      exact ⟨fun h => absurd h (by decide), fun h => absurd q h⟩
theorem implContainsNo (a : Option Addr) (cap : Nat) (zs : List ZR) (w : World) (h : IsZones w a zs) (hl : ZSmall zs) :
    Calls Try.prog 29 #[.slice a zs.length cap, .func (.func 30) #[] #[]] w fun e w' => (∃ r : Bool, e = .returned (.bool r) ∧ (r = false ↔ AllOk zs)) ∧ Below w.heap.size w w' := by
  have HZ : Hid (IsZones w a zs) := h
  have HL : Hid (ZSmall zs) := hl
  clear h hl
  go_enter Try.func29, Try.ntmps29
  go_wp2_with fail
  with_reducible refine (implIndexNo _ _ _ _ HZ.out HL.out).mono ?_
  rintro e w7 ⟨⟨n, rfl, hn⟩, b7⟩
  have HN : Hid (0 ≤ n ↔ ¬ AllOk zs) := hn
  clear hn
  by_cases h0 : 0 ≤ n
  · have q := HN.out.1 h0
    have HQ : Hid (¬ AllOk zs) := q
    clear HN q
    go_wp2
    go_ret
    refine ⟨⟨true, rfl, ?_⟩, b7⟩
    exact ⟨fun h => Bool.noConfusion h, fun h => absurd h HQ.out⟩
  · have q : AllOk zs := Classical.byContradiction fun hx => h0 (HN.out.2 hx)
    have HQ : Hid (AllOk zs) := q
    clear HN q
    go_wp2
    go_ret
    refine ⟨⟨false, ret_b (decide_eq_false (by omega)), ?_⟩, b7⟩
    exact ⟨fun _ => HQ.out, fun _ => rfl⟩
theorem zsOk_parts (zs : List ZR) : ZsOk zs ↔ zs.length ≤ 6 ∧ Asc zs ∧ AllOk zs := by
  unfold ZsOk zStep Asc AllOk
  constructor
  · rintro ⟨h1, h2⟩
    exact ⟨h1, fun i hi => by simpa using (h2 (i + 1) hi).2 (by omega), fun i hi => (h2 i hi).1⟩
  · rintro ⟨h1, h2, h3⟩
    refine ⟨h1, fun i hi => ⟨h3 i hi, fun h0 => ?_⟩⟩
    have := h2 (i - 1) (by omega)
    rw [show i - 1 + 1 = i by omega] at this
    exact this
theorem asc_dec (zs : List ZR) : ∃ r : Bool, r = true ↔ Asc zs := ⟨(List.range (zs.length - 1)).all fun i => geS (zAt zs i).s (zAt zs (i + 1)).s == false, by
  unfold Asc
  simp only [List.all_eq_true, List.mem_range, beq_iff_eq]
  exact ⟨fun h i hi => h i (by omega), fun h i hi => h i (by omega)⟩⟩
set_option maxHeartbeats 4000000 in
theorem implZonesOk (a : Option Addr) (cap : Nat) (zs : List ZR) (w : World) (h : IsZones w a zs) (hl : ZSmall zs) (r : Bool) (hr : r = true ↔ ZsOk zs) :
    Calls Try.prog 19 #[.slice a zs.length cap] w fun e w' => e = .returned (.bool r) ∧ Below w.heap.size w w' := by
  have HZ : Hid (IsZones w a zs) := h
  have HL : Hid (ZSmall zs) := hl
  have HR : Hid (r = true ↔ zs.length ≤ 6 ∧ Asc zs ∧ AllOk zs) := hr.trans (zsOk_parts zs)
  have NO : Hid (¬ (zs.length ≤ 6 ∧ Asc zs ∧ AllOk zs) → r = false) := fun hn => by
    cases hrr : r with
    | false => rfl
    | true => exact absurd (HR.out.1 hrr) hn
  have hln := hl.1
  obtain ⟨q, hq⟩ := asc_dec zs
  clear h hl hr
  by_cases h6 : zs.length ≤ 6
  · have h6i : (zs.length : Int) ≤ 6 := by omega
    go_enter Try.func19, Try.ntmps19
    go_wp2_with fail
    with_reducible refine (implAscends _ _ _ _ HZ.out HL.out q hq).mono ?_
    rintro e w1 ⟨rfl, b1⟩
    cases q with
    | false =>
      have HV : Hid (r = false) := NO.out (fun hh => by have := hq.2 hh.2.1; cases this)
      clear hq
      go_wp2
      go_ret
      exact ⟨ret_b HV.out.symm, b1⟩
    | true =>
      have ha := hq.1 rfl
      have HAS : Hid (Asc zs) := ha
      clear ha hq
      go_wp2_with fail
      with_reducible refine (implContainsNo _ _ _ _ (HZ.out.below b1) HL.out).mono ?_
      rintro e w2 ⟨⟨c, rfl, hc⟩, b2⟩
      have B2 := bstep b1 b2
      cases c with
      | true =>
        have HV : Hid (r = false) := NO.out (fun hh => by have := hc.2 hh.2.2; cases this)
        clear hc
        go_wp2
        go_ret
        exact ⟨ret_b HV.out.symm, B2⟩
      | false =>
        have HV : Hid (r = true) := HR.out.2 ⟨h6, HAS.out, hc.1 rfl⟩
        clear hc
        go_wp2
        go_ret
        exact ⟨ret_b HV.out.symm, B2⟩
  · have h6i : ¬ (zs.length : Int) ≤ 6 := by omega
    have HV : Hid (r = false) := NO.out (fun hh => h6 hh.1)
    clear hq
    go_enter Try.func19, Try.ntmps19
    go_wp2
    go_ret
    exact ⟨ret_b HV.out.symm, Below.refl _ _⟩
end Go.Proofs.Ytlhaldhfoeiohaa
