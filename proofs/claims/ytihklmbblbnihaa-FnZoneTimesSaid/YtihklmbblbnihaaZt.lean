/- By how much a zone's clock is ahead. -/
import Derived.Test.YtihklmbblbnihaaZs
import Derived.Deep.RegionHeld3
namespace Go.Proofs.Ytihklmbblbnihaa
open Go.RowKit
set_option linter.unusedVariables false
/-- A time is on leg k: that many turns have been. -/
def Leg (ts : List (Int × Int)) (x : Int) (k : Nat) : Prop := k ≤ ts.length ∧ (∀ i, i < k → tAt ts i ≤ x) ∧ (k < ts.length → x < tAt ts k)
theorem Leg.uniq {ts : List (Int × Int)} {x : Int} {k j : Nat} (h : Leg ts x k) (h' : Leg ts x j) : k = j := by
  obtain ⟨a, b, c⟩ := h
  obtain ⟨a', b', c'⟩ := h'
  rcases Nat.lt_trichotomy k j with hl | hl | hl
  · have := b' k hl; have := c (by omega); omega
  · exact hl
  · have := b j hl; have := c' (by omega); omega
theorem Leg.ex (ts : List (Int × Int)) (x : Int) : ∃ k, Leg ts x k := by
  have aux : ∀ n, n ≤ ts.length → (∀ i, i < n → tAt ts i ≤ x) ∨ ∃ k, Leg ts x k := by
    intro n
    induction n with
    | zero => intro _; exact .inl fun i hi => by omega
    | succ n ih =>
      intro hn
      rcases ih (by omega) with h | h
      · by_cases hx : tAt ts n ≤ x
        · left; intro i hi
          by_cases hin : i = n
          · subst hin; exact hx
          · exact h i (by omega)
        · right; exact ⟨n, by omega, h, fun _ => by omega⟩
      · exact .inr h
  rcases aux ts.length (Nat.le_refl _) with h | h
  · exact ⟨ts.length, Nat.le_refl _, h, fun h => by omega⟩
  · exact h
/-- In turns that are ok all behind the leg are later. -/
theorem TrOk.mono {ts : List (Int × Int)} (h : TrOk ts) (i j : Nat) (hij : i ≤ j) (hj : j < ts.length) : tAt ts i ≤ tAt ts j := by
  have aux : ∀ n, i + n < ts.length → tAt ts i ≤ tAt ts (i + n) := by
    intro n
    induction n with
    | zero => intro _; exact Int.le_refl _
    | succ n ih =>
      intro hn
      have h1 := ih (by omega)
      have h2 := (h.2 (i + (n + 1)) hn).2.2 (by omega)
      have e : i + (n + 1) - 1 = i + n := by omega
      rw [e] at h2
      omega
  have := aux (j - i) (by omega)
  rwa [show i + (j - i) = j from by omega] at this
theorem Leg.past {ts : List (Int × Int)} {x : Int} {k : Nat} (h : Leg ts x k) (ok : TrOk ts) (i : Nat) (hi : k ≤ i) (hl : i < ts.length) : x < tAt ts i := by
  have := ok.mono k i hi hl
  have := h.2.2 (by omega)
  omega
def lsh (sh : Int) (ts : List (Int × Int)) (k : Nat) : Int := if k = 0 then sh else tSh ts (k - 1)
set_option maxHeartbeats 4000000 in
theorem implLeg (sh : Int) (a : Option Addr) (cap : Nat) (ts : List (Int × Int)) (x : Int) (k : Nat) (w : World) (h : IsTurns w a ts) (hl : ts.length ≤ 2000000) (hk : Leg ts x k) :
    Calls Try.prog 64 #[.agg #[.int .i64 sh, .slice a ts.length cap], .int .i64 x] w fun e w' => e = .returned (.int .i64 k) ∧ Below w.heap.size w w' := by
  have hb0 := (Below.refl w.heap.size w).alloc (Nat.le_refl _) (.cells #[.int .i64 sh, .slice a ts.length cap] 67)
  have HT : Hid (IsTurns w a ts) := h
  have HK : Hid (Leg ts x k) := hk
  have kl : k ≤ ts.length := hk.1
  clear h hk
  go_enter Try.func64, Try.ntmps64
  go_wp2
  go_loop [5] (fun i => ∃ j : Nat, j ≤ k ∧ i = .int .i64 j) (fun i => k - (intOf i).toNat)
  case atStart => exact ⟨0, by omega, rfl⟩
  case round =>
    obtain ⟨j, hj, rfl⟩ := hrel
    by_cases hlt : j < ts.length
    · have hi1 : (j : Int) < (ts.length : Int) := by omega
      have HT2 := HT.out
      rcases HT2 with HT2 | ⟨b, off, rfl, hbs, hc⟩
      · rw [HT2] at hlt; simp at hlt
      have c0 : w.cell? ⟨b, off + j * 2, none⟩ = some (.int .i64 (tAt ts j)) := (hc j hlt).1
      clear hc
      by_cases hjk : j < k
      · have hx : tAt ts j ≤ x := HK.out.2.1 j hjk
        go_wp2
        go_round
        case rel => exact ⟨j + 1, by omega, by go_num⟩
        case measure => simp [intOf]; omega
      · have hjj : j = k := by omega
        subst hjj
        have hx : ¬ tAt ts j ≤ x := by have := HK.out.2.2 hlt; omega
        go_wp2
        go_ret
        exact ⟨rfl, hb0⟩
    · have hjj : j = k := by omega
      subst hjj
      have hi1 : ¬ (j : Int) < (ts.length : Int) := by omega
      go_wp2
      go_ret
      exact ⟨rfl, hb0⟩
set_option maxHeartbeats 4000000 in
theorem implLegShift (sh : Int) (a : Option Addr) (cap : Nat) (ts : List (Int × Int)) (k : Nat) (w : World) (h : IsTurns w a ts) (hl : ts.length ≤ 2000000) (hk : k ≤ ts.length) :
    Calls Try.prog 63 #[.agg #[.int .i64 sh, .slice a ts.length cap], .int .i64 k] w fun e w' => e = .returned (.int .i64 (lsh sh ts k)) ∧ Below w.heap.size w w' := by
  have hb0 := (Below.refl w.heap.size w).alloc (Nat.le_refl _) (.cells #[.int .i64 sh, .slice a ts.length cap] 67)
  by_cases h0 : k = 0
  · subst h0
    have HL : Hid (lsh sh ts 0 = sh) := if_pos rfl
    clear h
    go_enter Try.func63, Try.ntmps63
    go_wp2
    go_ret
    exact ⟨ret_i HL.out.symm, hb0⟩
  · obtain ⟨j, rfl⟩ : ∃ j, k = j + 1 := ⟨k - 1, by omega⟩
    have HL : Hid (lsh sh ts (j + 1) = tSh ts j) := by unfold Hid lsh; rw [if_neg (by omega), Nat.add_sub_cancel]
    rcases h with h | ⟨b, off, rfl, hbs, hc⟩
    · rw [h] at hk; simp at hk
    have c1 : w.cell? ⟨b, off + j * 2 + 1, none⟩ = some (.int .i64 (tSh ts j)) := (hc j (by omega)).2
    clear hc
    have n0 : (((j + 1 : Nat) : Int) == 0) = false := by rw [beq_eq_false_iff_ne]; omega
    have n1 : (((j + 1 : Nat) : Int)) - 1 = (j : Int) := by omega
    have hi1 : (j : Int) < (ts.length : Int) := by omega
    go_enter Try.func63, Try.ntmps63
    go_wp2
    go_ret
    exact ⟨ret_i HL.out.symm, hb0⟩
set_option maxHeartbeats 4000000 in
theorem specShift (s : ByteArray) (sh : Int) (a : Option Addr) (cap : Nat) (ts : List (Int × Int)) (x : Int) (k : Nat) (w : World) (h : IsTurns w a ts) (hl : ts.length ≤ 2000000) (hk : Leg ts x k) (ok : TrOk ts) :
    Calls Try.prog 36 #[.agg #[.string s, .int .i64 sh, .slice a ts.length cap], .int .i64 x] w fun e w' => e = .returned (.int .i64 (lsh sh ts k)) ∧ Below w.heap.size w w' := by
  have hb0 := (Below.refl w.heap.size w).alloc (Nat.le_refl _) (.cells #[.string s, .int .i64 sh, .slice a ts.length cap] 25)
  have HT : Hid (IsTurns w a ts) := h
  have HK : Hid (Leg ts x k ∧ TrOk ts) := ⟨hk, ok⟩
  have kl : k ≤ ts.length := hk.1
  clear h hk ok
  go_enter Try.func36, Try.ntmps36
  go_wp2
  go_loop [5, 6] (fun o i => ∃ j : Nat, j ≤ ts.length ∧ i = .int .i64 j ∧ o = .int .i64 (lsh sh ts (min j k))) (fun _ i => ts.length - (intOf i).toNat)
  case atStart => exact ⟨0, by omega, rfl, by simp [lsh]⟩
  case round =>
    obtain ⟨j, hj, rfl, rfl⟩ := hrel
    by_cases hlt : j < ts.length
    · have hi1 : (j : Int) < (ts.length : Int) := by omega
      have HT2 := HT.out
      rcases HT2 with HT2 | ⟨b, off, rfl, hbs, hc⟩
      · rw [HT2] at hlt; simp at hlt
      have c0 : w.cell? ⟨b, off + j * 2, none⟩ = some (.int .i64 (tAt ts j)) := (hc j hlt).1
      have c1 : w.cell? ⟨b, off + j * 2 + 1, none⟩ = some (.int .i64 (tSh ts j)) := (hc j hlt).2
      clear hc
      by_cases hjk : j < k
      · have hx : tAt ts j ≤ x := HK.out.1.2.1 j hjk
        have HL : Hid (lsh sh ts (min (j + 1) k) = tSh ts j) := by
          unfold Hid lsh; rw [show min (j + 1) k = j + 1 from by omega, if_neg (by omega), Nat.add_sub_cancel]
        go_wp2
        go_round
        case rel => exact ⟨j + 1, by omega, by go_num, by rw [HL.out]⟩
        case measure => simp [intOf]; omega
      · have hx : ¬ tAt ts j ≤ x := by have := HK.out.1.past HK.out.2 j (by omega) hlt; omega
        have HL : Hid (lsh sh ts (min (j + 1) k) = lsh sh ts (min j k)) := by
          unfold Hid; rw [show min (j + 1) k = k from by omega, show min j k = k from by omega]
        go_wp2
        go_round
        case rel => exact ⟨j + 1, by omega, by go_num, by rw [HL.out]⟩
        case measure => simp [intOf]; omega
    · have hjj : j = ts.length := by omega
      subst hjj
      have HL : Hid (lsh sh ts (min ts.length k) = lsh sh ts k) := by unfold Hid; rw [show min ts.length k = k from by omega]
      go_wp2
      go_ret
      exact ⟨ret_i (by first | rfl | exact HL.out), hb0⟩
theorem implClock_no (s : ByteArray) (sh : Int) (a : Option Addr) (cap : Nat) (w : World) :
    Calls Try.prog 34 #[.agg #[.string s, .int .i64 sh, .slice a 0 cap]] w fun e w' => e = .returned (.iface 65 (.agg #[.int .i64 sh])) ∧ Below w.heap.size w w' := by
  go_enter Try.func34, Try.ntmps34
  go_wp2
  go_ret
  exact ⟨rfl, (Below.refl _ _).alloc (Nat.le_refl _) _⟩
theorem implClock_yes (s : ByteArray) (sh : Int) (a : Option Addr) (n cap : Nat) (w : World) (hn : 0 < n) (hl : n ≤ 2000000) :
    Calls Try.prog 34 #[.agg #[.string s, .int .i64 sh, .slice a n cap]] w fun e w' => e = .returned (.iface 67 (.agg #[.int .i64 sh, .slice a n cap])) ∧ Below w.heap.size w w' := by
  have h0 : ((n : Int) == 0) = false := by rw [beq_eq_false_iff_ne]; omega
  go_enter Try.func34, Try.ntmps34
  go_wp2
  go_ret
  exact ⟨rfl, (Below.refl _ _).alloc (Nat.le_refl _) _⟩
theorem implSteady (sh x : Int) (w : World) :
    Calls Try.prog 83 #[.agg #[.int .i64 sh], .int .i64 x] w fun e w' => e = .returned (.int .i64 sh) ∧ Below w.heap.size w w' := by
  go_enter Try.func83, Try.ntmps83
  go_wp2
  go_ret
  exact ⟨rfl, (Below.refl _ _).alloc (Nat.le_refl _) _⟩
abbrev TK (w : World) (b : Nat) (x y : Value) (a : Option Addr) (ts : List (Int × Int)) (w' : World) : Prop := w'.cell? ⟨b, 0, none⟩ = some x ∧ w'.cell? ⟨b, 1, none⟩ = some y ∧ IsTurns w' a ts ∧ Below w.heap.size w w'
theorem TK.on {w W w' : World} {b : Nat} {x y : Value} {a : Option Addr} {ts : List (Int × Int)} (h : TK w b x y a ts W) (hb : Below W.heap.size W w') : TK w b x y a ts w' := by
  obtain ⟨c0, c1, T, B⟩ := h
  have lt := cell_lt c0
  refine ⟨?_, ?_, T.below (B := 0) hb, B.trans (hb.mono B.size)⟩
  · rw [hb.cell (p := ⟨b, 0, none⟩) lt]; exact c0
  · rw [hb.cell (p := ⟨b, 1, none⟩) lt]; exact c1
theorem TK.t {w W : World} {b : Nat} {x y : Value} {a : Option Addr} {ts : List (Int × Int)} (h : TK w b x y a ts W) : IsTurns W a ts := h.2.2.1
theorem TK.b {w W : World} {b : Nat} {x y : Value} {a : Option Addr} {ts : List (Int × Int)} (h : TK w b x y a ts W) : Below w.heap.size w W := h.2.2.2
set_option maxRecDepth 100000 in
set_option maxHeartbeats 4000000 in
theorem implTurning (sh : Int) (a : Option Addr) (cap : Nat) (ts : List (Int × Int)) (x : Int) (k : Nat) (w : World) (h : IsTurns w a ts) (hl : ts.length ≤ 2000000) (hk : Leg ts x k) :
    Calls Try.prog 84 #[.agg #[.int .i64 sh, .slice a ts.length cap], .int .i64 x] w fun e w' => e = .returned (.int .i64 (lsh sh ts k)) ∧ Below w.heap.size w w' := by
  have hb0 := (Below.refl w.heap.size w).alloc (Nat.le_refl _) (.cells #[.int .i64 sh, .slice a ts.length cap] 67)
  have K : TK w w.heap.size (.int .i64 sh) (.slice a ts.length cap) a ts (w.alloc (.cells #[.int .i64 sh, .slice a ts.length cap] 67)) := ⟨by simp, by simp, h.below (B := 0) hb0, hb0⟩
  have HK : Hid (Leg ts x k) := hk
  clear h hk hb0
  go_enter Try.func84, Try.ntmps84
  go_wp2
  go_region_held3 (fun w' => w'.cell? ⟨w.heap.size, 0, none⟩ = some (.int .i64 sh) ∧ w'.cell? ⟨w.heap.size, 1, none⟩ = some (.slice a ts.length cap) ∧ IsTurns w' a ts ∧ Below w.heap.size w w')
    (first | assumption | exact TK.on K (Below.refl _ _).drew | exact TK.on (by assumption) hb7)
    (first
      | (go_at_call 64; refine (implLeg sh a cap ts x k _ (TK.t (by assumption)) hl HK.out).mono ?_; rintro e w7 ⟨rfl, hb7⟩)
      | (go_at_call 63; refine (implLegShift sh a cap ts k _ (TK.t (by assumption)) hl HK.out.1).mono ?_; rintro e w8 ⟨rfl, hb7⟩))
  go_wp2
  go_ret
  exact ⟨rfl, TK.b (by assumption)⟩
theorem meth_steady (sh : Int) (w : World) : (method 198 65 (.agg #[.int .i64 sh]) "loop.example/ephemeris/impl.shiftAt").run Try.prog w = .ok (83, .agg #[.int .i64 sh]) w := by kernel_rfl
theorem meth_turning (sh : Int) (a : Option Addr) (n c : Nat) (w : World) : (method 198 67 (.agg #[.int .i64 sh, .slice a n c]) "loop.example/ephemeris/impl.shiftAt").run Try.prog w = .ok (84, .agg #[.int .i64 sh, .slice a n c]) w := by kernel_rfl
/-- What a clock is ahead by, of a zone that is ok and a time. -/
def zsh (s : ByteArray) (sh : Int) (ts : List (Int × Int)) (r : Bool) (x : Int) (k : Nat) : Int := if znB s sh r = true ∧ tiB x = true then lsh sh ts k else 0
theorem lsh_bd {s : ByteArray} {sh : Int} {ts : List (Int × Int)} {r : Bool} {x : Int} {k : Nat} (hz : znB s sh r = true) (hr : r = true ↔ TrOk ts) (hk : Leg ts x k) : -1440 ≤ lsh sh ts k ∧ lsh sh ts k ≤ 1440 := by
  unfold znB at hz
  simp only [Bool.and_eq_true] at hz
  unfold lsh
  split
  · exact (sh_iff _).1 hz.2.1
  · exact ((hr.1 hz.2.2).2 (k - 1) (by have := hk.1; omega)).2.1
set_option maxHeartbeats 8000000 in
theorem implZoneShift (s : ByteArray) (sh : Int) (a : Option Addr) (cap : Nat) (ts : List (Int × Int)) (x : Int) (k : Nat) (w : World) (h : IsTurns w a ts) (hl : ts.length ≤ 2000000) (hs : s.size ≤ maxLen) (r : Bool) (hr : r = true ↔ TrOk ts) (hk : Leg ts x k) :
    Calls Try.prog 13 #[.agg #[.string s, .int .i64 sh, .slice a ts.length cap], .int .i64 x] w fun e w' => e = .returned (.int .i64 (zsh s sh ts r x k)) ∧ Below w.heap.size w w' := by
  have hb0 := (Below.refl w.heap.size w).alloc (Nat.le_refl _) (.cells #[.string s, .int .i64 sh, .slice a ts.length cap] 25)
  have HT : Hid (IsTurns (w.alloc (.cells #[.string s, .int .i64 sh, .slice a ts.length cap] 25)) a ts) := h.below (B := 0) hb0
  have HR : Hid (r = true ↔ TrOk ts) := hr
  have HK : Hid (Leg ts x k) := hk
  clear h hr hk
  cases hz : znB s sh r with
  | false =>
    have HV : Hid (zsh s sh ts r x k = 0) := if_neg (by rw [hz]; exact fun h => Bool.noConfusion h.1)
    have HZ : Hid (znB s sh r = false) := hz
    clear hz
    go_enter Try.func13, Try.ntmps13
    go_wp2_with fail
    refine (implZoneOk s sh a cap ts _ HT.out hl hs r HR.out).mono ?_
    rintro e w1 ⟨rfl, hb1⟩
    rw [HZ.out]
    have hbw := bstep hb0 hb1
    go_wp2
    go_ret
    exact ⟨ret_i HV.out.symm, hbw⟩
  | true =>
    have HZ : Hid (znB s sh r = true) := hz
    cases ht : tiB x with
    | false =>
      have HV : Hid (zsh s sh ts r x k = 0) := if_neg (by rw [ht]; exact fun h => Bool.noConfusion h.2)
      clear hz
      go_enter Try.func13, Try.ntmps13
      go_wp2_with fail
      refine (implZoneOk s sh a cap ts _ HT.out hl hs r HR.out).mono ?_
      rintro e w1 ⟨rfl, hb1⟩
      rw [HZ.out]
      have hbw := bstep hb0 hb1
      go_wp2_with (first | (go_at_call 33; refine (implTime _ _ false ht).mono ?_; rintro e w' ⟨rfl, rfl⟩))
      go_ret
      exact ⟨ret_i HV.out.symm, hbw⟩
    | true =>
      have HV : Hid (zsh s sh ts r x k = lsh sh ts k) := if_pos ⟨hz, ht⟩
      have xb := (ti_iff _).1 ht
      have lb : -1440 ≤ lsh sh ts k ∧ lsh sh ts k ≤ 1440 := lsh_bd hz HR.out HK.out
      clear hz
      go_enter Try.func13, Try.ntmps13
      go_wp2_with fail
      refine (implZoneOk s sh a cap ts _ HT.out hl hs r HR.out).mono ?_
      rintro e w1 ⟨rfl, hb1⟩
      rw [HZ.out]
      have T1 := HT.out.below (B := 0) hb1
      have hbw := bstep hb0 hb1
      have C : w1.cell? ⟨w.heap.size, 0, none⟩ = some (.string s) ∧ w1.cell? ⟨w.heap.size, 1, none⟩ = some (.int .i64 sh) ∧ w1.cell? ⟨w.heap.size, 2, none⟩ = some (.slice a ts.length cap) := by
        obtain ⟨hc, hf⟩ := bcell hb1
        exact ⟨by rw [hc _ _ (by simp)]; simp, by rw [hc _ _ (by simp)]; simp, by rw [hc _ _ (by simp)]; simp⟩
      obtain ⟨c0, c1, c2⟩ := C
      clear hb1 hb0
      by_cases hn : ts = []
      · subst hn
        have k0 : k = 0 := by have := HK.out.1; simpa using this
        subst k0
        have HS : Hid (lsh sh [] 0 = sh) := if_pos rfl
        go_wp2_with (first | (go_at_call 33; refine (implTime _ _ true ht).mono ?_; rintro e w' ⟨rfl, rfl⟩))
        refine (implClock_no s sh a cap _).mono ?_
        rintro e w2 ⟨rfl, hb2⟩
        have hm := meth_steady sh w2
        go_wp2_with (first | (go_at_call 83; refine (implSteady sh x _).mono ?_; rintro e w3 ⟨rfl, hb3⟩; rw [← HS.out]))
        have hbe := (hbw.trans (hb2.mono hbw.size)).trans (hb3.mono (Nat.le_trans hbw.size hb2.size))
        go_ret
        exact ⟨ret_i HV.out.symm, hbe⟩
      · have hpos : 0 < ts.length := List.length_pos_iff.2 hn
        go_wp2_with (first | (go_at_call 33; refine (implTime _ _ true ht).mono ?_; rintro e w' ⟨rfl, rfl⟩))
        refine (implClock_yes s sh a ts.length cap _ hpos hl).mono ?_
        rintro e w2 ⟨rfl, hb2⟩
        have hm := meth_turning sh a ts.length cap w2
        have T2 := T1.below (B := 0) hb2
        go_wp2_with (first | (go_at_call 84; refine (implTurning sh a cap ts x k _ T2 hl HK.out).mono ?_; rintro e w3 ⟨rfl, hb3⟩))
        have hbe := (hbw.trans (hb2.mono hbw.size)).trans (hb3.mono (Nat.le_trans hbw.size hb2.size))
        go_ret
        exact ⟨ret_i HV.out.symm, hbe⟩
def zlo (s : ByteArray) (sh : Int) (ts : List (Int × Int)) (r : Bool) (x : Int) (k : Nat) : Int := if znB s sh r = true ∧ tiB x = true then x + lsh sh ts k else -1
set_option maxHeartbeats 8000000 in
theorem implZoneLocal (s : ByteArray) (sh : Int) (a : Option Addr) (cap : Nat) (ts : List (Int × Int)) (x : Int) (k : Nat) (w : World) (h : IsTurns w a ts) (hl : ts.length ≤ 2000000) (hs : s.size ≤ maxLen) (r : Bool) (hr : r = true ↔ TrOk ts) (hk : Leg ts x k) :
    Calls Try.prog 11 #[.agg #[.string s, .int .i64 sh, .slice a ts.length cap], .int .i64 x] w fun e w' => e = .returned (.int .i64 (zlo s sh ts r x k)) ∧ Below w.heap.size w w' := by
  have hb0 := (Below.refl w.heap.size w).alloc (Nat.le_refl _) (.cells #[.string s, .int .i64 sh, .slice a ts.length cap] 25)
  have HT : Hid (IsTurns (w.alloc (.cells #[.string s, .int .i64 sh, .slice a ts.length cap] 25)) a ts) := h.below (B := 0) hb0
  have HR : Hid (r = true ↔ TrOk ts) := hr
  have HK : Hid (Leg ts x k) := hk
  clear h hr hk
  cases hz : znB s sh r with
  | false =>
    have HV : Hid (zlo s sh ts r x k = -1) := if_neg (by rw [hz]; exact fun h => Bool.noConfusion h.1)
    have HZ : Hid (znB s sh r = false) := hz
    clear hz
    go_enter Try.func11, Try.ntmps11
    go_wp2_with fail
    refine (implZoneOk s sh a cap ts _ HT.out hl hs r HR.out).mono ?_
    rintro e w1 ⟨rfl, hb1⟩
    rw [HZ.out]
    have hbw := bstep hb0 hb1
    go_wp2
    go_ret
    exact ⟨ret_i HV.out.symm, hbw⟩
  | true =>
    have HZ : Hid (znB s sh r = true) := hz
    cases ht : tiB x with
    | false =>
      have HV : Hid (zlo s sh ts r x k = -1) := if_neg (by rw [ht]; exact fun h => Bool.noConfusion h.2)
      clear hz
      go_enter Try.func11, Try.ntmps11
      go_wp2_with fail
      refine (implZoneOk s sh a cap ts _ HT.out hl hs r HR.out).mono ?_
      rintro e w1 ⟨rfl, hb1⟩
      rw [HZ.out]
      have hbw := bstep hb0 hb1
      go_wp2_with (first | (go_at_call 33; refine (implTime _ _ false ht).mono ?_; rintro e w' ⟨rfl, rfl⟩))
      go_ret
      exact ⟨ret_i HV.out.symm, hbw⟩
    | true =>
      have HV : Hid (zlo s sh ts r x k = x + lsh sh ts k) := if_pos ⟨hz, ht⟩
      have xb := (ti_iff _).1 ht
      have lb : -1440 ≤ lsh sh ts k ∧ lsh sh ts k ≤ 1440 := lsh_bd hz HR.out HK.out
      clear hz
      go_enter Try.func11, Try.ntmps11
      go_wp2_with fail
      refine (implZoneOk s sh a cap ts _ HT.out hl hs r HR.out).mono ?_
      rintro e w1 ⟨rfl, hb1⟩
      rw [HZ.out]
      have T1 := HT.out.below (B := 0) hb1
      have hbw := bstep hb0 hb1
      have C : w1.cell? ⟨w.heap.size, 0, none⟩ = some (.string s) ∧ w1.cell? ⟨w.heap.size, 1, none⟩ = some (.int .i64 sh) ∧ w1.cell? ⟨w.heap.size, 2, none⟩ = some (.slice a ts.length cap) := by
        obtain ⟨hc, hf⟩ := bcell hb1
        exact ⟨by rw [hc _ _ (by simp)]; simp, by rw [hc _ _ (by simp)]; simp, by rw [hc _ _ (by simp)]; simp⟩
      obtain ⟨c0, c1, c2⟩ := C
      clear hb1 hb0
      by_cases hn : ts = []
      · subst hn
        have k0 : k = 0 := by have := HK.out.1; simpa using this
        subst k0
        have HS : Hid (lsh sh [] 0 = sh) := if_pos rfl
        go_wp2_with (first | (go_at_call 33; refine (implTime _ _ true ht).mono ?_; rintro e w' ⟨rfl, rfl⟩))
        refine (implClock_no s sh a cap _).mono ?_
        rintro e w2 ⟨rfl, hb2⟩
        have hm := meth_steady sh w2
        go_wp2_with (first | (go_at_call 83; refine (implSteady sh x _).mono ?_; rintro e w3 ⟨rfl, hb3⟩; rw [← HS.out]))
        have hbe := (hbw.trans (hb2.mono hbw.size)).trans (hb3.mono (Nat.le_trans hbw.size hb2.size))
        go_ret
        exact ⟨ret_i HV.out.symm, hbe⟩
      · have hpos : 0 < ts.length := List.length_pos_iff.2 hn
        go_wp2_with (first | (go_at_call 33; refine (implTime _ _ true ht).mono ?_; rintro e w' ⟨rfl, rfl⟩))
        refine (implClock_yes s sh a ts.length cap _ hpos hl).mono ?_
        rintro e w2 ⟨rfl, hb2⟩
        have hm := meth_turning sh a ts.length cap w2
        have T2 := T1.below (B := 0) hb2
        go_wp2_with (first | (go_at_call 84; refine (implTurning sh a cap ts x k _ T2 hl HK.out).mono ?_; rintro e w3 ⟨rfl, hb3⟩))
        have hbe := (hbw.trans (hb2.mono hbw.size)).trans (hb3.mono (Nat.le_trans hbw.size hb2.size))
        go_ret
        exact ⟨ret_i HV.out.symm, hbe⟩
set_option maxHeartbeats 8000000 in
theorem specZoneShift (s : ByteArray) (sh : Int) (a : Option Addr) (cap : Nat) (ts : List (Int × Int)) (x : Int) (k : Nat) (w : World) (h : IsTurns w a ts) (hl : ts.length ≤ 2000000) (hs : s.size ≤ maxLen) (r : Bool) (hr : r = true ↔ TrOk ts) (hk : Leg ts x k) :
    Calls Try.prog 14 #[.agg #[.string s, .int .i64 sh, .slice a ts.length cap], .int .i64 x] w fun e w' => e = .returned (.int .i64 (zsh s sh ts r x k)) ∧ Below w.heap.size w w' := by
  have hb0 := (Below.refl w.heap.size w).alloc (Nat.le_refl _) (.cells #[.string s, .int .i64 sh, .slice a ts.length cap] 25)
  have HT : Hid (IsTurns (w.alloc (.cells #[.string s, .int .i64 sh, .slice a ts.length cap] 25)) a ts) := h.below (B := 0) hb0
  have HR : Hid (r = true ↔ TrOk ts) := hr
  have HK : Hid (Leg ts x k) := hk
  clear h hr hk
  cases hz : znB s sh r with
  | false =>
    have HV : Hid (zsh s sh ts r x k = 0) := if_neg (by rw [hz]; exact fun h => Bool.noConfusion h.1)
    have HZ : Hid (znB s sh r = false) := hz
    clear hz
    go_enter Try.func14, Try.ntmps14
    go_wp2_with fail
    refine (specZoneOk s sh a cap ts _ HT.out hl hs r HR.out).mono ?_
    rintro e w1 ⟨rfl, hb1⟩
    rw [HZ.out]
    have hbw := bstep hb0 hb1
    go_wp2
    go_ret
    exact ⟨ret_i HV.out.symm, hbw⟩
  | true =>
    have HZ : Hid (znB s sh r = true) := hz
    cases ht : tiB x with
    | false =>
      have HV : Hid (zsh s sh ts r x k = 0) := if_neg (by rw [ht]; exact fun h => Bool.noConfusion h.2)
      clear hz
      go_enter Try.func14, Try.ntmps14
      go_wp2_with fail
      refine (specZoneOk s sh a cap ts _ HT.out hl hs r HR.out).mono ?_
      rintro e w1 ⟨rfl, hb1⟩
      rw [HZ.out]
      have hbw := bstep hb0 hb1
      go_wp2_with (first | (go_at_call 35; refine (specTime _ _ false ht).mono ?_; rintro e w' ⟨rfl, rfl⟩))
      go_ret
      exact ⟨ret_i HV.out.symm, hbw⟩
    | true =>
      have HV : Hid (zsh s sh ts r x k = lsh sh ts k) := if_pos ⟨hz, ht⟩
      have xb := (ti_iff _).1 ht
      have lb : -1440 ≤ lsh sh ts k ∧ lsh sh ts k ≤ 1440 := lsh_bd hz HR.out HK.out
      have OK : Hid (TrOk ts) := HR.out.1 (by unfold znB at hz; simp only [Bool.and_eq_true] at hz; exact hz.2.2)
      clear hz
      go_enter Try.func14, Try.ntmps14
      go_wp2_with fail
      refine (specZoneOk s sh a cap ts _ HT.out hl hs r HR.out).mono ?_
      rintro e w1 ⟨rfl, hb1⟩
      rw [HZ.out]
      have T1 := HT.out.below (B := 0) hb1
      have hbw := bstep hb0 hb1
      have C : w1.cell? ⟨w.heap.size, 0, none⟩ = some (.string s) ∧ w1.cell? ⟨w.heap.size, 1, none⟩ = some (.int .i64 sh) ∧ w1.cell? ⟨w.heap.size, 2, none⟩ = some (.slice a ts.length cap) := by
        obtain ⟨hc, hf⟩ := bcell hb1
        exact ⟨by rw [hc _ _ (by simp)]; simp, by rw [hc _ _ (by simp)]; simp, by rw [hc _ _ (by simp)]; simp⟩
      obtain ⟨c0, c1, c2⟩ := C
      clear hb1 hb0
      go_wp2_with (first | (go_at_call 35; refine (specTime _ _ true ht).mono ?_; rintro e w' ⟨rfl, rfl⟩) | (go_at_call 36; refine (specShift s sh a cap ts x k _ T1 hl HK.out OK.out).mono ?_; rintro e w3 ⟨rfl, hb3⟩))
      have hbe := hbw.trans (hb3.mono hbw.size)
      go_ret
      exact ⟨ret_i HV.out.symm, hbe⟩
set_option maxHeartbeats 8000000 in
theorem specZoneLocal (s : ByteArray) (sh : Int) (a : Option Addr) (cap : Nat) (ts : List (Int × Int)) (x : Int) (k : Nat) (w : World) (h : IsTurns w a ts) (hl : ts.length ≤ 2000000) (hs : s.size ≤ maxLen) (r : Bool) (hr : r = true ↔ TrOk ts) (hk : Leg ts x k) :
    Calls Try.prog 12 #[.agg #[.string s, .int .i64 sh, .slice a ts.length cap], .int .i64 x] w fun e w' => e = .returned (.int .i64 (zlo s sh ts r x k)) ∧ Below w.heap.size w w' := by
  have hb0 := (Below.refl w.heap.size w).alloc (Nat.le_refl _) (.cells #[.string s, .int .i64 sh, .slice a ts.length cap] 25)
  have HT : Hid (IsTurns (w.alloc (.cells #[.string s, .int .i64 sh, .slice a ts.length cap] 25)) a ts) := h.below (B := 0) hb0
  have HR : Hid (r = true ↔ TrOk ts) := hr
  have HK : Hid (Leg ts x k) := hk
  clear h hr hk
  cases hz : znB s sh r with
  | false =>
    have HV : Hid (zlo s sh ts r x k = -1) := if_neg (by rw [hz]; exact fun h => Bool.noConfusion h.1)
    have HZ : Hid (znB s sh r = false) := hz
    clear hz
    go_enter Try.func12, Try.ntmps12
    go_wp2_with fail
    refine (specZoneOk s sh a cap ts _ HT.out hl hs r HR.out).mono ?_
    rintro e w1 ⟨rfl, hb1⟩
    rw [HZ.out]
    have hbw := bstep hb0 hb1
    go_wp2
    go_ret
    exact ⟨ret_i HV.out.symm, hbw⟩
  | true =>
    have HZ : Hid (znB s sh r = true) := hz
    cases ht : tiB x with
    | false =>
      have HV : Hid (zlo s sh ts r x k = -1) := if_neg (by rw [ht]; exact fun h => Bool.noConfusion h.2)
      clear hz
      go_enter Try.func12, Try.ntmps12
      go_wp2_with fail
      refine (specZoneOk s sh a cap ts _ HT.out hl hs r HR.out).mono ?_
      rintro e w1 ⟨rfl, hb1⟩
      rw [HZ.out]
      have hbw := bstep hb0 hb1
      go_wp2_with (first | (go_at_call 35; refine (specTime _ _ false ht).mono ?_; rintro e w' ⟨rfl, rfl⟩))
      go_ret
      exact ⟨ret_i HV.out.symm, hbw⟩
    | true =>
      have HV : Hid (zlo s sh ts r x k = x + lsh sh ts k) := if_pos ⟨hz, ht⟩
      have xb := (ti_iff _).1 ht
      have lb : -1440 ≤ lsh sh ts k ∧ lsh sh ts k ≤ 1440 := lsh_bd hz HR.out HK.out
      have OK : Hid (TrOk ts) := HR.out.1 (by unfold znB at hz; simp only [Bool.and_eq_true] at hz; exact hz.2.2)
      clear hz
      go_enter Try.func12, Try.ntmps12
      go_wp2_with fail
      refine (specZoneOk s sh a cap ts _ HT.out hl hs r HR.out).mono ?_
      rintro e w1 ⟨rfl, hb1⟩
      rw [HZ.out]
      have T1 := HT.out.below (B := 0) hb1
      have hbw := bstep hb0 hb1
      have C : w1.cell? ⟨w.heap.size, 0, none⟩ = some (.string s) ∧ w1.cell? ⟨w.heap.size, 1, none⟩ = some (.int .i64 sh) ∧ w1.cell? ⟨w.heap.size, 2, none⟩ = some (.slice a ts.length cap) := by
        obtain ⟨hc, hf⟩ := bcell hb1
        exact ⟨by rw [hc _ _ (by simp)]; simp, by rw [hc _ _ (by simp)]; simp, by rw [hc _ _ (by simp)]; simp⟩
      obtain ⟨c0, c1, c2⟩ := C
      clear hb1 hb0
      go_wp2_with (first | (go_at_call 35; refine (specTime _ _ true ht).mono ?_; rintro e w' ⟨rfl, rfl⟩) | (go_at_call 36; refine (specShift s sh a cap ts x k _ T1 hl HK.out OK.out).mono ?_; rintro e w3 ⟨rfl, hb3⟩))
      have hbe := hbw.trans (hb3.mono hbw.size)
      go_ret
      exact ⟨ret_i HV.out.symm, hbe⟩
end Go.Proofs.Ytihklmbblbnihaa
