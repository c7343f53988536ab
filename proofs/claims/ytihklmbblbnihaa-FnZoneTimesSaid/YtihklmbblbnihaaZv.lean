/- Times and the world's time of a zone: the program's clocks. -/
import Derived.Test.YtihklmbblbnihaaZu
namespace Go.Proofs.Ytihklmbblbnihaa
open Go.RowKit
set_option linter.unusedVariables false
theorem OI.lit1 (w : World) (B : Nat) (x : Int) (hB : B ≤ w.heap.size) : OI (w.alloc (.cells #[.int .i64 x] 3)) B (.slice (some ⟨w.heap.size, 0, none⟩) 1 1) [x] :=
  ⟨by simp, .inr ⟨w.heap.size, 1, #[.int .i64 x], rfl, hB, heap_alloc_new w _, by simp, by unfold maxLen; omega, by simp, by simp⟩⟩
theorem OI.lit0 (w : World) (B : Nat) (hB : B ≤ w.heap.size) : OI (w.alloc (.cells #[] 3)) B (.slice (some ⟨w.heap.size, 0, none⟩) 0 0) [] :=
  ⟨by simp, .inr ⟨w.heap.size, 0, #[], rfl, hB, heap_alloc_new w _, by simp, by unfold maxLen; omega, by simp, by simp⟩⟩
theorem OI.nil (w : World) (B : Nat) : OI w B (.slice none 0 0) [] := World.ownsRow_nil _ _ _ _
theorem lsh_nil (sh : Int) : lsh sh [] 0 = sh := if_pos rfl
theorem zin_nil (sh loc : Int) : zin sh [] loc 0 = tiB (loc - sh) := by
  rw [Bool.eq_iff_iff, zin_iff, ti_iff, lsh_nil]; simp [zfrom, zto]
theorem ta_ss (sh : Int) (w : World) : Sem.run Try.prog (Instr.typeAssert (.iface 65 (.agg #[.int .i64 sh])) 48 65 true) w = .ok (.tuple #[.agg #[.int .i64 sh], .bool true]) w := by kernel_rfl
theorem ta_ts (sh : Int) (a : Option Addr) (n c : Nat) (w : World) : Sem.run Try.prog (Instr.typeAssert (.iface 67 (.agg #[.int .i64 sh, .slice a n c])) 48 65 true) w = .ok (.tuple #[.agg #[.int .i64 0], .bool false]) w := by kernel_rfl
theorem ta_tt (sh : Int) (a : Option Addr) (n c : Nat) (w : World) : Sem.run Try.prog (Instr.typeAssert (.iface 67 (.agg #[.int .i64 sh, .slice a n c])) 48 67 true) w = .ok (.tuple #[.agg #[.int .i64 sh, .slice a n c], .bool true]) w := by kernel_rfl
theorem ta_st (sh : Int) (w : World) : Sem.run Try.prog (Instr.typeAssert (.iface 65 (.agg #[.int .i64 sh])) 48 67 true) w = .ok (.tuple #[.agg #[.int .i64 0, .slice none 0 0], .bool false]) w := by kernel_rfl
set_option maxHeartbeats 4000000 in
theorem implClockTimes_no (sh loc : Int) (w : World) (hs : -1440 ≤ sh ∧ sh ≤ 1440) (h0 : 0 ≤ loc) (h1 : loc ≤ 5258964959) :
    Calls Try.prog 42 #[.iface 65 (.agg #[.int .i64 sh]), .int .i64 loc] w fun e w' => ∃ v, e = .returned v ∧ OI w' w.heap.size v (ztl sh [] loc 1) ∧ Below w.heap.size w w' := by
  have hz := zin_nil sh loc
  cases ht : tiB (loc - sh) with
  | true =>
    rw [ht] at hz
    have HZ : Hid (ztl sh [] loc (0 + 1) = [] ++ [loc - sh]) := by unfold Hid; rw [ztl_yes hz, lsh_nil, ztl]
    clear hz
    have hta := ta_ss sh w
    go_enter Try.func42, Try.ntmps42
    go_wp2_with (go_at_call 33; refine (implTime _ _ true ht).mono ?_; rintro e w' ⟨rfl, rfl⟩)
    go_ret
    refine ⟨.slice (some ⟨w.heap.size + 1, 0, none⟩) 1 1, rfl, ?_, ?_⟩
    · rw [show (1 : Nat) = 0 + 1 from rfl, HZ.out]
      have := OI.lit1 (w.alloc (.cells #[.int .i64 sh] 65)) w.heap.size (loc - sh) (by simp)
      rw [World.size_alloc] at this
      exact this
    · exact ((Below.refl _ _).alloc (Nat.le_refl _) _).alloc (by simp) _
  | false =>
    rw [ht] at hz
    have HZ : Hid (ztl sh [] loc (0 + 1) = []) := by unfold Hid; rw [ztl_no hz, ztl]
    clear hz
    have hta := ta_ss sh w
    go_enter Try.func42, Try.ntmps42
    go_wp2_with (go_at_call 33; refine (implTime _ _ false ht).mono ?_; rintro e w' ⟨rfl, rfl⟩)
    go_ret
    refine ⟨_, rfl, ?_, ?_⟩
    · rw [show (1 : Nat) = 0 + 1 from rfl, HZ.out]
      exact OI.nil _ _
    · exact (Below.refl _ _).alloc (Nat.le_refl _) _
set_option maxHeartbeats 4000000 in
theorem implClockTimes_yes (sh : Int) (a : Option Addr) (cap : Nat) (ts : List (Int × Int)) (loc : Int) (w : World) (h : IsTurns w a ts) (ok : TrOk ts) (hs : -1440 ≤ sh ∧ sh ≤ 1440) (h0 : 0 ≤ loc) (h1 : loc ≤ 5258964959) :
    Calls Try.prog 42 #[.iface 67 (.agg #[.int .i64 sh, .slice a ts.length cap]), .int .i64 loc] w fun e w' => ∃ v, e = .returned v ∧ OI w' w.heap.size v (ztl sh ts loc (ts.length + 1)) ∧ Below w.heap.size w w' := by
  have hb0 := (Below.refl w.heap.size w).alloc (Nat.le_refl _) (.cells #[.int .i64 sh, .slice a ts.length cap] 67)
  have T := h.below (B := 0) hb0
  have OK : Hid (TrOk ts) := ok
  clear h ok
  have hta := ta_ts sh a ts.length cap w
  have htb := ta_tt sh a ts.length cap w
  go_enter Try.func42, Try.ntmps42
  go_wp2_with (first
    | (go_at_call 54; refine (implTimes sh a cap ts loc _ T OK.out hs h0 h1).mono ?_; rintro e w2 ⟨v, rfl, O, hb2⟩; have B := hb0.trans (hb2.mono (by simp)); have O2 := OI.base O (B' := w.heap.size) (by simp); clear O hb2 hb0))
  go_ret
  exact ⟨_, rfl, O2, B⟩
/-- The times of a zone, if it is ok and asked for a time. -/
def ztz (s : ByteArray) (sh : Int) (ts : List (Int × Int)) (r : Bool) (loc : Int) : List Int := if znB s sh r = true ∧ tiB loc = true then ztl sh ts loc (ts.length + 1) else []
theorem zn_parts {s : ByteArray} {sh : Int} {ts : List (Int × Int)} {r : Bool} (hz : znB s sh r = true) (hr : r = true ↔ TrOk ts) : TrOk ts ∧ (-1440 ≤ sh ∧ sh ≤ 1440) := by
  unfold znB at hz; simp only [Bool.and_eq_true] at hz; exact ⟨hr.1 hz.2.2, (sh_iff _).1 hz.2.1⟩
set_option maxHeartbeats 8000000 in
theorem implZoneTimes (s : ByteArray) (sh : Int) (a : Option Addr) (cap : Nat) (ts : List (Int × Int)) (x : Int) (w : World) (h : IsTurns w a ts) (hl : ts.length ≤ 2000000) (hs : s.size ≤ maxLen) (r : Bool) (hr : r = true ↔ TrOk ts) :
    Calls Try.prog 18 #[.agg #[.string s, .int .i64 sh, .slice a ts.length cap], .int .i64 x] w fun e w' => ∃ v, e = .returned v ∧ OI w' w.heap.size v (ztz s sh ts r x) ∧ Below w.heap.size w w' := by
  have hb0 := (Below.refl w.heap.size w).alloc (Nat.le_refl _) (.cells #[.string s, .int .i64 sh, .slice a ts.length cap] 25)
  have HT : Hid (IsTurns (w.alloc (.cells #[.string s, .int .i64 sh, .slice a ts.length cap] 25)) a ts) := h.below (B := 0) hb0
  have HR : Hid (r = true ↔ TrOk ts) := hr
  clear h hr
  cases hz : znB s sh r with
  | false =>
    have HV : Hid (ztz s sh ts r x = []) := if_neg (by rw [hz]; exact fun h => Bool.noConfusion h.1)
    have HZ : Hid (znB s sh r = false) := hz
    clear hz
    go_enter Try.func18, Try.ntmps18
    go_wp2_with fail
    refine (implZoneOk s sh a cap ts _ HT.out hl hs r HR.out).mono ?_
    rintro e w1 ⟨rfl, hb1⟩
    rw [HZ.out]
    have hbw := bstep hb0 hb1
    go_wp2
    go_ret
    exact ⟨_, rfl, by rw [HV.out]; exact OI.nil _ _, hbw⟩
  | true =>
    have HZ : Hid (znB s sh r = true) := hz
    cases ht : tiB x with
    | false =>
      have HV : Hid (ztz s sh ts r x = []) := if_neg (by rw [ht]; exact fun h => Bool.noConfusion h.2)
      clear hz
      go_enter Try.func18, Try.ntmps18
      go_wp2_with fail
      refine (implZoneOk s sh a cap ts _ HT.out hl hs r HR.out).mono ?_
      rintro e w1 ⟨rfl, hb1⟩
      rw [HZ.out]
      have hbw := bstep hb0 hb1
      go_wp2_with (first | (go_at_call 33; refine (implTime _ _ false ht).mono ?_; rintro e w' ⟨rfl, rfl⟩))
      go_ret
      exact ⟨_, rfl, by rw [HV.out]; exact OI.nil _ _, hbw⟩
    | true =>
      have HV : Hid (ztz s sh ts r x = ztl sh ts x (ts.length + 1)) := if_pos ⟨hz, ht⟩
      have xb := (ti_iff _).1 ht
      obtain ⟨ok, sb⟩ := zn_parts hz HR.out
      have OK : Hid (TrOk ts) := ok
      clear hz ok
      go_enter Try.func18, Try.ntmps18
      go_wp2_with fail
      refine (implZoneOk s sh a cap ts _ HT.out hl hs r HR.out).mono ?_
      rintro e w1 ⟨rfl, hb1⟩
      rw [HZ.out]
      have T1 := HT.out.below (B := 0) hb1
      have hbw := bstep hb0 hb1
      have C : w1.cell? ⟨w.heap.size, 0, none⟩ = some (.string s) ∧ w1.cell? ⟨w.heap.size, 1, none⟩ = some (.int .i64 sh) ∧ w1.cell? ⟨w.heap.size, 2, none⟩ = some (.slice a ts.length cap) := by
        obtain ⟨hc, hf⟩ := bcell hb1
        exact ⟨by rw [hc _ _ (by simp)]; simp, by rw [hc _ _ (by simp)]; simp, by rw [hc _ _ (by simp)]; simp⟩
      obtain ⟨c0, c1, c2⟩ := C
      clear hb1 hb0
      by_cases hn : ts = []
      · subst hn
        go_wp2_with (first | (go_at_call 33; refine (implTime _ _ true ht).mono ?_; rintro e w' ⟨rfl, rfl⟩))
        refine (implClock_no s sh a cap _).mono ?_
        rintro e w2 ⟨rfl, hb2⟩
        have hb := bstep hbw (hb2)
        go_wp2_with (first | (go_at_call 42; refine (implClockTimes_no sh x _ sb xb.1 xb.2).mono ?_; rintro e w3 ⟨v, rfl, O, hb3⟩; have B := bstep hb hb3; have O2 := OI.base O (B' := w.heap.size) hb.size; clear O))
        go_ret
        exact ⟨_, rfl, by rw [HV.out]; exact O2, B⟩
      · have hpos : 0 < ts.length := List.length_pos_iff.2 hn
        go_wp2_with (first | (go_at_call 33; refine (implTime _ _ true ht).mono ?_; rintro e w' ⟨rfl, rfl⟩))
        refine (implClock_yes s sh a ts.length cap _ hpos hl).mono ?_
        rintro e w2 ⟨rfl, hb2⟩
        have T2 := T1.below (B := 0) hb2
        have hb := bstep hbw (hb2)
        go_wp2_with (first | (go_at_call 42; refine (implClockTimes_yes sh a cap ts x _ T2 OK.out sb xb.1 xb.2).mono ?_; rintro e w3 ⟨v, rfl, O, hb3⟩; have B := bstep hb hb3; have O2 := OI.base O (B' := w.heap.size) hb.size; clear O))
        go_ret
        exact ⟨_, rfl, by rw [HV.out]; exact O2, B⟩
set_option maxRecDepth 100000 in
set_option maxHeartbeats 8000000 in
theorem implSkipped (sh : Int) (a : Option Addr) (cap : Nat) (ts : List (Int × Int)) (loc r : Int) (w : World) (h : IsTurns w a ts) (ok : TrOk ts) (hs : -1440 ≤ sh ∧ sh ≤ 1440) (h0 : 0 ≤ loc) (h1 : loc ≤ 5258964959)
    (hr : (∃ i, i < ts.length ∧ Skip sh ts loc i ∧ r = if tiB (loc - lsh sh ts i) = true then loc - lsh sh ts i else -1) ∨ ((∀ i, i < ts.length → ¬ Skip sh ts loc i) ∧ r = -1)) :
    Calls Try.prog 55 #[.agg #[.int .i64 sh, .slice a ts.length cap], .int .i64 loc] w fun e w' => e = .returned (.int .i64 r) ∧ Below w.heap.size w w' := by
  have h8 : ts.length ≤ 8 := ok.1
  have hl : ts.length ≤ 2000000 := by omega
  have OK : Hid (TrOk ts) := ok
  have HR : Hid ((∃ i, i < ts.length ∧ Skip sh ts loc i ∧ r = if tiB (loc - lsh sh ts i) = true then loc - lsh sh ts i else -1) ∨ ((∀ i, i < ts.length → ¬ Skip sh ts loc i) ∧ r = -1)) := hr
  have hb0 := (Below.refl w.heap.size w).alloc (Nat.le_refl _) (.cells #[.int .i64 sh, .slice a ts.length cap] 67)
  have K0 : TK w w.heap.size (.int .i64 sh) (.slice a ts.length cap) a ts (w.alloc (.cells #[.int .i64 sh, .slice a ts.length cap] 67)) := ⟨by simp, by simp, h.below (B := 0) hb0, hb0⟩
  clear h ok hb0 hr
  go_enter Try.func55, Try.ntmps55
  go_wp2
  go_loopw [5, 6, 7, 11] (fun _ _ _ i wr => ∃ k : Nat, k ≤ ts.length ∧ i = .int .i64 k ∧ (∀ j, j < k → ¬ (Skip sh ts loc j ∧ tiB (loc - lsh sh ts j) = true)) ∧ TK w w.heap.size (.int .i64 sh) (.slice a ts.length cap) a ts wr) (fun _ _ _ i _ => ts.length - (intOf i).toNat)
  case atStart => exact ⟨0, by omega, rfl, fun j hj => by omega, K0⟩
  case round =>
    clear K0
    obtain ⟨k, hk, rfl, ha, K⟩ := hrel
    have HA : Hid (∀ j, j < k → ¬ (Skip sh ts loc j ∧ tiB (loc - lsh sh ts j) = true)) := ha
    clear ha
    by_cases hlt : k < ts.length
    · have lb := lsh_in hs OK.out k (by omega)
      have sb := (OK.out.2 k hlt).2.1
      have tb := (OK.out.2 k hlt).1
      have HT2 := K.t
      rcases HT2 with HT2 | ⟨b, off, rfl, hbs, hc⟩
      · rw [HT2] at hlt; simp at hlt
      have c0 : wr.cell? ⟨b, off + k * 2, none⟩ = some (.int .i64 (tAt ts k)) := (hc k hlt).1
      have c1 : wr.cell? ⟨b, off + k * 2 + 1, none⟩ = some (.int .i64 (tSh ts k)) := (hc k hlt).2
      clear hc
      have hi1 : (k : Int) < (ts.length : Int) := by omega
      have K1 := TK.on K ((Below.refl wr.heap.size wr).alloc (Nat.le_refl _) (.cells #[.int .i64 (tAt ts k), .int .i64 (tSh ts k)] 31))
      have GO : Hid (¬ (Skip sh ts loc k ∧ tiB (loc - lsh sh ts k) = true) → ∀ j, j < k + 1 → ¬ (Skip sh ts loc j ∧ tiB (loc - lsh sh ts j) = true)) := fun hn j hj => by
        by_cases e : j = k
        · subst e; exact hn
        · exact HA.out j (by omega)
      by_cases g1 : tAt ts k ≤ loc - lsh sh ts k
      · by_cases g2 : loc - tSh ts k < tAt ts k
        · cases ht : tiB (loc - lsh sh ts k) with
          | true =>
            have HV : Hid (r = loc - lsh sh ts k) := by
              unfold Hid
              rcases HR.out with ⟨i, hi, hsk, e⟩ | ⟨hn, _⟩
              · have : i = k := Skip.uniq hs OK.out hi hlt hsk ⟨g1, g2⟩
                subst this; rw [e, if_pos ht]
              · exact absurd ⟨g1, g2⟩ (hn k hlt)
            go_wp2_with fail
            refine (implLegShift sh _ cap ts k _ K1.t hl (by omega)).mono ?_
            rintro e w2 ⟨rfl, hb2⟩
            have K2 := TK.on K1 hb2
            have d0 : w2.cell? ⟨wr.heap.size, 0, none⟩ = some (.int .i64 (tAt ts k)) := by rw [hb2.cell (p := ⟨wr.heap.size, 0, none⟩) (by simp)]; simp
            have d1 : w2.cell? ⟨wr.heap.size, 1, none⟩ = some (.int .i64 (tSh ts k)) := by rw [hb2.cell (p := ⟨wr.heap.size, 1, none⟩) (by simp)]; simp
            clear K1 K hb2
            go_wp2_with (first | (go_at_call 33; refine (implTime _ _ true ht).mono ?_; rintro e w' ⟨rfl, rfl⟩))
            go_ret
            exact ⟨ret_i HV.out.symm, K2.b⟩
          | false =>
            go_wp2_with fail
            refine (implLegShift sh _ cap ts k _ K1.t hl (by omega)).mono ?_
            rintro e w2 ⟨rfl, hb2⟩
            have K2 := TK.on K1 hb2
            have d0 : w2.cell? ⟨wr.heap.size, 0, none⟩ = some (.int .i64 (tAt ts k)) := by rw [hb2.cell (p := ⟨wr.heap.size, 0, none⟩) (by simp)]; simp
            have d1 : w2.cell? ⟨wr.heap.size, 1, none⟩ = some (.int .i64 (tSh ts k)) := by rw [hb2.cell (p := ⟨wr.heap.size, 1, none⟩) (by simp)]; simp
            have HG : Hid (∀ j, j < k + 1 → ¬ (Skip sh ts loc j ∧ tiB (loc - lsh sh ts j) = true)) := GO.out (fun h => by rw [ht] at h; cases h.2)
            clear K1 K hb2
            go_wp2_with (first | (go_at_call 33; refine (implTime _ _ false ht).mono ?_; rintro e w' ⟨rfl, rfl⟩))
            go_roundw
            case rel => exact ⟨k + 1, by omega, by go_num, HG.out, K2⟩
            case measure => simp [intOf]; omega
        · go_wp2_with fail
          refine (implLegShift sh _ cap ts k _ K1.t hl (by omega)).mono ?_
          rintro e w2 ⟨rfl, hb2⟩
          have K2 := TK.on K1 hb2
          have d0 : w2.cell? ⟨wr.heap.size, 0, none⟩ = some (.int .i64 (tAt ts k)) := by rw [hb2.cell (p := ⟨wr.heap.size, 0, none⟩) (by simp)]; simp
          have d1 : w2.cell? ⟨wr.heap.size, 1, none⟩ = some (.int .i64 (tSh ts k)) := by rw [hb2.cell (p := ⟨wr.heap.size, 1, none⟩) (by simp)]; simp
          have HG : Hid (∀ j, j < k + 1 → ¬ (Skip sh ts loc j ∧ tiB (loc - lsh sh ts j) = true)) := GO.out (fun h => absurd h.1.2 (by omega))
          clear K1 K hb2
          go_wp2
          go_roundw
          case rel => exact ⟨k + 1, by omega, by go_num, HG.out, K2⟩
          case measure => simp [intOf]; omega
      · go_wp2_with fail
        refine (implLegShift sh _ cap ts k _ K1.t hl (by omega)).mono ?_
        rintro e w2 ⟨rfl, hb2⟩
        have K2 := TK.on K1 hb2
        have d0 : w2.cell? ⟨wr.heap.size, 0, none⟩ = some (.int .i64 (tAt ts k)) := by rw [hb2.cell (p := ⟨wr.heap.size, 0, none⟩) (by simp)]; simp
        have d1 : w2.cell? ⟨wr.heap.size, 1, none⟩ = some (.int .i64 (tSh ts k)) := by rw [hb2.cell (p := ⟨wr.heap.size, 1, none⟩) (by simp)]; simp
        have HG : Hid (∀ j, j < k + 1 → ¬ (Skip sh ts loc j ∧ tiB (loc - lsh sh ts j) = true)) := GO.out (fun h => absurd h.1.1 (by omega))
        clear K1 K hb2
        go_wp2
        go_roundw
        case rel => exact ⟨k + 1, by omega, by go_num, HG.out, K2⟩
        case measure => simp [intOf]; omega
    · have HV : Hid (r = -1) := by
        unfold Hid
        rcases HR.out with ⟨i, hi, hsk, e⟩ | ⟨_, e⟩
        · rw [e]; split
          · rename_i ht; exact absurd ⟨hsk, ht⟩ (HA.out i (by omega))
          · rfl
        · exact e
      go_wp2
      go_ret
      exact ⟨ret_i HV.out.symm, K.b⟩
theorem ztl_bd {sh : Int} {ts : List (Int × Int)} {loc : Int} {n : Nat} {x : Int} (hs : -1440 ≤ sh ∧ sh ≤ 1440) (ok : TrOk ts) (hn : n ≤ ts.length + 1) (h : x ∈ ztl sh ts loc n) : tiB x = true := by
  obtain ⟨k, hk, hz, rfl⟩ := ztl_mem.1 h
  exact ((zin_leg ok (by omega)).1 hz).1
set_option maxHeartbeats 4000000 in
theorem implClockWorld_no (sh loc r : Int) (w : World) (hs : -1440 ≤ sh ∧ sh ≤ 1440) (h0 : 0 ≤ loc) (h1 : loc ≤ 5258964959) (hr : ZW sh [] loc r) :
    Calls Try.prog 44 #[.iface 65 (.agg #[.int .i64 sh]), .int .i64 loc] w fun e w' => e = .returned (.int .i64 r) ∧ Below w.heap.size w w' := by
  have hta := fun w => ta_st sh w
  cases hl : ztl sh [] loc 1 with
  | nil =>
    have HV : Hid (r = -1) := by
      rcases hr with ⟨l, e⟩ | ⟨_, ⟨i, hi, _⟩ | ⟨_, e⟩⟩
      · simp only [List.length_nil, Nat.zero_add] at e; rw [hl] at e; cases e
      · simp at hi
      · exact e
    have HL : Hid (ztl sh [] loc 1 = []) := hl
    clear hl hr
    go_enter Try.func44, Try.ntmps44
    go_wp2_with fail
    refine (implClockTimes_no sh loc _ hs h0 h1).mono ?_
    rintro e w2 ⟨v, rfl, O, hb2⟩
    rw [HL.out] at O
    obtain ⟨a, cap, rfl, _, _, hc⟩ := O.val
    clear O
    have hl0 : ([] : List Int).length = 0 := rfl
    rw [hl0]
    go_wp2
    go_ret
    exact ⟨ret_i HV.out.symm, hb2.alloc hb2.size _⟩
  | cons x l =>
    have HV : Hid (r = x) := by
      rcases hr with ⟨l', e⟩ | ⟨e, _⟩
      · simp only [List.length_nil, Nat.zero_add] at e; rw [hl] at e; cases e; rfl
      · simp only [List.length_nil, Nat.zero_add] at e; rw [hl] at e; cases e
    have HL : Hid (ztl sh [] loc 1 = x :: l) := hl
    have ll := ztl_len sh [] loc 1
    rw [hl] at ll
    clear hl hr
    go_enter Try.func44, Try.ntmps44
    go_wp2_with fail
    refine (implClockTimes_no sh loc _ hs h0 h1).mono ?_
    rintro e w2 ⟨v, rfl, O, hb2⟩
    rw [HL.out] at O
    obtain ⟨a, cap, rfl, I, _, hc⟩ := O.val
    clear O
    rcases I with I | ⟨b, off, rfl, hbs, hcell⟩
    · cases I
    have c0 : w2.cell? ⟨b, off, none⟩ = some (.int .i64 x) := hcell 0 (by simp)
    clear hcell
    go_wp2
    go_ret
    exact ⟨ret_i HV.out.symm, hb2⟩
set_option maxHeartbeats 4000000 in
theorem implClockWorld_yes (sh : Int) (a : Option Addr) (cap : Nat) (ts : List (Int × Int)) (loc r : Int) (w : World) (h : IsTurns w a ts) (ok : TrOk ts) (hs : -1440 ≤ sh ∧ sh ≤ 1440) (h0 : 0 ≤ loc) (h1 : loc ≤ 5258964959) (hr : ZW sh ts loc r) :
    Calls Try.prog 44 #[.iface 67 (.agg #[.int .i64 sh, .slice a ts.length cap]), .int .i64 loc] w fun e w' => e = .returned (.int .i64 r) ∧ Below w.heap.size w w' := by
  have hta := fun w => ta_tt sh a ts.length cap w
  have OK : Hid (TrOk ts) := ok
  have HT : Hid (IsTurns w a ts) := h
  have h8 : ts.length ≤ 8 := ok.1
  clear ok h
  cases hl : ztl sh ts loc (ts.length + 1) with
  | nil =>
    have HR : Hid ((∃ i, i < ts.length ∧ Skip sh ts loc i ∧ r = if tiB (loc - lsh sh ts i) = true then loc - lsh sh ts i else -1) ∨ ((∀ i, i < ts.length → ¬ Skip sh ts loc i) ∧ r = -1)) := by
      rcases hr with ⟨l, e⟩ | ⟨_, e⟩
      · rw [hl] at e; cases e
      · exact e
    have HL : Hid (ztl sh ts loc (ts.length + 1) = []) := hl
    clear hl hr
    go_enter Try.func44, Try.ntmps44
    go_wp2_with fail
    refine (implClockTimes_yes sh a cap ts loc _ HT.out OK.out hs h0 h1).mono ?_
    rintro e w2 ⟨v, rfl, O, hb2⟩
    rw [HL.out] at O
    obtain ⟨a2, cap2, rfl, _, _, hc⟩ := O.val
    clear O
    have hl0 : ([] : List Int).length = 0 := rfl
    rw [hl0]
    have T2 := HT.out.below (B := 0) hb2
    have hb3 := (Below.refl w2.heap.size w2).alloc (Nat.le_refl _) (.cells #[.int .i64 sh, .slice a ts.length cap] 67)
    have T3 := T2.below (B := 0) hb3
    go_wp2_with fail
    refine (implSkipped sh a cap ts loc r _ T3 OK.out hs h0 h1 HR.out).mono ?_
    rintro e w4 ⟨rfl, hb4⟩
    have B := bstep (bstep hb2 hb3) hb4
    go_wp2
    go_ret
    exact ⟨rfl, B⟩
  | cons x l =>
    have HV : Hid (r = x) := by
      rcases hr with ⟨l', e⟩ | ⟨e, _⟩
      · rw [hl] at e; cases e; rfl
      · rw [hl] at e; cases e
    have HL : Hid (ztl sh ts loc (ts.length + 1) = x :: l) := hl
    have ll := ztl_len sh ts loc (ts.length + 1)
    rw [hl] at ll
    simp only [List.length_cons] at ll
    clear hl hr
    go_enter Try.func44, Try.ntmps44
    go_wp2_with fail
    refine (implClockTimes_yes sh a cap ts loc _ HT.out OK.out hs h0 h1).mono ?_
    rintro e w2 ⟨v, rfl, O, hb2⟩
    rw [HL.out] at O
    obtain ⟨a2, cap2, rfl, I, _, hc⟩ := O.val
    clear O
    rcases I with I | ⟨b, off, rfl, hbs, hcell⟩
    · cases I
    have c0 : w2.cell? ⟨b, off, none⟩ = some (.int .i64 x) := hcell 0 (by simp)
    clear hcell
    go_wp2
    go_ret
    exact ⟨ret_i HV.out.symm, hb2⟩
end Go.Proofs.Ytihklmbblbnihaa
