/- Times and the world's time of a zone: the specification; and the program's ZoneWorld. -/
import Derived.Test.YtihklmbblbnihaaZv
import Derived.Test.YtihklmbblbnihaaC3
namespace Go.Proofs.Ytihklmbblbnihaa
open Go.RowKit
set_option linter.unusedVariables false
/-- What stands while the times are gathered. -/
abbrev TV (W0 : World) (b : Nat) (x y z : Value) (a : Option Addr) (ts : List (Int × Int)) (v : Value) (l : List Int) (w' : World) : Prop :=
  w'.cell? ⟨b, 0, none⟩ = some x ∧ w'.cell? ⟨b, 1, none⟩ = some y ∧ w'.cell? ⟨b, 2, none⟩ = some z ∧ IsTurns w' a ts ∧ OI w' (b + 1) v l ∧ Below (b + 1) W0 w'
theorem TV.on {W0 W w' : World} {b : Nat} {x y z : Value} {a : Option Addr} {ts : List (Int × Int)} {v : Value} {l : List Int} (h : TV W0 b x y z a ts v l W) (hb : Below W.heap.size W w') : TV W0 b x y z a ts v l w' := by
  obtain ⟨c0, c1, c2, T, O, B⟩ := h
  have lt := cell_lt c0
  refine ⟨?_, ?_, ?_, T.below (B := 0) hb, O.below hb, B.trans (hb.mono (by omega))⟩
  · rw [hb.cell (p := ⟨b, 0, none⟩) lt]; exact c0
  · rw [hb.cell (p := ⟨b, 1, none⟩) lt]; exact c1
  · rw [hb.cell (p := ⟨b, 2, none⟩) lt]; exact c2
theorem TV.app {W0 W w4 : World} {b : Nat} {x y z : Value} {a : Option Addr} {ts : List (Int × Int)} {v v0 v' : Value} {l l0 : List Int} {n : Int} {o : Obj} (h0 : TV W0 b x y z a ts v0 l0 W0) (hs : W0.heap.size = b + 1) (h : TV W0 b x y z a ts v l W)
    (hown : w4.ownsRow (b + 1) 3 1 v' (l.length + 1) (l.map (Value.int .i64) ++ [Value.int .i64 n])) (hgrow : (W.alloc o).grownBy w4 v.ownBlock) : TV W0 b x y z a ts v' (l ++ [n]) w4 := by
  have B : Below (b + 1) W0 w4 := (h.2.2.2.2.2.alloc (by have := h.2.2.2.2.2.size; omega) o).grown hgrow (by have := h.2.2.2.2.2.size; simp; omega) (fun k hk => (World.ownsRow.lt h.2.2.2.2.1 k hk).1)
  refine ⟨?_, ?_, ?_, h0.2.2.2.1.below (B := 0) (hs ▸ B), by unfold OI; simpa using hown, B⟩
  · rw [B.cell (p := ⟨b, 0, none⟩) (by simp)]; exact h0.1
  · rw [B.cell (p := ⟨b, 1, none⟩) (by simp)]; exact h0.2.1
  · rw [B.cell (p := ⟨b, 2, none⟩) (by simp)]; exact h0.2.2.1
set_option maxRecDepth 100000 in
set_option maxHeartbeats 16000000 in
theorem specTimes (s : ByteArray) (sh : Int) (a : Option Addr) (cap : Nat) (ts : List (Int × Int)) (loc : Int) (w : World) (h : IsTurns w a ts) (ok : TrOk ts) (hs : -1440 ≤ sh ∧ sh ≤ 1440) (h0 : 0 ≤ loc) (h1 : loc ≤ 5258964959) :
    Calls Try.prog 43 #[.agg #[.string s, .int .i64 sh, .slice a ts.length cap], .int .i64 loc] w fun e w' => ∃ v, e = .returned v ∧ OI w' w.heap.size v (ztl sh ts loc (ts.length + 1)) ∧ Below w.heap.size w w' := by
  obtain ⟨i0, hi, hz0, hz1, hz2⟩ := info_parts intInfo
  have h8 : ts.length ≤ 8 := ok.1
  have OK : Hid (TrOk ts) := ok
  have hb0 := (Below.refl w.heap.size w).alloc (Nat.le_refl _) (.cells #[.string s, .int .i64 sh, .slice a ts.length cap] 25)
  have K0 : TV (w.alloc (.cells #[.string s, .int .i64 sh, .slice a ts.length cap] 25)) w.heap.size (.string s) (.int .i64 sh) (.slice a ts.length cap) a ts (.slice none 0 0) [] (w.alloc (.cells #[.string s, .int .i64 sh, .slice a ts.length cap] 25)) := ⟨by simp, by simp, by simp, h.below (B := 0) hb0, World.ownsRow_nil _ _ _ _, Below.refl _ _⟩
  have HB0 : Hid (Below w.heap.size w (w.alloc (.cells #[.string s, .int .i64 sh, .slice a ts.length cap] 25))) := hb0
  have HK0 : Hid (TV (w.alloc (.cells #[.string s, .int .i64 sh, .slice a ts.length cap] 25)) w.heap.size (.string s) (.int .i64 sh) (.slice a ts.length cap) a ts (.slice none 0 0) [] (w.alloc (.cells #[.string s, .int .i64 sh, .slice a ts.length cap] 25))) := K0
  have HK1 : Hid (TV (w.alloc (.cells #[.string s, .int .i64 sh, .slice a ts.length cap] 25)) w.heap.size (.string s) (.int .i64 sh) (.slice a ts.length cap) a ts (.slice (some ⟨w.heap.size + 1, 0, none⟩) 0 0) [] ((w.alloc (.cells #[.string s, .int .i64 sh, .slice a ts.length cap] 25)).alloc (.cells #[] 3))) := by
    obtain ⟨a0, a1, a2, a3, _, a5⟩ := K0.on ((Below.refl _ _).alloc (Nat.le_refl _) (.cells #[] 3))
    have := OI.lit0 (w.alloc (.cells #[.string s, .int .i64 sh, .slice a ts.length cap] 25)) (w.heap.size + 1) (by simp)
    rw [World.size_alloc] at this
    exact ⟨a0, a1, a2, a3, this, a5⟩
  clear h ok hb0 K0
  go_enter Try.func43, Try.ntmps43
  go_wp2
  go_loopw [5, 6, 7, 8, 9] (fun v i _ _ _ wr => ∃ k : Nat, k ≤ ts.length + 1 ∧ i = .int .i64 ((k : Int) - 1) ∧ TV (w.alloc (.cells #[.string s, .int .i64 sh, .slice a ts.length cap] 25)) w.heap.size (.string s) (.int .i64 sh) (.slice a ts.length cap) a ts v (ztl sh ts loc k) wr) (fun _ i _ _ _ _ => ts.length + 1 - (intOf i + 1).toNat)
  case atStart => exact ⟨0, by omega, rfl, HK1.out⟩
  case round =>
    clear HK1
    obtain ⟨k, hk, rfl, K⟩ := hrel
    have hl : ts.length ≤ 2000000 := by omega
    by_cases hlt : k < ts.length + 1
    · have lb := lsh_in hs OK.out k (by omega)
      have HT2 := K.2.2.2.1
      have hi1 : (k : Int) - 1 < (ts.length : Int) := by omega
      have zl := ztl_len sh ts loc k
      have hF : zfrom ts k = if k = 0 then 0 else tAt ts (k - 1) := rfl
      have hTo : zto ts k = if k < ts.length then tAt ts k - 1 else 5258964959 := rfl
      have key : ∀ c : Bool, zin sh ts loc k = c → inB (loc - lsh sh ts k) (zfrom ts k) (zto ts k) = c := fun c hc => by rw [← hc]; rfl
      cases hz : zin sh ts loc k with
      | true =>
        have hb := key true hz
        have HZ : Hid (ztl sh ts loc (k + 1) = ztl sh ts loc k ++ [loc - lsh sh ts k]) := ztl_yes hz
        clear hz key hF hTo
        by_cases hk0 : k = 0
        · by_cases hkn : k < ts.length
          · subst hk0
            have HL : Hid (lsh sh ts 0 = sh) := if_pos rfl
            have HF : Hid (zfrom ts 0 = 0) := if_pos rfl
            rw [HL.out] at HZ hb lb; rw [HF.out] at hb
            have HTo : Hid (zto ts 0 = tAt ts 0 - 1) := if_pos hkn
            rw [HTo.out] at hb
            rcases HT2 with HT2 | ⟨b, off, rfl, hbs, hc⟩
            · rw [HT2] at hkn; simp at hkn
            have c0 : wr.cell? ⟨b, off, none⟩ = some (.int .i64 (tAt ts 0)) := by simpa using (hc 0 hkn).1
            have tb := (OK.out.2 0 hkn).1
            have hi2 : (0 : Int) < (ts.length : Int) := by omega
            clear hc
            have e1 : ((0 : Nat) : Int) - 1 = -1 := rfl
            rw [e1]
            clear e1 hi1
            have hi1 : (-1 : Int) < (ts.length : Int) := by omega
            go_wp2_with (first
              | (go_at_call 40; refine (specInR _ _ _ _ true hb).mono ?_; rintro e w' ⟨rfl, rfl⟩)
              | (at_builtin; refine wpList_append_own _ rfl _ _ 33 rfl (w.heap.size + 1) 3 i0 (.int .i64 0) 1 8 Try.underlying33 hi hz0 hz1 hz2 rfl (by decide) _ _ _ rfl (World.ownsRow.alloc K.2.2.2.2.1 _) ⟨_, 0, none⟩ 1 1 [.int .i64 (loc - sh)] rfl rfl (cell_one_new _ _ _) (by simp [Value.oneCell']) (by unfold maxLen; omega) (by omega) (by have := K.2.2.2.2.2.size; simp at this; simp; omega) ?_; intro v' w4 hown hgrow _; have K4 := TV.app HK0.out (by simp) K hown hgrow; clear hown hgrow K))
            go_roundw
            case rel => exact ⟨0 + 1, by omega, by go_num, by rw [HZ.out]; exact K4⟩
            case measure => first | (simp [intOf]; done) | (simp [intOf]; omega)
          · subst hk0
            have HL : Hid (lsh sh ts 0 = sh) := if_pos rfl
            have HF : Hid (zfrom ts 0 = 0) := if_pos rfl
            rw [HL.out] at HZ hb lb; rw [HF.out] at hb
            have HTo : Hid (zto ts 0 = 5258964959) := if_neg hkn
            rw [HTo.out] at hb
            have hi2 : ¬ (0 : Int) < (ts.length : Int) := by omega
            have e1 : ((0 : Nat) : Int) - 1 = -1 := rfl
            rw [e1]
            clear e1 hi1
            have hi1 : (-1 : Int) < (ts.length : Int) := by omega
            go_wp2_with (first
              | (go_at_call 40; refine (specInR _ _ _ _ true hb).mono ?_; rintro e w' ⟨rfl, rfl⟩)
              | (at_builtin; refine wpList_append_own _ rfl _ _ 33 rfl (w.heap.size + 1) 3 i0 (.int .i64 0) 1 8 Try.underlying33 hi hz0 hz1 hz2 rfl (by decide) _ _ _ rfl (World.ownsRow.alloc K.2.2.2.2.1 _) ⟨_, 0, none⟩ 1 1 [.int .i64 (loc - sh)] rfl rfl (cell_one_new _ _ _) (by simp [Value.oneCell']) (by unfold maxLen; omega) (by omega) (by have := K.2.2.2.2.2.size; simp at this; simp; omega) ?_; intro v' w4 hown hgrow _; have K4 := TV.app HK0.out (by simp) K hown hgrow; clear hown hgrow K))
            go_roundw
            case rel => exact ⟨0 + 1, by omega, by go_num, by rw [HZ.out]; exact K4⟩
            case measure => first | (simp [intOf]; done) | (simp [intOf]; omega)
        · by_cases hkn : k < ts.length
          · obtain ⟨j, rfl⟩ : ∃ j, k = j + 1 := ⟨k - 1, by omega⟩
            have HL : Hid (lsh sh ts (j + 1) = tSh ts j) := by unfold Hid lsh; rw [if_neg (by omega), Nat.add_sub_cancel]
            have HF : Hid (zfrom ts (j + 1) = tAt ts j) := by unfold Hid zfrom; rw [if_neg (by omega), Nat.add_sub_cancel]
            rw [HL.out] at HZ hb lb; rw [HF.out] at hb
            rcases HT2 with HT2 | ⟨b, off, rfl, hbs, hc⟩
            · rw [HT2] at hlt; simp at hlt
            have c0 : wr.cell? ⟨b, off + j * 2, none⟩ = some (.int .i64 (tAt ts j)) := (hc j (by omega)).1
            have c1 : wr.cell? ⟨b, off + j * 2 + 1, none⟩ = some (.int .i64 (tSh ts j)) := (hc j (by omega)).2
            have HTo : Hid (zto ts (j + 1) = tAt ts (j + 1) - 1) := if_pos hkn
            rw [HTo.out] at hb
            have c2 : wr.cell? ⟨b, off + (j + 1) * 2, none⟩ = some (.int .i64 (tAt ts (j + 1))) := (hc (j + 1) hkn).1
            have tb := (OK.out.2 (j + 1) hkn).1
            have hi2 : (j : Int) + 1 < (ts.length : Int) := by omega
            have hi3 : (0 : Int) ≤ (j : Int) + 1 := by omega
            clear hc
            have e1 : ((j + 1 : Nat) : Int) - 1 = (j : Int) := by omega
            rw [e1]
            clear e1 hi1
            have hi1 : (j : Int) < (ts.length : Int) := by omega
            have hi0 : (0 : Int) ≤ (j : Int) := by omega
            go_wp2_with (first
              | (go_at_call 40; refine (specInR _ _ _ _ true hb).mono ?_; rintro e w' ⟨rfl, rfl⟩)
              | (at_builtin; refine wpList_append_own _ rfl _ _ 33 rfl (w.heap.size + 1) 3 i0 (.int .i64 0) 1 8 Try.underlying33 hi hz0 hz1 hz2 rfl (by decide) _ _ _ rfl (World.ownsRow.alloc K.2.2.2.2.1 _) ⟨_, 0, none⟩ 1 1 [.int .i64 (loc - tSh ts j)] rfl rfl (cell_one_new _ _ _) (by simp [Value.oneCell']) (by unfold maxLen; omega) (by omega) (by have := K.2.2.2.2.2.size; simp at this; simp; omega) ?_; intro v' w4 hown hgrow _; have K4 := TV.app HK0.out (by simp) K hown hgrow; clear hown hgrow K))
            go_roundw
            case rel => exact ⟨j + 1 + 1, by omega, by go_num, by rw [HZ.out]; exact K4⟩
            case measure => first | (simp [intOf]; done) | (simp [intOf]; omega)
          · obtain ⟨j, rfl⟩ : ∃ j, k = j + 1 := ⟨k - 1, by omega⟩
            have HL : Hid (lsh sh ts (j + 1) = tSh ts j) := by unfold Hid lsh; rw [if_neg (by omega), Nat.add_sub_cancel]
            have HF : Hid (zfrom ts (j + 1) = tAt ts j) := by unfold Hid zfrom; rw [if_neg (by omega), Nat.add_sub_cancel]
            rw [HL.out] at HZ hb lb; rw [HF.out] at hb
            rcases HT2 with HT2 | ⟨b, off, rfl, hbs, hc⟩
            · rw [HT2] at hlt; simp at hlt
            have c0 : wr.cell? ⟨b, off + j * 2, none⟩ = some (.int .i64 (tAt ts j)) := (hc j (by omega)).1
            have c1 : wr.cell? ⟨b, off + j * 2 + 1, none⟩ = some (.int .i64 (tSh ts j)) := (hc j (by omega)).2
            have HTo : Hid (zto ts (j + 1) = 5258964959) := if_neg hkn
            rw [HTo.out] at hb
            have hi2 : ¬ (j : Int) + 1 < (ts.length : Int) := by omega
            clear hc
            have e1 : ((j + 1 : Nat) : Int) - 1 = (j : Int) := by omega
            rw [e1]
            clear e1 hi1
            have hi1 : (j : Int) < (ts.length : Int) := by omega
            have hi0 : (0 : Int) ≤ (j : Int) := by omega
            go_wp2_with (first
              | (go_at_call 40; refine (specInR _ _ _ _ true hb).mono ?_; rintro e w' ⟨rfl, rfl⟩)
              | (at_builtin; refine wpList_append_own _ rfl _ _ 33 rfl (w.heap.size + 1) 3 i0 (.int .i64 0) 1 8 Try.underlying33 hi hz0 hz1 hz2 rfl (by decide) _ _ _ rfl (World.ownsRow.alloc K.2.2.2.2.1 _) ⟨_, 0, none⟩ 1 1 [.int .i64 (loc - tSh ts j)] rfl rfl (cell_one_new _ _ _) (by simp [Value.oneCell']) (by unfold maxLen; omega) (by omega) (by have := K.2.2.2.2.2.size; simp at this; simp; omega) ?_; intro v' w4 hown hgrow _; have K4 := TV.app HK0.out (by simp) K hown hgrow; clear hown hgrow K))
            go_roundw
            case rel => exact ⟨j + 1 + 1, by omega, by go_num, by rw [HZ.out]; exact K4⟩
            case measure => first | (simp [intOf]; done) | (simp [intOf]; omega)
      | false =>
        have hb := key false hz
        have HZ : Hid (ztl sh ts loc (k + 1) = ztl sh ts loc k) := ztl_no hz
        clear hz key hF hTo
        by_cases hk0 : k = 0
        · by_cases hkn : k < ts.length
          · subst hk0
            have HL : Hid (lsh sh ts 0 = sh) := if_pos rfl
            have HF : Hid (zfrom ts 0 = 0) := if_pos rfl
            rw [HL.out] at hb lb; rw [HF.out] at hb
            have HTo : Hid (zto ts 0 = tAt ts 0 - 1) := if_pos hkn
            rw [HTo.out] at hb
            rcases HT2 with HT2 | ⟨b, off, rfl, hbs, hc⟩
            · rw [HT2] at hkn; simp at hkn
            have c0 : wr.cell? ⟨b, off, none⟩ = some (.int .i64 (tAt ts 0)) := by simpa using (hc 0 hkn).1
            have tb := (OK.out.2 0 hkn).1
            have hi2 : (0 : Int) < (ts.length : Int) := by omega
            clear hc
            have e1 : ((0 : Nat) : Int) - 1 = -1 := rfl
            rw [e1]
            clear e1 hi1
            have hi1 : (-1 : Int) < (ts.length : Int) := by omega
            go_wp2_with (first
              | (go_at_call 40; refine (specInR _ _ _ _ false hb).mono ?_; rintro e w' ⟨rfl, rfl⟩))
            go_roundw
            case rel => exact ⟨0 + 1, by omega, by go_num, by rw [HZ.out]; exact K⟩
            case measure => first | (simp [intOf]; done) | (simp [intOf]; omega)
          · subst hk0
            have HL : Hid (lsh sh ts 0 = sh) := if_pos rfl
            have HF : Hid (zfrom ts 0 = 0) := if_pos rfl
            rw [HL.out] at hb lb; rw [HF.out] at hb
            have HTo : Hid (zto ts 0 = 5258964959) := if_neg hkn
            rw [HTo.out] at hb
            have hi2 : ¬ (0 : Int) < (ts.length : Int) := by omega
            have e1 : ((0 : Nat) : Int) - 1 = -1 := rfl
            rw [e1]
            clear e1 hi1
            have hi1 : (-1 : Int) < (ts.length : Int) := by omega
            go_wp2_with (first
              | (go_at_call 40; refine (specInR _ _ _ _ false hb).mono ?_; rintro e w' ⟨rfl, rfl⟩))
            go_roundw
            case rel => exact ⟨0 + 1, by omega, by go_num, by rw [HZ.out]; exact K⟩
            case measure => first | (simp [intOf]; done) | (simp [intOf]; omega)
        · by_cases hkn : k < ts.length
          · obtain ⟨j, rfl⟩ : ∃ j, k = j + 1 := ⟨k - 1, by omega⟩
            have HL : Hid (lsh sh ts (j + 1) = tSh ts j) := by unfold Hid lsh; rw [if_neg (by omega), Nat.add_sub_cancel]
            have HF : Hid (zfrom ts (j + 1) = tAt ts j) := by unfold Hid zfrom; rw [if_neg (by omega), Nat.add_sub_cancel]
            rw [HL.out] at hb lb; rw [HF.out] at hb
            rcases HT2 with HT2 | ⟨b, off, rfl, hbs, hc⟩
            · rw [HT2] at hlt; simp at hlt
            have c0 : wr.cell? ⟨b, off + j * 2, none⟩ = some (.int .i64 (tAt ts j)) := (hc j (by omega)).1
            have c1 : wr.cell? ⟨b, off + j * 2 + 1, none⟩ = some (.int .i64 (tSh ts j)) := (hc j (by omega)).2
            have HTo : Hid (zto ts (j + 1) = tAt ts (j + 1) - 1) := if_pos hkn
            rw [HTo.out] at hb
            have c2 : wr.cell? ⟨b, off + (j + 1) * 2, none⟩ = some (.int .i64 (tAt ts (j + 1))) := (hc (j + 1) hkn).1
            have tb := (OK.out.2 (j + 1) hkn).1
            have hi2 : (j : Int) + 1 < (ts.length : Int) := by omega
            have hi3 : (0 : Int) ≤ (j : Int) + 1 := by omega
            clear hc
            have e1 : ((j + 1 : Nat) : Int) - 1 = (j : Int) := by omega
            rw [e1]
            clear e1 hi1
            have hi1 : (j : Int) < (ts.length : Int) := by omega
            have hi0 : (0 : Int) ≤ (j : Int) := by omega
            go_wp2_with (first
              | (go_at_call 40; refine (specInR _ _ _ _ false hb).mono ?_; rintro e w' ⟨rfl, rfl⟩))
            go_roundw
            case rel => exact ⟨j + 1 + 1, by omega, by go_num, by rw [HZ.out]; exact K⟩
            case measure => first | (simp [intOf]; done) | (simp [intOf]; omega)
          · obtain ⟨j, rfl⟩ : ∃ j, k = j + 1 := ⟨k - 1, by omega⟩
            have HL : Hid (lsh sh ts (j + 1) = tSh ts j) := by unfold Hid lsh; rw [if_neg (by omega), Nat.add_sub_cancel]
            have HF : Hid (zfrom ts (j + 1) = tAt ts j) := by unfold Hid zfrom; rw [if_neg (by omega), Nat.add_sub_cancel]
            rw [HL.out] at hb lb; rw [HF.out] at hb
            rcases HT2 with HT2 | ⟨b, off, rfl, hbs, hc⟩
            · rw [HT2] at hlt; simp at hlt
            have c0 : wr.cell? ⟨b, off + j * 2, none⟩ = some (.int .i64 (tAt ts j)) := (hc j (by omega)).1
            have c1 : wr.cell? ⟨b, off + j * 2 + 1, none⟩ = some (.int .i64 (tSh ts j)) := (hc j (by omega)).2
            have HTo : Hid (zto ts (j + 1) = 5258964959) := if_neg hkn
            rw [HTo.out] at hb
            have hi2 : ¬ (j : Int) + 1 < (ts.length : Int) := by omega
            clear hc
            have e1 : ((j + 1 : Nat) : Int) - 1 = (j : Int) := by omega
            rw [e1]
            clear e1 hi1
            have hi1 : (j : Int) < (ts.length : Int) := by omega
            have hi0 : (0 : Int) ≤ (j : Int) := by omega
            go_wp2_with (first
              | (go_at_call 40; refine (specInR _ _ _ _ false hb).mono ?_; rintro e w' ⟨rfl, rfl⟩))
            go_roundw
            case rel => exact ⟨j + 1 + 1, by omega, by go_num, by rw [HZ.out]; exact K⟩
            case measure => first | (simp [intOf]; done) | (simp [intOf]; omega)
    · have hkk : k = ts.length + 1 := by omega
      subst hkk
      have hi1 : ¬ ((ts.length + 1 : Nat) : Int) - 1 < (ts.length : Int) := by omega
      go_wp2
      go_ret
      exact ⟨_, rfl, OI.base K.2.2.2.2.1 (by omega), HB0.out.trans (K.2.2.2.2.2.mono (by omega))⟩
set_option maxHeartbeats 8000000 in
theorem specZoneTimes (s : ByteArray) (sh : Int) (a : Option Addr) (cap : Nat) (ts : List (Int × Int)) (x : Int) (w : World) (h : IsTurns w a ts) (hl : ts.length ≤ 2000000) (hs : s.size ≤ maxLen) (r : Bool) (hr : r = true ↔ TrOk ts) :
    Calls Try.prog 20 #[.agg #[.string s, .int .i64 sh, .slice a ts.length cap], .int .i64 x] w fun e w' => ∃ v, e = .returned v ∧ OI w' w.heap.size v (ztz s sh ts r x) ∧ Below w.heap.size w w' := by
  have hb0 := (Below.refl w.heap.size w).alloc (Nat.le_refl _) (.cells #[.string s, .int .i64 sh, .slice a ts.length cap] 25)
  have HT : Hid (IsTurns (w.alloc (.cells #[.string s, .int .i64 sh, .slice a ts.length cap] 25)) a ts) := h.below (B := 0) hb0
  have HR : Hid (r = true ↔ TrOk ts) := hr
  clear h hr
  cases hz : znB s sh r with
  | false =>
    have HV : Hid (ztz s sh ts r x = []) := if_neg (by rw [hz]; exact fun h => Bool.noConfusion h.1)
    have HZ : Hid (znB s sh r = false) := hz
    clear hz
    go_enter Try.func20, Try.ntmps20
    go_wp2_with fail
    refine (specZoneOk s sh a cap ts _ HT.out hl hs r HR.out).mono ?_
    rintro e w1 ⟨rfl, hb1⟩
    rw [HZ.out]
    have hbw := bstep hb0 hb1
    go_wp2
    go_ret
    refine ⟨.slice (some ⟨w1.heap.size, 0, none⟩) 0 0, rfl, ?_, hbw.alloc hbw.size _⟩
    rw [HV.out]
    exact OI.lit0 _ _ hbw.size
  | true =>
    have HZ : Hid (znB s sh r = true) := hz
    cases ht : tiB x with
    | false =>
      have HV : Hid (ztz s sh ts r x = []) := if_neg (by rw [ht]; exact fun h => Bool.noConfusion h.2)
      clear hz
      go_enter Try.func20, Try.ntmps20
      go_wp2_with fail
      refine (specZoneOk s sh a cap ts _ HT.out hl hs r HR.out).mono ?_
      rintro e w1 ⟨rfl, hb1⟩
      rw [HZ.out]
      have hbw := bstep hb0 hb1
      go_wp2_with (first | (go_at_call 35; refine (specTime _ _ false ht).mono ?_; rintro e w' ⟨rfl, rfl⟩))
      go_ret
      refine ⟨.slice (some ⟨_, 0, none⟩) 0 0, rfl, ?_, hbw.alloc hbw.size _⟩
      rw [HV.out]
      exact OI.lit0 _ _ hbw.size
    | true =>
      have HV : Hid (ztz s sh ts r x = ztl sh ts x (ts.length + 1)) := if_pos ⟨hz, ht⟩
      have xb := (ti_iff _).1 ht
      obtain ⟨ok, sb⟩ := zn_parts hz HR.out
      have OK : Hid (TrOk ts) := ok
      clear hz ok
      go_enter Try.func20, Try.ntmps20
      go_wp2_with fail
      refine (specZoneOk s sh a cap ts _ HT.out hl hs r HR.out).mono ?_
      rintro e w1 ⟨rfl, hb1⟩
      rw [HZ.out]
      have T1 := HT.out.below (B := 0) hb1
      have hbw := bstep hb0 hb1
      have C : w1.cell? ⟨w.heap.size, 0, none⟩ = some (.string s) ∧ w1.cell? ⟨w.heap.size, 1, none⟩ = some (.int .i64 sh) ∧ w1.cell? ⟨w.heap.size, 2, none⟩ = some (.slice a ts.length cap) := by
        obtain ⟨hc, hf⟩ := bcell hb1
        exact ⟨by rw [hc _ _ (by simp)]; simp, by rw [hc _ _ (by simp)]; simp, by rw [hc _ _ (by simp)]; simp⟩
      obtain ⟨c0, c1, c2⟩ := C
      clear hb1 hb0
      go_wp2_with (first
        | (go_at_call 35; refine (specTime _ _ true ht).mono ?_; rintro e w' ⟨rfl, rfl⟩)
        | (go_at_call 43; refine (specTimes s sh a cap ts x _ T1 OK.out sb xb.1 xb.2).mono ?_; rintro e w3 ⟨v, rfl, O, hb3⟩; have B := bstep hbw hb3; have O2 := OI.base O (B' := w.heap.size) hbw.size; clear O))
      go_ret
      exact ⟨_, rfl, by rw [HV.out]; exact O2, B⟩
/-- The time of a zone's time, if the zone is ok and asked for a time. -/
def zwz (s : ByteArray) (sh : Int) (r : Bool) (x q : Int) : Int := if znB s sh r = true ∧ tiB x = true then q else -1
set_option maxHeartbeats 8000000 in
theorem implZoneWorld (s : ByteArray) (sh : Int) (a : Option Addr) (cap : Nat) (ts : List (Int × Int)) (x : Int) (q : Int) (w : World) (h : IsTurns w a ts) (hl : ts.length ≤ 2000000) (hs : s.size ≤ maxLen) (r : Bool) (hr : r = true ↔ TrOk ts) (HQ : Hid (ZW sh ts x q)) :
    Calls Try.prog 23 #[.agg #[.string s, .int .i64 sh, .slice a ts.length cap], .int .i64 x] w fun e w' => e = .returned (.int .i64 (zwz s sh r x q)) ∧ Below w.heap.size w w' := by
  have hb0 := (Below.refl w.heap.size w).alloc (Nat.le_refl _) (.cells #[.string s, .int .i64 sh, .slice a ts.length cap] 25)
  have HT : Hid (IsTurns (w.alloc (.cells #[.string s, .int .i64 sh, .slice a ts.length cap] 25)) a ts) := h.below (B := 0) hb0
  have HR : Hid (r = true ↔ TrOk ts) := hr
  clear h hr
  cases hz : znB s sh r with
  | false =>
    have HV : Hid (zwz s sh r x q = -1) := if_neg (by rw [hz]; exact fun h => Bool.noConfusion h.1)
    have HZ : Hid (znB s sh r = false) := hz
    clear hz
    go_enter Try.func23, Try.ntmps23
    go_wp2_with fail
    refine (implZoneOk s sh a cap ts _ HT.out hl hs r HR.out).mono ?_
    rintro e w1 ⟨rfl, hb1⟩
    rw [HZ.out]
    have hbw := bstep hb0 hb1
    go_wp2
    go_ret
    exact ⟨ret_i HV.out.symm, hbw⟩
  | true =>
    have HZ : Hid (znB s sh r = true) := hz
    cases ht : tiB x with
    | false =>
      have HV : Hid (zwz s sh r x q = -1) := if_neg (by rw [ht]; exact fun h => Bool.noConfusion h.2)
      clear hz
      go_enter Try.func23, Try.ntmps23
      go_wp2_with fail
      refine (implZoneOk s sh a cap ts _ HT.out hl hs r HR.out).mono ?_
      rintro e w1 ⟨rfl, hb1⟩
      rw [HZ.out]
      have hbw := bstep hb0 hb1
      go_wp2_with (first | (go_at_call 33; refine (implTime _ _ false ht).mono ?_; rintro e w' ⟨rfl, rfl⟩))
      go_ret
      exact ⟨ret_i HV.out.symm, hbw⟩
    | true =>
      have HV : Hid (zwz s sh r x q = q) := if_pos ⟨hz, ht⟩
      have xb := (ti_iff _).1 ht
      obtain ⟨ok, sb⟩ := zn_parts hz HR.out
      have OK : Hid (TrOk ts) := ok
      clear hz ok
      go_enter Try.func23, Try.ntmps23
      go_wp2_with fail
      refine (implZoneOk s sh a cap ts _ HT.out hl hs r HR.out).mono ?_
      rintro e w1 ⟨rfl, hb1⟩
      rw [HZ.out]
      have T1 := HT.out.below (B := 0) hb1
      have hbw := bstep hb0 hb1
      have C : w1.cell? ⟨w.heap.size, 0, none⟩ = some (.string s) ∧ w1.cell? ⟨w.heap.size, 1, none⟩ = some (.int .i64 sh) ∧ w1.cell? ⟨w.heap.size, 2, none⟩ = some (.slice a ts.length cap) := by
        obtain ⟨hc, hf⟩ := bcell hb1
        exact ⟨by rw [hc _ _ (by simp)]; simp, by rw [hc _ _ (by simp)]; simp, by rw [hc _ _ (by simp)]; simp⟩
      obtain ⟨c0, c1, c2⟩ := C
      clear hb1 hb0
      by_cases hn : ts = []
      · subst hn
        go_wp2_with (first | (go_at_call 33; refine (implTime _ _ true ht).mono ?_; rintro e w' ⟨rfl, rfl⟩))
        refine (implClock_no s sh a cap _).mono ?_
        rintro e w2 ⟨rfl, hb2⟩
        have hb := bstep hbw (hb2)
        go_wp2_with (first | (go_at_call 44; refine (implClockWorld_no sh x q _ sb xb.1 xb.2 HQ.out).mono ?_; rintro e w3 ⟨rfl, hb3⟩; have B := bstep hb hb3))
        go_ret
        exact ⟨ret_i HV.out.symm, B⟩
      · have hpos : 0 < ts.length := List.length_pos_iff.2 hn
        go_wp2_with (first | (go_at_call 33; refine (implTime _ _ true ht).mono ?_; rintro e w' ⟨rfl, rfl⟩))
        refine (implClock_yes s sh a ts.length cap _ hpos hl).mono ?_
        rintro e w2 ⟨rfl, hb2⟩
        have T2 := T1.below (B := 0) hb2
        have hb := bstep hbw (hb2)
        go_wp2_with (first | (go_at_call 44; refine (implClockWorld_yes sh a cap ts x q _ T2 OK.out sb xb.1 xb.2 HQ.out).mono ?_; rintro e w3 ⟨rfl, hb3⟩; have B := bstep hb hb3))
        go_ret
        exact ⟨ret_i HV.out.symm, B⟩
/-- The time before it is asked whether it is one. -/
def RW (sh : Int) (ts : List (Int × Int)) (loc q : Int) : Prop :=
  (∃ l, ztl sh ts loc (ts.length + 1) = q :: l) ∨
  (ztl sh ts loc (ts.length + 1) = [] ∧ ((∃ i, i < ts.length ∧ Skip sh ts loc i ∧ q = loc - lsh sh ts i) ∨ ((∀ i, i < ts.length → ¬ Skip sh ts loc i) ∧ q = -1)))
theorem RW.of {sh : Int} {ts : List (Int × Int)} {loc r : Int} (hs : -1440 ≤ sh ∧ sh ≤ 1440) (ok : TrOk ts) (h : ZW sh ts loc r) : ∃ q, RW sh ts loc q ∧ r = if tiB q = true then q else -1 := by
  rcases h with ⟨l, e⟩ | ⟨e, ⟨i, hi, hk, e2⟩ | ⟨hn, e2⟩⟩
  · exact ⟨r, .inl ⟨l, e⟩, by rw [if_pos (ztl_bd hs ok (Nat.le_refl _) (by rw [e]; simp))]⟩
  · exact ⟨_, .inr ⟨e, .inl ⟨i, hi, hk, rfl⟩⟩, e2⟩
  · exact ⟨-1, .inr ⟨e, .inr ⟨hn, rfl⟩⟩, by rw [e2]; split <;> rfl⟩
theorem RW.bd {sh : Int} {ts : List (Int × Int)} {loc q : Int} (hs : -1440 ≤ sh ∧ sh ≤ 1440) (ok : TrOk ts) (h0 : 0 ≤ loc) (h1 : loc ≤ 5258964959) (h : RW sh ts loc q) : -10000 ≤ q ∧ q ≤ 6000000000 := by
  rcases h with ⟨l, e⟩ | ⟨e, ⟨i, hi, hk, e2⟩ | ⟨hn, e2⟩⟩
  · have := (ti_iff _).1 (ztl_bd hs ok (Nat.le_refl _) (x := q) (by rw [e]; simp)); omega
  · have := lsh_in hs ok i (by omega); omega
  · omega
set_option maxRecDepth 100000 in
set_option maxHeartbeats 16000000 in
theorem specWorld (s : ByteArray) (sh : Int) (a : Option Addr) (cap : Nat) (ts : List (Int × Int)) (loc q : Int) (w : World) (h : IsTurns w a ts) (ok : TrOk ts) (hs : -1440 ≤ sh ∧ sh ≤ 1440) (h0 : 0 ≤ loc) (h1 : loc ≤ 5258964959) (hq : RW sh ts loc q) :
    Calls Try.prog 45 #[.agg #[.string s, .int .i64 sh, .slice a ts.length cap], .int .i64 loc] w fun e w' => e = .returned (.int .i64 q) ∧ Below w.heap.size w w' := by
  have h8 : ts.length ≤ 8 := ok.1
  have OK : Hid (TrOk ts) := ok
  have hb0 := (Below.refl w.heap.size w).alloc (Nat.le_refl _) (.cells #[.string s, .int .i64 sh, .slice a ts.length cap] 25)
  have T0 := h.below (B := 0) hb0
  clear h ok
  cases hl : ztl sh ts loc (ts.length + 1) with
  | cons x l =>
    have HV : Hid (q = x) := by
      rcases hq with ⟨l', e⟩ | ⟨e, _⟩
      · rw [hl] at e; cases e; rfl
      · rw [hl] at e; cases e
    have HL : Hid (ztl sh ts loc (ts.length + 1) = x :: l) := hl
    have ll := ztl_len sh ts loc (ts.length + 1)
    rw [hl] at ll
    simp only [List.length_cons] at ll
    clear hl hq
    go_enter Try.func45, Try.ntmps45
    go_wp2_with fail
    refine (specTimes s sh a cap ts loc _ T0 OK.out hs h0 h1).mono ?_
    rintro e w2 ⟨v, rfl, O, hb2⟩
    have B := bstep hb0 hb2
    rw [HL.out] at O
    obtain ⟨a2, cap2, rfl, I, _, hc⟩ := O.val
    clear O
    rcases I with I | ⟨b, off, rfl, hbs, hcell⟩
    · cases I
    have c0 : w2.cell? ⟨b, off, none⟩ = some (.int .i64 x) := hcell 0 (by simp)
    clear hcell hb2
    go_wp2
    go_ret
    exact ⟨ret_i HV.out.symm, B⟩
  | nil =>
    have HQ : Hid ((∃ i, i < ts.length ∧ Skip sh ts loc i ∧ q = loc - lsh sh ts i) ∨ ((∀ i, i < ts.length → ¬ Skip sh ts loc i) ∧ q = -1)) := by
      rcases hq with ⟨l, e⟩ | ⟨_, e⟩
      · rw [hl] at e; cases e
      · exact e
    have HL : Hid (ztl sh ts loc (ts.length + 1) = []) := hl
    clear hl hq
    go_enter Try.func45, Try.ntmps45
    go_wp2_with fail
    refine (specTimes s sh a cap ts loc _ T0 OK.out hs h0 h1).mono ?_
    rintro e w2 ⟨v, rfl, O, hb2⟩
    have B := bstep hb0 hb2
    have T2 := T0.below (B := 0) hb2
    have C : C3 w2 w.heap.size (.string s) (.int .i64 sh) (.slice a ts.length cap) := C3.on (C3.new w _ _ _ _) hb2
    obtain ⟨z0, z1, z2⟩ := C
    rw [HL.out] at O
    obtain ⟨a2, cap2, rfl, _, _, hc⟩ := O.val
    clear O hb2 hb0 T0
    have hl0 : ([] : List Int).length = 0 := rfl
    rw [hl0]
    have HB : Hid (Below w.heap.size w w2) := B
    have HT2 : Hid (IsTurns w2 a ts) := T2
    clear B T2
    go_wp2
    go_loopw [6, 7] (fun i _ wr => ∃ k : Nat, k ≤ ts.length ∧ i = .int .i64 k ∧ (∀ j, j < k → ¬ Skip sh ts loc j) ∧ Below w2.heap.size w2 wr) (fun i _ _ => ts.length - (intOf i).toNat)
    case atStart => exact ⟨0, by omega, rfl, fun j hj => by omega, Below.refl _ _⟩
    case round =>
      obtain ⟨k, hk, rfl, ha, hb⟩ := hrel
      have HA : Hid (∀ j, j < k → ¬ Skip sh ts loc j) := ha
      clear ha
      obtain ⟨z0', z1', z2'⟩ := C3.on (w := w2) ⟨z0, z1, z2⟩ hb
      by_cases hlt : k < ts.length
      · have lb := lsh_in hs OK.out k (by omega)
        have sb := (OK.out.2 k hlt).2.1
        have tb := (OK.out.2 k hlt).1
        have G := HT2.out.below (B := 0) hb
        rcases G with G | ⟨b, off, rfl, hbs, hcl⟩
        · rw [G] at hlt; simp at hlt
        have hi1 : (k : Int) < (ts.length : Int) := by omega
        have hi0 : (0 : Int) ≤ (k : Int) := by omega
        have c0 : wr.cell? ⟨b, off + k * 2, none⟩ = some (.int .i64 (tAt ts k)) := (hcl k hlt).1
        have c1 : wr.cell? ⟨b, off + k * 2 + 1, none⟩ = some (.int .i64 (tSh ts k)) := (hcl k hlt).2
        have GO : Hid (¬ Skip sh ts loc k → ∀ j, j < k + 1 → ¬ Skip sh ts loc j) := fun hn j hj => by
          by_cases e : j = k
          · subst e; exact hn
          · exact HA.out j (by omega)
        have YES : Hid (Skip sh ts loc k → q = loc - lsh sh ts k) := fun hy => by
          rcases HQ.out with ⟨i, hi, hsk, e⟩ | ⟨hn, _⟩
          · have : i = k := Skip.uniq hs OK.out hi hlt hsk hy
            subst this; exact e
          · exact absurd hy (hn k hlt)
        by_cases hk0 : k = 0
        · subst hk0
          have hL : lsh sh ts 0 = sh := if_pos rfl
          have HS : Hid (Skip sh ts loc 0 ↔ tAt ts 0 ≤ loc - sh ∧ loc - tSh ts 0 < tAt ts 0) := by unfold Hid Skip; rw [hL]
          rw [hL] at lb YES
          clear hL hcl
          simp only [Nat.zero_mul, Nat.add_zero] at c0 c1
          by_cases g1 : tAt ts 0 ≤ loc - sh
          · have hd1 : decide (tAt ts 0 ≤ loc - sh) = true := by simpa using g1
            by_cases g2 : loc - tSh ts 0 < tAt ts 0
            · have HV : Hid (q = loc - sh) := YES.out (HS.out.2 ⟨g1, g2⟩)
              go_wp2
              go_quiet (fail)
              go_wp2
              go_ret
              exact ⟨ret_i HV.out.symm, Below.drewN' (bstep HB.out hb) _⟩
            · have HG : Hid (∀ j, j < 0 + 1 → ¬ Skip sh ts loc j) := GO.out (fun h => g2 (HS.out.1 h).2)
              go_wp2
              go_quiet (fail)
              go_wp2
              go_roundw
              case rel => exact ⟨0 + 1, by omega, by go_num, HG.out, Below.drewN' hb _⟩
              case measure => first | (simp [intOf]; done) | (simp [intOf]; omega)
          · have hd1 : decide (tAt ts 0 ≤ loc - sh) = false := by simpa using g1
            have HG : Hid (∀ j, j < 0 + 1 → ¬ Skip sh ts loc j) := GO.out (fun h => g1 (HS.out.1 h).1)
            go_wp2
            go_quiet (fail)
            go_wp2
            go_roundw
            case rel => exact ⟨0 + 1, by omega, by go_num, HG.out, Below.drewN' hb _⟩
            case measure => first | (simp [intOf]; done) | (simp [intOf]; omega)
        · obtain ⟨j, rfl⟩ : ∃ j, k = j + 1 := ⟨k - 1, by omega⟩
          have hL : lsh sh ts (j + 1) = tSh ts j := by unfold lsh; rw [if_neg (by omega), Nat.add_sub_cancel]
          have HS : Hid (Skip sh ts loc (j + 1) ↔ tAt ts (j + 1) ≤ loc - tSh ts j ∧ loc - tSh ts (j + 1) < tAt ts (j + 1)) := by unfold Hid Skip; rw [hL]
          rw [hL] at lb YES
          have c2 : wr.cell? ⟨b, off + j * 2 + 1, none⟩ = some (.int .i64 (tSh ts j)) := (hcl j (by omega)).2
          have e1 : ((j + 1 : Nat) : Int) - 1 = (j : Int) := by omega
          have hj1 : (j : Int) < (ts.length : Int) := by omega
          clear hL hcl
          by_cases g1 : tAt ts (j + 1) ≤ loc - tSh ts j
          · have hd1 : decide (tAt ts (j + 1) ≤ loc - tSh ts j) = true := by simpa using g1
            by_cases g2 : loc - tSh ts (j + 1) < tAt ts (j + 1)
            · have HV : Hid (q = loc - tSh ts j) := YES.out (HS.out.2 ⟨g1, g2⟩)
              go_wp2
              go_quiet (fail)
              go_wp2
              go_ret
              exact ⟨ret_i HV.out.symm, Below.drewN' (bstep HB.out hb) _⟩
            · have HG : Hid (∀ i, i < j + 1 + 1 → ¬ Skip sh ts loc i) := GO.out (fun h => g2 (HS.out.1 h).2)
              go_wp2
              go_quiet (fail)
              go_wp2
              go_roundw
              case rel => exact ⟨j + 1 + 1, by omega, by go_num, HG.out, Below.drewN' hb _⟩
              case measure => first | (simp [intOf]; done) | (simp [intOf]; omega)
          · have hd1 : decide (tAt ts (j + 1) ≤ loc - tSh ts j) = false := by simpa using g1
            have HG : Hid (∀ i, i < j + 1 + 1 → ¬ Skip sh ts loc i) := GO.out (fun h => g1 (HS.out.1 h).1)
            go_wp2
            go_quiet (fail)
            go_wp2
            go_roundw
            case rel => exact ⟨j + 1 + 1, by omega, by go_num, HG.out, Below.drewN' hb _⟩
            case measure => first | (simp [intOf]; done) | (simp [intOf]; omega)
      · have HV : Hid (q = -1) := by
          rcases HQ.out with ⟨i, hi, hsk, _⟩ | ⟨_, e⟩
          · exact absurd hsk (HA.out i (by omega))
          · exact e
        go_wp2
        go_ret
        exact ⟨ret_i HV.out.symm, bstep HB.out hb⟩
end Go.Proofs.Ytihklmbblbnihaa
