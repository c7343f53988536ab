/- A time's text and what it reads as. -/
import Derived.Test.YtbbbmdidmnhpmaaDoorTu
import Derived.Test.YtbbbmdidmnhpmaaDoorLExTimeText
namespace Go.Proofs.YtbbbmdidmnhpmaaDoor
open Go.RowKit
set_option linter.unusedVariables false
theorem tT_sizes {y m d h : Nat} (hy : y < 10000) (hm : m < 100) (hd : d < 100) (hh : h < 100) : (dateT y m d ++ (⟨#[84]⟩ : ByteArray)).size = 11 ∧ (dateT y m d ++ (⟨#[84]⟩ : ByteArray) ++ pad h 2).size = 13 ∧ (dateT y m d ++ (⟨#[84]⟩ : ByteArray) ++ pad h 2 ++ (⟨#[58]⟩ : ByteArray)).size = 14 := by
  have a : (⟨#[84]⟩ : ByteArray).size = 1 := rfl
  have b : (⟨#[58]⟩ : ByteArray).size = 1 := rfl
  simp only [ByteArray.size_append, a, b, dateT_size hy hm hd, pad_size (dec_2 hh), and_self]
theorem timeT_size {y m d h i : Nat} (hy : y < 10000) (hm : m < 100) (hd : d < 100) (hh : h < 100) (hi : i < 100) : (timeT y m d h i).size = 16 := by
  unfold timeT
  rw [ByteArray.size_append, (tT_sizes hy hm hd hh).2.2, pad_size (dec_2 hi)]
theorem tT_d {y m d h i : Nat} (hy : y < 10000) (hm : m < 100) (hd : d < 100) (hh : h < 100) (k : Nat) (hk : k < 10) : bt (timeT y m d h i) k = bt (dateT y m d) k := by
  obtain ⟨s1, s2, s3⟩ := tT_sizes hy hm hd hh
  have s0 := dateT_size hy hm hd
  unfold timeT
  rw [bt_left (by omega), bt_left (by omega), bt_left (by omega), bt_left (by omega)]
theorem tT_10 {y m d h i : Nat} (hy : y < 10000) (hm : m < 100) (hd : d < 100) (hh : h < 100) : bt (timeT y m d h i) 10 = 84 := by
  obtain ⟨s1, s2, s3⟩ := tT_sizes hy hm hd hh
  have s0 := dateT_size hy hm hd
  unfold timeT
  rw [bt_left (by omega), bt_left (by omega), bt_left (by omega)]
  exact (bt_right' (i := 0) s0 (by show 0 < 1; omega)).trans rfl
theorem tT_h {y m d h i : Nat} (hy : y < 10000) (hm : m < 100) (hd : d < 100) (hh : h < 100) (k : Nat) (hk : k < 2) : bt (timeT y m d h i) (11 + k) = bt (pad h 2) k := by
  obtain ⟨s1, s2, s3⟩ := tT_sizes hy hm hd hh
  have s4 := pad_size (dec_2 hh)
  unfold timeT
  rw [bt_left (by omega), bt_left (by omega)]
  exact bt_right' s1 (by omega)
theorem tT_13 {y m d h i : Nat} (hy : y < 10000) (hm : m < 100) (hd : d < 100) (hh : h < 100) : bt (timeT y m d h i) 13 = 58 := by
  obtain ⟨s1, s2, s3⟩ := tT_sizes hy hm hd hh
  unfold timeT
  rw [bt_left (by omega)]
  exact (bt_right' (i := 0) s2 (by show 0 < 1; omega)).trans rfl
theorem tT_i {y m d h i : Nat} (hy : y < 10000) (hm : m < 100) (hd : d < 100) (hh : h < 100) (hi : i < 100) (k : Nat) (hk : k < 2) : bt (timeT y m d h i) (14 + k) = bt (pad i 2) k := by
  obtain ⟨s1, s2, s3⟩ := tT_sizes hy hm hd hh
  have s4 := pad_size (dec_2 hi)
  unfold timeT
  exact bt_right' s3 (by omega)
theorem tT_cut {y m d h i : Nat} (hy : y < 10000) (hm : m < 100) (hd : d < 100) (hh : h < 100) (hi : i < 100) : (timeT y m d h i).extract 0 10 = dateT y m d := by
  have sz := timeT_size hy hm hd hh hi
  exact bt_ext (by rw [extract_size (by omega) (by omega), dateT_size hy hm hd]) (fun k hk => by
    rw [extract_size (by omega) (by omega)] at hk
    rw [bt_extract _ _ _ _ (by omega) (by omega), Nat.zero_add]; exact tT_d hy hm hd hh k (by omega))
/-- A time is read back from its text. -/
theorem timeT_get {n : Int} {y m d h i : Nat} (hy : y < 10000) (hm : m < 100) (hd : d < 100) (ok : okD y m d = true) (h0 : 0 ≤ n) (hn : num y m d = n / 1440) (hh : n / 60 % 24 = h) (hi : n % 60 = i) : tgB (timeT y m d h i) = true ∧ tnum (timeT y m d h i) = n := by
  have h2 : h < 100 := by omega
  have i2 : i < 100 := by omega
  have sz := timeT_size hy hm hd h2 i2
  have ec := tT_cut hy hm hd h2 i2
  obtain ⟨g1, g2, g3, g4⟩ := dateT_get hy hm hd ok
  have eh : (timeT y m d h i).extract 11 13 = pad h 2 := bt_ext (by rw [extract_size (by omega) (by omega), pad_size (dec_2 h2)]) (fun k hk => by
    rw [extract_size (by omega) (by omega)] at hk
    rw [bt_extract _ _ _ _ (by omega) (by omega)]; exact tT_h hy hm hd h2 k (by omega))
  have ei : (timeT y m d h i).extract 14 16 = pad i 2 := bt_ext (by rw [extract_size (by omega) (by omega), pad_size (dec_2 i2)]) (fun k hk => by
    rw [extract_size (by omega) (by omega)] at hk
    rw [bt_extract _ _ _ _ (by omega) (by omega)]; exact tT_i hy hm hd h2 i2 k (by omega))
  have fh : th (timeT y m d h i) = h := by unfold th; rw [eh]; exact pad_fg h 2 (by omega) (by omega) (dec_2 h2)
  have fi : tm (timeT y m d h i) = i := by unfold tm; rw [ei]; exact pad_fg i 2 (by omega) (by omega) (dec_2 i2)
  refine ⟨tg_yes ⟨sz, tT_10 hy hm hd h2, tT_13 hy hm hd h2⟩ (by rw [ec]; exact g1) (by rw [fh]; unfold inB; exact decide_eq_true (by omega)) (by rw [fi]; unfold inB; exact decide_eq_true (by omega)), ?_⟩
  unfold tnum
  rw [ec, fh, fi, g2, g3, g4, hn]
  omega
theorem tg_parts {s : ByteArray} (h : tgB s = true) : (s.size = 16 ∧ bt s 10 = 84 ∧ bt s 13 = 58) ∧ getB (s.extract 0 10) = true ∧ (0 ≤ th s ∧ th s ≤ 23) ∧ (0 ≤ tm s ∧ tm s ≤ 59) := by
  unfold tgB inB at h
  simpa using h
/-- A text that reads as a time is that time's. -/
theorem get_timeT {s : ByteArray} (h : tgB s = true) : ∃ y m d a b : Nat, okD y m d = true ∧ num y m d = tnum s / 1440 ∧ y < 10000 ∧ m < 100 ∧ d < 100 ∧ tnum s / 60 % 24 = a ∧ tnum s % 60 = b ∧ tiB (tnum s) = true ∧ timeT y m d a b = s := by
  obtain ⟨⟨sz, s10, s13⟩, hg, h1, h2⟩ := tg_parts h
  obtain ⟨y, m, d, ey, em, ed, hy, hm, hd, ok, e⟩ := get_dateT hg
  have nb := num_bd ok
  have en : tnum s = num y m d * 1440 + th s * 60 + tm s := by unfold tnum; rw [ey, em, ed]
  have ph := fg_pad (s.extract 11 13) 2 (by omega) (extract_size (by omega) (by omega)) (by have : th s = fg (s.extract 11 13) := rfl; omega)
  have pm := fg_pad (s.extract 14 16) 2 (by omega) (extract_size (by omega) (by omega)) (by have : tm s = fg (s.extract 14 16) := rfl; omega)
  have ph' : pad (th s).toNat 2 = s.extract 11 13 := ph
  have pm' : pad (tm s).toNat 2 = s.extract 14 16 := pm
  have a2 : (th s).toNat < 100 := by omega
  have b2 : (tm s).toNat < 100 := by omega
  refine ⟨y, m, d, (th s).toNat, (tm s).toNat, ok, by omega, hy, hm, hd, by omega, by omega, (ti_iff _).2 (by omega), ?_⟩
  apply bt_ext
  · rw [timeT_size hy hm hd a2 b2, sz]
  · rw [timeT_size hy hm hd a2 b2]
    intro i hi
    by_cases h0 : i < 10
    · rw [tT_d hy hm hd a2 i h0, e, bt_extract _ _ _ _ (by omega) (by omega), Nat.zero_add]
    · by_cases h4 : i = 10
      · subst h4; rw [tT_10 hy hm hd a2, s10]
      · by_cases h5 : i < 13
        · obtain ⟨j, rfl⟩ : ∃ j, i = 11 + j := ⟨i - 11, by omega⟩
          rw [tT_h hy hm hd a2 j (by omega), ph', bt_extract _ _ _ _ (by omega) (by omega)]
        · by_cases h7 : i = 13
          · subst h7; rw [tT_13 hy hm hd a2, s13]
          · obtain ⟨j, rfl⟩ : ∃ j, i = 14 + j := ⟨i - 14, by omega⟩
            rw [tT_i hy hm hd a2 b2 j (by omega), pm', bt_extract _ _ _ _ (by omega) (by omega)]
theorem tgB_empty : tgB ByteArray.empty = false := tg_shape (by simp)
/-- What both programs answer at a time, and what is read of it. -/
theorem timeText_all (n : Int) : ∃ T : ByteArray, T.size ≤ 16 ∧ (∀ w0 : World, Calls Tryd.prog 19 #[.int .i64 n] w0 fun e w' => e = .returned (.string T) ∧ Below w0.heap.size w0 w') ∧ (∀ w0 : World, Tab w0 → Pow w0 → Calls Tryd.prog 17 #[.int .i64 n] w0 fun e w' => e = .returned (.string T) ∧ Below w0.heap.size w0 w') ∧
    ((tiB n = true ∧ tgV T = .tuple #[.int .i64 n, .bool true]) ∨ (tiB n = false ∧ tgV T = .tuple #[.int .i64 0, .bool false])) := by
  cases hn : tiB n with
  | true =>
    have hb := (ti_iff n).1 hn
    obtain ⟨y, m, d, ok, hq⟩ := date_ex (n / 1440) (by omega) (by omega)
    obtain ⟨a, b, c, rfl, rfl, rfl, ha, hb', hc⟩ := okD_nat ok
    have eh : n / 60 % 24 = ((n / 60 % 24).toNat : Nat) := by omega
    have ei : n % 60 = ((n % 60).toNat : Nat) := by omega
    obtain ⟨g1, g2⟩ := timeT_get ha hb' hc ok hb.1 hq eh ei
    exact ⟨_, Nat.le_of_eq (timeT_size ha hb' hc (by omega) (by omega)), fun w0 => specTimeText_yes n a b c _ _ w0 hn ok hq ha hb' hc eh ei, fun w0 t p => implTimeText_yes n a b c _ _ w0 t p hn ok hq ha hb' hc eh ei, .inl ⟨rfl, by rw [tgV_yes g1, g2]⟩⟩
  | false => exact ⟨_, by simp, fun w0 => specTimeText_no n w0 hn, fun w0 t p => implTimeText_no n w0 hn, .inr ⟨rfl, tgV_no tgB_empty⟩⟩
/-- What is read of a text, and the text of what is read. -/
theorem timeGet_all (s : ByteArray) : ∃ (n : Int) (r : Bool), tgV s = .tuple #[.int .i64 n, .bool r] ∧ (r = true → ∀ w0 : World, Tab w0 → Pow w0 → Calls Tryd.prog 17 #[.int .i64 n] w0 fun e w' => e = .returned (.string s) ∧ Below w0.heap.size w0 w') := by
  cases h : tgB s with
  | true =>
    obtain ⟨y, m, d, a, b, ok, hq, hy, hm, hd, ea, eb, ht, e⟩ := get_timeT h
    refine ⟨tnum s, true, tgV_yes h, fun _ w0 t p => ?_⟩
    have := implTimeText_yes (tnum s) y m d a b w0 t p ht ok hq hy hm hd ea eb
    rw [e] at this
    exact this
  | false => exact ⟨0, false, tgV_no h, fun h => by cases h⟩
end Go.Proofs.YtbbbmdidmnhpmaaDoor
