/- Figures are read back from their text, and a text from its figures. -/
import Derived.Test.YtbbbmdidmnhpmaaDoorTr
import Derived.Test.YtbbbmdidmnhpmaaDoorTs
import Derived.Test.YtbbbmdidmnhpmaaDoorTd
import Derived.Test.YtbbbmdidmnhpmaaDoorTt
namespace Go.Proofs.YtbbbmdidmnhpmaaDoor
open Go.RowKit
set_option linter.unusedVariables false
theorem bt_ext {a b : ByteArray} (hs : a.size = b.size) (h : ∀ i, i < a.size → bt a i = bt b i) : a = b := by
  apply ByteArray.ext
  apply Array.ext
  · exact hs
  · intro i h1 h2
    have q := h i h1
    rw [bt_get h1, bt_get h2] at q
    have : a[i].toNat = b[i].toNat := by omega
    exact UInt8.toNat_inj.1 this
theorem bt_left {a b : ByteArray} {i : Nat} (h : i < a.size) : bt (a ++ b) i = bt a i := by
  rw [bt_get h, bt_get (by rw [ByteArray.size_append]; omega)]
  rw [ByteArray.getElem_append_left h]
theorem bt_right {a b : ByteArray} {i : Nat} (h : i < b.size) : bt (a ++ b) (a.size + i) = bt b i := by
  rw [bt_get h, bt_get (by rw [ByteArray.size_append]; omega)]
  congr 2
  rw [ByteArray.getElem_append_right (by omega)]
  simp
theorem fv_congr {a b : ByteArray} (k : Nat) (h : ∀ i, i < k → bt a i = bt b i) : fv a k = fv b k := by
  induction k with
  | zero => rfl
  | succ k ih => simp only [fv]; rw [ih (fun i hi => h i (by omega)), h k (by omega)]
theorem fv_inj (a b : ByteArray) (k : Nat) (ha : ∀ i, i < k → dg (bt a i) = true) (hb : ∀ i, i < k → dg (bt b i) = true) (h : fv a k = fv b k) : ∀ i, i < k → bt a i = bt b i := by
  induction k with
  | zero => intro i hi; omega
  | succ k ih =>
    simp only [fv] at h
    have da := (dg_iff _).1 (ha k (by omega))
    have db := (dg_iff _).1 (hb k (by omega))
    have e : fv a k = fv b k := by omega
    have q := ih (fun i hi => ha i (by omega)) (fun i hi => hb i (by omega)) e
    intro i hi
    by_cases hk : i = k
    · subst hk; omega
    · exact q i (by omega)
theorem fig_bt (n : Nat) (h : n < 10) : bt (fig n) 0 = 48 + (n : Int) := by
  rw [bt_get (by rw [fig_size]; omega)]
  have : (fig n)[0]'(by rw [fig_size]; omega) = UInt8.ofNat (48 + n) := rfl
  rw [this]
  simp
  omega
theorem zeros_fig : zeros 1 = fig 0 := rfl
theorem pad_succ (n k : Nat) (hk : 1 ≤ k) (h : (dec (n / 10)).size ≤ k) : pad n (k + 1) = pad (n / 10) k ++ fig (n % 10) := by
  unfold pad
  by_cases h10 : n < 10
  · rw [dec_lt h10, fig_size, Nat.div_eq_of_lt h10, Nat.mod_eq_of_lt h10, dec_lt (by omega : 0 < 10), fig_size, ← zeros_fig, zeros_add]
    congr 2
    omega
  · rw [dec_ge h10, ByteArray.size_append, fig_size, ← ByteArray.append_assoc]
    congr 3
    omega
/-- What a number's figures read as. -/
theorem pad_reads (k : Nat) : ∀ n : Nat, n < 10 ^ (k + 1) → (dec n).size ≤ k + 1 → (∀ i, i < k + 1 → dg (bt (pad n (k + 1)) i) = true) ∧ fv (pad n (k + 1)) (k + 1) = n := by
  induction k with
  | zero =>
    intro n h hd
    have h10 : n < 10 := by simpa using h
    have e : pad n 1 = fig n := by unfold pad; rw [dec_lt h10, fig_size]; apply bt_ext; · rw [ByteArray.size_append, zeros_size, fig_size]
                                   intro i hi
                                   rw [ByteArray.size_append, zeros_size, fig_size] at hi
                                   have := bt_right (a := zeros (1 - 1)) (b := fig n) (i := i) (by rw [fig_size]; omega)
                                   rw [zeros_size] at this
                                   simpa using this
    rw [e]
    refine ⟨fun i hi => ?_, ?_⟩
    · obtain rfl : i = 0 := by omega
      rw [fig_bt n h10, dg_iff]; omega
    · simp only [fv]; rw [fig_bt n h10]; omega
  | succ k ih =>
    intro n h hd
    have hq : n / 10 < 10 ^ (k + 1) := by rw [Nat.pow_succ] at h; omega
    have hdq : (dec (n / 10)).size ≤ k + 1 := by
      by_cases h10 : n < 10
      · rw [Nat.div_eq_of_lt h10, dec_lt (by omega), fig_size]; omega
      · rw [dec_ge h10, ByteArray.size_append, fig_size] at hd; omega
    obtain ⟨a, b⟩ := ih (n / 10) hq hdq
    have ps := pad_size hdq
    have e := pad_succ n (k + 1) (by omega) hdq
    have lo : ∀ i, i < k + 1 → bt (pad n (k + 1 + 1)) i = bt (pad (n / 10) (k + 1)) i := fun i hi => by rw [e]; exact bt_left (by omega)
    have hi' : bt (pad n (k + 1 + 1)) (k + 1) = 48 + ((n % 10 : Nat) : Int) := by
      rw [e]
      have := bt_right (a := pad (n / 10) (k + 1)) (b := fig (n % 10)) (i := 0) (by rw [fig_size]; omega)
      rw [ps] at this
      rw [← fig_bt (n % 10) (by omega)]
      simpa using this
    refine ⟨fun i hi => ?_, ?_⟩
    · by_cases hk : i = k + 1
      · subst hk; rw [hi', dg_iff]; omega
      · rw [lo i (by omega)]; exact a i (by omega)
    · simp only [fv] at b ⊢
      rw [hi', lo k (by omega), fv_congr k (fun i h => lo i (by omega)), b]
      omega
theorem pad_fg (n k : Nat) (hk : 1 ≤ k) (h : n < 10 ^ k) (hd : (dec n).size ≤ k) : fg (pad n k) = n := by
  obtain ⟨j, rfl⟩ : ∃ j, k = j + 1 := ⟨k - 1, by omega⟩
  obtain ⟨a, b⟩ := pad_reads j n h hd
  rw [fg_yes (by rw [pad_size hd]; exact a), pad_size hd, b]
theorem dec_pow (k n : Nat) (hk : 1 ≤ k) (h : n < 10 ^ k) : (dec n).size ≤ k := by
  induction k generalizing n with
  | zero => omega
  | succ k ih =>
    by_cases h10 : n < 10
    · rw [dec_lt h10, fig_size]; omega
    · exact dec_p (ih (n / 10) (by rcases k with _ | k <;> simp at h ⊢; omega) (by rw [Nat.pow_succ] at h; omega))
/-- A text of figures is that of its number. -/
theorem fg_pad (s : ByteArray) (k : Nat) (hk : 1 ≤ k) (hs : s.size = k) (h0 : 0 ≤ fg s) : pad (fg s).toNat k = s := by
  have hA : dgA s = true := by
    cases h : dgA s with
    | true => rfl
    | false => unfold fg at h0; rw [if_neg (by rw [h]; exact Bool.false_ne_true)] at h0; omega
  have ha := (dgA_iff s).1 hA
  have hf : fg s = fv s s.size := fg_yes ha
  have hb := fv_in s s.size ha
  have hlt : (fg s).toNat < 10 ^ k := by
    rw [hf]
    have : (((fv s s.size).toNat : Nat) : Int) < ((10 ^ k : Nat) : Int) := by
      rw [Int.toNat_of_nonneg hb.1]; rw [hs] at hb ⊢; simpa using hb.2
    omega
  have hd := dec_pow k _ hk hlt
  obtain ⟨j, rfl⟩ : ∃ j, k = j + 1 := ⟨k - 1, by omega⟩
  obtain ⟨a, b⟩ := pad_reads j _ hlt hd
  apply bt_ext
  · rw [pad_size hd, hs]
  · rw [pad_size hd]
    exact fv_inj _ _ _ a (fun i hi => ha i (by omega)) (by rw [b, ← hs, hf]; omega)
theorem bt_right' {a b : ByteArray} {n i : Nat} (ha : a.size = n) (h : i < b.size) : bt (a ++ b) (n + i) = bt b i := by subst ha; exact bt_right h
theorem extract_size {s : ByteArray} {a b : Nat} (h : b ≤ s.size) (hab : a ≤ b) : (s.extract a b).size = b - a := by rw [ByteArray.size_extract]; omega
theorem dT_sizes {y m d : Nat} (hy : y < 10000) (hm : m < 100) (hd : d < 100) : (pad y 4 ++ dash).size = 5 ∧ (pad y 4 ++ dash ++ pad m 2).size = 7 ∧ (pad y 4 ++ dash ++ pad m 2 ++ dash).size = 8 := by
  simp only [ByteArray.size_append, dash_size, pad_size (dec_4 hy), pad_size (dec_2 hm), and_self]
theorem dT_y {y m d : Nat} (hy : y < 10000) (hm : m < 100) (hd : d < 100) (i : Nat) (h : i < 4) : bt (dateT y m d) i = bt (pad y 4) i := by
  obtain ⟨s5, s7, s8⟩ := dT_sizes hy hm hd
  have s4 := pad_size (dec_4 hy)
  unfold dateT
  rw [bt_left (by omega), bt_left (by omega), bt_left (by omega), bt_left (by omega)]
theorem dT_4 {y m d : Nat} (hy : y < 10000) (hm : m < 100) (hd : d < 100) : bt (dateT y m d) 4 = 45 := by
  obtain ⟨s5, s7, s8⟩ := dT_sizes hy hm hd
  have s4 := pad_size (dec_4 hy)
  unfold dateT
  rw [bt_left (by omega), bt_left (by omega), bt_left (by omega)]
  exact (bt_right' (i := 0) s4 (by rw [dash_size]; omega)).trans rfl
theorem dT_m {y m d : Nat} (hy : y < 10000) (hm : m < 100) (hd : d < 100) (i : Nat) (h : i < 2) : bt (dateT y m d) (5 + i) = bt (pad m 2) i := by
  obtain ⟨s5, s7, s8⟩ := dT_sizes hy hm hd
  have s2 := pad_size (dec_2 hm)
  unfold dateT
  rw [bt_left (by omega), bt_left (by omega)]
  exact bt_right' s5 (by omega)
theorem dT_7 {y m d : Nat} (hy : y < 10000) (hm : m < 100) (hd : d < 100) : bt (dateT y m d) 7 = 45 := by
  obtain ⟨s5, s7, s8⟩ := dT_sizes hy hm hd
  unfold dateT
  rw [bt_left (by omega)]
  exact (bt_right' (i := 0) s7 (by rw [dash_size]; omega)).trans rfl
theorem dT_d {y m d : Nat} (hy : y < 10000) (hm : m < 100) (hd : d < 100) (i : Nat) (h : i < 2) : bt (dateT y m d) (8 + i) = bt (pad d 2) i := by
  obtain ⟨s5, s7, s8⟩ := dT_sizes hy hm hd
  have s2 := pad_size (dec_2 hd)
  unfold dateT
  exact bt_right' s8 (by omega)
/-- A date is read back from its text. -/
theorem dateT_get {y m d : Nat} (hy : y < 10000) (hm : m < 100) (hd : d < 100) (ok : okD y m d = true) : getB (dateT y m d) = true ∧ gy (dateT y m d) = y ∧ gm (dateT y m d) = m ∧ gd (dateT y m d) = d := by
  have sz := dateT_size hy hm hd
  have s4 := pad_size (dec_4 hy)
  have s2 := pad_size (dec_2 hm)
  have s3 := pad_size (dec_2 hd)
  have ey : (dateT y m d).extract 0 4 = pad y 4 := bt_ext (by rw [extract_size (by omega) (by omega), s4]) (fun i hi => by
    rw [extract_size (by omega) (by omega)] at hi
    rw [bt_extract _ _ _ _ (by omega) (by omega), Nat.zero_add]; exact dT_y hy hm hd i (by omega))
  have em : (dateT y m d).extract 5 7 = pad m 2 := bt_ext (by rw [extract_size (by omega) (by omega), s2]) (fun i hi => by
    rw [extract_size (by omega) (by omega)] at hi
    rw [bt_extract _ _ _ _ (by omega) (by omega)]; exact dT_m hy hm hd i (by omega))
  have ed : (dateT y m d).extract 8 10 = pad d 2 := bt_ext (by rw [extract_size (by omega) (by omega), s3]) (fun i hi => by
    rw [extract_size (by omega) (by omega)] at hi
    rw [bt_extract _ _ _ _ (by omega) (by omega)]; exact dT_d hy hm hd i (by omega))
  have gY : gy (dateT y m d) = y := by unfold gy; rw [ey]; exact pad_fg y 4 (by omega) (by omega) (dec_4 hy)
  have gM : gm (dateT y m d) = m := by unfold gm; rw [em]; exact pad_fg m 2 (by omega) (by omega) (dec_2 hm)
  have gD : gd (dateT y m d) = d := by unfold gd; rw [ed]; exact pad_fg d 2 (by omega) (by omega) (dec_2 hd)
  refine ⟨?_, gY, gM, gD⟩
  unfold getB
  rw [gY, gM, gD, ok, Bool.and_true]
  exact (shp_iff _).2 ⟨sz, dT_4 hy hm hd, dT_7 hy hm hd⟩
theorem get_bds {s : ByteArray} (h : getB s = true) : shp s = true ∧ okD (gy s) (gm s) (gd s) = true := by
  unfold getB at h; simpa using h
/-- A text that reads as a date is that date's. -/
theorem get_dateT {s : ByteArray} (h : getB s = true) : ∃ y m d : Nat, gy s = y ∧ gm s = m ∧ gd s = d ∧ y < 10000 ∧ m < 100 ∧ d < 100 ∧ okD y m d = true ∧ dateT y m d = s := by
  obtain ⟨h1, h2⟩ := get_bds h
  obtain ⟨sz, s4, s7⟩ := (shp_iff s).1 h1
  have k := (okD_iff _ _ _).1 h2
  have db := dim_bd (gy s) (gm s)
  have ey := fg_pad (s.extract 0 4) 4 (by omega) (extract_size (by omega) (by omega)) (by have : gy s = fg (s.extract 0 4) := rfl; omega)
  have em := fg_pad (s.extract 5 7) 2 (by omega) (extract_size (by omega) (by omega)) (by have : gm s = fg (s.extract 5 7) := rfl; omega)
  have ed := fg_pad (s.extract 8 10) 2 (by omega) (extract_size (by omega) (by omega)) (by have : gd s = fg (s.extract 8 10) := rfl; omega)
  have hy : (gy s).toNat < 10000 := by omega
  have hm : (gm s).toNat < 100 := by omega
  have hd : (gd s).toNat < 100 := by omega
  refine ⟨(gy s).toNat, (gm s).toNat, (gd s).toNat, by omega, by omega, by omega, hy, hm, hd, ?_, ?_⟩
  · rw [Int.toNat_of_nonneg (by omega), Int.toNat_of_nonneg (by omega), Int.toNat_of_nonneg (by omega)]; exact h2
  · have ey' : pad (gy s).toNat 4 = s.extract 0 4 := ey
    have em' : pad (gm s).toNat 2 = s.extract 5 7 := em
    have ed' : pad (gd s).toNat 2 = s.extract 8 10 := ed
    apply bt_ext
    · rw [dateT_size hy hm hd, sz]
    · rw [dateT_size hy hm hd]
      intro i hi
      by_cases h0 : i < 4
      · rw [dT_y hy hm hd i h0, ey', bt_extract _ _ _ _ (by omega) (by omega), Nat.zero_add]
      · by_cases h4 : i = 4
        · subst h4; rw [dT_4 hy hm hd, s4]
        · by_cases h5 : i < 7
          · obtain ⟨j, rfl⟩ : ∃ j, i = 5 + j := ⟨i - 5, by omega⟩
            rw [dT_m hy hm hd j (by omega), em', bt_extract _ _ _ _ (by omega) (by omega)]
          · by_cases h7 : i = 7
            · subst h7; rw [dT_7 hy hm hd, s7]
            · obtain ⟨j, rfl⟩ : ∃ j, i = 8 + j := ⟨i - 8, by omega⟩
              rw [dT_d hy hm hd j (by omega), ed', bt_extract _ _ _ _ (by omega) (by omega)]
theorem getB_empty : getB ByteArray.empty = false := by unfold getB shp; rw [decide_eq_false (by simp), Bool.false_and]
end Go.Proofs.YtbbbmdidmnhpmaaDoor
