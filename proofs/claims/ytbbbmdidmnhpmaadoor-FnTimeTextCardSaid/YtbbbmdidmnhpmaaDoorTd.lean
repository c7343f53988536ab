/- Dates read from texts: what is read. -/
import Derived.Test.YtbbbmdidmnhpmaaDoorTc
import Derived.Test.YtbbbmdidmnhpmaaDoorImC
import Derived.Test.YtbbbmdidmnhpmaaDoorSpD
namespace Go.Proofs.YtbbbmdidmnhpmaaDoor
open Go.RowKit
set_option linter.unusedVariables false
def shp (s : ByteArray) : Bool := decide (s.size = 10 ∧ bt s 4 = 45 ∧ bt s 7 = 45)
theorem shp_iff (s : ByteArray) : shp s = true ↔ s.size = 10 ∧ bt s 4 = 45 ∧ bt s 7 = 45 := by unfold shp; exact decide_eq_true_iff
def gy (s : ByteArray) : Int := fg (s.extract 0 4)
def gm (s : ByteArray) : Int := fg (s.extract 5 7)
def gd (s : ByteArray) : Int := fg (s.extract 8 10)
/-- A text is that of a date. -/
def getB (s : ByteArray) : Bool := shp s && okD (gy s) (gm s) (gd s)
theorem bt_extract (s : ByteArray) (a b k : Nat) (h : a + k < b) (hb : b ≤ s.size) : bt (s.extract a b) k = bt s (a + k) := by
  have h1 : k < (s.extract a b).size := by rw [ByteArray.size_extract]; omega
  rw [bt_get h1, bt_get (by omega)]
  congr 2
  exact ByteArray.getElem_extract h1
theorem fg_dash {s : ByteArray} (a b k : Nat) (h : a + k < b) (hb : b ≤ s.size) (hd : bt s (a + k) = 45) : fg (s.extract a b) = -1 := by
  refine fg_no (i := k) (by rw [ByteArray.size_extract]; omega) ?_
  rw [bt_extract s a b k h hb, hd]; rfl
theorem cut_shape {s : ByteArray} (h10 : s.size = 10) (h4 : bt s 4 = 45) (h7 : bt s 7 = 45) (h : ∀ k, k < 10 → k ≠ 4 → k ≠ 7 → bt s k ≠ 45) : cut s = [s.extract 0 4, s.extract 5 7, s.extract 8 10] := by
  have e4 : cutA s 4 = (0, []) := by
    rw [cutA_no (h 3 (by omega) (by omega) (by omega)), cutA_no (h 2 (by omega) (by omega) (by omega)), cutA_no (h 1 (by omega) (by omega) (by omega)), cutA_no (h 0 (by omega) (by omega) (by omega))]; rfl
  have e7 : cutA s 7 = (5, [s.extract 0 4]) := by
    rw [cutA_no (h 6 (by omega) (by omega) (by omega)), cutA_no (h 5 (by omega) (by omega) (by omega)), cutA_yes h4, e4]; rfl
  have e10 : cutA s 10 = (8, [s.extract 0 4, s.extract 5 7]) := by
    rw [cutA_no (h 9 (by omega) (by omega) (by omega)), cutA_no (h 8 (by omega) (by omega) (by omega)), cutA_yes h7, e7]; rfl
  unfold cut; rw [h10, e10]; rfl
theorem cutA_inv (s : ByteArray) (i : Nat) : i ≤ s.size →
    ((cutA s i).2 = [] → (cutA s i).1 = 0) ∧
    (∀ a, (cutA s i).2 = [a] → a = s.extract 0 a.size ∧ (cutA s i).1 = a.size + 1 ∧ bt s a.size = 45) ∧
    (∀ a b, (cutA s i).2 = [a, b] → a = s.extract 0 a.size ∧ b = s.extract (a.size + 1) (a.size + 1 + b.size) ∧ (cutA s i).1 = a.size + b.size + 2 ∧ bt s a.size = 45 ∧ bt s (a.size + 1 + b.size) = 45) := by
  induction i with
  | zero => intro _; simp [cutA]
  | succ i ih =>
    intro hi
    obtain ⟨i0, i1, i2⟩ := ih (by omega)
    have cl := (cutA_le s i).1
    by_cases h : bt s i = 45
    · rw [cutA_yes h]
      generalize (cutA s i).1 = f at *
      generalize (cutA s i).2 = o at *
      have sz : (s.extract f i).size = i - f := by rw [ByteArray.size_extract]; omega
      refine ⟨fun e => by simp at e, fun a e => ?_, fun a b e => ?_⟩
      · have eo : o = [] := by
          have := congrArg List.length e; simp at this; exact this
        subst eo
        have f0 := i0 rfl
        subst f0
        simp at e
        subst e
        rw [sz]
        exact ⟨by simp, by simp, by simpa using h⟩
      · match o, e with
        | [], e => simp at e
        | [x], e =>
          simp at e
          obtain ⟨rfl, rfl⟩ := e
          obtain ⟨e1, e2, e3⟩ := i1 x rfl
          subst e2
          have q : x.size + 1 + (i - (x.size + 1)) = i := by omega
          rw [sz, q]
          exact ⟨e1, rfl, by omega, e3, h⟩
        | x :: y :: l, e => simp at e
    · rw [cutA_no h]; exact ⟨i0, i1, i2⟩
theorem cut_is {s : ByteArray} {a b c : ByteArray} (h : cut s = [a, b, c]) (ha : a.size = 4) (hb : b.size = 2) (hc : c.size = 2) : s.size = 10 ∧ bt s 4 = 45 ∧ bt s 7 = 45 ∧ a = s.extract 0 4 ∧ b = s.extract 5 7 ∧ c = s.extract 8 10 := by
  obtain ⟨_, _, i2⟩ := cutA_inv s s.size (Nat.le_refl _)
  have cl := (cutA_le s s.size).1
  unfold cut at h
  generalize (cutA s s.size).1 = f at *
  generalize (cutA s s.size).2 = o at *
  match o, h with
  | [], h => simp at h
  | [x], h => simp at h
  | [x, y], h =>
    simp at h
    obtain ⟨rfl, rfl, rfl⟩ := h
    obtain ⟨e1, e2, e3, e4, e5⟩ := i2 x y rfl
    rw [ha, hb] at e3 e5
    rw [ha] at e1 e4
    rw [ha, hb] at e2
    subst e3
    have sz : (s.extract 8 s.size).size = s.size - 8 := by rw [ByteArray.size_extract]; omega
    have s10 : s.size = 10 := by
      have h8 : (s.extract (4 + 2 + 2) s.size).size = s.size - 8 := sz
      omega
    refine ⟨s10, e4, e5, e1, e2, by rw [s10]⟩
  | x :: y :: z :: l, h => simp at h
/-- Where the pieces are not those of a date none is read. -/
theorem get_no {s : ByteArray} (h : ∀ a b c, cut s = [a, b, c] → a.size = 4 → b.size = 2 → c.size = 2 → False) : getB s = false := by
  cases hg : getB s with
  | false => rfl
  | true =>
    exfalso
    unfold getB at hg
    rw [Bool.and_eq_true] at hg
    obtain ⟨hs, ho⟩ := hg
    obtain ⟨h10, h4, h7⟩ := (shp_iff s).1 hs
    obtain ⟨y0, y1, m0, m1, d0, _⟩ := (okD_iff _ _ _).1 ho
    refine h _ _ _ (cut_shape h10 h4 h7 fun k hk k4 k7 e => ?_) (by rw [ByteArray.size_extract]; omega) (by rw [ByteArray.size_extract]; omega) (by rw [ByteArray.size_extract]; omega)
    by_cases q0 : k < 4
    · have := fg_dash (s := s) 0 4 k (by omega) (by omega) (by simpa using e)
      unfold gy at y0; omega
    · by_cases q1 : k < 7
      · obtain ⟨j, rfl⟩ : ∃ j, k = 5 + j := ⟨k - 5, by omega⟩
        have := fg_dash (s := s) 5 7 j (by omega) (by omega) e
        unfold gm at m0; omega
      · obtain ⟨j, rfl⟩ : ∃ j, k = 8 + j := ⟨k - 8, by omega⟩
        have := fg_dash (s := s) 8 10 j (by omega) (by omega) e
        unfold gd at d0; omega
theorem get_yes {s : ByteArray} {a b c : ByteArray} (h : cut s = [a, b, c]) (ha : a.size = 4) (hb : b.size = 2) (hc : c.size = 2) : getB s = okD (fg a) (fg b) (fg c) ∧ fg a = gy s ∧ fg b = gm s ∧ fg c = gd s := by
  obtain ⟨h10, h4, h7, rfl, rfl, rfl⟩ := cut_is h ha hb hc
  refine ⟨?_, rfl, rfl, rfl⟩
  unfold getB
  rw [(shp_iff s).2 ⟨h10, h4, h7⟩, Bool.true_and]; rfl
/-- What is read: a date, or none. -/
def getV (s : ByteArray) : Value := if getB s = true then .tuple #[.agg #[.int .i64 (gy s), .int .i64 (gm s), .int .i64 (gd s)], .bool true] else .tuple #[.agg #[.int .i64 0, .int .i64 0, .int .i64 0], .bool false]
theorem getV_no {s : ByteArray} (h : getB s = false) : getV s = .tuple #[.agg #[.int .i64 0, .int .i64 0, .int .i64 0], .bool false] := if_neg (by rw [h]; exact Bool.false_ne_true)
theorem getV_yes {s : ByteArray} (h : getB s = true) : getV s = .tuple #[.agg #[.int .i64 (gy s), .int .i64 (gm s), .int .i64 (gd s)], .bool true] := if_pos h
end Go.Proofs.YtbbbmdidmnhpmaaDoor
