/- A text in another one: both sides. -/
import Derived.Test.YtecijmdkicgemaaTi
import Derived.Test.YtecijmdkicgemaaShf
import Derived.Lib.IndexBytes
namespace Go.Proofs.Ytecijmdkicgemaa
open Go.RowKit
set_option linter.unusedVariables false
/-- Whether a text is in another one, small letters or not. -/
def inB' (s p : ByteArray) : Bool := Lib.contains (lowS s).data.toList (lowS p).data.toList
theorem contains_yes {s p : List UInt8} {i : Nat} (hi : i ≤ s.length) (h : Lib.occAt s p i = true) (ha : ∀ j, j < i → Lib.occAt s p j = false) : Lib.contains s p = true := by
  unfold Lib.contains; rw [Lib.index_first hi h ha]; simp
theorem contains_no {s p : List UInt8} {i : Nat} (hi : s.length < i + p.length) (ha : ∀ j, j < i → Lib.occAt s p j = false) : Lib.contains s p = false := by
  unfold Lib.contains
  rw [Lib.index_none (fun j hj => ?_)]
  · rfl
  · by_cases hji : j < i
    · exact ha j hji
    · cases h : Lib.occAt s p j with
      | false => rfl
      | true =>
        rcases Lib.occAt_room h with q | q
        · omega
        · subst q; simp at hi; omega
set_option maxRecDepth 100000 in
set_option maxHeartbeats 4000000 in
theorem specTextIn (s p : ByteArray) (w : World) (hs : s.size ≤ 1048576) (hp : p.size ≤ 1048576) :
    Calls Try.prog 11 #[.string s, .string p] w fun e w' => e = .returned (.bool (inB' s p)) ∧ Below w.heap.size w w' := by
  obtain ⟨V, hV⟩ : ∃ V, V = inB' s p := ⟨_, rfl⟩
  rw [← hV]
  have HV : Hid (V = Lib.contains (lowS s).data.toList (lowS p).data.toList) := hV
  clear hV
  go_enter Try.func11, Try.ntmps11
  go_wp2_with fail
  refine (specSmall s w hs).mono ?_
  rintro e w1 ⟨rfl, b1⟩
  go_wp2_with fail
  refine (specSmall p w1 hp).mono ?_
  rintro e w2 ⟨rfl, b2⟩
  have HB2 : Hid (Below w.heap.size w w2) := bstep b1 b2
  have zs := lowS_size s
  have zp := lowS_size p
  generalize lowS s = S at *
  generalize lowS p = P at *
  have hS : S.size ≤ 1048576 := by omega
  have hP : P.size ≤ 1048576 := by omega
  have lS : S.data.toList.length = S.size := by unfold ByteArray.size; simp
  have lP : P.data.toList.length = P.size := by unfold ByteArray.size; simp
  clear b1 b2 zs zp hs hp
  go_wp2
  go_loopw [7] (fun i wr => ∃ k : Nat, k ≤ S.size + 1 ∧ i = .int .i64 k ∧ (∀ j, j < k → Lib.occAt S.data.toList P.data.toList j = false) ∧ wr = w2) (fun i _ => S.size + 1 - (intOf i).toNat)
  case atStart => exact ⟨0, by omega, rfl, fun j hj => by omega, rfl⟩
  case round =>
    obtain ⟨k, hk, rfl, ha, rfl⟩ := hrel
    have HA : Hid (∀ j, j < k → Lib.occAt S.data.toList P.data.toList j = false) := ha
    clear ha
    have k0 : (0 : Int) ≤ (k : Int) := by omega
    have k1 : (k : Int) ≤ 1048577 := by omega
    have p0 : (0 : Int) ≤ (P.size : Int) := by omega
    have p1 : (P.size : Int) ≤ 1048576 := by omega
    by_cases hlt : k + P.size ≤ S.size
    · have hi1 : (k : Int) + (P.size : Int) ≤ (S.size : Int) := by omega
      have hi2 : (k : Int) ≤ (k : Int) + (P.size : Int) := by omega
      have kn : ((k : Int) + (P.size : Int)).toNat = k + P.size := by omega
      have EX := Lib.occ_of_piece S P k hlt
      cases ho : Lib.occAt S.data.toList P.data.toList k with
      | true =>
        have ex : ((S.extract k (k + P.size)).toList == P.toList) = true := EX.symm.trans ho
        have HW : Hid (V = true) := by rw [Hid, HV.out]; exact contains_yes (by omega) ho HA.out
        clear EX ho
        go_wp2
        go_ret
        exact ⟨ret_b HW.out.symm, HB2.out⟩
      | false =>
        have ex : ((S.extract k (k + P.size)).toList == P.toList) = false := EX.symm.trans ho
        have HN : Hid (∀ j, j < k + 1 → Lib.occAt S.data.toList P.data.toList j = false) := fun j hj => by
          by_cases e : j = k
          · subst e; exact ho
          · exact HA.out j (by omega)
        clear EX ho
        go_wp2
        go_roundw
        case rel => exact ⟨k + 1, by omega, by go_num, HN.out, trivial⟩
        case measure => simp [intOf]; omega
    · have hi1 : ¬ (k : Int) + (P.size : Int) ≤ (S.size : Int) := by omega
      have HW : Hid (V = false) := by rw [Hid, HV.out]; exact contains_no (by omega) HA.out
      go_wp2
      go_ret
      exact ⟨ret_b HW.out.symm, HB2.out⟩
set_option maxRecDepth 100000 in
set_option maxHeartbeats 4000000 in
theorem implTextIn (s p : ByteArray) (m : Int) (w : World) (hm : w.cell? ⟨0, 0, none⟩ = some (.int .i64 m)) (hs : s.size ≤ 1048576) (hp : p.size ≤ 1048576) :
    Calls Try.prog 12 #[.string s, .string p] w fun e w' => e = .returned (.bool (inB' s p)) ∧ Below w.heap.size w w' := by
  have hm0 : 0 < w.heap.size := cell_lt hm
  go_enter Try.func12, Try.ntmps12
  go_wp2_with fail
  refine (implSmall s w hs).mono ?_
  rintro e w1 ⟨rfl, b1⟩
  go_wp2_with fail
  refine (implSmall p w1 hp).mono ?_
  rintro e w2 ⟨rfl, b2⟩
  have HB2 : Hid (Below w.heap.size w w2) := bstep b1 b2
  have m2 : w2.cell? ⟨0, 0, none⟩ = some (.int .i64 m) := (HB2.out.cell (p := ⟨0, 0, none⟩) hm0).trans hm
  go_wp2_with fail
  refine (strings_Contains (lowS s) (lowS p) m w2 (by rw [lowS_size]; omega) m2).mono ?_
  rintro e w3 ⟨rfl, rfl⟩
  go_wp2
  go_ret
  exact ⟨rfl, HB2.out⟩
end Go.Proofs.Ytecijmdkicgemaa
