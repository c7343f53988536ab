/- FnTextIn: the law's own walk. -/
import Derived.Test.YtecijmdkicgemaaTk
namespace Go.Proofs.Ytecijmdkicgemaa
open Go.RowKit
set_option linter.unusedVariables false
theorem xy_size (x s y : ByteArray) (hx : x.size ≤ 10) (hy : y.size ≤ 10) (h : s.size ≤ 100) : (x ++ s ++ y).size ≤ 1048576 := by
  rw [ByteArray.size_append, ByteArray.size_append]
  omega
set_option maxRecDepth 100000 in
set_option maxHeartbeats 8000000 in
theorem lawTextIn (a : Option Addr) (len cap : Nat) (a' : Option Addr) (len' cap' : Nat) (m : Int) (w : World) (hm : w.cell? ⟨0, 0, none⟩ = some (.int .i64 m)) (h : IsCode w a len cap) (h' : IsCode w a' len' cap') :
    Calls Try.prog 4 #[.slice a len cap, .slice a' len' cap'] w fun e w' => e = .returned (.bool true) ∧ Below w.heap.size w w' := by
  have hlen := h.1
  have hlen' := h'.1
  have hm0 : 0 < w.heap.size := cell_lt hm
  have HM : Hid (w.cell? ⟨0, 0, none⟩ = some (.int .i64 m)) := hm
  clear h' hm
  by_cases hl : (len : Int) > 1048576
  · go_enter Try.func4, Try.ntmps4
    go_wp2
    go_ret
    exact ⟨rfl, Below.refl _ _⟩
  by_cases hl' : (len' : Int) > 1048576
  · go_enter Try.func4, Try.ntmps4
    go_wp2
    go_ret
    exact ⟨rfl, Below.refl _ _⟩
  go_enter Try.func4, Try.ntmps4
  go_wp2_with fail
  refine (drawTextIn w a len cap h).mono ?_
  rintro e w1 ⟨⟨s, p, rfl, s1, p1⟩, b1⟩
  have HB1 : Hid (Below w.heap.size w w1) := b1
  have M : ∀ {W : World}, Below w.heap.size w W → W.cell? ⟨0, 0, none⟩ = some (.int .i64 m) := fun b => (b.cell (p := ⟨0, 0, none⟩) hm0).trans HM.out
  have HM2 : Hid (∀ {W : World}, Below w.heap.size w W → W.cell? ⟨0, 0, none⟩ = some (.int .i64 m)) := M
  clear b1 M h
  obtain ⟨I, hI⟩ : ∃ I, I = inB' s p := ⟨_, rfl⟩
  have HI : Hid (inB' s p = I) := hI.symm
  have HL : Hid (I = true → p.size ≤ s.size) := fun q => in_len (by rw [← hI]; exact q)
  have HX : Hid (I = true → ∀ x y : ByteArray, inB' (x ++ s ++ y) p = true) := fun q x y => in_more x y (by rw [← hI]; exact q)
  clear hI
  go_wp2_with fail
  refine (implTextIn s p m w1 (HM2.out HB1.out) (by omega) (by omega)).mono ?_
  rintro e w2 ⟨rfl, b2⟩
  have HB2 : Hid (Below w.heap.size w w2) := bstep HB1.out b2
  rw [HI.out]
  clear b2 HB1
  go_wp2_with fail
  refine (specTextIn s p w2 (by omega) (by omega)).mono ?_
  rintro e w3 ⟨rfl, b3⟩
  have HB3 : Hid (Below w.heap.size w w3) := bstep HB2.out b3
  rw [HI.out]
  clear b3 HB2
  go_wp2_with fail
  refine (implTextIn s ⟨#[]⟩ m w3 (HM2.out HB3.out) (by omega) (by decide)).mono ?_
  rintro e w4 ⟨rfl, b4⟩
  have HB4 : Hid (Below w.heap.size w w4) := bstep HB3.out b4
  rw [in_none]
  clear b4 HB3
  obtain ⟨k, hk⟩ : ∃ k : Nat, k = len' % (s.size + 1) := ⟨_, rfl⟩
  have hks : k ≤ s.size := by have := Nat.mod_lt len' (show 0 < s.size + 1 by omega); omega
  have hrem : (len' : Int).tmod ((s.size : Int) + 1) = (k : Int) := by
    rw [Int.tmod_eq_emod_of_nonneg (by omega), hk, Int.natCast_emod, Int.natCast_add]; rfl
  have k0 : (0 : Int) ≤ (k : Int) := by omega
  have k1 : (k : Int) ≤ (s.size : Int) := by omega
  have z1 : ((s.size : Int) + 1 == 0) = false := beq_eq_false_iff_ne.2 (by omega)
  have g1 := IntWalk.i64_in ((s.size : Int) + 1) (by omega)
  have zs : (s.size : Int) ≤ 100 := by omega
  have zk : ∀ (W : World), True := fun _ => trivial
  clear hk zk
  cases I with
  | true =>
    have hp : ¬ (p.size : Int) > (s.size : Int) := by have := HL.out rfl; omega
    have HXX : Hid (∀ x y : ByteArray, inB' (x ++ s ++ y) p = true) := HX.out rfl
    clear HX HL
    go_wp2_with fail
    refine (implTextIn s (s.extract 0 k) m w4 (HM2.out HB4.out) (by omega) (by rw [ByteArray.size_extract]; omega)).mono ?_
    rintro e w5 ⟨rfl, b5⟩
    have HB5 : Hid (Below w.heap.size w w5) := bstep HB4.out b5
    rw [in_head]
    clear b5 HB4
    go_wp2_with fail
    refine (implTextIn s (s.extract k s.size) m w5 (HM2.out HB5.out) (by omega) (by rw [ByteArray.size_extract]; omega)).mono ?_
    rintro e w6 ⟨rfl, b6⟩
    have HB6 : Hid (Below w.heap.size w w6) := bstep HB5.out b6
    rw [in_tail]
    clear b6 HB5
    go_wp2_with fail
    with_reducible refine (implTextIn _ p m w6 (HM2.out HB6.out) (xy_size _ s _ (by decide) (by decide) s1) (by omega)).mono ?_
    rintro e w7 ⟨rfl, b7⟩
    have B7 := bstep HB6.out b7
    rw [HXX.out]
    clear b7 HB6
    go_wp2
    go_ret
    exact ⟨rfl, B7⟩
  | false =>
    clear HX HL
    go_wp2_with fail
    refine (implTextIn s (s.extract 0 k) m w4 (HM2.out HB4.out) (by omega) (by rw [ByteArray.size_extract]; omega)).mono ?_
    rintro e w5 ⟨rfl, b5⟩
    have HB5 : Hid (Below w.heap.size w w5) := bstep HB4.out b5
    rw [in_head]
    clear b5 HB4
    go_wp2_with fail
    refine (implTextIn s (s.extract k s.size) m w5 (HM2.out HB5.out) (by omega) (by rw [ByteArray.size_extract]; omega)).mono ?_
    rintro e w6 ⟨rfl, b6⟩
    have B6 := bstep HB5.out b6
    rw [in_tail]
    clear b6 HB5
    go_wp2
    go_ret
    exact ⟨rfl, B6⟩
end Go.Proofs.Ytecijmdkicgemaa
