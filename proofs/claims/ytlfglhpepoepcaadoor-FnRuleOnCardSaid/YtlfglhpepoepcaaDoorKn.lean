/- The days of a period that a rule chooses: the program's. -/
import Derived.Test.YtlfglhpepoepcaaDoorKf
import Derived.Maps.AppendAt
import Derived.RangeFuncBox
namespace Go.Proofs.YtlfglhpepoepcaaDoor
open Go.RowKit Go.Shelf
set_option linter.unusedVariables false

set_option maxHeartbeats 4000000 in
theorem implIsChosen (r : Rl) (s : Int) (K : Nat → Prop) (a : Option Addr) (k cap : Nat) (n : Int) (w : World) (hk8 : k ≤ 8) (hc : ChR K w a k r s) (hK : ∀ j, K j → j < w.heap.size) (ht : Tab w) (h0 : 0 ≤ n) (h1 : n ≤ 3652058) :
    Calls Tryd.prog 76 #[.slice a k cap, .int .i64 n] w fun e w' => e = .returned (.bool (fitB r s n)) ∧ Below w.heap.size w w' := by
  obtain ⟨vs, ps, hvl, hL, hall⟩ := hc
  have HL : Hid (ChL K w a vs ps) := hL
  have HA : Hid (ps.all (fun p => p n) = fitB r s n) := hall n h0 h1
  have HK : Hid (∀ j, K j → j < w.heap.size) := hK
  have HT : Hid (Tab w) := ht
  have hpl : ps.length = k := by rw [hL.len, hvl]
  have HV : Hid (vs.length = k) := hvl
  have HP : Hid (ps.length = k) := hpl
  clear hL hall hK ht hvl hpl
  go_enter Tryd.func76, Tryd.ntmps76
  go_wp2_with fail
  refine (implPartsN _ _ HT.out h0 h1).mono ?_
  rintro e w1 ⟨rfl, b1⟩
  obtain ⟨W2, hW2⟩ : ∃ W2, W2 = w1.alloc (.cells #[.int .i64 n, .int .i64 (yOf n), .int .i64 (mOf n), .int .i64 (dOf n)] 81) := ⟨_, rfl⟩
  have hb2 : Below w.heap.size w W2 := by rw [hW2]; exact b1.alloc b1.size _
  have hc2 : CF W2 w1.heap.size #[.int .i64 n, .int .i64 (yOf n), .int .i64 (mOf n), .int .i64 (dOf n)] := by rw [hW2]; exact CF.new _ _ _
  have HB2 : Hid (Below w.heap.size w W2) := hb2
  have HC2 : Hid (CF W2 w1.heap.size #[.int .i64 n, .int .i64 (yOf n), .int .i64 (mOf n), .int .i64 (dOf n)]) := hc2
  have HW2 : Hid (W2 = w1.alloc (.cells #[.int .i64 n, .int .i64 (yOf n), .int .i64 (mOf n), .int .i64 (dOf n)] 81)) := hW2
  clear b1 hb2 hc2 hW2
  go_wp2
  rw [← HW2.out]
  go_loopw [14] (fun i wr => ∃ q : Nat, q ≤ k ∧ i = .int .i64 q ∧ Below W2.heap.size W2 wr ∧ ∀ j, j < q → (ps.getD j fun _ => true) n = true) (fun i _ => k - (intOf i).toNat)
  case atStart => exact ⟨0, by omega, rfl, Below.refl _ _, fun j hj => by omega⟩
  case round =>
    obtain ⟨q, hq, rfl, hb, hno⟩ := hrel
    have HN : Hid (∀ j, j < q → (ps.getD j fun _ => true) n = true) := hno
    have HB : Hid (Below W2.heap.size W2 wr) := hb
    have HBw : Hid (Below w.heap.size w wr) := bstep HB2.out hb
    clear hno hb
    by_cases hlt : q < k
    · rcases HL.out.mem with h | ⟨b, off, rfl, hbl, hKb, hcell⟩
      · have hv := HV.out; rw [h] at hv; simp at hv; omega
      have c0 : wr.cell? ⟨b, off + q, none⟩ = some (vs.getD q undef) := by rw [HBw.out.cell (p := ⟨b, off + q, none⟩) hbl]; exact hcell q (by have := HV.out; omega)
      obtain ⟨g, lb, hg, hv, hcall⟩ := HL.out.ch q (by have := HV.out; omega)
      have hcall := hcall wr HBw.out.size (fun j hj => HBw.out.block j (HK.out j hj)) n h0 h1
      rw [hv] at c0
      have hc3 := HC2.out.below HB.out
      obtain ⟨d0, _⟩ := hc3.2 0 _ rfl
      obtain ⟨d1, _⟩ := hc3.2 1 _ rfl
      obtain ⟨d2, _⟩ := hc3.2 2 _ rfl
      obtain ⟨d3, _⟩ := hc3.2 3 _ rfl
      obtain ⟨p, hp⟩ : ∃ p, p = (ps.getD q fun _ => true) := ⟨_, rfl⟩
      rw [← hp] at hcall
      have HPP : Hid (p = (ps.getD q fun _ => true)) := hp
      have hi1 : (q : Int) < (k : Int) := by omega
      have hi0 : (0 : Int) ≤ (q : Int) := by omega
      have fin : ∀ w3, Below wr.heap.size wr w3 → Below W2.heap.size W2 w3 := fun w3 h => bstep HB.out h
      have FIN : Hid (∀ w3, Below wr.heap.size wr w3 → Below W2.heap.size W2 w3) := fin
      clear hc3 hcell hv hp fin
      unfold dated at hcall
      cases hpn : p n with
      | true =>
        rw [hpn] at hcall
        have HPN : Hid (p n = true) := hpn
        have HCL : Hid (Calls Tryd.prog g (#[.agg #[.int .i64 n, .int .i64 (yOf n), .int .i64 (mOf n), .int .i64 (dOf n)]] ++ lb) wr fun e w' => e = .returned (.bool true) ∧ Below wr.heap.size wr w') := hcall
        clear hpn hcall
        rcases hg with rfl | rfl | rfl | rfl | rfl | rfl
        all_goals
          go_wp2_with fail
          refine HCL.out.mono ?_
          rintro e w3 ⟨rfl, b3⟩
          have HB3 : Hid (Below W2.heap.size W2 w3) := FIN.out w3 b3
          clear b3 c0 d0 d1 d2 d3
          go_wp2
          go_roundw
          case rel => exact ⟨q + 1, by omega, by go_num, HB3.out, fun j hj => by
            rcases Nat.lt_or_ge j q with h' | h'
            · exact HN.out j h'
            · have : j = q := by omega
              subst this; rw [← HPP.out]; exact HPN.out⟩
          case measure => simp [intOf]; omega
      | false =>
        rw [hpn] at hcall
        have HPN : Hid (p n = false) := hpn
        have HCL : Hid (Calls Tryd.prog g (#[.agg #[.int .i64 n, .int .i64 (yOf n), .int .i64 (mOf n), .int .i64 (dOf n)]] ++ lb) wr fun e w' => e = .returned (.bool false) ∧ Below wr.heap.size wr w') := hcall
        clear hpn hcall
        have HF : Hid (fitB r s n = false) := by
          unfold Hid
          rw [← HA.out, List.all_eq_false]
          have hql : q < ps.length := by have := HP.out; omega
          refine ⟨ps[q], List.getElem_mem hql, ?_⟩
          have h1 := HPN.out
          rw [HPP.out, List.getD_eq_getElem?_getD, List.getElem?_eq_getElem hql] at h1
          simp only [Option.getD_some] at h1
          rw [h1]; simp
        rcases hg with rfl | rfl | rfl | rfl | rfl | rfl
        all_goals
          go_wp2_with fail
          refine HCL.out.mono ?_
          rintro e w3 ⟨rfl, b3⟩
          have HB3 : Hid (Below W2.heap.size W2 w3) := FIN.out w3 b3
          clear b3 c0 d0 d1 d2 d3
          go_wp2
          go_ret
          exact ⟨ret_b HF.out.symm, bstep HB2.out HB3.out⟩
    · have : q = k := by omega
      subst this
      go_wp2
      go_ret
      refine ⟨ret_b ?_, HBw.out⟩
      rw [← HA.out]
      symm
      rw [List.all_eq_true]
      intro p hp
      obtain ⟨i, hi, rfl⟩ := List.getElem_of_mem hp
      have := HN.out i (by have := HP.out; omega)
      rw [List.getD_eq_getElem?_getD, List.getElem?_eq_getElem hi] at this
      exact this
end Go.Proofs.YtlfglhpepoepcaaDoor
