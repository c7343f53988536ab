/- The program's iterator over periods. -/
import Derived.Shelf.Abstract
import Derived.Shelf.RegionOpen
import Derived.OwnWalkIn
import Derived.TacticsInMore
import Derived.LoopNIn
import Derived.LoopIn
import Derived.Test.YtlfglhpepoepcaaDoorKd
import Derived.Test.YtlfglhpepoepcaaDoorKr
namespace Go.Proofs.YtlfglhpepoepcaaDoor
open Go.RowKit Go.Shelf
set_option linter.unusedVariables false
attribute [local go_sem] Oper.semAt_some

theorem Tab.same {w W : World} (h : Tab w) (hk : W.heap[0]? = w.heap[0]?) : Tab W := fun i hi => by
  rw [World.cell?_of_block (w := w) (a := ⟨0, i, none⟩) hk]; exact h i hi
theorem per_year {r : Rl} (hr : ROk r) {s to : Int} (h0 : 0 ≤ s) (h1 : s ≤ 3652058) {j : Nat} (hj : j ≤ perN r s to) :
    (r.f = 3 → yOf s + (mOf s - 1 + j * r.ev) / 12 ≤ 20000) ∧ (r.f = 4 → yOf s + j * r.ev + 1 ≤ 20000) := by
  have hd := date_ex h0 h1
  obtain ⟨a0, a1, a2, a3, a4, a5⟩ := (okD_iff _ _ _).1 hd.1
  have e0 := hr.e0; have e1 := hr.e1
  cases j with
  | zero =>
    constructor
    · intro _; rw [show ((0 : Nat) : Int) * r.ev = 0 by simp]; omega
    · intro _; rw [show ((0 : Nat) : Int) * r.ev = 0 by simp]; omega
  | succ i =>
    have hp := (perN_in (r := r) (s := s) (to := to) (j := i) (by omega)).2
    have hm : (((i + 1 : Nat) : Int)) * r.ev = i * r.ev + r.ev := by rw [show (((i + 1 : Nat)) : Int) = (i : Int) + 1 by omega, Int.add_mul, Int.one_mul]
    have hi : 0 ≤ (i : Int) * r.ev := Int.mul_nonneg (by omega) (by omega)
    rw [hm]
    generalize (i : Int) * r.ev = q at *
    have key : ∀ y : Int, 1 ≤ y → fst y ≤ 3652058 → y ≤ 9999 := fun y hy hf => by
      by_cases h : y ≤ 9999
      · exact h
      · have := fst_mono 10000 y (by omega) (by omega); have := fst_max; omega
    constructor
    · intro e
      have hs : spanF r s q = num (yOf s + (mOf s - 1 + q) / 12) ((mOf s - 1 + q) % 12 + 1) 1 := by unfold spanF; rw [e]; rfl
      have c := cum_bd (yOf s + (mOf s - 1 + q) / 12) ((mOf s - 1 + q) % 12 + 1) (by omega) (by omega)
      rw [hs] at hp
      unfold num at hp
      have := key (yOf s + (mOf s - 1 + q) / 12) (by omega) (by omega)
      omega
    · intro e
      have hs : spanF r s q = fst (yOf s + q) := by unfold spanF; rw [e]; rfl
      rw [hs] at hp
      have := key (yOf s + q) (by omega) hp
      omega
theorem per_n {r : Rl} (hr : ROk r) {s to : Int} {j : Nat} (hj : j ≤ perN r s to) : 0 ≤ (j : Int) * r.ev ∧ (j : Int) * r.ev ≤ 365210000 := by
  have := perN_le r s to
  have e0 := hr.e0; have e1 := hr.e1
  refine ⟨Int.mul_nonneg (by omega) (by omega), ?_⟩
  exact Int.le_trans (Int.mul_le_mul_of_nonneg_left e1 (by omega)) (by omega)
/-- What the iterator over periods hands on. -/
def perE (r : Rl) (s : Int) (j : Nat) : Array Value := #[.agg #[.int .i64 (max (spanF r s (j * r.ev)) 0), .int .i64 (min (spanL r s (j * r.ev)) 3652058)]]
set_option maxRecDepth 100000 in
set_option maxHeartbeats 4000000 in
theorem itPeriods (n : Nat) (r : Rl) (m : Rm) (s to : Int) (w : World) (Br Bs Bt : Nat) (hr : ROk r) (h0 : 0 ≤ s) (h1 : s ≤ 3652058) (ht : Tab w) (hBr : CB w Br r m) (hBs : w.cell? ⟨Bs, 0, none⟩ = some (.int .i64 s)) (hBt : w.cell? ⟨Bt, 0, none⟩ = some (.int .i64 to)) :
    ItOwn Fence.wide n Tryd.prog 74 #[.pointer (some ⟨Br, 0, none⟩), .pointer (some ⟨Bs, 0, none⟩), .pointer (some ⟨Bt, 0, none⟩)] (perE r s) (fun pre j => pre = List.range j ∧ j < perN r s to) (fun k => k = Br ∨ k = Bs ∨ k = Bt ∨ k = 0)
      (fun xs => xs = List.range (perN r s to)) (fun pre => ∃ j, pre = List.range (j + 1) ∧ j < perN r s to) w := by
  intro l J Jx W hW hJ hJx hY hJ0
  have HBr : Hid (CB W Br r m) := hBr.on (hW.block _ hBr.lt)
  have HBs : Hid (W.cell? ⟨Bs, 0, none⟩ = some (.int .i64 s)) := by unfold Hid; rw [hW.cell (p := ⟨Bs, 0, none⟩) (cell_lt hBs)]; exact hBs
  have HBt : Hid (W.cell? ⟨Bt, 0, none⟩ = some (.int .i64 to)) := by unfold Hid; rw [hW.cell (p := ⟨Bt, 0, none⟩) (cell_lt hBt)]; exact hBt
  have HT : Hid (Tab W) := ht.on hW
  have HJ : Hid (∀ s C A B, J s C A → Agree W.heap.size C A B → J s C B) := hJ
  have HJx : Hid (∀ s C A B, Jx s C A → Agree W.heap.size C A B → Jx s C B) := hJx
  have HY : Hid (ItYield Fence.wide (n - 1) Tryd.prog l (perE r s) (fun pre j => pre = List.range j ∧ j < perN r s to) W.heap.size (fun k => k = Br ∨ k = Bs ∨ k = Bt ∨ k = 0) J Jx) := hY
  have HJ0 : Hid (J [] (fun _ => False) W) := hJ0
  clear hBr hBs hBt ht hJ hJx hY hJ0 hW
  refine callsIn_of_wp Tryd.func74 rfl trivial ?_ rfl
  simp only [Tryd.ntmps74, List.size_toArray, List.length_cons, List.length_nil, Nat.reduceAdd, Nat.reduceSub, Array.replicate_succ, Array.replicate_zero, List.push_toArray, List.append_toArray, List.nil_append, List.cons_append]
  gi_wp2
  gi_loopw [5] (fun i wr => ∃ (j : Nat) (C : Nat → Prop), j ≤ perN r s to ∧ i = .int .i64 (j * r.ev) ∧ J (List.range j) C wr ∧ W.heap.size ≤ wr.heap.size ∧ (∀ k, C k → W.heap.size ≤ k ∧ k < wr.heap.size) ∧ CB wr Br r m ∧ wr.cell? ⟨Bs, 0, none⟩ = some (.int .i64 s) ∧ wr.cell? ⟨Bt, 0, none⟩ = some (.int .i64 to) ∧ Tab wr)
    (fun i _ => perN r s to * 100 + 1 - (intOf i).toNat)
  case atStart => exact ⟨0, fun _ => False, Nat.zero_le _, by simp, HJ0.out, Nat.le_refl _, fun _ h => h.elim, HBr.out, HBs.out, HBt.out, HT.out⟩
  case round =>
    obtain ⟨j, C, hj, rfl, hJ1, hsz, hC, hb, hs, ht, hT⟩ := hrel
    obtain ⟨b0, b1, b2, b3, b4, b5, b6, b7, b8⟩ := hb
    have HT1 : Hid (Tab wr) := hT
    have HJ1 : Hid (J (List.range j) C wr) := hJ1
    have HC : Hid (∀ k, C k → W.heap.size ≤ k ∧ k < wr.heap.size) := hC
    have hn := per_n hr hj
    have hy := per_year hr h0 h1 hj
    clear hT hJ1 hC
    gi_wp2_with fail
    refine ⟨trivial, fun h => (by cases h), ?_⟩
    refine (callsIn_wide.2 (implPeriodAt r m s _ _ HT1.out hr h0 h1 hn.1 (by omega) hy.1 hy.2)).mono ?_
    rintro e w1 ⟨rfl, bb⟩
    obtain ⟨w2, hw2⟩ : ∃ w2, w2 = w1.alloc (.cells #[.int .i64 (spanF r s (j * r.ev)), .int .i64 (spanL r s (j * r.ev))] 73) := ⟨_, rfl⟩
    have bb2 : Below wr.heap.size wr w2 := by rw [hw2]; exact bb.alloc bb.size _
    have HW2 : Hid (w2 = w1.alloc (.cells #[.int .i64 (spanF r s (j * r.ev)), .int .i64 (spanL r s (j * r.ev))] 73)) := hw2
    have HJ2 : Hid (J (List.range j) C w2) := HJ.out _ _ _ _ HJ1.out (Agree.of_below bb2 hsz (fun k hk => (HC.out k hk).2))
    have HB2 : Hid (Below wr.heap.size wr w2) := bb2
    have ht' : w1.cell? ⟨Bt, 0, none⟩ = some (.int .i64 to) := by rw [bb.cell (p := ⟨Bt, 0, none⟩) (cell_lt ht)]; exact ht
    have hblt := cell_lt ht'
    clear bb2 hw2
    by_cases hlast : j = perN r s to
    · have hout := perN_out hr (to := to) h0 h1
      rw [← hlast] at hout
      have fin : ∀ D, D = w2 → (∃ v, Ending.returned (.tuple #[]) = .returned v) ∧ ((∃ xs C, xs = List.range (perN r s to) ∧ J xs C D) ∨ (∃ pre C, (∃ j, pre = List.range (j + 1) ∧ j < perN r s to) ∧ Jx pre C D)) := by
        rintro D rfl; rw [← hlast]; exact ⟨⟨_, rfl⟩, .inl ⟨_, C, rfl, HJ2.out⟩⟩
      by_cases hto : to < spanF r s (j * r.ev)
      · clear hout hlast
        gi_wp2
        refine bodyPost_ret (results_none rfl _ _ _) rfl ?_
        obtain ⟨_, h⟩ := fin _ HW2.out.symm
        exact ⟨⟨_, rfl⟩, h⟩
      · have hmx : 3652058 < spanF r s (j * r.ev) := by omega
        clear hout hlast
        gi_wp2
        refine bodyPost_ret (results_none rfl _ _ _) rfl ?_
        obtain ⟨_, h⟩ := fin _ HW2.out.symm
        exact ⟨⟨_, rfl⟩, h⟩
    · have hj2 : j < perN r s to := by omega
      have hin := perN_in hj2
      have hlen := span_len hr h0 h1 (n := j * r.ev) hn.1
      obtain ⟨fn, tmps, assign, body, hy1, hR⟩ := HY.out (List.range j) j C w2 (by have := HB2.out.size; omega) (fun k hk => ⟨(HC.out k hk).1, by have := HB2.out.size; have := (HC.out k hk).2; omega⟩) HJ2.out ⟨rfl, hj2⟩
      rw [HW2.out] at hy1
      dsimp only [perE] at hy1
      have after : ∀ (W3 : World) (C' : Nat → Prop), (∀ k, C' k → C k ∨ w2.heap.size ≤ k) → (∀ k, C' k → k < W3.heap.size) → Rest W.heap.size (fun k => k = Br ∨ k = Bs ∨ k = Bt ∨ k = 0) C w2 W3 →
          W.heap.size ≤ W3.heap.size ∧ (∀ k, C' k → W.heap.size ≤ k ∧ k < W3.heap.size) ∧ CB W3 Br r m ∧ W3.cell? ⟨Bs, 0, none⟩ = some (.int .i64 s) ∧ W3.cell? ⟨Bt, 0, none⟩ = some (.int .i64 to) ∧ Tab W3 := fun W3 C' hC1 hC2 hrest => by
        have hb2 := HB2.out
        have hs2 := hb2.size
        have hs3 := hrest.size
        have kb : ∀ k, k < wr.heap.size → (k = Br ∨ k = Bs ∨ k = Bt ∨ k = 0) → W3.heap[k]? = wr.heap[k]? := fun k hk hp => (hrest.block k (by omega) (.inl hp)).trans (hb2.block k hk)
        refine ⟨by omega, fun k hk => ⟨?_, hC2 k hk⟩, ?_, ?_, ?_, ?_⟩
        · rcases hC1 k hk with h | h
          · exact (HC.out k h).1
          · omega
        · exact CB.on (W := wr) ⟨b0, b1, b2, b3, b4, b5, b6, b7, b8⟩ (kb _ (cell_lt b0) (.inl rfl))
        · rw [World.cell?_of_block (w := wr) (a := ⟨Bs, 0, none⟩) (kb _ (cell_lt hs) (.inr (.inl rfl)))]; exact hs
        · rw [World.cell?_of_block (w := wr) (a := ⟨Bt, 0, none⟩) (kb _ (cell_lt ht) (.inr (.inr (.inl rfl))))]; exact ht
        · exact HT1.out.same (kb _ HT1.out.lt (.inr (.inr (.inr rfl))))
      have AFTER : Hid (∀ (W3 : World) (C' : Nat → Prop), (∀ k, C' k → C k ∨ w2.heap.size ≤ k) → (∀ k, C' k → k < W3.heap.size) → Rest W.heap.size (fun k => k = Br ∨ k = Bs ∨ k = Bt ∨ k = 0) C w2 W3 →
          W.heap.size ≤ W3.heap.size ∧ (∀ k, C' k → W.heap.size ≤ k ∧ k < W3.heap.size) ∧ CB W3 Br r m ∧ W3.cell? ⟨Bs, 0, none⟩ = some (.int .i64 s) ∧ W3.cell? ⟨Bt, 0, none⟩ = some (.int .i64 to) ∧ Tab W3) := after
      have e0 := hr.e0; have e1 := hr.e1
      have STEP : Hid (Value.int .i64 ((j : Int) * r.ev + r.ev) = .int .i64 (((j + 1 : Nat) : Int) * r.ev)) := by
        unfold Hid; rw [show (((j + 1 : Nat)) : Int) = (j : Int) + 1 by omega, Int.add_mul, Int.one_mul]
      have MEAS : Hid (perN r s to * 100 + 1 - (intOf (.int .i64 ((j : Int) * r.ev + r.ev))).toNat < perN r s to * 100 + 1 - (intOf (.int .i64 ((j : Int) * r.ev))).toNat) := by
        unfold Hid
        have h5 : (j : Int) * r.ev ≤ (j : Int) * 100 := Int.mul_le_mul_of_nonneg_left e1 (by omega)
        simp only [intOf]
        omega
      clear after b0 b1 b2 b3 b4 b5 b6 b7 b8 hs
      by_cases hx : 0 ≤ spanF r s (j * r.ev)
      · rw [show max (spanF r s (j * r.ev)) 0 = spanF r s (j * r.ev) by omega] at hy1
        by_cases hz : spanL r s (j * r.ev) ≤ 3652058
        · rw [show min (spanL r s (j * r.ev)) 3652058 = spanL r s (j * r.ev) by omega] at hy1
          gi_wp2
          refine ⟨fun h => (by cases h), ?_⟩
          rw [← HW2.out]
          refine hR.mono ?_
          rintro e W3 ⟨C', hC1, hC2, hrest, (⟨rfl, hJ3⟩ | ⟨rfl, hJx3⟩)⟩
          · have hk := AFTER.out W3 C' hC1 hC2 hrest
            obtain ⟨k1, k2, k3, k4, k5, k6⟩ := hk
            have ke := k3.2.1
            gi_wp2
            go_roundw
            case rel => exact ⟨j + 1, C', by omega, STEP.out, by rw [List.range_succ]; exact hJ3, k1, k2, k3, k4, k5, k6⟩
            case measure => exact MEAS.out
          · gi_wp2
            refine bodyPost_ret (results_none rfl _ _ _) rfl ?_
            exact ⟨⟨_, rfl⟩, .inr ⟨_, C', ⟨j, by rw [List.range_succ], hj2⟩, hJx3⟩⟩
        · rw [show min (spanL r s (j * r.ev)) 3652058 = 3652058 by omega] at hy1
          gi_wp2
          refine ⟨fun h => (by cases h), ?_⟩
          rw [← HW2.out]
          refine hR.mono ?_
          rintro e W3 ⟨C', hC1, hC2, hrest, (⟨rfl, hJ3⟩ | ⟨rfl, hJx3⟩)⟩
          · have hk := AFTER.out W3 C' hC1 hC2 hrest
            obtain ⟨k1, k2, k3, k4, k5, k6⟩ := hk
            have ke := k3.2.1
            gi_wp2
            go_roundw
            case rel => exact ⟨j + 1, C', by omega, STEP.out, by rw [List.range_succ]; exact hJ3, k1, k2, k3, k4, k5, k6⟩
            case measure => exact MEAS.out
          · gi_wp2
            refine bodyPost_ret (results_none rfl _ _ _) rfl ?_
            exact ⟨⟨_, rfl⟩, .inr ⟨_, C', ⟨j, by rw [List.range_succ], hj2⟩, hJx3⟩⟩
      · rw [show max (spanF r s (j * r.ev)) 0 = 0 by omega] at hy1
        by_cases hz : spanL r s (j * r.ev) ≤ 3652058
        · rw [show min (spanL r s (j * r.ev)) 3652058 = spanL r s (j * r.ev) by omega] at hy1
          gi_wp2
          refine ⟨fun h => (by cases h), ?_⟩
          rw [← HW2.out]
          refine hR.mono ?_
          rintro e W3 ⟨C', hC1, hC2, hrest, (⟨rfl, hJ3⟩ | ⟨rfl, hJx3⟩)⟩
          · have hk := AFTER.out W3 C' hC1 hC2 hrest
            obtain ⟨k1, k2, k3, k4, k5, k6⟩ := hk
            have ke := k3.2.1
            gi_wp2
            go_roundw
            case rel => exact ⟨j + 1, C', by omega, STEP.out, by rw [List.range_succ]; exact hJ3, k1, k2, k3, k4, k5, k6⟩
            case measure => exact MEAS.out
          · gi_wp2
            refine bodyPost_ret (results_none rfl _ _ _) rfl ?_
            exact ⟨⟨_, rfl⟩, .inr ⟨_, C', ⟨j, by rw [List.range_succ], hj2⟩, hJx3⟩⟩
        · exfalso; omega
end Go.Proofs.YtlfglhpepoepcaaDoor
