/- A rule's days of the week: the closure that asks all of them. -/
import Derived.Test.YtlfglhpepoepcaaDoorKk
namespace Go.Proofs.YtlfglhpepoepcaaDoor
open Go.RowKit Go.Shelf
set_option linter.unusedVariables false

def anyBy (n fs fe : Int) (l : List (Int × Int)) : Bool := l.any fun b => byC n fs fe b.1 b.2
theorem any_no {n fs fe : Int} {l : List (Int × Int)} (h : ∀ j, j < l.length → byC n fs fe (tAt l j) (tSh l j) = false) : anyBy n fs fe l = false := by
  unfold anyBy
  rw [List.any_eq_false]
  intro x hx
  obtain ⟨i, hi, rfl⟩ := List.getElem_of_mem hx
  have := h i hi
  simp only [tAt, tSh, List.getD_eq_getElem?_getD, List.getElem?_eq_getElem hi, Option.getD_some] at this
  rw [this]; simp
theorem any_yes {n fs fe : Int} {l : List (Int × Int)} {j : Nat} (hj : j < l.length) (h : byC n fs fe (tAt l j) (tSh l j) = true) : anyBy n fs fe l = true := by
  unfold anyBy
  rw [List.any_eq_true]
  refine ⟨l[j], List.getElem_mem hj, ?_⟩
  simpa only [tAt, tSh, List.getD_eq_getElem?_getD, List.getElem?_eq_getElem hj, Option.getD_some] using h
theorem dfB_any (r : Rl) (n : Int) : dfB r n = anyBy n (pastB (inMo r) n / 7 + 1) (-(leftB (inMo r) n / 7 + 1)) r.ds := rfl
set_option maxHeartbeats 4000000 in
theorem implIdxBy (a : Option Addr) (cap : Nat) (l : List (Int × Int)) (n fs fe : Int) (D P5 P6 : Nat) (w : World) (h : IsTurns w a l) (hl : l.length ≤ 2000000) (hd : Dy w D P5 P6 n fs fe) (h0 : 0 ≤ n) (h1 : n ≤ 3652058) :
    Calls Tryd.prog 100 #[.slice a l.length cap, .func (.func 92) #[] #[.pointer (some ⟨D, 0, none⟩), .pointer (some ⟨P5, 0, none⟩), .pointer (some ⟨P6, 0, none⟩)]] w fun e w' => (∃ i : Int, e = .returned (.int .i64 i) ∧ decide (0 ≤ i) = anyBy n fs fe l) ∧ Below w.heap.size w w' := by
  have H1 : Hid (IsTurns w a l) := h
  have HD : Hid (Dy w D P5 P6 n fs fe) := hd
  clear h hd
  go_enter Tryd.func100, Tryd.ntmps100
  go_wp2
  go_loopw [8] (fun i wr => ∃ k : Nat, k ≤ l.length ∧ i = .int .i64 k ∧ Below w.heap.size w wr ∧ ∀ j, j < k → byC n fs fe (tAt l j) (tSh l j) = false) (fun i _ => l.length - (intOf i).toNat)
  case atStart => exact ⟨0, by omega, rfl, Below.refl _ _, fun j hj => by omega⟩
  case round =>
    obtain ⟨k, hk, rfl, hb, hno⟩ := hrel
    have HN : Hid (∀ j, j < k → byC n fs fe (tAt l j) (tSh l j) = false) := hno
    have HB : Hid (Below w.heap.size w wr) := hb
    clear hno
    by_cases hlt : k < l.length
    · have G1 := H1.out
      rcases G1 with G1 | ⟨b, o, rfl, hbs, hc⟩
      · rw [G1] at hlt; simp at hlt
      obtain ⟨c0, c1⟩ := hc k hlt
      rw [← hb.cell (p := ⟨b, o + k * 2, none⟩) hbs] at c0
      rw [← hb.cell (p := ⟨b, o + k * 2 + 1, none⟩) hbs] at c1
      obtain ⟨x, hx⟩ : ∃ x, x = tAt l k := ⟨_, rfl⟩
      obtain ⟨y, hy⟩ : ∃ y, y = tSh l k := ⟨_, rfl⟩
      rw [← hx] at c0
      rw [← hy] at c1
      have HX : Hid (x = tAt l k) := hx
      have HY : Hid (y = tSh l k) := hy
      clear hc hx hy hb
      have hi1 : (k : Int) < (l.length : Int) := by omega
      have hi0 : (0 : Int) ≤ (k : Int) := by omega
      go_wp2_with fail
      refine (clBy x y n fs fe D P5 P6 wr (HD.out.on HB.out) h0 h1).mono ?_
      rintro e w1 ⟨rfl, b1⟩
      have HB1 : Hid (Below w.heap.size w w1) := bstep HB.out b1
      clear b1 c0 c1
      cases hv : byC n fs fe x y with
      | true =>
        have HV : Hid (byC n fs fe x y = true) := hv
        clear hv
        go_wp2
        go_ret
        exact ⟨⟨(k : Int), rfl, by rw [any_yes hlt (by rw [← HX.out, ← HY.out]; exact HV.out)]; exact decide_eq_true hi0⟩, HB1.out⟩
      | false =>
        have HV : Hid (byC n fs fe x y = false) := hv
        clear hv
        go_wp2
        go_roundw
        case rel => exact ⟨k + 1, by omega, by go_num, HB1.out, fun j hj => by
          rcases Nat.lt_or_ge j k with h' | h'
          · exact HN.out j h'
          · have : j = k := by omega
            subst this; rw [← HX.out, ← HY.out]; exact HV.out⟩
        case measure => simp [intOf]; omega
    · have : k = l.length := by omega
      subst this
      clear hb
      go_wp2
      go_ret
      exact ⟨⟨-1, rfl, by rw [any_no HN.out]; rfl⟩, HB.out⟩
theorem implHasBy (a : Option Addr) (cap : Nat) (l : List (Int × Int)) (n fs fe : Int) (D P5 P6 : Nat) (w : World) (h : IsTurns w a l) (hl : l.length ≤ 2000000) (hd : Dy w D P5 P6 n fs fe) (h0 : 0 ≤ n) (h1 : n ≤ 3652058) :
    Calls Tryd.prog 91 #[.slice a l.length cap, .func (.func 92) #[] #[.pointer (some ⟨D, 0, none⟩), .pointer (some ⟨P5, 0, none⟩), .pointer (some ⟨P6, 0, none⟩)]] w fun e w' => e = .returned (.bool (anyBy n fs fe l)) ∧ Below w.heap.size w w' := by
  have H1 : Hid (IsTurns w a l) := h
  have HD : Hid (Dy w D P5 P6 n fs fe) := hd
  clear h hd
  go_enter Tryd.func91, Tryd.ntmps91
  go_wp2_with fail
  refine (implIdxBy _ _ _ _ _ _ _ _ _ _ H1.out hl HD.out h0 h1).mono ?_
  rintro e w' ⟨⟨i, rfl, hi⟩, hb⟩
  have HI : Hid (decide (0 ≤ i) = anyBy n fs fe l) := hi
  have HB : Hid (Below w.heap.size w w') := hb
  clear hi hb
  go_wp2
  go_ret
  exact ⟨ret_b HI.out, HB.out⟩
set_option maxHeartbeats 4000000 in
theorem clByAll (r : Rl) (m : Rm) (Bm Br : Nat) (n : Int) (w : World) (ht : Tab w) (hb : CB w Br r m) (hm : w.cell? ⟨Bm, 0, none⟩ = some (.bool (inMo r))) (hi : IsTurns w m.a0 r.ds) (hl : r.ds.length ≤ 8) (h0 : 0 ≤ n) (h1 : n ≤ 3652058) :
    Calls Tryd.prog 89 #[dated n, .pointer (some ⟨Bm, 0, none⟩), .pointer (some ⟨Br, 0, none⟩)] w fun e w' => e = .returned (.bool (dfB r n)) ∧ Below w.heap.size w w' := by
  obtain ⟨W1, hW1⟩ : ∃ W1, W1 = w.alloc (.cells (dcells n) 81) := ⟨_, rfl⟩
  have hb1 : Below w.heap.size w W1 := by rw [hW1]; exact (Below.refl _ w).alloc (Nat.le_refl _) _
  have HD1 : Hid (W1.cell? ⟨w.heap.size, 0, none⟩ = some (.int .i64 n)) := by unfold Hid; rw [hW1]; exact ((CF.new w (dcells n) 81).2 0 _ rfl).1
  have HW1 : Hid (W1 = w.alloc (.cells (dcells n) 81)) := hW1
  have HB1 : Hid (Below w.heap.size w W1) := hb1
  have HT1 : Hid (Tab W1) := ht.on hb1
  have HR1 : Hid (CB W1 Br r m) := hb.on (hb1.block _ hb.lt)
  have HI1 : Hid (IsTurns W1 m.a0 r.ds) := hi.below (B := 0) hb1
  have hml := cell_lt hm
  clear ht hb hi hb1 hW1
  unfold dated
  go_enter Tryd.func89, Tryd.ntmps89
  go_wp2_with fail
  rw [← HW1.out]
  refine (implNums n (inMo r) W1 HT1.out h0 h1).mono ?_
  rintro e w2 ⟨rfl, b2⟩
  obtain ⟨fs, hfs⟩ : ∃ fs, fs = pastB (inMo r) n / 7 + 1 := ⟨_, rfl⟩
  obtain ⟨fe, hfe⟩ : ∃ fe, fe = -(leftB (inMo r) n / 7 + 1) := ⟨_, rfl⟩
  have HFS : Hid (fs = pastB (inMo r) n / 7 + 1) := hfs
  have HFE : Hid (fe = -(leftB (inMo r) n / 7 + 1)) := hfe
  rw [← hfs, ← hfe]
  have HB2 : Hid (Below w.heap.size w w2) := bstep HB1.out b2
  have HI2 : Hid (IsTurns w2 m.a0 r.ds) := HI1.out.below (B := 0) b2
  have hd2 : w2.cell? ⟨w.heap.size, 0, none⟩ = some (.int .i64 n) := by rw [b2.cell (p := ⟨w.heap.size, 0, none⟩) (cell_lt HD1.out)]; exact HD1.out
  have HD2 : Hid (w2.cell? ⟨w.heap.size, 0, none⟩ = some (.int .i64 n)) := hd2
  have c4 := (HR1.out.on (b2.block _ HR1.out.lt)).2.2.2.2.1
  have hrl := cell_lt c4
  clear b2 hfs hfe hm hd2
  obtain ⟨W3, hW3⟩ : ∃ W3, W3 = (w2.alloc (.cells #[.int .i64 fs] 3)).alloc (.cells #[.int .i64 fe] 3) := ⟨_, rfl⟩
  have hb3 : Below w2.heap.size w2 W3 := by rw [hW3]; exact ((Below.refl _ w2).alloc (Nat.le_refl _) _).alloc (by simp) _
  have e1 : W3.cell? ⟨w2.heap.size, 0, none⟩ = some (.int .i64 fs) := by rw [hW3]; exact (((CF.new w2 #[.int .i64 fs] 3).past _).2 0 _ rfl).1
  have e2 : W3.cell? ⟨w2.heap.size + 1, 0, none⟩ = some (.int .i64 fe) := by
    have := ((CF.new (w2.alloc (.cells #[.int .i64 fs] 3)) #[.int .i64 fe] 3).2 0 _ rfl).1
    rw [World.size_alloc] at this; rw [hW3]; exact this
  have HDY : Hid (Dy W3 w.heap.size w2.heap.size (w2.heap.size + 1) n fs fe) := ⟨by rw [hb3.cell (p := ⟨w.heap.size, 0, none⟩) (cell_lt HD2.out)]; exact HD2.out, e1, e2⟩
  have HB3 : Hid (Below w2.heap.size w2 W3) := hb3
  have HW3 : Hid (W3 = (w2.alloc (.cells #[.int .i64 fs] 3)).alloc (.cells #[.int .i64 fe] 3)) := hW3
  clear hW3 hb3 e1 e2
  go_wp2_with fail
  rw [← HW3.out]
  refine (implHasBy _ _ _ n fs fe _ _ _ W3 (HI2.out.below (B := 0) HB3.out) (by omega) HDY.out h0 h1).mono ?_
  rintro e w4 ⟨rfl, b4⟩
  have HB4 : Hid (Below w.heap.size w w4) := bstep (bstep HB2.out HB3.out) b4
  clear b4 c4
  go_wp2
  go_ret
  exact ⟨ret_b (by rw [dfB_any, HFS.out, HFE.out]), HB4.out⟩
end Go.Proofs.YtlfglhpepoepcaaDoor
