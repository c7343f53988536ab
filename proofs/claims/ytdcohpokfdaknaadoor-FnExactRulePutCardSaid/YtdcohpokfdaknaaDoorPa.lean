/- The text of a rule: lists of texts, as the program makes them. -/
import Derived.Test.YtdcohpokfdaknaaDoorRq
import Derived.Test.YtdcohpokfdaknaaDoorTc
import Derived.Test.YtdcohpokfdaknaaDoorZn
namespace Go.Proofs.YtdcohpokfdaknaaDoor
open Go.RowKit
set_option linter.unusedVariables false
theorem TS.nil (w : World) : TS w (.slice none 0 0) [] w := ⟨⟨by simp, .inl ⟨rfl, rfl⟩⟩, Below.refl _ _⟩
theorem TS.on {W0 W W' : World} {v : Value} {l : List ByteArray} (h : TS W0 v l W) (hb : Below W.heap.size W W') : TS W0 v l W' := ⟨h.1.below hb, bstep h.2 hb⟩
set_option maxRecDepth 100000 in
set_option maxHeartbeats 4000000 in
theorem implTextsInt (a : Option Addr) (cap : Nat) (l : List Int) (w : World) (h : IsInts w a l) (hl : l.length ≤ 8) (hb : ∀ i, i < l.length → -1000 < gi l i ∧ gi l i < 1000) (hP : Pow w) :
    Calls Tryd.prog 23 #[.slice a l.length cap, .func (.func 18) #[] #[]] w fun e w' => ∃ v, e = .returned v ∧ OS w' w.heap.size v (numsT l) ∧ Below w.heap.size w w' := by
  obtain ⟨i0, hi, hz0, hz1, hz2⟩ := info_parts strInfo
  have HI : Hid (IsInts w a l) := h
  have HB : Hid (∀ i, i < l.length → -1000 < gi l i ∧ gi l i < 1000) := hb
  have HP : Hid (Pow w) := hP
  clear h hb hP
  go_enter Tryd.func23, Tryd.ntmps23
  go_wp2
  go_loopw [5, 7, 10] (fun v _ i wr => ∃ k : Nat, k ≤ l.length ∧ i = .int .i64 k ∧ TS w v (numsT (l.take k)) wr) (fun _ _ i _ => l.length - (intOf i).toNat)
  case atStart => exact ⟨0, by omega, rfl, TS.nil w⟩
  case round =>
    obtain ⟨k, hk, rfl, K⟩ := hrel
    by_cases hlt : k < l.length
    · have G1 := HI.out
      rcases G1 with G1 | ⟨b, off, rfl, hbs, hc⟩
      · rw [G1] at hlt; simp at hlt
      have c0 : wr.cell? ⟨b, off + k, none⟩ = some (.int .i64 (gi l k)) := by rw [K.2.cell (p := ⟨b, off + k, none⟩) hbs]; exact hc k hlt
      obtain ⟨g0, g1⟩ := HB.out k hlt
      have HT : Hid (numsT (l.take (k + 1)) = numsT (l.take k) ++ [numT (gi l k)]) := numsT_take l k hlt
      have hlen := numsT_len l k hk
      clear hc
      generalize numsT (l.take k) = L at K HT hlen
      go_wp2_with fail
      with_reducible refine (implItoaN _ _ (by omega) (by omega) (HP.out.on K.2)).mono ?_
      rintro e w1 ⟨rfl, b1⟩
      replace K := TS.on K b1
      clear b1 c0
      go_wp2_with (first
        | (at_builtin; refine wpList_append_own _ rfl _ _ 39 rfl w.heap.size 9 i0 (.string ByteArray.empty) 1 16 Tryd.underlying39 hi hz0 hz1 hz2 rfl (by decide) _ _ _ rfl (World.ownsRow.alloc K.1 _) ⟨_, 0, none⟩ 1 1 [.string (numT (gi l k))] rfl rfl (cell_one_new _ _ _) (by simp [Value.oneCell']) (by unfold maxLen; omega) (by omega) (by have := K.2.size; simp; omega) ?_; intro v' w4 hown hgrow _; have K4 := TS.app K hown hgrow; clear hown hgrow K))
      go_roundw
      case rel => exact ⟨k + 1, by omega, by go_num, by rw [HT.out]; exact K4⟩
      case measure => simp [intOf]; omega
    · have hkk : k = l.length := by omega
      subst hkk
      rw [List.take_length] at K
      go_wp2
      go_ret
      exact ⟨_, rfl, K.1, K.2⟩
/-- A day of the week with its number, if it has one. -/
def byT (x y : Int) : ByteArray := if x = 0 then wkT y.toNat else numT x ++ wkT y.toNat
def bysT (l : List (Int × Int)) : List ByteArray := l.map fun p => byT p.1 p.2
theorem bysT_take (l : List (Int × Int)) (k : Nat) (h : k < l.length) : bysT (l.take (k + 1)) = bysT (l.take k) ++ [byT (tAt l k) (tSh l k)] := by
  unfold bysT
  rw [List.take_succ_eq_append_getElem h, List.map_append]
  simp [tAt, tSh, h]
theorem bysT_len (l : List (Int × Int)) (k : Nat) (h : k ≤ l.length) : (bysT (l.take k)).length = k := by unfold bysT; simp; omega
/-- The program's table of the days of the week. -/
def Wk (w : World) : Prop := ∀ d, d < 7 → w.cell? ⟨1, d, none⟩ = some (.string (wkT d))
theorem Wk.on {w w' : World} (h : Wk w) (hb : Below w.heap.size w w') : Wk w' := fun d hd => by
  rw [hb.cell (p := ⟨1, d, none⟩) (cell_lt (h 0 (by omega)))]; exact h d hd
/-- What holds all along a day's text. -/
def QB (w : World) (d : Nat) (x : Int) (b : Nat) (w' : World) : Prop := w'.cell? ⟨b, 0, none⟩ = some (.int .i64 x) ∧ w'.cell? ⟨b, 1, none⟩ = some (.int .i64 d) ∧ w'.cell? ⟨1, d, none⟩ = some (.string (wkT d)) ∧ Pow w' ∧ Below w.heap.size w w'
theorem QB.on {w W w' : World} {d : Nat} {x : Int} {b : Nat} (h : QB w d x b W) (hb : Below W.heap.size W w') : QB w d x b w' := by
  obtain ⟨c0, c1, c2, p, B⟩ := h
  refine ⟨?_, ?_, ?_, p.on hb, bstep B hb⟩
  · rw [hb.cell (p := ⟨b, 0, none⟩) (cell_lt c0)]; exact c0
  · rw [hb.cell (p := ⟨b, 1, none⟩) (cell_lt c0)]; exact c1
  · rw [hb.cell (p := ⟨1, d, none⟩) (cell_lt c2)]; exact c2
set_option maxRecDepth 100000 in
set_option maxHeartbeats 4000000 in
theorem implByText (x : Int) (d : Nat) (w : World) (x0 : -1000 < x) (x1 : x < 1000) (hd : d < 7) (hP : Pow w) (hW : Wk w) :
    Calls Tryd.prog 22 #[.agg #[.int .i64 x, .int .i64 d]] w fun e w' => e = .returned (.string (byT x d)) ∧ Below w.heap.size w w' := by
  have b0 := (Below.refl w.heap.size w).alloc (Nat.le_refl _) (.cells #[.int .i64 x, .int .i64 d] 50)
  have c0 := (hW.on b0) d hd
  have HP : Hid (Pow (w.alloc (.cells #[.int .i64 x, .int .i64 d] 50))) := hP.on b0
  have d0 : (0 : Int) ≤ (d : Int) := by omega
  have d1 : (d : Int) < 7 := by omega
  have wz := wkT_size d
  by_cases hx : x = 0
  · subst hx
    have HB : Hid (byT 0 d = wkT d) := rfl
    clear hP hW
    go_enter Tryd.func22, Tryd.ntmps22
    go_wp2
    go_ret
    exact ⟨by rw [HB.out]; rfl, b0⟩
  · have HB : Hid (byT x d = numT x ++ wkT d) := if_neg hx
    have hz : (x == 0) = false := by simpa using hx
    have nz := numT_size (n := x) (by omega) (by omega)
    have zz : ¬ 9223372036854775807 < (numT x).size + 2 := by omega
    clear hP hW
    have K : QB w d x w.heap.size (w.alloc (.cells #[.int .i64 x, .int .i64 d] 50)) := ⟨by simp, by simp, c0, HP.out, b0⟩
    clear c0 HP b0
    go_enter Tryd.func22, Tryd.ntmps22
    go_wp2_with fail
    refine wp_region_cl (fun w' => QB w d x w.heap.size w') (by kernel_rfl) (by kernel_rfl) (QB.on K (Below.refl _ _).drew) ?_
    clear K
    repeat (first
      | go_big_quiet_skip
      | (go_big_quiet_want; go_big_quiet_op; go_big_quiet_on)
      | (go_big_quiet_want
         apply Exists.intro
         refine ⟨fun w7 hC7 => ?_, ?_⟩
         · (have hC8 := hC7
            obtain ⟨y0, y1, y2, q7, _⟩ := hC7
            go_simp
            first
              | done
              | rfl
              | exact ⟨rfl, rfl⟩
              | (with_reducible refine (implItoaN _ _ (by omega) (by omega) q7).mono ?_
                 rintro e w8 ⟨rfl, b8⟩
                 exact ⟨rfl, QB.on hC8 b8⟩))
         (go_simp; go_big_quiet_on)))
    refine wpQuiet_nil ?_
    intro w7 K7
    have B7 := K7.2.2.2.2
    clear K7
    go_wp2
    go_ret
    exact ⟨by rw [HB.out]; rfl, B7⟩
set_option maxRecDepth 100000 in
set_option maxHeartbeats 4000000 in
theorem implTextsBy (a : Option Addr) (cap : Nat) (l : List (Int × Int)) (w : World) (h : IsTurns w a l) (hl : l.length ≤ 8) (hb : ∀ i, i < l.length → (-1000 < tAt l i ∧ tAt l i < 1000) ∧ 0 ≤ tSh l i ∧ tSh l i ≤ 6) (hP : Pow w) (hW : Wk w) :
    Calls Tryd.prog 21 #[.slice a l.length cap, .func (.func 22) #[] #[]] w fun e w' => ∃ v, e = .returned v ∧ OS w' w.heap.size v (bysT l) ∧ Below w.heap.size w w' := by
  obtain ⟨i0, hi, hz0, hz1, hz2⟩ := info_parts strInfo
  have HI : Hid (IsTurns w a l) := h
  have HB : Hid (∀ i, i < l.length → (-1000 < tAt l i ∧ tAt l i < 1000) ∧ 0 ≤ tSh l i ∧ tSh l i ≤ 6) := hb
  have HP : Hid (Pow w) := hP
  have HW : Hid (Wk w) := hW
  clear h hb hP hW
  go_enter Tryd.func21, Tryd.ntmps21
  go_wp2
  go_loopw [5, 7, 10] (fun v _ i wr => ∃ k : Nat, k ≤ l.length ∧ i = .int .i64 k ∧ TS w v (bysT (l.take k)) wr) (fun _ _ i _ => l.length - (intOf i).toNat)
  case atStart => exact ⟨0, by omega, rfl, TS.nil w⟩
  case round =>
    obtain ⟨k, hk, rfl, K⟩ := hrel
    by_cases hlt : k < l.length
    · have G1 := HI.out
      rcases G1 with G1 | ⟨b, off, rfl, hbs, hc⟩
      · rw [G1] at hlt; simp at hlt
      have c0 : wr.cell? ⟨b, off + k * 2, none⟩ = some (.int .i64 (tAt l k)) := by rw [K.2.cell (p := ⟨b, off + k * 2, none⟩) hbs]; exact (hc k hlt).1
      have c1 : wr.cell? ⟨b, off + k * 2 + 1, none⟩ = some (.int .i64 (tSh l k)) := by rw [K.2.cell (p := ⟨b, off + k * 2 + 1, none⟩) hbs]; exact (hc k hlt).2
      obtain ⟨⟨g0, g1⟩, g2, g3⟩ := HB.out k hlt
      have HT : Hid (bysT (l.take (k + 1)) = bysT (l.take k) ++ [byT (tAt l k) (tSh l k)]) := bysT_take l k hlt
      have hlen := bysT_len l k hk
      obtain ⟨d, hd⟩ : ∃ d : Nat, tSh l k = d := ⟨(tSh l k).toNat, by omega⟩
      have hd7 : d < 7 := by omega
      rw [hd] at c1 HT
      clear hc g2 g3 hd
      generalize bysT (l.take k) = L at K HT hlen
      generalize tAt l k = X at c0 HT g0 g1
      have b0 := (Below.refl wr.heap.size wr).alloc (Nat.le_refl _) (.cells #[.int .i64 X, .int .i64 d] 50)
      replace K := TS.on K b0
      clear b0
      go_wp2_with fail
      with_reducible refine (implByText X d _ g0 g1 hd7 (HP.out.on K.2) (HW.out.on K.2)).mono ?_
      rintro e w1 ⟨rfl, b1⟩
      replace K := TS.on K b1
      clear b1 c0 c1
      go_wp2_with (first
        | (at_builtin; refine wpList_append_own _ rfl _ _ 39 rfl w.heap.size 9 i0 (.string ByteArray.empty) 1 16 Tryd.underlying39 hi hz0 hz1 hz2 rfl (by decide) _ _ _ rfl (World.ownsRow.alloc K.1 _) ⟨_, 0, none⟩ 1 1 [.string (byT X d)] rfl rfl (cell_one_new _ _ _) (by simp [Value.oneCell']) (by unfold maxLen; omega) (by omega) (by have := K.2.size; simp; omega) ?_; intro v' w4 hown hgrow _; have K4 := TS.app K hown hgrow; clear hown hgrow K))
      go_roundw
      case rel => exact ⟨k + 1, by omega, by go_num, by rw [HT.out]; exact K4⟩
      case measure => simp [intOf]; omega
    · have hkk : k = l.length := by omega
      subst hkk
      rw [List.take_length] at K
      go_wp2
      go_ret
      exact ⟨_, rfl, K.1, K.2⟩
end Go.Proofs.YtdcohpokfdaknaaDoor
