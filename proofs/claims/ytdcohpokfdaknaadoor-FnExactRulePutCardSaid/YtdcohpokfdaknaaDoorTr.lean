/- A date as a text: the specification's and the program's. -/
import Derived.Test.YtdcohpokfdaknaaDoorTq
import Derived.Test.YtdcohpokfdaknaaDoorImC
import Derived.Test.YtdcohpokfdaknaaDoorC3
import Derived.Test.YtdcohpokfdaknaaDoorCls
namespace Go.Proofs.YtdcohpokfdaknaaDoor
open Go.RowKit
set_option linter.unusedVariables false
def dash : ByteArray := ⟨#[45]⟩
theorem dash_size : dash.size = 1 := rfl
/-- A date as a text. -/
def dateT (y m d : Nat) : ByteArray := pad y 4 ++ dash ++ pad m 2 ++ dash ++ pad d 2
theorem pad_size {n k : Nat} (h : (dec n).size ≤ k) : (pad n k).size = k := by
  unfold pad; rw [ByteArray.size_append, zeros_size]; omega
theorem specPad' (n k : Nat) (w : World) (h : n < 10000) (hk : (dec n).size ≤ k) (k9 : k ≤ 9) : Calls Tryd.prog 51 #[.int .i64 n, .int .i64 k] w fun e w' => e = .returned (.string (pad n k)) ∧ Below w.heap.size w w' :=
  specPad n k (k - (dec n).size) w h (by omega) k9
theorem implFig' (n k : Nat) (w : World) (h : n < 10000) (hk : (dec n).size ≤ k) (k9 : k ≤ 9) (hP : Pow w) : Calls Tryd.prog 45 #[.int .i64 n, .int .i64 k] w fun e w' => e = .returned (.string (pad n k)) ∧ Below w.heap.size w w' :=
  implFig n k (k - (dec n).size) w h (by omega) k9 hP
theorem specPad4 (n : Nat) (w : World) (h : n < 10000) : Calls Tryd.prog 51 #[.int .i64 n, .int .i64 4] w fun e w' => e = .returned (.string (pad n 4)) ∧ Below w.heap.size w w' := specPad' n 4 w h (dec_4 h) (by omega)
theorem specPad2 (n : Nat) (w : World) (h : n < 100) : Calls Tryd.prog 51 #[.int .i64 n, .int .i64 2] w fun e w' => e = .returned (.string (pad n 2)) ∧ Below w.heap.size w w' := specPad' n 2 w (by omega) (dec_2 h) (by omega)
theorem implFig4 (n : Nat) (w : World) (h : n < 10000) (hP : Pow w) : Calls Tryd.prog 45 #[.int .i64 n, .int .i64 4] w fun e w' => e = .returned (.string (pad n 4)) ∧ Below w.heap.size w w' := implFig' n 4 w h (dec_4 h) (by omega) hP
theorem implFig2 (n : Nat) (w : World) (h : n < 100) (hP : Pow w) : Calls Tryd.prog 45 #[.int .i64 n, .int .i64 2] w fun e w' => e = .returned (.string (pad n 2)) ∧ Below w.heap.size w w' := implFig' n 2 w (by omega) (dec_2 h) (by omega) hP
/-- What holds all along a date's text. -/
def QDt (w : World) (b : Nat) (x y z : Value) (w' : World) : Prop := C3 w' b x y z ∧ Below w.heap.size w w'
theorem QDt.on {w W w' : World} {b : Nat} {x y z : Value} (h : QDt w b x y z W) (hb : Below W.heap.size W w') : QDt w b x y z w' := ⟨h.1.on hb, bstep h.2 hb⟩
def QPt (w : World) (b : Nat) (x y z : Value) (w' : World) : Prop := C3 w' b x y z ∧ Pow w' ∧ Below w.heap.size w w'
theorem QPt.on {w W w' : World} {b : Nat} {x y z : Value} (h : QPt w b x y z W) (hb : Below W.heap.size W w') : QPt w b x y z w' := ⟨h.1.on hb, h.2.1.on hb, bstep h.2.2 hb⟩
theorem dateT_eq (y m d : Nat) : dateT y m d = pad y 4 ++ ⟨#[45]⟩ ++ pad m 2 ++ ⟨#[45]⟩ ++ pad d 2 := rfl
set_option maxRecDepth 100000 in
set_option maxHeartbeats 8000000 in
theorem specDateText_yes (y m d : Nat) (w : World) (ok : okD y m d = true) (hy : y < 10000) (hm : m < 100) (hd : d < 100) : Calls Tryd.prog 31 #[.agg #[.int .i64 y, .int .i64 m, .int .i64 d]] w fun e w' => e = .returned (.string (dateT y m d)) ∧ Below w.heap.size w w' := by
  have HO : Hid (okD y m d = true) := ok
  have b0 := (Below.refl w.heap.size w).alloc (Nat.le_refl _) (.cells #[.int .i64 y, .int .i64 m, .int .i64 d] 46)
  have K := C3.new w (.int .i64 y) (.int .i64 m) (.int .i64 d) 46
  have p4 := pad_size (dec_4 hy)
  have p2 := pad_size (dec_2 hm)
  have p3 := pad_size (dec_2 hd)
  have HE := dateT_eq y m d
  generalize dateT y m d = T at HE ⊢
  have HT : Hid (T = pad y 4 ++ ⟨#[45]⟩ ++ pad m 2 ++ ⟨#[45]⟩ ++ pad d 2) := HE
  clear ok HE
  go_enter Tryd.func31, Tryd.ntmps31
  go_wp2_with fail
  refine (specDateOk y m d _).mono ?_
  rintro e w1 ⟨rfl, b1⟩
  rw [HO.out]
  have K1 : QDt w w.heap.size (.int .i64 y) (.int .i64 m) (.int .i64 d) w1 := ⟨K.on b1, bstep b0 b1⟩
  clear b0 b1 K
  go_wp2_with fail
  refine wp_region_cl (fun w' => QDt w w.heap.size (.int .i64 y) (.int .i64 m) (.int .i64 d) w') (by kernel_rfl) (by kernel_rfl) (QDt.on K1 (Below.refl _ _).drew) ?_
  clear K1
  repeat (first
    | go_big_quiet_skip
    | (go_big_quiet_want; go_big_quiet_op; go_big_quiet_on)
    | (go_big_quiet_want
       apply Exists.intro
       refine ⟨fun w7 hC7 => ?_, ?_⟩
       · (have hC8 := hC7
          obtain ⟨⟨y0, y1, y2⟩, _⟩ := hC7
          go_simp
          first
            | done
            | rfl
            | exact ⟨rfl, rfl⟩
            | (with_reducible refine (specPad4 _ _ hy).mono ?_
               rintro e w8 ⟨rfl, b8⟩
               exact ⟨rfl, QDt.on hC8 b8⟩)
            | (with_reducible refine (specPad2 _ _ (by first | exact hm | exact hd)).mono ?_
               rintro e w8 ⟨rfl, b8⟩
               exact ⟨rfl, QDt.on hC8 b8⟩))
       (go_simp; go_big_quiet_on)))
  refine wpQuiet_nil ?_
  intro w7 K7
  have B7 := K7.2
  clear K7
  go_wp2
  go_ret
  exact ⟨by rw [HT.out]; rfl, B7⟩
theorem specDateText_no (y m d : Int) (w : World) (ok : okD y m d = false) : Calls Tryd.prog 31 #[.agg #[.int .i64 y, .int .i64 m, .int .i64 d]] w fun e w' => e = .returned (.string ByteArray.empty) ∧ Below w.heap.size w w' := by
  have HO : Hid (okD y m d = false) := ok
  have b0 := (Below.refl w.heap.size w).alloc (Nat.le_refl _) (.cells #[.int .i64 y, .int .i64 m, .int .i64 d] 46)
  clear ok
  go_enter Tryd.func31, Tryd.ntmps31
  go_wp2_with fail
  refine (specDateOk y m d _).mono ?_
  rintro e w1 ⟨rfl, b1⟩
  rw [HO.out]
  have B := bstep b0 b1
  go_wp2
  go_ret
  exact ⟨rfl, B⟩
set_option maxRecDepth 100000 in
set_option maxHeartbeats 8000000 in
theorem implDateText_yes (y m d : Nat) (w : World) (ok : okD y m d = true) (hy : y < 10000) (hm : m < 100) (hd : d < 100) (ht : Tab w) (hP : Pow w) : Calls Tryd.prog 19 #[.agg #[.int .i64 y, .int .i64 m, .int .i64 d]] w fun e w' => e = .returned (.string (dateT y m d)) ∧ Below w.heap.size w w' := by
  have HO : Hid (okD y m d = true) := ok
  have b0 := (Below.refl w.heap.size w).alloc (Nat.le_refl _) (.cells #[.int .i64 y, .int .i64 m, .int .i64 d] 46)
  have K := C3.new w (.int .i64 y) (.int .i64 m) (.int .i64 d) 46
  have p4 := pad_size (dec_4 hy)
  have p2 := pad_size (dec_2 hm)
  have p3 := pad_size (dec_2 hd)
  have HE := dateT_eq y m d
  generalize dateT y m d = T at HE ⊢
  have HT : Hid (T = pad y 4 ++ ⟨#[45]⟩ ++ pad m 2 ++ ⟨#[45]⟩ ++ pad d 2) := HE
  have HTab := ht.on b0
  have HPow := hP.on b0
  clear ok HE ht hP
  go_enter Tryd.func19, Tryd.ntmps19
  go_wp2_with fail
  refine (implDateOk y m d _ HTab).mono ?_
  rintro e w1 ⟨rfl, b1⟩
  rw [HO.out]
  have K1 : QPt w w.heap.size (.int .i64 y) (.int .i64 m) (.int .i64 d) w1 := ⟨K.on b1, HPow.on b1, bstep b0 b1⟩
  clear b0 b1 K HTab HPow
  obtain ⟨⟨c0, c1, c2⟩, hP1, B1⟩ := K1
  have HP1 : Hid (Pow w1) := hP1
  clear hP1
  go_wp2_with fail
  refine (implParts y m d w1).mono ?_
  rintro e w2 ⟨rfl, b2⟩
  have b3 := bstep B1 b2
  have K3 := C3.new w2 (.int .i64 y) (.int .i64 m) (.int .i64 d) 75
  have b4 := (Below.refl w2.heap.size w2).alloc (Nat.le_refl _) (.cells #[.int .i64 y, .int .i64 m, .int .i64 d] 75)
  have K4 : QPt w w2.heap.size (.int .i64 y) (.int .i64 m) (.int .i64 d) (w2.alloc (.cells #[.int .i64 y, .int .i64 m, .int .i64 d] 75)) := ⟨K3, (HP1.out.on b2).on b4, bstep b3 b4⟩
  clear K3 b4 b3 b2 B1 c0 c1 c2 HP1
  go_wp2_with fail
  refine wp_region_cl (fun w' => QPt w w2.heap.size (.int .i64 y) (.int .i64 m) (.int .i64 d) w') (by kernel_rfl) (by kernel_rfl) (QPt.on K4 (Below.refl _ _).drew) ?_
  clear K4
  repeat (first
    | go_big_quiet_skip
    | (go_big_quiet_want; go_big_quiet_op; go_big_quiet_on)
    | (go_big_quiet_want
       apply Exists.intro
       refine ⟨fun w7 hC7 => ?_, ?_⟩
       · (have hC8 := hC7
          obtain ⟨⟨y0, y1, y2⟩, q7, _⟩ := hC7
          go_simp
          first
            | done
            | rfl
            | exact ⟨rfl, rfl⟩
            | (with_reducible refine (implFig4 _ _ hy q7).mono ?_
               rintro e w8 ⟨rfl, b8⟩
               exact ⟨rfl, QPt.on hC8 b8⟩)
            | (with_reducible refine (implFig2 _ _ (by first | exact hm | exact hd) q7).mono ?_
               rintro e w8 ⟨rfl, b8⟩
               exact ⟨rfl, QPt.on hC8 b8⟩))
       (go_simp; go_big_quiet_on)))
  refine wpQuiet_nil ?_
  intro w7 K7
  have B7 := K7.2.2
  clear K7
  go_wp2
  go_ret
  exact ⟨by rw [HT.out]; rfl, B7⟩
theorem implDateText_no (y m d : Int) (w : World) (ok : okD y m d = false) (ht : Tab w) : Calls Tryd.prog 19 #[.agg #[.int .i64 y, .int .i64 m, .int .i64 d]] w fun e w' => e = .returned (.string ByteArray.empty) ∧ Below w.heap.size w w' := by
  have HO : Hid (okD y m d = false) := ok
  have b0 := (Below.refl w.heap.size w).alloc (Nat.le_refl _) (.cells #[.int .i64 y, .int .i64 m, .int .i64 d] 46)
  have HTab := ht.on b0
  clear ok ht
  go_enter Tryd.func19, Tryd.ntmps19
  go_wp2_with fail
  refine (implDateOk y m d _ HTab).mono ?_
  rintro e w1 ⟨rfl, b1⟩
  rw [HO.out]
  have B := bstep b0 b1
  go_wp2
  go_ret
  exact ⟨rfl, B⟩
end Go.Proofs.YtdcohpokfdaknaaDoor
