/- Numbers as texts: figures, with zeros ahead; the specification's own. -/
import Derived.Test.YtdcohpokfdaknaaDoorTx
import Derived.Lib.ItoaNum
import Derived.Lib.Repeat
import Derived.Deep.RegionHeld3
namespace Go.Proofs.YtdcohpokfdaknaaDoor
open Go.RowKit
set_option linter.unusedVariables false
/-- A number in figures. -/
def dec (n : Nat) : ByteArray := ⟨(Lib.decDigits n).toArray⟩
theorem dd_lt {n : Nat} (h : n < 10) : Lib.decDigits n = [UInt8.ofNat (48 + n)] := by rw [Lib.decDigits, dif_pos h]
theorem dd_ge {n : Nat} (h : ¬ n < 10) : Lib.decDigits n = Lib.decDigits (n / 10) ++ [UInt8.ofNat (48 + n % 10)] := by rw [Lib.decDigits, dif_neg h]
def fig (n : Nat) : ByteArray := ⟨#[UInt8.ofNat (48 + n)]⟩
theorem fig_size (n : Nat) : (fig n).size = 1 := rfl
theorem app_data (a b : ByteArray) : a ++ b = ⟨a.data ++ b.data⟩ := by
  apply ByteArray.ext; exact ByteArray.data_append
theorem dec_lt {n : Nat} (h : n < 10) : dec n = fig n := by unfold dec fig; rw [dd_lt h]
theorem dec_ge {n : Nat} (h : ¬ n < 10) : dec n = dec (n / 10) ++ fig (n % 10) := by
  unfold dec fig; rw [dd_ge h, app_data]; simp
theorem dec_one (n : Nat) : 1 ≤ (dec n).size := by
  by_cases h : n < 10
  · rw [dec_lt h, fig_size]; omega
  · rw [dec_ge h, ByteArray.size_append, fig_size]; omega
theorem dec_p {n k : Nat} (hk : (dec (n / 10)).size ≤ k) : (dec n).size ≤ k + 1 := by
  by_cases h : n < 10
  · rw [dec_lt h, fig_size]; omega
  · rw [dec_ge h, ByteArray.size_append, fig_size]; omega
theorem dec_1 {n : Nat} (h : n < 10) : (dec n).size ≤ 1 := by rw [dec_lt h]; exact Nat.le_refl 1
theorem dec_2 {n : Nat} (h : n < 100) : (dec n).size ≤ 2 := dec_p (dec_1 (by omega))
theorem dec_3 {n : Nat} (h : n < 1000) : (dec n).size ≤ 3 := dec_p (dec_2 (by omega))
theorem dec_4 {n : Nat} (h : n < 10000) : (dec n).size ≤ 4 := dec_p (dec_3 (by omega))
/-- So many zeros. -/
def zeros (k : Nat) : ByteArray := ⟨(List.replicate k 48).toArray⟩
/-- A number in so many figures. -/
def pad (n k : Nat) : ByteArray := zeros (k - (dec n).size) ++ dec n
theorem zeros_size (k : Nat) : (zeros k).size = k := by unfold zeros ByteArray.size; simp
theorem repeat_zeros (s : ByteArray) (h : s.data.toList = [48]) (k : Nat) : (⟨(Lib.repeatL s.data.toList k).toArray⟩ : ByteArray) = zeros k := by
  unfold zeros
  rw [h]
  congr 2
  induction k with
  | zero => rfl
  | succ k ih => rw [Lib.repeatL, ih]; rfl
theorem zeros_add (a b : Nat) : zeros a ++ zeros b = zeros (a + b) := by
  unfold zeros; rw [app_data]; simp
theorem itoa_nat (n : Nat) : (⟨(Lib.itoa (n : Int)).toArray⟩ : ByteArray) = dec n := by
  unfold dec Lib.itoa; rw [if_neg (by omega)]; simp
theorem run_fig (W : World) (B k : Nat) (hk : k < 10) (hc : W.cell? ⟨B, 0, none⟩ = some (.int .u8 (48 + (k : Int)))) : (convert 64 9 (.slice (some ⟨B, 0, none⟩) 1 1)).run Tryd.prog W = .ok (.string (fig k)) W := by
  refine run_convert_bytes_back (l := [UInt8.ofNat (48 + k)]) W _ _ 5 ⟨B, 0, none⟩ 1 Tryd.underlying64 Tryd.underlying5 Tryd.underlying9 ?_
  intro j hj
  obtain rfl : j = 0 := by simp at hj; omega
  have hu : (UInt8.ofNat (48 + k)).toNat = 48 + k := by simp; omega
  have ha : (⟨B, 0, none⟩ : Addr).add 0 = ⟨B, 0, none⟩ := rfl
  rw [ha, hc]
  simp only [List.getElem_cons_zero, hu]
  congr 2
theorem cell_new1 (w : World) (v : Value) (t : Nat) : (w.alloc (.cells #[v] t)).cell? ⟨w.heap.size, 0, none⟩ = some v := by
  simp [go_sem]
set_option maxRecDepth 100000 in
set_option maxHeartbeats 4000000 in
theorem specDec1 (n : Nat) (w : World) (h : n < 10) : Calls Tryd.prog 30 #[.int .i64 n] w fun e w' => e = .returned (.string (dec n)) ∧ Below w.heap.size w w' := by
  rw [dec_lt h]
  have hn : (n : Int) < 10 := by omega
  have rf := run_fig (w.alloc (.cells #[.int .u8 (48 + (n : Int))] 5)) w.heap.size n h (cell_new1 _ _ _)
  have hb := (Below.refl w.heap.size w).alloc (Nat.le_refl _) (.cells #[.int .u8 (48 + (n : Int))] 5)
  go_enter Tryd.func30, Tryd.ntmps30
  go_wp2
  go_ret
  exact ⟨rfl, hb⟩
set_option maxRecDepth 100000 in
set_option maxHeartbeats 8000000 in
theorem specDecS (n : Nat) (w : World) (h : ¬ n < 10) (h4 : n < 10000) (ih : ∀ w0 : World, Calls Tryd.prog 30 #[.int .i64 ((n : Int) / 10)] w0 fun e w' => e = .returned (.string (dec (n / 10))) ∧ Below w0.heap.size w0 w') : Calls Tryd.prog 30 #[.int .i64 n] w fun e w' => e = .returned (.string (dec n)) ∧ Below w.heap.size w w' := by
  rw [dec_ge h]
  have hn : ¬ (n : Int) < 10 := by omega
  have hn0 : ¬ (n : Int) < 0 := by omega
  have h4i : (n : Int) < 10000 := by omega
  have hm : (n : Int).tmod 10 = (n : Int) % 10 := Int.tmod_eq_emod_of_nonneg (by omega)
  have HW : Hid (IntKind.i64.wrap ((n : Int) / 10) = (n : Int) / 10) := IntWalk.i64_in _ (by omega)
  have RC : ∀ (W : World) (B : Nat), W.cell? ⟨B, 0, none⟩ = some (.int .u8 (IntKind.u8.wrap (IntKind.i64.wrap (48 + (n : Int).tmod 10)))) → (convert 64 9 (.slice (some ⟨B, 0, none⟩) 1 1)).run Tryd.prog W = .ok (.string (fig (n % 10))) W := fun W B hc => run_fig W B (n % 10) (by omega) (by
    rw [hc, hm, IntWalk.i64_in _ (by omega), IntWalk.u8_in _ (by omega)]; congr 2)
  have IH : Hid (∀ w0 : World, Calls Tryd.prog 30 #[.int .i64 ((n : Int) / 10)] w0 fun e w' => e = .returned (.string (dec (n / 10))) ∧ Below w0.heap.size w0 w') := ih
  have z1 : (dec (n / 10)).size ≤ 3 := dec_3 (by omega)
  have z2 := fig_size (n % 10)
  have zz : ¬ 9223372036854775807 < (dec (n / 10)).size + 1 := by omega
  have EQ : Hid (IntKind.u8.wrap (IntKind.i64.wrap (48 + (n : Int).tmod 10)) = 48 + (n : Int) % 10) := by unfold Hid; rw [hm, IntWalk.i64_in _ (by omega), IntWalk.u8_in _ (by omega)]
  have r0 := RC (w.drew.alloc (.cells #[.int .u8 (IntKind.u8.wrap (IntKind.i64.wrap (48 + (n : Int).tmod 10)))] 5)) w.heap.size (by simp [go_sem])
  have s0 := r0
  rw [EQ.out] at s0
  clear ih h hm
  go_enter Tryd.func30, Tryd.ntmps30
  go_wp2
  go_region_held (fun w' => Below w.heap.size w w')
    (first | assumption | exact (Below.refl _ _).drew | exact Below.alloc (by assumption) (Below.size (by assumption)) _ | fail)
    (first | (go_at_call 30; rw [HW.out]; refine (IH.out _).mono ?_; rintro e w' ⟨rfl, b⟩; have bb := bstep (by assumption) b; have r1 := RC (w'.alloc (.cells #[.int .u8 (IntKind.u8.wrap (IntKind.i64.wrap (48 + (n : Int).tmod 10)))] 5)) w'.heap.size (cell_new1 _ _ _); have s1 := r1; rw [EQ.out] at s1; try (have cc := (bcell b).1 w.heap.size 0 (by simp); simp [go_sem] at cc; have r2 := RC w' w.heap.size cc; clear cc); clear b))
  all_goals (go_wp2; go_ret; exact ⟨rfl, by assumption⟩)
theorem specDec (n : Nat) (h : n < 10000) (w : World) : Calls Tryd.prog 30 #[.int .i64 n] w fun e w' => e = .returned (.string (dec n)) ∧ Below w.heap.size w w' := by
  induction n using Nat.strongRecOn generalizing w with
  | _ n ih =>
    by_cases h1 : n < 10
    · exact specDec1 n w h1
    · exact specDecS n w h1 h (fun w0 => by have q := ih (n / 10) (by omega) (by omega) w0; simpa using q)
set_option maxHeartbeats 4000000 in
theorem specMany (n : Nat) (w : World) (h : n ≤ 1000) : Calls Tryd.prog 66 #[.string (zeros 1), .int .i64 n] w fun e w' => e = .returned (.string (zeros n)) ∧ w' = w := by
  go_enter Tryd.func66, Tryd.ntmps66
  go_wp2
  go_loop [0, 1, 5] (fun s i o => ∃ (m a b : Nat), m ≤ 1000 ∧ s = .string (zeros a) ∧ i = .int .i64 m ∧ o = .string (zeros b) ∧ b + a * m = n) (fun _ i _ => (intOf i).toNat)
  case atStart => exact ⟨n, 1, 0, h, rfl, rfl, rfl, by omega⟩
  case round =>
    obtain ⟨m, a, b, hm, rfl, rfl, rfl, he⟩ := hrel
    have HE : Hid (b + a * m = n) := he
    clear he
    by_cases h0 : 0 < m
    · have h0i : (0 : Int) < (m : Int) := by omega
      have ha : a ≤ 1000 := by have := Nat.le_mul_of_pos_right a h0; have := HE.out; omega
      have hb : b ≤ 1000 := by have := HE.out; omega
      have za := zeros_size a
      have zb := zeros_size b
      by_cases h1 : m % 2 = 1
      · have h1i : (m : Int) % 2 = 1 := by omega
        have FE : Hid (b + a + (a + a) * (m / 2) = n) := by
          unfold Hid
          have q : m = 2 * (m / 2) + 1 := by omega
          have e := HE.out
          rw [q, Nat.mul_add, Nat.mul_one, Nat.mul_comm 2, ← Nat.mul_assoc] at e
          rw [Nat.add_mul]; omega
        go_wp2
        refine ⟨⟨m / 2, a + a, b + a, by omega, by rw [zeros_add], by go_num, by rw [zeros_add], FE.out⟩, ?_⟩
        simp [intOf]; omega
      · have h1i : ¬ (m : Int) % 2 = 1 := by omega
        have FE : Hid (b + (a + a) * (m / 2) = n) := by
          unfold Hid
          have q : m = 2 * (m / 2) := by omega
          have e := HE.out
          rw [q, Nat.mul_comm 2, ← Nat.mul_assoc] at e
          rw [Nat.add_mul]; omega
        go_wp2
        refine ⟨⟨m / 2, a + a, b, by omega, by rw [zeros_add], by go_num, rfl, FE.out⟩, ?_⟩
        simp [intOf]; omega
    · have hm0 : m = 0 := by omega
      subst hm0
      have HB : Hid (b = n) := by have := HE.out; unfold Hid; omega
      go_wp2
      go_ret
      exact ⟨by rw [HB.out]; rfl, rfl⟩
end Go.Proofs.YtdcohpokfdaknaaDoor
