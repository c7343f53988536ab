/- Whether something is among what is found: both sides. -/
import Derived.Test.YtecijmdkicgemaaFv
import Derived.Laws.StructEq
namespace Go.Proofs.Ytecijmdkicgemaa
open Go.RowKit
set_option linter.unusedVariables false
def eqF (p q : FO) : Bool := (p.1.toList == q.1.toList) && (p.2 == q.2)
theorem eqF_comm (p q : FO) : eqF p q = eqF q p := by
  unfold eqF
  rw [Bool.eq_iff_iff]
  simp only [Bool.and_eq_true, beq_iff_eq]
  constructor <;> rintro ⟨h1, h2⟩ <;> exact ⟨h1.symm, h2.symm⟩
def fo' (l : List FO) (i : Nat) : FO := (fS l i, fA l i)
/-- Whether it is one of the first n. -/
def inF (l : List FO) (x : FO) : Bool := decide (∃ i, i < l.length ∧ eqF (fo' l i) x = true)
theorem inF_yes {l : List FO} {x : FO} {i : Nat} (hi : i < l.length) (h : eqF (fo' l i) x = true) : inF l x = true := decide_eq_true ⟨i, hi, h⟩
theorem inF_no {l : List FO} {x : FO} (h : ∀ i, i < l.length → eqF (fo' l i) x = false) : inF l x = false := decide_eq_false (fun ⟨i, hi, q⟩ => by rw [h i hi] at q; cases q)
theorem eqF_parts {s : ByteArray} {t : Int} {p : FO} {b : Bool} (h : eqF (s, t) p = b) : ((s.toList == p.1.toList) && (t == p.2)) = b := h
theorem fFields : Try.prog.underlying 71 = some (.struct (Try.prog.fieldsOf 71)) := by kernel_rfl
theorem fHeld : Try.prog.stoodInHeld 71 = false := by kernel_rfl
theorem fGuard : Try.prog.eqGuardType Try.prog.depth 71 = false := by kernel_rfl
theorem run_fo_eql (s : ByteArray) (t : Int) (s' : ByteArray) (t' : Int) (w : World) : (binOp .eql 71 (.agg #[.string s, .int .i64 t]) (.agg #[.string s', .int .i64 t'])).run Try.prog w = .ok (.bool (eqF (s, t) (s', t'))) w := by
  rw [run_eql_struct, run_equalIn_agg _ _ _ _ _ fFields fHeld]
  go_simp
  unfold eqF
  by_cases h1 : (s.toList == s'.toList) = true <;> by_cases h2 : t = t' <;> simp_all
theorem run_fo_guard (op : BinOp) (x y : Operand) (xs ys : Array Value) (w : World) : (eqGuard op 71 x y (.agg xs) (.agg ys)).run Try.prog w = .ok () w := run_eqGuard_agg w op _ x y xs ys fGuard
set_option maxRecDepth 100000 in
set_option maxHeartbeats 8000000 in
theorem specInFo (a : Option Addr) (cap : Nat) (l : List FO) (s : ByteArray) (t : Int) (w : World) (h : IsFo w a l) (hl : l.length ≤ 1000) (r : Bool) (hr : inF l (s, t) = r) :
    Calls Try.prog 55 #[.slice a l.length cap, .agg #[.string s, .int .i64 t]] w fun e w' => e = .returned (.bool r) ∧ Below w.heap.size w w' := by
  have HF : Hid (IsFo w a l) := h
  have HR : Hid (inF l (s, t) = r) := hr
  have HC0 : Hid (CL (w.alloc (.cells #[.string s, .int .i64 t] 71)) w.heap.size #[.string s, .int .i64 t]) := CL.new _ _ _
  have HB0 : Hid (Below w.heap.size w (w.alloc (.cells #[.string s, .int .i64 t] 71))) := (Below.refl _ _).alloc (Nat.le_refl _) _
  clear h hr
  go_enter Try.func55, Try.ntmps55
  go_wp2
  generalize w.alloc (.cells #[.string s, .int .i64 t] 71) = W0 at HC0 HB0 ⊢
  go_loopw [5] (fun i wr => ∃ k : Nat, k ≤ l.length ∧ i = .int .i64 k ∧ (∀ j, j < k → eqF (fo' l j) (s, t) = false) ∧ Below W0.heap.size W0 wr) (fun i _ => l.length - (intOf i).toNat)
  case atStart => exact ⟨0, by omega, rfl, fun j h => by omega, Below.refl _ _⟩
  case round =>
    obtain ⟨k, hk, rfl, ha, hb⟩ := hrel
    have HA : Hid (∀ j, j < k → eqF (fo' l j) (s, t) = false) := ha
    have HB : Hid (Below w.heap.size w wr) := bstep HB0.out hb
    have HB2 : Hid (Below W0.heap.size W0 wr) := hb
    clear ha
    by_cases hlt : k < l.length
    · have G1 := HF.out.below HB.out
      rcases G1 with G1 | ⟨b, o, rfl, hbs, hc⟩
      · rw [G1] at hlt; simp at hlt
      obtain ⟨c0, c1⟩ := hc k hlt
      have K := HC0.out.below hb
      have x0 : World.cell? wr ⟨w.heap.size, 0, none⟩ = some (.string s) := (K.2 0 _ rfl).1
      have x1 : World.cell? wr ⟨w.heap.size, 1, none⟩ = some (.int .i64 t) := (K.2 1 _ rfl).1
      have hi1 : (k : Int) < (l.length : Int) := by omega
      have hi0 : (0 : Int) ≤ (k : Int) := by omega
      clear hc hb K
      cases he : eqF (fo' l k) (s, t) with
      | true =>
        have HV : Hid (r = true) := HR.out.symm.trans (inF_yes hlt he)
        have hq : ∀ w : World, (binOp .eql 71 (.agg #[.string (fS l k), .int .i64 (fA l k)]) (.agg #[.string s, .int .i64 t])).run Try.prog w = .ok (.bool true) w := fun w => by rw [run_fo_eql]; exact congrArg (fun b => Result.ok (Value.bool b) w) he
        clear he
        have hgd := run_fo_guard
        go_wp2
        go_quiet (fail)
        go_wp2
        go_ret
        exact ⟨ret_b HV.out.symm, by first | exact HB.out | exact Below.drewN' HB.out _⟩
      | false =>
        have HQ : Hid (∀ j, j < k + 1 → eqF (fo' l j) (s, t) = false) := fun j hj => by
          by_cases e : j = k
          · subst e; exact he
          · exact HA.out j (by omega)
        have hq : ∀ w : World, (binOp .eql 71 (.agg #[.string (fS l k), .int .i64 (fA l k)]) (.agg #[.string s, .int .i64 t])).run Try.prog w = .ok (.bool false) w := fun w => by rw [run_fo_eql]; exact congrArg (fun b => Result.ok (Value.bool b) w) he
        clear he
        have hgd := run_fo_guard
        go_wp2
        go_quiet (fail)
        go_wp2
        go_roundw
        case rel => exact ⟨k + 1, by omega, by go_num, HQ.out, by first | exact HB2.out | exact Below.drewN' HB2.out _⟩
        case measure => simp [intOf]; omega
    · have HV : Hid (r = false) := HR.out.symm.trans (inF_no fun i hi => HA.out i (by omega))
      go_wp2
      go_ret
      exact ⟨ret_b HV.out.symm, HB.out⟩
set_option maxRecDepth 100000 in
set_option maxHeartbeats 8000000 in
theorem implIxF (a : Option Addr) (cap : Nat) (l : List FO) (s : ByteArray) (t : Int) (w : World) (h : IsFo w a l) (hl : l.length ≤ 1000) (r : Bool) (hr : inF l (s, t) = r) :
    Calls Try.prog 90 #[.slice a l.length cap, .agg #[.string s, .int .i64 t]] w fun e w' => (∃ n : Int, e = .returned (.int .i64 n) ∧ (decide (0 ≤ n) = r)) ∧ Below w.heap.size w w' := by
  have HF : Hid (IsFo w a l) := h
  have HR : Hid (inF l (s, t) = r) := hr
  have HC0 : Hid (CL (w.alloc (.cells #[.string s, .int .i64 t] 71)) w.heap.size #[.string s, .int .i64 t]) := CL.new _ _ _
  have HB0 : Hid (Below w.heap.size w (w.alloc (.cells #[.string s, .int .i64 t] 71))) := (Below.refl _ _).alloc (Nat.le_refl _) _
  clear h hr
  go_enter Try.func90, Try.ntmps90
  go_wp2
  generalize w.alloc (.cells #[.string s, .int .i64 t] 71) = W0 at HC0 HB0 ⊢
  go_loopw [5, 8] (fun _ i wr => ∃ k : Nat, k ≤ l.length ∧ i = .int .i64 k ∧ (∀ j, j < k → eqF (fo' l j) (s, t) = false) ∧ Below W0.heap.size W0 wr) (fun _ i _ => l.length - (intOf i).toNat)
  case atStart => exact ⟨0, by omega, rfl, fun j h => by omega, Below.refl _ _⟩
  case round =>
    obtain ⟨k, hk, rfl, ha, hb⟩ := hrel
    have HA : Hid (∀ j, j < k → eqF (fo' l j) (s, t) = false) := ha
    have HB : Hid (Below w.heap.size w wr) := bstep HB0.out hb
    have HB2 : Hid (Below W0.heap.size W0 wr) := hb
    clear ha
    by_cases hlt : k < l.length
    · have G1 := HF.out.below HB.out
      rcases G1 with G1 | ⟨b, o, rfl, hbs, hc⟩
      · rw [G1] at hlt; simp at hlt
      obtain ⟨c0, c1⟩ := hc k hlt
      have K := HC0.out.below hb
      have x0 : World.cell? wr ⟨w.heap.size, 0, none⟩ = some (.string s) := (K.2 0 _ rfl).1
      have x1 : World.cell? wr ⟨w.heap.size, 1, none⟩ = some (.int .i64 t) := (K.2 1 _ rfl).1
      have hi1 : (k : Int) < (l.length : Int) := by omega
      have hi0 : (0 : Int) ≤ (k : Int) := by omega
      clear hc hb K
      cases he : eqF (fo' l k) (s, t) with
      | true =>
        have HV : Hid (r = true) := HR.out.symm.trans (inF_yes hlt he)
        have hq : ∀ w : World, (binOp .eql 71 (.agg #[.string s, .int .i64 t]) (.agg #[.string (fS l k), .int .i64 (fA l k)])).run Try.prog w = .ok (.bool true) w := fun w => by rw [run_fo_eql]; exact congrArg (fun b => Result.ok (Value.bool b) w) ((eqF_comm _ _).trans he)
        clear he
        have hgd := run_fo_guard
        go_wp2
        go_quiet (fail)
        go_wp2
        go_ret
        exact ⟨⟨(k : Int), rfl, by rw [HV.out]; exact decide_eq_true (by omega)⟩, by first | exact HB.out | exact Below.drewN' HB.out _⟩
      | false =>
        have HQ : Hid (∀ j, j < k + 1 → eqF (fo' l j) (s, t) = false) := fun j hj => by
          by_cases e : j = k
          · subst e; exact he
          · exact HA.out j (by omega)
        have hq : ∀ w : World, (binOp .eql 71 (.agg #[.string s, .int .i64 t]) (.agg #[.string (fS l k), .int .i64 (fA l k)])).run Try.prog w = .ok (.bool false) w := fun w => by rw [run_fo_eql]; exact congrArg (fun b => Result.ok (Value.bool b) w) ((eqF_comm _ _).trans he)
        clear he
        have hgd := run_fo_guard
        go_wp2
        go_quiet (fail)
        go_wp2
        go_roundw
        case rel => exact ⟨k + 1, by omega, by go_num, HQ.out, by first | exact HB2.out | exact Below.drewN' HB2.out _⟩
        case measure => simp [intOf]; omega
    · have HV : Hid (r = false) := HR.out.symm.trans (inF_no fun i hi => HA.out i (by omega))
      have hi2 : ¬ (k : Int) < (l.length : Int) := by omega
      go_wp2
      go_ret
      exact ⟨⟨-1, rfl, by rw [HV.out]; decide⟩, HB.out⟩
theorem implIn (a : Option Addr) (cap : Nat) (l : List FO) (s : ByteArray) (t : Int) (w : World) (h : IsFo w a l) (hl : l.length ≤ 1000) (r : Bool) (hr : inF l (s, t) = r) :
    Calls Try.prog 56 #[.slice a l.length cap, .agg #[.string s, .int .i64 t]] w fun e w' => e = .returned (.bool r) ∧ Below w.heap.size w w' := by
  have HF : Hid (IsFo w a l) := h
  have HB0 : Hid (Below w.heap.size w (w.alloc (.cells #[.string s, .int .i64 t] 71))) := (Below.refl _ _).alloc (Nat.le_refl _) _
  have HI := implIxF a cap l s t (w.alloc (.cells #[.string s, .int .i64 t] 71)) (h.below HB0.out) hl r hr
  clear h hr
  go_enter Try.func56, Try.ntmps56
  go_wp2_with fail
  refine HI.mono ?_
  rintro e w1 ⟨⟨n, rfl, hn⟩, b1⟩
  have B1 := bstep HB0.out b1
  have HN : Hid (decide (0 ≤ n) = r) := hn
  clear HI b1 hn
  go_wp2
  go_ret
  exact ⟨ret_b HN.out, B1⟩
end Go.Proofs.Ytecijmdkicgemaa
