/- A text behind strokes: both sides write it alike. -/
import Derived.Test.YtlanjdighccbpaaXa
namespace Go.Proofs.Ytlanjdighccbpaa
open Go.RowKit
set_option linter.unusedVariables false
/-- What stands for a byte. -/
def esc1 (c : UInt8) : List UInt8 := if c = 92 ∨ c = 59 ∨ c = 44 then [92, c] else if c = 10 then [92, 110] else [c]
def escL (l : List UInt8) : List UInt8 := l.flatMap esc1
theorem escL_snoc (l : List UInt8) (c : UInt8) : escL (l ++ [c]) = escL l ++ esc1 c := by simp [escL]
theorem esc1_len (c : UInt8) : 1 ≤ (esc1 c).length ∧ (esc1 c).length ≤ 2 := by
  unfold esc1
  split
  · simp
  · split <;> simp
theorem escL_len (l : List UInt8) : l.length ≤ (escL l).length ∧ (escL l).length ≤ 2 * l.length := by
  induction l with
  | nil => simp [escL]
  | cons c l ih => have := esc1_len c; simp only [escL, List.flatMap_cons, List.length_append, List.length_cons] at *; omega
def bL (s : ByteArray) : List UInt8 := s.data.toList
def oB (l : List UInt8) : ByteArray := ⟨l.toArray⟩
theorem bL_len (s : ByteArray) : (bL s).length = s.size := by show s.data.toList.length = s.data.size; rw [Array.length_toList]
theorem oB_bL (s : ByteArray) : oB (bL s) = s := by simp [oB, bL]
theorem bL_oB (l : List UInt8) : bL (oB l) = l := by simp [oB, bL]
theorem oB_size (l : List UInt8) : (oB l).size = l.length := by show l.toArray.size = l.length; exact List.size_toArray
theorem oB_append (a b : List UInt8) : oB a ++ oB b = oB (a ++ b) := by
  apply ByteArray.ext; simp [oB]
theorem bL_take_succ {s : ByteArray} {k : Nat} (h : k < s.size) : (bL s).take (k + 1) = (bL s).take k ++ [s[k]] := by
  have h2 : k < (bL s).length := by rw [bL_len]; exact h
  rw [List.take_add_one, List.getElem?_eq_getElem h2]
  rfl
theorem extract_one {s : ByteArray} {k : Nat} (h : k < s.size) : s.extract k (k + 1) = oB [s[k]] := by
  have h' : k < s.data.size := h
  apply ByteArray.ext
  rw [ByteArray.data_extract]
  apply Array.ext
  · rw [Array.size_extract]; show min (k + 1) s.data.size - k = 1; omega
  · intro i h1 h2
    have h3 : i < 1 := h2
    obtain rfl : i = 0 := by omega
    rw [Array.getElem_extract]
    rfl
theorem bL_append (a b : ByteArray) : bL (a ++ b) = bL a ++ bL b := by simp [bL]
/-- EscPut of a text. -/
def escB (s : ByteArray) : ByteArray := if s.size ≤ 300 then oB (escL (bL s)) else ⟨#[]⟩
theorem byte_eq (c d : UInt8) : ((c.toNat : Int) == (d.toNat : Int)) = decide (c = d) := by
  rw [Bool.eq_iff_iff]; simp only [beq_iff_eq, decide_eq_true_eq]
  constructor
  · intro h; exact UInt8.toNat.inj (by omega)
  · rintro rfl; rfl
theorem bc_snoc (l : List UInt8) (c : UInt8) : Lib.byteCells l ++ [.int .u8 (c.toNat : Int)] = Lib.byteCells (l ++ [c]) := by simp [Lib.byteCells]
set_option maxRecDepth 100000 in
set_option maxHeartbeats 8000000 in
theorem implEscPut (s : ByteArray) (w : World) :
    Calls Try.prog 6 #[.string s] w fun e w' => e = .returned (.string (escB s)) ∧ Below w.heap.size w w' := by
  by_cases hl : s.size ≤ 300
  · have HV : Hid (escB s = oB (escL (bL s))) := if_pos hl
    have HB : Hid (BI 38 [] w.heap.size w.heap.size (Lib.byteCells (escL ((bL s).take 0))) (w.alloc (.cells #[.pointer none, .slice none 0 0] 38)) ∧ Below w.heap.size w (w.alloc (.cells #[.pointer none, .slice none 0 0] 38))) := ⟨BI.fresh _ [] w _ rfl, (Below.refl _ _).alloc (Nat.le_refl _) _⟩
    go_enter Try.func6, Try.ntmps6
    go_wp2
    go_loopw [4, 10] (fun _ i wr => ∃ k : Nat, k ≤ s.size ∧ i = .int .i64 k ∧ BI 38 [] w.heap.size w.heap.size (Lib.byteCells (escL ((bL s).take k))) wr ∧ Below w.heap.size w wr) (fun _ i _ => s.size - (intOf i).toNat)
    case atStart => exact ⟨0, by omega, rfl, HB.out.1, HB.out.2⟩
    case round =>
      clear HB
      obtain ⟨k, hk, rfl, HI, hb⟩ := hrel
      by_cases hlt : k < s.size
      · have hlen := escL_len ((bL s).take k)
        have hlen2 : ((bL s).take k).length ≤ 300 := by rw [List.length_take, bL_len]; omega
        have hcl : (Lib.byteCells (escL ((bL s).take k))).length ≤ 600 := by rw [Lib.byteCells_length]; omega
        have HT : Hid ((bL s).take (k + 1) = (bL s).take k ++ [s[k]]) := bL_take_succ hlt
        have hws := hb.size
        obtain ⟨c, hc⟩ : ∃ c, s[k] = c := ⟨_, rfl⟩
        have HC : Hid (escL ((bL s).take (k + 1)) = escL ((bL s).take k) ++ esc1 c) := by unfold Hid; rw [HT.out, escL_snoc, hc]
        have e92 : ((c.toNat : Int) == 92) = decide (c = 92) := byte_eq c 92
        have e59 : ((c.toNat : Int) == 59) = decide (c = 59) := byte_eq c 59
        have e44 : ((c.toNat : Int) == 44) = decide (c = 44) := byte_eq c 44
        have e10 : ((c.toNat : Int) == 10) = decide (c = 10) := byte_eq c 10
        have HI' : Hid (BI 38 [] w.heap.size w.heap.size (Lib.byteCells (escL ((bL s).take k))) wr) := HI
        clear HI hlen hlen2
        have fin : ∀ (W : World), BW 38 [] w.heap.size w.heap.size (.pointer (some ⟨w.heap.size, 0, none⟩)) (Lib.byteCells (escL ((bL s).take k)) ++ Lib.byteCells (esc1 c)) W → BI 38 [] w.heap.size w.heap.size (Lib.byteCells (escL ((bL s).take (k + 1)))) W := fun W h => by
          rw [HC.out, Lib.byteCells_append]; exact .inr h
        have FIN : Hid (∀ (W : World), BW 38 [] w.heap.size w.heap.size (.pointer (some ⟨w.heap.size, 0, none⟩)) (Lib.byteCells (escL ((bL s).take k)) ++ Lib.byteCells (esc1 c)) W → BI 38 [] w.heap.size w.heap.size (Lib.byteCells (escL ((bL s).take (k + 1)))) W) := fin
        clear fin
        by_cases h3 : c = 92 ∨ c = 59 ∨ c = 44
        · have E1 : Hid (esc1 c = [92, c]) := if_pos h3
          have step : Hid (∀ W, BI 38 [] w.heap.size w.heap.size (Lib.byteCells (escL ((bL s).take k))) W → w.heap.size ≤ W.heap.size → Calls Try.prog 18 #[.pointer (some ⟨w.heap.size, 0, none⟩), .int .u8 92] W fun e W' => e = .returned .nilIface ∧ (BW 38 [] w.heap.size w.heap.size (.pointer (some ⟨w.heap.size, 0, none⟩)) (Lib.byteCells (escL ((bL s).take k)) ++ [.int .u8 92]) W' ∧ Below w.heap.size W W')) := fun W h hw => writeByteB hasBuilder _ _ _ _ W h (by omega) hw
          have step2 : Hid (∀ W, BI 38 [] w.heap.size w.heap.size (Lib.byteCells (escL ((bL s).take k)) ++ [.int .u8 92]) W → w.heap.size ≤ W.heap.size → Calls Try.prog 18 #[.pointer (some ⟨w.heap.size, 0, none⟩), .int .u8 c.toNat] W fun e W' => e = .returned .nilIface ∧ (BW 38 [] w.heap.size w.heap.size (.pointer (some ⟨w.heap.size, 0, none⟩)) (Lib.byteCells (escL ((bL s).take k)) ++ [.int .u8 92] ++ [.int .u8 c.toNat]) W' ∧ Below w.heap.size W W')) := fun W h hw => writeByteB hasBuilder _ _ _ _ W h (by simp; omega) hw
          rcases h3 with h3 | h3 | h3 <;> subst h3 <;> simp at e92 e59 e44 e10 <;>
          · go_wp2_with fail
            refine (step.out wr HI'.out hws).mono ?_
            rintro e w1 ⟨rfl, K1, b1⟩
            have hb1 := hb.trans b1
            go_wp2_with fail
            first | rw [hc] | skip
            refine (step2.out w1 (.inr K1) hb1.size).mono ?_
            rintro e w2 ⟨rfl, K2, b2⟩
            have hb2 := hb1.trans b2
            have K3 : BI 38 [] w.heap.size w.heap.size (Lib.byteCells (escL ((bL s).take (k + 1)))) w2 := FIN.out w2 (by rw [E1.out]; simpa [Lib.byteCells] using K2)
            clear K1 K2 step step2 FIN HI' HC
            go_wp2
            go_roundw
            case rel => exact ⟨k + 1, by omega, by go_num, K3, hb2⟩
            case measure => simp [intOf]; omega
        · have n92 : ¬ c = 92 := fun h => h3 (.inl h)
          have n59 : ¬ c = 59 := fun h => h3 (.inr (.inl h))
          have n44 : ¬ c = 44 := fun h => h3 (.inr (.inr h))
          have d92 : ((c.toNat : Int) == 92) = false := by rw [e92]; simp [n92]
          have d59 : ((c.toNat : Int) == 59) = false := by rw [e59]; simp [n59]
          have d44 : ((c.toNat : Int) == 44) = false := by rw [e44]; simp [n44]
          clear e92 e59 e44
          by_cases h10 : c = 10
          · have E1 : Hid (esc1 c = [92, 110]) := by unfold Hid esc1; rw [if_neg h3, if_pos h10]
            have d10 : ((c.toNat : Int) == 10) = true := by rw [e10]; simp [h10]
            have step : Hid (∀ W, BI 38 [] w.heap.size w.heap.size (Lib.byteCells (escL ((bL s).take k))) W → w.heap.size ≤ W.heap.size → Calls Try.prog 19 #[.pointer (some ⟨w.heap.size, 0, none⟩), .string ⟨#[92, 110]⟩] W fun e W' => e = .returned (.tuple #[.int .i64 2, .nilIface]) ∧ (BW 38 [] w.heap.size w.heap.size (.pointer (some ⟨w.heap.size, 0, none⟩)) (Lib.byteCells (escL ((bL s).take k)) ++ Lib.strCells ⟨#[92, 110]⟩) W' ∧ Below w.heap.size W W')) := fun W h hw => writeStringB hasBuilder _ _ _ _ W h (by simp [ByteArray.size]; omega) hw
            clear e10 h3 h10 n92 n59 n44
            subst hc
            go_wp2_with fail
            refine (step.out wr HI'.out hws).mono ?_
            rintro e w1 ⟨rfl, K1, b1⟩
            have hb1 := hb.trans b1
            have K3 : BI 38 [] w.heap.size w.heap.size (Lib.byteCells (escL ((bL s).take (k + 1)))) w1 := FIN.out w1 (by rw [E1.out]; exact K1)
            clear K1 step FIN HI' HC
            go_wp2
            go_roundw
            case rel => exact ⟨k + 1, by omega, by go_num, K3, hb1⟩
            case measure => simp [intOf]; omega
          · have E1 : Hid (esc1 c = [c]) := by unfold Hid esc1; rw [if_neg h3, if_neg h10]
            have d10 : ((c.toNat : Int) == 10) = false := by rw [e10]; simp [h10]
            have step : Hid (∀ W, BI 38 [] w.heap.size w.heap.size (Lib.byteCells (escL ((bL s).take k))) W → w.heap.size ≤ W.heap.size → Calls Try.prog 18 #[.pointer (some ⟨w.heap.size, 0, none⟩), .int .u8 c.toNat] W fun e W' => e = .returned .nilIface ∧ (BW 38 [] w.heap.size w.heap.size (.pointer (some ⟨w.heap.size, 0, none⟩)) (Lib.byteCells (escL ((bL s).take k)) ++ [.int .u8 c.toNat]) W' ∧ Below w.heap.size W W')) := fun W h hw => writeByteB hasBuilder _ _ _ _ W h (by omega) hw
            clear e10 h3 h10 n92 n59 n44
            subst hc
            go_wp2_with fail
            refine (step.out wr HI'.out hws).mono ?_
            rintro e w1 ⟨rfl, K1, b1⟩
            have hb1 := hb.trans b1
            have K3 : BI 38 [] w.heap.size w.heap.size (Lib.byteCells (escL ((bL s).take (k + 1)))) w1 := FIN.out w1 (by rw [E1.out]; exact K1)
            clear K1 step FIN HI' HC
            go_wp2
            go_roundw
            case rel => exact ⟨k + 1, by omega, by go_num, K3, hb1⟩
            case measure => simp [intOf]; omega
      · have hkk : k = s.size := by omega
        subst hkk
        have HI2 : Hid (BI 38 [] w.heap.size w.heap.size (Lib.byteCells (escL (bL s))) wr) := by unfold Hid; rw [List.take_of_length_le (by rw [bL_len]; omega)] at HI; exact HI
        have hws := hb.size
        clear HI
        go_wp2_with fail
        refine (stringB _ _ _ wr HI2.out hws).mono ?_
        rintro e w1 ⟨rfl, b1⟩
        have hb1 := hb.trans b1
        clear HI2 b1
        go_wp2
        go_ret
        exact ⟨by rw [HV.out]; rfl, hb1⟩
  · have HV : Hid (escB s = ⟨#[]⟩) := if_neg hl
    go_enter Try.func6, Try.ntmps6
    go_wp2
    go_ret
    exact ⟨by rw [HV.out]; rfl, Below.refl _ _⟩
set_option maxRecDepth 100000 in
set_option maxHeartbeats 8000000 in
theorem specEscPut (s : ByteArray) (w : World) (hs : s.size ≤ 1048576) :
    Calls Try.prog 7 #[.string s] w fun e w' => e = .returned (.string (escB s)) ∧ w' = w := by
  by_cases hl : s.size ≤ 300
  · have HV : Hid (escB s = oB (escL (bL s))) := if_pos hl
    go_enter Try.func7, Try.ntmps7
    go_wp2
    go_loop [3, 4] (fun o i => ∃ k : Nat, k ≤ s.size ∧ i = .int .i64 k ∧ o = .string (oB (escL ((bL s).take k)))) (fun _ i => s.size - (intOf i).toNat)
    case atStart => exact ⟨0, by omega, rfl, rfl⟩
    case round =>
      obtain ⟨k, hk, rfl, rfl⟩ := hrel
      by_cases hlt : k < s.size
      · have hlen := escL_len ((bL s).take k)
        have hlen2 : ((bL s).take k).length ≤ 300 := by rw [List.length_take, bL_len]; omega
        have HT : Hid ((bL s).take (k + 1) = (bL s).take k ++ [s[k]]) := bL_take_succ hlt
        obtain ⟨o, ho⟩ : ∃ o, o = oB (escL ((bL s).take k)) := ⟨_, rfl⟩
        have hos : o.size ≤ 600 := by rw [ho, oB_size]; omega
        have hx : s.extract k (k + 1) = oB [s[k]] := extract_one hlt
        have hxs : (oB [s[k]]).size = 1 := oB_size _
        obtain ⟨c, hc⟩ : ∃ c, s[k] = c := ⟨_, rfl⟩
        have HC : Hid (oB (escL ((bL s).take (k + 1))) = o ++ oB (esc1 c)) := by unfold Hid; rw [HT.out, escL_snoc, hc, ho, oB_append]
        rw [← ho]
        rw [hc] at hx hxs
        have e92 : ((c.toNat : Int) == 92) = decide (c = 92) := byte_eq c 92
        have e59 : ((c.toNat : Int) == 59) = decide (c = 59) := byte_eq c 59
        have e44 : ((c.toNat : Int) == 44) = decide (c = 44) := byte_eq c 44
        have e10 : ((c.toNat : Int) == 10) = decide (c = 10) := byte_eq c 10
        clear ho hlen hlen2
        have hk1 : (k : Int) < (s.size : Int) := by omega
        have hl1 : (s.size : Int) ≤ 300 := by omega
        have g0 : (0 : Int) ≤ (k : Int) := by omega
        have g1 : (k : Int) ≤ (k : Int) + 1 := by omega
        have g2 : (k : Int) + 1 ≤ (s.size : Int) := by omega
        have g3 : ((k : Int) + 1).toNat = k + 1 := by omega
        by_cases h3 : c = 92 ∨ c = 59 ∨ c = 44
        · have E1 : Hid (oB (esc1 c) = oB [92] ++ oB [c]) := by unfold Hid; rw [oB_append]; unfold esc1; rw [if_pos h3]; rfl
          rcases h3 with h3 | h3 | h3 <;> subst h3 <;> simp at e92 e59 e44 e10 <;>
          · go_wp2
            go_round
            case rel => exact ⟨k + 1, by omega, by go_num, by rw [HC.out, E1.out, ← ByteArray.append_assoc]; first | rw [hx]; rfl | rfl⟩
            case measure => simp [intOf]; omega
        · have n92 : ¬ c = 92 := fun h => h3 (.inl h)
          have n59 : ¬ c = 59 := fun h => h3 (.inr (.inl h))
          have n44 : ¬ c = 44 := fun h => h3 (.inr (.inr h))
          have d92 : ((c.toNat : Int) == 92) = false := by rw [e92]; simp [n92]
          have d59 : ((c.toNat : Int) == 59) = false := by rw [e59]; simp [n59]
          have d44 : ((c.toNat : Int) == 44) = false := by rw [e44]; simp [n44]
          clear e92 e59 e44
          by_cases h10 : c = 10
          · have E1 : Hid (oB (esc1 c) = oB [92, 110]) := by unfold Hid esc1; rw [if_neg h3, if_pos h10]
            have d10 : ((c.toNat : Int) == 10) = true := by rw [e10]; simp [h10]
            clear e10 h3 h10 n92 n59 n44
            subst hc
            go_wp2
            go_round
            case rel => exact ⟨k + 1, by omega, by go_num, by rw [HC.out, E1.out]; rfl⟩
            case measure => simp [intOf]; omega
          · have E1 : Hid (oB (esc1 c) = oB [c]) := by unfold Hid esc1; rw [if_neg h3, if_neg h10]
            have d10 : ((c.toNat : Int) == 10) = false := by rw [e10]; simp [h10]
            clear e10 h3 h10 n92 n59 n44
            subst hc
            go_wp2
            go_round
            case rel => exact ⟨k + 1, by omega, by go_num, by rw [HC.out, E1.out]⟩
            case measure => simp [intOf]; omega
      · have hkk : k = s.size := by omega
        subst hkk
        have HE : Hid ((bL s).take s.size = bL s) := List.take_of_length_le (by rw [bL_len]; omega)
        go_wp2
        go_ret
        refine ⟨?_, rfl⟩
        rw [HV.out, HE.out]
        try rfl
  · have HV : Hid (escB s = ⟨#[]⟩) := if_neg hl
    by_cases h0 : 0 < s.size
    · go_enter Try.func7, Try.ntmps7
      go_wp2
      refine wp_loop_rounds 1 ?_; rw [rounds_succ]
      go_wp2
      go_ret
      exact ⟨by rw [HV.out]; rfl, rfl⟩
    · omega
end Go.Proofs.Ytlanjdighccbpaa
