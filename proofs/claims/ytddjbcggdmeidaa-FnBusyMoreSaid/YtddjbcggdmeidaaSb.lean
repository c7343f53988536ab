/- Spans: the specification's ok, and the size of both. -/
import Derived.Test.YtddjbcggdmeidaaSa
namespace Go.Proofs.Ytddjbcggdmeidaa
open Go.RowKit
set_option linter.unusedVariables false
/-- A span in a row, and another cell of it. -/
abbrev QT (w : World) (b o o' : Nat) (x y z : Value) (W : World) : Prop := W.cell? ⟨b, o, none⟩ = some x ∧ W.cell? ⟨b, o + 1, none⟩ = some y ∧ W.cell? ⟨b, o', none⟩ = some z ∧ Below w.heap.size w W
theorem QT.on {w W W' : World} {b o o' : Nat} {x y z : Value} (h : QT w b o o' x y z W) (hb : Below W.heap.size W W') : QT w b o o' x y z W' := by
  obtain ⟨c0, c1, c2, B⟩ := h
  exact ⟨by rw [hb.cell (cell_lt c0)]; exact c0, by rw [hb.cell (cell_lt c1)]; exact c1, by rw [hb.cell (cell_lt c2)]; exact c2, bstep B hb⟩
/-- How many minutes the first so many spans have. -/
def szU (ss : List (Int × Int)) : Nat → Int
  | 0 => 0
  | k + 1 => szU ss k + (tSh ss k - tAt ss k)
theorem szU_bd (ss : List (Int × Int)) (h : ∀ i, i < ss.length → spB (tAt ss i) (tSh ss i) = true) : ∀ k : Nat, k ≤ ss.length → 0 ≤ szU ss k ∧ szU ss k ≤ k * 5258985119 := by
  intro k
  induction k with
  | zero => intro _; exact ⟨Int.le_refl _, by simp [szU]⟩
  | succ k ih =>
    intro hk
    have h1 := ih (by omega)
    have h2 := (sp_iff _ _).1 (h k (by omega))
    unfold szU; constructor <;> omega
def szE (ss : List (Int × Int)) (r : Bool) : Int := if r = true then szU ss ss.length else 0
set_option maxRecDepth 100000 in
set_option maxHeartbeats 4000000 in
theorem implSpanSize (a : Option Addr) (cap : Nat) (ss : List (Int × Int)) (w : World) (h : IsTurns w a ss) (hl : ss.length ≤ 2000000) (r : Bool) (hr : r = true ↔ SpOk ss) :
    Calls Try.prog 12 #[.slice a ss.length cap] w fun e w' => e = .returned (.int .i64 (szE ss r)) ∧ Below w.heap.size w w' := by
  have HT0 : Hid (IsTurns w a ss) := h
  have HRR : Hid (r = true ↔ SpOk ss) := hr
  clear h hr
  go_enter Try.func12, Try.ntmps12
  go_wp2_with fail
  with_reducible refine (implSpansOk _ _ _ _ HT0.out hl r HRR.out).mono ?_
  rintro e w1 ⟨rfl, b1⟩
  cases r with
  | false =>
    go_wp2
    go_ret
    exact ⟨rfl, b1⟩
  | true =>
    have HOK : Hid (SpOk ss) := HRR.out.1 rfl
    have HZ : Hid (szE ss true = szU ss ss.length) := if_pos rfl
    clear HRR
    go_wp2
    go_loopw [3, 5, 11] (fun n _ i wr => ∃ k : Nat, k ≤ ss.length ∧ i = .int .i64 k ∧ n = .int .i64 (szU ss k) ∧ Below w.heap.size w wr) (fun _ _ i _ => ss.length - (intOf i).toNat)
    case atStart => exact ⟨0, by omega, rfl, rfl, b1⟩
    case round =>
      obtain ⟨k, hk, rfl, rfl, hb⟩ := hrel
      by_cases hlt : k < ss.length
      · have T := HT0.out.below (B := 0) hb
        rcases T with T | ⟨b, off, rfl, hbs, hc⟩
        · rw [T] at hlt; simp at hlt
        obtain ⟨c0, c1⟩ := hc k hlt
        have hi0 : (0 : Int) ≤ (k : Int) := by omega
        have hi1 : (k : Int) < (ss.length : Int) := by omega
        have u := szU_bd ss (fun i hi => (HOK.out.2 i hi).1) k (by omega)
        have l3 := HOK.out.1
        have tb := (sp_iff _ _).1 (HOK.out.2 k hlt).1
        have HU : Hid (szU ss (k + 1) = szU ss k + (tSh ss k - tAt ss k)) := rfl
        have hbA : Below w.heap.size w (wr.alloc (.cells #[.int .i64 (tAt ss k), .int .i64 (tSh ss k)] 28)) := hb.alloc hb.size _
        have g1 := IntWalk.i64_in (tSh ss k - tAt ss k) (by omega)
        have g2 := IntWalk.i64_in (szU ss k + (tSh ss k - tAt ss k)) (by omega)
        clear hc
        go_wp2
        go_roundw
        case rel => exact ⟨k + 1, by omega, by go_num, by rw [HU.out], hbA⟩
        case measure => simp [intOf]; omega
      · have hkk : k = ss.length := by omega
        subst hkk
        go_wp2
        go_ret
        exact ⟨ret_i HZ.out.symm, hb⟩
end Go.Proofs.Ytddjbcggdmeidaa
