/- What turned: marked, and held against its marks. -/
import Derived.Test.YtecijmdkicgemaaFv
import Derived.Deep.RegionHeld3
import Derived.Lib.Repeat
import Derived.Lib.ItoaNum
namespace Go.Proofs.Ytecijmdkicgemaa
open Go.RowKit
set_option linter.unusedVariables false
/-- The text of a mark. -/
def digT (k : Nat) : ByteArray := ⟨#[UInt8.ofNat (48 + k)]⟩
def mtW (k : Nat) (o : ByteArray) : ByteArray := if h : k = 0 then o else mtW (k / 10) (digT (k % 10) ++ o)
termination_by k
decreasing_by omega
theorem mtW_zero (o : ByteArray) : mtW 0 o = o := by rw [mtW]; simp
theorem mtW_pos {k : Nat} (h : 0 < k) (o : ByteArray) : mtW k o = mtW (k / 10) (digT (k % 10) ++ o) := by rw [mtW, dif_neg (by omega)]
def mtT (k : Nat) : ByteArray := ⟨#[109]⟩ ++ mtW k ByteArray.empty
theorem run_dig (W : World) (B k : Nat) (hk : k < 10) (hc : W.cell? ⟨B, 0, none⟩ = some (.int .u8 (48 + (k : Int)))) : (convert 23 9 (.slice (some ⟨B, 0, none⟩) 1 1)).run Try.prog W = .ok (.string (digT k)) W := by
  refine run_convert_bytes_back (l := [UInt8.ofNat (48 + k)]) W _ _ 5 ⟨B, 0, none⟩ 1 Try.underlying23 Try.underlying5 Try.underlying9 ?_
  intro j hj
  obtain rfl : j = 0 := by simp at hj; omega
  have hu : (UInt8.ofNat (48 + k)).toNat = 48 + k := by simp; omega
  have ha : (⟨B, 0, none⟩ : Addr).add 0 = ⟨B, 0, none⟩ := rfl
  rw [ha, hc]
  simp only [List.getElem_cons_zero, hu]
  congr 2
set_option maxRecDepth 100000 in
set_option maxHeartbeats 8000000 in
theorem lawMarkText (k : Nat) (w : World) (k0 : 0 < k) (k1 : k ≤ 1000000000) :
    Calls Try.prog 59 #[.int .i64 k] w fun e w' => e = .returned (.string (mtT k)) ∧ Below w.heap.size w w' := by
  have h0 : ¬ (k : Int) ≤ 0 := by omega
  go_enter Try.func59, Try.ntmps59
  go_wp2
  go_loopw [0, 3] (fun i o wr => ∃ (j : Nat) (s : ByteArray), j ≤ k ∧ i = .int .i64 j ∧ o = .string s ∧ mtW j s = mtW k ByteArray.empty ∧ s.size + j ≤ k ∧ Below w.heap.size w wr) (fun i _ _ => (intOf i).toNat)
  case atStart => exact ⟨k, ByteArray.empty, by omega, rfl, rfl, rfl, by simp, Below.refl _ _⟩
  case round =>
    obtain ⟨j, s, hj, rfl, rfl, hm, hs, hb⟩ := hrel
    have HM : Hid (mtW j s = mtW k ByteArray.empty) := hm
    clear hm
    by_cases hlt : 0 < j
    · have hi1 : (0 : Int) < (j : Int) := by omega
      have HM2 : Hid (mtW (j / 10) (digT (j % 10) ++ s) = mtW k ByteArray.empty) := by unfold Hid; rw [← mtW_pos hlt]; exact HM.out
      have HS : Hid ((digT (j % 10) ++ s).size + j / 10 ≤ k) := by unfold Hid; rw [ByteArray.size_append]; have : (digT (j % 10)).size = 1 := rfl; omega
      have HB : Hid (Below w.heap.size w (wr.alloc (.cells #[.int .u8 (48 + (j : Int) % 10)] 5))) := hb.alloc hb.size _
      have r0 := run_dig (wr.alloc (.cells #[.int .u8 (48 + (j : Int) % 10)] 5)) wr.heap.size (j % 10) (Nat.mod_lt _ (by decide)) (by rw [World.cell?_alloc_new]; rfl)
      have z2 : (digT (j % 10)).size = 1 := rfl
      have zz : ¬ 9223372036854775807 < 1 + s.size := by omega
      generalize digT (j % 10) = D at HM2 HS r0 z2
      clear hb HM
      go_wp2
      go_roundw
      case rel => exact ⟨j / 10, D ++ s, by omega, by go_num, rfl, HM2.out, HS.out, HB.out⟩
      case measure => simp [intOf]; omega
    · have hj0 : j = 0 := by omega
      have hi1 : ¬ (0 : Int) < (j : Int) := by omega
      have HE : Hid (mtT k = ⟨#[109]⟩ ++ s) := by unfold Hid mtT; rw [← HM.out, hj0, mtW_zero]
      clear hj0
      have zz : ¬ 9223372036854775807 < 1 + s.size := by omega
      clear HM
      go_wp2
      go_ret
      exact ⟨by rw [HE.out]; rfl, hb⟩
theorem grown_of {w w' : World} {row : Option Nat} (h : Below w.heap.size w w') : w.grownBy w' row := ⟨h.os, h.tape, h.output, h.size, fun k hk _ => h.block k hk⟩
def mkS (k n : Nat) : List ByteArray := (List.range n).map fun i => mtT (k + i)
theorem mkS_len (k n : Nat) : (mkS k n).length = n := by simp [mkS]
theorem mkS_tx {k n i : Nat} (h : i < n) : tx (mkS k n) i = mtT (k + i) := by rw [tx_get (by rw [mkS_len]; exact h)]; simp [mkS]
def mkF (k n : Nat) : List FO := (List.range n).map fun i => (mtT (k + i * 2), ((k + i * 2 + 1 : Nat) : Int))
theorem mkF_len (k n : Nat) : (mkF k n).length = n := by simp [mkF]
theorem mkF_at {k n i : Nat} (h : i < n) : fS (mkF k n) i = mtT (k + i * 2) ∧ fA (mkF k n) i = ((k + i * 2 + 1 : Nat) : Int) := by
  rw [fS_get (by rw [mkF_len]; exact h), fA_get (by rw [mkF_len]; exact h)]; simp [mkF]
set_option maxRecDepth 100000 in
set_option maxHeartbeats 8000000 in
theorem lawMarkTexts (g n cap k : Nat) (w : World) (h : FB w g n) (hl : n ≤ 1000000) (k0 : 0 < k) (k1 : k ≤ 1000000) :
    Calls Try.prog 60 #[.slice (some ⟨g, 0, none⟩) n cap, .int .i64 k] w fun e w' => e = .returned (.int .i64 (k + n : Nat)) ∧ IsTx w' (some ⟨g, 0, none⟩) (mkS k n) ∧ w.grownBy w' (some g) := by
  have HO : Hid (FB w g n) := h
  clear h
  go_enter Try.func60, Try.ntmps60
  go_wp2
  go_loopw [1, 5] (fun q i wr => ∃ j p : Nat, j ≤ n ∧ p = k + j ∧ i = .int .i64 j ∧ q = .int .i64 p ∧ (∀ x, x < j → wr.cell? ⟨g, x, none⟩ = some (.string (mtT (k + x)))) ∧ FB wr g n ∧ w.grownBy wr (some g)) (fun _ i _ => n - (intOf i).toNat)
  case atStart => exact ⟨0, k, by omega, rfl, rfl, rfl, fun x h => by omega, HO.out, World.grownBy.refl _ _⟩
  case round =>
    obtain ⟨j, p, hj, hp, rfl, rfl, D, O, G⟩ := hrel
    by_cases hlt : j < n
    · have hi1 : (j : Int) < (n : Int) := by omega
      have hi0 : (0 : Int) ≤ (j : Int) := by omega
      have HD : Hid (∀ x, x < j → wr.cell? ⟨g, x, none⟩ = some (.string (mtT (k + x)))) := D
      have HO2 : Hid (FB wr g n) := O
      have HG : Hid (w.grownBy wr (some g)) := G
      have HP : Hid (p = k + j) := hp
      have hpk : p ≤ 1000000000 := by omega
      have hp0 : 0 < p := by omega
      clear D O G hp
      go_wp2_with fail
      refine (lawMarkText p wr hp0 hpk).mono ?_
      rintro e w1 ⟨rfl, b1⟩
      have O1 := HO2.out.below b1
      obtain ⟨v0, c0⟩ := O1.there j hlt
      have f0 := O1.free j
      have FIN : Hid ((∀ x, x < j + 1 → (w1.setCell ⟨g, j, none⟩ (.string (mtT p))).cell? ⟨g, x, none⟩ = some (.string (mtT (k + x)))) ∧ FB (w1.setCell ⟨g, j, none⟩ (.string (mtT p))) g n ∧ w.grownBy (w1.setCell ⟨g, j, none⟩ (.string (mtT p))) (some g)) := by
        refine ⟨fun x hx => ?_, O1.setCell _ _, grown_trans (grown_trans HG.out (grown_of b1)) (grown_set _ ⟨g, j, none⟩ _)⟩
        by_cases e : x = j
        · subst e; rw [HP.out]; exact World.cell?_setCell_same _ _ _ c0
        · rw [World.cell?_setCell_other _ _ _ _ (by simp <;> omega), b1.cell (p := ⟨g, x, none⟩) HO2.out.lt]; exact HD.out x (by omega)
      clear b1 O1 HD HO2 HG
      go_wp2
      go_roundw
      case rel => exact ⟨j + 1, p + 1, by omega, by have := HP.out; omega, by go_num, by go_num, FIN.out.1, FIN.out.2.1, FIN.out.2.2⟩
      case measure => simp [intOf]; omega
    · have hjj : j = n := by omega
      subst hjj
      subst hp
      have FIN : Hid (IsTx wr (some ⟨g, 0, none⟩) (mkS k j) ∧ w.grownBy wr (some g)) := ⟨.inr ⟨g, 0, rfl, O.lt, fun i hi => by rw [mkS_len] at hi; rw [mkS_tx hi, Nat.zero_add]; exact D i hi⟩, G⟩
      clear D O G
      go_wp2
      go_ret
      exact ⟨ret_i (by first | rfl | simp), FIN.out.1, FIN.out.2⟩
set_option maxHeartbeats 4000000 in
theorem lawToFoundsF (a : Option Addr) (cap : Nat) (l : List FO) (w : World) (h : IsFo w a l) (hl : l.length ≤ 2000000) :
    Calls Try.prog 16 #[.slice a l.length cap] w fun e w' => e = .returned (.slice (some ⟨w.heap.size, 0, none⟩) l.length l.length) ∧ IsFo w' (some ⟨w.heap.size, 0, none⟩) l ∧ Below w.heap.size w w' ∧ FB w' w.heap.size (l.length * 2) := by
  obtain ⟨ti, tz, hi, hz, hsz, hby⟩ := foMade
  have hmk := fun w : World => run_make (P := Try.prog) w 30 71 ti tz Try.underlying30 hi hz .i64 .i64 (l.length : Int) (l.length : Int) (by omega) (by omega) (by rw [hby]; omega) (by omega)
  simp only [Int.toNat_natCast, hsz] at hmk
  have HC := Cfo.made w l (madeCells tz.cells (l.length * 2)) (size_madeCells _ _) 71
  generalize madeCells tz.cells (l.length * 2) = cs at hmk HC
  have HCC : Hid (Cfo w (w.alloc (.cells cs 71)) l 0) := HC
  have HT : Hid (IsFo w a l) := h
  clear HC h hi hz hsz hby
  go_enter Try.func16, Try.ntmps16
  go_wp2
  go_loopw [4] (fun i wr => ∃ k : Nat, k ≤ l.length ∧ i = .int .i64 k ∧ Cfo w wr l k) (fun i _ => l.length - (intOf i).toNat)
  case atStart => exact ⟨0, by omega, rfl, HCC.out⟩
  case round =>
    obtain ⟨k, hk, rfl, hcp⟩ := hrel
    clear hmk
    have HP : Hid (Cfo w wr l k) := hcp
    have hlt0 := hcp.lt
    clear hcp
    by_cases hlt : k < l.length
    · have HT2 := HT.out
      rcases HT2 with HT2 | ⟨b, off, rfl, hbs, hc⟩
      · rw [HT2] at hlt; simp at hlt
      have c0 : wr.cell? ⟨b, off + k * 2, none⟩ = some (.string (fS l k)) := by rw [HP.out.hb.cell (p := ⟨b, off + k * 2, none⟩) hbs]; exact (hc k hlt).1
      have c1 : wr.cell? ⟨b, off + k * 2 + 1, none⟩ = some (.int .i64 (fA l k)) := by rw [HP.out.hb.cell (p := ⟨b, off + k * 2 + 1, none⟩) hbs]; exact (hc k hlt).2
      clear hc
      go_wp2_with fail
      refine (lawToFound _ _ _).mono ?_
      rintro e w3 ⟨rfl, hb3⟩
      have hs3 := hb3.size
      obtain ⟨v0, d0⟩ := HP.out.there (k * 2) (by omega)
      obtain ⟨v1, d1⟩ := HP.out.there (k * 2 + 1) (by omega)
      have f0 := HP.out.free (k * 2)
      have f1 := HP.out.free (k * 2 + 1)
      rw [← hb3.cell (p := ⟨w.heap.size, k * 2, none⟩) hlt0] at d0
      rw [← hb3.cell (p := ⟨w.heap.size, k * 2 + 1, none⟩) hlt0] at d1
      rw [← hb3.frozen (p := ⟨w.heap.size, k * 2, none⟩) hlt0] at f0
      rw [← hb3.frozen (p := ⟨w.heap.size, k * 2 + 1, none⟩) hlt0] at f1
      have FIN : Hid (Cfo w ((w3.setCell ⟨w.heap.size, k * 2, none⟩ (.string (fS l k))).setCell ⟨w.heap.size, k * 2 + 1, none⟩ (.int .i64 (fA l k))) l (k + 1)) := HP.out.step hlt hb3
      clear hb3
      go_wp2
      go_roundw
      case rel => exact ⟨k + 1, by omega, by go_num, FIN.out⟩
      case measure => simp [intOf]; omega
    · have hkk : k = l.length := by omega
      subst hkk
      have FIN : Hid (IsFo wr (some ⟨w.heap.size, 0, none⟩) l) := .inr ⟨w.heap.size, 0, rfl, hlt0, fun i hi => by simpa using HP.out.done i hi⟩
      go_wp2
      go_ret
      exact ⟨rfl, FIN.out, HP.out.hb, HP.out.lt, HP.out.there, HP.out.free⟩
set_option maxRecDepth 100000 in
set_option maxHeartbeats 8000000 in
theorem lawMarkFounds (g n cap k : Nat) (w : World) (h : FB w g (n * 2)) (hl : n ≤ 2000000) (k0 : 0 < k) (k1 : k ≤ 10000000) :
    Calls Try.prog 22 #[.slice (some ⟨g, 0, none⟩) n cap, .int .i64 k] w fun e w' => e = .returned (.int .i64 (k + n * 2 : Nat)) ∧ IsFo w' (some ⟨g, 0, none⟩) (mkF k n) ∧ w.grownBy w' (some g) := by
  have HO : Hid (FB w g (n * 2)) := h
  clear h
  go_enter Try.func22, Try.ntmps22
  go_wp2
  go_loopw [1, 5] (fun q i wr => ∃ j p : Nat, j ≤ n ∧ p = k + j * 2 ∧ i = .int .i64 j ∧ q = .int .i64 p ∧ (∀ x, x < j → wr.cell? ⟨g, x * 2, none⟩ = some (.string (mtT (k + x * 2))) ∧ wr.cell? ⟨g, x * 2 + 1, none⟩ = some (.int .i64 ((k + x * 2 + 1 : Nat) : Int))) ∧ FB wr g (n * 2) ∧ w.grownBy wr (some g)) (fun _ i _ => n - (intOf i).toNat)
  case atStart => exact ⟨0, k, by omega, rfl, rfl, rfl, fun x h => by omega, HO.out, World.grownBy.refl _ _⟩
  case round =>
    obtain ⟨j, p, hj, hp, rfl, rfl, D, O, G⟩ := hrel
    by_cases hlt : j < n
    · have hi1 : (j : Int) < (n : Int) := by omega
      have hi0 : (0 : Int) ≤ (j : Int) := by omega
      have HD : Hid (∀ x, x < j → wr.cell? ⟨g, x * 2, none⟩ = some (.string (mtT (k + x * 2))) ∧ wr.cell? ⟨g, x * 2 + 1, none⟩ = some (.int .i64 ((k + x * 2 + 1 : Nat) : Int))) := D
      have HO2 : Hid (FB wr g (n * 2)) := O
      have HG : Hid (w.grownBy wr (some g)) := G
      have HP : Hid (p = k + j * 2) := hp
      have hpk : p ≤ 1000000000 := by omega
      have hp0 : 0 < p := by omega
      clear D O G hp
      go_wp2_with fail
      refine (lawMarkText p wr hp0 hpk).mono ?_
      rintro e w1 ⟨rfl, b1⟩
      have O1 := HO2.out.below b1
      obtain ⟨v0, c0⟩ := O1.there (j * 2) (by omega)
      obtain ⟨v1, c1⟩ := O1.there (j * 2 + 1) (by omega)
      have f0 := O1.free (j * 2)
      have f1 := O1.free (j * 2 + 1)
      have FIN : Hid ((∀ x, x < j + 1 → ((w1.setCell ⟨g, j * 2, none⟩ (.string (mtT p))).setCell ⟨g, j * 2 + 1, none⟩ (.int .i64 ((p : Int) + 1))).cell? ⟨g, x * 2, none⟩ = some (.string (mtT (k + x * 2))) ∧ ((w1.setCell ⟨g, j * 2, none⟩ (.string (mtT p))).setCell ⟨g, j * 2 + 1, none⟩ (.int .i64 ((p : Int) + 1))).cell? ⟨g, x * 2 + 1, none⟩ = some (.int .i64 ((k + x * 2 + 1 : Nat) : Int))) ∧ FB ((w1.setCell ⟨g, j * 2, none⟩ (.string (mtT p))).setCell ⟨g, j * 2 + 1, none⟩ (.int .i64 ((p : Int) + 1))) g (n * 2) ∧ w.grownBy ((w1.setCell ⟨g, j * 2, none⟩ (.string (mtT p))).setCell ⟨g, j * 2 + 1, none⟩ (.int .i64 ((p : Int) + 1))) (some g)) := by
        refine ⟨fun x hx => ?_, (O1.setCell _ _).setCell _ _, grown_trans (grown_trans (grown_trans HG.out (grown_of b1)) (grown_set _ ⟨g, j * 2, none⟩ _)) (grown_set _ ⟨g, j * 2 + 1, none⟩ _)⟩
        by_cases e : x = j
        · subst e
          have hpp := HP.out
          subst hpp
          constructor
          · rw [World.cell?_setCell_other _ _ _ _ (by simp)]; exact World.cell?_setCell_same _ _ _ c0
          · have q := World.cell?_setCell_same (w1.setCell ⟨g, x * 2, none⟩ (.string (mtT (k + x * 2)))) ⟨g, x * 2 + 1, none⟩ (.int .i64 (((k + x * 2 : Nat) : Int) + 1)) (u := v1) (by rw [World.cell?_setCell_other _ _ _ _ (by simp)]; exact c1)
            simpa using q
        · rw [World.cell?_setCell_other _ _ _ _ (by simp <;> omega), World.cell?_setCell_other _ _ _ _ (by simp <;> omega), World.cell?_setCell_other _ _ _ _ (by simp <;> omega), World.cell?_setCell_other _ _ _ _ (by simp <;> omega), b1.cell (p := ⟨g, x * 2, none⟩) HO2.out.lt, b1.cell (p := ⟨g, x * 2 + 1, none⟩) HO2.out.lt]; exact HD.out x (by omega)
      clear b1 O1 HD HO2 HG
      go_wp2
      go_roundw
      case rel => exact ⟨j + 1, p + 2, by omega, by have := HP.out; omega, by go_num, by go_num, FIN.out.1, FIN.out.2.1, FIN.out.2.2⟩
      case measure => simp [intOf]; omega
    · have hjj : j = n := by omega
      subst hjj
      subst hp
      have FIN : Hid (IsFo wr (some ⟨g, 0, none⟩) (mkF k j) ∧ w.grownBy wr (some g)) := ⟨.inr ⟨g, 0, rfl, O.lt, fun i hi => by rw [mkF_len] at hi; rw [(mkF_at hi).1, (mkF_at hi).2, Nat.zero_add]; exact D i hi⟩, G⟩
      clear D O G
      go_wp2
      go_ret
      exact ⟨ret_i (by first | rfl | simp), FIN.out.1, FIN.out.2⟩
end Go.Proofs.Ytecijmdkicgemaa
