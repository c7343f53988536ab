/- Texts with small letters, and a text in another one: the program's and the specification's. -/
import Derived.Test.YtecijmdkicgemaaBs
import Derived.Lib.ConvBytes
import Derived.Lib.IndexMore
import Derived.Laws.IdiomStrings
namespace Go.Proofs.Ytecijmdkicgemaa
open Go.RowKit
set_option linter.unusedVariables false
def lowB (b : UInt8) : UInt8 := if 65 ≤ b.toNat ∧ b.toNat ≤ 90 then UInt8.ofNat (b.toNat + 32) else b
theorem lowB_yes {b : UInt8} (h0 : 65 ≤ b.toNat) (h1 : b.toNat ≤ 90) : (lowB b).toNat = b.toNat + 32 := by
  unfold lowB; rw [if_pos ⟨h0, h1⟩, UInt8.toNat_ofNat']; omega
theorem lowB_no {b : UInt8} (h : ¬ (65 ≤ b.toNat ∧ b.toNat ≤ 90)) : lowB b = b := by unfold lowB; rw [if_neg h]
def lowS (s : ByteArray) : ByteArray := ⟨(s.data.toList.map lowB).toArray⟩
theorem lowS_size (s : ByteArray) : (lowS s).size = s.size := by unfold lowS ByteArray.size; simp
theorem lowS_list (s : ByteArray) : (lowS s).data.toList = s.data.toList.map lowB := by unfold lowS; simp
/-- What a place holds when so many letters are small. -/
def atL (l : List UInt8) (k j : Nat) : UInt8 := if j < k then lowB (l.getD j 0) else l.getD j 0
/-- The bytes of a text in a block of their own, so many of them small. -/
structure LB (w wr : World) (l : List UInt8) (k : Nat) : Prop where
  done : ∀ j, j < l.length → wr.cell? ⟨w.heap.size, j, none⟩ = some (.int .u8 (atL l k j).toNat)
  free : ∀ j, j < l.length → wr.frozen? ⟨w.heap.size, j, none⟩ = false
  lt : w.heap.size < wr.heap.size
  bel : Below w.heap.size w wr
theorem LB.conv (w : World) (e : TypeId) (s : ByteArray) : LB w (Lib.bytesWorld w e s) s.data.toList 0 := by
  have hsz : s.data.toList.length = s.size := by unfold ByteArray.size; simp
  refine ⟨fun j hj => ?_, fun j hj => ?_, by rw [Lib.bytesWorld_size]; omega, ⟨rfl, rfl, rfl, by rw [Lib.bytesWorld_size]; omega, fun k hk => Lib.bytesWorld_at_old w e s k hk⟩⟩
  · rw [Lib.bytesWorld_cell w e s j (by omega)]
    unfold atL; rw [if_neg (by omega)]
  · have h := Lib.bytesWorld_at_new w e s
    have hc : s.size ≤ (Lib.bytesCells w e s).size := by unfold Lib.bytesCells ByteArray.size; simp
    unfold World.frozen?
    simp only [h]
    simp
    omega
theorem LB.skip {w wr : World} {l : List UInt8} {k : Nat} (h : LB w wr l k) (hk : k < l.length) (hb : lowB (l.getD k 0) = l.getD k 0) : LB w wr l (k + 1) := by
  refine ⟨fun j hj => ?_, h.free, h.lt, h.bel⟩
  rw [h.done j hj]
  unfold atL
  by_cases e : j = k
  · subst e; rw [if_neg (by omega), if_pos (by omega), hb]
  · by_cases e2 : j < k
    · rw [if_pos e2, if_pos (by omega)]
    · rw [if_neg e2, if_neg (by omega)]
theorem LB.put {w wr : World} {l : List UInt8} {k : Nat} {x : Int} (h : LB w wr l k) (hk : k < l.length) (hx : x = ((lowB (l.getD k 0)).toNat : Int)) : LB w (wr.setCell ⟨w.heap.size, k, none⟩ (.int .u8 x)) l (k + 1) := by
  refine ⟨fun j hj => ?_, fun j hj => by rw [World.frozen?_setCell]; exact h.free j hj, by simpa using h.lt, h.bel.setCell (p := ⟨w.heap.size, k, none⟩) (Nat.le_refl _) _⟩
  by_cases e : j = k
  · subst e
    rw [World.cell?_setCell_same _ _ _ (h.done j hj), hx]
    unfold atL; rw [if_pos (by omega)]
  · rw [World.cell?_setCell_other _ _ _ _ (by intro q; simp at q <;> omega), h.done j hj]
    unfold atL
    by_cases e2 : j < k
    · rw [if_pos e2, if_pos (by omega)]
    · rw [if_neg e2, if_neg (by omega)]
set_option maxRecDepth 100000 in
set_option maxHeartbeats 4000000 in
theorem implSmall (s : ByteArray) (w : World) (hs : s.size ≤ 1048576) :
    Calls Try.prog 43 #[.string s] w fun e w' => e = .returned (.string (lowS s)) ∧ Below w.heap.size w w' := by
  have hsz : s.data.toList.length = s.size := by unfold ByteArray.size; simp
  have kc := fun w : World => Lib.run_convert_string_bytes (P := Try.prog) w 9 23 5 s Try.underlying9 Try.underlying23 Try.underlying5
  have HL0 : Hid (LB w (Lib.bytesWorld w 5 s) s.data.toList 0) := LB.conv w _ s
  obtain ⟨C, hC⟩ : ∃ C, C = grownCap w s.size 0 5 := ⟨_, rfl⟩
  have kb : ∀ wr : World, LB w wr s.data.toList s.data.toList.length → (convert 23 9 (.slice (some ⟨w.heap.size, 0, none⟩) s.size C)).run Try.prog wr = .ok (.string (lowS s)) wr := fun wr h => by
    have q := run_convert_bytes_back (l := s.data.toList.map lowB) wr 23 9 5 ⟨w.heap.size, 0, none⟩ C Try.underlying23 Try.underlying5 Try.underlying9 (fun j hj => by
      have hj2 : j < s.data.toList.length := by simpa using hj
      have ha : (⟨w.heap.size, 0, none⟩ : Addr).add j = ⟨w.heap.size, j, none⟩ := by unfold Addr.add; split <;> simp_all
      rw [ha, h.done j hj2]
      unfold atL; rw [if_pos hj2]
      rw [List.getElem_map, List.getD_eq_getElem?_getD, List.getElem?_eq_getElem hj2]; rfl)
    rw [List.length_map, hsz] at q
    exact q
  have HKB : Hid (∀ wr : World, LB w wr s.data.toList s.data.toList.length → (convert 23 9 (.slice (some ⟨w.heap.size, 0, none⟩) s.size C)).run Try.prog wr = .ok (.string (lowS s)) wr) := kb
  clear kb
  rw [hC] at HKB
  clear hC C
  go_enter Try.func43, Try.ntmps43
  go_wp2
  generalize Lib.bytesWorld w 5 s = W0 at HL0 ⊢
  generalize grownCap w s.size 0 5 = C at HKB ⊢
  clear kc
  go_loopw [10] (fun i wr => ∃ k : Nat, k ≤ s.size ∧ i = .int .i64 k ∧ LB w wr s.data.toList k) (fun i _ => s.size - (intOf i).toNat)
  case atStart => exact ⟨0, by omega, rfl, HL0.out⟩
  case round =>
    obtain ⟨k, hk, rfl, hlb⟩ := hrel
    by_cases hlt : k < s.size
    · have hk2 : k < s.data.toList.length := by omega
      have c0 := hlb.done k hk2
      have e0 : atL s.data.toList k k = s.data.toList.getD k 0 := by unfold atL; rw [if_neg (by omega)]
      rw [e0] at c0
      have f0 := hlb.free k hk2
      have HLB : Hid (LB w wr s.data.toList k) := hlb
      have hi1 : (k : Int) < (s.size : Int) := by omega
      have hi0 : (0 : Int) ≤ (k : Int) := by omega
      have hsz2 : (s.size : Int) ≤ 1048576 := by omega
      clear hlb
      have hb0 : (s.data.toList.getD k 0).toNat ≤ 255 := by have := (s.data.toList.getD k 0).toNat_lt; omega
      by_cases h0 : 65 ≤ (s.data.toList.getD k 0).toNat
      · by_cases h1 : (s.data.toList.getD k 0).toNat ≤ 90
        · have FIN : Hid (LB w (wr.setCell ⟨w.heap.size, k, none⟩ (.int .u8 (((s.data.toList.getD k 0).toNat : Int) - 65 + 97))) s.data.toList (k + 1)) := HLB.out.put hk2 (by rw [lowB_yes h0 h1]; omega)
          have g0 : (65 : Int) ≤ ((s.data.toList.getD k 0).toNat : Int) := by omega
          have g1 : ((s.data.toList.getD k 0).toNat : Int) ≤ 90 := by omega
          generalize (s.data.toList.getD k 0).toNat = b at *
          have u1 := IntWalk.u8_in ((b : Int) - 65) (by omega)
          have u2 := IntWalk.u8_in ((b : Int) - 65 + 97) (by omega)
          clear h0 h1 hb0
          go_wp2
          go_roundw
          case rel => exact ⟨k + 1, by omega, by go_num, FIN.out⟩
          case measure => simp [intOf]; omega
        · have FIN : Hid (LB w wr s.data.toList (k + 1)) := HLB.out.skip hk2 (lowB_no (by omega))
          have g0 : (65 : Int) ≤ ((s.data.toList.getD k 0).toNat : Int) := by omega
          have g1 : ¬ ((s.data.toList.getD k 0).toNat : Int) ≤ 90 := by omega
          generalize (s.data.toList.getD k 0).toNat = b at *
          clear h0 h1 hb0
          go_wp2
          go_roundw
          case rel => exact ⟨k + 1, by omega, by go_num, FIN.out⟩
          case measure => simp [intOf]; omega
      · have FIN : Hid (LB w wr s.data.toList (k + 1)) := HLB.out.skip hk2 (lowB_no (by omega))
        have g0 : ¬ (65 : Int) ≤ ((s.data.toList.getD k 0).toNat : Int) := by omega
        generalize (s.data.toList.getD k 0).toNat = b at *
        clear h0 hb0
        go_wp2
        go_roundw
        case rel => exact ⟨k + 1, by omega, by go_num, FIN.out⟩
        case measure => simp [intOf]; omega
    · have hkk : k = s.data.toList.length := by omega
      rw [hkk] at hlb
      have kb := HKB.out wr hlb
      have Bf := hlb.bel
      rw [hsz] at hkk
      subst hkk
      clear hlb
      go_wp2
      go_ret
      exact ⟨rfl, Bf⟩
set_option maxRecDepth 100000 in
set_option maxHeartbeats 4000000 in
theorem specSmall (s : ByteArray) (w : World) (hs : s.size ≤ 1048576) :
    Calls Try.prog 41 #[.string s] w fun e w' => e = .returned (.string (lowS s)) ∧ Below w.heap.size w w' := by
  have hsz : s.data.toList.length = s.size := by unfold ByteArray.size; simp
  have kc := fun w : World => Lib.run_convert_string_bytes (P := Try.prog) w 9 23 5 s Try.underlying9 Try.underlying23 Try.underlying5
  have HL0 : Hid (LB w (Lib.bytesWorld w 5 s) s.data.toList 0) := LB.conv w _ s
  obtain ⟨C, hC⟩ : ∃ C, C = grownCap w s.size 0 5 := ⟨_, rfl⟩
  have kb : ∀ wr : World, LB w wr s.data.toList s.data.toList.length → (convert 23 9 (.slice (some ⟨w.heap.size, 0, none⟩) s.size C)).run Try.prog wr = .ok (.string (lowS s)) wr := fun wr h => by
    have q := run_convert_bytes_back (l := s.data.toList.map lowB) wr 23 9 5 ⟨w.heap.size, 0, none⟩ C Try.underlying23 Try.underlying5 Try.underlying9 (fun j hj => by
      have hj2 : j < s.data.toList.length := by simpa using hj
      have ha : (⟨w.heap.size, 0, none⟩ : Addr).add j = ⟨w.heap.size, j, none⟩ := by unfold Addr.add; split <;> simp_all
      rw [ha, h.done j hj2]
      unfold atL; rw [if_pos hj2]
      rw [List.getElem_map, List.getD_eq_getElem?_getD, List.getElem?_eq_getElem hj2]; rfl)
    rw [List.length_map, hsz] at q
    exact q
  have HKB : Hid (∀ wr : World, LB w wr s.data.toList s.data.toList.length → (convert 23 9 (.slice (some ⟨w.heap.size, 0, none⟩) s.size C)).run Try.prog wr = .ok (.string (lowS s)) wr) := kb
  clear kb
  rw [hC] at HKB
  clear hC C
  go_enter Try.func41, Try.ntmps41
  go_wp2
  generalize Lib.bytesWorld w 5 s = W0 at HL0 ⊢
  generalize grownCap w s.size 0 5 = C at HKB ⊢
  clear kc
  go_loopw [4] (fun i wr => ∃ k : Nat, k ≤ s.size ∧ i = .int .i64 k ∧ LB w wr s.data.toList k) (fun i _ => s.size - (intOf i).toNat)
  case atStart => exact ⟨0, by omega, rfl, HL0.out⟩
  case round =>
    obtain ⟨k, hk, rfl, hlb⟩ := hrel
    by_cases hlt : k < s.size
    · have hk2 : k < s.data.toList.length := by omega
      have c0 := hlb.done k hk2
      have e0 : atL s.data.toList k k = s.data.toList.getD k 0 := by unfold atL; rw [if_neg (by omega)]
      rw [e0] at c0
      have f0 := hlb.free k hk2
      have HLB : Hid (LB w wr s.data.toList k) := hlb
      have hi1 : (k : Int) < (s.size : Int) := by omega
      have hi0 : (0 : Int) ≤ (k : Int) := by omega
      have hsz2 : (s.size : Int) ≤ 1048576 := by omega
      clear hlb
      have hb0 : (s.data.toList.getD k 0).toNat ≤ 255 := by have := (s.data.toList.getD k 0).toNat_lt; omega
      by_cases h0 : 65 ≤ (s.data.toList.getD k 0).toNat
      · by_cases h1 : (s.data.toList.getD k 0).toNat ≤ 90
        · have FIN : Hid (LB w (wr.setCell ⟨w.heap.size, k, none⟩ (.int .u8 (((s.data.toList.getD k 0).toNat : Int) + 32))) s.data.toList (k + 1)) := HLB.out.put hk2 (by rw [lowB_yes h0 h1]; omega)
          have g0 : (65 : Int) ≤ ((s.data.toList.getD k 0).toNat : Int) := by omega
          have g1 : ((s.data.toList.getD k 0).toNat : Int) ≤ 90 := by omega
          generalize (s.data.toList.getD k 0).toNat = b at *
          have u1 := IntWalk.u8_in ((b : Int) + 32) (by omega)
          clear h0 h1 hb0
          go_wp2
          go_roundw
          case rel => exact ⟨k + 1, by omega, by go_num, FIN.out⟩
          case measure => simp [intOf]; omega
        · have FIN : Hid (LB w wr s.data.toList (k + 1)) := HLB.out.skip hk2 (lowB_no (by omega))
          have g0 : (65 : Int) ≤ ((s.data.toList.getD k 0).toNat : Int) := by omega
          have g1 : ¬ ((s.data.toList.getD k 0).toNat : Int) ≤ 90 := by omega
          generalize (s.data.toList.getD k 0).toNat = b at *
          clear h0 h1 hb0
          go_wp2
          go_roundw
          case rel => exact ⟨k + 1, by omega, by go_num, FIN.out⟩
          case measure => simp [intOf]; omega
      · have FIN : Hid (LB w wr s.data.toList (k + 1)) := HLB.out.skip hk2 (lowB_no (by omega))
        have g0 : ¬ (65 : Int) ≤ ((s.data.toList.getD k 0).toNat : Int) := by omega
        generalize (s.data.toList.getD k 0).toNat = b at *
        clear h0 hb0
        go_wp2
        go_roundw
        case rel => exact ⟨k + 1, by omega, by go_num, FIN.out⟩
        case measure => simp [intOf]; omega
    · have hkk : k = s.data.toList.length := by omega
      rw [hkk] at hlb
      have kb := HKB.out wr hlb
      have Bf := hlb.bel
      rw [hsz] at hkk
      subst hkk
      clear hlb
      go_wp2
      go_ret
      exact ⟨rfl, Bf⟩
end Go.Proofs.Ytecijmdkicgemaa
