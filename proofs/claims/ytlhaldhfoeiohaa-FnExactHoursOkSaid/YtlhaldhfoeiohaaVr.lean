/- The zone of a name among zones: both sides. -/
import Derived.Test.YtlhaldhfoeiohaaZl
import Derived.Test.YtlhaldhfoeiohaaKa
import Derived.Test.YtlhaldhfoeiohaaRf
namespace Go.Proofs.Ytlhaldhfoeiohaa
open Go.RowKit
set_option linter.unusedVariables false
theorem findN_hit (p : Nat → Bool) : ∀ k j, findN p k j < j + k → p (findN p k j) = true
  | 0, j, h => by unfold findN at h; omega
  | k + 1, j, h => by
    unfold findN at h ⊢
    split
    · assumption
    · rename_i hn
      rw [if_neg hn] at h
      exact findN_hit p k (j + 1) (by omega)
/-- Where the first zone of a name is; how many there are, if there is none. -/
def zix (zs : List ZR) (nm : ByteArray) : Nat := findN (fun j => (zAt zs j).s.toList == nm.toList) zs.length 0
def thereB (zs : List ZR) (nm : ByteArray) : Bool := decide (zix zs nm < zs.length)
theorem zix_at {zs : List ZR} {nm : ByteArray} {k : Nat} (hk : k < zs.length) (h : ∀ j, j < k → ((zAt zs j).s.toList == nm.toList) = false) (e : ((zAt zs k).s.toList == nm.toList) = true) : zix zs nm = k := by
  have l := findN_le (fun j => (zAt zs j).s.toList == nm.toList) zs.length 0
  rcases Nat.lt_trichotomy (zix zs nm) k with h1 | h1 | h1
  · have := findN_yes (fun j => (zAt zs j).s.toList == nm.toList) zs.length 0 k (by omega) (by omega) e
    have h2 := h _ h1
    unfold zix at h2
    rw [this] at h2; cases h2
  · exact h1
  · have h3 : ((zAt zs k).s.toList == nm.toList) = false := findN_no (fun j => (zAt zs j).s.toList == nm.toList) zs.length 0 k (by omega) h1
    rw [e] at h3; cases h3
theorem zix_none {zs : List ZR} {nm : ByteArray} (h : ∀ j, j < zs.length → ((zAt zs j).s.toList == nm.toList) = false) : zix zs nm = zs.length := by
  have l := findN_le (fun j => (zAt zs j).s.toList == nm.toList) zs.length 0
  rcases Nat.lt_or_ge (zix zs nm) zs.length with h1 | h1
  · have h2 := h _ h1
    have q : ((zAt zs (zix zs nm)).s.toList == nm.toList) = true := findN_hit (fun j => (zAt zs j).s.toList == nm.toList) zs.length 0 (by unfold zix at h1; omega)
    rw [q] at h2; cases h2
  · unfold zix at *; omega
def zixI (zs : List ZR) (nm : ByteArray) : Int := if zix zs nm < zs.length then (zix zs nm : Int) else -1
/-- What is told of a zone that was asked for. -/
def ZTold (w : World) (zs : List ZR) (nm : ByteArray) (v : Value) : Prop := ∃ s0 n0 a0 l0 c0, v = .tuple #[.agg #[.string s0, .int .i64 n0, .slice a0 l0 c0], .bool (thereB zs nm)] ∧ (thereB zs nm = true → s0 = (zAt zs (zix zs nm)).s ∧ n0 = (zAt zs (zix zs nm)).sh ∧ l0 = (zAt zs (zix zs nm)).ts.length ∧ IsTurns w a0 (zAt zs (zix zs nm)).ts)
theorem implZoneOf1 (z : ZR) (a : Option Addr) (c : Nat) (B : Nat) (nm : ByteArray) (w : World) (h : w.cell? ⟨B, 0, none⟩ = some (.string nm)) :
    Calls Try.prog 32 #[.agg #[.string z.s, .int .i64 z.sh, .slice a z.ts.length c], .pointer (some ⟨B, 0, none⟩)] w fun e w' => e = .returned (.bool (z.s.toList == nm.toList)) ∧ Below w.heap.size w w' := by
  have hlt := cell_lt h
  go_enter Try.func32, Try.ntmps32
  go_wp2
  go_ret
  exact ⟨rfl, (Below.refl _ _).alloc (Nat.le_refl _) _⟩
set_option maxRecDepth 100000 in
set_option maxHeartbeats 8000000 in
theorem implZoneIdx (a : Option Addr) (cap : Nat) (zs : List ZR) (nm : ByteArray) (B : Nat) (w : World) (h : IsZones w a zs) (hl : zs.length ≤ 2000000) (hn : w.cell? ⟨B, 0, none⟩ = some (.string nm)) :
    Calls Try.prog 31 #[.slice a zs.length cap, .func (.func 32) #[] #[.pointer (some ⟨B, 0, none⟩)]] w fun e w' => e = .returned (.int .i64 (zixI zs nm)) ∧ Below w.heap.size w w' := by
  have HZ : Hid (IsZones w a zs) := h
  have HN : Hid (w.cell? ⟨B, 0, none⟩ = some (.string nm)) := hn
  clear h hn
  go_enter Try.func31, Try.ntmps31
  go_wp2
  go_loopw [5, 8] (fun _ i wr => ∃ k : Nat, k ≤ zs.length ∧ i = .int .i64 k ∧ (∀ j, j < k → ((zAt zs j).s.toList == nm.toList) = false) ∧ Below w.heap.size w wr) (fun _ i _ => zs.length - (intOf i).toNat)
  case atStart => exact ⟨0, by omega, rfl, fun j h => by omega, Below.refl _ _⟩
  case round =>
    obtain ⟨k, hk, rfl, ha, hb⟩ := hrel
    have HA : Hid (∀ j, j < k → ((zAt zs j).s.toList == nm.toList) = false) := ha
    clear ha
    by_cases hlt : k < zs.length
    · have G1 := HZ.out.below hb
      rcases G1 with G1 | ⟨b, o, rfl, hbs, hc⟩
      · rw [G1] at hlt; simp at hlt
      obtain ⟨za, zc, c0, c1, c2, t1⟩ := hc k hlt
      have HW : Hid (Below w.heap.size w wr) := hb
      have n0 : wr.cell? ⟨B, 0, none⟩ = some (.string nm) := by rw [hb.cell (p := ⟨B, 0, none⟩) (cell_lt HN.out)]; exact HN.out
      clear hc hb t1
      go_wp2_with fail
      with_reducible refine (implZoneOf1 (zAt zs k) za zc B nm wr n0).mono ?_
      rintro e w7 ⟨rfl, b7⟩
      have B7 := bstep HW.out b7
      clear b7 c0 c1 c2 n0
      cases hg : ((zAt zs k).s.toList == nm.toList) with
      | false =>
        have HQ : Hid (∀ j, j < k + 1 → ((zAt zs j).s.toList == nm.toList) = false) := fun j hj => by
          by_cases e : j = k
          · subst e; exact hg
          · exact HA.out j (by omega)
        clear hg
        go_wp2
        go_roundw
        case rel => exact ⟨k + 1, by omega, by go_num, HQ.out, B7⟩
        case measure => simp [intOf]; omega
      | true =>
        have HX : Hid (zixI zs nm = k) := by unfold Hid zixI; rw [zix_at hlt HA.out hg, if_pos hlt]
        clear hg
        go_wp2
        go_ret
        exact ⟨ret_i HX.out.symm, B7⟩
    · have HX : Hid (zixI zs nm = -1) := by unfold Hid zixI; rw [zix_none fun j hj => HA.out j (by omega), if_neg (by omega)]
      have hi2 : ¬ (k : Int) < (zs.length : Int) := by omega
      go_wp2
      go_ret
      exact ⟨ret_i HX.out.symm, hb⟩
set_option maxRecDepth 100000 in
set_option maxHeartbeats 8000000 in
theorem implZoneOf (a : Option Addr) (cap : Nat) (zs : List ZR) (nm : ByteArray) (w : World) (h : IsZones w a zs) (hl : zs.length ≤ 2000000) :
    Calls Try.prog 20 #[.slice a zs.length cap, .string nm] w fun e w' => (∃ v, e = .returned v ∧ ZTold w' zs nm v) ∧ Below w.heap.size w w' := by
  obtain ⟨W0, hW0⟩ : ∃ W0, W0 = (w.alloc (.cells #[.string nm] 9)).alloc (.cells #[.string ⟨#[]⟩, .int .i64 0, .slice none 0 0] 43) := ⟨_, rfl⟩
  have hb0 : Below w.heap.size w W0 := by rw [hW0]; exact ((Below.refl _ w).alloc (Nat.le_refl _) _).alloc (by simp) _
  have HW0 : Hid (W0 = (w.alloc (.cells #[.string nm] 9)).alloc (.cells #[.string ⟨#[]⟩, .int .i64 0, .slice none 0 0] 43)) := hW0
  have HC0 : Hid (CF W0 w.heap.size #[.string nm]) := by unfold Hid; rw [hW0]; exact (CF.new _ _ _).past _
  have HD0 : Hid (CF W0 (w.heap.size + 1) #[.string ⟨#[]⟩, .int .i64 0, .slice none 0 0]) := by
    unfold Hid
    rw [hW0]
    have := CF.new (w.alloc (.cells #[.string nm] 9)) #[.string ⟨#[]⟩, .int .i64 0, .slice none 0 0] 43
    simpa using this
  have HB0 : Hid (Below w.heap.size w W0) := hb0
  have HZ0 : Hid (IsZones W0 a zs) := h.below hb0
  have HZW : Hid (IsZones w a zs) := h
  clear hW0 hb0 h
  go_enter Try.func20, Try.ntmps20
  go_wp2_with fail
  rw [← HW0.out]
  refine (implZoneIdx a cap zs nm w.heap.size W0 HZ0.out hl (HC0.out.2 0 _ rfl).1).mono ?_
  rintro e w1 ⟨rfl, b1⟩
  have HB1 : Hid (Below w.heap.size w w1) := bstep HB0.out b1
  have HZ1 : Hid (IsZones w1 a zs) := HZ0.out.below b1
  have D1 := HD0.out.below b1
  obtain ⟨d0, f0⟩ := D1.2 0 _ rfl
  obtain ⟨d1, f1⟩ := D1.2 1 _ rfl
  obtain ⟨d2, f2⟩ := D1.2 2 _ rfl
  clear b1 D1
  by_cases hx : zix zs nm < zs.length
  · have HT : Hid (thereB zs nm = true) := decide_eq_true hx
    obtain ⟨k, hk⟩ : ∃ k, k = zix zs nm := ⟨_, rfl⟩
    rw [show zixI zs nm = (k : Int) by unfold zixI; rw [if_pos hx, hk]]
    rw [← hk] at hx
    have HK : Hid (k = zix zs nm) := hk
    clear hk
    have G1 := HZW.out
    rcases G1 with G1 | ⟨b, o, rfl, hbs, hc⟩
    · rw [G1] at hx; simp at hx
    obtain ⟨za, zc, c0', c1', c2', t1⟩ := hc k hx
    have c0 : w1.cell? ⟨b, o + k * 3, none⟩ = some (.string (zAt zs k).s) := by rw [HB1.out.cell (p := ⟨b, o + k * 3, none⟩) hbs]; exact c0'
    have c1 : w1.cell? ⟨b, o + k * 3 + 1, none⟩ = some (.int .i64 (zAt zs k).sh) := by rw [HB1.out.cell (p := ⟨b, o + k * 3 + 1, none⟩) hbs]; exact c1'
    have c2 : w1.cell? ⟨b, o + k * 3 + 2, none⟩ = some (.slice za (zAt zs k).ts.length zc) := by rw [HB1.out.cell (p := ⟨b, o + k * 3 + 2, none⟩) hbs]; exact c2'
    have KEY : Hid (∀ W', Below w.heap.size w W' → ZTold W' zs nm (.tuple #[.agg #[.string (zAt zs k).s, .int .i64 (zAt zs k).sh, .slice za (zAt zs k).ts.length zc], .bool true])) := fun W' hb => ⟨_, _, _, _, _, by rw [HT.out], fun _ => by rw [← HK.out]; exact ⟨rfl, rfl, rfl, t1.below (B := 0) hb⟩⟩
    have k0 : ¬ (k : Int) < 0 := by omega
    have k1 : (k : Int) < (zs.length : Int) := by omega
    have hbne : b < w1.heap.size := by have := HB1.out.size; omega
    clear hc t1 c0' c1' c2'
    go_wp2
    refine bodyPost_ret (v := .tuple #[.agg #[.string (zAt zs k).s, .int .i64 (zAt zs k).sh, .slice za (zAt zs k).ts.length zc], .bool true]) (by simp [results, Try.results20, go_sem, *]) rfl ⟨⟨_, rfl, KEY.out _ ?_⟩, ?_⟩
    all_goals (repeat (first | with_reducible exact HB1.out | with_reducible refine Below.setCell ?_ (by first | (simp; done) | (simp; omega)) _))
  · have HT : Hid (thereB zs nm = false) := decide_eq_false hx
    rw [show zixI zs nm = -1 from if_neg hx]
    go_wp2
    refine bodyPost_ret (v := .tuple #[.agg #[.string ⟨#[]⟩, .int .i64 0, .slice none 0 0], .bool false]) (by simp [results, Try.results20, go_sem, *]) rfl ⟨⟨_, rfl, _, _, _, _, _, by rw [HT.out], fun h => by rw [HT.out] at h; cases h⟩, ?_⟩
    repeat (first | with_reducible exact HB1.out | with_reducible refine Below.setCell ?_ (by first | (simp; done) | (simp; omega)) _)
end Go.Proofs.Ytlhaldhfoeiohaa
