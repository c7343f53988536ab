/- The zone of a name among zones: the specification's (as in Vt). -/
import Derived.Test.YtlhaldhfoeiohaaVr
namespace Go.Proofs.Ytlhaldhfoeiohaa
open Go.RowKit
set_option linter.unusedVariables false
theorem Hid.of' {p : Prop} (h : p) : Hid p := h
set_option maxRecDepth 100000 in
set_option maxHeartbeats 8000000 in
theorem specZone (a : Option Addr) (cap : Nat) (zs : List ZR) (nm : ByteArray) (w : World) (h : IsZones w a zs) (hl : zs.length ≤ 2000000) :
    Calls Try.prog 14 #[.slice a zs.length cap, .string nm] w fun e w' => (∃ v, e = .returned v ∧ ZTold w' zs nm v) ∧ Below w.heap.size w w' := by
  have HZ : Hid (IsZones w a zs) := h
  have HD0 : Hid (CF (w.alloc (.cells #[.string ⟨#[]⟩, .int .i64 0, .slice none 0 0] 43)) w.heap.size #[.string ⟨#[]⟩, .int .i64 0, .slice none 0 0]) := CF.new _ _ _
  have HB0 : Hid (Below w.heap.size w (w.alloc (.cells #[.string ⟨#[]⟩, .int .i64 0, .slice none 0 0] 43))) := (Below.refl _ w).alloc (Nat.le_refl _) _
  clear h
  go_enter Try.func14, Try.ntmps14
  go_wp2
  generalize w.alloc (.cells #[.string ⟨#[]⟩, .int .i64 0, .slice none 0 0] 43) = W0 at HD0 HB0 ⊢
  go_loopw [6] (fun i wr => ∃ k : Nat, k ≤ zs.length ∧ i = .int .i64 k ∧ (∀ j, j < k → ((zAt zs j).s.toList == nm.toList) = false) ∧ wr = W0) (fun i _ => zs.length - (intOf i).toNat)
  case atStart => exact ⟨0, by omega, rfl, fun j h => by omega, rfl⟩
  case round =>
    obtain ⟨k, hk, rfl, ha, rfl⟩ := hrel
    have HA : Hid (∀ j, j < k → ((zAt zs j).s.toList == nm.toList) = false) := ha
    obtain ⟨d0, f0⟩ := HD0.out.2 0 _ rfl
    obtain ⟨d1, f1⟩ := HD0.out.2 1 _ rfl
    obtain ⟨d2, f2⟩ := HD0.out.2 2 _ rfl
    have hbz : w.heap.size < wr.heap.size := HD0.out.1
    clear ha
    by_cases hlt : k < zs.length
    · have G1 := HZ.out
      rcases G1 with G1 | ⟨b, o, rfl, hbs, hc⟩
      · rw [G1] at hlt; simp at hlt
      obtain ⟨za, zc, c0', c1', c2', t1⟩ := hc k hlt
      have c0 : wr.cell? ⟨b, o + k * 3, none⟩ = some (.string (zAt zs k).s) := by rw [HB0.out.cell (p := ⟨b, o + k * 3, none⟩) hbs]; exact c0'
      have c1 : wr.cell? ⟨b, o + k * 3 + 1, none⟩ = some (.int .i64 (zAt zs k).sh) := by rw [HB0.out.cell (p := ⟨b, o + k * 3 + 1, none⟩) hbs]; exact c1'
      have c2 : wr.cell? ⟨b, o + k * 3 + 2, none⟩ = some (.slice za (zAt zs k).ts.length zc) := by rw [HB0.out.cell (p := ⟨b, o + k * 3 + 2, none⟩) hbs]; exact c2'
      have HT1 : Hid (IsTurns w za (zAt zs k).ts) := t1
      have hi1 : (k : Int) < (zs.length : Int) := by omega
      have hi0 : (0 : Int) ≤ (k : Int) := by omega
      clear hc t1 c0' c1' c2'
      cases hg : ((zAt zs k).s.toList == nm.toList) with
      | false =>
        have HQ : Hid (∀ j, j < k + 1 → ((zAt zs j).s.toList == nm.toList) = false) := fun j hj => by
          by_cases e : j = k
          · subst e; exact hg
          · exact HA.out j (by omega)
        go_wp2
        go_roundw
        case rel => exact ⟨k + 1, by omega, by go_num, HQ.out, by trivial⟩
        case measure => simp [intOf]; omega
      | true =>
        have HX : Hid (zix zs nm = k) := zix_at hlt HA.out hg
        have HTH : Hid (thereB zs nm = true) := decide_eq_true (by rw [HX.out]; exact hlt)
        have KEY : Hid (∀ W', Below w.heap.size w W' → ZTold W' zs nm (.tuple #[.agg #[.string (zAt zs k).s, .int .i64 (zAt zs k).sh, .slice za (zAt zs k).ts.length zc], .bool true])) := fun W' hb => ⟨_, _, _, _, _, by rw [HTH.out], fun _ => by rw [HX.out]; exact ⟨rfl, rfl, rfl, HT1.out.below (B := 0) hb⟩⟩
        go_wp2
        refine bodyPost_ret (v := .tuple #[.agg #[.string (zAt zs k).s, .int .i64 (zAt zs k).sh, .slice za (zAt zs k).ts.length zc], .bool true]) (by simp [results, Try.results14, go_sem, *]) rfl ⟨⟨_, rfl, KEY.out _ ?_⟩, ?_⟩
        all_goals (repeat (first | with_reducible exact HB0.out | with_reducible refine Below.setCell ?_ (by first | (simp; done) | (simp; omega)) _))
    · have HT : Hid (thereB zs nm = false) := decide_eq_false (by rw [zix_none fun j hj => HA.out j (by omega)]; omega)
      have hi2 : ¬ (k : Int) < (zs.length : Int) := by omega
      go_wp2
      refine bodyPost_ret (v := .tuple #[.agg #[.string ⟨#[]⟩, .int .i64 0, .slice none 0 0], .bool false]) (by simp [results, Try.results14, go_sem, *]) rfl ⟨⟨_, rfl, _, _, _, _, _, by rw [HT.out], fun h => by rw [HT.out] at h; cases h⟩, ?_⟩
      repeat (first | with_reducible exact HB0.out | with_reducible refine Below.setCell ?_ (by first | (simp; done) | (simp; omega)) _)
end Go.Proofs.Ytlhaldhfoeiohaa
