/- Months added: the program and the specification. -/
import Derived.Test.YtngekeigdnlbmaaDoorImC
import Derived.Test.YtngekeigdnlbmaaDoorSpD
import Derived.Deep.RegionWith
namespace Go.Proofs.YtngekeigdnlbmaaDoor
open Go.RowKit
set_option linter.unusedVariables false

/-- Months from January of the year 1 on. -/
def mon (y m n : Int) : Int := (y - 1) * 12 + m - 1 + n
def moY (k : Int) : Int := k / 12 + 1
def moM (k : Int) : Int := k % 12 + 1
def moD (k d : Int) : Int := if d ≤ dim (moY k) (moM k) then d else dim (moY k) (moM k)
theorem mo_ok {k d : Int} (h0 : 0 ≤ k) (h1 : k < 119988) (h2 : 1 ≤ d) : okD (moY k) (moM k) (moD k d) = true := by
  have := dim_bd (moY k) (moM k)
  refine (okD_iff _ _ _).2 ⟨by unfold moY; omega, by unfold moY; omega, by unfold moM; omega, by unfold moM; omega, ?_, ?_⟩ <;> (unfold moD; split <;> omega)
set_option maxHeartbeats 2000000 in
theorem implPlus_no (y m d n : Int) (w : World) (hy0 : 1 ≤ y) (hy1 : y ≤ 9999) (hm0 : 1 ≤ m) (hm1 : m ≤ 12) (hn0 : -120000 ≤ n) (hn1 : n ≤ 120000) (h : mon y m n < 0 ∨ 119988 ≤ mon y m n) :
    Calls Tryd.prog 35 #[.agg #[.int .i64 y, .int .i64 m, .int .i64 d], .int .i64 n] w fun e w' => e = .returned (.agg #[.int .i64 0, .int .i64 0, .int .i64 0]) ∧ Below w.heap.size w w' := by
  unfold mon at h
  rcases h with h | h
  · go_enter Tryd.func35, Tryd.ntmps35
    go_wp2
    exact bodyPost_ret (v := .agg #[.int .i64 0, .int .i64 0, .int .i64 0]) (by simp [results, Tryd.results35, go_sem]) rfl ⟨rfl, ((Below.refl _ _).alloc (Nat.le_refl _) _).alloc (by simp) _⟩
  · have h' : ¬ (y - 1) * 12 + m - 1 + n < 0 := by omega
    go_enter Tryd.func35, Tryd.ntmps35
    go_wp2
    exact bodyPost_ret (v := .agg #[.int .i64 0, .int .i64 0, .int .i64 0]) (by simp [results, Tryd.results35, go_sem]) rfl ⟨rfl, ((Below.refl _ _).alloc (Nat.le_refl _) _).alloc (by simp) _⟩
set_option maxHeartbeats 2000000 in
theorem implPlus_yes (y m d n : Int) (w : World) (ht : Tab w) (hy0 : 1 ≤ y) (hy1 : y ≤ 9999) (hm0 : 1 ≤ m) (hm1 : m ≤ 12) (hn0 : -120000 ≤ n) (hn1 : n ≤ 120000) (h0 : 0 ≤ mon y m n) (h1 : mon y m n < 119988) (hd0 : 1 ≤ d) (hd1 : d ≤ 31) :
    Calls Tryd.prog 35 #[.agg #[.int .i64 y, .int .i64 m, .int .i64 d], .int .i64 n] w fun e w' => e = .returned (.agg #[.int .i64 (moY (mon y m n)), .int .i64 (moM (mon y m n)), .int .i64 (moD (mon y m n) d)]) ∧ Below w.heap.size w w' := by
  have HM : Hid (mon y m n = (y - 1) * 12 + m - 1 + n) := rfl
  have HT : Hid (Tab ((w.alloc (.cells #[.int .i64 y, .int .i64 m, .int .i64 d] 54)).alloc (.cells #[.int .i64 0, .int .i64 0, .int .i64 0] 24)).drew) := ht.on (((Below.refl _ _).alloc (Nat.le_refl _) _).alloc (by simp) _).drew
  have g0 : 0 ≤ (y - 1) * 12 + m - 1 + n := h0
  have g1 : (y - 1) * 12 + m - 1 + n < 119988 := h1
  clear ht h0 h1
  have db := dim_bd (((y - 1) * 12 + m - 1 + n) / 12 + 1) (((y - 1) * 12 + m - 1 + n) % 12 + 1)
  by_cases hle : d ≤ dim (((y - 1) * 12 + m - 1 + n) / 12 + 1) (((y - 1) * 12 + m - 1 + n) % 12 + 1)
  · have HE : Hid (moD (mon y m n) d = d) := if_pos hle
    go_enter Tryd.func35, Tryd.ntmps35
    go_wp2
    go_region_with (first | (go_at_call 40; refine (implSize _ _ _ HT.out (by omega) (by omega) (by omega) (by omega)).mono ?_; rintro e w' ⟨rfl, rfl⟩) | (go_at_call 43; refine (implDate _ _ _ _).mono ?_; rintro e w2 ⟨rfl, hb2⟩; obtain ⟨hc, hf⟩ := bcell hb2; have hs := hb2.size; simp at hs; have hs2 : w.heap.size + 1 < w2.heap.size := by omega))
    all_goals
      go_wp2
      refine bodyPost_ret (v := .agg #[.int .i64 (moY (mon y m n)), .int .i64 (moM (mon y m n)), .int .i64 (moD (mon y m n) d)]) ?_ rfl ⟨rfl, ?_⟩
      · rw [HE.out]; simp [results, Tryd.results35, go_sem, hc, moY, moM, mon]
      · exact ((((((Below.refl _ _).alloc (Nat.le_refl _) _).alloc (by simp) _).drew.trans (hb2.mono (by simp; omega))).setCell (p := ⟨w.heap.size + 1, 0, none⟩) (Nat.le_succ _) _).setCell (p := ⟨w.heap.size + 1, 1, none⟩) (Nat.le_succ _) _).setCell (p := ⟨w.heap.size + 1, 2, none⟩) (Nat.le_succ _) _
  · have HE : Hid (moD (mon y m n) d = dim (((y - 1) * 12 + m - 1 + n) / 12 + 1) (((y - 1) * 12 + m - 1 + n) % 12 + 1)) := if_neg hle
    go_enter Tryd.func35, Tryd.ntmps35
    go_wp2
    go_region_with (first | (go_at_call 40; refine (implSize _ _ _ HT.out (by omega) (by omega) (by omega) (by omega)).mono ?_; rintro e w' ⟨rfl, rfl⟩) | (go_at_call 43; refine (implDate _ _ _ _).mono ?_; rintro e w2 ⟨rfl, hb2⟩; obtain ⟨hc, hf⟩ := bcell hb2; have hs := hb2.size; simp at hs; have hs2 : w.heap.size + 1 < w2.heap.size := by omega))
    all_goals
      go_wp2
      refine bodyPost_ret (v := .agg #[.int .i64 (moY (mon y m n)), .int .i64 (moM (mon y m n)), .int .i64 (moD (mon y m n) d)]) ?_ rfl ⟨rfl, ?_⟩
      · rw [HE.out]; simp [results, Tryd.results35, go_sem, hc, moY, moM, mon]
      · exact ((((((Below.refl _ _).alloc (Nat.le_refl _) _).alloc (by simp) _).drew.trans (hb2.mono (by simp; omega))).setCell (p := ⟨w.heap.size + 1, 0, none⟩) (Nat.le_succ _) _).setCell (p := ⟨w.heap.size + 1, 1, none⟩) (Nat.le_succ _) _).setCell (p := ⟨w.heap.size + 1, 2, none⟩) (Nat.le_succ _) _
end Go.Proofs.YtngekeigdnlbmaaDoor
