/- FnExactZoneWorld: the law's own walk. -/
import Derived.Test.YtihklmbblbnihaaZKp
import Derived.Test.YtihklmbblbnihaaZx
namespace Go.Proofs.Ytihklmbblbnihaa
open Go.RowKit
set_option linter.unusedVariables false
set_option maxRecDepth 100000 in
set_option maxHeartbeats 8000000 in
theorem lawExZoneWorld (s : ByteArray) (sh : Int) (a : Option Addr) (cap : Nat) (ts : List (Int × Int)) (x : Int) (w : World) (hs : s.size ≤ maxLen) (hn : ts.length ≤ maxLen) (h : IsTurns w a ts) (hx : (Lit.int .i64 x).wf = true) :
    Calls Try.prog 9 #[.agg #[.string s, .int .i64 sh, .slice a ts.length cap], .int .i64 x] w fun e w' => e = .returned (.bool true) ∧ Below w.heap.size w w' := by
  have hb0 := (Below.refl w.heap.size w).alloc (Nat.le_refl _) (.cells #[.string s, .int .i64 sh, .slice a ts.length cap] 40)
  have hsv : s.size ≤ 9223372036854775807 := hs
  go_enter Try.func9, Try.ntmps9
  go_wp2_with fail
  refine (lawSzZone s sh a cap ts.length _ hs hn).mono ?_
  rintro e w1 ⟨rfl, hb1⟩
  have B := hb0.trans (hb1.mono (by simp))
  by_cases hz : s.size + ts.length ≤ 1048576
  · have hv : szz s ts.length = 1048576 - (s.size : Int) - (ts.length : Int) := if_pos hz
    rw [hv]
    have hl : ts.length ≤ 2000000 := by omega
    obtain ⟨hc, hf⟩ := bcell hb1
    have hs1 := hb1.size
    simp at hs1
    have c0 : w1.cell? ⟨w.heap.size, 0, none⟩ = some (.string s) := by rw [hc _ _ (by simp)]; simp
    have c1 : w1.cell? ⟨w.heap.size, 1, none⟩ = some (.int .i64 sh) := by rw [hc _ _ (by simp)]; simp
    have c2 : w1.cell? ⟨w.heap.size, 2, none⟩ = some (.slice a ts.length cap) := by rw [hc _ _ (by simp)]; simp
    have T1 : IsTurns w1 a ts := (h.below (B := 0) hb0).below (B := 0) hb1
    clear hc hf hb1 hv
    obtain ⟨r, hr⟩ := tr_dec ts
    have HR : Hid (r = true ↔ TrOk ts) := hr
    obtain ⟨q, hq⟩ := ZW.ex sh ts x
    have HQ : Hid (ZW sh ts x q) := hq
    clear hr hq
    go_wp2_with fail
    refine (lawToZone s sh a cap ts _ T1 hl).mono ?_
    rintro e w2 ⟨g, rfl, T2, hb2⟩
    go_wp2_with fail
    refine (specZoneWorld s sh _ _ ts x q _ T2 hl hs r HR.out HQ).mono ?_
    rintro e w3 ⟨rfl, hb3⟩
    have hb := bstep hb2 hb3
    have B3 := B.trans (hb.mono B.size)
    have T3 := T1.below (B := 0) hb
    have C : C3 w3 w.heap.size (.string s) (.int .i64 sh) (.slice a ts.length cap) := C3.on ⟨c0, c1, c2⟩ hb
    clear c0 c1 c2 hb hb2 hb3 T1 T2 B
    obtain ⟨c0, c1, c2⟩ := C
    go_wp2_with fail
    refine (lawToZone s sh a cap ts _ T3 hl).mono ?_
    rintro e w4 ⟨g2, rfl, T4, hb4⟩
    have D := C3.new w4 (.string s) (.int .i64 sh) (.slice (some ⟨g2, 0, none⟩) ts.length ts.length) 25
    have hb5 : Below w4.heap.size w4 (w4.alloc (.cells #[.string s, .int .i64 sh, .slice (some ⟨g2, 0, none⟩) ts.length ts.length] 25)) := (Below.refl _ _).alloc (Nat.le_refl _) _
    have K : ZK w w.heap.size w4.heap.size (.string s) (.int .i64 sh) (.slice a ts.length cap) (.slice (some ⟨g2, 0, none⟩) ts.length ts.length) a (some ⟨g2, 0, none⟩) ts (w4.alloc (.cells #[.string s, .int .i64 sh, .slice (some ⟨g2, 0, none⟩) ts.length ts.length] 25)) := by
      obtain ⟨e0, e1, e2⟩ := (C3.on (w := w3) ⟨c0, c1, c2⟩ hb4).on hb5
      exact ⟨e0, e1, e2, D.1, D.2.1, D.2.2, (T3.below (B := 0) hb4).below (B := 0) hb5, T4.below (B := 0) hb5, (B3.trans (hb4.mono B3.size)).trans (hb5.mono (Nat.le_trans B3.size hb4.size))⟩
    clear c0 c1 c2 D hb5 hb4 T3 T4 B3
    go_wp2_with fail
    refine (implZoneWorld s sh _ _ ts x q _ K.t' hl hs r HR.out HQ).mono ?_
    rintro e w6 ⟨rfl, hb6⟩
    replace K := K.on hb6
    clear hb6
    go_wp2
    go_region_held3 (fun w' => w'.cell? ⟨w.heap.size, 0, none⟩ = some (.string s) ∧ w'.cell? ⟨w.heap.size, 1, none⟩ = some (.int .i64 sh) ∧ w'.cell? ⟨w.heap.size, 2, none⟩ = some (.slice a ts.length cap) ∧ w'.cell? ⟨w4.heap.size, 0, none⟩ = some (.string s) ∧ w'.cell? ⟨w4.heap.size, 1, none⟩ = some (.int .i64 sh) ∧ w'.cell? ⟨w4.heap.size, 2, none⟩ = some (.slice (some ⟨g2, 0, none⟩) ts.length ts.length) ∧ IsTurns w' a ts ∧ IsTurns w' (some ⟨g2, 0, none⟩) ts ∧ Below w.heap.size w w')
      (first | assumption | exact ZK.on K (Below.refl _ _).drew | exact ZK.on (by assumption) hb7)
      (first
        | (go_at_call 26; refine (lawToZone s sh a cap ts _ (ZK.t (by assumption)) hl).mono ?_; rintro e w7 ⟨g3, rfl, T7, hb7⟩)
        | (go_at_call 28; refine (lawEqZone s sh _ _ _ _ ts _ (ZK.t' (by assumption)) T7 hl).mono ?_; rintro e w8 ⟨rfl, hb7⟩))
    go_wp2
    go_ret
    exact ⟨rfl, ZK.b (by assumption)⟩
  · have hv : szz s ts.length = -1 := if_neg hz
    rw [hv]
    go_wp2
    go_ret
    exact ⟨rfl, B⟩
end Go.Proofs.Ytihklmbblbnihaa
