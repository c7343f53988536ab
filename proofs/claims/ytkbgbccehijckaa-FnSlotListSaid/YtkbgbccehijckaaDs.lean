/- Spans, as they are drawn. -/
import Derived.Test.YtkbgbccehijckaaSm
import Derived.Test.YtkbgbccehijckaaRd
namespace Go.Proofs.Ytkbgbccehijckaa
open Go.RowKit
set_option linter.unusedVariables false
theorem OP.but {w w' : World} {rb B : Nat} {T : TypeId} {v : Value} {ts : List (Int × Int)} (h : OP w B T v ts) (hB : rb < B) (hb : But rb w.heap.size w w') : OP w' B T v ts := by
  obtain ⟨h1, h2⟩ := h
  refine ⟨h1, ?_⟩
  rcases h2 with h2 | ⟨g, cap, cur, hv, hg, hh, r⟩
  · exact .inl h2
  · exact .inr ⟨g, cap, cur, hv, hg, by rw [hb.block g (Array.getElem?_eq_some_iff.1 hh).1 (by omega)]; exact hh, r⟩
theorem Rd.under {w w' : World} {rb L : Nat} (h : Rd w rb L) (hb : Below (rb + 1) w w') : Rd w' rb L := by
  obtain ⟨p, a, len, cap, h0, h1, h2, h3, h4, h5, h6, h7⟩ := h
  refine ⟨p, a, len, cap, h0, h1, h2, Nat.lt_of_lt_of_le h3 hb.size, ?_, ?_, ?_, ?_⟩
  · rw [hb.cell (p := ⟨rb, 0, none⟩) (by simp)]; exact h4
  · rw [hb.cell (p := ⟨rb, 1, none⟩) (by simp)]; exact h5
  · rw [hb.frozen (p := ⟨rb, 1, none⟩) (by simp)]; exact h6
  · rcases h7 with h7 | ⟨b, off, h8, h9, h11⟩
    · exact .inl h7
    · refine .inr ⟨b, off, h8, h9, fun i hi => ?_⟩
      obtain ⟨z, z0, z1, z2⟩ := h11 i hi
      exact ⟨z, z0, z1, by rw [hb.cell (p := ⟨b, off + i, none⟩) (by simp; omega)]; exact z2⟩
/-- Small spans. -/
def SmS (ss : List (Int × Int)) : Prop := ∀ s ∈ ss, (-1 ≤ s.1 ∧ s.1 ≤ 1000) ∧ 0 ≤ s.2 ∧ s.2 ≤ 1000
theorem SmS.snoc {ss : List (Int × Int)} (h : SmS ss) {x y : Int} (hx : -1 ≤ x ∧ x ≤ 1000) (hy : 0 ≤ y ∧ y ≤ 1000) : SmS (ss ++ [(x, y)]) := by
  intro s hs
  rcases List.mem_append.1 hs with hs | hs
  · exact h s hs
  · simp at hs; subst hs; exact ⟨hx, hy⟩
theorem SmS.nil : SmS [] := fun s hs => by simp at hs
/-- What stands while spans are drawn. -/
structure DS (w : World) (rb L : Nat) (v : Value) (ss : List (Int × Int)) (W : World) : Prop where
  own : OP W w.heap.size 51 v ss
  rd : Rd W rb L
  but : But rb w.heap.size w W
  sm : SmS ss
theorem DS.picked {w W W' : World} {rb L L' : Nat} {v : Value} {ss : List (Int × Int)} (h : DS w rb L v ss W) (hr : rb < w.heap.size) (rd : Rd W' rb L') (hb : But rb W.heap.size W W') : DS w rb L' v ss W' :=
  ⟨h.own.but hr hb, rd, h.but.trans (hb.mono h.but.size), h.sm⟩
set_option maxRecDepth 100000 in
set_option maxHeartbeats 8000000 in
theorem spans_any (w : World) (rb L : Nat) (h : Rd w rb L) (hL : L ≤ 1099511620000) :
    Calls Try.prog 63 #[.pointer (some ⟨rb, 0, none⟩)] w fun e w' => ∃ v, e = .returned v ∧ ∃ ss, DS w rb (L + 14) v ss w' ∧ List.length ss ≤ 6 := by
  obtain ⟨i0, hi, hz0, hz1, hz2⟩ := info_parts spanInfo
  have hrb := h.size
  have D0 : DS w rb L (.slice (some ⟨w.heap.size, 0, none⟩) 0 0) [] (w.alloc (.cells #[] 51)) :=
    ⟨by have := OP.made w 51 [] #[] rfl (by simp); simpa using this, h.below ((Below.refl _ _).alloc (Nat.le_refl _) _), But.of_below ((Below.refl _ _).alloc (Nat.le_refl _) _), SmS.nil⟩
  have HD0 : Hid (DS w rb L (.slice (some ⟨w.heap.size, 0, none⟩) 0 0) [] (w.alloc (.cells #[] 51))) := D0
  clear D0 h
  go_enter Try.func63, Try.ntmps63
  go_wp2_with fail
  refine (pick_pos _ _ rb L HD0.out.rd (by omega) (by omega)).mono ?_
  rintro e w1 ⟨⟨q, rfl, q0, q1⟩, r1, b1⟩
  have HD1 : Hid (DS w rb (L + 1) (.slice (some ⟨w.heap.size, 0, none⟩) 0 0) [] w1) := HD0.out.picked hrb r1 b1
  clear r1 b1 HD0
  go_wp2_with fail
  refine (pick_pos _ _ rb (L + 1) HD1.out.rd (by omega) (by omega)).mono ?_
  rintro e w2 ⟨⟨m, rfl, m0, m1⟩, r2, b2⟩
  have HD2 : Hid (DS w rb (L + 2) (.slice (some ⟨w.heap.size, 0, none⟩) 0 0) [] w2) := HD1.out.picked hrb r2 b2
  clear r2 b2 HD1
  go_wp2
  go_loopw [3, 4, 5, 6] (fun ov av nv _ wr => ∃ (ss : List (Int × Int)) (g c : Nat) (A N : Int), ov = .slice (some ⟨g, 0, none⟩) ss.length c ∧ av = .int .i64 A ∧ nv = .int .i64 N ∧ 0 ≤ N ∧ N + ss.length = m ∧ 0 ≤ A ∧ A ≤ 255 + 100 * ss.length ∧ DS w rb (L + 2 + 2 * ss.length) (.slice (some ⟨g, 0, none⟩) ss.length c) ss wr) (fun _ _ nv _ _ => (intOf nv).toNat)
  case atStart => exact ⟨[], w.heap.size, 0, q, m, rfl, rfl, rfl, m0, by simp, q0, by simp; omega, HD2.out⟩
  case round =>
    obtain ⟨ss, g, c, A, N, rfl, rfl, rfl, hN0, hNm, hA0, hA1, hD⟩ := hrel
    have HD : Hid (DS w rb (L + 2 + 2 * ss.length) (.slice (some ⟨g, 0, none⟩) ss.length c) ss wr) := hD
    have HNM : Hid (N + ss.length = m) := hNm
    have l6 : ss.length ≤ 6 := by omega
    have n7 : N ≤ 7 := by omega
    clear hD
    by_cases hlt : 0 < N
    · have g1 := IntWalk.i64_in (A + 1) (by omega)
      go_wp2_with fail
      refine (pick_pos _ _ rb _ HD.out.rd (by omega) (by omega)).mono ?_
      rintro e WA ⟨⟨p, rfl, p0, p1⟩, RA, b3⟩
      have DA := HD.out.picked hrb RA b3
      have OA : Hid (OP WA w.heap.size 51 (.slice (some ⟨g, 0, none⟩) ss.length c) ss) := DA.own
      have BA := DA.but
      have SM : Hid (SmS ss) := DA.sm
      have g2 := IntWalk.i64_in (A + 1 + p) (by omega)
      have g3 := IntWalk.i64_in (A + 1 + p + 1) (by omega)
      clear DA b3 HD hNm
      go_wp2_with (first | (at_builtin; refine wpList_append_lies _ rfl _ _ _ rfl w.heap.size 51 i0 (.agg #[.int .i64 0, .int .i64 0]) 2 16 Try.underlying24 hi hz0 hz1 hz2 rfl (by omega) _ ss.length (pcs ss) rfl (World.ownsRow.alloc OA.out _) ⟨_, 0, none⟩ 1 1 [.int .i64 _, .int .i64 _] rfl rfl (World.news_of_block (heap_alloc_new WA _)) (by simp [Value.oneCell']) (by omega) (by unfold maxLen; omega) (by omega) (by simp; have := BA.size; omega) _ rfl ?_; intro g4 c4 w4 hown hgrow hat hlt4; have HO4 : Hid (OP w4 w.heap.size 51 (.slice (some ⟨g4, 0, none⟩) (ss.length + 1) c4) (ss ++ [(A, A + 1 + p)])) := OP.snoc hown rfl; have LB4 : Below w.heap.size WA w4 := grown_own OA.out ⟨Below.refl _ _, BA.size⟩ hgrow; have B4 : But rb w.heap.size w w4 := BA.trans (But.of_below LB4); have R4 := RA.under (LB4.mono (by omega)); clear hown hgrow hat LB4))
      refine (pick_pos _ _ rb _ R4 (by omega) (by omega)).mono ?_
      rintro e w5 ⟨⟨p', rfl, p0', p1'⟩, R5, b5⟩
      have D5 : DS w rb (L + 2 + 2 * ss.length + 1) (.slice (some ⟨g4, 0, none⟩) (ss.length + 1) c4) (ss ++ [(A, A + 1 + p)]) w4 := ⟨HO4.out, R4, B4, SM.out.snoc (by omega) (by omega)⟩
      have D6 := D5.picked hrb R5 b5
      have HD6 : Hid (DS w rb (L + 2 + 2 * (ss ++ [(A, A + 1 + p)]).length) (.slice (some ⟨g4, 0, none⟩) (ss.length + 1) c4) (ss ++ [(A, A + 1 + p)]) w5) := by
        unfold Hid
        have e : L + 2 + 2 * (ss ++ [(A, A + 1 + p)]).length = L + 2 + 2 * ss.length + 1 + 1 := by rw [List.length_append]; simp; omega
        rw [e]; exact D6
      have g4' := IntWalk.i64_in (A + 1 + p + 1 + p') (by omega)
      have g5 := IntWalk.i64_in (N - 1) (by omega)
      have HLN : Hid ((ss ++ [(A, A + 1 + p)]).length = ss.length + 1) := by unfold Hid; simp
      clear D5 D6 R5 b5 R4 B4 HO4 OA BA RA SM
      go_wp2
      go_roundw
      case rel => exact ⟨ss ++ [(A, A + 1 + p)], g4, c4, A + 1 + p + 1 + p', N - 1, by rw [HLN.out], rfl, rfl, by omega, by have := HNM.out; rw [HLN.out]; omega, by omega, by rw [HLN.out]; omega, by have q := HD6.out; rw [HLN.out] at q ⊢; exact q⟩
      case measure => simp [intOf]; omega
    · have HF : Hid (DS w rb (L + 14) (.slice (some ⟨g, 0, none⟩) ss.length c) ss wr) := ⟨HD.out.own, HD.out.rd.mono (by omega), HD.out.but, HD.out.sm⟩
      go_wp2
      go_ret
      exact ⟨_, rfl, ss, HF.out, l6⟩
set_option maxRecDepth 100000 in
set_option maxHeartbeats 8000000 in
theorem anyspans_any (w : World) (rb L : Nat) (h : Rd w rb L) (hL : L ≤ 1099511610000) :
    Calls Try.prog 51 #[.pointer (some ⟨rb, 0, none⟩)] w fun e w' => ∃ v, e = .returned v ∧ ∃ ss, DS w rb (L + 17) v ss w' ∧ List.length ss ≤ 7 := by
  obtain ⟨i0, hi, hz0, hz1, hz2⟩ := info_parts spanInfo
  have hrb := h.size
  go_enter Try.func51, Try.ntmps51
  go_wp2_with fail
  refine (spans_any _ rb L h (by omega)).mono ?_
  rintro e w1 ⟨v, rfl, ss, D1, l6⟩
  obtain ⟨a1, c1, rfl⟩ := D1.own.shape0
  have HD1 : Hid (DS w rb (L + 14) (.slice a1 ss.length c1) ss w1) := D1
  clear D1
  go_wp2_with fail
  refine (pick_pos _ _ rb _ HD1.out.rd (by omega) (by omega)).mono ?_
  rintro e w2 ⟨⟨m, rfl, m0, m1⟩, r2, b2⟩
  have HD2 : Hid (DS w rb (L + 15) (.slice a1 ss.length c1) ss w2) := HD1.out.picked hrb r2 b2
  clear r2 b2 HD1
  by_cases e0 : m = 0
  · subst e0
    go_wp2_with fail
    refine (pick_pos _ _ rb _ HD2.out.rd (by omega) (by omega)).mono ?_
    rintro e w3 ⟨⟨x, rfl, x0, x1⟩, r3, b3⟩
    have HD3 : Hid (DS w rb (L + 16) (.slice a1 ss.length c1) ss w3) := HD2.out.picked hrb r3 b3
    clear r3 b3 HD2
    go_wp2_with fail
    refine (pick_pos _ _ rb _ HD3.out.rd (by omega) (by omega)).mono ?_
    rintro e WA ⟨⟨y, rfl, y0, y1⟩, RA, b4⟩
    have DA := HD3.out.picked hrb RA b4
    have OA : Hid (OP WA w.heap.size 51 (.slice a1 ss.length c1) ss) := DA.own
    have BA := DA.but
    have SM : Hid (SmS ss) := DA.sm
    clear DA b4 HD3
    go_wp2_with (first | (at_builtin; refine wpList_append_lies _ rfl _ _ _ rfl w.heap.size 51 i0 (.agg #[.int .i64 0, .int .i64 0]) 2 16 Try.underlying24 hi hz0 hz1 hz2 rfl (by omega) _ ss.length (pcs ss) rfl (World.ownsRow.alloc OA.out _) ⟨_, 0, none⟩ 1 1 [.int .i64 _, .int .i64 _] rfl rfl (World.news_of_block (heap_alloc_new WA _)) (by simp [Value.oneCell']) (by omega) (by unfold maxLen; omega) (by omega) (by simp; have := BA.size; omega) _ rfl ?_; intro g4 c4 w4 hown hgrow hat hlt4; have HO4 : Hid (OP w4 w.heap.size 51 (.slice (some ⟨g4, 0, none⟩) (ss.length + 1) c4) (ss ++ [(x, y)])) := OP.snoc hown rfl; have LB4 : Below w.heap.size WA w4 := grown_own OA.out ⟨Below.refl _ _, BA.size⟩ hgrow; have B4 : But rb w.heap.size w w4 := BA.trans (But.of_below LB4); have R4 := RA.under (LB4.mono (by omega)); clear hown hgrow hat LB4))
    have HF : Hid (DS w rb (L + 17) (.slice (some ⟨g4, 0, none⟩) (ss.length + 1) c4) (ss ++ [(x, y)]) w4) := ⟨HO4.out, R4, B4, SM.out.snoc (by omega) (by omega)⟩
    go_ret
    exact ⟨_, rfl, _, HF.out, by simp; omega⟩
  · have n0 : (m == 0) = false := beq_eq_false_iff_ne.2 e0
    by_cases e1 : m = 1
    · subst e1
      have OA : Hid (OP w2 w.heap.size 51 (.slice a1 ss.length c1) ss) := HD2.out.own
      have BA := HD2.out.but
      have RA := HD2.out.rd
      have SM : Hid (SmS ss) := HD2.out.sm
      clear HD2
      go_wp2_with (first | (at_builtin; refine wpList_append_lies _ rfl _ _ _ rfl w.heap.size 51 i0 (.agg #[.int .i64 0, .int .i64 0]) 2 16 Try.underlying24 hi hz0 hz1 hz2 rfl (by omega) _ ss.length (pcs ss) rfl (World.ownsRow.alloc OA.out _) ⟨_, 0, none⟩ 1 1 [.int .i64 _, .int .i64 _] rfl rfl (World.news_of_block (heap_alloc_new w2 _)) (by simp [Value.oneCell']) (by omega) (by unfold maxLen; omega) (by omega) (by simp; have := BA.size; omega) _ rfl ?_; intro g4 c4 w4 hown hgrow hat hlt4; have HO4 : Hid (OP w4 w.heap.size 51 (.slice (some ⟨g4, 0, none⟩) (ss.length + 1) c4) (ss ++ [(-1, 5)])) := OP.snoc hown rfl; have LB4 : Below w.heap.size w2 w4 := grown_own OA.out ⟨Below.refl _ _, BA.size⟩ hgrow; have B4 : But rb w.heap.size w w4 := BA.trans (But.of_below LB4); have R4 := RA.under (LB4.mono (by omega)); clear hown hgrow hat LB4))
      have HF : Hid (DS w rb (L + 17) (.slice (some ⟨g4, 0, none⟩) (ss.length + 1) c4) (ss ++ [(-1, 5)]) w4) := ⟨HO4.out, R4.mono (by omega), B4, SM.out.snoc (by omega) (by omega)⟩
      go_ret
      exact ⟨_, rfl, _, HF.out, by simp; omega⟩
    · have n1 : (m == 1) = false := beq_eq_false_iff_ne.2 e1
      have HF : Hid (DS w rb (L + 17) (.slice a1 ss.length c1) ss w2) := ⟨HD2.out.own, HD2.out.rd.mono (by omega), HD2.out.but, HD2.out.sm⟩
      go_wp2
      go_ret
      exact ⟨_, rfl, _, HF.out, by omega⟩
end Go.Proofs.Ytkbgbccehijckaa
