/- What the specification draws for the calendar's laws. -/
import Derived.Test.YtbbbmdidmnhpmaaDoorDr
namespace Go.Proofs.YtbbbmdidmnhpmaaDoor
open Go.RowKit
set_option linter.unusedVariables false

/-- A date lies in block b. -/
structure Dat (w : World) (b : Nat) (x y z : Int) : Prop where
  lt : b < w.heap.size
  c0 : w.cell? ⟨b, 0, none⟩ = some (.int .i64 x)
  c1 : w.cell? ⟨b, 1, none⟩ = some (.int .i64 y)
  c2 : w.cell? ⟨b, 2, none⟩ = some (.int .i64 z)
  f0 : w.frozen? ⟨b, 0, none⟩ = false
  f1 : w.frozen? ⟨b, 1, none⟩ = false
  f2 : w.frozen? ⟨b, 2, none⟩ = false
theorem Dat.new (w : World) (x y z : Int) (T : TypeId) : Dat (w.alloc (.cells #[.int .i64 x, .int .i64 y, .int .i64 z] T)) w.heap.size x y z :=
  ⟨by simp, by simp, by simp, by simp, by simp, by simp, by simp⟩
theorem Dat.but {w w' : World} {b : Nat} {x y z : Int} (h : Dat w b x y z) {rb : Nat} (hb : But rb w.heap.size w w') (hne : b ≠ rb) : Dat w' b x y z := by
  obtain ⟨lt, c0, c1, c2, f0, f1, f2⟩ := h
  refine ⟨Nat.lt_of_lt_of_le lt hb.size, ?_, ?_, ?_, ?_, ?_, ?_⟩
  · rw [hb.cell (p := ⟨b, 0, none⟩) lt hne]; exact c0
  · rw [hb.cell (p := ⟨b, 1, none⟩) lt hne]; exact c1
  · rw [hb.cell (p := ⟨b, 2, none⟩) lt hne]; exact c2
  · rw [hb.frozen (p := ⟨b, 0, none⟩) lt hne]; exact f0
  · rw [hb.frozen (p := ⟨b, 1, none⟩) lt hne]; exact f1
  · rw [hb.frozen (p := ⟨b, 2, none⟩) lt hne]; exact f2
theorem Dat.below {w w' : World} {b : Nat} {x y z : Int} (h : Dat w b x y z) (hb : Below w.heap.size w w') : Dat w' b x y z :=
  h.but (rb := b + 1) (But.of_below hb) (by omega)
theorem Dat.alloc {w : World} {b : Nat} {x y z : Int} (h : Dat w b x y z) (o : Obj) : Dat (w.alloc o) b x y z := h.below ((Below.refl _ _).alloc (Nat.le_refl _) _)
set_option maxHeartbeats 4000000 in
theorem anydate_any (w : World) (rb L : Nat) (h : Rd w rb L) (hL : L ≤ 1099511624000) :
    Calls Tryd.prog 24 #[.pointer (some ⟨rb, 0, none⟩)] w fun e w' => (∃ y m d : Int, e = .returned (.agg #[.int .i64 y, .int .i64 m, .int .i64 d]) ∧ 0 ≤ y ∧ y ≤ 10000 ∧ 0 ≤ m ∧ m ≤ 13 ∧ 0 ≤ d ∧ d ≤ 32) ∧ Rd w' rb (L + 8) ∧ But rb w.heap.size w w' := by
  have hs := h.size
  have D0 := Dat.new w 0 0 0 24
  have b0 : But rb w.heap.size w (w.alloc (.cells #[.int .i64 0, .int .i64 0, .int .i64 0] 24)) := (But.refl _ _ _).alloc (Nat.le_refl _) _
  go_enter Tryd.func24, Tryd.ntmps24
  go_wp2_with fail
  refine (date_any _ rb L (h.below ((Below.refl _ _).alloc (Nat.le_refl _) _)) (by omega)).mono ?_
  rintro e w1 ⟨⟨y, m, d, rfl, ok⟩, hr1, hb1⟩
  have D1 := D0.but hb1 (by omega)
  have D1' := D1.alloc (.cells #[.int .i64 y, .int .i64 m, .int .i64 d] 24)
  have E1 := Dat.new w1 y m d 24
  have bd : 0 ≤ y ∧ y ≤ 10000 ∧ 0 ≤ m ∧ m ≤ 13 ∧ 0 ≤ d ∧ d ≤ 32 := by
    have := (okD_iff _ _ _).1 ok
    have := dim_bd y m
    omega
  have hrw := hr1.size
  have b1 : But rb w.heap.size w (w1.alloc (.cells #[.int .i64 y, .int .i64 m, .int .i64 d] 24)) := (b0.trans (hb1.mono (by simp))).alloc (by have := hb1.size; simp at this; omega) _
  have hr1' : Rd (w1.alloc (.cells #[.int .i64 y, .int .i64 m, .int .i64 d] 24)) rb (L + 6) := hr1.below ((Below.refl _ _).alloc (Nat.le_refl _) _)
  have hw1 : w.heap.size < w1.heap.size := D1.lt
  clear ok D0 D1 b0 hb1 hr1 h
  go_wp2_with fail
  refine (pick_pos _ _ rb _ hr1' (by omega) (by omega)).mono ?_
  rintro e w2 ⟨⟨k, rfl, k0, k1⟩, hr2, hb2⟩
  have D2 := D1'.but hb2 (by omega)
  have E2 := E1.but hb2 (by omega)
  have b2 : But rb w.heap.size w w2 := b1.trans (hb2.mono (by simp; omega))
  clear D1' E1 hb2 b1 hr1'
  by_cases q0 : k = 0
  · subst q0
    go_wp2_with fail
    refine (one_list w2 rb _ hr2 (by omega) 5 [0, 29, 30, 31, 32] rfl (by omega) (by omega) _ rfl).mono ?_
    rintro e w3 ⟨⟨r, rfl, hr⟩, hr3, hb3⟩
    have rbd : 0 ≤ r ∧ r ≤ 32 := by simp only [List.mem_cons, List.not_mem_nil, or_false] at hr; omega
    obtain ⟨dl, dc0, dc1, dc2, df0, df1, df2⟩ := D2.but hb3 (by omega)
    obtain ⟨el, ec0, ec1, ec2, ef0, ef1, ef2⟩ := E2.but hb3 (by omega)
    have b3 : But rb w.heap.size w w3 := b2.trans (hb3.mono (by have := D2.lt; omega))
    clear D2 E2 hb3 b2 hr2 hr
    go_wp2
    refine bodyPost_ret (v := .agg #[.int .i64 y, .int .i64 m, .int .i64 r]) (by simp [results, Tryd.results24, go_sem, *]) rfl ⟨⟨y, m, r, rfl, by omega⟩, ?_, ?_⟩
    · exact ((((hr3.setCell (p := ⟨w1.heap.size, 2, none⟩) hrw _).setCell (p := ⟨w.heap.size, 0, none⟩) hs _).setCell (p := ⟨w.heap.size, 1, none⟩) hs _).setCell (p := ⟨w.heap.size, 2, none⟩) hs _).mono (by omega)
    · exact (((b3.setCell (p := ⟨w1.heap.size, 2, none⟩) (.inl (Nat.le_of_lt hw1)) _).setCell (p := ⟨w.heap.size, 0, none⟩) (.inl (Nat.le_refl _)) _).setCell (p := ⟨w.heap.size, 1, none⟩) (.inl (Nat.le_refl _)) _).setCell (p := ⟨w.heap.size, 2, none⟩) (.inl (Nat.le_refl _)) _
  · have hq0 : (k == 0) = false := by simp; omega
    by_cases q1 : k = 1
    · subst q1
      go_wp2_with fail
      refine (one_list w2 rb _ hr2 (by omega) 3 [0, 13, 2] rfl (by omega) (by omega) _ rfl).mono ?_
      rintro e w3 ⟨⟨r, rfl, hr⟩, hr3, hb3⟩
      have rbd : 0 ≤ r ∧ r ≤ 13 := by simp only [List.mem_cons, List.not_mem_nil, or_false] at hr; omega
      obtain ⟨dl, dc0, dc1, dc2, df0, df1, df2⟩ := D2.but hb3 (by omega)
      obtain ⟨el, ec0, ec1, ec2, ef0, ef1, ef2⟩ := E2.but hb3 (by omega)
      have b3 : But rb w.heap.size w w3 := b2.trans (hb3.mono (by have := D2.lt; omega))
      clear D2 E2 hb3 b2 hr2 hr
      go_wp2
      refine bodyPost_ret (v := .agg #[.int .i64 y, .int .i64 r, .int .i64 d]) (by simp [results, Tryd.results24, go_sem, *]) rfl ⟨⟨y, r, d, rfl, by omega⟩, ?_, ?_⟩
      · exact ((((hr3.setCell (p := ⟨w1.heap.size, 1, none⟩) hrw _).setCell (p := ⟨w.heap.size, 0, none⟩) hs _).setCell (p := ⟨w.heap.size, 1, none⟩) hs _).setCell (p := ⟨w.heap.size, 2, none⟩) hs _).mono (by omega)
      · exact (((b3.setCell (p := ⟨w1.heap.size, 1, none⟩) (.inl (Nat.le_of_lt hw1)) _).setCell (p := ⟨w.heap.size, 0, none⟩) (.inl (Nat.le_refl _)) _).setCell (p := ⟨w.heap.size, 1, none⟩) (.inl (Nat.le_refl _)) _).setCell (p := ⟨w.heap.size, 2, none⟩) (.inl (Nat.le_refl _)) _
    · have hq1 : (k == 1) = false := by simp; omega
      by_cases q2 : k = 2
      · subst q2
        go_wp2_with fail
        refine (one_list w2 rb _ hr2 (by omega) 2 [0, 10000] rfl (by omega) (by omega) _ rfl).mono ?_
        rintro e w3 ⟨⟨r, rfl, hr⟩, hr3, hb3⟩
        have rbd : 0 ≤ r ∧ r ≤ 10000 := by simp only [List.mem_cons, List.not_mem_nil, or_false] at hr; omega
        obtain ⟨dl, dc0, dc1, dc2, df0, df1, df2⟩ := D2.but hb3 (by omega)
        obtain ⟨el, ec0, ec1, ec2, ef0, ef1, ef2⟩ := E2.but hb3 (by omega)
        have b3 : But rb w.heap.size w w3 := b2.trans (hb3.mono (by have := D2.lt; omega))
        clear D2 E2 hb3 b2 hr2 hr
        go_wp2
        refine bodyPost_ret (v := .agg #[.int .i64 r, .int .i64 m, .int .i64 d]) (by simp [results, Tryd.results24, go_sem, *]) rfl ⟨⟨r, m, d, rfl, by omega⟩, ?_, ?_⟩
        · exact ((((hr3.setCell (p := ⟨w1.heap.size, 0, none⟩) hrw _).setCell (p := ⟨w.heap.size, 0, none⟩) hs _).setCell (p := ⟨w.heap.size, 1, none⟩) hs _).setCell (p := ⟨w.heap.size, 2, none⟩) hs _).mono (by omega)
        · exact (((b3.setCell (p := ⟨w1.heap.size, 0, none⟩) (.inl (Nat.le_of_lt hw1)) _).setCell (p := ⟨w.heap.size, 0, none⟩) (.inl (Nat.le_refl _)) _).setCell (p := ⟨w.heap.size, 1, none⟩) (.inl (Nat.le_refl _)) _).setCell (p := ⟨w.heap.size, 2, none⟩) (.inl (Nat.le_refl _)) _
      · have hq2 : (k == 2) = false := by simp; omega
        obtain ⟨dl, dc0, dc1, dc2, df0, df1, df2⟩ := D2
        obtain ⟨el, ec0, ec1, ec2, ef0, ef1, ef2⟩ := E2
        go_wp2
        refine bodyPost_ret (v := .agg #[.int .i64 y, .int .i64 m, .int .i64 d]) (by simp [results, Tryd.results24, go_sem, *]) rfl ⟨⟨y, m, d, rfl, by omega⟩, ?_, ?_⟩
        · exact (((hr2.setCell (p := ⟨w.heap.size, 0, none⟩) hs _).setCell (p := ⟨w.heap.size, 1, none⟩) hs _).setCell (p := ⟨w.heap.size, 2, none⟩) hs _).mono (by omega)
        · exact ((b2.setCell (p := ⟨w.heap.size, 0, none⟩) (.inl (Nat.le_refl _)) _).setCell (p := ⟨w.heap.size, 1, none⟩) (.inl (Nat.le_refl _)) _).setCell (p := ⟨w.heap.size, 2, none⟩) (.inl (Nat.le_refl _)) _
set_option maxHeartbeats 1000000 in
theorem drawDateText (w : World) (a : Option Addr) (len cap : Nat) (h : IsCode w a len cap) :
    Calls Tryd.prog 9 #[.slice a len cap] w fun e w' => (∃ y m d : Int, e = .returned (.agg #[.int .i64 y, .int .i64 m, .int .i64 d]) ∧ 0 ≤ y ∧ y ≤ 10000 ∧ 0 ≤ m ∧ m ≤ 13 ∧ 0 ≤ d ∧ d ≤ 32) ∧ Below w.heap.size w w' := by
  have D0 := Dat.new w 0 0 0 24
  have b0 : Below w.heap.size w (w.alloc (.cells #[.int .i64 0, .int .i64 0, .int .i64 0] 24)) := (Below.refl _ _).alloc (Nat.le_refl _) _
  have hcode := h.below b0
  clear h
  go_enter Tryd.func9, Tryd.ntmps9
  go_wp2_with fail
  refine (open_any _ a len cap hcode).mono ?_
  rintro e w1 ⟨rfl, hr1, hb1⟩
  have D1 := D0.below hb1
  simp only [World.size_alloc] at hr1 ⊢
  go_wp2_with fail
  refine (anydate_any _ _ 0 hr1 (by omega)).mono ?_
  rintro e w2 ⟨⟨y, m, d, rfl, bd⟩, hr2, hb2⟩
  obtain ⟨dl, dc0, dc1, dc2, df0, df1, df2⟩ := D1.but hb2 (by omega)
  have hb : Below w.heap.size w w2 := (bstep b0 hb1).trans ((hb2.mono (by have := D1.lt; omega)).below (by omega))
  clear D0 D1 b0 hb1 hb2 hr1 hr2 hcode
  go_wp2
  refine bodyPost_ret (v := .agg #[.int .i64 y, .int .i64 m, .int .i64 d]) (by simp [results, Tryd.results9, go_sem, *]) rfl ⟨⟨y, m, d, rfl, bd⟩, ?_⟩
  exact ((hb.setCell (p := ⟨w.heap.size, 0, none⟩) (Nat.le_refl _) _).setCell (p := ⟨w.heap.size, 1, none⟩) (Nat.le_refl _) _).setCell (p := ⟨w.heap.size, 2, none⟩) (Nat.le_refl _) _
end Go.Proofs.YtbbbmdidmnhpmaaDoor
