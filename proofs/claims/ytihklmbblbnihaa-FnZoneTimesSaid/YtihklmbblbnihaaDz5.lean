/- What the specification draws: a zone and a time, from a code. -/
import Derived.Test.YtihklmbblbnihaaDz4
import Derived.Test.YtihklmbblbnihaaDzD
namespace Go.Proofs.Ytihklmbblbnihaa
open Go.RowKit
set_option linter.unusedVariables false
/-- As DrewZ, the turns in a row of the draw's own making. -/
def DrewO (w : World) (e : Ending) (w' : World) : Prop := ∃ s sh a cap ts x, e = .returned (.tuple #[.agg #[.string s, .int .i64 sh, .slice a (List.length ts) cap], .int .i64 x]) ∧ OT w' w.heap.size (.slice a (List.length ts) cap) ts ∧ List.length ts ≤ 4 ∧ s.size ≤ 100 ∧ Below w.heap.size w w' ∧ Far ts
theorem DrewO.weak {w : World} {e : Ending} {w' : World} (h : DrewO w e w') : DrewZ w e w' := by
  obtain ⟨s, sh, a, cap, ts, x, e, O, r1, r2, r3, r4⟩ := h
  obtain ⟨a6, c6, e6, T6⟩ := OT.turns O
  simp only [Value.slice.injEq, true_and] at e6
  obtain ⟨rfl, rfl⟩ := e6
  exact ⟨s, sh, a, cap, ts, x, e, T6, r1, r2, r3⟩
theorem DrewO.far {w : World} {e : Ending} {w' : World} (h : DrewO w e w') : DrewF w e w' := by
  obtain ⟨s, sh, a, cap, ts, x, e, O, r1, r2, r3, r4⟩ := h
  obtain ⟨a6, c6, e6, T6⟩ := OT.turns O
  simp only [Value.slice.injEq, true_and] at e6
  obtain ⟨rfl, rfl⟩ := e6
  exact ⟨s, sh, a, cap, ts, x, e, T6, r1, r2, r3, fun i hi => r4.at i hi⟩
set_option maxRecDepth 100000 in
set_option maxHeartbeats 16000000 in
theorem drawZoneShift (w : World) (a : Option Addr) (len cap : Nat) (h : IsCode w a len cap) :
    Calls Try.prog 32 #[.slice a len cap] w fun e w' => DrewO w e w' := by
  have b0 : Below w.heap.size w (w.alloc (.cells #[.string ⟨#[]⟩, .int .i64 0, .slice none 0 0] 25)) := (Below.refl _ _).alloc (Nat.le_refl _) _
  have h0 := h.below b0
  have C0 := C3.new w (.string ⟨#[]⟩) (.int .i64 0) (.slice none 0 0) 25
  have F0 : ∀ i, (w.alloc (.cells #[.string ⟨#[]⟩, .int .i64 0, .slice none 0 0] 25)).frozen? ⟨w.heap.size, i, none⟩ = false := fun i => by simp
  have S0 : Hid ((w.alloc (.cells #[.string ⟨#[]⟩, .int .i64 0, .slice none 0 0] 25)).heap.size = w.heap.size + 1) := by simp [Hid]
  clear h
  go_enter Try.func32, Try.ntmps32
  go_wp2_with fail
  generalize w.alloc (.cells #[.string ⟨#[]⟩, .int .i64 0, .slice none 0 0] 25) = W0 at b0 h0 C0 F0 S0 ⊢
  refine (open_any W0 a len cap h0).mono ?_
  rintro e w1 ⟨rfl, hr1, hb1⟩
  go_wp2_with fail
  refine (anyzone_any _ _ 0 hr1 (by omega)).mono ?_
  rintro e w2 ⟨⟨s, sh, v, ts, rfl, O2, l4, sz, far⟩, hr2, hb2⟩
  have FAR : Hid (Far ts) := far
  clear far
  obtain ⟨va, vc, rfl, _⟩ := OT.turns O2
  have q1 := hb1.size
  have q2 := hb2.size
  have rr := hr2.size
  have rR : w.heap.size < W0.heap.size := by rw [S0.out]; omega
  have B2 : Below W0.heap.size W0 w2 := hb1.trans ((hb2.mono q1).below (Nat.le_refl _))
  have OB : OT w2 (W0.heap.size + 1) (.slice va ts.length vc) ts := OT.base O2 (by have := hr1.size; omega)
  have bz : Below w2.heap.size w2 (w2.alloc (.cells #[.string s, .int .i64 sh, .slice va ts.length vc] 25)) := (Below.refl _ _).alloc (Nat.le_refl _) _
  have D := C3.new w2 (.string s) (.int .i64 sh) (.slice va ts.length vc) 25
  have rd3 := hr2.below bz
  have O3 := World.ownsRow.alloc OB (.cells #[.string s, .int .i64 sh, .slice va ts.length vc] 25)
  have B3 := bstep B2 bz
  have S3 : Hid ((w2.alloc (.cells #[.string s, .int .i64 sh, .slice va ts.length vc] 25)).heap.size = w2.heap.size + 1) := by simp [Hid]
  clear hb1 hb2 hr1 hr2 O2 B2 bz OB
  go_wp2
  generalize hW3 : w2.alloc (.cells #[.string s, .int .i64 sh, .slice va ts.length vc] 25) = W3 at D rd3 O3 B3 S3 ⊢
  clear hW3
  have d0 := D.1
  have d1 := D.2.1
  have d2 := D.2.2
  have zl3 := cell_lt d0
  have Rlt : w.heap.size < W3.heap.size := Nat.lt_of_lt_of_le rR B3.size
  have r0 : W3.cell? ⟨w.heap.size, 0, none⟩ = some (.string ⟨#[]⟩) := (B3.cell (p := ⟨w.heap.size, 0, none⟩) rR).trans C0.1
  have r1 : W3.cell? ⟨w.heap.size, 1, none⟩ = some (.int .i64 0) := (B3.cell (p := ⟨w.heap.size, 1, none⟩) rR).trans C0.2.1
  have r2 : W3.cell? ⟨w.heap.size, 2, none⟩ = some (.slice none 0 0) := (B3.cell (p := ⟨w.heap.size, 2, none⟩) rR).trans C0.2.2
  have f0 : ∀ i, W3.frozen? ⟨w.heap.size, i, none⟩ = false := fun i => (B3.frozen (p := ⟨w.heap.size, i, none⟩) rR).trans (F0 i)
  have HF : Hid (∀ i, W3.frozen? ⟨w.heap.size, i, none⟩ = false) := f0
  have HB3 : Hid (Below w.heap.size w W3) := b0.trans (B3.mono b0.size)
  have HO3 : Hid (OT W3 (W0.heap.size + 1) (.slice va ts.length vc) ts) := O3
  have HD : Hid (W0.heap.size < w2.heap.size) := by have := rr; exact this
  clear f0 F0 C0 B3 b0 O3 D
  go_region_with ((go_at_call 52; refine (near_any s sh (.slice va ts.length vc) ts (W0.heap.size + 1) W3.drew W0.heap.size _ (rd3.below (Below.refl _ _).drew) (by omega) (by exact HO3.out) (by omega) (by omega)).mono ?_; rintro e w5 ⟨⟨x, rfl⟩, hr5, hb5'⟩; have hb5 : But W0.heap.size W3.heap.size W3 w5 := ⟨hb5'.os, hb5'.tape, hb5'.output, hb5'.size, hb5'.block⟩; clear hb5'; have k0 := (hb5.cell (p := ⟨w2.heap.size, 0, none⟩) zl3 (by have := HD.out; simp; omega)).trans d0; have k1 := (hb5.cell (p := ⟨w2.heap.size, 1, none⟩) zl3 (by have := HD.out; simp; omega)).trans d1; have k2 := (hb5.cell (p := ⟨w2.heap.size, 2, none⟩) zl3 (by have := HD.out; simp; omega)).trans d2; have s0 := (hb5.cell (p := ⟨w.heap.size, 0, none⟩) Rlt (by simp; omega)).trans r0; have s1 := (hb5.cell (p := ⟨w.heap.size, 1, none⟩) Rlt (by simp; omega)).trans r1; have s2 := (hb5.cell (p := ⟨w.heap.size, 2, none⟩) Rlt (by simp; omega)).trans r2; have u0 := (hb5.frozen (p := ⟨w.heap.size, 0, none⟩) Rlt (by simp; omega)).trans (HF.out 0); have u1 := (hb5.frozen (p := ⟨w.heap.size, 1, none⟩) Rlt (by simp; omega)).trans (HF.out 1); have u2 := (hb5.frozen (p := ⟨w.heap.size, 2, none⟩) Rlt (by simp; omega)).trans (HF.out 2)))
  all_goals
    have O5 := own_but HO3.out (Nat.lt_succ_self _) hb5
    have B5 : Below w.heap.size w w5 := HB3.out.trans ((hb5.mono (Nat.le_of_lt Rlt)).below (Nat.le_of_lt rR))
    have O6 := ownsRow_setCell_below (ownsRow_setCell_below (ownsRow_setCell_below O5 (a := ⟨w.heap.size, 0, none⟩) (by simp; omega) (.string s)) (a := ⟨w.heap.size, 1, none⟩) (by simp; omega) (.int .i64 sh)) (a := ⟨w.heap.size, 2, none⟩) (by simp; omega) (.slice va ts.length vc)
    have B6 := ((B5.setCell (p := ⟨w.heap.size, 0, none⟩) (Nat.le_refl _) (.string s)).setCell (p := ⟨w.heap.size, 1, none⟩) (Nat.le_refl _) (.int .i64 sh)).setCell (p := ⟨w.heap.size, 2, none⟩) (Nat.le_refl _) (.slice va ts.length vc)
    have HT6 : Hid (OT (((w5.setCell ⟨w.heap.size, 0, none⟩ (.string s)).setCell ⟨w.heap.size, 1, none⟩ (.int .i64 sh)).setCell ⟨w.heap.size, 2, none⟩ (.slice va ts.length vc)) w.heap.size (.slice va ts.length vc) ts) := OT.base O6 (by omega)
    clear O5 O6 B5 k0 k1 k2 hr5 hb5
    go_wp2
    exact bodyPost_ret (v := .tuple #[.agg #[.string s, .int .i64 sh, .slice va ts.length vc], .int .i64 x]) (by simp [results, Try.results32, go_sem, s0, s1, s2]) rfl ⟨s, sh, va, vc, ts, x, rfl, HT6.out, l4, sz, B6, FAR.out⟩
set_option maxHeartbeats 4000000 in
theorem drawZoneLocalO (w : World) (a : Option Addr) (len cap : Nat) (h : IsCode w a len cap) :
    Calls Try.prog 10 #[.slice a len cap] w fun e w' => DrewO w e w' := by
  have b0 : Below w.heap.size w (w.alloc (.cells #[.string ⟨#[]⟩, .int .i64 0, .slice none 0 0] 25)) := (Below.refl _ _).alloc (Nat.le_refl _) _
  have h0 := h.below b0
  have C0 := C3.new w (.string ⟨#[]⟩) (.int .i64 0) (.slice none 0 0) 25
  have F0 : ∀ i, (w.alloc (.cells #[.string ⟨#[]⟩, .int .i64 0, .slice none 0 0] 25)).frozen? ⟨w.heap.size, i, none⟩ = false := fun i => by simp
  go_enter Try.func10, Try.ntmps10
  go_wp2_with fail
  generalize w.alloc (.cells #[.string ⟨#[]⟩, .int .i64 0, .slice none 0 0] 25) = W0 at b0 h0 C0 F0 ⊢
  refine (drawZoneShift W0 a len cap h0).mono ?_
  rintro e w1 ⟨s, sh, va, vc, ts, x, rfl, O1, l4, sz, B1, far⟩
  have rR := cell_lt C0.1
  have r0 := (B1.cell (p := ⟨w.heap.size, 0, none⟩) rR).trans C0.1
  have r1 := (B1.cell (p := ⟨w.heap.size, 1, none⟩) rR).trans C0.2.1
  have r2 := (B1.cell (p := ⟨w.heap.size, 2, none⟩) rR).trans C0.2.2
  have f0 := (B1.frozen (p := ⟨w.heap.size, 0, none⟩) rR).trans (F0 0)
  have f1 := (B1.frozen (p := ⟨w.heap.size, 1, none⟩) rR).trans (F0 1)
  have f2 := (B1.frozen (p := ⟨w.heap.size, 2, none⟩) rR).trans (F0 2)
  have B2 := b0.trans (B1.mono b0.size)
  have B6 := ((B2.setCell (p := ⟨w.heap.size, 0, none⟩) (Nat.le_refl _) (.string s)).setCell (p := ⟨w.heap.size, 1, none⟩) (Nat.le_refl _) (.int .i64 sh)).setCell (p := ⟨w.heap.size, 2, none⟩) (Nat.le_refl _) (.slice va ts.length vc)
  have O6 := OT.base (ownsRow_setCell_below (ownsRow_setCell_below (ownsRow_setCell_below O1 (a := ⟨w.heap.size, 0, none⟩) rR (.string s)) (a := ⟨w.heap.size, 1, none⟩) rR (.int .i64 sh)) (a := ⟨w.heap.size, 2, none⟩) rR (.slice va ts.length vc)) (B' := w.heap.size) b0.size
  have HO6 : Hid (OT (((w1.setCell ⟨w.heap.size, 0, none⟩ (.string s)).setCell ⟨w.heap.size, 1, none⟩ (.int .i64 sh)).setCell ⟨w.heap.size, 2, none⟩ (.slice va ts.length vc)) w.heap.size (.slice va ts.length vc) ts) := O6
  clear O6 O1 B1 B2 C0 F0
  go_wp2
  exact bodyPost_ret (v := .tuple #[.agg #[.string s, .int .i64 sh, .slice va ts.length vc], .int .i64 x]) (by simp [results, Try.results10, go_sem, r0, r1, r2]) rfl ⟨s, sh, va, vc, ts, x, rfl, HO6.out, l4, sz, B6, far⟩
theorem drawZoneLocal (w : World) (a : Option Addr) (len cap : Nat) (h : IsCode w a len cap) :
    Calls Try.prog 10 #[.slice a len cap] w fun e w' => DrewZ w e w' := (drawZoneLocalO w a len cap h).mono fun _ _ h => h.weak
set_option maxHeartbeats 4000000 in
theorem drawZoneWorldO (w : World) (a : Option Addr) (len cap : Nat) (h : IsCode w a len cap) :
    Calls Try.prog 22 #[.slice a len cap] w fun e w' => DrewO w e w' := by
  have b0 : Below w.heap.size w (w.alloc (.cells #[.string ⟨#[]⟩, .int .i64 0, .slice none 0 0] 25)) := (Below.refl _ _).alloc (Nat.le_refl _) _
  have h0 := h.below b0
  have C0 := C3.new w (.string ⟨#[]⟩) (.int .i64 0) (.slice none 0 0) 25
  have F0 : ∀ i, (w.alloc (.cells #[.string ⟨#[]⟩, .int .i64 0, .slice none 0 0] 25)).frozen? ⟨w.heap.size, i, none⟩ = false := fun i => by simp
  go_enter Try.func22, Try.ntmps22
  go_wp2_with fail
  generalize w.alloc (.cells #[.string ⟨#[]⟩, .int .i64 0, .slice none 0 0] 25) = W0 at b0 h0 C0 F0 ⊢
  refine (drawZoneShift W0 a len cap h0).mono ?_
  rintro e w1 ⟨s, sh, va, vc, ts, x, rfl, O1, l4, sz, B1, far⟩
  have rR := cell_lt C0.1
  have r0 := (B1.cell (p := ⟨w.heap.size, 0, none⟩) rR).trans C0.1
  have r1 := (B1.cell (p := ⟨w.heap.size, 1, none⟩) rR).trans C0.2.1
  have r2 := (B1.cell (p := ⟨w.heap.size, 2, none⟩) rR).trans C0.2.2
  have f0 := (B1.frozen (p := ⟨w.heap.size, 0, none⟩) rR).trans (F0 0)
  have f1 := (B1.frozen (p := ⟨w.heap.size, 1, none⟩) rR).trans (F0 1)
  have f2 := (B1.frozen (p := ⟨w.heap.size, 2, none⟩) rR).trans (F0 2)
  have B2 := b0.trans (B1.mono b0.size)
  have B6 := ((B2.setCell (p := ⟨w.heap.size, 0, none⟩) (Nat.le_refl _) (.string s)).setCell (p := ⟨w.heap.size, 1, none⟩) (Nat.le_refl _) (.int .i64 sh)).setCell (p := ⟨w.heap.size, 2, none⟩) (Nat.le_refl _) (.slice va ts.length vc)
  have O6 := OT.base (ownsRow_setCell_below (ownsRow_setCell_below (ownsRow_setCell_below O1 (a := ⟨w.heap.size, 0, none⟩) rR (.string s)) (a := ⟨w.heap.size, 1, none⟩) rR (.int .i64 sh)) (a := ⟨w.heap.size, 2, none⟩) rR (.slice va ts.length vc)) (B' := w.heap.size) b0.size
  have HO6 : Hid (OT (((w1.setCell ⟨w.heap.size, 0, none⟩ (.string s)).setCell ⟨w.heap.size, 1, none⟩ (.int .i64 sh)).setCell ⟨w.heap.size, 2, none⟩ (.slice va ts.length vc)) w.heap.size (.slice va ts.length vc) ts) := O6
  clear O6 O1 B1 B2 C0 F0
  go_wp2
  exact bodyPost_ret (v := .tuple #[.agg #[.string s, .int .i64 sh, .slice va ts.length vc], .int .i64 x]) (by simp [results, Try.results22, go_sem, r0, r1, r2]) rfl ⟨s, sh, va, vc, ts, x, rfl, HO6.out, l4, sz, B6, far⟩
theorem drawZoneWorld (w : World) (a : Option Addr) (len cap : Nat) (h : IsCode w a len cap) :
    Calls Try.prog 22 #[.slice a len cap] w fun e w' => DrewZ w e w' := (drawZoneWorldO w a len cap h).mono fun _ _ h => h.weak
set_option maxHeartbeats 4000000 in
theorem drawZoneTimesO (w : World) (a : Option Addr) (len cap : Nat) (h : IsCode w a len cap) :
    Calls Try.prog 17 #[.slice a len cap] w fun e w' => DrewO w e w' := by
  have b0 : Below w.heap.size w (w.alloc (.cells #[.string ⟨#[]⟩, .int .i64 0, .slice none 0 0] 25)) := (Below.refl _ _).alloc (Nat.le_refl _) _
  have h0 := h.below b0
  have C0 := C3.new w (.string ⟨#[]⟩) (.int .i64 0) (.slice none 0 0) 25
  have F0 : ∀ i, (w.alloc (.cells #[.string ⟨#[]⟩, .int .i64 0, .slice none 0 0] 25)).frozen? ⟨w.heap.size, i, none⟩ = false := fun i => by simp
  go_enter Try.func17, Try.ntmps17
  go_wp2_with fail
  generalize w.alloc (.cells #[.string ⟨#[]⟩, .int .i64 0, .slice none 0 0] 25) = W0 at b0 h0 C0 F0 ⊢
  refine (drawZoneShift W0 a len cap h0).mono ?_
  rintro e w1 ⟨s, sh, va, vc, ts, x, rfl, O1, l4, sz, B1, far⟩
  have rR := cell_lt C0.1
  have r0 := (B1.cell (p := ⟨w.heap.size, 0, none⟩) rR).trans C0.1
  have r1 := (B1.cell (p := ⟨w.heap.size, 1, none⟩) rR).trans C0.2.1
  have r2 := (B1.cell (p := ⟨w.heap.size, 2, none⟩) rR).trans C0.2.2
  have f0 := (B1.frozen (p := ⟨w.heap.size, 0, none⟩) rR).trans (F0 0)
  have f1 := (B1.frozen (p := ⟨w.heap.size, 1, none⟩) rR).trans (F0 1)
  have f2 := (B1.frozen (p := ⟨w.heap.size, 2, none⟩) rR).trans (F0 2)
  have B2 := b0.trans (B1.mono b0.size)
  have B6 := ((B2.setCell (p := ⟨w.heap.size, 0, none⟩) (Nat.le_refl _) (.string s)).setCell (p := ⟨w.heap.size, 1, none⟩) (Nat.le_refl _) (.int .i64 sh)).setCell (p := ⟨w.heap.size, 2, none⟩) (Nat.le_refl _) (.slice va ts.length vc)
  have O6 := OT.base (ownsRow_setCell_below (ownsRow_setCell_below (ownsRow_setCell_below O1 (a := ⟨w.heap.size, 0, none⟩) rR (.string s)) (a := ⟨w.heap.size, 1, none⟩) rR (.int .i64 sh)) (a := ⟨w.heap.size, 2, none⟩) rR (.slice va ts.length vc)) (B' := w.heap.size) b0.size
  have HO6 : Hid (OT (((w1.setCell ⟨w.heap.size, 0, none⟩ (.string s)).setCell ⟨w.heap.size, 1, none⟩ (.int .i64 sh)).setCell ⟨w.heap.size, 2, none⟩ (.slice va ts.length vc)) w.heap.size (.slice va ts.length vc) ts) := O6
  clear O6 O1 B1 B2 C0 F0
  go_wp2
  exact bodyPost_ret (v := .tuple #[.agg #[.string s, .int .i64 sh, .slice va ts.length vc], .int .i64 x]) (by simp [results, Try.results17, go_sem, r0, r1, r2]) rfl ⟨s, sh, va, vc, ts, x, rfl, HO6.out, l4, sz, B6, far⟩
theorem drawZoneTimes (w : World) (a : Option Addr) (len cap : Nat) (h : IsCode w a len cap) :
    Calls Try.prog 17 #[.slice a len cap] w fun e w' => DrewZ w e w' := (drawZoneTimesO w a len cap h).mono fun _ _ h => h.weak
end Go.Proofs.Ytihklmbblbnihaa
