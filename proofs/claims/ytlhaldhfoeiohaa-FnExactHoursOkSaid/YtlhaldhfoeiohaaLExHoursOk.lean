/- FnExactHoursOk: the law's own walk. -/
import Derived.Test.YtlhaldhfoeiohaaHb
import Derived.Deep.DeepCutAuto
import Derived.Deep.RegionHeld3
namespace Go.Proofs.Ytlhaldhfoeiohaa
open Go.RowKit
set_option linter.unusedVariables false
structure HKS (X : Nat) (a : Option Addr) (zs : List ZR) (z : ByteArray) (fr t : Int) (b : Option Addr) (bc : Nat) (l : List Int) (W : World) : Prop where
  c : CF W X #[.string z, .int .i64 fr, .int .i64 t, .slice b l.length bc]
  z : IsZones W a zs
  i : IsInts W b l
set_option maxRecDepth 100000 in
set_option maxHeartbeats 16000000 in
theorem lawExHoursOk (a : Option Addr) (cap : Nat) (zs : List ZR) (z : ByteArray) (fr t : Int) (b : Option Addr) (bc : Nat) (l : List Int) (w : World) (hw : ZWide zs) (hzz : z.size ≤ maxLen) (hlm : l.length ≤ maxLen) (hZ : IsZones w a zs) (hI : IsInts w b l) :
    Calls Try.prog 3 #[.slice a zs.length cap, .agg #[.string z, .int .i64 fr, .int .i64 t, .slice b l.length bc]] w fun e w' => e = .returned (.bool true) ∧ Below w.heap.size w w' := by
  obtain ⟨r, hr⟩ : ∃ r : Bool, r = true ↔ HoOk zs z fr t l := by classical exact ⟨decide _, decide_eq_true_iff⟩
  have HR : Hid (r = true ↔ HoOk zs z fr t l) := hr
  have hb0 : Below w.heap.size w (w.alloc (.cells #[.string z, .int .i64 fr, .int .i64 t, .slice b l.length bc] 25)) := (Below.refl _ _).alloc (Nat.le_refl _) _
  have hc0 : CF (w.alloc (.cells #[.string z, .int .i64 fr, .int .i64 t, .slice b l.length bc] 25)) w.heap.size #[.string z, .int .i64 fr, .int .i64 t, .slice b l.length bc] := CF.new _ _ _
  have hk0 : HKS w.heap.size a zs z fr t b bc l (w.alloc (.cells #[.string z, .int .i64 fr, .int .i64 t, .slice b l.length bc] 25)) := ⟨hc0, hZ.below hb0, hI.below hb0⟩
  have HB0 : Hid (Below w.heap.size w (w.alloc (.cells #[.string z, .int .i64 fr, .int .i64 t, .slice b l.length bc] 25))) := hb0
  have HK : Hid (∀ W, Below (w.alloc (.cells #[.string z, .int .i64 fr, .int .i64 t, .slice b l.length bc] 25)).heap.size (w.alloc (.cells #[.string z, .int .i64 fr, .int .i64 t, .slice b l.length bc] 25)) W → HKS w.heap.size a zs z fr t b bc l W) := fun W h => ⟨hk0.c.below h, hk0.z.below h, hk0.i.below h⟩
  clear hr hb0 hc0 hk0 hZ hI
  go_enter Try.func3, Try.ntmps3
  go_wp2_with fail
  generalize w.alloc (.cells #[.string z, .int .i64 fr, .int .i64 t, .slice b l.length bc] 25) = W0 at HK HB0 ⊢
  refine (lawSzZoneS a cap zs W0 (HK.out _ (Below.refl _ _)).z hw).mono ?_
  rintro e w1 ⟨⟨v, rfl, v0, v1, hsm⟩, b1⟩
  have HB1 : Hid (Below W0.heap.size W0 w1) := b1
  clear b1
  by_cases hv : 0 ≤ v
  rotate_left
  · clear hsm
    have hv2 : v < 0 := by omega
    have Bf := HB0.out.trans (HB1.out.mono HB0.out.size)
    go_wp2
    go_ret
    exact ⟨rfl, Bf⟩
  have HS : Hid (ZSmall zs) := hsm hv
  have hvn : ¬ v < 0 := by omega
  clear hsm
  have Kx := (HK.out _ HB1.out).c
  have x0 : World.cell? w1 ⟨w.heap.size, 0, none⟩ = some (.string z) := (Kx.2 0 _ rfl).1
  have x1 : World.cell? w1 ⟨w.heap.size, 1, none⟩ = some (.int .i64 fr) := (Kx.2 1 _ rfl).1
  have x2 : World.cell? w1 ⟨w.heap.size, 2, none⟩ = some (.int .i64 t) := (Kx.2 2 _ rfl).1
  have x3 : World.cell? w1 ⟨w.heap.size, 3, none⟩ = some (.slice b l.length bc) := (Kx.2 3 _ rfl).1
  clear Kx
  go_wp2_with fail
  refine (lawSzHours z fr t b bc l v w1 hzz hlm hv v1).mono ?_
  rintro e w2 ⟨⟨v2, rfl, hv2⟩, b2⟩
  have HB2 : Hid (Below W0.heap.size W0 w2) := bstep HB1.out b2
  clear b2 x0 x1 x2 x3
  by_cases h2 : 0 ≤ v2
  rotate_left
  · have h3 : v2 < 0 := by omega
    have Bf := HB0.out.trans (HB2.out.mono HB0.out.size)
    clear hv2
    go_wp2
    go_ret
    exact ⟨rfl, Bf⟩
  have h3 : ¬ v2 < 0 := by omega
  have hll : l.length ≤ 2000000 := by
    rcases hv2 with h | h
    · exact absurd h h3
    · omega
  have HLL : Hid (l.length ≤ 2000000) := hll
  clear hv2 hll
  have Kx := (HK.out _ HB2.out).c
  have x0 : World.cell? w2 ⟨w.heap.size, 0, none⟩ = some (.string z) := (Kx.2 0 _ rfl).1
  have x1 : World.cell? w2 ⟨w.heap.size, 1, none⟩ = some (.int .i64 fr) := (Kx.2 1 _ rfl).1
  have x2 : World.cell? w2 ⟨w.heap.size, 2, none⟩ = some (.int .i64 t) := (Kx.2 2 _ rfl).1
  have x3 : World.cell? w2 ⟨w.heap.size, 3, none⟩ = some (.slice b l.length bc) := (Kx.2 3 _ rfl).1
  clear Kx
  go_wp2
  go_cut [6] (fun o wc => o = .bool r ∧ Below W0.heap.size W0 wc)
  case first =>
    go_region_with (first
      | (go_at_call 7; have hI := IH; refine (lawToZones a cap zs _ (HK.out _ (bstep HB2.out (show Below w2.heap.size w2 _ by first | exact hz | exact (Below.refl _ _).drew | exact Below.refl _ _ | exact Below.drewN' (Below.refl _ _) _))).z HS.out).mono ?_; rintro e u ⟨rfl, ZH, bu⟩; have IH := hI.below bu; clear hI; have hz := bstep (show Below w2.heap.size w2 _ by first | exact hz | exact (Below.refl _ _).drew | exact Below.refl _ _ | exact Below.drewN' (Below.refl _ _) _) bu; clear bu; have Kx := (HK.out _ (bstep HB2.out hz)).c; have x0 : World.cell? u ⟨w.heap.size, 0, none⟩ = some (.string z) := (Kx.2 0 _ rfl).1; have x1 : World.cell? u ⟨w.heap.size, 1, none⟩ = some (.int .i64 fr) := (Kx.2 1 _ rfl).1; have x2 : World.cell? u ⟨w.heap.size, 2, none⟩ = some (.int .i64 t) := (Kx.2 2 _ rfl).1; have x3 : World.cell? u ⟨w.heap.size, 3, none⟩ = some (.slice b l.length bc) := (Kx.2 3 _ rfl).1; clear Kx)
      | (go_at_call 7; refine (lawToZones a cap zs _ (HK.out _ (bstep HB2.out (show Below w2.heap.size w2 _ by first | exact hz | exact (Below.refl _ _).drew | exact Below.refl _ _ | exact Below.drewN' (Below.refl _ _) _))).z HS.out).mono ?_; rintro e u ⟨rfl, ZH, bu⟩; have hz := bstep (show Below w2.heap.size w2 _ by first | exact hz | exact (Below.refl _ _).drew | exact Below.refl _ _ | exact Below.drewN' (Below.refl _ _) _) bu; clear bu; have Kx := (HK.out _ (bstep HB2.out hz)).c; have x0 : World.cell? u ⟨w.heap.size, 0, none⟩ = some (.string z) := (Kx.2 0 _ rfl).1; have x1 : World.cell? u ⟨w.heap.size, 1, none⟩ = some (.int .i64 fr) := (Kx.2 1 _ rfl).1; have x2 : World.cell? u ⟨w.heap.size, 2, none⟩ = some (.int .i64 t) := (Kx.2 2 _ rfl).1; have x3 : World.cell? u ⟨w.heap.size, 3, none⟩ = some (.slice b l.length bc) := (Kx.2 3 _ rfl).1; clear Kx)
      | (go_at_call 8; have hZ := ZH; refine (lawToHours z fr t b bc l _ (HK.out _ (bstep HB2.out (show Below w2.heap.size w2 _ by first | exact hz | exact (Below.refl _ _).drew | exact Below.refl _ _ | exact Below.drewN' (Below.refl _ _) _))).i HLL.out).mono ?_; rintro e u ⟨⟨g, rfl, IH⟩, bu⟩; have ZH := hZ.below bu; clear hZ; have hz := bstep (show Below w2.heap.size w2 _ by first | exact hz | exact (Below.refl _ _).drew | exact Below.refl _ _ | exact Below.drewN' (Below.refl _ _) _) bu; clear bu)
      | (go_at_call 8; refine (lawToHours z fr t b bc l _ (HK.out _ (bstep HB2.out (show Below w2.heap.size w2 _ by first | exact hz | exact (Below.refl _ _).drew | exact Below.refl _ _ | exact Below.drewN' (Below.refl _ _) _))).i HLL.out).mono ?_; rintro e u ⟨⟨g, rfl, IH⟩, bu⟩; have hz := bstep (show Below w2.heap.size w2 _ by first | exact hz | exact (Below.refl _ _).drew | exact Below.refl _ _ | exact Below.drewN' (Below.refl _ _) _) bu; clear bu)
      | (go_at_call 6; refine (specHours _ _ zs z fr t _ _ l _ ZH HS.out IH HLL.out r HR.out).mono ?_; rintro e u ⟨rfl, bu⟩; have hz9 := bstep HB2.out (bstep hz bu); clear bu))
    all_goals (go_wp2; go_meet; case rel => exact ⟨rfl, hz9⟩)
  obtain ⟨rfl, hB3⟩ := hcut
  have HB3 : Hid (Below W0.heap.size W0 wc) := hB3
  clear hB3 x0 x1 x2 x3
  go_wp2_with fail
  refine (lawToZones a cap zs wc (HK.out _ HB3.out).z HS.out).mono ?_
  rintro e w4 ⟨rfl, Z4, b4⟩
  obtain ⟨gz, hgz⟩ : ∃ gz, gz = wc.heap.size := ⟨_, rfl⟩
  rw [← hgz] at Z4 ⊢
  have HZ4 : Hid (IsZones w4 (some ⟨gz, 0, none⟩) zs) := Z4
  have HB4 : Hid (Below W0.heap.size W0 w4) := bstep HB3.out b4
  clear b4 Z4 hgz
  have Kx := (HK.out _ HB4.out).c
  have x0 : World.cell? w4 ⟨w.heap.size, 0, none⟩ = some (.string z) := (Kx.2 0 _ rfl).1
  have x1 : World.cell? w4 ⟨w.heap.size, 1, none⟩ = some (.int .i64 fr) := (Kx.2 1 _ rfl).1
  have x2 : World.cell? w4 ⟨w.heap.size, 2, none⟩ = some (.int .i64 t) := (Kx.2 2 _ rfl).1
  have x3 : World.cell? w4 ⟨w.heap.size, 3, none⟩ = some (.slice b l.length bc) := (Kx.2 3 _ rfl).1
  clear Kx
  go_wp2_with fail
  refine (lawToHours z fr t b bc l w4 (HK.out _ HB4.out).i HLL.out).mono ?_
  rintro e w5 ⟨⟨g, rfl, I5⟩, b5⟩
  have HB5 : Hid (Below W0.heap.size W0 w5) := bstep HB4.out b5
  have b6 : Below w5.heap.size w5 (w5.alloc (.cells #[.string z, .int .i64 fr, .int .i64 t, .slice (some ⟨g, 0, none⟩) l.length l.length] 31)) := (Below.refl _ _).alloc (Nat.le_refl _) _
  have HC6 : Hid (CF (w5.alloc (.cells #[.string z, .int .i64 fr, .int .i64 t, .slice (some ⟨g, 0, none⟩) l.length l.length] 31)) w5.heap.size #[.string z, .int .i64 fr, .int .i64 t, .slice (some ⟨g, 0, none⟩) l.length l.length]) := CF.new _ _ _
  have HZ6 : Hid (IsZones (w5.alloc (.cells #[.string z, .int .i64 fr, .int .i64 t, .slice (some ⟨g, 0, none⟩) l.length l.length] 31)) (some ⟨gz, 0, none⟩) zs) := (HZ4.out.below b5).below b6
  have HI6 : Hid (IsInts (w5.alloc (.cells #[.string z, .int .i64 fr, .int .i64 t, .slice (some ⟨g, 0, none⟩) l.length l.length] 31)) (some ⟨g, 0, none⟩) l) := I5.below b6
  have HB6 : Hid (Below W0.heap.size W0 (w5.alloc (.cells #[.string z, .int .i64 fr, .int .i64 t, .slice (some ⟨g, 0, none⟩) l.length l.length] 31))) := bstep HB5.out b6
  clear b5 b6 I5 x0 x1 x2 x3
  go_wp2_with fail
  generalize w5.alloc (.cells #[.string z, .int .i64 fr, .int .i64 t, .slice (some ⟨g, 0, none⟩) l.length l.length] 31) = W6 at HC6 HZ6 HI6 HB6 ⊢
  refine (implHours (some ⟨gz, 0, none⟩) zs.length zs z fr t (some ⟨g, 0, none⟩) l.length l W6 HZ6.out HS.out HI6.out HLL.out r HR.out).mono ?_
  rintro e w7 ⟨rfl, b7⟩
  have HB7 : Hid (Below W0.heap.size W0 w7) := bstep HB6.out b7
  have HC7 := HC6.out.below b7
  have HI7 := HI6.out.below b7
  have HZ7 := HZ6.out.below b7
  have HX : Hid (∀ W, Below w7.heap.size w7 W → CF W w5.heap.size #[.string z, .int .i64 fr, .int .i64 t, .slice (some ⟨g, 0, none⟩) l.length l.length] ∧ IsInts W (some ⟨g, 0, none⟩) l ∧ IsZones W (some ⟨gz, 0, none⟩) zs) := fun W h => ⟨HC7.below h, HI7.below h, HZ7.below h⟩
  clear b7 HC7 HI7 HZ7 HC6 HI6 HZ6 HZ4
  cases r <;>
  · go_wp2_with fail
    refine (lawToZones a cap zs w7 (HK.out _ HB7.out).z HS.out).mono ?_
    rintro e w8 ⟨rfl, Z8, b8⟩
    go_wp2_with fail
    refine (lawEqZones _ _ _ _ zs w8 (HX.out _ b8).2.2 Z8 HS.out).mono ?_
    rintro e w9 ⟨rfl, b9⟩
    have HY : Hid (Below w7.heap.size w7 w9) := bstep b8 b9
    clear b8 b9 Z8
    have Kx := (HK.out _ (bstep HB7.out HY.out)).c
    have x0 : World.cell? w9 ⟨w.heap.size, 0, none⟩ = some (.string z) := (Kx.2 0 _ rfl).1
    have x1 : World.cell? w9 ⟨w.heap.size, 1, none⟩ = some (.int .i64 fr) := (Kx.2 1 _ rfl).1
    have x2 : World.cell? w9 ⟨w.heap.size, 2, none⟩ = some (.int .i64 t) := (Kx.2 2 _ rfl).1
    have x3 : World.cell? w9 ⟨w.heap.size, 3, none⟩ = some (.slice b l.length bc) := (Kx.2 3 _ rfl).1
    clear Kx
    have Ky := (HX.out _ HY.out).1
    have y0 : World.cell? w9 ⟨w5.heap.size, 0, none⟩ = some (.string z) := (Ky.2 0 _ rfl).1
    have y1 : World.cell? w9 ⟨w5.heap.size, 1, none⟩ = some (.int .i64 fr) := (Ky.2 1 _ rfl).1
    have y2 : World.cell? w9 ⟨w5.heap.size, 2, none⟩ = some (.int .i64 t) := (Ky.2 2 _ rfl).1
    have y3 : World.cell? w9 ⟨w5.heap.size, 3, none⟩ = some (.slice (some ⟨g, 0, none⟩) l.length l.length) := (Ky.2 3 _ rfl).1
    clear Ky
    go_wp2
    go_region_with (first
      | (go_at_call 8; refine (lawToHours z fr t b bc l _ (HK.out _ (bstep (bstep HB7.out HY.out) (show Below w9.heap.size w9 _ by first | exact hz | exact (Below.refl _ _).drew | exact Below.refl _ _ | exact Below.drewN' (Below.refl _ _) _))).i HLL.out).mono ?_; rintro e u ⟨⟨g2, rfl, IH⟩, bu⟩; have hz := bstep (show Below w9.heap.size w9 _ by first | exact hz | exact (Below.refl _ _).drew | exact Below.refl _ _ | exact Below.drewN' (Below.refl _ _) _) bu; clear bu; have Ky := (HX.out _ (bstep HY.out hz)).1; have y0 : World.cell? u ⟨w5.heap.size, 0, none⟩ = some (.string z) := (Ky.2 0 _ rfl).1; have y1 : World.cell? u ⟨w5.heap.size, 1, none⟩ = some (.int .i64 fr) := (Ky.2 1 _ rfl).1; have y2 : World.cell? u ⟨w5.heap.size, 2, none⟩ = some (.int .i64 t) := (Ky.2 2 _ rfl).1; have y3 : World.cell? u ⟨w5.heap.size, 3, none⟩ = some (.slice (some ⟨g, 0, none⟩) l.length l.length) := (Ky.2 3 _ rfl).1; clear Ky)
      | (go_at_call 11; refine (lawEqHours z fr t _ _ _ _ l _ (HX.out _ (bstep HY.out hz)).2.1 IH HLL.out).mono ?_; rintro e u8 ⟨rfl, bu⟩; have hz9 := bstep hz bu; clear bu))
    all_goals (go_wp2; go_ret; exact ⟨rfl, HB0.out.trans ((bstep (bstep HB7.out HY.out) hz9).mono HB0.out.size)⟩)
end Go.Proofs.Ytlhaldhfoeiohaa
