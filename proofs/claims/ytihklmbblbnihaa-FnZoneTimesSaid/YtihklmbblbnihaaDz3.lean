/- What the specification draws: any zone, and a time near its turns. -/
import Derived.Test.YtihklmbblbnihaaDz2
namespace Go.Proofs.Ytihklmbblbnihaa
open Go.RowKit
set_option linter.unusedVariables false
/-- A zone in its box Z, its turns in a row of their own. -/
structure ZT (w0 : World) (rb R Z L : Nat) (s : ByteArray) (sh : Int) (v : Value) (ts : List (Int × Int)) (W : World) : Prop where
  rd : Rd W rb L
  rR : rb < R
  RZ : R < Z
  r0 : ∀ i, i < 3 → ∃ u, W.cell? ⟨R, i, none⟩ = some u
  rf : ∀ i, W.frozen? ⟨R, i, none⟩ = false
  c0 : W.cell? ⟨Z, 0, none⟩ = some (.string s)
  c1 : W.cell? ⟨Z, 1, none⟩ = some (.int .i64 sh)
  c2 : W.cell? ⟨Z, 2, none⟩ = some v
  zf : ∀ i, W.frozen? ⟨Z, i, none⟩ = false
  own : OT W (R + 1) v ts
  ne : v.ownBlock ≠ some Z
  but : But rb R w0 W
theorem ZT.step {w0 W W' : World} {rb R Z L L' : Nat} {s : ByteArray} {sh : Int} {v : Value} {ts : List (Int × Int)} (h : ZT w0 rb R Z L s sh v ts W) (hb : But rb W.heap.size W W') (hr : Rd W' rb L') : ZT w0 rb R Z L' s sh v ts W' := by
  obtain ⟨rd, rR, RZ, r0, rf, c0, c1, c2, zf, own, ne, but⟩ := h
  have lt := cell_lt c0
  refine ⟨hr, rR, RZ, fun i hi => ?_, fun i => ?_, ?_, ?_, ?_, fun i => ?_, own_but own (by omega) hb, ne, but.trans (hb.mono (by omega))⟩
  · rw [hb.cell (p := ⟨R, i, none⟩) (by simp; omega) (by simp; omega)]; exact r0 i hi
  · rw [hb.frozen (p := ⟨R, i, none⟩) (by simp; omega) (by simp; omega)]; exact rf i
  · rw [hb.cell (p := ⟨Z, 0, none⟩) lt (by simp; omega)]; exact c0
  · rw [hb.cell (p := ⟨Z, 1, none⟩) lt (by simp; omega)]; exact c1
  · rw [hb.cell (p := ⟨Z, 2, none⟩) lt (by simp; omega)]; exact c2
  · rw [hb.frozen (p := ⟨Z, i, none⟩) lt (by simp; omega)]; exact zf i
theorem ZT.alloc {w0 W : World} {rb R Z L : Nat} {s : ByteArray} {sh : Int} {v : Value} {ts : List (Int × Int)} (h : ZT w0 rb R Z L s sh v ts W) (o : Obj) : ZT w0 rb R Z L s sh v ts (W.alloc o) :=
  h.step ((But.refl _ _ _).alloc (Nat.le_refl _) _) (h.rd.below ((Below.refl _ _).alloc (Nat.le_refl _) _))
theorem ZT.name {w0 W : World} {rb R Z L : Nat} {s : ByteArray} {sh : Int} {v : Value} {ts : List (Int × Int)} (h : ZT w0 rb R Z L s sh v ts W) (s' : ByteArray) : ZT w0 rb R Z L s' sh v ts (W.setCell ⟨Z, 0, none⟩ (.string s')) := by
  obtain ⟨rd, rR, RZ, r0, rf, c0, c1, c2, zf, own, ne, but⟩ := h
  refine ⟨rd.setCell (p := ⟨Z, 0, none⟩) (by simp; omega) _, rR, RZ, fun i hi => ?_, fun i => by rw [World.frozen?_setCell]; exact rf i, World.cell?_setCell_same _ _ _ c0, ?_, ?_, fun i => by rw [World.frozen?_setCell]; exact zf i, ownsRow_setCell_other own ne _, ne, but.setCell (p := ⟨Z, 0, none⟩) (.inl (by simp; omega)) _⟩
  · rw [cell_far _ _ _ _ (by simp; omega)]; exact r0 i hi
  · rw [World.cell?_setCell_other _ _ _ _ (by simp)]; exact c1
  · rw [World.cell?_setCell_other _ _ _ _ (by simp)]; exact c2
theorem ZT.shift {w0 W : World} {rb R Z L : Nat} {s : ByteArray} {sh : Int} {v : Value} {ts : List (Int × Int)} (h : ZT w0 rb R Z L s sh v ts W) (sh' : Int) : ZT w0 rb R Z L s sh' v ts (W.setCell ⟨Z, 1, none⟩ (.int .i64 sh')) := by
  obtain ⟨rd, rR, RZ, r0, rf, c0, c1, c2, zf, own, ne, but⟩ := h
  refine ⟨rd.setCell (p := ⟨Z, 1, none⟩) (by simp; omega) _, rR, RZ, fun i hi => ?_, fun i => by rw [World.frozen?_setCell]; exact rf i, ?_, World.cell?_setCell_same _ _ _ c1, ?_, fun i => by rw [World.frozen?_setCell]; exact zf i, ownsRow_setCell_other own ne _, ne, but.setCell (p := ⟨Z, 1, none⟩) (.inl (by simp; omega)) _⟩
  · rw [cell_far _ _ _ _ (by simp; omega)]; exact r0 i hi
  · rw [World.cell?_setCell_other _ _ _ _ (by simp)]; exact c0
  · rw [World.cell?_setCell_other _ _ _ _ (by simp)]; exact c2
/-- What stands behind an append, ahead of the store. -/
theorem ZT.grown {w0 W w4 : World} {rb R Z L : Nat} {s : ByteArray} {sh : Int} {v : Value} {ts : List (Int × Int)} {o : Obj} (h : ZT w0 rb R Z L s sh v ts W) (hgrow : (W.alloc o).grownBy w4 v.ownBlock) :
    w4.cell? ⟨Z, 1, none⟩ = some (.int .i64 sh) ∧ w4.cell? ⟨Z, 2, none⟩ = some v ∧ w4.frozen? ⟨Z, 2, none⟩ = false := by
  obtain ⟨rd, rR, RZ, r0, rf, c0, c1, c2, zf, own, ne, but⟩ := h
  have lt := cell_lt c0
  have g : ∀ i, w4.cell? ⟨Z, i, none⟩ = W.cell? ⟨Z, i, none⟩ := fun i => by
    rw [hgrow.cell_far ⟨Z, i, none⟩ (by simp; omega) (fun e => ne e.symm), World.cell?_alloc_past _ _ _ (by exact lt)]
  have f : w4.frozen? ⟨Z, 2, none⟩ = false := by
    rw [hgrow.frozen_far ⟨Z, 2, none⟩ (by simp; omega) (fun e => ne e.symm), ((Below.refl W.heap.size W).alloc (Nat.le_refl _) o).frozen (p := ⟨Z, 2, none⟩) lt]; exact zf 2
  exact ⟨by rw [g]; exact c1, by rw [g]; exact c2, f⟩
theorem ZT.app {w0 W w4 : World} {rb R Z L H g cap : Nat} {s : ByteArray} {sh : Int} {v : Value} {ts : List (Int × Int)} {x y : Int} {n : Nat} {o : Obj} (h : ZT w0 rb R Z L s sh v ts W) (hn : n = ts.length + 1) (hH : (W.alloc o).heap.size = H)
    (hown : w4.ownsRow (R + 1) 31 2 (.slice (some ⟨g, 0, none⟩) n cap) (ts.length + 1) (tcs ts ++ [.int .i64 x, .int .i64 y])) (hgrow : (W.alloc o).grownBy w4 v.ownBlock) (hat : v.ownBlock = some g ∨ g = H) :
    ZT w0 rb R Z L s sh (.slice (some ⟨g, 0, none⟩) n cap) (ts ++ [(x, y)]) (w4.setCell ⟨Z, 2, none⟩ (.slice (some ⟨g, 0, none⟩) n cap)) := by
  have hz := h.grown hgrow
  obtain ⟨rd, rR, RZ, r0, rf, c0, c1, c2, zf, own, ne, but⟩ := h
  have lt := cell_lt c0
  simp at hH
  have gz : g ≠ Z := by
    rcases hat with e | e
    · intro e2; subst e2; exact ne e
    · omega
  have B : Below (R + 1) W w4 := ((Below.refl _ _).alloc (by omega) o).grown hgrow (by simp; omega) (fun k hk => (World.ownsRow.lt own k hk).1)
  have c0' : w4.cell? ⟨Z, 0, none⟩ = some (.string s) := by
    rw [hgrow.cell_far ⟨Z, 0, none⟩ (by simp; omega) (fun e => ne e.symm), World.cell?_alloc_past _ _ _ (by exact lt)]; exact c0
  have zf' : ∀ i, w4.frozen? ⟨Z, i, none⟩ = false := fun i => by
    rw [hgrow.frozen_far ⟨Z, i, none⟩ (by simp; omega) (fun e => ne e.symm), ((Below.refl W.heap.size W).alloc (Nat.le_refl _) o).frozen (p := ⟨Z, i, none⟩) lt]; exact zf i
  have own' : OT w4 (R + 1) (.slice (some ⟨g, 0, none⟩) n cap) (ts ++ [(x, y)]) := by unfold OT; rw [tcs_snoc, List.length_append]; exact hown
  refine ⟨(rd.low (B.mono (by omega))).setCell (p := ⟨Z, 2, none⟩) (by simp; omega) _, rR, RZ, fun i hi => ?_, fun i => ?_, ?_, ?_, ?_, fun i => ?_, ?_, ?_, ?_⟩
  · rw [cell_far _ _ _ _ (by simp; omega), B.cell (p := ⟨R, i, none⟩) (by simp)]; exact r0 i hi
  · rw [World.frozen?_setCell, B.frozen (p := ⟨R, i, none⟩) (by simp)]; exact rf i
  · rw [World.cell?_setCell_other _ _ _ _ (by simp)]; exact c0'
  · rw [World.cell?_setCell_other _ _ _ _ (by simp)]; exact hz.1
  · exact World.cell?_setCell_same _ _ _ hz.2.1
  · rw [World.frozen?_setCell]; exact zf' i
  · exact ownsRow_setCell_other own' (by simp [Value.ownBlock]; exact gz) _
  · simp [Value.ownBlock]; exact gz
  · exact (but.trans (But.of_below (B.mono (by omega)))).setCell (p := ⟨Z, 2, none⟩) (.inl (by simp; omega)) _
theorem ZT.fin {w0 W : World} {rb R Z L : Nat} {s : ByteArray} {sh : Int} {v : Value} {ts : List (Int × Int)} (h : ZT w0 rb R Z L s sh v ts W) :
    OT (((W.setCell ⟨R, 0, none⟩ (.string s)).setCell ⟨R, 1, none⟩ (.int .i64 sh)).setCell ⟨R, 2, none⟩ v) R v ts ∧ Rd (((W.setCell ⟨R, 0, none⟩ (.string s)).setCell ⟨R, 1, none⟩ (.int .i64 sh)).setCell ⟨R, 2, none⟩ v) rb L ∧ But rb R w0 (((W.setCell ⟨R, 0, none⟩ (.string s)).setCell ⟨R, 1, none⟩ (.int .i64 sh)).setCell ⟨R, 2, none⟩ v) := by
  have hs := h.rR
  refine ⟨OT.base (ownsRow_setCell_below (ownsRow_setCell_below (ownsRow_setCell_below h.own (a := ⟨R, 0, none⟩) (by simp) (.string s)) (a := ⟨R, 1, none⟩) (by simp) (.int .i64 sh)) (a := ⟨R, 2, none⟩) (by simp) v) (by omega), ?_, ?_⟩
  · exact ((h.rd.setCell (p := ⟨R, 0, none⟩) hs _).setCell (p := ⟨R, 1, none⟩) hs _).setCell (p := ⟨R, 2, none⟩) hs _
  · exact ((h.but.setCell (p := ⟨R, 0, none⟩) (.inl (Nat.le_refl _)) _).setCell (p := ⟨R, 1, none⟩) (.inl (Nat.le_refl _)) _).setCell (p := ⟨R, 2, none⟩) (.inl (Nat.le_refl _)) _
theorem mem3 {q : Int} (h : q ∈ [(-1 : Int), 5, 5258964959]) : q ≠ 0 := by
  simp only [List.mem_cons, List.not_mem_nil, or_false] at h
  omega
set_option maxRecDepth 100000 in
set_option maxHeartbeats 16000000 in
theorem anyzone_any (w : World) (rb L : Nat) (h : Rd w rb L) (hL : L ≤ 1099511624000) :
    Calls Try.prog 51 #[.pointer (some ⟨rb, 0, none⟩)] w fun e w' => (∃ s sh v ts, e = .returned (.agg #[.string s, .int .i64 sh, v]) ∧ OT w' w.heap.size v ts ∧ List.length ts ≤ 4 ∧ s.size ≤ 100 ∧ Far ts) ∧ Rd w' rb (L + 14) ∧ But rb w.heap.size w w' := by
  obtain ⟨i0, hi, hz0, hz1, hz2⟩ := info_parts turnInfo
  have hs := h.size
  have b0 : Below w.heap.size w (w.alloc (.cells #[.string ⟨#[]⟩, .int .i64 0, .slice none 0 0] 25)) := (Below.refl _ _).alloc (Nat.le_refl _) _
  have h0 := h.below b0
  have C0 := C3.new w (.string ⟨#[]⟩) (.int .i64 0) (.slice none 0 0) 25
  have F0 : ∀ i, (w.alloc (.cells #[.string ⟨#[]⟩, .int .i64 0, .slice none 0 0] 25)).frozen? ⟨w.heap.size, i, none⟩ = false := fun i => by simp
  have S0 : (w.alloc (.cells #[.string ⟨#[]⟩, .int .i64 0, .slice none 0 0] 25)).heap.size = w.heap.size + 1 := by simp
  go_enter Try.func51, Try.ntmps51
  go_wp2_with fail
  generalize w.alloc (.cells #[.string ⟨#[]⟩, .int .i64 0, .slice none 0 0] 25) = W0 at b0 h0 C0 F0 S0 ⊢
  have HS0 : Hid (W0.heap.size = w.heap.size + 1) := S0
  refine (zone_any _ W0 rb L h0 (by omega)).mono ?_
  rintro e w1 ⟨⟨sh, v, ts, rfl, O1, l3, far⟩, hr1, hb1⟩
  have FAR : Hid (Far ts) := far
  clear far
  obtain ⟨va, vc, rfl, _⟩ := OT.turns O1
  have K1 : ZT w rb w.heap.size w1.heap.size (L + 12) ⟨#[97]⟩ sh (.slice va ts.length vc) ts (w1.alloc (.cells #[.string ⟨#[97]⟩, .int .i64 sh, .slice va ts.length vc] 25)) := by
    have z1 := hb1.size
    have q := HS0.out
    have bz : Below w1.heap.size w1 (w1.alloc (.cells #[.string ⟨#[97]⟩, .int .i64 sh, .slice va ts.length vc] 25)) := (Below.refl _ _).alloc (Nat.le_refl _) _
    have D := C3.new w1 (.string ⟨#[97]⟩) (.int .i64 sh) (.slice va ts.length vc) 25
    refine ⟨hr1.below bz, hs, by omega, fun i hi => ?_, fun i => ?_, D.1, D.2.1, D.2.2, fun i => by simp, ?_, ?_, ?_⟩
    · rw [bz.cell (p := ⟨w.heap.size, i, none⟩) (by simp; omega), hb1.cell (p := ⟨w.heap.size, i, none⟩) (by simp; omega) (by simp; omega)]
      match i, hi with
      | 0, _ => exact ⟨_, C0.1⟩
      | 1, _ => exact ⟨_, C0.2.1⟩
      | 2, _ => exact ⟨_, C0.2.2⟩
    · rw [bz.frozen (p := ⟨w.heap.size, i, none⟩) (by simp; omega), hb1.frozen (p := ⟨w.heap.size, i, none⟩) (by simp; omega) (by simp; omega)]; exact F0 i
    · rw [← q]; exact World.ownsRow.alloc O1 _
    · intro e; have := (World.ownsRow.lt O1 _ e).2; omega
    · exact (But.of_below b0).trans ((hb1.mono (by omega)).trans (But.of_below (bz.mono (by omega))))
  have HK1 : Hid (ZT w rb w.heap.size w1.heap.size (L + 12) ⟨#[97]⟩ sh (.slice va ts.length vc) ts (w1.alloc (.cells #[.string ⟨#[97]⟩, .int .i64 sh, .slice va ts.length vc] 25))) := K1
  have rd1 := K1.rd
  clear K1 hb1 hr1 b0 h0 C0 F0 O1
  go_wp2_with fail
  refine (pick_pos _ _ rb _ rd1 (by omega) (by omega)).mono ?_
  rintro e w2 ⟨⟨p, rfl, a0, a1⟩, hr2, hb2⟩
  have K2 := HK1.out.step hb2 hr2
  have rd2 := K2.rd
  have HK2 : Hid (ZT w rb w.heap.size w1.heap.size (L + 12 + 1) ⟨#[97]⟩ sh (.slice va ts.length vc) ts w2) := K2
  clear K2 hb2 hr2 rd1 HK1 S0
  by_cases p0 : p = 0
  · subst p0
    have e0 := HK2.out.zf 0
    have k0 := HK2.out.c0
    have k1 := HK2.out.c1
    have k2 := HK2.out.c2
    go_wp2_with fail
    refine (of_list w2 rb _ rd2 (by omega) 3 [⟨#[]⟩, ⟨#[65]⟩, ⟨#[116, 111, 111, 108, 111, 110, 103, 110, 97, 109, 101]⟩] rfl (by omega) (by omega) _ rfl).mono ?_
    rintro e w3 ⟨⟨s, rfl, hq⟩, hr3, hb3⟩
    have sz : s.size ≤ 100 := by
      simp only [List.mem_cons, List.not_mem_nil, or_false] at hq
      rcases hq with rfl | rfl | rfl <;> decide
    have K3 := HK2.out.step hb3 hr3
    have K4 := K3.name s
    clear e0 k0 k1 k2 hq hb3 hr3
    have e0 := K3.zf 0
    have k0 := K3.c0
    clear K3
    obtain ⟨x0, r0⟩ := K4.r0 0 (by omega)
    obtain ⟨x1, r1⟩ := K4.r0 1 (by omega)
    obtain ⟨x2, r2⟩ := K4.r0 2 (by omega)
    have f0 := K4.rf 0
    have f1 := K4.rf 1
    have f2 := K4.rf 2
    have d0 := K4.c0
    have d1 := K4.c1
    have d2 := K4.c2
    obtain ⟨z1, z2, z3⟩ := K4.fin
    clear K4
    go_wp2
    exact bodyPost_ret (v := .agg #[.string s, .int .i64 sh, (.slice va ts.length vc)]) (by simp [results, Try.results51, go_sem, r0, r1, r2]) rfl ⟨⟨_, _, _, ts, rfl, z1, by omega, sz, FAR.out⟩, z2.mono (by omega), z3⟩
  · by_cases p1 : p = 1
    · subst p1
      have e0 := HK2.out.zf 1
      have k0 := HK2.out.c0
      have k1 := HK2.out.c1
      have k2 := HK2.out.c2
      go_wp2_with fail
      refine (one_list w2 rb _ rd2 (by omega) 2 [1441, -1441] rfl (by omega) (by omega) _ rfl).mono ?_
      rintro e w3 ⟨⟨q, rfl, hq⟩, hr3, hb3⟩
      have K3 := HK2.out.step hb3 hr3
      have K4 := K3.shift q
      clear e0 k0 k1 k2 hq hb3 hr3
      have e0 := K3.zf 1
      have k1 := K3.c1
      clear K3
      obtain ⟨x0, r0⟩ := K4.r0 0 (by omega)
      obtain ⟨x1, r1⟩ := K4.r0 1 (by omega)
      obtain ⟨x2, r2⟩ := K4.r0 2 (by omega)
      have f0 := K4.rf 0
      have f1 := K4.rf 1
      have f2 := K4.rf 2
      have d0 := K4.c0
      have d1 := K4.c1
      have d2 := K4.c2
      obtain ⟨z1, z2, z3⟩ := K4.fin
      clear K4
      go_wp2
      exact bodyPost_ret (v := .agg #[.string ⟨#[97]⟩, .int .i64 q, (.slice va ts.length vc)]) (by simp [results, Try.results51, go_sem, r0, r1, r2]) rfl ⟨⟨_, _, _, ts, rfl, z1, by omega, by decide, FAR.out⟩, z2.mono (by omega), z3⟩
    · by_cases p2 : p = 2
      · subst p2
        have k1 := HK2.out.c1
        have k2 := HK2.out.c2
        have e2 := HK2.out.zf 2
        have zlt := cell_lt k1
        go_wp2
        go_region_law
          (first
            | (go_simp; go_at_call 61; refine (one_listD w2 rb _ HK2.out.rd (by omega) 3 [-1, 5, 5258964959] rfl (by omega) (by omega) _ rfl _ rfl).mono ?_; rintro e w5 ⟨⟨q, rfl, hq⟩, hr5, hb5⟩; have K5 := HK2.out.step hb5 hr5; have k5 := K5.c2; have k51 := K5.c1; have f5 := K5.zf 2; have z5 := cell_lt k5; have qn := mem3 hq; clear hq hb5 hr5)
            | (refine step_append_lies _ rfl _ _ 23 rfl (w.heap.size + 1) 31 i0 (.agg #[.int .i64 0, .int .i64 0]) 2 16 Try.underlying23 hi hz0 hz1 hz2 rfl (by decide) _ _ _ rfl (World.ownsRow.alloc K5.own _) ⟨_, 0, none⟩ 1 1 [.int .i64 _, .int .i64 _] rfl rfl (World.news_of_block (heap_alloc_new w5 _)) (by simp [Value.oneCell']) (by decide) (by unfold maxLen; omega) (by omega) (by have := cell_lt K5.c0; have := K5.RZ; simp; omega) _ rfl ?_; intro g cap w6 hown hgrow hat hlt6; have Z6 := ZT.grown K5 hgrow; have z61 := Z6.2.1; have z62 := Z6.2.2; have K6 := ZT.app K5 rfl rfl hown hgrow hat; clear hown hgrow hat))
        all_goals
          clear HK2 k1 k2 e2 zlt K5 k5 k51 f5 z5 Z6 z61 z62 hlt6 rd2
          obtain ⟨x0, r0⟩ := K6.r0 0 (by omega)
          obtain ⟨x1, r1⟩ := K6.r0 1 (by omega)
          obtain ⟨x2, r2⟩ := K6.r0 2 (by omega)
          have f0 := K6.rf 0
          have f1 := K6.rf 1
          have f2 := K6.rf 2
          have d0 := K6.c0
          have d1 := K6.c1
          have d2 := K6.c2
          obtain ⟨z1, z2, z3⟩ := K6.fin
          clear K6
          go_wp2
          exact bodyPost_ret (v := .agg #[.string ⟨#[97]⟩, .int .i64 sh, (.slice (some ⟨g, 0, none⟩) (ts.length + 1) cap)]) (by simp [results, Try.results51, go_sem, r0, r1, r2]) rfl ⟨⟨_, _, _, (ts ++ [(q, 0)]), rfl, z1, by simp; omega, by decide, FAR.out.snoc qn⟩, z2.mono (by omega), z3⟩
      · have K4 := HK2.out
        clear HK2
        have q0 : (p == 0) = false := beq_eq_false_iff_ne.2 p0
        have q1 : (p == 1) = false := beq_eq_false_iff_ne.2 p1
        have q2 : (p == 2) = false := beq_eq_false_iff_ne.2 p2
        obtain ⟨x0, r0⟩ := K4.r0 0 (by omega)
        obtain ⟨x1, r1⟩ := K4.r0 1 (by omega)
        obtain ⟨x2, r2⟩ := K4.r0 2 (by omega)
        have f0 := K4.rf 0
        have f1 := K4.rf 1
        have f2 := K4.rf 2
        have d0 := K4.c0
        have d1 := K4.c1
        have d2 := K4.c2
        obtain ⟨z1, z2, z3⟩ := K4.fin
        clear K4
        go_wp2
        exact bodyPost_ret (v := .agg #[.string ⟨#[97]⟩, .int .i64 sh, (.slice va ts.length vc)]) (by simp [results, Try.results51, go_sem, r0, r1, r2]) rfl ⟨⟨_, _, _, ts, rfl, z1, by omega, by decide, FAR.out⟩, z2.mono (by omega), z3⟩
end Go.Proofs.Ytihklmbblbnihaa
