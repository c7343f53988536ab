/- What the specification draws: a zone. -/
import Derived.Test.YtihklmbblbnihaaDz
import Derived.Test.YtihklmbblbnihaaC3
import Derived.Deep.RegionLaw
namespace Go.Proofs.Ytihklmbblbnihaa
open Go.RowKit
set_option linter.unusedVariables false
abbrev Z2 (Z : Nat) (sh v : Value) (w' : World) : Prop := w'.cell? ⟨Z, 1, none⟩ = some sh ∧ w'.cell? ⟨Z, 2, none⟩ = some v ∧ w'.frozen? ⟨Z, 2, none⟩ = false
theorem Z2.on {Z rb : Nat} {sh v : Value} {W w' : World} (h : Z2 Z sh v W) (hz : rb < Z) (hb : But rb W.heap.size W w') : Z2 Z sh v w' := by
  obtain ⟨c1, c2, f2⟩ := h
  have lt := cell_lt c1
  exact ⟨by rw [hb.cell (p := ⟨Z, 1, none⟩) lt (by simp; omega)]; exact c1, by rw [hb.cell (p := ⟨Z, 2, none⟩) lt (by simp; omega)]; exact c2, by rw [hb.frozen (p := ⟨Z, 2, none⟩) lt (by simp; omega)]; exact f2⟩
theorem Z2.app {Z : Nat} {sh v : Value} {W w6 : World} {o : Obj} {ts : List (Int × Int)} (h : Z2 Z sh v W) (own : OT W (Z + 1) v ts) (hgrow : (W.alloc o).grownBy w6 v.ownBlock) : Z2 Z sh v w6 := by
  obtain ⟨c1, c2, f2⟩ := h
  have lt := cell_lt c1
  have B : Below (Z + 1) W w6 := ((Below.refl _ _).alloc (by omega) o).grown hgrow (by simp; omega) (fun k hk => (World.ownsRow.lt own k hk).1)
  exact ⟨by rw [B.cell (p := ⟨Z, 1, none⟩) (by simp)]; exact c1, by rw [B.cell (p := ⟨Z, 2, none⟩) (by simp)]; exact c2, by rw [B.frozen (p := ⟨Z, 2, none⟩) (by simp)]; exact f2⟩
theorem OT.base {w : World} {B B' : Nat} {v : Value} {ts : List (Int × Int)} (h : OT w B v ts) (hb : B' ≤ B) : OT w B' v ts := by
  obtain ⟨h1, h2⟩ := h
  refine ⟨h1, ?_⟩
  rcases h2 with h2 | ⟨g, cap, cur, a, b, c⟩
  · exact .inl h2
  · exact .inr ⟨g, cap, cur, a, by omega, c⟩
theorem ZS.drew {w0 W : World} {rb R Z L : Nat} {s : ByteArray} {sh : Int} {v : Value} {ts : List (Int × Int)} (h : ZS w0 rb R Z L s sh v ts W) : ZS w0 rb R Z L s sh v ts W.drew :=
  h.step (But.refl _ _ _).drew (h.rd.below (Below.refl _ _).drew)
/-- No turn is at time 0. -/
def Far (ts : List (Int × Int)) : Prop := ∀ q, q ∈ ts → q.1 ≠ 0
theorem Far.snoc {ts : List (Int × Int)} {x y : Int} (h : Far ts) (hx : x ≠ 0) : Far (ts ++ [(x, y)]) := by
  intro q hq
  rcases List.mem_append.1 hq with h' | h'
  · exact h q h'
  · simp at h'; subst h'; exact hx
theorem Far.set {ts : List (Int × Int)} (h : Far ts) (i : Nat) (hi : i < ts.length) (r : Int) : Far (ts.set i (tAt ts i, r)) := by
  intro q hq
  rcases List.mem_or_eq_of_mem_set hq with h' | h'
  · exact h q h'
  · subst h'
    have e : tAt ts i = (ts[i]).1 := by simp [tAt, hi]
    show tAt ts i ≠ 0
    rw [e]; exact h _ (List.getElem_mem hi)
theorem Far.at {ts : List (Int × Int)} (h : Far ts) (i : Nat) (hi : i < ts.length) : tAt ts i ≠ 0 := by
  have e : tAt ts i = (ts[i]).1 := by simp [tAt, hi]
  rw [e]; exact h _ (List.getElem_mem hi)
theorem turnInfo : (Try.prog.info? 31).map (fun i => (i.zero, i.size, i.bytes)) = some (some (.agg #[.int .i64 0, .int .i64 0]), 2, 16) := by kernel_rfl
set_option maxRecDepth 100000 in
set_option maxHeartbeats 16000000 in
theorem zone_any (s : ByteArray) (w : World) (rb L : Nat) (h : Rd w rb L) (hL : L ≤ 1099511625000) :
    Calls Try.prog 58 #[.pointer (some ⟨rb, 0, none⟩), .string s] w fun e w' => (∃ sh v ts, e = .returned (.agg #[.string s, .int .i64 sh, v]) ∧ OT w' w.heap.size v ts ∧ List.length ts ≤ 3 ∧ Far ts) ∧ Rd w' rb (L + 12) ∧ But rb w.heap.size w w' := by
  obtain ⟨i0, hi, hz0, hz1, hz2⟩ := info_parts turnInfo
  have hs := h.size
  have b0 : Below w.heap.size w (w.alloc (.cells #[.string ⟨#[]⟩, .int .i64 0, .slice none 0 0] 25)) := (Below.refl _ _).alloc (Nat.le_refl _) _
  have h0 := h.below b0
  have C0 := C3.new w (.string ⟨#[]⟩) (.int .i64 0) (.slice none 0 0) 25
  have F0 : ∀ i, (w.alloc (.cells #[.string ⟨#[]⟩, .int .i64 0, .slice none 0 0] 25)).frozen? ⟨w.heap.size, i, none⟩ = false := fun i => by simp
  have S0 : (w.alloc (.cells #[.string ⟨#[]⟩, .int .i64 0, .slice none 0 0] 25)).heap.size = w.heap.size + 1 := by simp
  go_enter Try.func58, Try.ntmps58
  go_wp2_with fail
  generalize w.alloc (.cells #[.string ⟨#[]⟩, .int .i64 0, .slice none 0 0] 25) = W0 at b0 h0 C0 F0 S0 ⊢
  have HS0 : Hid (W0.heap.size = w.heap.size + 1) := S0
  refine (one_listH W0 rb L h0 (by omega) 6 [0, 60, -300, 330, 1440, -1440] rfl (by omega) (by omega) _ rfl (w.heap.size + 1) S0).mono ?_
  rintro e w1 ⟨⟨sh, rfl, hsh⟩, hr1, hb1⟩
  clear hsh S0
  have K1 : ZS w rb w.heap.size w1.heap.size (L + 1) s sh (.slice none 0 0) [] (w1.alloc (.cells #[.string s, .int .i64 sh, .slice none 0 0] 25)) := by
    have z1 := hb1.size
    have q := HS0.out
    have bz : Below w1.heap.size w1 (w1.alloc (.cells #[.string s, .int .i64 sh, .slice none 0 0] 25)) := (Below.refl _ _).alloc (Nat.le_refl _) _
    have D := C3.new w1 (.string s) (.int .i64 sh) (.slice none 0 0) 25
    refine ⟨hr1.below bz, hs, by omega, fun i hi => ?_, fun i => ?_, D.1, D.2.1, D.2.2, fun i => by simp, World.ownsRow_nil _ _ _ _, ?_⟩
    · rw [bz.cell (p := ⟨w.heap.size, i, none⟩) (by simp; omega), hb1.cell (p := ⟨w.heap.size, i, none⟩) (by simp; omega) (by simp; omega)]
      match i, hi with
      | 0, _ => exact ⟨_, C0.1⟩
      | 1, _ => exact ⟨_, C0.2.1⟩
      | 2, _ => exact ⟨_, C0.2.2⟩
    · rw [bz.frozen (p := ⟨w.heap.size, i, none⟩) (by simp; omega), hb1.frozen (p := ⟨w.heap.size, i, none⟩) (by simp; omega) (by simp; omega)]; exact F0 i
    · exact (But.of_below b0).trans ((hb1.mono (by omega)).trans (But.of_below (bz.mono (by omega))))
  have HK1 : Hid (ZS w rb w.heap.size w1.heap.size (L + 1) s sh (.slice none 0 0) [] (w1.alloc (.cells #[.string s, .int .i64 sh, .slice none 0 0] 25))) := K1
  have rd1 := K1.rd
  clear K1 hb1 hr1 b0 h0 C0 F0
  go_wp2_with fail
  refine (pick_pos _ _ rb _ rd1 (by omega) (by omega)).mono ?_
  rintro e w2 ⟨⟨r1, rfl, a0, a1⟩, hr2, hb2⟩
  have K2 := HK1.out.step hb2 hr2
  go_wp2_with fail
  refine (pick_pos _ _ rb _ hr2 (by omega) (by omega)).mono ?_
  rintro e w3 ⟨⟨r2, rfl, a2, a3⟩, hr3, hb3⟩
  have K3 := K2.step hb3 hr3
  clear K2 hb2 hr2 hb3
  go_wp2_with fail
  refine (pick_pos _ _ rb _ hr3 (by omega) (by omega)).mono ?_
  rintro e w4 ⟨⟨n, rfl, a4, a5⟩, hr4, hb4⟩
  have HK4 : Hid (ZS w rb w.heap.size w1.heap.size (L + 4) s sh (.slice none 0 0) [] w4) := K3.step hb4 hr4
  clear K3 hr3 hb4 rd1 HK1 hr4
  obtain ⟨m, rfl⟩ := Int.eq_ofNat_of_zero_le a4
  have m3 : m ≤ 3 := by omega
  clear a4 a5
  go_wp2
  go_loopw [6, 7] (fun x i wr => ∃ (k : Nat) (y : Int) (v : Value) (ts : List (Int × Int)), k ≤ 3 ∧ i = .int .i64 k ∧ x = .int .i64 y ∧ List.length ts + k ≤ 3 ∧ (0 < y ∧ y ≤ 1067000000 - 400000 * (k : Int)) ∧ Far ts ∧ ZS w rb w.heap.size w1.heap.size (L + 10 - 2 * k) s sh v ts wr) (fun _ i _ => (intOf i).toNat)
  case atStart => exact ⟨m, _, _, [], m3, rfl, rfl, by simpa using m3, ⟨by omega, by omega⟩, fun q hq => by simp at hq, HK4.out.more (by omega)⟩
  case round =>
    clear HK4
    obtain ⟨k, y, v, ts, hk, rfl, rfl, hts, hy, far, K⟩ := hrel
    have FAR : Hid (Far ts) := far
    clear far
    by_cases hlt : 0 < k
    · obtain ⟨j, rfl⟩ : ∃ j, k = j + 1 := ⟨k - 1, by omega⟩
      have c1 := K.c1
      have c2 := K.c2
      have f2 := K.zf 2
      have HK : Hid (ZS w rb w.heap.size w1.heap.size (L + 10 - 2 * (j + 1)) s sh v ts wr) := K
      have zr : rb < w1.heap.size := by have := K.rR; have := K.RZ; omega
      clear K
      go_wp2
      have zlt : w1.heap.size < wr.heap.size := cell_lt c1
      go_region_law
        (first
          | (go_simp; go_at_call 61; refine (one_listD wr rb _ HK.out.rd (by omega) 5 [60, 0, -60, 30, 1440] rfl (by omega) (by omega) _ rfl _ rfl).mono ?_; rintro e w5 ⟨⟨q, rfl, hq⟩, hr5, hb5⟩; have K5 := HK.out.step hb5 hr5; have k5 := K5.c2; have k51 := K5.c1; have f5 := K5.zf 2; have z5 := cell_lt k5; clear hq hb5 hr5)
          | (refine step_append_lies _ rfl _ _ 23 rfl (w1.heap.size + 1) 31 i0 (.agg #[.int .i64 0, .int .i64 0]) 2 16 Try.underlying23 hi hz0 hz1 hz2 rfl (by decide) _ _ _ rfl (World.ownsRow.alloc K5.own _) ⟨_, 0, none⟩ 1 1 [.int .i64 _, .int .i64 _] rfl rfl (World.news_of_block (heap_alloc_new w5 _)) (by simp [Value.oneCell']) (by decide) (by unfold maxLen; omega) (by omega) (by have := cell_lt K5.c0; simp; omega) _ rfl ?_; intro g cap w6 hown hgrow hat hlt6; have Z6 := Z2.app ⟨K5.c1, K5.c2, K5.zf 2⟩ K5.own hgrow; have z61 := Z6.2.1; have z62 := Z6.2.2; have K6 := ZS.app K5 hown hgrow; clear hown hgrow hat))
      all_goals
        clear HK c1 c2 f2 zr zlt K5 k5 k51 f5 z5 Z6 z61 z62 hlt6
        go_wp2_with fail
        refine (pick_pos _ _ rb _ K6.rd (by omega) (by omega)).mono ?_
        rintro e w7 ⟨⟨q2, rfl, b0, b1⟩, hr7, hb7⟩
        have K7 := K6.step hb7 hr7
        clear hb7 hr7 K6
        go_wp2
        go_roundw
        case rel => exact ⟨j, _, _, _, by omega, by go_num, rfl, by simp; omega, ⟨by omega, by omega⟩, FAR.out.snoc (by omega), K7.more (by omega)⟩
        case measure => first | (simp [intOf]; done) | (simp [intOf]; omega)
    · have hk0 : k = 0 := by omega
      subst hk0
      have HK : Hid (ZS w rb w.heap.size w1.heap.size (L + 10 - 2 * 0) s sh v ts wr) := K
      clear K
      go_wp2
      go_loopw [8] (fun i wr => ∃ (j : Nat) (ts2 : List (Int × Int)), j ≤ ts2.length ∧ i = .int .i64 j ∧ ts2.length = ts.length ∧ Far ts2 ∧ ZS w rb w.heap.size w1.heap.size (L + 10) s sh v ts2 wr) (fun i _ => ts.length - (intOf i).toNat)
      case atStart => exact ⟨0, ts, by omega, rfl, rfl, FAR.out, HK.out.more (by omega)⟩
      case round =>
        clear HK
        obtain ⟨j, ts2, hj, rfl, hl2, far2, K⟩ := hrel
        have FAR2 : Hid (Far ts2) := far2
        clear far2
        have HL2 : Hid (ts2.length = ts.length) := hl2
        have l3 : ts2.length ≤ 3 := by omega
        clear hl2
        by_cases hlt2 : j < ts2.length
        · obtain ⟨g, cap, rfl, _, hg⟩ := World.ownsRow.form K.own (by omega)
          have c2 := K.c2
          have hc := fun q hq => World.ownsRow.cellAt (w := wr) (base := w1.heap.size + 1) (e := 31) (size := 2) (g := g) (n := ts2.length) (cap := cap) (xs := tcs ts2) K.own q hq
          have g1 : wr.cell? ⟨g, j * 2 + 1, none⟩ = some (.int .i64 (tSh ts2 j)) := (hc _ (by omega)).trans (tcs_at ts2 j hlt2).2
          have gf := World.ownsRow.frozenAt (w := wr) (base := w1.heap.size + 1) (e := 31) (size := 2) (g := g) (n := ts2.length) (cap := cap) (xs := tcs ts2) K.own (j * 2 + 1)
          have hi1 : (j : Int) < (ts2.length : Int) := by omega
          have HK : Hid (ZS w rb w.heap.size w1.heap.size (L + 10) s sh (.slice (some ⟨g, 0, none⟩) ts2.length cap) ts2 wr) := K
          clear hc K
          go_wp2
          go_region_with ((go_at_call 65; refine (within_any _ _).mono ?_; rintro e w' ⟨⟨r, rfl⟩, rfl⟩))
          all_goals
            have K9 := HK.out.set rfl j hlt2 r
            go_wp2
            go_roundw
            case rel =>
              have fin : ∃ (j' : Nat) (ts3 : List (Int × Int)), j' ≤ ts3.length ∧ Value.int .i64 ((j : Int) + 1) = .int .i64 j' ∧ ts3.length = ts.length ∧ Far ts3 ∧ ZS w rb w.heap.size w1.heap.size (L + 10) s sh (.slice (some ⟨g, 0, none⟩) ts2.length cap) ts3 (wr.setCell ⟨g, j * 2 + 1, none⟩ (.int .i64 r)).drew := ⟨j + 1, _, by simp; omega, by go_num, by simpa using HL2.out, FAR2.out.set j hlt2 r, K9.drew⟩
              first
                | exact fin
                | exact ⟨_, _, _, _, _, _, _, _, _, _, _, _, _, _, _, _, _, _, _, _, fin, rfl⟩
            case measure => have := HL2.out; first | (simp [intOf]; done) | (simp [intOf]; omega)
        · obtain ⟨a, cap, rfl, _⟩ := OT.turns K.own
          have hi1 : ¬ (j : Int) < (ts2.length : Int) := by omega
          obtain ⟨u0, r0⟩ := K.r0 0 (by omega)
          obtain ⟨u1, r1'⟩ := K.r0 1 (by omega)
          obtain ⟨u2, r2'⟩ := K.r0 2 (by omega)
          have f0 := K.rf 0
          have f1 := K.rf 1
          have f2 := K.rf 2
          have c0 := K.c0
          have c1 := K.c1
          have c2 := K.c2
          have HK : Hid (ZS w rb w.heap.size w1.heap.size (L + 10) s sh (.slice a ts2.length cap) ts2 wr) := K
          clear K
          go_wp2
          have hs' : rb < w.heap.size := hs
          refine bodyPost_ret (v := .agg #[.string s, .int .i64 sh, .slice a ts2.length cap]) (by simp [results, Try.results58, go_sem, r0, r1', r2']) rfl ⟨⟨sh, _, rfl, ts2, ?_, l3, FAR2.out⟩, ?_, ?_⟩
          · have o := HK.out.own
            have q := HK.out.RZ
            have o2 := ownsRow_setCell_below (ownsRow_setCell_below (ownsRow_setCell_below o (a := ⟨w.heap.size, 0, none⟩) (by simp; omega) (.string s)) (a := ⟨w.heap.size, 1, none⟩) (by simp; omega) (.int .i64 sh)) (a := ⟨w.heap.size, 2, none⟩) (by simp; omega) (.slice a ts2.length cap)
            exact OT.base o2 (by omega)
          · exact (((HK.out.rd.setCell (p := ⟨w.heap.size, 0, none⟩) hs' _).setCell (p := ⟨w.heap.size, 1, none⟩) hs' _).setCell (p := ⟨w.heap.size, 2, none⟩) hs' _).mono (by omega)
          · exact ((HK.out.but.setCell (p := ⟨w.heap.size, 0, none⟩) (.inl (Nat.le_refl _)) _).setCell (p := ⟨w.heap.size, 1, none⟩) (.inl (Nat.le_refl _)) _).setCell (p := ⟨w.heap.size, 2, none⟩) (.inl (Nat.le_refl _)) _
end Go.Proofs.Ytihklmbblbnihaa
