/- What chooses days, all together: the program's list of it. -/
import Derived.Test.YtlfglhpepoepcaaDoorKp
import Derived.Deep.DeepCutAuto
import Derived.OwnWalk
import Derived.Laws.AppendOwnNone
namespace Go.Proofs.YtlfglhpepoepcaaDoor
open Go.RowKit Go.Shelf
set_option linter.unusedVariables false

theorem chInfo : (Tryd.prog.info? 83).map (fun i => (i.zero, i.size, i.bytes)) = some (some .nilFunc, 1, 8) := by kernel_rfl
/-- The list under way, with so many at most, that say A together. -/
structure CS (w wc : World) (r : Rl) (m : Rm) (v : Value) (k : Nat) (A : Int → Bool) : Prop where
  ls : ∃ vs ps KB, LS w wc (fun b => m.blk r b ∨ b = 0) KB v vs ps ∧ KB w.heap.size ∧ (∀ b, m.blk r b → KB b) ∧ KB 0 ∧ vs.length ≤ k ∧ ∀ n : Int, 0 ≤ n → n ≤ 3652058 → ps.all (fun p => p n) = A n
  cb : CB wc w.heap.size r m
theorem CS.bel {w wc : World} {r : Rl} {m : Rm} {v : Value} {k : Nat} {A : Int → Bool} (h : CS w wc r m v k A) : Below w.heap.size w wc := by obtain ⟨_, _, _, h1, _⟩ := h.ls; exact h1.bel
theorem CS.weak {w wc : World} {r : Rl} {m : Rm} {v : Value} {k k' : Nat} {A A' : Int → Bool} (h : CS w wc r m v k A) (hk : k ≤ k') (hA : ∀ n, A n = A' n) : CS w wc r m v k' A' := by
  obtain ⟨⟨vs, ps, KB, h1, h2, h3, h4, h5, h6⟩, h7⟩ := h
  exact ⟨⟨vs, ps, KB, h1, h2, h3, h4, by omega, fun n a b => by rw [h6 n a b, hA]⟩, h7⟩
theorem CS.own {w wc : World} {r : Rl} {m : Rm} {v : Value} {k : Nat} {A : Int → Bool} (h : CS w wc r m v k A) : ∃ vs : List Value, vs.length ≤ k ∧ wc.ownsRow w.heap.size 83 1 v vs.length vs ∧
    ∀ (W W' : World) (v' : Value) (fs : List Value) (qs : List (Int → Bool)) (KN : Nat → Prop), Below wc.heap.size wc W →
      (∀ b, KN b → w.heap.size ≤ b ∧ b < W.heap.size ∧ ∃ cur t q, W.heap[b]? = some (.cells cur t q) ∧ t ≠ 83) → qs.length = fs.length →
      (∀ K : Nat → Prop, (∀ b, KN b → K b) → K w.heap.size → (∀ b, m.blk r b → K b) → K 0 → ∀ i, i < fs.length → Ch K W (fs.getD i undef) (qs.getD i fun _ => true)) →
      W'.ownsRow w.heap.size 83 1 v' (vs.length + fs.length) (vs ++ fs) → W.grownBy W' v.ownBlock → CS w W' r m v' (k + fs.length) (fun n => A n && qs.all (fun p => p n)) := by
  obtain ⟨⟨vs, ps, KB, h1, h2, h3, h4, h5, h6⟩, h7⟩ := h
  refine ⟨vs, h5, h1.own, fun W W' v' fs qs KN hb hkn hql hch hown hg => ?_⟩
  have g1 := h1.on hb
  have hK : ∀ b, (KB b ∨ KN b) → KB b ∨ b < W.heap.size ∧ (b < w.heap.size ∧ (m.blk r b ∨ b = 0) ∨ w.heap.size ≤ b ∧ ∃ cur t q, W.heap[b]? = some (.cells cur t q) ∧ t ≠ 83) := fun b hb' => by
    rcases hb' with h | h
    · exact .inl h
    · exact .inr ⟨(hkn b h).2.1, .inr ⟨(hkn b h).1, (hkn b h).2.2⟩⟩
  have g2 := g1.app (KB' := fun b => KB b ∨ KN b) (fun b hb' => .inl hb') hK hql (hch (fun b => KB b ∨ KN b) (fun b hb' => .inr hb') (.inl h2) (fun b hb' => .inl (h3 b hb')) (.inl h4)) hown hg
  refine ⟨⟨vs ++ fs, ps ++ qs, fun b => KB b ∨ KN b, g2, .inl h2, fun b hb' => .inl (h3 b hb'), .inl h4, by rw [List.length_append]; omega, fun n a b => by rw [List.all_append, h6 n a b]⟩, ?_⟩
  exact (h7.on (hb.block _ h7.lt)).on (hg.block _ (g1.kb _ h2).1 (g1.nb h2))
def A1 (r : Rl) (n : Int) : Bool := decide (r.mo.length = 0) || hasI r.mo (mOf n)
def A2 (r : Rl) (n : Int) : Bool := A1 r n && (decide (r.da.length = 0) || dtB r n)
def A3 (r : Rl) (n : Int) : Bool := A2 r n && (decide (r.ds.length = 0) || dfB r n)
theorem A3_fit (r : Rl) (s n : Int) : (A3 r n && (decide (0 < r.ds.length ∨ 0 < r.da.length) || ownB r s n)) = fitB r s n := by
  unfold A3 A2 A1 fitB; simp only [Bool.and_assoc]
set_option maxRecDepth 100000 in
set_option maxHeartbeats 8000000 in
theorem implChoosers : ChoosersC := by
  intro r m s w hr hl0 hl1 hl2 hm ht h0 h1
  obtain ⟨i0, hi, hz0, hz1, hz2⟩ := info_parts chInfo
  have hG := ht.lt
  have K0 : CS w (w.alloc (.cells #[.int .i64 r.f, .int .i64 r.ev, .int .i64 r.ct, .int .i64 r.un, .slice m.a0 r.ds.length m.c0, .slice m.a1 r.da.length m.c1, .slice m.a2 r.mo.length m.c2, .slice m.a3 r.pl.length m.c3, .int .i64 r.wk] 26)) r m (.slice none 0 0) 0 (fun _ => true) := by
    have hb : Below w.heap.size w (w.alloc (.cells #[.int .i64 r.f, .int .i64 r.ev, .int .i64 r.ct, .int .i64 r.un, .slice m.a0 r.ds.length m.c0, .slice m.a1 r.da.length m.c1, .slice m.a2 r.mo.length m.c2, .slice m.a3 r.pl.length m.c3, .int .i64 r.wk] 26)) := (Below.refl _ w).alloc (Nat.le_refl _) _
    refine ⟨⟨[], [], fun b => b = w.heap.size ∨ m.blk r b ∨ b = 0, ⟨World.ownsRow_nil _ _ _ _, rfl, fun i hi => by simp at hi, fun b hb' => ?_, hb⟩, .inl rfl, fun b hb' => .inr (.inl hb'), .inr (.inr rfl), by simp, fun n _ _ => rfl⟩, CB.new w r m _⟩
    rcases hb' with h | h | h
    · subst h; exact ⟨by simp, .inr ⟨Nat.le_refl _, _, _, _, World.alloc_heap_new w _, by decide⟩⟩
    · have := hm.blk_lt h; exact ⟨by simp; omega, .inl ⟨this, .inl h⟩⟩
    · subst h; exact ⟨by first | (simp; omega) | simp, .inl ⟨hG, .inr rfl⟩⟩
  have HM : Hid (RMem w r m) := hm
  have HT : Hid (Tab w) := ht
  clear hm ht
  go_enter Tryd.func57, Tryd.ntmps57
  go_upto_if 9 with fail
  generalize w.alloc (.cells #[.int .i64 r.f, .int .i64 r.ev, .int .i64 r.ct, .int .i64 r.un, .slice m.a0 r.ds.length m.c0, .slice m.a1 r.da.length m.c1, .slice m.a2 r.mo.length m.c2, .slice m.a3 r.pl.length m.c3, .int .i64 r.wk] 26) = W0 at K0 ⊢
  go_cut [5] (fun v wc => CS w wc r m v 1 (A1 r))
  case first =>
    by_cases h : 0 < r.mo.length
    · obtain ⟨vs, hvl, hown, happ⟩ := K0.own
      have HAP : Hid (∀ (W W' : World) (v' : Value) (fs : List Value) (qs : List (Int → Bool)) (KN : Nat → Prop), Below W0.heap.size W0 W →
          (∀ b, KN b → w.heap.size ≤ b ∧ b < W.heap.size ∧ ∃ cur t q, W.heap[b]? = some (.cells cur t q) ∧ t ≠ 83) → qs.length = fs.length →
          (∀ K : Nat → Prop, (∀ b, KN b → K b) → K w.heap.size → (∀ b, m.blk r b → K b) → K 0 → ∀ i, i < fs.length → Ch K W (fs.getD i undef) (qs.getD i fun _ => true)) →
          W'.ownsRow w.heap.size 83 1 v' (vs.length + fs.length) (vs ++ fs) → W.grownBy W' ((Value.slice none 0 0)).ownBlock → CS w W' r m v' (0 + fs.length) (fun n => true && qs.all (fun p => p n))) := happ
      have HCB : Hid (CB W0 w.heap.size r m) := K0.cb
      have HB : Hid (Below w.heap.size w W0) := K0.bel
      clear happ
      go_wp2_with (first
        | (at_builtin; refine wpList_append_own _ rfl _ _ 67 rfl w.heap.size 83 i0 .nilFunc 1 8 Tryd.underlying67 hi hz0 hz1 hz2 rfl (by decide) _ _ _ rfl (World.ownsRow.alloc hown _) ⟨_, 0, none⟩ 1 1 [.func (.func 69) #[] #[.pointer (some ⟨w.heap.size, 0, none⟩)]] rfl rfl (cell_one_new _ _ _) (by simp [Value.oneCell']) (by unfold maxLen; omega) (by omega) (by have := HB.out.size; simp; omega) ?_; intro v' w4 hown4 hgrow _))
      have hbw : Below W0.heap.size W0 (W0.alloc (.cells #[.func (.func 69) #[] #[.pointer (some ⟨w.heap.size, 0, none⟩)]] 83)) := (Below.refl _ _).alloc (Nat.le_refl _) _
      have hres := HAP.out _ w4 v' [.func (.func 69) #[] #[.pointer (some ⟨w.heap.size, 0, none⟩)]] [fun n => hasI r.mo (mOf n)] (fun _ => False) hbw (fun b hb => hb.elim) rfl (fun K _ k1 k2 k3 i hi => by
        have : i = 0 := by simp at hi; omega
        subst this
        exact mkMonths (HCB.out.on (hbw.block _ HCB.out.lt)) ((HM.out.below HB.out).below hbw) hl2 k1 k2) hown4 hgrow
      go_meet
      case rel => exact hres.weak (by simp) (fun n => by unfold A1; rw [decide_eq_false (by omega)]; simp)
    · have HK : Hid (CS w W0 r m (.slice none 0 0) 0 (fun _ => true)) := K0
      go_wp2
      go_meet
      case rel => exact HK.out.weak (by omega) (fun n => by unfold A1; rw [decide_eq_true (by omega)]; rfl)
  clear K0
  have K1 : CS w wc r m u5 1 (A1 r) := hcut
  clear hcut
  obtain ⟨b0, b1, b2, b3, b4, b5, b6, b7, b8⟩ := K1.cb
  go_upto_if 17 with fail
  go_cut [5] (fun v wc => CS w wc r m v 2 (A2 r))
  case first =>
    by_cases h : 0 < r.da.length
    · obtain ⟨vs, hvl, hown, happ⟩ := K1.own
      have HAP : Hid (∀ (W W' : World) (v' : Value) (fs : List Value) (qs : List (Int → Bool)) (KN : Nat → Prop), Below wc.heap.size wc W →
          (∀ b, KN b → w.heap.size ≤ b ∧ b < W.heap.size ∧ ∃ cur t q, W.heap[b]? = some (.cells cur t q) ∧ t ≠ 83) → qs.length = fs.length →
          (∀ K : Nat → Prop, (∀ b, KN b → K b) → K w.heap.size → (∀ b, m.blk r b → K b) → K 0 → ∀ i, i < fs.length → Ch K W (fs.getD i undef) (qs.getD i fun _ => true)) →
          W'.ownsRow w.heap.size 83 1 v' (vs.length + fs.length) (vs ++ fs) → W.grownBy W' (u5).ownBlock → CS w W' r m v' (1 + fs.length) (fun n => A1 r n && qs.all (fun p => p n))) := happ
      have HCB : Hid (CB wc w.heap.size r m) := K1.cb
      have HB : Hid (Below w.heap.size w wc) := K1.bel
      clear happ
      go_wp2_with (first
        | (at_builtin; refine wpList_append_own _ rfl _ _ 67 rfl w.heap.size 83 i0 .nilFunc 1 8 Tryd.underlying67 hi hz0 hz1 hz2 rfl (by decide) _ _ _ rfl (World.ownsRow.alloc hown _) ⟨_, 0, none⟩ 1 1 [.func (.func 71) #[] #[.pointer (some ⟨w.heap.size, 0, none⟩)]] rfl rfl (cell_one_new _ _ _) (by simp [Value.oneCell']) (by unfold maxLen; omega) (by omega) (by have := HB.out.size; simp; omega) ?_; intro v' w4 hown4 hgrow _))
      have hbw : Below wc.heap.size wc (wc.alloc (.cells #[.func (.func 71) #[] #[.pointer (some ⟨w.heap.size, 0, none⟩)]] 83)) := (Below.refl _ _).alloc (Nat.le_refl _) _
      have hres := HAP.out _ w4 v' [.func (.func 71) #[] #[.pointer (some ⟨w.heap.size, 0, none⟩)]] [dtB r] (fun _ => False) hbw (fun b hb => hb.elim) rfl (fun K _ k1 k2 k3 i hi => by
        have : i = 0 := by simp at hi; omega
        subst this
        exact mkDates (HCB.out.on (hbw.block _ HCB.out.lt)) ((HM.out.below HB.out).below hbw) ((HT.out.on HB.out).on hbw) hl1 k1 k2 k3) hown4 hgrow
      go_meet
      case rel => exact hres.weak (by simp) (fun n => by unfold A2; rw [decide_eq_false (by omega)]; simp)
    · have HK : Hid (CS w wc r m u5 1 (A1 r)) := K1
      go_wp2
      go_meet
      case rel => exact HK.out.weak (by omega) (fun n => by unfold A2; rw [decide_eq_true (by omega)]; simp)
  have K2 : CS w wc r m u5 2 (A2 r) := hcut
  clear hcut
  obtain ⟨b0, b1, b2, b3, b4, b5, b6, b7, b8⟩ := K2.cb
  go_upto_if 25 with fail
  go_cut [5] (fun v wc => CS w wc r m v 3 (A3 r))
  case first =>
    by_cases h : 0 < r.ds.length
    · obtain ⟨vs, hvl, hown, happ⟩ := K2.own
      have HAP : Hid (∀ (W W' : World) (v' : Value) (fs : List Value) (qs : List (Int → Bool)) (KN : Nat → Prop), Below wc.heap.size wc W →
          (∀ b, KN b → w.heap.size ≤ b ∧ b < W.heap.size ∧ ∃ cur t q, W.heap[b]? = some (.cells cur t q) ∧ t ≠ 83) → qs.length = fs.length →
          (∀ K : Nat → Prop, (∀ b, KN b → K b) → K w.heap.size → (∀ b, m.blk r b → K b) → K 0 → ∀ i, i < fs.length → Ch K W (fs.getD i undef) (qs.getD i fun _ => true)) →
          W'.ownsRow w.heap.size 83 1 v' (vs.length + fs.length) (vs ++ fs) → W.grownBy W' u5.ownBlock → CS w W' r m v' (2 + fs.length) (fun n => A2 r n && qs.all (fun p => p n))) := happ
      have HCB : Hid (CB wc w.heap.size r m) := K2.cb
      have HB : Hid (Below w.heap.size w wc) := K2.bel
      obtain ⟨W3, hW3⟩ : ∃ W3, W3 = (wc.alloc (.cells #[.int .i64 r.f, .int .i64 r.ev, .int .i64 r.ct, .int .i64 r.un, .slice m.a0 r.ds.length m.c0, .slice m.a1 r.da.length m.c1, .slice m.a2 r.mo.length m.c2, .slice m.a3 r.pl.length m.c3, .int .i64 r.wk] 26)).alloc (.cells #[.bool (inMo r)] 4) := ⟨_, rfl⟩
      have hb3 : Below wc.heap.size wc W3 := by rw [hW3]; exact ((Below.refl _ wc).alloc (Nat.le_refl _) _).alloc (by simp) _
      have hs3 : W3.heap.size = wc.heap.size + 2 := by rw [hW3]; simp
      have HB3 : Hid (Below wc.heap.size wc W3) := hb3
      have HT1 : Hid (W3.heap[wc.heap.size]? = some (.cells #[.int .i64 r.f, .int .i64 r.ev, .int .i64 r.ct, .int .i64 r.un, .slice m.a0 r.ds.length m.c0, .slice m.a1 r.da.length m.c1, .slice m.a2 r.mo.length m.c2, .slice m.a3 r.pl.length m.c3, .int .i64 r.wk] 26 (0, 0))) := by unfold Hid; rw [hW3, Below.heap_alloc _ _ _ (by simp)]; exact World.alloc_heap_new wc _
      have HT2 : Hid (W3.heap[wc.heap.size + 1]? = some (.cells #[.bool (inMo r)] 4 (0, 0))) := by
        unfold Hid
        have := World.alloc_heap_new (wc.alloc (.cells #[.int .i64 r.f, .int .i64 r.ev, .int .i64 r.ct, .int .i64 r.un, .slice m.a0 r.ds.length m.c0, .slice m.a1 r.da.length m.c1, .slice m.a2 r.mo.length m.c2, .slice m.a3 r.pl.length m.c3, .int .i64 r.wk] 26)) (.cells #[.bool (inMo r)] 4)
        rw [World.size_alloc] at this; rw [hW3]; exact this
      have HCR : Hid (CB W3 wc.heap.size r m) := by unfold Hid; rw [hW3]; exact (CB.new wc r m 26).on (Below.heap_alloc _ _ _ (by simp))
      have HCM : Hid (W3.cell? ⟨wc.heap.size + 1, 0, none⟩ = some (.bool (inMo r))) := by
        unfold Hid
        have := ((CF.new (wc.alloc (.cells #[.int .i64 r.f, .int .i64 r.ev, .int .i64 r.ct, .int .i64 r.un, .slice m.a0 r.ds.length m.c0, .slice m.a1 r.da.length m.c1, .slice m.a2 r.mo.length m.c2, .slice m.a3 r.pl.length m.c3, .int .i64 r.wk] 26)) #[.bool (inMo r)] 4).2 0 _ rfl).1
        rw [World.size_alloc] at this; rw [hW3]; exact this
      have hown3 : W3.ownsRow w.heap.size 83 1 u5 vs.length vs := by rw [hW3]; exact (World.ownsRow.alloc (World.ownsRow.alloc hown _) _)
      have HW3 : Hid (W3 = (wc.alloc (.cells #[.int .i64 r.f, .int .i64 r.ev, .int .i64 r.ct, .int .i64 r.un, .slice m.a0 r.ds.length m.c0, .slice m.a1 r.da.length m.c1, .slice m.a2 r.mo.length m.c2, .slice m.a3 r.pl.length m.c3, .int .i64 r.wk] 26)).alloc (.cells #[.bool (inMo r)] 4)) := hW3
      have HS3 : Hid (W3.heap.size = wc.heap.size + 2) := hs3
      clear happ hown hb3 hW3 hs3
      go_wp2_with fail
      refine (implByF r.f r.mo.length r rfl rfl m wc).mono ?_
      rintro e w3 ⟨rfl, hw3⟩
      rw [← HW3.out] at hw3
      subst hw3
      go_wp2_with (first
        | (at_builtin; refine wpList_append_own _ rfl _ _ 67 rfl w.heap.size 83 i0 .nilFunc 1 8 Tryd.underlying67 hi hz0 hz1 hz2 rfl (by decide) _ _ _ rfl (World.ownsRow.alloc hown3 _) ⟨_, 0, none⟩ 1 1 [.func (.func 89) #[] #[.pointer (some ⟨wc.heap.size + 1, 0, none⟩), .pointer (some ⟨wc.heap.size, 0, none⟩)]] rfl rfl (cell_one_new _ _ _) (by simp [Value.oneCell']) (by unfold maxLen; omega) (by omega) (by have := HB.out.size; have := HB3.out.size; simp; omega) ?_; intro v' w4 hown4 hgrow _))
      have hbw : Below w3.heap.size w3 (w3.alloc (.cells #[.func (.func 89) #[] #[.pointer (some ⟨wc.heap.size + 1, 0, none⟩), .pointer (some ⟨wc.heap.size, 0, none⟩)]] 83)) := (Below.refl _ _).alloc (Nat.le_refl _) _
      have hres := HAP.out _ w4 v' [.func (.func 89) #[] #[.pointer (some ⟨wc.heap.size + 1, 0, none⟩), .pointer (some ⟨wc.heap.size, 0, none⟩)]] [dfB r] (fun b => b = wc.heap.size ∨ b = wc.heap.size + 1) (bstep HB3.out hbw) (fun b hb => by
        have hsb := HB.out.size
        rcases hb with rfl | rfl
        · exact ⟨by omega, by simp; have := HS3.out; omega, _, _, _, (hbw.block _ (by have := HS3.out; omega)).trans HT1.out, by decide⟩
        · exact ⟨by omega, by simp; have := HS3.out; omega, _, _, _, (hbw.block _ (by have := HS3.out; omega)).trans HT2.out, by decide⟩) rfl (fun K k0 k1 k2 k3 i hi => by
        have : i = 0 := by simp at hi; omega
        subst this
        exact mkBy (HCR.out.on (hbw.block _ HCR.out.lt)) (by rw [hbw.cell (p := ⟨wc.heap.size + 1, 0, none⟩) (by show wc.heap.size + 1 < _; have := HS3.out; omega)]; exact HCM.out) (((HM.out.below HB.out).below HB3.out).below hbw) (((HT.out.on HB.out).on HB3.out).on hbw) hl0 (k0 _ (.inr rfl)) (k0 _ (.inl rfl)) k2 k3) hown4 hgrow
      go_meet
      case rel => exact hres.weak (by simp) (fun n => by unfold A3; rw [decide_eq_false (by omega)]; simp)
    · have HK : Hid (CS w wc r m u5 2 (A2 r)) := K2
      go_wp2
      go_meet
      case rel => exact HK.out.weak (by omega) (fun n => by unfold A3; rw [decide_eq_true (by omega)]; simp)
  have K3 : CS w wc r m u5 3 (A3 r) := hcut
  clear hcut
  obtain ⟨b0, b1, b2, b3, b4, b5, b6, b7, b8⟩ := K3.cb
  have fin : ∀ (v : Value) (W : World) (k : Nat), k ≤ 8 → CS w W r m v k (fitB r s) → (∃ a k cap, Ending.returned v = .returned (.slice a k cap) ∧ k ≤ 8 ∧ ChR (fun b => m.blk r b ∧ b < w.heap.size ∨ b = 0 ∨ w.heap.size ≤ b ∧ b < W.heap.size) W a k r s) ∧ Below w.heap.size w W := fun v W k hk h => by
    obtain ⟨⟨vs, ps, KB, h1, h2, h3, h4, h5, h6⟩, h7⟩ := h
    obtain ⟨a, q, cap, e, e1, e2⟩ := h1.all h6 (by omega)
    exact ⟨⟨a, q, cap, by rw [e], e1, e2⟩, h1.bel⟩
  have FIN : Hid (∀ (v : Value) (W : World) (k : Nat), k ≤ 8 → CS w W r m v k (fitB r s) → (∃ a k cap, Ending.returned v = .returned (.slice a k cap) ∧ k ≤ 8 ∧ ChR (fun b => m.blk r b ∧ b < w.heap.size ∨ b = 0 ∨ w.heap.size ≤ b ∧ b < W.heap.size) W a k r s) ∧ Below w.heap.size w W) := fin
  clear fin
  have HK3 : Hid (CS w wc r m u5 3 (A3 r)) := K3
  clear K3
  by_cases hds : r.ds.length = 0
  · by_cases hda : r.da.length = 0
    · have hst := implStartF r.f r.mo.length r rfl rfl hr.f0 hr.f1 m s wc (HT.out.on HK3.out.bel) h0 h1
      rw [hds, hda] at hst
      have HST := hst
      obtain ⟨vs, hvl, hown, happ⟩ := HK3.out.own
      have HAP : Hid (∀ (W W' : World) (v' : Value) (fs : List Value) (qs : List (Int → Bool)) (KN : Nat → Prop), Below wc.heap.size wc W →
          (∀ b, KN b → w.heap.size ≤ b ∧ b < W.heap.size ∧ ∃ cur t q, W.heap[b]? = some (.cells cur t q) ∧ t ≠ 83) → qs.length = fs.length →
          (∀ K : Nat → Prop, (∀ b, KN b → K b) → K w.heap.size → (∀ b, m.blk r b → K b) → K 0 → ∀ i, i < fs.length → Ch K W (fs.getD i undef) (qs.getD i fun _ => true)) →
          W'.ownsRow w.heap.size 83 1 v' (vs.length + fs.length) (vs ++ fs) → W.grownBy W' u5.ownBlock → CS w W' r m v' (3 + fs.length) (fun n => A3 r n && qs.all (fun p => p n))) := happ
      have HB : Hid (Below w.heap.size w wc) := HK3.out.bel
      have HO : Hid (wc.ownsRow w.heap.size 83 1 u5 vs.length vs) := hown
      clear happ hst hown
      go_wp2_with fail
      refine HST.mono ?_
      clear HST
      rintro e w3 ⟨v, rfl, bb, fs, qs, KB, hshape, hql, h2, hch, hkb, hone, hall⟩
      have hLS : w3.ownsRow w.heap.size 83 1 u5 vs.length vs := by
        refine ⟨HO.out.1, ?_⟩
        rcases HO.out.2 with h | ⟨g, cap, cur, e1, e2, e3, e4⟩
        · exact .inl h
        · exact .inr ⟨g, cap, cur, e1, e2, (bb.block g (Array.getElem?_eq_some_iff.1 e3).1).trans e3, e4⟩
      have HBB : Hid (Below wc.heap.size wc w3) := bb
      have HOWN : Hid (∀ (W : World) (v' : Value), (∀ n : Int, qs.all (fun p => p n) = ownB r s n) → CS w W r m v' (3 + fs.length) (fun n => A3 r n && qs.all (fun p => p n)) → CS w W r m v' 5 (fitB r s)) := fun W v' hq h =>
        h.weak (by omega) (fun n => by rw [hq n, ← A3_fit, decide_eq_false (by omega)]; rfl)
      have HALL : Hid (∀ n : Int, qs.all (fun p => p n) = ownB r s n) := hall
      have HONE : Hid (∀ u ∈ fs, u.oneCell' = true) := hone
      have HKN : Hid (∀ b, KB b → w.heap.size ≤ b ∧ b < w3.heap.size ∧ ∃ cur t q, w3.heap[b]? = some (.cells cur t q) ∧ t ≠ 83) := fun b hb => by
        obtain ⟨k1, k2, k3⟩ := hkb b hb; exact ⟨by have := HB.out.size; omega, k2, k3⟩
      have HCH : Hid (∀ K : Nat → Prop, (∀ b, KB b → K b) → ∀ i, i < fs.length → Ch K w3 (fs.getD i undef) (qs.getD i fun _ => true)) := fun K hk i hi => (hch i hi).mono hk
      have HQL : Hid (qs.length = fs.length) := hql
      clear bb hall hone hkb hch hql
      rcases hshape with ⟨rfl, rfl⟩ | ⟨g, cap, rfl, hcells⟩
      · have hq0 : qs = [] := List.length_eq_zero_iff.1 HQL.out
        have HE : Hid (CS w wc r m u5 3 (fitB r s)) := HK3.out.weak (Nat.le_refl _) (fun n => by
          have := HALL.out n; rw [hq0] at this
          rw [← A3_fit, ← this]; simp)
        have HE3 : Hid (CS w w3 r m u5 3 (fitB r s)) := by
          obtain ⟨⟨vs', ps, KB', g1, g2, g3, g4, g5, g6⟩, g7⟩ := HE.out
          exact ⟨⟨vs', ps, KB', g1.on HBB.out, g2, g3, g4, g5, g6⟩, g7.on (HBB.out.block _ g7.lt)⟩
        clear hq0
        go_wp2_with (first
          | (at_builtin; refine wpList_append_own_none rfl _ _ 67 rfl w.heap.size 83 i0 1 Tryd.underlying67 hi _ _ _ rfl hLS rfl ?_))
        go_ret
        exact FIN.out _ _ 3 (by omega) HE3.out
      · have HCE : Hid (∀ j u, fs[j]? = some u → w3.cell? ((⟨g, 0, none⟩ : Addr).add j) = some u) := hcells
        clear hcells
        go_wp2_with (first
          | (at_builtin; refine wpList_append_own _ rfl _ _ 67 rfl w.heap.size 83 i0 .nilFunc 1 8 Tryd.underlying67 hi hz0 hz1 hz2 rfl (by decide) _ _ _ rfl hLS ⟨g, 0, none⟩ fs.length cap fs rfl (by omega) HCE.out HONE.out (by unfold maxLen; omega) (by omega) (by have := HB.out.size; have := HBB.out.size; omega) ?_; intro v' w4 hown4 hgrow _))
        go_ret
        exact FIN.out _ _ 5 (by omega) (HOWN.out _ _ HALL.out (HAP.out w3 _ _ fs qs KB HBB.out HKN.out HQL.out (fun K k0 _ _ _ i hi => HCH.out K k0 i hi) hown4 hgrow))
    · have HE : Hid (CS w wc r m u5 3 (fitB r s)) := HK3.out.weak (Nat.le_refl _) (fun n => by rw [← A3_fit, decide_eq_true (by omega)]; simp)
      have hda' : ¬ (r.da.length : Int) = 0 := by omega
      go_wp2
      go_ret
      exact FIN.out _ _ 3 (by omega) HE.out
  · have HE : Hid (CS w wc r m u5 3 (fitB r s)) := HK3.out.weak (Nat.le_refl _) (fun n => by rw [← A3_fit, decide_eq_true (by omega)]; simp)
    have hds' : ¬ (r.ds.length : Int) = 0 := by omega
    go_wp2
    go_ret
    exact FIN.out _ _ 3 (by omega) HE.out
end Go.Proofs.YtlfglhpepoepcaaDoor
