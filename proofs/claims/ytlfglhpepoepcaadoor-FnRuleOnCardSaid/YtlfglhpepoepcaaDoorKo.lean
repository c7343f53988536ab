/- The days of a period that a rule chooses, and those at its places: the program's. -/
import Derived.Test.YtlfglhpepoepcaaDoorKn
import Derived.Test.YtlfglhpepoepcaaDoorOm
namespace Go.Proofs.YtlfglhpepoepcaaDoor
open Go.RowKit Go.Shelf
set_option linter.unusedVariables false

/-- A list of ints that a call owns. -/
def IL (W0 : World) (v : Value) (l : List Int) (W : World) : Prop := OI W W0.heap.size v l ∧ Below W0.heap.size W0 W
theorem IL.nil (w : World) : IL w (.slice none 0 0) [] w := ⟨⟨by simp, .inl ⟨rfl, rfl⟩⟩, Below.refl _ _⟩
theorem IL.on {W0 W W' : World} {v : Value} {l : List Int} (h : IL W0 v l W) (hb : Below W.heap.size W W') : IL W0 v l W' := ⟨h.1.below hb, bstep h.2 hb⟩
theorem IL.app {W0 W W' : World} {v v' : Value} {l : List Int} {x : Int} {T : TypeId} (h : IL W0 v l W) (ho : W'.ownsRow W0.heap.size 3 1 v' (l.length + 1) (l.map (Value.int .i64) ++ [.int .i64 x]))
    (hg : (W.alloc (.cells #[.int .i64 x] T)).grownBy W' v.ownBlock) : IL W0 v' (l ++ [x]) W' := by
  refine ⟨by unfold OI; simpa using ho, ?_⟩
  have hb := h.2.alloc (B := W0.heap.size) h.2.size (.cells #[.int .i64 x] T)
  exact hb.grown hg (by have := h.2.size; simp; omega) (fun k hk => (h.1.lt k hk).1)
set_option maxRecDepth 100000 in
set_option maxHeartbeats 8000000 in
theorem implCounting : CountingC := by
  intro r m s K a k cap x y w hr hl3 hk8 hm ht hch hK h0 h1 h2
  obtain ⟨i0, hi, hz0, hz1, hz2⟩ := info_parts intInfo
  obtain ⟨W0, hW0⟩ : ∃ W0, W0 = (w.alloc (.cells #[.int .i64 r.f, .int .i64 r.ev, .int .i64 r.ct, .int .i64 r.un, .slice m.a0 r.ds.length m.c0, .slice m.a1 r.da.length m.c1, .slice m.a2 r.mo.length m.c2, .slice m.a3 r.pl.length m.c3, .int .i64 r.wk] 26)).alloc (.cells #[.int .i64 x, .int .i64 y] 73) := ⟨_, rfl⟩
  have hb0 : Below w.heap.size w W0 := by rw [hW0]; exact ((Below.refl _ w).alloc (Nat.le_refl _) _).alloc (by simp) _
  have hc1 : CF W0 (w.heap.size + 1) #[.int .i64 x, .int .i64 y] := by
    have := CF.new (w.alloc (.cells #[.int .i64 r.f, .int .i64 r.ev, .int .i64 r.ct, .int .i64 r.un, .slice m.a0 r.ds.length m.c0, .slice m.a1 r.da.length m.c1, .slice m.a2 r.mo.length m.c2, .slice m.a3 r.pl.length m.c3, .int .i64 r.wk] 26)) #[.int .i64 x, .int .i64 y] 73
    rw [World.size_alloc] at this; rw [hW0]; exact this
  have hcr : CB W0 w.heap.size r m := by rw [hW0]; exact (CB.new w r m 26).on (Below.heap_alloc _ _ _ (by simp))
  have HB0 : Hid (Below w.heap.size w W0) := hb0
  have HC1 : Hid (CF W0 (w.heap.size + 1) #[.int .i64 x, .int .i64 y]) := hc1
  have HCR : Hid (CB W0 w.heap.size r m) := hcr
  have HM : Hid (RMem W0 r m) := hm.below hb0
  have HT : Hid (Tab W0) := ht.on hb0
  have HCH : Hid (ChR K W0 a k r s) := hch.on hb0.size (fun j hj => hb0.block j (hK j hj))
  have HK : Hid (∀ j, K j → j < W0.heap.size) := fun j hj => by have := hK j hj; have := hb0.size; omega
  have HW0 : Hid (W0 = (w.alloc (.cells #[.int .i64 r.f, .int .i64 r.ev, .int .i64 r.ct, .int .i64 r.un, .slice m.a0 r.ds.length m.c0, .slice m.a1 r.da.length m.c1, .slice m.a2 r.mo.length m.c2, .slice m.a3 r.pl.length m.c3, .int .i64 r.wk] 26)).alloc (.cells #[.int .i64 x, .int .i64 y] 73)) := hW0
  have hsz : W0.heap.size = w.heap.size + 2 := by rw [hW0]; simp
  have hs2 : w.heap.size + 2 ≤ W0.heap.size := by omega
  clear hm ht hch hK hb0 hc1 hcr hW0 hsz
  go_enter Tryd.func59, Tryd.ntmps59
  go_wp2
  rw [← HW0.out]
  go_loopw [7, 8] (fun v i wr => ∃ d : Int, x ≤ d ∧ (d ≤ y + 1 ∨ d = x) ∧ i = .int .i64 d ∧ IL W0 v (fitL r s x d) wr) (fun _ i _ => (y + 1 - intOf i).toNat)
  case atStart => exact ⟨x, by omega, .inr rfl, rfl, by unfold fitL; rw [ira_nil (Int.le_refl _)]; exact IL.nil W0⟩
  case round =>
    obtain ⟨d, hd0, hd1, rfl, K1⟩ := hrel
    have hb : Below W0.heap.size W0 wr := K1.2
    obtain ⟨p1, _⟩ := (HC1.out.below hb).2 1 _ rfl
    by_cases hle : d ≤ y
    · have hdy : 0 ≤ d ∧ d ≤ 3652058 := by omega
      have HIC : Hid (Calls Tryd.prog 76 #[.slice a k cap, .int .i64 d] wr fun e w' => e = .returned (.bool (fitB r s d)) ∧ Below wr.heap.size wr w') := implIsChosen r s K a k cap d wr hk8 (HCH.out.on hb.size (fun j hj => hb.block j (HK.out j hj))) (fun j hj => by have := HK.out j hj; have := hb.size; omega) (HT.out.on hb) hdy.1 hdy.2
      have hlen : (fitL r s x d).length ≤ 400 := by
        have := asc_len (fitL r s x d) x (d - 1) (fitL_asc r s x d) (fun z hz => by have := fitL_mem hz; omega)
        omega
      have HSY : Hid (fitB r s d = true → fitL r s x (d + 1) = fitL r s x d ++ [d]) := fun h => fitL_snoc_yes hd0 hdy h
      have HSN : Hid (fitB r s d = false → fitL r s x (d + 1) = fitL r s x d) := fun h => fitL_snoc_no hd0 (fun h' => by rw [h] at h'; exact absurd h'.2 (by simp))
      clear hb
      generalize fitL r s x d = L at K1 hlen HSY HSN
      go_wp2_with fail
      refine HIC.out.mono ?_
      rintro e w1 ⟨rfl, b1⟩
      have KK := IL.on K1 b1
      clear K1 b1 p1
      cases hf : fitB r s d with
      | true =>
        have HF : Hid (fitB r s d = true) := hf
        clear hf
        have hll : (L.map (Value.int .i64)).length = L.length := List.length_map _
        go_wp2_with (first
        | (at_builtin; refine wpList_append_own _ rfl _ _ 24 rfl W0.heap.size 3 i0 (.int .i64 0) 1 8 Tryd.underlying24 hi hz0 hz1 hz2 rfl (by decide) _ _ _ rfl (World.ownsRow.alloc KK.1 _) ⟨_, 0, none⟩ 1 1 [.int .i64 d] rfl rfl (cell_one_new _ _ _) (by simp [Value.oneCell']) (by unfold maxLen; omega) (by omega) (by have := KK.2.size; simp; omega) ?_; intro v' w4 hown hgrow _; have K4 := IL.app KK hown hgrow; clear hown hgrow))
        go_roundw
        case rel => exact ⟨d + 1, by omega, .inl (by omega), by go_num, by rw [HSY.out HF.out]; exact K4⟩
        case measure => simp [intOf]; omega
      | false =>
        have HF : Hid (fitB r s d = false) := hf
        have HKK : Hid (IL W0 u7 L w1) := KK
        clear hf KK
        go_wp2
        go_roundw
        case rel => exact ⟨d + 1, by omega, .inl (by omega), by go_num, by rw [HSN.out HF.out]; exact HKK.out⟩
        case measure => simp [intOf]; omega
    · have HE : fitL r s x d = fitL r s x (y + 1) := by
        rcases hd1 with h | h
        · rw [show d = y + 1 by omega]
        · unfold fitL; rw [ira_nil (a := x) (b := d) (by omega), ira_nil (a := x) (b := y + 1) (by omega)]
      rw [HE] at K1
      have hlen : (fitL r s x (y + 1)).length ≤ 400 := by
        have := asc_len (fitL r s x (y + 1)) x y (fitL_asc r s x (y + 1)) (fun z hz => by have := fitL_mem hz; omega)
        omega
      obtain ⟨L, hL⟩ : ∃ L, L = fitL r s x (y + 1) := ⟨_, rfl⟩
      rw [← hL] at K1 hlen
      obtain ⟨av, cv, rfl, iv, _, _⟩ := K1.1.val
      have HK1 : Hid (IL W0 (.slice av L.length cv) L wr) := K1
      have HL : Hid (L = fitL r s x (y + 1)) := hL
      have c7 := (HCR.out.on (hb.block _ HCR.out.lt)).2.2.2.2.2.2.2.1
      have HIV : Hid (IsInts wr av L) := iv
      have HPL : Hid (IsInts wr m.a3 r.pl) := HM.out.p.below hb
      have HCR1 : Hid (CB wr w.heap.size r m) := HCR.out.on (hb.block _ HCR.out.lt)
      clear K1 HE hL iv hb hd1
      by_cases hp : r.pl.length = 0
      · have HC : Hid (choice r s x y = L) := by unfold Hid choice; rw [if_pos hp, HL.out]
        go_wp2
        go_ret
        refine ⟨⟨_, rfl, ?_⟩, bstep HB0.out HK1.out.2⟩
        rw [HC.out]
        exact HK1.out.1.base HB0.out.size
      · have HC : Hid (choice r s x y = plL r.pl L L.length) := by unfold Hid choice; rw [if_neg hp, HL.out]
        have hp' : ¬ (r.pl.length : Int) = 0 := by omega
        go_wp2
        obtain ⟨wo, hwo⟩ : ∃ wo, wo = wr := ⟨_, rfl⟩
        subst hwo
        go_loopw [9, 34] (fun v i wr => ∃ q : Nat, q ≤ L.length ∧ i = .int .i64 q ∧ IL wo v (plL r.pl L q) wr) (fun _ i _ => L.length - (intOf i).toNat)
        case atStart => exact ⟨0, by omega, rfl, by rw [plL_zero]; exact IL.nil wo⟩
        case round =>
          obtain ⟨q, hq, rfl, K2⟩ := hrel
          have hb2 : Below wo.heap.size wo wr := K2.2
          by_cases hlt : q < L.length
          · have G1 := HIV.out
            rcases G1 with G1 | ⟨b, o, rfl, hbs, hc⟩
            · rw [G1] at hlt; simp at hlt
            have c0 : wr.cell? ⟨b, o + q, none⟩ = some (.int .i64 (gi L q)) := by rw [hb2.cell (p := ⟨b, o + q, none⟩) hbs]; exact hc q hlt
            have c7 : wr.cell? ⟨w.heap.size, 7, none⟩ = some (.slice m.a3 r.pl.length m.c3) := (HCR1.out.on (hb2.block _ HCR1.out.lt)).2.2.2.2.2.2.2.1
            have HPL2 : Hid (IsInts wr m.a3 r.pl) := HPL.out.below hb2
            have hi1 : (q : Int) < (L.length : Int) := by omega
            have hi0 : (0 : Int) ≤ (q : Int) := by omega
            have hpl : (plL r.pl L q).length ≤ 400 := by
              unfold plL; rw [List.length_map]
              have := List.length_filter_le (plB r.pl L.length) (List.range q)
              rw [List.length_range] at this; omega
            have HPY : Hid (plB r.pl L.length q = true → plL r.pl L (q + 1) = plL r.pl L q ++ [gi L q]) := fun h => plL_yes h
            have HPN : Hid (plB r.pl L.length q = false → plL r.pl L (q + 1) = plL r.pl L q) := fun h => plL_no h
            clear hc hb2
            generalize plL r.pl L q = PL at K2 hpl HPY HPN
            have KK := K2
            clear K2
            have hll : (PL.map (Value.int .i64)).length = PL.length := List.length_map _
            cases h1 : hasI r.pl ((q : Int) + 1) with
            | true =>
              have HF : Hid (plB r.pl L.length q = true) := by unfold Hid plB; rw [h1]; rfl
              have H1 : Hid (hasI r.pl ((q : Int) + 1) = true) := h1
              clear h1
              go_wp2_with fail
              refine (implHas _ _ _ _ _ HPL2.out (by omega) _ H1.out).mono ?_
              rintro e w' ⟨rfl, rfl⟩
              go_wp2_with (first
                | (at_builtin; refine wpList_append_own _ rfl _ _ 24 rfl wo.heap.size 3 i0 (.int .i64 0) 1 8 Tryd.underlying24 hi hz0 hz1 hz2 rfl (by decide) _ _ _ rfl (World.ownsRow.alloc KK.1 _) ⟨_, 0, none⟩ 1 1 [.int .i64 (gi L q)] rfl rfl (cell_one_new _ _ _) (by simp [Value.oneCell']) (by unfold maxLen; omega) (by omega) (by have := KK.2.size; simp; omega) ?_; intro v' w4 hown hgrow _; have K4 := IL.app KK hown hgrow; clear hown hgrow))
              go_roundw
              case rel => exact ⟨q + 1, by omega, by go_num, by rw [HPY.out HF.out]; exact K4⟩
              case measure => simp [intOf]; omega
            | false =>
              have H1 : Hid (hasI r.pl ((q : Int) + 1) = false) := h1
              cases h2 : hasI r.pl ((q : Int) - (L.length : Int)) with
              | true =>
                have HF : Hid (plB r.pl L.length q = true) := by unfold Hid plB; rw [h1, h2]; rfl
                have H2 : Hid (hasI r.pl ((q : Int) - (L.length : Int)) = true) := h2
                clear h1 h2
                go_wp2_with fail
                refine (implHas _ _ _ _ _ HPL2.out (by omega) _ H1.out).mono ?_
                rintro e w' ⟨rfl, rfl⟩
                go_wp2_with fail
                refine (implHas _ _ _ _ _ HPL2.out (by omega) _ H2.out).mono ?_
                rintro e w' ⟨rfl, rfl⟩
                go_wp2_with (first
                | (at_builtin; refine wpList_append_own _ rfl _ _ 24 rfl wo.heap.size 3 i0 (.int .i64 0) 1 8 Tryd.underlying24 hi hz0 hz1 hz2 rfl (by decide) _ _ _ rfl (World.ownsRow.alloc KK.1 _) ⟨_, 0, none⟩ 1 1 [.int .i64 (gi L q)] rfl rfl (cell_one_new _ _ _) (by simp [Value.oneCell']) (by unfold maxLen; omega) (by omega) (by have := KK.2.size; simp; omega) ?_; intro v' w4 hown hgrow _; have K4 := IL.app KK hown hgrow; clear hown hgrow))
                go_roundw
                case rel => exact ⟨q + 1, by omega, by go_num, by rw [HPY.out HF.out]; exact K4⟩
                case measure => simp [intOf]; omega
              | false =>
                have HF : Hid (plB r.pl L.length q = false) := by unfold Hid plB; rw [h1, h2]; rfl
                have H2 : Hid (hasI r.pl ((q : Int) - (L.length : Int)) = false) := h2
                have HKK : Hid (IL wo u9 PL wr) := KK
                clear h1 h2 KK
                go_wp2_with fail
                refine (implHas _ _ _ _ _ HPL2.out (by omega) _ H1.out).mono ?_
                rintro e w' ⟨rfl, rfl⟩
                go_wp2_with fail
                refine (implHas _ _ _ _ _ HPL2.out (by omega) _ H2.out).mono ?_
                rintro e w' ⟨rfl, rfl⟩
                go_wp2
                go_roundw
                case rel => exact ⟨q + 1, by omega, by go_num, by rw [HPN.out HF.out]; exact HKK.out⟩
                case measure => simp [intOf]; omega
          · have hqe : q = L.length := by omega
            subst hqe
            have HK2 : Hid (IL wo u9 (plL r.pl L L.length) wr) := K2
            clear K2 hb2
            go_wp2
            go_ret
            refine ⟨⟨_, rfl, ?_⟩, bstep (bstep HB0.out HK1.out.2) HK2.out.2⟩
            rw [HC.out]
            exact HK2.out.1.base (by have := HB0.out.size; have := HK1.out.2.size; omega)
end Go.Proofs.YtlfglhpepoepcaaDoor
