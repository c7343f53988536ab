/- Spans put in order: the specification's first loop, and the second. -/
import Derived.Test.YtddjbcggdmeidaaSr
namespace Go.Proofs.Ytddjbcggdmeidaa
open Go.RowKit
set_option linter.unusedVariables false
theorem OP.glt {w : World} {B g n c : Nat} {T : TypeId} {l : List (Int × Int)} (h : OP w B T (.slice (some ⟨g, 0, none⟩) n c) l) : g < w.heap.size ∧ B ≤ g := by
  rcases h.2 with ⟨e, _⟩ | ⟨g', cap, cur, e, hB, hg, _⟩
  · simp at e
  · simp only [Value.slice.injEq, Option.some.injEq, Addr.mk.injEq, and_true] at e
    obtain ⟨rfl, _, _⟩ := e
    exact ⟨(Array.getElem?_eq_some_iff.1 hg).1, hB⟩
theorem OP.capn {w : World} {B g n c : Nat} {T : TypeId} {l : List (Int × Int)} (h : OP w B T (.slice (some ⟨g, 0, none⟩) n c) l) : n ≤ c := by
  rcases h.2 with ⟨e, _⟩ | ⟨g', cap, cur, e, hB, hg, hn, _⟩
  · simp at e
  · simp only [Value.slice.injEq, Option.some.injEq, Addr.mk.injEq, and_true] at e
    obtain ⟨rfl, rfl, rfl⟩ := e
    exact hn
theorem pcs_setTo (o : List (Int × Int)) (l : Int × Int) (y : Int) : (pcs (o ++ [l])).set (o.length * 2 + 1) (.int .i64 y) = pcs (o ++ [(l.1, y)]) := by
  rw [pcs_append, pcs_append, List.set_append, if_neg (by rw [pcs_len]; omega), pcs_len]
  congr 1
  rw [show o.length * 2 + 1 - o.length * 2 = 1 by omega]
  rfl
theorem OP.setTo {w : World} {B g n c : Nat} {T : TypeId} {o : List (Int × Int)} {l : Int × Int} (h : OP w B T (.slice (some ⟨g, 0, none⟩) n c) (o ++ [l])) (hn : n = o.length + 1) (y : Int) : OP (w.setCell ⟨g, o.length * 2 + 1, none⟩ (.int .i64 y)) B T (.slice (some ⟨g, 0, none⟩) n c) (o ++ [(l.1, y)]) := by
  subst hn
  have hl : (o ++ [l]).length = o.length + 1 := by simp
  have h' : w.ownsRow B T 2 (.slice (some ⟨g, 0, none⟩) (o.length + 1) c) (o.length + 1) (pcs (o ++ [l])) := by have q := h; unfold OP at q; rw [hl] at q; exact q
  have q := (World.ownsRow.stored (w := w) (base := B) (e := T) (size := 2) (g := g) (n := o.length + 1) (cap := c) (xs := pcs (o ++ [l])) h' (o.length * 2 + 1) (.int .i64 y)).1
  rw [pcs_setTo] at q
  unfold OP
  rw [show (o ++ [(l.1, y)]).length = o.length + 1 by simp]
  exact q
/-- What stands ahead of one more. -/
structure InsI (w : World) (ss : List (Int × Int)) (i g c : Nat) (al : List (Int × Int)) (W : World) : Prop where
  own : OP W w.heap.size 28 (.slice (some ⟨g, 0, none⟩) i c) al
  len : al.length = i
  srt : SrtF al
  perm : al.Perm (ss.take i)
  bel : Below w.heap.size w W
theorem ins_done {w wo wi w3 : World} {ss al : List (Int × Int)} {i g c k : Nat} {X Y : Int} {v3 : Value} {N : Nat} (h : InsI w ss i g c al wo) (hk : k ≤ i) (ht : ss.take (i + 1) = ss.take i ++ [(X, Y)]) (h1 : ∀ j, j < k → tAt al j < X) (h2 : k < i → ¬ tAt al k < X)
    (o3' : w3.ownsRow wi.heap.size 28 2 v3 N ([] ++ pcs (al.take k) ++ [.int .i64 X, .int .i64 Y] ++ pcs ((al.drop k).take (i - k)))) (b3 : Below wi.heap.size wi w3) (hb : Below wo.heap.size wo wi) :
    ∃ g' c', v3 = .slice (some ⟨g', 0, none⟩) (i + 1) c' ∧ InsI w ss (i + 1) g' c' (al.take k ++ [(X, Y)] ++ al.drop k) w3 := by
  have o3 : w3.ownsRow wi.heap.size 28 2 v3 N (pcs (al.take k) ++ ([.int .i64 X, .int .i64 Y] ++ pcs (al.drop k))) := by
    have q := o3'
    rw [List.take_of_length_le (l := al.drop k) (by rw [List.length_drop, h.len]; exact Nat.le_refl _), List.nil_append, List.append_assoc] at q
    exact q
  have hlen : (al.take k ++ [(X, Y)] ++ al.drop k).length = i + 1 := by simp [h.len]; omega
  have hp : pcs (al.take k ++ [(X, Y)] ++ al.drop k) = pcs (al.take k) ++ ([.int .i64 X, .int .i64 Y] ++ pcs (al.drop k)) := by rw [pcs_append, pcs_append, List.append_assoc]; rfl
  have hN : N = i + 1 := by
    have e := o3.1
    rw [← hp, pcs_len, hlen] at e
    omega
  subst hN
  have own : OP w3 wi.heap.size 28 v3 (al.take k ++ [(X, Y)] ++ al.drop k) := by unfold OP; rw [hlen, hp]; exact o3
  obtain ⟨g', c', e, _, _⟩ := own.shape (by omega)
  rw [hlen] at e
  subst e
  have hbo : w.heap.size ≤ wi.heap.size := Nat.le_trans h.bel.size hb.size
  obtain ⟨s1, s2⟩ := ins_sorted h.srt (X, Y) k (by rw [h.len]; exact hk) h1 (fun hh => h2 (by rw [h.len] at hh; exact hh))
  refine ⟨g', c', rfl, own.base hbo, hlen, s1, ?_, bstep h.bel (bstep hb b3)⟩
  rw [ht]
  exact s2.trans ((List.Perm.cons _ h.perm).trans (List.perm_append_singleton _ _).symm)
set_option maxRecDepth 100000 in
set_option maxHeartbeats 16000000 in
theorem specL5Busy (a : Option Addr) (cap : Nat) (ss : List (Int × Int)) (w : World) (h : IsTurns w a ss) (hl : ss.length ≤ 1000) (hs : ∀ s ∈ ss, s.1 < s.2) :
    Calls Try.prog 20 #[.slice a ss.length cap] w fun e w' => (∃ v, e = .returned v ∧ OP w' w.heap.size 28 v (busyL ss)) ∧ Below w.heap.size w w' := by
  obtain ⟨i0, hi, hz0, hz1, hz2⟩ := info_parts spanInfo
  have HT : Hid (IsTurns w a ss) := h
  have HS : Hid (∀ s ∈ ss, s.1 < s.2) := hs
  have O0 := OP.made w 28 [] #[] rfl (by simp)
  have HI0 : Hid (InsI w ss 0 w.heap.size 0 [] (w.alloc (.cells #[] 28))) := ⟨by simpa using O0, rfl, .nil, by simp, (Below.refl _ _).alloc (Nat.le_refl _) _⟩
  clear h O0 hs
  go_enter Try.func20, Try.ntmps20
  go_wp2
  go_loopw [3, 4, 5] (fun av iv _ wr => ∃ (i g c : Nat) (al : List (Int × Int)), i ≤ ss.length ∧ iv = .int .i64 i ∧ av = .slice (some ⟨g, 0, none⟩) i c ∧ InsI w ss i g c al wr) (fun _ iv _ _ => ss.length - (intOf iv).toNat)
  case atStart => exact ⟨0, w.heap.size, 0, [], by omega, rfl, rfl, HI0.out⟩
  case round =>
    obtain ⟨i, g, c, al, hk, rfl, rfl, hI⟩ := hrel
    obtain ⟨wo, hwo⟩ : ∃ wo, wo = wr := ⟨wr, rfl⟩
    subst hwo
    have HI : Hid (InsI w ss i g c al wo) := hI
    clear hI
    by_cases hlt : i < ss.length
    · have T := HT.out.below (B := 0) HI.out.bel
      rcases T with T | ⟨b, off, rfl, hbs, hc⟩
      · rw [T] at hlt; simp at hlt
      obtain ⟨c0, c1⟩ := hc i hlt
      have hi0 : (0 : Int) ≤ (i : Int) := by omega
      have hi1 : (i : Int) < (ss.length : Int) := by omega
      have HC0 : Hid (wo.cell? ⟨b, off + i * 2, none⟩ = some (.int .i64 (tAt ss i)) ∧ wo.cell? ⟨b, off + i * 2 + 1, none⟩ = some (.int .i64 (tSh ss i))) := ⟨c0, c1⟩
      have HTK : Hid (ss.take (i + 1) = ss.take i ++ [(tAt ss i, tSh ss i)]) := by unfold Hid; rw [List.take_add_one, tAt_get ss i hlt]; simp [hlt]
      clear hc c0 c1
      generalize tAt ss i = X at HC0 HTK
      generalize tSh ss i = Y at HC0 HTK
      go_wp2
      go_loopw [5] (fun kv wi => ∃ k : Nat, k ≤ i ∧ kv = .int .i64 k ∧ (∀ j, j < k → tAt al j < X) ∧ Below wo.heap.size wo wi) (fun kv _ => i - (intOf kv).toNat)
      case atStart => exact ⟨0, by omega, rfl, fun j hj => by omega, Below.refl _ _⟩
      case round =>
        obtain ⟨k, hk2, rfl, hA, hb⟩ := hrel
        have HA : Hid (∀ j, j < k → tAt al j < X) := hA
        clear hA
        have c0 : wr.cell? ⟨b, off + i * 2, none⟩ = some (.int .i64 X) := by rw [hb.cell (p := ⟨b, off + i * 2, none⟩) hbs]; exact HC0.out.1
        have c1 : wr.cell? ⟨b, off + i * 2 + 1, none⟩ = some (.int .i64 Y) := by rw [hb.cell (p := ⟨b, off + i * 2 + 1, none⟩) hbs]; exact HC0.out.2
        have hk0 : (0 : Int) ≤ (k : Int) := by omega
        by_cases hks : k < i ∧ tAt al k < X
        · obtain ⟨hk3, hk4⟩ := hks
          have hk3' : (k : Int) < (i : Int) := by omega
          obtain ⟨q0, q1, _⟩ := (HI.out.len ▸ HI.out.own.on hb : OP wr w.heap.size 28 (.slice (some ⟨g, 0, none⟩) al.length c) al).at (i := k) (by rw [HI.out.len]; exact hk3)
          have HG : Hid (∀ j, j < k + 1 → tAt al j < X) := fun j hj => by
            by_cases e : j = k
            · subst e; exact hk4
            · exact HA.out j (by omega)
          generalize tAt al k = Z at q0 hk4
          clear q1
          go_wp2
          go_quiet (fail)
          go_wp2
          go_roundw
          case rel => exact ⟨k + 1, by omega, by go_num, HG.out, Below.drewN' hb _⟩
          case measure => simp [intOf]; omega
        · by_cases hk3 : k < i
          · have hk3' : (k : Int) < (i : Int) := by omega
            have hk4 : ¬ tAt al k < X := fun hh => hks ⟨hk3, hh⟩
            obtain ⟨q0, q1, _⟩ := (HI.out.len ▸ HI.out.own.on hb : OP wr w.heap.size 28 (.slice (some ⟨g, 0, none⟩) al.length c) al).at (i := k) (by rw [HI.out.len]; exact hk3)
            have HK4 : Hid (¬ tAt al k < X) := hk4
            generalize tAt al k = Z at q0 hk4
            have hck : ¬ c = k := by have := HI.out.own.capn; omega
            clear q1 hks
            go_wp2
            go_quiet (fail)
            go_wp2
            have hbw := Below.drewN' hb nq
            have e0 : (wr.drewN nq).cell? ⟨b, off + i * 2, none⟩ = some (.int .i64 X) := c0
            have e1 : (wr.drewN nq).cell? ⟨b, off + i * 2 + 1, none⟩ = some (.int .i64 Y) := c1
            generalize wr.drewN nq = wi at hbw e0 e1 ⊢
            clear c0 c1 hb
            have c0 := e0
            have c1 := e1
            have hb := hbw
            clear e0 e1 hbw
            have HOI : Hid (OP wi w.heap.size 28 (.slice (some ⟨g, 0, none⟩) i c) al) := HI.out.own.on hb
            have hgl := HOI.out.glt.1
            have hcap := HOI.out.capn
            have hki : (k : Int) ≤ (i : Int) := by omega
            have hkc : (k : Int) ≤ (c : Int) := by omega
            have hic : (i : Int) ≤ (c : Int) := by omega
            have K0 : SB wi b (off + i * 2) X Y wi := SB.of c0 c1 (Below.refl _ _)
            have N1 : ∀ w' : World, Below wi.heap.size wi w' → ∀ j u, (pcs (al.take k))[j]? = some u → w'.cell? ((⟨g, 0, none⟩ : Addr).add j) = some u := fun w' hb' => by have q := part_news HOI.out HI.out.len.symm hgl hb' 0 k; simpa using q
            have N3 : ∀ w' : World, Below wi.heap.size wi w' → ∀ j u, (pcs ((al.drop k).take (i - k)))[j]? = some u → w'.cell? ((⟨g, k * 2, none⟩ : Addr).add j) = some u := fun w' hb' => part_news HOI.out HI.out.len.symm hgl hb' k (i - k)
            have L1 : (pcs (al.take k)).length = k * 2 := by rw [pcs_len, List.length_take, HI.out.len]; congr 1; omega
            have L3 : (pcs ((al.drop k).take (i - k))).length = (i - k) * 2 := by rw [pcs_len, List.length_take, List.length_drop, HI.out.len]; congr 1; omega
            have HN1 : Hid (∀ w' : World, Below wi.heap.size wi w' → ∀ j u, (pcs (al.take k))[j]? = some u → w'.cell? ((⟨g, 0, none⟩ : Addr).add j) = some u) := N1
            have HN3 : Hid (∀ w' : World, Below wi.heap.size wi w' → ∀ j u, (pcs ((al.drop k).take (i - k)))[j]? = some u → w'.cell? ((⟨g, k * 2, none⟩ : Addr).add j) = some u) := N3
            have HL1 : Hid ((pcs (al.take k)).length = k * 2) := L1
            have HL3 : Hid ((pcs ((al.drop k).take (i - k))).length = (i - k) * 2) := L3
            clear N1 N3 L1 L3
            have OWa : ((wi.alloc (.cells #[] 28)).drew).ownsRow wi.heap.size 28 2 (.slice (some ⟨wi.heap.size, 0, none⟩) 0 0) 0 [] := own_e wi.drew _ _ _ (Nat.le_refl _) rfl
            have OWb : (((wi.alloc (.cells #[] 28)).alloc (.cells #[.int .i64 X, .int .i64 Y] 28)).drew).ownsRow wi.heap.size 28 2 (.slice (some ⟨wi.heap.size, 0, none⟩) 0 0) 0 [] := World.ownsRow.alloc OWa _
            have OWc : (((wi.alloc (.cells #[.int .i64 X, .int .i64 Y] 28)).alloc (.cells #[] 28)).drew).ownsRow wi.heap.size 28 2 (.slice (some ⟨wi.heap.size + 1, 0, none⟩) 0 0) 0 [] := own_e (wi.drew.alloc _) _ _ _ (by simp [go_sem]) (by simp [go_sem])
            have XB0 : (((wi.alloc (.cells #[] 28)).alloc (.cells #[.int .i64 X, .int .i64 Y] 28)).drew).cell? ⟨wi.heap.size + 1, 0, none⟩ = some (.int .i64 X) := by simp [go_sem, World.cell?_alloc_at]
            have XB1 : (((wi.alloc (.cells #[] 28)).alloc (.cells #[.int .i64 X, .int .i64 Y] 28)).drew).cell? ⟨wi.heap.size + 1, 1, none⟩ = some (.int .i64 Y) := by simp [go_sem, World.cell?_alloc_at]
            have XC0 : (((wi.alloc (.cells #[.int .i64 X, .int .i64 Y] 28)).alloc (.cells #[] 28)).drew).cell? ⟨wi.heap.size, 0, none⟩ = some (.int .i64 X) := by simp [go_sem, World.cell?_alloc_at, World.cell?_alloc_past]
            have XC1 : (((wi.alloc (.cells #[.int .i64 X, .int .i64 Y] 28)).alloc (.cells #[] 28)).drew).cell? ⟨wi.heap.size, 1, none⟩ = some (.int .i64 Y) := by simp [go_sem, World.cell?_alloc_at, World.cell?_alloc_past]
            have BA : Below wi.heap.size wi ((wi.alloc (.cells #[] 28)).drew) := ((Below.refl _ _).alloc (Nat.le_refl _) _).drew
            have BB : Below wi.heap.size wi (((wi.alloc (.cells #[] 28)).alloc (.cells #[.int .i64 X, .int .i64 Y] 28)).drew) := (((Below.refl _ _).alloc (Nat.le_refl _) _).alloc (by simp) _).drew
            have BC : Below wi.heap.size wi (((wi.alloc (.cells #[.int .i64 X, .int .i64 Y] 28)).alloc (.cells #[] 28)).drew) := (((Below.refl _ _).alloc (Nat.le_refl _) _).alloc (by simp) _).drew
            have HW : Hid (((((wi.alloc (.cells #[] 28)).drew).ownsRow wi.heap.size 28 2 (.slice (some ⟨wi.heap.size, 0, none⟩) 0 0) 0 [] ∧ (((wi.alloc (.cells #[] 28)).alloc (.cells #[.int .i64 X, .int .i64 Y] 28)).drew).ownsRow wi.heap.size 28 2 (.slice (some ⟨wi.heap.size, 0, none⟩) 0 0) 0 [] ∧ (((wi.alloc (.cells #[.int .i64 X, .int .i64 Y] 28)).alloc (.cells #[] 28)).drew).ownsRow wi.heap.size 28 2 (.slice (some ⟨wi.heap.size + 1, 0, none⟩) 0 0) 0 []) ∧ ((((wi.alloc (.cells #[] 28)).alloc (.cells #[.int .i64 X, .int .i64 Y] 28)).drew).cell? ⟨wi.heap.size + 1, 0, none⟩ = some (.int .i64 X) ∧ (((wi.alloc (.cells #[] 28)).alloc (.cells #[.int .i64 X, .int .i64 Y] 28)).drew).cell? ⟨wi.heap.size + 1, 1, none⟩ = some (.int .i64 Y)) ∧ ((((wi.alloc (.cells #[.int .i64 X, .int .i64 Y] 28)).alloc (.cells #[] 28)).drew).cell? ⟨wi.heap.size, 0, none⟩ = some (.int .i64 X) ∧ (((wi.alloc (.cells #[.int .i64 X, .int .i64 Y] 28)).alloc (.cells #[] 28)).drew).cell? ⟨wi.heap.size, 1, none⟩ = some (.int .i64 Y))) ∧ (Below wi.heap.size wi ((wi.alloc (.cells #[] 28)).drew) ∧ Below wi.heap.size wi (((wi.alloc (.cells #[] 28)).alloc (.cells #[.int .i64 X, .int .i64 Y] 28)).drew) ∧ Below wi.heap.size wi (((wi.alloc (.cells #[.int .i64 X, .int .i64 Y] 28)).alloc (.cells #[] 28)).drew))) := ⟨⟨⟨OWa, OWb, OWc⟩, ⟨XB0, XB1⟩, XC0, XC1⟩, BA, BB, BC⟩
            clear OWa OWb OWc XB0 XB1 XC0 XC1 BA BB BC
            go_region_held_law (fun w' => w'.cell? ⟨b, off + i * 2, none⟩ = some (.int .i64 X) ∧ w'.cell? ⟨b, off + i * 2 + 1, none⟩ = some (.int .i64 Y) ∧ b < wi.heap.size ∧ Below wi.heap.size wi w')
              (first | assumption | exact SB.of c0 c1 (Below.refl _ _).drew | exact SB.alloc (by assumption) _ | exact SB.of c0 c1 (((Below.refl _ _).alloc (Nat.le_refl _) _).drew) | fail)
              (first
                | ((refine step_append_any _ (by rfl) _ _ _ (by rfl) wi.heap.size 28 i0 (.agg #[.int .i64 0, .int .i64 0]) 2 16 Try.underlying23 hi hz0 hz1 hz2 rfl (by omega) _ 0 [] (by rfl) HW.out.1.1.1 ⟨g, 0, none⟩ k _ (pcs (al.take k)) (by rfl) HL1.out (HN1.out _ HW.out.2.1) (pcs_one _) (by unfold maxLen; omega) (by omega) HW.out.2.1.size ?_; intro v1 w1 o1 hgrow; have S1 : SB wi b (off + i * 2) X Y w1 := SB.of c0 c1 (HW.out.2.1.grown hgrow HW.out.2.1.size (fun q hq => (World.ownsRow.lt HW.out.1.1.1 q hq).1))))
                | ((refine step_append_any _ (by rfl) _ _ _ (by rfl) wi.heap.size 28 i0 (.agg #[.int .i64 0, .int .i64 0]) 2 16 Try.underlying23 hi hz0 hz1 hz2 rfl (by omega) _ 0 [] (by rfl) HW.out.1.1.2.1 ⟨g, 0, none⟩ k _ (pcs (al.take k)) (by rfl) HL1.out (HN1.out _ HW.out.2.2.1) (pcs_one _) (by unfold maxLen; omega) (by omega) HW.out.2.2.1.size ?_; intro v1 w1 o1 hgrow; have S1 : SB wi b (off + i * 2) X Y w1 := SB.of c0 c1 (HW.out.2.2.1.grown hgrow HW.out.2.2.1.size (fun q hq => (World.ownsRow.lt HW.out.1.1.2.1 q hq).1)); have hx1 := two_far (wi.heap.size + 1) X Y hgrow rfl (by omega) HW.out.1.2.1.1 HW.out.1.2.1.2))
                | ((refine step_append_any _ (by rfl) _ _ _ (by rfl) wi.heap.size 28 i0 (.agg #[.int .i64 0, .int .i64 0]) 2 16 Try.underlying23 hi hz0 hz1 hz2 rfl (by omega) _ 0 [] (by rfl) HW.out.1.1.2.2 ⟨g, 0, none⟩ k _ (pcs (al.take k)) (by rfl) HL1.out (HN1.out _ HW.out.2.2.2) (pcs_one _) (by unfold maxLen; omega) (by omega) HW.out.2.2.2.size ?_; intro v1 w1 o1 hgrow; have S1 : SB wi b (off + i * 2) X Y w1 := SB.of c0 c1 (HW.out.2.2.2.grown hgrow HW.out.2.2.2.size (fun q hq => (World.ownsRow.lt HW.out.1.1.2.2 q hq).1)); have hx1 := two_far wi.heap.size X Y hgrow rfl (by omega) HW.out.1.2.2.1 HW.out.1.2.2.2))
                | ((refine step_append_any _ (by rfl) _ _ _ (by rfl) wi.heap.size 28 i0 (.agg #[.int .i64 0, .int .i64 0]) 2 16 Try.underlying23 hi hz0 hz1 hz2 rfl (by omega) _ (0 + k) ([] ++ pcs (al.take k)) (by rfl) o1 ⟨_, 0, none⟩ 1 1 [.int .i64 _, .int .i64 _] (by rfl) (by rfl) (two_news hx1.1 hx1.2) (by simp [Value.oneCell']) (by unfold maxLen; omega) (by omega) (SBb S1).size ?_; intro v2 w2 o2 hgrow2; have S2 : SB wi b (off + i * 2) X Y w2 := SB.grown S1 o1 hgrow2))
                | ((refine step_append_any _ (by rfl) _ _ _ (by rfl) wi.heap.size 28 i0 (.agg #[.int .i64 0, .int .i64 0]) 2 16 Try.underlying23 hi hz0 hz1 hz2 rfl (by omega) _ (0 + k) ([] ++ pcs (al.take k)) (by rfl) (World.ownsRow.alloc o1 _) ⟨_, 0, none⟩ 1 1 [.int .i64 _, .int .i64 _] (by rfl) (by rfl) (World.news_of_block (heap_alloc_new w1 _)) (by simp [Value.oneCell']) (by unfold maxLen; omega) (by omega) (SBb (SB.alloc S1 _)).size ?_; intro v2 w2 o2 hgrow2; have S2 : SB wi b (off + i * 2) X Y w2 := SB.grown (SB.alloc S1 _) (World.ownsRow.alloc o1 _) hgrow2))
                | ((refine step_append_any _ (by rfl) _ _ _ (by rfl) wi.heap.size 28 i0 (.agg #[.int .i64 0, .int .i64 0]) 2 16 Try.underlying23 hi hz0 hz1 hz2 rfl (by omega) _ (0 + k + 1) ([] ++ pcs (al.take k) ++ [.int .i64 X, .int .i64 Y]) (by rfl) o2 ⟨g, k * 2, none⟩ (i - k) _ (pcs ((al.drop k).take (i - k))) (by rfl) HL3.out (HN3.out _ (SBb S2)) (pcs_one _) (by unfold maxLen; omega) (by omega) (SBb S2).size ?_; intro v3 w3 o3 hgrow3; have S3 : SB wi b (off + i * 2) X Y w3 := SB.grown S2 o2 hgrow3)))
            all_goals
              have HFI : Hid (∃ g' c', v3 = .slice (some ⟨g', 0, none⟩) (i + 1) c' ∧ InsI w ss (i + 1) g' c' (al.take k ++ [(X, Y)] ++ al.drop k) w3) := ins_done HI.out hk2 HTK.out HA.out (fun _ => by have := HK4.out; omega) (o3) (SBb S3) hb
              obtain ⟨g', c', e3, I3⟩ := HFI.out
              have HI3 : Hid (InsI w ss (i + 1) g' c' (al.take k ++ [(X, Y)] ++ al.drop k) w3) := I3
              subst e3
              clear I3 HFI o1 o2 o3 S1 S2 S3 hgrow3 hgrow2 hgrow
              go_wp2
              go_roundw
              case rel => exact ⟨i + 1, g', c', _, by omega, by go_num, rfl, HI3.out⟩
              case measure => simp [intOf]; omega
          · have hk3n : ¬ (k : Int) < (i : Int) := by omega
            clear hks
            by_cases hck : c = k
            · go_wp2
              go_quiet (fail)
              go_wp2
              have hbw := Below.drewN' hb nq
              have e0 : (wr.drewN nq).cell? ⟨b, off + i * 2, none⟩ = some (.int .i64 X) := c0
              have e1 : (wr.drewN nq).cell? ⟨b, off + i * 2 + 1, none⟩ = some (.int .i64 Y) := c1
              generalize wr.drewN nq = wi at hbw e0 e1 ⊢
              clear c0 c1 hb
              have c0 := e0
              have c1 := e1
              have hb := hbw
              clear e0 e1 hbw
              have HOI : Hid (OP wi w.heap.size 28 (.slice (some ⟨g, 0, none⟩) i c) al) := HI.out.own.on hb
              have hgl := HOI.out.glt.1
              have hcap := HOI.out.capn
              have hki : (k : Int) ≤ (i : Int) := by omega
              have hkc : (k : Int) ≤ (c : Int) := by omega
              have hic : (i : Int) ≤ (c : Int) := by omega
              have K0 : SB wi b (off + i * 2) X Y wi := SB.of c0 c1 (Below.refl _ _)
              have N1 : ∀ w' : World, Below wi.heap.size wi w' → ∀ j u, (pcs (al.take k))[j]? = some u → w'.cell? ((⟨g, 0, none⟩ : Addr).add j) = some u := fun w' hb' => by have q := part_news HOI.out HI.out.len.symm hgl hb' 0 k; simpa using q
              have N3 : ∀ w' : World, Below wi.heap.size wi w' → ∀ j u, (pcs ((al.drop k).take (i - k)))[j]? = some u → w'.cell? ((⟨g, 0, none⟩ : Addr).add j) = some u := fun w' hb' j u hu => by rw [show i - k = 0 by omega] at hu; simp [pcs] at hu
              have L1 : (pcs (al.take k)).length = k * 2 := by rw [pcs_len, List.length_take, HI.out.len]; congr 1; omega
              have L3 : (pcs ((al.drop k).take (i - k))).length = (i - k) * 2 := by rw [pcs_len, List.length_take, List.length_drop, HI.out.len]; congr 1; omega
              have HN1 : Hid (∀ w' : World, Below wi.heap.size wi w' → ∀ j u, (pcs (al.take k))[j]? = some u → w'.cell? ((⟨g, 0, none⟩ : Addr).add j) = some u) := N1
              have HN3 : Hid (∀ w' : World, Below wi.heap.size wi w' → ∀ j u, (pcs ((al.drop k).take (i - k)))[j]? = some u → w'.cell? ((⟨g, 0, none⟩ : Addr).add j) = some u) := N3
              have HL1 : Hid ((pcs (al.take k)).length = k * 2) := L1
              have HL3 : Hid ((pcs ((al.drop k).take (i - k))).length = (i - k) * 2) := L3
              clear N1 N3 L1 L3
              have OWa : ((wi.alloc (.cells #[] 28)).drew).ownsRow wi.heap.size 28 2 (.slice (some ⟨wi.heap.size, 0, none⟩) 0 0) 0 [] := own_e wi.drew _ _ _ (Nat.le_refl _) rfl
              have OWb : (((wi.alloc (.cells #[] 28)).alloc (.cells #[.int .i64 X, .int .i64 Y] 28)).drew).ownsRow wi.heap.size 28 2 (.slice (some ⟨wi.heap.size, 0, none⟩) 0 0) 0 [] := World.ownsRow.alloc OWa _
              have OWc : (((wi.alloc (.cells #[.int .i64 X, .int .i64 Y] 28)).alloc (.cells #[] 28)).drew).ownsRow wi.heap.size 28 2 (.slice (some ⟨wi.heap.size + 1, 0, none⟩) 0 0) 0 [] := own_e (wi.drew.alloc _) _ _ _ (by simp [go_sem]) (by simp [go_sem])
              have XB0 : (((wi.alloc (.cells #[] 28)).alloc (.cells #[.int .i64 X, .int .i64 Y] 28)).drew).cell? ⟨wi.heap.size + 1, 0, none⟩ = some (.int .i64 X) := by simp [go_sem, World.cell?_alloc_at]
              have XB1 : (((wi.alloc (.cells #[] 28)).alloc (.cells #[.int .i64 X, .int .i64 Y] 28)).drew).cell? ⟨wi.heap.size + 1, 1, none⟩ = some (.int .i64 Y) := by simp [go_sem, World.cell?_alloc_at]
              have XC0 : (((wi.alloc (.cells #[.int .i64 X, .int .i64 Y] 28)).alloc (.cells #[] 28)).drew).cell? ⟨wi.heap.size, 0, none⟩ = some (.int .i64 X) := by simp [go_sem, World.cell?_alloc_at, World.cell?_alloc_past]
              have XC1 : (((wi.alloc (.cells #[.int .i64 X, .int .i64 Y] 28)).alloc (.cells #[] 28)).drew).cell? ⟨wi.heap.size, 1, none⟩ = some (.int .i64 Y) := by simp [go_sem, World.cell?_alloc_at, World.cell?_alloc_past]
              have BA : Below wi.heap.size wi ((wi.alloc (.cells #[] 28)).drew) := ((Below.refl _ _).alloc (Nat.le_refl _) _).drew
              have BB : Below wi.heap.size wi (((wi.alloc (.cells #[] 28)).alloc (.cells #[.int .i64 X, .int .i64 Y] 28)).drew) := (((Below.refl _ _).alloc (Nat.le_refl _) _).alloc (by simp) _).drew
              have BC : Below wi.heap.size wi (((wi.alloc (.cells #[.int .i64 X, .int .i64 Y] 28)).alloc (.cells #[] 28)).drew) := (((Below.refl _ _).alloc (Nat.le_refl _) _).alloc (by simp) _).drew
              have HW : Hid (((((wi.alloc (.cells #[] 28)).drew).ownsRow wi.heap.size 28 2 (.slice (some ⟨wi.heap.size, 0, none⟩) 0 0) 0 [] ∧ (((wi.alloc (.cells #[] 28)).alloc (.cells #[.int .i64 X, .int .i64 Y] 28)).drew).ownsRow wi.heap.size 28 2 (.slice (some ⟨wi.heap.size, 0, none⟩) 0 0) 0 [] ∧ (((wi.alloc (.cells #[.int .i64 X, .int .i64 Y] 28)).alloc (.cells #[] 28)).drew).ownsRow wi.heap.size 28 2 (.slice (some ⟨wi.heap.size + 1, 0, none⟩) 0 0) 0 []) ∧ ((((wi.alloc (.cells #[] 28)).alloc (.cells #[.int .i64 X, .int .i64 Y] 28)).drew).cell? ⟨wi.heap.size + 1, 0, none⟩ = some (.int .i64 X) ∧ (((wi.alloc (.cells #[] 28)).alloc (.cells #[.int .i64 X, .int .i64 Y] 28)).drew).cell? ⟨wi.heap.size + 1, 1, none⟩ = some (.int .i64 Y)) ∧ ((((wi.alloc (.cells #[.int .i64 X, .int .i64 Y] 28)).alloc (.cells #[] 28)).drew).cell? ⟨wi.heap.size, 0, none⟩ = some (.int .i64 X) ∧ (((wi.alloc (.cells #[.int .i64 X, .int .i64 Y] 28)).alloc (.cells #[] 28)).drew).cell? ⟨wi.heap.size, 1, none⟩ = some (.int .i64 Y))) ∧ (Below wi.heap.size wi ((wi.alloc (.cells #[] 28)).drew) ∧ Below wi.heap.size wi (((wi.alloc (.cells #[] 28)).alloc (.cells #[.int .i64 X, .int .i64 Y] 28)).drew) ∧ Below wi.heap.size wi (((wi.alloc (.cells #[.int .i64 X, .int .i64 Y] 28)).alloc (.cells #[] 28)).drew))) := ⟨⟨⟨OWa, OWb, OWc⟩, ⟨XB0, XB1⟩, XC0, XC1⟩, BA, BB, BC⟩
              clear OWa OWb OWc XB0 XB1 XC0 XC1 BA BB BC
              go_region_held_law (fun w' => w'.cell? ⟨b, off + i * 2, none⟩ = some (.int .i64 X) ∧ w'.cell? ⟨b, off + i * 2 + 1, none⟩ = some (.int .i64 Y) ∧ b < wi.heap.size ∧ Below wi.heap.size wi w')
                (first | assumption | exact SB.of c0 c1 (Below.refl _ _).drew | exact SB.alloc (by assumption) _ | exact SB.of c0 c1 (((Below.refl _ _).alloc (Nat.le_refl _) _).drew) | fail)
                (first
                  | ((refine step_append_any _ (by rfl) _ _ _ (by rfl) wi.heap.size 28 i0 (.agg #[.int .i64 0, .int .i64 0]) 2 16 Try.underlying23 hi hz0 hz1 hz2 rfl (by omega) _ 0 [] (by rfl) HW.out.1.1.1 ⟨g, 0, none⟩ k _ (pcs (al.take k)) (by rfl) HL1.out (HN1.out _ HW.out.2.1) (pcs_one _) (by unfold maxLen; omega) (by omega) HW.out.2.1.size ?_; intro v1 w1 o1 hgrow; have S1 : SB wi b (off + i * 2) X Y w1 := SB.of c0 c1 (HW.out.2.1.grown hgrow HW.out.2.1.size (fun q hq => (World.ownsRow.lt HW.out.1.1.1 q hq).1))))
                  | ((refine step_append_any _ (by rfl) _ _ _ (by rfl) wi.heap.size 28 i0 (.agg #[.int .i64 0, .int .i64 0]) 2 16 Try.underlying23 hi hz0 hz1 hz2 rfl (by omega) _ 0 [] (by rfl) HW.out.1.1.2.1 ⟨g, 0, none⟩ k _ (pcs (al.take k)) (by rfl) HL1.out (HN1.out _ HW.out.2.2.1) (pcs_one _) (by unfold maxLen; omega) (by omega) HW.out.2.2.1.size ?_; intro v1 w1 o1 hgrow; have S1 : SB wi b (off + i * 2) X Y w1 := SB.of c0 c1 (HW.out.2.2.1.grown hgrow HW.out.2.2.1.size (fun q hq => (World.ownsRow.lt HW.out.1.1.2.1 q hq).1)); have hx1 := two_far (wi.heap.size + 1) X Y hgrow rfl (by omega) HW.out.1.2.1.1 HW.out.1.2.1.2))
                  | ((refine step_append_any _ (by rfl) _ _ _ (by rfl) wi.heap.size 28 i0 (.agg #[.int .i64 0, .int .i64 0]) 2 16 Try.underlying23 hi hz0 hz1 hz2 rfl (by omega) _ 0 [] (by rfl) HW.out.1.1.2.2 ⟨g, 0, none⟩ k _ (pcs (al.take k)) (by rfl) HL1.out (HN1.out _ HW.out.2.2.2) (pcs_one _) (by unfold maxLen; omega) (by omega) HW.out.2.2.2.size ?_; intro v1 w1 o1 hgrow; have S1 : SB wi b (off + i * 2) X Y w1 := SB.of c0 c1 (HW.out.2.2.2.grown hgrow HW.out.2.2.2.size (fun q hq => (World.ownsRow.lt HW.out.1.1.2.2 q hq).1)); have hx1 := two_far wi.heap.size X Y hgrow rfl (by omega) HW.out.1.2.2.1 HW.out.1.2.2.2))
                  | ((refine step_append_any _ (by rfl) _ _ _ (by rfl) wi.heap.size 28 i0 (.agg #[.int .i64 0, .int .i64 0]) 2 16 Try.underlying23 hi hz0 hz1 hz2 rfl (by omega) _ (0 + k) ([] ++ pcs (al.take k)) (by rfl) o1 ⟨_, 0, none⟩ 1 1 [.int .i64 _, .int .i64 _] (by rfl) (by rfl) (two_news hx1.1 hx1.2) (by simp [Value.oneCell']) (by unfold maxLen; omega) (by omega) (SBb S1).size ?_; intro v2 w2 o2 hgrow2; have S2 : SB wi b (off + i * 2) X Y w2 := SB.grown S1 o1 hgrow2))
                  | ((refine step_append_any _ (by rfl) _ _ _ (by rfl) wi.heap.size 28 i0 (.agg #[.int .i64 0, .int .i64 0]) 2 16 Try.underlying23 hi hz0 hz1 hz2 rfl (by omega) _ (0 + k) ([] ++ pcs (al.take k)) (by rfl) (World.ownsRow.alloc o1 _) ⟨_, 0, none⟩ 1 1 [.int .i64 _, .int .i64 _] (by rfl) (by rfl) (World.news_of_block (heap_alloc_new w1 _)) (by simp [Value.oneCell']) (by unfold maxLen; omega) (by omega) (SBb (SB.alloc S1 _)).size ?_; intro v2 w2 o2 hgrow2; have S2 : SB wi b (off + i * 2) X Y w2 := SB.grown (SB.alloc S1 _) (World.ownsRow.alloc o1 _) hgrow2))
                  | ((refine step_append_any _ (by rfl) _ _ _ (by rfl) wi.heap.size 28 i0 (.agg #[.int .i64 0, .int .i64 0]) 2 16 Try.underlying23 hi hz0 hz1 hz2 rfl (by omega) _ (0 + k + 1) ([] ++ pcs (al.take k) ++ [.int .i64 X, .int .i64 Y]) (by rfl) o2 ⟨g, 0, none⟩ (i - k) _ (pcs ((al.drop k).take (i - k))) (by rfl) HL3.out (HN3.out _ (SBb S2)) (pcs_one _) (by unfold maxLen; omega) (by omega) (SBb S2).size ?_; intro v3 w3 o3 hgrow3; have S3 : SB wi b (off + i * 2) X Y w3 := SB.grown S2 o2 hgrow3)))
              all_goals
                have HFI : Hid (∃ g' c', v3 = .slice (some ⟨g', 0, none⟩) (i + 1) c' ∧ InsI w ss (i + 1) g' c' (al.take k ++ [(X, Y)] ++ al.drop k) w3) := ins_done HI.out hk2 HTK.out HA.out (fun hh => absurd hh (by omega)) (o3) (SBb S3) hb
                obtain ⟨g', c', e3, I3⟩ := HFI.out
                have HI3 : Hid (InsI w ss (i + 1) g' c' (al.take k ++ [(X, Y)] ++ al.drop k) w3) := I3
                subst e3
                clear I3 HFI o1 o2 o3 S1 S2 S3 hgrow3 hgrow2 hgrow
                go_wp2
                go_roundw
                case rel => exact ⟨i + 1, g', c', _, by omega, by go_num, rfl, HI3.out⟩
                case measure => simp [intOf]; omega
            · go_wp2
              go_quiet (fail)
              go_wp2
              have hbw := Below.drewN' hb nq
              have e0 : (wr.drewN nq).cell? ⟨b, off + i * 2, none⟩ = some (.int .i64 X) := c0
              have e1 : (wr.drewN nq).cell? ⟨b, off + i * 2 + 1, none⟩ = some (.int .i64 Y) := c1
              generalize wr.drewN nq = wi at hbw e0 e1 ⊢
              clear c0 c1 hb
              have c0 := e0
              have c1 := e1
              have hb := hbw
              clear e0 e1 hbw
              have HOI : Hid (OP wi w.heap.size 28 (.slice (some ⟨g, 0, none⟩) i c) al) := HI.out.own.on hb
              have hgl := HOI.out.glt.1
              have hcap := HOI.out.capn
              have hki : (k : Int) ≤ (i : Int) := by omega
              have hkc : (k : Int) ≤ (c : Int) := by omega
              have hic : (i : Int) ≤ (c : Int) := by omega
              have K0 : SB wi b (off + i * 2) X Y wi := SB.of c0 c1 (Below.refl _ _)
              have N1 : ∀ w' : World, Below wi.heap.size wi w' → ∀ j u, (pcs (al.take k))[j]? = some u → w'.cell? ((⟨g, 0, none⟩ : Addr).add j) = some u := fun w' hb' => by have q := part_news HOI.out HI.out.len.symm hgl hb' 0 k; simpa using q
              have N3 : ∀ w' : World, Below wi.heap.size wi w' → ∀ j u, (pcs ((al.drop k).take (i - k)))[j]? = some u → w'.cell? ((⟨g, k * 2, none⟩ : Addr).add j) = some u := fun w' hb' => part_news HOI.out HI.out.len.symm hgl hb' k (i - k)
              have L1 : (pcs (al.take k)).length = k * 2 := by rw [pcs_len, List.length_take, HI.out.len]; congr 1; omega
              have L3 : (pcs ((al.drop k).take (i - k))).length = (i - k) * 2 := by rw [pcs_len, List.length_take, List.length_drop, HI.out.len]; congr 1; omega
              have HN1 : Hid (∀ w' : World, Below wi.heap.size wi w' → ∀ j u, (pcs (al.take k))[j]? = some u → w'.cell? ((⟨g, 0, none⟩ : Addr).add j) = some u) := N1
              have HN3 : Hid (∀ w' : World, Below wi.heap.size wi w' → ∀ j u, (pcs ((al.drop k).take (i - k)))[j]? = some u → w'.cell? ((⟨g, k * 2, none⟩ : Addr).add j) = some u) := N3
              have HL1 : Hid ((pcs (al.take k)).length = k * 2) := L1
              have HL3 : Hid ((pcs ((al.drop k).take (i - k))).length = (i - k) * 2) := L3
              clear N1 N3 L1 L3
              have OWa : ((wi.alloc (.cells #[] 28)).drew).ownsRow wi.heap.size 28 2 (.slice (some ⟨wi.heap.size, 0, none⟩) 0 0) 0 [] := own_e wi.drew _ _ _ (Nat.le_refl _) rfl
              have OWb : (((wi.alloc (.cells #[] 28)).alloc (.cells #[.int .i64 X, .int .i64 Y] 28)).drew).ownsRow wi.heap.size 28 2 (.slice (some ⟨wi.heap.size, 0, none⟩) 0 0) 0 [] := World.ownsRow.alloc OWa _
              have OWc : (((wi.alloc (.cells #[.int .i64 X, .int .i64 Y] 28)).alloc (.cells #[] 28)).drew).ownsRow wi.heap.size 28 2 (.slice (some ⟨wi.heap.size + 1, 0, none⟩) 0 0) 0 [] := own_e (wi.drew.alloc _) _ _ _ (by simp [go_sem]) (by simp [go_sem])
              have XB0 : (((wi.alloc (.cells #[] 28)).alloc (.cells #[.int .i64 X, .int .i64 Y] 28)).drew).cell? ⟨wi.heap.size + 1, 0, none⟩ = some (.int .i64 X) := by simp [go_sem, World.cell?_alloc_at]
              have XB1 : (((wi.alloc (.cells #[] 28)).alloc (.cells #[.int .i64 X, .int .i64 Y] 28)).drew).cell? ⟨wi.heap.size + 1, 1, none⟩ = some (.int .i64 Y) := by simp [go_sem, World.cell?_alloc_at]
              have XC0 : (((wi.alloc (.cells #[.int .i64 X, .int .i64 Y] 28)).alloc (.cells #[] 28)).drew).cell? ⟨wi.heap.size, 0, none⟩ = some (.int .i64 X) := by simp [go_sem, World.cell?_alloc_at, World.cell?_alloc_past]
              have XC1 : (((wi.alloc (.cells #[.int .i64 X, .int .i64 Y] 28)).alloc (.cells #[] 28)).drew).cell? ⟨wi.heap.size, 1, none⟩ = some (.int .i64 Y) := by simp [go_sem, World.cell?_alloc_at, World.cell?_alloc_past]
              have BA : Below wi.heap.size wi ((wi.alloc (.cells #[] 28)).drew) := ((Below.refl _ _).alloc (Nat.le_refl _) _).drew
              have BB : Below wi.heap.size wi (((wi.alloc (.cells #[] 28)).alloc (.cells #[.int .i64 X, .int .i64 Y] 28)).drew) := (((Below.refl _ _).alloc (Nat.le_refl _) _).alloc (by simp) _).drew
              have BC : Below wi.heap.size wi (((wi.alloc (.cells #[.int .i64 X, .int .i64 Y] 28)).alloc (.cells #[] 28)).drew) := (((Below.refl _ _).alloc (Nat.le_refl _) _).alloc (by simp) _).drew
              have HW : Hid (((((wi.alloc (.cells #[] 28)).drew).ownsRow wi.heap.size 28 2 (.slice (some ⟨wi.heap.size, 0, none⟩) 0 0) 0 [] ∧ (((wi.alloc (.cells #[] 28)).alloc (.cells #[.int .i64 X, .int .i64 Y] 28)).drew).ownsRow wi.heap.size 28 2 (.slice (some ⟨wi.heap.size, 0, none⟩) 0 0) 0 [] ∧ (((wi.alloc (.cells #[.int .i64 X, .int .i64 Y] 28)).alloc (.cells #[] 28)).drew).ownsRow wi.heap.size 28 2 (.slice (some ⟨wi.heap.size + 1, 0, none⟩) 0 0) 0 []) ∧ ((((wi.alloc (.cells #[] 28)).alloc (.cells #[.int .i64 X, .int .i64 Y] 28)).drew).cell? ⟨wi.heap.size + 1, 0, none⟩ = some (.int .i64 X) ∧ (((wi.alloc (.cells #[] 28)).alloc (.cells #[.int .i64 X, .int .i64 Y] 28)).drew).cell? ⟨wi.heap.size + 1, 1, none⟩ = some (.int .i64 Y)) ∧ ((((wi.alloc (.cells #[.int .i64 X, .int .i64 Y] 28)).alloc (.cells #[] 28)).drew).cell? ⟨wi.heap.size, 0, none⟩ = some (.int .i64 X) ∧ (((wi.alloc (.cells #[.int .i64 X, .int .i64 Y] 28)).alloc (.cells #[] 28)).drew).cell? ⟨wi.heap.size, 1, none⟩ = some (.int .i64 Y))) ∧ (Below wi.heap.size wi ((wi.alloc (.cells #[] 28)).drew) ∧ Below wi.heap.size wi (((wi.alloc (.cells #[] 28)).alloc (.cells #[.int .i64 X, .int .i64 Y] 28)).drew) ∧ Below wi.heap.size wi (((wi.alloc (.cells #[.int .i64 X, .int .i64 Y] 28)).alloc (.cells #[] 28)).drew))) := ⟨⟨⟨OWa, OWb, OWc⟩, ⟨XB0, XB1⟩, XC0, XC1⟩, BA, BB, BC⟩
              clear OWa OWb OWc XB0 XB1 XC0 XC1 BA BB BC
              go_region_held_law (fun w' => w'.cell? ⟨b, off + i * 2, none⟩ = some (.int .i64 X) ∧ w'.cell? ⟨b, off + i * 2 + 1, none⟩ = some (.int .i64 Y) ∧ b < wi.heap.size ∧ Below wi.heap.size wi w')
                (first | assumption | exact SB.of c0 c1 (Below.refl _ _).drew | exact SB.alloc (by assumption) _ | exact SB.of c0 c1 (((Below.refl _ _).alloc (Nat.le_refl _) _).drew) | fail)
                (first
                  | ((refine step_append_any _ (by rfl) _ _ _ (by rfl) wi.heap.size 28 i0 (.agg #[.int .i64 0, .int .i64 0]) 2 16 Try.underlying23 hi hz0 hz1 hz2 rfl (by omega) _ 0 [] (by rfl) HW.out.1.1.1 ⟨g, 0, none⟩ k _ (pcs (al.take k)) (by rfl) HL1.out (HN1.out _ HW.out.2.1) (pcs_one _) (by unfold maxLen; omega) (by omega) HW.out.2.1.size ?_; intro v1 w1 o1 hgrow; have S1 : SB wi b (off + i * 2) X Y w1 := SB.of c0 c1 (HW.out.2.1.grown hgrow HW.out.2.1.size (fun q hq => (World.ownsRow.lt HW.out.1.1.1 q hq).1))))
                  | ((refine step_append_any _ (by rfl) _ _ _ (by rfl) wi.heap.size 28 i0 (.agg #[.int .i64 0, .int .i64 0]) 2 16 Try.underlying23 hi hz0 hz1 hz2 rfl (by omega) _ 0 [] (by rfl) HW.out.1.1.2.1 ⟨g, 0, none⟩ k _ (pcs (al.take k)) (by rfl) HL1.out (HN1.out _ HW.out.2.2.1) (pcs_one _) (by unfold maxLen; omega) (by omega) HW.out.2.2.1.size ?_; intro v1 w1 o1 hgrow; have S1 : SB wi b (off + i * 2) X Y w1 := SB.of c0 c1 (HW.out.2.2.1.grown hgrow HW.out.2.2.1.size (fun q hq => (World.ownsRow.lt HW.out.1.1.2.1 q hq).1)); have hx1 := two_far (wi.heap.size + 1) X Y hgrow rfl (by omega) HW.out.1.2.1.1 HW.out.1.2.1.2))
                  | ((refine step_append_any _ (by rfl) _ _ _ (by rfl) wi.heap.size 28 i0 (.agg #[.int .i64 0, .int .i64 0]) 2 16 Try.underlying23 hi hz0 hz1 hz2 rfl (by omega) _ 0 [] (by rfl) HW.out.1.1.2.2 ⟨g, 0, none⟩ k _ (pcs (al.take k)) (by rfl) HL1.out (HN1.out _ HW.out.2.2.2) (pcs_one _) (by unfold maxLen; omega) (by omega) HW.out.2.2.2.size ?_; intro v1 w1 o1 hgrow; have S1 : SB wi b (off + i * 2) X Y w1 := SB.of c0 c1 (HW.out.2.2.2.grown hgrow HW.out.2.2.2.size (fun q hq => (World.ownsRow.lt HW.out.1.1.2.2 q hq).1)); have hx1 := two_far wi.heap.size X Y hgrow rfl (by omega) HW.out.1.2.2.1 HW.out.1.2.2.2))
                  | ((refine step_append_any _ (by rfl) _ _ _ (by rfl) wi.heap.size 28 i0 (.agg #[.int .i64 0, .int .i64 0]) 2 16 Try.underlying23 hi hz0 hz1 hz2 rfl (by omega) _ (0 + k) ([] ++ pcs (al.take k)) (by rfl) o1 ⟨_, 0, none⟩ 1 1 [.int .i64 _, .int .i64 _] (by rfl) (by rfl) (two_news hx1.1 hx1.2) (by simp [Value.oneCell']) (by unfold maxLen; omega) (by omega) (SBb S1).size ?_; intro v2 w2 o2 hgrow2; have S2 : SB wi b (off + i * 2) X Y w2 := SB.grown S1 o1 hgrow2))
                  | ((refine step_append_any _ (by rfl) _ _ _ (by rfl) wi.heap.size 28 i0 (.agg #[.int .i64 0, .int .i64 0]) 2 16 Try.underlying23 hi hz0 hz1 hz2 rfl (by omega) _ (0 + k) ([] ++ pcs (al.take k)) (by rfl) (World.ownsRow.alloc o1 _) ⟨_, 0, none⟩ 1 1 [.int .i64 _, .int .i64 _] (by rfl) (by rfl) (World.news_of_block (heap_alloc_new w1 _)) (by simp [Value.oneCell']) (by unfold maxLen; omega) (by omega) (SBb (SB.alloc S1 _)).size ?_; intro v2 w2 o2 hgrow2; have S2 : SB wi b (off + i * 2) X Y w2 := SB.grown (SB.alloc S1 _) (World.ownsRow.alloc o1 _) hgrow2))
                  | ((refine step_append_any _ (by rfl) _ _ _ (by rfl) wi.heap.size 28 i0 (.agg #[.int .i64 0, .int .i64 0]) 2 16 Try.underlying23 hi hz0 hz1 hz2 rfl (by omega) _ (0 + k + 1) ([] ++ pcs (al.take k) ++ [.int .i64 X, .int .i64 Y]) (by rfl) o2 ⟨g, k * 2, none⟩ (i - k) _ (pcs ((al.drop k).take (i - k))) (by rfl) HL3.out (HN3.out _ (SBb S2)) (pcs_one _) (by unfold maxLen; omega) (by omega) (SBb S2).size ?_; intro v3 w3 o3 hgrow3; have S3 : SB wi b (off + i * 2) X Y w3 := SB.grown S2 o2 hgrow3)))
              all_goals
                have HFI : Hid (∃ g' c', v3 = .slice (some ⟨g', 0, none⟩) (i + 1) c' ∧ InsI w ss (i + 1) g' c' (al.take k ++ [(X, Y)] ++ al.drop k) w3) := ins_done HI.out hk2 HTK.out HA.out (fun hh => absurd hh (by omega)) (o3) (SBb S3) hb
                obtain ⟨g', c', e3, I3⟩ := HFI.out
                have HI3 : Hid (InsI w ss (i + 1) g' c' (al.take k ++ [(X, Y)] ++ al.drop k) w3) := I3
                subst e3
                clear I3 HFI o1 o2 o3 S1 S2 S3 hgrow3 hgrow2 hgrow
                go_wp2
                go_roundw
                case rel => exact ⟨i + 1, g', c', _, by omega, by go_num, rfl, HI3.out⟩
                case measure => simp [intOf]; omega
    · obtain rfl : i = ss.length := by omega
      have HB : Hid (al.Perm ss ∧ SrtF al ∧ al.length = ss.length) := ⟨by have q := HI.out.perm; rw [List.take_length] at q; exact q, HI.out.srt, HI.out.len⟩
      have HAL : Hid (OP wo w.heap.size 28 (.slice (some ⟨g, 0, none⟩) ss.length c) al) := HI.out.own
      have hglt := HI.out.own.glt.1
      have hwo := HI.out.bel
      have hws := hwo.size
      have O0 := OP.made wo 28 [] #[] rfl (by simp)
      have HOO : Hid (OP (wo.alloc (.cells #[] 28)) wo.heap.size 28 (.slice (some ⟨wo.heap.size, 0, none⟩) 0 0) []) := by unfold Hid; simpa using O0
      have HP : Hid (∀ j, j < al.length → tAt al j < tSh al j) := fun j hj => by
        have q := HS.out al[j] (HB.out.1.mem_iff.1 (List.getElem_mem hj))
        rw [← tAt_get al j hj] at q
        exact q
      clear O0 HI HI0
      go_wp2
      go_loopw [6, 7, 8] (fun ov iv _ wr => ∃ (k n g2 c2 : Nat) (out : List (Int × Int)), k ≤ ss.length ∧ iv = .int .i64 k ∧ ov = .slice (some ⟨g2, 0, none⟩) n c2 ∧ n = out.length ∧ n ≤ k ∧ OP wr wo.heap.size 28 (.slice (some ⟨g2, 0, none⟩) n c2) out ∧ Few al k out ∧ Below wo.heap.size wo wr) (fun _ iv _ _ => ss.length - (intOf iv).toNat)
      case atStart => exact ⟨0, 0, wo.heap.size, 0, [], by omega, rfl, rfl, rfl, by omega, HOO.out, few_nil al, (Below.refl _ _).alloc (Nat.le_refl _) _⟩
      case round =>
        obtain ⟨k, n, g2, c2, out, hk2, rfl, rfl, hn, hnk, hO, hF, hb⟩ := hrel
        have HO2 : Hid (OP wr wo.heap.size 28 (.slice (some ⟨g2, 0, none⟩) n c2) out) := hO
        have HF : Hid (Few al k out) := hF
        have HN : Hid (n = out.length) := hn
        have hg2 := hO.glt
        have hsz := hb.size
        clear hO hF hn
        by_cases hlk : k < ss.length
        · have hal : k < al.length := by rw [HB.out.2.2]; exact hlk
          obtain ⟨c0, c1, _⟩ := (HB.out.2.2 ▸ HAL.out : OP wo w.heap.size 28 (.slice (some ⟨g, 0, none⟩) al.length c) al).at (i := k) hal
          have p0 : wr.cell? ⟨g, k * 2, none⟩ = some (.int .i64 (tAt al k)) := by rw [hb.cell (p := ⟨g, k * 2, none⟩) hglt]; exact c0
          have p1 : wr.cell? ⟨g, k * 2 + 1, none⟩ = some (.int .i64 (tSh al k)) := by rw [hb.cell (p := ⟨g, k * 2 + 1, none⟩) hglt]; exact c1
          have hk0 : (0 : Int) ≤ (k : Int) := by omega
          have hk1 : (k : Int) < (ss.length : Int) := by omega
          have hpk := HP.out k hal
          clear c0 c1
          by_cases hn0 : n = 0
          · subst hn0
            have HE : Hid (out = []) := List.length_eq_zero_iff.1 HN.out.symm
            go_wp2
            go_quiet (fail)
            generalize hzw : wr.drewN nq = wz
            have HZ : Hid (wr.drewN nq = wz) := hzw
            have bz : Below wo.heap.size wo wz := by rw [← hzw]; exact Below.drewN' hb nq
            have Oz : Hid (OP wz wo.heap.size 28 (.slice (some ⟨g2, 0, none⟩) 0 c2) out) := by unfold Hid; rw [← hzw]; exact HO2.out.on ((Below.refl _ _) |> fun q => Below.drewN' q nq)
            have z0 : wz.cell? ⟨g, k * 2, none⟩ = some (.int .i64 (tAt al k)) := by rw [← hzw]; exact p0
            have z1 : wz.cell? ⟨g, k * 2 + 1, none⟩ = some (.int .i64 (tSh al k)) := by rw [← hzw]; exact p1
            have sz := bz.size
            clear hzw p0 p1
            have HOY : Hid ((wz).ownsRow wo.heap.size 28 2 (.slice (some ⟨g2, 0, none⟩) 0 c2) 0 (pcs out)) := by have q := Oz.out; unfold OP at q; rw [← HN.out] at q; exact q
            have HBX : Hid (wo.heap.size ≤ ((wz).alloc (.cells #[.int .i64 (tAt al k), .int .i64 (tSh al k)] 28)).heap.size) := by unfold Hid; simp [go_sem]; omega
            have HBW : Hid (Below wo.heap.size wo (wz) ∧ wo.heap.size ≤ (wz).heap.size) := ⟨bz, bz.size⟩
            have HFN : Hid (Few al (k + 1) (out ++ [(tAt al k, tSh al k)])) := few_new HF.out HB.out.2.1 hal hpk (fun u hu => by rw [HE.out] at hu; simp at hu)
            go_wp2_with (first | (at_builtin; refine wpList_append_lies _ rfl _ _ _ rfl wo.heap.size 28 i0 (.agg #[.int .i64 0, .int .i64 0]) 2 16 Try.underlying23 hi hz0 hz1 hz2 rfl (by omega) _ 0 (pcs out) rfl (World.ownsRow.alloc HOY.out _) ⟨_, 0, none⟩ 1 1 [.int .i64 _, .int .i64 _] rfl rfl (World.news_of_block (heap_alloc_new (wz) _)) (by simp [Value.oneCell']) (by omega) (by unfold maxLen; omega) (by omega) HBX.out _ rfl ?_; intro g4 c4 w4 hown hgrow hat hlt4; have HO4 : Hid (OP w4 wo.heap.size 28 (.slice (some ⟨g4, 0, none⟩) (0 + 1) c4) (out ++ [(tAt al k, tSh al k)])) := OP.snoc hown HN.out; have B4 : Below wo.heap.size wo w4 := grown_own HOY.out HBW.out hgrow; clear hown hgrow hat))
            have HL4 : Hid (0 + 1 = (out ++ [(tAt al k, tSh al k)]).length) := by unfold Hid; rw [List.length_append, ← HN.out]; rfl
            go_roundw
            case rel => exact ⟨k + 1, 0 + 1, g4, c4, _, by omega, by go_num, rfl, HL4.out, by omega, HO4.out, HFN.out, B4⟩
            case measure => simp [intOf]; omega
          · obtain ⟨m, rfl⟩ : ∃ m, n = m + 1 := ⟨n - 1, by omega⟩
            rcases List.eq_nil_or_concat out with he | ⟨o, l, he⟩
            · exfalso; have q := HN.out; rw [he] at q; simp at q
            rw [List.concat_eq_append] at he
            subst he
            have hol : o.length = m := by have q := HN.out; rw [List.length_append] at q; simp at q; omega
            have HOL : Hid (o.length = m) := hol
            obtain ⟨e0, e1, e2⟩ := (HN.out ▸ HO2.out : OP wr wo.heap.size 28 (.slice (some ⟨g2, 0, none⟩) (o ++ [l]).length c2) (o ++ [l])).at (i := m) (by rw [List.length_append]; simp; omega)
            have ed : tSh (o ++ [l]) m = l.2 := by subst hol; simp [tSh]
            rw [ed] at e1
            have d1wr := e1
            have f1wr := e2 (m * 2 + 1)
            have z0wr := p0
            have z1wr := p1
            have bwr := hb
            have Owr := HO2
            have hm0 : (0 : Int) ≤ (m : Int) := by omega
            have hm1 : (m : Int) < (m : Int) + 1 := by omega
            have q6 : ((m : Int) + 1) - 1 = (m : Int) := by omega
            have q2 := IntWalk.i64_in ((m : Int) + 1 - 1) (by omega)
            have q3 := IntWalk.i64_in (m : Int) (by omega)
            have hll := HF.out.can.1 l (by simp)
            have HFO : Hid (Few al k (o ++ [l])) := HF.out
            clear e0 e1 e2 ed p0 p1 hol HO2 HF
            by_cases h1 : tAt al k ≤ l.2
            · by_cases h2 : l.2 < tSh al k
              · have HFN : Hid (Few al (k + 1) (o ++ [(l.1, tSh al k)])) := few_more HFO.out hal h1 h2
                go_wp2
                go_quiet (fail)
                generalize hzw : wr.drewN nq = wa
                have bwa : Below wo.heap.size wo wa := by rw [← hzw]; exact Below.drewN' bwr nq
                have Owa : Hid (OP wa wo.heap.size 28 (.slice (some ⟨g2, 0, none⟩) (m + 1) c2) (o ++ [l])) := by unfold Hid; rw [← hzw]; exact Owr.out.on (Below.drewN' (Below.refl _ _) nq)
                have z0wa : wa.cell? ⟨g, k * 2, none⟩ = some (.int .i64 (tAt al k)) := by rw [← hzw]; exact z0wr
                have z1wa : wa.cell? ⟨g, k * 2 + 1, none⟩ = some (.int .i64 (tSh al k)) := by rw [← hzw]; exact z1wr
                have d1wa : wa.cell? ⟨g2, m * 2 + 1, none⟩ = some (.int .i64 l.2) := by rw [← hzw]; exact d1wr
                have f1wa : wa.frozen? ⟨g2, m * 2 + 1, none⟩ = false := by rw [← hzw]; exact f1wr
                clear hzw z0wr z1wr d1wr f1wr
                go_wp2
                go_quiet (fail)
                generalize hzw : wa.drewN nq = wb
                have bwb : Below wo.heap.size wo wb := by rw [← hzw]; exact Below.drewN' bwa nq
                have Owb : Hid (OP wb wo.heap.size 28 (.slice (some ⟨g2, 0, none⟩) (m + 1) c2) (o ++ [l])) := by unfold Hid; rw [← hzw]; exact Owa.out.on (Below.drewN' (Below.refl _ _) nq)
                have z0wb : wb.cell? ⟨g, k * 2, none⟩ = some (.int .i64 (tAt al k)) := by rw [← hzw]; exact z0wa
                have z1wb : wb.cell? ⟨g, k * 2 + 1, none⟩ = some (.int .i64 (tSh al k)) := by rw [← hzw]; exact z1wa
                have d1wb : wb.cell? ⟨g2, m * 2 + 1, none⟩ = some (.int .i64 l.2) := by rw [← hzw]; exact d1wa
                have f1wb : wb.frozen? ⟨g2, m * 2 + 1, none⟩ = false := by rw [← hzw]; exact f1wa
                clear hzw z0wa z1wa d1wa f1wa
                have OF : Hid (OP (wb.setCell ⟨g2, m * 2 + 1, none⟩ (.int .i64 (tSh al k))) wo.heap.size 28 (.slice (some ⟨g2, 0, none⟩) (m + 1) c2) (o ++ [(l.1, tSh al k)])) := by
                  unfold Hid
                  have q := Owb.out.setTo (by rw [HOL.out]) (tSh al k)
                  rw [HOL.out] at q
                  exact q
                have BF : Below wo.heap.size wo (wb.setCell ⟨g2, m * 2 + 1, none⟩ (.int .i64 (tSh al k))) := bwb.setCell (p := ⟨g2, m * 2 + 1, none⟩) hg2.2 _
                go_wp2
                go_roundw
                case rel => exact ⟨k + 1, m + 1, g2, c2, _, by omega, by go_num, rfl, by rw [List.length_append, HOL.out]; rfl, by omega, OF.out, HFN.out, BF⟩
                case measure => simp [intOf]; omega
              · have HFN : Hid (Few al (k + 1) (o ++ [l])) := few_in HFO.out hal h1 h2
                go_wp2
                go_quiet (fail)
                generalize hzw : wr.drewN nq = wa
                have bwa : Below wo.heap.size wo wa := by rw [← hzw]; exact Below.drewN' bwr nq
                have Owa : Hid (OP wa wo.heap.size 28 (.slice (some ⟨g2, 0, none⟩) (m + 1) c2) (o ++ [l])) := by unfold Hid; rw [← hzw]; exact Owr.out.on (Below.drewN' (Below.refl _ _) nq)
                have z0wa : wa.cell? ⟨g, k * 2, none⟩ = some (.int .i64 (tAt al k)) := by rw [← hzw]; exact z0wr
                have z1wa : wa.cell? ⟨g, k * 2 + 1, none⟩ = some (.int .i64 (tSh al k)) := by rw [← hzw]; exact z1wr
                have d1wa : wa.cell? ⟨g2, m * 2 + 1, none⟩ = some (.int .i64 l.2) := by rw [← hzw]; exact d1wr
                have f1wa : wa.frozen? ⟨g2, m * 2 + 1, none⟩ = false := by rw [← hzw]; exact f1wr
                clear hzw z0wr z1wr d1wr f1wr
                go_wp2
                go_quiet (fail)
                generalize hzw : wa.drewN nq = wb
                have bwb : Below wo.heap.size wo wb := by rw [← hzw]; exact Below.drewN' bwa nq
                have Owb : Hid (OP wb wo.heap.size 28 (.slice (some ⟨g2, 0, none⟩) (m + 1) c2) (o ++ [l])) := by unfold Hid; rw [← hzw]; exact Owa.out.on (Below.drewN' (Below.refl _ _) nq)
                have z0wb : wb.cell? ⟨g, k * 2, none⟩ = some (.int .i64 (tAt al k)) := by rw [← hzw]; exact z0wa
                have z1wb : wb.cell? ⟨g, k * 2 + 1, none⟩ = some (.int .i64 (tSh al k)) := by rw [← hzw]; exact z1wa
                have d1wb : wb.cell? ⟨g2, m * 2 + 1, none⟩ = some (.int .i64 l.2) := by rw [← hzw]; exact d1wa
                have f1wb : wb.frozen? ⟨g2, m * 2 + 1, none⟩ = false := by rw [← hzw]; exact f1wa
                clear hzw z0wa z1wa d1wa f1wa
                go_wp2
                go_roundw
                case rel => exact ⟨k + 1, m + 1, g2, c2, _, by omega, by go_num, rfl, HN.out, by omega, Owb.out, HFN.out, bwb⟩
                case measure => simp [intOf]; omega
            · have HFW : Hid (Few al (k + 1) (o ++ [l] ++ [(tAt al k, tSh al k)])) := few_new HFO.out HB.out.2.1 hal hpk (fun u hu => by
                have hp := List.pairwise_append.1 HFO.out.can.2
                rcases List.mem_append.1 hu with hu | hu
                · have := hp.2.2 u hu l (by simp); omega
                · simp at hu; subst hu; omega)
              go_wp2
              go_quiet (fail)
              generalize hzw : wr.drewN nq = wa
              have bwa : Below wo.heap.size wo wa := by rw [← hzw]; exact Below.drewN' bwr nq
              have Owa : Hid (OP wa wo.heap.size 28 (.slice (some ⟨g2, 0, none⟩) (m + 1) c2) (o ++ [l])) := by unfold Hid; rw [← hzw]; exact Owr.out.on (Below.drewN' (Below.refl _ _) nq)
              have z0wa : wa.cell? ⟨g, k * 2, none⟩ = some (.int .i64 (tAt al k)) := by rw [← hzw]; exact z0wr
              have z1wa : wa.cell? ⟨g, k * 2 + 1, none⟩ = some (.int .i64 (tSh al k)) := by rw [← hzw]; exact z1wr
              have d1wa : wa.cell? ⟨g2, m * 2 + 1, none⟩ = some (.int .i64 l.2) := by rw [← hzw]; exact d1wr
              have f1wa : wa.frozen? ⟨g2, m * 2 + 1, none⟩ = false := by rw [← hzw]; exact f1wr
              clear hzw z0wr z1wr d1wr f1wr
              have HOY : Hid ((wa).ownsRow wo.heap.size 28 2 (.slice (some ⟨g2, 0, none⟩) (m + 1) c2) (m + 1) (pcs (o ++ [l]))) := by have q := Owa.out; unfold OP at q; rw [← HN.out] at q; exact q
              have HBX : Hid (wo.heap.size ≤ ((wa).alloc (.cells #[.int .i64 (tAt al k), .int .i64 (tSh al k)] 28)).heap.size) := by unfold Hid; simp [go_sem]; have := bwa.size; omega
              have HBW : Hid (Below wo.heap.size wo (wa) ∧ wo.heap.size ≤ (wa).heap.size) := ⟨bwa, bwa.size⟩
              have HFN : Hid (Few al (k + 1) (o ++ [l] ++ [(tAt al k, tSh al k)])) := HFW.out
              go_wp2_with (first | (at_builtin; refine wpList_append_lies _ rfl _ _ _ rfl wo.heap.size 28 i0 (.agg #[.int .i64 0, .int .i64 0]) 2 16 Try.underlying23 hi hz0 hz1 hz2 rfl (by omega) _ (m + 1) (pcs (o ++ [l])) rfl (World.ownsRow.alloc HOY.out _) ⟨_, 0, none⟩ 1 1 [.int .i64 _, .int .i64 _] rfl rfl (World.news_of_block (heap_alloc_new (wa) _)) (by simp [Value.oneCell']) (by omega) (by unfold maxLen; omega) (by omega) HBX.out _ rfl ?_; intro g4 c4 w4 hown hgrow hat hlt4; have HO4 : Hid (OP w4 wo.heap.size 28 (.slice (some ⟨g4, 0, none⟩) (m + 1 + 1) c4) (o ++ [l] ++ [(tAt al k, tSh al k)])) := OP.snoc hown HN.out; have B4 : Below wo.heap.size wo w4 := grown_own HOY.out HBW.out hgrow; clear hown hgrow hat))
              have HL4 : Hid (m + 1 + 1 = (o ++ [l] ++ [(tAt al k, tSh al k)]).length) := by unfold Hid; rw [List.length_append, ← HN.out]; rfl
              go_roundw
              case rel => exact ⟨k + 1, m + 1 + 1, g4, c4, _, by omega, by go_num, rfl, HL4.out, by omega, HO4.out, HFN.out, B4⟩
              case measure => simp [intOf]; omega
        · obtain rfl : k = ss.length := by omega
          have HQ : Hid (out = busyL ss) := few_busy (by rw [HB.out.2.2]; exact HF.out) HB.out.1 (fun s hs => Int.le_of_lt (HS.out s hs))
          have HOF : Hid (OP wr w.heap.size 28 (.slice (some ⟨g2, 0, none⟩) n c2) (busyL ss)) := by unfold Hid; rw [← HQ.out]; exact HO2.out.base hws
          have BF := hwo.trans (hb.mono hws)
          clear HO2 HF HN
          go_wp2
          go_ret
          exact ⟨⟨_, rfl, HOF.out⟩, BF⟩
end Go.Proofs.Ytddjbcggdmeidaa
