/- What is found may be so: the program's. -/
import Derived.Test.YtecijmdkicgemaaFt
namespace Go.Proofs.Ytecijmdkicgemaa
open Go.RowKit
set_option linter.unusedVariables false
theorem pl_ge {l : List FO} {n m : Nat} {id : ByteArray} (hm : m < n) (h2 : sameS (fS l m) id = true) : 0 ≤ plI l n id := by
  have key : ∀ k j, j ≤ m → m < j + k → 0 ≤ pixF (fun j => sameS (fS l j) id) k j := by
    intro k
    induction k with
    | zero => intro j h1 h3; omega
    | succ k ih =>
      intro j h1 h3
      unfold pixF
      by_cases e : sameS (fS l j) id = true
      · rw [if_pos e]; omega
      · rw [if_neg e]
        have : j ≠ m := fun q => by subst q; exact e h2
        exact ih (j + 1) (by omega) (by omega)
  exact key n 0 (by omega) (by omega)
theorem implOrder_is (s : ByteArray) (x : Int) (t : ByteArray) (y V : Int) (h : ordI (s, x) (t, y) = V) (w : World) :
    Calls Try.prog 51 #[.agg #[.string s, .int .i64 x], .agg #[.string t, .int .i64 y]] w fun e w' => e = .returned (.int .i64 V) ∧ Below w.heap.size w w' := by
  subst h; exact implOrder (s, x) (t, y) w
theorem implName_is (s : ByteArray) (b : Bool) (h : nmB s = b) (w : World) (hs : s.size ≤ maxLen) :
    Calls Try.prog 52 #[.string s] w fun e w' => e = .returned (.bool b) ∧ w' = w := by
  subst h; exact implName s w hs
set_option maxRecDepth 100000 in
set_option maxHeartbeats 8000000 in
theorem implSorted (a : Option Addr) (cap : Nat) (l : List FO) (w : World) (h : IsFo w a l) (hl : l.length ≤ 1048576) (q : Bool) (hq : q = true ↔ ∀ i, i + 1 < l.length → 0 ≤ ordI (fo l (i + 1)) (fo l i)) :
    Calls Try.prog 50 #[.slice a l.length cap, .func (.func 51) #[] #[]] w fun e w' => e = .returned (.bool q) ∧ Below w.heap.size w w' := by
  have HF : Hid (IsFo w a l) := h
  have HQ : Hid (q = true ↔ ∀ i, i + 1 < l.length → 0 ≤ ordI (fo l (i + 1)) (fo l i)) := hq
  have gl := IntWalk.i64_in ((l.length : Int) - 1) (by omega)
  clear h hq
  go_enter Try.func50, Try.ntmps50
  go_wp2
  go_loopw [5] (fun i wr => ∃ z : Int, -1 ≤ z ∧ z ≤ (l.length : Int) - 1 ∧ i = .int .i64 z ∧ (∀ m : Nat, z < (m : Int) + 1 → m + 1 < l.length → 0 ≤ ordI (fo l (m + 1)) (fo l m)) ∧ Below w.heap.size w wr) (fun i _ => (intOf i).toNat)
  case atStart => exact ⟨(l.length : Int) - 1, by omega, by omega, rfl, fun m h1 h2 => by omega, Below.refl _ _⟩
  case round =>
    obtain ⟨z, z0, z1, rfl, ha, hb⟩ := hrel
    have HA : Hid (∀ m : Nat, z < (m : Int) + 1 → m + 1 < l.length → 0 ≤ ordI (fo l (m + 1)) (fo l m)) := ha
    have HB : Hid (Below w.heap.size w wr) := hb
    clear ha
    by_cases hz : z > 0
    · obtain ⟨j, rfl⟩ : ∃ j : Nat, z = (j : Int) + 1 := ⟨(z - 1).toNat, by omega⟩
      obtain ⟨b, off, rfl, hbs, hc⟩ := (HF.out.below hb).at (by omega)
      obtain ⟨c0, c1⟩ := hc (j + 1) (by omega)
      obtain ⟨p0, p1⟩ := hc j (by omega)
      have g2 := IntWalk.i64_in ((j : Int) + 1 - 1) (by omega)
      have g3 := IntWalk.i64_in (j : Int) (by omega)
      have g6 : ((j : Int) + 1) - 1 = (j : Int) := by omega
      have hj0 : (0 : Int) ≤ (j : Int) := by omega
      have hj1 : (j : Int) < (l.length : Int) := by omega
      have hj2 : (0 : Int) ≤ (j : Int) + 1 := by omega
      have hj3 : (j : Int) + 1 < (l.length : Int) := by omega
      have hj4 : ((j : Int) + 1).toNat = j + 1 := by omega
      obtain ⟨V, hV⟩ : ∃ V, ordI (fS l (j + 1), fA l (j + 1)) (fS l j, fA l j) = V := ⟨_, rfl⟩
      have HV : Hid (ordI (fS l (j + 1), fA l (j + 1)) (fS l j, fA l j) = V) := hV
      have HO : Hid (ordI (fo l (j + 1)) (fo l j) = V) := hV
      clear hc hb hV
      by_cases hv : V < 0
      · have HX : Hid (q = false) := by
          unfold Hid
          cases hq : q with
          | false => rfl
          | true => exact absurd hv (by have := HQ.out.1 hq j (by omega); rw [HO.out] at this; omega)
        go_wp2
        refine wp_region_cl (fun w' => Below wr.heap.size wr w') (by kernel_rfl) (by kernel_rfl) (Below.refl _ _).drew ?_
        repeat (first
          | go_big_quiet_skip
          | (go_big_quiet_want; go_big_quiet_op; go_big_quiet_on)
          | (go_big_quiet_want
             apply Exists.intro
             refine ⟨fun w7 hC7 => ?_, ?_⟩
             · (have b7 := hC7
                have y0 : w7.cell? ⟨b, off + (j + 1) * 2, none⟩ = some (.string (fS l (j + 1))) := (hC7.cell (p := ⟨b, off + (j + 1) * 2, none⟩) hbs).trans c0
                have y1 : w7.cell? ⟨b, off + (j + 1) * 2 + 1, none⟩ = some (.int .i64 (fA l (j + 1))) := (hC7.cell (p := ⟨b, off + (j + 1) * 2 + 1, none⟩) hbs).trans c1
                have y2 : w7.cell? ⟨b, off + j * 2, none⟩ = some (.string (fS l j)) := (hC7.cell (p := ⟨b, off + j * 2, none⟩) hbs).trans p0
                have y3 : w7.cell? ⟨b, off + j * 2 + 1, none⟩ = some (.int .i64 (fA l j)) := (hC7.cell (p := ⟨b, off + j * 2 + 1, none⟩) hbs).trans p1
                clear hC7
                go_simp
                first
                  | done
                  | rfl
                  | exact ⟨rfl, rfl⟩
                  | (with_reducible refine (implOrder_is (fS l (j + 1)) (fA l (j + 1)) (fS l j) (fA l j) V HV.out w7).mono ?_
                     rintro e w8 ⟨rfl, hb8⟩
                     first | exact ⟨rfl, bstep b7 hb8⟩ | (go_simp; exact bstep b7 hb8)))
             (go_simp; go_big_quiet_on)))
        refine wpQuiet_nil ?_
        intro w7 b7
        have Bf := bstep HB.out b7
        clear b7 c0 c1 p0 p1
        go_wp2
        go_ret
        exact ⟨ret_b HX.out.symm, Bf⟩
      · have HN : Hid (∀ m : Nat, (j : Int) < (m : Int) + 1 → m + 1 < l.length → 0 ≤ ordI (fo l (m + 1)) (fo l m)) := fun m h1 h2 => by
          by_cases e : m = j
          · subst e; rw [HO.out]; omega
          · exact HA.out m (by omega) h2
        go_wp2
        refine wp_region_cl (fun w' => Below wr.heap.size wr w') (by kernel_rfl) (by kernel_rfl) (Below.refl _ _).drew ?_
        repeat (first
          | go_big_quiet_skip
          | (go_big_quiet_want; go_big_quiet_op; go_big_quiet_on)
          | (go_big_quiet_want
             apply Exists.intro
             refine ⟨fun w7 hC7 => ?_, ?_⟩
             · (have b7 := hC7
                have y0 : w7.cell? ⟨b, off + (j + 1) * 2, none⟩ = some (.string (fS l (j + 1))) := (hC7.cell (p := ⟨b, off + (j + 1) * 2, none⟩) hbs).trans c0
                have y1 : w7.cell? ⟨b, off + (j + 1) * 2 + 1, none⟩ = some (.int .i64 (fA l (j + 1))) := (hC7.cell (p := ⟨b, off + (j + 1) * 2 + 1, none⟩) hbs).trans c1
                have y2 : w7.cell? ⟨b, off + j * 2, none⟩ = some (.string (fS l j)) := (hC7.cell (p := ⟨b, off + j * 2, none⟩) hbs).trans p0
                have y3 : w7.cell? ⟨b, off + j * 2 + 1, none⟩ = some (.int .i64 (fA l j)) := (hC7.cell (p := ⟨b, off + j * 2 + 1, none⟩) hbs).trans p1
                clear hC7
                go_simp
                first
                  | done
                  | rfl
                  | exact ⟨rfl, rfl⟩
                  | (with_reducible refine (implOrder_is (fS l (j + 1)) (fA l (j + 1)) (fS l j) (fA l j) V HV.out w7).mono ?_
                     rintro e w8 ⟨rfl, hb8⟩
                     first | exact ⟨rfl, bstep b7 hb8⟩ | (go_simp; exact bstep b7 hb8)))
             (go_simp; go_big_quiet_on)))
        refine wpQuiet_nil ?_
        intro w7 b7
        have Bf := bstep HB.out b7
        clear b7 c0 c1 p0 p1
        go_wp2
        go_roundw
        case rel => exact ⟨(j : Int), by omega, by omega, by go_num, HN.out, Bf⟩
        case measure => simp [intOf]
    · have HX : Hid (q = true) := HQ.out.2 fun i hi => HA.out i (by omega) hi
      go_wp2
      go_ret
      exact ⟨ret_b HX.out.symm, hb⟩
theorem implPlace1 (s : ByteArray) (x : Int) (B : Nat) (id : ByteArray) (b : Bool) (hb : sameS s id = b) (w : World) (h : w.cell? ⟨B, 0, none⟩ = some (.string id)) :
    Calls Try.prog 89 #[.agg #[.string s, .int .i64 x], .pointer (some ⟨B, 0, none⟩)] w fun e w' => e = .returned (.bool b) ∧ Below w.heap.size w w' := by
  have hlt := cell_lt h
  unfold sameS at hb
  go_enter Try.func89, Try.ntmps89
  go_wp2
  go_ret
  exact ⟨rfl, (Below.refl _ _).alloc (Nat.le_refl _) _⟩
set_option maxRecDepth 100000 in
set_option maxHeartbeats 8000000 in
theorem implPlaceIdx (a : Option Addr) (cap n : Nat) (l : List FO) (id : ByteArray) (B : Nat) (w : World) (h : IsFo w a l) (hn : n ≤ l.length) (hl : l.length ≤ 1048576) (hi : w.cell? ⟨B, 0, none⟩ = some (.string id)) :
    Calls Try.prog 88 #[.slice a n cap, .func (.func 89) #[] #[.pointer (some ⟨B, 0, none⟩)]] w fun e w' => e = .returned (.int .i64 (plI l n id)) ∧ Below w.heap.size w w' := by
  have HF : Hid (IsFo w a l) := h
  have HN : Hid (w.cell? ⟨B, 0, none⟩ = some (.string id)) := hi
  clear h hi
  go_enter Try.func88, Try.ntmps88
  go_wp2
  go_loopw [5, 8] (fun _ i wr => ∃ k : Nat, k ≤ n ∧ i = .int .i64 k ∧ (∀ j, j < k → sameS (fS l j) id = false) ∧ Below w.heap.size w wr) (fun _ i _ => n - (intOf i).toNat)
  case atStart => exact ⟨0, by omega, rfl, fun j h => by omega, Below.refl _ _⟩
  case round =>
    obtain ⟨k, hk, rfl, ha, hb⟩ := hrel
    have HA : Hid (∀ j, j < k → sameS (fS l j) id = false) := ha
    clear ha
    by_cases hlt : k < n
    · obtain ⟨b, o, rfl, hbs, hc⟩ := (HF.out.below hb).at (by omega)
      obtain ⟨c0, c1⟩ := hc k (by omega)
      have HW : Hid (Below w.heap.size w wr) := hb
      have n0 : wr.cell? ⟨B, 0, none⟩ = some (.string id) := by rw [hb.cell (p := ⟨B, 0, none⟩) (cell_lt HN.out)]; exact HN.out
      have hi1 : (k : Int) < (n : Int) := by omega
      have hi0 : (0 : Int) ≤ (k : Int) := by omega
      clear hc hb
      cases hg : sameS (fS l k) id with
      | false =>
        have HG : Hid (sameS (fS l k) id = false) := hg
        have HQ : Hid (∀ j, j < k + 1 → sameS (fS l j) id = false) := fun j hj => by
          by_cases e : j = k
          · subst e; exact hg
          · exact HA.out j (by omega)
        clear hg
        go_wp2_with fail
        with_reducible refine (implPlace1 (fS l k) (fA l k) B id false HG.out wr n0).mono ?_
        rintro e w7 ⟨rfl, b7⟩
        have B7 := bstep HW.out b7
        clear b7 c0 c1 n0
        go_wp2
        go_roundw
        case rel => exact ⟨k + 1, by omega, by go_num, HQ.out, B7⟩
        case measure => simp [intOf]; omega
      | true =>
        have HG : Hid (sameS (fS l k) id = true) := hg
        have HX : Hid (plI l n id = k) := pl_at hlt HA.out hg
        clear hg
        go_wp2_with fail
        with_reducible refine (implPlace1 (fS l k) (fA l k) B id true HG.out wr n0).mono ?_
        rintro e w7 ⟨rfl, b7⟩
        have B7 := bstep HW.out b7
        clear b7 c0 c1 n0
        go_wp2
        go_ret
        exact ⟨ret_i HX.out.symm, B7⟩
    · have HX : Hid (plI l n id = -1) := pl_no fun j hj => HA.out j (by omega)
      have hi2 : ¬ (k : Int) < (n : Int) := by omega
      go_wp2
      go_ret
      exact ⟨ret_i HX.out.symm, hb⟩
theorem implPlaceOf (a : Option Addr) (cap n : Nat) (l : List FO) (id : ByteArray) (V : Int) (hV : plI l n id = V) (w : World) (h : IsFo w a l) (hn : n ≤ l.length) (hl : l.length ≤ 1048576) :
    Calls Try.prog 53 #[.slice a n cap, .string id] w fun e w' => e = .returned (.int .i64 V) ∧ Below w.heap.size w w' := by
  subst hV
  have hb0 : Below w.heap.size w (w.alloc (.cells #[.string id] 9)) := (Below.refl _ w).alloc (Nat.le_refl _) _
  have HB0 : Hid (Below w.heap.size w (w.alloc (.cells #[.string id] 9))) := hb0
  have HC : Hid ((w.alloc (.cells #[.string id] 9)).cell? ⟨w.heap.size, 0, none⟩ = some (.string id)) := by unfold Hid; simp [go_sem]
  have HF : Hid (IsFo (w.alloc (.cells #[.string id] 9)) a l) := h.below hb0
  clear h hb0
  go_enter Try.func53, Try.ntmps53
  go_wp2_with fail
  refine (implPlaceIdx a cap n l id w.heap.size _ HF.out hn hl HC.out).mono ?_
  rintro e w1 ⟨rfl, b1⟩
  have B1 := bstep HB0.out b1
  clear b1
  go_wp2
  go_ret
  exact ⟨rfl, B1⟩
set_option maxRecDepth 100000 in
set_option maxHeartbeats 16000000 in
theorem implFoundOk (a : Option Addr) (cap : Nat) (l : List FO) (w : World) (h : IsFo w a l) (hs : FSmall l) (hcap : l.length ≤ cap) (r : Bool) (hr : r = true ↔ FOk l) :
    Calls Try.prog 17 #[.slice a l.length cap] w fun e w' => e = .returned (.bool r) ∧ Below w.heap.size w w' := by
  have HF : Hid (IsFo w a l) := h
  have HR : Hid (r = true ↔ FOk l) := hr
  have HS : Hid (∀ i, i < l.length → (fS l i).size ≤ maxLen) := fun i hi => by have := hs.2 i hi; unfold maxLen; omega
  have hl1 := hs.1
  clear h hr hs
  by_cases h12 : (l.length : Int) > 12
  · have HV : Hid (r = false) := fok_not HR.out fun q => by have := q.len; omega
    go_enter Try.func17, Try.ntmps17
    go_wp2
    go_ret
    exact ⟨ret_b HV.out.symm, Below.refl _ _⟩
  obtain ⟨q, hq⟩ : ∃ q : Bool, q = true ↔ ∀ i, i + 1 < l.length → 0 ≤ ordI (fo l (i + 1)) (fo l i) := by classical exact ⟨decide _, decide_eq_true_iff⟩
  have HQ : Hid (q = true ↔ ∀ i, i + 1 < l.length → 0 ≤ ordI (fo l (i + 1)) (fo l i)) := hq
  clear hq
  go_enter Try.func17, Try.ntmps17
  go_wp2_with fail
  refine (implSorted a cap l w HF.out hl1 q HQ.out).mono ?_
  rintro e w1 ⟨rfl, b1⟩
  have HB1 : Hid (Below w.heap.size w w1) := b1
  have HF1 : Hid (IsFo w1 a l) := HF.out.below b1
  clear b1
  cases q with
  | false =>
    have HV : Hid (r = false) := fok_not HR.out fun z => by
      have := HQ.out.2 fun i hi => Int.not_lt.1 (ord_of_ahead (z.ah i hi))
      cases this
    have Bf := HB1.out
    go_wp2
    go_ret
    exact ⟨ret_b HV.out.symm, Bf⟩
  | true =>
    have HSO : Hid (∀ i, i + 1 < l.length → 0 ≤ ordI (fo l (i + 1)) (fo l i)) := HQ.out.1 rfl
    clear HQ
    go_wp2
    go_loopw [3, 15] (fun _ i wr => ∃ k : Nat, k ≤ l.length ∧ i = .int .i64 k ∧ (∀ i, i < k → nmB (fS l i) = true) ∧ (∀ i j, j < i → i < k → sameS (fS l j) (fS l i) = false) ∧ Below w1.heap.size w1 wr) (fun _ i _ => l.length - (intOf i).toNat)
    case atStart => exact ⟨0, by omega, rfl, fun i h => by omega, fun i j _ h => by omega, Below.refl _ _⟩
    case round =>
      obtain ⟨k, hk, rfl, hn, hd, hb⟩ := hrel
      have HN : Hid (∀ i, i < k → nmB (fS l i) = true) := hn
      have HD : Hid (∀ i j, j < i → i < k → sameS (fS l j) (fS l i) = false) := hd
      have HB : Hid (Below w.heap.size w wr) := bstep HB1.out hb
      have HBr : Hid (Below w1.heap.size w1 wr) := hb
      clear hn hd
      by_cases hlt : k < l.length
      · obtain ⟨b, off, rfl, hbs, hc⟩ := (HF1.out.below hb).at (by omega)
        obtain ⟨c0, c1⟩ := hc k hlt
        have HFr : Hid (IsFo wr (some ⟨b, off, none⟩) l) := .inr ⟨b, off, rfl, hbs, hc⟩
        have hi0 : (0 : Int) ≤ (k : Int) := by omega
        have hi1 : (k : Int) < (l.length : Int) := by omega
        have hi2 : (k : Int) ≤ (cap : Int) := by omega
        have HZ : Hid ((wr.alloc (.cells #[.string (fS l k), .int .i64 (fA l k)] 71)).cell? ⟨wr.heap.size, 0, none⟩ = some (.string (fS l k))) := by unfold Hid; simp [go_sem]
        have HZL : Hid (wr.heap.size < (wr.alloc (.cells #[.string (fS l k), .int .i64 (fA l k)] 71)).heap.size) := by unfold Hid; simp
        have HBA : Hid (Below wr.heap.size wr (wr.alloc (.cells #[.string (fS l k), .int .i64 (fA l k)] 71))) := (Below.refl _ wr).alloc (Nat.le_refl _) _
        have HSk : Hid ((fS l k).size ≤ maxLen) := HS.out k hlt
        clear hc hb
        cases hn : nmB (fS l k) with
        | false =>
          have HNF : Hid (nmB (fS l k) = false) := hn
          have HV : Hid (r = false) := fok_not HR.out fun z => by have := z.nm k hlt; rw [HNF.out] at this; cases this
          clear hn
          go_upto_region 6 with fail
          generalize wr.alloc (.cells #[.string (fS l k), .int .i64 (fA l k)] 71) = W1 at HZ HZL HBA ⊢
          generalize wr.heap.size = Z at HZ HZL ⊢
          have hZL := HZL.out
          have hz0 := HZ.out
          have HF2 : Hid (IsFo W1 (some ⟨b, off, none⟩) l) := HFr.out.below HBA.out
          have HB2 := Hid.of (bstep HB.out HBA.out)
          have HB3 := Hid.of (bstep HBr.out HBA.out)
          clear c0 c1
          refine wp_region_cl (fun w' => Below W1.heap.size W1 w') (by kernel_rfl) (by kernel_rfl) (Below.refl _ _).drew ?_
          repeat (first
            | go_big_quiet_skip
            | (go_big_quiet_want; go_big_quiet_op; go_big_quiet_on)
            | (go_big_quiet_want
               apply Exists.intro
               refine ⟨fun w7 hC7 => ?_, ?_⟩
               · (have b7 := hC7
                  have y0 : w7.cell? ⟨Z, 0, none⟩ = some (.string (fS l k)) := (hC7.cell (p := ⟨Z, 0, none⟩) hZL).trans hz0
                  clear hC7
                  go_simp
                  first
                    | done
                    | rfl
                    | exact ⟨rfl, rfl⟩
                    | (with_reducible refine (implName_is (fS l k) false HNF.out w7 HSk.out).mono ?_
                       rintro e w8 ⟨rfl, rfl⟩
                       first | exact ⟨rfl, b7⟩ | (go_simp; exact b7)))
               (go_simp; go_big_quiet_on)))
          refine wpQuiet_nil ?_
          intro w7 b7
          have Bf := bstep HB2.out b7
          clear b7 hz0 hZL
          go_wp2
          go_ret
          exact ⟨ret_b HV.out.symm, Bf⟩
        | true =>
          have HNT : Hid (nmB (fS l k) = true) := hn
          clear hn
          obtain ⟨V, hV⟩ : ∃ V, plI l k (fS l k) = V := ⟨_, rfl⟩
          have HPV : Hid (plI l k (fS l k) = V) := hV
          by_cases hex : ∃ m, m < k ∧ sameS (fS l m) (fS l k) = true
          · obtain ⟨m, hm, hsm⟩ := hex
            have v0 : V ≥ 0 := by rw [← hV]; exact pl_ge hm hsm
            have HV : Hid (r = false) := fok_not HR.out fun z => by have := z.ds k m hm hlt; rw [hsm] at this; cases this
            clear hV hsm
            go_upto_region 6 with fail
            generalize wr.alloc (.cells #[.string (fS l k), .int .i64 (fA l k)] 71) = W1 at HZ HZL HBA ⊢
            generalize wr.heap.size = Z at HZ HZL ⊢
            have hZL := HZL.out
            have hz0 := HZ.out
            have HF2 : Hid (IsFo W1 (some ⟨b, off, none⟩) l) := HFr.out.below HBA.out
            have HB2 := Hid.of (bstep HB.out HBA.out)
            have HB3 := Hid.of (bstep HBr.out HBA.out)
            clear c0 c1
            refine wp_region_cl (fun w' => Below W1.heap.size W1 w') (by kernel_rfl) (by kernel_rfl) (Below.refl _ _).drew ?_
            repeat (first
              | go_big_quiet_skip
              | (go_big_quiet_want; go_big_quiet_op; go_big_quiet_on)
              | (go_big_quiet_want
                 apply Exists.intro
                 refine ⟨fun w7 hC7 => ?_, ?_⟩
                 · (have b7 := hC7
                    have y0 : w7.cell? ⟨Z, 0, none⟩ = some (.string (fS l k)) := (hC7.cell (p := ⟨Z, 0, none⟩) hZL).trans hz0
                    clear hC7
                    go_simp
                    first
                      | done
                      | rfl
                      | exact ⟨rfl, rfl⟩
                      | (with_reducible refine (implName_is (fS l k) true HNT.out w7 HSk.out).mono ?_
                         rintro e w8 ⟨rfl, rfl⟩
                         first | exact ⟨rfl, b7⟩ | (go_simp; exact b7))
                      | (with_reducible refine (implPlaceOf (some ⟨b, off, none⟩) cap k l (fS l k) V HPV.out w7 (HF2.out.below b7) (by omega) hl1).mono ?_
                         rintro e w8 ⟨rfl, hb8⟩
                         first | exact ⟨rfl, bstep b7 hb8⟩ | (go_simp; exact bstep b7 hb8)))
                 (go_simp; go_big_quiet_on)))
            refine wpQuiet_nil ?_
            intro w7 b7
            have Bf := bstep HB2.out b7
            clear b7 hz0 hZL
            go_wp2
            go_ret
            exact ⟨ret_b HV.out.symm, Bf⟩
          · have hno : ∀ m, m < k → sameS (fS l m) (fS l k) = false := fun m hm => by
              cases hq : sameS (fS l m) (fS l k) with
              | false => rfl
              | true => exact absurd ⟨m, hm, hq⟩ hex
            have v0 : V = -1 := by rw [← hV]; exact pl_no hno
            subst v0
            have HN2 : Hid (∀ i, i < k + 1 → nmB (fS l i) = true) := fun i hi => by
              by_cases e : i = k
              · subst e; exact HNT.out
              · exact HN.out i (by omega)
            have HD2 : Hid (∀ i j, j < i → i < k + 1 → sameS (fS l j) (fS l i) = false) := fun i j h1 h2 => by
              by_cases e : i = k
              · subst e; exact hno j h1
              · exact HD.out i j h1 (by omega)
            clear hV hno hex
            go_upto_region 6 with fail
            generalize wr.alloc (.cells #[.string (fS l k), .int .i64 (fA l k)] 71) = W1 at HZ HZL HBA ⊢
            generalize wr.heap.size = Z at HZ HZL ⊢
            have hZL := HZL.out
            have hz0 := HZ.out
            have HF2 : Hid (IsFo W1 (some ⟨b, off, none⟩) l) := HFr.out.below HBA.out
            have HB2 := Hid.of (bstep HB.out HBA.out)
            have HB3 := Hid.of (bstep HBr.out HBA.out)
            clear c0 c1
            refine wp_region_cl (fun w' => Below W1.heap.size W1 w') (by kernel_rfl) (by kernel_rfl) (Below.refl _ _).drew ?_
            repeat (first
              | go_big_quiet_skip
              | (go_big_quiet_want; go_big_quiet_op; go_big_quiet_on)
              | (go_big_quiet_want
                 apply Exists.intro
                 refine ⟨fun w7 hC7 => ?_, ?_⟩
                 · (have b7 := hC7
                    have y0 : w7.cell? ⟨Z, 0, none⟩ = some (.string (fS l k)) := (hC7.cell (p := ⟨Z, 0, none⟩) hZL).trans hz0
                    clear hC7
                    go_simp
                    first
                      | done
                      | rfl
                      | exact ⟨rfl, rfl⟩
                      | (with_reducible refine (implName_is (fS l k) true HNT.out w7 HSk.out).mono ?_
                         rintro e w8 ⟨rfl, rfl⟩
                         first | exact ⟨rfl, b7⟩ | (go_simp; exact b7))
                      | (with_reducible refine (implPlaceOf (some ⟨b, off, none⟩) cap k l (fS l k) (-1) HPV.out w7 (HF2.out.below b7) (by omega) hl1).mono ?_
                         rintro e w8 ⟨rfl, hb8⟩
                         first | exact ⟨rfl, bstep b7 hb8⟩ | (go_simp; exact bstep b7 hb8)))
                 (go_simp; go_big_quiet_on)))
            refine wpQuiet_nil ?_
            intro w7 b7
            have Bf := bstep HB3.out b7
            clear b7 hz0 hZL
            go_wp2
            go_roundw
            case rel => exact ⟨k + 1, by omega, by go_num, HN2.out, HD2.out, Bf⟩
            case measure => simp [intOf]; omega
      · have HV : Hid (r = true) := HR.out.2 (ok_of (by omega) (fun i hi => HN.out i (by omega)) (fun i hi => Int.not_lt.2 (HSO.out i hi)) fun i j h1 h2 => HD.out i j h1 (by omega))
        have Bf := HB.out
        clear hb
        go_wp2
        go_ret
        exact ⟨ret_b HV.out.symm, Bf⟩
end Go.Proofs.Ytecijmdkicgemaa
