/- What the specification draws: a time near a zone's turns; a zone and a time. -/
import Derived.Test.YtihklmbblbnihaaDz3
namespace Go.Proofs.Ytihklmbblbnihaa
open Go.RowKit
set_option linter.unusedVariables false
theorem one_blk (w : World) (rb L : Nat) (h : Rd w rb L) (hL : L ≤ 1099511627776) (n lb : Nat) (xs : List Int) (hx : xs.length = n) (hm : 1 ≤ n) (hm2 : n ≤ 1000) (vs : Array Value) (hb : w.heap[lb]? = some (.cells vs 3 (0, 0))) (hv : vs = (xs.map (fun x => Value.int .i64 x)).toArray) (hne : lb ≠ rb) :
    Calls Try.prog 61 #[.pointer (some ⟨rb, 0, none⟩), .slice (some ⟨lb, 0, none⟩) n n] w fun e w' => (∃ r : Int, e = .returned (.int .i64 r) ∧ r ∈ xs) ∧ Rd w' rb (L + 1) ∧ But rb w.heap.size w w' := by
  refine one_any w rb L h hL lb n n xs hx hm hm2 hne (Array.getElem?_eq_some_iff.1 hb).1 ?_
  intro i hi
  rw [cell_of_row w lb i vs 3 (0, 0) hb, hv]
  exact ints_at xs i (by omega)
theorem heap_two (w : World) (a b : Obj) : ((w.alloc a).alloc b).heap[w.heap.size]? = some a ∧ ((w.alloc a).alloc b).heap[w.heap.size + 1]? = some b := by
  refine ⟨(Below.heap_alloc _ _ _ (by simp)).trans (heap_alloc_new _ _), ?_⟩
  have := heap_alloc_new (w.alloc a) b
  rw [World.size_alloc] at this
  exact this
abbrev N3 (w0 : World) (rb T Z : Nat) (x y sh : Value) (w' : World) : Prop := w'.cell? ⟨T, 0, none⟩ = some x ∧ w'.cell? ⟨T, 1, none⟩ = some y ∧ w'.cell? ⟨Z, 1, none⟩ = some sh ∧ But rb w0.heap.size w0 w'
theorem N3.on {w0 : World} {T Z rb : Nat} {x y sh : Value} {W w' : World} (h : N3 w0 rb T Z x y sh W) (h1 : rb ≠ T) (h2 : rb ≠ Z) (hb : But rb W.heap.size W w') : N3 w0 rb T Z x y sh w' := by
  obtain ⟨a, b, c, d⟩ := h
  exact ⟨by rw [hb.cell (p := ⟨T, 0, none⟩) (cell_lt a) (Ne.symm h1)]; exact a, by rw [hb.cell (p := ⟨T, 1, none⟩) (cell_lt a) (Ne.symm h1)]; exact b, by rw [hb.cell (p := ⟨Z, 1, none⟩) (cell_lt c) (Ne.symm h2)]; exact c, d.trans (hb.mono d.size)⟩
set_option maxRecDepth 100000 in
set_option maxHeartbeats 16000000 in
theorem near_any (s : ByteArray) (sh : Int) (v : Value) (ts : List (Int × Int)) (B : Nat) (w : World) (rb L : Nat) (h : Rd w rb L) (hL : L ≤ 1099511624000) (hO : OT w B v ts) (hB : rb < B) (hl : ts.length ≤ 1000) :
    Calls Try.prog 52 #[.pointer (some ⟨rb, 0, none⟩), .agg #[.string s, .int .i64 sh, v]] w fun e w' => (∃ x : Int, e = .returned (.int .i64 x)) ∧ Rd w' rb (L + 20) ∧ But rb w.heap.size w w' := by
  obtain ⟨va, vc, rfl, _⟩ := OT.turns hO
  have hs := h.size
  have b0 : Below w.heap.size w (w.alloc (.cells #[.string s, .int .i64 sh, .slice va ts.length vc] 25)) := (Below.refl _ _).alloc (Nat.le_refl _) _
  have h0 := h.below b0
  have O0 := World.ownsRow.alloc hO (.cells #[.string s, .int .i64 sh, .slice va ts.length vc] 25)
  have C0 := C3.new w (.string s) (.int .i64 sh) (.slice va ts.length vc) 25
  by_cases hn : ts.length = 0
  · obtain rfl : ts = [] := List.length_eq_zero_iff.1 hn
    simp only [List.length_nil] at *
    go_enter Try.func52, Try.ntmps52
    go_wp2_with fail
    generalize w.alloc (.cells #[.string s, .int .i64 sh, .slice va 0 vc] 25) = W0 at b0 h0 O0 C0 ⊢
    refine (anytime_any _ rb _ h0 (by omega)).mono ?_
    rintro e w1 ⟨⟨x, rfl, _, _⟩, hr1, hb1⟩
    have hb := (But.of_below b0).trans (hb1.mono b0.size)
    clear hb1 b0 h0 O0 C0
    go_wp2
    go_ret
    exact ⟨⟨_, rfl⟩, hr1.mono (by omega), hb⟩
  · have hn' : ((ts.length : Int) == 0) = false := beq_eq_false_iff_ne.2 (by omega)
    go_enter Try.func52, Try.ntmps52
    go_wp2_with fail
    generalize w.alloc (.cells #[.string s, .int .i64 sh, .slice va ts.length vc] 25) = W0 at b0 h0 O0 C0 ⊢
    refine (pick_pos _ _ rb _ h0 (by omega) (by omega)).mono ?_
    rintro e w1 ⟨⟨p, rfl, p0, p1⟩, hr1, hb1⟩
    have hb := (But.of_below b0).trans (hb1.mono b0.size)
    have O1 := own_but O0 hB hb1
    have zlt := cell_lt C0.1
    have c1 : w1.cell? ⟨w.heap.size, 1, none⟩ = some (.int .i64 sh) := by rw [hb1.cell (p := ⟨w.heap.size, 1, none⟩) zlt (by simp; omega)]; exact C0.2.1
    have c2 : w1.cell? ⟨w.heap.size, 2, none⟩ = some (.slice va ts.length vc) := by rw [hb1.cell (p := ⟨w.heap.size, 2, none⟩) zlt (by simp; omega)]; exact C0.2.2
    clear hb1 b0 h0 O0 C0
    by_cases hp : p = 0
    · subst hp
      go_wp2_with fail
      refine (anytime_any _ rb _ hr1 (by omega)).mono ?_
      rintro e w2 ⟨⟨x, rfl, _, _⟩, hr2, hb2⟩
      have hb' := hb.trans (hb2.mono hb.size)
      clear hb2 hb c1 c2 O1
      go_wp2
      go_ret
      exact ⟨⟨_, rfl⟩, hr2.mono (by omega), hb'⟩
    · have hp' : (p == 0) = false := beq_eq_false_iff_ne.2 hp
      obtain ⟨g, cap, e, hg0, hg1⟩ := World.ownsRow.form O1 (by omega)
      simp only [Value.slice.injEq, true_and] at e
      obtain ⟨rfl, rfl⟩ := e
      have hc : ∀ q, q < ts.length → w1.cell? ⟨g, q * 2, none⟩ = some (.int .i64 (tAt ts q)) ∧ w1.cell? ⟨g, q * 2 + 1, none⟩ = some (.int .i64 (tSh ts q)) := fun q hq => by
        have hc := fun j hj => World.ownsRow.cellAt (w := w1) (base := B) (e := 31) (size := 2) (g := g) (n := ts.length) (cap := vc) (xs := tcs ts) O1 j hj
        rw [hc _ (by omega), hc _ (by omega)]; exact tcs_at ts q hq
      have HC : Hid (∀ q, q < ts.length → w1.cell? ⟨g, q * 2, none⟩ = some (.int .i64 (tAt ts q)) ∧ w1.cell? ⟨g, q * 2 + 1, none⟩ = some (.int .i64 (tSh ts q))) := hc
      clear hc O1
      have zl1 := cell_lt c1
      go_wp2
      have rw1 : rb < w1.heap.size := hr1.size
      go_region_with (first
        | (go_at_call 59; refine (pick_pos _ w1.drew rb _ (hr1.below (Below.refl _ _).drew) (by omega) (by omega)).mono ?_; rintro e w5 ⟨⟨q, rfl, q0, q1⟩, hr5, hb5'⟩; have hb5 : But rb w1.heap.size w1 w5 := ⟨hb5'.os, hb5'.tape, hb5'.output, hb5'.size, hb5'.block⟩; clear hb5'; obtain ⟨Q, rfl⟩ := Int.eq_ofNat_of_zero_le q0; have k2 : w5.cell? ⟨w.heap.size, 2, none⟩ = some (.slice (some ⟨g, 0, none⟩) ts.length vc) := (hb5.cell (p := ⟨w.heap.size, 2, none⟩) zl1 (by simp; omega)).trans c2; have k1 : w5.cell? ⟨w.heap.size, 1, none⟩ = some (.int .i64 sh) := (hb5.cell (p := ⟨w.heap.size, 1, none⟩) zl1 (by simp; omega)).trans c1; have t0 : w5.cell? ⟨g, Q * 2, none⟩ = some (.int .i64 (tAt ts Q)) := (hb5.cell (p := ⟨g, Q * 2, none⟩) hg1 (by simp; omega)).trans (HC.out Q (by omega)).1; have t1 : w5.cell? ⟨g, Q * 2 + 1, none⟩ = some (.int .i64 (tSh ts Q)) := (hb5.cell (p := ⟨g, Q * 2 + 1, none⟩) hg1 (by simp; omega)).trans (HC.out Q (by omega)).2; have g5 : g < w5.heap.size := cell_lt t0; have z5 : w.heap.size < w5.heap.size := cell_lt k2)
        | (go_at_call 59; refine (pick_pos _ (w1.alloc (.cells #[.int .i64 0, .int .i64 0] 31)).drew rb _ (hr1.below ((Below.refl _ _).alloc (Nat.le_refl _) _).drew) (by omega) (by omega)).mono ?_; rintro e w5 ⟨⟨q, rfl, q0, q1⟩, hr5, hb5'⟩; have n0 : w5.cell? ⟨w1.heap.size, 0, none⟩ = some (.int .i64 0) := (hb5'.cell (p := ⟨w1.heap.size, 0, none⟩) (by show _ < (w1.alloc _).heap.size; simp) (by simp; omega)).trans (by show (w1.alloc _).cell? _ = _; simp); have n1 : w5.cell? ⟨w1.heap.size, 1, none⟩ = some (.int .i64 0) := (hb5'.cell (p := ⟨w1.heap.size, 1, none⟩) (by show _ < (w1.alloc _).heap.size; simp) (by simp; omega)).trans (by show (w1.alloc _).cell? _ = _; simp); have m0 : w5.frozen? ⟨w1.heap.size, 0, none⟩ = false := (hb5'.frozen (p := ⟨w1.heap.size, 0, none⟩) (by show _ < (w1.alloc _).heap.size; simp) (by simp; omega)).trans (by show (w1.alloc _).frozen? _ = _; simp); have m1 : w5.frozen? ⟨w1.heap.size, 1, none⟩ = false := (hb5'.frozen (p := ⟨w1.heap.size, 1, none⟩) (by show _ < (w1.alloc _).heap.size; simp) (by simp; omega)).trans (by show (w1.alloc _).frozen? _ = _; simp); have hb5 : But rb w1.heap.size w1 w5 := ((But.refl rb w1.heap.size w1).alloc (Nat.le_refl _) (.cells #[.int .i64 0, .int .i64 0] 31)).trans ⟨hb5'.os, hb5'.tape, hb5'.output, hb5'.size, fun k hk hr => hb5'.block k (by show _ < (w1.alloc _).heap.size; simp; omega) hr⟩; clear hb5'; obtain ⟨Q, rfl⟩ := Int.eq_ofNat_of_zero_le q0; have k2 : w5.cell? ⟨w.heap.size, 2, none⟩ = some (.slice (some ⟨g, 0, none⟩) ts.length vc) := (hb5.cell (p := ⟨w.heap.size, 2, none⟩) zl1 (by simp; omega)).trans c2; have k1 : w5.cell? ⟨w.heap.size, 1, none⟩ = some (.int .i64 sh) := (hb5.cell (p := ⟨w.heap.size, 1, none⟩) zl1 (by simp; omega)).trans c1; have t0 : w5.cell? ⟨g, Q * 2, none⟩ = some (.int .i64 (tAt ts Q)) := (hb5.cell (p := ⟨g, Q * 2, none⟩) hg1 (by simp; omega)).trans (HC.out Q (by omega)).1; have t1 : w5.cell? ⟨g, Q * 2 + 1, none⟩ = some (.int .i64 (tSh ts Q)) := (hb5.cell (p := ⟨g, Q * 2 + 1, none⟩) hg1 (by simp; omega)).trans (HC.out Q (by omega)).2; have g5 : g < w5.heap.size := cell_lt t0; have z5 : w.heap.size < w5.heap.size := cell_lt k2))
      all_goals first
        | (
          revert n0; intro n0
          have n3 : N3 w rb w1.heap.size w.heap.size (.int .i64 (tAt ts Q)) (.int .i64 (tSh ts Q)) (.int .i64 sh) ((w5.setCell ⟨w1.heap.size, 0, none⟩ (.int .i64 (tAt ts Q))).setCell ⟨w1.heap.size, 1, none⟩ (.int .i64 (tSh ts Q))) := ⟨by rw [World.cell?_setCell_other _ _ _ _ (by simp)]; exact World.cell?_setCell_same _ _ _ n0, World.cell?_setCell_same _ _ _ (u := .int .i64 0) (by rw [World.cell?_setCell_other _ _ _ _ (by simp)]; exact n1), by rw [cell_far _ _ _ _ (by simp; omega), cell_far _ _ _ _ (by simp; omega)]; exact k1, ((hb.trans (hb5.mono hb.size)).setCell (p := ⟨w1.heap.size, 0, none⟩) (.inl (by have := hb.size; simpa using this)) _).setCell (p := ⟨w1.heap.size, 1, none⟩) (.inl (by have := hb.size; simpa using this)) _⟩
          have rd4 := (hr5.setCell (p := ⟨w1.heap.size, 0, none⟩) (by simp; omega) (.int .i64 (tAt ts Q))).setCell (p := ⟨w1.heap.size, 1, none⟩) (by simp; omega) (.int .i64 (tSh ts Q))
          have nT : rb ≠ w1.heap.size := by omega
          have nZ : rb ≠ w.heap.size := by omega
          clear k2 t0 t1 HC c1 c2 hr1 hb hb5 hr5 k1 n0 n1 m0 m1
          generalize hW4 : (w5.setCell ⟨w1.heap.size, 0, none⟩ (.int .i64 (tAt ts Q))).setCell ⟨w1.heap.size, 1, none⟩ (.int .i64 (tSh ts Q)) = W4 at n3 rd4 ⊢
          clear hW4
          have rT : rb < W4.heap.size := rd4.size
          have hAB : ∀ a b : Obj, W4.heap.size + 1 < ((W4.alloc a).alloc b).heap.size := fun a b => by simp
          have hBA : ∀ a b : Obj, W4.heap.size < ((W4.alloc a).alloc b).heap.size := fun a b => by simp; omega
          have hAr : W4.heap.size + 1 ≠ rb := by omega
          have hBr : W4.heap.size ≠ rb := by omega
          have HA : Hid (∀ w : World, (w.alloc (.cells #[.int .i64 0, .int .i64 (-1), .int .i64 1, .int .i64 30, .int .i64 (-30), .int .i64 60, .int .i64 (-60), .int .i64 90] 3)).heap[w.heap.size]? = some (.cells #[.int .i64 0, .int .i64 (-1), .int .i64 1, .int .i64 30, .int .i64 (-30), .int .i64 60, .int .i64 (-60), .int .i64 90] 3)) := fun w => heap_alloc_new _ _
          have HAB : Hid (((W4.alloc (.cells #[.int .i64 0, .int .i64 (-1), .int .i64 1, .int .i64 30, .int .i64 (-30), .int .i64 60, .int .i64 (-60), .int .i64 90] 3)).alloc (.cells #[.int .i64 0, .int .i64 sh, .int .i64 (tSh ts Q)] 3)).heap[W4.heap.size]? = some (.cells #[.int .i64 0, .int .i64 (-1), .int .i64 1, .int .i64 30, .int .i64 (-30), .int .i64 60, .int .i64 (-60), .int .i64 90] 3) ∧ ((W4.alloc (.cells #[.int .i64 0, .int .i64 (-1), .int .i64 1, .int .i64 30, .int .i64 (-30), .int .i64 60, .int .i64 (-60), .int .i64 90] 3)).alloc (.cells #[.int .i64 0, .int .i64 sh, .int .i64 (tSh ts Q)] 3)).heap[W4.heap.size + 1]? = some (.cells #[.int .i64 0, .int .i64 sh, .int .i64 (tSh ts Q)] 3)) := heap_two _ _ _
          have HBA : Hid (((W4.alloc (.cells #[.int .i64 0, .int .i64 sh, .int .i64 (tSh ts Q)] 3)).alloc (.cells #[.int .i64 0, .int .i64 (-1), .int .i64 1, .int .i64 30, .int .i64 (-30), .int .i64 60, .int .i64 (-60), .int .i64 90] 3)).heap[W4.heap.size]? = some (.cells #[.int .i64 0, .int .i64 sh, .int .i64 (tSh ts Q)] 3) ∧ ((W4.alloc (.cells #[.int .i64 0, .int .i64 sh, .int .i64 (tSh ts Q)] 3)).alloc (.cells #[.int .i64 0, .int .i64 (-1), .int .i64 1, .int .i64 30, .int .i64 (-30), .int .i64 60, .int .i64 (-60), .int .i64 90] 3)).heap[W4.heap.size + 1]? = some (.cells #[.int .i64 0, .int .i64 (-1), .int .i64 1, .int .i64 30, .int .i64 (-30), .int .i64 60, .int .i64 (-60), .int .i64 90] 3)) := heap_two _ _ _
          go_wp2
          go_region_held3 (fun w' => w'.cell? ⟨w1.heap.size, 0, none⟩ = some (.int .i64 (tAt ts Q)) ∧ w'.cell? ⟨w1.heap.size, 1, none⟩ = some (.int .i64 (tSh ts Q)) ∧ w'.cell? ⟨w.heap.size, 1, none⟩ = some (.int .i64 sh) ∧ But rb w.heap.size w w')
            (first | assumption | exact N3.on n3 nT nZ (But.refl _ _ _).drew | exact N3.on (by assumption) nT nZ ((But.refl _ _ _).alloc (Nat.le_refl _) _) | exact N3.on (by assumption) nT nZ hb6)
            (first
              | (go_at_call_of 61 (8 : Nat); refine (one_blk _ rb (L + 2) (by first | exact rd4.below ((Below.refl _ _).alloc (Nat.le_refl _) _).drew | exact rd4.below (((Below.refl _ _).alloc (Nat.le_refl _) _).alloc (by simp) _).drew) (by omega) 8 _ [0, -1, 1, 30, -30, 60, -60, 90] rfl (by omega) (by omega) _ (by first | exact HA.out _ | exact HAB.out.1 | exact HBA.out.2) rfl (by omega)).mono ?_; rintro e w6 ⟨⟨q1, rfl, hq1⟩, hr6, hb6⟩)
              | (go_at_call_of 61 (3 : Nat); refine (one_blk _ rb (L + 3) (by first | exact hr6 | exact hr6.below ((Below.refl _ _).alloc (Nat.le_refl _) _)) (by omega) 3 _ [0, sh, tSh ts Q] rfl (by omega) (by omega) _ (by first | exact heap_alloc_new _ _ | exact (hb6.block (W4.heap.size + 1) (hAB _ _) hAr).trans HAB.out.2 | exact (hb6.block W4.heap.size (hBA _ _) hBr).trans HBA.out.1) rfl (by have := hb6.size; simp at this; omega)).mono ?_; rintro e w7 ⟨⟨q2, rfl, hq2⟩, hr7, hb6⟩))
          all_goals
            have fin : N3 w rb (w1.heap.size) w.heap.size (.int .i64 (tAt ts Q)) (.int .i64 (tSh ts Q)) (.int .i64 sh) w7 := by assumption
            go_wp2
            go_ret
            exact ⟨⟨_, rfl⟩, hr7.mono (by omega), fin.2.2.2⟩)
        | (
          have n3 : N3 w rb w5.heap.size w.heap.size (.int .i64 (tAt ts Q)) (.int .i64 (tSh ts Q)) (.int .i64 sh) (w5.alloc (.cells #[.int .i64 (tAt ts Q), .int .i64 (tSh ts Q)] 31)) := ⟨by simp, by simp, by rw [World.cell?_alloc_past _ _ _ z5]; exact k1, (hb.trans (hb5.mono hb.size)).alloc (Nat.le_trans hb.size hb5.size) _⟩
          have rd4 := hr5.below ((Below.refl w5.heap.size w5).alloc (Nat.le_refl _) (.cells #[.int .i64 (tAt ts Q), .int .i64 (tSh ts Q)] 31))
          have nT : rb ≠ w5.heap.size := by omega
          have nZ : rb ≠ w.heap.size := by omega
          clear k2 t0 t1 HC c1 c2 hr1 hb hb5 hr5 k1
          generalize hW4 : w5.alloc (.cells #[.int .i64 (tAt ts Q), .int .i64 (tSh ts Q)] 31) = W4 at n3 rd4 ⊢
          clear hW4
          have rT : rb < W4.heap.size := rd4.size
          have hAB : ∀ a b : Obj, W4.heap.size + 1 < ((W4.alloc a).alloc b).heap.size := fun a b => by simp
          have hBA : ∀ a b : Obj, W4.heap.size < ((W4.alloc a).alloc b).heap.size := fun a b => by simp; omega
          have hAr : W4.heap.size + 1 ≠ rb := by omega
          have hBr : W4.heap.size ≠ rb := by omega
          have HA : Hid (∀ w : World, (w.alloc (.cells #[.int .i64 0, .int .i64 (-1), .int .i64 1, .int .i64 30, .int .i64 (-30), .int .i64 60, .int .i64 (-60), .int .i64 90] 3)).heap[w.heap.size]? = some (.cells #[.int .i64 0, .int .i64 (-1), .int .i64 1, .int .i64 30, .int .i64 (-30), .int .i64 60, .int .i64 (-60), .int .i64 90] 3)) := fun w => heap_alloc_new _ _
          have HAB : Hid (((W4.alloc (.cells #[.int .i64 0, .int .i64 (-1), .int .i64 1, .int .i64 30, .int .i64 (-30), .int .i64 60, .int .i64 (-60), .int .i64 90] 3)).alloc (.cells #[.int .i64 0, .int .i64 sh, .int .i64 (tSh ts Q)] 3)).heap[W4.heap.size]? = some (.cells #[.int .i64 0, .int .i64 (-1), .int .i64 1, .int .i64 30, .int .i64 (-30), .int .i64 60, .int .i64 (-60), .int .i64 90] 3) ∧ ((W4.alloc (.cells #[.int .i64 0, .int .i64 (-1), .int .i64 1, .int .i64 30, .int .i64 (-30), .int .i64 60, .int .i64 (-60), .int .i64 90] 3)).alloc (.cells #[.int .i64 0, .int .i64 sh, .int .i64 (tSh ts Q)] 3)).heap[W4.heap.size + 1]? = some (.cells #[.int .i64 0, .int .i64 sh, .int .i64 (tSh ts Q)] 3)) := heap_two _ _ _
          have HBA : Hid (((W4.alloc (.cells #[.int .i64 0, .int .i64 sh, .int .i64 (tSh ts Q)] 3)).alloc (.cells #[.int .i64 0, .int .i64 (-1), .int .i64 1, .int .i64 30, .int .i64 (-30), .int .i64 60, .int .i64 (-60), .int .i64 90] 3)).heap[W4.heap.size]? = some (.cells #[.int .i64 0, .int .i64 sh, .int .i64 (tSh ts Q)] 3) ∧ ((W4.alloc (.cells #[.int .i64 0, .int .i64 sh, .int .i64 (tSh ts Q)] 3)).alloc (.cells #[.int .i64 0, .int .i64 (-1), .int .i64 1, .int .i64 30, .int .i64 (-30), .int .i64 60, .int .i64 (-60), .int .i64 90] 3)).heap[W4.heap.size + 1]? = some (.cells #[.int .i64 0, .int .i64 (-1), .int .i64 1, .int .i64 30, .int .i64 (-30), .int .i64 60, .int .i64 (-60), .int .i64 90] 3)) := heap_two _ _ _
          go_wp2
          go_region_held3 (fun w' => w'.cell? ⟨w5.heap.size, 0, none⟩ = some (.int .i64 (tAt ts Q)) ∧ w'.cell? ⟨w5.heap.size, 1, none⟩ = some (.int .i64 (tSh ts Q)) ∧ w'.cell? ⟨w.heap.size, 1, none⟩ = some (.int .i64 sh) ∧ But rb w.heap.size w w')
            (first | assumption | exact N3.on n3 nT nZ (But.refl _ _ _).drew | exact N3.on (by assumption) nT nZ ((But.refl _ _ _).alloc (Nat.le_refl _) _) | exact N3.on (by assumption) nT nZ hb6)
            (first
              | (go_at_call_of 61 (8 : Nat); refine (one_blk _ rb (L + 2) (by first | exact rd4.below ((Below.refl _ _).alloc (Nat.le_refl _) _).drew | exact rd4.below (((Below.refl _ _).alloc (Nat.le_refl _) _).alloc (by simp) _).drew) (by omega) 8 _ [0, -1, 1, 30, -30, 60, -60, 90] rfl (by omega) (by omega) _ (by first | exact HA.out _ | exact HAB.out.1 | exact HBA.out.2) rfl (by omega)).mono ?_; rintro e w6 ⟨⟨q1, rfl, hq1⟩, hr6, hb6⟩)
              | (go_at_call_of 61 (3 : Nat); refine (one_blk _ rb (L + 3) (by first | exact hr6 | exact hr6.below ((Below.refl _ _).alloc (Nat.le_refl _) _)) (by omega) 3 _ [0, sh, tSh ts Q] rfl (by omega) (by omega) _ (by first | exact heap_alloc_new _ _ | exact (hb6.block (W4.heap.size + 1) (hAB _ _) hAr).trans HAB.out.2 | exact (hb6.block W4.heap.size (hBA _ _) hBr).trans HBA.out.1) rfl (by have := hb6.size; simp at this; omega)).mono ?_; rintro e w7 ⟨⟨q2, rfl, hq2⟩, hr7, hb6⟩))
          all_goals
            have fin : N3 w rb (w5.heap.size) w.heap.size (.int .i64 (tAt ts Q)) (.int .i64 (tSh ts Q)) (.int .i64 sh) w7 := by assumption
            go_wp2
            go_ret
            exact ⟨⟨_, rfl⟩, hr7.mono (by omega), fin.2.2.2⟩)
end Go.Proofs.Ytihklmbblbnihaa
