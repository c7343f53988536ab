/- What the specification draws: rows of numbers. -/
import Derived.Test.YtlfglhpepoepcaaDoorDr
import Derived.Test.YtlfglhpepoepcaaDoorOm
import Derived.Deep.AppendLies
import Derived.Deep.RegionHeldLaw
import Derived.Deep.RegionLaw
namespace Go.Proofs.YtlfglhpepoepcaaDoor
open Go.RowKit
set_option linter.unusedVariables false
theorem le_maxLen {n : Nat} (h : n ≤ 1000000) : n ≤ maxLen := by unfold maxLen; omega
/-- An append at a step of a region that draws its order, nothing appended or something. -/
theorem step_append_i {P : Program} (w : World) {ops : Array Oper} {o : Oper} {a : Act} {K : Act → World → Prop} {Q : Exit → Act → World → Prop} {E : Prop} (hgd : o.guard = none) (s x : Operand) (t : TypeId)
    (ho : o.op = .call { callee := .builtin .append, args := #[s, x], argTypes := #[t, t] })
    (base : Nat) (e : TypeId) (i : TypeInfo) (z : Value) (size bytes : Nat) (ht : P.underlying t = some (.slice e)) (hi : P.info? e = some i) (hz : i.zero = some z)
    (hsize : i.size = size) (hby : i.bytes = bytes) (hzs : z.cells.size = size) (hsz : 0 < size)
    (v : Value) (n : Nat) (xs : List Value) (hs : a.eval s = v) (hown : w.ownsRow base e size v n xs)
    (ad : Addr) (m c : Nat) (news : List Value) (hx : a.eval x = .slice (some ad) m c) (hl : news.length = m * size) (hnews : ∀ j u, news[j]? = some u → w.cell? (ad.add j) = some u) (h1 : ∀ u ∈ news, u.oneCell' = true)
    (h63 : n + m ≤ maxLen) (hbytes : (n + m) * bytes ≤ 140737488355328) (hbase : base ≤ w.heap.size)
    (h : ∀ v' w', w'.ownsRow base e size v' (n + m) (xs ++ news) → w.grownBy w' v.ownBlock → K (a.put o.dst v') w') :
    if Region.wanted o (yielded ops a.tmps) = true then Oper.wp P o a w K Q else E := by
  have hw : Region.wanted o (yielded ops a.tmps) = true := by simp [Region.wanted, hgd]
  rw [if_pos hw]
  exact wp_append_own w s x t ho base e i z size bytes ht hi hz hsize hby hzs hsz v n xs hs hown ad m c news hx hl hnews h1 h63 hbytes hbase fun v' w' h2 h3 _ => h v' w' h2 h3
theorem own_e1 (W : World) (B H size : Nat) (T : TypeId) (hB : B ≤ W.heap.size) (hH : W.heap.size = H) : (W.alloc (.cells #[] T)).ownsRow B T size (.slice (some ⟨H, 0, none⟩) 0 0) 0 [] := by
  subst hH
  exact ⟨by simp, .inr ⟨W.heap.size, 0, #[], rfl, hB, heap_alloc_new W _, Nat.le_refl _, Nat.zero_le _, by simp, by simp⟩⟩
theorem one_news {w : World} {H : Nat} {x : Value} (h0 : w.cell? ⟨H, 0, none⟩ = some x) : ∀ j u, ([x] : List Value)[j]? = some u → w.cell? ((⟨H, 0, none⟩ : Addr).add j) = some u := by
  intro j u hu
  rcases j with _ | j
  · simp at hu; subst hu; simpa [Addr.add] using h0
  · simp at hu
theorem one_far {W w1 : World} {v : Value} {E : Nat} (H : Nat) (x : Value) (hg : W.grownBy w1 v.ownBlock) (hv : v = .slice (some ⟨E, 0, none⟩) 0 0) (hne : H ≠ E) (h0 : W.cell? ⟨H, 0, none⟩ = some x) : w1.cell? ⟨H, 0, none⟩ = some x := by
  subst hv
  rw [hg.cell_far ⟨H, 0, none⟩ (cell_lt h0) (by simp [Value.ownBlock]; exact hne)]; exact h0
/-- Numbers as cells. -/
def ics (l : List Int) : List Value := l.map (Value.int .i64)
theorem ics_len (l : List Int) : (ics l).length = l.length := by simp [ics]
theorem ics_one (l : List Int) : ∀ u ∈ ics l, u.oneCell' = true := by
  intro u hu
  unfold ics at hu
  obtain ⟨x, _, rfl⟩ := List.mem_map.1 hu
  rfl
theorem OI.glt {w : World} {B g n c : Nat} {l : List Int} (h : OI w B (.slice (some ⟨g, 0, none⟩) n c) l) : g < w.heap.size ∧ B ≤ g ∧ n ≤ c := by
  rcases h.2 with ⟨e, _⟩ | ⟨g', cap, cur, e, hB, hg, hn, _⟩
  · simp at e
  · have hl := h.1
    simp only [Value.slice.injEq, Option.some.injEq, Addr.mk.injEq, and_true] at e
    obtain ⟨rfl, rfl, rfl⟩ := e
    exact ⟨(Array.getElem?_eq_some_iff.1 hg).1, hB, hn⟩
/-- The cells of a part of a row. -/
theorem part_ints {w0 w' : World} {B g n c : Nat} {l : List Int} (h : OI w0 B (.slice (some ⟨g, 0, none⟩) n c) l) (hn : n = l.length) (hb : Below w0.heap.size w0 w') (k m : Nat) : ∀ j u, (ics ((l.drop k).take m))[j]? = some u → w'.cell? ((⟨g, k, none⟩ : Addr).add j) = some u := by
  subst hn
  intro j u hu
  have hg := h.glt.1
  unfold ics at hu
  rw [List.map_take, List.map_drop] at hu
  have hj : j < m := by
    have := (List.getElem?_eq_some_iff.1 hu).1
    simp at this; omega
  rw [List.getElem?_take, if_pos hj, List.getElem?_drop] at hu
  have hj2 : k + j < l.length := by
    have := (List.getElem?_eq_some_iff.1 hu).1
    simpa using this
  have hc := World.ownsRow.cellAt (w := w0) (base := B) (e := 3) (size := 1) (g := g) (n := l.length) (cap := c) (xs := l.map (Value.int .i64)) h (k + j) (by omega)
  have e : (⟨g, k, none⟩ : Addr).add j = ⟨g, k + j, none⟩ := by
    by_cases h0 : j = 0
    · subst h0; simp [Addr.add]
    · simp [Addr.add, h0]
  rw [e, hb.cell (p := ⟨g, k + j, none⟩) hg, hc]; exact hu
theorem num_done {W : World} {B N : Nat} {v : Value} {xs ys : List Int} {X : Int} (h : W.ownsRow B 3 1 v N ([] ++ ics xs ++ [.int .i64 X] ++ ics ys)) : ∃ g' c' l', v = .slice (some ⟨g', 0, none⟩) (List.length l') c' ∧ OI W B (.slice (some ⟨g', 0, none⟩) (List.length l') c') l' ∧ List.length l' = N := by
  have e : ([] ++ ics xs ++ [.int .i64 X] ++ ics ys : List Value) = (xs ++ [X] ++ ys).map (Value.int .i64) := by simp [ics]
  rw [e] at h
  have hN : N = (xs ++ [X] ++ ys).length := by have := h.1; rw [List.length_map] at this; omega
  subst hN
  have hO : OI W B v (xs ++ [X] ++ ys) := h
  obtain ⟨g', c', ev, _⟩ := hO.shape (by simp; omega)
  subst ev
  exact ⟨g', c', _, rfl, hO, rfl⟩
set_option maxRecDepth 100000 in
set_option maxHeartbeats 16000000 in
/-- A number more among some numbers. -/
theorem specNum (B g cap : Nat) (l : List Int) (X : Int) (w : World) (h : OI w B (.slice (some ⟨g, 0, none⟩) l.length cap) l) (hl : l.length ≤ 1000) :
    Calls Tryd.prog 87 #[.slice (some ⟨g, 0, none⟩) l.length cap, .int .i64 X] w fun e w' => ∃ g' c' l', e = .returned (.slice (some ⟨g', 0, none⟩) (List.length l') c') ∧ OI w' w.heap.size (.slice (some ⟨g', 0, none⟩) (List.length l') c') l' ∧ List.length l' = l.length + 1 ∧ Below w.heap.size w w' := by
  obtain ⟨i0, hi, hz0, hz1, hz2⟩ := info_parts intInfo
  have HO : Hid (OI w B (.slice (some ⟨g, 0, none⟩) l.length cap) l) := h
  have hgl := h.glt.1
  have hcap := h.glt.2.2
  clear h
  go_enter Tryd.func87, Tryd.ntmps87
  go_wp2
  go_loop [5] (fun kv => ∃ k : Nat, k ≤ l.length ∧ kv = .int .i64 k) (fun kv => l.length - (intOf kv).toNat)
  case atStart => exact ⟨0, by omega, rfl⟩
  case round =>
    obtain ⟨k, hk, rfl⟩ := hrel
    have hk0 : (0 : Int) ≤ (k : Int) := by omega
    by_cases hks : k < l.length ∧ gi l k < X
    · obtain ⟨hk3, hk4⟩ := hks
      have hk3' : (k : Int) < (l.length : Int) := by omega
      have c0 := (HO.out.at rfl hk3).1
      generalize gi l k = Z at c0 hk4
      go_wp2
      go_round
      case rel => exact ⟨k + 1, by omega, by go_num⟩
      case measure => simp [intOf]; omega
    · have go : ∀ (hck : cap = k ∨ cap ≠ k), True := fun _ => trivial
      have HN1 : Hid (∀ w' : World, Below w.heap.size w w' → ∀ j u, (ics (l.take k))[j]? = some u → w'.cell? ((⟨g, 0, none⟩ : Addr).add j) = some u) := fun w' hb' => by have q := part_ints HO.out rfl hb' 0 k; simpa using q
      have HL1 : Hid ((ics (l.take k)).length = k * 1) := by unfold Hid; rw [ics_len, List.length_take]; omega
      have HL3 : Hid ((ics ((l.drop k).take (l.length - k))).length = (l.length - k) * 1) := by unfold Hid; rw [ics_len, List.length_take, List.length_drop]; omega
      have HW : Hid ((((w.alloc (.cells #[] 3)).drew).ownsRow w.heap.size 3 1 (.slice (some ⟨w.heap.size, 0, none⟩) 0 0) 0 [] ∧ (((w.alloc (.cells #[] 3)).alloc (.cells #[.int .i64 X] 3)).drew).ownsRow w.heap.size 3 1 (.slice (some ⟨w.heap.size, 0, none⟩) 0 0) 0 [] ∧ (((w.alloc (.cells #[.int .i64 X] 3)).alloc (.cells #[] 3)).drew).ownsRow w.heap.size 3 1 (.slice (some ⟨w.heap.size + 1, 0, none⟩) 0 0) 0 []) ∧ ((((w.alloc (.cells #[] 3)).alloc (.cells #[.int .i64 X] 3)).drew).cell? ⟨w.heap.size + 1, 0, none⟩ = some (.int .i64 X) ∧ (((w.alloc (.cells #[.int .i64 X] 3)).alloc (.cells #[] 3)).drew).cell? ⟨w.heap.size, 0, none⟩ = some (.int .i64 X)) ∧ Below w.heap.size w ((w.alloc (.cells #[] 3)).drew) ∧ Below w.heap.size w (((w.alloc (.cells #[] 3)).alloc (.cells #[.int .i64 X] 3)).drew) ∧ Below w.heap.size w (((w.alloc (.cells #[.int .i64 X] 3)).alloc (.cells #[] 3)).drew)) := by
        have OWa : ((w.alloc (.cells #[] 3)).drew).ownsRow w.heap.size 3 1 (.slice (some ⟨w.heap.size, 0, none⟩) 0 0) 0 [] := own_e1 w.drew _ _ 1 _ (Nat.le_refl _) rfl
        refine ⟨⟨OWa, World.ownsRow.alloc OWa _, own_e1 (w.drew.alloc _) _ _ 1 _ (by simp [go_sem]) (by simp [go_sem])⟩, ⟨by simp [go_sem, World.cell?_alloc_at], by simp [go_sem, World.cell?_alloc_at, World.cell?_alloc_past]⟩, ((Below.refl _ _).alloc (Nat.le_refl _) _).drew, (((Below.refl _ _).alloc (Nat.le_refl _) _).alloc (by simp) _).drew, (((Below.refl _ _).alloc (Nat.le_refl _) _).alloc (by simp) _).drew⟩
      have hkc : (k : Int) ≤ (cap : Int) := by omega
      have hki : (k : Int) ≤ (l.length : Int) := by omega
      have hic : (l.length : Int) ≤ (cap : Int) := by omega
      by_cases hck : cap = k
      · have HN3 : Hid (∀ w' : World, Below w.heap.size w w' → ∀ j u, (ics ((l.drop k).take (l.length - k)))[j]? = some u → w'.cell? ((⟨g, 0, none⟩ : Addr).add j) = some u) := fun w' hb' j u hu => by rw [show l.length - k = 0 by omega] at hu; simp [ics] at hu
        by_cases hk3 : k < l.length
        · have hk3' : (k : Int) < (l.length : Int) := by omega
          have hk4 : ¬ gi l k < X := fun hh => hks ⟨hk3, hh⟩
          have c0 := (HO.out.at rfl hk3).1
          generalize gi l k = Z at c0 hk4
          clear hks go
          go_wp2
          go_region_law
          (first
            | ((refine step_append_i _ (by rfl) _ _ _ (by rfl) w.heap.size 3 i0 (.int .i64 0) 1 8 Tryd.underlying24 hi hz0 hz1 hz2 rfl (by omega) _ 0 [] (by rfl) HW.out.1.1 ⟨g, 0, none⟩ k _ (ics (l.take k)) (by rfl) HL1.out (HN1.out _ HW.out.2.2.1) (ics_one _) (le_maxLen (by omega)) (by omega) HW.out.2.2.1.size ?_; intro v1 w1 o1 hgrow; have S1 : Below w.heap.size w w1 := HW.out.2.2.1.grown hgrow HW.out.2.2.1.size (fun q hq => (World.ownsRow.lt HW.out.1.1 q hq).1)))
            | ((refine step_append_i _ (by rfl) _ _ _ (by rfl) w.heap.size 3 i0 (.int .i64 0) 1 8 Tryd.underlying24 hi hz0 hz1 hz2 rfl (by omega) _ 0 [] (by rfl) HW.out.1.2.1 ⟨g, 0, none⟩ k _ (ics (l.take k)) (by rfl) HL1.out (HN1.out _ HW.out.2.2.2.1) (ics_one _) (le_maxLen (by omega)) (by omega) HW.out.2.2.2.1.size ?_; intro v1 w1 o1 hgrow; have S1 : Below w.heap.size w w1 := HW.out.2.2.2.1.grown hgrow HW.out.2.2.2.1.size (fun q hq => (World.ownsRow.lt HW.out.1.2.1 q hq).1); have hx1 := one_far (w.heap.size + 1) (.int .i64 X) hgrow rfl (by omega) HW.out.2.1.1))
            | ((refine step_append_i _ (by rfl) _ _ _ (by rfl) w.heap.size 3 i0 (.int .i64 0) 1 8 Tryd.underlying24 hi hz0 hz1 hz2 rfl (by omega) _ 0 [] (by rfl) HW.out.1.2.2 ⟨g, 0, none⟩ k _ (ics (l.take k)) (by rfl) HL1.out (HN1.out _ HW.out.2.2.2.2) (ics_one _) (le_maxLen (by omega)) (by omega) HW.out.2.2.2.2.size ?_; intro v1 w1 o1 hgrow; have S1 : Below w.heap.size w w1 := HW.out.2.2.2.2.grown hgrow HW.out.2.2.2.2.size (fun q hq => (World.ownsRow.lt HW.out.1.2.2 q hq).1); have hx1 := one_far w.heap.size (.int .i64 X) hgrow rfl (by omega) HW.out.2.1.2))
            | ((refine step_append_i _ (by rfl) _ _ _ (by rfl) w.heap.size 3 i0 (.int .i64 0) 1 8 Tryd.underlying24 hi hz0 hz1 hz2 rfl (by omega) _ (0 + k) ([] ++ ics (l.take k)) (by rfl) o1 ⟨_, 0, none⟩ 1 1 [.int .i64 X] (by rfl) (by rfl) (one_news hx1) (by simp [Value.oneCell']) (le_maxLen (by omega)) (by omega) (S1).size ?_; intro v2 w2 o2 hgrow2; have S2 : Below w.heap.size w w2 := S1.grown hgrow2 S1.size (fun q hq => (World.ownsRow.lt o1 q hq).1)))
            | (have q2 := (World.ownsRow.alloc o1 (Obj.cells #[Value.int IntKind.i64 X] 3)); have q3 : ∀ j u, ([.int .i64 X] : List Value)[j]? = some u → (w1.alloc (Obj.cells #[Value.int IntKind.i64 X] 3)).cell? ((⟨w1.heap.size, 0, none⟩ : Addr).add j) = some u := (World.news_of_block (heap_alloc_new w1 _)); have q7 := (S1.alloc S1.size (Obj.cells #[Value.int IntKind.i64 X] 3)); have q4 := q7.size; refine step_append_i (w1.alloc (Obj.cells #[Value.int IntKind.i64 X] 3)) (by rfl) _ _ _ (by rfl) w.heap.size 3 i0 (.int .i64 0) 1 8 Tryd.underlying24 hi hz0 hz1 hz2 rfl (by omega) _ (0 + k) ([] ++ ics (l.take k)) (by rfl) q2 ⟨w1.heap.size, 0, none⟩ 1 1 [.int .i64 X] (by rfl) (by rfl) q3 (by simp [Value.oneCell']) (le_maxLen (by omega)) (by omega) q4 ?_; intro v2 w2 o2 hgrow2; have S2 : Below w.heap.size w w2 := q7.grown hgrow2 q4 (fun q hq => (World.ownsRow.lt q2 q hq).1); clear q2 q3 q4 q7)
            | ((refine step_append_i _ (by rfl) _ _ _ (by rfl) w.heap.size 3 i0 (.int .i64 0) 1 8 Tryd.underlying24 hi hz0 hz1 hz2 rfl (by omega) _ (0 + k + 1) ([] ++ ics (l.take k) ++ [.int .i64 X]) (by rfl) o2 ⟨g, 0, none⟩ (l.length - k) _ (ics ((l.drop k).take (l.length - k))) (by rfl) HL3.out (HN3.out _ S2) (ics_one _) (le_maxLen (by omega)) (by omega) S2.size ?_; intro v3 w3 o3 hgrow3; have S3 : Below w.heap.size w w3 := S2.grown hgrow3 S2.size (fun q hq => (World.ownsRow.lt o2 q hq).1))))
          all_goals
            obtain ⟨g', c', l', e3, O3, L3⟩ := num_done o3
            subst e3
            clear o1 o2 o3 S1 S2 hgrow3 hgrow2 hgrow
            go_wp2
            go_ret
            exact ⟨g', c', l', rfl, O3, L3.trans (by omega), S3⟩
        · have hk3' : ¬ (k : Int) < (l.length : Int) := by omega
          clear hks go
          go_wp2
          go_region_law
          (first
            | ((refine step_append_i _ (by rfl) _ _ _ (by rfl) w.heap.size 3 i0 (.int .i64 0) 1 8 Tryd.underlying24 hi hz0 hz1 hz2 rfl (by omega) _ 0 [] (by rfl) HW.out.1.1 ⟨g, 0, none⟩ k _ (ics (l.take k)) (by rfl) HL1.out (HN1.out _ HW.out.2.2.1) (ics_one _) (le_maxLen (by omega)) (by omega) HW.out.2.2.1.size ?_; intro v1 w1 o1 hgrow; have S1 : Below w.heap.size w w1 := HW.out.2.2.1.grown hgrow HW.out.2.2.1.size (fun q hq => (World.ownsRow.lt HW.out.1.1 q hq).1)))
            | ((refine step_append_i _ (by rfl) _ _ _ (by rfl) w.heap.size 3 i0 (.int .i64 0) 1 8 Tryd.underlying24 hi hz0 hz1 hz2 rfl (by omega) _ 0 [] (by rfl) HW.out.1.2.1 ⟨g, 0, none⟩ k _ (ics (l.take k)) (by rfl) HL1.out (HN1.out _ HW.out.2.2.2.1) (ics_one _) (le_maxLen (by omega)) (by omega) HW.out.2.2.2.1.size ?_; intro v1 w1 o1 hgrow; have S1 : Below w.heap.size w w1 := HW.out.2.2.2.1.grown hgrow HW.out.2.2.2.1.size (fun q hq => (World.ownsRow.lt HW.out.1.2.1 q hq).1); have hx1 := one_far (w.heap.size + 1) (.int .i64 X) hgrow rfl (by omega) HW.out.2.1.1))
            | ((refine step_append_i _ (by rfl) _ _ _ (by rfl) w.heap.size 3 i0 (.int .i64 0) 1 8 Tryd.underlying24 hi hz0 hz1 hz2 rfl (by omega) _ 0 [] (by rfl) HW.out.1.2.2 ⟨g, 0, none⟩ k _ (ics (l.take k)) (by rfl) HL1.out (HN1.out _ HW.out.2.2.2.2) (ics_one _) (le_maxLen (by omega)) (by omega) HW.out.2.2.2.2.size ?_; intro v1 w1 o1 hgrow; have S1 : Below w.heap.size w w1 := HW.out.2.2.2.2.grown hgrow HW.out.2.2.2.2.size (fun q hq => (World.ownsRow.lt HW.out.1.2.2 q hq).1); have hx1 := one_far w.heap.size (.int .i64 X) hgrow rfl (by omega) HW.out.2.1.2))
            | ((refine step_append_i _ (by rfl) _ _ _ (by rfl) w.heap.size 3 i0 (.int .i64 0) 1 8 Tryd.underlying24 hi hz0 hz1 hz2 rfl (by omega) _ (0 + k) ([] ++ ics (l.take k)) (by rfl) o1 ⟨_, 0, none⟩ 1 1 [.int .i64 X] (by rfl) (by rfl) (one_news hx1) (by simp [Value.oneCell']) (le_maxLen (by omega)) (by omega) (S1).size ?_; intro v2 w2 o2 hgrow2; have S2 : Below w.heap.size w w2 := S1.grown hgrow2 S1.size (fun q hq => (World.ownsRow.lt o1 q hq).1)))
            | (have q2 := (World.ownsRow.alloc o1 (Obj.cells #[Value.int IntKind.i64 X] 3)); have q3 : ∀ j u, ([.int .i64 X] : List Value)[j]? = some u → (w1.alloc (Obj.cells #[Value.int IntKind.i64 X] 3)).cell? ((⟨w1.heap.size, 0, none⟩ : Addr).add j) = some u := (World.news_of_block (heap_alloc_new w1 _)); have q7 := (S1.alloc S1.size (Obj.cells #[Value.int IntKind.i64 X] 3)); have q4 := q7.size; refine step_append_i (w1.alloc (Obj.cells #[Value.int IntKind.i64 X] 3)) (by rfl) _ _ _ (by rfl) w.heap.size 3 i0 (.int .i64 0) 1 8 Tryd.underlying24 hi hz0 hz1 hz2 rfl (by omega) _ (0 + k) ([] ++ ics (l.take k)) (by rfl) q2 ⟨w1.heap.size, 0, none⟩ 1 1 [.int .i64 X] (by rfl) (by rfl) q3 (by simp [Value.oneCell']) (le_maxLen (by omega)) (by omega) q4 ?_; intro v2 w2 o2 hgrow2; have S2 : Below w.heap.size w w2 := q7.grown hgrow2 q4 (fun q hq => (World.ownsRow.lt q2 q hq).1); clear q2 q3 q4 q7)
            | ((refine step_append_i _ (by rfl) _ _ _ (by rfl) w.heap.size 3 i0 (.int .i64 0) 1 8 Tryd.underlying24 hi hz0 hz1 hz2 rfl (by omega) _ (0 + k + 1) ([] ++ ics (l.take k) ++ [.int .i64 X]) (by rfl) o2 ⟨g, 0, none⟩ (l.length - k) _ (ics ((l.drop k).take (l.length - k))) (by rfl) HL3.out (HN3.out _ S2) (ics_one _) (le_maxLen (by omega)) (by omega) S2.size ?_; intro v3 w3 o3 hgrow3; have S3 : Below w.heap.size w w3 := S2.grown hgrow3 S2.size (fun q hq => (World.ownsRow.lt o2 q hq).1))))
          all_goals
            obtain ⟨g', c', l', e3, O3, L3⟩ := num_done o3
            subst e3
            clear o1 o2 o3 S1 S2 hgrow3 hgrow2 hgrow
            go_wp2
            go_ret
            exact ⟨g', c', l', rfl, O3, L3.trans (by omega), S3⟩
      · have HN3 : Hid (∀ w' : World, Below w.heap.size w w' → ∀ j u, (ics ((l.drop k).take (l.length - k)))[j]? = some u → w'.cell? ((⟨g, k, none⟩ : Addr).add j) = some u) := fun w' hb' => part_ints HO.out rfl hb' k (l.length - k)
        by_cases hk3 : k < l.length
        · have hk3' : (k : Int) < (l.length : Int) := by omega
          have hk4 : ¬ gi l k < X := fun hh => hks ⟨hk3, hh⟩
          have c0 := (HO.out.at rfl hk3).1
          generalize gi l k = Z at c0 hk4
          clear hks go
          go_wp2
          go_region_law
          (first
            | ((refine step_append_i _ (by rfl) _ _ _ (by rfl) w.heap.size 3 i0 (.int .i64 0) 1 8 Tryd.underlying24 hi hz0 hz1 hz2 rfl (by omega) _ 0 [] (by rfl) HW.out.1.1 ⟨g, 0, none⟩ k _ (ics (l.take k)) (by rfl) HL1.out (HN1.out _ HW.out.2.2.1) (ics_one _) (le_maxLen (by omega)) (by omega) HW.out.2.2.1.size ?_; intro v1 w1 o1 hgrow; have S1 : Below w.heap.size w w1 := HW.out.2.2.1.grown hgrow HW.out.2.2.1.size (fun q hq => (World.ownsRow.lt HW.out.1.1 q hq).1)))
            | ((refine step_append_i _ (by rfl) _ _ _ (by rfl) w.heap.size 3 i0 (.int .i64 0) 1 8 Tryd.underlying24 hi hz0 hz1 hz2 rfl (by omega) _ 0 [] (by rfl) HW.out.1.2.1 ⟨g, 0, none⟩ k _ (ics (l.take k)) (by rfl) HL1.out (HN1.out _ HW.out.2.2.2.1) (ics_one _) (le_maxLen (by omega)) (by omega) HW.out.2.2.2.1.size ?_; intro v1 w1 o1 hgrow; have S1 : Below w.heap.size w w1 := HW.out.2.2.2.1.grown hgrow HW.out.2.2.2.1.size (fun q hq => (World.ownsRow.lt HW.out.1.2.1 q hq).1); have hx1 := one_far (w.heap.size + 1) (.int .i64 X) hgrow rfl (by omega) HW.out.2.1.1))
            | ((refine step_append_i _ (by rfl) _ _ _ (by rfl) w.heap.size 3 i0 (.int .i64 0) 1 8 Tryd.underlying24 hi hz0 hz1 hz2 rfl (by omega) _ 0 [] (by rfl) HW.out.1.2.2 ⟨g, 0, none⟩ k _ (ics (l.take k)) (by rfl) HL1.out (HN1.out _ HW.out.2.2.2.2) (ics_one _) (le_maxLen (by omega)) (by omega) HW.out.2.2.2.2.size ?_; intro v1 w1 o1 hgrow; have S1 : Below w.heap.size w w1 := HW.out.2.2.2.2.grown hgrow HW.out.2.2.2.2.size (fun q hq => (World.ownsRow.lt HW.out.1.2.2 q hq).1); have hx1 := one_far w.heap.size (.int .i64 X) hgrow rfl (by omega) HW.out.2.1.2))
            | ((refine step_append_i _ (by rfl) _ _ _ (by rfl) w.heap.size 3 i0 (.int .i64 0) 1 8 Tryd.underlying24 hi hz0 hz1 hz2 rfl (by omega) _ (0 + k) ([] ++ ics (l.take k)) (by rfl) o1 ⟨_, 0, none⟩ 1 1 [.int .i64 X] (by rfl) (by rfl) (one_news hx1) (by simp [Value.oneCell']) (le_maxLen (by omega)) (by omega) (S1).size ?_; intro v2 w2 o2 hgrow2; have S2 : Below w.heap.size w w2 := S1.grown hgrow2 S1.size (fun q hq => (World.ownsRow.lt o1 q hq).1)))
            | (have q2 := (World.ownsRow.alloc o1 (Obj.cells #[Value.int IntKind.i64 X] 3)); have q3 : ∀ j u, ([.int .i64 X] : List Value)[j]? = some u → (w1.alloc (Obj.cells #[Value.int IntKind.i64 X] 3)).cell? ((⟨w1.heap.size, 0, none⟩ : Addr).add j) = some u := (World.news_of_block (heap_alloc_new w1 _)); have q7 := (S1.alloc S1.size (Obj.cells #[Value.int IntKind.i64 X] 3)); have q4 := q7.size; refine step_append_i (w1.alloc (Obj.cells #[Value.int IntKind.i64 X] 3)) (by rfl) _ _ _ (by rfl) w.heap.size 3 i0 (.int .i64 0) 1 8 Tryd.underlying24 hi hz0 hz1 hz2 rfl (by omega) _ (0 + k) ([] ++ ics (l.take k)) (by rfl) q2 ⟨w1.heap.size, 0, none⟩ 1 1 [.int .i64 X] (by rfl) (by rfl) q3 (by simp [Value.oneCell']) (le_maxLen (by omega)) (by omega) q4 ?_; intro v2 w2 o2 hgrow2; have S2 : Below w.heap.size w w2 := q7.grown hgrow2 q4 (fun q hq => (World.ownsRow.lt q2 q hq).1); clear q2 q3 q4 q7)
            | ((refine step_append_i _ (by rfl) _ _ _ (by rfl) w.heap.size 3 i0 (.int .i64 0) 1 8 Tryd.underlying24 hi hz0 hz1 hz2 rfl (by omega) _ (0 + k + 1) ([] ++ ics (l.take k) ++ [.int .i64 X]) (by rfl) o2 ⟨g, k, none⟩ (l.length - k) _ (ics ((l.drop k).take (l.length - k))) (by rfl) HL3.out (HN3.out _ S2) (ics_one _) (le_maxLen (by omega)) (by omega) S2.size ?_; intro v3 w3 o3 hgrow3; have S3 : Below w.heap.size w w3 := S2.grown hgrow3 S2.size (fun q hq => (World.ownsRow.lt o2 q hq).1))))
          all_goals
            obtain ⟨g', c', l', e3, O3, L3⟩ := num_done o3
            subst e3
            clear o1 o2 o3 S1 S2 hgrow3 hgrow2 hgrow
            go_wp2
            go_ret
            exact ⟨g', c', l', rfl, O3, L3.trans (by omega), S3⟩
  
        · have hk3' : ¬ (k : Int) < (l.length : Int) := by omega
          clear hks go
          go_wp2
          go_region_law
          (first
            | ((refine step_append_i _ (by rfl) _ _ _ (by rfl) w.heap.size 3 i0 (.int .i64 0) 1 8 Tryd.underlying24 hi hz0 hz1 hz2 rfl (by omega) _ 0 [] (by rfl) HW.out.1.1 ⟨g, 0, none⟩ k _ (ics (l.take k)) (by rfl) HL1.out (HN1.out _ HW.out.2.2.1) (ics_one _) (le_maxLen (by omega)) (by omega) HW.out.2.2.1.size ?_; intro v1 w1 o1 hgrow; have S1 : Below w.heap.size w w1 := HW.out.2.2.1.grown hgrow HW.out.2.2.1.size (fun q hq => (World.ownsRow.lt HW.out.1.1 q hq).1)))
            | ((refine step_append_i _ (by rfl) _ _ _ (by rfl) w.heap.size 3 i0 (.int .i64 0) 1 8 Tryd.underlying24 hi hz0 hz1 hz2 rfl (by omega) _ 0 [] (by rfl) HW.out.1.2.1 ⟨g, 0, none⟩ k _ (ics (l.take k)) (by rfl) HL1.out (HN1.out _ HW.out.2.2.2.1) (ics_one _) (le_maxLen (by omega)) (by omega) HW.out.2.2.2.1.size ?_; intro v1 w1 o1 hgrow; have S1 : Below w.heap.size w w1 := HW.out.2.2.2.1.grown hgrow HW.out.2.2.2.1.size (fun q hq => (World.ownsRow.lt HW.out.1.2.1 q hq).1); have hx1 := one_far (w.heap.size + 1) (.int .i64 X) hgrow rfl (by omega) HW.out.2.1.1))
            | ((refine step_append_i _ (by rfl) _ _ _ (by rfl) w.heap.size 3 i0 (.int .i64 0) 1 8 Tryd.underlying24 hi hz0 hz1 hz2 rfl (by omega) _ 0 [] (by rfl) HW.out.1.2.2 ⟨g, 0, none⟩ k _ (ics (l.take k)) (by rfl) HL1.out (HN1.out _ HW.out.2.2.2.2) (ics_one _) (le_maxLen (by omega)) (by omega) HW.out.2.2.2.2.size ?_; intro v1 w1 o1 hgrow; have S1 : Below w.heap.size w w1 := HW.out.2.2.2.2.grown hgrow HW.out.2.2.2.2.size (fun q hq => (World.ownsRow.lt HW.out.1.2.2 q hq).1); have hx1 := one_far w.heap.size (.int .i64 X) hgrow rfl (by omega) HW.out.2.1.2))
            | ((refine step_append_i _ (by rfl) _ _ _ (by rfl) w.heap.size 3 i0 (.int .i64 0) 1 8 Tryd.underlying24 hi hz0 hz1 hz2 rfl (by omega) _ (0 + k) ([] ++ ics (l.take k)) (by rfl) o1 ⟨_, 0, none⟩ 1 1 [.int .i64 X] (by rfl) (by rfl) (one_news hx1) (by simp [Value.oneCell']) (le_maxLen (by omega)) (by omega) (S1).size ?_; intro v2 w2 o2 hgrow2; have S2 : Below w.heap.size w w2 := S1.grown hgrow2 S1.size (fun q hq => (World.ownsRow.lt o1 q hq).1)))
            | (have q2 := (World.ownsRow.alloc o1 (Obj.cells #[Value.int IntKind.i64 X] 3)); have q3 : ∀ j u, ([.int .i64 X] : List Value)[j]? = some u → (w1.alloc (Obj.cells #[Value.int IntKind.i64 X] 3)).cell? ((⟨w1.heap.size, 0, none⟩ : Addr).add j) = some u := (World.news_of_block (heap_alloc_new w1 _)); have q7 := (S1.alloc S1.size (Obj.cells #[Value.int IntKind.i64 X] 3)); have q4 := q7.size; refine step_append_i (w1.alloc (Obj.cells #[Value.int IntKind.i64 X] 3)) (by rfl) _ _ _ (by rfl) w.heap.size 3 i0 (.int .i64 0) 1 8 Tryd.underlying24 hi hz0 hz1 hz2 rfl (by omega) _ (0 + k) ([] ++ ics (l.take k)) (by rfl) q2 ⟨w1.heap.size, 0, none⟩ 1 1 [.int .i64 X] (by rfl) (by rfl) q3 (by simp [Value.oneCell']) (le_maxLen (by omega)) (by omega) q4 ?_; intro v2 w2 o2 hgrow2; have S2 : Below w.heap.size w w2 := q7.grown hgrow2 q4 (fun q hq => (World.ownsRow.lt q2 q hq).1); clear q2 q3 q4 q7)
            | ((refine step_append_i _ (by rfl) _ _ _ (by rfl) w.heap.size 3 i0 (.int .i64 0) 1 8 Tryd.underlying24 hi hz0 hz1 hz2 rfl (by omega) _ (0 + k + 1) ([] ++ ics (l.take k) ++ [.int .i64 X]) (by rfl) o2 ⟨g, k, none⟩ (l.length - k) _ (ics ((l.drop k).take (l.length - k))) (by rfl) HL3.out (HN3.out _ S2) (ics_one _) (le_maxLen (by omega)) (by omega) S2.size ?_; intro v3 w3 o3 hgrow3; have S3 : Below w.heap.size w w3 := S2.grown hgrow3 S2.size (fun q hq => (World.ownsRow.lt o2 q hq).1))))
          all_goals
            obtain ⟨g', c', l', e3, O3, L3⟩ := num_done o3
            subst e3
            clear o1 o2 o3 S1 S2 hgrow3 hgrow2 hgrow
            go_wp2
            go_ret
            exact ⟨g', c', l', rfl, O3, L3.trans (by omega), S3⟩
  end Go.Proofs.YtlfglhpepoepcaaDoor
