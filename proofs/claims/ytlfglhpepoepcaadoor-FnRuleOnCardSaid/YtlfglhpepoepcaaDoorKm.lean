/- Lists of what chooses days, as the program makes them. -/
import Derived.Test.YtlfglhpepoepcaaDoorKl
import Derived.Maps.AppendAt
namespace Go.Proofs.YtlfglhpepoepcaaDoor
open Go.RowKit Go.Shelf
set_option linter.unusedVariables false

theorem Ch.mono {K K' : Nat → Prop} {w : World} {v : Value} {p : Int → Bool} (h : Ch K w v p) (hk : ∀ b, K b → K' b) : Ch K' w v p := by
  obtain ⟨g, lb, hg, hv, hc⟩ := h
  exact ⟨g, lb, hg, hv, fun W h1 h2 => hc W h1 (fun k hk' => h2 k (hk k hk'))⟩
/-- A list of what chooses under way: KB are the blocks that what is in it leans on; those that were laid since are no blocks of such a list. -/
structure LS (w W : World) (bp KB : Nat → Prop) (v : Value) (vs : List Value) (ps : List (Int → Bool)) : Prop where
  own : W.ownsRow w.heap.size 83 1 v vs.length vs
  len : ps.length = vs.length
  ch : ∀ i, i < vs.length → Ch KB W (vs.getD i undef) (ps.getD i fun _ => true)
  kb : ∀ b, KB b → b < W.heap.size ∧ (b < w.heap.size ∧ bp b ∨ w.heap.size ≤ b ∧ ∃ cur t q, W.heap[b]? = some (.cells cur t q) ∧ t ≠ 83)
  bel : Below w.heap.size w W
theorem LS.nb {w W : World} {bp KB : Nat → Prop} {v : Value} {vs : List Value} {ps : List (Int → Bool)} (h : LS w W bp KB v vs ps) {b : Nat} (hb : KB b) : some b ≠ v.ownBlock := by
  intro e
  rcases h.own.2 with ⟨rfl, _⟩ | ⟨g, cap, cur, rfl, hg, hc, _⟩
  · simp [Value.ownBlock] at e
  · simp [Value.ownBlock] at e
    subst e
    obtain ⟨_, h1 | ⟨_, cur', t, q, h2, h3⟩⟩ := h.kb b hb
    · omega
    · rw [hc] at h2; cases h2; exact h3 rfl
theorem LS.on {w W W' : World} {bp KB : Nat → Prop} {v : Value} {vs : List Value} {ps : List (Int → Bool)} (h : LS w W bp KB v vs ps) (hb : Below W.heap.size W W') : LS w W' bp KB v vs ps := by
  refine ⟨?_, h.len, fun i hi => (h.ch i hi).on hb.size (fun k hk => hb.block k (h.kb k hk).1), fun b hk => ?_, bstep h.bel hb⟩
  · refine ⟨h.own.1, ?_⟩
    rcases h.own.2 with h1 | ⟨g, cap, cur, h1, h2, h3, h4⟩
    · exact .inl h1
    · exact .inr ⟨g, cap, cur, h1, h2, (hb.block g (Array.getElem?_eq_some_iff.1 h3).1).trans h3, h4⟩
  · obtain ⟨h1, h2 | ⟨h2, cur, t, q, h3, h4⟩⟩ := h.kb b hk
    · exact ⟨by have := hb.size; omega, .inl h2⟩
    · exact ⟨by have := hb.size; omega, .inr ⟨h2, cur, t, q, (hb.block b h1).trans h3, h4⟩⟩
/-- Some more behind it. -/
theorem LS.app {w W W' : World} {bp KB KB' : Nat → Prop} {v v' : Value} {vs fs : List Value} {ps qs : List (Int → Bool)} (h : LS w W bp KB v vs ps) (hsub : ∀ b, KB b → KB' b)
    (hkb : ∀ b, KB' b → KB b ∨ b < W.heap.size ∧ (b < w.heap.size ∧ bp b ∨ w.heap.size ≤ b ∧ ∃ cur t q, W.heap[b]? = some (.cells cur t q) ∧ t ≠ 83))
    (hql : qs.length = fs.length) (hch : ∀ i, i < fs.length → Ch KB' W (fs.getD i undef) (qs.getD i fun _ => true))
    (hown : W'.ownsRow w.heap.size 83 1 v' (vs.length + fs.length) (vs ++ fs)) (hg : W.grownBy W' v.ownBlock) : LS w W' bp KB' v' (vs ++ fs) (ps ++ qs) := by
  have hne : ∀ b, KB' b → b < W.heap.size ∧ some b ≠ v.ownBlock ∧ (b < w.heap.size ∧ bp b ∨ w.heap.size ≤ b ∧ ∃ cur t q, W.heap[b]? = some (.cells cur t q) ∧ t ≠ 83) := fun b hb => by
    rcases hkb b hb with h1 | h1
    · exact ⟨(h.kb b h1).1, h.nb h1, (h.kb b h1).2⟩
    · refine ⟨h1.1, ?_, h1.2⟩
      intro e
      rcases h.own.2 with ⟨rfl, _⟩ | ⟨g, cap, cur, rfl, hg2, hc, _⟩
      · simp [Value.ownBlock] at e
      · simp [Value.ownBlock] at e
        subst e
        rcases h1.2 with h3 | ⟨_, cur', t, q, h2, h3⟩
        · omega
        · rw [hc] at h2; cases h2; exact h3 rfl
  have hsame : ∀ b, KB' b → W'.heap[b]? = W.heap[b]? := fun b hb => hg.block b (hne b hb).1 (hne b hb).2.1
  refine ⟨by rw [List.length_append]; exact hown, by rw [List.length_append, List.length_append, h.len, hql], fun i hi => ?_, fun b hb => ?_, h.bel.grown hg h.bel.size (fun k hk => ?_)⟩
  · rw [List.length_append] at hi
    rcases Nat.lt_or_ge i vs.length with h1 | h1
    · have := ((h.ch i h1).mono hsub).on hg.size hsame
      rw [List.getD_eq_getElem?_getD, List.getElem?_append_left h1, ← List.getD_eq_getElem?_getD, List.getD_eq_getElem?_getD (l := ps ++ qs), List.getElem?_append_left (by rw [h.len]; exact h1), ← List.getD_eq_getElem?_getD]
      exact this
    · have := (hch (i - vs.length) (by omega)).on hg.size hsame
      rw [List.getD_eq_getElem?_getD, List.getElem?_append_right h1, ← List.getD_eq_getElem?_getD, List.getD_eq_getElem?_getD (l := ps ++ qs), List.getElem?_append_right (by rw [h.len]; exact h1), ← List.getD_eq_getElem?_getD, h.len]
      exact this
  · obtain ⟨h1, h2, h3⟩ := hne b hb
    refine ⟨by have := hg.size; omega, ?_⟩
    rcases h3 with h3 | ⟨h3, cur, t, q, h4, h5⟩
    · exact .inl h3
    · exact .inr ⟨h3, cur, t, q, (hsame b hb).trans h4, h5⟩
  · exact (World.ownsRow.lt h.own k hk).1
/-- In the end. -/
theorem LS.all {w W : World} {r : Rl} {m : Rm} {s : Int} {KB : Nat → Prop} {v : Value} {vs : List Value} {ps : List (Int → Bool)} (h : LS w W (fun b => m.blk r b ∨ b = 0) KB v vs ps) (ha : ∀ n : Int, 0 ≤ n → n ≤ 3652058 → ps.all (fun p => p n) = fitB r s n) (h8 : vs.length ≤ 8) :
    ∃ a k cap, v = .slice a k cap ∧ k ≤ 8 ∧ ChR (fun b => m.blk r b ∧ b < w.heap.size ∨ b = 0 ∨ w.heap.size ≤ b ∧ b < W.heap.size) W a k r s := by
  have hK : ∀ b, KB b → (m.blk r b ∧ b < w.heap.size ∨ b = 0 ∨ w.heap.size ≤ b ∧ b < W.heap.size) := fun b hb => by
    obtain ⟨h1, h2 | h2⟩ := h.kb b hb
    · rcases h2.2 with h3 | h3
      · exact .inl ⟨h3, h2.1⟩
      · exact .inr (.inl h3)
    · exact .inr (.inr ⟨h2.1, h1⟩)
  rcases h.own.2 with ⟨rfl, h1⟩ | ⟨g, cap, cur, rfl, hg, hc, h1, h2, h3, h4⟩
  · have hv : vs = [] := List.length_eq_zero_iff.1 h1
    subst hv
    exact ⟨none, 0, 0, rfl, by omega, [], ps, rfl, ⟨h.len, .inl rfl, fun i hi => by simp at hi⟩, ha⟩
  · have hlt := (Array.getElem?_eq_some_iff.1 hc).1
    refine ⟨some ⟨g, 0, none⟩, vs.length, cap, rfl, h8, vs, ps, rfl, ⟨h.len, .inr ⟨g, 0, rfl, hlt, .inr (.inr ⟨hg, hlt⟩), fun i hi => ?_⟩, fun i hi => (h.ch i hi).mono hK⟩, ha⟩
    have := World.ownsRow.cells h.own (g := g) rfl i (vs.getD i undef) (by rw [List.getD_eq_getElem?_getD, List.getElem?_eq_getElem hi]; rfl)
    have e : (⟨g, 0, none⟩ : Addr).add i = ⟨g, 0 + i, none⟩ := by unfold Addr.add; split <;> simp_all
    rw [e] at this
    exact this
/-- Each kind of what chooses. -/
theorem mkMonths {K : Nat → Prop} {W : World} {r : Rl} {m : Rm} {Br : Nat} (hb : CB W Br r m) (hm : RMem W r m) (hl : r.mo.length ≤ 8) (k1 : K Br) (k2 : ∀ b, m.blk r b → K b) :
    Ch K W (.func (.func 69) #[] #[.pointer (some ⟨Br, 0, none⟩)]) (fun n => hasI r.mo (mOf n)) :=
  ⟨_, _, .inl rfl, rfl, fun W' h1 h2 n h3 h4 => clMonths r m Br n W' (hb.on (h2 _ k1)) (hm.same h1 (fun b hb' => h2 b (k2 b hb'))).o hl⟩
theorem mkDates {K : Nat → Prop} {W : World} {r : Rl} {m : Rm} {Br : Nat} (hb : CB W Br r m) (hm : RMem W r m) (ht : Tab W) (hl : r.da.length ≤ 8) (k1 : K Br) (k2 : ∀ b, m.blk r b → K b) (k3 : K 0) :
    Ch K W (.func (.func 71) #[] #[.pointer (some ⟨Br, 0, none⟩)]) (dtB r) :=
  ⟨_, _, .inr (.inl rfl), rfl, fun W' h1 h2 n h3 h4 => clDates r m Br n W' (ht.same (h2 _ k3)) (hb.on (h2 _ k1)) (hm.same h1 (fun b hb' => h2 b (k2 b hb'))).d hl h3 h4⟩
theorem mkBy {K : Nat → Prop} {W : World} {r : Rl} {m : Rm} {Bm Br : Nat} (hb : CB W Br r m) (hi : W.cell? ⟨Bm, 0, none⟩ = some (.bool (inMo r))) (hm : RMem W r m) (ht : Tab W) (hl : r.ds.length ≤ 8) (k0 : K Bm) (k1 : K Br) (k2 : ∀ b, m.blk r b → K b) (k3 : K 0) :
    Ch K W (.func (.func 89) #[] #[.pointer (some ⟨Bm, 0, none⟩), .pointer (some ⟨Br, 0, none⟩)]) (dfB r) :=
  ⟨_, _, .inr (.inr (.inl rfl)), rfl, fun W' h1 h2 n h3 h4 => clByAll r m Bm Br n W' (ht.same (h2 _ k3)) (hb.on (h2 _ k1)) (by rw [World.cell?_of_block (w := W) (a := ⟨Bm, 0, none⟩) (h2 _ k0)]; exact hi) (hm.same h1 (fun b hb' => h2 b (k2 b hb'))).t hl h3 h4⟩
theorem mkWd {K : Nat → Prop} {W : World} {s : Int} {Bs : Nat} (hb : W.cell? ⟨Bs, 0, none⟩ = some (.int .i64 s)) (s0 : 0 ≤ s) (s1 : s ≤ 3652058) (k1 : K Bs) :
    Ch K W (.func (.func 93) #[] #[.pointer (some ⟨Bs, 0, none⟩)]) (fun n => decide (n % 7 = s % 7)) :=
  ⟨_, _, .inr (.inr (.inr (.inl rfl))), rfl, fun W' h1 h2 n h3 h4 => clSameWd s Bs n W' (by rw [World.cell?_of_block (w := W) (a := ⟨Bs, 0, none⟩) (h2 _ k1)]; exact hb) h3 h4 s0 s1⟩
theorem mkDate {K : Nat → Prop} {W : World} {d : Int} {Bd : Nat} (hb : W.cell? ⟨Bd, 2, none⟩ = some (.int .i64 d)) (k1 : K Bd) :
    Ch K W (.func (.func 94) #[] #[.pointer (some ⟨Bd, 0, none⟩)]) (fun n => decide (dOf n = d)) :=
  ⟨_, _, .inr (.inr (.inr (.inr (.inl rfl)))), rfl, fun W' h1 h2 n h3 h4 => clSameDate 0 0 d Bd n W' (by rw [World.cell?_of_block (w := W) (a := ⟨Bd, 2, none⟩) (h2 _ k1)]; exact hb)⟩
theorem mkMonth {K : Nat → Prop} {W : World} {d : Int} {Bd : Nat} (hb : W.cell? ⟨Bd, 1, none⟩ = some (.int .i64 d)) (k1 : K Bd) :
    Ch K W (.func (.func 95) #[] #[.pointer (some ⟨Bd, 0, none⟩)]) (fun n => decide (mOf n = d)) :=
  ⟨_, _, .inr (.inr (.inr (.inr (.inr rfl)))), rfl, fun W' h1 h2 n h3 h4 => clSameMonth 0 d 0 Bd n W' (by rw [World.cell?_of_block (w := W) (a := ⟨Bd, 1, none⟩) (h2 _ k1)]; exact hb)⟩
end Go.Proofs.YtlfglhpepoepcaaDoor
