/- All days on which something comes, one by one: what stands while they are told. -/
import Derived.Test.YtlfglhpepoepcaaDoorKf
namespace Go.Proofs.YtlfglhpepoepcaaDoor
open Go.RowKit Go.Shelf
set_option linter.unusedVariables false

theorem choice_clip {r : Rl} {s a b : Int} (h : a ≤ b) (h0 : 0 ≤ b) (h1 : a ≤ 3652058) : choice r s a b = choice r s (max a 0) (min b 3652058) := by
  unfold choice; rw [fitL_clip h h0 h1]
/-- Of days those that are told. -/
def YF (s to fr : Int) (X : List Int) : List Int := (XF s to X).filter fun d => decide (fr ≤ d)
def comingT (r : Rl) (s fr to : Int) : List Int := (tk r.ct (comes r s to)).filter fun d => decide (fr ≤ d)
theorem chJ_len {r : Rl} (hr : ROk r) {s : Int} (h0 : 0 ≤ s) (h1 : s ≤ 3652058) (k : Nat) : (chJ r s k).length ≤ 366 := by
  have e0 := hr.e0
  have hl := span_len hr h0 h1 (n := k * r.ev) (Int.mul_nonneg (by omega) (by omega))
  have := asc_len (chJ r s k) (spanF r s (k * r.ev)) (spanL r s (k * r.ev)) (choice_asc _ _ _ _) (fun x hx => by have := choice_mem hx; omega)
  omega
theorem take_snoc {l : List Int} {i : Nat} (h : i < l.length) : l.take (i + 1) = l.take i ++ [gi l i] := by
  rw [gi_get h, List.take_add_one, List.getElem?_eq_getElem h]; rfl
theorem AL_at {r : Rl} {s to : Int} {k i : Nat} (hk : k < perN r s to) (hi : i < (chJ r s k).length) :
    ∃ Y, AL r s (perN r s to) = (AL r s k ++ (chJ r s k).take i) ++ gi (chJ r s k) i :: Y := by
  obtain ⟨Y, hY⟩ := AL_pre r s hk
  refine ⟨(chJ r s k).drop (i + 1) ++ Y, ?_⟩
  rw [hY, List.append_assoc, List.append_assoc]
  congr 1
  rw [← List.cons_append, ← List.append_assoc]
  congr 1
  rw [gi_get hi, ← List.drop_eq_getElem_cons hi, List.take_append_drop]
theorem tk_all {ct : Int} {l : List Int} (h : 0 < ct → (l.length : Int) ≤ ct) (h0 : 0 ≤ ct) : tk ct l = l := by
  unfold tk
  split
  · rfl
  · rw [List.take_of_length_le (by have := h (by omega); omega)]
theorem tk_pre {ct : Int} {l z : List Int} (h : 0 < ct → (l.length : Int) ≤ ct) (h0 : 0 ≤ ct) : ∃ z', tk ct (l ++ z) = l ++ z' := by
  unfold tk
  split
  · exact ⟨z, rfl⟩
  · exact ⟨z.take (ct.toNat - l.length), by rw [List.take_append, List.take_of_length_le (by have := h (by omega); omega)]⟩
theorem tk_full {ct : Int} {l z : List Int} (h : (l.length : Int) = ct) (h0 : 0 < ct) : tk ct (l ++ z) = l := by
  unfold tk
  rw [if_neg (by omega), List.take_append, List.take_of_length_le (by omega), show ct.toNat - l.length = 0 by omega, List.take_zero, List.append_nil]
variable {r : Rl} {s to fr : Int}
/-- A day behind the last one that is asked: nothing more comes. -/
theorem co_stop (hr : ROk r) (h0 : 0 ≤ s) (h1 : s ≤ 3652058) {k i : Nat} (hk : k < perN r s to) (hi : i < (chJ r s k).length) (hd : to < gi (chJ r s k) i)
    (hc : 0 < r.ct → ((XF s to (AL r s k ++ (chJ r s k).take i)).length : Int) < r.ct) : YF s to fr (AL r s k ++ (chJ r s k).take i) = comingT r s fr to := by
  obtain ⟨Y, hY⟩ := AL_at hk hi
  unfold YF comingT comes
  rw [XF_stop hY (AL_asc hr h0 h1 _) hd, tk_all (fun h => by have := hc h; omega) hr.c0]
theorem co_split {k i : Nat} (hk : k < perN r s to) (hi : i < (chJ r s k).length) : ∃ Z, comes r s to = XF s to (AL r s k ++ (chJ r s k).take (i + 1)) ++ Z := by
  obtain ⟨Y, hY⟩ := AL_at hk hi
  refine ⟨XF s to Y, ?_⟩
  unfold comes
  rw [hY, take_snoc hi, ← List.append_assoc, ← XF_append, List.append_assoc _ [_] Y]
  rfl
theorem YF_yes {X : List Int} {d : Int} (h0 : s ≤ d) (h1 : d ≤ to) (h2 : fr ≤ d) : YF s to fr (X ++ [d]) = YF s to fr X ++ [d] := by
  unfold YF; rw [XF_yes h0 h1]; simp [h2]
theorem YF_no {X : List Int} {d : Int} (h : ¬ (s ≤ d ∧ d ≤ to ∧ fr ≤ d)) : YF s to fr (X ++ [d]) = YF s to fr X := by
  unfold YF
  by_cases h' : s ≤ d ∧ d ≤ to
  · rw [XF_yes h'.1 h'.2]; simp; omega
  · rw [XF_no h']
/-- What is told next is next. -/
theorem co_next (hr : ROk r) {k i : Nat} (hk : k < perN r s to) (hi : i < (chJ r s k).length) (d0 : s ≤ gi (chJ r s k) i) (d1 : gi (chJ r s k) i ≤ to) (d2 : fr ≤ gi (chJ r s k) i)
    (hc : 0 < r.ct → ((XF s to (AL r s k ++ (chJ r s k).take i)).length : Int) < r.ct) : YF s to fr (AL r s k ++ (chJ r s k).take i) ++ [gi (chJ r s k) i] <+: comingT r s fr to := by
  obtain ⟨Z, hZ⟩ := co_split hk hi
  have e : XF s to (AL r s k ++ (chJ r s k).take (i + 1)) = XF s to (AL r s k ++ (chJ r s k).take i) ++ [gi (chJ r s k) i] := by rw [take_snoc hi, ← List.append_assoc, XF_yes d0 d1]
  obtain ⟨z, hz⟩ := tk_pre (ct := r.ct) (l := XF s to (AL r s k ++ (chJ r s k).take (i + 1))) (z := Z) (fun h => by rw [e]; have := hc h; simp; omega) hr.c0
  refine ⟨z.filter fun d => decide (fr ≤ d), ?_⟩
  unfold comingT
  rw [hZ, hz, List.filter_append, e, List.filter_append]
  simp [d2, YF]
/-- As many have come as were asked for. -/
theorem co_full {k i : Nat} (hk : k < perN r s to) (hi : i < (chJ r s k).length) (h0 : 0 < r.ct) (hc : ((XF s to (AL r s k ++ (chJ r s k).take (i + 1))).length : Int) = r.ct) :
    YF s to fr (AL r s k ++ (chJ r s k).take (i + 1)) = comingT r s fr to := by
  obtain ⟨Z, hZ⟩ := co_split hk hi
  unfold YF comingT
  rw [hZ, tk_full hc h0]
theorem co_done (hr : ROk r) (hc : 0 < r.ct → ((XF s to (AL r s (perN r s to))).length : Int) < r.ct) : YF s to fr (AL r s (perN r s to)) = comingT r s fr to := by
  unfold YF comingT comes
  rw [tk_all (fun h => by have := hc h; omega) hr.c0]
theorem co_skip {k : Nat} (h : min (spanL r s (k * r.ev)) 3652058 < fr) : YF s to fr (AL r s (k + 1)) = YF s to fr (AL r s k) := by
  unfold YF
  rw [AL_succ, XF_append, List.filter_append]
  have : (XF s to (chJ r s k)).filter (fun d => decide (fr ≤ d)) = [] := by
    rw [List.filter_eq_nil_iff]
    intro x hx
    have := choice_mem (List.mem_filter.1 hx).1
    simp; omega
  rw [this, List.append_nil]
theorem co_mem {pre : List Int} {d : Int} (hr : ROk r) (h0 : 0 ≤ s) (h1 : s ≤ 3652058) (h : pre ++ [d] <+: comingT r s fr to) : 0 ≤ d ∧ d ≤ 3652058 ∧ s ≤ d ∧ d ≤ to ∧ fr ≤ d := by
  have hm : d ∈ comingT r s fr to := h.subset (by simp)
  unfold comingT at hm
  rw [List.mem_filter] at hm
  have h2 : d ∈ comes r s to := by
    have := hm.1
    unfold tk at this
    split at this
    · exact this
    · exact List.mem_of_mem_take this
  have h3 := comes_mem h2
  have h4 := AL_mem hr h0 h1 (List.mem_filter.1 h2).1
  have := hm.2
  simp at this
  omega
/-- What stands between two rounds: what was told, how many came, and that the iterator's own blocks lie as they lay; z + 1 is where it counts. -/
structure InI (J : List Int → (Nat → Prop) → World → Prop) (r : Rl) (s to fr : Int) (W w5 : World) (z : Nat) (rd : Nat → Prop) (X : List Int) (lim : Int) (C : Nat → Prop) (A : World) : Prop where
  j : J (YF s to fr X) C A
  c : ∃ c : Int, A.cell? ⟨z + 1, 0, none⟩ = some (.int .i64 c) ∧ A.frozen? ⟨z + 1, 0, none⟩ = false ∧ 0 ≤ c ∧ c ≤ lim ∧ (0 < r.ct → c = ((XF s to X).length : Int) ∧ c < r.ct)
  fx : ∀ k, k < w5.heap.size → k ≠ z + 1 → (rd k ∨ W.heap.size ≤ k) → A.heap[k]? = w5.heap[k]?
theorem InI.on {J : List Int → (Nat → Prop) → World → Prop} {W w5 A B : World} {z : Nat} {rd : Nat → Prop} {X : List Int} {lim : Int} {C : Nat → Prop} (h : InI J r s to fr W w5 z rd X lim C A)
    (hJ : ∀ s C A B, J s C A → Agree W.heap.size C A B → J s C B) (hz : z + 1 < w5.heap.size) (hw : W.heap.size ≤ w5.heap.size) (ha : Agree w5.heap.size C A B) : InI J r s to fr W w5 z rd X lim C B := by
  refine ⟨hJ _ _ _ _ h.j (ha.mono hw (fun k hk => .inr hk)), ?_, fun k h1 h2 h3 => (ha.block k (.inl h1)).trans (h.fx k h1 h2 h3)⟩
  obtain ⟨c, h1, h2, h3⟩ := h.c
  exact ⟨c, by rw [World.cell?_of_block (w := A) (a := ⟨z + 1, 0, none⟩) (ha.block _ (.inl hz))]; exact h1, by rw [World.frozen?_of_block (w := A) (a := ⟨z + 1, 0, none⟩) (ha.block _ (.inl hz))]; exact h2, h3⟩
theorem fiveB (w2 : World) (m : Rm) (v : Value) (w5 : World) (h : w5 = ((((w2.alloc (.cells #[v] 67)).alloc (.cells #[.int .i64 0] 3)).alloc (.cells #[.int .i64 r.f, .int .i64 r.ev, .int .i64 r.ct, .int .i64 r.un, .slice m.a0 r.ds.length m.c0, .slice m.a1 r.da.length m.c1, .slice m.a2 r.mo.length m.c2, .slice m.a3 r.pl.length m.c3, .int .i64 r.wk] 26)).alloc (.cells #[.int .i64 s] 3)).alloc (.cells #[.int .i64 to] 3)) :
    w5.heap.size = w2.heap.size + 5 ∧ Below w2.heap.size w2 w5 ∧ w5.cell? ⟨w2.heap.size, 0, none⟩ = some v ∧ w5.cell? ⟨w2.heap.size + 1, 0, none⟩ = some (.int .i64 0) ∧ w5.frozen? ⟨w2.heap.size + 1, 0, none⟩ = false ∧
    CB w5 (w2.heap.size + 2) r m ∧ w5.cell? ⟨w2.heap.size + 3, 0, none⟩ = some (.int .i64 s) ∧ w5.cell? ⟨w2.heap.size + 4, 0, none⟩ = some (.int .i64 to) := by
  obtain ⟨x1, e1⟩ : ∃ x1, x1 = w2.alloc (.cells #[v] 67) := ⟨_, rfl⟩
  obtain ⟨x2, e2⟩ : ∃ x2, x2 = x1.alloc (.cells #[.int .i64 0] 3) := ⟨_, rfl⟩
  obtain ⟨x3, e3⟩ : ∃ x3, x3 = x2.alloc (.cells #[.int .i64 r.f, .int .i64 r.ev, .int .i64 r.ct, .int .i64 r.un, .slice m.a0 r.ds.length m.c0, .slice m.a1 r.da.length m.c1, .slice m.a2 r.mo.length m.c2, .slice m.a3 r.pl.length m.c3, .int .i64 r.wk] 26) := ⟨_, rfl⟩
  obtain ⟨x4, e4⟩ : ∃ x4, x4 = x3.alloc (.cells #[.int .i64 s] 3) := ⟨_, rfl⟩
  rw [← e1, ← e2, ← e3, ← e4] at h
  have z1 : x1.heap.size = w2.heap.size + 1 := by rw [e1]; simp
  have z2 : x2.heap.size = w2.heap.size + 2 := by rw [e2]; simp [z1]
  have z3 : x3.heap.size = w2.heap.size + 3 := by rw [e3]; simp [z2]
  have z4 : x4.heap.size = w2.heap.size + 4 := by rw [e4]; simp [z3]
  have z5 : w5.heap.size = w2.heap.size + 5 := by rw [h]; simp [z4]
  have b1 : Below w2.heap.size w2 x1 := by rw [e1]; exact (Below.refl _ _).alloc (Nat.le_refl _) _
  have b2 : Below x1.heap.size x1 x2 := by rw [e2]; exact (Below.refl _ _).alloc (Nat.le_refl _) _
  have b3 : Below x2.heap.size x2 x3 := by rw [e3]; exact (Below.refl _ _).alloc (Nat.le_refl _) _
  have b4 : Below x3.heap.size x3 x4 := by rw [e4]; exact (Below.refl _ _).alloc (Nat.le_refl _) _
  have b5 : Below x4.heap.size x4 w5 := by rw [h]; exact (Below.refl _ _).alloc (Nat.le_refl _) _
  have b35 := bstep b4 b5
  have b25 := bstep b3 b35
  have b15 := bstep b2 b25
  have c1 := CF.new w2 #[v] 67
  rw [← e1] at c1
  have c2 := CF.new x1 #[.int .i64 0] 3
  rw [← e2, z1] at c2
  have c3 := CB.new x2 r m 26
  rw [← e3, z2] at c3
  have c4 := CF.new x3 #[.int .i64 s] 3
  rw [← e4, z3] at c4
  have c5 := CF.new x4 #[.int .i64 to] 3
  rw [← h, z4] at c5
  have d2 := (c2.below b25).2 0 _ rfl
  exact ⟨z5, bstep b1 b15, ((c1.below b15).2 0 _ rfl).1, d2.1, d2.2, c3.on (b35.block _ (by omega)), ((c4.below b5).2 0 _ rfl).1, (c5.2 0 _ rfl).1⟩
end Go.Proofs.YtlfglhpepoepcaaDoor
