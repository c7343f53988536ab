/- The first day on which something comes: the program's. -/
import Derived.Test.YtlfglhpepoepcaaDoorKh
import Derived.Test.YtlfglhpepoepcaaDoorKo
import Derived.Test.YtlfglhpepoepcaaDoorKq
namespace Go.Proofs.YtlfglhpepoepcaaDoor
open Go.RowKit Go.Shelf
set_option linter.unusedVariables false
attribute [local go_sem] Oper.semAt_some

set_option maxHeartbeats 2000000 in
theorem implComingDays (r : Rl) (m : Rm) (s fr te : Int) (w : World) :
    Calls Tryd.prog 39 #[.agg #[.int .i64 r.f, .int .i64 r.ev, .int .i64 r.ct, .int .i64 r.un, .slice m.a0 r.ds.length m.c0, .slice m.a1 r.da.length m.c1, .slice m.a2 r.mo.length m.c2, .slice m.a3 r.pl.length m.c3, .int .i64 r.wk], .int .i64 s, .int .i64 fr, .int .i64 te] w fun e w' => e = .returned (.func (.func 56) #[] #[.pointer (some ⟨w.heap.size, 0, none⟩), .pointer (some ⟨w.heap.size + 1, 0, none⟩), .pointer (some ⟨w.heap.size + 3, 0, none⟩), .pointer (some ⟨w.heap.size + 2, 0, none⟩)]) ∧
      Below w.heap.size w w' ∧ w'.heap.size = w.heap.size + 4 ∧ CB w' w.heap.size r m ∧ w'.cell? ⟨w.heap.size + 1, 0, none⟩ = some (.int .i64 s) ∧ w'.cell? ⟨w.heap.size + 2, 0, none⟩ = some (.int .i64 fr) ∧ w'.cell? ⟨w.heap.size + 3, 0, none⟩ = some (.int .i64 (limT r te)) := by
  have key : ∀ (t : Int) (w' : World), w' = (((w.alloc (.cells #[.int .i64 r.f, .int .i64 r.ev, .int .i64 r.ct, .int .i64 r.un, .slice m.a0 r.ds.length m.c0, .slice m.a1 r.da.length m.c1, .slice m.a2 r.mo.length m.c2, .slice m.a3 r.pl.length m.c3, .int .i64 r.wk] 26)).alloc (.cells #[.int .i64 s] 3)).alloc (.cells #[.int .i64 fr] 3)).alloc (.cells #[.int .i64 t] 3) →
      Below w.heap.size w w' ∧ w'.heap.size = w.heap.size + 4 ∧ CB w' w.heap.size r m ∧ w'.cell? ⟨w.heap.size + 1, 0, none⟩ = some (.int .i64 s) ∧ w'.cell? ⟨w.heap.size + 2, 0, none⟩ = some (.int .i64 fr) ∧ w'.cell? ⟨w.heap.size + 3, 0, none⟩ = some (.int .i64 t) := fun t w' h => by
    obtain ⟨x1, e1⟩ : ∃ x1, x1 = w.alloc (.cells #[.int .i64 r.f, .int .i64 r.ev, .int .i64 r.ct, .int .i64 r.un, .slice m.a0 r.ds.length m.c0, .slice m.a1 r.da.length m.c1, .slice m.a2 r.mo.length m.c2, .slice m.a3 r.pl.length m.c3, .int .i64 r.wk] 26) := ⟨_, rfl⟩
    obtain ⟨x2, e2⟩ : ∃ x2, x2 = x1.alloc (.cells #[.int .i64 s] 3) := ⟨_, rfl⟩
    obtain ⟨x3, e3⟩ : ∃ x3, x3 = x2.alloc (.cells #[.int .i64 fr] 3) := ⟨_, rfl⟩
    rw [← e1, ← e2, ← e3] at h
    have z1 : x1.heap.size = w.heap.size + 1 := by rw [e1]; simp
    have z2 : x2.heap.size = w.heap.size + 2 := by rw [e2]; simp [z1]
    have z3 : x3.heap.size = w.heap.size + 3 := by rw [e3]; simp [z2]
    have z4 : w'.heap.size = w.heap.size + 4 := by rw [h]; simp [z3]
    have b1 : Below w.heap.size w x1 := by rw [e1]; exact (Below.refl _ _).alloc (Nat.le_refl _) _
    have b2 : Below x1.heap.size x1 x2 := by rw [e2]; exact (Below.refl _ _).alloc (Nat.le_refl _) _
    have b3 : Below x2.heap.size x2 x3 := by rw [e3]; exact (Below.refl _ _).alloc (Nat.le_refl _) _
    have b4 : Below x3.heap.size x3 w' := by rw [h]; exact (Below.refl _ _).alloc (Nat.le_refl _) _
    have b24 := bstep b3 b4
    have b14 := bstep b2 b24
    have c1 := CB.new w r m 26
    rw [← e1] at c1
    have c2 := CF.new x1 #[.int .i64 s] 3
    rw [← e2, z1] at c2
    have c3 := CF.new x2 #[.int .i64 fr] 3
    rw [← e3, z2] at c3
    have c4 := CF.new x3 #[.int .i64 t] 3
    rw [← h, z3] at c4
    exact ⟨bstep b1 b14, z4, c1.on (b14.block _ (by omega)), ((c2.below b24).2 0 _ rfl).1, ((c3.below b4).2 0 _ rfl).1, (c4.2 0 _ rfl).1⟩
  have KEY : Hid (∀ (t : Int) (w' : World), w' = (((w.alloc (.cells #[.int .i64 r.f, .int .i64 r.ev, .int .i64 r.ct, .int .i64 r.un, .slice m.a0 r.ds.length m.c0, .slice m.a1 r.da.length m.c1, .slice m.a2 r.mo.length m.c2, .slice m.a3 r.pl.length m.c3, .int .i64 r.wk] 26)).alloc (.cells #[.int .i64 s] 3)).alloc (.cells #[.int .i64 fr] 3)).alloc (.cells #[.int .i64 t] 3) →
      Below w.heap.size w w' ∧ w'.heap.size = w.heap.size + 4 ∧ CB w' w.heap.size r m ∧ w'.cell? ⟨w.heap.size + 1, 0, none⟩ = some (.int .i64 s) ∧ w'.cell? ⟨w.heap.size + 2, 0, none⟩ = some (.int .i64 fr) ∧ w'.cell? ⟨w.heap.size + 3, 0, none⟩ = some (.int .i64 t)) := key
  clear key
  by_cases hu : 0 < r.un
  · by_cases ht : r.un < te
    · have HL : Hid (limT r te = r.un) := by unfold Hid limT; rw [if_pos ⟨hu, ht⟩]
      go_enter Tryd.func39, Tryd.ntmps39
      go_wp2
      go_ret
      exact ⟨rfl, by rw [HL.out]; exact KEY.out _ _ rfl⟩
    · have HL : Hid (limT r te = te) := by unfold Hid limT; rw [if_neg (fun h => ht h.2)]
      go_enter Tryd.func39, Tryd.ntmps39
      go_wp2
      go_ret
      exact ⟨rfl, by rw [HL.out]; exact KEY.out _ _ rfl⟩
  · have HL : Hid (limT r te = te) := by unfold Hid limT; rw [if_neg (fun h => hu h.1)]
    go_enter Tryd.func39, Tryd.ntmps39
    go_wp2
    go_ret
    exact ⟨rfl, by rw [HL.out]; exact KEY.out _ _ rfl⟩
/-- What is asked of a rule in memory that may be asked. -/
structure RIn (w : World) (r : Rl) (m : Rm) : Prop where
  ok : ROk r
  l0 : r.ds.length ≤ 8
  l1 : r.da.length ≤ 8
  l2 : r.mo.length ≤ 8
  l3 : r.pl.length ≤ 8
  mem : RMem w r m
  tab : Tab w
theorem RIn.on {w w' : World} {r : Rl} {m : Rm} (h : RIn w r m) (hb : Below w.heap.size w w') : RIn w' r m := ⟨h.ok, h.l0, h.l1, h.l2, h.l3, h.mem.below hb, h.tab.on hb⟩
def firstT (l : List Int) : Int := l.headD (-1)
set_option maxRecDepth 100000 in
set_option maxHeartbeats 4000000 in
theorem implFirstIn (n : Nat) (r : Rl) (m : Rm) (s fr te : Int) (w : World) (hr : RIn w r m) (h0 : 0 ≤ s) (h1 : s ≤ 3652058) :
    CallsIn Fence.wide n Tryd.prog 42 #[.agg #[.int .i64 r.f, .int .i64 r.ev, .int .i64 r.ct, .int .i64 r.un, .slice m.a0 r.ds.length m.c0, .slice m.a1 r.da.length m.c1, .slice m.a2 r.mo.length m.c2, .slice m.a3 r.pl.length m.c3, .int .i64 r.wk], .int .i64 s, .int .i64 fr, .int .i64 te] w fun e w' => e = .returned (.int .i64 (firstT (comingT r s fr (limT r te)))) ∧ Below w.heap.size w w' := by
  obtain ⟨W1, hW1⟩ : ∃ W1, W1 = (w.alloc (.cells #[.int .i64 r.f, .int .i64 r.ev, .int .i64 r.ct, .int .i64 r.un, .slice m.a0 r.ds.length m.c0, .slice m.a1 r.da.length m.c1, .slice m.a2 r.mo.length m.c2, .slice m.a3 r.pl.length m.c3, .int .i64 r.wk] 26)).alloc (.cells #[.int .i64 0] 3) := ⟨_, rfl⟩
  have hb1 : Below w.heap.size w W1 := by rw [hW1]; exact ((Below.refl _ w).alloc (Nat.le_refl _) _).alloc (by simp) _
  have hs1 : W1.heap.size = w.heap.size + 2 := by rw [hW1]; simp
  have HF1 : Hid (CF W1 (w.heap.size + 1) #[.int .i64 0]) := by
    unfold Hid
    have := CF.new (w.alloc (.cells #[.int .i64 r.f, .int .i64 r.ev, .int .i64 r.ct, .int .i64 r.un, .slice m.a0 r.ds.length m.c0, .slice m.a1 r.da.length m.c1, .slice m.a2 r.mo.length m.c2, .slice m.a3 r.pl.length m.c3, .int .i64 r.wk] 26)) #[.int .i64 0] 3
    rw [World.size_alloc] at this; rw [hW1]; exact this
  have HW1 : Hid (W1 = (w.alloc (.cells #[.int .i64 r.f, .int .i64 r.ev, .int .i64 r.ct, .int .i64 r.un, .slice m.a0 r.ds.length m.c0, .slice m.a1 r.da.length m.c1, .slice m.a2 r.mo.length m.c2, .slice m.a3 r.pl.length m.c3, .int .i64 r.wk] 26)).alloc (.cells #[.int .i64 0] 3)) := hW1
  have HB1 : Hid (Below w.heap.size w W1) := hb1
  have HR1 : Hid (RIn W1 r m) := hr.on hb1
  have HS1 : Hid (W1.heap.size = w.heap.size + 2) := hs1
  have HRM : Hid (RMem w r m) := hr.mem
  have HG : Hid (0 < w.heap.size) := hr.tab.lt
  clear hW1 hb1 hs1 hr
  refine callsIn_of_wp_marks Tryd.func42 rfl trivial ?_ rfl
  simp only [Tryd.ntmps42, List.size_toArray, List.length_cons, List.length_nil, Nat.reduceAdd, Nat.reduceSub, Array.replicate_succ, Array.replicate_zero, List.push_toArray, List.append_toArray, List.nil_append, List.cons_append]
  gi_wp2_with fail
  refine ⟨trivial, fun h => (by cases h), ?_⟩
  rw [← HW1.out]
  refine (callsIn_wide.2 (implComingDays r m s fr te W1)).mono ?_
  rintro e w5 ⟨rfl, b5, s5, r5, c5, f5, t5⟩
  have HB5 : Hid (Below W1.heap.size W1 w5) := b5
  have HBw : Hid (Below w.heap.size w w5) := bstep HB1.out b5
  have HR5 : Hid (RIn w5 r m) := HR1.out.on b5
  have HF5 : Hid (CF w5 (w.heap.size + 1) #[.int .i64 0]) := HF1.out.below b5
  have HIT : Hid (ItOwn Fence.wide (n - 1) Tryd.prog 56 #[.pointer (some ⟨W1.heap.size, 0, none⟩), .pointer (some ⟨W1.heap.size + 1, 0, none⟩), .pointer (some ⟨W1.heap.size + 3, 0, none⟩), .pointer (some ⟨W1.heap.size + 2, 0, none⟩)] (fun d : Int => #[.int .i64 d]) (fun pre d => pre ++ [d] <+: comingT r s fr (limT r te)) (ReadB r m W1.heap.size (W1.heap.size + 1) (W1.heap.size + 3) (W1.heap.size + 2))
      (fun xs => xs = comingT r s fr (limT r te)) (fun pre => pre <+: comingT r s fr (limT r te) ∧ pre ≠ []) w5) :=
    itComing implChoosers implCounting (n - 1) r m s fr (limT r te) w5 _ _ _ _ HR5.out.ok HR5.out.l0 HR5.out.l1 HR5.out.l2 HR5.out.l3 h0 h1 HR5.out.mem (fun k hk => HR5.out.mem.blk_lt hk) HR5.out.tab r5 c5 t5 f5
  have HS5 : Hid (w5.heap.size = w.heap.size + 6) := by unfold Hid; rw [s5, HS1.out]
  clear b5 s5 r5 c5 f5 t5
  gi_wp2
  refine wpIn_range_it (F := Fence.wide) rfl (fun h => (by cases h)) (gf := 56) (lb := #[.pointer (some ⟨W1.heap.size, 0, none⟩), .pointer (some ⟨W1.heap.size + 1, 0, none⟩), .pointer (some ⟨W1.heap.size + 3, 0, none⟩), .pointer (some ⟨W1.heap.size + 2, 0, none⟩)]) rfl trivial (enters_of Tryd.func56 (by kernel_rfl) rfl)
    HIT.out (fun j hj => by
      have a1 := HS5.out; have a2 := HS1.out; have a3 := HG.out
      rcases hj with rfl | rfl | rfl | rfl | rfl | h
      · omega
      · omega
      · omega
      · omega
      · omega
      · have := HRM.out.blk_lt h; omega) (Below.refl _ _) (fun _ => rfl)
    (fun pre C A => pre = [] ∧ Below w.heap.size w A ∧ A.cell? ⟨w.heap.size + 1, 0, none⟩ = some (.int .i64 0) ∧ A.frozen? ⟨w.heap.size + 1, 0, none⟩ = false)
    (fun c pre C A => c = .ret ∧ ∃ x : Int, pre = [x] ∧ Below w.heap.size w A ∧ A.cell? ⟨w.heap.size + 1, 0, none⟩ = some (.int .i64 x))
    (fun p C A B h hab => ⟨h.1, (h.2.1).trans (hab.below (by have := HS5.out; omega)), by rw [World.cell?_of_block (w := A) (a := ⟨w.heap.size + 1, 0, none⟩) (hab.block _ (.inl (by show w.heap.size + 1 < _; have := HS5.out; omega)))]; exact h.2.2.1, by rw [World.frozen?_of_block (w := A) (a := ⟨w.heap.size + 1, 0, none⟩) (hab.block _ (.inl (by show w.heap.size + 1 < _; have := HS5.out; omega)))]; exact h.2.2.2⟩)
    (fun c p C A B h hab => ⟨h.1, by obtain ⟨x, h1, h2, h3⟩ := h.2; exact ⟨x, h1, h2.trans (hab.below (by have := HS5.out; omega)), by rw [World.cell?_of_block (w := A) (a := ⟨w.heap.size + 1, 0, none⟩) (hab.block _ (.inl (by show w.heap.size + 1 < _; have := HS5.out; omega)))]; exact h3⟩⟩)
    ⟨rfl, HBw.out, (HF5.out.2 0 _ rfl).1, (HF5.out.2 0 _ rfl).2⟩
    (fun x a' b A => a' = { tmps := #[.agg #[.int .i64 r.f, .int .i64 r.ev, .int .i64 r.ct, .int .i64 r.un, .slice m.a0 r.ds.length m.c0, .slice m.a1 r.da.length m.c1, .slice m.a2 r.mo.length m.c2, .slice m.a3 r.pl.length m.c3, .int .i64 r.wk], .int .i64 s, .int .i64 fr, .int .i64 te, .pointer (some ⟨w.heap.size, 0, none⟩), undef, undef, undef, .pointer (some ⟨w.heap.size + 1, 0, none⟩), .int .i64 x, .agg #[.int .i64 r.f, .int .i64 r.ev, .int .i64 r.ct, .int .i64 r.un, .slice m.a0 r.ds.length m.c0, .slice m.a1 r.da.length m.c1, .slice m.a2 r.mo.length m.c2, .slice m.a3 r.pl.length m.c3, .int .i64 r.wk], .int .i64 s, .int .i64 fr, .int .i64 te, .func (.func 56) #[] #[.pointer (some ⟨W1.heap.size, 0, none⟩), .pointer (some ⟨W1.heap.size + 1, 0, none⟩), .pointer (some ⟨W1.heap.size + 3, 0, none⟩), .pointer (some ⟨W1.heap.size + 2, 0, none⟩)], .int .i64 x, undef], defers := [] })
    (fun x a' b A B h hk => h)
    ?assign ?body ?done ?stop
  case assign =>
    intro l0 x A K hA hK
    gi_wp2
    exact hK _ _ (Below.refl _ A) rfl
  case body =>
    rintro l0 pre x a' b C A hb1 hb2 hC ⟨rfl, hB, hc, hf⟩ rfl hNx
    have HBA : Hid (Below w.heap.size w A) := hB
    have HC : Hid (∀ k, C k → w5.heap.size + 2 ≤ k ∧ k < b) := hC
    clear hB hC
    gi_wp2
    refine ⟨C, fun k hk => .inl hk, fun k hk => ?_, ?_, rfl, x, rfl, HBA.out.setCell (p := ⟨w.heap.size + 1, 0, none⟩) (by show w.heap.size ≤ w.heap.size + 1; omega) _, World.cell?_setCell_same' _ _ _ (by rw [hc]; rfl)⟩
    · show k < (A.heap.modify _ _).size
      rw [Array.size_modify]; have := (HC.out k hk).2; omega
    · refine Rest.setCell A ⟨w.heap.size + 1, 0, none⟩ _ ?_
      intro h
      have a1 := HS5.out; have a2 := HS1.out; have a3 := HG.out
      rcases h with (h | h | h | h | h | h) | h
      · simp only at h; omega
      · simp only at h; omega
      · simp only at h; omega
      · simp only at h; omega
      · simp only at h; omega
      · have := HRM.out.blk_lt h; simp only at this; omega
      · have := h.1; simp only at this; omega
  case done =>
    rintro xs C A hC hS ⟨rfl, hB, hc, hf⟩ hD
    have HBA : Hid (Below w.heap.size w A) := hB
    have HE : Hid (comingT r s fr (limT r te) = []) := hS.symm
    clear hS hB
    gi_wp2
    obtain ⟨A9, hA9⟩ : ∃ A9, A9 = A.setCell ⟨w.heap.size + 1, 0, none⟩ (.int .i64 (-1)) := ⟨_, rfl⟩
    rw [← hA9]
    have hD9 : A9.heap[w5.heap.size]? = some (.deferred (some [])) := by
      rw [hA9]; rw [Below.heap_setCell _ _ _ _ (by have := HS5.out; show w5.heap.size ≠ w.heap.size + 1; omega)]; exact hD
    have hc9 : A9.cell? ⟨w.heap.size + 1, 0, none⟩ = some (.int .i64 (-1)) := by rw [hA9]; exact World.cell?_setCell_same' _ _ _ (by rw [hc]; rfl)
    have hb9 : Below w.heap.size w A9 := by rw [hA9]; exact HBA.out.setCell (p := ⟨w.heap.size + 1, 0, none⟩) (by show w.heap.size ≤ w.heap.size + 1; omega) _
    refine ⟨by simp, .inl ⟨_, _, rfl, run_takeDeferred hD9, ?_⟩⟩
    have hcz : (A9.putObj w5.heap.size (.deferred none)).cell? ⟨w.heap.size + 1, 0, none⟩ = some (.int .i64 (-1)) := by
      rw [World.cell?_of_block (w := A9) (a := ⟨w.heap.size + 1, 0, none⟩) (World.putObj_heap_other (by have := HS5.out; show w.heap.size + 1 ≠ _; omega))]; exact hc9
    have hbz : Below w.heap.size w (A9.putObj w5.heap.size (.deferred none)) := hb9.trans ((Agree.putObj (n := w.heap.size) (C := fun _ => False) A9 w5.heap.size (.deferred none) (by have := HS5.out; omega) (fun h => h)).below (Nat.le_refl _))
    refine ⟨.int .i64 (-1), by simp [results, Tryd.results42, go_sem, hcz], by rw [HE.out]; rfl, hbz⟩
  case stop =>
    rintro c pre C A hC hSp ⟨rfl, x, rfl, hB, hc⟩ hD
    have HBA : Hid (Below w.heap.size w A) := hB
    have HSP : Hid ([x] <+: comingT r s fr (limT r te)) := hSp.1
    clear hSp hB
    gi_wp2
    obtain ⟨A9, hA9⟩ : ∃ A9, A9 = A := ⟨_, rfl⟩
    rw [← hA9]
    have hD9 : A9.heap[w5.heap.size]? = some (.deferred (some [])) := by
      rw [hA9]; exact hD
    have hc9 : A9.cell? ⟨w.heap.size + 1, 0, none⟩ = some (.int .i64 x) := by rw [hA9]; exact hc
    have hb9 : Below w.heap.size w A9 := by rw [hA9]; exact HBA.out
    refine ⟨by simp, .inl ⟨_, _, rfl, run_takeDeferred hD9, ?_⟩⟩
    have hcz : (A9.putObj w5.heap.size (.deferred none)).cell? ⟨w.heap.size + 1, 0, none⟩ = some (.int .i64 x) := by
      rw [World.cell?_of_block (w := A9) (a := ⟨w.heap.size + 1, 0, none⟩) (World.putObj_heap_other (by have := HS5.out; show w.heap.size + 1 ≠ _; omega))]; exact hc9
    have hbz : Below w.heap.size w (A9.putObj w5.heap.size (.deferred none)) := hb9.trans ((Agree.putObj (n := w.heap.size) (C := fun _ => False) A9 w5.heap.size (.deferred none) (by have := HS5.out; omega) (fun h => h)).below (Nat.le_refl _))
    refine ⟨.int .i64 x, by simp [results, Tryd.results42, go_sem, hcz], by obtain ⟨y, hy⟩ := HSP.out; rw [← hy]; rfl, hbz⟩
theorem implFirst (r : Rl) (m : Rm) (s fr te : Int) (w : World) (hr : RIn w r m) (h0 : 0 ≤ s) (h1 : s ≤ 3652058) :
    Calls Tryd.prog 42 #[.agg #[.int .i64 r.f, .int .i64 r.ev, .int .i64 r.ct, .int .i64 r.un, .slice m.a0 r.ds.length m.c0, .slice m.a1 r.da.length m.c1, .slice m.a2 r.mo.length m.c2, .slice m.a3 r.pl.length m.c3, .int .i64 r.wk], .int .i64 s, .int .i64 fr, .int .i64 te] w fun e w' => e = .returned (.int .i64 (firstT (comingT r s fr (limT r te)))) ∧ Below w.heap.size w w' :=
  callsIn_wide.1 (implFirstIn 9 r m s fr te w hr h0 h1)
end Go.Proofs.YtlfglhpepoepcaaDoor
