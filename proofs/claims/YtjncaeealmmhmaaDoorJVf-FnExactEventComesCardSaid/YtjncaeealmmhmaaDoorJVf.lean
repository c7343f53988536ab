/- The first day on which something comes: the program's. -/
import Derived.Test.YtjncaeealmmhmaaDoorKh
import Derived.Test.YtjncaeealmmhmaaDoorKo
import Derived.Test.YtjncaeealmmhmaaDoorKq
import Derived.Test.YtjncaeealmmhmaaDoorRx
import Derived.Test.YtjncaeealmmhmaaDoorRt
import Derived.Test.YtjncaeealmmhmaaDoorLc
import Derived.Test.YtjncaeealmmhmaaDoorJVe
namespace Go.Proofs.YtjncaeealmmhmaaDoor
open Go.RowKit Go.Shelf
set_option linter.unusedVariables false
attribute [local go_sem] Oper.semAt_some

set_option maxHeartbeats 2000000 in
theorem implComingDays (r : Rl) (m : Rm) (s fr te : Int) (w : World) :
    Calls Tryd.prog 29 #[.agg #[.int .i64 r.f, .int .i64 r.ev, .int .i64 r.ct, .int .i64 r.un, .slice m.a0 r.ds.length m.c0, .slice m.a1 r.da.length m.c1, .slice m.a2 r.mo.length m.c2, .slice m.a3 r.pl.length m.c3, .int .i64 r.wk], .int .i64 s, .int .i64 fr, .int .i64 te] w fun e w' => e = .returned (.func (.func 48) #[] #[.pointer (some ⟨w.heap.size, 0, none⟩), .pointer (some ⟨w.heap.size + 1, 0, none⟩), .pointer (some ⟨w.heap.size + 3, 0, none⟩), .pointer (some ⟨w.heap.size + 2, 0, none⟩)]) ∧
      Below w.heap.size w w' ∧ w'.heap.size = w.heap.size + 4 ∧ CB w' w.heap.size r m ∧ w'.cell? ⟨w.heap.size + 1, 0, none⟩ = some (.int .i64 s) ∧ w'.cell? ⟨w.heap.size + 2, 0, none⟩ = some (.int .i64 fr) ∧ w'.cell? ⟨w.heap.size + 3, 0, none⟩ = some (.int .i64 (limT r te)) := by
  have key : ∀ (t : Int) (w' : World), w' = (((w.alloc (.cells #[.int .i64 r.f, .int .i64 r.ev, .int .i64 r.ct, .int .i64 r.un, .slice m.a0 r.ds.length m.c0, .slice m.a1 r.da.length m.c1, .slice m.a2 r.mo.length m.c2, .slice m.a3 r.pl.length m.c3, .int .i64 r.wk] 30)).alloc (.cells #[.int .i64 s] 3)).alloc (.cells #[.int .i64 fr] 3)).alloc (.cells #[.int .i64 t] 3) →
      Below w.heap.size w w' ∧ w'.heap.size = w.heap.size + 4 ∧ CB w' w.heap.size r m ∧ w'.cell? ⟨w.heap.size + 1, 0, none⟩ = some (.int .i64 s) ∧ w'.cell? ⟨w.heap.size + 2, 0, none⟩ = some (.int .i64 fr) ∧ w'.cell? ⟨w.heap.size + 3, 0, none⟩ = some (.int .i64 t) := fun t w' h => by
    obtain ⟨x1, e1⟩ : ∃ x1, x1 = w.alloc (.cells #[.int .i64 r.f, .int .i64 r.ev, .int .i64 r.ct, .int .i64 r.un, .slice m.a0 r.ds.length m.c0, .slice m.a1 r.da.length m.c1, .slice m.a2 r.mo.length m.c2, .slice m.a3 r.pl.length m.c3, .int .i64 r.wk] 30) := ⟨_, rfl⟩
    obtain ⟨x2, e2⟩ : ∃ x2, x2 = x1.alloc (.cells #[.int .i64 s] 3) := ⟨_, rfl⟩
    obtain ⟨x3, e3⟩ : ∃ x3, x3 = x2.alloc (.cells #[.int .i64 fr] 3) := ⟨_, rfl⟩
    rw [← e1, ← e2, ← e3] at h
    have z1 : x1.heap.size = w.heap.size + 1 := by rw [e1]; simp
    have z2 : x2.heap.size = w.heap.size + 2 := by rw [e2]; simp [z1]
    have z3 : x3.heap.size = w.heap.size + 3 := by rw [e3]; simp [z2]
    have z4 : w'.heap.size = w.heap.size + 4 := by rw [h]; simp [z3]
    have b1 : Below w.heap.size w x1 := by rw [e1]; exact (Below.refl _ _).alloc (Nat.le_refl _) _
    have b2 : Below x1.heap.size x1 x2 := by rw [e2]; exact (Below.refl _ _).alloc (Nat.le_refl _) _
    have b3 : Below x2.heap.size x2 x3 := by rw [e3]; exact (Below.refl _ _).alloc (Nat.le_refl _) _
    have b4 : Below x3.heap.size x3 w' := by rw [h]; exact (Below.refl _ _).alloc (Nat.le_refl _) _
    have b24 := bstep b3 b4
    have b14 := bstep b2 b24
    have c1 := CB.new w r m 30
    rw [← e1] at c1
    have c2 := CF.new x1 #[.int .i64 s] 3
    rw [← e2, z1] at c2
    have c3 := CF.new x2 #[.int .i64 fr] 3
    rw [← e3, z2] at c3
    have c4 := CF.new x3 #[.int .i64 t] 3
    rw [← h, z3] at c4
    exact ⟨bstep b1 b14, z4, c1.on (b14.block _ (by omega)), ((c2.below b24).2 0 _ rfl).1, ((c3.below b4).2 0 _ rfl).1, (c4.2 0 _ rfl).1⟩
  have KEY : Hid (∀ (t : Int) (w' : World), w' = (((w.alloc (.cells #[.int .i64 r.f, .int .i64 r.ev, .int .i64 r.ct, .int .i64 r.un, .slice m.a0 r.ds.length m.c0, .slice m.a1 r.da.length m.c1, .slice m.a2 r.mo.length m.c2, .slice m.a3 r.pl.length m.c3, .int .i64 r.wk] 30)).alloc (.cells #[.int .i64 s] 3)).alloc (.cells #[.int .i64 fr] 3)).alloc (.cells #[.int .i64 t] 3) →
      Below w.heap.size w w' ∧ w'.heap.size = w.heap.size + 4 ∧ CB w' w.heap.size r m ∧ w'.cell? ⟨w.heap.size + 1, 0, none⟩ = some (.int .i64 s) ∧ w'.cell? ⟨w.heap.size + 2, 0, none⟩ = some (.int .i64 fr) ∧ w'.cell? ⟨w.heap.size + 3, 0, none⟩ = some (.int .i64 t)) := key
  clear key
  by_cases hu : 0 < r.un
  · by_cases ht : r.un < te
    · have HL : Hid (limT r te = r.un) := by unfold Hid limT; rw [if_pos ⟨hu, ht⟩]
      go_enter Tryd.func29, Tryd.ntmps29
      go_wp2
      go_ret
      exact ⟨rfl, by rw [HL.out]; exact KEY.out _ _ rfl⟩
    · have HL : Hid (limT r te = te) := by unfold Hid limT; rw [if_neg (fun h => ht h.2)]
      go_enter Tryd.func29, Tryd.ntmps29
      go_wp2
      go_ret
      exact ⟨rfl, by rw [HL.out]; exact KEY.out _ _ rfl⟩
  · have HL : Hid (limT r te = te) := by unfold Hid limT; rw [if_neg (fun h => hu h.1)]
    go_enter Tryd.func29, Tryd.ntmps29
    go_wp2
    go_ret
    exact ⟨rfl, by rw [HL.out]; exact KEY.out _ _ rfl⟩
/-- What is asked of a rule in memory that may be asked. -/
structure RIn (w : World) (r : Rl) (m : Rm) : Prop where
  ok : ROk r
  l0 : r.ds.length ≤ 8
  l1 : r.da.length ≤ 8
  l2 : r.mo.length ≤ 8
  l3 : r.pl.length ≤ 8
  mem : RMem w r m
  tab : Tab w
theorem RIn.on {w w' : World} {r : Rl} {m : Rm} (h : RIn w r m) (hb : Below w.heap.size w w') : RIn w' r m := ⟨h.ok, h.l0, h.l1, h.l2, h.l3, h.mem.below hb, h.tab.on hb⟩
def firstT (l : List Int) : Int := l.headD (-1)
set_option maxRecDepth 100000 in
set_option maxHeartbeats 4000000 in
theorem implFirstIn (n : Nat) (r : Rl) (m : Rm) (s fr te : Int) (w : World) (hr : RIn w r m) (h0 : 0 ≤ s) (h1 : s ≤ 3652058) :
    CallsIn Fence.wide n Tryd.prog 32 #[.agg #[.int .i64 r.f, .int .i64 r.ev, .int .i64 r.ct, .int .i64 r.un, .slice m.a0 r.ds.length m.c0, .slice m.a1 r.da.length m.c1, .slice m.a2 r.mo.length m.c2, .slice m.a3 r.pl.length m.c3, .int .i64 r.wk], .int .i64 s, .int .i64 fr, .int .i64 te] w fun e w' => e = .returned (.int .i64 (firstT (comingT r s fr (limT r te)))) ∧ Below w.heap.size w w' := by
  obtain ⟨W1, hW1⟩ : ∃ W1, W1 = (w.alloc (.cells #[.int .i64 r.f, .int .i64 r.ev, .int .i64 r.ct, .int .i64 r.un, .slice m.a0 r.ds.length m.c0, .slice m.a1 r.da.length m.c1, .slice m.a2 r.mo.length m.c2, .slice m.a3 r.pl.length m.c3, .int .i64 r.wk] 30)).alloc (.cells #[.int .i64 0] 3) := ⟨_, rfl⟩
  have hb1 : Below w.heap.size w W1 := by rw [hW1]; exact ((Below.refl _ w).alloc (Nat.le_refl _) _).alloc (by simp) _
  have hs1 : W1.heap.size = w.heap.size + 2 := by rw [hW1]; simp
  have HF1 : Hid (CF W1 (w.heap.size + 1) #[.int .i64 0]) := by
    unfold Hid
    have := CF.new (w.alloc (.cells #[.int .i64 r.f, .int .i64 r.ev, .int .i64 r.ct, .int .i64 r.un, .slice m.a0 r.ds.length m.c0, .slice m.a1 r.da.length m.c1, .slice m.a2 r.mo.length m.c2, .slice m.a3 r.pl.length m.c3, .int .i64 r.wk] 30)) #[.int .i64 0] 3
    rw [World.size_alloc] at this; rw [hW1]; exact this
  have HW1 : Hid (W1 = (w.alloc (.cells #[.int .i64 r.f, .int .i64 r.ev, .int .i64 r.ct, .int .i64 r.un, .slice m.a0 r.ds.length m.c0, .slice m.a1 r.da.length m.c1, .slice m.a2 r.mo.length m.c2, .slice m.a3 r.pl.length m.c3, .int .i64 r.wk] 30)).alloc (.cells #[.int .i64 0] 3)) := hW1
  have HB1 : Hid (Below w.heap.size w W1) := hb1
  have HR1 : Hid (RIn W1 r m) := hr.on hb1
  have HS1 : Hid (W1.heap.size = w.heap.size + 2) := hs1
  have HRM : Hid (RMem w r m) := hr.mem
  have HG : Hid (0 < w.heap.size) := hr.tab.lt
  clear hW1 hb1 hs1 hr
  refine callsIn_of_wp_marks Tryd.func32 rfl trivial ?_ rfl
  simp only [Tryd.ntmps32, List.size_toArray, List.length_cons, List.length_nil, Nat.reduceAdd, Nat.reduceSub, Array.replicate_succ, Array.replicate_zero, List.push_toArray, List.append_toArray, List.nil_append, List.cons_append]
  gi_wp2_with fail
  refine ⟨trivial, fun h => (by cases h), ?_⟩
  rw [← HW1.out]
  refine (callsIn_wide.2 (implComingDays r m s fr te W1)).mono ?_
  rintro e w5 ⟨rfl, b5, s5, r5, c5, f5, t5⟩
  have HB5 : Hid (Below W1.heap.size W1 w5) := b5
  have HBw : Hid (Below w.heap.size w w5) := bstep HB1.out b5
  have HR5 : Hid (RIn w5 r m) := HR1.out.on b5
  have HF5 : Hid (CF w5 (w.heap.size + 1) #[.int .i64 0]) := HF1.out.below b5
  have HIT : Hid (ItOwn Fence.wide (n - 1) Tryd.prog 48 #[.pointer (some ⟨W1.heap.size, 0, none⟩), .pointer (some ⟨W1.heap.size + 1, 0, none⟩), .pointer (some ⟨W1.heap.size + 3, 0, none⟩), .pointer (some ⟨W1.heap.size + 2, 0, none⟩)] (fun d : Int => #[.int .i64 d]) (fun pre d => pre ++ [d] <+: comingT r s fr (limT r te)) (ReadB r m W1.heap.size (W1.heap.size + 1) (W1.heap.size + 3) (W1.heap.size + 2))
      (fun xs => xs = comingT r s fr (limT r te)) (fun pre => pre <+: comingT r s fr (limT r te) ∧ pre ≠ []) w5) :=
    itComing implChoosers implCounting (n - 1) r m s fr (limT r te) w5 _ _ _ _ HR5.out.ok HR5.out.l0 HR5.out.l1 HR5.out.l2 HR5.out.l3 h0 h1 HR5.out.mem (fun k hk => HR5.out.mem.blk_lt hk) HR5.out.tab r5 c5 t5 f5
  have HS5 : Hid (w5.heap.size = w.heap.size + 6) := by unfold Hid; rw [s5, HS1.out]
  clear b5 s5 r5 c5 f5 t5
  gi_wp2
  refine wpIn_range_it (F := Fence.wide) rfl (fun h => (by cases h)) (gf := 48) (lb := #[.pointer (some ⟨W1.heap.size, 0, none⟩), .pointer (some ⟨W1.heap.size + 1, 0, none⟩), .pointer (some ⟨W1.heap.size + 3, 0, none⟩), .pointer (some ⟨W1.heap.size + 2, 0, none⟩)]) rfl trivial (enters_of Tryd.func48 (by kernel_rfl) rfl)
    HIT.out (fun j hj => by
      have a1 := HS5.out; have a2 := HS1.out; have a3 := HG.out
      rcases hj with rfl | rfl | rfl | rfl | rfl | h
      · omega
      · omega
      · omega
      · omega
      · omega
      · have := HRM.out.blk_lt h; omega) (Below.refl _ _) (fun _ => rfl)
    (fun pre C A => pre = [] ∧ Below w.heap.size w A ∧ A.cell? ⟨w.heap.size + 1, 0, none⟩ = some (.int .i64 0) ∧ A.frozen? ⟨w.heap.size + 1, 0, none⟩ = false)
    (fun c pre C A => c = .ret ∧ ∃ x : Int, pre = [x] ∧ Below w.heap.size w A ∧ A.cell? ⟨w.heap.size + 1, 0, none⟩ = some (.int .i64 x))
    (fun p C A B h hab => ⟨h.1, (h.2.1).trans (hab.below (by have := HS5.out; omega)), by rw [World.cell?_of_block (w := A) (a := ⟨w.heap.size + 1, 0, none⟩) (hab.block _ (.inl (by show w.heap.size + 1 < _; have := HS5.out; omega)))]; exact h.2.2.1, by rw [World.frozen?_of_block (w := A) (a := ⟨w.heap.size + 1, 0, none⟩) (hab.block _ (.inl (by show w.heap.size + 1 < _; have := HS5.out; omega)))]; exact h.2.2.2⟩)
    (fun c p C A B h hab => ⟨h.1, by obtain ⟨x, h1, h2, h3⟩ := h.2; exact ⟨x, h1, h2.trans (hab.below (by have := HS5.out; omega)), by rw [World.cell?_of_block (w := A) (a := ⟨w.heap.size + 1, 0, none⟩) (hab.block _ (.inl (by show w.heap.size + 1 < _; have := HS5.out; omega)))]; exact h3⟩⟩)
    ⟨rfl, HBw.out, (HF5.out.2 0 _ rfl).1, (HF5.out.2 0 _ rfl).2⟩
    (fun x a' b A => a' = { tmps := #[.agg #[.int .i64 r.f, .int .i64 r.ev, .int .i64 r.ct, .int .i64 r.un, .slice m.a0 r.ds.length m.c0, .slice m.a1 r.da.length m.c1, .slice m.a2 r.mo.length m.c2, .slice m.a3 r.pl.length m.c3, .int .i64 r.wk], .int .i64 s, .int .i64 fr, .int .i64 te, .pointer (some ⟨w.heap.size, 0, none⟩), undef, undef, undef, .pointer (some ⟨w.heap.size + 1, 0, none⟩), .int .i64 x, .agg #[.int .i64 r.f, .int .i64 r.ev, .int .i64 r.ct, .int .i64 r.un, .slice m.a0 r.ds.length m.c0, .slice m.a1 r.da.length m.c1, .slice m.a2 r.mo.length m.c2, .slice m.a3 r.pl.length m.c3, .int .i64 r.wk], .int .i64 s, .int .i64 fr, .int .i64 te, .func (.func 48) #[] #[.pointer (some ⟨W1.heap.size, 0, none⟩), .pointer (some ⟨W1.heap.size + 1, 0, none⟩), .pointer (some ⟨W1.heap.size + 3, 0, none⟩), .pointer (some ⟨W1.heap.size + 2, 0, none⟩)], .int .i64 x, undef], defers := [] })
    (fun x a' b A B h hk => h)
    ?assign ?body ?done ?stop
  case assign =>
    intro l0 x A K hA hK
    gi_wp2
    exact hK _ _ (Below.refl _ A) rfl
  case body =>
    rintro l0 pre x a' b C A hb1 hb2 hC ⟨rfl, hB, hc, hf⟩ rfl hNx
    have HBA : Hid (Below w.heap.size w A) := hB
    have HC : Hid (∀ k, C k → w5.heap.size + 2 ≤ k ∧ k < b) := hC
    clear hB hC
    gi_wp2
    refine ⟨C, fun k hk => .inl hk, fun k hk => ?_, ?_, rfl, x, rfl, HBA.out.setCell (p := ⟨w.heap.size + 1, 0, none⟩) (by show w.heap.size ≤ w.heap.size + 1; omega) _, World.cell?_setCell_same' _ _ _ (by rw [hc]; rfl)⟩
    · show k < (A.heap.modify _ _).size
      rw [Array.size_modify]; have := (HC.out k hk).2; omega
    · refine Rest.setCell A ⟨w.heap.size + 1, 0, none⟩ _ ?_
      intro h
      have a1 := HS5.out; have a2 := HS1.out; have a3 := HG.out
      rcases h with (h | h | h | h | h | h) | h
      · simp only at h; omega
      · simp only at h; omega
      · simp only at h; omega
      · simp only at h; omega
      · simp only at h; omega
      · have := HRM.out.blk_lt h; simp only at this; omega
      · have := h.1; simp only at this; omega
  case done =>
    rintro xs C A hC hS ⟨rfl, hB, hc, hf⟩ hD
    have HBA : Hid (Below w.heap.size w A) := hB
    have HE : Hid (comingT r s fr (limT r te) = []) := hS.symm
    clear hS hB
    gi_wp2
    obtain ⟨A9, hA9⟩ : ∃ A9, A9 = A.setCell ⟨w.heap.size + 1, 0, none⟩ (.int .i64 (-1)) := ⟨_, rfl⟩
    rw [← hA9]
    have hD9 : A9.heap[w5.heap.size]? = some (.deferred (some [])) := by
      rw [hA9]; rw [Below.heap_setCell _ _ _ _ (by have := HS5.out; show w5.heap.size ≠ w.heap.size + 1; omega)]; exact hD
    have hc9 : A9.cell? ⟨w.heap.size + 1, 0, none⟩ = some (.int .i64 (-1)) := by rw [hA9]; exact World.cell?_setCell_same' _ _ _ (by rw [hc]; rfl)
    have hb9 : Below w.heap.size w A9 := by rw [hA9]; exact HBA.out.setCell (p := ⟨w.heap.size + 1, 0, none⟩) (by show w.heap.size ≤ w.heap.size + 1; omega) _
    refine ⟨by simp, .inl ⟨_, _, rfl, run_takeDeferred hD9, ?_⟩⟩
    have hcz : (A9.putObj w5.heap.size (.deferred none)).cell? ⟨w.heap.size + 1, 0, none⟩ = some (.int .i64 (-1)) := by
      rw [World.cell?_of_block (w := A9) (a := ⟨w.heap.size + 1, 0, none⟩) (World.putObj_heap_other (by have := HS5.out; show w.heap.size + 1 ≠ _; omega))]; exact hc9
    have hbz : Below w.heap.size w (A9.putObj w5.heap.size (.deferred none)) := hb9.trans ((Agree.putObj (n := w.heap.size) (C := fun _ => False) A9 w5.heap.size (.deferred none) (by have := HS5.out; omega) (fun h => h)).below (Nat.le_refl _))
    refine ⟨.int .i64 (-1), by simp [results, Tryd.results32, go_sem, hcz], by rw [HE.out]; rfl, hbz⟩
  case stop =>
    rintro c pre C A hC hSp ⟨rfl, x, rfl, hB, hc⟩ hD
    have HBA : Hid (Below w.heap.size w A) := hB
    have HSP : Hid ([x] <+: comingT r s fr (limT r te)) := hSp.1
    clear hSp hB
    gi_wp2
    obtain ⟨A9, hA9⟩ : ∃ A9, A9 = A := ⟨_, rfl⟩
    rw [← hA9]
    have hD9 : A9.heap[w5.heap.size]? = some (.deferred (some [])) := by
      rw [hA9]; exact hD
    have hc9 : A9.cell? ⟨w.heap.size + 1, 0, none⟩ = some (.int .i64 x) := by rw [hA9]; exact hc
    have hb9 : Below w.heap.size w A9 := by rw [hA9]; exact HBA.out
    refine ⟨by simp, .inl ⟨_, _, rfl, run_takeDeferred hD9, ?_⟩⟩
    have hcz : (A9.putObj w5.heap.size (.deferred none)).cell? ⟨w.heap.size + 1, 0, none⟩ = some (.int .i64 x) := by
      rw [World.cell?_of_block (w := A9) (a := ⟨w.heap.size + 1, 0, none⟩) (World.putObj_heap_other (by have := HS5.out; show w.heap.size + 1 ≠ _; omega))]; exact hc9
    have hbz : Below w.heap.size w (A9.putObj w5.heap.size (.deferred none)) := hb9.trans ((Agree.putObj (n := w.heap.size) (C := fun _ => False) A9 w5.heap.size (.deferred none) (by have := HS5.out; omega) (fun h => h)).below (Nat.le_refl _))
    refine ⟨.int .i64 x, by simp [results, Tryd.results32, go_sem, hcz], by obtain ⟨y, hy⟩ := HSP.out; rw [← hy]; rfl, hbz⟩
theorem implFirst (r : Rl) (m : Rm) (s fr te : Int) (w : World) (hr : RIn w r m) (h0 : 0 ≤ s) (h1 : s ≤ 3652058) :
    Calls Tryd.prog 32 #[.agg #[.int .i64 r.f, .int .i64 r.ev, .int .i64 r.ct, .int .i64 r.un, .slice m.a0 r.ds.length m.c0, .slice m.a1 r.da.length m.c1, .slice m.a2 r.mo.length m.c2, .slice m.a3 r.pl.length m.c3, .int .i64 r.wk], .int .i64 s, .int .i64 fr, .int .i64 te] w fun e w' => e = .returned (.int .i64 (firstT (comingT r s fr (limT r te)))) ∧ Below w.heap.size w w' :=
  callsIn_wide.1 (implFirstIn 9 r m s fr te w hr h0 h1)
end Go.Proofs.YtjncaeealmmhmaaDoor
namespace Go.Proofs.YtjncaeealmmhmaaDoor
open Go.RowKit
set_option linter.unusedVariables false
set_option maxRecDepth 100000 in
set_option maxHeartbeats 16000000 in
theorem implRuleOk (f ev ct un : Int) (a0 : Option Addr) (c0 : Nat) (ds : List (Int × Int)) (a1 : Option Addr) (c1 : Nat) (da : List Int) (a2 : Option Addr) (c2 : Nat) (mo : List Int) (a3 : Option Addr) (c3 : Nat) (pl : List Int) (wk : Int) (w : World) (h0 : IsTurns w a0 ds) (h1 : IsInts w a1 da) (h2 : IsInts w a2 mo) (h3 : IsInts w a3 pl) (l0 : ds.length ≤ 2000000) (l1 : da.length ≤ 2000000) (l2 : mo.length ≤ 2000000) (l3 : pl.length ≤ 2000000) : Calls Tryd.prog 46 #[.agg #[.int .i64 f, .int .i64 ev, .int .i64 ct, .int .i64 un, .slice a0 ds.length c0, .slice a1 da.length c1, .slice a2 mo.length c2, .slice a3 pl.length c3, .int .i64 wk]] w fun z w' => z = .returned (.bool (ruB f ev ct un ds da mo pl wk)) ∧ Below w.heap.size w w' := by
  have K : QR w w.heap.size (.int .i64 f) (.int .i64 ev) (.int .i64 ct) (.int .i64 un) (.slice a0 ds.length c0) (.slice a1 da.length c1) (.slice a2 mo.length c2) (.slice a3 pl.length c3) (.int .i64 wk) a0 ds a1 da a2 mo a3 pl (w.alloc (.cells #[.int .i64 f, .int .i64 ev, .int .i64 ct, .int .i64 un, .slice a0 ds.length c0, .slice a1 da.length c1, .slice a2 mo.length c2, .slice a3 pl.length c3, .int .i64 wk] 30)) := QR.new _ h0 h1 h2 h3
  clear h0 h1 h2 h3
  generalize ho : ofB f ev ct un wk = o
  generalize hd : dsB ds (numM f mo.length) = d
  have RU : Hid (ruB f ev ct un ds da mo pl wk = (o && (d && liB f ds.length da mo pl))) := by unfold Hid ruB; rw [ho, hd]
  go_enter Tryd.func46, Tryd.ntmps46
  go_wp2_with fail
  have X := K
  obtain ⟨x0, x1, x2, x3, x4, x5, x6, x7, x8, _⟩ := X
  cases o with
  | false =>
    have HB : Hid (ruB f ev ct un ds da mo pl wk = false) := RU.out.trans (by simp)
    refine (implOftenN _ _ _ _ _ _ _ _ _ _ _ _ _ _ _ _ _ _ _ ho).mono ?_
    rintro e w1 ⟨rfl, b1⟩
    replace K := QR.on K b1
    clear b1 x0 x1 x2 x3 x4 x5 x6 x7 x8
    have X := K
    obtain ⟨x0, x1, x2, x3, x4, x5, x6, x7, x8, _⟩ := X
    go_wp2
    go_ret
    exact ⟨ret_b HB.out.symm, K.b⟩
  | true =>
    refine (implOftenN _ _ _ _ _ _ _ _ _ _ _ _ _ _ _ _ _ _ _ ho).mono ?_
    rintro e w1 ⟨rfl, b1⟩
    replace K := QR.on K b1
    clear b1 x0 x1 x2 x3 x4 x5 x6 x7 x8
    have X := K
    obtain ⟨x0, x1, x2, x3, x4, x5, x6, x7, x8, _⟩ := X
    go_wp2_with fail
    cases d with
    | false =>
      have HB : Hid (ruB f ev ct un ds da mo pl wk = false) := RU.out.trans (by simp)
      refine (implDaysN _ _ _ _ _ _ _ ds _ _ _ da _ _ _ mo _ _ _ pl _ _ (QR.t K) l0 rfl rfl rfl rfl _ hd).mono ?_
      rintro e w1 ⟨rfl, b1⟩
      replace K := QR.on K b1
      clear b1 x0 x1 x2 x3 x4 x5 x6 x7 x8
      have X := K
      obtain ⟨x0, x1, x2, x3, x4, x5, x6, x7, x8, _⟩ := X
      go_wp2
      go_ret
      exact ⟨ret_b HB.out.symm, K.b⟩
    | true =>
      have HB : Hid (ruB f ev ct un ds da mo pl wk = liB f ds.length da mo pl) := RU.out.trans (by simp)
      refine (implDaysN _ _ _ _ _ _ _ ds _ _ _ da _ _ _ mo _ _ _ pl _ _ (QR.t K) l0 rfl rfl rfl rfl _ hd).mono ?_
      rintro e w1 ⟨rfl, b1⟩
      replace K := QR.on K b1
      clear b1 x0 x1 x2 x3 x4 x5 x6 x7 x8
      have X := K
      obtain ⟨x0, x1, x2, x3, x4, x5, x6, x7, x8, _⟩ := X
      go_wp2_with fail
      refine (implLists _ _ _ _ _ _ _ ds _ _ _ da _ _ _ mo _ _ _ pl _ _ (QR.t K) (QR.i1 K) (QR.i2 K) (QR.i3 K) l0 l1 l2 l3 rfl rfl rfl rfl _ _ _ rfl rfl rfl).mono ?_
      rintro e w1 ⟨rfl, b1⟩
      replace K := QR.on K b1
      clear b1 x0 x1 x2 x3 x4 x5 x6 x7 x8
      have X := K
      obtain ⟨x0, x1, x2, x3, x4, x5, x6, x7, x8, _⟩ := X
      go_wp2
      go_ret
      exact ⟨ret_b HB.out.symm, K.b⟩
end Go.Proofs.YtjncaeealmmhmaaDoor
namespace Go.Proofs.YtjncaeealmmhmaaDoor
open Go.RowKit Go.Shelf
set_option linter.unusedVariables false

def ruOf (r : Rl) : Bool := ruB r.f r.ev r.ct r.un r.ds r.da r.mo r.pl r.wk
theorem ru_ok {r : Rl} (h : ruOf r = true) : ROk r ∧ r.ds.length ≤ 8 ∧ r.da.length ≤ 8 ∧ r.mo.length ≤ 8 ∧ r.pl.length ≤ 8 := by
  unfold ruOf ruB at h
  simp only [Bool.and_eq_true] at h
  obtain ⟨h1, h2, h3⟩ := h
  obtain ⟨⟨a0, a1⟩, ⟨a2, a3⟩, ⟨a4, a5⟩, ⟨a6, a7⟩, a8, ⟨a9, a10⟩⟩ := (of_iff _ _ _ _ _).1 h1
  unfold dsB at h2
  unfold liB nuB at h3
  simp only [Bool.and_eq_true, decide_eq_true_eq] at h2 h3
  exact ⟨⟨a0, a1, a2, a3, a4, a5, a6, a7, a9, a10⟩, h2.1, h3.2.2.1.1, h3.2.2.2.1.1, h3.2.2.2.2.1⟩
def mayB (r : Rl) (s d : Int) : Bool := ruOf r && (inB s 0 3652058 && (inB d 0 3652058 && decide (d - s ≤ 11000)))
theorem may_ok {r : Rl} {s d : Int} (h : mayB r s d = true) : ruOf r = true ∧ (0 ≤ s ∧ s ≤ 3652058) ∧ (0 ≤ d ∧ d ≤ 3652058) ∧ d - s ≤ 11000 := by
  unfold mayB at h
  simp only [Bool.and_eq_true, decide_eq_true_eq] at h
  exact ⟨h.1, (in_iff _ _ _).1 h.2.1, (in_iff _ _ _).1 h.2.2.1, h.2.2.2⟩
/-- A rule of any kind in memory. -/
structure RAny (w : World) (r : Rl) (m : Rm) : Prop where
  l0 : r.ds.length ≤ 2000000
  l1 : r.da.length ≤ 2000000
  l2 : r.mo.length ≤ 2000000
  l3 : r.pl.length ≤ 2000000
  mem : RMem w r m
  tab : Tab w
theorem RAny.on {w w' : World} {r : Rl} {m : Rm} (h : RAny w r m) (hb : Below w.heap.size w w') : RAny w' r m := ⟨h.l0, h.l1, h.l2, h.l3, h.mem.below hb, h.tab.on hb⟩
theorem RAny.ok {w : World} {r : Rl} {m : Rm} (h : RAny w r m) (hr : ruOf r = true) : RIn w r m := by
  obtain ⟨a, b, c, d, e⟩ := ru_ok hr
  exact ⟨a, b, c, d, e, h.mem, h.tab⟩
set_option maxHeartbeats 4000000 in
theorem implMayAsk (r : Rl) (m : Rm) (s d : Int) (w : World) (hr : RAny w r m) :
    Calls Tryd.prog 28 #[.agg #[.int .i64 r.f, .int .i64 r.ev, .int .i64 r.ct, .int .i64 r.un, .slice m.a0 r.ds.length m.c0, .slice m.a1 r.da.length m.c1, .slice m.a2 r.mo.length m.c2, .slice m.a3 r.pl.length m.c3, .int .i64 r.wk], .int .i64 s, .int .i64 d] w fun e w' => e = .returned (.bool (mayB r s d)) ∧ Below w.heap.size w w' := by
  obtain ⟨W0, hW0⟩ : ∃ W0, W0 = w.alloc (.cells #[.int .i64 r.f, .int .i64 r.ev, .int .i64 r.ct, .int .i64 r.un, .slice m.a0 r.ds.length m.c0, .slice m.a1 r.da.length m.c1, .slice m.a2 r.mo.length m.c2, .slice m.a3 r.pl.length m.c3, .int .i64 r.wk] 30) := ⟨_, rfl⟩
  have hb0 : Below w.heap.size w W0 := by rw [hW0]; exact (Below.refl _ w).alloc (Nat.le_refl _) _
  have HW0 : Hid (W0 = w.alloc (.cells #[.int .i64 r.f, .int .i64 r.ev, .int .i64 r.ct, .int .i64 r.un, .slice m.a0 r.ds.length m.c0, .slice m.a1 r.da.length m.c1, .slice m.a2 r.mo.length m.c2, .slice m.a3 r.pl.length m.c3, .int .i64 r.wk] 30)) := hW0
  have HB0 : Hid (Below w.heap.size w W0) := hb0
  have hr0 := hr.on hb0
  have HOK : Hid (Calls Tryd.prog 46 #[.agg #[.int .i64 r.f, .int .i64 r.ev, .int .i64 r.ct, .int .i64 r.un, .slice m.a0 r.ds.length m.c0, .slice m.a1 r.da.length m.c1, .slice m.a2 r.mo.length m.c2, .slice m.a3 r.pl.length m.c3, .int .i64 r.wk]] W0 fun z w' => z = .returned (.bool (ruOf r)) ∧ Below W0.heap.size W0 w') := implRuleOk _ _ _ _ _ _ _ _ _ _ _ _ _ _ _ _ _ W0 hr0.mem.t hr0.mem.d hr0.mem.o hr0.mem.p hr0.l0 hr0.l1 hr0.l2 hr0.l3
  clear hW0 hb0 hr0 hr
  cases h1 : ruOf r with
  | false =>
    have HV : Hid (mayB r s d = false) := by unfold Hid mayB; rw [h1]; rfl
    rw [h1] at HOK
    clear h1
    go_enter Tryd.func28, Tryd.ntmps28
    go_wp2_with fail
    rw [← HW0.out]
    refine HOK.out.mono ?_
    rintro e w1 ⟨rfl, b1⟩
    have HB1 : Hid (Below w.heap.size w w1) := bstep HB0.out b1
    clear b1
    go_wp2
    go_ret
    exact ⟨ret_b HV.out.symm, HB1.out⟩
  | true =>
    rw [h1] at HOK
    have HR : Hid (ruOf r = true) := h1
    clear h1
    by_cases hs : 0 ≤ s ∧ s ≤ 3652058
    · by_cases hd : 0 ≤ d ∧ d ≤ 3652058
      · have HV : Hid (mayB r s d = decide (d - s ≤ 11000)) := by unfold Hid mayB; rw [HR.out, (in_iff _ _ _).2 hs, (in_iff _ _ _).2 hd]; rfl
        obtain ⟨s0, s1⟩ := hs
        obtain ⟨d0, d1⟩ := hd
        go_enter Tryd.func28, Tryd.ntmps28
        go_wp2_with fail
        rw [← HW0.out]
        refine HOK.out.mono ?_
        rintro e w1 ⟨rfl, b1⟩
        have HB1 : Hid (Below w.heap.size w w1) := bstep HB0.out b1
        clear b1
        go_wp2_with fail
        refine (implDayR s _ true ((in_iff _ _ _).2 ⟨s0, s1⟩)).mono ?_
        rintro e w2 ⟨rfl, rfl⟩
        go_wp2_with fail
        refine (implDayR d _ true ((in_iff _ _ _).2 ⟨d0, d1⟩)).mono ?_
        rintro e w2 ⟨rfl, rfl⟩
        go_wp2
        go_ret
        exact ⟨ret_b HV.out.symm, HB1.out⟩
      · have HV : Hid (mayB r s d = false) := by unfold Hid mayB; rw [HR.out, (in_iff _ _ _).2 hs, (in_not _ _ _).2 hd]; rfl
        go_enter Tryd.func28, Tryd.ntmps28
        go_wp2_with fail
        rw [← HW0.out]
        refine HOK.out.mono ?_
        rintro e w1 ⟨rfl, b1⟩
        have HB1 : Hid (Below w.heap.size w w1) := bstep HB0.out b1
        clear b1
        go_wp2_with fail
        refine (implDayR s _ true ((in_iff _ _ _).2 hs)).mono ?_
        rintro e w2 ⟨rfl, rfl⟩
        go_wp2_with fail
        refine (implDayR d _ false ((in_not _ _ _).2 hd)).mono ?_
        rintro e w2 ⟨rfl, rfl⟩
        go_wp2
        go_ret
        exact ⟨ret_b HV.out.symm, HB1.out⟩
    · have HV : Hid (mayB r s d = false) := by unfold Hid mayB; rw [HR.out, (in_not _ _ _).2 hs]; rfl
      go_enter Tryd.func28, Tryd.ntmps28
      go_wp2_with fail
      rw [← HW0.out]
      refine HOK.out.mono ?_
      rintro e w1 ⟨rfl, b1⟩
      have HB1 : Hid (Below w.heap.size w w1) := bstep HB0.out b1
      clear b1
      go_wp2_with fail
      refine (implDayR s _ false ((in_not _ _ _).2 hs)).mono ?_
      rintro e w2 ⟨rfl, rfl⟩
      go_wp2
      go_ret
      exact ⟨ret_b HV.out.symm, HB1.out⟩
def onB (r : Rl) (s d : Int) : Bool := mayB r s d && decide (firstT (comingT r s d (limT r d)) = d)
set_option maxHeartbeats 4000000 in
theorem implRuleOn (r : Rl) (m : Rm) (s d : Int) (w : World) (hr : RAny w r m) :
    Calls Tryd.prog 61 #[.agg #[.int .i64 r.f, .int .i64 r.ev, .int .i64 r.ct, .int .i64 r.un, .slice m.a0 r.ds.length m.c0, .slice m.a1 r.da.length m.c1, .slice m.a2 r.mo.length m.c2, .slice m.a3 r.pl.length m.c3, .int .i64 r.wk], .int .i64 s, .int .i64 d] w fun e w' => e = .returned (.bool (onB r s d)) ∧ Below w.heap.size w w' := by
  obtain ⟨W0, hW0⟩ : ∃ W0, W0 = w.alloc (.cells #[.int .i64 r.f, .int .i64 r.ev, .int .i64 r.ct, .int .i64 r.un, .slice m.a0 r.ds.length m.c0, .slice m.a1 r.da.length m.c1, .slice m.a2 r.mo.length m.c2, .slice m.a3 r.pl.length m.c3, .int .i64 r.wk] 30) := ⟨_, rfl⟩
  have hb0 : Below w.heap.size w W0 := by rw [hW0]; exact (Below.refl _ w).alloc (Nat.le_refl _) _
  have HCB : Hid (CB W0 w.heap.size r m) := by unfold Hid; rw [hW0]; exact CB.new w r m _
  have HW0 : Hid (W0 = w.alloc (.cells #[.int .i64 r.f, .int .i64 r.ev, .int .i64 r.ct, .int .i64 r.un, .slice m.a0 r.ds.length m.c0, .slice m.a1 r.da.length m.c1, .slice m.a2 r.mo.length m.c2, .slice m.a3 r.pl.length m.c3, .int .i64 r.wk] 30)) := hW0
  have HB0 : Hid (Below w.heap.size w W0) := hb0
  have HR0 : Hid (RAny W0 r m) := hr.on hb0
  have HM := implMayAsk r m s d W0 HR0.out
  clear hW0 hb0 hr
  cases h1 : mayB r s d with
  | false =>
    have HV : Hid (onB r s d = false) := by unfold Hid onB; rw [h1]; rfl
    rw [h1] at HM
    clear h1
    go_enter Tryd.func61, Tryd.ntmps61
    go_wp2_with fail
    rw [← HW0.out]
    refine HM.mono ?_
    rintro e w1 ⟨rfl, b1⟩
    have HB1 : Hid (Below w.heap.size w w1) := bstep HB0.out b1
    clear b1 HM
    go_wp2
    go_ret
    exact ⟨ret_b HV.out.symm, HB1.out⟩
  | true =>
    have HV : Hid (onB r s d = decide (firstT (comingT r s d (limT r d)) = d)) := by unfold Hid onB; rw [h1]; rfl
    obtain ⟨hru, ⟨s0, s1⟩, ⟨d0, d1⟩, _⟩ := may_ok h1
    have HRU : Hid (ruOf r = true) := hru
    rw [h1] at HM
    clear h1 hru
    go_enter Tryd.func61, Tryd.ntmps61
    go_wp2_with fail
    rw [← HW0.out]
    refine HM.mono ?_
    rintro e w1 ⟨rfl, b1⟩
    have HB1 : Hid (Below w.heap.size w w1) := bstep HB0.out b1
    have HR1 : Hid (RIn w1 r m) := (HR0.out.on b1).ok HRU.out
    obtain ⟨q0, q1, q2, q3, q4, q5, q6, q7, q8⟩ := HCB.out.on (b1.block _ HCB.out.lt)
    clear b1 HM
    go_wp2_with fail
    refine (implFirst r m s d d w1 HR1.out s0 s1).mono ?_
    rintro e w2 ⟨rfl, b2⟩
    have HB2 : Hid (Below w.heap.size w w2) := bstep HB1.out b2
    clear b2 q0 q1 q2 q3 q4 q5 q6 q7 q8
    go_wp2
    go_ret
    exact ⟨ret_b HV.out.symm, HB2.out⟩
def nextV (r : Rl) (s d : Int) : Int := if mayB r s d = true then firstT (comingT r s d (limT r (min (d + 366) (s + 11000)))) else -1
set_option maxHeartbeats 4000000 in
theorem implRuleNext (r : Rl) (m : Rm) (s d : Int) (w : World) (hr : RAny w r m) :
    Calls Tryd.prog 16 #[.agg #[.int .i64 r.f, .int .i64 r.ev, .int .i64 r.ct, .int .i64 r.un, .slice m.a0 r.ds.length m.c0, .slice m.a1 r.da.length m.c1, .slice m.a2 r.mo.length m.c2, .slice m.a3 r.pl.length m.c3, .int .i64 r.wk], .int .i64 s, .int .i64 d] w fun e w' => e = .returned (.int .i64 (nextV r s d)) ∧ Below w.heap.size w w' := by
  obtain ⟨W0, hW0⟩ : ∃ W0, W0 = w.alloc (.cells #[.int .i64 r.f, .int .i64 r.ev, .int .i64 r.ct, .int .i64 r.un, .slice m.a0 r.ds.length m.c0, .slice m.a1 r.da.length m.c1, .slice m.a2 r.mo.length m.c2, .slice m.a3 r.pl.length m.c3, .int .i64 r.wk] 30) := ⟨_, rfl⟩
  have hb0 : Below w.heap.size w W0 := by rw [hW0]; exact (Below.refl _ w).alloc (Nat.le_refl _) _
  have HCB : Hid (CB W0 w.heap.size r m) := by unfold Hid; rw [hW0]; exact CB.new w r m _
  have HW0 : Hid (W0 = w.alloc (.cells #[.int .i64 r.f, .int .i64 r.ev, .int .i64 r.ct, .int .i64 r.un, .slice m.a0 r.ds.length m.c0, .slice m.a1 r.da.length m.c1, .slice m.a2 r.mo.length m.c2, .slice m.a3 r.pl.length m.c3, .int .i64 r.wk] 30)) := hW0
  have HB0 : Hid (Below w.heap.size w W0) := hb0
  have HR0 : Hid (RAny W0 r m) := hr.on hb0
  have HM := implMayAsk r m s d W0 HR0.out
  clear hW0 hb0 hr
  cases h1 : mayB r s d with
  | false =>
    have HV : Hid (nextV r s d = -1) := by unfold Hid nextV; rw [h1]; rfl
    rw [h1] at HM
    clear h1
    go_enter Tryd.func16, Tryd.ntmps16
    go_wp2_with fail
    rw [← HW0.out]
    refine HM.mono ?_
    rintro e w1 ⟨rfl, b1⟩
    have HB1 : Hid (Below w.heap.size w w1) := bstep HB0.out b1
    clear b1 HM
    go_wp2
    go_ret
    exact ⟨ret_i HV.out.symm, HB1.out⟩
  | true =>
    have HV : Hid (nextV r s d = firstT (comingT r s d (limT r (min (d + 366) (s + 11000))))) := by unfold Hid nextV; rw [h1]; rfl
    obtain ⟨hru, ⟨s0, s1⟩, ⟨d0, d1⟩, _⟩ := may_ok h1
    have HRU : Hid (ruOf r = true) := hru
    rw [h1] at HM
    clear h1 hru
    by_cases hmin : d + 366 ≤ s + 11000
    · have HMN : Hid (min (d + 366) (s + 11000) = d + 366) := by unfold Hid; omega
      go_enter Tryd.func16, Tryd.ntmps16
      go_wp2_with fail
      rw [← HW0.out]
      refine HM.mono ?_
      rintro e w1 ⟨rfl, b1⟩
      have HB1 : Hid (Below w.heap.size w w1) := bstep HB0.out b1
      have HR1 : Hid (RIn w1 r m) := (HR0.out.on b1).ok HRU.out
      obtain ⟨q0, q1, q2, q3, q4, q5, q6, q7, q8⟩ := HCB.out.on (b1.block _ HCB.out.lt)
      clear b1 HM
      go_wp2_with fail
      refine (implFirst r m s d _ w1 HR1.out s0 s1).mono ?_
      rintro e w2 ⟨rfl, b2⟩
      have HB2 : Hid (Below w.heap.size w w2) := bstep HB1.out b2
      clear b2 q0 q1 q2 q3 q4 q5 q6 q7 q8
      go_wp2
      go_ret
      exact ⟨ret_i (by rw [HV.out, HMN.out]), HB2.out⟩
    · have HMN : Hid (min (d + 366) (s + 11000) = s + 11000) := by unfold Hid; omega
      go_enter Tryd.func16, Tryd.ntmps16
      go_wp2_with fail
      rw [← HW0.out]
      refine HM.mono ?_
      rintro e w1 ⟨rfl, b1⟩
      have HB1 : Hid (Below w.heap.size w w1) := bstep HB0.out b1
      have HR1 : Hid (RIn w1 r m) := (HR0.out.on b1).ok HRU.out
      obtain ⟨q0, q1, q2, q3, q4, q5, q6, q7, q8⟩ := HCB.out.on (b1.block _ HCB.out.lt)
      clear b1 HM
      go_wp2_with fail
      refine (implFirst r m s d _ w1 HR1.out s0 s1).mono ?_
      rintro e w2 ⟨rfl, b2⟩
      have HB2 : Hid (Below w.heap.size w w2) := bstep HB1.out b2
      clear b2 q0 q1 q2 q3 q4 q5 q6 q7 q8
      go_wp2
      go_ret
      exact ⟨ret_i (by rw [HV.out, HMN.out]), HB2.out⟩
end Go.Proofs.YtjncaeealmmhmaaDoor
namespace Go.Proofs.YtjncaeealmmhmaaDoor
open Go.RowKit Go.Shelf
set_option linter.unusedVariables false

set_option maxHeartbeats 4000000 in
theorem specAsked (r : Rl) (m : Rm) (s d : Int) (w : World) (hr : RAny w r m) :
    Calls Tryd.prog 24 #[.agg #[.int .i64 r.f, .int .i64 r.ev, .int .i64 r.ct, .int .i64 r.un, .slice m.a0 r.ds.length m.c0, .slice m.a1 r.da.length m.c1, .slice m.a2 r.mo.length m.c2, .slice m.a3 r.pl.length m.c3, .int .i64 r.wk], .int .i64 s, .int .i64 d] w fun e w' => e = .returned (.bool (mayB r s d)) ∧ Below w.heap.size w w' := by
  obtain ⟨W0, hW0⟩ : ∃ W0, W0 = w.alloc (.cells #[.int .i64 r.f, .int .i64 r.ev, .int .i64 r.ct, .int .i64 r.un, .slice m.a0 r.ds.length m.c0, .slice m.a1 r.da.length m.c1, .slice m.a2 r.mo.length m.c2, .slice m.a3 r.pl.length m.c3, .int .i64 r.wk] 30) := ⟨_, rfl⟩
  have hb0 : Below w.heap.size w W0 := by rw [hW0]; exact (Below.refl _ w).alloc (Nat.le_refl _) _
  have HW0 : Hid (W0 = w.alloc (.cells #[.int .i64 r.f, .int .i64 r.ev, .int .i64 r.ct, .int .i64 r.un, .slice m.a0 r.ds.length m.c0, .slice m.a1 r.da.length m.c1, .slice m.a2 r.mo.length m.c2, .slice m.a3 r.pl.length m.c3, .int .i64 r.wk] 30)) := hW0
  have HB0 : Hid (Below w.heap.size w W0) := hb0
  have hr0 := hr.on hb0
  have HOK : Hid (Calls Tryd.prog 35 #[.agg #[.int .i64 r.f, .int .i64 r.ev, .int .i64 r.ct, .int .i64 r.un, .slice m.a0 r.ds.length m.c0, .slice m.a1 r.da.length m.c1, .slice m.a2 r.mo.length m.c2, .slice m.a3 r.pl.length m.c3, .int .i64 r.wk]] W0 fun z w' => z = .returned (.bool (ruOf r)) ∧ Below W0.heap.size W0 w') := specRuleOk _ _ _ _ _ _ _ _ _ _ _ _ _ _ _ _ _ W0 hr0.mem.t hr0.mem.d hr0.mem.o hr0.mem.p hr0.l0 hr0.l1 hr0.l2 hr0.l3
  clear hW0 hb0 hr0 hr
  cases h1 : ruOf r with
  | false =>
    have HV : Hid (mayB r s d = false) := by unfold Hid mayB; rw [h1]; rfl
    rw [h1] at HOK
    clear h1
    go_enter Tryd.func24, Tryd.ntmps24
    go_wp2_with fail
    rw [← HW0.out]
    refine HOK.out.mono ?_
    rintro e w1 ⟨rfl, b1⟩
    have HB1 : Hid (Below w.heap.size w w1) := bstep HB0.out b1
    clear b1
    go_wp2
    go_ret
    exact ⟨ret_b HV.out.symm, HB1.out⟩
  | true =>
    rw [h1] at HOK
    have HR : Hid (ruOf r = true) := h1
    clear h1
    cases hs : inB s 0 3652058 with
    | false =>
      have HV : Hid (mayB r s d = false) := by unfold Hid mayB; rw [HR.out, hs]; rfl
      have HS : Hid (inB s 0 3652058 = false) := hs
      clear hs
      go_enter Tryd.func24, Tryd.ntmps24
      go_wp2_with fail
      rw [← HW0.out]
      refine HOK.out.mono ?_
      rintro e w1 ⟨rfl, b1⟩
      have HB1 : Hid (Below w.heap.size w w1) := bstep HB0.out b1
      clear b1
      go_wp2_with fail
      refine (specInR _ _ _ _ false HS.out).mono ?_
      rintro e w2 ⟨rfl, rfl⟩
      go_wp2
      go_ret
      exact ⟨ret_b HV.out.symm, HB1.out⟩
    | true =>
      have hs' := (in_iff _ _ _).1 hs
      have HS : Hid (inB s 0 3652058 = true) := hs
      cases hd : inB d 0 3652058 with
      | false =>
        have HV : Hid (mayB r s d = false) := by unfold Hid mayB; rw [HR.out, hs, hd]; rfl
        have HD : Hid (inB d 0 3652058 = false) := hd
        clear hs hd
        go_enter Tryd.func24, Tryd.ntmps24
        go_wp2_with fail
        rw [← HW0.out]
        refine HOK.out.mono ?_
        rintro e w1 ⟨rfl, b1⟩
        have HB1 : Hid (Below w.heap.size w w1) := bstep HB0.out b1
        clear b1
        go_wp2_with fail
        refine (specInR _ _ _ _ true HS.out).mono ?_
        rintro e w2 ⟨rfl, rfl⟩
        go_wp2_with fail
        refine (specInR _ _ _ _ false HD.out).mono ?_
        rintro e w2 ⟨rfl, rfl⟩
        go_wp2
        go_ret
        exact ⟨ret_b HV.out.symm, HB1.out⟩
      | true =>
        have hd' := (in_iff _ _ _).1 hd
        have HV : Hid (mayB r s d = decide (d - s ≤ 11000)) := by unfold Hid mayB; rw [HR.out, hs, hd]; rfl
        have HD : Hid (inB d 0 3652058 = true) := hd
        clear hs hd
        go_enter Tryd.func24, Tryd.ntmps24
        go_wp2_with fail
        rw [← HW0.out]
        refine HOK.out.mono ?_
        rintro e w1 ⟨rfl, b1⟩
        have HB1 : Hid (Below w.heap.size w w1) := bstep HB0.out b1
        clear b1
        go_wp2_with fail
        refine (specInR _ _ _ _ true HS.out).mono ?_
        rintro e w2 ⟨rfl, rfl⟩
        go_wp2_with fail
        refine (specInR _ _ _ _ true HD.out).mono ?_
        rintro e w2 ⟨rfl, rfl⟩
        go_wp2
        go_ret
        exact ⟨ret_b HV.out.symm, HB1.out⟩
end Go.Proofs.YtjncaeealmmhmaaDoor
namespace Go.Proofs.YtjncaeealmmhmaaDoor
open Go.RowKit Go.Shelf
set_option linter.unusedVariables false

theorem by_bd {r : Rl} (h : ruOf r = true) : ∀ j, j < r.ds.length → -1000 ≤ tAt r.ds j ∧ tAt r.ds j ≤ 1000 := by
  intro j hj
  unfold ruOf ruB at h
  simp only [Bool.and_eq_true] at h
  have h2 := h.2.1
  unfold dsB at h2
  simp only [Bool.and_eq_true] at h2
  have h3 := (dsA_iff _ _).1 h2.2 j hj
  unfold dstB at h3
  simp only [Bool.and_eq_true] at h3
  have h4 := (in_iff _ _ _).1 h3.2.1
  have h5 := numM_in r.f r.mo.length
  omega
theorem lim_le (r : Rl) (d : Int) : limT r d ≤ d := by unfold limT; split <;> omega
theorem tk_most {r : Rl} (hr : ROk r) {s T : Int} (h0 : 0 ≤ s) (h1 : s ≤ 3652058) (hT : T ≤ s + 11500) : tk r.ct (comes r s T) = (comes r s T).take (mostT r 20000).toNat := by
  have hl := @comes_len r hr s T h0 h1
  have c0 := hr.c0; have c1 := hr.c1
  unfold tk mostT
  by_cases hc : r.ct = 0
  · rw [if_pos hc, if_neg (by omega), List.take_of_length_le (by omega)]
  · rw [if_neg hc, if_pos (by omega)]
theorem on_eq {r : Rl} {s d : Int} (h : mayB r s d = true) : decide (firstT (comingT r s d (limT r d)) = d) = hasI ((comes r s (limT r d)).take (mostT r 20000).toNat) d := by
  obtain ⟨hru, ⟨s0, s1⟩, ⟨d0, d1⟩, hds⟩ := may_ok h
  have hr := (ru_ok hru).1
  have hT := lim_le r d
  unfold comingT
  rw [tk_most hr s0 s1 (by omega)]
  obtain ⟨M, hM⟩ : ∃ M, M = (comes r s (limT r d)).take (mostT r 20000).toNat := ⟨_, rfl⟩
  rw [← hM]
  have hle : ∀ x ∈ M, x ≤ d := fun x hx => by
    rw [hM] at hx
    have := comes_mem (List.mem_of_mem_take hx); omega
  rw [Bool.eq_iff_iff]
  unfold hasI
  simp only [decide_eq_true_eq]
  constructor
  · intro e
    unfold firstT at e
    cases hf : M.filter (fun x => decide (d ≤ x)) with
    | nil => rw [hf] at e; simp at e; omega
    | cons y t =>
      rw [hf] at e
      have : y ∈ M.filter (fun x => decide (d ≤ x)) := by rw [hf]; exact List.mem_cons_self ..
      simp at e
      subst e
      exact (List.mem_filter.1 this).1
  · intro hm
    unfold firstT
    have hin : d ∈ M.filter (fun x => decide (d ≤ x)) := List.mem_filter.2 ⟨hm, by simp⟩
    cases hf : M.filter (fun x => decide (d ≤ x)) with
    | nil => rw [hf] at hin; simp at hin
    | cons y t =>
      have hy : y ∈ M.filter (fun x => decide (d ≤ x)) := by rw [hf]; exact List.mem_cons_self ..
      have h2 := List.mem_filter.1 hy
      have h3 := hle y h2.1
      have h4 : d ≤ y := by simpa using h2.2
      show y = d
      omega
set_option maxHeartbeats 4000000 in
theorem specRuleOn (r : Rl) (m : Rm) (s d : Int) (w : World) (hr : RAny w r m) :
    Calls Tryd.prog 57 #[.agg #[.int .i64 r.f, .int .i64 r.ev, .int .i64 r.ct, .int .i64 r.un, .slice m.a0 r.ds.length m.c0, .slice m.a1 r.da.length m.c1, .slice m.a2 r.mo.length m.c2, .slice m.a3 r.pl.length m.c3, .int .i64 r.wk], .int .i64 s, .int .i64 d] w fun e w' => e = .returned (.bool (onB r s d)) ∧ Below w.heap.size w w' := by
  obtain ⟨W0, hW0⟩ : ∃ W0, W0 = w.alloc (.cells #[.int .i64 r.f, .int .i64 r.ev, .int .i64 r.ct, .int .i64 r.un, .slice m.a0 r.ds.length m.c0, .slice m.a1 r.da.length m.c1, .slice m.a2 r.mo.length m.c2, .slice m.a3 r.pl.length m.c3, .int .i64 r.wk] 30) := ⟨_, rfl⟩
  have hb0 : Below w.heap.size w W0 := by rw [hW0]; exact (Below.refl _ w).alloc (Nat.le_refl _) _
  have HCB : Hid (CB W0 w.heap.size r m) := by unfold Hid; rw [hW0]; exact CB.new w r m _
  have HW0 : Hid (W0 = w.alloc (.cells #[.int .i64 r.f, .int .i64 r.ev, .int .i64 r.ct, .int .i64 r.un, .slice m.a0 r.ds.length m.c0, .slice m.a1 r.da.length m.c1, .slice m.a2 r.mo.length m.c2, .slice m.a3 r.pl.length m.c3, .int .i64 r.wk] 30)) := hW0
  have HB0 : Hid (Below w.heap.size w W0) := hb0
  have HR0 : Hid (RAny W0 r m) := hr.on hb0
  have HM := specAsked r m s d W0 HR0.out
  clear hW0 hb0 hr
  cases h1 : mayB r s d with
  | false =>
    have HV : Hid (onB r s d = false) := by unfold Hid onB; rw [h1]; rfl
    rw [h1] at HM
    clear h1
    go_enter Tryd.func57, Tryd.ntmps57
    go_wp2_with fail
    rw [← HW0.out]
    refine HM.mono ?_
    rintro e w1 ⟨rfl, b1⟩
    have HB1 : Hid (Below w.heap.size w w1) := bstep HB0.out b1
    clear b1 HM
    go_wp2
    go_ret
    exact ⟨ret_b HV.out.symm, HB1.out⟩
  | true =>
    have HV : Hid (onB r s d = hasI ((comes r s (limT r d)).take (mostT r 20000).toNat) d) := by unfold Hid onB; rw [h1, Bool.true_and]; exact on_eq h1
    obtain ⟨hru, ⟨s0, s1⟩, ⟨d0, d1⟩, hds⟩ := may_ok h1
    have HRU : Hid (ruOf r = true) := hru
    have hT := lim_le r d
    have hll : ((comes r s (limT r d)).take (mostT r 20000).toNat).length ≤ 4000000 := by
      have := @comes_len r (ru_ok hru).1 s (limT r d) s0 s1
      rw [List.length_take]; omega
    rw [h1] at HM
    clear h1 hru
    go_enter Tryd.func57, Tryd.ntmps57
    go_wp2_with fail
    rw [← HW0.out]
    refine HM.mono ?_
    rintro e w1 ⟨rfl, b1⟩
    have HB1 : Hid (Below w.heap.size w w1) := bstep HB0.out b1
    have HR1 : Hid (RIn w1 r m) := (HR0.out.on b1).ok HRU.out
    obtain ⟨q0, q1, q2, q3, q4, q5, q6, q7, q8⟩ := HCB.out.on (b1.block _ HCB.out.lt)
    clear b1 HM
    go_wp2_with fail
    refine (specDaysL r m s d 20000 w1 HR1.out.ok HR1.out.mem HR1.out.l0 HR1.out.l1 HR1.out.l2 HR1.out.l3 (by_bd HRU.out) s0 s1 (by omega) (by omega)).mono ?_
    rintro e w2 ⟨⟨v, rfl, ov⟩, b2⟩
    have HB2 : Hid (Below w.heap.size w w2) := bstep HB1.out b2
    obtain ⟨M, hM⟩ : ∃ M, M = (comes r s (limT r d)).take (mostT r 20000).toNat := ⟨_, rfl⟩
    rw [← hM] at ov HV hll
    obtain ⟨av, cv, rfl, iv, _, _⟩ := ov.val
    have HIV : Hid (IsInts w2 av M) := iv
    clear b2 q0 q1 q2 q3 q4 q5 q6 q7 q8 ov iv hM
    go_wp2_with fail
    refine (specHas _ _ _ _ _ HIV.out hll _ rfl).mono ?_
    rintro e w3 ⟨rfl, hw3⟩
    rw [hw3]
    clear hw3
    go_wp2
    go_ret
    exact ⟨ret_b HV.out.symm, HB2.out⟩
end Go.Proofs.YtjncaeealmmhmaaDoor
namespace Go.Proofs.YtjncaeealmmhmaaDoor
open Go.RowKit Go.Shelf
set_option linter.unusedVariables false
/-- Whether an event comes at a time, if its beginning may be one. -/
def comesB (e : Ev) (a : Int) : Bool := if noneB e.r = true then decide (a = e.st) else inB a 0 5258964959 && (decide (a % 1440 = e.st % 1440) && onB e.r (e.st / 1440) (a / 1440))
def evB (e : Ev) (a : Int) : Bool := begB e.st && comesB e a
theorem beg_in {x : Int} (h : begB x = true) : 2880 ≤ x ∧ x ≤ 5258941919 := (in_iff _ _ _).1 h
theorem on_ge {r : Rl} {s d : Int} (h : onB r s d = true) : ruOf r = true ∧ (0 ≤ s ∧ s ≤ 3652058) ∧ (0 ≤ d ∧ d ≤ 3652058) ∧ d - s ≤ 11000 ∧ s ≤ d := by
  have h0 := h
  unfold onB at h
  rw [Bool.and_eq_true] at h
  obtain ⟨hm, hf⟩ := h
  obtain ⟨a, b, c, d'⟩ := may_ok hm
  refine ⟨a, b, c, d', ?_⟩
  have hc := (on_eq hm).symm
  rw [hf] at hc
  unfold hasI at hc
  have hm2 : d ∈ (comes r s (limT r d)).take (mostT r 20000).toNat := by simpa using hc
  exact (comes_mem (List.mem_of_mem_take hm2)).1
theorem comes_none {e : Ev} {a : Int} (h : noneB e.r = true) : comesB e a = decide (a = e.st) := by unfold comesB; rw [if_pos h]
theorem comes_rule {e : Ev} {a : Int} (h : noneB e.r = false) : comesB e a = (inB a 0 5258964959 && (decide (a % 1440 = e.st % 1440) && onB e.r (e.st / 1440) (a / 1440))) := by unfold comesB; rw [if_neg (by rw [h]; simp)]
theorem comes_rule2 {e : Ev} {a : Int} (hb : begB e.st = true) (h : noneB e.r = false) : comesB e a = (decide (e.st ≤ a) && (decide (a % 1440 = e.st % 1440) && (inB (a / 1440) (e.st / 1440) (e.st / 1440 + 11000) && onB e.r (e.st / 1440) (a / 1440)))) := by
  rw [comes_rule h]
  obtain ⟨b0, b1⟩ := beg_in hb
  cases ho : onB e.r (e.st / 1440) (a / 1440) with
  | false => simp
  | true =>
    obtain ⟨_, s1, d1, k, l⟩ := on_ge ho
    by_cases hr : a % 1440 = e.st % 1440
    · have h1 : inB a 0 5258964959 = true := (in_iff _ _ _).2 (by omega)
      have h2 : inB (a / 1440) (e.st / 1440) (e.st / 1440 + 11000) = true := (in_iff _ _ _).2 (by omega)
      have h3 : e.st ≤ a := by omega
      rw [h1, h2]
      simp [hr, h3]
    · simp [hr]
set_option maxHeartbeats 8000000 in
theorem implComesAt (e : Ev) (m : Em) (a : Int) (w : World) (hb : begB e.st = true) (hr : RAny w e.r m.r) :
    Calls Tryd.prog 40 #[.agg #[.string e.id, .string e.ti, .string e.zn, .int .i64 e.st, .int .i64 e.lo, .int .i64 e.r.f, .int .i64 e.r.ev, .int .i64 e.r.ct, .int .i64 e.r.un, .slice m.r.a0 e.r.ds.length m.r.c0, .slice m.r.a1 e.r.da.length m.r.c1, .slice m.r.a2 e.r.mo.length m.r.c2, .slice m.r.a3 e.r.pl.length m.r.c3, .int .i64 e.r.wk, .slice m.ao e.ou.length m.co, .slice m.av e.ov.length m.cv], .int .i64 a] w fun z w' => z = .returned (.bool (comesB e a)) ∧ Below w.heap.size w w' := by
  obtain ⟨W0, hW0⟩ : ∃ W0, W0 = w.alloc (.cells #[.string e.id, .string e.ti, .string e.zn, .int .i64 e.st, .int .i64 e.lo, .int .i64 e.r.f, .int .i64 e.r.ev, .int .i64 e.r.ct, .int .i64 e.r.un, .slice m.r.a0 e.r.ds.length m.r.c0, .slice m.r.a1 e.r.da.length m.r.c1, .slice m.r.a2 e.r.mo.length m.r.c2, .slice m.r.a3 e.r.pl.length m.r.c3, .int .i64 e.r.wk, .slice m.ao e.ou.length m.co, .slice m.av e.ov.length m.cv] 45) := ⟨_, rfl⟩
  have hb0 : Below w.heap.size w W0 := by rw [hW0]; exact (Below.refl _ w).alloc (Nat.le_refl _) _
  have HW0 : Hid (W0 = w.alloc (.cells #[.string e.id, .string e.ti, .string e.zn, .int .i64 e.st, .int .i64 e.lo, .int .i64 e.r.f, .int .i64 e.r.ev, .int .i64 e.r.ct, .int .i64 e.r.un, .slice m.r.a0 e.r.ds.length m.r.c0, .slice m.r.a1 e.r.da.length m.r.c1, .slice m.r.a2 e.r.mo.length m.r.c2, .slice m.r.a3 e.r.pl.length m.r.c3, .int .i64 e.r.wk, .slice m.ao e.ou.length m.co, .slice m.av e.ov.length m.cv] 45)) := hW0
  have HC0 : Hid (CF W0 w.heap.size #[.string e.id, .string e.ti, .string e.zn, .int .i64 e.st, .int .i64 e.lo, .int .i64 e.r.f, .int .i64 e.r.ev, .int .i64 e.r.ct, .int .i64 e.r.un, .slice m.r.a0 e.r.ds.length m.r.c0, .slice m.r.a1 e.r.da.length m.r.c1, .slice m.r.a2 e.r.mo.length m.r.c2, .slice m.r.a3 e.r.pl.length m.r.c3, .int .i64 e.r.wk, .slice m.ao e.ou.length m.co, .slice m.av e.ov.length m.cv]) := by unfold Hid; rw [hW0]; exact CF.new _ _ _
  have HB0 : Hid (Below w.heap.size w W0) := hb0
  have HR0 : Hid (RAny W0 e.r m.r) := hr.on hb0
  clear hW0 hb0 hr
  obtain ⟨b0, b1'⟩ := beg_in hb
  cases hn : noneB e.r with
  | true =>
    have HV : Hid (comesB e a = decide (a = e.st)) := comes_none hn
    go_enter Tryd.func40, Tryd.ntmps40
    go_wp2_with fail
    rw [← HW0.out]
    refine (implIsNoRule e.r m.r W0).mono ?_
    rintro z w1 ⟨rfl, b1⟩
    rw [hn]
    have HB1 : Hid (Below w.heap.size w w1) := bstep HB0.out b1
    have x3 := ((HC0.out.below b1).2 3 _ rfl).1
    clear b1 hn
    by_cases hs : a = e.st
    · have HD : Hid (comesB e a = true) := by unfold Hid; rw [HV.out]; exact decide_eq_true hs
      have hs2 : (a == e.st) = true := by simpa using hs
      clear hs
      go_wp2
      go_ret
      exact ⟨ret_b HD.out.symm, HB1.out⟩
    · have HD : Hid (comesB e a = false) := by unfold Hid; rw [HV.out]; exact decide_eq_false hs
      have hs2 : (a == e.st) = false := by simpa using hs
      clear hs
      go_wp2
      go_ret
      exact ⟨ret_b HD.out.symm, HB1.out⟩
  | false =>
    have HV : Hid (comesB e a = (inB a 0 5258964959 && (decide (a % 1440 = e.st % 1440) && onB e.r (e.st / 1440) (a / 1440)))) := comes_rule hn
    go_enter Tryd.func40, Tryd.ntmps40
    go_wp2_with fail
    rw [← HW0.out]
    refine (implIsNoRule e.r m.r W0).mono ?_
    rintro z w1 ⟨rfl, b1⟩
    rw [hn]
    have HB1 : Hid (Below w.heap.size w w1) := bstep HB0.out b1
    have C1 := HC0.out.below b1
    have x3 := (C1.2 3 _ rfl).1
    have x5 := (C1.2 5 _ rfl).1
    have x6 := (C1.2 6 _ rfl).1
    have x7 := (C1.2 7 _ rfl).1
    have x8 := (C1.2 8 _ rfl).1
    have x9 := (C1.2 9 _ rfl).1
    have x10 := (C1.2 10 _ rfl).1
    have x11 := (C1.2 11 _ rfl).1
    have x12 := (C1.2 12 _ rfl).1
    have x13 := (C1.2 13 _ rfl).1
    have HR1 : Hid (RAny w1 e.r m.r) := HR0.out.on b1
    clear b1 hn C1
    cases ht : inB a 0 5258964959 with
    | false =>
      have HD : Hid (comesB e a = false) := by unfold Hid; rw [HV.out, ht]; rfl
      go_wp2_with fail
      refine (implTimeB a w1 false ht).mono ?_
      rintro z w2 ⟨rfl, rfl⟩
      clear ht
      go_wp2
      go_ret
      exact ⟨ret_b HD.out.symm, HB1.out⟩
    | true =>
      go_wp2_with fail
      refine (implTimeB a w1 true ht).mono ?_
      rintro z w2 ⟨rfl, rfl⟩
      obtain ⟨t0, t1⟩ := (in_iff _ _ _).1 ht
      by_cases hm : a % 1440 = e.st % 1440
      · have HD : Hid (comesB e a = onB e.r (e.st / 1440) (a / 1440)) := by unfold Hid; rw [HV.out, ht, decide_eq_true hm]; rfl
        have hm2 : (a % 1440 == e.st % 1440) = true := by simpa using hm
        clear hm ht
        go_wp2_with fail
        refine (implRuleOn e.r m.r (e.st / 1440) (a / 1440) w2 HR1.out).mono ?_
        rintro z w3 ⟨rfl, b3⟩
        have HB3 : Hid (Below w.heap.size w w3) := bstep HB1.out b3
        clear b3
        go_wp2
        go_ret
        exact ⟨ret_b HD.out.symm, HB3.out⟩
      · have HD : Hid (comesB e a = false) := by unfold Hid; rw [HV.out, ht, decide_eq_false hm]; rfl
        have hm2 : (a % 1440 == e.st % 1440) = false := by simpa using hm
        clear hm ht
        go_wp2
        go_ret
        exact ⟨ret_b HD.out.symm, HB1.out⟩
set_option maxHeartbeats 8000000 in
theorem implEventComes (e : Ev) (m : Em) (a : Int) (w : World) (hr : RAny w e.r m.r) :
    Calls Tryd.prog 20 #[.agg #[.string e.id, .string e.ti, .string e.zn, .int .i64 e.st, .int .i64 e.lo, .int .i64 e.r.f, .int .i64 e.r.ev, .int .i64 e.r.ct, .int .i64 e.r.un, .slice m.r.a0 e.r.ds.length m.r.c0, .slice m.r.a1 e.r.da.length m.r.c1, .slice m.r.a2 e.r.mo.length m.r.c2, .slice m.r.a3 e.r.pl.length m.r.c3, .int .i64 e.r.wk, .slice m.ao e.ou.length m.co, .slice m.av e.ov.length m.cv], .int .i64 a] w fun z w' => z = .returned (.bool (evB e a)) ∧ Below w.heap.size w w' := by
  obtain ⟨W0, hW0⟩ : ∃ W0, W0 = w.alloc (.cells #[.string e.id, .string e.ti, .string e.zn, .int .i64 e.st, .int .i64 e.lo, .int .i64 e.r.f, .int .i64 e.r.ev, .int .i64 e.r.ct, .int .i64 e.r.un, .slice m.r.a0 e.r.ds.length m.r.c0, .slice m.r.a1 e.r.da.length m.r.c1, .slice m.r.a2 e.r.mo.length m.r.c2, .slice m.r.a3 e.r.pl.length m.r.c3, .int .i64 e.r.wk, .slice m.ao e.ou.length m.co, .slice m.av e.ov.length m.cv] 45) := ⟨_, rfl⟩
  have hb0 : Below w.heap.size w W0 := by rw [hW0]; exact (Below.refl _ w).alloc (Nat.le_refl _) _
  have HW0 : Hid (W0 = w.alloc (.cells #[.string e.id, .string e.ti, .string e.zn, .int .i64 e.st, .int .i64 e.lo, .int .i64 e.r.f, .int .i64 e.r.ev, .int .i64 e.r.ct, .int .i64 e.r.un, .slice m.r.a0 e.r.ds.length m.r.c0, .slice m.r.a1 e.r.da.length m.r.c1, .slice m.r.a2 e.r.mo.length m.r.c2, .slice m.r.a3 e.r.pl.length m.r.c3, .int .i64 e.r.wk, .slice m.ao e.ou.length m.co, .slice m.av e.ov.length m.cv] 45)) := hW0
  have HC0 : Hid (CF W0 w.heap.size #[.string e.id, .string e.ti, .string e.zn, .int .i64 e.st, .int .i64 e.lo, .int .i64 e.r.f, .int .i64 e.r.ev, .int .i64 e.r.ct, .int .i64 e.r.un, .slice m.r.a0 e.r.ds.length m.r.c0, .slice m.r.a1 e.r.da.length m.r.c1, .slice m.r.a2 e.r.mo.length m.r.c2, .slice m.r.a3 e.r.pl.length m.r.c3, .int .i64 e.r.wk, .slice m.ao e.ou.length m.co, .slice m.av e.ov.length m.cv]) := by unfold Hid; rw [hW0]; exact CF.new _ _ _
  have HB0 : Hid (Below w.heap.size w W0) := hb0
  have HR0 : Hid (RAny W0 e.r m.r) := hr.on hb0
  clear hW0 hb0 hr
  cases hb : begB e.st with
  | false =>
    have HV : Hid (evB e a = false) := by unfold Hid evB; rw [hb]; rfl
    go_enter Tryd.func20, Tryd.ntmps20
    go_wp2_with fail
    rw [← HW0.out]
    refine (implBeg e.st W0 false hb).mono ?_
    rintro z w1 ⟨rfl, rfl⟩
    clear hb
    go_wp2
    go_ret
    exact ⟨ret_b HV.out.symm, HB0.out⟩
  | true =>
    have HV : Hid (evB e a = comesB e a) := by unfold Hid evB; rw [hb]; rfl
    go_enter Tryd.func20, Tryd.ntmps20
    go_wp2_with fail
    rw [← HW0.out]
    refine (implBeg e.st W0 true hb).mono ?_
    rintro z w1 ⟨rfl, rfl⟩
    have C1 := HC0.out
    have x0 := (C1.2 0 _ rfl).1
    have x1 := (C1.2 1 _ rfl).1
    have x2 := (C1.2 2 _ rfl).1
    have x3 := (C1.2 3 _ rfl).1
    have x4 := (C1.2 4 _ rfl).1
    have x5 := (C1.2 5 _ rfl).1
    have x6 := (C1.2 6 _ rfl).1
    have x7 := (C1.2 7 _ rfl).1
    have x8 := (C1.2 8 _ rfl).1
    have x9 := (C1.2 9 _ rfl).1
    have x10 := (C1.2 10 _ rfl).1
    have x11 := (C1.2 11 _ rfl).1
    have x12 := (C1.2 12 _ rfl).1
    have x13 := (C1.2 13 _ rfl).1
    have x14 := (C1.2 14 _ rfl).1
    have x15 := (C1.2 15 _ rfl).1
    clear C1
    go_wp2_with fail
    refine (implComesAt e m a w1 hb HR0.out).mono ?_
    rintro z w2 ⟨rfl, b2⟩
    have HB2 : Hid (Below w.heap.size w w2) := bstep HB0.out b2
    clear hb b2
    go_wp2
    go_ret
    exact ⟨ret_b HV.out.symm, HB2.out⟩
set_option maxHeartbeats 8000000 in
theorem specComesAt (e : Ev) (m : Em) (a : Int) (w : World) (hb : begB e.st = true) (hr : RAny w e.r m.r) (ha : a ≤ 9223372036854775807) :
    Calls Tryd.prog 37 #[.agg #[.string e.id, .string e.ti, .string e.zn, .int .i64 e.st, .int .i64 e.lo, .int .i64 e.r.f, .int .i64 e.r.ev, .int .i64 e.r.ct, .int .i64 e.r.un, .slice m.r.a0 e.r.ds.length m.r.c0, .slice m.r.a1 e.r.da.length m.r.c1, .slice m.r.a2 e.r.mo.length m.r.c2, .slice m.r.a3 e.r.pl.length m.r.c3, .int .i64 e.r.wk, .slice m.ao e.ou.length m.co, .slice m.av e.ov.length m.cv], .int .i64 a] w fun z w' => z = .returned (.bool (comesB e a)) ∧ Below w.heap.size w w' := by
  obtain ⟨W0, hW0⟩ : ∃ W0, W0 = w.alloc (.cells #[.string e.id, .string e.ti, .string e.zn, .int .i64 e.st, .int .i64 e.lo, .int .i64 e.r.f, .int .i64 e.r.ev, .int .i64 e.r.ct, .int .i64 e.r.un, .slice m.r.a0 e.r.ds.length m.r.c0, .slice m.r.a1 e.r.da.length m.r.c1, .slice m.r.a2 e.r.mo.length m.r.c2, .slice m.r.a3 e.r.pl.length m.r.c3, .int .i64 e.r.wk, .slice m.ao e.ou.length m.co, .slice m.av e.ov.length m.cv] 45) := ⟨_, rfl⟩
  have hb0 : Below w.heap.size w W0 := by rw [hW0]; exact (Below.refl _ w).alloc (Nat.le_refl _) _
  have HW0 : Hid (W0 = w.alloc (.cells #[.string e.id, .string e.ti, .string e.zn, .int .i64 e.st, .int .i64 e.lo, .int .i64 e.r.f, .int .i64 e.r.ev, .int .i64 e.r.ct, .int .i64 e.r.un, .slice m.r.a0 e.r.ds.length m.r.c0, .slice m.r.a1 e.r.da.length m.r.c1, .slice m.r.a2 e.r.mo.length m.r.c2, .slice m.r.a3 e.r.pl.length m.r.c3, .int .i64 e.r.wk, .slice m.ao e.ou.length m.co, .slice m.av e.ov.length m.cv] 45)) := hW0
  have HC0 : Hid (CF W0 w.heap.size #[.string e.id, .string e.ti, .string e.zn, .int .i64 e.st, .int .i64 e.lo, .int .i64 e.r.f, .int .i64 e.r.ev, .int .i64 e.r.ct, .int .i64 e.r.un, .slice m.r.a0 e.r.ds.length m.r.c0, .slice m.r.a1 e.r.da.length m.r.c1, .slice m.r.a2 e.r.mo.length m.r.c2, .slice m.r.a3 e.r.pl.length m.r.c3, .int .i64 e.r.wk, .slice m.ao e.ou.length m.co, .slice m.av e.ov.length m.cv]) := by unfold Hid; rw [hW0]; exact CF.new _ _ _
  have HB0 : Hid (Below w.heap.size w W0) := hb0
  have HR0 : Hid (RAny W0 e.r m.r) := hr.on hb0
  clear hW0 hb0 hr
  obtain ⟨b0, b1'⟩ := beg_in hb
  cases hn : noneB e.r with
  | true =>
    have HV : Hid (comesB e a = decide (a = e.st)) := comes_none hn
    go_enter Tryd.func37, Tryd.ntmps37
    go_wp2_with fail
    rw [← HW0.out]
    refine (specNone e.r m.r W0 HR0.out.l0 HR0.out.l1 HR0.out.l2 HR0.out.l3).mono ?_
    rintro z w1 ⟨rfl, b1⟩
    rw [hn]
    have HB1 : Hid (Below w.heap.size w w1) := bstep HB0.out b1
    have x3 := ((HC0.out.below b1).2 3 _ rfl).1
    clear b1 hn
    by_cases hs : a = e.st
    · have HD : Hid (comesB e a = true) := by unfold Hid; rw [HV.out]; exact decide_eq_true hs
      have hs2 : (a == e.st) = true := by simpa using hs
      clear hs
      go_wp2
      go_ret
      exact ⟨ret_b HD.out.symm, HB1.out⟩
    · have HD : Hid (comesB e a = false) := by unfold Hid; rw [HV.out]; exact decide_eq_false hs
      have hs2 : (a == e.st) = false := by simpa using hs
      clear hs
      go_wp2
      go_ret
      exact ⟨ret_b HD.out.symm, HB1.out⟩
  | false =>
    have HV : Hid (comesB e a = (decide (e.st ≤ a) && (decide (a % 1440 = e.st % 1440) && (inB (a / 1440) (e.st / 1440) (e.st / 1440 + 11000) && onB e.r (e.st / 1440) (a / 1440))))) := comes_rule2 hb hn
    go_enter Tryd.func37, Tryd.ntmps37
    go_wp2_with fail
    rw [← HW0.out]
    refine (specNone e.r m.r W0 HR0.out.l0 HR0.out.l1 HR0.out.l2 HR0.out.l3).mono ?_
    rintro z w1 ⟨rfl, b1⟩
    rw [hn]
    have HB1 : Hid (Below w.heap.size w w1) := bstep HB0.out b1
    have C1 := HC0.out.below b1
    have x3 := (C1.2 3 _ rfl).1
    have x5 := (C1.2 5 _ rfl).1
    have x6 := (C1.2 6 _ rfl).1
    have x7 := (C1.2 7 _ rfl).1
    have x8 := (C1.2 8 _ rfl).1
    have x9 := (C1.2 9 _ rfl).1
    have x10 := (C1.2 10 _ rfl).1
    have x11 := (C1.2 11 _ rfl).1
    have x12 := (C1.2 12 _ rfl).1
    have x13 := (C1.2 13 _ rfl).1
    have HR1 : Hid (RAny w1 e.r m.r) := HR0.out.on b1
    clear b1 hn C1
    by_cases hs : e.st ≤ a
    · have a0 : 0 ≤ a := by omega
      by_cases hm : a % 1440 = e.st % 1440
      · have hm2 : (a % 1440 == e.st % 1440) = true := by simpa using hm
        cases hi : inB (a / 1440) (e.st / 1440) (e.st / 1440 + 11000) with
        | false =>
          have HD : Hid (comesB e a = false) := by unfold Hid; rw [HV.out, hi]; simp
          have HI : Hid (inB (a / 1440) (e.st / 1440) (e.st / 1440 + 11000) = false) := hi
          clear hm hi
          go_wp2_with fail
          refine (specInR (a / 1440) (e.st / 1440) (e.st / 1440 + 11000) _ false HI.out).mono ?_
          rintro z w2 ⟨rfl, rfl⟩
          go_wp2
          go_ret
          exact ⟨ret_b HD.out.symm, HB1.out⟩
        | true =>
          have HD : Hid (comesB e a = onB e.r (e.st / 1440) (a / 1440)) := by unfold Hid; rw [HV.out, hi, decide_eq_true hm, decide_eq_true hs]; rfl
          have HI : Hid (inB (a / 1440) (e.st / 1440) (e.st / 1440 + 11000) = true) := hi
          clear hm hi
          go_wp2_with fail
          refine (specInR (a / 1440) (e.st / 1440) (e.st / 1440 + 11000) _ true HI.out).mono ?_
          rintro z w2 ⟨rfl, rfl⟩
          go_wp2_with fail
          refine (specRuleOn e.r m.r (e.st / 1440) (a / 1440) w2 HR1.out).mono ?_
          rintro z w3 ⟨rfl, b3⟩
          have HB3 : Hid (Below w.heap.size w w3) := bstep HB1.out b3
          clear b3
          go_wp2
          go_ret
          exact ⟨ret_b HD.out.symm, HB3.out⟩
      · have HD : Hid (comesB e a = false) := by unfold Hid; rw [HV.out, decide_eq_false hm]; simp
        have hm2 : (a % 1440 == e.st % 1440) = false := by simpa using hm
        clear hm
        go_wp2
        go_ret
        exact ⟨ret_b HD.out.symm, HB1.out⟩
    · have HD : Hid (comesB e a = false) := by unfold Hid; rw [HV.out, decide_eq_false hs]; rfl
      go_wp2
      go_ret
      exact ⟨ret_b HD.out.symm, HB1.out⟩
theorem ev_rule {e : Ev} {a : Int} (hn : noneB e.r = false) (h : ruOf e.r = false) : evB e a = false := by
  unfold evB
  rw [comes_rule hn]
  cases ho : onB e.r (e.st / 1440) (a / 1440) with
  | false => simp
  | true => have := (on_ge ho).1; rw [h] at this; cases this
set_option maxHeartbeats 8000000 in
theorem specEventComes (e : Ev) (m : Em) (a : Int) (w : World) (hr : RAny w e.r m.r) (ha : a ≤ 9223372036854775807) :
    Calls Tryd.prog 18 #[.agg #[.string e.id, .string e.ti, .string e.zn, .int .i64 e.st, .int .i64 e.lo, .int .i64 e.r.f, .int .i64 e.r.ev, .int .i64 e.r.ct, .int .i64 e.r.un, .slice m.r.a0 e.r.ds.length m.r.c0, .slice m.r.a1 e.r.da.length m.r.c1, .slice m.r.a2 e.r.mo.length m.r.c2, .slice m.r.a3 e.r.pl.length m.r.c3, .int .i64 e.r.wk, .slice m.ao e.ou.length m.co, .slice m.av e.ov.length m.cv], .int .i64 a] w fun z w' => z = .returned (.bool (evB e a)) ∧ Below w.heap.size w w' := by
  obtain ⟨W0, hW0⟩ : ∃ W0, W0 = w.alloc (.cells #[.string e.id, .string e.ti, .string e.zn, .int .i64 e.st, .int .i64 e.lo, .int .i64 e.r.f, .int .i64 e.r.ev, .int .i64 e.r.ct, .int .i64 e.r.un, .slice m.r.a0 e.r.ds.length m.r.c0, .slice m.r.a1 e.r.da.length m.r.c1, .slice m.r.a2 e.r.mo.length m.r.c2, .slice m.r.a3 e.r.pl.length m.r.c3, .int .i64 e.r.wk, .slice m.ao e.ou.length m.co, .slice m.av e.ov.length m.cv] 45) := ⟨_, rfl⟩
  have hb0 : Below w.heap.size w W0 := by rw [hW0]; exact (Below.refl _ w).alloc (Nat.le_refl _) _
  have HW0 : Hid (W0 = w.alloc (.cells #[.string e.id, .string e.ti, .string e.zn, .int .i64 e.st, .int .i64 e.lo, .int .i64 e.r.f, .int .i64 e.r.ev, .int .i64 e.r.ct, .int .i64 e.r.un, .slice m.r.a0 e.r.ds.length m.r.c0, .slice m.r.a1 e.r.da.length m.r.c1, .slice m.r.a2 e.r.mo.length m.r.c2, .slice m.r.a3 e.r.pl.length m.r.c3, .int .i64 e.r.wk, .slice m.ao e.ou.length m.co, .slice m.av e.ov.length m.cv] 45)) := hW0
  have HC0 : Hid (CF W0 w.heap.size #[.string e.id, .string e.ti, .string e.zn, .int .i64 e.st, .int .i64 e.lo, .int .i64 e.r.f, .int .i64 e.r.ev, .int .i64 e.r.ct, .int .i64 e.r.un, .slice m.r.a0 e.r.ds.length m.r.c0, .slice m.r.a1 e.r.da.length m.r.c1, .slice m.r.a2 e.r.mo.length m.r.c2, .slice m.r.a3 e.r.pl.length m.r.c3, .int .i64 e.r.wk, .slice m.ao e.ou.length m.co, .slice m.av e.ov.length m.cv]) := by unfold Hid; rw [hW0]; exact CF.new _ _ _
  have HB0 : Hid (Below w.heap.size w W0) := hb0
  have HR0 : Hid (RAny W0 e.r m.r) := hr.on hb0
  clear hW0 hb0 hr
  cases hn : noneB e.r with
  | true =>
    go_enter Tryd.func18, Tryd.ntmps18
    go_wp2_with fail
    rw [← HW0.out]
    refine (specNone e.r m.r W0 HR0.out.l0 HR0.out.l1 HR0.out.l2 HR0.out.l3).mono ?_
    rintro z w1 ⟨rfl, b1⟩
    rw [hn]
    have HBK : Hid (Below w.heap.size w w1) := bstep HB0.out b1
    have C1 := HC0.out.below b1
    have x0 := (C1.2 0 _ rfl).1
    have x1 := (C1.2 1 _ rfl).1
    have x2 := (C1.2 2 _ rfl).1
    have x3 := (C1.2 3 _ rfl).1
    have x4 := (C1.2 4 _ rfl).1
    have x5 := (C1.2 5 _ rfl).1
    have x6 := (C1.2 6 _ rfl).1
    have x7 := (C1.2 7 _ rfl).1
    have x8 := (C1.2 8 _ rfl).1
    have x9 := (C1.2 9 _ rfl).1
    have x10 := (C1.2 10 _ rfl).1
    have x11 := (C1.2 11 _ rfl).1
    have x12 := (C1.2 12 _ rfl).1
    have x13 := (C1.2 13 _ rfl).1
    have x14 := (C1.2 14 _ rfl).1
    have x15 := (C1.2 15 _ rfl).1
    have HRK : Hid (RAny w1 e.r m.r) := HR0.out.on b1
    clear b1 hn C1
    cases hb : begB e.st with
    | false =>
      have HV : Hid (evB e a = false) := by unfold Hid evB; rw [hb]; rfl
      go_wp2_with fail
      refine (specBeg e.st _ false hb).mono ?_
      rintro z w4 ⟨rfl, rfl⟩
      clear hb
      go_wp2
      go_ret
      exact ⟨ret_b HV.out.symm, HBK.out⟩
    | true =>
      have HV : Hid (evB e a = comesB e a) := by unfold Hid evB; rw [hb]; rfl
      go_wp2_with fail
      refine (specBeg e.st _ true hb).mono ?_
      rintro z w4 ⟨rfl, rfl⟩
      go_wp2_with fail
      refine (specComesAt e m a _ hb HRK.out ha).mono ?_
      rintro z w5 ⟨rfl, b5⟩
      have HB5 : Hid (Below w.heap.size w w5) := bstep HBK.out b5
      clear hb b5
      go_wp2
      go_ret
      exact ⟨ret_b HV.out.symm, HB5.out⟩
  | false =>
    have HOK : ∀ w1, Below W0.heap.size W0 w1 → Calls Tryd.prog 35 #[.agg #[.int .i64 e.r.f, .int .i64 e.r.ev, .int .i64 e.r.ct, .int .i64 e.r.un, .slice m.r.a0 e.r.ds.length m.r.c0, .slice m.r.a1 e.r.da.length m.r.c1, .slice m.r.a2 e.r.mo.length m.r.c2, .slice m.r.a3 e.r.pl.length m.r.c3, .int .i64 e.r.wk]] w1 fun z w' => z = .returned (.bool (ruOf e.r)) ∧ Below w1.heap.size w1 w' := fun w1 b1 => by
      have hr0 := HR0.out.on b1
      exact specRuleOk _ _ _ _ _ _ _ _ _ _ _ _ _ _ _ _ _ w1 hr0.mem.t hr0.mem.d hr0.mem.o hr0.mem.p hr0.l0 hr0.l1 hr0.l2 hr0.l3
    go_enter Tryd.func18, Tryd.ntmps18
    go_wp2_with fail
    rw [← HW0.out]
    refine (specNone e.r m.r W0 HR0.out.l0 HR0.out.l1 HR0.out.l2 HR0.out.l3).mono ?_
    rintro z w1 ⟨rfl, b1⟩
    rw [hn]
    have HB1 : Hid (Below w.heap.size w w1) := bstep HB0.out b1
    have C1 := HC0.out.below b1
    have x5 := (C1.2 5 _ rfl).1
    have x6 := (C1.2 6 _ rfl).1
    have x7 := (C1.2 7 _ rfl).1
    have x8 := (C1.2 8 _ rfl).1
    have x9 := (C1.2 9 _ rfl).1
    have x10 := (C1.2 10 _ rfl).1
    have x11 := (C1.2 11 _ rfl).1
    have x12 := (C1.2 12 _ rfl).1
    have x13 := (C1.2 13 _ rfl).1
    have HC1 : Hid (CF w1 w.heap.size #[.string e.id, .string e.ti, .string e.zn, .int .i64 e.st, .int .i64 e.lo, .int .i64 e.r.f, .int .i64 e.r.ev, .int .i64 e.r.ct, .int .i64 e.r.un, .slice m.r.a0 e.r.ds.length m.r.c0, .slice m.r.a1 e.r.da.length m.r.c1, .slice m.r.a2 e.r.mo.length m.r.c2, .slice m.r.a3 e.r.pl.length m.r.c3, .int .i64 e.r.wk, .slice m.ao e.ou.length m.co, .slice m.av e.ov.length m.cv]) := C1
    have HR1 : Hid (RAny w1 e.r m.r) := HR0.out.on b1
    have hok := HOK w1 b1
    clear b1 C1 HOK
    cases hu : ruOf e.r with
    | false =>
      have HV : Hid (evB e a = false) := ev_rule hn hu
      rw [hu] at hok
      go_wp2_with fail
      refine hok.mono ?_
      rintro z w2 ⟨rfl, b2⟩
      have HB2 : Hid (Below w.heap.size w w2) := bstep HB1.out b2
      clear hok hn hu b2
      go_wp2
      go_ret
      exact ⟨ret_b HV.out.symm, HB2.out⟩
    | true =>
      rw [hu] at hok
      go_wp2_with fail
      refine hok.mono ?_
      rintro z w2 ⟨rfl, b2⟩
      have HBK : Hid (Below w.heap.size w w2) := bstep HB1.out b2
      have HRK : Hid (RAny w2 e.r m.r) := HR1.out.on b2
      have C2 := HC1.out.below b2
      clear hok hn hu x5 x6 x7 x8 x9 x10 x11 x12 x13
      have x0 := (C2.2 0 _ rfl).1
      have x1 := (C2.2 1 _ rfl).1
      have x2 := (C2.2 2 _ rfl).1
      have x3 := (C2.2 3 _ rfl).1
      have x4 := (C2.2 4 _ rfl).1
      have x5 := (C2.2 5 _ rfl).1
      have x6 := (C2.2 6 _ rfl).1
      have x7 := (C2.2 7 _ rfl).1
      have x8 := (C2.2 8 _ rfl).1
      have x9 := (C2.2 9 _ rfl).1
      have x10 := (C2.2 10 _ rfl).1
      have x11 := (C2.2 11 _ rfl).1
      have x12 := (C2.2 12 _ rfl).1
      have x13 := (C2.2 13 _ rfl).1
      have x14 := (C2.2 14 _ rfl).1
      have x15 := (C2.2 15 _ rfl).1
      clear b2 C2
      cases hb : begB e.st with
      | false =>
        have HV : Hid (evB e a = false) := by unfold Hid evB; rw [hb]; rfl
        go_wp2_with fail
        refine (specBeg e.st _ false hb).mono ?_
        rintro z w4 ⟨rfl, rfl⟩
        clear hb
        go_wp2
        go_ret
        exact ⟨ret_b HV.out.symm, HBK.out⟩
      | true =>
        have HV : Hid (evB e a = comesB e a) := by unfold Hid evB; rw [hb]; rfl
        go_wp2_with fail
        refine (specBeg e.st _ true hb).mono ?_
        rintro z w4 ⟨rfl, rfl⟩
        go_wp2_with fail
        refine (specComesAt e m a _ hb HRK.out ha).mono ?_
        rintro z w5 ⟨rfl, b5⟩
        have HB5 : Hid (Below w.heap.size w w5) := bstep HBK.out b5
        clear hb b5
        go_wp2
        go_ret
        exact ⟨ret_b HV.out.symm, HB5.out⟩
end Go.Proofs.YtjncaeealmmhmaaDoor
