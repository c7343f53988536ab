/- The program's iterator over days on which something comes. -/
import Derived.Test.YtlfglhpepoepcaaDoorKg
namespace Go.Proofs.YtlfglhpepoepcaaDoor
open Go.RowKit Go.Shelf
set_option linter.unusedVariables false
attribute [local go_sem] Oper.semAt_some

theorem yield_wide {m m' l l0 : Nat} {P : Program} {args : Array Value} {W : World} {R : Ending → World → Prop} (h : YieldAt Fence.wide m P l args W R) : YieldAt (Fence.wide.inRound l0) m' P l args W R := by
  obtain ⟨fn, tmps, assign, body, hy, hR⟩ := h
  exact ⟨fn, tmps, assign, body, hy, hR.1, fun c cs _ => hR.2 c cs (room_wide _)⟩
theorem implPeriodsOf (r : Rl) (m : Rm) (s to : Int) (w : World) : Calls Tryd.prog 58 #[.agg #[.int .i64 r.f, .int .i64 r.ev, .int .i64 r.ct, .int .i64 r.un, .slice m.a0 r.ds.length m.c0, .slice m.a1 r.da.length m.c1, .slice m.a2 r.mo.length m.c2, .slice m.a3 r.pl.length m.c3, .int .i64 r.wk], .int .i64 s, .int .i64 to] w fun e w' => e = .returned (.func (.func 74) #[] #[.pointer (some ⟨w.heap.size, 0, none⟩), .pointer (some ⟨w.heap.size + 1, 0, none⟩), .pointer (some ⟨w.heap.size + 2, 0, none⟩)]) ∧
    w' = ((w.alloc (.cells #[.int .i64 r.f, .int .i64 r.ev, .int .i64 r.ct, .int .i64 r.un, .slice m.a0 r.ds.length m.c0, .slice m.a1 r.da.length m.c1, .slice m.a2 r.mo.length m.c2, .slice m.a3 r.pl.length m.c3, .int .i64 r.wk] 26)).alloc (.cells #[.int .i64 s] 3)).alloc (.cells #[.int .i64 to] 3) := by
  go_enter Tryd.func58, Tryd.ntmps58
  go_wp2
  go_ret
  exact ⟨rfl, rfl⟩
/-- The blocks that the iterator reads and that were there ahead of it. -/
def ReadB (r : Rl) (m : Rm) (Br Bs Bt Bf : Nat) (k : Nat) : Prop := k = Br ∨ k = Bs ∨ k = Bt ∨ k = Bf ∨ k = 0 ∨ m.blk r k
set_option maxRecDepth 100000 in
set_option maxHeartbeats 8000000 in
theorem itComing (HC1 : ChoosersC) (HC2 : CountingC) (n : Nat) (r : Rl) (m : Rm) (s fr to : Int) (w : World) (Br Bs Bt Bf : Nat) (hr : ROk r) (hl0 : r.ds.length ≤ 8) (hl1 : r.da.length ≤ 8) (hl2 : r.mo.length ≤ 8) (hl3 : r.pl.length ≤ 8) (h0 : 0 ≤ s) (h1 : s ≤ 3652058)
    (hm : RMem w r m) (hmb : ∀ k, m.blk r k → k < w.heap.size) (ht : Tab w) (hBr : CB w Br r m) (hBs : w.cell? ⟨Bs, 0, none⟩ = some (.int .i64 s)) (hBt : w.cell? ⟨Bt, 0, none⟩ = some (.int .i64 to)) (hBf : w.cell? ⟨Bf, 0, none⟩ = some (.int .i64 fr)) :
    ItOwn Fence.wide n Tryd.prog 56 #[.pointer (some ⟨Br, 0, none⟩), .pointer (some ⟨Bs, 0, none⟩), .pointer (some ⟨Bt, 0, none⟩), .pointer (some ⟨Bf, 0, none⟩)] (fun d : Int => #[.int .i64 d]) (fun pre d => pre ++ [d] <+: comingT r s fr to) (ReadB r m Br Bs Bt Bf)
      (fun xs => xs = comingT r s fr to) (fun pre => pre <+: comingT r s fr to ∧ pre ≠ []) w := by
  intro l J Jx W hW hJ hJx hY hJ0
  have HBr : Hid (CB W Br r m) := hBr.on (hW.block _ hBr.lt)
  have HBs : Hid (W.cell? ⟨Bs, 0, none⟩ = some (.int .i64 s)) := by unfold Hid; rw [hW.cell (p := ⟨Bs, 0, none⟩) (cell_lt hBs)]; exact hBs
  have HBt : Hid (W.cell? ⟨Bt, 0, none⟩ = some (.int .i64 to)) := by unfold Hid; rw [hW.cell (p := ⟨Bt, 0, none⟩) (cell_lt hBt)]; exact hBt
  have HBf : Hid (W.cell? ⟨Bf, 0, none⟩ = some (.int .i64 fr)) := by unfold Hid; rw [hW.cell (p := ⟨Bf, 0, none⟩) (cell_lt hBf)]; exact hBf
  have HT : Hid (Tab W) := ht.on hW
  have HM : Hid (RMem W r m) := hm.below hW
  have HMB : Hid (∀ k, m.blk r k → k < W.heap.size) := fun k hk => by have := hmb k hk; have := hW.size; omega
  have HJ : Hid (∀ s C A B, J s C A → Agree W.heap.size C A B → J s C B) := hJ
  have HJx : Hid (∀ s C A B, Jx s C A → Agree W.heap.size C A B → Jx s C B) := hJx
  have HY : Hid (ItYield Fence.wide (n - 1) Tryd.prog l (fun d : Int => #[.int .i64 d]) (fun pre d => pre ++ [d] <+: comingT r s fr to) W.heap.size (ReadB r m Br Bs Bt Bf) J Jx) := hY
  have HJ0 : Hid (J [] (fun _ => False) W) := hJ0
  clear hBr hBs hBt hBf ht hm hmb hJ hJx hY hJ0 hW
  -- the yield's box, and what chooses
  obtain ⟨W1, hW1⟩ : ∃ W1, W1 = W.alloc (.cells #[.func (.yield l) #[] #[]] 54) := ⟨_, rfl⟩
  have hs1 : W1.heap.size = W.heap.size + 1 := by rw [hW1]; simp
  have hb1 : Below W.heap.size W W1 := by rw [hW1]; exact (Below.refl _ W).alloc (Nat.le_refl _) _
  have c1 : W1.cell? ⟨W.heap.size, 0, none⟩ = some (.func (.yield l) #[] #[]) := by rw [hW1]; simp
  have HW1 : Hid (W1 = W.alloc (.cells #[.func (.yield l) #[] #[]] 54)) := hW1
  have HR1 : Hid (CB W1 Br r m) := HBr.out.on (hb1.block _ HBr.out.lt)
  have hbl := HBr.out.lt
  obtain ⟨b0, b1, b2, b3, b4, b5, b6, b7, b8⟩ := HBr.out
  have s1 : W.cell? ⟨Bs, 0, none⟩ = some (.int .i64 s) := HBs.out
  have hsl := cell_lt s1
  have H1 : Hid (Below W.heap.size W W1) := hb1
  clear hb1 hW1
  refine callsIn_of_wp_marks Tryd.func56 rfl trivial ?_ rfl
  simp only [Tryd.ntmps56, List.size_toArray, List.length_cons, List.length_nil, Nat.reduceAdd, Nat.reduceSub, Array.replicate_succ, Array.replicate_zero, List.push_toArray, List.append_toArray, List.nil_append, List.cons_append]
  gi_wp2_with fail
  refine ⟨trivial, fun h => (by cases h), ?_⟩
  rw [← HW1.out]
  refine (callsIn_wide.2 (HC1 r m s W1 hr hl0 hl1 hl2 (HM.out.below H1.out) (HT.out.on H1.out) h0 h1)).mono ?_
  rintro e w2 ⟨⟨a, k, cap, rfl, hk8, hch⟩, bb2⟩
  have HCH : Hid (ChR (fun b => m.blk r b ∧ b < W1.heap.size ∨ b = 0 ∨ W1.heap.size ≤ b ∧ b < w2.heap.size) w2 a k r s) := hch
  have hbw : Below W.heap.size W w2 := bstep H1.out bb2
  have H2 : Hid (Below W.heap.size W w2) := hbw
  have hz1 : W.heap.size + 1 ≤ w2.heap.size := by have := bb2.size; omega
  have HR2 : Hid (CB w2 Br r m) := HBr.out.on (hbw.block _ HBr.out.lt)
  have c2 : w2.cell? ⟨W.heap.size, 0, none⟩ = some (.func (.yield l) #[] #[]) := by rw [bb2.cell (p := ⟨W.heap.size, 0, none⟩) (by show W.heap.size < _; omega)]; exact c1
  clear b0 b1 b2 b3 b4 b5 b6 b7 b8 s1 hsl hbl c1 hch bb2
  have hbl := HR2.out.lt
  obtain ⟨b0, b1, b2, b3, b4, b5, b6, b7, b8⟩ := HR2.out
  have s2 : w2.cell? ⟨Bs, 0, none⟩ = some (.int .i64 s) := by rw [hbw.cell (p := ⟨Bs, 0, none⟩) (cell_lt HBs.out)]; exact HBs.out
  have t2 : w2.cell? ⟨Bt, 0, none⟩ = some (.int .i64 to) := by rw [hbw.cell (p := ⟨Bt, 0, none⟩) (cell_lt HBt.out)]; exact HBt.out
  have hsl := cell_lt s2
  have htl := cell_lt t2
  have C2 : Hid (w2.cell? ⟨W.heap.size, 0, none⟩ = some (.func (.yield l) #[] #[])) := c2
  clear hbw c2
  gi_wp2_with fail
  refine ⟨trivial, fun h => (by cases h), ?_⟩
  refine (callsIn_wide.2 (implPeriodsOf r m s to _)).mono ?_
  rintro e w5 ⟨rfl, hw5⟩
  simp only [World.size_alloc] at hw5 ⊢
  obtain ⟨hs5, hb5, k5, n5, n5f, r5, s5, t5⟩ := fiveB w2 m _ w5 hw5
  obtain ⟨z, hz⟩ : ∃ z, z = w2.heap.size := ⟨_, rfl⟩
  rw [← hz] at hs5 k5 n5 n5f r5 s5 t5 hz1 ⊢
  have HB5 : Hid (Below W.heap.size W w5) := bstep H2.out hb5
  have HT5 : Hid (Tab w5) := HT.out.on HB5.out
  have hzW : W.heap.size ≤ w5.heap.size := HB5.out.size
  have HCH5 : Hid (ChR (fun b => m.blk r b ∧ b < W1.heap.size ∨ b = 0 ∨ W1.heap.size ≤ b ∧ b < w2.heap.size) w5 a k r s) := HCH.out.on hb5.size (fun j hj => hb5.block j (by
    rcases hj with hj | hj | hj
    · have := hj.2; omega
    · rw [hj]; exact (HT.out.on H2.out).lt
    · exact hj.2))
  have HK5 : Hid (w5.cell? ⟨z, 0, none⟩ = some (.slice a k cap)) := k5
  have HY5 : Hid (w5.cell? ⟨W.heap.size, 0, none⟩ = some (.func (.yield l) #[] #[])) := by unfold Hid; rw [hb5.cell (p := ⟨W.heap.size, 0, none⟩) (by show W.heap.size < _; omega)]; exact C2.out
  have h00 : InI J r s to fr W w5 z (ReadB r m Br Bs Bt Bf) (AL r s 0) 0 (fun _ => False) w5 := by
    refine ⟨HJ.out _ _ _ _ HJ0.out (Agree.of_below HB5.out (Nat.le_refl _) (fun _ h => h.elim)), ⟨0, n5, n5f, by omega, by omega, fun h => ⟨rfl, h⟩⟩, fun _ _ _ _ => rfl⟩
  have HR5 : Hid (CB w5 (z + 2) r m) := r5
  have HS5 : Hid (w5.cell? ⟨z + 3, 0, none⟩ = some (.int .i64 s)) := s5
  have HT6 : Hid (w5.cell? ⟨z + 4, 0, none⟩ = some (.int .i64 to)) := t5
  have H00 : Hid (InI J r s to fr W w5 z (ReadB r m Br Bs Bt Bf) (AL r s 0) 0 (fun _ => False) w5) := h00
  have HZ : Hid (z = w2.heap.size) := hz
  have hz5 : z + 5 ≤ w5.heap.size := by omega
  have hz6 : w5.heap.size ≤ z + 5 := by omega
  have cellsOf : ∀ A' : World, (∀ j, j < w5.heap.size → j ≠ z + 1 → (ReadB r m Br Bs Bt Bf j ∨ W.heap.size ≤ j) → A'.heap[j]? = w5.heap[j]?) → w5.heap.size ≤ A'.heap.size →
      CB A' Br r m ∧ A'.cell? ⟨Bs, 0, none⟩ = some (.int .i64 s) ∧ A'.cell? ⟨Bt, 0, none⟩ = some (.int .i64 to) ∧ A'.cell? ⟨Bf, 0, none⟩ = some (.int .i64 fr) ∧ A'.cell? ⟨z, 0, none⟩ = some (.slice a k cap) ∧ A'.cell? ⟨W.heap.size, 0, none⟩ = some (.func (.yield l) #[] #[]) ∧ Tab A' ∧ RMem A' r m ∧ ChR (fun b => m.blk r b ∧ b < W1.heap.size ∨ b = 0 ∨ W1.heap.size ≤ b ∧ b < w2.heap.size) A' a k r s := fun A' hfx hsz => by
    have low : ∀ j, j < W.heap.size → ReadB r m Br Bs Bt Bf j → A'.heap[j]? = W.heap[j]? := fun j h1 h2 => (hfx j (by omega) (by omega) (.inl h2)).trans (HB5.out.block j h1)
    refine ⟨HBr.out.on (low _ HBr.out.lt (.inl rfl)), ?_, ?_, ?_, ?_, ?_, HT.out.same (low _ HT.out.lt (.inr (.inr (.inr (.inr (.inl rfl)))))), HM.out.same (by omega) (fun j hj => low j (HMB.out j hj) (.inr (.inr (.inr (.inr (.inr hj)))))), HCH5.out.on hsz (fun j hj => ?_)⟩
    · rw [World.cell?_of_block (w := W) (a := ⟨Bs, 0, none⟩) (low _ (cell_lt HBs.out) (.inr (.inl rfl)))]; exact HBs.out
    · rw [World.cell?_of_block (w := W) (a := ⟨Bt, 0, none⟩) (low _ (cell_lt HBt.out) (.inr (.inr (.inl rfl))))]; exact HBt.out
    · rw [World.cell?_of_block (w := W) (a := ⟨Bf, 0, none⟩) (low _ (cell_lt HBf.out) (.inr (.inr (.inr (.inl rfl)))))]; exact HBf.out
    · rw [World.cell?_of_block (w := w5) (a := ⟨z, 0, none⟩) (hfx z (by omega) (by omega) (.inr (by omega)))]; exact HK5.out
    · rw [World.cell?_of_block (w := w5) (a := ⟨W.heap.size, 0, none⟩) (hfx _ (by show W.heap.size < _; omega) (by show W.heap.size ≠ _; omega) (.inr (Nat.le_refl _)))]; exact HY5.out
    · rcases hj with hj | hj | hj
      · have := HMB.out j hj.1; exact hfx j (by omega) (by omega) (.inl (.inr (.inr (.inr (.inr (.inr hj.1))))))
      · have := HT.out.lt; subst hj; exact hfx _ (by omega) (by omega) (.inl (.inr (.inr (.inr (.inr (.inl rfl))))))
      · have := HZ.out; exact hfx j (by omega) (by omega) (.inr (by omega))
  have CELLS : Hid (∀ A' : World, (∀ j, j < w5.heap.size → j ≠ z + 1 → (ReadB r m Br Bs Bt Bf j ∨ W.heap.size ≤ j) → A'.heap[j]? = w5.heap[j]?) → w5.heap.size ≤ A'.heap.size →
      CB A' Br r m ∧ A'.cell? ⟨Bs, 0, none⟩ = some (.int .i64 s) ∧ A'.cell? ⟨Bt, 0, none⟩ = some (.int .i64 to) ∧ A'.cell? ⟨Bf, 0, none⟩ = some (.int .i64 fr) ∧ A'.cell? ⟨z, 0, none⟩ = some (.slice a k cap) ∧ A'.cell? ⟨W.heap.size, 0, none⟩ = some (.func (.yield l) #[] #[]) ∧ Tab A' ∧ RMem A' r m ∧ ChR (fun b => m.blk r b ∧ b < W1.heap.size ∨ b = 0 ∨ W1.heap.size ≤ b ∧ b < w2.heap.size) A' a k r s) := cellsOf
  clear cellsOf hs5 hw5 hb5 k5 n5 n5f r5 s5 t5 h00 b0 b1 b2 b3 b4 b5 b6 b7 b8 s2 t2 hsl htl hbl hz
  gi_wp2
  refine wpIn_range_it (F := Fence.wide) rfl (fun h => (by cases h)) (gf := 74) (lb := #[.pointer (some ⟨z + 2, 0, none⟩), .pointer (some ⟨z + 3, 0, none⟩), .pointer (some ⟨z + 4, 0, none⟩)]) rfl trivial (enters_of Tryd.func74 (by kernel_rfl) rfl)
    (itPeriods (n - 1) r m s to w5 (z + 2) (z + 3) (z + 4) hr h0 h1 HT5.out HR5.out HS5.out HT6.out) (fun j hj => by
      rcases hj with rfl | rfl | rfl | rfl
      · omega
      · omega
      · omega
      · exact HT5.out.lt) (Below.refl _ _) (fun _ => rfl)
    (fun pre C A => InI J r s to fr W w5 z (ReadB r m Br Bs Bt Bf) (AL r s pre.length) (pre.length * 366) C A)
    (fun c pre C A => c = .ret ∧ ((J (comingT r s fr to) C A) ∨ (∃ p, p <+: comingT r s fr to ∧ p ≠ [] ∧ Jx p C A)))
    (fun p C A B h hab => h.on HJ.out (by omega) hzW hab)
    (fun c p C A B h hab => ⟨h.1, by
      rcases h.2 with h2 | ⟨q, q1, q2, q3⟩
      · exact .inl (HJ.out _ _ _ _ h2 (hab.mono hzW (fun k hk => .inr hk)))
      · exact .inr ⟨q, q1, q2, HJx.out _ _ _ _ q3 (hab.mono hzW (fun k hk => .inr hk))⟩⟩)
    (by simpa using H00.out)
    (fun x a' b A => a' = { tmps := #[.func (.yield l) #[] #[], .pointer (some ⟨Br, 0, none⟩), .pointer (some ⟨Bs, 0, none⟩), .pointer (some ⟨Bt, 0, none⟩), .pointer (some ⟨Bf, 0, none⟩), .pointer (some ⟨W.heap.size, 0, none⟩), .pointer (some ⟨z, 0, none⟩), .pointer (some ⟨z + 1, 0, none⟩), .pointer (some ⟨b, 0, none⟩), undef, undef, .agg #[.int .i64 r.f, .int .i64 r.ev, .int .i64 r.ct, .int .i64 r.un, .slice m.a0 r.ds.length m.c0, .slice m.a1 r.da.length m.c1, .slice m.a2 r.mo.length m.c2, .slice m.a3 r.pl.length m.c3, .int .i64 r.wk], .int .i64 s, .slice a k cap, .agg #[.int .i64 r.f, .int .i64 r.ev, .int .i64 r.ct, .int .i64 r.un, .slice m.a0 r.ds.length m.c0, .slice m.a1 r.da.length m.c1, .slice m.a2 r.mo.length m.c2, .slice m.a3 r.pl.length m.c3, .int .i64 r.wk], .int .i64 s, .int .i64 to, .func (.func 74) #[] #[.pointer (some ⟨z + 1 + 1, 0, none⟩), .pointer (some ⟨z + 1 + 1 + 1, 0, none⟩), .pointer (some ⟨z + 1 + 1 + 2, 0, none⟩)], .agg #[.int .i64 (max (spanF r s (x * r.ev)) 0), .int .i64 (min (spanL r s (x * r.ev)) 3652058)], undef, undef, undef, undef, undef, undef, undef, undef, undef, undef, undef, undef, undef, undef, undef, undef, undef, undef, undef, undef, undef, undef, undef, undef, undef, undef, undef, undef, undef, undef, undef, undef, undef, undef, undef, undef, undef, undef, undef, undef, undef, undef], defers := [] } ∧ A.cell? ⟨b, 0, none⟩ = some (.int .i64 (max (spanF r s (x * r.ev)) 0)) ∧ A.cell? ⟨b, 1, none⟩ = some (.int .i64 (min (spanL r s (x * r.ev)) 3652058)))
    (fun x a' b A B h hk => ⟨h.1, by rw [World.cell?_of_block (w := A) (a := ⟨b, 0, none⟩) (hk b (Nat.le_refl _))]; exact h.2.1, by rw [World.cell?_of_block (w := A) (a := ⟨b, 1, none⟩) (hk b (Nat.le_refl _))]; exact h.2.2⟩)
    ?assign ?body ?done ?stop
  case assign =>
    intro l0 x A K hA hK
    dsimp only [perE]
    gi_wp2
    refine hK _ _ ((Below.refl _ A).alloc (Nat.le_refl _) _) ⟨rfl, by simp, by simp⟩
  case body =>
    intro l0 pre x a' b C A hb1 hb2 hC hI hAx hNx
    obtain ⟨hpre, hx⟩ := hNx
    obtain ⟨rfl, p0, p1⟩ := hAx
    have hpl : pre.length = x := by rw [hpre, List.length_range]
    rw [hpl] at hI
    have HC : Hid (∀ j, C j → w5.heap.size + 2 ≤ j ∧ j < b) := hC
    have HI : Hid (InI J r s to fr W w5 z (ReadB r m Br Bs Bt Bf) (AL r s x) (x * 366) C A) := hI
    have hbA : w5.heap.size ≤ A.heap.size := by omega
    obtain ⟨r1, s1, t1, f1, k1, y1, T1, M1, c1⟩ := CELLS.out A hI.fx hbA
    have HRA : Hid (CB A Br r m) := r1
    have HTA : Hid (Tab A) := T1
    have HMA : Hid (RMem A r m) := M1
    have HCA : Hid (ChR (fun b => m.blk r b ∧ b < W1.heap.size ∨ b = 0 ∨ W1.heap.size ≤ b ∧ b < w2.heap.size) A a k r s) := c1
    obtain ⟨b0, b1, b2, b3, b4, b5, b6, b7, b8⟩ := r1
    have HP : Hid (pre.length = x) := hpl
    have HX : Hid (pre = List.range x) := hpre
    clear hC hI hpl hpre T1 M1 c1
    have hpn := per_n hr (Nat.le_of_lt hx)
    have hin := perN_in hx
    have hln := span_len hr h0 h1 (n := x * r.ev) hpn.1
    have hla : 0 ≤ spanL r s (x * r.ev) := by
      rcases Nat.eq_zero_or_pos x with h | h
      · subst h; have := span_zero hr h0 h1; simp only [Int.natCast_zero, Int.zero_mul] at *; omega
      · have := span_next hr h0 h1 (n := 0) (n' := x * r.ev) (by omega) (Int.mul_pos (by omega) (by have := hr.e0; omega)); have := span_zero hr h0 h1; omega
    have HKA : Hid (∀ j, (m.blk r j ∧ j < W1.heap.size ∨ j = 0 ∨ W1.heap.size ≤ j ∧ j < w2.heap.size) → j < A.heap.size) := fun j hj => by
      have := HZ.out
      rcases hj with h | h | h
      · have := HMB.out j h.1; omega
      · subst h; exact HTA.out.lt
      · omega
    by_cases hct : r.ct = 0
    · by_cases hsk : min (spanL r s (x * r.ev)) 3652058 < fr
      · gi_wp2
        refine ⟨C, fun j hj => .inl hj, fun j hj => by have := (HC.out j hj).2; omega, Rest.refl _ _ _ _, ?_⟩
        have hln : (pre ++ [x]).length = x + 1 := by rw [List.length_append, HP.out]; rfl
        dsimp only
        rw [hln]
        obtain ⟨e1, ⟨c, e2, e3, e4, e5, e6⟩, e7⟩ := HI.out
        exact ⟨by rw [co_skip hsk]; exact e1, ⟨c, e2, e3, e4, by omega, fun h => by omega⟩, e7⟩
      · gi_wp2_with fail
        refine ⟨trivial, fun h => (by cases h), ?_⟩
        have hcd := HC2 r m s _ a k cap (max (spanF r s (x * r.ev)) 0) (min (spanL r s (x * r.ev)) 3652058) A hr hl3 hk8 HMA.out HTA.out HCA.out (fun j hj => HKA.out j hj) (by omega) (by omega) (by omega)
        rw [← choice_clip (by omega) (by omega) (by omega)] at hcd
        rw [hct] at hcd
        refine (CallsIn.inRound l0 (callsIn_wide.2 hcd)).mono ?_
        clear hcd
        rintro e w6 ⟨⟨v, rfl, ov⟩, bb6⟩
        have ov : OI w6 A.heap.size v (chJ r s x) := ov
        have ovl := ov.lt
        obtain ⟨av, cv, rfl, iv, _, _⟩ := ov.val
        have HIV : Hid (IsInts w6 av (chJ r s x)) := iv
        have HOL : Hid (∀ b, av = some b → A.heap.size ≤ b.block ∧ b.block < w6.heap.size) := fun b hb => by subst hb; exact ovl b.block rfl
        have HB6 : Hid (Below A.heap.size A w6) := bb6
        have hs6 : A.heap.size ≤ w6.heap.size := bb6.size
        have hll := chJ_len hr h0 h1 x
        have HI6 : Hid (InI J r s to fr W w5 z (ReadB r m Br Bs Bt Bf) (AL r s x ++ (chJ r s x).take 0) (x * 366 + (0 : Nat)) C w6) := by
          have := HI.out.on HJ.out (by omega) hzW (Agree.of_below bb6 hbA (fun j hj => by have := (HC.out j hj).2; omega))
          unfold Hid; simpa using this
        have fin : ∀ (C3 : Nat → Prop) (W3 : World), (∀ j, C3 j → C j ∨ w6.heap.size ≤ j) → (∀ j, j < w6.heap.size → j ≠ z + 1 → (ReadB r m Br Bs Bt Bf j ∨ W.heap.size ≤ j ∧ ¬ C j) → W3.heap[j]? = w6.heap[j]?) → Agree 0 (fun _ => False) w6 W3 →
            (∀ j, C3 j → C j ∨ A.heap.size ≤ j) ∧ Rest w5.heap.size (fun k => k = z + 2 ∨ k = z + 3 ∨ k = z + 4 ∨ k = 0) C A W3 := fun C3 W3 g1 g2 g3 => by
          refine ⟨fun j hj => by rcases g1 j hj with h | h; exact .inl h; exact .inr (by omega), g3.os.trans HB6.out.os, g3.tape.trans HB6.out.tape, g3.output.trans HB6.out.output, by have := g3.size; omega, fun j hj h => ?_⟩
          have hG := HT.out.lt
          have hnC : ∀ i, i < w5.heap.size + 2 → ¬ C i := fun i hi h => by have := (HC.out i h).1; omega
          rw [g2 j (by omega) (by rcases h with (h | h | h | h) | h <;> omega) (by
            rcases h with (h | h | h | h) | h
            · exact .inr ⟨by omega, hnC j (by omega)⟩
            · exact .inr ⟨by omega, hnC j (by omega)⟩
            · exact .inr ⟨by omega, hnC j (by omega)⟩
            · exact .inl (.inr (.inr (.inr (.inr (.inl h)))))
            · exact .inr ⟨by omega, h.2⟩)]
          exact HB6.out.block j hj
        have FIN : Hid (∀ (C3 : Nat → Prop) (W3 : World), (∀ j, C3 j → C j ∨ w6.heap.size ≤ j) → (∀ j, j < w6.heap.size → j ≠ z + 1 → (ReadB r m Br Bs Bt Bf j ∨ W.heap.size ≤ j ∧ ¬ C j) → W3.heap[j]? = w6.heap[j]?) → Agree 0 (fun _ => False) w6 W3 →
            (∀ j, C3 j → C j ∨ A.heap.size ≤ j) ∧ Rest w5.heap.size (fun k => k = z + 2 ∨ k = z + 3 ∨ k = z + 4 ∨ k = 0) C A W3) := fin
        clear fin
        clear ov ovl iv bb6 b0 b1 b2 b3 b4 b5 b6 b7 b8 s1 t1 f1 k1 y1 p0 p1
        gi_wp2
        gi_loopw [33] (fun i wr => ∃ (q : Nat) (C1 : Nat → Prop), q ≤ (chJ r s x).length ∧ i = .int .i64 q ∧ InI J r s to fr W w5 z (ReadB r m Br Bs Bt Bf) (AL r s x ++ (chJ r s x).take q) (x * 366 + q) C1 wr ∧ (∀ j, C1 j → C j ∨ w6.heap.size ≤ j) ∧ (∀ j, C1 j → j < wr.heap.size) ∧ w6.heap.size ≤ wr.heap.size ∧ (∀ j, j < w6.heap.size → j ≠ z + 1 → (ReadB r m Br Bs Bt Bf j ∨ W.heap.size ≤ j ∧ ¬ C j) → wr.heap[j]? = w6.heap[j]?) ∧ Agree 0 (fun _ => False) w6 wr)
          (fun i _ => (chJ r s x).length - (intOf i).toNat)
        case atStart => exact ⟨0, C, Nat.zero_le _, rfl, HI6.out, fun j hj => .inl hj, fun j hj => by have := (HC.out j hj).2; omega, Nat.le_refl _, fun _ _ _ _ => rfl, Agree.refl _ _ _⟩
        case round =>
          obtain ⟨q, C1, hq, rfl, hin, hC1, hC2, hs7, hkeep, hag⟩ := hrel
          have HIN : Hid (InI J r s to fr W w5 z (ReadB r m Br Bs Bt Bf) (AL r s x ++ (chJ r s x).take q) (x * 366 + q) C1 wr) := hin
          have HK1 : Hid (∀ j, C1 j → C j ∨ w6.heap.size ≤ j) := hC1
          have HK2 : Hid (∀ j, C1 j → j < wr.heap.size) := hC2
          have HKP : Hid (∀ j, j < w6.heap.size → j ≠ z + 1 → (ReadB r m Br Bs Bt Bf j ∨ W.heap.size ≤ j ∧ ¬ C j) → wr.heap[j]? = w6.heap[j]?) := hkeep
          have HAG : Hid (Agree 0 (fun _ => False) w6 wr) := hag
          clear hC1 hC2 hkeep hag
          by_cases hlt : q < (chJ r s x).length
          · have hin := HIN.out
            have hsw : w5.heap.size ≤ wr.heap.size := by omega
            obtain ⟨r1, s1, t1, f1, k1, y1, T1, M1, c1⟩ := CELLS.out wr hin.fx hsw
            obtain ⟨b0, b1, b2, b3, b4, b5, b6, b7, b8⟩ := r1
            obtain ⟨c, n1, n2, n3, n4, n5⟩ := hin.c
            have hbl := cell_lt b0
            have HN5 : Hid (0 < r.ct → c = ((XF s to (AL r s x ++ (chJ r s x).take q)).length : Int) ∧ c < r.ct) := n5
            have hxb := perN_le r s to
            have hcb : c ≤ 1400000000 := by omega
            obtain ⟨d, hd⟩ : ∃ d, d = gi (chJ r s x) q := ⟨_, rfl⟩
            have hdm := choice_mem (show d ∈ chJ r s x by rw [hd]; exact gi_mem hlt)
            have HD : Hid (d = gi (chJ r s x) q) := hd
            have HXN : Hid (AL r s x ++ (chJ r s x).take (q + 1) = (AL r s x ++ (chJ r s x).take q) ++ [d]) := by unfold Hid; rw [take_snoc hlt, ← List.append_assoc, hd]
            have e0 : ∃ bL oL, av = some ⟨bL, oL, none⟩ ∧ wr.cell? ⟨bL, oL + q, none⟩ = some (.int .i64 d) := by
              rcases HIV.out with h | ⟨bL, oL, h1, h2, h3⟩
              · rw [h] at hlt; simp at hlt
              · have hb : A.heap.size ≤ bL := (HOL.out _ h1).1
                refine ⟨bL, oL, h1, ?_⟩
                rw [World.cell?_of_block (w := w6) (a := ⟨bL, oL + q, none⟩) (HKP.out bL h2 (by omega) (.inr ⟨by omega, fun h => by have := (HC.out _ h).2; omega⟩)), hd]
                exact h3 q hlt
            obtain ⟨bL, oL, hav, cL⟩ := e0
            subst hav
            have hi1 : (q : Int) < ((chJ r s x).length : Int) := by omega
            have hi0 : (0 : Int) ≤ (q : Int) := by omega
            have ne1 : Br ≠ z + 1 := by have := HBr.out.lt; omega
            have ne2 : Bf ≠ z + 1 := by have := cell_lt HBf.out; omega
            have ne3 : W.heap.size ≠ z + 1 := by omega
            have hCz : ¬ C1 (z + 1) := fun h => by
              rcases HK1.out _ h with h | h
              · have := (HC.out _ h).1; omega
              · omega
            have HCZ : Hid (¬ C1 (z + 1)) := hCz
            clear hin T1 M1 c1 k1 hCz n5 hd
            by_cases ha : d < s
            · gi_wp2
              go_roundw
              case rel =>
                refine ⟨q + 1, C1, by omega, by go_num, ?_, HK1.out, HK2.out, hs7, HKP.out, HAG.out⟩
                obtain ⟨i1, i2, i3⟩ := HIN.out
                rw [HXN.out]
                refine ⟨by rw [YF_no (by omega)]; exact i1, ⟨c, n1, n2, n3, by omega, fun h => ?_⟩, i3⟩
                rw [XF_no (by omega)]; exact HN5.out h
              case measure => simp [intOf]; omega
            · by_cases hb : to < d
              · gi_wp2
                obtain ⟨g1, g2⟩ := FIN.out C1 wr HK1.out HKP.out HAG.out
                refine ⟨C1, g1, HK2.out, g2, rfl, .inl ?_⟩
                rw [← co_stop hr h0 h1 hx hlt (by rw [← HD.out]; exact hb) (fun h => by have := HN5.out h; omega)]
                exact HIN.out.j
              · obtain ⟨wc, hwc⟩ : ∃ wc, wc = wr.setCell ⟨z + 1, 0, none⟩ (.int .i64 (c + 1)) := ⟨_, rfl⟩
                have HWC : Hid (wc = wr.setCell ⟨z + 1, 0, none⟩ (.int .i64 (c + 1))) := hwc
                have hsc : wc.heap.size = wr.heap.size := by rw [hwc]; show (wr.heap.modify _ _).size = _; rw [Array.size_modify]
                have hoc : ∀ j, j ≠ z + 1 → wc.heap[j]? = wr.heap[j]? := fun j hj => by rw [hwc]; exact Below.heap_setCell wr ⟨z + 1, 0, none⟩ _ j hj
                have HCC : Hid (wc.cell? ⟨z + 1, 0, none⟩ = some (.int .i64 (c + 1)) ∧ wc.frozen? ⟨z + 1, 0, none⟩ = false) := by
                  unfold Hid; rw [hwc]; exact ⟨World.cell?_setCell_same' _ _ _ (by rw [n1]; rfl), by rw [World.frozen?_setCell]; exact n2⟩
                have HOC : Hid (∀ j, j ≠ z + 1 → wc.heap[j]? = wr.heap[j]?) := hoc
                have HAC : Hid (Agree W.heap.size C1 wr wc) := by unfold Hid; rw [hwc]; exact Agree.setCell wr ⟨z + 1, 0, none⟩ _ (by show W.heap.size ≤ z + 1; omega) HCZ.out
                have HAG2 : Hid (Agree 0 (fun _ => False) w6 wc) := HAG.out.trans (HAC.out.mono (by omega) (fun j h => h.elim))
                have HLEN : Hid (((XF s to (AL r s x ++ (chJ r s x).take (q + 1))).length : Int) = ((XF s to (AL r s x ++ (chJ r s x).take q)).length : Int) + 1) := by
                  unfold Hid; rw [HXN.out, XF_yes (by omega) (by omega)]; simp
                have NEXT : Hid (∀ (C' : Nat → Prop) (W3 : World), (∀ j, C' j → C1 j ∨ wc.heap.size ≤ j) → Rest W.heap.size (ReadB r m Br Bs Bt Bf) C1 wc W3 → (∀ j, C' j → C j ∨ w6.heap.size ≤ j) ∧ (∀ j, j < w6.heap.size → j ≠ z + 1 → (ReadB r m Br Bs Bt Bf j ∨ W.heap.size ≤ j ∧ ¬ C j) → W3.heap[j]? = w6.heap[j]?) ∧ Agree 0 (fun _ => False) w6 W3 ∧ W3.cell? ⟨z + 1, 0, none⟩ = some (.int .i64 (c + 1)) ∧ W3.frozen? ⟨z + 1, 0, none⟩ = false ∧ (∀ j, j < w5.heap.size → j ≠ z + 1 → (ReadB r m Br Bs Bt Bf j ∨ W.heap.size ≤ j) → W3.heap[j]? = w5.heap[j]?)) := fun C' W3 g1 g2 => by
                  have hg := g2.size
                  have hk3 : ∀ j, j < w6.heap.size → j ≠ z + 1 → (ReadB r m Br Bs Bt Bf j ∨ W.heap.size ≤ j ∧ ¬ C j) → W3.heap[j]? = w6.heap[j]? := fun j a1 a2 a3 =>
                    (g2.block j (by omega) (by
                      rcases a3 with a3 | a3
                      · exact .inl a3
                      · refine .inr ⟨a3.1, fun h => ?_⟩
                        rcases HK1.out j h with h' | h'
                        · exact a3.2 h'
                        · omega)).trans ((HOC.out j a2).trans (HKP.out j a1 a2 a3))
                  have hzz : W3.heap[z + 1]? = wc.heap[z + 1]? := g2.block _ (by omega) (.inr ⟨by omega, HCZ.out⟩)
                  refine ⟨fun j hj => ?_, hk3, HAG2.out.trans ⟨g2.os, g2.tape, g2.output, hg, fun k hk => by rcases hk with hk | hk; omega; exact hk.elim⟩, ?_, ?_, fun j a1 a2 a3 => ?_⟩
                  · rcases g1 j hj with h | h
                    · exact HK1.out j h
                    · exact .inr (by omega)
                  · rw [World.cell?_of_block (w := wc) (a := ⟨z + 1, 0, none⟩) hzz]; exact HCC.out.1
                  · rw [World.frozen?_of_block (w := wc) (a := ⟨z + 1, 0, none⟩) hzz]; exact HCC.out.2
                  · refine (g2.block j (by omega) ?_).trans ((HOC.out j a2).trans (HIN.out.fx j a1 a2 a3))
                    rcases a3 with a3 | a3
                    · exact .inl a3
                    · refine .inr ⟨a3, fun h => ?_⟩
                      rcases HK1.out j h with h' | h'
                      · have := (HC.out j h').1; omega
                      · omega
                clear hwc hoc
                by_cases hfr : fr ≤ d
                · have HYX : Hid (YF s to fr (AL r s x ++ (chJ r s x).take (q + 1)) = YF s to fr (AL r s x ++ (chJ r s x).take q) ++ [d]) := by unfold Hid; rw [HXN.out, YF_yes (by omega) (by omega) hfr]
                  have HPX : Hid (YF s to fr (AL r s x ++ (chJ r s x).take q) ++ [d] <+: comingT r s fr to) := by unfold Hid; rw [HD.out]; exact co_next hr hx hlt (by rw [← HD.out]; omega) (by rw [← HD.out]; omega) (by rw [← HD.out]; exact hfr) (fun h => by have := HN5.out h; omega)
                  obtain ⟨fn, tmps, assign, body, hy, hR⟩ := yield_wide (l0 := l0) (m' := n - 1 - 1 - 1) (HY.out (YF s to fr (AL r s x ++ (chJ r s x).take q)) d C1 wc (by omega) (fun j hj => ⟨by
                    rcases HK1.out _ hj with h | h
                    · have := (HC.out _ h).1; omega
                    · omega, by rw [hsc]; exact HK2.out j hj⟩) (HJ.out _ _ _ _ HIN.out.j HAC.out) HPX.out)
                  rw [HWC.out] at hy
                  dsimp only at hy
                  gi_wp2
                  refine ⟨fun h => (by cases h), ?_⟩
                  rw [← HWC.out]
                  refine hR.mono ?_
                  rintro e W3 ⟨C', hC1', hC2', hrest, hend⟩
                  obtain ⟨v1, v2, v3, v4, v5, v6⟩ := NEXT.out C' W3 hC1' hrest
                  have hsz3 : w5.heap.size ≤ W3.heap.size := by have := hrest.size; omega
                  have hbr3 := (CELLS.out W3 v6 hsz3).1.2.2.1
                  have V1 : Hid (∀ j, C' j → C j ∨ w6.heap.size ≤ j) := v1
                  have V2 : Hid (∀ j, j < w6.heap.size → j ≠ z + 1 → (ReadB r m Br Bs Bt Bf j ∨ W.heap.size ≤ j ∧ ¬ C j) → W3.heap[j]? = w6.heap[j]?) := v2
                  have V3 : Hid (Agree 0 (fun _ => False) w6 W3) := v3
                  have V6 : Hid (∀ j, j < w5.heap.size → j ≠ z + 1 → (ReadB r m Br Bs Bt Bf j ∨ W.heap.size ≤ j) → W3.heap[j]? = w5.heap[j]?) := v6
                  have V7 : Hid (∀ j, C' j → j < W3.heap.size) := hC2'
                  have hs8 : w6.heap.size ≤ W3.heap.size := by have := hrest.size; omega
                  clear v1 v2 v3 v6 hC1' hC2' hrest
                  rcases hend with ⟨rfl, hJ3⟩ | ⟨rfl, hJx3⟩
                  · rw [← HYX.out] at hJ3
                    have HJ3 : Hid (J (YF s to fr (AL r s x ++ (chJ r s x).take (q + 1))) C' W3) := hJ3
                    clear hJ3
                    by_cases hfull : c + 1 = r.ct
                    · exfalso; omega
                    · have hfull' : ¬ c + 1 = 0 := by omega
                      gi_wp2
                      go_roundw
                      case rel =>
                        refine ⟨q + 1, C', by omega, by go_num, ⟨HJ3.out, ⟨c + 1, v4, v5, by omega, by omega, fun h => ?_⟩, V6.out⟩, V1.out, V7.out, hs8, V2.out, V3.out⟩
                        have := HLEN.out; have := HN5.out h; omega
                      case measure => simp [intOf]; omega
                  · have HJ3 : Hid (Jx (YF s to fr (AL r s x ++ (chJ r s x).take q) ++ [d]) C' W3) := hJx3
                    clear hJx3
                    gi_wp2
                    obtain ⟨g1, g2⟩ := FIN.out C' W3 V1.out V2.out V3.out
                    exact ⟨C', g1, V7.out, g2, rfl, .inr ⟨_, HPX.out, by simp, HJ3.out⟩⟩
                · have HYX : Hid (YF s to fr (AL r s x ++ (chJ r s x).take (q + 1)) = YF s to fr (AL r s x ++ (chJ r s x).take q)) := by unfold Hid; rw [HXN.out, YF_no (by omega)]
                  have HJ3 : Hid (J (YF s to fr (AL r s x ++ (chJ r s x).take (q + 1))) C1 wc) := by unfold Hid; rw [HYX.out]; exact HJ.out _ _ _ _ HIN.out.j HAC.out
                  obtain ⟨v1, v2, v3, v4, v5, v6⟩ := NEXT.out C1 wc (fun j hj => .inl hj) (Rest.refl _ _ _ _)
                  have V2 : Hid (∀ j, j < w6.heap.size → j ≠ z + 1 → (ReadB r m Br Bs Bt Bf j ∨ W.heap.size ≤ j ∧ ¬ C j) → wc.heap[j]? = w6.heap[j]?) := v2
                  have V3 : Hid (Agree 0 (fun _ => False) w6 wc) := v3
                  have V4 : Hid (wc.cell? ⟨z + 1, 0, none⟩ = some (.int .i64 (c + 1))) := v4
                  have V5 : Hid (wc.frozen? ⟨z + 1, 0, none⟩ = false) := v5
                  have V6 : Hid (∀ j, j < w5.heap.size → j ≠ z + 1 → (ReadB r m Br Bs Bt Bf j ∨ W.heap.size ≤ j) → wc.heap[j]? = w5.heap[j]?) := v6
                  have V7 : Hid (∀ j, C1 j → j < wc.heap.size) := fun j hj => by rw [hsc]; exact HK2.out j hj
                  clear v1 v2 v3 v4 v5 v6
                  by_cases hfull : c + 1 = r.ct
                  · exfalso; omega
                  · have hfull' : ¬ c + 1 = 0 := by omega
                    gi_wp2
                    refine ⟨fun _ h => (by cases h), ?_⟩
                    gi_wp2
                    rw [← HWC.out]
                    go_roundw
                    case rel =>
                      refine ⟨q + 1, C1, by omega, by go_num, ⟨HJ3.out, ⟨c + 1, V4.out, V5.out, by omega, by omega, fun h => ?_⟩, V6.out⟩, HK1.out, V7.out, by omega, V2.out, V3.out⟩
                      have := HLEN.out; have := HN5.out h; omega
                    case measure => simp [intOf]; omega
          · have hqe : q = (chJ r s x).length := by omega
            clear hin
            gi_wp2
            obtain ⟨g1, g2⟩ := FIN.out C1 wr HK1.out HKP.out HAG.out
            refine ⟨C1, g1, HK2.out, g2, ?_⟩
            have hln : (pre ++ [x]).length = x + 1 := by rw [List.length_append, HP.out]; rfl
            dsimp only
            rw [hln, AL_succ]
            obtain ⟨i1, ⟨c, i2, i3, i4, i5, i6⟩, i7⟩ := HIN.out
            rw [hqe, List.take_length] at i1 i6
            exact ⟨i1, ⟨c, i2, i3, i4, by omega, i6⟩, i7⟩
    · gi_wp2_with fail
      refine ⟨trivial, fun h => (by cases h), ?_⟩
      have hcd := HC2 r m s _ a k cap (max (spanF r s (x * r.ev)) 0) (min (spanL r s (x * r.ev)) 3652058) A hr hl3 hk8 HMA.out HTA.out HCA.out (fun j hj => HKA.out j hj) (by omega) (by omega) (by omega)
      rw [← choice_clip (by omega) (by omega) (by omega)] at hcd
      skip
      refine (CallsIn.inRound l0 (callsIn_wide.2 hcd)).mono ?_
      clear hcd
      rintro e w6 ⟨⟨v, rfl, ov⟩, bb6⟩
      have ov : OI w6 A.heap.size v (chJ r s x) := ov
      have ovl := ov.lt
      obtain ⟨av, cv, rfl, iv, _, _⟩ := ov.val
      have HIV : Hid (IsInts w6 av (chJ r s x)) := iv
      have HOL : Hid (∀ b, av = some b → A.heap.size ≤ b.block ∧ b.block < w6.heap.size) := fun b hb => by subst hb; exact ovl b.block rfl
      have HB6 : Hid (Below A.heap.size A w6) := bb6
      have hs6 : A.heap.size ≤ w6.heap.size := bb6.size
      have hll := chJ_len hr h0 h1 x
      have HI6 : Hid (InI J r s to fr W w5 z (ReadB r m Br Bs Bt Bf) (AL r s x ++ (chJ r s x).take 0) (x * 366 + (0 : Nat)) C w6) := by
        have := HI.out.on HJ.out (by omega) hzW (Agree.of_below bb6 hbA (fun j hj => by have := (HC.out j hj).2; omega))
        unfold Hid; simpa using this
      have fin : ∀ (C3 : Nat → Prop) (W3 : World), (∀ j, C3 j → C j ∨ w6.heap.size ≤ j) → (∀ j, j < w6.heap.size → j ≠ z + 1 → (ReadB r m Br Bs Bt Bf j ∨ W.heap.size ≤ j ∧ ¬ C j) → W3.heap[j]? = w6.heap[j]?) → Agree 0 (fun _ => False) w6 W3 →
          (∀ j, C3 j → C j ∨ A.heap.size ≤ j) ∧ Rest w5.heap.size (fun k => k = z + 2 ∨ k = z + 3 ∨ k = z + 4 ∨ k = 0) C A W3 := fun C3 W3 g1 g2 g3 => by
        refine ⟨fun j hj => by rcases g1 j hj with h | h; exact .inl h; exact .inr (by omega), g3.os.trans HB6.out.os, g3.tape.trans HB6.out.tape, g3.output.trans HB6.out.output, by have := g3.size; omega, fun j hj h => ?_⟩
        have hG := HT.out.lt
        have hnC : ∀ i, i < w5.heap.size + 2 → ¬ C i := fun i hi h => by have := (HC.out i h).1; omega
        rw [g2 j (by omega) (by rcases h with (h | h | h | h) | h <;> omega) (by
          rcases h with (h | h | h | h) | h
          · exact .inr ⟨by omega, hnC j (by omega)⟩
          · exact .inr ⟨by omega, hnC j (by omega)⟩
          · exact .inr ⟨by omega, hnC j (by omega)⟩
          · exact .inl (.inr (.inr (.inr (.inr (.inl h)))))
          · exact .inr ⟨by omega, h.2⟩)]
        exact HB6.out.block j hj
      have FIN : Hid (∀ (C3 : Nat → Prop) (W3 : World), (∀ j, C3 j → C j ∨ w6.heap.size ≤ j) → (∀ j, j < w6.heap.size → j ≠ z + 1 → (ReadB r m Br Bs Bt Bf j ∨ W.heap.size ≤ j ∧ ¬ C j) → W3.heap[j]? = w6.heap[j]?) → Agree 0 (fun _ => False) w6 W3 →
          (∀ j, C3 j → C j ∨ A.heap.size ≤ j) ∧ Rest w5.heap.size (fun k => k = z + 2 ∨ k = z + 3 ∨ k = z + 4 ∨ k = 0) C A W3) := fin
      clear fin
      clear ov ovl iv bb6 b0 b1 b2 b3 b4 b5 b6 b7 b8 s1 t1 f1 k1 y1 p0 p1
      gi_wp2
      gi_loopw [33] (fun i wr => ∃ (q : Nat) (C1 : Nat → Prop), q ≤ (chJ r s x).length ∧ i = .int .i64 q ∧ InI J r s to fr W w5 z (ReadB r m Br Bs Bt Bf) (AL r s x ++ (chJ r s x).take q) (x * 366 + q) C1 wr ∧ (∀ j, C1 j → C j ∨ w6.heap.size ≤ j) ∧ (∀ j, C1 j → j < wr.heap.size) ∧ w6.heap.size ≤ wr.heap.size ∧ (∀ j, j < w6.heap.size → j ≠ z + 1 → (ReadB r m Br Bs Bt Bf j ∨ W.heap.size ≤ j ∧ ¬ C j) → wr.heap[j]? = w6.heap[j]?) ∧ Agree 0 (fun _ => False) w6 wr)
        (fun i _ => (chJ r s x).length - (intOf i).toNat)
      case atStart => exact ⟨0, C, Nat.zero_le _, rfl, HI6.out, fun j hj => .inl hj, fun j hj => by have := (HC.out j hj).2; omega, Nat.le_refl _, fun _ _ _ _ => rfl, Agree.refl _ _ _⟩
      case round =>
        obtain ⟨q, C1, hq, rfl, hin, hC1, hC2, hs7, hkeep, hag⟩ := hrel
        have HIN : Hid (InI J r s to fr W w5 z (ReadB r m Br Bs Bt Bf) (AL r s x ++ (chJ r s x).take q) (x * 366 + q) C1 wr) := hin
        have HK1 : Hid (∀ j, C1 j → C j ∨ w6.heap.size ≤ j) := hC1
        have HK2 : Hid (∀ j, C1 j → j < wr.heap.size) := hC2
        have HKP : Hid (∀ j, j < w6.heap.size → j ≠ z + 1 → (ReadB r m Br Bs Bt Bf j ∨ W.heap.size ≤ j ∧ ¬ C j) → wr.heap[j]? = w6.heap[j]?) := hkeep
        have HAG : Hid (Agree 0 (fun _ => False) w6 wr) := hag
        clear hC1 hC2 hkeep hag
        by_cases hlt : q < (chJ r s x).length
        · have hin := HIN.out
          have hsw : w5.heap.size ≤ wr.heap.size := by omega
          obtain ⟨r1, s1, t1, f1, k1, y1, T1, M1, c1⟩ := CELLS.out wr hin.fx hsw
          obtain ⟨b0, b1, b2, b3, b4, b5, b6, b7, b8⟩ := r1
          obtain ⟨c, n1, n2, n3, n4, n5⟩ := hin.c
          have hbl := cell_lt b0
          have HN5 : Hid (0 < r.ct → c = ((XF s to (AL r s x ++ (chJ r s x).take q)).length : Int) ∧ c < r.ct) := n5
          have hxb := perN_le r s to
          have hcb : c ≤ 1400000000 := by omega
          obtain ⟨d, hd⟩ : ∃ d, d = gi (chJ r s x) q := ⟨_, rfl⟩
          have hdm := choice_mem (show d ∈ chJ r s x by rw [hd]; exact gi_mem hlt)
          have HD : Hid (d = gi (chJ r s x) q) := hd
          have HXN : Hid (AL r s x ++ (chJ r s x).take (q + 1) = (AL r s x ++ (chJ r s x).take q) ++ [d]) := by unfold Hid; rw [take_snoc hlt, ← List.append_assoc, hd]
          have e0 : ∃ bL oL, av = some ⟨bL, oL, none⟩ ∧ wr.cell? ⟨bL, oL + q, none⟩ = some (.int .i64 d) := by
            rcases HIV.out with h | ⟨bL, oL, h1, h2, h3⟩
            · rw [h] at hlt; simp at hlt
            · have hb : A.heap.size ≤ bL := (HOL.out _ h1).1
              refine ⟨bL, oL, h1, ?_⟩
              rw [World.cell?_of_block (w := w6) (a := ⟨bL, oL + q, none⟩) (HKP.out bL h2 (by omega) (.inr ⟨by omega, fun h => by have := (HC.out _ h).2; omega⟩)), hd]
              exact h3 q hlt
          obtain ⟨bL, oL, hav, cL⟩ := e0
          subst hav
          have hi1 : (q : Int) < ((chJ r s x).length : Int) := by omega
          have hi0 : (0 : Int) ≤ (q : Int) := by omega
          have ne1 : Br ≠ z + 1 := by have := HBr.out.lt; omega
          have ne2 : Bf ≠ z + 1 := by have := cell_lt HBf.out; omega
          have ne3 : W.heap.size ≠ z + 1 := by omega
          have hCz : ¬ C1 (z + 1) := fun h => by
            rcases HK1.out _ h with h | h
            · have := (HC.out _ h).1; omega
            · omega
          have HCZ : Hid (¬ C1 (z + 1)) := hCz
          clear hin T1 M1 c1 k1 hCz n5 hd
          by_cases ha : d < s
          · gi_wp2
            go_roundw
            case rel =>
              refine ⟨q + 1, C1, by omega, by go_num, ?_, HK1.out, HK2.out, hs7, HKP.out, HAG.out⟩
              obtain ⟨i1, i2, i3⟩ := HIN.out
              rw [HXN.out]
              refine ⟨by rw [YF_no (by omega)]; exact i1, ⟨c, n1, n2, n3, by omega, fun h => ?_⟩, i3⟩
              rw [XF_no (by omega)]; exact HN5.out h
            case measure => simp [intOf]; omega
          · by_cases hb : to < d
            · gi_wp2
              obtain ⟨g1, g2⟩ := FIN.out C1 wr HK1.out HKP.out HAG.out
              refine ⟨C1, g1, HK2.out, g2, rfl, .inl ?_⟩
              rw [← co_stop hr h0 h1 hx hlt (by rw [← HD.out]; exact hb) (fun h => by have := HN5.out h; omega)]
              exact HIN.out.j
            · obtain ⟨wc, hwc⟩ : ∃ wc, wc = wr.setCell ⟨z + 1, 0, none⟩ (.int .i64 (c + 1)) := ⟨_, rfl⟩
              have HWC : Hid (wc = wr.setCell ⟨z + 1, 0, none⟩ (.int .i64 (c + 1))) := hwc
              have hsc : wc.heap.size = wr.heap.size := by rw [hwc]; show (wr.heap.modify _ _).size = _; rw [Array.size_modify]
              have hoc : ∀ j, j ≠ z + 1 → wc.heap[j]? = wr.heap[j]? := fun j hj => by rw [hwc]; exact Below.heap_setCell wr ⟨z + 1, 0, none⟩ _ j hj
              have HCC : Hid (wc.cell? ⟨z + 1, 0, none⟩ = some (.int .i64 (c + 1)) ∧ wc.frozen? ⟨z + 1, 0, none⟩ = false) := by
                unfold Hid; rw [hwc]; exact ⟨World.cell?_setCell_same' _ _ _ (by rw [n1]; rfl), by rw [World.frozen?_setCell]; exact n2⟩
              have HOC : Hid (∀ j, j ≠ z + 1 → wc.heap[j]? = wr.heap[j]?) := hoc
              have HAC : Hid (Agree W.heap.size C1 wr wc) := by unfold Hid; rw [hwc]; exact Agree.setCell wr ⟨z + 1, 0, none⟩ _ (by show W.heap.size ≤ z + 1; omega) HCZ.out
              have HAG2 : Hid (Agree 0 (fun _ => False) w6 wc) := HAG.out.trans (HAC.out.mono (by omega) (fun j h => h.elim))
              have HLEN : Hid (((XF s to (AL r s x ++ (chJ r s x).take (q + 1))).length : Int) = ((XF s to (AL r s x ++ (chJ r s x).take q)).length : Int) + 1) := by
                unfold Hid; rw [HXN.out, XF_yes (by omega) (by omega)]; simp
              have NEXT : Hid (∀ (C' : Nat → Prop) (W3 : World), (∀ j, C' j → C1 j ∨ wc.heap.size ≤ j) → Rest W.heap.size (ReadB r m Br Bs Bt Bf) C1 wc W3 → (∀ j, C' j → C j ∨ w6.heap.size ≤ j) ∧ (∀ j, j < w6.heap.size → j ≠ z + 1 → (ReadB r m Br Bs Bt Bf j ∨ W.heap.size ≤ j ∧ ¬ C j) → W3.heap[j]? = w6.heap[j]?) ∧ Agree 0 (fun _ => False) w6 W3 ∧ W3.cell? ⟨z + 1, 0, none⟩ = some (.int .i64 (c + 1)) ∧ W3.frozen? ⟨z + 1, 0, none⟩ = false ∧ (∀ j, j < w5.heap.size → j ≠ z + 1 → (ReadB r m Br Bs Bt Bf j ∨ W.heap.size ≤ j) → W3.heap[j]? = w5.heap[j]?)) := fun C' W3 g1 g2 => by
                have hg := g2.size
                have hk3 : ∀ j, j < w6.heap.size → j ≠ z + 1 → (ReadB r m Br Bs Bt Bf j ∨ W.heap.size ≤ j ∧ ¬ C j) → W3.heap[j]? = w6.heap[j]? := fun j a1 a2 a3 =>
                  (g2.block j (by omega) (by
                    rcases a3 with a3 | a3
                    · exact .inl a3
                    · refine .inr ⟨a3.1, fun h => ?_⟩
                      rcases HK1.out j h with h' | h'
                      · exact a3.2 h'
                      · omega)).trans ((HOC.out j a2).trans (HKP.out j a1 a2 a3))
                have hzz : W3.heap[z + 1]? = wc.heap[z + 1]? := g2.block _ (by omega) (.inr ⟨by omega, HCZ.out⟩)
                refine ⟨fun j hj => ?_, hk3, HAG2.out.trans ⟨g2.os, g2.tape, g2.output, hg, fun k hk => by rcases hk with hk | hk; omega; exact hk.elim⟩, ?_, ?_, fun j a1 a2 a3 => ?_⟩
                · rcases g1 j hj with h | h
                  · exact HK1.out j h
                  · exact .inr (by omega)
                · rw [World.cell?_of_block (w := wc) (a := ⟨z + 1, 0, none⟩) hzz]; exact HCC.out.1
                · rw [World.frozen?_of_block (w := wc) (a := ⟨z + 1, 0, none⟩) hzz]; exact HCC.out.2
                · refine (g2.block j (by omega) ?_).trans ((HOC.out j a2).trans (HIN.out.fx j a1 a2 a3))
                  rcases a3 with a3 | a3
                  · exact .inl a3
                  · refine .inr ⟨a3, fun h => ?_⟩
                    rcases HK1.out j h with h' | h'
                    · have := (HC.out j h').1; omega
                    · omega
              clear hwc hoc
              by_cases hfr : fr ≤ d
              · have HYX : Hid (YF s to fr (AL r s x ++ (chJ r s x).take (q + 1)) = YF s to fr (AL r s x ++ (chJ r s x).take q) ++ [d]) := by unfold Hid; rw [HXN.out, YF_yes (by omega) (by omega) hfr]
                have HPX : Hid (YF s to fr (AL r s x ++ (chJ r s x).take q) ++ [d] <+: comingT r s fr to) := by unfold Hid; rw [HD.out]; exact co_next hr hx hlt (by rw [← HD.out]; omega) (by rw [← HD.out]; omega) (by rw [← HD.out]; exact hfr) (fun h => by have := HN5.out h; omega)
                obtain ⟨fn, tmps, assign, body, hy, hR⟩ := yield_wide (l0 := l0) (m' := n - 1 - 1 - 1) (HY.out (YF s to fr (AL r s x ++ (chJ r s x).take q)) d C1 wc (by omega) (fun j hj => ⟨by
                  rcases HK1.out _ hj with h | h
                  · have := (HC.out _ h).1; omega
                  · omega, by rw [hsc]; exact HK2.out j hj⟩) (HJ.out _ _ _ _ HIN.out.j HAC.out) HPX.out)
                rw [HWC.out] at hy
                dsimp only at hy
                gi_wp2
                refine ⟨fun h => (by cases h), ?_⟩
                rw [← HWC.out]
                refine hR.mono ?_
                rintro e W3 ⟨C', hC1', hC2', hrest, hend⟩
                obtain ⟨v1, v2, v3, v4, v5, v6⟩ := NEXT.out C' W3 hC1' hrest
                have hsz3 : w5.heap.size ≤ W3.heap.size := by have := hrest.size; omega
                have hbr3 := (CELLS.out W3 v6 hsz3).1.2.2.1
                have V1 : Hid (∀ j, C' j → C j ∨ w6.heap.size ≤ j) := v1
                have V2 : Hid (∀ j, j < w6.heap.size → j ≠ z + 1 → (ReadB r m Br Bs Bt Bf j ∨ W.heap.size ≤ j ∧ ¬ C j) → W3.heap[j]? = w6.heap[j]?) := v2
                have V3 : Hid (Agree 0 (fun _ => False) w6 W3) := v3
                have V6 : Hid (∀ j, j < w5.heap.size → j ≠ z + 1 → (ReadB r m Br Bs Bt Bf j ∨ W.heap.size ≤ j) → W3.heap[j]? = w5.heap[j]?) := v6
                have V7 : Hid (∀ j, C' j → j < W3.heap.size) := hC2'
                have hs8 : w6.heap.size ≤ W3.heap.size := by have := hrest.size; omega
                clear v1 v2 v3 v6 hC1' hC2' hrest
                rcases hend with ⟨rfl, hJ3⟩ | ⟨rfl, hJx3⟩
                · rw [← HYX.out] at hJ3
                  have HJ3 : Hid (J (YF s to fr (AL r s x ++ (chJ r s x).take (q + 1))) C' W3) := hJ3
                  clear hJ3
                  by_cases hfull : c + 1 = r.ct
                  · skip
                    gi_wp2
                    obtain ⟨g1, g2⟩ := FIN.out C' W3 V1.out V2.out V3.out
                    refine ⟨C', g1, V7.out, g2, rfl, .inl ?_⟩
                    rw [← co_full hx hlt (by omega) (by have := HLEN.out; have := HN5.out (by omega); omega)]
                    exact HJ3.out
                  · have hfull' : ¬ r.ct = c + 1 := fun h => hfull h.symm
                    gi_wp2
                    go_roundw
                    case rel =>
                      refine ⟨q + 1, C', by omega, by go_num, ⟨HJ3.out, ⟨c + 1, v4, v5, by omega, by omega, fun h => ?_⟩, V6.out⟩, V1.out, V7.out, hs8, V2.out, V3.out⟩
                      have := HLEN.out; have := HN5.out h; omega
                    case measure => simp [intOf]; omega
                · have HJ3 : Hid (Jx (YF s to fr (AL r s x ++ (chJ r s x).take q) ++ [d]) C' W3) := hJx3
                  clear hJx3
                  gi_wp2
                  obtain ⟨g1, g2⟩ := FIN.out C' W3 V1.out V2.out V3.out
                  exact ⟨C', g1, V7.out, g2, rfl, .inr ⟨_, HPX.out, by simp, HJ3.out⟩⟩
              · have HYX : Hid (YF s to fr (AL r s x ++ (chJ r s x).take (q + 1)) = YF s to fr (AL r s x ++ (chJ r s x).take q)) := by unfold Hid; rw [HXN.out, YF_no (by omega)]
                have HJ3 : Hid (J (YF s to fr (AL r s x ++ (chJ r s x).take (q + 1))) C1 wc) := by unfold Hid; rw [HYX.out]; exact HJ.out _ _ _ _ HIN.out.j HAC.out
                obtain ⟨v1, v2, v3, v4, v5, v6⟩ := NEXT.out C1 wc (fun j hj => .inl hj) (Rest.refl _ _ _ _)
                have V2 : Hid (∀ j, j < w6.heap.size → j ≠ z + 1 → (ReadB r m Br Bs Bt Bf j ∨ W.heap.size ≤ j ∧ ¬ C j) → wc.heap[j]? = w6.heap[j]?) := v2
                have V3 : Hid (Agree 0 (fun _ => False) w6 wc) := v3
                have V4 : Hid (wc.cell? ⟨z + 1, 0, none⟩ = some (.int .i64 (c + 1))) := v4
                have V5 : Hid (wc.frozen? ⟨z + 1, 0, none⟩ = false) := v5
                have V6 : Hid (∀ j, j < w5.heap.size → j ≠ z + 1 → (ReadB r m Br Bs Bt Bf j ∨ W.heap.size ≤ j) → wc.heap[j]? = w5.heap[j]?) := v6
                have V7 : Hid (∀ j, C1 j → j < wc.heap.size) := fun j hj => by rw [hsc]; exact HK2.out j hj
                clear v1 v2 v3 v4 v5 v6
                by_cases hfull : c + 1 = r.ct
                · skip
                  gi_wp2
                  refine ⟨fun _ h => (by cases h), ?_⟩
                  gi_wp2
                  have hw' := HWC.out
                  rw [hfull] at hw'
                  rw [← hw']
                  obtain ⟨g1, g2⟩ := FIN.out C1 wc HK1.out V2.out V3.out
                  refine ⟨C1, g1, V7.out, g2, rfl, .inl ?_⟩
                  rw [← co_full hx hlt (by omega) (by have := HLEN.out; have := HN5.out (by omega); omega)]
                  exact HJ3.out
                · have hfull' : ¬ r.ct = c + 1 := fun h => hfull h.symm
                  gi_wp2
                  refine ⟨fun _ h => (by cases h), ?_⟩
                  gi_wp2
                  rw [← HWC.out]
                  go_roundw
                  case rel =>
                    refine ⟨q + 1, C1, by omega, by go_num, ⟨HJ3.out, ⟨c + 1, V4.out, V5.out, by omega, by omega, fun h => ?_⟩, V6.out⟩, HK1.out, V7.out, by omega, V2.out, V3.out⟩
                    have := HLEN.out; have := HN5.out h; omega
                  case measure => simp [intOf]; omega
        · have hqe : q = (chJ r s x).length := by omega
          clear hin
          gi_wp2
          obtain ⟨g1, g2⟩ := FIN.out C1 wr HK1.out HKP.out HAG.out
          refine ⟨C1, g1, HK2.out, g2, ?_⟩
          have hln : (pre ++ [x]).length = x + 1 := by rw [List.length_append, HP.out]; rfl
          dsimp only
          rw [hln, AL_succ]
          obtain ⟨i1, ⟨c, i2, i3, i4, i5, i6⟩, i7⟩ := HIN.out
          rw [hqe, List.take_length] at i1 i6
          exact ⟨i1, ⟨c, i2, i3, i4, by omega, i6⟩, i7⟩
  case done =>
    intro xs C A hC hS hI hD
    subst hS
    rw [List.length_range] at hI
    have HI : Hid (InI J r s to fr W w5 z (ReadB r m Br Bs Bt Bf) (AL r s (perN r s to)) (perN r s to * 366) C A) := hI
    clear hI
    gi_wp2
    refine ⟨by simp, .inl ⟨_, _, rfl, run_takeDeferred hD, ?_⟩⟩
    have hj : J (comingT r s fr to) C A := by
      rw [← co_done hr (fun h => by obtain ⟨c, _, _, _, _, h5⟩ := HI.out.c; have := h5 h; omega)]; exact HI.out.j
    have hj2 := HJ.out _ _ _ _ hj (Agree.putObj A w5.heap.size (.deferred none) hzW (fun h => by have := hC _ h; omega))
    exact ⟨_, results_none rfl _ _ _, ⟨_, rfl⟩, .inl ⟨_, C, rfl, hj2⟩⟩
  case stop =>
    intro c pre C A hC hSp hIx hD
    obtain ⟨rfl, hIx⟩ := hIx
    have HI : Hid (J (comingT r s fr to) C A ∨ ∃ p, p <+: comingT r s fr to ∧ p ≠ [] ∧ Jx p C A) := hIx
    clear hIx
    gi_wp2
    refine ⟨by simp, .inl ⟨_, _, rfl, run_takeDeferred hD, ?_⟩⟩
    have hag : Agree W.heap.size C A (A.putObj w5.heap.size (.deferred none)) := Agree.putObj A w5.heap.size (.deferred none) hzW (fun h => by have := hC _ h; omega)
    refine ⟨_, results_none rfl _ _ _, ⟨_, rfl⟩, ?_⟩
    rcases HI.out with h | ⟨p, p1, p2, p3⟩
    · exact .inl ⟨_, C, rfl, HJ.out _ _ _ _ h hag⟩
    · exact .inr ⟨p, C, ⟨p1, p2⟩, HJx.out _ _ _ _ p3 hag⟩
end Go.Proofs.YtlfglhpepoepcaaDoor
