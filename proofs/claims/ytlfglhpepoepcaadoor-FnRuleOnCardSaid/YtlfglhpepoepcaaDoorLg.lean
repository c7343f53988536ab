/- All days on which something comes, up to two hundred: the program's. -/
import Derived.Test.YtlfglhpepoepcaaDoorKt
import Derived.Test.YtlfglhpepoepcaaDoorLb
import Derived.OwnWalkIn
namespace Go.Proofs.YtlfglhpepoepcaaDoor
open Go.RowKit Go.Shelf
set_option linter.unusedVariables false
attribute [local go_sem] Oper.semAt_some

/-- The fenced twin of wpList_append_at. -/
theorem wpListIn_append_at {F : Fence} {n : Nat} {P : Program} {w : World} {ops : Array Oper} {rest : List Oper} {o : Oper} {a : Act} {Q : Exit → Act → World → Prop} (hgd : o.guard = none) (s x : Operand) (t : TypeId)
    (ho : o.op = .call { callee := .builtin .append, args := #[s, x], argTypes := #[t, t] })
    (base : Nat) (e : TypeId) (i : TypeInfo) (z : Value) (size bytes : Nat) (ht : P.underlying t = some (.slice e)) (hi : P.info? e = some i) (hz : i.zero = some z)
    (hsize : i.size = size) (hby : i.bytes = bytes) (hzs : z.cells.size = size) (hsz : 0 < size)
    (v : Value) (k : Nat) (xs : List Value) (hs : a.eval s = v) (hown : w.ownsRow base e size v k xs)
    (ad : Addr) (m c : Nat) (news : List Value) (hx : a.eval x = .slice (some ad) m c) (hl : news.length = m * size) (hnews : ∀ j u, news[j]? = some u → w.cell? (ad.add j) = some u) (h1 : ∀ u ∈ news, u.oneCell' = true)
    (hm : 0 < m) (h63 : k + m ≤ maxLen) (hbytes : (k + m) * bytes ≤ 140737488355328) (hbase : base ≤ w.heap.size)
    (h : ∀ v' w', w'.ownsRow base e size v' (k + m) (xs ++ news) → w.grownBy w' v.ownBlock → (v'.ownBlock = v.ownBlock ∨ v'.ownBlock = some w.heap.size) → wpListIn F n P ops Q rest (a.put o.dst v') w') : wpListIn F n P ops Q (o :: rest) a w := by
  refine wpListIn_plain hgd fun K hK => ?_
  obtain ⟨v', w', hr, h2, h3, h4⟩ := run_append_own (P := P) w base t o.type e i z size bytes ht hi hz hsize hby hzs hsz v k xs hown ad m c news hl hnews h1 h63 hbytes hbase
  have h5 := run_app_where w base t o.type e i z size bytes ht hi hz hsize hby v k xs hown ad m c news hl hnews h1 hm h63 hbytes v' w' hr
  unfold Oper.wpIn
  refine ⟨?_, ?_⟩
  · simp [Oper.about, ho, resolve, Target.leads, Sem.run_pure]
  · rw [Oper.semAt_plain F _ _ (by rw [ho]; intro c hc'; cases hc')]
    simp [execOp, ho, resolve, invoke, builtin, hs, hx, hr, Result.andThen]
    exact hK _ _ (h v' w' h2 h3 h5)
theorem OI.keep {w w' : World} {B : Nat} {v : Value} {l : List Int} (h : OI w B v l) (hk : ∀ g, v.ownBlock = some g → w'.heap[g]? = w.heap[g]?) : OI w' B v l := by
  obtain ⟨h1, h2⟩ := h
  refine ⟨h1, ?_⟩
  rcases h2 with h2 | ⟨g, cap, cur, rfl, b, c, d⟩
  · exact .inl h2
  · exact .inr ⟨g, cap, cur, rfl, b, (hk g rfl).trans c, d⟩
def daysL (r : Rl) (s d : Int) : List Int := if mayB r s d = true then (comingT r s s (limT r d)).take 200 else []
/-- What stands while days are told: the list in its cell, in blocks of the rounds' own. -/
def DI (w : World) (z n : Nat) (pre : List Int) (C : Nat → Prop) (A : World) : Prop :=
  Below w.heap.size w A ∧ ∃ v, A.cell? ⟨z, 0, none⟩ = some v ∧ A.frozen? ⟨z, 0, none⟩ = false ∧ OI A (n + 2) v pre ∧ ∀ g, v.ownBlock = some g → C g
theorem DI.on {w : World} {z n : Nat} {pre : List Int} {C : Nat → Prop} {A B : World} (h : DI w z n pre C A) (hw : w.heap.size ≤ n) (hz : z < n) (ha : Agree n C A B) : DI w z n pre C B := by
  obtain ⟨hb, v, c, f, o, g⟩ := h
  refine ⟨hb.trans (ha.below hw), v, ?_, ?_, o.keep fun k hk => ha.block k (.inr (g k hk)), g⟩
  · rw [World.cell?_of_block (w := A) (a := ⟨z, 0, none⟩) (ha.block _ (.inl hz))]; exact c
  · rw [World.frozen?_of_block (w := A) (a := ⟨z, 0, none⟩) (ha.block _ (.inl hz))]; exact f
theorem DI.step {w A w4 : World} {z n : Nat} {pre : List Int} {x : Int} {v v' : Value} {C Kp : Nat → Prop} (o : Obj) (hw : w.heap.size ≤ z) (hzn : z < n) (hnA : n + 2 ≤ A.heap.size) (hKz : ¬ Kp z) (hKp : ∀ k, Kp k → k < n)
    (hC : ∀ k, C k → n + 2 ≤ k) (hB : Below w.heap.size w A) (hc : A.cell? ⟨z, 0, none⟩ = some v) (hf : A.frozen? ⟨z, 0, none⟩ = false) (hg : ∀ g, v.ownBlock = some g → C g)
    (hown : w4.ownsRow (n + 2) 3 1 v' (pre.length + 1) (pre.map (Value.int .i64) ++ [.int .i64 x])) (hgrow : (A.alloc o).grownBy w4 v.ownBlock) (hat : v'.ownBlock = v.ownBlock ∨ v'.ownBlock = some (A.heap.size + 1)) :
    w4.cell? ⟨z, 0, none⟩ = some v ∧ w4.frozen? ⟨z, 0, none⟩ = false ∧ (∃ C' : Nat → Prop, (∀ k, C' k → C k ∨ A.heap.size ≤ k) ∧ (∀ k, C' k → k < (w4.setCell ⟨z, 0, none⟩ v').heap.size) ∧ Rest n Kp C A (w4.setCell ⟨z, 0, none⟩ v') ∧ DI w z n (pre ++ [x]) C' (w4.setCell ⟨z, 0, none⟩ v')) := by
  have same : ∀ k, k < A.heap.size → some k ≠ v.ownBlock → w4.heap[k]? = A.heap[k]? := fun k hk hne =>
    (hgrow.block k (by simp; omega) hne).trans (Below.heap_alloc _ _ _ (by omega))
  have zne : some z ≠ v.ownBlock := fun e => by have := hC z (hg z e.symm); omega
  have hz := same z (by omega) zne
  have hsz : A.heap.size + 1 ≤ w4.heap.size := by have := hgrow.size; simpa using this
  have hss : (w4.setCell ⟨z, 0, none⟩ v').heap.size = w4.heap.size := by simp
  have c4 : w4.cell? ⟨z, 0, none⟩ = some v := by rw [World.cell?_of_block (w := A) (a := ⟨z, 0, none⟩) hz]; exact hc
  have f4 : w4.frozen? ⟨z, 0, none⟩ = false := by rw [World.frozen?_of_block (w := A) (a := ⟨z, 0, none⟩) hz]; exact hf
  refine ⟨c4, f4, fun k => v'.ownBlock = some k, fun k hk => ?_, fun k hk => by rw [hss]; exact (World.ownsRow.lt hown k hk).2, ?_, ?_⟩
  · rcases hat with e | e
    · rw [e] at hk; exact .inl (hg k hk)
    · rw [e] at hk; simp only [Option.some.injEq] at hk; exact .inr (by omega)
  · refine ⟨hgrow.os, hgrow.tape, hgrow.output, by omega, fun k hk hk2 => ?_⟩
    have kz : k ≠ z := by rintro rfl; rcases hk2 with h | h; exact hKz h; omega
    rw [Below.heap_setCell _ _ _ _ kz]
    refine same k hk fun e => ?_
    have hck := hg k e.symm
    rcases hk2 with h | h
    · have := hKp k h; have := hC k hck; omega
    · exact h.2 hck
  · refine ⟨hB.trans ⟨hgrow.os, hgrow.tape, hgrow.output, by omega, fun k hk => ?_⟩, v', World.cell?_setCell_same' _ _ _ (by rw [c4]; rfl), by rw [World.frozen?_setCell]; exact f4, ?_, fun g hg' => hg'⟩
    · rw [Below.heap_setCell _ _ _ _ (by show k ≠ z; omega)]
      exact same k (by have := hB.size; omega) fun e => by have := hC k (hg k e.symm); omega
    · have h4 : OI w4 (n + 2) v' (pre ++ [x]) := by unfold OI; simpa using hown
      refine h4.keep fun g hg' => Below.heap_setCell _ _ _ _ ?_
      have := (World.ownsRow.lt hown g hg').1
      show g ≠ z; omega
set_option maxRecDepth 100000 in
set_option maxHeartbeats 8000000 in
theorem implRuleDaysIn (n : Nat) (r : Rl) (m : Rm) (s d : Int) (w : World) (hr : RAny w r m) :
    CallsIn Fence.wide n Tryd.prog 18 #[.agg #[.int .i64 r.f, .int .i64 r.ev, .int .i64 r.ct, .int .i64 r.un, .slice m.a0 r.ds.length m.c0, .slice m.a1 r.da.length m.c1, .slice m.a2 r.mo.length m.c2, .slice m.a3 r.pl.length m.c3, .int .i64 r.wk], .int .i64 s, .int .i64 d] w fun e w' => (∃ v, e = .returned v ∧ OI w' w.heap.size v (daysL r s d)) ∧ Below w.heap.size w w' := by
  obtain ⟨i0, hi, hz0, hz1, hz2⟩ := info_parts intInfo
  obtain ⟨W0, hW0⟩ : ∃ W0, W0 = w.alloc (.cells #[.int .i64 r.f, .int .i64 r.ev, .int .i64 r.ct, .int .i64 r.un, .slice m.a0 r.ds.length m.c0, .slice m.a1 r.da.length m.c1, .slice m.a2 r.mo.length m.c2, .slice m.a3 r.pl.length m.c3, .int .i64 r.wk] 26) := ⟨_, rfl⟩
  have hb0 : Below w.heap.size w W0 := by rw [hW0]; exact (Below.refl _ w).alloc (Nat.le_refl _) _
  have hs0 : W0.heap.size = w.heap.size + 1 := by rw [hW0]; simp
  have HCB : Hid (CB W0 w.heap.size r m) := by unfold Hid; rw [hW0]; exact CB.new w r m _
  have HW0 : Hid (W0 = w.alloc (.cells #[.int .i64 r.f, .int .i64 r.ev, .int .i64 r.ct, .int .i64 r.un, .slice m.a0 r.ds.length m.c0, .slice m.a1 r.da.length m.c1, .slice m.a2 r.mo.length m.c2, .slice m.a3 r.pl.length m.c3, .int .i64 r.wk] 26)) := hW0
  have HB0 : Hid (Below w.heap.size w W0) := hb0
  have HR0 : Hid (RAny W0 r m) := hr.on hb0
  have HM := implMayAsk r m s d W0 HR0.out
  have HG : Hid (0 < w.heap.size) := hr.tab.lt
  have HRM : Hid (RMem w r m) := hr.mem
  clear hW0 hb0 hr
  cases h1 : mayB r s d with
  | false =>
    have HV : Hid (daysL r s d = []) := by unfold Hid daysL; rw [h1]; rfl
    rw [h1] at HM
    clear h1
    refine callsIn_of_wp_marks Tryd.func18 rfl trivial ?_ rfl
    simp only [Tryd.ntmps18, List.size_toArray, List.length_cons, List.length_nil, Nat.reduceAdd, Nat.reduceSub, Array.replicate_succ, Array.replicate_zero, List.push_toArray, List.append_toArray, List.nil_append, List.cons_append]
    gi_wp2_with fail
    refine ⟨trivial, fun h => (by cases h), ?_⟩
    rw [← HW0.out]
    refine (callsIn_wide.2 HM).mono ?_
    rintro e w1 ⟨rfl, b1⟩
    have HB1 : Hid (Below w.heap.size w w1) := bstep HB0.out b1
    clear b1 HM
    gi_wp2
    exact ⟨.slice none 0 0, by simp [results, Tryd.results18, go_sem], ⟨_, rfl, by rw [HV.out]; exact World.ownsRow_nil _ _ _ _⟩, HB1.out⟩
  | true =>
    have HV : Hid (daysL r s d = (comingT r s s (limT r d)).take 200) := by unfold Hid daysL; rw [h1]; rfl
    obtain ⟨hru, ⟨s0, s1⟩, ⟨d0, d1⟩, _⟩ := may_ok h1
    have HRU : Hid (ruOf r = true) := hru
    rw [h1] at HM
    clear h1 hru
    refine callsIn_of_wp_marks Tryd.func18 rfl trivial ?_ rfl
    simp only [Tryd.ntmps18, List.size_toArray, List.length_cons, List.length_nil, Nat.reduceAdd, Nat.reduceSub, Array.replicate_succ, Array.replicate_zero, List.push_toArray, List.append_toArray, List.nil_append, List.cons_append]
    gi_wp2_with fail
    refine ⟨trivial, fun h => (by cases h), ?_⟩
    rw [← HW0.out]
    refine (callsIn_wide.2 HM).mono ?_
    rintro e w1 ⟨rfl, b1⟩
    have HB1 : Hid (Below w.heap.size w w1) := bstep HB0.out b1
    have HZ1 : Hid (W0.heap.size ≤ w1.heap.size) := b1.size
    obtain ⟨W2, hW2⟩ : ∃ W2, W2 = w1.alloc (.cells #[.slice none 0 0] 24) := ⟨_, rfl⟩
    have hb2 : Below w1.heap.size w1 W2 := by rw [hW2]; exact (Below.refl _ _).alloc (Nat.le_refl _) _
    have HS2 : Hid (W2.heap.size = w1.heap.size + 1) := by unfold Hid; rw [hW2]; simp
    have HF2 : Hid (CF W2 w1.heap.size #[.slice none 0 0]) := by unfold Hid; rw [hW2]; exact CF.new _ _ _
    have HW2 : Hid (W2 = w1.alloc (.cells #[.slice none 0 0] 24)) := hW2
    have HB2 : Hid (Below w.heap.size w W2) := bstep HB1.out hb2
    have HR2 : Hid (RIn W2 r m) := ((HR0.out.on b1).on hb2).ok HRU.out
    obtain ⟨q0, q1, q2, q3, q4, q5, q6, q7, q8⟩ := HCB.out.on (b1.block _ HCB.out.lt)
    have hlt : w.heap.size < w1.heap.size := by have := HZ1.out; omega
    clear b1 HM hW2 hb2
    gi_wp2_with fail
    refine ⟨trivial, fun h => (by cases h), ?_⟩
    rw [← HW2.out]
    refine (callsIn_wide.2 (implComingDays r m s s d W2)).mono ?_
    rintro e w5 ⟨rfl, b5, s5, r5, c5, f5, t5⟩
    have HBw : Hid (Below w.heap.size w w5) := bstep HB2.out b5
    have HR5 : Hid (RIn w5 r m) := HR2.out.on b5
    have HF5 : Hid (CF w5 w1.heap.size #[.slice none 0 0]) := HF2.out.below b5
    have HIT : Hid (ItOwn Fence.wide (n - 1) Tryd.prog 56 #[.pointer (some ⟨W2.heap.size, 0, none⟩), .pointer (some ⟨W2.heap.size + 1, 0, none⟩), .pointer (some ⟨W2.heap.size + 3, 0, none⟩), .pointer (some ⟨W2.heap.size + 2, 0, none⟩)] (fun d : Int => #[.int .i64 d]) (fun pre x => pre ++ [x] <+: comingT r s s (limT r d)) (ReadB r m W2.heap.size (W2.heap.size + 1) (W2.heap.size + 3) (W2.heap.size + 2))
        (fun xs => xs = comingT r s s (limT r d)) (fun pre => pre <+: comingT r s s (limT r d) ∧ pre ≠ []) w5) :=
      itComing implChoosers implCounting (n - 1) r m s s (limT r d) w5 _ _ _ _ HR5.out.ok HR5.out.l0 HR5.out.l1 HR5.out.l2 HR5.out.l3 s0 s1 HR5.out.mem (fun k hk => HR5.out.mem.blk_lt hk) HR5.out.tab r5 c5 t5 f5
    have HS5 : Hid (w5.heap.size = w1.heap.size + 5) := by unfold Hid; rw [s5, HS2.out]
    clear b5 s5 r5 c5 f5 t5
    gi_wp2
    refine wpIn_range_it (F := Fence.wide) rfl (fun h => (by cases h)) (gf := 56) (lb := #[.pointer (some ⟨W2.heap.size, 0, none⟩), .pointer (some ⟨W2.heap.size + 1, 0, none⟩), .pointer (some ⟨W2.heap.size + 3, 0, none⟩), .pointer (some ⟨W2.heap.size + 2, 0, none⟩)]) rfl trivial (enters_of Tryd.func56 (by kernel_rfl) rfl)
      HIT.out (fun j hj => by
        have a1 := HS5.out; have a2 := HS2.out; have a3 := HG.out; have a4 := HZ1.out
        rcases hj with rfl | rfl | rfl | rfl | rfl | h
        · omega
        · omega
        · omega
        · omega
        · omega
        · have := HRM.out.blk_lt h; omega) (Below.refl _ _) (fun _ => rfl)
      (fun pre C A => pre.length < 200 ∧ DI w w1.heap.size w5.heap.size pre C A)
      (fun c pre C A => c = .exit 0 ∧ pre.length = 200 ∧ DI w w1.heap.size w5.heap.size pre C A)
      (fun p C A B h hab => ⟨h.1, h.2.on (by have := HS5.out; omega) (by have := HS5.out; omega) hab⟩)
      (fun c p C A B h hab => ⟨h.1, h.2.1, h.2.2.on (by have := HS5.out; omega) (by have := HS5.out; omega) hab⟩)
      ⟨by simp, HBw.out, .slice none 0 0, (HF5.out.2 0 _ rfl).1, (HF5.out.2 0 _ rfl).2, World.ownsRow_nil _ _ _ _, fun g hg => by cases hg⟩
      (fun x a' b A => ∃ u9 u10 u11 u12 u13 u20 u21 u22 u23 u24 u25 u26 u27, a' = { tmps := #[.agg #[.int .i64 r.f, .int .i64 r.ev, .int .i64 r.ct, .int .i64 r.un, .slice m.a0 r.ds.length m.c0, .slice m.a1 r.da.length m.c1, .slice m.a2 r.mo.length m.c2, .slice m.a3 r.pl.length m.c3, .int .i64 r.wk], .int .i64 s, .int .i64 d, .pointer (some ⟨w.heap.size, 0, none⟩), undef, undef, .slice none 0 0, .pointer (some ⟨w1.heap.size, 0, none⟩), .int .i64 x, u9, u10, u11, u12, u13, .agg #[.int .i64 r.f, .int .i64 r.ev, .int .i64 r.ct, .int .i64 r.un, .slice m.a0 r.ds.length m.c0, .slice m.a1 r.da.length m.c1, .slice m.a2 r.mo.length m.c2, .slice m.a3 r.pl.length m.c3, .int .i64 r.wk], .int .i64 s, .int .i64 s, .int .i64 d, .func (.func 56) #[] #[.pointer (some ⟨W2.heap.size, 0, none⟩), .pointer (some ⟨W2.heap.size + 1, 0, none⟩), .pointer (some ⟨W2.heap.size + 3, 0, none⟩), .pointer (some ⟨W2.heap.size + 2, 0, none⟩)], .int .i64 x, u20, u21, u22, u23, u24, u25, u26, u27], defers := [] })
      (fun x a' b A B h hk => h)
      ?assign ?body ?done ?stop
    case assign =>
      intro l0 x A K hA hK
      gi_wp2
      exact hK _ _ (Below.refl _ A) ⟨_, _, _, _, _, _, _, _, _, _, _, _, _, rfl⟩
    case body =>
      rintro l0 pre x a' b C A hb1 hb2 hC ⟨hlen, hB, v, hc, hf, ho, hg⟩ ⟨u9, u10, u11, u12, u13, u20, u21, u22, u23, u24, u25, u26, u27, rfl⟩ hNx
      have HBA : Hid (Below w.heap.size w A) := hB
      have HC : Hid (∀ k, C k → w5.heap.size + 2 ≤ k ∧ k < b) := hC
      have HOV : Hid (∀ g, v.ownBlock = some g → C g) := hg
      have HNX : Hid (pre ++ [x] <+: comingT r s s (limT r d)) := hNx
      have hzA : w1.heap.size < A.heap.size := by have := HS5.out; omega
      have HO : Hid (OI A (w5.heap.size + 2) v pre) := ho
      clear hB hC hg hNx ho
      have HSTEP : Hid (∀ (v' : Value) (w4 : World), w4.ownsRow (w5.heap.size + 2) 3 1 v' (pre.length + 1) (pre.map (Value.int .i64) ++ [.int .i64 x]) → (A.alloc (.cells #[.int .i64 x] 3)).grownBy w4 v.ownBlock → (v'.ownBlock = v.ownBlock ∨ v'.ownBlock = some (A.heap.size + 1)) →
          w4.cell? ⟨w1.heap.size, 0, none⟩ = some v ∧ w4.frozen? ⟨w1.heap.size, 0, none⟩ = false ∧ (∃ C' : Nat → Prop, (∀ k, C' k → C k ∨ A.heap.size ≤ k) ∧ (∀ k, C' k → k < (w4.setCell ⟨w1.heap.size, 0, none⟩ v').heap.size) ∧ Rest w5.heap.size (ReadB r m W2.heap.size (W2.heap.size + 1) (W2.heap.size + 3) (W2.heap.size + 2)) C A (w4.setCell ⟨w1.heap.size, 0, none⟩ v') ∧ DI w w1.heap.size w5.heap.size (pre ++ [x]) C' (w4.setCell ⟨w1.heap.size, 0, none⟩ v'))) := by
        intro v' w4 hown hgrow hat
        have a1 := HS5.out; have a2 := HS2.out; have a3 := HG.out
        refine DI.step (.cells #[.int .i64 x] 3) (by omega) (by omega) (by omega) ?_ ?_ (fun k hk => (HC.out k hk).1) HBA.out hc hf HOV.out hown hgrow hat
        · rintro (h | h | h | h | h | h)
          · omega
          · omega
          · omega
          · omega
          · omega
          · have := HRM.out.blk_lt h; omega
        · rintro k (h | h | h | h | h | h)
          · omega
          · omega
          · omega
          · omega
          · omega
          · have := HRM.out.blk_lt h; omega
      by_cases hle : pre.length + 1 = 200
      · have hle2 : (pre.length : Int) + 1 = 200 := by omega
        gi_wp2_with (first
          | (gi_at_builtin; refine wpListIn_append_at rfl _ _ 24 rfl (w5.heap.size + 2) 3 i0 (.int .i64 0) 1 8 Tryd.underlying24 hi hz0 hz1 hz2 rfl (by decide) _ _ _ rfl (World.ownsRow.alloc HO.out _) ⟨_, 0, none⟩ 1 1 [.int .i64 x] rfl rfl (cell_one_new _ _ _) (by simp [Value.oneCell']) (by decide) (by unfold maxLen; omega) (by omega) (by simp; omega) ?_; intro v' w4 hown hgrow hat; obtain ⟨c4, f4, FIN⟩ := HSTEP.out v' w4 hown hgrow (hat.imp (fun h => h) (fun h => h.trans (by simp))); obtain ⟨g', cap', rfl⟩ := ownsRow_succ hown; rw [hle] at FIN; have HFF := (show Hid _ from FIN); clear hown hgrow hat FIN hc hf))
        obtain ⟨C', k1, k2, k3, k4⟩ := HFF.out
        exact ⟨C', k1, k2, k3, rfl, by simp; omega, k4⟩
      · have hle2 : ¬ (pre.length : Int) + 1 = 200 := by omega
        gi_wp2_with (first
          | (gi_at_builtin; refine wpListIn_append_at rfl _ _ 24 rfl (w5.heap.size + 2) 3 i0 (.int .i64 0) 1 8 Tryd.underlying24 hi hz0 hz1 hz2 rfl (by decide) _ _ _ rfl (World.ownsRow.alloc HO.out _) ⟨_, 0, none⟩ 1 1 [.int .i64 x] rfl rfl (cell_one_new _ _ _) (by simp [Value.oneCell']) (by decide) (by unfold maxLen; omega) (by omega) (by simp; omega) ?_; intro v' w4 hown hgrow hat; obtain ⟨c4, f4, FIN⟩ := HSTEP.out v' w4 hown hgrow (hat.imp (fun h => h) (fun h => h.trans (by simp))); obtain ⟨g', cap', rfl⟩ := ownsRow_succ hown; have HFF := (show Hid _ from FIN); clear hown hgrow hat FIN hc hf))
        obtain ⟨C', k1, k2, k3, k4⟩ := HFF.out
        exact ⟨C', k1, k2, k3, by simp; omega, k4⟩
    case done =>
      rintro xs C A hC hS ⟨hlen, hB, v, hc, hf, ho, hg⟩ hD
      have HBA : Hid (Below w.heap.size w A) := hB
      have HO : Hid (OI A (w5.heap.size + 2) v xs) := ho
      have HXS : Hid (xs = daysL r s d) := by unfold Hid; rw [HV.out, ← hS, List.take_of_length_le (by omega)]
      have HD : Hid (A.heap[w5.heap.size]? = some (.deferred (some []))) := hD
      clear hS hB ho hg hD
      gi_wp2
      refine ⟨by simp, .inl ⟨_, _, rfl, run_takeDeferred HD.out, ?_⟩⟩
      have hbz : Below w.heap.size w (A.putObj w5.heap.size (.deferred none)) := HBA.out.trans ((Agree.putObj (n := w.heap.size) (C := fun _ => False) A w5.heap.size (.deferred none) (by have := HS5.out; omega) (fun h => h)).below (Nat.le_refl _))
      have hoz : OI (A.putObj w5.heap.size (.deferred none)) w.heap.size v (daysL r s d) := by
        rw [← HXS.out]
        refine (HO.out.keep fun g hg => World.putObj_heap_other ?_).base (by have := HS5.out; omega)
        have := (World.ownsRow.lt HO.out g hg).1
        omega
      exact ⟨v, by simp [results, Tryd.results18, go_sem], ⟨v, rfl, hoz⟩, hbz⟩
    case stop =>
      rintro c pre C A hC hSp ⟨rfl, hlen, hB, v, hc, hf, ho, hg⟩ hD
      have HBA : Hid (Below w.heap.size w A) := hB
      have HO : Hid (OI A (w5.heap.size + 2) v pre) := ho
      have HXS : Hid (pre = daysL r s d) := by
        unfold Hid
        rw [HV.out, ← hlen]
        obtain ⟨y, hy⟩ := hSp.1
        rw [← hy, List.take_left']
        rfl
      have HD : Hid (A.heap[w5.heap.size]? = some (.deferred (some []))) := hD
      clear hSp hB ho hg hD
      gi_wp2
      refine ⟨by simp, .inl ⟨_, _, rfl, run_takeDeferred HD.out, ?_⟩⟩
      have hbz : Below w.heap.size w (A.putObj w5.heap.size (.deferred none)) := HBA.out.trans ((Agree.putObj (n := w.heap.size) (C := fun _ => False) A w5.heap.size (.deferred none) (by have := HS5.out; omega) (fun h => h)).below (Nat.le_refl _))
      have hoz : OI (A.putObj w5.heap.size (.deferred none)) w.heap.size v (daysL r s d) := by
        rw [← HXS.out]
        refine (HO.out.keep fun g hg => World.putObj_heap_other ?_).base (by have := HS5.out; omega)
        have := (World.ownsRow.lt HO.out g hg).1
        omega
      exact ⟨v, by simp [results, Tryd.results18, go_sem], ⟨v, rfl, hoz⟩, hbz⟩
theorem implRuleDays (r : Rl) (m : Rm) (s d : Int) (w : World) (hr : RAny w r m) :
    Calls Tryd.prog 18 #[.agg #[.int .i64 r.f, .int .i64 r.ev, .int .i64 r.ct, .int .i64 r.un, .slice m.a0 r.ds.length m.c0, .slice m.a1 r.da.length m.c1, .slice m.a2 r.mo.length m.c2, .slice m.a3 r.pl.length m.c3, .int .i64 r.wk], .int .i64 s, .int .i64 d] w fun e w' => (∃ v, e = .returned v ∧ OI w' w.heap.size v (daysL r s d)) ∧ Below w.heap.size w w' :=
  callsIn_wide.1 (implRuleDaysIn 9 r m s d w hr)
end Go.Proofs.YtlfglhpepoepcaaDoor
