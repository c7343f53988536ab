/- Whether a rule may be asked: the specification's. -/
import Derived.Test.YtjncaeealmmhmaaDoorRt
import Derived.Test.YtjncaeealmmhmaaDoorKt
import Derived.Test.YtjncaeealmmhmaaDoorLc
import Derived.Test.YtjncaeealmmhmaaDoorLb
import Derived.OwnWalkIn
import Derived.Test.YtjncaeealmmhmaaDoorRh
import Derived.Test.YtjncaeealmmhmaaDoorJRi
namespace Go.Proofs.YtjncaeealmmhmaaDoor
open Go.RowKit Go.Shelf
set_option linter.unusedVariables false

set_option maxHeartbeats 4000000 in
theorem specAsked (r : Rl) (m : Rm) (s d : Int) (w : World) (hr : RAny w r m) :
    Calls Tryd.prog 24 #[.agg #[.int .i64 r.f, .int .i64 r.ev, .int .i64 r.ct, .int .i64 r.un, .slice m.a0 r.ds.length m.c0, .slice m.a1 r.da.length m.c1, .slice m.a2 r.mo.length m.c2, .slice m.a3 r.pl.length m.c3, .int .i64 r.wk], .int .i64 s, .int .i64 d] w fun e w' => e = .returned (.bool (mayB r s d)) ∧ Below w.heap.size w w' := by
  obtain ⟨W0, hW0⟩ : ∃ W0, W0 = w.alloc (.cells #[.int .i64 r.f, .int .i64 r.ev, .int .i64 r.ct, .int .i64 r.un, .slice m.a0 r.ds.length m.c0, .slice m.a1 r.da.length m.c1, .slice m.a2 r.mo.length m.c2, .slice m.a3 r.pl.length m.c3, .int .i64 r.wk] 30) := ⟨_, rfl⟩
  have hb0 : Below w.heap.size w W0 := by rw [hW0]; exact (Below.refl _ w).alloc (Nat.le_refl _) _
  have HW0 : Hid (W0 = w.alloc (.cells #[.int .i64 r.f, .int .i64 r.ev, .int .i64 r.ct, .int .i64 r.un, .slice m.a0 r.ds.length m.c0, .slice m.a1 r.da.length m.c1, .slice m.a2 r.mo.length m.c2, .slice m.a3 r.pl.length m.c3, .int .i64 r.wk] 30)) := hW0
  have HB0 : Hid (Below w.heap.size w W0) := hb0
  have hr0 := hr.on hb0
  have HOK : Hid (Calls Tryd.prog 35 #[.agg #[.int .i64 r.f, .int .i64 r.ev, .int .i64 r.ct, .int .i64 r.un, .slice m.a0 r.ds.length m.c0, .slice m.a1 r.da.length m.c1, .slice m.a2 r.mo.length m.c2, .slice m.a3 r.pl.length m.c3, .int .i64 r.wk]] W0 fun z w' => z = .returned (.bool (ruOf r)) ∧ Below W0.heap.size W0 w') := specRuleOk _ _ _ _ _ _ _ _ _ _ _ _ _ _ _ _ _ W0 hr0.mem.t hr0.mem.d hr0.mem.o hr0.mem.p hr0.l0 hr0.l1 hr0.l2 hr0.l3
  clear hW0 hb0 hr0 hr
  cases h1 : ruOf r with
  | false =>
    have HV : Hid (mayB r s d = false) := by unfold Hid mayB; rw [h1]; rfl
    rw [h1] at HOK
    clear h1
    go_enter Tryd.func24, Tryd.ntmps24
    go_wp2_with fail
    rw [← HW0.out]
    refine HOK.out.mono ?_
    rintro e w1 ⟨rfl, b1⟩
    have HB1 : Hid (Below w.heap.size w w1) := bstep HB0.out b1
    clear b1
    go_wp2
    go_ret
    exact ⟨ret_b HV.out.symm, HB1.out⟩
  | true =>
    rw [h1] at HOK
    have HR : Hid (ruOf r = true) := h1
    clear h1
    cases hs : inB s 0 3652058 with
    | false =>
      have HV : Hid (mayB r s d = false) := by unfold Hid mayB; rw [HR.out, hs]; rfl
      have HS : Hid (inB s 0 3652058 = false) := hs
      clear hs
      go_enter Tryd.func24, Tryd.ntmps24
      go_wp2_with fail
      rw [← HW0.out]
      refine HOK.out.mono ?_
      rintro e w1 ⟨rfl, b1⟩
      have HB1 : Hid (Below w.heap.size w w1) := bstep HB0.out b1
      clear b1
      go_wp2_with fail
      refine (specInR _ _ _ _ false HS.out).mono ?_
      rintro e w2 ⟨rfl, rfl⟩
      go_wp2
      go_ret
      exact ⟨ret_b HV.out.symm, HB1.out⟩
    | true =>
      have hs' := (in_iff _ _ _).1 hs
      have HS : Hid (inB s 0 3652058 = true) := hs
      cases hd : inB d 0 3652058 with
      | false =>
        have HV : Hid (mayB r s d = false) := by unfold Hid mayB; rw [HR.out, hs, hd]; rfl
        have HD : Hid (inB d 0 3652058 = false) := hd
        clear hs hd
        go_enter Tryd.func24, Tryd.ntmps24
        go_wp2_with fail
        rw [← HW0.out]
        refine HOK.out.mono ?_
        rintro e w1 ⟨rfl, b1⟩
        have HB1 : Hid (Below w.heap.size w w1) := bstep HB0.out b1
        clear b1
        go_wp2_with fail
        refine (specInR _ _ _ _ true HS.out).mono ?_
        rintro e w2 ⟨rfl, rfl⟩
        go_wp2_with fail
        refine (specInR _ _ _ _ false HD.out).mono ?_
        rintro e w2 ⟨rfl, rfl⟩
        go_wp2
        go_ret
        exact ⟨ret_b HV.out.symm, HB1.out⟩
      | true =>
        have hd' := (in_iff _ _ _).1 hd
        have HV : Hid (mayB r s d = decide (d - s ≤ 11000)) := by unfold Hid mayB; rw [HR.out, hs, hd]; rfl
        have HD : Hid (inB d 0 3652058 = true) := hd
        clear hs hd
        go_enter Tryd.func24, Tryd.ntmps24
        go_wp2_with fail
        rw [← HW0.out]
        refine HOK.out.mono ?_
        rintro e w1 ⟨rfl, b1⟩
        have HB1 : Hid (Below w.heap.size w w1) := bstep HB0.out b1
        clear b1
        go_wp2_with fail
        refine (specInR _ _ _ _ true HS.out).mono ?_
        rintro e w2 ⟨rfl, rfl⟩
        go_wp2_with fail
        refine (specInR _ _ _ _ true HD.out).mono ?_
        rintro e w2 ⟨rfl, rfl⟩
        go_wp2
        go_ret
        exact ⟨ret_b HV.out.symm, HB1.out⟩
end Go.Proofs.YtjncaeealmmhmaaDoor
namespace Go.Proofs.YtjncaeealmmhmaaDoor
open Go.RowKit Go.Shelf
set_option linter.unusedVariables false

theorem by_bd {r : Rl} (h : ruOf r = true) : ∀ j, j < r.ds.length → -1000 ≤ tAt r.ds j ∧ tAt r.ds j ≤ 1000 := by
  intro j hj
  unfold ruOf ruB at h
  simp only [Bool.and_eq_true] at h
  have h2 := h.2.1
  unfold dsB at h2
  simp only [Bool.and_eq_true] at h2
  have h3 := (dsA_iff _ _).1 h2.2 j hj
  unfold dstB at h3
  simp only [Bool.and_eq_true] at h3
  have h4 := (in_iff _ _ _).1 h3.2.1
  have h5 := numM_in r.f r.mo.length
  omega
theorem lim_le (r : Rl) (d : Int) : limT r d ≤ d := by unfold limT; split <;> omega
theorem tk_most {r : Rl} (hr : ROk r) {s T : Int} (h0 : 0 ≤ s) (h1 : s ≤ 3652058) (hT : T ≤ s + 11500) : tk r.ct (comes r s T) = (comes r s T).take (mostT r 20000).toNat := by
  have hl := @comes_len r hr s T h0 h1
  have c0 := hr.c0; have c1 := hr.c1
  unfold tk mostT
  by_cases hc : r.ct = 0
  · rw [if_pos hc, if_neg (by omega), List.take_of_length_le (by omega)]
  · rw [if_neg hc, if_pos (by omega)]
theorem on_eq {r : Rl} {s d : Int} (h : mayB r s d = true) : decide (firstT (comingT r s d (limT r d)) = d) = hasI ((comes r s (limT r d)).take (mostT r 20000).toNat) d := by
  obtain ⟨hru, ⟨s0, s1⟩, ⟨d0, d1⟩, hds⟩ := may_ok h
  have hr := (ru_ok hru).1
  have hT := lim_le r d
  unfold comingT
  rw [tk_most hr s0 s1 (by omega)]
  obtain ⟨M, hM⟩ : ∃ M, M = (comes r s (limT r d)).take (mostT r 20000).toNat := ⟨_, rfl⟩
  rw [← hM]
  have hle : ∀ x ∈ M, x ≤ d := fun x hx => by
    rw [hM] at hx
    have := comes_mem (List.mem_of_mem_take hx); omega
  rw [Bool.eq_iff_iff]
  unfold hasI
  simp only [decide_eq_true_eq]
  constructor
  · intro e
    unfold firstT at e
    cases hf : M.filter (fun x => decide (d ≤ x)) with
    | nil => rw [hf] at e; simp at e; omega
    | cons y t =>
      rw [hf] at e
      have : y ∈ M.filter (fun x => decide (d ≤ x)) := by rw [hf]; exact List.mem_cons_self ..
      simp at e
      subst e
      exact (List.mem_filter.1 this).1
  · intro hm
    unfold firstT
    have hin : d ∈ M.filter (fun x => decide (d ≤ x)) := List.mem_filter.2 ⟨hm, by simp⟩
    cases hf : M.filter (fun x => decide (d ≤ x)) with
    | nil => rw [hf] at hin; simp at hin
    | cons y t =>
      have hy : y ∈ M.filter (fun x => decide (d ≤ x)) := by rw [hf]; exact List.mem_cons_self ..
      have h2 := List.mem_filter.1 hy
      have h3 := hle y h2.1
      have h4 : d ≤ y := by simpa using h2.2
      show y = d
      omega
set_option maxHeartbeats 4000000 in
theorem specRuleOn (r : Rl) (m : Rm) (s d : Int) (w : World) (hr : RAny w r m) :
    Calls Tryd.prog 57 #[.agg #[.int .i64 r.f, .int .i64 r.ev, .int .i64 r.ct, .int .i64 r.un, .slice m.a0 r.ds.length m.c0, .slice m.a1 r.da.length m.c1, .slice m.a2 r.mo.length m.c2, .slice m.a3 r.pl.length m.c3, .int .i64 r.wk], .int .i64 s, .int .i64 d] w fun e w' => e = .returned (.bool (onB r s d)) ∧ Below w.heap.size w w' := by
  obtain ⟨W0, hW0⟩ : ∃ W0, W0 = w.alloc (.cells #[.int .i64 r.f, .int .i64 r.ev, .int .i64 r.ct, .int .i64 r.un, .slice m.a0 r.ds.length m.c0, .slice m.a1 r.da.length m.c1, .slice m.a2 r.mo.length m.c2, .slice m.a3 r.pl.length m.c3, .int .i64 r.wk] 30) := ⟨_, rfl⟩
  have hb0 : Below w.heap.size w W0 := by rw [hW0]; exact (Below.refl _ w).alloc (Nat.le_refl _) _
  have HCB : Hid (CB W0 w.heap.size r m) := by unfold Hid; rw [hW0]; exact CB.new w r m _
  have HW0 : Hid (W0 = w.alloc (.cells #[.int .i64 r.f, .int .i64 r.ev, .int .i64 r.ct, .int .i64 r.un, .slice m.a0 r.ds.length m.c0, .slice m.a1 r.da.length m.c1, .slice m.a2 r.mo.length m.c2, .slice m.a3 r.pl.length m.c3, .int .i64 r.wk] 30)) := hW0
  have HB0 : Hid (Below w.heap.size w W0) := hb0
  have HR0 : Hid (RAny W0 r m) := hr.on hb0
  have HM := specAsked r m s d W0 HR0.out
  clear hW0 hb0 hr
  cases h1 : mayB r s d with
  | false =>
    have HV : Hid (onB r s d = false) := by unfold Hid onB; rw [h1]; rfl
    rw [h1] at HM
    clear h1
    go_enter Tryd.func57, Tryd.ntmps57
    go_wp2_with fail
    rw [← HW0.out]
    refine HM.mono ?_
    rintro e w1 ⟨rfl, b1⟩
    have HB1 : Hid (Below w.heap.size w w1) := bstep HB0.out b1
    clear b1 HM
    go_wp2
    go_ret
    exact ⟨ret_b HV.out.symm, HB1.out⟩
  | true =>
    have HV : Hid (onB r s d = hasI ((comes r s (limT r d)).take (mostT r 20000).toNat) d) := by unfold Hid onB; rw [h1, Bool.true_and]; exact on_eq h1
    obtain ⟨hru, ⟨s0, s1⟩, ⟨d0, d1⟩, hds⟩ := may_ok h1
    have HRU : Hid (ruOf r = true) := hru
    have hT := lim_le r d
    have hll : ((comes r s (limT r d)).take (mostT r 20000).toNat).length ≤ 4000000 := by
      have := @comes_len r (ru_ok hru).1 s (limT r d) s0 s1
      rw [List.length_take]; omega
    rw [h1] at HM
    clear h1 hru
    go_enter Tryd.func57, Tryd.ntmps57
    go_wp2_with fail
    rw [← HW0.out]
    refine HM.mono ?_
    rintro e w1 ⟨rfl, b1⟩
    have HB1 : Hid (Below w.heap.size w w1) := bstep HB0.out b1
    have HR1 : Hid (RIn w1 r m) := (HR0.out.on b1).ok HRU.out
    obtain ⟨q0, q1, q2, q3, q4, q5, q6, q7, q8⟩ := HCB.out.on (b1.block _ HCB.out.lt)
    clear b1 HM
    go_wp2_with fail
    refine (specDaysL r m s d 20000 w1 HR1.out.ok HR1.out.mem HR1.out.l0 HR1.out.l1 HR1.out.l2 HR1.out.l3 (by_bd HRU.out) s0 s1 (by omega) (by omega)).mono ?_
    rintro e w2 ⟨⟨v, rfl, ov⟩, b2⟩
    have HB2 : Hid (Below w.heap.size w w2) := bstep HB1.out b2
    obtain ⟨M, hM⟩ : ∃ M, M = (comes r s (limT r d)).take (mostT r 20000).toNat := ⟨_, rfl⟩
    rw [← hM] at ov HV hll
    obtain ⟨av, cv, rfl, iv, _, _⟩ := ov.val
    have HIV : Hid (IsInts w2 av M) := iv
    clear b2 q0 q1 q2 q3 q4 q5 q6 q7 q8 ov iv hM
    go_wp2_with fail
    refine (specHas _ _ _ _ _ HIV.out hll _ rfl).mono ?_
    rintro e w3 ⟨rfl, hw3⟩
    rw [hw3]
    clear hw3
    go_wp2
    go_ret
    exact ⟨ret_b HV.out.symm, HB2.out⟩
end Go.Proofs.YtjncaeealmmhmaaDoor
namespace Go.Proofs.YtjncaeealmmhmaaDoor
open Go.RowKit Go.Shelf
set_option linter.unusedVariables false
attribute [local go_sem] Oper.semAt_some

/-- The fenced twin of wpList_append_at. -/
theorem wpListIn_append_at {F : Fence} {n : Nat} {P : Program} {w : World} {ops : Array Oper} {rest : List Oper} {o : Oper} {a : Act} {Q : Exit → Act → World → Prop} (hgd : o.guard = none) (s x : Operand) (t : TypeId)
    (ho : o.op = .call { callee := .builtin .append, args := #[s, x], argTypes := #[t, t] })
    (base : Nat) (e : TypeId) (i : TypeInfo) (z : Value) (size bytes : Nat) (ht : P.underlying t = some (.slice e)) (hi : P.info? e = some i) (hz : i.zero = some z)
    (hsize : i.size = size) (hby : i.bytes = bytes) (hzs : z.cells.size = size) (hsz : 0 < size)
    (v : Value) (k : Nat) (xs : List Value) (hs : a.eval s = v) (hown : w.ownsRow base e size v k xs)
    (ad : Addr) (m c : Nat) (news : List Value) (hx : a.eval x = .slice (some ad) m c) (hl : news.length = m * size) (hnews : ∀ j u, news[j]? = some u → w.cell? (ad.add j) = some u) (h1 : ∀ u ∈ news, u.oneCell' = true)
    (hm : 0 < m) (h63 : k + m ≤ maxLen) (hbytes : (k + m) * bytes ≤ 140737488355328) (hbase : base ≤ w.heap.size)
    (h : ∀ v' w', w'.ownsRow base e size v' (k + m) (xs ++ news) → w.grownBy w' v.ownBlock → (v'.ownBlock = v.ownBlock ∨ v'.ownBlock = some w.heap.size) → wpListIn F n P ops Q rest (a.put o.dst v') w') : wpListIn F n P ops Q (o :: rest) a w := by
  refine wpListIn_plain hgd fun K hK => ?_
  obtain ⟨v', w', hr, h2, h3, h4⟩ := run_append_own (P := P) w base t o.type e i z size bytes ht hi hz hsize hby hzs hsz v k xs hown ad m c news hl hnews h1 h63 hbytes hbase
  have h5 := run_app_where w base t o.type e i z size bytes ht hi hz hsize hby v k xs hown ad m c news hl hnews h1 hm h63 hbytes v' w' hr
  unfold Oper.wpIn
  refine ⟨?_, ?_⟩
  · simp [Oper.about, ho, resolve, Target.leads, Sem.run_pure]
  · rw [Oper.semAt_plain F _ _ (by rw [ho]; intro c hc'; cases hc')]
    simp [execOp, ho, resolve, invoke, builtin, hs, hx, hr, Result.andThen]
    exact hK _ _ (h v' w' h2 h3 h5)
theorem OI.keep {w w' : World} {B : Nat} {v : Value} {l : List Int} (h : OI w B v l) (hk : ∀ g, v.ownBlock = some g → w'.heap[g]? = w.heap[g]?) : OI w' B v l := by
  obtain ⟨h1, h2⟩ := h
  refine ⟨h1, ?_⟩
  rcases h2 with h2 | ⟨g, cap, cur, rfl, b, c, d⟩
  · exact .inl h2
  · exact .inr ⟨g, cap, cur, rfl, b, (hk g rfl).trans c, d⟩
def daysL (r : Rl) (s d : Int) : List Int := if mayB r s d = true then (comingT r s s (limT r d)).take 200 else []
/-- What stands while days are told: the list in its cell, in blocks of the rounds' own. -/
def DI (w : World) (z n : Nat) (pre : List Int) (C : Nat → Prop) (A : World) : Prop :=
  Below w.heap.size w A ∧ ∃ v, A.cell? ⟨z, 0, none⟩ = some v ∧ A.frozen? ⟨z, 0, none⟩ = false ∧ OI A (n + 2) v pre ∧ ∀ g, v.ownBlock = some g → C g
theorem DI.on {w : World} {z n : Nat} {pre : List Int} {C : Nat → Prop} {A B : World} (h : DI w z n pre C A) (hw : w.heap.size ≤ n) (hz : z < n) (ha : Agree n C A B) : DI w z n pre C B := by
  obtain ⟨hb, v, c, f, o, g⟩ := h
  refine ⟨hb.trans (ha.below hw), v, ?_, ?_, o.keep fun k hk => ha.block k (.inr (g k hk)), g⟩
  · rw [World.cell?_of_block (w := A) (a := ⟨z, 0, none⟩) (ha.block _ (.inl hz))]; exact c
  · rw [World.frozen?_of_block (w := A) (a := ⟨z, 0, none⟩) (ha.block _ (.inl hz))]; exact f
theorem DI.step {w A w4 : World} {z n : Nat} {pre : List Int} {x : Int} {v v' : Value} {C Kp : Nat → Prop} (o : Obj) (hw : w.heap.size ≤ z) (hzn : z < n) (hnA : n + 2 ≤ A.heap.size) (hKz : ¬ Kp z) (hKp : ∀ k, Kp k → k < n)
    (hC : ∀ k, C k → n + 2 ≤ k) (hB : Below w.heap.size w A) (hc : A.cell? ⟨z, 0, none⟩ = some v) (hf : A.frozen? ⟨z, 0, none⟩ = false) (hg : ∀ g, v.ownBlock = some g → C g)
    (hown : w4.ownsRow (n + 2) 3 1 v' (pre.length + 1) (pre.map (Value.int .i64) ++ [.int .i64 x])) (hgrow : (A.alloc o).grownBy w4 v.ownBlock) (hat : v'.ownBlock = v.ownBlock ∨ v'.ownBlock = some (A.heap.size + 1)) :
    w4.cell? ⟨z, 0, none⟩ = some v ∧ w4.frozen? ⟨z, 0, none⟩ = false ∧ (∃ C' : Nat → Prop, (∀ k, C' k → C k ∨ A.heap.size ≤ k) ∧ (∀ k, C' k → k < (w4.setCell ⟨z, 0, none⟩ v').heap.size) ∧ Rest n Kp C A (w4.setCell ⟨z, 0, none⟩ v') ∧ DI w z n (pre ++ [x]) C' (w4.setCell ⟨z, 0, none⟩ v')) := by
  have same : ∀ k, k < A.heap.size → some k ≠ v.ownBlock → w4.heap[k]? = A.heap[k]? := fun k hk hne =>
    (hgrow.block k (by simp; omega) hne).trans (Below.heap_alloc _ _ _ (by omega))
  have zne : some z ≠ v.ownBlock := fun e => by have := hC z (hg z e.symm); omega
  have hz := same z (by omega) zne
  have hsz : A.heap.size + 1 ≤ w4.heap.size := by have := hgrow.size; simpa using this
  have hss : (w4.setCell ⟨z, 0, none⟩ v').heap.size = w4.heap.size := by simp
  have c4 : w4.cell? ⟨z, 0, none⟩ = some v := by rw [World.cell?_of_block (w := A) (a := ⟨z, 0, none⟩) hz]; exact hc
  have f4 : w4.frozen? ⟨z, 0, none⟩ = false := by rw [World.frozen?_of_block (w := A) (a := ⟨z, 0, none⟩) hz]; exact hf
  refine ⟨c4, f4, fun k => v'.ownBlock = some k, fun k hk => ?_, fun k hk => by rw [hss]; exact (World.ownsRow.lt hown k hk).2, ?_, ?_⟩
  · rcases hat with e | e
    · rw [e] at hk; exact .inl (hg k hk)
    · rw [e] at hk; simp only [Option.some.injEq] at hk; exact .inr (by omega)
  · refine ⟨hgrow.os, hgrow.tape, hgrow.output, by omega, fun k hk hk2 => ?_⟩
    have kz : k ≠ z := by rintro rfl; rcases hk2 with h | h; exact hKz h; omega
    rw [Below.heap_setCell _ _ _ _ kz]
    refine same k hk fun e => ?_
    have hck := hg k e.symm
    rcases hk2 with h | h
    · have := hKp k h; have := hC k hck; omega
    · exact h.2 hck
  · refine ⟨hB.trans ⟨hgrow.os, hgrow.tape, hgrow.output, by omega, fun k hk => ?_⟩, v', World.cell?_setCell_same' _ _ _ (by rw [c4]; rfl), by rw [World.frozen?_setCell]; exact f4, ?_, fun g hg' => hg'⟩
    · rw [Below.heap_setCell _ _ _ _ (by show k ≠ z; omega)]
      exact same k (by have := hB.size; omega) fun e => by have := hC k (hg k e.symm); omega
    · have h4 : OI w4 (n + 2) v' (pre ++ [x]) := by unfold OI; simpa using hown
      refine h4.keep fun g hg' => Below.heap_setCell _ _ _ _ ?_
      have := (World.ownsRow.lt hown g hg').1
      show g ≠ z; omega
set_option maxRecDepth 100000 in
set_option maxHeartbeats 8000000 in
theorem implRuleDaysIn (n : Nat) (r : Rl) (m : Rm) (s d : Int) (w : World) (hr : RAny w r m) :
    CallsIn Fence.wide n Tryd.prog 9 #[.agg #[.int .i64 r.f, .int .i64 r.ev, .int .i64 r.ct, .int .i64 r.un, .slice m.a0 r.ds.length m.c0, .slice m.a1 r.da.length m.c1, .slice m.a2 r.mo.length m.c2, .slice m.a3 r.pl.length m.c3, .int .i64 r.wk], .int .i64 s, .int .i64 d] w fun e w' => (∃ v, e = .returned v ∧ OI w' w.heap.size v (daysL r s d)) ∧ Below w.heap.size w w' := by
  obtain ⟨i0, hi, hz0, hz1, hz2⟩ := info_parts intInfo
  obtain ⟨W0, hW0⟩ : ∃ W0, W0 = w.alloc (.cells #[.int .i64 r.f, .int .i64 r.ev, .int .i64 r.ct, .int .i64 r.un, .slice m.a0 r.ds.length m.c0, .slice m.a1 r.da.length m.c1, .slice m.a2 r.mo.length m.c2, .slice m.a3 r.pl.length m.c3, .int .i64 r.wk] 30) := ⟨_, rfl⟩
  have hb0 : Below w.heap.size w W0 := by rw [hW0]; exact (Below.refl _ w).alloc (Nat.le_refl _) _
  have hs0 : W0.heap.size = w.heap.size + 1 := by rw [hW0]; simp
  have HCB : Hid (CB W0 w.heap.size r m) := by unfold Hid; rw [hW0]; exact CB.new w r m _
  have HW0 : Hid (W0 = w.alloc (.cells #[.int .i64 r.f, .int .i64 r.ev, .int .i64 r.ct, .int .i64 r.un, .slice m.a0 r.ds.length m.c0, .slice m.a1 r.da.length m.c1, .slice m.a2 r.mo.length m.c2, .slice m.a3 r.pl.length m.c3, .int .i64 r.wk] 30)) := hW0
  have HB0 : Hid (Below w.heap.size w W0) := hb0
  have HR0 : Hid (RAny W0 r m) := hr.on hb0
  have HM := implMayAsk r m s d W0 HR0.out
  have HG : Hid (0 < w.heap.size) := hr.tab.lt
  have HRM : Hid (RMem w r m) := hr.mem
  clear hW0 hb0 hr
  cases h1 : mayB r s d with
  | false =>
    have HV : Hid (daysL r s d = []) := by unfold Hid daysL; rw [h1]; rfl
    rw [h1] at HM
    clear h1
    refine callsIn_of_wp_marks Tryd.func9 rfl trivial ?_ rfl
    simp only [Tryd.ntmps9, List.size_toArray, List.length_cons, List.length_nil, Nat.reduceAdd, Nat.reduceSub, Array.replicate_succ, Array.replicate_zero, List.push_toArray, List.append_toArray, List.nil_append, List.cons_append]
    gi_wp2_with fail
    refine ⟨trivial, fun h => (by cases h), ?_⟩
    rw [← HW0.out]
    refine (callsIn_wide.2 HM).mono ?_
    rintro e w1 ⟨rfl, b1⟩
    have HB1 : Hid (Below w.heap.size w w1) := bstep HB0.out b1
    clear b1 HM
    gi_wp2
    exact ⟨.slice none 0 0, by simp [results, Tryd.results9, go_sem], ⟨_, rfl, by rw [HV.out]; exact World.ownsRow_nil _ _ _ _⟩, HB1.out⟩
  | true =>
    have HV : Hid (daysL r s d = (comingT r s s (limT r d)).take 200) := by unfold Hid daysL; rw [h1]; rfl
    obtain ⟨hru, ⟨s0, s1⟩, ⟨d0, d1⟩, _⟩ := may_ok h1
    have HRU : Hid (ruOf r = true) := hru
    rw [h1] at HM
    clear h1 hru
    refine callsIn_of_wp_marks Tryd.func9 rfl trivial ?_ rfl
    simp only [Tryd.ntmps9, List.size_toArray, List.length_cons, List.length_nil, Nat.reduceAdd, Nat.reduceSub, Array.replicate_succ, Array.replicate_zero, List.push_toArray, List.append_toArray, List.nil_append, List.cons_append]
    gi_wp2_with fail
    refine ⟨trivial, fun h => (by cases h), ?_⟩
    rw [← HW0.out]
    refine (callsIn_wide.2 HM).mono ?_
    rintro e w1 ⟨rfl, b1⟩
    have HB1 : Hid (Below w.heap.size w w1) := bstep HB0.out b1
    have HZ1 : Hid (W0.heap.size ≤ w1.heap.size) := b1.size
    obtain ⟨W2, hW2⟩ : ∃ W2, W2 = w1.alloc (.cells #[.slice none 0 0] 23) := ⟨_, rfl⟩
    have hb2 : Below w1.heap.size w1 W2 := by rw [hW2]; exact (Below.refl _ _).alloc (Nat.le_refl _) _
    have HS2 : Hid (W2.heap.size = w1.heap.size + 1) := by unfold Hid; rw [hW2]; simp
    have HF2 : Hid (CF W2 w1.heap.size #[.slice none 0 0]) := by unfold Hid; rw [hW2]; exact CF.new _ _ _
    have HW2 : Hid (W2 = w1.alloc (.cells #[.slice none 0 0] 23)) := hW2
    have HB2 : Hid (Below w.heap.size w W2) := bstep HB1.out hb2
    have HR2 : Hid (RIn W2 r m) := ((HR0.out.on b1).on hb2).ok HRU.out
    obtain ⟨q0, q1, q2, q3, q4, q5, q6, q7, q8⟩ := HCB.out.on (b1.block _ HCB.out.lt)
    have hlt : w.heap.size < w1.heap.size := by have := HZ1.out; omega
    clear b1 HM hW2 hb2
    gi_wp2_with fail
    refine ⟨trivial, fun h => (by cases h), ?_⟩
    rw [← HW2.out]
    refine (callsIn_wide.2 (implComingDays r m s s d W2)).mono ?_
    rintro e w5 ⟨rfl, b5, s5, r5, c5, f5, t5⟩
    have HBw : Hid (Below w.heap.size w w5) := bstep HB2.out b5
    have HR5 : Hid (RIn w5 r m) := HR2.out.on b5
    have HF5 : Hid (CF w5 w1.heap.size #[.slice none 0 0]) := HF2.out.below b5
    have HIT : Hid (ItOwn Fence.wide (n - 1) Tryd.prog 48 #[.pointer (some ⟨W2.heap.size, 0, none⟩), .pointer (some ⟨W2.heap.size + 1, 0, none⟩), .pointer (some ⟨W2.heap.size + 3, 0, none⟩), .pointer (some ⟨W2.heap.size + 2, 0, none⟩)] (fun d : Int => #[.int .i64 d]) (fun pre x => pre ++ [x] <+: comingT r s s (limT r d)) (ReadB r m W2.heap.size (W2.heap.size + 1) (W2.heap.size + 3) (W2.heap.size + 2))
        (fun xs => xs = comingT r s s (limT r d)) (fun pre => pre <+: comingT r s s (limT r d) ∧ pre ≠ []) w5) :=
      itComing implChoosers implCounting (n - 1) r m s s (limT r d) w5 _ _ _ _ HR5.out.ok HR5.out.l0 HR5.out.l1 HR5.out.l2 HR5.out.l3 s0 s1 HR5.out.mem (fun k hk => HR5.out.mem.blk_lt hk) HR5.out.tab r5 c5 t5 f5
    have HS5 : Hid (w5.heap.size = w1.heap.size + 5) := by unfold Hid; rw [s5, HS2.out]
    clear b5 s5 r5 c5 f5 t5
    gi_wp2
    refine wpIn_range_it (F := Fence.wide) rfl (fun h => (by cases h)) (gf := 48) (lb := #[.pointer (some ⟨W2.heap.size, 0, none⟩), .pointer (some ⟨W2.heap.size + 1, 0, none⟩), .pointer (some ⟨W2.heap.size + 3, 0, none⟩), .pointer (some ⟨W2.heap.size + 2, 0, none⟩)]) rfl trivial (enters_of Tryd.func48 (by kernel_rfl) rfl)
      HIT.out (fun j hj => by
        have a1 := HS5.out; have a2 := HS2.out; have a3 := HG.out; have a4 := HZ1.out
        rcases hj with rfl | rfl | rfl | rfl | rfl | h
        · omega
        · omega
        · omega
        · omega
        · omega
        · have := HRM.out.blk_lt h; omega) (Below.refl _ _) (fun _ => rfl)
      (fun pre C A => pre.length < 200 ∧ DI w w1.heap.size w5.heap.size pre C A)
      (fun c pre C A => c = .exit 0 ∧ pre.length = 200 ∧ DI w w1.heap.size w5.heap.size pre C A)
      (fun p C A B h hab => ⟨h.1, h.2.on (by have := HS5.out; omega) (by have := HS5.out; omega) hab⟩)
      (fun c p C A B h hab => ⟨h.1, h.2.1, h.2.2.on (by have := HS5.out; omega) (by have := HS5.out; omega) hab⟩)
      ⟨by simp, HBw.out, .slice none 0 0, (HF5.out.2 0 _ rfl).1, (HF5.out.2 0 _ rfl).2, World.ownsRow_nil _ _ _ _, fun g hg => by cases hg⟩
      (fun x a' b A => ∃ u9 u10 u11 u12 u13 u20 u21 u22 u23 u24 u25 u26 u27, a' = { tmps := #[.agg #[.int .i64 r.f, .int .i64 r.ev, .int .i64 r.ct, .int .i64 r.un, .slice m.a0 r.ds.length m.c0, .slice m.a1 r.da.length m.c1, .slice m.a2 r.mo.length m.c2, .slice m.a3 r.pl.length m.c3, .int .i64 r.wk], .int .i64 s, .int .i64 d, .pointer (some ⟨w.heap.size, 0, none⟩), undef, undef, .slice none 0 0, .pointer (some ⟨w1.heap.size, 0, none⟩), .int .i64 x, u9, u10, u11, u12, u13, .agg #[.int .i64 r.f, .int .i64 r.ev, .int .i64 r.ct, .int .i64 r.un, .slice m.a0 r.ds.length m.c0, .slice m.a1 r.da.length m.c1, .slice m.a2 r.mo.length m.c2, .slice m.a3 r.pl.length m.c3, .int .i64 r.wk], .int .i64 s, .int .i64 s, .int .i64 d, .func (.func 48) #[] #[.pointer (some ⟨W2.heap.size, 0, none⟩), .pointer (some ⟨W2.heap.size + 1, 0, none⟩), .pointer (some ⟨W2.heap.size + 3, 0, none⟩), .pointer (some ⟨W2.heap.size + 2, 0, none⟩)], .int .i64 x, u20, u21, u22, u23, u24, u25, u26, u27], defers := [] })
      (fun x a' b A B h hk => h)
      ?assign ?body ?done ?stop
    case assign =>
      intro l0 x A K hA hK
      gi_wp2
      exact hK _ _ (Below.refl _ A) ⟨_, _, _, _, _, _, _, _, _, _, _, _, _, rfl⟩
    case body =>
      rintro l0 pre x a' b C A hb1 hb2 hC ⟨hlen, hB, v, hc, hf, ho, hg⟩ ⟨u9, u10, u11, u12, u13, u20, u21, u22, u23, u24, u25, u26, u27, rfl⟩ hNx
      have HBA : Hid (Below w.heap.size w A) := hB
      have HC : Hid (∀ k, C k → w5.heap.size + 2 ≤ k ∧ k < b) := hC
      have HOV : Hid (∀ g, v.ownBlock = some g → C g) := hg
      have HNX : Hid (pre ++ [x] <+: comingT r s s (limT r d)) := hNx
      have hzA : w1.heap.size < A.heap.size := by have := HS5.out; omega
      have HO : Hid (OI A (w5.heap.size + 2) v pre) := ho
      clear hB hC hg hNx ho
      have HSTEP : Hid (∀ (v' : Value) (w4 : World), w4.ownsRow (w5.heap.size + 2) 3 1 v' (pre.length + 1) (pre.map (Value.int .i64) ++ [.int .i64 x]) → (A.alloc (.cells #[.int .i64 x] 3)).grownBy w4 v.ownBlock → (v'.ownBlock = v.ownBlock ∨ v'.ownBlock = some (A.heap.size + 1)) →
          w4.cell? ⟨w1.heap.size, 0, none⟩ = some v ∧ w4.frozen? ⟨w1.heap.size, 0, none⟩ = false ∧ (∃ C' : Nat → Prop, (∀ k, C' k → C k ∨ A.heap.size ≤ k) ∧ (∀ k, C' k → k < (w4.setCell ⟨w1.heap.size, 0, none⟩ v').heap.size) ∧ Rest w5.heap.size (ReadB r m W2.heap.size (W2.heap.size + 1) (W2.heap.size + 3) (W2.heap.size + 2)) C A (w4.setCell ⟨w1.heap.size, 0, none⟩ v') ∧ DI w w1.heap.size w5.heap.size (pre ++ [x]) C' (w4.setCell ⟨w1.heap.size, 0, none⟩ v'))) := by
        intro v' w4 hown hgrow hat
        have a1 := HS5.out; have a2 := HS2.out; have a3 := HG.out
        refine DI.step (.cells #[.int .i64 x] 3) (by omega) (by omega) (by omega) ?_ ?_ (fun k hk => (HC.out k hk).1) HBA.out hc hf HOV.out hown hgrow hat
        · rintro (h | h | h | h | h | h)
          · omega
          · omega
          · omega
          · omega
          · omega
          · have := HRM.out.blk_lt h; omega
        · rintro k (h | h | h | h | h | h)
          · omega
          · omega
          · omega
          · omega
          · omega
          · have := HRM.out.blk_lt h; omega
      by_cases hle : pre.length + 1 = 200
      · have hle2 : (pre.length : Int) + 1 = 200 := by omega
        gi_wp2_with (first
          | (gi_at_builtin; refine wpListIn_append_at rfl _ _ 23 rfl (w5.heap.size + 2) 3 i0 (.int .i64 0) 1 8 Tryd.underlying23 hi hz0 hz1 hz2 rfl (by decide) _ _ _ rfl (World.ownsRow.alloc HO.out _) ⟨_, 0, none⟩ 1 1 [.int .i64 x] rfl rfl (cell_one_new _ _ _) (by simp [Value.oneCell']) (by decide) (by unfold maxLen; omega) (by omega) (by simp; omega) ?_; intro v' w4 hown hgrow hat; obtain ⟨c4, f4, FIN⟩ := HSTEP.out v' w4 hown hgrow (hat.imp (fun h => h) (fun h => h.trans (by simp))); obtain ⟨g', cap', rfl⟩ := ownsRow_succ hown; rw [hle] at FIN; have HFF := (show Hid _ from FIN); clear hown hgrow hat FIN hc hf))
        obtain ⟨C', k1, k2, k3, k4⟩ := HFF.out
        exact ⟨C', k1, k2, k3, rfl, by simp; omega, k4⟩
      · have hle2 : ¬ (pre.length : Int) + 1 = 200 := by omega
        gi_wp2_with (first
          | (gi_at_builtin; refine wpListIn_append_at rfl _ _ 23 rfl (w5.heap.size + 2) 3 i0 (.int .i64 0) 1 8 Tryd.underlying23 hi hz0 hz1 hz2 rfl (by decide) _ _ _ rfl (World.ownsRow.alloc HO.out _) ⟨_, 0, none⟩ 1 1 [.int .i64 x] rfl rfl (cell_one_new _ _ _) (by simp [Value.oneCell']) (by decide) (by unfold maxLen; omega) (by omega) (by simp; omega) ?_; intro v' w4 hown hgrow hat; obtain ⟨c4, f4, FIN⟩ := HSTEP.out v' w4 hown hgrow (hat.imp (fun h => h) (fun h => h.trans (by simp))); obtain ⟨g', cap', rfl⟩ := ownsRow_succ hown; have HFF := (show Hid _ from FIN); clear hown hgrow hat FIN hc hf))
        obtain ⟨C', k1, k2, k3, k4⟩ := HFF.out
        exact ⟨C', k1, k2, k3, by simp; omega, k4⟩
    case done =>
      rintro xs C A hC hS ⟨hlen, hB, v, hc, hf, ho, hg⟩ hD
      have HBA : Hid (Below w.heap.size w A) := hB
      have HO : Hid (OI A (w5.heap.size + 2) v xs) := ho
      have HXS : Hid (xs = daysL r s d) := by unfold Hid; rw [HV.out, ← hS, List.take_of_length_le (by omega)]
      have HD : Hid (A.heap[w5.heap.size]? = some (.deferred (some []))) := hD
      clear hS hB ho hg hD
      gi_wp2
      refine ⟨by simp, .inl ⟨_, _, rfl, run_takeDeferred HD.out, ?_⟩⟩
      have hbz : Below w.heap.size w (A.putObj w5.heap.size (.deferred none)) := HBA.out.trans ((Agree.putObj (n := w.heap.size) (C := fun _ => False) A w5.heap.size (.deferred none) (by have := HS5.out; omega) (fun h => h)).below (Nat.le_refl _))
      have hoz : OI (A.putObj w5.heap.size (.deferred none)) w.heap.size v (daysL r s d) := by
        rw [← HXS.out]
        refine (HO.out.keep fun g hg => World.putObj_heap_other ?_).base (by have := HS5.out; omega)
        have := (World.ownsRow.lt HO.out g hg).1
        omega
      exact ⟨v, by simp [results, Tryd.results9, go_sem], ⟨v, rfl, hoz⟩, hbz⟩
    case stop =>
      rintro c pre C A hC hSp ⟨rfl, hlen, hB, v, hc, hf, ho, hg⟩ hD
      have HBA : Hid (Below w.heap.size w A) := hB
      have HO : Hid (OI A (w5.heap.size + 2) v pre) := ho
      have HXS : Hid (pre = daysL r s d) := by
        unfold Hid
        rw [HV.out, ← hlen]
        obtain ⟨y, hy⟩ := hSp.1
        rw [← hy, List.take_left']
        rfl
      have HD : Hid (A.heap[w5.heap.size]? = some (.deferred (some []))) := hD
      clear hSp hB ho hg hD
      gi_wp2
      refine ⟨by simp, .inl ⟨_, _, rfl, run_takeDeferred HD.out, ?_⟩⟩
      have hbz : Below w.heap.size w (A.putObj w5.heap.size (.deferred none)) := HBA.out.trans ((Agree.putObj (n := w.heap.size) (C := fun _ => False) A w5.heap.size (.deferred none) (by have := HS5.out; omega) (fun h => h)).below (Nat.le_refl _))
      have hoz : OI (A.putObj w5.heap.size (.deferred none)) w.heap.size v (daysL r s d) := by
        rw [← HXS.out]
        refine (HO.out.keep fun g hg => World.putObj_heap_other ?_).base (by have := HS5.out; omega)
        have := (World.ownsRow.lt HO.out g hg).1
        omega
      exact ⟨v, by simp [results, Tryd.results9, go_sem], ⟨v, rfl, hoz⟩, hbz⟩
theorem implRuleDays (r : Rl) (m : Rm) (s d : Int) (w : World) (hr : RAny w r m) :
    Calls Tryd.prog 9 #[.agg #[.int .i64 r.f, .int .i64 r.ev, .int .i64 r.ct, .int .i64 r.un, .slice m.a0 r.ds.length m.c0, .slice m.a1 r.da.length m.c1, .slice m.a2 r.mo.length m.c2, .slice m.a3 r.pl.length m.c3, .int .i64 r.wk], .int .i64 s, .int .i64 d] w fun e w' => (∃ v, e = .returned v ∧ OI w' w.heap.size v (daysL r s d)) ∧ Below w.heap.size w w' :=
  callsIn_wide.1 (implRuleDaysIn 9 r m s d w hr)
end Go.Proofs.YtjncaeealmmhmaaDoor
namespace Go.Proofs.YtjncaeealmmhmaaDoor
open Go.RowKit Go.Shelf
set_option linter.unusedVariables false
theorem OI.lit (w : World) (B : Nat) (hB : B ≤ w.heap.size) : OI (w.alloc (.cells #[] 3)) B (.slice (some ⟨w.heap.size, 0, none⟩) 0 0) [] :=
  ⟨rfl, .inr ⟨w.heap.size, 0, #[], rfl, hB, World.alloc_heap_new _ _, Nat.le_refl _, by decide, rfl, rfl⟩⟩
theorem coming_start (r : Rl) (s T : Int) : comingT r s s T = tk r.ct (comes r s T) := by
  unfold comingT
  rw [List.filter_eq_self]
  intro x hx
  have hm : x ∈ comes r s T := by
    unfold tk at hx
    split at hx
    · exact hx
    · exact List.mem_of_mem_take hx
  have := comes_mem hm
  simp; omega
theorem days_eq {r : Rl} {s d : Int} (h : mayB r s d = true) : daysL r s d = (comes r s (limT r d)).take (mostT r 200).toNat := by
  obtain ⟨hru, _, _, _⟩ := may_ok h
  have hr := (ru_ok hru).1
  have c0 := hr.c0
  unfold daysL
  rw [if_pos h, coming_start]
  unfold tk mostT
  by_cases hc : r.ct = 0
  · rw [if_pos hc, if_neg (by omega)]; rfl
  · rw [if_neg hc, List.take_take]
    congr 1
    split <;> omega
theorem days_len (r : Rl) (s d : Int) : (daysL r s d).length ≤ 200 := by
  unfold daysL
  split
  · rw [List.length_take]; omega
  · simp
set_option maxHeartbeats 4000000 in
theorem specRuleDays (r : Rl) (m : Rm) (s d : Int) (w : World) (hr : RAny w r m) :
    Calls Tryd.prog 7 #[.agg #[.int .i64 r.f, .int .i64 r.ev, .int .i64 r.ct, .int .i64 r.un, .slice m.a0 r.ds.length m.c0, .slice m.a1 r.da.length m.c1, .slice m.a2 r.mo.length m.c2, .slice m.a3 r.pl.length m.c3, .int .i64 r.wk], .int .i64 s, .int .i64 d] w fun e w' => (∃ v, e = .returned v ∧ OI w' w.heap.size v (daysL r s d)) ∧ Below w.heap.size w w' := by
  obtain ⟨W0, hW0⟩ : ∃ W0, W0 = w.alloc (.cells #[.int .i64 r.f, .int .i64 r.ev, .int .i64 r.ct, .int .i64 r.un, .slice m.a0 r.ds.length m.c0, .slice m.a1 r.da.length m.c1, .slice m.a2 r.mo.length m.c2, .slice m.a3 r.pl.length m.c3, .int .i64 r.wk] 30) := ⟨_, rfl⟩
  have hb0 : Below w.heap.size w W0 := by rw [hW0]; exact (Below.refl _ w).alloc (Nat.le_refl _) _
  have HCB : Hid (CB W0 w.heap.size r m) := by unfold Hid; rw [hW0]; exact CB.new w r m _
  have HW0 : Hid (W0 = w.alloc (.cells #[.int .i64 r.f, .int .i64 r.ev, .int .i64 r.ct, .int .i64 r.un, .slice m.a0 r.ds.length m.c0, .slice m.a1 r.da.length m.c1, .slice m.a2 r.mo.length m.c2, .slice m.a3 r.pl.length m.c3, .int .i64 r.wk] 30)) := hW0
  have HB0 : Hid (Below w.heap.size w W0) := hb0
  have HR0 : Hid (RAny W0 r m) := hr.on hb0
  have HM := specAsked r m s d W0 HR0.out
  clear hW0 hb0 hr
  cases h1 : mayB r s d with
  | false =>
    have HV : Hid (daysL r s d = []) := by unfold Hid daysL; rw [h1]; rfl
    rw [h1] at HM
    clear h1
    go_enter Tryd.func7, Tryd.ntmps7
    go_wp2_with fail
    rw [← HW0.out]
    refine HM.mono ?_
    rintro e w1 ⟨rfl, b1⟩
    have HB1 : Hid (Below w.heap.size w w1) := bstep HB0.out b1
    clear b1 HM
    go_wp2
    go_ret
    exact ⟨⟨_, rfl, by rw [HV.out]; exact OI.lit w1 _ HB1.out.size⟩, HB1.out.alloc HB1.out.size _⟩
  | true =>
    have HV : Hid (daysL r s d = (comes r s (limT r d)).take (mostT r 200).toNat) := days_eq h1
    obtain ⟨hru, ⟨s0, s1⟩, ⟨d0, d1⟩, hds⟩ := may_ok h1
    have HRU : Hid (ruOf r = true) := hru
    rw [h1] at HM
    clear h1 hru
    go_enter Tryd.func7, Tryd.ntmps7
    go_wp2_with fail
    rw [← HW0.out]
    refine HM.mono ?_
    rintro e w1 ⟨rfl, b1⟩
    have HB1 : Hid (Below w.heap.size w w1) := bstep HB0.out b1
    have HR1 : Hid (RIn w1 r m) := (HR0.out.on b1).ok HRU.out
    obtain ⟨q0, q1, q2, q3, q4, q5, q6, q7, q8⟩ := HCB.out.on (b1.block _ HCB.out.lt)
    clear b1 HM
    go_wp2_with fail
    refine (specDaysL r m s d 200 w1 HR1.out.ok HR1.out.mem HR1.out.l0 HR1.out.l1 HR1.out.l2 HR1.out.l3 (by_bd HRU.out) s0 s1 (by omega) (by omega)).mono ?_
    rintro e w2 ⟨⟨v, rfl, ov⟩, b2⟩
    have HB2 : Hid (Below w.heap.size w w2) := bstep HB1.out b2
    rw [← HV.out] at ov
    have HO : Hid (OI w2 w.heap.size v (daysL r s d)) := ov.base HB1.out.size
    clear b2 q0 q1 q2 q3 q4 q5 q6 q7 q8 ov
    go_wp2
    go_ret
    exact ⟨⟨_, rfl, HO.out⟩, HB2.out⟩
end Go.Proofs.YtjncaeealmmhmaaDoor
namespace Go.Proofs.YtjncaeealmmhmaaDoor
open Go.RowKit Go.Shelf
set_option linter.unusedVariables false

theorem perP_min (r : Rl) (s te : Int) : perP r s (min te 3652058) = perP r s te := by
  funext j
  unfold perP
  rw [decide_eq_decide]
  omega
theorem comes_min {r : Rl} (hr : ROk r) {s te : Int} (h0 : 0 ≤ s) (h1 : s ≤ 3652058) : comes r s (min te 3652058) = comes r s te := by
  unfold comes perN
  rw [perP_min]
  unfold XF
  refine List.filter_congr ?_
  intro x hx
  have := AL_mem hr h0 h1 hx
  rw [decide_eq_decide]
  omega
theorem lim_min (r : Rl) (x : Int) : limT r (min x 3652058) = min (limT r x) (min (limT r x) 3652058) ∨ (limT r (min x 3652058) ≤ 3652058 ∧ limT r (min x 3652058) = min (limT r x) 3652058) := by
  unfold limT
  split <;> split <;> omega
def nxT (s d : Int) : Int := min (min (d + 366) (s + 11000)) 3652058
/-- The first of some days that is at least so late. -/
def geL (d : Int) (l : List Int) : List Int := l.filter fun x => decide (d ≤ x)
def nxM (r : Rl) (s d : Int) : List Int := (comes r s (limT r (nxT s d))).take (mostT r 20000).toNat
theorem next_eq {r : Rl} {s d : Int} (h : mayB r s d = true) : nextV r s d = firstT (geL d (nxM r s d)) := by
  obtain ⟨hru, ⟨s0, s1⟩, ⟨d0, d1⟩, hds⟩ := may_ok h
  have hr := (ru_ok hru).1
  have u0 := hr.u0; have u1 := hr.u1
  unfold nextV nxM geL comingT
  rw [if_pos h]
  have hl := lim_le r (min (d + 366) (s + 11000))
  rw [tk_most hr s0 s1 (by omega)]
  have e : comes r s (limT r (nxT s d)) = comes r s (limT r (min (d + 366) (s + 11000))) := by
    rw [← comes_min hr (te := limT r (min (d + 366) (s + 11000))) s0 s1, ← comes_min hr (te := limT r (nxT s d)) s0 s1]
    congr 1
    unfold nxT limT
    split <;> split <;> omega
  rw [e]
theorem geL_none {d : Int} {l : List Int} (h : ∀ j, j < l.length → gi l j < d) : geL d l = [] := by
  unfold geL
  rw [List.filter_eq_nil_iff]
  intro x hx
  obtain ⟨i, hi, e⟩ := List.getElem_of_mem hx
  have := h i hi
  unfold gi at this
  rw [List.getD_eq_getElem?_getD, List.getElem?_eq_getElem hi] at this
  simp at this ⊢
  omega
theorem geL_at {d : Int} {l : List Int} {i : Nat} (hi : i < l.length) (h : ∀ j, j < i → gi l j < d) (hd : d ≤ gi l i) : firstT (geL d l) = gi l i := by
  have e : l = l.take i ++ l.drop i := (List.take_append_drop i l).symm
  have e1 : geL d (l.take i) = [] := geL_none (by
    intro j hj
    rw [List.length_take] at hj
    have := h j (by omega)
    unfold gi at this ⊢
    rw [List.getD_eq_getElem?_getD] at this ⊢
    rw [List.getElem?_take_of_lt (by omega)]
    exact this)
  have e2 : l.drop i = gi l i :: l.drop (i + 1) := by
    rw [List.drop_eq_getElem_cons hi]
    unfold gi
    rw [List.getD_eq_getElem?_getD, List.getElem?_eq_getElem hi]
    rfl
  have e3 : geL d l = geL d (l.take i) ++ geL d (l.drop i) := by
    unfold geL; rw [← List.filter_append, List.take_append_drop]
  rw [e3, e1, e2]
  unfold geL firstT
  simp [hd]
set_option maxHeartbeats 4000000 in
theorem specRuleNext (r : Rl) (m : Rm) (s d : Int) (w : World) (hr : RAny w r m) :
    Calls Tryd.prog 15 #[.agg #[.int .i64 r.f, .int .i64 r.ev, .int .i64 r.ct, .int .i64 r.un, .slice m.a0 r.ds.length m.c0, .slice m.a1 r.da.length m.c1, .slice m.a2 r.mo.length m.c2, .slice m.a3 r.pl.length m.c3, .int .i64 r.wk], .int .i64 s, .int .i64 d] w fun e w' => e = .returned (.int .i64 (nextV r s d)) ∧ Below w.heap.size w w' := by
  obtain ⟨W0, hW0⟩ : ∃ W0, W0 = w.alloc (.cells #[.int .i64 r.f, .int .i64 r.ev, .int .i64 r.ct, .int .i64 r.un, .slice m.a0 r.ds.length m.c0, .slice m.a1 r.da.length m.c1, .slice m.a2 r.mo.length m.c2, .slice m.a3 r.pl.length m.c3, .int .i64 r.wk] 30) := ⟨_, rfl⟩
  have hb0 : Below w.heap.size w W0 := by rw [hW0]; exact (Below.refl _ w).alloc (Nat.le_refl _) _
  have HCB : Hid (CB W0 w.heap.size r m) := by unfold Hid; rw [hW0]; exact CB.new w r m _
  have HW0 : Hid (W0 = w.alloc (.cells #[.int .i64 r.f, .int .i64 r.ev, .int .i64 r.ct, .int .i64 r.un, .slice m.a0 r.ds.length m.c0, .slice m.a1 r.da.length m.c1, .slice m.a2 r.mo.length m.c2, .slice m.a3 r.pl.length m.c3, .int .i64 r.wk] 30)) := hW0
  have HB0 : Hid (Below w.heap.size w W0) := hb0
  have HR0 : Hid (RAny W0 r m) := hr.on hb0
  have HM := specAsked r m s d W0 HR0.out
  clear hW0 hb0 hr
  cases h1 : mayB r s d with
  | false =>
    have HV : Hid (nextV r s d = -1) := by unfold Hid nextV; rw [h1]; rfl
    rw [h1] at HM
    clear h1
    go_enter Tryd.func15, Tryd.ntmps15
    go_wp2_with fail
    rw [← HW0.out]
    refine HM.mono ?_
    rintro e w1 ⟨rfl, b1⟩
    have HB1 : Hid (Below w.heap.size w w1) := bstep HB0.out b1
    clear b1 HM
    go_wp2
    go_ret
    exact ⟨ret_i HV.out.symm, HB1.out⟩
  | true =>
    have HV : Hid (nextV r s d = firstT (geL d (nxM r s d))) := next_eq h1
    obtain ⟨hru, ⟨s0, s1⟩, ⟨d0, d1⟩, hds⟩ := may_ok h1
    have HRU : Hid (ruOf r = true) := hru
    have hT := lim_le r (nxT s d)
    have hNT : nxT s d ≤ s + 11000 := by unfold nxT; omega
    have hll : (nxM r s d).length ≤ 4000000 := by
      have := @comes_len r (ru_ok hru).1 s (limT r (nxT s d)) s0 s1
      unfold nxM
      rw [List.length_take]; omega
    rw [h1] at HM
    clear h1 hru
    obtain ⟨T, hTT⟩ : ∃ T, T = nxT s d := ⟨_, rfl⟩
    have HT2 : Hid (T = min (min (d + 366) (s + 11000)) 3652058) := hTT
    have HNX : Hid (nxM r s d = (comes r s (limT r T)).take (mostT r 20000).toNat) := by unfold Hid; rw [hTT]; rfl
    clear hTT hT hNT
    go_enter Tryd.func15, Tryd.ntmps15
    go_wp2_with fail
    rw [← HW0.out]
    refine HM.mono ?_
    rintro e w1 ⟨rfl, b1⟩
    have HB1 : Hid (Below w.heap.size w w1) := bstep HB0.out b1
    have HR1 : Hid (RIn w1 r m) := (HR0.out.on b1).ok HRU.out
    obtain ⟨q0, q1, q2, q3, q4, q5, q6, q7, q8⟩ := HCB.out.on (b1.block _ HCB.out.lt)
    clear b1 HM
    by_cases c1 : s + 11000 < d + 366 <;> by_cases c2 : 3652058 < min (d + 366) (s + 11000)
    · have HTX : Hid (T = 3652058) := by unfold Hid; rw [HT2.out]; omega
      have HNY : Hid (nxM r s d = (comes r s (limT r (3652058))).take (mostT r 20000).toNat) := by unfold Hid; rw [HNX.out, HTX.out]
      clear HNX HTX HT2
      go_wp2_with fail
      refine (specDaysL r m s (3652058) 20000 w1 HR1.out.ok HR1.out.mem HR1.out.l0 HR1.out.l1 HR1.out.l2 HR1.out.l3 (by_bd HRU.out) s0 s1 (by omega) (by omega)).mono ?_
      rintro e w2 ⟨⟨v, rfl, ov⟩, b2⟩
      have HB2 : Hid (Below w.heap.size w w2) := bstep HB1.out b2
      obtain ⟨M, hM⟩ : ∃ M, M = nxM r s d := ⟨_, rfl⟩
      rw [← HNY.out, ← hM] at ov
      rw [← hM] at HV hll
      obtain ⟨av, cv, rfl, iv, _, _⟩ := ov.val
      have H1 : Hid (IsInts w2 av M) := iv
      clear b2 q0 q1 q2 q3 q4 q5 q6 q7 q8 ov iv hM HNY c1 c2 s0 s1 d0 d1 hds T
      go_wp2
      go_loopw [9] (fun i wr => ∃ k : Nat, k ≤ M.length ∧ i = .int .i64 k ∧ wr = w2 ∧ ∀ j, j < k → gi M j < d) (fun i _ => M.length - (intOf i).toNat)
      case atStart => exact ⟨0, by omega, rfl, rfl, fun j hj => by omega⟩
      case round =>
        obtain ⟨k, hk, rfl, rfl, hno⟩ := hrel
        have HN : Hid (∀ j, j < k → gi M j < d) := hno
        clear hno
        by_cases hlt : k < M.length
        · have G1 := H1.out
          rcases G1 with G1 | ⟨b, o, rfl, hbs, hc⟩
          · rw [G1] at hlt; simp at hlt
          have x0 : wr.cell? ⟨b, o + k, none⟩ = some (.int .i64 (gi M k)) := hc k hlt
          clear hc
          have hi1 : (k : Int) < (M.length : Int) := by omega
          have hi0 : (0 : Int) ≤ (k : Int) := by omega
          by_cases he : d ≤ gi M k
          · go_wp2
            go_ret
            exact ⟨ret_i ((geL_at hlt HN.out he).symm.trans HV.out.symm), HB2.out⟩
          · go_wp2
            go_roundw
            case rel => exact ⟨k + 1, by omega, by go_num, by trivial, fun j hj => by
              rcases Nat.lt_or_ge j k with h' | h'
              · exact HN.out j h'
              · have : j = k := by omega
                subst this; omega⟩
            case measure => simp [intOf]; omega
        · have : k = M.length := by omega
          subst this
          have HE : Hid (firstT (geL d M) = -1) := by unfold Hid; rw [geL_none HN.out]; rfl
          go_wp2
          go_ret
          exact ⟨ret_i (HE.out.symm.trans HV.out.symm), HB2.out⟩
    · have HTX : Hid (T = s + 11000) := by unfold Hid; rw [HT2.out]; omega
      have HNY : Hid (nxM r s d = (comes r s (limT r (s + 11000))).take (mostT r 20000).toNat) := by unfold Hid; rw [HNX.out, HTX.out]
      clear HNX HTX HT2
      go_wp2_with fail
      refine (specDaysL r m s (s + 11000) 20000 w1 HR1.out.ok HR1.out.mem HR1.out.l0 HR1.out.l1 HR1.out.l2 HR1.out.l3 (by_bd HRU.out) s0 s1 (by omega) (by omega)).mono ?_
      rintro e w2 ⟨⟨v, rfl, ov⟩, b2⟩
      have HB2 : Hid (Below w.heap.size w w2) := bstep HB1.out b2
      obtain ⟨M, hM⟩ : ∃ M, M = nxM r s d := ⟨_, rfl⟩
      rw [← HNY.out, ← hM] at ov
      rw [← hM] at HV hll
      obtain ⟨av, cv, rfl, iv, _, _⟩ := ov.val
      have H1 : Hid (IsInts w2 av M) := iv
      clear b2 q0 q1 q2 q3 q4 q5 q6 q7 q8 ov iv hM HNY c1 c2 s0 s1 d0 d1 hds T
      go_wp2
      go_loopw [9] (fun i wr => ∃ k : Nat, k ≤ M.length ∧ i = .int .i64 k ∧ wr = w2 ∧ ∀ j, j < k → gi M j < d) (fun i _ => M.length - (intOf i).toNat)
      case atStart => exact ⟨0, by omega, rfl, rfl, fun j hj => by omega⟩
      case round =>
        obtain ⟨k, hk, rfl, rfl, hno⟩ := hrel
        have HN : Hid (∀ j, j < k → gi M j < d) := hno
        clear hno
        by_cases hlt : k < M.length
        · have G1 := H1.out
          rcases G1 with G1 | ⟨b, o, rfl, hbs, hc⟩
          · rw [G1] at hlt; simp at hlt
          have x0 : wr.cell? ⟨b, o + k, none⟩ = some (.int .i64 (gi M k)) := hc k hlt
          clear hc
          have hi1 : (k : Int) < (M.length : Int) := by omega
          have hi0 : (0 : Int) ≤ (k : Int) := by omega
          by_cases he : d ≤ gi M k
          · go_wp2
            go_ret
            exact ⟨ret_i ((geL_at hlt HN.out he).symm.trans HV.out.symm), HB2.out⟩
          · go_wp2
            go_roundw
            case rel => exact ⟨k + 1, by omega, by go_num, by trivial, fun j hj => by
              rcases Nat.lt_or_ge j k with h' | h'
              · exact HN.out j h'
              · have : j = k := by omega
                subst this; omega⟩
            case measure => simp [intOf]; omega
        · have : k = M.length := by omega
          subst this
          have HE : Hid (firstT (geL d M) = -1) := by unfold Hid; rw [geL_none HN.out]; rfl
          go_wp2
          go_ret
          exact ⟨ret_i (HE.out.symm.trans HV.out.symm), HB2.out⟩
    · have HTX : Hid (T = 3652058) := by unfold Hid; rw [HT2.out]; omega
      have HNY : Hid (nxM r s d = (comes r s (limT r (3652058))).take (mostT r 20000).toNat) := by unfold Hid; rw [HNX.out, HTX.out]
      clear HNX HTX HT2
      go_wp2_with fail
      refine (specDaysL r m s (3652058) 20000 w1 HR1.out.ok HR1.out.mem HR1.out.l0 HR1.out.l1 HR1.out.l2 HR1.out.l3 (by_bd HRU.out) s0 s1 (by omega) (by omega)).mono ?_
      rintro e w2 ⟨⟨v, rfl, ov⟩, b2⟩
      have HB2 : Hid (Below w.heap.size w w2) := bstep HB1.out b2
      obtain ⟨M, hM⟩ : ∃ M, M = nxM r s d := ⟨_, rfl⟩
      rw [← HNY.out, ← hM] at ov
      rw [← hM] at HV hll
      obtain ⟨av, cv, rfl, iv, _, _⟩ := ov.val
      have H1 : Hid (IsInts w2 av M) := iv
      clear b2 q0 q1 q2 q3 q4 q5 q6 q7 q8 ov iv hM HNY c1 c2 s0 s1 d0 d1 hds T
      go_wp2
      go_loopw [9] (fun i wr => ∃ k : Nat, k ≤ M.length ∧ i = .int .i64 k ∧ wr = w2 ∧ ∀ j, j < k → gi M j < d) (fun i _ => M.length - (intOf i).toNat)
      case atStart => exact ⟨0, by omega, rfl, rfl, fun j hj => by omega⟩
      case round =>
        obtain ⟨k, hk, rfl, rfl, hno⟩ := hrel
        have HN : Hid (∀ j, j < k → gi M j < d) := hno
        clear hno
        by_cases hlt : k < M.length
        · have G1 := H1.out
          rcases G1 with G1 | ⟨b, o, rfl, hbs, hc⟩
          · rw [G1] at hlt; simp at hlt
          have x0 : wr.cell? ⟨b, o + k, none⟩ = some (.int .i64 (gi M k)) := hc k hlt
          clear hc
          have hi1 : (k : Int) < (M.length : Int) := by omega
          have hi0 : (0 : Int) ≤ (k : Int) := by omega
          by_cases he : d ≤ gi M k
          · go_wp2
            go_ret
            exact ⟨ret_i ((geL_at hlt HN.out he).symm.trans HV.out.symm), HB2.out⟩
          · go_wp2
            go_roundw
            case rel => exact ⟨k + 1, by omega, by go_num, by trivial, fun j hj => by
              rcases Nat.lt_or_ge j k with h' | h'
              · exact HN.out j h'
              · have : j = k := by omega
                subst this; omega⟩
            case measure => simp [intOf]; omega
        · have : k = M.length := by omega
          subst this
          have HE : Hid (firstT (geL d M) = -1) := by unfold Hid; rw [geL_none HN.out]; rfl
          go_wp2
          go_ret
          exact ⟨ret_i (HE.out.symm.trans HV.out.symm), HB2.out⟩
    · have HTX : Hid (T = d + 366) := by unfold Hid; rw [HT2.out]; omega
      have HNY : Hid (nxM r s d = (comes r s (limT r (d + 366))).take (mostT r 20000).toNat) := by unfold Hid; rw [HNX.out, HTX.out]
      clear HNX HTX HT2
      go_wp2_with fail
      refine (specDaysL r m s (d + 366) 20000 w1 HR1.out.ok HR1.out.mem HR1.out.l0 HR1.out.l1 HR1.out.l2 HR1.out.l3 (by_bd HRU.out) s0 s1 (by omega) (by omega)).mono ?_
      rintro e w2 ⟨⟨v, rfl, ov⟩, b2⟩
      have HB2 : Hid (Below w.heap.size w w2) := bstep HB1.out b2
      obtain ⟨M, hM⟩ : ∃ M, M = nxM r s d := ⟨_, rfl⟩
      rw [← HNY.out, ← hM] at ov
      rw [← hM] at HV hll
      obtain ⟨av, cv, rfl, iv, _, _⟩ := ov.val
      have H1 : Hid (IsInts w2 av M) := iv
      clear b2 q0 q1 q2 q3 q4 q5 q6 q7 q8 ov iv hM HNY c1 c2 s0 s1 d0 d1 hds T
      go_wp2
      go_loopw [9] (fun i wr => ∃ k : Nat, k ≤ M.length ∧ i = .int .i64 k ∧ wr = w2 ∧ ∀ j, j < k → gi M j < d) (fun i _ => M.length - (intOf i).toNat)
      case atStart => exact ⟨0, by omega, rfl, rfl, fun j hj => by omega⟩
      case round =>
        obtain ⟨k, hk, rfl, rfl, hno⟩ := hrel
        have HN : Hid (∀ j, j < k → gi M j < d) := hno
        clear hno
        by_cases hlt : k < M.length
        · have G1 := H1.out
          rcases G1 with G1 | ⟨b, o, rfl, hbs, hc⟩
          · rw [G1] at hlt; simp at hlt
          have x0 : wr.cell? ⟨b, o + k, none⟩ = some (.int .i64 (gi M k)) := hc k hlt
          clear hc
          have hi1 : (k : Int) < (M.length : Int) := by omega
          have hi0 : (0 : Int) ≤ (k : Int) := by omega
          by_cases he : d ≤ gi M k
          · go_wp2
            go_ret
            exact ⟨ret_i ((geL_at hlt HN.out he).symm.trans HV.out.symm), HB2.out⟩
          · go_wp2
            go_roundw
            case rel => exact ⟨k + 1, by omega, by go_num, by trivial, fun j hj => by
              rcases Nat.lt_or_ge j k with h' | h'
              · exact HN.out j h'
              · have : j = k := by omega
                subst this; omega⟩
            case measure => simp [intOf]; omega
        · have : k = M.length := by omega
          subst this
          have HE : Hid (firstT (geL d M) = -1) := by unfold Hid; rw [geL_none HN.out]; rfl
          go_wp2
          go_ret
          exact ⟨ret_i (HE.out.symm.trans HV.out.symm), HB2.out⟩
end Go.Proofs.YtjncaeealmmhmaaDoor
namespace Go.Proofs.YtjncaeealmmhmaaDoor
open Go.RowKit
set_option linter.unusedVariables false
/-- What stands while the copy is held against the rule. -/
abbrev RK (w : World) (b b' : Nat) (v0 v1 v2 v3 v4 v5 v6 v7 v8 u4 u5 u6 u7 : Value) (a0 : Option Addr) (ds : List (Int × Int)) (a1 : Option Addr) (da : List Int) (a2 : Option Addr) (mo : List Int) (a3 : Option Addr) (pl : List Int) (A0 A1 A2 A3 : Option Addr) (W : World) : Prop :=
  W.cell? ⟨b, 0, none⟩ = some v0 ∧ W.cell? ⟨b, 1, none⟩ = some v1 ∧ W.cell? ⟨b, 2, none⟩ = some v2 ∧ W.cell? ⟨b, 3, none⟩ = some v3 ∧ W.cell? ⟨b, 4, none⟩ = some v4 ∧ W.cell? ⟨b, 5, none⟩ = some v5 ∧ W.cell? ⟨b, 6, none⟩ = some v6 ∧ W.cell? ⟨b, 7, none⟩ = some v7 ∧ W.cell? ⟨b, 8, none⟩ = some v8 ∧ W.cell? ⟨b', 0, none⟩ = some v0 ∧ W.cell? ⟨b', 1, none⟩ = some v1 ∧ W.cell? ⟨b', 2, none⟩ = some v2 ∧ W.cell? ⟨b', 3, none⟩ = some v3 ∧ W.cell? ⟨b', 4, none⟩ = some u4 ∧ W.cell? ⟨b', 5, none⟩ = some u5 ∧ W.cell? ⟨b', 6, none⟩ = some u6 ∧ W.cell? ⟨b', 7, none⟩ = some u7 ∧ W.cell? ⟨b', 8, none⟩ = some v8 ∧ IsTurns W a0 ds ∧ IsInts W a1 da ∧ IsInts W a2 mo ∧ IsInts W a3 pl ∧ IsTurns W A0 ds ∧ IsInts W A1 da ∧ IsInts W A2 mo ∧ IsInts W A3 pl ∧ Below w.heap.size w W
theorem RK.mk {w W : World} {b b' : Nat} {v0 v1 v2 v3 v4 v5 v6 v7 v8 u4 u5 u6 u7 : Value} {a0 : Option Addr} {ds : List (Int × Int)} {a1 : Option Addr} {da : List Int} {a2 : Option Addr} {mo : List Int} {a3 : Option Addr} {pl : List Int} {A0 A1 A2 A3 : Option Addr} {w1 : World}
    (h : QR w b v0 v1 v2 v3 v4 v5 v6 v7 v8 a0 ds a1 da a2 mo a3 pl W) (k : QR w1 b' v0 v1 v2 v3 u4 u5 u6 u7 v8 A0 ds A1 da A2 mo A3 pl W) : RK w b b' v0 v1 v2 v3 v4 v5 v6 v7 v8 u4 u5 u6 u7 a0 ds a1 da a2 mo a3 pl A0 A1 A2 A3 W := by
  obtain ⟨x0, x1, x2, x3, x4, x5, x6, x7, x8, T, I1, I2, I3, B⟩ := h
  obtain ⟨y0, y1, y2, y3, y4, y5, y6, y7, y8, T', J1, J2, J3, _⟩ := k
  exact ⟨x0, x1, x2, x3, x4, x5, x6, x7, x8, y0, y1, y2, y3, y4, y5, y6, y7, y8, T, I1, I2, I3, T', J1, J2, J3, B⟩
theorem RK.q1 {w W : World} {b b' : Nat} {v0 v1 v2 v3 v4 v5 v6 v7 v8 u4 u5 u6 u7 : Value} {a0 : Option Addr} {ds : List (Int × Int)} {a1 : Option Addr} {da : List Int} {a2 : Option Addr} {mo : List Int} {a3 : Option Addr} {pl : List Int} {A0 A1 A2 A3 : Option Addr}
    (h : RK w b b' v0 v1 v2 v3 v4 v5 v6 v7 v8 u4 u5 u6 u7 a0 ds a1 da a2 mo a3 pl A0 A1 A2 A3 W) : QR w b v0 v1 v2 v3 v4 v5 v6 v7 v8 a0 ds a1 da a2 mo a3 pl W ∧ QR w b' v0 v1 v2 v3 u4 u5 u6 u7 v8 A0 ds A1 da A2 mo A3 pl W := by
  obtain ⟨x0, x1, x2, x3, x4, x5, x6, x7, x8, y0, y1, y2, y3, y4, y5, y6, y7, y8, T, I1, I2, I3, T', J1, J2, J3, B⟩ := h
  exact ⟨⟨x0, x1, x2, x3, x4, x5, x6, x7, x8, T, I1, I2, I3, B⟩, ⟨y0, y1, y2, y3, y4, y5, y6, y7, y8, T', J1, J2, J3, B⟩⟩
theorem RK.on {w W W' : World} {b b' : Nat} {v0 v1 v2 v3 v4 v5 v6 v7 v8 u4 u5 u6 u7 : Value} {a0 : Option Addr} {ds : List (Int × Int)} {a1 : Option Addr} {da : List Int} {a2 : Option Addr} {mo : List Int} {a3 : Option Addr} {pl : List Int} {A0 A1 A2 A3 : Option Addr}
    (h : RK w b b' v0 v1 v2 v3 v4 v5 v6 v7 v8 u4 u5 u6 u7 a0 ds a1 da a2 mo a3 pl A0 A1 A2 A3 W) (hb : Below W.heap.size W W') : RK w b b' v0 v1 v2 v3 v4 v5 v6 v7 v8 u4 u5 u6 u7 a0 ds a1 da a2 mo a3 pl A0 A1 A2 A3 W' := by
  obtain ⟨p, q⟩ := RK.q1 h
  exact RK.mk (p.on hb) (q.on hb)
set_option maxRecDepth 100000 in
set_option maxHeartbeats 16000000 in
theorem lawExRuleNext (f ev ct un : Int) (a0 : Option Addr) (c0 : Nat) (ds : List (Int × Int)) (a1 : Option Addr) (c1 : Nat) (da : List Int) (a2 : Option Addr) (c2 : Nat) (mo : List Int) (a3 : Option Addr) (c3 : Nat) (pl : List Int) (wk sd dd : Int) (w : World) (ht : Tab w) (h0 : IsTurns w a0 ds) (h1 : IsInts w a1 da) (h2 : IsInts w a2 mo) (h3 : IsInts w a3 pl) (m0 : ds.length ≤ maxLen) (m1 : da.length ≤ maxLen) (m2 : mo.length ≤ maxLen) (m3 : pl.length ≤ maxLen) :
    Calls Tryd.prog 4 #[.agg #[.int .i64 f, .int .i64 ev, .int .i64 ct, .int .i64 un, .slice a0 ds.length c0, .slice a1 da.length c1, .slice a2 mo.length c2, .slice a3 pl.length c3, .int .i64 wk], .int .i64 sd, .int .i64 dd] w fun z w' => z = .returned (.bool true) ∧ Below w.heap.size w w' := by
  have K : QR w w.heap.size (.int .i64 f) (.int .i64 ev) (.int .i64 ct) (.int .i64 un) (.slice a0 ds.length c0) (.slice a1 da.length c1) (.slice a2 mo.length c2) (.slice a3 pl.length c3) (.int .i64 wk) a0 ds a1 da a2 mo a3 pl (w.alloc (.cells #[.int .i64 f, .int .i64 ev, .int .i64 ct, .int .i64 un, .slice a0 ds.length c0, .slice a1 da.length c1, .slice a2 mo.length c2, .slice a3 pl.length c3, .int .i64 wk] 25)) := QR.new _ h0 h1 h2 h3
  clear h0 h1 h2 h3
  have HT : Hid (Tab w) := ht
  clear ht
  go_enter Tryd.func4, Tryd.ntmps4
  go_wp2_with fail
  generalize w.alloc (.cells #[.int .i64 f, .int .i64 ev, .int .i64 ct, .int .i64 un, .slice a0 ds.length c0, .slice a1 da.length c1, .slice a2 mo.length c2, .slice a3 pl.length c3, .int .i64 wk] 25) = W0 at K ⊢
  refine (lawSzRule _ _ _ _ _ _ _ _ _ _ _ _ _ _ _ _ _ _ m0 m1 m2 m3).mono ?_
  rintro e w1 ⟨rfl, b1⟩
  replace K := QR.on K b1
  clear b1
  by_cases hz : ds.length + da.length + mo.length + pl.length ≤ 1048576
  · have hv : szr ds.length da.length mo.length pl.length = 1048576 - (ds.length : Int) - (da.length : Int) - (mo.length : Int) - (pl.length : Int) := if_pos hz
    rw [hv]
    clear hv
    have l0 : ds.length ≤ 2000000 := by omega
    have l1 : da.length ≤ 2000000 := by omega
    have l2 : mo.length ≤ 2000000 := by omega
    have l3 : pl.length ≤ 2000000 := by omega
    have X := K
    obtain ⟨x0, x1, x2, x3, x4, x5, x6, x7, x8, _⟩ := X
    go_wp2_with fail
    refine (lawToRule f ev ct un a0 c0 ds a1 c1 da a2 c2 mo a3 c3 pl wk _ K.t K.i1 K.i2 K.i3 l0 l1 l2 l3).mono ?_
    rintro e w2 ⟨q0, q1, q2, q3, rfl, t0, t1, t2, t3, b2⟩
    replace K := QR.on K b2
    clear b2 x0 x1 x2 x3 x4 x5 x6 x7 x8
    have hsp := specRuleNext ⟨f, ev, ct, un, ds, da, mo, pl, wk⟩ ⟨some ⟨q0, 0, none⟩, ds.length, some ⟨q1, 0, none⟩, da.length, some ⟨q2, 0, none⟩, mo.length, some ⟨q3, 0, none⟩, pl.length⟩ sd dd w2 ⟨l0, l1, l2, l3, ⟨t0, t1, t2, t3⟩, HT.out.on K.b⟩
    go_wp2_with fail
    refine hsp.mono ?_
    clear hsp
    rintro e w3 ⟨rfl, b3⟩
    replace K := QR.on K b3
    clear b3 t0 t1 t2 t3
    have X := K
    obtain ⟨x0, x1, x2, x3, x4, x5, x6, x7, x8, _⟩ := X
    go_wp2_with fail
    refine (lawToRule f ev ct un a0 c0 ds a1 c1 da a2 c2 mo a3 c3 pl wk _ K.t K.i1 K.i2 K.i3 l0 l1 l2 l3).mono ?_
    rintro e w4 ⟨g0, g1, g2, g3, rfl, t0, t1, t2, t3, b4⟩
    replace K := QR.on K b4
    clear b4 x0 x1 x2 x3 x4 x5 x6 x7 x8
    have b5 : Below w4.heap.size w4 (w4.alloc (.cells #[.int .i64 f, .int .i64 ev, .int .i64 ct, .int .i64 un, .slice (some ⟨g0, 0, none⟩) ds.length ds.length, .slice (some ⟨g1, 0, none⟩) da.length da.length, .slice (some ⟨g2, 0, none⟩) mo.length mo.length, .slice (some ⟨g3, 0, none⟩) pl.length pl.length, .int .i64 wk] 30)) := (Below.refl _ _).alloc (Nat.le_refl _) _
    replace K := QR.on K b5
    have L : QR w4 w4.heap.size (.int .i64 f) (.int .i64 ev) (.int .i64 ct) (.int .i64 un) (.slice (some ⟨g0, 0, none⟩) ds.length ds.length) (.slice (some ⟨g1, 0, none⟩) da.length da.length) (.slice (some ⟨g2, 0, none⟩) mo.length mo.length) (.slice (some ⟨g3, 0, none⟩) pl.length pl.length) (.int .i64 wk) (some ⟨g0, 0, none⟩) ds (some ⟨g1, 0, none⟩) da (some ⟨g2, 0, none⟩) mo (some ⟨g3, 0, none⟩) pl (w4.alloc (.cells #[.int .i64 f, .int .i64 ev, .int .i64 ct, .int .i64 un, .slice (some ⟨g0, 0, none⟩) ds.length ds.length, .slice (some ⟨g1, 0, none⟩) da.length da.length, .slice (some ⟨g2, 0, none⟩) mo.length mo.length, .slice (some ⟨g3, 0, none⟩) pl.length pl.length, .int .i64 wk] 30)) := QR.new _ t0 t1 t2 t3
    clear b5 t0 t1 t2 t3
    go_wp2_with fail
    generalize w4.alloc (.cells #[.int .i64 f, .int .i64 ev, .int .i64 ct, .int .i64 un, .slice (some ⟨g0, 0, none⟩) ds.length ds.length, .slice (some ⟨g1, 0, none⟩) da.length da.length, .slice (some ⟨g2, 0, none⟩) mo.length mo.length, .slice (some ⟨g3, 0, none⟩) pl.length pl.length, .int .i64 wk] 30) = W5 at K L ⊢
    refine (implRuleNext ⟨f, ev, ct, un, ds, da, mo, pl, wk⟩ ⟨some ⟨g0, 0, none⟩, ds.length, some ⟨g1, 0, none⟩, da.length, some ⟨g2, 0, none⟩, mo.length, some ⟨g3, 0, none⟩, pl.length⟩ sd dd _ ⟨l0, l1, l2, l3, ⟨L.t, L.i1, L.i2, L.i3⟩, HT.out.on K.b⟩).mono ?_
    rintro e w6 ⟨rfl, b6⟩
    have M := RK.mk (QR.on K b6) (QR.on L b6)
    clear b6 K L
    go_wp2
    go_region_held3 (fun w' => w'.cell? ⟨w.heap.size, 0, none⟩ = some (.int .i64 f) ∧ w'.cell? ⟨w.heap.size, 1, none⟩ = some (.int .i64 ev) ∧ w'.cell? ⟨w.heap.size, 2, none⟩ = some (.int .i64 ct) ∧ w'.cell? ⟨w.heap.size, 3, none⟩ = some (.int .i64 un) ∧ w'.cell? ⟨w.heap.size, 4, none⟩ = some (.slice a0 ds.length c0) ∧ w'.cell? ⟨w.heap.size, 5, none⟩ = some (.slice a1 da.length c1) ∧ w'.cell? ⟨w.heap.size, 6, none⟩ = some (.slice a2 mo.length c2) ∧ w'.cell? ⟨w.heap.size, 7, none⟩ = some (.slice a3 pl.length c3) ∧ w'.cell? ⟨w.heap.size, 8, none⟩ = some (.int .i64 wk) ∧ w'.cell? ⟨w4.heap.size, 0, none⟩ = some (.int .i64 f) ∧ w'.cell? ⟨w4.heap.size, 1, none⟩ = some (.int .i64 ev) ∧ w'.cell? ⟨w4.heap.size, 2, none⟩ = some (.int .i64 ct) ∧ w'.cell? ⟨w4.heap.size, 3, none⟩ = some (.int .i64 un) ∧ w'.cell? ⟨w4.heap.size, 4, none⟩ = some (.slice (some ⟨g0, 0, none⟩) ds.length ds.length) ∧ w'.cell? ⟨w4.heap.size, 5, none⟩ = some (.slice (some ⟨g1, 0, none⟩) da.length da.length) ∧ w'.cell? ⟨w4.heap.size, 6, none⟩ = some (.slice (some ⟨g2, 0, none⟩) mo.length mo.length) ∧ w'.cell? ⟨w4.heap.size, 7, none⟩ = some (.slice (some ⟨g3, 0, none⟩) pl.length pl.length) ∧ w'.cell? ⟨w4.heap.size, 8, none⟩ = some (.int .i64 wk) ∧ IsTurns w' a0 ds ∧ IsInts w' a1 da ∧ IsInts w' a2 mo ∧ IsInts w' a3 pl ∧ IsTurns w' (some ⟨g0, 0, none⟩) ds ∧ IsInts w' (some ⟨g1, 0, none⟩) da ∧ IsInts w' (some ⟨g2, 0, none⟩) mo ∧ IsInts w' (some ⟨g3, 0, none⟩) pl ∧ Below w.heap.size w w')
      (first | assumption | exact RK.on M (Below.refl _ _).drew | exact RK.on (by assumption) hb7)
      (first
        | (go_at_call 8; refine (lawToRule f ev ct un a0 c0 ds a1 c1 da a2 c2 mo a3 c3 pl wk _ (RK.q1 (by assumption)).1.t (RK.q1 (by assumption)).1.i1 (RK.q1 (by assumption)).1.i2 (RK.q1 (by assumption)).1.i3 l0 l1 l2 l3).mono ?_; rintro e w7 ⟨p0, p1, p2, p3, rfl, s0, s1, s2, s3, hb7⟩)
        | (go_at_call 11; refine (lawEqRule _ _ _ _ _ _ ds _ _ da _ _ mo _ _ pl _ _ _ _ _ _ _ _ _ _ (RK.q1 (by assumption)).2.t (RK.q1 (by assumption)).2.i1 (RK.q1 (by assumption)).2.i2 (RK.q1 (by assumption)).2.i3 s0 s1 s2 s3 l0 l1 l2 l3).mono ?_; rintro e w8 ⟨rfl, hb7⟩))
    go_wp2
    go_ret
    exact ⟨rfl, (RK.q1 (by assumption)).1.b⟩
  · have hv : szr ds.length da.length mo.length pl.length = -1 := if_neg hz
    rw [hv]
    go_wp2
    go_ret
    exact ⟨rfl, K.b⟩
end Go.Proofs.YtjncaeealmmhmaaDoor
namespace Go.Proofs.YtjncaeealmmhmaaDoor
open Go.RowKit
set_option linter.unusedVariables false
theorem QR.re {w W : World} {b : Nat} {v0 v1 v2 v3 v4 v5 v6 v7 v8 : Value} {a0 : Option Addr} {ds : List (Int × Int)} {a1 : Option Addr} {da : List Int} {a2 : Option Addr} {mo : List Int} {a3 : Option Addr} {pl : List Int} (h : QR w b v0 v1 v2 v3 v4 v5 v6 v7 v8 a0 ds a1 da a2 mo a3 pl W) : QR W b v0 v1 v2 v3 v4 v5 v6 v7 v8 a0 ds a1 da a2 mo a3 pl W := by
  obtain ⟨x0, x1, x2, x3, x4, x5, x6, x7, x8, T, I1, I2, I3, B⟩ := h
  exact ⟨x0, x1, x2, x3, x4, x5, x6, x7, x8, T, I1, I2, I3, Below.refl _ _⟩
set_option maxRecDepth 100000 in
set_option maxHeartbeats 16000000 in
theorem lawExRuleDays (f ev ct un : Int) (a0 : Option Addr) (c0 : Nat) (ds : List (Int × Int)) (a1 : Option Addr) (c1 : Nat) (da : List Int) (a2 : Option Addr) (c2 : Nat) (mo : List Int) (a3 : Option Addr) (c3 : Nat) (pl : List Int) (wk sd dd : Int) (w : World) (ht : Tab w) (h0 : IsTurns w a0 ds) (h1 : IsInts w a1 da) (h2 : IsInts w a2 mo) (h3 : IsInts w a3 pl) (m0 : ds.length ≤ maxLen) (m1 : da.length ≤ maxLen) (m2 : mo.length ≤ maxLen) (m3 : pl.length ≤ maxLen) :
    Calls Tryd.prog 3 #[.agg #[.int .i64 f, .int .i64 ev, .int .i64 ct, .int .i64 un, .slice a0 ds.length c0, .slice a1 da.length c1, .slice a2 mo.length c2, .slice a3 pl.length c3, .int .i64 wk], .int .i64 sd, .int .i64 dd] w fun z w' => z = .returned (.bool true) ∧ Below w.heap.size w w' := by
  have K : QR w w.heap.size (.int .i64 f) (.int .i64 ev) (.int .i64 ct) (.int .i64 un) (.slice a0 ds.length c0) (.slice a1 da.length c1) (.slice a2 mo.length c2) (.slice a3 pl.length c3) (.int .i64 wk) a0 ds a1 da a2 mo a3 pl (w.alloc (.cells #[.int .i64 f, .int .i64 ev, .int .i64 ct, .int .i64 un, .slice a0 ds.length c0, .slice a1 da.length c1, .slice a2 mo.length c2, .slice a3 pl.length c3, .int .i64 wk] 25)) := QR.new _ h0 h1 h2 h3
  clear h0 h1 h2 h3
  have HT : Hid (Tab w) := ht
  clear ht
  go_enter Tryd.func3, Tryd.ntmps3
  go_wp2_with fail
  generalize w.alloc (.cells #[.int .i64 f, .int .i64 ev, .int .i64 ct, .int .i64 un, .slice a0 ds.length c0, .slice a1 da.length c1, .slice a2 mo.length c2, .slice a3 pl.length c3, .int .i64 wk] 25) = W0 at K ⊢
  have HB0 : Hid (Below w.heap.size w W0) := QR.b K
  replace K := QR.re K
  have HK0 : Hid (QR W0 w.heap.size (.int .i64 f) (.int .i64 ev) (.int .i64 ct) (.int .i64 un) (.slice a0 ds.length c0) (.slice a1 da.length c1) (.slice a2 mo.length c2) (.slice a3 pl.length c3) (.int .i64 wk) a0 ds a1 da a2 mo a3 pl W0) := K
  refine (lawSzRule _ _ _ _ _ _ _ _ _ _ _ _ _ _ _ _ _ _ m0 m1 m2 m3).mono ?_
  rintro e w1 ⟨rfl, b1⟩
  replace K := QR.on K b1
  clear b1
  by_cases hz : ds.length + da.length + mo.length + pl.length ≤ 1048576
  · have hv : szr ds.length da.length mo.length pl.length = 1048576 - (ds.length : Int) - (da.length : Int) - (mo.length : Int) - (pl.length : Int) := if_pos hz
    rw [hv]
    clear hv
    have l0 : ds.length ≤ 2000000 := by omega
    have l1 : da.length ≤ 2000000 := by omega
    have l2 : mo.length ≤ 2000000 := by omega
    have l3 : pl.length ≤ 2000000 := by omega
    have X := K
    obtain ⟨x0, x1, x2, x3, x4, x5, x6, x7, x8, _⟩ := X
    go_wp2_with fail
    refine (lawToRule f ev ct un a0 c0 ds a1 c1 da a2 c2 mo a3 c3 pl wk _ K.t K.i1 K.i2 K.i3 l0 l1 l2 l3).mono ?_
    rintro e w2 ⟨q0, q1, q2, q3, rfl, t0, t1, t2, t3, b2⟩
    replace K := QR.on K b2
    clear b2 x0 x1 x2 x3 x4 x5 x6 x7 x8
    have hsp := specRuleDays ⟨f, ev, ct, un, ds, da, mo, pl, wk⟩ ⟨some ⟨q0, 0, none⟩, ds.length, some ⟨q1, 0, none⟩, da.length, some ⟨q2, 0, none⟩, mo.length, some ⟨q3, 0, none⟩, pl.length⟩ sd dd w2 ⟨l0, l1, l2, l3, ⟨t0, t1, t2, t3⟩, HT.out.on (HB0.out.trans ((QR.b K).mono HB0.out.size))⟩
    go_wp2_with fail
    refine hsp.mono ?_
    clear hsp
    rintro e w3 ⟨⟨V0, rfl, O0⟩, b3⟩
    replace K := QR.on K b3
    obtain ⟨p0, q0', rfl, _⟩ := O0.val
    have HDL : Hid ((daysL ⟨f, ev, ct, un, ds, da, mo, pl, wk⟩ sd dd).length ≤ 200) := days_len _ _ _
    generalize hDL : daysL ⟨f, ev, ct, un, ds, da, mo, pl, wk⟩ sd dd = DL at O0 HDL ⊢
    have HDE : Hid (daysL ⟨f, ev, ct, un, ds, da, mo, pl, wk⟩ sd dd = DL) := hDL
    have lm : DL.length ≤ 4000000 := by have := HDL.out; omega
    have HW3 : Hid (W0.heap.size ≤ w3.heap.size) := (QR.b K).size
    have LO3 := fun k hk => (O0.lt k hk).2
    clear b3 t0 t1 t2 t3 hDL
    have X := K
    obtain ⟨x0, x1, x2, x3, x4, x5, x6, x7, x8, _⟩ := X
    go_wp2_with fail
    refine (lawToRuleF f ev ct un a0 c0 ds a1 c1 da a2 c2 mo a3 c3 pl wk _ K.t K.i1 K.i2 K.i3 l0 l1 l2 l3).mono ?_
    rintro e w4 ⟨g0, g1, g2, g3, rfl, t0, t1, t2, t3, b4, y0, y1, y2, y3, F0, F1, F2, F3⟩
    replace K := QR.on K b4
    replace O0 := O0.below b4
    have HY : Hid (w3.heap.size ≤ g0 ∧ g0 < g1 ∧ g1 < g2 ∧ g2 < g3 ∧ g3 < w4.heap.size) := ⟨y0, y1, y2, y3, F3.lt⟩
    have HLO : Hid (∀ k, (Value.slice p0 DL.length q0').ownBlock = some k → k < w3.heap.size) := fun k hk => (LO3 k hk)
    clear b4 x0 x1 x2 x3 x4 x5 x6 x7 x8 y0 y1 y2 y3 LO3
    have b5 : Below w4.heap.size w4 (w4.alloc (.cells #[.int .i64 f, .int .i64 ev, .int .i64 ct, .int .i64 un, .slice (some ⟨g0, 0, none⟩) ds.length ds.length, .slice (some ⟨g1, 0, none⟩) da.length da.length, .slice (some ⟨g2, 0, none⟩) mo.length mo.length, .slice (some ⟨g3, 0, none⟩) pl.length pl.length, .int .i64 wk] 30)) := (Below.refl _ _).alloc (Nat.le_refl _) _
    replace K := QR.on K b5
    have b5' := b5
    have hS5 : (w4.alloc (.cells #[.int .i64 f, .int .i64 ev, .int .i64 ct, .int .i64 un, .slice (some ⟨g0, 0, none⟩) ds.length ds.length, .slice (some ⟨g1, 0, none⟩) da.length da.length, .slice (some ⟨g2, 0, none⟩) mo.length mo.length, .slice (some ⟨g3, 0, none⟩) pl.length pl.length, .int .i64 wk] 30)).heap.size = w4.heap.size + 1 := by simp
    have L : QR w4 w4.heap.size (.int .i64 f) (.int .i64 ev) (.int .i64 ct) (.int .i64 un) (.slice (some ⟨g0, 0, none⟩) ds.length ds.length) (.slice (some ⟨g1, 0, none⟩) da.length da.length) (.slice (some ⟨g2, 0, none⟩) mo.length mo.length) (.slice (some ⟨g3, 0, none⟩) pl.length pl.length) (.int .i64 wk) (some ⟨g0, 0, none⟩) ds (some ⟨g1, 0, none⟩) da (some ⟨g2, 0, none⟩) mo (some ⟨g3, 0, none⟩) pl (w4.alloc (.cells #[.int .i64 f, .int .i64 ev, .int .i64 ct, .int .i64 un, .slice (some ⟨g0, 0, none⟩) ds.length ds.length, .slice (some ⟨g1, 0, none⟩) da.length da.length, .slice (some ⟨g2, 0, none⟩) mo.length mo.length, .slice (some ⟨g3, 0, none⟩) pl.length pl.length, .int .i64 wk] 30)) := QR.new _ t0 t1 t2 t3
    clear b5 t0 t1 t2 t3
    go_wp2_with fail
    generalize w4.alloc (.cells #[.int .i64 f, .int .i64 ev, .int .i64 ct, .int .i64 un, .slice (some ⟨g0, 0, none⟩) ds.length ds.length, .slice (some ⟨g1, 0, none⟩) da.length da.length, .slice (some ⟨g2, 0, none⟩) mo.length mo.length, .slice (some ⟨g3, 0, none⟩) pl.length pl.length, .int .i64 wk] 30) = W5 at K L b5' hS5 ⊢
    refine (implRuleDays ⟨f, ev, ct, un, ds, da, mo, pl, wk⟩ ⟨some ⟨g0, 0, none⟩, ds.length, some ⟨g1, 0, none⟩, da.length, some ⟨g2, 0, none⟩, mo.length, some ⟨g3, 0, none⟩, pl.length⟩ sd dd _ ⟨l0, l1, l2, l3, ⟨L.t, L.i1, L.i2, L.i3⟩, HT.out.on (HB0.out.trans ((QR.b K).mono HB0.out.size))⟩).mono ?_
    rintro e w6 ⟨⟨V1, rfl, O1⟩, b6⟩
    rw [HDE.out] at O1
    obtain ⟨p1, q1', rfl, _⟩ := O1.val
    have HHI : Hid (∀ k, (Value.slice p1 DL.length q1').ownBlock = some k → W5.heap.size ≤ k) := fun k hk => (O1.lt k hk).1
    have HS5 : Hid (W5.heap.size = w4.heap.size + 1) := hS5
    have M := RK.mk (QR.on K b6) (QR.on L b6)
    have P : Hid (OI w6 w2.heap.size (.slice p0 DL.length q0') DL ∧ OI w6 W5.heap.size (.slice p1 DL.length q1') DL ∧ FT w6 g0 ds.length ∧ FI w6 g1 da.length ∧ FI w6 g2 mo.length ∧ FI w6 g3 pl.length) := ⟨(O0.below b5').below b6, O1, (F0.below b5').below b6, (F1.below b5').below b6, (F2.below b5').below b6, (F3.below b5').below b6⟩
    clear b6 b5' K L O0 O1 F0 F1 F2 F3 hS5
    go_wp2_with fail
    refine (lawEqInts p1 p0 q1' q0' DL _ P.out.2.1.ints P.out.1.ints lm).mono ?_
    rintro e w7 ⟨rfl, b7⟩
    have HB7 : Hid (Below W0.heap.size W0 w7) := bstep (RK.q1 M).1.b b7
    replace M := RK.mk (QR.re (QR.on (RK.q1 M).1 b7)) (QR.on (RK.q1 M).2 b7)
    have P7 : Hid (OI w7 w2.heap.size (.slice p0 DL.length q0') DL ∧ OI w7 W5.heap.size (.slice p1 DL.length q1') DL ∧ FT w7 g0 ds.length ∧ FI w7 g1 da.length ∧ FI w7 g2 mo.length ∧ FI w7 g3 pl.length) := ⟨P.out.1.below b7, P.out.2.1.below b7, P.out.2.2.1.below b7, P.out.2.2.2.1.below b7, P.out.2.2.2.2.1.below b7, P.out.2.2.2.2.2.below b7⟩
    clear b7 P
    go_wp2
    go_region_held3 (fun w' => w'.cell? ⟨w.heap.size, 0, none⟩ = some (.int .i64 f) ∧ w'.cell? ⟨w.heap.size, 1, none⟩ = some (.int .i64 ev) ∧ w'.cell? ⟨w.heap.size, 2, none⟩ = some (.int .i64 ct) ∧ w'.cell? ⟨w.heap.size, 3, none⟩ = some (.int .i64 un) ∧ w'.cell? ⟨w.heap.size, 4, none⟩ = some (.slice a0 ds.length c0) ∧ w'.cell? ⟨w.heap.size, 5, none⟩ = some (.slice a1 da.length c1) ∧ w'.cell? ⟨w.heap.size, 6, none⟩ = some (.slice a2 mo.length c2) ∧ w'.cell? ⟨w.heap.size, 7, none⟩ = some (.slice a3 pl.length c3) ∧ w'.cell? ⟨w.heap.size, 8, none⟩ = some (.int .i64 wk) ∧ w'.cell? ⟨w4.heap.size, 0, none⟩ = some (.int .i64 f) ∧ w'.cell? ⟨w4.heap.size, 1, none⟩ = some (.int .i64 ev) ∧ w'.cell? ⟨w4.heap.size, 2, none⟩ = some (.int .i64 ct) ∧ w'.cell? ⟨w4.heap.size, 3, none⟩ = some (.int .i64 un) ∧ w'.cell? ⟨w4.heap.size, 4, none⟩ = some (.slice (some ⟨g0, 0, none⟩) ds.length ds.length) ∧ w'.cell? ⟨w4.heap.size, 5, none⟩ = some (.slice (some ⟨g1, 0, none⟩) da.length da.length) ∧ w'.cell? ⟨w4.heap.size, 6, none⟩ = some (.slice (some ⟨g2, 0, none⟩) mo.length mo.length) ∧ w'.cell? ⟨w4.heap.size, 7, none⟩ = some (.slice (some ⟨g3, 0, none⟩) pl.length pl.length) ∧ w'.cell? ⟨w4.heap.size, 8, none⟩ = some (.int .i64 wk) ∧ IsTurns w' a0 ds ∧ IsInts w' a1 da ∧ IsInts w' a2 mo ∧ IsInts w' a3 pl ∧ IsTurns w' (some ⟨g0, 0, none⟩) ds ∧ IsInts w' (some ⟨g1, 0, none⟩) da ∧ IsInts w' (some ⟨g2, 0, none⟩) mo ∧ IsInts w' (some ⟨g3, 0, none⟩) pl ∧ Below w7.heap.size w7 w')
      (first | assumption | exact RK.on M (Below.refl _ _).drew | exact RK.on (by assumption) hb7)
      (first
        | (go_at_call 8; refine (lawToRule f ev ct un a0 c0 ds a1 c1 da a2 c2 mo a3 c3 pl wk _ (RK.q1 (by assumption)).1.t (RK.q1 (by assumption)).1.i1 (RK.q1 (by assumption)).1.i2 (RK.q1 (by assumption)).1.i3 l0 l1 l2 l3).mono ?_; rintro e y7 ⟨n0, n1, n2, n3, rfl, s0, s1, s2, s3, hb7⟩)
        | (go_at_call 11; refine (lawEqRule _ _ _ _ _ _ ds _ _ da _ _ mo _ _ pl _ _ _ _ _ _ _ _ _ _ (RK.q1 (by assumption)).2.t (RK.q1 (by assumption)).2.i1 (RK.q1 (by assumption)).2.i2 (RK.q1 (by assumption)).2.i3 s0 s1 s2 s3 l0 l1 l2 l3).mono ?_; rintro e w8 ⟨rfl, hb7⟩))
    have N : RK w7 w.heap.size w4.heap.size (.int .i64 f) (.int .i64 ev) (.int .i64 ct) (.int .i64 un) (.slice a0 ds.length c0) (.slice a1 da.length c1) (.slice a2 mo.length c2) (.slice a3 pl.length c3) (.int .i64 wk) (.slice (some ⟨g0, 0, none⟩) ds.length ds.length) (.slice (some ⟨g1, 0, none⟩) da.length da.length) (.slice (some ⟨g2, 0, none⟩) mo.length mo.length) (.slice (some ⟨g3, 0, none⟩) pl.length pl.length) a0 ds a1 da a2 mo a3 pl (some ⟨g0, 0, none⟩) (some ⟨g1, 0, none⟩) (some ⟨g2, 0, none⟩) (some ⟨g3, 0, none⟩) w8 := by assumption
    have b8 := (RK.q1 N).1.b
    obtain ⟨z0, z1, z2, z3, z4, z5⟩ := P7.out
    replace z0 := z0.below b8
    replace z1 := z1.below b8
    replace z2 := z2.below b8
    replace z3 := z3.below b8
    replace z4 := z4.below b8
    replace z5 := z5.below b8
    have HK8 : Hid (QR w8 w.heap.size (.int .i64 f) (.int .i64 ev) (.int .i64 ct) (.int .i64 un) (.slice a0 ds.length c0) (.slice a1 da.length c1) (.slice a2 mo.length c2) (.slice a3 pl.length c3) (.int .i64 wk) a0 ds a1 da a2 mo a3 pl w8) := QR.re (RK.q1 N).1
    have HB8 : Hid (Below W0.heap.size W0 w8) := bstep HB7.out b8
    obtain ⟨_, _, _, _, _, _, _, _, _, y0, y1, y2, y3, y4, y5, y6, y7, y8, _⟩ := N
    have yy := HY.out
    go_wp2_with fail
    refine (lawMarkRule f ev ct un g0 ds.length ds.length g1 da.length da.length g2 mo.length mo.length g3 pl.length pl.length wk 1 _ z2 z3 z4 z5 yy.2.1 yy.2.2.1 yy.2.2.2.1 l0 l1 l2 l3 (by omega) (by omega)).mono ?_
    rintro e w10 ⟨rfl, G10⟩
    have hw3 := HW3.out
    have B10 := HB8.out.trans (G10.below (B := W0.heap.size) HB8.out.size (by omega))
    have R0 := z0.gi G10 (fun k hk => .inl (by have := HLO.out k hk; omega))
    have R1 := z1.gi G10 (fun k hk => .inr (by have := HHI.out k hk; have := HS5.out; omega))
    clear z0 z1 z2 z3 z4 z5 G10 y0 y1 y2 y3 y4 y5 y6 y7 y8 yy b8 hw3 M
    have k10 : ¬ (1 + 2 * (ds.length : Int) + da.length + mo.length + pl.length < 0) := by omega
    go_wp2_with fail
    refine (lawEqInts p1 p0 q1' q0' DL _ R1.ints R0.ints lm).mono ?_
    rintro e w11 ⟨rfl, b11⟩
    have B11 := bstep B10 b11
    have S0 := R0.below b11
    have S1 := R1.below b11
    clear R0 R1 b11 B10 k10
    go_wp2_with fail
    refine (lawMarkInts W5.heap.size _ DL 1 _ S1 lm (by omega) (by omega)).mono ?_
    rintro e w12 ⟨rfl, M12, G12⟩
    have B12 := B11.trans (grown_below G12 B11.size (fun k hk => by have := HHI.out k hk; have := HS5.out; have := HY.out; have := HW3.out; omega))
    have U0 := S0.grown G12 (fun k hk e => by have := HLO.out k hk; have := HHI.out k e.symm; have := HS5.out; have := HY.out; omega)
    clear S0 S1 G12 B11
    go_wp2_with fail
    refine (lawHeldInts p1 q1' DL.length 1 _ M12.ints lm (by omega) (by omega)).mono ?_
    rintro e w13 ⟨rfl, b13⟩
    have B13 := bstep B12 b13
    have V0 := U0.below b13
    have M13 := M12.below b13
    clear U0 M12 b13 B12
    have K13 := QR.on HK0.out B13
    have X := K13
    obtain ⟨x0, x1, x2, x3, x4, x5, x6, x7, x8, _⟩ := X
    go_wp2_with fail
    refine (lawToRule f ev ct un a0 c0 ds a1 c1 da a2 c2 mo a3 c3 pl wk _ K13.t K13.i1 K13.i2 K13.i3 l0 l1 l2 l3).mono ?_
    rintro e w14 ⟨u0, u1, u2, u3, rfl, t0, t1, t2, t3, b14⟩
    have B14 := bstep B13 b14
    clear x0 x1 x2 x3 x4 x5 x6 x7 x8 K13
    have hip := implRuleDays ⟨f, ev, ct, un, ds, da, mo, pl, wk⟩ ⟨some ⟨u0, 0, none⟩, ds.length, some ⟨u1, 0, none⟩, da.length, some ⟨u2, 0, none⟩, mo.length, some ⟨u3, 0, none⟩, pl.length⟩ sd dd w14 ⟨l0, l1, l2, l3, ⟨t0, t1, t2, t3⟩, HT.out.on (HB0.out.trans (B14.mono HB0.out.size))⟩
    go_wp2_with fail
    refine hip.mono ?_
    clear hip
    rintro e w15 ⟨⟨V2, rfl, O2⟩, b15⟩
    rw [HDE.out] at O2
    have b135 := bstep b14 b15
    have B15 := bstep B14 b15
    have X0 := V0.below b135
    have M15 := M13.below b135
    obtain ⟨p2, q2', rfl, I2, _⟩ := O2.val
    clear V0 M13 b14 b15 b135 B13 B14 t0 t1 t2 t3 O2
    go_wp2_with fail
    refine (lawEqInts p2 p0 q2' q0' DL _ I2 X0.ints lm).mono ?_
    rintro e w16 ⟨rfl, b16⟩
    have B16 := bstep B15 b16
    have M16 := M15.below b16
    clear X0 M15 b16 B15 I2
    go_wp2_with fail
    refine (lawHeldInts p1 q1' DL.length 1 _ M16.ints lm (by omega) (by omega)).mono ?_
    rintro e w17 ⟨rfl, b17⟩
    have B17 := bstep B16 b17
    clear M16 b17 B16
    go_wp2
    go_ret
    exact ⟨rfl, HB0.out.trans (B17.mono HB0.out.size)⟩
  · have hv : szr ds.length da.length mo.length pl.length = -1 := if_neg hz
    rw [hv]
    go_wp2
    go_ret
    exact ⟨rfl, HB0.out.trans ((QR.b K).mono HB0.out.size)⟩
end Go.Proofs.YtjncaeealmmhmaaDoor
