/- What chooses days: the functions that make it. -/
import Derived.Test.YtlfglhpepoepcaaDoorKm
namespace Go.Proofs.YtlfglhpepoepcaaDoor
open Go.RowKit Go.Shelf
set_option linter.unusedVariables false

set_option maxHeartbeats 2000000 in
theorem implByF (f : Int) (nm : Nat) (r : Rl) (hf : r.f = f) (hn : r.mo.length = nm) (m : Rm) (w : World) :
    Calls Tryd.prog 72 #[.agg #[.int .i64 f, .int .i64 r.ev, .int .i64 r.ct, .int .i64 r.un, .slice m.a0 r.ds.length m.c0, .slice m.a1 r.da.length m.c1, .slice m.a2 nm m.c2, .slice m.a3 r.pl.length m.c3, .int .i64 r.wk]] w fun e w' => e = .returned (.func (.func 89) #[] #[.pointer (some ⟨w.heap.size + 1, 0, none⟩), .pointer (some ⟨w.heap.size, 0, none⟩)]) ∧ w' = (w.alloc (.cells #[.int .i64 f, .int .i64 r.ev, .int .i64 r.ct, .int .i64 r.un, .slice m.a0 r.ds.length m.c0, .slice m.a1 r.da.length m.c1, .slice m.a2 nm m.c2, .slice m.a3 r.pl.length m.c3, .int .i64 r.wk] 26)).alloc (.cells #[.bool (inMo r)] 4) := by
  by_cases h3 : f = 3
  · subst h3
    have HI : Hid (inMo r = true) := by unfold Hid inMo; rw [hf]; simp
    clear hf hn
    go_enter Tryd.func72, Tryd.ntmps72
    go_wp2
    go_ret
    exact ⟨rfl, by rw [HI.out]⟩
  · have HI : Hid (inMo r = decide (0 < nm)) := by unfold Hid inMo; rw [hf, hn]; simp [h3]
    clear hf hn
    go_enter Tryd.func72, Tryd.ntmps72
    go_wp2
    go_ret
    refine ⟨rfl, ?_⟩
    rw [HI.out, show (f == 3) = false by simpa using h3, Bool.false_or]
set_option maxHeartbeats 4000000 in
theorem implStartF (f : Int) (nm : Nat) (r : Rl) (hf : r.f = f) (hn : r.mo.length = nm) (f0 : 1 ≤ f) (f1 : f ≤ 4) (m : Rm) (s : Int) (w : World) (ht : Tab w) (h0 : 0 ≤ s) (h1 : s ≤ 3652058) :
    Calls Tryd.prog 73 #[.agg #[.int .i64 f, .int .i64 r.ev, .int .i64 r.ct, .int .i64 r.un, .slice m.a0 r.ds.length m.c0, .slice m.a1 r.da.length m.c1, .slice m.a2 nm m.c2, .slice m.a3 r.pl.length m.c3, .int .i64 r.wk], .int .i64 s] w fun e w' => ∃ v, e = .returned v ∧ Below w.heap.size w w' ∧ ∃ (fs : List Value) (qs : List (Int → Bool)) (KB : Nat → Prop), (fs = [] ∧ v = .slice none 0 0 ∨ ∃ g cap, v = .slice (some ⟨g, 0, none⟩) fs.length cap ∧ ∀ j u, fs[j]? = some u → w'.cell? ((⟨g, 0, none⟩ : Addr).add j) = some u) ∧ qs.length = fs.length ∧ fs.length ≤ 2 ∧ (∀ i, i < fs.length → Ch KB w' (fs.getD i undef) (qs.getD i fun _ => true)) ∧ (∀ b, KB b → w.heap.size ≤ b ∧ b < w'.heap.size ∧ ∃ cur t q, w'.heap[b]? = some (.cells cur t q) ∧ t ≠ 83) ∧ (∀ u ∈ fs, u.oneCell' = true) ∧ ∀ n : Int, qs.all (fun p => p n) = ownB r s n := by
  obtain ⟨W0, hW0⟩ : ∃ W0, W0 = (w.alloc (.cells #[.int .i64 f, .int .i64 r.ev, .int .i64 r.ct, .int .i64 r.un, .slice m.a0 r.ds.length m.c0, .slice m.a1 r.da.length m.c1, .slice m.a2 nm m.c2, .slice m.a3 r.pl.length m.c3, .int .i64 r.wk] 26)).alloc (.cells #[.int .i64 s] 57) := ⟨_, rfl⟩
  have hb0 : Below w.heap.size w W0 := by rw [hW0]; exact ((Below.refl _ w).alloc (Nat.le_refl _) _).alloc (by simp) _
  have hs0 : W0.heap.size = w.heap.size + 2 := by rw [hW0]; simp
  have HC1 : Hid (W0.heap[w.heap.size + 1]? = some (.cells #[.int .i64 s] 57 (0, 0))) := by
    unfold Hid
    have := World.alloc_heap_new (w.alloc (.cells #[.int .i64 f, .int .i64 r.ev, .int .i64 r.ct, .int .i64 r.un, .slice m.a0 r.ds.length m.c0, .slice m.a1 r.da.length m.c1, .slice m.a2 nm m.c2, .slice m.a3 r.pl.length m.c3, .int .i64 r.wk] 26)) (.cells #[.int .i64 s] 57)
    rw [World.size_alloc] at this; rw [hW0]; exact this
  have HS1 : Hid (CF W0 (w.heap.size + 1) #[.int .i64 s]) := by
    unfold Hid
    have := CF.new (w.alloc (.cells #[.int .i64 f, .int .i64 r.ev, .int .i64 r.ct, .int .i64 r.un, .slice m.a0 r.ds.length m.c0, .slice m.a1 r.da.length m.c1, .slice m.a2 nm m.c2, .slice m.a3 r.pl.length m.c3, .int .i64 r.wk] 26)) #[.int .i64 s] 57
    rw [World.size_alloc] at this; rw [hW0]; exact this
  have HC2 : Hid (CF W0 w.heap.size #[.int .i64 f, .int .i64 r.ev, .int .i64 r.ct, .int .i64 r.un, .slice m.a0 r.ds.length m.c0, .slice m.a1 r.da.length m.c1, .slice m.a2 nm m.c2, .slice m.a3 r.pl.length m.c3, .int .i64 r.wk]) := by
    unfold Hid; rw [hW0]; exact (CF.new w #[.int .i64 f, .int .i64 r.ev, .int .i64 r.ct, .int .i64 r.un, .slice m.a0 r.ds.length m.c0, .slice m.a1 r.da.length m.c1, .slice m.a2 nm m.c2, .slice m.a3 r.pl.length m.c3, .int .i64 r.wk] 26).past _
  have HW0 : Hid (W0 = (w.alloc (.cells #[.int .i64 f, .int .i64 r.ev, .int .i64 r.ct, .int .i64 r.un, .slice m.a0 r.ds.length m.c0, .slice m.a1 r.da.length m.c1, .slice m.a2 nm m.c2, .slice m.a3 r.pl.length m.c3, .int .i64 r.wk] 26)).alloc (.cells #[.int .i64 s] 57)) := hW0
  have HB0 : Hid (Below w.heap.size w W0) := hb0
  have HT0 : Hid (Tab W0) := ht.on hb0
  have HF : Hid (r.f = f) := hf
  have HN : Hid (r.mo.length = nm) := hn
  have HS0 : Hid (W0.heap.size = w.heap.size + 2) := hs0
  clear hW0 hb0 ht hf hn hs0
  go_enter Tryd.func73, Tryd.ntmps73
  go_wp2_with fail
  rw [← HW0.out]
  refine (implPartsN _ _ HT0.out h0 h1).mono ?_
  rintro e w1 ⟨rfl, b1⟩
  obtain ⟨W2, hW2⟩ : ∃ W2, W2 = w1.alloc (.cells #[.int .i64 (yOf s), .int .i64 (mOf s), .int .i64 (dOf s)] 56) := ⟨_, rfl⟩
  have hb2 : Below W0.heap.size W0 W2 := by rw [hW2]; exact b1.alloc b1.size _
  have HC3 : Hid (W2.heap[w1.heap.size]? = some (.cells #[.int .i64 (yOf s), .int .i64 (mOf s), .int .i64 (dOf s)] 56 (0, 0))) := by unfold Hid; rw [hW2]; exact World.alloc_heap_new w1 _
  have HD : Hid (CF W2 w1.heap.size #[.int .i64 (yOf s), .int .i64 (mOf s), .int .i64 (dOf s)]) := by unfold Hid; rw [hW2]; exact CF.new _ _ _
  have HS : Hid (CF W2 (w.heap.size + 1) #[.int .i64 s]) := HS1.out.below hb2
  have HC4 : Hid (W2.heap[w.heap.size + 1]? = some (.cells #[.int .i64 s] 57 (0, 0))) := by unfold Hid; rw [hb2.block _ (by have := HS0.out; omega)]; exact HC1.out
  have HB2 : Hid (Below w.heap.size w W2) := bstep HB0.out hb2
  have HW2 : Hid (W2 = w1.alloc (.cells #[.int .i64 (yOf s), .int .i64 (mOf s), .int .i64 (dOf s)] 56)) := hW2
  have hsz : w.heap.size + 2 ≤ w1.heap.size := by have := b1.size; have := HS0.out; omega
  have hz2 : W2.heap.size = w1.heap.size + 1 := by rw [hW2]; simp
  have HZ2 : Hid (W2.heap.size = w1.heap.size + 1) := hz2
  have hc5 := (HC2.out.below b1)
  obtain ⟨q0, _⟩ := hc5.2 0 _ rfl
  obtain ⟨q6, _⟩ := hc5.2 6 _ rfl
  have hrl : w.heap.size < w1.heap.size := by omega
  have one : ∀ (x : Value) (T : TypeId) (q : Int → Bool) (KB : Nat → Prop), x.oneCell' = true → Ch KB W2 x q → (∀ b, KB b → w.heap.size ≤ b ∧ b < W2.heap.size ∧ ∃ cur t q, W2.heap[b]? = some (.cells cur t q) ∧ t ≠ 83) → (∀ n : Int, q n = ownB r s n) →
      ∃ v, Value.slice (some ⟨w1.heap.size + 1, 0, none⟩) 1 1 = v ∧ Below w.heap.size w (W2.alloc (.cells #[x] T)) ∧ ∃ (fs : List Value) (qs : List (Int → Bool)) (KB : Nat → Prop), (fs = [] ∧ v = .slice none 0 0 ∨ ∃ g cap, v = .slice (some ⟨g, 0, none⟩) fs.length cap ∧ ∀ j u, fs[j]? = some u → (W2.alloc (.cells #[x] T)).cell? ((⟨g, 0, none⟩ : Addr).add j) = some u) ∧ qs.length = fs.length ∧ fs.length ≤ 2 ∧ (∀ i, i < fs.length → Ch KB (W2.alloc (.cells #[x] T)) (fs.getD i undef) (qs.getD i fun _ => true)) ∧ (∀ b, KB b → w.heap.size ≤ b ∧ b < (W2.alloc (.cells #[x] T)).heap.size ∧ ∃ cur t q, (W2.alloc (.cells #[x] T)).heap[b]? = some (.cells cur t q) ∧ t ≠ 83) ∧ (∀ u ∈ fs, u.oneCell' = true) ∧ ∀ n : Int, qs.all (fun p => p n) = ownB r s n := fun x T q KB hx hch hkb hq => by
    have hbb : Below W2.heap.size W2 (W2.alloc (.cells #[x] T)) := (Below.refl _ _).alloc (Nat.le_refl _) _
    refine ⟨_, rfl, bstep HB2.out hbb, [x], [q], KB, .inr ⟨w1.heap.size + 1, 1, rfl, ?_⟩, rfl, by simp, fun i hi => ?_, fun b hb => ?_, fun u hu => ?_, fun n => by simp [hq n]⟩
    · rw [← HZ2.out]; exact cell_one_new W2 x T
    · have : i = 0 := by simp at hi; omega
      subst this
      exact hch.on hbb.size (fun b hb => hbb.block b (hkb b hb).2.1)
    · obtain ⟨k1, k2, cur, t, qq, k3, k4⟩ := hkb b hb
      exact ⟨k1, by simp; omega, cur, t, qq, (hbb.block b k2).trans k3, k4⟩
    · simp at hu; subst hu; exact hx
  have ONE : Hid (∀ (x : Value) (T : TypeId) (q : Int → Bool) (KB : Nat → Prop), x.oneCell' = true → Ch KB W2 x q → (∀ b, KB b → w.heap.size ≤ b ∧ b < W2.heap.size ∧ ∃ cur t q, W2.heap[b]? = some (.cells cur t q) ∧ t ≠ 83) → (∀ n : Int, q n = ownB r s n) →
      ∃ v, Value.slice (some ⟨w1.heap.size + 1, 0, none⟩) 1 1 = v ∧ Below w.heap.size w (W2.alloc (.cells #[x] T)) ∧ ∃ (fs : List Value) (qs : List (Int → Bool)) (KB : Nat → Prop), (fs = [] ∧ v = .slice none 0 0 ∨ ∃ g cap, v = .slice (some ⟨g, 0, none⟩) fs.length cap ∧ ∀ j u, fs[j]? = some u → (W2.alloc (.cells #[x] T)).cell? ((⟨g, 0, none⟩ : Addr).add j) = some u) ∧ qs.length = fs.length ∧ fs.length ≤ 2 ∧ (∀ i, i < fs.length → Ch KB (W2.alloc (.cells #[x] T)) (fs.getD i undef) (qs.getD i fun _ => true)) ∧ (∀ b, KB b → w.heap.size ≤ b ∧ b < (W2.alloc (.cells #[x] T)).heap.size ∧ ∃ cur t q, (W2.alloc (.cells #[x] T)).heap[b]? = some (.cells cur t q) ∧ t ≠ 83) ∧ (∀ u ∈ fs, u.oneCell' = true) ∧ ∀ n : Int, qs.all (fun p => p n) = ownB r s n) := one
  have HKD : Hid (∀ b, b = w1.heap.size → w.heap.size ≤ b ∧ b < W2.heap.size ∧ ∃ cur t q, W2.heap[b]? = some (.cells cur t q) ∧ t ≠ 83) := fun b hb => by
    subst hb; exact ⟨by omega, by omega, _, _, _, HC3.out, by decide⟩
  have HKS : Hid (∀ b, b = w.heap.size + 1 → w.heap.size ≤ b ∧ b < W2.heap.size ∧ ∃ cur t q, W2.heap[b]? = some (.cells cur t q) ∧ t ≠ 83) := fun b hb => by
    subst hb; exact ⟨by omega, by omega, _, _, _, HC4.out, by decide⟩
  clear one hb2 hW2 b1 hc5 hz2
  rcases four f0 f1 with rfl | rfl | rfl | rfl
  · go_wp2
    rw [← HW2.out]
    go_ret
    exact ⟨_, rfl, HB2.out, [], [], fun _ => False, .inl ⟨rfl, rfl⟩, rfl, by simp, fun i hi => by simp at hi, fun b hb => hb.elim, fun u hu => by simp at hu, fun n => by unfold ownB; rw [HF.out]; rfl⟩
  · go_wp2
    rw [← HW2.out]
    go_ret
    obtain ⟨v, hv, h5⟩ := ONE.out _ 83 _ _ rfl (mkWd (K := fun b => b = w.heap.size + 1) (HS.out.2 0 _ rfl).1 h0 h1 rfl) HKS.out (fun n => by unfold ownB; rw [HF.out]; rfl)
    exact ⟨v, by rw [← hv]; rfl, h5⟩
  · go_wp2
    rw [← HW2.out]
    go_ret
    obtain ⟨v, hv, h5⟩ := ONE.out _ 83 _ _ rfl (mkDate (K := fun b => b = w1.heap.size) (HD.out.2 2 _ rfl).1 rfl) HKD.out (fun n => by unfold ownB; rw [HF.out]; rfl)
    exact ⟨v, by rw [← hv]; rfl, h5⟩
  · cases nm with
    | zero =>
      go_wp2
      rw [← HW2.out]
      go_ret
      obtain ⟨x, hx⟩ : ∃ x : Value, x = .func (.func 94) #[] #[.pointer (some ⟨w1.heap.size, 0, none⟩)] := ⟨_, rfl⟩
      obtain ⟨y, hy⟩ : ∃ y : Value, y = .func (.func 95) #[] #[.pointer (some ⟨w1.heap.size, 0, none⟩)] := ⟨_, rfl⟩
      have two : Below w.heap.size w (W2.alloc (.cells #[x, y] 83)) ∧ ∃ v, Value.slice (some ⟨w1.heap.size + 1, 0, none⟩) 2 2 = v ∧ ∃ (fs : List Value) (qs : List (Int → Bool)) (KB : Nat → Prop), (fs = [] ∧ v = .slice none 0 0 ∨ ∃ g cap, v = .slice (some ⟨g, 0, none⟩) fs.length cap ∧ ∀ j u, fs[j]? = some u → (W2.alloc (.cells #[x, y] 83)).cell? ((⟨g, 0, none⟩ : Addr).add j) = some u) ∧ qs.length = fs.length ∧ fs.length ≤ 2 ∧ (∀ i, i < fs.length → Ch KB (W2.alloc (.cells #[x, y] 83)) (fs.getD i undef) (qs.getD i fun _ => true)) ∧ (∀ b, KB b → w.heap.size ≤ b ∧ b < (W2.alloc (.cells #[x, y] 83)).heap.size ∧ ∃ cur t q, (W2.alloc (.cells #[x, y] 83)).heap[b]? = some (.cells cur t q) ∧ t ≠ 83) ∧ (∀ u ∈ fs, u.oneCell' = true) ∧ ∀ n : Int, qs.all (fun p => p n) = ownB r s n := by
        have hbb : Below W2.heap.size W2 (W2.alloc (.cells #[x, y] 83)) := (Below.refl _ _).alloc (Nat.le_refl _) _
        have hcf := CF.new W2 #[x, y] 83
        have cx : Ch (fun b => b = w1.heap.size) W2 x (fun n => decide (dOf n = dOf s)) := by rw [hx]; exact mkDate (HD.out.2 2 _ rfl).1 rfl
        have cy : Ch (fun b => b = w1.heap.size) W2 y (fun n => decide (mOf n = mOf s)) := by rw [hy]; exact mkMonth (HD.out.2 1 _ rfl).1 rfl
        rw [HZ2.out] at hcf
        refine ⟨bstep HB2.out hbb, _, rfl, [x, y], [fun n => decide (dOf n = dOf s), fun n => decide (mOf n = mOf s)], fun b => b = w1.heap.size, .inr ⟨w1.heap.size + 1, 2, rfl, fun j u hj => ?_⟩, rfl, by simp, fun i hi => ?_, fun b hb => ?_, fun u hu => ?_, fun n => by unfold ownB; rw [HF.out, HN.out]; simp [Bool.decide_and]⟩
        · have e : (⟨w1.heap.size + 1, 0, none⟩ : Addr).add j = ⟨w1.heap.size + 1, j, none⟩ := by unfold Addr.add; split <;> simp_all
          rw [e]
          exact (hcf.2 j u (by simpa using hj)).1
        · have hi' : i = 0 ∨ i = 1 := by simp at hi; omega
          rcases hi' with rfl | rfl
          · exact cx.on hbb.size (fun b hb => hbb.block b (HKD.out b hb).2.1)
          · exact cy.on hbb.size (fun b hb => hbb.block b (HKD.out b hb).2.1)
        · obtain ⟨k1, k2, cur, t, qq, k3, k4⟩ := HKD.out b hb
          exact ⟨k1, by simp; omega, cur, t, qq, (hbb.block b k2).trans k3, k4⟩
        · simp at hu; rcases hu with rfl | rfl
          · rw [hx]; rfl
          · rw [hy]; rfl
      obtain ⟨h5, v, hv, h6⟩ := two
      subst hx hy
      exact ⟨v, by rw [← hv]; rfl, h5, h6⟩
    | succ nm =>
      have hnm : ¬ ((nm : Int) + 1 = 0) := by omega
      go_wp2
      rw [← HW2.out]
      go_ret
      obtain ⟨v, hv, h5⟩ := ONE.out _ 83 _ _ rfl (mkDate (K := fun b => b = w1.heap.size) (HD.out.2 2 _ rfl).1 rfl) HKD.out (fun n => by unfold ownB; rw [HF.out, HN.out]; simp)
      exact ⟨v, by rw [← hv]; rfl, h5⟩
end Go.Proofs.YtlfglhpepoepcaaDoor
