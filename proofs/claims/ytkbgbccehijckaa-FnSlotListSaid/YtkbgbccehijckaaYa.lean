/- What two lists of spans both have, and what the first alone has, in plain numbers. -/
import Derived.Test.YtkbgbccehijckaaCb
namespace Go.Proofs.Ytkbgbccehijckaa
set_option linter.unusedVariables false
theorem can_append {l m : List (Int × Int)} (h : Can l) (h1 : Can m) (h2 : ∀ u ∈ l, ∀ v ∈ m, u.2 < v.1) : Can (l ++ m) :=
  ⟨fun s hs => (List.mem_append.1 hs).elim (h.1 s) (h1.1 s), List.pairwise_append.2 ⟨h.2, h1.2, h2⟩⟩
def bothS (a b : List (Int × Int)) : List (Int × Int) := a.flatMap fun s => cutS s.1 s.2 b
def lessS (a b : List (Int × Int)) : List (Int × Int) := a.flatMap fun s => freeS b s.1 s.2
/-- Pieces within spans. -/
theorem pieces_can (f : Int × Int → List (Int × Int)) (hf : ∀ s, Can (f s)) (hb : ∀ s, ∀ u ∈ f s, s.1 ≤ u.1 ∧ u.2 ≤ s.2) : ∀ a, Can a → Can (a.flatMap f) := by
  intro a
  induction a with
  | nil => intro _; exact can_nil
  | cons s a ih =>
    intro h
    obtain ⟨h0, h1, h2⟩ := can_cons.1 h
    rw [List.flatMap_cons]
    refine can_append (hf s) (ih h2) fun u hu v hv => ?_
    obtain ⟨x, hx, hv⟩ := List.mem_flatMap.1 hv
    have q1 := hb s u hu
    have q2 := hb x v hv
    have q3 := h1 x hx
    omega
theorem pieces_in (f : Int × Int → List (Int × Int)) (a : List (Int × Int)) (t : Int) : In (a.flatMap f) t ↔ ∃ s ∈ a, In (f s) t := by
  unfold In
  constructor
  · rintro ⟨u, hu, h⟩
    obtain ⟨s, hs, hu⟩ := List.mem_flatMap.1 hu
    exact ⟨s, hs, u, hu, h⟩
  · rintro ⟨s, hs, u, hu, h⟩
    exact ⟨u, List.mem_flatMap.2 ⟨s, hs, hu⟩, h⟩
theorem pieces_len (f : Int × Int → List (Int × Int)) (n : Nat) (hf : ∀ s, (f s).length ≤ n) (a : List (Int × Int)) : (a.flatMap f).length ≤ a.length * n := by
  induction a with
  | nil => simp
  | cons s a ih =>
    rw [List.flatMap_cons, List.length_append, List.length_cons, Nat.succ_mul]
    have := hf s
    omega
theorem cut_le (a b : Int) (l : List (Int × Int)) : (cutS a b l).length ≤ l.length := by unfold cutS; exact List.length_filterMap_le _ _
theorem bothS_len (a b : List (Int × Int)) : (bothS a b).length ≤ a.length * b.length := pieces_len _ _ (fun s => cut_le _ _ _) a
theorem lessS_len (a b : List (Int × Int)) : (lessS a b).length ≤ a.length * (b.length + 1) := pieces_len _ _ (fun s => free_len _ _ _) a
theorem bothS_take (a b : List (Int × Int)) (k : Nat) (h : k < a.length) : bothS (a.take (k + 1)) b = bothS (a.take k) b ++ cutS (tAt a k) (tSh a k) b := by
  unfold bothS
  have e1 : tAt a k = a[k].1 := by rw [← tAt_get a k h]
  have e2 : tSh a k = a[k].2 := by rw [← tAt_get a k h]
  rw [List.take_add_one, List.flatMap_append, e1, e2]
  simp [h]
theorem lessS_take (a b : List (Int × Int)) (k : Nat) (h : k < a.length) : lessS (a.take (k + 1)) b = lessS (a.take k) b ++ freeS b (tAt a k) (tSh a k) := by
  unfold lessS
  have e1 : tAt a k = a[k].1 := by rw [← tAt_get a k h]
  have e2 : tSh a k = a[k].2 := by rw [← tAt_get a k h]
  rw [List.take_add_one, List.flatMap_append, e1, e2]
  simp [h]
theorem bothS_holds (a b : List (Int × Int)) (ha : Can a) (hb : Can b) : Can (bothS a b) ∧ ∀ t, In (bothS a b) t ↔ In a t ∧ In b t := by
  refine ⟨pieces_can _ (fun s => cutS_can _ _ _ hb) (fun s u hu => ?_) a ha, fun t => ?_⟩
  · have := cutS_bd s.1 s.2 b u hu
    exact ⟨this.1, this.2.2⟩
  · unfold bothS
    rw [pieces_in]
    constructor
    · rintro ⟨s, hs, h⟩
      have := (cutS_in _ _ _ _).1 h
      exact ⟨⟨s, hs, this.2⟩, this.1⟩
    · rintro ⟨⟨s, hs, h⟩, h1⟩
      exact ⟨s, hs, (cutS_in _ _ _ _).2 ⟨h1, h⟩⟩
theorem lessS_holds (a b : List (Int × Int)) (ha : Can a) (hb : Can b) : Can (lessS a b) ∧ ∀ t, In (lessS a b) t ↔ In a t ∧ ¬ In b t := by
  refine ⟨pieces_can _ (fun s => (freeS_holds _ _ _ hb).1) (fun s u hu => ?_) a ha, fun t => ?_⟩
  · have := free_bd b s.1 s.2 u hu
    exact ⟨this.1, this.2.2⟩
  · unfold lessS
    rw [pieces_in]
    constructor
    · rintro ⟨s, hs, h⟩
      have := ((freeS_holds b s.1 s.2 hb).2 t).1 h
      exact ⟨⟨s, hs, this.1⟩, this.2⟩
    · rintro ⟨⟨s, hs, h⟩, h1⟩
      exact ⟨s, hs, ((freeS_holds b s.1 s.2 hb).2 t).2 ⟨h, h1⟩⟩
theorem nIn_val {l : List (Int × Int)} (t : Int) (h : Can l) : (In l t ∧ nIn l t = 1) ∨ (¬ In l t ∧ nIn l t = 0) := by
  obtain ⟨n1, n2⟩ := nIn_pos l t fun s hs => Int.le_of_lt (h.1 s hs)
  have n3 := nIn_can l t h
  by_cases hi : In l t
  · have := n2.2 hi
    exact .inl ⟨hi, by omega⟩
  · have := mt n2.1 hi
    exact .inr ⟨hi, by omega⟩
/-- Both ways lead to the same spans. -/
theorem less_same (a b es : List (Int × Int)) (ha : Can a) (hb : Can b) (hp : es.Perm (edgesS 1 a ++ edgesS (-1) b)) (hs : es.Pairwise EdgeLe) : runE es = lessS a b := by
  obtain ⟨r0, r1⟩ := runE_holds es hs (by rw [tot_perm hp, tot_append, edgesS_tot, edgesS_tot]; rfl)
  obtain ⟨s0, s1⟩ := lessS_holds a b ha hb
  refine can_uniq _ _ r0 s0 fun t => ?_
  rw [r1, s1, cnt_perm hp, cnt_append, cnt_neg]
  change 0 < nIn a t + - nIn b t ↔ _
  rcases nIn_val t ha with ⟨i, e⟩ | ⟨i, e⟩ <;> rcases nIn_val t hb with ⟨j, f⟩ | ⟨j, f⟩ <;> rw [e, f] <;> simp [i, j]
/-- The edges of what both have: one fewer everywhere. -/
def bothE (E : Int) (a b : List (Int × Int)) : List (Int × Int) := edgesS (-1) [(0, E)] ++ edgesS 1 a ++ edgesS 1 b
theorem bothE_st (E : Int) (a b : List (Int × Int)) : ∀ e ∈ bothE E a b, -1 ≤ e.2 ∧ e.2 ≤ 1 := by
  intro e he
  unfold bothE at he
  rcases List.mem_append.1 he with he | he
  · rcases List.mem_append.1 he with he | he
    · exact edgesS_st (-1) (by omega) _ e he
    · exact edgesS_st 1 (by omega) _ e he
  · exact edgesS_st 1 (by omega) _ e he
theorem lessE_st (a b : List (Int × Int)) : ∀ e ∈ edgesS 1 a ++ edgesS (-1) b, -1 ≤ e.2 ∧ e.2 ≤ 1 := by
  intro e he
  rcases List.mem_append.1 he with he | he
  · exact edgesS_st 1 (by omega) _ e he
  · exact edgesS_st (-1) (by omega) _ e he
theorem both_same (E : Int) (a b es : List (Int × Int)) (ha : Can a) (hb : Can b) (hE : 0 < E) (wa : ∀ s ∈ a, 0 ≤ s.1 ∧ s.2 ≤ E) (wb : ∀ s ∈ b, 0 ≤ s.1 ∧ s.2 ≤ E) (hp : es.Perm (bothE E a b)) (hs : es.Pairwise EdgeLe) : runE es = bothS a b := by
  obtain ⟨r0, r1⟩ := runE_holds es hs (by rw [tot_perm hp]; unfold bothE; rw [tot_append, tot_append, edgesS_tot, edgesS_tot, edgesS_tot]; rfl)
  obtain ⟨s0, s1⟩ := bothS_holds a b ha hb
  have c0 : Can [((0 : Int), E)] := can_cons.2 ⟨hE, fun u hu => by simp at hu, can_nil⟩
  refine can_uniq _ _ r0 s0 fun t => ?_
  rw [r1, s1, cnt_perm hp]
  unfold bothE
  rw [cnt_append, cnt_append, cnt_neg]
  change 0 < - nIn [((0 : Int), E)] t + nIn a t + nIn b t ↔ _
  have w : ∀ l : List (Int × Int), (∀ s ∈ l, 0 ≤ s.1 ∧ s.2 ≤ E) → In l t → In [((0 : Int), E)] t := fun l hl ⟨s, hs, h1, h2⟩ => by
    have := hl s hs
    rw [in_one]; exact ⟨by simp only; omega, by simp only; omega⟩
  have wa' := w a wa
  have wb' := w b wb
  rcases nIn_val t ha with ⟨i, e⟩ | ⟨i, e⟩ <;> rcases nIn_val t hb with ⟨j, f⟩ | ⟨j, f⟩ <;> rcases nIn_val t c0 with ⟨k, g⟩ | ⟨k, g⟩ <;> rw [e, f, g] <;> first | (simp [i, j]; done) | exact absurd (wa' i) k | exact absurd (wb' j) k
theorem both_comm (a b : List (Int × Int)) (ha : Can a) (hb : Can b) : bothS b a = bothS a b := by
  obtain ⟨p0, p1⟩ := bothS_holds b a hb ha
  obtain ⟨q0, q1⟩ := bothS_holds a b ha hb
  refine can_uniq _ _ p0 q0 fun t => ?_
  rw [p1, q1]
  exact And.comm
/-- What both have, and what the first alone has, are all that the first has. -/
theorem sum_both_less (a b : List (Int × Int)) (ha : Can a) (hb : Can b) : sumL (bothS a b) + sumL (lessS a b) = sumL a := by
  induction a with
  | nil => rfl
  | cons s a ih =>
    obtain ⟨h0, h1, h2⟩ := can_cons.1 ha
    have e1 : bothS (s :: a) b = cutS s.1 s.2 b ++ bothS a b := List.flatMap_cons
    have e2 : lessS (s :: a) b = freeS b s.1 s.2 ++ lessS a b := List.flatMap_cons
    have cc := cutS_can s.1 s.2 b hb
    have e3 : freeS (cutS s.1 s.2 b) s.1 s.2 = freeS b s.1 s.2 := by
      obtain ⟨p0, p1⟩ := freeS_holds (cutS s.1 s.2 b) s.1 s.2 cc
      obtain ⟨q0, q1⟩ := freeS_holds b s.1 s.2 hb
      refine can_uniq _ _ p0 q0 fun t => ?_
      rw [p1, q1, cutS_in]
      constructor
      · rintro ⟨h, h'⟩; exact ⟨h, fun hh => h' ⟨hh, h⟩⟩
      · rintro ⟨h, h'⟩; exact ⟨h, fun hh => h' hh.1⟩
    have fs := free_sum (cutS s.1 s.2 b) s.1 s.2 cc (cutS_bd s.1 s.2 b) (by omega)
    rw [e3] at fs
    rw [e1, e2, sumL_append, sumL_append]
    have := ih h2
    simp only [sumL]
    omega
theorem both_bd (a b : List (Int × Int)) : ∀ u ∈ bothS a b, ∃ s ∈ a, s.1 ≤ u.1 ∧ u.1 < u.2 ∧ u.2 ≤ s.2 := by
  intro u hu
  obtain ⟨s, hs, hu⟩ := List.mem_flatMap.1 hu
  exact ⟨s, hs, cutS_bd s.1 s.2 b u hu⟩
theorem less_bd (a b : List (Int × Int)) : ∀ u ∈ lessS a b, ∃ s ∈ a, s.1 ≤ u.1 ∧ u.1 < u.2 ∧ u.2 ≤ s.2 := by
  intro u hu
  obtain ⟨s, hs, hu⟩ := List.mem_flatMap.1 hu
  exact ⟨s, hs, free_bd b s.1 s.2 u hu⟩
theorem spOk_bd {l : List (Int × Int)} (h : SpOk l) : ∀ s ∈ l, 0 ≤ s.1 ∧ s.1 < s.2 ∧ s.2 ≤ 5258985119 := by
  intro s hs
  obtain ⟨i, hi, rfl⟩ := List.getElem_of_mem hs
  have := (sp_iff _ _).1 (h.2 i hi).1
  rw [← tAt_get l i hi]
  exact ⟨this.1.1, this.2.1, this.2.2⟩
theorem both_ok (a b : List (Int × Int)) (ha : SpOk a) (hb : SpOk b) (h5 : ∀ s ∈ a, s.2 ≤ 5258964959) (hl : a.length * b.length ≤ 300) : SpOk (bothS a b) := by
  refine ok_of_can (bothS_holds a b (can_of_ok ha) (can_of_ok hb)).1 (fun u hu => ?_) (Nat.le_trans (bothS_len a b) hl)
  obtain ⟨s, hs, h⟩ := both_bd a b u hu
  have := spOk_bd ha s hs
  have := h5 s hs
  omega
theorem less_ok (a b : List (Int × Int)) (ha : SpOk a) (hb : SpOk b) (h5 : ∀ s ∈ a, s.2 ≤ 5258964959) (hl : a.length * (b.length + 1) ≤ 300) : SpOk (lessS a b) := by
  refine ok_of_can (lessS_holds a b (can_of_ok ha) (can_of_ok hb)).1 (fun u hu => ?_) (Nat.le_trans (lessS_len a b) hl)
  obtain ⟨s, hs, h⟩ := less_bd a b u hu
  have := spOk_bd ha s hs
  have := h5 s hs
  omega
theorem both_in (a b : List (Int × Int)) (t : Int) (ha : Can a) (hb : Can b) : inL (bothS a b) t = (inL a t && inL b t) := by
  rw [Bool.eq_iff_iff, inL_iff, (bothS_holds a b ha hb).2, Bool.and_eq_true, inL_iff, inL_iff]
theorem less_in (a b : List (Int × Int)) (t : Int) (ha : Can a) (hb : Can b) : inL (lessS a b) t = (inL a t && !inL b t) := by
  rw [Bool.eq_iff_iff, inL_iff, (lessS_holds a b ha hb).2, Bool.and_eq_true, Bool.not_eq_true', Bool.eq_false_iff, Ne, inL_iff, inL_iff]
/-- The first so many slots from a time on. -/
def slotsL (r : Bool) (ss : List (Int × Int)) (y n : Int) : Nat → Int → List (Int × Int)
  | 0, _ => []
  | k + 1, x => if slA r ss x y n < 0 then [] else (slA r ss x y n, slA r ss x y n + n) :: slotsL r ss y n k (slA r ss x y n + n)
theorem slA_bd {r : Bool} {ss : List (Int × Int)} {x y n : Int} (h : ¬ slA r ss x y n < 0) : x ≤ slA r ss x y n ∧ slA r ss x y n + n ≤ y ∧ 0 ≤ x ∧ y ≤ 5258964959 ∧ 1 ≤ n ∧ n ≤ 20160 ∧ frB r x y = true := by
  unfold slA at h ⊢
  by_cases hn : inB n 1 20160 = true
  · rw [if_pos hn] at h ⊢
    have nb := (in_iff _ _ _).1 hn
    obtain ⟨s, hs, h1, h2⟩ := slR_find (frA r ss x y) n (by omega)
    cases hf : frB r x y with
    | false => rw [frA_no hf] at hs; simp at hs
    | true =>
      rw [frA_yes hf] at hs h2
      obtain ⟨_, hx, hy, _⟩ := frB_iff.1 hf
      have hx := (ti_iff _).1 hx
      have hy := (ti_iff _).1 hy
      have := free_bd ss x y s hs
      rw [frA_yes hf, h2]
      exact ⟨by omega, by omega, by omega, by omega, nb.1, nb.2, rfl⟩
  · rw [if_neg hn] at h; omega
theorem slots_len (r : Bool) (ss : List (Int × Int)) (y n : Int) : ∀ k x, (slotsL r ss y n k x).length ≤ k := by
  intro k
  induction k with
  | zero => intro x; simp [slotsL]
  | succ k ih =>
    intro x
    unfold slotsL
    split
    · simp
    · have := ih (slA r ss x y n + n); simp only [List.length_cons]; omega
theorem slots_stop {r : Bool} {ss : List (Int × Int)} {y n : Int} (k : Nat) {x : Int} (h : slA r ss x y n < 0) : slotsL r ss y n k x = [] := by
  cases k with
  | zero => rfl
  | succ k => unfold slotsL; rw [if_pos h]
theorem slots_go {r : Bool} {ss : List (Int × Int)} {y n : Int} (k : Nat) {x : Int} (h : ¬ slA r ss x y n < 0) : slotsL r ss y n (k + 1) x = (slA r ss x y n, slA r ss x y n + n) :: slotsL r ss y n k (slA r ss x y n + n) := by
  conv => lhs; unfold slotsL
  rw [if_neg h]
/-- Fewer slots are the first of more. -/
theorem slots_take (r : Bool) (ss : List (Int × Int)) (y n : Int) : ∀ k m x, k ≤ m → slotsL r ss y n k x = (slotsL r ss y n m x).take k := by
  intro k
  induction k with
  | zero => intro m x _; simp [slotsL]
  | succ k ih =>
    intro m x h
    obtain ⟨m, rfl⟩ : ∃ j, m = j + 1 := ⟨m - 1, by omega⟩
    by_cases hs : slA r ss x y n < 0
    · rw [slots_stop _ hs, slots_stop _ hs]; simp
    · rw [slots_go _ hs, slots_go _ hs, List.take_succ_cons, ← ih m _ (by omega)]
/-- A slot is free. -/
theorem slA_free {r : Bool} {ss : List (Int × Int)} {x y n : Int} (hr : r = true → SpOk ss) (h : ¬ slA r ss x y n < 0) : cutS (slA r ss x y n) (slA r ss x y n + n) ss = [] := by
  have hb := slA_bd h
  have hf := hb.2.2.2.2.2.2
  have hn : inB n 1 20160 = true := (in_iff _ _ _).2 ⟨by omega, by omega⟩
  have ok := hr (frB_iff.1 hf).1
  have hc := can_of_ok ok
  have e : slA r ss x y n = slR (freeS ss x y) n := by unfold slA; rw [if_pos hn, frA_yes hf]
  rw [e] at h ⊢
  obtain ⟨s, hs, h1, h2⟩ := slR_find (freeS ss x y) n (by omega)
  rw [h2]
  cases hq : cutS s.1 (s.1 + n) ss with
  | nil => rfl
  | cons u l =>
    exfalso
    have hu : u ∈ cutS s.1 (s.1 + n) ss := by rw [hq]; simp
    have b := cutS_bd _ _ _ u hu
    have i1 := (cutS_in s.1 (s.1 + n) ss u.1).1 ⟨u, hu, Int.le_refl _, b.2.1⟩
    have i2 := ((freeS_holds ss x y hc).2 u.1).1 ⟨s, hs, by omega, by omega⟩
    exact i2.2 i1.1
structure SlotsOk (ss : List (Int × Int)) (x y n : Int) (l : List (Int × Int)) : Prop where
  each : ∀ s ∈ l, s.2 = s.1 + n ∧ x ≤ s.1 ∧ s.2 ≤ y ∧ cutS s.1 s.2 ss = []
  asc : l.Pairwise (fun s t => s.2 ≤ t.1)
theorem slots_ok {r : Bool} {ss : List (Int × Int)} {y n : Int} (hr : r = true → SpOk ss) : ∀ k x, SlotsOk ss x y n (slotsL r ss y n k x) := by
  intro k
  induction k with
  | zero => intro x; exact ⟨fun s hs => by simp [slotsL] at hs, by simp [slotsL]⟩
  | succ k ih =>
    intro x
    by_cases h : slA r ss x y n < 0
    · rw [slots_stop _ h]; exact ⟨fun s hs => by simp at hs, .nil⟩
    · rw [slots_go _ h]
      have b := slA_bd h
      have f := slA_free hr h
      obtain ⟨e, p⟩ := ih (slA r ss x y n + n)
      refine ⟨fun s hs => ?_, List.pairwise_cons.2 ⟨fun s hs => (e s hs).2.1, p⟩⟩
      rcases List.mem_cons.1 hs with rfl | hs
      · exact ⟨rfl, b.1, b.2.1, f⟩
      · have q := e s hs
        exact ⟨q.1, by omega, q.2.2.1, q.2.2.2⟩
theorem slots_head {r : Bool} {ss : List (Int × Int)} {y n x : Int} {k : Nat} {s : Int × Int} {l : List (Int × Int)} (h : slotsL r ss y n k x = s :: l) : s.1 = slA r ss x y n ∧ 0 < k := by
  cases k with
  | zero => simp [slotsL] at h
  | succ k =>
    by_cases hs : slA r ss x y n < 0
    · rw [slots_stop _ hs] at h; cases h
    · rw [slots_go _ hs] at h
      obtain ⟨rfl, _⟩ := List.cons.inj h
      exact ⟨rfl, by omega⟩
end Go.Proofs.Ytkbgbccehijckaa
