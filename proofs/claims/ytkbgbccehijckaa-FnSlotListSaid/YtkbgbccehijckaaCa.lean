/- Spans and edges in plain numbers: no Go text stands here. -/
import Derived.Below
namespace Go.Proofs.Ytkbgbccehijckaa
set_option linter.unusedVariables false

/-- Spans in order, none empty, none touching the next. -/
def Can (l : List (Int × Int)) : Prop := (∀ s ∈ l, s.1 < s.2) ∧ l.Pairwise (fun s t => s.2 < t.1)
/-- A time is in one of some spans. -/
def In (l : List (Int × Int)) (t : Int) : Prop := ∃ s ∈ l, s.1 ≤ t ∧ t < s.2
theorem in_nil (t : Int) : ¬ In [] t := fun ⟨s, h, _⟩ => by simp at h
theorem in_cons (s : Int × Int) (l : List (Int × Int)) (t : Int) : In (s :: l) t ↔ (s.1 ≤ t ∧ t < s.2) ∨ In l t := by
  unfold In; simp
theorem in_append (l m : List (Int × Int)) (t : Int) : In (l ++ m) t ↔ In l t ∨ In m t := by
  unfold In; constructor
  · rintro ⟨s, h, h1⟩
    rcases List.mem_append.1 h with h | h
    · exact .inl ⟨s, h, h1⟩
    · exact .inr ⟨s, h, h1⟩
  · rintro (⟨s, h, h1⟩ | ⟨s, h, h1⟩)
    · exact ⟨s, List.mem_append.2 (.inl h), h1⟩
    · exact ⟨s, List.mem_append.2 (.inr h), h1⟩
theorem in_one (s : Int × Int) (t : Int) : In [s] t ↔ s.1 ≤ t ∧ t < s.2 := by rw [in_cons]; exact ⟨fun h => h.elim id (fun h => absurd h (in_nil t)), .inl⟩
theorem can_nil : Can [] := ⟨fun s h => by simp at h, .nil⟩
theorem can_cons {s : Int × Int} {l : List (Int × Int)} : Can (s :: l) ↔ s.1 < s.2 ∧ (∀ u ∈ l, s.2 < u.1) ∧ Can l := by
  unfold Can; rw [List.pairwise_cons]; simp only [List.mem_cons, forall_eq_or_imp]
  exact ⟨fun ⟨⟨a, b⟩, c, d⟩ => ⟨a, c, b, d⟩, fun ⟨a, c, b, d⟩ => ⟨⟨a, b⟩, c, d⟩⟩
theorem can_snoc {l : List (Int × Int)} {s : Int × Int} (h : Can l) (h1 : s.1 < s.2) (h2 : ∀ u ∈ l, u.2 < s.1) : Can (l ++ [s]) := by
  refine ⟨fun u hu => ?_, List.pairwise_append.2 ⟨h.2, by simp, fun u hu v hv => ?_⟩⟩
  · rcases List.mem_append.1 hu with hu | hu
    · exact h.1 u hu
    · simp at hu; subst hu; exact h1
  · simp at hv; subst hv; exact h2 u hu
/-- Such spans are told by their times. -/
theorem can_uniq : ∀ (l m : List (Int × Int)), Can l → Can m → (∀ t, In l t ↔ In m t) → l = m := by
  intro l
  induction l with
  | nil =>
    intro m _ hm h
    cases m with
    | nil => rfl
    | cons u m =>
      have := (h u.1).2 ((in_cons _ _ _).2 (.inl ⟨Int.le_refl _, (can_cons.1 hm).1⟩))
      exact absurd this (in_nil _)
  | cons s l ih =>
    intro m hl hm h
    cases m with
    | nil =>
      have := (h s.1).1 ((in_cons _ _ _).2 (.inl ⟨Int.le_refl _, (can_cons.1 hl).1⟩))
      exact absurd this (in_nil _)
    | cons u m =>
      obtain ⟨s0, s1, hl'⟩ := can_cons.1 hl
      obtain ⟨u0, u1, hm'⟩ := can_cons.1 hm
      have low : ∀ {s : Int × Int} {l : List (Int × Int)} {t : Int}, (∀ u ∈ l, s.2 < u.1) → In l t → s.2 < t := fun hh ⟨v, hv, h1, _⟩ => by have := hh v hv; omega
      have e1 : s.1 = u.1 := by
        have a := (in_cons _ _ _).1 ((h s.1).1 ((in_cons _ _ _).2 (.inl ⟨Int.le_refl _, s0⟩)))
        have b := (in_cons _ _ _).1 ((h u.1).2 ((in_cons _ _ _).2 (.inl ⟨Int.le_refl _, u0⟩)))
        have a' : u.1 ≤ s.1 := by
          rcases a with a | a
          · exact a.1
          · have := low u1 a; omega
        have b' : s.1 ≤ u.1 := by
          rcases b with b | b
          · exact b.1
          · have := low s1 b; omega
        omega
      have e2 : s.2 = u.2 := by
        rcases Int.lt_trichotomy s.2 u.2 with hlt | he | hlt
        · rcases (in_cons _ _ _).1 ((h s.2).2 ((in_cons _ _ _).2 (.inl ⟨by omega, hlt⟩))) with a | a
          · omega
          · have := low s1 a; omega
        · exact he
        · rcases (in_cons _ _ _).1 ((h u.2).1 ((in_cons _ _ _).2 (.inl ⟨by omega, hlt⟩))) with a | a
          · omega
          · have := low u1 a; omega
      have e : s = u := Prod.ext e1 e2
      subst e
      rw [ih m hl' hm' fun t => ?_]
      have ht := h t
      rw [in_cons, in_cons] at ht
      constructor
      · intro hi
        have := low s1 hi
        rcases ht.1 (.inr hi) with a | a
        · omega
        · exact a
      · intro hi
        have := low u1 hi
        rcases ht.2 (.inr hi) with a | a
        · omega
        · exact a

/-- What edges count up to at a time. -/
def cnt : List (Int × Int) → Int → Int
  | [], _ => 0
  | e :: es, t => (if e.1 ≤ t then e.2 else 0) + cnt es t
def tot : List (Int × Int) → Int
  | [] => 0
  | e :: es => e.2 + tot es
theorem cnt_append (a b : List (Int × Int)) (t : Int) : cnt (a ++ b) t = cnt a t + cnt b t := by
  induction a with
  | nil => simp [cnt]
  | cons e a ih => simp only [List.cons_append, cnt, ih]; omega
theorem tot_append (a b : List (Int × Int)) : tot (a ++ b) = tot a + tot b := by
  induction a with
  | nil => simp [tot]
  | cons e a ih => simp only [List.cons_append, tot, ih]; omega
theorem cnt_perm {a b : List (Int × Int)} (h : a.Perm b) (t : Int) : cnt a t = cnt b t := by
  induction h with
  | nil => rfl
  | cons x _ ih => simp only [cnt, ih]
  | swap x y l => simp only [cnt]; omega
  | trans _ _ ih1 ih2 => rw [ih1, ih2]
theorem tot_perm {a b : List (Int × Int)} (h : a.Perm b) : tot a = tot b := by
  induction h with
  | nil => rfl
  | cons x _ ih => simp only [tot, ih]
  | swap x y l => simp only [tot]; omega
  | trans _ _ ih1 ih2 => rw [ih1, ih2]
theorem cnt_all (a : List (Int × Int)) (t : Int) (h : ∀ e ∈ a, e.1 ≤ t) : cnt a t = tot a := by
  induction a with
  | nil => rfl
  | cons e a ih => simp only [cnt, tot]; rw [if_pos (h e (by simp)), ih fun u hu => h u (by simp [hu])]
/-- One edge passed: how many, since when, and the spans that are over. -/
def passE (s : Int × Int × List (Int × Int)) (e : Int × Int) : Int × Int × List (Int × Int) :=
  (s.1 + e.2, if 0 < s.1 + e.2 ∧ ¬ 0 < s.1 then e.1 else s.2.1, if 0 < s.1 ∧ ¬ 0 < s.1 + e.2 ∧ s.2.1 < e.1 then s.2.2 ++ [(s.2.1, e.1)] else s.2.2)
def EdgeLe (a b : Int × Int) : Prop := a.1 < b.1 ∨ (a.1 = b.1 ∧ b.2 ≤ a.2)
structure PassInv (p : List (Int × Int)) (s : Int × Int × List (Int × Int)) : Prop where
  c : s.1 = tot p
  can : Can s.2.2
  ends : ∀ u ∈ s.2.2, ∃ e ∈ p, u.2 = e.1 ∧ e.2 < 0
  beg : 0 < s.1 → (∃ e ∈ p, s.2.1 = e.1) ∧ ∀ u ∈ s.2.2, u.2 < s.2.1
  mem : ∀ t, (In s.2.2 t ∨ (0 < s.1 ∧ s.2.1 ≤ t)) ↔ 0 < cnt p t
theorem passInv_step {p : List (Int × Int)} {s : Int × Int × List (Int × Int)} {e : Int × Int} (h : PassInv p s) (hs : ∀ f ∈ p, EdgeLe f e) : PassInv (p ++ [e]) (passE s e) := by
  obtain ⟨c, b, out⟩ := s
  obtain ⟨hc, hcan, hends, hbeg, hmem⟩ := h
  simp only at hc hcan hends hbeg hmem
  have hat : ∀ f ∈ p, f.1 ≤ e.1 := fun f hf => by rcases hs f hf with h | h <;> omega
  have hcnt : ∀ t, cnt (p ++ [e]) t = cnt p t + (if e.1 ≤ t then e.2 else 0) := fun t => by rw [cnt_append]; simp [cnt]
  have hlate : ∀ t, e.1 ≤ t → cnt p t = c := fun t ht => by rw [hc]; exact cnt_all p t fun f hf => Int.le_trans (hat f hf) ht
  have hout : ∀ t, e.1 ≤ t → ¬ In out t := fun t ht ⟨u, hu, h1, h2⟩ => by
    obtain ⟨f, hf, h3, _⟩ := hends u hu
    have := hat f hf; omega
  have hup : 0 < e.2 → ∀ u ∈ out, u.2 < e.1 := fun he u hu => by
    obtain ⟨f, hf, h3, h4⟩ := hends u hu
    rcases hs f hf with h | h <;> omega
  have hends' : ∀ u ∈ out, ∃ f ∈ p ++ [e], u.2 = f.1 ∧ f.2 < 0 := fun u hu => by
    obtain ⟨f, hf, h⟩ := hends u hu; exact ⟨f, List.mem_append.2 (.inl hf), h⟩
  have htot : c + e.2 = tot (p ++ [e]) := by rw [tot_append, hc]; simp [tot]
  unfold passE
  simp only
  by_cases h0 : 0 < c
  · obtain ⟨⟨f0, hf0, hb0⟩, hb1⟩ := hbeg h0
    have hbe : b ≤ e.1 := by rw [hb0]; exact hat f0 hf0
    by_cases h1 : 0 < c + e.2
    · rw [if_neg (by omega), if_neg (by omega)]
      refine ⟨htot, hcan, hends', fun _ => ⟨⟨f0, List.mem_append.2 (.inl hf0), hb0⟩, hb1⟩, fun t => ?_⟩
      simp only
      rw [hcnt]
      by_cases ht : e.1 ≤ t
      · rw [if_pos ht, hlate t ht]
        exact ⟨fun _ => h1, fun _ => .inr ⟨h1, by omega⟩⟩
      · rw [if_neg ht, Int.add_zero, ← hmem t]
        exact or_congr Iff.rfl ⟨fun h => ⟨h0, h.2⟩, fun h => ⟨h1, h.2⟩⟩
    · rw [if_neg (by omega)]
      by_cases h2 : b < e.1
      · rw [if_pos ⟨h0, h1, h2⟩]
        refine ⟨htot, can_snoc hcan h2 hb1, fun u hu => ?_, fun h => absurd h h1, fun t => ?_⟩
        · rcases List.mem_append.1 hu with hu | hu
          · exact hends' u hu
          · simp at hu; subst hu; exact ⟨e, by simp, rfl, by omega⟩
        · simp only
          rw [hcnt, in_append, in_one]
          by_cases ht : e.1 ≤ t
          · rw [if_pos ht, hlate t ht]
            constructor
            · rintro ((h | h) | h)
              · exact absurd h (hout t ht)
              · simp only at h; omega
              · omega
            · intro h; omega
          · rw [if_neg ht, Int.add_zero, ← hmem t]
            constructor
            · rintro ((h | h) | h)
              · exact .inl h
              · exact .inr ⟨h0, h.1⟩
              · omega
            · rintro (h | h)
              · exact .inl (.inl h)
              · exact .inl (.inr ⟨h.2, by simp only; omega⟩)
      · rw [if_neg (by omega)]
        refine ⟨htot, hcan, hends', fun h => absurd h h1, fun t => ?_⟩
        simp only
        rw [hcnt]
        by_cases ht : e.1 ≤ t
        · rw [if_pos ht, hlate t ht]
          constructor
          · rintro (h | h)
            · exact absurd h (hout t ht)
            · omega
          · intro h; omega
        · rw [if_neg ht, Int.add_zero, ← hmem t]
          constructor
          · rintro (h | h)
            · exact .inl h
            · omega
          · rintro (h | h)
            · exact .inl h
            · omega
  · by_cases h1 : 0 < c + e.2
    · rw [if_pos ⟨h1, h0⟩, if_neg (by omega)]
      refine ⟨htot, hcan, hends', fun _ => ⟨⟨e, by simp, rfl⟩, hup (by omega)⟩, fun t => ?_⟩
      simp only
      rw [hcnt]
      by_cases ht : e.1 ≤ t
      · rw [if_pos ht, hlate t ht]
        exact ⟨fun _ => h1, fun _ => .inr ⟨h1, ht⟩⟩
      · rw [if_neg ht, Int.add_zero, ← hmem t]
        constructor
        · rintro (h | h)
          · exact .inl h
          · omega
        · rintro (h | h)
          · exact .inl h
          · omega
    · rw [if_neg (by omega), if_neg (by omega)]
      refine ⟨htot, hcan, hends', fun h => absurd h h1, fun t => ?_⟩
      simp only
      rw [hcnt]
      by_cases ht : e.1 ≤ t
      · rw [if_pos ht, hlate t ht]
        constructor
        · rintro (h | h)
          · exact absurd h (hout t ht)
          · omega
        · intro h; omega
      · rw [if_neg ht, Int.add_zero, ← hmem t]
        constructor
        · rintro (h | h)
          · exact .inl h
          · omega
        · rintro (h | h)
          · exact .inl h
          · omega
theorem passInv_all : ∀ (q p : List (Int × Int)) (s : Int × Int × List (Int × Int)), PassInv p s → (p ++ q).Pairwise EdgeLe → PassInv (p ++ q) (q.foldl passE s) := by
  intro q
  induction q with
  | nil => intro p s h _; simpa using h
  | cons e q ih =>
    intro p s h hs
    have hs' : ((p ++ [e]) ++ q).Pairwise EdgeLe := by simpa using hs
    have := ih (p ++ [e]) (passE s e) (passInv_step h fun f hf => (List.pairwise_append.1 hs).2.2 f hf e (by simp)) hs'
    simpa using this
def runE (es : List (Int × Int)) : List (Int × Int) := (es.foldl passE (0, 0, [])).2.2
/-- Edges in order, as many up as down: the spans are the times that count above 0. -/
theorem runE_holds (es : List (Int × Int)) (hs : es.Pairwise EdgeLe) (h0 : tot es = 0) : Can (runE es) ∧ ∀ t, In (runE es) t ↔ 0 < cnt es t := by
  have h := passInv_all es [] (0, 0, []) ⟨rfl, can_nil, fun u hu => by simp at hu, fun h => by simp at h, fun t => by simp [cnt, in_nil]⟩ (by simpa using hs)
  rw [List.nil_append] at h
  obtain ⟨c, can, _, _, mem⟩ := h
  refine ⟨can, fun t => ?_⟩
  have := mem t
  rw [c, h0] at this
  unfold runE
  rw [← this]
  exact ⟨.inl, fun h => h.elim id (fun h => by omega)⟩

/-- Spans as edges. -/
def edgesS (st : Int) (l : List (Int × Int)) : List (Int × Int) := l.flatMap fun s => [(s.1, st), (s.2, -st)]
theorem edgesS_nil (st : Int) : edgesS st [] = [] := rfl
theorem edgesS_cons (st : Int) (s : Int × Int) (l : List (Int × Int)) : edgesS st (s :: l) = (s.1, st) :: (s.2, -st) :: edgesS st l := by simp [edgesS]
theorem edgesS_append (st : Int) (l m : List (Int × Int)) : edgesS st (l ++ m) = edgesS st l ++ edgesS st m := by simp [edgesS]
theorem edgesS_len (st : Int) (l : List (Int × Int)) : (edgesS st l).length = 2 * l.length := by
  induction l with
  | nil => rfl
  | cons s l ih => rw [edgesS_cons]; simp [ih]; omega
theorem edgesS_tot (st : Int) (l : List (Int × Int)) : tot (edgesS st l) = 0 := by
  induction l with
  | nil => rfl
  | cons s l ih => rw [edgesS_cons]; simp only [tot, ih]; omega
/-- How many spans have a time. -/
def nIn (l : List (Int × Int)) (t : Int) : Int := cnt (edgesS 1 l) t
theorem nIn_cons (s : Int × Int) (l : List (Int × Int)) (t : Int) : nIn (s :: l) t = (if s.1 ≤ t then 1 else 0) - (if s.2 ≤ t then 1 else 0) + nIn l t := by
  unfold nIn; rw [edgesS_cons]; simp only [cnt]; split <;> split <;> omega
theorem cnt_neg (l : List (Int × Int)) (t : Int) : cnt (edgesS (-1) l) t = - nIn l t := by
  induction l with
  | nil => rfl
  | cons s l ih => rw [nIn_cons, edgesS_cons]; simp only [cnt, ih]; split <;> split <;> omega
theorem nIn_pos (l : List (Int × Int)) (t : Int) (h : ∀ s ∈ l, s.1 ≤ s.2) : 0 ≤ nIn l t ∧ (0 < nIn l t ↔ In l t) := by
  induction l with
  | nil => exact ⟨Int.le_refl 0, by simp [nIn, edgesS, cnt, in_nil]⟩
  | cons s l ih =>
    obtain ⟨i1, i2⟩ := ih fun u hu => h u (by simp [hu])
    have hs := h s (by simp)
    rw [nIn_cons, in_cons, ← i2]
    split <;> split <;> exact ⟨by omega, by omega⟩
theorem nIn_zero (l : List (Int × Int)) (t : Int) (h : ∀ s ∈ l, t < s.1 ∧ s.1 < s.2) : nIn l t = 0 := by
  induction l with
  | nil => rfl
  | cons s l ih =>
    have hs := h s (by simp)
    rw [nIn_cons, if_neg (by omega), if_neg (by omega), ih fun u hu => h u (by simp [hu])]; rfl
theorem nIn_can (l : List (Int × Int)) (t : Int) (h : Can l) : nIn l t ≤ 1 := by
  induction l with
  | nil => show (0 : Int) ≤ 1; omega
  | cons s l ih =>
    obtain ⟨h0, h1, h2⟩ := can_cons.1 h
    have := ih h2
    rw [nIn_cons]
    by_cases hs : s.2 ≤ t
    · rw [if_pos hs, if_pos (by omega)]; omega
    · rw [if_neg hs, nIn_zero l t fun u hu => ⟨by have := h1 u hu; omega, h2.1 u hu⟩]; split <;> omega
/-- What is free, by edges. -/
theorem free_edges (l : List (Int × Int)) (a b : Int) (h : Can l) (hab : a ≤ b) : tot ((a, 1) :: (b, -1) :: edgesS (-1) l) = 0 ∧ ∀ t, 0 < cnt ((a, 1) :: (b, -1) :: edgesS (-1) l) t ↔ (a ≤ t ∧ t < b) ∧ ¬ In l t := by
  refine ⟨by simp only [tot, edgesS_tot]; decide, fun t => ?_⟩
  simp only [cnt, cnt_neg]
  obtain ⟨n1, n2⟩ := nIn_pos l t fun s hs => Int.le_of_lt (h.1 s hs)
  have n3 := nIn_can l t h
  rw [← n2]
  split <;> split <;> constructor <;> intro _ <;> (try constructor) <;> omega

/-- What is free, gap by gap. -/
def gapS (s : List (Int × Int) × Int) (u : Int × Int) : List (Int × Int) × Int := (if s.2 < u.1 then s.1 ++ [(s.2, u.1)] else s.1, if s.2 < u.2 then u.2 else s.2)
structure GapInv (a : Int) (p : List (Int × Int)) (s : List (Int × Int) × Int) : Prop where
  can : Can s.1
  ends : ∀ u ∈ s.1, u.2 < s.2
  lo : a ≤ s.2
  src : s.2 = a ∨ ∃ u ∈ p, s.2 = u.2
  past : ∀ u ∈ p, u.2 ≤ s.2
  mem : ∀ t, a ≤ t → t < s.2 → (In s.1 t ↔ ¬ In p t)
theorem gapInv_step {a : Int} {p : List (Int × Int)} {s : List (Int × Int) × Int} {e : Int × Int} (h : GapInv a p s) (he : e.1 < e.2) (hp : ∀ u ∈ p, u.2 < e.1) : GapInv a (p ++ [e]) (gapS s e) := by
  obtain ⟨out, at'⟩ := s
  obtain ⟨hcan, hends, hlo, hsrc, hpast, hmem⟩ := h
  simp only at hcan hends hlo hsrc hpast hmem
  have hpin : ∀ t, at' ≤ t → ¬ In p t := fun t ht ⟨u, hu, h1, h2⟩ => by have := hpast u hu; omega
  have hoin : ∀ t, at' ≤ t → ¬ In out t := fun t ht ⟨u, hu, h1, h2⟩ => by have := hends u hu; omega
  unfold gapS
  simp only
  by_cases h1 : at' < e.1
  · rw [if_pos h1, if_pos (by omega)]
    refine ⟨can_snoc hcan h1 hends, fun u hu => ?_, by simp only; omega, .inr ⟨e, by simp, rfl⟩, fun u hu => ?_, fun t t0 t1 => ?_⟩
    · rcases List.mem_append.1 hu with hu | hu
      · have := hends u hu; simp only; omega
      · simp at hu; subst hu; exact he
    · rcases List.mem_append.1 hu with hu | hu
      · have := hpast u hu; simp only; omega
      · simp at hu; subst hu; exact Int.le_refl _
    · simp only at t1 ⊢
      rw [in_append, in_append, in_one, in_one]
      by_cases ht : t < at'
      · rw [hmem t t0 ht]
        constructor
        · rintro (h | h)
          · rintro (h' | h')
            · exact h h'
            · omega
          · simp only at h; omega
        · intro h; exact .inl fun h' => h (.inl h')
      · have q1 := hpin t (by omega)
        have q2 := hoin t (by omega)
        constructor
        · rintro (h | h)
          · exact absurd h q2
          · rintro (h' | h')
            · exact q1 h'
            · simp only at h; omega
        · intro h
          refine .inr ⟨by simp only; omega, ?_⟩
          simp only
          by_cases g : t < e.1
          · exact g
          · exact absurd (.inr ⟨by omega, t1⟩) h
  · rw [if_neg h1]
    have hata : at' = a := by
      rcases hsrc with h | ⟨u, hu, h⟩
      · exact h
      · have := hp u hu; omega
    by_cases h2 : at' < e.2
    · rw [if_pos h2]
      refine ⟨hcan, fun u hu => by have := hends u hu; simp only; omega, by simp only; omega, .inr ⟨e, by simp, rfl⟩, fun u hu => ?_, fun t t0 t1 => ?_⟩
      · rcases List.mem_append.1 hu with hu | hu
        · have := hpast u hu; simp only; omega
        · simp at hu; subst hu; exact Int.le_refl _
      · simp only at t1 ⊢
        rw [in_append, in_one]
        exact ⟨fun h => absurd h (hoin t (by omega)), fun h => absurd (.inr ⟨by omega, t1⟩) h⟩
    · rw [if_neg h2]
      refine ⟨hcan, hends, hlo, .inl hata, fun u hu => ?_, fun t t0 t1 => by simp only at t1; omega⟩
      rcases List.mem_append.1 hu with hu | hu
      · exact hpast u hu
      · simp at hu; subst hu; simp only; omega
theorem gapInv_all (a : Int) : ∀ (q p : List (Int × Int)) (s : List (Int × Int) × Int), GapInv a p s → Can (p ++ q) → GapInv a (p ++ q) (q.foldl gapS s) := by
  intro q
  induction q with
  | nil => intro p s h _; simpa using h
  | cons e q ih =>
    intro p s h hs
    have hs' : Can ((p ++ [e]) ++ q) := by simpa using hs
    have := ih (p ++ [e]) (gapS s e) (gapInv_step h (hs.1 e (by simp)) fun u hu => (List.pairwise_append.1 hs.2).2.2 u hu e (by simp)) hs'
    simpa using this
/-- A list of spans, cut to one. -/
def cutS (a b : Int) (l : List (Int × Int)) : List (Int × Int) := l.filterMap fun s => if (if s.1 < a then a else s.1) < (if b < s.2 then b else s.2) then some ((if s.1 < a then a else s.1), (if b < s.2 then b else s.2)) else none
theorem cutS_cons (a b : Int) (s : Int × Int) (l : List (Int × Int)) : cutS a b (s :: l) = (if (if s.1 < a then a else s.1) < (if b < s.2 then b else s.2) then [((if s.1 < a then a else s.1), (if b < s.2 then b else s.2))] else []) ++ cutS a b l := by
  unfold cutS; rw [List.filterMap_cons]
  by_cases h : (if s.1 < a then a else s.1) < (if b < s.2 then b else s.2)
  · simp only [if_pos h]; rfl
  · simp only [if_neg h]; rfl
theorem cutS_append (a b : Int) (l m : List (Int × Int)) : cutS a b (l ++ m) = cutS a b l ++ cutS a b m := by simp [cutS]
theorem cutS_in (a b : Int) (l : List (Int × Int)) (t : Int) : In (cutS a b l) t ↔ In l t ∧ a ≤ t ∧ t < b := by
  induction l with
  | nil => simp [cutS, in_nil]
  | cons s l ih =>
    rw [cutS_cons, in_append, ih, in_cons]
    by_cases h : (if s.1 < a then a else s.1) < (if b < s.2 then b else s.2)
    · rw [if_pos h, in_one]; simp only
      constructor
      · rintro (⟨h1, h2⟩ | h1)
        · split at h1 <;> split at h2 <;> exact ⟨.inl (by omega), by omega⟩
        · exact ⟨.inr h1.1, h1.2⟩
      · rintro ⟨h1 | h1, h2⟩
        · left; constructor <;> split <;> omega
        · exact .inr ⟨h1, h2⟩
    · rw [if_neg h]
      constructor
      · rintro (h1 | h1)
        · exact absurd h1 (in_nil t)
        · exact ⟨.inr h1.1, h1.2⟩
      · rintro ⟨h1 | h1, h2⟩
        · exfalso; apply h; split <;> split <;> omega
        · exact .inr ⟨h1, h2⟩
theorem cutS_can (a b : Int) (l : List (Int × Int)) (h : Can l) : Can (cutS a b l) := by
  induction l with
  | nil => exact can_nil
  | cons s l ih =>
    obtain ⟨h0, h1, h2⟩ := can_cons.1 h
    rw [cutS_cons]
    by_cases hc : (if s.1 < a then a else s.1) < (if b < s.2 then b else s.2)
    · rw [if_pos hc]
      refine can_cons.2 ⟨hc, fun u hu => ?_, ih h2⟩
      unfold cutS at hu
      obtain ⟨v, hv, hvu⟩ := List.mem_filterMap.1 hu
      have := h1 v hv
      by_cases hv2 : (if v.1 < a then a else v.1) < (if b < v.2 then b else v.2)
      · rw [if_pos hv2, Option.some.injEq] at hvu; subst hvu; simp only; clear hv2; split at hc <;> split at hc <;> split <;> split <;> omega
      · rw [if_neg hv2] at hvu; simp at hvu
    · rw [if_neg hc]; exact ih h2
/-- What is free, as the specification goes. -/
def freeS (l : List (Int × Int)) (a b : Int) : List (Int × Int) :=
  cutS a b ((l.foldl gapS ([], a)).1 ++ (if (l.foldl gapS ([], a)).2 < b then [((l.foldl gapS ([], a)).2, b)] else []))
theorem freeS_holds (l : List (Int × Int)) (a b : Int) (h : Can l) : Can (freeS l a b) ∧ ∀ t, In (freeS l a b) t ↔ (a ≤ t ∧ t < b) ∧ ¬ In l t := by
  have g := gapInv_all a l [] ([], a) ⟨can_nil, fun u hu => by simp at hu, Int.le_refl _, .inl rfl, fun u hu => by simp at hu, fun t t0 t1 => by simp only at t1; omega⟩ (by simpa using h)
  rw [List.nil_append] at g
  unfold freeS
  generalize l.foldl gapS ([], a) = s at g
  obtain ⟨out, at'⟩ := s
  obtain ⟨hcan, hends, hlo, _, hpast, hmem⟩ := g
  simp only at hcan hends hlo hpast hmem ⊢
  have hpin : ∀ t, at' ≤ t → ¬ In l t := fun t ht ⟨u, hu, h1, h2⟩ => by have := hpast u hu; omega
  have hoin : ∀ t, at' ≤ t → ¬ In out t := fun t ht ⟨u, hu, h1, h2⟩ => by have := hends u hu; omega
  by_cases hb : at' < b
  · rw [if_pos hb]
    refine ⟨cutS_can _ _ _ (can_snoc hcan hb hends), fun t => ?_⟩
    rw [cutS_in, in_append, in_one]
    simp only
    by_cases ht : t < at'
    · constructor
      · rintro ⟨h1 | h1, h2⟩
        · exact ⟨h2, (hmem t h2.1 ht).1 h1⟩
        · omega
      · rintro ⟨h1, h2⟩
        exact ⟨.inl ((hmem t h1.1 ht).2 h2), h1⟩
    · constructor
      · rintro ⟨h1, h2⟩
        exact ⟨h2, hpin t (by omega)⟩
      · rintro ⟨h1, h2⟩
        exact ⟨.inr ⟨by omega, h1.2⟩, h1⟩
  · rw [if_neg hb, List.append_nil]
    refine ⟨cutS_can _ _ _ hcan, fun t => ?_⟩
    rw [cutS_in]
    constructor
    · rintro ⟨h1, h2⟩
      exact ⟨h2, (hmem t h2.1 (by omega)).1 h1⟩
    · rintro ⟨h1, h2⟩
      exact ⟨(hmem t h1.1 (by omega)).2 h2, h1⟩
/-- Both ways lead to the same spans. -/
theorem free_same (l es : List (Int × Int)) (a b : Int) (h : Can l) (hab : a ≤ b) (hp : es.Perm ((a, 1) :: (b, -1) :: edgesS (-1) l)) (hs : es.Pairwise EdgeLe) : runE es = freeS l a b := by
  obtain ⟨f0, f1⟩ := free_edges l a b h hab
  obtain ⟨r0, r1⟩ := runE_holds es hs (by rw [tot_perm hp]; exact f0)
  obtain ⟨s0, s1⟩ := freeS_holds l a b h
  refine can_uniq _ _ r0 s0 fun t => ?_
  rw [r1, s1, cnt_perm hp, f1]
end Go.Proofs.Ytkbgbccehijckaa
