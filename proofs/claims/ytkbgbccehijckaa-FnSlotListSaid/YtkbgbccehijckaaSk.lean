/- What is free: the program's. -/
import Derived.Test.YtkbgbccehijckaaSj
namespace Go.Proofs.Ytkbgbccehijckaa
open Go.RowKit
set_option linter.unusedVariables false
theorem OP.news {w : World} {B g cap : Nat} {T : TypeId} {ts : List (Int × Int)} {n : Nat} (h : OP w B T (.slice (some ⟨g, 0, none⟩) n cap) ts) (hn : n = ts.length) : ∀ j u, (pcs ts)[j]? = some u → w.cell? ((⟨g, 0, none⟩ : Addr).add j) = some u := by
  subst hn
  intro j u hu
  have hj : j < (pcs ts).length := (List.getElem?_eq_some_iff.1 hu).1
  rw [pcs_len] at hj
  have hc := World.ownsRow.cellAt (w := w) (base := B) (e := T) (size := 2) (g := g) (n := ts.length) (cap := cap) (xs := pcs ts) h j hj
  have e : (⟨g, 0, none⟩ : Addr).add j = ⟨g, j, none⟩ := by
    by_cases h0 : j = 0
    · subst h0; simp [Addr.add]
    · simp [Addr.add, h0]
  rw [e, hc]; exact hu
theorem pcs_one (ts : List (Int × Int)) : ∀ u ∈ pcs ts, u.oneCell' = true := by
  intro u hu
  unfold pcs at hu
  obtain ⟨p, _, hp⟩ := List.mem_flatMap.1 hu
  simp at hp
  rcases hp with rfl | rfl <;> rfl
theorem OP.app {w : World} {B g cap n m : Nat} {T : TypeId} {ts us : List (Int × Int)} (h : w.ownsRow B T 2 (.slice (some ⟨g, 0, none⟩) (n + m) cap) (n + m) (pcs ts ++ pcs us)) (hn : n = ts.length) (hm : m = us.length) : OP w B T (.slice (some ⟨g, 0, none⟩) (n + m) cap) (ts ++ us) := by
  unfold OP
  rw [pcs_append, List.length_append, ← hn, ← hm]
  exact h
theorem edgeInfo : (Try.prog.info? 74).map (fun i => (i.zero, i.size, i.bytes)) = some (some (.agg #[.int .i64 0, .int .i64 0]), 2, 16) := by kernel_rfl
theorem implEdgesOf (a b st : Int) (w : World) (hs : -1 ≤ st ∧ st ≤ 1) : Calls Try.prog 43 #[.agg #[.int .i64 a, .int .i64 b], .int .i64 st] w fun e w' => ∃ g, e = .returned (.slice (some ⟨g, 0, none⟩) 2 2) ∧ OP w' w.heap.size 74 (.slice (some ⟨g, 0, none⟩) 2 2) (edgesS st [(a, b)]) ∧ Below w.heap.size w w' ∧ w.heap.size ≤ g ∧ g < w'.heap.size := by
  have g1 := IntWalk.i64_in (-st) (by omega)
  have hb : Below w.heap.size w (w.alloc (.cells #[.int .i64 a, .int .i64 b] 51)) := (Below.refl _ _).alloc (Nat.le_refl _) _
  have hm := OP.made (w.alloc (.cells #[.int .i64 a, .int .i64 b] 51)) 74 (edgesS st [(a, b)]) #[.int .i64 a, .int .i64 st, .int .i64 b, .int .i64 (-st)] (by simp [edgesS, pcs]) (by simp [edgesS, maxLen])
  have HM : Hid (OP ((w.alloc (.cells #[.int .i64 a, .int .i64 b] 51)).alloc (.cells #[.int .i64 a, .int .i64 st, .int .i64 b, .int .i64 (-st)] 74)) w.heap.size 74 (.slice (some ⟨w.heap.size + 1, 0, none⟩) 2 2) (edgesS st [(a, b)])) := by
    have := hm.base (B' := w.heap.size) (by simp)
    unfold Hid
    simpa [edgesS] using this
  clear hm
  go_enter Try.func43, Try.ntmps43
  go_wp2
  go_ret
  exact ⟨_, rfl, HM.out, hb.alloc (by simp) _, by omega, by simp⟩
/-- The edges of what is free, ahead of span number k. -/
def feL (a b : Int) (ss : List (Int × Int)) (k : Nat) : List (Int × Int) := (a, 1) :: (b, -1) :: edgesS (-1) (ss.take k)
theorem feL_zero (a b : Int) (ss : List (Int × Int)) : feL a b ss 0 = edgesS 1 [(a, b)] := by simp [feL, edgesS]
theorem feL_succ (a b : Int) (ss : List (Int × Int)) (k : Nat) (h : k < ss.length) : feL a b ss (k + 1) = feL a b ss k ++ edgesS (-1) [(tAt ss k, tSh ss k)] := by
  unfold feL
  rw [List.take_add_one, edgesS_append, tAt_get ss k h]
  simp [h]
theorem feL_len (a b : Int) (ss : List (Int × Int)) (k : Nat) (h : k ≤ ss.length) : (feL a b ss k).length = 2 + 2 * k := by
  unfold feL; simp [edgesS_len, h]; omega
theorem feL_all (a b : Int) (ss : List (Int × Int)) : feL a b ss ss.length = (a, 1) :: (b, -1) :: edgesS (-1) ss := by unfold feL; rw [List.take_length]
theorem edgesS_st (st : Int) (hs : -1 ≤ st ∧ st ≤ 1) (l : List (Int × Int)) : ∀ e ∈ edgesS st l, -1 ≤ e.2 ∧ e.2 ≤ 1 := by
  intro e he
  obtain ⟨p, _, hp⟩ := List.mem_flatMap.1 he
  simp at hp
  rcases hp with rfl | rfl <;> simp only <;> omega
theorem fe_st (a b : Int) (ss : List (Int × Int)) : ∀ e ∈ (a, (1 : Int)) :: (b, -1) :: edgesS (-1) ss, -1 ≤ e.2 ∧ e.2 ≤ 1 := by
  intro e he
  simp only [List.mem_cons] at he
  rcases he with rfl | rfl | he
  · simp
  · simp
  · exact edgesS_st (-1) (by omega) ss e he
theorem can_of_ok {ss : List (Int × Int)} (h : SpOk ss) : Can ss := by
  refine ⟨fun s hs => ?_, ?_⟩
  · obtain ⟨i, hi, rfl⟩ := List.getElem_of_mem hs
    have := (sp_iff _ _).1 (h.2 i hi).1
    rw [← tAt_get ss i hi]
    exact this.2.1
  · rw [List.pairwise_iff_getElem]
    intro i j hi hj hij
    have key : ∀ m : Nat, i + 1 + m < ss.length → tSh ss i < tAt ss (i + 1 + m) := by
      intro m
      induction m with
      | zero => intro hm; exact (h.2 (i + 1) (by omega)).2 (by omega)
      | succ m ih =>
        intro hm
        have h1 := ih (by omega)
        have h2 := (sp_iff _ _).1 (h.2 (i + 1 + m) (by omega)).1
        have h3 := (h.2 (i + 1 + m + 1) (by omega)).2 (by omega)
        simp only [Nat.add_sub_cancel] at h3
        have e : i + 1 + (m + 1) = i + 1 + m + 1 := by omega
        rw [e]; omega
    have := key (j - (i + 1)) (by omega)
    rw [show i + 1 + (j - (i + 1)) = j by omega] at this
    rw [← tAt_get ss i hi, ← tAt_get ss j hj]
    exact this
/-- Is there an answer? -/
def frB (r : Bool) (a b : Int) : Bool := r && (tiB a && (tiB b && decide (a ≤ b)))
def frA (r : Bool) (ss : List (Int × Int)) (a b : Int) : List (Int × Int) := if frB r a b = true then freeS ss a b else []
theorem implFreeNo (a : Option Addr) (cap : Nat) (ss : List (Int × Int)) (x y : Int) (w : World) (h : IsTurns w a ss) (hl : ss.length ≤ 2000000) (r : Bool) (hr : r = true ↔ SpOk ss) (hn : frB r x y = false) :
    Calls Try.prog 16 #[.slice a ss.length cap, .int .i64 x, .int .i64 y] w fun e w' => e = .returned (.slice none 0 0) ∧ Below w.heap.size w w' := by
  have HR : Hid (r = true ↔ SpOk ss) := hr
  clear hr
  cases r with
  | false =>
    clear hn
    go_enter Try.func16, Try.ntmps16
    go_wp2_with (first | (go_at_call 25; with_reducible refine (implSpansOk _ _ _ _ h hl false HR.out).mono ?_; rintro e w' ⟨rfl, b1⟩))
    go_ret
    exact ⟨rfl, b1⟩
  | true =>
    unfold frB at hn
    rw [Bool.true_and] at hn
    cases hx : tiB x with
    | false =>
      clear hn
      go_enter Try.func16, Try.ntmps16
      go_wp2_with (first | (go_at_call 25; with_reducible refine (implSpansOk _ _ _ _ h hl true HR.out).mono ?_; rintro e w' ⟨rfl, b1⟩) | (go_at_call 41; refine (implTime _ _ false hx).mono ?_; rintro e w' ⟨rfl, rfl⟩))
      go_ret
      exact ⟨rfl, b1⟩
    | true =>
      rw [hx, Bool.true_and] at hn
      cases hy : tiB y with
      | false =>
        clear hn
        go_enter Try.func16, Try.ntmps16
        go_wp2_with (first | (go_at_call 25; with_reducible refine (implSpansOk _ _ _ _ h hl true HR.out).mono ?_; rintro e w' ⟨rfl, b1⟩) | (go_at_call 41; first | (with_reducible refine (implTime x _ true hx).mono ?_; rintro e w' ⟨rfl, rfl⟩) | (with_reducible refine (implTime y _ false hy).mono ?_; rintro e w' ⟨rfl, rfl⟩)))
        go_ret
        exact ⟨rfl, b1⟩
      | true =>
        rw [hy, Bool.true_and] at hn
        have hxy : y < x := by simp at hn; omega
        clear hn
        go_enter Try.func16, Try.ntmps16
        go_wp2_with (first | (go_at_call 25; with_reducible refine (implSpansOk _ _ _ _ h hl true HR.out).mono ?_; rintro e w' ⟨rfl, b1⟩) | (go_at_call 41; first | (with_reducible refine (implTime x _ true hx).mono ?_; rintro e w' ⟨rfl, rfl⟩) | (with_reducible refine (implTime y _ true hy).mono ?_; rintro e w' ⟨rfl, rfl⟩)))
        go_ret
        exact ⟨rfl, b1⟩
end Go.Proofs.Ytkbgbccehijckaa
