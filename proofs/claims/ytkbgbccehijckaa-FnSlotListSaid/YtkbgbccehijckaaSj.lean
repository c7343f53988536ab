/- Edges are counted: the spans in which the count is above 0. -/
import Derived.Test.YtkbgbccehijckaaSi
namespace Go.Proofs.Ytkbgbccehijckaa
open Go.RowKit
set_option linter.unusedVariables false
def stE (es : List (Int × Int)) (k : Nat) : Int × Int × List (Int × Int) := (es.take k).foldl passE (0, 0, [])
theorem stE_zero (es : List (Int × Int)) : stE es 0 = (0, 0, []) := rfl
theorem stE_succ (es : List (Int × Int)) (k : Nat) (h : k < es.length) : stE es (k + 1) = passE (stE es k) (tAt es k, tSh es k) := by
  unfold stE
  rw [List.take_add_one, List.foldl_append, tAt_get es k h]
  simp [h]
theorem stE_all (es : List (Int × Int)) : (stE es es.length).2.2 = runE es := by unfold stE runE; rw [List.take_length]
theorem stE_bd (es : List (Int × Int)) (hs : ∀ i, i < es.length → -1 ≤ tSh es i ∧ tSh es i ≤ 1) : ∀ k, k ≤ es.length → -(k : Int) ≤ (stE es k).1 ∧ (stE es k).1 ≤ k ∧ (stE es k).2.2.length ≤ k := by
  intro k
  induction k with
  | zero => intro _; rw [stE_zero]; simp
  | succ k ih =>
    intro hk
    obtain ⟨h1, h2, h3⟩ := ih (by omega)
    have h4 := hs k (by omega)
    rw [stE_succ es k (by omega)]
    unfold passE
    refine ⟨by simp only; omega, by simp only; omega, ?_⟩
    simp only
    split
    · rw [List.length_append]; simp only [List.length_cons, List.length_nil]; omega
    · omega
theorem implPass (w0 W : World) (q : Nat) (s : Int × Int × List (Int × Int)) (x st : Int) (v : Value) (h : TL w0 q s.1 s.2.1 v s.2.2 W) (hc : -1000000 ≤ s.1 ∧ s.1 ≤ 1000000) (hs : -1 ≤ st ∧ st ≤ 1) (hl : s.2.2.length ≤ 1000000) :
    Calls Try.prog 62 #[.pointer (some ⟨q, 0, none⟩), .agg #[.int .i64 x, .int .i64 st]] W fun e w' => e = .returned (.tuple #[]) ∧ ∃ v', TL w0 q (passE s (x, st)).1 (passE s (x, st)).2.1 v' (passE s (x, st)).2.2 w' := by
  obtain ⟨c, b, out⟩ := s
  simp only at h hc hl
  unfold passE
  simp only
  by_cases h0 : 0 < c
  · by_cases h1 : 0 < c + st
    · rw [if_neg (by omega), if_neg (by omega)]
      exact (passA w0 W q c b x st v out h hc hs h0 h1).mono fun e w' ⟨a, k⟩ => ⟨a, _, k⟩
    · rw [if_neg (by omega)]
      by_cases h2 : b < x
      · rw [if_pos ⟨h0, h1, h2⟩]
        exact passC w0 W q c b x st v out h hc hs h0 h1 h2 hl
      · rw [if_neg (by omega)]
        exact (passE0 w0 W q c b x st v out h hc hs h0 h1 h2).mono fun e w' ⟨a, k⟩ => ⟨a, _, k⟩
  · by_cases h1 : 0 < c + st
    · rw [if_pos ⟨h1, h0⟩, if_neg (by omega)]
      exact (passB w0 W q c b x st v out h hc hs h0 h1).mono fun e w' ⟨a, k⟩ => ⟨a, _, k⟩
    · rw [if_neg (by omega), if_neg (by omega)]
      exact (passD w0 W q c b x st v out h hc hs h0 h1).mono fun e w' ⟨a, k⟩ => ⟨a, _, k⟩
set_option maxRecDepth 100000 in
set_option maxHeartbeats 8000000 in
theorem implInOrder (w0 W : World) (q : Nat) (a : Option Addr) (cap : Nat) (es : List (Int × Int)) (v0 : Value) (h : TL w0 q 0 0 v0 [] W) (hE : IsTurns w0 a es) (hq : w0.heap.size = q) (hl : es.length ≤ 1000000) (hs : ∀ i, i < es.length → -1 ≤ tSh es i ∧ tSh es i ≤ 1) :
    Calls Try.prog 61 #[.slice a es.length cap, .func (.func 62) #[.pointer (some ⟨q, 0, none⟩)] #[]] W fun e w' => e = .returned (.tuple #[]) ∧ ∃ c b v, TL w0 q c b v (runE es) w' := by
  have HT : Hid (TL w0 q 0 0 v0 [] W) := h
  have HE : Hid (IsTurns w0 a es) := hE
  have HQ : Hid (w0.heap.size = q) := hq
  have HS : Hid (∀ i, i < es.length → -1 ≤ tSh es i ∧ tSh es i ≤ 1) := hs
  clear h hE hq hs
  go_enter Try.func61, Try.ntmps61
  go_wp2
  go_loopw [5, 8] (fun _ i wr => ∃ k : Nat, k ≤ es.length ∧ i = .int .i64 k ∧ ∃ v, TL w0 q (stE es k).1 (stE es k).2.1 v (stE es k).2.2 wr) (fun _ i _ => es.length - (intOf i).toNat)
  case atStart => exact ⟨0, by omega, rfl, v0, HT.out⟩
  case round =>
    obtain ⟨k, hk, rfl, v, hK⟩ := hrel
    have HK : Hid (TL w0 q (stE es k).1 (stE es k).2.1 v (stE es k).2.2 wr) := hK
    clear hK
    by_cases hlt : k < es.length
    · have T := HE.out
      rcases T with T | ⟨b, off, rfl, hbs, hc⟩
      · rw [T] at hlt; simp at hlt
      obtain ⟨p0, p1⟩ := hc k hlt
      have hbq : b < q := by rw [← HQ.out]; exact hbs
      have c0 : wr.cell? ⟨b, off + k * 2, none⟩ = some (.int .i64 (tAt es k)) := by rw [HK.out.bel.cell (p := ⟨b, off + k * 2, none⟩) hbq]; exact p0
      have c1 : wr.cell? ⟨b, off + k * 2 + 1, none⟩ = some (.int .i64 (tSh es k)) := by rw [HK.out.bel.cell (p := ⟨b, off + k * 2 + 1, none⟩) hbq]; exact p1
      have hi0 : (0 : Int) ≤ (k : Int) := by omega
      have hi1 : (k : Int) < (es.length : Int) := by omega
      have hbr : b < wr.heap.size := cell_lt c0
      obtain ⟨d1, d2, d3⟩ := stE_bd es HS.out k hk
      have hst := HS.out k hlt
      have HD : Hid (stE es (k + 1) = passE (stE es k) (tAt es k, tSh es k)) := stE_succ es k hlt
      have KA := HK.out.on ((Below.refl _ wr).alloc (Nat.le_refl _) (.cells #[.int .i64 (tAt es k), .int .i64 (tSh es k)] 74))
      have HKA : Hid (TL w0 q (stE es k).1 (stE es k).2.1 v (stE es k).2.2 (wr.alloc (.cells #[.int .i64 (tAt es k), .int .i64 (tSh es k)] 74))) := KA
      have HB : Hid ((-1000000 ≤ (stE es k).1 ∧ (stE es k).1 ≤ 1000000) ∧ (stE es k).2.2.length ≤ 1000000) := ⟨⟨by omega, by omega⟩, by omega⟩
      clear KA hc p0 p1 d1 d2 d3
      go_wp2_with fail
      with_reducible refine (implPass _ _ _ _ _ _ _ HKA.out HB.out.1 hst HB.out.2).mono ?_
      rintro e w3 ⟨rfl, v3, K3⟩
      rw [← HD.out] at K3
      go_wp2
      go_roundw
      case rel => exact ⟨k + 1, by omega, by go_num, v3, K3⟩
      case measure => simp [intOf]; omega
    · obtain rfl : k = es.length := by omega
      have HR : Hid ((stE es es.length).2.2 = runE es) := stE_all es
      have K := HK.out
      rw [HR.out] at K
      go_wp2
      refine bodyPost_end (v := .tuple #[]) (by simp [results, Try.results61, go_sem]) rfl ⟨rfl, _, _, _, K⟩
theorem edSort_st (es : List (Int × Int)) (hs : ∀ e ∈ es, -1 ≤ e.2 ∧ e.2 ≤ 1) : ∀ i, i < (edSort es).length → -1 ≤ tSh (edSort es) i ∧ tSh (edSort es) i ≤ 1 := by
  intro i hi
  have h := hs (edSort es)[i] ((edSort_perm es).mem_iff.1 (List.getElem_mem hi))
  rw [← tAt_get (edSort es) i hi] at h
  exact h
set_option maxRecDepth 100000 in
set_option maxHeartbeats 8000000 in
theorem implCounted (B g cap : Nat) (es : List (Int × Int)) (w : World) (h : OP w B 74 (.slice (some ⟨g, 0, none⟩) es.length cap) es) (hB : B ≤ g) (hg : g < w.heap.size) (hl : es.length ≤ 1000000) (hs : ∀ e ∈ es, -1 ≤ e.2 ∧ e.2 ≤ 1) :
    Calls Try.prog 42 #[.slice (some ⟨g, 0, none⟩) es.length cap] w fun e w' => (∃ v, e = .returned v ∧ OP w' w.heap.size 51 v (runE (edSort es))) ∧ Below B w w' := by
  have HS := edSort_st es hs
  have hl2 : (edSort es).length ≤ 1000000 := by rw [edSort_len]; exact hl
  have HN : Hid ((edSort es).length = es.length) := edSort_len es
  have HH : Hid (∀ i, i < (edSort es).length → -1 ≤ tSh (edSort es) i ∧ tSh (edSort es) i ≤ 1) := HS
  have HO : Hid (OP w B 74 (.slice (some ⟨g, 0, none⟩) es.length cap) es) := h
  clear HS hs h
  go_enter Try.func42, Try.ntmps42
  go_wp2_with fail
  with_reducible refine (implSort B g cap es _ HO.out hB hg hl).mono ?_
  rintro e w1 ⟨rfl, T1, b1⟩
  have hs1 := b1.size
  have K : TL w1 w1.heap.size 0 0 (.slice none 0 0) [] (w1.alloc (.cells #[.int .i64 0, .int .i64 0, .slice none 0 0] 77)) :=
    ⟨by simp, by simp, by simp, fun i => by simp, OP.nil _ _ _, (Below.refl _ _).alloc (Nat.le_refl _) _⟩
  have HK : Hid (TL w1 w1.heap.size 0 0 (.slice none 0 0) [] (w1.alloc (.cells #[.int .i64 0, .int .i64 0, .slice none 0 0] 77))) := K
  have IO := implInOrder w1 _ w1.heap.size (some ⟨g, 0, none⟩) cap (edSort es) _ HK.out T1 rfl hl2 HH.out
  rw [HN.out] at IO
  clear K T1
  go_wp2_with fail
  refine IO.mono ?_
  rintro e w2 ⟨rfl, c, b, v, K2⟩
  have k2 := K2.c2
  have O2 := K2.own
  have b2 := K2.bel
  have HO2 : Hid (OP w2 w.heap.size 51 v (runE (edSort es))) := O2.base (by omega)
  have HB2 : Hid (Below B w w2) := b1.trans (b2.mono (by omega))
  clear K2 O2 b2 IO HK
  go_wp2
  go_ret
  exact ⟨⟨_, rfl, HO2.out⟩, HB2.out⟩
end Go.Proofs.Ytkbgbccehijckaa
