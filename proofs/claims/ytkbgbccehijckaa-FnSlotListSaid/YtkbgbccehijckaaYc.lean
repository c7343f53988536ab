/- What two lists of spans both have, what the first alone has, and slots one behind the other: the program's. -/
import Derived.Test.YtkbgbccehijckaaSo
import Derived.Test.YtkbgbccehijckaaYa
namespace Go.Proofs.Ytkbgbccehijckaa
open Go.RowKit
set_option linter.unusedVariables false
def bothA (r q : Bool) (a b : List (Int × Int)) : List (Int × Int) := if (r && q) = true then bothS a b else []
def lessA (r q : Bool) (a b : List (Int × Int)) : List (Int × Int) := if (r && q) = true then lessS a b else []
theorem bothA_len (a b : List (Int × Int)) (r q : Bool) (hr : r = true ↔ SpOk a) (hq : q = true ↔ SpOk b) : (bothA r q a b).length ≤ 2000000 := by
  unfold bothA
  by_cases h : (r && q) = true
  · rw [if_pos h]
    rw [Bool.and_eq_true] at h
    have h1 := (hr.1 h.1).1
    have h2 := (hq.1 h.2).1
    have := bothS_len a b
    have := Nat.mul_le_mul h1 h2
    omega
  · rw [if_neg h]; simp
theorem lessA_len (a b : List (Int × Int)) (r q : Bool) (hr : r = true ↔ SpOk a) (hq : q = true ↔ SpOk b) : (lessA r q a b).length ≤ 2000000 := by
  unfold lessA
  by_cases h : (r && q) = true
  · rw [if_pos h]
    rw [Bool.and_eq_true] at h
    have h1 := (hr.1 h.1).1
    have h2 := (hq.1 h.2).1
    have := lessS_len a b
    have := Nat.mul_le_mul h1 (Nat.add_le_add_right h2 1)
    omega
  · rw [if_neg h]; simp
set_option maxRecDepth 100000 in
set_option maxHeartbeats 8000000 in
theorem implLess (a : Option Addr) (cap : Nat) (ss : List (Int × Int)) (a' : Option Addr) (cap' : Nat) (tt : List (Int × Int)) (w : World) (h : IsTurns w a ss) (h' : IsTurns w a' tt) (hl : ss.length ≤ 300) (hk : tt.length ≤ 300) (ha : Can ss) (hb : Can tt) :
    Calls Try.prog 58 #[.slice a ss.length cap, .slice a' tt.length cap'] w fun e w' => (∃ v, e = .returned v ∧ OP w' w.heap.size 51 v (lessS ss tt)) ∧ Below w.heap.size w w' := by
  obtain ⟨i0, hi, hz0, hz1, hz2⟩ := info_parts edgeInfo
  have HT : Hid (IsTurns w a ss) := h
  have HU : Hid (IsTurns w a' tt) := h'
  have HL : Hid ((edgesS 1 ss).length + (edgesS (-1) tt).length ≤ 4000000) := by unfold Hid; rw [edgesS_len, edgesS_len]; omega
  have HC : Hid (Can ss ∧ Can tt) := ⟨ha, hb⟩
  clear h h' ha hb
  go_enter Try.func58, Try.ntmps58
  go_wp2_with fail
  with_reducible refine (implEdgesAll _ _ _ _ _ HT.out hl (by omega)).mono ?_
  rintro e w2 ⟨⟨v2, rfl, O2⟩, b2⟩
  have HO2 : Hid (OP w2 w.heap.size 74 v2 (edgesS 1 ss)) := O2
  clear O2
  go_wp2_with fail
  with_reducible refine (implEdgesAll _ _ _ _ _ (HU.out.below (B := 0) b2) hk (by omega)).mono ?_
  rintro e w3 ⟨⟨v3, rfl, O3⟩, b3⟩
  have B3 := bstep b2 b3
  have OK3 : Hid (OP w3 w.heap.size 74 v2 (edgesS 1 ss)) := HO2.out.on b3
  have HB3 : w.heap.size ≤ w3.heap.size := B3.size
  clear b3 b2
  go_wp2_with (first
    | (at_builtin; refine wpList_append_rows rfl _ _ _ rfl w.heap.size _ 74 i0 (.agg #[.int .i64 0, .int .i64 0]) Try.underlying57 hi hz0 hz1 hz2 rfl v2 _ (edgesS 1 ss) (edgesS (-1) tt) rfl OK3.out rfl O3 HL.out HB3 ?_; intro v4 w4 O4 hgrow b4; have B4 := B3.trans b4; clear hgrow b4 O3)
    | (go_at_call 42; fail))
  have s4 := B4.size
  have IC := implCountedOwn w.heap.size v4 (edgesS 1 ss ++ edgesS (-1) tt) w4 O4 s4 (by rw [List.length_append, edgesS_len, edgesS_len]; omega) (lessE_st ss tt)
  have HF : Hid (runE (edSort (edgesS 1 ss ++ edgesS (-1) tt)) = lessS ss tt) := less_same ss tt _ HC.out.1 HC.out.2 (edSort_perm _) (edSort_sorted _)
  rw [HF.out] at IC
  clear HF O4
  refine IC.mono ?_
  rintro e w5 ⟨⟨v, rfl, O5⟩, b5⟩
  have HO5 : Hid (OP w5 w.heap.size 51 v (lessS ss tt)) := O5.base s4
  have B5 : Below w.heap.size w w5 := B4.trans b5
  clear O5 b5 IC
  go_wp2
  go_ret
  exact ⟨⟨_, rfl, HO5.out⟩, B5⟩
set_option maxHeartbeats 8000000 in
theorem implSpansLess (a : Option Addr) (cap : Nat) (ss : List (Int × Int)) (a' : Option Addr) (cap' : Nat) (tt : List (Int × Int)) (w : World) (h : IsTurns w a ss) (h' : IsTurns w a' tt) (hl : ss.length ≤ 2000000) (hk : tt.length ≤ 2000000) (r q : Bool) (hr : r = true ↔ SpOk ss) (hq : q = true ↔ SpOk tt) :
    Calls Try.prog 32 #[.slice a ss.length cap, .slice a' tt.length cap'] w fun e w' => (∃ v, e = .returned v ∧ OP w' w.heap.size 51 v (lessA r q ss tt)) ∧ Below w.heap.size w w' := by
  have HR : Hid (r = true ↔ SpOk ss) := hr
  have HQ : Hid (q = true ↔ SpOk tt) := hq
  have HT : Hid (IsTurns w a ss) := h
  have HU : Hid (IsTurns w a' tt) := h'
  clear hr hq h h'
  cases r with
  | false =>
    go_enter Try.func32, Try.ntmps32
    go_wp2_with (first | (go_at_call 25; with_reducible refine (implSpansOk _ _ _ _ HT.out hl false HR.out).mono ?_; rintro e w' ⟨rfl, b1⟩))
    go_ret
    exact ⟨⟨_, rfl, OP.nil _ _ _⟩, b1⟩
  | true =>
    cases q with
    | false =>
      go_enter Try.func32, Try.ntmps32
      go_wp2_with fail
      with_reducible refine (implSpansOk _ _ _ _ HT.out hl true (by have q := HR.out; simpa using q)).mono ?_
      rintro e w1 ⟨rfl, b1⟩
      go_wp2_with fail
      with_reducible refine (implSpansOk _ _ _ _ (HU.out.below (B := 0) b1) hk false HQ.out).mono ?_
      rintro e w2 ⟨rfl, b2⟩
      have B2 := bstep b1 b2
      clear b1 b2
      go_wp2
      go_ret
      exact ⟨⟨_, rfl, OP.nil _ _ _⟩, B2⟩
    | true =>
      have oa := HR.out.1 rfl
      have ob := HQ.out.1 rfl
      have HC : Hid (Can ss ∧ Can tt) := ⟨can_of_ok oa, can_of_ok ob⟩
      have la : ss.length ≤ 300 := oa.1
      have lb : tt.length ≤ 300 := ob.1
      clear oa ob
      go_enter Try.func32, Try.ntmps32
      go_wp2_with fail
      with_reducible refine (implSpansOk _ _ _ _ HT.out hl true (by have q := HR.out; simpa using q)).mono ?_
      rintro e w1 ⟨rfl, b1⟩
      go_wp2_with fail
      with_reducible refine (implSpansOk _ _ _ _ (HU.out.below (B := 0) b1) hk true (by have q := HQ.out; simpa using q)).mono ?_
      rintro e w2 ⟨rfl, b2⟩
      have B2 := bstep b1 b2
      clear b1 b2
      go_wp2_with fail
      with_reducible refine (implLess _ _ _ _ _ _ _ (HT.out.below (B := 0) B2) (HU.out.below (B := 0) B2) la lb HC.out.1 HC.out.2).mono ?_
      rintro e w3 ⟨⟨v, rfl, O3⟩, b3⟩
      have HO3 : Hid (OP w3 w.heap.size 51 v (lessS ss tt)) := O3.base B2.size
      have B3 := bstep B2 b3
      clear O3 b3 B2
      go_wp2
      go_ret
      exact ⟨⟨_, rfl, HO3.out⟩, B3⟩
/-- Lists of spans that lie in a row. -/
def IsLists (w : World) (g : Nat) (ls : List (List (Int × Int))) : Prop := ∀ k, k < ls.length → ∃ a cap, w.cell? ⟨g, k, none⟩ = some (.slice a (ls.getD k []).length cap) ∧ IsTurns w a (ls.getD k [])
theorem IsLists.below {w w' : World} {g : Nat} {ls : List (List (Int × Int))} (h : IsLists w g ls) (hb : Below w.heap.size w w') : IsLists w' g ls := fun k hk => by
  obtain ⟨a, cap, h1, h2⟩ := h k hk
  exact ⟨a, cap, by rw [hb.cell (p := ⟨g, k, none⟩) (cell_lt h1)]; exact h1, h2.below (B := 0) hb⟩
def listsE (E : Int) (ls : List (List (Int × Int))) (k : Nat) : List (Int × Int) := edgesS (1 - (ls.length : Int)) [(0, E)] ++ (ls.take k).flatMap (edgesS 1)
theorem listsE_zero (E : Int) (ls : List (List (Int × Int))) : listsE E ls 0 = edgesS (1 - (ls.length : Int)) [(0, E)] := by unfold listsE; simp
theorem listsE_succ (E : Int) (ls : List (List (Int × Int))) (k : Nat) (h : k < ls.length) : listsE E ls (k + 1) = listsE E ls k ++ edgesS 1 (ls.getD k []) := by
  unfold listsE
  rw [List.take_add_one, List.flatMap_append, ← List.append_assoc]
  simp [h]
theorem listsE_len (E : Int) (ls : List (List (Int × Int))) (h : ∀ k, k < ls.length → (ls.getD k []).length ≤ 300) : ∀ k, k ≤ ls.length → (listsE E ls k).length ≤ 2 + 600 * k := by
  intro k
  induction k with
  | zero => intro _; rw [listsE_zero, edgesS_len]; simp
  | succ k ih =>
    intro hk
    have h1 := ih (by omega)
    have h2 := h k (by omega)
    rw [listsE_succ E ls k (by omega), List.length_append, edgesS_len]
    omega
set_option maxRecDepth 100000 in
set_option maxHeartbeats 8000000 in
theorem implInAll (g cap : Nat) (ls : List (List (Int × Int))) (w : World) (h : IsLists w g ls) (hl : 1 ≤ ls.length ∧ ls.length ≤ 2) (hk : ∀ k, k < ls.length → (ls.getD k []).length ≤ 300) :
    Calls Try.prog 56 #[.slice (some ⟨g, 0, none⟩) ls.length cap] w fun e w' => (∃ v, e = .returned v ∧ OP w' w.heap.size 51 v (runE (edSort (listsE 5258985119 ls ls.length)))) ∧ Below w.heap.size w w' := by
  obtain ⟨i0, hi, hz0, hz1, hz2⟩ := info_parts edgeInfo
  have HT : Hid (IsLists w g ls) := h
  have HK : Hid (∀ k, k < ls.length → (ls.getD k []).length ≤ 300) := hk
  have HN : Hid (∀ k, k ≤ ls.length → (listsE 5258985119 ls k).length ≤ 2 + 600 * k) := listsE_len _ _ hk
  have HZ : Hid (listsE 5258985119 ls 0 = edgesS (1 - (ls.length : Int)) [(0, 5258985119)]) := listsE_zero _ _
  have g1 := IntWalk.i64_in (1 - (ls.length : Int)) (by omega)
  clear h hk
  go_enter Try.func56, Try.ntmps56
  go_wp2_with fail
  with_reducible refine (implEdgesOf _ _ _ _ (by omega)).mono ?_
  rintro e w2 ⟨g2, rfl, O2, b2, l2, u2⟩
  have HO2 : Hid (OP w2 w.heap.size 74 (.slice (some ⟨g2, 0, none⟩) 2 2) (listsE 5258985119 ls 0)) := by unfold Hid; rw [HZ.out]; exact O2
  have HB2 : Hid (Below w.heap.size w w2) := b2
  clear O2 b2 l2 u2 HZ
  go_wp2
  go_loopw [3, 5, 13] (fun ev0 _ i wr => ∃ (k : Nat) (ev : Value), k ≤ ls.length ∧ i = .int .i64 k ∧ ev = ev0 ∧ OP wr w.heap.size 74 ev (listsE 5258985119 ls k) ∧ Below w.heap.size w wr) (fun _ _ i _ => ls.length - (intOf i).toNat)
  case atStart => exact ⟨0, _, by omega, rfl, rfl, HO2.out, HB2.out⟩
  case round =>
    obtain ⟨k, ev, hk, rfl, hev, hO, hb⟩ := hrel
    subst hev
    have HOk : Hid (OP wr w.heap.size 74 ev (listsE 5258985119 ls k)) := hO
    have hsz := hb.size
    clear hO
    by_cases hlt : k < ls.length
    · obtain ⟨ak, ck, c0, T0⟩ := HT.out.below hb k hlt
      have h3 := HK.out k hlt
      have hi0 : (0 : Int) ≤ (k : Int) := by omega
      have hi1 : (k : Int) < (ls.length : Int) := by omega
      have HF : Hid (listsE 5258985119 ls (k + 1) = listsE 5258985119 ls k ++ edgesS 1 (ls.getD k [])) := listsE_succ _ _ _ hlt
      have HL : Hid ((listsE 5258985119 ls k).length + (edgesS 1 (ls.getD k [])).length ≤ 4000000) := by unfold Hid; rw [edgesS_len]; have := HN.out k hk; omega
      generalize ls.getD k [] = X at *
      have HX : Hid (IsTurns wr ak X) := T0
      clear T0
      go_wp2_with fail
      with_reducible refine (implEdgesAll _ _ _ _ _ HX.out h3 (by omega)).mono ?_
      rintro e w3 ⟨⟨v3, rfl, O3⟩, b3⟩
      have B3 := bstep hb b3
      have OK3 : Hid (OP w3 w.heap.size 74 ev (listsE 5258985119 ls k)) := HOk.out.on b3
      have HB3 : w.heap.size ≤ w3.heap.size := B3.size
      clear b3
      go_wp2_with (first
        | (at_builtin; refine wpList_append_rows rfl _ _ _ rfl w.heap.size _ 74 i0 (.agg #[.int .i64 0, .int .i64 0]) Try.underlying57 hi hz0 hz1 hz2 rfl ev _ (listsE 5258985119 ls k) (edgesS 1 X) rfl OK3.out rfl O3 HL.out HB3 ?_; intro v4 w4 O4 hgrow b4; rw [← HF.out] at O4; have HO4 : Hid (OP w4 w.heap.size 74 v4 (listsE 5258985119 ls (k + 1))) := O4; have B4 := B3.trans b4; clear O4 hgrow b4 O3))
      go_roundw
      case rel => exact ⟨k + 1, _, by omega, by go_num, rfl, HO4.out, B4⟩
      case measure => simp [intOf]; omega
    · obtain rfl : k = ls.length := by omega
      have IC := implCountedOwn w.heap.size ev (listsE 5258985119 ls ls.length) wr HOk.out hsz (by have := HN.out ls.length (Nat.le_refl _); omega) (by
        intro e he
        unfold listsE at he
        rcases List.mem_append.1 he with he | he
        · exact edgesS_st _ (by omega) _ e he
        · obtain ⟨l, _, he⟩ := List.mem_flatMap.1 he
          exact edgesS_st 1 (by omega) _ e he)
      go_wp2_with fail
      refine IC.mono ?_
      rintro e w5 ⟨⟨v, rfl, O5⟩, b5⟩
      have HO5 : Hid (OP w5 w.heap.size 51 v (runE (edSort (listsE 5258985119 ls ls.length)))) := O5.base hsz
      have B5 : Below w.heap.size w w5 := hb.trans b5
      clear O5 b5 IC
      go_wp2
      go_ret
      exact ⟨⟨_, rfl, HO5.out⟩, B5⟩
set_option maxHeartbeats 8000000 in
theorem implSpansBoth (a : Option Addr) (cap : Nat) (ss : List (Int × Int)) (a' : Option Addr) (cap' : Nat) (tt : List (Int × Int)) (w : World) (h : IsTurns w a ss) (h' : IsTurns w a' tt) (hl : ss.length ≤ 2000000) (hk : tt.length ≤ 2000000) (r q : Bool) (hr : r = true ↔ SpOk ss) (hq : q = true ↔ SpOk tt) :
    Calls Try.prog 30 #[.slice a ss.length cap, .slice a' tt.length cap'] w fun e w' => (∃ v, e = .returned v ∧ OP w' w.heap.size 51 v (bothA r q ss tt)) ∧ Below w.heap.size w w' := by
  have HR : Hid (r = true ↔ SpOk ss) := hr
  have HQ : Hid (q = true ↔ SpOk tt) := hq
  have HT : Hid (IsTurns w a ss) := h
  have HU : Hid (IsTurns w a' tt) := h'
  clear hr hq h h'
  cases r with
  | false =>
    go_enter Try.func30, Try.ntmps30
    go_wp2_with (first | (go_at_call 25; with_reducible refine (implSpansOk _ _ _ _ HT.out hl false HR.out).mono ?_; rintro e w' ⟨rfl, b1⟩))
    go_ret
    exact ⟨⟨_, rfl, OP.nil _ _ _⟩, b1⟩
  | true =>
    cases q with
    | false =>
      go_enter Try.func30, Try.ntmps30
      go_wp2_with fail
      with_reducible refine (implSpansOk _ _ _ _ HT.out hl true (by have q := HR.out; simpa using q)).mono ?_
      rintro e w1 ⟨rfl, b1⟩
      go_wp2_with fail
      with_reducible refine (implSpansOk _ _ _ _ (HU.out.below (B := 0) b1) hk false HQ.out).mono ?_
      rintro e w2 ⟨rfl, b2⟩
      have B2 := bstep b1 b2
      clear b1 b2
      go_wp2
      go_ret
      exact ⟨⟨_, rfl, OP.nil _ _ _⟩, B2⟩
    | true =>
      have oa := HR.out.1 rfl
      have ob := HQ.out.1 rfl
      have la : ss.length ≤ 300 := oa.1
      have lb : tt.length ≤ 300 := ob.1
      have HE : Hid (runE (edSort (listsE 5258985119 [ss, tt] 2)) = bothS ss tt) := by
        refine both_same 5258985119 ss tt _ (can_of_ok oa) (can_of_ok ob) (by omega) (fun s hs => ?_) (fun s hs => ?_) ?_ (edSort_sorted _)
        · have := spOk_bd oa s hs; omega
        · have := spOk_bd ob s hs; omega
        · have e : listsE 5258985119 [ss, tt] 2 = bothE 5258985119 ss tt := by unfold listsE bothE; simp
          rw [e]; exact edSort_perm _
      clear oa ob
      go_enter Try.func30, Try.ntmps30
      go_wp2_with fail
      with_reducible refine (implSpansOk _ _ _ _ HT.out hl true (by have q := HR.out; simpa using q)).mono ?_
      rintro e w1 ⟨rfl, b1⟩
      go_wp2_with fail
      with_reducible refine (implSpansOk _ _ _ _ (HU.out.below (B := 0) b1) hk true (by have q := HQ.out; simpa using q)).mono ?_
      rintro e w2 ⟨rfl, b2⟩
      have B2 := bstep b1 b2
      have T2 := HT.out.below (B := 0) B2
      have U2 := HU.out.below (B := 0) B2
      have bA : ∀ o, Below w2.heap.size w2 (w2.alloc o) := fun o => (Below.refl _ _).alloc (Nat.le_refl _) o
      have HLs : Hid (∀ T, IsLists (w2.alloc (.cells #[.slice a ss.length cap, .slice a' tt.length cap'] T)) w2.heap.size [ss, tt]) := by
        intro T k hk
        have : k = 0 ∨ k = 1 := by simp at hk; omega
        rcases this with rfl | rfl
        · exact ⟨a, cap, by simp, T2.below (B := 0) (bA _)⟩
        · exact ⟨a', cap', by simp, U2.below (B := 0) (bA _)⟩
      have HB2 : Hid (Below w.heap.size w w2) := B2
      clear b1 b2 T2 U2 bA B2
      go_wp2_with fail
      have IA := fun T => implInAll w2.heap.size 2 [ss, tt] _ (HLs.out T) (by simp) (fun k hk => by
        have : k = 0 ∨ k = 1 := by simp at hk; omega
        rcases this with rfl | rfl
        · exact la
        · exact lb)
      simp only [List.length_cons, List.length_nil, Nat.zero_add, Nat.reduceAdd] at IA
      rw [HE.out] at IA
      refine (IA _).mono ?_
      rintro e w3 ⟨⟨v, rfl, O3⟩, b3⟩
      have hs2 := HB2.out.size
      have HO3 : Hid (OP w3 w.heap.size 51 v (bothS ss tt)) := O3.base (by simp; omega)
      have B3 := bstep (HB2.out.alloc hs2 _) b3
      clear O3 b3 IA
      go_wp2
      go_ret
      exact ⟨⟨_, rfl, HO3.out⟩, B3⟩
end Go.Proofs.Ytkbgbccehijckaa
