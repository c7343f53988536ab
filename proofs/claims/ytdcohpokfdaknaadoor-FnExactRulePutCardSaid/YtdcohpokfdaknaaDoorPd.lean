/- The text of a rule: the program's whole. -/
import Derived.Test.YtdcohpokfdaknaaDoorPc
namespace Go.Proofs.YtdcohpokfdaknaaDoor
open Go.RowKit
set_option linter.unusedVariables false
/-- The parts of a rule's text. -/
def ruleP (g : Nat) (ev ct un : Int) (U : ByteArray) (ds : List (Int × Int)) (da mo pl : List Int) (wk : Nat) : List ByteArray :=
  [] ++ opt true (ptT ⟨#[70, 82, 69, 81]⟩ [fqT g]) ++ opt (decide (1 < ev)) (ptT ⟨#[73, 78, 84, 69, 82, 86, 65, 76]⟩ [numT ev]) ++ opt (decide (0 < ct)) (ptT ⟨#[67, 79, 85, 78, 84]⟩ [numT ct]) ++ opt (decide (0 < un)) (ptT ⟨#[85, 78, 84, 73, 76]⟩ [U]) ++ opt (decide (0 < ds.length)) (ptT ⟨#[66, 89, 68, 65, 89]⟩ (bysT ds)) ++ opt (decide (0 < da.length)) (ptT ⟨#[66, 89, 77, 79, 78, 84, 72, 68, 65, 89]⟩ (numsT da)) ++ opt (decide (0 < mo.length)) (ptT ⟨#[66, 89, 77, 79, 78, 84, 72]⟩ (numsT mo)) ++ opt (decide (0 < pl.length)) (ptT ⟨#[66, 89, 83, 69, 84, 80, 79, 83]⟩ (numsT pl)) ++ opt (decide (0 < wk)) (ptT ⟨#[87, 75, 83, 84]⟩ [wkT wk])
set_option maxRecDepth 100000 in
set_option maxHeartbeats 16000000 in
theorem implRulePut_yes (g : Nat) (ev ct un : Int) (a0 : Option Addr) (c0 : Nat) (ds : List (Int × Int)) (a1 : Option Addr) (c1 : Nat) (da : List Int) (a2 : Option Addr) (c2 : Nat) (mo : List Int) (a3 : Option Addr) (c3 : Nat) (pl : List Int) (wk : Nat) (y m d : Nat) (w : World) (h0 : IsTurns w a0 ds) (h1 : IsInts w a1 da) (h2 : IsInts w a2 mo) (h3 : IsInts w a3 pl)
    (ok : ruB ((g : Int) + 1) ev ct un ds da mo pl wk = true) (okd : okD y m d = true) (hnum : num y m d = un) (hy : y < 10000) (hm : m < 100) (hd : d < 100) (hT : Tab w) (hP : Pow w) (hW : Wk w) (hF : Fq w) :
    Calls Tryd.prog 7 #[.agg #[.int .i64 ((g : Int) + 1), .int .i64 ev, .int .i64 ct, .int .i64 un, .slice a0 ds.length c0, .slice a1 da.length c1, .slice a2 mo.length c2, .slice a3 pl.length c3, .int .i64 wk]] w fun z w' => z = .returned (.string (joinT semi (ruleP g ev ct un (dateT y m d) ds da mo pl wk))) ∧ Below w.heap.size w w' := by
  have HO : Hid (ruB ((g : Int) + 1) ev ct un ds da mo pl wk = true) := ok
  obtain ⟨⟨⟨_, f1⟩, ⟨e0, e1⟩, ⟨t0, t1⟩, ⟨u0, u1⟩, ⟨k0, k1⟩⟩, ⟨l0, l1, l2, l3⟩, q0, q1, q2, q3⟩ := ru_bds ok
  have Q0 : Hid (∀ i, i < ds.length → (-1000 < tAt ds i ∧ tAt ds i < 1000) ∧ 0 ≤ tSh ds i ∧ tSh ds i ≤ 6) := q0
  have Q1 : Hid (∀ i, i < da.length → -1000 < gi da i ∧ gi da i < 1000) := q1
  have Q2 : Hid (∀ i, i < mo.length → -1000 < gi mo i ∧ gi mo i < 1000) := q2
  have Q3 : Hid (∀ i, i < pl.length → -1000 < gi pl i ∧ gi pl i < 1000) := q3
  have g4 : g < 4 := by omega
  have HD : Hid (okD y m d = true) := okd
  have HN : Hid (num y m d = un) := hnum
  have K := R9.new w (.int .i64 ((g : Int) + 1)) (.int .i64 ev) (.int .i64 ct) (.int .i64 un) (.slice a0 ds.length c0) (.slice a1 da.length c1) (.slice a2 mo.length c2) (.slice a3 pl.length c3) (.int .i64 wk) 30
  have b0 := (Below.refl w.heap.size w).alloc (Nat.le_refl _) (.cells #[.int .i64 ((g : Int) + 1), .int .i64 ev, .int .i64 ct, .int .i64 un, .slice a0 ds.length c0, .slice a1 da.length c1, .slice a2 mo.length c2, .slice a3 pl.length c3, .int .i64 wk] 30)
  have H0 : Hid (IsTurns w a0 ds) := h0
  have H1 : Hid (IsInts w a1 da) := h1
  have H2 : Hid (IsInts w a2 mo) := h2
  have H3 : Hid (IsInts w a3 pl) := h3
  have HT : Hid (Tab w) := hT
  have HP : Hid (Pow w) := hP
  have HW : Hid (Wk w) := hW
  have HF : Hid (Fq w) := hF
  clear h0 h1 h2 h3 hT hP hW hF ok q0 q1 q2 q3 okd hnum
  go_enter Tryd.func7, Tryd.ntmps7
  go_wp2_with fail
  with_reducible refine (implRuleOk _ ev ct un a0 c0 ds a1 c1 da a2 c2 mo a3 c3 pl wk _ (H0.out.below (B := 0) b0) (H1.out.below b0) (H2.out.below b0) (H3.out.below b0) (by omega) (by omega) (by omega) (by omega)).mono ?_
  rintro e w1 ⟨rfl, b1⟩
  rw [HO.out]
  have s1 := b1.size
  have b2 := (Below.refl w1.heap.size w1).alloc (Nat.le_refl _) (.cells #[.slice none 0 0] 39)
  have S : RS w w.heap.size w1.heap.size (.int .i64 ((g : Int) + 1)) (.int .i64 ev) (.int .i64 ct) (.int .i64 un) (.slice a0 ds.length c0) (.slice a1 da.length c1) (.slice a2 mo.length c2) (.slice a3 pl.length c3) (.int .i64 wk) [] (w1.alloc (.cells #[.slice none 0 0] 39)) :=
    ⟨(R9.keep K b1 (by simp)).keep b2 (by simp at s1; omega), ⟨⟨_, by simp, ⟨by simp, .inl ⟨rfl, rfl⟩⟩⟩, by simp [go_sem]⟩, Nat.le_refl _, by simp at s1; omega, bstep (bstep b0 b1) b2⟩
  have HE0 : Hid ((w1.alloc (.cells #[.slice none 0 0] 39)).heap.size = w1.heap.size + 1) := by simp [Hid]
  clear K b0 b1 b2 s1
  obtain ⟨k9, k10, k11, k12, k13, k14, k15, k16, k17⟩ := S.c
  have fq := (HF.out.on S.b) g g4
  go_wp2_with fail
  have S1 := S.on ((Below.refl _ (w1.alloc (.cells #[.slice none 0 0] 39))).alloc (Nat.le_refl _) (.cells #[.string (fqT g)] 9))
  have fz := fqT_size g
  with_reducible refine (implPut true _ _ [fqT g] [] _ 0 _ S1.p (OS.lit1e _ _ _ HE0.out) (by simp) (one_size (by omega)) (by decide) (by simp)).mono ?_
  rintro e w2 ⟨rfl, p2, b2⟩
  replace S := S1.put p2 b2
  have M : Sm ([] ++ opt true (ptT ⟨#[70, 82, 69, 81]⟩ [fqT g])) 1 := Sm.more (n := 0) ⟨by simp, by simp⟩ true (ptT_size (by decide) (one_size (by omega)))
  generalize hL1 : [] ++ opt true (ptT ⟨#[70, 82, 69, 81]⟩ [fqT g]) = L1 at S M
  have HL1 : Hid ([] ++ opt true (ptT ⟨#[70, 82, 69, 81]⟩ [fqT g]) = L1) := hL1
  clear hL1 S1 p2 b2 fq HE0 k9 k10 k11 k12 k13 k14 k15 k16 k17
  generalize w1.heap.size = pb at S ⊢
  have nz := numT_size (n := ev) (by omega) (by omega)
  obtain ⟨k9, k10, k11, k12, k13, k14, k15, k16, k17⟩ := S.c
  go_wp2_with fail
  have SD := RS.on S (Below.drew (Below.refl _ _))
  have PD := HP.out.on SD.b
  have TD := HT.out.on SD.b
  have WD := HW.out.on SD.b
  go_cut [17] (fun _ wc => RS w w.heap.size pb (.int .i64 ((g : Int) + 1)) (.int .i64 ev) (.int .i64 ct) (.int .i64 un) (.slice a0 ds.length c0) (.slice a1 da.length c1) (.slice a2 mo.length c2) (.slice a3 pl.length c3) (.int .i64 wk) (L1 ++ opt (decide (1 < ev)) (ptT ⟨#[73, 78, 84, 69, 82, 86, 65, 76]⟩ [numT ev])) wc)
  case first =>
    go_region_with (first
      | (go_at_call 18; refine (implItoaN ev _ (by omega) (by omega) PD).mono ?_; rintro e w3 ⟨rfl, b3⟩; have S2 := RS.on SD b3; have S3 := RS.on S2 ((Below.refl _ w3).alloc (Nat.le_refl _) (.cells #[.string (numT ev)] 9)); have t1 := S2.c.2.1; have t2 := S2.c.2.2.1; have t3 := S3.c.2.1; have t4 := S3.c.2.2.1; clear b3)
      | (go_at_call 16; refine (implPut (decide (1 < ev)) _ _ [numT ev] _ _ 0 _ S3.p (OS.lit1e _ _ _ rfl) (by first | (simp; done) | omega) (Nat.le_trans (one_size nz) (by decide)) (by decide) (by have := M.1; omega)).mono ?_; rintro e w4 ⟨rfl, p4, b4⟩; have S4 := RS.put S3 p4 b4; clear p4 b4))
    all_goals (go_wp2; go_meet; case rel => exact S4)
  clear S SD PD TD WD k9 k10 k11 k12 k13 k14 k15 k16 k17
  have S := hcut
  clear hcut
  replace M := Sm.more M (decide (1 < ev)) (ptT_size (name := ⟨#[73, 78, 84, 69, 82, 86, 65, 76]⟩) (vals := [numT ev]) (by decide) (one_size (by omega)))
  generalize hL2 : L1 ++ opt (decide (1 < ev)) (ptT ⟨#[73, 78, 84, 69, 82, 86, 65, 76]⟩ [numT ev]) = L2 at S M
  have HL2 : Hid (L1 ++ opt (decide (1 < ev)) (ptT ⟨#[73, 78, 84, 69, 82, 86, 65, 76]⟩ [numT ev]) = L2) := hL2
  clear hL2
  clear nz
  have nz := numT_size (n := ct) (by omega) (by omega)
  obtain ⟨k9, k10, k11, k12, k13, k14, k15, k16, k17⟩ := S.c
  go_wp2_with fail
  have SD := RS.on S (Below.drew (Below.refl _ _))
  have PD := HP.out.on SD.b
  have TD := HT.out.on SD.b
  have WD := HW.out.on SD.b
  go_cut [26] (fun _ wc => RS w w.heap.size pb (.int .i64 ((g : Int) + 1)) (.int .i64 ev) (.int .i64 ct) (.int .i64 un) (.slice a0 ds.length c0) (.slice a1 da.length c1) (.slice a2 mo.length c2) (.slice a3 pl.length c3) (.int .i64 wk) (L2 ++ opt (decide (0 < ct)) (ptT ⟨#[67, 79, 85, 78, 84]⟩ [numT ct])) wc)
  case first =>
    go_region_with (first
      | (go_at_call 18; refine (implItoaN ct _ (by omega) (by omega) PD).mono ?_; rintro e w3 ⟨rfl, b3⟩; have S2 := RS.on SD b3; have S3 := RS.on S2 ((Below.refl _ w3).alloc (Nat.le_refl _) (.cells #[.string (numT ct)] 9)); have t1 := S2.c.2.1; have t2 := S2.c.2.2.1; have t3 := S3.c.2.1; have t4 := S3.c.2.2.1; clear b3)
      | (go_at_call 16; refine (implPut (decide (0 < ct)) _ _ [numT ct] _ _ 0 _ S3.p (OS.lit1e _ _ _ rfl) (by first | (simp; done) | omega) (Nat.le_trans (one_size nz) (by decide)) (by decide) (by have := M.1; omega)).mono ?_; rintro e w4 ⟨rfl, p4, b4⟩; have S4 := RS.put S3 p4 b4; clear p4 b4))
    all_goals (go_wp2; go_meet; case rel => exact S4)
  clear S SD PD TD WD k9 k10 k11 k12 k13 k14 k15 k16 k17
  have S := hcut
  clear hcut
  replace M := Sm.more M (decide (0 < ct)) (ptT_size (name := ⟨#[67, 79, 85, 78, 84]⟩) (vals := [numT ct]) (by decide) (one_size (by omega)))
  generalize hL3 : L2 ++ opt (decide (0 < ct)) (ptT ⟨#[67, 79, 85, 78, 84]⟩ [numT ct]) = L3 at S M
  have HL3 : Hid (L2 ++ opt (decide (0 < ct)) (ptT ⟨#[67, 79, 85, 78, 84]⟩ [numT ct]) = L3) := hL3
  clear hL3
  clear nz
  have nz : (dateT y m d).size ≤ 10 := Nat.le_of_eq (dateT_size hy hm hd)
  obtain ⟨k9, k10, k11, k12, k13, k14, k15, k16, k17⟩ := S.c
  go_wp2_with fail
  have SD := RS.on S (Below.drew (Below.refl _ _))
  have PD := HP.out.on SD.b
  have TD := HT.out.on SD.b
  have WD := HW.out.on SD.b
  go_cut [35] (fun _ wc => RS w w.heap.size pb (.int .i64 ((g : Int) + 1)) (.int .i64 ev) (.int .i64 ct) (.int .i64 un) (.slice a0 ds.length c0) (.slice a1 da.length c1) (.slice a2 mo.length c2) (.slice a3 pl.length c3) (.int .i64 wk) (L3 ++ opt (decide (0 < un)) (ptT ⟨#[85, 78, 84, 73, 76]⟩ [dateT y m d])) wc)
  case first =>
    go_region_with (first
      | (go_at_call 20; refine (implDateOf_n un y m d _ TD HD.out HN.out).mono ?_; rintro e w3 ⟨rfl, b3⟩; have S2 := RS.on SD b3; have t1 := S2.c.2.2.2.1; have T2 := HT.out.on S2.b; have P2 := HP.out.on S2.b; clear b3)
      | (go_at_call 19; refine (implDateText_yes y m d _ HD.out hy hm hd T2 P2).mono ?_; rintro e w5 ⟨rfl, b5⟩; have S6 := RS.on S2 b5; have S3 := RS.on S6 ((Below.refl _ w5).alloc (Nat.le_refl _) (.cells #[.string (dateT y m d)] 9)); have t2 := S6.c.2.2.2.1; have t3 := S3.c.2.2.2.1; clear b5)
      | (go_at_call 16; refine (implPut (decide (0 < un)) _ _ [dateT y m d] _ _ 0 _ S3.p (OS.lit1e _ _ _ rfl) (by first | (simp; done) | omega) (Nat.le_trans (one_size nz) (by decide)) (by decide) (by have := M.1; omega)).mono ?_; rintro e w4 ⟨rfl, p4, b4⟩; have S4 := RS.put S3 p4 b4; clear p4 b4))
    all_goals (go_wp2; go_meet; case rel => exact S4)
  clear S SD PD TD WD k9 k10 k11 k12 k13 k14 k15 k16 k17
  have S := hcut
  clear hcut
  replace M := Sm.more M (decide (0 < un)) (ptT_size (name := ⟨#[85, 78, 84, 73, 76]⟩) (vals := [dateT y m d]) (by decide) (one_size (by omega)))
  generalize hL4 : L3 ++ opt (decide (0 < un)) (ptT ⟨#[85, 78, 84, 73, 76]⟩ [dateT y m d]) = L4 at S M
  have HL4 : Hid (L3 ++ opt (decide (0 < un)) (ptT ⟨#[85, 78, 84, 73, 76]⟩ [dateT y m d]) = L4) := hL4
  clear hL4
  clear nz
  have nz : (joinT comma (bysT ds)).size ≤ 60 := bys_size ds l0 Q0.out
  have nl : (bysT ds).length ≤ 8 := by unfold bysT; simp; omega
  obtain ⟨k9, k10, k11, k12, k13, k14, k15, k16, k17⟩ := S.c
  go_wp2_with fail
  have SD := RS.on S (Below.drew (Below.refl _ _))
  have PD := HP.out.on SD.b
  have TD := HT.out.on SD.b
  have WD := HW.out.on SD.b
  go_cut [45] (fun _ wc => RS w w.heap.size pb (.int .i64 ((g : Int) + 1)) (.int .i64 ev) (.int .i64 ct) (.int .i64 un) (.slice a0 ds.length c0) (.slice a1 da.length c1) (.slice a2 mo.length c2) (.slice a3 pl.length c3) (.int .i64 wk) (L4 ++ opt (decide (0 < ds.length)) (ptT ⟨#[66, 89, 68, 65, 89]⟩ (bysT ds))) wc)
  case first =>
    go_region_with (first
      | (go_at_call 21; refine (implTextsBy a0 c0 ds _ (H0.out.below (B := 0) SD.b) l0 Q0.out PD WD).mono ?_; rintro e w3 ⟨V, rfl, ov, b3⟩; have S3 := RS.on SD b3; have t1 := S3.c.2.2.2.2.1; clear b3)
      | (go_at_call 16; refine (implPut (decide (0 < ds.length)) _ _ (bysT ds) _ _ _ _ S3.p ov (by first | (simp; done) | omega) (Nat.le_trans (nz) (by decide)) (by decide) (by have := M.1; omega)).mono ?_; rintro e w4 ⟨rfl, p4, b4⟩; have S4 := RS.put S3 p4 b4; clear p4 b4))
    all_goals (go_wp2; go_meet; case rel => exact S4)
  clear S SD PD TD WD k9 k10 k11 k12 k13 k14 k15 k16 k17
  have S := hcut
  clear hcut
  replace M := Sm.more M (decide (0 < ds.length)) (ptT_size (name := ⟨#[66, 89, 68, 65, 89]⟩) (vals := (bysT ds)) (by decide) (nz))
  generalize hL5 : L4 ++ opt (decide (0 < ds.length)) (ptT ⟨#[66, 89, 68, 65, 89]⟩ (bysT ds)) = L5 at S M
  have HL5 : Hid (L4 ++ opt (decide (0 < ds.length)) (ptT ⟨#[66, 89, 68, 65, 89]⟩ (bysT ds)) = L5) := hL5
  clear hL5
  clear nz nl
  have nz : (joinT comma (numsT da)).size ≤ 60 := nums_size da l1 Q1.out
  have nl : (numsT da).length ≤ 8 := by unfold numsT; simp; omega
  obtain ⟨k9, k10, k11, k12, k13, k14, k15, k16, k17⟩ := S.c
  go_wp2_with fail
  have SD := RS.on S (Below.drew (Below.refl _ _))
  have PD := HP.out.on SD.b
  have TD := HT.out.on SD.b
  have WD := HW.out.on SD.b
  go_cut [54] (fun _ wc => RS w w.heap.size pb (.int .i64 ((g : Int) + 1)) (.int .i64 ev) (.int .i64 ct) (.int .i64 un) (.slice a0 ds.length c0) (.slice a1 da.length c1) (.slice a2 mo.length c2) (.slice a3 pl.length c3) (.int .i64 wk) (L5 ++ opt (decide (0 < da.length)) (ptT ⟨#[66, 89, 77, 79, 78, 84, 72, 68, 65, 89]⟩ (numsT da))) wc)
  case first =>
    go_region_with (first
      | (go_at_call 23; refine (implTextsInt a1 c1 da _ (H1.out.below SD.b) l1 Q1.out PD).mono ?_; rintro e w3 ⟨V, rfl, ov, b3⟩; have S3 := RS.on SD b3; have t1 := S3.c.2.2.2.2.2.1; clear b3)
      | (go_at_call 16; refine (implPut (decide (0 < da.length)) _ _ (numsT da) _ _ _ _ S3.p ov (by first | (simp; done) | omega) (Nat.le_trans (nz) (by decide)) (by decide) (by have := M.1; omega)).mono ?_; rintro e w4 ⟨rfl, p4, b4⟩; have S4 := RS.put S3 p4 b4; clear p4 b4))
    all_goals (go_wp2; go_meet; case rel => exact S4)
  clear S SD PD TD WD k9 k10 k11 k12 k13 k14 k15 k16 k17
  have S := hcut
  clear hcut
  replace M := Sm.more M (decide (0 < da.length)) (ptT_size (name := ⟨#[66, 89, 77, 79, 78, 84, 72, 68, 65, 89]⟩) (vals := (numsT da)) (by decide) (nz))
  generalize hL6 : L5 ++ opt (decide (0 < da.length)) (ptT ⟨#[66, 89, 77, 79, 78, 84, 72, 68, 65, 89]⟩ (numsT da)) = L6 at S M
  have HL6 : Hid (L5 ++ opt (decide (0 < da.length)) (ptT ⟨#[66, 89, 77, 79, 78, 84, 72, 68, 65, 89]⟩ (numsT da)) = L6) := hL6
  clear hL6
  clear nz nl
  have nz : (joinT comma (numsT mo)).size ≤ 60 := nums_size mo l2 Q2.out
  have nl : (numsT mo).length ≤ 8 := by unfold numsT; simp; omega
  obtain ⟨k9, k10, k11, k12, k13, k14, k15, k16, k17⟩ := S.c
  go_wp2_with fail
  have SD := RS.on S (Below.drew (Below.refl _ _))
  have PD := HP.out.on SD.b
  have TD := HT.out.on SD.b
  have WD := HW.out.on SD.b
  go_cut [63] (fun _ wc => RS w w.heap.size pb (.int .i64 ((g : Int) + 1)) (.int .i64 ev) (.int .i64 ct) (.int .i64 un) (.slice a0 ds.length c0) (.slice a1 da.length c1) (.slice a2 mo.length c2) (.slice a3 pl.length c3) (.int .i64 wk) (L6 ++ opt (decide (0 < mo.length)) (ptT ⟨#[66, 89, 77, 79, 78, 84, 72]⟩ (numsT mo))) wc)
  case first =>
    go_region_with (first
      | (go_at_call 23; refine (implTextsInt a2 c2 mo _ (H2.out.below SD.b) l2 Q2.out PD).mono ?_; rintro e w3 ⟨V, rfl, ov, b3⟩; have S3 := RS.on SD b3; have t1 := S3.c.2.2.2.2.2.2.1; clear b3)
      | (go_at_call 16; refine (implPut (decide (0 < mo.length)) _ _ (numsT mo) _ _ _ _ S3.p ov (by first | (simp; done) | omega) (Nat.le_trans (nz) (by decide)) (by decide) (by have := M.1; omega)).mono ?_; rintro e w4 ⟨rfl, p4, b4⟩; have S4 := RS.put S3 p4 b4; clear p4 b4))
    all_goals (go_wp2; go_meet; case rel => exact S4)
  clear S SD PD TD WD k9 k10 k11 k12 k13 k14 k15 k16 k17
  have S := hcut
  clear hcut
  replace M := Sm.more M (decide (0 < mo.length)) (ptT_size (name := ⟨#[66, 89, 77, 79, 78, 84, 72]⟩) (vals := (numsT mo)) (by decide) (nz))
  generalize hL7 : L6 ++ opt (decide (0 < mo.length)) (ptT ⟨#[66, 89, 77, 79, 78, 84, 72]⟩ (numsT mo)) = L7 at S M
  have HL7 : Hid (L6 ++ opt (decide (0 < mo.length)) (ptT ⟨#[66, 89, 77, 79, 78, 84, 72]⟩ (numsT mo)) = L7) := hL7
  clear hL7
  clear nz nl
  have nz : (joinT comma (numsT pl)).size ≤ 60 := nums_size pl l3 Q3.out
  have nl : (numsT pl).length ≤ 8 := by unfold numsT; simp; omega
  obtain ⟨k9, k10, k11, k12, k13, k14, k15, k16, k17⟩ := S.c
  go_wp2_with fail
  have SD := RS.on S (Below.drew (Below.refl _ _))
  have PD := HP.out.on SD.b
  have TD := HT.out.on SD.b
  have WD := HW.out.on SD.b
  go_cut [72] (fun _ wc => RS w w.heap.size pb (.int .i64 ((g : Int) + 1)) (.int .i64 ev) (.int .i64 ct) (.int .i64 un) (.slice a0 ds.length c0) (.slice a1 da.length c1) (.slice a2 mo.length c2) (.slice a3 pl.length c3) (.int .i64 wk) (L7 ++ opt (decide (0 < pl.length)) (ptT ⟨#[66, 89, 83, 69, 84, 80, 79, 83]⟩ (numsT pl))) wc)
  case first =>
    go_region_with (first
      | (go_at_call 23; refine (implTextsInt a3 c3 pl _ (H3.out.below SD.b) l3 Q3.out PD).mono ?_; rintro e w3 ⟨V, rfl, ov, b3⟩; have S3 := RS.on SD b3; have t1 := S3.c.2.2.2.2.2.2.2.1; clear b3)
      | (go_at_call 16; refine (implPut (decide (0 < pl.length)) _ _ (numsT pl) _ _ _ _ S3.p ov (by first | (simp; done) | omega) (Nat.le_trans (nz) (by decide)) (by decide) (by have := M.1; omega)).mono ?_; rintro e w4 ⟨rfl, p4, b4⟩; have S4 := RS.put S3 p4 b4; clear p4 b4))
    all_goals (go_wp2; go_meet; case rel => exact S4)
  clear S SD PD TD WD k9 k10 k11 k12 k13 k14 k15 k16 k17
  have S := hcut
  clear hcut
  replace M := Sm.more M (decide (0 < pl.length)) (ptT_size (name := ⟨#[66, 89, 83, 69, 84, 80, 79, 83]⟩) (vals := (numsT pl)) (by decide) (nz))
  generalize hL8 : L7 ++ opt (decide (0 < pl.length)) (ptT ⟨#[66, 89, 83, 69, 84, 80, 79, 83]⟩ (numsT pl)) = L8 at S M
  have HL8 : Hid (L7 ++ opt (decide (0 < pl.length)) (ptT ⟨#[66, 89, 83, 69, 84, 80, 79, 83]⟩ (numsT pl)) = L8) := hL8
  clear hL8
  clear nz nl
  have nz : (wkT wk).size ≤ 2 := Nat.le_of_eq (wkT_size wk)
  have wq := (HW.out.on S.b) wk (by omega)
  have w6 : (0 : Int) ≤ (wk : Int) := by omega
  have w7 : (wk : Int) < 7 := by omega
  have S3 := RS.on (RS.on S (Below.drew (Below.refl _ _))) (((Below.refl _ _)).alloc (Nat.le_refl _) (.cells #[.string (wkT wk)] 9))
  have lt8 := cell_lt S.c.1
  obtain ⟨k9, k10, k11, k12, k13, k14, k15, k16, k17⟩ := S.c
  go_wp2_with fail
  have SD := RS.on S (Below.drew (Below.refl _ _))
  have PD := HP.out.on SD.b
  have TD := HT.out.on SD.b
  have WD := HW.out.on SD.b
  go_cut [81] (fun _ wc => RS w w.heap.size pb (.int .i64 ((g : Int) + 1)) (.int .i64 ev) (.int .i64 ct) (.int .i64 un) (.slice a0 ds.length c0) (.slice a1 da.length c1) (.slice a2 mo.length c2) (.slice a3 pl.length c3) (.int .i64 wk) (L8 ++ opt (decide (0 < wk)) (ptT ⟨#[87, 75, 83, 84]⟩ [wkT wk])) wc)
  case first =>
    go_region_with (first
      | (go_at_call 16; refine (implPut (decide (0 < wk)) _ _ [wkT wk] _ _ 0 _ S3.p (OS.lit1e _ _ _ rfl) (by first | (simp; done) | omega) (Nat.le_trans (one_size nz) (by decide)) (by decide) (by have := M.1; omega)).mono ?_; rintro e w4 ⟨rfl, p4, b4⟩; have S4 := RS.put S3 p4 b4; clear p4 b4))
    all_goals (go_wp2; go_meet; case rel => exact S4)
  clear lt8 S3 S SD PD TD WD k9 k10 k11 k12 k13 k14 k15 k16 k17
  have S := hcut
  clear hcut
  replace M := Sm.more M (decide (0 < wk)) (ptT_size (name := ⟨#[87, 75, 83, 84]⟩) (vals := [wkT wk]) (by decide) (one_size (by omega)))
  generalize hL9 : L8 ++ opt (decide (0 < wk)) (ptT ⟨#[87, 75, 83, 84]⟩ [wkT wk]) = L9 at S M
  have HL9 : Hid (L8 ++ opt (decide (0 < wk)) (ptT ⟨#[87, 75, 83, 84]⟩ [wkT wk]) = L9) := hL9
  clear hL9
  clear nz wq w6 w7
  obtain ⟨⟨v, cv, ov⟩, fv⟩ := S.p
  have HB : Hid (Below w.heap.size w wc) := S.b
  have HM : Hid (Sm L9 9) := M
  have HOV : Hid (OS wc (pb + 1) v L9) := ov
  clear S M ov fv
  have n9 : L9.length ≤ 1000 := by have := HM.out.1; omega
  have s9 : (joinT semi L9).size ≤ 100000 := by have := semi_size L9 HM.out.2; have := HM.out.1; omega
  have J9 : ∀ w0 : World, OS w0 (pb + 1) v L9 → Calls Tryd.prog 17 #[v, .string ⟨#[59]⟩] w0 fun e w' => e = .returned (.string (joinT semi L9)) ∧ Below w0.heap.size w0 w' := fun w0 h => implJoin semi L9 v w0 _ h n9 s9
  have HJ9 : Hid (∀ w0 : World, OS w0 (pb + 1) v L9 → Calls Tryd.prog 17 #[v, .string ⟨#[59]⟩] w0 fun e w' => e = .returned (.string (joinT semi L9)) ∧ Below w0.heap.size w0 w') := J9
  have EQ : Hid (L9 = ruleP g ev ct un (dateT y m d) ds da mo pl wk) := by unfold Hid; rw [← HL9.out, ← HL8.out, ← HL7.out, ← HL6.out, ← HL5.out, ← HL4.out, ← HL3.out, ← HL2.out, ← HL1.out]; rfl
  clear J9 n9 s9
  go_wp2_with fail
  with_reducible refine (HJ9.out _ HOV.out).mono ?_
  rintro e w9 ⟨rfl, b9⟩
  have B9 := bstep HB.out b9
  go_wp2
  go_ret
  exact ⟨by rw [← EQ.out]; rfl, B9⟩
end Go.Proofs.YtdcohpokfdaknaaDoor
