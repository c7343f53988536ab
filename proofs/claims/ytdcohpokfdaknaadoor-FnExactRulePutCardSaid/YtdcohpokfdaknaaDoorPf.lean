/- The text of a rule: the specification's. -/
import Derived.Test.YtdcohpokfdaknaaDoorPe
namespace Go.Proofs.YtdcohpokfdaknaaDoor
open Go.RowKit
set_option linter.unusedVariables false
theorem listT_size (name : ByteArray) (l : List ByteArray) (hn : name.size ≤ 20) (hs : (joinT comma l).size ≤ 60) : (listT name l).size ≤ 82 := by
  unfold listT
  split
  · exact Nat.zero_le _
  · have s1 : semi.size = 1 := rfl
    have s2 : eqS.size = 1 := rfl
    rw [ByteArray.size_append, ByteArray.size_append, ByteArray.size_append]
    omega
theorem bys_each (l : List (Int × Int)) (hb : ∀ i, i < l.length → (-1000 < tAt l i ∧ tAt l i < 1000) ∧ 0 ≤ tSh l i ∧ tSh l i ≤ 6) : ∀ x ∈ bysT l, x.size ≤ 6 ∧ 1 ≤ x.size := fun x hx => by
  unfold bysT at hx
  obtain ⟨p, hp, rfl⟩ := List.mem_map.1 hx
  obtain ⟨i, hi, rfl⟩ := List.getElem_of_mem hp
  have q := hb i hi
  have e : tAt l i = l[i].1 := by simp [tAt, hi]
  have w2 := wkT_size (l[i].2).toNat
  unfold byT
  split
  · omega
  · have := numT_size (n := l[i].1) (by omega) (by omega)
    rw [ByteArray.size_append]; omega
theorem bys_take_size (l : List (Int × Int)) (k : Nat) (h8 : l.length ≤ 8) (hb : ∀ i, i < l.length → (-1000 < tAt l i ∧ tAt l i < 1000) ∧ 0 ≤ tSh l i ∧ tSh l i ≤ 6) : (joinT comma (bysT (l.take k))).size ≤ 60 := by
  have a := joinT_size (bysT (l.take k)) 6 (fun x hx => (bys_each l hb x (by
    unfold bysT at hx ⊢
    obtain ⟨p, hp, rfl⟩ := List.mem_map.1 hx
    exact List.mem_map.2 ⟨p, List.mem_of_mem_take hp, rfl⟩)).1)
  have b : (bysT (l.take k)).length ≤ 8 := by unfold bysT; simp; omega
  omega
set_option maxRecDepth 100000 in
set_option maxHeartbeats 16000000 in
theorem specPut (g : Nat) (ev ct un : Int) (a0 : Option Addr) (c0 : Nat) (ds : List (Int × Int)) (a1 : Option Addr) (c1 : Nat) (da : List Int) (a2 : Option Addr) (c2 : Nat) (mo : List Int) (a3 : Option Addr) (c3 : Nat) (pl : List Int) (wk : Nat) (y m d : Nat) (w : World) (h0 : IsTurns w a0 ds) (h1 : IsInts w a1 da) (h2 : IsInts w a2 mo) (h3 : IsInts w a3 pl)
    (ok : ruB ((g : Int) + 1) ev ct un ds da mo pl wk = true) (okd : okD y m d = true) (hnum : num y m d = un) (hy : y < 10000) (hm : m < 100) (hd : d < 100) :
    Calls Tryd.prog 12 #[.agg #[.int .i64 ((g : Int) + 1), .int .i64 ev, .int .i64 ct, .int .i64 un, .slice a0 ds.length c0, .slice a1 da.length c1, .slice a2 mo.length c2, .slice a3 pl.length c3, .int .i64 wk]] w fun z w' => z = .returned (.string (joinT semi (ruleP g ev ct un (dateT y m d) ds da mo pl wk))) ∧ Below w.heap.size w w' := by
  obtain ⟨⟨⟨_, f1⟩, ⟨e0, e1⟩, ⟨t0, t1⟩, ⟨u0, u1⟩, ⟨k0, k1⟩⟩, ⟨l0, l1, l2, l3⟩, q0, q1, q2, q3⟩ := ru_bds ok
  have Q0 : Hid (∀ i, i < ds.length → (-1000 < tAt ds i ∧ tAt ds i < 1000) ∧ 0 ≤ tSh ds i ∧ tSh ds i ≤ 6) := q0
  have Q1 : Hid (∀ i, i < da.length → -1000 < gi da i ∧ gi da i < 1000) := q1
  have Q2 : Hid (∀ i, i < mo.length → -1000 < gi mo i ∧ gi mo i < 1000) := q2
  have Q3 : Hid (∀ i, i < pl.length → -1000 < gi pl i ∧ gi pl i < 1000) := q3
  have HD : Hid (okD y m d = true) := okd
  have HN : Hid (num y m d = un) := hnum
  have K : QR w w.heap.size (.int .i64 ((g : Int) + 1)) (.int .i64 ev) (.int .i64 ct) (.int .i64 un) (.slice a0 ds.length c0) (.slice a1 da.length c1) (.slice a2 mo.length c2) (.slice a3 pl.length c3) (.int .i64 wk) a0 ds a1 da a2 mo a3 pl (w.alloc (.cells #[.int .i64 ((g : Int) + 1), .int .i64 ev, .int .i64 ct, .int .i64 un, .slice a0 ds.length c0, .slice a1 da.length c1, .slice a2 mo.length c2, .slice a3 pl.length c3, .int .i64 wk] 30)) := QR.new _ h0 h1 h2 h3
  have g4 : g = 0 ∨ g = 1 ∨ g = 2 ∨ g = 3 := by omega
  clear h0 h1 h2 h3 q0 q1 q2 q3 ok okd hnum
  have M : Sm ([] ++ opt true (ptT ⟨#[70, 82, 69, 81]⟩ [fqT g])) 1 := Sm.more (n := 0) ⟨by simp, by simp⟩ true (ptT_size (by decide) (Nat.le_trans (one_size (fqT_size g)) (by decide)))
  have HJ : Hid (joinT semi ([] ++ opt true (ptT ⟨#[70, 82, 69, 81]⟩ [fqT g])) = (⟨#[70, 82, 69, 81, 61]⟩ : ByteArray) ++ fqT g) := by
    unfold Hid opt; rw [if_pos rfl, List.nil_append, joinT_one]; unfold ptT; rw [joinT_one]; rfl
  have N1 : Hid (([] ++ opt true (ptT ⟨#[70, 82, 69, 81]⟩ [fqT g]) : List ByteArray) ≠ []) := by unfold Hid; simp [opt]
  generalize hL1 : ([] ++ opt true (ptT ⟨#[70, 82, 69, 81]⟩ [fqT g]) : List ByteArray) = L1 at M HJ N1
  have HL1 : Hid (([] ++ opt true (ptT ⟨#[70, 82, 69, 81]⟩ [fqT g]) : List ByteArray) = L1) := hL1
  have HM1 : Hid (Sm L1 1) := M
  clear hL1 M
  go_enter Tryd.func12, Tryd.ntmps12
  go_upto_region 1 with fail
  go_cut [3] (fun o wc => o = .string (joinT semi L1) ∧ QR w w.heap.size (.int .i64 ((g : Int) + 1)) (.int .i64 ev) (.int .i64 ct) (.int .i64 un) (.slice a0 ds.length c0) (.slice a1 da.length c1) (.slice a2 mo.length c2) (.slice a3 pl.length c3) (.int .i64 wk) a0 ds a1 da a2 mo a3 pl wc)
  case first =>
    obtain ⟨x0, x1, x2, x3, x4, x5, x6, x7, x8, _⟩ := id K
    have KON : ∀ o : Obj, _ := fun o : Obj => QR.on K ((Below.refl _ _).alloc (Nat.le_refl _) o)
    rcases g4 with rfl | rfl | rfl | rfl <;> (go_wp2_with fail; go_meet; case rel => exact ⟨by rw [HJ.out]; rfl, KON _⟩)
  clear K HJ g4
  obtain ⟨rfl, K⟩ := hcut
  -- INTERVAL
  have z : (joinT semi L1).size ≤ 101 := Nat.le_trans (semi_size _ HM1.out.2) (Nat.le_trans (Nat.mul_le_mul_left _ HM1.out.1) (by decide))
  have nz : (numT ev).size ≤ 4 := numT_size (by omega) (by omega)
  obtain ⟨x0, x1, x2, x3, x4, x5, x6, x7, x8, _⟩ := id K
  go_upto_if 14 with fail
  go_cut [3] (fun o wc => o = .string (joinT semi (L1 ++ opt (decide (1 < ev)) (ptT ⟨#[73, 78, 84, 69, 82, 86, 65, 76]⟩ [numT ev]))) ∧ QR w w.heap.size (.int .i64 ((g : Int) + 1)) (.int .i64 ev) (.int .i64 ct) (.int .i64 un) (.slice a0 ds.length c0) (.slice a1 da.length c1) (.slice a2 mo.length c2) (.slice a3 pl.length c3) (.int .i64 wk) a0 ds a1 da a2 mo a3 pl wc)
  case first =>
    by_cases hc : 1 < ev
    · have FIN : Hid (joinT semi (L1 ++ opt (decide (1 < ev)) (ptT ⟨#[73, 78, 84, 69, 82, 86, 65, 76]⟩ [numT ev])) = joinT semi L1 ++ (⟨#[59, 73, 78, 84, 69, 82, 86, 65, 76, 61]⟩ : ByteArray) ++ numT ev) := by
        unfold Hid
        rw [show decide (1 < ev) = true from decide_eq_true hc, joinO_yes L1 N1.out]; exact (part_one _ _ _ _ rfl).symm
      clear N1 HM1 HL1
      generalize joinT semi L1 = J at z FIN ⊢
      go_wp2_with fail
      with_reducible refine (specDecN _ _ (by omega) (by omega)).mono ?_
      rintro e w1 ⟨rfl, b1⟩
      have K1 := QR.on K b1
      go_wp2_with fail
      go_meet
      case rel => exact ⟨by rw [FIN.out], K1⟩
    · have FIN : Hid (joinT semi (L1 ++ opt (decide (1 < ev)) (ptT ⟨#[73, 78, 84, 69, 82, 86, 65, 76]⟩ [numT ev])) = joinT semi L1) := by
        unfold Hid
        rw [show decide (1 < ev) = false from decide_eq_false hc]; exact joinO_no _ _
      go_wp2_with fail
      go_meet
      case rel => exact ⟨by rw [FIN.out], K⟩
  clear x0 x1 x2 x3 x4 x5 x6 x7 x8 K z
  obtain ⟨rfl, K⟩ := hcut
  have M : Sm (L1 ++ opt (decide (1 < ev)) (ptT ⟨#[73, 78, 84, 69, 82, 86, 65, 76]⟩ [numT ev])) 2 := (HM1.out.more (decide (1 < ev)) (ptT_size (name := ⟨#[73, 78, 84, 69, 82, 86, 65, 76]⟩) (vals := [numT ev]) (by decide) (Nat.le_trans (one_size nz) (by decide))))
  have NN : Hid ((L1 ++ opt (decide (1 < ev)) (ptT ⟨#[73, 78, 84, 69, 82, 86, 65, 76]⟩ [numT ev])) ≠ []) := optN N1.out _ _
  generalize hL2 : (L1 ++ opt (decide (1 < ev)) (ptT ⟨#[73, 78, 84, 69, 82, 86, 65, 76]⟩ [numT ev])) = L2 at M NN ⊢
  have HL2 : Hid ((L1 ++ opt (decide (1 < ev)) (ptT ⟨#[73, 78, 84, 69, 82, 86, 65, 76]⟩ [numT ev])) = L2) := hL2
  have HM2 : Hid (Sm L2 2) := M
  have N2 : Hid (L2 ≠ []) := NN
  clear hL2 M NN N1 HM1
  clear nz
  -- COUNT
  have z : (joinT semi L2).size ≤ 202 := Nat.le_trans (semi_size _ HM2.out.2) (Nat.le_trans (Nat.mul_le_mul_left _ HM2.out.1) (by decide))
  have nz : (numT ct).size ≤ 4 := numT_size (by omega) (by omega)
  obtain ⟨x0, x1, x2, x3, x4, x5, x6, x7, x8, _⟩ := id K
  go_upto_if 23 with fail
  go_cut [3] (fun o wc => o = .string (joinT semi (L2 ++ opt (decide (0 < ct)) (ptT ⟨#[67, 79, 85, 78, 84]⟩ [numT ct]))) ∧ QR w w.heap.size (.int .i64 ((g : Int) + 1)) (.int .i64 ev) (.int .i64 ct) (.int .i64 un) (.slice a0 ds.length c0) (.slice a1 da.length c1) (.slice a2 mo.length c2) (.slice a3 pl.length c3) (.int .i64 wk) a0 ds a1 da a2 mo a3 pl wc)
  case first =>
    by_cases hc : 0 < ct
    · have FIN : Hid (joinT semi (L2 ++ opt (decide (0 < ct)) (ptT ⟨#[67, 79, 85, 78, 84]⟩ [numT ct])) = joinT semi L2 ++ (⟨#[59, 67, 79, 85, 78, 84, 61]⟩ : ByteArray) ++ numT ct) := by
        unfold Hid
        rw [show decide (0 < ct) = true from decide_eq_true hc, joinO_yes L2 N2.out]; exact (part_one _ _ _ _ rfl).symm
      clear N2 HM2 HL2
      generalize joinT semi L2 = J at z FIN ⊢
      go_wp2_with fail
      with_reducible refine (specDecN _ _ (by omega) (by omega)).mono ?_
      rintro e w1 ⟨rfl, b1⟩
      have K1 := QR.on K b1
      go_wp2_with fail
      go_meet
      case rel => exact ⟨by rw [FIN.out], K1⟩
    · have FIN : Hid (joinT semi (L2 ++ opt (decide (0 < ct)) (ptT ⟨#[67, 79, 85, 78, 84]⟩ [numT ct])) = joinT semi L2) := by
        unfold Hid
        rw [show decide (0 < ct) = false from decide_eq_false hc]; exact joinO_no _ _
      go_wp2_with fail
      go_meet
      case rel => exact ⟨by rw [FIN.out], K⟩
  clear x0 x1 x2 x3 x4 x5 x6 x7 x8 K z
  obtain ⟨rfl, K⟩ := hcut
  have M : Sm (L2 ++ opt (decide (0 < ct)) (ptT ⟨#[67, 79, 85, 78, 84]⟩ [numT ct])) 3 := (HM2.out.more (decide (0 < ct)) (ptT_size (name := ⟨#[67, 79, 85, 78, 84]⟩) (vals := [numT ct]) (by decide) (Nat.le_trans (one_size nz) (by decide))))
  have NN : Hid ((L2 ++ opt (decide (0 < ct)) (ptT ⟨#[67, 79, 85, 78, 84]⟩ [numT ct])) ≠ []) := optN N2.out _ _
  generalize hL3 : (L2 ++ opt (decide (0 < ct)) (ptT ⟨#[67, 79, 85, 78, 84]⟩ [numT ct])) = L3 at M NN ⊢
  have HL3 : Hid ((L2 ++ opt (decide (0 < ct)) (ptT ⟨#[67, 79, 85, 78, 84]⟩ [numT ct])) = L3) := hL3
  have HM3 : Hid (Sm L3 3) := M
  have N3 : Hid (L3 ≠ []) := NN
  clear hL3 M NN N2 HM2
  clear nz
  -- UNTIL
  have z : (joinT semi L3).size ≤ 303 := Nat.le_trans (semi_size _ HM3.out.2) (Nat.le_trans (Nat.mul_le_mul_left _ HM3.out.1) (by decide))
  have nz : (dateT y m d).size ≤ 10 := Nat.le_of_eq (dateT_size hy hm hd)
  obtain ⟨x0, x1, x2, x3, x4, x5, x6, x7, x8, _⟩ := id K
  go_upto_if 32 with fail
  go_cut [3] (fun o wc => o = .string (joinT semi (L3 ++ opt (decide (0 < un)) (ptT ⟨#[85, 78, 84, 73, 76]⟩ [dateT y m d]))) ∧ QR w w.heap.size (.int .i64 ((g : Int) + 1)) (.int .i64 ev) (.int .i64 ct) (.int .i64 un) (.slice a0 ds.length c0) (.slice a1 da.length c1) (.slice a2 mo.length c2) (.slice a3 pl.length c3) (.int .i64 wk) a0 ds a1 da a2 mo a3 pl wc)
  case first =>
    by_cases hc : 0 < un
    · have FIN : Hid (joinT semi (L3 ++ opt (decide (0 < un)) (ptT ⟨#[85, 78, 84, 73, 76]⟩ [dateT y m d])) = joinT semi L3 ++ (⟨#[59, 85, 78, 84, 73, 76, 61]⟩ : ByteArray) ++ dateT y m d) := by
        unfold Hid
        rw [show decide (0 < un) = true from decide_eq_true hc, joinO_yes L3 N3.out]; exact (part_one _ _ _ _ rfl).symm
      clear N3 HM3 HL3
      generalize joinT semi L3 = J at z FIN ⊢
      go_wp2_with fail
      with_reducible refine (specDate_num un y m d _ HD.out HN.out).mono ?_
      rintro e w1 ⟨rfl, b1⟩
      have K1 := QR.on K b1
      go_wp2_with fail
      with_reducible refine (specDateText_yes y m d _ HD.out hy hm hd).mono ?_
      rintro e w2 ⟨rfl, b2⟩
      have K2 := QR.on K1 b2
      go_wp2_with fail
      go_meet
      case rel => exact ⟨by rw [FIN.out], K2⟩
    · have FIN : Hid (joinT semi (L3 ++ opt (decide (0 < un)) (ptT ⟨#[85, 78, 84, 73, 76]⟩ [dateT y m d])) = joinT semi L3) := by
        unfold Hid
        rw [show decide (0 < un) = false from decide_eq_false hc]; exact joinO_no _ _
      go_wp2_with fail
      go_meet
      case rel => exact ⟨by rw [FIN.out], K⟩
  clear x0 x1 x2 x3 x4 x5 x6 x7 x8 K z
  obtain ⟨rfl, K⟩ := hcut
  have M : Sm (L3 ++ opt (decide (0 < un)) (ptT ⟨#[85, 78, 84, 73, 76]⟩ [dateT y m d])) 4 := (HM3.out.more (decide (0 < un)) (ptT_size (name := ⟨#[85, 78, 84, 73, 76]⟩) (vals := [dateT y m d]) (by decide) (Nat.le_trans (one_size nz) (by decide))))
  have NN : Hid ((L3 ++ opt (decide (0 < un)) (ptT ⟨#[85, 78, 84, 73, 76]⟩ [dateT y m d])) ≠ []) := optN N3.out _ _
  generalize hL4 : (L3 ++ opt (decide (0 < un)) (ptT ⟨#[85, 78, 84, 73, 76]⟩ [dateT y m d])) = L4 at M NN ⊢
  have HL4 : Hid ((L3 ++ opt (decide (0 < un)) (ptT ⟨#[85, 78, 84, 73, 76]⟩ [dateT y m d])) = L4) := hL4
  have HM4 : Hid (Sm L4 4) := M
  have N4 : Hid (L4 ≠ []) := NN
  clear hL4 M NN N3 HM3
  clear nz
  -- BYDAY
  have z : (joinT semi L4).size ≤ 404 := Nat.le_trans (semi_size _ HM4.out.2) (Nat.le_trans (Nat.mul_le_mul_left _ HM4.out.1) (by decide))
  obtain ⟨x0, x1, x2, x3, x4, x5, x6, x7, x8, _⟩ := id K
  go_wp2_with fail
  go_loopw [4, 5] (fun o i wr => ∃ k : Nat, k ≤ ds.length ∧ i = .int .i64 k ∧ o = .string (joinT comma (bysT (ds.take k))) ∧ QR w w.heap.size (.int .i64 ((g : Int) + 1)) (.int .i64 ev) (.int .i64 ct) (.int .i64 un) (.slice a0 ds.length c0) (.slice a1 da.length c1) (.slice a2 mo.length c2) (.slice a3 pl.length c3) (.int .i64 wk) a0 ds a1 da a2 mo a3 pl wr) (fun _ i _ => ds.length - (intOf i).toNat)
  case atStart => exact ⟨0, by omega, rfl, rfl, K⟩
  case round =>
    clear x0 x1 x2 x3 x4 x5 x6 x7 x8 K
    obtain ⟨k, hk, rfl, rfl, K⟩ := hrel
    obtain ⟨x0, x1, x2, x3, x4, x5, x6, x7, x8, _⟩ := id K
    have hJ : (joinT comma (bysT (ds.take k))).size ≤ 60 := bys_take_size ds k l0 Q0.out
    by_cases hlt : k < ds.length
    · rcases QR.t K with G1 | ⟨b, off, rfl, hbs, hc⟩
      · rw [G1] at hlt; simp at hlt
      obtain ⟨i0, i1⟩ := hc k hlt
      obtain ⟨⟨g0, g1⟩, g2, g3⟩ := Q0.out k hlt
      have HT : Hid (bysT (ds.take (k + 1)) = bysT (ds.take k) ++ [byT (tAt ds k) (tSh ds k)]) := bysT_take ds k hlt
      have hlen : Hid ((bysT (ds.take k)).length = k) := bysT_len ds k hk
      obtain ⟨dd, hdd⟩ : ∃ d : Nat, tSh ds k = d := ⟨(tSh ds k).toNat, by omega⟩
      have hd7 : dd < 7 := by omega
      have wz := wkT_size dd
      have nz := numT_size (n := tAt ds k) (by omega) (by omega)
      rw [hdd] at i1 HT
      have HB : Hid (byT (tAt ds k) dd = if tAt ds k = 0 then wkT dd else numT (tAt ds k) ++ wkT dd) := rfl
      clear hc g2 g3 hdd
      generalize tAt ds k = X at i0 HT g0 g1 nz HB
      by_cases hX : X = 0
      · subst hX
        by_cases hk0 : 0 < k
        · have FIN : Hid (joinT comma (bysT (ds.take (k + 1))) = joinT comma (bysT (ds.take k)) ++ comma ++ wkT dd) := by
            unfold Hid
            rw [HT.out, HB.out, if_pos rfl]
            exact joinT_snoc _ _ _ (fun e => by have := hlen.out; rw [e] at this; simp at this; omega)
          have k0i : (0 : Int) < (k : Int) := by omega
          clear HT HB hlen
          generalize joinT comma (bysT (ds.take k)) = J at hJ FIN ⊢
          go_wp2_with fail
          with_reducible refine (specWeekT dd _ hd7).mono ?_
          rintro e w1 ⟨rfl, b1⟩
          have K1 := QR.on K b1
          go_wp2
          go_roundw
          case rel => exact ⟨k + 1, by omega, by go_num, by rw [FIN.out]; rfl, K1⟩
          case measure => simp [intOf]; omega
        · have hk00 : k = 0 := by omega
          subst hk00
          have FIN : Hid (joinT comma (bysT (ds.take (0 + 1))) = joinT comma (bysT (ds.take 0)) ++ wkT dd) := by
            unfold Hid
            rw [HT.out, HB.out, if_pos rfl]
            simp [bysT, joinT_one, joinT_nil]
          simp only [Nat.zero_mul, Nat.add_zero] at i0 i1
          clear HT HB hlen
          generalize joinT comma (bysT (ds.take 0)) = J at hJ FIN ⊢
          go_wp2_with fail
          with_reducible refine (specWeekT dd _ hd7).mono ?_
          rintro e w1 ⟨rfl, b1⟩
          have K1 := QR.on K b1
          go_wp2
          go_roundw
          case rel => exact ⟨0 + 1, by omega, by go_num, by rw [FIN.out], K1⟩
          case measure => simp [intOf]; omega
      · by_cases hk0 : 0 < k
        · have FIN : Hid (joinT comma (bysT (ds.take (k + 1))) = joinT comma (bysT (ds.take k)) ++ comma ++ numT X ++ wkT dd) := by
            unfold Hid
            rw [HT.out, HB.out, if_neg hX, ByteArray.append_assoc (b := numT X)]
            exact joinT_snoc _ _ _ (fun e => by have := hlen.out; rw [e] at this; simp at this; omega)
          have k0i : (0 : Int) < (k : Int) := by omega
          clear HT HB hlen
          generalize joinT comma (bysT (ds.take k)) = J at hJ FIN ⊢
          go_wp2_with fail
          with_reducible refine (specDecN X _ (by omega) (by omega)).mono ?_
          rintro e w1 ⟨rfl, b1⟩
          have K1 := QR.on K b1
          have hbs1 := Nat.lt_of_lt_of_le hbs b1.size
          replace i1 : w1.cell? ⟨b, off + k * 2 + 1, none⟩ = some (.int .i64 dd) := by rw [b1.cell (p := ⟨b, off + k * 2 + 1, none⟩) hbs]; exact i1
          clear x0 x1 x2 x3 x4 x5 x6 x7 x8 i0
          obtain ⟨x0, x1, x2, x3, x4, x5, x6, x7, x8, _⟩ := id K1
          go_wp2_with fail
          with_reducible refine (specWeekT dd _ hd7).mono ?_
          rintro e w2 ⟨rfl, b2⟩
          have K2 := QR.on K1 b2
          go_wp2
          go_roundw
          case rel => exact ⟨k + 1, by omega, by go_num, by rw [FIN.out]; rfl, K2⟩
          case measure => simp [intOf]; omega
        · have hk00 : k = 0 := by omega
          subst hk00
          have FIN : Hid (joinT comma (bysT (ds.take (0 + 1))) = joinT comma (bysT (ds.take 0)) ++ numT X ++ wkT dd) := by
            unfold Hid
            rw [HT.out, HB.out, if_neg hX]
            simp [bysT, joinT_one, joinT_nil]
          simp only [Nat.zero_mul, Nat.add_zero] at i0 i1
          clear HT HB hlen
          generalize joinT comma (bysT (ds.take 0)) = J at hJ FIN ⊢
          go_wp2_with fail
          with_reducible refine (specDecN X _ (by omega) (by omega)).mono ?_
          rintro e w1 ⟨rfl, b1⟩
          have K1 := QR.on K b1
          have hbs1 := Nat.lt_of_lt_of_le hbs b1.size
          replace i1 : w1.cell? ⟨b, off + 1, none⟩ = some (.int .i64 dd) := by rw [b1.cell (p := ⟨b, off + 1, none⟩) hbs]; exact i1
          clear x0 x1 x2 x3 x4 x5 x6 x7 x8 i0
          obtain ⟨x0, x1, x2, x3, x4, x5, x6, x7, x8, _⟩ := id K1
          go_wp2_with fail
          with_reducible refine (specWeekT dd _ hd7).mono ?_
          rintro e w2 ⟨rfl, b2⟩
          have K2 := QR.on K1 b2
          go_wp2
          go_roundw
          case rel => exact ⟨0 + 1, by omega, by go_num, by rw [FIN.out], K2⟩
          case measure => simp [intOf]; omega
    · have hkk : k = ds.length := by omega
      subst hkk
      rw [List.take_length] at hJ ⊢
      have h1 : Hid (0 < ds.length → 1 ≤ (joinT comma (bysT ds)).size) := fun h => joinT_pos _ (by unfold bysT; intro e; have := congrArg List.length e; simp at this; subst this; simp at h) (fun x hx => (bys_each ds Q0.out x hx).2)
      have h2 : Hid (¬ 0 < ds.length → joinT comma (bysT ds) = (⟨#[]⟩ : ByteArray)) := fun h => by
        have e : ds = [] := List.eq_nil_of_length_eq_zero (by omega)
        rw [e]; rfl
      have M5 : Sm (L4 ++ opt (decide (0 < ds.length)) (ptT ⟨#[66, 89, 68, 65, 89]⟩ (bysT ds))) 5 := HM4.out.more (decide (0 < ds.length)) (ptT_size (name := ⟨#[66, 89, 68, 65, 89]⟩) (vals := bysT ds) (by decide) hJ)
      have HF : Hid (0 < ds.length → joinT semi (L4 ++ opt (decide (0 < ds.length)) (ptT ⟨#[66, 89, 68, 65, 89]⟩ (bysT ds))) = joinT semi L4 ++ (⟨#[59, 66, 89, 68, 65, 89, 61]⟩ : ByteArray) ++ joinT comma (bysT ds)) := fun hc => by
        rw [show decide (0 < ds.length) = true from decide_eq_true hc, joinO_yes L4 N4.out]; exact (part_many _ _ _ _ rfl).symm
      have HG : Hid (¬ 0 < ds.length → joinT semi (L4 ++ opt (decide (0 < ds.length)) (ptT ⟨#[66, 89, 68, 65, 89]⟩ (bysT ds))) = joinT semi L4) := fun hc => by
        rw [show decide (0 < ds.length) = false from decide_eq_false hc]; exact joinO_no _ _
      have NN5 : Hid ((L4 ++ opt (decide (0 < ds.length)) (ptT ⟨#[66, 89, 68, 65, 89]⟩ (bysT ds))) ≠ []) := optN N4.out _ _
      generalize hL5 : (L4 ++ opt (decide (0 < ds.length)) (ptT ⟨#[66, 89, 68, 65, 89]⟩ (bysT ds))) = L5 at M5 HF HG NN5
      have HL5 : Hid ((L4 ++ opt (decide (0 < ds.length)) (ptT ⟨#[66, 89, 68, 65, 89]⟩ (bysT ds))) = L5) := hL5
      have HM5 : Hid (Sm L5 5) := M5
      clear hk hlt hL5 M5 HM4 N4
      generalize joinT comma (bysT ds) = D at hJ h1 h2 HF ⊢
      go_upto_region 17 with fail
      go_cut [77] (fun t wc => t = .bool (decide (0 < ds.length)) ∧ QR w w.heap.size (.int .i64 ((g : Int) + 1)) (.int .i64 ev) (.int .i64 ct) (.int .i64 un) (.slice a0 ds.length c0) (.slice a1 da.length c1) (.slice a2 mo.length c2) (.slice a3 pl.length c3) (.int .i64 wk) a0 ds a1 da a2 mo a3 pl wc)
      case first =>
        by_cases hc : 0 < ds.length
        · have hne := not_none (h1.out hc)
          have hd : decide (0 < ds.length) = true := decide_eq_true hc
          go_wp2_with fail
          go_meet
          case rel => exact ⟨by rw [hd], K⟩
        · have e0 := h2.out hc
          have hne : (⟨#[]⟩ : ByteArray).toList.isEmpty = true := by rw [Lib.toList_data]; rfl
          have hd : decide (0 < ds.length) = false := decide_eq_false hc
          subst e0
          go_wp2_with fail
          go_meet
          case rel => exact ⟨by rw [hd], K⟩
      clear x0 x1 x2 x3 x4 x5 x6 x7 x8 K
      obtain ⟨rfl, K⟩ := hcut
      go_upto_if 77 with fail
      go_cut [3] (fun o wc => o = .string (joinT semi L5) ∧ QR w w.heap.size (.int .i64 ((g : Int) + 1)) (.int .i64 ev) (.int .i64 ct) (.int .i64 un) (.slice a0 ds.length c0) (.slice a1 da.length c1) (.slice a2 mo.length c2) (.slice a3 pl.length c3) (.int .i64 wk) a0 ds a1 da a2 mo a3 pl wc)
      case first =>
        by_cases hc : 0 < ds.length
        · have hd : decide (0 < ds.length) = true := decide_eq_true hc
          have FIN : Hid (joinT semi L5 = _) := HF.out hc
          rw [hd]
          clear HF HG
          generalize joinT semi L4 = J at z FIN ⊢
          go_wp2_with fail
          go_meet
          case rel => exact ⟨by rw [FIN.out], K⟩
        · have hd : decide (0 < ds.length) = false := decide_eq_false hc
          have FIN : Hid (joinT semi L5 = _) := HG.out hc
          rw [hd]
          go_wp2_with fail
          go_meet
          case rel => exact ⟨by rw [FIN.out], K⟩
      clear K z HF HG h1 h2
      obtain ⟨rfl, K⟩ := hcut
      have N5 : Hid (L5 ≠ []) := NN5
      clear NN5
      have z5 : (joinT semi L5).size ≤ 505 := Nat.le_trans (semi_size _ HM5.out.2) (Nat.le_trans (Nat.mul_le_mul_left _ HM5.out.1) (by decide))
      have lz5 : (listT ⟨#[66, 89, 77, 79, 78, 84, 72, 68, 65, 89]⟩ (numsT da)).size ≤ 82 := listT_size _ _ (by decide) (nums_size da l1 Q1.out)
      have E5 : Hid (joinT semi L5 ++ listT ⟨#[66, 89, 77, 79, 78, 84, 72, 68, 65, 89]⟩ (numsT da) = joinT semi (L5 ++ opt (decide (0 < da.length)) (ptT ⟨#[66, 89, 77, 79, 78, 84, 72, 68, 65, 89]⟩ (numsT da)))) := by
        have e := part_list (joinT semi L5) ⟨#[66, 89, 77, 79, 78, 84, 72, 68, 65, 89]⟩ (numsT da) L5 N5.out rfl
        have e1 : (numsT da).length = da.length := by unfold numsT; simp
        rw [e1] at e
        exact e
      have M : Sm (L5 ++ opt (decide (0 < da.length)) (ptT ⟨#[66, 89, 77, 79, 78, 84, 72, 68, 65, 89]⟩ (numsT da))) 6 := HM5.out.more (decide (0 < da.length)) (ptT_size (name := ⟨#[66, 89, 77, 79, 78, 84, 72, 68, 65, 89]⟩) (vals := numsT da) (by decide) (nums_size da l1 Q1.out))
      have NN : Hid ((L5 ++ opt (decide (0 < da.length)) (ptT ⟨#[66, 89, 77, 79, 78, 84, 72, 68, 65, 89]⟩ (numsT da))) ≠ []) := optN N5.out _ _
      generalize hL6 : (L5 ++ opt (decide (0 < da.length)) (ptT ⟨#[66, 89, 77, 79, 78, 84, 72, 68, 65, 89]⟩ (numsT da))) = L6 at M NN E5
      have HL6 : Hid ((L5 ++ opt (decide (0 < da.length)) (ptT ⟨#[66, 89, 77, 79, 78, 84, 72, 68, 65, 89]⟩ (numsT da))) = L6) := hL6
      have HM6 : Hid (Sm L6 6) := M
      have N6 : Hid (L6 ≠ []) := NN
      clear hL6 M NN N5 HM5
      have z6 : (joinT semi L6).size ≤ 606 := Nat.le_trans (semi_size _ HM6.out.2) (Nat.le_trans (Nat.mul_le_mul_left _ HM6.out.1) (by decide))
      have lz6 : (listT ⟨#[66, 89, 77, 79, 78, 84, 72]⟩ (numsT mo)).size ≤ 82 := listT_size _ _ (by decide) (nums_size mo l2 Q2.out)
      have E6 : Hid (joinT semi L6 ++ listT ⟨#[66, 89, 77, 79, 78, 84, 72]⟩ (numsT mo) = joinT semi (L6 ++ opt (decide (0 < mo.length)) (ptT ⟨#[66, 89, 77, 79, 78, 84, 72]⟩ (numsT mo)))) := by
        have e := part_list (joinT semi L6) ⟨#[66, 89, 77, 79, 78, 84, 72]⟩ (numsT mo) L6 N6.out rfl
        have e1 : (numsT mo).length = mo.length := by unfold numsT; simp
        rw [e1] at e
        exact e
      have M : Sm (L6 ++ opt (decide (0 < mo.length)) (ptT ⟨#[66, 89, 77, 79, 78, 84, 72]⟩ (numsT mo))) 7 := HM6.out.more (decide (0 < mo.length)) (ptT_size (name := ⟨#[66, 89, 77, 79, 78, 84, 72]⟩) (vals := numsT mo) (by decide) (nums_size mo l2 Q2.out))
      have NN : Hid ((L6 ++ opt (decide (0 < mo.length)) (ptT ⟨#[66, 89, 77, 79, 78, 84, 72]⟩ (numsT mo))) ≠ []) := optN N6.out _ _
      generalize hL7 : (L6 ++ opt (decide (0 < mo.length)) (ptT ⟨#[66, 89, 77, 79, 78, 84, 72]⟩ (numsT mo))) = L7 at M NN E6
      have HL7 : Hid ((L6 ++ opt (decide (0 < mo.length)) (ptT ⟨#[66, 89, 77, 79, 78, 84, 72]⟩ (numsT mo))) = L7) := hL7
      have HM7 : Hid (Sm L7 7) := M
      have N7 : Hid (L7 ≠ []) := NN
      clear hL7 M NN N6 HM6
      have z7 : (joinT semi L7).size ≤ 707 := Nat.le_trans (semi_size _ HM7.out.2) (Nat.le_trans (Nat.mul_le_mul_left _ HM7.out.1) (by decide))
      have lz7 : (listT ⟨#[66, 89, 83, 69, 84, 80, 79, 83]⟩ (numsT pl)).size ≤ 82 := listT_size _ _ (by decide) (nums_size pl l3 Q3.out)
      have E7 : Hid (joinT semi L7 ++ listT ⟨#[66, 89, 83, 69, 84, 80, 79, 83]⟩ (numsT pl) = joinT semi (L7 ++ opt (decide (0 < pl.length)) (ptT ⟨#[66, 89, 83, 69, 84, 80, 79, 83]⟩ (numsT pl)))) := by
        have e := part_list (joinT semi L7) ⟨#[66, 89, 83, 69, 84, 80, 79, 83]⟩ (numsT pl) L7 N7.out rfl
        have e1 : (numsT pl).length = pl.length := by unfold numsT; simp
        rw [e1] at e
        exact e
      have M : Sm (L7 ++ opt (decide (0 < pl.length)) (ptT ⟨#[66, 89, 83, 69, 84, 80, 79, 83]⟩ (numsT pl))) 8 := HM7.out.more (decide (0 < pl.length)) (ptT_size (name := ⟨#[66, 89, 83, 69, 84, 80, 79, 83]⟩) (vals := numsT pl) (by decide) (nums_size pl l3 Q3.out))
      have NN : Hid ((L7 ++ opt (decide (0 < pl.length)) (ptT ⟨#[66, 89, 83, 69, 84, 80, 79, 83]⟩ (numsT pl))) ≠ []) := optN N7.out _ _
      generalize hL8 : (L7 ++ opt (decide (0 < pl.length)) (ptT ⟨#[66, 89, 83, 69, 84, 80, 79, 83]⟩ (numsT pl))) = L8 at M NN E7
      have HL8 : Hid ((L7 ++ opt (decide (0 < pl.length)) (ptT ⟨#[66, 89, 83, 69, 84, 80, 79, 83]⟩ (numsT pl))) = L8) := hL8
      have HM8 : Hid (Sm L8 8) := M
      have N8 : Hid (L8 ≠ []) := NN
      clear hL8 M NN N7 HM7
      go_upto_region 19 with fail
      go_cut [3] (fun o wc => o = .string (joinT semi L8) ∧ QR w w.heap.size (.int .i64 ((g : Int) + 1)) (.int .i64 ev) (.int .i64 ct) (.int .i64 un) (.slice a0 ds.length c0) (.slice a1 da.length c1) (.slice a2 mo.length c2) (.slice a3 pl.length c3) (.int .i64 wk) a0 ds a1 da a2 mo a3 pl wc)
      case first =>
        have FIN : Hid (joinT semi L5 ++ listT ⟨#[66, 89, 77, 79, 78, 84, 72, 68, 65, 89]⟩ (numsT da) ++ listT ⟨#[66, 89, 77, 79, 78, 84, 72]⟩ (numsT mo) ++ listT ⟨#[66, 89, 83, 69, 84, 80, 79, 83]⟩ (numsT pl) = joinT semi L8) := by
          unfold Hid
          rw [E5.out, E6.out, E7.out]
        clear E5 E6 E7 z6 z7 N8 HM8 HL1 HL2 HL3 HL4 HL5 HL6 HL7 HL8
        have C5 : ∀ W, QR w w.heap.size (.int .i64 ((g : Int) + 1)) (.int .i64 ev) (.int .i64 ct) (.int .i64 un) (.slice a0 ds.length c0) (.slice a1 da.length c1) (.slice a2 mo.length c2) (.slice a3 pl.length c3) (.int .i64 wk) a0 ds a1 da a2 mo a3 pl W → Calls Tryd.prog 34 #[.string ⟨#[66, 89, 77, 79, 78, 84, 72, 68, 65, 89]⟩, .slice a1 da.length c1] W fun e w' => e = .returned (.string (listT ⟨#[66, 89, 77, 79, 78, 84, 72, 68, 65, 89]⟩ (numsT da))) ∧ Below W.heap.size W w' := fun W hW => specList _ a1 c1 da _ (QR.i1 hW) l1 Q1.out (by decide)
        generalize listT ⟨#[66, 89, 77, 79, 78, 84, 72, 68, 65, 89]⟩ (numsT da) = A5 at C5 lz5 FIN
        have H5 : Hid (∀ W, QR w w.heap.size (.int .i64 ((g : Int) + 1)) (.int .i64 ev) (.int .i64 ct) (.int .i64 un) (.slice a0 ds.length c0) (.slice a1 da.length c1) (.slice a2 mo.length c2) (.slice a3 pl.length c3) (.int .i64 wk) a0 ds a1 da a2 mo a3 pl W → Calls Tryd.prog 34 #[.string ⟨#[66, 89, 77, 79, 78, 84, 72, 68, 65, 89]⟩, .slice a1 da.length c1] W fun e w' => e = .returned (.string A5) ∧ Below W.heap.size W w') := C5
        clear C5
        have C6 : ∀ W, QR w w.heap.size (.int .i64 ((g : Int) + 1)) (.int .i64 ev) (.int .i64 ct) (.int .i64 un) (.slice a0 ds.length c0) (.slice a1 da.length c1) (.slice a2 mo.length c2) (.slice a3 pl.length c3) (.int .i64 wk) a0 ds a1 da a2 mo a3 pl W → Calls Tryd.prog 34 #[.string ⟨#[66, 89, 77, 79, 78, 84, 72]⟩, .slice a2 mo.length c2] W fun e w' => e = .returned (.string (listT ⟨#[66, 89, 77, 79, 78, 84, 72]⟩ (numsT mo))) ∧ Below W.heap.size W w' := fun W hW => specList _ a2 c2 mo _ (QR.i2 hW) l2 Q2.out (by decide)
        generalize listT ⟨#[66, 89, 77, 79, 78, 84, 72]⟩ (numsT mo) = A6 at C6 lz6 FIN
        have H6 : Hid (∀ W, QR w w.heap.size (.int .i64 ((g : Int) + 1)) (.int .i64 ev) (.int .i64 ct) (.int .i64 un) (.slice a0 ds.length c0) (.slice a1 da.length c1) (.slice a2 mo.length c2) (.slice a3 pl.length c3) (.int .i64 wk) a0 ds a1 da a2 mo a3 pl W → Calls Tryd.prog 34 #[.string ⟨#[66, 89, 77, 79, 78, 84, 72]⟩, .slice a2 mo.length c2] W fun e w' => e = .returned (.string A6) ∧ Below W.heap.size W w') := C6
        clear C6
        have C7 : ∀ W, QR w w.heap.size (.int .i64 ((g : Int) + 1)) (.int .i64 ev) (.int .i64 ct) (.int .i64 un) (.slice a0 ds.length c0) (.slice a1 da.length c1) (.slice a2 mo.length c2) (.slice a3 pl.length c3) (.int .i64 wk) a0 ds a1 da a2 mo a3 pl W → Calls Tryd.prog 34 #[.string ⟨#[66, 89, 83, 69, 84, 80, 79, 83]⟩, .slice a3 pl.length c3] W fun e w' => e = .returned (.string (listT ⟨#[66, 89, 83, 69, 84, 80, 79, 83]⟩ (numsT pl))) ∧ Below W.heap.size W w' := fun W hW => specList _ a3 c3 pl _ (QR.i3 hW) l3 Q3.out (by decide)
        generalize listT ⟨#[66, 89, 83, 69, 84, 80, 79, 83]⟩ (numsT pl) = A7 at C7 lz7 FIN
        have H7 : Hid (∀ W, QR w w.heap.size (.int .i64 ((g : Int) + 1)) (.int .i64 ev) (.int .i64 ct) (.int .i64 un) (.slice a0 ds.length c0) (.slice a1 da.length c1) (.slice a2 mo.length c2) (.slice a3 pl.length c3) (.int .i64 wk) a0 ds a1 da a2 mo a3 pl W → Calls Tryd.prog 34 #[.string ⟨#[66, 89, 83, 69, 84, 80, 79, 83]⟩, .slice a3 pl.length c3] W fun e w' => e = .returned (.string A7) ∧ Below W.heap.size W w') := C7
        clear C7
        generalize joinT semi L5 = J at z5 FIN ⊢
        refine wp_region_cl (fun w' => QR w w.heap.size (.int .i64 ((g : Int) + 1)) (.int .i64 ev) (.int .i64 ct) (.int .i64 un) (.slice a0 ds.length c0) (.slice a1 da.length c1) (.slice a2 mo.length c2) (.slice a3 pl.length c3) (.int .i64 wk) a0 ds a1 da a2 mo a3 pl w') (by kernel_rfl) (by kernel_rfl) (QR.on K (Below.refl _ _).drew) ?_
        clear K
        repeat (first
          | go_big_quiet_skip
          | (go_big_quiet_want; go_big_quiet_op; go_big_quiet_on)
          | (go_big_quiet_want
             apply Exists.intro
             refine ⟨fun w7 hC7 => ?_, ?_⟩
             · (have hC8 := hC7
                obtain ⟨y0, y1, y2, y3, y4, y5, y6, y7, y8, _⟩ := hC7
                go_simp
                first
                | done
                | rfl
                | exact ⟨rfl, rfl⟩
                | (rw [if_neg (by (try simp only [ByteArray.size_append]); omega)]; exact ⟨rfl, rfl⟩)
                | (with_reducible refine (H5.out _ hC8).mono ?_
                   rintro e w8 ⟨rfl, hb8⟩
                   exact ⟨rfl, QR.on hC8 hb8⟩)
                | (with_reducible refine (H6.out _ hC8).mono ?_
                   rintro e w8 ⟨rfl, hb8⟩
                   exact ⟨rfl, QR.on hC8 hb8⟩)
                | (with_reducible refine (H7.out _ hC8).mono ?_
                   rintro e w8 ⟨rfl, hb8⟩
                   exact ⟨rfl, QR.on hC8 hb8⟩))
             (go_simp; go_big_quiet_on)))
        refine wpQuiet_nil ?_
        intro w7 K7
        go_wp2_with fail
        go_meet
        case rel => exact ⟨by rw [← FIN.out], K7⟩
      clear K E5 E6 E7 z5 z6 z7 lz5 lz6 lz7
      obtain ⟨rfl, K⟩ := hcut
      have z : (joinT semi L8).size ≤ 808 := Nat.le_trans (semi_size _ HM8.out.2) (Nat.le_trans (Nat.mul_le_mul_left _ HM8.out.1) (by decide))
      have nz := wkT_size wk
      obtain ⟨x0, x1, x2, x3, x4, x5, x6, x7, x8, _⟩ := id K
      go_upto_if 97 with fail
      go_cut [3] (fun o wc => o = .string (joinT semi (L8 ++ opt (decide (0 < wk)) (ptT ⟨#[87, 75, 83, 84]⟩ [wkT wk]))) ∧ QR w w.heap.size (.int .i64 ((g : Int) + 1)) (.int .i64 ev) (.int .i64 ct) (.int .i64 un) (.slice a0 ds.length c0) (.slice a1 da.length c1) (.slice a2 mo.length c2) (.slice a3 pl.length c3) (.int .i64 wk) a0 ds a1 da a2 mo a3 pl wc)
      case first =>
        by_cases hc : 0 < wk
        · have FIN : Hid (joinT semi (L8 ++ opt (decide (0 < wk)) (ptT ⟨#[87, 75, 83, 84]⟩ [wkT wk])) = joinT semi L8 ++ (⟨#[59, 87, 75, 83, 84, 61]⟩ : ByteArray) ++ wkT wk) := by
            unfold Hid
            rw [show decide (0 < wk) = true from decide_eq_true hc, joinO_yes L8 N8.out]; exact (part_one _ _ _ _ rfl).symm
          have hci : (0 : Int) < (wk : Int) := by omega
          clear N8 HM8
          generalize joinT semi L8 = J at z FIN ⊢
          go_wp2_with fail
          with_reducible refine (specWeekT wk _ (by omega)).mono ?_
          rintro e w1 ⟨rfl, b1⟩
          have K1 := QR.on K b1
          go_wp2_with fail
          go_meet
          case rel => exact ⟨by rw [FIN.out], K1⟩
        · have FIN : Hid (joinT semi (L8 ++ opt (decide (0 < wk)) (ptT ⟨#[87, 75, 83, 84]⟩ [wkT wk])) = joinT semi L8) := by
            unfold Hid
            rw [show decide (0 < wk) = false from decide_eq_false hc]; exact joinO_no _ _
          have hci : ¬ (0 : Int) < (wk : Int) := by omega
          go_wp2_with fail
          go_meet
          case rel => exact ⟨by rw [FIN.out], K⟩
      clear x0 x1 x2 x3 x4 x5 x6 x7 x8 K z
      obtain ⟨rfl, K⟩ := hcut
      have HR : ruleP g ev ct un (dateT y m d) ds da mo pl wk = (L8 ++ opt (decide (0 < wk)) (ptT ⟨#[87, 75, 83, 84]⟩ [wkT wk])) := by
        unfold ruleP
        rw [HL1.out, HL2.out, HL3.out, HL4.out, HL5.out, HL6.out, HL7.out, HL8.out]
      have HR' : Hid (ruleP g ev ct un (dateT y m d) ds da mo pl wk = (L8 ++ opt (decide (0 < wk)) (ptT ⟨#[87, 75, 83, 84]⟩ [wkT wk]))) := HR
      clear HR HL1 HL2 HL3 HL4 HL5 HL6 HL7 HL8
      go_wp2
      go_ret
      exact ⟨by rw [HR'.out]; rfl, QR.b K⟩
end Go.Proofs.YtdcohpokfdaknaaDoor
