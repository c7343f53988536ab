/- A text read back from behind strokes: both sides read it alike. -/
import Derived.Test.YtlanjdighccbpaaXb
namespace Go.Proofs.Ytlanjdighccbpaa
open Go.RowKit
set_option linter.unusedVariables false
def str1 (d : UInt8) : UInt8 := if d = 110 then 10 else d
/-- What stands behind strokes; a stroke at the end stands for itself. -/
def readL : List UInt8 → List UInt8
  | [] => []
  | [c] => [c]
  | c :: d :: l => if c = 92 then str1 d :: readL l else c :: readL (d :: l)
/-- A stroke stands at the end, behind which nothing is. -/
def loneL : List UInt8 → Bool
  | [] => false
  | [c] => decide (c = 92)
  | c :: d :: l => if c = 92 then loneL l else loneL (d :: l)
theorem readL_len : ∀ l : List UInt8, (readL l).length ≤ l.length
  | [] => by simp [readL]
  | [c] => by simp [readL]
  | c :: d :: l => by
    unfold readL
    split
    · have := readL_len l; simp; omega
    · have := readL_len (d :: l); simp at *; omega
theorem esc1_two (c : UInt8) : (esc1 c).length = 2 → ∃ d, esc1 c = [92, d] := by
  unfold esc1
  split
  · intro; exact ⟨c, rfl⟩
  · split
    · intro; exact ⟨110, rfl⟩
    · intro h; simp at h
theorem esc1_one (c : UInt8) : (esc1 c).length ≠ 2 → esc1 c = [c] ∧ c ≠ 92 := by
  unfold esc1
  split
  · intro h; simp at h
  · rename_i h0
    split
    · intro h; simp at h
    · intro _; exact ⟨rfl, fun e => h0 (.inl e)⟩
theorem lone_not : ∀ l : List UInt8, escL (readL l) = l → loneL l = false
  | [], _ => rfl
  | [c], h => by
    unfold loneL
    by_cases e : c = 92
    · subst e; exact absurd h (by decide)
    · simp [e]
  | c :: d :: l, h => by
    unfold loneL
    by_cases e : c = 92
    · rw [if_pos e]
      refine lone_not l ?_
      unfold readL at h
      rw [if_pos e] at h
      have h2 : esc1 (str1 d) ++ escL (readL l) = c :: d :: l := h
      by_cases h3 : (esc1 (str1 d)).length = 2
      · obtain ⟨x, hx⟩ := esc1_two _ h3
        rw [hx] at h2
        simp at h2
        exact h2.2.2
      · obtain ⟨h4, h5⟩ := esc1_one _ h3
        rw [h4] at h2
        simp at h2
        exact absurd (h2.1.trans e) h5
    · rw [if_neg e]
      refine lone_not (d :: l) ?_
      unfold readL at h
      rw [if_neg e] at h
      have h2 : esc1 c ++ escL (readL (d :: l)) = c :: d :: l := h
      by_cases h3 : (esc1 c).length = 2
      · obtain ⟨x, hx⟩ := esc1_two _ h3
        rw [hx] at h2
        simp at h2
        exact absurd h2.1.symm e
      · obtain ⟨h4, h5⟩ := esc1_one _ h3
        rw [h4] at h2
        simp at h2
        exact h2
/-- EscGet of a text. -/
def getOk (s : ByteArray) : Bool := decide (s.size ≤ 600) && decide (escB (oB (readL (bL s))) = s)
def getT (s : ByteArray) : ByteArray := if getOk s = true then oB (readL (bL s)) else ⟨#[]⟩
theorem get_yes {s : ByteArray} (h0 : s.size ≤ 600) (h : escB (oB (readL (bL s))) = s) : getOk s = true ∧ getT s = oB (readL (bL s)) := by
  have : getOk s = true := by unfold getOk; simp [h0, h]
  exact ⟨this, if_pos this⟩
theorem get_no {s : ByteArray} (h : ¬ (s.size ≤ 600 ∧ escB (oB (readL (bL s))) = s)) : getOk s = false ∧ getT s = ⟨#[]⟩ := by
  have : getOk s = false := by
    unfold getOk
    rw [Bool.and_eq_false_iff, decide_eq_false_iff_not, decide_eq_false_iff_not]
    by_cases h1 : s.size ≤ 600
    · exact .inr fun h2 => h ⟨h1, h2⟩
    · exact .inl h1
  exact ⟨this, if_neg (by rw [this]; simp)⟩
theorem oB_inj {a b : List UInt8} (h : oB a = oB b) : a = b := by rw [← bL_oB a, ← bL_oB b, h]
theorem get_lone {s : ByteArray} (h : loneL (bL s) = true) : ¬ (s.size ≤ 600 ∧ escB (oB (readL (bL s))) = s) := by
  rintro ⟨_, h2⟩
  have : escL (readL (bL s)) = bL s := by
    unfold escB at h2
    rw [bL_oB, oB_size] at h2
    split at h2
    · exact oB_inj (h2.trans (oB_bL s).symm)
    · rw [← h2] at h; exact absurd h (by decide)
  rw [lone_not _ this] at h
  cases h
theorem get_long {s : ByteArray} (h : 300 < (readL (bL s)).length) : ¬ (s.size ≤ 600 ∧ escB (oB (readL (bL s))) = s) := by
  rintro ⟨_, h2⟩
  unfold escB at h2
  rw [oB_size, if_neg (by omega)] at h2
  have := readL_len (bL s)
  rw [← h2] at h this
  exact absurd h (by decide)
theorem drop_one {s : ByteArray} {k : Nat} (h : k < s.size) : (bL s).drop k = s[k] :: (bL s).drop (k + 1) := by
  have h2 : k < (bL s).length := by rw [bL_len]; exact h
  rw [List.drop_eq_getElem_cons h2]; rfl
theorem drop_end {s : ByteArray} {k : Nat} (h : s.size ≤ k) : (bL s).drop k = [] := List.drop_of_length_le (by rw [bL_len]; exact h)
theorem readL_plain {c : UInt8} (h : c ≠ 92) (l : List UInt8) : readL (c :: l) = c :: readL l ∧ loneL (c :: l) = loneL l := by
  cases l with
  | nil => simp [readL, loneL, h]
  | cons d l => constructor <;> simp [readL, loneL, h]
theorem text_ne {a b : ByteArray} (h : a ≠ b) : (a.toList == b.toList) = false := by
  rw [beq_eq_false_iff_ne]
  intro e
  refine h (ByteArray.ext (Array.ext' ?_))
  rw [Lib.toList_data, Lib.toList_data] at e
  exact e
theorem implStroke (c : UInt8) (w : World) : Calls Try.prog 21 #[.int .u8 c.toNat] w fun e w' => e = .returned (.int .u8 (str1 c).toNat) ∧ w' = w := by
  have e1 : ((c.toNat : Int) == 110) = decide (c = 110) := byte_eq c 110
  by_cases h : c = 110
  · subst h
    go_enter Try.func21, Try.ntmps21
    go_wp2
    go_ret
    exact ⟨rfl, rfl⟩
  · have d1 : ((c.toNat : Int) == 110) = false := by rw [e1]; simp [h]
    have HS : Hid (str1 c = c) := if_neg h
    clear e1
    go_enter Try.func21, Try.ntmps21
    go_wp2
    go_ret
    exact ⟨by rw [HS.out]; rfl, rfl⟩
set_option maxRecDepth 100000 in
set_option maxHeartbeats 8000000 in
theorem implEscGet (s : ByteArray) (w : World) :
    Calls Try.prog 8 #[.string s] w fun e w' => e = .returned (.tuple #[.string (getT s), .bool (getOk s)]) ∧ Below w.heap.size w w' := by
  by_cases hl : s.size ≤ 600
  · have HB : Hid (BI 38 [] w.heap.size w.heap.size (Lib.byteCells []) (w.alloc (.cells #[.pointer none, .slice none 0 0] 38)) ∧ Below w.heap.size w (w.alloc (.cells #[.pointer none, .slice none 0 0] 38))) := ⟨BI.fresh _ [] w _ rfl, (Below.refl _ _).alloc (Nat.le_refl _) _⟩
    go_enter Try.func8, Try.ntmps8
    go_wp2
    go_loopw [5, 6] (fun i _ wr => ∃ (k : Nat) (R : List UInt8), k ≤ s.size ∧ i = .int .i64 k ∧ R ++ readL ((bL s).drop k) = readL (bL s) ∧ R.length ≤ k ∧ BI 38 [] w.heap.size w.heap.size (Lib.byteCells R) wr ∧ Below w.heap.size w wr) (fun i _ _ => s.size - (intOf i).toNat)
    case atStart => exact ⟨0, [], by omega, rfl, by simp, by simp, HB.out.1, HB.out.2⟩
    case round =>
      clear HB
      obtain ⟨k, R, hk, rfl, HR, hRl, HI, hb⟩ := hrel
      have HR' : Hid (R ++ readL ((bL s).drop k) = readL (bL s)) := HR
      have HI' : Hid (BI 38 [] w.heap.size w.heap.size (Lib.byteCells R) wr) := HI
      have hws := hb.size
      clear HR HI
      have step : Hid (∀ (x : UInt8), Calls Try.prog 18 #[.pointer (some ⟨w.heap.size, 0, none⟩), .int .u8 x.toNat] wr fun e W' => e = .returned .nilIface ∧ (BW 38 [] w.heap.size w.heap.size (.pointer (some ⟨w.heap.size, 0, none⟩)) (Lib.byteCells (R ++ [x])) W' ∧ Below w.heap.size wr W')) := fun x => by
        have := writeByteB hasBuilder w.heap.size w.heap.size (Lib.byteCells R) (x.toNat : Int) wr HI'.out (by rw [Lib.byteCells_length]; omega) hws
        rw [bc_snoc] at this; exact this
      by_cases hlt : k < s.size
      · have hk1 : (k : Int) < (s.size : Int) := by omega
        have HD : Hid ((bL s).drop k = s[k] :: (bL s).drop (k + 1)) := drop_one hlt
        obtain ⟨c, hc⟩ : ∃ c, s[k] = c := ⟨_, rfl⟩
        rw [hc] at HD
        have e92 : ((c.toNat : Int) == 92) = decide (c = 92) := byte_eq c 92
        by_cases h92 : c = 92
        · have d92 : ((c.toNat : Int) == 92) = true := by rw [e92]; simp [h92]
          clear e92
          by_cases h2 : k + 1 < s.size
          · have hk2 : (k : Int) + 1 < (s.size : Int) := by omega
            have hk3 : (0 : Int) ≤ (k : Int) + 1 := by omega
            have hk4 : ((k : Int) + 1).toNat = k + 1 := by omega
            obtain ⟨d, hd⟩ : ∃ d, s[k + 1] = d := ⟨_, rfl⟩
            have HD2 : Hid ((bL s).drop (k + 1) = d :: (bL s).drop (k + 2)) := by have := drop_one h2; rw [hd] at this; exact this
            have HF : Hid (R ++ [str1 d] ++ readL ((bL s).drop (k + 2)) = readL (bL s)) := by
              unfold Hid
              rw [← HR'.out, HD.out, HD2.out]
              simp [readL, h92]
            clear h92
            go_wp2_with (first
              | (go_at_call 21; first | rw [hd] | skip; refine (implStroke d wr).mono ?_; rintro e w1 ⟨rfl, rfl⟩)
              | fail)
            refine (step.out (str1 d)).mono ?_
            rintro e w2 ⟨rfl, K2, b2⟩
            have hb2 := hb.trans b2
            clear step HI' b2
            go_wp2
            go_roundw
            case rel => exact ⟨k + 2, _, by omega, by go_num, HF.out, by simp; omega, .inr K2, hb2⟩
            case measure => simp [intOf]; omega
          · have hk2 : ¬ ((k : Int) + 1 < (s.size : Int)) := by omega
            have HF : Hid (R ++ [c] ++ readL ((bL s).drop (k + 1)) = readL (bL s)) := by
              unfold Hid
              rw [← HR'.out, HD.out, drop_end (show s.size ≤ k + 1 by omega)]
              simp [readL]
            clear h92
            go_wp2_with fail
            first | rw [hc] | skip
            refine (step.out c).mono ?_
            rintro e w2 ⟨rfl, K2, b2⟩
            have hb2 := hb.trans b2
            clear step HI' b2
            go_wp2
            go_roundw
            case rel => exact ⟨k + 1, _, by omega, by go_num, HF.out, by simp; omega, .inr K2, hb2⟩
            case measure => simp [intOf]; omega
        · have d92 : ((c.toNat : Int) == 92) = false := by rw [e92]; simp [h92]
          have HF : Hid (R ++ [c] ++ readL ((bL s).drop (k + 1)) = readL (bL s)) := by
            unfold Hid
            rw [← HR'.out, HD.out, (readL_plain h92 _).1]
            simp
          clear h92 e92
          go_wp2_with fail
          first | rw [hc] | skip
          refine (step.out c).mono ?_
          rintro e w2 ⟨rfl, K2, b2⟩
          have hb2 := hb.trans b2
          clear step HI' b2
          go_wp2
          go_roundw
          case rel => exact ⟨k + 1, _, by omega, by go_num, HF.out, by simp; omega, .inr K2, hb2⟩
          case measure => simp [intOf]; omega
      · have hkk : k = s.size := by omega
        have hR2 : R = readL (bL s) := by
          have := HR'.out
          rw [drop_end (show s.size ≤ k by omega)] at this
          simpa [readL] using this
        subst hkk
        clear step HR'
        have HST : Hid (Calls Try.prog 20 #[.pointer (some ⟨w.heap.size, 0, none⟩)] wr fun e w' => e = .returned (.string (oB R)) ∧ Below w.heap.size wr w') := stringB _ _ _ wr HI'.out hws
        by_cases he : escB (oB R) = s
        · have HG := get_yes hl (by rw [← hR2]; exact he)
          have HG' : Hid (getOk s = true ∧ getT s = oB R) := by rw [hR2]; exact HG
          have HE : Hid (escB (oB R) = s) := he
          clear HG hR2 he HI'
          go_wp2_with fail
          refine HST.out.mono ?_
          rintro e w1 ⟨rfl, b1⟩
          have hb1 := hb.trans b1
          go_wp2_with fail
          refine (implEscPut (oB R) w1).mono ?_
          rintro e w2 ⟨rfl, b2⟩
          rw [HE.out]
          have hb2 := hb1.trans (b2.mono hb1.size)
          clear HST b1 b2
          go_wp2
          go_ret2
          exact ⟨by rw [HG'.out.1, HG'.out.2]; rfl, hb2⟩
        · have HG := get_no (s := s) (fun h => he (by rw [hR2]; exact h.2))
          have HG' : Hid (getOk s = false ∧ getT s = ⟨#[]⟩) := HG
          have he' : ((escB (oB R)).toList == s.toList) = false := text_ne he
          clear HG hR2 he HI'
          go_wp2_with fail
          refine HST.out.mono ?_
          rintro e w1 ⟨rfl, b1⟩
          have hb1 := hb.trans b1
          go_wp2_with fail
          refine (implEscPut (oB R) w1).mono ?_
          rintro e w2 ⟨rfl, b2⟩
          have hb2 := hb1.trans (b2.mono hb1.size)
          clear HST b1 b2
          go_wp2
          go_ret2
          exact ⟨by rw [HG'.out.1, HG'.out.2]; rfl, hb2⟩
  · have HG : Hid (getOk s = false ∧ getT s = ⟨#[]⟩) := get_no (fun h => hl h.1)
    go_enter Try.func8, Try.ntmps8
    go_wp2
    go_ret2
    exact ⟨by rw [HG.out.1, HG.out.2]; rfl, Below.refl _ _⟩
theorem loneL_two (d : UInt8) (l : List UInt8) : loneL (92 :: d :: l) = loneL l := by simp [loneL]
theorem readL_two (d : UInt8) (l : List UInt8) : readL (92 :: d :: l) = str1 d :: readL l := by simp [readL]
set_option maxRecDepth 100000 in
set_option maxHeartbeats 8000000 in
theorem specEscGet (s : ByteArray) (w : World) (hs : s.size ≤ 1048576) :
    Calls Try.prog 10 #[.string s] w fun e w' => e = .returned (.tuple #[.string (getT s), .bool (getOk s)]) ∧ w' = w := by
  go_enter Try.func10, Try.ntmps10
  go_wp2
  go_loop [4, 5] (fun o i => ∃ (k : Nat) (R : List UInt8), k ≤ s.size ∧ i = .int .i64 k ∧ o = .string (oB R) ∧ R ++ readL ((bL s).drop k) = readL (bL s) ∧ loneL ((bL s).drop k) = loneL (bL s) ∧ R.length ≤ k) (fun _ i => s.size - (intOf i).toNat)
  case atStart => exact ⟨0, [], by omega, rfl, rfl, by simp, by simp, by simp⟩
  case round =>
    obtain ⟨k, R, hk, rfl, rfl, HR, HL, hRl⟩ := hrel
    have HR' : Hid (R ++ readL ((bL s).drop k) = readL (bL s)) := HR
    have HL' : Hid (loneL ((bL s).drop k) = loneL (bL s)) := HL
    clear HR HL
    obtain ⟨o, ho⟩ : ∃ o, o = oB R := ⟨_, rfl⟩
    have hos : o.size ≤ 1048576 := by rw [ho, oB_size]; omega
    have HO : Hid (o = oB R) := ho
    rw [← ho]
    clear ho
    have g0 : (0 : Int) ≤ (k : Int) := by omega
    have g1 : (k : Int) ≤ (k : Int) + 1 := by omega
    have g3 : ((k : Int) + 1).toNat = k + 1 := by omega
    by_cases hlt : k < s.size
    · have hk1 : (k : Int) < (s.size : Int) := by omega
      have g2 : (k : Int) + 1 ≤ (s.size : Int) := by omega
      have hx : s.extract k (k + 1) = oB [s[k]] := extract_one hlt
      have hxs : (oB [s[k]]).size = 1 := oB_size _
      have HD : Hid ((bL s).drop k = s[k] :: (bL s).drop (k + 1)) := drop_one hlt
      obtain ⟨c, hc⟩ : ∃ c, s[k] = c := ⟨_, rfl⟩
      rw [hc] at HD hx hxs
      have e92 : ((c.toNat : Int) == 92) = decide (c = 92) := byte_eq c 92
      by_cases h92 : c = 92
      · subst h92
        clear e92 hx hxs
        by_cases h2 : k + 1 < s.size
        · have hk2 : (k : Int) + 1 < (s.size : Int) := by omega
          have hk3 : (0 : Int) ≤ (k : Int) + 1 := by omega
          have g4 : (k : Int) + 1 ≤ (k : Int) + 1 + 1 := by omega
          have g5 : (k : Int) + 1 + 1 ≤ (s.size : Int) := by omega
          have g6 : ((k : Int) + 1 + 1).toNat = k + 1 + 1 := by omega
          have hy : s.extract (k + 1) (k + 1 + 1) = oB [s[k + 1]] := extract_one h2
          have hys : (oB [s[k + 1]]).size = 1 := oB_size _
          obtain ⟨d, hd⟩ : ∃ d, s[k + 1] = d := ⟨_, rfl⟩
          have HD2 : Hid ((bL s).drop (k + 1) = d :: (bL s).drop (k + 2)) := by have := drop_one h2; rw [hd] at this; exact this
          rw [hd] at hy hys
          have HF : Hid (R ++ [str1 d] ++ readL ((bL s).drop (k + 2)) = readL (bL s)) := by
            unfold Hid
            rw [← HR'.out, HD.out, HD2.out, readL_two]
            simp
          have HLF : Hid (loneL ((bL s).drop (k + 2)) = loneL (bL s)) := by
            unfold Hid
            rw [← HL'.out, HD.out, HD2.out, loneL_two]
          have HOF : Hid (o ++ oB [str1 d] = oB (R ++ [str1 d])) := by unfold Hid; rw [HO.out, oB_append]
          have e110 : ((d.toNat : Int) == 110) = decide (d = 110) := byte_eq d 110
          by_cases h110 : d = 110
          · have HS : Hid (oB [str1 d] = oB [10]) := by unfold Hid; rw [h110]; rfl
            have d110 : ((d.toNat : Int) == 110) = true := by rw [e110]; simp [h110]
            clear e110 h110
            go_wp2
            go_round
            case rel => exact ⟨k + 2, R ++ [str1 d], by omega, by go_num, by rw [← HOF.out, HS.out]; rfl, HF.out, HLF.out, by simp; omega⟩
            case measure => simp [intOf]; omega
          · have HS : Hid (oB [str1 d] = oB [d]) := by unfold Hid str1; rw [if_neg h110]
            have d110 : ((d.toNat : Int) == 110) = false := by rw [e110]; simp [h110]
            clear e110 h110
            go_wp2
            go_round
            case rel => exact ⟨k + 2, R ++ [str1 d], by omega, by go_num, by rw [← HOF.out, HS.out], HF.out, HLF.out, by simp; omega⟩
            case measure => simp [intOf]; omega
        · have hk2 : (s.size : Int) ≤ (k : Int) + 1 := by omega
          have HG : Hid (getOk s = false ∧ getT s = ⟨#[]⟩) := get_no (get_lone (by rw [← HL'.out, HD.out, drop_end (show s.size ≤ k + 1 by omega)]; rfl))
          go_wp2
          go_ret2
          exact ⟨by rw [HG.out.1, HG.out.2]; rfl, rfl⟩
      · have d92 : ((c.toNat : Int) == 92) = false := by rw [e92]; simp [h92]
        have HF : Hid (R ++ [c] ++ readL ((bL s).drop (k + 1)) = readL (bL s)) := by
          unfold Hid
          rw [← HR'.out, HD.out, (readL_plain h92 _).1]
          simp
        have HLF : Hid (loneL ((bL s).drop (k + 1)) = loneL (bL s)) := by
          unfold Hid
          rw [← HL'.out, HD.out, (readL_plain h92 _).2]
        have HOF : Hid (o ++ oB [c] = oB (R ++ [c])) := by unfold Hid; rw [HO.out, oB_append]
        clear h92 e92
        go_wp2
        go_round
        case rel => exact ⟨k + 1, R ++ [c], by omega, by go_num, by rw [← HOF.out], HF.out, HLF.out, by simp; omega⟩
        case measure => simp [intOf]; omega
    · have hkk : k = s.size := by omega
      have hR2 : R = readL (bL s) := by
        have := HR'.out
        rw [drop_end (show s.size ≤ k by omega)] at this
        simpa [readL] using this
      have HR2 : Hid (R = readL (bL s)) := hR2
      subst hkk
      clear HR' HL' hR2 g0 g1 g3
      by_cases h600 : s.size ≤ 600
      · by_cases h300 : o.size ≤ 300
        · have hn6 : ¬ (600 : Int) < (s.size : Int) := by omega
          have hn3 : ¬ (300 : Int) < (o.size : Int) := by omega
          by_cases he : escB o = s
          · have HG' : Hid (getOk s = true ∧ getT s = o) := by
              have := get_yes h600 (by rw [← HR2.out, ← HO.out]; exact he)
              rw [← HR2.out, ← HO.out] at this; exact this
            have HE : Hid (escB o = s) := he
            clear he
            go_wp2_with fail
            refine (specEscPut o w hos).mono ?_
            rintro e w1 ⟨rfl, rfl⟩
            rw [HE.out]
            go_wp2
            go_ret2
            exact ⟨by rw [HG'.out.1, HG'.out.2]; rfl, rfl⟩
          · have HG : Hid (getOk s = false ∧ getT s = ⟨#[]⟩) := get_no (fun h => he (by rw [HO.out, HR2.out]; exact h.2))
            have he' : ((escB o).toList == s.toList) = false := text_ne he
            clear he
            go_wp2_with fail
            refine (specEscPut o w hos).mono ?_
            rintro e w1 ⟨rfl, rfl⟩
            go_wp2
            go_ret2
            exact ⟨by rw [HG.out.1, HG.out.2]; rfl, rfl⟩
        · have hn6 : ¬ (600 : Int) < (s.size : Int) := by omega
          have hn3 : (300 : Int) < (o.size : Int) := by omega
          have HG : Hid (getOk s = false ∧ getT s = ⟨#[]⟩) := get_no (get_long (by rw [← HR2.out, ← oB_size, ← HO.out]; omega))
          go_wp2
          go_ret2
          exact ⟨by rw [HG.out.1, HG.out.2]; rfl, rfl⟩
      · have hn6 : (600 : Int) < (s.size : Int) := by omega
        have HG : Hid (getOk s = false ∧ getT s = ⟨#[]⟩) := get_no (fun h => h600 h.1)
        go_wp2
        go_ret2
        exact ⟨by rw [HG.out.1, HG.out.2]; rfl, rfl⟩
end Go.Proofs.Ytlanjdighccbpaa
