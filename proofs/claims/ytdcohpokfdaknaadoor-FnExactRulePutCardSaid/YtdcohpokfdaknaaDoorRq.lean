/- The text of a rule: its pieces, as the specification writes them. -/
import Derived.Test.YtdcohpokfdaknaaDoorRp
import Derived.Test.YtdcohpokfdaknaaDoorOi
import Derived.Test.YtdcohpokfdaknaaDoorCls
namespace Go.Proofs.YtdcohpokfdaknaaDoor
open Go.RowKit
set_option linter.unusedVariables false
def comma : ByteArray := ⟨#[44]⟩
def semi : ByteArray := ⟨#[59]⟩
def eqS : ByteArray := ⟨#[61]⟩
/-- A day of the week in two letters. -/
def wkT (d : Nat) : ByteArray := match d with
  | 0 => ⟨#[77, 79]⟩ | 1 => ⟨#[84, 85]⟩ | 2 => ⟨#[87, 69]⟩ | 3 => ⟨#[84, 72]⟩ | 4 => ⟨#[70, 82]⟩ | 5 => ⟨#[83, 65]⟩ | _ => ⟨#[83, 85]⟩
theorem wkT_size (d : Nat) : (wkT d).size = 2 := by unfold wkT; split <;> rfl
set_option maxHeartbeats 4000000 in
theorem specWeekT (d : Nat) (w : World) (h : d < 7) : Calls Tryd.prog 33 #[.int .i64 d] w fun e w' => e = .returned (.string (wkT d)) ∧ Below w.heap.size w w' := by
  have hd : d = 0 ∨ d = 1 ∨ d = 2 ∨ d = 3 ∨ d = 4 ∨ d = 5 ∨ d = 6 := by omega
  have b0 : ∀ o : Obj, Below w.heap.size w (w.alloc o) := fun o => (Below.refl _ _).alloc (Nat.le_refl _) o
  rcases hd with rfl | rfl | rfl | rfl | rfl | rfl | rfl <;>
  · go_enter Tryd.func33, Tryd.ntmps33
    go_wp2
    go_ret
    exact ⟨rfl, b0 _⟩
/-- Numbers as texts. -/
def numsT (l : List Int) : List ByteArray := l.map numT
theorem numsT_take (l : List Int) (k : Nat) (h : k < l.length) : numsT (l.take (k + 1)) = numsT (l.take k) ++ [numT (gi l k)] := by
  unfold numsT
  rw [List.take_succ_eq_append_getElem h, List.map_append, gi_get h]
  rfl
theorem joinT_size (l : List ByteArray) (m : Nat) (h : ∀ x ∈ l, x.size ≤ m) : (joinT comma l).size ≤ (m + 1) * l.length := by
  have key : ∀ r : List ByteArray, (∀ x ∈ r, x.size ≤ m) → (joinR comma r).size ≤ (m + 1) * r.length := fun r => by
    induction r with
    | nil => intro _; simp [joinR]
    | cons x r ih =>
      intro hr
      have a := ih (fun y hy => hr y (List.mem_cons_of_mem _ hy))
      have b := hr x List.mem_cons_self
      have c : comma.size = 1 := rfl
      show (comma ++ x ++ joinR comma r).size ≤ _
      rw [ByteArray.size_append, ByteArray.size_append, List.length_cons, Nat.mul_succ]
      omega
  cases l with
  | nil => simp [joinT_nil]
  | cons x r =>
    rw [joinT_cons, ByteArray.size_append, List.length_cons, Nat.mul_succ]
    have a := key r (fun y hy => h y (List.mem_cons_of_mem _ hy))
    have b := h x List.mem_cons_self
    omega
theorem not_none {s : ByteArray} (h : 1 ≤ s.size) : s.toList.isEmpty = false := by
  rw [Lib.toList_data]
  rw [Lib.size_eq] at h
  cases e : s.data.toList with
  | nil => rw [e] at h; simp at h
  | cons x r => rfl
theorem numsT_len (l : List Int) (k : Nat) (h : k ≤ l.length) : (numsT (l.take k)).length = k := by unfold numsT; simp; omega
theorem joinT_pos (l : List ByteArray) (h : l ≠ []) (hx : ∀ x ∈ l, 1 ≤ x.size) : 1 ≤ (joinT comma l).size := by
  cases l with
  | nil => exact absurd rfl h
  | cons x r =>
    rw [joinT_cons, ByteArray.size_append]
    have := hx x List.mem_cons_self
    omega
theorem numsT_in (l : List Int) (hb : ∀ i, i < l.length → -1000 < gi l i ∧ gi l i < 1000) (k : Nat) : ∀ x ∈ numsT (l.take k), x.size ≤ 4 ∧ 1 ≤ x.size := by
  intro x hx
  unfold numsT at hx
  obtain ⟨n, hn, rfl⟩ := List.mem_map.1 hx
  obtain ⟨i, hi, rfl⟩ := gi_ex (List.mem_of_mem_take hn)
  have := hb i hi
  exact ⟨numT_size (by omega) (by omega), numT_one _⟩
/-- A named list, behind a sign; nothing of an empty one. -/
def listT (name : ByteArray) (l : List ByteArray) : ByteArray := if l = [] then ByteArray.empty else semi ++ name ++ eqS ++ joinT comma l
set_option maxRecDepth 100000 in
set_option maxHeartbeats 4000000 in
theorem specList (name : ByteArray) (a : Option Addr) (cap : Nat) (l : List Int) (w : World) (h : IsInts w a l) (hl : l.length ≤ 8) (hb : ∀ i, i < l.length → -1000 < gi l i ∧ gi l i < 1000) (hn : name.size ≤ 20) :
    Calls Tryd.prog 34 #[.string name, .slice a l.length cap] w fun e w' => e = .returned (.string (listT name (numsT l))) ∧ Below w.heap.size w w' := by
  have HI : Hid (IsInts w a l) := h
  have HB : Hid (∀ i, i < l.length → -1000 < gi l i ∧ gi l i < 1000) := hb
  clear h hb
  go_enter Tryd.func34, Tryd.ntmps34
  go_wp2
  go_loopw [5, 6] (fun o i wr => ∃ k : Nat, k ≤ l.length ∧ i = .int .i64 k ∧ o = .string (joinT comma (numsT (l.take k))) ∧ Below w.heap.size w wr) (fun _ i _ => l.length - (intOf i).toNat)
  case atStart => exact ⟨0, by omega, rfl, rfl, Below.refl _ _⟩
  case round =>
    obtain ⟨k, hk, rfl, rfl, hb⟩ := hrel
    have hJ : (joinT comma (numsT (l.take k))).size ≤ 40 := by
      have := joinT_size (numsT (l.take k)) 4 (fun x hx => (numsT_in l HB.out k x hx).1)
      have e := numsT_len l k hk
      rw [e] at this
      omega
    by_cases hlt : k < l.length
    · have G1 := HI.out
      rcases G1 with G1 | ⟨b, off, rfl, hbs, hc⟩
      · rw [G1] at hlt; simp at hlt
      have c0 : wr.cell? ⟨b, off + k, none⟩ = some (.int .i64 (gi l k)) := by rw [hb.cell (p := ⟨b, off + k, none⟩) hbs]; exact hc k hlt
      obtain ⟨g0, g1⟩ := HB.out k hlt
      have nz := numT_size (n := gi l k) (by omega) (by omega)
      have HT := numsT_take l k hlt
      clear hc
      by_cases hk0 : 0 < k
      · have FIN : Hid (joinT comma (numsT (l.take (k + 1))) = joinT comma (numsT (l.take k)) ++ comma ++ numT (gi l k)) := by
          unfold Hid
          rw [HT]
          have hlen := numsT_len l k hk
          exact joinT_snoc _ _ _ (fun e => by rw [e] at hlen; simp at hlen; omega)
        have k0i : (0 : Int) < (k : Int) := by omega
        clear HT
        generalize joinT comma (numsT (l.take k)) = J at hJ FIN ⊢
        go_wp2_with fail
        with_reducible refine (specDecN _ _ (by omega) (by omega)).mono ?_
        rintro e w1 ⟨rfl, b1⟩
        have B1 := bstep hb b1
        go_wp2
        go_roundw
        case rel => exact ⟨k + 1, by omega, by go_num, by rw [FIN.out]; rfl, B1⟩
        case measure => simp [intOf]; omega
      · have hk00 : k = 0 := by omega
        subst hk00
        have FIN : Hid (joinT comma (numsT (l.take (0 + 1))) = joinT comma (numsT (l.take 0)) ++ numT (gi l 0)) := by
          unfold Hid
          rw [HT]
          simp [numsT, joinT_one, joinT_nil]
        simp only [Nat.add_zero] at c0
        clear HT
        generalize joinT comma (numsT (l.take 0)) = J at hJ FIN ⊢
        go_wp2_with fail
        with_reducible refine (specDecN _ _ (by omega) (by omega)).mono ?_
        rintro e w1 ⟨rfl, b1⟩
        have B1 := bstep hb b1
        go_wp2
        go_roundw
        case rel => exact ⟨0 + 1, by omega, by go_num, by rw [FIN.out], B1⟩
        case measure => simp [intOf]; omega
    · have hkk : k = l.length := by omega
      subst hkk
      rw [List.take_length] at hJ ⊢
      by_cases h0 : l = []
      · subst h0
        have HE : Hid (listT name (numsT []) = ByteArray.empty) := rfl
        have e0 : joinT comma (numsT []) = (⟨#[]⟩ : ByteArray) := rfl
        have hne : (⟨#[]⟩ : ByteArray).toList.isEmpty = true := by rw [Lib.toList_data]; rfl
        rw [e0]
        clear e0 hJ
        go_wp2
        go_ret
        exact ⟨by rw [HE.out]; rfl, hb⟩
      · have h1 : 1 ≤ (joinT comma (numsT l)).size := joinT_pos _ (by unfold numsT; simpa using h0) (fun x hx => (numsT_in l HB.out l.length x (by rw [List.take_length]; exact hx)).2)
        have HE : Hid (listT name (numsT l) = semi ++ name ++ eqS ++ joinT comma (numsT l)) := if_neg (by unfold numsT; simpa using h0)
        have s1 : semi.size = 1 := rfl
        have hne := not_none h1
        generalize joinT comma (numsT l) = J at hJ h1 hne HE ⊢
        go_wp2
        go_ret
        exact ⟨by rw [HE.out]; rfl, hb⟩
end Go.Proofs.YtdcohpokfdaknaaDoor
