/- A text in another one, in plain lists; what the specification draws of texts. -/
import Derived.Test.YtecijmdkicgemaaTj
import Derived.Test.YtecijmdkicgemaaDo
namespace Go.Proofs.Ytecijmdkicgemaa
open Go.RowKit
set_option linter.unusedVariables false
theorem con_iff (s p : List UInt8) : Lib.contains s p = true ↔ ∃ a b, s = a ++ (p ++ b) := by
  unfold Lib.contains
  rw [decide_eq_true_eq]
  constructor
  · intro h
    rcases Lib.index_spec s p with ⟨e, _⟩ | ⟨i, e, hi, ho, _⟩
    · omega
    · unfold Lib.occAt at ho
      obtain ⟨t, ht⟩ := List.isPrefixOf_iff_prefix.1 ho
      exact ⟨s.take i, t, by rw [ht, List.take_append_drop]⟩
  · rintro ⟨a, b, rfl⟩
    rcases Lib.index_spec (a ++ (p ++ b)) p with ⟨e, hn⟩ | ⟨i, e, _⟩
    · exfalso
      have := hn a.length (by simp)
      have ho : Lib.occAt (a ++ (p ++ b)) p a.length = true := by
        unfold Lib.occAt
        rw [List.drop_left, List.isPrefixOf_iff_prefix]
        exact List.prefix_append _ _
      rw [this] at ho; cases ho
    · omega
theorem in_iff' (s p : ByteArray) : inB' s p = true ↔ ∃ a b, s.data.toList.map lowB = a ++ (p.data.toList.map lowB ++ b) := by
  unfold inB'; rw [lowS_list, lowS_list]; exact con_iff _ _
theorem in_none (s : ByteArray) : inB' s ⟨#[]⟩ = true := (in_iff' _ _).2 ⟨[], s.data.toList.map lowB, rfl⟩
theorem in_len {s p : ByteArray} (h : inB' s p = true) : p.size ≤ s.size := by
  obtain ⟨a, b, e⟩ := (in_iff' _ _).1 h
  have := congrArg List.length e
  simp only [List.length_append, List.length_map] at this
  have hs : s.data.toList.length = s.size := by unfold ByteArray.size; simp
  have hp : p.data.toList.length = p.size := by unfold ByteArray.size; simp
  omega
theorem ext_list (s : ByteArray) (i j : Nat) : (s.extract i j).data.toList = (s.data.toList.drop i).take (j - i) := by
  rw [ByteArray.data_extract]
  simp only [Array.toList_extract, List.extract_eq_take_drop]
theorem in_head (s : ByteArray) (k : Nat) : inB' s (s.extract 0 k) = true := by
  refine (in_iff' _ _).2 ⟨[], (s.data.toList.drop k).map lowB, ?_⟩
  rw [ext_list, List.drop_zero, Nat.sub_zero, List.nil_append, ← List.map_append, List.take_append_drop]
theorem in_tail (s : ByteArray) (k : Nat) : inB' s (s.extract k s.size) = true := by
  refine (in_iff' _ _).2 ⟨(s.data.toList.take k).map lowB, [], ?_⟩
  have hs : s.data.toList.length = s.size := by unfold ByteArray.size; simp
  rw [ext_list, List.append_nil, List.take_of_length_le (l := s.data.toList.drop k) (by rw [List.length_drop]; omega), ← List.map_append, List.take_append_drop]
theorem in_more {s p : ByteArray} (x y : ByteArray) (h : inB' s p = true) : inB' (x ++ s ++ y) p = true := by
  obtain ⟨a, b, e⟩ := (in_iff' _ _).1 h
  refine (in_iff' _ _).2 ⟨x.data.toList.map lowB ++ a, b ++ y.data.toList.map lowB, ?_⟩
  have q : (x ++ s ++ y).data.toList = x.data.toList ++ s.data.toList ++ y.data.toList := by simp [ByteArray.data_append]
  rw [q, List.map_append, List.map_append, e]
  simp
set_option maxRecDepth 100000 in
set_option maxHeartbeats 4000000 in
theorem drawTextIn (w : World) (a : Option Addr) (len cap : Nat) (h : IsCode w a len cap) :
    Calls Try.prog 13 #[.slice a len cap] w fun e w' => (∃ s p : ByteArray, e = .returned (.tuple #[.string s, .string p]) ∧ s.size ≤ 100 ∧ p.size ≤ 100) ∧ Below w.heap.size w w' := by
  go_enter Try.func13, Try.ntmps13
  go_wp2_with fail
  refine (open_any w a len cap h).mono ?_
  rintro e w1 ⟨rfl, hr1, hb1⟩
  go_wp2_with fail
  refine (of_list _ _ 0 hr1 (by omega) 4 [⟨#[]⟩, ⟨#[84, 101, 97, 32, 116, 105, 109, 101]⟩, ⟨#[119, 97, 108, 107]⟩, ⟨#[97, 97, 98]⟩] rfl (by omega) (by omega) _ rfl).mono ?_
  rintro e w3 ⟨⟨r, rfl, hr⟩, hr3, hb3⟩
  have hb := hb1.trans ((hb3.mono hb1.size).below (Nat.le_refl _))
  have hr' : r.size ≤ 100 := by
    simp only [List.mem_cons, List.not_mem_nil, or_false] at hr
    rcases hr with rfl | rfl | rfl | rfl <;> decide
  clear hb1 hb3 hr1 h hr
  go_wp2_with fail
  refine (of_list _ _ _ hr3 (by omega) 6 [⟨#[]⟩, ⟨#[116, 101, 97]⟩, ⟨#[84, 69, 65]⟩, ⟨#[116, 105, 109, 101]⟩, ⟨#[97, 98]⟩, ⟨#[108, 111, 110, 103, 101, 114, 32, 116, 104, 97, 110, 32, 97, 108, 108]⟩] rfl (by omega) (by omega) _ rfl).mono ?_
  rintro e w4 ⟨⟨q, rfl, hq⟩, hr4, hb4⟩
  have hb' := hb.trans ((hb4.mono hb.size).below (Nat.le_refl _))
  have hq' : q.size ≤ 100 := by
    simp only [List.mem_cons, List.not_mem_nil, or_false] at hq
    rcases hq with rfl | rfl | rfl | rfl | rfl | rfl <;> decide
  clear hb hb4 hr3 hr4 hq
  go_wp2
  exact bodyPost_ret (v := .tuple #[.string r, .string q]) (by simp [results, Try.results13, go_sem]) rfl ⟨⟨_, _, rfl, hr', hq'⟩, hb'⟩
end Go.Proofs.Ytecijmdkicgemaa
