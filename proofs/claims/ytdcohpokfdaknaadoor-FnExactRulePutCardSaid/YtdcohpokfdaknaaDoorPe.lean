/- The text of a rule: how one more part is joined. -/
import Derived.Test.YtdcohpokfdaknaaDoorPd
import Derived.Test.YtdcohpokfdaknaaDoorRt
namespace Go.Proofs.YtdcohpokfdaknaaDoor
open Go.RowKit
set_option linter.unusedVariables false
theorem joinO_yes (L : List ByteArray) (h : L ≠ []) (x : ByteArray) : joinT semi (L ++ opt true x) = joinT semi L ++ semi ++ x := joinT_snoc semi x L h
theorem joinO_no (L : List ByteArray) (x : ByteArray) : joinT semi (L ++ opt false x) = joinT semi L := by unfold opt; rw [if_neg Bool.false_ne_true, List.append_nil]
theorem optN {L : List ByteArray} (h : L ≠ []) (c : Bool) (x : ByteArray) : L ++ opt c x ≠ [] := by simp [h]
/-- One more part, with one value. -/
theorem part_one (J P name x : ByteArray) (hP : P = semi ++ name ++ eqS) : J ++ P ++ x = J ++ semi ++ ptT name [x] := by
  unfold ptT
  rw [joinT_one, hP]
  simp only [ByteArray.append_assoc]
theorem part_many (J P name : ByteArray) (l : List ByteArray) (hP : P = semi ++ name ++ eqS) : J ++ P ++ joinT comma l = J ++ semi ++ ptT name l := by
  unfold ptT
  rw [hP]
  simp only [ByteArray.append_assoc]
theorem part_list (J name : ByteArray) (l : List ByteArray) (L : List ByteArray) (hL : L ≠ []) (hJ : joinT semi L = J) : J ++ listT name l = joinT semi (L ++ opt (decide (0 < l.length)) (ptT name l)) := by
  unfold listT
  cases l with
  | nil => rw [if_pos rfl]; rw [show decide (0 < ([] : List ByteArray).length) = false from rfl, joinO_no, hJ]; exact ByteArray.append_empty
  | cons a l =>
    rw [if_neg (by simp), show decide (0 < (a :: l).length) = true by simp, joinO_yes L hL, hJ]
    unfold ptT
    simp only [ByteArray.append_assoc]
end Go.Proofs.YtdcohpokfdaknaaDoor
