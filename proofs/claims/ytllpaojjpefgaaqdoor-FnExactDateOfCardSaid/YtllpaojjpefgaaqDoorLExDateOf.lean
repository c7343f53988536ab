/- FnExactDateOf: the law's own walk. -/
import Derived.Test.YtllpaojjpefgaaqDoorImC
import Derived.Test.YtllpaojjpefgaaqDoorSpD
import Derived.Test.YtllpaojjpefgaaqDoorExD
namespace Go.Proofs.YtllpaojjpefgaaqDoor
open Go.RowKit
set_option linter.unusedVariables false
set_option maxHeartbeats 1000000 in
theorem lawExDateOf (n : Int) (w : World) (h : (Lit.int .i64 n).wf = true) (ht : Tab w) :
    Calls Tryd.prog 6 #[.int .i64 n] w fun e w' => e = .returned (.bool true) ∧ Below w.heap.size w w' := by
  clear h
  by_cases hn : 0 ≤ n ∧ n ≤ 3652058
  · obtain ⟨n0, n1⟩ := hn
    go_enter Tryd.func6, Tryd.ntmps6
    go_wp2_with fail
    refine (specDateOf_yes n _ n0 n1).mono ?_
    rintro e w1 ⟨⟨y, m, d, rfl, ok, hn⟩, hb1⟩
    have hb2 : Below w.heap.size w (w1.alloc (.cells #[.int .i64 y, .int .i64 m, .int .i64 d] 27)) := hb1.alloc hb1.size _
    have hT := ht.on hb2
    have A : Hid (okD y m d = true ∧ num y m d = n) := ⟨ok, hn⟩
    clear ht ok hn hb1
    go_wp2_with fail
    refine (implDateOf_yes n _ hT n0 n1).mono ?_
    rintro e w3 ⟨⟨y', m', d', rfl, ok', hn'⟩, hb3⟩
    obtain ⟨rfl, rfl, rfl⟩ := num_inj A.out.1 ok' (A.out.2.trans hn'.symm)
    clear ok' hn' hT
    have hbw := hb2.trans (hb3.mono hb2.size)
    obtain ⟨hc, hf⟩ := bcell hb3
    have hs := hb3.size
    simp at hs
    have hs2 : w1.heap.size < w3.heap.size := by omega
    have c0 : w3.cell? ⟨w1.heap.size, 0, none⟩ = some (.int .i64 y) := by rw [hc _ _ (by simp)]; simp
    have c1 : w3.cell? ⟨w1.heap.size, 1, none⟩ = some (.int .i64 m) := by rw [hc _ _ (by simp)]; simp
    have c2 : w3.cell? ⟨w1.heap.size, 2, none⟩ = some (.int .i64 d) := by rw [hc _ _ (by simp)]; simp
    clear hc hf hb2 hb3
    go_wp2_with fail
    refine (lawEqDate y m d _).mono ?_
    rintro e w4 ⟨rfl, hb4⟩
    have hbe := (hbw.alloc hbw.size (.cells #[.int .i64 y, .int .i64 m, .int .i64 d] 27)).trans (hb4.mono (by have := hbw.size; simp; omega))
    clear hb4
    go_wp2
    go_ret
    exact ⟨rfl, hbe⟩
  · have hn' : n < 0 ∨ 3652058 < n := by omega
    have HN : Hid (n < 0 ∨ 3652058 < n) := hn'
    clear hn hn'
    go_enter Tryd.func6, Tryd.ntmps6
    go_wp2_with fail
    refine (specDateOf_no n _ HN.out).mono ?_
    rintro e w1 ⟨rfl, hb1⟩
    have hb2 : Below w.heap.size w (w1.alloc (.cells #[.int .i64 0, .int .i64 0, .int .i64 0] 27)) := hb1.alloc hb1.size _
    clear ht hb1
    go_wp2_with fail
    refine (implDateOf_no n _ HN.out).mono ?_
    rintro e w3 ⟨rfl, hb3⟩
    have hbw := hb2.trans (hb3.mono hb2.size)
    obtain ⟨hc, hf⟩ := bcell hb3
    have hs := hb3.size
    simp at hs
    have hs2 : w1.heap.size < w3.heap.size := by omega
    have c0 : w3.cell? ⟨w1.heap.size, 0, none⟩ = some (.int .i64 0) := by rw [hc _ _ (by simp)]; simp
    have c1 : w3.cell? ⟨w1.heap.size, 1, none⟩ = some (.int .i64 0) := by rw [hc _ _ (by simp)]; simp
    have c2 : w3.cell? ⟨w1.heap.size, 2, none⟩ = some (.int .i64 0) := by rw [hc _ _ (by simp)]; simp
    clear hc hf hb2 hb3
    go_wp2_with fail
    refine (lawEqDate 0 0 0 _).mono ?_
    rintro e w4 ⟨rfl, hb4⟩
    have hbe := (hbw.alloc hbw.size (.cells #[.int .i64 0, .int .i64 0, .int .i64 0] 27)).trans (hb4.mono (by have := hbw.size; simp; omega))
    clear hb4
    go_wp2
    go_ret
    exact ⟨rfl, hbe⟩
end Go.Proofs.YtllpaojjpefgaaqDoor
