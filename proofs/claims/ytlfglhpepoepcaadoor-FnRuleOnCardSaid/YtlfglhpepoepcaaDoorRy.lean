/- Rules of the program: the whole. -/
import Derived.Test.YtlfglhpepoepcaaDoorRx
namespace Go.Proofs.YtlfglhpepoepcaaDoor
open Go.RowKit
set_option linter.unusedVariables false
set_option maxRecDepth 100000 in
set_option maxHeartbeats 16000000 in
theorem implRuleOk (f ev ct un : Int) (a0 : Option Addr) (c0 : Nat) (ds : List (Int × Int)) (a1 : Option Addr) (c1 : Nat) (da : List Int) (a2 : Option Addr) (c2 : Nat) (mo : List Int) (a3 : Option Addr) (c3 : Nat) (pl : List Int) (wk : Int) (w : World) (h0 : IsTurns w a0 ds) (h1 : IsInts w a1 da) (h2 : IsInts w a2 mo) (h3 : IsInts w a3 pl) (l0 : ds.length ≤ 2000000) (l1 : da.length ≤ 2000000) (l2 : mo.length ≤ 2000000) (l3 : pl.length ≤ 2000000) : Calls Tryd.prog 54 #[.agg #[.int .i64 f, .int .i64 ev, .int .i64 ct, .int .i64 un, .slice a0 ds.length c0, .slice a1 da.length c1, .slice a2 mo.length c2, .slice a3 pl.length c3, .int .i64 wk]] w fun z w' => z = .returned (.bool (ruB f ev ct un ds da mo pl wk)) ∧ Below w.heap.size w w' := by
  have K : QR w w.heap.size (.int .i64 f) (.int .i64 ev) (.int .i64 ct) (.int .i64 un) (.slice a0 ds.length c0) (.slice a1 da.length c1) (.slice a2 mo.length c2) (.slice a3 pl.length c3) (.int .i64 wk) a0 ds a1 da a2 mo a3 pl (w.alloc (.cells #[.int .i64 f, .int .i64 ev, .int .i64 ct, .int .i64 un, .slice a0 ds.length c0, .slice a1 da.length c1, .slice a2 mo.length c2, .slice a3 pl.length c3, .int .i64 wk] 26)) := QR.new _ h0 h1 h2 h3
  clear h0 h1 h2 h3
  generalize ho : ofB f ev ct un wk = o
  generalize hd : dsB ds (numM f mo.length) = d
  have RU : Hid (ruB f ev ct un ds da mo pl wk = (o && (d && liB f ds.length da mo pl))) := by unfold Hid ruB; rw [ho, hd]
  go_enter Tryd.func54, Tryd.ntmps54
  go_wp2_with fail
  have X := K
  obtain ⟨x0, x1, x2, x3, x4, x5, x6, x7, x8, _⟩ := X
  cases o with
  | false =>
    have HB : Hid (ruB f ev ct un ds da mo pl wk = false) := RU.out.trans (by simp)
    refine (implOftenN _ _ _ _ _ _ _ _ _ _ _ _ _ _ _ _ _ _ _ ho).mono ?_
    rintro e w1 ⟨rfl, b1⟩
    replace K := QR.on K b1
    clear b1 x0 x1 x2 x3 x4 x5 x6 x7 x8
    have X := K
    obtain ⟨x0, x1, x2, x3, x4, x5, x6, x7, x8, _⟩ := X
    go_wp2
    go_ret
    exact ⟨ret_b HB.out.symm, K.b⟩
  | true =>
    refine (implOftenN _ _ _ _ _ _ _ _ _ _ _ _ _ _ _ _ _ _ _ ho).mono ?_
    rintro e w1 ⟨rfl, b1⟩
    replace K := QR.on K b1
    clear b1 x0 x1 x2 x3 x4 x5 x6 x7 x8
    have X := K
    obtain ⟨x0, x1, x2, x3, x4, x5, x6, x7, x8, _⟩ := X
    go_wp2_with fail
    cases d with
    | false =>
      have HB : Hid (ruB f ev ct un ds da mo pl wk = false) := RU.out.trans (by simp)
      refine (implDaysN _ _ _ _ _ _ _ ds _ _ _ da _ _ _ mo _ _ _ pl _ _ (QR.t K) l0 rfl rfl rfl rfl _ hd).mono ?_
      rintro e w1 ⟨rfl, b1⟩
      replace K := QR.on K b1
      clear b1 x0 x1 x2 x3 x4 x5 x6 x7 x8
      have X := K
      obtain ⟨x0, x1, x2, x3, x4, x5, x6, x7, x8, _⟩ := X
      go_wp2
      go_ret
      exact ⟨ret_b HB.out.symm, K.b⟩
    | true =>
      have HB : Hid (ruB f ev ct un ds da mo pl wk = liB f ds.length da mo pl) := RU.out.trans (by simp)
      refine (implDaysN _ _ _ _ _ _ _ ds _ _ _ da _ _ _ mo _ _ _ pl _ _ (QR.t K) l0 rfl rfl rfl rfl _ hd).mono ?_
      rintro e w1 ⟨rfl, b1⟩
      replace K := QR.on K b1
      clear b1 x0 x1 x2 x3 x4 x5 x6 x7 x8
      have X := K
      obtain ⟨x0, x1, x2, x3, x4, x5, x6, x7, x8, _⟩ := X
      go_wp2_with fail
      refine (implLists _ _ _ _ _ _ _ ds _ _ _ da _ _ _ mo _ _ _ pl _ _ (QR.t K) (QR.i1 K) (QR.i2 K) (QR.i3 K) l0 l1 l2 l3 rfl rfl rfl rfl _ _ _ rfl rfl rfl).mono ?_
      rintro e w1 ⟨rfl, b1⟩
      replace K := QR.on K b1
      clear b1 x0 x1 x2 x3 x4 x5 x6 x7 x8
      have X := K
      obtain ⟨x0, x1, x2, x3, x4, x5, x6, x7, x8, _⟩ := X
      go_wp2
      go_ret
      exact ⟨ret_b HB.out.symm, K.b⟩
end Go.Proofs.YtlfglhpepoepcaaDoor
