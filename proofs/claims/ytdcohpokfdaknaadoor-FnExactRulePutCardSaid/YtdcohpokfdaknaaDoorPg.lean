/- The text of a rule: both sides answer the same. -/
import Derived.Test.YtdcohpokfdaknaaDoorPf
import Derived.Test.YtdcohpokfdaknaaDoorRy
namespace Go.Proofs.YtdcohpokfdaknaaDoor
open Go.RowKit
set_option linter.unusedVariables false
set_option maxRecDepth 100000 in
set_option maxHeartbeats 16000000 in
theorem specRulePut_no (f ev ct un : Int) (a0 : Option Addr) (c0 : Nat) (ds : List (Int × Int)) (a1 : Option Addr) (c1 : Nat) (da : List Int) (a2 : Option Addr) (c2 : Nat) (mo : List Int) (a3 : Option Addr) (c3 : Nat) (pl : List Int) (wk : Int) (w : World) (h0 : IsTurns w a0 ds) (h1 : IsInts w a1 da) (h2 : IsInts w a2 mo) (h3 : IsInts w a3 pl) (l0 : ds.length ≤ 2000000) (l1 : da.length ≤ 2000000) (l2 : mo.length ≤ 2000000) (l3 : pl.length ≤ 2000000)
    (ok : ruB f ev ct un ds da mo pl wk = false) :
    Calls Tryd.prog 5 #[.agg #[.int .i64 f, .int .i64 ev, .int .i64 ct, .int .i64 un, .slice a0 ds.length c0, .slice a1 da.length c1, .slice a2 mo.length c2, .slice a3 pl.length c3, .int .i64 wk]] w fun z w' => z = .returned (.string ByteArray.empty) ∧ Below w.heap.size w w' := by
  have HO : Hid (ruB f ev ct un ds da mo pl wk = false) := ok
  have K : QR w w.heap.size (.int .i64 f) (.int .i64 ev) (.int .i64 ct) (.int .i64 un) (.slice a0 ds.length c0) (.slice a1 da.length c1) (.slice a2 mo.length c2) (.slice a3 pl.length c3) (.int .i64 wk) a0 ds a1 da a2 mo a3 pl (w.alloc (.cells #[.int .i64 f, .int .i64 ev, .int .i64 ct, .int .i64 un, .slice a0 ds.length c0, .slice a1 da.length c1, .slice a2 mo.length c2, .slice a3 pl.length c3, .int .i64 wk] 30)) := QR.new _ h0 h1 h2 h3
  clear h0 h1 h2 h3 ok
  go_enter Tryd.func5, Tryd.ntmps5
  go_wp2_with fail
  with_reducible refine (specRuleOk f ev ct un a0 c0 ds a1 c1 da a2 c2 mo a3 c3 pl wk _ (QR.t K) (QR.i1 K) (QR.i2 K) (QR.i3 K) l0 l1 l2 l3).mono ?_
  rintro e w1 ⟨rfl, b1⟩
  rw [HO.out]
  replace K := QR.on K b1
  go_wp2
  go_ret
  exact ⟨rfl, QR.b K⟩
set_option maxRecDepth 100000 in
set_option maxHeartbeats 16000000 in
theorem specRulePut_yes (g : Nat) (ev ct un : Int) (a0 : Option Addr) (c0 : Nat) (ds : List (Int × Int)) (a1 : Option Addr) (c1 : Nat) (da : List Int) (a2 : Option Addr) (c2 : Nat) (mo : List Int) (a3 : Option Addr) (c3 : Nat) (pl : List Int) (wk : Nat) (y m d : Nat) (w : World) (h0 : IsTurns w a0 ds) (h1 : IsInts w a1 da) (h2 : IsInts w a2 mo) (h3 : IsInts w a3 pl) (l0 : ds.length ≤ 2000000) (l1 : da.length ≤ 2000000) (l2 : mo.length ≤ 2000000) (l3 : pl.length ≤ 2000000)
    (ok : ruB ((g : Int) + 1) ev ct un ds da mo pl wk = true) (okd : okD y m d = true) (hnum : num y m d = un) (hy : y < 10000) (hm : m < 100) (hd : d < 100) :
    Calls Tryd.prog 5 #[.agg #[.int .i64 ((g : Int) + 1), .int .i64 ev, .int .i64 ct, .int .i64 un, .slice a0 ds.length c0, .slice a1 da.length c1, .slice a2 mo.length c2, .slice a3 pl.length c3, .int .i64 wk]] w fun z w' => z = .returned (.string (joinT semi (ruleP g ev ct un (dateT y m d) ds da mo pl wk))) ∧ Below w.heap.size w w' := by
  have HO : Hid (ruB ((g : Int) + 1) ev ct un ds da mo pl wk = true) := ok
  have HD : Hid (okD y m d = true) := okd
  have HN : Hid (num y m d = un) := hnum
  have K : QR w w.heap.size (.int .i64 ((g : Int) + 1)) (.int .i64 ev) (.int .i64 ct) (.int .i64 un) (.slice a0 ds.length c0) (.slice a1 da.length c1) (.slice a2 mo.length c2) (.slice a3 pl.length c3) (.int .i64 wk) a0 ds a1 da a2 mo a3 pl (w.alloc (.cells #[.int .i64 ((g : Int) + 1), .int .i64 ev, .int .i64 ct, .int .i64 un, .slice a0 ds.length c0, .slice a1 da.length c1, .slice a2 mo.length c2, .slice a3 pl.length c3, .int .i64 wk] 30)) := QR.new _ h0 h1 h2 h3
  clear h0 h1 h2 h3 ok okd hnum
  go_enter Tryd.func5, Tryd.ntmps5
  go_wp2_with fail
  with_reducible refine (specRuleOk _ ev ct un a0 c0 ds a1 c1 da a2 c2 mo a3 c3 pl wk _ (QR.t K) (QR.i1 K) (QR.i2 K) (QR.i3 K) l0 l1 l2 l3).mono ?_
  rintro e w1 ⟨rfl, b1⟩
  rw [HO.out]
  replace K := QR.on K b1
  clear b1
  obtain ⟨x0, x1, x2, x3, x4, x5, x6, x7, x8, _⟩ := id K
  go_wp2_with fail
  with_reducible refine (specPut g ev ct un a0 c0 ds a1 c1 da a2 c2 mo a3 c3 pl wk y m d _ (QR.t K) (QR.i1 K) (QR.i2 K) (QR.i3 K) HO.out HD.out HN.out hy hm hd).mono ?_
  rintro e w2 ⟨rfl, b2⟩
  replace K := QR.on K b2
  clear b2 x0 x1 x2 x3 x4 x5 x6 x7 x8
  have HT : Hid (∃ T, T = joinT semi (ruleP g ev ct un (dateT y m d) ds da mo pl wk)) := ⟨_, rfl⟩
  go_wp2
  go_ret
  exact ⟨rfl, QR.b K⟩
set_option maxRecDepth 100000 in
set_option maxHeartbeats 16000000 in
theorem implRulePut_no (f ev ct un : Int) (a0 : Option Addr) (c0 : Nat) (ds : List (Int × Int)) (a1 : Option Addr) (c1 : Nat) (da : List Int) (a2 : Option Addr) (c2 : Nat) (mo : List Int) (a3 : Option Addr) (c3 : Nat) (pl : List Int) (wk : Int) (w : World) (h0 : IsTurns w a0 ds) (h1 : IsInts w a1 da) (h2 : IsInts w a2 mo) (h3 : IsInts w a3 pl) (l0 : ds.length ≤ 2000000) (l1 : da.length ≤ 2000000) (l2 : mo.length ≤ 2000000) (l3 : pl.length ≤ 2000000)
    (ok : ruB f ev ct un ds da mo pl wk = false) :
    Calls Tryd.prog 7 #[.agg #[.int .i64 f, .int .i64 ev, .int .i64 ct, .int .i64 un, .slice a0 ds.length c0, .slice a1 da.length c1, .slice a2 mo.length c2, .slice a3 pl.length c3, .int .i64 wk]] w fun z w' => z = .returned (.string ByteArray.empty) ∧ Below w.heap.size w w' := by
  have HO : Hid (ruB f ev ct un ds da mo pl wk = false) := ok
  have K : QR w w.heap.size (.int .i64 f) (.int .i64 ev) (.int .i64 ct) (.int .i64 un) (.slice a0 ds.length c0) (.slice a1 da.length c1) (.slice a2 mo.length c2) (.slice a3 pl.length c3) (.int .i64 wk) a0 ds a1 da a2 mo a3 pl (w.alloc (.cells #[.int .i64 f, .int .i64 ev, .int .i64 ct, .int .i64 un, .slice a0 ds.length c0, .slice a1 da.length c1, .slice a2 mo.length c2, .slice a3 pl.length c3, .int .i64 wk] 30)) := QR.new _ h0 h1 h2 h3
  clear h0 h1 h2 h3 ok
  go_enter Tryd.func7, Tryd.ntmps7
  go_wp2_with fail
  with_reducible refine (implRuleOk f ev ct un a0 c0 ds a1 c1 da a2 c2 mo a3 c3 pl wk _ (QR.t K) (QR.i1 K) (QR.i2 K) (QR.i3 K) l0 l1 l2 l3).mono ?_
  rintro e w1 ⟨rfl, b1⟩
  rw [HO.out]
  replace K := QR.on K b1
  go_wp2
  go_ret
  exact ⟨rfl, QR.b K⟩
/-- Both sides answer with one text. -/
theorem put_both (f ev ct un : Int) (ds : List (Int × Int)) (da mo pl : List Int) (wk : Int) (l0 : ds.length ≤ 2000000) (l1 : da.length ≤ 2000000) (l2 : mo.length ≤ 2000000) (l3 : pl.length ≤ 2000000) : ∃ T : ByteArray,
    (∀ (a0 : Option Addr) (c0 : Nat) (a1 : Option Addr) (c1 : Nat) (a2 : Option Addr) (c2 : Nat) (a3 : Option Addr) (c3 : Nat) (w : World), IsTurns w a0 ds → IsInts w a1 da → IsInts w a2 mo → IsInts w a3 pl →
      Calls Tryd.prog 5 #[.agg #[.int .i64 f, .int .i64 ev, .int .i64 ct, .int .i64 un, .slice a0 ds.length c0, .slice a1 da.length c1, .slice a2 mo.length c2, .slice a3 pl.length c3, .int .i64 wk]] w fun z w' => z = .returned (.string T) ∧ Below w.heap.size w w') ∧
    (∀ (a0 : Option Addr) (c0 : Nat) (a1 : Option Addr) (c1 : Nat) (a2 : Option Addr) (c2 : Nat) (a3 : Option Addr) (c3 : Nat) (w : World), IsTurns w a0 ds → IsInts w a1 da → IsInts w a2 mo → IsInts w a3 pl → Tab w → Pow w → Wk w → Fq w →
      Calls Tryd.prog 7 #[.agg #[.int .i64 f, .int .i64 ev, .int .i64 ct, .int .i64 un, .slice a0 ds.length c0, .slice a1 da.length c1, .slice a2 mo.length c2, .slice a3 pl.length c3, .int .i64 wk]] w fun z w' => z = .returned (.string T) ∧ Below w.heap.size w w') := by
  cases ok : ruB f ev ct un ds da mo pl wk with
  | false => exact ⟨ByteArray.empty, fun a0 c0 a1 c1 a2 c2 a3 c3 w h0 h1 h2 h3 => specRulePut_no f ev ct un a0 c0 ds a1 c1 da a2 c2 mo a3 c3 pl wk w h0 h1 h2 h3 l0 l1 l2 l3 ok, fun a0 c0 a1 c1 a2 c2 a3 c3 w h0 h1 h2 h3 _ _ _ _ => implRulePut_no f ev ct un a0 c0 ds a1 c1 da a2 c2 mo a3 c3 pl wk w h0 h1 h2 h3 l0 l1 l2 l3 ok⟩
  | true =>
    obtain ⟨⟨⟨f0, f1⟩, ⟨e0, e1⟩, ⟨t0, t1⟩, ⟨u0, u1⟩, ⟨k0, k1⟩⟩, _, _⟩ := ru_bds ok
    obtain ⟨g, rfl⟩ : ∃ g : Nat, f = (g : Int) + 1 := ⟨(f - 1).toNat, by omega⟩
    obtain ⟨k, rfl⟩ : ∃ k : Nat, wk = (k : Int) := ⟨wk.toNat, by omega⟩
    obtain ⟨y, m, d, okd, hn⟩ := date_ex un u0 u1
    have bd := (okD_iff _ _ _).1 okd
    have dm := dim_bd y m
    obtain ⟨y, rfl⟩ : ∃ k : Nat, y = (k : Int) := ⟨y.toNat, by omega⟩
    obtain ⟨m, rfl⟩ : ∃ k : Nat, m = (k : Int) := ⟨m.toNat, by omega⟩
    obtain ⟨d, rfl⟩ : ∃ k : Nat, d = (k : Int) := ⟨d.toNat, by omega⟩
    have hy : y < 10000 := by omega
    have hm : m < 100 := by omega
    have hd : d < 100 := by omega
    exact ⟨joinT semi (ruleP g ev ct un (dateT y m d) ds da mo pl k), fun a0 c0 a1 c1 a2 c2 a3 c3 w h0 h1 h2 h3 => specRulePut_yes g ev ct un a0 c0 ds a1 c1 da a2 c2 mo a3 c3 pl k y m d w h0 h1 h2 h3 l0 l1 l2 l3 ok okd hn hy hm hd, fun a0 c0 a1 c1 a2 c2 a3 c3 w h0 h1 h2 h3 hT hP hW hF => implRulePut_yes g ev ct un a0 c0 ds a1 c1 da a2 c2 mo a3 c3 pl k y m d w h0 h1 h2 h3 ok okd hn hy hm hd hT hP hW hF⟩
end Go.Proofs.YtdcohpokfdaknaaDoor
