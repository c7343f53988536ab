/- What stands while a zone's copy is held against it. -/
import Derived.Test.YtlhaldhfoeiohaaZEq
import Derived.Test.YtlhaldhfoeiohaaZs
import Derived.Test.YtlhaldhfoeiohaaC3
namespace Go.Proofs.Ytlhaldhfoeiohaa
open Go.RowKit
set_option linter.unusedVariables false
theorem tr_dec (ts : List (Int × Int)) : ∃ r : Bool, r = true ↔ TrOk ts := by
  by_cases ht : TrOk ts
  · exact ⟨true, fun _ => ht, fun _ => rfl⟩
  · exact ⟨false, fun h => Bool.noConfusion h, fun h => absurd h ht⟩
/-- What stands while the copy is held against the zone. -/
abbrev ZK (w : World) (b b' : Nat) (x y z z' : Value) (a a' : Option Addr) (ts : List (Int × Int)) (w' : World) : Prop :=
  w'.cell? ⟨b, 0, none⟩ = some x ∧ w'.cell? ⟨b, 1, none⟩ = some y ∧ w'.cell? ⟨b, 2, none⟩ = some z ∧ w'.cell? ⟨b', 0, none⟩ = some x ∧ w'.cell? ⟨b', 1, none⟩ = some y ∧ w'.cell? ⟨b', 2, none⟩ = some z' ∧ IsTurns w' a ts ∧ IsTurns w' a' ts ∧ Below w.heap.size w w'
theorem ZK.on {w W w' : World} {b b' : Nat} {x y z z' : Value} {a a' : Option Addr} {ts : List (Int × Int)} (h : ZK w b b' x y z z' a a' ts W) (hb : Below W.heap.size W w') : ZK w b b' x y z z' a a' ts w' := by
  obtain ⟨c0, c1, c2, d0, d1, d2, T, T', B⟩ := h
  obtain ⟨e0, e1, e2⟩ := C3.on (w := W) ⟨c0, c1, c2⟩ hb
  obtain ⟨f0, f1, f2⟩ := C3.on (w := W) ⟨d0, d1, d2⟩ hb
  exact ⟨e0, e1, e2, f0, f1, f2, T.below (B := 0) hb, T'.below (B := 0) hb, B.trans (hb.mono B.size)⟩
theorem ZK.t {w W : World} {b b' : Nat} {x y z z' : Value} {a a' : Option Addr} {ts : List (Int × Int)} (h : ZK w b b' x y z z' a a' ts W) : IsTurns W a ts := h.2.2.2.2.2.2.1
theorem ZK.t' {w W : World} {b b' : Nat} {x y z z' : Value} {a a' : Option Addr} {ts : List (Int × Int)} (h : ZK w b b' x y z z' a a' ts W) : IsTurns W a' ts := h.2.2.2.2.2.2.2.1
theorem ZK.b {w W : World} {b b' : Nat} {x y z z' : Value} {a a' : Option Addr} {ts : List (Int × Int)} (h : ZK w b b' x y z z' a a' ts W) : Below w.heap.size w W := h.2.2.2.2.2.2.2.2
end Go.Proofs.Ytlhaldhfoeiohaa
