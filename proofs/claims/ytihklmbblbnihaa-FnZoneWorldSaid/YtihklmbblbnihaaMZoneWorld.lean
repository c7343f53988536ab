/- FnZoneWorld: the walk, its draw at hand. -/
import Derived.Test.YtihklmbblbnihaaLZoneWorld
import Derived.Test.YtihklmbblbnihaaDz5
namespace Go.Proofs.Ytihklmbblbnihaa
open Go.RowKit
set_option linter.unusedVariables false
theorem lawZoneWorld (a0 : Option Addr) (len0 cap0 : Nat) (w : World) (h : IsCode w a0 len0 cap0) :
    Calls Try.prog 5 #[.slice a0 len0 cap0] w fun e w' => e = .returned (.bool true) ∧ Below w.heap.size w w' :=
  lawZoneWorld' (fun w a len cap h => (drawZoneWorldO w a len cap h).mono fun _ _ h => h.far) a0 len0 cap0 w h
end Go.Proofs.Ytihklmbblbnihaa
