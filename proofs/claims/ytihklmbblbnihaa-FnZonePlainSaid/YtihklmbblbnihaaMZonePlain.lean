/- FnZonePlain: the walk, its draw at hand. -/
import Derived.Test.YtihklmbblbnihaaLZonePlain
import Derived.Test.YtihklmbblbnihaaDz5
namespace Go.Proofs.Ytihklmbblbnihaa
open Go.RowKit
set_option linter.unusedVariables false
theorem lawZonePlain (a0 : Option Addr) (len0 cap0 : Nat) (w : World) (h : IsCode w a0 len0 cap0) :
    Calls Try.prog 7 #[.slice a0 len0 cap0] w fun e w' => e = .returned (.bool true) ∧ Below w.heap.size w w' := lawZonePlain' drawZoneTimes a0 len0 cap0 w h
end Go.Proofs.Ytihklmbblbnihaa
