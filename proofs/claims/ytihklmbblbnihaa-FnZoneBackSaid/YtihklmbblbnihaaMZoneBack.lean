/- FnZoneBack: the walk, its draw at hand. -/
import Derived.Test.YtihklmbblbnihaaLZoneBack
import Derived.Test.YtihklmbblbnihaaDz5
namespace Go.Proofs.Ytihklmbblbnihaa
open Go.RowKit
set_option linter.unusedVariables false
theorem lawZoneBack (a0 : Option Addr) (len0 cap0 : Nat) (w : World) (h : IsCode w a0 len0 cap0) :
    Calls Try.prog 6 #[.slice a0 len0 cap0] w fun e w' => e = .returned (.bool true) ∧ Below w.heap.size w w' := lawZoneBack' drawZoneLocal a0 len0 cap0 w h
end Go.Proofs.Ytihklmbblbnihaa
