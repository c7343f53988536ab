/- FnZoneTimes: the walk, its draw at hand. -/
import Derived.Test.YtihklmbblbnihaaLZoneTimes
import Derived.Test.YtihklmbblbnihaaDz5
namespace Go.Proofs.Ytihklmbblbnihaa
open Go.RowKit
set_option linter.unusedVariables false
theorem lawZoneTimes (a0 : Option Addr) (len0 cap0 : Nat) (a9 : Option Addr) (len9 cap9 : Nat) (w : World) (h : IsCode w a0 len0 cap0) (h9 : IsCode w a9 len9 cap9) :
    Calls Try.prog 4 #[.slice a0 len0 cap0, .slice a9 len9 cap9] w fun e w' => e = .returned (.bool true) ∧ Below w.heap.size w w' :=
  lawZoneTimes' drawZoneTimes a0 len0 cap0 a9 len9 cap9 w h h9
end Go.Proofs.Ytihklmbblbnihaa
