/- The specification's small functions of the calendar: what each answers. -/
import Derived.Test.YtihklmbblbnihaaBs
import Derived.Test.YtihklmbblbnihaaCal
import Derived.WalkKit
import Derived.WalkLawsBesides
import Derived.Below
import Derived.Outline
namespace Go.Proofs.Ytihklmbblbnihaa
open Go.RowKit
set_option linter.unusedVariables false

end Go.Proofs.Ytihklmbblbnihaa
