/- The specification's small functions of the calendar: what each answers. -/
import Derived.Test.YthenkgihofaaeaaBs
import Derived.Test.YthenkgihofaaeaaCal
import Derived.WalkKit
import Derived.WalkLawsBesides
import Derived.Below
import Derived.Outline
namespace Go.Proofs.Ythenkgihofaaeaa
open Go.RowKit
set_option linter.unusedVariables false

end Go.Proofs.Ythenkgihofaaeaa
