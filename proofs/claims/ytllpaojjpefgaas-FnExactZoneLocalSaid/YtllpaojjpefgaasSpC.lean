/- The specification's small functions of the calendar: what each answers. -/
import Derived.Test.YtllpaojjpefgaasBs
import Derived.Test.YtllpaojjpefgaasCal
import Derived.WalkKit
import Derived.WalkLawsBesides
import Derived.Below
import Derived.Outline
namespace Go.Proofs.Ytllpaojjpefgaas
open Go.RowKit
set_option linter.unusedVariables false

end Go.Proofs.Ytllpaojjpefgaas
