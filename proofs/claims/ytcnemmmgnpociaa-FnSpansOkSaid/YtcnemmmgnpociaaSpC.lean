/- The specification's small functions of the calendar: what each answers. -/
import Derived.Test.YtcnemmmgnpociaaBs
import Derived.Test.YtcnemmmgnpociaaCal
import Derived.WalkKit
import Derived.WalkLawsBesides
import Derived.Below
import Derived.Outline
namespace Go.Proofs.Ytcnemmmgnpociaa
open Go.RowKit
set_option linter.unusedVariables false

end Go.Proofs.Ytcnemmmgnpociaa
