/- The specification's small functions of the calendar: what each answers. -/
import Derived.Test.YtlhaldhfoeiohaaBs
import Derived.Test.YtlhaldhfoeiohaaCal
import Derived.WalkKit
import Derived.WalkLawsBesides
import Derived.Below
import Derived.Outline
namespace Go.Proofs.Ytlhaldhfoeiohaa
open Go.RowKit
set_option linter.unusedVariables false

end Go.Proofs.Ytlhaldhfoeiohaa
