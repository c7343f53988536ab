/- The specification's small functions of the calendar: what each answers. -/
import Derived.Test.YtecijmdkicgemaaBs
import Derived.Test.YtecijmdkicgemaaCal
import Derived.WalkKit
import Derived.WalkLawsBesides
import Derived.Below
import Derived.Outline
namespace Go.Proofs.Ytecijmdkicgemaa
open Go.RowKit
set_option linter.unusedVariables false

end Go.Proofs.Ytecijmdkicgemaa
