/- The specification's small functions of the calendar: what each answers. -/
import Derived.Test.YtddjbcggdmeidaaBs
import Derived.Test.YtddjbcggdmeidaaCal
import Derived.WalkKit
import Derived.WalkLawsBesides
import Derived.Below
import Derived.Outline
namespace Go.Proofs.Ytddjbcggdmeidaa
open Go.RowKit
set_option linter.unusedVariables false

end Go.Proofs.Ytddjbcggdmeidaa
