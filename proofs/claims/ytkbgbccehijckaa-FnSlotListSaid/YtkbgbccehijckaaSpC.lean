/- The specification's small functions of the calendar: what each answers. -/
import Derived.Test.YtkbgbccehijckaaBs
import Derived.Test.YtkbgbccehijckaaCal
import Derived.WalkKit
import Derived.WalkLawsBesides
import Derived.Below
import Derived.Outline
namespace Go.Proofs.Ytkbgbccehijckaa
open Go.RowKit
set_option linter.unusedVariables false

end Go.Proofs.Ytkbgbccehijckaa
