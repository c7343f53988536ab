/- The specification's small functions of the calendar: what each answers. -/
import Derived.Test.YtlanjdighccbpaaBs
import Derived.Test.YtlanjdighccbpaaCal
import Derived.WalkKit
import Derived.WalkLawsBesides
import Derived.Below
import Derived.Outline
namespace Go.Proofs.Ytlanjdighccbpaa
open Go.RowKit
set_option linter.unusedVariables false

end Go.Proofs.Ytlanjdighccbpaa
