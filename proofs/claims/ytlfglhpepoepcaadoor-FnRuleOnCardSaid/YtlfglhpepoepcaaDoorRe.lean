/- The exact laws' own helpers over rules: copies. -/
import Derived.Test.YtlfglhpepoepcaaDoorRx
import Derived.Test.YtlfglhpepoepcaaDoorZEx
namespace Go.Proofs.YtlfglhpepoepcaaDoor
open Go.RowKit
set_option linter.unusedVariables false
end Go.Proofs.YtlfglhpepoepcaaDoor
