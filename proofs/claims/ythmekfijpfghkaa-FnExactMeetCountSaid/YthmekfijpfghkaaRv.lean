/- Rules of the program: when one is ok. -/
import Derived.Test.YthmekfijpfghkaaRu
namespace Go.Proofs.Ythmekfijpfghkaa
open Go.RowKit
set_option linter.unusedVariables false
end Go.Proofs.Ythmekfijpfghkaa
