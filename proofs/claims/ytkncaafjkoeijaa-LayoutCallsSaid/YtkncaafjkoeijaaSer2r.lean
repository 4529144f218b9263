
/- Contracts of the functions of package serial, and of the document's own answers: words, events at positions, distances. -/
import Derived.Test.YtkncaafjkoeijaaSer
import Derived.Test.YtkncaafjkoeijaaSerBits
namespace Go.Proofs.Ytkncaafjkoeijaa.Ser
open Go.RowKit SerBits
set_option linter.unusedVariables false
set_option linter.unusedSimpArgs false

end Go.Proofs.Ytkncaafjkoeijaa.Ser
