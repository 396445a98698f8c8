/- Powers of two in the model. -/
import Derived.Test.YtaedamnhobcdlaaBase
import Derived.Test.YtaedamnhobcdlaaPlain1
namespace Go.Proofs.Ytaedamnhobcdlaa
open Go.RowKit
set_option linter.unusedVariables false

end Go.Proofs.Ytaedamnhobcdlaa
