/- Records in the program: RecOf, RecRead, RecPair, RecsOk. -/
import Derived.Test.YtaedamnhobcdlaaRecI
import Derived.Test.YtaedamnhobcdlaaRecR
import Derived.Test.YtaedamnhobcdlaaCopyP
namespace Go.Proofs.Ytaedamnhobcdlaa
open Go.RowKit
open Go.Lib (compareBytes)
set_option linter.unusedVariables false
set_option maxRecDepth 100000

end Go.Proofs.Ytaedamnhobcdlaa
