/- MemOk: what the model and the program answer. -/
import Derived.Test.YticfnhbjoaecjaaDoorMemP
import Derived.Test.YticfnhbjoaecjaaDoorMemCel
import Derived.Test.YticfnhbjoaecjaaDoorMemTch
namespace Go.Proofs.YticfnhbjoaecjaaDoor
open Go.RowKit
set_option linter.unusedVariables false

end Go.Proofs.YticfnhbjoaecjaaDoor
