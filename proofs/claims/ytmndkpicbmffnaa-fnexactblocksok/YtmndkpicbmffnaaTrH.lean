/- What chapter 11's functions of the program are held to (proved where the landed code is known). -/
import Derived.Test.YtmndkpicbmffnaaTrS
namespace Go.Proofs.Ytmndkpicbmffnaa
open Go.RowKit
set_option linter.unusedVariables false

def i64T (z : Int) : Prop := -9223372036854775808 ≤ z ∧ z ≤ 9223372036854775807
end Go.Proofs.Ytmndkpicbmffnaa
