/- What 'WordOk' answers, in the model of the document and in the program: the same test of the bytes. -/
import Derived.Test.YtmndkpicbmffnaaRows
import Derived.Test.YtmndkpicbmffnaaPlain1
import Derived.WalkKit
import Derived.ProofKit
import Derived.Lib.Hide
namespace Go.Proofs.Ytmndkpicbmffnaa
open Go.RowKit
end Go.Proofs.Ytmndkpicbmffnaa
