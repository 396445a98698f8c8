/- TnO in one. Written by tools/join2.py. -/
import Derived.Test.YtmkgddbdkpkgpaaJS18
import Derived.Test.YtmkgddbdkpkgpaaJS26
import Derived.Test.YtmkgddbdkpkgpaaJS5
section
namespace Go.Proofs.Ytmkgddbdkpkgpaa
open Go.RowKit
set_option linter.unusedVariables false
set_option linter.unusedSimpArgs false
set_option maxRecDepth 100000

theorem byte_ofZ {z : Int} (h0 : 0 ≤ z) (h1 : z ≤ 255) : bval (UInt8.ofNat z.toNat) = .int .u8 z := by
  unfold bval
  congr 1
  rw [UInt8.toNat_ofNat']
  omega
theorem bval_zero : bval 0 = .int .u8 0 := rfl
theorem bval_one : bval 1 = .int .u8 1 := rfl
end Go.Proofs.Ytmkgddbdkpkgpaa
end
