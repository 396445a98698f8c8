/- What chapter 12's functions of the program are held to (proved where the landed code is known). -/
import Derived.Test.YtmndkpicbmffnaaTnR
namespace Go.Proofs.Ytmndkpicbmffnaa
open Go.RowKit
set_option linter.unusedVariables false

def i64N (z : Int) : Prop := -9223372036854775808 ≤ z ∧ z ≤ 9223372036854775807
structure Impl12 : Prop where
  size : ∀ (v : Int) (w : World), i64N v → Calls Try.prog 17 #[.int .i64 v] w fun e w' => e = .returned (.int .i64 (nodeSizeZ v)) ∧ Below w.heap.size w w'
  of : ∀ (c : Value) (l : NodeM) (z v : Int) (w : World), NodeIn [c] l w → i64N z → i64N v → Calls Try.prog 12 #[.agg #[c], .int .i64 z, .int .i64 v] w (ByteSRet (nodeOfL l z v) w)
  read : ∀ (c : Value) (d : List UInt8) (z v : Int) (w : World), ByteSIn [c] d w → i64N z → i64N v → Calls Try.prog 14 #[c, .int .i64 z, .int .i64 v] w fun e w' => ∃ c0, e = .returned (.tuple #[.agg #[c0], .bool (readNB d z v)]) ∧ NodeOwn w.heap.size w'.heap.size [c0] (readNM d z v) w' ∧ Below w.heap.size w w'
end Go.Proofs.Ytmndkpicbmffnaa
