/- What chapter 11's functions of the program are held to (proved where the landed code is known). -/
import Derived.Test.YtabldmhjkggmjaaTrS
namespace Go.Proofs.Ytabldmhjkggmjaa
open Go.RowKit
set_option linter.unusedVariables false

def i64T (z : Int) : Prop := -9223372036854775808 ≤ z ∧ z ≤ 9223372036854775807
structure Impl11 : Prop where
  nodes : ∀ (z : Int) (w : World), i64T z → Calls Try.prog 22 #[.int .i64 z] w fun e w' => e = .returned (.int .i64 (treeNodesZ z)) ∧ Below w.heap.size w w'
  path : ∀ (z l : Int) (w : World), i64T z → i64T l → Calls Try.prog 16 #[.int .i64 z, .int .i64 l] w (IntSRet (pathZ z l) w)
  on : ∀ (z n l : Int) (w : World), i64T z → i64T n → i64T l → Calls Try.prog 18 #[.int .i64 z, .int .i64 n, .int .i64 l] w fun e w' => e = .returned (.bool (onZ z n l)) ∧ Below w.heap.size w w'
  level : ∀ (n : Int) (w : World), i64T n → Calls Try.prog 19 #[.int .i64 n] w fun e w' => e = .returned (.int .i64 (levelZ n)) ∧ Below w.heap.size w w'
  leaves : ∀ (z n : Int) (w : World), i64T z → i64T n → Calls Try.prog 17 #[.int .i64 z, .int .i64 n] w fun e w' => e = .returned (.tuple #[.int .i64 (lowZ z n), .int .i64 (highZ z n)]) ∧ Below w.heap.size w w'
  meet : ∀ (z a b : Int) (w : World), i64T z → i64T a → i64T b → Calls Try.prog 14 #[.int .i64 z, .int .i64 a, .int .i64 b] w fun e w' => e = .returned (.int .i64 (meetZ z a b)) ∧ Below w.heap.size w w'
end Go.Proofs.Ytabldmhjkggmjaa
