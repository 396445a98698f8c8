/- Behind the opening of a cursor and drawings. -/
import Derived.Test.YtkcplnmhonhmaaaCur
import Derived.Test.YtkcplnmhonhmaaaSeg
namespace Go.Proofs.Ytkcplnmhonhmaaa
open Go.RowKit
set_option linter.unusedVariables false

/-- Behind the opening of the cursor and drawings: all that lay lies on but the cursor's block, which is new. -/
structure Drew (w W : World) (b : Nat) (a : Option Addr) (l : List UInt8) (cap m : Nat) : Prop where
  I : CurI W b a l cap m
  B : Below w.heap.size w W
  lo : w.heap.size ≤ b
section
variable {w W W' : World} {b : Nat} {a : Option Addr} {l : List UInt8} {cap m m' : Nat}
theorem Drew.pick (s : Drew w W b a l cap m) (hI : CurI W' b a l cap m') (hg : W.grownBy W' (some b)) : Drew w W' b a l cap m' := ⟨hI, below_write s.B hg s.lo, s.lo⟩
theorem Drew.below (s : Drew w W b a l cap m) (hb : Below W.heap.size W W') : Drew w W' b a l cap m := ⟨s.I.below hb, below_seq s.B hb, s.lo⟩
theorem Drew.set (s : Drew w W b a l cap m) {R k : Nat} (h : b < R) (u : Value) : Drew w (W.setCell ⟨R, k, none⟩ u) b a l cap m := by
  have BB : Below R W (W.setCell ⟨R, k, none⟩ u) := (Below.refl _ W).setCell (p := ⟨R, k, none⟩) (Nat.le_refl _) _
  exact ⟨s.I.low BB h, s.B.trans (BB.mono (by have := s.lo; omega)), s.lo⟩
theorem Drew.more (s : Drew w W b a l cap m) (hm : m ≤ m') : Drew w W b a l cap m' := ⟨s.I.more hm, s.B, s.lo⟩
end
theorem chg_set {lo hi : Nat} {W W' : World} (C : Chg lo hi W W') {R : Nat} (h1 : lo ≤ R) (h2 : R < hi) (k : Nat) (u : Value) : Chg lo hi W (W'.setCell ⟨R, k, none⟩ u) :=
  C.trans (Chg.of_grown (set_grown W' R k u) (fun j hj => by cases hj; exact ⟨h1, h2⟩))
end Go.Proofs.Ytkcplnmhonhmaaa
