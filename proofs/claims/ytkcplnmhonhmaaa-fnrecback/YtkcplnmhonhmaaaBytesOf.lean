/- The laws' copy of bytes, in the uniform form. -/
import Derived.Test.YtkcplnmhonhmaaaByteSU
import Derived.Test.YtkcplnmhonhmaaaApp
import Derived.Deep.DeepMust
namespace Go.Proofs.Ytkcplnmhonhmaaa
open Go.RowKit
set_option linter.unusedVariables false
theorem ones_bval (l : List UInt8) : ∀ u ∈ l.map bval, u.oneCell' = true := by
  intro u hu
  obtain ⟨c, _, rfl⟩ := List.mem_map.1 hu
  rfl
/-- A copy in memory of its own. -/
def CopyRet (l : List UInt8) (w : World) (e : Ending) (w' : World) : Prop := ∃ c, e = .returned c ∧ ByteSOwn w.heap.size w'.heap.size [c] l w' ∧ Below w.heap.size w w'
set_option maxHeartbeats 800000 in
theorem uBytesOf (c : Value) (l : List UInt8) (w : World) (hl : l.length ≤ 1000000) (h : ByteSIn [c] l w) : Calls Try.prog 16 #[c] w (CopyRet l w) := by
  obtain ⟨a, cap, rfl, _, _, r⟩ := byteSIn_shape h
  have R := Lib.hid (r.below ((Below.refl _ _).alloc (Nat.le_refl _) (.cells #[] 5)))
  clear r h
  go_enter Try.func16, Try.ntmps16
  go_wp2_with (at_builtin; go_must (refine wp_app_row rfl _ _ 22 rfl 5 (.int .u8 0) 1 Try.underlying22 Try.info5 rfl w.heap.size 0 _ [] (by rfl) (World.ownsRow_made w #[] 0 (Nat.le_refl _) (by unfold maxLen; omega) rfl) a l.length cap (l.map bval) (by rfl) (by simp) R.out (ones_bval l) (by unfold maxLen; omega) (by omega) (by simp) ?_); intro v' w2 hown hgr)
  rw [Nat.zero_add, List.nil_append] at hown
  obtain ⟨a', c', rfl⟩ := own_shape hown
  have OO := Lib.hid (ByteSOwn.mk hown)
  have BB := Lib.hid (below_write (below_box (Below.refl _ w) (.cells #[] 5)) hgr (Nat.le_refl _))
  clear hown hgr
  go_wp2
  go_ret
  exact ⟨_, rfl, OO.out, BB.out⟩
end Go.Proofs.Ytkcplnmhonhmaaa
