/- Chapter 7 drawn: a word and planes (of which only the word is told). -/
import Derived.Test.YtfdlmpjccoaejaaCurPl
namespace Go.Proofs.Ytfdlmpjccoaejaa
open Go.RowKit
set_option linter.unusedVariables false
set_option maxRecDepth 100000

def DrawnPW (w : World) (e : Ending) (w' : World) : Prop :=
  ∃ (p : ByteArray) (z : Int) (a1 : Option Addr) (n1 k1 : Nat) (a2 : Option Addr) (n2 k2 : Nat), e = .returned (.tuple #[.string p, .agg #[.int .i64 z, .slice a1 n1 k1, .slice a2 n2 k2]]) ∧ p.size ≤ 96 ∧ Below w.heap.size w w'
set_option maxHeartbeats 4000000 in
theorem drawBatchCapped (a : Option Addr) (l : List UInt8) (cap : Nat) (w : World) (hl : l.length ≤ 1048576) (r : Row w a (l.map bval)) :
    Calls Try.prog 16 #[.slice a l.length cap] w (DrawnPW w) := by
  have hb0 : Below w.heap.size w (w.alloc (.cells #[.int .i64 0, .slice none 0 0, .slice none 0 0] 28)) := (Below.refl _ _).alloc (Nat.le_refl _) _
  have K0 := Lib.hid (alloc_at w (.cells #[.int .i64 0, .slice none 0 0, .slice none 0 0] 28) _ rfl)
  have CO := Lib.hid (curOpen a l cap (w.alloc (.cells #[.int .i64 0, .slice none 0 0, .slice none 0 0] 28)) hl (r.below hb0))
  have B0 := Lib.hid hb0
  have z0 : (w.alloc (.cells #[.int .i64 0, .slice none 0 0, .slice none 0 0] 28)).heap.size = w.heap.size + 1 := by simp
  clear r hb0
  go_enter Try.func16, Try.ntmps16
  go_wp2_with fail
  refine CO.out.mono ?_
  rintro e w1 ⟨rfl, hI1, hB1⟩
  rw [z0] at hI1 ⊢
  have I1 := Lib.hid hI1
  have B1 := Lib.hid (below_seq B0.out hB1)
  have K1 := Lib.hid (kept_block K0.out hB1)
  clear hI1 hB1 CO B0 K0
  go_wp2_with fail
  refine (curBadWord (w.heap.size + 1) a l cap _ _ hl (by omega) I1.out).mono ?_
  rintro e w2 ⟨s, rfl, hs, hI2, hg2⟩
  have I2 := Lib.hid hI2
  have B2 := Lib.hid (below_write B1.out hg2 (by omega))
  have K2 := Lib.hid (kept_grown K1.out hg2 (by simp))
  clear hI2 hg2 I1 B1 K1
  go_wp2_with fail
  refine (curPlanes (w.heap.size + 1) a l cap _ _ hl (by omega) I2.out).mono ?_
  rintro e w3 ⟨z, a1, n1, k1, a2, n2, k2, rfl, hg3⟩
  have B3 := Lib.hid (below_write B2.out hg3 (by omega))
  have K3 := kept_grown K2.out hg3 (by simp)
  have r0 : w3.cell? ⟨w.heap.size, 0, none⟩ = some (.int .i64 0) := cur_cell K3 0
  have r1 : w3.cell? ⟨w.heap.size, 1, none⟩ = some (.slice none 0 0) := cur_cell K3 1
  have r2 : w3.cell? ⟨w.heap.size, 2, none⟩ = some (.slice none 0 0) := cur_cell K3 2
  have f0 := cur_free K3 0
  have f1 := cur_free K3 1
  have f2 := cur_free K3 2
  have BB : Hid (Below w.heap.size w (((w3.setCell ⟨w.heap.size, 0, none⟩ (.int .i64 z)).setCell ⟨w.heap.size, 1, none⟩ (.slice a1 n1 k1)).setCell ⟨w.heap.size, 2, none⟩ (.slice a2 n2 k2))) := Lib.hid (((B3.out.setCell (p := ⟨w.heap.size, 0, none⟩) (Nat.le_refl _) _).setCell (p := ⟨w.heap.size, 1, none⟩) (Nat.le_refl _) _).setCell (p := ⟨w.heap.size, 2, none⟩) (Nat.le_refl _) _)
  clear hg3 B3 K3 B2 K2 I2
  go_wp2
  exact bodyPost_ret (v := .tuple #[.string s, .agg #[.int .i64 z, .slice a1 n1 k1, .slice a2 n2 k2]]) (by simp [results, Try.results16, go_sem, r0, r1, r2]) rfl ⟨s, z, a1, n1, k1, a2, n2, k2, rfl, hs, BB.out⟩
end Go.Proofs.Ytfdlmpjccoaejaa
