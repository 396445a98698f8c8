/- Drawn numbers: what 'raw', 'size', 'once', 'wide' leave. -/
import Derived.Test.YticfnhbjoaecjaaCur
import Derived.Deep.RegionWith
namespace Go.Proofs.Yticfnhbjoaecjaa
open Go.RowKit
set_option linter.unusedVariables false

theorem lit_new (w : World) (cs : Array Value) (t : TypeId) (r : Nat) : (w.alloc (.cells cs t)).cell? ⟨w.heap.size, r, none⟩ = cs[r]? := by simp
/-- What a drawing of a number leaves. -/
def DrawnInt (b : Nat) (a : Option Addr) (l : List UInt8) (cap m : Nat) (w : World) (e : Ending) (w' : World) : Prop :=
  ∃ z : Int, e = .returned (.int .i64 z) ∧ (-9223372036854775808 ≤ z ∧ z ≤ 9223372036854775807) ∧ CurI w' b a l cap m ∧ w.grownBy w' (some b)

def lits8 : Array Value := #[.int .i64 9223372036854775807, .int .i64 (-9223372036854775808), .int .i64 4611686018427387904, .int .i64 65535, .int .i64 65536, .int .i64 (-1000), .int .i64 2147483648, .int .i64 4294967296]
theorem lits8_at (r : Nat) (h : r < 8 ∨ r = 0) : ∃ z : Int, (-9223372036854775808 ≤ z ∧ z ≤ 9223372036854775807) ∧ lits8[r]? = some (.int .i64 z) := by
  rcases (show r = 0 ∨ r = 1 ∨ r = 2 ∨ r = 3 ∨ r = 4 ∨ r = 5 ∨ r = 6 ∨ r = 7 from by omega) with rfl | rfl | rfl | rfl | rfl | rfl | rfl | rfl
  · exact ⟨9223372036854775807, by omega, rfl⟩
  · exact ⟨-9223372036854775808, by omega, rfl⟩
  · exact ⟨4611686018427387904, by omega, rfl⟩
  · exact ⟨65535, by omega, rfl⟩
  · exact ⟨65536, by omega, rfl⟩
  · exact ⟨-1000, by omega, rfl⟩
  · exact ⟨2147483648, by omega, rfl⟩
  · exact ⟨4294967296, by omega, rfl⟩

/-- What a drawing of a bool leaves. -/
def DrawnBool (b : Nat) (a : Option Addr) (l : List UInt8) (cap m : Nat) (w : World) (e : Ending) (w' : World) : Prop :=
  ∃ z : Bool, e = .returned (.bool z) ∧ CurI w' b a l cap m ∧ w.grownBy w' (some b)
set_option maxHeartbeats 1000000 in
theorem curOnce (b : Nat) (a : Option Addr) (l : List UInt8) (cap m n : Nat) (w : World) (hl : l.length ≤ 1048576) (hm : m ≤ 4000000000000000000) (hn : n ≤ 1000000) (h : CurI w b a l cap m) :
    Calls Try.prog 55 #[.pointer (some ⟨b, 0, none⟩), .int .i64 n] w (DrawnBool b a l cap (m + 1) w) := by
  have H := Lib.hid h
  clear h
  go_enter Try.func55, Try.ntmps55
  go_wp2_with fail
  refine (curPick b a l cap m n _ hl (by omega) (by omega) H.out).mono ?_
  rintro e w1 ⟨r, rfl, hr, hI1, hg1⟩
  have I1 := Lib.hid hI1
  have G1 := Lib.hid hg1
  clear hI1 hg1 H
  go_wp2
  go_ret
  exact ⟨_, rfl, I1.out, G1.out⟩
end Go.Proofs.Yticfnhbjoaecjaa
