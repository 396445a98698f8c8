/- CurN in one. Written by tools/join2.py. -/
import Derived.Test.YtmndkpicbmffnaaJN29
import Derived.Deep.RegionWith
section
namespace Go.Proofs.Ytmndkpicbmffnaa
open Go.RowKit
set_option linter.unusedVariables false

theorem lit_new (w : World) (cs : Array Value) (t : TypeId) (r : Nat) : (w.alloc (.cells cs t)).cell? ⟨w.heap.size, r, none⟩ = cs[r]? := by simp
/-- What a drawing of a number leaves. -/
def DrawnInt (b : Nat) (a : Option Addr) (l : List UInt8) (cap m : Nat) (w : World) (e : Ending) (w' : World) : Prop :=
  ∃ z : Int, e = .returned (.int .i64 z) ∧ (-9223372036854775808 ≤ z ∧ z ≤ 9223372036854775807) ∧ CurI w' b a l cap m ∧ w.grownBy w' (some b)

def lits8 : Array Value := #[.int .i64 9223372036854775807, .int .i64 (-9223372036854775808), .int .i64 4611686018427387904, .int .i64 65535, .int .i64 65536, .int .i64 (-1000), .int .i64 2147483648, .int .i64 4294967296]
theorem lits8_at (r : Nat) (h : r < 8 ∨ r = 0) : ∃ z : Int, (-9223372036854775808 ≤ z ∧ z ≤ 9223372036854775807) ∧ lits8[r]? = some (.int .i64 z) := by
  rcases (show r = 0 ∨ r = 1 ∨ r = 2 ∨ r = 3 ∨ r = 4 ∨ r = 5 ∨ r = 6 ∨ r = 7 from by omega) with rfl | rfl | rfl | rfl | rfl | rfl | rfl | rfl
  · exact ⟨9223372036854775807, by omega, rfl⟩
  · exact ⟨-9223372036854775808, by omega, rfl⟩
  · exact ⟨4611686018427387904, by omega, rfl⟩
  · exact ⟨65535, by omega, rfl⟩
  · exact ⟨65536, by omega, rfl⟩
  · exact ⟨-1000, by omega, rfl⟩
  · exact ⟨2147483648, by omega, rfl⟩
  · exact ⟨4294967296, by omega, rfl⟩

set_option maxHeartbeats 1000000 in
theorem curRaw (b : Nat) (a : Option Addr) (l : List UInt8) (cap m : Nat) (w : World) (hl : l.length ≤ 1048576) (hm : m ≤ 4000000000000000000) (h : CurI w b a l cap m) :
    Calls Try.prog 60 #[.pointer (some ⟨b, 0, none⟩)] w (DrawnInt b a l cap (m + 2) w) := by
  have H := Lib.hid h
  clear h
  go_enter Try.func60, Try.ntmps60
  go_wp2_with fail
  refine (curPick b a l cap m 8 _ hl (by omega) (by omega) H.out).mono ?_
  rintro e w1 ⟨r, rfl, hr, hI1, hg1⟩
  have I1 := Lib.hid hI1
  have G1 := Lib.hid hg1
  have hbl := hI1.lt
  clear hI1 hg1 H
  by_cases h0 : r = 0
  · subst h0
    go_wp2_with fail
    refine (curPick b a l cap _ 256 _ hl (by omega) (by omega) I1.out).mono ?_
    rintro e w2 ⟨k, rfl, hk, hI2, hg2⟩
    have hk' : k < 256 := by omega
    have I2 := Lib.hid hI2
    have G2 := Lib.hid (grown_trans G1.out hg2)
    clear hI2 hg2 I1 G1
    go_wp2
    go_ret
    exact ⟨_, rfl, by omega, I2.out, G2.out⟩
  have hr0 : ((r : Int) == 0) = false := by simp; omega
  by_cases h1 : r = 1
  · subst h1
    have IB := Lib.hid (I1.out.below (w' := w1.alloc (.cells lits8 3)) ((Below.refl _ _).alloc (Nat.le_refl _) _))
    go_wp2_with fail
    refine (curPick b a l cap _ 8 _ hl (by omega) (by omega) IB.out).mono ?_
    rintro e w2 ⟨k, rfl, hk, hI2, hg2⟩
    obtain ⟨z, hz, hzl⟩ := lits8_at k hk
    have hk8 : k < 8 := by omega
    have hq : w2.cell? ⟨w1.heap.size, k, none⟩ = some (.int .i64 z) := hg2.cell ((lit_new w1 lits8 3 k).trans hzl) (by simp; omega)
    have I2 := Lib.hid hI2
    have G2 := Lib.hid (grown_trans G1.out (grown_trans (World.grownBy_alloc w1 (.cells lits8 3) (some b)) hg2))
    clear hI2 hg2 I1 G1 IB hzl
    go_wp2
    go_ret
    exact ⟨z, rfl, hz, I2.out, G2.out⟩
  have hr1 : ((r : Int) == 1) = false := by simp; omega
  go_wp2_with fail
  refine (curPick b a l cap _ 14 _ hl (by omega) (by omega) I1.out).mono ?_
  rintro e w2 ⟨k, rfl, hk, hI2, hg2⟩
  have hk' : k < 14 := by omega
  have I2 := Lib.hid hI2
  have G2 := Lib.hid (grown_trans G1.out hg2)
  clear hI2 hg2 I1 G1
  go_wp2
  go_ret
  exact ⟨_, rfl, by omega, I2.out, G2.out⟩
set_option maxHeartbeats 1000000 in
theorem curSize (b : Nat) (a : Option Addr) (l : List UInt8) (cap m n : Nat) (w : World) (hl : l.length ≤ 1048576) (hm : m ≤ 4000000000000000000) (hn : n ≤ 1000000) (h : CurI w b a l cap m) :
    Calls Try.prog 69 #[.pointer (some ⟨b, 0, none⟩), .int .i64 n] w (PickPost b a l cap m (n + 1) w) := by
  obtain ⟨at', seed, hk, ha, hs⟩ := h.blk
  have hc0 : w.cell? ⟨b, 0, none⟩ = some (.slice a l.length cap) := cur_cell hk 0
  have H := Lib.hid h
  clear h hk
  have hmd : (l.length : Int).tdiv 8 = (l.length : Int) / 8 := Int.tdiv_eq_ediv_of_nonneg (by omega)
  go_enter Try.func69, Try.ntmps69
  go_wp2_with fail
  all_goals
    first
    | (rw [show (n : Int) + 1 = ((n + 1 : Nat) : Int) from by omega]
       refine (curPick b a l cap m (n + 1) _ hl (by omega) (by omega) H.out).mono ?_)
    | (rw [show 1 + (l.length : Int) / 8 + 1 = ((1 + l.length / 8 + 1 : Nat) : Int) from by omega]
       refine (curPick b a l cap m (1 + l.length / 8 + 1) _ hl (by omega) (by omega) H.out).mono ?_)
    rintro e w1 ⟨r, rfl, hr, hI1, hg1⟩
    have I1 := Lib.hid hI1
    have G1 := Lib.hid hg1
    have hr' : r < n + 1 ∨ r = 0 := by omega
    clear hI1 hg1 H hr
    go_wp2
    go_ret
    exact ⟨r, rfl, hr', I1.out, G1.out⟩
/-- What a drawing of a bool leaves. -/
def DrawnBool (b : Nat) (a : Option Addr) (l : List UInt8) (cap m : Nat) (w : World) (e : Ending) (w' : World) : Prop :=
  ∃ z : Bool, e = .returned (.bool z) ∧ CurI w' b a l cap m ∧ w.grownBy w' (some b)
set_option maxHeartbeats 1000000 in
theorem curOnce (b : Nat) (a : Option Addr) (l : List UInt8) (cap m n : Nat) (w : World) (hl : l.length ≤ 1048576) (hm : m ≤ 4000000000000000000) (hn : n ≤ 1000000) (h : CurI w b a l cap m) :
    Calls Try.prog 59 #[.pointer (some ⟨b, 0, none⟩), .int .i64 n] w (DrawnBool b a l cap (m + 1) w) := by
  have H := Lib.hid h
  clear h
  go_enter Try.func59, Try.ntmps59
  go_wp2_with fail
  refine (curPick b a l cap m n _ hl (by omega) (by omega) H.out).mono ?_
  rintro e w1 ⟨r, rfl, hr, hI1, hg1⟩
  have I1 := Lib.hid hI1
  have G1 := Lib.hid hg1
  clear hI1 hg1 H
  go_wp2
  go_ret
  exact ⟨_, rfl, I1.out, G1.out⟩
end Go.Proofs.Ytmndkpicbmffnaa
end
