/- BytesOf, WNb, TrH in one. Written by tools/join2.py. -/
import Derived.Test.YtmndkpicbmffnaaJN13
import Derived.Test.YtmndkpicbmffnaaJN7
import Derived.Deep.DeepMust
import Derived.Test.YtmndkpicbmffnaaJN1
import Derived.Test.YtmndkpicbmffnaaJN3
import Derived.Test.YtmndkpicbmffnaaJN29
import Derived.Test.YtmndkpicbmffnaaJN38
import Derived.Test.YtmndkpicbmffnaaJN39
import Derived.Deep.RegionHeld3
import Derived.Deep.DeepCutAuto
import Derived.Deep.LoopGhost
import Derived.Test.YtmndkpicbmffnaaJN18
section
namespace Go.Proofs.Ytmndkpicbmffnaa
open Go.RowKit
set_option linter.unusedVariables false
theorem ones_bval (l : List UInt8) : ∀ u ∈ l.map bval, u.oneCell' = true := by
  intro u hu
  obtain ⟨c, _, rfl⟩ := List.mem_map.1 hu
  rfl
/-- A copy in memory of its own. -/
def CopyRet (l : List UInt8) (w : World) (e : Ending) (w' : World) : Prop := ∃ c, e = .returned c ∧ ByteSOwn w.heap.size w'.heap.size [c] l w' ∧ Below w.heap.size w w'
set_option maxHeartbeats 800000 in
theorem uBytesOf (c : Value) (l : List UInt8) (w : World) (hl : l.length ≤ 1000000) (h : ByteSIn [c] l w) : Calls Try.prog 15 #[c] w (CopyRet l w) := by
  obtain ⟨a, cap, rfl, _, _, r⟩ := byteSIn_shape h
  have R := Lib.hid (r.below ((Below.refl _ _).alloc (Nat.le_refl _) (.cells #[] 5)))
  clear r h
  go_enter Try.func15, Try.ntmps15
  go_wp2_with (at_builtin; go_must (refine wp_app_row rfl _ _ 22 rfl 5 (.int .u8 0) 1 Try.underlying22 Try.info5 rfl w.heap.size 0 _ [] (by rfl) (World.ownsRow_made w #[] 0 (Nat.le_refl _) (by unfold maxLen; omega) rfl) a l.length cap (l.map bval) (by rfl) (by simp) R.out (ones_bval l) (by unfold maxLen; omega) (by omega) (by simp) ?_); intro v' w2 hown hgr)
  rw [Nat.zero_add, List.nil_append] at hown
  obtain ⟨a', c', rfl⟩ := own_shape hown
  have OO := Lib.hid (ByteSOwn.mk hown)
  have BB := Lib.hid (below_write (below_box (Below.refl _ w) (.cells #[] 5)) hgr (Nat.le_refl _))
  clear hown hgr
  go_wp2
  go_ret
  exact ⟨_, rfl, OO.out, BB.out⟩
end Go.Proofs.Ytmndkpicbmffnaa
end

section
namespace Go.Proofs.Ytmndkpicbmffnaa.fnNodeBack
open Go.ChangeShapes Go.WideShapes Go.ChangeAt Go.RowKit
open Go.ChangeMaps (open_string shut_string)
set_option linter.unusedVariables false
set_option linter.unusedSimpArgs false

set_option maxRecDepth 100000 in
set_option maxHeartbeats 1000000 in
theorem walk0 (I : Impl12) (a0 : Option Addr) (len0 cap0 : Nat) (z0 : List Int) (w : World) (w0 : IsRow .u8 w a0 len0 cap0 z0) :
    Calls Try.prog 3 #[.slice a0 len0 cap0] w fun e w' => e = .returned (.bool true) ∧ Below w.heap.size w w' := by
  obtain ⟨l, hl, hcap, hmax, hr⟩ := row_of_isRow w0
  clear w0
  subst hl
  have R := Lib.hid hr
  clear hr
  have hm : l.length ≤ maxLen := Nat.le_trans hcap hmax
  by_cases hbig : 1048576 < l.length
  · have hB : decide (1048576 < l.length) = true := by simp [hbig]
    go_enter Try.func3, Try.ntmps3
    go_wp2_with fail
    refine (bigIs a0 l.length cap0 _ hm).mono ?_
    rintro e w1 ⟨rfl, rfl⟩
    rw [hB]
    go_wp2
    go_ret
    exact ⟨rfl, Below.refl _ _⟩
  have hB : decide (1048576 < l.length) = false := by simp; omega
  have hl2 : l.length ≤ 1048576 := by omega
  go_enter Try.func3, Try.ntmps3
  go_wp2_with fail
  refine (bigIs a0 l.length cap0 _ hm).mono ?_
  rintro e w1 ⟨rfl, rfl⟩
  rw [hB]
  clear hB
  go_wp2_with fail
  refine (drawNodeOf a0 l cap0 w hl2 R.out).mono ?_
  rintro e w1 ⟨c, t, x, y, rfl, ho, _, hlen, hx, hy, hb⟩
  obtain ⟨ac, nc, capc, rfl⟩ := ho.shape
  have bx := below_box (Below.refl w1.heap.size w1) (.cells #[.slice ac nc capc] 26)
  have N0 := Lib.hid ((ho.lies (Nat.le_refl _)).below bx).now
  have K0 := Lib.hid (alloc_at w1 (.cells #[.slice ac nc capc] 26) _ rfl)
  have B0 := Lib.hid (below_seq hb bx)
  have BX := Lib.hid hx
  have BY := Lib.hid hy
  have hsz : (w1.alloc (.cells #[.slice ac nc capc] 26)).heap.size = w1.heap.size + 1 := by simp
  clear hb R ho hx hy bx
  go_wp2_with fail
  obtain ⟨P, hP⟩ : ∃ P, P = w1.alloc (.cells #[.slice ac nc capc] 26) := ⟨_, rfl⟩
  rw [← hP] at N0 K0 B0 hsz ⊢
  obtain ⟨T, hT⟩ : ∃ T, w1.heap.size = T := ⟨_, rfl⟩
  rw [hT] at K0 hsz N0 ⊢
  clear hP hT
  refine (I.of _ t x y P N0.out.read BX.out BY.out).mono ?_
  rintro e w2 ⟨cd, rfl, hd, hb⟩
  have N2 := Lib.hid ((N0.out.lies (by omega)).below hb).now
  have K2 := Lib.hid (kept_block K0.out hb)
  have B2 := Lib.hid (below_seq B0.out hb)
  have hszb := hb.size
  obtain ⟨ad, capd, rfl, _⟩ := byteSIn_shape hd.read
  have D2 := Lib.hid (hd.lies (Nat.le_refl _))
  have hT2 : T < w2.heap.size := by omega
  have k2 := cur_cell K2.out 0
  simp at k2
  have OK := Lib.hid (uSpecNodeOk _ t x y w2 N2.out.read)
  have hbd := nodeOfL_bd t x y
  clear hd hb N0 K0 B0 hszb hsz
  cases hq : nodeOkB t x y
  · rw [hq] at OK
    rw [nodeOfL_no hq]
    clear hq hbd
    go_wp2_with fail
    refine OK.out.mono ?_
    rintro e w3 ⟨rfl, hb⟩
    have B3 := Lib.hid (below_seq B2.out hb)
    clear hb OK N2 D2 K2 B2 k2
    go_wp2
    go_ret
    exact ⟨rfl, B3.out⟩
  · have NB := Lib.hid (node_back hq)
    have NL := Lib.hid (node_len hq)
    rw [hq] at OK
    clear hq
    obtain ⟨d, hd⟩ : ∃ d, nodeOfL t x y = d := ⟨_, rfl⟩
    rw [hd] at NB NL D2 hbd ⊢
    clear hd
    go_wp2_with fail
    refine OK.out.mono ?_
    rintro e w3 ⟨rfl, hb⟩
    have N3 := Lib.hid ((N2.out.lies (by omega)).below hb).now
    have K3 := Lib.hid (kept_block K2.out hb)
    have B3 := Lib.hid (below_seq B2.out hb)
    have D3 := Lib.hid (D2.out.below hb).now
    have hs3 := hb.size
    clear hb OK N2 D2 K2 B2 k2
    go_wp2_with fail
    refine (uBytesOf _ d w3 (by omega) D3.out.read).mono ?_
    rintro e w4 ⟨cb, rfl, hc, hb⟩
    have N4 := Lib.hid ((N3.out.lies (by omega)).below hb).now
    have K4 := Lib.hid (kept_block K3.out hb)
    have B4 := Lib.hid (below_seq B3.out hb)
    have IR := Lib.hid (I.read cb d x y w4 hc.read BX.out BY.out)
    rw [NB.out.1, NB.out.2] at IR
    have hs4 := hb.size
    clear hb hc N3 K3 B3 D3 NB
    go_wp2_with fail
    refine IR.out.mono ?_
    rintro e w5 ⟨c0, rfl, ho, hb⟩
    obtain ⟨a5, n5, cap5, rfl⟩ := ho.shape
    have bx := below_box (Below.refl w5.heap.size w5) (.cells #[.slice a5 n5 cap5] 26)
    have bb := below_seq hb bx
    have hs5 := hb.size
    have SB := Lib.hid (uSameBlocks _ _ _ _ _ _ t (w5.alloc (.cells #[.slice a5 n5 cap5] 26)) ((ho.lies (Nat.le_refl _)).below bx).now ((N4.out.lies (by omega)).below bb).now)
    have k5 := cur_cell (kept_block K4.out bb) 0
    simp at k5
    have j5 := cur_cell (alloc_at w5 (.cells #[.slice a5 n5 cap5] 26) _ rfl) 0
    simp at j5
    have B5 := Lib.hid (below_seq B4.out bb)
    clear hb bb bx ho N4 K4 B4 IR
    go_wp2_with fail
    refine SB.out.mono ?_
    rintro e w6 ⟨rfl, hb⟩
    have B6 := Lib.hid (below_seq B5.out hb)
    have IS := Lib.hid (I.size y w6 BY.out)
    rw [← NL.out.2] at IS
    clear hb B5 SB k5 j5
    go_wp2_with fail
    refine IS.out.mono ?_
    rintro e w7 ⟨rfl, hb⟩
    have B7 := Lib.hid (below_seq B6.out hb)
    have IO := Lib.hid (I.of (.slice none 0 0) [] x y w7 (BlockSOwn.nil 0 0 w7).read BX.out BY.out)
    clear hb B6 IS
    go_wp2_with fail
    refine IO.out.mono ?_
    rintro e w8 ⟨cn, rfl, hn, hb⟩
    obtain ⟨an, capn, rfl, _⟩ := byteSIn_shape hn.read
    have B8 := Lib.hid (below_seq B7.out hb)
    rw [← NL.out.1]
    clear hb hn B7 IO
    go_wp2
    go_ret
    exact ⟨rfl, B8.out⟩
end Go.Proofs.Ytmndkpicbmffnaa.fnNodeBack
end

section
namespace Go.Proofs.Ytmndkpicbmffnaa
open Go.RowKit
set_option linter.unusedVariables false

def i64T (z : Int) : Prop := -9223372036854775808 ≤ z ∧ z ≤ 9223372036854775807
end Go.Proofs.Ytmndkpicbmffnaa
end
