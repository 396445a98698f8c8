/- FnRecBack: the walk. -/
import Derived.Test.YtkcplnmhonhmaaaBase
import Derived.Test.YtkcplnmhonhmaaaRecB
import Derived.Test.YtkcplnmhonhmaaaRecQ
import Derived.Test.YtkcplnmhonhmaaaRecK
import Derived.Test.YtkcplnmhonhmaaaBytesOf
namespace Go.Proofs.Ytkcplnmhonhmaaa.fnRecBack
open Go.ChangeShapes Go.WideShapes Go.ChangeAt Go.RowKit
open Go.ChangeMaps (open_string shut_string)
set_option linter.unusedVariables false

set_option maxRecDepth 100000 in
set_option maxHeartbeats 4000000 in
theorem walk (a0 : Option Addr) (len0 cap0 : Nat) (z0 : List Int) (w : World) (w0 : IsRow .u8 w a0 len0 cap0 z0) :
    Calls Try.prog 3 #[.slice a0 len0 cap0] w fun e w' => e = .returned (.bool true) ∧ Below w.heap.size w w' := by
  obtain ⟨l, hl, hcap, hmax, hr⟩ := row_of_isRow w0
  clear w0
  subst hl
  have R := Lib.hid hr
  clear hr
  have hm : l.length ≤ maxLen := Nat.le_trans hcap hmax
  by_cases hbig : 1048576 < l.length
  · have hB : decide (1048576 < l.length) = true := by simp [hbig]
    go_enter Try.func3, Try.ntmps3
    go_wp2_with fail
    refine (bigIs a0 l.length cap0 _ hm).mono ?_
    rintro e w1 ⟨rfl, rfl⟩
    rw [hB]
    go_wp2
    go_ret
    exact ⟨rfl, Below.refl _ _⟩
  have hB : decide (1048576 < l.length) = false := by simp; omega
  have hl2 : l.length ≤ 1048576 := by omega
  go_enter Try.func3, Try.ntmps3
  go_wp2_with fail
  refine (bigIs a0 l.length cap0 _ hm).mono ?_
  rintro e w1 ⟨rfl, rfl⟩
  rw [hB]
  clear hB
  go_wp2_with fail
  refine (drawRec a0 l cap0 w hl2 R.out).mono ?_
  rintro e w1 ⟨r, rfl, hrb, hb⟩
  have RF := Lib.hid (fun w => implRecOfR r w hrb.2.2)
  have RO := Lib.hid (fun w => specRecOk r w hrb.2.2)
  have BK := Lib.hid (rec_back (r := r))
  have RD := Lib.hid (fun (c : Value) (w : World) h => uImplRecRead c (recOfL r) w h)
  have RBO := Lib.hid (fun (c : Value) (w : World) (hl : (recOfL r).length ≤ 1000000) h => uBytesOf c (recOfL r) w hl h)
  have RE := Lib.hid (show recOkB r = false → (recOfL r).length = 0 from fun h => by unfold recOfL; simp [h])
  have RT := Lib.hid (show recOkB r = true → (recOfL r).length = 37 from fun h => by unfold recOfL; rw [if_pos h, bytesR_length])
  unfold RecM.cells at RF RO
  obtain ⟨lv, ds, wt, wd⟩ := r
  simp only at RF RO ⊢
  generalize recOkB ⟨lv, ds, wt, wd⟩ = ok at *
  generalize recOfL ⟨lv, ds, wt, wd⟩ = bs at *
  obtain ⟨W1, hW1⟩ : ∃ W1, W1 = w1.alloc (.cells #[.bool lv, .int .i64 ds, .int .i64 wt, .string wd] 25) := ⟨_, rfl⟩
  have B1 := Lib.hid (show Below w.heap.size w W1 by rw [hW1]; exact below_box hb _)
  have K1 := Lib.hid (show W1.heap[w1.heap.size]? = some (.cells #[.bool lv, .int .i64 ds, .int .i64 wt, .string wd] 25 (0, 0)) by rw [hW1]; exact alloc_at _ _ _ rfl)
  clear hb hrb R
  go_wp2_with fail
  rw [← hW1]
  clear hW1
  refine (RF.out _).mono ?_
  rintro e w2 ⟨c2, rfl, ho, hb⟩
  have hin := ho.read
  obtain ⟨a2, k2, rfl, h2c, h2m, _⟩ := byteSIn_shape hin
  have A2 := Lib.hid (ho.lies (Nat.le_refl _))
  replace B1 := Lib.hid (below_seq B1.out hb)
  replace K1 := Lib.hid (kept_block K1.out hb)
  clear ho hb hin RF
  generalize w1.heap.size = T at *
  have c0 := cur_cell K1.out 0
  have c1 := cur_cell K1.out 1
  have c2 := cur_cell K1.out 2
  have c3 := cur_cell K1.out 3
  simp at c0 c1 c2 c3
  go_wp2_with fail
  clear c0 c1 c2 c3
  refine (RO.out _).mono ?_
  rintro e w3 ⟨rfl, hb⟩
  replace A2 := Lib.hid (A2.out.below hb)
  replace B1 := Lib.hid (below_seq B1.out hb)
  replace K1 := Lib.hid (kept_block K1.out hb)
  clear hb RO
  cases ok
  · have E := Lib.hid (RE.out rfl)
    have hE : ((bs.length : Int) == 0) = true := by rw [E.out]; rfl
    clear RE RT BK
    go_wp2
    go_ret
    exact ⟨rfl, B1.out⟩
  · have E := Lib.hid (RT.out rfl)
    obtain ⟨k1, k3⟩ := BK.out rfl
    have HK := Lib.hid k1
    have HM := Lib.hid k3
    clear RE RT BK k1 k3
    go_wp2_with fail
    refine (RBO.out _ _ (by rw [E.out]; decide) A2.out.now.read).mono ?_
    rintro e w4 ⟨c4, rfl, ho, hb⟩
    have A4 := Lib.hid ho.read
    replace B1 := Lib.hid (below_seq B1.out hb)
    replace K1 := Lib.hid (kept_block K1.out hb)
    clear ho hb RBO
    go_wp2_with fail
    refine (RD.out _ _ A4.out).mono ?_
    rintro e w5 ⟨d0, d1, d2, d3, rfl, hd, hb⟩
    rw [HM.out] at hd
    obtain ⟨rfl, rfl, rfl, rfl⟩ := recIn_cells hd.read
    rw [HK.out]
    replace B1 := Lib.hid (below_box (below_seq B1.out hb) (.cells #[.bool lv, .int .i64 ds, .int .i64 wt, .string wd] 25))
    replace K1 := Lib.hid (kept_block (kept_block K1.out hb) (below_box (Below.refl _ w5) (.cells #[.bool lv, .int .i64 ds, .int .i64 wt, .string wd] 25)))
    have c0 := cur_cell K1.out 0
    have c1 := cur_cell K1.out 1
    have c2 := cur_cell K1.out 2
    have c3 := cur_cell K1.out 3
    simp at c0 c1 c2 c3
    have hE : ((bs.length : Int) == 37) = true := by rw [E.out]; rfl
    clear hd hb RD A4
    go_wp2
    go_ret
    exact ⟨rfl, B1.out⟩
end Go.Proofs.Ytkcplnmhonhmaaa.fnRecBack
