/- Records in the program: RecOf, RecRead, RecPair, RecsOk. -/
import Derived.Test.YtkcplnmhonhmaaaRecI
import Derived.Test.YtkcplnmhonhmaaaRecR
import Derived.Test.YtkcplnmhonhmaaaCopyP
namespace Go.Proofs.Ytkcplnmhonhmaaa
open Go.RowKit
open Go.Lib (compareBytes)
set_option linter.unusedVariables false
set_option maxRecDepth 100000

set_option maxHeartbeats 4000000 in
theorem implRecOfR (r : RecM) (w : World) (hs : r.word.size ≤ maxLen) : Calls Try.prog 13 #[.agg r.cells] w (ByteSRet (recOfL r) w) := by
  have RO := Lib.hid (fun w => implRecOk r w hs)
  cases ho : recOkB r
  · have e : recOfL r = [] := by unfold recOfL; simp [ho]
    rw [e]
    rw [ho] at RO
    clear ho e
    unfold RecM.cells at RO ⊢
    go_enter Try.func13, Try.ntmps13
    go_wp2_with fail
    refine (RO.out _).mono ?_
    rintro e w1 ⟨rfl, hb⟩
    have HB := Lib.hid (below_seq (below_box (Below.refl w.heap.size w) _) hb)
    clear hb
    go_wp2
    go_ret
    exact ⟨_, rfl, ⟨none, 0, rfl, ⟨rfl, .inl ⟨rfl, rfl⟩⟩, fun k hk => by simp [Value.ownBlock] at hk⟩, HB.out⟩
  · have e : recOfL r = bytesR r := by unfold recOfL; rw [if_pos ho]
    rw [e]
    rw [ho] at RO
    obtain ⟨dn, wn, hd, hw, d7, w16, s32⟩ := ok_parts ho
    obtain ⟨lv, ds, wt, wd⟩ := r
    simp only at hd hw s32
    subst hd hw
    have PD := Lib.hid (fun w => implPad wd w hs)
    clear ho e
    unfold RecM.cells at RO ⊢
    unfold bytesR
    have hwd : IntKind.u8.wrap (dn : Int) = (dn : Int) := IntWalk.u8_in _ (by omega)
    obtain ⟨i0, hi, hz0, hz1, hz2⟩ := info_parts Try.info5
    have HV := Lib.hid (head_vals (lv := lv) d7 w16 wd)
    have B1 := Lib.hid (byte_of (k := wn / 256) (by omega))
    have B2 := Lib.hid (byte_of (k := wn % 256) (by omega))
    go_enter Try.func13, Try.ntmps13
    go_wp2_with fail
    refine (RO.out _).mono ?_
    rintro e w1 ⟨rfl, hb⟩
    have K := Lib.hid (kept_block (alloc_at w (.cells #[.bool lv, .int .i64 dn, .int .i64 wn, .string wd] 25) _ rfl) hb)
    have HB := Lib.hid (below_seq (below_box (Below.refl w.heap.size w) (.cells #[.bool lv, .int .i64 dn, .int .i64 wn, .string wd] 25)) hb)
    have ne : ¬ w.heap.size = w1.heap.size := by have := cur_lt K.out; omega
    clear hb RO
    go_wp2_with (at_make; refine wpList_make_full _ rfl _ _ 22 rfl w1.heap.size 5 i0 (.int .u8 0) 1 Try.underlying22 hi hz0 hz1 .i64 .i64 _ _ 37 rfl rfl rfl rfl (by rw [hz2]; decide) (by unfold maxLen; decide) (Nat.le_refl _) ?_)
    clear hi hz0 hz1 hz2
    intro w2 hown hgr
    have hb1 : Below w1.heap.size w1 w2 := grown_below hgr
    have c0 := cur_cell (kept_block K.out hb1) 0
    simp at c0
    rw [toList_madeCells_one] at hown
    clear hgr
    go_upto_if 9 with fail
    go_cut [] (fun wx => Hid (wx.ownsRow w1.heap.size 5 1 (.slice (some ⟨w1.heap.size, 0, none⟩) 37 37) 37 (.int .u8 (if lv then 1 else 0) :: List.replicate 36 (.int .u8 0)) ∧ Below w1.heap.size w1 wx))
    case first =>
      cases lv
      · have OO := Lib.hid (And.intro (show w2.ownsRow w1.heap.size 5 1 (.slice (some ⟨w1.heap.size, 0, none⟩) 37 37) 37 (.int .u8 0 :: List.replicate 36 (.int .u8 0)) from hown) hb1)
        clear hown hb1
        go_wp2_with fail
        go_meet
        case rel => exact OO
      · have f0 := hown.frozenAt 0
        have q0 := hown.cellAt 0 (by decide)
        simp at q0
        have st := hown.stored 0 (.int .u8 1)
        have OO := Lib.hid (And.intro (show (w2.setCell ⟨w1.heap.size, 0, none⟩ (.int .u8 1)).ownsRow w1.heap.size 5 1 (.slice (some ⟨w1.heap.size, 0, none⟩) 37 37) 37 (.int .u8 1 :: List.replicate 36 (.int .u8 0)) from st.1) (hb1.setCell (p := ⟨w1.heap.size, 0, none⟩) (Nat.le_refl _) (.int .u8 1)))
        clear hown hb1 st
        go_wp2_with fail
        go_meet
        case rel => exact OO
    case rest =>
      have OW := Lib.hid hcut.out.1
      have HC := Lib.hid hcut.out.2
      clear hcut hown hb1 c0
      have KC := kept_block K.out HC.out
      have c1 := cur_cell KC 1
      have c2 := cur_cell KC 2
      simp at c1 c2
      have f1 := OW.out.frozenAt 1
      have f2 := OW.out.frozenAt 2
      have f3 := OW.out.frozenAt 3
      have q1 := OW.out.cellAt 1 (by decide)
      have q2 := OW.out.cellAt 2 (by decide)
      have q3 := OW.out.cellAt 3 (by decide)
      simp at q1 q2 q3
      obtain ⟨W3, hW3⟩ : ∃ W3, W3 = ((wc.setCell ⟨w1.heap.size, 1, none⟩ (.int .u8 dn)).setCell ⟨w1.heap.size, 2, none⟩ (.int .u8 ((wn : Int) / 256))).setCell ⟨w1.heap.size, 3, none⟩ (.int .u8 ((wn : Int) % 256)) := ⟨_, rfl⟩
      have O3 := Lib.hid (show W3.ownsRow w1.heap.size 5 1 (.slice (some ⟨w1.heap.size, 0, none⟩) 37 37) 37 (((((.int .u8 (if lv then 1 else 0) : Value) :: List.replicate 36 (.int .u8 0)).set 1 (.int .u8 dn)).set 2 (.int .u8 ((wn : Int) / 256))).set 3 (.int .u8 ((wn : Int) % 256))) by rw [hW3]; exact (((OW.out.stored 1 _).1.stored 2 _).1.stored 3 _).1)
      have H3 := Lib.hid (show Below w1.heap.size w1 W3 by rw [hW3]; exact ((HC.out.setCell (p := ⟨w1.heap.size, 1, none⟩) (Nat.le_refl _) _).setCell (p := ⟨w1.heap.size, 2, none⟩) (Nat.le_refl _) _).setCell (p := ⟨w1.heap.size, 3, none⟩) (Nat.le_refl _) _)
      clear KC OW HC
      go_upto_region 9 with fail
      rw [← hW3]
      clear hW3 c1 c2 f1 f2 f3 q1 q2 q3
      have d3 : W3.cell? ⟨w.heap.size, 3, none⟩ = some (.string wd) := cur_cell (kept_block K.out H3.out) 3
      have HD := Lib.hid (below_drew (Below.refl W3.heap.size W3))
      go_region_law (first
        | (refine step_callW W3.drew rfl (by rfl) 39 _ _ rfl _ (by kernel_rfl) Try.call39 _ (PD.out _) ?_; rintro e w4 ⟨rfl, hp, hb⟩; refine ⟨_, rfl, ?_⟩; have HD := Lib.hid (below_seq HD.out hb); have O4 := Lib.hid (own_below O3.out HD.out); have R4 := Lib.hid hp; clear hp hb PD; obtain ⟨w5, hcp, hown5, hg5⟩ := copy_part (P := Try.prog) (dT := 22) (sT := 22) Try.underlying22 (by kernel_rfl) O4.out 4 33 33 (by omega) _ 0 33 33 ((padL wd.data.toList).map bval) (by simp [padL_length]) (fun i hi => own_cells R4.out (by simp [padL_length]) i (by simpa using hi)) (ones_bv _); have CP := Lib.hid hcp; have O5 := Lib.hid hown5; have H5 := Lib.hid (below_write (below_seq H3.out HD.out) hg5 (Nat.le_refl _)); clear hcp hown5 hg5)
        | (refine step_copy_run (by rfl) _ _ _ _ (by rfl) _ _ _ _ (by rfl) (by rfl) CP.out ?_))
      all_goals
        have E5 : Hid ((headR ⟨lv, (dn : Int), (wn : Int), wd⟩ ++ padL wd.data.toList).map bval = List.take 4 (((((.int .u8 (if lv then 1 else 0) : Value) :: List.replicate 36 (.int .u8 0)).set 1 (.int .u8 dn)).set 2 (.int .u8 ((wn : Int) / 256))).set 3 (.int .u8 ((wn : Int) % 256))) ++ ((padL wd.data.toList).map bval ++ List.drop (4 + ((padL wd.data.toList).map bval).length) (((((.int .u8 (if lv then 1 else 0) : Value) :: List.replicate 36 (.int .u8 0)).set 1 (.int .u8 dn)).set 2 (.int .u8 ((wn : Int) / 256))).set 3 (.int .u8 ((wn : Int) % 256))))) := Lib.hid (by
          rw [List.map_append, HV.out, List.length_map, padL_length, List.map_cons, List.map_cons, B1.out, B2.out]
          have e1 : ((wn / 256 : Nat) : Int) = (wn : Int) / 256 := by omega
          have e2 : ((wn % 256 : Nat) : Int) = (wn : Int) % 256 := by omega
          rw [e1, e2]
          rw [List.drop_of_length_le (by simp)]
          simp)
        clear HV B1 B2 O3 O4 R4 K
        go_wp2
        go_ret
        exact ⟨_, rfl, ByteSOwn.mk (by rw [E5.out]; exact own_base O5.out HB.out.size), below_seq HB.out H5.out⟩
end Go.Proofs.Ytkcplnmhonhmaaa
