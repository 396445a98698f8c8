/- Records in the model. -/
import Derived.Test.YtkcplnmhonhmaaaRecP
import Derived.Test.YtkcplnmhonhmaaaWord
import Derived.Test.YtkcplnmhonhmaaaCmp
import Derived.Test.YtkcplnmhonhmaaaByteSU
import Derived.Deep.RegionHeld3
import Derived.Deep.RegionLaw
import Derived.Deep.DeepCutAuto
import Derived.Deep.CutBlock
import Derived.Test.YtkcplnmhonhmaaaApp
import Derived.Test.YtkcplnmhonhmaaaCopy
namespace Go.Proofs.Ytkcplnmhonhmaaa
open Go.RowKit
open Go.Lib (compareBytes)
set_option linter.unusedVariables false
set_option maxRecDepth 100000

set_option maxHeartbeats 1000000 in
theorem specEmpty (r : RecM) (w : World) : Calls Try.prog 40 #[.agg r.cells] w fun e w' => e = .returned (.bool (emptyB r)) ∧ Below w.heap.size w w' := by
  obtain ⟨lv, ds, wt, wd⟩ := r
  unfold RecM.cells
  go_enter Try.func40, Try.ntmps40
  go_wp2
  all_goals
    go_ret
    refine ⟨ret_bool ?_, below_box (Below.refl _ _) _⟩
  · exact (emptyB_no (by rintro ⟨h, _⟩; simp_all)).symm
  all_goals first
    | (symm; rename_i h1 h2 h3 h4; have := word_nil.1 h4; unfold emptyB; simp_all; done)
    | (refine (emptyB_no ?_).symm; rintro ⟨h1, h2, h3, h4⟩; simp_all; done)
set_option maxHeartbeats 2000000 in
theorem specRecOk (r : RecM) (w : World) (hs : r.word.size ≤ maxLen) : Calls Try.prog 14 #[.agg r.cells] w fun e w' => e = .returned (.bool (recOkB r)) ∧ Below w.heap.size w w' := by
  have EM := Lib.hid (fun w => specEmpty r w)
  have WO := Lib.hid (fun w => specWordOk r.word w hs)
  cases he : emptyB r
  · rw [he] at EM
    rw [recOkB_live he]
    by_cases hc : r.live = true ∧ (0 ≤ r.dist ∧ r.dist ≤ 7) ∧ (0 ≤ r.weight ∧ r.weight ≤ 65535)
    · rw [liveB_at hc]
      obtain ⟨lv, ds, wt, wd⟩ := r
      obtain ⟨h1, ⟨h2, h3⟩, h4, h5⟩ := hc
      simp only at h1 h2 h3 h4 h5
      subst h1
      clear he hs
      unfold RecM.cells at EM ⊢
      go_enter Try.func14, Try.ntmps14
      go_wp2_with fail
      refine (EM.out _).mono ?_
      rintro e w1 ⟨rfl, hb⟩
      have K := Lib.hid (kept_block (alloc_at w (.cells #[.bool true, .int .i64 ds, .int .i64 wt, .string wd] 25) _ rfl) hb)
      have HB := Lib.hid (below_seq (below_box (Below.refl w.heap.size w) (.cells #[.bool true, .int .i64 ds, .int .i64 wt, .string wd] 25)) hb)
      have c0 := cur_cell K.out 0
      have c1 := cur_cell K.out 1
      have c2 := cur_cell K.out 2
      have c3 := cur_cell K.out 3
      simp at c0 c1 c2 c3
      clear hb
      go_wp2_with fail
      refine (WO.out _).mono ?_
      rintro e w2 ⟨rfl, rfl⟩
      go_wp2
      go_ret
      exact ⟨rfl, HB.out⟩
    · rw [liveB_no hc]
      obtain ⟨lv, ds, wt, wd⟩ := r
      simp only at hc
      have HC := Lib.hid hc
      clear he hs hc
      unfold RecM.cells at EM ⊢
      go_enter Try.func14, Try.ntmps14
      go_wp2_with fail
      refine (EM.out _).mono ?_
      rintro e w1 ⟨rfl, hb⟩
      have K := Lib.hid (kept_block (alloc_at w (.cells #[.bool lv, .int .i64 ds, .int .i64 wt, .string wd] 25) _ rfl) hb)
      have HB := Lib.hid (below_seq (below_box (Below.refl w.heap.size w) (.cells #[.bool lv, .int .i64 ds, .int .i64 wt, .string wd] 25)) hb)
      have c0 := cur_cell K.out 0
      have c1 := cur_cell K.out 1
      have c2 := cur_cell K.out 2
      have c3 := cur_cell K.out 3
      simp at c0 c1 c2 c3
      clear hb
      go_wp2_with fail
      all_goals first
        | (go_ret; exact ⟨rfl, HB.out⟩)
        | (exfalso; apply HC.out; simp_all; omega)
        | (exfalso; apply HC.out; simp_all; done)
  · rw [he] at EM
    rw [recOkB_empty he]
    clear he hs
    unfold RecM.cells at EM ⊢
    go_enter Try.func14, Try.ntmps14
    go_wp2_with fail
    refine (EM.out _).mono ?_
    rintro e w1 ⟨rfl, hb⟩
    have HB := Lib.hid (below_seq (below_box (Below.refl w.heap.size w) (.cells #[.bool r.live, .int .i64 r.dist, .int .i64 r.weight, .string r.word] 25)) hb)
    clear hb
    go_wp2
    go_ret
    exact ⟨rfl, HB.out⟩
theorem ones_bv (l : List UInt8) : ∀ u ∈ l.map bval, u.oneCell' = true := fun u hu => by
  obtain ⟨z, _, rfl⟩ := List.mem_map.1 hu
  rfl
theorem lit_rowL (w : World) (vs : List Value) (t : TypeId) : Row (w.alloc (.cells ⟨vs⟩ t)) (some ⟨w.heap.size, 0, none⟩) vs := .inr ⟨_, 0, rfl, fun i hi => by simp⟩
theorem lit_own (w : World) (base : Nat) (vs : List Value) (t : TypeId) (hb : base ≤ w.heap.size) (hv : vs.length ≤ maxLen) : (w.alloc (.cells ⟨vs⟩ t)).ownsRow base t 1 (.slice (some ⟨w.heap.size, 0, none⟩) vs.length vs.length) vs.length vs :=
  ⟨by simp, .inr ⟨w.heap.size, vs.length, ⟨vs⟩, rfl, hb, heap_alloc_new w _, Nat.le_refl _, hv, by simp, by simp⟩⟩
theorem byte_of {k : Nat} (h : k < 256) : bval (UInt8.ofNat k) = .int .u8 (k : Int) := by
  unfold bval
  rw [UInt8.toNat_ofNat', Nat.mod_eq_of_lt h]
set_option maxHeartbeats 1000000 in
theorem specTwoR (n : Nat) (w : World) (hn : n ≤ 65535) : Calls Try.prog 48 #[.int .i64 n] w fun e w' => e = .returned (.slice (some ⟨w.heap.size, 0, none⟩) 2 2) ∧ Row w' (some ⟨w.heap.size, 0, none⟩) ([UInt8.ofNat (n / 256), UInt8.ofNat (n % 256)].map bval) ∧ Below w.heap.size w w' := by
  have h1 : (n : Int).tdiv 256 = ((n / 256 : Nat) : Int) := by rw [Int.tdiv_eq_ediv_of_nonneg (by omega)]; omega
  have h2 : (n : Int).tmod 256 = ((n % 256 : Nat) : Int) := by rw [Int.tmod_eq_emod_of_nonneg (by omega)]; omega
  have h3 : IntKind.u8.wrap ((n / 256 : Nat) : Int) = ((n / 256 : Nat) : Int) := IntWalk.u8_in _ (by omega)
  have h4 : IntKind.u8.wrap ((n % 256 : Nat) : Int) = ((n % 256 : Nat) : Int) := IntWalk.u8_in _ (by omega)
  have b1 := Lib.hid (byte_of (k := n / 256) (by omega))
  have b2 := Lib.hid (byte_of (k := n % 256) (by omega))
  go_enter Try.func48, Try.ntmps48
  have E : Hid ([UInt8.ofNat (n / 256), UInt8.ofNat (n % 256)].map bval = [.int .u8 ((n : Int) / 256), .int .u8 ((n : Int) % 256)]) := Lib.hid (by simp [b1.out, b2.out])
  go_wp2
  go_ret
  exact ⟨rfl, by rw [E.out]; exact lit_rowL w _ _, below_box (Below.refl _ _) _⟩
theorem head_vals {lv : Bool} {dn wn : Nat} (h1 : dn ≤ 7) (h2 : wn ≤ 65535) (wd : ByteArray) :
    (headR ⟨lv, dn, wn, wd⟩).map bval = [.int .u8 (if lv then 1 else 0), .int .u8 (dn : Int)] ++ [UInt8.ofNat (wn / 256), UInt8.ofNat (wn % 256)].map bval := by
  unfold headR
  have e : bval (UInt8.ofNat dn) = .int .u8 (dn : Int) := byte_of (by omega)
  cases lv <;> simp [e] <;> rfl
theorem ok_parts {r : RecM} (h : recOkB r = true) : ∃ dn wn : Nat, r.dist = dn ∧ r.weight = wn ∧ dn ≤ 7 ∧ wn ≤ 65535 ∧ r.word.size ≤ 32 := by
  rcases recOkB_cases h with rfl | h
  · exact ⟨0, 0, rfl, rfl, by omega, by omega, by decide⟩
  · obtain ⟨_, h2, h3, h4⟩ := liveB_ok h
    have := (word_len h4).2
    exact ⟨r.dist.toNat, r.weight.toNat, by omega, by omega, by omega, by omega, by simpa using this⟩
set_option maxHeartbeats 4000000 in
theorem specRecOfR (r : RecM) (w : World) (hs : r.word.size ≤ maxLen) : Calls Try.prog 24 #[.agg r.cells] w (ByteSRet (recOfL r) w) := by
  have RO := Lib.hid (fun w => specRecOk r w hs)
  cases ho : recOkB r
  · have e : recOfL r = [] := by unfold recOfL; simp [ho]
    rw [e]
    rw [ho] at RO
    clear ho e
    unfold RecM.cells at RO ⊢
    go_enter Try.func24, Try.ntmps24
    go_wp2_with fail
    refine (RO.out _).mono ?_
    rintro e w1 ⟨rfl, hb⟩
    have HB := Lib.hid (below_seq (below_box (Below.refl w.heap.size w) _) hb)
    clear hb
    go_wp2
    go_ret
    exact ⟨_, rfl, ⟨none, 0, rfl, ⟨rfl, .inl ⟨rfl, rfl⟩⟩, fun k hk => by simp [Value.ownBlock] at hk⟩, HB.out⟩
  · have e : recOfL r = bytesR r := by unfold recOfL; rw [if_pos ho]
    rw [e]
    rw [ho] at RO
    obtain ⟨dn, wn, hd, hw, d7, w16, s32⟩ := ok_parts ho
    obtain ⟨lv, ds, wt, wd⟩ := r
    simp only at hd hw s32
    subst hd hw
    have HV := Lib.hid (head_vals (lv := lv) d7 w16 wd)
    have TW := Lib.hid (fun w => specTwoR wn w w16)
    have PD := Lib.hid (fun w => specPad wd w hs)
    clear ho e
    unfold RecM.cells at RO ⊢
    unfold bytesR
    have hwd : IntKind.u8.wrap (dn : Int) = (dn : Int) := IntWalk.u8_in _ (by omega)
    go_enter Try.func24, Try.ntmps24
    go_wp2_with fail
    refine (RO.out _).mono ?_
    rintro e w1 ⟨rfl, hb⟩
    have K := Lib.hid (kept_block (alloc_at w (.cells #[.bool lv, .int .i64 dn, .int .i64 wn, .string wd] 25) _ rfl) hb)
    have HB := Lib.hid (below_seq (below_box (Below.refl w.heap.size w) (.cells #[.bool lv, .int .i64 dn, .int .i64 wn, .string wd] 25)) hb)
    have c0 := cur_cell K.out 0
    have c1 := cur_cell K.out 1
    simp at c0 c1
    clear hb
    have d0 : (w1.alloc (.cells #[.int .u8 0, .int .u8 (dn : Int)] 5)).cell? ⟨w.heap.size, 0, none⟩ = some (.bool lv) := cell_keep c0 (below_box (Below.refl _ w1) _)
    clear c0
    go_upto_if 12 with fail
    clear c1 d0
    go_cut [] (fun wx => Hid (wx.ownsRow w1.heap.size 5 1 (.slice (some ⟨w1.heap.size, 0, none⟩) 2 2) 2 [.int .u8 (if lv then 1 else 0), .int .u8 (dn : Int)] ∧ Below w1.heap.size w1 wx))
    case first =>
      have O0 := lit_own w1 w1.heap.size [.int .u8 0, .int .u8 (dn : Int)] 5 (Nat.le_refl _) (by unfold maxLen; simp)
      have BL := below_box (Below.refl w1.heap.size w1) (.cells #[.int .u8 0, .int .u8 (dn : Int)] 5)
      cases lv
      · have OO := Lib.hid (And.intro O0 BL)
        clear O0 BL
        go_wp2_with fail
        go_meet
        case rel => exact OO
      · have OO := Lib.hid (And.intro (lit_own w1 w1.heap.size [.int .u8 1, .int .u8 (dn : Int)] 5 (Nat.le_refl _) (by unfold maxLen; simp)) (below_box (Below.refl w1.heap.size w1) (.cells #[.int .u8 1, .int .u8 (dn : Int)] 5)))
        clear O0 BL
        go_wp2_with fail
        go_meet
        case rel => exact OO
    case rest =>
      have KB := Lib.hid (fun w' (hb : Below w1.heap.size w1 w') => (show w'.cell? ⟨w.heap.size, 2, none⟩ = some (.int .i64 wn) ∧ w'.cell? ⟨w.heap.size, 3, none⟩ = some (.string wd) from ⟨cur_cell (kept_block K.out hb) 2, cur_cell (kept_block K.out hb) 3⟩))
      have HC := Lib.hid hcut.out.2
      have OW := Lib.hid hcut.out.1
      have HD := Lib.hid (below_drew hcut.out.2)
      clear hcut K RO
      go_upto_region 6 with fail
      go_region_held3 (fun w' => w'.cell? ⟨w.heap.size, 2, none⟩ = some (.int .i64 wn) ∧ w'.cell? ⟨w.heap.size, 3, none⟩ = some (.string wd))
        (exact KB.out _ HD.out)
        (first
          | (go_at_call 48; refine (TW.out _).mono ?_; rintro e w2 ⟨rfl, hr, hb⟩; have hb0 := below_seq (below_drew (Below.refl wc.heap.size wc)) hb; have HD := Lib.hid (below_seq HC.out hb0); have O2 := Lib.hid (own_below OW.out hb0); have R2 := Lib.hid hr; clear hr hb hb0 TW)
          | (refine step_app_row (by rfl) _ _ 22 rfl 5 (.int .u8 0) 1 Try.underlying22 Try.info5 rfl w1.heap.size 2 (.slice (some ⟨w1.heap.size, 0, none⟩) 2 2) ([.int .u8 (if lv then 1 else 0), .int .u8 (dn : Int)] : List Value) (by rfl) O2.out (some ⟨wc.heap.size, 0, none⟩) 2 2 ([UInt8.ofNat (wn / 256), UInt8.ofNat (wn % 256)].map bval) (by rfl) (by simp) R2.out (ones_bv _) (by unfold maxLen; omega) (by omega) HD.out.size ?_; intro v3 w3 ho3 hg3; obtain ⟨a3, c3, rfl⟩ := own_shape ho3; have HD := Lib.hid (HD.out.grown hg3 HD.out.size (fun g hg => (O2.out.lt g hg).1)); have O3 := Lib.hid ho3; clear ho3 hg3 O2)
          | (go_at_call 49; refine (PD.out _).mono ?_; rintro e w4 ⟨rfl, hp, hb⟩; have HD := Lib.hid (below_seq HD.out hb); have O3 := Lib.hid (own_below O3.out hb); have R4 := Lib.hid (Row.of_own hp); clear hp hb PD)
          | (refine step_app_row (by rfl) _ _ 22 rfl 5 (.int .u8 0) 1 Try.underlying22 Try.info5 rfl w1.heap.size 4 (.slice a3 4 c3) (([.int .u8 (if lv then 1 else 0), .int .u8 (dn : Int)] : List Value) ++ ([UInt8.ofNat (wn / 256), UInt8.ofNat (wn % 256)].map bval)) (by rfl) O3.out (some ⟨w3.heap.size, 0, none⟩) 33 33 ((padL wd.data.toList).map bval) (by rfl) (by simp [padL_length]) R4.out (ones_bv _) (by unfold maxLen; omega) (by omega) HD.out.size ?_; intro v5 w5 ho5 hg5; obtain ⟨a5, c5, rfl⟩ := own_shape ho5; have HD := Lib.hid (HD.out.grown hg5 HD.out.size (fun g hg => (O3.out.lt g hg).1)); have O5 := Lib.hid ho5; clear ho5 hg5 O3))
      have O6 := Lib.hid (own_base O5.out HB.out.size)
      have E5 : Hid ((headR ⟨lv, (dn : Int), (wn : Int), wd⟩ ++ padL wd.data.toList).map bval = (([.int .u8 (if lv then 1 else 0), .int .u8 (dn : Int)] : List Value) ++ ([UInt8.ofNat (wn / 256), UInt8.ofNat (wn % 256)].map bval)) ++ (padL wd.data.toList).map bval) := Lib.hid (by rw [List.map_append, HV.out])
      have H5 := Lib.hid (below_seq HB.out HD.out)
      clear HD O5 HV
      go_wp2
      go_ret
      exact ⟨_, rfl, ByteSOwn.mk (by rw [E5.out]; exact O6.out), H5.out⟩
set_option maxHeartbeats 4000000 in
theorem specRecAheadR (a b : RecM) (w : World) (h1 : a.word.size ≤ maxLen) (h2 : b.word.size ≤ maxLen) : Calls Try.prog 19 #[.agg a.cells, .agg b.cells] w fun e w' => e = .returned (.bool (aheadB a b)) ∧ Below w.heap.size w w' := by
  have OA := Lib.hid (fun w => specRecOk a w h1)
  have OB := Lib.hid (fun w => specRecOk b w h2)
  have CM := Lib.hid (fun w => specWordCmp a.word b.word w h1)
  obtain ⟨la, da, ta, wa⟩ := a
  obtain ⟨lb, db, tb, wb⟩ := b
  clear h1 h2
  obtain ⟨w0, hw0⟩ : ∃ w0, w0 = (w.alloc (.cells #[.bool la, .int .i64 da, .int .i64 ta, .string wa] 25)).alloc (.cells #[.bool lb, .int .i64 db, .int .i64 tb, .string wb] 25) := ⟨_, rfl⟩
  have K1 := Lib.hid (show w0.heap[w.heap.size]? = some (.cells #[.bool la, .int .i64 da, .int .i64 ta, .string wa] 25 (0, 0)) by rw [hw0]; exact (alloc_old _ _ _ (by simp)).trans (alloc_at _ _ _ rfl))
  have K2 := Lib.hid (show w0.heap[w.heap.size + 1]? = some (.cells #[.bool lb, .int .i64 db, .int .i64 tb, .string wb] 25 (0, 0)) by rw [hw0]; exact alloc_at _ _ _ (by simp))
  have HB := Lib.hid (show Below w.heap.size w w0 by rw [hw0]; exact below_box (below_box (Below.refl _ w) _) _)
  unfold RecM.cells at OA OB ⊢
  unfold aheadB
  simp only at CM OA OB
  generalize recOkB ⟨la, da, ta, wa⟩ = oa at *
  generalize recOkB ⟨lb, db, tb, wb⟩ = ob at *
  simp only
  go_enter Try.func19, Try.ntmps19
  go_wp2_with fail
  rw [← hw0]
  clear hw0
  refine (OA.out _).mono ?_
  rintro e w1 ⟨rfl, hb⟩
  replace K1 := Lib.hid (kept_block K1.out hb)
  replace K2 := Lib.hid (kept_block K2.out hb)
  replace HB := Lib.hid (below_seq HB.out hb)
  clear hb OA
  cases oa
  · go_wp2
    all_goals (go_ret; exact ⟨rfl, HB.out⟩)
  · have c0 := cur_cell K2.out 0
    have c1 := cur_cell K2.out 1
    have c2 := cur_cell K2.out 2
    have c3 := cur_cell K2.out 3
    simp at c0 c1 c2 c3
    go_wp2_with fail
    clear c0 c1 c2 c3
    refine (OB.out _).mono ?_
    rintro e w2 ⟨rfl, hb⟩
    replace K1 := Lib.hid (kept_block K1.out hb)
    replace K2 := Lib.hid (kept_block K2.out hb)
    replace HB := Lib.hid (below_seq HB.out hb)
    clear hb OB
    have a0 := cur_cell K1.out 0
    have a1 := cur_cell K1.out 1
    have a2 := cur_cell K1.out 2
    have a3 := cur_cell K1.out 3
    have c0 := cur_cell K2.out 0
    have c1 := cur_cell K2.out 1
    have c2 := cur_cell K2.out 2
    have c3 := cur_cell K2.out 3
    simp at a0 a1 a2 a3 c0 c1 c2 c3
    cases ob
    · go_wp2
      all_goals (go_ret; exact ⟨rfl, HB.out⟩)
    · cases la
      · go_wp2
        all_goals (go_ret; exact ⟨rfl, HB.out⟩)
      · cases lb
        · go_wp2
          all_goals (go_ret; exact ⟨rfl, HB.out⟩)
        · by_cases hd : da = db
          · subst hd
            by_cases ht : ta = tb
            · subst ht
              have d1 : (da != da) = false := by simp
              have d2 : (ta != ta) = false := by simp
              go_wp2_with fail
              refine (CM.out _).mono ?_
              rintro e w3 ⟨rfl, nd, hw⟩
              have HB := Lib.hid (show Below w.heap.size w w3 by rw [hw]; exact below_seq HB.out (belowN nd))
              clear hw
              go_wp2
              all_goals (go_ret; exact ⟨ret_bool (by simp), HB.out⟩)
            · have d1 : (da != da) = false := by simp
              have d2 : (ta != tb) = true := by simp [ht]
              go_wp2
              all_goals (go_ret; exact ⟨ret_bool (by simp), HB.out⟩)
          · have d1 : (da != db) = true := by simp [hd]
            go_wp2
            all_goals (go_ret; exact ⟨ret_bool (by simp), HB.out⟩)
end Go.Proofs.Ytkcplnmhonhmaaa
