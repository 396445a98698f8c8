/- MemNew: what the model and the program answer. -/
import Derived.Test.YticfnhbjoaecjaaDoorMemB
import Derived.Test.YticfnhbjoaecjaaDoorMemP
import Derived.Test.YticfnhbjoaecjaaDoorMemOI
namespace Go.Proofs.YticfnhbjoaecjaaDoor
open Go.RowKit
set_option linter.unusedVariables false
set_option maxRecDepth 100000

def newB (n z : Int) : Bool := decide (0 ≤ n) && decide (n ≤ 128) && sizeB z
def memNewM (n z : Int) : MemM := if newB n z then ⟨z, List.replicate n.toNat (zeros z.toNat), []⟩ else ⟨0, [], []⟩
theorem new_no {n z : Int} (h : newB n z = false) : memNewM n z = ⟨0, [], []⟩ := by unfold memNewM; rw [h]; rfl
theorem new_yes {n z : Int} (h : newB n z = true) : memNewM n z = ⟨z, List.replicate n.toNat (zeros z.toNat), []⟩ := by unfold memNewM; rw [h]; rfl
theorem newB_of {n z : Int} (h : newB n z = true) : 0 ≤ n ∧ n ≤ 128 ∧ 1 ≤ z ∧ z ≤ 1000 := by
  unfold newB sizeB at h; simp only [Bool.and_eq_true, decide_eq_true_eq] at h; omega
theorem newB_is {n z : Int} (h : 0 ≤ n ∧ n ≤ 128 ∧ 1 ≤ z ∧ z ≤ 1000) : newB n z = true := by
  unfold newB sizeB; simp only [Bool.and_eq_true, decide_eq_true_eq]; omega
theorem newB_not {n z : Int} (h : ¬ (0 ≤ n ∧ n ≤ 128 ∧ 1 ≤ z ∧ z ≤ 1000)) : newB n z = false := by
  cases e : newB n z
  · rfl
  · exact absurd (newB_of e) h
theorem sumL_rep (n m : Nat) : sumL (List.replicate n (zeros m)) = n * m := by
  induction n with
  | zero => simp [sumL]
  | succ n ih => rw [List.replicate_succ, show zeros m :: List.replicate n (zeros m) = [zeros m] ++ List.replicate n (zeros m) from rfl, sumL_app, ih, sumL_one, zeros_len, Nat.succ_mul]; omega
theorem memNewM_bd (n z : Int) : mcMem (memNewM n z) ≤ 1000000000000 := by
  cases e : newB n z
  · rw [new_no e]; simp [mcMem, sumL]
  · rw [new_yes e]
    have h := newB_of e
    unfold mcMem
    simp only [sumL_rep, List.length_nil]
    have := Nat.mul_le_mul (show n.toNat ≤ 128 by omega) (show z.toNat ≤ 1000 by omega)
    omega
set_option maxHeartbeats 2000000 in
theorem uImplMemNew (n z : Int) (w : World) (b0 : -9223372036854775808 ≤ n ∧ n ≤ 9223372036854775807) (b1 : -9223372036854775808 ≤ z ∧ z ≤ 9223372036854775807) : Calls Tryd.prog 6 #[.int .i64 n, .int .i64 z] w (MemRet (memNewM n z) w) := by
  by_cases hg : 0 ≤ n ∧ n ≤ 128 ∧ 1 ≤ z ∧ z ≤ 1000
  · have HN := Lib.hid (new_yes (newB_is hg))
    obtain ⟨g1, g2, g3, g4⟩ := hg
    have HZ := Lib.hid (size_yes (by omega : ¬ z < 1) (by omega))
    obtain ⟨nn, rfl⟩ : ∃ nn : Nat, n = nn := ⟨n.toNat, by omega⟩
    obtain ⟨zz, rfl⟩ : ∃ zz : Nat, z = zz := ⟨z.toNat, by omega⟩
    obtain ⟨i0, hi, hz0, hz1, hz2⟩ := info_parts Tryd.info5
    have HI := Lib.hid (And.intro hi (And.intro hz0 (And.intro hz1 hz2)))
    clear hi hz0 hz1 hz2
    obtain ⟨i1, hi, hz0, hz1, hz2⟩ := info_parts Tryd.infoCell
    go_enter Tryd.func6, Tryd.ntmps6
    go_wp2_with fail
    refine (implCellSizeOk _ _).mono ?_
    rintro e w0 ⟨rfl, rfl⟩
    rw [HZ.out]
    go_wp2_with (at_make; refine wpList_make_full _ rfl _ _ 25 rfl (w.heap.size + 1) 43 i1 _ 1 Tryd.underlying25 hi hz0 hz1 .i64 .i64 _ _ nn rfl rfl rfl rfl (by rw [hz2]; omega) (by unfold maxLen; omega) (by simp) ?_)
    clear hi hz0 hz1 hz2
    intro w1 hown hgr
    have hb1 := grown_below hgr
    have hown' : w1.ownsRow (w.heap.size + 1) 43 1 (.slice (some ⟨w.heap.size + 1, 0, none⟩) nn nn) nn (List.replicate nn (.slice none 0 0)) := by
      rw [← toList_madeCells_one]; simpa using hown
    have hr1 : w1.heap[w.heap.size]? = some (.cells #[.int .i64 0, .slice none 0 0, .slice none 0 0] 28 (0, 0)) := kept_block (alloc_at w _ _ rfl) hb1
    have hb2 : Below w.heap.size w w1 := below_seq (below_box (Below.refl _ _) _) hb1
    clear hgr hown hb1
    go_wp2
    go_loopw [6, 23] (fun _ i wr => ∃ (k : Nat) (us : List Value), k ≤ nn ∧ i = .int .i64 k ∧ us.length = k ∧ wr.heap[w.heap.size]? = some (.cells #[.int .i64 0, .slice none 0 0, .slice none 0 0] 28 (0, 0)) ∧ wr.ownsRow (w.heap.size + 1) 43 1 (.slice (some ⟨w.heap.size + 1, 0, none⟩) nn nn) nn (us ++ List.replicate (nn - k) (.slice none 0 0)) ∧ Datas (w.heap.size + 1) wr.heap.size us (List.replicate k (zeros zz)) wr ∧ Below w.heap.size w wr) (fun _ i _ => nn - (intOf i).toNat)
    case atStart => exact ⟨0, [], Nat.zero_le _, rfl, rfl, hr1, by simpa using hown', by simpa using Datas.nil _ _ _, hb2⟩
    case round =>
      clear hown' hr1 hb2
      obtain ⟨k, us, hk, rfl, hu, hr, hown, hd, hb⟩ := hrel
      by_cases hlt : k < nn
      · have OW := Lib.hid hown
        have D := Lib.hid hd
        have B := Lib.hid hb
        have HR := Lib.hid hr
        have hs0 : w.heap.size + 1 ≤ wr.heap.size := cur_lt hr
        clear hown hd hb hr
        go_wp2_with (at_make; refine wpList_make_full _ rfl _ _ 22 rfl wr.heap.size 5 i0 (.int .u8 0) 1 Tryd.underlying22 HI.out.1 HI.out.2.1 HI.out.2.2.1 .i64 .i64 _ _ zz rfl rfl rfl rfl (by rw [HI.out.2.2.2]; omega) (by unfold maxLen; omega) (Nat.le_refl _) ?_)
        intro w2 hmade hgr2
        have hb2 := grown_below hgr2
        have D2 := D.out.snoc (Nat.le_refl _) hb2 (made_bytes' hmade) hs0 hb2.size
        have own2 := own_below OW.out hb2
        have f0 := own2.frozenAt k
        have c0 : w2.cell? ⟨w.heap.size + 1, k, none⟩ = some (.slice none 0 0) := by
          rw [own2.cellAt k (by omega), List.getElem?_append_right (by omega), List.getElem?_replicate, if_pos (by omega)]
        have st := own2.stored k (.slice (some ⟨wr.heap.size, 0, none⟩) zz zz)
        have sh := fill_set (u := .slice (some ⟨wr.heap.size, 0, none⟩) zz zz) (z := .slice none 0 0) us (nn - (k + 1))
        rw [show nn - (k + 1) + 1 = nn - k from by omega, hu] at sh
        rw [sh] at st
        have ER : Hid (List.replicate k (zeros zz) ++ [zeros zz] = List.replicate (k + 1) (zeros zz)) := Lib.hid (by rw [List.replicate_succ'])
        have X := Lib.hid (And.intro st.1 (And.intro (ER.out ▸ D2.set_row (k := k) own2 (.slice (some ⟨wr.heap.size, 0, none⟩) zz zz)) (And.intro ((below_seq B.out hb2).grown st.2 (by have := hb2.size; omega) (fun i hi => by cases hi; exact Nat.le_succ _)) (kept_grown (kept_block HR.out hb2) st.2 (by simp)))))
        clear D2 own2 st sh hmade hgr2 hb2
        go_wp2
        go_roundw
        case rel => exact ⟨k + 1, us ++ [.slice (some ⟨wr.heap.size, 0, none⟩) zz zz], by omega, by go_num, by simp [hu], X.out.2.2.2, X.out.1, by simpa using X.out.2.1, X.out.2.2.1⟩
        case measure => simp [intOf]; omega
      · have hk' : k = nn := by omega
        subst hk'
        rw [Nat.sub_self] at hown
        have k0 : wr.cell? ⟨w.heap.size, 0, none⟩ = some (.int .i64 0) := cur_cell hr 0
        have k1 : wr.cell? ⟨w.heap.size, 1, none⟩ = some (.slice none 0 0) := cur_cell hr 1
        have k2 : wr.cell? ⟨w.heap.size, 2, none⟩ = some (.slice none 0 0) := cur_cell hr 2
        have f0 := cur_free hr 0
        have f1 := cur_free hr 1
        have f2 := cur_free hr 2
        have O := Lib.hid (CellSOwn.mk' (vs := us) (by simpa using hown) hd)
        have B := Lib.hid hb
        clear hr hown hd hb
        go_wp2
        have ag : ∀ i, w.heap.size + 1 ≤ i → i < wr.heap.size → (((wr.setCell ⟨w.heap.size, 0, none⟩ (.int .i64 zz)).setCell ⟨w.heap.size, 1, none⟩ (.slice (some ⟨w.heap.size + 1, 0, none⟩) k k)).setCell ⟨w.heap.size, 2, none⟩ (.slice none 0 0)).heap[i]? = wr.heap[i]? := fun i h1 h2 =>
          (Below.heap_setCell _ _ _ i (by simp; omega)).trans ((Below.heap_setCell _ _ _ i (by simp; omega)).trans (Below.heap_setCell _ _ _ i (by simp; omega)))
        exact bodyPost_ret (v := .agg #[.int .i64 zz, .slice (some ⟨w.heap.size + 1, 0, none⟩) k k, .slice none 0 0]) (by simp [results, Tryd.results6, go_sem, k0, k1, k2]) rfl
          ⟨_, _, _, rfl, by rw [HN.out]; exact ⟨_, _, rfl, ((O.out.lies (Nat.le_refl _)).sup _ ag).wide (by omega) (by simp), ⟨none, 0, rfl, World.ownsRow_nil _ _ _ _, fun k hk => by simp [Value.ownBlock] at hk⟩⟩, ((B.out.setCell (p := ⟨w.heap.size, 0, none⟩) (by simp) _).setCell (p := ⟨w.heap.size, 1, none⟩) (by simp) _).setCell (p := ⟨w.heap.size, 2, none⟩) (by simp) _⟩
  · have HN := Lib.hid (new_no (newB_not hg))
    by_cases g1 : n < 0
    · go_enter Tryd.func6, Tryd.ntmps6
      go_wp2
      exact bodyPost_ret (v := .agg #[.int .i64 0, .slice none 0 0, .slice none 0 0]) (by simp [results, Tryd.results6, go_sem]) rfl ⟨_, _, _, rfl, by rw [HN.out]; exact memNil _ _ _ _, below_box (Below.refl _ _) _⟩
    by_cases g2 : 128 < n
    · go_enter Tryd.func6, Tryd.ntmps6
      go_wp2
      exact bodyPost_ret (v := .agg #[.int .i64 0, .slice none 0 0, .slice none 0 0]) (by simp [results, Tryd.results6, go_sem]) rfl ⟨_, _, _, rfl, by rw [HN.out]; exact memNil _ _ _ _, below_box (Below.refl _ _) _⟩
    · have HZ := Lib.hid (size_no (by omega : z < 1 ∨ 1000 < z))
      go_enter Tryd.func6, Tryd.ntmps6
      go_wp2_with fail
      refine (implCellSizeOk _ _).mono ?_
      rintro e w0 ⟨rfl, rfl⟩
      rw [HZ.out]
      go_wp2
      exact bodyPost_ret (v := .agg #[.int .i64 0, .slice none 0 0, .slice none 0 0]) (by simp [results, Tryd.results6, go_sem]) rfl ⟨_, _, _, rfl, by rw [HN.out]; exact memNil _ _ _ _, below_box (Below.refl _ _) _⟩
end Go.Proofs.YticfnhbjoaecjaaDoor
