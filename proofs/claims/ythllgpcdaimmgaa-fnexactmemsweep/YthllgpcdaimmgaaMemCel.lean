/- The laws' own helpers over rows of cells: counted, copied, compared, marked, held. -/
import Derived.Test.YthllgpcdaimmgaaMemTch
namespace Go.Proofs.Ythllgpcdaimmgaa
open Go.RowKit
set_option linter.unusedVariables false

theorem Try.infoCell : (Try.prog.info? 52).map (fun i => (i.zero, i.size, i.bytes)) = some (some (.agg #[.slice none 0 0]), 1, 24) := by kernel_rfl
def sumL (ls : List (List UInt8)) : Nat := (ls.map List.length).sum
theorem sumL_app (a b : List (List UInt8)) : sumL (a ++ b) = sumL a + sumL b := by unfold sumL; simp
theorem sumL_one (l : List UInt8) : sumL [l] = l.length := by simp [sumL]
theorem sumL_snoc (ls : List (List UInt8)) (k : Nat) (h : k < ls.length) : sumL (ls.take (k + 1)) = sumL (ls.take k) + ls[k].length := by
  rw [List.take_succ_eq_append_getElem h, sumL_app, sumL_one]
theorem sumL_part (ls : List (List UInt8)) (k : Nat) : sumL (ls.take k) ≤ sumL ls := by
  have := sumL_app (ls.take k) (ls.drop k)
  rw [List.take_append_drop] at this
  omega
/-- A cell's row, of a row of cells. -/
theorem Row.cellAt {w : World} {a : Option Addr} {vs : List Value} {ls : List (List UInt8)} (h : Row w a vs) (hl : vs.length = ls.length) (hd : ∀ (i : Nat) v l, vs[i]? = some v → ls[i]? = some l → ByteSIn [v] l w) {k : Nat} (hk : k < ls.length) :
    ∃ b off x cap, a = some ⟨b, off, none⟩ ∧ w.cell? ⟨b, off + k, none⟩ = some (.slice x ls[k].length cap) ∧ vs[k]? = some (.slice x ls[k].length cap) ∧ ByteSIn [.slice x ls[k].length cap] ls[k] w := by
  obtain ⟨b, off, rfl, hc⟩ := h.at (i := k) (by omega)
  have hv : vs[k]? = some (vs[k]'(by omega)) := List.getElem?_eq_getElem _
  have hi := hd k _ ls[k] hv (List.getElem?_eq_getElem _)
  obtain ⟨x, cap, e, _⟩ := byteSIn_shape hi
  rw [e] at hv hi
  exact ⟨b, off, x, cap, rfl, hc.trans hv, hv, hi⟩
set_option maxHeartbeats 400000 in
theorem lawsSzByteS (a : Option Addr) (n cap : Nat) (left : Int) (w : World) (hn : n ≤ maxLen) (h0 : 0 ≤ left) (h1 : left ≤ 1048576) :
    Calls Try.prog 58 #[.slice a n cap, .int .i64 left] w fun e w' => e = .returned (.int .i64 (szI left n)) ∧ w = w' := by
  unfold maxLen at hn
  by_cases h : left - (n : Int) < 0
  · have H := Lib.hid (szI_no h)
    go_enter Try.func58, Try.ntmps58
    go_wp2
    go_ret
    exact ⟨ret_int H.out.symm, rfl⟩
  · have H := Lib.hid (szI_yes h)
    go_enter Try.func58, Try.ntmps58
    go_wp2
    go_ret
    exact ⟨ret_int H.out.symm, rfl⟩
set_option maxHeartbeats 400000 in
theorem lawsSzCell (a : Option Addr) (n cap : Nat) (left : Int) (w : World) (hn : n ≤ maxLen) (h0 : 0 ≤ left) (h1 : left ≤ 1048576) :
    Calls Try.prog 45 #[.agg #[.slice a n cap], .int .i64 left] w fun e w' => e = .returned (.int .i64 (szI left n)) ∧ Below w.heap.size w w' := by
  have B := Lib.hid (below_box (Below.refl w.heap.size w) (.cells #[.slice a n cap] 78))
  have S := Lib.hid (lawsSzByteS a n cap left (w.alloc (.cells #[.slice a n cap] 78)) hn h0 h1)
  by_cases h : left - (n : Int) < 0
  · rw [szI_no h] at S ⊢
    clear h
    go_enter Try.func45, Try.ntmps45
    go_wp2_with fail
    refine S.out.mono ?_
    rintro e w1 ⟨rfl, rfl⟩
    go_wp2
    go_ret
    exact ⟨rfl, B.out⟩
  · rw [szI_yes h] at S ⊢
    go_enter Try.func45, Try.ntmps45
    go_wp2_with fail
    refine S.out.mono ?_
    rintro e w1 ⟨rfl, rfl⟩
    go_wp2
    go_ret
    exact ⟨rfl, B.out⟩
def szCells (ls : List (List UInt8)) : Nat := ls.length + sumL ls
set_option maxHeartbeats 1000000 in
theorem lawsSzCellS (c : Value) (ls : List (List UInt8)) (left : Int) (w : World) (h0 : 0 ≤ left) (h1 : left ≤ 1048576) (h : CellSIn [c] ls w) :
    Calls Try.prog 27 #[c, .int .i64 left] w fun e w' => e = .returned (.int .i64 (szI left (szCells ls))) ∧ Below w.heap.size w w' := by
  obtain ⟨a, cap, vs, rfl, g1, g2, g3, g4, g5⟩ := cellSIn_shape h
  have L := Lib.hid h.lies
  clear h g1 g3 g4 g5 vs
  unfold maxLen at g2
  by_cases hn : left - (ls.length : Int) < 0
  · have H : Hid (szI left (szCells ls) = -1) := Lib.hid (szI_no (by unfold szCells; omega))
    go_enter Try.func27, Try.ntmps27
    go_wp2
    go_ret
    exact ⟨ret_int H.out.symm, Below.refl _ _⟩
  go_enter Try.func27, Try.ntmps27
  go_wp2
  go_loopw [1, 5] (fun lv i wr => ∃ (k : Nat) (x : Int), k ≤ ls.length ∧ lv = .int .i64 x ∧ i = .int .i64 k ∧ Hid (x = left - ls.length - sumL (ls.take k)) ∧ 0 ≤ x ∧ x ≤ 1048576 ∧ Below w.heap.size w wr) (fun _ i _ => ls.length - (intOf i).toNat)
  case atStart => exact ⟨0, _, Nat.zero_le _, rfl, rfl, Lib.hid (by simp [sumL]), by omega, by omega, Below.refl _ _⟩
  case round =>
    obtain ⟨k, x, hk, rfl, rfl, H, x0, x1, hb⟩ := hrel
    by_cases hlt : k < ls.length
    · obtain ⟨a', cap', vs, e, _, _, r1, r2, r3⟩ := cellSIn_shape (L.out.below hb).now
      simp at e
      obtain ⟨rfl, rfl⟩ := e
      obtain ⟨b, off, y, yc, rfl, q, _, hy⟩ := r1.cellAt r2 r3 hlt
      obtain ⟨_, _, e, _, hm, _⟩ := byteSIn_shape hy
      have S1 := Lib.hid (sumL_snoc ls k hlt)
      have S2 := Lib.hid (sumL_part ls (k + 1))
      have B := Lib.hid hb
      generalize ls[k].length = n at *
      have S := Lib.hid (lawsSzCell y n yc x wr hm x0 x1)
      clear hm hy e r1 r2 r3 hb
      by_cases hx : x - (n : Int) < 0
      · rw [szI_no hx] at S
        have R : Hid (szI left (szCells ls) = -1) := Lib.hid (szI_no (by have := S1.out; have := S2.out; have := H.out; unfold szCells; omega))
        clear hx
        go_wp2_with fail
        refine S.out.mono ?_
        rintro e w2 ⟨rfl, hb2⟩
        replace B := Lib.hid (below_seq B.out hb2)
        clear hb2
        go_wp2
        go_ret
        exact ⟨ret_int R.out.symm, B.out⟩
      · rw [szI_yes hx] at S
        have HX : Hid (x - (n : Int) = left - ls.length - sumL (ls.take (k + 1))) := Lib.hid (by have := S1.out; have := H.out; omega)
        have x0' : 0 ≤ x - (n : Int) := by omega
        have x1' : x - (n : Int) ≤ 1048576 := by omega
        clear hx
        generalize x - (n : Int) = x' at *
        go_wp2_with fail
        refine S.out.mono ?_
        rintro e w2 ⟨rfl, hb2⟩
        replace B := Lib.hid (below_seq B.out hb2)
        clear hb2
        go_wp2
        go_roundw
        case rel => exact ⟨k + 1, x', by omega, rfl, by go_num, HX, x0', x1', B.out⟩
        case measure => simp [intOf]; omega
    · have R : Hid (szI left (szCells ls) = x) := Lib.hid (by
        have h := H.out
        rw [List.take_of_length_le (by omega)] at h
        rw [szI_yes (by unfold szCells; omega)]; unfold szCells; omega)
      have B := Lib.hid hb
      clear hb
      go_wp2
      go_ret
      exact ⟨ret_int R.out.symm, B.out⟩
set_option maxHeartbeats 800000 in
theorem lawsToCell (a : Option Addr) (n cap : Nat) (l : List UInt8) (w : World) (hl : l.length ≤ 1048576) (h : ByteSIn [.slice a n cap] l w) :
    Calls Try.prog 46 #[.agg #[.slice a n cap]] w fun e w' => ∃ x k y, e = .returned (.agg #[.slice x k y]) ∧ ByteSOwn w.heap.size w'.heap.size [.slice x k y] l w' ∧ Below w.heap.size w w' := by
  have hb0 : Below w.heap.size w (((w.alloc (.cells #[.slice a n cap] 78)).alloc (.cells #[.slice none 0 0] 52)).alloc (.cells #[.slice none 0 0] 52)) := (((Below.refl _ _).alloc (Nat.le_refl _) _).alloc (by simp) _).alloc (by simp; omega) _
  have U := Lib.hid (uToByteS _ l _ hl (h.lies.below hb0).now)
  have B := Lib.hid hb0
  have K2 := Lib.hid (alloc_at ((w.alloc (.cells #[.slice a n cap] 78)).alloc (.cells #[.slice none 0 0] 52)) (.cells #[.slice none 0 0] 52) (w.heap.size + 1 + 1) (by simp))
  have K1 := Lib.hid ((alloc_old ((w.alloc (.cells #[.slice a n cap] 78)).alloc (.cells #[.slice none 0 0] 52)) (.cells #[.slice none 0 0] 52) (w.heap.size + 1) (by simp)).trans (alloc_at (w.alloc (.cells #[.slice a n cap] 78)) (.cells #[.slice none 0 0] 52) (w.heap.size + 1) (by simp)))
  clear hb0 h
  go_enter Try.func46, Try.ntmps46
  go_wp2_with fail
  refine U.out.mono ?_
  rintro e w1 ⟨c, rfl, ho, hb⟩
  obtain ⟨x, k, y, rfl⟩ := ho.shape
  have L1 := kept_block K1.out hb
  have L2 := kept_block K2.out hb
  have hs : w.heap.size + 1 + 1 + 1 ≤ w1.heap.size := by have := hb.size; simpa using this
  simp only [size_box] at ho
  have O := Lib.hid ho
  replace B := Lib.hid (below_seq B.out hb)
  clear ho hb U
  have k1 : w1.cell? ⟨w.heap.size + 1, 0, none⟩ = some (.slice none 0 0) := cur_cell L1 0
  have k2 : w1.cell? ⟨w.heap.size + 1 + 1, 0, none⟩ = some (.slice none 0 0) := cur_cell L2 0
  have f1 := cur_free L1 0
  have f2 := cur_free L2 0
  go_wp2
  have O2 := (O.out.sup (w' := (w1.setCell ⟨w.heap.size + 1 + 1, 0, none⟩ (.slice x k y)).setCell ⟨w.heap.size + 1, 0, none⟩ (.slice x k y)) (fun i h1 h2 => (Below.heap_setCell _ _ _ i (by simp; omega)).trans (Below.heap_setCell _ _ _ i (by simp; omega))))
  exact bodyPost_ret (v := .agg #[.slice x k y]) (by simp [results, Try.results46, go_sem, k1]) rfl
    ⟨x, k, y, rfl, O2.wide (by omega) (by simp), (B.out.setCell (p := ⟨w.heap.size + 1 + 1, 0, none⟩) (by simp; omega) _).setCell (p := ⟨w.heap.size + 1, 0, none⟩) (by simp) _⟩
end Go.Proofs.Ythllgpcdaimmgaa
