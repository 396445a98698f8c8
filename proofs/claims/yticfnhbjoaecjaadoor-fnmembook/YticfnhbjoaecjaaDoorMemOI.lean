/- MemOk: what the program answers. -/
import Derived.Test.YticfnhbjoaecjaaDoorMemO
namespace Go.Proofs.YticfnhbjoaecjaaDoor
open Go.RowKit
set_option linter.unusedVariables false

set_option maxHeartbeats 400000 in
theorem implCellSizeOk (z : Int) (w : World) : Calls Tryd.prog 14 #[.int .i64 z] w fun e w' => e = .returned (.bool (sizeB z)) ∧ w = w' := by
  by_cases z1 : z < 1
  · have H := Lib.hid (size_no (.inl z1))
    go_enter Tryd.func14, Tryd.ntmps14
    go_wp2
    go_ret
    exact ⟨ret_bool H.out.symm, rfl⟩
  · have H : Hid (sizeB z = decide (z ≤ 1000)) := Lib.hid (by unfold sizeB; simp; omega)
    go_enter Tryd.func14, Tryd.ntmps14
    go_wp2
    go_ret
    exact ⟨ret_bool H.out.symm, rfl⟩
def hasB (n : Nat) (y : Int) : Bool := decide (0 ≤ y) && decide (y < n)
theorem has_of {n : Nat} {y : Int} (h : hasB n y = true) : 0 ≤ y ∧ y < n := by unfold hasB at h; simpa using h
theorem has_yes {n : Nat} {y : Int} (h1 : 0 ≤ y) (h2 : y < n) : hasB n y = true := by unfold hasB; simp; omega
theorem has_low {n : Nat} {y : Int} (h1 : y < 0) : hasB n y = false := by unfold hasB; simp; omega
theorem has_high {n : Nat} {y : Int} (h1 : (n : Int) ≤ y) : hasB n y = false := by unfold hasB; simp; omega
set_option maxHeartbeats 400000 in
theorem implHas (b : Nat) (x : Option Addr) (n cap : Nat) (y : Int) (w : World) (hc : w.cell? ⟨b, 1, none⟩ = some (.slice x n cap)) :
    Calls Tryd.prog 25 #[.pointer (some ⟨b, 0, none⟩), .int .i64 y] w fun e w' => e = .returned (.bool (hasB n y)) ∧ w = w' := by
  by_cases y1 : y < 0
  · have H := Lib.hid (has_low (n := n) y1)
    go_enter Tryd.func25, Tryd.ntmps25
    go_wp2
    go_ret
    exact ⟨ret_bool H.out.symm, rfl⟩
  · have H : Hid (hasB n y = decide (y < (n : Int))) := Lib.hid (by unfold hasB; simp; omega)
    go_enter Tryd.func25, Tryd.ntmps25
    go_wp2
    go_ret
    exact ⟨ret_bool H.out.symm, rfl⟩
set_option maxHeartbeats 2000000 in
theorem implCellsOk (b : Nat) (z : Int) (a : Option Addr) (cap : Nat) (c2 : Value) (ls : List (List UInt8)) (w : World) (K0 : w.heap[b]? = some (.cells #[.int .i64 z, .slice a ls.length cap, c2] 28 (0, 0))) (hc : CellSIn [.slice a ls.length cap] ls w) :
    Calls Tryd.prog 28 #[.pointer (some ⟨b, 0, none⟩)] w fun e w' => e = .returned (.bool (cellsB z ls)) ∧ Below w.heap.size w w' := by
  have K := Lib.hid (lies_block K0)
  have C := Lib.hid hc.lies
  obtain ⟨_, _, _, _, _, l1, _⟩ := cellSIn_shape hc
  unfold maxLen at l1
  have k1 : w.cell? ⟨b, 1, none⟩ = some (.slice a ls.length cap) := cur_cell K0 1
  clear hc K0
  by_cases n1 : 128 < ls.length
  · have H := Lib.hid (cells_long (z := z) n1)
    go_enter Tryd.func28, Tryd.ntmps28
    go_wp2
    go_ret
    exact ⟨ret_bool H.out.symm, Below.refl _ _⟩
  go_enter Tryd.func28, Tryd.ntmps28
  go_wp2
  clear k1
  go_loopw [4, 16] (fun _ i wr => ∃ k : Nat, k ≤ ls.length ∧ i = .int .i64 k ∧ Hid ((ls.take k).all (cellB z) = true) ∧ Below w.heap.size w wr) (fun _ i _ => ls.length - (intOf i).toNat)
  case atStart => exact ⟨0, Nat.zero_le _, rfl, Lib.hid (by simp), Below.refl _ _⟩
  case round =>
    obtain ⟨k, hk, rfl, H, hb⟩ := hrel
    have KB := (K.out.below hb).now
    have BB := Lib.hid hb
    by_cases hlt : k < ls.length
    · obtain ⟨a', cap', vs, e, _, _, r1, r2, r3⟩ := cellSIn_shape (C.out.below hb).now
      simp at e
      obtain ⟨rfl, rfl⟩ := e
      obtain ⟨b2, off, y, yc, rfl, q, _, _⟩ := r1.cellAt r2 r3 hlt
      have HS := Lib.hid (gall_snoc (cellB z) ls k hlt)
      have HB := Lib.hid (gall_bad (cellB z) ls k hlt)
      have HC : Hid (cellB z ls[k] = decide ((ls[k].length : Int) = z)) := Lib.hid rfl
      have k0 : (wr.alloc (.cells #[.slice y ls[k].length yc] 43)).cell? ⟨b, 0, none⟩ = some (.int .i64 z) := cell_keep (cur_cell KB 0) (below_box (Below.refl _ _) _)
      have hbl : b < wr.heap.size := cur_lt KB
      replace BB := Lib.hid (below_box BB.out (.cells #[.slice y ls[k].length yc] 43))
      clear r1 r2 r3 hb KB
      generalize ls[k].length = n at *
      by_cases hx : (n : Int) = z
      · have dB : ((n : Int) != z) = false := by simp [hx]
        have HX : Hid ((ls.take (k + 1)).all (cellB z) = true) := Lib.hid (by rw [HS.out, H.out, HC.out]; simp [hx])
        clear hx
        go_wp2
        go_quiet (fail)
        go_wp2
        go_roundw
        case rel => exact ⟨k + 1, by omega, by go_num, HX, below_seq BB.out (belowN _)⟩
        case measure => simp [intOf]; omega
      · have dB : ((n : Int) != z) = true := by simp [hx]
        have HX : Hid (cellsB z ls = false) := Lib.hid (cells_bad (HB.out (by rw [HC.out]; simp [hx])))
        clear hx
        go_wp2
        go_quiet (fail)
        go_wp2
        go_ret
        exact ⟨ret_bool HX.out.symm, below_seq BB.out (belowN _)⟩
    · have HX := Lib.hid (cells_good n1 (gall_done (cellB z) ls k (by omega) H.out))
      clear hb KB H
      go_wp2
      go_ret
      exact ⟨ret_bool HX.out.symm, BB.out⟩
set_option maxHeartbeats 4000000 in
theorem implLogOk (b : Nat) (z : Int) (x0 : Option Addr) (n0 xcap : Nat) (a : Option Addr) (cap : Nat) (l : List TouchM) (w : World) (K0 : w.heap[b]? = some (.cells #[.int .i64 z, .slice x0 n0 xcap, .slice a l.length cap] 28 (0, 0))) (ht : TouchSIn [.slice a l.length cap] l w) :
    Calls Tryd.prog 29 #[.pointer (some ⟨b, 0, none⟩)] w fun e w' => e = .returned (.bool (logB z n0 l)) ∧ Below w.heap.size w w' := by
  have K := Lib.hid (lies_block K0)
  have T := Lib.hid ht.lies
  obtain ⟨_, _, _, _, l2, _⟩ := touchSIn_shape ht
  unfold maxLen at l2
  have k2 : w.cell? ⟨b, 2, none⟩ = some (.slice a l.length cap) := cur_cell K0 2
  clear ht K0
  by_cases n2 : 6000 < l.length
  · have H := Lib.hid (log_long (z := z) (n := n0) n2)
    go_enter Tryd.func29, Tryd.ntmps29
    go_wp2
    go_ret
    exact ⟨ret_bool H.out.symm, Below.refl _ _⟩
  go_enter Tryd.func29, Tryd.ntmps29
  go_wp2
  clear k2
  go_loopw [4, 17] (fun _ i wr => ∃ k : Nat, k ≤ l.length ∧ i = .int .i64 k ∧ Hid ((l.take k).all (touchB z n0) = true) ∧ Below w.heap.size w wr) (fun _ i _ => l.length - (intOf i).toNat)
  case atStart => exact ⟨0, Nat.zero_le _, rfl, Lib.hid (by simp), Below.refl _ _⟩
  case round =>
    obtain ⟨k, hk, rfl, H, hb⟩ := hrel
    have KB := (K.out.below hb).now
    have BB := Lib.hid hb
    by_cases hlt : k < l.length
    · obtain ⟨x', xc', e, _, _, hr⟩ := touchSIn_shape (T.out.below hb).now
      simp at e
      obtain ⟨rfl, rfl⟩ := e
      obtain ⟨b2, off, rfl, q0, q1, q2⟩ := hr.touch hlt
      have hlw : b < wr.heap.size := cur_lt KB
      have hne : ¬ wr.heap.size = b := by omega
      have j0 : (wr.alloc (.cells #[.int .i64 l[k].op, .int .i64 l[k].ad, .int .i64 l[k].len] 35)).cell? ⟨b, 0, none⟩ = some (.int .i64 z) := cell_keep (cur_cell KB 0) (below_box (Below.refl _ _) _)
      have j1 : (wr.alloc (.cells #[.int .i64 l[k].op, .int .i64 l[k].ad, .int .i64 l[k].len] 35)).cell? ⟨b, 1, none⟩ = some (.slice x0 n0 xcap) := cell_keep (cur_cell KB 1) (below_box (Below.refl _ _) _)
      replace BB := Lib.hid (below_box BB.out (.cells #[.int .i64 l[k].op, .int .i64 l[k].ad, .int .i64 l[k].len] 35))
      have HS := Lib.hid (gall_snoc (touchB z n0) l k hlt)
      have HB := Lib.hid (gall_bad (touchB z n0) l k hlt)
      have HT := touch_cases z n0 l[k].op l[k].ad l[k].len
      have e0 : (⟨l[k].op, l[k].ad, l[k].len⟩ : TouchM) = l[k] := rfl
      rw [e0] at HT
      generalize touchB z n0 l[k] = tb at *
      clear e0 hr hb KB
      generalize l[k].op = x at *
      generalize l[k].ad = y at *
      generalize l[k].len = u at *
      rcases HT with ⟨hT, hx, y1, y2, rfl⟩ | ⟨hF, hf⟩
      · have HX : Hid ((l.take (k + 1)).all (touchB u n0) = true) := Lib.hid (by rw [HS.out, H.out, hT]; rfl)
        have HH : Hid (∀ w, w.cell? ⟨b, 1, none⟩ = some (.slice x0 n0 xcap) → Calls Tryd.prog 25 #[.pointer (some ⟨b, 0, none⟩), .int .i64 y] w fun e w' => e = .returned (.bool true) ∧ w' = w) := Lib.hid (fun w hc => by rw [← has_yes (n := n0) y1 y2]; exact (implHas b x0 n0 xcap y w hc).mono (fun e w' h => ⟨h.1, h.2.symm⟩))
        have dU : (u != u) = false := by simp
        clear hT HS HB
        rcases hx with rfl | rfl
        all_goals
          go_wp2
          go_quiet (first | (go_at_call 25; refine Calls.quiet_of_same (HH.out _ (by exact j1))))
          go_wp2
          go_roundw
          case rel => exact ⟨k + 1, by omega, by go_num, HX, below_seq BB.out (belowN _)⟩
          case measure => simp [intOf]; omega
      · have HX : Hid (logB z n0 l = false) := Lib.hid (log_bad (HB.out hF))
        clear hF HS HB
        rcases hf with ⟨x1, x2⟩ | ⟨hx, hf⟩
        · have d1 : (x == 1) = false := by simp [x1]
          have d2 : (x == 2) = false := by simp [x2]
          go_wp2
          go_quiet (fail)
          go_wp2
          go_ret
          exact ⟨ret_bool HX.out.symm, below_seq BB.out (belowN _)⟩
        · rcases hf with hf | ⟨f1, f2⟩ | ⟨f1, f2, f3⟩
          · have HH : Hid (∀ w, w.cell? ⟨b, 1, none⟩ = some (.slice x0 n0 xcap) → Calls Tryd.prog 25 #[.pointer (some ⟨b, 0, none⟩), .int .i64 y] w fun e w' => e = .returned (.bool false) ∧ w' = w) := Lib.hid (fun w hc => by rw [← has_low (n := n0) hf]; exact (implHas b x0 n0 xcap y w hc).mono (fun e w' h => ⟨h.1, h.2.symm⟩))
            rcases hx with rfl | rfl
            all_goals
              go_wp2
              go_quiet (first | (go_at_call 25; refine Calls.quiet_of_same (HH.out _ (by exact j1))))
              go_wp2
              go_ret
              exact ⟨ret_bool HX.out.symm, below_seq BB.out (belowN _)⟩
          · have HH : Hid (∀ w, w.cell? ⟨b, 1, none⟩ = some (.slice x0 n0 xcap) → Calls Tryd.prog 25 #[.pointer (some ⟨b, 0, none⟩), .int .i64 y] w fun e w' => e = .returned (.bool false) ∧ w' = w) := Lib.hid (fun w hc => by rw [← has_high (n := n0) f2]; exact (implHas b x0 n0 xcap y w hc).mono (fun e w' h => ⟨h.1, h.2.symm⟩))
            rcases hx with rfl | rfl
            all_goals
              go_wp2
              go_quiet (first | (go_at_call 25; refine Calls.quiet_of_same (HH.out _ (by exact j1))))
              go_wp2
              go_ret
              exact ⟨ret_bool HX.out.symm, below_seq BB.out (belowN _)⟩
          · have HH : Hid (∀ w, w.cell? ⟨b, 1, none⟩ = some (.slice x0 n0 xcap) → Calls Tryd.prog 25 #[.pointer (some ⟨b, 0, none⟩), .int .i64 y] w fun e w' => e = .returned (.bool true) ∧ w' = w) := Lib.hid (fun w hc => by rw [← has_yes (n := n0) f1 f2]; exact (implHas b x0 n0 xcap y w hc).mono (fun e w' h => ⟨h.1, h.2.symm⟩))
            have d3 : (u != z) = true := by simp [f3]
            rcases hx with rfl | rfl
            all_goals
              go_wp2
              go_quiet (first | (go_at_call 25; refine Calls.quiet_of_same (HH.out _ (by exact j1))))
              go_wp2
              go_ret
              exact ⟨ret_bool HX.out.symm, below_seq BB.out (belowN _)⟩
    · have HX : Hid (logB z n0 l = true) := Lib.hid (log_good n2 (gall_done (touchB z n0) l k (by omega) H.out))
      clear hb KB H
      go_wp2
      go_ret
      exact ⟨ret_bool HX.out.symm, BB.out⟩
set_option maxHeartbeats 1000000 in
theorem implMemValid (b : Nat) (z : Int) (c1 c2 : Value) (m : MemM) (w : World) (K0 : w.heap[b]? = some (.cells #[.int .i64 z, c1, c2] 28 (0, 0))) (h : MemIn [.int .i64 z, c1, c2] m w) :
    Calls Tryd.prog 18 #[.pointer (some ⟨b, 0, none⟩)] w fun e w' => e = .returned (.bool (memOkB m)) ∧ Below w.heap.size w w' := by
  obtain ⟨hz, hc, ht⟩ := memIn_shape h
  obtain ⟨a, cap, _, rfl, _⟩ := cellSIn_shape hc
  obtain ⟨a2, cap2, rfl, _⟩ := touchSIn_shape ht
  simp at hz
  subst hz
  have k0 : w.cell? ⟨b, 0, none⟩ = some (.int .i64 m.z) := cur_cell K0 0
  have K := Lib.hid (lies_block K0)
  have T := Lib.hid ht.lies
  have S1 := Lib.hid (fun w => implCellSizeOk m.z w)
  have S2 := Lib.hid (implCellsOk b m.z a cap _ m.cells w K0 hc)
  clear h hc ht K0
  cases hs : sizeB m.z
  · have HX := Lib.hid (mem_size hs)
    rw [hs] at S1
    clear hs
    go_enter Tryd.func18, Tryd.ntmps18
    go_wp2_with fail
    refine (S1.out _).mono ?_
    rintro e w1 ⟨rfl, rfl⟩
    go_wp2
    go_ret
    exact ⟨ret_bool HX.out.symm, Below.refl _ _⟩
  cases hc : cellsB m.z m.cells
  · have HX := Lib.hid (mem_cells hc)
    rw [hs] at S1
    rw [hc] at S2
    clear hs hc
    go_enter Tryd.func18, Tryd.ntmps18
    go_wp2_with fail
    refine (S1.out _).mono ?_
    rintro e w1 ⟨rfl, rfl⟩
    go_wp2_with fail
    refine S2.out.mono ?_
    rintro e w2 ⟨rfl, hb⟩
    have B := Lib.hid hb
    clear hb
    go_wp2
    go_ret
    exact ⟨ret_bool HX.out.symm, B.out⟩
  · have HX : Hid (memOkB m = logB m.z m.cells.length m.log) := Lib.hid (by unfold memOkB; rw [hs, hc]; rfl)
    rw [hs] at S1
    rw [hc] at S2
    clear hs hc
    go_enter Tryd.func18, Tryd.ntmps18
    go_wp2_with fail
    refine (S1.out _).mono ?_
    rintro e w1 ⟨rfl, rfl⟩
    go_wp2_with fail
    refine S2.out.mono ?_
    rintro e w2 ⟨rfl, hb⟩
    have B := Lib.hid hb
    have S3 := Lib.hid (implLogOk b m.z a m.cells.length cap a2 cap2 m.log w2 (K.out.below hb).now (T.out.below hb).now)
    clear hb
    go_wp2_with fail
    refine S3.out.mono ?_
    rintro e w3 ⟨rfl, hb⟩
    replace B := Lib.hid (below_seq B.out hb)
    clear hb
    go_wp2
    go_ret
    exact ⟨ret_bool HX.out.symm, B.out⟩
end Go.Proofs.YticfnhbjoaecjaaDoor
