/- MemOk: what the model and the program answer. -/
import Derived.Test.YthllgpcdaimmgaaMemP
import Derived.Test.YthllgpcdaimmgaaMemCel
import Derived.Test.YthllgpcdaimmgaaMemTch
namespace Go.Proofs.Ythllgpcdaimmgaa
open Go.RowKit
set_option linter.unusedVariables false

set_option maxHeartbeats 4000000 in
theorem uSpecMemOk (c0 c1 c2 : Value) (m : MemM) (w : World) (h : MemIn [c0, c1, c2] m w) : Calls Try.prog 9 #[.agg #[c0, c1, c2]] w fun e w' => e = .returned (.bool (memOkB m)) ∧ Below w.heap.size w w' := by
  obtain ⟨rfl, hc, ht⟩ := memIn_shape h
  obtain ⟨a, cap, _, rfl, _, l1, _⟩ := cellSIn_shape hc
  obtain ⟨a2, cap2, rfl, _, l2, _⟩ := touchSIn_shape ht
  have B := Lib.hid (below_box (Below.refl w.heap.size w) (.cells #[.int .i64 m.z, .slice a m.cells.length cap, .slice a2 m.log.length cap2] 31))
  have K := Lib.hid (lies_box w (.cells #[.int .i64 m.z, .slice a m.cells.length cap, .slice a2 m.log.length cap2] 31))
  have C := Lib.hid (hc.lies.below B.out)
  have T := Lib.hid (ht.lies.below B.out)
  unfold maxLen at l1 l2
  clear h hc ht
  by_cases z1 : m.z < 1
  · have H := Lib.hid (mem_size (size_no (.inl z1)))
    go_enter Try.func9, Try.ntmps9
    go_wp2
    go_ret
    exact ⟨ret_bool H.out.symm, B.out⟩
  by_cases z2 : 1000 < m.z
  · have H := Lib.hid (mem_size (size_no (.inr z2)))
    go_enter Try.func9, Try.ntmps9
    go_wp2
    go_ret
    exact ⟨ret_bool H.out.symm, B.out⟩
  by_cases n1 : 128 < m.cells.length
  · have H := Lib.hid (mem_cells (m := m) (cells_long n1))
    go_enter Try.func9, Try.ntmps9
    go_wp2
    go_ret
    exact ⟨ret_bool H.out.symm, B.out⟩
  by_cases n2 : 6000 < m.log.length
  · have H := Lib.hid (mem_log (m := m) (log_long n2))
    go_enter Try.func9, Try.ntmps9
    go_wp2
    go_ret
    exact ⟨ret_bool H.out.symm, B.out⟩
  have Z := Lib.hid (size_yes z1 z2)
  go_enter Try.func9, Try.ntmps9
  go_wp2
  generalize w.alloc (.cells #[.int .i64 m.z, .slice a m.cells.length cap, .slice a2 m.log.length cap2] 31) = wA at *
  go_loopw [3] (fun i wr => ∃ k : Nat, k ≤ m.cells.length ∧ i = .int .i64 k ∧ Hid ((m.cells.take k).all (cellB m.z) = true) ∧ Below wA.heap.size wA wr) (fun i _ => m.cells.length - (intOf i).toNat)
  case atStart => exact ⟨0, Nat.zero_le _, rfl, Lib.hid (by simp), Below.refl _ _⟩
  case round =>
    obtain ⟨k, hk, rfl, H, hb⟩ := hrel
    have KB := (K.out.below hb).now
    have k0 : wr.cell? ⟨w.heap.size, 0, none⟩ = some (.int .i64 m.z) := cur_cell KB 0
    have k1 : wr.cell? ⟨w.heap.size, 1, none⟩ = some (.slice a m.cells.length cap) := cur_cell KB 1
    have k2 : wr.cell? ⟨w.heap.size, 2, none⟩ = some (.slice a2 m.log.length cap2) := cur_cell KB 2
    have BB := Lib.hid hb
    by_cases hlt : k < m.cells.length
    · obtain ⟨a', cap', vs, e, _, _, r1, r2, r3⟩ := cellSIn_shape (C.out.below hb).now
      simp at e
      obtain ⟨rfl, rfl⟩ := e
      obtain ⟨b, off, y, yc, rfl, q, _, _⟩ := r1.cellAt r2 r3 hlt
      have HS := Lib.hid (gall_snoc (cellB m.z) m.cells k hlt)
      have HB := Lib.hid (gall_bad (cellB m.z) m.cells k hlt)
      have HC : Hid (cellB m.z m.cells[k] = decide ((m.cells[k].length : Int) = m.z)) := Lib.hid rfl
      clear r1 r2 r3 hb KB
      generalize m.cells[k].length = n at *
      by_cases hx : (n : Int) = m.z
      · have dB : ((n : Int) != m.z) = false := by simp [hx]
        have HX : Hid ((m.cells.take (k + 1)).all (cellB m.z) = true) := Lib.hid (by rw [HS.out, H.out, HC.out]; simp [hx])
        clear hx
        go_wp2
        go_quiet (fail)
        go_wp2
        go_roundw
        case rel => exact ⟨k + 1, by omega, by go_num, HX, below_seq BB.out (belowN _)⟩
        case measure => simp [intOf]; omega
      · have dB : ((n : Int) != m.z) = true := by simp [hx]
        have HX : Hid (memOkB m = false) := Lib.hid (mem_cells (cells_bad (HB.out (by rw [HC.out]; simp [hx]))))
        clear hx
        go_wp2
        go_quiet (fail)
        go_wp2
        go_ret
        exact ⟨ret_bool HX.out.symm, below_seq B.out (below_seq BB.out (belowN _))⟩
    · have HC := Lib.hid (cells_good n1 (gall_done (cellB m.z) m.cells k (by omega) H.out))
      clear hb KB H
      go_wp2
      go_loopw [4, 5] (fun i _ wr => ∃ k : Nat, k ≤ m.log.length ∧ i = .int .i64 k ∧ Hid ((m.log.take k).all (touchB m.z m.cells.length) = true) ∧ Below wA.heap.size wA wr) (fun i _ _ => m.log.length - (intOf i).toNat)
      case atStart => exact ⟨0, Nat.zero_le _, rfl, Lib.hid (by simp), BB.out⟩
      case round =>
        clear k0 k1 k2 BB hlt hk
        obtain ⟨k, hk, rfl, H, hb⟩ := hrel
        have KB := (K.out.below hb).now
        have k0 : wr.cell? ⟨w.heap.size, 0, none⟩ = some (.int .i64 m.z) := cur_cell KB 0
        have k1 : wr.cell? ⟨w.heap.size, 1, none⟩ = some (.slice a m.cells.length cap) := cur_cell KB 1
        have k2 : wr.cell? ⟨w.heap.size, 2, none⟩ = some (.slice a2 m.log.length cap2) := cur_cell KB 2
        have BB := Lib.hid hb
        by_cases hlt : k < m.log.length
        · obtain ⟨x', xc', e, _, _, hr⟩ := touchSIn_shape (T.out.below hb).now
          simp at e
          obtain ⟨rfl, rfl⟩ := e
          obtain ⟨b, off, rfl, q0, q1, q2⟩ := hr.touch hlt
          have hlw : w.heap.size < wr.heap.size := cur_lt KB
          have j0 : (wr.alloc (.cells #[.int .i64 m.log[k].op, .int .i64 m.log[k].ad, .int .i64 m.log[k].len] 54)).cell? ⟨w.heap.size, 0, none⟩ = some (.int .i64 m.z) := cell_keep k0 (below_box (Below.refl _ _) _)
          have j1 : (wr.alloc (.cells #[.int .i64 m.log[k].op, .int .i64 m.log[k].ad, .int .i64 m.log[k].len] 54)).cell? ⟨w.heap.size, 1, none⟩ = some (.slice a m.cells.length cap) := cell_keep k1 (below_box (Below.refl _ _) _)
          replace BB := Lib.hid (below_box BB.out (.cells #[.int .i64 m.log[k].op, .int .i64 m.log[k].ad, .int .i64 m.log[k].len] 54))
          have HS := Lib.hid (gall_snoc (touchB m.z m.cells.length) m.log k hlt)
          have HB := Lib.hid (gall_bad (touchB m.z m.cells.length) m.log k hlt)
          have HT := touch_cases m.z m.cells.length m.log[k].op m.log[k].ad m.log[k].len
          clear hr hb KB
          have e0 : (⟨m.log[k].op, m.log[k].ad, m.log[k].len⟩ : TouchM) = m.log[k] := rfl
          rw [e0] at HT
          generalize touchB m.z m.cells.length m.log[k] = tb at *
          clear e0
          generalize m.log[k].op = x at *
          generalize m.log[k].ad = y at *
          generalize m.log[k].len = u at *
          rcases HT with ⟨hT, hx, y1, y2, rfl⟩ | ⟨hF, hf⟩
          · have HX : Hid ((m.log.take (k + 1)).all (touchB m.z m.cells.length) = true) := Lib.hid (by rw [HS.out, H.out, hT]; rfl)
            clear hT HS HB
            rcases hx with rfl | rfl
            all_goals
              go_wp2
              go_roundw
              case rel => exact ⟨k + 1, by omega, by go_num, HX, BB.out⟩
              case measure => simp [intOf]; omega
          · have HX : Hid (memOkB m = false) := Lib.hid (mem_log (log_bad (HB.out hF)))
            clear hF HS HB
            rcases hf with ⟨x1, x2⟩ | ⟨hx, hf⟩
            · have d1 : (x != 1) = true := by simp [x1]
              have d2 : (x != 2) = true := by simp [x2]
              go_wp2
              go_ret
              exact ⟨ret_bool HX.out.symm, below_seq B.out BB.out⟩
            · rcases hf with hf | ⟨f1, f2⟩ | ⟨f1, f2, f3⟩
              · rcases hx with rfl | rfl
                all_goals
                  go_wp2
                  go_ret
                  exact ⟨ret_bool HX.out.symm, below_seq B.out BB.out⟩
              · rcases hx with rfl | rfl
                all_goals
                  go_wp2
                  go_ret
                  exact ⟨ret_bool HX.out.symm, below_seq B.out BB.out⟩
              · have d3 : (u != m.z) = true := by simp [f3]
                rcases hx with rfl | rfl
                all_goals
                  go_wp2
                  go_ret
                  exact ⟨ret_bool HX.out.symm, below_seq B.out BB.out⟩
        · have HX : Hid (memOkB m = true) := Lib.hid (mem_all Z.out HC.out (log_good n2 (gall_done (touchB m.z m.cells.length) m.log k (by omega) H.out)))
          clear hb KB H
          go_wp2
          go_ret
          exact ⟨ret_bool HX.out.symm, below_seq B.out BB.out⟩
end Go.Proofs.Ythllgpcdaimmgaa
