/- NetOk, in the program and in the model. -/
import Derived.Test.YtaedamnhobcdlaaNetP
namespace Go.Proofs.Ytaedamnhobcdlaa
open Go.RowKit
set_option linter.unusedVariables false
set_option maxRecDepth 100000

theorem implSizeOk (z : Int) (w : World) : Calls Try.prog 50 #[.int .i64 z] w fun e w' => e = .returned (.bool (decide (1 ≤ z ∧ z ≤ 64))) ∧ w = w' := by
  by_cases h1 : 1 ≤ z
  · by_cases h2 : z ≤ 64
    · have hr : decide (1 ≤ z ∧ z ≤ 64) = true := by simp [h1, h2]
      rw [hr]
      go_enter Try.func50, Try.ntmps50
      go_wp2
      go_ret
      exact ⟨rfl, rfl⟩
    · have hr : decide (1 ≤ z ∧ z ≤ 64) = false := by simp [h2]
      rw [hr]
      go_enter Try.func50, Try.ntmps50
      go_wp2
      go_ret
      exact ⟨rfl, rfl⟩
  · have hr : decide (1 ≤ z ∧ z ≤ 64) = false := by simp [h1]
    rw [hr]
    go_enter Try.func50, Try.ntmps50
    go_wp2
    go_ret
    exact ⟨rfl, rfl⟩
/-- A net in a block of its own. -/
def NetAt (w : World) (b : Nat) (c : Value) (m : NetM) : Prop := w.heap[b]? = some (.cells #[.int .i64 m.n, c] 36 (0, 0)) ∧ WireSIn [c] m.ws w
theorem NetAt.below {w w' : World} {b : Nat} {c : Value} {m : NetM} (h : NetAt w b c m) (hb : Below w.heap.size w w') : NetAt w' b c m := ⟨kept_block h.1 hb, h.2.below hb⟩
theorem NetAt.box {w : World} {c0 c1 : Value} {m : NetM} (h : NetIn [c0, c1] m w) : NetAt (w.alloc (.cells #[c0, c1] 36)) w.heap.size c1 m := by
  obtain ⟨rfl, h1⟩ := netIn_shape h
  exact ⟨alloc_at _ _ _ rfl, h1.below (below_box (Below.refl _ _) _)⟩
set_option maxHeartbeats 2000000 in
theorem implValid (b : Nat) (c : Value) (m : NetM) (w : World) (h : NetAt w b c m) :
    Calls Try.prog 48 #[.pointer (some ⟨b, 0, none⟩)] w fun e w' => e = .returned (.bool (netOkB m)) ∧ Below w.heap.size w w' := by
  obtain ⟨hk, hw⟩ := h
  obtain ⟨a1, cap1, rfl, _, hm, r⟩ := wireSIn_shape hw
  unfold maxLen at hm
  have q0 : w.cell? ⟨b, 0, none⟩ = some (.int .i64 m.n) := cur_cell hk 0
  have q1 : w.cell? ⟨b, 1, none⟩ = some (.slice a1 m.ws.length cap1) := cur_cell hk 1
  have K := Lib.hid hk
  have R := Lib.hid r
  clear hw hk r
  by_cases hs : 1 ≤ m.n ∧ m.n ≤ 64
  · have S := Lib.hid (implSizeOk m.n)
    rw [show decide (1 ≤ m.n ∧ m.n ≤ 64) = true from decide_eq_true hs] at S
    obtain ⟨hs1, hs2⟩ := hs
    by_cases hl : 2100 < m.ws.length
    · have E := Lib.hid (netOkB_long hl)
      have hl' : (2100 : Int) < (m.ws.length : Int) := by omega
      go_enter Try.func48, Try.ntmps48
      go_wp2_with (go_at_call 50; refine (S.out _).mono ?_; rintro e w1 ⟨rfl, rfl⟩)
      go_ret
      exact ⟨by rw [E.out]; rfl, Below.refl _ _⟩
    · have hl' : ¬ (2100 : Int) < (m.ws.length : Int) := by omega
      go_enter Try.func48, Try.ntmps48
      go_wp2_with (go_at_call 50; refine (S.out _).mono ?_; rintro e w1 ⟨rfl, rfl⟩)
      clear S
      go_loopw [24, 4] (fun i _ wr => ∃ k : Nat, k ≤ m.ws.length ∧ i = .int .i64 k ∧ Hid (Below w.heap.size w wr ∧ ∀ (j : Nat) (hj : j < m.ws.length), j < k → wireB m.n m.ws[j] = true)) (fun i _ _ => m.ws.length - (intOf i).toNat)
      case atStart => exact ⟨0, Nat.zero_le _, rfl, Lib.hid ⟨Below.refl _ _, fun j _ hj => absurd hj (by omega)⟩⟩
      case round =>
        clear q0 q1
        obtain ⟨k, hk, rfl, H⟩ := hrel
        by_cases hlt : k < m.ws.length
        · obtain ⟨b1, o1, rfl, p0, p1⟩ := (R.out.below H.out.1).wire hlt
          have B1 := Lib.hid (below_box H.out.1 (.cells #[.int .i64 m.ws[k].a, .int .i64 m.ws[k].b] 87))
          have q0 : wr.cell? ⟨b, 0, none⟩ = some (.int .i64 m.n) := cur_cell (kept_block K.out H.out.1) 0
          have hbl : b < wr.heap.size := cur_lt (kept_block K.out H.out.1)
          have q0' : (wr.alloc (.cells #[.int .i64 m.ws[k].a, .int .i64 m.ws[k].b] 87)).cell? ⟨b, 0, none⟩ = some (.int .i64 m.n) := cell_keep q0 (below_box (Below.refl _ _) _)
          by_cases h1 : m.ws[k].a < 0
          · have E := Lib.hid (netOkB_bad hlt (by unfold wireB; simp; omega))
            have d1 : decide (m.ws[k].a < 0) = true := decide_eq_true h1
            generalize m.ws[k].a = x at *
            generalize m.ws[k].b = y at *
            go_wp2_with fail
            go_quiet (fail)
            go_wp2
            go_ret
            exact ⟨by rw [E.out]; rfl, below_seq B1.out (belowN _)⟩
          · have d1 : decide (m.ws[k].a < 0) = false := decide_eq_false h1
            by_cases h2 : m.ws[k].b ≤ m.ws[k].a
            · have E := Lib.hid (netOkB_bad hlt (by unfold wireB; simp; omega))
              have d2 : decide (m.ws[k].b ≤ m.ws[k].a) = true := decide_eq_true h2
              generalize m.ws[k].a = x at *
              generalize m.ws[k].b = y at *
              go_wp2_with fail
              go_quiet (fail)
              go_wp2
              go_ret
              exact ⟨by rw [E.out]; rfl, below_seq B1.out (belowN _)⟩
            · have d2 : decide (m.ws[k].b ≤ m.ws[k].a) = false := decide_eq_false h2
              by_cases h3 : m.n ≤ m.ws[k].b
              · have E := Lib.hid (netOkB_bad hlt (by unfold wireB; simp; omega))
                have d3 : decide (m.n ≤ m.ws[k].b) = true := decide_eq_true h3
                generalize m.ws[k].a = x at *
                generalize m.ws[k].b = y at *
                go_wp2_with fail
                go_quiet (fail)
                go_wp2
                go_ret
                exact ⟨by rw [E.out]; rfl, below_seq B1.out (belowN _)⟩
              · have d3 : decide (m.n ≤ m.ws[k].b) = false := decide_eq_false h3
                have N : Hid (∀ (j : Nat) (hj : j < m.ws.length), j < k + 1 → wireB m.n m.ws[j] = true) := Lib.hid (fun j hj hj2 => by
                  by_cases e : j = k
                  · subst e; unfold wireB; simp; omega
                  · exact H.out.2 j hj (by omega))
                generalize m.ws[k].a = x at *
                generalize m.ws[k].b = y at *
                go_wp2_with fail
                go_quiet (fail)
                go_wp2
                go_roundw
                case rel => exact ⟨k + 1, by omega, by go_num, Lib.hid ⟨below_seq B1.out (belowN _), N.out⟩⟩
                case measure => simp [intOf]; omega
        · have E := Lib.hid (netOkB_all hs1 hs2 (by omega) (fun j hj => H.out.2 j hj (by omega)))
          go_wp2
          go_ret
          exact ⟨by rw [E.out]; rfl, H.out.1⟩
  · have S := Lib.hid (implSizeOk m.n)
    rw [show decide (1 ≤ m.n ∧ m.n ≤ 64) = false from decide_eq_false hs] at S
    have E := Lib.hid (netOkB_size hs)
    go_enter Try.func48, Try.ntmps48
    go_wp2_with (go_at_call 50; refine (S.out _).mono ?_; rintro e w1 ⟨rfl, rfl⟩)
    go_ret
    exact ⟨by rw [E.out]; rfl, Below.refl _ _⟩
set_option maxHeartbeats 2000000 in
theorem uSpecNetOk (c0 c1 : Value) (m : NetM) (w : World) (h : NetIn [c0, c1] m w) : Calls Try.prog 65 #[.agg #[c0, c1]] w fun e w' => e = .returned (.bool (netOkB m)) ∧ Below w.heap.size w w' := by
  obtain ⟨a1, cap1, rfl, rfl, _, hm, r⟩ := netIn_cells h
  unfold maxLen at hm
  have R := Lib.hid r
  clear h r
  by_cases h1 : m.n < 1
  · have E := Lib.hid (netOkB_size (m := m) (by omega))
    go_enter Try.func65, Try.ntmps65
    go_wp2
    go_ret
    exact ⟨by rw [E.out]; rfl, below_box (Below.refl _ _) _⟩
  · by_cases h2 : 64 < m.n
    · have E := Lib.hid (netOkB_size (m := m) (by omega))
      go_enter Try.func65, Try.ntmps65
      go_wp2
      go_ret
      exact ⟨by rw [E.out]; rfl, below_box (Below.refl _ _) _⟩
    · by_cases hl : 2100 < m.ws.length
      · have E := Lib.hid (netOkB_long hl)
        have hl' : (2100 : Int) < (m.ws.length : Int) := by omega
        go_enter Try.func65, Try.ntmps65
        go_wp2
        go_ret
        exact ⟨by rw [E.out]; rfl, below_box (Below.refl _ _) _⟩
      · have K0 := Lib.hid (alloc_at w (.cells #[.int .i64 m.n, .slice a1 m.ws.length cap1] 36) _ rfl)
        have B0 := Lib.hid (below_box (Below.refl w.heap.size w) (.cells #[.int .i64 m.n, .slice a1 m.ws.length cap1] 36))
        go_enter Try.func65, Try.ntmps65
        go_wp2
        go_loopw [3, 4] (fun i _ wr => ∃ k : Nat, k ≤ m.ws.length ∧ i = .int .i64 k ∧ Hid (Below w.heap.size w wr ∧ wr.heap[w.heap.size]? = some (.cells #[.int .i64 m.n, .slice a1 m.ws.length cap1] 36 (0, 0)) ∧ ∀ (j : Nat) (hj : j < m.ws.length), j < k → wireB m.n m.ws[j] = true)) (fun i _ _ => m.ws.length - (intOf i).toNat)
        case atStart => exact ⟨0, Nat.zero_le _, rfl, Lib.hid ⟨B0.out, K0.out, fun j _ hj => absurd hj (by omega)⟩⟩
        case round =>
          obtain ⟨k, hk, rfl, H⟩ := hrel
          have q0 : wr.cell? ⟨w.heap.size, 0, none⟩ = some (.int .i64 m.n) := cur_cell H.out.2.1 0
          have q1 : wr.cell? ⟨w.heap.size, 1, none⟩ = some (.slice a1 m.ws.length cap1) := cur_cell H.out.2.1 1
          by_cases hlt : k < m.ws.length
          · obtain ⟨b1, o1, rfl, p0, p1⟩ := (R.out.below H.out.1).wire hlt
            have B1 := Lib.hid (below_box H.out.1 (.cells #[.int .i64 m.ws[k].a, .int .i64 m.ws[k].b] 87))
            have hbl : w.heap.size < wr.heap.size := cur_lt H.out.2.1
            have q0' : (wr.alloc (.cells #[.int .i64 m.ws[k].a, .int .i64 m.ws[k].b] 87)).cell? ⟨w.heap.size, 0, none⟩ = some (.int .i64 m.n) := cell_keep q0 (below_box (Below.refl _ _) _)
            have KN := Lib.hid ((alloc_old wr (.cells #[.int .i64 m.ws[k].a, .int .i64 m.ws[k].b] 87) w.heap.size hbl).trans H.out.2.1)
            by_cases g1 : m.ws[k].a < 0
            · have E := Lib.hid (netOkB_bad hlt (by unfold wireB; simp; omega))
              generalize m.ws[k].a = x at *
              generalize m.ws[k].b = y at *
              go_wp2
              go_ret
              exact ⟨by rw [E.out]; rfl, B1.out⟩
            · by_cases g2 : m.ws[k].b ≤ m.ws[k].a
              · have E := Lib.hid (netOkB_bad hlt (by unfold wireB; simp; omega))
                generalize m.ws[k].a = x at *
                generalize m.ws[k].b = y at *
                go_wp2
                go_ret
                exact ⟨by rw [E.out]; rfl, B1.out⟩
              · by_cases g3 : m.n ≤ m.ws[k].b
                · have E := Lib.hid (netOkB_bad hlt (by unfold wireB; simp; omega))
                  generalize m.ws[k].a = x at *
                  generalize m.ws[k].b = y at *
                  go_wp2
                  go_ret
                  exact ⟨by rw [E.out]; rfl, B1.out⟩
                · have N : Hid (∀ (j : Nat) (hj : j < m.ws.length), j < k + 1 → wireB m.n m.ws[j] = true) := Lib.hid (fun j hj hj2 => by
                    by_cases e : j = k
                    · subst e; unfold wireB; simp; omega
                    · exact H.out.2.2 j hj (by omega))
                  generalize m.ws[k].a = x at *
                  generalize m.ws[k].b = y at *
                  go_wp2
                  go_roundw
                  case rel => exact ⟨k + 1, by omega, by go_num, Lib.hid ⟨B1.out, KN.out, N.out⟩⟩
                  case measure => simp [intOf]; omega
          · have E := Lib.hid (netOkB_all (m := m) (by omega) (by omega) (by omega) (fun j hj => H.out.2.2 j hj (by omega)))
            go_wp2
            go_ret
            exact ⟨by rw [E.out]; rfl, H.out.1⟩
end Go.Proofs.Ytaedamnhobcdlaa
