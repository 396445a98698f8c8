/- Bubble, Bitonic, OddEven in the model. -/
import Derived.Test.YtkifndcfmmdkpaaNtX
import Derived.Deep.DeepMust
namespace Go.Proofs.Ytkifndcfmmdkpaa
open Go.RowKit
set_option linter.unusedVariables false
set_option linter.unusedSimpArgs false
set_option maxRecDepth 100000

/-- A net under construction: the result's box holds zeros, the variable's box a net of the wires ws, in memory of its own. -/
def SBox (w : World) (n : Nat) (ws : List WireM) (a : Option Addr) (cap : Nat) (W : World) : Prop :=
  W.heap[w.heap.size]? = some (.cells #[.int .i64 0, .slice none 0 0] 26 (0, 0)) ∧ W.heap[w.heap.size + 1]? = some (.cells #[.int .i64 n, .slice a ws.length cap] 26 (0, 0)) ∧
  W.ownsRow (w.heap.size + 1 + 1) 63 2 (.slice a ws.length cap) ws.length (flatW ws) ∧ Below w.heap.size w W ∧ w.heap.size + 1 + 1 ≤ W.heap.size
theorem SBox.start (w : World) (n : Nat) : SBox w n [] none 0 ((w.alloc (.cells #[.int .i64 0, .slice none 0 0] 26)).alloc (.cells #[.int .i64 n, .slice none 0 0] 26)) :=
  ⟨(alloc_old _ _ _ (by simp)).trans (alloc_at _ _ _ rfl), alloc_at _ _ _ (by simp), ⟨rfl, .inl ⟨rfl, rfl⟩⟩, below_box (below_box (Below.refl _ _) _) _, by simp⟩
/-- One wire more. -/
theorem SBox.push {w W w1 : World} {n cap : Nat} {ws : List WireM} {a a' : Option Addr} {cap' m : Nat} {t : WireM} {o : Obj} (h : SBox w n ws a cap W) (ho : w1.ownsRow (w.heap.size + 1 + 1) 63 2 (.slice a' m cap') m (flatW ws ++ flatW [t])) (hg : (W.alloc o).grownBy w1 (Value.ownBlock (.slice a ws.length cap))) (hm : m = ws.length + 1) :
    SBox w n (ws ++ [t]) a' cap' (w1.setCell ⟨w.heap.size + 1, 1, none⟩ (.slice a' m cap')) ∧ w1.cell? ⟨w.heap.size + 1, 1, none⟩ = some (.slice a ws.length cap) ∧ w1.frozen? ⟨w.heap.size + 1, 1, none⟩ = false := by
  obtain ⟨h1, h2, h3, h4, h5⟩ := h
  have o3 := h3.alloc o
  have k2 : (W.alloc o).heap[w.heap.size + 1]? = _ := (alloc_old _ _ _ (cur_lt h2)).trans h2
  have k1 : (W.alloc o).heap[w.heap.size]? = _ := (alloc_old _ _ _ (cur_lt h1)).trans h1
  have q2 := kept_grown k2 hg (own_other o3 k2 (by decide))
  have q1 := kept_grown k1 hg (own_other o3 k1 (by decide))
  subst hm
  refine ⟨⟨(Below.heap_setCell _ _ _ _ (by simp)).trans q1, ?_, ?_, ?_, ?_⟩, cur_cell q2 1, cur_free q2 1⟩
  · have := cur_set q2 1 (.slice a' (ws.length + 1) cap')
    simpa using this
  · have := ho.kept (set_grown w1 (w.heap.size + 1) 1 (.slice a' (ws.length + 1) cap')) (.inr (own_other ho q2 (by decide)))
    rw [flatW_app]
    simpa using this
  · exact ((below_box h4 o).grown hg (by simp; omega) (fun i hi => by have := (h3.lt i hi).1; omega)).setCell (p := ⟨w.heap.size + 1, 1, none⟩) (by simp) _
  · have := hg.size
    simp at this ⊢
    omega
theorem SBox.row (W : World) (t : WireM) : Row (W.alloc (.cells #[.int .i64 t.a, .int .i64 t.b] 63)) (some ⟨W.heap.size, 0, none⟩) (flatW [t]) := by
  refine .inr ⟨_, _, rfl, fun i hi => ?_⟩
  have hi2 : i < 2 := by simpa [flatW] using hi
  have e := alloc_at W (.cells #[.int .i64 t.a, .int .i64 t.b] 63) _ rfl
  rw [Nat.zero_add]
  rcases (show i = 0 ∨ i = 1 from by omega) with rfl | rfl
  · exact cur_cell e 0
  · exact cur_cell e 1
/-- The net returned. -/
theorem SBox.fin {w W : World} {n cap : Nat} {ws : List WireM} {a : Option Addr} (h : SBox w n ws a cap W) (u v : Value) :
    NetOwn w.heap.size ((W.setCell ⟨w.heap.size, 0, none⟩ u).setCell ⟨w.heap.size, 1, none⟩ v).heap.size [.int .i64 n, .slice a ws.length cap] ⟨n, ws⟩ ((W.setCell ⟨w.heap.size, 0, none⟩ u).setCell ⟨w.heap.size, 1, none⟩ v) ∧ Below w.heap.size w ((W.setCell ⟨w.heap.size, 0, none⟩ u).setCell ⟨w.heap.size, 1, none⟩ v) := by
  obtain ⟨h1, h2, h3, h4, h5⟩ := h
  refine ⟨⟨_, rfl, ?_⟩, (h4.setCell (p := ⟨w.heap.size, 0, none⟩) (by simp) _).setCell (p := ⟨w.heap.size, 1, none⟩) (by simp) _⟩
  exact (((WireSOwn.mk h3).lies (Nat.le_refl _)).sup _ (fun k k1 k2 => (Below.heap_setCell _ _ _ k (by simp; omega)).trans (Below.heap_setCell _ _ _ k (by simp; omega)))).wide (by omega) (by simp)
theorem nei_stop (r : Nat) : ∀ n, r ≤ n → stepW (neiF r) n = stepW (neiF r) r
  | 0, h => by obtain rfl : r = 0 := by omega
               rfl
  | n + 1, h => by
    by_cases e : r = n + 1
    · rw [e]
    · rw [stepW_succ, nei_stop r n (by omega), wireAt_no (by unfold neiF; rw [if_pos (by omega)]; omega), List.append_nil]
set_option maxHeartbeats 4000000 in
theorem uSpecBubble (z : Int) (w : World) (b0 : -9223372036854775808 ≤ z ∧ z ≤ 9223372036854775807) : Calls Try.prog 49 #[.int .i64 z] w (NetRet (bubbleM z) w) := by
  by_cases h : 1 ≤ z ∧ z ≤ 64
  · obtain ⟨n, rfl⟩ : ∃ n : Nat, z = n := ⟨z.toNat, by omega⟩
    have E : Hid (bubbleM (n : Int) = ⟨n, allW n (bubS (n - 1))⟩) := Lib.hid (by unfold bubbleM; rw [if_pos h]; simp)
    obtain ⟨h1, h2⟩ := h
    have S0 := Lib.hid (SBox.start w n)
    go_enter Try.func49, Try.ntmps49
    go_wp2
    go_loopw [4, 5] (fun i _ wr => ∃ (r : Nat) (ws : List WireM) (a : Option Addr) (cap : Nat), r ≤ n - 1 ∧ i = .int .i64 r ∧ Hid (SBox w n ws a cap wr ∧ ws ++ allW n (bubS r) = allW n (bubS (n - 1))) ∧ ws.length ≤ (n - 1 - r) * 64) (fun i _ _ => (intOf i).toNat)
    case atStart => exact ⟨n - 1, [], none, 0, Nat.le_refl _, by congr 1; omega, Lib.hid ⟨S0.out, rfl⟩, by simp⟩
    case round =>
      clear S0
      obtain ⟨r, ws, a, cap, hr, rfl, H, hl⟩ := hrel
      cases r with
      | zero =>
        obtain ⟨hB, hE⟩ := H.out
        have c0 : wr.cell? ⟨w.heap.size + 1, 0, none⟩ = some (.int .i64 n) := cur_cell hB.2.1 0
        have c1 : wr.cell? ⟨w.heap.size + 1, 1, none⟩ = some (.slice a ws.length cap) := cur_cell hB.2.1 1
        have r0 : wr.cell? ⟨w.heap.size, 0, none⟩ = some (.int .i64 0) := cur_cell hB.1 0
        have r1 : wr.cell? ⟨w.heap.size, 1, none⟩ = some (.slice none 0 0) := cur_cell hB.1 1
        have f0 := cur_free hB.1 0
        have f1 := cur_free hB.1 1
        have R := Lib.hid (fun u v => hB.fin u v)
        have EE : Hid (ws = allW n (bubS (n - 1))) := Lib.hid (by simpa [bubS, allW] using hE)
        clear hB hE H hl
        go_wp2
        exact bodyPost_ret (v := .agg #[.int .i64 n, .slice a ws.length cap]) (by simp [results, Try.results49, go_sem, r0, r1]) rfl ⟨_, _, rfl, by rw [E.out, ← EE.out]; exact (R.out _ _).1, (R.out _ _).2⟩
      | succ r =>
        have hrl : ws.length ≤ 4032 := Nat.le_trans hl (Nat.mul_le_mul (show n - 1 - (r + 1) ≤ 63 by omega) (Nat.le_refl 64))
        have HL := Lib.hid hl
        have HE : Hid (ws ++ (stepW (neiF (r + 1)) n ++ allW n (bubS r)) = allW n (bubS (n - 1))) := Lib.hid H.out.2
        have S1 : Hid (SBox w n (ws ++ stepW (neiF (r + 1)) 0) a cap wr) := Lib.hid (by rw [stepW_zero, List.append_nil]; exact H.out.1)
        clear H hl
        go_wp2
        go_loopw [5] (fun i wq => ∃ (p : Nat) (a : Option Addr) (cap : Nat), p ≤ r + 1 ∧ i = .int .i64 p ∧ Hid (SBox w n (ws ++ stepW (neiF (r + 1)) p) a cap wq)) (fun i _ => r + 1 - (intOf i).toNat)
        case atStart => exact ⟨0, a, cap, Nat.zero_le _, rfl, S1⟩
        case round =>
          clear S1
          obtain ⟨p, a2, cap2, hp, rfl, H⟩ := hrel
          have hsl := stepW_length (neiF (r + 1)) p
          by_cases hlt : p < r + 1
          · have hB := H.out
            have EW : Hid (ws ++ stepW (neiF (r + 1)) (p + 1) = (ws ++ stepW (neiF (r + 1)) p) ++ [⟨(p : Int), (p : Int) + 1⟩]) := Lib.hid (by
              have e : neiF (r + 1) p = p + 1 := by unfold neiF; rw [if_neg (by omega)]
              rw [stepW_succ, wireAt_yes (by omega), e, List.append_assoc]
              simp)
            have hlen : (ws ++ stepW (neiF (r + 1)) p).length ≤ 4096 := by rw [List.length_append]; omega
            have c1 : wr.cell? ⟨w.heap.size + 1, 1, none⟩ = some (.slice a2 (ws ++ stepW (neiF (r + 1)) p).length cap2) := cur_cell hB.2.1 1
            have FL := Lib.hid (flatW_len (ws ++ stepW (neiF (r + 1)) p))
            generalize ws ++ stepW (neiF (r + 1)) p = xs at *
            have O := Lib.hid (hB.2.2.1.alloc (.cells #[.int .i64 (p : Int), .int .i64 ((p : Int) + 1)] 63))
            have RW := Lib.hid (SBox.row wr ⟨(p : Int), (p : Int) + 1⟩)
            have hsz : w.heap.size + 1 + 1 ≤ wr.heap.size := hB.2.2.2.2
            clear hB
            go_wp2_with (at_builtin; go_must (refine wp_app_rowS rfl _ _ 24 rfl 63 _ 2 16 Try.underlying24 Try.infoWire rfl (by omega) (w.heap.size + 1 + 1) xs.length (.slice a2 xs.length cap2) (flatW xs) (by rfl) O.out (some ⟨wr.heap.size, 0, none⟩) 1 1 (flatW [⟨(p : Int), (p : Int) + 1⟩]) (by rfl) rfl RW.out (flatW_one _) (by unfold maxLen; omega) (by omega) (by simp; omega) ?_); intro v3 w3 ho3 hg3; obtain ⟨a3, c3, rfl⟩ := own_shape ho3; obtain ⟨P1, P2, P3⟩ := H.out.push ho3 hg3 rfl; have PP := Lib.hid P1; clear ho3 hg3 P1)
            go_roundw
            case rel => exact ⟨p + 1, by omega, by omega, a3, c3, by rw [EW.out]; exact PP⟩
            case measure => simp [intOf]; omega
          · obtain rfl : p = r + 1 := by omega
            have e : Hid (stepW (neiF (r + 1)) n = stepW (neiF (r + 1)) (r + 1)) := Lib.hid (nei_stop (r + 1) n (by omega))
            have NX : Hid (SBox w n (ws ++ stepW (neiF (r + 1)) (r + 1)) a2 cap2 wr ∧ (ws ++ stepW (neiF (r + 1)) (r + 1)) ++ allW n (bubS r) = allW n (bubS (n - 1))) := Lib.hid ⟨H.out, by rw [← HE.out, e.out, List.append_assoc]⟩
            have NL : (ws ++ stepW (neiF (r + 1)) (r + 1)).length ≤ (n - 1 - r) * 64 := by
              have h1 := HL.out
              rw [List.length_append]
              have h3 : (n - 1 - r) * 64 = (n - 1 - (r + 1)) * 64 + 64 := by rw [show n - 1 - r = n - 1 - (r + 1) + 1 from by omega, Nat.succ_mul]
              omega
            go_wp2
            go_roundw
            case rel => exact ⟨r, _, a2, cap2, by omega, by go_num, NX, NL⟩
            case measure => simp [intOf]
  · have E : Hid (bubbleM z = ⟨0, []⟩) := Lib.hid (by unfold bubbleM; rw [if_neg h])
    by_cases h1 : z < 1
    · go_enter Try.func49, Try.ntmps49
      go_wp2
      exact bodyPost_ret (v := .agg #[.int .i64 0, .slice none 0 0]) (by simp [results, Try.results49, go_sem]) rfl ⟨_, _, rfl, by rw [E.out]; exact netZero_ret w _ _, below_box (Below.refl _ _) _⟩
    · have h2 : 64 < z := by omega
      go_enter Try.func49, Try.ntmps49
      go_wp2
      exact bodyPost_ret (v := .agg #[.int .i64 0, .slice none 0 0]) (by simp [results, Try.results49, go_sem]) rfl ⟨_, _, rfl, by rw [E.out]; exact netZero_ret w _ _, below_box (Below.refl _ _) _⟩
end Go.Proofs.Ytkifndcfmmdkpaa
