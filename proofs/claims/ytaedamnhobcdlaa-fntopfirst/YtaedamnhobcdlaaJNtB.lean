/- NtB in one. Written by tools/join.py. -/
import Derived.Test.YtaedamnhobcdlaaJNtX
section
namespace Go.Proofs.Ytaedamnhobcdlaa
open Go.RowKit
set_option linter.unusedVariables false
set_option linter.unusedSimpArgs false
set_option maxRecDepth 100000

set_option maxHeartbeats 1000000 in
theorem specTwo (z : Int) (w : World) : Calls Try.prog 87 #[.int .i64 z] w fun e w' => e = .returned (.bool (twoZ z)) ∧ w = w' := by
  by_cases h : z = 1 ∨ z = 2 ∨ z = 4 ∨ z = 8 ∨ z = 16 ∨ z = 32 ∨ z = 64
  · have E : Hid (twoZ z = true) := Lib.hid (by rcases h with rfl | rfl | rfl | rfl | rfl | rfl | rfl <;> decide)
    rcases h with rfl | rfl | rfl | rfl | rfl | rfl | rfl <;>
    · go_enter Try.func87, Try.ntmps87
      go_wp2
      go_ret
      exact ⟨by rw [E.out]; rfl, rfl⟩
  · have E : Hid (twoZ z = false) := Lib.hid (by
      rw [Bool.eq_false_iff]
      intro hz
      obtain ⟨n, rfl, hn⟩ := twoZ_nat hz
      unfold isTwo at hn
      omega)
    have d1 : (z == 1) = false := by simp; omega
    have d2 : (z == 2) = false := by simp; omega
    have d3 : (z == 4) = false := by simp; omega
    have d4 : (z == 8) = false := by simp; omega
    have d5 : (z == 16) = false := by simp; omega
    have d6 : (z == 32) = false := by simp; omega
    have d7 : (z == 64) = false := by simp; omega
    clear h
    go_enter Try.func87, Try.ntmps87
    go_wp2
    go_ret
    exact ⟨by rw [E.out]; rfl, rfl⟩
set_option maxHeartbeats 8000000 in
theorem uSpecBitonic (z : Int) (w : World) (b0 : -9223372036854775808 ≤ z ∧ z ≤ 9223372036854775807) : Calls Try.prog 59 #[.int .i64 z] w (NetRet (bitonicM z) w) := by
  have TW := Lib.hid (specTwo z)
  cases ht : twoZ z with
  | false =>
    rw [ht] at TW
    have E : Hid (bitonicM z = ⟨0, []⟩) := Lib.hid (by unfold bitonicM; simp [ht])
    clear ht
    go_enter Try.func59, Try.ntmps59
    go_wp2_with fail
    refine (TW.out _).mono ?_
    rintro e w2 ⟨rfl, rfl⟩
    go_wp2
    exact bodyPost_ret (v := .agg #[.int .i64 0, .slice none 0 0]) (by simp [results, Try.results59, go_sem]) rfl ⟨_, _, rfl, by rw [E.out]; exact netZero_ret w _ _, below_box (Below.refl _ _) _⟩
  | true =>
    obtain ⟨n, rfl, hn⟩ := twoZ_nat ht
    rw [ht] at TW
    have E : Hid (bitonicM (n : Int) = ⟨n, allW n (bitS n)⟩) := Lib.hid (by unfold bitonicM; rw [if_pos ht]; simp)
    obtain ⟨h1, h2⟩ := isTwo_le hn
    have HT : Hid ((allW n (bitS n)).length ≤ 2688) := Lib.hid (by
      have g1 := allW_length n (bitS n)
      have g3 : (bitS n).length ≤ 42 := ups_length _ _ n 6 2
      have g2 : (bitS n).length * n ≤ 42 * 64 := Nat.mul_le_mul g3 (by omega)
      omega)
    have S0 := Lib.hid (SBox.start w n)
    clear ht hn
    go_enter Try.func59, Try.ntmps59
    go_wp2_with fail
    refine (TW.out _).mono ?_
    rintro e w2 ⟨rfl, rfl⟩
    clear TW
    go_wp2
    go_loopw [4, 5, 6, 7, 8] (fun i _ _ _ _ wr => ∃ (s j : Nat) (ws : List WireM) (a : Option Addr) (cap : Nat), i = .int .i64 s ∧ 2 ≤ s ∧ s ≤ 128 ∧ s % 2 = 0 ∧ Hid (s * 2 ^ j = 128) ∧ Hid (ws ++ allW n (ups mirF (fun _ => halF) n j s) = allW n (bitS n)) ∧ Hid (SBox w n ws a cap wr)) (fun i _ _ _ _ _ => 200 - (intOf i).toNat)
    case atStart => exact ⟨2, 6, [], none, 0, rfl, by omega, by omega, rfl, Lib.hid rfl, Lib.hid rfl, S0⟩
    case round =>
      clear S0
      obtain ⟨s, j, ws, a, cap, rfl, hs2, hs128, hsev, HJ, HEs, HB⟩ := hrel
      by_cases hsn : s ≤ n
      · obtain ⟨j', rfl⟩ : ∃ j', j = j' + 1 := by
          cases j with
          | zero => have := HJ.out; simp at this; omega
          | succ j' => exact ⟨j', rfl⟩
        have HJ2 : Hid (2 * s * 2 ^ j' = 128) := Lib.hid (by have := HJ.out; rw [Nat.pow_succ] at this; rw [← this, Nat.mul_comm 2 s, Nat.mul_assoc, Nat.mul_comm 2 (2 ^ j')])
        have HE : Hid (ws ++ (stepW (mirF s) n ++ (allW n (downs ((fun _ => halF) s) 6 (s / 4)) ++ allW n (ups mirF (fun _ => halF) n j' (2 * s)))) = allW n (bitS n)) := Lib.hid (by
          have := HEs.out
          rw [ups, if_pos hsn, List.cons_append, allW, allW_app] at this
          exact this)
        clear HEs HJ
        have S1 : Hid (SBox w n (ws ++ stepW (mirF s) 0) a cap wr) := Lib.hid (by rw [stepW_zero, List.append_nil]; exact HB.out)
        have HLN : Hid (∀ p, p ≤ n → (ws ++ stepW (mirF s) p).length ≤ 2688) := Lib.hid (fun p hp => by
          obtain ⟨rest, hr⟩ := stepW_split (mirF s) (n - p) p
          rw [show p + (n - p) = n from by omega] at hr
          have h := congrArg List.length HE.out
          rw [hr] at h
          simp only [List.length_append] at h ⊢
          have := HT.out
          omega)
        clear HB
        go_wp2
        go_loopw [5, 6] (fun i _ wq => ∃ (p : Nat) (a : Option Addr) (cap : Nat), p ≤ n ∧ i = .int .i64 p ∧ Hid (SBox w n (ws ++ stepW (mirF s) p) a cap wq)) (fun i _ _ => n - (intOf i).toNat)
        case atStart => exact ⟨0, a, cap, Nat.zero_le _, rfl, S1⟩
        case round =>
          clear S1
          obtain ⟨p, a2, cap2, hp, rfl, H⟩ := hrel
          have hlen := HLN.out p hp
          by_cases hlt : p < n
          · have e1 : (p : Int) % (s : Int) = ((p % s : Nat) : Int) := by simp
            have hqp : p % s ≤ p := Nat.mod_le _ _
            have hqs : p % s < s := Nat.mod_lt _ (by omega)
            have hs0 : s ≠ 0 := by omega
            have EM := Lib.hid (show mirF s p = if s / 2 ≤ p % s then p else p - p % s + s - 1 - p % s from rfl)
            generalize p % s = q at *
            by_cases g : s / 2 ≤ q
            · have NW : Hid (SBox w n (ws ++ stepW (mirF s) (p + 1)) a2 cap2 wr) := Lib.hid (by rw [stepW_succ, wireAt_no (by rw [show mirF s p = p from by rw [EM.out, if_pos g]]; omega), List.append_nil]; exact H.out)
              go_wp2
              go_roundw
              case rel => first | exact ⟨p + 1, a2, cap2, by omega, by go_num, NW⟩ | exact ⟨p + 1, by omega, by omega, a2, cap2, NW⟩ | exact ⟨p + 1, by omega, by go_num, a2, cap2, NW⟩
              case measure => simp [intOf]; omega
            · have EM2 : mirF s p = p - q + s - 1 - q := by rw [EM.out, if_neg g]
              have e : ((mirF s p : Nat) : Int) = (p : Int) - q + s - 1 - q := by omega
              have EW : Hid (ws ++ stepW (mirF s) (p + 1) = (ws ++ stepW (mirF s) p) ++ [⟨(p : Int), (p : Int) - q + s - 1 - q⟩]) := Lib.hid (by rw [stepW_succ, wireAt_yes (by omega), e, List.append_assoc])
              have hB := H.out
              have c1 : wr.cell? ⟨w.heap.size + 1, 1, none⟩ = some (.slice a2 (ws ++ stepW (mirF s) p).length cap2) := cur_cell hB.2.1 1
              generalize hxs : ws ++ stepW (mirF s) p = xs at *
              have O := Lib.hid (hB.2.2.1.alloc (.cells #[.int .i64 (p : Int), .int .i64 ((p : Int) - q + s - 1 - q)] 87))
              have RW := Lib.hid (SBox.row wr ⟨(p : Int), (p : Int) - q + s - 1 - q⟩)
              have hsz : w.heap.size + 1 + 1 ≤ wr.heap.size := hB.2.2.2.2
              clear hB e hxs
              go_wp2_with (at_builtin; go_must (refine wp_app_rowS rfl _ _ 34 rfl 87 _ 2 16 Try.underlying34 Try.infoWire rfl (by omega) (w.heap.size + 1 + 1) xs.length (.slice a2 xs.length cap2) (flatW xs) (by rfl) O.out (some ⟨wr.heap.size, 0, none⟩) 1 1 (flatW [⟨(p : Int), (p : Int) - q + s - 1 - q⟩]) (by rfl) rfl RW.out (flatW_one _) (by unfold maxLen; omega) (by omega) (by simp; omega) ?_); intro v3 w3 ho3 hg3; obtain ⟨a3, c3, rfl⟩ := own_shape ho3; obtain ⟨P1, P2, P3⟩ := H.out.push ho3 hg3 rfl; have PP := Lib.hid P1; clear ho3 hg3 P1)
              go_roundw
              case rel => first | exact ⟨p + 1, by omega, by omega, a3, c3, by rw [EW.out]; exact PP⟩ | exact ⟨p + 1, by omega, by go_num, a3, c3, by rw [EW.out]; exact PP⟩ | exact ⟨p + 1, a3, c3, by omega, by go_num, by rw [EW.out]; exact PP⟩
              case measure => simp [intOf]; omega
          · obtain rfl : n = p := by omega
            have HB : Hid (SBox w n (ws ++ stepW (mirF s) n) a2 cap2 wr) := H
            have HE2 : Hid ((ws ++ stepW (mirF s) n) ++ (allW n (downs ((fun _ => halF) s) 6 (s / 4)) ++ allW n (ups mirF (fun _ => halF) n j' (2 * s))) = allW n (bitS n)) := Lib.hid (by rw [← HE.out, List.append_assoc])
            generalize ws ++ stepW (mirF s) n = ws1 at *
            clear H HE HLN hlen hlt
            go_wp2
            go_loopw [7, 8] (fun i _ wq => ∃ (h t : Nat) (ws : List WireM) (a : Option Addr) (cap : Nat), i = .int .i64 h ∧ h ≤ 16 ∧ h ≤ s ∧ Hid (h < 2 ^ t) ∧ Hid (ws ++ (allW n (downs ((fun _ => halF) s) t h) ++ allW n (ups mirF (fun _ => halF) n j' (2 * s))) = allW n (bitS n)) ∧ Hid (SBox w n ws a cap wq)) (fun i _ _ => (intOf i).toNat)
            case atStart => exact ⟨s / 4, 6, ws1, a2, cap2, by go_num, by omega, by omega, Lib.hid (by omega), HE2, HB⟩
            case round =>
              clear HE2 HB
              clear ws1 a2 cap2
              obtain ⟨h, t, ws, a, cap, rfl, h16, hhs, HTT, HE2, HB⟩ := hrel
              by_cases h0 : h = 0
              · subst h0
                have HE3 : Hid (ws ++ allW n (ups mirF (fun _ => halF) n j' (2 * s)) = allW n (bitS n)) := Lib.hid (by have := HE2.out; rw [downs_nil] at this; exact this)
                go_wp2
                go_roundw
                case rel => exact ⟨2 * s, j', ws, a, cap, by go_num, by omega, by omega, by omega, HJ2, HE3, HB⟩
                case measure => simp [intOf]; omega
              · obtain ⟨t', rfl⟩ : ∃ t', t = t' + 1 := by
                  cases t with
                  | zero => have := HTT.out; simp at this; omega
                  | succ t' => exact ⟨t', rfl⟩
                have HT2 : Hid (h / 2 < 2 ^ t') := Lib.hid (by have := HTT.out; rw [Nat.pow_succ] at this; omega)
                have HE : Hid (ws ++ (stepW (halF h) n ++ (allW n (downs ((fun _ => halF) s) t' (h / 2)) ++ allW n (ups mirF (fun _ => halF) n j' (2 * s)))) = allW n (bitS n)) := Lib.hid (by have := HE2.out; rw [downs_cons _ _ _ h0, allW, List.append_assoc] at this; exact this)
                clear HE2 HTT
                have dh : decide ((1 : Int) ≤ (h : Int)) = true := by simp; omega
                have dh1 : (1 : Int) ≤ (h : Int) := by omega
                have S1 : Hid (SBox w n (ws ++ stepW (halF h) 0) a cap wr) := Lib.hid (by rw [stepW_zero, List.append_nil]; exact HB.out)
                have HLN : Hid (∀ p, p ≤ n → (ws ++ stepW (halF h) p).length ≤ 2688) := Lib.hid (fun p hp => by
                  obtain ⟨rest, hr⟩ := stepW_split (halF h) (n - p) p
                  rw [show p + (n - p) = n from by omega] at hr
                  have h := congrArg List.length HE.out
                  rw [hr] at h
                  simp only [List.length_append] at h ⊢
                  have := HT.out
                  omega)
                clear HB
                go_wp2
                go_loopw [8] (fun i wq => ∃ (p : Nat) (a : Option Addr) (cap : Nat), p ≤ n ∧ i = .int .i64 p ∧ Hid (SBox w n (ws ++ stepW (halF h) p) a cap wq)) (fun i _ => n - (intOf i).toNat)
                case atStart => exact ⟨0, a, cap, Nat.zero_le _, rfl, S1⟩
                case round =>
                  clear S1
                  obtain ⟨p, a2, cap2, hp, rfl, H⟩ := hrel
                  have hlen := HLN.out p hp
                  by_cases hlt : p < n
                  · have e1 : (p : Int) % (2 * (h : Int)) = ((p % (2 * h) : Nat) : Int) := by simp
                    have hqp : p % (2 * h) ≤ p := Nat.mod_le _ _
                    have hh0 : h ≠ 0 := h0
                    have EM := Lib.hid (show halF h p = if h ≤ p % (2 * h) then p else p + h from rfl)
                    generalize p % (2 * h) = q at *
                    by_cases g : h ≤ q
                    · have NW : Hid (SBox w n (ws ++ stepW (halF h) (p + 1)) a2 cap2 wr) := Lib.hid (by rw [stepW_succ, wireAt_no (by rw [show halF h p = p from by rw [EM.out, if_pos g]]; omega), List.append_nil]; exact H.out)
                      go_wp2
                      go_roundw
                      case rel => first | exact ⟨p + 1, a2, cap2, by omega, by go_num, NW⟩ | exact ⟨p + 1, by omega, by omega, a2, cap2, NW⟩ | exact ⟨p + 1, by omega, by go_num, a2, cap2, NW⟩
                      case measure => simp [intOf]; omega
                    · have EM2 : halF h p = p + h := by rw [EM.out, if_neg g]
                      have e : ((halF h p : Nat) : Int) = (p : Int) + h := by omega
                      have EW : Hid (ws ++ stepW (halF h) (p + 1) = (ws ++ stepW (halF h) p) ++ [⟨(p : Int), (p : Int) + h⟩]) := Lib.hid (by rw [stepW_succ, wireAt_yes (by omega), e, List.append_assoc])
                      have hB := H.out
                      have c1 : wr.cell? ⟨w.heap.size + 1, 1, none⟩ = some (.slice a2 (ws ++ stepW (halF h) p).length cap2) := cur_cell hB.2.1 1
                      generalize hxs : ws ++ stepW (halF h) p = xs at *
                      have O := Lib.hid (hB.2.2.1.alloc (.cells #[.int .i64 (p : Int), .int .i64 ((p : Int) + h)] 87))
                      have RW := Lib.hid (SBox.row wr ⟨(p : Int), (p : Int) + h⟩)
                      have hsz : w.heap.size + 1 + 1 ≤ wr.heap.size := hB.2.2.2.2
                      clear hB e hxs
                      go_wp2_with (at_builtin; go_must (refine wp_app_rowS rfl _ _ 34 rfl 87 _ 2 16 Try.underlying34 Try.infoWire rfl (by omega) (w.heap.size + 1 + 1) xs.length (.slice a2 xs.length cap2) (flatW xs) (by rfl) O.out (some ⟨wr.heap.size, 0, none⟩) 1 1 (flatW [⟨(p : Int), (p : Int) + h⟩]) (by rfl) rfl RW.out (flatW_one _) (by unfold maxLen; omega) (by omega) (by simp; omega) ?_); intro v3 w3 ho3 hg3; obtain ⟨a3, c3, rfl⟩ := own_shape ho3; obtain ⟨P1, P2, P3⟩ := H.out.push ho3 hg3 rfl; have PP := Lib.hid P1; clear ho3 hg3 P1)
                      go_roundw
                      case rel => first | exact ⟨p + 1, by omega, by omega, a3, c3, by rw [EW.out]; exact PP⟩ | exact ⟨p + 1, by omega, by go_num, a3, c3, by rw [EW.out]; exact PP⟩ | exact ⟨p + 1, a3, c3, by omega, by go_num, by rw [EW.out]; exact PP⟩
                      case measure => simp [intOf]; omega
                  · obtain rfl : n = p := by omega
                    have HE3 : Hid ((ws ++ stepW (halF h) n) ++ (allW n (downs ((fun _ => halF) s) t' (h / 2)) ++ allW n (ups mirF (fun _ => halF) n j' (2 * s))) = allW n (bitS n)) := Lib.hid (by rw [← HE.out, List.append_assoc])
                    go_wp2
                    go_roundw
                    case rel => exact ⟨h / 2, t', _, a2, cap2, by go_num, by omega, by omega, HT2, HE3, H⟩
                    case measure => simp [intOf]; omega
      · have hB := HB.out
        have EE : Hid (ws = allW n (bitS n)) := Lib.hid (by have := HEs.out; rw [ups_end _ _ _ _ _ (by omega)] at this; simpa [allW] using this)
        have c0 : wr.cell? ⟨w.heap.size + 1, 0, none⟩ = some (.int .i64 n) := cur_cell hB.2.1 0
        have c1 : wr.cell? ⟨w.heap.size + 1, 1, none⟩ = some (.slice a ws.length cap) := cur_cell hB.2.1 1
        have r0 : wr.cell? ⟨w.heap.size, 0, none⟩ = some (.int .i64 0) := cur_cell hB.1 0
        have r1 : wr.cell? ⟨w.heap.size, 1, none⟩ = some (.slice none 0 0) := cur_cell hB.1 1
        have f0 := cur_free hB.1 0
        have f1 := cur_free hB.1 1
        have R := Lib.hid (fun u v => hB.fin u v)
        clear hB HB HEs HJ
        go_wp2
        exact bodyPost_ret (v := .agg #[.int .i64 n, .slice a ws.length cap]) (by simp [results, Try.results59, go_sem, r0, r1]) rfl ⟨_, _, rfl, by rw [E.out, ← EE.out]; exact (R.out _ _).1, (R.out _ _).2⟩
end Go.Proofs.Ytaedamnhobcdlaa
end
