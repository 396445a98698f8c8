/- TnR in one. Written by tools/join2.py. -/
import Derived.Test.YtmndkpicbmffnaaJN25
import Derived.Test.YtmndkpicbmffnaaJN27
section
namespace Go.Proofs.Ytmndkpicbmffnaa
open Go.RowKit
set_option linter.unusedVariables false
set_option linter.unusedSimpArgs false
set_option maxRecDepth 100000

set_option maxHeartbeats 8000000 in
theorem uSpecNodeRead (c : Value) (d : List UInt8) (z v : Int) (w : World) (h : ByteSIn [c] d w) (b1 : -9223372036854775808 ≤ z ∧ z ≤ 9223372036854775807) (b2 : -9223372036854775808 ≤ v ∧ v ≤ 9223372036854775807) : Calls Try.prog 38 #[c, .int .i64 z, .int .i64 v] w fun e w' => ∃ c0, e = .returned (.tuple #[.agg #[c0], .bool (readNB d z v)]) ∧ NodeOwn w.heap.size w'.heap.size [c0] (readNM d z v) w' ∧ Below w.heap.size w w' := by
  have FR := Lib.hid (fun w => specFrame z v w)
  have NS := Lib.hid (fun w' => specNodeSize v w' b2)
  obtain ⟨a, cap, rfl, hcap, hm, r⟩ := byteSIn_shape h
  have DI := Lib.hid h
  unfold maxLen at hm
  clear h
  cases hf : frameB z v
  · have E := Lib.hid (show readNB d z v = false by unfold readNB; rw [hf]; rfl)
    have E2 := Lib.hid (show readNM d z v = [] by unfold readNM; rw [E.out]; rfl)
    rw [hf] at FR
    clear hf r
    go_enter Try.func38, Try.ntmps38
    go_wp2_with fail
    refine (FR.out _).mono ?_
    rintro e w1 ⟨rfl, rfl⟩
    go_wp2
    exact bodyPost_ret (v := .tuple #[.agg #[.slice none 0 0], .bool false]) (by simp [results, Try.results38, go_sem]) rfl ⟨_, by rw [E.out], by rw [E2.out]; exact BlockSOwn.nil _ _ _, below_box (Below.refl _ _) _⟩
  rw [hf] at FR
  by_cases hlen : (d.length : Int) = nodeSizeZ v
  · obtain ⟨g, n, rfl, rfl, hg6, hv1, hv2⟩ := frameB_ok hf
    have NE := Lib.hid (show nodeSizeZ (n : Int) = ((4 * (n + 3) : Nat) : Int) by unfold nodeSizeZ; rw [if_pos (by omega)]; omega)
    have hdl : d.length = 4 * (n + 3) := by rw [NE.out] at hlen; omega
    have RB := Lib.hid (show readNB d g n = decide (nodeOfL (candN d n) g n = d) by unfold readNB; rw [hf, decide_eq_true hlen, Int.toNat_natCast]; rfl)
    rw [NE.out] at NS
    have BB := Lib.hid (And.intro b1 b2)
    have HDL := Lib.hid hdl
    have AT := Lib.hid (show ∃ b off, a = some ⟨b, off, none⟩ ∧ b < w.heap.size ∧ ∀ i, i < d.length → w.cell? ⟨b, off + i, none⟩ = some (.int .u8 ((d.getD i 0).toNat : Int)) by
      obtain ⟨b, off, rfl, hc⟩ := r.at (i := 0) (by simp; omega)
      have key : ∀ i, i < d.length → w.cell? ⟨b, off + i, none⟩ = some (.int .u8 ((d.getD i 0).toNat : Int)) := fun i hi => by
        obtain ⟨b', off', e, hc⟩ := r.at (i := i) (by simpa using hi)
        simp at e
        obtain ⟨rfl, rfl⟩ := e
        rw [hc, List.getElem?_map, List.getElem?_eq_getElem hi, List.getD_eq_getElem?_getD, List.getElem?_eq_getElem hi]
        rfl
      exact ⟨b, off, rfl, block_lt_of_cell (key 0 (by omega)), key⟩)
    obtain ⟨b, off, rfl, hbw, at_⟩ := AT.out
    have ATD := Lib.hid at_
    have RR := Lib.hid (fun w' (hb : Below w.heap.size w w') => ((lies_row r).below hb).now)
    have CV := Lib.hid (fun w' (hb : Below w.heap.size w w') => conv_row (w := w') (b := b) (off := off) (cap := cap) (l := d) rfl (fun i hi => by
      rw [cell_keep (ATD.out i hi) hb, List.getElem?_map, List.getElem?_eq_getElem hi, List.getD_eq_getElem?_getD, List.getElem?_eq_getElem hi]
      rfl))
    have hcap2 : 4 * (n + 3) ≤ cap := by omega
    have hlB : ((d.length : Int) != ((4 * (n + 3) : Nat) : Int)) = false := by simp; omega
    obtain ⟨N, hN⟩ : ∃ N, 4 * (n + 3) = N := ⟨_, rfl⟩
    have HN := Lib.hid hN
    obtain ⟨D, hD⟩ : ∃ D, d.length = D := ⟨_, rfl⟩
    have HDD := Lib.hid hD
    have hDN : D = N := by omega
    rw [hD, hN] at hlB
    rw [hN] at NS hcap2
    rw [hD] at CV ⊢
    subst hDN
    clear hlB hdl hD hN hlen hf at_ AT r hcap hm NE
    have hlB : ((D : Int) != (D : Int)) = false := by simp
    obtain ⟨W1, hW1⟩ : ∃ W1, W1 = (w.alloc (.cells #[.slice none 0 0] 26)).alloc (.cells #[.slice none 0 0] 26) := ⟨_, rfl⟩
    have KR := Lib.hid (show W1.heap[w.heap.size]? = some (.cells #[.slice none 0 0] 26 (0, 0)) by rw [hW1]; exact (alloc_old _ _ _ (by simp)).trans (alloc_at _ _ _ rfl))
    have KB := Lib.hid (show W1.heap[w.heap.size + 1]? = some (.cells #[.slice none 0 0] 26 (0, 0)) by rw [hW1]; exact alloc_at _ _ _ (by simp))
    have B1 := Lib.hid (show Below w.heap.size w W1 by rw [hW1]; exact below_box (below_box (Below.refl _ w) _) _)
    have W1L0 : W1.heap.size = w.heap.size + 1 + 1 := by rw [hW1]; simp
    obtain ⟨W1s, hW1s⟩ : ∃ s, W1.heap.size = s := ⟨_, rfl⟩
    have hws : W1s = w.heap.size + 1 + 1 := by omega
    have S0 := Lib.hid (show ∃ (a' : Option Addr) (cap' : Nat) (es : List (Elt BlkM 3)) (G : Nat → Foot), es.map Elt.m = firstN d n 0 ∧ W1.heap[w.heap.size + 1]? = some (.cells #[.slice a' es.length cap'] 26 (0, 0)) ∧ NRow BlockO 40 3 W1s a' cap' es G W1 ∧ W1.heap[w.heap.size]? = some (.cells #[.slice none 0 0] 26 (0, 0)) ∧ Below w.heap.size w W1 from ⟨none, 0, [], fun _ _ => False, rfl, KB.out, NRow.none _ _ _, KR.out, B1.out⟩)
    clear KR KB B1 W1L0 hW1s
    go_enter Try.func38, Try.ntmps38
    go_wp2_with fail
    refine (FR.out _).mono ?_
    rintro e w1 ⟨rfl, rfl⟩
    go_wp2_with fail
    refine (NS.out _).mono ?_
    rintro e w1 ⟨rfl, rfl⟩
    clear FR NS
    go_wp2_with fail
    rw [← hW1]
    clear hW1
    go_loopg [9] 4 (fun kk iv wr => ∃ k : Nat, k ≤ 4 ∧ 4 - k = kk ∧ iv = .int .i64 (k * (n + 3) : Nat) ∧ Hid (cntN d n = cntUp d n (4 - k) k) ∧ Hid (∃ (a' : Option Addr) (cap' : Nat) (es : List (Elt BlkM 3)) (G : Nat → Foot), es.map Elt.m = firstN d n k ∧ wr.heap[w.heap.size + 1]? = some (.cells #[.slice a' es.length cap'] 26 (0, 0)) ∧ NRow BlockO 40 3 W1s a' cap' es G wr ∧ wr.heap[w.heap.size]? = some (.cells #[.slice none 0 0] 26 (0, 0)) ∧ Below w.heap.size w wr))
    case atStart => exact ⟨0, Nat.zero_le _, rfl, by simp, Lib.hid rfl, S0⟩
    case round =>
      clear S0
      obtain ⟨k, hk, hkk, rfl, CN, H⟩ := hrel
      by_cases hk4 : k < 4
      · have hkt : k * (n + 3) + (n + 3) ≤ D := by rw [← HN.out]; have : (k + 1) * (n + 3) ≤ 4 * (n + 3) := Nat.mul_le_mul_right _ hk4; rw [Nat.add_mul] at this; omega
        have CU := Lib.hid (show cntUp d n (4 - k) k = if (d.getD (k * (n + 3)) 0).toNat = 1 then cntUp d n (4 - (k + 1)) (k + 1) else k by
          rw [show 4 - k = (4 - (k + 1)) + 1 from by omega, cntUp]
          by_cases h : d.getD (k * (n + 3)) 0 = 1
          · rw [if_pos h, if_pos (by rw [h]; rfl)]
          · have h2 : ¬ (d.getD (k * (n + 3)) 0).toNat = 1 := fun e => h (UInt8.toNat_inj.1 e)
            rw [if_neg h, if_neg h2])
        have FS := Lib.hid (firstN_snoc d n k)
        have TN := Lib.hid (show (k + 1) * (n + 3) = k * (n + 3) + n + 3 by rw [Nat.add_mul]; omega)
        obtain ⟨t, ht⟩ : ∃ t, k * (n + 3) = t := ⟨_, rfl⟩
        rw [ht] at hkt CU FS TN ⊢
        clear ht
        have q0 := ATD.out t (by rw [HDD.out]; omega)
        have q1 := ATD.out (t + 1) (by rw [HDD.out]; omega)
        have q2 := ATD.out (t + 2) (by rw [HDD.out]; omega)
        have DL := Lib.hid (show ((d.drop (t + 3)).take n).length = n by have := HDD.out; simp; omega)
        have RD := Lib.hid (show ∀ w', Below w.heap.size w w' → Row w' (some ⟨b, off + (t + 3), none⟩) (((d.drop (t + 3)).take n).map bval) from fun w' hb => by
          have := (RR.out w' hb).cut (t + 3) n (by have := HDD.out; simp; omega)
          rw [List.map_take, List.map_drop]
          exact this)
        unfold blkAt at FS
        have b0 := (d.getD t 0).toNat_lt
        have b1 := (d.getD (t + 1) 0).toNat_lt
        have b2 := (d.getD (t + 2) 0).toNat_lt
        generalize (d.getD t 0).toNat = n0 at *
        generalize (d.getD (t + 1) 0).toNat = n1 at *
        generalize (d.getD (t + 2) 0).toNat = n2 at *
        have KD := Lib.hid (fun w' (hb : Below w.heap.size w w') => (show w'.cell? ⟨b, off + (t + 1), none⟩ = some (.int .u8 (n1 : Int)) ∧ w'.cell? ⟨b, off + (t + 2), none⟩ = some (.int .u8 (n2 : Int)) from ⟨cell_keep q1 hb, cell_keep q2 hb⟩))
        have BX := Lib.hid (show Below w.heap.size w wr by obtain ⟨_, _, _, _, _, _, _, _, h⟩ := H.out; exact h)
        have q0' := cell_keep q0 BX.out
        have ht0 : (0 : Int) ≤ (t : Int) := by omega
        have htD : (t : Int) < (D : Int) := by omega
        clear q0 q1 q2 RR
        by_cases h1 : n0 = 1
        · have hn0 : ((n0 : Int) == 1) = true := by simp [h1]
          have CN2 := Lib.hid (show cntN d n = cntUp d n (4 - (k + 1)) (k + 1) by rw [CN.out, CU.out, if_pos h1])
          obtain ⟨a', cap', es, G, e1, e2, e3, e4, e5⟩ := H.out
          have hel : es.length = k := by have := congrArg List.length e1; simpa [firstN_length] using this
          rw [hel] at e2
          have EL := Lib.hid hel
          have QB := Lib.hid (fun w' (hb : Below wr.heap.size wr w') => (cur_cell (kept_block e2 hb) 0 : w'.cell? ⟨w.heap.size + 1, 0, none⟩ = some (.slice a' k cap')))
          have hrow := e3.row
          rw [hel] at hrow
          have ROW := Lib.hid (fun w' (hb : Below wr.heap.size wr w') => own_below hrow hb)
          have hWr : W1s ≤ wr.heap.size := by have h2 := cur_lt e2; omega
          have W1L := Lib.hid hWr
          have FIN := Lib.hid (node_fin (n1 := n1) (n2 := n2) (t := t) hws BX.out e1 FS.out e2 e3 e4 hel hWr)
          have hDb : D ≤ 812 := by have := HN.out; omega
          have hw1 : IntKind.i64.wrap ((t : Int) + 1) = (t : Int) + 1 := IntWalk.i64_in _ (by omega)
          have hw2 : IntKind.i64.wrap ((t : Int) + 2) = (t : Int) + 2 := IntWalk.i64_in _ (by omega)
          have hw3 : IntKind.i64.wrap ((t : Int) + 3) = (t : Int) + 3 := IntWalk.i64_in _ (by omega)
          have hw4 : IntKind.i64.wrap ((t : Int) + 3 + (n : Int)) = (t : Int) + 3 + (n : Int) := IntWalk.i64_in _ (by omega)
          have hw5 : IntKind.i64.wrap (n1 : Int) = (n1 : Int) := IntWalk.i64_in _ (by omega)
          have hw6 : IntKind.i64.wrap (n2 : Int) = (n2 : Int) := IntWalk.i64_in _ (by omega)
          have t1 : ((t : Int) + 1).toNat = t + 1 := by omega
          have t2 : ((t : Int) + 2).toNat = t + 2 := by omega
          have t3 : ((t : Int) + 3).toNat = t + 3 := by omega
          have t4 : ((t : Int) + 3 + (n : Int)).toNat = t + 3 + n := by omega
          have u1 : (0 : Int) ≤ (t : Int) + 1 := by omega
          have u2 : (0 : Int) ≤ (t : Int) + 2 := by omega
          have u3 : (0 : Int) ≤ (t : Int) + 3 := by omega
          have u4 : (t : Int) + 1 < (D : Int) := by omega
          have u5 : (t : Int) + 2 < (D : Int) := by omega
          have u6 : t + 3 ≤ t + 3 + n := by omega
          have u7 : t + 3 + n ≤ cap := by omega
          have u8 : t + 3 + n - (t + 3) = n := by omega
          have u9 : ¬ cap = t + 3 := by omega
          have u11 : (t : Int) + 3 + (n : Int) ≤ (cap : Int) := by omega
          have u12 : (t : Int) + 3 ≤ (t : Int) + 3 + (n : Int) := by omega
          have u10 : (0 : Int) ≤ (t : Int) + 3 + (n : Int) := by omega
          have HD := Lib.hid (below_drew (Below.refl wr.heap.size wr))
          clear H e1 e2 e3 e4 e5 hel hrow CN CU FS h1
          go_upto_region 7 with fail
          refine wp_region_held_drew (S := (fun w' => w'.cell? ⟨b, off + (t + 1), none⟩ = some (.int .u8 (n1 : Int)) ∧ w'.cell? ⟨b, off + (t + 2), none⟩ = some (.int .u8 (n2 : Int)))) (by kernel_rfl) (KD.out _ (below_seq BX.out HD.out)) (fun hHeld => ?_)
          refine wpAnyH_take (i := 0) (oi := ?on_0) (v := ?vn_0) ?hin_0 (by kernel_rfl) (by kernel_rfl) (by kernel_rfl) ?hqn_0 ?hyn_0 (by assumption) ?rn_0
          case hin_0 => (simp only [List.getElem?_toArray, List.getElem?_cons_succ, List.getElem?_cons_zero]; rfl)
          case hqn_0 => exact fun _ _ _ h => h
          case hyn_0 =>
            refine Or.inl ⟨by rfl, ?_⟩; intro wq hSw; (try dsimp only at hSw); go_simp; (try with_reducible rfl); done
          try simp only [Act.put, List.setIfInBounds_toArray, List.set_cons_zero, List.set_cons_succ]
          refine wpAnyH_take (i := 2) (oi := ?on_2) (v := ?vn_2) ?hin_2 (by kernel_rfl) (by kernel_rfl) (by kernel_rfl) ?hqn_2 ?hyn_2 (by assumption) ?rn_2
          case hin_2 => (simp only [List.getElem?_toArray, List.getElem?_cons_succ, List.getElem?_cons_zero]; rfl)
          case hqn_2 => exact fun _ _ _ h => h
          case hyn_2 =>
            refine Or.inl ⟨by rfl, ?_⟩; intro wq hSw; (try dsimp only at hSw); go_simp; (try with_reducible rfl); done
          try simp only [Act.put, List.setIfInBounds_toArray, List.set_cons_zero, List.set_cons_succ]
          refine wpAnyH_take (i := 3) (oi := ?on_3) (v := ?vn_3) ?hin_3 (by kernel_rfl) (by kernel_rfl) (by kernel_rfl) ?hqn_3 ?hyn_3 (by assumption) ?rn_3
          case hin_3 => (simp only [List.getElem?_toArray, List.getElem?_cons_succ, List.getElem?_cons_zero]; rfl)
          case hqn_3 => exact fun _ _ _ h => h
          case hyn_3 =>
            refine Or.inl ⟨by rfl, ?_⟩; intro wq hSw; (try dsimp only at hSw); go_simp; (try with_reducible rfl); done
          try simp only [Act.put, List.setIfInBounds_toArray, List.set_cons_zero, List.set_cons_succ]
          refine wpAnyH_take (i := 4) (oi := ?on_4) (v := ?vn_4) ?hin_4 (by kernel_rfl) (by kernel_rfl) (by kernel_rfl) ?hqn_4 ?hyn_4 (by assumption) ?rn_4
          case hin_4 => (simp only [List.getElem?_toArray, List.getElem?_cons_succ, List.getElem?_cons_zero]; rfl)
          case hqn_4 => exact fun _ _ _ h => h
          case hyn_4 =>
            refine Or.inl ⟨by rfl, ?_⟩; intro wq hSw; (try dsimp only at hSw); go_simp; (try with_reducible rfl); done
          try simp only [Act.put, List.setIfInBounds_toArray, List.set_cons_zero, List.set_cons_succ]
          refine wpAnyH_take (i := 5) (oi := ?on_5) (v := ?vn_5) ?hin_5 (by kernel_rfl) (by kernel_rfl) (by kernel_rfl) ?hqn_5 ?hyn_5 (by assumption) ?rn_5
          case hin_5 => (simp only [List.getElem?_toArray, List.getElem?_cons_succ, List.getElem?_cons_zero]; rfl)
          case hqn_5 => exact fun _ _ _ h => h
          case hyn_5 =>
            refine Or.inl ⟨by rfl, ?_⟩; intro wq hSw; (try dsimp only at hSw); go_simp; (try with_reducible rfl); done
          try simp only [Act.put, List.setIfInBounds_toArray, List.set_cons_zero, List.set_cons_succ]
          refine wpAnyH_take (i := 6) (oi := ?on_6) (v := ?vn_6) ?hin_6 (by kernel_rfl) (by kernel_rfl) (by kernel_rfl) ?hqn_6 ?hyn_6 (by assumption) ?rn_6
          case hin_6 => (simp only [List.getElem?_toArray, List.getElem?_cons_succ, List.getElem?_cons_zero]; rfl)
          case hqn_6 => exact fun _ _ _ h => h
          case hyn_6 =>
            refine Or.inl ⟨by rfl, ?_⟩; intro wq hSw; (try dsimp only at hSw); go_simp; (try with_reducible rfl); done
          try simp only [Act.put, List.setIfInBounds_toArray, List.set_cons_zero, List.set_cons_succ]
          refine wpAnyH_take (i := 7) (oi := ?on_7) (v := ?vn_7) ?hin_7 (by kernel_rfl) (by kernel_rfl) (by kernel_rfl) ?hqn_7 ?hyn_7 (by assumption) ?rn_7
          case hin_7 => (simp only [List.getElem?_toArray, List.getElem?_cons_succ, List.getElem?_cons_zero]; rfl)
          case hqn_7 => exact fun _ _ _ h => h
          case hyn_7 =>
            refine Or.inl ⟨by rfl, ?_⟩; intro wq hSw; (try dsimp only at hSw); go_simp; (try with_reducible rfl); done
          try simp only [Act.put, List.setIfInBounds_toArray, List.set_cons_zero, List.set_cons_succ]
          refine wpAnyH_take (i := 8) (oi := ?on_8) (v := ?vn_8) ?hin_8 (by kernel_rfl) (by kernel_rfl) (by kernel_rfl) ?hqn_8 ?hyn_8 (by assumption) ?rn_8
          case hin_8 => (simp only [List.getElem?_toArray, List.getElem?_cons_succ, List.getElem?_cons_zero]; rfl)
          case hqn_8 => exact fun _ _ _ h => h
          case hyn_8 =>
            refine Or.inl ⟨by rfl, ?_⟩; intro wq hSw; (try dsimp only at hSw); go_simp; (try with_reducible rfl); done
          try simp only [Act.put, List.setIfInBounds_toArray, List.set_cons_zero, List.set_cons_succ]
          refine wpAnyH_take (i := 9) (oi := ?on_9) (v := ?vn_9) ?hin_9 (by kernel_rfl) (by kernel_rfl) (by kernel_rfl) ?hqn_9 ?hyn_9 (by assumption) ?rn_9
          case hin_9 => (simp only [List.getElem?_toArray, List.getElem?_cons_succ, List.getElem?_cons_zero]; rfl)
          case hqn_9 => exact fun _ _ _ h => h
          case hyn_9 =>
            refine Or.inl ⟨by rfl, ?_⟩; intro wq hSw; (try dsimp only at hSw); go_simp; (try with_reducible rfl); done
          try simp only [Act.put, List.setIfInBounds_toArray, List.set_cons_zero, List.set_cons_succ]
          refine wpAnyH_take (i := 10) (oi := ?on_10) (v := ?vn_10) ?hin_10 (by kernel_rfl) (by kernel_rfl) (by kernel_rfl) ?hqn_10 ?hyn_10 (by assumption) ?rn_10
          case hin_10 => (simp only [List.getElem?_toArray, List.getElem?_cons_succ, List.getElem?_cons_zero]; rfl)
          case hqn_10 => exact fun _ _ _ h => h
          case hyn_10 =>
            refine Or.inl ⟨by rfl, ?_⟩; intro wq hSw; (try dsimp only at hSw); go_simp; (try with_reducible rfl); done
          try simp only [Act.put, List.setIfInBounds_toArray, List.set_cons_zero, List.set_cons_succ]
          refine wpAnyH_take (i := 11) (oi := ?on_11) (v := ?vn_11) ?hin_11 (by kernel_rfl) (by kernel_rfl) (by kernel_rfl) ?hqn_11 ?hyn_11 (by assumption) ?rn_11
          case hin_11 => (simp only [List.getElem?_toArray, List.getElem?_cons_succ, List.getElem?_cons_zero]; rfl)
          case hqn_11 => exact fun _ _ _ h => h
          case hyn_11 =>
            refine Or.inl ⟨by rfl, ?_⟩; intro wq hSw; (try dsimp only at hSw); go_simp; (try with_reducible rfl); done
          try simp only [Act.put, List.setIfInBounds_toArray, List.set_cons_zero, List.set_cons_succ]
          refine wpAnyH_take (i := 12) (oi := ?on_12) (v := ?vn_12) ?hin_12 (by kernel_rfl) (by kernel_rfl) (by kernel_rfl) ?hqn_12 ?hyn_12 (by assumption) ?rn_12
          case hin_12 => (simp only [List.getElem?_toArray, List.getElem?_cons_succ, List.getElem?_cons_zero]; rfl)
          case hqn_12 => exact fun _ _ _ h => h
          case hyn_12 =>
            refine Or.inl ⟨by rfl, ?_⟩; intro wq hSw; (try dsimp only at hSw); go_simp; (try with_reducible rfl); done
          try simp only [Act.put, List.setIfInBounds_toArray, List.set_cons_zero, List.set_cons_succ]
          refine wpAnyH_take (i := 13) (oi := ?on_13) (v := ?vn_13) ?hin_13 (by kernel_rfl) (by kernel_rfl) (by kernel_rfl) ?hqn_13 ?hyn_13 (by assumption) ?rn_13
          case hin_13 => (simp only [List.getElem?_toArray, List.getElem?_cons_succ, List.getElem?_cons_zero]; rfl)
          case hqn_13 => exact fun _ _ _ h => h
          case hyn_13 =>
            refine Or.inl ⟨by rfl, ?_⟩; intro wq hSw; (try dsimp only at hSw); go_simp; (try with_reducible rfl); done
          try simp only [Act.put, List.setIfInBounds_toArray, List.set_cons_zero, List.set_cons_succ]
          refine wpAnyH_take (i := 15) (oi := ?on_15) (v := ?vn_15) ?hin_15 (by kernel_rfl) (by kernel_rfl) (by kernel_rfl) ?hqn_15 ?hyn_15 (by assumption) ?rn_15
          case hin_15 => (simp only [List.getElem?_toArray, List.getElem?_cons_succ, List.getElem?_cons_zero]; rfl)
          case hqn_15 => exact fun _ _ _ h => h
          case hyn_15 =>
            refine Or.inl ⟨by rfl, ?_⟩; intro wq hSw; (try dsimp only at hSw); go_simp; (try with_reducible rfl); done
          try simp only [Act.put, List.setIfInBounds_toArray, List.set_cons_zero, List.set_cons_succ]
          refine wpAnyH_take (i := 16) (oi := ?on_16) (v := ?vn_16) ?hin_16 (by kernel_rfl) (by kernel_rfl) (by kernel_rfl) ?hqn_16 ?hyn_16 (by assumption) ?rn_16
          case hin_16 => (simp only [List.getElem?_toArray, List.getElem?_cons_succ, List.getElem?_cons_zero]; rfl)
          case hqn_16 => exact fun _ _ _ h => h
          case hyn_16 =>
            refine Or.inl ⟨by rfl, ?_⟩; intro wq hSw; (try dsimp only at hSw); go_simp; (try with_reducible rfl); done
          try simp only [Act.put, List.setIfInBounds_toArray, List.set_cons_zero, List.set_cons_succ]
          refine wpAnyH_take (i := 17) (oi := ?on_17) (v := ?vn_17) ?hin_17 (by kernel_rfl) (by kernel_rfl) (by kernel_rfl) ?hqn_17 ?hyn_17 (by assumption) ?rn_17
          case hin_17 => (simp only [List.getElem?_toArray, List.getElem?_cons_succ, List.getElem?_cons_zero]; rfl)
          case hqn_17 => exact fun _ _ _ h => h
          case hyn_17 =>
            refine Or.inl ⟨by rfl, ?_⟩; intro wq hSw; (try dsimp only at hSw); go_simp; (try with_reducible rfl); done
          try simp only [Act.put, List.setIfInBounds_toArray, List.set_cons_zero, List.set_cons_succ]
          refine wpAnyH_take (i := 18) (oi := ?on_18) (v := ?vn_18) ?hin_18 (by kernel_rfl) (by kernel_rfl) (by kernel_rfl) ?hqn_18 ?hyn_18 (by assumption) ?rn_18
          case hin_18 => (simp only [List.getElem?_toArray, List.getElem?_cons_succ, List.getElem?_cons_zero]; rfl)
          case hqn_18 => exact fun _ _ _ h => h
          case hyn_18 =>
            refine Or.inl ⟨by rfl, ?_⟩; intro wq hSw; (try dsimp only at hSw); go_simp; (try with_reducible rfl); done
          try simp only [Act.put, List.setIfInBounds_toArray, List.set_cons_zero, List.set_cons_succ]
          refine wpAnyH_take (i := 19) (oi := ?on_19) (v := ?vn_19) ?hin_19 (by kernel_rfl) (by kernel_rfl) (by kernel_rfl) ?hqn_19 ?hyn_19 (by assumption) ?rn_19
          case hin_19 => (simp only [List.getElem?_toArray, List.getElem?_cons_succ, List.getElem?_cons_zero]; rfl)
          case hqn_19 => exact fun _ _ _ h => h
          case hyn_19 =>
            refine Or.inl ⟨by rfl, ?_⟩; intro wq hSw; (try dsimp only at hSw); go_simp; (try with_reducible rfl); done
          try simp only [Act.put, List.setIfInBounds_toArray, List.set_cons_zero, List.set_cons_succ]
          refine wpAnyH_take (i := 20) (oi := ?on_20) (v := ?vn_20) ?hin_20 (by kernel_rfl) (by kernel_rfl) (by kernel_rfl) ?hqn_20 ?hyn_20 (by assumption) ?rn_20
          case hin_20 => (simp only [List.getElem?_toArray, List.getElem?_cons_succ, List.getElem?_cons_zero]; rfl)
          case hqn_20 => exact fun _ _ _ h => h
          case hyn_20 =>
            refine Or.inl ⟨by rfl, ?_⟩; intro wq hSw; (try dsimp only at hSw); go_simp; (try with_reducible rfl); done
          try simp only [Act.put, List.setIfInBounds_toArray, List.set_cons_zero, List.set_cons_succ]
          refine wpAnyH_take (i := 21) (oi := ?on_21) (v := ?vn_21) ?hin_21 (by kernel_rfl) (by kernel_rfl) (by kernel_rfl) ?hqn_21 ?hyn_21 (by assumption) ?rn_21
          case hin_21 => (simp only [List.getElem?_toArray, List.getElem?_cons_succ, List.getElem?_cons_zero]; rfl)
          case hqn_21 => exact fun _ _ _ h => h
          case hyn_21 =>
            refine Or.inl ⟨by rfl, ?_⟩; intro wq hSw; (try dsimp only at hSw); go_simp; (try with_reducible rfl); done
          try simp only [Act.put, List.setIfInBounds_toArray, List.set_cons_zero, List.set_cons_succ]
          refine wpAnyH_take (i := 22) (oi := ?on_22) (v := ?vn_22) ?hin_22 (by kernel_rfl) (by kernel_rfl) (by kernel_rfl) ?hqn_22 ?hyn_22 (by assumption) ?rn_22
          case hin_22 => (simp only [List.getElem?_toArray, List.getElem?_cons_succ, List.getElem?_cons_zero]; rfl)
          case hqn_22 => exact fun _ _ _ h => h
          case hyn_22 =>
            refine Or.inl ⟨by rfl, ?_⟩; intro wq hSw; (try dsimp only at hSw); go_simp; (try with_reducible rfl); done
          try simp only [Act.put, List.setIfInBounds_toArray, List.set_cons_zero, List.set_cons_succ]
          refine wpAnyH_ready (rs := [1, 14]) (by kernel_rfl) (by simp) ?_
          refine AllReadyH.cons (by simp only [List.getElem?_toArray, List.getElem?_cons_succ, List.getElem?_cons_zero]; rfl) (fun K hK => ?xp) (AllReadyH.cons (by simp only [List.getElem?_toArray, List.getElem?_cons_succ, List.getElem?_cons_zero]; rfl) (fun K hK => ?yp) AllReadyH.nil)
          case xp =>
            have qb := QB.out _ (HD.out)
            go_simp
            refine hK.out _ _ (KD.out _ (below_seq BX.out HD.out)) (fun hH1 => ?_)
            clear hK K hHeld qb
            try simp only [Act.put, List.setIfInBounds_toArray, List.set_cons_zero, List.set_cons_succ]
            refine wpAnyH_ready (rs := [14]) (by kernel_rfl) (by simp) ?_
            refine AllReadyH.cons (by simp only [List.getElem?_toArray, List.getElem?_cons_succ, List.getElem?_cons_zero]; rfl) (fun K hK => ?_) AllReadyH.nil
            go_simp
            refine hK.out _ _ (KD.out _ (below_seq BX.out (below_box HD.out (.cells #[] 5)))) (fun hH3 => ?_)
            clear hK K hH1
            try simp only [Act.put, List.setIfInBounds_toArray, List.set_cons_zero, List.set_cons_succ]
            refine wpAnyH_ready (rs := [23]) (by kernel_rfl) (by simp) ?_
            refine AllReadyH.cons (by simp only [List.getElem?_toArray, List.getElem?_cons_succ, List.getElem?_cons_zero]; rfl) (fun K hK => ?_) AllReadyH.nil
            refine step_app_row (by rfl) _ _ 22 rfl 5 (.int .u8 0) 1 Try.underlying22 Try.info5 rfl wr.heap.size 0 (.slice (some ⟨wr.heap.size, 0, none⟩) 0 0) [] (by rfl) (World.ownsRow_made wr.drew #[] 0 (Nat.le_refl _) (by unfold maxLen; omega) rfl) (some ⟨b, off + (t + 3), none⟩) n (cap - (t + 3)) (((d.drop (t + 3)).take n).map bval) (by rfl) (by rw [List.length_map]; exact DL.out) (RD.out _ (below_seq BX.out (below_box HD.out _))) (fun u hu => by obtain ⟨b, _, rfl⟩ := List.mem_map.1 hu; rfl) (by unfold maxLen; omega) (by omega) (by simp) ?_
            intro v3 w3 ho3 hg3
            rw [Nat.zero_add, List.nil_append] at ho3
            obtain ⟨a3, c3, rfl⟩ := own_shape ho3
            have GB3 := Lib.hid ((below_box HD.out (.cells #[] 5)).grown hg3 (by simp) (fun g hg => (by cases hg; exact Nat.le_refl _)))
            have O3 := Lib.hid ho3
            clear ho3 hg3
            refine hK.out _ _ (KD.out _ (below_seq BX.out GB3.out)) (fun hH4 => ?_)
            clear hK K hH3
            try simp only [Act.put, List.setIfInBounds_toArray, List.set_cons_zero, List.set_cons_succ]
            refine wpAnyH_take (i := 24) (oi := ?onpxzz_24) (v := ?vnpxzz_24) ?hinpxzz_24 (by kernel_rfl) (by kernel_rfl) (by kernel_rfl) ?hqnpxzz_24 ?hynpxzz_24 (by assumption) ?rnpxzz_24
            case hinpxzz_24 => (simp only [List.getElem?_toArray, List.getElem?_cons_succ, List.getElem?_cons_zero]; rfl)
            case hqnpxzz_24 => exact fun _ _ _ h => h
            case hynpxzz_24 =>
              refine Or.inl ⟨by rfl, ?_⟩; intro wq hSw; (try dsimp only at hSw); go_simp; (try with_reducible rfl); done
            try simp only [Act.put, List.setIfInBounds_toArray, List.set_cons_zero, List.set_cons_succ]
            refine wpAnyH_ready (rs := [25]) (by kernel_rfl) (by simp) ?_
            refine AllReadyH.cons (by simp only [List.getElem?_toArray, List.getElem?_cons_succ, List.getElem?_cons_zero]; rfl) (fun K hK => ?_) AllReadyH.nil
            go_simp
            refine hK.out _ _ (KD.out _ (below_seq BX.out (below_box GB3.out (.cells #[.int .i64 (n1 : Int), .int .i64 (n2 : Int), .slice a3 n c3] 40)))) (fun hH5 => ?_)
            clear hK K hH4
            try simp only [Act.put, List.setIfInBounds_toArray, List.set_cons_zero, List.set_cons_succ]
            refine wpAnyH_ready (rs := [26]) (by kernel_rfl) (by simp) ?_
            refine AllReadyH.cons (by simp only [List.getElem?_toArray, List.getElem?_cons_succ, List.getElem?_cons_zero]; rfl) (fun K hK => ?_) AllReadyH.nil
            refine step_app_rowS (by rfl) _ _ 24 rfl 40 _ 3 40 Try.underlying24 Try.infoBlk rfl (by omega) W1s k (.slice a' k cap') (flatG eltL es) (by rfl) (ROW.out _ (below_box GB3.out _)) (some ⟨w3.heap.size, 0, none⟩) 1 1 [.int .i64 (n1 : Int), .int .i64 (n2 : Int), .slice a3 n c3] (by rfl) rfl (lit_rowB w3 [.int .i64 (n1 : Int), .int .i64 (n2 : Int), .slice a3 n c3] 40) (by intro u hu; simp at hu; rcases hu with rfl | rfl | rfl <;> rfl) (by unfold maxLen; omega) (by omega) (by have := GB3.out.size; have := W1L.out; simp; omega) ?_
            intro v5 w5 ho5 hg5
            have X5 := FIN.out w3 GB3.out a3 c3 O3.out v5 w5 ho5 hg5
            obtain ⟨a5, cap5, rfl, B5h, K5h, Zh⟩ := X5
            have B5 := Lib.hid B5h
            have K5 := Lib.hid K5h
            have Z := Lib.hid Zh
            clear B5h K5h Zh ho5 hg5 O3
            refine hK.out _ _ (KD.out _ B5.out) (fun hH6 => ?_)
            clear hK K hH5
            try simp only [Act.put, List.setIfInBounds_toArray, List.set_cons_zero, List.set_cons_succ]
            refine wpAnyH_take (i := 27) (oi := ?onpxzzzf_27) (v := ?vnpxzzzf_27) ?hinpxzzzf_27 (by kernel_rfl) (by kernel_rfl) (by kernel_rfl) ?hqnpxzzzf_27 ?hynpxzzzf_27 (by assumption) ?rnpxzzzf_27
            case hinpxzzzf_27 => (simp only [List.getElem?_toArray, List.getElem?_cons_succ, List.getElem?_cons_zero]; rfl)
            case hqnpxzzzf_27 => exact fun _ _ _ h => h
            case hynpxzzzf_27 =>
              refine Or.inl ⟨by rfl, ?_⟩; intro wq hSw; (try dsimp only at hSw); go_simp; (try with_reducible rfl); done
            try simp only [Act.put, List.setIfInBounds_toArray, List.set_cons_zero, List.set_cons_succ]
            have k50 := cur_cell K5.out 0
            have f50 := cur_free K5.out 0
            simp at k50
            refine wpAnyH_ready (rs := [28]) (by kernel_rfl) (by simp) ?_
            refine AllReadyH.cons (by simp only [List.getElem?_toArray, List.getElem?_cons_succ, List.getElem?_cons_zero]; rfl) (fun K hK => ?_) AllReadyH.nil
            go_simp
            refine hK.out _ _ (KD.out _ (B5.out.setCell (p := ⟨w.heap.size + 1, 0, none⟩) (by simp) _)) (fun hH7 => ?_)
            clear hK K hH6
            try simp only [Act.put, List.setIfInBounds_toArray, List.set_cons_zero, List.set_cons_succ]
            refine wpAnyH_done (by kernel_rfl) ?_ _
            clear k50 f50 K5 B5 GB3 hH7
            go_wp2
            go_roundg (4 - (k + 1))
            case measure => omega
            case rel => exact ⟨k + 1, by omega, rfl, by rw [TN.out]; go_num, CN2, Z⟩
          case yp =>
            go_simp
            refine hK.out _ _ (KD.out _ (below_seq BX.out (below_box HD.out (.cells #[] 5)))) (fun hH2 => ?_)
            clear hK K hHeld
            try simp only [Act.put, List.setIfInBounds_toArray, List.set_cons_zero, List.set_cons_succ]
            refine wpAnyH_ready (rs := [1, 23]) (by kernel_rfl) (by simp) ?_
            refine AllReadyH.cons (by simp only [List.getElem?_toArray, List.getElem?_cons_succ, List.getElem?_cons_zero]; rfl) (fun K hK => ?xpy) (AllReadyH.cons (by simp only [List.getElem?_toArray, List.getElem?_cons_succ, List.getElem?_cons_zero]; rfl) (fun K hK => ?ypy) AllReadyH.nil)
            case xpy =>
              have qb := QB.out _ ((below_box HD.out (.cells #[] 5)))
              have qc := QB.out (wr.alloc (.cells #[] 5)) (below_box (Below.refl _ _) _)
              go_simp
              refine hK.out _ _ (KD.out _ (below_seq BX.out (below_box HD.out (.cells #[] 5)))) (fun hH8 => ?_)
              clear hK K hH2 qb qc
              try simp only [Act.put, List.setIfInBounds_toArray, List.set_cons_zero, List.set_cons_succ]
              refine wpAnyH_ready (rs := [23]) (by kernel_rfl) (by simp) ?_
              refine AllReadyH.cons (by simp only [List.getElem?_toArray, List.getElem?_cons_succ, List.getElem?_cons_zero]; rfl) (fun K hK => ?_) AllReadyH.nil
              refine step_app_row (by rfl) _ _ 22 rfl 5 (.int .u8 0) 1 Try.underlying22 Try.info5 rfl wr.heap.size 0 (.slice (some ⟨wr.heap.size, 0, none⟩) 0 0) [] (by rfl) (World.ownsRow_made wr.drew #[] 0 (Nat.le_refl _) (by unfold maxLen; omega) rfl) (some ⟨b, off + (t + 3), none⟩) n (cap - (t + 3)) (((d.drop (t + 3)).take n).map bval) (by rfl) (by rw [List.length_map]; exact DL.out) (RD.out _ (below_seq BX.out (below_box HD.out _))) (fun u hu => by obtain ⟨b, _, rfl⟩ := List.mem_map.1 hu; rfl) (by unfold maxLen; omega) (by omega) (by simp) ?_
              intro v3 w3 ho3 hg3
              rw [Nat.zero_add, List.nil_append] at ho3
              obtain ⟨a3, c3, rfl⟩ := own_shape ho3
              have GB3 := Lib.hid ((below_box HD.out (.cells #[] 5)).grown hg3 (by simp) (fun g hg => (by cases hg; exact Nat.le_refl _)))
              have O3 := Lib.hid ho3
              clear ho3 hg3
              refine hK.out _ _ (KD.out _ (below_seq BX.out GB3.out)) (fun hH10 => ?_)
              clear hK K hH8
              try simp only [Act.put, List.setIfInBounds_toArray, List.set_cons_zero, List.set_cons_succ]
              refine wpAnyH_take (i := 24) (oi := ?onpyxz_24) (v := ?vnpyxz_24) ?hinpyxz_24 (by kernel_rfl) (by kernel_rfl) (by kernel_rfl) ?hqnpyxz_24 ?hynpyxz_24 (by assumption) ?rnpyxz_24
              case hinpyxz_24 => (simp only [List.getElem?_toArray, List.getElem?_cons_succ, List.getElem?_cons_zero]; rfl)
              case hqnpyxz_24 => exact fun _ _ _ h => h
              case hynpyxz_24 =>
                refine Or.inl ⟨by rfl, ?_⟩; intro wq hSw; (try dsimp only at hSw); go_simp; (try with_reducible rfl); done
              try simp only [Act.put, List.setIfInBounds_toArray, List.set_cons_zero, List.set_cons_succ]
              refine wpAnyH_ready (rs := [25]) (by kernel_rfl) (by simp) ?_
              refine AllReadyH.cons (by simp only [List.getElem?_toArray, List.getElem?_cons_succ, List.getElem?_cons_zero]; rfl) (fun K hK => ?_) AllReadyH.nil
              go_simp
              refine hK.out _ _ (KD.out _ (below_seq BX.out (below_box GB3.out (.cells #[.int .i64 (n1 : Int), .int .i64 (n2 : Int), .slice a3 n c3] 40)))) (fun hH11 => ?_)
              clear hK K hH10
              try simp only [Act.put, List.setIfInBounds_toArray, List.set_cons_zero, List.set_cons_succ]
              refine wpAnyH_ready (rs := [26]) (by kernel_rfl) (by simp) ?_
              refine AllReadyH.cons (by simp only [List.getElem?_toArray, List.getElem?_cons_succ, List.getElem?_cons_zero]; rfl) (fun K hK => ?_) AllReadyH.nil
              refine step_app_rowS (by rfl) _ _ 24 rfl 40 _ 3 40 Try.underlying24 Try.infoBlk rfl (by omega) W1s k (.slice a' k cap') (flatG eltL es) (by rfl) (ROW.out _ (below_box GB3.out _)) (some ⟨w3.heap.size, 0, none⟩) 1 1 [.int .i64 (n1 : Int), .int .i64 (n2 : Int), .slice a3 n c3] (by rfl) rfl (lit_rowB w3 [.int .i64 (n1 : Int), .int .i64 (n2 : Int), .slice a3 n c3] 40) (by intro u hu; simp at hu; rcases hu with rfl | rfl | rfl <;> rfl) (by unfold maxLen; omega) (by omega) (by have := GB3.out.size; have := W1L.out; simp; omega) ?_
              intro v5 w5 ho5 hg5
              have X5 := FIN.out w3 GB3.out a3 c3 O3.out v5 w5 ho5 hg5
              obtain ⟨a5, cap5, rfl, B5h, K5h, Zh⟩ := X5
              have B5 := Lib.hid B5h
              have K5 := Lib.hid K5h
              have Z := Lib.hid Zh
              clear B5h K5h Zh ho5 hg5 O3
              refine hK.out _ _ (KD.out _ B5.out) (fun hH12 => ?_)
              clear hK K hH11
              try simp only [Act.put, List.setIfInBounds_toArray, List.set_cons_zero, List.set_cons_succ]
              refine wpAnyH_take (i := 27) (oi := ?onpyxzzf_27) (v := ?vnpyxzzf_27) ?hinpyxzzf_27 (by kernel_rfl) (by kernel_rfl) (by kernel_rfl) ?hqnpyxzzf_27 ?hynpyxzzf_27 (by assumption) ?rnpyxzzf_27
              case hinpyxzzf_27 => (simp only [List.getElem?_toArray, List.getElem?_cons_succ, List.getElem?_cons_zero]; rfl)
              case hqnpyxzzf_27 => exact fun _ _ _ h => h
              case hynpyxzzf_27 =>
                refine Or.inl ⟨by rfl, ?_⟩; intro wq hSw; (try dsimp only at hSw); go_simp; (try with_reducible rfl); done
              try simp only [Act.put, List.setIfInBounds_toArray, List.set_cons_zero, List.set_cons_succ]
              have k50 := cur_cell K5.out 0
              have f50 := cur_free K5.out 0
              simp at k50
              refine wpAnyH_ready (rs := [28]) (by kernel_rfl) (by simp) ?_
              refine AllReadyH.cons (by simp only [List.getElem?_toArray, List.getElem?_cons_succ, List.getElem?_cons_zero]; rfl) (fun K hK => ?_) AllReadyH.nil
              go_simp
              refine hK.out _ _ (KD.out _ (B5.out.setCell (p := ⟨w.heap.size + 1, 0, none⟩) (by simp) _)) (fun hH13 => ?_)
              clear hK K hH12
              try simp only [Act.put, List.setIfInBounds_toArray, List.set_cons_zero, List.set_cons_succ]
              refine wpAnyH_done (by kernel_rfl) ?_ _
              clear k50 f50 K5 B5 GB3 hH13
              go_wp2
              go_roundg (4 - (k + 1))
              case measure => omega
              case rel => exact ⟨k + 1, by omega, rfl, by rw [TN.out]; go_num, CN2, Z⟩
            case ypy =>
              refine step_app_row (by rfl) _ _ 22 rfl 5 (.int .u8 0) 1 Try.underlying22 Try.info5 rfl wr.heap.size 0 (.slice (some ⟨wr.heap.size, 0, none⟩) 0 0) [] (by rfl) (World.ownsRow_made wr.drew #[] 0 (Nat.le_refl _) (by unfold maxLen; omega) rfl) (some ⟨b, off + (t + 3), none⟩) n (cap - (t + 3)) (((d.drop (t + 3)).take n).map bval) (by rfl) (by rw [List.length_map]; exact DL.out) (RD.out _ (below_seq BX.out (below_box HD.out _))) (fun u hu => by obtain ⟨b, _, rfl⟩ := List.mem_map.1 hu; rfl) (by unfold maxLen; omega) (by omega) (by simp) ?_
              intro v3 w3 ho3 hg3
              rw [Nat.zero_add, List.nil_append] at ho3
              obtain ⟨a3, c3, rfl⟩ := own_shape ho3
              have GB3 := Lib.hid ((below_box HD.out (.cells #[] 5)).grown hg3 (by simp) (fun g hg => (by cases hg; exact Nat.le_refl _)))
              have O3 := Lib.hid ho3
              clear ho3 hg3
              refine hK.out _ _ (KD.out _ (below_seq BX.out GB3.out)) (fun hH9 => ?_)
              clear hK K hH2
              try simp only [Act.put, List.setIfInBounds_toArray, List.set_cons_zero, List.set_cons_succ]
              refine wpAnyH_take (i := 24) (oi := ?onpyy_24) (v := ?vnpyy_24) ?hinpyy_24 (by kernel_rfl) (by kernel_rfl) (by kernel_rfl) ?hqnpyy_24 ?hynpyy_24 (by assumption) ?rnpyy_24
              case hinpyy_24 => (simp only [List.getElem?_toArray, List.getElem?_cons_succ, List.getElem?_cons_zero]; rfl)
              case hqnpyy_24 => exact fun _ _ _ h => h
              case hynpyy_24 =>
                refine Or.inl ⟨by rfl, ?_⟩; intro wq hSw; (try dsimp only at hSw); go_simp; (try with_reducible rfl); done
              try simp only [Act.put, List.setIfInBounds_toArray, List.set_cons_zero, List.set_cons_succ]
              refine wpAnyH_ready (rs := [1, 25]) (by kernel_rfl) (by simp) ?_
              refine AllReadyH.cons (by simp only [List.getElem?_toArray, List.getElem?_cons_succ, List.getElem?_cons_zero]; rfl) (fun K hK => ?xpyy) (AllReadyH.cons (by simp only [List.getElem?_toArray, List.getElem?_cons_succ, List.getElem?_cons_zero]; rfl) (fun K hK => ?ypyy) AllReadyH.nil)
              case xpyy =>
                have qb := QB.out _ (GB3.out)
                go_simp
                refine hK.out _ _ (KD.out _ (below_seq BX.out GB3.out)) (fun hH14 => ?_)
                clear hK K hH9 qb
                try simp only [Act.put, List.setIfInBounds_toArray, List.set_cons_zero, List.set_cons_succ]
                refine wpAnyH_ready (rs := [25]) (by kernel_rfl) (by simp) ?_
                refine AllReadyH.cons (by simp only [List.getElem?_toArray, List.getElem?_cons_succ, List.getElem?_cons_zero]; rfl) (fun K hK => ?_) AllReadyH.nil
                go_simp
                refine hK.out _ _ (KD.out _ (below_seq BX.out (below_box GB3.out (.cells #[.int .i64 (n1 : Int), .int .i64 (n2 : Int), .slice a3 n c3] 40)))) (fun hH16 => ?_)
                clear hK K hH14
                try simp only [Act.put, List.setIfInBounds_toArray, List.set_cons_zero, List.set_cons_succ]
                refine wpAnyH_ready (rs := [26]) (by kernel_rfl) (by simp) ?_
                refine AllReadyH.cons (by simp only [List.getElem?_toArray, List.getElem?_cons_succ, List.getElem?_cons_zero]; rfl) (fun K hK => ?_) AllReadyH.nil
                refine step_app_rowS (by rfl) _ _ 24 rfl 40 _ 3 40 Try.underlying24 Try.infoBlk rfl (by omega) W1s k (.slice a' k cap') (flatG eltL es) (by rfl) (ROW.out _ (below_box GB3.out _)) (some ⟨w3.heap.size, 0, none⟩) 1 1 [.int .i64 (n1 : Int), .int .i64 (n2 : Int), .slice a3 n c3] (by rfl) rfl (lit_rowB w3 [.int .i64 (n1 : Int), .int .i64 (n2 : Int), .slice a3 n c3] 40) (by intro u hu; simp at hu; rcases hu with rfl | rfl | rfl <;> rfl) (by unfold maxLen; omega) (by omega) (by have := GB3.out.size; have := W1L.out; simp; omega) ?_
                intro v5 w5 ho5 hg5
                have X5 := FIN.out w3 GB3.out a3 c3 O3.out v5 w5 ho5 hg5
                obtain ⟨a5, cap5, rfl, B5h, K5h, Zh⟩ := X5
                have B5 := Lib.hid B5h
                have K5 := Lib.hid K5h
                have Z := Lib.hid Zh
                clear B5h K5h Zh ho5 hg5 O3
                refine hK.out _ _ (KD.out _ B5.out) (fun hH17 => ?_)
                clear hK K hH16
                try simp only [Act.put, List.setIfInBounds_toArray, List.set_cons_zero, List.set_cons_succ]
                refine wpAnyH_take (i := 27) (oi := ?onpyyxzf_27) (v := ?vnpyyxzf_27) ?hinpyyxzf_27 (by kernel_rfl) (by kernel_rfl) (by kernel_rfl) ?hqnpyyxzf_27 ?hynpyyxzf_27 (by assumption) ?rnpyyxzf_27
                case hinpyyxzf_27 => (simp only [List.getElem?_toArray, List.getElem?_cons_succ, List.getElem?_cons_zero]; rfl)
                case hqnpyyxzf_27 => exact fun _ _ _ h => h
                case hynpyyxzf_27 =>
                  refine Or.inl ⟨by rfl, ?_⟩; intro wq hSw; (try dsimp only at hSw); go_simp; (try with_reducible rfl); done
                try simp only [Act.put, List.setIfInBounds_toArray, List.set_cons_zero, List.set_cons_succ]
                have k50 := cur_cell K5.out 0
                have f50 := cur_free K5.out 0
                simp at k50
                refine wpAnyH_ready (rs := [28]) (by kernel_rfl) (by simp) ?_
                refine AllReadyH.cons (by simp only [List.getElem?_toArray, List.getElem?_cons_succ, List.getElem?_cons_zero]; rfl) (fun K hK => ?_) AllReadyH.nil
                go_simp
                refine hK.out _ _ (KD.out _ (B5.out.setCell (p := ⟨w.heap.size + 1, 0, none⟩) (by simp) _)) (fun hH18 => ?_)
                clear hK K hH17
                try simp only [Act.put, List.setIfInBounds_toArray, List.set_cons_zero, List.set_cons_succ]
                refine wpAnyH_done (by kernel_rfl) ?_ _
                clear k50 f50 K5 B5 GB3 hH18
                go_wp2
                go_roundg (4 - (k + 1))
                case measure => omega
                case rel => exact ⟨k + 1, by omega, rfl, by rw [TN.out]; go_num, CN2, Z⟩
              case ypyy =>
                go_simp
                refine hK.out _ _ (KD.out _ (below_seq BX.out (below_box GB3.out (.cells #[.int .i64 (n1 : Int), .int .i64 (n2 : Int), .slice a3 n c3] 40)))) (fun hH15 => ?_)
                clear hK K hH9
                try simp only [Act.put, List.setIfInBounds_toArray, List.set_cons_zero, List.set_cons_succ]
                refine wpAnyH_ready (rs := [1]) (by kernel_rfl) (by simp) ?_
                refine AllReadyH.cons (by simp only [List.getElem?_toArray, List.getElem?_cons_succ, List.getElem?_cons_zero]; rfl) (fun K hK => ?_) AllReadyH.nil
                have qb := QB.out _ ((below_box GB3.out (.cells #[.int .i64 (n1 : Int), .int .i64 (n2 : Int), .slice a3 n c3] 40)))
                go_simp
                refine hK.out _ _ (KD.out _ (below_seq BX.out (below_box GB3.out (.cells #[.int .i64 (n1 : Int), .int .i64 (n2 : Int), .slice a3 n c3] 40)))) (fun hH19 => ?_)
                clear hK K hH15 qb
                try simp only [Act.put, List.setIfInBounds_toArray, List.set_cons_zero, List.set_cons_succ]
                refine wpAnyH_ready (rs := [26]) (by kernel_rfl) (by simp) ?_
                refine AllReadyH.cons (by simp only [List.getElem?_toArray, List.getElem?_cons_succ, List.getElem?_cons_zero]; rfl) (fun K hK => ?_) AllReadyH.nil
                refine step_app_rowS (by rfl) _ _ 24 rfl 40 _ 3 40 Try.underlying24 Try.infoBlk rfl (by omega) W1s k (.slice a' k cap') (flatG eltL es) (by rfl) (ROW.out _ (below_box GB3.out _)) (some ⟨w3.heap.size, 0, none⟩) 1 1 [.int .i64 (n1 : Int), .int .i64 (n2 : Int), .slice a3 n c3] (by rfl) rfl (lit_rowB w3 [.int .i64 (n1 : Int), .int .i64 (n2 : Int), .slice a3 n c3] 40) (by intro u hu; simp at hu; rcases hu with rfl | rfl | rfl <;> rfl) (by unfold maxLen; omega) (by omega) (by have := GB3.out.size; have := W1L.out; simp; omega) ?_
                intro v5 w5 ho5 hg5
                have X5 := FIN.out w3 GB3.out a3 c3 O3.out v5 w5 ho5 hg5
                obtain ⟨a5, cap5, rfl, B5h, K5h, Zh⟩ := X5
                have B5 := Lib.hid B5h
                have K5 := Lib.hid K5h
                have Z := Lib.hid Zh
                clear B5h K5h Zh ho5 hg5 O3
                refine hK.out _ _ (KD.out _ B5.out) (fun hH20 => ?_)
                clear hK K hH19
                try simp only [Act.put, List.setIfInBounds_toArray, List.set_cons_zero, List.set_cons_succ]
                refine wpAnyH_take (i := 27) (oi := ?onpyyyxf_27) (v := ?vnpyyyxf_27) ?hinpyyyxf_27 (by kernel_rfl) (by kernel_rfl) (by kernel_rfl) ?hqnpyyyxf_27 ?hynpyyyxf_27 (by assumption) ?rnpyyyxf_27
                case hinpyyyxf_27 => (simp only [List.getElem?_toArray, List.getElem?_cons_succ, List.getElem?_cons_zero]; rfl)
                case hqnpyyyxf_27 => exact fun _ _ _ h => h
                case hynpyyyxf_27 =>
                  refine Or.inl ⟨by rfl, ?_⟩; intro wq hSw; (try dsimp only at hSw); go_simp; (try with_reducible rfl); done
                try simp only [Act.put, List.setIfInBounds_toArray, List.set_cons_zero, List.set_cons_succ]
                have k50 := cur_cell K5.out 0
                have f50 := cur_free K5.out 0
                simp at k50
                refine wpAnyH_ready (rs := [28]) (by kernel_rfl) (by simp) ?_
                refine AllReadyH.cons (by simp only [List.getElem?_toArray, List.getElem?_cons_succ, List.getElem?_cons_zero]; rfl) (fun K hK => ?_) AllReadyH.nil
                go_simp
                refine hK.out _ _ (KD.out _ (B5.out.setCell (p := ⟨w.heap.size + 1, 0, none⟩) (by simp) _)) (fun hH21 => ?_)
                clear hK K hH20
                try simp only [Act.put, List.setIfInBounds_toArray, List.set_cons_zero, List.set_cons_succ]
                refine wpAnyH_done (by kernel_rfl) ?_ _
                clear k50 f50 K5 B5 GB3 hH21
                go_wp2
                go_roundg (4 - (k + 1))
                case measure => omega
                case rel => exact ⟨k + 1, by omega, rfl, by rw [TN.out]; go_num, CN2, Z⟩
        · have hn0 : ((n0 : Int) == 1) = false := by simp; omega
          have CE : cntN d n = k := by rw [CN.out, CU.out, if_neg h1]
          clear CU FS TN DL RD KD h1
          obtain ⟨a', cap', es, G, e1, e2, e3, e4, e5⟩ := H.out
          have hel : es.length = k := by have := congrArg List.length e1; simpa [firstN_length] using this
          rw [hel] at e2
          have EM : es.map Elt.m = candN d n := by unfold candN; rw [CE]; exact e1
          have NI : NodeIn [.slice a' k cap'] (candN d n) wr.drew := by
            have := (e3.below block_ong (below_drew (Below.refl wr.heap.size wr))).rd block_ong
            rw [hel, EM] at this
            exact this
          have NO := Lib.hid (uSpecNodeOf _ (candN d n) g n wr.drew NI BB.out.1 BB.out.2)
          have END := Lib.hid (fun w5 => node_end (w5 := w5) hws e5 e3 hel EM)
          have KE := Lib.hid (fun w' (hb : Below wr.heap.size wr w') => And.intro (kept_block e2 hb) (kept_block e4 hb))
          have kb := cur_cell e2 0
          simp at kb
          have BW := Lib.hid (below_drew (Below.refl wr.heap.size wr))
          have BX := Lib.hid e5
          have cvw := CV.out wr.drew (below_seq e5 BW.out)
          have EQ : Hid (∀ q : Bool, decide (nodeOfL (candN d n) g n = d) = q → ((strL (nodeOfL (candN d n) g n)).toList == (strL d).toList) = q ∧ ((strL (nodeOfL (candN d n) g n)).toList != (strL d).toList) = !q) := Lib.hid (fun q hq => by
            rw [strL_toList, strL_toList, bne, ← hq]
            have : (nodeOfL (candN d n) g n == d) = decide (nodeOfL (candN d n) g n = d) := by rw [Bool.eq_iff_iff]; simp
            rw [this]
            exact ⟨rfl, rfl⟩)
          clear H e1 e2 e3 e4 e5 hel EM NI CN CE
          go_upto_region 8 with fail
          go_cut [73] (fun v wx => v = .bool (!(readNB d g n)) ∧ Hid (Below wr.heap.size wr wx))
          case first =>
            obtain ⟨q, hq⟩ : ∃ q, decide (nodeOfL (candN d n) g n = d) = q := ⟨_, rfl⟩
            obtain ⟨e1, e2⟩ := EQ.out _ hq
            have RQ := Lib.hid (RB.out.trans hq)
            clear EQ hq END KE RB
            obtain ⟨x, hx⟩ : ∃ x, strL (nodeOfL (candN d n) g n) = x := ⟨_, rfl⟩
            obtain ⟨y, hy⟩ : ∃ y, strL d = y := ⟨_, rfl⟩
            rw [hx, hy] at e1 e2
            rw [hy] at CV cvw
            have HX := Lib.hid hx
            clear hx hy
            first | go_region_law (first
              | (refine step_callW wr.drew rfl (by rfl) 33 _ _ rfl _ (by kernel_rfl) Try.call33 _ NO.out ?_; rintro e w5 ⟨c5, rfl, ⟨a5, k5, he, how, _⟩, hb⟩; simp at he; subst he; refine ⟨_, rfl, ?_⟩; have BY := Lib.hid (below_seq BW.out hb); have cvd := CV.out w5 (below_seq BX.out BY.out); have cvr := conv_any how; rw [HX.out] at cvr; clear hb how)) | fail "no way"
            all_goals (go_wp2_with fail; go_meet)
            all_goals exact ⟨by rw [RQ.out], BY⟩
          case rest =>
            obtain ⟨rfl, HH⟩ := hcut
            clear NO EQ CV cvw kb BW
            obtain ⟨kB, kR⟩ := KE.out _ HH.out
            have k1 := cur_cell kB 0
            have f1 := cur_free kB 0
            have k0 := cur_cell kR 0
            have f0 := cur_free kR 0
            simp at k0 k1
            have E1 := Lib.hid (END.out _ HH.out)
            have E0 := Lib.hid (fun v => ((below_seq BX.out HH.out).setCell (p := ⟨w.heap.size, 0, none⟩) (by simp) v : Below w.heap.size w _))
            clear KE END HH BX kB kR
            cases hq : readNB d g n
            · have RM := Lib.hid (show readNM d g n = [] by unfold readNM; rw [hq]; rfl)
              clear RB
              go_wp2
              exact bodyPost_ret (v := .tuple #[.agg #[.slice none 0 0], .bool false]) (by simp [results, Try.results38, go_sem, k0]) rfl ⟨_, by first | rfl | rw [hq], by rw [RM.out]; exact BlockSOwn.nil _ _ _, E0.out _⟩
            · have RM := Lib.hid (show readNM d g n = candN d n by unfold readNM; rw [hq, Int.toNat_natCast]; rfl)
              clear RB
              go_wp2
              exact bodyPost_ret (v := .tuple #[.agg #[.slice a' k cap'], .bool true]) (by simp [results, Try.results38, go_sem, k0]) rfl ⟨_, by first | rfl | rw [hq], by rw [RM.out]; exact E1.out.1, E1.out.2⟩
      · have hk4' : k = 4 := by omega
        subst hk4'
        have CE : cntN d n = 4 := CN.out
        rw [HN.out]
        have hnl : ¬ (D : Int) < (D : Int) := by omega
        obtain ⟨k, hke⟩ : ∃ k : Nat, k = 4 := ⟨_, rfl⟩
        rw [← hke] at CE H CN
        clear hke
        obtain ⟨a', cap', es, G, e1, e2, e3, e4, e5⟩ := H.out
        have hel : es.length = k := by have := congrArg List.length e1; simpa [firstN_length] using this
        rw [hel] at e2
        have EM : es.map Elt.m = candN d n := by unfold candN; rw [CE]; exact e1
        have NI : NodeIn [.slice a' k cap'] (candN d n) wr.drew := by
          have := (e3.below block_ong (below_drew (Below.refl wr.heap.size wr))).rd block_ong
          rw [hel, EM] at this
          exact this
        have NO := Lib.hid (uSpecNodeOf _ (candN d n) g n wr.drew NI BB.out.1 BB.out.2)
        have END := Lib.hid (fun w5 => node_end (w5 := w5) hws e5 e3 hel EM)
        have KE := Lib.hid (fun w' (hb : Below wr.heap.size wr w') => And.intro (kept_block e2 hb) (kept_block e4 hb))
        have kb := cur_cell e2 0
        simp at kb
        have BW := Lib.hid (below_drew (Below.refl wr.heap.size wr))
        have BX := Lib.hid e5
        have cvw := CV.out wr.drew (below_seq e5 BW.out)
        have EQ : Hid (∀ q : Bool, decide (nodeOfL (candN d n) g n = d) = q → ((strL (nodeOfL (candN d n) g n)).toList == (strL d).toList) = q ∧ ((strL (nodeOfL (candN d n) g n)).toList != (strL d).toList) = !q) := Lib.hid (fun q hq => by
          rw [strL_toList, strL_toList, bne, ← hq]
          have : (nodeOfL (candN d n) g n == d) = decide (nodeOfL (candN d n) g n = d) := by rw [Bool.eq_iff_iff]; simp
          rw [this]
          exact ⟨rfl, rfl⟩)
        clear H e1 e2 e3 e4 e5 hel EM NI CN CE
        go_upto_region 8 with fail
        go_cut [73] (fun v wx => v = .bool (!(readNB d g n)) ∧ Hid (Below wr.heap.size wr wx))
        case first =>
          obtain ⟨q, hq⟩ : ∃ q, decide (nodeOfL (candN d n) g n = d) = q := ⟨_, rfl⟩
          obtain ⟨e1, e2⟩ := EQ.out _ hq
          have RQ := Lib.hid (RB.out.trans hq)
          clear EQ hq END KE RB
          obtain ⟨x, hx⟩ : ∃ x, strL (nodeOfL (candN d n) g n) = x := ⟨_, rfl⟩
          obtain ⟨y, hy⟩ : ∃ y, strL d = y := ⟨_, rfl⟩
          rw [hx, hy] at e1 e2
          rw [hy] at CV cvw
          have HX := Lib.hid hx
          clear hx hy
          first | go_region_law (first
            | (refine step_callW wr.drew rfl (by rfl) 33 _ _ rfl _ (by kernel_rfl) Try.call33 _ NO.out ?_; rintro e w5 ⟨c5, rfl, ⟨a5, k5, he, how, _⟩, hb⟩; simp at he; subst he; refine ⟨_, rfl, ?_⟩; have BY := Lib.hid (below_seq BW.out hb); have cvd := CV.out w5 (below_seq BX.out BY.out); have cvr := conv_any how; rw [HX.out] at cvr; clear hb how)) | fail "no way"
          all_goals (go_wp2_with fail; go_meet)
          all_goals exact ⟨by rw [RQ.out], BY⟩
        case rest =>
          obtain ⟨rfl, HH⟩ := hcut
          clear NO EQ CV cvw kb BW
          obtain ⟨kB, kR⟩ := KE.out _ HH.out
          have k1 := cur_cell kB 0
          have f1 := cur_free kB 0
          have k0 := cur_cell kR 0
          have f0 := cur_free kR 0
          simp at k0 k1
          have E1 := Lib.hid (END.out _ HH.out)
          have E0 := Lib.hid (fun v => ((below_seq BX.out HH.out).setCell (p := ⟨w.heap.size, 0, none⟩) (by simp) v : Below w.heap.size w _))
          clear KE END HH BX kB kR
          cases hq : readNB d g n
          · have RM := Lib.hid (show readNM d g n = [] by unfold readNM; rw [hq]; rfl)
            clear RB
            go_wp2
            exact bodyPost_ret (v := .tuple #[.agg #[.slice none 0 0], .bool false]) (by simp [results, Try.results38, go_sem, k0]) rfl ⟨_, by first | rfl | rw [hq], by rw [RM.out]; exact BlockSOwn.nil _ _ _, E0.out _⟩
          · have RM := Lib.hid (show readNM d g n = candN d n by unfold readNM; rw [hq, Int.toNat_natCast]; rfl)
            clear RB
            go_wp2
            exact bodyPost_ret (v := .tuple #[.agg #[.slice a' k cap'], .bool true]) (by simp [results, Try.results38, go_sem, k0]) rfl ⟨_, by first | rfl | rw [hq], by rw [RM.out]; exact E1.out.1, E1.out.2⟩
  · have E : readNB d z v = false := by unfold readNB; rw [decide_eq_false hlen]; simp
    have EE := Lib.hid E
    have E2 := Lib.hid (show readNM d z v = [] by unfold readNM; rw [E]; rfl)
    have hlB : ((d.length : Int) != nodeSizeZ v) = true := by simpa using hlen
    clear E hf r hlen
    go_enter Try.func38, Try.ntmps38
    go_wp2_with fail
    refine (FR.out _).mono ?_
    rintro e w1 ⟨rfl, rfl⟩
    go_wp2_with fail
    refine (NS.out _).mono ?_
    rintro e w1 ⟨rfl, rfl⟩
    go_wp2
    exact bodyPost_ret (v := .tuple #[.agg #[.slice none 0 0], .bool false]) (by simp [results, Try.results38, go_sem]) rfl ⟨_, by rw [EE.out], by rw [E2.out]; exact BlockSOwn.nil _ _ _, below_box (Below.refl _ _) _⟩
end Go.Proofs.Ytmndkpicbmffnaa
end
