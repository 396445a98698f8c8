/- TnI in one. Written by tools/join2.py. -/
import Derived.Test.YtmndkpicbmffnaaJN47
import Derived.Test.YtmndkpicbmffnaaJN29
import Derived.Test.YtmndkpicbmffnaaJN27
import Derived.Deep.RegionHeld3
import Derived.Deep.DeepCutAuto
import Derived.Deep.LoopGhost
import Derived.IntWalk
section
namespace Go.Proofs.Ytmndkpicbmffnaa
open Go.RowKit
set_option linter.unusedVariables false
set_option linter.unusedSimpArgs false
set_option maxRecDepth 100000

set_option maxHeartbeats 4000000 in
theorem implReadBlocks (b off cap D n : Nat) (d : List UInt8) (w : World) (hd : d.length = D) (hD : D = 4 * (n + 3)) (hn1 : 1 ≤ n) (hn2 : n ≤ 200) (hcap : D ≤ cap) (r : Row w (some ⟨b, off, none⟩) (d.map bval)) :
    Calls Try.prog 47 #[.slice (some ⟨b, off, none⟩) D cap, .int .i64 n] w fun e w' => ∃ a' c', e = .returned (.slice a' (candN d n).length c') ∧ BlockSOwn w.heap.size w'.heap.size [.slice a' (candN d n).length c'] (candN d n) w' ∧ Below w.heap.size w w' := by
  have SS := Lib.hid (fun w => implSlotSize n w hn2)
  have CELL := Lib.hid (show ∀ w', Below w.heap.size w w' → ∀ i, i < D → w'.cell? ⟨b, off + i, none⟩ = some (.int .u8 ((d.getD i 0).toNat : Int)) from fun w' hb i hi => by
    obtain ⟨b', off', e, hc⟩ := ((lies_row r).below hb).now.at (i := i) (by simpa [hd] using hi)
    simp at e
    obtain ⟨rfl, rfl⟩ := e
    rw [hc, List.getElem?_map, List.getElem?_eq_getElem (by omega), List.getD_eq_getElem?_getD, List.getElem?_eq_getElem (by omega)]
    rfl)
  have RR := Lib.hid (fun w' (hb : Below w.heap.size w w') => ((lies_row r).below hb).now)
  have HDL := Lib.hid hd
  have HN := Lib.hid hD
  have S0 := Lib.hid (show ∃ (es : List (Elt BlkM 3)) (F : Nat → Foot), es.length = 0 ∧ es.map Elt.m = firstN d n 0 ∧ NRow BlockO 40 3 w.heap.size none 0 es F w ∧ Below w.heap.size w w from ⟨[], fun _ _ => False, rfl, rfl, NRow.none _ _ _, Below.refl _ w⟩)
  clear r hd hD
  go_enter Try.func47, Try.ntmps47
  go_wp2_with fail
  go_loopg [0, 5] 4 (fun kk dv bv wr => ∃ (k o mm cc co : Nat) (ao : Option Addr), k ≤ 4 ∧ 4 - k = kk ∧ dv = .slice (some ⟨b, o, none⟩) mm cc ∧ bv = .slice ao k co ∧ Hid (mm = D - k * (n + 3) ∧ (o = off + k * (n + 3) ∨ mm = 0) ∧ mm ≤ cc) ∧ Hid (cntN d n = cntUp d n (4 - k) k) ∧ Hid (∃ (es : List (Elt BlkM 3)) (F : Nat → Foot), es.length = k ∧ es.map Elt.m = firstN d n k ∧ NRow BlockO 40 3 w.heap.size ao co es F wr ∧ Below w.heap.size w wr))
  case atStart => exact ⟨0, off, D, cap, 0, none, Nat.zero_le _, rfl, rfl, rfl, Lib.hid ⟨by omega, .inl (by omega), hcap⟩, Lib.hid rfl, S0⟩
  case round =>
    clear S0
    obtain ⟨k, o, mm, cc, co, ao, hk, hkk, rfl, rfl, HM, CN, S⟩ := hrel
    have BW := Lib.hid (show Below w.heap.size w wr by obtain ⟨_, _, _, _, _, h⟩ := S.out; exact h)
    by_cases hk4 : k < 4
    · have hkt : k * (n + 3) + (n + 3) ≤ D := by rw [HN.out]; have : (k + 1) * (n + 3) ≤ 4 * (n + 3) := Nat.mul_le_mul_right _ hk4; rw [Nat.add_mul] at this; omega
      have CU := Lib.hid (show cntUp d n (4 - k) k = if (d.getD (k * (n + 3)) 0).toNat = 1 then cntUp d n (4 - (k + 1)) (k + 1) else k by
        rw [show 4 - k = (4 - (k + 1)) + 1 from by omega, cntUp]
        by_cases h : d.getD (k * (n + 3)) 0 = 1
        · rw [if_pos h, if_pos (by rw [h]; rfl)]
        · have h2 : ¬ (d.getD (k * (n + 3)) 0).toNat = 1 := fun e => h (UInt8.toNat_inj.1 e)
          rw [if_neg h, if_neg h2])
      have FS := Lib.hid (firstN_snoc d n k)
      have TN := Lib.hid (show (k + 1) * (n + 3) = k * (n + 3) + n + 3 by rw [Nat.add_mul]; omega)
      obtain ⟨hm1, hm2, hm3⟩ := HM.out
      obtain ⟨t, ht⟩ : ∃ t, k * (n + 3) = t := ⟨_, rfl⟩
      rw [ht] at hkt CU FS TN hm1 hm2
      clear ht HM
      have ho : o = off + t := by rcases hm2 with h | h <;> omega
      unfold blkAt at FS
      have C0 := Lib.hid (fun w' (hb : Below w.heap.size w w') => show w'.cell? ⟨b, o, none⟩ = some (.int .u8 ((d.getD t 0).toNat : Int)) from by have := CELL.out w' hb t (by omega); rw [← ho] at this; exact this)
      have K0 := Lib.hid (fun w' (hb : Below w.heap.size w w') => (show w'.cell? ⟨b, o + 1, none⟩ = some (.int .u8 ((d.getD (t + 1) 0).toNat : Int)) ∧ w'.cell? ⟨b, o + 2, none⟩ = some (.int .u8 ((d.getD (t + 2) 0).toNat : Int)) from by
        have h1 := CELL.out w' hb (t + 1) (by omega)
        have h2 := CELL.out w' hb (t + 2) (by omega)
        rw [← Nat.add_assoc, ← ho] at h1 h2
        exact ⟨h1, h2⟩))
      have DL : ((d.drop (t + 3)).take n).length = n := by have := HDL.out; simp; omega
      have RD := Lib.hid (show ∀ w', Below w.heap.size w w' → Row w' (some ⟨b, o + 3, none⟩) (((d.drop (t + 3)).take n).map bval) from fun w' hb => by
        have := (RR.out w' hb).cut (t + 3) n (by have := HDL.out; simp; omega)
        rw [List.map_take, List.map_drop]
        rw [← Nat.add_assoc, ← ho] at this
        exact this)
      have HT := Lib.hid (And.intro hm1 (And.intro ho (And.intro hkt hm3)))
      obtain ⟨dd, hdd⟩ : ∃ dd, (d.drop (t + 3)).take n = dd := ⟨_, rfl⟩
      rw [hdd] at RD FS DL
      have ND := Lib.hid DL
      clear hdd DL
      have bn0 := (d.getD t 0).toNat_lt
      have bn1 := (d.getD (t + 1) 0).toNat_lt
      have bn2 := (d.getD (t + 2) 0).toNat_lt
      generalize (d.getD t 0).toNat = n0 at *
      generalize (d.getD (t + 1) 0).toNat = n1 at *
      generalize (d.getD (t + 2) 0).toNat = n2 at *
      have q0 := C0.out wr BW.out
      have hmm0 : (0 : Int) < (mm : Int) := by omega
      have hmm1 : (1 : Int) < (mm : Int) := by omega
      have hmm2 : (2 : Int) < (mm : Int) := by omega
      have hmd : decide ((0 : Int) < (mm : Int)) = true := by simp; omega
      have hmd2 : decide (0 < mm) = true := by simp; omega
      have hmn : 0 < mm := by omega
      by_cases h1 : n0 = 1
      · have hn0 : ((n0 : Int) == 1) = true := by simp [h1]
        have CN2 := Lib.hid (show cntN d n = cntUp d n (4 - (k + 1)) (k + 1) by rw [CN.out, CU.out, if_pos h1])
        obtain ⟨es, G, e1, e2, e3, e4⟩ := S.out
        have ROW := Lib.hid (fun w' (hb : Below wr.heap.size wr w') => (e3.below block_ong hb).row)
        rw [e1] at ROW
        have PU := Lib.hid (fun w3 g3 c2 ho h2 v5 w5 ho5 hg5 => NRow.push (w3 := w3) (v5 := v5) (w5 := w5) (c2 := c2) (r := ⟨(n1 : Int), (n2 : Int), dd⟩) e3 e4 g3 ho h2 ho5 hg5)
        rw [e1, e2] at PU
        have HW := Lib.hid (show w.heap.size ≤ wr.heap.size from e4.size)
        have KD := Lib.hid (fun w' (hb : Below wr.heap.size wr w') => K0.out w' (below_seq BW.out hb))
        have BC := Lib.hid (fun w' (hb : Below wr.heap.size wr w') => bytesClone ⟨b, o + 3, none⟩ n (cc - 3) dd w' ND.out (by omega) (RD.out w' (below_seq BW.out hb)))
        have HD := Lib.hid (below_drew (Below.refl wr.heap.size wr))
        have hw5 : IntKind.i64.wrap (n1 : Int) = (n1 : Int) := IntWalk.i64_in _ (by omega)
        have hw6 : IntKind.i64.wrap (n2 : Int) = (n2 : Int) := IntWalk.i64_in _ (by omega)
        have u1 : (n : Int) + 3 ≤ (cc : Int) := by omega
        have u1' : ((n + 3 : Nat) : Int) ≤ (cc : Int) := by omega
        have u2 : (3 : Int) ≤ (n : Int) + 3 := by omega
        have u2' : (3 : Int) ≤ ((n + 3 : Nat) : Int) := by omega
        have u3 : ¬ cc = 3 := by omega
        have u4 : n + 3 - 3 = n := by omega
        have u5 : (0 : Int) ≤ (n : Int) + 3 := by omega
        have u6 : n + 3 ≤ cc := by omega
        have u7 : 3 ≤ n + 3 := by omega
        have u8 : ((n : Int) + 3).toNat = n + 3 := by omega
        have u9 : (n : Int) + 3 ≤ (mm : Int) := by omega
        have u9' : ((n + 3 : Nat) : Int) ≤ (mm : Int) := by omega
        have u10 : n + 3 ≤ mm := by omega
        clear S e1 e2 e3 e4 CN CU hm1 hm2 hm3 ho hkt h1
        go_wp2_with fail
        refine (SS.out _).mono ?_
        rintro e w1 ⟨rfl, rfl⟩
        go_upto_region 4 with fail
        refine wp_region_held_drew (S := (fun w' => w'.cell? ⟨b, o + 1, none⟩ = some (.int .u8 (n1 : Int)) ∧ w'.cell? ⟨b, o + 2, none⟩ = some (.int .u8 (n2 : Int)))) (by kernel_rfl) (KD.out _ HD.out) (fun hHeld => ?_)
        refine wpAnyH_take (i := 0) (oi := ?on_0) (v := ?vn_0) ?hin_0 (by kernel_rfl) (by kernel_rfl) (by kernel_rfl) ?hqn_0 ?hyn_0 (by assumption) ?rn_0
        case hin_0 => (simp only [List.getElem?_toArray, List.getElem?_cons_succ, List.getElem?_cons_zero]; rfl)
        case hqn_0 => exact fun _ _ _ h => h
        case hyn_0 =>
          refine Or.inl ⟨by rfl, ?_⟩; intro wq hSw; (try dsimp only at hSw); go_simp; (try with_reducible rfl); done
        try simp only [Act.put, List.setIfInBounds_toArray, List.set_cons_zero, List.set_cons_succ]
        refine wpAnyH_take (i := 1) (oi := ?on_1) (v := ?vn_1) ?hin_1 (by kernel_rfl) (by kernel_rfl) (by kernel_rfl) ?hqn_1 ?hyn_1 (by assumption) ?rn_1
        case hin_1 => (simp only [List.getElem?_toArray, List.getElem?_cons_succ, List.getElem?_cons_zero]; rfl)
        case hqn_1 => exact fun _ _ _ h => h
        case hyn_1 =>
          refine Or.inl ⟨by rfl, ?_⟩; intro wq hSw; (try dsimp only at hSw); go_simp; (try with_reducible rfl); done
        try simp only [Act.put, List.setIfInBounds_toArray, List.set_cons_zero, List.set_cons_succ]
        refine wpAnyH_take (i := 2) (oi := ?on_2) (v := ?vn_2) ?hin_2 (by kernel_rfl) (by kernel_rfl) (by kernel_rfl) ?hqn_2 ?hyn_2 (by assumption) ?rn_2
        case hin_2 => (simp only [List.getElem?_toArray, List.getElem?_cons_succ, List.getElem?_cons_zero]; rfl)
        case hqn_2 => exact fun _ _ _ h => h
        case hyn_2 =>
          refine Or.inl ⟨by rfl, ?_⟩; intro wq hSw; (try dsimp only at hSw); go_simp; (try with_reducible rfl); done
        try simp only [Act.put, List.setIfInBounds_toArray, List.set_cons_zero, List.set_cons_succ]
        refine wpAnyH_take (i := 3) (oi := ?on_3) (v := ?vn_3) ?hin_3 (by kernel_rfl) (by kernel_rfl) (by kernel_rfl) ?hqn_3 ?hyn_3 (by assumption) ?rn_3
        case hin_3 => (simp only [List.getElem?_toArray, List.getElem?_cons_succ, List.getElem?_cons_zero]; rfl)
        case hqn_3 => exact fun _ _ _ h => h
        case hyn_3 =>
          refine Or.inl ⟨by rfl, ?_⟩; intro wq hSw; (try dsimp only at hSw); go_simp; (try with_reducible rfl); done
        try simp only [Act.put, List.setIfInBounds_toArray, List.set_cons_zero, List.set_cons_succ]
        refine wpAnyH_take (i := 4) (oi := ?on_4) (v := ?vn_4) ?hin_4 (by kernel_rfl) (by kernel_rfl) (by kernel_rfl) ?hqn_4 ?hyn_4 (by assumption) ?rn_4
        case hin_4 => (simp only [List.getElem?_toArray, List.getElem?_cons_succ, List.getElem?_cons_zero]; rfl)
        case hqn_4 => exact fun _ _ _ h => h
        case hyn_4 =>
          refine Or.inl ⟨by rfl, ?_⟩; intro wq hSw; (try dsimp only at hSw); go_simp; (try with_reducible rfl); done
        try simp only [Act.put, List.setIfInBounds_toArray, List.set_cons_zero, List.set_cons_succ]
        refine wpAnyH_take (i := 5) (oi := ?on_5) (v := ?vn_5) ?hin_5 (by kernel_rfl) (by kernel_rfl) (by kernel_rfl) ?hqn_5 ?hyn_5 (by assumption) ?rn_5
        case hin_5 => (simp only [List.getElem?_toArray, List.getElem?_cons_succ, List.getElem?_cons_zero]; rfl)
        case hqn_5 => exact fun _ _ _ h => h
        case hyn_5 =>
          refine Or.inl ⟨by rfl, ?_⟩; intro wq hSw; (try dsimp only at hSw); go_simp; (try with_reducible rfl); done
        try simp only [Act.put, List.setIfInBounds_toArray, List.set_cons_zero, List.set_cons_succ]
        refine wpAnyH_take (i := 6) (oi := ?on_6) (v := ?vn_6) ?hin_6 (by kernel_rfl) (by kernel_rfl) (by kernel_rfl) ?hqn_6 ?hyn_6 (by assumption) ?rn_6
        case hin_6 => (simp only [List.getElem?_toArray, List.getElem?_cons_succ, List.getElem?_cons_zero]; rfl)
        case hqn_6 => exact fun _ _ _ h => h
        case hyn_6 =>
          refine Or.inl ⟨by rfl, ?_⟩; intro wq hSw; (try dsimp only at hSw); go_simp; (try with_reducible rfl); done
        try simp only [Act.put, List.setIfInBounds_toArray, List.set_cons_zero, List.set_cons_succ]
        refine wpAnyH_take (i := 7) (oi := ?on_7) (v := ?vn_7) ?hin_7 (by kernel_rfl) (by kernel_rfl) (by kernel_rfl) ?hqn_7 ?hyn_7 (by assumption) ?rn_7
        case hin_7 => (simp only [List.getElem?_toArray, List.getElem?_cons_succ, List.getElem?_cons_zero]; rfl)
        case hqn_7 => exact fun _ _ _ h => h
        case hyn_7 =>
          refine Or.inl ⟨by rfl, ?_⟩; intro wq hSw; (try dsimp only at hSw); go_simp; (try with_reducible rfl); done
        try simp only [Act.put, List.setIfInBounds_toArray, List.set_cons_zero, List.set_cons_succ]
        refine wpAnyH_take (i := 8) (oi := ?on_8) (v := ?vn_8) ?hin_8 (by kernel_rfl) (by kernel_rfl) (by kernel_rfl) ?hqn_8 ?hyn_8 (by assumption) ?rn_8
        case hin_8 => (simp only [List.getElem?_toArray, List.getElem?_cons_succ, List.getElem?_cons_zero]; rfl)
        case hqn_8 => exact fun _ _ _ h => h
        case hyn_8 =>
          refine Or.inl ⟨by rfl, ?_⟩; intro wq hSw; (try dsimp only at hSw); go_simp; (try with_reducible rfl); done
        try simp only [Act.put, List.setIfInBounds_toArray, List.set_cons_zero, List.set_cons_succ]
        refine wpAnyH_take (i := 9) (oi := ?on_9) (v := ?vn_9) ?hin_9 (by kernel_rfl) (by kernel_rfl) (by kernel_rfl) ?hqn_9 ?hyn_9 (by assumption) ?rn_9
        case hin_9 => (simp only [List.getElem?_toArray, List.getElem?_cons_succ, List.getElem?_cons_zero]; rfl)
        case hqn_9 => exact fun _ _ _ h => h
        case hyn_9 =>
          refine Or.inl ⟨by rfl, ?_⟩; intro wq hSw; (try dsimp only at hSw); go_simp; (try with_reducible rfl); done
        try simp only [Act.put, List.setIfInBounds_toArray, List.set_cons_zero, List.set_cons_succ]
        refine wpAnyH_take (i := 10) (oi := ?on_10) (v := ?vn_10) ?hin_10 (by kernel_rfl) (by kernel_rfl) (by kernel_rfl) ?hqn_10 ?hyn_10 (by assumption) ?rn_10
        case hin_10 => (simp only [List.getElem?_toArray, List.getElem?_cons_succ, List.getElem?_cons_zero]; rfl)
        case hqn_10 => exact fun _ _ _ h => h
        case hyn_10 =>
          refine Or.inl ⟨by rfl, ?_⟩; intro wq hSw; (try dsimp only at hSw); go_simp; (try with_reducible rfl); done
        try simp only [Act.put, List.setIfInBounds_toArray, List.set_cons_zero, List.set_cons_succ]
        refine wpAnyH_take (i := 11) (oi := ?on_11) (v := ?vn_11) ?hin_11 (by kernel_rfl) (by kernel_rfl) (by kernel_rfl) ?hqn_11 ?hyn_11 (by assumption) ?rn_11
        case hin_11 => (simp only [List.getElem?_toArray, List.getElem?_cons_succ, List.getElem?_cons_zero]; rfl)
        case hqn_11 => exact fun _ _ _ h => h
        case hyn_11 =>
          refine Or.inl ⟨by rfl, ?_⟩; intro wq hSw; (try dsimp only at hSw); go_simp; (try with_reducible rfl); done
        try simp only [Act.put, List.setIfInBounds_toArray, List.set_cons_zero, List.set_cons_succ]
        refine wpAnyH_ready (rs := [12]) (by kernel_rfl) (by simp) ?_
        refine AllReadyH.cons (by simp only [List.getElem?_toArray, List.getElem?_cons_succ, List.getElem?_cons_zero]; rfl) (fun K hK => ?_) AllReadyH.nil
        go_simp
        go_at_call 65
        refine (BC.out _ HD.out).mono ?_
        rintro e w3 ⟨v3, rfl, ho3, hb3⟩
        obtain ⟨a3, c3, rfl⟩ := own_shape ho3
        have GB3 := Lib.hid (below_seq HD.out hb3)
        have O3 := Lib.hid (own_base ho3 (show wr.heap.size ≤ wr.drew.heap.size from Nat.le_refl _))
        clear ho3 hb3
        refine hK.out _ _ (KD.out _ GB3.out) (fun hH1 => ?_)
        clear hK K hHeld
        try simp only [Act.put, List.setIfInBounds_toArray, List.set_cons_zero, List.set_cons_succ]
        refine wpAnyH_take (i := 13) (oi := ?on_13) (v := ?vn_13) ?hin_13 (by kernel_rfl) (by kernel_rfl) (by kernel_rfl) ?hqn_13 ?hyn_13 (by assumption) ?rn_13
        case hin_13 => (simp only [List.getElem?_toArray, List.getElem?_cons_succ, List.getElem?_cons_zero]; rfl)
        case hqn_13 => exact fun _ _ _ h => h
        case hyn_13 =>
          refine Or.inl ⟨by rfl, ?_⟩; intro wq hSw; (try dsimp only at hSw); go_simp; (try with_reducible rfl); done
        try simp only [Act.put, List.setIfInBounds_toArray, List.set_cons_zero, List.set_cons_succ]
        refine wpAnyH_ready (rs := [14]) (by kernel_rfl) (by simp) ?_
        refine AllReadyH.cons (by simp only [List.getElem?_toArray, List.getElem?_cons_succ, List.getElem?_cons_zero]; rfl) (fun K hK => ?_) AllReadyH.nil
        go_simp
        refine hK.out _ _ (KD.out _ (below_box GB3.out (.cells #[.int .i64 (n1 : Int), .int .i64 (n2 : Int), .slice a3 n c3] 40))) (fun hH2 => ?_)
        clear hK K hH1
        try simp only [Act.put, List.setIfInBounds_toArray, List.set_cons_zero, List.set_cons_succ]
        refine wpAnyH_ready (rs := [15]) (by kernel_rfl) (by simp) ?_
        refine AllReadyH.cons (by simp only [List.getElem?_toArray, List.getElem?_cons_succ, List.getElem?_cons_zero]; rfl) (fun K hK => ?_) AllReadyH.nil
        refine step_app_rowS (by rfl) _ _ 24 rfl 40 _ 3 40 Try.underlying24 Try.infoBlk rfl (by omega) w.heap.size k (.slice ao k co) (flatG eltL es) (by rfl) (ROW.out _ (below_box GB3.out _)) (some ⟨w3.heap.size, 0, none⟩) 1 1 [.int .i64 (n1 : Int), .int .i64 (n2 : Int), .slice a3 n c3] (by rfl) rfl (lit_rowB w3 [.int .i64 (n1 : Int), .int .i64 (n2 : Int), .slice a3 n c3] 40) (by intro u hu; simp at hu; rcases hu with rfl | rfl | rfl <;> rfl) (by unfold maxLen; omega) (by omega) (by have := GB3.out.size; have := HW.out; simp; omega) ?_
        intro v5 w5 ho5 hg5
        have OB : BlockOwn wr.heap.size w3.heap.size [.int .i64 (n1 : Int), .int .i64 (n2 : Int), .slice a3 n c3] ⟨(n1 : Int), (n2 : Int), dd⟩ w3 := (by obtain ⟨f, f1, f2⟩ := (ByteSOwn.mk (by rw [ND.out]; exact O3.out) : ByteSOwn wr.heap.size w3.heap.size [.slice a3 dd.length c3] dd w3).toO; rw [ND.out] at f1; exact ⟨f, ⟨_, rfl, f1⟩, f2⟩)
        obtain ⟨a5, c5, rfl, es', F', p1, p2, p3, p4⟩ := PU.out w3 GB3.out _ OB rfl v5 w5 ho5 hg5
        have KD5 := Lib.hid (K0.out _ p4)
        have Z := Lib.hid (show ∃ (es : List (Elt BlkM 3)) (F : Nat → Foot), es.length = k + 1 ∧ es.map Elt.m = firstN d n (k + 1) ∧ NRow BlockO 40 3 w.heap.size a5 c5 es F w5 ∧ Below w.heap.size w w5 from ⟨es', F', p1, p2.trans FS.out.symm, p3, p4⟩)
        clear ho5 hg5 OB p1 p2 p3 p4
        refine hK.out _ _ (KD5.out) (fun hH3 => ?_)
        clear hK K hH2
        try simp only [Act.put, List.setIfInBounds_toArray, List.set_cons_zero, List.set_cons_succ]
        refine wpAnyH_ready (rs := [16]) (by kernel_rfl) (by simp) ?_
        refine AllReadyH.cons (by simp only [List.getElem?_toArray, List.getElem?_cons_succ, List.getElem?_cons_zero]; rfl) (fun K hK => ?_) AllReadyH.nil
        go_simp
        refine hK.out _ _ (KD5.out) (fun hH4 => ?_)
        clear hK K hH3
        try simp only [Act.put, List.setIfInBounds_toArray, List.set_cons_zero, List.set_cons_succ]
        refine wpAnyH_done (by kernel_rfl) ?_ _
        clear KD5 GB3 O3 hH4
        clear ROW PU KD BC HD FS C0 K0 RD q0
        obtain ⟨hm1, ho, hkt, hm3⟩ := HT.out
        by_cases hce : cc = n + 3
        · have hme : mm = n + 3 := by omega
          have Z1 := Lib.hid (show 0 = D - (k + 1) * (n + 3) ∧ (o = off + (k + 1) * (n + 3) ∨ 0 = 0) ∧ 0 ≤ 0 from ⟨by rw [TN.out]; omega, .inr rfl, by omega⟩)
          clear hm1 ho hkt hm3 HT
          subst hce hme
          go_wp2
          go_roundg (4 - (k + 1))
          case measure => omega
          case rel => exact ⟨k + 1, _, _, _, _, _, by omega, rfl, rfl, rfl, Lib.hid ⟨Z1.out.1, .inr rfl, Nat.le_refl _⟩, CN2, Z⟩
        · have Z1 := Lib.hid (show mm - (n + 3) = D - (k + 1) * (n + 3) ∧ (o + (n + 3) = off + (k + 1) * (n + 3) ∨ mm - (n + 3) = 0) ∧ mm - (n + 3) ≤ cc - (n + 3) from ⟨by rw [TN.out]; omega, .inl (by rw [TN.out]; omega), by omega⟩)
          clear hm1 ho hkt hm3 HT
          go_wp2
          go_roundg (4 - (k + 1))
          case measure => omega
          case rel => exact ⟨k + 1, _, _, _, _, _, by omega, rfl, rfl, rfl, Z1, CN2, Z⟩
      · have hn0 : ((n0 : Int) == 1) = false := by simp; omega
        have CE := Lib.hid (show cntN d n = k by rw [CN.out, CU.out, if_neg h1])
        have Z := Lib.hid (show (candN d n).length = k ∧ BlockSOwn w.heap.size wr.heap.size [.slice ao k co] (candN d n) wr by
          obtain ⟨es, G, e1, e2, e3, e4⟩ := S.out
          have := nrow_own e3
          rw [e1, e2] at this
          unfold candN
          rw [CE.out]
          exact ⟨firstN_length _ _ _, this⟩)
        clear S CN CU hm1 hm2 hm3 ho hkt HT h1
        go_wp2
        go_ret
        exact ⟨ao, co, by rw [Z.out.1]; rfl, by rw [Z.out.1]; exact Z.out.2, BW.out⟩
    · have hk44 : k = 4 := by omega
      have CE := Lib.hid (show cntN d n = k by rw [CN.out, hk44]; rfl)
      have hmz : mm = 0 := by rw [HM.out.1, HN.out, hk44]; omega
      have Z := Lib.hid (show (candN d n).length = k ∧ BlockSOwn w.heap.size wr.heap.size [.slice ao k co] (candN d n) wr by
        obtain ⟨es, G, e1, e2, e3, e4⟩ := S.out
        have := nrow_own e3
        rw [e1, e2] at this
        unfold candN
        rw [CE.out]
        exact ⟨firstN_length _ _ _, this⟩)
      clear S CN HM hk44
      subst hmz
      go_wp2
      go_ret
      exact ⟨ao, co, by rw [Z.out.1]; rfl, by rw [Z.out.1]; exact Z.out.2, BW.out⟩
theorem bytesEqV (v1 v2 : Value) (n1 n2 c1 c2 : Nat) (a1 a2 : Option Addr) (l1 l2 : List UInt8) (w : World) (h1 : v1 = .slice a1 n1 c1) (h2 : v2 = .slice a2 n2 c2)
    (k1 : (convert 22 9 v1).run Try.prog w = .ok (.string (strL l1)) w) (k2 : (convert 22 9 v2).run Try.prog w = .ok (.string (strL l2)) w) :
    Calls Try.prog 48 #[v1, v2] w fun e w' => e = .returned (.bool (l1 == l2)) ∧ w = w' := by
  subst h1 h2
  go_enter Try.func48, Try.ntmps48
  go_wp2
  go_ret
  exact ⟨ret_bool (by rw [strL_toList, strL_toList]), rfl⟩
set_option maxHeartbeats 8000000 in
theorem uImplNodeRead (c : Value) (d : List UInt8) (z v : Int) (w : World) (h : ByteSIn [c] d w) (b1 : -9223372036854775808 ≤ z ∧ z ≤ 9223372036854775807) (b2 : -9223372036854775808 ≤ v ∧ v ≤ 9223372036854775807) : Calls Try.prog 14 #[c, .int .i64 z, .int .i64 v] w fun e w' => ∃ c0, e = .returned (.tuple #[.agg #[c0], .bool (readNB d z v)]) ∧ NodeOwn w.heap.size w'.heap.size [c0] (readNM d z v) w' ∧ Below w.heap.size w w' := by
  have NS := Lib.hid (fun w' => implNodeSize v w')
  obtain ⟨a, cap, rfl, hcap, hm, r⟩ := byteSIn_shape h
  have hm2 := hm
  unfold maxLen at hm
  clear h
  by_cases hlen : (d.length : Int) = nodeSizeZ v
  · obtain ⟨n, rfl, hn1, hn2, hdl⟩ : ∃ n : Nat, v = n ∧ 1 ≤ n ∧ n ≤ 200 ∧ d.length = 4 * (n + 3) := by
      unfold nodeSizeZ at hlen
      by_cases hv : 1 ≤ v ∧ v ≤ 200
      · rw [if_pos hv] at hlen; exact ⟨v.toNat, by omega, by omega, by omega, by omega⟩
      · rw [if_neg hv] at hlen; omega
    have NE := Lib.hid hlen
    have RBd := Lib.hid (show readNB d z n = (frameB z n && decide (nodeOfL (candN d n) z n = d)) by unfold readNB; rw [decide_eq_true hlen, Int.toNat_natCast, Bool.true_and])
    have RMd := Lib.hid (show readNM d z n = if readNB d z n = true then candN d n else [] by unfold readNM; rw [Int.toNat_natCast])
    obtain ⟨b, off, rfl⟩ : ∃ b off, a = some ⟨b, off, none⟩ := by
      obtain ⟨b, off, e, _⟩ := r.at (i := 0) (by simp; omega)
      exact ⟨b, off, e⟩
    obtain ⟨D, hD⟩ : ∃ D, d.length = D := ⟨_, rfl⟩
    rw [hD] at hcap NE hlen hdl hm hm2 ⊢
    have CLE := cntN_le d n
    have CLN : (candN d n).length = cntN d n := firstN_length _ _ _
    obtain ⟨W0, hW0⟩ : ∃ W0, W0 = w.alloc (.cells #[.slice none 0 0] 26) := ⟨_, rfl⟩
    have KR := Lib.hid (show W0.heap[w.heap.size]? = some (.cells #[.slice none 0 0] 26 (0, 0)) by rw [hW0]; exact alloc_at _ _ _ rfl)
    have B0 := Lib.hid (show Below w.heap.size w W0 by rw [hW0]; exact below_box (Below.refl _ w) _)
    have hs0 : W0.heap.size = w.heap.size + 1 := by rw [hW0]; simp
    have RR := Lib.hid (fun w' (hb : Below w.heap.size w w') => ((lies_row r).below hb).now)
    have RBK := Lib.hid (implReadBlocks b off cap D n d W0 hD hdl hn1 hn2 hcap (RR.out W0 B0.out))
    have hD1 : 1 ≤ D := by omega
    have hD2 : D ≤ 812 := by omega
    have HCV := Lib.hid (fun w' (hb : Below w.heap.size w w') => conv_row (w := w') (b := b) (off := off) (n := D) (cap := cap) (l := d) hD (fun i hi => by
      obtain ⟨b', off', e, hc⟩ := (RR.out w' hb).at (i := i) (by simpa using hi)
      simp at e
      obtain ⟨rfl, rfl⟩ := e
      exact hc))
    have HDD := Lib.hid hdl
    have HDN := Lib.hid hD
    have HLEN := Lib.hid (And.intro CLE CLN)
    have hlB : ((D : Int) != nodeSizeZ (n : Int)) = false := by rw [← hlen]; simp
    obtain ⟨Ln, hLn⟩ : ∃ Ln, (candN d n).length = Ln := ⟨_, rfl⟩
    rw [hLn] at RBK
    have HLn := Lib.hid hLn
    clear hlen hdl hm hm2 r hcap CLE CLN hLn hD
    go_enter Try.func14, Try.ntmps14
    go_wp2_with fail
    rw [← hW0]
    clear hW0
    refine (NS.out _).mono ?_
    rintro e w1 ⟨rfl, rfl⟩
    clear NS
    go_wp2_with fail
    refine RBK.out.mono ?_
    rintro e w1 ⟨a', c', rfl, BO, hb1⟩
    have k0 := Lib.hid (kept_block KR.out hb1)
    have BI := BO.read
    have Lw := BO.lies (Nat.le_refl _)
    have B1 := Lib.hid (below_seq B0.out hb1)
    have hs1 := B1.out.size
    have hs1' := hb1.size
    obtain ⟨W2, hW2⟩ : ∃ W2, W2 = w1.alloc (.cells #[.slice a' Ln c'] 26) := ⟨_, rfl⟩
    have K2 := Lib.hid (show W2.heap[w1.heap.size]? = some (.cells #[.slice a' Ln c'] 26 (0, 0)) by rw [hW2]; exact alloc_at _ _ _ rfl)
    have BX := Lib.hid (show Below w1.heap.size w1 W2 by rw [hW2]; exact below_box (Below.refl _ w1) _)
    have NO := Lib.hid (uImplNodeOk _ (candN d n) z n W2 (blockS_rdg.below BI BX.out))
    have FIN := Lib.hid (fun wE (hE : Below w1.heap.size w1 wE) => show NodeOwn w.heap.size (wE.setCell ⟨w.heap.size, 0, none⟩ (.slice a' Ln c')).heap.size [.slice a' Ln c'] (candN d n) (wE.setCell ⟨w.heap.size, 0, none⟩ (.slice a' Ln c')) from
      BlockSOwn.wide (Lw.sup _ (fun k h1 h2 => (Below.heap_setCell _ _ _ k (by simp; omega)).trans (hE.block k h2))) (by omega) (by have := hE.size; simp; omega))
    have FINB := Lib.hid (fun wE (hE : Below w1.heap.size w1 wE) v => show Below w.heap.size w (wE.setCell ⟨w.heap.size, 0, none⟩ v) from (below_seq B1.out hE).setCell (p := ⟨w.heap.size, 0, none⟩) (Nat.le_refl _) v)
    have BII := Lib.hid BI
    clear BO hb1 RBK KR B0 BI Lw hs0 hs1 hs1'
    have kb := cur_cell K2.out 0
    simp at kb
    go_upto_region 4 with fail
    rw [← hW2]
    clear hW2
    go_wp2_with fail
    refine NO.out.mono ?_
    rintro e w3 ⟨rfl, hb3⟩
    have B3 := Lib.hid (below_seq BX.out hb3)
    have K3 := Lib.hid (kept_block K2.out hb3)
    have k3 := cur_cell K3.out 0
    have R3 := kept_block k0.out B3.out
    have r0 := cur_cell R3 0
    have f0 := cur_free R3 0
    simp at k3 r0
    clear hb3 NO BX K2 kb
    cases hok : nodeOkB (candN d n) z n
    · have RF := Lib.hid (show readNB d z n = false by
        rw [RBd.out, nodeOfL_no hok, decide_eq_false (by intro e; have := HDN.out; rw [← e] at this; simp at this; omega)]; simp)
      have RM := Lib.hid (show readNM d z n = [] by rw [RMd.out, RF.out]; rfl)
      clear hok RBd RMd R3
      go_wp2
      exact bodyPost_ret (v := .tuple #[.agg #[.slice none 0 0], .bool false]) (by simp [results, Try.results14, go_sem, r0]) rfl ⟨_, by rw [RF.out], by rw [RM.out]; exact BlockSOwn.nil _ _ _, FINB.out _ B3.out _⟩
    · obtain ⟨hl4, hbs⟩ := nodeOkB_ok hok
      have hfr := (blocksOkB_all hbs).1
      have EB := fun m hm => blockOkB_ok (blocksOkB_each hbs m hm)
      have he : ∀ m ∈ candN d n, (0 ≤ m.id ∧ m.id ≤ 255) ∧ (0 ≤ m.leaf ∧ m.leaf ≤ 255) ∧ m.data.length = n := fun m hm => ⟨(EB m hm).2.1, leaf_byte (EB m hm).2.2.1, by have := (EB m hm).2.2.2; omega⟩
      have hel : (encAll (candN d n)).length = (candN d n).length * (n + 3) := encAll_length (fun m hm => (he m hm).2.2)
      have hl : (candN d n).length * (n + 3) ≤ D := by rw [HDD.out]; exact Nat.mul_le_mul_right _ hl4
      have EZ : nodeOfL (candN d n) z n = encAll (candN d n) ++ List.replicate (D - (candN d n).length * (n + 3)) 0 := by
        unfold nodeOfL; rw [if_pos hok, Int.toNat_natCast, hel, HDD.out]
      have RW := Lib.hid (implRewritten b off cap D n d (.slice a' Ln c') (candN d n) w1 w3 HDN.out (RR.out w3 (below_seq B1.out B3.out)) B3.out BII.out he hn1 hn2 hl4 hl hD1 hD2)
      rw [← EZ] at RW
      rw [hfr, Bool.true_and] at RBd
      clear hok hbs hfr EB he hel hl EZ hl4 R3
      obtain ⟨Z, hZ⟩ : ∃ Z, nodeOfL (candN d n) z n = Z := ⟨_, rfl⟩
      rw [hZ] at RW RBd
      clear hZ
      go_wp2_with fail
      refine RW.out.mono ?_
      rintro e w4 ⟨v4, rfl, ho4, hb4⟩
      obtain ⟨a4, c4, rfl⟩ := own_shape ho4
      have B4 := Lib.hid (below_seq B3.out hb4)
      have cv1 := conv_any ho4
      have cv2 := HCV.out w4 (below_seq B1.out B4.out)
      have EQ := Lib.hid (bytesEqV _ _ _ _ _ _ _ _ _ _ w4 rfl rfl cv1 cv2)
      have k4 := cur_cell (kept_block K3.out hb4) 0
      have R4 := kept_block k0.out B4.out
      have r4 := cur_cell R4 0
      have f4 := cur_free R4 0
      simp at k4 r4
      have RQ := Lib.hid (show readNB d z n = (Z == d) by rw [RBd.out, Bool.eq_iff_iff]; simp)
      clear ho4 hb4 cv1 cv2 RW K3 k3 r0 f0 B3 R4 RBd HCV
      go_wp2_with fail
      refine EQ.out.mono ?_
      rintro e w5 ⟨rfl, rfl⟩
      rw [← RQ.out]
      clear EQ RQ
      cases hq : readNB d z n
      · have RM := Lib.hid (show readNM d z n = [] by rw [RMd.out, hq]; rfl)
        have HQ := Lib.hid hq
        clear hq RMd
        go_wp2
        exact bodyPost_ret (v := .tuple #[.agg #[.slice none 0 0], .bool false]) (by simp [results, Try.results14, go_sem, r4]) rfl ⟨_, by rw [HQ.out], by rw [RM.out]; exact BlockSOwn.nil _ _ _, FINB.out _ B4.out _⟩
      · have RM := Lib.hid (show readNM d z n = candN d n by rw [RMd.out, hq]; rfl)
        have HQ := Lib.hid hq
        clear hq RMd
        go_wp2
        exact bodyPost_ret (v := .tuple #[.agg #[.slice a' Ln c'], .bool true]) (by simp [results, Try.results14, go_sem, r4]) rfl ⟨_, by rw [HQ.out], by rw [RM.out]; exact FIN.out _ B4.out, FINB.out _ B4.out _⟩
  · have E : readNB d z v = false := by unfold readNB; rw [decide_eq_false hlen]; simp
    have EE := Lib.hid E
    have E2 := Lib.hid (show readNM d z v = [] by unfold readNM; rw [E]; rfl)
    have hlB : ((d.length : Int) != nodeSizeZ v) = true := by simpa using hlen
    have KR := Lib.hid (alloc_at w (.cells #[.slice none 0 0] 26) _ rfl)
    have k0 := cur_cell KR.out 0
    have f0 := cur_free KR.out 0
    simp at k0
    clear E r hlen KR
    go_enter Try.func14, Try.ntmps14
    go_wp2_with fail
    refine (NS.out _).mono ?_
    rintro e w1 ⟨rfl, rfl⟩
    go_wp2
    exact bodyPost_ret (v := .tuple #[.agg #[.slice none 0 0], .bool false]) (by simp [results, Try.results14, go_sem, k0]) rfl ⟨_, by rw [EE.out], by rw [E2.out]; exact BlockSOwn.nil _ _ _, below_box (Below.refl _ _) _⟩
theorem impl12 : Impl12 := ⟨uImplNodeSize, uImplNodeOf, uImplNodeRead⟩
end Go.Proofs.Ytmndkpicbmffnaa
end
