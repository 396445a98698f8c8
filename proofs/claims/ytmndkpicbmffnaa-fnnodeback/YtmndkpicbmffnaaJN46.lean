/- TnW in one. Written by tools/join2.py. -/
import Derived.Test.YtmndkpicbmffnaaJN45
section
namespace Go.Proofs.Ytmndkpicbmffnaa
open Go.RowKit
set_option linter.unusedVariables false
set_option linter.unusedSimpArgs false
set_option maxRecDepth 100000

theorem zero_u8 : ∀ w, (zeroValue 5).run Try.prog w = .ok (.int .u8 0) w := fun w => by
  obtain ⟨i0, hi, hz0, hz1, hz2⟩ := info_parts Try.info5
  simp [zeroValue, typeInfo, hi, hz0]
set_option maxHeartbeats 4000000 in
theorem implWriteBlocks (g M C N base n : Nat) (xs : List Value) (c : Value) (l : List BlkM) (w0 w : World) (HO : w.ownsRow base 5 1 (.slice (some ⟨g, 0, none⟩) N N) N xs) (hB : w0.heap.size ≤ base) (HB0 : Below w0.heap.size w0 w)
    (h : BlockSIn [c] l w0) (he : ∀ m ∈ l, (0 ≤ m.id ∧ m.id ≤ 255) ∧ (0 ≤ m.leaf ∧ m.leaf ≤ 255) ∧ m.data.length = n) (hn1 : 1 ≤ n) (hn2 : n ≤ 200) (hl4 : l.length ≤ 4) (hl : l.length * (n + 3) ≤ M) (hMN : M ≤ N) (hMC : M ≤ C) (hC : C ≤ maxLen) :
    Calls Try.prog 46 #[.slice (some ⟨g, 0, none⟩) M C, c] w fun e w' => e = .returned (.tuple #[]) ∧
      w'.ownsRow base 5 1 (.slice (some ⟨g, 0, none⟩) N N) N ((encAll l ++ List.replicate (M - l.length * (n + 3)) 0).map bval ++ xs.drop M) ∧ Below base w w' := by
  have hxl : xs.length = N := by simpa using HO.1
  have hgb := HO.lt g rfl
  obtain ⟨a, cap, es, rfl, g1, g2, g3, r1, r2, r3⟩ := blockSIn_shape h
  have EL := Lib.hid (fun (i : Nat) (hi : i < l.length) => r1.blk r3 r2 hi)
  have HE := Lib.hid he
  have EA := Lib.hid (fun i (hi : i ≤ l.length) => show (encAll (l.take i)).length = i * (n + 3) by
    rw [encAll_length (fun m hm => (he m (List.mem_of_mem_take hm)).2.2), List.length_take, Nat.min_eq_left hi])
  have B0 := Lib.hid HB0
  have S0 := Lib.hid (show w.ownsRow base 5 1 (.slice (some ⟨g, 0, none⟩) N N) N ((encAll (l.take 0)).map bval ++ xs.drop (0 * (n + 3))) ∧ Below base w w from ⟨by simpa [encAll] using HO, Below.refl _ _⟩)
  clear h he r1 r2 r3 g1 g3 HB0 HO es
  unfold maxLen at g2 hC
  go_enter Try.func46, Try.ntmps46
  go_wp2_with fail
  go_loopg [4, 10] l.length (fun kk rv iv wr => ∃ (i o mm cc : Nat), i ≤ l.length ∧ l.length - i = kk ∧ rv = .slice (some ⟨g, o, none⟩) mm cc ∧ iv = .int .i64 i ∧ Hid (mm = M - i * (n + 3) ∧ (o = i * (n + 3) ∨ mm = 0) ∧ mm ≤ cc ∧ cc ≤ maxLen) ∧ Hid (wr.ownsRow base 5 1 (.slice (some ⟨g, 0, none⟩) N N) N ((encAll (l.take i)).map bval ++ xs.drop (i * (n + 3))) ∧ Below base w wr))
  case atStart => exact ⟨0, 0, M, C, Nat.zero_le _, rfl, rfl, rfl, Lib.hid ⟨by omega, .inl (by omega), hMC, by unfold maxLen; omega⟩, S0⟩
  case round =>
    clear S0
    obtain ⟨i, o, mm, cc, hi, hik, rfl, rfl, HM, S⟩ := hrel
    by_cases hlt : i < l.length
    · obtain ⟨b1, o1, x2, x4, rfl, q0, q1, q2, hy⟩ := EL.out i hlt
      obtain ⟨e1, e2, e3⟩ := HE.out l[i] (List.getElem_mem hlt)
      have hB2 : Below w0.heap.size w0 wr := B0.out.trans (S.out.2.mono hB)
      have hin : (i + 1) * (n + 3) ≤ M := Nat.le_trans (Nat.mul_le_mul_right _ (by omega)) hl
      have hin2 : (i + 1) * (n + 3) = i * (n + 3) + (n + 3) := by rw [Nat.add_mul]; omega
      have hmm : mm = M - i * (n + 3) := HM.out.1
      have ho : o = i * (n + 3) := by rcases HM.out.2.1 with h | h <;> omega
      have hcc := HM.out.2.2
      have q0' := cell_keep q0 hB2
      have q1' := cell_keep q1 hB2
      have q2' := cell_keep q2 hB2
      have hi0 : (0 : Int) ≤ (i : Int) := by omega
      have hi1 : (i : Int) < (l.length : Int) := by omega
      obtain ⟨W2, hW2⟩ : ∃ W2, W2 = wr.alloc (.cells #[.int .i64 l[i].id, .int .i64 l[i].leaf, .slice x2 l[i].data.length x4] 40) := ⟨_, rfl⟩
      have hsz := S.out.2.size
      have BX : Below base wr W2 := by rw [hW2]; exact (below_box (Below.refl _ wr) _).mono (by omega)
      have K2 : W2.heap[wr.heap.size]? = some (.cells #[.int .i64 l[i].id, .int .i64 l[i].leaf, .slice x2 l[i].data.length x4] 40 (0, 0)) := by rw [hW2]; exact alloc_at _ _ _ rfl
      have k0 := cur_cell K2 0
      have k1 := cur_cell K2 1
      have k2 := cur_cell K2 2
      simp at k0 k1 k2
      have O2 : W2.ownsRow base 5 1 (.slice (some ⟨g, 0, none⟩) N N) N ((encAll (l.take i)).map bval ++ xs.drop (i * (n + 3))) := by
        rw [hW2]; exact own_below S.out.1 (below_box (Below.refl _ wr) _)
      have WB := Lib.hid (implWriteBlock g o mm cc N base w0.heap.size _ _ _ _ l[i] W2 O2 hB (fun w' hb => block_rdg.below hy (hB2.trans ((BX.mono hB).trans hb))) e1 e2 (by omega) (by omega) (by omega) (by omega) hcc.1 hcc.2)
      have NX := Lib.hid (fun (o' c' : Nat) (w' : World) (ho' : o' = o + (l[i].data.length + 3) ∨ mm = l[i].data.length + 3) (hc1 : mm - (l[i].data.length + 3) ≤ c') (hc2 : c' ≤ maxLen)
          (hO : w'.ownsRow base 5 1 (.slice (some ⟨g, 0, none⟩) N N) N (((encAll (l.take i)).map bval ++ xs.drop (i * (n + 3))).take o ++ ((encB l[i]).map bval ++ ((encAll (l.take i)).map bval ++ xs.drop (i * (n + 3))).drop (o + (l[i].data.length + 3))))) (hb : Below base W2 w') =>
        show Hid (mm - (l[i].data.length + 3) = M - (i + 1) * (n + 3) ∧ (o' = (i + 1) * (n + 3) ∨ mm - (l[i].data.length + 3) = 0) ∧ mm - (l[i].data.length + 3) ≤ c' ∧ c' ≤ maxLen) ∧ Hid (w'.ownsRow base 5 1 (.slice (some ⟨g, 0, none⟩) N N) N ((encAll (l.take (i + 1))).map bval ++ xs.drop ((i + 1) * (n + 3))) ∧ Below base w w') from by
          refine ⟨Lib.hid ⟨by omega, by omega, hc1, hc2⟩, Lib.hid ⟨?_, S.out.2.trans (BX.trans hb)⟩⟩
          have hel := EA.out i hi
          have t := two_parts (A := ([] : List Value)) (Y := (encAll (l.take i)).map bval) (R := xs.drop (i * (n + 3))) (off := 0) (a := o) rfl (by rw [List.length_map, hel, ho]) (n + 3)
          simp only [List.nil_append, Nat.zero_add] at t
          rw [e3, t.1, t.2, List.drop_drop] at hO
          rw [encAll_snoc hlt, List.map_append, List.append_assoc, hin2]
          exact hO)
      clear EL HE hy q0 q1 q2 e1 e2 hB2 O2 BX K2 HM hmm ho hin hin2 hcc
      obtain ⟨y0, hy0⟩ : ∃ y0, l[i].id = y0 := ⟨_, rfl⟩
      obtain ⟨y1, hy1⟩ : ∃ y1, l[i].leaf = y1 := ⟨_, rfl⟩
      rw [hy0] at q0' hW2 k0 WB
      rw [hy1] at q1' hW2 k1 WB
      rw [e3] at q2' hW2 k2 WB NX
      clear hy0 hy1
      go_upto_region 4 with fail
      rw [← hW2]
      clear hW2 q0' q1' q2'
      go_wp2_with fail
      refine WB.out.mono ?_
      rintro e w3 ⟨o', c', rfl, ho', hc1, hc2, hO3, hb3⟩
      obtain ⟨Z1, Z2⟩ := NX.out o' c' w3 ho' hc1 hc2 hO3 hb3
      clear hO3 hb3 WB NX k0 k1 k2 ho' hc1 hc2 S
      go_wp2
      go_roundg (l.length - (i + 1))
      case measure => omega
      case rel => exact ⟨i + 1, o', _, c', by omega, rfl, rfl, by go_num, Z1, Z2⟩
    · have hil : i = l.length := by omega
      subst hil
      obtain ⟨hm1, hm2, hm3, hm4⟩ := HM.out
      have SO := S.out.1
      rw [List.take_length] at SO
      have ELL := EA.out l.length (Nat.le_refl _)
      rw [List.take_length] at ELL
      have S2 := Lib.hid S.out.2
      by_cases hz : mm = 0
      · have hCl := clear_none (P := Try.prog) wr 22 5 Try.underlying22 (some ⟨g, o, none⟩) cc
        have Z := Lib.hid (show wr.ownsRow base 5 1 (.slice (some ⟨g, 0, none⟩) N N) N ((encAll l ++ List.replicate (M - l.length * (n + 3)) 0).map bval ++ xs.drop M) by
          have hMl : M = l.length * (n + 3) := by omega
          rw [← hMl, Nat.sub_self, List.replicate_zero, List.append_nil, hMl]
          exact SO)
        clear SO HM S EL HE hm1 hm2 hm3 hm4 ELL
        subst hz
        go_wp2
        exact bodyPost_end (v := .tuple #[]) (by simp [results, Try.results46, go_sem]) rfl ⟨rfl, Z.out, S2.out⟩
      · have ho : o = l.length * (n + 3) := by rcases hm2 with h | h <;> omega
        obtain ⟨w5, hCl, O5, G5⟩ := clear_part (P := Try.prog) Try.underlying22 zero_u8 rfl rfl SO (show o + mm ≤ N by omega) (by omega) cc
        have CR := Lib.hid hCl
        have Z := Lib.hid (show w5.ownsRow base 5 1 (.slice (some ⟨g, 0, none⟩) N N) N ((encAll l ++ List.replicate (M - l.length * (n + 3)) 0).map bval ++ xs.drop M) by
          have t := two_parts (A := ([] : List Value)) (Y := (encAll l).map bval) (R := xs.drop (l.length * (n + 3))) (off := 0) (a := o) rfl (by rw [List.length_map, ELL, ho]) mm
          simp only [List.nil_append, Nat.zero_add] at t
          rw [t.1, t.2, List.drop_drop, show l.length * (n + 3) + mm = M by omega] at O5
          rw [List.map_append, List.map_replicate, bval_zero, ← hm1, List.append_assoc]
          exact O5)
        have ZB := Lib.hid (S2.out.grown G5 (by have := S2.out.size; omega) (fun q hq => by cases hq; exact hgb.1))
        clear SO HM S EL HE O5 G5 hm1 hm2 hm3 hm4 ELL ho hz CR
        go_wp2
        exact bodyPost_end (v := .tuple #[]) (by simp [results, Try.results46, go_sem]) rfl ⟨rfl, Z.out, ZB.out⟩
end Go.Proofs.Ytmndkpicbmffnaa
end
