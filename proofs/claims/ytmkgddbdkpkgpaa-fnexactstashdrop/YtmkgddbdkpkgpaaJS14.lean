/- StK in one. Written by tools/join2.py. -/
import Derived.Test.YtmkgddbdkpkgpaaJS13
import Derived.Test.YtmkgddbdkpkgpaaJS12
import Derived.Deep.RegionLaw
import Derived.Deep.LoopGhost
import Derived.IntWalk
import Derived.Deep.RegionHeld3
import Derived.Deep.DeepCutAuto
import Derived.Deep.DeepMust
section
namespace Go.Proofs.Ytmkgddbdkpkgpaa
open Go.RowKit
set_option linter.unusedVariables false
set_option linter.unusedSimpArgs false
set_option maxRecDepth 100000

set_option maxHeartbeats 2000000 in
theorem uSpecCopyS (c : Value) (l : List BlkM) (w : World) (hs : szBlockS l ≤ 2097152) (h : BlockSIn [c] l w) : Calls Try.prog 52 #[c] w (BlockSRetS l w) := by
  have LW := Lib.hid (fun w' (hb : Below w.heap.size w w') => (blockS_rdg.below h hb : BlockSIn [c] l w'))
  obtain ⟨aa, capa, _, rfl, _, hmax, _⟩ := blockSIn_shape h
  have EL : Hid (∀ w', Below w.heap.size w w' → ∀ k (hk : k < l.length), ∃ b off x cap, aa = some ⟨b, off, none⟩ ∧ w'.cell? ⟨b, off + k * 3, none⟩ = some (.int .i64 l[k].id) ∧ w'.cell? ⟨b, off + k * 3 + 1, none⟩ = some (.int .i64 l[k].leaf) ∧ w'.cell? ⟨b, off + k * 3 + 2, none⟩ = some (.slice x l[k].data.length cap) ∧ BlockIn [.int .i64 l[k].id, .int .i64 l[k].leaf, .slice x l[k].data.length cap] l[k] w') := Lib.hid (fun w' hb k hk => by
    obtain ⟨a, cap, es, hc, g1, g2, g3, r1, r2, r3⟩ := blockSIn_shape (LW.out w' hb)
    simp at hc
    obtain ⟨rfl, rfl⟩ := hc
    exact Row.blk r1 r3 r2 hk)
  have SZ := Lib.hid (show ∀ k (hk : k < l.length), l[k].data.length ≤ 2097152 from fun k hk => by
    have h1 := sumD_snoc l k hk
    have h2 := sumD_part l (k + 1)
    unfold szBlockS at hs
    omega)
  have hn : l.length ≤ 2097152 := by unfold szBlockS at hs; omega
  have O0 : (w.alloc (.cells #[] 26)).ownsRow w.heap.size 26 3 (.slice (some ⟨w.heap.size, 0, none⟩) 0 0) 0 [] := World.ownsRow_made w #[] 0 (Nat.le_refl _) (by unfold maxLen; omega) rfl
  have S0 := Lib.hid (show ∃ (es : List (Elt BlkM 3)) (F : Nat → Foot), es.length = 0 ∧ es.map Elt.m = l.take 0 ∧ NRow BlockO 26 3 w.heap.size (some ⟨w.heap.size, 0, none⟩) 0 es F (w.alloc (.cells #[] 26)) ∧ Below w.heap.size w (w.alloc (.cells #[] 26)) from ⟨[], fun _ _ => False, rfl, by simp, ⟨O0, fun i hi => by simp at hi, fun i j x hi => by simp at hi, fun i x hi => by simp at hi⟩, below_box (Below.refl _ w) _⟩)
  clear h hs O0 LW
  unfold maxLen at hmax
  go_enter Try.func52, Try.ntmps52
  go_wp2_with fail
  go_loopg [3, 4] l.length (fun kk ov iv wr => ∃ (k ga co : Nat), k ≤ l.length ∧ l.length - k = kk ∧ ov = .slice (some ⟨ga, 0, none⟩) k co ∧ iv = .int .i64 k ∧ Hid (∃ (es : List (Elt BlkM 3)) (F : Nat → Foot), es.length = k ∧ es.map Elt.m = l.take k ∧ NRow BlockO 26 3 w.heap.size (some ⟨ga, 0, none⟩) co es F wr ∧ Below w.heap.size w wr))
  case atStart => exact ⟨0, _, _, Nat.zero_le _, rfl, rfl, rfl, S0⟩
  case round =>
    clear S0
    obtain ⟨k, ga, co, hk, hkk, rfl, rfl, S⟩ := hrel
    by_cases hlt : k < l.length
    · have hltI : (k : Int) < (l.length : Int) := by omega
      have SZk := SZ.out k hlt
      have TK : Hid (l.take (k + 1) = l.take k ++ [l[k]]) := Lib.hid (List.take_succ_eq_append_getElem hlt)
      obtain ⟨es, F, e1, e2, e3, e4⟩ := S.out
      obtain ⟨b, off, x, z, hab, q0, q1, q2, qi⟩ := EL.out w (Below.refl _ _) k hlt
      subst hab
      have BI := Lib.hid (fun w' (hb : Below w.heap.size w w') => (block_rdg.below qi hb : BlockIn _ l[k] w'))
      obtain ⟨m, hm⟩ : ∃ m, l[k] = m := ⟨_, rfl⟩
      rw [hm] at BI q0 q1 q2 TK SZk
      clear qi hm
      obtain ⟨zi, zf, d⟩ := m
      simp only at BI q0 q1 q2 SZk
      obtain ⟨n, hnd⟩ : ∃ n, d.length = n := ⟨_, rfl⟩
      rw [hnd] at BI q2 SZk
      have ND := Lib.hid hnd
      have RD := Lib.hid (fun w' (hb : Below w.heap.size w w') => (show Row w' x (d.map bval) from by
        obtain ⟨a', cap', _, _, hc, _, _, hr⟩ := blockIn_cells (BI.out w' hb)
        simp at hc
        obtain ⟨rfl, _, _⟩ := hc
        exact hr))
      have LD := Lib.hid (fun w' (hb : Below w.heap.size w w') => (show w'.cell? ⟨b, off + k * 3, none⟩ = some (.int .i64 zi) ∧ w'.cell? ⟨b, off + k * 3 + 1, none⟩ = some (.int .i64 zf) ∧ w'.cell? ⟨b, off + k * 3 + 2, none⟩ = some (.slice x n z) from ⟨cell_keep q0 hb, cell_keep q1 hb, cell_keep q2 hb⟩))
      have ROW := Lib.hid (fun w' (hb : Below wr.heap.size wr w') => (e3.below block_ong hb).row)
      rw [e1] at ROW
      have PU := Lib.hid (fun w3 g3 c2 ho h2 v5 w5 ho5 hg5 => NRow.push (w3 := w3) (v5 := v5) (w5 := w5) (c2 := c2) (r := ⟨zi, zf, d⟩) e3 e4 g3 ho h2 ho5 hg5)
      rw [e1, e2] at PU
      have B4 := Lib.hid e4
      have HW := Lib.hid (show w.heap.size ≤ wr.heap.size from e4.size)
      have HD := Lib.hid (below_drew (Below.refl wr.heap.size wr))
      have GA := Lib.hid (below_box HD.out (.cells #[] 5))
      clear e1 e2 e3 e4 hnd BI S q0 q1 q2
      go_upto_region 5 with fail
      refine wp_region_held_drew (S := (fun w' => w'.cell? ⟨b, off + k * 3, none⟩ = some (.int .i64 zi) ∧ w'.cell? ⟨b, off + k * 3 + 1, none⟩ = some (.int .i64 zf) ∧ w'.cell? ⟨b, off + k * 3 + 2, none⟩ = some (.slice x n z))) (by kernel_rfl) (LD.out _ (below_seq B4.out HD.out)) (fun hHeld => ?_)
      refine wpAnyH_take (i := 0) (oi := ?on_0) (v := ?vn_0) ?hin_0 (by kernel_rfl) (by kernel_rfl) (by kernel_rfl) ?hqn_0 ?hyn_0 (by assumption) ?rn_0
      case hin_0 => (simp only [List.getElem?_toArray, List.getElem?_cons_succ, List.getElem?_cons_zero]; rfl)
      case hqn_0 => exact fun _ _ _ h => h
      case hyn_0 =>
        refine Or.inl ⟨by rfl, ?_⟩; intro wq hSw; (try dsimp only at hSw); go_simp; (try with_reducible rfl); done
      try simp only [Act.put, List.setIfInBounds_toArray, List.set_cons_zero, List.set_cons_succ]
      refine wpAnyH_take (i := 1) (oi := ?on_1) (v := ?vn_1) ?hin_1 (by kernel_rfl) (by kernel_rfl) (by kernel_rfl) ?hqn_1 ?hyn_1 (by assumption) ?rn_1
      case hin_1 => (simp only [List.getElem?_toArray, List.getElem?_cons_succ, List.getElem?_cons_zero]; rfl)
      case hqn_1 => exact fun _ _ _ h => h
      case hyn_1 =>
        refine Or.inl ⟨by rfl, ?_⟩; intro wq hSw; (try dsimp only at hSw); go_simp; (try with_reducible rfl); done
      try simp only [Act.put, List.setIfInBounds_toArray, List.set_cons_zero, List.set_cons_succ]
      refine wpAnyH_take (i := 2) (oi := ?on_2) (v := ?vn_2) ?hin_2 (by kernel_rfl) (by kernel_rfl) (by kernel_rfl) ?hqn_2 ?hyn_2 (by assumption) ?rn_2
      case hin_2 => (simp only [List.getElem?_toArray, List.getElem?_cons_succ, List.getElem?_cons_zero]; rfl)
      case hqn_2 => exact fun _ _ _ h => h
      case hyn_2 =>
        refine Or.inl ⟨by rfl, ?_⟩; intro wq hSw; (try dsimp only at hSw); go_simp; (try with_reducible rfl); done
      try simp only [Act.put, List.setIfInBounds_toArray, List.set_cons_zero, List.set_cons_succ]
      refine wpAnyH_take (i := 3) (oi := ?on_3) (v := ?vn_3) ?hin_3 (by kernel_rfl) (by kernel_rfl) (by kernel_rfl) ?hqn_3 ?hyn_3 (by assumption) ?rn_3
      case hin_3 => (simp only [List.getElem?_toArray, List.getElem?_cons_succ, List.getElem?_cons_zero]; rfl)
      case hqn_3 => exact fun _ _ _ h => h
      case hyn_3 =>
        refine Or.inl ⟨by rfl, ?_⟩; intro wq hSw; (try dsimp only at hSw); go_simp; (try with_reducible rfl); done
      try simp only [Act.put, List.setIfInBounds_toArray, List.set_cons_zero, List.set_cons_succ]
      refine wpAnyH_take (i := 4) (oi := ?on_4) (v := ?vn_4) ?hin_4 (by kernel_rfl) (by kernel_rfl) (by kernel_rfl) ?hqn_4 ?hyn_4 (by assumption) ?rn_4
      case hin_4 => (simp only [List.getElem?_toArray, List.getElem?_cons_succ, List.getElem?_cons_zero]; rfl)
      case hqn_4 => exact fun _ _ _ h => h
      case hyn_4 =>
        refine Or.inl ⟨by rfl, ?_⟩; intro wq hSw; (try dsimp only at hSw); go_simp; (try with_reducible rfl); done
      try simp only [Act.put, List.setIfInBounds_toArray, List.set_cons_zero, List.set_cons_succ]
      refine wpAnyH_take (i := 5) (oi := ?on_5) (v := ?vn_5) ?hin_5 (by kernel_rfl) (by kernel_rfl) (by kernel_rfl) ?hqn_5 ?hyn_5 (by assumption) ?rn_5
      case hin_5 => (simp only [List.getElem?_toArray, List.getElem?_cons_succ, List.getElem?_cons_zero]; rfl)
      case hqn_5 => exact fun _ _ _ h => h
      case hyn_5 =>
        refine Or.inl ⟨by rfl, ?_⟩; intro wq hSw; (try dsimp only at hSw); go_simp; (try with_reducible rfl); done
      try simp only [Act.put, List.setIfInBounds_toArray, List.set_cons_zero, List.set_cons_succ]
      refine wpAnyH_take (i := 6) (oi := ?on_6) (v := ?vn_6) ?hin_6 (by kernel_rfl) (by kernel_rfl) (by kernel_rfl) ?hqn_6 ?hyn_6 (by assumption) ?rn_6
      case hin_6 => (simp only [List.getElem?_toArray, List.getElem?_cons_succ, List.getElem?_cons_zero]; rfl)
      case hqn_6 => exact fun _ _ _ h => h
      case hyn_6 =>
        refine Or.inl ⟨by rfl, ?_⟩; intro wq hSw; (try dsimp only at hSw); go_simp; (try with_reducible rfl); done
      try simp only [Act.put, List.setIfInBounds_toArray, List.set_cons_zero, List.set_cons_succ]
      refine wpAnyH_take (i := 7) (oi := ?on_7) (v := ?vn_7) ?hin_7 (by kernel_rfl) (by kernel_rfl) (by kernel_rfl) ?hqn_7 ?hyn_7 (by assumption) ?rn_7
      case hin_7 => (simp only [List.getElem?_toArray, List.getElem?_cons_succ, List.getElem?_cons_zero]; rfl)
      case hqn_7 => exact fun _ _ _ h => h
      case hyn_7 =>
        refine Or.inl ⟨by rfl, ?_⟩; intro wq hSw; (try dsimp only at hSw); go_simp; (try with_reducible rfl); done
      try simp only [Act.put, List.setIfInBounds_toArray, List.set_cons_zero, List.set_cons_succ]
      refine wpAnyH_take (i := 8) (oi := ?on_8) (v := ?vn_8) ?hin_8 (by kernel_rfl) (by kernel_rfl) (by kernel_rfl) ?hqn_8 ?hyn_8 (by assumption) ?rn_8
      case hin_8 => (simp only [List.getElem?_toArray, List.getElem?_cons_succ, List.getElem?_cons_zero]; rfl)
      case hqn_8 => exact fun _ _ _ h => h
      case hyn_8 =>
        refine Or.inl ⟨by rfl, ?_⟩; intro wq hSw; (try dsimp only at hSw); go_simp; (try with_reducible rfl); done
      try simp only [Act.put, List.setIfInBounds_toArray, List.set_cons_zero, List.set_cons_succ]
      refine wpAnyH_take (i := 9) (oi := ?on_9) (v := ?vn_9) ?hin_9 (by kernel_rfl) (by kernel_rfl) (by kernel_rfl) ?hqn_9 ?hyn_9 (by assumption) ?rn_9
      case hin_9 => (simp only [List.getElem?_toArray, List.getElem?_cons_succ, List.getElem?_cons_zero]; rfl)
      case hqn_9 => exact fun _ _ _ h => h
      case hyn_9 =>
        refine Or.inl ⟨by rfl, ?_⟩; intro wq hSw; (try dsimp only at hSw); go_simp; (try with_reducible rfl); done
      try simp only [Act.put, List.setIfInBounds_toArray, List.set_cons_zero, List.set_cons_succ]
      refine wpAnyH_take (i := 10) (oi := ?on_10) (v := ?vn_10) ?hin_10 (by kernel_rfl) (by kernel_rfl) (by kernel_rfl) ?hqn_10 ?hyn_10 (by assumption) ?rn_10
      case hin_10 => (simp only [List.getElem?_toArray, List.getElem?_cons_succ, List.getElem?_cons_zero]; rfl)
      case hqn_10 => exact fun _ _ _ h => h
      case hyn_10 =>
        refine Or.inl ⟨by rfl, ?_⟩; intro wq hSw; (try dsimp only at hSw); go_simp; (try with_reducible rfl); done
      try simp only [Act.put, List.setIfInBounds_toArray, List.set_cons_zero, List.set_cons_succ]
      refine wpAnyH_take (i := 12) (oi := ?on_12) (v := ?vn_12) ?hin_12 (by kernel_rfl) (by kernel_rfl) (by kernel_rfl) ?hqn_12 ?hyn_12 (by assumption) ?rn_12
      case hin_12 => (simp only [List.getElem?_toArray, List.getElem?_cons_succ, List.getElem?_cons_zero]; rfl)
      case hqn_12 => exact fun _ _ _ h => h
      case hyn_12 =>
        refine Or.inl ⟨by rfl, ?_⟩; intro wq hSw; (try dsimp only at hSw); go_simp; (try with_reducible rfl); done
      try simp only [Act.put, List.setIfInBounds_toArray, List.set_cons_zero, List.set_cons_succ]
      refine wpAnyH_take (i := 13) (oi := ?on_13) (v := ?vn_13) ?hin_13 (by kernel_rfl) (by kernel_rfl) (by kernel_rfl) ?hqn_13 ?hyn_13 (by assumption) ?rn_13
      case hin_13 => (simp only [List.getElem?_toArray, List.getElem?_cons_succ, List.getElem?_cons_zero]; rfl)
      case hqn_13 => exact fun _ _ _ h => h
      case hyn_13 =>
        refine Or.inl ⟨by rfl, ?_⟩; intro wq hSw; (try dsimp only at hSw); go_simp; (try with_reducible rfl); done
      try simp only [Act.put, List.setIfInBounds_toArray, List.set_cons_zero, List.set_cons_succ]
      refine wpAnyH_take (i := 14) (oi := ?on_14) (v := ?vn_14) ?hin_14 (by kernel_rfl) (by kernel_rfl) (by kernel_rfl) ?hqn_14 ?hyn_14 (by assumption) ?rn_14
      case hin_14 => (simp only [List.getElem?_toArray, List.getElem?_cons_succ, List.getElem?_cons_zero]; rfl)
      case hqn_14 => exact fun _ _ _ h => h
      case hyn_14 =>
        refine Or.inl ⟨by rfl, ?_⟩; intro wq hSw; (try dsimp only at hSw); go_simp; (try with_reducible rfl); done
      try simp only [Act.put, List.setIfInBounds_toArray, List.set_cons_zero, List.set_cons_succ]
      refine wpAnyH_take (i := 15) (oi := ?on_15) (v := ?vn_15) ?hin_15 (by kernel_rfl) (by kernel_rfl) (by kernel_rfl) ?hqn_15 ?hyn_15 (by assumption) ?rn_15
      case hin_15 => (simp only [List.getElem?_toArray, List.getElem?_cons_succ, List.getElem?_cons_zero]; rfl)
      case hqn_15 => exact fun _ _ _ h => h
      case hyn_15 =>
        refine Or.inl ⟨by rfl, ?_⟩; intro wq hSw; (try dsimp only at hSw); go_simp; (try with_reducible rfl); done
      try simp only [Act.put, List.setIfInBounds_toArray, List.set_cons_zero, List.set_cons_succ]
      refine wpAnyH_take (i := 16) (oi := ?on_16) (v := ?vn_16) ?hin_16 (by kernel_rfl) (by kernel_rfl) (by kernel_rfl) ?hqn_16 ?hyn_16 (by assumption) ?rn_16
      case hin_16 => (simp only [List.getElem?_toArray, List.getElem?_cons_succ, List.getElem?_cons_zero]; rfl)
      case hqn_16 => exact fun _ _ _ h => h
      case hyn_16 =>
        refine Or.inl ⟨by rfl, ?_⟩; intro wq hSw; (try dsimp only at hSw); go_simp; (try with_reducible rfl); done
      try simp only [Act.put, List.setIfInBounds_toArray, List.set_cons_zero, List.set_cons_succ]
      refine wpAnyH_ready (rs := [11]) (by kernel_rfl) (by simp) ?_
      refine AllReadyH.cons (by simp only [List.getElem?_toArray, List.getElem?_cons_succ, List.getElem?_cons_zero]; rfl) (fun K hK => ?_) AllReadyH.nil
      go_simp
      refine hK.out _ _ (LD.out _ (below_seq B4.out GA.out)) (fun hH1 => ?_)
      clear hK K hHeld
      try simp only [Act.put, List.setIfInBounds_toArray, List.set_cons_zero, List.set_cons_succ]
      refine wpAnyH_ready (rs := [17]) (by kernel_rfl) (by simp) ?_
      refine AllReadyH.cons (by simp only [List.getElem?_toArray, List.getElem?_cons_succ, List.getElem?_cons_zero]; rfl) (fun K hK => ?_) AllReadyH.nil
      refine step_app_row (by rfl) _ _ 22 rfl 5 (.int .u8 0) 1 Try.underlying22 Try.info5 rfl wr.heap.size 0 (.slice (some ⟨wr.heap.size, 0, none⟩) 0 0) [] (by rfl) (World.ownsRow_made wr.drew #[] 0 (Nat.le_refl _) (by unfold maxLen; omega) rfl) x n z (d.map bval) (by rfl) (by rw [List.length_map]; exact ND.out) (RD.out _ (below_seq B4.out GA.out)) (fun u hu => by obtain ⟨b, _, rfl⟩ := List.mem_map.1 hu; rfl) (by unfold maxLen; omega) (by omega) (by simp) ?_
      intro v3 w3 ho3 hg3
      rw [Nat.zero_add, List.nil_append] at ho3
      obtain ⟨a3, c3, rfl⟩ := own_shape ho3
      have GB3 := Lib.hid (GA.out.grown hg3 (by simp) (fun g hg => (by cases hg; exact Nat.le_refl _)))
      have O3 := Lib.hid ho3
      clear ho3 hg3
      refine hK.out _ _ (LD.out _ (below_seq B4.out GB3.out)) (fun hH2 => ?_)
      clear hK K hH1
      try simp only [Act.put, List.setIfInBounds_toArray, List.set_cons_zero, List.set_cons_succ]
      refine wpAnyH_take (i := 18) (oi := ?on_18) (v := ?vn_18) ?hin_18 (by kernel_rfl) (by kernel_rfl) (by kernel_rfl) ?hqn_18 ?hyn_18 (by assumption) ?rn_18
      case hin_18 => (simp only [List.getElem?_toArray, List.getElem?_cons_succ, List.getElem?_cons_zero]; rfl)
      case hqn_18 => exact fun _ _ _ h => h
      case hyn_18 =>
        refine Or.inl ⟨by rfl, ?_⟩; intro wq hSw; (try dsimp only at hSw); go_simp; (try with_reducible rfl); done
      try simp only [Act.put, List.setIfInBounds_toArray, List.set_cons_zero, List.set_cons_succ]
      refine wpAnyH_ready (rs := [19]) (by kernel_rfl) (by simp) ?_
      refine AllReadyH.cons (by simp only [List.getElem?_toArray, List.getElem?_cons_succ, List.getElem?_cons_zero]; rfl) (fun K hK => ?_) AllReadyH.nil
      go_simp
      refine hK.out _ _ (LD.out _ (below_seq B4.out (below_box GB3.out (.cells #[.int .i64 zi, .int .i64 zf, .slice a3 n c3] 26)))) (fun hH3 => ?_)
      clear hK K hH2
      try simp only [Act.put, List.setIfInBounds_toArray, List.set_cons_zero, List.set_cons_succ]
      refine wpAnyH_ready (rs := [20]) (by kernel_rfl) (by simp) ?_
      refine AllReadyH.cons (by simp only [List.getElem?_toArray, List.getElem?_cons_succ, List.getElem?_cons_zero]; rfl) (fun K hK => ?_) AllReadyH.nil
      refine step_app_rowS (by rfl) _ _ 24 rfl 26 _ 3 40 Try.underlying24 Try.infoBlk rfl (by omega) w.heap.size k (.slice (some ⟨ga, 0, none⟩) k co) (flatG eltL es) (by rfl) (ROW.out _ (below_box GB3.out _)) (some ⟨w3.heap.size, 0, none⟩) 1 1 [.int .i64 zi, .int .i64 zf, .slice a3 n c3] (by rfl) rfl (lit_rowB w3 [.int .i64 zi, .int .i64 zf, .slice a3 n c3] 26) (by intro u hu; simp at hu; rcases hu with rfl | rfl | rfl <;> rfl) (by unfold maxLen; omega) (by omega) (by have := GB3.out.size; have := HW.out; simp; omega) ?_
      intro v5 w5 ho5 hg5
      have OB : BlockOwn wr.heap.size w3.heap.size [.int .i64 zi, .int .i64 zf, .slice a3 n c3] ⟨zi, zf, d⟩ w3 := (by obtain ⟨f, f1, f2⟩ := (ByteSOwn.mk (by rw [ND.out]; exact O3.out) : ByteSOwn wr.heap.size w3.heap.size [.slice a3 d.length c3] d w3).toO; rw [ND.out] at f1; exact ⟨f, ⟨_, rfl, f1⟩, f2⟩)
      obtain ⟨a5, c5, rfl, es', F', p1, p2, p3, p4⟩ := PU.out w3 GB3.out _ OB rfl v5 w5 ho5 hg5
      obtain ⟨g5, rfl, _⟩ := own_some (show w5.ownsRow w.heap.size 26 3 (.slice a5 (k + 1) c5) (k + 1) (flatG eltL es') from by have := p3.row; rw [p1] at this; exact this) (by omega)
      have Z := Lib.hid (show ∃ (es : List (Elt BlkM 3)) (F : Nat → Foot), es.length = k + 1 ∧ es.map Elt.m = l.take (k + 1) ∧ NRow BlockO 26 3 w.heap.size (some ⟨g5, 0, none⟩) c5 es F w5 ∧ Below w.heap.size w w5 from ⟨es', F', p1, p2.trans TK.out.symm, p3, p4⟩)
      have LD5 := Lib.hid (LD.out _ p4)
      clear ho5 hg5 OB p1 p2 p3 p4
      refine hK.out _ _ (LD5.out) (fun hH4 => ?_)
      clear hK K hH3
      try simp only [Act.put, List.setIfInBounds_toArray, List.set_cons_zero, List.set_cons_succ]
      refine wpAnyH_ready (rs := [21]) (by kernel_rfl) (by simp) ?_
      refine AllReadyH.cons (by simp only [List.getElem?_toArray, List.getElem?_cons_succ, List.getElem?_cons_zero]; rfl) (fun K hK => ?_) AllReadyH.nil
      go_simp
      refine hK.out _ _ (LD5.out) (fun hH5 => ?_)
      clear hK K hH4
      try simp only [Act.put, List.setIfInBounds_toArray, List.set_cons_zero, List.set_cons_succ]
      refine wpAnyH_done (by kernel_rfl) ?_ _
      clear LD5 GB3 GA O3 hH5
      go_wp2
      go_roundg (l.length - (k + 1))
      case measure => omega
      case rel => exact ⟨k + 1, _, _, by omega, rfl, rfl, by go_num, Z⟩
    · have hkl : k = l.length := by omega
      have hge : ¬ (k : Int) < (l.length : Int) := by omega
      subst hkl
      have SE := Lib.hid (show BlockSRetS l w (.returned (.slice (some ⟨ga, 0, none⟩) l.length co)) wr from by
        obtain ⟨es, F, e1, e2, e3, e4⟩ := S.out
        have := nrow_own e3
        rw [e2, List.take_length, e1] at this
        exact ⟨_, _, rfl, this, e4⟩)
      clear S EL SZ
      go_wp2
      go_ret
      exact SE.out
theorem uSpecCopyL (c : Value) (l : List BlkM) (w : World) (hs : szBlockS l ≤ 2097152) (h : BlockSIn [c] l w) : Calls Try.prog 52 #[c] w (BlockSRet l w) :=
  (uSpecCopyS c l w hs h).mono fun e w' h => by
    obtain ⟨g, k, rfl, h1, h2⟩ := h
    exact ⟨_, rfl, h1, h2⟩
theorem uSpecCopy (c : Value) (l : List BlkM) (w : World) (hs : szBlockS l ≤ 1048576) (h : BlockSIn [c] l w) : Calls Try.prog 52 #[c] w (BlockSRet l w) := uSpecCopyL c l w (Nat.le_trans hs (by decide)) h
end Go.Proofs.Ytmkgddbdkpkgpaa
end
