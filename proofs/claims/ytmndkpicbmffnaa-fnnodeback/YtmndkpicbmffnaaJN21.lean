/- TnO in one. Written by tools/join2.py. -/
import Derived.Test.YtmndkpicbmffnaaJN19
import Derived.Test.YtmndkpicbmffnaaJN20
import Derived.Test.YtmndkpicbmffnaaJN9
section
namespace Go.Proofs.Ytmndkpicbmffnaa
open Go.RowKit
set_option linter.unusedVariables false
set_option linter.unusedSimpArgs false
set_option maxRecDepth 100000

theorem byte_ofZ {z : Int} (h0 : 0 ≤ z) (h1 : z ≤ 255) : bval (UInt8.ofNat z.toNat) = .int .u8 z := by
  unfold bval
  congr 1
  rw [UInt8.toNat_ofNat']
  omega
theorem bval_zero : bval 0 = .int .u8 0 := rfl
theorem bval_one : bval 1 = .int .u8 1 := rfl
set_option maxHeartbeats 8000000 in
theorem uSpecNodeOf (c : Value) (l : NodeM) (z v : Int) (w : World) (h : NodeIn [c] l w) (b1 : -9223372036854775808 ≤ z ∧ z ≤ 9223372036854775807) (b2 : -9223372036854775808 ≤ v ∧ v ≤ 9223372036854775807) : Calls Try.prog 33 #[.agg #[c], .int .i64 z, .int .i64 v] w (ByteSRet (nodeOfL l z v) w) := by
  have hb0 := below_box (Below.refl w.heap.size w) (.cells #[c] 26)
  have NO := Lib.hid (uSpecNodeOk c l z v _ (blockS_rdg.below h hb0))
  have NS := Lib.hid (fun w' => specNodeSize v w' b2)
  obtain ⟨a, cap, es, rfl, g1, g2, g3, g4, g5, g6⟩ := blockSIn_shape h
  have L := Lib.hid (fun w' (hb : Below w.heap.size w w') => (blockS_rdg.below h hb : BlockSIn [.slice a l.length cap] l w'))
  have B := Lib.hid hb0
  clear h hb0 g1 g3 g4 g5 g6 es
  cases hok : nodeOkB l z v
  · have E := Lib.hid (nodeOfL_no hok)
    rw [hok] at NO
    clear hok
    go_enter Try.func33, Try.ntmps33
    go_wp2_with fail
    refine NO.out.mono ?_
    rintro e w1 ⟨rfl, hb⟩
    replace B := Lib.hid (below_seq B.out hb)
    clear hb NO
    go_wp2
    go_ret
    exact ⟨_, rfl, by rw [E.out]; exact ⟨none, 0, rfl, ⟨rfl, .inl ⟨rfl, rfl⟩⟩, fun k hk => by simp [Value.ownBlock] at hk⟩, B.out⟩
  rw [hok] at NO
  obtain ⟨hl4, hbs⟩ := nodeOkB_ok hok
  obtain ⟨g, n', rfl, rfl, hg6, hv1, hv2⟩ := frameB_ok (blocksOkB_all hbs).1
  have EB := Lib.hid (fun m hm => blockOkB_ok (blocksOkB_each hbs m hm))
  have E := Lib.hid (show nodeOfL l g n' = encAll l ++ List.replicate (4 * (n' + 3) - (encAll l).length) 0 by unfold nodeOfL; rw [if_pos hok, Int.toNat_natCast])
  have LE := (nodeOfL_length hok).2
  rw [Int.toNat_natCast] at LE
  have LT := Lib.hid (fun k => show (encAll (l.take k)).length = (l.take k).length * (n' + 3) from encAll_length (fun m hm => by have := (EB.out m (List.mem_of_mem_take hm)).2.2.2; omega))
  have NE := Lib.hid (show nodeSizeZ (n' : Int) = ((4 * (n' + 3) : Nat) : Int) by unfold nodeSizeZ; rw [if_pos (by omega)]; omega)
  rw [NE.out] at NS
  obtain ⟨n, hn⟩ : ∃ n, l.length = n := ⟨_, rfl⟩
  have HN := Lib.hid hn
  rw [hn] at L NO B hl4 ⊢
  clear hok hbs NE b1 b2 g2 hn
  obtain ⟨W0, hW0⟩ : ∃ W0, W0 = w.alloc (.cells #[.slice a n cap] 26) := ⟨_, rfl⟩
  have K0 := Lib.hid (show W0.heap[w.heap.size]? = some (.cells #[.slice a n cap] 26 (0, 0)) by rw [hW0]; exact alloc_at _ _ _ rfl)
  rw [← hW0] at NO B
  have qa := cur_cell K0.out 0
  simp at qa
  go_enter Try.func33, Try.ntmps33
  go_wp2_with fail
  rw [← hW0]
  clear hW0
  refine NO.out.mono ?_
  rintro e w1 ⟨rfl, hb⟩
  have K1 := kept_block K0.out hb
  have q0 := cur_cell K1 0
  simp at q0
  have B1 := Lib.hid (below_seq B.out hb)
  have hs1 := B1.out.size
  have S0 := Lib.hid (show (w1.alloc (.cells #[] 5)).ownsRow w1.heap.size 5 1 (.slice (some ⟨w1.heap.size, 0, none⟩) 0 0) 0 ((encAll (l.take 0)).map bval) ∧ Below w1.heap.size w1 (w1.alloc (.cells #[] 5)) from ⟨World.ownsRow_made w1 #[] 0 (Nat.le_refl _) (by unfold maxLen; omega) rfl, below_box (Below.refl _ w1) _⟩)
  have hbx : w.heap.size < w1.heap.size := cur_lt K1
  have Q0 := Lib.hid (fun w' (hb : Below w1.heap.size w1 w') => cell_keep q0 hb)
  clear hb NO K0 K1 B qa
  go_wp2_with fail
  go_loopg [7, 8] n (fun kk o iv wr => ∃ (i k ck : Nat) (ao : Option Addr), i ≤ n ∧ n - i = kk ∧ o = .slice ao k ck ∧ iv = .int .i64 i ∧ Hid (k = i * (n' + 3)) ∧ Hid (wr.ownsRow w1.heap.size 5 1 (.slice ao k ck) k ((encAll (l.take i)).map bval) ∧ Below w1.heap.size w1 wr))
  case atStart => exact ⟨0, 0, 0, _, Nat.zero_le _, rfl, rfl, rfl, Lib.hid (by simp), S0⟩
  case round =>
    clear S0 q0
    obtain ⟨i, k, ck, ao, hi, hik, rfl, rfl, HK, H⟩ := hrel
    have q0 := Q0.out wr H.out.2
    by_cases hlt : i < n
    · have hll : i < l.length := by rw [HN.out]; exact hlt
      obtain ⟨a', cap', es', e, u1, u2, u3, r1, r2, r3⟩ := blockSIn_shape (L.out w1 B1.out)
      rw [HN.out] at e
      simp at e
      obtain ⟨rfl, rfl⟩ := e
      obtain ⟨b1, o1, x2, x4, rfl, p0, p1, p2, hy⟩ := r1.blk r3 r2 hll
      obtain ⟨_, _, _, _, e3, _, hdm, hdr⟩ := blockIn_cells hy
      simp at e3
      obtain ⟨rfl, rfl⟩ := e3
      obtain ⟨hf, hid, hlf, hdl⟩ := EB.out l[i] (List.getElem_mem hll)
      obtain ⟨gg, lf, e4, e5, hg7, hlf2⟩ := leafB_ok hlf
      have hlf3 := pow_64 hg7
      have NX := Lib.hid (encAll_snoc hll)
      have hk3 : k + 3 + (n' + 3) ≤ 4000 := by have := HK.out; have h2 : i * (n' + 3) ≤ 4 * (n' + 3) := Nat.mul_le_mul_right _ (by omega); omega
      have hdl2 : l[i].data.length = n' := by omega
      unfold encB at NX
      obtain ⟨x1, hx1⟩ : ∃ x1, l[i].leaf = x1 := ⟨_, rfl⟩
      obtain ⟨x0, hx0⟩ : ∃ x0, l[i].id = x0 := ⟨_, rfl⟩
      obtain ⟨d, hd⟩ : ∃ d, l[i].data = d := ⟨_, rfl⟩
      rw [hx0] at p0 hid NX
      rw [hx1] at p1 e5 NX
      rw [hd] at p2 hdr hdl2 NX
      rw [hdl2] at p2
      have HDL := Lib.hid hdl2
      clear hdl2
      have hx10 : 0 ≤ x1 ∧ x1 ≤ 255 := by omega
      have h0w : IntKind.u8.wrap x0 = x0 := by rw [IntKind.wrap_u8']; omega
      have h1w : IntKind.u8.wrap x1 = x1 := by rw [IntKind.wrap_u8']; omega
      have DR := Lib.hid hdr
      have OW := Lib.hid (show wr.drew.ownsRow w1.heap.size 5 1 (.slice ao k ck) k ((encAll (l.take i)).map bval) from own_below H.out.1 (below_drew (Below.refl _ wr)))
      have hsz := H.out.2.size
      have KS := Lib.hid (fun w' (hb : Below w1.heap.size w1 w') => (show w'.cell? ⟨w.heap.size, 0, none⟩ = some (.slice (some ⟨b1, o1, none⟩) n cap) ∧ w'.cell? ⟨b1, o1 + i * 3, none⟩ = some (.int .i64 x0) ∧ w'.cell? ⟨b1, o1 + i * 3 + 1, none⟩ = some (.int .i64 x1) from ⟨Q0.out w' hb, cell_keep p0 hb, cell_keep p1 hb⟩))
      have P2 := Lib.hid (fun w' (hb : Below w1.heap.size w1 w') => cell_keep p2 hb)
      have HD := Lib.hid (below_drew H.out.2)
      have hi0 : (0 : Int) ≤ (i : Int) := by omega
      have hi1 : (i : Int) < (n : Int) := by omega
      clear p0 p1 p2 hy r1 r2 r3 u1 u2 u3 hdm hdl hx0 hx1 hd hf hlf e4 e5 hlf2 hlf3 hg7 hdr
      go_upto_region 7 with fail
      refine wp_region_held_drew (S := (fun w' => w'.cell? ⟨w.heap.size, 0, none⟩ = some (.slice (some ⟨b1, o1, none⟩) n cap) ∧ w'.cell? ⟨b1, o1 + i * 3, none⟩ = some (.int .i64 x0) ∧ w'.cell? ⟨b1, o1 + i * 3 + 1, none⟩ = some (.int .i64 x1))) (by kernel_rfl) (KS.out _ HD.out) (fun hHeld => ?_)
      refine wpAnyH_take (i := 0) (oi := ?on_0) (v := ?vn_0) ?hin_0 (by kernel_rfl) (by kernel_rfl) (by kernel_rfl) ?hqn_0 ?hyn_0 (by assumption) ?rn_0
      case hin_0 => (simp only [List.getElem?_toArray, List.getElem?_cons_succ, List.getElem?_cons_zero]; rfl)
      case hqn_0 => exact fun _ _ _ h => h
      case hyn_0 =>
        refine Or.inl ⟨by rfl, ?_⟩; intro wq hSw; (try dsimp only at hSw); go_simp; (try with_reducible rfl); done
      try simp only [Act.put, List.setIfInBounds_toArray, List.set_cons_zero, List.set_cons_succ]
      refine wpAnyH_take (i := 1) (oi := ?on_1) (v := ?vn_1) ?hin_1 (by kernel_rfl) (by kernel_rfl) (by kernel_rfl) ?hqn_1 ?hyn_1 (by assumption) ?rn_1
      case hin_1 => (simp only [List.getElem?_toArray, List.getElem?_cons_succ, List.getElem?_cons_zero]; rfl)
      case hqn_1 => exact fun _ _ _ h => h
      case hyn_1 =>
        refine Or.inl ⟨by rfl, ?_⟩; intro wq hSw; (try dsimp only at hSw); go_simp; (try with_reducible rfl); done
      try simp only [Act.put, List.setIfInBounds_toArray, List.set_cons_zero, List.set_cons_succ]
      refine wpAnyH_take (i := 2) (oi := ?on_2) (v := ?vn_2) ?hin_2 (by kernel_rfl) (by kernel_rfl) (by kernel_rfl) ?hqn_2 ?hyn_2 (by assumption) ?rn_2
      case hin_2 => (simp only [List.getElem?_toArray, List.getElem?_cons_succ, List.getElem?_cons_zero]; rfl)
      case hqn_2 => exact fun _ _ _ h => h
      case hyn_2 =>
        refine Or.inl ⟨by rfl, ?_⟩; intro wq hSw; (try dsimp only at hSw); go_simp; (try with_reducible rfl); done
      try simp only [Act.put, List.setIfInBounds_toArray, List.set_cons_zero, List.set_cons_succ]
      refine wpAnyH_take (i := 3) (oi := ?on_3) (v := ?vn_3) ?hin_3 (by kernel_rfl) (by kernel_rfl) (by kernel_rfl) ?hqn_3 ?hyn_3 (by assumption) ?rn_3
      case hin_3 => (simp only [List.getElem?_toArray, List.getElem?_cons_succ, List.getElem?_cons_zero]; rfl)
      case hqn_3 => exact fun _ _ _ h => h
      case hyn_3 =>
        refine Or.inl ⟨by rfl, ?_⟩; intro wq hSw; (try dsimp only at hSw); go_simp; (try with_reducible rfl); done
      try simp only [Act.put, List.setIfInBounds_toArray, List.set_cons_zero, List.set_cons_succ]
      refine wpAnyH_take (i := 4) (oi := ?on_4) (v := ?vn_4) ?hin_4 (by kernel_rfl) (by kernel_rfl) (by kernel_rfl) ?hqn_4 ?hyn_4 (by assumption) ?rn_4
      case hin_4 => (simp only [List.getElem?_toArray, List.getElem?_cons_succ, List.getElem?_cons_zero]; rfl)
      case hqn_4 => exact fun _ _ _ h => h
      case hyn_4 =>
        refine Or.inl ⟨by rfl, ?_⟩; intro wq hSw; (try dsimp only at hSw); go_simp; (try with_reducible rfl); done
      try simp only [Act.put, List.setIfInBounds_toArray, List.set_cons_zero, List.set_cons_succ]
      refine wpAnyH_take (i := 5) (oi := ?on_5) (v := ?vn_5) ?hin_5 (by kernel_rfl) (by kernel_rfl) (by kernel_rfl) ?hqn_5 ?hyn_5 (by assumption) ?rn_5
      case hin_5 => (simp only [List.getElem?_toArray, List.getElem?_cons_succ, List.getElem?_cons_zero]; rfl)
      case hqn_5 => exact fun _ _ _ h => h
      case hyn_5 =>
        refine Or.inl ⟨by rfl, ?_⟩; intro wq hSw; (try dsimp only at hSw); go_simp; (try with_reducible rfl); done
      try simp only [Act.put, List.setIfInBounds_toArray, List.set_cons_zero, List.set_cons_succ]
      refine wpAnyH_take (i := 6) (oi := ?on_6) (v := ?vn_6) ?hin_6 (by kernel_rfl) (by kernel_rfl) (by kernel_rfl) ?hqn_6 ?hyn_6 (by assumption) ?rn_6
      case hin_6 => (simp only [List.getElem?_toArray, List.getElem?_cons_succ, List.getElem?_cons_zero]; rfl)
      case hqn_6 => exact fun _ _ _ h => h
      case hyn_6 =>
        refine Or.inl ⟨by rfl, ?_⟩; intro wq hSw; (try dsimp only at hSw); go_simp; (try with_reducible rfl); done
      try simp only [Act.put, List.setIfInBounds_toArray, List.set_cons_zero, List.set_cons_succ]
      refine wpAnyH_take (i := 7) (oi := ?on_7) (v := ?vn_7) ?hin_7 (by kernel_rfl) (by kernel_rfl) (by kernel_rfl) ?hqn_7 ?hyn_7 (by assumption) ?rn_7
      case hin_7 => (simp only [List.getElem?_toArray, List.getElem?_cons_succ, List.getElem?_cons_zero]; rfl)
      case hqn_7 => exact fun _ _ _ h => h
      case hyn_7 =>
        refine Or.inl ⟨by rfl, ?_⟩; intro wq hSw; (try dsimp only at hSw); go_simp; (try with_reducible rfl); done
      try simp only [Act.put, List.setIfInBounds_toArray, List.set_cons_zero, List.set_cons_succ]
      refine wpAnyH_take (i := 8) (oi := ?on_8) (v := ?vn_8) ?hin_8 (by kernel_rfl) (by kernel_rfl) (by kernel_rfl) ?hqn_8 ?hyn_8 (by assumption) ?rn_8
      case hin_8 => (simp only [List.getElem?_toArray, List.getElem?_cons_succ, List.getElem?_cons_zero]; rfl)
      case hqn_8 => exact fun _ _ _ h => h
      case hyn_8 =>
        refine Or.inl ⟨by rfl, ?_⟩; intro wq hSw; (try dsimp only at hSw); go_simp; (try with_reducible rfl); done
      try simp only [Act.put, List.setIfInBounds_toArray, List.set_cons_zero, List.set_cons_succ]
      refine wpAnyH_take (i := 9) (oi := ?on_9) (v := ?vn_9) ?hin_9 (by kernel_rfl) (by kernel_rfl) (by kernel_rfl) ?hqn_9 ?hyn_9 (by assumption) ?rn_9
      case hin_9 => (simp only [List.getElem?_toArray, List.getElem?_cons_succ, List.getElem?_cons_zero]; rfl)
      case hqn_9 => exact fun _ _ _ h => h
      case hyn_9 =>
        refine Or.inl ⟨by rfl, ?_⟩; intro wq hSw; (try dsimp only at hSw); go_simp; (try with_reducible rfl); done
      try simp only [Act.put, List.setIfInBounds_toArray, List.set_cons_zero, List.set_cons_succ]
      refine wpAnyH_take (i := 10) (oi := ?on_10) (v := ?vn_10) ?hin_10 (by kernel_rfl) (by kernel_rfl) (by kernel_rfl) ?hqn_10 ?hyn_10 (by assumption) ?rn_10
      case hin_10 => (simp only [List.getElem?_toArray, List.getElem?_cons_succ, List.getElem?_cons_zero]; rfl)
      case hqn_10 => exact fun _ _ _ h => h
      case hyn_10 =>
        refine Or.inl ⟨by rfl, ?_⟩; intro wq hSw; (try dsimp only at hSw); go_simp; (try with_reducible rfl); done
      try simp only [Act.put, List.setIfInBounds_toArray, List.set_cons_zero, List.set_cons_succ]
      refine wpAnyH_take (i := 11) (oi := ?on_11) (v := ?vn_11) ?hin_11 (by kernel_rfl) (by kernel_rfl) (by kernel_rfl) ?hqn_11 ?hyn_11 (by assumption) ?rn_11
      case hin_11 => (simp only [List.getElem?_toArray, List.getElem?_cons_succ, List.getElem?_cons_zero]; rfl)
      case hqn_11 => exact fun _ _ _ h => h
      case hyn_11 =>
        refine Or.inl ⟨by rfl, ?_⟩; intro wq hSw; (try dsimp only at hSw); go_simp; (try with_reducible rfl); done
      try simp only [Act.put, List.setIfInBounds_toArray, List.set_cons_zero, List.set_cons_succ]
      refine wpAnyH_take (i := 12) (oi := ?on_12) (v := ?vn_12) ?hin_12 (by kernel_rfl) (by kernel_rfl) (by kernel_rfl) ?hqn_12 ?hyn_12 (by assumption) ?rn_12
      case hin_12 => (simp only [List.getElem?_toArray, List.getElem?_cons_succ, List.getElem?_cons_zero]; rfl)
      case hqn_12 => exact fun _ _ _ h => h
      case hyn_12 =>
        refine Or.inl ⟨by rfl, ?_⟩; intro wq hSw; (try dsimp only at hSw); go_simp; (try with_reducible rfl); done
      try simp only [Act.put, List.setIfInBounds_toArray, List.set_cons_zero, List.set_cons_succ]
      refine wpAnyH_take (i := 13) (oi := ?on_13) (v := ?vn_13) ?hin_13 (by kernel_rfl) (by kernel_rfl) (by kernel_rfl) ?hqn_13 ?hyn_13 (by assumption) ?rn_13
      case hin_13 => (simp only [List.getElem?_toArray, List.getElem?_cons_succ, List.getElem?_cons_zero]; rfl)
      case hqn_13 => exact fun _ _ _ h => h
      case hyn_13 =>
        refine Or.inl ⟨by rfl, ?_⟩; intro wq hSw; (try dsimp only at hSw); go_simp; (try with_reducible rfl); done
      try simp only [Act.put, List.setIfInBounds_toArray, List.set_cons_zero, List.set_cons_succ]
      refine wpAnyH_take (i := 14) (oi := ?on_14) (v := ?vn_14) ?hin_14 (by kernel_rfl) (by kernel_rfl) (by kernel_rfl) ?hqn_14 ?hyn_14 (by assumption) ?rn_14
      case hin_14 => (simp only [List.getElem?_toArray, List.getElem?_cons_succ, List.getElem?_cons_zero]; rfl)
      case hqn_14 => exact fun _ _ _ h => h
      case hyn_14 =>
        refine Or.inl ⟨by rfl, ?_⟩; intro wq hSw; (try dsimp only at hSw); go_simp; (try with_reducible rfl); done
      try simp only [Act.put, List.setIfInBounds_toArray, List.set_cons_zero, List.set_cons_succ]
      refine wpAnyH_ready (rs := [15]) (by kernel_rfl) (by simp) ?_
      refine AllReadyH.cons (by simp only [List.getElem?_toArray, List.getElem?_cons_succ, List.getElem?_cons_zero]; rfl) (fun K hK => ?_) AllReadyH.nil
      go_simp
      refine hK.out _ _ (KS.out _ (below_box HD.out _)) (fun hHeld15 => ?_)
      clear hK K hHeld
      try simp only [Act.put, List.setIfInBounds_toArray, List.set_cons_zero, List.set_cons_succ]
      refine wpAnyH_ready (rs := [16]) (by kernel_rfl) (by simp) ?_
      refine AllReadyH.cons (by simp only [List.getElem?_toArray, List.getElem?_cons_succ, List.getElem?_cons_zero]; rfl) (fun K hK => ?_) AllReadyH.nil
      refine step_app_row (by rfl) _ _ 22 rfl 5 (.int .u8 0) 1 Try.underlying22 Try.info5 rfl w1.heap.size k (.slice ao k ck) ((encAll (l.take i)).map bval) (by rfl) (OW.out.alloc _) (some ⟨wr.heap.size, 0, none⟩) 3 3 [.int .u8 1, .int .u8 x0, .int .u8 x1] (by rfl) rfl (lit_rowB wr.drew [.int .u8 1, .int .u8 x0, .int .u8 x1] 5) (by intro u hu; simp at hu; rcases hu with rfl | rfl | rfl <;> rfl) (by unfold maxLen; omega) (by omega) (by simp; omega) ?_
      intro v3 w3 ho3 hg3
      have GB := Lib.hid ((below_box HD.out (.cells #[.int .u8 1, .int .u8 x0, .int .u8 x1] 5)).grown hg3 (by have := HD.out.size; simp at this ⊢; omega) (fun g hg => (OW.out.lt g hg).1))
      refine hK.out _ _ (KS.out w3 GB.out) (fun hHeld16 => ?_)
      clear hK K hHeld15
      try simp only [Act.put, List.setIfInBounds_toArray, List.set_cons_zero, List.set_cons_succ]
      refine wpAnyH_take (i := 17) (oi := ?on_17) (v := ?vn_17) ?hin_17 (by kernel_rfl) (by kernel_rfl) (by kernel_rfl) ?hqn_17 ?hyn_17 (by assumption) ?rn_17
      case hin_17 => (simp only [List.getElem?_toArray, List.getElem?_cons_succ, List.getElem?_cons_zero]; rfl)
      case hqn_17 => exact fun _ _ _ h => h
      case hyn_17 =>
        refine Or.inl ⟨by rfl, ?_⟩; intro wq hSw; (try dsimp only at hSw); go_simp; (try with_reducible rfl); done
      try simp only [Act.put, List.setIfInBounds_toArray, List.set_cons_zero, List.set_cons_succ]
      refine wpAnyH_done (by kernel_rfl) ?_ _
      have O3 := Lib.hid ho3
      have B3 := Lib.hid GB.out
      clear ho3 hg3 GB KS HD OW H
      obtain ⟨a3, c3, rfl⟩ := own_shape O3.out
      have p2 := P2.out w3 B3.out
      have q0 := Q0.out w3 B3.out
      go_wp2_with (at_builtin; go_must (refine wp_app_row rfl _ _ 22 rfl 5 (.int .u8 0) 1 Try.underlying22 Try.info5 rfl w1.heap.size (k + 3) (.slice a3 (k + 3) c3) _ (by rfl) O3.out x2 n' x4 (d.map bval) (by rfl) (by rw [List.length_map]; exact HDL.out) (DR.out.below B3.out) (fun u hu => by obtain ⟨b, _, rfl⟩ := List.mem_map.1 hu; rfl) (by unfold maxLen; omega) (by omega) (by have := B3.out.size; omega) ?_); intro v4 w4 ho4 hg4)
      obtain ⟨a4, c4, rfl⟩ := own_shape ho4
      have Z := Lib.hid (show w4.ownsRow w1.heap.size 5 1 (.slice a4 (k + 3 + n') c4) (k + 3 + n') ((encAll (l.take (i + 1))).map bval) ∧ Below w1.heap.size w1 w4 from ⟨by
        rw [NX.out, List.map_append, List.map_cons, List.map_cons, List.map_cons, bval_one, byte_ofZ hid.1 hid.2, byte_ofZ hx10.1 hx10.2]
        have := ho4
        rw [List.append_assoc] at this
        exact this, B3.out.grown hg4 B3.out.size (fun g hg => (O3.out.lt g hg).1)⟩)
      have HK2 := Lib.hid (show k + 3 + n' = (i + 1) * (n' + 3) by rw [Nat.add_mul, ← HK.out]; omega)
      clear ho4 hg4 O3 B3 p2 DR NX P2
      go_wp2
      go_roundg (n - (i + 1))
      case measure => omega
      case rel => exact ⟨i + 1, k + 3 + n', c4, a4, by omega, rfl, rfl, by go_num, HK2, Z⟩
    · have hin : i = n := by omega
      subst hin
      have LT2 := LT.out i
      have hti : l.take i = l := by rw [← HN.out]; exact List.take_length
      rw [hti] at LT2 H
      have hk4 : k = (encAll l).length := by rw [HK.out, LT2, HN.out]
      have hkle0 : k ≤ 4 * (n' + 3) := by omega
      have EE0 := Lib.hid (show nodeOfL l g n' = encAll l ++ List.replicate (4 * (n' + 3) - k) 0 by rw [E.out, hk4])
      have hS812 : 4 * (n' + 3) ≤ 812 := by omega
      obtain ⟨S, hS⟩ : ∃ S, 4 * (n' + 3) = S := ⟨_, rfl⟩
      rw [hS] at hkle0 EE0 hS812 NS
      clear hS
      have hkle : k ≤ S := hkle0
      have EE := EE0
      have hs3 := H.out.2.size
      have OO := Lib.hid H.out.1
      have BB := Lib.hid (below_seq B1.out H.out.2)
      clear H LT2 hti hk4 HK E LT EE0 hkle0
      obtain ⟨i0, hi9, hz0, hz1, hz2⟩ := info_parts Try.info5
      obtain ⟨v5, w5, hr5, ho5, hg5⟩ := app_zeros (P := Try.prog) wr 22 3 22 5 i0 (.int .u8 0) .i64 1 Try.underlying22 Try.underlying3 hi9 hz0 hz1 hz2 rfl rfl OO.out (S - k) (by unfold maxLen; omega) (by omega) hs3
      have R5 := Lib.hid hr5
      have hsub : (S : Int) - (k : Int) = ((S - k : Nat) : Int) := by omega
      have R6 := Lib.hid (show (Builtin.append_ #[22, 3] 22 #[.slice ao k ck, .int .i64 ((S : Int) - (k : Int))]).run Try.prog wr = .ok v5 w5 by rw [hsub]; exact R5.out)
      clear hsub
      have Z := Lib.hid (show ByteSOwn w.heap.size w5.heap.size [v5] (nodeOfL l g n') w5 ∧ Below w.heap.size w w5 from by
        obtain ⟨a5, c5, rfl⟩ := own_shape ho5
        refine ⟨?_, BB.out.grown hg5 BB.out.size (fun g hg => Nat.le_trans hs1 (OO.out.lt g hg).1)⟩
        rw [EE.out]
        refine ByteSOwn.mk (own_base ?_ hs1)
        rw [List.map_append, List.map_replicate, bval_zero]
        exact ho5)
      clear hr5 ho5 hg5 OO BB EE hi9 hz0 hz1 hz2
      go_wp2_with fail
      refine (NS.out _).mono ?_
      rintro e w6 ⟨rfl, rfl⟩
      go_wp2_with (at_builtin; go_must (refine Lib.wpList_append_run _ rfl _ _ _ _ rfl (.slice ao k ck) (.int .i64 ((S : Int) - (k : Int))) (by rfl) (by rfl) _ _ R6.out ?_))
      go_wp2
      go_ret
      exact ⟨_, rfl, Z.out.1, Z.out.2⟩
end Go.Proofs.Ytmndkpicbmffnaa
end
