/- TnN, NrP in one. Written by tools/join2.py. -/
import Derived.Test.YtmndkpicbmffnaaJN46
import Derived.Test.YtmndkpicbmffnaaJN24
section
namespace Go.Proofs.Ytmndkpicbmffnaa
open Go.RowKit
set_option linter.unusedVariables false
set_option linter.unusedSimpArgs false
set_option maxRecDepth 100000

theorem ones_u8 (l : List UInt8) : ∀ v ∈ l.map bval, v.oneCell' = true := by
  intro v hv
  obtain ⟨z, _, rfl⟩ := List.mem_map.1 hv
  rfl
set_option maxHeartbeats 800000 in
theorem bytesClone (ad : Addr) (n cap : Nat) (l : List UInt8) (w : World) (hn : l.length = n) (hl : n ≤ 1000000) (r : Row w (some ad) (l.map bval)) : Calls Try.prog 65 #[.slice (some ad) n cap] w fun e w' => ∃ v, e = .returned v ∧ w'.ownsRow w.heap.size 5 1 v n (l.map bval) ∧ Below w.heap.size w w' := by
  subst hn
  have RA := Lib.hid (r.below (below_box (Below.refl _ w) (.cells #[] 5)))
  clear r
  go_enter Try.func65, Try.ntmps65
  have hq : (binOp .eql 22 (.slice (some ad) l.length cap) (.slice none 0 0)).run Try.prog w = .ok (.bool false) w := by kernel_rfl
  go_wp2_with (at_builtin; go_must (refine wp_app_row rfl _ _ 22 rfl 5 (.int .u8 0) 1 Try.underlying22 Try.info5 rfl w.heap.size 0 (.slice (some ⟨w.heap.size, 0, none⟩) 0 0) [] (by rfl) (World.ownsRow_made w #[] 0 (Nat.le_refl _) (by unfold maxLen; omega) rfl) (some ad) l.length cap (l.map bval) (by rfl) (by simp) RA.out (ones_u8 l) (by unfold maxLen; omega) (by omega) (by simp) ?_); intro v3 w3 ho3 hg3)
  rw [Nat.zero_add, List.nil_append] at ho3
  have Z := Lib.hid (And.intro ho3 ((below_box (Below.refl w.heap.size w) (.cells #[] 5)).grown hg3 (by simp) (fun g hg => by cases hg; exact Nat.le_refl _)))
  clear ho3 hg3 RA
  go_wp2
  go_ret
  exact ⟨_, rfl, Z.out.1, Z.out.2⟩
theorem own_max {w : World} {base g n cap : Nat} {e : TypeId} {xs : List Value} (h : w.ownsRow base e 1 (.slice (some ⟨g, 0, none⟩) n cap) n xs) : cap ≤ maxLen := by
  rcases h.2 with ⟨hv, _⟩ | ⟨g', cap', cur, hv, hbg, hg, h1, h2, h3, h4⟩
  · simp at hv
  simp at hv
  obtain ⟨rfl, rfl⟩ := hv
  exact h2
theorem zero_row {n k : Nat} {l : List BlkM} (he : (encAll l).length = k) (hk : k ≤ n) : (encAll l ++ List.replicate (n - k) 0).length = n := by simp; omega
set_option maxHeartbeats 2000000 in
theorem implRewritten (b off cap M n : Nat) (d : List UInt8) (c : Value) (l : List BlkM) (w0 w : World) (hd : d.length = M) (r : Row w (some ⟨b, off, none⟩) (d.map bval)) (HB0 : Below w0.heap.size w0 w)
    (h : BlockSIn [c] l w0) (he : ∀ m ∈ l, (0 ≤ m.id ∧ m.id ≤ 255) ∧ (0 ≤ m.leaf ∧ m.leaf ≤ 255) ∧ m.data.length = n) (hn1 : 1 ≤ n) (hn2 : n ≤ 200) (hl4 : l.length ≤ 4) (hl : l.length * (n + 3) ≤ M) (hM1 : 1 ≤ M) (hM : M ≤ 812) :
    Calls Try.prog 49 #[.slice (some ⟨b, off, none⟩) M cap, c] w fun e w' => ∃ v, e = .returned v ∧ w'.ownsRow w.heap.size 5 1 v M ((encAll l ++ List.replicate (M - l.length * (n + 3)) 0).map bval) ∧ Below w.heap.size w w' := by
  have BC := Lib.hid (bytesClone ⟨b, off, none⟩ M cap d w hd (by omega) r)
  have WB := Lib.hid (fun (g k : Nat) (w1 : World) (ho : w1.ownsRow w.heap.size 5 1 (.slice (some ⟨g, 0, none⟩) M k) M (d.map bval)) (hb : Below w.heap.size w w1) => show ∃ ys : List Value, ys.length = k ∧ M ≤ k ∧ Hid (Calls Try.prog 46 #[.slice (some ⟨g, 0, none⟩) M k, c] w1 fun e w' => e = .returned (.tuple #[]) ∧
      w'.ownsRow w.heap.size 5 1 (.slice (some ⟨g, 0, none⟩) k k) k ((encAll l ++ List.replicate (M - l.length * (n + 3)) 0).map bval ++ ys.drop M) ∧ Below w.heap.size w1 w') from by
    obtain ⟨ys, _, hMk, ho2⟩ := own_whole ho
    exact ⟨ys, by simpa using ho2.1, hMk, Lib.hid (implWriteBlocks g M k k w.heap.size n ys c l w0 w1 ho2 HB0.size (HB0.trans (hb.mono HB0.size)) h he hn1 hn2 hl4 hl hMk hMk (own_max ho))⟩)
  have hel : (encAll l).length = l.length * (n + 3) := encAll_length (fun m hm => (he m hm).2.2)
  have ZL := Lib.hid (zero_row hel hl)
  clear h he HB0 r hel hd
  obtain ⟨Z, hZ⟩ : ∃ Z, encAll l ++ List.replicate (M - l.length * (n + 3)) 0 = Z := ⟨_, rfl⟩
  rw [hZ] at ZL WB ⊢
  clear hZ hl hl4
  go_enter Try.func49, Try.ntmps49
  go_wp2_with fail
  refine BC.out.mono ?_
  rintro e w1 ⟨v, rfl, ho, hb⟩
  obtain ⟨a1, k, rfl⟩ := own_shape ho
  obtain ⟨g, rfl, _⟩ := own_some ho hM1
  obtain ⟨ys, hyl, hMk, W⟩ := WB.out g k w1 ho hb
  have B1 := Lib.hid hb
  clear ho hb WB BC
  go_wp2_with fail
  refine W.out.mono ?_
  rintro e w2 ⟨rfl, ho2, hb2⟩
  have O2 := Lib.hid (own_part ho2 hMk)
  have B2 := Lib.hid (B1.out.trans hb2)
  clear ho2 hb2 W
  go_wp2
  go_ret
  refine ⟨_, rfl, ?_, B2.out⟩
  have h := O2.out
  rw [List.take_left' (by rw [List.length_map, ZL.out])] at h
  exact h
theorem leaf_byte {z l : Int} (h : leafB z l = true) : 0 ≤ l ∧ l ≤ 255 := by
  obtain ⟨g, a, rfl, rfl, hg, ha⟩ := leafB_ok h
  have := pow_64 hg
  omega
set_option maxHeartbeats 4000000 in
theorem uImplNodeOf (c : Value) (l : NodeM) (z v : Int) (w : World) (h : NodeIn [c] l w) (b1 : -9223372036854775808 ≤ z ∧ z ≤ 9223372036854775807) (b2 : -9223372036854775808 ≤ v ∧ v ≤ 9223372036854775807) : Calls Try.prog 12 #[.agg #[c], .int .i64 z, .int .i64 v] w (ByteSRet (nodeOfL l z v) w) := by
  have hb0 := below_box (Below.refl w.heap.size w) (.cells #[c] 26)
  have NO := Lib.hid (uImplNodeOk c l z v _ (blockS_rdg.below h hb0))
  have NS := Lib.hid (fun w' => implNodeSize v w')
  have B := Lib.hid hb0
  clear hb0
  cases hok : nodeOkB l z v
  · have E := Lib.hid (nodeOfL_no hok)
    rw [hok] at NO
    obtain ⟨a, cap, rfl⟩ : ∃ a cap, c = .slice a l.length cap := by obtain ⟨a, cap, _, e, _⟩ := blockSIn_shape h; exact ⟨a, cap, e⟩
    clear hok h
    go_enter Try.func12, Try.ntmps12
    go_wp2_with fail
    refine NO.out.mono ?_
    rintro e w1 ⟨rfl, hb⟩
    replace B := Lib.hid (below_seq B.out hb)
    clear hb NO
    go_wp2
    go_ret
    exact ⟨_, rfl, by rw [E.out]; exact ⟨none, 0, rfl, ⟨rfl, .inl ⟨rfl, rfl⟩⟩, fun k hk => by simp [Value.ownBlock] at hk⟩, B.out⟩
  rw [hok] at NO
  obtain ⟨hl4, hbs⟩ := nodeOkB_ok hok
  obtain ⟨g, n, rfl, rfl, hg6, hv1, hv2⟩ := frameB_ok (blocksOkB_all hbs).1
  have EB := fun m hm => blockOkB_ok (blocksOkB_each hbs m hm)
  have he : ∀ m ∈ l, (0 ≤ m.id ∧ m.id ≤ 255) ∧ (0 ≤ m.leaf ∧ m.leaf ≤ 255) ∧ m.data.length = n := fun m hm => ⟨(EB m hm).2.1, leaf_byte (EB m hm).2.2.1, by have := (EB m hm).2.2.2; omega⟩
  have hel : (encAll l).length = l.length * (n + 3) := encAll_length (fun m hm => (he m hm).2.2)
  have E := Lib.hid (show nodeOfL l g n = encAll l ++ List.replicate (4 * (n + 3) - l.length * (n + 3)) 0 by unfold nodeOfL; rw [if_pos hok, Int.toNat_natCast, hel])
  have hl : l.length * (n + 3) ≤ 4 * (n + 3) := Nat.mul_le_mul_right _ hl4
  have ZL := zero_row hel hl
  have NE := Lib.hid (show nodeSizeZ (n : Int) = ((4 * (n + 3) : Nat) : Int) by unfold nodeSizeZ; rw [if_pos (by omega)]; omega)
  rw [NE.out] at NS
  have hM1 : 1 ≤ 4 * (n + 3) := by omega
  have hM2 : 4 * (n + 3) ≤ 812 := by omega
  obtain ⟨M, hM⟩ : ∃ M, 4 * (n + 3) = M := ⟨_, rfl⟩
  rw [hM] at NS hl E hM1 hM2 ZL
  clear hok hbs EB NE b1 b2 hM hel
  have WB := Lib.hid (fun (q : Nat) (w1 : World) (ho : w1.ownsRow q 5 1 (.slice (some ⟨q, 0, none⟩) M M) M (List.replicate M (.int .u8 0))) (hq : w.heap.size ≤ q) (hb : Below w.heap.size w w1) => implWriteBlocks q M M M q n _ c l w w1 ho hq hb h he (by omega) (by omega) hl4 hl (Nat.le_refl _) (Nat.le_refl _) (by unfold maxLen; omega))
  obtain ⟨Z, hZ⟩ : ∃ Z, encAll l ++ List.replicate (M - l.length * (n + 3)) 0 = Z := ⟨_, rfl⟩
  rw [hZ] at ZL WB E
  have EZ := Lib.hid E.out
  have ZZ := Lib.hid ZL
  have K0 := Lib.hid (show (w.alloc (.cells #[c] 26)).heap[w.heap.size]? = some (.cells #[c] 26 (0, 0)) from alloc_at _ _ _ rfl)
  obtain ⟨W0, hW0⟩ : ∃ W0, W0 = w.alloc (.cells #[c] 26) := ⟨_, rfl⟩
  rw [← hW0] at NO B K0
  have qa := cur_cell K0.out 0
  simp at qa
  obtain ⟨a, cap, rfl⟩ : ∃ a cap, c = .slice a l.length cap := by obtain ⟨a, cap, _, e, _⟩ := blockSIn_shape h; exact ⟨a, cap, e⟩
  clear hZ hl hl4 h he E ZL hg6 hv1 hv2
  obtain ⟨i0, hi, hz0, hz1, hz2⟩ := info_parts Try.info5
  go_enter Try.func12, Try.ntmps12
  go_wp2_with fail
  rw [← hW0]
  clear hW0
  refine NO.out.mono ?_
  rintro e w1 ⟨rfl, hb⟩
  have K1 := Lib.hid (kept_block K0.out hb)
  replace B := Lib.hid (below_seq B.out hb)
  clear hb NO K0 qa
  go_wp2_with fail
  refine (NS.out _).mono ?_
  rintro e w2 ⟨rfl, rfl⟩
  clear NS
  go_wp2_with (at_make; refine wpList_make_full _ rfl _ _ 22 rfl w1.heap.size 5 i0 (.int .u8 0) 1 Try.underlying22 hi hz0 hz1 .i64 .i64 _ _ M rfl rfl rfl rfl (by rw [hz2]; omega) (by unfold maxLen; omega) (Nat.le_refl _) ?_)
  clear hi hz0 hz1 hz2
  intro w3 hown hgr
  have hb1 := grown_below hgr
  rw [toList_madeCells_one] at hown
  have K3 := cur_cell (kept_block K1.out hb1) 0
  simp at K3
  have W := Lib.hid (WB.out w1.heap.size w3 hown B.out.size (below_seq B.out hb1))
  have B3 := Lib.hid (below_seq B.out hb1)
  have hs1 := B.out.size
  clear hown hgr hb1 WB K1 B
  go_wp2_with fail
  refine W.out.mono ?_
  rintro e w4 ⟨rfl, ho4, hb4⟩
  have O4 := Lib.hid (show w4.ownsRow w.heap.size 5 1 (.slice (some ⟨w1.heap.size, 0, none⟩) M M) M (Z.map bval) by
    rw [List.drop_of_length_le (by simp), List.append_nil] at ho4
    exact own_base ho4 hs1)
  have B4 := Lib.hid (B3.out.trans (hb4.mono hs1))
  clear ho4 hb4 W B3 K3
  go_wp2
  go_ret
  rw [EZ.out]
  exact ⟨_, rfl, ByteSOwn.mk O4.out, B4.out⟩
end Go.Proofs.Ytmndkpicbmffnaa
end

section
namespace Go.Proofs.Ytmndkpicbmffnaa
open Go.RowKit
set_option linter.unusedVariables false
set_option linter.unusedSimpArgs false
set_option maxRecDepth 100000

theorem NRow.push {w wr w3 w5 : World} {ao : Option Addr} {co : Nat} {es : List (Elt BlkM 3)} {F : Nat → Foot} (s : NRow BlockO 40 3 w.heap.size ao co es F wr) (hB : Below w.heap.size w wr) (g3 : Below wr.heap.size wr w3) {c2 : Value} {r : BlkM} (ho : BlockOwn wr.heap.size w3.heap.size [.int .i64 r.id, .int .i64 r.leaf, c2] r w3) (h2 : c2.oneCell' = true)
    {v5 : Value} (ho5 : w5.ownsRow w.heap.size 40 3 v5 (es.length + 1) (flatG eltL es ++ [.int .i64 r.id, .int .i64 r.leaf, c2])) (hg5 : (w3.alloc (.cells #[.int .i64 r.id, .int .i64 r.leaf, c2] 40)).grownBy w5 (Value.slice ao es.length co).ownBlock) :
    ∃ a5 c5, v5 = .slice a5 (es.length + 1) c5 ∧ ∃ (es' : List (Elt BlkM 3)) (F' : Nat → Foot), es'.length = es.length + 1 ∧ es'.map Elt.m = es.map Elt.m ++ [r] ∧ NRow BlockO 40 3 w.heap.size a5 c5 es' F' w5 ∧ Below w.heap.size w w5 := by
  have bx := below_box (Below.refl w3.heap.size w3) (.cells #[.int .i64 r.id, .int .i64 r.leaf, c2] 40)
  have r5 := s.below block_ong (below_seq g3 bx)
  obtain ⟨f, f1, f2⟩ := ho
  have fat := block_ong.at_ f1
  have f3 := block_ong.sup (w' := w3.alloc (.cells #[.int .i64 r.id, .int .i64 r.leaf, c2] 40)) f1 (fun x hx => alloc_old _ _ _ (f2 x hx))
  have hsz : w.heap.size ≤ wr.heap.size := hB.size
  obtain ⟨el, hecs, hem⟩ : ∃ e : Elt BlkM 3, e.cs = [.int .i64 r.id, .int .i64 r.leaf, c2] ∧ e.m = r := ⟨⟨[.int .i64 r.id, .int .i64 r.leaf, c2], r, rfl, by intro u hu; simp at hu; rcases hu with rfl | rfl | rfl; rfl; rfl; exact h2⟩, rfl, rfl⟩
  have gat := fun i x hi hx => (block_ong.at_ (s.own i hi) x hx).2
  have ob := fun x hx => s.row.lt x hx
  obtain ⟨a5, c5, hv, nr⟩ := r5.snoc f el (by rw [hecs, hem]; exact block_ong.low f3 hsz)
    (fun i x hi hx hF => by have h1 := gat i x hi hx; have h2 := (fat x hF).1; omega) (fun x hF hx => by have h1 := (ob x hx).2; have h2 := (fat x hF).1; omega) (v5 := v5) (by rw [hecs]; exact ho5) hg5
  have hl5 : (es ++ [el]).length = es.length + 1 := by simp
  rw [hl5] at hv
  exact ⟨a5, c5, hv, _, _, hl5, by rw [List.map_append]; simp [hem], nr, (below_seq hB (below_seq g3 bx)).grown hg5 (by have := hB.size; have := g3.size; simp; omega) (fun x hx => (ob x hx).1)⟩
end Go.Proofs.Ytmndkpicbmffnaa
end
