/- BlkT, BlkN, NrP, StC in one. Written by tools/join2.py. -/
import Derived.Test.YtmkgddbdkpkgpaaJS12
import Derived.Deep.LoopGhost
import Derived.Test.YtmkgddbdkpkgpaaJS11
import Derived.Deep.RegionLaw
import Derived.IntWalk
section
namespace Go.Proofs.Ytmkgddbdkpkgpaa
open Go.RowKit
set_option linter.unusedVariables false
set_option linter.unusedSimpArgs false
set_option maxRecDepth 100000

theorem setCellsL_far {g b : Nat} (h : ¬ b = g) : ∀ (vs : List Value) (w : World) (o : Nat), (setCellsL w g o vs).heap[b]? = w.heap[b]?
  | [], w, o => rfl
  | v :: vs, w, o => by rw [setCellsL, setCellsL_far h vs]; exact Below.heap_setCell _ _ _ b h
theorem Try.infoBlk : (Try.prog.info? 26).map (fun i => (i.zero, i.size, i.bytes)) = some (some (.agg #[.int .i64 0, .int .i64 0, .slice none 0 0]), 3, 40) := by kernel_rfl
set_option maxHeartbeats 1000000 in
theorem uToBlock (c0 c1 c2 : Value) (m : BlkM) (w : World) (hl : szBlock m ≤ 1048576) (h : BlockIn [c0, c1, c2] m w) : Calls Try.prog 31 #[.agg #[c0, c1, c2]] w (BlockRet m w) := by
  obtain ⟨c, hc, hb0⟩ := h
  simp at hc
  obtain ⟨rfl, rfl, rfl⟩ := hc
  obtain ⟨x0, n0, rfl, _⟩ := byteSIn_shape hb0
  obtain ⟨W0, hW0⟩ : ∃ W0, W0 = ((w.alloc (.cells #[.int .i64 m.id, .int .i64 m.leaf, .slice x0 m.data.length n0] 51)).alloc (.cells #[.int .i64 0, .int .i64 0, .slice none 0 0] 26)).alloc (.cells #[.int .i64 m.id, .int .i64 m.leaf, .slice none 0 0] 26) := ⟨_, rfl⟩
  have B0 : Below w.heap.size w W0 := by rw [hW0]; exact below_box (below_box (below_box (Below.refl _ w) _) _) _
  have hs0 : W0.heap.size = w.heap.size + 1 + 1 + 1 := by rw [hW0]; simp
  have K1 := Lib.hid (show W0.heap[w.heap.size + 1]? = some (.cells #[.int .i64 0, .int .i64 0, .slice none 0 0] 26 (0, 0)) by rw [hW0]; exact (alloc_old _ _ _ (by simp)).trans (alloc_at _ _ _ (by simp)))
  have K2 := Lib.hid (show W0.heap[w.heap.size + 1 + 1]? = some (.cells #[.int .i64 m.id, .int .i64 m.leaf, .slice none 0 0] 26 (0, 0)) by rw [hW0]; exact alloc_at _ _ _ (by simp))
  have U := Lib.hid (uToByteS _ m.data W0 hl (byteS_rdg.below hb0 B0))
  have B := Lib.hid B0
  have HS := Lib.hid hs0
  clear hb0 B0 hs0
  obtain ⟨id, leaf, data⟩ := m
  simp only at K2 U hW0 ⊢
  go_enter Try.func31, Try.ntmps31
  go_wp2_with fail
  rw [← hW0]
  clear hW0
  refine U.out.mono ?_
  rintro e w1 ⟨c, rfl, ho, hb⟩
  obtain ⟨x, k, y, rfl⟩ := ho.shape
  have L1 := kept_block K1.out hb
  have L2 := kept_block K2.out hb
  have hs : w.heap.size + 1 + 1 + 1 ≤ w1.heap.size := by have := hb.size; rw [HS.out] at this; exact this
  rw [HS.out] at ho
  have O := Lib.hid ho
  replace B := Lib.hid (below_seq B.out hb)
  clear ho hb U
  have k10 : w1.cell? ⟨w.heap.size + 1, 0, none⟩ = some (.int .i64 0) := cur_cell L1 0
  have k11 : w1.cell? ⟨w.heap.size + 1, 1, none⟩ = some (.int .i64 0) := cur_cell L1 1
  have k12 : w1.cell? ⟨w.heap.size + 1, 2, none⟩ = some (.slice none 0 0) := cur_cell L1 2
  have k20 : w1.cell? ⟨w.heap.size + 1 + 1, 0, none⟩ = some (.int .i64 id) := cur_cell L2 0
  have k21 : w1.cell? ⟨w.heap.size + 1 + 1, 1, none⟩ = some (.int .i64 leaf) := cur_cell L2 1
  have k22 : w1.cell? ⟨w.heap.size + 1 + 1, 2, none⟩ = some (.slice none 0 0) := cur_cell L2 2
  have f10 := cur_free L1 0
  have f11 := cur_free L1 1
  have f12 := cur_free L1 2
  have f20 := cur_free L2 0
  have f21 := cur_free L2 1
  have f22 := cur_free L2 2
  clear L1 L2 K1 K2
  go_wp2
  refine bodyPost_ret (v := .agg #[.int .i64 id, .int .i64 leaf, .slice x k y]) (by simp [results, Try.results31, go_sem, k10, k11, k12]) rfl ⟨_, _, _, rfl, ?_, ?_⟩
  · obtain ⟨F, h1, h2⟩ := O.out.toO
    have at1 := byteS_ong.at_ h1
    refine ⟨F, ⟨_, rfl, byteS_ong.low (byteS_ong.sup h1 (fun b hb => ?_)) (by omega)⟩, fun b hb => ?_⟩
    · have := (at1 b hb).1
      exact ((Below.heap_setCell _ _ _ b (by simp; omega)).trans (Below.heap_setCell _ _ _ b (by simp; omega))).trans ((Below.heap_setCell _ _ _ b (by simp; omega)).trans (Below.heap_setCell _ _ _ b (by simp; omega)))
    · simpa using h2 b hb
  · exact (((B.out.setCell (p := ⟨w.heap.size + 1 + 1, 2, none⟩) (by simp; omega) _).setCell (p := ⟨w.heap.size + 1, 0, none⟩) (by simp) _).setCell (p := ⟨w.heap.size + 1, 1, none⟩) (by simp) _).setCell (p := ⟨w.heap.size + 1, 2, none⟩) (by simp) _
/-- A list taken over up to k. -/
def copyB (l : List BlkM) (k : Nat) : List BlkM := l.take k ++ List.replicate (l.length - k) zeroBlk
theorem copyB_zero (l : List BlkM) : copyB l 0 = List.replicate l.length zeroBlk := by simp [copyB]
theorem copyB_set (l : List BlkM) (k : Nat) (h : k < l.length) : (copyB l k).set k l[k] = copyB l (k + 1) := by
  unfold copyB
  rw [List.set_append_right _ _ (by simp; omega), show k - (l.take k).length = 0 from by simp; omega, List.take_succ_eq_append_getElem h, show l.length - k = (l.length - (k + 1)) + 1 from by omega, List.replicate_succ, List.set_cons_zero, List.append_assoc]
  rfl
theorem copyB_done (l : List BlkM) : copyB l l.length = l := by unfold copyB; simp
/-- An element made just now is laid into a row that the call owns. -/
theorem NRow.lay {lo g cap : Nat} {es : List (Elt BlkM 3)} {G : Nat → Foot} {wr w2 : World} (h : NRow BlockO 26 3 lo (some ⟨g, 0, none⟩) cap es G wr) (hb : Below wr.heap.size wr w2) {k : Nat} (hk : k < es.length) (e : Elt BlkM 3) (ho : BlockOwn wr.heap.size w2.heap.size e.cs e.m w2) (hlo : lo ≤ wr.heap.size) :
    ∃ G', NRow BlockO 26 3 lo (some ⟨g, 0, none⟩) cap (es.set k e) G' (setCellsL w2 g (k * 3) e.cs) ∧ w2.grownBy (setCellsL w2 g (k * 3) e.cs) (some g) := by
  have h2 := h.below block_ong hb
  have hg : g < wr.heap.size := (h.row.lt g rfl).2
  obtain ⟨X, Y⟩ := own_elem_set eltL_len h2.row hk e
  obtain ⟨F, k1, k2⟩ := ho
  have at1 := block_ong.at_ k1
  refine ⟨fun i => if i = k then F else G i, h2.set block_ong hk F e X ?_ ?_ ?_ ?_, Y⟩
  · refine block_ong.low (block_ong.sup k1 (fun b hb => ?_)) hlo
    have := (at1 b hb).1
    exact setCellsL_far (by omega) _ _ _
  · intro i b hi hik hG
    refine setCellsL_far (fun e => ?_) _ _ _
    subst e
    exact h2.off i b hi hG rfl
  · intro i b hi hik hG hF
    have a1 := (block_ong.at_ (h.own i hi) b hG).2
    have a2 := (at1 b hF).1
    omega
  · intro b hF e
    simp [Value.ownBlock] at e
    have a2 := (at1 b hF).1
    omega
set_option maxHeartbeats 2000000 in
theorem uToBlockS (c : Value) (l : List BlkM) (w : World) (hs : szBlockS l ≤ 1048576) (h : BlockSIn [c] l w) : Calls Try.prog 27 #[c] w (BlockSRet l w) := by
  obtain ⟨a, cap, es0, rfl, g1, g2, g3⟩ := blockSIn_shape h
  have L := Lib.hid h.lies
  unfold szBlockS at hs
  clear h g1 g2 g3 es0
  obtain ⟨i0, hi, hz0, hz1, hz2⟩ := info_parts Try.infoBlk
  go_enter Try.func27, Try.ntmps27
  go_wp2_with (at_make; refine wpList_make_full _ rfl _ _ 24 rfl w.heap.size 26 i0 _ 3 Try.underlying24 hi hz0 hz1 .i64 .i64 _ _ l.length rfl rfl rfl rfl (by rw [hz2]; omega) (by unfold maxLen; omega) (Nat.le_refl _) ?_)
  clear hi hz0 hz1 hz2
  intro w1 hown hgr
  have hb1 : Below w.heap.size w w1 := grown_below hgr
  have hown' : w1.ownsRow w.heap.size 26 3 (.slice (some ⟨w.heap.size, 0, none⟩) l.length l.length) l.length (flatG eltL (List.replicate l.length zeroElt)) := by
    rw [← made_flat eltL_len (by decide) zeroElt _ rfl]; exact hown
  have S0 := Lib.hid (And.intro (NRow.made (O := BlockO) zeroElt (fun lo w => blockO_zero lo w) hown') hb1)
  clear hgr hown hown' hb1
  go_wp2_with fail
  go_loopg [4] l.length (fun kk iv wr => ∃ k : Nat, k ≤ l.length ∧ l.length - k = kk ∧ iv = .int .i64 k ∧ Hid (∃ (es : List (Elt BlkM 3)) (G : Nat → Foot), es.length = l.length ∧ es.map Elt.m = copyB l k ∧ NRow BlockO 26 3 w.heap.size (some ⟨w.heap.size, 0, none⟩) l.length es G wr ∧ Below w.heap.size w wr))
  case atStart => exact ⟨0, Nat.zero_le _, rfl, rfl, Lib.hid ⟨_, _, by simp, by rw [copyB_zero]; simp [zeroElt], S0.out.1, S0.out.2⟩⟩
  case round =>
    clear S0
    obtain ⟨k, hk, hkk, rfl, H⟩ := hrel
    obtain ⟨es, G, hel, hm, hn, hb⟩ := H.out
    have EL := Lib.hid hel
    have EM := Lib.hid hm
    have EN := Lib.hid hn
    have B := Lib.hid hb
    clear H hel hm hn
    by_cases hlt : k < l.length
    · obtain ⟨a', cap', es', e, _, _, _, r1, r2, r3⟩ := blockSIn_shape (L.out.below hb).now
      simp at e
      obtain ⟨rfl, rfl⟩ := e
      obtain ⟨b, off, y, yc, rfl, q0, q1, q2, hy⟩ := r1.blk r3 r2 hlt
      have hn2 : szBlock l[k] ≤ 1048576 := by have := sumD_snoc l k hlt; have := sumD_part l (k + 1); unfold szBlock; omega
      have TO := Lib.hid (uToBlock _ _ _ l[k] wr hn2 hy)
      have CS := Lib.hid (copyB_set l k hlt)
      obtain ⟨t, ht⟩ : ∃ t, l[k] = t := ⟨_, rfl⟩
      rw [ht] at TO CS q0 q1 q2
      clear ht r1 r2 r3 hy hb hn2
      go_wp2_with fail
      refine TO.out.mono ?_
      rintro e w2 ⟨d0, d1, d2, rfl, ho, hb2⟩
      obtain ⟨z0, z1, x, n, z, rfl, rfl, rfl⟩ := ho.shape
      have hlo := B.out.size
      have hke : k < es.length := by rw [EL.out]; exact hlt
      obtain ⟨G', N', Y⟩ := EN.out.lay hb2 hke ⟨[.int .i64 z0, .int .i64 z1, .slice x n z], t, rfl, by intro v hv; simp at hv; rcases hv with rfl | rfl | rfl <;> rfl⟩ ho hlo
      have own2 := own_below EN.out.row hb2
      have f0 := own2.frozenAt (k * 3)
      have f1 := own2.frozenAt (k * 3 + 1)
      have f2 := own2.frozenAt (k * 3 + 2)
      have cc := own_elem eltL_len own2 hke
      obtain ⟨v0, v1, v2, h0, h1, h2⟩ : ∃ v0 v1 v2, w2.cell? ⟨w.heap.size, k * 3, none⟩ = some v0 ∧ w2.cell? ⟨w.heap.size, k * 3 + 1, none⟩ = some v1 ∧ w2.cell? ⟨w.heap.size, k * 3 + 2, none⟩ = some v2 := by
        have hlen := eltL_len es[k]
        exact ⟨_, _, _, (cc 0 (by decide)).trans (List.getElem?_eq_getElem (by omega)), (cc 1 (by decide)).trans (List.getElem?_eq_getElem (by omega)), (cc 2 (by decide)).trans (List.getElem?_eq_getElem (by omega))⟩
      have X := Lib.hid (show ∃ (es' : List (Elt BlkM 3)) (G : Nat → Foot), es'.length = l.length ∧ es'.map Elt.m = copyB l (k + 1) ∧ NRow BlockO 26 3 w.heap.size (some ⟨w.heap.size, 0, none⟩) l.length es' G (setCellsL w2 w.heap.size (k * 3) [.int .i64 z0, .int .i64 z1, .slice x n z]) ∧ Below w.heap.size w (setCellsL w2 w.heap.size (k * 3) [.int .i64 z0, .int .i64 z1, .slice x n z]) from
        ⟨_, G', by simpa using EL.out, by rw [List.map_set, EM.out]; exact CS.out, N', (below_seq B.out hb2).grown Y (Nat.le_trans hlo hb2.size) (fun i hi => by cases hi; exact Nat.le_refl _)⟩)
      clear N' Y own2 cc ho hb2 TO CS EL EM EN B
      go_wp2
      go_roundg (l.length - (k + 1))
      case measure => omega
      case rel => exact ⟨k + 1, by omega, rfl, by go_num, X⟩
    · have hk' : k = l.length := by omega
      subst hk'
      have Z := Lib.hid (show BlockSOwn w.heap.size wr.heap.size [.slice (some ⟨w.heap.size, 0, none⟩) l.length l.length] l wr by
        have hm := EM.out
        rw [copyB_done] at hm
        have := blockS_ong.seg EN.out.mk_own
        rw [hm, EL.out] at this
        exact this)
      clear EL EM EN hb
      go_wp2
      go_ret
      exact ⟨_, rfl, Z.out, B.out⟩
end Go.Proofs.Ytmkgddbdkpkgpaa
end

section
namespace Go.Proofs.Ytmkgddbdkpkgpaa
open Go.RowKit
set_option linter.unusedVariables false
set_option linter.unusedSimpArgs false

theorem flatG_snoc {es : List (Elt BlkM 3)} (e : Elt BlkM 3) : flatG eltL (es ++ [e]) = flatG eltL es ++ e.cs := by rw [flatG_app]; simp [flatG, eltL]
theorem NRow.none (lo : Nat) (G : Nat → Foot) (w : World) : NRow BlockO 26 3 lo none 0 [] G w :=
  ⟨⟨rfl, .inl ⟨rfl, rfl⟩⟩, fun i h => by simp at h, fun i j b h => by simp at h, fun i b h => by simp at h⟩
/-- One block more. -/
theorem NRow.snoc {lo cap : Nat} {a : Option Addr} {es : List (Elt BlkM 3)} {G : Nat → Foot} {w w5 : World} (h : NRow BlockO 26 3 lo a cap es G w) (F : Foot) (e : Elt BlkM 3) (he : BlockO F lo e.cs e.m w)
    (hsep : ∀ i b, i < es.length → G i b → ¬ F b) (hoff : ∀ b, F b → (Value.slice a es.length cap).ownBlock ≠ some b) {v5 : Value} (ho : w5.ownsRow lo 26 3 v5 (es.length + 1) (flatG eltL es ++ e.cs)) (hg : w.grownBy w5 (Value.slice a es.length cap).ownBlock) :
    ∃ a5 cap5, v5 = .slice a5 (es ++ [e]).length cap5 ∧ NRow BlockO 26 3 lo a5 cap5 (es ++ [e]) (fun i => if i = es.length then F else G i) w5 := by
  obtain ⟨a5, cap5, rfl⟩ := own_shape ho
  have hlen : (es ++ [e]).length = es.length + 1 := by simp
  have keep : ∀ {F' : Foot} {cs : List Value} {m : BlkM}, BlockO F' lo cs m w → (∀ b, F' b → (Value.slice a es.length cap).ownBlock ≠ some b) → BlockO F' lo cs m w5 := fun k1 k2 =>
    block_ong.sup k1 (fun b hb => hg.block b (block_ong.at_ k1 b hb).2 (fun e => k2 b hb e.symm))
  have other : ∀ {F' : Foot} {cs : List Value} {m : BlkM}, BlockO F' lo cs m w5 → ∀ b, F' b → (Value.slice a5 (es.length + 1) cap5).ownBlock ≠ some b := fun k1 b hb => by
    obtain ⟨c, _, x, cp, hc, hr, hF⟩ := k1
    have hbb := (hF b).1 hb
    rcases hr.2 with ⟨hv, _⟩ | ⟨g, cap', cur, hv, _, hh, _⟩
    · rw [hv] at hbb; simp [Value.ownBlock] at hbb
    · rw [hv] at hbb
      simp [Value.ownBlock] at hbb
      subst hbb
      exact own_other ho hh (by decide)
  have own5 : ∀ i (hi : i < es.length), BlockO (G i) lo es[i].cs es[i].m w5 := fun i hi => keep (h.own i hi) (fun b hb => h.off i b hi hb)
  have he5 := keep he hoff
  refine ⟨a5, cap5, by rw [hlen], ⟨by rw [hlen, flatG_snoc]; exact ho, fun i hi => ?_, fun i j b hi hj hij => ?_, fun i b hi => ?_⟩⟩
  · rcases Nat.lt_or_ge i es.length with h1 | h1
    · rw [if_neg (by omega), List.getElem_append_left h1]
      exact own5 i h1
    · have hie : i = es.length := by omega
      subst hie
      rw [if_pos rfl, List.getElem_append_right (Nat.le_refl _)]
      simpa using he5
  · rcases Nat.lt_or_ge i es.length with h1 | h1
    · rw [if_neg (by omega)]
      rcases Nat.lt_or_ge j es.length with h2 | h2
      · rw [if_neg (by omega)]; exact h.sep i j b h1 h2 hij
      · rw [if_pos (by omega)]; exact hsep i b h1
    · rw [if_pos (by omega)]
      rcases Nat.lt_or_ge j es.length with h2 | h2
      · rw [if_neg (by omega)]; exact fun h3 h4 => hsep j b h2 h4 h3
      · omega
  · rw [hlen]
    rcases Nat.lt_or_ge i es.length with h1 | h1
    · rw [if_neg (by omega)]; exact fun hb => other (own5 i h1) b hb
    · rw [if_pos (by omega)]; exact fun hb => other he5 b hb
theorem BlockSOwn.nil (lo hi : Nat) (w : World) : BlockSOwn lo hi [.slice none 0 0] [] w :=
  ⟨fun _ => False, ⟨none, 0, [], fun _ _ => False, rfl, rfl, NRow.none _ _ _, fun b => by simp [rowF, Value.ownBlock]⟩, fun b h => h.elim⟩
theorem nrow_own {lo cap : Nat} {a : Option Addr} {es : List (Elt BlkM 3)} {G : Nat → Foot} {w : World} (h : NRow BlockO 26 3 lo a cap es G w) : BlockSOwn lo w.heap.size [.slice a es.length cap] (es.map Elt.m) w :=
  ⟨rowF (.slice a es.length cap) es.length G, ⟨a, cap, es, G, rfl, rfl, h, fun b => Iff.rfl⟩, fun b hb => (h.at_ block_ong b hb).2⟩
/-- .. at an address. -/
def BlockSRetS (l : List BlkM) (w : World) (e : Ending) (w' : World) : Prop := ∃ g cap, e = .returned (.slice (some ⟨g, 0, none⟩) l.length cap) ∧ BlockSOwn w.heap.size w'.heap.size [.slice (some ⟨g, 0, none⟩) l.length cap] l w' ∧ Below w.heap.size w w'
/-- A block as it stands in the bytes. -/
def blkAt (d : List UInt8) (v t : Nat) : BlkM := ⟨((d.getD (t + 1) 0).toNat : Int), ((d.getD (t + 2) 0).toNat : Int), (d.drop (t + 3)).take v⟩
def firstN (d : List UInt8) (v k : Nat) : List BlkM := (List.range k).map (fun j => blkAt d v (j * (v + 3)))
theorem firstN_length (d : List UInt8) (v k : Nat) : (firstN d v k).length = k := by simp [firstN]
theorem firstN_snoc (d : List UInt8) (v k : Nat) : firstN d v (k + 1) = firstN d v k ++ [blkAt d v (k * (v + 3))] := by unfold firstN; rw [List.range_succ, List.map_append]; rfl
/-- How many blocks stand one behind the other, from number k on (f at most). -/
def cntUp (d : List UInt8) (v : Nat) : Nat → Nat → Nat
  | 0, k => k
  | f + 1, k => if d.getD (k * (v + 3)) 0 = 1 then cntUp d v f (k + 1) else k
def cntN (d : List UInt8) (v : Nat) : Nat := cntUp d v 4 0
theorem cntUp_le (d : List UInt8) (v : Nat) : ∀ f k, cntUp d v f k ≤ k + f
  | 0, k => by unfold cntUp; omega
  | f + 1, k => by
    unfold cntUp
    split
    · have := cntUp_le d v f (k + 1); omega
    · omega
theorem cntN_le (d : List UInt8) (v : Nat) : cntN d v ≤ 4 := by have := cntUp_le d v 4 0; unfold cntN; omega
def candN (d : List UInt8) (v : Nat) : List BlkM := firstN d v (cntN d v)
def readNB (d : List UInt8) (z v : Int) : Bool := frameB z v && (decide ((d.length : Int) = nodeSizeZ v) && decide (nodeOfL (candN d v.toNat) z v = d))
def readNM (d : List UInt8) (z v : Int) : NodeM := if readNB d z v = true then candN d v.toNat else []
end Go.Proofs.Ytmkgddbdkpkgpaa
end

section
namespace Go.Proofs.Ytmkgddbdkpkgpaa
open Go.RowKit
set_option linter.unusedVariables false
set_option linter.unusedSimpArgs false
set_option maxRecDepth 100000

theorem NRow.push {w wr w3 w5 : World} {ao : Option Addr} {co : Nat} {es : List (Elt BlkM 3)} {F : Nat → Foot} (s : NRow BlockO 26 3 w.heap.size ao co es F wr) (hB : Below w.heap.size w wr) (g3 : Below wr.heap.size wr w3) {c2 : Value} {r : BlkM} (ho : BlockOwn wr.heap.size w3.heap.size [.int .i64 r.id, .int .i64 r.leaf, c2] r w3) (h2 : c2.oneCell' = true)
    {v5 : Value} (ho5 : w5.ownsRow w.heap.size 26 3 v5 (es.length + 1) (flatG eltL es ++ [.int .i64 r.id, .int .i64 r.leaf, c2])) (hg5 : (w3.alloc (.cells #[.int .i64 r.id, .int .i64 r.leaf, c2] 26)).grownBy w5 (Value.slice ao es.length co).ownBlock) :
    ∃ a5 c5, v5 = .slice a5 (es.length + 1) c5 ∧ ∃ (es' : List (Elt BlkM 3)) (F' : Nat → Foot), es'.length = es.length + 1 ∧ es'.map Elt.m = es.map Elt.m ++ [r] ∧ NRow BlockO 26 3 w.heap.size a5 c5 es' F' w5 ∧ Below w.heap.size w w5 := by
  have bx := below_box (Below.refl w3.heap.size w3) (.cells #[.int .i64 r.id, .int .i64 r.leaf, c2] 26)
  have r5 := s.below block_ong (below_seq g3 bx)
  obtain ⟨f, f1, f2⟩ := ho
  have fat := block_ong.at_ f1
  have f3 := block_ong.sup (w' := w3.alloc (.cells #[.int .i64 r.id, .int .i64 r.leaf, c2] 26)) f1 (fun x hx => alloc_old _ _ _ (f2 x hx))
  have hsz : w.heap.size ≤ wr.heap.size := hB.size
  obtain ⟨el, hecs, hem⟩ : ∃ e : Elt BlkM 3, e.cs = [.int .i64 r.id, .int .i64 r.leaf, c2] ∧ e.m = r := ⟨⟨[.int .i64 r.id, .int .i64 r.leaf, c2], r, rfl, by intro u hu; simp at hu; rcases hu with rfl | rfl | rfl; rfl; rfl; exact h2⟩, rfl, rfl⟩
  have gat := fun i x hi hx => (block_ong.at_ (s.own i hi) x hx).2
  have ob := fun x hx => s.row.lt x hx
  obtain ⟨a5, c5, hv, nr⟩ := r5.snoc f el (by rw [hecs, hem]; exact block_ong.low f3 hsz)
    (fun i x hi hx hF => by have h1 := gat i x hi hx; have h2 := (fat x hF).1; omega) (fun x hF hx => by have h1 := (ob x hx).2; have h2 := (fat x hF).1; omega) (v5 := v5) (by rw [hecs]; exact ho5) hg5
  have hl5 : (es ++ [el]).length = es.length + 1 := by simp
  rw [hl5] at hv
  exact ⟨a5, c5, hv, _, _, hl5, by rw [List.map_append]; simp [hem], nr, (below_seq hB (below_seq g3 bx)).grown hg5 (by have := hB.size; have := g3.size; simp; omega) (fun x hx => (ob x hx).1)⟩
end Go.Proofs.Ytmkgddbdkpkgpaa
end

section
namespace Go.Proofs.Ytmkgddbdkpkgpaa
open Go.RowKit
set_option linter.unusedVariables false
set_option linter.unusedSimpArgs false
set_option maxRecDepth 100000

end Go.Proofs.Ytmkgddbdkpkgpaa
end
