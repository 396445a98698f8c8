/- MpF, MpD in one. Written by tools/join2.py. -/
import Derived.Test.YtmkgddbdkpkgpaaJS39
import Derived.Test.YtmkgddbdkpkgpaaJS26
import Derived.Test.YtmkgddbdkpkgpaaJS41
import Derived.Test.YtmkgddbdkpkgpaaJS13
section
namespace Go.Proofs.Ytmkgddbdkpkgpaa
open Go.RowKit
set_option linter.unusedVariables false
set_option linter.unusedSimpArgs false
set_option maxRecDepth 100000

theorem uImplStashOk (c : Value) (l : List BlkM) (z v : Int) (w : World) (h : BlockSIn [c] l w) : Calls Try.prog 28 #[c, .int .i64 z, .int .i64 v] w fun e w' => e = .returned (.bool (stashOkB l z v)) ∧ Below w.heap.size w w' := by
  have BO := Lib.hid (uImplBlocksOk c l z v _ h)
  obtain ⟨a, cap, es, rfl, _, g2, _⟩ := blockSIn_shape h
  unfold maxLen at g2
  unfold stashOkB
  clear h
  obtain ⟨n, hn⟩ : ∃ n, l.length = n := ⟨_, rfl⟩
  rw [hn] at BO g2 ⊢
  clear hn
  by_cases h4 : n ≤ 128
  · rw [decide_eq_true h4, Bool.true_and]
    have h4i : (n : Int) ≤ 128 := by omega
    go_enter Try.func28, Try.ntmps28
    go_wp2_with fail
    refine BO.out.mono ?_
    rintro e w1 ⟨rfl, hb⟩
    have B := Lib.hid hb
    clear hb BO
    go_wp2
    go_ret
    exact ⟨rfl, B.out⟩
  · rw [decide_eq_false h4, Bool.false_and]
    have h4i : ¬ (n : Int) ≤ 128 := by omega
    go_enter Try.func28, Try.ntmps28
    go_wp2
    go_ret
    exact ⟨rfl, Below.refl _ _⟩
theorem set3_out {lo b : Nat} {x y z : Value} {w w' : World} (h : Below lo w w') (hb : lo ≤ b) : Below lo w (((w'.setCell ⟨b, 0, none⟩ x).setCell ⟨b, 1, none⟩ y).setCell ⟨b, 2, none⟩ z) :=
  ((h.setCell (p := ⟨b, 0, none⟩) hb x).setCell (p := ⟨b, 1, none⟩) hb y).setCell (p := ⟨b, 2, none⟩) hb z
set_option maxHeartbeats 2000000 in
theorem implStashFind (c : Value) (l : List BlkM) (i : Int) (w : World) (h : BlockSIn [c] l w) (hs : szBlockS l ≤ 1048576) : Calls Try.prog 15 #[c, .int .i64 i] w fun e w' => ∃ c0 c1 c2, e = .returned (.tuple #[.agg #[c0, c1, c2], .bool (sFindB l i)]) ∧ BlockOwn w.heap.size w'.heap.size [c0, c1, c2] (sFindM l i) w' ∧ Below w.heap.size w w' := by
  obtain ⟨aa, capa, es, rfl, hcap, hmax, _, r1, r2, r3⟩ := blockSIn_shape h
  have hn : l.length ≤ 1048576 := by unfold szBlockS at hs; omega
  have SZ := Lib.hid (show ∀ k (hk : k < l.length), l[k].data.length ≤ 4000000 from fun k hk => by
    have h1 := sumD_snoc l k hk
    have h2 := sumD_part l (k + 1)
    unfold szBlockS at hs
    omega)
  have EL : Hid (∀ k (hk : k < l.length), ∃ b off x cap, aa = some ⟨b, off, none⟩ ∧ w.cell? ⟨b, off + k * 3, none⟩ = some (.int .i64 l[k].id) ∧ w.cell? ⟨b, off + k * 3 + 1, none⟩ = some (.int .i64 l[k].leaf) ∧ w.cell? ⟨b, off + k * 3 + 2, none⟩ = some (.slice x l[k].data.length cap) ∧ BlockIn [.int .i64 l[k].id, .int .i64 l[k].leaf, .slice x l[k].data.length cap] l[k] w) := Lib.hid (fun k hk => Row.blk r1 r3 r2 hk)
  unfold maxLen at hmax
  clear h r1 r2 r3 hs
  have NO := Lib.hid (show sFindB l i = false → sFindM l i = zeroBlk from fun e => by unfold sFindM; rw [e]; rfl)
  have A0 := Lib.hid (And.intro (below_box (Below.refl w.heap.size w) (.cells #[.int .i64 0, .int .i64 0, .slice none 0 0] 26)) (alloc_at w (.cells #[.int .i64 0, .int .i64 0, .slice none 0 0] 26) _ rfl))
  by_cases h128 : l.length ≤ 128
  · have hI : (l.length : Int) ≤ 128 := by omega
    go_enter Try.func15, Try.ntmps15
    go_wp2_with fail
    go_loopg [14] l.length (fun kk iv wr => ∃ k : Nat, k ≤ l.length ∧ l.length - k = kk ∧ iv = .int .i64 k ∧ Hid ((l.take k).any (fun m => decide (m.id = i)) = false) ∧ Hid (Below w.heap.size w wr ∧ wr.heap[w.heap.size]? = some (.cells #[.int .i64 0, .int .i64 0, .slice none 0 0] 26)))
    case atStart => exact ⟨0, Nat.zero_le _, rfl, rfl, Lib.hid (by simp), A0⟩
    case round =>
      clear A0
      obtain ⟨k, hk, hkk, rfl, H, WB⟩ := hrel
      by_cases hlt : k < l.length
      · have hltI : (k : Int) < (l.length : Int) := by omega
        have hk0 : (0 : Int) ≤ (k : Int) := by omega
        obtain ⟨b, off, x, z, hab, q0, q1, q2, qi⟩ := EL.out k hlt
        subst hab
        have t0 := cell_keep q0 WB.out.1
        have t1 := cell_keep q1 WB.out.1
        have t2 := cell_keep q2 WB.out.1
        have ti := block_rdg.below qi WB.out.1
        by_cases he : l[k].id = i
        · have F1 := Lib.hid (find_at hlt H.out he)
          have SB := Lib.hid (show sFindB l i = true by unfold sFindB; rw [decide_eq_true h128, F1.out.1]; rfl)
          have SM := Lib.hid (show sFindM l i = l[k] by unfold sFindM; rw [if_pos SB.out, F1.out.2]; rfl)
          have SK := SZ.out k hlt
          obtain ⟨m, hm⟩ : ∃ m, l[k] = m := ⟨_, rfl⟩
          rw [hm] at ti SM he t0 t1 t2 SK
          have LX := Lib.hid (block_rdg.below ti (below_box (Below.refl _ _) (.cells #[.int .i64 m.id, .int .i64 m.leaf, .slice x m.data.length z] 26)))
          have CL := Lib.hid (implClone _ _ _ m _ LX.out SK)
          have hde : (m.id == i) = true := by simp [he]
          have hwr : w.heap.size ≤ wr.heap.size := WB.out.1.size
          have hwl : w.heap.size < wr.heap.size := cur_lt WB.out.2
          have W0 := Lib.hid WB.out
          clear hm q0 q1 q2 qi ti F1 H NO LX SK he WB
          go_wp2_with fail
          refine CL.out.mono ?_
          rintro e w5 ⟨a, c, rfl, ho, hb⟩
          have BW := Lib.hid (below_seq W0.out.1 (below_seq (below_box (Below.refl wr.heap.size wr) (.cells #[.int .i64 m.id, .int .i64 m.leaf, .slice x m.data.length z] 26)) hb))
          have W5 := Lib.hid (kept_block (kept_block W0.out.2 (below_box (Below.refl _ _) (.cells #[.int .i64 m.id, .int .i64 m.leaf, .slice x m.data.length z] 26))) hb)
          simp only [size_box] at ho
          have k0 := cur_cell W5.out 0
          have k1 := cur_cell W5.out 1
          have k2 := cur_cell W5.out 2
          have f0 := cur_free W5.out 0
          have f1 := cur_free W5.out 1
          have f2 := cur_free W5.out 2
          simp at k0 k1 k2
          have Z := Lib.hid (And.intro ((own_box3 ho (show w.heap.size < wr.heap.size + 1 by omega) (.int .i64 m.id) (.int .i64 m.leaf) (.slice a m.data.length c)).wide (show w.heap.size ≤ wr.heap.size + 1 by omega) (Nat.le_refl _)) (set3_out (x := .int .i64 m.id) (y := .int .i64 m.leaf) (z := .slice a m.data.length c) BW.out (Nat.le_refl w.heap.size)))
          clear ho hb W5 CL W0
          go_wp2
          exact bodyPost_ret (v := .tuple #[.agg #[.int .i64 m.id, .int .i64 m.leaf, .slice a m.data.length c], .bool true]) (by simp [results, Try.results15, go_sem, k0, k1, k2]) rfl ⟨_, _, _, by rw [SB.out], by rw [SM.out]; simpa using Z.out.1, Z.out.2⟩
        · have HN := Lib.hid (anyB_take hlt H.out he)
          have hde : (l[k].id == i) = false := by simp [he]
          obtain ⟨m, hm⟩ : ∃ m, l[k] = m := ⟨_, rfl⟩
          rw [hm] at t0 t1 t2 hde
          have WN := Lib.hid (And.intro (below_seq WB.out.1 (below_box (Below.refl wr.heap.size wr) (.cells #[.int .i64 m.id, .int .i64 m.leaf, .slice x m.data.length z] 26))) (kept_block WB.out.2 (below_box (Below.refl _ _) (.cells #[.int .i64 m.id, .int .i64 m.leaf, .slice x m.data.length z] 26))))
          clear hm q0 q1 q2 qi ti H NO he WB
          go_wp2
          go_roundg (l.length - (k + 1))
          case measure => omega
          case rel => exact ⟨k + 1, by omega, rfl, by go_num, HN, WN⟩
      · have hge : ¬ (k : Int) < (l.length : Int) := by omega
        have hkl : k = l.length := by omega
        have HB := Lib.hid (show sFindB l i = false by
          have := H.out
          rw [hkl, List.take_length] at this
          unfold sFindB; rw [this, Bool.and_false])
        have ZM := Lib.hid (NO.out HB.out)
        have k0 := cur_cell WB.out.2 0
        have k1 := cur_cell WB.out.2 1
        have k2 := cur_cell WB.out.2 2
        have f0 := cur_free WB.out.2 0
        have f1 := cur_free WB.out.2 1
        have f2 := cur_free WB.out.2 2
        simp at k0 k1 k2
        have B3 := Lib.hid (set3_out (x := .int .i64 0) (y := .int .i64 0) (z := .slice none 0 0) WB.out.1 (Nat.le_refl w.heap.size))
        clear hkl H NO WB
        go_wp2
        exact bodyPost_ret (v := .tuple #[.agg #[.int .i64 0, .int .i64 0, .slice none 0 0], .bool false]) (by simp [results, Try.results15, go_sem, k0, k1, k2]) rfl ⟨_, _, _, by rw [HB.out], by rw [ZM.out]; exact own_zero _ _ _, B3.out⟩
  · have hI : ¬ (l.length : Int) ≤ 128 := by omega
    have hI2 : (128 : Int) < (l.length : Int) := by omega
    have HB := Lib.hid (show sFindB l i = false by unfold sFindB; rw [decide_eq_false h128, Bool.false_and])
    have ZM := Lib.hid (NO.out HB.out)
    clear NO EL SZ
    go_enter Try.func15, Try.ntmps15
    go_wp2
    have B3 := set3_out (x := .int .i64 0) (y := .int .i64 0) (z := .slice none 0 0) A0.out.1 (Nat.le_refl w.heap.size)
    exact bodyPost_ret (v := .tuple #[.agg #[.int .i64 0, .int .i64 0, .slice none 0 0], .bool false]) (by simp [results, Try.results15, go_sem]) rfl ⟨_, _, _, by rw [HB.out], by rw [ZM.out]; exact own_zero _ _ _, A0.out.1⟩
end Go.Proofs.Ytmkgddbdkpkgpaa
end

section
namespace Go.Proofs.Ytmkgddbdkpkgpaa
open Go.RowKit
set_option linter.unusedVariables false
set_option linter.unusedSimpArgs false
set_option maxRecDepth 100000

theorem without_len {l : List BlkM} {i : Int} (h : l.length ≤ 128) : (withoutL l i).length = l.length ↔ sFindB l i = false := by
  unfold sFindB
  rw [decide_eq_true h, Bool.true_and, List.any_eq_false]
  unfold withoutL
  constructor
  · intro e m hm
    have := (List.length_filter_eq_length_iff.1 e) m hm
    simpa using this
  · intro e
    rw [List.length_filter_eq_length_iff]
    intro m hm
    simpa using e m hm
set_option maxHeartbeats 2000000 in
theorem implStashDrop (c : Value) (l : List BlkM) (i : Int) (w : World) (h : BlockSIn [c] l w) (hs : szBlockS l ≤ 1048576) : Calls Try.prog 16 #[c, .int .i64 i] w fun e w' => ∃ c0, e = .returned (.tuple #[c0, .bool (sFindB l i)]) ∧ BlockSOwn w.heap.size w'.heap.size [c0] (sDropM l i) w' ∧ Below w.heap.size w w' := by
  obtain ⟨aa, capa, es, rfl, hcap, hmax, _, r1, r2, r3⟩ := blockSIn_shape h
  have hn : l.length ≤ 1048576 := by unfold szBlockS at hs; omega
  have SZ := Lib.hid (show ∀ k (hk : k < l.length), l[k].data.length ≤ 4000000 from fun k hk => by
    have h1 := sumD_snoc l k hk
    have h2 := sumD_part l (k + 1)
    unfold szBlockS at hs
    omega)
  have EL : Hid (∀ k (hk : k < l.length), ∃ b off x cap, aa = some ⟨b, off, none⟩ ∧ w.cell? ⟨b, off + k * 3, none⟩ = some (.int .i64 l[k].id) ∧ w.cell? ⟨b, off + k * 3 + 1, none⟩ = some (.int .i64 l[k].leaf) ∧ w.cell? ⟨b, off + k * 3 + 2, none⟩ = some (.slice x l[k].data.length cap) ∧ BlockIn [.int .i64 l[k].id, .int .i64 l[k].leaf, .slice x l[k].data.length cap] l[k] w) := Lib.hid (fun k hk => Row.blk r1 r3 r2 hk)
  have WT := Lib.hid (fun k (hk : k < l.length) => without_take l i hk)
  have S0 := Lib.hid (show ∃ (es : List (Elt BlkM 3)) (F : Nat → Foot), es.length = 0 ∧ es.map Elt.m = withoutL (l.take 0) i ∧ NRow BlockO 26 3 w.heap.size none 0 es F w ∧ Below w.heap.size w w from ⟨[], fun _ _ => False, rfl, by simp [withoutL], NRow.none _ _ _, Below.refl _ w⟩)
  unfold maxLen at hmax
  clear h r1 r2 r3 hs
  have NO := Lib.hid (show sFindB l i = false → sDropM l i = [] from fun e => by unfold sDropM; rw [e]; rfl)
  have YES := Lib.hid (show sFindB l i = true → sDropM l i = withoutL l i from fun e => by unfold sDropM; rw [e]; rfl)
  by_cases h128 : l.length ≤ 128
  · have hI : (l.length : Int) ≤ 128 := by omega
    have WL := Lib.hid (without_len (i := i) h128)
    go_enter Try.func16, Try.ntmps16
    go_wp2_with fail
    go_loopg [6, 14] l.length (fun kk ov iv wr => ∃ (k n co : Nat) (ao : Option Addr), k ≤ l.length ∧ n ≤ k ∧ l.length - k = kk ∧ ov = .slice ao n co ∧ iv = .int .i64 k ∧ Hid (∃ (es : List (Elt BlkM 3)) (F : Nat → Foot), es.length = n ∧ es.map Elt.m = withoutL (l.take k) i ∧ NRow BlockO 26 3 w.heap.size ao co es F wr ∧ Below w.heap.size w wr))
    case atStart => exact ⟨0, 0, 0, none, Nat.zero_le _, Nat.le_refl _, rfl, rfl, rfl, S0⟩
    case round =>
      clear S0
      obtain ⟨k, n, co, ao, hk, hnk, hkk, rfl, rfl, S⟩ := hrel
      by_cases hlt : k < l.length
      · have hltI : (k : Int) < (l.length : Int) := by omega
        have hk0 : (0 : Int) ≤ (k : Int) := by omega
        have TK := Lib.hid (WT.out k hlt)
        obtain ⟨es, F, e1, e2, e3, e4⟩ := S.out
        obtain ⟨b, off, x, z, hab, q0, q1, q2, qi⟩ := EL.out k hlt
        subst hab
        have t0 := cell_keep q0 e4
        have t1 := cell_keep q1 e4
        have t2 := cell_keep q2 e4
        have ti := block_rdg.below qi e4
        have SK := SZ.out k hlt
        obtain ⟨m, hm⟩ : ∃ m, l[k] = m := ⟨_, rfl⟩
        rw [hm] at TK ti t0 t1 t2 SK
        have BX := below_box (Below.refl wr.heap.size wr) (.cells #[.int .i64 m.id, .int .i64 m.leaf, .slice x m.data.length z] 26)
        by_cases he : m.id = i
        · have hne : (m.id != i) = false := by simp [he]
          have Z := Lib.hid (show ∃ (es : List (Elt BlkM 3)) (F : Nat → Foot), es.length = n ∧ es.map Elt.m = withoutL (l.take (k + 1)) i ∧ NRow BlockO 26 3 w.heap.size ao co es F (wr.alloc (.cells #[.int .i64 m.id, .int .i64 m.leaf, .slice x m.data.length z] 26)) ∧ Below w.heap.size w (wr.alloc (.cells #[.int .i64 m.id, .int .i64 m.leaf, .slice x m.data.length z] 26)) from ⟨es, F, e1, by rw [TK.out, if_pos he, List.append_nil]; exact e2, e3.below block_ong BX, below_seq e4 BX⟩)
          clear hm q0 q1 q2 qi ti TK he S e1 e2 e3 e4 BX SK
          go_wp2
          go_roundg (l.length - (k + 1))
          case measure => omega
          case rel => exact ⟨k + 1, n, co, ao, by omega, by omega, rfl, rfl, by go_num, Z⟩
        · have hne : (m.id != i) = true := by simp [he]
          have LX := Lib.hid (block_rdg.below ti BX)
          have CL := Lib.hid (implClone _ _ _ m _ LX.out SK)
          have hsz := e4.size
          have PU := Lib.hid (fun w3 g3 c2 ho h2 v5 w5 ho5 hg5 => NRow.push (w3 := w3) (v5 := v5) (w5 := w5) (c2 := c2) (r := m) e3 e4 g3 ho h2 ho5 hg5)
          have ROW := Lib.hid (fun w' (hb : Below wr.heap.size wr w') => (e3.below block_ong hb).row)
          rw [e1] at ROW
          rw [e1, e2] at PU
          have TE := Lib.hid (show withoutL (l.take (k + 1)) i = withoutL (l.take k) i ++ [m] by rw [TK.out, if_neg he])
          have BXH := Lib.hid BX
          clear hm q0 q1 q2 qi ti TK he S e1 e2 e3 e4 BX SK LX
          go_wp2_with fail
          refine CL.out.mono ?_
          rintro e w3 ⟨a, cc, rfl, ho, hb⟩
          have G3 := Lib.hid (below_seq BXH.out hb)
          have HO := Lib.hid (ho.wide (show wr.heap.size ≤ (wr.alloc (.cells #[.int .i64 m.id, .int .i64 m.leaf, .slice x m.data.length z] 26)).heap.size by simp) (Nat.le_refl _))
          have R3 := Lib.hid (ROW.out _ (below_seq G3.out (below_box (Below.refl w3.heap.size w3) (.cells #[.int .i64 m.id, .int .i64 m.leaf, .slice a m.data.length cc] 26))))
          have hs3 : w.heap.size ≤ w3.heap.size := Nat.le_trans hsz G3.out.size
          clear ho hb CL ROW BXH
          obtain ⟨dn, hdn⟩ : ∃ dn, m.data.length = dn := ⟨_, rfl⟩
          obtain ⟨zi, hzi⟩ : ∃ z, m.id = z := ⟨_, rfl⟩
          obtain ⟨zf, hzf⟩ : ∃ z, m.leaf = z := ⟨_, rfl⟩
          rw [hdn, hzi, hzf] at HO R3
          rw [hzi, hzf] at PU
          rw [hdn, hzi, hzf]
          rw [hzi] at hne
          clear t0 t1 t2 hdn hzi hzf
          go_wp2_with (at_builtin; go_must (refine wp_app_rowS rfl _ _ 24 rfl 26 _ 3 40 Try.underlying24 Try.infoBlk rfl (by omega) w.heap.size n (.slice ao n co) _ (by rfl) R3.out (some ⟨w3.heap.size, 0, none⟩) 1 1 [.int .i64 zi, .int .i64 zf, .slice a dn cc] (by rfl) rfl (lit_rowB w3 [.int .i64 zi, .int .i64 zf, .slice a dn cc] 26) (by intro u hu; simp at hu; rcases hu with rfl | rfl | rfl <;> rfl) (by unfold maxLen; omega) (by omega) (by simp; omega) ?_); intro v5 w5 ho5 hg5)
          obtain ⟨a5, c5, rfl, Z0⟩ := PU.out w3 G3.out _ HO.out rfl v5 w5 ho5 hg5
          rw [← TE.out] at Z0
          have Z := Lib.hid Z0
          clear Z0 ho5 hg5 PU R3 HO G3 TE
          go_wp2
          go_roundg (l.length - (k + 1))
          case measure => omega
          case rel => exact ⟨k + 1, n + 1, c5, a5, by omega, by omega, rfl, by go_num, by go_num, Z⟩
      · have hge : ¬ (k : Int) < (l.length : Int) := by omega
        have hkl : k = l.length := by omega
        subst hkl
        obtain ⟨es, F, e1, e2, e3, e4⟩ := S.out
        rw [List.take_length] at e2
        have BO := nrow_own e3
        rw [e2, e1] at BO
        have LE := Lib.hid (show n = l.length ↔ sFindB l i = false by rw [← WL.out, ← e2, ← e1]; simp)
        have Z := Lib.hid (And.intro BO e4)
        clear S e1 e2 e3 e4 BO EL WT WL SZ
        by_cases hq : n = l.length
        · have hqe : ((n : Int) == (l.length : Int)) = true := by simp [hq]
          have FB := Lib.hid (LE.out.1 hq)
          have NM := Lib.hid (NO.out FB.out)
          clear LE hq NO YES
          go_wp2
          exact bodyPost_ret (v := .tuple #[.slice none 0 0, .bool false]) (by simp [results, Try.results16, go_sem]) rfl ⟨_, by rw [FB.out], by rw [NM.out]; exact BlockSOwn.nil _ _ _, Z.out.2⟩
        · have hqe : ((n : Int) == (l.length : Int)) = false := by simp; omega
          have FB := Lib.hid (show sFindB l i = true by
            cases hc : sFindB l i
            · exact absurd (LE.out.2 hc) hq
            · rfl)
          have NM := Lib.hid (YES.out FB.out)
          clear LE hq NO YES
          go_wp2
          exact bodyPost_ret (v := .tuple #[.slice ao n co, .bool true]) (by simp [results, Try.results16, go_sem]) rfl ⟨_, by rw [FB.out], by rw [NM.out]; exact Z.out.1, Z.out.2⟩
  · have hI : ¬ (l.length : Int) ≤ 128 := by omega
    have hI2 : (128 : Int) < (l.length : Int) := by omega
    have HB := Lib.hid (show sFindB l i = false by unfold sFindB; rw [decide_eq_false h128, Bool.false_and])
    have ZM := Lib.hid (NO.out HB.out)
    clear NO YES EL SZ WT S0
    go_enter Try.func16, Try.ntmps16
    go_wp2
    exact bodyPost_ret (v := .tuple #[.slice none 0 0, .bool false]) (by simp [results, Try.results16, go_sem]) rfl ⟨_, by rw [HB.out], by rw [ZM.out]; exact BlockSOwn.nil _ _ _, Below.refl _ _⟩
end Go.Proofs.Ytmkgddbdkpkgpaa
end
