/- StV in one. Written by tools/join2.py. -/
import Derived.Test.YtmkgddbdkpkgpaaJS19
import Derived.Deep.RegionWith
import Derived.Deep.QuietTactic
section
namespace Go.Proofs.Ytmkgddbdkpkgpaa
open Go.RowKit
set_option linter.unusedVariables false
set_option linter.unusedSimpArgs false
set_option maxRecDepth 100000

theorem putM_len (l : List BlkM) (b : BlkM) : (insB b l).length = l.length + 1 := insB_length b l
theorem row_take {w : World} {g o k : Nat} {xs : List Value} (h : Row w (some ⟨g, o, none⟩) xs) : Row w (some ⟨g, o, none⟩) (xs.take k) := by
  rcases h with rfl | ⟨b, off, e, h⟩
  · exact .inl (by simp)
  · refine .inr ⟨b, off, e, fun i hi => ?_⟩
    rw [List.length_take] at hi
    rw [h i (by omega), List.getElem?_take, if_pos (by omega)]
theorem row_drop {w : World} {g o k : Nat} {xs : List Value} (h : Row w (some ⟨g, o, none⟩) xs) : Row w (some ⟨g, o + k, none⟩) (xs.drop k) := by
  rcases h with rfl | ⟨b, off, e, h⟩
  · exact .inl (by simp)
  · simp at e
    obtain ⟨rfl, rfl⟩ := e
    refine .inr ⟨g, o + k, rfl, fun i hi => ?_⟩
    rw [List.length_drop] at hi
    rw [Nat.add_assoc, h (k + i) (by omega), List.getElem?_drop]
/-- What stands behind the two rows. -/
def PutMid (wr : World) (m : BlkM) (t : Nat) (es : List (Elt BlkM 3)) (a5 : Option Addr) (c5 : Nat) (w5 : World) : Prop :=
  (∃ (el : Elt BlkM 3) (F : Foot), el.m = m ∧ BlockO F wr.heap.size el.cs el.m w5 ∧ w5.ownsRow wr.heap.size 26 3 (.slice a5 (t + 1) c5) (t + 1) (flatG eltL (es.take t) ++ el.cs)) ∧ Below wr.heap.size wr w5
theorem own_free {F : Foot} {lo base n : Nat} {cs xs : List Value} {m : BlkM} {v : Value} {w w' : World} (hF : BlockO F lo cs m w) (ho : w.ownsRow base 26 3 v n xs) (hg : w.grownBy w' v.ownBlock) : BlockO F lo cs m w' := by
  have hF2 := hF
  obtain ⟨c, _, x, cp, hc, hrr, hFb⟩ := hF2
  refine block_ong.sup hF (fun b hb => hg.block b (block_ong.at_ hF b hb).2 (fun e => ?_))
  have hbb := (hFb b).1 hb
  rcases hrr.2 with ⟨hv, _⟩ | ⟨g, cap', cur, hv, _, hh, _⟩
  · rw [hv] at hbb; simp [Value.ownBlock] at hbb
  · rw [hv] at hbb
    simp [Value.ownBlock] at hbb
    subst hbb
    exact own_other ho hh (by decide) e.symm
theorem put_mid {wr U : World} {zi zf : Int} {m : BlkM} {n t lo hi cv : Nat} {av : Option Addr} {es : List (Elt BlkM 3)} {cB : Value} (h1 : m.id = zi) (h2 : m.leaf = zf) (h3 : m.data.length = n) (BE : Below wr.heap.size wr U) (OV : U.ownsRow wr.heap.size 26 3 (.slice av t cv) t (flatG eltL (es.take t))) (OB : BlockSOwn lo hi [cB] [m] U) (hlo : wr.heap.size ≤ lo) :
    ∃ gB kB y yc, cB = .slice (some ⟨gB, 0, none⟩) 1 kB ∧ Row U (some ⟨gB, 0, none⟩) [.int .i64 zi, .int .i64 zf, .slice y n yc] ∧ (∀ u ∈ ([.int .i64 zi, .int .i64 zf, .slice y n yc] : List Value), u.oneCell' = true) ∧ (∀ a5 c5 w5, World.ownsRow w5 wr.heap.size 26 3 (.slice a5 (t + 1) c5) (t + 1) (flatG eltL (es.take t) ++ [.int .i64 zi, .int .i64 zf, .slice y n yc]) → U.grownBy w5 (Value.slice av t cv).ownBlock → PutMid wr m t es a5 c5 w5) := by
  subst h1 h2 h3
  obtain ⟨gB, kB, y, yc, e, hk, _, q0, q1, q2, F, hF, _⟩ := OB.blk (k := 0) (by simp)
  simp only [List.length_singleton, List.getElem_cons_zero, Nat.zero_mul] at e hk q0 q1 q2 hF
  have one : ∀ u ∈ ([.int .i64 m.id, .int .i64 m.leaf, .slice y m.data.length yc] : List Value), u.oneCell' = true := by
    intro u hu
    simp at hu
    rcases hu with rfl | rfl | rfl <;> rfl
  refine ⟨gB, kB, y, yc, e, .inr ⟨gB, 0, rfl, fun j hj => ?_⟩, one, fun a5 c5 w5 ho hg => ⟨⟨⟨[.int .i64 m.id, .int .i64 m.leaf, .slice y m.data.length yc], m, rfl, one⟩, F, rfl, block_ong.low (own_free hF OV hg) hlo, ho⟩, BE.grown hg BE.size (fun b hb => (OV.lt b hb).1)⟩⟩
  have hj : j < 3 := by simpa using hj
  rcases (show j = 0 ∨ j = 1 ∨ j = 2 from by omega) with rfl | rfl | rfl
  · simpa using q0
  · simpa using q1
  · simpa using q2
/-- The blocks behind follow. -/
theorem put_end {w wr w5 w6 : World} {m : BlkM} {t rg rc c5 lo : Nat} {a5 : Option Addr} {R : List BlkM} {es : List (Elt BlkM 3)} {G : Nat → Foot} {v6 : Value} {el : Elt BlkM 3} {Fe : Foot} (hn : NRow BlockO 26 3 lo (some ⟨rg, 0, none⟩) rc es G wr) (hem : es.map Elt.m = R) (ht : t ≤ es.length) (B4 : Below w.heap.size w wr) (hw : w.heap.size ≤ lo)
    (he : el.m = m) (hF : BlockO Fe wr.heap.size el.cs el.m w5) (h5 : w5.ownsRow wr.heap.size 26 3 (.slice a5 (t + 1) c5) (t + 1) (flatG eltL (es.take t) ++ el.cs)) (B5 : Below wr.heap.size wr w5)
    (ho : w6.ownsRow wr.heap.size 26 3 v6 (t + 1 + (es.length - t)) ((flatG eltL (es.take t) ++ el.cs) ++ flatG eltL (es.drop t))) (hg : w5.grownBy w6 (Value.slice a5 (t + 1) c5).ownBlock) :
    BlockSOwn w.heap.size w6.heap.size [v6] (R.take t ++ m :: R.drop t) w6 ∧ Below w.heap.size w w6 := by
  obtain ⟨a6, c6, rfl⟩ := own_shape ho
  have n5 := (hn.below block_ong B5).low block_ong hw
  have e1 : t + 1 + (es.length - t) = es.length + 1 := by omega
  rw [e1] at ho
  have b4 := B4.size
  have gw := fun b (h : ∃ i, i < es.length ∧ G i b) => (hn.at_ block_ong b (.inr h)).2
  obtain ⟨G', n6⟩ := n5.put (a' := a6) (cap' := c6) ht (fun b hb => hg.block b (by have := gw b hb; have := B5.size; omega) (fun e => by have h1 := (h5.lt b e.symm).1; have h2 := gw b hb; omega)) Fe el (block_ong.low (own_free hF h5 hg) b4) (fun i b hi hb hF2 => by have h1 := (block_ong.at_ hF b hF2).1; have h2 := gw b ⟨i, hi, hb⟩; omega) (own_base ho b4)
  have hl : (es.take t ++ el :: es.drop t).length = es.length + 1 := by simp; omega
  have hmm : (es.take t ++ el :: es.drop t).map Elt.m = R.take t ++ m :: R.drop t := by rw [List.map_append, List.map_cons, List.map_take, List.map_drop, hem, he]
  have no := nrow_own n6
  rw [hl, hmm] at no
  exact ⟨by rw [e1]; exact no, (below_seq B4 B5).grown hg (by have := B5.size; omega) (fun b hb => by have := (h5.lt b hb).1; omega)⟩
theorem BlockSOwn.belowS {lo hi : Nat} {c : Value} {l : List BlkM} {w w' : World} (h : BlockSOwn lo hi [c] l w) (hb : Below w.heap.size w w') : BlockSOwn lo hi [c] l w' := by
  obtain ⟨F, h1, h2⟩ := h
  exact ⟨F, blockS_ong.sup h1 (fun b hF => hb.block b (blockS_ong.at_ h1 b hF).2), h2⟩
theorem BlockSOwn.below' {lo hi : Nat} {c : Value} {l : List BlkM} {w w' : World} (h : BlockSOwn lo hi [c] l w) (hb : Below w.heap.size w w') : BlockSOwn lo hi [c] l w' := h.belowS hb
set_option maxHeartbeats 4000000 in
theorem specStashPut (c : Value) (l : List BlkM) (c0 c1 c2 : Value) (m : BlkM) (z v : Int) (w : World) (h : BlockSIn [c] l w) (hm : BlockIn [c0, c1, c2] m w) (hs : szBlockS l ≤ 1048576) (hsb : szBlock m ≤ 1048576) : Calls Try.prog 13 #[c, .agg #[c0, c1, c2], .int .i64 z, .int .i64 v] w fun e w' => ∃ r, e = .returned (.tuple #[r, .bool (sPutB l m z v)]) ∧ BlockSOwn w.heap.size w'.heap.size [r] (sPutM l m z v) w' ∧ Below w.heap.size w w' := by
  obtain ⟨x, xc, rfl, rfl, rfl, hxc, hxm, rx⟩ := blockIn_cells hm
  obtain ⟨aa, capa, _, rfl, _, hmax, _⟩ := blockSIn_shape h
  have SZ := Lib.hid (show szBlockS [m] ≤ 2097152 by unfold szBlock at hsb; unfold szBlockS; rw [sumD_cons]; show 1 + (m.data.length + 0) ≤ _; omega)
  have PB := Lib.hid (show sPutB l m z v = (stashOkB l z v && (blockOkB m z v && !decide ((withoutL l m.id).length = 128))) from rfl)
  have PM := Lib.hid (show sPutM l m z v = if sPutB l m z v = true then insB m (withoutL l m.id) else [] from rfl)
  have BX := Lib.hid (below_box (Below.refl _ w) (.cells #[.int .i64 m.id, .int .i64 m.leaf, .slice x m.data.length xc] 26))
  have OK := Lib.hid (uSpecStashOk _ l z v _ (blockS_rdg.below h BX.out))
  have BO := Lib.hid (fun w' => specBlockOk m x xc z v w' hxm)
  have WO := Lib.hid (fun w' (hb : Below w.heap.size w w') => uSpecWithoutS _ l m.id w' hs (blockS_rdg.below h hb))
  have BL := Lib.hid (fun w' g (hb : Below w.heap.size w w') (hh : w'.heap[g]? = some (.cells #[.int .i64 m.id, .int .i64 m.leaf, .slice x m.data.length xc] 26 (0, 0))) => (show BlockSIn [.slice (some ⟨g, 0, none⟩) 1 1] [m] w' from row_blk1 (Nat.le_refl _) (cur_cell hh 0) (cur_cell hh 1) (cur_cell hh 2) (block_rdg.below hm hb)))
  have HX := Lib.hid (alloc_at w (.cells #[.int .i64 m.id, .int .i64 m.leaf, .slice x m.data.length xc] 26) _ rfl)
  have WL := withoutL_le l m.id
  have hln : l.length ≤ 1048576 := by unfold szBlockS at hs; omega
  unfold maxLen at hmax hxm
  clear h hm rx hs hsb
  obtain ⟨W1, hW1⟩ : ∃ W1, W1 = w.alloc (.cells #[.int .i64 m.id, .int .i64 m.leaf, .slice x m.data.length xc] 26) := ⟨_, rfl⟩
  rw [← hW1] at BX OK HX
  have CL := Lib.hid (fun w' (hb : Below W1.heap.size W1 w') => (show w'.cell? ⟨w.heap.size, 0, none⟩ = some (.int .i64 m.id) ∧ w'.cell? ⟨w.heap.size, 1, none⟩ = some (.int .i64 m.leaf) ∧ w'.cell? ⟨w.heap.size, 2, none⟩ = some (.slice x m.data.length xc) from ⟨cur_cell (kept_block HX.out hb) 0, cur_cell (kept_block HX.out hb) 1, cur_cell (kept_block HX.out hb) 2⟩))
  have INS := Lib.hid (insB_at m (withoutL l m.id))
  have CLT := Lib.hid (fun k => @cntLess_lt (withoutL l m.id) m.id k)
  have CST := Lib.hid (@cntLess_stop (withoutL l m.id) m.id)
  have CLE := cntLess_le (withoutL l m.id) m.id
  have EM : m = ⟨m.id, m.leaf, m.data⟩ := rfl
  obtain ⟨zi, hzi⟩ : ∃ zi, m.id = zi := ⟨_, rfl⟩
  obtain ⟨zf, hzf⟩ : ∃ zf, m.leaf = zf := ⟨_, rfl⟩
  obtain ⟨n, hn⟩ : ∃ n, m.data.length = n := ⟨_, rfl⟩
  have MC := Lib.hid (And.intro hzi (And.intro hzf hn))
  obtain ⟨R, hR⟩ : ∃ R, withoutL l m.id = R := ⟨_, rfl⟩
  rw [hR] at PB PM INS CLT CST CLE WL
  rw [hzi] at hR
  rw [hzi, hzf, hn] at BO BL CL hW1
  rw [hzi] at WO INS CLT CST CLE
  rw [hR] at WO
  clear HX EM hxc hR
  rw [hn] at hxm ⊢
  rw [hzi, hzf]
  clear hzi hzf
  obtain ⟨t, ht⟩ : ∃ t, cntLess R zi = t := ⟨_, rfl⟩
  rw [ht] at INS CLT CST CLE
  clear ht hn
  cases hok : stashOkB l z v
  · have E := Lib.hid (show sPutB l m z v = false by rw [PB.out, hok]; rfl)
    have E2 := Lib.hid (show sPutM l m z v = [] by rw [PM.out, E.out]; rfl)
    rw [hok] at OK
    clear hok
    go_enter Try.func13, Try.ntmps13
    go_wp2_with fail
    rw [← hW1]
    clear hW1
    refine OK.out.mono ?_
    rintro e w2 ⟨rfl, hb⟩
    have B2 := Lib.hid (below_seq BX.out hb)
    clear hb OK
    go_wp2
    exact bodyPost_ret (v := .tuple #[.slice none 0 0, .bool false]) (by simp [results, Try.results13, go_sem]) rfl ⟨_, by rw [E.out], by rw [E2.out]; exact BlockSOwn.nil _ _ _, B2.out⟩
  rw [hok] at OK PB
  clear hok
  cases hbo : blockOkB m z v
  · have E := Lib.hid (show sPutB l m z v = false by rw [PB.out, hbo]; rfl)
    have E2 := Lib.hid (show sPutM l m z v = [] by rw [PM.out, E.out]; rfl)
    rw [hbo] at BO
    clear hbo
    go_enter Try.func13, Try.ntmps13
    go_wp2_with fail
    rw [← hW1]
    clear hW1
    refine OK.out.mono ?_
    rintro e w2 ⟨rfl, hb⟩
    have B2 := Lib.hid (below_seq BX.out hb)
    obtain ⟨t0, t1, t2⟩ := CL.out w2 hb
    clear hb OK
    go_wp2_with fail
    refine (BO.out _).mono ?_
    rintro e w3 ⟨rfl, hb⟩
    have B3 := Lib.hid (below_seq B2.out hb)
    clear hb B2 t0 t1 t2
    go_wp2
    exact bodyPost_ret (v := .tuple #[.slice none 0 0, .bool false]) (by simp [results, Try.results13, go_sem]) rfl ⟨_, by rw [E.out], by rw [E2.out]; exact BlockSOwn.nil _ _ _, B3.out⟩
  rw [hbo] at BO PB
  clear hbo
  go_enter Try.func13, Try.ntmps13
  go_wp2_with fail
  rw [← hW1]
  clear hW1
  refine OK.out.mono ?_
  rintro e w2 ⟨rfl, hb⟩
  have B2 := Lib.hid hb
  obtain ⟨t0, t1, t2⟩ := CL.out w2 hb
  clear hb OK
  go_wp2_with fail
  refine (BO.out _).mono ?_
  rintro e w3 ⟨rfl, hb⟩
  have B3 := Lib.hid (below_seq B2.out hb)
  clear hb B2 t0 t1 t2
  obtain ⟨t0, t1, t2⟩ := CL.out w3 B3.out
  have WC := Lib.hid (WO.out w3 (below_seq BX.out B3.out))
  clear WO BO
  go_wp2_with fail
  refine WC.out.mono ?_
  rintro e w4 ⟨rg, rc, rfl, ho, hb⟩
  have B4 := Lib.hid (below_seq B3.out hb)
  have RO := Lib.hid ho
  have HS3 := Lib.hid (show w.heap.size ≤ w3.heap.size from Nat.le_trans BX.out.size B3.out.size)
  clear hb ho B3 t0 t1 t2 WC
  by_cases h128 : R.length = 128
  · have E := Lib.hid (show sPutB l m z v = false by rw [PB.out, h128]; rfl)
    have E2 := Lib.hid (show sPutM l m z v = [] by rw [PM.out, E.out]; rfl)
    have BW := Lib.hid (below_seq BX.out B4.out)
    have hbe : ((R.length : Int) == 128) = true := by simp; omega
    go_wp2
    exact bodyPost_ret (v := .tuple #[.slice none 0 0, .bool false]) (by simp [results, Try.results13, go_sem]) rfl ⟨_, by rw [E.out], by rw [E2.out]; exact BlockSOwn.nil _ _ _, BW.out⟩
  have E := Lib.hid (show sPutB l m z v = true by rw [PB.out, decide_eq_false h128]; rfl)
  have E2 := Lib.hid (show sPutM l m z v = R.take t ++ m :: R.drop t by rw [PM.out, E.out, INS.out]; rfl)
  have hbe : ((R.length : Int) == 128) = false := by simp; omega
  clear PB PM INS
  obtain ⟨F0, ⟨ra', rc', es, G, hcs, hem, hnr, hF0⟩, hhi⟩ := RO.out
  have hel : es.length = R.length := by rw [← hem]; simp
  simp at hcs
  obtain ⟨rfl, -, rfl⟩ := hcs
  have NR := Lib.hid hnr
  have HEM := Lib.hid hem
  have HL := Lib.hid hel
  have QC := Lib.hid (show ∀ k (hk : k < R.length) w', Below w4.heap.size w4 w' → w'.cell? ⟨rg, k * 3, none⟩ = some (.int .i64 R[k].id) from fun k hk w' hb => by
    obtain ⟨g, cap, x', z', e, _, _, q0, _⟩ := (RO.out.below' hb).blk hk
    simp at e
    obtain ⟨rfl, _⟩ := e
    exact q0)
  have hcap : R.length ≤ rc := by have := own_cap hnr.row; omega
  clear hnr hem hF0 hhi hel RO
  have CU := Lib.hid (show ∀ k (hk : k < R.length), k ≤ t → decide (R[k].id < zi) = decide (k < t) from fun k hk hkt => by
    by_cases h : k < t
    · obtain ⟨_, h2⟩ := CLT.out k h
      rw [decide_eq_true h2, decide_eq_true h]
    · have e : k = t := by omega
      subst e
      rw [decide_eq_false (by have := CST.out hk; omega), decide_eq_false h])
  clear CLT CST
  go_wp2_with fail
  go_loopg [11] t (fun kk iv wr => ∃ k : Nat, k ≤ t ∧ t - k = kk ∧ iv = .int .i64 k ∧ Hid (Below w4.heap.size w4 wr))
  case atStart => exact ⟨0, Nat.zero_le _, rfl, rfl, Lib.hid (Below.refl _ _)⟩
  case round =>
    obtain ⟨k, hk, hkk, rfl, HB⟩ := hrel
    go_upto_region 7 with fail
    go_cut [45] (fun v wx => v = .bool (decide (k < t)) ∧ Hid (Below w4.heap.size w4 wx))
    case first =>
      have HX := Lib.hid (below_seq HB.out (below_drew (Below.refl wr.heap.size wr)))
      obtain ⟨u0, u1, u2⟩ := CL.out wr (below_seq B4.out HB.out)
      by_cases hkr : k < R.length
      · have g1 : decide ((k : Int) < (R.length : Int)) = true := by simp; omega
        have hk0 : (0 : Int) ≤ (k : Int) := by omega
        have hk1 : (k : Int) < (R.length : Int) := by omega
        have q0 := QC.out k hkr wr HB.out
        have hd := CU.out k hkr hk
        obtain ⟨y, hy⟩ : ∃ y, R[k].id = y := ⟨_, rfl⟩
        obtain ⟨b, hb⟩ : ∃ b, decide (y < zi) = b := ⟨_, rfl⟩
        rw [hy] at q0 hd
        rw [hb] at hd
        have HD := Lib.hid hd
        clear hy hd
        go_quiet (fail)
        go_wp2_with fail
        go_meet
        exact ⟨by first | rw [← HD.out] | rw [← HD.out, hb], Lib.hid (below_seq HB.out (belowN _))⟩
      · have g1 : decide ((k : Int) < (R.length : Int)) = false := by simp; omega
        have hk1 : ¬ (k : Int) < (R.length : Int) := by omega
        have hkt : decide (k < t) = false := by simp; omega
        have HD := Lib.hid hkt
        clear hkt
        go_quiet (fail)
        go_wp2_with fail
        go_meet
        exact ⟨by rw [HD.out], Lib.hid (below_seq HB.out (belowN _))⟩
    case rest =>
      obtain ⟨rfl, HH⟩ := hcut
      clear HB
      by_cases hkt : k < t
      · rw [decide_eq_true hkt]
        go_wp2
        go_roundg (t - (k + 1))
        case measure => omega
        case rel => exact ⟨k + 1, by omega, rfl, by go_num, HH⟩
      · rw [decide_eq_false hkt]
        have hk2 : k = t := by omega
        subst hk2
        have B5 := Lib.hid (below_seq B4.out HH.out)
        have B6 := Lib.hid (below_seq BX.out B5.out)
        have NC := Lib.hid (NR.out.below block_ong HH.out)
        have RT := Lib.hid (fun w' (hb : Below wc.heap.size wc w') => (show Row w' (some ⟨rg, 0, none⟩) (flatG eltL (es.take k)) from by rw [flatG_take eltL_len]; exact row_take ((Row.of_own NC.out.row).below hb)))
        have RD := Lib.hid (fun w' (hb : Below wc.heap.size wc w') => (show Row w' (some ⟨rg, k * 3, none⟩) (flatG eltL (es.drop k)) from by rw [flatG_drop eltL_len]; have := row_drop (k := k * 3) ((Row.of_own NC.out.row).below hb); rw [Nat.zero_add] at this; exact this))
        have hk0 : (0 : Int) ≤ (k : Int) := by omega
        have hkR : (k : Int) ≤ (R.length : Int) := by omega
        have hkc : (k : Int) ≤ (rc : Int) := by omega
        clear NR QC CU HH B4 hkk
        generalize wc = wd at *
        go_wp2_with fail
        go_upto_region 9 with fail
        go_cut [12] (fun v wx => ∃ a5 c5, v = .slice a5 (k + 1) c5 ∧ Hid (PutMid wd m k es a5 c5 wx))
        case first =>
          refine wp_region_held_drew (S := (fun w' => w'.cell? ⟨w.heap.size, 0, none⟩ = some (.int .i64 zi) ∧ w'.cell? ⟨w.heap.size, 1, none⟩ = some (.int .i64 zf) ∧ w'.cell? ⟨w.heap.size, 2, none⟩ = some (.slice x n xc))) (by kernel_rfl) (CL.out _ (below_seq B5.out (below_drew (Below.refl wd.heap.size wd)))) (fun hHeld => ?_)
          refine wpAnyH_take (i := 1) (oi := ?on_1) (v := ?vn_1) ?hin_1 (by kernel_rfl) (by kernel_rfl) (by kernel_rfl) ?hqn_1 ?hyn_1 (by assumption) ?rn_1
          case hin_1 => (simp only [List.getElem?_toArray, List.getElem?_cons_succ, List.getElem?_cons_zero]; rfl)
          case hqn_1 => exact fun _ _ _ h => h
          case hyn_1 =>
            refine Or.inl ⟨by rfl, ?_⟩; intro wq hSw; (try dsimp only at hSw); go_simp; (try with_reducible rfl); done
          try simp only [Act.put, List.setIfInBounds_toArray, List.set_cons_zero, List.set_cons_succ]
          refine wpAnyH_take (i := 2) (oi := ?on_2) (v := ?vn_2) ?hin_2 (by kernel_rfl) (by kernel_rfl) (by kernel_rfl) ?hqn_2 ?hyn_2 (by assumption) ?rn_2
          case hin_2 => (simp only [List.getElem?_toArray, List.getElem?_cons_succ, List.getElem?_cons_zero]; rfl)
          case hqn_2 => exact fun _ _ _ h => h
          case hyn_2 =>
            refine Or.inl ⟨by rfl, ?_⟩; intro wq hSw; (try dsimp only at hSw); go_simp; (try with_reducible rfl); done
          try simp only [Act.put, List.setIfInBounds_toArray, List.set_cons_zero, List.set_cons_succ]
          refine wpAnyH_take (i := 3) (oi := ?on_3) (v := ?vn_3) ?hin_3 (by kernel_rfl) (by kernel_rfl) (by kernel_rfl) ?hqn_3 ?hyn_3 (by assumption) ?rn_3
          case hin_3 => (simp only [List.getElem?_toArray, List.getElem?_cons_succ, List.getElem?_cons_zero]; rfl)
          case hqn_3 => exact fun _ _ _ h => h
          case hyn_3 =>
            refine Or.inl ⟨by rfl, ?_⟩; intro wq hSw; (try dsimp only at hSw); go_simp; (try with_reducible rfl); done
          try simp only [Act.put, List.setIfInBounds_toArray, List.set_cons_zero, List.set_cons_succ]
          refine wpAnyH_take (i := 5) (oi := ?on_5) (v := ?vn_5) ?hin_5 (by kernel_rfl) (by kernel_rfl) (by kernel_rfl) ?hqn_5 ?hyn_5 (by assumption) ?rn_5
          case hin_5 => (simp only [List.getElem?_toArray, List.getElem?_cons_succ, List.getElem?_cons_zero]; rfl)
          case hqn_5 => exact fun _ _ _ h => h
          case hyn_5 =>
            refine Or.inl ⟨by rfl, ?_⟩; intro wq hSw; (try dsimp only at hSw); go_simp; (try with_reducible rfl); done
          try simp only [Act.put, List.setIfInBounds_toArray, List.set_cons_zero, List.set_cons_succ]
          have BE0 := Lib.hid (below_drew (Below.refl wd.heap.size wd))
          refine wpAnyH_ready (rs := [0, 6]) (by kernel_rfl) (by simp) ?_
          refine AllReadyH.cons (by simp only [List.getElem?_toArray, List.getElem?_cons_succ, List.getElem?_cons_zero]; rfl) (fun K hK => ?xp) (AllReadyH.cons (by simp only [List.getElem?_toArray, List.getElem?_cons_succ, List.getElem?_cons_zero]; rfl) (fun K hK => ?yp) AllReadyH.nil)
          case xp =>
            have bxpx := below_box (Below.refl wd.drew.heap.size wd.drew) (.cells #[] 26)
            have BEpx := Lib.hid (below_seq BE0.out bxpx)
            have OApx : Hid (World.ownsRow (wd.drew.alloc (.cells #[] 26)) wd.heap.size 26 3 (.slice (some ⟨wd.heap.size, 0, none⟩) 0 0) 0 []) := Lib.hid (by have := World.ownsRow_made (base := wd.heap.size) (e := 26) (size := 3) wd.drew #[] 0 BE0.out.size (by unfold maxLen; omega) rfl; simpa using this)
            clear bxpx
            go_simp
            refine hK.out _ _ (CL.out _ (below_seq B5.out BEpx.out)) (fun hH1 => ?_)
            clear hK K hHeld
            try simp only [Act.put, List.setIfInBounds_toArray, List.set_cons_zero, List.set_cons_succ]
            refine wpAnyH_ready (rs := [4, 6]) (by kernel_rfl) (by simp) ?_
            refine AllReadyH.cons (by simp only [List.getElem?_toArray, List.getElem?_cons_succ, List.getElem?_cons_zero]; rfl) (fun K hK => ?xpx) (AllReadyH.cons (by simp only [List.getElem?_toArray, List.getElem?_cons_succ, List.getElem?_cons_zero]; rfl) (fun K hK => ?ypx) AllReadyH.nil)
            case xpx =>
              refine step_app_rowS (by rfl) _ _ 24 rfl 26 _ 3 40 Try.underlying24 Try.infoBlk rfl (by omega) wd.heap.size 0 (.slice (some ⟨wd.heap.size, 0, none⟩) 0 0) [] (by rfl) OApx.out (some ⟨rg, 0, none⟩) k rc (flatG eltL (es.take k)) (by rfl) (by rw [flatG_len eltL_len, List.length_take, HL.out, Nat.min_eq_left CLE]) (RT.out _ BEpx.out) (fun u hu => flatG_one eltL_one _ u hu) (by unfold maxLen; omega) (by omega) BEpx.out.size ?_
              intro vpxx wpxx hopxx hgpxx
              rw [Nat.zero_add, List.nil_append] at hopxx
              obtain ⟨avpxx, cvpxx, rfl⟩ := own_shape hopxx
              have BEpxx := Lib.hid (BEpx.out.grown hgpxx BEpx.out.size (fun g hg => by cases hg; exact (OApx.out.lt _ rfl).1))
              have OVpxx := Lib.hid hopxx
              clear hopxx hgpxx
              refine hK.out _ _ (CL.out _ (below_seq B5.out BEpxx.out)) (fun hH3 => ?_)
              clear hK K hH1
              try simp only [Act.put, List.setIfInBounds_toArray, List.set_cons_zero, List.set_cons_succ]
              refine wpAnyH_ready (rs := [6]) (by kernel_rfl) (by simp) ?_
              refine AllReadyH.cons (by simp only [List.getElem?_toArray, List.getElem?_cons_succ, List.getElem?_cons_zero]; rfl) (fun K hK => ?_) AllReadyH.nil
              have bxpxxy := below_box (Below.refl wpxx.heap.size wpxx) (.cells #[.int .i64 zi, .int .i64 zf, .slice x n xc] 26)
              have BEpxxy := Lib.hid (below_seq BEpxx.out bxpxxy)
              have HBpxxy : Hid ((World.heap (wpxx.alloc (.cells #[.int .i64 zi, .int .i64 zf, .slice x n xc] 26)))[wpxx.heap.size]? = some (.cells #[.int .i64 zi, .int .i64 zf, .slice x n xc] 26 (0, 0))) := Lib.hid (alloc_at wpxx (.cells #[.int .i64 zi, .int .i64 zf, .slice x n xc] 26) _ (by simp))
              have OVpxxy := Lib.hid (own_below OVpxx.out bxpxxy)
              clear bxpxxy
              go_simp
              refine hK.out _ _ (CL.out _ (below_seq B5.out BEpxxy.out)) (fun hH5 => ?_)
              clear hK K hH3
              try simp only [Act.put, List.setIfInBounds_toArray, List.set_cons_zero, List.set_cons_succ]
              refine wpAnyH_ready (rs := [7]) (by kernel_rfl) (by simp) ?_
              refine AllReadyH.cons (by simp only [List.getElem?_toArray, List.getElem?_cons_succ, List.getElem?_cons_zero]; rfl) (fun K hK => ?_) AllReadyH.nil
              have BIpxxyy := Lib.hid (BL.out _ (wpxx.heap.size) (below_seq B6.out BEpxxy.out) HBpxxy.out)
              refine step_callW (wpxx.alloc (.cells #[.int .i64 zi, .int .i64 zf, .slice x n xc] 26)) rfl (by rfl) 52 _ _ rfl _ (by kernel_rfl) Try.call52 _ (uSpecCopyL _ _ _ SZ.out BIpxxyy.out) ?_
              rintro e wpxxyy ⟨cpxxyy, rfl, hopxxyy, hbpxxyy⟩
              refine ⟨_, rfl, ?_⟩
              have BEpxxyy := Lib.hid (below_seq BEpxxy.out hbpxxyy)
              have OBpxxyy := Lib.hid hopxxyy
              have OVpxxyy := Lib.hid (own_below OVpxxy.out hbpxxyy)
              clear hopxxyy hbpxxyy BIpxxyy
              refine hK.out _ _ (CL.out _ (below_seq B5.out BEpxxyy.out)) (fun hH6 => ?_)
              clear hK K hH5
              try simp only [Act.put, List.setIfInBounds_toArray, List.set_cons_zero, List.set_cons_succ]
              refine wpAnyH_ready (rs := [8]) (by kernel_rfl) (by simp) ?_
              refine AllReadyH.cons (by simp only [List.getElem?_toArray, List.getElem?_cons_succ, List.getElem?_cons_zero]; rfl) (fun K hK => ?_) AllReadyH.nil
              obtain ⟨gB, kB, y, yc, hcB, hRB, hONE, XF⟩ := put_mid (es := es) (t := k) MC.out.1 MC.out.2.1 MC.out.2.2 BEpxxyy.out OVpxxyy.out OBpxxyy.out BEpxxy.out.size
              subst hcB
              have XF := Lib.hid XF
              refine step_app_rowS (by rfl) _ _ 24 rfl 26 _ 3 40 Try.underlying24 Try.infoBlk rfl (by omega) wd.heap.size k (.slice avpxx k cvpxx) (flatG eltL (es.take k)) (by rfl) OVpxxyy.out (some ⟨gB, 0, none⟩) 1 kB [.int .i64 zi, .int .i64 zf, .slice y n yc] (by rfl) rfl hRB hONE (by unfold maxLen; omega) (by omega) BEpxxyy.out.size ?_
              intro v5 w5 ho5 hg5
              obtain ⟨a5, c5, rfl⟩ := own_shape ho5
              have Z := Lib.hid (XF.out a5 c5 w5 ho5 hg5)
              clear ho5 hg5 hRB hONE XF
              refine hK.out _ _ (CL.out _ (below_seq B5.out Z.out.2)) (fun hH7 => ?_)
              clear hK K hH6
              try simp only [Act.put, List.setIfInBounds_toArray, List.set_cons_zero, List.set_cons_succ]
              refine wpAnyH_ready (rs := [9]) (by kernel_rfl) (by simp) ?_
              refine AllReadyH.cons (by simp only [List.getElem?_toArray, List.getElem?_cons_succ, List.getElem?_cons_zero]; rfl) (fun K hK => ?_) AllReadyH.nil
              go_simp
              refine hK.out _ _ (CL.out _ (below_seq B5.out Z.out.2)) (fun hH8 => ?_)
              clear hK K hH7
              try simp only [Act.put, List.setIfInBounds_toArray, List.set_cons_zero, List.set_cons_succ]
              refine wpAnyH_done (by kernel_rfl) ?_ _
              go_wp2_with fail
              go_meet
              exact ⟨_, _, rfl, Z⟩
            case ypx =>
              have bxpxy := below_box (Below.refl (wd.drew.alloc (.cells #[] 26)).heap.size (wd.drew.alloc (.cells #[] 26))) (.cells #[.int .i64 zi, .int .i64 zf, .slice x n xc] 26)
              have BEpxy := Lib.hid (below_seq BEpx.out bxpxy)
              have HBpxy : Hid ((World.heap ((wd.drew.alloc (.cells #[] 26)).alloc (.cells #[.int .i64 zi, .int .i64 zf, .slice x n xc] 26)))[wd.heap.size + 1]? = some (.cells #[.int .i64 zi, .int .i64 zf, .slice x n xc] 26 (0, 0))) := Lib.hid (alloc_at (wd.drew.alloc (.cells #[] 26)) (.cells #[.int .i64 zi, .int .i64 zf, .slice x n xc] 26) _ (by simp))
              have OApxy := Lib.hid (own_below OApx.out bxpxy)
              clear bxpxy
              go_simp
              refine hK.out _ _ (CL.out _ (below_seq B5.out BEpxy.out)) (fun hH4 => ?_)
              clear hK K hH1
              try simp only [Act.put, List.setIfInBounds_toArray, List.set_cons_zero, List.set_cons_succ]
              refine wpAnyH_ready (rs := [4]) (by kernel_rfl) (by simp) ?_
              refine AllReadyH.cons (by simp only [List.getElem?_toArray, List.getElem?_cons_succ, List.getElem?_cons_zero]; rfl) (fun K hK => ?_) AllReadyH.nil
              refine step_app_rowS (by rfl) _ _ 24 rfl 26 _ 3 40 Try.underlying24 Try.infoBlk rfl (by omega) wd.heap.size 0 (.slice (some ⟨wd.heap.size, 0, none⟩) 0 0) [] (by rfl) OApxy.out (some ⟨rg, 0, none⟩) k rc (flatG eltL (es.take k)) (by rfl) (by rw [flatG_len eltL_len, List.length_take, HL.out, Nat.min_eq_left CLE]) (RT.out _ BEpxy.out) (fun u hu => flatG_one eltL_one _ u hu) (by unfold maxLen; omega) (by omega) BEpxy.out.size ?_
              intro vpxyx wpxyx hopxyx hgpxyx
              rw [Nat.zero_add, List.nil_append] at hopxyx
              obtain ⟨avpxyx, cvpxyx, rfl⟩ := own_shape hopxyx
              have BEpxyx := Lib.hid (BEpxy.out.grown hgpxyx BEpxy.out.size (fun g hg => by cases hg; exact (OApxy.out.lt _ rfl).1))
              have OVpxyx := Lib.hid hopxyx
              have HBpxyx := Lib.hid ((hgpxyx.block _ (cur_lt HBpxy.out) (by intro e; have e := Option.some.inj e; dsimp only at e; omega)).trans HBpxy.out)
              clear hopxyx hgpxyx
              refine hK.out _ _ (CL.out _ (below_seq B5.out BEpxyx.out)) (fun hH9 => ?_)
              clear hK K hH4
              try simp only [Act.put, List.setIfInBounds_toArray, List.set_cons_zero, List.set_cons_succ]
              refine wpAnyH_ready (rs := [7]) (by kernel_rfl) (by simp) ?_
              refine AllReadyH.cons (by simp only [List.getElem?_toArray, List.getElem?_cons_succ, List.getElem?_cons_zero]; rfl) (fun K hK => ?_) AllReadyH.nil
              have BIpxyxy := Lib.hid (BL.out _ (wd.heap.size + 1) (below_seq B6.out BEpxyx.out) HBpxyx.out)
              refine step_callW wpxyx rfl (by rfl) 52 _ _ rfl _ (by kernel_rfl) Try.call52 _ (uSpecCopyL _ _ _ SZ.out BIpxyxy.out) ?_
              rintro e wpxyxy ⟨cpxyxy, rfl, hopxyxy, hbpxyxy⟩
              refine ⟨_, rfl, ?_⟩
              have BEpxyxy := Lib.hid (below_seq BEpxyx.out hbpxyxy)
              have OBpxyxy := Lib.hid hopxyxy
              have OVpxyxy := Lib.hid (own_below OVpxyx.out hbpxyxy)
              clear hopxyxy hbpxyxy BIpxyxy
              refine hK.out _ _ (CL.out _ (below_seq B5.out BEpxyxy.out)) (fun hH10 => ?_)
              clear hK K hH9
              try simp only [Act.put, List.setIfInBounds_toArray, List.set_cons_zero, List.set_cons_succ]
              refine wpAnyH_ready (rs := [8]) (by kernel_rfl) (by simp) ?_
              refine AllReadyH.cons (by simp only [List.getElem?_toArray, List.getElem?_cons_succ, List.getElem?_cons_zero]; rfl) (fun K hK => ?_) AllReadyH.nil
              obtain ⟨gB, kB, y, yc, hcB, hRB, hONE, XF⟩ := put_mid (es := es) (t := k) MC.out.1 MC.out.2.1 MC.out.2.2 BEpxyxy.out OVpxyxy.out OBpxyxy.out BEpxyx.out.size
              subst hcB
              have XF := Lib.hid XF
              refine step_app_rowS (by rfl) _ _ 24 rfl 26 _ 3 40 Try.underlying24 Try.infoBlk rfl (by omega) wd.heap.size k (.slice avpxyx k cvpxyx) (flatG eltL (es.take k)) (by rfl) OVpxyxy.out (some ⟨gB, 0, none⟩) 1 kB [.int .i64 zi, .int .i64 zf, .slice y n yc] (by rfl) rfl hRB hONE (by unfold maxLen; omega) (by omega) BEpxyxy.out.size ?_
              intro v5 w5 ho5 hg5
              obtain ⟨a5, c5, rfl⟩ := own_shape ho5
              have Z := Lib.hid (XF.out a5 c5 w5 ho5 hg5)
              clear ho5 hg5 hRB hONE XF
              refine hK.out _ _ (CL.out _ (below_seq B5.out Z.out.2)) (fun hH11 => ?_)
              clear hK K hH10
              try simp only [Act.put, List.setIfInBounds_toArray, List.set_cons_zero, List.set_cons_succ]
              refine wpAnyH_ready (rs := [9]) (by kernel_rfl) (by simp) ?_
              refine AllReadyH.cons (by simp only [List.getElem?_toArray, List.getElem?_cons_succ, List.getElem?_cons_zero]; rfl) (fun K hK => ?_) AllReadyH.nil
              go_simp
              refine hK.out _ _ (CL.out _ (below_seq B5.out Z.out.2)) (fun hH12 => ?_)
              clear hK K hH11
              try simp only [Act.put, List.setIfInBounds_toArray, List.set_cons_zero, List.set_cons_succ]
              refine wpAnyH_done (by kernel_rfl) ?_ _
              go_wp2_with fail
              go_meet
              exact ⟨_, _, rfl, Z⟩
          case yp =>
            have bxpy := below_box (Below.refl wd.drew.heap.size wd.drew) (.cells #[.int .i64 zi, .int .i64 zf, .slice x n xc] 26)
            have BEpy := Lib.hid (below_seq BE0.out bxpy)
            have HBpy : Hid ((World.heap (wd.drew.alloc (.cells #[.int .i64 zi, .int .i64 zf, .slice x n xc] 26)))[wd.heap.size]? = some (.cells #[.int .i64 zi, .int .i64 zf, .slice x n xc] 26 (0, 0))) := Lib.hid (alloc_at wd.drew (.cells #[.int .i64 zi, .int .i64 zf, .slice x n xc] 26) _ (by simp))
            clear bxpy
            go_simp
            refine hK.out _ _ (CL.out _ (below_seq B5.out BEpy.out)) (fun hH2 => ?_)
            clear hK K hHeld
            try simp only [Act.put, List.setIfInBounds_toArray, List.set_cons_zero, List.set_cons_succ]
            refine wpAnyH_ready (rs := [0]) (by kernel_rfl) (by simp) ?_
            refine AllReadyH.cons (by simp only [List.getElem?_toArray, List.getElem?_cons_succ, List.getElem?_cons_zero]; rfl) (fun K hK => ?_) AllReadyH.nil
            have bxpyx := below_box (Below.refl (wd.drew.alloc (.cells #[.int .i64 zi, .int .i64 zf, .slice x n xc] 26)).heap.size (wd.drew.alloc (.cells #[.int .i64 zi, .int .i64 zf, .slice x n xc] 26))) (.cells #[] 26)
            have BEpyx := Lib.hid (below_seq BEpy.out bxpyx)
            have OApyx : Hid (World.ownsRow ((wd.drew.alloc (.cells #[.int .i64 zi, .int .i64 zf, .slice x n xc] 26)).alloc (.cells #[] 26)) wd.heap.size 26 3 (.slice (some ⟨wd.heap.size + 1, 0, none⟩) 0 0) 0 []) := Lib.hid (by have := World.ownsRow_made (base := wd.heap.size) (e := 26) (size := 3) (wd.drew.alloc (.cells #[.int .i64 zi, .int .i64 zf, .slice x n xc] 26)) #[] 0 BEpy.out.size (by unfold maxLen; omega) rfl; simpa using this)
            have HBpyx := Lib.hid (kept_block HBpy.out bxpyx)
            clear bxpyx
            go_simp
            refine hK.out _ _ (CL.out _ (below_seq B5.out BEpyx.out)) (fun hH13 => ?_)
            clear hK K hH2
            try simp only [Act.put, List.setIfInBounds_toArray, List.set_cons_zero, List.set_cons_succ]
            refine wpAnyH_ready (rs := [4]) (by kernel_rfl) (by simp) ?_
            refine AllReadyH.cons (by simp only [List.getElem?_toArray, List.getElem?_cons_succ, List.getElem?_cons_zero]; rfl) (fun K hK => ?_) AllReadyH.nil
            refine step_app_rowS (by rfl) _ _ 24 rfl 26 _ 3 40 Try.underlying24 Try.infoBlk rfl (by omega) wd.heap.size 0 (.slice (some ⟨wd.heap.size + 1, 0, none⟩) 0 0) [] (by rfl) OApyx.out (some ⟨rg, 0, none⟩) k rc (flatG eltL (es.take k)) (by rfl) (by rw [flatG_len eltL_len, List.length_take, HL.out, Nat.min_eq_left CLE]) (RT.out _ BEpyx.out) (fun u hu => flatG_one eltL_one _ u hu) (by unfold maxLen; omega) (by omega) BEpyx.out.size ?_
            intro vpyxx wpyxx hopyxx hgpyxx
            rw [Nat.zero_add, List.nil_append] at hopyxx
            obtain ⟨avpyxx, cvpyxx, rfl⟩ := own_shape hopyxx
            have BEpyxx := Lib.hid (BEpyx.out.grown hgpyxx BEpyx.out.size (fun g hg => by cases hg; exact (OApyx.out.lt _ rfl).1))
            have OVpyxx := Lib.hid hopyxx
            have HBpyxx := Lib.hid ((hgpyxx.block _ (cur_lt HBpyx.out) (by intro e; have e := Option.some.inj e; dsimp only at e; omega)).trans HBpyx.out)
            clear hopyxx hgpyxx
            refine hK.out _ _ (CL.out _ (below_seq B5.out BEpyxx.out)) (fun hH14 => ?_)
            clear hK K hH13
            try simp only [Act.put, List.setIfInBounds_toArray, List.set_cons_zero, List.set_cons_succ]
            refine wpAnyH_ready (rs := [7]) (by kernel_rfl) (by simp) ?_
            refine AllReadyH.cons (by simp only [List.getElem?_toArray, List.getElem?_cons_succ, List.getElem?_cons_zero]; rfl) (fun K hK => ?_) AllReadyH.nil
            have BIpyxxy := Lib.hid (BL.out _ (wd.heap.size) (below_seq B6.out BEpyxx.out) HBpyxx.out)
            refine step_callW wpyxx rfl (by rfl) 52 _ _ rfl _ (by kernel_rfl) Try.call52 _ (uSpecCopyL _ _ _ SZ.out BIpyxxy.out) ?_
            rintro e wpyxxy ⟨cpyxxy, rfl, hopyxxy, hbpyxxy⟩
            refine ⟨_, rfl, ?_⟩
            have BEpyxxy := Lib.hid (below_seq BEpyxx.out hbpyxxy)
            have OBpyxxy := Lib.hid hopyxxy
            have OVpyxxy := Lib.hid (own_below OVpyxx.out hbpyxxy)
            clear hopyxxy hbpyxxy BIpyxxy
            refine hK.out _ _ (CL.out _ (below_seq B5.out BEpyxxy.out)) (fun hH15 => ?_)
            clear hK K hH14
            try simp only [Act.put, List.setIfInBounds_toArray, List.set_cons_zero, List.set_cons_succ]
            refine wpAnyH_ready (rs := [8]) (by kernel_rfl) (by simp) ?_
            refine AllReadyH.cons (by simp only [List.getElem?_toArray, List.getElem?_cons_succ, List.getElem?_cons_zero]; rfl) (fun K hK => ?_) AllReadyH.nil
            obtain ⟨gB, kB, y, yc, hcB, hRB, hONE, XF⟩ := put_mid (es := es) (t := k) MC.out.1 MC.out.2.1 MC.out.2.2 BEpyxxy.out OVpyxxy.out OBpyxxy.out BEpyxx.out.size
            subst hcB
            have XF := Lib.hid XF
            refine step_app_rowS (by rfl) _ _ 24 rfl 26 _ 3 40 Try.underlying24 Try.infoBlk rfl (by omega) wd.heap.size k (.slice avpyxx k cvpyxx) (flatG eltL (es.take k)) (by rfl) OVpyxxy.out (some ⟨gB, 0, none⟩) 1 kB [.int .i64 zi, .int .i64 zf, .slice y n yc] (by rfl) rfl hRB hONE (by unfold maxLen; omega) (by omega) BEpyxxy.out.size ?_
            intro v5 w5 ho5 hg5
            obtain ⟨a5, c5, rfl⟩ := own_shape ho5
            have Z := Lib.hid (XF.out a5 c5 w5 ho5 hg5)
            clear ho5 hg5 hRB hONE XF
            refine hK.out _ _ (CL.out _ (below_seq B5.out Z.out.2)) (fun hH16 => ?_)
            clear hK K hH15
            try simp only [Act.put, List.setIfInBounds_toArray, List.set_cons_zero, List.set_cons_succ]
            refine wpAnyH_ready (rs := [9]) (by kernel_rfl) (by simp) ?_
            refine AllReadyH.cons (by simp only [List.getElem?_toArray, List.getElem?_cons_succ, List.getElem?_cons_zero]; rfl) (fun K hK => ?_) AllReadyH.nil
            go_simp
            refine hK.out _ _ (CL.out _ (below_seq B5.out Z.out.2)) (fun hH17 => ?_)
            clear hK K hH16
            try simp only [Act.put, List.setIfInBounds_toArray, List.set_cons_zero, List.set_cons_succ]
            refine wpAnyH_done (by kernel_rfl) ?_ _
            go_wp2_with fail
            go_meet
            exact ⟨_, _, rfl, Z⟩
        case rest =>
          obtain ⟨a5, c5, rfl, HM⟩ := hcut
          obtain ⟨⟨el, Fe, he, hF, h5⟩, hb5⟩ := HM.out
          have hel := HL.out
          have FIN := Lib.hid (fun v6 w6 ho hg => put_end (v6 := v6) (w6 := w6) NC.out HEM.out (by omega) B6.out HS3.out he hF h5 hb5 ho hg)
          rw [hel] at FIN
          have O5 := Lib.hid h5
          have R5 := Lib.hid (RD.out _ hb5)
          have S5 := hb5.size
          have LD := Lib.hid (show (flatG eltL (es.drop k)).length = (R.length - k) * 3 by rw [flatG_len eltL_len, List.length_drop, hel])
          clear HM he hF h5 hb5 RT RD NC hel
          by_cases hck : k = rc
          · subst hck
            have hRk : R.length - k = 0 := by omega
            have hkk2 : k - k = 0 := by omega
            go_wp2_with (at_builtin; go_must (refine wp_app_rowS rfl _ _ 24 rfl 26 _ 3 40 Try.underlying24 Try.infoBlk rfl (by omega) wd.heap.size (k + 1) (.slice a5 (k + 1) c5) (flatG eltL (es.take k) ++ el.cs) (by rfl) O5.out (some ⟨rg, 0, none⟩) 0 0 (flatG eltL (es.drop k)) (by rfl) (by rw [LD.out]; omega) (.inl (List.eq_nil_of_length_eq_zero (by rw [LD.out]; omega))) (fun u hu => flatG_one eltL_one _ u hu) (by unfold maxLen; omega) (by omega) S5 ?_); intro v6 w6 ho6 hg6; have ho6 : w6.ownsRow wd.heap.size 26 3 v6 (k + 1 + (R.length - k)) ((flatG eltL (es.take k) ++ el.cs) ++ flatG eltL (es.drop k)) := (by rw [hRk]; exact ho6); have Z := Lib.hid (FIN.out v6 w6 ho6 hg6); clear ho6 hg6 FIN O5 R5 LD)
            exact bodyPost_ret (v := .tuple #[v6, .bool true]) (by simp [results, Try.results13, go_sem]) rfl ⟨_, by rw [E.out], by rw [E2.out]; exact Z.out.1, Z.out.2⟩
          · have hck2 : ¬ rc = k := fun e => hck e.symm
            go_wp2_with (at_builtin; go_must (refine wp_app_rowS rfl _ _ 24 rfl 26 _ 3 40 Try.underlying24 Try.infoBlk rfl (by omega) wd.heap.size (k + 1) (.slice a5 (k + 1) c5) (flatG eltL (es.take k) ++ el.cs) (by rfl) O5.out (some ⟨rg, k * 3, none⟩) (R.length - k) (rc - k) (flatG eltL (es.drop k)) (by rfl) LD.out R5.out (fun u hu => flatG_one eltL_one _ u hu) (by unfold maxLen; omega) (by omega) S5 ?_); intro v6 w6 ho6 hg6; have Z := Lib.hid (FIN.out v6 w6 ho6 hg6); clear ho6 hg6 FIN O5 R5 LD)
            exact bodyPost_ret (v := .tuple #[v6, .bool true]) (by simp [results, Try.results13, go_sem]) rfl ⟨_, by rw [E.out], by rw [E2.out]; exact Z.out.1, Z.out.2⟩
end Go.Proofs.Ytmkgddbdkpkgpaa
end
