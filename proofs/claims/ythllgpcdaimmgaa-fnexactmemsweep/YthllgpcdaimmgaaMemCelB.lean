/- The laws' own helpers over rows of cells, the second part: copied, compared, marked, held. -/
import Derived.Test.YthllgpcdaimmgaaMemCel
namespace Go.Proofs.Ythllgpcdaimmgaa
open Go.RowKit
set_option linter.unusedVariables false

theorem Datas.set_row {lo hi : Nat} {vs us : List Value} {ls : List (List UInt8)} {w : World} {base g n cap k : Nat} (h : Datas lo hi vs ls w) (ho : w.ownsRow base 52 1 (.slice (some ⟨g, 0, none⟩) n cap) n us) (u : Value) : Datas lo hi vs ls (w.setCell ⟨g, k, none⟩ u) :=
  h.turned (Turned.own ho (ho.stored k u).2) (by decide)
theorem fill_set {u z : Value} : ∀ (us : List Value) (m : Nat), (us ++ List.replicate (m + 1) z).set us.length u = us ++ [u] ++ List.replicate m z := by
  intro us m
  rw [List.set_append_right _ _ (Nat.le_refl _), Nat.sub_self, List.replicate_succ, List.set_cons_zero]
  simp
set_option maxHeartbeats 2000000 in
theorem lawsToCellS (c : Value) (ls : List (List UInt8)) (w : World) (hs : szCells ls ≤ 1048576) (h : CellSIn [c] ls w) :
    Calls Try.prog 29 #[c] w fun e w' => ∃ c', e = .returned c' ∧ CellSOwn w.heap.size w'.heap.size [c'] ls w' ∧ Below w.heap.size w w' := by
  obtain ⟨a, cap, _, rfl, g1, g2, _, _, _⟩ := cellSIn_shape h
  have L := Lib.hid h.lies
  unfold szCells at hs
  clear h g1 g2
  obtain ⟨i0, hi, hz0, hz1, hz2⟩ := info_parts Try.infoCell
  go_enter Try.func29, Try.ntmps29
  go_wp2_with (at_make; refine wpList_make_full _ rfl _ _ 28 rfl w.heap.size 52 i0 _ 1 Try.underlying28 hi hz0 hz1 .i64 .i64 _ _ ls.length rfl rfl rfl rfl (by rw [hz2]; omega) (by unfold maxLen; omega) (Nat.le_refl _) ?_)
  clear hi hz0 hz1 hz2
  intro w1 hown hgr
  have hb1 : Below w.heap.size w w1 := grown_below hgr
  have hown' : w1.ownsRow w.heap.size 52 1 (.slice (some ⟨w.heap.size, 0, none⟩) ls.length ls.length) ls.length (List.replicate ls.length (.slice none 0 0)) := by
    rw [← toList_madeCells_one]; simpa using hown
  clear hgr hown
  go_wp2
  go_loopw [4] (fun i wr => ∃ (k : Nat) (us : List Value), k ≤ ls.length ∧ i = .int .i64 k ∧ us.length = k ∧ wr.ownsRow w.heap.size 52 1 (.slice (some ⟨w.heap.size, 0, none⟩) ls.length ls.length) ls.length (us ++ List.replicate (ls.length - k) (.slice none 0 0)) ∧ Datas w.heap.size wr.heap.size us (ls.take k) wr ∧ Below w.heap.size w wr) (fun i _ => ls.length - (intOf i).toNat)
  case atStart => exact ⟨0, [], Nat.zero_le _, rfl, rfl, by simpa using hown', by simpa using Datas.nil _ _ _, hb1⟩
  case round =>
    clear hown' hb1
    obtain ⟨k, us, hk, rfl, hu, hown, hd, hb⟩ := hrel
    by_cases hlt : k < ls.length
    · obtain ⟨a', cap', vs, e, _, _, r1, r2, r3⟩ := cellSIn_shape (L.out.below hb).now
      simp at e
      obtain ⟨rfl, rfl⟩ := e
      obtain ⟨b, off, y, yc, rfl, q, _, hy⟩ := r1.cellAt r2 r3 hlt
      have hn : ls[k].length ≤ 1048576 := by have := sumL_snoc ls k hlt; have := sumL_part ls (k + 1); omega
      have T := Lib.hid (lawsToCell y ls[k].length yc ls[k] wr hn hy)
      have TK := Lib.hid (List.take_succ_eq_append_getElem hlt)
      have OW := Lib.hid hown
      have D := Lib.hid hd
      have B := Lib.hid hb
      generalize ls[k].length = n at *
      generalize ls[k] = l at *
      clear r1 r2 r3 hy hown hd hb hn
      go_wp2_with fail
      refine T.out.mono ?_
      rintro e w2 ⟨x, m, z, rfl, ho, hb2⟩
      have sz1 : w.heap.size ≤ wr.heap.size := B.out.size
      have D2 := D.out.snoc (Nat.le_refl _) hb2 ho sz1 hb2.size
      have own2 := own_below OW.out hb2
      have f0 := own2.frozenAt k
      have c0 : w2.cell? ⟨w.heap.size, k, none⟩ = some (.slice none 0 0) := by
        rw [own2.cellAt k (by omega), List.getElem?_append_right (by omega), List.getElem?_replicate, if_pos (by omega)]
      have st := own2.stored k (.slice x m z)
      have sh := fill_set (u := .slice x m z) (z := .slice none 0 0) us (ls.length - (k + 1))
      rw [show ls.length - (k + 1) + 1 = ls.length - k from by omega, hu] at sh
      rw [sh] at st
      have X := Lib.hid (And.intro st.1 (And.intro (D2.set_row (k := k) own2 (.slice x m z)) ((below_seq B.out hb2).grown st.2 (Nat.le_trans sz1 hb2.size) (fun i hi => by cases hi; exact Nat.le_refl _))))
      clear D2 own2 st sh ho hb2 T
      go_wp2
      go_roundw
      case rel => exact ⟨k + 1, us ++ [.slice x m z], by omega, by go_num, by simp [hu], X.out.1, by rw [TK.out]; simpa using X.out.2.1, X.out.2.2⟩
      case measure => simp [intOf]; omega
    · have hk' : k = ls.length := by omega
      subst hk'
      rw [Nat.sub_self] at hown
      rw [List.take_length] at hd
      have R2 := Lib.hid (And.intro hown (And.intro hd hb))
      clear hown hd hb
      go_wp2
      go_ret
      exact ⟨_, rfl, ⟨_, _, us, rfl, by simpa using R2.out.1, own_top R2.out.1, R2.out.2.1⟩, R2.out.2.2⟩
set_option maxHeartbeats 800000 in
theorem lawsEqCell (a1 a2 : Option Addr) (n1 n2 c1 c2 : Nat) (l : List UInt8) (w : World) (h1 : ByteSIn [.slice a1 n1 c1] l w) (h2 : ByteSIn [.slice a2 n2 c2] l w) :
    Calls Try.prog 50 #[.agg #[.slice a1 n1 c1], .agg #[.slice a2 n2 c2]] w (TruePost w) := by
  have hb0 : Below w.heap.size w ((w.alloc (.cells #[.slice a1 n1 c1] 52)).alloc (.cells #[.slice a2 n2 c2] 52)) := ((Below.refl _ _).alloc (Nat.le_refl _) _).alloc (by simp) _
  have E := Lib.hid (uEqByteS _ _ l _ (h1.lies.below hb0).now (h2.lies.below hb0).now)
  have B := Lib.hid hb0
  clear hb0 h1 h2
  go_enter Try.func50, Try.ntmps50
  go_wp2_with fail
  refine E.out.mono ?_
  rintro e w1 ⟨rfl, hb⟩
  replace B := Lib.hid (below_seq B.out hb)
  clear hb
  go_wp2
  go_ret
  exact ⟨rfl, B.out⟩
set_option maxHeartbeats 1000000 in
theorem lawsEqCellS (c d : Value) (ls : List (List UInt8)) (w : World) (h1 : CellSIn [c] ls w) (h2 : CellSIn [d] ls w) :
    Calls Try.prog 32 #[c, d] w (TruePost w) := by
  obtain ⟨a, cap, _, rfl, _, g2, _⟩ := cellSIn_shape h1
  obtain ⟨a2, cap2, _, rfl, _⟩ := cellSIn_shape h2
  have L1 := Lib.hid h1.lies
  have L2 := Lib.hid h2.lies
  unfold maxLen at g2
  clear h1 h2
  go_enter Try.func32, Try.ntmps32
  go_wp2
  go_loopw [5] (fun i wr => ∃ k : Nat, k ≤ ls.length ∧ i = .int .i64 k ∧ Below w.heap.size w wr) (fun i _ => ls.length - (intOf i).toNat)
  case atStart => exact ⟨0, Nat.zero_le _, rfl, Below.refl _ _⟩
  case round =>
    obtain ⟨k, hk, rfl, hb⟩ := hrel
    by_cases hlt : k < ls.length
    · obtain ⟨a', cap', vs, e, _, _, r1, r2, r3⟩ := cellSIn_shape (L1.out.below hb).now
      simp at e
      obtain ⟨rfl, rfl⟩ := e
      obtain ⟨b, off, y, yc, rfl, q, _, hy⟩ := r1.cellAt r2 r3 hlt
      obtain ⟨a', cap', vs2, e, _, _, s1, s2, s3⟩ := cellSIn_shape (L2.out.below hb).now
      simp at e
      obtain ⟨rfl, rfl⟩ := e
      obtain ⟨b2, off2, y2, yc2, rfl, q2, _, hy2⟩ := s1.cellAt s2 s3 hlt
      have E := Lib.hid (lawsEqCell y y2 ls[k].length ls[k].length yc yc2 ls[k] wr.drew (hy.lies.drew).now (hy2.lies.drew).now)
      have B := Lib.hid (below_drew hb)
      generalize ls[k].length = n at *
      clear r1 r2 r3 s1 s2 s3 hy hy2 hb
      go_wp2_with fail
      go_region_held3 (fun w' => w'.cell? ⟨b, off + k, none⟩ = some (.slice y n yc) ∧ w'.cell? ⟨b2, off2 + k, none⟩ = some (.slice y2 n yc2))
        (first | go_keep | exact C2.out)
        ((go_at_call 50; refine E.out.mono ?_; rintro e w2 ⟨rfl, hb2⟩; have C2 := Lib.hid (And.intro (cell_keep (w := wr.drew) q hb2) (cell_keep (w := wr.drew) q2 hb2)); replace B := Lib.hid (below_seq B.out hb2); clear hb2))
      clear q q2
      go_wp2
      go_roundw
      case rel => exact ⟨k + 1, by omega, by go_num, B.out⟩
      case measure => simp [intOf]; omega
    · have B := Lib.hid hb
      clear hb
      go_wp2
      go_ret
      exact ⟨rfl, B.out⟩
def mkC : Nat → List (List UInt8) → List (List UInt8)
  | _, [] => []
  | k, l :: ls => marks k l.length :: mkC (k + l.length) ls
theorem mkC_length : ∀ k ls, (mkC k ls).length = ls.length
  | _, [] => rfl
  | k, l :: ls => by simp [mkC, mkC_length]
theorem mkC_snoc : ∀ k ls l, mkC k (ls ++ [l]) = mkC k ls ++ [marks (k + sumL ls) l.length]
  | k, [], l => by simp [mkC, sumL]
  | k, m :: ls, l => by
    have e : sumL (m :: ls) = m.length + sumL ls := by simp [sumL]
    simp only [mkC, List.cons_append, mkC_snoc (k + m.length) ls l, e, Nat.add_assoc]
theorem mkC_at : ∀ (k : Nat) (ls : List (List UInt8)) (j : Nat) (h : j < ls.length), (mkC k ls)[j]'(by rw [mkC_length]; exact h) = marks (k + sumL (ls.take j)) ls[j].length
  | _, [], j, h => by simp at h
  | k, l :: ls, 0, h => by simp [mkC, sumL]
  | k, l :: ls, j + 1, h => by
    have := mkC_at (k + l.length) ls j (by simpa using h)
    simp only [mkC, List.getElem_cons_succ, List.take_succ_cons, this]
    have e : sumL (l :: ls.take j) = l.length + sumL (ls.take j) := by simp [sumL]
    rw [e, Nat.add_assoc]
theorem sumL_mkC : ∀ k ls, sumL (mkC k ls) = sumL ls
  | _, [] => rfl
  | k, l :: ls => by simp only [sumL, mkC, List.map_cons, List.sum_cons, marks_length]; have := sumL_mkC (k + l.length) ls; unfold sumL at this; rw [this]
def mkCj (k j : Nat) (ls : List (List UInt8)) : List (List UInt8) := mkC k (ls.take j) ++ ls.drop j
theorem mkCj_zero (k : Nat) (ls : List (List UInt8)) : mkCj k 0 ls = ls := by simp [mkCj, mkC]
theorem mkCj_done (k : Nat) (ls : List (List UInt8)) : mkCj k ls.length ls = mkC k ls := by simp [mkCj]
theorem mkCj_length (k j : Nat) (ls : List (List UInt8)) (h : j ≤ ls.length) : (mkCj k j ls).length = ls.length := by simp [mkCj, mkC_length]; omega
theorem mkCj_at (k j : Nat) (ls : List (List UInt8)) (h : j < ls.length) : (mkCj k j ls)[j]? = some ls[j] := by
  unfold mkCj
  rw [List.getElem?_append_right (by rw [mkC_length, List.length_take]; omega), mkC_length, List.length_take]
  simp [Nat.min_eq_left (Nat.le_of_lt h), h]
theorem mkCj_set (k j : Nat) (ls : List (List UInt8)) (h : j < ls.length) : (mkCj k j ls).set j (marks (k + sumL (ls.take j)) ls[j].length) = mkCj k (j + 1) ls := by
  unfold mkCj
  rw [List.take_succ_eq_append_getElem h, mkC_snoc, List.set_append_right _ _ (by rw [mkC_length, List.length_take]; omega)]
  rw [show j - (mkC k (ls.take j)).length = 0 from by rw [mkC_length, List.length_take]; omega, List.drop_eq_getElem_cons h, List.set_cons_zero]
  simp
set_option maxHeartbeats 2000000 in
/-- Rows of bytes marked one after another: the row of cells, its address whatever. -/
theorem lawsMarkCells (lo hi k : Nat) (a : Option Addr) (cap : Nat) (vs more : List Value) (ls lm : List (List UInt8)) (w : World) (hk : k + sumL ls ≤ 4611686018427387904) (hl : vs.length = ls.length) (hm : ls.length ≤ maxLen)
    (hr : w.ownsRow lo 52 1 (.slice a ls.length cap) ls.length vs) (hd : Datas lo hi (vs ++ more) (ls ++ lm) w) :
    Calls Try.prog 35 #[.slice a ls.length cap, .int .i64 k] w fun e w' => e = .returned (.int .i64 ((k + sumL ls : Nat) : Int)) ∧
      w'.ownsRow lo 52 1 (.slice a ls.length cap) ls.length vs ∧ Datas lo hi (vs ++ more) (mkC k ls ++ lm) w' ∧ Chg lo hi w w' ∧ Turned 5 w w' := by
  unfold maxLen at hm
  have R := Lib.hid hr
  have D := Lib.hid hd
  clear hr hd
  go_enter Try.func35, Try.ntmps35
  go_wp2
  go_loopw [1, 5] (fun kv i wr => ∃ j s : Nat, j ≤ ls.length ∧ kv = .int .i64 s ∧ i = .int .i64 j ∧ Hid (s = k + sumL (ls.take j)) ∧ wr.ownsRow lo 52 1 (.slice a ls.length cap) ls.length vs ∧ Datas lo hi (vs ++ more) (mkCj k j ls ++ lm) wr ∧ Chg lo hi w wr ∧ Turned 5 w wr) (fun _ i _ => ls.length - (intOf i).toNat)
  case atStart => exact ⟨0, k, Nat.zero_le _, rfl, rfl, Lib.hid (by simp [sumL]), R.out, by rw [mkCj_zero]; exact D.out, Chg.refl _ _ _, Turned.refl _ _⟩
  case round =>
    obtain ⟨j, s, hj, rfl, rfl, HS, hown, hd, hg, ht⟩ := hrel
    by_cases hlt : j < ls.length
    · have hjl := mkCj_length k j ls hj
      obtain ⟨b, off, rfl, q⟩ := (Row.of_own hown).at (i := j) (by omega)
      have hv : vs[j]? = some (vs[j]'(by omega)) := List.getElem?_eq_getElem _
      rw [hv] at q
      have hv2 : (vs ++ more)[j]? = some (vs[j]'(by omega)) := by rw [List.getElem?_append_left (by omega)]; exact hv
      have hl2 : (mkCj k j ls ++ lm)[j]? = some ls[j] := by rw [List.getElem?_append_left (by omega)]; exact mkCj_at k j ls hlt
      have hrow := hd.row j _ _ hv2 hl2
      have S1 := Lib.hid (sumL_snoc ls j hlt)
      have S2 := Lib.hid (sumL_part ls (j + 1))
      generalize vs[j]'(by omega) = v at *
      obtain ⟨x, n, z, rfl⟩ := hrow.shape
      obtain ⟨x', z', e, ho, hh⟩ := hrow
      simp at e
      obtain ⟨rfl, rfl, rfl⟩ := e
      have hsz : s + ls[j].length ≤ 4611686018427387904 := by have := S1.out; have := S2.out; have := HS.out; omega
      have M := Lib.hid (lawsMarkByteAny lo ls[j].length z s x _ wr hsz ho)
      have HO := Lib.hid ho
      have HH := Lib.hid hh
      have DD := Lib.hid hd
      have HG := Lib.hid hg
      have HT := Lib.hid ht
      have OW := Lib.hid hown
      have V2 := Lib.hid hv2
      have MS := Lib.hid (mkCj_set k j ls hlt)
      clear hv hv2 hl2 ho hh hd hg ht hown
      generalize hn : ls[j].length = n at *
      go_wp2_with fail
      refine M.out.mono ?_
      rintro e w2 ⟨rfl, h1, h2⟩
      have N : Hid (s + n = k + sumL (ls.take (j + 1))) := Lib.hid (by have := S1.out; have := HS.out; omega)
      have O1 : ByteSOwn lo hi [.slice x n z] (marks s n) w2 := ⟨x, z, by rw [marks_length], by rw [marks_length]; exact h1, by rw [marks_length]; exact HH.out⟩
      have D1 := DD.out.set V2.out h2 O1
      rw [List.set_append_left _ _ (by omega), HS.out, MS.out] at D1
      have X := Lib.hid (And.intro (own_turned OW.out (Turned.own HO.out h2) (by decide : 52 ≠ 5)) (And.intro D1 (And.intro (HG.out.trans (Chg.of_grown h2 (fun g hg => ⟨(HO.out.lt g hg).1, HH.out g hg⟩))) (HT.out.trans (Turned.own HO.out h2)))))
      clear O1 D1 h1 h2 M
      go_wp2
      go_roundw
      case rel => exact ⟨j + 1, s + n, by omega, by go_num, by go_num, N, X.out.1, X.out.2.1, X.out.2.2.1, X.out.2.2.2⟩
      case measure => simp [intOf]; omega
    · have hj' : j = ls.length := by omega
      subst hj'
      rw [mkCj_done] at hd
      have HE := HS.out
      rw [List.take_length] at HE
      subst HE
      have X := Lib.hid (And.intro hown (And.intro hd (And.intro hg ht)))
      clear hown hd hg ht HS
      go_wp2
      go_ret
      exact ⟨rfl, X.out⟩
set_option maxHeartbeats 1000000 in
theorem lawsHeldCellS (k : Nat) (c : Value) (ls : List (List UInt8)) (w : World) (hk : k + sumL ls ≤ 4611686018427387904) (h : CellSIn [c] (mkC k ls) w) :
    Calls Try.prog 37 #[c, .int .i64 k] w fun e w' => e = .returned (.int .i64 ((k + sumL ls : Nat) : Int)) ∧ w = w' := by
  obtain ⟨a, cap, vs, rfl, _, g2, r1, r2, r3⟩ := cellSIn_shape h
  rw [mkC_length] at g2 r2 ⊢
  have R := Lib.hid (And.intro r1 r3)
  unfold maxLen at g2
  clear h r1 r3
  go_enter Try.func37, Try.ntmps37
  go_wp2
  go_loop [1, 5] (fun kv i => ∃ j s : Nat, j ≤ ls.length ∧ kv = .int .i64 s ∧ i = .int .i64 j ∧ Hid (s = k + sumL (ls.take j))) (fun _ i => ls.length - (intOf i).toNat)
  case atStart => exact ⟨0, k, Nat.zero_le _, rfl, rfl, Lib.hid (by simp [sumL])⟩
  case round =>
    obtain ⟨j, s, hj, rfl, rfl, HS⟩ := hrel
    by_cases hlt : j < ls.length
    · obtain ⟨b, off, y, yc, rfl, q, _, hy⟩ := R.out.1.cellAt (ls := mkC k ls) (by rw [mkC_length]; exact r2) R.out.2 (k := j) (by rw [mkC_length]; exact hlt)
      rw [mkC_at k ls j hlt, ← HS.out] at q hy
      rw [marks_length] at q hy
      have S1 := Lib.hid (sumL_snoc ls j hlt)
      have S2 := Lib.hid (sumL_part ls (j + 1))
      have hsz : s + ls[j].length ≤ 4611686018427387904 := by have := S1.out; have := S2.out; have := HS.out; omega
      obtain ⟨x', z', e, hq1, hq2, hr⟩ := byteSIn_shape hy
      simp at e
      obtain ⟨rfl, hq, rfl⟩ := e
      clear hq hq1 hq2
      have M := Lib.hid (lawsHeldByteS y ls[j].length yc s w hsz hr)
      clear hy hr
      generalize hn : ls[j].length = n at *
      go_wp2_with fail
      refine M.out.mono ?_
      rintro e w2 ⟨rfl, rfl⟩
      have N : Hid (s + n = k + sumL (ls.take (j + 1))) := Lib.hid (by have := S1.out; have := HS.out; omega)
      go_wp2
      go_round
      case rel => exact ⟨j + 1, s + n, by omega, by go_num, by go_num, N⟩
      case measure => simp [intOf]; omega
    · have hj' : j = ls.length := by omega
      subst hj'
      have HE := HS.out
      rw [List.take_length] at HE
      subst HE
      clear HS
      go_wp2
      go_ret
      exact ⟨rfl, rfl⟩
end Go.Proofs.Ythllgpcdaimmgaa
