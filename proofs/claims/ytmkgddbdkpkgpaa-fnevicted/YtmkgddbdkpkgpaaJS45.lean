/- MpJ in one. Written by tools/join2.py. -/
import Derived.Test.YtmkgddbdkpkgpaaJS44
import Derived.Test.YtmkgddbdkpkgpaaJS42
section
namespace Go.Proofs.Ytmkgddbdkpkgpaa
open Go.RowKit Go.Maps
set_option linter.unusedVariables false
set_option linter.unusedSimpArgs false
set_option maxRecDepth 100000

theorem insE_pair {b : BElt} {es : List BElt} (hp : es.Pairwise eltLt) : (insE b (dropE es b.m.id)).Pairwise eltLt := by
  rw [eltLt_map, insE_map, dropE_map]
  exact insB_pair b.m (withoutL_pair (eltLt_map.1 hp)) (fun m hm => (withoutL_mem.1 hm).2)
theorem insE_len {b : BElt} {es : List BElt} : (insE b (dropE es b.m.id)).length = (withoutL (es.map Elt.m) b.m.id).length + 1 := by
  have h : ((insE b (dropE es b.m.id)).map Elt.m).length = (withoutL (es.map Elt.m) b.m.id).length + 1 := by rw [insE_map, dropE_map, insB_length]
  simpa using h
theorem blockOkB_wf {m : BlkM} {z v : Int} (h : blockOkB m z v = true) : wfZ m.id := by
  unfold blockOkB at h
  simp only [Bool.and_eq_true, decide_eq_true_eq] at h
  exact wfZ_mk (by omega)
set_option maxHeartbeats 2000000 in
theorem uImplStashPut (c : Value) (l : List BlkM) (c0 c1 c2 : Value) (m : BlkM) (z v : Int) (w : World) (h : BlockSIn [c] l w) (hm : BlockIn [c0, c1, c2] m w) (b2 : -9223372036854775808 ≤ z ∧ z ≤ 9223372036854775807) (b3 : -9223372036854775808 ≤ v ∧ v ≤ 9223372036854775807) (hs : szBlockS l ≤ 1048576) (hsb : szBlock m ≤ 1048576) : Calls Try.prog 14 #[c, .agg #[c0, c1, c2], .int .i64 z, .int .i64 v] w (StPutPost l m z v w) := by
  obtain ⟨x, xc, rfl, rfl, rfl, hxc, hxm, rx⟩ := blockIn_cells hm
  have PB := Lib.hid (show sPutB l m z v = (stashOkB l z v && (blockOkB m z v && !decide ((withoutL l m.id).length = 128))) from rfl)
  have PM := Lib.hid (show sPutM l m z v = if sPutB l m z v = true then insB m (withoutL l m.id) else [] from rfl)
  have BX := Lib.hid (below_box (Below.refl _ w) (.cells #[.int .i64 m.id, .int .i64 m.leaf, .slice x m.data.length xc] 26))
  have HX := Lib.hid (alloc_at w (.cells #[.int .i64 m.id, .int .i64 m.leaf, .slice x m.data.length xc] 26) _ rfl)
  have OK := Lib.hid (uImplStashOk _ l z v _ (blockS_rdg.below h BX.out))
  have BO := Lib.hid (fun w' => implBlockOk m x xc z v w' hxm)
  have MD : m.data.length ≤ 1048576 := by unfold szBlock at hsb; omega
  have LD := Lib.hid (show ∀ e ∈ l, e.data.length ≤ 4000000 from fun e he => by
    obtain ⟨k, hk, rfl⟩ := List.mem_iff_getElem.1 he
    have h1 := sumD_snoc l k hk
    have h2 := sumD_part l (k + 1)
    unfold szBlockS at hs
    omega)
  obtain ⟨aa, capa, es, rfl, hcap, hmax, hes, r1, r2, r3⟩ := blockSIn_shape h
  have HM := Lib.hid hm
  have WL := withoutL_le l m.id
  have R2 := Lib.hid r2
  have R3 := Lib.hid r3
  have R1 := Lib.hid r1
  have HC := Lib.hid (show es.length ≤ capa by omega)
  have HES := Lib.hid hes
  unfold StPutPost
  clear h hm rx hs hsb r1 r2 r3 hxc hcap hes
  obtain ⟨W1, hW1⟩ : ∃ W1, W1 = w.alloc (.cells #[.int .i64 m.id, .int .i64 m.leaf, .slice x m.data.length xc] 26) := ⟨_, rfl⟩
  rw [← hW1] at BX OK HX
  have CL := Lib.hid (fun w' (hb : Below W1.heap.size W1 w') => (show w'.cell? ⟨w.heap.size, 0, none⟩ = some (.int .i64 m.id) ∧ w'.cell? ⟨w.heap.size, 1, none⟩ = some (.int .i64 m.leaf) ∧ w'.cell? ⟨w.heap.size, 2, none⟩ = some (.slice x m.data.length xc) from ⟨cur_cell (kept_block HX.out hb) 0, cur_cell (kept_block HX.out hb) 1, cur_cell (kept_block HX.out hb) 2⟩))
  cases hok : stashOkB l z v
  · have E := Lib.hid (show sPutB l m z v = false by rw [PB.out, hok]; rfl)
    have E2 := Lib.hid (show sPutM l m z v = [] by rw [PM.out, E.out]; rfl)
    rw [hok] at OK
    clear hok
    go_enter Try.func14, Try.ntmps14
    go_wp2_with fail
    rw [← hW1]
    clear hW1
    refine OK.out.mono ?_
    rintro e w2 ⟨rfl, hb⟩
    have B2 := Lib.hid (below_seq BX.out hb)
    clear hb OK
    go_wp2
    exact bodyPost_ret (v := .tuple #[.slice none 0 0, .bool false]) (by simp [results, Try.results14, go_sem]) rfl ⟨_, by rw [E.out], by rw [E2.out]; exact BlockSOwn.nil _ _ _, B2.out⟩
  obtain ⟨s1, s2, s3, s4⟩ := stashOkB_iff.1 hok
  have HP := Lib.hid (show es.Pairwise eltLt by rw [eltLt_map, R2.out]; exact s4)
  have HW := Lib.hid (show ∀ e ∈ es, wfZ e.m.id from fun e he => blockOkB_wf (s3 _ (by rw [← R2.out]; exact List.mem_map_of_mem he)))
  rw [hok] at OK PB
  clear hok s2 s3 s4
  cases hbo : blockOkB m z v
  · have E := Lib.hid (show sPutB l m z v = false by rw [PB.out, hbo]; rfl)
    have E2 := Lib.hid (show sPutM l m z v = [] by rw [PM.out, E.out]; rfl)
    rw [hbo] at BO
    clear hbo
    go_enter Try.func14, Try.ntmps14
    go_wp2_with fail
    rw [← hW1]
    clear hW1
    refine OK.out.mono ?_
    rintro e w2 ⟨rfl, hb⟩
    have C2 := CL.out w2 hb
    have B2 := Lib.hid (below_seq BX.out hb)
    obtain ⟨k0, k1, k2⟩ := C2
    clear hb OK
    go_wp2_with fail
    refine (BO.out _).mono ?_
    rintro e w3 ⟨rfl, hb⟩
    have B3 := Lib.hid (below_seq B2.out hb)
    clear hb BO
    go_wp2
    exact bodyPost_ret (v := .tuple #[.slice none 0 0, .bool false]) (by simp [results, Try.results14, go_sem]) rfl ⟨_, by rw [E.out], by rw [E2.out]; exact BlockSOwn.nil _ _ _, B3.out⟩
  have QW := Lib.hid (blockOkB_wf hbo)
  rw [hbo] at BO PB
  clear hbo
  have BI := Lib.hid (fun w' (hb : Below w.heap.size w w') => implBlocksById aa capa es w' HC.out (by rw [HES.out]; omega) HP.out HW.out ((lies_row R1.out).below hb).now (fun e he => block_rdg.below (R3.out e he) hb))
  obtain ⟨el, hel⟩ : ∃ el : BElt, el = ⟨[.int .i64 m.id, .int .i64 m.leaf, .slice x m.data.length xc], m, rfl, by intro u hu; simp at hu; rcases hu with rfl | rfl | rfl <;> rfl⟩ := ⟨_, rfl⟩
  have EV := Lib.hid (show vE el = .agg #[.int .i64 m.id, .int .i64 m.leaf, .slice x m.data.length xc] by rw [hel]; rfl)
  have EM := Lib.hid (show el.m = m by rw [hel])
  have EI := Lib.hid (show BlockIn el.cs el.m w by rw [hel]; exact HM.out)
  have EN := Lib.hid (show (insE el (dropE es el.m.id)).length = (withoutL l m.id).length + 1 by rw [insE_len, R2.out, EM.out])
  have EP := Lib.hid (show (insE el (dropE es el.m.id)).Pairwise eltLt from insE_pair HP.out)
  have EW := Lib.hid (show ∀ e ∈ insE el (dropE es el.m.id), wfZ e.m.id from fun e he => by
    rcases (mem_insE _ _ _).1 he with rfl | he
    · rw [EM.out]; exact QW.out
    · exact HW.out e (mem_dropE.1 he).1)
  have EB := Lib.hid (show ∀ e ∈ insE el (dropE es el.m.id), BlockIn e.cs e.m w from fun e he => by
    rcases (mem_insE _ _ _).1 he with rfl | he
    · exact EI.out
    · exact R3.out e (mem_dropE.1 he).1)
  have ED := Lib.hid (show ∀ e ∈ insE el (dropE es el.m.id), e.m.data.length ≤ 4000000 from fun e he => by
    rcases (mem_insE _ _ _).1 he with rfl | he
    · rw [EM.out]; omega
    · exact LD.out e.m (by rw [← R2.out]; exact List.mem_map_of_mem (mem_dropE.1 he).1))
  have EQ := Lib.hid (show (insE el (dropE es el.m.id)).map Elt.m = insB m (withoutL l m.id) by rw [insE_map, dropE_map, R2.out, EM.out])
  clear hel EI R1 R2 R3 HM HP HW LD
  go_enter Try.func14, Try.ntmps14
  go_wp2_with fail
  rw [← hW1]
  clear hW1
  refine OK.out.mono ?_
  rintro e w2 ⟨rfl, hb⟩
  obtain ⟨k0, k1, k2⟩ := CL.out w2 hb
  have B2 := Lib.hid (below_seq BX.out hb)
  have G2 := Lib.hid hb
  clear hb OK
  go_wp2_with fail
  refine (BO.out _).mono ?_
  rintro e w3 ⟨rfl, hb⟩
  have B3 := Lib.hid (below_seq B2.out hb)
  have G3 := Lib.hid (below_seq G2.out hb)
  clear hb BO G2 B2 k0 k1 k2
  go_wp2_with fail
  rw [← HES.out]
  refine (BI.out _ B3.out).mono ?_
  rintro e w4 ⟨bb, rfl, hbb, hown, hb⟩
  obtain ⟨k0, k1, k2⟩ := CL.out w4 (below_seq G3.out hb)
  have OW := Lib.hid hown
  have B4 := Lib.hid (below_seq B3.out hb)
  have hbw : w.heap.size ≤ bb := Nat.le_trans B3.out.size hbb
  have hen : es.length ≤ 128 := by rw [HES.out]; exact s1
  clear hb hown BI CL HX
  have HI := Lib.hid (show el.m.id = m.id by rw [EM.out])
  by_cases hfull : (withoutL l m.id).length = 128
  · have E := Lib.hid (show sPutB l m z v = false by rw [PB.out, hfull]; rfl)
    have E2 := Lib.hid (show sPutM l m z v = [] by rw [PM.out, E.out]; rfl)
    rw [hfull] at EN
    clear hfull
    obtain ⟨N, hN⟩ : ∃ N, (insE el (dropE es el.m.id)).length = N := ⟨_, rfl⟩
    rw [hN] at EN
    have hN9 : N = 129 := EN.out
    subst hN9
    go_wp2_with (first
      | (at_mapUpdate; go_must (refine wp_store rfl _ _ _ rfl (b := bb) rfl OW.out (by omega) el m.id _ HI.out EV.out rfl rfl QW.out ?_); intro w5 ho5 hg5; have O5 := Lib.hid ho5; have G5 := Lib.hid hg5; clear ho5 hg5)
      | (at_len; go_must (refine wp_lenB rfl _ rfl (b := bb) rfl O5.out ?_); rw [hN]))
    have B5 := Lib.hid (below_write B4.out G5.out hbw)
    clear O5 G5
    exact bodyPost_ret (v := .tuple #[.slice none 0 0, .bool false]) (by simp [results, Try.results14, go_sem]) rfl ⟨_, by rw [E.out], by rw [E2.out]; exact BlockSOwn.nil _ _ _, B5.out⟩
  · have hle : (withoutL l m.id).length ≤ 127 := by omega
    have E := Lib.hid (show sPutB l m z v = true by rw [PB.out, decide_eq_false hfull]; rfl)
    have E2 := Lib.hid (show sPutM l m z v = insB m (withoutL l m.id) by rw [PM.out, if_pos E.out])
    clear hfull
    obtain ⟨N, hN⟩ : ∃ N, (insE el (dropE es el.m.id)).length = N := ⟨_, rfl⟩
    have HN := Lib.hid hN
    have hN9 : N ≤ 128 := by rw [← hN, EN.out]; omega
    have hN9i : (N : Int) ≤ 128 := by omega
    clear hN
    go_wp2_with (first
      | (at_mapUpdate; go_must (refine wp_store rfl _ _ _ rfl (b := bb) rfl OW.out (by omega) el m.id _ HI.out EV.out rfl rfl QW.out ?_); intro w5 ho5 hg5; have O5 := Lib.hid ho5; have G5 := Lib.hid hg5; clear ho5 hg5)
      | (at_len; go_must (refine wp_lenB rfl _ rfl (b := bb) rfl O5.out ?_); rw [HN.out]))
    have B5 := Lib.hid (below_write B4.out G5.out hbw)
    have BA := B5.out
    have IO := Lib.hid (implInOrder O5.out (by rw [HN.out]; omega) EP.out EW.out (fun e he => block_rdg.below (EB.out e he) BA) ED.out)
    rw [EQ.out] at IO
    clear O5 G5 BA
    refine IO.out.mono ?_
    rintro e w6 ⟨r6, rfl, ho, hb⟩
    have Z := Lib.hid (And.intro (ho.wide B5.out.size (Nat.le_refl _)) (below_seq B5.out hb))
    clear ho hb
    obtain ⟨a6, n6, c6, rfl⟩ := Z.out.1.shape
    go_wp2
    exact bodyPost_ret (v := .tuple #[.slice a6 n6 c6, .bool true]) (by simp [results, Try.results14, go_sem]) rfl ⟨_, by rw [E.out], by rw [E2.out]; exact Z.out.1, Z.out.2⟩
end Go.Proofs.Ytmkgddbdkpkgpaa
end
