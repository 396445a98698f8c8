/- WSb in one. Written by tools/join2.py. -/
import Derived.Test.YtmkgddbdkpkgpaaJS1
import Derived.Test.YtmkgddbdkpkgpaaJS2
import Derived.Test.YtmkgddbdkpkgpaaJS26
import Derived.Test.YtmkgddbdkpkgpaaJS36
import Derived.Test.YtmkgddbdkpkgpaaJS37
import Derived.Deep.RegionHeld3
import Derived.Deep.DeepCutAuto
import Derived.Deep.LoopGhost
import Derived.Deep.QuietTactic
section
namespace Go.Proofs.Ytmkgddbdkpkgpaa.fnStashBook
open Go.ChangeShapes Go.WideShapes Go.ChangeAt Go.RowKit
open Go.ChangeMaps (open_string shut_string)
set_option linter.unusedVariables false
set_option linter.unusedSimpArgs false

theorem sz_put {t : List BlkM} {r : BlkM} {x y : Int} (h1 : szBlockS t ≤ 2000) (h2 : szBlock r ≤ 8) : szBlockS (sPutM t r x y) ≤ 1048576 := by
  unfold sPutM
  split
  · rw [szBlockS_ins]
    have := szBlockS_without t r.id
    unfold szBlock at h2
    omega
  · simp [szBlockS, sumD]
theorem row_same {w : World} {base n cap : Nat} {a : Option Addr} {e : TypeId} {xs ys : List Value} (h : w.ownsRow base e 3 (.slice a n cap) n xs) (k : w.ownsRow base e 3 (.slice a n cap) n ys) : xs = ys := by
  rcases h.2 with ⟨hv, h0⟩ | ⟨g, c1, cur, hv, _, hb, _, _, _, h4⟩
  · have e1 := h.1
    have e2 := k.1
    rw [h0] at e1 e2
    exact (List.eq_nil_of_length_eq_zero (show xs.length = 0 by omega)).trans (List.eq_nil_of_length_eq_zero (show ys.length = 0 by omega)).symm
  · rcases k.2 with ⟨hv2, h0⟩ | ⟨g2, c2, cur2, hv2, _, hb2, _, _, _, k4⟩
    · rw [hv] at hv2; simp at hv2
    · rw [hv] at hv2
      simp at hv2
      obtain ⟨rfl, rfl⟩ := hv2
      rw [hb] at hb2
      simp at hb2
      subst hb2
      rw [← h4, ← k4]
/-- One element more of those that stay: its memory is the list's. -/
theorem kept_more {lo k n co : Nat} {ao : Option Addr} {t : List BlkM} {es0 es : List (Elt BlkM 3)} {G0 G : Nat → Foot} {wr w5 : World} {v5 : Value} {id : Int} {a0 : Option Addr} {cap0 : Nat}
    (h0 : NRow BlockO 26 3 lo a0 cap0 es0 G0 wr) (hm0 : es0.map Elt.m = t) (hk : k < t.length) (hkid : ¬ t[k].id = id) (h : NRow BlockO 26 3 lo ao co es G wr) (hm : es.map Elt.m = withoutL (t.take k) id) (hG : ∀ i b, i < es.length → G i b → ∃ j, j < k ∧ G0 j b) (hn : es.length = n)
    {c0 c1 c2 : Value} (hcs : ∀ hk' : k < es0.length, es0[k].cs = [c0, c1, c2]) (ho : w5.ownsRow lo 26 3 v5 (n + 1) (flatG eltL es ++ [c0, c1, c2])) (hg : (wr.alloc (.cells #[c0, c1, c2] 26)).grownBy w5 (Value.slice ao n co).ownBlock) :
    ∃ a5 c5, v5 = .slice a5 (n + 1) c5 ∧ ∃ (es' : List (Elt BlkM 3)) (G' : Nat → Foot), es'.length = n + 1 ∧ es'.map Elt.m = withoutL (t.take (k + 1)) id ∧ NRow BlockO 26 3 lo a5 c5 es' G' w5 ∧ (∀ i b, i < es'.length → G' i b → ∃ j, j < k + 1 ∧ G0 j b) := by
  subst hn
  have hk0 : k < es0.length := by rw [← hm0] at hk; simpa using hk
  have bx := below_box (Below.refl wr.heap.size wr) (.cells #[c0, c1, c2] 26)
  have n3 := h.below block_ong bx
  have e3 := (h0.below block_ong bx).own k hk0
  have hmk : es0[k].m = t[k] := by subst hm0; simp
  have off : ∀ b, G0 k b → (Value.slice ao es.length co).ownBlock ≠ some b := fun b hb => by
    obtain ⟨c, _, x, cp, hc, hrr, hFb⟩ := h0.own k hk0
    have hbb := (hFb b).1 hb
    rcases hrr.2 with ⟨hv, _⟩ | ⟨g, cap', cur, hv, _, hh, _⟩
    · rw [hv] at hbb; simp [Value.ownBlock] at hbb
    · rw [hv] at hbb
      simp [Value.ownBlock] at hbb
      subst hbb
      exact own_other h.row hh (by decide)
  obtain ⟨a5, c5, hv, n5⟩ := n3.snoc (G0 k) es0[k] e3 (fun i b hi hb hk2 => by
    obtain ⟨j, hj, hjb⟩ := hG i b hi hb
    exact h0.sep j k b (by omega) hk0 (by omega) hjb hk2) off (v5 := v5) (by rw [hcs hk0]; exact ho) hg
  have hl : (es ++ [es0[k]]).length = es.length + 1 := by simp
  rw [hl] at hv
  refine ⟨a5, c5, hv, _, _, hl, ?_, n5, fun i b hi hb => ?_⟩
  · rw [List.map_append, hm, without_take t id hk, if_neg hkid, List.map_cons, List.map_nil, hmk]
  · rw [hl] at hi
    by_cases h1 : i = es.length
    · rw [if_pos h1] at hb
      exact ⟨k, by omega, hb⟩
    · rw [if_neg h1] at hb
      obtain ⟨j, hj, hjb⟩ := hG i b (by omega) hb
      exact ⟨j, by omega, hjb⟩
theorem nrow_blk {lo cap : Nat} {a : Option Addr} {t : List BlkM} {es : List (Elt BlkM 3)} {G : Nat → Foot} {w : World} (h : NRow BlockO 26 3 lo a cap es G w) (hm : es.map Elt.m = t) {k : Nat} (hk : k < t.length) : ∃ g x z, a = some ⟨g, 0, none⟩ ∧ (∀ hk' : k < es.length, es[k].cs = [.int .i64 t[k].id, .int .i64 t[k].leaf, .slice x t[k].data.length z]) ∧ w.cell? ⟨g, k * 3, none⟩ = some (.int .i64 t[k].id) ∧ w.cell? ⟨g, k * 3 + 1, none⟩ = some (.int .i64 t[k].leaf) ∧ w.cell? ⟨g, k * 3 + 2, none⟩ = some (.slice x t[k].data.length z) := by
  subst hm
  have hke : k < es.length := by simpa using hk
  obtain ⟨g, rfl, _⟩ := own_some h.row (by omega)
  obtain ⟨c2, hcs, x, z, hc2, _, _⟩ := h.own k hke
  simp at hc2
  subst hc2
  have cc := own_elem eltL_len h.row hke
  rw [show eltL es[k] = [.int .i64 es[k].m.id, .int .i64 es[k].m.leaf, .slice x es[k].m.data.length z] from hcs] at cc
  exact ⟨g, x, z, rfl, fun _ => by simpa using hcs, by simpa using cc 0 (by decide), by simpa using cc 1 (by decide), by simpa using cc 2 (by decide)⟩
theorem blk_conv {lo hi : Nat} {c0 c1 c2 : Value} {r : BlkM} {w : World} (h : BlockOwn lo hi [c0, c1, c2] r w) : (convert 22 9 c2).run Try.prog w = .ok (.string (strL r.data)) w := by
  obtain ⟨F, ⟨c, hcs, x, z, hc2, hob, _⟩, _⟩ := h
  simp at hcs hc2
  obtain ⟨rfl, rfl, rfl⟩ := hcs
  subst hc2
  exact conv_any hob
set_option maxRecDepth 100000 in
set_option maxHeartbeats 1000000 in
theorem walk0 (I : Impl13) (a0 : Option Addr) (len0 cap0 : Nat) (z0 : List Int) (w : World) (w0 : IsRow .u8 w a0 len0 cap0 z0) :
    Calls Try.prog 3 #[.slice a0 len0 cap0] w fun e w' => e = .returned (.bool true) ∧ Below w.heap.size w w' := by
  obtain ⟨l, hl, hcap, hmax, hr⟩ := row_of_isRow w0
  clear w0
  subst hl
  have R := Lib.hid hr
  clear hr
  have hm : l.length ≤ maxLen := Nat.le_trans hcap hmax
  by_cases hbig : 1048576 < l.length
  · have hB : decide (1048576 < l.length) = true := by simp [hbig]
    go_enter Try.func3, Try.ntmps3
    go_wp2_with fail
    refine (bigIs a0 l.length cap0 _ hm).mono ?_
    rintro e w1 ⟨rfl, rfl⟩
    rw [hB]
    go_wp2
    go_ret
    exact ⟨rfl, Below.refl _ _⟩
  have hB : decide (1048576 < l.length) = false := by simp; omega
  have hl2 : l.length ≤ 1048576 := by omega
  go_enter Try.func3, Try.ntmps3
  go_wp2_with fail
  refine (bigIs a0 l.length cap0 _ hm).mono ?_
  rintro e w1 ⟨rfl, rfl⟩
  rw [hB]
  clear hB
  go_wp2_with fail
  refine (drawStashPut a0 l cap0 w hl2 R.out).mono ?_
  rintro e w1 ⟨c, t, c0, c1, c2, r, x, y, rfl, ho, hob, hsz, hszb, hbd, hx, hy, hb⟩
  obtain ⟨ac, capc, _, rfl, _, hcm, _⟩ := blockSIn_shape ho.read
  obtain ⟨xb, xc, rfl, rfl, rfl, _, _, _⟩ := blockIn_cells hob.read
  have bx := below_box (Below.refl w1.heap.size w1) (.cells #[.int .i64 r.id, .int .i64 r.leaf, .slice xb r.data.length xc] 26)
  have N0 := Lib.hid ((ho.lies (Nat.le_refl _)).below bx).now
  have O0 := Lib.hid ((hob.lies (Nat.le_refl _)).below bx).now
  have K0 := Lib.hid (alloc_at w1 (.cells #[.int .i64 r.id, .int .i64 r.leaf, .slice xb r.data.length xc] 26) _ rfl)
  have B0 := Lib.hid (below_seq hb bx)
  have BX := Lib.hid hx
  have BY := Lib.hid hy
  have BD := Lib.hid hbd
  have SZ := Lib.hid (And.intro hsz hszb)
  clear hb R ho hob hx hy bx hbd hsz hszb
  obtain ⟨P, hP⟩ : ∃ P, w1.alloc (.cells #[.int .i64 r.id, .int .i64 r.leaf, .slice xb r.data.length xc] 26) = P := ⟨_, rfl⟩
  have hsz : P.heap.size = w1.heap.size + 1 := by rw [← hP]; simp
  rw [hP] at N0 O0 K0 B0
  obtain ⟨T, hT⟩ : ∃ T, w1.heap.size = T := ⟨_, rfl⟩
  rw [hT] at K0 hsz N0 O0
  have CB := Lib.hid (fun w' (hb : Below P.heap.size P w') => (show w'.cell? ⟨T, 0, none⟩ = some (.int .i64 r.id) ∧ w'.cell? ⟨T, 1, none⟩ = some (.int .i64 r.leaf) ∧ w'.cell? ⟨T, 2, none⟩ = some (.slice xb r.data.length xc) from ⟨cur_cell (kept_block K0.out hb) 0, cur_cell (kept_block K0.out hb) 1, cur_cell (kept_block K0.out hb) 2⟩))
  have SP := Lib.hid (uSpecStashPut _ t _ _ _ r x y P N0.out.read O0.out.read BX.out BY.out (by have := SZ.out; omega) (by have := SZ.out; omega))
  have IP := Lib.hid (fun w' (hb : Below P.heap.size P w') => I.put _ t _ _ _ r x y w' (blockS_rdg.below N0.out.read hb) (block_rdg.below O0.out.read hb) BX.out BY.out (by have := SZ.out; omega) (by have := SZ.out; omega))
  obtain ⟨t0, t1, t2⟩ := CB.out P (Below.refl _ _)
  have HT := Lib.hid hT
  obtain ⟨q, hq⟩ : ∃ q, sPutB t r x y = q := ⟨_, rfl⟩
  rw [hq] at SP
  go_wp2_with fail
  refine SP.out.mono ?_
  rintro e w2 ⟨rc, rfl, _, hb⟩
  have Q2 := Lib.hid hb
  have IPC := Lib.hid (IP.out w2 hb)
  unfold StPutPost at IPC
  rw [hq] at IPC
  clear hP hT SP hb IP t0 t1 t2
  obtain ⟨t0, t1, t2⟩ := CB.out w2 Q2.out
  go_wp2_with fail
  refine IPC.out.mono ?_
  rintro e w3 ⟨c9, rfl, h9, hb⟩
  have Q3 := Lib.hid (below_seq Q2.out hb)
  have A9 := Lib.hid (h9.lies (Nat.le_refl _))
  have S3 := Lib.hid (Nat.le_trans Q2.out.size hb.size)
  clear hb IPC Q2 t0 t1 t2
  cases q
  · have Z := Lib.hid (below_seq B0.out Q3.out)
    clear A9 Q3 CB BX BY
    go_wp2
    go_ret
    exact ⟨rfl, Z.out⟩
  have BK := Lib.hid (stash_book hq)
  have SM := Lib.hid (sz_put (t := t) (r := r) (x := x) (y := y) SZ.out.1 SZ.out.2)
  obtain ⟨M, hM⟩ : ∃ M, sPutM t r x y = M := ⟨_, rfl⟩
  rw [hM] at BK SM A9 h9
  obtain ⟨a9, k9, _, rfl, _⟩ := blockSIn_shape h9.read
  have IFD := Lib.hid (I.find _ M r.id w3 A9.out.now.read BD.out.1 SM.out)
  unfold StFindPost at IFD
  rw [BK.out.1, BK.out.2.1] at IFD
  clear hM h9 hq
  obtain ⟨t0, t1, t2⟩ := CB.out w3 Q3.out
  go_wp2_with fail
  refine IFD.out.mono ?_
  rintro e w4 ⟨d0, d1, d2, rfl, h4, hb⟩
  obtain ⟨yb, yc, rfl, rfl, rfl, _⟩ := blockIn_cells h4.read
  have bx4 := below_box (Below.refl w4.heap.size w4) (.cells #[.int .i64 r.id, .int .i64 r.leaf, .slice yb r.data.length yc] 26)
  have Q4 := Lib.hid (below_seq Q3.out (below_seq hb bx4))
  have O4 := Lib.hid ((h4.lies (Nat.le_refl _)).below bx4)
  have K4 := Lib.hid (alloc_at w4 (.cells #[.int .i64 r.id, .int .i64 r.leaf, .slice yb r.data.length yc] 26) _ rfl)
  have A9b := Lib.hid (A9.out.below (below_seq hb bx4))
  clear hb h4 bx4 IFD A9 Q3 t0 t1 t2
  obtain ⟨P4, hP4⟩ : ∃ P4, w4.alloc (.cells #[.int .i64 r.id, .int .i64 r.leaf, .slice yb r.data.length yc] 26) = P4 := ⟨_, rfl⟩
  rw [hP4] at Q4 O4 K4 A9b
  obtain ⟨T4, hT4⟩ : ∃ T4, w4.heap.size = T4 := ⟨_, rfl⟩
  rw [hT4] at K4 O4
  have C4 := Lib.hid (fun w' (hb : Below P4.heap.size P4 w') => (show w'.cell? ⟨T4, 0, none⟩ = some (.int .i64 r.id) ∧ w'.cell? ⟨T4, 1, none⟩ = some (.int .i64 r.leaf) ∧ w'.cell? ⟨T4, 2, none⟩ = some (.slice yb r.data.length yc) from ⟨cur_cell (kept_block K4.out hb) 0, cur_cell (kept_block K4.out hb) 1, cur_cell (kept_block K4.out hb) 2⟩))
  have IDR := Lib.hid (I.drop _ M r.id P4 A9b.out.now.read BD.out.1 SM.out)
  unfold StDropPost at IDR
  rw [BK.out.1, BK.out.2.2.2.1] at IDR
  obtain ⟨t0, t1, t2⟩ := CB.out P4 Q4.out
  go_wp2_with fail
  refine IDR.out.mono ?_
  rintro e w5 ⟨c10, rfl, h10, hb⟩
  have Q5 := Lib.hid (below_seq Q4.out hb)
  have A10 := Lib.hid (h10.lies (Nat.le_refl _))
  have A9c := Lib.hid (A9b.out.below hb)
  have cv1 := blk_conv (O4.out.below hb).now
  have cv2 := blk_conv ((O0.out.lies (show _ ≤ P.heap.size by omega)).below Q5.out).now
  obtain ⟨s0, s1, s2⟩ := C4.out w5 hb
  have SO := Lib.hid (uSpecStashOk _ M x y w5 A9c.out.now.read)
  rw [BK.out.2.2.1] at SO
  obtain ⟨n10, hn10⟩ : ∃ n, r.data.length = n := ⟨_, rfl⟩
  clear hb h10 IDR A9b Q4 t0 t1 t2 hP4 hT4 O4 K4 C4
  obtain ⟨t0, t1, t2⟩ := CB.out w5 Q5.out
  rw [hn10] at cv1 cv2 s2 t2
  clear hn10
  obtain ⟨sd, hsd⟩ : ∃ d, strL r.data = d := ⟨_, rfl⟩
  rw [hsd] at cv1 cv2
  clear hsd
  have hs1 : (sd.toList != sd.toList) = false := by simp
  have hs2 : (r.leaf != r.leaf) = false := by simp
  go_wp2_with fail
  refine SO.out.mono ?_
  rintro e w6 ⟨rfl, hb⟩
  have Q6 := Lib.hid (below_seq Q5.out hb)
  have A9d := Lib.hid (A9c.out.below hb)
  have A10b := Lib.hid (A10.out.below hb)
  clear hb SO cv1 cv2 hs1 hs2 s0 s1 s2 t0 t1 t2 A10 A9c Q5
  obtain ⟨F0, ⟨ac', capc', es0, G0, hc0, hm0, hn0, _⟩, _⟩ := N0.out
  have hl0 : es0.length = t.length := by rw [← hm0]; simp
  simp at hc0
  obtain ⟨rfl, -, rfl⟩ := hc0
  have NL := Lib.hid (fun w' (hb : Below P.heap.size P w') => hn0.below block_ong hb)
  have HM0 := Lib.hid hm0
  have CE := Lib.hid (fun w' (hb : Below P.heap.size P w') k (hk : k < t.length) => nrow_blk (NL.out w' hb) HM0.out hk)
  have hw6 : w.heap.size ≤ w6.heap.size := Nat.le_trans B0.out.size Q6.out.size
  have O6 := World.ownsRow_made (base := w6.heap.size) (e := 26) (size := 3) w6 #[] 0 (Nat.le_refl _) (by unfold maxLen; omega) rfl
  have S0 := Lib.hid (show ∃ (es : List (Elt BlkM 3)) (G : Nat → Foot), es.length = 0 ∧ es.map Elt.m = withoutL (t.take 0) r.id ∧ (w6.alloc (.cells #[] 26)).ownsRow w6.heap.size 26 3 (.slice (some ⟨w6.heap.size, 0, none⟩) 0 0) 0 (flatG eltL es) ∧ NRow BlockO 26 3 w.heap.size (some ⟨w6.heap.size, 0, none⟩) 0 es G (w6.alloc (.cells #[] 26)) ∧ (∀ i b, i < es.length → G i b → ∃ j, j < 0 ∧ G0 j b) from ⟨[], fun _ _ => False, rfl, by simp [withoutL], O6, ⟨own_base O6 hw6, fun i hi => by simp at hi, fun i j b hi => by simp at hi, fun i b hi => by simp at hi⟩, fun i b hi => by simp at hi⟩)
  have HB6 := Lib.hid (below_box (Below.refl w6.heap.size w6) (.cells #[] 26))
  clear hn0 hm0 O6
  unfold maxLen at hcm
  have ht200 : t.length ≤ 2000 := by have := SZ.out.1; unfold szBlockS at this; omega
  obtain ⟨id, hid⟩ : ∃ id, r.id = id := ⟨_, rfl⟩
  have HID := Lib.hid hid
  rw [hid] at CB S0 BK
  clear hid
  go_wp2_with fail
  go_loopg [15, 16] t.length (fun kk ov iv wr => ∃ (k n : Nat) (ao : Option Addr) (co : Nat), k ≤ t.length ∧ n ≤ k ∧ t.length - k = kk ∧ ov = .slice ao n co ∧ iv = .int .i64 k ∧ Hid (Below w6.heap.size w6 wr) ∧ Hid (∃ (es : List (Elt BlkM 3)) (G : Nat → Foot), es.length = n ∧ es.map Elt.m = withoutL (t.take k) id ∧ wr.ownsRow w6.heap.size 26 3 (.slice ao n co) n (flatG eltL es) ∧ NRow BlockO 26 3 w.heap.size ao co es G wr ∧ (∀ i b, i < es.length → G i b → ∃ j, j < k ∧ G0 j b)))
  case atStart => exact ⟨0, 0, _, _, Nat.zero_le _, Nat.le_refl _, rfl, rfl, rfl, HB6, S0⟩
  case round =>
    clear S0 HB6
    obtain ⟨k, n, ao, co, hk, hnk, hkk, rfl, rfl, HB, S⟩ := hrel
    by_cases hlt : k < t.length
    · have hltI : (k : Int) < (t.length : Int) := by omega
      have hk0 : (0 : Int) ≤ (k : Int) := by omega
      obtain ⟨g, xg, zg, hac, hcs, q0, q1, q2⟩ := CE.out wr (below_seq Q6.out HB.out) k hlt
      subst hac
      obtain ⟨t0, -, -⟩ := CB.out wr (below_seq Q6.out HB.out)
      obtain ⟨es, G, e1, e2, e3, e4, e5⟩ := S.out
      have TK := Lib.hid (without_take t id hlt)
      by_cases hi : t[k].id = id
      · have Z := Lib.hid (show ∀ w', Below wr.heap.size wr w' → ∃ (es : List (Elt BlkM 3)) (G : Nat → Foot), es.length = n ∧ es.map Elt.m = withoutL (t.take (k + 1)) id ∧ w'.ownsRow w6.heap.size 26 3 (.slice ao n co) n (flatG eltL es) ∧ NRow BlockO 26 3 w.heap.size ao co es G w' ∧ (∀ i b, i < es.length → G i b → ∃ j, j < k + 1 ∧ G0 j b) from fun w' hb => ⟨es, G, e1, by rw [TK.out, if_pos hi, List.append_nil]; exact e2, own_below e3 hb, e4.below block_ong hb, fun i b h1 h2 => by obtain ⟨j, h3, h4⟩ := e5 i b h1 h2; exact ⟨j, by omega, h4⟩⟩)
        have hne : (t[k].id != id) = false := by simp [hi]
        obtain ⟨ti, hti⟩ : ∃ z, t[k].id = z := ⟨_, rfl⟩
        rw [hti] at q0 hne
        clear S e1 e2 e3 e4 e5 TK hi hti hcs q1 q2
        go_wp2_with fail
        go_quiet (fail)
        go_wp2
        go_roundg (t.length - (k + 1))
        case measure => omega
        case rel => exact ⟨k + 1, n, _, _, by omega, by omega, rfl, rfl, by go_num, Lib.hid (below_seq HB.out (belowN _)), Lib.hid (Z.out _ (belowN _))⟩
      · have hne : (t[k].id != id) = true := by simp [hi]
        have FIN := Lib.hid (show ∀ W, Below wr.heap.size wr W → ∀ v5 w5, World.ownsRow w5 w6.heap.size 26 3 v5 (n + 1) (flatG eltL es ++ [.int .i64 t[k].id, .int .i64 t[k].leaf, .slice xg t[k].data.length zg]) → (W.alloc (.cells #[.int .i64 t[k].id, .int .i64 t[k].leaf, .slice xg t[k].data.length zg] 26)).grownBy w5 (Value.slice ao n co).ownBlock → ∃ a5 c5, v5 = .slice a5 (n + 1) c5 ∧ Below w6.heap.size w6 w5 ∧ ∃ (es : List (Elt BlkM 3)) (G : Nat → Foot), es.length = n + 1 ∧ es.map Elt.m = withoutL (t.take (k + 1)) id ∧ w5.ownsRow w6.heap.size 26 3 (.slice a5 (n + 1) c5) (n + 1) (flatG eltL es) ∧ NRow BlockO 26 3 w.heap.size a5 c5 es G w5 ∧ (∀ i b, i < es.length → G i b → ∃ j, j < k + 1 ∧ G0 j b) from fun W hW v5 w5 ho hg => by
          have bP := below_seq Q6.out (below_seq HB.out hW)
          obtain ⟨a5, c5, hv, es', G', f1, f2, f3, f4⟩ := kept_more (NL.out W bP) HM0.out hlt hi (e4.below block_ong hW) e2 e5 e1 hcs (own_base ho hw6) hg
          subst hv
          have bx := below_box (Below.refl W.heap.size W) (.cells #[.int .i64 t[k].id, .int .i64 t[k].leaf, .slice xg t[k].data.length zg] 26)
          have hfl := f3.row
          rw [f1] at hfl
          refine ⟨a5, c5, rfl, (below_seq HB.out (below_seq hW bx)).grown hg (by have := HB.out.size; have := hW.size; simp; omega) (fun b hb => (e3.lt b hb).1), es', G', f1, f2, ?_, f3, f4⟩
          have e6 : flatG eltL es' = flatG eltL es ++ [.int .i64 t[k].id, .int .i64 t[k].leaf, .slice xg t[k].data.length zg] := row_same hfl (own_base ho hw6)
          rw [e6]; exact ho)
        have ROW := Lib.hid (show ∀ W, Below wr.heap.size wr W → (W.alloc (.cells #[.int .i64 t[k].id, .int .i64 t[k].leaf, .slice xg t[k].data.length zg] 26)).ownsRow w6.heap.size 26 3 (.slice ao n co) n (flatG eltL es) from fun W hW => own_below e3 (below_seq hW (below_box (Below.refl W.heap.size W) _)))
        have hs6 := HB.out.size
        obtain ⟨ti, hti⟩ : ∃ z, t[k].id = z := ⟨_, rfl⟩
        obtain ⟨tl, htl⟩ : ∃ z, t[k].leaf = z := ⟨_, rfl⟩
        obtain ⟨tn, htn⟩ : ∃ z, t[k].data.length = z := ⟨_, rfl⟩
        rw [hti] at q0 hne
        rw [htl] at q1
        rw [htn] at q2
        rw [hti, htl, htn] at FIN ROW
        clear S e1 e2 e3 e4 e5 TK hi hti htl htn hcs
        go_wp2_with fail
        go_quiet (fail)
        go_wp2_with (at_builtin; go_must (refine wp_app_rowS rfl _ _ 24 rfl 26 _ 3 40 Try.underlying24 Try.infoBlk rfl (by omega) w6.heap.size n (.slice ao n co) (flatG eltL es) (by rfl) (ROW.out _ (belowN _)) (some ⟨wr.heap.size, 0, none⟩) 1 1 [.int .i64 ti, .int .i64 tl, .slice xg tn zg] (by rfl) rfl (lit_rowB _ [.int .i64 ti, .int .i64 tl, .slice xg tn zg] 26) (by intro u hu; simp at hu; rcases hu with rfl | rfl | rfl <;> rfl) (by unfold maxLen; omega) (by omega) (by simp; omega) ?_); intro v5 w5 ho5 hg5)
        obtain ⟨a5, c5, rfl, hb5, Z0⟩ := FIN.out _ (belowN _) v5 w5 ho5 hg5
        have Z := Lib.hid Z0
        have HB5 := Lib.hid hb5
        clear Z0 hb5 ho5 hg5 FIN ROW
        go_wp2
        go_roundg (t.length - (k + 1))
        case measure => omega
        case rel => exact ⟨k + 1, n + 1, _, _, by omega, by omega, rfl, by go_num, by go_num, HB5, Z⟩
    · have hkl : k = t.length := by omega
      have hge : ¬ (k : Int) < (t.length : Int) := by omega
      obtain ⟨es, G, e1, e2, e3, e4, e5⟩ := S.out
      rw [hkl, List.take_length] at e2
      have RO : BlockSOwn w.heap.size wr.heap.size [.slice ao n co] (withoutL t id) wr := by
        have := nrow_own e4
        rw [e1, e2] at this
        exact this
      have hnl : n = (withoutL t id).length := by rw [← e2, List.length_map, e1]
      have BR := Lib.hid (below_seq Q6.out HB.out)
      have A9e := Lib.hid (A9d.out.below HB.out)
      have A10c := Lib.hid (A10b.out.below HB.out)
      have RL := Lib.hid (RO.lies (Nat.le_refl _))
      have IFL := Lib.hid (I.find c10 (withoutL t id) id wr (by have := A10c.out.now.read; rw [HID.out] at this; exact this) (by have := BD.out.1; rw [HID.out] at this; exact this) (Nat.le_trans (szBlockS_without t id) (by have := SZ.out.1; omega)))
      unfold StFindPost at IFL
      rw [BK.out.2.2.2.2.1] at IFL
      have HLN := Lib.hid (show M.length = n + 1 by rw [BK.out.2.2.2.2.2, hnl])
      obtain ⟨t0, -, -⟩ := CB.out wr BR.out
      clear S e1 e2 e3 e4 e5 RO HB A9d A10b Q6 hnl CE NL
      go_wp2_with fail
      refine IFL.out.mono ?_
      rintro e w7 ⟨d0, d1, d2, rfl, h7, hb⟩
      obtain ⟨z0, z1, xa, xn, xz, rfl, rfl, rfl⟩ := h7.shape
      have b8 := below_seq hb (below_box (Below.refl w7.heap.size w7) (.cells #[.int .i64 z0, .int .i64 z1, .slice xa xn xz] 26))
      have SB := Lib.hid (uSameBlocks _ _ _ _ c10 (.slice ao n co) (withoutL t id) _ (by have := (A10c.out.below b8).now; rw [HID.out] at this; exact this) (RL.out.below b8).now)
      have B8 := Lib.hid (below_seq B0.out (below_seq BR.out b8))
      clear hb h7 b8 IFL A9e A10c RL BR t0
      go_wp2_with fail
      refine SB.out.mono ?_
      rintro e w9 ⟨rfl, hb⟩
      have B9 := Lib.hid (below_seq B8.out hb)
      have hln := HLN.out
      have hlq : ((M.length : Int) == (n : Int) + 1) = true := by simp; omega
      clear hb SB B8
      go_wp2
      go_ret
      exact ⟨ret_bool (by simp <;> omega), B9.out⟩
end Go.Proofs.Ytmkgddbdkpkgpaa.fnStashBook
end
