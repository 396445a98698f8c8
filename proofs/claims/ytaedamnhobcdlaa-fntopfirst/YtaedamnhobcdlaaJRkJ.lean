/- RkI, RkJ in one. Written by tools/join.py. -/
import Derived.Test.YtaedamnhobcdlaaJRkB
import Derived.Test.YtaedamnhobcdlaaJRkL
import Derived.Test.YtaedamnhobcdlaaJNtX
import Derived.Test.YtaedamnhobcdlaaJRecK
import Derived.Laws.EntriesVeiled
import Derived.Deep.RegionHeld3
import Derived.Deep.DeepCutAuto
import Derived.Deep.LoopGhost
section
namespace Go.Proofs.Ytaedamnhobcdlaa
open Go.RowKit
set_option linter.unusedVariables false
set_option linter.unusedSimpArgs false
set_option maxRecDepth 100000

set_option maxHeartbeats 1000000 in
theorem uImplRankSize (n : Int) (w : World) (hb : -9223372036854775808 ≤ n ∧ n ≤ 9223372036854775807) : Calls Try.prog 17 #[.int .i64 n] w fun e w' => e = .returned (.int .i64 (rankSizeZ n)) ∧ Below w.heap.size w w' := by
  by_cases h0 : n < 0
  · have E := Lib.hid (rankSizeZ_no (.inl h0))
    go_enter Try.func17, Try.ntmps17
    go_wp2
    go_ret
    exact ⟨ret_int E.out.symm, Below.refl _ _⟩
  by_cases h1 : 64 < n
  · have E := Lib.hid (rankSizeZ_no (.inr h1))
    go_enter Try.func17, Try.ntmps17
    go_wp2
    go_ret
    exact ⟨ret_int E.out.symm, Below.refl _ _⟩
  obtain ⟨m, rfl⟩ : ∃ m : Nat, n = m := ⟨n.toNat, by omega⟩
  have E := Lib.hid (rankSizeZ_at (n := m) (by omega))
  have hm : m ≤ 64 := by omega
  go_enter Try.func17, Try.ntmps17
  go_wp2
  go_loop [3] (fun v => ∃ s : Nat, v = .int .i64 s ∧ s ≤ 64 ∧ Hid (dbl s m)) (fun v => 128 - (intOf v).toNat)
  case atStart => exact ⟨1, rfl, by omega, Lib.hid (dbl_start m)⟩
  case round =>
    obtain ⟨s, rfl, hs, D⟩ := hrel
    by_cases hlt : s < m
    · have N := Lib.hid (dbl_next D.out hm hlt)
      have hs2 := N.out.2
      have hp : 1 ≤ s := by rcases D.out.1 with h | h | h | h | h | h | h <;> omega
      go_wp2
      go_round
      case rel => exact ⟨2 * s, by go_num, by omega, Lib.hid N.out.1⟩
      case measure => simp [intOf]; omega
    · have F := Lib.hid (dbl_done D.out hm hlt)
      go_wp2
      go_ret
      exact ⟨ret_int (by rw [E.out, ← F.out]), Below.refl _ _⟩
set_option maxHeartbeats 2000000 in
theorem uImplRankSteps (n : Int) (w : World) (hb : -9223372036854775808 ≤ n ∧ n ≤ 9223372036854775807) : Calls Try.prog 22 #[.int .i64 n] w fun e w' => e = .returned (.int .i64 (rankStepsZ n)) ∧ Below w.heap.size w w' := by
  have RS := Lib.hid (fun w' => uImplRankSize n w' hb)
  by_cases hbad : n < 0 ∨ 64 < n
  · have E := Lib.hid (show rankStepsZ n = -1 by unfold rankStepsZ; rw [if_pos hbad])
    rw [rankSizeZ_no hbad] at RS
    clear hbad
    go_enter Try.func22, Try.ntmps22
    go_wp2_with fail
    refine (RS.out _).mono ?_
    rintro e w1 ⟨rfl, hb⟩
    have B := Lib.hid hb
    clear hb
    go_wp2
    go_ret
    exact ⟨ret_int E.out.symm, B.out⟩
  · have E := Lib.hid (show rankStepsZ n = ((bitonicM (rankSizeZ n)).ws.length : Int) by unfold rankStepsZ; rw [if_neg hbad])
    obtain ⟨m, rfl⟩ : ∃ m : Nat, n = m := ⟨n.toNat, by omega⟩
    have hs := sizeUp_le (n := m) (by omega)
    rw [rankSizeZ_at (by omega)] at RS E
    have BT := Lib.hid (fun w' => uImplBitonic (sizeUp m : Int) w' (by omega))
    have hsp : (0 : Int) ≤ (sizeUp m : Int) := by omega
    generalize sizeUp m = s at *
    clear hbad
    go_enter Try.func22, Try.ntmps22
    go_wp2_with fail
    refine (RS.out _).mono ?_
    rintro e w1 ⟨rfl, hb⟩
    have B := Lib.hid hb
    clear hb
    go_wp2_with fail
    refine (BT.out _).mono ?_
    rintro e w3 h3
    obtain ⟨c0, c1, rfl, ho, hb⟩ := h3
    obtain ⟨ad, kd, rfl, rfl, _⟩ := netIn_cells ho.read
    replace B := Lib.hid (below_seq B.out hb)
    clear hb ho
    go_wp2_with fail
    rw [net_field]
    simp only [Result.andThen]
    rw [Oper.upon_value]
    go_wp2
    go_ret
    exact ⟨ret_int E.out.symm, B.out⟩
theorem byRankC (w : World) : Calls Try.prog 44 #[] w fun e w' => e = .returned (.agg #[.func (.func 74) #[] #[]]) ∧ Below w.heap.size w w' := by
  go_enter Try.func44, Try.ntmps44
  go_wp2
  exact bodyPost_ret (v := .agg #[.func (.func 74) #[] #[]]) (by simp [results, Try.results44, go_sem]) rfl ⟨rfl, below_box (Below.refl _ _) _⟩
/-- A row out of no memory has no elements. -/
theorem row_none {α : Type} {f : α → List Value} {s : Nat} (hf : ∀ x, (f x).length = s) (h0 : 0 < s) {w : World} {l : List α} (h : Row w none (flatG f l)) : l = [] := by
  rcases h with h | ⟨b, off, hb, _⟩
  · have := flatG_len hf l
    rw [h] at this
    rcases l with _ | ⟨x, l⟩
    · rfl
    · simp only [List.length_nil, List.length_cons] at this
      have := Nat.mul_pos (show 0 < l.length + 1 by omega) h0
      omega
  · cases hb
theorem flatG_nil {α : Type} (f : α → List Value) : flatG f [] = [] := rfl
theorem Try.infoRecM : (Try.prog.info? 30).map (fun i => (i.zero, i.size, i.bytes)) = some (some (.agg #[.bool false, .int .i64 0, .int .i64 0, .string ⟨#[]⟩]), 4, 40) := Try.infoRec
set_option maxHeartbeats 1000000 in
theorem cloneR (a : Option Addr) (cap : Nat) (l : List RecM) (w : World) (hl : l.length ≤ 64) (r : Row w a (flatG recL l)) : Calls Try.prog 77 #[.slice a l.length cap] w fun e w' => ∃ v, e = .returned v ∧ w'.ownsRow w.heap.size 30 4 v l.length (flatG recL l) ∧ Below w.heap.size w w' := by
  have R := Lib.hid r
  cases a with
  | none =>
    have e0 := row_none recL_len (by decide) r
    subst e0
    clear r R hl
    go_enter Try.func77, Try.ntmps77
    have hq : (binOp .eql 24 (.slice none 0 cap) (.slice none 0 0)).run Try.prog w = .ok (.bool true) w := by kernel_rfl
    go_wp2
    go_ret
    exact ⟨_, rfl, ⟨rfl, .inl ⟨rfl, rfl⟩⟩, Below.refl _ _⟩
  | some ad =>
    have RA := Lib.hid (r.below (below_box (Below.refl _ w) (.cells #[] 30)))
    clear r R
    go_enter Try.func77, Try.ntmps77
    have hq : (binOp .eql 24 (.slice (some ad) l.length cap) (.slice none 0 0)).run Try.prog w = .ok (.bool false) w := by kernel_rfl
    go_wp2_with (at_builtin; go_must (refine wp_app_rowS rfl _ _ 24 rfl 30 _ 4 40 Try.underlying24 Try.infoRecM rfl (by omega) w.heap.size 0 (.slice (some ⟨w.heap.size, 0, none⟩) 0 0) [] (by rfl) (World.ownsRow_made w #[] 0 (Nat.le_refl _) (by unfold maxLen; omega) rfl) (some ad) l.length cap (flatG recL l) (by rfl) (flatG_len recL_len l) RA.out (flatG_one recL_one _) (by unfold maxLen; omega) (by omega) (by simp) ?_); intro v3 w3 ho3 hg3)
    rw [Nat.zero_add, List.nil_append] at ho3
    have Z := Lib.hid (And.intro ho3 ((below_box (Below.refl w.heap.size w) (.cells #[] 30)).grown hg3 (by simp) (fun g hg => by cases hg; exact Nat.le_refl _)))
    clear ho3 hg3 RA
    go_wp2
    go_ret
    exact ⟨_, rfl, Z.out.1, Z.out.2⟩
end Go.Proofs.Ytaedamnhobcdlaa
end

section
namespace Go.Proofs.Ytaedamnhobcdlaa
open Go.RowKit
set_option linter.unusedVariables false
set_option linter.unusedSimpArgs false
set_option maxRecDepth 100000

set_option maxHeartbeats 2000000 in
theorem pairR (a b : RecM) (w : World) (ha : recOkB a = true) (hb0 : recOkB b = true) (h1 : recBd a) (h2 : recBd b) : Calls Try.prog 78 #[.agg #[.func (.func 74) #[] #[]], .agg #[.bool a.live, .int .i64 a.dist, .int .i64 a.weight, .string a.word], .agg #[.bool b.live, .int .i64 b.dist, .int .i64 b.weight, .string b.word]] w fun e w' => e = .returned (.tuple #[.agg #[.bool (pairA a b).live, .int .i64 (pairA a b).dist, .int .i64 (pairA a b).weight, .string (pairA a b).word], .agg #[.bool (pairB a b).live, .int .i64 (pairB a b).dist, .int .i64 (pairB a b).weight, .string (pairB a b).word]]) ∧ Below w.heap.size w w' := by
  have AH := Lib.hid (fun w => implAhead b a w h2.2.2)
  rw [aheadP_ok hb0 ha] at AH
  unfold RecM.cells at AH
  unfold pairA pairB
  clear ha hb0 h1 h2
  obtain ⟨la, da, ta, wa⟩ := a
  obtain ⟨lb, db, tb, wb⟩ := b
  simp only at AH ⊢
  generalize aheadB ⟨lb, db, tb, wb⟩ ⟨la, da, ta, wa⟩ = q at *
  cases q
  all_goals
   obtain ⟨w0, hw0⟩ : ∃ w0, w0 = (((((w.alloc (.cells #[.func (.func 74) #[] #[]] 61)).alloc (.cells #[.bool la, .int .i64 da, .int .i64 ta, .string wa] 30)).alloc (.cells #[.bool lb, .int .i64 db, .int .i64 tb, .string wb] 30)).alloc (.cells #[.bool false, .int .i64 0, .int .i64 0, .string ⟨#[]⟩] 30)).alloc (.cells #[.bool false, .int .i64 0, .int .i64 0, .string ⟨#[]⟩] 30)) := ⟨_, rfl⟩
   have K0 := Lib.hid (show w0.heap[w.heap.size]? = some (.cells #[.func (.func 74) #[] #[]] 61 (0, 0)) by rw [hw0]; exact (alloc_old _ _ _ (by first | (simp; done) | (simp; omega))).trans ((alloc_old _ _ _ (by first | (simp; done) | (simp; omega))).trans ((alloc_old _ _ _ (by first | (simp; done) | (simp; omega))).trans ((alloc_old _ _ _ (by first | (simp; done) | (simp; omega))).trans (alloc_at _ _ _ (by simp))))))
   have K1 := Lib.hid (show w0.heap[w.heap.size + 1]? = some (.cells #[.bool la, .int .i64 da, .int .i64 ta, .string wa] 30 (0, 0)) by rw [hw0]; exact (alloc_old _ _ _ (by first | (simp; done) | (simp; omega))).trans ((alloc_old _ _ _ (by first | (simp; done) | (simp; omega))).trans ((alloc_old _ _ _ (by first | (simp; done) | (simp; omega))).trans (alloc_at _ _ _ (by simp)))))
   have K2 := Lib.hid (show w0.heap[w.heap.size + 1 + 1]? = some (.cells #[.bool lb, .int .i64 db, .int .i64 tb, .string wb] 30 (0, 0)) by rw [hw0]; exact (alloc_old _ _ _ (by first | (simp; done) | (simp; omega))).trans ((alloc_old _ _ _ (by first | (simp; done) | (simp; omega))).trans (alloc_at _ _ _ (by simp))))
   have K3 := Lib.hid (show w0.heap[w.heap.size + 1 + 1 + 1]? = some (.cells #[.bool false, .int .i64 0, .int .i64 0, .string ⟨#[]⟩] 30 (0, 0)) by rw [hw0]; exact (alloc_old _ _ _ (by first | (simp; done) | (simp; omega))).trans (alloc_at _ _ _ (by simp)))
   have K4 := Lib.hid (show w0.heap[w.heap.size + 1 + 1 + 1 + 1]? = some (.cells #[.bool false, .int .i64 0, .int .i64 0, .string ⟨#[]⟩] 30 (0, 0)) by rw [hw0]; exact alloc_at _ _ _ (by simp))
   have HB := Lib.hid (show Below w.heap.size w w0 by rw [hw0]; exact below_box (below_box (below_box (below_box (below_box (Below.refl _ w) _) _) _) _) _)
   have f0 := cur_cell K0.out 0
   have a0 := cur_cell K1.out 0
   have x0 := cur_cell K1.out 0
   have y0 := cur_cell K2.out 0
   have x1 := cur_cell K1.out 1
   have y1 := cur_cell K2.out 1
   have x2 := cur_cell K1.out 2
   have y2 := cur_cell K2.out 2
   have x3 := cur_cell K1.out 3
   have y3 := cur_cell K2.out 3
   simp at f0 x0 y0 x1 y1 x2 y2 x3 y3
   clear a0
   go_enter Try.func78, Try.ntmps78
   go_wp2_with fail
   rw [← hw0]
   clear hw0
   refine (AH.out _).mono ?_
   rintro e w1 ⟨rfl, hb⟩
   clear f0 x0 y0 x1 y1 x2 y2 x3 y3
   replace K1 := Lib.hid (kept_block K1.out hb)
   replace K2 := Lib.hid (kept_block K2.out hb)
   replace K3 := Lib.hid (kept_block K3.out hb)
   replace K4 := Lib.hid (kept_block K4.out hb)
   replace HB := Lib.hid (below_seq HB.out hb)
   clear hb AH K0
   have a0 := cur_cell K1.out 0
   have a1 := cur_cell K1.out 1
   have a2 := cur_cell K1.out 2
   have a3 := cur_cell K1.out 3
   have b0 := cur_cell K2.out 0
   have b1 := cur_cell K2.out 1
   have b2 := cur_cell K2.out 2
   have b3 := cur_cell K2.out 3
   have r0 := cur_cell K3.out 0
   have r1 := cur_cell K3.out 1
   have r2 := cur_cell K3.out 2
   have r3 := cur_cell K3.out 3
   have s0 := cur_cell K4.out 0
   have s1 := cur_cell K4.out 1
   have s2 := cur_cell K4.out 2
   have s3 := cur_cell K4.out 3
   have fr0 := cur_free K3.out 0
   have fr1 := cur_free K3.out 1
   have fr2 := cur_free K3.out 2
   have fr3 := cur_free K3.out 3
   have fs0 := cur_free K4.out 0
   have fs1 := cur_free K4.out 1
   have fs2 := cur_free K4.out 2
   have fs3 := cur_free K4.out 3
   simp at a0 a1 a2 a3 b0 b1 b2 b3 r0 r1 r2 r3 s0 s1 s2 s3
   have GV := Lib.hid (fun W' (C : Chg w.heap.size (w.heap.size + 5) w1 W') => Chg.below HB.out C (Nat.le_refl _))
   clear K1 K2 K3 K4
   go_wp2_with fail
   go_region
   go_wp2
   first
     | exact bodyPost_ret (v := .tuple #[.agg #[.bool la, .int .i64 da, .int .i64 ta, .string wa], .agg #[.bool lb, .int .i64 db, .int .i64 tb, .string wb]]) (by simp [results, Try.results78, go_sem, r0, r1, r2, r3, s0, s1, s2, s3]) rfl ⟨rfl, GV.out _ ((chg_rec (chg_rec (Chg.refl _ _ w1) ⟨by omega, by omega⟩ _ _ _ _) ⟨by omega, by omega⟩ _ _ _ _).trans (Chg.of_below (belowN 1)))⟩
     | exact bodyPost_ret (v := .tuple #[.agg #[.bool lb, .int .i64 db, .int .i64 tb, .string wb], .agg #[.bool la, .int .i64 da, .int .i64 ta, .string wa]]) (by simp [results, Try.results78, go_sem, r0, r1, r2, r3, s0, s1, s2, s3]) rfl ⟨rfl, GV.out _ ((chg_rec (chg_rec (Chg.refl _ _ w1) ⟨by omega, by omega⟩ _ _ _ _) ⟨by omega, by omega⟩ _ _ _ _).trans (Chg.of_below (belowN 1)))⟩
set_option maxHeartbeats 8000000 in
theorem runR (c0 c1 : Value) (n : Nat) (ws : List WireM) (a : Option Addr) (cap : Nat) (l : List RecM) (w : World) (h : NetIn [c0, c1] ⟨n, ws⟩ w) (hln : l.length = n) (hn1 : 1 ≤ n) (hn64 : n ≤ 64) (hws : ws.length ≤ 4096) (hwk : ∀ t ∈ ws, WireOk n t) (hok : okAll l) (hbd : ∀ t ∈ l, recBd t) (r : Row w a (flatG recL l)) : Calls Try.prog 49 #[.agg #[.func (.func 74) #[] #[]], .agg #[c0, c1], .slice a l.length cap] w fun e w' => ∃ G cp, e = .returned (.slice (some ⟨G, 0, none⟩) l.length cp) ∧ w'.ownsRow w.heap.size 30 4 (.slice (some ⟨G, 0, none⟩) l.length cp) l.length (flatG recL (runRm ws l)) ∧ Below w.heap.size w w' := by
  obtain ⟨aw, kw, rfl, rfl, hkw, hmw, rw_⟩ := netIn_cells h
  simp only at hkw hmw rw_ ⊢
  have RW := Lib.hid rw_
  have CL := Lib.hid (fun w' (hb : Below w.heap.size w w') => cloneR a cap l w' (by omega) (r.below hb))
  have HL := Lib.hid hln
  have WK := Lib.hid hwk
  have ML := Lib.hid (fun q => runRm_length (ws.take q) l)
  have MB := Lib.hid (fun q => fun t ht => hbd t (runRm_mem (ws.take q) l hln (fun x hx => hwk x (List.mem_of_mem_take hx)) t ht))
  have MO := Lib.hid (fun q => fun t ht => hok t (runRm_mem (ws.take q) l hln (fun x hx => hwk x (List.mem_of_mem_take hx)) t ht))
  have hl1 : 1 ≤ l.length := by omega
  have hl64 : l.length ≤ 64 := by omega
  unfold maxLen at hmw
  clear h r rw_ hwk hln hok hbd
  obtain ⟨W0, hW0⟩ : ∃ W0, W0 = (w.alloc (.cells #[.func (.func 74) #[] #[]] 61)).alloc (.cells #[.int .i64 n, .slice aw ws.length kw] 36) := ⟨_, rfl⟩
  have K0 := Lib.hid (show W0.heap[w.heap.size]? = some (.cells #[.func (.func 74) #[] #[]] 61 (0, 0)) by rw [hW0]; exact (alloc_old _ _ _ (by simp)).trans (alloc_at _ _ _ rfl))
  have K1 := Lib.hid (show W0.heap[w.heap.size + 1]? = some (.cells #[.int .i64 n, .slice aw ws.length kw] 36 (0, 0)) by rw [hW0]; exact alloc_at _ _ _ (by simp))
  have B0 := Lib.hid (show Below w.heap.size w W0 by rw [hW0]; exact below_box (below_box (Below.refl _ w) _) _)
  go_enter Try.func49, Try.ntmps49
  go_wp2_with fail
  rw [← hW0]
  clear hW0
  refine (CL.out _ B0.out).mono ?_
  rintro e w1 ⟨v, rfl, ho, hb⟩
  obtain ⟨a5, cp, rfl⟩ := own_shape ho
  obtain ⟨G, rfl, hG⟩ := own_some ho (by omega)
  have k1' := kept_block K1.out hb
  have d0 := cur_cell k1' 1
  simp at d0
  have hTG : w.heap.size + 1 < G := Nat.lt_of_lt_of_le (cur_lt K1.out) hG
  have S0 := Lib.hid (And.intro (own_base ho B0.out.size) (And.intro (kept_block K0.out hb) (And.intro k1' (below_seq B0.out hb))))
  clear ho hb CL K0 K1 B0 k1' hG
  go_wp2_with fail
  go_loopg [15] ws.length (fun k i wr => ∃ q : Nat, q ≤ ws.length ∧ ws.length - q = k ∧ i = .int .i64 q ∧ Hid (wr.ownsRow w.heap.size 30 4 (.slice (some ⟨G, 0, none⟩) l.length cp) l.length (flatG recL (runRm (ws.take q) l)) ∧ wr.heap[w.heap.size]? = some (.cells #[.func (.func 74) #[] #[]] 61 (0, 0)) ∧ wr.heap[w.heap.size + 1]? = some (.cells #[.int .i64 n, .slice aw ws.length kw] 36 (0, 0)) ∧ Below w.heap.size w wr))
  case atStart => exact ⟨0, Nat.zero_le _, rfl, rfl, S0⟩
  case round =>
    clear S0 d0
    obtain ⟨q, hq, hk, rfl, H⟩ := hrel
    by_cases hlt : q < ws.length
    · obtain ⟨bw, ow, rfl, e0, e1⟩ := (RW.out.below H.out.2.2.2).wire hlt
      obtain ⟨A, B, hA, hB, hAB, hBn⟩ := WK.out _ (List.getElem_mem hlt)
      have NX := Lib.hid (runRm_next hlt l)
      unfold wireRec at NX
      rw [hA, hB, Int.toNat_natCast, Int.toNat_natCast] at NX
      rw [hA] at e0
      rw [hB] at e1
      have OL := Lib.hid (ML.out q)
      have OB := Lib.hid (MB.out q)
      have OO := Lib.hid (MO.out q)
      obtain ⟨O, hO⟩ : ∃ O, runRm (ws.take q) l = O := ⟨_, rfl⟩
      rw [hO] at H OL NX OB OO
      clear hO hA hB
      have hln := HL.out
      have hAO : A < O.length := by rw [OL.out]; omega
      have hBO : B < O.length := by rw [OL.out]; omega
      obtain ⟨x, hx⟩ : ∃ x, O[A] = x := ⟨_, rfl⟩
      obtain ⟨y, hy⟩ : ∃ y, O[B] = y := ⟨_, rfl⟩
      have XB := Lib.hid (hx ▸ OB.out _ (List.getElem_mem hAO))
      have YB := Lib.hid (hy ▸ OB.out _ (List.getElem_mem hBO))
      have XO := Lib.hid (hx ▸ OO.out _ (List.getElem_mem hAO))
      have YO := Lib.hid (hy ▸ OO.out _ (List.getElem_mem hBO))
      have EX : O.getD A zeroR = x := by rw [← hx, List.getD_eq_getElem?_getD]; simp [hAO]
      have EY : O.getD B zeroR = y := by rw [← hy, List.getD_eq_getElem?_getD]; simp [hBO]
      unfold stepR at NX
      rw [EX, EY] at NX
      have UP := Lib.hid (fun w' => pairR x y w' XO.out YO.out XB.out YB.out)
      obtain ⟨p, hp⟩ : ∃ p, pairA x y = p := ⟨_, rfl⟩
      obtain ⟨p2, hp2⟩ : ∃ p2, pairB x y = p2 := ⟨_, rfl⟩
      rw [hp, hp2] at NX UP
      clear EX EY hp hp2 OB OO XB YB XO YO
      have hA0 : (0 : Int) ≤ (A : Int) := by omega
      have hA1 : (A : Int) < (l.length : Int) := by omega
      have hB0 : (0 : Int) ≤ (B : Int) := by omega
      have hB1 : (B : Int) < (l.length : Int) := by omega
      clear hln
      obtain ⟨W7, hW7⟩ : ∃ W7, W7 = wr.alloc (.cells #[.int .i64 A, .int .i64 B] 87) := ⟨_, rfl⟩
      have BW := Lib.hid (show Below wr.heap.size wr W7 by rw [hW7]; exact below_box (Below.refl _ wr) _)
      have K7 := Lib.hid (show W7.heap[wr.heap.size]? = some (.cells #[.int .i64 A, .int .i64 B] 87 (0, 0)) by rw [hW7]; exact alloc_at _ _ _ rfl)
      have O7 := Lib.hid (own_below H.out.1 BW.out)
      have KF := Lib.hid (kept_block H.out.2.1 BW.out)
      have KT := Lib.hid (kept_block H.out.2.2.1 BW.out)
      have BB := Lib.hid (below_seq H.out.2.2.2 BW.out)
      have hGX : G < wr.heap.size := (H.out.1.lt G rfl).2
      have hX7 : wr.heap.size + 1 ≤ W7.heap.size := cur_lt K7.out
      go_upto_region 5 with fail
      rw [← hW7]
      clear hW7 e0 e1 H BW
      generalize wr.heap.size = X at *
      have DD := Lib.hid (below_drew (Below.refl W7.heap.size W7))
      have hDS : W7.drew.heap.size = W7.heap.size := rfl
      obtain ⟨WD, hWD⟩ : ∃ WD, WD = W7.drew := ⟨_, rfl⟩
      have OD := Lib.hid (show WD.ownsRow w.heap.size 30 4 (.slice (some ⟨G, 0, none⟩) l.length cp) l.length (flatG recL O) by rw [hWD]; exact own_below O7.out DD.out)
      have KXD := Lib.hid (show WD.heap[X]? = some (.cells #[.int .i64 A, .int .i64 B] 87 (0, 0)) by rw [hWD]; exact kept_block K7.out DD.out)
      have KFD := Lib.hid (show WD.heap[w.heap.size]? = some (.cells #[.func (.func 74) #[] #[]] 61 (0, 0)) by rw [hWD]; exact kept_block KF.out DD.out)
      have KTD := Lib.hid (show WD.heap[w.heap.size + 1]? = some (.cells #[.int .i64 n, .slice (some ⟨bw, ow, none⟩) ws.length kw] 36 (0, 0)) by rw [hWD]; exact kept_block KT.out DD.out)
      have BD := Lib.hid (show Below w.heap.size w WD by rw [hWD]; exact below_seq BB.out DD.out)
      clear DD hDS O7 K7 KF KT BB hX7
      have SF := Lib.hid (fun (w' : World) (h1 : w'.heap[X]? = some (.cells #[.int .i64 A, .int .i64 B] 87 (0, 0))) (h2 : w'.heap[w.heap.size]? = some (.cells #[.func (.func 74) #[] #[]] 61 (0, 0))) => (show w'.cell? ⟨X, 0, none⟩ = some (.int .i64 A) ∧ w'.cell? ⟨X, 1, none⟩ = some (.int .i64 B) ∧ w'.cell? ⟨w.heap.size, 0, none⟩ = some (.func (.func 74) #[] #[]) from ⟨cur_cell h1 0, cur_cell h1 1, cur_cell h2 0⟩))
      have nX : ¬ X = G := by omega
      have nF : ¬ w.heap.size = G := by omega
      have nT : ¬ w.heap.size + 1 = G := by omega
      refine wp_region_held_drew (S := (fun w' => w'.cell? ⟨X, 0, none⟩ = some (.int .i64 A) ∧ w'.cell? ⟨X, 1, none⟩ = some (.int .i64 B) ∧ w'.cell? ⟨w.heap.size, 0, none⟩ = some (.func (.func 74) #[] #[]))) (by kernel_rfl) (by rw [← hWD]; exact SF.out _ KXD.out KFD.out) (fun hHeld => ?_)
      rw [← hWD] at hHeld ⊢
      clear hWD
      refine wpAnyH_take (i := 0) (oi := ?oh_0) (v := ?vh_0) ?hih_0 (by kernel_rfl) (by kernel_rfl) (by kernel_rfl) ?hqh_0 ?hyh_0 (by assumption) ?rh_0
      case hih_0 => (simp only [List.getElem?_toArray, List.getElem?_cons_succ, List.getElem?_cons_zero]; rfl)
      case hqh_0 => exact fun _ _ _ h => h
      case hyh_0 =>
        refine Or.inl ⟨by rfl, ?_⟩; intro wq hSw; (try dsimp only at hSw); go_simp; (try with_reducible rfl); done
      try simp only [Act.put, List.setIfInBounds_toArray, List.set_cons_zero, List.set_cons_succ]
      refine wpAnyH_take (i := 1) (oi := ?oh_1) (v := ?vh_1) ?hih_1 (by kernel_rfl) (by kernel_rfl) (by kernel_rfl) ?hqh_1 ?hyh_1 (by assumption) ?rh_1
      case hih_1 => (simp only [List.getElem?_toArray, List.getElem?_cons_succ, List.getElem?_cons_zero]; rfl)
      case hqh_1 => exact fun _ _ _ h => h
      case hyh_1 =>
        refine Or.inl ⟨by rfl, ?_⟩; intro wq hSw; (try dsimp only at hSw); go_simp; (try with_reducible rfl); done
      try simp only [Act.put, List.setIfInBounds_toArray, List.set_cons_zero, List.set_cons_succ]
      refine wpAnyH_take (i := 2) (oi := ?oh_2) (v := ?vh_2) ?hih_2 (by kernel_rfl) (by kernel_rfl) (by kernel_rfl) ?hqh_2 ?hyh_2 (by assumption) ?rh_2
      case hih_2 => (simp only [List.getElem?_toArray, List.getElem?_cons_succ, List.getElem?_cons_zero]; rfl)
      case hqh_2 => exact fun _ _ _ h => h
      case hyh_2 =>
        refine Or.inl ⟨by rfl, ?_⟩; intro wq hSw; (try dsimp only at hSw); go_simp; (try with_reducible rfl); done
      try simp only [Act.put, List.setIfInBounds_toArray, List.set_cons_zero, List.set_cons_succ]
      refine wpAnyH_take (i := 3) (oi := ?oh_3) (v := ?vh_3) ?hih_3 (by kernel_rfl) (by kernel_rfl) (by kernel_rfl) ?hqh_3 ?hyh_3 (by assumption) ?rh_3
      case hih_3 => (simp only [List.getElem?_toArray, List.getElem?_cons_succ, List.getElem?_cons_zero]; rfl)
      case hqh_3 => exact fun _ _ _ h => h
      case hyh_3 =>
        refine Or.inl ⟨by rfl, ?_⟩; intro wq hSw; (try dsimp only at hSw); go_simp; (try with_reducible rfl); done
      try simp only [Act.put, List.setIfInBounds_toArray, List.set_cons_zero, List.set_cons_succ]
      refine wpAnyH_take (i := 4) (oi := ?oh_4) (v := ?vh_4) ?hih_4 (by kernel_rfl) (by kernel_rfl) (by kernel_rfl) ?hqh_4 ?hyh_4 (by assumption) ?rh_4
      case hih_4 => (simp only [List.getElem?_toArray, List.getElem?_cons_succ, List.getElem?_cons_zero]; rfl)
      case hqh_4 => exact fun _ _ _ h => h
      case hyh_4 =>
        refine Or.inl ⟨by rfl, ?_⟩; intro wq hSw; (try dsimp only at hSw); go_simp; (try with_reducible rfl); done
      try simp only [Act.put, List.setIfInBounds_toArray, List.set_cons_zero, List.set_cons_succ]
      refine wpAnyH_take (i := 5) (oi := ?oh_5) (v := ?vh_5) ?hih_5 (by kernel_rfl) (by kernel_rfl) (by kernel_rfl) ?hqh_5 ?hyh_5 (by assumption) ?rh_5
      case hih_5 => (simp only [List.getElem?_toArray, List.getElem?_cons_succ, List.getElem?_cons_zero]; rfl)
      case hqh_5 => exact fun _ _ _ h => h
      case hyh_5 =>
        refine Or.inl ⟨by rfl, ?_⟩; intro wq hSw; (try dsimp only at hSw); go_simp; (try with_reducible rfl); done
      try simp only [Act.put, List.setIfInBounds_toArray, List.set_cons_zero, List.set_cons_succ]
      refine wpAnyH_take (i := 6) (oi := ?oh_6) (v := ?vh_6) ?hih_6 (by kernel_rfl) (by kernel_rfl) (by kernel_rfl) ?hqh_6 ?hyh_6 (by assumption) ?rh_6
      case hih_6 => (simp only [List.getElem?_toArray, List.getElem?_cons_succ, List.getElem?_cons_zero]; rfl)
      case hqh_6 => exact fun _ _ _ h => h
      case hyh_6 =>
        refine Or.inl ⟨by rfl, ?_⟩; intro wq hSw; (try dsimp only at hSw); go_simp; (try with_reducible rfl); done
      try simp only [Act.put, List.setIfInBounds_toArray, List.set_cons_zero, List.set_cons_succ]
      refine wpAnyH_take (i := 7) (oi := ?oh_7) (v := ?vh_7) ?hih_7 (by kernel_rfl) (by kernel_rfl) (by kernel_rfl) ?hqh_7 ?hyh_7 (by assumption) ?rh_7
      case hih_7 => (simp only [List.getElem?_toArray, List.getElem?_cons_succ, List.getElem?_cons_zero]; rfl)
      case hqh_7 => exact fun _ _ _ h => h
      case hyh_7 =>
        refine Or.inl ⟨by rfl, ?_⟩; intro wq hSw; (try dsimp only at hSw); go_simp; (try with_reducible rfl); done
      try simp only [Act.put, List.setIfInBounds_toArray, List.set_cons_zero, List.set_cons_succ]
      refine wpAnyH_take (i := 8) (oi := ?oh_8) (v := ?vh_8) ?hih_8 (by kernel_rfl) (by kernel_rfl) (by kernel_rfl) ?hqh_8 ?hyh_8 (by assumption) ?rh_8
      case hih_8 => (simp only [List.getElem?_toArray, List.getElem?_cons_succ, List.getElem?_cons_zero]; rfl)
      case hqh_8 => exact fun _ _ _ h => h
      case hyh_8 =>
        refine Or.inl ⟨by rfl, ?_⟩; intro wq hSw; (try dsimp only at hSw); go_simp; (try with_reducible rfl); done
      try simp only [Act.put, List.setIfInBounds_toArray, List.set_cons_zero, List.set_cons_succ]
      refine wpAnyH_take (i := 9) (oi := ?oh_9) (v := ?vh_9) ?hih_9 (by kernel_rfl) (by kernel_rfl) (by kernel_rfl) ?hqh_9 ?hyh_9 (by assumption) ?rh_9
      case hih_9 => (simp only [List.getElem?_toArray, List.getElem?_cons_succ, List.getElem?_cons_zero]; rfl)
      case hqh_9 => exact fun _ _ _ h => h
      case hyh_9 =>
        refine Or.inl ⟨by rfl, ?_⟩; intro wq hSw; (try dsimp only at hSw); go_simp; (try with_reducible rfl); done
      try simp only [Act.put, List.setIfInBounds_toArray, List.set_cons_zero, List.set_cons_succ]
      refine wpAnyH_take (i := 10) (oi := ?oh_10) (v := ?vh_10) ?hih_10 (by kernel_rfl) (by kernel_rfl) (by kernel_rfl) ?hqh_10 ?hyh_10 (by assumption) ?rh_10
      case hih_10 => (simp only [List.getElem?_toArray, List.getElem?_cons_succ, List.getElem?_cons_zero]; rfl)
      case hqh_10 => exact fun _ _ _ h => h
      case hyh_10 =>
        refine Or.inl ⟨by rfl, ?_⟩; intro wq hSw; (try dsimp only at hSw); go_simp; (try with_reducible rfl); done
      try simp only [Act.put, List.setIfInBounds_toArray, List.set_cons_zero, List.set_cons_succ]
      refine wpAnyH_take (i := 12) (oi := ?oh_12) (v := ?vh_12) ?hih_12 (by kernel_rfl) (by kernel_rfl) (by kernel_rfl) ?hqh_12 ?hyh_12 (by assumption) ?rh_12
      case hih_12 => (simp only [List.getElem?_toArray, List.getElem?_cons_succ, List.getElem?_cons_zero]; rfl)
      case hqh_12 => exact fun _ _ _ h => h
      case hyh_12 =>
        refine Or.inl ⟨by rfl, ?_⟩; intro wq hSw; (try dsimp only at hSw); go_simp; (try with_reducible rfl); done
      try simp only [Act.put, List.setIfInBounds_toArray, List.set_cons_zero, List.set_cons_succ]
      refine wpAnyH_take (i := 13) (oi := ?oh_13) (v := ?vh_13) ?hih_13 (by kernel_rfl) (by kernel_rfl) (by kernel_rfl) ?hqh_13 ?hyh_13 (by assumption) ?rh_13
      case hih_13 => (simp only [List.getElem?_toArray, List.getElem?_cons_succ, List.getElem?_cons_zero]; rfl)
      case hqh_13 => exact fun _ _ _ h => h
      case hyh_13 =>
        refine Or.inl ⟨by rfl, ?_⟩; intro wq hSw; (try dsimp only at hSw); go_simp; (try with_reducible rfl); done
      try simp only [Act.put, List.setIfInBounds_toArray, List.set_cons_zero, List.set_cons_succ]
      refine wpAnyH_take (i := 14) (oi := ?oh_14) (v := ?vh_14) ?hih_14 (by kernel_rfl) (by kernel_rfl) (by kernel_rfl) ?hqh_14 ?hyh_14 (by assumption) ?rh_14
      case hih_14 => (simp only [List.getElem?_toArray, List.getElem?_cons_succ, List.getElem?_cons_zero]; rfl)
      case hqh_14 => exact fun _ _ _ h => h
      case hyh_14 =>
        refine Or.inl ⟨by rfl, ?_⟩; intro wq hSw; (try dsimp only at hSw); go_simp; (try with_reducible rfl); done
      try simp only [Act.put, List.setIfInBounds_toArray, List.set_cons_zero, List.set_cons_succ]
      refine wpAnyH_take (i := 15) (oi := ?oh_15) (v := ?vh_15) ?hih_15 (by kernel_rfl) (by kernel_rfl) (by kernel_rfl) ?hqh_15 ?hyh_15 (by assumption) ?rh_15
      case hih_15 => (simp only [List.getElem?_toArray, List.getElem?_cons_succ, List.getElem?_cons_zero]; rfl)
      case hqh_15 => exact fun _ _ _ h => h
      case hyh_15 =>
        refine Or.inl ⟨by rfl, ?_⟩; intro wq hSw; (try dsimp only at hSw); go_simp; (try with_reducible rfl); done
      try simp only [Act.put, List.setIfInBounds_toArray, List.set_cons_zero, List.set_cons_succ]
      have cx := own_elem recL_len OD.out (k := A) hAO
      rw [hx] at cx
      have cy := own_elem recL_len OD.out (k := B) hBO
      rw [hy] at cy
      have qx0 : WD.cell? ⟨G, A * 4, none⟩ = some (.bool x.live) := cx 0 (by decide)
      have qx1 : WD.cell? ⟨G, A * 4 + 1, none⟩ = some (.int .i64 x.dist) := cx 1 (by decide)
      have qx2 : WD.cell? ⟨G, A * 4 + 2, none⟩ = some (.int .i64 x.weight) := cx 2 (by decide)
      have qx3 : WD.cell? ⟨G, A * 4 + 3, none⟩ = some (.string x.word) := cx 3 (by decide)
      have qy0 : WD.cell? ⟨G, B * 4, none⟩ = some (.bool y.live) := cy 0 (by decide)
      have qy1 : WD.cell? ⟨G, B * 4 + 1, none⟩ = some (.int .i64 y.dist) := cy 1 (by decide)
      have qy2 : WD.cell? ⟨G, B * 4 + 2, none⟩ = some (.int .i64 y.weight) := cy 2 (by decide)
      have qy3 : WD.cell? ⟨G, B * 4 + 3, none⟩ = some (.string y.word) := cy 3 (by decide)
      clear cx cy
      refine wpAnyH_ready (rs := [11, 16]) (by kernel_rfl) (by simp) ?_
      refine AllReadyH.cons (by simp only [List.getElem?_toArray, List.getElem?_cons_succ, List.getElem?_cons_zero]; rfl) (fun K hK => ?wA) (AllReadyH.cons (by simp only [List.getElem?_toArray, List.getElem?_cons_succ, List.getElem?_cons_zero]; rfl) (fun K hK => ?wB) AllReadyH.nil)
      case wA =>
        go_simp
        refine hK.out _ _ (SF.out _ KXD.out KFD.out) (fun hHeld2 => ?_)
        clear hK K hHeld
        try simp only [Act.put, List.setIfInBounds_toArray, List.set_cons_zero, List.set_cons_succ]
        refine wpAnyH_ready (rs := [16]) (by kernel_rfl) (by simp) ?_
        refine AllReadyH.cons (by simp only [List.getElem?_toArray, List.getElem?_cons_succ, List.getElem?_cons_zero]; rfl) (fun K hK => ?_) AllReadyH.nil
        go_simp
        refine hK.out _ _ (SF.out _ KXD.out KFD.out) (fun hHeld16 => ?_)
        clear hK K hHeld2
        try simp only [Act.put, List.setIfInBounds_toArray, List.set_cons_zero, List.set_cons_succ]
        clear qx0 qx1 qx2 qx3 qy0 qy1 qy2 qy3
        refine wpAnyH_ready (rs := [17]) (by kernel_rfl) (by simp) ?_
        refine AllReadyH.cons (by simp only [List.getElem?_toArray, List.getElem?_cons_succ, List.getElem?_cons_zero]; rfl) (fun K hK => ?_) AllReadyH.nil
        go_simp
        go_at_call 78
        refine (UP.out _).mono ?_
        rintro e wc ⟨rfl, hbc⟩
        have OC := Lib.hid (own_below OD.out hbc)
        have KXC := Lib.hid (kept_block KXD.out hbc)
        have KFC := Lib.hid (kept_block KFD.out hbc)
        have KTC := Lib.hid (kept_block KTD.out hbc)
        have BC := Lib.hid (below_seq BD.out hbc)
        clear hbc UP OD KXD KFD KTD BD
        refine hK.out _ _ (SF.out _ KXC.out KFC.out) (fun hHeld17 => ?_)
        clear hK K hHeld16
        try simp only [Act.put, List.setIfInBounds_toArray, List.set_cons_zero, List.set_cons_succ]
        refine wpAnyH_take (i := 18) (oi := ?owAt_18) (v := ?vwAt_18) ?hiwAt_18 (by kernel_rfl) (by kernel_rfl) (by kernel_rfl) ?hqwAt_18 ?hywAt_18 (by assumption) ?rwAt_18
        case hiwAt_18 => (simp only [List.getElem?_toArray, List.getElem?_cons_succ, List.getElem?_cons_zero]; rfl)
        case hqwAt_18 => exact fun _ _ _ h => h
        case hywAt_18 =>
          refine Or.inl ⟨by rfl, ?_⟩; intro wq hSw; (try dsimp only at hSw); go_simp; (try with_reducible rfl); done
        try simp only [Act.put, List.setIfInBounds_toArray, List.set_cons_zero, List.set_cons_succ]
        refine wpAnyH_take (i := 19) (oi := ?owAt_19) (v := ?vwAt_19) ?hiwAt_19 (by kernel_rfl) (by kernel_rfl) (by kernel_rfl) ?hqwAt_19 ?hywAt_19 (by assumption) ?rwAt_19
        case hiwAt_19 => (simp only [List.getElem?_toArray, List.getElem?_cons_succ, List.getElem?_cons_zero]; rfl)
        case hqwAt_19 => exact fun _ _ _ h => h
        case hywAt_19 =>
          refine Or.inl ⟨by rfl, ?_⟩; intro wq hSw; (try dsimp only at hSw); go_simp; (try with_reducible rfl); done
        try simp only [Act.put, List.setIfInBounds_toArray, List.set_cons_zero, List.set_cons_succ]
        refine wpAnyH_take (i := 20) (oi := ?owAt_20) (v := ?vwAt_20) ?hiwAt_20 (by kernel_rfl) (by kernel_rfl) (by kernel_rfl) ?hqwAt_20 ?hywAt_20 (by assumption) ?rwAt_20
        case hiwAt_20 => (simp only [List.getElem?_toArray, List.getElem?_cons_succ, List.getElem?_cons_zero]; rfl)
        case hqwAt_20 => exact fun _ _ _ h => h
        case hywAt_20 =>
          refine Or.inl ⟨by rfl, ?_⟩; intro wq hSw; (try dsimp only at hSw); go_simp; (try with_reducible rfl); done
        try simp only [Act.put, List.setIfInBounds_toArray, List.set_cons_zero, List.set_cons_succ]
        refine wpAnyH_take (i := 21) (oi := ?owAt_21) (v := ?vwAt_21) ?hiwAt_21 (by kernel_rfl) (by kernel_rfl) (by kernel_rfl) ?hqwAt_21 ?hywAt_21 (by assumption) ?rwAt_21
        case hiwAt_21 => (simp only [List.getElem?_toArray, List.getElem?_cons_succ, List.getElem?_cons_zero]; rfl)
        case hqwAt_21 => exact fun _ _ _ h => h
        case hywAt_21 =>
          refine Or.inl ⟨by rfl, ?_⟩; intro wq hSw; (try dsimp only at hSw); go_simp; (try with_reducible rfl); done
        try simp only [Act.put, List.setIfInBounds_toArray, List.set_cons_zero, List.set_cons_succ]
        have O9 := Lib.hid (own_elem_set recL_len OC.out (k := A) hAO p)
        have hAO9 : (O.set A p).length = O.length := by simp
        have O10 := Lib.hid (own_elem_set recL_len O9.out.1 (k := B) (by rw [hAO9]; exact hBO) p2)
        have EF := Lib.hid (show (O.set A p).set B p2 = runRm (ws.take (q + 1)) l from NX.out.symm)
        have ccA := own_elem recL_len OC.out (k := A) hAO
        obtain ⟨oA, hoA⟩ : ∃ r, O[A] = r := ⟨_, rfl⟩
        rw [hoA] at ccA
        have ccB := own_elem recL_len O9.out.1 (k := B) (by rw [hAO9]; exact hBO)
        obtain ⟨oB, hoB⟩ : ∃ r, (O.set A p)[B]'(by rw [hAO9]; exact hBO) = r := ⟨_, rfl⟩
        rw [hoB] at ccB
        have fA0 := OC.out.frozenAt (A * 4)
        have cA0 : wc.cell? ⟨G, A * 4, none⟩ = some (.bool oA.live) := ccA 0 (by decide)
        have fA1 := OC.out.frozenAt (A * 4 + 1)
        have cA1 : wc.cell? ⟨G, A * 4 + 1, none⟩ = some (.int .i64 oA.dist) := ccA 1 (by decide)
        have fA2 := OC.out.frozenAt (A * 4 + 2)
        have cA2 : wc.cell? ⟨G, A * 4 + 2, none⟩ = some (.int .i64 oA.weight) := ccA 2 (by decide)
        have fA3 := OC.out.frozenAt (A * 4 + 3)
        have cA3 : wc.cell? ⟨G, A * 4 + 3, none⟩ = some (.string oA.word) := ccA 3 (by decide)
        obtain ⟨W9, hW9⟩ : ∃ W9, W9 = setCellsL wc G (A * 4) (recL p) := ⟨_, rfl⟩
        rw [← hW9] at O9 O10 ccB
        have hb9 : ∀ b, ¬ b = G → W9.heap[b]? = wc.heap[b]? := fun b hb => by rw [hW9]; exact setCellsL_other hb _ _ _
        have KX9 := Lib.hid ((hb9 X nX).trans KXC.out)
        have KF9 := Lib.hid ((hb9 _ nF).trans KFC.out)
        have KT9 := Lib.hid ((hb9 _ nT).trans KTC.out)
        replace hW9 : W9 = (((((((wc.setCell ⟨G, A * 4, none⟩ (.bool p.live))).setCell ⟨G, A * 4 + 1, none⟩ (.int .i64 p.dist))).setCell ⟨G, A * 4 + 2, none⟩ (.int .i64 p.weight))).setCell ⟨G, A * 4 + 3, none⟩ (.string p.word)) := hW9
        clear hb9 hoA ccA NX OC KXC KFC KTC
        refine wpAnyH_ready (rs := [22]) (by kernel_rfl) (by simp) ?_
        refine AllReadyH.cons (by simp only [List.getElem?_toArray, List.getElem?_cons_succ, List.getElem?_cons_zero]; rfl) (fun K hK => ?_) AllReadyH.nil
        go_simp
        rw [← hW9]
        clear hW9 fA0 cA0 fA1 cA1 fA2 cA2 fA3 cA3
        refine hK.out _ _ (SF.out _ KX9.out KF9.out) (fun hHeld22 => ?_)
        clear hK K hHeld17
        try simp only [Act.put, List.setIfInBounds_toArray, List.set_cons_zero, List.set_cons_succ]
        refine wpAnyH_take (i := 23) (oi := ?owAt_23) (v := ?vwAt_23) ?hiwAt_23 (by kernel_rfl) (by kernel_rfl) (by kernel_rfl) ?hqwAt_23 ?hywAt_23 (by assumption) ?rwAt_23
        case hiwAt_23 => (simp only [List.getElem?_toArray, List.getElem?_cons_succ, List.getElem?_cons_zero]; rfl)
        case hqwAt_23 => exact fun _ _ _ h => h
        case hywAt_23 =>
          refine Or.inl ⟨by rfl, ?_⟩; intro wq hSw; (try dsimp only at hSw); go_simp; (try with_reducible rfl); done
        try simp only [Act.put, List.setIfInBounds_toArray, List.set_cons_zero, List.set_cons_succ]
        have fB0 := O9.out.1.frozenAt (B * 4)
        have cB0 : W9.cell? ⟨G, B * 4, none⟩ = some (.bool oB.live) := ccB 0 (by decide)
        have fB1 := O9.out.1.frozenAt (B * 4 + 1)
        have cB1 : W9.cell? ⟨G, B * 4 + 1, none⟩ = some (.int .i64 oB.dist) := ccB 1 (by decide)
        have fB2 := O9.out.1.frozenAt (B * 4 + 2)
        have cB2 : W9.cell? ⟨G, B * 4 + 2, none⟩ = some (.int .i64 oB.weight) := ccB 2 (by decide)
        have fB3 := O9.out.1.frozenAt (B * 4 + 3)
        have cB3 : W9.cell? ⟨G, B * 4 + 3, none⟩ = some (.string oB.word) := ccB 3 (by decide)
        obtain ⟨W10, hW10⟩ : ∃ W10, W10 = setCellsL W9 G (B * 4) (recL p2) := ⟨_, rfl⟩
        rw [← hW10] at O10
        have hb10 : ∀ b, ¬ b = G → W10.heap[b]? = W9.heap[b]? := fun b hb => by rw [hW10]; exact setCellsL_other hb _ _ _
        have KX10 := Lib.hid ((hb10 X nX).trans KX9.out)
        have KF10 := Lib.hid ((hb10 _ nF).trans KF9.out)
        have KT10 := Lib.hid ((hb10 _ nT).trans KT9.out)
        replace hW10 : W10 = (((((((W9.setCell ⟨G, B * 4, none⟩ (.bool p2.live))).setCell ⟨G, B * 4 + 1, none⟩ (.int .i64 p2.dist))).setCell ⟨G, B * 4 + 2, none⟩ (.int .i64 p2.weight))).setCell ⟨G, B * 4 + 3, none⟩ (.string p2.word)) := hW10
        have FZ := Lib.hid (show W10.ownsRow w.heap.size 30 4 (.slice (some ⟨G, 0, none⟩) l.length cp) l.length (flatG recL (runRm (ws.take (q + 1)) l)) ∧ W10.heap[w.heap.size]? = some (.cells #[.func (.func 74) #[] #[]] 61 (0, 0)) ∧ W10.heap[w.heap.size + 1]? = some (.cells #[.int .i64 n, .slice (some ⟨bw, ow, none⟩) ws.length kw] 36 (0, 0)) ∧ Below w.heap.size w W10 from ⟨by rw [← EF.out]; exact O10.out.1, KF10.out, KT10.out, (BC.out.grown O9.out.2 BC.out.size (fun g hg => by cases hg; omega)).grown O10.out.2 (Nat.le_trans BC.out.size O9.out.2.size) (fun g hg => by cases hg; omega)⟩)
        clear hb10 hoB ccB EF O9 O10 KX9 KF9 KT9 KF10 KT10 BC
        refine wpAnyH_ready (rs := [24]) (by kernel_rfl) (by simp) ?_
        refine AllReadyH.cons (by simp only [List.getElem?_toArray, List.getElem?_cons_succ, List.getElem?_cons_zero]; rfl) (fun K hK => ?_) AllReadyH.nil
        go_simp
        rw [← hW10]
        clear hW10 fB0 cB0 fB1 cB1 fB2 cB2 fB3 cB3
        refine hK.out _ _ ((SF.out _ KX10.out FZ.out.2.1)) (fun hHeld24 => ?_)
        clear hK K hHeld22
        try simp only [Act.put, List.setIfInBounds_toArray, List.set_cons_zero, List.set_cons_succ]
        refine wpAnyH_done (by kernel_rfl) ?_ _
        clear KX10 hHeld24
        go_wp2
        go_roundg (ws.length - (q + 1))
        case measure => omega
        case rel => exact ⟨q + 1, by omega, rfl, by go_num, FZ⟩
      case wB =>
        go_simp
        refine hK.out _ _ (SF.out _ KXD.out KFD.out) (fun hHeld2 => ?_)
        clear hK K hHeld
        try simp only [Act.put, List.setIfInBounds_toArray, List.set_cons_zero, List.set_cons_succ]
        refine wpAnyH_ready (rs := [11]) (by kernel_rfl) (by simp) ?_
        refine AllReadyH.cons (by simp only [List.getElem?_toArray, List.getElem?_cons_succ, List.getElem?_cons_zero]; rfl) (fun K hK => ?_) AllReadyH.nil
        go_simp
        refine hK.out _ _ (SF.out _ KXD.out KFD.out) (fun hHeld11 => ?_)
        clear hK K hHeld2
        try simp only [Act.put, List.setIfInBounds_toArray, List.set_cons_zero, List.set_cons_succ]
        clear qx0 qx1 qx2 qx3 qy0 qy1 qy2 qy3
        refine wpAnyH_ready (rs := [17]) (by kernel_rfl) (by simp) ?_
        refine AllReadyH.cons (by simp only [List.getElem?_toArray, List.getElem?_cons_succ, List.getElem?_cons_zero]; rfl) (fun K hK => ?_) AllReadyH.nil
        go_simp
        go_at_call 78
        refine (UP.out _).mono ?_
        rintro e wc ⟨rfl, hbc⟩
        have OC := Lib.hid (own_below OD.out hbc)
        have KXC := Lib.hid (kept_block KXD.out hbc)
        have KFC := Lib.hid (kept_block KFD.out hbc)
        have KTC := Lib.hid (kept_block KTD.out hbc)
        have BC := Lib.hid (below_seq BD.out hbc)
        clear hbc UP OD KXD KFD KTD BD
        refine hK.out _ _ (SF.out _ KXC.out KFC.out) (fun hHeld17 => ?_)
        clear hK K hHeld11
        try simp only [Act.put, List.setIfInBounds_toArray, List.set_cons_zero, List.set_cons_succ]
        refine wpAnyH_take (i := 18) (oi := ?owBt_18) (v := ?vwBt_18) ?hiwBt_18 (by kernel_rfl) (by kernel_rfl) (by kernel_rfl) ?hqwBt_18 ?hywBt_18 (by assumption) ?rwBt_18
        case hiwBt_18 => (simp only [List.getElem?_toArray, List.getElem?_cons_succ, List.getElem?_cons_zero]; rfl)
        case hqwBt_18 => exact fun _ _ _ h => h
        case hywBt_18 =>
          refine Or.inl ⟨by rfl, ?_⟩; intro wq hSw; (try dsimp only at hSw); go_simp; (try with_reducible rfl); done
        try simp only [Act.put, List.setIfInBounds_toArray, List.set_cons_zero, List.set_cons_succ]
        refine wpAnyH_take (i := 19) (oi := ?owBt_19) (v := ?vwBt_19) ?hiwBt_19 (by kernel_rfl) (by kernel_rfl) (by kernel_rfl) ?hqwBt_19 ?hywBt_19 (by assumption) ?rwBt_19
        case hiwBt_19 => (simp only [List.getElem?_toArray, List.getElem?_cons_succ, List.getElem?_cons_zero]; rfl)
        case hqwBt_19 => exact fun _ _ _ h => h
        case hywBt_19 =>
          refine Or.inl ⟨by rfl, ?_⟩; intro wq hSw; (try dsimp only at hSw); go_simp; (try with_reducible rfl); done
        try simp only [Act.put, List.setIfInBounds_toArray, List.set_cons_zero, List.set_cons_succ]
        refine wpAnyH_take (i := 20) (oi := ?owBt_20) (v := ?vwBt_20) ?hiwBt_20 (by kernel_rfl) (by kernel_rfl) (by kernel_rfl) ?hqwBt_20 ?hywBt_20 (by assumption) ?rwBt_20
        case hiwBt_20 => (simp only [List.getElem?_toArray, List.getElem?_cons_succ, List.getElem?_cons_zero]; rfl)
        case hqwBt_20 => exact fun _ _ _ h => h
        case hywBt_20 =>
          refine Or.inl ⟨by rfl, ?_⟩; intro wq hSw; (try dsimp only at hSw); go_simp; (try with_reducible rfl); done
        try simp only [Act.put, List.setIfInBounds_toArray, List.set_cons_zero, List.set_cons_succ]
        refine wpAnyH_take (i := 21) (oi := ?owBt_21) (v := ?vwBt_21) ?hiwBt_21 (by kernel_rfl) (by kernel_rfl) (by kernel_rfl) ?hqwBt_21 ?hywBt_21 (by assumption) ?rwBt_21
        case hiwBt_21 => (simp only [List.getElem?_toArray, List.getElem?_cons_succ, List.getElem?_cons_zero]; rfl)
        case hqwBt_21 => exact fun _ _ _ h => h
        case hywBt_21 =>
          refine Or.inl ⟨by rfl, ?_⟩; intro wq hSw; (try dsimp only at hSw); go_simp; (try with_reducible rfl); done
        try simp only [Act.put, List.setIfInBounds_toArray, List.set_cons_zero, List.set_cons_succ]
        have O9 := Lib.hid (own_elem_set recL_len OC.out (k := A) hAO p)
        have hAO9 : (O.set A p).length = O.length := by simp
        have O10 := Lib.hid (own_elem_set recL_len O9.out.1 (k := B) (by rw [hAO9]; exact hBO) p2)
        have EF := Lib.hid (show (O.set A p).set B p2 = runRm (ws.take (q + 1)) l from NX.out.symm)
        have ccA := own_elem recL_len OC.out (k := A) hAO
        obtain ⟨oA, hoA⟩ : ∃ r, O[A] = r := ⟨_, rfl⟩
        rw [hoA] at ccA
        have ccB := own_elem recL_len O9.out.1 (k := B) (by rw [hAO9]; exact hBO)
        obtain ⟨oB, hoB⟩ : ∃ r, (O.set A p)[B]'(by rw [hAO9]; exact hBO) = r := ⟨_, rfl⟩
        rw [hoB] at ccB
        have fA0 := OC.out.frozenAt (A * 4)
        have cA0 : wc.cell? ⟨G, A * 4, none⟩ = some (.bool oA.live) := ccA 0 (by decide)
        have fA1 := OC.out.frozenAt (A * 4 + 1)
        have cA1 : wc.cell? ⟨G, A * 4 + 1, none⟩ = some (.int .i64 oA.dist) := ccA 1 (by decide)
        have fA2 := OC.out.frozenAt (A * 4 + 2)
        have cA2 : wc.cell? ⟨G, A * 4 + 2, none⟩ = some (.int .i64 oA.weight) := ccA 2 (by decide)
        have fA3 := OC.out.frozenAt (A * 4 + 3)
        have cA3 : wc.cell? ⟨G, A * 4 + 3, none⟩ = some (.string oA.word) := ccA 3 (by decide)
        obtain ⟨W9, hW9⟩ : ∃ W9, W9 = setCellsL wc G (A * 4) (recL p) := ⟨_, rfl⟩
        rw [← hW9] at O9 O10 ccB
        have hb9 : ∀ b, ¬ b = G → W9.heap[b]? = wc.heap[b]? := fun b hb => by rw [hW9]; exact setCellsL_other hb _ _ _
        have KX9 := Lib.hid ((hb9 X nX).trans KXC.out)
        have KF9 := Lib.hid ((hb9 _ nF).trans KFC.out)
        have KT9 := Lib.hid ((hb9 _ nT).trans KTC.out)
        replace hW9 : W9 = (((((((wc.setCell ⟨G, A * 4, none⟩ (.bool p.live))).setCell ⟨G, A * 4 + 1, none⟩ (.int .i64 p.dist))).setCell ⟨G, A * 4 + 2, none⟩ (.int .i64 p.weight))).setCell ⟨G, A * 4 + 3, none⟩ (.string p.word)) := hW9
        clear hb9 hoA ccA NX OC KXC KFC KTC
        refine wpAnyH_ready (rs := [22]) (by kernel_rfl) (by simp) ?_
        refine AllReadyH.cons (by simp only [List.getElem?_toArray, List.getElem?_cons_succ, List.getElem?_cons_zero]; rfl) (fun K hK => ?_) AllReadyH.nil
        go_simp
        rw [← hW9]
        clear hW9 fA0 cA0 fA1 cA1 fA2 cA2 fA3 cA3
        refine hK.out _ _ (SF.out _ KX9.out KF9.out) (fun hHeld22 => ?_)
        clear hK K hHeld17
        try simp only [Act.put, List.setIfInBounds_toArray, List.set_cons_zero, List.set_cons_succ]
        refine wpAnyH_take (i := 23) (oi := ?owBt_23) (v := ?vwBt_23) ?hiwBt_23 (by kernel_rfl) (by kernel_rfl) (by kernel_rfl) ?hqwBt_23 ?hywBt_23 (by assumption) ?rwBt_23
        case hiwBt_23 => (simp only [List.getElem?_toArray, List.getElem?_cons_succ, List.getElem?_cons_zero]; rfl)
        case hqwBt_23 => exact fun _ _ _ h => h
        case hywBt_23 =>
          refine Or.inl ⟨by rfl, ?_⟩; intro wq hSw; (try dsimp only at hSw); go_simp; (try with_reducible rfl); done
        try simp only [Act.put, List.setIfInBounds_toArray, List.set_cons_zero, List.set_cons_succ]
        have fB0 := O9.out.1.frozenAt (B * 4)
        have cB0 : W9.cell? ⟨G, B * 4, none⟩ = some (.bool oB.live) := ccB 0 (by decide)
        have fB1 := O9.out.1.frozenAt (B * 4 + 1)
        have cB1 : W9.cell? ⟨G, B * 4 + 1, none⟩ = some (.int .i64 oB.dist) := ccB 1 (by decide)
        have fB2 := O9.out.1.frozenAt (B * 4 + 2)
        have cB2 : W9.cell? ⟨G, B * 4 + 2, none⟩ = some (.int .i64 oB.weight) := ccB 2 (by decide)
        have fB3 := O9.out.1.frozenAt (B * 4 + 3)
        have cB3 : W9.cell? ⟨G, B * 4 + 3, none⟩ = some (.string oB.word) := ccB 3 (by decide)
        obtain ⟨W10, hW10⟩ : ∃ W10, W10 = setCellsL W9 G (B * 4) (recL p2) := ⟨_, rfl⟩
        rw [← hW10] at O10
        have hb10 : ∀ b, ¬ b = G → W10.heap[b]? = W9.heap[b]? := fun b hb => by rw [hW10]; exact setCellsL_other hb _ _ _
        have KX10 := Lib.hid ((hb10 X nX).trans KX9.out)
        have KF10 := Lib.hid ((hb10 _ nF).trans KF9.out)
        have KT10 := Lib.hid ((hb10 _ nT).trans KT9.out)
        replace hW10 : W10 = (((((((W9.setCell ⟨G, B * 4, none⟩ (.bool p2.live))).setCell ⟨G, B * 4 + 1, none⟩ (.int .i64 p2.dist))).setCell ⟨G, B * 4 + 2, none⟩ (.int .i64 p2.weight))).setCell ⟨G, B * 4 + 3, none⟩ (.string p2.word)) := hW10
        have FZ := Lib.hid (show W10.ownsRow w.heap.size 30 4 (.slice (some ⟨G, 0, none⟩) l.length cp) l.length (flatG recL (runRm (ws.take (q + 1)) l)) ∧ W10.heap[w.heap.size]? = some (.cells #[.func (.func 74) #[] #[]] 61 (0, 0)) ∧ W10.heap[w.heap.size + 1]? = some (.cells #[.int .i64 n, .slice (some ⟨bw, ow, none⟩) ws.length kw] 36 (0, 0)) ∧ Below w.heap.size w W10 from ⟨by rw [← EF.out]; exact O10.out.1, KF10.out, KT10.out, (BC.out.grown O9.out.2 BC.out.size (fun g hg => by cases hg; omega)).grown O10.out.2 (Nat.le_trans BC.out.size O9.out.2.size) (fun g hg => by cases hg; omega)⟩)
        clear hb10 hoB ccB EF O9 O10 KX9 KF9 KT9 KF10 KT10 BC
        refine wpAnyH_ready (rs := [24]) (by kernel_rfl) (by simp) ?_
        refine AllReadyH.cons (by simp only [List.getElem?_toArray, List.getElem?_cons_succ, List.getElem?_cons_zero]; rfl) (fun K hK => ?_) AllReadyH.nil
        go_simp
        rw [← hW10]
        clear hW10 fB0 cB0 fB1 cB1 fB2 cB2 fB3 cB3
        refine hK.out _ _ ((SF.out _ KX10.out FZ.out.2.1)) (fun hHeld24 => ?_)
        clear hK K hHeld22
        try simp only [Act.put, List.setIfInBounds_toArray, List.set_cons_zero, List.set_cons_succ]
        refine wpAnyH_done (by kernel_rfl) ?_ _
        clear KX10 hHeld24
        go_wp2
        go_roundg (ws.length - (q + 1))
        case measure => omega
        case rel => exact ⟨q + 1, by omega, rfl, by go_num, FZ⟩
    · have eq : q = ws.length := by omega
      subst eq
      have e2 : ws.take ws.length = ws := List.take_length
      rw [e2] at H
      have Z := Lib.hid (And.intro H.out.1 H.out.2.2.2)
      clear H e2
      go_wp2
      go_ret
      exact ⟨G, cp, rfl, Z.out.1, Z.out.2⟩
end Go.Proofs.Ytaedamnhobcdlaa
end
