/- WEv in one. Written by tools/join2.py. -/
import Derived.Test.YtmkgddbdkpkgpaaJS1
import Derived.Test.YtmkgddbdkpkgpaaJS2
import Derived.Test.YtmkgddbdkpkgpaaJS26
import Derived.Test.YtmkgddbdkpkgpaaJS35
import Derived.Test.YtmkgddbdkpkgpaaJS48
import Derived.Deep.RegionHeld3
import Derived.Deep.DeepCutAuto
import Derived.Deep.LoopGhost
import Derived.Deep.QuietTactic
section
namespace Go.Proofs.Ytmkgddbdkpkgpaa.fnEvicted
open Go.ChangeShapes Go.WideShapes Go.ChangeAt Go.RowKit
open Go.ChangeMaps (open_string shut_string)
set_option linter.unusedVariables false
set_option linter.unusedSimpArgs false

theorem row_arrI {w : World} {base n g : Nat} (h : w.ownsRow base 3 1 (.slice (some ⟨g, 0, none⟩) n n) n (List.replicate n (.int .i64 0))) : ArrAt w g 3 n (fun _ => 0) := by
  rcases h.2 with ⟨hv, _⟩ | ⟨g', cap', cur, hv, hbg, hg, h1', h2, h3, h4⟩
  · simp at hv
  simp at hv
  obtain ⟨rfl, rfl⟩ := hv
  have hcur : cur.toList = List.replicate n (.int .i64 0) := by rw [← h4, List.take_of_length_le (by simp [h3])]
  unfold ArrAt
  rw [hg]
  congr 2
  apply Array.ext'
  rw [hcur]
  unfold cellsA
  apply List.ext_getElem <;> simp
theorem step_callG2 {P : Program} {ops : Array Oper} {o : Oper} {a : Act} {w : World} {K : Act → World → Prop} {Q : Exit → Act → World → Prop} {E : Prop} (w0 : World) (hw : w = w0) (hwt : Region.wanted o (yielded ops a.tmps) = true) (f : FuncId) (xs : Array Operand) (ts : Array TypeId)
    (ho : o.op = .call { callee := .value (.func f), args := xs, argTypes := ts }) (args : Array Value) (hargs : xs.map a.eval = args) (hcf : ∀ args w, (callFunc f args).run P w = .ok (.enter f args) w)
    (R : Ending → World → Prop) (hc : Calls P f args w0 R) (h : ∀ e w', R e w' → ∃ v, e = .returned v ∧ K (a.put o.dst v) w') :
    if Region.wanted o (yielded ops a.tmps) = true then Oper.wp P o a w K Q else E := by
  subst hw
  rw [if_pos hwt]
  have hfun : a.eval (.func f) = .func (.func f) #[] #[] := rfl
  have hrun : (execOp a.eval o).run P w = .ok (.enter f args) w := by
    unfold execOp
    simp [ho, resolve, Deferred.ofValue, invoke, hfun, hargs, hcf]
  unfold Oper.wp
  rw [hrun, Oper.upon_enter]
  refine hc.mono fun e w' hh => ?_
  obtain ⟨v, rfl, hk⟩ := h e w' hh
  exact hk
/-- What the law's own two rows hold while it counts. -/
def EvC (w3 W : World) (bu bl : Nat) (n1 n2 : Nat) (Fu Fl : Nat → Int) : Prop := ArrAt W bu 3 n1 Fu ∧ ArrAt W bl 3 n2 Fl ∧ w3.heap.size ≤ bu ∧ bu < bl ∧ Below w3.heap.size w3 W
theorem EvC.below {w3 W W' : World} {bu bl n1 n2 : Nat} {Fu Fl : Nat → Int} (h : EvC w3 W bu bl n1 n2 Fu Fl) (hb : Below W.heap.size W W') : EvC w3 W' bu bl n1 n2 Fu Fl := ⟨h.1.below hb, h.2.1.below hb, h.2.2.1, h.2.2.2.1, below_seq h.2.2.2.2 hb⟩
theorem EvC.setU {w3 W : World} {bu bl n1 n2 : Nat} {Fu Fl : Nat → Int} (h : EvC w3 W bu bl n1 n2 Fu Fl) (k : Nat) (v : Int) : EvC w3 (W.setCell ⟨bu, k, none⟩ (.int .i64 v)) bu bl n1 n2 (upd Fu k v) Fl :=
  ⟨h.1.set k v, h.2.1.kept (set_grown W bu k (.int .i64 v)) (by have := h.2.2.2.1; intro e; have e := Option.some.inj e; omega), h.2.2.1, h.2.2.2.1, h.2.2.2.2.setCell (p := ⟨bu, k, none⟩) h.2.2.1 _⟩
theorem EvC.setL {w3 W : World} {bu bl n1 n2 : Nat} {Fu Fl : Nat → Int} (h : EvC w3 W bu bl n1 n2 Fu Fl) (k : Nat) (v : Int) : EvC w3 (W.setCell ⟨bl, k, none⟩ (.int .i64 v)) bu bl n1 n2 Fu (upd Fl k v) :=
  ⟨h.1.kept (set_grown W bl k (.int .i64 v)) (by have := h.2.2.2.1; intro e; have e := Option.some.inj e; omega), h.2.1.set k v, h.2.2.1, h.2.2.2.1, h.2.2.2.2.setCell (p := ⟨bl, k, none⟩) (by have := h.2.2.1; have := h.2.2.2.1; show w3.heap.size ≤ bl; omega) _⟩
theorem EvC.ext {w3 W : World} {bu bl n1 n2 : Nat} {Fu Fu' Fl Fl' : Nat → Int} (h : EvC w3 W bu bl n1 n2 Fu Fl) (h1 : ∀ k, k < n1 → Fu k = Fu' k) (h2 : ∀ k, k < n2 → Fl k = Fl' k) : EvC w3 W bu bl n1 n2 Fu' Fl' := ⟨h.1.ext h1, h.2.1.ext h2, h.2.2⟩
set_option maxRecDepth 100000 in
set_option maxHeartbeats 1000000 in
theorem walk0 (I : Impl13) (a0 : Option Addr) (len0 cap0 : Nat) (z0 : List Int) (w : World) (w0 : IsRow .u8 w a0 len0 cap0 z0) :
    Calls Try.prog 4 #[.slice a0 len0 cap0] w fun e w' => e = .returned (.bool true) ∧ Below w.heap.size w w' := by
  obtain ⟨l, hl, hcap, hmax, hr⟩ := row_of_isRow w0
  clear w0
  subst hl
  have R := Lib.hid hr
  clear hr
  have hm : l.length ≤ maxLen := Nat.le_trans hcap hmax
  by_cases hbig : 1048576 < l.length
  · have hB : decide (1048576 < l.length) = true := by simp [hbig]
    go_enter Try.func4, Try.ntmps4
    go_wp2_with fail
    refine (bigIs a0 l.length cap0 _ hm).mono ?_
    rintro e w1 ⟨rfl, rfl⟩
    rw [hB]
    go_wp2
    go_ret
    exact ⟨rfl, Below.refl _ _⟩
  have hB : decide (1048576 < l.length) = false := by simp; omega
  have hl2 : l.length ≤ 1048576 := by omega
  go_enter Try.func4, Try.ntmps4
  go_wp2_with fail
  refine (bigIs a0 l.length cap0 _ hm).mono ?_
  rintro e w1 ⟨rfl, rfl⟩
  rw [hB]
  clear hB
  go_wp2_with fail
  refine (drawEvictPlan a0 l cap0 w hl2 R.out).mono ?_
  rintro e w1 ⟨c, t, x, y, z, rfl, ho, hsz, ht200, hx, hy, hz, hb⟩
  obtain ⟨ac, capc, _, rfl, _, hcm, _⟩ := blockSIn_shape ho.read
  have N0 := Lib.hid ho
  have B0 := Lib.hid hb
  have BX := Lib.hid hx
  have BY := Lib.hid hy
  have BZ := Lib.hid hz
  have SZ := Lib.hid (show szBlockS t ≤ 1048576 by omega)
  have NI := Lib.hid (fun w' (hb : Below w1.heap.size w1 w') => (blockS_rdg.below N0.out.read hb : BlockSIn [.slice ac t.length capc] t w'))
  have SP := Lib.hid (uSpecEvictPlan _ t x y z w1 (NI.out _ (Below.refl _ _)) BX.out BY.out BZ.out SZ.out)
  have IP := Lib.hid (fun w' hb => I.plan _ t x y z w' (NI.out w' hb) BX.out BY.out BZ.out SZ.out)
  have IR := Lib.hid (fun w' hb => I.rest _ t x y z w' (NI.out w' hb) BX.out BY.out BZ.out SZ.out)
  have OK := Lib.hid (fun w' hb => uSpecStashOk _ t x y w' (NI.out w' hb))
  have MT := Lib.hid (fun w' b (hb : -9223372036854775808 ≤ b ∧ b ≤ 9223372036854775807) => uSpecMeet x b z w' BX.out hb BZ.out)
  unfold maxLen at hcm
  clear hb R ho hx hy hz hsz
  have PL28 := planZ_len t x y z
  obtain ⟨p, hp⟩ : ∃ p, planZ t x y z = p := ⟨_, rfl⟩
  rw [hp] at SP IP PL28
  go_wp2_with fail
  refine SP.out.mono ?_
  rintro e w2 ⟨c2, rfl, h2, hb⟩
  obtain ⟨a2, k2, rfl, _, _, _⟩ := putSIn_shape h2.read
  have Q2 := Lib.hid hb
  have IPC := Lib.hid (IP.out w2 hb)
  clear SP hb h2 IP
  go_wp2_with fail
  refine IPC.out.mono ?_
  rintro e w3 ⟨c3, rfl, h3, hb⟩
  obtain ⟨a3, k3, rfl, _, _, r3⟩ := putSIn_shape h3.read
  have Q3 := Lib.hid (below_seq Q2.out hb)
  have RP := Lib.hid r3
  have OKC := Lib.hid (OK.out w3 Q3.out)
  have hpp : ((p.length : Int) != (p.length : Int)) = false := by simp
  clear hb h3 r3 IPC Q2 OK
  cases hok : stashOkB t x y
  · rw [hok] at OKC
    go_wp2_with fail
    refine OKC.out.mono ?_
    rintro e w4 ⟨rfl, hb⟩
    have B4 := Lib.hid (below_seq B0.out (below_seq Q3.out hb))
    clear hb OKC
    go_wp2
    go_ret
    exact ⟨ret_bool (by simp), B4.out⟩
  rw [hok] at OKC
  go_wp2_with fail
  refine OKC.out.mono ?_
  rintro e w4 ⟨rfl, hb⟩
  have Q4 := Lib.hid (below_seq Q3.out hb)
  have RP4 := Lib.hid (RP.out.below hb)
  have MTC := Lib.hid (MT.out w4 z BZ.out)
  clear hb OKC RP Q3
  cases hlf : leafB x z
  · rw [meetZ_no (.inl hlf)] at MTC
    go_wp2_with fail
    refine MTC.out.mono ?_
    rintro e w5 ⟨rfl, hb⟩
    have B5 := Lib.hid (below_seq B0.out (below_seq Q4.out hb))
    clear hb MTC
    go_wp2
    go_ret
    exact ⟨ret_bool (by simp), B5.out⟩
  obtain ⟨g, a, rfl, rfl, hg, ha⟩ := leafB_ok hlf
  obtain ⟨p', hp', PA, PB, PC, PD, PE, PF, PM, PR, PV, PQ⟩ := plan_book hok hg ha
  have e5 : p = p' := hp.symm.trans hp'
  subst e5
  rw [meetZ_at hg ha ha] at MTC
  have EA := Lib.hid PA
  have EB := Lib.hid PB
  have EC := Lib.hid PC
  have ED := Lib.hid PD
  have EE := Lib.hid PE
  have EF := Lib.hid PF
  have EM := Lib.hid PM
  have ER := Lib.hid PR
  have EV := Lib.hid PV
  have EQ := Lib.hid PQ
  have PN := Lib.hid (fun w' => uSpecPathNodes (g : Int) (a : Int) w' BX.out BZ.out)
  have PL := Lib.hid (pathZ_length hg ha)
  have PG := Lib.hid (fun i hi => pathZ_get (i := i) hg ha hi)
  have NDB := Lib.hid (show ∀ q, nd g a q ≤ 127 from fun q => by
    have h3 := pow_64 hg
    unfold nd
    exact Nat.le_trans (Nat.div_le_self _ _) (by omega))
  have hmm := (meet_sym hg ha ha).2.2
  obtain ⟨mt, hmt⟩ : ∃ mt, mtN g a a (g + 1) = mt := ⟨_, rfl⟩
  rw [hmt] at MTC
  clear hp hp' PA PB PC PD PE PF PM PR PV PQ hlf hok hmt ha
  go_wp2_with fail
  refine MTC.out.mono ?_
  rintro e w5 ⟨rfl, hb⟩
  have Q5 := Lib.hid (below_seq Q4.out hb)
  have RP5 := Lib.hid (RP4.out.below hb)
  clear hb MTC RP4 Q4
  obtain ⟨i0, hi, hz0, hz1, hz2⟩ := info_parts Try.info3
  go_wp2_with (at_make; rw [show (g : Int) + 1 = ((g + 1 : Nat) : Int) from by omega]; refine wpList_make_full _ rfl _ _ 41 rfl w5.heap.size 3 i0 (.int .i64 0) 1 Try.underlying41 hi hz0 hz1 .i64 .i64 _ _ (g + 1) rfl rfl rfl rfl (by rw [hz2]; omega) (by unfold maxLen; omega) (by simp) ?_)
  intro w6 hown hgr
  rw [toList_madeCells_one] at hown
  have AU : ArrAt w6 w5.heap.size 3 (g + 1) (fun _ => 0) := by simpa using row_arrI hown
  have HU := Lib.hid (And.intro AU (And.intro (grown_below hgr) AU.lt))
  clear hown AU hgr
  go_wp2_with (at_make; refine wpList_make_full _ rfl _ _ 41 rfl w6.heap.size 3 i0 (.int .i64 0) 1 Try.underlying41 hi hz0 hz1 .i64 .i64 _ _ t.length rfl rfl rfl rfl (by rw [hz2]; omega) (by unfold maxLen; omega) (by simp) ?_)
  intro w7 hown hgr
  rw [toList_madeCells_one] at hown
  have AL : ArrAt w7 w6.heap.size 3 t.length (fun _ => 0) := by simpa using row_arrI hown
  have H7 := Lib.hid (show EvC w5 w7 w5.heap.size w6.heap.size (g + 1) t.length (fun _ => 0) (fun i => if i < 0 then -1 else 0) from ⟨HU.out.1.kept hgr (by simp), AL.ext (fun k _ => by simp), Nat.le_refl _, HU.out.2.2, below_seq HU.out.2.1 (grown_below hgr)⟩)
  clear hown AL hgr HU hi hz0 hz1 hz2
  obtain ⟨bu, hbu⟩ : ∃ b, w5.heap.size = b := ⟨_, rfl⟩
  obtain ⟨bl, hbl⟩ : ∃ b, w6.heap.size = b := ⟨_, rfl⟩
  rw [hbu, hbl] at H7
  rw [hbu, hbl]
  clear hbu hbl
  have CE := Lib.hid (fun w' (hb : Below w5.heap.size w5 w') j (hj : j < t.length) => (show ∃ gt, ac = some ⟨gt, 0, none⟩ ∧ w'.cell? ⟨gt, j * 3, none⟩ = some (.int .i64 t[j].id) ∧ w'.cell? ⟨gt, j * 3 + 1, none⟩ = some (.int .i64 t[j].leaf) from by
    obtain ⟨gt, cp, xx, zz, hc, _, _, q0, q1, _⟩ := ((N0.out.lies (Nat.le_refl _)).below (below_seq Q5.out hb)).now.blk hj
    simp at hc
    exact ⟨gt, hc.1, q0, q1⟩))
  go_wp2_with fail
  go_loopg [11] t.length (fun kk iv wr => ∃ j : Nat, j ≤ t.length ∧ t.length - j = kk ∧ iv = .int .i64 j ∧ Hid (EvC w5 wr bu bl (g + 1) t.length (fun _ => 0) (fun i => if i < j then -1 else 0)))
  case atStart => exact ⟨0, Nat.zero_le _, rfl, rfl, H7⟩
  case round =>
    clear H7
    obtain ⟨j, hj, hjj, rfl, H⟩ := hrel
    by_cases hlt : j < t.length
    · have hltI : (j : Int) < (t.length : Int) := by omega
      have c1 := H.out.2.1.cell hlt
      have f1 := H.out.2.1.free j
      simp at c1
      have R2 := Lib.hid (show EvC w5 (wr.setCell ⟨bl, j, none⟩ (.int .i64 (-1))) bu bl (g + 1) t.length (fun _ => 0) (fun i => if i < j + 1 then -1 else 0) from (H.out.setL j (-1)).ext (fun _ _ => rfl) (fun i _ => by
        unfold upd
        by_cases e : i = j
        · subst e; simp
        · rw [if_neg e]
          show (if i < j then (-1 : Int) else 0) = if i < j + 1 then -1 else 0
          by_cases h : i < j
          · rw [if_pos h, if_pos (by omega)]
          · rw [if_neg h, if_neg (by omega)]))
      clear H
      go_wp2
      go_roundg (t.length - (j + 1))
      case measure => omega
      case rel => exact ⟨j + 1, by omega, rfl, by go_num, R2⟩
    · have hge : ¬ (j : Int) < (t.length : Int) := by omega
      have hgd : decide ((j : Int) < (t.length : Int)) = false := by simpa using hge
      have H8 := Lib.hid (show EvC w5 wr bu bl (g + 1) t.length (usedF p 0) (lvlF t p 0 0) from H.out.ext (fun L _ => (usedF_zero p L).symm) (fun i hi => by rw [lvlF_zero, if_pos (by omega)]))
      clear H hjj
      go_wp2_with fail
      go_loopg [12] p.length (fun kk iv wr => ∃ k : Nat, k ≤ p.length ∧ p.length - k = kk ∧ iv = .int .i64 k ∧ Hid (EvC w5 wr bu bl (g + 1) t.length (usedF p k) (lvlF t p k 0)))
      case atStart => exact ⟨0, Nat.zero_le _, rfl, rfl, H8⟩
      case round =>
        clear H8
        obtain ⟨k, hk, hkk, rfl, H⟩ := hrel
        by_cases hkp : k < p.length
        · obtain ⟨q, hq, hqg⟩ := EA.out k hkp
          have EBk := Lib.hid (EB.out k hkp)
          have RPk := Lib.hid (fun w' (hb : Below w5.heap.size w5 w') => (RP5.out.below hb).put hkp)
          obtain ⟨bp, po, ha3, q0, q1⟩ := RPk.out wr H.out.2.2.2.2
          subst ha3
          have PC := Lib.hid (fun w' (hb : Below w5.heap.size w5 w') => (show w'.cell? ⟨bp, po + k * 2, none⟩ = some (.int .i64 (q : Int)) ∧ w'.cell? ⟨bp, po + k * 2 + 1, none⟩ = some (.int .i64 p[k].id) from by
            obtain ⟨bp', po', e, u0, u1⟩ := RPk.out w' hb
            simp at e
            obtain ⟨rfl, rfl⟩ := e
            rw [hq] at u0
            exact ⟨u0, u1⟩))
          rw [hq] at q0
          have hkI : (k : Int) < (p.length : Int) := by omega
          have hk0 : (0 : Int) ≤ (k : Int) := by omega
          have g1 : decide ((q : Int) < 0) = false := by simp
          have g2 : decide ((g : Int) < (q : Int)) = false := by simp; omega
          have hq0 : ¬ (q : Int) < 0 := by omega
          have hq1 : ¬ (g : Int) < (q : Int) := by omega
          have hqb : (q : Int) < ((g + 1 : Nat) : Int) := by omega
          have hqb2 : (q : Int) < (g : Int) + 1 := by omega
          have cu := H.out.1.cell (k := q) (by omega)
          have fu := H.out.1.free q
          have ub := usedF_le (k := k) ED.out q
          have U1 := Lib.hid (show EvC w5 (wr.setCell ⟨bu, q, none⟩ (.int .i64 (usedF p k q + 1))) bu bl (g + 1) t.length (usedF p (k + 1)) (lvlF t p k 0) from by
            have := H.out.setU q (usedF p k q + 1)
            rw [usedF_set hkp hq] at this
            exact this)
          obtain ⟨uv, huv⟩ : ∃ v, usedF p k q = v := ⟨_, rfl⟩
          rw [huv] at cu ub U1
          clear huv H RPk q1
          go_wp2_with fail
          go_loopg [13] t.length (fun kk iv wr => ∃ j : Nat, j ≤ t.length ∧ t.length - j = kk ∧ iv = .int .i64 j ∧ Hid (EvC w5 wr bu bl (g + 1) t.length (usedF p (k + 1)) (lvlF t p k j)))
          case atStart => exact ⟨0, Nat.zero_le _, rfl, rfl, U1⟩
          case round =>
            clear U1 cu fu ub q0
            obtain ⟨j, hj, hjj, rfl, H⟩ := hrel
            by_cases hjt : j < t.length
            · obtain ⟨gt, hac, t0, t1⟩ := CE.out wr H.out.2.2.2.2 j hjt
              subst hac
              have TC := Lib.hid (fun w' (hb : Below w5.heap.size w5 w') => (show w'.cell? ⟨gt, j * 3 + 1, none⟩ = some (.int .i64 t[j].leaf) from by
                obtain ⟨gt', e, u0, u1⟩ := CE.out w' hb j hjt
                simp at e
                subst e
                exact u1))
              obtain ⟨q0, q1⟩ := PC.out wr H.out.2.2.2.2
              have hjI : (j : Int) < (t.length : Int) := by omega
              have hj0 : (0 : Int) ≤ (j : Int) := by omega
              have IDJ := Lib.hid (idAt_get hjt)
              have ONJ := Lib.hid (fun e => EC.out k hkp j hjt q hq e)
              have LB := EQ.out j hjt
              obtain ⟨ti, hti⟩ : ∃ z, t[j].id = z := ⟨_, rfl⟩
              obtain ⟨tl, htl⟩ : ∃ z, t[j].leaf = z := ⟨_, rfl⟩
              obtain ⟨pid, hpid⟩ : ∃ z, p[k].id = z := ⟨_, rfl⟩
              have HPI := Lib.hid hpid
              rw [hti] at t0 IDJ
              rw [htl] at TC LB
              rw [hti, htl, hpid] at ONJ
              rw [hpid] at q1
              clear hti htl hpid t1
              go_upto_region 23 with fail
              go_cut [122] (fun v wx => v = .bool (decide (ti = pid)) ∧ Hid (EvC w5 wx bu bl (g + 1) t.length (usedF p (k + 1)) (lvlF t p k j)))
              case first =>
                obtain ⟨bq, hbq⟩ : ∃ b, decide (ti = pid) = b := ⟨_, rfl⟩
                have hbe : (ti == pid) = bq := by rw [← hbq, Bool.eq_iff_iff]; simp
                have HBQ := Lib.hid hbq
                clear hbq
                have HN := Lib.hid (fun n => H.out.below (belowN (w := wr) n))
                clear H
                go_quiet (fail)
                go_wp2_with fail
                go_meet
                exact ⟨by rw [HBQ.out], Lib.hid (HN.out _)⟩
              case rest =>
                obtain ⟨rfl, HH⟩ := hcut
                clear H t0 q0 q1
                generalize wc = wr2 at *
                by_cases hid : ti = pid
                · rw [decide_eq_true hid]
                  have hon := ONJ.out hid
                  have ON := Lib.hid (fun w' => uSpecOnPath (g : Int) (nd g a q : Nat) tl w' BX.out (by have := NDB.out q; omega) (by omega))
                  rw [hon] at ON
                  have c1 := HH.out.2.1.cell hjt
                  rw [lvlF_none hkp EBk.out (by rw [IDJ.out, HPI.out]; exact hid)] at c1
                  have SS := Lib.hid (fun w' (hb : Below wr2.heap.size wr2 w') => (show w'.cell? ⟨bl, j, none⟩ = some (.int .i64 (-1)) ∧ w'.cell? ⟨bp, po + k * 2, none⟩ = some (.int .i64 (q : Int)) ∧ w'.cell? ⟨gt, j * 3 + 1, none⟩ = some (.int .i64 tl) from ⟨cell_keep c1 hb, (PC.out w' (below_seq HH.out.2.2.2.2 hb)).1, TC.out w' (below_seq HH.out.2.2.2.2 hb)⟩))
                  clear c1 hon
                  go_upto_region 24 with fail
                  refine wp_region_held_drew (S := (fun w' => w'.cell? ⟨bl, j, none⟩ = some (.int .i64 (-1)) ∧ w'.cell? ⟨bp, po + k * 2, none⟩ = some (.int .i64 (q : Int)) ∧ w'.cell? ⟨gt, j * 3 + 1, none⟩ = some (.int .i64 tl))) (by kernel_rfl) (SS.out _ (below_drew (Below.refl wr2.heap.size wr2))) (fun hHeld => ?_)
                  refine wpAnyH_take (i := 0) (oi := ?on_0) (v := ?vn_0) ?hin_0 (by kernel_rfl) (by kernel_rfl) (by kernel_rfl) ?hqn_0 ?hyn_0 (by assumption) ?rn_0
                  case hin_0 => (simp only [List.getElem?_toArray, List.getElem?_cons_succ, List.getElem?_cons_zero]; rfl)
                  case hqn_0 => exact fun _ _ _ h => h
                  case hyn_0 =>
                    refine Or.inl ⟨by rfl, ?_⟩; intro wq hSw; (try dsimp only at hSw); go_simp; (try with_reducible rfl); done
                  try simp only [Act.put, List.setIfInBounds_toArray, List.set_cons_zero, List.set_cons_succ]
                  refine wpAnyH_take (i := 1) (oi := ?on_1) (v := ?vn_1) ?hin_1 (by kernel_rfl) (by kernel_rfl) (by kernel_rfl) ?hqn_1 ?hyn_1 (by assumption) ?rn_1
                  case hin_1 => (simp only [List.getElem?_toArray, List.getElem?_cons_succ, List.getElem?_cons_zero]; rfl)
                  case hqn_1 => exact fun _ _ _ h => h
                  case hyn_1 =>
                    refine Or.inl ⟨by rfl, ?_⟩; intro wq hSw; (try dsimp only at hSw); go_simp; (try with_reducible rfl); done
                  try simp only [Act.put, List.setIfInBounds_toArray, List.set_cons_zero, List.set_cons_succ]
                  refine wpAnyH_take (i := 2) (oi := ?on_2) (v := ?vn_2) ?hin_2 (by kernel_rfl) (by kernel_rfl) (by kernel_rfl) ?hqn_2 ?hyn_2 (by assumption) ?rn_2
                  case hin_2 => (simp only [List.getElem?_toArray, List.getElem?_cons_succ, List.getElem?_cons_zero]; rfl)
                  case hqn_2 => exact fun _ _ _ h => h
                  case hyn_2 =>
                    refine Or.inl ⟨by rfl, ?_⟩; intro wq hSw; (try dsimp only at hSw); go_simp; (try with_reducible rfl); done
                  try simp only [Act.put, List.setIfInBounds_toArray, List.set_cons_zero, List.set_cons_succ]
                  refine wpAnyH_take (i := 3) (oi := ?on_3) (v := ?vn_3) ?hin_3 (by kernel_rfl) (by kernel_rfl) (by kernel_rfl) ?hqn_3 ?hyn_3 (by assumption) ?rn_3
                  case hin_3 => (simp only [List.getElem?_toArray, List.getElem?_cons_succ, List.getElem?_cons_zero]; rfl)
                  case hqn_3 => exact fun _ _ _ h => h
                  case hyn_3 =>
                    refine Or.inl ⟨by rfl, ?_⟩; intro wq hSw; (try dsimp only at hSw); go_simp; (try with_reducible rfl); done
                  try simp only [Act.put, List.setIfInBounds_toArray, List.set_cons_zero, List.set_cons_succ]
                  refine wpAnyH_take (i := 4) (oi := ?on_4) (v := ?vn_4) ?hin_4 (by kernel_rfl) (by kernel_rfl) (by kernel_rfl) ?hqn_4 ?hyn_4 (by assumption) ?rn_4
                  case hin_4 => (simp only [List.getElem?_toArray, List.getElem?_cons_succ, List.getElem?_cons_zero]; rfl)
                  case hqn_4 => exact fun _ _ _ h => h
                  case hyn_4 =>
                    refine Or.inl ⟨by rfl, ?_⟩; intro wq hSw; (try dsimp only at hSw); go_simp; (try with_reducible rfl); done
                  try simp only [Act.put, List.setIfInBounds_toArray, List.set_cons_zero, List.set_cons_succ]
                  refine wpAnyH_take (i := 5) (oi := ?on_5) (v := ?vn_5) ?hin_5 (by kernel_rfl) (by kernel_rfl) (by kernel_rfl) ?hqn_5 ?hyn_5 (by assumption) ?rn_5
                  case hin_5 => (simp only [List.getElem?_toArray, List.getElem?_cons_succ, List.getElem?_cons_zero]; rfl)
                  case hqn_5 => exact fun _ _ _ h => h
                  case hyn_5 =>
                    refine Or.inl ⟨by rfl, ?_⟩; intro wq hSw; (try dsimp only at hSw); go_simp; (try with_reducible rfl); done
                  try simp only [Act.put, List.setIfInBounds_toArray, List.set_cons_zero, List.set_cons_succ]
                  refine wpAnyH_take (i := 6) (oi := ?on_6) (v := ?vn_6) ?hin_6 (by kernel_rfl) (by kernel_rfl) (by kernel_rfl) ?hqn_6 ?hyn_6 (by assumption) ?rn_6
                  case hin_6 => (simp only [List.getElem?_toArray, List.getElem?_cons_succ, List.getElem?_cons_zero]; rfl)
                  case hqn_6 => exact fun _ _ _ h => h
                  case hyn_6 =>
                    refine Or.inl ⟨by rfl, ?_⟩; intro wq hSw; (try dsimp only at hSw); go_simp; (try with_reducible rfl); done
                  try simp only [Act.put, List.setIfInBounds_toArray, List.set_cons_zero, List.set_cons_succ]
                  refine wpAnyH_take (i := 7) (oi := ?on_7) (v := ?vn_7) ?hin_7 (by kernel_rfl) (by kernel_rfl) (by kernel_rfl) ?hqn_7 ?hyn_7 (by assumption) ?rn_7
                  case hin_7 => (simp only [List.getElem?_toArray, List.getElem?_cons_succ, List.getElem?_cons_zero]; rfl)
                  case hqn_7 => exact fun _ _ _ h => h
                  case hyn_7 =>
                    refine Or.inl ⟨by rfl, ?_⟩; intro wq hSw; (try dsimp only at hSw); go_simp; (try with_reducible rfl); done
                  try simp only [Act.put, List.setIfInBounds_toArray, List.set_cons_zero, List.set_cons_succ]
                  refine wpAnyH_take (i := 8) (oi := ?on_8) (v := ?vn_8) ?hin_8 (by kernel_rfl) (by kernel_rfl) (by kernel_rfl) ?hqn_8 ?hyn_8 (by assumption) ?rn_8
                  case hin_8 => (simp only [List.getElem?_toArray, List.getElem?_cons_succ, List.getElem?_cons_zero]; rfl)
                  case hqn_8 => exact fun _ _ _ h => h
                  case hyn_8 =>
                    refine Or.inl ⟨by rfl, ?_⟩; intro wq hSw; (try dsimp only at hSw); go_simp; (try with_reducible rfl); done
                  try simp only [Act.put, List.setIfInBounds_toArray, List.set_cons_zero, List.set_cons_succ]
                  refine wpAnyH_take (i := 10) (oi := ?on_10) (v := ?vn_10) ?hin_10 (by kernel_rfl) (by kernel_rfl) (by kernel_rfl) ?hqn_10 ?hyn_10 (by assumption) ?rn_10
                  case hin_10 => (simp only [List.getElem?_toArray, List.getElem?_cons_succ, List.getElem?_cons_zero]; rfl)
                  case hqn_10 => exact fun _ _ _ h => h
                  case hyn_10 =>
                    refine Or.inl ⟨by rfl, ?_⟩; intro wq hSw; (try dsimp only at hSw); go_simp; (try with_reducible rfl); done
                  try simp only [Act.put, List.setIfInBounds_toArray, List.set_cons_zero, List.set_cons_succ]
                  refine wpAnyH_take (i := 11) (oi := ?on_11) (v := ?vn_11) ?hin_11 (by kernel_rfl) (by kernel_rfl) (by kernel_rfl) ?hqn_11 ?hyn_11 (by assumption) ?rn_11
                  case hin_11 => (simp only [List.getElem?_toArray, List.getElem?_cons_succ, List.getElem?_cons_zero]; rfl)
                  case hqn_11 => exact fun _ _ _ h => h
                  case hyn_11 =>
                    refine Or.inl ⟨by rfl, ?_⟩; intro wq hSw; (try dsimp only at hSw); go_simp; (try with_reducible rfl); done
                  try simp only [Act.put, List.setIfInBounds_toArray, List.set_cons_zero, List.set_cons_succ]
                  refine wpAnyH_take (i := 12) (oi := ?on_12) (v := ?vn_12) ?hin_12 (by kernel_rfl) (by kernel_rfl) (by kernel_rfl) ?hqn_12 ?hyn_12 (by assumption) ?rn_12
                  case hin_12 => (simp only [List.getElem?_toArray, List.getElem?_cons_succ, List.getElem?_cons_zero]; rfl)
                  case hqn_12 => exact fun _ _ _ h => h
                  case hyn_12 =>
                    refine Or.inl ⟨by rfl, ?_⟩; intro wq hSw; (try dsimp only at hSw); go_simp; (try with_reducible rfl); done
                  try simp only [Act.put, List.setIfInBounds_toArray, List.set_cons_zero, List.set_cons_succ]
                  refine wpAnyH_take (i := 13) (oi := ?on_13) (v := ?vn_13) ?hin_13 (by kernel_rfl) (by kernel_rfl) (by kernel_rfl) ?hqn_13 ?hyn_13 (by assumption) ?rn_13
                  case hin_13 => (simp only [List.getElem?_toArray, List.getElem?_cons_succ, List.getElem?_cons_zero]; rfl)
                  case hqn_13 => exact fun _ _ _ h => h
                  case hyn_13 =>
                    refine Or.inl ⟨by rfl, ?_⟩; intro wq hSw; (try dsimp only at hSw); go_simp; (try with_reducible rfl); done
                  try simp only [Act.put, List.setIfInBounds_toArray, List.set_cons_zero, List.set_cons_succ]
                  refine wpAnyH_take (i := 14) (oi := ?on_14) (v := ?vn_14) ?hin_14 (by kernel_rfl) (by kernel_rfl) (by kernel_rfl) ?hqn_14 ?hyn_14 (by assumption) ?rn_14
                  case hin_14 => (simp only [List.getElem?_toArray, List.getElem?_cons_succ, List.getElem?_cons_zero]; rfl)
                  case hqn_14 => exact fun _ _ _ h => h
                  case hyn_14 =>
                    refine Or.inl ⟨by rfl, ?_⟩; intro wq hSw; (try dsimp only at hSw); go_simp; (try with_reducible rfl); done
                  try simp only [Act.put, List.setIfInBounds_toArray, List.set_cons_zero, List.set_cons_succ]
                  refine wpAnyH_take (i := 17) (oi := ?on_17) (v := ?vn_17) ?hin_17 (by kernel_rfl) (by kernel_rfl) (by kernel_rfl) ?hqn_17 ?hyn_17 (by assumption) ?rn_17
                  case hin_17 => (simp only [List.getElem?_toArray, List.getElem?_cons_succ, List.getElem?_cons_zero]; rfl)
                  case hqn_17 => exact fun _ _ _ h => h
                  case hyn_17 =>
                    refine Or.inl ⟨by rfl, ?_⟩; intro wq hSw; (try dsimp only at hSw); go_simp; (try with_reducible rfl); done
                  try simp only [Act.put, List.setIfInBounds_toArray, List.set_cons_zero, List.set_cons_succ]
                  refine wpAnyH_take (i := 18) (oi := ?on_18) (v := ?vn_18) ?hin_18 (by kernel_rfl) (by kernel_rfl) (by kernel_rfl) ?hqn_18 ?hyn_18 (by assumption) ?rn_18
                  case hin_18 => (simp only [List.getElem?_toArray, List.getElem?_cons_succ, List.getElem?_cons_zero]; rfl)
                  case hqn_18 => exact fun _ _ _ h => h
                  case hyn_18 =>
                    refine Or.inl ⟨by rfl, ?_⟩; intro wq hSw; (try dsimp only at hSw); go_simp; (try with_reducible rfl); done
                  try simp only [Act.put, List.setIfInBounds_toArray, List.set_cons_zero, List.set_cons_succ]
                  refine wpAnyH_take (i := 19) (oi := ?on_19) (v := ?vn_19) ?hin_19 (by kernel_rfl) (by kernel_rfl) (by kernel_rfl) ?hqn_19 ?hyn_19 (by assumption) ?rn_19
                  case hin_19 => (simp only [List.getElem?_toArray, List.getElem?_cons_succ, List.getElem?_cons_zero]; rfl)
                  case hqn_19 => exact fun _ _ _ h => h
                  case hyn_19 =>
                    refine Or.inl ⟨by rfl, ?_⟩; intro wq hSw; (try dsimp only at hSw); go_simp; (try with_reducible rfl); done
                  try simp only [Act.put, List.setIfInBounds_toArray, List.set_cons_zero, List.set_cons_succ]
                  refine wpAnyH_take (i := 20) (oi := ?on_20) (v := ?vn_20) ?hin_20 (by kernel_rfl) (by kernel_rfl) (by kernel_rfl) ?hqn_20 ?hyn_20 (by assumption) ?rn_20
                  case hin_20 => (simp only [List.getElem?_toArray, List.getElem?_cons_succ, List.getElem?_cons_zero]; rfl)
                  case hqn_20 => exact fun _ _ _ h => h
                  case hyn_20 =>
                    refine Or.inl ⟨by rfl, ?_⟩; intro wq hSw; (try dsimp only at hSw); go_simp; (try with_reducible rfl); done
                  try simp only [Act.put, List.setIfInBounds_toArray, List.set_cons_zero, List.set_cons_succ]
                  refine wpAnyH_take (i := 21) (oi := ?on_21) (v := ?vn_21) ?hin_21 (by kernel_rfl) (by kernel_rfl) (by kernel_rfl) ?hqn_21 ?hyn_21 (by assumption) ?rn_21
                  case hin_21 => (simp only [List.getElem?_toArray, List.getElem?_cons_succ, List.getElem?_cons_zero]; rfl)
                  case hqn_21 => exact fun _ _ _ h => h
                  case hyn_21 =>
                    refine Or.inl ⟨by rfl, ?_⟩; intro wq hSw; (try dsimp only at hSw); go_simp; (try with_reducible rfl); done
                  try simp only [Act.put, List.setIfInBounds_toArray, List.set_cons_zero, List.set_cons_succ]
                  refine wpAnyH_ready (rs := [9]) (by kernel_rfl) (by simp) ?_
                  refine AllReadyH.cons (by simp only [List.getElem?_toArray, List.getElem?_cons_succ, List.getElem?_cons_zero]; rfl) (fun K hK => ?_) AllReadyH.nil
                  refine step_callG2 wr2.drew rfl (by kernel_rfl) 24 _ _ rfl _ (by kernel_rfl) Try.call24 _ (PN.out _) ?_
                  rintro e w7 ⟨cpn, rfl, hpn, hb7⟩
                  refine ⟨_, rfl, ?_⟩
                  obtain ⟨apn, kpn, rfl, _, _, rpn⟩ := intSIn_shape hpn.read
                  rw [PL.out]
                  have Q7 := Lib.hid (below_seq (below_drew (Below.refl wr2.heap.size wr2)) hb7)
                  obtain ⟨bn, on, rfl, cn⟩ := rpn.at (i := q) (by rw [List.length_map, PL.out]; omega)
                  rw [List.getElem?_map, List.getElem?_eq_getElem (by rw [PL.out]; omega), PG.out q (by rw [PL.out]; omega)] at cn
                  replace cn : w7.cell? ⟨bn, on + q, none⟩ = some (.int .i64 (nd g a q : Nat)) := cn
                  clear hpn hb7 rpn
                  refine hK.out _ _ (SS.out _ Q7.out) (fun hH1 => ?_)
                  clear hK K hHeld
                  try simp only [Act.put, List.setIfInBounds_toArray, List.set_cons_zero, List.set_cons_succ]
                  refine wpAnyH_take (i := 15) (oi := ?on_15) (v := ?vn_15) ?hin_15 (by kernel_rfl) (by kernel_rfl) (by kernel_rfl) ?hqn_15 ?hyn_15 (by assumption) ?rn_15
                  case hin_15 => (simp only [List.getElem?_toArray, List.getElem?_cons_succ, List.getElem?_cons_zero]; rfl)
                  case hqn_15 => exact fun _ _ _ h => h
                  case hyn_15 =>
                    refine Or.inl ⟨by rfl, ?_⟩; intro wq hSw; (try dsimp only at hSw); go_simp; (try with_reducible rfl); done
                  try simp only [Act.put, List.setIfInBounds_toArray, List.set_cons_zero, List.set_cons_succ]
                  refine wpAnyH_ready (rs := [16]) (by kernel_rfl) (by simp) ?_
                  refine AllReadyH.cons (by simp only [List.getElem?_toArray, List.getElem?_cons_succ, List.getElem?_cons_zero]; rfl) (fun K hK => ?_) AllReadyH.nil
                  go_simp
                  refine hK.out _ _ (SS.out _ Q7.out) (fun hH2 => ?_)
                  clear hK K hH1
                  try simp only [Act.put, List.setIfInBounds_toArray, List.set_cons_zero, List.set_cons_succ]
                  refine wpAnyH_ready (rs := [22]) (by kernel_rfl) (by simp) ?_
                  refine AllReadyH.cons (by simp only [List.getElem?_toArray, List.getElem?_cons_succ, List.getElem?_cons_zero]; rfl) (fun K hK => ?_) AllReadyH.nil
                  refine step_callG2 w7 rfl (by kernel_rfl) 23 _ _ rfl _ (by kernel_rfl) Try.call23 _ (ON.out _) ?_
                  rintro e w8 ⟨rfl, hb8⟩
                  refine ⟨_, rfl, ?_⟩
                  have Q8 := Lib.hid (below_seq Q7.out hb8)
                  clear hb8
                  refine hK.out _ _ (SS.out _ Q8.out) (fun hH3 => ?_)
                  clear hK K hH2
                  try simp only [Act.put, List.setIfInBounds_toArray, List.set_cons_zero, List.set_cons_succ]
                  refine wpAnyH_take (i := 23) (oi := ?on_23) (v := ?vn_23) ?hin_23 (by kernel_rfl) (by kernel_rfl) (by kernel_rfl) ?hqn_23 ?hyn_23 (by assumption) ?rn_23
                  case hin_23 => (simp only [List.getElem?_toArray, List.getElem?_cons_succ, List.getElem?_cons_zero]; rfl)
                  case hqn_23 => exact fun _ _ _ h => h
                  case hyn_23 =>
                    refine Or.inl ⟨by rfl, ?_⟩; intro wq hSw; (try dsimp only at hSw); go_simp; (try with_reducible rfl); done
                  try simp only [Act.put, List.setIfInBounds_toArray, List.set_cons_zero, List.set_cons_succ]
                  refine wpAnyH_take (i := 24) (oi := ?on_24) (v := ?vn_24) ?hin_24 (by kernel_rfl) (by kernel_rfl) (by kernel_rfl) ?hqn_24 ?hyn_24 (by assumption) ?rn_24
                  case hin_24 => (simp only [List.getElem?_toArray, List.getElem?_cons_succ, List.getElem?_cons_zero]; rfl)
                  case hqn_24 => exact fun _ _ _ h => h
                  case hyn_24 =>
                    refine Or.inl ⟨by rfl, ?_⟩; intro wq hSw; (try dsimp only at hSw); go_simp; (try with_reducible rfl); done
                  try simp only [Act.put, List.setIfInBounds_toArray, List.set_cons_zero, List.set_cons_succ]
                  refine wpAnyH_done (by kernel_rfl) ?_ _
                  have H8 := Lib.hid (HH.out.below Q8.out)
                  obtain ⟨c8, p8, -⟩ := SS.out _ Q8.out
                  have f8 := H8.out.2.1.free j
                  have R2 := Lib.hid (show EvC w5 (w8.setCell ⟨bl, j, none⟩ (.int .i64 (q : Int))) bu bl (g + 1) t.length (usedF p (k + 1)) (lvlF t p k (j + 1)) from by
                    have := H8.out.setL j (q : Int)
                    rw [← hq, lvlF_set hkp EBk.out (by rw [IDJ.out, HPI.out]; exact hid)] at this
                    rw [← hq]
                    exact this)
                  clear HH ONJ TC IDJ HPI SS ON Q7 Q8 H8 cn
                  go_wp2
                  go_roundg (t.length - (j + 1))
                  case measure => omega
                  case rel => exact ⟨j + 1, by omega, rfl, by go_num, R2⟩
                · rw [decide_eq_false hid]
                  have R2 := Lib.hid (show EvC w5 wr2 bu bl (g + 1) t.length (usedF p (k + 1)) (lvlF t p k (j + 1)) from HH.out.ext (fun _ _ => rfl) (fun i _ => lvlF_keep hkp EBk.out (by rw [IDJ.out, HPI.out]; exact hid) i))
                  clear HH ONJ TC IDJ HPI
                  go_wp2
                  go_roundg (t.length - (j + 1))
                  case measure => omega
                  case rel => exact ⟨j + 1, by omega, rfl, by go_num, R2⟩
            · have hge : ¬ (j : Int) < (t.length : Int) := by omega
              have hgd : decide ((j : Int) < (t.length : Int)) = false := by simpa using hge
              have R2 := Lib.hid (show EvC w5 wr bu bl (g + 1) t.length (usedF p (k + 1)) (lvlF t p (k + 1) 0) from H.out.ext (fun _ _ => rfl) (fun i hi => by rw [show j = t.length from by omega]; exact lvlF_start t p k t.length rfl i hi))
              clear H
              go_wp2
              go_roundg (p.length - (k + 1))
              case measure => omega
              case rel => exact ⟨k + 1, by omega, rfl, by go_num, R2⟩
        · have hgp : ¬ (k : Int) < (p.length : Int) := by omega
          have hgd : decide ((k : Int) < (p.length : Int)) = false := by simpa using hgp
          have hkl : k = p.length := by omega
          have H9 := Lib.hid (show EvC w5 wr bu bl (g + 1) t.length (fun L => (cntLev p (L : Int) : Int)) (fun i => lvOf p (idAt t i)) from H.out.ext (fun L _ => by unfold usedF; rw [hkl, List.take_length]) (fun i hi => by rw [hkl]; exact lvlF_end i))
          clear H EA EB EC PN PL PG hkk RP5
          go_wp2_with fail
          go_loopg [14] t.length (fun kk iv wr => ∃ j : Nat, j ≤ t.length ∧ t.length - j = kk ∧ iv = .int .i64 j ∧ Hid (EvC w5 wr bu bl (g + 1) t.length (fun L => (cntLev p (L : Int) : Int)) (fun i => lvOf p (idAt t i))))
          case atStart => exact ⟨0, Nat.zero_le _, rfl, rfl, H9⟩
          case round =>
            clear H9
            obtain ⟨j, hj, hjj, rfl, H⟩ := hrel
            by_cases hjt : j < t.length
            · have hjI : (j : Int) < (t.length : Int) := by omega
              have hj0 : (0 : Int) ≤ (j : Int) := by omega
              have c1 := H.out.2.1.cell hjt
              have vb := EV.out (idAt t j)
              have FJ := EE.out j hjt
              rw [← idAt_get hjt] at FJ
              have FULL := Lib.hid FJ
              clear FJ
              have TC := Lib.hid (fun w' (hb : Below w5.heap.size w5 w') => CE.out w' hb j hjt)
              have LB := EQ.out j hjt
              have em := EM.out j hjt
              have MJ := Lib.hid (fun w' => MT.out w' t[j].leaf (by omega))
              obtain ⟨v, hv⟩ : ∃ v, lvOf p (idAt t j) = v := ⟨_, rfl⟩
              obtain ⟨mz, hmz⟩ : ∃ m, meetZ (g : Int) t[j].leaf (a : Int) = m := ⟨_, rfl⟩
              obtain ⟨tl, htl⟩ : ∃ z, t[j].leaf = z := ⟨_, rfl⟩
              rw [hv] at c1 vb FULL
              rw [hmz] at FULL em MJ
              rw [htl] at MJ TC LB
              clear hv hmz htl
              go_wp2_with fail
              go_loopg [15] ((g : Int) + 1 - (v + 1)).toNat (fun kk lv wr => ∃ L : Int, v + 1 ≤ L ∧ L ≤ (g : Int) + 1 ∧ ((g : Int) + 1 - L).toNat = kk ∧ lv = .int .i64 L ∧ Hid (EvC w5 wr bu bl (g + 1) t.length (fun L => (cntLev p (L : Int) : Int)) (fun i => lvOf p (idAt t i))))
              case atStart => exact ⟨v + 1, Int.le_refl _, by omega, rfl, rfl, H⟩
              case round =>
                clear H c1
                obtain ⟨L, hL1, hL2, hLk, rfl, H⟩ := hrel
                obtain ⟨gt, hac, t0, t1⟩ := TC.out wr H.out.2.2.2.2
                subst hac
                go_wp2_with fail
                refine (MJ.out wr).mono ?_
                rintro e w8 ⟨rfl, hb⟩
                have H8 := Lib.hid (H.out.below hb)
                clear hb H t0 t1
                by_cases hLm : L ≤ mz
                · have hLd : decide (L ≤ mz) = true := by simpa using hLm
                  obtain ⟨Ln, rfl⟩ : ∃ Ln : Nat, L = Ln := ⟨L.toNat, by omega⟩
                  have cu := H8.out.1.cell (k := Ln) (by omega)
                  have h4 := FULL.out (Ln : Int) (by omega) hLm
                  simp only [h4] at cu
                  have hLI : (Ln : Int) < (g : Int) + 1 := by omega
                  have hLI2 : (Ln : Int) < ((g + 1 : Nat) : Int) := by omega
                  have hL0 : (0 : Int) ≤ (Ln : Int) := by omega
                  clear h4
                  go_wp2
                  go_roundg ((g : Int) + 1 - ((Ln : Int) + 1)).toNat
                  case measure => omega
                  case rel => exact ⟨(Ln : Int) + 1, by omega, by omega, rfl, by go_num, H8⟩
                · have hLd : decide (L ≤ mz) = false := by simpa using hLm
                  clear FULL TC MJ
                  go_wp2
                  go_roundg (t.length - (j + 1))
                  case measure => omega
                  case rel => exact ⟨j + 1, by omega, rfl, by go_num, H8⟩
            · have hge : ¬ (j : Int) < (t.length : Int) := by omega
              have hgd : decide ((j : Int) < (t.length : Int)) = false := by simpa using hge
              clear EE EM EV EQ CE MT hjj
              go_wp2_with fail
              go_loopg [16] (g + 1) (fun kk lv wr => ∃ L : Nat, L ≤ g + 1 ∧ g + 1 - L = kk ∧ lv = .int .i64 L ∧ Hid (EvC w5 wr bu bl (g + 1) t.length (fun L => (cntLev p (L : Int) : Int)) (fun i => lvOf p (idAt t i))))
              case atStart => exact ⟨0, Nat.zero_le _, rfl, rfl, H⟩
              case round =>
                clear H
                obtain ⟨L, hL, hLk, rfl, H⟩ := hrel
                by_cases hlg : L ≤ g
                · have hd : decide ((L : Int) ≤ (g : Int)) = true := by simp; omega
                  have hLi : (L : Int) ≤ (g : Int) := by omega
                  have cu := H.out.1.cell (k := L) (by omega)
                  have c4 := ED.out (L : Int)
                  obtain ⟨cv, hcv⟩ : ∃ c, cntLev p (L : Int) = c := ⟨_, rfl⟩
                  simp only [hcv] at cu
                  rw [hcv] at c4
                  have hLI : (L : Int) < (g : Int) + 1 := by omega
                  have hLI2 : (L : Int) < ((g + 1 : Nat) : Int) := by omega
                  have hL0 : (0 : Int) ≤ (L : Int) := by omega
                  have hc4 : decide ((4 : Int) < (cv : Int)) = false := by simp; omega
                  have hc5 : ¬ (4 : Int) < (cv : Int) := by omega
                  clear hcv
                  go_wp2
                  go_roundg (g + 1 - (L + 1))
                  case measure => omega
                  case rel => exact ⟨L + 1, by omega, rfl, by go_num, H⟩
                · have hd : decide ((L : Int) ≤ (g : Int)) = false := by simp; omega
                  have hLi : ¬ (L : Int) ≤ (g : Int) := by omega
                  have Q9 := Lib.hid (below_seq Q5.out H.out.2.2.2.2)
                  have IRC := Lib.hid (IR.out wr Q9.out)
                  rw [ER.out] at IRC
                  have hef := EF.out
                  obtain ⟨D, hD⟩ : ∃ D, dropP t p = D := ⟨_, rfl⟩
                  rw [hD] at IRC hef
                  clear hD H IR ED
                  go_wp2_with fail
                  refine IRC.out.mono ?_
                  rintro e w9 ⟨c9, rfl, h9, hb⟩
                  obtain ⟨a9, k9, _, rfl, _⟩ := blockSIn_shape h9.read
                  have B9 := Lib.hid (below_seq B0.out (below_seq Q9.out hb))
                  have hfin : ((D.length : Int) == (t.length : Int) - (p.length : Int)) = true := by simp; omega
                  clear h9 hb IRC Q9
                  go_wp2
                  go_ret
                  exact ⟨ret_bool (by simp <;> omega), B9.out⟩
end Go.Proofs.Ytmkgddbdkpkgpaa.fnEvicted
end
