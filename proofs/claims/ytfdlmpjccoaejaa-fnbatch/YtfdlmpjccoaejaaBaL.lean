/- Chapter 7 in the program: BatchCapped. -/
import Derived.Test.YtfdlmpjccoaejaaBaK
namespace Go.Proofs.Ytfdlmpjccoaejaa
open Go.RowKit
set_option linter.unusedVariables false
set_option maxRecDepth 100000

theorem still_arrG_load {P : Program} {w : World} {ops : Array Oper} {rest : List Oper} {o : Oper} {a : Act} {Q : Act → Prop} (hgd : o.guard = none) (ty : TypeId) (x : Operand) (ho : o.op = .load ty x) (d : TypeDesc) (b n : Nat) (t : TypeId) (F : Nat → Value)
    (hu : P.underlying ty = some d) (hd : (match d with | .struct _ | .array _ _ => true | _ => false) = true) (hi : (P.info? ty).map (·.size) = some n)
    (hx : a.eval x = .pointer (some ⟨b, 0, none⟩)) (ha : ArrG w b t n F) (h : wpStill P ops w Q rest (a.put o.dst (.agg (cellsG n F)))) : wpStill P ops w Q (o :: rest) a := by
  refine wpStill_step fun K hK => ?_
  have hw : Region.wanted o (yielded ops a.tmps) = true := by simp [Region.wanted, hgd]
  rw [if_pos hw]
  unfold Oper.still execOp
  simp only [ho, hx, Instr.loadAt, Instr.sureAddr, Sem.run_bind, Sem.run_pure, Result.andThen_ok, run_loadVar_row w b t ty (cellsG n F) (0, 0) d ha hu hd (by rw [cellsG_size]; exact hi)]
  rw [Oper.stillUpon_value]
  exact hK _ h
/-- A call that leaves the world as it was, in the head of a region that draws its order. -/
theorem still_call {P : Program} {w : World} {ops : Array Oper} {rest : List Oper} {o : Oper} {a : Act} {Q : Act → Prop} (hgd : o.guard = none) (f : FuncId) (xs : Array Operand) (ts : Array TypeId)
    (ho : o.op = .call { callee := .value (.func f), args := xs, argTypes := ts }) (args : Array Value) (hargs : xs.map a.eval = args) (hcf : ∀ args w, (callFunc f args).run P w = .ok (.enter f args) w)
    (v : Value) (hc : Calls P f args w (fun e w' => e = .returned v ∧ w' = w)) (h : wpStill P ops w Q rest (a.put o.dst v)) : wpStill P ops w Q (o :: rest) a := by
  refine wpStill_step fun K hK => ?_
  have hw : Region.wanted o (yielded ops a.tmps) = true := by simp [Region.wanted, hgd]
  rw [if_pos hw]
  have hfun : a.eval (.func f) = .func (.func f) #[] #[] := rfl
  have hx : (execOp a.eval o).run P w = .ok (.enter f args) w := by
    unfold execOp
    simp [ho, resolve, Deferred.ofValue, invoke, hfun, hargs, hcf]
  unfold Oper.still
  rw [hx]
  exact ⟨rfl, v, hc, hK _ h⟩
theorem nil_intsO (lo hi : Nat) (w : World) : IntSOwn lo hi [.slice none 0 0] [] w := ⟨none, 0, rfl, ⟨rfl, .inl ⟨rfl, rfl⟩⟩, fun k hk => by simp [Value.ownBlock] at hk⟩
theorem ok_fits {m : PlanesM} (h : planesOkB m = true) : 0 ≤ m.n ∧ m.n ≤ 64 ∧ m.len.length = 6 ∧ m.lts.length = 160 := by
  unfold planesOkB okOf fitsB at h
  simp only [Bool.and_eq_true, decide_eq_true_eq] at h
  exact ⟨h.1.1.1.1.1.1, h.1.1.1.1.1.2, h.1.1.1.1.2, h.1.1.1.2⟩
set_option maxHeartbeats 8000000 in
theorem implBatch (p : ByteArray) (c0 c1 c2 : Value) (m : PlanesM) (w : World) (hp : p.size ≤ maxLen) (h : PlanesIn [c0, c1, c2] m w) (hb : planesBd m) :
    Calls Try.prog 22 #[.string p, .agg #[c0, c1, c2]] w (IntSRet (batchM p.data.toList m) w) := by
  obtain ⟨a1, x1, a2, x2, rfl, rfl, rfl, l1, l2⟩ := planesIn_cells h
  unfold maxLen at hp
  have B1 := Lib.hid (below_box (Below.refl w.heap.size w) (.cells #[.int .i64 m.n, .slice a1 m.len.length x1, .slice a2 m.lts.length x2] 28))
  have C := Lib.hid (implPlanesOk _ _ _ m _ ((h.lies.below B1.out).now) hb)
  have BLK := Lib.hid (alloc_at w (.cells #[.int .i64 m.n, .slice a1 m.len.length x1, .slice a2 m.lts.length x2] 28) _ rfl)
  have LP := Lib.hid (len_data p)
  cases hP : planesOkB m
  · rw [hP] at C
    have E := Lib.hid (batch_no (p := p.data.toList) (.inl hP))
    clear h hb l1 l2 hP
    go_enter Try.func22, Try.ntmps22
    go_wp2_with fail
    refine C.out.mono ?_
    rintro e w2 ⟨rfl, hb2⟩
    go_wp2
    go_ret
    exact ⟨_, rfl, by rw [E.out]; exact nil_intsO _ _ _, below_seq B1.out hb2⟩
  rw [hP] at C
  by_cases hp32 : 32 < p.size
  · have E := Lib.hid (batch_no (p := p.data.toList) (m := m) (.inr (by rw [LP.out]; exact hp32)))
    clear h hb l1 l2 hP
    go_enter Try.func22, Try.ntmps22
    go_wp2_with fail
    refine C.out.mono ?_
    rintro e w2 ⟨rfl, hb2⟩
    go_wp2
    go_ret
    exact ⟨_, rfl, by rw [E.out]; exact nil_intsO _ _ _, below_seq B1.out hb2⟩
  obtain ⟨f1, f2, f3, f4⟩ := ok_fits hP
  have HM := Lib.hid h
  have HB := Lib.hid hb
  have HF := Lib.hid (And.intro f3 (And.intro f4 hP))
  have E := Lib.hid (batch_yes (p := p.data.toList) hP (by rw [LP.out]; omega))
  have WL := Lib.hid (wordsS_length m)
  obtain ⟨n, hn⟩ : ∃ n : Nat, m.n = n := ⟨m.n.toNat, by omega⟩
  rw [hn] at WL
  rw [Int.toNat_natCast] at WL
  have hn64 : n ≤ 64 := by omega
  rw [hn] at B1 C BLK ⊢
  clear h hb l1 l2 hP f1 f2 f3 f4 hn
  go_enter Try.func22, Try.ntmps22
  go_wp2_with fail
  refine C.out.mono ?_
  rintro e w2 ⟨rfl, hb2⟩
  have K2 := Lib.hid (And.intro (kept_block BLK.out hb2) (below_seq B1.out hb2))
  clear hb2 C BLK B1
  have FD := Lib.hid (implFirst w2)
  go_wp2_with fail
  refine FD.out.mono ?_
  rintro e w3 ⟨V0, rfl, hR0, hb3⟩
  have R0 := Lib.hid hR0
  have K3 := Lib.hid (And.intro (kept_block K2.out.1 hb3) (below_seq K2.out.2 hb3))
  clear hR0 hb3 K2 FD
  go_wp2_with (refine wp_arrG_new rfl 75 rfl 33 _ Try.zeroRow ?_)
  intro w4 A4 G4 S4
  have hb4 := grown_below G4
  have R4 := Lib.hid (R0.out.below hb4)
  have K4 := Lib.hid (And.intro (kept_block K3.out.1 hb4) (below_seq K3.out.2 hb4))
  have hBR : w.heap.size < w3.heap.size := cur_lt K3.out.1
  clear K3 R0 G4 hb4
  go_wp2_with (refine wp_arrG_store rfl 75 _ _ rfl _ 33 _ _ _ Try.sizeRow R4.out.one rfl rfl A4 ?_)
  intro w5 A5 G5 S5
  have R5 := Lib.hid (R4.out.keep A4 nil_slices G5)
  have K5 := Lib.hid (And.intro (kept_grown K4.out.1 G5 (by simp; omega)) (below_write K4.out.2 G5 (by omega)))
  have X0 : Hid (ArrG w5 w3.heap.size 75 33 V0 ∧ RowIn V0 allN w5 ∧ (∀ j, j < 33 → ∀ l, l < 64 → getN (allN j) l = dN p.data.toList m 0 j l) ∧ w5.heap[w.heap.size]? = some (.cells #[.int .i64 n, .slice a1 m.len.length x1, .slice a2 m.lts.length x2] 28 (0, 0)) ∧ Below w.heap.size w w5) := Lib.hid ⟨A5, R5.out, fun j hj l hl => by rw [allN_get (by omega) hl, dN_zero _ _ _ _ (by omega)], K5.out.1, K5.out.2⟩
  clear A4 A5 G5 S4 S5 R4 R5 K4 K5
  generalize w3.heap.size = BR at *
  go_wp2
  go_loopw [21, 6] (fun i _ wr => ∃ (k : Nat) (V : Nat → Value) (N : Nat → List Nat), k ≤ p.size ∧ i = .int .i64 k ∧ Hid (ArrG wr BR 75 33 V ∧ RowIn V N wr ∧ (∀ j, j < 33 → ∀ l, l < 64 → getN (N j) l = dN p.data.toList m k j l) ∧ wr.heap[w.heap.size]? = some (.cells #[.int .i64 n, .slice a1 m.len.length x1, .slice a2 m.lts.length x2] 28 (0, 0)) ∧ Below w.heap.size w wr)) (fun i _ _ => p.size - (intOf i).toNat)
  case atStart => exact ⟨0, V0, allN, Nat.zero_le _, rfl, X0⟩
  case round =>
    clear X0
    obtain ⟨k, V, N, hk, rfl, H⟩ := hrel
    by_cases hlt : k < p.size
    · obtain ⟨_, s1, s2⟩ := planesIn_shape ((HM.out.lies.below H.out.2.2.2.2).now)
      have LN := Lib.hid ((implLetter p[k] wr.drew).mono (fun e w' (h : e = .returned (.int .i64 ((letN p[k] : Nat) : Int)) ∧ wr.drew = w') => And.intro h.1 h.2.symm))
      have hln := letN_lt p[k]
      have NX := Lib.hid (implNext V N (.slice a2 m.lts.length x2) m (letN p[k]) wr.drew (H.out.2.1.below (belowN 1)) (s2.below (belowN 1)) HF.out.2.1 HB.out.2.2 (by omega))
      have ND := Lib.hid (next_get (N := N) (m := m) (p := p.data.toList) (i := k) HF.out.2.1 HB.out.2.2 (by rw [LP.out]; exact hlt) (by rw [LP.out]; omega) H.out.2.1.six H.out.2.2.1)
      have eb : p.data.toList[k]'(by rw [LP.out]; exact hlt) = p[k] := rfl
      rw [eb] at ND
      have q2 : wr.drew.cell? ⟨w.heap.size, 2, none⟩ = some (.slice a2 m.lts.length x2) := cur_cell H.out.2.2.2.1 2
      have AA : ArrG wr.drew BR 75 33 V := H.out.1
      have SLV := Lib.hid H.out.2.1.slices
      have HD := Lib.hid (And.intro (show wr.drew.heap[w.heap.size]? = _ from H.out.2.2.2.1) (below_drew H.out.2.2.2.2))
      have hi0 : (0 : Int) ≤ (k : Int) := by omega
      have hi1 : (k : Int) < (p.size : Int) := by omega
      clear s1 s2 eb
      generalize letN p[k] = num at *
      go_wp2
      refine wp_region_still_tail 7 (by kernel_rfl) (by kernel_rfl) ?_
      simp only [List.take_succ_cons, List.take_zero, List.drop_succ_cons, List.drop_zero]
      refine still_arrG_load rfl 75 _ rfl _ BR 33 _ V Try.underlying75 rfl Try.sizeRow rfl AA ?_
      iterate 5 still_step
      refine still_call rfl 70 _ _ rfl _ (by kernel_rfl) Try.call70 _ LN.out ?_
      refine wpStill_nil ?_
      change wpList _ _ _ _ _ wr.drew
      go_wp2_with fail
      refine NX.out.mono ?_
      rintro e w7 ⟨V7, rfl, hR7, hb7⟩
      have R7 := Lib.hid hR7
      have A7 := AA.below hb7
      have K7 := Lib.hid (And.intro (kept_block HD.out.1 hb7) (below_seq HD.out.2 hb7))
      clear hR7 hb7 NX AA
      go_wp2_with (refine wp_arrG_store rfl 75 _ _ rfl _ 33 _ _ _ Try.sizeRow R7.out.one rfl rfl A7 ?_)
      intro w8 A8 G8 S8
      have X8 := Lib.hid (And.intro A8 (And.intro (R7.out.keep A7 SLV.out G8) (And.intro (kept_grown K7.out.1 G8 (by simp; omega)) (below_write K7.out.2 G8 (by omega)))))
      clear A7 A8 G8 S8 R7 K7
      go_wp2
      go_roundw
      case rel => exact ⟨k + 1, V7, _, by omega, by go_num, Lib.hid ⟨X8.out.1, X8.out.2.1, ND.out, X8.out.2.2.1, X8.out.2.2.2⟩⟩
      case measure => simp [intOf]; omega
    · have hk' : k = p.size := by omega
      subst hk'
      have AA := H.out.1
      have q1 : wr.cell? ⟨w.heap.size, 1, none⟩ = some (.slice a1 m.len.length x1) := cur_cell H.out.2.2.2.1 1
      obtain ⟨_, s1, s2⟩ := planesIn_shape ((HM.out.lies.below H.out.2.2.2.2).now)
      have AT := Lib.hid (implAt V N _ m.len wr H.out.2.1 s1 HF.out.1 HB.out.2.1)
      clear s1 s2
      go_wp2_with (refine wp_arrG_load rfl 75 _ rfl _ _ 33 _ _ Try.underlying75 rfl Try.sizeRow rfl AA ?_)
      clear AA
      go_wp2_with fail
      refine AT.out.mono ?_
      rintro e w6 ⟨c6, rfl, ho6, hb6⟩
      obtain ⟨a6, n6, k6, rfl⟩ := ho6.shape
      have I6 := Lib.hid ho6.read
      have K6 := Lib.hid (And.intro (kept_block H.out.2.2.2.1 hb6) (below_seq H.out.2.2.2.2 hb6))
      have C7 := Lib.hid (implInAll 7 w6 (by omega))
      clear ho6 hb6 AT q1
      go_wp2_with fail
      refine C7.out.mono ?_
      rintro e w7 ⟨c7, rfl, ho7, hb7⟩
      obtain ⟨a7, n7, k7, rfl⟩ := ho7.shape
      have K7 := Lib.hid (And.intro (kept_block K6.out.1 hb7) (below_seq K6.out.2 hb7))
      have C8 := Lib.hid (implNumsMin _ _ _ _ w7 (I6.out.below hb7) ho7.read (atL_lt N m.len) (allN_lt 7))
      clear ho7 hb7 C7 I6 K6
      go_wp2_with fail
      refine C8.out.mono ?_
      rintro e w8 ⟨c8, rfl, ho8, hb8⟩
      obtain ⟨a8, n8, k8, rfl⟩ := ho8.shape
      have K8 := Lib.hid (And.intro (kept_block K7.out.1 hb8) (below_seq K7.out.2 hb8))
      have I8 := Lib.hid ho8.read
      have CAP : Hid (∀ l (hl : l < (wordsS m).length), ((getN (minM (atL N m.len) (allN 7)) l : Nat) : Int) = capN p.data.toList (wordsS m)[l]) := Lib.hid (fun l hl => lane_cap HF.out.2.2 (by rw [LP.out]; omega) HF.out.1 HB.out.2.1 H.out.2.1.six (by rw [LP.out]; exact H.out.2.2.1) hl)
      have NL : Hid ((minM (atL N m.len) (allN 7)).length ≤ 16 ∧ bd64 (minM (atL N m.len) (allN 7))) := Lib.hid ⟨minM_length _ _, minM_lt _ _⟩
      clear ho8 hb8 C8 K7 H
      generalize minM (atL N m.len) (allN 7) = M at *
      have q0 : w8.cell? ⟨w.heap.size, 0, none⟩ = some (.int .i64 n) := cur_cell K8.out.1 0
      obtain ⟨i0, hi, hz0, hz1, hz2⟩ := info_parts Try.info3
      go_wp2_with (at_make; refine wpList_make_full _ rfl _ _ 36 rfl w8.heap.size 3 i0 (.int .i64 0) 1 Try.underlying36 hi hz0 hz1 .i64 .i64 _ _ n rfl rfl rfl rfl (by rw [hz2]; omega) (by unfold maxLen; omega) (Nat.le_refl _) ?_)
      clear hi hz0 hz1 hz2 q0
      intro w9 hown hgr
      rw [toList_madeCells_one] at hown
      have A0 : Hid (ArrG w9 w8.heap.size 3 n (progG (iF (fun l => getN M l)) (fun _ => .int .i64 0) 0) ∧ Below w8.heap.size w8 w9) := Lib.hid ⟨by rw [progG_zero]; exact own_arrG hown, grown_below hgr⟩
      clear hown hgr
      go_wp2
      go_loopw [44, 9] (fun i _ wq => ∃ k : Nat, k ≤ n ∧ i = .int .i64 k ∧ Hid (ArrG wq w8.heap.size 3 n (progG (iF (fun l => getN M l)) (fun _ => .int .i64 0) k) ∧ Below w8.heap.size w8 wq)) (fun i _ _ => n - (intOf i).toNat)
      case atStart => exact ⟨0, Nat.zero_le _, rfl, A0⟩
      case round =>
        clear A0
        obtain ⟨l, hl, rfl, H⟩ := hrel
        by_cases hln : l < n
        · have C := Lib.hid (implNumAt _ M l wr (I8.out.below H.out.2) NL.out.2)
          rw [numZ_in NL.out.1 (by omega)] at C
          have hc := H.out.1.cell hln
          rw [progG_at] at hc
          have hf := H.out.1.free l
          have RS := Lib.hid (progG_set (iF (fun l => getN M l)) (fun _ => .int .i64 0) l)
          have R := Lib.hid (And.intro (H.out.1.set l (iF (fun l => getN M l) l)) (H.out.2.setCell (p := ⟨w8.heap.size, l, none⟩) (Nat.le_refl _) (iF (fun l => getN M l) l)))
          rw [RS.out] at R
          have ei : iF (fun l => getN M l) l = .int .i64 ((getN M l : Nat) : Int) := rfl
          rw [ei] at R
          clear RS H ei
          generalize hv : getN M l = v at C R
          clear hv
          go_wp2_with fail
          refine C.out.mono ?_
          rintro e w3 ⟨rfl, rfl⟩
          go_wp2
          go_roundw
          case rel => exact ⟨l + 1, by omega, by go_num, R⟩
          case measure => simp [intOf]; omega
        · have hl' : l = n := by omega
          subst hl'
          have O : Hid (IntSOwn w8.heap.size wr.heap.size [.slice (some ⟨w8.heap.size, 0, none⟩) l l] (batchM p.data.toList m) wr) := Lib.hid (ints_own H.out.1 (Nat.le_refl _) (by unfold maxLen; omega) (by rw [E.out, List.length_map, WL.out]) (fun i hi => by
            have hi2 : i < (wordsS m).length := by rw [E.out, List.length_map] at hi; exact hi
            have e1 : (batchM p.data.toList m)[i] = capN p.data.toList (wordsS m)[i] := by
              have := E.out
              simp only [this, List.getElem_map]
            unfold progG
            rw [if_pos (by have := WL.out; omega), e1, ← CAP.out i hi2]
            rfl))
          go_wp2
          go_ret
          exact ⟨_, rfl, O.out.wide K8.out.2.size (Nat.le_refl _), below_seq K8.out.2 H.out.2⟩
end Go.Proofs.Ytfdlmpjccoaejaa
