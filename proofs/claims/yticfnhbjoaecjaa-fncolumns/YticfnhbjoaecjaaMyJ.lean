/- Chapter 6 in the program: the step. -/
import Derived.Test.YticfnhbjoaecjaaMyI
namespace Go.Proofs.Yticfnhbjoaecjaa
open Go.RowKit
set_option linter.unusedVariables false

theorem xor_ones {x : Nat} (hx : x < 18446744073709551616) : 18446744073709551615 ^^^ x = notN x := by
  apply Nat.eq_of_testBit_eq
  intro i
  rw [Nat.testBit_xor, not_bit hx, show (18446744073709551615 : Nat) = 2 ^ 64 - 1 from by decide, Nat.testBit_two_pow_sub_one]
  by_cases h : i < 64
  · simp [h]
  · rw [bits_of_lt (n := 64) hx (by omega)]; simp [h]
set_option maxRecDepth 100000 in
set_option maxHeartbeats 4000000 in
theorem implStep (pv mv n eq : Nat) (sc : Int) (w : World) (he : eq < 18446744073709551616) (h : BOk pv mv sc n) :
    Calls Try.prog 42 #[.agg (bitsV pv mv sc n), .int .u64 eq] w fun e w' => e = .returned (.agg (bitsV (nextPv pv mv sc n eq) (nextMv pv mv sc n eq) (nextSc pv mv sc n eq) n)) ∧ Below w.heap.size w w' := by
  obtain ⟨SP, SM, SS⟩ := h.step he
  have hn := h.len
  have hs := h.col n (Nat.le_refl _)
  rw [colZ_last] at hs
  have p32 : 2 ^ n ≤ 4294967296 := Nat.pow_le_pow_right (n := 2) (by omega) hn
  have hpv : pv < 4294967296 := Nat.lt_of_lt_of_le h.hp p32
  have hmv : mv < 4294967296 := Nat.lt_of_lt_of_le h.hm p32
  have hA : eq &&& pv ≤ pv := Nat.and_le_right
  have q1 := u64_and_nat eq pv he (by omega)
  unfold stepP at SP
  unfold stepM at SM
  unfold moreN lessN at *
  unfold sameN at *
  generalize eq &&& pv = A at *
  have q2 : bits .xor .u64 ((A : Int) + (pv : Int)) (pv : Int) = ((A + pv ^^^ pv : Nat) : Int) := by
    rw [show (A : Int) + (pv : Int) = ((A + pv : Nat) : Int) from by simp]; exact u64_xor_nat _ _ (by omega) (by omega)
  have l2 : A + pv ^^^ pv < 18446744073709551616 := Nat.xor_lt_two_pow (n := 64) (by omega) (by omega)
  generalize A + pv ^^^ pv = Y at *
  have q3 := u64_or_nat Y eq l2 he
  have l3 : Y ||| eq < 18446744073709551616 := Nat.or_lt_two_pow (n := 64) l2 he
  generalize Y ||| eq = Z at *
  have q4 := u64_or_nat Z mv l3 (by omega)
  have l4 : Z ||| mv < 18446744073709551616 := Nat.or_lt_two_pow (n := 64) l3 (by omega)
  generalize Z ||| mv = same at *
  have q5 := u64_or_nat same pv l4 (by omega)
  have l5 : same ||| pv < 18446744073709551616 := Nat.or_lt_two_pow (n := 64) l4 (by omega)
  generalize same ||| pv = O at *
  have q6 : bits .xor .u64 IntKind.u64.max (O : Int) = ((notN O : Nat) : Int) := by rw [← xor_ones l5]; exact u64_xor_nat 18446744073709551615 O (by omega) l5
  have l6 := notN_lt O
  generalize notN O = NO at *
  have q7 := u64_or_nat mv NO (by omega) l6
  have l7 : mv ||| NO < 18446744073709551616 := Nat.or_lt_two_pow (n := 64) (by omega) l6
  generalize mv ||| NO = M0 at *
  have q8 := u64_and_nat same pv l4 (by omega)
  have l8 : same &&& pv < 18446744073709551616 := Nat.lt_of_le_of_lt Nat.and_le_left l4
  generalize same &&& pv = L0 at *
  have q9 : IntKind.u64.wrap ((M0 : Int) * 2) = ((upN M0 : Nat) : Int) := by rw [IntKind.wrap_u64]; unfold upN; omega
  have q10 : IntKind.u64.wrap ((L0 : Int) * 2) = ((upN L0 : Nat) : Int) := by rw [IntKind.wrap_u64]; unfold upN; omega
  have l9 := upN_lt M0
  have l10 := upN_lt L0
  generalize upN M0 = M1 at *
  generalize upN L0 = less at *
  have q11 : bits .or .u64 (M1 : Int) 1 = ((M1 ||| 1 : Nat) : Int) := u64_or_nat M1 1 l9 (by omega)
  have l11 : M1 ||| 1 < 18446744073709551616 := Nat.or_lt_two_pow (n := 64) l9 (by omega)
  generalize M1 ||| 1 = more at *
  have q12 := u64_or_nat same more l4 l11
  have l12 : same ||| more < 18446744073709551616 := Nat.or_lt_two_pow (n := 64) l4 l11
  generalize same ||| more = P1 at *
  have q13 : bits .xor .u64 IntKind.u64.max (P1 : Int) = ((notN P1 : Nat) : Int) := by rw [← xor_ones l12]; exact u64_xor_nat 18446744073709551615 P1 (by omega) l12
  have l13 := notN_lt P1
  generalize notN P1 = P2 at *
  have q14 := u64_or_nat less P2 l10 l13
  have l14 : less ||| P2 < 18446744073709551616 := Nat.or_lt_two_pow (n := 64) l10 l13
  generalize less ||| P2 = P3 at *
  have llow : 2 ^ n - 1 < 18446744073709551616 := by omega
  have LN : Hid (∀ w, Calls Try.prog 45 #[.int .i64 n] w fun e w' => e = .returned (.int .u64 ((2 ^ n - 1 : Nat) : Int)) ∧ w' = w) := Lib.hid (fun w => (implMaskLow (n : Int) w (by omega)).mono fun _ _ h => ⟨by rw [h.1]; congr 3; unfold lowN; congr 2; omega, h.2.symm⟩)
  generalize 2 ^ n - 1 = low at *
  have q15 := u64_and_nat P3 low l14 llow
  rw [SP] at q15
  have q16 := u64_and_nat same more l4 l11
  have l16 : same &&& more < 18446744073709551616 := Nat.lt_of_le_of_lt Nat.and_le_left l4
  generalize same &&& more = S2 at *
  have q17 := u64_and_nat S2 low l16 llow
  rw [SM] at q17
  have q18 : bits .and .u64 ((more : Int) / 2 ^ n) 1 = bI more n := by
    rw [show (more : Int) / 2 ^ n = ((more / 2 ^ n : Nat) : Int) from by simp, ← bI_of, ← bit_and1]
    exact u64_and_nat _ 1 (Nat.lt_of_le_of_lt (Nat.div_le_self _ _) l11) (by omega)
  have q19 : bits .and .u64 ((less : Int) / 2 ^ n) 1 = bI less n := by
    rw [show (less : Int) / 2 ^ n = ((less / 2 ^ n : Nat) : Int) from by simp, ← bI_of, ← bit_and1]
    exact u64_and_nat _ 1 (Nat.lt_of_le_of_lt (Nat.div_le_self _ _) l10) (by omega)
  obtain ⟨r1, r2⟩ := bI_range more n
  obtain ⟨r3, r4⟩ := bI_range less n
  generalize bI more n = x at *
  generalize bI less n = y at *
  generalize nextPv pv mv sc n eq = RP at *
  generalize nextMv pv mv sc n eq = RM at *
  generalize nextSc pv mv sc n eq = RS at *
  obtain ⟨hs1, hs2⟩ := hs
  have H := Lib.hid SS
  clear SP SM SS h llow l2 l3 l4 l5 l6 l7 l8 l9 l10 l12 l13 l14 l16
  unfold bitsV
  go_enter Try.func42, Try.ntmps42
  go_wp2_with fail
  refine (LN.out _).mono ?_
  rintro e w1 ⟨rfl, rfl⟩
  go_wp2
  go_region
  go_wp2
  exact bodyPost_ret (v := .agg #[.int .u64 RP, .int .u64 RM, .int .i64 (sc + x - y), .int .i64 n]) (by simp [results, Try.results42, go_sem]) rfl ⟨by rw [H.out], below_drew (below_box (below_box (Below.refl _ _) _) _)⟩
set_option maxHeartbeats 1000000 in
theorem implBitsOk (pv mv : Nat) (sc ln : Int) (w : World) (hpv : pv < 18446744073709551616) (hmv : mv < 18446744073709551616) (hsc : -9223372036854775808 ≤ sc ∧ sc ≤ 9223372036854775807) (hln : -9223372036854775808 ≤ ln ∧ ln ≤ 9223372036854775807) :
    Calls Try.prog 21 #[.agg (bitsV pv mv sc ln)] w fun e w' => e = .returned (.bool (okB pv mv sc ln)) ∧ Below w.heap.size w w' := by
  have V := Lib.hid (fun w => implValid pv mv sc ln w hpv hmv hsc hln)
  unfold bitsV at *
  generalize okB pv mv sc ln = o at *
  go_enter Try.func21, Try.ntmps21
  go_wp2_with fail
  refine (V.out _).mono ?_
  rintro e w1 ⟨rfl, hb⟩
  go_wp2
  go_ret
  exact ⟨rfl, below_seq (below_box (Below.refl _ _) _) hb⟩
/-- What BitsColumn answers. -/
def okL (pv mv : Nat) (sc ln : Int) : List Int := if okB pv mv sc ln then listF (ln.toNat + 1) (colZ pv mv sc ln.toNat) else []
theorem okL_no {pv mv : Nat} {sc ln : Int} (h : okB pv mv sc ln = false) : okL pv mv sc ln = [] := by unfold okL; rw [h]; rfl
theorem okL_yes {pv mv n : Nat} {sc : Int} (h : BOk pv mv sc n) : okL pv mv sc n = listF (n + 1) (colZ pv mv sc n) := by unfold okL; rw [okB_is h]; rfl
set_option maxHeartbeats 1000000 in
theorem implBitsColumn (pv mv : Nat) (sc ln : Int) (w : World) (hpv : pv < 18446744073709551616) (hmv : mv < 18446744073709551616) (hsc : -9223372036854775808 ≤ sc ∧ sc ≤ 9223372036854775807) (hln : -9223372036854775808 ≤ ln ∧ ln ≤ 9223372036854775807) :
    Calls Try.prog 20 #[.agg (bitsV pv mv sc ln)] w (IntSPost (okL pv mv sc ln) w) := by
  have V := Lib.hid (fun w => implValid pv mv sc ln w hpv hmv hsc hln)
  cases ho : okB pv mv sc ln
  · rw [okL_no ho]
    rw [ho] at V
    clear ho
    unfold bitsV at *
    go_enter Try.func20, Try.ntmps20
    go_wp2_with fail
    refine (V.out _).mono ?_
    rintro e w1 ⟨rfl, hb⟩
    go_wp2
    go_ret
    exact ⟨_, rfl, IntSOwn.mk (l := []) (World.ownsRow_nil _ _ 3 1), below_seq (below_box (Below.refl _ _) _) hb⟩
  · obtain ⟨n, rfl, hk⟩ := okB_of hpv hmv ho
    rw [okL_yes hk]
    rw [ho] at V
    have hs := hk.col n (Nat.le_refl _)
    rw [colZ_last] at hs
    have EL := Lib.hid (fun w => implElements pv mv n sc w hpv hmv hsc hk.len)
    have EQ : listF (n + 1) (colW pv mv sc n) = listF (n + 1) (colZ pv mv sc n) := listF_ext fun i hi => colW_in pv mv sc n i hs hk.len (by omega)
    rw [EQ] at EL
    clear ho EQ hs hk
    unfold bitsV at *
    generalize listF (n + 1) (colZ pv mv sc n) = L at *
    go_enter Try.func20, Try.ntmps20
    go_wp2_with fail
    refine (V.out _).mono ?_
    rintro e w1 ⟨rfl, hb⟩
    have hbox : w1.heap[w.heap.size]? = some (.cells #[.int .u64 pv, .int .u64 mv, .int .i64 sc, .int .i64 n] 32 (0, 0)) := kept_block (alloc_at _ _ _ rfl) hb
    have c0 := cur_cell hbox 0
    have c1 := cur_cell hbox 1
    have c2 := cur_cell hbox 2
    have c3 := cur_cell hbox 3
    simp at c0 c1 c2 c3
    have B1 := Lib.hid (below_seq (below_box (Below.refl w.heap.size w) _) hb)
    clear hbox hb
    go_wp2_with fail
    refine (EL.out _).mono ?_
    rintro e w2 ⟨c, rfl, ho, hb2⟩
    have P := Lib.hid (And.intro (ho.wide (lo' := w.heap.size) B1.out.size (Nat.le_refl _)) (below_seq B1.out hb2))
    obtain ⟨a, m, cap, rfl⟩ := ho.shape
    clear ho hb2
    go_wp2
    go_ret
    exact ⟨_, rfl, P.out.1, P.out.2⟩
/-- What MyersStep answers. -/
def bstep (pv mv : Nat) (sc ln : Int) (eq : Nat) : Nat × Nat × Int × Int :=
  if okB pv mv sc ln && okB (nextPv pv mv sc ln.toNat eq) (nextMv pv mv sc ln.toNat eq) (nextSc pv mv sc ln.toNat eq) ln then (nextPv pv mv sc ln.toNat eq, nextMv pv mv sc ln.toNat eq, nextSc pv mv sc ln.toNat eq, ln) else (0, 0, 0, 0)
def bV (m : Nat × Nat × Int × Int) : Value := .agg (bitsV m.1 m.2.1 m.2.2.1 m.2.2.2)
theorem bstep_no1 {pv mv : Nat} {sc ln : Int} {eq : Nat} (h : okB pv mv sc ln = false) : bstep pv mv sc ln eq = (0, 0, 0, 0) := by unfold bstep; rw [h]; rfl
theorem bstep_no2 {pv mv n : Nat} {sc : Int} {eq : Nat} (h : okB (nextPv pv mv sc n eq) (nextMv pv mv sc n eq) (nextSc pv mv sc n eq) n = false) : bstep pv mv sc n eq = (0, 0, 0, 0) := by
  unfold bstep; rw [show ((n : Int)).toNat = n from by simp, h]; simp
theorem bstep_yes {pv mv n : Nat} {sc : Int} {eq : Nat} (h0 : okB pv mv sc n = true) (h : okB (nextPv pv mv sc n eq) (nextMv pv mv sc n eq) (nextSc pv mv sc n eq) n = true) : bstep pv mv sc n eq = (nextPv pv mv sc n eq, nextMv pv mv sc n eq, nextSc pv mv sc n eq, (n : Int)) := by
  unfold bstep; rw [show ((n : Int)).toNat = n from by simp, h, h0]; simp
theorem next_small {pv mv n eq : Nat} {sc : Int} (h : BOk pv mv sc n) : nextPv pv mv sc n eq < 4294967296 ∧ nextMv pv mv sc n eq < 4294967296 ∧ -1 ≤ nextSc pv mv sc n eq ∧ nextSc pv mv sc n eq ≤ 65 := by
  have p32 : 2 ^ n ≤ 4294967296 := Nat.pow_le_pow_right (n := 2) (by omega) h.len
  exact ⟨Nat.lt_of_lt_of_le (bitsUp_lt _ _) p32, Nat.lt_of_lt_of_le (bitsUp_lt _ _) p32, eZ_near h n (Nat.le_refl _)⟩
set_option maxRecDepth 100000 in
set_option maxHeartbeats 2000000 in
theorem implMyersStep (pv mv eq : Nat) (sc ln : Int) (w : World) (hpv : pv < 18446744073709551616) (hmv : mv < 18446744073709551616) (hsc : -9223372036854775808 ≤ sc ∧ sc ≤ 9223372036854775807) (hln : -9223372036854775808 ≤ ln ∧ ln ≤ 9223372036854775807) (he : eq < 18446744073709551616) :
    Calls Try.prog 22 #[.agg (bitsV pv mv sc ln), .int .u64 eq] w fun e w' => e = .returned (bV (bstep pv mv sc ln eq)) ∧ Below w.heap.size w w' := by
  have V := Lib.hid (fun w => implValid pv mv sc ln w hpv hmv hsc hln)
  cases ho : okB pv mv sc ln
  · rw [bstep_no1 ho]
    rw [ho] at V
    clear ho
    unfold bV
    unfold bitsV at *
    go_enter Try.func22, Try.ntmps22
    go_wp2_with fail
    refine (V.out _).mono ?_
    rintro e w1 ⟨rfl, hb⟩
    have hres : w1.heap[w.heap.size + 1]? = some (.cells #[.int .u64 0, .int .u64 0, .int .i64 0, .int .i64 0] 32 (0, 0)) := kept_block (alloc_at _ _ _ (by simp)) hb
    have c0 := cur_cell hres 0
    have c1 := cur_cell hres 1
    have c2 := cur_cell hres 2
    have c3 := cur_cell hres 3
    simp at c0 c1 c2 c3
    have f0 := cur_free hres 0
    have f1 := cur_free hres 1
    have f2 := cur_free hres 2
    have f3 := cur_free hres 3
    have B1 := Lib.hid (below_seq (below_box (below_box (Below.refl w.heap.size w) _) _) hb)
    clear hres hb
    go_wp2
    exact bodyPost_ret (v := .agg #[.int .u64 0, .int .u64 0, .int .i64 0, .int .i64 0]) (by simp [results, Try.results22, go_sem, c0, c1, c2, c3]) rfl ⟨rfl, (((B1.out.setCell (p := ⟨w.heap.size + 1, 0, none⟩) (by simp) _).setCell (p := ⟨w.heap.size + 1, 1, none⟩) (by simp) _).setCell (p := ⟨w.heap.size + 1, 2, none⟩) (by simp) _).setCell (p := ⟨w.heap.size + 1, 3, none⟩) (by simp) _⟩
  · obtain ⟨n, rfl, hk⟩ := okB_of hpv hmv ho
    obtain ⟨s1, s2, s3, s4⟩ := next_small (eq := eq) hk
    have ST := Lib.hid (fun w => implStep pv mv n eq sc w he hk)
    have hn := hk.len
    have V2 := Lib.hid (fun w => implValid (nextPv pv mv sc n eq) (nextMv pv mv sc n eq) (nextSc pv mv sc n eq) n w (by omega) (by omega) (by omega) (by omega))
    have N2 := Lib.hid (fun h => bstep_no2 (pv := pv) (mv := mv) (n := n) (sc := sc) (eq := eq) h)
    have Y2 := Lib.hid (fun h => bstep_yes (eq := eq) ho h)
    rw [ho] at V
    clear ho hk s1 s2 s3 s4
    unfold bitsV at *
    generalize nextPv pv mv sc n eq = P at *
    generalize nextMv pv mv sc n eq = M at *
    generalize nextSc pv mv sc n eq = S at *
    go_enter Try.func22, Try.ntmps22
    go_wp2_with fail
    refine (V.out _).mono ?_
    rintro e w1 ⟨rfl, hb⟩
    have hbox : w1.heap[w.heap.size]? = some (.cells #[.int .u64 pv, .int .u64 mv, .int .i64 sc, .int .i64 n] 32 (0, 0)) := kept_block ((alloc_old _ _ _ (by simp)).trans (alloc_at _ _ _ rfl)) hb
    have hres : w1.heap[w.heap.size + 1]? = some (.cells #[.int .u64 0, .int .u64 0, .int .i64 0, .int .i64 0] 32 (0, 0)) := kept_block (alloc_at _ _ _ (by simp)) hb
    have c0 := cur_cell hbox 0
    have c1 := cur_cell hbox 1
    have c2 := cur_cell hbox 2
    have c3 := cur_cell hbox 3
    simp at c0 c1 c2 c3
    have B1 := Lib.hid (below_seq (below_box (below_box (Below.refl w.heap.size w) _) _) hb)
    have R1 := Lib.hid hres
    clear hbox hb hres
    go_wp2_with fail
    refine (ST.out _).mono ?_
    rintro e w2 ⟨rfl, hb2⟩
    have R2 := Lib.hid (kept_block R1.out hb2)
    have B2 := Lib.hid (below_seq B1.out hb2)
    clear hb2 R1 c0 c1 c2 c3 B1
    go_wp2_with fail
    refine (V2.out _).mono ?_
    rintro e w3 ⟨rfl, hb3⟩
    have hnew : w3.heap[w2.heap.size]? = some (.cells #[.int .u64 P, .int .u64 M, .int .i64 S, .int .i64 n] 32 (0, 0)) := kept_block (alloc_at _ _ _ rfl) hb3
    have hres : w3.heap[w.heap.size + 1]? = some (.cells #[.int .u64 0, .int .u64 0, .int .i64 0, .int .i64 0] 32 (0, 0)) := kept_block ((alloc_old _ _ _ (cur_lt R2.out)).trans R2.out) hb3
    have B3 := Lib.hid (below_seq (below_box B2.out _) hb3)
    have d0 := cur_cell hnew 0
    have d1 := cur_cell hnew 1
    have d2 := cur_cell hnew 2
    have d3 := cur_cell hnew 3
    have c0 := cur_cell hres 0
    have c1 := cur_cell hres 1
    have c2 := cur_cell hres 2
    have c3 := cur_cell hres 3
    simp at c0 c1 c2 c3 d0 d1 d2 d3
    have f0 := cur_free hres 0
    have f1 := cur_free hres 1
    have f2 := cur_free hres 2
    have f3 := cur_free hres 3
    clear hnew hres hb3 B2 R2
    cases ho2 : okB P M S n
    · have N3 := Lib.hid (N2.out ho2)
      clear ho2
      go_wp2
      exact bodyPost_ret (v := .agg #[.int .u64 0, .int .u64 0, .int .i64 0, .int .i64 0]) (by simp [results, Try.results22, go_sem, c0, c1, c2, c3]) rfl ⟨by rw [N3.out]; rfl, (((B3.out.setCell (p := ⟨w.heap.size + 1, 0, none⟩) (by simp) _).setCell (p := ⟨w.heap.size + 1, 1, none⟩) (by simp) _).setCell (p := ⟨w.heap.size + 1, 2, none⟩) (by simp) _).setCell (p := ⟨w.heap.size + 1, 3, none⟩) (by simp) _⟩
    · have N3 := Lib.hid (Y2.out ho2)
      clear ho2
      go_wp2
      exact bodyPost_ret (v := .agg #[.int .u64 P, .int .u64 M, .int .i64 S, .int .i64 n]) (by simp [results, Try.results22, go_sem, c0, c1, c2, c3]) rfl ⟨by rw [N3.out]; rfl, (((B3.out.setCell (p := ⟨w.heap.size + 1, 0, none⟩) (by simp) _).setCell (p := ⟨w.heap.size + 1, 1, none⟩) (by simp) _).setCell (p := ⟨w.heap.size + 1, 2, none⟩) (by simp) _).setCell (p := ⟨w.heap.size + 1, 3, none⟩) (by simp) _⟩
end Go.Proofs.Yticfnhbjoaecjaa
