/- For every code: the law FnTapeWalk answers true, that is, the draws taken one by one are the next draws. No condition. -/
import Derived.Test.YtkecejimakclgaaBase
import Derived.Test.YtkecejimakclgaaTapeN
import Derived.Test.YtkecejimakclgaaCurT
import Derived.Test.YtkecejimakclgaaBigIs
namespace Go.Proofs.Ytkecejimakclgaa.fnTapeWalk
open Go.ChangeShapes Go.WideShapes Go.ChangeAt Go.RowKit
open Go.ChangeMaps (open_string shut_string)
set_option linter.unusedVariables false

def DrawPost (w : World) (e : Ending) (w' : World) : Prop :=
  ∃ (c0 c1 : Value) (t : TapeM), e = .returned (.agg #[c0, c1]) ∧ TapeOwn w.heap.size w'.heap.size [c0, c1] t w' ∧ t.l.length ≤ 4001 ∧ Below w.heap.size w w'
set_option maxHeartbeats 1000000 in
theorem drawTape (a : Option Addr) (l : List UInt8) (cap : Nat) (w : World) (hl : l.length ≤ 1048576) (r : Row w a (l.map bval)) :
    Calls Try.prog 10 #[.slice a l.length cap] w (DrawPost w) := by
  have hb0 : Below w.heap.size w (w.alloc (.cells #[.slice none 0 0, .int .i64 0] 26)) := (Below.refl _ _).alloc (Nat.le_refl _) _
  have R := Lib.hid (r.below hb0)
  have B0 := Lib.hid hb0
  have K0 := Lib.hid (alloc_at w (.cells #[.slice none 0 0, .int .i64 0] 26) _ rfl)
  clear r hb0
  go_enter Try.func10, Try.ntmps10
  go_wp2_with fail
  refine (curOpen a l cap _ hl R.out).mono ?_
  rintro e w1 ⟨rfl, hI1, hb1⟩
  rw [size_box] at hI1 ⊢
  have I1 := Lib.hid hI1
  have B1 := Lib.hid (below_seq B0.out hb1)
  have K1 := Lib.hid (kept_block K0.out hb1)
  clear hI1 hb1
  go_wp2_with fail
  refine (curBadTape (w.heap.size + 1) a l cap 0 _ hl (by omega) I1.out).mono ?_
  rintro e w2 ⟨c0, c1, t, rfl, ho, ht, hI2, hg2⟩
  obtain ⟨xa, xn, xc, xz, rfl, rfl⟩ := ho.shape
  obtain ⟨cc, hcc, ho⟩ := ho
  simp at hcc
  obtain ⟨rfl, rfl⟩ := hcc
  have K2 := kept_grown K1.out hg2 (by simp)
  have s1 : w.heap.size + 1 ≤ w1.heap.size := cur_lt K1.out
  have k0 : w2.cell? ⟨w.heap.size, 0, none⟩ = some (.slice none 0 0) := cur_cell K2 0
  have k1 : w2.cell? ⟨w.heap.size, 1, none⟩ = some (.int .i64 0) := cur_cell K2 1
  have f0 := cur_free K2 0
  have f1 := cur_free K2 1
  have OO := Lib.hid ho
  have B2 := Lib.hid (below_write B1.out hg2 (by simp))
  clear hI2 hg2 K2 ho
  go_wp2
  have o2 := (OO.out.set (b := w.heap.size) (i := 0) (.inl (by omega)) (.slice xa xn xc)).set (b := w.heap.size) (i := 1) (.inl (by omega)) (.int .i64 t.z)
  exact bodyPost_ret (v := .agg #[.slice xa xn xc, .int .i64 t.z]) (by simp [results, Try.results10, go_sem, k0, k1]) rfl
    ⟨_, _, t, rfl, ⟨_, rfl, o2.wide (by omega) (by simp)⟩, ht, (B2.out.setCell (p := ⟨w.heap.size, 0, none⟩) (Nat.le_refl _) _).setCell (p := ⟨w.heap.size, 1, none⟩) (Nat.le_refl _) _⟩
theorem has_step {l : List Int} {k n i : Nat} (h : tapeB l k = true) (hn : k + n = l.length) (hi : i < n) : hasB l ((k : Int) + (i : Int)) = true ∧ leftI l ((k : Int) + (i : Int) + 1) = (n : Int) - (i : Int) - 1 := by
  obtain ⟨t1, t2, t3, t4⟩ := tape_of h
  have h1 : tapeB l ((k : Int) + (i : Int)) = true := by rw [tape_mid (by omega) (by omega) (by omega), t4]
  have h2 : tapeB l ((k : Int) + (i : Int) + 1) = true := by rw [tape_mid (by omega) (by omega) (by omega), t4]
  refine ⟨has_yes ?_, ?_⟩
  · rw [left_yes h1]; omega
  · rw [left_yes h2]; omega
theorem has_last {l : List Int} {k n : Nat} (h : tapeB l k = true) (hn : k + n = l.length) : hasB l ((k : Int) + (n : Int)) = false := by
  obtain ⟨t1, t2, t3, t4⟩ := tape_of h
  have h1 : tapeB l ((k : Int) + (n : Int)) = true := by rw [tape_mid (by omega) (by omega) (by omega), t4]
  refine has_no ?_
  rw [left_yes h1]; omega

set_option maxHeartbeats 4000000 in
theorem walk (a0 : Option Addr) (len0 cap0 : Nat) (z0 : List Int) (w : World) (w0 : IsRow .u8 w a0 len0 cap0 z0) :
    Calls Try.prog 3 #[.slice a0 len0 cap0] w fun e w' => e = .returned (.bool true) ∧ Below w.heap.size w w' := by
  obtain ⟨cd, hl, hcap, hmax, hr⟩ := row_of_isRow w0
  clear w0
  subst hl
  have R := Lib.hid hr
  clear hr
  by_cases h1 : 1048576 < cd.length
  · go_enter Try.func3, Try.ntmps3
    go_wp2_with fail
    refine (bigIs _ _ _ _ (by omega)).mono ?_
    rintro e w1 ⟨rfl, rfl⟩
    rw [decide_eq_true h1]
    go_wp2
    go_ret
    exact ⟨rfl, Below.refl _ _⟩
  go_enter Try.func3, Try.ntmps3
  go_wp2_with fail
  refine (bigIs _ _ _ _ (by omega)).mono ?_
  rintro e w1 ⟨rfl, rfl⟩
  rw [decide_eq_false h1]
  go_wp2_with fail
  refine (drawTape a0 cd cap0 _ (by omega) R.out).mono ?_
  rintro e w1 ⟨c0, c1, m, rfl, ho, hm, hb1⟩
  obtain ⟨xa, xn, xc, xz, rfl, rfl⟩ := ho.shape
  have A := Lib.hid ((ho.lies (Nat.le_refl _)).box (.cells #[.slice xa xn xc, .int .i64 xz] 26))
  have K := Lib.hid (lies_box w1 (.cells #[.slice xa xn xc, .int .i64 xz] 26))
  have B := Lib.hid (below_box hb1 (.cells #[.slice xa xn xc, .int .i64 xz] 26))
  have s1 : w.heap.size ≤ w1.heap.size := hb1.size
  clear ho hb1
  go_wp2_with fail
  refine (uSpecTapeLeft _ _ m _ A.out.now.read).mono ?_
  rintro e w2 ⟨rfl, hb2⟩
  replace A := Lib.hid (A.out.below hb2)
  replace K := Lib.hid (K.out.below hb2)
  replace B := Lib.hid (below_seq B.out hb2)
  clear hb2
  have cT0 : w2.cell? ⟨w1.heap.size, 0, none⟩ = some (.slice xa xn xc) := cur_cell K.out.now 0
  have cT1 : w2.cell? ⟨w1.heap.size, 1, none⟩ = some (.int .i64 xz) := cur_cell K.out.now 1
  by_cases h2 : tapeLeftI m < 0 ∨ 40 < tapeLeftI m
  · have L := Lib.hid (uImplTapeLeft (.slice xa xn xc) (.int .i64 xz) m w2 A.out.now.read)
    rcases h2 with h2 | h2
    · generalize tapeLeftI m = y at *
      go_wp2_with fail
      refine L.out.mono ?_
      rintro e w3 ⟨rfl, hb3⟩
      replace B := Lib.hid (below_seq B.out hb3)
      clear hb3
      go_wp2
      go_ret
      exact ⟨ret_bool (by simp), B.out⟩
    · have h3 : ¬ tapeLeftI m < 0 := by omega
      generalize tapeLeftI m = y at *
      go_wp2_with fail
      refine L.out.mono ?_
      rintro e w3 ⟨rfl, hb3⟩
      replace B := Lib.hid (below_seq B.out hb3)
      clear hb3
      go_wp2
      go_ret
      exact ⟨ret_bool (by simp), B.out⟩
  obtain ⟨l, z⟩ := m
  have h3 : 0 ≤ leftI l z ∧ leftI l z ≤ 40 := by
    have e : tapeLeftI ⟨l, z⟩ = leftI l z := rfl
    rw [e] at h2; omega
  have ht : tapeB l z = true := by
    cases hh : tapeB l z
    · rw [left_no hh] at h3; omega
    · rfl
  obtain ⟨t1, t2, t3, _⟩ := tape_of ht
  obtain ⟨k, rfl⟩ : ∃ k : Nat, z = k := ⟨z.toNat, by omega⟩
  obtain ⟨n, hn⟩ : ∃ n : Nat, k + n = l.length := ⟨l.length - k, by omega⟩
  have hleft : tapeLeftI ⟨l, (k : Int)⟩ = (n : Int) := by
    show leftI l k = n
    rw [left_yes ht]; omega
  have hn40 : n ≤ 40 := by
    have e : tapeLeftI ⟨l, (k : Int)⟩ = leftI l k := rfl
    rw [e] at hleft; omega
  obtain ⟨ya, yc, e1, e2, hyc, hym, _⟩ := tapeIn_shape A.out.now.read
  simp at e1 e2
  obtain ⟨rfl, rfl, rfl⟩ := e1
  subst e2
  rw [hleft]
  have hnx : nextB l (k : Int) (n : Int) = true := next_yes (by omega) (by
    have e : tapeLeftI ⟨l, (k : Int)⟩ = leftI l k := rfl
    rw [e] at hleft; omega)
  have NX := Lib.hid (uImplTapeNext (.slice xa l.length xc) (.int .i64 k) ⟨l, (k : Int)⟩ (n : Int) w2 A.out.now.read (by omega))
  have HT := Lib.hid ht
  have HN := Lib.hid hn
  have HX : Hid (nextM ⟨l, (k : Int)⟩ (n : Int) = l.drop k ∧ nextMB ⟨l, (k : Int)⟩ (n : Int) = true) := Lib.hid ⟨by
    show nextL l k n = _
    rw [nextL_yes hnx, Int.toNat_natCast, Int.toNat_natCast, List.take_of_length_le (by rw [List.length_drop]; omega)], hnx⟩
  have hkl : k ≤ l.length := by omega
  clear h2 h3 ht t2 t3 hn hleft hnx hm
  go_wp2_with fail
  clear cT0 cT1
  refine NX.out.mono ?_
  clear NX
  rintro e w3 ⟨c, he, ho3, hb3⟩
  rw [HX.out.2] at he
  rw [HX.out.1] at ho3
  subst he
  obtain ⟨wa, wc, rfl, _, _, _⟩ := intSIn_shape ho3.read
  have hwl : (l.drop k).length = n := by simp; have := HN.out; omega
  rw [hwl] at ho3 ⊢
  have WN := Lib.hid (ho3.lies (Nat.le_refl _))
  have s2 : w1.heap.size + 1 ≤ w2.heap.size := by have := cur_lt K.out.now; omega
  have s3 : w2.heap.size ≤ w3.heap.size := hb3.size
  replace A := Lib.hid (A.out.below hb3)
  replace K := Lib.hid (K.out.below hb3)
  replace B := Lib.hid (below_seq B.out hb3)
  clear ho3 hb3 hwl
  go_wp2
  go_loopw [7] (fun iv wr => ∃ (i : Nat) (a : Option Addr) (c lo hi : Nat), i ≤ n ∧ iv = .int .i64 i ∧ wr.heap[w1.heap.size]? = some (.cells #[.slice a l.length c, .int .i64 ((k : Int) + (i : Int))] 26 (0, 0)) ∧
      Lies wr lo hi (IntSOwn lo hi [.slice a l.length c] l) ∧ w.heap.size ≤ lo ∧ (w1.heap.size < lo ∨ hi ≤ w1.heap.size) ∧ Lies wr w2.heap.size w3.heap.size (IntSOwn w2.heap.size w3.heap.size [.slice wa n wc] (l.drop k)) ∧ Below w.heap.size w wr)
    (fun iv _ => n - (intOf iv).toNat)
  case atStart =>
    obtain ⟨cc, hcc, ho⟩ := A.out.now
    simp at hcc
    obtain ⟨rfl, _⟩ := hcc
    exact ⟨0, xa, xc, w.heap.size, w1.heap.size, Nat.zero_le _, rfl, by simpa using K.out.now, ho.lies A.out.top, Nat.le_refl _, .inr (Nat.le_refl _), WN.out, B.out⟩
  case round =>
    clear A K B WN
    obtain ⟨i, a, c, lo, hi, hi1, rfl, hK, hA, hlo, hap, hW, hB⟩ := hrel
    have cT0 : wr.cell? ⟨w1.heap.size, 0, none⟩ = some (.slice a l.length c) := cur_cell hK 0
    have cT1 : wr.cell? ⟨w1.heap.size, 1, none⟩ = some (.int .i64 ((k : Int) + (i : Int))) := cur_cell hK 1
    have KK := Lib.hid (lies_block hK)
    have AA := Lib.hid hA
    have WW := Lib.hid hW
    have BB := Lib.hid hB
    have sr : w1.heap.size < wr.heap.size := cur_lt hK
    have sw : w3.heap.size ≤ wr.heap.size := hW.top
    clear hK hA hW hB
    have IN : Hid (TapeIn [.slice a l.length c, .int .i64 ((k : Int) + (i : Int))] ⟨l, (k : Int) + (i : Int)⟩ wr) := Lib.hid ⟨_, rfl, AA.out.now.read⟩
    have TK := Lib.hid (uImplTapeTake _ _ _ _ IN.out)
    by_cases hlt : i < n
    · obtain ⟨hs1, hs2⟩ := has_step HT.out HN.out hlt
      have TS := Lib.hid (take_some (m := ⟨l, (k : Int) + (i : Int)⟩) hs1)
      have HL := Lib.hid hs2
      clear hs1 hs2
      have hg : l.getD ((k : Int) + (i : Int)).toNat 0 = l[k + i]'(by have := HN.out; omega) := by
        rw [show ((k : Int) + (i : Int)).toNat = k + i from by omega]
        simp [show k + i < l.length from by have := HN.out; omega]
      obtain ⟨wb, wo, rfl, q1⟩ : ∃ wb wo, wa = some ⟨wb, wo, none⟩ ∧ wr.cell? ⟨wb, wo + i, none⟩ = some (.int .i64 (l[k + i]'(by have := HN.out; omega))) := by
        obtain ⟨wa', wc', e1, _, _, hr⟩ := intSIn_shape WW.out.now.read
        simp at e1
        obtain ⟨rfl, _, rfl⟩ := e1
        obtain ⟨wb, wo, e2, e3⟩ := hr.at (i := i) (by simp; have := HN.out; omega)
        refine ⟨wb, wo, e2, ?_⟩
        rw [e3]
        simp [ival, show k + i < l.length from by have := HN.out; omega]
      have hwlt : wb < wr.heap.size := block_lt_of_cell q1
      generalize l[k + i]'(by have := HN.out; omega) = x at *
      have HG := Lib.hid hg
      clear hg
      go_wp2_with fail
      refine TK.out.mono ?_
      clear TK IN cT0 cT1
      rintro e w4 ⟨c0, c1, he, ho, hb4⟩
      rw [TS.out.1] at ho
      rw [TS.out.2.1, TS.out.2.2] at he
      rw [HG.out] at he
      subst he
      obtain ⟨na, nn, nc, nz, rfl, rfl⟩ := ho.shape
      obtain ⟨na', nc', e1, e2, _, _, _⟩ := tapeIn_shape ho.read
      simp at e1 e2
      obtain ⟨rfl, rfl, rfl⟩ := e1
      subst e2
      have s4 : wr.heap.size ≤ w4.heap.size := hb4.size
      replace KK := Lib.hid (KK.out.below hb4)
      replace WW := Lib.hid (WW.out.below hb4)
      replace BB := Lib.hid (below_seq BB.out hb4)
      have NN := Lib.hid (ho.lies (Nat.le_refl _))
      have q4 : w4.cell? ⟨wb, wo + i, none⟩ = some (.int .i64 x) := (hb4.cell hwlt).trans q1
      clear hb4 ho q1
      have NB := Lib.hid (lies_box w4 (.cells #[.slice na l.length nc, .int .i64 ((k : Int) + (i : Int) + 1)] 26))
      replace KK := Lib.hid (KK.out.box (.cells #[.slice na l.length nc, .int .i64 ((k : Int) + (i : Int) + 1)] 26))
      replace WW := Lib.hid (WW.out.box (.cells #[.slice na l.length nc, .int .i64 ((k : Int) + (i : Int) + 1)] 26))
      replace BB := Lib.hid (below_box BB.out (.cells #[.slice na l.length nc, .int .i64 ((k : Int) + (i : Int) + 1)] 26))
      replace NN := Lib.hid (NN.out.box (.cells #[.slice na l.length nc, .int .i64 ((k : Int) + (i : Int) + 1)] 26))
      have LF := Lib.hid (uImplTapeLeft _ _ _ _ NN.out.now.read)
      have hwlt4 : wb < w4.heap.size := by omega
      go_wp2_with fail
      refine LF.out.mono ?_
      clear LF q4
      rintro e w5 ⟨he, hb5⟩
      rw [show tapeLeftI ⟨l, (k : Int) + (i : Int) + 1⟩ = (n : Int) - (i : Int) - 1 from HL.out] at he
      subst he
      replace KK := Lib.hid (KK.out.below hb5)
      replace WW := Lib.hid (WW.out.below hb5)
      replace BB := Lib.hid (below_seq BB.out hb5)
      replace NN := Lib.hid (NN.out.below hb5)
      replace NB := Lib.hid (NB.out.below hb5)
      have s5 : w4.heap.size + 1 ≤ w5.heap.size := by have := hb5.size; simpa only [size_box] using this
      clear hb5
      have n0 : w5.cell? ⟨w4.heap.size, 0, none⟩ = some (.slice na l.length nc) := cur_cell NB.out.now 0
      have n1 : w5.cell? ⟨w4.heap.size, 1, none⟩ = some (.int .i64 ((k : Int) + (i : Int) + 1)) := cur_cell NB.out.now 1
      have c0 : w5.cell? ⟨w1.heap.size, 0, none⟩ = some (.slice a l.length c) := cur_cell KK.out.now 0
      have c1 : w5.cell? ⟨w1.heap.size, 1, none⟩ = some (.int .i64 ((k : Int) + (i : Int))) := cur_cell KK.out.now 1
      have f0 := cur_free KK.out.now 0
      have f1 := cur_free KK.out.now 1
      have kN := cur_set (cur_set KK.out.now 0 (.slice na l.length nc)) 1 (.int .i64 ((k : Int) + (i : Int) + 1))
      have chg : Chg w1.heap.size (w1.heap.size + 1) w5 ((w5.setCell ⟨w1.heap.size, 0, none⟩ (.slice na l.length nc)).setCell ⟨w1.heap.size, 1, none⟩ (.int .i64 ((k : Int) + (i : Int) + 1))) :=
        Chg.of_grown (grown_trans (set_grown w5 w1.heap.size 0 _) (set_grown _ w1.heap.size 1 _)) (fun g hg => by simp at hg; omega)
      obtain ⟨nc0, hnc, nho⟩ := NN.out.now
      simp at hnc
      subst hnc
      have NF := Lib.hid ((nho.lies (by have := NN.out.top; omega)).chg chg (.inr (by omega)))
      have WF := Lib.hid (WW.out.chg chg (.inr (by omega)))
      have BF := Lib.hid (chg.below BB.out (by omega))
      have KF := Lib.hid kN
      clear kN chg nho KK WW NN NB BB
      go_wp2
      go_roundw
      case rel => exact ⟨i + 1, na, nc, _, _, by omega, by go_num, by have := KF.out; simpa [Int.add_assoc] using this, NF.out, by have := BF.out.size; omega, .inl (by omega), WF.out, BF.out⟩
      case measure => simp [intOf]; omega
    · obtain rfl : i = n := by omega
      have TS := Lib.hid (take_none (m := ⟨l, (k : Int) + (i : Int)⟩) (has_last HT.out HN.out))
      go_wp2_with fail
      refine TK.out.mono ?_
      clear TK IN cT0 cT1
      rintro e w4 ⟨c0, c1, he, ho, hb4⟩
      rw [TS.out.1] at ho
      rw [TS.out.2.1, TS.out.2.2] at he
      subst he
      obtain ⟨na, nn, nc, nz, rfl, rfl⟩ := ho.shape
      have s4 : wr.heap.size ≤ w4.heap.size := hb4.size
      replace KK := Lib.hid (KK.out.below hb4)
      replace BB := Lib.hid (below_seq BB.out hb4)
      clear ho hb4
      replace KK := Lib.hid (KK.out.box (.cells #[.slice na nn nc, .int .i64 nz] 26))
      replace BB := Lib.hid (below_box BB.out (.cells #[.slice na nn nc, .int .i64 nz] 26))
      have c0 : (w4.alloc (.cells #[.slice na nn nc, .int .i64 nz] 26)).cell? ⟨w1.heap.size, 0, none⟩ = some (.slice a l.length c) := cur_cell KK.out.now 0
      have c1 : (w4.alloc (.cells #[.slice na nn nc, .int .i64 nz] 26)).cell? ⟨w1.heap.size, 1, none⟩ = some (.int .i64 ((k : Int) + (i : Int))) := cur_cell KK.out.now 1
      have hB : (((k : Int) + (i : Int)) == (l.length : Int)) = true := by have := HN.out; simp; omega
      go_wp2
      go_ret
      exact ⟨rfl, BB.out⟩

set_option maxRecDepth 100000 in
theorem lifted (os : Os) (started : os.Started) (H : Type) (enc : TypeId × Value → H) :
    ReturnsInHanded {} Try.checked os 3 .any (Rows.fnTapeWalkSpec.pre6 enc Try.prog Try.f3 Rows.fnTapeWalkRow.domain false) (Rows.fnTapeWalkSpec.post enc Try.prog Try.f3 false true false false) := by
  refine returnsInHanded_of_change (C := Try.checked) own started (by kernel_rfl) Try.func3
    (ChangeSpec.witness6 (enc := enc) (C := Try.checked) false ⟨#[], #[.slice none 0 0], []⟩ 8 (by kernel_rfl) (by kernel_rfl) (by kernel_rfl) (by kernel_rfl)) ?_
  intro W base args ds gs before hval0 hW hcnd _
  have hval : ∀ (j : Nat) t v, Try.f3.params[j]? = some t → args[j]? = some v → Value.okWide Try.prog W .any base t v := hval0
  have hW' := hW
  obtain ⟨p, q, hA0, hV, rfl, hfz, hnd⟩ := hW
  have hA : DataW.TrodAll enc Try.prog W 0 (fun _ => true) true Try.f3.params.toList args.toList ds p := hA0
  rw [Try.params3] at hA hval
  obtain ⟨v0, vs0, d0, ds0, p0, q0, hargs, rfl, rfl, h0, r0⟩ := trodAll_cons hA
  obtain ⟨rfl, rfl, rfl⟩ := trodAll_nil r0
  obtain rfl : args = #[v0] := by cases args; simp_all
  obtain ⟨rfl, rfl⟩ := trodVars_none hV
  obtain ⟨a0, len0, cap0, rfl⟩ := okWide_slice Try.underlying22 (hval 0 22 v0 rfl rfl)
  have k0 := h0
  have lt0 : ∀ x ∈ p0, x.block < W.heap.size := by obtain ⟨m, hm⟩ := k0; exact DataW.trod_lt m _ _ _ hm
  obtain ⟨z0, w0⟩ : ∃ zs, IsRow .u8 W a0 len0 cap0 zs := by
    obtain ⟨fuel, hf⟩ := h0
    rcases open_ints Try.underlying22 Try.underlying5 (by kernel_rfl) hf with ⟨hcs, _⟩ | ⟨x, l, c, zs, hcs, _, hl, hm, hz, _, hcell, hwz⟩
    · simp [Value.cells] at hcs
      obtain ⟨rfl, rfl, rfl⟩ := hcs
      exact ⟨[], .inl ⟨rfl, rfl, rfl, rfl⟩⟩
    · simp [Value.cells] at hcs
      obtain ⟨rfl, rfl, rfl⟩ := hcs
      exact ⟨zs, .inr ⟨_, rfl, hl, hm, by simpa using hz, hcell, hwz⟩⟩
  clear hA0 hval0
  refine (walk a0 len0 cap0 z0 W w0).mono fun e W' ⟨he, bel⟩ => ?_
  subst he
  exact ⟨_, rfl, _, _, _, [], _, [], hW', trodAll_mk1 (shut_bool Try.underlying4 _), (trodAll_cons_mk (Below.trod laidOut (by kernel_rfl) (of_decide_eq_true (by kernel_rfl)) k0 bel lt0) trodAll_mk0), rfl, bel.frame _, fun h => by cases h⟩

theorem over : Rows.fnTapeWalkRow.holds Try.pinned (OpenSpec.ofChange Rows.fnTapeWalkSpec) :=
  OpenClaim.holds_of_wide 3 Try.f3 rfl rfl rfl rfl rfl rfl rfl ⟨rfl, rfl, rfl, rfl, rfl⟩ rfl rfl rfl rfl rfl (by kernel_rfl) Try.func3 (by kernel_rfl)
    (of_decide_eq_true (by kernel_rfl)) (by unfold Func.isWrapper; first | (rw [if_pos (by decide +kernel)]; kernel_rfl) | (rw [if_neg (by decide +kernel)]; exact ⟨rfl, rfl⟩))
    (fun os started H enc _ => lifted os started H enc)
end Go.Proofs.Ytkecejimakclgaa.fnTapeWalk
namespace Go.Proofs.Ytkecejimakclgaa
/-- The draws taken one by one are the next draws, for every code. -/
theorem fnTapeWalk_holds : Rows.FnTapeWalkSaid := fnTapeWalk.over
end Go.Proofs.Ytkecejimakclgaa
