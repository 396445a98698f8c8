/- For every code: the law FnBytesSwap answers true, that is, two drawn rows of bytes of one length are swapped by a mask of all ones, and swapped back by any mask; rows of two lengths give no bytes. No condition. -/
import Derived.Test.YtigigmffigjpeaaBase
import Derived.Test.YtigigmffigjpeaaBytesS
import Derived.Test.YtigigmffigjpeaaBytesOf
import Derived.Test.YtigigmffigjpeaaDrawB
namespace Go.Proofs.Ytigigmffigjpeaa.fnBytesSwap
open Go.ChangeShapes Go.WideShapes Go.ChangeAt Go.RowKit
set_option linter.unusedVariables false

theorem zip_back (m : Nat) : ∀ (l1 l2 : List UInt8), l1.length = l2.length → selZ m (selZ m l1 l2) (selZ m l2 l1) = l1
  | [], [], _ => rfl
  | a :: l1, b :: l2, h => by
    have ih := zip_back m l1 l2 (by simpa using h)
    unfold selZ at ih ⊢
    rw [List.zipWith_cons_cons, List.zipWith_cons_cons, List.zipWith_cons_cons, ih]
    congr 1
    apply UInt8.toNat_inj.1
    rw [selU_nat, selU_nat, selU_nat, selN_back1]
theorem zip_all : ∀ (l1 l2 : List UInt8), l1.length = l2.length → selZ 18446744073709551615 l1 l2 = l1
  | [], [], _ => rfl
  | a :: l1, b :: l2, h => by
    have ih := zip_all l1 l2 (by simpa using h)
    unfold selZ at ih ⊢
    rw [List.zipWith_cons_cons, ih]
    congr 1
    apply UInt8.toNat_inj.1
    rw [selU_nat, selN_all8 a.toNat_lt b.toNat_lt]
theorem sel_back (m : Nat) {l1 l2 : List UInt8} (h : l1.length = l2.length) (h2 : l1.length ≤ 4096) : selB m (selB m l1 l2) (selB m l2 l1) = l1 := by
  rw [selB_yes h h2, selB_yes h.symm (by omega), selB_yes (by rw [selZ_len h, selZ_len h.symm]; omega) (by rw [selZ_len h]; omega), zip_back m l1 l2 h]
theorem sel_all {l1 l2 : List UInt8} (h : l1.length = l2.length) (h2 : l1.length ≤ 4096) : selB 18446744073709551615 l1 l2 = l1 := by
  rw [selB_yes h h2, zip_all l1 l2 h]
theorem low_64 : lowN 64 = 18446744073709551615 := by decide +kernel
theorem eq_self (l : List UInt8) : eqB l l = 18446744073709551615 := by unfold eqB; rw [beq_self_eq_true]; rfl

set_option maxHeartbeats 4000000 in
theorem walkYes (a : Option Addr) (l : List UInt8) (cap : Nat) (w : World) (hl : l.length ≤ 1048576) (hm : l.length ≤ maxLen) (R : Hid (Row w a (l.map bval))) :
    Calls Try.prog 4 #[.slice a l.length cap] w fun e w' => e = .returned (.bool true) ∧ Below w.heap.size w w' := by
  have h1 : ¬ 1048576 < l.length := by omega
  go_enter Try.func4, Try.ntmps4
  go_wp2_with fail
  refine (bigIs _ _ _ _ hm).mono ?_
  rintro e w1 ⟨rfl, rfl⟩
  rw [decide_eq_false h1]
  clear h1
  go_wp2_with fail
  refine (drawSwap a l cap _ hl R.out).mono ?_
  rintro e w1 ⟨m, c, d, l1, l2, rfl, hmm, i1, i2, h1, h2, hb⟩
  have A := Lib.hid i1.lies
  have D := Lib.hid i2.lies
  obtain ⟨ca, ck, rfl, _⟩ := byteSIn_shape i1
  obtain ⟨da, dk, rfl, _⟩ := byteSIn_shape i2
  have B := Lib.hid hb
  clear i1 i2 hb R
  by_cases hne : l1.length = l2.length
  · have hlB : ((l1.length : Int) != (l2.length : Int)) = false := by simp [hne]
    have h4 : decide (4096 < (l1.length : Int)) = false := by simp; omega
    have HN := Lib.hid hne
    have X1 := Lib.hid (sel_back m hne (by omega))
    have X2 := Lib.hid (sel_back m hne.symm (by omega))
    have X3 := Lib.hid (sel_all hne (by omega))
    have X4 := Lib.hid (sel_all hne.symm (by omega))
    clear hne
    go_wp2_with fail
    refine (uBytesOf _ l1 _ (by omega) A.out.now).mono ?_
    rintro e w2 ⟨v2, rfl, ho, hb⟩
    replace A := Lib.hid (A.out.below hb)
    replace D := Lib.hid (D.out.below hb)
    replace B := Lib.hid (below_seq B.out hb)
    have Y := Lib.hid ho.read.lies
    clear ho hb
    go_wp2_with fail
    refine (uBytesOf _ l2 _ (by omega) D.out.now).mono ?_
    rintro e w3 ⟨v3, rfl, ho, hb⟩
    replace A := Lib.hid (A.out.below hb)
    replace D := Lib.hid (D.out.below hb)
    replace B := Lib.hid (below_seq B.out hb)
    replace Y := Lib.hid (Y.out.below hb)
    have Z := Lib.hid ho.read.lies
    clear ho hb
    go_wp2_with fail
    refine (uImplBytesSwap m _ l1 _ l2 _ Y.out.now Z.out.now hmm).mono ?_
    rintro e w4 ⟨x, y, mid, rfl, ho1, ho2, _, _, hb⟩
    replace A := Lib.hid (A.out.below hb)
    replace D := Lib.hid (D.out.below hb)
    replace B := Lib.hid (below_seq B.out hb)
    have PX := Lib.hid ho1.read.lies
    have PY := Lib.hid ho2.read.lies
    obtain ⟨_, _, _, rfl⟩ := ho1.shape
    obtain ⟨_, _, _, rfl⟩ := ho2.shape
    clear ho1 ho2 hb Y Z
    have b1 := selB_le m l2 l1
    have b2 := selB_le m l1 l2
    go_wp2_with fail
    refine (uBytesOf _ _ _ (by omega) PX.out.now).mono ?_
    rintro e w5 ⟨v5, rfl, ho, hb⟩
    replace A := Lib.hid (A.out.below hb)
    replace D := Lib.hid (D.out.below hb)
    replace B := Lib.hid (below_seq B.out hb)
    replace PY := Lib.hid (PY.out.below hb)
    have Y := Lib.hid ho.read.lies
    clear ho hb PX
    go_wp2_with fail
    refine (uBytesOf _ _ _ (by omega) PY.out.now).mono ?_
    rintro e w6 ⟨v6, rfl, ho, hb⟩
    replace A := Lib.hid (A.out.below hb)
    replace D := Lib.hid (D.out.below hb)
    replace B := Lib.hid (below_seq B.out hb)
    replace Y := Lib.hid (Y.out.below hb)
    have Z := Lib.hid ho.read.lies
    clear ho hb PY
    go_wp2_with fail
    refine (uImplBytesSwap m _ _ _ _ _ Y.out.now Z.out.now hmm).mono ?_
    rintro e w7 ⟨x, y, mid, rfl, ho1, ho2, _, _, hb⟩
    rw [X1.out] at ho1
    rw [X2.out] at ho2
    replace A := Lib.hid (A.out.below hb)
    replace D := Lib.hid (D.out.below hb)
    replace B := Lib.hid (below_seq B.out hb)
    have PX := Lib.hid ho1.read.lies
    have PY := Lib.hid ho2.read.lies
    obtain ⟨pa, pk, rfl, _⟩ := byteSIn_shape ho1.read
    obtain ⟨qa, qk, rfl, _⟩ := byteSIn_shape ho2.read
    clear ho1 ho2 hb Y Z b1 b2
    go_wp2_with fail
    refine (implMaskLow 64 _ (by omega)).mono ?_
    rintro e w8 ⟨rfl, rfl⟩
    rw [low_64]
    go_wp2_with fail
    refine (uBytesOf _ l1 _ (by omega) A.out.now).mono ?_
    rintro e w8 ⟨v8, rfl, ho, hb⟩
    replace A := Lib.hid (A.out.below hb)
    replace D := Lib.hid (D.out.below hb)
    replace B := Lib.hid (below_seq B.out hb)
    replace PX := Lib.hid (PX.out.below hb)
    replace PY := Lib.hid (PY.out.below hb)
    have Y := Lib.hid ho.read.lies
    clear ho hb
    go_wp2_with fail
    refine (uBytesOf _ l2 _ (by omega) D.out.now).mono ?_
    rintro e w9 ⟨v9, rfl, ho, hb⟩
    replace A := Lib.hid (A.out.below hb)
    replace D := Lib.hid (D.out.below hb)
    replace B := Lib.hid (below_seq B.out hb)
    replace PX := Lib.hid (PX.out.below hb)
    replace PY := Lib.hid (PY.out.below hb)
    replace Y := Lib.hid (Y.out.below hb)
    have Z := Lib.hid ho.read.lies
    clear ho hb
    go_wp2_with fail
    refine (uImplBytesSwap 18446744073709551615 _ l1 _ l2 _ Y.out.now Z.out.now (by omega)).mono ?_
    rintro e w10 ⟨x, y, mid, rfl, ho1, ho2, _, _, hb⟩
    rw [X4.out] at ho1
    rw [X3.out] at ho2
    replace A := Lib.hid (A.out.below hb)
    replace D := Lib.hid (D.out.below hb)
    replace B := Lib.hid (below_seq B.out hb)
    replace PX := Lib.hid (PX.out.below hb)
    replace PY := Lib.hid (PY.out.below hb)
    obtain ⟨sa, sk, rfl, _, _, r3⟩ := byteSIn_shape ho1.read
    obtain ⟨ta, tk, rfl, _, _, r4⟩ := byteSIn_shape ho2.read
    have cv3 := conv_in (cap := sk) r3
    have cv4 := conv_in (cap := tk) r4
    have cv1 : (convert 22 9 (.slice pa l1.length pk)).run Try.prog w10 = .ok (.string (strL l1)) w10 := by
      obtain ⟨a', k', he, _, _, r⟩ := byteSIn_shape PX.out.now
      simp at he
      obtain ⟨rfl, rfl⟩ := he
      exact conv_in r
    have cv2 : (convert 22 9 (.slice qa l2.length qk)).run Try.prog w10 = .ok (.string (strL l2)) w10 := by
      obtain ⟨a', k', he, _, _, r⟩ := byteSIn_shape PY.out.now
      simp at he
      obtain ⟨rfl, rfl⟩ := he
      exact conv_in r
    have cv5 : (convert 22 9 (.slice ca l1.length ck)).run Try.prog w10 = .ok (.string (strL l1)) w10 := by
      obtain ⟨a', k', he, _, _, r⟩ := byteSIn_shape A.out.now
      simp at he
      obtain ⟨rfl, rfl⟩ := he
      exact conv_in r
    have cv6 : (convert 22 9 (.slice da l2.length dk)).run Try.prog w10 = .ok (.string (strL l2)) w10 := by
      obtain ⟨a', k', he, _, _, r⟩ := byteSIn_shape D.out.now
      simp at he
      obtain ⟨rfl, rfl⟩ := he
      exact conv_in r
    clear ho1 ho2 hb Y Z r3 r4
    go_wp2_with fail
    refine (uImplBytesEq _ l1 _ l1 _ PX.out.now A.out.now).mono ?_
    rintro e w11 ⟨rfl, hb⟩
    replace B := Lib.hid (below_seq B.out hb)
    rw [eq_self]
    clear hb cv1 cv2 cv3 cv4 cv5 cv6
    go_wp2_with fail
    refine (implMaskLow 64 _ (by omega)).mono ?_
    rintro e w12 ⟨rfl, rfl⟩
    rw [low_64]
    go_wp2
    go_ret
    exact ⟨rfl, B.out⟩
  · have hlB : ((l1.length : Int) != (l2.length : Int)) = true := by simp; omega
    have N1 := Lib.hid (selB_no (m := m) (l1 := l2) (l2 := l1) (by omega))
    have N2 := Lib.hid (selB_no (m := m) (l1 := l1) (l2 := l2) (by omega))
    clear hne
    go_wp2_with fail
    refine (uImplBytesSwap m _ l1 _ l2 _ A.out.now D.out.now hmm).mono ?_
    rintro e w4 ⟨x, y, mid, rfl, ho1, ho2, _, _, hb⟩
    rw [N1.out] at ho1
    rw [N2.out] at ho2
    obtain ⟨xa, xk, rfl, _⟩ := byteSIn_shape ho1.read
    obtain ⟨ya, yk, rfl, _⟩ := byteSIn_shape ho2.read
    replace B := Lib.hid (below_seq B.out hb)
    clear ho1 ho2 hb
    go_wp2
    go_ret
    exact ⟨rfl, B.out⟩

set_option maxHeartbeats 400000 in
theorem walk (a0 : Option Addr) (len0 cap0 : Nat) (z0 : List Int) (w : World) (w0 : IsRow .u8 w a0 len0 cap0 z0) :
    Calls Try.prog 4 #[.slice a0 len0 cap0] w fun e w' => e = .returned (.bool true) ∧ Below w.heap.size w w' := by
  obtain ⟨l, rfl, h1, h2, r⟩ := row_of_isRow w0
  have hm : l.length ≤ maxLen := by omega
  clear w0
  by_cases hl : l.length ≤ 1048576
  · exact walkYes a0 l cap0 w hl hm (Lib.hid r)
  · have h1 : 1048576 < l.length := by omega
    go_enter Try.func4, Try.ntmps4
    go_wp2_with fail
    refine (bigIs _ _ _ _ hm).mono ?_
    rintro e w1 ⟨rfl, rfl⟩
    rw [decide_eq_true h1]
    go_wp2
    go_ret
    exact ⟨rfl, Below.refl _ _⟩

set_option maxRecDepth 100000 in
theorem lifted (os : Os) (started : os.Started) (H : Type) (enc : TypeId × Value → H) :
    ReturnsInHanded {} Try.checked os 4 .any (Rows.fnBytesSwapSpec.pre6 enc Try.prog Try.f4 Rows.fnBytesSwapRow.domain false) (Rows.fnBytesSwapSpec.post enc Try.prog Try.f4 false true false false) := by
  refine returnsInHanded_of_change (C := Try.checked) own started (by kernel_rfl) Try.func4
    (ChangeSpec.witness6 (enc := enc) (C := Try.checked) false ⟨#[], #[.slice none 0 0], []⟩ 8 (by kernel_rfl) (by kernel_rfl) (by kernel_rfl) (by kernel_rfl)) ?_
  intro W base args ds gs before hval0 hW hcnd _
  have hval : ∀ (j : Nat) t v, Try.f4.params[j]? = some t → args[j]? = some v → Value.okWide Try.prog W .any base t v := hval0
  have hW' := hW
  obtain ⟨p, q, hA0, hV, rfl, hfz, hnd⟩ := hW
  have hA : DataW.TrodAll enc Try.prog W 0 (fun _ => true) true Try.f4.params.toList args.toList ds p := hA0
  rw [Try.params4] at hA hval
  obtain ⟨v0, vs0, d0, ds0, p0, q0, hargs, rfl, rfl, h0, r0⟩ := trodAll_cons hA
  obtain ⟨rfl, rfl, rfl⟩ := trodAll_nil r0
  obtain rfl : args = #[v0] := by cases args; simp_all
  obtain ⟨rfl, rfl⟩ := trodVars_none hV
  obtain ⟨a0, len0, cap0, rfl⟩ := okWide_slice Try.underlying22 (hval 0 22 v0 rfl rfl)
  have k0 := h0
  have lt0 : ∀ x ∈ p0, x.block < W.heap.size := by obtain ⟨m, hm⟩ := k0; exact DataW.trod_lt m _ _ _ hm
  obtain ⟨z0, w0⟩ : ∃ zs, IsRow .u8 W a0 len0 cap0 zs := by
    obtain ⟨fuel, hf⟩ := h0
    rcases open_ints Try.underlying22 Try.underlying5 (by kernel_rfl) hf with ⟨hcs, _⟩ | ⟨x, l, c, zs, hcs, _, hl, hm, hz, _, hcell, hwz⟩
    · simp [Value.cells] at hcs
      obtain ⟨rfl, rfl, rfl⟩ := hcs
      exact ⟨[], .inl ⟨rfl, rfl, rfl, rfl⟩⟩
    · simp [Value.cells] at hcs
      obtain ⟨rfl, rfl, rfl⟩ := hcs
      exact ⟨zs, .inr ⟨_, rfl, hl, hm, by simpa using hz, hcell, hwz⟩⟩
  clear hA0 hval0
  refine (walk a0 len0 cap0 z0 W w0).mono fun e W' ⟨he, bel⟩ => ?_
  subst he
  exact ⟨_, rfl, _, _, _, [], _, [], hW', trodAll_mk1 (shut_bool Try.underlying4 _), (trodAll_cons_mk (Below.trod laidOut (by kernel_rfl) (of_decide_eq_true (by kernel_rfl)) k0 bel lt0) trodAll_mk0), rfl, bel.frame _, fun h => by cases h⟩

theorem over : Rows.fnBytesSwapRow.holds Try.pinned (OpenSpec.ofChange Rows.fnBytesSwapSpec) :=
  OpenClaim.holds_of_wide 4 Try.f4 rfl rfl rfl rfl rfl rfl rfl ⟨rfl, rfl, rfl, rfl, rfl⟩ rfl rfl rfl rfl rfl (by kernel_rfl) Try.func4 (by kernel_rfl)
    (of_decide_eq_true (by kernel_rfl)) (by unfold Func.isWrapper; first | (rw [if_pos (by decide +kernel)]; kernel_rfl) | (rw [if_neg (by decide +kernel)]; exact ⟨rfl, rfl⟩))
    (fun os started H enc _ => lifted os started H enc)
end Go.Proofs.Ytigigmffigjpeaa.fnBytesSwap
namespace Go.Proofs.Ytigigmffigjpeaa
/-- Rows of bytes of one length are swapped by masks, and swapped back. -/
theorem fnBytesSwap_holds : Rows.FnBytesSwapSaid := fnBytesSwap.over
end Go.Proofs.Ytigigmffigjpeaa
