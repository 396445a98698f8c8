/- For every text and number of slots: the law FnExactTokens answers true, that is, Tokens answers as its model and its answer owns its memory. No condition. -/
import Derived.Test.YtmdgigaplfbcpaaBase
import Derived.Test.YtmdgigaplfbcpaaTokens
import Derived.Test.YtmdgigaplfbcpaaStrs
namespace Go.Proofs.Ytmdgigaplfbcpaa.fnExactTokens
open Go.ChangeShapes Go.WideShapes Go.ChangeAt Go.RowKit
open Go.ChangeMaps (open_string shut_string)
set_option linter.unusedVariables false

set_option maxHeartbeats 1000000 in
theorem walkNo (s : ByteArray) (z : Int) (w : World) (h1 : s.size ≤ 1048576)
    (CS : ∀ w, Calls Try.prog 18 #[.string s, .int .i64 z] w fun e w' => e = .returned (.tuple #[.slice none 0 0, .bool false]) ∧ Below w.heap.size w w')
    (CI : ∀ w, Calls Try.prog 19 #[.string s, .int .i64 z] w fun e w' => e = .returned (.tuple #[.slice none 0 0, .bool false]) ∧ Below w.heap.size w w') :
    Calls Try.prog 10 #[.string s, .int .i64 z] w fun e w' => e = .returned (.bool true) ∧ Below w.heap.size w w' := by
  have CS := Lib.hid CS
  have CI := Lib.hid CI
  go_enter Try.func10, Try.ntmps10
  go_wp2_with fail
  refine (CS.out _).mono ?_
  rintro e w1 ⟨rfl, hb1⟩
  go_wp2_with fail
  refine (CI.out _).mono ?_
  rintro e w2 ⟨rfl, hb2⟩
  have B2 := Lib.hid (below_seq hb1 hb2)
  clear hb1 hb2
  go_wp2_with fail
  refine (lawsEqStringS none none 0 0 [] [] _ (by decide) (by decide) (.inl rfl) (.inl rfl)).mono ?_
  rintro e w3 ⟨rfl, n3, rfl⟩
  go_wp2_with fail
  refine (lawsMarkStringSNil 1 _).mono ?_
  rintro e w4 ⟨rfl, rfl⟩
  go_wp2_with fail
  refine (lawsHeldStringS none 0 0 1 _ (by decide) (.inl rfl)).mono ?_
  rintro e w5 ⟨rfl, hb5⟩
  have B5 := Lib.hid (below_seq (below_seq B2.out (belowN n3)) hb5)
  clear hb5
  go_wp2_with fail
  refine (CI.out _).mono ?_
  rintro e w6 ⟨rfl, hb6⟩
  have B6 := Lib.hid (below_seq B5.out hb6)
  clear hb6
  go_wp2_with fail
  refine (lawsEqStringS none none 0 0 [] [] _ (by decide) (by decide) (.inl rfl) (.inl rfl)).mono ?_
  rintro e w7 ⟨rfl, n7, rfl⟩
  go_wp2_with fail
  refine (lawsHeldStringS none 0 0 1 _ (by decide) (.inl rfl)).mono ?_
  rintro e w8 ⟨rfl, hb8⟩
  go_wp2
  go_ret
  exact ⟨rfl, below_seq (below_seq B6.out (belowN n7)) hb8⟩

set_option maxHeartbeats 1000000 in
theorem walkYes (s : ByteArray) (slots : Nat) (w : World) (hs : s.size ≤ 2000) (hs1 : 1 ≤ slots) (hs2 : slots ≤ 16) (hfit : (toks s.data.toList s.size).length ≤ slots) :
    Calls Try.prog 10 #[.string s, .int .i64 slots] w fun e w' => e = .returned (.bool true) ∧ Below w.heap.size w w' := by
  obtain ⟨l, hl⟩ : ∃ l, l = tokStrs s.data.toList s.size slots := ⟨_, rfl⟩
  have hlen : l.length = slots := by rw [hl]; exact tokStrs_length _ _ _ hfit
  have HL := Lib.hid hl
  have HN := Lib.hid hlen
  clear hl hlen
  have yes : ∀ w e w', TokPost s.data.toList s.size slots w e w' → Below w.heap.size w w' ∧ ∃ g cap, w.heap.size ≤ g ∧ e = .returned (.tuple #[.slice (some ⟨g, 0, none⟩) slots cap, .bool true]) ∧ w'.ownsRow w.heap.size 9 1 (.slice (some ⟨g, 0, none⟩) slots cap) slots (l.map sval) := by
    rintro w e w' ⟨hb, h | h⟩
    · obtain ⟨_, g, cap, hg, he, ho⟩ := h
      rw [tokStrs_row, ← HL.out] at ho
      exact ⟨hb, g, cap, hg, he, ho⟩
    · omega
  have Y := Lib.hid yes
  clear yes
  go_enter Try.func10, Try.ntmps10
  go_wp2_with fail
  refine (specTokensIn s slots _ hs hs1 hs2).mono ?_
  intro e w1 hp
  obtain ⟨hb1, g0, cap0, hg0, rfl, hA1⟩ := Y.out _ _ _ hp
  have A1 := Lib.hid hA1
  have B1 := Lib.hid hb1
  clear hp hA1 hb1
  go_wp2_with fail
  refine (implTokensIn s slots _ hs hs1 hs2).mono ?_
  intro e w2 hp
  obtain ⟨hb2, g1, cap1, hg1, rfl, hA2⟩ := Y.out _ _ _ hp
  have A2 := Lib.hid hA2
  have C1 := Lib.hid (own_below A1.out hb2)
  have B2 := Lib.hid (below_seq B1.out hb2)
  clear hp hA2 hb2
  have E1 := lawsEqStringS (some ⟨g1, 0, none⟩) (some ⟨g0, 0, none⟩) cap1 cap0 l l w2 (by rw [HN.out]; unfold maxLen; omega) (by rw [HN.out]; unfold maxLen; omega) (Row.of_own A2.out) (Row.of_own C1.out)
  rw [HN.out, beq_self_eq_true] at E1
  have E1' := Lib.hid E1
  clear E1
  go_wp2_with fail
  refine E1'.out.mono ?_
  rintro e w3 ⟨rfl, n3, rfl⟩
  have M := Lib.hid (lawsMarkStringS w1.heap.size g1 slots cap1 1 _ (w2.drewN n3) (by omega) (own_drewN A2.out n3))
  go_wp2_with fail
  refine M.out.mono ?_
  rintro e w4 ⟨rfl, hA4, hg4⟩
  have A4 := Lib.hid hA4
  have G4 := Lib.hid hg4
  clear hA4 hg4
  have H4 := Lib.hid (lawsHeldStringS (some ⟨g1, 0, none⟩) slots cap1 1 w4 (by omega) (Row.of_own A4.out))
  go_wp2_with fail
  refine H4.out.mono ?_
  rintro e w5 ⟨rfl, hb5⟩
  have A5 := Lib.hid (own_below A4.out hb5)
  have lt0 : g0 < w1.heap.size := (A1.out.lt _ rfl).2
  have C4 := (own_drewN C1.out n3).kept G4.out (.inr (by simp [Value.ownBlock]; omega))
  have C5 := Lib.hid (own_below C4 hb5)
  have le1 : w.heap.size ≤ w1.heap.size := B1.out.size
  have B5 := Lib.hid (below_seq (below_write (below_seq B2.out (belowN n3)) G4.out (Nat.le_trans le1 hg1)) hb5)
  clear hb5 C4
  go_wp2_with fail
  refine (implTokensIn s slots _ hs hs1 hs2).mono ?_
  intro e w6 hp
  obtain ⟨hb6, g2, cap2, hg2, rfl, hA6⟩ := Y.out _ _ _ hp
  have E6 := lawsEqStringS (some ⟨g2, 0, none⟩) (some ⟨g0, 0, none⟩) cap2 cap0 l l w6 (by rw [HN.out]; unfold maxLen; omega) (by rw [HN.out]; unfold maxLen; omega) (Row.of_own hA6) (Row.of_own (own_below C5.out hb6))
  rw [HN.out, beq_self_eq_true] at E6
  have E6' := Lib.hid E6
  have A6 := Lib.hid (own_below A5.out hb6)
  have B6 := Lib.hid (below_seq B5.out hb6)
  clear E6 hp hA6 hb6
  go_wp2_with fail
  refine E6'.out.mono ?_
  rintro e w7 ⟨rfl, n7, rfl⟩
  have H7 := Lib.hid (lawsHeldStringS (some ⟨g1, 0, none⟩) slots cap1 1 (w6.drewN n7) (by omega) (Row.of_own (own_drewN A6.out n7)))
  go_wp2_with fail
  refine H7.out.mono ?_
  rintro e w8 ⟨rfl, hb8⟩
  go_wp2
  go_ret
  exact ⟨rfl, below_seq (below_seq B6.out (belowN n7)) hb8⟩

set_option maxHeartbeats 400000 in
theorem walk (a0 : ByteArray) (a1 : Int) (w0 : a0.size ≤ maxLen) (w1 : (Lit.int .i64 a1).wf = true) (w : World) :
    Calls Try.prog 10 #[.string a0, .int .i64 a1] w fun e w' => e = .returned (.bool true) ∧ Below w.heap.size w w' := by
  have hs := w0
  unfold maxLen at hs
  by_cases h1 : 1048576 < a0.size
  · go_enter Try.func10, Try.ntmps10
    go_wp2
    go_ret
    exact ⟨rfl, Below.refl _ _⟩
  by_cases h2 : 2000 < a0.size ∨ a1 < 1 ∨ 16 < a1
  · exact walkNo a0 a1 w (by omega) (fun w => (specTokensOut a0 a1 w w0 h2).mono fun _ _ h => ⟨h.1, h.2 ▸ Below.refl _ _⟩) (fun w => (implTokensOut a0 a1 w w0 h2).mono fun _ _ h => ⟨h.1, h.2 ▸ Below.refl _ _⟩)
  · obtain ⟨n, rfl⟩ := Int.eq_ofNat_of_zero_le (show 0 ≤ a1 from by omega)
    by_cases hf : (toks a0.data.toList a0.size).length ≤ n
    · exact walkYes a0 n w (by omega) (by omega) (by omega) hf
    · have no : ∀ {w e w'}, TokPost a0.data.toList a0.size n w e w' → e = .returned (.tuple #[.slice none 0 0, .bool false]) ∧ Below w.heap.size w w' := by
        rintro w e w' ⟨hb, h | h⟩
        · exact absurd h.1 hf
        · exact ⟨h.2, hb⟩
      exact walkNo a0 n w (by omega) (fun w => (specTokensIn a0 n w (by omega) (by omega) (by omega)).mono fun _ _ h => no h) (fun w => (implTokensIn a0 n w (by omega) (by omega) (by omega)).mono fun _ _ h => no h)

set_option maxRecDepth 100000 in
theorem lifted (os : Os) (started : os.Started) (H : Type) (enc : TypeId × Value → H) :
    ReturnsInHanded {} Try.checked os 10 .any (Rows.fnExactTokensSpec.pre6 enc Try.prog Try.f10 Rows.fnExactTokensRow.domain false) (Rows.fnExactTokensSpec.post enc Try.prog Try.f10 false true false false) := by
  refine returnsInHanded_of_change (C := Try.checked) own started (by kernel_rfl) Try.func10
    (ChangeSpec.witness6 (enc := enc) (C := Try.checked) false ⟨#[], #[.string ByteArray.empty, .int .i64 0], []⟩ 8 (by kernel_rfl) (by kernel_rfl) (by kernel_rfl) (by kernel_rfl)) ?_
  intro W base args ds gs before hval0 hW hcnd _
  have hval : ∀ (j : Nat) t v, Try.f10.params[j]? = some t → args[j]? = some v → Value.okWide Try.prog W .any base t v := hval0
  have hW' := hW
  obtain ⟨p, q, hA0, hV, rfl, hfz, hnd⟩ := hW
  have hA : DataW.TrodAll enc Try.prog W 0 (fun _ => true) true Try.f10.params.toList args.toList ds p := hA0
  rw [Try.params10] at hA hval
  obtain ⟨v0, vs0, d0, ds0, p0, q0, hargs, rfl, rfl, h0, r0⟩ := trodAll_cons hA
  obtain ⟨v1, vs1, d1, ds1, p1, q1, rfl, rfl, rfl, h1, r1⟩ := trodAll_cons r0
  obtain ⟨rfl, rfl, rfl⟩ := trodAll_nil r1
  obtain rfl : args = #[v0, v1] := by cases args; simp_all
  obtain ⟨rfl, rfl⟩ := trodVars_none hV
  obtain ⟨a0, rfl, rfl, rfl, w0⟩ := open_string Try.underlying9 (hval 0 9 v0 rfl rfl) h0
  obtain ⟨a1, rfl, rfl, rfl, w1⟩ := open_int Try.underlying3 (hval 1 3 v1 rfl rfl) h1
  clear hA0 hval0
  simp only [List.append_nil] at hW'
  refine (walk a0 a1 w0 w1 W).mono fun e W' ⟨he, hg⟩ => ?_
  subst he
  exact ⟨_, rfl, _, _, _, [], [], [], hW', (trodAll_cons_mk (shut_bool Try.underlying4 _) trodAll_mk0), (trodAll_cons_mk (shut_string Try.underlying9 w0) (trodAll_cons_mk (shut_int Try.underlying3 w1) trodAll_mk0)), rfl, hg.frame _, fun h => by cases h⟩

theorem over : Rows.fnExactTokensRow.holds Try.pinned (OpenSpec.ofChange Rows.fnExactTokensSpec) :=
  OpenClaim.holds_of_wide 10 Try.f10 rfl rfl rfl rfl rfl rfl rfl ⟨rfl, rfl, rfl, rfl, rfl⟩ rfl rfl rfl rfl rfl (by kernel_rfl) Try.func10 (by kernel_rfl)
    (of_decide_eq_true (by kernel_rfl)) (by unfold Func.isWrapper; first | (rw [if_pos (by decide +kernel)]; kernel_rfl) | (rw [if_neg (by decide +kernel)]; exact ⟨rfl, rfl⟩))
    (fun os started H enc _ => lifted os started H enc)
end Go.Proofs.Ytmdgigaplfbcpaa.fnExactTokens
namespace Go.Proofs.Ytmdgigaplfbcpaa
/-- Tokens answers as its model, at every text and number of slots, and its answer owns its memory. -/
theorem fnExactTokens_holds : Rows.FnExactTokensSaid := fnExactTokens.over
end Go.Proofs.Ytmdgigaplfbcpaa
