/- For every code: the law FnTokens answers true, that is, the tokens of the drawn text, joined by single blanks, have the same tokens. No condition. -/
import Derived.Test.YtmdgigaplfbcpaaBase
import Derived.Test.YtmdgigaplfbcpaaTokens
import Derived.Test.YtmdgigaplfbcpaaSame
import Derived.Test.YtmdgigaplfbcpaaJoin
import Derived.Test.YtmdgigaplfbcpaaDraw1
import Derived.Test.YtmdgigaplfbcpaaLawAid
import Derived.Test.YtmdgigaplfbcpaaUnpad
namespace Go.Proofs.Ytmdgigaplfbcpaa.fnTokens
open Go.ChangeShapes Go.WideShapes Go.ChangeAt Go.RowKit
open Go.ChangeMaps (open_string shut_string)
set_option linter.unusedVariables false

/-- What the law's loop has gathered of the first k strings. -/
def glue (ss : List (List UInt8)) : List UInt8 := joined (ss.filter fun t => !t.isEmpty)
theorem glue_snoc (ss : List (List UInt8)) (t : List UInt8) (h : t ≠ []) : glue (ss ++ [t]) = glue ss ++ 32 :: t := by
  unfold glue
  rw [List.filter_append]
  have : (!t.isEmpty) = true := by cases t <;> simp_all
  rw [show [t].filter (fun t => !t.isEmpty) = [t] from by simp [this]]
  exact joined_snoc _ _
theorem glue_skip (ss : List (List UInt8)) : glue (ss ++ [[]]) = glue ss := by unfold glue; rw [List.filter_append]; simp
theorem glue_toks (l : List UInt8) (n slots : Nat) : glue (tokStrs l n slots) = joined (toks l n) := by
  unfold glue tokStrs
  rw [List.filter_append]
  have e1 : (toks l n).filter (fun t => !t.isEmpty) = toks l n := by
    rw [List.filter_eq_self]
    intro t ht
    have := form_len (toks_forms l n t ht)
    cases t <;> simp_all
  have e2 : (List.replicate (slots - (toks l n).length) ([] : List UInt8)).filter (fun t => !t.isEmpty) = [] := by
    rw [List.filter_eq_nil_iff]
    intro t ht
    have := List.eq_of_mem_replicate ht
    subst this; simp
  rw [e1, e2, List.append_nil]
theorem strL_app (a b : List UInt8) : strL a ++ strL b = strL (a ++ b) := by
  unfold strL; apply ByteArray.ext; simp [ByteArray.data_append]

set_option maxHeartbeats 1000000 in
theorem walkYes (a : Option Addr) (l : List UInt8) (cap : Nat) (w : World) (hl : l.length ≤ 1048576) (hm : l.length ≤ maxLen) (R : Hid (Row w a (l.map bval)))  :
    Calls Try.prog 4 #[.slice a l.length cap] w fun e w' => e = .returned (.bool true) ∧ Below w.heap.size w w' := by
  have h1 : ¬ 1048576 < l.length := by omega
  go_enter Try.func4, Try.ntmps4
  go_wp2_with fail
  refine (bigIs _ _ _ _ hm).mono ?_
  rintro e w1 ⟨rfl, rfl⟩
  rw [decide_eq_false h1]
  go_wp2_with fail
  refine (drawTokens a l cap _ hl R.out).mono ?_
  rintro e w1 ⟨⟨s, z, rfl, hs, hz⟩, hb1⟩
  have B1 := Lib.hid hb1
  clear hb1
  have hsm : s.size ≤ maxLen := by unfold maxLen; omega
  by_cases h2 : 2000 < s.size ∨ z < 1 ∨ 16 < z
  · go_wp2_with fail
    refine (specTokensOut s z _ hsm h2).mono ?_
    rintro e w2 ⟨rfl, rfl⟩
    go_wp2_with fail
    refine (implTokensOut s z _ hsm h2).mono ?_
    rintro e w2 ⟨rfl, rfl⟩
    clear h2
    go_wp2
    go_ret
    exact ⟨rfl, B1.out⟩
  obtain ⟨n, rfl⟩ := Int.eq_ofNat_of_zero_le (show 0 ≤ z from by omega)
  have hs2 : s.size ≤ 2000 := by omega
  have hn1 : 1 ≤ n := by omega
  have hn2 : n ≤ 16 := by omega
  clear h2 hz
  go_wp2_with fail
  refine (specTokensIn s n _ hs2 hn1 hn2).mono ?_
  rintro e w2 ⟨hb2, ⟨hf, g0, cap0, hg0, rfl, hA2⟩ | ⟨hf, rfl⟩⟩
  case inr =>
    have B2 := Lib.hid (below_seq B1.out hb2)
    clear hb2
    go_wp2_with fail
    refine (implTokensIn s n _ hs2 hn1 hn2).mono ?_
    rintro e w3 ⟨hb3, ⟨hf2, _⟩ | ⟨_, rfl⟩⟩
    · omega
    have B3 := Lib.hid (below_seq B2.out hb3)
    clear hb3
    go_wp2
    go_ret
    exact ⟨rfl, B3.out⟩
  rw [tokStrs_row] at hA2
  have A2 := Lib.hid hA2
  have B2 := Lib.hid (below_seq B1.out hb2)
  clear hb2 hA2
  go_wp2_with fail
  refine (implTokensIn s n _ hs2 hn1 hn2).mono ?_
  rintro e w3 ⟨hb3, ⟨_, g1, cap1, hg1, rfl, hA3⟩ | ⟨hf2, _⟩⟩
  case inr => omega
  rw [tokStrs_row] at hA3
  have A3 := Lib.hid hA3
  have C3 := Lib.hid (own_below A2.out hb3)
  have B3 := Lib.hid (below_seq B2.out hb3)
  clear hb3 hA3
  obtain ⟨ss, hss⟩ : ∃ ss, ss = tokStrs s.data.toList s.size n := ⟨_, rfl⟩
  rw [← hss] at A3 C3
  have hsl : ss.length = n := by rw [hss]; exact tokStrs_length _ _ _ hf
  have HG : Hid (glue ss = joined (toks s.data.toList s.size)) := Lib.hid (by rw [hss]; exact glue_toks _ _ _)
  have HSS := Lib.hid hss
  have HSL := Lib.hid hsl
  have h33 : ∀ t ∈ ss, t.length ≤ 32 := by
    intro t ht
    rw [hss] at ht
    unfold tokStrs at ht
    rcases List.mem_append.1 ht with ht | ht
    · exact (form_len (toks_forms _ _ t ht)).2
    · rw [List.eq_of_mem_replicate ht]; decide
  have H33 := Lib.hid h33
  clear hss hsl h33
  go_wp2
  go_loop [9, 10] (fun sv iv => ∃ k : Nat, k ≤ n ∧ iv = .int .i64 k ∧ sv = .string (strL (glue (ss.take k))) ∧ (glue (ss.take k)).length ≤ 33 * k) (fun _ iv => n - (intOf iv).toNat)
  case atStart => exact ⟨0, Nat.zero_le _, rfl, rfl, by simp [glue, joined]⟩
  case round =>
    obtain ⟨k, hk, rfl, rfl, hgl⟩ := hrel
    by_cases hlt : k < n
    · have hks : k < ss.length := by rw [HSL.out]; exact hlt
      have q1 := (C3.out.cellAt k (by omega)).trans (sval_at hks)
      have hts : ss.take (k + 1) = ss.take k ++ [ss[k]] := List.take_succ_eq_append_getElem hks
      have h32 := H33.out _ (List.getElem_mem hks)
      by_cases he : ss[k] = []
      · have HT : Hid (glue (ss.take (k + 1)) = glue (ss.take k)) := Lib.hid (by rw [hts, he]; exact glue_skip _)
        rw [he, strL_empty] at q1
        clear hts he h32
        go_wp2
        go_round
        case rel => exact ⟨k + 1, by omega, by go_num, by rw [HT.out], by rw [HT.out]; omega⟩
        case measure => simp [intOf]; omega
      · have HT : Hid (glue (ss.take (k + 1)) = glue (ss.take k) ++ 32 :: ss[k]) := Lib.hid (by rw [hts]; exact glue_snoc _ _ he)
        have hle : (glue (ss.take (k + 1))).length ≤ 33 * (k + 1) := by rw [HT.out]; simp; omega
        have hne : (strL ss[k]).toList.isEmpty = false := by
          rw [show (strL ss[k]).toList = ss[k] from ByteArray.toList_mk _]
          cases e : ss[k] with
          | nil => exact absurd e he
          | cons _ _ => rfl
        have hz1 : (strL (glue (ss.take k))).size ≤ 600 := by rw [strL_size]; omega
        have hz2 : (strL ss[k]).size ≤ 32 := by rw [strL_size]; exact h32
        have hz3 : (strL (glue (ss.take k)) ++ ⟨#[32]⟩).size ≤ 601 := by rw [ByteArray.size_append]; show _ + 1 ≤ 601; omega
        have HJ : Hid (strL (glue (ss.take k)) ++ ⟨#[32]⟩ ++ strL ss[k] = strL (glue (ss.take (k + 1)))) := Lib.hid (by
          rw [HT.out, show (⟨#[32]⟩ : ByteArray) = strL [32] from rfl, strL_app, strL_app]; simp)
        clear hts he h32 HT
        go_wp2
        go_round
        case rel => exact ⟨k + 1, by omega, by go_num, by rw [HJ.out], hle⟩
        case measure => simp [intOf]; omega
    · have hkn : k = n := by omega
      subst hkn
      have e1 : glue (ss.take k) = joined (toks s.data.toList s.size) := by rw [List.take_of_length_le (by rw [HSL.out]; omega), HG.out]
      rw [e1]
      have hforms := toks_forms s.data.toList s.size
      have hjl := joined_len _ hforms
      have htj := toks_joined _ hforms
      have hx2 : (strL (joined (toks s.data.toList s.size))).size ≤ 2000 := by rw [strL_size]; omega
      have ht2 : toks (strL (joined (toks s.data.toList s.size))).data.toList (strL (joined (toks s.data.toList s.size))).size = toks s.data.toList s.size := by rw [strL_data, strL_size]; exact htj
      have HT2 := Lib.hid ht2
      clear e1 hgl hforms hjl htj ht2
      generalize strL (joined (toks s.data.toList s.size)) = x at *
      go_wp2_with fail
      refine (implTokensIn x k _ hx2 hn1 hn2).mono ?_
      rintro e w4 ⟨hb4, ⟨_, g2, cap2, hg2, rfl, hA4⟩ | ⟨hf2, _⟩⟩
      case inr => rw [HT2.out] at hf2; omega
      rw [tokStrs_row, show tokStrs x.data.toList x.size k = ss from by rw [HSS.out]; unfold tokStrs; rw [HT2.out]] at hA4
      have B4 := Lib.hid (below_seq B3.out hb4)
      have E1 := lawsSameWords (some ⟨g1, 0, none⟩) (some ⟨g0, 0, none⟩) cap1 cap0 ss ss w4 (by rw [HSL.out]; unfold maxLen; omega) (by rw [HSL.out]; unfold maxLen; omega) (Row.of_own (own_below A3.out hb4)) (Row.of_own (own_below C3.out hb4))
      rw [HSL.out, beq_self_eq_true] at E1
      have E1' := Lib.hid E1
      have A4 := Lib.hid hA4
      have C4 := Lib.hid (own_below C3.out hb4)
      clear E1 hA4 hb4
      go_wp2_with fail
      refine E1'.out.mono ?_
      rintro e w5 ⟨rfl, n5, rfl⟩
      have E2 := lawsSameWords (some ⟨g2, 0, none⟩) (some ⟨g0, 0, none⟩) cap2 cap0 ss ss (w4.drewN n5) (by rw [HSL.out]; unfold maxLen; omega) (by rw [HSL.out]; unfold maxLen; omega) (Row.of_own (own_drewN A4.out n5)) (Row.of_own (own_drewN C4.out n5))
      rw [HSL.out, beq_self_eq_true] at E2
      have E2' := Lib.hid E2
      clear E2
      go_wp2_with fail
      refine E2'.out.mono ?_
      rintro e w6 ⟨rfl, n6, rfl⟩
      go_wp2
      go_ret
      exact ⟨rfl, below_seq B4.out (belowN (n5 + n6))⟩

set_option maxHeartbeats 400000 in
theorem walk (a0 : Option Addr) (len0 cap0 : Nat) (z0 : List Int) (w : World) (w0 : IsRow .u8 w a0 len0 cap0 z0) :
    Calls Try.prog 4 #[.slice a0 len0 cap0] w fun e w' => e = .returned (.bool true) ∧ Below w.heap.size w w' := by
  obtain ⟨l, hl, hcap, hmax, hr⟩ := row_of_isRow w0
  clear w0
  subst hl
  by_cases h1 : 1048576 < l.length
  · go_enter Try.func4, Try.ntmps4
    go_wp2_with fail
    refine (bigIs _ _ _ _ (by omega)).mono ?_
    rintro e w1 ⟨rfl, rfl⟩
    rw [decide_eq_true h1]
    go_wp2
    go_ret
    exact ⟨rfl, Below.refl _ _⟩
  · exact walkYes a0 l cap0 w (by omega) (by omega) (Lib.hid hr)

set_option maxRecDepth 100000 in
theorem lifted (os : Os) (started : os.Started) (H : Type) (enc : TypeId × Value → H) :
    ReturnsInHanded {} Try.checked os 4 .any (Rows.fnTokensSpec.pre6 enc Try.prog Try.f4 Rows.fnTokensRow.domain false) (Rows.fnTokensSpec.post enc Try.prog Try.f4 false true false false) := by
  refine returnsInHanded_of_change (C := Try.checked) own started (by kernel_rfl) Try.func4
    (ChangeSpec.witness6 (enc := enc) (C := Try.checked) false ⟨#[], #[.slice none 0 0], []⟩ 8 (by kernel_rfl) (by kernel_rfl) (by kernel_rfl) (by kernel_rfl)) ?_
  intro W base args ds gs before hval0 hW hcnd _
  have hval : ∀ (j : Nat) t v, Try.f4.params[j]? = some t → args[j]? = some v → Value.okWide Try.prog W .any base t v := hval0
  have hW' := hW
  obtain ⟨p, q, hA0, hV, rfl, hfz, hnd⟩ := hW
  have hA : DataW.TrodAll enc Try.prog W 0 (fun _ => true) true Try.f4.params.toList args.toList ds p := hA0
  rw [Try.params4] at hA hval
  obtain ⟨v0, vs0, d0, ds0, p0, q0, hargs, rfl, rfl, h0, r0⟩ := trodAll_cons hA
  obtain ⟨rfl, rfl, rfl⟩ := trodAll_nil r0
  obtain rfl : args = #[v0] := by cases args; simp_all
  obtain ⟨rfl, rfl⟩ := trodVars_none hV
  obtain ⟨a0, len0, cap0, rfl⟩ := okWide_slice Try.underlying22 (hval 0 22 v0 rfl rfl)
  have k0 := h0
  have lt0 : ∀ x ∈ p0, x.block < W.heap.size := by obtain ⟨m, hm⟩ := k0; exact DataW.trod_lt m _ _ _ hm
  obtain ⟨z0, w0⟩ : ∃ zs, IsRow .u8 W a0 len0 cap0 zs := by
    obtain ⟨fuel, hf⟩ := h0
    rcases open_ints Try.underlying22 Try.underlying5 (by kernel_rfl) hf with ⟨hcs, _⟩ | ⟨x, l, c, zs, hcs, _, hl, hm, hz, _, hcell, hwz⟩
    · simp [Value.cells] at hcs
      obtain ⟨rfl, rfl, rfl⟩ := hcs
      exact ⟨[], .inl ⟨rfl, rfl, rfl, rfl⟩⟩
    · simp [Value.cells] at hcs
      obtain ⟨rfl, rfl, rfl⟩ := hcs
      exact ⟨zs, .inr ⟨_, rfl, hl, hm, by simpa using hz, hcell, hwz⟩⟩
  clear hA0 hval0
  refine (walk a0 len0 cap0 z0 W w0).mono fun e W' ⟨he, bel⟩ => ?_
  subst he
  exact ⟨_, rfl, _, _, _, [], _, [], hW', trodAll_mk1 (shut_bool Try.underlying4 _), (trodAll_cons_mk (Below.trod laidOut (by kernel_rfl) (of_decide_eq_true (by kernel_rfl)) k0 bel lt0) trodAll_mk0), rfl, bel.frame _, fun h => by cases h⟩

theorem over : Rows.fnTokensRow.holds Try.pinned (OpenSpec.ofChange Rows.fnTokensSpec) :=
  OpenClaim.holds_of_wide 4 Try.f4 rfl rfl rfl rfl rfl rfl rfl ⟨rfl, rfl, rfl, rfl, rfl⟩ rfl rfl rfl rfl rfl (by kernel_rfl) Try.func4 (by kernel_rfl)
    (of_decide_eq_true (by kernel_rfl)) (by unfold Func.isWrapper; first | (rw [if_pos (by decide +kernel)]; kernel_rfl) | (rw [if_neg (by decide +kernel)]; exact ⟨rfl, rfl⟩))
    (fun os started H enc _ => lifted os started H enc)
end Go.Proofs.Ytmdgigaplfbcpaa.fnTokens
namespace Go.Proofs.Ytmdgigaplfbcpaa
/-- Tokens do not depend on the separators, for every code. -/
theorem fnTokens_holds : Rows.FnTokensSaid := fnTokens.over
end Go.Proofs.Ytmdgigaplfbcpaa
