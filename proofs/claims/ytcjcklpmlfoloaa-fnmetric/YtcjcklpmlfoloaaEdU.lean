/- What 'EditText' answers in the program: the least edits of least cost. -/
import Derived.Test.YtcjcklpmlfoloaaEdT
import Derived.Test.YtcjcklpmlfoloaaEdQ
namespace Go.Proofs.Ytcjcklpmlfoloaa
open Go.RowKit
set_option linter.unusedVariables false
theorem own_eq {w w9 : World} {m s base n : Nat} {e : TypeId} {v : Value} {xs : List Value} (h : w9 = w.drewN m) (o : w.ownsRow base e s v n xs) : w9.ownsRow base e s v n xs := by rw [h]; exact o
set_option maxRecDepth 100000 in
set_option maxHeartbeats 4000000 in
theorem implEditText (a b : ByteArray) (w : World) (ha : a.size ≤ maxLen) (hb : b.size ≤ maxLen) :
    Calls Try.prog 16 #[.string a, .string b] w fun r w' => r = .returned (.string (strL (editTextL a.data.toList b.data.toList))) ∧ Below w.heap.size w w' := by
  have CE := fun w => Lib.hid (implEditsOk a b w ha hb)
  unfold maxLen at ha hb
  have LA := Lib.hid (len_data a)
  have LB := Lib.hid (len_data b)
  cases hk : (decide (a.size ≤ 32) && decide (b.size ≤ 32))
  · have HZ : Hid (editTextL a.data.toList b.data.toList = []) := Lib.hid (by unfold editTextL; rw [if_pos (by rw [LA.out, LB.out]; simp at hk; omega)])
    rw [hk] at CE
    go_enter Try.func16, Try.ntmps16
    go_wp2_with fail
    refine (CE _).out.mono ?_
    rintro r w' ⟨rfl, rfl⟩
    go_wp2
    go_ret
    exact ⟨ret_str (by rw [HZ.out]; rfl), Below.refl _ _⟩
  rw [hk] at CE
  simp only [Bool.and_eq_true, decide_eq_true_eq] at hk
  obtain ⟨ha32, hb32⟩ := hk
  have HZ : Hid (editTextL a.data.toList b.data.toList = [] ++ editsL (a.size + b.size) (a.data.toList.drop 0) (b.data.toList.drop 0)) := Lib.hid (by unfold editTextL; rw [if_neg (by rw [LA.out, LB.out]; omega), LA.out, LB.out]; rfl)
  generalize editTextL a.data.toList b.data.toList = full at *
  go_enter Try.func16, Try.ntmps16
  go_wp2_with fail
  refine (CE _).out.mono ?_
  rintro r w' ⟨rfl, rfl⟩
  clear CE
  go_wp2_with fail
  refine (implEditCosts a b _ ha32 hb32).mono ?_
  rintro r w1 ⟨T, rfl, hT, hb1⟩
  go_wp2_with (first
    | (refine wp_arr_new rfl 43 rfl 1089 _ Try.zero43 ?_; intro w2 A2 G2 S2)
    | (refine wp_arr_store rfl 43 _ _ rfl _ 1089 _ _ _ Try.size43 rfl rfl A2 ?_; intro w3 A3 G3 S3))
  have B3 := Lib.hid (below_write (below_seq hb1 (grown_below G2)) G3 hb1.size)
  have HA := Lib.hid (And.intro A3 hT)
  have hlt : w1.heap.size < w3.heap.size := by omega
  clear A2 A3 G2 G3 hT hb1 S2 S3
  go_loopw [6, 7, 8] (fun ev iv jv wr => ∃ (es : List UInt8) (i j r : Nat), i ≤ a.size ∧ j ≤ b.size ∧ iv = .int .i64 i ∧ jv = .int .i64 j ∧ es.length + r ≤ 64 ∧ (a.size - i) + (b.size - j) ≤ r ∧
    Hid (wr.ownsRow w3.heap.size 5 1 ev es.length (es.map bval) ∧ Below w3.heap.size w3 wr) ∧ Hid (full = es ++ editsL r (a.data.toList.drop i) (b.data.toList.drop j))) (fun _ iv jv _ => (a.size - (intOf iv).toNat) + (b.size - (intOf jv).toNat))
  case atStart => exact ⟨[], 0, 0, a.size + b.size, Nat.zero_le _, Nat.zero_le _, rfl, rfl, by simp; omega, by omega, Lib.hid ⟨⟨rfl, .inl ⟨rfl, rfl⟩⟩, Below.refl _ _⟩, HZ⟩
  case round =>
    obtain ⟨es, i, j, r, hi, hj, rfl, rfl, hlen, hr, HO, HF⟩ := hrel
    by_cases hne : i < a.size ∨ j < b.size
    · obtain ⟨r', hr', hF, h1, h2, h3, h4⟩ := edits_step (by rw [LA.out]; exact hi) (by rw [LB.out]; exact hj) (by rw [LA.out, LB.out]; exact hne) HF.out (by rw [LA.out, LB.out]; exact hr)
      rw [LA.out] at h1 h4
      rw [LB.out] at h2 h4
      have CL := Lib.hid (implLeast a b w1.heap.size i j T wr ha32 hb32 hi hj (HA.out.1.low HO.out.2 hlt) HA.out.2)
      generalize leastE (a.data.toList.drop i) (b.data.toList.drop j) = p at *
      obtain ⟨e, m, n⟩ := p
      have F2 := Lib.hid hF
      clear hF HF
      simp only at h1 h2 h3 h4
      rcases hne with hne | hne
      · have hd : (i : Int) < (a.size : Int) := by omega
        go_wp2_with fail
        refine CL.out.mono ?_
        rintro q w9 ⟨rfl, n9, hw9⟩
        have hown := own_eq hw9 HO.out.1
        have hbel : Below w3.heap.size w3 w9 := by rw [hw9]; exact HO.out.2.trans ((belowN n9).mono HO.out.2.size)
        clear hw9 CL
        unfold editV
        have hsz := hbel.size
        obtain ⟨u, hu⟩ : ∃ u, u = bval e := ⟨_, rfl⟩
        have h1u : u.oneCell' = true := by rw [hu]; rfl
        have HU := Lib.hid hu
        have HC : Hid (Value.int .u8 (e.toNat : Int) = u) := Lib.hid hu.symm
        clear hu
        go_wp2_with (at_builtin; rw [HC.out]; refine wp_app1 w3 w9 u rfl _ _ 22 rfl w3.heap.size 5 (.int .u8 0) 1 Try.underlying22 Try.info5 rfl _ _ _ (by rfl) hown (by rfl) h1u (by unfold maxLen; omega) (by omega) hsz hbel ?_; clear hown hbel; intro v' w' hown hbel)
        go_roundw
        case rel => exact ⟨es ++ [e], i + m, j + n, r', h1, h2, by go_num, by go_num, by simp; omega, h4, Lib.hid ⟨by rw [List.length_append, List.map_append, List.map_singleton, ← HU.out]; exact hown, hbel⟩, F2⟩
        case measure => simp [intOf]; omega
      by_cases hia : i < a.size
      · have hd : (i : Int) < (a.size : Int) := by omega
        go_wp2_with fail
        refine CL.out.mono ?_
        rintro q w9 ⟨rfl, n9, hw9⟩
        have hown := own_eq hw9 HO.out.1
        have hbel : Below w3.heap.size w3 w9 := by rw [hw9]; exact HO.out.2.trans ((belowN n9).mono HO.out.2.size)
        clear hw9 CL
        unfold editV
        have hsz := hbel.size
        obtain ⟨u, hu⟩ : ∃ u, u = bval e := ⟨_, rfl⟩
        have h1u : u.oneCell' = true := by rw [hu]; rfl
        have HU := Lib.hid hu
        have HC : Hid (Value.int .u8 (e.toNat : Int) = u) := Lib.hid hu.symm
        clear hu
        go_wp2_with (at_builtin; rw [HC.out]; refine wp_app1 w3 w9 u rfl _ _ 22 rfl w3.heap.size 5 (.int .u8 0) 1 Try.underlying22 Try.info5 rfl _ _ _ (by rfl) hown (by rfl) h1u (by unfold maxLen; omega) (by omega) hsz hbel ?_; clear hown hbel; intro v' w' hown hbel)
        go_roundw
        case rel => exact ⟨es ++ [e], i + m, j + n, r', h1, h2, by go_num, by go_num, by simp; omega, h4, Lib.hid ⟨by rw [List.length_append, List.map_append, List.map_singleton, ← HU.out]; exact hown, hbel⟩, F2⟩
        case measure => simp [intOf]; omega
      · have hd : (j : Int) < (b.size : Int) := by omega
        go_wp2_with fail
        refine CL.out.mono ?_
        rintro q w9 ⟨rfl, n9, hw9⟩
        have hown := own_eq hw9 HO.out.1
        have hbel : Below w3.heap.size w3 w9 := by rw [hw9]; exact HO.out.2.trans ((belowN n9).mono HO.out.2.size)
        clear hw9 CL
        unfold editV
        have hsz := hbel.size
        obtain ⟨u, hu⟩ : ∃ u, u = bval e := ⟨_, rfl⟩
        have h1u : u.oneCell' = true := by rw [hu]; rfl
        have HU := Lib.hid hu
        have HC : Hid (Value.int .u8 (e.toNat : Int) = u) := Lib.hid hu.symm
        clear hu
        go_wp2_with (at_builtin; rw [HC.out]; refine wp_app1 w3 w9 u rfl _ _ 22 rfl w3.heap.size 5 (.int .u8 0) 1 Try.underlying22 Try.info5 rfl _ _ _ (by rfl) hown (by rfl) h1u (by unfold maxLen; omega) (by omega) hsz hbel ?_; clear hown hbel; intro v' w' hown hbel)
        go_roundw
        case rel => exact ⟨es ++ [e], i + m, j + n, r', h1, h2, by go_num, by go_num, by simp; omega, h4, Lib.hid ⟨by rw [List.length_append, List.map_append, List.map_singleton, ← HU.out]; exact hown, hbel⟩, F2⟩
        case measure => simp [intOf]; omega
    · have hd1 : ¬ i < a.size := by omega
      have hd2 : ¬ j < b.size := by omega
      have hF := edits_done (by rw [LA.out]; omega) (by rw [LB.out]; omega) HF.out
      have hown := HO.out.1
      rw [← hF] at hown
      have hcv := conv_any hown
      have BB := Lib.hid (B3.out.trans (HO.out.2.mono B3.out.size))
      clear hown hF HF hne
      obtain ⟨ae, ce, he⟩ := own_shape HO.out.1
      subst he
      clear HO
      go_wp2
      go_ret
      exact ⟨rfl, BB.out⟩
end Go.Proofs.Ytcjcklpmlfoloaa
