/- The whole table of least costs, in the program; Distance, Capped, Within. -/
import Derived.Test.YtfdlmpjccoaejaaEdI
namespace Go.Proofs.Ytfdlmpjccoaejaa
open Go.RowKit
set_option linter.unusedVariables false

/-- The table holds the distances of all tails from row k on. -/
def TabIs (a b : ByteArray) (k : Nat) (T : Nat → Int) : Prop := ∀ i, k ≤ i → i ≤ a.size → ∀ j, j ≤ b.size → T (i * 33 + j) = dist (a.data.toList.drop i) (b.data.toList.drop j)
def RowOf (a b : ByteArray) (k : Nat) (R : Nat → Int) : Prop := ∀ j, j ≤ b.size → R j = dist (a.data.toList.drop k) (b.data.toList.drop j)
theorem tab_step {a b : ByteArray} {k : Nat} {T R : Nat → Int} (hb : b.size ≤ 32) (h : TabIs a b (k + 1) T) (hr : RowOf a b k R) : TabIs a b k (seg T (k * 33) 33 R) := by
  intro i h1 h2 j hj
  by_cases e : i = k
  · subst e
    rw [seg_in _ _ _ _ _ (by omega)]; exact hr j hj
  · rw [seg_out _ _ _ _ _ (by right; have : (k + 1) * 33 ≤ i * 33 := Nat.mul_le_mul_right _ (by omega)
                              omega)]
    exact h i (by omega) h2 j hj
theorem tab_last {a b : ByteArray} {T R : Nat → Int} (hb : b.size ≤ 32) (hr : RowOf a b a.size R) : TabIs a b a.size (seg T (a.size * 33) 33 R) := by
  intro i h1 h2 j hj
  obtain rfl : i = a.size := by omega
  rw [seg_in _ _ _ _ _ (by omega)]; exact hr j hj
theorem row_last (a b : ByteArray) : RowOf a b a.size (lastF b.size b.size) := by
  intro j hj
  rw [drop_past a _ (Nat.le_refl _), dist_nil, List.length_drop, len_data]
  unfold lastF
  split <;> omega
/-- What lies in memory while the table is filled. -/
def CostsAt (w wr : World) (b6 : Nat) (T R : Nat → Int) : Prop :=
  ArrAt wr (w.heap.size + 1) 95 1089 T ∧ ArrAt wr b6 93 33 R ∧ ArrAt wr w.heap.size 95 1089 (fun _ => 0) ∧ Below w.heap.size w wr ∧ w.heap.size + 1 < b6
set_option maxRecDepth 100000 in
set_option maxHeartbeats 4000000 in
theorem implEditCosts (a b : ByteArray) (w : World) (ha : a.size ≤ 32) (hb : b.size ≤ 32) :
    Calls Try.prog 95 #[.string a, .string b] w fun e w' => ∃ T, e = .returned (.agg (cellsA 1089 T)) ∧ TabIs a b 0 T ∧ Below w.heap.size w w' := by
  go_enter Try.func95, Try.ntmps95
  go_wp2_with (refine wp_arr_new rfl 95 rfl 1089 _ Try.zero43 ?_)
  intro w1 A1 G1 S1
  go_wp2_with (refine wp_arr_new rfl 95 rfl 1089 _ Try.zero43 ?_)
  intro w2 A2 G2 S2
  have B2 : Below w.heap.size w w2 := (grown_below G1).trans ((grown_below G2).mono (by omega))
  have A1' := A1.kept G2 (by simp)
  clear A1 G1 G2
  go_wp2_with fail
  refine (implLastRow b.size _ hb).mono ?_
  rintro e w3 ⟨rfl, hb3⟩
  have hs3 := hb3.size
  have A2' := A2.below hb3
  have A1'' := A1'.below hb3
  have B3 := below_seq B2 hb3
  clear A1' A2 B2 hb3
  go_wp2_with (refine wp_arr_new rfl 93 rfl 33 _ Try.zero41 ?_)
  intro w4 A4 G4 S4
  have A2'' := A2'.kept G4 (by simp)
  have A1' := A1''.kept G4 (by simp)
  have B4 := below_seq B3 (grown_below G4)
  clear A2' A1'' B3 G4
  go_wp2_with (refine wp_arr_store rfl 93 _ _ rfl _ 33 _ _ _ Try.size41 rfl rfl A4 ?_)
  intro w5 A5 G5 S5
  have A6 := A2''.kept G5 (by simp; omega)
  have A7 := A1'.kept G5 (by simp; omega)
  have B5 := below_write B4 G5 (by omega)
  clear A4 A2'' A1' G5 B4
  have hm0 : (0 : Int) ≤ (a.size : Int) := by omega
  have hm1 : (a.size : Int) < 33 := by omega
  go_wp2_with (first
    | refine wp_arr_load rfl 93 _ rfl _ _ 33 _ _ Try.underlying93 rfl Try.size41 rfl A5 ?_
    | (refine wp_arr_mid rfl 93 _ _ rfl (w.heap.size + 1) (a.size * 33) 1089 33 95 _ _ Try.size41 rfl rfl A6 (by omega) ?_; intro w6 A8 G8 S8))
  have H : Hid (CostsAt w w6 w3.heap.size (seg (fun _ => 0) (a.size * 33) 33 (lastF b.size b.size)) (lastF b.size b.size)) :=
    Lib.hid ⟨A8, A5.kept G8 (by simp; omega), A7.kept G8 (by simp), below_write B5 G8 (by omega), by omega⟩
  obtain ⟨b6, hb6⟩ : ∃ b6, b6 = w3.heap.size := ⟨_, rfl⟩
  rw [← hb6] at H ⊢
  clear A5 A6 A7 A8 B5 G8 hb6 S8 S5 S4 hs3 S2 S1
  go_loopw [7] (fun iv wr => ∃ (k : Nat) (T R : Nat → Int), k ≤ a.size ∧ iv = .int .i64 ((k : Int) - 1) ∧ Hid (CostsAt w wr b6 T R) ∧ Hid (TabIs a b k T ∧ RowOf a b k R)) (fun iv _ => ((intOf iv) + 1).toNat)
  case atStart => exact ⟨a.size, _, _, Nat.le_refl _, rfl, H, Lib.hid ⟨tab_last hb (row_last a b), row_last a b⟩⟩
  case round =>
    clear H
    obtain ⟨k, T, R, hk, rfl, H, HV⟩ := hrel
    cases k with
    | zero =>
      obtain ⟨A1, A2, A3, B1, hlt⟩ := H.out
      go_wp2_with (first
        | refine wp_arr_load rfl 95 _ rfl _ _ 1089 _ _ Try.underlying95 rfl Try.size43 rfl A1 ?_
        | (refine wp_arr_store rfl 95 _ _ rfl _ 1089 _ _ _ Try.size43 rfl rfl A3 ?_; intro w7 A4 G4 S4))
      refine ret_arr Try.results95 rfl rfl A4 Try.underlying95 rfl Try.size43 ⟨T, rfl, HV.out.1, ?_⟩
      exact below_write B1 G4 (Nat.le_refl _)
    | succ k =>
      have ek : ((k + 1 : Nat) : Int) - 1 = (k : Int) := by omega
      rw [ek]
      clear ek
      obtain ⟨A1, A2, A3, B1, hlt⟩ := H.out
      have hka : k < a.size := by omega
      have C := Lib.hid (implRowAhead R a[k] b (a.data.toList.drop (k + 1)) wr.drew hb (by rw [List.length_drop, len_data]; omega) HV.out.2)
      have A1d : ArrAt wr.drew (w.heap.size + 1) 95 1089 T := A1
      have A2d : ArrAt wr.drew b6 93 33 R := A2
      have A3d : ArrAt wr.drew w.heap.size 95 1089 (fun _ => 0) := A3
      have B1d : Below w.heap.size w wr.drew := B1.drew
      have hm0 : (0 : Int) ≤ (k : Int) := by omega
      have hm1 : (k : Int) < 33 := by omega
      have DB := Lib.hid (drop_byte a k hka)
      go_wp2
      refine wp_region_still_tail 5 (by kernel_rfl) (by kernel_rfl) ?_
      simp only [List.take_succ_cons, List.take_zero, List.drop_succ_cons, List.drop_zero]
      refine still_arr_load rfl 93 _ rfl _ _ 33 _ _ Try.underlying93 rfl Try.size41 rfl A2d ?_
      repeat still_step
      refine wpStill_nil ?_
      change wpList _ _ _ _ _ wr.drew
      go_wp2_with fail
      refine C.out.mono ?_
      rintro e w7 ⟨R', rfl, hR', hb7⟩
      have hR2 : RowOf a b k R' := by intro j hj; rw [DB.out]; exact hR' j hj
      have A1e := A1d.below hb7
      have A2e := A2d.below hb7
      have A3e := A3d.below hb7
      have B1e := below_seq B1d hb7
      clear A1 A2 A3 B1 A1d A2d A3d B1d hb7 C
      go_wp2_with (refine wp_arr_store rfl 93 _ _ rfl _ 33 _ _ _ Try.size41 rfl rfl A2e ?_)
      intro w8 A4 G4 S4
      have A1f := A1e.kept G4 (by simp; omega)
      have A3f := A3e.kept G4 (by simp; omega)
      have B1f := below_write B1e G4 (by omega)
      clear A1e A2e A3e B1e G4
      go_wp2_with (first
        | refine wp_arr_load rfl 93 _ rfl _ _ 33 _ _ Try.underlying93 rfl Try.size41 rfl A4 ?_
        | (refine wp_arr_mid rfl 93 _ _ rfl (w.heap.size + 1) (k * 33) 1089 33 95 _ _ Try.size41 rfl rfl A1f (by omega) ?_; intro w9 A8 G8 S8))
      go_roundw
      case rel => exact ⟨k, _, R', by omega, by go_num, Lib.hid ⟨A8, A4.kept G8 (by simp; omega), A3f.kept G8 (by simp), below_write B1f G8 (by omega), hlt⟩, Lib.hid ⟨tab_step hb HV.out.1 hR2, hR2⟩⟩
      case measure => simp [intOf]

set_option maxHeartbeats 1600000 in
theorem implDistance (a b : ByteArray) (w : World) (ha : a.size ≤ maxLen) (hb : b.size ≤ maxLen) :
    Calls Try.prog 73 #[.string a, .string b] w fun r w' => r = .returned (.int .i64 (distZ a.data.toList b.data.toList)) ∧ Below w.heap.size w w' := by
  have CE := fun w => Lib.hid (implEditsOk a b w ha hb)
  unfold maxLen at ha hb
  have LA := Lib.hid (len_data a)
  have LB := Lib.hid (len_data b)
  cases hk : (decide (a.size ≤ 32) && decide (b.size ≤ 32))
  · have HZ : Hid (distZ a.data.toList b.data.toList = -1) := Lib.hid (by unfold distZ; rw [if_pos (by rw [LA.out, LB.out]; simp at hk; omega)])
    rw [hk] at CE
    go_enter Try.func73, Try.ntmps73
    go_wp2_with fail
    refine (CE _).out.mono ?_
    rintro r w' ⟨rfl, rfl⟩
    go_wp2
    go_ret
    exact ⟨ret_int HZ.out.symm, Below.refl _ _⟩
  rw [hk] at CE
  simp only [Bool.and_eq_true, decide_eq_true_eq] at hk
  obtain ⟨ha32, hb32⟩ := hk
  have HZ : Hid (distZ a.data.toList b.data.toList = (dist a.data.toList b.data.toList : Int)) := Lib.hid (by unfold distZ; rw [if_neg (by rw [LA.out, LB.out]; omega)])
  go_enter Try.func73, Try.ntmps73
  go_wp2_with fail
  refine (CE _).out.mono ?_
  rintro r w' ⟨rfl, rfl⟩
  clear CE
  go_wp2_with fail
  refine (implEditCosts a b _ ha32 hb32).mono ?_
  rintro r w1 ⟨T, rfl, hT, hb1⟩
  go_wp2_with (first
    | (refine wp_arr_new rfl 95 rfl 1089 _ Try.zero43 ?_; intro w2 A2 G2 S2)
    | (refine wp_arr_store rfl 95 _ _ rfl _ 1089 _ _ _ Try.size43 rfl rfl A2 ?_; intro w3 A3 G3 S3; have hc0 := A3.cell (k := 0) (by omega)))
  go_ret
  have h0 := hT 0 (Nat.le_refl _) (Nat.zero_le _) 0 (Nat.zero_le _)
  simp at h0
  exact ⟨ret_int (by rw [HZ.out, ← h0]), below_write (below_seq hb1 (grown_below G2)) G3 hb1.size⟩
end Go.Proofs.Ytfdlmpjccoaejaa
