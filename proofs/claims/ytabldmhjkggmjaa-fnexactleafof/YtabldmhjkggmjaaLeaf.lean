/- What 'LeafOf' answers, in the model of the document and in the program; a draw's bounds. -/
import Derived.Test.YtabldmhjkggmjaaBase
import Derived.Test.YtabldmhjkggmjaaPlain1
namespace Go.Proofs.Ytabldmhjkggmjaa
open Go.RowKit
set_option linter.unusedVariables false

/-- A draw: 0 to 65535. -/
def drawB (z : Int) : Bool := decide (0 ≤ z) && decide (z ≤ 65535)
theorem draw_yes {z : Int} (h1 : 0 ≤ z) (h2 : z ≤ 65535) : drawB z = true := by simp [drawB, h1, h2]
theorem draw_no {z : Int} (h : z < 0 ∨ 65535 < z) : drawB z = false := by
  unfold drawB; rcases h with h | h
  · have : ¬ 0 ≤ z := by omega
    simp [this]
  · have : ¬ z ≤ 65535 := by omega
    simp [this]
theorem draw_of {z : Int} (h : drawB z = true) : 0 ≤ z ∧ z ≤ 65535 := by simpa [drawB] using h
set_option maxHeartbeats 400000 in
theorem implDrawOk (z : Int) (w : World) :
    Calls Try.prog 48 #[.int .i64 z] w fun e w' => e = .returned (.bool (drawB z)) ∧ w = w' := by
  by_cases h1 : 0 ≤ z
  · by_cases h2 : z ≤ 65535
    · have H := Lib.hid (draw_yes h1 h2)
      go_enter Try.func48, Try.ntmps48
      go_wp2
      go_ret
      exact ⟨ret_bool H.out.symm, rfl⟩
    · have H := Lib.hid (draw_no (z := z) (.inr (by omega)))
      go_enter Try.func48, Try.ntmps48
      go_wp2
      go_ret
      exact ⟨ret_bool H.out.symm, rfl⟩
  · have H := Lib.hid (draw_no (z := z) (.inl (by omega)))
    have hd : decide (0 ≤ z) = false := by simpa using h1
    go_enter Try.func48, Try.ntmps48
    go_wp2
    go_ret
    exact ⟨ret_bool H.out.symm, rfl⟩
def leafI (d g : Int) : Int := if drawB d = true ∧ 0 ≤ g ∧ g ≤ 6 then d % 2 ^ g.toNat else -1

set_option maxHeartbeats 400000 in
theorem specPow (n : Nat) (w : World) (hn : n ≤ 6) :
    Calls Try.prog 46 #[.int .i64 n] w fun e w' => e = .returned (.int .i64 ((2 ^ n : Nat) : Int)) ∧ w = w' := by
  go_enter Try.func46, Try.ntmps46
  go_wp2
  go_loop [0, 3] (fun i o => ∃ k : Nat, k ≤ n ∧ i = .int .i64 k ∧ o = .int .i64 ((2 ^ (n - k) : Nat) : Int)) (fun i _ => (intOf i).toNat)
  case atStart => exact ⟨n, Nat.le_refl _, rfl, by simp⟩
  case round =>
    obtain ⟨k, hk, rfl, rfl⟩ := hrel
    have hp : 2 ^ (n - k) ≤ 64 := Nat.pow_le_pow_right (n := 2) (by omega) (show n - k ≤ 6 by omega)
    by_cases hlt : 0 < k
    · have HP : Hid (2 ^ (n - (k - 1)) = 2 * 2 ^ (n - k)) := Lib.hid (by rw [show n - (k - 1) = n - k + 1 from by omega, Nat.pow_succ, Nat.mul_comm])
      generalize 2 ^ (n - k) = x at *
      go_wp2
      go_round
      case rel => exact ⟨k - 1, by omega, by congr 1; omega, by rw [HP.out]; congr 1⟩
      case measure => simp [intOf]; omega
    · have hk0 : k = 0 := by omega
      subst hk0
      go_wp2
      go_ret
      exact ⟨rfl, rfl⟩
set_option maxHeartbeats 400000 in
theorem specLeafOf (d g : Int) (w : World) :
    Calls Try.prog 23 #[.int .i64 d, .int .i64 g] w fun e w' => e = .returned (.int .i64 (leafI d g)) ∧ w = w' := by
  by_cases h1 : d < 0
  · have H : Hid (leafI d g = -1) := Lib.hid (by unfold leafI; rw [if_neg (by rw [draw_no (.inl h1)]; simp)])
    go_enter Try.func23, Try.ntmps23
    go_wp2
    go_ret
    exact ⟨ret_int H.out.symm, rfl⟩
  by_cases h2 : 65535 < d
  · have H : Hid (leafI d g = -1) := Lib.hid (by unfold leafI; rw [if_neg (by rw [draw_no (.inr h2)]; simp)])
    go_enter Try.func23, Try.ntmps23
    go_wp2
    go_ret
    exact ⟨ret_int H.out.symm, rfl⟩
  by_cases h3 : g < 0
  · have H : Hid (leafI d g = -1) := Lib.hid (by unfold leafI; rw [if_neg (by omega)])
    go_enter Try.func23, Try.ntmps23
    go_wp2
    go_ret
    exact ⟨ret_int H.out.symm, rfl⟩
  by_cases h4 : 6 < g
  · have H : Hid (leafI d g = -1) := Lib.hid (by unfold leafI; rw [if_neg (by omega)])
    go_enter Try.func23, Try.ntmps23
    go_wp2
    go_ret
    exact ⟨ret_int H.out.symm, rfl⟩
  obtain ⟨n, rfl⟩ : ∃ n : Nat, g = n := ⟨g.toNat, by omega⟩
  have H : Hid (leafI d n = d % ((2 ^ n : Nat) : Int)) := Lib.hid (by unfold leafI; rw [if_pos ⟨draw_yes (by omega) (by omega), by omega, by omega⟩]; simp)
  have hp : 0 < 2 ^ n := Nat.pow_pos (by omega)
  have hp2 : 2 ^ n ≤ 64 := Nat.pow_le_pow_right (n := 2) (by omega) (show n ≤ 6 by omega)
  go_enter Try.func23, Try.ntmps23
  go_wp2_with fail
  refine (specPow n _ (by omega)).mono ?_
  rintro e w' ⟨rfl, rfl⟩
  generalize 2 ^ n = x at *
  go_wp2
  go_ret
  exact ⟨ret_int (by rw [H.out]), rfl⟩
theorem implTreeOkL (g : Int) (w : World) : Calls Try.prog 47 #[.int .i64 g] w fun e w' => e = .returned (.bool (decide (0 ≤ g) && decide (g ≤ 6))) ∧ w = w' := by
  by_cases h0 : 0 ≤ g
  · by_cases h1 : g ≤ 6
    · go_enter Try.func47, Try.ntmps47
      go_wp2
      go_ret
      exact ⟨ret_bool (by simp; omega), rfl⟩
    · go_enter Try.func47, Try.ntmps47
      go_wp2
      go_ret
      exact ⟨ret_bool (by simp [h1]), rfl⟩
  · have h00 : decide (0 ≤ g) = false := by simpa using h0
    go_enter Try.func47, Try.ntmps47
    go_wp2
    go_ret
    exact ⟨ret_bool (by simp), rfl⟩
set_option maxHeartbeats 400000 in
theorem implLeafOf (d g : Int) (w : World) :
    Calls Try.prog 24 #[.int .i64 d, .int .i64 g] w fun e w' => e = .returned (.int .i64 (leafI d g)) ∧ w = w' := by
  cases hd : drawB d
  · have H : Hid (leafI d g = -1) := Lib.hid (by unfold leafI; rw [if_neg (by rw [hd]; simp)])
    have D := Lib.hid (fun w => implDrawOk d w)
    rw [hd] at D
    clear hd
    go_enter Try.func24, Try.ntmps24
    go_wp2_with fail
    refine (D.out _).mono ?_
    rintro e w' ⟨rfl, rfl⟩
    go_wp2
    go_ret
    exact ⟨ret_int H.out.symm, rfl⟩
  have D := Lib.hid (fun w => implDrawOk d w)
  rw [hd] at D
  have hdb := draw_of hd
  obtain ⟨hd1, hd2⟩ := hdb
  have T := Lib.hid (fun w => implTreeOkL g w)
  by_cases h3 : 0 ≤ g ∧ g ≤ 6
  · have HH : Hid (leafI d g = d % 2 ^ g.toNat) := Lib.hid (by unfold leafI; rw [if_pos ⟨hd, by omega, by omega⟩])
    rw [decide_eq_true h3.1, decide_eq_true h3.2, Bool.true_and] at T
    clear hd
    rcases (show g = 0 ∨ g = 1 ∨ g = 2 ∨ g = 3 ∨ g = 4 ∨ g = 5 ∨ g = 6 from by omega) with rfl | rfl | rfl | rfl | rfl | rfl | rfl
    all_goals
      clear h3
      go_enter Try.func24, Try.ntmps24
      go_wp2_with fail
      refine (D.out _).mono ?_
      rintro e w' ⟨rfl, rfl⟩
      go_wp2_with fail
      refine (T.out _).mono ?_
      rintro e w' ⟨rfl, rfl⟩
      go_wp2
      go_ret
      exact ⟨ret_int (by rw [HH.out]; simp <;> omega), rfl⟩
  · have H : Hid (leafI d g = -1) := Lib.hid (by unfold leafI; rw [if_neg (fun h => h3 h.2)])
    have hb : (decide (0 ≤ g) && decide (g ≤ 6)) = false := by simp; omega
    rw [hb] at T
    clear hd h3 hb
    go_enter Try.func24, Try.ntmps24
    go_wp2_with fail
    refine (D.out _).mono ?_
    rintro e w' ⟨rfl, rfl⟩
    go_wp2_with fail
    refine (T.out _).mono ?_
    rintro e w' ⟨rfl, rfl⟩
    go_wp2
    go_ret
    exact ⟨ret_int H.out.symm, rfl⟩
end Go.Proofs.Ytabldmhjkggmjaa
