/- TrS in one. Written by tools/join2.py. -/
import Derived.Test.YtmndkpicbmffnaaJN4
import Derived.Test.YtmndkpicbmffnaaJN16
import Derived.Test.YtmndkpicbmffnaaJN7
import Derived.Test.YtmndkpicbmffnaaJN17
import Derived.Deep.DeepMust
import Derived.Deep.LoopGhost
import Derived.Deep.QuietTactic
section
namespace Go.Proofs.Ytmndkpicbmffnaa
open Go.RowKit
set_option linter.unusedVariables false
set_option linter.unusedSimpArgs false
set_option maxRecDepth 100000

/-- A row of one that is laid as a literal. -/
theorem own_one {base : Nat} (w : World) (v : Value) (e : TypeId) (hb : base ≤ w.heap.size) : (w.alloc (.cells #[v] e)).ownsRow base e 1 (.slice (some ⟨w.heap.size, 0, none⟩) 1 1) 1 [v] :=
  ⟨rfl, .inr ⟨w.heap.size, 1, #[v], rfl, hb, heap_alloc_new w _, Nat.le_refl _, by unfold maxLen; omega, rfl, rfl⟩⟩
theorem IntSOwn.nil (lo hi : Nat) (w : World) : IntSOwn lo hi [.slice none 0 0] [] w := ⟨none, 0, rfl, ⟨rfl, .inl ⟨rfl, rfl⟩⟩, fun k hk => by simp [Value.ownBlock] at hk⟩
theorem pathZ_bd (z l : Int) : szIntS (pathZ z l) ≤ 1000000000000 := by
  unfold szIntS
  cases h : leafB z l
  · rw [pathZ_no h]; simp
  · obtain ⟨g, a, rfl, rfl, hg, ha⟩ := leafB_ok h
    rw [pathZ_length hg ha]; omega
theorem specLog (z : Int) (w : World) : Calls Try.prog 66 #[.int .i64 z] w fun e w' => e = .returned (.bool (logB z)) ∧ w = w' := by
  unfold logB
  by_cases h0 : 0 ≤ z
  · by_cases h1 : z ≤ 6
    · go_enter Try.func66, Try.ntmps66
      go_wp2
      go_ret
      exact ⟨ret_bool (by simp [h0, h1]), rfl⟩
    · go_enter Try.func66, Try.ntmps66
      go_wp2
      go_ret
      exact ⟨ret_bool (by simp [h0, h1]), rfl⟩
  · go_enter Try.func66, Try.ntmps66
    go_wp2
    go_ret
    exact ⟨ret_bool (by simp; omega), rfl⟩
theorem specLeaf (z l : Int) (w : World) : Calls Try.prog 54 #[.int .i64 z, .int .i64 l] w fun e w' => e = .returned (.bool (leafB z l)) ∧ w = w' := by
  have LG := Lib.hid (fun w => specLog z w)
  cases hz : logB z
  · have E := Lib.hid (show leafB z l = false by unfold leafB; rw [hz]; rfl)
    rw [hz] at LG
    clear hz
    go_enter Try.func54, Try.ntmps54
    go_wp2_with fail
    refine (LG.out _).mono ?_
    rintro e w1 ⟨rfl, rfl⟩
    go_wp2
    go_ret
    exact ⟨ret_bool E.out.symm, rfl⟩
  · obtain ⟨g, rfl, hg⟩ := logB_ok hz
    rw [hz] at LG
    have PW := Lib.hid (fun w => specPow16 g w (by omega))
    by_cases h0 : 0 ≤ l
    · have E := Lib.hid (show leafB g l = decide (l < ((2 ^ g : Nat) : Int)) by unfold leafB; rw [hz, decide_eq_true h0]; simp)
      clear hz
      obtain ⟨p, hp⟩ : ∃ p, 2 ^ g = p := ⟨_, rfl⟩
      rw [hp] at PW E
      clear hp
      go_enter Try.func54, Try.ntmps54
      go_wp2_with fail
      refine (LG.out _).mono ?_
      rintro e w1 ⟨rfl, rfl⟩
      go_wp2_with fail
      refine (PW.out _).mono ?_
      rintro e w1 ⟨rfl, rfl⟩
      go_wp2
      go_ret
      exact ⟨ret_bool E.out.symm, rfl⟩
    · have E := Lib.hid (show leafB g l = false by unfold leafB; rw [decide_eq_false h0]; simp)
      clear hz
      go_enter Try.func54, Try.ntmps54
      go_wp2_with fail
      refine (LG.out _).mono ?_
      rintro e w1 ⟨rfl, rfl⟩
      go_wp2
      go_ret
      exact ⟨ret_bool E.out.symm, rfl⟩
end Go.Proofs.Ytmndkpicbmffnaa
end
