/- TrI in one. Written by tools/join2.py. -/
import Derived.Test.YtmndkpicbmffnaaJN40
import Derived.Test.YtmndkpicbmffnaaJN41
import Derived.WalkMore
section
namespace Go.Proofs.Ytmndkpicbmffnaa
open Go.RowKit
set_option linter.unusedVariables false
set_option linter.unusedSimpArgs false
set_option maxRecDepth 100000

theorem arr_row {w : World} {b n base : Nat} {F : Nat → Int} (h : ArrAt w b 3 n F) (hb : base ≤ b) (hn : n ≤ maxLen) : w.ownsRow base 3 1 (.slice (some ⟨b, 0, none⟩) n n) n (((List.range n).map F).map ival) := by
  refine ⟨by simp, .inr ⟨b, n, _, rfl, hb, h, Nat.le_refl _, hn, by simp [cellsA], ?_⟩⟩
  simp [cellsA, ival, List.take_of_length_le]
theorem row_arr {w : World} {base n g : Nat} (h : w.ownsRow base 3 1 (.slice (some ⟨g, 0, none⟩) n n) n (List.replicate n (.int .i64 0))) : ArrAt w g 3 n (fun _ => 0) := by
  rcases h.2 with ⟨hv, _⟩ | ⟨g', cap', cur, hv, hbg, hg, h1', h2, h3, h4⟩
  · simp at hv
  simp at hv
  obtain ⟨rfl, rfl⟩ := hv
  have hcur : cur.toList = List.replicate n (.int .i64 0) := by rw [← h4, List.take_of_length_le (by simp [h3])]
  unfold ArrAt
  rw [hg]
  congr 2
  apply Array.ext'
  rw [hcur]
  unfold cellsA
  apply List.ext_getElem <;> simp
/-- A node is on the path of a leaf if it is the path's node at its level. -/
theorem onN_level {g m a : Nat} (hg : g ≤ 6) (h1 : 1 ≤ m) (h2 : m < 2 ^ (g + 1)) (ha : a < 2 ^ g) : onN g m a = decide (nd g a (lvN m) = m) := by
  obtain ⟨_, _, _, hl⟩ := cover hg h1 h2
  cases e : onN g m a
  · symm
    rw [decide_eq_false_iff_not]
    intro h
    have : onN g m a = true := by
      unfold onN
      rw [List.any_eq_true]
      exact ⟨lvN m, List.mem_range.2 (by omega), by rw [h]; exact Nat.beq_refl m⟩
    rw [e] at this
    cases this
  · symm
    rw [decide_eq_true_iff]
    unfold onN at e
    rw [List.any_eq_true] at e
    obtain ⟨i, hi, hb⟩ := e
    have hi := List.mem_range.1 hi
    have hn := Nat.eq_of_beq_eq_true hb
    have := (meet_at hg ha ha (show i ≤ g by omega)).2.2.1
    rw [hn] at this
    rw [this, hn]
theorem onZ_none {z n l : Int} (h : nodeB z n = false) : onZ z n l = false := by
  cases e : leafB z l
  · exact onZ_no e
  · obtain ⟨g, a, rfl, rfl, hg, ha⟩ := leafB_ok e
    unfold onZ
    rw [List.any_eq_false]
    intro m hm
    rw [pathZ_at hg ha, List.mem_map] at hm
    obtain ⟨k, hk, rfl⟩ := hm
    unfold pthN at hk
    rw [List.mem_map] at hk
    obtain ⟨i, hi, rfl⟩ := hk
    have hi := List.mem_range.1 hi
    obtain ⟨h1, h2⟩ := nd_node ha (show i ≤ g by omega)
    intro hq
    have hq := of_decide_eq_true hq
    rw [← hq, nodeB_at hg h1 h2] at h
    cases h
theorem loN_form {g m : Nat} (hm : 1 ≤ m) (hl : lvN m ≤ g) : (m : Int) * (2 ^ (g - lvN m) : Nat) - (2 ^ g : Nat) = loN g m := by
  have h1 : 2 ^ lvN m ≤ m := Nat.log2_self_le (by omega)
  have h2 : 2 ^ lvN m * 2 ^ (g - lvN m) = 2 ^ g := by rw [← Nat.pow_add]; congr 1; omega
  unfold loN
  rw [Nat.sub_mul, h2]
  have h3 : 2 ^ g ≤ m * 2 ^ (g - lvN m) := by rw [← h2]; exact Nat.mul_le_mul_right _ h1
  rw [← Int.natCast_mul]
  omega
theorem beq_cast (x m : Nat) : ((x : Int) == (m : Int)) = decide (x = m) := by
  by_cases h : x = m
  · subst h; simp
  · rw [decide_eq_false h]; simp; omega
theorem implTreeOk (z : Int) (w : World) : Calls Try.prog 56 #[.int .i64 z] w fun e w' => e = .returned (.bool (logB z)) ∧ w = w' := by
  unfold logB
  by_cases h0 : 0 ≤ z
  · by_cases h1 : z ≤ 6
    · go_enter Try.func56, Try.ntmps56
      go_wp2
      go_ret
      exact ⟨ret_bool (by simp [h0, h1]), rfl⟩
    · go_enter Try.func56, Try.ntmps56
      go_wp2
      go_ret
      exact ⟨ret_bool (by simp [h0, h1]), rfl⟩
  · have h00 : decide (0 ≤ z) = false := by simpa using h0
    go_enter Try.func56, Try.ntmps56
    go_wp2
    go_ret
    exact ⟨ret_bool (by simp [h0]), rfl⟩
theorem implLeafCount (g : Nat) (w : World) (hg : g ≤ 6) : Calls Try.prog 68 #[.int .i64 g] w fun e w' => e = .returned (.int .i64 (2 ^ g : Nat)) ∧ w = w' := by
  rcases (show g = 0 ∨ g = 1 ∨ g = 2 ∨ g = 3 ∨ g = 4 ∨ g = 5 ∨ g = 6 from by omega) with rfl | rfl | rfl | rfl | rfl | rfl | rfl
  all_goals
    clear hg
    go_enter Try.func68, Try.ntmps68
    go_wp2
    go_ret
    exact ⟨rfl, rfl⟩
theorem implLeafOk (z l : Int) (w : World) : Calls Try.prog 55 #[.int .i64 z, .int .i64 l] w fun e w' => e = .returned (.bool (leafB z l)) ∧ w = w' := by
  have LG := Lib.hid (fun w => implTreeOk z w)
  cases hz : logB z
  · have E := Lib.hid (show leafB z l = false by unfold leafB; rw [hz]; rfl)
    rw [hz] at LG
    clear hz
    go_enter Try.func55, Try.ntmps55
    go_wp2_with fail
    refine (LG.out _).mono ?_
    rintro e w1 ⟨rfl, rfl⟩
    go_wp2
    go_ret
    exact ⟨ret_bool E.out.symm, rfl⟩
  · obtain ⟨g, rfl, hg⟩ := logB_ok hz
    rw [hz] at LG
    have PW := Lib.hid (fun w => implLeafCount g w hg)
    by_cases h0 : 0 ≤ l
    · have E := Lib.hid (show leafB g l = decide (l < ((2 ^ g : Nat) : Int)) by unfold leafB; rw [hz, decide_eq_true h0]; simp)
      have h00 : decide (0 ≤ l) = true := by simpa using h0
      clear hz
      obtain ⟨p, hp⟩ : ∃ p, 2 ^ g = p := ⟨_, rfl⟩
      rw [hp] at PW E
      clear hp
      go_enter Try.func55, Try.ntmps55
      go_wp2_with fail
      refine (LG.out _).mono ?_
      rintro e w1 ⟨rfl, rfl⟩
      go_wp2_with fail
      refine (PW.out _).mono ?_
      rintro e w1 ⟨rfl, rfl⟩
      go_wp2
      go_ret
      exact ⟨ret_bool E.out.symm, rfl⟩
    · have E := Lib.hid (show leafB g l = false by unfold leafB; rw [decide_eq_false h0]; simp)
      have h00 : decide (0 ≤ l) = false := by simpa using h0
      clear hz
      go_enter Try.func55, Try.ntmps55
      go_wp2_with fail
      refine (LG.out _).mono ?_
      rintro e w1 ⟨rfl, rfl⟩
      go_wp2
      go_ret
      exact ⟨ret_bool E.out.symm, rfl⟩
end Go.Proofs.Ytmndkpicbmffnaa
end
