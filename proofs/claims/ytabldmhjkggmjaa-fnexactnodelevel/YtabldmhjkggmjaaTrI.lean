/- Chapter 11 in the program. -/
import Derived.Test.YtabldmhjkggmjaaTrH
import Derived.Test.YtabldmhjkggmjaaArr
import Derived.WalkMore
namespace Go.Proofs.Ytabldmhjkggmjaa
open Go.RowKit
set_option linter.unusedVariables false
set_option linter.unusedSimpArgs false
set_option maxRecDepth 100000

theorem arr_row {w : World} {b n base : Nat} {F : Nat → Int} (h : ArrAt w b 3 n F) (hb : base ≤ b) (hn : n ≤ maxLen) : w.ownsRow base 3 1 (.slice (some ⟨b, 0, none⟩) n n) n (((List.range n).map F).map ival) := by
  refine ⟨by simp, .inr ⟨b, n, _, rfl, hb, h, Nat.le_refl _, hn, by simp [cellsA], ?_⟩⟩
  simp [cellsA, ival, List.take_of_length_le]
theorem row_arr {w : World} {base n g : Nat} (h : w.ownsRow base 3 1 (.slice (some ⟨g, 0, none⟩) n n) n (List.replicate n (.int .i64 0))) : ArrAt w g 3 n (fun _ => 0) := by
  rcases h.2 with ⟨hv, _⟩ | ⟨g', cap', cur, hv, hbg, hg, h1', h2, h3, h4⟩
  · simp at hv
  simp at hv
  obtain ⟨rfl, rfl⟩ := hv
  have hcur : cur.toList = List.replicate n (.int .i64 0) := by rw [← h4, List.take_of_length_le (by simp [h3])]
  unfold ArrAt
  rw [hg]
  congr 2
  apply Array.ext'
  rw [hcur]
  unfold cellsA
  apply List.ext_getElem <;> simp
/-- A node is on the path of a leaf if it is the path's node at its level. -/
theorem onN_level {g m a : Nat} (hg : g ≤ 6) (h1 : 1 ≤ m) (h2 : m < 2 ^ (g + 1)) (ha : a < 2 ^ g) : onN g m a = decide (nd g a (lvN m) = m) := by
  obtain ⟨_, _, _, hl⟩ := cover hg h1 h2
  cases e : onN g m a
  · symm
    rw [decide_eq_false_iff_not]
    intro h
    have : onN g m a = true := by
      unfold onN
      rw [List.any_eq_true]
      exact ⟨lvN m, List.mem_range.2 (by omega), by rw [h]; exact Nat.beq_refl m⟩
    rw [e] at this
    cases this
  · symm
    rw [decide_eq_true_iff]
    unfold onN at e
    rw [List.any_eq_true] at e
    obtain ⟨i, hi, hb⟩ := e
    have hi := List.mem_range.1 hi
    have hn := Nat.eq_of_beq_eq_true hb
    have := (meet_at hg ha ha (show i ≤ g by omega)).2.2.1
    rw [hn] at this
    rw [this, hn]
theorem onZ_none {z n l : Int} (h : nodeB z n = false) : onZ z n l = false := by
  cases e : leafB z l
  · exact onZ_no e
  · obtain ⟨g, a, rfl, rfl, hg, ha⟩ := leafB_ok e
    unfold onZ
    rw [List.any_eq_false]
    intro m hm
    rw [pathZ_at hg ha, List.mem_map] at hm
    obtain ⟨k, hk, rfl⟩ := hm
    unfold pthN at hk
    rw [List.mem_map] at hk
    obtain ⟨i, hi, rfl⟩ := hk
    have hi := List.mem_range.1 hi
    obtain ⟨h1, h2⟩ := nd_node ha (show i ≤ g by omega)
    intro hq
    have hq := of_decide_eq_true hq
    rw [← hq, nodeB_at hg h1 h2] at h
    cases h
theorem loN_form {g m : Nat} (hm : 1 ≤ m) (hl : lvN m ≤ g) : (m : Int) * (2 ^ (g - lvN m) : Nat) - (2 ^ g : Nat) = loN g m := by
  have h1 : 2 ^ lvN m ≤ m := Nat.log2_self_le (by omega)
  have h2 : 2 ^ lvN m * 2 ^ (g - lvN m) = 2 ^ g := by rw [← Nat.pow_add]; congr 1; omega
  unfold loN
  rw [Nat.sub_mul, h2]
  have h3 : 2 ^ g ≤ m * 2 ^ (g - lvN m) := by rw [← h2]; exact Nat.mul_le_mul_right _ h1
  rw [← Int.natCast_mul]
  omega
theorem beq_cast (x m : Nat) : ((x : Int) == (m : Int)) = decide (x = m) := by
  by_cases h : x = m
  · subst h; simp
  · rw [decide_eq_false h]; simp; omega
theorem implTreeOk (z : Int) (w : World) : Calls Try.prog 47 #[.int .i64 z] w fun e w' => e = .returned (.bool (logB z)) ∧ w = w' := by
  unfold logB
  by_cases h0 : 0 ≤ z
  · by_cases h1 : z ≤ 6
    · go_enter Try.func47, Try.ntmps47
      go_wp2
      go_ret
      exact ⟨ret_bool (by simp [h0, h1]), rfl⟩
    · go_enter Try.func47, Try.ntmps47
      go_wp2
      go_ret
      exact ⟨ret_bool (by simp [h0, h1]), rfl⟩
  · have h00 : decide (0 ≤ z) = false := by simpa using h0
    go_enter Try.func47, Try.ntmps47
    go_wp2
    go_ret
    exact ⟨ret_bool (by simp [h0]), rfl⟩
theorem implLeafCount (g : Nat) (w : World) (hg : g ≤ 6) : Calls Try.prog 43 #[.int .i64 g] w fun e w' => e = .returned (.int .i64 (2 ^ g : Nat)) ∧ w = w' := by
  rcases (show g = 0 ∨ g = 1 ∨ g = 2 ∨ g = 3 ∨ g = 4 ∨ g = 5 ∨ g = 6 from by omega) with rfl | rfl | rfl | rfl | rfl | rfl | rfl
  all_goals
    clear hg
    go_enter Try.func43, Try.ntmps43
    go_wp2
    go_ret
    exact ⟨rfl, rfl⟩
theorem implLeafNode (g a : Nat) (w : World) (hg : g ≤ 6) (ha : a < 2 ^ g) : Calls Try.prog 37 #[.int .i64 g, .int .i64 a] w fun e w' => e = .returned (.int .i64 (2 ^ g + a : Nat)) ∧ w = w' := by
  have LC := Lib.hid (fun w => implLeafCount g w hg)
  have hp64 := pow_64 hg
  obtain ⟨p, hp⟩ : ∃ p, 2 ^ g = p := ⟨_, rfl⟩
  rw [hp] at LC hp64 ha ⊢
  clear hp
  go_enter Try.func37, Try.ntmps37
  go_wp2_with fail
  refine (LC.out _).mono ?_
  rintro e w1 ⟨rfl, rfl⟩
  go_wp2
  go_ret
  exact ⟨ret_int (by omega), rfl⟩
theorem implParentOf (n : Nat) (w : World) (h : n ≤ 127) : Calls Try.prog 38 #[.int .i64 n] w fun e w' => e = .returned (.int .i64 (n / 2 : Nat)) ∧ w = w' := by
  go_enter Try.func38, Try.ntmps38
  go_wp2
  go_ret
  exact ⟨ret_int (by omega), rfl⟩
set_option maxHeartbeats 400000 in
theorem implPathNode (g a k : Nat) (w : World) (hg : g ≤ 6) (ha : a < 2 ^ g) (hk : k ≤ g) : Calls Try.prog 41 #[.int .i64 g, .int .i64 a, .int .i64 k] w fun e w' => e = .returned (.int .i64 (nd g a k : Nat)) ∧ w = w' := by
  have LN := Lib.hid (fun w => implLeafNode g a w hg ha)
  have hp64 := pow_64 hg
  unfold nd
  obtain ⟨d, hd⟩ : ∃ d, g - k = d := ⟨_, rfl⟩
  obtain ⟨p, hp⟩ : ∃ p, 2 ^ g + a = p := ⟨_, rfl⟩
  have hp1 : p ≤ 128 := by omega
  have hd6 : d ≤ 6 := by omega
  rw [hp] at LN ⊢
  rw [hd]
  clear hp ha hp64
  have hgk : (g : Int) - (k : Int) = (d : Int) := by omega
  clear hd
  rcases (show d = 0 ∨ d = 1 ∨ d = 2 ∨ d = 3 ∨ d = 4 ∨ d = 5 ∨ d = 6 from by omega) with rfl | rfl | rfl | rfl | rfl | rfl | rfl
  all_goals
    go_enter Try.func41, Try.ntmps41
    go_wp2_with fail
    refine (LN.out _).mono ?_
    rintro e w1 ⟨rfl, rfl⟩
    clear LN
    go_wp2
    go_ret
    exact ⟨ret_int (by omega), rfl⟩
set_option maxHeartbeats 1000000 in
theorem implLevelOf (m : Nat) (w : World) (hm1 : 1 ≤ m) (hm2 : m ≤ 127) : Calls Try.prog 39 #[.int .i64 m] w fun e w' => e = .returned (.int .i64 (lvN m : Nat)) ∧ w = w' := by
  have LS := Lib.hid (fun k => level_step (k := k) hm1 hm2)
  have HN := Lib.hid (fun k => halve_next m k)
  have PO := Lib.hid (fun n w => implParentOf n w)
  have HP := Lib.hid (show ∀ k, k ≤ lvN m → 1 ≤ m / 2 ^ k from fun k hk => by
    rw [Nat.le_div_iff_mul_le (Nat.two_pow_pos k), Nat.one_mul]
    exact Nat.le_trans (Nat.pow_le_pow_right (show 0 < 2 by omega) hk) (Nat.log2_self_le (by omega)))
  have LE := lvN_le m (by omega)
  obtain ⟨v, hv⟩ : ∃ v, lvN m = v := ⟨_, rfl⟩
  rw [hv] at LS LE HP ⊢
  clear hv
  go_enter Try.func39, Try.ntmps39
  go_wp2
  go_step3
  go_wp2
  go_step3
  go_wp2
  go_loopg [0, 3] v (fun kk nv lv wr => ∃ k : Nat, k ≤ v ∧ v - k = kk ∧ nv = .int .i64 (m / 2 ^ k : Nat) ∧ lv = .int .i64 k ∧ wr = w)
  case atStart => exact ⟨0, Nat.zero_le _, rfl, by simp, rfl, rfl⟩
  case round =>
    obtain ⟨k, hk, hkk, rfl, rfl, rfl⟩ := hrel
    have ST := LS.out k hk
    have NX := Lib.hid (HN.out k)
    have hq : m / 2 ^ k ≤ 127 := Nat.le_trans (Nat.div_le_self _ _) hm2
    have hq1 := HP.out k hk
    obtain ⟨q, hqq⟩ : ∃ q, m / 2 ^ k = q := ⟨_, rfl⟩
    rw [hqq] at hq hq1 ST NX ⊢
    clear hqq
    by_cases hlt : k < v
    · have h1 : ((q : Int) == 1) = false := by have := ST.2 hlt; simp; omega
      have hq2 : ¬ (q : Int) = 1 := by simpa using h1
      have P := Lib.hid (fun w => PO.out q w hq)
      clear ST
      go_wp2_with fail
      refine (P.out _).mono ?_
      rintro e w1 ⟨rfl, rfl⟩
      clear P
      go_wp2
      go_roundg (v - (k + 1))
      case measure => omega
      case rel => exact ⟨k + 1, by omega, rfl, by rw [← NX.out]; go_num, by go_num, rfl⟩
    · have h1 : q = 1 := by
        have : ¬ 1 < q := fun h => hlt (ST.1 h)
        omega
      have hkv : k = v := by omega
      subst h1
      clear ST
      go_wp2
      try rw [Exit.noGoto_ret]
      go_ret
      exact ⟨ret_int (by rw [hkv]), rfl⟩
theorem iTreeNodes (z : Int) (w : World) : Calls Try.prog 22 #[.int .i64 z] w fun e w' => e = .returned (.int .i64 (treeNodesZ z)) ∧ w = w' := by
  have TO := Lib.hid (fun w => implTreeOk z w)
  cases hz : logB z
  · have E := Lib.hid (treeNodesZ_no hz)
    rw [hz] at TO
    clear hz
    go_enter Try.func22, Try.ntmps22
    go_wp2_with fail
    refine (TO.out _).mono ?_
    rintro e w1 ⟨rfl, rfl⟩
    go_wp2
    go_ret
    exact ⟨ret_int E.out.symm, rfl⟩
  · obtain ⟨g, rfl, hg⟩ := logB_ok hz
    rw [hz] at TO
    have PW := Lib.hid (fun w => implLeafCount g w hg)
    have E := Lib.hid (treeNodesZ_at hg)
    rw [Nat.pow_succ] at E
    have hp64 := pow_64 hg
    clear hz
    obtain ⟨p, hp⟩ : ∃ p, 2 ^ g = p := ⟨_, rfl⟩
    rw [hp] at PW E hp64
    clear hp
    go_enter Try.func22, Try.ntmps22
    go_wp2_with fail
    refine (TO.out _).mono ?_
    rintro e w1 ⟨rfl, rfl⟩
    go_wp2_with fail
    refine (PW.out _).mono ?_
    rintro e w1 ⟨rfl, rfl⟩
    go_wp2
    go_ret
    exact ⟨ret_int (by rw [E.out]; omega), rfl⟩
theorem uImplTreeNodes (z : Int) (w : World) (b0 : -9223372036854775808 ≤ z ∧ z ≤ 9223372036854775807) : Calls Try.prog 22 #[.int .i64 z] w fun e w' => e = .returned (.int .i64 (treeNodesZ z)) ∧ Below w.heap.size w w' := (iTreeNodes z w).mono fun e w' h => ⟨h.1, by rw [← h.2]; exact Below.refl _ _⟩
theorem implLeafOk (z l : Int) (w : World) : Calls Try.prog 36 #[.int .i64 z, .int .i64 l] w fun e w' => e = .returned (.bool (leafB z l)) ∧ w = w' := by
  have LG := Lib.hid (fun w => implTreeOk z w)
  cases hz : logB z
  · have E := Lib.hid (show leafB z l = false by unfold leafB; rw [hz]; rfl)
    rw [hz] at LG
    clear hz
    go_enter Try.func36, Try.ntmps36
    go_wp2_with fail
    refine (LG.out _).mono ?_
    rintro e w1 ⟨rfl, rfl⟩
    go_wp2
    go_ret
    exact ⟨ret_bool E.out.symm, rfl⟩
  · obtain ⟨g, rfl, hg⟩ := logB_ok hz
    rw [hz] at LG
    have PW := Lib.hid (fun w => implLeafCount g w hg)
    by_cases h0 : 0 ≤ l
    · have E := Lib.hid (show leafB g l = decide (l < ((2 ^ g : Nat) : Int)) by unfold leafB; rw [hz, decide_eq_true h0]; simp)
      have h00 : decide (0 ≤ l) = true := by simpa using h0
      clear hz
      obtain ⟨p, hp⟩ : ∃ p, 2 ^ g = p := ⟨_, rfl⟩
      rw [hp] at PW E
      clear hp
      go_enter Try.func36, Try.ntmps36
      go_wp2_with fail
      refine (LG.out _).mono ?_
      rintro e w1 ⟨rfl, rfl⟩
      go_wp2_with fail
      refine (PW.out _).mono ?_
      rintro e w1 ⟨rfl, rfl⟩
      go_wp2
      go_ret
      exact ⟨ret_bool E.out.symm, rfl⟩
    · have E := Lib.hid (show leafB g l = false by unfold leafB; rw [decide_eq_false h0]; simp)
      have h00 : decide (0 ≤ l) = false := by simpa using h0
      clear hz
      go_enter Try.func36, Try.ntmps36
      go_wp2_with fail
      refine (LG.out _).mono ?_
      rintro e w1 ⟨rfl, rfl⟩
      go_wp2
      go_ret
      exact ⟨ret_bool E.out.symm, rfl⟩
theorem implNodeOk (z n : Int) (w : World) : Calls Try.prog 42 #[.int .i64 z, .int .i64 n] w fun e w' => e = .returned (.bool (nodeB z n)) ∧ w = w' := by
  have TN := Lib.hid (fun w => iTreeNodes z w)
  by_cases h0 : 1 ≤ n
  · have h00 : decide (1 ≤ n) = true := by simpa using h0
    have E := Lib.hid (show nodeB z n = decide (n ≤ treeNodesZ z) by unfold nodeB; rw [h00]; rfl)
    obtain ⟨t, ht⟩ : ∃ t, treeNodesZ z = t := ⟨_, rfl⟩
    rw [ht] at TN E
    clear ht
    go_enter Try.func42, Try.ntmps42
    go_wp2_with fail
    refine (TN.out _).mono ?_
    rintro e w1 ⟨rfl, rfl⟩
    go_wp2
    go_ret
    exact ⟨ret_bool E.out.symm, rfl⟩
  · have h00 : decide (1 ≤ n) = false := by simpa using h0
    have E := Lib.hid (show nodeB z n = false by unfold nodeB; rw [h00]; rfl)
    go_enter Try.func42, Try.ntmps42
    go_wp2
    go_ret
    exact ⟨ret_bool E.out.symm, rfl⟩
theorem uImplNodeLevel (n : Int) (w : World) (b0 : -9223372036854775808 ≤ n ∧ n ≤ 9223372036854775807) : Calls Try.prog 19 #[.int .i64 n] w fun e w' => e = .returned (.int .i64 (levelZ n)) ∧ Below w.heap.size w w' := by
  have NO := Lib.hid (fun w => implNodeOk 6 n w)
  cases hn : nodeB 6 n
  · have E := Lib.hid (levelZ_no (n := n) (by
      have ht : treeNodesZ 6 = 127 := by rw [show (6 : Int) = ((6 : Nat) : Int) from rfl, treeNodesZ_at (Nat.le_refl 6)]; rfl
      intro h
      unfold nodeB at hn
      rw [ht, decide_eq_true h.1, decide_eq_true h.2] at hn
      cases hn))
    rw [hn] at NO
    clear hn
    go_enter Try.func19, Try.ntmps19
    go_wp2_with fail
    refine (NO.out _).mono ?_
    rintro e w1 ⟨rfl, rfl⟩
    go_wp2
    go_ret
    exact ⟨ret_int E.out.symm, Below.refl _ _⟩
  · obtain ⟨g, m, hg0, rfl, hg, hm1, hm2⟩ := nodeB_ok hn
    have hg6 : g = 6 := by omega
    subst hg6
    have hm3 : m ≤ 127 := by have : m < 128 := hm2; omega
    have E := Lib.hid (levelZ_at hm1 hm3)
    have LV := Lib.hid (fun w => implLevelOf m w hm1 hm3)
    rw [hn] at NO
    clear hn hm2 hg0
    obtain ⟨v, hv⟩ : ∃ v, lvN m = v := ⟨_, rfl⟩
    rw [hv] at LV E
    clear hv
    go_enter Try.func19, Try.ntmps19
    go_wp2_with fail
    refine (NO.out _).mono ?_
    rintro e w1 ⟨rfl, rfl⟩
    go_wp2_with fail
    refine (LV.out _).mono ?_
    rintro e w1 ⟨rfl, rfl⟩
    go_wp2
    go_ret
    exact ⟨ret_int E.out.symm, Below.refl _ _⟩
set_option maxHeartbeats 1000000 in
theorem uImplNodeLeaves (z n : Int) (w : World) (b0 : -9223372036854775808 ≤ z ∧ z ≤ 9223372036854775807) (b1 : -9223372036854775808 ≤ n ∧ n ≤ 9223372036854775807) : Calls Try.prog 17 #[.int .i64 z, .int .i64 n] w fun e w' => e = .returned (.tuple #[.int .i64 (lowZ z n), .int .i64 (highZ z n)]) ∧ Below w.heap.size w w' := by
  have NO := Lib.hid (fun w => implNodeOk z n w)
  cases hn : nodeB z n
  · have E1 := Lib.hid (lowZ_no hn)
    have E2 := Lib.hid (highZ_no hn)
    rw [hn] at NO
    clear hn
    go_enter Try.func17, Try.ntmps17
    go_wp2_with fail
    refine (NO.out _).mono ?_
    rintro e w1 ⟨rfl, rfl⟩
    go_wp2
    exact bodyPost_ret (v := .tuple #[.int .i64 (-1), .int .i64 (-1)]) (by simp [results, Try.results17, go_sem]) rfl ⟨by rw [E1.out, E2.out], Below.refl _ _⟩
  · obtain ⟨g, m, rfl, rfl, hg, hm1, hm2⟩ := nodeB_ok hn
    obtain ⟨_, _, c3, c4⟩ := cover hg hm1 hm2
    have hm3 : m ≤ 127 := by have := Nat.pow_le_pow_right (show 0 < 2 by omega) (show g + 1 ≤ 7 by omega); omega
    have LV := Lib.hid (fun w => implLevelOf m w hm1 hm3)
    have F1 := Lib.hid (loN_form hm1 c4)
    have E1 := Lib.hid (lowZ_at hg hm1 hm2)
    have E2 := Lib.hid (highZ_at hg hm1 hm2)
    have PG := Lib.hid (fun w => implLeafCount g w hg)
    have PD := Lib.hid (fun w => implLeafCount (g - lvN m) w (by omega))
    have hp1 := pow_64 hg
    have hp2 := pow_64 (show g - lvN m ≤ 6 by omega)
    rw [hn] at NO
    clear hn hm2
    have hi0 : loN g m ≤ 128 * 128 := by
      have h1 := F1.out
      have h2 : m * 2 ^ (g - lvN m) ≤ 128 * 128 := Nat.mul_le_mul (by omega) (by omega)
      rw [← Int.natCast_mul] at h1
      omega
    obtain ⟨v, hv⟩ : ∃ v, lvN m = v := ⟨_, rfl⟩
    rw [hv] at LV F1 PD hp2 c3 c4
    obtain ⟨p, hp⟩ : ∃ p, 2 ^ g = p := ⟨_, rfl⟩
    rw [hp] at PG F1 hp1
    obtain ⟨q, hq⟩ : ∃ q, 2 ^ (g - v) = q := ⟨_, rfl⟩
    rw [hq] at PD F1 hp2 c3
    have PE := Lib.hid (show ∀ w, Calls Try.prog 43 #[.int .i64 ((g : Int) - (v : Int))] w fun e w' => e = .returned (.int .i64 (q : Nat)) ∧ w = w' from fun w => by rw [show (g : Int) - (v : Int) = ((g - v : Nat) : Int) from by omega]; exact PD.out w)
    obtain ⟨lo, hlo⟩ : ∃ lo, loN g m = lo := ⟨_, rfl⟩
    obtain ⟨hi, hhi⟩ : ∃ hi, hiN g m = hi := ⟨_, rfl⟩
    rw [hlo] at F1 E1 hi0 c3
    rw [hhi] at E2 c3
    obtain ⟨mq, hmq⟩ : ∃ mq, (m : Int) * (q : Int) = mq := ⟨_, rfl⟩
    have F2 := F1.out
    rw [hmq] at F2
    clear hv hp hq hlo hhi PD F1
    have hv6 : v ≤ 6 := by omega
    go_enter Try.func17, Try.ntmps17
    go_wp2_with fail
    refine (NO.out _).mono ?_
    rintro e w1 ⟨rfl, rfl⟩
    go_wp2_with fail
    refine (LV.out _).mono ?_
    rintro e w1 ⟨rfl, rfl⟩
    go_wp2_with fail
    refine (PE.out _).mono ?_
    rintro e w1 ⟨rfl, rfl⟩
    go_wp2_with fail
    refine (PG.out _).mono ?_
    rintro e w1 ⟨rfl, rfl⟩
    go_wp2
    exact bodyPost_ret (v := .tuple #[.int .i64 lo, .int .i64 hi]) (by simp [results, Try.results17, go_sem]; omega) rfl ⟨by rw [E1.out, E2.out], Below.refl _ _⟩
set_option maxHeartbeats 1000000 in
theorem uImplOnPath (z n l : Int) (w : World) (b0 : -9223372036854775808 ≤ z ∧ z ≤ 9223372036854775807) (b1 : -9223372036854775808 ≤ n ∧ n ≤ 9223372036854775807) (b2 : -9223372036854775808 ≤ l ∧ l ≤ 9223372036854775807) : Calls Try.prog 18 #[.int .i64 z, .int .i64 n, .int .i64 l] w fun e w' => e = .returned (.bool (onZ z n l)) ∧ Below w.heap.size w w' := by
  have NO := Lib.hid (fun w => implNodeOk z n w)
  have LO := Lib.hid (fun w => implLeafOk z l w)
  cases hn : nodeB z n
  · have E := Lib.hid (onZ_none (l := l) hn)
    rw [hn] at NO
    clear hn
    go_enter Try.func18, Try.ntmps18
    go_wp2_with fail
    refine (NO.out _).mono ?_
    rintro e w1 ⟨rfl, rfl⟩
    go_wp2
    go_ret
    exact ⟨ret_bool E.out.symm, Below.refl _ _⟩
  cases hl : leafB z l
  · have E := Lib.hid (onZ_no (n := n) hl)
    rw [hn] at NO
    rw [hl] at LO
    clear hn hl
    go_enter Try.func18, Try.ntmps18
    go_wp2_with fail
    refine (NO.out _).mono ?_
    rintro e w1 ⟨rfl, rfl⟩
    go_wp2_with fail
    refine (LO.out _).mono ?_
    rintro e w1 ⟨rfl, rfl⟩
    go_wp2
    go_ret
    exact ⟨ret_bool E.out.symm, Below.refl _ _⟩
  obtain ⟨g, m, rfl, rfl, hg, hm1, hm2⟩ := nodeB_ok hn
  obtain ⟨g', a, hgg, rfl, _, ha⟩ := leafB_ok hl
  have hgg : g' = g := by omega
  subst hgg
  obtain ⟨_, _, _, c4⟩ := cover hg hm1 hm2
  have hm3 : m ≤ 127 := by have := Nat.pow_le_pow_right (show 0 < 2 by omega) (show g' + 1 ≤ 7 by omega); omega
  have LV := Lib.hid (fun w => implLevelOf m w hm1 hm3)
  have PN := Lib.hid (fun w => implPathNode g' a (lvN m) w hg ha c4)
  have E := Lib.hid (show onZ g' m a = decide (nd g' a (lvN m) = m) by rw [onZ_at hg ha, onN_level hg hm1 hm2 ha])
  rw [hn] at NO
  rw [hl] at LO
  clear hn hl hm2 ha
  obtain ⟨v, hv⟩ : ∃ v, lvN m = v := ⟨_, rfl⟩
  rw [hv] at LV PN E
  obtain ⟨x, hx⟩ : ∃ x, nd g' a v = x := ⟨_, rfl⟩
  rw [hx] at PN E
  clear hv hx c4
  go_enter Try.func18, Try.ntmps18
  go_wp2_with fail
  refine (NO.out _).mono ?_
  rintro e w1 ⟨rfl, rfl⟩
  go_wp2_with fail
  refine (LO.out _).mono ?_
  rintro e w1 ⟨rfl, rfl⟩
  go_wp2_with fail
  refine (LV.out _).mono ?_
  rintro e w1 ⟨rfl, rfl⟩
  go_wp2_with fail
  refine (PN.out _).mono ?_
  rintro e w1 ⟨rfl, rfl⟩
  go_wp2
  go_ret
  exact ⟨ret_bool (by rw [E.out]; exact beq_cast x m), Below.refl _ _⟩
set_option maxHeartbeats 1000000 in
theorem uImplMeet (z a b : Int) (w : World) (b0 : -9223372036854775808 ≤ z ∧ z ≤ 9223372036854775807) (b1 : -9223372036854775808 ≤ a ∧ a ≤ 9223372036854775807) (b2 : -9223372036854775808 ≤ b ∧ b ≤ 9223372036854775807) : Calls Try.prog 14 #[.int .i64 z, .int .i64 a, .int .i64 b] w fun e w' => e = .returned (.int .i64 (meetZ z a b)) ∧ Below w.heap.size w w' := by
  have FA := Lib.hid (fun w' => implLeafOk z a w')
  have FB := Lib.hid (fun w' => implLeafOk z b w')
  cases ha : leafB z a
  · have E := Lib.hid (meetZ_no (b := b) (.inl ha))
    rw [ha] at FA
    clear ha
    go_enter Try.func14, Try.ntmps14
    go_wp2_with fail
    refine (FA.out _).mono ?_
    rintro e w1 ⟨rfl, rfl⟩
    go_wp2
    go_ret
    exact ⟨ret_int E.out.symm, Below.refl _ _⟩
  cases hb : leafB z b
  · have E := Lib.hid (meetZ_no (a := a) (.inr hb))
    rw [ha] at FA
    rw [hb] at FB
    clear ha hb
    go_enter Try.func14, Try.ntmps14
    go_wp2_with fail
    refine (FA.out _).mono ?_
    rintro e w1 ⟨rfl, rfl⟩
    go_wp2_with fail
    refine (FB.out _).mono ?_
    rintro e w1 ⟨rfl, rfl⟩
    go_wp2
    go_ret
    exact ⟨ret_int E.out.symm, Below.refl _ _⟩
  rw [ha] at FA
  rw [hb] at FB
  obtain ⟨g, x, rfl, rfl, hg, hx⟩ := leafB_ok ha
  obtain ⟨g', y, e1, rfl, _, hy⟩ := leafB_ok hb
  have e2 : g = g' := by omega
  subst e2
  have E := Lib.hid (meetZ_at hg hx hy)
  have LA := Lib.hid (fun w => implLeafNode g x w hg hx)
  have LB := Lib.hid (fun w => implLeafNode g y w hg hy)
  have PO := Lib.hid (fun n w => implParentOf n w)
  have hM := (meet_sym hg hx hy).2.2
  have EQ := Lib.hid (show ∀ k, k ≤ g → decide ((2 ^ g + x) / 2 ^ k = (2 ^ g + y) / 2 ^ k) = decide (g - k ≤ mtN g x y (g + 1)) from fun k hk => by
    have := (meet_at hg hx hy (show g - k ≤ g by omega)).2.1
    unfold nd at this
    rwa [show g - (g - k) = k from by omega] at this)
  have LV := Lib.hid (show ∀ w, Calls Try.prog 39 #[.int .i64 ((2 ^ g + x) / 2 ^ (g - mtN g x y (g + 1)) : Nat)] w fun e w' => e = .returned (.int .i64 (mtN g x y (g + 1) : Nat)) ∧ w = w' from fun w => by
    have h1 := nd_node hx hM
    have h2 := (meet_at hg hx hy hM).2.2.1
    have h3 := Nat.pow_le_pow_right (show 0 < 2 by omega) (show g + 1 ≤ 7 by omega)
    have := implLevelOf (nd g x (mtN g x y (g + 1))) w h1.1 (by omega)
    rw [h2] at this
    exact this)
  have hp64 := pow_64 hg
  obtain ⟨u, hu⟩ : ∃ u, 2 ^ g + x = u := ⟨_, rfl⟩
  obtain ⟨v, hv⟩ : ∃ v, 2 ^ g + y = v := ⟨_, rfl⟩
  have hu1 : u ≤ 127 := by omega
  have hv1 : v ≤ 127 := by omega
  rw [hu] at LA LV EQ
  rw [hv] at LB EQ
  obtain ⟨M, hMM⟩ : ∃ M, mtN g x y (g + 1) = M := ⟨_, rfl⟩
  rw [hMM] at E EQ LV hM
  have HN := Lib.hid (fun N k => halve_next N k)
  clear ha hb e1 hx hy hu hv hMM hp64
  go_enter Try.func14, Try.ntmps14
  go_wp2_with fail
  refine (FA.out _).mono ?_
  rintro e w1 ⟨rfl, rfl⟩
  go_wp2_with fail
  refine (FB.out _).mono ?_
  rintro e w1 ⟨rfl, rfl⟩
  go_wp2_with fail
  refine (LA.out _).mono ?_
  rintro e w1 ⟨rfl, rfl⟩
  go_wp2_with fail
  refine (LB.out _).mono ?_
  rintro e w1 ⟨rfl, rfl⟩
  clear FA FB LA LB
  go_wp2_with fail
  go_loopg [7, 8] (g - M) (fun kk xv yv wr => ∃ k : Nat, k ≤ g - M ∧ g - M - k = kk ∧ xv = .int .i64 (u / 2 ^ k : Nat) ∧ yv = .int .i64 (v / 2 ^ k : Nat) ∧ wr = w)
  case atStart => exact ⟨0, Nat.zero_le _, rfl, by simp, by simp, rfl⟩
  case round =>
    obtain ⟨k, hk, hkk, rfl, rfl, rfl⟩ := hrel
    have EK := EQ.out k (by omega)
    have N1 := Lib.hid (HN.out u k)
    have N2 := Lib.hid (HN.out v k)
    have hq1 : u / 2 ^ k ≤ 127 := Nat.le_trans (Nat.div_le_self _ _) hu1
    have hq2 : v / 2 ^ k ≤ 127 := Nat.le_trans (Nat.div_le_self _ _) hv1
    by_cases hlt : k < g - M
    · obtain ⟨q, hqq⟩ : ∃ q, u / 2 ^ k = q := ⟨_, rfl⟩
      obtain ⟨r, hrr⟩ : ∃ r, v / 2 ^ k = r := ⟨_, rfl⟩
      rw [hqq] at EK N1 hq1 ⊢
      rw [hrr] at EK N2 hq2 ⊢
      rw [decide_eq_false (show ¬ g - k ≤ M by omega)] at EK
      have hne : ((q : Int) == (r : Int)) = false := by rw [beq_cast]; exact EK
      have hne2 : ¬ (q : Int) = (r : Int) := by simpa using hne
      clear EK hqq hrr
      go_wp2_with fail
      refine (PO.out q _ hq1).mono ?_
      rintro e w1 ⟨rfl, rfl⟩
      go_wp2_with fail
      refine (PO.out r _ hq2).mono ?_
      rintro e w1 ⟨rfl, rfl⟩
      go_wp2
      go_roundg (g - M - (k + 1))
      case measure => omega
      case rel => exact ⟨k + 1, by omega, rfl, by rw [← N1.out]; go_num, by rw [← N2.out]; go_num, rfl⟩
    · have hkg : k = g - M := by omega
      rw [← hkg] at LV
      rw [decide_eq_true (show g - k ≤ M by omega)] at EK
      have EK := of_decide_eq_true EK
      rw [← EK]
      obtain ⟨q, hqq⟩ : ∃ q, u / 2 ^ k = q := ⟨_, rfl⟩
      rw [hqq] at LV ⊢
      clear EK hqq N1 N2 hq1 hq2 EQ hkk
      go_wp2_with fail
      refine (LV.out _).mono ?_
      rintro e w1 ⟨rfl, rfl⟩
      go_wp2
      go_ret
      exact ⟨ret_int (by rw [E.out]), Below.refl _ _⟩
def pathF (g a k : Nat) : Nat → Int := fun j => if j < k then (nd g a j : Int) else 0
theorem pathF_set (g a k : Nat) : upd (pathF g a k) k (nd g a k : Int) = pathF g a (k + 1) := by
  funext j
  unfold upd pathF
  by_cases e : j = k
  · subst e; simp
  · rw [if_neg e]
    by_cases h : j < k
    · rw [if_pos h, if_pos (by omega)]
    · rw [if_neg h, if_neg (by omega)]
theorem pathF_end {g a : Nat} (hg : g ≤ 6) (ha : a < 2 ^ g) : (List.range (g + 1)).map (pathF g a (g + 1)) = pathZ g a := by
  rw [pathZ_at hg ha]
  unfold pthN
  rw [List.map_map]
  refine List.map_congr_left fun k hk => ?_
  have := List.mem_range.1 hk
  unfold pathF
  rw [if_pos this]; rfl
set_option maxHeartbeats 1000000 in
theorem uImplPathNodes (z l : Int) (w : World) (b0 : -9223372036854775808 ≤ z ∧ z ≤ 9223372036854775807) (b1 : -9223372036854775808 ≤ l ∧ l ≤ 9223372036854775807) : Calls Try.prog 16 #[.int .i64 z, .int .i64 l] w (IntSRet (pathZ z l) w) := by
  have LF := Lib.hid (fun w => implLeafOk z l w)
  cases hz : leafB z l
  · have E := Lib.hid (pathZ_no hz)
    rw [hz] at LF
    clear hz
    go_enter Try.func16, Try.ntmps16
    go_wp2_with fail
    refine (LF.out _).mono ?_
    rintro e w1 ⟨rfl, rfl⟩
    go_wp2
    go_ret
    exact ⟨_, rfl, by rw [E.out]; exact IntSOwn.nil _ _ _, Below.refl _ _⟩
  · obtain ⟨g, a, rfl, rfl, hg, ha⟩ := leafB_ok hz
    rw [hz] at LF
    have E := Lib.hid (pathF_end hg ha)
    have PN := Lib.hid (fun k w hk => implPathNode g a k w hg ha hk)
    have PS := Lib.hid (pathF_set g a)
    have PB := Lib.hid (show ∀ k, nd g a k ≤ 127 from fun k => by
      have h3 := pow_64 hg
      unfold nd
      exact Nat.le_trans (Nat.div_le_self _ _) (by omega))
    clear hz ha b0 b1
    obtain ⟨i0, hi, hz0, hz1, hz2⟩ := info_parts Try.info3
    go_enter Try.func16, Try.ntmps16
    go_wp2_with fail
    refine (LF.out _).mono ?_
    rintro e w1 ⟨rfl, rfl⟩
    clear LF
    go_wp2_with (at_make; rw [show (g : Int) + 1 = ((g + 1 : Nat) : Int) from by omega]; refine wpList_make_full _ rfl _ _ 27 rfl w.heap.size 3 i0 (.int .i64 0) 1 Try.underlying27 hi hz0 hz1 .i64 .i64 _ _ (g + 1) rfl rfl rfl rfl (by rw [hz2]; omega) (by unfold maxLen; omega) (by simp) ?_)
    clear hi hz0 hz1 hz2
    intro w1 hown hgr
    rw [toList_madeCells_one] at hown
    have A0 : ArrAt w1 w.heap.size 3 (g + 1) (fun _ => 0) := by simpa using row_arr hown
    have H0 := Lib.hid (And.intro (show ArrAt w1 w.heap.size 3 (g + 1) (pathF g a 0) from A0.ext (fun j _ => by unfold pathF; rw [if_neg (by omega)])) (grown_below hgr))
    clear hown hgr A0
    go_wp2_with fail
    go_loopg [6, 16] (g + 1) (fun kk lv iv wr => ∃ k : Nat, k ≤ g + 1 ∧ g + 1 - k = kk ∧ iv = .int .i64 k ∧ Hid (ArrAt wr w.heap.size 3 (g + 1) (pathF g a k) ∧ Below w.heap.size w wr))
    case atStart => exact ⟨0, Nat.zero_le _, rfl, rfl, H0⟩
    case round =>
      clear H0
      obtain ⟨k, hk, hkk, rfl, H⟩ := hrel
      by_cases hlt : k < g + 1
      · have hc := H.out.1.cell (k := k) (by omega)
        have hf := H.out.1.free k
        have R := Lib.hid (And.intro (show ArrAt (wr.setCell ⟨w.heap.size, k, none⟩ (.int .i64 (nd g a k : Nat))) w.heap.size 3 (g + 1) (pathF g a (k + 1)) by rw [← PS.out k]; exact H.out.1.set k _) (below_write H.out.2 (set_grown wr w.heap.size k (.int .i64 (nd g a k : Nat))) (Nat.le_refl _)))
        have P := Lib.hid (fun w => PN.out k w (by omega))
        have pb := PB.out k
        obtain ⟨x, hx⟩ : ∃ x, nd g a k = x := ⟨_, rfl⟩
        rw [hx] at R P pb
        have h0 : pathF g a k k = 0 := by unfold pathF; rw [if_neg (by omega)]
        rw [h0] at hc
        clear H hx h0
        go_wp2_with fail
        refine (P.out _).mono ?_
        rintro e w2 ⟨rfl, rfl⟩
        clear P
        go_wp2
        go_roundg (g + 1 - (k + 1))
        case measure => omega
        case rel => exact ⟨k + 1, by omega, rfl, by go_num, R⟩
      · have hkg : k = g + 1 := by omega
        subst hkg
        have Z := Lib.hid (IntSOwn.mk (l := pathZ g a) (by have := arr_row H.out.1 (Nat.le_refl _) (by unfold maxLen; omega); rw [E.out] at this; exact this))
        have B := Lib.hid H.out.2
        clear H
        go_wp2
        go_ret
        exact ⟨_, rfl, Z.out, B.out⟩
theorem impl11 : Impl11 := ⟨uImplTreeNodes, uImplPathNodes, uImplOnPath, uImplNodeLevel, uImplNodeLeaves, uImplMeet⟩
end Go.Proofs.Ytabldmhjkggmjaa
