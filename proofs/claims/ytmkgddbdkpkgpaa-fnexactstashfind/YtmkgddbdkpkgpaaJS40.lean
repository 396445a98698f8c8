/- TrI in one. Written by tools/join2.py. -/
import Derived.Test.YtmkgddbdkpkgpaaJS35
import Derived.Test.YtmkgddbdkpkgpaaJS39
import Derived.WalkMore
section
namespace Go.Proofs.Ytmkgddbdkpkgpaa
open Go.RowKit
set_option linter.unusedVariables false
set_option linter.unusedSimpArgs false
set_option maxRecDepth 100000

theorem arr_row {w : World} {b n base : Nat} {F : Nat → Int} (h : ArrAt w b 3 n F) (hb : base ≤ b) (hn : n ≤ maxLen) : w.ownsRow base 3 1 (.slice (some ⟨b, 0, none⟩) n n) n (((List.range n).map F).map ival) := by
  refine ⟨by simp, .inr ⟨b, n, _, rfl, hb, h, Nat.le_refl _, hn, by simp [cellsA], ?_⟩⟩
  simp [cellsA, ival, List.take_of_length_le]
theorem row_arr {w : World} {base n g : Nat} (h : w.ownsRow base 3 1 (.slice (some ⟨g, 0, none⟩) n n) n (List.replicate n (.int .i64 0))) : ArrAt w g 3 n (fun _ => 0) := by
  rcases h.2 with ⟨hv, _⟩ | ⟨g', cap', cur, hv, hbg, hg, h1', h2, h3, h4⟩
  · simp at hv
  simp at hv
  obtain ⟨rfl, rfl⟩ := hv
  have hcur : cur.toList = List.replicate n (.int .i64 0) := by rw [← h4, List.take_of_length_le (by simp [h3])]
  unfold ArrAt
  rw [hg]
  congr 2
  apply Array.ext'
  rw [hcur]
  unfold cellsA
  apply List.ext_getElem <;> simp
/-- A node is on the path of a leaf if it is the path's node at its level. -/
theorem onN_level {g m a : Nat} (hg : g ≤ 6) (h1 : 1 ≤ m) (h2 : m < 2 ^ (g + 1)) (ha : a < 2 ^ g) : onN g m a = decide (nd g a (lvN m) = m) := by
  obtain ⟨_, _, _, hl⟩ := cover hg h1 h2
  cases e : onN g m a
  · symm
    rw [decide_eq_false_iff_not]
    intro h
    have : onN g m a = true := by
      unfold onN
      rw [List.any_eq_true]
      exact ⟨lvN m, List.mem_range.2 (by omega), by rw [h]; exact Nat.beq_refl m⟩
    rw [e] at this
    cases this
  · symm
    rw [decide_eq_true_iff]
    unfold onN at e
    rw [List.any_eq_true] at e
    obtain ⟨i, hi, hb⟩ := e
    have hi := List.mem_range.1 hi
    have hn := Nat.eq_of_beq_eq_true hb
    have := (meet_at hg ha ha (show i ≤ g by omega)).2.2.1
    rw [hn] at this
    rw [this, hn]
theorem onZ_none {z n l : Int} (h : nodeB z n = false) : onZ z n l = false := by
  cases e : leafB z l
  · exact onZ_no e
  · obtain ⟨g, a, rfl, rfl, hg, ha⟩ := leafB_ok e
    unfold onZ
    rw [List.any_eq_false]
    intro m hm
    rw [pathZ_at hg ha, List.mem_map] at hm
    obtain ⟨k, hk, rfl⟩ := hm
    unfold pthN at hk
    rw [List.mem_map] at hk
    obtain ⟨i, hi, rfl⟩ := hk
    have hi := List.mem_range.1 hi
    obtain ⟨h1, h2⟩ := nd_node ha (show i ≤ g by omega)
    intro hq
    have hq := of_decide_eq_true hq
    rw [← hq, nodeB_at hg h1 h2] at h
    cases h
theorem loN_form {g m : Nat} (hm : 1 ≤ m) (hl : lvN m ≤ g) : (m : Int) * (2 ^ (g - lvN m) : Nat) - (2 ^ g : Nat) = loN g m := by
  have h1 : 2 ^ lvN m ≤ m := Nat.log2_self_le (by omega)
  have h2 : 2 ^ lvN m * 2 ^ (g - lvN m) = 2 ^ g := by rw [← Nat.pow_add]; congr 1; omega
  unfold loN
  rw [Nat.sub_mul, h2]
  have h3 : 2 ^ g ≤ m * 2 ^ (g - lvN m) := by rw [← h2]; exact Nat.mul_le_mul_right _ h1
  rw [← Int.natCast_mul]
  omega
theorem beq_cast (x m : Nat) : ((x : Int) == (m : Int)) = decide (x = m) := by
  by_cases h : x = m
  · subst h; simp
  · rw [decide_eq_false h]; simp; omega
theorem implTreeOk (z : Int) (w : World) : Calls Try.prog 78 #[.int .i64 z] w fun e w' => e = .returned (.bool (logB z)) ∧ w = w' := by
  unfold logB
  by_cases h0 : 0 ≤ z
  · by_cases h1 : z ≤ 6
    · go_enter Try.func78, Try.ntmps78
      go_wp2
      go_ret
      exact ⟨ret_bool (by simp [h0, h1]), rfl⟩
    · go_enter Try.func78, Try.ntmps78
      go_wp2
      go_ret
      exact ⟨ret_bool (by simp [h0, h1]), rfl⟩
  · have h00 : decide (0 ≤ z) = false := by simpa using h0
    go_enter Try.func78, Try.ntmps78
    go_wp2
    go_ret
    exact ⟨ret_bool (by simp [h0]), rfl⟩
theorem implLeafCount (g : Nat) (w : World) (hg : g ≤ 6) : Calls Try.prog 79 #[.int .i64 g] w fun e w' => e = .returned (.int .i64 (2 ^ g : Nat)) ∧ w = w' := by
  rcases (show g = 0 ∨ g = 1 ∨ g = 2 ∨ g = 3 ∨ g = 4 ∨ g = 5 ∨ g = 6 from by omega) with rfl | rfl | rfl | rfl | rfl | rfl | rfl
  all_goals
    clear hg
    go_enter Try.func79, Try.ntmps79
    go_wp2
    go_ret
    exact ⟨rfl, rfl⟩
theorem implLeafNode (g a : Nat) (w : World) (hg : g ≤ 6) (ha : a < 2 ^ g) : Calls Try.prog 84 #[.int .i64 g, .int .i64 a] w fun e w' => e = .returned (.int .i64 (2 ^ g + a : Nat)) ∧ w = w' := by
  have LC := Lib.hid (fun w => implLeafCount g w hg)
  have hp64 := pow_64 hg
  obtain ⟨p, hp⟩ : ∃ p, 2 ^ g = p := ⟨_, rfl⟩
  rw [hp] at LC hp64 ha ⊢
  clear hp
  go_enter Try.func84, Try.ntmps84
  go_wp2_with fail
  refine (LC.out _).mono ?_
  rintro e w1 ⟨rfl, rfl⟩
  go_wp2
  go_ret
  exact ⟨ret_int (by omega), rfl⟩
theorem implParentOf (n : Nat) (w : World) (h : n ≤ 127) : Calls Try.prog 85 #[.int .i64 n] w fun e w' => e = .returned (.int .i64 (n / 2 : Nat)) ∧ w = w' := by
  go_enter Try.func85, Try.ntmps85
  go_wp2
  go_ret
  exact ⟨ret_int (by omega), rfl⟩
set_option maxHeartbeats 1000000 in
theorem implLevelOf (m : Nat) (w : World) (hm1 : 1 ≤ m) (hm2 : m ≤ 127) : Calls Try.prog 86 #[.int .i64 m] w fun e w' => e = .returned (.int .i64 (lvN m : Nat)) ∧ w = w' := by
  have LS := Lib.hid (fun k => level_step (k := k) hm1 hm2)
  have HN := Lib.hid (fun k => halve_next m k)
  have PO := Lib.hid (fun n w => implParentOf n w)
  have HP := Lib.hid (show ∀ k, k ≤ lvN m → 1 ≤ m / 2 ^ k from fun k hk => by
    rw [Nat.le_div_iff_mul_le (Nat.two_pow_pos k), Nat.one_mul]
    exact Nat.le_trans (Nat.pow_le_pow_right (show 0 < 2 by omega) hk) (Nat.log2_self_le (by omega)))
  have LE := lvN_le m (by omega)
  obtain ⟨v, hv⟩ : ∃ v, lvN m = v := ⟨_, rfl⟩
  rw [hv] at LS LE HP ⊢
  clear hv
  go_enter Try.func86, Try.ntmps86
  go_wp2
  go_step3
  go_wp2
  go_step3
  go_wp2
  go_loopg [0, 3] v (fun kk nv lv wr => ∃ k : Nat, k ≤ v ∧ v - k = kk ∧ nv = .int .i64 (m / 2 ^ k : Nat) ∧ lv = .int .i64 k ∧ wr = w)
  case atStart => exact ⟨0, Nat.zero_le _, rfl, by simp, rfl, rfl⟩
  case round =>
    obtain ⟨k, hk, hkk, rfl, rfl, rfl⟩ := hrel
    have ST := LS.out k hk
    have NX := Lib.hid (HN.out k)
    have hq : m / 2 ^ k ≤ 127 := Nat.le_trans (Nat.div_le_self _ _) hm2
    have hq1 := HP.out k hk
    obtain ⟨q, hqq⟩ : ∃ q, m / 2 ^ k = q := ⟨_, rfl⟩
    rw [hqq] at hq hq1 ST NX ⊢
    clear hqq
    by_cases hlt : k < v
    · have h1 : ((q : Int) == 1) = false := by have := ST.2 hlt; simp; omega
      have hq2 : ¬ (q : Int) = 1 := by simpa using h1
      have P := Lib.hid (fun w => PO.out q w hq)
      clear ST
      go_wp2_with fail
      refine (P.out _).mono ?_
      rintro e w1 ⟨rfl, rfl⟩
      clear P
      go_wp2
      go_roundg (v - (k + 1))
      case measure => omega
      case rel => exact ⟨k + 1, by omega, rfl, by rw [← NX.out]; go_num, by go_num, rfl⟩
    · have h1 : q = 1 := by
        have : ¬ 1 < q := fun h => hlt (ST.1 h)
        omega
      have hkv : k = v := by omega
      subst h1
      clear ST
      go_wp2
      try rw [Exit.noGoto_ret]
      go_ret
      exact ⟨ret_int (by rw [hkv]), rfl⟩
theorem implLeafOk (z l : Int) (w : World) : Calls Try.prog 60 #[.int .i64 z, .int .i64 l] w fun e w' => e = .returned (.bool (leafB z l)) ∧ w = w' := by
  have LG := Lib.hid (fun w => implTreeOk z w)
  cases hz : logB z
  · have E := Lib.hid (show leafB z l = false by unfold leafB; rw [hz]; rfl)
    rw [hz] at LG
    clear hz
    go_enter Try.func60, Try.ntmps60
    go_wp2_with fail
    refine (LG.out _).mono ?_
    rintro e w1 ⟨rfl, rfl⟩
    go_wp2
    go_ret
    exact ⟨ret_bool E.out.symm, rfl⟩
  · obtain ⟨g, rfl, hg⟩ := logB_ok hz
    rw [hz] at LG
    have PW := Lib.hid (fun w => implLeafCount g w hg)
    by_cases h0 : 0 ≤ l
    · have E := Lib.hid (show leafB g l = decide (l < ((2 ^ g : Nat) : Int)) by unfold leafB; rw [hz, decide_eq_true h0]; simp)
      have h00 : decide (0 ≤ l) = true := by simpa using h0
      clear hz
      obtain ⟨p, hp⟩ : ∃ p, 2 ^ g = p := ⟨_, rfl⟩
      rw [hp] at PW E
      clear hp
      go_enter Try.func60, Try.ntmps60
      go_wp2_with fail
      refine (LG.out _).mono ?_
      rintro e w1 ⟨rfl, rfl⟩
      go_wp2_with fail
      refine (PW.out _).mono ?_
      rintro e w1 ⟨rfl, rfl⟩
      go_wp2
      go_ret
      exact ⟨ret_bool E.out.symm, rfl⟩
    · have E := Lib.hid (show leafB g l = false by unfold leafB; rw [decide_eq_false h0]; simp)
      have h00 : decide (0 ≤ l) = false := by simpa using h0
      clear hz
      go_enter Try.func60, Try.ntmps60
      go_wp2_with fail
      refine (LG.out _).mono ?_
      rintro e w1 ⟨rfl, rfl⟩
      go_wp2
      go_ret
      exact ⟨ret_bool E.out.symm, rfl⟩
set_option maxHeartbeats 1000000 in
theorem uImplMeet (z a b : Int) (w : World) (b0 : -9223372036854775808 ≤ z ∧ z ≤ 9223372036854775807) (b1 : -9223372036854775808 ≤ a ∧ a ≤ 9223372036854775807) (b2 : -9223372036854775808 ≤ b ∧ b ≤ 9223372036854775807) : Calls Try.prog 80 #[.int .i64 z, .int .i64 a, .int .i64 b] w fun e w' => e = .returned (.int .i64 (meetZ z a b)) ∧ Below w.heap.size w w' := by
  have FA := Lib.hid (fun w' => implLeafOk z a w')
  have FB := Lib.hid (fun w' => implLeafOk z b w')
  cases ha : leafB z a
  · have E := Lib.hid (meetZ_no (b := b) (.inl ha))
    rw [ha] at FA
    clear ha
    go_enter Try.func80, Try.ntmps80
    go_wp2_with fail
    refine (FA.out _).mono ?_
    rintro e w1 ⟨rfl, rfl⟩
    go_wp2
    go_ret
    exact ⟨ret_int E.out.symm, Below.refl _ _⟩
  cases hb : leafB z b
  · have E := Lib.hid (meetZ_no (a := a) (.inr hb))
    rw [ha] at FA
    rw [hb] at FB
    clear ha hb
    go_enter Try.func80, Try.ntmps80
    go_wp2_with fail
    refine (FA.out _).mono ?_
    rintro e w1 ⟨rfl, rfl⟩
    go_wp2_with fail
    refine (FB.out _).mono ?_
    rintro e w1 ⟨rfl, rfl⟩
    go_wp2
    go_ret
    exact ⟨ret_int E.out.symm, Below.refl _ _⟩
  rw [ha] at FA
  rw [hb] at FB
  obtain ⟨g, x, rfl, rfl, hg, hx⟩ := leafB_ok ha
  obtain ⟨g', y, e1, rfl, _, hy⟩ := leafB_ok hb
  have e2 : g = g' := by omega
  subst e2
  have E := Lib.hid (meetZ_at hg hx hy)
  have LA := Lib.hid (fun w => implLeafNode g x w hg hx)
  have LB := Lib.hid (fun w => implLeafNode g y w hg hy)
  have PO := Lib.hid (fun n w => implParentOf n w)
  have hM := (meet_sym hg hx hy).2.2
  have EQ := Lib.hid (show ∀ k, k ≤ g → decide ((2 ^ g + x) / 2 ^ k = (2 ^ g + y) / 2 ^ k) = decide (g - k ≤ mtN g x y (g + 1)) from fun k hk => by
    have := (meet_at hg hx hy (show g - k ≤ g by omega)).2.1
    unfold nd at this
    rwa [show g - (g - k) = k from by omega] at this)
  have LV := Lib.hid (show ∀ w, Calls Try.prog 86 #[.int .i64 ((2 ^ g + x) / 2 ^ (g - mtN g x y (g + 1)) : Nat)] w fun e w' => e = .returned (.int .i64 (mtN g x y (g + 1) : Nat)) ∧ w = w' from fun w => by
    have h1 := nd_node hx hM
    have h2 := (meet_at hg hx hy hM).2.2.1
    have h3 := Nat.pow_le_pow_right (show 0 < 2 by omega) (show g + 1 ≤ 7 by omega)
    have := implLevelOf (nd g x (mtN g x y (g + 1))) w h1.1 (by omega)
    rw [h2] at this
    exact this)
  have hp64 := pow_64 hg
  obtain ⟨u, hu⟩ : ∃ u, 2 ^ g + x = u := ⟨_, rfl⟩
  obtain ⟨v, hv⟩ : ∃ v, 2 ^ g + y = v := ⟨_, rfl⟩
  have hu1 : u ≤ 127 := by omega
  have hv1 : v ≤ 127 := by omega
  rw [hu] at LA LV EQ
  rw [hv] at LB EQ
  obtain ⟨M, hMM⟩ : ∃ M, mtN g x y (g + 1) = M := ⟨_, rfl⟩
  rw [hMM] at E EQ LV hM
  have HN := Lib.hid (fun N k => halve_next N k)
  clear ha hb e1 hx hy hu hv hMM hp64
  go_enter Try.func80, Try.ntmps80
  go_wp2_with fail
  refine (FA.out _).mono ?_
  rintro e w1 ⟨rfl, rfl⟩
  go_wp2_with fail
  refine (FB.out _).mono ?_
  rintro e w1 ⟨rfl, rfl⟩
  go_wp2_with fail
  refine (LA.out _).mono ?_
  rintro e w1 ⟨rfl, rfl⟩
  go_wp2_with fail
  refine (LB.out _).mono ?_
  rintro e w1 ⟨rfl, rfl⟩
  clear FA FB LA LB
  go_wp2_with fail
  go_loopg [7, 8] (g - M) (fun kk xv yv wr => ∃ k : Nat, k ≤ g - M ∧ g - M - k = kk ∧ xv = .int .i64 (u / 2 ^ k : Nat) ∧ yv = .int .i64 (v / 2 ^ k : Nat) ∧ wr = w)
  case atStart => exact ⟨0, Nat.zero_le _, rfl, by simp, by simp, rfl⟩
  case round =>
    obtain ⟨k, hk, hkk, rfl, rfl, rfl⟩ := hrel
    have EK := EQ.out k (by omega)
    have N1 := Lib.hid (HN.out u k)
    have N2 := Lib.hid (HN.out v k)
    have hq1 : u / 2 ^ k ≤ 127 := Nat.le_trans (Nat.div_le_self _ _) hu1
    have hq2 : v / 2 ^ k ≤ 127 := Nat.le_trans (Nat.div_le_self _ _) hv1
    by_cases hlt : k < g - M
    · obtain ⟨q, hqq⟩ : ∃ q, u / 2 ^ k = q := ⟨_, rfl⟩
      obtain ⟨r, hrr⟩ : ∃ r, v / 2 ^ k = r := ⟨_, rfl⟩
      rw [hqq] at EK N1 hq1 ⊢
      rw [hrr] at EK N2 hq2 ⊢
      rw [decide_eq_false (show ¬ g - k ≤ M by omega)] at EK
      have hne : ((q : Int) == (r : Int)) = false := by rw [beq_cast]; exact EK
      have hne2 : ¬ (q : Int) = (r : Int) := by simpa using hne
      clear EK hqq hrr
      go_wp2_with fail
      refine (PO.out q _ hq1).mono ?_
      rintro e w1 ⟨rfl, rfl⟩
      go_wp2_with fail
      refine (PO.out r _ hq2).mono ?_
      rintro e w1 ⟨rfl, rfl⟩
      go_wp2
      go_roundg (g - M - (k + 1))
      case measure => omega
      case rel => exact ⟨k + 1, by omega, rfl, by rw [← N1.out]; go_num, by rw [← N2.out]; go_num, rfl⟩
    · have hkg : k = g - M := by omega
      rw [← hkg] at LV
      rw [decide_eq_true (show g - k ≤ M by omega)] at EK
      have EK := of_decide_eq_true EK
      rw [← EK]
      obtain ⟨q, hqq⟩ : ∃ q, u / 2 ^ k = q := ⟨_, rfl⟩
      rw [hqq] at LV ⊢
      clear EK hqq N1 N2 hq1 hq2 EQ hkk
      go_wp2_with fail
      refine (LV.out _).mono ?_
      rintro e w1 ⟨rfl, rfl⟩
      go_wp2
      go_ret
      exact ⟨ret_int (by rw [E.out]), Below.refl _ _⟩
end Go.Proofs.Ytmkgddbdkpkgpaa
end
