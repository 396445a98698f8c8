/- What 'EditCost' answers in the model of the document. -/
import Derived.Test.YtcjcklpmlfoloaaEdC
namespace Go.Proofs.Ytcjcklpmlfoloaa
open Go.RowKit
set_option linter.unusedVariables false

theorem cs_del {E A B es : List UInt8} {x : UInt8} {c i j : Nat} (h : costL E A B = (costL (x :: es) (A.drop i) (B.drop j)).map (· + c)) (hx : x.toNat = 100) (hi : i < A.length) : costL E A B = (costL es (A.drop (i + 1)) (B.drop j)).map (· + (c + 1)) := by
  have hp : passL x.toNat (A.drop i) (B.drop j) = (1, 0, true) := by rw [hx, List.drop_eq_getElem_cons hi]; rfl
  have := cost_go h (by rw [hp])
  rw [hp, hx] at this
  simpa [List.drop_drop, priceL] using this
theorem cs_ins {E A B es : List UInt8} {x : UInt8} {c i j : Nat} (h : costL E A B = (costL (x :: es) (A.drop i) (B.drop j)).map (· + c)) (hx : x.toNat = 105) (hj : j < B.length) : costL E A B = (costL es (A.drop i) (B.drop (j + 1))).map (· + (c + 1)) := by
  have hp : passL x.toNat (A.drop i) (B.drop j) = (0, 1, true) := by rw [hx, List.drop_eq_getElem_cons hj]; rfl
  have := cost_go h (by rw [hp])
  rw [hp, hx] at this
  simpa [List.drop_drop, priceL] using this
theorem cs_keep {E A B es : List UInt8} {x : UInt8} {c i j : Nat} (h : costL E A B = (costL (x :: es) (A.drop i) (B.drop j)).map (· + c)) (hx : x.toNat = 107) (hi : i < A.length) (hj : j < B.length) (hq : (A[i] == B[j]) = true) : costL E A B = (costL es (A.drop (i + 1)) (B.drop (j + 1))).map (· + c) := by
  have hp : passL x.toNat (A.drop i) (B.drop j) = (1, 1, true) := by rw [hx, List.drop_eq_getElem_cons hi, List.drop_eq_getElem_cons hj]; unfold passL; simp at hq ⊢; exact hq
  have := cost_go h (by rw [hp])
  rw [hp, hx] at this
  simpa [List.drop_drop, priceL] using this
theorem cs_sub {E A B es : List UInt8} {x : UInt8} {c i j : Nat} (h : costL E A B = (costL (x :: es) (A.drop i) (B.drop j)).map (· + c)) (hx : x.toNat = 115) (hi : i < A.length) (hj : j < B.length) (hq : (A[i] == B[j]) = false) : costL E A B = (costL es (A.drop (i + 1)) (B.drop (j + 1))).map (· + (c + 1)) := by
  have hp : passL x.toNat (A.drop i) (B.drop j) = (1, 1, true) := by rw [hx, List.drop_eq_getElem_cons hi, List.drop_eq_getElem_cons hj]; unfold passL; simp at hq ⊢; exact hq
  have := cost_go h (by rw [hp])
  rw [hp, hx] at this
  simpa [List.drop_drop, priceL] using this
/-- An edit that is not possible. -/
theorem cs_none {E A B es : List UInt8} {x : UInt8} {c i j : Nat} (h : costL E A B = (costL (x :: es) (A.drop i) (B.drop j)).map (· + c))
    (hn : (x.toNat = 100 ∧ A.length ≤ i) ∨ (x.toNat = 105 ∧ B.length ≤ j) ∨ ((x.toNat = 107 ∨ x.toNat = 115) ∧ (A.length ≤ i ∨ B.length ≤ j)) ∨ (x.toNat = 107 ∧ ∃ (hi : i < A.length) (hj : j < B.length), (A[i] == B[j]) = false) ∨
      (x.toNat = 115 ∧ ∃ (hi : i < A.length) (hj : j < B.length), (A[i] == B[j]) = true) ∨ (x.toNat ≠ 100 ∧ x.toNat ≠ 105 ∧ x.toNat ≠ 107 ∧ x.toNat ≠ 115)) : costL E A B = none := by
  refine cost_no h ?_
  rcases hn with ⟨hx, hi⟩ | ⟨hx, hj⟩ | ⟨hx, hi | hj⟩ | ⟨hx, hi, hj, hq⟩ | ⟨hx, hi, hj, hq⟩ | ⟨h1, h2, h3, h4⟩
  · rw [hx, List.drop_of_length_le hi]; rfl
  · rw [hx, List.drop_of_length_le hj]; rfl
  · rw [List.drop_of_length_le hi]; rcases hx with hx | hx <;> (rw [hx]; rfl)
  · rw [List.drop_of_length_le hj]; rcases hx with hx | hx <;> (rw [hx]; unfold passL; cases A.drop i <;> rfl)
  · rw [hx, List.drop_eq_getElem_cons hi, List.drop_eq_getElem_cons hj]; exact hq
  · rw [hx, List.drop_eq_getElem_cons hi, List.drop_eq_getElem_cons hj]; unfold passL; simp at hq ⊢; exact hq
  · unfold passL; rw [if_neg h1, if_neg h2, if_neg h3, if_neg h4]
set_option maxRecDepth 100000 in
set_option maxHeartbeats 4000000 in
theorem specEditCost (e a b : ByteArray) (w : World) (he : e.size ≤ maxLen) (ha : a.size ≤ maxLen) (hb : b.size ≤ maxLen) :
    Calls Try.prog 18 #[.string e, .string a, .string b] w fun r w' => r = .returned (.int .i64 (costZ e.data.toList a.data.toList b.data.toList)) ∧ ∃ n, w' = w.drewN n := by
  have CE := fun w => Lib.hid (specLong a b w ha hb)
  unfold maxLen at he ha hb
  have LE := Lib.hid (len_data e)
  have LA := Lib.hid (len_data a)
  have LB := Lib.hid (len_data b)
  cases hk : (decide (a.size ≤ 32) && decide (b.size ≤ 32))
  · have HZ : Hid (costZ e.data.toList a.data.toList b.data.toList = -1) := Lib.hid (costZ_far (by rw [LE.out, LA.out, LB.out]; simp at hk; omega))
    rw [hk] at CE
    go_enter Try.func18, Try.ntmps18
    go_wp2_with fail
    refine (CE _).out.mono ?_
    rintro r w' ⟨rfl, rfl⟩
    go_wp2
    go_ret
    exact ⟨ret_int HZ.out.symm, 0, rfl⟩
  rw [hk] at CE
  simp only [Bool.and_eq_true, decide_eq_true_eq] at hk
  obtain ⟨ha32, hb32⟩ := hk
  by_cases he64 : 64 < e.size
  · have HZ : Hid (costZ e.data.toList a.data.toList b.data.toList = -1) := Lib.hid (costZ_far (by rw [LE.out]; omega))
    go_enter Try.func18, Try.ntmps18
    go_wp2_with fail
    refine (CE _).out.mono ?_
    rintro r w' ⟨rfl, rfl⟩
    go_wp2
    go_ret
    exact ⟨ret_int HZ.out.symm, 0, rfl⟩
  have Z0 := Lib.hid (@costZ_none e.data.toList a.data.toList b.data.toList)
  have Z1 := Lib.hid (fun c => @costZ_some e.data.toList a.data.toList b.data.toList c (by rw [LA.out]; exact ha32) (by rw [LB.out]; exact hb32) (by rw [LE.out]; omega))
  go_enter Try.func18, Try.ntmps18
  go_wp2_with fail
  refine (CE _).out.mono ?_
  rintro r w' ⟨rfl, rfl⟩
  clear CE
  go_wp2
  go_loopw [7, 8, 9, 10] (fun iv jv cv kv wr => ∃ (k c i j n : Nat), k ≤ e.size ∧ c ≤ k ∧ i ≤ a.size ∧ j ≤ b.size ∧ iv = .int .i64 i ∧ jv = .int .i64 j ∧ cv = .int .i64 c ∧ kv = .int .i64 k ∧ wr = w.drewN n ∧
    Hid (costL e.data.toList a.data.toList b.data.toList = (costL (e.data.toList.drop k) (a.data.toList.drop i) (b.data.toList.drop j)).map (· + c))) (fun _ _ _ kv _ => e.size - (intOf kv).toNat)
  case atStart => exact ⟨0, 0, 0, 0, 0, Nat.zero_le _, Nat.le_refl _, Nat.zero_le _, Nat.zero_le _, rfl, rfl, rfl, rfl, rfl, Lib.hid (by simp)⟩
  case round =>
    obtain ⟨k, c, i, j, n, hk, hc, hi, hj, rfl, rfl, rfl, rfl, rfl, H⟩ := hrel
    by_cases hlt : k < e.size
    · have H2 := Lib.hid (show costL e.data.toList a.data.toList b.data.toList = (costL (e[k] :: e.data.toList.drop (k + 1)) (a.data.toList.drop i) (b.data.toList.drop j)).map (· + c) by rw [← drop_byte e k hlt]; exact H.out)
      have hx : e[k].toNat < 256 := e[k].toNat_lt
      by_cases c1 : e[k].toNat = 100
      · have x100 : ((e[k].toNat : Int) == 100) = true := by simp; omega
        have x105 : ((e[k].toNat : Int) == 105) = false := by simp; omega
        have x107 : ((e[k].toNat : Int) == 107) = false := by simp; omega
        have y107 : ((e[k].toNat : Int) != 107) = true := by unfold bne; rw [x107]; rfl
        have x115 : ((e[k].toNat : Int) == 115) = false := by simp; omega
        by_cases hi' : i < a.size
        · have HG := Lib.hid (cs_del H2.out c1 (by rw [LA.out]; exact hi'))
          have hn : ((i : Int) == (a.size : Int)) = false := by simp; omega
          clear H H2 c1
          go_wp2
          go_quiet (fail)
          go_wp2
          go_roundw
          case rel => exact ⟨k + 1, c + 1, i + 1, j, _, by omega, by omega, by omega, by omega, by go_num, by go_num, by go_num, by go_num, rfl, HG⟩
          case measure => simp [intOf]; omega
        · obtain rfl : i = a.size := by omega
          have HZ := Lib.hid (Z0.out (cs_none H2.out (.inl ⟨c1, by rw [LA.out]; omega⟩)))
          clear H H2
          clear c1
          go_wp2
          go_ret
          exact ⟨ret_int HZ.out.symm, _, rfl⟩
      by_cases c2 : e[k].toNat = 105
      · have x100 : ((e[k].toNat : Int) == 100) = false := by simp; omega
        have x105 : ((e[k].toNat : Int) == 105) = true := by simp; omega
        have x107 : ((e[k].toNat : Int) == 107) = false := by simp; omega
        have y107 : ((e[k].toNat : Int) != 107) = true := by unfold bne; rw [x107]; rfl
        have x115 : ((e[k].toNat : Int) == 115) = false := by simp; omega
        by_cases hj' : j < b.size
        · have HG := Lib.hid (cs_ins H2.out c2 (by rw [LB.out]; exact hj'))
          have hn : ((j : Int) == (b.size : Int)) = false := by simp; omega
          clear H H2 c1 c2
          go_wp2
          go_quiet (fail)
          go_wp2
          go_roundw
          case rel => exact ⟨k + 1, c + 1, i, j + 1, _, by omega, by omega, by omega, by omega, by go_num, by go_num, by go_num, by go_num, rfl, HG⟩
          case measure => simp [intOf]; omega
        · obtain rfl : j = b.size := by omega
          have HZ := Lib.hid (Z0.out (cs_none H2.out (.inr (.inl ⟨c2, by rw [LB.out]; omega⟩))))
          clear H H2
          clear c1 c2
          go_wp2
          go_ret
          exact ⟨ret_int HZ.out.symm, _, rfl⟩
      by_cases c3 : e[k].toNat = 107
      · have x100 : ((e[k].toNat : Int) == 100) = false := by simp; omega
        have x105 : ((e[k].toNat : Int) == 105) = false := by simp; omega
        have x107 : ((e[k].toNat : Int) == 107) = true := by simp; omega
        have y107 : ((e[k].toNat : Int) != 107) = false := by unfold bne; rw [x107]; rfl
        have x115 : ((e[k].toNat : Int) == 115) = false := by simp; omega
        by_cases hi' : i < a.size
        · have hn : ((i : Int) == (a.size : Int)) = false := by simp; omega
          by_cases hj' : j < b.size
          · have hm : ((j : Int) == (b.size : Int)) = false := by simp; omega
            have BB := byte_beq a[i] b[j]
            cases hq : (a[i] == b[j])
            · rw [hq] at BB
              have LI : i < a.data.toList.length := by rw [LA.out]; exact hi'
              have LJ : j < b.data.toList.length := by rw [LB.out]; exact hj'
              have q1 : (a.data.toList[i] == b.data.toList[j]) = false := hq
              have HZ := Lib.hid (Z0.out (cs_none H2.out (.inr (.inr (.inr (.inl ⟨c3, LI, LJ, q1⟩))))))
              clear H H2
              clear c1 c2 c3 q1 hq LI LJ
              go_wp2
              go_quiet (fail)
              go_wp2
              go_ret
              exact ⟨ret_int HZ.out.symm, _, World.drewN_drewN _ _ _⟩
            · rw [hq] at BB
              have LI : i < a.data.toList.length := by rw [LA.out]; exact hi'
              have LJ : j < b.data.toList.length := by rw [LB.out]; exact hj'
              have q1 : (a.data.toList[i] == b.data.toList[j]) = true := hq
              have HG := Lib.hid (cs_keep H2.out c3 LI LJ q1)
              clear H H2 c1 c2 c3 q1 hq LI LJ
              go_wp2
              go_quiet (fail)
              go_wp2
              go_roundw
              case rel => exact ⟨k + 1, c, i + 1, j + 1, _, by omega, by omega, by omega, by omega, by go_num, by go_num, by go_num, by go_num, rfl, HG⟩
              case measure => simp [intOf]; omega
          · obtain rfl : j = b.size := by omega
            have HZ := Lib.hid (Z0.out (cs_none H2.out (.inr (.inr (.inl ⟨.inl c3, .inr (by rw [LB.out]; omega)⟩)))))
            clear H H2
            clear c1 c2 c3
            go_wp2
            go_ret
            exact ⟨ret_int HZ.out.symm, _, rfl⟩
        · obtain rfl : i = a.size := by omega
          have HZ := Lib.hid (Z0.out (cs_none H2.out (.inr (.inr (.inl ⟨.inl c3, .inl (by rw [LA.out]; omega)⟩)))))
          clear H H2
          clear c1 c2 c3
          go_wp2
          go_ret
          exact ⟨ret_int HZ.out.symm, _, rfl⟩
      by_cases c4 : e[k].toNat = 115
      · have x100 : ((e[k].toNat : Int) == 100) = false := by simp; omega
        have x105 : ((e[k].toNat : Int) == 105) = false := by simp; omega
        have x107 : ((e[k].toNat : Int) == 107) = false := by simp; omega
        have y107 : ((e[k].toNat : Int) != 107) = true := by unfold bne; rw [x107]; rfl
        have x115 : ((e[k].toNat : Int) == 115) = true := by simp; omega
        by_cases hi' : i < a.size
        · have hn : ((i : Int) == (a.size : Int)) = false := by simp; omega
          by_cases hj' : j < b.size
          · have hm : ((j : Int) == (b.size : Int)) = false := by simp; omega
            have BB := byte_beq a[i] b[j]
            cases hq : (a[i] == b[j])
            · rw [hq] at BB
              have LI : i < a.data.toList.length := by rw [LA.out]; exact hi'
              have LJ : j < b.data.toList.length := by rw [LB.out]; exact hj'
              have q1 : (a.data.toList[i] == b.data.toList[j]) = false := hq
              have HG := Lib.hid (cs_sub H2.out c4 LI LJ q1)
              clear H H2 c1 c2 c3 c4 q1 hq LI LJ
              go_wp2
              go_quiet (fail)
              go_wp2
              go_roundw
              case rel => exact ⟨k + 1, c + 1, i + 1, j + 1, _, by omega, by omega, by omega, by omega, by go_num, by go_num, by go_num, by go_num, rfl, HG⟩
              case measure => simp [intOf]; omega
            · rw [hq] at BB
              have LI : i < a.data.toList.length := by rw [LA.out]; exact hi'
              have LJ : j < b.data.toList.length := by rw [LB.out]; exact hj'
              have q1 : (a.data.toList[i] == b.data.toList[j]) = true := hq
              have HZ := Lib.hid (Z0.out (cs_none H2.out (.inr (.inr (.inr (.inr (.inl ⟨c4, LI, LJ, q1⟩)))))))
              clear H H2
              clear c1 c2 c3 c4 q1 hq LI LJ
              go_wp2
              go_quiet (fail)
              go_wp2
              go_ret
              exact ⟨ret_int HZ.out.symm, _, World.drewN_drewN _ _ _⟩
          · obtain rfl : j = b.size := by omega
            have HZ := Lib.hid (Z0.out (cs_none H2.out (.inr (.inr (.inl ⟨.inr c4, .inr (by rw [LB.out]; omega)⟩)))))
            clear H H2
            clear c1 c2 c3 c4
            go_wp2
            go_ret
            exact ⟨ret_int HZ.out.symm, _, rfl⟩
        · obtain rfl : i = a.size := by omega
          have HZ := Lib.hid (Z0.out (cs_none H2.out (.inr (.inr (.inl ⟨.inr c4, .inl (by rw [LA.out]; omega)⟩)))))
          clear H H2
          clear c1 c2 c3 c4
          go_wp2
          go_ret
          exact ⟨ret_int HZ.out.symm, _, rfl⟩
      have x100 : ((e[k].toNat : Int) == 100) = false := by simp; omega
      have x105 : ((e[k].toNat : Int) == 105) = false := by simp; omega
      have x107 : ((e[k].toNat : Int) == 107) = false := by simp; omega
      have y107 : ((e[k].toNat : Int) != 107) = true := by unfold bne; rw [x107]; rfl
      have x115 : ((e[k].toNat : Int) == 115) = false := by simp; omega
      have HZ := Lib.hid (Z0.out (cs_none H2.out (.inr (.inr (.inr (.inr (.inr ⟨c1, c2, c3, c4⟩)))))))
      clear H H2
      clear c1 c2 c3 c4
      go_wp2
      go_ret
      exact ⟨ret_int HZ.out.symm, _, rfl⟩
    · have hk' : k = e.size := by omega
      subst hk'
      have H2 := Lib.hid (cost_done (show costL e.data.toList a.data.toList b.data.toList = (costL [] (a.data.toList.drop i) (b.data.toList.drop j)).map (· + c) by rw [← drop_past e e.size (Nat.le_refl _)]; exact H.out))
      by_cases hi' : i < a.size
      · have HZ := Lib.hid (Z0.out (by rw [H2.out, drop_byte a i hi']; rfl))
        clear H H2
        go_wp2
        go_ret
        exact ⟨ret_int HZ.out.symm, _, rfl⟩
      · by_cases hj' : j < b.size
        · have HZ := Lib.hid (Z0.out (by rw [H2.out, drop_byte b j hj', drop_past a i (by omega)]; rfl))
          clear H H2
          go_wp2
          go_ret
          exact ⟨ret_int HZ.out.symm, _, rfl⟩
        · have HZ := Lib.hid (Z1.out c (by rw [H2.out, drop_past b j (by omega), drop_past a i (by omega)]; rfl))
          clear H H2
          go_wp2
          go_ret
          exact ⟨ret_int HZ.out.symm, _, rfl⟩
end Go.Proofs.Ytcjcklpmlfoloaa
