/- What 'EditCost' answers, in the model of the document and in the program: the cost of the edits, one by one. -/
import Derived.Test.YtcjcklpmlfoloaaBase
import Derived.Test.YtcjcklpmlfoloaaPlain1
import Derived.Test.YtcjcklpmlfoloaaEdP
import Derived.Test.YtcjcklpmlfoloaaVals
import Derived.Deep.QuietTactic
import Derived.BigQuiet
namespace Go.Proofs.Ytcjcklpmlfoloaa
open Go.RowKit
set_option linter.unusedVariables false

set_option maxHeartbeats 400000 in
theorem implEditsOk (a b : ByteArray) (w : World) (ha : a.size ≤ maxLen) (hb : b.size ≤ maxLen) :
    Calls Try.prog 30 #[.string a, .string b] w fun e w' => e = .returned (.bool (decide (a.size ≤ 32) && decide (b.size ≤ 32))) ∧ w = w' := by
  unfold maxLen at ha hb
  by_cases h1 : a.size ≤ 32
  · by_cases h2 : b.size ≤ 32
    · have H : Hid ((decide (a.size ≤ 32) && decide (b.size ≤ 32)) = true) := Lib.hid (by simp [h1, h2])
      go_enter Try.func30, Try.ntmps30
      go_wp2
      go_ret
      exact ⟨ret_bool (by first | rfl | (rw [H.out]; first | rfl | (simp; omega))), rfl⟩
    · have H : Hid ((decide (a.size ≤ 32) && decide (b.size ≤ 32)) = false) := Lib.hid (by simp [h1, h2])
      go_enter Try.func30, Try.ntmps30
      go_wp2
      go_ret
      exact ⟨ret_bool (by first | rfl | (rw [H.out]; first | rfl | (simp; omega))), rfl⟩
  · have H : Hid ((decide (a.size ≤ 32) && decide (b.size ≤ 32)) = false) := Lib.hid (by simp [h1])
    go_enter Try.func30, Try.ntmps30
    go_wp2
    go_ret
    exact ⟨ret_bool (by first | rfl | (rw [H.out]; first | rfl | (simp; omega))), rfl⟩
set_option maxHeartbeats 400000 in
theorem specLong (a b : ByteArray) (w : World) (ha : a.size ≤ maxLen) (hb : b.size ≤ maxLen) :
    Calls Try.prog 28 #[.string a, .string b] w fun e w' => e = .returned (.bool (!(decide (a.size ≤ 32) && decide (b.size ≤ 32)))) ∧ w = w' := by
  unfold maxLen at ha hb
  by_cases h1 : a.size ≤ 32
  · by_cases h2 : b.size ≤ 32
    · have H : Hid ((!(decide (a.size ≤ 32) && decide (b.size ≤ 32))) = false) := Lib.hid (by simp [h1, h2])
      go_enter Try.func28, Try.ntmps28
      go_wp2
      go_ret
      exact ⟨ret_bool (by first | rfl | (rw [H.out]; first | rfl | (simp; omega))), rfl⟩
    · have H : Hid ((!(decide (a.size ≤ 32) && decide (b.size ≤ 32))) = true) := Lib.hid (by simp [h1, h2])
      go_enter Try.func28, Try.ntmps28
      go_wp2
      go_ret
      exact ⟨ret_bool (by first | rfl | (rw [H.out]; first | rfl | (simp; omega))), rfl⟩
  · have H : Hid ((!(decide (a.size ≤ 32) && decide (b.size ≤ 32))) = true) := Lib.hid (by simp [h1])
    go_enter Try.func28, Try.ntmps28
    go_wp2
    go_ret
    exact ⟨ret_bool (by first | rfl | (rw [H.out]; first | rfl | (simp; omega))), rfl⟩
set_option maxHeartbeats 400000 in
theorem implPrice (x : Nat) (w : World) (hx : x < 256) :
    Calls Try.prog 33 #[.int .u8 x] w fun e w' => e = .returned (.int .i64 (priceL x)) ∧ w = w' := by
  by_cases h : x = 107
  · subst h
    go_enter Try.func33, Try.ntmps33
    go_wp2
    go_ret
    exact ⟨rfl, rfl⟩
  · have hB : ((x : Int) == 107) = false := by simp; omega
    have H : Hid (priceL x = 1) := Lib.hid (by unfold priceL; rw [if_neg h])
    go_enter Try.func33, Try.ntmps33
    go_wp2
    go_ret
    exact ⟨ret_int (by rw [H.out]; rfl), rfl⟩
theorem byte_beq (x y : UInt8) : ((x.toNat : Int) == (y.toNat : Int)) = (x == y) := by
  by_cases h : x = y
  · subst h; simp
  · have h' : ¬ x.toNat = y.toNat := fun e => h (UInt8.toNat_inj.1 e)
    rw [beq_eq_false_iff_ne.2 h, beq_eq_false_iff_ne.2 (fun e => h' (by omega))]
theorem byte_bne (x y : UInt8) : ((x.toNat : Int) != (y.toNat : Int)) = (x != y) := by unfold bne; rw [byte_beq]
/-- A text is empty, or it has a first byte. -/
theorem str_cases (s : ByteArray) : (s.size = 0 ∧ s.toList.isEmpty = true ∧ s.data.toList = []) ∨ ∃ h : 0 < s.size, s.toList.isEmpty = false ∧ ∃ r, s.data.toList = s[0] :: r := by
  have e : s.toList = s.data.toList := by simpa using ByteArray.toList_mk s.data.toList
  by_cases h : s.size = 0
  · have : s.data.toList = [] := List.eq_nil_of_length_eq_zero (by rw [len_data]; exact h)
    exact .inl ⟨h, by rw [e, this]; rfl, this⟩
  · have h' : 0 < s.size := by omega
    have hl : 0 < s.data.toList.length := by rw [len_data]; exact h'
    refine .inr ⟨h', ?_, s.data.toList.drop 1, ?_⟩
    · rw [e]; cases hs : s.data.toList with
      | nil => rw [hs] at hl; simp at hl
      | cons => rfl
    · have := List.drop_eq_getElem_cons (l := s.data.toList) (i := 0) hl
      rw [List.drop_zero] at this
      exact this
def passV (p : Nat × Nat × Bool) : Value := .tuple #[.int .i64 p.1, .int .i64 p.2.1, .bool p.2.2]
theorem pass_ret {p : Nat × Nat × Bool} {i j : Int} {k : Bool} (h1 : i = p.1) (h2 : j = p.2.1) (h3 : k = p.2.2) : Ending.returned (.tuple #[.int .i64 i, .int .i64 j, .bool k]) = .returned (passV p) := by rw [h1, h2, h3]; rfl
set_option maxHeartbeats 1600000 in
theorem implPasses (x : Nat) (a b : ByteArray) (w : World) (hx : x < 256) (ha : a.size ≤ maxLen) (hb : b.size ≤ maxLen) :
    Calls Try.prog 32 #[.int .u8 x, .string a, .string b] w fun e w' => e = .returned (passV (passL x a.data.toList b.data.toList)) ∧ ∃ n, w' = w.drewN n := by
  unfold maxLen at ha hb
  have A := str_cases a
  have B := str_cases b
  by_cases h1 : x = 100
  · subst h1
    rcases A with ⟨a0, a1, a2⟩ | ⟨a0, a1, r, a2⟩
    all_goals
      have E := Lib.hid a2
      clear a2 B
      go_enter Try.func32, Try.ntmps32
      go_wp2
      go_ret3
      exact ⟨pass_ret (by simp [passL]) (by simp [passL]) (by simp [passL, E.out]), 0, rfl⟩
  have hB1 : ((x : Int) == 100) = false := by simp; omega
  by_cases h2 : x = 105
  · subst h2
    rcases B with ⟨a0, a1, a2⟩ | ⟨a0, a1, r, a2⟩
    all_goals
      have E := Lib.hid a2
      clear a2 A
      go_enter Try.func32, Try.ntmps32
      go_wp2
      go_ret3
      exact ⟨pass_ret (by simp [passL]) (by simp [passL]) (by simp [passL, E.out]), 0, rfl⟩
  have hB2 : ((x : Int) == 105) = false := by simp; omega
  by_cases h3 : x = 107
  · subst h3
    rcases A with ⟨a0, a1, a2⟩ | ⟨a0, a1, r, a2⟩
    · have E := Lib.hid a2
      clear a2 B
      go_enter Try.func32, Try.ntmps32
      go_wp2
      go_quiet (fail)
      go_wp2
      go_ret3
      exact ⟨pass_ret (by simp [passL]) (by simp [passL]) (by simp [passL, E.out]), _, rfl⟩
    · rcases B with ⟨b0, b1, b2⟩ | ⟨b0, b1, s, b2⟩
      · have E := Lib.hid (And.intro a2 b2)
        clear a2 b2
        go_enter Try.func32, Try.ntmps32
        go_wp2
        go_quiet (fail)
        go_wp2
        go_ret3
        exact ⟨pass_ret (by simp [passL]) (by simp [passL]) (by simp [passL, E.out.1, E.out.2]), _, rfl⟩
      · have E := Lib.hid (And.intro a2 b2)
        clear a2 b2
        go_enter Try.func32, Try.ntmps32
        go_wp2
        go_quiet (fail)
        go_wp2
        go_ret3
        exact ⟨pass_ret (by simp [passL]) (by simp [passL]) (by simp [passL, E.out.1, E.out.2, byte_beq]), _, rfl⟩
  have hB3 : ((x : Int) == 107) = false := by simp; omega
  by_cases h4 : x = 115
  · subst h4
    rcases A with ⟨a0, a1, a2⟩ | ⟨a0, a1, r, a2⟩
    · have E := Lib.hid a2
      clear a2 B
      go_enter Try.func32, Try.ntmps32
      go_wp2
      go_quiet (fail)
      go_wp2
      go_ret3
      exact ⟨pass_ret (by simp [passL]) (by simp [passL]) (by simp [passL, E.out]), _, rfl⟩
    · rcases B with ⟨b0, b1, b2⟩ | ⟨b0, b1, s, b2⟩
      · have E := Lib.hid (And.intro a2 b2)
        clear a2 b2
        go_enter Try.func32, Try.ntmps32
        go_wp2
        go_quiet (fail)
        go_wp2
        go_ret3
        exact ⟨pass_ret (by simp [passL]) (by simp [passL]) (by simp [passL, E.out.1, E.out.2]), _, rfl⟩
      · have E := Lib.hid (And.intro a2 b2)
        clear a2 b2
        go_enter Try.func32, Try.ntmps32
        go_wp2
        go_quiet (fail)
        go_wp2
        go_ret3
        exact ⟨pass_ret (by simp [passL]) (by simp [passL]) (by simp [passL, E.out.1, E.out.2, byte_bne]), _, rfl⟩
  have hB4 : ((x : Int) == 115) = false := by simp; omega
  have E : Hid (passL x a.data.toList b.data.toList = (0, 0, false)) := Lib.hid (by unfold passL; rw [if_neg h1, if_neg h2, if_neg h3, if_neg h4])
  clear A B
  go_enter Try.func32, Try.ntmps32
  go_wp2
  go_ret3
  exact ⟨pass_ret (by rw [E.out]; rfl) (by rw [E.out]; rfl) (by rw [E.out]), 0, rfl⟩

theorem pass_le {x : Nat} {a b : List UInt8} (h : (passL x a b).2.2 = true) : (passL x a b).1 ≤ a.length ∧ (passL x a b).2.1 ≤ b.length := by
  unfold passL at h ⊢
  by_cases h1 : x = 100
  · simp only [h1, if_true] at h ⊢
    cases a with
    | nil => simp at h
    | cons p a => simp
  · by_cases h2 : x = 105
    · simp only [h2] at h ⊢
      cases b with
      | nil => simp at h
      | cons q b => simp
    · by_cases h3 : x = 107
      · simp only [h3] at h ⊢
        cases a with
        | nil => simp at h
        | cons p a =>
          cases b with
          | nil => simp at h
          | cons q b => simp
      · by_cases h4 : x = 115
        · simp only [h4] at h ⊢
          cases a with
          | nil => simp at h
          | cons p a =>
            cases b with
            | nil => simp at h
            | cons q b => simp
        · simp [h1, h2, h3, h4] at h
theorem price_le (x : Nat) : priceL x ≤ 1 := by unfold priceL; split <;> omega
theorem ext_drop (s : ByteArray) (m : Nat) : (s.extract m s.size).data.toList = s.data.toList.drop m := by
  simp [ByteArray.data_extract]
  exact List.take_of_length_le (by simp)
theorem ext_size (s : ByteArray) (m : Nat) : (s.extract m s.size).size ≤ s.size := by simp
/-- One edit more is possible. -/
theorem cost_go {E A B es la lb : List UInt8} {x : UInt8} {c : Nat} (h : costL E A B = (costL (x :: es) la lb).map (· + c)) (hp : (passL x.toNat la lb).2.2 = true) :
    costL E A B = (costL es (la.drop (passL x.toNat la lb).1) (lb.drop (passL x.toNat la lb).2.1)).map (· + (c + priceL x.toNat)) := by
  rw [h]
  conv => lhs; unfold costL
  rw [hp]
  simp only [if_true, Option.map_map]
  congr 1
  funext z
  simp; omega
theorem cost_no {E A B es la lb : List UInt8} {x : UInt8} {c : Nat} (h : costL E A B = (costL (x :: es) la lb).map (· + c)) (hp : (passL x.toNat la lb).2.2 = false) : costL E A B = none := by
  rw [h]
  unfold costL
  rw [hp]; rfl
theorem cost_done {E A B la lb : List UInt8} {c : Nat} (h : costL E A B = (costL [] la lb).map (· + c)) : costL E A B = if la.isEmpty && lb.isEmpty then some c else none := by
  rw [h]
  unfold costL
  split <;> simp
theorem costZ_none {e a b : List UInt8} (h : costL e a b = none) : costZ e a b = -1 := by unfold costZ; rw [h]; split <;> rfl
theorem costZ_some {e a b : List UInt8} {c : Nat} (ha : a.length ≤ 32) (hb : b.length ≤ 32) (he : e.length ≤ 64) (h : costL e a b = some c) : costZ e a b = (c : Int) := by unfold costZ; rw [h, if_neg (by omega)]
theorem costZ_far {e a b : List UInt8} (h : 32 < a.length ∨ 32 < b.length ∨ 64 < e.length) : costZ e a b = -1 := by unfold costZ; rw [if_pos h]
theorem drop_byte (s : ByteArray) (k : Nat) (h : k < s.size) : s.data.toList.drop k = s[k] :: s.data.toList.drop (k + 1) := by
  rw [List.drop_eq_getElem_cons (by simpa using h)]; rfl
theorem drop_past (s : ByteArray) (k : Nat) (h : s.size ≤ k) : s.data.toList.drop k = [] := by
  rw [List.drop_eq_nil_iff]; simpa using h

set_option maxHeartbeats 1600000 in
theorem implEditCost (e a b : ByteArray) (w : World) (he : e.size ≤ maxLen) (ha : a.size ≤ maxLen) (hb : b.size ≤ maxLen) :
    Calls Try.prog 15 #[.string e, .string a, .string b] w fun r w' => r = .returned (.int .i64 (costZ e.data.toList a.data.toList b.data.toList)) ∧ ∃ n, w' = w.drewN n := by
  have CE := fun w => Lib.hid (implEditsOk a b w ha hb)
  unfold maxLen at he ha hb
  have LE := Lib.hid (len_data e)
  have LA := Lib.hid (len_data a)
  have LB := Lib.hid (len_data b)
  cases hk : (decide (a.size ≤ 32) && decide (b.size ≤ 32))
  · have HZ : Hid (costZ e.data.toList a.data.toList b.data.toList = -1) := Lib.hid (costZ_far (by rw [LE.out, LA.out, LB.out]; simp at hk; omega))
    rw [hk] at CE
    go_enter Try.func15, Try.ntmps15
    go_wp2_with fail
    refine (CE _).out.mono ?_
    rintro r w' ⟨rfl, rfl⟩
    go_wp2
    go_ret
    exact ⟨ret_int HZ.out.symm, 0, rfl⟩
  rw [hk] at CE
  simp only [Bool.and_eq_true, decide_eq_true_eq] at hk
  obtain ⟨ha32, hb32⟩ := hk
  by_cases he64 : 64 < e.size
  · have HZ : Hid (costZ e.data.toList a.data.toList b.data.toList = -1) := Lib.hid (costZ_far (by rw [LE.out]; omega))
    go_enter Try.func15, Try.ntmps15
    go_wp2_with fail
    refine (CE _).out.mono ?_
    rintro r w' ⟨rfl, rfl⟩
    go_wp2
    go_ret
    exact ⟨ret_int HZ.out.symm, 0, rfl⟩
  have Z0 := Lib.hid (@costZ_none e.data.toList a.data.toList b.data.toList)
  have Z1 := Lib.hid (fun c => @costZ_some e.data.toList a.data.toList b.data.toList c (by rw [LA.out]; exact ha32) (by rw [LB.out]; exact hb32) (by rw [LE.out]; omega))
  go_enter Try.func15, Try.ntmps15
  go_wp2_with fail
  refine (CE _).out.mono ?_
  rintro r w' ⟨rfl, rfl⟩
  clear CE
  go_wp2
  go_loopw [7, 1, 2, 23, 8] (fun cv av bv iv _ wr => ∃ (k c n : Nat) (a' b' : ByteArray), k ≤ e.size ∧ c ≤ k ∧ a'.size ≤ 32 ∧ b'.size ≤ 32 ∧ cv = .int .i64 c ∧ av = .string a' ∧ bv = .string b' ∧ iv = .int .i64 k ∧ wr = w.drewN n ∧
    Hid (costL e.data.toList a.data.toList b.data.toList = (costL (e.data.toList.drop k) a'.data.toList b'.data.toList).map (· + c))) (fun _ _ _ iv _ _ => e.size - (intOf iv).toNat)
  case atStart => exact ⟨0, 0, 0, a, b, Nat.zero_le _, Nat.le_refl _, ha32, hb32, rfl, rfl, rfl, rfl, rfl, Lib.hid (by simp)⟩
  case round =>
    obtain ⟨k, c, n, a', b', hk, hc, ha', hb', rfl, rfl, rfl, rfl, rfl, H⟩ := hrel
    by_cases hlt : k < e.size
    · have H2 := Lib.hid (show costL e.data.toList a.data.toList b.data.toList = (costL (e[k] :: e.data.toList.drop (k + 1)) a'.data.toList b'.data.toList).map (· + c) by rw [← drop_byte e k hlt]; exact H.out)
      have LA' := Lib.hid (len_data a')
      have LB' := Lib.hid (len_data b')
      have hx : e[k].toNat < 256 := e[k].toNat_lt
      have CP := fun w => Lib.hid (implPasses e[k].toNat a' b' w hx (by unfold maxLen; omega) (by unfold maxLen; omega))
      have CQ := fun w => Lib.hid (implPrice e[k].toNat w hx)
      have XA := Lib.hid (ext_drop a')
      have XB := Lib.hid (ext_drop b')
      have SA := Lib.hid (ext_size a')
      have SB := Lib.hid (ext_size b')
      have PP := Lib.hid (price_le e[k].toNat)
      cases hp : (passL e[k].toNat a'.data.toList b'.data.toList).2.2
      · have HZ := Lib.hid (Z0.out (cost_no H2.out hp))
        have HP := Lib.hid hp
        clear hp H H2
        generalize hpp : passL e[k].toNat a'.data.toList b'.data.toList = p at *
        clear hpp
        obtain ⟨m, m', o⟩ := p
        have ho : o = false := HP.out
        subst ho
        go_wp2_with fail
        refine (CP _).out.mono ?_
        rintro r w' ⟨rfl, n1, rfl⟩
        unfold passV
        go_wp2
        go_ret
        exact ⟨ret_int HZ.out.symm, _, rfl⟩
      · have HG := Lib.hid (cost_go H2.out hp)
        have HL := Lib.hid (pass_le hp)
        have HP := Lib.hid hp
        clear hp H H2
        generalize hpp : passL e[k].toNat a'.data.toList b'.data.toList = p at *
        clear hpp
        obtain ⟨m, m', o⟩ := p
        have ho : o = true := HP.out
        subst ho
        have hm : m ≤ a'.size := by rw [← LA'.out]; exact HL.out.1
        have hm' : m' ≤ b'.size := by rw [← LB'.out]; exact HL.out.2
        generalize hq : priceL e[k].toNat = q at *
        have hq1 : q ≤ 1 := PP.out
        clear hq
        go_wp2_with fail
        refine (CP _).out.mono ?_
        rintro r w' ⟨rfl, n1, rfl⟩
        unfold passV
        go_wp2_with fail
        refine (CQ _).out.mono ?_
        rintro r w' ⟨rfl, rfl⟩
        go_wp2
        go_quiet (fail)
        go_wp2
        go_roundw
        case rel => exact ⟨k + 1, c + q, _, a'.extract m a'.size, b'.extract m' b'.size, by omega, by omega, Nat.le_trans (SA.out m) ha', Nat.le_trans (SB.out m') hb', by go_num, rfl, rfl, by go_num, rfl, Lib.hid (by rw [XA.out, XB.out]; exact HG.out)⟩
        case measure => simp [intOf]; omega
    · have hk' : k = e.size := by omega
      subst hk'
      have H2 := Lib.hid (cost_done (show costL e.data.toList a.data.toList b.data.toList = (costL [] a'.data.toList b'.data.toList).map (· + c) by rw [← drop_past e e.size (Nat.le_refl _)]; exact H.out))
      rcases str_cases a' with ⟨a0, a1, a2⟩ | ⟨a0, a1, r, a2⟩
      · rcases str_cases b' with ⟨b0, b1, b2⟩ | ⟨b0, b1, s, b2⟩
        · have HZ := Lib.hid (Z1.out c (by rw [H2.out, a2, b2]; rfl))
          clear H H2 a2 b2
          go_wp2
          go_ret
          exact ⟨ret_int HZ.out.symm, _, rfl⟩
        · have HZ := Lib.hid (Z0.out (by rw [H2.out, a2, b2]; rfl))
          clear H H2 a2 b2
          go_wp2
          go_ret
          exact ⟨ret_int HZ.out.symm, _, rfl⟩
      · have HZ := Lib.hid (Z0.out (by rw [H2.out, a2]; rfl))
        clear H H2 a2
        go_wp2
        go_ret
        exact ⟨ret_int HZ.out.symm, _, rfl⟩
end Go.Proofs.Ytcjcklpmlfoloaa
