/- The least edit at a place of the table, in the program. -/
import Derived.Test.YtcjcklpmlfoloaaEdJ
namespace Go.Proofs.Ytcjcklpmlfoloaa
open Go.RowKit
set_option linter.unusedVariables false

def editV (p : UInt8 × Nat × Nat) : Value := .tuple #[.int .u8 p.1.toNat, .int .i64 p.2.1, .int .i64 p.2.2]
theorem edit_ret {p : UInt8 × Nat × Nat} {e : UInt8} {m n : Nat} {x i j : Int} (h : p = (e, m, n)) (h0 : x = e.toNat) (h1 : i = m) (h2 : j = n) : Ending.returned (.tuple #[.int .u8 x, .int .i64 i, .int .i64 j]) = .returned (editV p) := by rw [h, h0, h1, h2]; rfl
/-- What the four edits ask at place i of a, j of b. -/
def fitD (a b : List UInt8) (i j : Nat) : Prop := i < a.length ∧ dist (a.drop i) (b.drop j) = dist (a.drop (i + 1)) (b.drop j) + 1
def fitI (a b : List UInt8) (i j : Nat) : Prop := j < b.length ∧ dist (a.drop i) (b.drop j) = dist (a.drop i) (b.drop (j + 1)) + 1
def fitK (a b : List UInt8) (i j : Nat) : Prop := (i < a.length ∧ j < b.length ∧ a[i]? = b[j]?) ∧ dist (a.drop i) (b.drop j) = dist (a.drop (i + 1)) (b.drop (j + 1))
theorem empty_drop {l : List UInt8} {i : Nat} : (l.drop i).isEmpty = false ↔ i < l.length := by
  rw [List.isEmpty_eq_false_iff, Ne, List.drop_eq_nil_iff]; omega
theorem least_at (a b : List UInt8) (i j : Nat) : (fitD a b i j → leastE (a.drop i) (b.drop j) = (100, 1, 0)) ∧ (¬ fitD a b i j → fitI a b i j → leastE (a.drop i) (b.drop j) = (105, 0, 1)) ∧
    (¬ fitD a b i j → ¬ fitI a b i j → fitK a b i j → leastE (a.drop i) (b.drop j) = (107, 1, 1)) ∧ (¬ fitD a b i j → ¬ fitI a b i j → ¬ fitK a b i j → leastE (a.drop i) (b.drop j) = (115, 1, 1)) := by
  have e1 : ((a.drop i).isEmpty = false ∧ dist (a.drop i) (b.drop j) = dist ((a.drop i).drop 1) (b.drop j) + 1) ↔ fitD a b i j := by
    rw [empty_drop, List.drop_drop]; rfl
  have e2 : ((b.drop j).isEmpty = false ∧ dist (a.drop i) (b.drop j) = dist (a.drop i) ((b.drop j).drop 1) + 1) ↔ fitI a b i j := by
    rw [empty_drop, List.drop_drop]; rfl
  have e3 : (((a.drop i).isEmpty = false ∧ (b.drop j).isEmpty = false ∧ (a.drop i).head? = (b.drop j).head?) ∧ dist (a.drop i) (b.drop j) = dist ((a.drop i).drop 1) ((b.drop j).drop 1)) ↔ fitK a b i j := by
    rw [empty_drop, empty_drop, List.drop_drop, List.drop_drop, List.head?_drop, List.head?_drop]; rfl
  unfold leastE
  refine ⟨fun h => ?_, fun h1 h2 => ?_, fun h1 h2 h3 => ?_, fun h1 h2 h3 => ?_⟩
  · rw [if_pos (e1.2 h)]
  · rw [if_neg (fun x => h1 (e1.1 x)), if_pos (e2.2 h2)]
  · rw [if_neg (fun x => h1 (e1.1 x)), if_neg (fun x => h2 (e2.1 x)), if_pos (e3.2 h3)]
  · rw [if_neg (fun x => h1 (e1.1 x)), if_neg (fun x => h2 (e2.1 x)), if_neg (fun x => h3 (e3.1 x))]
theorem passV_d {a b : ByteArray} {i j : Nat} : passV (passL 100 (a.extract i a.size).data.toList (b.extract j b.size).data.toList) = .tuple #[.int .i64 1, .int .i64 0, .bool (decide (i < a.size))] := by
  have : (a.data.toList.drop i).isEmpty = !decide (i < a.size) := by
    by_cases h : i < a.size
    · rw [empty_drop.2 (by rw [len_data]; exact h)]; simp [h]
    · rw [drop_past a i (by omega)]; simp [h]
  rw [ext_drop, ext_drop]; unfold passV passL
  simp only [if_true, this]; simp
theorem passV_i {a b : ByteArray} {i j : Nat} : passV (passL 105 (a.extract i a.size).data.toList (b.extract j b.size).data.toList) = .tuple #[.int .i64 0, .int .i64 1, .bool (decide (j < b.size))] := by
  have : (b.data.toList.drop j).isEmpty = !decide (j < b.size) := by
    by_cases h : j < b.size
    · rw [empty_drop.2 (by rw [len_data]; exact h)]; simp [h]
    · rw [drop_past b j (by omega)]; simp [h]
  rw [ext_drop, ext_drop]; unfold passV passL
  simp [this]
theorem passV_k {a b : ByteArray} {i j : Nat} (q : Bool) (hq : q = true ↔ (i < a.size ∧ j < b.size ∧ a.data.toList[i]? = b.data.toList[j]?)) : passV (passL 107 (a.extract i a.size).data.toList (b.extract j b.size).data.toList) = .tuple #[.int .i64 1, .int .i64 1, .bool q] := by
  rw [ext_drop, ext_drop]; unfold passV passL
  by_cases h1 : i < a.size
  · by_cases h2 : j < b.size
    · rw [drop_byte a i h1, drop_byte b j h2]
      have ea : a.data.toList[i]? = some a[i] := List.getElem?_eq_getElem (by rw [len_data]; exact h1)
      have eb : b.data.toList[j]? = some b[j] := List.getElem?_eq_getElem (by rw [len_data]; exact h2)
      rw [ea, eb] at hq
      have : (a[i] == b[j]) = q := by
        cases q
        · simp at hq; simp; exact hq h1 h2
        · simp at hq; simp [hq.2.2]
      simp [this]
    · rw [drop_byte a i h1, drop_past b j (by omega)]
      have : q = false := by
        cases q with
        | false => rfl
        | true => exact absurd (hq.1 rfl).2.1 h2
      rw [this]; rfl
  · rw [drop_past a i (by omega)]
    have : q = false := by
      cases q with
      | false => rfl
      | true => exact absurd (hq.1 rfl).1 h1
    rw [this]; rfl

theorem drew_more {w wr : World} (h : ∃ n, wr = w.drewN n) (m : Nat) : ∃ n, wr.drewN m = w.drewN n := by
  obtain ⟨n, rfl⟩ := h
  exact ⟨n + m, World.drewN_drewN _ _ _⟩
theorem drew_cell {w wr : World} (h : ∃ n, wr = w.drewN n) {p : Addr} {v : Option Value} (hc : w.cell? p = v) : wr.cell? p = v := by
  obtain ⟨n, rfl⟩ := h
  exact hc
/-- What the table holds at a place, as a number. -/
theorem tab_at {a b : ByteArray} {T : Nat → Int} {w : World} {b5 : Nat} (hA : ArrAt w b5 43 1089 T) (hT : TabIs a b 0 T) (ha : a.size ≤ 32) (hb : b.size ≤ 32) {i j : Nat} (hi : i ≤ a.size) (hj : j ≤ b.size) :
    w.cell? ⟨b5, i * 33 + j, none⟩ = some (.int .i64 (dist (a.data.toList.drop i) (b.data.toList.drop j))) := by
  rw [hA.cell (by omega), hT i (Nat.zero_le _) hi j hj]
theorem dist_le64 (a b : ByteArray) (ha : a.size ≤ 32) (hb : b.size ≤ 32) (i j : Nat) : dist (a.data.toList.drop i) (b.data.toList.drop j) ≤ 32 := by
  have := dist_max (a.data.toList.drop i) (b.data.toList.drop j)
  rw [List.length_drop, List.length_drop, len_data, len_data] at this
  omega
set_option maxRecDepth 100000 in
set_option maxHeartbeats 4000000 in
theorem implLeast (a b : ByteArray) (b5 i j : Nat) (T : Nat → Int) (w : World) (ha : a.size ≤ 32) (hb : b.size ≤ 32) (hi : i ≤ a.size) (hj : j ≤ b.size) (hA : ArrAt w b5 43 1089 T) (hT : TabIs a b 0 T) :
    Calls Try.prog 34 #[.pointer (some ⟨b5, 0, none⟩), .string a, .string b, .int .i64 i, .int .i64 j] w fun e w' => e = .returned (editV (leastE (a.data.toList.drop i) (b.data.toList.drop j))) ∧ ∃ n, w' = w.drewN n := by
  have L := Lib.hid (least_at a.data.toList b.data.toList i j)
  have CP := fun x hx w => Lib.hid (implPasses x (a.extract i a.size) (b.extract j b.size) w hx (by unfold maxLen; have := ext_size a i; omega) (by unfold maxLen; have := ext_size b j; omega))
  have CQ := fun x hx w => Lib.hid (implPrice x w hx)
  have TA := Lib.hid (fun i j hi hj => tab_at (w := w) (i := i) (j := j) hA hT ha hb hi hj)
  have c00 := TA.out i j hi hj
  clear hA hT
  have i0 : ∀ w, (Instr.index 59 (.agg #[.int .u8 100, .int .u8 105, .int .u8 107]) (.int .i64 0)).run Try.prog w = .ok (.int .u8 100) w := fun _ => by kernel_rfl
  have i1 : ∀ w, (Instr.index 59 (.agg #[.int .u8 100, .int .u8 105, .int .u8 107]) (.int .i64 1)).run Try.prog w = .ok (.int .u8 105) w := fun _ => by kernel_rfl
  have i2 : ∀ w, (Instr.index 59 (.agg #[.int .u8 100, .int .u8 105, .int .u8 107]) (.int .i64 2)).run Try.prog w = .ok (.int .u8 107) w := fun _ => by kernel_rfl
  have z1 := dist_le64 a b ha hb i j
  have z2 := dist_le64 a b ha hb (i + 1) j
  have z3 := dist_le64 a b ha hb i (j + 1)
  have z4 := dist_le64 a b ha hb (i + 1) (j + 1)
  have c10 := TA.out (i + 1) j
  have c01 := TA.out i (j + 1)
  have c11 := TA.out (i + 1) (j + 1)
  have FD : Hid (fitD a.data.toList b.data.toList i j ↔ i < a.size ∧ dist (a.data.toList.drop i) (b.data.toList.drop j) = dist (a.data.toList.drop (i + 1)) (b.data.toList.drop j) + 1) := Lib.hid (by unfold fitD; rw [len_data])
  have FI : Hid (fitI a.data.toList b.data.toList i j ↔ j < b.size ∧ dist (a.data.toList.drop i) (b.data.toList.drop j) = dist (a.data.toList.drop i) (b.data.toList.drop (j + 1)) + 1) := Lib.hid (by unfold fitI; rw [len_data])
  have FK : Hid (fitK a.data.toList b.data.toList i j ↔ (i < a.size ∧ j < b.size ∧ a.data.toList[i]? = b.data.toList[j]?) ∧ dist (a.data.toList.drop i) (b.data.toList.drop j) = dist (a.data.toList.drop (i + 1)) (b.data.toList.drop (j + 1))) := Lib.hid (by unfold fitK; rw [len_data, len_data])
  clear TA
  generalize dist (a.data.toList.drop i) (b.data.toList.drop j) = x at *
  generalize dist (a.data.toList.drop (i + 1)) (b.data.toList.drop j) = y1 at *
  generalize dist (a.data.toList.drop i) (b.data.toList.drop (j + 1)) = y2 at *
  generalize dist (a.data.toList.drop (i + 1)) (b.data.toList.drop (j + 1)) = y3 at *
  have h10 := Lib.hid c10
  have h01 := Lib.hid c01
  have h11 := Lib.hid c11
  clear c10 c01 c11
  have bi0 : (0 : Int) ≤ (i : Int) := by omega
  have bi1 : (i : Int) < 33 := by omega
  have bj0 : (0 : Int) ≤ (j : Int) := by omega
  have bj1 : (j : Int) < 33 := by omega
  go_enter Try.func34, Try.ntmps34
  go_wp2
  go_loopw [19] (fun kv wr => ∃ (k : Nat), k ≤ 3 ∧ kv = .int .i64 k ∧ Hid (∃ n, wr = w.drewN n) ∧ Hid ((1 ≤ k → ¬ fitD a.data.toList b.data.toList i j) ∧ (2 ≤ k → ¬ fitI a.data.toList b.data.toList i j) ∧ (3 ≤ k → ¬ fitK a.data.toList b.data.toList i j))) (fun kv _ => 3 - (intOf kv).toNat)
  case atStart => exact ⟨0, by omega, rfl, Lib.hid ⟨0, rfl⟩, Lib.hid ⟨fun h => by omega, fun h => by omega, fun h => by omega⟩⟩
  case round =>
    obtain ⟨k, hk, rfl, HW, H⟩ := hrel
    have C00 := Lib.hid c00
    clear c00
    have c00 := drew_cell HW.out C00.out
    obtain rfl | rfl | rfl | rfl : k = 0 ∨ k = 1 ∨ k = 2 ∨ k = 3 := by omega
    · by_cases h1 : i < a.size
      · have hd : decide (i < a.size) = true := by simp [h1]
        have C : ∀ w, Hid (Calls Try.prog 32 #[.int .u8 100, .string (a.extract i a.size), .string (b.extract j b.size)] w fun e w' => e = .returned (.tuple #[.int .i64 1, .int .i64 0, .bool true]) ∧ ∃ n, w' = w.drewN n) := fun w => by have := (CP 100 (by omega) w).out; rw [passV_d, hd] at this; exact Lib.hid this
        have Q : ∀ w, Hid (Calls Try.prog 33 #[.int .u8 100] w fun e w' => e = .returned (.int .i64 1) ∧ w' = w) := fun w => Lib.hid ((CQ 100 (by omega) w).out.mono fun _ _ h => ⟨h.1, h.2.symm⟩)
        have c10 := drew_cell HW.out (h10.out (by omega) hj)
        clear hd
        by_cases he : x = y1 + 1
        · have hE : ((x : Int) == (y1 : Int) + 1) = true := by simp; omega
          have R := Lib.hid (L.out.1 (FD.out.2 ⟨h1, he⟩))
          clear he L FD FI FK H
          go_wp2
          go_quiet ((go_at_call 32; exact Calls.quiet_of (C _).out))
          obtain ⟨w9, hw9⟩ : ∃ w9, w9 = wr.drewN nq := ⟨_, rfl⟩
          rw [← hw9]
          have HW9 := Lib.hid (show ∃ n, w9 = w.drewN n by rw [hw9]; exact drew_more HW.out nq)
          have d0 := drew_cell HW9.out C00.out
          have d1 := drew_cell HW9.out (h10.out (by omega) hj)
          clear hw9
          go_wp2
          go_quiet ((go_at_call 33; exact Calls.quiet_of_same (Q _).out))
          go_wp2
          go_ret3
          exact ⟨edit_ret (R.out) rfl rfl rfl, drew_more HW9.out _⟩
        · have hE : ((x : Int) == (y1 : Int) + 1) = false := by simp; omega
          have R := Lib.hid (show ¬ fitD a.data.toList b.data.toList i j from fun h => he (FD.out.1 h).2)
          clear he L FD FI FK H
          go_wp2
          go_quiet ((go_at_call 32; exact Calls.quiet_of (C _).out))
          obtain ⟨w9, hw9⟩ : ∃ w9, w9 = wr.drewN nq := ⟨_, rfl⟩
          rw [← hw9]
          have HW9 := Lib.hid (show ∃ n, w9 = w.drewN n by rw [hw9]; exact drew_more HW.out nq)
          have d0 := drew_cell HW9.out C00.out
          have d1 := drew_cell HW9.out (h10.out (by omega) hj)
          clear hw9
          go_wp2
          go_quiet ((go_at_call 33; exact Calls.quiet_of_same (Q _).out))
          go_wp2
          go_roundw
          case rel => exact ⟨1, by omega, rfl, Lib.hid (drew_more HW9.out _), Lib.hid ⟨fun _ => R.out, fun h => by omega, fun h => by omega⟩⟩
          case measure => simp [intOf]
      · have hd : decide (i < a.size) = false := by simp; omega
        have C : ∀ w, Hid (Calls Try.prog 32 #[.int .u8 100, .string (a.extract i a.size), .string (b.extract j b.size)] w fun e w' => e = .returned (.tuple #[.int .i64 1, .int .i64 0, .bool false]) ∧ ∃ n, w' = w.drewN n) := fun w => by have := (CP 100 (by omega) w).out; rw [passV_d, hd] at this; exact Lib.hid this
        have R := Lib.hid (show ¬ fitD a.data.toList b.data.toList i j from fun h => h1 (FD.out.1 h).1)
        clear hd L FD FI FK H
        go_wp2
        go_quiet ((go_at_call 32; exact Calls.quiet_of (C _).out))
        go_wp2
        go_quiet (fail)
        go_wp2
        go_roundw
        case rel => exact ⟨1, by omega, rfl, Lib.hid (drew_more HW.out _), Lib.hid ⟨fun _ => R.out, fun h => by omega, fun h => by omega⟩⟩
        case measure => simp [intOf]
    · have nD := Lib.hid (H.out.1 (Nat.le_refl _))
      by_cases h1 : j < b.size
      · have hd : decide (j < b.size) = true := by simp [h1]
        have C : ∀ w, Hid (Calls Try.prog 32 #[.int .u8 105, .string (a.extract i a.size), .string (b.extract j b.size)] w fun e w' => e = .returned (.tuple #[.int .i64 0, .int .i64 1, .bool true]) ∧ ∃ n, w' = w.drewN n) := fun w => by have := (CP 105 (by omega) w).out; rw [passV_i, hd] at this; exact Lib.hid this
        have Q : ∀ w, Hid (Calls Try.prog 33 #[.int .u8 105] w fun e w' => e = .returned (.int .i64 1) ∧ w' = w) := fun w => Lib.hid ((CQ 105 (by omega) w).out.mono fun _ _ h => ⟨h.1, h.2.symm⟩)
        have c01 := drew_cell HW.out (h01.out hi (by omega))
        clear hd
        by_cases he : x = y2 + 1
        · have hE : ((x : Int) == (y2 : Int) + 1) = true := by simp; omega
          have R := Lib.hid (L.out.2.1 nD.out (FI.out.2 ⟨h1, he⟩))
          clear he L FD FI FK H
          go_wp2
          go_quiet ((go_at_call 32; exact Calls.quiet_of (C _).out))
          obtain ⟨w9, hw9⟩ : ∃ w9, w9 = wr.drewN nq := ⟨_, rfl⟩
          rw [← hw9]
          have HW9 := Lib.hid (show ∃ n, w9 = w.drewN n by rw [hw9]; exact drew_more HW.out nq)
          have d0 := drew_cell HW9.out C00.out
          have d1 := drew_cell HW9.out (h01.out hi (by omega))
          clear hw9
          go_wp2
          go_quiet ((go_at_call 33; exact Calls.quiet_of_same (Q _).out))
          go_wp2
          go_ret3
          exact ⟨edit_ret (R.out) rfl rfl rfl, drew_more HW9.out _⟩
        · have hE : ((x : Int) == (y2 : Int) + 1) = false := by simp; omega
          have R := Lib.hid (show ¬ fitI a.data.toList b.data.toList i j from fun h => he (FI.out.1 h).2)
          clear he L FD FI FK H
          go_wp2
          go_quiet ((go_at_call 32; exact Calls.quiet_of (C _).out))
          obtain ⟨w9, hw9⟩ : ∃ w9, w9 = wr.drewN nq := ⟨_, rfl⟩
          rw [← hw9]
          have HW9 := Lib.hid (show ∃ n, w9 = w.drewN n by rw [hw9]; exact drew_more HW.out nq)
          have d0 := drew_cell HW9.out C00.out
          have d1 := drew_cell HW9.out (h01.out hi (by omega))
          clear hw9
          go_wp2
          go_quiet ((go_at_call 33; exact Calls.quiet_of_same (Q _).out))
          go_wp2
          go_roundw
          case rel => exact ⟨2, by omega, rfl, Lib.hid (drew_more HW9.out _), Lib.hid ⟨fun _ => nD.out, fun _ => R.out, fun h => by omega⟩⟩
          case measure => simp [intOf]
      · have hd : decide (j < b.size) = false := by simp; omega
        have C : ∀ w, Hid (Calls Try.prog 32 #[.int .u8 105, .string (a.extract i a.size), .string (b.extract j b.size)] w fun e w' => e = .returned (.tuple #[.int .i64 0, .int .i64 1, .bool false]) ∧ ∃ n, w' = w.drewN n) := fun w => by have := (CP 105 (by omega) w).out; rw [passV_i, hd] at this; exact Lib.hid this
        have R := Lib.hid (show ¬ fitI a.data.toList b.data.toList i j from fun h => h1 (FI.out.1 h).1)
        clear hd L FD FI FK H
        go_wp2
        go_quiet ((go_at_call 32; exact Calls.quiet_of (C _).out))
        go_wp2
        go_quiet (fail)
        go_wp2
        go_roundw
        case rel => exact ⟨2, by omega, rfl, Lib.hid (drew_more HW.out _), Lib.hid ⟨fun _ => nD.out, fun _ => R.out, fun h => by omega⟩⟩
        case measure => simp [intOf]
    · have nD := Lib.hid (H.out.1 (by omega))
      have nI := Lib.hid (H.out.2.1 (Nat.le_refl _))
      by_cases h1 : i < a.size ∧ j < b.size ∧ a.data.toList[i]? = b.data.toList[j]?
      · have C : ∀ w, Hid (Calls Try.prog 32 #[.int .u8 107, .string (a.extract i a.size), .string (b.extract j b.size)] w fun e w' => e = .returned (.tuple #[.int .i64 1, .int .i64 1, .bool true]) ∧ ∃ n, w' = w.drewN n) := fun w => by have := (CP 107 (by omega) w).out; rw [passV_k true (iff_of_true rfl h1)] at this; exact Lib.hid this
        have Q : ∀ w, Hid (Calls Try.prog 33 #[.int .u8 107] w fun e w' => e = .returned (.int .i64 0) ∧ w' = w) := fun w => Lib.hid ((CQ 107 (by omega) w).out.mono fun _ _ h => ⟨h.1, h.2.symm⟩)
        have H1 := Lib.hid h1
        have c11 := drew_cell HW.out (h11.out (by omega) (by omega))
        have hia : i < a.size := h1.1
        have hjb : j < b.size := h1.2.1
        clear h1
        by_cases he : x = y3
        · have hE : ((x : Int) == (y3 : Int)) = true := by simp; omega
          have R := Lib.hid (L.out.2.2.1 nD.out nI.out (FK.out.2 ⟨H1.out, he⟩))
          clear he L FD FI FK H
          go_wp2
          go_quiet ((go_at_call 32; exact Calls.quiet_of (C _).out))
          obtain ⟨w9, hw9⟩ : ∃ w9, w9 = wr.drewN nq := ⟨_, rfl⟩
          rw [← hw9]
          have HW9 := Lib.hid (show ∃ n, w9 = w.drewN n by rw [hw9]; exact drew_more HW.out nq)
          have d0 := drew_cell HW9.out C00.out
          have d1 := drew_cell HW9.out (h11.out (by omega) (by omega))
          clear hw9
          go_wp2
          go_quiet ((go_at_call 33; exact Calls.quiet_of_same (Q _).out))
          go_wp2
          go_ret3
          exact ⟨edit_ret (R.out) rfl rfl rfl, drew_more HW9.out _⟩
        · have hE : ((x : Int) == (y3 : Int)) = false := by simp; omega
          have R := Lib.hid (show ¬ fitK a.data.toList b.data.toList i j from fun h => he (FK.out.1 h).2)
          clear he L FD FI FK H
          go_wp2
          go_quiet ((go_at_call 32; exact Calls.quiet_of (C _).out))
          obtain ⟨w9, hw9⟩ : ∃ w9, w9 = wr.drewN nq := ⟨_, rfl⟩
          rw [← hw9]
          have HW9 := Lib.hid (show ∃ n, w9 = w.drewN n by rw [hw9]; exact drew_more HW.out nq)
          have d0 := drew_cell HW9.out C00.out
          have d1 := drew_cell HW9.out (h11.out (by omega) (by omega))
          clear hw9
          go_wp2
          go_quiet ((go_at_call 33; exact Calls.quiet_of_same (Q _).out))
          go_wp2
          go_roundw
          case rel => exact ⟨3, by omega, rfl, Lib.hid (drew_more HW9.out _), Lib.hid ⟨fun _ => nD.out, fun _ => nI.out, fun _ => R.out⟩⟩
          case measure => simp [intOf]
      · have C : ∀ w, Hid (Calls Try.prog 32 #[.int .u8 107, .string (a.extract i a.size), .string (b.extract j b.size)] w fun e w' => e = .returned (.tuple #[.int .i64 1, .int .i64 1, .bool false]) ∧ ∃ n, w' = w.drewN n) := fun w => by have := (CP 107 (by omega) w).out; rw [passV_k false (iff_of_false (by simp) h1)] at this; exact Lib.hid this
        have R := Lib.hid (show ¬ fitK a.data.toList b.data.toList i j from fun h => h1 (FK.out.1 h).1)
        clear h1 L FD FI FK H
        go_wp2
        go_quiet ((go_at_call 32; exact Calls.quiet_of (C _).out))
        go_wp2
        go_quiet (fail)
        go_wp2
        go_roundw
        case rel => exact ⟨3, by omega, rfl, Lib.hid (drew_more HW.out _), Lib.hid ⟨fun _ => nD.out, fun _ => nI.out, fun _ => R.out⟩⟩
        case measure => simp [intOf]
    · have R := Lib.hid (L.out.2.2.2 (H.out.1 (by omega)) (H.out.2.1 (by omega)) (H.out.2.2 (Nat.le_refl _)))
      clear L FD FI FK H
      go_wp2
      go_ret3
      exact ⟨edit_ret (R.out) rfl rfl rfl, HW.out⟩
end Go.Proofs.Ytcjcklpmlfoloaa
