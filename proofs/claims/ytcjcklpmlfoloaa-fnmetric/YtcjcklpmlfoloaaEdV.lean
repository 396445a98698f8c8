/- What 'EditText' answers in the model of the document: the least edits of least cost. -/
import Derived.Test.YtcjcklpmlfoloaaEdS
import Derived.Test.YtcjcklpmlfoloaaEdU
namespace Go.Proofs.Ytcjcklpmlfoloaa
open Go.RowKit
set_option linter.unusedVariables false
theorem own_drew {w w9 : World} {s base n : Nat} {e : TypeId} {v : Value} {xs : List Value} (h : ∃ m, w9 = w.drewN m) (o : w.ownsRow base e s v n xs) : w9.ownsRow base e s v n xs := by obtain ⟨m, h⟩ := h; rw [h]; exact o
theorem below_drewn {w w3 w9 : World} (h : ∃ m, w9 = w.drewN m) (o : Below w3.heap.size w3 w) : Below w3.heap.size w3 w9 := by obtain ⟨m, h⟩ := h; rw [h]; exact o.trans ((belowN m).mono o.size)
set_option maxRecDepth 100000 in
set_option maxHeartbeats 8000000 in
theorem specEditText (a b : ByteArray) (w : World) (ha : a.size ≤ maxLen) (hb : b.size ≤ maxLen) :
    Calls Try.prog 25 #[.string a, .string b] w fun r w' => r = .returned (.string (strL (editTextL a.data.toList b.data.toList))) ∧ Below w.heap.size w w' := by
  have CE := fun w => Lib.hid (specLong a b w ha hb)
  unfold maxLen at ha hb
  have LA := Lib.hid (len_data a)
  have LB := Lib.hid (len_data b)
  cases hk : (decide (a.size ≤ 32) && decide (b.size ≤ 32))
  · have HZ : Hid (editTextL a.data.toList b.data.toList = []) := Lib.hid (by unfold editTextL; rw [if_pos (by rw [LA.out, LB.out]; simp at hk; omega)])
    rw [hk] at CE
    go_enter Try.func25, Try.ntmps25
    go_wp2_with fail
    refine (CE _).out.mono ?_
    rintro r w' ⟨rfl, rfl⟩
    go_wp2
    go_ret
    exact ⟨ret_str (by rw [HZ.out]; rfl), Below.refl _ _⟩
  rw [hk] at CE
  simp only [Bool.and_eq_true, decide_eq_true_eq] at hk
  obtain ⟨ha32, hb32⟩ := hk
  have HZ : Hid (editTextL a.data.toList b.data.toList = [] ++ editsL (a.size + b.size) (a.data.toList.drop 0) (b.data.toList.drop 0)) := Lib.hid (by unfold editTextL; rw [if_neg (by rw [LA.out, LB.out]; omega), LA.out, LB.out]; rfl)
  generalize editTextL a.data.toList b.data.toList = full at *
  go_enter Try.func25, Try.ntmps25
  go_wp2_with fail
  refine (CE _).out.mono ?_
  rintro r w' ⟨rfl, rfl⟩
  clear CE
  go_wp2_with fail
  refine (specTable a b _ ha32 hb32).mono ?_
  rintro r w1 ⟨g0, gb, T, rfl, hT, hAll⟩
  have HT := Lib.hid (And.intro hT hAll)
  clear hT hAll
  go_wp2
  go_loopw [6, 7, 8] (fun ev iv jv wr => ∃ (es : List UInt8) (i j r : Nat), i ≤ a.size ∧ j ≤ b.size ∧ iv = .int .i64 i ∧ jv = .int .i64 j ∧ es.length + r ≤ 64 ∧ (a.size - i) + (b.size - j) ≤ r ∧
    Hid (wr.ownsRow w1.heap.size 5 1 ev es.length (es.map bval) ∧ Below w1.heap.size w1 wr) ∧ Hid (full = es ++ editsL r (a.data.toList.drop i) (b.data.toList.drop j))) (fun _ iv jv _ => (a.size - (intOf iv).toNat) + (b.size - (intOf jv).toNat))
  case atStart => exact ⟨[], 0, 0, a.size + b.size, Nat.zero_le _, Nat.zero_le _, rfl, rfl, by simp; omega, by omega, Lib.hid ⟨World.ownsRow_made w1 #[] 0 (Nat.le_refl _) (by unfold maxLen; omega) rfl, (Below.refl _ _).alloc (Nat.le_refl _) _⟩, HZ⟩
  case round =>
    obtain ⟨es, i, j, r, hi, hj, rfl, rfl, hlen, hr, HO, HF⟩ := hrel
    by_cases hne : i < a.size ∨ j < b.size
    · obtain ⟨r', hr', hF, h1, h2, h3, h4⟩ := edits_step (by rw [LA.out]; exact hi) (by rw [LB.out]; exact hj) (by rw [LA.out, LB.out]; exact hne) HF.out (by rw [LA.out, LB.out]; exact hr)
      rw [LA.out] at h1 h4
      rw [LB.out] at h2 h4
      have F2 := Lib.hid (And.intro hF (And.intro h1 (And.intro h2 (And.intro h3 h4))))
      clear hF HF h1 h2 h3 h4 hr
      have TB := Lib.hid (HT.out.1.below HO.out.2)
      have L := Lib.hid (least_at a.data.toList b.data.toList i j)
      have TC : ∀ i j, i ≤ a.size → j ≤ b.size → wr.cell? ⟨gb i, j, none⟩ = some (.int .i64 (dist (a.data.toList.drop i) (b.data.toList.drop j))) := fun i j hi hj => by rw [TB.out.cell (Nat.zero_le _) hi hj, HT.out.2 i (Nat.zero_le _) hi j hj]
      have o0 := TB.out.out (k := i) (Nat.zero_le _) hi
      have O1 := Lib.hid (TB.out.out (k := i + 1) (Nat.zero_le _))
      have c00 := TC i j hi hj
      have c10 := TC (i + 1) j
      have c01 := TC i (j + 1)
      have c11 := TC (i + 1) (j + 1)
      have z1 := dist_le64 a b ha32 hb32 i j
      have z2 := dist_le64 a b ha32 hb32 (i + 1) j
      have z3 := dist_le64 a b ha32 hb32 i (j + 1)
      have z4 := dist_le64 a b ha32 hb32 (i + 1) (j + 1)
      have FD : Hid (fitD a.data.toList b.data.toList i j ↔ i < a.size ∧ dist (a.data.toList.drop i) (b.data.toList.drop j) = dist (a.data.toList.drop (i + 1)) (b.data.toList.drop j) + 1) := Lib.hid (by unfold fitD; rw [len_data])
      have FI : Hid (fitI a.data.toList b.data.toList i j ↔ j < b.size ∧ dist (a.data.toList.drop i) (b.data.toList.drop j) = dist (a.data.toList.drop i) (b.data.toList.drop (j + 1)) + 1) := Lib.hid (by unfold fitI; rw [len_data])
      have FK : Hid (fitK a.data.toList b.data.toList i j ↔ (i < a.size ∧ j < b.size ∧ a.data.toList[i]? = b.data.toList[j]?) ∧ dist (a.data.toList.drop i) (b.data.toList.drop j) = dist (a.data.toList.drop (i + 1)) (b.data.toList.drop (j + 1))) := Lib.hid (by unfold fitK; rw [len_data, len_data])
      clear TC
      generalize dist (a.data.toList.drop i) (b.data.toList.drop j) = x at *
      generalize dist (a.data.toList.drop (i + 1)) (b.data.toList.drop j) = y1 at *
      generalize dist (a.data.toList.drop i) (b.data.toList.drop (j + 1)) = y2 at *
      generalize dist (a.data.toList.drop (i + 1)) (b.data.toList.drop (j + 1)) = y3 at *
      have h10 := Lib.hid c10
      have h01 := Lib.hid c01
      have h11 := Lib.hid c11
      clear c10 c01 c11 TB
      have bi1 : (i : Int) < (a.size : Int) + 1 := by omega
      have bj1 : (j : Int) < (b.size : Int) + 1 := by omega
      by_cases ci : i < a.size
      · have ci' : (i : Int) < (a.size : Int) := by omega
        have o1 := O1.out (by omega)
        have c10 := h10.out (by omega) hj
        by_cases e1 : x = y1 + 1
        · have E1 : ((x : Int) == 1 + (y1 : Int)) = true := by simp; omega
          have LE := L.out.1 (FD.out.2 ⟨ci, e1⟩)
          rw [LE] at F2
          obtain ⟨hF, h1, h2, h3, h4⟩ := F2.out
          have F3 := Lib.hid hF
          simp only at h1 h2 h3 h4
          clear hF F2 LE L FD FI FK
          go_wp2
          go_quiet (fail)
          obtain ⟨v0, hv0⟩ : ∃ v, v = wr.drewN nq := ⟨_, rfl⟩
          rw [← hv0]
          have hw0 : ∃ n, v0 = wr.drewN n := by rw [hv0]; exact ⟨_, rfl⟩
          clear hv0
          have hown := own_drew hw0 HO.out.1
          have hbel := below_drewn hw0 HO.out.2
          have hsz := hbel.size
          have HC : Hid (Value.int .u8 100 = bval 100) := Lib.hid rfl
          go_wp2_with (at_builtin; rw [HC.out]; refine wp_app1 w1 v0 (bval 100) rfl _ _ 22 rfl w1.heap.size 5 (.int .u8 0) 1 Try.underlying22 Try.info5 rfl _ _ _ (by rfl) hown (by rfl) rfl (by unfold maxLen; omega) (by omega) hsz hbel ?_; clear hown hbel; intro v' w' hown hbel)
          go_roundw
          case rel => exact ⟨es ++ [100], i + 1, j + 0, r', h1, h2, by go_num, by go_num, by simp; omega, h4, Lib.hid ⟨by rw [List.length_append, List.map_append, List.map_singleton]; exact hown, hbel⟩, F3⟩
          case measure => simp [intOf]; omega
        have E1 : ((x : Int) == 1 + (y1 : Int)) = false := by simp; omega
        have nD : ¬ fitD a.data.toList b.data.toList i j := fun h => e1 (FD.out.1 h).2
        by_cases cj : j < b.size
        · have cj' : (j : Int) < (b.size : Int) := by omega
          have c01 := h01.out hi (by omega)
          by_cases e2 : x = y2 + 1
          · have E2 : ((x : Int) == 1 + (y2 : Int)) = true := by simp; omega
            have LE := L.out.2.1 nD (FI.out.2 ⟨cj, e2⟩)
            clear nD
            rw [LE] at F2
            obtain ⟨hF, h1, h2, h3, h4⟩ := F2.out
            have F3 := Lib.hid hF
            simp only at h1 h2 h3 h4
            clear hF F2 LE L FD FI FK
            go_wp2
            go_quiet (fail)
            obtain ⟨v0, hv0⟩ : ∃ v, v = wr.drewN nq := ⟨_, rfl⟩
            rw [← hv0]
            have hw0 : ∃ n, v0 = wr.drewN n := by rw [hv0]; exact ⟨_, rfl⟩
            have e00 := drew_cell hw0 o0
            have e01 := drew_cell hw0 c00
            have e02 := fun h => drew_cell hw0 (O1.out h)
            have e03 := fun h1 h2 => drew_cell hw0 (h01.out h1 h2)
            have e04 := fun h1 h2 => drew_cell hw0 (h11.out h1 h2)
            clear hv0
            have e05 := e03 hi (by omega)
            clear e02 e03 e04
            go_wp2
            go_quiet (fail)
            obtain ⟨v1, hv1⟩ : ∃ v, v = v0.drewN nq := ⟨_, rfl⟩
            rw [← hv1]
            have hw1 : ∃ n, v1 = wr.drewN n := by rw [hv1]; exact drew_more hw0 _
            clear hv1
            have hown := own_drew hw1 HO.out.1
            have hbel := below_drewn hw1 HO.out.2
            have hsz := hbel.size
            have HC : Hid (Value.int .u8 105 = bval 105) := Lib.hid rfl
            go_wp2_with (at_builtin; rw [HC.out]; refine wp_app1 w1 v1 (bval 105) rfl _ _ 22 rfl w1.heap.size 5 (.int .u8 0) 1 Try.underlying22 Try.info5 rfl _ _ _ (by rfl) hown (by rfl) rfl (by unfold maxLen; omega) (by omega) hsz hbel ?_; clear hown hbel; intro v' w' hown hbel)
            go_roundw
            case rel => exact ⟨es ++ [105], i + 0, j + 1, r', h1, h2, by go_num, by go_num, by simp; omega, h4, Lib.hid ⟨by rw [List.length_append, List.map_append, List.map_singleton]; exact hown, hbel⟩, F3⟩
            case measure => simp [intOf]; omega
          have E2 : ((x : Int) == 1 + (y2 : Int)) = false := by simp; omega
          have nI : ¬ fitI a.data.toList b.data.toList i j := fun h => e2 (FI.out.1 h).2
          have c11 := h11.out (by omega) (by omega)
          have ea : a.data.toList[i]? = some a[i] := List.getElem?_eq_getElem (by rw [LA.out]; exact ci)
          have eb : b.data.toList[j]? = some b[j] := List.getElem?_eq_getElem (by rw [LB.out]; exact cj)
          have BB := byte_beq a[i] b[j]
          cases hq : (a[i] == b[j])
          · rw [hq] at BB
            have nK : ¬ fitK a.data.toList b.data.toList i j := fun h => by have := (FK.out.1 h).1.2.2; rw [ea, eb] at this; simp at this; simp [this] at hq
            have LE := L.out.2.2.2 nD nI nK
            clear nD nI nK ea eb hq
            rw [LE] at F2
            obtain ⟨hF, h1, h2, h3, h4⟩ := F2.out
            have F3 := Lib.hid hF
            simp only at h1 h2 h3 h4
            clear hF F2 LE L FD FI FK
            go_wp2
            go_quiet (fail)
            obtain ⟨v0, hv0⟩ : ∃ v, v = wr.drewN nq := ⟨_, rfl⟩
            rw [← hv0]
            have hw0 : ∃ n, v0 = wr.drewN n := by rw [hv0]; exact ⟨_, rfl⟩
            have e00 := drew_cell hw0 o0
            have e01 := drew_cell hw0 c00
            have e02 := fun h => drew_cell hw0 (O1.out h)
            have e03 := fun h1 h2 => drew_cell hw0 (h01.out h1 h2)
            have e04 := fun h1 h2 => drew_cell hw0 (h11.out h1 h2)
            clear hv0
            have e05 := e03 hi (by omega)
            have e06 := e02 (by omega)
            have e07 := e04 (by omega) (by omega)
            clear e02 e03 e04
            go_wp2
            go_quiet (fail)
            obtain ⟨v1, hv1⟩ : ∃ v, v = v0.drewN nq := ⟨_, rfl⟩
            rw [← hv1]
            have hw1 : ∃ n, v1 = wr.drewN n := by rw [hv1]; exact drew_more hw0 _
            have e10 := drew_cell hw1 o0
            have e11 := drew_cell hw1 c00
            have e12 := fun h => drew_cell hw1 (O1.out h)
            have e13 := fun h1 h2 => drew_cell hw1 (h01.out h1 h2)
            have e14 := fun h1 h2 => drew_cell hw1 (h11.out h1 h2)
            clear hv1
            have e15 := e13 hi (by omega)
            have e16 := e12 (by omega)
            have e17 := e14 (by omega) (by omega)
            clear e12 e13 e14
            go_wp2
            go_quiet (fail)
            obtain ⟨v2, hv2⟩ : ∃ v, v = v1.drewN nq := ⟨_, rfl⟩
            rw [← hv2]
            have hw2 : ∃ n, v2 = wr.drewN n := by rw [hv2]; exact drew_more hw1 _
            clear hv2
            have hown := own_drew hw2 HO.out.1
            have hbel := below_drewn hw2 HO.out.2
            have hsz := hbel.size
            have HC : Hid (Value.int .u8 115 = bval 115) := Lib.hid rfl
            go_wp2_with (at_builtin; rw [HC.out]; refine wp_app1 w1 v2 (bval 115) rfl _ _ 22 rfl w1.heap.size 5 (.int .u8 0) 1 Try.underlying22 Try.info5 rfl _ _ _ (by rfl) hown (by rfl) rfl (by unfold maxLen; omega) (by omega) hsz hbel ?_; clear hown hbel; intro v' w' hown hbel)
            go_roundw
            case rel => exact ⟨es ++ [115], i + 1, j + 1, r', h1, h2, by go_num, by go_num, by simp; omega, h4, Lib.hid ⟨by rw [List.length_append, List.map_append, List.map_singleton]; exact hown, hbel⟩, F3⟩
            case measure => simp [intOf]; omega
          · rw [hq] at BB
            by_cases e3 : x = y3
            · have E3 : ((x : Int) == (y3 : Int)) = true := by simp; omega
              have LE := L.out.2.2.1 nD nI (FK.out.2 ⟨⟨ci, cj, by rw [ea, eb]; simp at hq; rw [hq]⟩, e3⟩)
              clear nD nI ea eb hq
              rw [LE] at F2
              obtain ⟨hF, h1, h2, h3, h4⟩ := F2.out
              have F3 := Lib.hid hF
              simp only at h1 h2 h3 h4
              clear hF F2 LE L FD FI FK
              go_wp2
              go_quiet (fail)
              obtain ⟨v0, hv0⟩ : ∃ v, v = wr.drewN nq := ⟨_, rfl⟩
              rw [← hv0]
              have hw0 : ∃ n, v0 = wr.drewN n := by rw [hv0]; exact ⟨_, rfl⟩
              have e00 := drew_cell hw0 o0
              have e01 := drew_cell hw0 c00
              have e02 := fun h => drew_cell hw0 (O1.out h)
              have e03 := fun h1 h2 => drew_cell hw0 (h01.out h1 h2)
              have e04 := fun h1 h2 => drew_cell hw0 (h11.out h1 h2)
              clear hv0
              have e05 := e03 hi (by omega)
              have e06 := e02 (by omega)
              have e07 := e04 (by omega) (by omega)
              clear e02 e03 e04
              go_wp2
              go_quiet (fail)
              obtain ⟨v1, hv1⟩ : ∃ v, v = v0.drewN nq := ⟨_, rfl⟩
              rw [← hv1]
              have hw1 : ∃ n, v1 = wr.drewN n := by rw [hv1]; exact drew_more hw0 _
              have e10 := drew_cell hw1 o0
              have e11 := drew_cell hw1 c00
              have e12 := fun h => drew_cell hw1 (O1.out h)
              have e13 := fun h1 h2 => drew_cell hw1 (h01.out h1 h2)
              have e14 := fun h1 h2 => drew_cell hw1 (h11.out h1 h2)
              clear hv1
              have e15 := e13 hi (by omega)
              have e16 := e12 (by omega)
              have e17 := e14 (by omega) (by omega)
              clear e12 e13 e14
              go_wp2
              go_quiet (fail)
              obtain ⟨v2, hv2⟩ : ∃ v, v = v1.drewN nq := ⟨_, rfl⟩
              rw [← hv2]
              have hw2 : ∃ n, v2 = wr.drewN n := by rw [hv2]; exact drew_more hw1 _
              clear hv2
              have hown := own_drew hw2 HO.out.1
              have hbel := below_drewn hw2 HO.out.2
              have hsz := hbel.size
              have HC : Hid (Value.int .u8 107 = bval 107) := Lib.hid rfl
              go_wp2_with (at_builtin; rw [HC.out]; refine wp_app1 w1 v2 (bval 107) rfl _ _ 22 rfl w1.heap.size 5 (.int .u8 0) 1 Try.underlying22 Try.info5 rfl _ _ _ (by rfl) hown (by rfl) rfl (by unfold maxLen; omega) (by omega) hsz hbel ?_; clear hown hbel; intro v' w' hown hbel)
              go_roundw
              case rel => exact ⟨es ++ [107], i + 1, j + 1, r', h1, h2, by go_num, by go_num, by simp; omega, h4, Lib.hid ⟨by rw [List.length_append, List.map_append, List.map_singleton]; exact hown, hbel⟩, F3⟩
              case measure => simp [intOf]; omega
            · have E3 : ((x : Int) == (y3 : Int)) = false := by simp; omega
              have nK : ¬ fitK a.data.toList b.data.toList i j := fun h => e3 (FK.out.1 h).2
              have LE := L.out.2.2.2 nD nI nK
              clear nD nI nK ea eb hq
              rw [LE] at F2
              obtain ⟨hF, h1, h2, h3, h4⟩ := F2.out
              have F3 := Lib.hid hF
              simp only at h1 h2 h3 h4
              clear hF F2 LE L FD FI FK
              go_wp2
              go_quiet (fail)
              obtain ⟨v0, hv0⟩ : ∃ v, v = wr.drewN nq := ⟨_, rfl⟩
              rw [← hv0]
              have hw0 : ∃ n, v0 = wr.drewN n := by rw [hv0]; exact ⟨_, rfl⟩
              have e00 := drew_cell hw0 o0
              have e01 := drew_cell hw0 c00
              have e02 := fun h => drew_cell hw0 (O1.out h)
              have e03 := fun h1 h2 => drew_cell hw0 (h01.out h1 h2)
              have e04 := fun h1 h2 => drew_cell hw0 (h11.out h1 h2)
              clear hv0
              have e05 := e03 hi (by omega)
              have e06 := e02 (by omega)
              have e07 := e04 (by omega) (by omega)
              clear e02 e03 e04
              go_wp2
              go_quiet (fail)
              obtain ⟨v1, hv1⟩ : ∃ v, v = v0.drewN nq := ⟨_, rfl⟩
              rw [← hv1]
              have hw1 : ∃ n, v1 = wr.drewN n := by rw [hv1]; exact drew_more hw0 _
              have e10 := drew_cell hw1 o0
              have e11 := drew_cell hw1 c00
              have e12 := fun h => drew_cell hw1 (O1.out h)
              have e13 := fun h1 h2 => drew_cell hw1 (h01.out h1 h2)
              have e14 := fun h1 h2 => drew_cell hw1 (h11.out h1 h2)
              clear hv1
              have e15 := e13 hi (by omega)
              have e16 := e12 (by omega)
              have e17 := e14 (by omega) (by omega)
              clear e12 e13 e14
              go_wp2
              go_quiet (fail)
              obtain ⟨v2, hv2⟩ : ∃ v, v = v1.drewN nq := ⟨_, rfl⟩
              rw [← hv2]
              have hw2 : ∃ n, v2 = wr.drewN n := by rw [hv2]; exact drew_more hw1 _
              clear hv2
              have hown := own_drew hw2 HO.out.1
              have hbel := below_drewn hw2 HO.out.2
              have hsz := hbel.size
              have HC : Hid (Value.int .u8 115 = bval 115) := Lib.hid rfl
              go_wp2_with (at_builtin; rw [HC.out]; refine wp_app1 w1 v2 (bval 115) rfl _ _ 22 rfl w1.heap.size 5 (.int .u8 0) 1 Try.underlying22 Try.info5 rfl _ _ _ (by rfl) hown (by rfl) rfl (by unfold maxLen; omega) (by omega) hsz hbel ?_; clear hown hbel; intro v' w' hown hbel)
              go_roundw
              case rel => exact ⟨es ++ [115], i + 1, j + 1, r', h1, h2, by go_num, by go_num, by simp; omega, h4, Lib.hid ⟨by rw [List.length_append, List.map_append, List.map_singleton]; exact hown, hbel⟩, F3⟩
              case measure => simp [intOf]; omega
        · exfalso
          have LE := L.out.2.2.2 nD (fun h => cj (FI.out.1 h).1) (fun h => cj (FK.out.1 h).1.2.1)
          rw [LE] at F2
          have := F2.out.2.2.1
          simp only at this
          omega
      · have cj : j < b.size := by omega
        have ci' : ¬ (i : Int) < (a.size : Int) := by omega
        have cj' : (j : Int) < (b.size : Int) := by omega
        have c01 := h01.out hi (by omega)
        have nD : ¬ fitD a.data.toList b.data.toList i j := fun h => ci (FD.out.1 h).1
        by_cases e2 : x = y2 + 1
        · have E2 : ((x : Int) == 1 + (y2 : Int)) = true := by simp; omega
          have LE := L.out.2.1 nD (FI.out.2 ⟨cj, e2⟩)
          clear nD
          rw [LE] at F2
          obtain ⟨hF, h1, h2, h3, h4⟩ := F2.out
          have F3 := Lib.hid hF
          simp only at h1 h2 h3 h4
          clear hF F2 LE L FD FI FK
          go_wp2
          go_quiet (fail)
          obtain ⟨v0, hv0⟩ : ∃ v, v = wr.drewN nq := ⟨_, rfl⟩
          rw [← hv0]
          have hw0 : ∃ n, v0 = wr.drewN n := by rw [hv0]; exact ⟨_, rfl⟩
          have e00 := drew_cell hw0 o0
          have e01 := drew_cell hw0 c00
          have e02 := fun h => drew_cell hw0 (O1.out h)
          have e03 := fun h1 h2 => drew_cell hw0 (h01.out h1 h2)
          have e04 := fun h1 h2 => drew_cell hw0 (h11.out h1 h2)
          clear hv0
          have e05 := e03 hi (by omega)
          clear e02 e03 e04
          go_wp2
          go_quiet (fail)
          obtain ⟨v1, hv1⟩ : ∃ v, v = v0.drewN nq := ⟨_, rfl⟩
          rw [← hv1]
          have hw1 : ∃ n, v1 = wr.drewN n := by rw [hv1]; exact drew_more hw0 _
          clear hv1
          have hown := own_drew hw1 HO.out.1
          have hbel := below_drewn hw1 HO.out.2
          have hsz := hbel.size
          have HC : Hid (Value.int .u8 105 = bval 105) := Lib.hid rfl
          go_wp2_with (at_builtin; rw [HC.out]; refine wp_app1 w1 v1 (bval 105) rfl _ _ 22 rfl w1.heap.size 5 (.int .u8 0) 1 Try.underlying22 Try.info5 rfl _ _ _ (by rfl) hown (by rfl) rfl (by unfold maxLen; omega) (by omega) hsz hbel ?_; clear hown hbel; intro v' w' hown hbel)
          go_roundw
          case rel => exact ⟨es ++ [105], i + 0, j + 1, r', h1, h2, by go_num, by go_num, by simp; omega, h4, Lib.hid ⟨by rw [List.length_append, List.map_append, List.map_singleton]; exact hown, hbel⟩, F3⟩
          case measure => simp [intOf]; omega
        · exfalso
          have LE := L.out.2.2.2 nD (fun h => e2 (FI.out.1 h).2) (fun h => ci (FK.out.1 h).1.1)
          rw [LE] at F2
          have := F2.out.2.1
          simp only at this
          omega
    · have hd1 : ¬ i < a.size := by omega
      have hd2 : ¬ j < b.size := by omega
      have hF := edits_done (by rw [LA.out]; omega) (by rw [LB.out]; omega) HF.out
      have hown := HO.out.1
      rw [← hF] at hown
      have hcv := conv_any hown
      have BB := Lib.hid (HT.out.1.bel.trans (HO.out.2.mono HT.out.1.bel.size))
      clear hown hF HF hne
      obtain ⟨ae, ce, he⟩ := own_shape HO.out.1
      subst he
      clear HO
      go_wp2
      go_ret
      exact ⟨rfl, BB.out⟩
end Go.Proofs.Ytcjcklpmlfoloaa
