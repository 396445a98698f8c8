/- Chapter 6 in the model: powers, the elements of a column, whether it is valid, the places of a byte. -/
import Derived.Test.YticfnhbjoaecjaaMyK
import Derived.Deep.DeepMust
namespace Go.Proofs.Yticfnhbjoaecjaa
open Go.RowKit
set_option linter.unusedVariables false

set_option maxHeartbeats 400000 in
theorem specPower (i : Nat) (w : World) (hi : i ≤ 62) :
    Calls Try.prog 51 #[.int .i64 i] w fun e w' => e = .returned (.int .u64 ((2 ^ i : Nat) : Int)) ∧ w = w' := by
  obtain ⟨X, hX⟩ : ∃ X, X = 2 ^ i := ⟨_, rfl⟩
  rw [← hX]
  have HX := Lib.hid hX
  clear hX
  go_enter Try.func51, Try.ntmps51
  go_wp2
  go_loop [0, 3] (fun j x => ∃ k y : Nat, k ≤ i ∧ j = .int .i64 k ∧ x = .int .u64 (y : Int) ∧ Hid (y * 2 ^ k = X) ∧ y ≤ 4611686018427387904) (fun j _ => (intOf j).toNat)
  case atStart => exact ⟨i, 1, Nat.le_refl _, rfl, rfl, Lib.hid (by rw [HX.out]; omega), by omega⟩
  case round =>
    obtain ⟨k, y, hk, rfl, rfl, HY, hy⟩ := hrel
    cases k with
    | zero =>
      have HE : Hid (y = X) := Lib.hid (by have := HY.out; simpa using this)
      clear HY
      go_wp2
      go_ret
      exact ⟨ret_int (by rw [HE.out]), rfl⟩
    | succ k =>
      have HY2 : Hid (2 * y * 2 ^ k = X) := Lib.hid (by have := HY.out; rw [Nat.pow_succ] at this; rw [← this, Nat.mul_comm 2 y, Nat.mul_assoc, Nat.mul_comm 2 (2 ^ k)])
      have hy2 : 2 * y ≤ 4611686018427387904 := by
        have h1 := HY2.out
        have h2 : X ≤ 4611686018427387904 := by rw [HX.out]; exact Nat.pow_le_pow_right (n := 2) (by omega) (show i ≤ 62 by omega)
        have h3 : 0 < 2 ^ k := Nat.pow_pos (by omega)
        have h4 : 2 * y * 1 ≤ 2 * y * 2 ^ k := Nat.mul_le_mul_left _ h3
        omega
      clear HY
      go_wp2
      go_round
      case rel => exact ⟨k, 2 * y, by omega, by go_num, by go_num, HY2, hy2⟩
      case measure => simp [intOf]
theorem row_lit (w : World) (u : Value) (t : TypeId) : (w.alloc (.cells #[u] t)).ownsRow w.heap.size t 1 (.slice (some ⟨w.heap.size, 0, none⟩) 1 1) 1 [u] :=
  ⟨by simp, .inr ⟨w.heap.size, 1, _, rfl, Nat.le_refl _, heap_alloc_new w _, Nat.le_refl _, by unfold maxLen; omega, by simp, by simp⟩⟩
theorem ones_ival (l : List Int) : ∀ u ∈ l.map ival, u.oneCell' = true := by
  intro u hu
  obtain ⟨c, _, rfl⟩ := List.mem_map.1 hu
  rfl
/-- The elements from k on. -/
def tailF (d : Nat → Int) (n k : Nat) : List Int := (List.range (n + 1 - k)).map (fun j => d (k + j))
theorem tailF_cons (d : Nat → Int) (n k : Nat) (h : k < n + 1) : tailF d n k = d k :: tailF d n (k + 1) := by
  unfold tailF
  rw [show n + 1 - k = (n + 1 - (k + 1)) + 1 from by omega, List.range_succ_eq_map, List.map_cons, List.map_map]
  congr 1
  refine List.map_congr_left fun j _ => ?_
  show d (k + (j + 1)) = d (k + 1 + j)
  congr 1
  omega
theorem tailF_zero (d : Nat → Int) (n : Nat) : tailF d n 0 = listF (n + 1) d := by unfold tailF listF; simp
theorem tailF_length (d : Nat → Int) (n k : Nat) : (tailF d n k).length = n + 1 - k := by simp [tailF]
theorem tailF_last (d : Nat → Int) (n : Nat) : tailF d n n = [d n] := by unfold tailF; rw [show n + 1 - n = 1 from by omega]; rfl
set_option maxRecDepth 100000 in
set_option maxHeartbeats 2000000 in
theorem specColumn (pv mv n : Nat) (sc : Int) (w : World) (hpv : pv < 18446744073709551616) (hmv : mv < 18446744073709551616) (hsc : 0 ≤ sc ∧ sc ≤ 64) (hn : n ≤ 32) :
    Calls Try.prog 50 #[.agg (bitsV pv mv sc n)] w (IntSPost (listF (n + 1) (colZ pv mv sc n)) w) := by
  obtain ⟨hs1, hs2⟩ := hsc
  have NR := Lib.hid (fun i hi => colZ_near pv mv sc n i hi)
  have L0 := Lib.hid (colZ_last pv mv sc n)
  have SU := Lib.hid (fun i => colZ_succ pv mv sc n i)
  unfold bitsV
  go_enter Try.func50, Try.ntmps50
  go_wp2
  generalize colZ pv mv sc n = d at *
  go_loopw [3, 4, 5] (fun o iv _ wr => ∃ (k m : Nat) (a : Option Addr) (c : Nat), k ≤ n ∧ m ≤ 33 ∧ Hid (m = n + 1 - k) ∧ iv = .int .i64 ((k : Int) - 1) ∧ o = .slice a m c ∧ Hid (wr.ownsRow (w.heap.size + 1) 3 1 (.slice a m c) m ((tailF d n k).map ival) ∧ wr.heap[w.heap.size]? = some (.cells #[.int .u64 pv, .int .u64 mv, .int .i64 sc, .int .i64 n] 32 (0, 0)) ∧ Below w.heap.size w wr)) (fun _ iv _ _ => ((intOf iv) + 1).toNat)
  case atStart =>
    refine ⟨n, 1, _, _, Nat.le_refl _, by omega, Lib.hid (by omega), by go_num, rfl, Lib.hid ⟨?_, ?_, ?_⟩⟩
    · rw [tailF_last, L0.out]
      have := row_lit (w.alloc (.cells #[.int .u64 pv, .int .u64 mv, .int .i64 sc, .int .i64 n] 32)) (.int .i64 sc) 3
      rw [size_box] at this
      exact this
    · exact (alloc_old _ _ _ (by simp)).trans (alloc_at _ _ _ rfl)
    · exact below_box (below_box (Below.refl _ _) _) _
  case round =>
    obtain ⟨k, m, a, c, hk, hm33, HM, rfl, rfl, H⟩ := hrel
    cases k with
    | zero =>
      have O : Hid (IntSOwn (w.heap.size + 1) wr.heap.size [.slice a m c] (listF (n + 1) d) wr) := Lib.hid (by have := H.out.1; rw [tailF_zero] at this; exact IntSOwn.mk this)
      go_wp2
      go_ret
      exact ⟨_, rfl, O.out.wide (by omega) (Nat.le_refl _), H.out.2.2⟩
    | succ k =>
      have ek : ((k + 1 : Nat) : Int) - 1 = (k : Int) := by omega
      rw [ek]
      clear ek
      have c0 := cur_cell H.out.2.1 0
      have c1 := cur_cell H.out.2.1 1
      simp at c0 c1
      obtain ⟨b1, o1, rfl, q1⟩ := (Row.of_own H.out.1).at (i := 0) (by rw [List.length_map, tailF_length]; omega)
      rw [tailF_cons _ _ _ (by omega)] at q1
      simp [ival] at q1
      have nr := NR.out (k + 1) (by omega)
      have BP := Lib.hid (fun w => specBit pv k w hpv (by omega))
      have BM := Lib.hid (fun w => specBit mv k w hmv (by omega))
      have su := SU.out k
      unfold bI at su
      have k2 : 0 < m := by have := HM.out; omega
      have hsz : w.heap.size ≤ wr.heap.size := H.out.2.2.size
      have hsz1 : w.heap.size < wr.heap.size := cur_lt H.out.2.1
      have FIN : Hid (∀ z : Int, z = d k → ∀ (v' : Value) (w' : World), w'.ownsRow wr.heap.size 3 1 v' (1 + m) ([Value.int .i64 z] ++ (tailF d n (k + 1)).map ival) → (wr.alloc (.cells #[.int .i64 z] 3)).grownBy w' (some wr.heap.size) →
          w'.ownsRow (w.heap.size + 1) 3 1 v' (1 + m) ((tailF d n k).map ival) ∧ w'.heap[w.heap.size]? = some (.cells #[.int .u64 pv, .int .u64 mv, .int .i64 sc, .int .i64 n] 32 (0, 0)) ∧ Below w.heap.size w w') := Lib.hid fun z hz v' w' h1 h2 => by
        refine ⟨?_, ?_, ?_⟩
        · rw [tailF_cons _ _ _ (by omega), List.map_cons, ← hz]
          exact own_base h1 (by omega)
        · exact kept_grown ((alloc_old _ _ _ hsz1).trans H.out.2.1) h2 (by simp; omega)
        · exact below_write (below_box H.out.2.2 _) h2 hsz
      have RW : Hid (∀ z : Int, Row (wr.alloc (.cells #[.int .i64 z] 3)) (some ⟨b1, o1, none⟩) ((tailF d n (k + 1)).map ival)) := Lib.hid fun z => (Row.of_own H.out.1).below (below_box (Below.refl _ _) _)
      have TL : Hid ((tailF d n (k + 1)).length = m) := Lib.hid (by rw [tailF_length, HM.out])
      clear H
      obtain ⟨x, hx⟩ : ∃ x, x = d (k + 1) := ⟨_, rfl⟩
      rw [← hx] at nr q1 su
      have hx1 : -32 ≤ x ∧ x ≤ 96 := by omega
      obtain ⟨hx2, hx3⟩ := hx1
      clear nr hx
      have HM2 : Hid (1 + m = n + 1 - k) := Lib.hid (by have := HM.out; omega)
      have hm33' : 1 + m ≤ 33 := by have := HM.out; omega
      cases hp : pv.testBit k <;> cases hm : mv.testBit k <;> rw [hp] at BP su <;> rw [hm] at BM su <;> clear hp hm <;> simp only [↓reduceIte, Bool.false_eq_true] at su
      all_goals
        have SU2 := Lib.hid su
        clear su
        go_wp2_with fail
        refine (BP.out _).mono ?_
        rintro e w1 ⟨rfl, rfl⟩
        go_wp2_with fail
        refine (BM.out _).mono ?_
        rintro e w1 ⟨rfl, rfl⟩
        go_wp2_with (at_builtin; go_must (refine wp_app_row rfl _ _ 34 rfl 3 (.int .i64 0) 8 Try.underlying34 Try.info3 rfl wr.heap.size 1 _ _ (by rfl) (row_lit wr _ _) _ m c ((tailF d n (k + 1)).map ival) (by rfl) (by rw [List.length_map, TL.out]) (RW.out _) (ones_ival _) (by unfold maxLen; omega) (by omega) (by simp) ?_); intro v3 w3 ho3 hg3; have F3 := Lib.hid (FIN.out _ (by have := SU2.out; omega) v3 w3 ho3 hg3); obtain ⟨a3, c3, rfl⟩ := own_shape F3.out.1; clear ho3 hg3)
        go_roundw
        case rel => exact ⟨k, 1 + m, a3, c3, by omega, hm33', HM2, by go_num, rfl, F3⟩
        case measure => simp [intOf]
end Go.Proofs.Yticfnhbjoaecjaa
