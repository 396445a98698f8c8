/- Chapter 6 in the model: the first column, the run. -/
import Derived.Test.YticfnhbjoaecjaaMyU
import Derived.Test.YticfnhbjoaecjaaEdC
namespace Go.Proofs.Yticfnhbjoaecjaa
open Go.RowKit
set_option linter.unusedVariables false

theorem start_of (p : List UInt8) (h : p.length ≤ 32) : ofM (fun i => (i : Int)) p.length = startZ p := by
  rw [startZ_yes h]
  unfold ofM
  have e1 : bitsUp (upC fun i => (i : Int)) p.length = 2 ^ p.length - 1 := by
    rw [← bitsUp_true]
    exact bitsUp_ext _ fun i _ => by unfold upC; simp
  have e2 : bitsUp (dnC fun i => (i : Int)) p.length = 0 := by
    refine Eq.trans ?_ (bitsUp_false p.length)
    exact bitsUp_ext _ fun i _ => by unfold dnC; simp; omega
  rw [e1, e2]
set_option maxRecDepth 100000 in
set_option maxHeartbeats 2000000 in
theorem specStart (p : ByteArray) (w : World) (hp : p.size ≤ maxLen) :
    Calls Try.prog 31 #[.string p] w fun e w' => e = .returned (bV (startZ p.data.toList)) ∧ Below w.heap.size w w' := by
  by_cases hg : 32 < p.size
  · rw [startZ_no (by simpa using hg)]
    unfold bV bitsV
    go_enter Try.func31, Try.ntmps31
    go_wp2
    exact bodyPost_ret (v := .agg #[.int .u64 0, .int .u64 0, .int .i64 0, .int .i64 0]) (by simp [results, Try.results31, go_sem]) rfl ⟨rfl, below_box (Below.refl _ _) _⟩
  have SO := Lib.hid (start_of p.data.toList (by simpa using hg))
  rw [len_data] at SO
  rw [← SO.out]
  clear hp SO
  obtain ⟨m, hm⟩ : ∃ m, m = ofM (fun i => (i : Int)) p.size := ⟨_, rfl⟩
  rw [← hm]
  obtain ⟨m1, m2, m3, m4⟩ := m
  have HM := Lib.hid hm
  clear hm
  unfold bV bitsV
  go_enter Try.func31, Try.ntmps31
  go_wp2
  go_loopw [3, 4] (fun o iv wr => ∃ (k : Nat) (a : Option Addr) (c : Nat), k ≤ p.size + 1 ∧ iv = .int .i64 k ∧ o = .slice a k c ∧ Hid (wr.ownsRow (w.heap.size + 1) 3 1 (.slice a k c) k ((listF k (fun i => (i : Int))).map ival) ∧ wr.heap[w.heap.size]? = some (.cells #[.int .u64 0, .int .u64 0, .int .i64 0, .int .i64 0] 32 (0, 0)) ∧ Below w.heap.size w wr)) (fun _ iv _ => p.size + 1 - (intOf iv).toNat)
  case atStart =>
    refine ⟨0, _, _, Nat.zero_le _, rfl, rfl, Lib.hid ⟨?_, (alloc_old _ _ _ (by simp)).trans (alloc_at _ _ _ rfl), below_box (below_box (Below.refl _ _) _) _⟩⟩
    have := World.ownsRow_made (base := w.heap.size + 1) (e := 3) (size := 1) (w.alloc (.cells #[.int .u64 0, .int .u64 0, .int .i64 0, .int .i64 0] 32)) #[] 0 (by simp) (by unfold maxLen; omega) rfl
    rw [size_box] at this
    exact this
  case round =>
    obtain ⟨k, a, c, hk, rfl, rfl, H⟩ := hrel
    by_cases hlt : k < p.size + 1
    · have hown := H.out.1
      have hsz : w.heap.size + 1 ≤ wr.heap.size := cur_lt H.out.2.1
      have k1 : (k : Int) ≤ (p.size : Int) := by omega
      have FIN : Hid (∀ (v' : Value) (w' : World), w'.ownsRow (w.heap.size + 1) 3 1 v' (k + 1) ((listF k (fun i => (i : Int))).map ival ++ [ival k]) → Below (w.heap.size + 1) wr w' → w'.ownsRow (w.heap.size + 1) 3 1 v' (k + 1) ((listF (k + 1) (fun i => (i : Int))).map ival) ∧ w'.heap[w.heap.size]? = some (.cells #[.int .u64 0, .int .u64 0, .int .i64 0, .int .i64 0] 32 (0, 0)) ∧ Below w.heap.size w w') := Lib.hid fun v' w' h1 h2 => by
        refine ⟨?_, (h2.block _ (by omega)).trans H.out.2.1, H.out.2.2.trans (h2.mono (by omega))⟩
        rw [listF_snoc, List.map_append]
        exact h1
      clear H
      go_wp2_with (at_builtin; refine wp_app1 wr wr (.int .i64 (k : Int)) rfl _ _ 34 rfl (w.heap.size + 1) 3 (.int .i64 0) 8 Try.underlying34 Try.info3 rfl _ _ _ (by rfl) hown (by rfl) rfl (by unfold maxLen; omega) (by omega) hsz (Below.refl _ _) ?_; clear hown; intro v' w6 O6 B6; have F6 := Lib.hid (FIN.out v' w6 O6 B6); obtain ⟨a6, c6, rfl⟩ := own_shape O6; clear O6 B6)
      go_roundw
      case rel => exact ⟨k + 1, a6, c6, by omega, by go_num, rfl, F6⟩
      case measure => simp [intOf]; omega
    · have hk' : k = p.size + 1 := by omega
      subst hk'
      have OF := Lib.hid (specOf (fun i => (i : Int)) p.size c a wr (by omega) (fun i hi => by omega) (Row.of_own H.out.1))
      have R1 := Lib.hid H.out.2
      clear H
      rw [← HM.out] at OF
      unfold bV bitsV at OF
      go_wp2_with fail
      refine OF.out.mono ?_
      rintro e w2 ⟨rfl, hb2⟩
      have hres := kept_block R1.out.1 hb2
      have B2 := Lib.hid (below_seq R1.out.2 hb2)
      have c0 := cur_cell hres 0
      have c1 := cur_cell hres 1
      have c2 := cur_cell hres 2
      have c3 := cur_cell hres 3
      simp at c0 c1 c2 c3
      have f0 := cur_free hres 0
      have f1 := cur_free hres 1
      have f2 := cur_free hres 2
      have f3 := cur_free hres 3
      clear hres hb2 R1
      go_wp2
      exact bodyPost_ret (v := .agg #[.int .u64 m1, .int .u64 m2, .int .i64 m3, .int .i64 m4]) (by simp [results, Try.results31, go_sem, c0, c1, c2, c3]) rfl ⟨rfl, below_set4 B2.out (Nat.le_refl _) _ _ _ _⟩
end Go.Proofs.Yticfnhbjoaecjaa
