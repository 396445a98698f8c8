/- The laws' helpers over rows of records: timesIn, sameRecs (of equal lists). -/
import Derived.Test.YtaedamnhobcdlaaRecQ
import Derived.Test.YtaedamnhobcdlaaRecU
import Derived.Deep.QuietTactic
import Derived.BigQuiet
import Derived.Deep.LoopGhost
import Derived.Deep.RegionHeld3
namespace Go.Proofs.Ytaedamnhobcdlaa
open Go.RowKit
set_option linter.unusedVariables false
set_option linter.unusedSimpArgs false
set_option maxRecDepth 100000

def recEqB (x y : RecM) : Bool := (x.live == y.live && (decide (x.dist = y.dist) && (decide (x.weight = y.weight) && (x.word.toList == y.word.toList))))
theorem recEqB_self (x : RecM) : recEqB x x = true := by unfold recEqB; simp
theorem toList_inj {s t : ByteArray} (h : s.toList = t.toList) : s = t := by
  rw [toList_data, toList_data] at h
  obtain ⟨a⟩ := s
  obtain ⟨b⟩ := t
  have : a = b := Array.toList_inj.1 h
  rw [this]
theorem recEqB_eq {x y : RecM} (h : recEqB x y = true) : x = y := by
  unfold recEqB at h
  simp only [Bool.and_eq_true, beq_iff_eq, decide_eq_true_eq] at h
  obtain ⟨h1, h2, h3, h4⟩ := h
  obtain ⟨x0, x1, x2, x3⟩ := x
  obtain ⟨y0, y1, y2, y3⟩ := y
  simp only at h1 h2 h3 h4
  have := toList_inj h4
  subst h1 h2 h3 this
  rfl
theorem recEqB_diff {x y : RecM} (h : recEqB x y = false) : DiffR x y := by
  unfold DiffR
  by_cases h1 : x.live = y.live
  · by_cases h2 : x.dist = y.dist
    · by_cases h3 : x.weight = y.weight
      · refine .inr (.inr (.inr ⟨h1, h2, h3, fun h4 => ?_⟩))
        unfold recEqB at h
        simp [h1, h2, h3, h4] at h
      · exact .inr (.inr (.inl ⟨h1, h2, h3⟩))
    · exact .inr (.inl ⟨h1, h2⟩)
  · exact .inl h1
/-- How often a record is in a list. -/
def timesB (l : List RecM) (r : RecM) : Nat := (l.filter (recEqB · r)).length
theorem timesB_next {l : List RecM} {r : RecM} {k : Nat} (h : k < l.length) : timesB (l.take (k + 1)) r = timesB (l.take k) r + (if recEqB l[k] r = true then 1 else 0) := by
  unfold timesB
  rw [List.take_succ_eq_append_getElem h, List.filter_append, List.length_append]
  cases e : recEqB l[k] r <;> simp [e]
set_option maxHeartbeats 4000000 in
theorem lawsTimesIn (c : Value) (l : List RecM) (r : RecM) (w : World) (h : RecSIn [c] l w) : Calls Try.prog 15 #[c, .agg #[.bool r.live, .int .i64 r.dist, .int .i64 r.weight, .string r.word]] w fun e w' => e = .returned (.int .i64 (timesB l r : Int)) ∧ Below w.heap.size w w' := by
  obtain ⟨a, cap, rfl, hcap, hm, hr⟩ := recSIn_shape h
  have R := Lib.hid hr
  unfold maxLen at hm
  clear h hr
  obtain ⟨W1, hW1⟩ : ∃ W1, W1 = w.alloc (.cells #[.bool r.live, .int .i64 r.dist, .int .i64 r.weight, .string r.word] 30) := ⟨_, rfl⟩
  have K1 := Lib.hid (show W1.heap[w.heap.size]? = some (.cells #[.bool r.live, .int .i64 r.dist, .int .i64 r.weight, .string r.word] 30 (0, 0)) by rw [hW1]; exact alloc_at _ _ _ rfl)
  have B1 := Lib.hid (show Below w.heap.size w W1 by rw [hW1]; exact below_box (Below.refl _ w) _)
  go_enter Try.func15, Try.ntmps15
  go_wp2_with fail
  rw [← hW1]
  clear hW1
  go_loopg [5, 6] l.length (fun kk n i wr => ∃ k z : Nat, k ≤ l.length ∧ l.length - k = kk ∧ i = .int .i64 k ∧ n = .int .i64 z ∧ z ≤ k ∧ Hid (z = timesB (l.take k) r) ∧ Hid (wr.heap[w.heap.size]? = some (.cells #[.bool r.live, .int .i64 r.dist, .int .i64 r.weight, .string r.word] 30 (0, 0)) ∧ Below w.heap.size w wr))
  case atStart => exact ⟨0, 0, Nat.zero_le _, rfl, rfl, rfl, Nat.le_refl _, Lib.hid rfl, Lib.hid ⟨K1.out, B1.out⟩⟩
  case round =>
    clear K1 B1
    obtain ⟨k, z, hk, hkk, rfl, rfl, hz, HZ, H⟩ := hrel
    by_cases hlt : k < l.length
    · obtain ⟨b1, o1, rfl, q0, q1, q2, q3⟩ := (R.out.below H.out.2).rec hlt
      have NX := Lib.hid (timesB_next (r := r) hlt)
      obtain ⟨x, hx⟩ : ∃ x, l[k] = x := ⟨_, rfl⟩
      rw [hx] at NX q0 q1 q2 q3
      clear hx
      have t0 := cur_cell H.out.1 0
      have t1 := cur_cell H.out.1 1
      have t2 := cur_cell H.out.1 2
      have t3 := cur_cell H.out.1 3
      simp at t0 t1 t2 t3
      have HB := Lib.hid H.out.2
      have HK := Lib.hid H.out.1
      clear H
      have hk0 : (0 : Int) ≤ (k : Int) := by omega
      have hk1 : (k : Int) < (l.length : Int) := by omega
      have KF := Lib.hid (fun (W : World) (h : W.heap = wr.heap) => (show W.heap[w.heap.size]? = some (.cells #[.bool r.live, .int .i64 r.dist, .int .i64 r.weight, .string r.word] 30 (0, 0)) by rw [h]; exact HK.out))
      cases he : recEqB x r
      · have N := Lib.hid (show timesB (l.take (k + 1)) r = z by rw [NX.out, he, HZ.out]; rfl)
        have DD := recEqB_diff he
        clear NX he HZ
        obtain ⟨x0, x1, x2, x3⟩ := x
        obtain ⟨r0, r1, r2, r3⟩ := r
        unfold DiffR at DD
        simp only at DD q0 q1 q2 q3 t0 t1 t2 t3 KF HK
        rcases DD with hd | ⟨rfl, hd⟩ | ⟨rfl, rfl, hd⟩ | ⟨rfl, rfl, rfl, hd⟩
        all_goals
          have hd2 := fun e => hd (Eq.symm e)
          go_wp2_with fail
          go_quiet (fail)
          go_wp2
          go_roundg (l.length - (k + 1))
          case measure => omega
          case rel => exact ⟨k + 1, z, by omega, rfl, by go_num, rfl, by omega, Lib.hid N.out.symm, Lib.hid ⟨HK.out, below_seq HB.out (belowN _)⟩⟩
      · have N := Lib.hid (show timesB (l.take (k + 1)) r = z + 1 by rw [NX.out, he, HZ.out]; rfl)
        obtain rfl := recEqB_eq he
        clear NX he HZ
        go_wp2_with fail
        go_quiet (fail)
        go_wp2
        go_roundg (l.length - (k + 1))
        case measure => omega
        case rel => exact ⟨k + 1, z + 1, by omega, rfl, by go_num, by go_num, by omega, Lib.hid N.out.symm, Lib.hid ⟨HK.out, below_seq HB.out (belowN _)⟩⟩
    · have ek : l.take k = l := List.take_of_length_le (by omega)
      have HE := Lib.hid (show z = timesB l r by rw [← ek]; exact HZ.out)
      have HB := Lib.hid H.out.2
      clear ek HZ H
      go_wp2
      go_ret
      exact ⟨ret_int (by rw [HE.out]), HB.out⟩
set_option maxHeartbeats 2000000 in
theorem lawsSameRecs (c d : Value) (l : List RecM) (w : World) (h : RecSIn [c] l w) (k : RecSIn [d] l w) : Calls Try.prog 21 #[c, d] w (TruePost w) := by
  obtain ⟨a, cap, rfl, hcap, hm, hr⟩ := recSIn_shape h
  obtain ⟨a2, cap2, rfl, _, _, hr2⟩ := recSIn_shape k
  have R := Lib.hid hr
  have R2 := Lib.hid hr2
  unfold maxLen at hm
  clear h hr k hr2
  have hlB : ((l.length : Int) != (l.length : Int)) = false := by simp
  go_enter Try.func21, Try.ntmps21
  go_wp2_with fail
  go_loopg [5] l.length (fun kk i wr => ∃ k : Nat, k ≤ l.length ∧ l.length - k = kk ∧ i = .int .i64 k ∧ Hid (Below w.heap.size w wr))
  case atStart => exact ⟨0, Nat.zero_le _, rfl, rfl, Lib.hid (Below.refl _ _)⟩
  case round =>
    obtain ⟨k, hk, hkk, rfl, HB⟩ := hrel
    by_cases hlt : k < l.length
    · obtain ⟨b1, o1, rfl, q0, q1, q2, q3⟩ := (R.out.below HB.out).rec hlt
      obtain ⟨b2, o2, rfl, p0, p1, p2, p3⟩ := (R2.out.below HB.out).rec hlt
      obtain ⟨x, hx⟩ : ∃ x, l[k] = x := ⟨_, rfl⟩
      rw [hx] at q0 q1 q2 q3 p0 p1 p2 p3
      clear hx
      obtain ⟨x0, x1, x2, x3⟩ := x
      simp only at q0 q1 q2 q3 p0 p1 p2 p3
      have hk0 : (0 : Int) ≤ (k : Int) := by omega
      have hk1 : (k : Int) < (l.length : Int) := by omega
      go_wp2_with fail
      go_quiet (fail)
      go_wp2
      go_roundg (l.length - (k + 1))
      case measure => omega
      case rel => exact ⟨k + 1, by omega, rfl, by go_num, Lib.hid (below_seq HB.out (belowN _))⟩
    · clear R R2
      go_wp2
      go_ret
      exact ⟨rfl, HB.out⟩
end Go.Proofs.Ytaedamnhobcdlaa
