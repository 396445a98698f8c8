/- Chapter 6 in the model: the bits of a column. -/
import Derived.Test.YticfnhbjoaecjaaMyT
namespace Go.Proofs.Yticfnhbjoaecjaa
open Go.RowKit
set_option linter.unusedVariables false

def upC (d : Nat → Int) (i : Nat) : Bool := decide (d (i + 1) = d i + 1)
def dnC (d : Nat → Int) (i : Nat) : Bool := decide (d (i + 1) = d i - 1)
/-- The bits of a column of n + 1 elements. -/
def ofM (d : Nat → Int) (n : Nat) : Nat × Nat × Int × Int := (bitsUp (upC d) n, bitsUp (dnC d) n, d n, (n : Int))
theorem up_dn {d : Nat → Int} {i : Nat} (h : upC d i = true) : dnC d i = false := by
  unfold upC at h; unfold dnC
  simp only [decide_eq_true_eq] at h
  simp; omega
theorem bits_more (c : Nat → Bool) (k y K : Nat) (hy : y = bitsUp c k) (hK : K = 2 ^ k) (hk : k < 32) : (c k = true → y + K = bitsUp c (k + 1) ∧ y + K ≤ 4294967296) ∧ (c k = false → y = bitsUp c (k + 1) ∧ y ≤ 4294967296) := by
  have h1 := bitsUp_lt c (k + 1)
  have h3 : 2 ^ (k + 1) ≤ 4294967296 := Nat.pow_le_pow_right (n := 2) (by omega) (show k + 1 ≤ 32 by omega)
  constructor
  · intro h
    have e : y + K = bitsUp c (k + 1) := by rw [bitsUp, h, hy, hK]; rfl
    exact ⟨e, by omega⟩
  · intro h
    have e : y = bitsUp c (k + 1) := by rw [bitsUp, h, hy]; rfl
    exact ⟨e, by omega⟩
theorem of_store {W w9 : World} {r j : Nat} {o1 : Obj} {cs : Array Value} {t : TypeId} (h1 : w9.heap[r]? = some o1) (h2 : w9.heap[r + 1]? = some (.cells cs t (0, 0))) (hb : Below W.heap.size W w9) (hr : W.heap.size ≤ r) (v : Value) :
    (w9.setCell ⟨r + 1, j, none⟩ v).drew.heap[r]? = some o1 ∧ (w9.setCell ⟨r + 1, j, none⟩ v).drew.heap[r + 1]? = some (.cells (cs.setIfInBounds j v) t (0, 0)) ∧ Below W.heap.size W (w9.setCell ⟨r + 1, j, none⟩ v).drew :=
  ⟨kept_grown (w' := w9.setCell ⟨r + 1, j, none⟩ v) h1 (set_grown w9 (r + 1) j v) (by simp), cur_set h2 j v, below_drew (below_write hb (set_grown w9 (r + 1) j v) (by omega))⟩
set_option maxRecDepth 100000 in
set_option maxHeartbeats 4000000 in
theorem specOf (d : Nat → Int) (n cap : Nat) (a : Option Addr) (w : World) (hn : n ≤ 32) (hd : ∀ i, i ≤ n → -1000 ≤ d i ∧ d i ≤ 1000) (hr : Row w a ((listF (n + 1) d).map ival)) :
    Calls Try.prog 52 #[.slice a (n + 1) cap] w fun e w' => e = .returned (bV (ofM d n)) ∧ Below w.heap.size w w' := by
  have R := Lib.hid hr
  have HD := Lib.hid hd
  obtain ⟨b1, o1, rfl, q1⟩ := hr.at (i := n) (by simp [listF])
  rw [ival_at (by simp [listF]), listF_get] at q1
  have hlt := row_lt hr (by simp [listF])
  clear hr hd
  have n1 : (n : Int) < ((n + 1 : Nat) : Int) := by omega
  have n2 : (n : Int) < (n : Int) + 1 := by omega
  have q2 : (w.alloc (.cells #[.int .u64 0, .int .u64 0, .int .i64 0, .int .i64 0] 32)).cell? ⟨b1, o1 + n, none⟩ = some (.int .i64 (d n)) := by
    rw [← q1]; exact (below_box (Below.refl w.heap.size w) _).cell hlt
  unfold bV ofM bitsV
  obtain ⟨z, hz⟩ : ∃ z, z = d n := ⟨_, rfl⟩
  rw [← hz] at q2 ⊢
  clear hz q1
  go_enter Try.func52, Try.ntmps52
  go_wp2
  go_loopw [4] (fun i wr => ∃ k p m : Nat, k ≤ n ∧ i = .int .i64 k ∧ Hid (p = bitsUp (upC d) k ∧ m = bitsUp (dnC d) k) ∧ p ≤ 4294967296 ∧ m ≤ 4294967296 ∧ Hid (wr.heap[w.heap.size]? = some (.cells #[.int .u64 0, .int .u64 0, .int .i64 0, .int .i64 0] 32 (0, 0)) ∧ wr.heap[w.heap.size + 1]? = some (.cells #[.int .u64 p, .int .u64 m, .int .i64 z, .int .i64 n] 32 (0, 0)) ∧ Below w.heap.size w wr)) (fun i _ => n - (intOf i).toNat)
  case atStart => exact ⟨0, 0, 0, Nat.zero_le _, rfl, Lib.hid ⟨rfl, rfl⟩, by omega, by omega, Lib.hid ⟨(alloc_old _ _ _ (by simp)).trans (alloc_at _ _ _ rfl), alloc_at _ _ _ (by simp), below_box (below_box (Below.refl _ _) _) _⟩⟩
  case round =>
    clear q2
    obtain ⟨k, p, m, hk, rfl, HB, hp, hm, H⟩ := hrel
    by_cases hkn : k < n
    · have PW : Hid (∀ w, Calls Try.prog 51 #[.int .i64 k] w fun e w' => e = .returned (.int .u64 ((2 ^ k : Nat) : Int)) ∧ w = w') := Lib.hid (fun w => specPower k w (by omega))
      have h2 : 2 ^ k ≤ 4294967296 := Nat.pow_le_pow_right (n := 2) (by omega) (show k ≤ 32 by omega)
      have UP := Lib.hid (bits_more (upC d) k p (2 ^ k) HB.out.1 rfl (by omega))
      have DN := Lib.hid (bits_more (dnC d) k m (2 ^ k) HB.out.2 rfl (by omega))
      generalize 2 ^ k = K at *
      have RR : Hid (∀ w2, Below w.heap.size w w2 → w2.cell? ⟨b1, o1 + k, none⟩ = some (.int .i64 (d k)) ∧ w2.cell? ⟨b1, o1 + (k + 1), none⟩ = some (.int .i64 (d (k + 1)))) := Lib.hid fun w2 hb2 => by
        have r2 := R.out.below hb2
        constructor
        · obtain ⟨b2, o2, e2, c2⟩ := r2.at (i := k) (by simp [listF]; omega)
          simp at e2
          obtain ⟨rfl, rfl⟩ := e2
          rw [c2, ival_at (by simp [listF]; omega), listF_get]
        · obtain ⟨b2, o2, e2, c2⟩ := r2.at (i := k + 1) (by simp [listF]; omega)
          simp at e2
          obtain ⟨rfl, rfl⟩ := e2
          rw [c2, ival_at (by simp [listF]; omega), listF_get]
      have d1 := HD.out k (by omega)
      have d2 := HD.out (k + 1) (by omega)
      have UC : Hid (upC d k = decide (d (k + 1) = d k + 1)) := Lib.hid rfl
      have DC : Hid (dnC d k = decide (d (k + 1) = d k - 1)) := Lib.hid rfl
      obtain ⟨x, hx⟩ : ∃ x, x = d k := ⟨_, rfl⟩
      obtain ⟨y, hy⟩ : ∃ y, y = d (k + 1) := ⟨_, rfl⟩
      rw [← hx] at RR d1 UC DC
      rw [← hy] at RR d2 UC DC
      clear hx hy HB
      obtain ⟨d3, d4⟩ := d1
      obtain ⟨d5, d6⟩ := d2
      have i1 : (0 : Int) ≤ (k : Int) := by omega
      have i2 : (k : Int) < ((n + 1 : Nat) : Int) := by omega
      have i3 : (k : Int) + 1 < ((n + 1 : Nat) : Int) := by omega
      have i4 : (k : Int) + 1 < (n : Int) + 1 := by omega
      have i5 : (k : Int) < (n : Int) + 1 := by omega
      obtain ⟨l1, l2⟩ := RR.out wr H.out.2.2
      by_cases hu : y = x + 1
      · have hE : (y == x + 1) = true := by simp [hu]
        have hE2 : (y == x - 1) = false := by simp; omega
        have U2 := Lib.hid (UP.out.1 (by rw [UC.out]; simp [hu]))
        have D2 := Lib.hid (DN.out.2 (by rw [DC.out]; simp; omega))
        have qw : IntKind.u64.wrap ((p : Int) + (K : Int)) = ((p + K : Nat) : Int) := by rw [IntKind.wrap_u64]; omega
        generalize p + K = t at *
        clear UC DC UP DN hu
        go_wp2
        go_quiet (fail)
        obtain ⟨w9, hw9⟩ : ∃ w9, w9 = wr.drewN nq := ⟨_, rfl⟩
        rw [← hw9]
        have H9 := Lib.hid (show w9.heap[w.heap.size]? = some (.cells #[.int .u64 0, .int .u64 0, .int .i64 0, .int .i64 0] 32 (0, 0)) ∧ w9.heap[w.heap.size + 1]? = some (.cells #[.int .u64 p, .int .u64 m, .int .i64 z, .int .i64 n] 32 (0, 0)) ∧ Below w.heap.size w w9 by rw [hw9]; exact ⟨H.out.1, H.out.2.1, below_seq H.out.2.2 (belowN nq)⟩)
        clear hw9 H l1 l2
        have c0 := cur_cell H9.out.2.1 0
        simp at c0
        have f0 := cur_free H9.out.2.1 0
        go_wp2
        go_region_law (refine step_callW w9.drew rfl (by rfl) 51 _ _ rfl _ (by kernel_rfl) Try.call51 _ (PW.out w9.drew) ?_; rintro e w4 ⟨rfl, rfl⟩; refine ⟨_, rfl, ?_⟩)
        all_goals
          obtain ⟨w10, hw10⟩ : ∃ w10, w10 = (w9.setCell ⟨w.heap.size + 1, 0, none⟩ (.int .u64 (t : Int))).drew := ⟨_, rfl⟩
          rw [← hw10]
          have H10 := Lib.hid (show w10.heap[w.heap.size]? = some (.cells #[.int .u64 0, .int .u64 0, .int .i64 0, .int .i64 0] 32 (0, 0)) ∧ w10.heap[w.heap.size + 1]? = some (.cells #[.int .u64 (t : Int), .int .u64 m, .int .i64 z, .int .i64 n] 32 (0, 0)) ∧ Below w.heap.size w w10 by
            rw [hw10]
            exact of_store H9.out.1 H9.out.2.1 H9.out.2.2 (Nat.le_refl _) _)
          clear hw10 H9 c0 f0
          obtain ⟨l1, l2⟩ := RR.out w10 H10.out.2.2
          go_wp2
          go_quiet (fail)
          go_wp2
          go_roundw
          case rel => exact ⟨k + 1, t, m, by omega, by go_num, Lib.hid ⟨U2.out.1, D2.out.1⟩, U2.out.2, D2.out.2, Lib.hid ⟨H10.out.1, H10.out.2.1, below_seq H10.out.2.2 (belowN _)⟩⟩
          case measure => simp [intOf]; omega
      · have hE : (y == x + 1) = false := by simp [hu]
        have U2 := Lib.hid (UP.out.2 (by rw [UC.out]; simp [hu]))
        by_cases hv : y = x - 1
        · have hE2 : (y == x - 1) = true := by simp [hv]
          have D2 := Lib.hid (DN.out.1 (by rw [DC.out]; simp [hv]))
          have qw : IntKind.u64.wrap ((m : Int) + (K : Int)) = ((m + K : Nat) : Int) := by rw [IntKind.wrap_u64]; omega
          generalize m + K = t at *
          clear UC DC UP DN hu hv
          go_wp2
          go_quiet (fail)
          obtain ⟨w9, hw9⟩ : ∃ w9, w9 = wr.drewN nq := ⟨_, rfl⟩
          rw [← hw9]
          have H9 := Lib.hid (show w9.heap[w.heap.size]? = some (.cells #[.int .u64 0, .int .u64 0, .int .i64 0, .int .i64 0] 32 (0, 0)) ∧ w9.heap[w.heap.size + 1]? = some (.cells #[.int .u64 p, .int .u64 m, .int .i64 z, .int .i64 n] 32 (0, 0)) ∧ Below w.heap.size w w9 by rw [hw9]; exact ⟨H.out.1, H.out.2.1, below_seq H.out.2.2 (belowN nq)⟩)
          clear hw9 H l1 l2
          obtain ⟨l1, l2⟩ := RR.out w9 H9.out.2.2
          go_wp2
          go_quiet (fail)
          obtain ⟨w8, hw8⟩ : ∃ w8, w8 = w9.drewN nq := ⟨_, rfl⟩
          rw [← hw8]
          have H8 := Lib.hid (show w8.heap[w.heap.size]? = some (.cells #[.int .u64 0, .int .u64 0, .int .i64 0, .int .i64 0] 32 (0, 0)) ∧ w8.heap[w.heap.size + 1]? = some (.cells #[.int .u64 p, .int .u64 m, .int .i64 z, .int .i64 n] 32 (0, 0)) ∧ Below w.heap.size w w8 by rw [hw8]; exact ⟨H9.out.1, H9.out.2.1, below_seq H9.out.2.2 (belowN nq)⟩)
          clear hw8 H9 l1 l2
          have c0 := cur_cell H8.out.2.1 1
          simp at c0
          have f0 := cur_free H8.out.2.1 1
          go_wp2
          go_region_law (refine step_callW w8.drew rfl (by rfl) 51 _ _ rfl _ (by kernel_rfl) Try.call51 _ (PW.out w8.drew) ?_; rintro e w4 ⟨rfl, rfl⟩; refine ⟨_, rfl, ?_⟩)
          all_goals
            obtain ⟨w10, hw10⟩ : ∃ w10, w10 = (w8.setCell ⟨w.heap.size + 1, 1, none⟩ (.int .u64 (t : Int))).drew := ⟨_, rfl⟩
            rw [← hw10]
            have H10 := Lib.hid (show w10.heap[w.heap.size]? = some (.cells #[.int .u64 0, .int .u64 0, .int .i64 0, .int .i64 0] 32 (0, 0)) ∧ w10.heap[w.heap.size + 1]? = some (.cells #[.int .u64 p, .int .u64 (t : Int), .int .i64 z, .int .i64 n] 32 (0, 0)) ∧ Below w.heap.size w w10 by
              rw [hw10]
              exact of_store H8.out.1 H8.out.2.1 H8.out.2.2 (Nat.le_refl _) _)
            clear hw10 H8 c0 f0
            go_wp2
            go_roundw
            case rel => exact ⟨k + 1, p, t, by omega, by go_num, Lib.hid ⟨U2.out.1, D2.out.1⟩, U2.out.2, D2.out.2, H10⟩
            case measure => simp [intOf]; omega
        · have hE2 : (y == x - 1) = false := by simp [hv]
          have D2 := Lib.hid (DN.out.2 (by rw [DC.out]; simp [hv]))
          clear UC DC UP DN hu hv
          go_wp2
          go_quiet (fail)
          obtain ⟨w9, hw9⟩ : ∃ w9, w9 = wr.drewN nq := ⟨_, rfl⟩
          rw [← hw9]
          have H9 := Lib.hid (show w9.heap[w.heap.size]? = some (.cells #[.int .u64 0, .int .u64 0, .int .i64 0, .int .i64 0] 32 (0, 0)) ∧ w9.heap[w.heap.size + 1]? = some (.cells #[.int .u64 p, .int .u64 m, .int .i64 z, .int .i64 n] 32 (0, 0)) ∧ Below w.heap.size w w9 by rw [hw9]; exact ⟨H.out.1, H.out.2.1, below_seq H.out.2.2 (belowN nq)⟩)
          clear hw9 H l1 l2
          obtain ⟨l1, l2⟩ := RR.out w9 H9.out.2.2
          go_wp2
          go_quiet (fail)
          go_wp2
          go_roundw
          case rel => exact ⟨k + 1, p, m, by omega, by go_num, Lib.hid ⟨U2.out.1, D2.out.1⟩, U2.out.2, D2.out.2, Lib.hid ⟨H9.out.1, H9.out.2.1, below_seq H9.out.2.2 (belowN _)⟩⟩
          case measure => simp [intOf]; omega
    · have hk' : k = n := by omega
      subst hk'
      have d0 := cur_cell H.out.2.1 0
      have d1 := cur_cell H.out.2.1 1
      have d2 := cur_cell H.out.2.1 2
      have d3 := cur_cell H.out.2.1 3
      have c0 := cur_cell H.out.1 0
      have c1 := cur_cell H.out.1 1
      have c2 := cur_cell H.out.1 2
      have c3 := cur_cell H.out.1 3
      simp at c0 c1 c2 c3 d0 d1 d2 d3
      have f0 := cur_free H.out.1 0
      have f1 := cur_free H.out.1 1
      have f2 := cur_free H.out.1 2
      have f3 := cur_free H.out.1 3
      go_wp2
      exact bodyPost_ret (v := .agg #[.int .u64 p, .int .u64 m, .int .i64 z, .int .i64 k]) (by simp [results, Try.results52, go_sem, c0, c1, c2, c3]) rfl ⟨by rw [HB.out.1, HB.out.2], below_set4 H.out.2.2 (Nat.le_refl _) _ _ _ _⟩
end Go.Proofs.Yticfnhbjoaecjaa
