/- Rows of records: marked, held. -/
import Derived.Test.YtaedamnhobcdlaaRecU
import Derived.Test.YtaedamnhobcdlaaStrs
import Derived.Deep.RegionHeld3
namespace Go.Proofs.Ytaedamnhobcdlaa
open Go.RowKit
set_option linter.unusedVariables false
set_option maxRecDepth 100000

def mkRecAt (k : Nat) : RecM := ⟨decide (k % 3 = 0), ((k + 1 : Nat) : Int), ((k + 2 : Nat) : Int), strL (markL (k + 3))⟩
def marksR (k n : Nat) : List RecM := (List.range n).map fun i => mkRecAt (k + i * 4)
theorem marksR_length (k n : Nat) : (marksR k n).length = n := by simp [marksR]
theorem marksR_succ (k n : Nat) : marksR k (n + 1) = marksR k n ++ [mkRecAt (k + n * 4)] := by simp [marksR, List.range_succ]
theorem marksR_at {k n i : Nat} (h : i < (marksR k n).length) : (marksR k n)[i] = mkRecAt (k + i * 4) := by simp [marksR]
def markR (k j : Nat) (l : List RecM) : List RecM := marksR k j ++ l.drop j
theorem markR_zero (k : Nat) (l : List RecM) : markR k 0 l = l := by simp [markR, marksR]
theorem markR_length (k j : Nat) (l : List RecM) (h : j ≤ l.length) : (markR k j l).length = l.length := by simp [markR, marksR_length]; omega
theorem markR_set (k j : Nat) (l : List RecM) (h : j < l.length) : (markR k j l).set j (mkRecAt (k + j * 4)) = markR k (j + 1) l := by
  unfold markR
  rw [List.set_append_right _ _ (by rw [marksR_length]; omega), marksR_length, Nat.sub_self, List.drop_eq_getElem_cons h, List.set_cons_zero, marksR_succ, List.append_assoc]
  rfl
theorem markR_done (k : Nat) (l : List RecM) : markR k l.length l = marksR k l.length := by simp [markR]
def mcRecS (l : List RecM) : Nat := l.length * 4
theorem mcRecS_le {l : List RecM} (h : szRecS l ≤ 1048576) : mcRecS l ≤ 1000000000000 := by unfold szRecS at h; unfold mcRecS; omega
def mkRecS (k : Nat) (l : List RecM) : List RecM := marksR k l.length
set_option maxHeartbeats 2000000 in
theorem lawsMarkRecS (base g n cap k : Nat) (l : List RecM) (w : World) (hn : l.length = n) (hk : k + n * 4 ≤ 4611686018427387904) (hown : w.ownsRow base 30 4 (.slice (some ⟨g, 0, none⟩) n cap) n (flatG recL l)) :
    Calls Try.prog 32 #[.slice (some ⟨g, 0, none⟩) n cap, .int .i64 k] w fun e w' => e = .returned (.int .i64 ((k + n * 4 : Nat) : Int)) ∧ w'.ownsRow base 30 4 (.slice (some ⟨g, 0, none⟩) n cap) n (flatG recL (marksR k n)) ∧ w.grownBy w' (some g) := by
  subst hn
  have H0 := Lib.hid hown
  clear hown
  go_enter Try.func32, Try.ntmps32
  go_wp2
  go_loopw [1, 5] (fun kv i wr => ∃ j K : Nat, j ≤ l.length ∧ K ≤ 4611686018427387904 ∧ kv = .int .i64 (K : Int) ∧ i = .int .i64 j ∧ Hid (K = k + j * 4) ∧ Hid (wr.ownsRow base 30 4 (.slice (some ⟨g, 0, none⟩) l.length cap) l.length (flatG recL (markR k j l)) ∧ w.grownBy wr (some g))) (fun _ i _ => l.length - (intOf i).toNat)
  case atStart => exact ⟨0, k, Nat.zero_le _, by omega, rfl, rfl, Lib.hid (by omega), Lib.hid ⟨by rw [markR_zero]; exact H0.out, World.grownBy.refl _ _⟩⟩
  case round =>
    obtain ⟨j, K, hj, hK, rfl, rfl, HK, HO⟩ := hrel
    by_cases hlt : j < l.length
    · have hml := markR_length k j l hj
      have hown := HO.out.1
      have cc := own_elem recL_len hown (k := j) (by omega)
      obtain ⟨p, hp⟩ : ∃ p, (markR k j l)[j] = p := ⟨_, rfl⟩
      rw [hp] at cc
      obtain ⟨p0, p1, p2, p3⟩ := p
      have c0 : wr.cell? ⟨g, j * 4, none⟩ = some (.bool p0) := cc 0 (by decide)
      have c1 : wr.cell? ⟨g, j * 4 + 1, none⟩ = some (.int .i64 p1) := cc 1 (by decide)
      have c2 : wr.cell? ⟨g, j * 4 + 2, none⟩ = some (.int .i64 p2) := cc 2 (by decide)
      have c3 : wr.cell? ⟨g, j * 4 + 3, none⟩ = some (.string p3) := cc 3 (by decide)
      have f0 := hown.frozenAt (j * 4)
      have f1 := hown.frozenAt (j * 4 + 1)
      have f2 := hown.frozenAt (j * 4 + 2)
      have hKb : K + 4 ≤ 4611686018427387904 + 4 := by omega
      have T : Hid (∀ w, Calls Try.prog 63 #[.int .i64 ((K : Int) + 2 + 1)] w fun e w' => e = .returned (.string (strL (markL (K + 3)))) ∧ Below w.heap.size w w') := Lib.hid (fun w => by
        have := lawsMarkText (K + 3) w (by have := HK.out; omega)
        rw [show ((K + 3 : Nat) : Int) = (K : Int) + 2 + 1 from by omega] at this
        exact this)
      have M := Lib.hid (markR_set k j l hlt)
      have td : (K : Int).tmod 3 = (K : Int) % 3 := Int.tmod_eq_emod_of_nonneg (by omega)
      obtain ⟨q, hq⟩ : ∃ q, ((K : Int) % 3 == 0) = q := ⟨_, rfl⟩
      have EM : Hid (mkRecAt (k + j * 4) = ⟨q, (K : Int) + 1, (K : Int) + 2, strL (markL (K + 3))⟩) := Lib.hid (by
        unfold mkRecAt; rw [← HK.out, ← hq]
        have e : decide (K % 3 = 0) = ((K : Int) % 3 == 0) := by rw [Bool.eq_iff_iff]; simp; omega
        rw [e]
        rfl)
      rw [EM.out] at M
      obtain ⟨y, hy⟩ : ∃ y, strL (markL (K + 3)) = y := ⟨_, rfl⟩
      rw [hy] at T M
      clear EM hy
      obtain ⟨W3, hW3⟩ : ∃ W3, W3 = ((wr.setCell ⟨g, j * 4, none⟩ (.bool q)).setCell ⟨g, j * 4 + 1, none⟩ (.int .i64 ((K : Int) + 1))).setCell ⟨g, j * 4 + 2, none⟩ (.int .i64 ((K : Int) + 2)) := ⟨_, rfl⟩
      have O1 := hown.stored (j * 4) (.bool q)
      have O2 := O1.1.stored (j * 4 + 1) (.int .i64 ((K : Int) + 1))
      have O3 := O2.1.stored (j * 4 + 2) (.int .i64 ((K : Int) + 2))
      rw [← hW3] at O3
      have G3 := Lib.hid (grown_trans (grown_trans (grown_trans HO.out.2 O1.2) O2.2) O3.2)
      have F3 := Lib.hid (flatG_set recL_len ⟨q, (K : Int) + 1, (K : Int) + 2, y⟩ (markR k j l) j (by omega))
      rw [M.out] at F3
      have hlen : j * 4 + 3 < l.length * 4 := by omega
      have R3 := Lib.hid O3.1
      have C3 : Hid (∀ w' : World, Below W3.heap.size W3 w' → w'.cell? ⟨g, j * 4 + 3, none⟩ = some (.string p3)) := Lib.hid (fun w' hb => by
        have := (own_below R3.out hb).cellAt (j * 4 + 3) (by omega)
        rw [this, List.getElem?_set_ne (by omega), List.getElem?_set_ne (by omega), List.getElem?_set_ne (by omega), flatG_at recL_len _ j 3 (by omega) (by decide), hp]; rfl)
      clear O1 O2 O3 hown cc hp HO
      have a2 : (K : Int) + 1 + 1 = (K : Int) + 2 := by omega
      go_wp2_with fail
      rw [← hW3]
      clear hW3 c0 c1 c2 c3 f0 f1 f2
      refine (T.out _).mono ?_
      rintro e w2 ⟨rfl, hb⟩
      have O4 := own_below R3.out hb
      have f3 := O4.frozenAt (j * 4 + 3)
      have c3 := C3.out w2 hb
      have st := O4.stored (j * 4 + 3) (.string y)
      have R := Lib.hid (And.intro (show (w2.setCell ⟨g, j * 4 + 3, none⟩ (.string y)).ownsRow base 30 4 (.slice (some ⟨g, 0, none⟩) l.length cap) l.length (flatG recL (markR k (j + 1) l)) by rw [← F3.out]; exact st.1) (grown_trans (grown_trans G3.out (below_grown hb (some g))) st.2))
      clear st O4 hb T C3 R3 G3 F3 M
      go_wp2
      go_roundw
      case rel => exact ⟨j + 1, K + 4, by omega, by have := HK.out; omega, by go_num, by go_num, Lib.hid (by have := HK.out; omega), R⟩
      case measure => simp [intOf]; omega
    · have hj' : j = l.length := by omega
      subst hj'
      have h1 := HO.out.1
      rw [markR_done] at h1
      have e := HK.out
      have R := Lib.hid (And.intro h1 HO.out.2)
      have EK := Lib.hid e
      clear h1 HO e
      go_wp2
      go_ret
      exact ⟨ret_int (by rw [EK.out]), R.out.1, R.out.2⟩
set_option maxHeartbeats 400000 in
theorem lawsMarkRecSNil (c k : Nat) (w : World) (hk : k ≤ 4611686018427387904) : Calls Try.prog 32 #[.slice none 0 c, .int .i64 k] w fun e w' => e = .returned (.int .i64 k) ∧ w = w' := by
  go_enter Try.func32, Try.ntmps32
  go_wp2
  go_loopw [1, 5] (fun kv i wr => kv = .int .i64 k ∧ i = .int .i64 0 ∧ wr = w) (fun _ _ _ => 0)
  case atStart => exact ⟨rfl, rfl, rfl⟩
  case round =>
    obtain ⟨rfl, rfl, rfl⟩ := hrel
    go_wp2
    go_ret
    exact ⟨rfl, rfl⟩
theorem uMarkRecS (lo hi k : Nat) (c : Value) (l : List RecM) (w : World) (hk : k + mcRecS l ≤ 4611686018427387904) (h : RecSOwn lo hi [c] l w) :
    Calls Try.prog 32 #[c, .int .i64 k] w (MarkPost (RecSOwn lo hi [c] (mkRecS k l)) lo hi (k + mcRecS l) w) := by
  obtain ⟨a, cap, hc, ho, hh⟩ := h
  simp at hc
  subst hc
  unfold mcRecS at hk ⊢
  rcases ho.2 with ⟨hv, hn⟩ | ⟨g, cap', cur, hv, _⟩
  · simp at hv
    obtain ⟨rfl, h0, rfl⟩ := hv
    have e : l = [] := List.eq_nil_of_length_eq_zero (by omega)
    subst e
    refine (lawsMarkRecSNil _ k w (by omega)).mono ?_
    rintro e w' ⟨rfl, rfl⟩
    exact ⟨k, rfl, by simp, RecSOwn.nil _ _ _, Chg.refl _ _ _⟩
  · simp at hv
    obtain ⟨rfl, rfl⟩ := hv
    refine (lawsMarkRecS lo g l.length cap k l w rfl hk ho).mono ?_
    rintro e w' ⟨rfl, h1, h2⟩
    refine ⟨_, rfl, rfl, ⟨_, cap, by unfold mkRecS; rw [marksR_length], by unfold mkRecS; rw [marksR_length]; exact h1, by unfold mkRecS; rw [marksR_length]; exact hh⟩, Chg.of_grown h2 (fun b hb => ?_)⟩
    have hg : Value.ownBlock (.slice (some ⟨g, 0, none⟩) l.length cap) = some g := rfl
    simp at hb
    subst hb
    exact ⟨(ho.lt g hg).1, hh g hg⟩
set_option maxHeartbeats 2000000 in
theorem lawsHeldRecS (a : Option Addr) (n cap k : Nat) (w : World) (hk : k + n * 4 ≤ 4611686018427387904) (r : Row w a (flatG recL (marksR k n))) :
    Calls Try.prog 33 #[.slice a n cap, .int .i64 k] w fun e w' => e = .returned (.int .i64 ((k + n * 4 : Nat) : Int)) ∧ Below w.heap.size w w' := by
  have R := Lib.hid r
  clear r
  go_enter Try.func33, Try.ntmps33
  go_wp2
  go_loopw [1, 5] (fun kv i wr => ∃ j K : Nat, j ≤ n ∧ K ≤ 4611686018427387904 ∧ kv = .int .i64 (K : Int) ∧ i = .int .i64 j ∧ Hid (K = k + j * 4) ∧ Hid (Below w.heap.size w wr)) (fun _ i _ => n - (intOf i).toNat)
  case atStart => exact ⟨0, k, Nat.zero_le _, by omega, rfl, rfl, Lib.hid (by omega), Lib.hid (Below.refl _ _)⟩
  case round =>
    obtain ⟨j, K, hj, hK, rfl, rfl, HK, HB⟩ := hrel
    by_cases hlt : j < n
    · have hl : j < (marksR k n).length := by rw [marksR_length]; exact hlt
      obtain ⟨b1, o1, rfl, q0, q1, q2, q3⟩ := (R.out.below HB.out).rec hl
      rw [marksR_at hl] at q0 q1 q2 q3
      have T : Hid (∀ w, Calls Try.prog 63 #[.int .i64 ((K : Int) + 2 + 1)] w fun e w' => e = .returned (.string (strL (markL (K + 3)))) ∧ Below w.heap.size w w') := Lib.hid (fun w => by
        have := lawsMarkText (K + 3) w (by have := HK.out; omega)
        rw [show ((K + 3 : Nat) : Int) = (K : Int) + 2 + 1 from by omega] at this
        exact this)
      have td : (K : Int).tmod 3 = (K : Int) % 3 := Int.tmod_eq_emod_of_nonneg (by omega)
      have EM : mkRecAt (k + j * 4) = ⟨((K : Int) % 3 == 0), (K : Int) + 1, (K : Int) + 2, strL (markL (K + 3))⟩ := by
        unfold mkRecAt; rw [← HK.out]
        have e : decide (K % 3 = 0) = ((K : Int) % 3 == 0) := by rw [Bool.eq_iff_iff]; simp; omega
        rw [e]
        rfl
      rw [EM] at q0 q1 q2 q3
      obtain ⟨q, hq⟩ : ∃ q, ((K : Int) % 3 == 0) = q := ⟨_, rfl⟩
      obtain ⟨y, hy⟩ : ∃ y, strL (markL (K + 3)) = y := ⟨_, rfl⟩
      rw [hy] at T q3
      rw [hq] at q0
      simp only at q0 q1 q2 q3
      clear EM hy
      have a2 : (K : Int) + 1 + 1 = (K : Int) + 2 := by omega
      have hB : (y.toList == y.toList) = true := by simp
      have hqq : (q != q) = false := by simp
      have hj0 : (0 : Int) ≤ (j : Int) := by omega
      have hj1 : (j : Int) < (n : Int) := by omega
      have KP := Lib.hid (fun w' (hb : Below wr.heap.size wr w') => (show w'.cell? ⟨b1, o1 + j * 4 + 3, none⟩ = some (.string y) from cell_keep q3 hb))
      have HD := Lib.hid (below_drew (Below.refl wr.heap.size wr))
      go_wp2_with fail
      go_region_held3 (fun w' => w'.cell? ⟨b1, o1 + j * 4 + 3, none⟩ = some (.string y)) (exact KP.out _ HD.out)
        ((go_at_call 63; refine (T.out _).mono ?_; rintro e w2 ⟨rfl, hb2⟩; have HD := Lib.hid (below_seq HD.out hb2); clear hb2 T))
      have B2 := Lib.hid (below_seq HB.out HD.out)
      clear HD KP q0 q1 q2 q3 HB
      go_wp2
      go_roundw
      case rel => exact ⟨j + 1, K + 4, by omega, by have := HK.out; omega, by go_num, by go_num, Lib.hid (by have := HK.out; omega), B2⟩
      case measure => simp [intOf]; omega
    · have hj' : j = n := by omega
      subst hj'
      have EK := Lib.hid HK.out
      clear HK
      go_wp2
      go_ret
      exact ⟨ret_int (by rw [EK.out]), HB.out⟩
theorem uHeldRecS (k : Nat) (c : Value) (l : List RecM) (w : World) (hk : k + mcRecS l ≤ 4611686018427387904) (h : RecSIn [c] (mkRecS k l) w) :
    Calls Try.prog 33 #[c, .int .i64 k] w (HeldPost (k + mcRecS l) w) := by
  obtain ⟨a, cap, hc, _, _, hr⟩ := h
  simp at hc
  subst hc
  unfold mkRecS at hr ⊢
  rw [marksR_length]
  unfold mcRecS at hk ⊢
  exact (lawsHeldRecS a l.length cap k w hk hr).mono (by rintro e w' ⟨rfl, hb⟩; exact ⟨_, rfl, rfl, hb⟩)
end Go.Proofs.Ytaedamnhobcdlaa
