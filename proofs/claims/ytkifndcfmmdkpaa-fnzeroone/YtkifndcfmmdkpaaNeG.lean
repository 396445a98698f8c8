/- The digits of a number, sorted lists, the first fault of a net: plain, and in the program. -/
import Derived.Test.YtkifndcfmmdkpaaNeR
import Derived.Test.YtkifndcfmmdkpaaPow
import Derived.Test.YtkifndcfmmdkpaaBitsP
import Derived.Deep.RegionWith
import Derived.Test.YtkifndcfmmdkpaaArr
namespace Go.Proofs.Ytkifndcfmmdkpaa
open Go.RowKit
set_option linter.unusedVariables false
set_option maxRecDepth 100000

def digN (k n i : Nat) : Nat := k / 2 ^ (n - 1 - i) % 2
def digitsM (k n : Nat) : List Int := (List.range n).map fun i => ((digN k n i : Nat) : Int)
theorem digitsM_length (k n : Nat) : (digitsM k n).length = n := by simp [digitsM]
def sortedB (l : List Int) : Bool := (List.range (l.length - 1)).all fun i => decide (l.getD i 0 ≤ l.getD (i + 1) 0)
theorem sortedB_true {l : List Int} : sortedB l = true ↔ ∀ i, i + 1 < l.length → l.getD i 0 ≤ l.getD (i + 1) 0 := by
  unfold sortedB
  rw [List.all_eq_true]
  constructor
  · intro h i hi
    have := h i (by simp; omega)
    simpa using this
  · intro h i hi
    have : i + 1 < l.length := by simp at hi; omega
    simpa using h i this
theorem sortedB_false {l : List Int} {i : Nat} (hi : i + 1 < l.length) (h : l.getD (i + 1) 0 < l.getD i 0) : sortedB l = false := by
  rw [Bool.eq_false_iff]
  intro hs
  have := sortedB_true.1 hs i hi
  omega
def faultAt (m : NetM) (k : Nat) : Bool := !sortedB (runW m.ws (digitsM k m.n.toNat))
def faultK (m : NetM) : Option Nat := (List.range (2 ^ m.n.toNat)).find? (faultAt m)
def provB (m : NetM) : Bool := netOkB m && decide (m.n ≤ 12)
def faultM (m : NetM) : List Int := if provB m = true then (match faultK m with | some k => digitsM k m.n.toNat | none => []) else []
def sortsB (m : NetM) : Bool := provB m && (faultK m).isNone
theorem faultK_some {m : NetM} {k : Nat} (hk : k < 2 ^ m.n.toNat) (h1 : faultAt m k = true) (h2 : ∀ j, j < k → faultAt m j = false) : faultK m = some k := by
  unfold faultK
  rw [List.find?_range_eq_some]
  exact ⟨h1, by simpa using hk, fun j hj => by simp [h2 j hj]⟩
theorem faultK_none {m : NetM} (h2 : ∀ j, j < 2 ^ m.n.toNat → faultAt m j = false) : faultK m = none := by
  unfold faultK
  rw [List.find?_range_eq_none]
  intro j hj
  simp [h2 j hj]
theorem provB_ok {m : NetM} (h : provB m = true) : ∃ n : Nat, m.n = n ∧ 1 ≤ n ∧ n ≤ 12 ∧ (∀ t ∈ m.ws, WireOk n t) ∧ m.ws.length ≤ 2100 ∧ netOkB m = true := by
  unfold provB at h
  simp only [Bool.and_eq_true, decide_eq_true_eq] at h
  obtain ⟨n, h0, h1, h2, h3, h4⟩ := netOkB_ok h.1
  exact ⟨n, h0, h1, by omega, h4, h3, h.1⟩
theorem faultM_le (m : NetM) : (faultM m).length ≤ 64 := by
  unfold faultM
  split
  · rename_i h
    obtain ⟨n, h0, h1, h2, _⟩ := provB_ok h
    split
    · rw [digitsM_length]; omega
    · simp
  · simp
theorem faultM_bd (m : NetM) : szIntS (faultM m) ≤ 1000000000000 := Nat.le_trans (faultM_le m) (by decide)

/-- The first i digits, zeros behind. -/
def digF (k n i : Nat) : Nat → Int := fun j => if j < i then ((digN k n j : Nat) : Int) else 0
theorem digF_zero (k n : Nat) : digF k n 0 = fun _ => 0 := by funext j; simp [digF]
theorem digF_succ (k n i : Nat) : upd (digF k n i) i ((digN k n i : Nat) : Int) = digF k n (i + 1) := by
  funext j
  unfold upd digF
  by_cases e : j = i
  · subst e; simp
  · rw [if_neg e]
    by_cases h : j < i
    · rw [if_pos h, if_pos (by omega)]
    · rw [if_neg h, if_neg (by omega)]
theorem digF_list (k n : Nat) : (List.range n).map (fun j => Value.int .i64 (digF k n n j)) = (digitsM k n).map ival := by
  unfold digitsM
  rw [List.map_map]
  apply List.map_congr_left
  intro j hj
  have : j < n := by simpa using hj
  simp [digF, this, ival]
theorem own_arrD {w : World} {base n g : Nat} (h : w.ownsRow base 3 1 (.slice (some ⟨g, 0, none⟩) n n) n (List.replicate n (.int .i64 0))) : ArrAt w g 3 n (fun _ => 0) := by
  rcases h.2 with ⟨hv, _⟩ | ⟨g', cap', cur, hv, hbg, hg, h1', h2, h3, h4⟩
  · simp at hv
  simp at hv
  obtain ⟨rfl, rfl⟩ := hv
  have hcur : cur.toList = List.replicate n (.int .i64 0) := by rw [← h4, List.take_of_length_le (by simp [h3])]
  unfold ArrAt
  rw [hg]
  congr 2
  apply Array.ext'
  rw [hcur]
  unfold cellsA
  apply List.ext_getElem <;> simp
theorem arrD_own {w : World} {b n base : Nat} {F : Nat → Int} (h : ArrAt w b 3 n F) (hb : base ≤ b) (hn : n ≤ maxLen) : w.ownsRow base 3 1 (.slice (some ⟨b, 0, none⟩) n n) n ((List.range n).map fun j => Value.int .i64 (F j)) := by
  refine ⟨by simp, .inr ⟨b, n, _, rfl, hb, h, Nat.le_refl _, hn, by simp [cellsA], ?_⟩⟩
  simp [cellsA, List.take_of_length_le]
theorem dig_and (k c : Nat) (hk : k < 4096) : bits .and .i64 ((k : Int) / 2 ^ c) (1 : Int) = (k : Int) / 2 ^ c % 2 := by
  rw [show (k : Int) / 2 ^ c % 2 = ((k / 2 ^ c % 2 : Nat) : Int) from by simp]
  have e : (k : Int) / 2 ^ c = ((k / 2 ^ c : Nat) : Int) := by simp
  have hlt : k / 2 ^ c < 4096 := Nat.lt_of_le_of_lt (Nat.div_le_self _ _) hk
  rw [e]
  generalize k / 2 ^ c = a at *
  have h := ofInt_u64 a (by omega)
  have h2 := ofInt_u64 1 (by omega)
  show IntKind.i64.wrap ((BitVec.ofInt 64 (a : Int) &&& BitVec.ofInt 64 ((1 : Nat) : Int)).toNat : Int) = _
  rw [BitVec.toNat_and, h, h2, Nat.and_one_is_mod]
  simp [IntKind.wrap, IntKind.bits, IntKind.signed]
  omega
set_option maxHeartbeats 1000000 in
theorem implDigits (k n : Nat) (w : World) (h1 : 1 ≤ n) (h2 : n ≤ 12) (hk : k < 2 ^ n) : Calls Try.prog 75 #[.int .i64 k, .int .i64 n] w fun e w' => ∃ g, e = .returned (.slice (some ⟨g, 0, none⟩) n n) ∧ IntSOwn w.heap.size w'.heap.size [.slice (some ⟨g, 0, none⟩) n n] (digitsM k n) w' ∧ Below w.heap.size w w' := by
  have hk' : k < 4096 := Nat.lt_of_lt_of_le hk (Nat.pow_le_pow_right (n := 2) (by omega) h2)
  obtain ⟨i0, hi, hz0, hz1, hz2⟩ := info_parts Try.info3
  clear hk
  go_enter Try.func75, Try.ntmps75
  go_wp2_with (at_make; refine wpList_make_full _ rfl _ _ 28 rfl w.heap.size 3 i0 (.int .i64 0) 1 Try.underlying28 hi hz0 hz1 .i64 .i64 _ _ n rfl rfl rfl rfl (by rw [hz2]; omega) (by unfold maxLen; omega) (Nat.le_refl _) ?_)
  clear hi hz0 hz1 hz2
  intro w1 hown hgr
  rw [toList_madeCells_one] at hown
  have S0 : Hid (ArrAt w1 w.heap.size 3 n (digF k n 0) ∧ Below w.heap.size w w1) := Lib.hid ⟨by rw [digF_zero]; exact own_arrD hown, grown_below hgr⟩
  clear hown hgr
  go_wp2
  go_loopw [11, 6] (fun i _ wr => ∃ j : Nat, j ≤ n ∧ i = .int .i64 j ∧ Hid (ArrAt wr w.heap.size 3 n (digF k n j) ∧ Below w.heap.size w wr)) (fun i _ _ => n - (intOf i).toNat)
  case atStart => exact ⟨0, Nat.zero_le _, rfl, S0⟩
  case round =>
    clear S0
    obtain ⟨j, hj, rfl, H⟩ := hrel
    by_cases hlt : j < n
    · have c0 := H.out.1.cell hlt
      have f0 := H.out.1.free j
      have ha := dig_and k (n - 1 - j) hk'
      have N : Hid (ArrAt (wr.setCell ⟨w.heap.size, j, none⟩ (.int .i64 ((k : Int) / 2 ^ (n - 1 - j) % 2))) w.heap.size 3 n (digF k n (j + 1))) := Lib.hid (by rw [← digF_succ, show (k : Int) / 2 ^ (n - 1 - j) % 2 = ((digN k n j : Nat) : Int) from by simp [digN]]; exact H.out.1.set j _)
      generalize digF k n j j = z at c0
      go_wp2
      go_roundw
      case rel => exact ⟨j + 1, by omega, by go_num, Lib.hid ⟨N.out, H.out.2.setCell (p := ⟨w.heap.size, j, none⟩) (by simp) _⟩⟩
      case measure => simp [intOf]; omega
    · have hj' : j = n := by omega
      subst hj'
      have ho := arrD_own H.out.1 (Nat.le_refl _) (by unfold maxLen; omega)
      rw [digF_list] at ho
      have O := Lib.hid (IntSOwn.mk ho)
      clear ho
      go_wp2
      go_ret
      exact ⟨_, rfl, O.out, H.out.2⟩
set_option maxHeartbeats 1000000 in
theorem implLess (x y : Int) (w : World) : Calls Try.prog 90 #[.int .i64 x, .int .i64 y] w fun e w' => e = .returned (.bool (decide (x < y))) ∧ w = w' := by
  have N : Hid (∀ (z : Int) w, Calls Try.prog 98 #[.int .i64 z] w fun e w' => e = .returned (.bool false) ∧ w = w') := Lib.hid (fun z w => by
    have hz : (z != z) = false := by simp
    go_enter Try.func98, Try.ntmps98
    go_wp2
    go_ret
    exact ⟨rfl, rfl⟩)
  go_enter Try.func90, Try.ntmps90
  go_wp2_with (go_at_call 98; refine (N.out _ _).mono ?_; rintro e w1 ⟨rfl, rfl⟩)
  go_ret
  exact ⟨rfl, rfl⟩
set_option maxHeartbeats 2000000 in
theorem implIsSorted (c : Value) (l : List Int) (w : World) (h : IntSIn [c] l w) (h1 : 1 ≤ l.length) (h2 : l.length ≤ 64) : Calls Try.prog 76 #[c] w fun e w' => e = .returned (.bool (sortedB l)) ∧ Below w.heap.size w w' := by
  obtain ⟨a, cap, rfl, _, _, r⟩ := intSIn_shape h
  have R := Lib.hid r
  clear h r
  go_enter Try.func76, Try.ntmps76
  go_wp2
  go_loopw [3] (fun i wr => ∃ k : Nat, k < l.length ∧ i = .int .i64 k ∧ Hid (Below w.heap.size w wr ∧ ∀ j, k ≤ j → j + 1 < l.length → l.getD j 0 ≤ l.getD (j + 1) 0)) (fun i _ => (intOf i).toNat)
  case atStart => exact ⟨l.length - 1, by omega, by congr 1; omega, Lib.hid ⟨Below.refl _ _, fun j h1 h2 => absurd h2 (by omega)⟩⟩
  case round =>
    obtain ⟨k, hk, rfl, H⟩ := hrel
    cases k with
    | zero =>
      have E : Hid (sortedB l = true) := Lib.hid (sortedB_true.2 (fun i hi => H.out.2 i (by omega) hi))
      go_wp2
      go_ret
      exact ⟨by rw [E.out]; rfl, H.out.1⟩
    | succ k =>
      have r := R.out.below H.out.1
      obtain ⟨b, off, rfl, hc⟩ : ∃ b off, a = some ⟨b, off, none⟩ ∧ ∀ i, i < (l.map ival).length → wr.cell? ⟨b, off + i, none⟩ = (l.map ival)[i]? := by
        rcases r with r | ⟨b, off, rfl, hc⟩
        · simp at r; subst r; simp at h1
        · exact ⟨b, off, rfl, hc⟩
      have q0 : wr.cell? ⟨b, off + k, none⟩ = some (.int .i64 (l.getD k 0)) := (hc k (by simp; omega)).trans (by simp [List.getD, show k < l.length from by omega, ival])
      have q1 : wr.cell? ⟨b, off + (k + 1), none⟩ = some (.int .i64 (l.getD (k + 1) 0)) := (hc (k + 1) (by simp; omega)).trans (by simp [List.getD, hk, ival])
      have EF : Hid (l.getD (k + 1) 0 < l.getD k 0 → sortedB l = false) := Lib.hid (fun h => sortedB_false hk h)
      have NX : Hid (¬ l.getD (k + 1) 0 < l.getD k 0 → ∀ j, k ≤ j → j + 1 < l.length → l.getD j 0 ≤ l.getD (j + 1) 0) := Lib.hid (fun h j h1 h2 => by
        by_cases e : j = k
        · subst e; omega
        · exact H.out.2 j (by omega) h2)
      have L := Lib.hid (implLess (l.getD (k + 1) 0) (l.getD k 0))
      have B := Lib.hid H.out.1
      clear hc r H
      generalize l.getD (k + 1) 0 = x at *
      generalize l.getD k 0 = y at *
      have i1 : (0 : Int) ≤ (k : Int) + 1 := by omega
      have i2 : (k : Int) + 1 < (l.length : Int) := by omega
      have i3 : (0 : Int) ≤ (k : Int) := by omega
      have i4 : (k : Int) < (l.length : Int) := by omega
      have i5 : IntKind.i64.wrap ((k : Int) + 1 - 1) = k := by rw [show (k : Int) + 1 - 1 = k from by omega]; exact wrap_small _ (by omega) (by omega)
      have i6 : IntKind.i64.wrap (k : Int) = k := wrap_small _ (by omega) (by omega)
      have i7 : k < l.length := by omega
      by_cases hxy : x < y
      · rw [show decide (x < y) = true from decide_eq_true hxy] at L
        go_wp2_with fail
        go_region_held3 (fun w' => w'.cell? ⟨b, off + k, none⟩ = some (.int .i64 y) ∧ w'.cell? ⟨b, off + (k + 1), none⟩ = some (.int .i64 x))
          (first | go_keep | exact ⟨q0, q1⟩)
          ((go_at_call 90; refine (L.out _).mono ?_; rintro e w1 ⟨rfl, rfl⟩))
        go_wp2
        go_ret
        exact ⟨by rw [EF.out hxy]; rfl, below_drew B.out⟩
      · rw [show decide (x < y) = false from decide_eq_false hxy] at L
        go_wp2_with fail
        go_region_held3 (fun w' => w'.cell? ⟨b, off + k, none⟩ = some (.int .i64 y) ∧ w'.cell? ⟨b, off + (k + 1), none⟩ = some (.int .i64 x))
          (first | go_keep | exact ⟨q0, q1⟩)
          ((go_at_call 90; refine (L.out _).mono ?_; rintro e w1 ⟨rfl, rfl⟩))
        go_wp2
        go_roundw
        case rel => exact ⟨k, by omega, by go_num, Lib.hid ⟨below_drew B.out, NX.out hxy⟩⟩
        case measure => simp [intOf]
end Go.Proofs.Ytkifndcfmmdkpaa
