/- Chapter 3 (masks) over bytes: what the program's and the model's functions answer. -/
import Derived.Test.YtigigmffigjpeaaMask
import Derived.Test.YtigigmffigjpeaaByteSU
import Derived.Test.YtigigmffigjpeaaApp
import Derived.Deep.DeepMust
import Derived.Deep.RegionLaw
import Derived.Deep.RegionHeld3
namespace Go.Proofs.Ytigigmffigjpeaa
open Go.RowKit
set_option linter.unusedVariables false

/-- A byte selected. -/
def selU (m : Nat) (a b : UInt8) : UInt8 := UInt8.ofNat (selN m a.toNat b.toNat)
theorem selU_nat (m : Nat) (a b : UInt8) : (selU m a b).toNat = selN m a.toNat b.toNat := by
  unfold selU
  rw [UInt8.toNat_ofNat']
  exact Nat.mod_eq_of_lt (selN_lt8 a.toNat_lt b.toNat_lt)
/-- Bytes selected, of equal lengths up to 4096. -/
def selZ (m : Nat) (l1 l2 : List UInt8) : List UInt8 := List.zipWith (selU m) l1 l2
def selB (m : Nat) (l1 l2 : List UInt8) : List UInt8 := if l1.length = l2.length ∧ l1.length ≤ 4096 then selZ m l1 l2 else []
theorem selB_no {m : Nat} {l1 l2 : List UInt8} (h : ¬ (l1.length = l2.length ∧ l1.length ≤ 4096)) : selB m l1 l2 = [] := by unfold selB; rw [if_neg h]
theorem selB_yes {m : Nat} {l1 l2 : List UInt8} (h : l1.length = l2.length) (h2 : l1.length ≤ 4096) : selB m l1 l2 = selZ m l1 l2 := by unfold selB; rw [if_pos ⟨h, h2⟩]
theorem selZ_len {m : Nat} {l1 l2 : List UInt8} (h : l1.length = l2.length) : (selZ m l1 l2).length = l1.length := by unfold selZ; simp; omega
theorem selB_le (m : Nat) (l1 l2 : List UInt8) : (selB m l1 l2).length ≤ 4096 := by
  by_cases h : l1.length = l2.length ∧ l1.length ≤ 4096
  · rw [selB_yes h.1 h.2, selZ_len h.1]; exact h.2
  · rw [selB_no h]; simp
theorem selZ_at {m : Nat} {l1 l2 : List UInt8} {k : Nat} (h1 : k < l1.length) (h2 : k < l2.length) : (selZ m l1 l2)[k]'(by unfold selZ; simp; omega) = selU m l1[k] l2[k] := by
  unfold selZ; simp
theorem selZ_snoc {m : Nat} {l1 l2 : List UInt8} {k : Nat} (h1 : k < l1.length) (h2 : k < l2.length) : (selZ m l1 l2).take (k + 1) = (selZ m l1 l2).take k ++ [selU m l1[k] l2[k]] := by
  have h : k < (selZ m l1 l2).length := by unfold selZ; simp; omega
  rw [List.take_succ_eq_append_getElem h, selZ_at h1 h2]

/-- string(b) of a slice that reads as l. -/
theorem conv_in {w : World} {a : Option Addr} {cap : Nat} {l : List UInt8} (h : Row w a (l.map bval)) :
    (convert 22 9 (.slice a l.length cap)).run Try.prog w = .ok (.string (strL l)) w := by
  rcases h with h | ⟨b, off, rfl, hc⟩
  · have : l = [] := by simpa using h
    subst this
    cases a with
    | none => exact run_convert_bytes_nil w 22 5 Try.underlying22 Try.underlying5 0 cap 9 Try.underlying9
    | some x =>
      rw [run_convert_bytes_string w 22 9 5 _ _ _ Try.underlying22 Try.underlying5 Try.underlying9]
      simp [Conv.bytesToString]
      rfl
  · have e : strL l = strOfNums (l.map fun c => (c.toNat : Int)) := by
      unfold strL strOfNums; congr 1; simp [Function.comp_def]
    rw [e]
    refine run_convert_bytes_arg w 22 5 Try.underlying22 Try.underlying5 b off l.length cap _ (by simp) ?_ 9 Try.underlying9
    intro i hi
    rw [hc i (by simpa using hi)]
    simp [bval, hi]
def eqB (l1 l2 : List UInt8) : Nat := maskN (l1 == l2)
theorem beq_strL (l1 l2 : List UInt8) : ((strL l1).toList == (strL l2).toList) = (l1 == l2) := by
  have h : ∀ l : List UInt8, (strL l).toList = l := fun l => by rw [ByteArray.toList_eq]; rfl
  rw [h, h]
set_option maxHeartbeats 800000 in
theorem specBytesEq (a1 a2 : Option Addr) (c1 c2 : Nat) (l1 l2 : List UInt8) (w : World) (r1 : Row w a1 (l1.map bval)) (r2 : Row w a2 (l2.map bval)) :
    Calls Try.prog 32 #[.slice a1 l1.length c1, .slice a2 l2.length c2] w fun e w' => e = .returned (.int .u64 ((eqB l1 l2 : Nat) : Int)) ∧ w = w' := by
  have v1 := conv_in (cap := c1) r1
  have v2 := conv_in (cap := c2) r2
  clear r1 r2
  cases h : (l1 == l2)
  · have H : Hid (eqB l1 l2 = 0) := Lib.hid (by unfold eqB; rw [h]; rfl)
    have hB := beq_strL l1 l2
    rw [h] at hB
    clear h
    go_enter Try.func32, Try.ntmps32
    go_wp2
    go_ret
    exact ⟨by rw [H.out]; rfl, rfl⟩
  · have H : Hid (eqB l1 l2 = 18446744073709551615) := Lib.hid (by unfold eqB; rw [h]; rfl)
    have hB := beq_strL l1 l2
    rw [h] at hB
    clear h
    go_enter Try.func32, Try.ntmps32
    go_wp2
    go_ret
    exact ⟨by rw [H.out]; rfl, rfl⟩
theorem or_zero {a b : Nat} : a ||| b = 0 ↔ a = 0 ∧ b = 0 := by
  constructor
  · intro h
    have h1 : a ≤ a ||| b := Nat.left_le_or
    have h2 : b ≤ a ||| b := Nat.right_le_or
    omega
  · rintro ⟨rfl, rfl⟩; rfl
/-- One byte more: the difference stays 0 while the bytes are the same. -/
theorem diff_step {l m : List UInt8} {k d : Nat} (h1 : k < l.length) (h2 : k < m.length) (h : d = 0 ↔ l.take k = m.take k) : d ||| (l[k].toNat ^^^ m[k].toNat) = 0 ↔ l.take (k + 1) = m.take (k + 1) := by
  rw [or_zero, h, xor_zero, List.take_succ_eq_append_getElem h1, List.take_succ_eq_append_getElem h2]
  constructor
  · rintro ⟨e1, e2⟩
    rw [e1, UInt8.toNat_inj.1 e2]
  · intro e
    have := List.append_inj e (by simp; omega)
    refine ⟨this.1, ?_⟩
    have h3 := this.2
    simp at h3
    rw [h3]
set_option maxHeartbeats 1000000 in
theorem implBytesEq (a1 a2 : Option Addr) (c1 c2 : Nat) (l1 l2 : List UInt8) (w : World) (h1 : l1.length ≤ maxLen) (h2 : l2.length ≤ maxLen) (r1 : Row w a1 (l1.map bval)) (r2 : Row w a2 (l2.map bval)) :
    Calls Try.prog 24 #[.slice a1 l1.length c1, .slice a2 l2.length c2] w fun e w' => e = .returned (.int .u64 ((eqB l1 l2 : Nat) : Int)) ∧ ∃ n, w' = w.drewN n := by
  unfold maxLen at h1 h2
  by_cases hl : l1.length = l2.length
  · have hlB : ((l1.length : Int) != (l2.length : Int)) = false := by simp [hl]
    have HL := Lib.hid hl
    have hll : l1.length ≤ l2.length := by omega
    clear hl
    have R1 := Lib.hid r1
    have R2 := Lib.hid r2
    clear r1 r2
    go_enter Try.func24, Try.ntmps24
    go_wp2
    go_loopw [5, 6, 14] (fun dv _ i wr => ∃ k n d : Nat, k ≤ l1.length ∧ d < 256 ∧ dv = .int .u8 d ∧ i = .int .i64 k ∧ wr = w.drewN n ∧ Hid (d = 0 ↔ l1.take k = l2.take k)) (fun _ _ i _ => l1.length - (intOf i).toNat)
    case atStart => exact ⟨0, 0, 0, Nat.zero_le _, by omega, rfl, rfl, rfl, Lib.hid (by simp)⟩
    case round =>
      obtain ⟨k, n, d, hk, hd, rfl, rfl, rfl, H⟩ := hrel
      by_cases hlt : k < l1.length
      · have hlt2 : k < l2.length := by omega
        obtain ⟨b1, o1, rfl, q1⟩ := R1.out.at (i := k) (by simpa using hlt)
        obtain ⟨b2, o2, rfl, q2⟩ := R2.out.at (i := k) (by simpa using hlt2)
        rw [bval_at hlt] at q1
        rw [bval_at hlt2] at q2
        have hc1 := q1
        have hc2 := q2
        clear q1 q2
        have E := Lib.hid (diff_step hlt hlt2 H.out)
        have hx := l1[k].toNat_lt
        have hy := l2[k].toNat_lt
        generalize l1[k].toNat = x at *
        generalize l2[k].toNat = y at *
        have hX : bits .xor .u8 (x : Int) (y : Int) = ((x ^^^ y : Nat) : Int) := u8_xor_nat x y hx hy
        have hxy : x ^^^ y < 2 ^ 8 := Nat.xor_lt_two_pow hx hy
        have hO : bits .or .u8 (d : Int) ((x ^^^ y : Nat) : Int) = ((d ||| (x ^^^ y) : Nat) : Int) := u8_or_nat d _ hd hxy
        have hod : Hid (d ||| (x ^^^ y) < 256) := Lib.hid (Nat.or_lt_two_pow (n := 8) hd hxy)
        clear H hxy
        generalize x ^^^ y = z at *
        generalize d ||| z = d' at *
        go_wp2
        go_quiet (fail)
        go_wp2
        go_roundw
        case rel => exact ⟨k + 1, _, d', by omega, hod.out, rfl, by go_num, rfl, E⟩
        case measure => simp [intOf]; omega
      · have HE : Hid (eqB l1 l2 = maskN (decide (d = 0))) := Lib.hid (by
          have := H.out
          rw [List.take_of_length_le (by omega), List.take_of_length_le (by have := HL.out; omega)] at this
          unfold eqB
          congr 1
          rw [Bool.eq_iff_iff]
          simp [this])
        clear H
        go_wp2_with fail
        refine (implMaskEq d 0 _ (by omega) (by omega)).mono ?_
        rintro e w' ⟨rfl, rfl⟩
        go_wp2
        go_ret
        exact ⟨ret_int (by rw [HE.out]), n, rfl⟩
  · have HE : Hid (eqB l1 l2 = 0) := Lib.hid (by unfold eqB; rw [show (l1 == l2) = false from by rw [beq_eq_false_iff_ne]; intro e; subst e; exact hl rfl]; rfl)
    have hlB : ((l1.length : Int) != (l2.length : Int)) = true := by simp; omega
    clear hl
    go_enter Try.func24, Try.ntmps24
    go_wp2
    go_ret
    exact ⟨by rw [HE.out]; rfl, 0, rfl⟩
set_option maxHeartbeats 400000 in
theorem chooseB (m a b : Nat) (w : World) (hm : m < 256) (ha : a < 256) (hb : b < 256) :
    Calls Try.prog 49 #[.int .u8 m, .int .u8 a, .int .u8 b] w fun e w' => e = .returned (.int .u8 ((selN m a b : Nat) : Int)) ∧ w = w' := by
  have H : Hid (bits .xor .u8 (b : Int) (bits .and .u8 (m : Int) (bits .xor .u8 (a : Int) (b : Int))) = ((selN m a b : Nat) : Int)) := Lib.hid (by
    have hx : a ^^^ b < 2 ^ 8 := Nat.xor_lt_two_pow ha hb
    rw [u8_xor_nat a b ha hb, u8_and_nat m _ hm hx, u8_xor_nat b _ hb (Nat.and_lt_two_pow _ hx)]; rfl)
  go_enter Try.func49, Try.ntmps49
  go_wp2
  go_ret
  exact ⟨ret_int H.out, rfl⟩
/-- What BytesSelect leaves: the bytes, in memory of its own. -/
def SelRet (m : Nat) (l1 l2 : List UInt8) (w : World) (e : Ending) (w' : World) : Prop := ∃ c, e = .returned c ∧ ByteSOwn w.heap.size w'.heap.size [c] (selB m l1 l2) w' ∧ Below w.heap.size w w'
theorem sel_nil {m : Nat} {l1 l2 : List UInt8} {w : World} (h : ¬ (l1.length = l2.length ∧ l1.length ≤ 4096)) : SelRet m l1 l2 w (.returned (.slice none 0 0)) w := by
  refine ⟨_, rfl, ?_, Below.refl _ _⟩
  rw [selB_no h]
  exact ByteSOwn.mk (l := []) (World.ownsRow_nil w _ 5 1)
/-- The row while it is filled. -/
def fillRow (l : List UInt8) (n k : Nat) : List Value := (l.take k).map bval ++ List.replicate (n - k) (.int .u8 0)
theorem fillRow_set {l : List UInt8} {n k : Nat} {c : UInt8} (h : k < n) (hl : k ≤ l.length) (e : l.take (k + 1) = l.take k ++ [c]) : (fillRow l n k).set k (.int .u8 (c.toNat : Int)) = fillRow l n (k + 1) := by
  unfold fillRow
  rw [e, List.set_append_right _ _ (by simp; omega)]
  obtain ⟨q, hq⟩ : ∃ q, n - k = q + 1 := ⟨n - k - 1, by omega⟩
  rw [hq, show n - (k + 1) = q from by omega, List.replicate_succ]
  rw [show k - ((l.take k).map bval).length = 0 from by simp; omega]
  rw [List.set_cons_zero, List.map_append, List.append_assoc]; rfl
theorem fillRow_len {l : List UInt8} {n k : Nat} (h : k ≤ n) (hl : k ≤ l.length) : (fillRow l n k).length = n := by unfold fillRow; simp; omega
theorem fillRow_zero (l : List UInt8) (n : Nat) : fillRow l n 0 = List.replicate n (.int .u8 0) := by simp [fillRow]
theorem fillRow_done {l : List UInt8} {n : Nat} (h : l.length = n) : fillRow l n n = l.map bval := by unfold fillRow; simp [← h]
set_option maxHeartbeats 2000000 in
theorem implBytesSelect (m : Nat) (a1 a2 : Option Addr) (c1 c2 : Nat) (l1 l2 : List UInt8) (w : World) (hm : m < 18446744073709551616) (h1 : l1.length ≤ maxLen) (h2 : l2.length ≤ maxLen) (r1 : Row w a1 (l1.map bval)) (r2 : Row w a2 (l2.map bval)) :
    Calls Try.prog 36 #[.int .u64 m, .slice a1 l1.length c1, .slice a2 l2.length c2] w (SelRet m l1 l2 w) := by
  unfold maxLen at h1 h2
  by_cases hl : l1.length = l2.length
  · have hlB : ((l1.length : Int) != (l2.length : Int)) = false := by simp [hl]
    by_cases h4 : 4096 < l1.length
    · have N := Lib.hid (sel_nil (m := m) (l1 := l1) (l2 := l2) (w := w) (by omega))
      clear hl
      go_enter Try.func36, Try.ntmps36
      go_wp2
      go_ret
      exact N.out
    have HL := Lib.hid hl
    have hll : l1.length ≤ l2.length := by omega
    have R1 := Lib.hid r1
    have R2 := Lib.hid r2
    clear r1 r2 hl
    obtain ⟨i0, hi, hz0, hz1, hz2⟩ := info_parts Try.info5
    go_enter Try.func36, Try.ntmps36
    go_wp2_with (at_make; refine wpList_make_full _ rfl _ _ 22 rfl w.heap.size 5 i0 (.int .u8 0) 1 Try.underlying22 hi hz0 hz1 .i64 .i64 _ _ l1.length rfl rfl rfl rfl (by rw [hz2]; omega) (by unfold maxLen; omega) (Nat.le_refl _) ?_)
    clear hi hz0 hz1 hz2
    intro w1 hown hgr
    have hb1 : Below w.heap.size w w1 := grown_below hgr
    rw [toList_madeCells_one, ← fillRow_zero (selZ m l1 l2)] at hown
    clear hgr
    go_wp2
    go_loopw [8, 24] (fun _ i wr => ∃ k : Nat, k ≤ l1.length ∧ i = .int .i64 k ∧ wr.ownsRow w.heap.size 5 1 (.slice (some ⟨w.heap.size, 0, none⟩) l1.length l1.length) l1.length (fillRow (selZ m l1 l2) l1.length k) ∧ Below w.heap.size w wr) (fun _ i _ => l1.length - (intOf i).toNat)
    case atStart => exact ⟨0, Nat.zero_le _, rfl, hown, hb1⟩
    case round =>
      clear hown hb1
      obtain ⟨k, hk, rfl, hown, hb⟩ := hrel
      by_cases hlt : k < l1.length
      · have hlt2 : k < l2.length := by omega
        obtain ⟨b1, o1, rfl, q1⟩ := (R1.out.below hb).at (i := k) (by simpa using hlt)
        obtain ⟨b2, o2, rfl, q2⟩ := (R2.out.below hb).at (i := k) (by simpa using hlt2)
        rw [bval_at hlt] at q1
        rw [bval_at hlt2] at q2
        have hn1 : b1 ≠ w.heap.size := Nat.ne_of_lt (row_lt R1.out (by simp; omega))
        have hn2 : b2 ≠ w.heap.size := Nat.ne_of_lt (row_lt R2.out (by simp; omega))
        have hs := selZ_len (m := m) HL.out
        have hf := hown.frozenAt k
        have hc : wr.cell? ⟨w.heap.size, k, none⟩ = some ((fillRow (selZ m l1 l2) l1.length k)[k]'(by rw [fillRow_len hk (by omega)]; exact hlt)) := by
          rw [hown.cellAt k (by omega), List.getElem?_eq_getElem]
        generalize hcv : (fillRow (selZ m l1 l2) l1.length k)[k]'(by rw [fillRow_len hk (by omega)]; exact hlt) = cv at hc
        clear hcv
        have st := hown.stored k (.int .u8 ((selU m l1[k] l2[k]).toNat : Int))
        rw [fillRow_set hlt (by omega) (selZ_snoc hlt hlt2), selU_nat] at st
        have R3 := Lib.hid (And.intro st.1 (hb.setCell (p := ⟨w.heap.size, k, none⟩) (Nat.le_refl _) (.int .u8 ((selN m l1[k].toNat l2[k].toNat : Nat) : Int))))
        clear st hown hb
        have hx := l1[k].toNat_lt
        have hy := l2[k].toNat_lt
        generalize l1[k].toNat = x at *
        generalize l2[k].toNat = y at *
        have CB : Hid (∀ w, Calls Try.prog 49 #[.int .u8 ((m : Int) % 256), .int .u8 (x : Int), .int .u8 (y : Int)] w fun e w' => e = .returned (.int .u8 ((selN m x y : Nat) : Int)) ∧ w = w') := Lib.hid fun w => by
          have := chooseB (m % 256) x y w (by omega) hx hy
          rw [selN_low8 hx hy] at this
          simpa using this
        generalize selN m x y = v at *
        have k1 : (wr.setCell ⟨w.heap.size, k, none⟩ (.int .u8 (v : Int))).cell? ⟨b1, o1 + k, none⟩ = some (.int .u8 x) := cell_set q1 hn1
        have k2 : (wr.setCell ⟨w.heap.size, k, none⟩ (.int .u8 (v : Int))).cell? ⟨b2, o2 + k, none⟩ = some (.int .u8 y) := cell_set q2 hn2
        go_wp2_with fail
        go_region_held3 (fun w' => w'.cell? ⟨b1, o1 + k, none⟩ = some (.int .u8 x) ∧ w'.cell? ⟨b2, o2 + k, none⟩ = some (.int .u8 y)) (first | go_keep | exact ⟨q1, q2⟩ | exact ⟨k1, k2⟩)
          ((go_at_call 49; refine (CB.out _).mono ?_; rintro e w' ⟨rfl, rfl⟩))
        go_wp2
        go_roundw
        case rel => exact ⟨k + 1, by omega, by go_num, own_below R3.out.1 (belowN 1), below_seq R3.out.2 (belowN 1)⟩
        case measure => simp [intOf]; omega
      · have hk' : k = l1.length := by omega
        subst hk'
        rw [fillRow_done (selZ_len HL.out), ← selB_yes HL.out (by omega)] at hown
        have R3 := Lib.hid (And.intro (ByteSOwn.mk hown) hb)
        clear hown hb
        go_wp2
        go_ret
        exact ⟨_, rfl, R3.out.1, R3.out.2⟩
  · have N := Lib.hid (sel_nil (m := m) (l1 := l1) (l2 := l2) (w := w) (by omega))
    have hlB : ((l1.length : Int) != (l2.length : Int)) = true := by simp; omega
    clear hl
    go_enter Try.func36, Try.ntmps36
    go_wp2
    go_ret
    exact N.out
set_option maxHeartbeats 2000000 in
theorem specBytesSelect (m : Nat) (a1 a2 : Option Addr) (c1 c2 : Nat) (l1 l2 : List UInt8) (w : World) (hm : m < 18446744073709551616) (h1 : l1.length ≤ maxLen) (h2 : l2.length ≤ maxLen) (r1 : Row w a1 (l1.map bval)) (r2 : Row w a2 (l2.map bval)) :
    Calls Try.prog 35 #[.int .u64 m, .slice a1 l1.length c1, .slice a2 l2.length c2] w (SelRet m l1 l2 w) := by
  unfold maxLen at h1 h2
  by_cases hl : l1.length = l2.length
  · have hlB : ((l1.length : Int) != (l2.length : Int)) = false := by simp [hl]
    by_cases h4 : 4096 < l1.length
    · have N := Lib.hid (sel_nil (m := m) (l1 := l1) (l2 := l2) (w := w) (by omega))
      clear hl
      go_enter Try.func35, Try.ntmps35
      go_wp2
      go_ret
      exact N.out
    have HL := Lib.hid hl
    have hll : l1.length ≤ l2.length := by omega
    have R1 := Lib.hid r1
    have R2 := Lib.hid r2
    clear r1 r2 hl
    go_enter Try.func35, Try.ntmps35
    go_wp2
    go_loopw [7, 8] (fun o i wr => ∃ (k : Nat) (ao : Option Addr) (c : Nat), k ≤ l1.length ∧ i = .int .i64 k ∧ o = .slice ao k c ∧ wr.ownsRow w.heap.size 5 1 (.slice ao k c) k (((selZ m l1 l2).take k).map bval) ∧ Below w.heap.size w wr) (fun _ i _ => l1.length - (intOf i).toNat)
    case atStart => exact ⟨0, _, _, Nat.zero_le _, rfl, rfl, World.ownsRow_made w #[] 0 (Nat.le_refl _) (by unfold maxLen; omega) rfl, (Below.refl _ _).alloc (Nat.le_refl _) _⟩
    case round =>
      obtain ⟨k, ao, c, hk, rfl, rfl, hown, hb⟩ := hrel
      by_cases hlt : k < l1.length
      · have hlt2 : k < l2.length := by omega
        obtain ⟨b1, o1, rfl, q1⟩ := (R1.out.below hb).at (i := k) (by simpa using hlt)
        obtain ⟨b2, o2, rfl, q2⟩ := (R2.out.below hb).at (i := k) (by simpa using hlt2)
        rw [bval_at hlt] at q1
        rw [bval_at hlt2] at q2
        have OW := Lib.hid hown
        have BB := Lib.hid hb
        have hsz : w.heap.size ≤ wr.heap.size := hb.size
        have E : Hid (((selZ m l1 l2).take (k + 1)).map bval = ((selZ m l1 l2).take k).map bval ++ [.int .u8 ((selN m l1[k].toNat l2[k].toNat : Nat) : Int)]) := Lib.hid (by
          rw [selZ_snoc hlt hlt2, List.map_append, ← selU_nat]; rfl)
        clear hown hb
        have hx := l1[k].toNat_lt
        have hy := l2[k].toNat_lt
        generalize l1[k].toNat = x at *
        generalize l2[k].toNat = y at *
        have CS : Hid (Calls Try.prog 28 #[.int .u64 m, .int .u64 x, .int .u64 y] wr.drew fun e w' => e = .returned (.int .u64 ((selN m x y : Nat) : Int)) ∧ wr.drew = w') := Lib.hid (specSelect m x y _ hm (by omega) (by omega))
        have hxw : IntKind.u64.wrap (x : Int) = x := by rw [IntKind.wrap_u64]; omega
        have hyw : IntKind.u64.wrap (y : Int) = y := by rw [IntKind.wrap_u64]; omega
        have hv : selN m x y < 256 := selN_lt8 hx hy
        generalize selN m x y = v at *
        have hvw : IntKind.u8.wrap (v : Int) = v := by rw [IntKind.wrap_u8']; omega
        go_wp2_with fail
        go_region_law (first
          | (refine step_call (by rfl) 28 #[.int .u64 m, .int .u64 x, .int .u64 y] (by kernel_rfl) _ CS.out ?_; rintro e w4 ⟨rfl, rfl⟩; refine ⟨_, rfl, ?_⟩)
          | (refine step_app_row (by rfl) _ _ _ (by rfl) 5 (.int .u8 0) 1 Try.underlying22 Try.info5 rfl w.heap.size k (.slice ao k c) (((selZ m l1 l2).take k).map bval) (by rfl) (own_below (OW.out.alloc _) (belowN 1)) (some ⟨wr.heap.size, 0, none⟩) 1 1 [.int .u8 v] (by rfl) rfl ((row_one wr (.int .u8 v) 5).below (belowN 1)) (by simp [Value.oneCell']) (by unfold maxLen; omega) (by omega) (by simp; omega) ?_; intro v' w6 hown6 hg6; obtain ⟨a6, c6, rfl⟩ := own_shape hown6))
        all_goals
          rw [← E.out] at hown6
          have B6 := Lib.hid ((below_drew (below_box BB.out (.cells #[.int .u8 (v : Int)] 5))).grown hg6 (by simp; omega) (fun g hg => (OW.out.lt g hg).1))
          have O6 := Lib.hid hown6
          clear hown6 hg6
          go_wp2
          go_roundw
          case rel => exact ⟨k + 1, a6, c6, by omega, by go_num, rfl, O6.out, B6.out⟩
          case measure => simp [intOf]; omega
      · have hk' : k = l1.length := by omega
        subst hk'
        rw [List.take_of_length_le (by rw [selZ_len HL.out]; exact Nat.le_refl _), ← selB_yes HL.out (by omega)] at hown
        have R3 := Lib.hid (And.intro (ByteSOwn.mk hown) hb)
        clear hown hb
        go_wp2
        go_ret
        exact ⟨_, rfl, R3.out.1, R3.out.2⟩
  · have N := Lib.hid (sel_nil (m := m) (l1 := l1) (l2 := l2) (w := w) (by omega))
    have hlB : ((l1.length : Int) != (l2.length : Int)) = true := by simp; omega
    clear hl
    go_enter Try.func35, Try.ntmps35
    go_wp2
    go_ret
    exact N.out
end Go.Proofs.Ytigigmffigjpeaa
