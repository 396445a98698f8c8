/- The laws' own helpers over slices of strings: compared, marked, held. -/
import Derived.Test.YtaedamnhobcdlaaBase
import Derived.Test.YtaedamnhobcdlaaOwn
import Derived.Test.YtaedamnhobcdlaaVals
import Derived.Deep.QuietTactic
import Derived.BigQuiet
import Derived.Deep.RegionWith
namespace Go.Proofs.Ytaedamnhobcdlaa
open Go.RowKit
set_option linter.unusedVariables false

/-- The decimal digits of k ahead of acc. -/
def decF : Nat → Nat → List UInt8 → List UInt8
  | 0, _, acc => acc
  | f + 1, k, acc => if k = 0 then acc else decF f (k / 10) (UInt8.ofNat (48 + k % 10) :: acc)
def markL (k : Nat) : List UInt8 := if k = 0 then [109, 48] else 109 :: decF k k []
def mval (k : Nat) : Value := .string (strL (markL k))
theorem decF_zero (f : Nat) (acc : List UInt8) : decF f 0 acc = acc := by cases f <;> simp [decF]
theorem decF_step (f k : Nat) (acc : List UInt8) (h : 0 < k) : decF (f + 1) k acc = decF f (k / 10) (UInt8.ofNat (48 + k % 10) :: acc) := by
  simp [decF]; omega

theorem strL_cons (c : UInt8) (l : List UInt8) : strL [c] ++ strL l = strL (c :: l) := by
  unfold strL; apply ByteArray.ext; simp [ByteArray.data_append]
theorem digit_conv (w : World) (j : Nat) :
    (convert 22 9 (.slice (some ⟨w.heap.size, 0, none⟩) 1 1)).run Try.prog (w.alloc (.cells #[.int .u8 (48 + (j : Int) % 10)] 5)) = .ok (.string (strL [UInt8.ofNat (48 + j % 10)])) (w.alloc (.cells #[.int .u8 (48 + (j : Int) % 10)] 5)) := by
  have h := World.ownsRow_lit (base := 0) (e := 5) (size := 1) w #[.int .u8 (48 + (j : Int) % 10)] 1 (Nat.zero_le _) (by unfold maxLen; omega) rfl
  refine conv_own (base := 0) (l := [UInt8.ofNat (48 + j % 10)]) 1 rfl ?_
  have e : [UInt8.ofNat (48 + j % 10)].map bval = [.int .u8 (48 + (j : Int) % 10)] := by
    simp [bval]; omega
  rw [e]; exact h

set_option maxHeartbeats 800000 in
theorem lawsMarkText (k : Nat) (w : World) (hk : k ≤ 4611686018427387904) :
    Calls Try.prog 63 #[.int .i64 k] w fun e w' => e = .returned (mval k) ∧ Below w.heap.size w w' := by
  by_cases h0 : 0 < k
  · have HM : Hid (markL k = 109 :: decF k k []) := Lib.hid (by unfold markL; rw [if_neg (by omega)])
    go_enter Try.func63, Try.ntmps63
    go_wp2
    go_loopw [0, 3] (fun kv ov wr => ∃ (j f : Nat) (acc : List UInt8), j ≤ k ∧ j ≤ f ∧ acc.length + j ≤ k + 1000 ∧ kv = .int .i64 j ∧ ov = .string (strL acc) ∧ Hid (decF f j acc = decF k k []) ∧ Below w.heap.size w wr) (fun kv _ _ => (intOf kv).toNat)
    case atStart => exact ⟨k, k, [], Nat.le_refl _, Nat.le_refl _, by simp, rfl, rfl, Lib.hid rfl, Below.refl _ _⟩
    case round =>
      obtain ⟨j, f, acc, hj, hf, hac, rfl, rfl, H, hb⟩ := hrel
      by_cases hlt : 0 < j
      · obtain ⟨f', rfl⟩ : ∃ f', f = f' + 1 := ⟨f - 1, by omega⟩
        have H2 := H.out
        rw [decF_step f' j acc hlt] at H2
        have HD := Lib.hid H2
        clear H2
        have hcv := digit_conv wr j
        have hsz := hb.size
        obtain ⟨c, hc⟩ : ∃ c, c = UInt8.ofNat (48 + j % 10) := ⟨_, rfl⟩
        rw [← hc] at hcv HD
        have HA := Lib.hid (strL_cons c acc)
        have hs1 : (strL [c]).size + (strL acc).size ≤ 9223372036854775807 := by rw [strL_size, strL_size, List.length_singleton]; omega
        have B2 := Lib.hid (hb.alloc hsz (.cells #[.int .u8 (48 + (j : Int) % 10)] 5))
        clear hc H hb
        go_wp2
        go_roundw
        case rel => exact ⟨j / 10, f', c :: acc, by omega, by omega, by simp; omega, by go_num, by rw [HA.out], HD, B2.out⟩
        case measure => simp [intOf]; omega
      · have hj0 : j = 0 := by omega
        subst hj0
        have H2 := H.out
        rw [decF_zero] at H2
        have HD := Lib.hid H2
        have hs1 : (strL acc).size ≤ 5000000000000000000 := by rw [strL_size]; omega
        clear H2 H
        go_wp2
        go_ret
        exact ⟨ret_str (by rw [HM.out, ← HD.out]; exact strL_cons 109 acc), hb⟩
  · have hk0 : k = 0 := by omega
    subst hk0
    go_enter Try.func63, Try.ntmps63
    go_wp2
    go_ret
    exact ⟨rfl, Below.refl _ _⟩

theorem sval_at {l : List (List UInt8)} {k : Nat} (h : k < l.length) : (l.map sval)[k]? = some (.string (strL l[k])) := by simp [h, sval]
theorem seq_take {l m : List (List UInt8)} (hl : l.length = m.length) (k : Nat) (hk : l.length ≤ k) (h : l.take k = m.take k) : (l == m) = true := by
  rw [List.take_of_length_le hk, List.take_of_length_le (by omega)] at h; simp [h]
theorem seq_at {l m : List (List UInt8)} {k : Nat} (h1 : k < l.length) (h2 : k < m.length) (h : l[k] ≠ m[k]) : (l == m) = false := by
  rw [beq_eq_false_iff_ne]; intro e; subst e; exact h rfl
theorem seq_both {l m : List (List UInt8)} {k : Nat} (h1 : k < l.length) (h2 : k < m.length) (e : l.take k = m.take k) (h : l[k] = m[k]) : l.take (k + 1) = m.take (k + 1) := by
  rw [List.take_succ_eq_append_getElem h1, List.take_succ_eq_append_getElem h2, e, h]


/-- The marks k, k+1, .. (as texts). -/
def marksS (k n : Nat) : List Value := (List.range n).map fun i => mval (k + i)
theorem marksS_length (k n : Nat) : (marksS k n).length = n := by simp [marksS]
theorem marksS_succ (k n : Nat) : marksS k (n + 1) = marksS k n ++ [mval (k + n)] := by simp [marksS, List.range_succ]
theorem marksS_at {k n i : Nat} (h : i < n) : (marksS k n)[i]? = some (mval (k + i)) := by simp [marksS, h]
def markRowS (k j : Nat) (xs : List Value) : List Value := marksS k j ++ xs.drop j
theorem markRowS_zero (k : Nat) (xs : List Value) : markRowS k 0 xs = xs := by simp [markRowS, marksS]
theorem markRowS_set (k j : Nat) (xs : List Value) (h : j < xs.length) : (markRowS k j xs).set j (mval (k + j)) = markRowS k (j + 1) xs := by
  unfold markRowS
  rw [marksS_succ, List.set_append_right _ _ (by simp [marksS_length])]
  rw [show j - (marksS k j).length = 0 from by simp [marksS_length], List.drop_eq_getElem_cons h, List.set_cons_zero]
  simp
theorem markRowS_done (k : Nat) (xs : List Value) : markRowS k xs.length xs = marksS k xs.length := by simp [markRowS]
theorem markRowS_length (k j : Nat) (xs : List Value) (h : j ≤ xs.length) : (markRowS k j xs).length = xs.length := by simp [markRowS, marksS_length]; omega


theorem cell_below {w w' : World} {a : Addr} {v : Value} (h : w.cell? a = some v) (hb : Below w.heap.size w w') : w'.cell? a = some v := (hb.cell (block_lt_of_cell h)).trans h


end Go.Proofs.Ytaedamnhobcdlaa
