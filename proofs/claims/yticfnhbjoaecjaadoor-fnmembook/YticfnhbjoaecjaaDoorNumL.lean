/- Decimal numerals: the model's own routine. -/
import Derived.Test.YticfnhbjoaecjaaDoorVals
import Derived.Test.YticfnhbjoaecjaaDoorApp
import Derived.Test.YticfnhbjoaecjaaDoorSeg
import Derived.Lib.ItoaNum
import Derived.Deep.DeepMust
namespace Go.Proofs.YticfnhbjoaecjaaDoor
open Go.RowKit
set_option linter.unusedVariables false
set_option maxRecDepth 100000

/-- The digits of v ahead of acc; nothing for 0. -/
def digs (v : Nat) (acc : List UInt8) : List UInt8 := if v = 0 then acc else Lib.decDigits v ++ acc
theorem digs_step {v : Nat} {acc : List UInt8} (h : v ≠ 0) : digs v acc = digs (v / 10) (UInt8.ofNat (48 + v % 10) :: acc) := by
  unfold digs
  rw [if_neg h, Lib.decDigits]
  by_cases h10 : v < 10
  · rw [dif_pos h10, if_pos (by omega), Nat.mod_eq_of_lt h10]; rfl
  · rw [dif_neg h10, if_neg (by omega)]; simp
theorem digs_start {v : Nat} (h : v ≠ 0) : digs v [] = Lib.decDigits v := by unfold digs; rw [if_neg h]; simp
theorem dec_len (u : Nat) (hu : u ≤ 9223372036854775808) : (Lib.decDigits u).length ≤ 20 := by
  rw [Lib.decDigits_length]
  by_cases hn : Lib.nDigits u ≤ 20
  · exact hn
  · exfalso
    have aux : ∀ k v, k < Lib.nDigits v → 10 ^ k ≤ v ∨ k = 0 := by
      intro k
      induction k with
      | zero => intro v _; exact .inr rfl
      | succ k ih =>
        intro v hv
        by_cases h : v < 10
        · rw [Lib.nDigits_small h] at hv; omega
        · rw [Lib.nDigits_big h] at hv
          rcases ih (v / 10) (by omega) with h' | h'
          · left; rw [Nat.pow_succ]; omega
          · subst h'; left; simp; omega
    rcases aux 20 u (by omega) with h | h
    · omega
    · omega
theorem itoa_len (n : Int) (h0 : -9223372036854775808 ≤ n) (h1 : n ≤ 9223372036854775807) : (Lib.itoa n).length ≤ 21 := by
  unfold Lib.itoa
  split
  · simp only [List.length_cons]; have := dec_len n.natAbs (by omega); omega
  · have := dec_len n.toNat (by omega); omega
theorem itoa_zero : Lib.itoa 0 = [48] := by
  unfold Lib.itoa; rw [if_neg (by omega)]; unfold Lib.decDigits; rfl
theorem itoa_pos {v : Nat} : Lib.itoa (v : Int) = Lib.decDigits v := by
  unfold Lib.itoa; rw [if_neg (by omega)]; rfl
theorem itoa_neg {v : Nat} (h : v ≠ 0) : Lib.itoa (-(v : Int)) = 45 :: Lib.decDigits v := by
  unfold Lib.itoa; rw [if_pos (by omega)]; simp
theorem row_lit1 (w : World) (c : Int) (e : TypeId) : (w.alloc (.cells #[.int .u8 c] e)).ownsRow w.heap.size e 1 (.slice (some ⟨w.heap.size, 0, none⟩) 1 1) 1 [.int .u8 c] :=
  World.ownsRow_lit (base := w.heap.size) (e := e) (size := 1) w #[.int .u8 c] 1 (Nat.le_refl _) (by unfold maxLen; omega) rfl
theorem bval_dig {e : Nat} (h : e ≤ 9) : bval (UInt8.ofNat (48 + e)) = .int .u8 (48 + (e : Int)) := by
  unfold bval; rw [UInt8.toNat_ofNat']; congr 1; omega
theorem ones_bvn (l : List UInt8) : ∀ v ∈ l.map bval, v.oneCell' = true := by
  intro v hv
  obtain ⟨z, _, rfl⟩ := List.mem_map.1 hv
  rfl
/-- Digits ahead are no fewer than what stands. -/
theorem digs_ge (v : Nat) (acc : List UInt8) : acc.length ≤ (digs v acc).length := by unfold digs; split <;> simp
set_option maxHeartbeats 2000000 in
theorem specNum (n : Int) (w : World) (h0 : -9223372036854775808 ≤ n) (h1 : n ≤ 9223372036854775807) :
    Calls Tryd.prog 24 #[.int .i64 n] w fun e w' => e = .returned (.string (strL (Lib.itoa n))) ∧ Below w.heap.size w w' := by
  by_cases hz : n = 0
  · subst hz
    have H := Lib.hid itoa_zero
    go_enter Tryd.func24, Tryd.ntmps24
    go_wp2
    go_ret
    exact ⟨ret_str (by rw [H.out]; rfl), Below.refl _ _⟩
  have dz : (n == 0) = false := by simp [hz]
  by_cases hn : n < 0
  · obtain ⟨u, hu⟩ : ∃ u : Nat, n = -(u : Int) := ⟨n.natAbs, by omega⟩
    have hu0 : u ≠ 0 := by omega
    have hub : u ≤ 9223372036854775808 := by omega
    have HN : Hid (Lib.itoa n = 45 :: Lib.decDigits u) := Lib.hid (by rw [hu]; exact itoa_neg hu0)
    have HS := Lib.hid (digs_start hu0)
    have HU := Lib.hid hu
    clear hu
    go_enter Tryd.func24, Tryd.ntmps24
    go_wp2
    go_loopw [3, 4, 5] (fun o mv _ wr => ∃ (v : Nat) (z : Int) (acc : List UInt8) (ao : Option Addr) (c : Nat), mv = .int .i64 z ∧ Hid (z = -(v : Int)) ∧ v ≤ u ∧ o = .slice ao acc.length c ∧ wr.ownsRow w.heap.size 5 1 (.slice ao acc.length c) acc.length (acc.map bval) ∧ Hid (digs v acc = Lib.decDigits u) ∧ acc.length ≤ 100 ∧ Below w.heap.size w wr) (fun _ mv _ _ => (intOf mv).natAbs)
    case atStart => exact ⟨u, n, [], _, _, rfl, HU, Nat.le_refl _, rfl, World.ownsRow_made w #[] 0 (Nat.le_refl _) (by unfold maxLen; omega) rfl, HS, by simp, (Below.refl _ _).alloc (Nat.le_refl _) _⟩
    case round =>
      obtain ⟨v, z, acc, ao, c, rfl, HZ, hv, rfl, hown, HD, hac, hb⟩ := hrel
      have OW := Lib.hid hown
      have HB := Lib.hid hb
      have hsz : w.heap.size ≤ wr.heap.size := hb.size
      clear hown hb
      by_cases hv0 : v = 0
      · obtain rfl : z = 0 := by have := HZ.out; omega
        have HE : Hid (acc = Lib.decDigits u) := Lib.hid (by have h := HD.out; rw [hv0] at h; simpa [digs] using h)
        clear HD HZ
        have O1 := Lib.hid (row_lit1 wr 45 5)
        have RA := Lib.hid ((Row.of_own OW.out).below (below_box (Below.refl wr.heap.size wr) (.cells #[.int .u8 45] 5)))
        go_wp2_with (at_builtin; go_must (refine wp_app_row rfl _ _ 22 rfl 5 (.int .u8 0) 1 Tryd.underlying22 Tryd.info5 rfl wr.heap.size 1 _ _ (by rfl) O1.out ao acc.length c (acc.map bval) (by rfl) (List.length_map _) RA.out (ones_bvn acc) (by unfold maxLen; omega) (by omega) (by simp) ?_); intro v3 w3 ho3 hg3; have ho4 : w3.ownsRow wr.heap.size 5 1 v3 (1 + acc.length) ((45 :: acc).map bval) := ho3; have cv := conv_any ho4; obtain ⟨a3, c3, rfl⟩ := own_shape ho3; have B3 := Lib.hid ((below_box HB.out (.cells #[.int .u8 45] 5)).grown hg3 (by simp; omega) (fun g hg => by have := (O1.out.lt g hg).1; omega)); clear ho3 ho4 hg3 O1 RA)
        go_ret
        exact ⟨ret_str (by rw [HN.out, ← HE.out]), B3.out⟩
      · have dz1 : (z != 0) = true := by have := HZ.out; simp; omega
        have HD2 : Hid (digs (v / 10) (UInt8.ofNat (48 + v % 10) :: acc) = Lib.decDigits u) := Lib.hid (by rw [← digs_step hv0]; exact HD.out)
        have hlen : acc.length ≤ 20 := by
          have h1 := digs_ge v acc
          rw [HD.out] at h1
          have h3 := dec_len u hub
          omega
        obtain ⟨e, he⟩ : ∃ e, e = v % 10 := ⟨_, rfl⟩
        have he9 : e ≤ 9 := by omega
        have hr : z.tmod 10 = -(e : Int) := by rw [HZ.out, he]; rw [Int.neg_tmod]; simp [Int.tmod]
        obtain ⟨q, hq⟩ : ∃ q : Int, z.tdiv 10 = q := ⟨_, rfl⟩
        have HQ : Hid (q = -((v / 10 : Nat) : Int)) := Lib.hid (by rw [← hq, HZ.out]; rw [Int.neg_tdiv]; simp [Int.tdiv])
        have hqw : wrap64 q = q := by have := HQ.out; unfold wrap64; omega
        rw [← he] at HD2
        clear HD he
        by_cases he0 : e = 0
        · subst he0
          have hr0 : z.tmod 10 = 0 := hr
          clear hr
          have O1 := Lib.hid (row_lit1 wr (48) 5)
          have RA := Lib.hid ((Row.of_own OW.out).below (below_box (Below.refl wr.heap.size wr) (.cells #[.int .u8 (48)] 5)))
          go_wp2_with (at_builtin; go_must (refine wp_app_row rfl _ _ 22 rfl 5 (.int .u8 0) 1 Tryd.underlying22 Tryd.info5 rfl wr.heap.size 1 _ _ (by rfl) O1.out ao acc.length c (acc.map bval) (by rfl) (List.length_map _) RA.out (ones_bvn acc) (by unfold maxLen; omega) (by omega) (by simp) ?_); intro v3 w3 ho3 hg3; obtain ⟨a3, c3, rfl⟩ := own_shape ho3; have B3 := Lib.hid ((below_box HB.out (.cells #[.int .u8 (48)] 5)).grown hg3 (by simp; omega) (fun g hg => by have := (O1.out.lt g hg).1; omega)); have O3 := Lib.hid (own_base ho3 hsz); clear ho3 hg3 O1 RA)
          go_roundw
          case rel => exact ⟨v / 10, q, UInt8.ofNat (48 + 0) :: acc, a3, c3, by rw [hqw], HQ, by omega, by simp [Nat.add_comm], by have h := O3.out; rw [Nat.add_comm 1 acc.length] at h; exact h, HD2, by simp; omega, B3.out⟩
          case measure => have := HQ.out; have := HZ.out; simp [intOf]; omega
        · have hel : -(e : Int) < 0 := by omega
          have O1 := Lib.hid (row_lit1 wr (48 + (e : Int)) 5)
          have RA := Lib.hid ((Row.of_own OW.out).below (below_box (Below.refl wr.heap.size wr) (.cells #[.int .u8 (48 + (e : Int))] 5)))
          go_wp2_with (at_builtin; go_must (refine wp_app_row rfl _ _ 22 rfl 5 (.int .u8 0) 1 Tryd.underlying22 Tryd.info5 rfl wr.heap.size 1 _ _ (by rfl) O1.out ao acc.length c (acc.map bval) (by rfl) (List.length_map _) RA.out (ones_bvn acc) (by unfold maxLen; omega) (by omega) (by simp) ?_); intro v3 w3 ho3 hg3; obtain ⟨a3, c3, rfl⟩ := own_shape ho3; have B3 := Lib.hid ((below_box HB.out (.cells #[.int .u8 (48 + (e : Int))] 5)).grown hg3 (by simp; omega) (fun g hg => by have := (O1.out.lt g hg).1; omega)); have O3 := Lib.hid (own_base ho3 hsz); clear ho3 hg3 O1 RA)
          go_roundw
          case rel => exact ⟨v / 10, q, UInt8.ofNat (48 + e) :: acc, a3, c3, by rw [hqw], HQ, by omega, by simp [Nat.add_comm], by have h := O3.out; rw [Nat.add_comm 1 acc.length] at h; simp only [List.map_cons, bval_dig he9]; exact h, HD2, by simp; omega, B3.out⟩
          case measure => have := HQ.out; have := HZ.out; simp [intOf]; omega
  · obtain ⟨u, hu⟩ : ∃ u : Nat, n = (u : Int) := ⟨n.toNat, by omega⟩
    have hu0 : u ≠ 0 := by omega
    have hub : u ≤ 9223372036854775808 := by omega
    have HN : Hid (Lib.itoa n = Lib.decDigits u) := Lib.hid (by rw [hu]; exact itoa_pos)
    have HS := Lib.hid (digs_start hu0)
    have HU := Lib.hid hu
    clear hu
    go_enter Tryd.func24, Tryd.ntmps24
    go_wp2
    go_loopw [3, 4, 5] (fun o mv _ wr => ∃ (v : Nat) (z : Int) (acc : List UInt8) (ao : Option Addr) (c : Nat), mv = .int .i64 z ∧ Hid (z = (v : Int)) ∧ v ≤ u ∧ o = .slice ao acc.length c ∧ wr.ownsRow w.heap.size 5 1 (.slice ao acc.length c) acc.length (acc.map bval) ∧ Hid (digs v acc = Lib.decDigits u) ∧ acc.length ≤ 100 ∧ Below w.heap.size w wr) (fun _ mv _ _ => (intOf mv).natAbs)
    case atStart => exact ⟨u, n, [], _, _, rfl, HU, Nat.le_refl _, rfl, World.ownsRow_made w #[] 0 (Nat.le_refl _) (by unfold maxLen; omega) rfl, HS, by simp, (Below.refl _ _).alloc (Nat.le_refl _) _⟩
    case round =>
      obtain ⟨v, z, acc, ao, c, rfl, HZ, hv, rfl, hown, HD, hac, hb⟩ := hrel
      have OW := Lib.hid hown
      have HB := Lib.hid hb
      have hsz : w.heap.size ≤ wr.heap.size := hb.size
      clear hown hb
      by_cases hv0 : v = 0
      · obtain rfl : z = 0 := by have := HZ.out; omega
        have HE : Hid (acc = Lib.decDigits u) := Lib.hid (by have h := HD.out; rw [hv0] at h; simpa [digs] using h)
        clear HD HZ
        have cv := conv_any OW.out
        go_wp2
        go_ret
        exact ⟨ret_str (by rw [HN.out, ← HE.out]), HB.out⟩
      · have dz1 : (z != 0) = true := by have := HZ.out; simp; omega
        have HD2 : Hid (digs (v / 10) (UInt8.ofNat (48 + v % 10) :: acc) = Lib.decDigits u) := Lib.hid (by rw [← digs_step hv0]; exact HD.out)
        have hlen : acc.length ≤ 20 := by
          have h1 := digs_ge v acc
          rw [HD.out] at h1
          have h3 := dec_len u hub
          omega
        obtain ⟨e, he⟩ : ∃ e, e = v % 10 := ⟨_, rfl⟩
        have he9 : e ≤ 9 := by omega
        have hr : z.tmod 10 = (e : Int) := by rw [HZ.out, he]; simp [Int.tmod]
        obtain ⟨q, hq⟩ : ∃ q : Int, z.tdiv 10 = q := ⟨_, rfl⟩
        have HQ : Hid (q = ((v / 10 : Nat) : Int)) := Lib.hid (by rw [← hq, HZ.out]; simp [Int.tdiv])
        have hqw : wrap64 q = q := by have := HQ.out; unfold wrap64; omega
        rw [← he] at HD2
        clear HD he
        have O1 := Lib.hid (row_lit1 wr (48 + (e : Int)) 5)
        have RA := Lib.hid ((Row.of_own OW.out).below (below_box (Below.refl wr.heap.size wr) (.cells #[.int .u8 (48 + (e : Int))] 5)))
        go_wp2_with (at_builtin; go_must (refine wp_app_row rfl _ _ 22 rfl 5 (.int .u8 0) 1 Tryd.underlying22 Tryd.info5 rfl wr.heap.size 1 _ _ (by rfl) O1.out ao acc.length c (acc.map bval) (by rfl) (List.length_map _) RA.out (ones_bvn acc) (by unfold maxLen; omega) (by omega) (by simp) ?_); intro v3 w3 ho3 hg3; obtain ⟨a3, c3, rfl⟩ := own_shape ho3; have B3 := Lib.hid ((below_box HB.out (.cells #[.int .u8 (48 + (e : Int))] 5)).grown hg3 (by simp; omega) (fun g hg => by have := (O1.out.lt g hg).1; omega)); have O3 := Lib.hid (own_base ho3 hsz); clear ho3 hg3 O1 RA)
        go_roundw
        case rel => exact ⟨v / 10, q, UInt8.ofNat (48 + e) :: acc, a3, c3, by rw [hqw], HQ, by omega, by simp [Nat.add_comm], by have h := O3.out; rw [Nat.add_comm 1 acc.length] at h; simp only [List.map_cons, bval_dig he9]; exact h, HD2, by simp; omega, B3.out⟩
        case measure => have := HQ.out; have := HZ.out; simp [intOf]; omega
end Go.Proofs.YticfnhbjoaecjaaDoor
