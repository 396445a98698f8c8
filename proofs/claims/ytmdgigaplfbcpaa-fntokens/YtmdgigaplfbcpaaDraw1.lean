/- The drawn text and the drawn number: what 'text', 'raw' and 'DrawTokens' leave. -/
import Derived.Test.YtmdgigaplfbcpaaBad
namespace Go.Proofs.Ytmdgigaplfbcpaa
open Go.RowKit
set_option linter.unusedVariables false

/-- What a drawing of a number leaves. -/
def DrawnInt (b : Nat) (a : Option Addr) (l : List UInt8) (cap m : Nat) (w : World) (e : Ending) (w' : World) : Prop :=
  ∃ z : Int, e = .returned (.int .i64 z) ∧ (-9223372036854775808 ≤ z ∧ z ≤ 9223372036854775807) ∧ CurI w' b a l cap m ∧ w.grownBy w' (some b)

def lits8 : Array Value := #[.int .i64 9223372036854775807, .int .i64 (-9223372036854775808), .int .i64 4611686018427387904, .int .i64 65535, .int .i64 65536, .int .i64 (-1000), .int .i64 2147483648, .int .i64 4294967296]
theorem lits8_at (r : Nat) (h : r < 8 ∨ r = 0) : ∃ z : Int, (-9223372036854775808 ≤ z ∧ z ≤ 9223372036854775807) ∧ lits8[r]? = some (.int .i64 z) := by
  rcases (show r = 0 ∨ r = 1 ∨ r = 2 ∨ r = 3 ∨ r = 4 ∨ r = 5 ∨ r = 6 ∨ r = 7 from by omega) with rfl | rfl | rfl | rfl | rfl | rfl | rfl | rfl
  · exact ⟨9223372036854775807, by omega, rfl⟩
  · exact ⟨-9223372036854775808, by omega, rfl⟩
  · exact ⟨4611686018427387904, by omega, rfl⟩
  · exact ⟨65535, by omega, rfl⟩
  · exact ⟨65536, by omega, rfl⟩
  · exact ⟨-1000, by omega, rfl⟩
  · exact ⟨2147483648, by omega, rfl⟩
  · exact ⟨4294967296, by omega, rfl⟩

set_option maxHeartbeats 1000000 in
theorem curRaw (b : Nat) (a : Option Addr) (l : List UInt8) (cap m : Nat) (w : World) (hl : l.length ≤ 1048576) (hm : m ≤ 4000000000000000000) (h : CurI w b a l cap m) :
    Calls Try.prog 40 #[.pointer (some ⟨b, 0, none⟩)] w (DrawnInt b a l cap (m + 2) w) := by
  have H := Lib.hid h
  clear h
  go_enter Try.func40, Try.ntmps40
  go_wp2_with fail
  refine (curPick b a l cap m 8 _ hl (by omega) (by omega) H.out).mono ?_
  rintro e w1 ⟨r, rfl, hr, hI1, hg1⟩
  have I1 := Lib.hid hI1
  have G1 := Lib.hid hg1
  have hbl := hI1.lt
  clear hI1 hg1 H
  by_cases h0 : r = 0
  · subst h0
    go_wp2_with fail
    refine (curPick b a l cap _ 256 _ hl (by omega) (by omega) I1.out).mono ?_
    rintro e w2 ⟨k, rfl, hk, hI2, hg2⟩
    have hk' : k < 256 := by omega
    have I2 := Lib.hid hI2
    have G2 := Lib.hid (grown_trans G1.out hg2)
    clear hI2 hg2 I1 G1
    go_wp2
    go_ret
    exact ⟨_, rfl, by omega, I2.out, G2.out⟩
  have hr0 : ((r : Int) == 0) = false := by simp; omega
  by_cases h1 : r = 1
  · subst h1
    have IB := Lib.hid (I1.out.below (w' := w1.alloc (.cells lits8 3)) ((Below.refl _ _).alloc (Nat.le_refl _) _))
    go_wp2_with fail
    refine (curPick b a l cap _ 8 _ hl (by omega) (by omega) IB.out).mono ?_
    rintro e w2 ⟨k, rfl, hk, hI2, hg2⟩
    obtain ⟨z, hz, hzl⟩ := lits8_at k hk
    have hk8 : k < 8 := by omega
    have hq : w2.cell? ⟨w1.heap.size, k, none⟩ = some (.int .i64 z) := hg2.cell ((lit_new w1 lits8 3 k).trans hzl) (by simp; omega)
    have I2 := Lib.hid hI2
    have G2 := Lib.hid (grown_trans G1.out (grown_trans (World.grownBy_alloc w1 (.cells lits8 3) (some b)) hg2))
    clear hI2 hg2 I1 G1 IB hzl
    go_wp2
    go_ret
    exact ⟨z, rfl, hz, I2.out, G2.out⟩
  have hr1 : ((r : Int) == 1) = false := by simp; omega
  go_wp2_with fail
  refine (curPick b a l cap _ 14 _ hl (by omega) (by omega) I1.out).mono ?_
  rintro e w2 ⟨k, rfl, hk, hI2, hg2⟩
  have hk' : k < 14 := by omega
  have I2 := Lib.hid hI2
  have G2 := Lib.hid (grown_trans G1.out hg2)
  clear hI2 hg2 I1 G1
  go_wp2
  go_ret
  exact ⟨_, rfl, by omega, I2.out, G2.out⟩

def lits5 : Array Value := #[.string ⟨#[32]⟩, .string ⟨#[10]⟩, .string ⟨#[32, 32]⟩, .string ⟨#[9, 32, 13]⟩, .string ⟨#[32]⟩]
theorem lits5_at (r : Nat) (h : r < 5 ∨ r = 0) : ∃ x : ByteArray, x.size ≤ 3 ∧ lits5[r]? = some (.string x) := by
  rcases (show r = 0 ∨ r = 1 ∨ r = 2 ∨ r = 3 ∨ r = 4 from by omega) with rfl | rfl | rfl | rfl | rfl
  · exact ⟨_, by decide, rfl⟩
  · exact ⟨_, by decide, rfl⟩
  · exact ⟨_, by decide, rfl⟩
  · exact ⟨_, by decide, rfl⟩
  · exact ⟨_, by decide, rfl⟩

set_option maxHeartbeats 1000000 in
theorem curText (b : Nat) (a : Option Addr) (l : List UInt8) (cap m n : Nat) (w : World) (hl : l.length ≤ 1048576) (hm : m ≤ 1000000000000000000) (hn : n ≤ 1000) (h : CurI w b a l cap m) :
    Calls Try.prog 39 #[.pointer (some ⟨b, 0, none⟩), .int .i64 n] w (DrawnStr b a l cap (m + 1 + 70 * n) (99 * n) w) := by
  have H := Lib.hid h
  clear h
  go_enter Try.func39, Try.ntmps39
  go_wp2_with fail
  refine (curPick b a l cap m (n + 1) _ hl (by omega) (by omega) H.out).mono ?_
  rintro e w1 ⟨r, rfl, hr, hI1, hg1⟩
  have hrn : r ≤ n := by omega
  have I1 := Lib.hid hI1
  have G1 := Lib.hid hg1
  clear hI1 hg1 H
  go_wp2
  go_loopw [5, 6] (fun sv kv wr => ∃ (k : Nat) (s : ByteArray), k ≤ r ∧ sv = .string s ∧ kv = .int .i64 k ∧ s.size ≤ 99 * (r - k) ∧ CurI wr b a l cap (m + 1 + 70 * (r - k)) ∧ w.grownBy wr (some b)) (fun _ kv _ => (intOf kv).toNat)
  case atStart => exact ⟨r, _, Nat.le_refl _, rfl, rfl, Nat.zero_le _, I1.out.more (by omega), G1.out⟩
  case round =>
    clear I1 G1
    obtain ⟨k, s, hk, rfl, rfl, hs, hI, hg⟩ := hrel
    have I0 := Lib.hid hI
    have G0 := Lib.hid hg
    clear hI hg
    by_cases hlt : 0 < k
    · go_wp2_with fail
      refine (curBadWord b a l cap _ _ hl (by omega) I0.out).mono ?_
      rintro e w2 ⟨t, rfl, ht, hI2, hg2⟩
      have IB := Lib.hid (hI2.below (w' := w2.alloc (.cells lits5 9)) ((Below.refl _ _).alloc (Nat.le_refl _) _))
      have GB := Lib.hid (grown_trans (grown_trans G0.out hg2) (World.grownBy_alloc w2 (.cells lits5 9) (some b)))
      have hbl := hI2.lt
      have hs1 : s.size + t.size ≤ 9223372036854775807 := by omega
      clear hI2 hg2 I0 G0
      go_wp2_with fail
      refine (curPick b a l cap _ 5 _ hl (by omega) (by omega) IB.out).mono ?_
      rintro e w3 ⟨q, rfl, hq5, hI3, hg3⟩
      obtain ⟨x, hx, hxl⟩ := lits5_at q hq5
      have hq' : q < 5 := by omega
      have hcq : w3.cell? ⟨w2.heap.size, q, none⟩ = some (.string x) := hg3.cell ((lit_new w2 lits5 9 q).trans hxl) (by simp; omega)
      have I3 := Lib.hid hI3
      have G3 := Lib.hid (grown_trans GB.out hg3)
      clear hI3 hg3 IB GB hxl
      have hs2 : (s ++ t).size + x.size ≤ 9223372036854775807 := by rw [ByteArray.size_append]; omega
      go_wp2
      go_roundw
      case rel => exact ⟨k - 1, _, by omega, rfl, by go_num, by simp only [ByteArray.size_append]; omega, I3.out.more (by omega), G3.out⟩
      case measure => simp [intOf]; omega
    · go_wp2
      go_ret
      exact ⟨s, rfl, by omega, I0.out.more (by omega), G0.out⟩

theorem three_at (z : Int) (hz : -9223372036854775808 ≤ z ∧ z ≤ 9223372036854775807) (r : Nat) (h : r < 3 ∨ r = 0) : ∃ y : Int, (-9223372036854775808 ≤ y ∧ y ≤ 9223372036854775807) ∧ (#[.int .i64 z, .int .i64 16, .int .i64 17] : Array Value)[r]? = some (.int .i64 y) := by
  rcases (show r = 0 ∨ r = 1 ∨ r = 2 from by omega) with rfl | rfl | rfl
  · exact ⟨z, hz, rfl⟩
  · exact ⟨16, by omega, rfl⟩
  · exact ⟨17, by omega, rfl⟩

set_option maxHeartbeats 1000000 in
theorem drawTokens (a : Option Addr) (l : List UInt8) (cap : Nat) (w : World) (hl : l.length ≤ 1048576) (r : Row w a (l.map bval)) :
    Calls Try.prog 17 #[.slice a l.length cap] w fun e w' => (∃ (s : ByteArray) (z : Int), e = .returned (.tuple #[.string s, .int .i64 z]) ∧ s.size ≤ 4000 ∧ (-9223372036854775808 ≤ z ∧ z ≤ 9223372036854775807)) ∧ Below w.heap.size w w' := by
  have R := Lib.hid r
  clear r
  obtain ⟨i0, hi, hz0, hz1, hz2⟩ := info_parts Try.info5
  have HI := Lib.hid (And.intro hi (And.intro hz0 (And.intro hz1 hz2)))
  clear hi hz0 hz1 hz2
  go_enter Try.func17, Try.ntmps17
  go_wp2_with fail
  refine (curOpen a l cap _ hl R.out).mono ?_
  rintro e w1 ⟨rfl, hI1, hb1⟩
  have I1 := Lib.hid hI1
  have B1 := Lib.hid hb1
  clear hI1 hb1
  go_wp2_with fail
  refine (curPick _ a l cap _ 16 _ hl (by omega) (by omega) I1.out).mono ?_
  rintro e w2 ⟨n, rfl, hn, hI2, hg2⟩
  have hn' : n < 16 := by omega
  have I2 := Lib.hid hI2
  have G2 := Lib.hid hg2
  clear hI2 hg2 I1
  have TX := curText w.heap.size a l cap (0 + 1) (n + 1) w2 hl (by omega) (by omega) I2.out
  rw [show ((n + 1 : Nat) : Int) = 1 + (n : Int) from by omega] at TX
  have TX' := Lib.hid TX
  clear TX
  go_wp2_with fail
  refine TX'.out.mono ?_
  rintro e w3 ⟨s, rfl, hs, hI3, hg3⟩
  have hs2 : s.size ≤ 1600 := by omega
  have I3 := Lib.hid (hI3.more (show _ ≤ 2000 by omega))
  have G3 := Lib.hid (grown_trans G2.out hg3)
  clear hI3 hg3 I2 G2 TX' hs
  go_wp2_with fail
  refine (curPick _ a l cap _ 9 _ hl (by omega) (by omega) I3.out).mono ?_
  rintro e w4 ⟨r, rfl, hr, hI4, hg4⟩
  have I4 := Lib.hid hI4
  have G4 := Lib.hid (grown_trans G3.out hg4)
  clear hI4 hg4 I3 G3
  by_cases h0 : r = 0
  · subst h0
    go_wp2_with fail
    refine (curRaw _ a l cap _ _ hl (by omega) I4.out).mono ?_
    rintro e w5 ⟨z, rfl, hz, hI5, hg5⟩
    have IB := Lib.hid (hI5.below (w' := w5.alloc (.cells #[.int .i64 z, .int .i64 16, .int .i64 17] 3)) ((Below.refl _ _).alloc (Nat.le_refl _) _))
    have GB := Lib.hid (grown_trans (grown_trans G4.out hg5) (World.grownBy_alloc w5 (.cells #[.int .i64 z, .int .i64 16, .int .i64 17] 3) (some w.heap.size)))
    have hbl := hI5.lt
    clear hI5 hg5 I4 G4
    go_wp2_with fail
    refine (curPick _ a l cap _ 3 _ hl (by omega) (by omega) IB.out).mono ?_
    rintro e w6 ⟨k, rfl, hk, hI6, hg6⟩
    obtain ⟨y, hy, hyl⟩ := three_at z hz k hk
    have hk3 : k < 3 := by omega
    have hcq : w6.cell? ⟨w5.heap.size, k, none⟩ = some (.int .i64 y) := hg6.cell ((lit_new w5 _ 3 k).trans hyl) (by simp; omega)
    have G6 := Lib.hid (below_write B1.out (grown_trans GB.out hg6) (Nat.le_refl _))
    clear hI6 hg6 IB GB hyl
    go_wp2
    go_ret2
    exact ⟨⟨s, y, rfl, by omega, hy⟩, G6.out⟩
  have hr0 : ((r : Int) == 0) = false := by simp; omega
  by_cases h1 : r = 1
  · subst h1
    have hmin : min 2000 (s.size : Int) = s.size := by omega
    go_wp2_with fail
    refine (curPick _ a l cap _ 2 _ hl (by omega) (by omega) I4.out).mono ?_
    rintro e w5 ⟨k, rfl, hk, hI5, hg5⟩
    have hk2 : k < 2 := by omega
    have G5 := Lib.hid (below_write B1.out (grown_trans G4.out hg5) (Nat.le_refl _))
    clear hI5 hg5 I4 G4
    go_wp2_with (at_make; (refine wpList_make_full _ rfl _ _ 22 rfl w5.heap.size 5 i0 (.int .u8 0) 1 Try.underlying22 HI.out.1 HI.out.2.1 HI.out.2.2.1 .i64 .i64 _ _ (2000 - s.size + k) rfl rfl (by omega) (by omega) (by rw [HI.out.2.2.2]; omega) (by unfold maxLen; omega) (Nat.le_refl _) ?_))
    intro w6 hown hgr
    have hb6 := Lib.hid (below_seq G5.out (grown_below hgr))
    obtain ⟨N, hN⟩ : ∃ N, N = 2000 - s.size + k := ⟨_, rfl⟩
    rw [← hN] at hown ⊢
    have hN2 : N ≤ 2001 := by omega
    have e1 : (List.replicate N (0 : UInt8)).map bval = List.replicate N (.int .u8 0) := by simp [bval]
    rw [toList_madeCells_one, ← e1] at hown
    have hcv := conv_own N (by simp) hown
    have hs1 : s.size + (strL (List.replicate N (0 : UInt8))).size ≤ 9223372036854775807 := by rw [strL_size, List.length_replicate]; omega
    have hsz : (strL (List.replicate N (0 : UInt8))).size = N := by rw [strL_size, List.length_replicate]
    have HS := Lib.hid hsz
    clear hown hgr e1 hN hsz
    generalize strL (List.replicate N (0 : UInt8)) = x at *
    go_wp2
    go_ret2
    exact ⟨⟨_, _, rfl, by rw [ByteArray.size_append, HS.out]; omega, by omega⟩, hb6.out⟩
  have hr1 : ((r : Int) == 1) = false := by simp; omega
  by_cases h2 : r = 2
  · subst h2
    have G5 := Lib.hid (below_write B1.out G4.out (Nat.le_refl _))
    go_wp2
    go_ret2
    exact ⟨⟨_, _, rfl, by rw [ByteArray.size_append]; show 1 + s.size ≤ 4000; omega, by omega⟩, G5.out⟩
  have hr2 : ((r : Int) == 2) = false := by simp; omega
  have G5 := Lib.hid (below_write B1.out G4.out (Nat.le_refl _))
  go_wp2
  go_ret2
  exact ⟨⟨_, _, rfl, by omega, by omega⟩, G5.out⟩
end Go.Proofs.Ytmdgigaplfbcpaa
