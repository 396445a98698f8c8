/- Chapter 7 drawn: lists of numbers. -/
import Derived.Test.YtfdlmpjccoaejaaNuU
import Derived.Test.YtfdlmpjccoaejaaCurN
import Derived.Test.YtfdlmpjccoaejaaPow
namespace Go.Proofs.Ytfdlmpjccoaejaa
open Go.RowKit
set_option linter.unusedVariables false
set_option maxRecDepth 100000

theorem app_low {s n B : Nat} {w w1 : World} {v : Value} {e : TypeId} {xs : List Value} (hs : B ≤ w.heap.size) (hO : w.ownsRow B e s v n xs) (o : Obj) (hg : (w.alloc o).grownBy w1 v.ownBlock) : Below B w w1 :=
  ((Below.refl B w).alloc hs o).grown hg (by simp; omega) (fun g hg => (hO.lt g hg).1)
def i64L (l : List Int) : Prop := ∀ z ∈ l, -9223372036854775808 ≤ z ∧ z ≤ 9223372036854775807
/-- What a drawing of numbers leaves. -/
def DrawnNums (w : World) (e : Ending) (w' : World) : Prop :=
  ∃ (c : Value) (L : List Int) (z : Int), e = .returned (.tuple #[c, .int .i64 z]) ∧ IntSIn [c] L w' ∧ L.length ≤ 100 ∧ i64L L ∧ (-9223372036854775808 ≤ z ∧ z ≤ 9223372036854775807) ∧ Below w.heap.size w w'
theorem min16 (k : Nat) (hk : k ≤ 16) : ∀ w ts t, (Builtin.min_ ts t #[.int .i64 16, .int .i64 k]).run Try.prog w = .ok (.int .i64 k) w := by
  intro w ts t
  simp [Builtin.min_, Builtin.min2]
  omega
theorem max0 (k : Nat) : ∀ w ts t, (Builtin.max_ ts t #[.int .i64 0, .int .i64 k]).run Try.prog w = .ok (.int .i64 k) w := by
  intro w ts t
  simp [Builtin.max_, Builtin.max2]
  omega
set_option maxHeartbeats 4000000 in
theorem drawNums (a : Option Addr) (l : List UInt8) (cap : Nat) (w : World) (hl : l.length ≤ 1048576) (r : Row w a (l.map bval)) :
    Calls Try.prog 25 #[.slice a l.length cap] w (DrawnNums w) := by
  have CO := Lib.hid (curOpen a l cap w hl r)
  clear r
  go_enter Try.func25, Try.ntmps25
  go_wp2_with fail
  refine CO.out.mono ?_
  rintro e w1 ⟨rfl, hI1, hB1⟩
  have I1 := Lib.hid hI1
  have B1 := Lib.hid hB1
  clear hI1 hB1 CO
  go_wp2_with fail
  refine (curPick w.heap.size a l cap _ 17 _ hl (by omega) (by omega) I1.out).mono ?_
  rintro e w2 ⟨k, rfl, hk, hI2, hg2⟩
  have hk16 : k ≤ 16 := by omega
  have B2 := Lib.hid (below_write B1.out hg2 (Nat.le_refl _))
  have I2 := Lib.hid (hI2.below (below_box (Below.refl w2.heap.size w2) (.cells #[] 3)))
  have hb2 : w.heap.size < w2.heap.size := hI2.lt
  have O2 := Lib.hid (nil_ints w2)
  have PW := Lib.hid (fun w => specPow16 k w hk16)
  have hp := pow_le16 hk16
  have hp0 : 0 < 2 ^ k := Nat.pow_pos (by omega)
  have MN := min16 k hk16
  have MX := max0 k
  clear hI2 hg2 I1 B1 hk
  generalize 2 ^ k = P at *
  go_wp2_with fail
  refine (curSize w.heap.size a l cap _ 20 _ hl (by omega) (by omega) I2.out).mono ?_
  rintro e w3 ⟨n, rfl, hn, hI3, hg3⟩
  have hn20 : n ≤ 20 := by omega
  have B3 : Hid (Below w.heap.size w w3) := Lib.hid (below_write (below_box B2.out _) hg3 (Nat.le_refl _))
  have O3 : Hid (w3.ownsRow (w.heap.size + 1) 3 1 (.slice (some ⟨w2.heap.size, 0, none⟩) 0 0) 0 (([] : List Int).map ival)) := Lib.hid (own_base (O2.out.kept hg3 (own_apart O2.out hb2)) hb2)
  have X3 := Lib.hid (And.intro O3.out (And.intro hI3 B3.out))
  clear hI3 hg3 I2 B2 O2 O3 B3 hn
  go_wp2
  go_loopw [6, 7] (fun o i wr => ∃ (q c : Nat) (ad : Option Addr) (L : List Int), q ≤ n ∧ i = .int .i64 ((n : Int) - (q : Int)) ∧ o = .slice ad q c ∧ Hid (L.length = q ∧ i64L L) ∧ Hid (wr.ownsRow (w.heap.size + 1) 3 1 (.slice ad q c) q (L.map ival) ∧ CurI wr w.heap.size a l cap (2 + 3 * q) ∧ Below w.heap.size w wr)) (fun _ i _ => (intOf i).toNat)
  case atStart => exact ⟨0, 0, _, [], Nat.zero_le _, by simp, rfl, Lib.hid ⟨rfl, fun z hz => by simp at hz⟩, Lib.hid ⟨X3.out.1, X3.out.2.1.more (by omega), X3.out.2.2⟩⟩
  case round =>
    clear X3
    obtain ⟨q, c, ad, L, hq, rfl, rfl, HL, H⟩ := hrel
    by_cases hlt : q < n
    · go_wp2_with fail
      refine (PW.out _).mono ?_
      rintro e w4 ⟨rfl, rfl⟩
      go_wp2_with fail
      refine (curWide w.heap.size a l cap _ P _ hl (by omega) (by omega) hp0 H.out.2.1).mono ?_
      rintro e w5 ⟨x, rfl, hx, hI5, hg5⟩
      have hx2 : x < 65536 := by omega
      have O5 := Lib.hid (H.out.1.kept hg5 (own_apart H.out.1 (by omega)))
      have B5 := Lib.hid (below_write H.out.2.2 hg5 (Nat.le_refl _))
      have I5 := Lib.hid hI5
      have hsz : w.heap.size + 1 ≤ w5.heap.size := hI5.lt
      clear hI5 hg5 H
      go_wp2_with (at_builtin; go_must (refine wp_app_row rfl _ _ 36 rfl 3 (.int .i64 0) 8 Try.underlying36 Try.info3 rfl (w.heap.size + 1) q (.slice ad q c) (L.map ival) (by rfl) (O5.out.alloc _) (some ⟨w5.heap.size, 0, none⟩) 1 1 [.int .i64 x] (by rfl) rfl (row_one w5 (.int .i64 x) 3) (by simp [Value.oneCell']) (by unfold maxLen; omega) (by omega) (by simp; omega) ?_); intro v6 w6 ho6 hg6; have LW := app_low hsz O5.out _ hg6; have X6 := Lib.hid (And.intro (I5.out.low LW (by omega)) (B5.out.trans (LW.mono (by omega)))); have O6 := Lib.hid ho6; obtain ⟨a6, c6, rfl⟩ := own_shape ho6; clear ho6 hg6 LW)
      go_roundw
      case rel => exact ⟨q + 1, c6, a6, L ++ [(x : Int)], by omega, by go_num, rfl, Lib.hid ⟨by simp [HL.out.1], fun z hz => by
        rcases List.mem_append.1 hz with h | h
        · exact HL.out.2 z h
        · have : z = (x : Int) := by simpa using h
          omega⟩, Lib.hid ⟨by rw [List.map_append]; exact O6.out, X6.out.1.more (by omega), X6.out.2⟩⟩
      case measure => simp [intOf]; omega
    · have hq' : q = n := by omega
      subst hq'
      have MK : Hid (∀ (wz : World) (ad' : Option Addr) (q' c' : Nat) (L' : List Int) (z : Int), wz.ownsRow (w.heap.size + 1) 3 1 (.slice ad' q' c') q' (L'.map ival) → L'.length ≤ 100 → i64L L' → (-9223372036854775808 ≤ z ∧ z ≤ 9223372036854775807) → Below w.heap.size w wz → DrawnNums w (.returned (.tuple #[.slice ad' q' c', .int .i64 z])) wz) := Lib.hid (fun wz ad' q' c' L' z h1 h2 h3 h4 h5 => ⟨_, L', z, rfl, (IntSOwn.mk h1).read, h2, h3, h4, h5⟩)
      have hL100 : Hid (L.length ≤ 100) := Lib.hid (by rw [HL.out.1]; omega)
      go_wp2_with fail
      refine (curPick w.heap.size a l cap _ 9 _ hl (by omega) (by omega) H.out.2.1).mono ?_
      rintro e w4 ⟨t, rfl, ht, hI4, hg4⟩
      have O4 := Lib.hid (H.out.1.kept hg4 (own_apart H.out.1 (by omega)))
      have B4 := Lib.hid (below_write H.out.2.2 hg4 (Nat.le_refl _))
      have I4 := Lib.hid hI4
      have hb4 : w.heap.size < w4.heap.size := hI4.lt
      clear hI4 hg4 H
      by_cases t0 : t = 0
      · subst t0
        have h00 : (((0 : Nat) : Int) == 0) = true := rfl
        go_wp2_with fail
        refine (curRaw w.heap.size a l cap _ _ hl (by omega) I4.out).mono ?_
        rintro e w5 ⟨z, rfl, hz, hI5, hg5⟩
        have O5 := Lib.hid (O4.out.kept hg5 (own_apart O4.out (by omega)))
        have B5 := Lib.hid (below_write B4.out hg5 (Nat.le_refl _))
        have hb5 : w.heap.size < w5.heap.size := hI5.lt
        have I5 := Lib.hid (hI5.below (below_box (Below.refl w5.heap.size w5) (.cells #[.int .i64 z, .int .i64 17] 3)))
        clear hI5 hg5 O4 B4 I4
        go_wp2_with fail
        refine (curPick w.heap.size a l cap _ 2 _ hl (by omega) (by omega) I5.out).mono ?_
        rintro e w6 ⟨x, rfl, hx, hI6, hg6⟩
        have OA := O5.out.alloc (.cells #[.int .i64 z, .int .i64 17] 3)
        have O6 := Lib.hid (OA.kept hg6 (own_apart OA (by omega)))
        have B6 := Lib.hid (below_write (below_box B5.out (.cells #[.int .i64 z, .int .i64 17] 3)) hg6 (Nat.le_refl _))
        obtain ⟨y, hy, hyl⟩ : ∃ y : Int, (-9223372036854775808 ≤ y ∧ y ≤ 9223372036854775807) ∧ (#[Value.int .i64 z, Value.int .i64 17] : Array Value)[x]? = some (.int .i64 y) := by
          obtain rfl | rfl : x = 0 ∨ x = 1 := by omega
          · exact ⟨z, hz, rfl⟩
          · exact ⟨17, by omega, rfl⟩
        have hx2 : x < 2 := by omega
        have hq : w6.cell? ⟨w5.heap.size, x, none⟩ = some (.int .i64 y) := hg6.cell ((lit_new w5 _ 3 x).trans hyl) (by simp; omega)
        clear hI6 hg6 I5 O5 B5 hyl OA
        go_wp2
        go_ret2
        exact MK.out _ _ _ _ _ _ O6.out hL100.out HL.out.2 hy B6.out
      have t0B : ((t : Int) == 0) = false := by simp; omega
      by_cases t1 : t = 1
      · subst t1
        go_wp2_with fail
        refine (curRaw w.heap.size a l cap _ _ hl (by omega) I4.out).mono ?_
        rintro e w5 ⟨z, rfl, hz, hI5, hg5⟩
        have O5 := Lib.hid (O4.out.kept hg5 (own_apart O4.out (by omega)))
        have B5 := Lib.hid (below_write B4.out hg5 (Nat.le_refl _))
        have hb5 : w.heap.size < w5.heap.size := hI5.lt
        have I5 := Lib.hid (hI5.below (below_box (Below.refl w5.heap.size w5) (.cells #[.int .i64 z, .int .i64 P] 3)))
        clear hI5 hg5 O4 B4 I4
        go_wp2_with fail
        refine (PW.out _).mono ?_
        rintro e w' ⟨rfl, rfl⟩
        go_wp2_with fail
        refine (curPick w.heap.size a l cap _ 2 _ hl (by omega) (by omega) I5.out).mono ?_
        rintro e w6 ⟨x, rfl, hx, hI6, hg6⟩
        have OA := O5.out.alloc (.cells #[.int .i64 z, .int .i64 P] 3)
        have O6 := Lib.hid (OA.kept hg6 (own_apart OA (by omega)))
        have B6 := Lib.hid (below_write (below_box B5.out (.cells #[.int .i64 z, .int .i64 P] 3)) hg6 (Nat.le_refl _))
        obtain ⟨y, hy, hyl⟩ : ∃ y : Int, (-9223372036854775808 ≤ y ∧ y ≤ 9223372036854775807) ∧ (#[Value.int .i64 z, Value.int .i64 P] : Array Value)[x]? = some (.int .i64 y) := by
          obtain rfl | rfl : x = 0 ∨ x = 1 := by omega
          · exact ⟨z, hz, rfl⟩
          · exact ⟨P, by omega, rfl⟩
        have hx2 : x < 2 := by omega
        have hq : w6.cell? ⟨w5.heap.size, x, none⟩ = some (.int .i64 y) := hg6.cell ((lit_new w5 _ 3 x).trans hyl) (by simp; omega)
        have hb6 : w.heap.size + 1 ≤ w6.heap.size := hI6.lt
        clear hI6 hg6 I5 O5 B5 hyl OA
        go_wp2_with (at_builtin; go_must (refine wp_app_row rfl _ _ 36 rfl 3 (.int .i64 0) 8 Try.underlying36 Try.info3 rfl (w.heap.size + 1) q (.slice ad q c) (L.map ival) (by rfl) (O6.out.alloc _) (some ⟨w6.heap.size, 0, none⟩) 1 1 [.int .i64 y] (by rfl) rfl (row_one w6 (.int .i64 y) 3) (by simp [Value.oneCell']) (by unfold maxLen; omega) (by omega) (by simp; omega) ?_); intro v7 w7 ho7 hg7; have LW := app_low hb6 O6.out _ hg7; have B7 := Lib.hid (B6.out.trans (LW.mono (by omega))); have O7 := Lib.hid ho7; obtain ⟨a7, c7, rfl⟩ := own_shape ho7; clear ho7 hg7 LW)
        go_ret2
        refine MK.out _ _ _ _ (L ++ [y]) _ (by rw [List.map_append]; exact O7.out) (by rw [List.length_append]; have := HL.out.1; simp; omega) (fun z' hz' => ?_) (by omega) B7.out
        rcases List.mem_append.1 hz' with h | h
        · exact HL.out.2 z' h
        · have : z' = y := by simpa using h
          omega
      have t1B : ((t : Int) == 1) = false := by simp; omega
      by_cases t2 : t = 2
      · subst t2
        go_wp2_with fail
        refine (curPick w.heap.size a l cap _ 2 _ hl (by omega) (by omega) I4.out).mono ?_
        rintro e w6 ⟨x, rfl, hx, hI6, hg6⟩
        have hx2 : x < 2 := by omega
        have B6 := Lib.hid (below_write B4.out hg6 (Nat.le_refl _))
        have hb6 : w.heap.size + 1 ≤ w6.heap.size := hI6.lt
        obtain ⟨i0, hi, hz0, hz1, hz2⟩ := info_parts Try.info3
        clear hI6 hg6 I4 O4 B4
        go_wp2_with (at_make; rw [show (64 : Int) + (x : Int) = ((64 + x : Nat) : Int) from by omega]; refine wpList_make_full _ rfl _ _ 36 rfl (w.heap.size + 1) 3 i0 (.int .i64 0) 1 Try.underlying36 hi hz0 hz1 .i64 .i64 _ _ (64 + x) rfl rfl rfl rfl (by rw [hz2]; omega) (by unfold maxLen; omega) hb6 ?_)
        clear hi hz0 hz1 hz2
        intro w7 hown hgr
        rw [toList_madeCells_one] at hown
        have O7 : Hid (w7.ownsRow (w.heap.size + 1) 3 1 (.slice (some ⟨w6.heap.size, 0, none⟩) (64 + x) (64 + x)) (64 + x) ((List.replicate (64 + x) (0 : Int)).map ival)) := Lib.hid (by rw [List.map_replicate]; exact hown)
        have B7 := Lib.hid (below_seq B6.out (grown_below hgr))
        clear hown hgr
        go_wp2
        go_ret2
        exact MK.out _ _ _ _ _ _ O7.out (by rw [List.length_replicate]; omega) (fun z' hz' => by rw [List.eq_of_mem_replicate hz']; omega) (by omega) B7.out
      have t2B : ((t : Int) == 2) = false := by simp; omega
      go_wp2
      go_ret2
      exact MK.out _ _ _ _ _ _ O4.out hL100.out HL.out.2 (by omega) B4.out
end Go.Proofs.Ytfdlmpjccoaejaa
