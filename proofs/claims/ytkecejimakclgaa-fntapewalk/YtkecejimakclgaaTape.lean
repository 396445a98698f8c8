/- What the functions over a tape answer, in the model of the document and in the program. -/
import Derived.Test.YtkecejimakclgaaTapeP
import Derived.Test.YtkecejimakclgaaVals
import Derived.Deep.QuietTactic
import Derived.BigQuiet
namespace Go.Proofs.Ytkecejimakclgaa
open Go.RowKit
set_option linter.unusedVariables false

def tapeV (a : Option Addr) (n cap : Nat) (z : Int) : Value := .agg #[.slice a n cap, .int .i64 z]
set_option maxHeartbeats 1000000 in
theorem implValid (b : Nat) (a : Option Addr) (cap : Nat) (l : List Int) (z : Int) (w : World) (hl : l.length ≤ maxLen) (hc0 : w.cell? ⟨b, 0, none⟩ = some (.slice a l.length cap)) (hc1 : w.cell? ⟨b, 1, none⟩ = some (.int .i64 z)) (r : Row w a (l.map ival)) :
    Calls Try.prog 31 #[.pointer (some ⟨b, 0, none⟩)] w fun e w' => e = .returned (.bool (tapeB l z)) ∧ ∃ n, w' = w.drewN n := by
  unfold maxLen at hl
  have R := Lib.hid r
  clear r
  by_cases h1 : 4000 < l.length
  · have H := Lib.hid (tape_long (z := z) h1)
    have d1 : decide (4000 < (l.length : Int)) = true := by simp; omega
    go_enter Try.func31, Try.ntmps31
    go_wp2
    go_quiet (fail)
    go_wp2
    go_ret
    exact ⟨ret_bool H.out.symm, _, rfl⟩
  have d1 : decide (4000 < (l.length : Int)) = false := by simp; omega
  by_cases h2 : z < 0
  · have H := Lib.hid (tape_neg (l := l) h2)
    have d2 : decide (z < 0) = true := by simpa using h2
    go_enter Try.func31, Try.ntmps31
    go_wp2
    go_quiet (fail)
    go_wp2
    go_ret
    exact ⟨ret_bool H.out.symm, _, rfl⟩
  have d2 : decide (z < 0) = false := by simpa using h2
  by_cases h3 : (l.length : Int) < z
  · have H := Lib.hid (tape_over h3)
    have d3 : decide ((l.length : Int) < z) = true := by simpa using h3
    go_enter Try.func31, Try.ntmps31
    go_wp2
    go_quiet (fail)
    go_wp2
    go_ret
    exact ⟨ret_bool H.out.symm, _, rfl⟩
  have d3 : decide ((l.length : Int) < z) = false := by simpa using h3
  have hw := Lib.hid (tape_mid h1 h2 h3)
  go_enter Try.func31, Try.ntmps31
  go_wp2
  go_quiet (fail)
  go_wp2
  go_loop [35] (fun i => ∃ k : Nat, k ≤ l.length ∧ i = .int .i64 k ∧ Hid ((l.take k).all drawB = true)) (fun i => l.length - (intOf i).toNat)
  case atStart => exact ⟨0, Nat.zero_le _, rfl, Lib.hid (by simp)⟩
  case round =>
    obtain ⟨k, hk, rfl, H⟩ := hrel
    by_cases hlt : k < l.length
    · obtain ⟨b1, o1, rfl, q1⟩ := R.out.at (i := k) (by simpa using hlt)
      rw [ival_at hlt] at q1
      have HS := Lib.hid (iall_snoc l k hlt)
      have HB := Lib.hid (iall_bad l k hlt)
      have D := Lib.hid (fun w => implDrawOk l[k] w)
      generalize l[k] = x at *
      cases hx : drawB x
      · have HX := Lib.hid (HB.out hx)
        rw [hx] at D
        clear hx
        go_wp2_with fail
        refine (D.out _).mono ?_
        rintro e w' ⟨rfl, rfl⟩
        go_wp2
        go_ret
        exact ⟨ret_bool (by rw [hw.out, HX.out]), _, rfl⟩
      · have HX : Hid ((l.take (k + 1)).all drawB = true) := Lib.hid (by rw [HS.out, H.out, hx]; rfl)
        rw [hx] at D
        clear hx
        go_wp2_with fail
        refine (D.out _).mono ?_
        rintro e w' ⟨rfl, rfl⟩
        go_wp2
        go_round
        case rel => exact ⟨k + 1, by omega, by go_num, HX⟩
        case measure => simp [intOf]; omega
    · have HX := Lib.hid (iall_done l k (by omega) H.out)
      go_wp2
      go_ret
      exact ⟨ret_bool (by rw [hw.out, HX.out]), _, rfl⟩
set_option maxHeartbeats 400000 in
theorem implTapeOk (a : Option Addr) (cap : Nat) (l : List Int) (z : Int) (w : World) (hl : l.length ≤ maxLen) (r : Row w a (l.map ival)) :
    Calls Try.prog 18 #[.agg #[.slice a l.length cap, .int .i64 z]] w fun e w' => e = .returned (.bool (tapeB l z)) ∧ Below w.heap.size w w' := by
  have hb : Below w.heap.size w (w.alloc (.cells #[.slice a l.length cap, .int .i64 z] 26)) := (Below.refl _ _).alloc (Nat.le_refl _) _
  have V := Lib.hid (implValid w.heap.size a cap l z _ hl (by simp) (by simp) (r.below hb))
  have B := Lib.hid hb
  clear hb r
  go_enter Try.func18, Try.ntmps18
  go_wp2_with fail
  refine V.out.mono ?_
  rintro e w1 ⟨rfl, n, rfl⟩
  go_wp2
  go_ret
  exact ⟨rfl, below_seq B.out (belowN n)⟩
set_option maxHeartbeats 1000000 in
theorem specTapeOk (a : Option Addr) (cap : Nat) (l : List Int) (z : Int) (w : World) (hl : l.length ≤ maxLen) (r : Row w a (l.map ival)) :
    Calls Try.prog 16 #[.agg #[.slice a l.length cap, .int .i64 z]] w fun e w' => e = .returned (.bool (tapeB l z)) ∧ Below w.heap.size w w' := by
  have hb : Below w.heap.size w (w.alloc (.cells #[.slice a l.length cap, .int .i64 z] 26)) := (Below.refl _ _).alloc (Nat.le_refl _) _
  unfold maxLen at hl
  have R := Lib.hid (r.below hb)
  have B := Lib.hid hb
  clear hb r
  by_cases h1 : 4000 < l.length
  · have H := Lib.hid (tape_long (z := z) h1)
    have d1 : decide (4000 < (l.length : Int)) = true := by simp; omega
    go_enter Try.func16, Try.ntmps16
    go_wp2
    go_ret
    exact ⟨ret_bool H.out.symm, B.out⟩
  have d1 : decide (4000 < (l.length : Int)) = false := by simp; omega
  by_cases h2 : z < 0
  · have H := Lib.hid (tape_neg (l := l) h2)
    have d2 : decide (z < 0) = true := by simpa using h2
    go_enter Try.func16, Try.ntmps16
    go_wp2
    go_ret
    exact ⟨ret_bool H.out.symm, B.out⟩
  have d2 : decide (z < 0) = false := by simpa using h2
  by_cases h3 : (l.length : Int) < z
  · have H := Lib.hid (tape_over h3)
    have d3 : decide ((l.length : Int) < z) = true := by simpa using h3
    go_enter Try.func16, Try.ntmps16
    go_wp2
    go_ret
    exact ⟨ret_bool H.out.symm, B.out⟩
  have d3 : decide ((l.length : Int) < z) = false := by simpa using h3
  have hw := Lib.hid (tape_mid h1 h2 h3)
  go_enter Try.func16, Try.ntmps16
  go_wp2
  go_loop [3] (fun i => ∃ k : Nat, k ≤ l.length ∧ i = .int .i64 k ∧ Hid ((l.take k).all drawB = true)) (fun i => l.length - (intOf i).toNat)
  case atStart => exact ⟨0, Nat.zero_le _, rfl, Lib.hid (by simp)⟩
  case round =>
    obtain ⟨k, hk, rfl, H⟩ := hrel
    by_cases hlt : k < l.length
    · obtain ⟨b1, o1, rfl, q1⟩ := R.out.at (i := k) (by simpa using hlt)
      rw [ival_at hlt] at q1
      have HS := Lib.hid (iall_snoc l k hlt)
      have HB := Lib.hid (iall_bad l k hlt)
      generalize l[k] = x at *
      by_cases x1 : x < 0
      · have HX := Lib.hid (HB.out (draw_no (.inl x1)))
        go_wp2
        go_ret
        exact ⟨ret_bool (by rw [hw.out, HX.out]), B.out⟩
      · by_cases x2 : 65535 < x
        · have HX := Lib.hid (HB.out (draw_no (.inr x2)))
          go_wp2
          go_ret
          exact ⟨ret_bool (by rw [hw.out, HX.out]), B.out⟩
        · have HX : Hid ((l.take (k + 1)).all drawB = true) := Lib.hid (by rw [HS.out, H.out, draw_yes (by omega) (by omega)]; rfl)
          go_wp2
          go_round
          case rel => exact ⟨k + 1, by omega, by go_num, HX⟩
          case measure => simp [intOf]; omega
    · have HX := Lib.hid (iall_done l k (by omega) H.out)
      go_wp2
      go_ret
      exact ⟨ret_bool (by rw [hw.out, HX.out]), B.out⟩
set_option maxHeartbeats 1000000 in
theorem specTapeLeft (a : Option Addr) (cap : Nat) (l : List Int) (z : Int) (w : World) (hl : l.length ≤ maxLen) (r : Row w a (l.map ival)) :
    Calls Try.prog 11 #[.agg #[.slice a l.length cap, .int .i64 z]] w fun e w' => e = .returned (.int .i64 (leftI l z)) ∧ Below w.heap.size w w' := by
  have hb : Below w.heap.size w (w.alloc (.cells #[.slice a l.length cap, .int .i64 z] 26)) := (Below.refl _ _).alloc (Nat.le_refl _) _
  have V := Lib.hid (specTapeOk a cap l z _ hl (r.below hb))
  have B := Lib.hid hb
  have hc0 : (w.alloc (.cells #[.slice a l.length cap, .int .i64 z] 26)).cell? ⟨w.heap.size, 0, none⟩ = some (.slice a l.length cap) := by simp
  have hc1 : (w.alloc (.cells #[.slice a l.length cap, .int .i64 z] 26)).cell? ⟨w.heap.size, 1, none⟩ = some (.int .i64 z) := by simp
  clear hb r
  cases ht : tapeB l z
  · have H := Lib.hid (left_no ht)
    rw [ht] at V
    clear ht hc0 hc1
    go_enter Try.func11, Try.ntmps11
    go_wp2_with fail
    refine V.out.mono ?_
    rintro e w1 ⟨rfl, hb1⟩
    have B1 := Lib.hid (below_seq B.out hb1)
    clear hb1
    go_wp2
    go_ret
    exact ⟨ret_int H.out.symm, B1.out⟩
  · have H := Lib.hid (left_yes ht)
    obtain ⟨t1, t2, t3, _⟩ := tape_of ht
    rw [ht] at V
    have C0 := Lib.hid hc0
    have C1 := Lib.hid hc1
    clear ht hc0 hc1
    go_enter Try.func11, Try.ntmps11
    go_wp2_with fail
    refine V.out.mono ?_
    rintro e w1 ⟨rfl, hb1⟩
    have hc0 : w1.cell? ⟨w.heap.size, 0, none⟩ = some (.slice a l.length cap) := (hb1.cell (by simp)).trans C0.out
    have hc1 : w1.cell? ⟨w.heap.size, 1, none⟩ = some (.int .i64 z) := (hb1.cell (by simp)).trans C1.out
    have B1 := Lib.hid (below_seq B.out hb1)
    clear hb1
    go_wp2
    go_ret
    exact ⟨ret_int H.out.symm, B1.out⟩
set_option maxHeartbeats 400000 in
theorem implLeft (b : Nat) (a : Option Addr) (cap n : Nat) (z : Int) (w : World) (hl : n ≤ 4000) (h0 : 0 ≤ z) (h1 : z ≤ n) (hc0 : w.cell? ⟨b, 0, none⟩ = some (.slice a n cap)) (hc1 : w.cell? ⟨b, 1, none⟩ = some (.int .i64 z)) :
    Calls Try.prog 32 #[.pointer (some ⟨b, 0, none⟩)] w fun e w' => e = .returned (.int .i64 (n - z)) ∧ ∃ n, w' = w.drewN n := by
  have hwr : IntKind.i64.wrap ((n : Int) - z) = (n : Int) - z := IntWalk.i64_in _ (by omega)
  go_enter Try.func32, Try.ntmps32
  go_wp2
  go_quiet (fail)
  go_wp2
  go_ret
  exact ⟨rfl, _, rfl⟩
set_option maxHeartbeats 1000000 in
theorem implTapeLeft (a : Option Addr) (cap : Nat) (l : List Int) (z : Int) (w : World) (hl : l.length ≤ maxLen) (r : Row w a (l.map ival)) :
    Calls Try.prog 12 #[.agg #[.slice a l.length cap, .int .i64 z]] w fun e w' => e = .returned (.int .i64 (leftI l z)) ∧ Below w.heap.size w w' := by
  have hb : Below w.heap.size w (w.alloc (.cells #[.slice a l.length cap, .int .i64 z] 26)) := (Below.refl _ _).alloc (Nat.le_refl _) _
  have hc0 : (w.alloc (.cells #[.slice a l.length cap, .int .i64 z] 26)).cell? ⟨w.heap.size, 0, none⟩ = some (.slice a l.length cap) := by simp
  have hc1 : (w.alloc (.cells #[.slice a l.length cap, .int .i64 z] 26)).cell? ⟨w.heap.size, 1, none⟩ = some (.int .i64 z) := by simp
  have V := Lib.hid (implValid w.heap.size a cap l z _ hl hc0 hc1 (r.below hb))
  have B := Lib.hid hb
  clear hb r
  cases ht : tapeB l z
  · have H := Lib.hid (left_no ht)
    rw [ht] at V
    clear ht hc0 hc1
    go_enter Try.func12, Try.ntmps12
    go_wp2_with fail
    refine V.out.mono ?_
    rintro e w1 ⟨rfl, n, rfl⟩
    go_wp2
    go_ret
    exact ⟨ret_int H.out.symm, below_seq B.out (belowN n)⟩
  · have H := Lib.hid (left_yes ht)
    obtain ⟨t1, t2, t3, _⟩ := tape_of ht
    rw [ht] at V
    have L := Lib.hid (fun n => implLeft w.heap.size a cap l.length z ((w.alloc (.cells #[.slice a l.length cap, .int .i64 z] 26)).drewN n) t1 t2 t3 hc0 hc1)
    clear ht hc0 hc1
    go_enter Try.func12, Try.ntmps12
    go_wp2_with fail
    refine V.out.mono ?_
    rintro e w1 ⟨rfl, n, rfl⟩
    go_wp2_with fail
    refine (L.out n).mono ?_
    rintro e w1 ⟨rfl, m, rfl⟩
    go_wp2
    go_ret
    exact ⟨ret_int H.out.symm, below_seq B.out (belowN (n + m))⟩
end Go.Proofs.Ytkecejimakclgaa
