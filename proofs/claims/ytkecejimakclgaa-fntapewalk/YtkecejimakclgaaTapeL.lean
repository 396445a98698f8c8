/- The laws' own helpers over tapes: counted, compared, marked, held, copied; an argument that is a tape. -/
import Derived.Test.YtkecejimakclgaaTape
import Derived.Test.YtkecejimakclgaaInts
import Derived.Test.YtkecejimakclgaaReads
namespace Go.Proofs.Ytkecejimakclgaa
open Go.RowKit Go.ChangeShapes Go.WideShapes
set_option linter.unusedVariables false

/-- A tape that came in. -/
theorem arg_tape {w : World} {v : Value} (h : Arg w 33 v) : ∃ (a : Option Addr) (cap : Nat) (l : List Int) (z : Int), v = .agg #[.slice a l.length cap, .int .i64 z] ∧ l.length ≤ cap ∧ cap ≤ maxLen ∧ Row w a (l.map ival) ∧
    (-9223372036854775808 ≤ z ∧ z ≤ 9223372036854775807) := by
  obtain ⟨cs, rfl, hl, hr⟩ := h.agg Try.underlying33
  have hC : Try.prog.cellsOf 33 = 2 := by kernel_rfl
  have hC0 : Try.prog.cellsOf 24 = 1 := by kernel_rfl
  have hC1 : Try.prog.cellsOf 3 = 1 := by kernel_rfl
  rw [hC] at hl
  match cs, hl with
  | [c0, c1], _ =>
    have f0 := hr.field Try.underlying33 0 _ 24 1 [c0] rfl rfl hC0 rfl
    have f1 := hr.field Try.underlying33 1 _ 3 1 [c1] rfl rfl hC1 rfl
    obtain ⟨a, cap, l, e0, h1, h2, h3, _⟩ := f0.ints Try.underlying24 Try.underlying3 hC1
    obtain ⟨z, e1, hz⟩ := f1.int Try.underlying3
    simp at e0 e1
    subst e0 e1
    exact ⟨a, cap, l, z, rfl, h1, h2, h3, wf_i64 hz⟩

set_option maxHeartbeats 400000 in
theorem lawsSzTape (a : Option Addr) (n cap : Nat) (z : Int) (left : Int) (w : World) (hn : n ≤ maxLen) (h0 : 0 ≤ left) (h1 : left ≤ 1048576) :
    Calls Try.prog 15 #[.agg #[.slice a n cap, .int .i64 z], .int .i64 left] w fun e w' => e = .returned (.int .i64 (szI left n)) ∧ Below w.heap.size w w' := by
  have B : Hid (Below w.heap.size w (w.alloc (.cells #[.slice a n cap, .int .i64 z] 33))) := Lib.hid ((Below.refl _ _).alloc (Nat.le_refl _) _)
  have S := Lib.hid (lawsSzIntS a n cap left (w.alloc (.cells #[.slice a n cap, .int .i64 z] 33)) hn h0 h1)
  by_cases h : left - (n : Int) < 0
  · rw [szI_no h] at S ⊢
    clear h
    go_enter Try.func15, Try.ntmps15
    go_wp2_with fail
    refine S.out.mono ?_
    rintro e w1 ⟨rfl, rfl⟩
    go_wp2
    go_ret
    exact ⟨rfl, B.out⟩
  · rw [szI_yes h] at S ⊢
    go_enter Try.func15, Try.ntmps15
    go_wp2_with fail
    refine S.out.mono ?_
    rintro e w1 ⟨rfl, rfl⟩
    go_wp2
    go_ret
    exact ⟨rfl, B.out⟩
/-- A tape in memory that the call owns. -/
def TapeOut (l : List Int) (z : Int) (w : World) (e : Ending) (w' : World) : Prop :=
  ∃ a cap, e = .returned (.agg #[.slice a l.length cap, .int .i64 z]) ∧ w'.ownsRow w.heap.size 3 1 (.slice a l.length cap) l.length (l.map ival) ∧ Below w.heap.size w w'
set_option maxHeartbeats 400000 in
theorem lawsToTape (a : Option Addr) (cap : Nat) (l : List Int) (z : Int) (w : World) (hl : l.length ≤ 35184372088832) (r : Row w a (l.map ival)) :
    Calls Try.prog 17 #[.agg #[.slice a l.length cap, .int .i64 z]] w (TapeOut l z w) := by
  have hb : Below w.heap.size w (((w.alloc (.cells #[.slice a l.length cap, .int .i64 z] 33)).alloc (.cells #[.slice none 0 0, .int .i64 0] 26)).alloc (.cells #[.slice none 0 0, .int .i64 0] 26)) :=
    (((Below.refl _ _).alloc (Nat.le_refl _) _).alloc (by simp) _).alloc (by simp; omega) _
  have S := Lib.hid (lawsToIntS a cap l _ hl (r.below hb))
  have B := Lib.hid hb
  clear hb r
  go_enter Try.func17, Try.ntmps17
  go_wp2_with fail
  refine S.out.mono ?_
  rintro e w1 ⟨rfl, hA, hb1⟩
  have k0 : w1.heap[w.heap.size]? = some (.cells #[.slice a l.length cap, .int .i64 z] 33 (0, 0)) := (hb1.block _ (by simp; omega)).trans ((alloc_old _ _ _ (by simp; omega)).trans ((alloc_old _ _ _ (by simp)).trans (alloc_at _ _ _ rfl)))
  have k1 : w1.heap[w.heap.size + 1]? = some (.cells #[.slice none 0 0, .int .i64 0] 26 (0, 0)) := (hb1.block _ (by simp)).trans ((alloc_old _ _ _ (by simp)).trans (alloc_at _ _ _ (by simp)))
  have k2 : w1.heap[w.heap.size + 1 + 1]? = some (.cells #[.slice none 0 0, .int .i64 0] 26 (0, 0)) := (hb1.block _ (by simp)).trans (alloc_at _ _ _ (by simp))
  have c0 := cur_cell k0 1
  have c1 := cur_cell k1 0
  have c11 := cur_cell k1 1
  have c2 := cur_cell k2 0
  have c21 := cur_cell k2 1
  have f1 := cur_free k1 0
  have f11 := cur_free k1 1
  have f2 := cur_free k2 0
  have f21 := cur_free k2 1
  simp at c0 c1 c11 c2 c21
  have A := Lib.hid hA
  have B1 := Lib.hid (below_seq B.out hb1)
  clear k0 k1 k2 hA hb1
  go_wp2
  have own1 := ownsRow_setCell_below (ownsRow_setCell_below (ownsRow_setCell_below (ownsRow_setCell_below A.out (a := ⟨w.heap.size + 1 + 1, 0, none⟩) (by simp) (.slice (some ⟨w.heap.size + 1 + 1 + 1, 0, none⟩) l.length l.length)) (a := ⟨w.heap.size + 1 + 1, 1, none⟩) (by simp) (.int .i64 z)) (a := ⟨w.heap.size + 1, 0, none⟩) (by simp) (.slice (some ⟨w.heap.size + 1 + 1 + 1, 0, none⟩) l.length l.length)) (a := ⟨w.heap.size + 1, 1, none⟩) (by simp) (.int .i64 z)
  exact bodyPost_ret (v := .agg #[.slice (some ⟨w.heap.size + 1 + 1 + 1, 0, none⟩) l.length l.length, .int .i64 z]) (by simp [results, Try.results17, go_sem, c1, c11]) rfl
    ⟨_, _, rfl, by simpa using own_base own1 (base' := w.heap.size) (by simp; omega), (((B1.out.setCell (p := ⟨w.heap.size + 1 + 1, 0, none⟩) (by simp; omega) _).setCell (p := ⟨w.heap.size + 1 + 1, 1, none⟩) (by simp; omega) _).setCell (p := ⟨w.heap.size + 1, 0, none⟩) (by simp) _).setCell (p := ⟨w.heap.size + 1, 1, none⟩) (by simp) _⟩
set_option maxHeartbeats 400000 in
theorem lawsEqTape (a1 a2 : Option Addr) (c1 c2 : Nat) (l1 l2 : List Int) (z1 z2 : Int) (w : World) (h1 : l1.length ≤ maxLen) (h2 : l2.length ≤ maxLen) (r1 : Row w a1 (l1.map ival)) (r2 : Row w a2 (l2.map ival)) :
    Calls Try.prog 19 #[.agg #[.slice a1 l1.length c1, .int .i64 z1], .agg #[.slice a2 l2.length c2, .int .i64 z2]] w fun e w' => e = .returned (.bool ((l1 == l2) && (z1 == z2))) ∧ Below w.heap.size w w' := by
  have hb : Below w.heap.size w ((w.alloc (.cells #[.slice a1 l1.length c1, .int .i64 z1] 26)).alloc (.cells #[.slice a2 l2.length c2, .int .i64 z2] 26)) := ((Below.refl _ _).alloc (Nat.le_refl _) _).alloc (by simp) _
  have E := Lib.hid (lawsEqIntS a1 a2 c1 c2 l1 l2 _ h1 h2 (r1.below hb) (r2.below hb))
  have B := Lib.hid hb
  clear hb r1 r2
  cases he : (l1 == l2)
  · rw [he] at E
    clear he
    go_enter Try.func19, Try.ntmps19
    go_wp2_with fail
    refine E.out.mono ?_
    rintro e w1 ⟨rfl, n, rfl⟩
    go_wp2
    go_ret
    exact ⟨rfl, below_seq B.out (belowN n)⟩
  · rw [he] at E
    clear he
    by_cases hz : z1 = z2
    · subst hz
      go_enter Try.func19, Try.ntmps19
      go_wp2_with fail
      refine E.out.mono ?_
      rintro e w1 ⟨rfl, n, rfl⟩
      go_wp2
      go_ret
      exact ⟨ret_bool (by simp), below_seq B.out (belowN n)⟩
    · have H : Hid ((z1 == z2) = false) := Lib.hid (by simpa using hz)
      have hB : (z1 != z2) = true := by simpa using hz
      clear hz
      go_enter Try.func19, Try.ntmps19
      go_wp2_with fail
      refine E.out.mono ?_
      rintro e w1 ⟨rfl, n, rfl⟩
      go_wp2
      go_ret
      exact ⟨ret_bool (by rw [H.out]; rfl), below_seq B.out (belowN n)⟩
set_option maxHeartbeats 400000 in
theorem lawsMarkTape (base n cap k : Nat) (a : Option Addr) (z : Int) (xs : List Value) (w : World) (hk : k + n ≤ 4611686018427387904) (hown : w.ownsRow base 3 1 (.slice a n cap) n xs) :
    Calls Try.prog 21 #[.agg #[.slice a n cap, .int .i64 z], .int .i64 k] w fun e w' => e = .returned (.int .i64 ((k + n : Nat) : Int)) ∧ w'.ownsRow base 3 1 (.slice a n cap) n ((marksI k n).map ival) ∧ w.grownBy w' (Value.ownBlock (.slice a n cap)) := by
  have M := Lib.hid (lawsMarkIntS base n cap k a xs _ hk (hown.alloc (.cells #[.slice a n cap, .int .i64 z] 26)))
  have G := Lib.hid (World.grownBy_alloc w (.cells #[.slice a n cap, .int .i64 z] 26) (Value.ownBlock (.slice a n cap)))
  clear hown
  go_enter Try.func21, Try.ntmps21
  go_wp2_with fail
  refine M.out.mono ?_
  rintro e w1 ⟨rfl, hA, hg⟩
  have A := Lib.hid hA
  have G1 := Lib.hid (grown_trans G.out hg)
  clear hA hg
  go_wp2
  go_ret
  exact ⟨rfl, A.out, G1.out⟩
set_option maxHeartbeats 400000 in
theorem lawsHeldTape (a : Option Addr) (n cap k : Nat) (z : Int) (w : World) (hk : k + n ≤ 4611686018427387904) (r : Row w a ((marksI k n).map ival)) :
    Calls Try.prog 22 #[.agg #[.slice a n cap, .int .i64 z], .int .i64 k] w fun e w' => e = .returned (.int .i64 ((k + n : Nat) : Int)) ∧ Below w.heap.size w w' := by
  have hb : Below w.heap.size w (w.alloc (.cells #[.slice a n cap, .int .i64 z] 26)) := (Below.refl _ _).alloc (Nat.le_refl _) _
  have H := Lib.hid (lawsHeldIntS a n cap k _ hk (r.below hb))
  have B := Lib.hid hb
  clear hb r
  go_enter Try.func22, Try.ntmps22
  go_wp2_with fail
  refine H.out.mono ?_
  rintro e w1 ⟨rfl, rfl⟩
  go_wp2
  go_ret
  exact ⟨rfl, B.out⟩
end Go.Proofs.Ytkecejimakclgaa
