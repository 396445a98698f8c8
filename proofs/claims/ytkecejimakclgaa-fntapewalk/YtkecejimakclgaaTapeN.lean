/- What 'TapeNext' answers, in the model of the document and in the program. -/
import Derived.Test.YtkecejimakclgaaTapeT
import Derived.Test.YtkecejimakclgaaApp
import Derived.Deep.DeepMust
namespace Go.Proofs.Ytkecejimakclgaa
open Go.RowKit
set_option linter.unusedVariables false

set_option maxHeartbeats 2000000 in
theorem implAhead (b : Nat) (a : Option Addr) (cap : Nat) (l : List Int) (k n : Nat) (w : World) (hl : l.length ≤ 4000) (hcap : l.length ≤ cap) (hk : k + n ≤ l.length) (hc0 : w.cell? ⟨b, 0, none⟩ = some (.slice a l.length cap)) (hc1 : w.cell? ⟨b, 1, none⟩ = some (.int .i64 k)) (hb : b < w.heap.size) (r : Row w a (l.map ival)) :
    Calls Try.prog 33 #[.pointer (some ⟨b, 0, none⟩), .int .i64 n] w (IntSRet ((l.drop k).take n) w) := by
  obtain ⟨i0, hi, hz0, hz1, hz2⟩ := info_parts Try.info3
  have C0 := Lib.hid hc0
  have C1 := Lib.hid hc1
  have R := Lib.hid r
  clear hc0 hc1 r
  go_enter Try.func33, Try.ntmps33
  go_wp2_with (at_make; refine wpList_make_full _ rfl _ _ 24 rfl w.heap.size 3 i0 (.int .i64 0) 1 Try.underlying24 hi hz0 hz1 .i64 .i64 _ _ n rfl rfl rfl rfl (by rw [hz2]; omega) (by unfold maxLen; omega) (Nat.le_refl _) ?_)
  clear hi hz0 hz1 hz2
  intro w1 hown hgr
  have hb1 := grown_below hgr
  rw [toList_madeCells_one] at hown
  have hc0 : w1.cell? ⟨b, 0, none⟩ = some (.slice a l.length cap) := (hb1.cell hb).trans C0.out
  have hc1 : w1.cell? ⟨b, 1, none⟩ = some (.int .i64 k) := (hb1.cell hb).trans C1.out
  have B1 := Lib.hid hb1
  have O1 := Lib.hid hown
  have R1 := Lib.hid (R.out.below hb1)
  clear hgr hb1 hown R
  have hk0 : (0 : Int) ≤ (k : Int) := Int.natCast_nonneg _
  have hk1 : (k : Int) ≤ (l.length : Int) := by omega
  by_cases h0 : n = 0
  · subst h0
    have hcp : ∀ sa sl sc ty, (Builtin.copy_ #[24, 24] ty #[.slice (some ⟨w.heap.size, 0, none⟩) 0 0, .slice sa sl sc]).run Try.prog w1.drew = .ok (goInt 0) w1.drew := fun sa sl sc ty => run_copy_none _ _ _ ty 3 _ _ _ _ _ _ Try.underlying24 Try.size3 (Nat.min_zero _)
    have HC := Lib.hid hcp
    clear hcp
    go_wp2_with fail
    go_region_held3 (fun w' => w'.cell? ⟨b, 0, none⟩ = some (.slice a l.length cap) ∧ w'.cell? ⟨b, 1, none⟩ = some (.int .i64 k)) (go_keep)
      ((refine step_copy_run (by rfl) _ _ _ _ (by rfl) _ _ _ _ (by rfl) (by rfl) (HC.out _ _ _) ?_))
    go_wp2
    all_goals
      go_ret
      exact ⟨_, rfl, IntSOwn.mk (l := []) (own_below O1.out (belowN 1)), below_seq B1.out (belowN 1)⟩
  have hka : k < l.length := by omega
  obtain ⟨b1, o1, rfl, q1⟩ := R1.out.at (i := k) (by simpa using hka)
  clear q1
  have hcap2 : ¬ cap = k := by omega
  have R2 := R1.out.cut k n (by simpa using hk)
  obtain ⟨w2, hcp, hown2, hg2⟩ := copy_slice (P := Try.prog) (w := w1.drew) (dT := 24) (sT := 24) Try.underlying24 Try.size3 (own_below O1.out (belowN 1)) (some ⟨b1, o1 + k, none⟩) (l.length - k) (cap - k) (((l.map ival).drop k).take n) (by rw [List.length_take, List.length_drop, List.length_map, Nat.min_comm]) (R2.below (belowN 1)) (ones_cut (fun z => rfl))
  have HC := Lib.hid hcp
  have e1 : (((l.map ival).drop k).take n).length = n := by simp; omega
  have hown3 : w2.ownsRow w.heap.size 3 1 (.slice (some ⟨w.heap.size, 0, none⟩) n n) n (((l.drop k).take n).map ival) := by
    rw [e1, show List.drop n (List.replicate n (Value.int .i64 0)) = [] from by simp, List.append_nil] at hown2
    simpa [List.map_take, List.map_drop] using hown2
  have OO := Lib.hid (IntSOwn.mk hown3)
  have BB := Lib.hid (below_write (below_seq B1.out (belowN 1)) hg2 (Nat.le_refl _))
  clear hcp hown2 hown3 e1
  go_wp2_with fail
  go_region_held3 (fun w' => w'.cell? ⟨b, 0, none⟩ = some (.slice (some ⟨b1, o1, none⟩) l.length cap) ∧ w'.cell? ⟨b, 1, none⟩ = some (.int .i64 k)) (first | go_keep | exact ⟨hg2.cell hc0 (by simp; omega), hg2.cell hc1 (by simp; omega)⟩)
    ((refine step_copy_run (by rfl) _ _ _ _ (by rfl) _ _ _ _ (by rfl) (by rfl) HC.out ?_))
  clear hg2
  go_wp2
  go_ret
  exact ⟨_, rfl, OO.out, BB.out⟩
def nextM (m : TapeM) (n : Int) : List Int := nextL m.l m.z n
def nextMB (m : TapeM) (n : Int) : Bool := nextB m.l m.z n
def TapeNextPost (m : TapeM) (n : Int) (w : World) (e : Ending) (w' : World) : Prop :=
  ∃ c, e = .returned (.tuple #[c, .bool (nextMB m n)]) ∧ IntSOwn w.heap.size w'.heap.size [c] (nextM m n) w' ∧ Below w.heap.size w w'
theorem nextM_bd (m : TapeM) (n : Int) (h : szTape m ≤ 1048576) : szIntS (nextM m n) ≤ 1000000000000 := by
  unfold szTape at h
  unfold szIntS nextM
  cases hh : nextB m.l m.z n
  · rw [nextL_no hh]; simp
  · have := next_of hh
    rw [nextL_length hh]; omega
theorem next_fail {m : TapeM} {n : Int} {w w' : World} (h : nextB m.l m.z n = false) (hb : Below w.heap.size w w') : TapeNextPost m n w (.returned (.tuple #[.slice none 0 0, .bool false])) w' := by
  refine ⟨_, by unfold nextMB; rw [h], ?_, hb⟩
  unfold nextM; rw [nextL_no h]
  exact IntSOwn.mk (l := []) (World.ownsRow_nil w' _ 3 1)
theorem next_done {m : TapeM} {n : Int} {w w' : World} {c : Value} {l : List Int} (h : nextB m.l m.z n = true) (hl : l = (m.l.drop m.z.toNat).take n.toNat) (ho : IntSOwn w.heap.size w'.heap.size [c] l w') (hb : Below w.heap.size w w') : TapeNextPost m n w (.returned (.tuple #[c, .bool true])) w' := by
  refine ⟨_, by unfold nextMB; rw [h], ?_, hb⟩
  unfold nextM; rw [nextL_yes h, ← hl]; exact ho

set_option maxHeartbeats 2000000 in
theorem implTapeNext (a : Option Addr) (cap : Nat) (l : List Int) (z n : Int) (w : World) (hcap : l.length ≤ cap) (hl : l.length ≤ maxLen) (r : Row w a (l.map ival)) :
    Calls Try.prog 13 #[.agg #[.slice a l.length cap, .int .i64 z], .int .i64 n] w (TapeNextPost ⟨l, z⟩ n w) := by
  have hb0 : Below w.heap.size w (w.alloc (.cells #[.slice a l.length cap, .int .i64 z] 26)) := (Below.refl _ _).alloc (Nat.le_refl _) _
  have L := Lib.hid (implTapeLeft a cap l z _ hl (r.below hb0))
  have R := Lib.hid (r.below hb0)
  have K0 := Lib.hid (lies_box w (.cells #[.slice a l.length cap, .int .i64 z] 26))
  have B := Lib.hid hb0
  clear hb0 r
  by_cases h1 : n < 0
  · have H := Lib.hid (next_neg (l := l) (z := z) h1)
    go_enter Try.func13, Try.ntmps13
    go_wp2
    go_ret2
    exact next_fail H.out B.out
  by_cases h2 : leftI l z < n
  · have H := Lib.hid (next_over h2)
    go_enter Try.func13, Try.ntmps13
    go_wp2_with fail
    refine L.out.mono ?_
    rintro e w1 ⟨rfl, hb1⟩
    have B1 := Lib.hid (below_seq B.out hb1)
    clear hb1
    go_wp2
    go_ret2
    exact next_fail H.out B1.out
  have H := Lib.hid (next_yes h1 h2)
  obtain ⟨t0, t1, t2, t3, t4⟩ := next_of H.out
  clear t0
  obtain ⟨k, rfl⟩ : ∃ k : Nat, z = k := ⟨z.toNat, by omega⟩
  obtain ⟨q, rfl⟩ : ∃ q : Nat, n = q := ⟨n.toNat, by omega⟩
  go_enter Try.func13, Try.ntmps13
  go_wp2_with fail
  refine L.out.mono ?_
  rintro e w1 ⟨rfl, hb1⟩
  have B1 := Lib.hid (below_seq B.out hb1)
  replace K0 := Lib.hid (K0.out.below hb1)
  have R1 := Lib.hid (R.out.below hb1)
  clear hb1
  go_wp2_with fail
  refine (implAhead w.heap.size a cap l k q _ t4 hcap (by omega) (cur_cell K0.out.now 0) (cur_cell K0.out.now 1) (cur_lt K0.out.now) R1.out).mono ?_
  rintro e w2 ⟨c, rfl, ho, hb2⟩
  have OO := Lib.hid (ho.wide (B1.out.size) (Nat.le_refl _))
  have B2 := Lib.hid (below_seq B1.out hb2)
  clear ho hb2
  go_wp2
  go_ret2
  exact next_done H.out (by simp) OO.out B2.out
set_option maxHeartbeats 2000000 in
theorem specTapeNext (a : Option Addr) (cap : Nat) (l : List Int) (z n : Int) (w : World) (hcap : l.length ≤ cap) (hl : l.length ≤ maxLen) (r : Row w a (l.map ival)) :
    Calls Try.prog 23 #[.agg #[.slice a l.length cap, .int .i64 z], .int .i64 n] w (TapeNextPost ⟨l, z⟩ n w) := by
  have hb0 : Below w.heap.size w (w.alloc (.cells #[.slice a l.length cap, .int .i64 z] 26)) := (Below.refl _ _).alloc (Nat.le_refl _) _
  have L := Lib.hid (specTapeLeft a cap l z _ hl (r.below hb0))
  have R := Lib.hid (r.below hb0)
  have K0 := Lib.hid (lies_box w (.cells #[.slice a l.length cap, .int .i64 z] 26))
  have B := Lib.hid hb0
  clear hb0 r
  by_cases h1 : n < 0
  · have H := Lib.hid (next_neg (l := l) (z := z) h1)
    go_enter Try.func23, Try.ntmps23
    go_wp2
    go_ret2
    exact next_fail H.out B.out
  by_cases h2 : leftI l z < n
  · have H := Lib.hid (next_over h2)
    go_enter Try.func23, Try.ntmps23
    go_wp2_with fail
    refine L.out.mono ?_
    rintro e w1 ⟨rfl, hb1⟩
    have B1 := Lib.hid (below_seq B.out hb1)
    clear hb1
    go_wp2
    go_ret2
    exact next_fail H.out B1.out
  have H := Lib.hid (next_yes h1 h2)
  obtain ⟨t0, t1, t2, t3, t4⟩ := next_of H.out
  clear t0
  obtain ⟨k, rfl⟩ : ∃ k : Nat, z = k := ⟨z.toNat, by omega⟩
  obtain ⟨q, rfl⟩ : ∃ q : Nat, n = q := ⟨n.toNat, by omega⟩
  have hkq : k + q ≤ l.length := by omega
  have hkc : k + q ≤ cap := by omega
  by_cases hck : cap = k
  · subst hck
    have hq0 : q = 0 := by omega
    subst hq0
    go_enter Try.func23, Try.ntmps23
    go_wp2_with fail
    refine L.out.mono ?_
    rintro e w1 ⟨rfl, hb1⟩
    have B1 := Lib.hid (below_seq B.out hb1)
    replace K0 := Lib.hid (K0.out.below hb1)
    have c0 : w1.cell? ⟨w.heap.size, 0, none⟩ = some (.slice a l.length cap) := cur_cell K0.out.now 0
    have c1 : w1.cell? ⟨w.heap.size, 1, none⟩ = some (.int .i64 cap) := cur_cell K0.out.now 1
    have hs1 := cur_lt K0.out.now
    clear hb1
    go_wp2_with (at_builtin; refine wp_app_row rfl _ _ 24 rfl 3 (.int .i64 0) 8 Try.underlying24 Try.info3 rfl w1.heap.size 0 _ [] (by rfl) (World.ownsRow_made w1 #[] 0 (Nat.le_refl _) (by unfold maxLen; omega) rfl) _ 0 _ [] (by rfl) rfl (.inl rfl) (by simp) (by unfold maxLen; omega) (by omega) (by simp) ?_; intro v' w2 hown hgr)
    have hown' : IntSOwn w1.heap.size w2.heap.size [v'] [] w2 := by
      obtain ⟨a', c', rfl⟩ := own_shape hown
      exact IntSOwn.mk (l := []) hown
    have OO := Lib.hid (hown'.wide B1.out.size (Nat.le_refl _))
    have BB := Lib.hid (below_write (below_box B1.out (.cells #[] 3)) hgr B1.out.size)
    clear hown hown' hgr c0 c1
    go_wp2
    go_ret2
    exact next_done H.out (by simp) OO.out BB.out
  have hwr : IntKind.i64.wrap ((k : Int) + (q : Int)) = (k : Int) + (q : Int) := IntWalk.i64_in _ (by omega)
  go_enter Try.func23, Try.ntmps23
  go_wp2_with fail
  refine L.out.mono ?_
  rintro e w1 ⟨rfl, hb1⟩
  have B1 := Lib.hid (below_seq B.out hb1)
  replace K0 := Lib.hid (K0.out.below hb1)
  have R1 := Lib.hid (((R.out.below hb1).map_cut k q (by simpa using hkq)).below ((Below.refl _ _).alloc (Nat.le_refl _) (.cells #[] 3)))
  have c0 : w1.cell? ⟨w.heap.size, 0, none⟩ = some (.slice a l.length cap) := cur_cell K0.out.now 0
  have c1 : w1.cell? ⟨w.heap.size, 1, none⟩ = some (.int .i64 k) := cur_cell K0.out.now 1
  have hs1 := cur_lt K0.out.now
  have HM : Hid ((((l.map ival).drop k).take q).length = k + q - k) := Lib.hid (by simp; omega)
  clear hb1
  go_wp2_with (at_builtin; go_must (refine wp_app_row rfl _ _ 24 rfl 3 (.int .i64 0) 8 Try.underlying24 Try.info3 rfl w1.heap.size 0 _ [] (by rfl) (World.ownsRow_made w1 #[] 0 (Nat.le_refl _) (by unfold maxLen; omega) rfl) (Option.map (fun x => x.add k) a) (k + q - k) _ (((l.map ival).drop k).take q) (by rfl) HM.out R1.out (ones_cut (fun z => rfl)) (by unfold maxLen; omega) (by omega) (by simp) ?_); intro v' w2 hown hgr)
  rw [show 0 + (k + q - k) = q from by omega, List.nil_append, ← List.map_drop, ← List.map_take] at hown
  have hown' : IntSOwn w1.heap.size w2.heap.size [v'] ((l.drop k).take q) w2 := by
    obtain ⟨a', c', rfl⟩ := own_shape hown
    exact IntSOwn.mk hown
  have OO := Lib.hid (hown'.wide B1.out.size (Nat.le_refl _))
  have BB := Lib.hid (below_write (below_box B1.out (.cells #[] 3)) hgr B1.out.size)
  clear hown hown' hgr c0 c1 hwr
  go_wp2
  go_ret2
  exact next_done H.out (by simp) OO.out BB.out
theorem uSpecTapeNext (c0 c1 : Value) (m : TapeM) (n : Int) (w : World) (h : TapeIn [c0, c1] m w) (b : -9223372036854775808 ≤ n ∧ n ≤ 9223372036854775807) : Calls Try.prog 23 #[.agg #[c0, c1], .int .i64 n] w (TapeNextPost m n w) := by
  obtain ⟨a, cap, rfl, rfl, h1, h2, h3⟩ := tapeIn_shape h
  exact specTapeNext a cap m.l m.z n w h1 h2 h3
theorem uImplTapeNext (c0 c1 : Value) (m : TapeM) (n : Int) (w : World) (h : TapeIn [c0, c1] m w) (b : -9223372036854775808 ≤ n ∧ n ≤ 9223372036854775807) : Calls Try.prog 13 #[.agg #[c0, c1], .int .i64 n] w (TapeNextPost m n w) := by
  obtain ⟨a, cap, rfl, rfl, h1, h2, h3⟩ := tapeIn_shape h
  exact implTapeNext a cap m.l m.z n w h1 h2 h3
end Go.Proofs.Ytkecejimakclgaa
