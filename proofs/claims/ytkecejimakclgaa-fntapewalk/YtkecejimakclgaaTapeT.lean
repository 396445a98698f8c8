/- What 'TapeTake' answers, in the model of the document and in the program. -/
import Derived.Test.YtkecejimakclgaaTapeU
import Derived.Test.YtkecejimakclgaaCopy
import Derived.Deep.RegionHeld3
import Derived.Deep.RegionLawGrows
namespace Go.Proofs.Ytkecejimakclgaa
open Go.RowKit
set_option linter.unusedVariables false

theorem Try.size3 : (Try.prog.info? 3).map (·.size) = some 1 := by kernel_rfl
set_option maxHeartbeats 1000000 in
theorem implClone (b : Nat) (a : Option Addr) (cap : Nat) (l : List Int) (z : Int) (w : World) (hl : l.length ≤ 4000) (hc0 : w.cell? ⟨b, 0, none⟩ = some (.slice a l.length cap)) (hc1 : w.cell? ⟨b, 1, none⟩ = some (.int .i64 z)) (hb : b < w.heap.size) (r : Row w a (l.map ival)) :
    Calls Try.prog 34 #[.pointer (some ⟨b, 0, none⟩)] w (TapeRet ⟨l, z⟩ w) := by
  have C0 := Lib.hid hc0
  have C1 := Lib.hid hc1
  clear hc0 hc1
  have hb0 : Below w.heap.size w (w.alloc (.cells #[.slice none 0 0, .int .i64 0] 26)) := (Below.refl _ _).alloc (Nat.le_refl _) _
  have c0 : (w.alloc (.cells #[.slice none 0 0, .int .i64 0] 26)).cell? ⟨b, 0, none⟩ = some (.slice a l.length cap) := (hb0.cell hb).trans C0.out
  have R := Lib.hid (r.below hb0)
  have K0 := Lib.hid (lies_box w (.cells #[.slice none 0 0, .int .i64 0] 26))
  clear r
  obtain ⟨i0, hi, hz0, hz1, hz2⟩ := info_parts Try.info3
  go_enter Try.func34, Try.ntmps34
  go_wp2_with (at_make; refine wpList_make_full _ rfl _ _ 24 rfl (w.heap.size + 1) 3 i0 (.int .i64 0) 1 Try.underlying24 hi hz0 hz1 .i64 .i64 _ _ l.length rfl rfl rfl rfl (by rw [hz2]; omega) (by unfold maxLen; omega) (by simp) ?_)
  clear hi hz0 hz1 hz2
  intro w1 hown hgr
  have hb1 := grown_below hgr
  rw [toList_madeCells_one] at hown
  have hone : w1.ownsRow (w.heap.size + 1) 3 1 (.slice (some ⟨w.heap.size + 1, 0, none⟩) l.length l.length) l.length (List.replicate l.length (.int .i64 0)) := by simpa using hown
  obtain ⟨w2, hcp, hown2, hg2⟩ := copy_slice (P := Try.prog) (dT := 24) (sT := 24) Try.underlying24 Try.size3 hone a l.length cap (l.map ival) (by simp) (R.out.below hb1) (ones_ival (fun z => rfl))
  have hown3 : w2.ownsRow (w.heap.size + 1) 3 1 (.slice (some ⟨w.heap.size + 1, 0, none⟩) l.length l.length) l.length (l.map ival) := by simpa using hown2
  have hs1 : w.heap.size + 1 ≤ w1.heap.size := by have := hb1.size; simpa using this
  have c1 : w1.cell? ⟨b, 0, none⟩ = some (.slice a l.length cap) := (hb1.cell (by simp; omega)).trans c0
  have c2 : w2.cell? ⟨b, 1, none⟩ = some (.int .i64 z) := hg2.cell ((hb1.cell (by simp; omega)).trans ((hb0.cell hb).trans C1.out)) (by simp; omega)
  have K2 := kept_grown (kept_block K0.out.now hb1) hg2 (by simp)
  have k0 : w2.cell? ⟨w.heap.size, 0, none⟩ = some (.slice none 0 0) := cur_cell K2 0
  have k1 : w2.cell? ⟨w.heap.size, 1, none⟩ = some (.int .i64 0) := cur_cell K2 1
  have f0 := cur_free K2 0
  have f1 := cur_free K2 1
  have A := Lib.hid hown3
  have B2 := Lib.hid (below_write (below_seq hb0 hb1) hg2 (by omega))
  clear hown hone hown2 hown3 hgr hb1 hg2 K2 c0 hb0
  go_wp2
  have own1 := ownsRow_setCell_below (ownsRow_setCell_below A.out (a := ⟨w.heap.size, 0, none⟩) (by simp) (.slice (some ⟨w.heap.size + 1, 0, none⟩) l.length l.length)) (a := ⟨w.heap.size, 1, none⟩) (by simp) (.int .i64 z)
  exact bodyPost_ret (v := .agg #[.slice (some ⟨w.heap.size + 1, 0, none⟩) l.length l.length, .int .i64 z]) (by simp [results, Try.results34, go_sem, k0, k1]) rfl
    ⟨_, _, rfl, ⟨_, rfl, IntSOwn.mk (own_base own1 (base' := w.heap.size) (by omega))⟩, (B2.out.setCell (p := ⟨w.heap.size, 0, none⟩) (Nat.le_refl _) _).setCell (p := ⟨w.heap.size, 1, none⟩) (Nat.le_refl _) _⟩
set_option maxHeartbeats 1000000 in
theorem implTake (b : Nat) (a : Option Addr) (cap : Nat) (l : List Int) (k : Nat) (w : World) (hl : l.length ≤ 4000) (hk : k < l.length) (hb : w.heap[b]? = some (.cells #[.slice a l.length cap, .int .i64 k] 26 (0, 0))) (r : Row w a (l.map ival)) :
    Calls Try.prog 35 #[.pointer (some ⟨b, 0, none⟩)] w fun e w' => e = .returned (.int .i64 l[k]) ∧ ∃ n, w' = (w.drewN n).setCell ⟨b, 1, none⟩ (.int .i64 ((k : Int) + 1)) := by
  obtain ⟨b1, o1, rfl, q1⟩ := r.at (i := k) (by simpa using hk)
  rw [ival_at hk] at q1
  have hc0 : w.cell? ⟨b, 0, none⟩ = some (.slice (some ⟨b1, o1, none⟩) l.length cap) := cur_cell hb 0
  have hc1 : w.cell? ⟨b, 1, none⟩ = some (.int .i64 k) := cur_cell hb 1
  have f1 := cur_free hb 1
  clear r hb
  generalize l[k] = x at *
  go_enter Try.func35, Try.ntmps35
  go_wp2
  go_quiet (fail)
  go_wp2
  go_ret
  exact ⟨rfl, _, rfl⟩
def takeM (m : TapeM) : TapeM := ⟨takeL m.l m.z, takeAt m.l m.z⟩
def takeMD (m : TapeM) : Int := takeD m.l m.z
def takeMB (m : TapeM) : Bool := hasB m.l m.z
def TapeTakePost (m : TapeM) (w : World) (e : Ending) (w' : World) : Prop :=
  ∃ c0 c1, e = .returned (.tuple #[.agg #[c0, c1], .int .i64 (takeMD m), .bool (takeMB m)]) ∧ TapeOwn w.heap.size w'.heap.size [c0, c1] (takeM m) w' ∧ Below w.heap.size w w'
theorem take_none {m : TapeM} (h : hasB m.l m.z = false) : takeM m = ⟨[], 0⟩ ∧ takeMD m = 0 ∧ takeMB m = false := by
  obtain ⟨h1, h2, h3⟩ := take_no h
  unfold takeM takeMD takeMB; rw [h1, h2, h3, h]; exact ⟨rfl, rfl, rfl⟩
theorem take_some {m : TapeM} (h : hasB m.l m.z = true) : takeM m = ⟨m.l, m.z + 1⟩ ∧ takeMD m = m.l.getD m.z.toNat 0 ∧ takeMB m = true := by
  obtain ⟨h1, h2, h3⟩ := take_yes h
  unfold takeM takeMD takeMB; rw [h1, h2, h3, h]; exact ⟨rfl, rfl, rfl⟩
theorem takeM_bd (m : TapeM) (h : szTape m ≤ 1048576) : szTape (takeM m) ≤ 1000000000000 := by
  unfold szTape at h ⊢
  cases hh : hasB m.l m.z
  · rw [(take_none hh).1]; simp
  · rw [(take_some hh).1]; simp only; omega
/-- The answer where there is no draw. -/
theorem take_fail {m : TapeM} {w w' : World} (h : hasB m.l m.z = false) (hb : Below w.heap.size w w') : TapeTakePost m w (.returned (.tuple #[.agg #[.slice none 0 0, .int .i64 0], .int .i64 0, .bool false])) w' := by
  obtain ⟨h1, h2, h3⟩ := take_none h
  exact ⟨_, _, by rw [h2, h3], by rw [h1]; exact ⟨_, rfl, IntSOwn.mk (l := []) (World.ownsRow_nil w' _ 3 1) |>.wide (Nat.le_refl _) (Nat.le_refl _)⟩, hb⟩
theorem take_done {m : TapeM} {w w' : World} {a : Option Addr} {n cap : Nat} {d z : Int} (h : hasB m.l m.z = true) (hd : d = m.l.getD m.z.toNat 0) (hz : z = m.z + 1) (ho : IntSOwn w.heap.size w'.heap.size [.slice a n cap] m.l w') (hb : Below w.heap.size w w') :
    TapeTakePost m w (.returned (.tuple #[.agg #[.slice a n cap, .int .i64 z], .int .i64 d, .bool true])) w' := by
  obtain ⟨h1, h2, h3⟩ := take_some h
  exact ⟨_, _, by rw [h2, h3, hd], by rw [h1]; exact ⟨_, by rw [hz], ho⟩, hb⟩
theorem IntSOwn.set {lo hi b i : Nat} {cs : List Value} {l : List Int} {w : World} (h : IntSOwn lo hi cs l w) (hb : b < lo ∨ hi ≤ b) (v : Value) : IntSOwn lo hi cs l (w.setCell ⟨b, i, none⟩ v) := by
  obtain ⟨a, cap, rfl, ho, hh⟩ := h
  refine ⟨a, cap, rfl, own_sup ho hh (fun k h1 h2 => ?_), hh⟩
  exact Below.heap_setCell w _ v k (by simp; omega)
theorem IntSOwn.sup {lo hi : Nat} {cs : List Value} {l : List Int} {w w' : World} (h : IntSOwn lo hi cs l w) (k : ∀ k, lo ≤ k → k < hi → w'.heap[k]? = w.heap[k]?) : IntSOwn lo hi cs l w' := by
  obtain ⟨a, cap, rfl, ho, hh⟩ := h
  exact ⟨a, cap, rfl, own_sup ho hh k, hh⟩

set_option maxHeartbeats 2000000 in
theorem implTapeTake (a : Option Addr) (cap : Nat) (l : List Int) (z : Int) (w : World) (hl : l.length ≤ maxLen) (r : Row w a (l.map ival)) :
    Calls Try.prog 14 #[.agg #[.slice a l.length cap, .int .i64 z]] w (TapeTakePost ⟨l, z⟩ w) := by
  have hb0 : Below w.heap.size w ((w.alloc (.cells #[.slice a l.length cap, .int .i64 z] 26)).alloc (.cells #[.slice none 0 0, .int .i64 0] 26)) := ((Below.refl _ _).alloc (Nat.le_refl _) _).alloc (by simp) _
  have L := Lib.hid (implTapeLeft a cap l z _ hl (r.below hb0))
  have R := Lib.hid (r.below hb0)
  have K0 := Lib.hid ((lies_box w (.cells #[.slice a l.length cap, .int .i64 z] 26)).box (.cells #[.slice none 0 0, .int .i64 0] 26))
  have K1 := Lib.hid (lies_box (w.alloc (.cells #[.slice a l.length cap, .int .i64 z] 26)) (.cells #[.slice none 0 0, .int .i64 0] 26))
  simp only [size_box] at K1
  have B := Lib.hid hb0
  clear hb0 r
  by_cases h : leftI l z < 1
  · have H := Lib.hid (has_no h)
    go_enter Try.func14, Try.ntmps14
    go_wp2_with fail
    refine L.out.mono ?_
    rintro e w1 ⟨rfl, hb1⟩
    replace K1 := Lib.hid (K1.out.below hb1)
    have k0 : w1.cell? ⟨w.heap.size + 1, 0, none⟩ = some (.slice none 0 0) := cur_cell K1.out.now 0
    have k1 : w1.cell? ⟨w.heap.size + 1, 1, none⟩ = some (.int .i64 0) := cur_cell K1.out.now 1
    have f0 := cur_free K1.out.now 0
    have f1 := cur_free K1.out.now 1
    have B1 := Lib.hid (below_seq B.out hb1)
    clear hb1
    go_wp2
    exact bodyPost_ret (v := .tuple #[.agg #[.slice none 0 0, .int .i64 0], .int .i64 0, .bool false]) (by simp [results, Try.results14, go_sem, k0, k1]) rfl
      (take_fail H.out ((B1.out.setCell (p := ⟨w.heap.size + 1, 0, none⟩) (by simp) _).setCell (p := ⟨w.heap.size + 1, 1, none⟩) (by simp) _))
  · have H := Lib.hid (has_yes h)
    obtain ⟨_, t1, t2, t3⟩ := has_of H.out
    obtain ⟨k, rfl⟩ : ∃ k : Nat, z = k := ⟨z.toNat, by omega⟩
    have hkl : k < l.length := by omega
    have HD : Hid (l[k] = l.getD (k : Int).toNat 0) := Lib.hid (by simp [hkl])
    go_enter Try.func14, Try.ntmps14
    go_wp2_with fail
    refine L.out.mono ?_
    rintro e w1 ⟨rfl, hb1⟩
    replace K0 := Lib.hid (K0.out.below hb1)
    replace K1 := Lib.hid (K1.out.below hb1)
    have R1 := Lib.hid (R.out.below hb1)
    have B1 := Lib.hid (below_seq B.out hb1)
    have s1 : w.heap.size + 1 + 1 ≤ w1.heap.size := by have := hb1.size; simpa using this
    clear hb1 R B
    go_wp2_with fail
    refine (implClone w.heap.size a cap l k _ t3 (cur_cell K0.out.now 0) (cur_cell K0.out.now 1) (by omega) R1.out).mono ?_
    rintro e w2 ⟨c0, c1, rfl, ho, hb2⟩
    obtain ⟨xa, xn, xc, xz, rfl, rfl⟩ := ho.shape
    obtain ⟨cc, hcc, ho⟩ := ho
    simp at hcc
    obtain ⟨rfl, rfl⟩ := hcc
    have OW := Lib.hid ho
    replace K1 := Lib.hid (K1.out.below hb2)
    have B2 := Lib.hid (below_seq B1.out hb2)
    have s2 : w1.heap.size ≤ w2.heap.size := hb2.size
    clear ho hb2 R1 B1 K0
    have hb3 : Below w2.heap.size w2 (w2.alloc (.cells #[.slice xa xn xc, .int .i64 k] 26)) := (Below.refl _ _).alloc (Nat.le_refl _) _
    replace K1 := Lib.hid (K1.out.below hb3)
    have OB := ((OW.out.lies (Nat.le_refl _)).box (.cells #[.slice xa xn xc, .int .i64 k] 26)).now
    obtain ⟨xa', xc', hsh, _, _, hr⟩ := intSIn_shape OB.read
    simp at hsh
    obtain ⟨rfl, rfl, rfl⟩ := hsh
    have T := Lib.hid (implTake w2.heap.size xa xc l k _ t3 hkl (alloc_at w2 _ _ rfl) hr)
    have B3 := Lib.hid (below_box B2.out (.cells #[.slice xa l.length xc, .int .i64 k] 26))
    have O3 := Lib.hid OB
    clear OB hr hb3 OW B2
    go_wp2_with fail
    refine T.out.mono ?_
    clear T
    rintro e w3 ⟨rfl, n, rfl⟩
    have kA : (((w2.alloc (.cells #[.slice xa l.length xc, .int .i64 k] 26)).drewN n).setCell ⟨w2.heap.size, 1, none⟩ (.int .i64 ((k : Int) + 1))).heap[w2.heap.size]? = some (.cells #[.slice xa l.length xc, .int .i64 ((k : Int) + 1)] 26 (0, 0)) :=
      cur_set (w := (w2.alloc (.cells #[.slice xa l.length xc, .int .i64 k] 26)).drewN n) (alloc_at w2 _ _ rfl) 1 (.int .i64 ((k : Int) + 1))
    have kB := (Below.heap_setCell ((w2.alloc (.cells #[.slice xa l.length xc, .int .i64 k] 26)).drewN n) ⟨w2.heap.size, 1, none⟩ (.int .i64 ((k : Int) + 1)) (w.heap.size + 1) (by simp; omega)).trans K1.out.now
    have kO := (O3.out.sup (w' := (w2.alloc (.cells #[.slice xa l.length xc, .int .i64 k] 26)).drewN n) (fun _ _ _ => rfl)).set (b := w2.heap.size) (i := 1) (.inr (Nat.le_refl _)) (.int .i64 ((k : Int) + 1))
    have kC := ((below_seq B3.out (belowN n)).setCell (p := ⟨w2.heap.size, 1, none⟩) (by simp; omega) (.int .i64 ((k : Int) + 1)))
    generalize hW : ((w2.alloc (.cells #[.slice xa l.length xc, .int .i64 k] 26)).drewN n).setCell ⟨w2.heap.size, 1, none⟩ (.int .i64 ((k : Int) + 1)) = W at *
    have hsz : w2.heap.size < W.heap.size := cur_lt kA
    clear hW
    have a0 : W.cell? ⟨w2.heap.size, 0, none⟩ = some (.slice xa l.length xc) := cur_cell kA 0
    have a1 : W.cell? ⟨w2.heap.size, 1, none⟩ = some (.int .i64 ((k : Int) + 1)) := cur_cell kA 1
    have k0 : W.cell? ⟨w.heap.size + 1, 0, none⟩ = some (.slice none 0 0) := cur_cell kB 0
    have k1 : W.cell? ⟨w.heap.size + 1, 1, none⟩ = some (.int .i64 0) := cur_cell kB 1
    have f0 := cur_free kB 0
    have f1 := cur_free kB 1
    have OO := Lib.hid kO
    have BB := Lib.hid kC
    clear kA kB kO kC O3 B3 K1
    generalize l[k] = x at *
    go_wp2
    have o1 := (OO.out.set (b := w.heap.size + 1) (i := 0) (.inl (by omega)) (.slice xa l.length xc)).set (b := w.heap.size + 1) (i := 1) (.inl (by omega)) (.int .i64 ((k : Int) + 1))
    exact bodyPost_ret (v := .tuple #[.agg #[.slice xa l.length xc, .int .i64 ((k : Int) + 1)], .int .i64 x, .bool true]) (by simp [results, Try.results14, go_sem, k0, k1]) rfl
      (take_done H.out HD.out rfl (o1.wide (by omega) (by simp; omega)) ((BB.out.setCell (p := ⟨w.heap.size + 1, 0, none⟩) (by simp) _).setCell (p := ⟨w.heap.size + 1, 1, none⟩) (by simp) _))
set_option maxHeartbeats 4000000 in
theorem specTapeTake (a : Option Addr) (cap : Nat) (l : List Int) (z : Int) (w : World) (hl : l.length ≤ maxLen) (r : Row w a (l.map ival)) :
    Calls Try.prog 20 #[.agg #[.slice a l.length cap, .int .i64 z]] w (TapeTakePost ⟨l, z⟩ w) := by
  have hb0 : Below w.heap.size w ((w.alloc (.cells #[.slice a l.length cap, .int .i64 z] 26)).alloc (.cells #[.slice none 0 0, .int .i64 0] 26)) := ((Below.refl _ _).alloc (Nat.le_refl _) _).alloc (by simp) _
  have L := Lib.hid (specTapeLeft a cap l z _ hl (r.below hb0))
  have R := Lib.hid (r.below hb0)
  have K0 := Lib.hid ((lies_box w (.cells #[.slice a l.length cap, .int .i64 z] 26)).box (.cells #[.slice none 0 0, .int .i64 0] 26))
  have K1 := Lib.hid (lies_box (w.alloc (.cells #[.slice a l.length cap, .int .i64 z] 26)) (.cells #[.slice none 0 0, .int .i64 0] 26))
  simp only [size_box] at K1
  have B := Lib.hid hb0
  have R00 := Lib.hid r
  clear hb0 r
  by_cases h : leftI l z < 1
  · have H := Lib.hid (has_no h)
    go_enter Try.func20, Try.ntmps20
    go_wp2_with fail
    refine L.out.mono ?_
    rintro e w1 ⟨rfl, hb1⟩
    replace K1 := Lib.hid (K1.out.below hb1)
    have k0 : w1.cell? ⟨w.heap.size + 1, 0, none⟩ = some (.slice none 0 0) := cur_cell K1.out.now 0
    have k1 : w1.cell? ⟨w.heap.size + 1, 1, none⟩ = some (.int .i64 0) := cur_cell K1.out.now 1
    have f0 := cur_free K1.out.now 0
    have f1 := cur_free K1.out.now 1
    have B1 := Lib.hid (below_seq B.out hb1)
    clear hb1
    go_wp2
    exact bodyPost_ret (v := .tuple #[.agg #[.slice none 0 0, .int .i64 0], .int .i64 0, .bool false]) (by simp [results, Try.results20, go_sem, k0, k1]) rfl
      (take_fail H.out ((B1.out.setCell (p := ⟨w.heap.size + 1, 0, none⟩) (by simp) _).setCell (p := ⟨w.heap.size + 1, 1, none⟩) (by simp) _))
  · have H := Lib.hid (has_yes h)
    obtain ⟨t0, t1, t2, t3⟩ := has_of H.out
    clear t0
    obtain ⟨k, rfl⟩ : ∃ k : Nat, z = k := ⟨z.toNat, by omega⟩
    have hkl : k < l.length := by omega
    have HD : Hid (l[k] = l.getD (k : Int).toNat 0) := Lib.hid (by simp [hkl])
    obtain ⟨i0, hi, hz0, hz1, hz2⟩ := info_parts Try.info3
    have HI := Lib.hid (And.intro hi (And.intro hz0 (And.intro hz1 hz2)))
    clear hi hz0 hz1 hz2
    go_enter Try.func20, Try.ntmps20
    go_wp2_with fail
    refine L.out.mono ?_
    rintro e w1 ⟨rfl, hb1⟩
    replace K0 := Lib.hid (K0.out.below hb1)
    replace K1 := Lib.hid (K1.out.below hb1)
    have R1 := Lib.hid (R.out.below hb1)
    have B1 := Lib.hid (below_seq B.out hb1)
    have s1 : w.heap.size + 1 + 1 ≤ w1.heap.size := by have := hb1.size; simpa using this
    clear hb1 R B L
    obtain ⟨b1, o1, rfl, q1⟩ := R1.out.at (i := k) (by simpa using hkl)
    rw [ival_at hkl] at q1
    have hlt0 : b1 < w.heap.size := row_lt R00.out (by simp; omega)
    have hlt1 : b1 < w1.heap.size := by omega
    have hne1 : ¬ b1 = w.heap.size + 1 := by omega
    have hbW : Below w1.heap.size w1 (w1.alloc (.cells #[] 3)).drew := ((Below.refl _ _).alloc (Nat.le_refl _) _).drew
    have RC : Hid (∀ j u, (l.map ival)[j]? = some u → (w1.alloc (.cells #[] 3)).drew.cell? ((⟨b1, o1, none⟩ : Addr).add j) = some u) := Lib.hid (row_cells (R1.out.below hbW))
    have BW := Lib.hid (below_seq B1.out hbW)
    replace K1 := Lib.hid (K1.out.below hbW)
    have hwr : IntKind.i64.wrap ((k : Int) + 1) = (k : Int) + 1 := IntWalk.i64_in _ (by omega)
    generalize l[k] = x at *
    have c0 : w1.cell? ⟨w.heap.size, 0, none⟩ = some (.slice (some ⟨b1, o1, none⟩) l.length cap) := cur_cell K0.out.now 0
    have c1 : w1.cell? ⟨w.heap.size, 1, none⟩ = some (.int .i64 k) := cur_cell K0.out.now 1
    go_wp2_with fail
    have CW : Hid ((w1.alloc (.cells #[] 3)).drew.cell? ⟨w.heap.size, 0, none⟩ = some (.slice (some ⟨b1, o1, none⟩) l.length cap) ∧ (w1.alloc (.cells #[] 3)).drew.cell? ⟨w.heap.size, 1, none⟩ = some (.int .i64 k) ∧ (w1.alloc (.cells #[] 3)).drew.cell? ⟨b1, o1 + k, none⟩ = some (.int .i64 x)) :=
      Lib.hid ⟨(hbW.cell (by simp; omega)).trans c0, (hbW.cell (by simp; omega)).trans c1, (hbW.cell hlt1).trans q1⟩
    clear hbW R1 B1 K0
    go_region_held3 (fun w' => w'.cell? ⟨w.heap.size, 0, none⟩ = some (.slice (some ⟨b1, o1, none⟩) l.length cap) ∧ w'.cell? ⟨w.heap.size, 1, none⟩ = some (.int .i64 k) ∧ w'.cell? ⟨b1, o1 + k, none⟩ = some (.int .i64 x))
      (first | exact C2.out | exact ⟨cell_set (cell_set C2.out.1 (by omega)) (by omega), cell_set (cell_set C2.out.2.1 (by omega)) (by omega), cell_set (cell_set C2.out.2.2 hne1) hne1⟩ | go_keep)
      ((refine step_append_grows (by rfl) _ _ _ (by rfl) 3 i0 (.int .i64 0) 1 8 Try.underlying24 HI.out.1 HI.out.2.1 HI.out.2.2.1 HI.out.2.2.2 rfl (by omega) (some ⟨w1.heap.size, 0, none⟩) 0 0 [] (by rfl) (by simp) (by simp) (by simp) ⟨b1, o1, none⟩ l.length cap (l.map ival) (by rfl) (by simp) RC.out (ones_ival (fun z => rfl)) (by omega) (by unfold maxLen; omega) (by omega) ?_; intro v' w2 hown hgr; rw [Nat.zero_add, List.nil_append] at hown; obtain ⟨xa, xc, rfl⟩ := own_shape hown; have K2 := kept_block K1.out.now (grown_below hgr); have k0 : w2.cell? ⟨w.heap.size + 1, 0, none⟩ = some (.slice none 0 0) := cur_cell K2 0; have k1 : w2.cell? ⟨w.heap.size + 1, 1, none⟩ = some (.int .i64 0) := cur_cell K2 1; have f0 := cur_free K2 0; have f1 := cur_free K2 1; have C2 : Hid (w2.cell? ⟨w.heap.size, 0, none⟩ = some (.slice (some ⟨b1, o1, none⟩) l.length cap) ∧ w2.cell? ⟨w.heap.size, 1, none⟩ = some (.int .i64 k) ∧ w2.cell? ⟨b1, o1 + k, none⟩ = some (.int .i64 x)) := Lib.hid ⟨hgr.cell CW.out.1 (by simp), hgr.cell CW.out.2.1 (by simp), hgr.cell CW.out.2.2 (by simp)⟩; have OO := Lib.hid (IntSOwn.mk hown); have BB := Lib.hid (below_seq BW.out (grown_below hgr)); clear hown hgr K2))
    clear c0 c1 q1
    go_wp2
    have e1 : w1.heap.size + 1 ≤ (w1.alloc (.cells #[] 3)).drew.heap.size := by rw [size_drew, size_box]; exact Nat.le_refl _
    have o1 := (OO.out.set (b := w.heap.size + 1) (i := 0) (.inl (by omega)) (.slice xa l.length xc)).set (b := w.heap.size + 1) (i := 1) (.inl (by omega)) (.int .i64 ((k : Int) + 1))
    exact bodyPost_ret (v := .tuple #[.agg #[.slice xa l.length xc, .int .i64 ((k : Int) + 1)], .int .i64 x, .bool true]) (by simp [results, Try.results20, go_sem, k0, k1]) rfl
      (take_done H.out HD.out rfl (o1.wide (by omega) (by simp)) ((BB.out.setCell (p := ⟨w.heap.size + 1, 0, none⟩) (by simp) _).setCell (p := ⟨w.heap.size + 1, 1, none⟩) (by simp) _))
theorem uSpecTapeTake (c0 c1 : Value) (m : TapeM) (w : World) (h : TapeIn [c0, c1] m w) : Calls Try.prog 20 #[.agg #[c0, c1]] w (TapeTakePost m w) := by
  obtain ⟨a, cap, rfl, rfl, _, h2, h3⟩ := tapeIn_shape h
  exact specTapeTake a cap m.l m.z w h2 h3
theorem uImplTapeTake (c0 c1 : Value) (m : TapeM) (w : World) (h : TapeIn [c0, c1] m w) : Calls Try.prog 14 #[.agg #[c0, c1]] w (TapeTakePost m w) := by
  obtain ⟨a, cap, rfl, rfl, _, h2, h3⟩ := tapeIn_shape h
  exact implTapeTake a cap m.l m.z w h2 h3
end Go.Proofs.Ytkecejimakclgaa
