/- The table of distances, in the model of the document: a row of rows of numbers. -/
import Derived.Test.YtfdlmpjccoaejaaBase
import Derived.Test.YtfdlmpjccoaejaaEdC
import Derived.Test.YtfdlmpjccoaejaaArr
import Derived.BigRegion
namespace Go.Proofs.Ytfdlmpjccoaejaa
open Go.RowKit
set_option linter.unusedVariables false

/-- n values, as cells. -/
def cellsV (n : Nat) (V : Nat → Value) : Array Value := ((List.range n).map V).toArray
theorem cellsV_at {n k : Nat} (V : Nat → Value) (h : k < n) : (cellsV n V)[k]? = some (V k) := by simp [cellsV, h]
theorem cellsV_set (n : Nat) (V : Nat → Value) (k : Nat) (v : Value) : (cellsV n V).setIfInBounds k v = cellsV n (fun j => if j = k then v else V j) := by
  apply Array.ext_getElem?
  intro i
  rw [Array.getElem?_setIfInBounds]
  by_cases e : k = i
  · subst e
    by_cases hi : k < n
    · simp [cellsV, hi]
    · simp [cellsV, hi]
  · rw [if_neg e]
    by_cases hi : i < n
    · rw [cellsV_at _ hi, cellsV_at _ hi, if_neg (fun h => e h.symm)]
    · simp [cellsV, hi]
def VAt (w : World) (b : Nat) (t : TypeId) (n : Nat) (V : Nat → Value) : Prop := w.heap[b]? = some (.cells (cellsV n V) t (0, 0))
theorem VAt.cell {w : World} {b n : Nat} {t : TypeId} {V : Nat → Value} (h : VAt w b t n V) {k : Nat} (hk : k < n) : w.cell? ⟨b, k, none⟩ = some (V k) := (cur_cell h k).trans (cellsV_at V hk)
theorem VAt.set {w : World} {b n : Nat} {t : TypeId} {V : Nat → Value} (h : VAt w b t n V) (k : Nat) (v : Value) : VAt (w.setCell ⟨b, k, none⟩ v) b t n (fun j => if j = k then v else V j) := by
  unfold VAt; rw [cur_set h, cellsV_set]
theorem cellsV_ints (n : Nat) (F : Nat → Int) : cellsV n (fun k => .int .i64 (F k)) = cellsA n F := rfl
/-- A new row, whole. -/
theorem own_block {w : World} {base n g : Nat} {e : TypeId} {xs : List Value} (h : w.ownsRow base e 1 (.slice (some ⟨g, 0, none⟩) n n) n xs) : w.heap[g]? = some (.cells xs.toArray e (0, 0)) := by
  rcases h.2 with ⟨hv, _⟩ | ⟨g', cap', cur, hv, hbg, hg, h1', h2, h3, h4⟩
  · simp at hv
  simp at hv
  obtain ⟨rfl, rfl⟩ := hv
  have hcur : cur.toList = xs := by rw [← h4, List.take_of_length_le (by simp [h3])]
  rw [hg, ← hcur]
theorem replicate_cells (n : Nat) (v : Value) : (List.replicate n v).toArray = cellsV n (fun _ => v) := by
  unfold cellsV; congr 1
  apply List.ext_getElem <;> simp

def rowV (gb : Nat → Nat) (m i : Nat) : Nat → Value := fun k => if i ≤ k then .slice (some ⟨gb k, 0, none⟩) (m + 1) (m + 1) else .slice none 0 0
def updT (T : Nat → Nat → Int) (k j : Nat) (v : Int) : Nat → Nat → Int := fun k' => if k' = k then upd (T k) j v else T k'
/-- The table from row i on: its rows lie in blocks gb k, apart from one another. -/
structure TabS (w0 w : World) (g0 : Nat) (gb : Nat → Nat) (n m i : Nat) (T : Nat → Nat → Int) : Prop where
  outer : VAt w g0 36 (n + 1) (rowV gb m i)
  rows : ∀ k, i ≤ k → k ≤ n → ArrAt w (gb k) 3 (m + 1) (T k) ∧ g0 < gb k
  apart : ∀ k k', i ≤ k → k ≤ n → i ≤ k' → k' ≤ n → k ≠ k' → gb k ≠ gb k'
  base : w0.heap.size ≤ g0
  bel : Below w0.heap.size w0 w
theorem TabS.drew {w0 w : World} {g0 n m i : Nat} {gb : Nat → Nat} {T : Nat → Nat → Int} (h : TabS w0 w g0 gb n m i T) (q : Nat) : TabS w0 (w.drewN q) g0 gb n m i T :=
  ⟨h.outer, h.rows, h.apart, h.base, h.bel.trans ((belowN q).mono h.bel.size)⟩
theorem TabS.below {w0 w w' : World} {g0 n m i : Nat} {gb : Nat → Nat} {T : Nat → Nat → Int} (h : TabS w0 w g0 gb n m i T) (hb : Below w.heap.size w w') : TabS w0 w' g0 gb n m i T :=
  ⟨kept_block h.outer hb, fun k h1 h2 => ⟨(h.rows k h1 h2).1.below hb, (h.rows k h1 h2).2⟩, h.apart, h.base, below_seq h.bel hb⟩
theorem TabS.set {w0 w : World} {g0 n m i : Nat} {gb : Nat → Nat} {T : Nat → Nat → Int} (h : TabS w0 w g0 gb n m i T) {k : Nat} (h1 : i ≤ k) (h2 : k ≤ n) (j : Nat) (v : Int) :
    TabS w0 (w.setCell ⟨gb k, j, none⟩ (.int .i64 v)) g0 gb n m i (updT T k j v) := by
  have hg := set_grown w (gb k) j (.int .i64 v)
  have hk := (h.rows k h1 h2).2
  refine ⟨kept_grown h.outer hg (by simp; omega), fun k' h3 h4 => ⟨?_, (h.rows k' h3 h4).2⟩, h.apart, h.base, below_write h.bel hg (by have := h.base; omega)⟩
  unfold updT
  by_cases e : k' = k
  · subst e; rw [if_pos rfl]; exact (h.rows k' h3 h4).1.set j v
  · rw [if_neg e]; exact (h.rows k' h3 h4).1.kept hg (by simp; exact h.apart k k' h1 h2 h3 h4 (fun x => e x.symm))
theorem TabS.out {w0 w : World} {g0 n m i : Nat} {gb : Nat → Nat} {T : Nat → Nat → Int} (h : TabS w0 w g0 gb n m i T) {k : Nat} (h1 : i ≤ k) (h2 : k ≤ n) : w.cell? ⟨g0, k, none⟩ = some (.slice (some ⟨gb k, 0, none⟩) (m + 1) (m + 1)) := by
  rw [h.outer.cell (by omega)]; unfold rowV; rw [if_pos h1]
theorem TabS.cell {w0 w : World} {g0 n m i : Nat} {gb : Nat → Nat} {T : Nat → Nat → Int} (h : TabS w0 w g0 gb n m i T) {k j : Nat} (h1 : i ≤ k) (h2 : k ≤ n) (hj : j ≤ m) : w.cell? ⟨gb k, j, none⟩ = some (.int .i64 (T k j)) := (h.rows k h1 h2).1.cell (by omega)
theorem TabS.free {w0 w : World} {g0 n m i : Nat} {gb : Nat → Nat} {T : Nat → Nat → Int} (h : TabS w0 w g0 gb n m i T) {k : Nat} (h1 : i ≤ k) (h2 : k ≤ n) (j : Nat) : w.frozen? ⟨gb k, j, none⟩ = false := (h.rows k h1 h2).1.free j
/-- One row more. -/
theorem TabS.more {w0 w w1 : World} {g0 n m i : Nat} {gb : Nat → Nat} {T : Nat → Nat → Int} (h : TabS w0 w g0 gb n m (i + 1) T) (hi : i ≤ n) (hg : w.grownBy w1 none) (ha : ArrAt w1 w.heap.size 3 (m + 1) (fun _ => 0)) :
    TabS w0 (w1.setCell ⟨g0, i, none⟩ (.slice (some ⟨w.heap.size, 0, none⟩) (m + 1) (m + 1))) g0 (fun k => if k = i then w.heap.size else gb k) n m i (fun k => if k = i then (fun _ => 0) else T k) := by
  have h0 : g0 < w.heap.size := cur_lt h.outer
  have hg2 := set_grown w1 g0 i (.slice (some ⟨w.heap.size, 0, none⟩) (m + 1) (m + 1))
  have ho := VAt.set (kept_grown h.outer hg (by simp) : VAt w1 g0 36 (n + 1) _) i (.slice (some ⟨w.heap.size, 0, none⟩) (m + 1) (m + 1))
  have hb : ∀ k, i + 1 ≤ k → k ≤ n → gb k < w.heap.size := fun k h1 h2 => (h.rows k h1 h2).1.lt
  refine ⟨?_, ?_, ?_, h.base, below_write (h.bel.grown hg h.bel.size (by intro _ hk; cases hk)) hg2 h.base⟩
  · unfold VAt at ho ⊢
    rw [ho]
    congr 2
    unfold cellsV
    congr 1
    refine List.map_congr_left fun k hk => ?_
    unfold rowV
    by_cases e : k = i
    · subst e; simp
    · by_cases h2 : i + 1 ≤ k
      · rw [if_neg e, if_pos h2, if_pos (by omega)]; simp only [if_neg e]
      · rw [if_neg e, if_neg h2, if_neg (by omega)]
  · intro k h1 h2
    by_cases e : k = i
    · subst e; simp only [if_true]; exact ⟨ha.kept hg2 (by simp; omega), h0⟩
    · simp only [if_neg e]
      have := h.rows k (by omega) h2
      exact ⟨(this.1.kept hg (by simp)).kept hg2 (by simp; omega), this.2⟩
  · intro k k' h1 h2 h3 h4 hne
    by_cases e : k = i
    · by_cases e' : k' = i
      · omega
      · simp only [if_pos e, if_neg e']; have := hb k' (by omega) h4; omega
    · by_cases e' : k' = i
      · simp only [if_neg e, if_pos e']; have := hb k (by omega) h2; omega
      · simp only [if_neg e, if_neg e']; exact h.apart k k' (by omega) h2 (by omega) h4 hne

/-- The rows above i hold the distances of all tails; row i does from column l on. -/
def ValS (a b : ByteArray) (i l : Nat) (T : Nat → Nat → Int) : Prop :=
  (∀ k, i < k → k ≤ a.size → ∀ j, j ≤ b.size → T k j = dist (a.data.toList.drop k) (b.data.toList.drop j)) ∧ ∀ j, l ≤ j → j ≤ b.size → T i j = dist (a.data.toList.drop i) (b.data.toList.drop j)
theorem ValS.set {a b : ByteArray} {i l : Nat} {T : Nat → Nat → Int} {v : Int} (h : ValS a b i (l + 1) T) (hv : v = dist (a.data.toList.drop i) (b.data.toList.drop l)) : ValS a b i l (updT T i l v) := by
  unfold updT
  refine ⟨fun k h1 h2 j hj => ?_, fun j h1 h2 => ?_⟩
  · simp only [if_neg (show ¬ k = i by omega)]; exact h.1 k h1 h2 j hj
  · simp only [if_true]
    by_cases e : j = l
    · subst e; rw [upd_same, hv]
    · rw [upd_other _ _ _ _ e]; exact h.2 j (by omega) h2
def AllS (a b : ByteArray) (i : Nat) (T : Nat → Nat → Int) : Prop := ∀ k, i ≤ k → k ≤ a.size → ∀ j, j ≤ b.size → T k j = dist (a.data.toList.drop k) (b.data.toList.drop j)
theorem AllS.row {a b : ByteArray} {i : Nat} {T : Nat → Nat → Int} (h : AllS a b (i + 1) T) : ValS a b i (b.size + 1) (fun k => if k = i then (fun _ => 0) else T k) :=
  ⟨fun k h1 h2 j hj => by simp only [if_neg (show ¬ k = i by omega)]; exact h k (by omega) h2 j hj, fun j h1 h2 => by omega⟩
theorem ValS.all {a b : ByteArray} {i : Nat} {T : Nat → Nat → Int} (h : ValS a b i 0 T) : AllS a b i T := fun k h1 h2 j hj => by
  by_cases e : k = i
  · subst e; exact h.2 j (Nat.zero_le _) hj
  · exact h.1 k (by omega) h2 j hj
theorem AllS.le {a b : ByteArray} {i : Nat} {T : Nat → Nat → Int} (h : AllS a b i T) (ha : a.size ≤ 32) (hb : b.size ≤ 32) {k j : Nat} (h1 : i ≤ k) (h2 : k ≤ a.size) (hj : j ≤ b.size) : 0 ≤ T k j ∧ T k j ≤ 32 := by
  rw [h k h1 h2 j hj]
  have := dist_max (a.data.toList.drop k) (b.data.toList.drop j)
  rw [List.length_drop, List.length_drop, len_data, len_data] at this
  omega
theorem dist_le32 (a b : ByteArray) (ha : a.size ≤ 32) (hb : b.size ≤ 32) (k j : Nat) : 0 ≤ (dist (a.data.toList.drop k) (b.data.toList.drop j) : Int) ∧ (dist (a.data.toList.drop k) (b.data.toList.drop j) : Int) ≤ 32 := by
  have := dist_max (a.data.toList.drop k) (b.data.toList.drop j)
  rw [List.length_drop, List.length_drop, len_data, len_data] at this
  omega
theorem val_lastrow (a b : ByteArray) (j : Nat) : (b.size : Int) - (j : Int) = dist (a.data.toList.drop a.size) (b.data.toList.drop j) ∨ b.size < j := by
  rw [drop_past a _ (Nat.le_refl _), dist_nil, List.length_drop, len_data]; omega
theorem val_lastcol (a b : ByteArray) (i : Nat) : (a.size : Int) - (i : Int) = dist (a.data.toList.drop i) (b.data.toList.drop b.size) ∨ a.size < i := by
  rw [drop_past b _ (Nat.le_refl _), dist_end, List.length_drop, len_data]; omega

theorem Try.infoInt : (Try.prog.info? 3).map (fun i => (i.zero, i.size, i.bytes)) = some (some (.int .i64 0), 1, 8) := by kernel_rfl
theorem Try.infoInts : (Try.prog.info? 36).map (fun i => (i.zero, i.size, i.bytes)) = some (some (.slice none 0 0), 1, 24) := by kernel_rfl
/-- The least of three, as the program has it. -/
def min3S (x y z : Int) : Int := if z < (if y < x then y else x) then z else (if y < x then y else x)
theorem min3S_eq (x y z : Int) : min3S x y z = min x (min y z) := by
  unfold min3S; split <;> split <;> omega
theorem run_min3S {P : Program} (w : World) (ts : Array TypeId) (t : TypeId) (x y z : Int) : (Builtin.min_ ts t #[.int .i64 x, .int .i64 y, .int .i64 z]).run P w = .ok (.int .i64 (min3S x y z)) w := by
  simp [Builtin.min_, Builtin.min2, min3S]
theorem run_min2S {P : Program} (w : World) (ts : Array TypeId) (t : TypeId) (x y : Int) : (Builtin.min_ ts t #[.int .i64 x, .int .i64 y]).run P w = .ok (.int .i64 (if y < x then y else x)) w := by
  simp [Builtin.min_, Builtin.min2]
theorem cell_ne {x y : UInt8} {A D : List UInt8} {p1 p2 p3 : Int} (hq : (x == y) = false) (h1 : p1 = dist A (y :: D)) (h2 : p2 = dist (x :: A) D) (h3 : p3 = dist A D) : 1 + min3S p1 p2 p3 = dist (x :: A) (y :: D) := by
  have : ¬ x = y := by simpa using hq
  rw [min3S_eq, dist_cons, if_neg this, h1, h2, h3]; omega
theorem cell_eq {x y : UInt8} {A D : List UInt8} {p1 p2 p3 : Int} (hq : (x == y) = true) (h1 : p1 = dist A (y :: D)) (h2 : p2 = dist (x :: A) D) (h3 : p3 = dist A D) : (if p3 < 1 + min3S p1 p2 p3 then p3 else 1 + min3S p1 p2 p3) = dist (x :: A) (y :: D) := by
  have : x = y := by simpa using hq
  rw [min3S_eq, dist_cons, if_pos this, h1, h2, h3]; split <;> omega
/-- What a call of the table leaves. -/
def TabPost (a b : ByteArray) (w : World) (e : Ending) (w' : World) : Prop :=
  ∃ g0 gb T, e = .returned (.slice (some ⟨g0, 0, none⟩) (a.size + 1) (a.size + 1)) ∧ TabS w w' g0 gb a.size b.size 0 T ∧ AllS a b 0 T
set_option maxRecDepth 100000 in
set_option maxHeartbeats 4000000 in
theorem specTable (a b : ByteArray) (w : World) (ha : a.size ≤ 32) (hb : b.size ≤ 32) : Calls Try.prog 97 #[.string a, .string b] w (TabPost a b w) := by
  obtain ⟨i0, hi, hz0, hz1, hz2⟩ := info_parts Try.infoInts
  obtain ⟨i1, ii, iz0, iz1, iz2⟩ := info_parts Try.infoInt
  have I1 := Lib.hid (And.intro ii (And.intro iz0 (And.intro iz1 iz2)))
  clear ii iz0 iz1 iz2
  go_enter Try.func97, Try.ntmps97
  go_wp2_with (at_make; rw [show (a.size : Int) + 1 = ((a.size + 1 : Nat) : Int) from by omega]; refine wpList_make_full _ rfl _ _ 97 rfl w.heap.size 36 i0 (.slice none 0 0) 1 Try.underlying97 hi hz0 hz1 .i64 .i64 _ _ (a.size + 1) rfl rfl rfl rfl (by rw [hz2]; omega) (by unfold maxLen; omega) (Nat.le_refl _) ?_)
  clear hi hz0 hz1 hz2
  intro w1 hown hgr
  rw [toList_madeCells_one] at hown
  have hblk := own_block hown
  rw [replicate_cells] at hblk
  obtain ⟨g0, hg0⟩ : ∃ g0, g0 = w.heap.size := ⟨_, rfl⟩
  rw [← hg0] at hblk ⊢
  have H : Hid (TabS w w1 g0 (fun _ => 0) a.size b.size (a.size + 1) (fun _ _ => 0)) := Lib.hid ⟨by
      unfold VAt; rw [hblk]; congr 2; unfold cellsV; congr 1; refine List.map_congr_left fun k hk => ?_; unfold rowV; rw [if_neg (by simp at hk; omega)], fun k h1 h2 => by omega, fun k k' h1 h2 => by omega, by omega, grown_below hgr⟩
  clear hown hgr hblk hg0
  go_wp2
  go_loopw [6] (fun iv wr => ∃ (k : Nat) (gb : Nat → Nat) (T : Nat → Nat → Int), k ≤ a.size + 1 ∧ iv = .int .i64 ((k : Int) - 1) ∧ Hid (TabS w wr g0 gb a.size b.size k T) ∧ Hid (AllS a b k T)) (fun iv _ => ((intOf iv) + 1).toNat)
  case atStart => exact ⟨a.size + 1, _, _, Nat.le_refl _, by go_num, H, Lib.hid (fun k h1 h2 => by omega)⟩
  case round =>
    clear H
    obtain ⟨k, gb, T, hk, rfl, H, HV⟩ := hrel
    cases k with
    | zero =>
      go_wp2
      go_ret
      exact ⟨g0, gb, T, rfl, H.out, HV.out⟩
    | succ i =>
      have ek : ((i + 1 : Nat) : Int) - 1 = (i : Int) := by omega
      rw [ek]
      clear ek
      have hia : i ≤ a.size := by omega
      have hi0 : (0 : Int) ≤ (i : Int) := by omega
      have hi1 : (i : Int) < ((a.size + 1 : Nat) : Int) := by omega
      have hi2 : (i : Int) < (a.size : Int) + 1 := by omega
      go_wp2_with (at_make; rw [show (b.size : Int) + 1 = ((b.size + 1 : Nat) : Int) from by omega]; refine wpList_make_full _ rfl _ _ 36 rfl wr.heap.size 3 i1 (.int .i64 0) 1 Try.underlying36 I1.out.1 I1.out.2.1 I1.out.2.2.1 .i64 .i64 _ _ (b.size + 1) rfl rfl rfl rfl (by rw [I1.out.2.2.2]; omega) (by unfold maxLen; omega) (Nat.le_refl _) ?_)
      intro w2 hown hgr
      rw [toList_madeCells_one] at hown
      have hblk := own_block hown
      rw [replicate_cells] at hblk
      have hA : ArrAt w2 wr.heap.size 3 (b.size + 1) (fun _ => 0) := hblk
      have hM := H.out.more hia hgr hA
      have hO : VAt w2 g0 36 (a.size + 1) (rowV gb b.size (i + 1)) := kept_grown H.out.outer hgr (by simp)
      have hcO := hO.cell (k := i) (by omega)
      have hfO := cur_free hO i
      obtain ⟨gb', hgb⟩ : ∃ gb' : Nat → Nat, gb' = fun k => if k = i then wr.heap.size else gb k := ⟨_, rfl⟩
      have hgi : gb' i = wr.heap.size := by rw [hgb]; simp
      rw [← hgb, ← hgi] at hM
      have M := Lib.hid hM
      have MV := Lib.hid HV.out.row
      clear hown hgr hblk hA hM hO hgb H HV
      rw [← hgi]
      clear hgi
      go_wp2
      go_loopw [7] (fun jv wr => ∃ (l : Nat) (T : Nat → Nat → Int), l ≤ b.size + 1 ∧ jv = .int .i64 ((l : Int) - 1) ∧ Hid (TabS w wr g0 gb' a.size b.size i T) ∧ Hid (ValS a b i l T)) (fun jv _ => ((intOf jv) + 1).toNat)
      case atStart => exact ⟨b.size + 1, _, Nat.le_refl _, by go_num, M, MV⟩
      case round =>
        clear M MV hcO hfO
        obtain ⟨l, T, hl, rfl, H, HV⟩ := hrel
        cases l with
        | zero =>
          have HA := Lib.hid HV.out.all
          go_wp2
          go_roundw
          case rel => exact ⟨i, gb', T, by omega, by go_num, H, HA⟩
          case measure => simp [intOf]
        | succ j =>
          have ek : ((j + 1 : Nat) : Int) - 1 = (j : Int) := by omega
          rw [ek]
          clear ek
          have hj0 : (0 : Int) ≤ (j : Int) := by omega
          have hj1 : (j : Int) < ((b.size + 1 : Nat) : Int) := by omega
          have hj2 : (j : Int) < (b.size : Int) + 1 := by omega
          have c0 := H.out.out (k := i) (Nat.le_refl _) hia
          have c1 := H.out.cell (k := i) (j := j) (Nat.le_refl _) hia (by omega)
          have c2 := H.out.free (k := i) (Nat.le_refl _) hia j
          by_cases e1 : i = a.size
          · have hB : ((i : Int) == (a.size : Int)) = true := by simp; omega
            obtain ⟨v, hv⟩ : ∃ v, v = (b.size : Int) - (j : Int) := ⟨_, rfl⟩
            have hvd : v = dist (a.data.toList.drop i) (b.data.toList.drop j) := by rw [hv, e1]; rcases val_lastrow a b j with h | h <;> first | exact h | omega
            have RT := Lib.hid (H.out.set (k := i) (Nat.le_refl _) hia j v)
            have RV := Lib.hid (HV.out.set hvd)
            rw [hv] at RT RV
            clear hv hvd H HV e1
            go_wp2
            go_roundw
            case rel => exact ⟨j, _, by omega, by go_num, RT, RV⟩
            case measure => simp [intOf]
          have hB : ((i : Int) == (a.size : Int)) = false := by simp; omega
          by_cases e2 : j = b.size
          · have hB2 : ((j : Int) == (b.size : Int)) = true := by simp; omega
            obtain ⟨v, hv⟩ : ∃ v, v = (a.size : Int) - (i : Int) := ⟨_, rfl⟩
            have hvd : v = dist (a.data.toList.drop i) (b.data.toList.drop j) := by rw [hv, e2]; rcases val_lastcol a b i with h | h <;> first | exact h | omega
            have RT := Lib.hid (H.out.set (k := i) (Nat.le_refl _) hia j v)
            have RV := Lib.hid (HV.out.set hvd)
            rw [hv] at RT RV
            clear hv hvd H HV e2
            go_wp2
            go_roundw
            case rel => exact ⟨j, _, by omega, by go_num, RT, RV⟩
            case measure => simp [intOf]
          have hB2 : ((j : Int) == (b.size : Int)) = false := by simp; omega
          have hil : i < a.size := by omega
          have hjl : j < b.size := by omega
          have hk0 : (0 : Int) ≤ (i : Int) + 1 := by omega
          have hk1 : (i : Int) + 1 < (a.size : Int) + 1 := by omega
          have hk2 : (j : Int) + 1 < (b.size : Int) + 1 := by omega
          have d0 := H.out.out (k := i + 1) (by omega) (by omega)
          have d1 := H.out.cell (k := i + 1) (j := j) (by omega) (by omega) (by omega)
          have d2 := H.out.cell (k := i) (j := j + 1) (Nat.le_refl _) hia (by omega)
          have d3 := H.out.cell (k := i + 1) (j := j + 1) (by omega) (by omega) (by omega)
          have v1 := HV.out.1 (i + 1) (by omega) (by omega) j (by omega)
          have v2 := HV.out.2 (j + 1) (Nat.le_refl _) (by omega)
          have v3 := HV.out.1 (i + 1) (by omega) (by omega) (j + 1) (by omega)
          have b1 := dist_le32 a b ha hb (i + 1) j
          have b2 := dist_le32 a b ha hb i (j + 1)
          have b3 := dist_le32 a b ha hb (i + 1) (j + 1)
          rw [← v1] at b1
          rw [← v2] at b2
          rw [← v3] at b3
          rw [drop_byte b j hjl] at v1
          rw [drop_byte a i hil] at v2
          have W0 := Lib.hid (And.intro v1 (And.intro v2 v3))
          have WD : Hid (dist (a.data.toList.drop i) (b.data.toList.drop j) = dist (a[i] :: a.data.toList.drop (i + 1)) (b[j] :: b.data.toList.drop (j + 1))) := Lib.hid (by rw [drop_byte a i hil, drop_byte b j hjl])
          clear v1 v2 v3
          generalize hp1 : T (i + 1) j = p1 at *
          generalize hp2 : T i (j + 1) = p2 at *
          generalize hp3 : T (i + 1) (j + 1) = p3 at *
          clear hp1 hp2 hp3
          obtain ⟨u, hu⟩ : ∃ u, u = min3S p1 p2 p3 := ⟨_, rfl⟩
          have hm3 := fun w ts t => run_min3S (P := Try.prog) w ts t p1 p2 p3
          rw [← hu] at hm3
          have hub : 0 ≤ u ∧ u ≤ 32 := by rw [hu, min3S_eq]; omega
          have BB := byte_beq a[i] b[j]
          cases hq : (a[i] == b[j])
          · rw [hq] at BB
            have hvd : 1 + u = dist (a.data.toList.drop i) (b.data.toList.drop j) := by rw [hu, WD.out]; exact cell_ne hq W0.out.1 W0.out.2.1 W0.out.2.2
            have RT := Lib.hid (fun q => (H.out.drew q).set (k := i) (Nat.le_refl _) hia j (1 + u))
            have RV := Lib.hid (HV.out.set hvd)
            clear hvd H HV hq hu
            go_wp2
            go_region
            go_wp2
            go_quiet (fail)
            go_wp2
            go_roundw
            case rel => exact ⟨j, _, by omega, by go_num, Lib.hid (RT.out _), RV⟩
            case measure => simp [intOf]
          · rw [hq] at BB
            obtain ⟨v, hv⟩ : ∃ v, v = (if p3 < 1 + u then p3 else 1 + u) := ⟨_, rfl⟩
            have hm2 := fun w ts t => run_min2S (P := Try.prog) w ts t (1 + u) p3
            rw [← hv] at hm2
            have hvd : v = dist (a.data.toList.drop i) (b.data.toList.drop j) := by rw [hv, hu, WD.out]; exact cell_eq hq W0.out.1 W0.out.2.1 W0.out.2.2
            have RT := Lib.hid (fun q => (H.out.drew q).set (k := i) (Nat.le_refl _) hia j v)
            have RV := Lib.hid (HV.out.set hvd)
            have hif : (if p3 < 1 + u then p3 else 1 + u) = v := hv.symm
            clear hvd H HV hq hu hv
            go_wp2
            go_region
            go_wp2
            go_quiet (fail)
            go_wp2
            go_roundw
            case rel => exact ⟨j, _, by omega, by go_num, Lib.hid (RT.out _), RV⟩
            case measure => simp [intOf]
set_option maxHeartbeats 1600000 in
theorem specDistance (a b : ByteArray) (w : World) (ha : a.size ≤ maxLen) (hb : b.size ≤ maxLen) :
    Calls Try.prog 74 #[.string a, .string b] w fun r w' => r = .returned (.int .i64 (distZ a.data.toList b.data.toList)) ∧ Below w.heap.size w w' := by
  have CE := fun w => Lib.hid (specLong a b w ha hb)
  unfold maxLen at ha hb
  have LA := Lib.hid (len_data a)
  have LB := Lib.hid (len_data b)
  cases hk : (decide (a.size ≤ 32) && decide (b.size ≤ 32))
  · have HZ : Hid (distZ a.data.toList b.data.toList = -1) := Lib.hid (by unfold distZ; rw [if_pos (by rw [LA.out, LB.out]; simp at hk; omega)])
    rw [hk] at CE
    go_enter Try.func74, Try.ntmps74
    go_wp2_with fail
    refine (CE _).out.mono ?_
    rintro r w' ⟨rfl, rfl⟩
    go_wp2
    go_ret
    exact ⟨ret_int HZ.out.symm, Below.refl _ _⟩
  rw [hk] at CE
  simp only [Bool.and_eq_true, decide_eq_true_eq] at hk
  obtain ⟨ha32, hb32⟩ := hk
  have HZ : Hid (distZ a.data.toList b.data.toList = (dist a.data.toList b.data.toList : Int)) := Lib.hid (by unfold distZ; rw [if_neg (by rw [LA.out, LB.out]; omega)])
  go_enter Try.func74, Try.ntmps74
  go_wp2_with fail
  refine (CE _).out.mono ?_
  rintro r w' ⟨rfl, rfl⟩
  clear CE
  go_wp2_with fail
  refine (specTable a b _ ha32 hb32).mono ?_
  rintro r w1 ⟨g0, gb, T, rfl, hT, hA⟩
  have c0 := hT.out (k := 0) (Nat.le_refl _) (Nat.zero_le _)
  have c1 := hT.cell (k := 0) (j := 0) (Nat.le_refl _) (Nat.zero_le _) (Nat.zero_le _)
  have h0 := hA 0 (Nat.le_refl _) (Nat.zero_le _) 0 (Nat.zero_le _)
  have R := Lib.hid (And.intro h0 hT.bel)
  clear hT hA h0
  have q1 : (0 : Int) < (a.size : Int) + 1 := by omega
  have q2 : (0 : Int) < (b.size : Int) + 1 := by omega
  go_wp2
  go_ret
  exact ⟨ret_int (by rw [HZ.out, R.out.1]; simp), R.out.2⟩
end Go.Proofs.Ytfdlmpjccoaejaa
