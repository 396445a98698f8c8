/- The laws' own helpers over rows of accesses: counted, copied, compared, marked, held. -/
import Derived.Test.YtcjcklpmlfoloaaDoorMemV
import Derived.Deep.QuietTactic
import Derived.BigQuiet
import Derived.Deep.RegionHeld3
namespace Go.Proofs.YtcjcklpmlfoloaaDoor
open Go.RowKit
set_option linter.unusedVariables false

theorem Tryd.infoTouch : (Tryd.prog.info? 35).map (fun i => (i.zero, i.size, i.bytes)) = some (some (.agg #[.int .i64 0, .int .i64 0, .int .i64 0]), 3, 24) := by kernel_rfl
set_option maxHeartbeats 400000 in
theorem lawsSzTouchS (a : Option Addr) (n cap : Nat) (left : Int) (w : World) (hn : n ≤ maxLen) (h0 : 0 ≤ left) (h1 : left ≤ 1048576) :
    Calls Tryd.prog 15 #[.slice a n cap, .int .i64 left] w fun e w' => e = .returned (.int .i64 (szI left n)) ∧ w = w' := by
  unfold maxLen at hn
  by_cases h : left - (n : Int) < 0
  · have H := Lib.hid (szI_no h)
    go_enter Tryd.func15, Tryd.ntmps15
    go_wp2
    go_ret
    exact ⟨ret_int H.out.symm, rfl⟩
  · have H := Lib.hid (szI_yes h)
    go_enter Tryd.func15, Tryd.ntmps15
    go_wp2
    go_ret
    exact ⟨ret_int H.out.symm, rfl⟩
/-- The first k taken over, zeros behind. -/
def copyG {α : Type} (z : α) (l : List α) (k : Nat) : List α := l.take k ++ List.replicate (l.length - k) z
theorem copyG_length {α : Type} (z : α) (l : List α) (k : Nat) (h : k ≤ l.length) : (copyG z l k).length = l.length := by unfold copyG; simp; omega
theorem copyG_zero {α : Type} (z : α) (l : List α) : copyG z l 0 = List.replicate l.length z := by simp [copyG]
theorem copyG_set {α : Type} (z : α) (l : List α) (k : Nat) (h : k < l.length) : (copyG z l k).set k l[k] = copyG z l (k + 1) := by
  unfold copyG
  rw [List.take_succ_eq_append_getElem h, List.set_append_right _ _ (by simp; omega)]
  obtain ⟨m, hm⟩ : ∃ m, l.length - k = m + 1 := ⟨l.length - k - 1, by omega⟩
  rw [hm, show l.length - (k + 1) = m from by omega, List.replicate_succ]
  rw [show k - (l.take k).length = 0 from by simp; omega]
  rw [List.set_cons_zero, List.append_assoc]; rfl
theorem copyG_done {α : Type} (z : α) (l : List α) : copyG z l l.length = l := by unfold copyG; simp
theorem made_touch (n : Nat) : (madeCells #[.int .i64 0, .int .i64 0, .int .i64 0] (n * 3)).toList = flatT (List.replicate n ⟨0, 0, 0⟩) := by
  apply List.ext_getElem?
  intro j
  by_cases hj : j < n * 3
  · have hk : j / 3 < (List.replicate n (⟨0, 0, 0⟩ : TouchM)).length := by simp; omega
    obtain ⟨h0, h1, h2⟩ := flatT_at (List.replicate n ⟨0, 0, 0⟩) (j / 3) hk
    have hm : j % 3 = 0 ∨ j % 3 = 1 ∨ j % 3 = 2 := by omega
    rcases hm with h | h | h
    · rw [show j / 3 * 3 = j from by omega] at h0
      rw [h0]; simp [madeCells, hj, h]
    · rw [show j / 3 * 3 + 1 = j from by omega] at h1
      rw [h1]; simp [madeCells, hj, h]
    · rw [show j / 3 * 3 + 2 = j from by omega] at h2
      rw [h2]; simp [madeCells, hj, h]
  · rw [List.getElem?_eq_none (by simp [madeCells]; omega), List.getElem?_eq_none (by rw [flatT_len]; simp; omega)]
set_option maxHeartbeats 400000 in
theorem lawsToTouch (x y z : Int) (w : World) :
    Calls Tryd.prog 29 #[.agg #[.int .i64 x, .int .i64 y, .int .i64 z]] w fun e w' => e = .returned (.agg #[.int .i64 x, .int .i64 y, .int .i64 z]) ∧ Below w.heap.size w w' := by
  go_enter Tryd.func29, Tryd.ntmps29
  go_wp2
  exact bodyPost_ret (v := .agg #[.int .i64 x, .int .i64 y, .int .i64 z]) (by simp [results, Tryd.results29, go_sem]) rfl ⟨rfl, (((Below.refl _ _).alloc (Nat.le_refl _) _).alloc (by simp) _).alloc (by simp; omega) _⟩
/-- The three cells of an access in a row. -/
theorem Row.touch {w : World} {a : Option Addr} {l : List TouchM} (h : Row w a (flatT l)) {k : Nat} (hk : k < l.length) : ∃ b off, a = some ⟨b, off, none⟩ ∧ w.cell? ⟨b, off + k * 3, none⟩ = some (.int .i64 l[k].op) ∧ w.cell? ⟨b, off + k * 3 + 1, none⟩ = some (.int .i64 l[k].ad) ∧ w.cell? ⟨b, off + k * 3 + 2, none⟩ = some (.int .i64 l[k].len) := by
  have hl := flatT_len l
  obtain ⟨e0, e1, e2⟩ := flatT_at l k hk
  rcases h with h | ⟨b, off, rfl, hc⟩
  · rw [h] at hl; simp at hl; omega
  · exact ⟨b, off, rfl, (hc _ (by omega)).trans e0, (hc (k * 3 + 1) (by omega)).trans e1, (hc (k * 3 + 2) (by omega)).trans e2⟩
/-- An access stored into an owned row, cell by cell. -/
theorem own_touch {w : World} {base g n cap k : Nat} {e : TypeId} {l : List TouchM} (h : w.ownsRow base e 3 (.slice (some ⟨g, 0, none⟩) n cap) n (flatT l)) (hk : k < l.length) (t : TouchM) :
    (((w.setCell ⟨g, k * 3, none⟩ (.int .i64 t.op)).setCell ⟨g, k * 3 + 1, none⟩ (.int .i64 t.ad)).setCell ⟨g, k * 3 + 2, none⟩ (.int .i64 t.len)).ownsRow base e 3 (.slice (some ⟨g, 0, none⟩) n cap) n (flatT (l.set k t)) ∧
    w.grownBy (((w.setCell ⟨g, k * 3, none⟩ (.int .i64 t.op)).setCell ⟨g, k * 3 + 1, none⟩ (.int .i64 t.ad)).setCell ⟨g, k * 3 + 2, none⟩ (.int .i64 t.len)) (some g) := by
  obtain ⟨h1, g1⟩ := h.stored (k * 3) (.int .i64 t.op)
  obtain ⟨h2, g2⟩ := h1.stored (k * 3 + 1) (.int .i64 t.ad)
  obtain ⟨h3, g3⟩ := h2.stored (k * 3 + 2) (.int .i64 t.len)
  rw [flatT_set l k hk t] at h3
  exact ⟨h3, grown_trans (grown_trans g1 g2) g3⟩
set_option maxHeartbeats 1000000 in
theorem lawsToTouchS (a : Option Addr) (cap : Nat) (l : List TouchM) (w : World) (hl : l.length ≤ 1048576) (r : Row w a (flatT l)) :
    Calls Tryd.prog 16 #[.slice a l.length cap] w fun e w' => e = .returned (.slice (some ⟨w.heap.size, 0, none⟩) l.length l.length) ∧
      w'.ownsRow w.heap.size 35 3 (.slice (some ⟨w.heap.size, 0, none⟩) l.length l.length) l.length (flatT l) ∧ Below w.heap.size w w' := by
  have R := Lib.hid r
  clear r
  obtain ⟨i0, hi, hz0, hz1, hz2⟩ := info_parts Tryd.infoTouch
  go_enter Tryd.func16, Tryd.ntmps16
  go_wp2_with (at_make; refine wpList_make_full _ rfl _ _ 26 rfl w.heap.size 35 i0 _ 3 Tryd.underlying26 hi hz0 hz1 .i64 .i64 _ _ l.length rfl rfl rfl rfl (by rw [hz2]; omega) (by unfold maxLen; omega) (Nat.le_refl _) ?_)
  clear hi hz0 hz1 hz2
  intro w1 hown hgr
  have hb1 : Below w.heap.size w w1 := grown_below hgr
  have hown' : w1.ownsRow w.heap.size 35 3 (.slice (some ⟨w.heap.size, 0, none⟩) l.length l.length) l.length (flatT (copyG ⟨0, 0, 0⟩ l 0)) := by
    rw [copyG_zero, ← made_touch]; exact hown
  clear hgr hown
  go_wp2
  go_loopw [4] (fun i wr => ∃ k : Nat, k ≤ l.length ∧ i = .int .i64 k ∧ wr.ownsRow w.heap.size 35 3 (.slice (some ⟨w.heap.size, 0, none⟩) l.length l.length) l.length (flatT (copyG ⟨0, 0, 0⟩ l k)) ∧ Below w.heap.size w wr) (fun i _ => l.length - (intOf i).toNat)
  case atStart => exact ⟨0, Nat.zero_le _, rfl, hown', hb1⟩
  case round =>
    clear hown' hb1
    obtain ⟨k, hk, rfl, hown, hb⟩ := hrel
    by_cases hlt : k < l.length
    · obtain ⟨b1, o1, rfl, q0, q1, q2⟩ := (R.out.below hb).touch hlt
      have hcl := copyG_length (⟨0, 0, 0⟩ : TouchM) l k hk
      have G := Lib.hid (copyG_set (⟨0, 0, 0⟩ : TouchM) l k hlt)
      have F := Lib.hid (flatT_set (copyG ⟨0, 0, 0⟩ l k) k (by omega) l[k])
      have OW := Lib.hid hown
      have B := Lib.hid hb
      clear hown hb
      generalize hx : l[k].op = x at *
      generalize hy : l[k].ad = y at *
      generalize hz : l[k].len = z at *
      go_wp2_with fail
      refine (lawsToTouch x y z _).mono ?_
      rintro e w2 ⟨rfl, hb2⟩
      have own2 := own_below OW.out hb2
      have f0 := own2.frozenAt (k * 3)
      have f1 := own2.frozenAt (k * 3 + 1)
      have f2 := own2.frozenAt (k * 3 + 2)
      have B2 := Lib.hid (below_seq B.out hb2)
      obtain ⟨u0, u1, u2⟩ := flatT_at (copyG ⟨0, 0, 0⟩ l k) k (by omega)
      have c0 := (own2.cellAt (k * 3) (by omega)).trans u0
      have c1 := (own2.cellAt (k * 3 + 1) (by omega)).trans u1
      have c2 := (own2.cellAt (k * 3 + 2) (by omega)).trans u2
      generalize (copyG (⟨0, 0, 0⟩ : TouchM) l k)[k].op = p0 at *
      generalize (copyG (⟨0, 0, 0⟩ : TouchM) l k)[k].ad = p1 at *
      generalize (copyG (⟨0, 0, 0⟩ : TouchM) l k)[k].len = p2 at *
      have X := Lib.hid (own_touch (k := k) own2 (by omega) ⟨x, y, z⟩)
      clear own2 u0 u1 u2 hb2 q0 q1 q2
      go_wp2
      go_roundw
      case rel => exact ⟨k + 1, by omega, by go_num, by have h := X.out.1; rw [← hx, ← hy, ← hz] at h; rw [← hx, ← hy, ← hz, ← G.out]; exact h, B2.out.grown X.out.2 B2.out.size (fun i hi => by cases hi; exact Nat.le_refl _)⟩
      case measure => simp [intOf]; omega
    · have hk' : k = l.length := by omega
      subst hk'
      rw [copyG_done] at hown
      have R2 := Lib.hid (And.intro hown hb)
      clear hown hb
      go_wp2
      go_ret
      exact ⟨rfl, R2.out.1, R2.out.2⟩
set_option maxHeartbeats 400000 in
theorem lawsEqTouch (x y z : Int) (w : World) :
    Calls Tryd.prog 30 #[.agg #[.int .i64 x, .int .i64 y, .int .i64 z], .agg #[.int .i64 x, .int .i64 y, .int .i64 z]] w (TruePost w) := by
  go_enter Tryd.func30, Tryd.ntmps30
  go_wp2
  go_ret
  exact ⟨rfl, ((Below.refl _ _).alloc (Nat.le_refl _) _).alloc (by simp) _⟩
set_option maxHeartbeats 1000000 in
theorem lawsEqTouchS (a1 a2 : Option Addr) (c1 c2 : Nat) (l : List TouchM) (w : World) (h1 : l.length ≤ maxLen) (r1 : Row w a1 (flatT l)) (r2 : Row w a2 (flatT l)) :
    Calls Tryd.prog 17 #[.slice a1 l.length c1, .slice a2 l.length c2] w (TruePost w) := by
  unfold maxLen at h1
  have R1 := Lib.hid r1
  have R2 := Lib.hid r2
  clear r1 r2
  go_enter Tryd.func17, Tryd.ntmps17
  go_wp2
  go_loopw [5] (fun i wr => ∃ k : Nat, k ≤ l.length ∧ i = .int .i64 k ∧ Below w.heap.size w wr) (fun i _ => l.length - (intOf i).toNat)
  case atStart => exact ⟨0, Nat.zero_le _, rfl, Below.refl _ _⟩
  case round =>
    obtain ⟨k, hk, rfl, hb⟩ := hrel
    by_cases hlt : k < l.length
    · obtain ⟨b1, o1, rfl, q0, q1, q2⟩ := (R1.out.below hb).touch hlt
      obtain ⟨b2, o2, rfl, p0, p1, p2⟩ := (R2.out.below hb).touch hlt
      have B := Lib.hid hb
      clear hb
      generalize l[k].op = x at *
      generalize l[k].ad = y at *
      generalize l[k].len = z at *
      go_wp2_with fail
      replace B := Lib.hid (below_drew B.out)
      go_region_held3 (fun w' => w'.cell? ⟨b1, o1 + k * 3, none⟩ = some (.int .i64 x) ∧ w'.cell? ⟨b1, o1 + k * 3 + 1, none⟩ = some (.int .i64 y) ∧ w'.cell? ⟨b1, o1 + k * 3 + 2, none⟩ = some (.int .i64 z) ∧ w'.cell? ⟨b2, o2 + k * 3, none⟩ = some (.int .i64 x) ∧ w'.cell? ⟨b2, o2 + k * 3 + 1, none⟩ = some (.int .i64 y) ∧ w'.cell? ⟨b2, o2 + k * 3 + 2, none⟩ = some (.int .i64 z))
        (first | go_keep | exact C2.out)
        ((go_at_call 30; refine (lawsEqTouch x y z _).mono ?_; rintro e w2 ⟨rfl, hb2⟩; have C2 := Lib.hid (And.intro (cell_keep (w := wr.drew) q0 hb2) (And.intro (cell_keep (w := wr.drew) q1 hb2) (And.intro (cell_keep (w := wr.drew) q2 hb2) (And.intro (cell_keep (w := wr.drew) p0 hb2) (And.intro (cell_keep (w := wr.drew) p1 hb2) (cell_keep (w := wr.drew) p2 hb2)))))); replace B := Lib.hid (below_seq B.out hb2); clear hb2))
      clear q0 q1 q2 p0 p1 p2
      go_wp2
      go_roundw
      case rel => exact ⟨k + 1, by omega, by go_num, B.out⟩
      case measure => simp [intOf]; omega
    · have B := Lib.hid hb
      clear hb
      go_wp2
      go_ret
      exact ⟨rfl, B.out⟩
def markT (k j : Nat) (l : List TouchM) : List TouchM := marksT k j ++ l.drop j
theorem marksT_succ : ∀ k j, marksT k (j + 1) = marksT k j ++ [⟨((k + j * 3 : Nat) : Int), ((k + j * 3 + 1 : Nat) : Int), ((k + j * 3 + 2 : Nat) : Int)⟩]
  | k, 0 => by simp [marksT]
  | k, j + 1 => by
    rw [marksT, marksT_succ (k + 3) j]
    conv => rhs; rw [marksT]
    rw [show k + 3 + j * 3 = k + (j + 1) * 3 from by omega]
    rfl
theorem markT_zero (k : Nat) (l : List TouchM) : markT k 0 l = l := by simp [markT, marksT]
theorem markT_length (k j : Nat) (l : List TouchM) (h : j ≤ l.length) : (markT k j l).length = l.length := by simp [markT, marksT_length]; omega
theorem markT_done (k : Nat) (l : List TouchM) : markT k l.length l = marksT k l.length := by simp [markT]
theorem markT_set (k j : Nat) (l : List TouchM) (h : j < l.length) : (markT k j l).set j ⟨((k + j * 3 : Nat) : Int), ((k + j * 3 + 1 : Nat) : Int), ((k + j * 3 + 2 : Nat) : Int)⟩ = markT k (j + 1) l := by
  unfold markT
  rw [marksT_succ, List.set_append_right _ _ (by rw [marksT_length]; omega)]
  rw [show j - (marksT k j).length = 0 from by rw [marksT_length]; omega, List.drop_eq_getElem_cons h, List.set_cons_zero]
  simp
end Go.Proofs.YtcjcklpmlfoloaaDoor
