/- The program's accesses: one more in the log, a cell read, a cell written; the counter asked. -/
import Derived.Test.YticfnhbjoaecjaaDoorMemJ
namespace Go.Proofs.YticfnhbjoaecjaaDoor
open Go.RowKit
set_option linter.unusedVariables false
set_option maxRecDepth 100000

theorem copy_cap {P : Program} {w : World} {base g n cap : Nat} {dT sT e : TypeId} {xs : List Value} (hu : P.underlying dT = some (.slice e)) (hsz : (P.info? e).map (·.size) = some 1)
    (h : w.ownsRow base e 1 (.slice (some ⟨g, 0, none⟩) n cap) n xs) (sa : Option Addr) (sCap : Nat) (ys : List Value) (hy : ys.length = n) (hr : Row w sa ys) (h1 : ∀ v ∈ ys, v.oneCell' = true) (hn : 0 < n) :
    ∃ w', (∀ ty, (Builtin.copy_ #[dT, sT] ty #[.slice (some ⟨g, 0, none⟩) n cap, .slice sa n sCap]).run P w = .ok (goInt n) w') ∧
      w'.ownsRow base e 1 (.slice (some ⟨g, 0, none⟩) n cap) n ys ∧ w.grownBy w' (some g) := by
  rcases hr with rfl | ⟨b, off, rfl, hc⟩
  · simp at hy; omega
  obtain ⟨hx, hr⟩ := h
  rcases hr with ⟨hv, _⟩ | ⟨g', cap', cur, hv, hbg, hg, h1', h2, h3, h4⟩
  · simp at hv
  simp at hv
  obtain ⟨rfl, rfl⟩ := hv
  have key := fun ty => run_copy_row P w dT sT ty e g 0 n cap ⟨b, off, none⟩ n sCap cur e ys hu hsz hg (by simp [hy]) (row_cells (.inr ⟨b, off, rfl, hc⟩)) (by rw [h3]; omega) h1
  rw [hy] at key
  refine ⟨_, key, ⟨by omega, .inr ⟨g, cap, _, rfl, hbg, setRow_heap w g cur _ _ _ hg, h1', h2, ?_, ?_⟩⟩, ?_⟩
  · simp; omega
  · simp [hy]
  · exact ⟨rfl, rfl, rfl, by simp, fun k _ hk => setRow_other w g k _ (by intro e; subst e; exact hk rfl)⟩
set_option maxHeartbeats 400000 in
theorem implTouches (b n : Nat) (w : World) (hc : w.cell? ⟨b, 3, none⟩ = some (.int .i64 n)) :
    Calls Tryd.prog 32 #[.pointer (some ⟨b, 0, none⟩)] w fun e w' => e = .returned (.int .i64 n) ∧ w' = w := by
  have L := Lib.hid (implLoad b 3 n w hc)
  go_enter Tryd.func32, Tryd.ntmps32
  go_wp2_with fail
  refine L.out.mono ?_
  rintro e w1 ⟨rfl, rfl⟩
  go_wp2
  go_ret
  exact ⟨rfl, rfl⟩
set_option maxHeartbeats 400000 in
theorem implFull (b n : Nat) (w : World) (hc : w.cell? ⟨b, 3, none⟩ = some (.int .i64 n)) :
    Calls Tryd.prog 20 #[.pointer (some ⟨b, 0, none⟩)] w fun e w' => e = .returned (.bool (decide (6000 ≤ n))) ∧ w' = w := by
  have L := Lib.hid (implTouches b n w hc)
  have D : Hid (decide (6000 ≤ (n : Int)) = decide (6000 ≤ n)) := Lib.hid (by simp; omega)
  go_enter Tryd.func20, Tryd.ntmps20
  go_wp2_with fail
  refine L.out.mono ?_
  rintro e w1 ⟨rfl, rfl⟩
  go_wp2
  go_ret
  exact ⟨ret_bool D.out, rfl⟩
set_option maxHeartbeats 2000000 in
theorem implTouch (lo hi hl b : Nat) (z : Int) (a : Option Addr) (n cap : Nat) (x : Option Addr) (k xc : Nat) (ls : List (List UInt8)) (lg : List TouchM) (op at' : Int) (w : World) (h : Obs lo hi hl b z a n cap x k xc ls lg w) (hg : lg.length < 6000) (hlo : lo ≤ w.heap.size) (hlb : lo ≤ b) (hhl : hl ≤ w.heap.size) :
    Calls Tryd.prog 26 #[.pointer (some ⟨b, 0, none⟩), .int .i64 op, .int .i64 at'] w fun e w' => ∃ x' xc' wm, e = .returned (.tuple #[]) ∧ Obs lo hi w'.heap.size b z a n cap x' (k + 1) xc' ls (lg ++ [⟨op, at', z⟩]) w' ∧ Turned 35 w wm ∧ Turned 54 wm w' ∧ Below lo w w' ∧ w.heap.size ≤ w'.heap.size := by
  obtain ⟨hbox, hcl, hlg⟩ := h
  obtain ⟨x0, xc0, e, ho, hh⟩ := hlg
  simp at e
  obtain ⟨rfl, rfl, rfl⟩ := e
  have hbl := cur_lt hbox
  have V : Hid (Below w.heap.size w (w.alloc (.cells #[.int .i64 op, .int .i64 at', .int .i64 z] 35)).drew) := Lib.hid (below_drew (below_box (Below.refl w.heap.size w) _))
  have k0 : w.drew.cell? ⟨b, 0, none⟩ = some (.int .i64 z) := cur_cell hbox 0
  have k2 : w.drew.cell? ⟨b, 2, none⟩ = some (.slice x lg.length xc) := cur_cell hbox 2
  have e0 : (w.alloc (.cells #[.int .i64 op, .int .i64 at', .int .i64 z] 35)).drew.cell? ⟨b, 0, none⟩ = some (.int .i64 z) := cell_keep (w := w) k0 V.out
  have e2 : (w.alloc (.cells #[.int .i64 op, .int .i64 at', .int .i64 z] 35)).drew.cell? ⟨b, 2, none⟩ = some (.slice x lg.length xc) := cell_keep (w := w) k2 V.out
  have O1 := Lib.hid (own_below ho V.out)
  have RO : Hid (Row (w.alloc (.cells #[.int .i64 op, .int .i64 at', .int .i64 z] 35)).drew (some ⟨w.heap.size, 0, none⟩) (flatT [⟨op, at', z⟩])) := Lib.hid (.inr ⟨_, 0, rfl, fun i hi => by
    have h3 : i < 3 := by simpa [flatT] using hi
    rw [Nat.zero_add, cur_cell (w := (w.alloc (.cells #[.int .i64 op, .int .i64 at', .int .i64 z] 35)).drew) (alloc_at w _ _ rfl) i]
    match i, h3 with
    | 0, _ => rfl
    | 1, _ => rfl
    | 2, _ => rfl⟩)
  have K := Lib.hid hbox
  have C := Lib.hid hcl
  clear hbox hcl ho
  go_enter Tryd.func26, Tryd.ntmps26
  go_wp2_with fail
  go_region_law (first
    | (refine step_app_rowS (by rfl) _ _ _ (by rfl) 35 _ 3 24 Tryd.underlying26 Tryd.infoTouch rfl (by omega) lo lg.length (.slice x lg.length xc) (flatT lg) (by rfl) O1.out (some ⟨w.heap.size, 0, none⟩) 1 1 (flatT [⟨op, at', z⟩]) (by rfl) rfl RO.out (flatT_one _) (by unfold maxLen; omega) (by omega) (by simp; omega) ?_; intro v2 w2 ho2 hg2; rw [← flatT_app] at ho2; obtain ⟨y, yc, rfl⟩ := own_shape ho2; have T1 := Lib.hid (Turned.own O1.out hg2); have b2 := T1.out _ _ _ _ (kept_block K.out V.out) (by decide); have x2 : w2.cell? ⟨b, 2, none⟩ = some (.slice x lg.length xc) := cur_cell b2 2; have f2 := cur_free b2 2))
  all_goals
    have b3 := cur_set b2 2 (.slice y (lg.length + 1) yc)
    have T2 := turned_set (i := 2) b2 (.slice y (lg.length + 1) yc)
    have O3 := own_turned ho2 T2 (by decide : 35 ≠ 54)
    have V2 : Below w.heap.size w (w.alloc (.cells #[.int .i64 op, .int .i64 at', .int .i64 z] 35)).drew := V.out
    have B2 := Lib.hid (((V2.mono hlo).grown hg2 (by simp; omega) (fun g hg => (O1.out.lt g hg).1)).setCell (p := ⟨b, 2, none⟩) hlb (.slice y (lg.length + 1) yc))
    have TT := Lib.hid (Turned.trans (Turned.below V2) T1.out)
    have C3 := Lib.hid ((C.out.turned TT.out (by decide) (by decide)).turned T2 (by decide) (by decide))
    have s2 : w.heap.size ≤ w2.heap.size := Nat.le_trans V2.size hg2.size
    have TM := Lib.hid T2
    have HB := Lib.hid b3
    have HO := Lib.hid O3
    clear b2 T2 O3 V2 ho2 hg2 x2 f2 b3 k0 k2 e0 e2
    go_wp2_with fail
    generalize hW : w2.setCell ⟨b, 2, none⟩ (.slice y (lg.length + 1) yc) = w3 at *
    have s3 : w3.heap.size = w2.heap.size := by rw [← hW]; simp
    clear hW
    have hb3 : w3.heap[b]? = some (.cells #[.int .i64 z, .slice a n cap, .slice y (lg.length + 1) yc, .int .i64 lg.length] 54 (0, 0)) := by simpa using HB.out
    refine (implAdd b 3 (lg.length : Int) w3 (cur_cell hb3 3) (cur_free hb3 3) (by omega)).mono ?_
    rintro e w4 ⟨rfl, rfl⟩
    have b4 := cur_set hb3 3 (.int .i64 ((lg.length : Int) + 1))
    have T4 := turned_set (i := 3) hb3 (.int .i64 ((lg.length : Int) + 1))
    have B4 := Lib.hid (B2.out.setCell (p := ⟨b, 3, none⟩) hlb (.int .i64 ((lg.length : Int) + 1)))
    have Q : Hid (Obs lo hi (w3.setCell ⟨b, 3, none⟩ (.int .i64 ((lg.length : Int) + 1))).heap.size b z a n cap y (lg.length + 1) yc ls (lg ++ [⟨op, at', z⟩]) (w3.setCell ⟨b, 3, none⟩ (.int .i64 ((lg.length : Int) + 1)))) :=
      Lib.hid ⟨by rw [b4]; simp, C3.out.turned T4 (by decide) (by decide), TouchSOwn.mk (own_turned HO.out T4 (by decide))⟩
    have TU := Lib.hid (TM.out.trans T4)
    clear b4 T4 hb3
    go_wp2
    exact bodyPost_end (v := .tuple #[]) (by simp [results, Tryd.results26, go_sem]) rfl ⟨y, yc, w2, rfl, Q.out, TT.out, TU.out, B4.out, by simp; omega⟩
end Go.Proofs.YticfnhbjoaecjaaDoor
