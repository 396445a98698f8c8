/- The program's counter beside the log; a memory opened for use; one access more. -/
import Derived.Test.YticfnhbjoaecjaaDoorMemI
namespace Go.Proofs.YticfnhbjoaecjaaDoor
open Go.RowKit
set_option linter.unusedVariables false
set_option maxRecDepth 100000

theorem runStore {w : World} {b i : Nat} {y : Int} {u : Value} (hc : w.cell? ⟨b, i, none⟩ = some u) (hz : w.frozen? ⟨b, i, none⟩ = false) :
    (callFunc 38 #[.pointer (some ⟨b, i, none⟩), .int .i64 y]).run Tryd.prog w = .ok (.value (.tuple #[])) (w.setCell ⟨b, i, none⟩ (.int .i64 y)) :=
  run_call_store Tryd.func38 (by kernel_rfl) (by kernel_rfl) (by kernel_rfl) (by kernel_rfl) hc hz
theorem runLoad {w : World} {b i : Nat} {x : Int} (hc : w.cell? ⟨b, i, none⟩ = some (.int .i64 x)) :
    (callFunc 44 #[.pointer (some ⟨b, i, none⟩)]).run Tryd.prog w = .ok (.value (.int .i64 x)) w :=
  run_call_load Tryd.func44 (by kernel_rfl) (by kernel_rfl) (by kernel_rfl) .i64 (by kernel_rfl) hc
theorem runAdd {w : World} {b i : Nat} {x : Int} (hc : w.cell? ⟨b, i, none⟩ = some (.int .i64 x)) (hz : w.frozen? ⟨b, i, none⟩ = false) (hs : -9223372036854775808 ≤ x + 1 ∧ x + 1 ≤ 9223372036854775807) :
    (callFunc 43 #[.pointer (some ⟨b, i, none⟩), .int .i64 1]).run Tryd.prog w = .ok (.value (.int .i64 (x + 1))) (w.setCell ⟨b, i, none⟩ (.int .i64 (x + 1))) :=
  run_call_add Tryd.func43 (by kernel_rfl) (by kernel_rfl) (by kernel_rfl) .i64 (by kernel_rfl) hc hz (by
    have h : IntKind.i64.wrap (x + 1) = x + 1 := IntWalk.i64_in _ hs
    simp [Op.intArith, go_sem, h])
set_option maxHeartbeats 400000 in
theorem implStore (b i : Nat) (y : Int) (u : Value) (w : World) (hc : w.cell? ⟨b, i, none⟩ = some u) (hz : w.frozen? ⟨b, i, none⟩ = false) :
    Calls Tryd.prog 31 #[.pointer (some ⟨b, i, none⟩), .int .i64 y] w fun e w' => e = .returned (.tuple #[]) ∧ w' = w.setCell ⟨b, i, none⟩ (.int .i64 y) := by
  have R := runStore (y := y) hc hz
  go_enter Tryd.func31, Tryd.ntmps31
  go_wp2
  exact bodyPost_end (v := .tuple #[]) (by simp [results, Tryd.results31, go_sem]) rfl ⟨rfl, rfl⟩
set_option maxHeartbeats 400000 in
theorem implLoad (b i : Nat) (x : Int) (w : World) (hc : w.cell? ⟨b, i, none⟩ = some (.int .i64 x)) :
    Calls Tryd.prog 39 #[.pointer (some ⟨b, i, none⟩)] w fun e w' => e = .returned (.int .i64 x) ∧ w' = w := by
  have R := runLoad hc
  go_enter Tryd.func39, Tryd.ntmps39
  go_wp2
  go_ret
  exact ⟨rfl, rfl⟩
set_option maxHeartbeats 400000 in
theorem implAdd (b i : Nat) (x : Int) (w : World) (hc : w.cell? ⟨b, i, none⟩ = some (.int .i64 x)) (hz : w.frozen? ⟨b, i, none⟩ = false) (hs : -9223372036854775808 ≤ x + 1 ∧ x + 1 ≤ 9223372036854775807) :
    Calls Tryd.prog 37 #[.pointer (some ⟨b, i, none⟩), .int .i64 1] w fun e w' => e = .returned (.int .i64 (x + 1)) ∧ w' = w.setCell ⟨b, i, none⟩ (.int .i64 (x + 1)) := by
  have R := runAdd hc hz hs
  go_enter Tryd.func37, Tryd.ntmps37
  go_wp2
  go_ret
  exact ⟨rfl, rfl⟩
/-- The memory in use: its box of four cells; its rows are the call's own. -/
structure Obs (lo hi hl b : Nat) (z : Int) (a : Option Addr) (n cap : Nat) (x : Option Addr) (k xc : Nat) (ls : List (List UInt8)) (lg : List TouchM) (w : World) : Prop where
  box : w.heap[b]? = some (.cells #[.int .i64 z, .slice a n cap, .slice x k xc, .int .i64 lg.length] 54 (0, 0))
  cells : CellSOwn lo hi [.slice a n cap] ls w
  log : TouchSOwn lo hl [.slice x k xc] lg w
theorem Obs.below {lo hi hl b : Nat} {z : Int} {a : Option Addr} {n cap : Nat} {x : Option Addr} {k xc : Nat} {ls : List (List UInt8)} {lg : List TouchM} {w w' : World} (h : Obs lo hi hl b z a n cap x k xc ls lg w) (hi' : hi ≤ w.heap.size) (hl' : hl ≤ w.heap.size) (hb : Below w.heap.size w w') : Obs lo hi hl b z a n cap x k xc ls lg w' :=
  ⟨kept_block h.box hb, ((h.cells.lies hi').below hb).now, ((h.log.lies hl').below hb).now⟩
set_option maxHeartbeats 1000000 in
theorem implObserve (c0 c1 c2 : Value) (m : MemM) (w : World) (hok : memOkB m = true) (h : MemIn [c0, c1, c2] m w) :
    Calls Tryd.prog 19 #[.agg #[c0, c1, c2]] w fun e w' => ∃ b a cap x xc, e = .returned (.pointer (some ⟨b, 0, none⟩)) ∧ Obs w.heap.size w'.heap.size w'.heap.size b m.z a m.cells.length cap x m.log.length xc m.cells m.log w' ∧ w.heap.size ≤ b ∧ b < w'.heap.size ∧ Below w.heap.size w w' := by
  obtain ⟨rfl, hc, ht⟩ := memIn_shape h
  obtain ⟨a, cap, _, rfl, _⟩ := cellSIn_shape hc
  obtain ⟨x, xc, rfl, _⟩ := touchSIn_shape ht
  have m4 := (mem_of hok).2.2.2.1
  have B := Lib.hid (below_box (Below.refl w.heap.size w) (.cells #[.int .i64 m.z, .slice a m.cells.length cap, .slice x m.log.length xc] 28))
  have K := Lib.hid (lies_box w (.cells #[.int .i64 m.z, .slice a m.cells.length cap, .slice x m.log.length xc] 28))
  have CL := Lib.hid (implMemClone w.heap.size _ _ m _ hok (alloc_at w _ _ rfl) (h.lies.below B.out).now)
  clear h hc ht
  go_enter Tryd.func19, Tryd.ntmps19
  go_wp2_with fail
  refine CL.out.mono ?_
  rintro e w1 ⟨d0, d1, d2, rfl, ho, hb⟩
  obtain ⟨e1, e2, hcs, hoc, hot⟩ := ho
  simp at hcs
  obtain ⟨rfl, rfl, rfl⟩ := hcs
  obtain ⟨p, pn, pc, rfl⟩ := hoc.shape
  obtain ⟨q, qn, qc, rfl⟩ := hot.shape
  obtain ⟨hpn, _⟩ := hoc.open
  subst hpn
  have hqn : qn = m.log.length := by
    obtain ⟨_, _, e, _⟩ := hot
    simp at e
    exact e.2.1
  subst hqn
  simp only [size_box] at hoc hot
  have OC := Lib.hid hoc
  have OT := Lib.hid hot
  replace K := Lib.hid (K.out.below hb)
  replace B := Lib.hid (below_seq B.out hb)
  have s1 : w.heap.size + 1 ≤ w1.heap.size := by have := hb.size; simpa using this
  clear hoc hot hb CL
  go_wp2_with fail
  have V : Hid (Below w1.heap.size w1 (w1.alloc (.cells #[.int .i64 m.z, .slice p m.cells.length pc, .slice q m.log.length qc, .int .i64 0] 54)).drew) := Lib.hid (below_drew (below_box (Below.refl w1.heap.size w1) _))
  have P : Hid ((w1.alloc (.cells #[.int .i64 m.z, .slice p m.cells.length pc, .slice q m.log.length qc, .int .i64 0] 54)).drew.heap[w1.heap.size]? = some (.cells #[.int .i64 m.z, .slice p m.cells.length pc, .slice q m.log.length qc, .int .i64 0] 54 (0, 0))) := Lib.hid (alloc_at w1 _ _ rfl)
  have k2 : (w1.alloc (.cells #[.int .i64 m.z, .slice p m.cells.length pc, .slice q m.log.length qc, .int .i64 0] 54)).drew.cell? ⟨w.heap.size, 2, none⟩ = some (.slice x m.log.length xc) := cell_keep (cur_cell K.out.now 2) V.out
  have ST := Lib.hid (implStore w1.heap.size 3 (m.log.length : Int) (.int .i64 0) _ (cur_cell P.out 3) (cur_free P.out 3))
  have V2 : Hid (Below w1.heap.size w1 (w1.alloc (.cells #[.int .i64 m.z, .slice p m.cells.length pc, .slice q m.log.length qc, .int .i64 (m.log.length : Int)] 54)).drew) := Lib.hid (below_drew (below_box (Below.refl w1.heap.size w1) _))
  have k2' : (w1.alloc (.cells #[.int .i64 m.z, .slice p m.cells.length pc, .slice q m.log.length qc, .int .i64 (m.log.length : Int)] 54)).drew.cell? ⟨w.heap.size, 2, none⟩ = some (.slice x m.log.length xc) := cell_keep (cur_cell K.out.now 2) V2.out
  go_region_held3 (fun w' => w'.cell? ⟨w.heap.size, 2, none⟩ = some (.slice x m.log.length xc))
    (first | exact k2 | exact k2')
    ((go_at_call 31; refine ST.out.mono ?_; rintro e w2 ⟨rfl, rfl⟩))
  have P2 := alloc_at w1 (.cells #[.int .i64 m.z, .slice p m.cells.length pc, .slice q m.log.length qc, .int .i64 (m.log.length : Int)] 54) _ rfl
  have B2 := Lib.hid (below_seq B.out V2.out)
  have Q : Hid (Obs w.heap.size (w1.alloc (.cells #[.int .i64 m.z, .slice p m.cells.length pc, .slice q m.log.length qc, .int .i64 (m.log.length : Int)] 54)).drew.heap.size (w1.alloc (.cells #[.int .i64 m.z, .slice p m.cells.length pc, .slice q m.log.length qc, .int .i64 (m.log.length : Int)] 54)).drew.heap.size w1.heap.size m.z p m.cells.length pc q m.log.length qc m.cells m.log (w1.alloc (.cells #[.int .i64 m.z, .slice p m.cells.length pc, .slice q m.log.length qc, .int .i64 (m.log.length : Int)] 54)).drew) :=
    Lib.hid ⟨P2, (((OC.out.lies (Nat.le_refl _)).below V2.out).now).wide (by omega) V2.out.size, (((OT.out.lies (Nat.le_refl _)).below V2.out).now).wide (by omega) V2.out.size⟩
  clear P2 k2 k2' ST
  go_wp2
  go_ret
  exact ⟨_, _, _, _, _, rfl, Q.out, by omega, by simp, B2.out⟩
end Go.Proofs.YticfnhbjoaecjaaDoor
