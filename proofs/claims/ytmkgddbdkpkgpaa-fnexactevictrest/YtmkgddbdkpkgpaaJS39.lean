/- MpC, Arr in one. Written by tools/join2.py. -/
import Derived.Test.YtmkgddbdkpkgpaaJS16
import Derived.Test.YtmkgddbdkpkgpaaJS4
import Derived.Test.YtmkgddbdkpkgpaaJS1
import Derived.Laws.CopyRow
import Derived.Laws.IdiomCopy
import Derived.Deep.MidRow
import Derived.StillTailTactics
section
namespace Go.Proofs.Ytmkgddbdkpkgpaa
open Go.RowKit
set_option linter.unusedVariables false
set_option linter.unusedSimpArgs false
set_option maxRecDepth 100000

theorem ones_u8' (l : List UInt8) : ∀ v ∈ l.map bval, v.oneCell' = true := by
  intro v hv
  obtain ⟨z, _, rfl⟩ := List.mem_map.1 hv
  rfl
set_option maxHeartbeats 800000 in
theorem bytesCloneA (ad : Addr) (n cap : Nat) (l : List UInt8) (w : World) (hn : l.length = n) (hl : n ≤ 4000000) (r : Row w (some ad) (l.map bval)) : Calls Try.prog 76 #[.slice (some ad) n cap] w fun e w' => ∃ v, e = .returned v ∧ w'.ownsRow w.heap.size 5 1 v n (l.map bval) ∧ Below w.heap.size w w' := by
  subst hn
  have RA := Lib.hid (r.below (below_box (Below.refl _ w) (.cells #[] 5)))
  clear r
  go_enter Try.func76, Try.ntmps76
  have hq : (binOp .eql 22 (.slice (some ad) l.length cap) (.slice none 0 0)).run Try.prog w = .ok (.bool false) w := by kernel_rfl
  go_wp2_with (at_builtin; go_must (refine wp_app_row rfl _ _ 22 rfl 5 (.int .u8 0) 1 Try.underlying22 Try.info5 rfl w.heap.size 0 (.slice (some ⟨w.heap.size, 0, none⟩) 0 0) [] (by rfl) (World.ownsRow_made w #[] 0 (Nat.le_refl _) (by unfold maxLen; omega) rfl) (some ad) l.length cap (l.map bval) (by rfl) (by simp) RA.out (ones_u8' l) (by unfold maxLen; omega) (by omega) (by simp) ?_); intro v3 w3 ho3 hg3)
  rw [Nat.zero_add, List.nil_append] at ho3
  have Z := Lib.hid (And.intro ho3 ((below_box (Below.refl w.heap.size w) (.cells #[] 5)).grown hg3 (by simp) (fun g hg => by cases hg; exact Nat.le_refl _)))
  clear ho3 hg3 RA
  go_wp2
  go_ret
  exact ⟨_, rfl, Z.out.1, Z.out.2⟩
set_option maxHeartbeats 800000 in
theorem bytesCloneN (n cap : Nat) (w : World) : Calls Try.prog 76 #[.slice none n cap] w fun e w' => e = .returned (.slice none 0 0) ∧ w' = w := by
  go_enter Try.func76, Try.ntmps76
  have hq : (binOp .eql 22 (.slice none n cap) (.slice none 0 0)).run Try.prog w = .ok (.bool true) w := by kernel_rfl
  go_wp2
  go_ret
  exact ⟨rfl, rfl⟩
theorem bytesCloneS (x : Option Addr) (n cap : Nat) (l : List UInt8) (w : World) (hn : l.length = n) (hl : n ≤ 4000000) (r : Row w x (l.map bval)) : Calls Try.prog 76 #[.slice x n cap] w fun e w' => ∃ a c, e = .returned (.slice a n c) ∧ w'.ownsRow w.heap.size 5 1 (.slice a n c) n (l.map bval) ∧ Below w.heap.size w w' := by
  cases x with
  | some ad =>
    refine (bytesCloneA ad n cap l w hn hl r).mono ?_
    rintro e w' ⟨v, rfl, ho, hb⟩
    obtain ⟨a, c, rfl⟩ := own_shape ho
    exact ⟨a, c, rfl, ho, hb⟩
  | none =>
    have hnil : l = [] := by
      rcases r with h | ⟨b, o, h, _⟩
      · simpa using h
      · simp at h
    subst hnil
    simp at hn
    subst hn
    refine (bytesCloneN 0 cap w).mono ?_
    rintro e w' ⟨rfl, rfl⟩
    exact ⟨none, 0, rfl, ⟨rfl, .inl ⟨rfl, rfl⟩⟩, Below.refl _ _⟩
theorem blkO_mk {lo n c : Nat} {a : Option Addr} {m : BlkM} {w : World} (hn : m.data.length = n) (ho : w.ownsRow lo 5 1 (.slice a n c) n (m.data.map bval)) : BlockO (fun b => (Value.slice a n c).ownBlock = some b) lo [.int .i64 m.id, .int .i64 m.leaf, .slice a n c] m w := by
  subst hn
  exact ⟨_, rfl, a, c, rfl, ho, fun _ => Iff.rfl⟩
theorem own_offB {s lo n : Nat} {e : TypeId} {v : Value} {xs : List Value} {w : World} {g : Nat} (h : w.ownsRow lo e s v n xs) (hg : g < lo) (k : Nat) (u : Value) : (w.setCell ⟨g, k, none⟩ u).ownsRow lo e s v n xs := by
  refine own_keptF h (fun b hb => ?_)
  have := (h.lt b hb).1
  exact Below.heap_setCell _ _ _ b (by simp; omega)
set_option maxHeartbeats 2000000 in
theorem implClone (c0 c1 c2 : Value) (m : BlkM) (w : World) (h : BlockIn [c0, c1, c2] m w) (hs : m.data.length ≤ 4000000) : Calls Try.prog 56 #[.agg #[c0, c1, c2]] w fun e w' => ∃ a c, e = .returned (.agg #[.int .i64 m.id, .int .i64 m.leaf, .slice a m.data.length c]) ∧ BlockOwn w.heap.size w'.heap.size [.int .i64 m.id, .int .i64 m.leaf, .slice a m.data.length c] m w' ∧ Below w.heap.size w w' := by
  obtain ⟨x, z, rfl, rfl, rfl, _, _, hr⟩ := blockIn_cells h
  obtain ⟨zi, zf, d⟩ := m
  simp only at hs hr ⊢
  obtain ⟨n, hn⟩ : ∃ n, d.length = n := ⟨_, rfl⟩
  rw [hn] at hs ⊢
  have B2 := below_box (below_box (Below.refl w.heap.size w) (.cells #[.int .i64 zi, .int .i64 zf, .slice x n z] 26)) (.cells #[.int .i64 0, .int .i64 0, .slice none 0 0] 26)
  have CL := Lib.hid (bytesCloneS x n z d _ hn hs (hr.below B2))
  have ND := Lib.hid hn
  clear h hr hn hs
  go_enter Try.func56, Try.ntmps56
  go_wp2_with fail
  refine CL.out.mono ?_
  rintro e w1 ⟨a, c, rfl, ho, hb⟩
  have A0 := alloc_at w (.cells #[.int .i64 zi, .int .i64 zf, .slice x n z] 26) _ rfl
  have A1 := alloc_at (w.alloc (.cells #[.int .i64 zi, .int .i64 zf, .slice x n z] 26)) (.cells #[.int .i64 0, .int .i64 0, .slice none 0 0] 26) _ rfl
  have K0 := Lib.hid (kept_block (kept_block A0 (below_box (Below.refl _ _) (.cells #[.int .i64 0, .int .i64 0, .slice none 0 0] 26))) hb)
  have K1 := Lib.hid (kept_block A1 hb)
  have BB := Lib.hid (below_seq B2 hb)
  simp only [size_box] at ho K0 K1
  have O2 := own_offB (own_offB (own_offB (own_offB ho (show w.heap.size < w.heap.size + 1 + 1 by omega) 2 (.slice a n c)) (show w.heap.size + 1 < w.heap.size + 1 + 1 by omega) 0 (.int .i64 zi)) (show w.heap.size + 1 < w.heap.size + 1 + 1 by omega) 1 (.int .i64 zf)) (show w.heap.size + 1 < w.heap.size + 1 + 1 by omega) 2 (.slice a n c)
  have Z := Lib.hid (And.intro O2 ((((BB.out.setCell (p := ⟨w.heap.size, 2, none⟩) (by simp) (.slice a n c)).setCell (p := ⟨w.heap.size + 1, 0, none⟩) (by simp) (.int .i64 zi)).setCell (p := ⟨w.heap.size + 1, 1, none⟩) (by simp) (.int .i64 zf)).setCell (p := ⟨w.heap.size + 1, 2, none⟩) (by simp) (.slice a n c)))
  have k0 := cur_cell K0.out 0
  have k1 := cur_cell K0.out 1
  have k2 := cur_cell K0.out 2
  have g0 := cur_free K0.out 2
  have j0 := cur_cell K1.out 0
  have j1 := cur_cell K1.out 1
  have j2 := cur_cell K1.out 2
  have f0 := cur_free K1.out 0
  have f1 := cur_free K1.out 1
  have f2 := cur_free K1.out 2
  simp at k0 k1 k2 j0 j1 j2
  clear ho hb A0 A1 O2 CL B2
  go_wp2_with fail
  exact bodyPost_ret (v := .agg #[.int .i64 zi, .int .i64 zf, .slice a n c]) (by simp [results, Try.results56, go_sem, j0, j1, j2]) rfl ⟨a, c, rfl, block_ong.seg (blkO_mk (m := ⟨zi, zf, d⟩) ND.out (own_base Z.out.1 (by omega))), Z.out.2⟩
end Go.Proofs.Ytmkgddbdkpkgpaa
end

section
namespace Go.Proofs.Ytmkgddbdkpkgpaa
open Go.RowKit
set_option linter.unusedVariables false

/-- n numbers, as cells. -/
def cellsA (n : Nat) (F : Nat → Int) : Array Value := ((List.range n).map fun k => Value.int .i64 (F k)).toArray
theorem cellsA_size (n : Nat) (F : Nat → Int) : (cellsA n F).size = n := by simp [cellsA]
theorem cellsA_at {n k : Nat} (F : Nat → Int) (h : k < n) : (cellsA n F)[k]? = some (.int .i64 (F k)) := by simp [cellsA, h]
theorem cellsA_no {n k : Nat} (F : Nat → Int) (h : n ≤ k) : (cellsA n F)[k]? = none := by simp [cellsA, h]
theorem cellsA_ext {n : Nat} {F G : Nat → Int} (h : ∀ k, k < n → F k = G k) : cellsA n F = cellsA n G := by
  unfold cellsA
  congr 1
  refine List.map_congr_left fun k hk => ?_
  rw [h k (by simpa using hk)]
theorem cellsA_one (n : Nat) (F : Nat → Int) : (cellsA n F).all (·.oneCell') = true := by
  rw [Array.all_eq_true]
  intro i hi
  rw [cellsA_size] at hi
  have := cellsA_at F hi
  rw [Array.getElem?_eq_getElem (by rw [cellsA_size]; exact hi)] at this
  rw [Option.some.inj this]; rfl
/-- The block b is an array of n numbers. -/
def ArrAt (w : World) (b : Nat) (t : TypeId) (n : Nat) (F : Nat → Int) : Prop := w.heap[b]? = some (.cells (cellsA n F) t (0, 0))
def upd (F : Nat → Int) (k : Nat) (v : Int) : Nat → Int := fun j => if j = k then v else F j
theorem upd_same (F : Nat → Int) (k : Nat) (v : Int) : upd F k v k = v := by unfold upd; rw [if_pos rfl]
theorem upd_other (F : Nat → Int) (k j : Nat) (v : Int) (h : j ≠ k) : upd F k v j = F j := by unfold upd; rw [if_neg h]
theorem cellsA_set (n : Nat) (F : Nat → Int) (k : Nat) (v : Int) : (cellsA n F).setIfInBounds k (.int .i64 v) = cellsA n (upd F k v) := by
  apply Array.ext_getElem?
  intro i
  rw [Array.getElem?_setIfInBounds]
  by_cases hi : i < n
  · rw [cellsA_at (upd F k v) hi]
    by_cases e : k = i
    · subst e; rw [if_pos rfl, upd_same, cellsA_size, if_pos hi]
    · rw [if_neg e, cellsA_at F hi, upd_other _ _ _ _ (fun h => e h.symm)]
  · rw [cellsA_no (upd F k v) (by omega)]
    by_cases e : k = i
    · subst e; rw [if_pos rfl, cellsA_size, if_neg hi]
    · rw [if_neg e, cellsA_no F (by omega)]
theorem ArrAt.ext {w : World} {b n : Nat} {t : TypeId} {F G : Nat → Int} (h : ArrAt w b t n F) (e : ∀ k, k < n → F k = G k) : ArrAt w b t n G := by
  unfold ArrAt at *; rw [h, cellsA_ext e]
theorem ArrAt.cell {w : World} {b n : Nat} {t : TypeId} {F : Nat → Int} (h : ArrAt w b t n F) {k : Nat} (hk : k < n) : w.cell? ⟨b, k, none⟩ = some (.int .i64 (F k)) := (cur_cell h k).trans (cellsA_at F hk)
theorem ArrAt.free {w : World} {b n : Nat} {t : TypeId} {F : Nat → Int} (h : ArrAt w b t n F) (k : Nat) : w.frozen? ⟨b, k, none⟩ = false := cur_free h k
theorem ArrAt.lt {w : World} {b n : Nat} {t : TypeId} {F : Nat → Int} (h : ArrAt w b t n F) : b < w.heap.size := cur_lt h
theorem ArrAt.set {w : World} {b n : Nat} {t : TypeId} {F : Nat → Int} (h : ArrAt w b t n F) (k : Nat) (v : Int) : ArrAt (w.setCell ⟨b, k, none⟩ (.int .i64 v)) b t n (upd F k v) := by
  unfold ArrAt; rw [cur_set h, cellsA_set]
theorem ArrAt.kept {w w' : World} {b n : Nat} {t : TypeId} {F : Nat → Int} {row : Option Nat} (h : ArrAt w b t n F) (hg : w.grownBy w' row) (hne : row ≠ some b) : ArrAt w' b t n F := kept_grown h hg hne
theorem ArrAt.below {w w' : World} {b n : Nat} {t : TypeId} {F : Nat → Int} (h : ArrAt w b t n F) (hb : Below w.heap.size w w') : ArrAt w' b t n F := kept_block h hb
theorem ArrAt.low {w w' : World} {b n B : Nat} {t : TypeId} {F : Nat → Int} (h : ArrAt w b t n F) (hb : Below B w w') (hlt : b < B) : ArrAt w' b t n F := (hb.block b hlt).trans h
theorem ArrAt.drew {w : World} {b n : Nat} {t : TypeId} {F : Nat → Int} (h : ArrAt w b t n F) (m : Nat) : ArrAt (w.drewN m) b t n F := h

/-- 'var x [n]int' -/
theorem wp_arr_new {P : Program} {w : World} {ops : Array Oper} {rest : List Oper} {o : Oper} {a : Act} {Q : Exit → Act → World → Prop} (hgd : o.guard = none) (ty : TypeId) (ho : o.op = .alloc ty) (n : Nat) (F : Nat → Int)
    (hz : (P.info? ty).map (·.zero) = some (some (.agg (cellsA n F))))
    (h : ∀ w', ArrAt w' w.heap.size ty n F → w.grownBy w' none → w'.heap.size = w.heap.size + 1 → wpList P ops Q rest (a.put o.dst (.pointer (some ⟨w.heap.size, 0, none⟩))) w') : wpList P ops Q (o :: rest) a w := by
  refine wpList_plain hgd fun K hK => ?_
  have hzv : (zeroValue ty).run P w = .ok (.agg (cellsA n F)) w := by
    cases hq : P.info? ty with
    | none => simp [hq] at hz
    | some i => simp [hq] at hz; simp [zeroValue, typeInfo, hq, hz]
  have hK' := hK _ _ (h (w.alloc (.cells (cellsA n F) ty)) (alloc_at w _ _ rfl) (World.grownBy_alloc w _ none) (by simp))
  unfold Oper.wp execOp
  simp only [ho]
  simp [Instr.alloc, hzv, newVar, newRow, Value.cells, Result.andThen]
  exact hK'
/-- An array that came in by value, in a variable of its own. -/
theorem wp_arr_box {P : Program} {w : World} {ops : Array Oper} {rest : List Oper} {o : Oper} {a : Act} {Q : Exit → Act → World → Prop} (hgd : o.guard = none) (ty : TypeId) (x : Operand) (ho : o.op = .box ty x) (n : Nat) (F : Nat → Int)
    (hx : a.eval x = .agg (cellsA n F))
    (h : ∀ w', ArrAt w' w.heap.size ty n F → w.grownBy w' none → w'.heap.size = w.heap.size + 1 → wpList P ops Q rest (a.put o.dst (.pointer (some ⟨w.heap.size, 0, none⟩))) w') : wpList P ops Q (o :: rest) a w := by
  refine wpList_plain hgd fun K hK => ?_
  have hK' := hK _ _ (h (w.alloc (.cells (cellsA n F) ty)) (alloc_at w _ _ rfl) (World.grownBy_alloc w _ none) (by simp))
  unfold Oper.wp execOp
  simp only [ho, hx]
  simp [Instr.box, newVar, newRow, Value.cells, Result.andThen]
  exact hK'
/-- The whole array is read. -/
theorem wp_arr_load {P : Program} {w : World} {ops : Array Oper} {rest : List Oper} {o : Oper} {a : Act} {Q : Exit → Act → World → Prop} (hgd : o.guard = none) (ty : TypeId) (x : Operand) (ho : o.op = .load ty x) (d : TypeDesc) (b n : Nat) (t : TypeId) (F : Nat → Int)
    (hu : P.underlying ty = some d) (hd : (match d with | .struct _ | .array _ _ => true | _ => false) = true) (hi : (P.info? ty).map (·.size) = some n)
    (hx : a.eval x = .pointer (some ⟨b, 0, none⟩)) (ha : ArrAt w b t n F) (h : wpList P ops Q rest (a.put o.dst (.agg (cellsA n F))) w) : wpList P ops Q (o :: rest) a w :=
  wpList_load_row hgd ty x ho b hx t _ (0, 0) d ha hu hd (by rw [cellsA_size]; exact hi) h
/-- .. in the head of a region that draws its order. -/
theorem still_arr_load {P : Program} {w : World} {ops : Array Oper} {rest : List Oper} {o : Oper} {a : Act} {Q : Act → Prop} (hgd : o.guard = none) (ty : TypeId) (x : Operand) (ho : o.op = .load ty x) (d : TypeDesc) (b n : Nat) (t : TypeId) (F : Nat → Int)
    (hu : P.underlying ty = some d) (hd : (match d with | .struct _ | .array _ _ => true | _ => false) = true) (hi : (P.info? ty).map (·.size) = some n)
    (hx : a.eval x = .pointer (some ⟨b, 0, none⟩)) (ha : ArrAt w b t n F) (h : wpStill P ops w Q rest (a.put o.dst (.agg (cellsA n F)))) : wpStill P ops w Q (o :: rest) a := by
  refine wpStill_step fun K hK => ?_
  have hw : Region.wanted o (yielded ops a.tmps) = true := by simp [Region.wanted, hgd]
  rw [if_pos hw]
  unfold Oper.still execOp
  simp only [ho, hx, Instr.loadAt, Instr.sureAddr, Sem.run_bind, Sem.run_pure, Result.andThen_ok, run_loadVar_row w b t ty (cellsA n F) (0, 0) d ha hu hd (by rw [cellsA_size]; exact hi)]
  rw [Oper.stillUpon_value]
  exact hK _ h
/-- The whole array is written. -/
theorem wp_arr_store {P : Program} {w : World} {ops : Array Oper} {rest : List Oper} {o : Oper} {a : Act} {Q : Exit → Act → World → Prop} (hgd : o.guard = none) (ty : TypeId) (x y : Operand) (ho : o.op = .store ty x y) (b n : Nat) (t : TypeId) (F G : Nat → Int)
    (hi : (P.info? ty).map (·.size) = some n) (hx : a.eval x = .pointer (some ⟨b, 0, none⟩)) (hy : a.eval y = .agg (cellsA n G)) (ha : ArrAt w b t n F)
    (h : ∀ w', ArrAt w' b t n G → w.grownBy w' (some b) → w'.heap.size = w.heap.size → wpList P ops Q rest (a.put o.dst undef) w') : wpList P ops Q (o :: rest) a w := by
  refine wpList_store_row hgd ty x y ho b (cellsA n G) hx hy t _ ha (by rw [cellsA_size]; exact hi) (by rw [cellsA_size, cellsA_size]) (cellsA_one _ _) ?_
  exact h _ (setRow_heap w b _ _ t _ ha) ⟨rfl, rfl, rfl, by simp, fun k _ hk => setRow_other w b k _ (by intro e; subst e; exact hk rfl)⟩ (by simp)
/-- A part of F, from o on, replaced. -/
def seg (F : Nat → Int) (o m : Nat) (G : Nat → Int) : Nat → Int := fun k => if o ≤ k ∧ k < o + m then G (k - o) else F k
theorem seg_in (F G : Nat → Int) (o m j : Nat) (h : j < m) : seg F o m G (o + j) = G j := by unfold seg; rw [if_pos (by omega), show o + j - o = j from by omega]
theorem seg_out (F G : Nat → Int) (o m k : Nat) (h : k < o ∨ o + m ≤ k) : seg F o m G k = F k := by unfold seg; rw [if_neg (by omega)]
theorem arr_setCells {b n : Nat} {t : TypeId} : ∀ (vs : List Int) (w : World) (o : Nat) (F : Nat → Int), ArrAt w b t n F → ArrAt (w.setCells b o (vs.map fun z => Value.int .i64 z)) b t n (seg F o vs.length fun j => vs.getD j 0)
  | [], w, o, F, h => by
    refine ArrAt.ext (F := F) h fun k _ => ?_
    rw [seg_out _ _ _ _ _ (by simp; omega)]
  | v :: r, w, o, F, h => by
    have ih := arr_setCells r (w.setCell ⟨b, o, none⟩ (.int .i64 v)) (o + 1) _ (h.set o v)
    refine ArrAt.ext ih fun k _ => ?_
    unfold seg
    by_cases e : k = o
    · subst e
      rw [if_neg (by omega), if_pos (by simp), upd_same]; simp
    · by_cases h1 : o + 1 ≤ k ∧ k < o + 1 + r.length
      · rw [if_pos h1, if_pos (by simp; omega)]
        obtain ⟨j, rfl⟩ : ∃ j, k = o + 1 + j := ⟨k - (o + 1), by omega⟩
        rw [show o + 1 + j - (o + 1) = j from by omega, show o + 1 + j - o = j + 1 from by omega]; simp
      · rw [if_neg h1, if_neg (by simp; omega), upd_other _ _ _ _ e]
theorem grown_setCells (b : Nat) : ∀ (vs : List Value) (w : World) (o : Nat), w.grownBy (w.setCells b o vs) (some b) ∧ (w.setCells b o vs).heap.size = w.heap.size
  | [], w, o => ⟨World.grownBy.refl _ _, rfl⟩
  | v :: r, w, o => by
    have ih := grown_setCells b r (w.setCell ⟨b, o, none⟩ v) (o + 1)
    refine ⟨grown_trans (set_grown w b o v) ih.1, ih.2.trans ?_⟩
    simp [World.setCell]
/-- A part of the array, itself an array, is written. -/
theorem wp_arr_mid {P : Program} {w : World} {ops : Array Oper} {rest : List Oper} {o : Oper} {a : Act} {Q : Exit → Act → World → Prop} (hgd : o.guard = none) (ty : TypeId) (x y : Operand) (ho : o.op = .store ty x y) (b off n m : Nat) (t : TypeId) (F G : Nat → Int)
    (hi : (P.info? ty).map (·.size) = some m) (hx : a.eval x = .pointer (some ⟨b, off, none⟩)) (hy : a.eval y = .agg (cellsA m G)) (ha : ArrAt w b t n F) (hfit : off + m ≤ n)
    (h : ∀ w', ArrAt w' b t n (seg F off m G) → w.grownBy w' (some b) → w'.heap.size = w.heap.size → wpList P ops Q rest (a.put o.dst undef) w') : wpList P ops Q (o :: rest) a w := by
  refine wpList_store_mid hgd ty x y ho b off (cellsA m G) hx hy (fun j hj => ?_) (by rw [cellsA_size]; exact hi) (cellsA_one _ _) ?_
  · rw [cellsA_size] at hj
    exact ⟨by rw [ha.cell (by omega)]; rfl, ha.free _⟩
  · have e : (cellsA m G).toList = ((List.range m).map G).map fun z => Value.int .i64 z := by simp [cellsA]
    have hs := arr_setCells ((List.range m).map G) w off F ha
    rw [← e] at hs
    refine h _ (hs.ext fun k _ => ?_) (grown_setCells b _ w off).1 (grown_setCells b _ w off).2
    unfold seg
    simp only [List.length_map, List.length_range]
    by_cases h1 : off ≤ k ∧ k < off + m
    · rw [if_pos h1, if_pos h1]; simp [show k - off < m from by omega]
    · rw [if_neg h1, if_neg h1]
/-- 'copy(x[:m], y[o:])' from array to array. -/
theorem arr_copy {P : Program} {w : World} {dT sT e t u : TypeId} {g b n n' m c o sLen sCap : Nat} {F G : Nat → Int} (hu : P.underlying dT = some (.slice e)) (hs : (P.info? e).map (·.size) = some 1) (hg : ArrAt w g t n F) (hb : ArrAt w b u n' G)
    (hm : m = Nat.min sLen m) (hmn : m ≤ n) (ho : o + m ≤ n') :
    ∃ w', (∀ ty, (Builtin.copy_ #[dT, sT] ty #[.slice (some ⟨g, 0, none⟩) m c, .slice (some ⟨b, o, none⟩) sLen sCap]).run P w = .ok (goInt m) w') ∧ ArrAt w' g t n (seg F 0 m fun j => G (o + j)) ∧ w.grownBy w' (some g) ∧ w'.heap.size = w.heap.size := by
  have hl : ((List.range m).map fun j => Value.int .i64 (G (o + j))).length = m := by simp
  have hc : ∀ j v, ((List.range m).map fun j => Value.int .i64 (G (o + j)))[j]? = some v → w.cell? ((⟨b, o, none⟩ : Addr).add j) = some v := by
    intro j v hj
    have hjm : j < m := by
      rcases Nat.lt_or_ge j m with h | h
      · exact h
      · rw [List.getElem?_eq_none (by simpa using h)] at hj; cases hj
    have ea : (⟨b, o, none⟩ : Addr).add j = ⟨b, o + j, none⟩ := by simp [Addr.add]
    rw [ea, hb.cell (by omega), ← hj]
    simp [hjm]
  have hrun := fun ty => run_copy_row P w dT sT ty e g 0 m c ⟨b, o, none⟩ sLen sCap (cellsA n F) t ((List.range m).map fun j => Value.int .i64 (G (o + j))) hu hs hg (by rw [hl]; exact hm) hc (by rw [hl, cellsA_size]; omega) (by intro v hv; obtain ⟨j, _, rfl⟩ := List.mem_map.1 hv; rfl)
  refine ⟨w.setRow g ((cellsA n F).toList.take 0 ++ ((List.range m).map fun j => Value.int .i64 (G (o + j))) ++ (cellsA n F).toList.drop (0 + ((List.range m).map fun j => Value.int .i64 (G (o + j))).length)).toArray, fun ty => (hrun ty).trans (by rw [hl]), ?_, ⟨rfl, rfl, rfl, by simp, fun k _ hk => setRow_other w g k _ (by intro e; subst e; exact hk rfl)⟩, by simp⟩
  unfold ArrAt
  rw [setRow_heap w g _ _ t _ hg]
  congr 2
  apply Array.ext_getElem?
  intro i
  simp only [List.take_zero, List.nil_append, hl, Nat.zero_add]
  by_cases hi : i < n
  · rw [cellsA_at _ hi]
    by_cases him : i < m
    · have := seg_in F (fun j => G (o + j)) 0 m i him
      rw [Nat.zero_add] at this
      rw [this, List.getElem?_toArray, List.getElem?_append_left (by rw [hl]; exact him)]
      simp [him]
    · rw [seg_out _ _ _ _ _ (by omega)]
      have hat := cellsA_at F hi
      simp [List.getElem?_append, him]
      rw [show m + (i - m) = i from by omega]
      exact hat
  · rw [cellsA_no _ (by omega)]
    simp [List.getElem?_append, show ¬ i < m from by omega]
    rw [cellsA_size]; omega
/-- What a call answers out of an array. -/
theorem ret_arr {P : Program} {fn : Func} {R : Ending → World → Prop} {a : Act} {w : World} {p : Tmp} {ty t : TypeId} {d : TypeDesc} {b n : Nat} {F : Nat → Int} (hr : fn.results = #[.cell p ty]) (hd : a.defers = []) (hp : a.tmps.getD p undef = .pointer (some ⟨b, 0, none⟩))
    (ha : ArrAt w b t n F) (hu : P.underlying ty = some d) (hdd : (match d with | .struct _ | .array _ _ => true | _ => false) = true) (hi : (P.info? ty).map (·.size) = some n) (hR : R (.returned (.agg (cellsA n F))) w) : bodyPost P fn R .ret a w :=
  bodyPost_ret (results_cell_row hr a.tmps w b t _ (0, 0) d hp ha hu hdd (by rw [cellsA_size]; exact hi)) hd hR
end Go.Proofs.Ytmkgddbdkpkgpaa
end
