/- Arr, NeA, NeR, NeG in one. Written by tools/join.py. -/
import Derived.Test.YtaedamnhobcdlaaJBase
import Derived.Laws.CopyRow
import Derived.Laws.IdiomCopy
import Derived.Deep.MidRow
import Derived.StillTailTactics
import Derived.Test.YtaedamnhobcdlaaJNet
import Derived.Deep.DeepMust
import Derived.WalkSpells
import Derived.Test.YtaedamnhobcdlaaJNtR
import Derived.Deep.RegionWith
section
namespace Go.Proofs.Ytaedamnhobcdlaa
open Go.RowKit
set_option linter.unusedVariables false

/-- n numbers, as cells. -/
def cellsA (n : Nat) (F : Nat → Int) : Array Value := ((List.range n).map fun k => Value.int .i64 (F k)).toArray
theorem cellsA_size (n : Nat) (F : Nat → Int) : (cellsA n F).size = n := by simp [cellsA]
theorem cellsA_at {n k : Nat} (F : Nat → Int) (h : k < n) : (cellsA n F)[k]? = some (.int .i64 (F k)) := by simp [cellsA, h]
theorem cellsA_no {n k : Nat} (F : Nat → Int) (h : n ≤ k) : (cellsA n F)[k]? = none := by simp [cellsA, h]
theorem cellsA_ext {n : Nat} {F G : Nat → Int} (h : ∀ k, k < n → F k = G k) : cellsA n F = cellsA n G := by
  unfold cellsA
  congr 1
  refine List.map_congr_left fun k hk => ?_
  rw [h k (by simpa using hk)]
theorem cellsA_one (n : Nat) (F : Nat → Int) : (cellsA n F).all (·.oneCell') = true := by
  rw [Array.all_eq_true]
  intro i hi
  rw [cellsA_size] at hi
  have := cellsA_at F hi
  rw [Array.getElem?_eq_getElem (by rw [cellsA_size]; exact hi)] at this
  rw [Option.some.inj this]; rfl
/-- The block b is an array of n numbers. -/
def ArrAt (w : World) (b : Nat) (t : TypeId) (n : Nat) (F : Nat → Int) : Prop := w.heap[b]? = some (.cells (cellsA n F) t (0, 0))
def upd (F : Nat → Int) (k : Nat) (v : Int) : Nat → Int := fun j => if j = k then v else F j
theorem upd_same (F : Nat → Int) (k : Nat) (v : Int) : upd F k v k = v := by unfold upd; rw [if_pos rfl]
theorem upd_other (F : Nat → Int) (k j : Nat) (v : Int) (h : j ≠ k) : upd F k v j = F j := by unfold upd; rw [if_neg h]
theorem cellsA_set (n : Nat) (F : Nat → Int) (k : Nat) (v : Int) : (cellsA n F).setIfInBounds k (.int .i64 v) = cellsA n (upd F k v) := by
  apply Array.ext_getElem?
  intro i
  rw [Array.getElem?_setIfInBounds]
  by_cases hi : i < n
  · rw [cellsA_at (upd F k v) hi]
    by_cases e : k = i
    · subst e; rw [if_pos rfl, upd_same, cellsA_size, if_pos hi]
    · rw [if_neg e, cellsA_at F hi, upd_other _ _ _ _ (fun h => e h.symm)]
  · rw [cellsA_no (upd F k v) (by omega)]
    by_cases e : k = i
    · subst e; rw [if_pos rfl, cellsA_size, if_neg hi]
    · rw [if_neg e, cellsA_no F (by omega)]
theorem ArrAt.ext {w : World} {b n : Nat} {t : TypeId} {F G : Nat → Int} (h : ArrAt w b t n F) (e : ∀ k, k < n → F k = G k) : ArrAt w b t n G := by
  unfold ArrAt at *; rw [h, cellsA_ext e]
theorem ArrAt.cell {w : World} {b n : Nat} {t : TypeId} {F : Nat → Int} (h : ArrAt w b t n F) {k : Nat} (hk : k < n) : w.cell? ⟨b, k, none⟩ = some (.int .i64 (F k)) := (cur_cell h k).trans (cellsA_at F hk)
theorem ArrAt.free {w : World} {b n : Nat} {t : TypeId} {F : Nat → Int} (h : ArrAt w b t n F) (k : Nat) : w.frozen? ⟨b, k, none⟩ = false := cur_free h k
theorem ArrAt.lt {w : World} {b n : Nat} {t : TypeId} {F : Nat → Int} (h : ArrAt w b t n F) : b < w.heap.size := cur_lt h
theorem ArrAt.set {w : World} {b n : Nat} {t : TypeId} {F : Nat → Int} (h : ArrAt w b t n F) (k : Nat) (v : Int) : ArrAt (w.setCell ⟨b, k, none⟩ (.int .i64 v)) b t n (upd F k v) := by
  unfold ArrAt; rw [cur_set h, cellsA_set]
theorem ArrAt.kept {w w' : World} {b n : Nat} {t : TypeId} {F : Nat → Int} {row : Option Nat} (h : ArrAt w b t n F) (hg : w.grownBy w' row) (hne : row ≠ some b) : ArrAt w' b t n F := kept_grown h hg hne
theorem ArrAt.below {w w' : World} {b n : Nat} {t : TypeId} {F : Nat → Int} (h : ArrAt w b t n F) (hb : Below w.heap.size w w') : ArrAt w' b t n F := kept_block h hb
theorem ArrAt.low {w w' : World} {b n B : Nat} {t : TypeId} {F : Nat → Int} (h : ArrAt w b t n F) (hb : Below B w w') (hlt : b < B) : ArrAt w' b t n F := (hb.block b hlt).trans h
theorem ArrAt.drew {w : World} {b n : Nat} {t : TypeId} {F : Nat → Int} (h : ArrAt w b t n F) (m : Nat) : ArrAt (w.drewN m) b t n F := h

/-- 'var x [n]int' -/
theorem wp_arr_new {P : Program} {w : World} {ops : Array Oper} {rest : List Oper} {o : Oper} {a : Act} {Q : Exit → Act → World → Prop} (hgd : o.guard = none) (ty : TypeId) (ho : o.op = .alloc ty) (n : Nat) (F : Nat → Int)
    (hz : (P.info? ty).map (·.zero) = some (some (.agg (cellsA n F))))
    (h : ∀ w', ArrAt w' w.heap.size ty n F → w.grownBy w' none → w'.heap.size = w.heap.size + 1 → wpList P ops Q rest (a.put o.dst (.pointer (some ⟨w.heap.size, 0, none⟩))) w') : wpList P ops Q (o :: rest) a w := by
  refine wpList_plain hgd fun K hK => ?_
  have hzv : (zeroValue ty).run P w = .ok (.agg (cellsA n F)) w := by
    cases hq : P.info? ty with
    | none => simp [hq] at hz
    | some i => simp [hq] at hz; simp [zeroValue, typeInfo, hq, hz]
  have hK' := hK _ _ (h (w.alloc (.cells (cellsA n F) ty)) (alloc_at w _ _ rfl) (World.grownBy_alloc w _ none) (by simp))
  unfold Oper.wp execOp
  simp only [ho]
  simp [Instr.alloc, hzv, newVar, newRow, Value.cells, Result.andThen]
  exact hK'
/-- An array that came in by value, in a variable of its own. -/
theorem wp_arr_box {P : Program} {w : World} {ops : Array Oper} {rest : List Oper} {o : Oper} {a : Act} {Q : Exit → Act → World → Prop} (hgd : o.guard = none) (ty : TypeId) (x : Operand) (ho : o.op = .box ty x) (n : Nat) (F : Nat → Int)
    (hx : a.eval x = .agg (cellsA n F))
    (h : ∀ w', ArrAt w' w.heap.size ty n F → w.grownBy w' none → w'.heap.size = w.heap.size + 1 → wpList P ops Q rest (a.put o.dst (.pointer (some ⟨w.heap.size, 0, none⟩))) w') : wpList P ops Q (o :: rest) a w := by
  refine wpList_plain hgd fun K hK => ?_
  have hK' := hK _ _ (h (w.alloc (.cells (cellsA n F) ty)) (alloc_at w _ _ rfl) (World.grownBy_alloc w _ none) (by simp))
  unfold Oper.wp execOp
  simp only [ho, hx]
  simp [Instr.box, newVar, newRow, Value.cells, Result.andThen]
  exact hK'
/-- The whole array is read. -/
theorem wp_arr_load {P : Program} {w : World} {ops : Array Oper} {rest : List Oper} {o : Oper} {a : Act} {Q : Exit → Act → World → Prop} (hgd : o.guard = none) (ty : TypeId) (x : Operand) (ho : o.op = .load ty x) (d : TypeDesc) (b n : Nat) (t : TypeId) (F : Nat → Int)
    (hu : P.underlying ty = some d) (hd : (match d with | .struct _ | .array _ _ => true | _ => false) = true) (hi : (P.info? ty).map (·.size) = some n)
    (hx : a.eval x = .pointer (some ⟨b, 0, none⟩)) (ha : ArrAt w b t n F) (h : wpList P ops Q rest (a.put o.dst (.agg (cellsA n F))) w) : wpList P ops Q (o :: rest) a w :=
  wpList_load_row hgd ty x ho b hx t _ (0, 0) d ha hu hd (by rw [cellsA_size]; exact hi) h
/-- .. in the head of a region that draws its order. -/
theorem still_arr_load {P : Program} {w : World} {ops : Array Oper} {rest : List Oper} {o : Oper} {a : Act} {Q : Act → Prop} (hgd : o.guard = none) (ty : TypeId) (x : Operand) (ho : o.op = .load ty x) (d : TypeDesc) (b n : Nat) (t : TypeId) (F : Nat → Int)
    (hu : P.underlying ty = some d) (hd : (match d with | .struct _ | .array _ _ => true | _ => false) = true) (hi : (P.info? ty).map (·.size) = some n)
    (hx : a.eval x = .pointer (some ⟨b, 0, none⟩)) (ha : ArrAt w b t n F) (h : wpStill P ops w Q rest (a.put o.dst (.agg (cellsA n F)))) : wpStill P ops w Q (o :: rest) a := by
  refine wpStill_step fun K hK => ?_
  have hw : Region.wanted o (yielded ops a.tmps) = true := by simp [Region.wanted, hgd]
  rw [if_pos hw]
  unfold Oper.still execOp
  simp only [ho, hx, Instr.loadAt, Instr.sureAddr, Sem.run_bind, Sem.run_pure, Result.andThen_ok, run_loadVar_row w b t ty (cellsA n F) (0, 0) d ha hu hd (by rw [cellsA_size]; exact hi)]
  rw [Oper.stillUpon_value]
  exact hK _ h
/-- The whole array is written. -/
theorem wp_arr_store {P : Program} {w : World} {ops : Array Oper} {rest : List Oper} {o : Oper} {a : Act} {Q : Exit → Act → World → Prop} (hgd : o.guard = none) (ty : TypeId) (x y : Operand) (ho : o.op = .store ty x y) (b n : Nat) (t : TypeId) (F G : Nat → Int)
    (hi : (P.info? ty).map (·.size) = some n) (hx : a.eval x = .pointer (some ⟨b, 0, none⟩)) (hy : a.eval y = .agg (cellsA n G)) (ha : ArrAt w b t n F)
    (h : ∀ w', ArrAt w' b t n G → w.grownBy w' (some b) → w'.heap.size = w.heap.size → wpList P ops Q rest (a.put o.dst undef) w') : wpList P ops Q (o :: rest) a w := by
  refine wpList_store_row hgd ty x y ho b (cellsA n G) hx hy t _ ha (by rw [cellsA_size]; exact hi) (by rw [cellsA_size, cellsA_size]) (cellsA_one _ _) ?_
  exact h _ (setRow_heap w b _ _ t _ ha) ⟨rfl, rfl, rfl, by simp, fun k _ hk => setRow_other w b k _ (by intro e; subst e; exact hk rfl)⟩ (by simp)
/-- A part of F, from o on, replaced. -/
def seg (F : Nat → Int) (o m : Nat) (G : Nat → Int) : Nat → Int := fun k => if o ≤ k ∧ k < o + m then G (k - o) else F k
theorem seg_in (F G : Nat → Int) (o m j : Nat) (h : j < m) : seg F o m G (o + j) = G j := by unfold seg; rw [if_pos (by omega), show o + j - o = j from by omega]
theorem seg_out (F G : Nat → Int) (o m k : Nat) (h : k < o ∨ o + m ≤ k) : seg F o m G k = F k := by unfold seg; rw [if_neg (by omega)]
theorem arr_setCells {b n : Nat} {t : TypeId} : ∀ (vs : List Int) (w : World) (o : Nat) (F : Nat → Int), ArrAt w b t n F → ArrAt (w.setCells b o (vs.map fun z => Value.int .i64 z)) b t n (seg F o vs.length fun j => vs.getD j 0)
  | [], w, o, F, h => by
    refine ArrAt.ext (F := F) h fun k _ => ?_
    rw [seg_out _ _ _ _ _ (by simp; omega)]
  | v :: r, w, o, F, h => by
    have ih := arr_setCells r (w.setCell ⟨b, o, none⟩ (.int .i64 v)) (o + 1) _ (h.set o v)
    refine ArrAt.ext ih fun k _ => ?_
    unfold seg
    by_cases e : k = o
    · subst e
      rw [if_neg (by omega), if_pos (by simp), upd_same]; simp
    · by_cases h1 : o + 1 ≤ k ∧ k < o + 1 + r.length
      · rw [if_pos h1, if_pos (by simp; omega)]
        obtain ⟨j, rfl⟩ : ∃ j, k = o + 1 + j := ⟨k - (o + 1), by omega⟩
        rw [show o + 1 + j - (o + 1) = j from by omega, show o + 1 + j - o = j + 1 from by omega]; simp
      · rw [if_neg h1, if_neg (by simp; omega), upd_other _ _ _ _ e]
theorem grown_setCells (b : Nat) : ∀ (vs : List Value) (w : World) (o : Nat), w.grownBy (w.setCells b o vs) (some b) ∧ (w.setCells b o vs).heap.size = w.heap.size
  | [], w, o => ⟨World.grownBy.refl _ _, rfl⟩
  | v :: r, w, o => by
    have ih := grown_setCells b r (w.setCell ⟨b, o, none⟩ v) (o + 1)
    refine ⟨grown_trans (set_grown w b o v) ih.1, ih.2.trans ?_⟩
    simp [World.setCell]
/-- A part of the array, itself an array, is written. -/
theorem wp_arr_mid {P : Program} {w : World} {ops : Array Oper} {rest : List Oper} {o : Oper} {a : Act} {Q : Exit → Act → World → Prop} (hgd : o.guard = none) (ty : TypeId) (x y : Operand) (ho : o.op = .store ty x y) (b off n m : Nat) (t : TypeId) (F G : Nat → Int)
    (hi : (P.info? ty).map (·.size) = some m) (hx : a.eval x = .pointer (some ⟨b, off, none⟩)) (hy : a.eval y = .agg (cellsA m G)) (ha : ArrAt w b t n F) (hfit : off + m ≤ n)
    (h : ∀ w', ArrAt w' b t n (seg F off m G) → w.grownBy w' (some b) → w'.heap.size = w.heap.size → wpList P ops Q rest (a.put o.dst undef) w') : wpList P ops Q (o :: rest) a w := by
  refine wpList_store_mid hgd ty x y ho b off (cellsA m G) hx hy (fun j hj => ?_) (by rw [cellsA_size]; exact hi) (cellsA_one _ _) ?_
  · rw [cellsA_size] at hj
    exact ⟨by rw [ha.cell (by omega)]; rfl, ha.free _⟩
  · have e : (cellsA m G).toList = ((List.range m).map G).map fun z => Value.int .i64 z := by simp [cellsA]
    have hs := arr_setCells ((List.range m).map G) w off F ha
    rw [← e] at hs
    refine h _ (hs.ext fun k _ => ?_) (grown_setCells b _ w off).1 (grown_setCells b _ w off).2
    unfold seg
    simp only [List.length_map, List.length_range]
    by_cases h1 : off ≤ k ∧ k < off + m
    · rw [if_pos h1, if_pos h1]; simp [show k - off < m from by omega]
    · rw [if_neg h1, if_neg h1]
/-- 'copy(x[:m], y[o:])' from array to array. -/
theorem arr_copy {P : Program} {w : World} {dT sT e t u : TypeId} {g b n n' m c o sLen sCap : Nat} {F G : Nat → Int} (hu : P.underlying dT = some (.slice e)) (hs : (P.info? e).map (·.size) = some 1) (hg : ArrAt w g t n F) (hb : ArrAt w b u n' G)
    (hm : m = Nat.min sLen m) (hmn : m ≤ n) (ho : o + m ≤ n') :
    ∃ w', (∀ ty, (Builtin.copy_ #[dT, sT] ty #[.slice (some ⟨g, 0, none⟩) m c, .slice (some ⟨b, o, none⟩) sLen sCap]).run P w = .ok (goInt m) w') ∧ ArrAt w' g t n (seg F 0 m fun j => G (o + j)) ∧ w.grownBy w' (some g) ∧ w'.heap.size = w.heap.size := by
  have hl : ((List.range m).map fun j => Value.int .i64 (G (o + j))).length = m := by simp
  have hc : ∀ j v, ((List.range m).map fun j => Value.int .i64 (G (o + j)))[j]? = some v → w.cell? ((⟨b, o, none⟩ : Addr).add j) = some v := by
    intro j v hj
    have hjm : j < m := by
      rcases Nat.lt_or_ge j m with h | h
      · exact h
      · rw [List.getElem?_eq_none (by simpa using h)] at hj; cases hj
    have ea : (⟨b, o, none⟩ : Addr).add j = ⟨b, o + j, none⟩ := by simp [Addr.add]
    rw [ea, hb.cell (by omega), ← hj]
    simp [hjm]
  have hrun := fun ty => run_copy_row P w dT sT ty e g 0 m c ⟨b, o, none⟩ sLen sCap (cellsA n F) t ((List.range m).map fun j => Value.int .i64 (G (o + j))) hu hs hg (by rw [hl]; exact hm) hc (by rw [hl, cellsA_size]; omega) (by intro v hv; obtain ⟨j, _, rfl⟩ := List.mem_map.1 hv; rfl)
  refine ⟨w.setRow g ((cellsA n F).toList.take 0 ++ ((List.range m).map fun j => Value.int .i64 (G (o + j))) ++ (cellsA n F).toList.drop (0 + ((List.range m).map fun j => Value.int .i64 (G (o + j))).length)).toArray, fun ty => (hrun ty).trans (by rw [hl]), ?_, ⟨rfl, rfl, rfl, by simp, fun k _ hk => setRow_other w g k _ (by intro e; subst e; exact hk rfl)⟩, by simp⟩
  unfold ArrAt
  rw [setRow_heap w g _ _ t _ hg]
  congr 2
  apply Array.ext_getElem?
  intro i
  simp only [List.take_zero, List.nil_append, hl, Nat.zero_add]
  by_cases hi : i < n
  · rw [cellsA_at _ hi]
    by_cases him : i < m
    · have := seg_in F (fun j => G (o + j)) 0 m i him
      rw [Nat.zero_add] at this
      rw [this, List.getElem?_toArray, List.getElem?_append_left (by rw [hl]; exact him)]
      simp [him]
    · rw [seg_out _ _ _ _ _ (by omega)]
      have hat := cellsA_at F hi
      simp [List.getElem?_append, him]
      rw [show m + (i - m) = i from by omega]
      exact hat
  · rw [cellsA_no _ (by omega)]
    simp [List.getElem?_append, show ¬ i < m from by omega]
    rw [cellsA_size]; omega
/-- What a call answers out of an array. -/
theorem ret_arr {P : Program} {fn : Func} {R : Ending → World → Prop} {a : Act} {w : World} {p : Tmp} {ty t : TypeId} {d : TypeDesc} {b n : Nat} {F : Nat → Int} (hr : fn.results = #[.cell p ty]) (hd : a.defers = []) (hp : a.tmps.getD p undef = .pointer (some ⟨b, 0, none⟩))
    (ha : ArrAt w b t n F) (hu : P.underlying ty = some d) (hdd : (match d with | .struct _ | .array _ _ => true | _ => false) = true) (hi : (P.info? ty).map (·.size) = some n) (hR : R (.returned (.agg (cellsA n F))) w) : bodyPost P fn R .ret a w :=
  bodyPost_ret (results_cell_row hr a.tmps w b t _ (0, 0) d hp ha hu hdd (by rw [cellsA_size]; exact hi)) hd hR
end Go.Proofs.Ytaedamnhobcdlaa
end

section
namespace Go.Proofs.Ytaedamnhobcdlaa
open Go.RowKit
set_option linter.unusedVariables false
set_option maxRecDepth 100000

theorem implSizeOk (z : Int) (w : World) : Calls Try.prog 50 #[.int .i64 z] w fun e w' => e = .returned (.bool (decide (1 ≤ z ∧ z ≤ 64))) ∧ w = w' := by
  by_cases h1 : 1 ≤ z
  · by_cases h2 : z ≤ 64
    · have hr : decide (1 ≤ z ∧ z ≤ 64) = true := by simp [h1, h2]
      rw [hr]
      go_enter Try.func50, Try.ntmps50
      go_wp2
      go_ret
      exact ⟨rfl, rfl⟩
    · have hr : decide (1 ≤ z ∧ z ≤ 64) = false := by simp [h2]
      rw [hr]
      go_enter Try.func50, Try.ntmps50
      go_wp2
      go_ret
      exact ⟨rfl, rfl⟩
  · have hr : decide (1 ≤ z ∧ z ≤ 64) = false := by simp [h1]
    rw [hr]
    go_enter Try.func50, Try.ntmps50
    go_wp2
    go_ret
    exact ⟨rfl, rfl⟩
/-- A net in a block of its own. -/
def NetAt (w : World) (b : Nat) (c : Value) (m : NetM) : Prop := w.heap[b]? = some (.cells #[.int .i64 m.n, c] 36 (0, 0)) ∧ WireSIn [c] m.ws w
theorem NetAt.below {w w' : World} {b : Nat} {c : Value} {m : NetM} (h : NetAt w b c m) (hb : Below w.heap.size w w') : NetAt w' b c m := ⟨kept_block h.1 hb, h.2.below hb⟩
theorem NetAt.box {w : World} {c0 c1 : Value} {m : NetM} (h : NetIn [c0, c1] m w) : NetAt (w.alloc (.cells #[c0, c1] 36)) w.heap.size c1 m := by
  obtain ⟨rfl, h1⟩ := netIn_shape h
  exact ⟨alloc_at _ _ _ rfl, h1.below (below_box (Below.refl _ _) _)⟩
set_option maxHeartbeats 2000000 in
theorem implValid (b : Nat) (c : Value) (m : NetM) (w : World) (h : NetAt w b c m) :
    Calls Try.prog 48 #[.pointer (some ⟨b, 0, none⟩)] w fun e w' => e = .returned (.bool (netOkB m)) ∧ Below w.heap.size w w' := by
  obtain ⟨hk, hw⟩ := h
  obtain ⟨a1, cap1, rfl, _, hm, r⟩ := wireSIn_shape hw
  unfold maxLen at hm
  have q0 : w.cell? ⟨b, 0, none⟩ = some (.int .i64 m.n) := cur_cell hk 0
  have q1 : w.cell? ⟨b, 1, none⟩ = some (.slice a1 m.ws.length cap1) := cur_cell hk 1
  have K := Lib.hid hk
  have R := Lib.hid r
  clear hw hk r
  by_cases hs : 1 ≤ m.n ∧ m.n ≤ 64
  · have S := Lib.hid (implSizeOk m.n)
    rw [show decide (1 ≤ m.n ∧ m.n ≤ 64) = true from decide_eq_true hs] at S
    obtain ⟨hs1, hs2⟩ := hs
    by_cases hl : 2100 < m.ws.length
    · have E := Lib.hid (netOkB_long hl)
      have hl' : (2100 : Int) < (m.ws.length : Int) := by omega
      go_enter Try.func48, Try.ntmps48
      go_wp2_with (go_at_call 50; refine (S.out _).mono ?_; rintro e w1 ⟨rfl, rfl⟩)
      go_ret
      exact ⟨by rw [E.out]; rfl, Below.refl _ _⟩
    · have hl' : ¬ (2100 : Int) < (m.ws.length : Int) := by omega
      go_enter Try.func48, Try.ntmps48
      go_wp2_with (go_at_call 50; refine (S.out _).mono ?_; rintro e w1 ⟨rfl, rfl⟩)
      clear S
      go_loopw [24, 4] (fun i _ wr => ∃ k : Nat, k ≤ m.ws.length ∧ i = .int .i64 k ∧ Hid (Below w.heap.size w wr ∧ ∀ (j : Nat) (hj : j < m.ws.length), j < k → wireB m.n m.ws[j] = true)) (fun i _ _ => m.ws.length - (intOf i).toNat)
      case atStart => exact ⟨0, Nat.zero_le _, rfl, Lib.hid ⟨Below.refl _ _, fun j _ hj => absurd hj (by omega)⟩⟩
      case round =>
        clear q0 q1
        obtain ⟨k, hk, rfl, H⟩ := hrel
        by_cases hlt : k < m.ws.length
        · obtain ⟨b1, o1, rfl, p0, p1⟩ := (R.out.below H.out.1).wire hlt
          have B1 := Lib.hid (below_box H.out.1 (.cells #[.int .i64 m.ws[k].a, .int .i64 m.ws[k].b] 87))
          have q0 : wr.cell? ⟨b, 0, none⟩ = some (.int .i64 m.n) := cur_cell (kept_block K.out H.out.1) 0
          have hbl : b < wr.heap.size := cur_lt (kept_block K.out H.out.1)
          have q0' : (wr.alloc (.cells #[.int .i64 m.ws[k].a, .int .i64 m.ws[k].b] 87)).cell? ⟨b, 0, none⟩ = some (.int .i64 m.n) := cell_keep q0 (below_box (Below.refl _ _) _)
          by_cases h1 : m.ws[k].a < 0
          · have E := Lib.hid (netOkB_bad hlt (by unfold wireB; simp; omega))
            have d1 : decide (m.ws[k].a < 0) = true := decide_eq_true h1
            generalize m.ws[k].a = x at *
            generalize m.ws[k].b = y at *
            go_wp2_with fail
            go_quiet (fail)
            go_wp2
            go_ret
            exact ⟨by rw [E.out]; rfl, below_seq B1.out (belowN _)⟩
          · have d1 : decide (m.ws[k].a < 0) = false := decide_eq_false h1
            by_cases h2 : m.ws[k].b ≤ m.ws[k].a
            · have E := Lib.hid (netOkB_bad hlt (by unfold wireB; simp; omega))
              have d2 : decide (m.ws[k].b ≤ m.ws[k].a) = true := decide_eq_true h2
              generalize m.ws[k].a = x at *
              generalize m.ws[k].b = y at *
              go_wp2_with fail
              go_quiet (fail)
              go_wp2
              go_ret
              exact ⟨by rw [E.out]; rfl, below_seq B1.out (belowN _)⟩
            · have d2 : decide (m.ws[k].b ≤ m.ws[k].a) = false := decide_eq_false h2
              by_cases h3 : m.n ≤ m.ws[k].b
              · have E := Lib.hid (netOkB_bad hlt (by unfold wireB; simp; omega))
                have d3 : decide (m.n ≤ m.ws[k].b) = true := decide_eq_true h3
                generalize m.ws[k].a = x at *
                generalize m.ws[k].b = y at *
                go_wp2_with fail
                go_quiet (fail)
                go_wp2
                go_ret
                exact ⟨by rw [E.out]; rfl, below_seq B1.out (belowN _)⟩
              · have d3 : decide (m.n ≤ m.ws[k].b) = false := decide_eq_false h3
                have N : Hid (∀ (j : Nat) (hj : j < m.ws.length), j < k + 1 → wireB m.n m.ws[j] = true) := Lib.hid (fun j hj hj2 => by
                  by_cases e : j = k
                  · subst e; unfold wireB; simp; omega
                  · exact H.out.2 j hj (by omega))
                generalize m.ws[k].a = x at *
                generalize m.ws[k].b = y at *
                go_wp2_with fail
                go_quiet (fail)
                go_wp2
                go_roundw
                case rel => exact ⟨k + 1, by omega, by go_num, Lib.hid ⟨below_seq B1.out (belowN _), N.out⟩⟩
                case measure => simp [intOf]; omega
        · have E := Lib.hid (netOkB_all hs1 hs2 (by omega) (fun j hj => H.out.2 j hj (by omega)))
          go_wp2
          go_ret
          exact ⟨by rw [E.out]; rfl, H.out.1⟩
  · have S := Lib.hid (implSizeOk m.n)
    rw [show decide (1 ≤ m.n ∧ m.n ≤ 64) = false from decide_eq_false hs] at S
    have E := Lib.hid (netOkB_size hs)
    go_enter Try.func48, Try.ntmps48
    go_wp2_with (go_at_call 50; refine (S.out _).mono ?_; rintro e w1 ⟨rfl, rfl⟩)
    go_ret
    exact ⟨by rw [E.out]; rfl, Below.refl _ _⟩
set_option maxHeartbeats 2000000 in
theorem uSpecNetOk (c0 c1 : Value) (m : NetM) (w : World) (h : NetIn [c0, c1] m w) : Calls Try.prog 65 #[.agg #[c0, c1]] w fun e w' => e = .returned (.bool (netOkB m)) ∧ Below w.heap.size w w' := by
  obtain ⟨a1, cap1, rfl, rfl, _, hm, r⟩ := netIn_cells h
  unfold maxLen at hm
  have R := Lib.hid r
  clear h r
  by_cases h1 : m.n < 1
  · have E := Lib.hid (netOkB_size (m := m) (by omega))
    go_enter Try.func65, Try.ntmps65
    go_wp2
    go_ret
    exact ⟨by rw [E.out]; rfl, below_box (Below.refl _ _) _⟩
  · by_cases h2 : 64 < m.n
    · have E := Lib.hid (netOkB_size (m := m) (by omega))
      go_enter Try.func65, Try.ntmps65
      go_wp2
      go_ret
      exact ⟨by rw [E.out]; rfl, below_box (Below.refl _ _) _⟩
    · by_cases hl : 2100 < m.ws.length
      · have E := Lib.hid (netOkB_long hl)
        have hl' : (2100 : Int) < (m.ws.length : Int) := by omega
        go_enter Try.func65, Try.ntmps65
        go_wp2
        go_ret
        exact ⟨by rw [E.out]; rfl, below_box (Below.refl _ _) _⟩
      · have K0 := Lib.hid (alloc_at w (.cells #[.int .i64 m.n, .slice a1 m.ws.length cap1] 36) _ rfl)
        have B0 := Lib.hid (below_box (Below.refl w.heap.size w) (.cells #[.int .i64 m.n, .slice a1 m.ws.length cap1] 36))
        go_enter Try.func65, Try.ntmps65
        go_wp2
        go_loopw [3, 4] (fun i _ wr => ∃ k : Nat, k ≤ m.ws.length ∧ i = .int .i64 k ∧ Hid (Below w.heap.size w wr ∧ wr.heap[w.heap.size]? = some (.cells #[.int .i64 m.n, .slice a1 m.ws.length cap1] 36 (0, 0)) ∧ ∀ (j : Nat) (hj : j < m.ws.length), j < k → wireB m.n m.ws[j] = true)) (fun i _ _ => m.ws.length - (intOf i).toNat)
        case atStart => exact ⟨0, Nat.zero_le _, rfl, Lib.hid ⟨B0.out, K0.out, fun j _ hj => absurd hj (by omega)⟩⟩
        case round =>
          obtain ⟨k, hk, rfl, H⟩ := hrel
          have q0 : wr.cell? ⟨w.heap.size, 0, none⟩ = some (.int .i64 m.n) := cur_cell H.out.2.1 0
          have q1 : wr.cell? ⟨w.heap.size, 1, none⟩ = some (.slice a1 m.ws.length cap1) := cur_cell H.out.2.1 1
          by_cases hlt : k < m.ws.length
          · obtain ⟨b1, o1, rfl, p0, p1⟩ := (R.out.below H.out.1).wire hlt
            have B1 := Lib.hid (below_box H.out.1 (.cells #[.int .i64 m.ws[k].a, .int .i64 m.ws[k].b] 87))
            have hbl : w.heap.size < wr.heap.size := cur_lt H.out.2.1
            have q0' : (wr.alloc (.cells #[.int .i64 m.ws[k].a, .int .i64 m.ws[k].b] 87)).cell? ⟨w.heap.size, 0, none⟩ = some (.int .i64 m.n) := cell_keep q0 (below_box (Below.refl _ _) _)
            have KN := Lib.hid ((alloc_old wr (.cells #[.int .i64 m.ws[k].a, .int .i64 m.ws[k].b] 87) w.heap.size hbl).trans H.out.2.1)
            by_cases g1 : m.ws[k].a < 0
            · have E := Lib.hid (netOkB_bad hlt (by unfold wireB; simp; omega))
              generalize m.ws[k].a = x at *
              generalize m.ws[k].b = y at *
              go_wp2
              go_ret
              exact ⟨by rw [E.out]; rfl, B1.out⟩
            · by_cases g2 : m.ws[k].b ≤ m.ws[k].a
              · have E := Lib.hid (netOkB_bad hlt (by unfold wireB; simp; omega))
                generalize m.ws[k].a = x at *
                generalize m.ws[k].b = y at *
                go_wp2
                go_ret
                exact ⟨by rw [E.out]; rfl, B1.out⟩
              · by_cases g3 : m.n ≤ m.ws[k].b
                · have E := Lib.hid (netOkB_bad hlt (by unfold wireB; simp; omega))
                  generalize m.ws[k].a = x at *
                  generalize m.ws[k].b = y at *
                  go_wp2
                  go_ret
                  exact ⟨by rw [E.out]; rfl, B1.out⟩
                · have N : Hid (∀ (j : Nat) (hj : j < m.ws.length), j < k + 1 → wireB m.n m.ws[j] = true) := Lib.hid (fun j hj hj2 => by
                    by_cases e : j = k
                    · subst e; unfold wireB; simp; omega
                    · exact H.out.2.2 j hj (by omega))
                  generalize m.ws[k].a = x at *
                  generalize m.ws[k].b = y at *
                  go_wp2
                  go_roundw
                  case rel => exact ⟨k + 1, by omega, by go_num, Lib.hid ⟨B1.out, KN.out, N.out⟩⟩
                  case measure => simp [intOf]; omega
          · have E := Lib.hid (netOkB_all (m := m) (by omega) (by omega) (by omega) (fun j hj => H.out.2.2 j hj (by omega)))
            go_wp2
            go_ret
            exact ⟨by rw [E.out]; rfl, H.out.1⟩
end Go.Proofs.Ytaedamnhobcdlaa
end

section
namespace Go.Proofs.Ytaedamnhobcdlaa
open Go.RowKit
set_option linter.unusedVariables false
set_option maxRecDepth 100000

theorem ones_ivalR (l : List Int) : ∀ v ∈ l.map ival, v.oneCell' = true := ones_ival (fun z => rfl)
theorem lit_made (w : World) (base n : Nat) (hb : base ≤ w.heap.size) (hn : n = w.heap.size) : (w.alloc (.cells #[] 3)).ownsRow base 3 1 (.slice (some ⟨n, 0, none⟩) 0 0) 0 [] := by
  subst hn
  exact World.ownsRow_made w #[] 0 hb (by unfold maxLen; omega) rfl
theorem intSOwn_mid {lo n cap : Nat} {a : Option Addr} {l : List Int} {w : World} (h : w.ownsRow lo 3 1 (.slice a n cap) n (l.map ival)) (hn : 1 ≤ n) : ∃ g, a = some ⟨g, 0, none⟩ ∧ lo ≤ g := by
  rcases h.2 with ⟨hv, h0⟩ | ⟨g, cap', cur, hv, hg, _⟩
  · omega
  · simp at hv
    exact ⟨g, hv.1, hg⟩
theorem IntSOwn.nil (lo hi : Nat) (w : World) : IntSOwn lo hi [.slice none 0 0] [] w := ⟨none, 0, rfl, ⟨rfl, .inl ⟨rfl, rfl⟩⟩, fun k hk => by simp [Value.ownBlock] at hk⟩
theorem wireRun_set {l : List Int} {t : WireM} {p q : Nat} {x y : Int} (e1 : t.a = p) (e2 : t.b = q) (hx : l[p]? = some x) (hy : l[q]? = some y) : wireRun l t = (l.set p (min x y)).set q (max x y) := by
  unfold wireRun
  rw [e1, e2]
  simp [List.getD, hx, hy]
theorem runs_map (l : List Int) (p q : Nat) (u v : Int) : (((l.map ival).set p (.int .i64 u)).set q (.int .i64 v)) = ((l.set p u).set q v).map ival := by
  rw [List.map_set, List.map_set]; rfl
/-- Two elements stored into an owned row. -/
theorem own_two {w : World} {base g n cap : Nat} {l : List Int} (h : w.ownsRow base 3 1 (.slice (some ⟨g, 0, none⟩) n cap) n (l.map ival)) (p q : Nat) (u v : Int) :
    ((w.setCell ⟨g, p, none⟩ (.int .i64 u)).setCell ⟨g, q, none⟩ (.int .i64 v)).ownsRow base 3 1 (.slice (some ⟨g, 0, none⟩) n cap) n (((l.set p u).set q v).map ival) ∧
    w.grownBy ((w.setCell ⟨g, p, none⟩ (.int .i64 u)).setCell ⟨g, q, none⟩ (.int .i64 v)) (some g) := by
  obtain ⟨h1, g1⟩ := h.stored p (.int .i64 u)
  obtain ⟨h2, g2⟩ := h1.stored q (.int .i64 v)
  rw [runs_map] at h2
  exact ⟨h2, grown_trans g1 g2⟩
/-- The state of a run between two wires: the row g, as the first k wires leave it. -/
def RunAt (W w : World) (lo g cap : Nat) (ws : List WireM) (l : List Int) (k : Nat) : Prop :=
  w.ownsRow lo 3 1 (.slice (some ⟨g, 0, none⟩) l.length cap) l.length ((runW (ws.take k) l).map ival) ∧ Below lo W w
theorem RunAt.next {W w w' : World} {lo g cap k p q : Nat} {ws : List WireM} {l : List Int} {x y : Int} (h : RunAt W w lo g cap ws l k) (hk : k < ws.length) (hb : Below w.heap.size w w') (e1 : ws[k].a = p) (e2 : ws[k].b = q)
    (hx : (runW (ws.take k) l)[p]? = some x) (hy : (runW (ws.take k) l)[q]? = some y) (hlo : lo ≤ w.heap.size) (hg : lo ≤ g) :
    RunAt W ((w'.setCell ⟨g, p, none⟩ (.int .i64 (min x y))).setCell ⟨g, q, none⟩ (.int .i64 (max x y))) lo g cap ws l (k + 1) := by
  obtain ⟨h1, h2⟩ := h
  obtain ⟨r1, r2⟩ := own_two (own_below h1 hb) p q (min x y) (max x y)
  refine ⟨?_, ?_⟩
  · rw [runW_take ws l k hk, wireRun_set e1 e2 hx hy]; exact r1
  · have hs := hb.size
    exact (h2.trans (hb.mono hlo)).grown r2 (by omega) (fun i hi => by cases hi; exact hg)
theorem RunAt.box {W w : World} {lo g cap k : Nat} {ws : List WireM} {l : List Int} (h : RunAt W w lo g cap ws l k) (hl : lo ≤ W.heap.size) (o : Obj) : RunAt W (w.alloc o) lo g cap ws l k :=
  ⟨h.1.alloc o, h.2.alloc (Nat.le_trans hl h.2.size) o⟩
theorem max_min_lt {x y : Int} (h : x < y) : min x y = x ∧ max x y = y := by omega
theorem max_min_gt {x y : Int} (h : y < x) : min x y = y ∧ max x y = x := by omega
theorem max_min_eq {x y : Int} (h : x = y) : min x y = x ∧ max x y = x := by omega
end Go.Proofs.Ytaedamnhobcdlaa
end

section
namespace Go.Proofs.Ytaedamnhobcdlaa
open Go.RowKit
set_option linter.unusedVariables false
set_option maxRecDepth 100000

def digN (k n i : Nat) : Nat := k / 2 ^ (n - 1 - i) % 2
def digitsM (k n : Nat) : List Int := (List.range n).map fun i => ((digN k n i : Nat) : Int)
theorem digitsM_length (k n : Nat) : (digitsM k n).length = n := by simp [digitsM]
def sortedB (l : List Int) : Bool := (List.range (l.length - 1)).all fun i => decide (l.getD i 0 ≤ l.getD (i + 1) 0)
theorem sortedB_true {l : List Int} : sortedB l = true ↔ ∀ i, i + 1 < l.length → l.getD i 0 ≤ l.getD (i + 1) 0 := by
  unfold sortedB
  rw [List.all_eq_true]
  constructor
  · intro h i hi
    have := h i (by simp; omega)
    simpa using this
  · intro h i hi
    have : i + 1 < l.length := by simp at hi; omega
    simpa using h i this
theorem sortedB_false {l : List Int} {i : Nat} (hi : i + 1 < l.length) (h : l.getD (i + 1) 0 < l.getD i 0) : sortedB l = false := by
  rw [Bool.eq_false_iff]
  intro hs
  have := sortedB_true.1 hs i hi
  omega
def faultAt (m : NetM) (k : Nat) : Bool := !sortedB (runW m.ws (digitsM k m.n.toNat))
def faultK (m : NetM) : Option Nat := (List.range (2 ^ m.n.toNat)).find? (faultAt m)
def provB (m : NetM) : Bool := netOkB m && decide (m.n ≤ 12)
def faultM (m : NetM) : List Int := if provB m = true then (match faultK m with | some k => digitsM k m.n.toNat | none => []) else []
def sortsB (m : NetM) : Bool := provB m && (faultK m).isNone
theorem faultK_some {m : NetM} {k : Nat} (hk : k < 2 ^ m.n.toNat) (h1 : faultAt m k = true) (h2 : ∀ j, j < k → faultAt m j = false) : faultK m = some k := by
  unfold faultK
  rw [List.find?_range_eq_some]
  exact ⟨h1, by simpa using hk, fun j hj => by simp [h2 j hj]⟩
theorem faultK_none {m : NetM} (h2 : ∀ j, j < 2 ^ m.n.toNat → faultAt m j = false) : faultK m = none := by
  unfold faultK
  rw [List.find?_range_eq_none]
  intro j hj
  simp [h2 j hj]
theorem provB_ok {m : NetM} (h : provB m = true) : ∃ n : Nat, m.n = n ∧ 1 ≤ n ∧ n ≤ 12 ∧ (∀ t ∈ m.ws, WireOk n t) ∧ m.ws.length ≤ 2100 ∧ netOkB m = true := by
  unfold provB at h
  simp only [Bool.and_eq_true, decide_eq_true_eq] at h
  obtain ⟨n, h0, h1, h2, h3, h4⟩ := netOkB_ok h.1
  exact ⟨n, h0, h1, by omega, h4, h3, h.1⟩
theorem faultM_le (m : NetM) : (faultM m).length ≤ 64 := by
  unfold faultM
  split
  · rename_i h
    obtain ⟨n, h0, h1, h2, _⟩ := provB_ok h
    split
    · rw [digitsM_length]; omega
    · simp
  · simp
theorem faultM_bd (m : NetM) : szIntS (faultM m) ≤ 1000000000000 := Nat.le_trans (faultM_le m) (by decide)

/-- The first i digits, zeros behind. -/
def digF (k n i : Nat) : Nat → Int := fun j => if j < i then ((digN k n j : Nat) : Int) else 0
theorem digF_zero (k n : Nat) : digF k n 0 = fun _ => 0 := by funext j; simp [digF]
theorem digF_succ (k n i : Nat) : upd (digF k n i) i ((digN k n i : Nat) : Int) = digF k n (i + 1) := by
  funext j
  unfold upd digF
  by_cases e : j = i
  · subst e; simp
  · rw [if_neg e]
    by_cases h : j < i
    · rw [if_pos h, if_pos (by omega)]
    · rw [if_neg h, if_neg (by omega)]
theorem digF_list (k n : Nat) : (List.range n).map (fun j => Value.int .i64 (digF k n n j)) = (digitsM k n).map ival := by
  unfold digitsM
  rw [List.map_map]
  apply List.map_congr_left
  intro j hj
  have : j < n := by simpa using hj
  simp [digF, this, ival]
theorem own_arrD {w : World} {base n g : Nat} (h : w.ownsRow base 3 1 (.slice (some ⟨g, 0, none⟩) n n) n (List.replicate n (.int .i64 0))) : ArrAt w g 3 n (fun _ => 0) := by
  rcases h.2 with ⟨hv, _⟩ | ⟨g', cap', cur, hv, hbg, hg, h1', h2, h3, h4⟩
  · simp at hv
  simp at hv
  obtain ⟨rfl, rfl⟩ := hv
  have hcur : cur.toList = List.replicate n (.int .i64 0) := by rw [← h4, List.take_of_length_le (by simp [h3])]
  unfold ArrAt
  rw [hg]
  congr 2
  apply Array.ext'
  rw [hcur]
  unfold cellsA
  apply List.ext_getElem <;> simp
theorem arrD_own {w : World} {b n base : Nat} {F : Nat → Int} (h : ArrAt w b 3 n F) (hb : base ≤ b) (hn : n ≤ maxLen) : w.ownsRow base 3 1 (.slice (some ⟨b, 0, none⟩) n n) n ((List.range n).map fun j => Value.int .i64 (F j)) := by
  refine ⟨by simp, .inr ⟨b, n, _, rfl, hb, h, Nat.le_refl _, hn, by simp [cellsA], ?_⟩⟩
  simp [cellsA, List.take_of_length_le]
theorem dig_and (k c : Nat) (hk : k < 4096) : bits .and .i64 ((k : Int) / 2 ^ c) (1 : Int) = (k : Int) / 2 ^ c % 2 := by
  rw [show (k : Int) / 2 ^ c % 2 = ((k / 2 ^ c % 2 : Nat) : Int) from by simp]
  have e : (k : Int) / 2 ^ c = ((k / 2 ^ c : Nat) : Int) := by simp
  have hlt : k / 2 ^ c < 4096 := Nat.lt_of_le_of_lt (Nat.div_le_self _ _) hk
  rw [e]
  generalize k / 2 ^ c = a at *
  have h := ofInt_u64 a (by omega)
  have h2 := ofInt_u64 1 (by omega)
  show IntKind.i64.wrap ((BitVec.ofInt 64 (a : Int) &&& BitVec.ofInt 64 ((1 : Nat) : Int)).toNat : Int) = _
  rw [BitVec.toNat_and, h, h2, Nat.and_one_is_mod]
  simp [IntKind.wrap, IntKind.bits, IntKind.signed]
  omega
end Go.Proofs.Ytaedamnhobcdlaa
end
