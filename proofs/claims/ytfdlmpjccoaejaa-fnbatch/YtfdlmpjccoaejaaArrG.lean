/- Arrays of values of one cell each as whole blocks, by their function; rows of numbers of 64 bits as such blocks. No program in it. -/
import Derived.Test.YtfdlmpjccoaejaaArr
import Derived.Test.YtfdlmpjccoaejaaU64U
import Derived.Test.YtfdlmpjccoaejaaPlQ
namespace Go.Proofs.Ytfdlmpjccoaejaa
open Go.RowKit
set_option linter.unusedVariables false

def cellsG (n : Nat) (F : Nat → Value) : Array Value := ((List.range n).map F).toArray
theorem cellsG_size (n : Nat) (F : Nat → Value) : (cellsG n F).size = n := by simp [cellsG]
theorem cellsG_at {n k : Nat} (F : Nat → Value) (h : k < n) : (cellsG n F)[k]? = some (F k) := by simp [cellsG, h]
theorem cellsG_no {n k : Nat} (F : Nat → Value) (h : n ≤ k) : (cellsG n F)[k]? = none := by simp [cellsG, h]
theorem cellsG_ext {n : Nat} {F G : Nat → Value} (h : ∀ k, k < n → F k = G k) : cellsG n F = cellsG n G := by
  unfold cellsG
  congr 1
  exact List.map_congr_left fun k hk => h k (by simpa using hk)
theorem cellsG_one {n : Nat} {F : Nat → Value} (h : ∀ k, k < n → (F k).oneCell' = true) : (cellsG n F).all (·.oneCell') = true := by
  rw [Array.all_eq_true]
  intro i hi
  rw [cellsG_size] at hi
  have := cellsG_at F hi
  rw [Array.getElem?_eq_getElem (by rw [cellsG_size]; exact hi)] at this
  rw [Option.some.inj this]; exact h i hi
def ArrG (w : World) (b : Nat) (t : TypeId) (n : Nat) (F : Nat → Value) : Prop := w.heap[b]? = some (.cells (cellsG n F) t (0, 0))
def updG (F : Nat → Value) (k : Nat) (v : Value) : Nat → Value := fun j => if j = k then v else F j
theorem cellsG_set (n : Nat) (F : Nat → Value) (k : Nat) (v : Value) : (cellsG n F).setIfInBounds k v = cellsG n (updG F k v) := by
  apply Array.ext_getElem?
  intro i
  rw [Array.getElem?_setIfInBounds]
  by_cases hi : i < n
  · rw [cellsG_at (updG F k v) hi]
    unfold updG
    by_cases e : k = i
    · subst e; rw [if_pos rfl, if_pos rfl, cellsG_size, if_pos hi]
    · rw [if_neg e, cellsG_at F hi, if_neg (fun h => e h.symm)]
  · rw [cellsG_no (updG F k v) (by omega)]
    by_cases e : k = i
    · subst e; rw [if_pos rfl, cellsG_size, if_neg hi]
    · rw [if_neg e, cellsG_no F (by omega)]
theorem ArrG.ext {w : World} {b n : Nat} {t : TypeId} {F G : Nat → Value} (h : ArrG w b t n F) (e : ∀ k, k < n → F k = G k) : ArrG w b t n G := by
  unfold ArrG at *; rw [h, cellsG_ext e]
theorem ArrG.cell {w : World} {b n : Nat} {t : TypeId} {F : Nat → Value} (h : ArrG w b t n F) {k : Nat} (hk : k < n) : w.cell? ⟨b, k, none⟩ = some (F k) := (cur_cell h k).trans (cellsG_at F hk)
theorem ArrG.free {w : World} {b n : Nat} {t : TypeId} {F : Nat → Value} (h : ArrG w b t n F) (k : Nat) : w.frozen? ⟨b, k, none⟩ = false := cur_free h k
theorem ArrG.lt {w : World} {b n : Nat} {t : TypeId} {F : Nat → Value} (h : ArrG w b t n F) : b < w.heap.size := cur_lt h
theorem ArrG.set {w : World} {b n : Nat} {t : TypeId} {F : Nat → Value} (h : ArrG w b t n F) (k : Nat) (v : Value) : ArrG (w.setCell ⟨b, k, none⟩ v) b t n (updG F k v) := by
  unfold ArrG; rw [cur_set h, cellsG_set]
theorem ArrG.kept {w w' : World} {b n : Nat} {t : TypeId} {F : Nat → Value} {row : Option Nat} (h : ArrG w b t n F) (hg : w.grownBy w' row) (hne : row ≠ some b) : ArrG w' b t n F := kept_grown h hg hne
theorem ArrG.below {w w' : World} {b n : Nat} {t : TypeId} {F : Nat → Value} (h : ArrG w b t n F) (hb : Below w.heap.size w w') : ArrG w' b t n F := kept_block h hb
theorem ArrG.low {w w' : World} {b n B : Nat} {t : TypeId} {F : Nat → Value} (h : ArrG w b t n F) (hb : Below B w w') (hlt : b < B) : ArrG w' b t n F := (hb.block b hlt).trans h
theorem ArrG.drew {w : World} {b n : Nat} {t : TypeId} {F : Nat → Value} (h : ArrG w b t n F) (m : Nat) : ArrG (w.drewN m) b t n F := h
theorem ArrG.own {w : World} {b n base : Nat} {t : TypeId} {F : Nat → Value} (h : ArrG w b t n F) (hb : base ≤ b) (hn : n ≤ maxLen) : w.ownsRow base t 1 (.slice (some ⟨b, 0, none⟩) n n) n ((List.range n).map F) := by
  refine ⟨by simp, .inr ⟨b, n, _, rfl, hb, h, Nat.le_refl _, hn, by simp [cellsG], ?_⟩⟩
  simp [cellsG, List.take_of_length_le]
theorem own_arrG {w : World} {base n g : Nat} {t : TypeId} {z : Value} (h : w.ownsRow base t 1 (.slice (some ⟨g, 0, none⟩) n n) n (List.replicate n z)) : ArrG w g t n (fun _ => z) := by
  rcases h.2 with ⟨hv, _⟩ | ⟨g', cap', cur, hv, hbg, hg, h1', h2, h3, h4⟩
  · simp at hv
  simp at hv
  obtain ⟨rfl, rfl⟩ := hv
  have hcur : cur.toList = List.replicate n z := by rw [← h4, List.take_of_length_le (by simp [h3])]
  unfold ArrG
  rw [hg]
  congr 2
  apply Array.ext'
  rw [hcur]
  unfold cellsG
  apply List.ext_getElem <;> simp
theorem wp_arrG_new {P : Program} {w : World} {ops : Array Oper} {rest : List Oper} {o : Oper} {a : Act} {Q : Exit → Act → World → Prop} (hgd : o.guard = none) (ty : TypeId) (ho : o.op = .alloc ty) (n : Nat) (F : Nat → Value)
    (hz : (P.info? ty).map (·.zero) = some (some (.agg (cellsG n F))))
    (h : ∀ w', ArrG w' w.heap.size ty n F → w.grownBy w' none → w'.heap.size = w.heap.size + 1 → wpList P ops Q rest (a.put o.dst (.pointer (some ⟨w.heap.size, 0, none⟩))) w') : wpList P ops Q (o :: rest) a w := by
  refine wpList_plain hgd fun K hK => ?_
  have hzv : (zeroValue ty).run P w = .ok (.agg (cellsG n F)) w := by
    cases hq : P.info? ty with
    | none => simp [hq] at hz
    | some i => simp [hq] at hz; simp [zeroValue, typeInfo, hq, hz]
  have hK' := hK _ _ (h (w.alloc (.cells (cellsG n F) ty)) (alloc_at w _ _ rfl) (World.grownBy_alloc w _ none) (by simp))
  unfold Oper.wp execOp
  simp only [ho]
  simp [Instr.alloc, hzv, newVar, newRow, Value.cells, Result.andThen]
  exact hK'
theorem wp_arrG_box {P : Program} {w : World} {ops : Array Oper} {rest : List Oper} {o : Oper} {a : Act} {Q : Exit → Act → World → Prop} (hgd : o.guard = none) (ty : TypeId) (x : Operand) (ho : o.op = .box ty x) (n : Nat) (F : Nat → Value)
    (hx : a.eval x = .agg (cellsG n F))
    (h : ∀ w', ArrG w' w.heap.size ty n F → w.grownBy w' none → w'.heap.size = w.heap.size + 1 → wpList P ops Q rest (a.put o.dst (.pointer (some ⟨w.heap.size, 0, none⟩))) w') : wpList P ops Q (o :: rest) a w := by
  refine wpList_plain hgd fun K hK => ?_
  have hK' := hK _ _ (h (w.alloc (.cells (cellsG n F) ty)) (alloc_at w _ _ rfl) (World.grownBy_alloc w _ none) (by simp))
  unfold Oper.wp execOp
  simp only [ho, hx]
  simp [Instr.box, newVar, newRow, Value.cells, Result.andThen]
  exact hK'
theorem wp_arrG_load {P : Program} {w : World} {ops : Array Oper} {rest : List Oper} {o : Oper} {a : Act} {Q : Exit → Act → World → Prop} (hgd : o.guard = none) (ty : TypeId) (x : Operand) (ho : o.op = .load ty x) (d : TypeDesc) (b n : Nat) (t : TypeId) (F : Nat → Value)
    (hu : P.underlying ty = some d) (hd : (match d with | .struct _ | .array _ _ => true | _ => false) = true) (hi : (P.info? ty).map (·.size) = some n)
    (hx : a.eval x = .pointer (some ⟨b, 0, none⟩)) (ha : ArrG w b t n F) (h : wpList P ops Q rest (a.put o.dst (.agg (cellsG n F))) w) : wpList P ops Q (o :: rest) a w :=
  wpList_load_row hgd ty x ho b hx t _ (0, 0) d ha hu hd (by rw [cellsG_size]; exact hi) h
theorem wp_arrG_store {P : Program} {w : World} {ops : Array Oper} {rest : List Oper} {o : Oper} {a : Act} {Q : Exit → Act → World → Prop} (hgd : o.guard = none) (ty : TypeId) (x y : Operand) (ho : o.op = .store ty x y) (b n : Nat) (t : TypeId) (F G : Nat → Value)
    (hi : (P.info? ty).map (·.size) = some n) (hG : ∀ k, k < n → (G k).oneCell' = true) (hx : a.eval x = .pointer (some ⟨b, 0, none⟩)) (hy : a.eval y = .agg (cellsG n G)) (ha : ArrG w b t n F)
    (h : ∀ w', ArrG w' b t n G → w.grownBy w' (some b) → w'.heap.size = w.heap.size → wpList P ops Q rest (a.put o.dst undef) w') : wpList P ops Q (o :: rest) a w := by
  refine wpList_store_row hgd ty x y ho b (cellsG n G) hx hy t _ ha (by rw [cellsG_size]; exact hi) (by rw [cellsG_size, cellsG_size]) (cellsG_one hG) ?_
  exact h _ (setRow_heap w b _ _ t _ ha) ⟨rfl, rfl, rfl, by simp, fun k _ hk => setRow_other w b k _ (by intro e; subst e; exact hk rfl)⟩ (by simp)
theorem ret_arrG {P : Program} {fn : Func} {R : Ending → World → Prop} {a : Act} {w : World} {p : Tmp} {ty t : TypeId} {d : TypeDesc} {b n : Nat} {F : Nat → Value} (hr : fn.results = #[.cell p ty]) (hd : a.defers = []) (hp : a.tmps.getD p undef = .pointer (some ⟨b, 0, none⟩))
    (ha : ArrG w b t n F) (hu : P.underlying ty = some d) (hdd : (match d with | .struct _ | .array _ _ => true | _ => false) = true) (hi : (P.info? ty).map (·.size) = some n) (hR : R (.returned (.agg (cellsG n F))) w) : bodyPost P fn R .ret a w :=
  bodyPost_ret (results_cell_row hr a.tmps w b t _ (0, 0) d hp ha hu hdd (by rw [cellsG_size]; exact hi)) hd hR

/- Numbers of 64 bits. -/
def uF (F : Nat → Nat) : Nat → Value := fun i => .int .u64 ((F i : Nat) : Int)
theorem uF_list (n : Nat) (F : Nat → Nat) : (List.range n).map (uF F) = (listN n F).map uval := by simp [listN, uF, uval]
/-- A whole block of n numbers. -/
def ArrU (w : World) (b : Nat) (t : TypeId) (n : Nat) (F : Nat → Nat) : Prop := ArrG w b t n (uF F)
def updN (F : Nat → Nat) (k v : Nat) : Nat → Nat := fun j => if j = k then v else F j
theorem updN_same (F : Nat → Nat) (k v : Nat) : updN F k v k = v := by unfold updN; rw [if_pos rfl]
theorem updN_other (F : Nat → Nat) {k j : Nat} (v : Nat) (h : j ≠ k) : updN F k v j = F j := by unfold updN; rw [if_neg h]
theorem ArrU.cell {w : World} {b n : Nat} {t : TypeId} {F : Nat → Nat} (h : ArrU w b t n F) {k : Nat} (hk : k < n) : w.cell? ⟨b, k, none⟩ = some (.int .u64 ((F k : Nat) : Int)) := ArrG.cell h hk
theorem ArrU.free {w : World} {b n : Nat} {t : TypeId} {F : Nat → Nat} (h : ArrU w b t n F) (k : Nat) : w.frozen? ⟨b, k, none⟩ = false := ArrG.free h k
theorem ArrU.ext {w : World} {b n : Nat} {t : TypeId} {F G : Nat → Nat} (h : ArrU w b t n F) (e : ∀ k, k < n → F k = G k) : ArrU w b t n G := ArrG.ext h fun k hk => by unfold uF; rw [e k hk]
theorem ArrU.set {w : World} {b n : Nat} {t : TypeId} {F : Nat → Nat} (h : ArrU w b t n F) (k v : Nat) : ArrU (w.setCell ⟨b, k, none⟩ (.int .u64 ((v : Nat) : Int))) b t n (updN F k v) :=
  (ArrG.set h k _).ext fun j hj => by unfold updG uF updN; split <;> rfl
theorem ArrU.drew {w : World} {b n : Nat} {t : TypeId} {F : Nat → Nat} (h : ArrU w b t n F) (m : Nat) : ArrU (w.drewN m) b t n F := h
theorem ArrU.below {w w' : World} {b n : Nat} {t : TypeId} {F : Nat → Nat} (h : ArrU w b t n F) (hb : Below w.heap.size w w') : ArrU w' b t n F := kept_block h hb
theorem ArrU.mk {w : World} {b n base : Nat} {F : Nat → Nat} {l : List Nat} (h : ArrU w b 43 n F) (hb : base ≤ b) (hn : n ≤ maxLen) (hl : l = listN n F) : Uint64SOwn base w.heap.size [.slice (some ⟨b, 0, none⟩) n n] l w := by
  have := ArrG.own h hb hn
  rw [uF_list] at this
  subst hl
  exact Uint64SOwn.mk this
theorem nil_own (lo hi : Nat) (w : World) : Uint64SOwn lo hi [.slice none 0 0] [] w := ⟨none, 0, rfl, ⟨rfl, .inl ⟨rfl, rfl⟩⟩, fun k hk => by simp [Value.ownBlock] at hk⟩
/-- A row read at a place. -/
theorem in_at {c : Value} {l : List Nat} {w : World} (h : Uint64SIn [c] l w) {i : Nat} (hi : i < l.length) : ∃ b off cap, c = .slice (some ⟨b, off, none⟩) l.length cap ∧ w.cell? ⟨b, off + i, none⟩ = some (.int .u64 ((l.getD i 0 : Nat) : Int)) := by
  obtain ⟨a, cap, rfl, _, _, hr⟩ := uint64SIn_shape h
  obtain ⟨b, off, rfl, q⟩ := hr.at (i := i) (by simpa using hi)
  refine ⟨b, off, cap, rfl, q.trans ?_⟩
  simp [hi, uval]
theorem Uint64SIn.below {c : Value} {l : List Nat} {w w' : World} (h : Uint64SIn [c] l w) (hb : Below w.heap.size w w') : Uint64SIn [c] l w' := (h.lies.below hb).now
def bd64 (l : List Nat) : Prop := ∀ x ∈ l, x < 18446744073709551616
theorem bd64.at {l : List Nat} (h : bd64 l) (i : Nat) : l.getD i 0 < 18446744073709551616 := getD_lt (by omega) h i
end Go.Proofs.Ytfdlmpjccoaejaa
