/- Copy, AppK in one. Written by tools/join2.py. -/
import Derived.Test.YtmkgddbdkpkgpaaJS1
import Derived.Laws.CopyRow
import Derived.Laws.IdiomCopy
import Derived.Test.YtmkgddbdkpkgpaaJS4
import Derived.Test.YtmkgddbdkpkgpaaJS3
section
namespace Go.Proofs.Ytmkgddbdkpkgpaa
open Go.RowKit
set_option linter.unusedVariables false

theorem copy_slice {P : Program} {w : World} {base g n : Nat} {dT sT e : TypeId} {xs : List Value} (hu : P.underlying dT = some (.slice e)) (hsz : (P.info? e).map (·.size) = some 1)
    (h : w.ownsRow base e 1 (.slice (some ⟨g, 0, none⟩) n n) n xs) (sa : Option Addr) (sLen sCap : Nat) (ys : List Value) (hy : ys.length = Nat.min sLen n) (hr : Row w sa ys) (h1 : ∀ v ∈ ys, v.oneCell' = true) :
    ∃ w', (∀ ty, (Builtin.copy_ #[dT, sT] ty #[.slice (some ⟨g, 0, none⟩) n n, .slice sa sLen sCap]).run P w = .ok (goInt ys.length) w') ∧
      w'.ownsRow base e 1 (.slice (some ⟨g, 0, none⟩) n n) n (ys ++ xs.drop ys.length) ∧ w.grownBy w' (some g) := by
  rcases hr with rfl | ⟨b, off, rfl, hc⟩
  · refine ⟨w, fun ty => ?_, by simpa using h, World.grownBy.refl _ _⟩
    exact run_copy_none w dT sT ty e _ _ _ _ _ _ hu hsz (by simpa using hy.symm)
  obtain ⟨hx, hr⟩ := h
  rcases hr with ⟨hv, _⟩ | ⟨g', cap', cur, hv, hbg, hg, h1', h2, h3, h4⟩
  · simp at hv
  simp at hv
  obtain ⟨rfl, rfl⟩ := hv
  have hcur : cur.toList = xs := by rw [← h4, List.take_of_length_le (by simp [h3])]
  have hsz' : cur.size = n := by simpa using h3
  have hle : ys.length ≤ n := by rw [hy]; exact Nat.min_le_right _ _
  have hx' : xs.length = n := by simpa using hx
  refine ⟨_, fun ty => run_copy_row P w dT sT ty e g 0 n n ⟨b, off, none⟩ sLen sCap cur e ys hu hsz hg hy (fun j v hj => ?_) (by omega) h1, ?_, ?_⟩
  · have hjl : j < ys.length := by
      rcases Nat.lt_or_ge j ys.length with h | h
      · exact h
      · rw [List.getElem?_eq_none h] at hj; cases hj
    have ea : (⟨b, off, none⟩ : Addr).add j = ⟨b, off + j, none⟩ := by simp [Addr.add]
    rw [ea, hc j hjl, hj]
  · refine ⟨?_, .inr ⟨g, n, _, rfl, hbg, setRow_heap w g cur _ _ _ hg, h1', h2, ?_, ?_⟩⟩
    · simp; omega
    · rw [hcur]; simp; omega
    · rw [hcur, List.take_of_length_le (by simp; omega)]
      simp
  · exact ⟨rfl, rfl, rfl, by simp, fun k _ hk => setRow_other w g k _ (by intro e; subst e; exact hk rfl)⟩
/-- A part of a row. -/
theorem Row.cut {w : World} {b off : Nat} {xs : List Value} (h : Row w (some ⟨b, off, none⟩) xs) (k n : Nat) (hk : k + n ≤ xs.length) : Row w (some ⟨b, off + k, none⟩) ((xs.drop k).take n) := by
  by_cases h0 : xs = []
  · left; rw [h0]; simp
  rcases h with h | ⟨b', off', he, hc⟩
  · exact absurd h h0
  simp at he
  obtain ⟨rfl, rfl⟩ := he
  refine .inr ⟨b, off + k, rfl, fun i hi => ?_⟩
  have hi' : i < n := by rw [List.length_take] at hi; omega
  rw [Nat.add_assoc, hc (k + i) (by omega), List.getElem?_take_of_lt hi', List.getElem?_drop]
theorem ones_ival {l : List Int} {f : Int → Value} (hf : ∀ z, (f z).oneCell' = true) : ∀ v ∈ l.map f, v.oneCell' = true := by
  intro v hv
  obtain ⟨z, _, rfl⟩ := List.mem_map.1 hv
  exact hf z
theorem ones_cut {l : List Int} {f : Int → Value} {k n : Nat} (hf : ∀ z, (f z).oneCell' = true) : ∀ v ∈ ((l.map f).drop k).take n, v.oneCell' = true := by
  intro v hv
  exact ones_ival hf v (List.mem_of_mem_drop (List.mem_of_mem_take hv))
/-- A copy whose run is known, as one step of a region that draws its order. -/
theorem step_copy_run {P : Program} {ops : Array Oper} {o : Oper} {a : Act} {w : World} {K : Act → World → Prop} {Q : Exit → Act → World → Prop} {E : Prop} (hgd : o.guard = none) (d s : Operand) (dT sT : TypeId)
    (ho : o.op = .call { callee := .builtin .copy, args := #[d, s], argTypes := #[dT, sT] }) (dv sv v : Value) (w' : World) (hd : a.eval d = dv) (hs : a.eval s = sv)
    (hrun : ∀ ty, (Builtin.copy_ #[dT, sT] ty #[dv, sv]).run P w = .ok v w') (h : K (a.put o.dst v) w') : if Region.wanted o (yielded ops a.tmps) = true then Oper.wp P o a w K Q else E := by
  have hw : Region.wanted o (yielded ops a.tmps) = true := by simp [Region.wanted, hgd]
  rw [if_pos hw]
  unfold Oper.wp
  simp [execOp, ho, resolve, invoke, builtin, hd, hs, hrun, Result.andThen]
  exact h
end Go.Proofs.Ytmkgddbdkpkgpaa
end

section
namespace Go.Proofs.Ytmkgddbdkpkgpaa
open Go.RowKit
set_option linter.unusedVariables false

theorem app_noneS {P : Program} (w : World) (t ty e : TypeId) (i : TypeInfo) (ht : P.underlying t = some (.slice e)) (hi : P.info? e = some i) {s base n : Nat} {v : Value} {xs : List Value} (hown : w.ownsRow base e s v n xs) (c : Nat) :
    (Builtin.append_ #[t, t] ty #[v, .slice none 0 c]).run P w = .ok v w := by
  rcases hown.2 with ⟨rfl, rfl⟩ | ⟨g, cap, cur, rfl, _, _, hle, _⟩
  all_goals simp [Builtin.append_, Builtin.lenOf, Builtin.firstCells, run_underlying ht, typeInfo, sizeOf, hi]
  simp [hle, storeCells]
/-- Where a row lies behind an append: in its old block, or in one that is new. -/
theorem app_rowS {P : Program} (w : World) (t ty e : TypeId) (z : Value) (s bytes : Nat) (ht : P.underlying t = some (.slice e)) (hinfo : (P.info? e).map (fun i => (i.zero, i.size, i.bytes)) = some (some z, s, bytes)) (hzs : z.cells.size = s) (hs0 : 0 < s)
    {base n : Nat} {v : Value} {xs : List Value} (hown : w.ownsRow base e s v n xs) (A : Option Addr) (m c : Nat) (news : List Value) (hm : news.length = m * s) (hr : Row w A news) (h1 : ∀ u ∈ news, u.oneCell' = true)
    (h63 : n + m ≤ maxLen) (hbytes : (n + m) * bytes ≤ 140737488355328) (hbase : base ≤ w.heap.size) :
    ∃ v' w', (Builtin.append_ #[t, t] ty #[v, .slice A m c]).run P w = .ok v' w' ∧ w'.ownsRow base e s v' (n + m) (xs ++ news) ∧ w.grownBy w' v.ownBlock := by
  obtain ⟨i0, hi, hz0, hz1, hz2⟩ := info_parts hinfo
  rcases A with _ | ad
  · rcases hr with rfl | ⟨b, off, hb, _⟩
    · have hm0 : m = 0 := by
        rcases Nat.eq_zero_or_pos m with h | h
        · exact h
        · have := Nat.mul_pos h hs0; simp at hm; omega
      subst hm0
      exact ⟨v, w, app_noneS w t ty e i0 ht hi hown c, by simpa using hown, World.grownBy.refl _ _⟩
    · cases hb
  · have hc : ∀ j u, news[j]? = some u → w.cell? (ad.add j) = some u := by
      rcases hr with rfl | ⟨b, off, hb, hc⟩
      · intro j u hj; simp at hj
      · cases hb
        exact row_cells (.inr ⟨b, off, rfl, hc⟩)
    obtain ⟨v', w', hrun, h2, h3, _⟩ := run_append_own (P := P) w base t ty e i0 z s bytes ht hi hz0 hz1 hz2 hzs hs0 v n xs hown ad m c news hm hc h1 h63 hbytes hbase
    exact ⟨v', w', hrun, h2, h3⟩
theorem wp_app_rowS {P : Program} {w : World} {ops : Array Oper} {rest : List Oper} {o : Oper} {a : Act} {Q : Exit → Act → World → Prop} (hgd : o.guard = none) (sl x : Operand) (t : TypeId)
    (ho : o.op = Op.call { callee := Callee.builtin Builtin.append, args := #[sl, x], argTypes := #[t, t] }) (e : TypeId) (z : Value) (s bytes : Nat) (ht : P.underlying t = some (.slice e))
    (hinfo : (P.info? e).map (fun i => (i.zero, i.size, i.bytes)) = some (some z, s, bytes)) (hzs : z.cells.size = s) (hs0 : 0 < s) (base n : Nat) (v : Value) (xs : List Value) (hs : a.eval sl = v) (hown : w.ownsRow base e s v n xs)
    (A : Option Addr) (m c : Nat) (news : List Value) (hx : a.eval x = .slice A m c) (hm : news.length = m * s) (hr : Row w A news) (h1 : ∀ u ∈ news, u.oneCell' = true)
    (h63 : n + m ≤ maxLen) (hbytes : (n + m) * bytes ≤ 140737488355328) (hbase : base ≤ w.heap.size)
    (h : ∀ v' w', w'.ownsRow base e s v' (n + m) (xs ++ news) → w.grownBy w' v.ownBlock → wpList P ops Q rest (a.put o.dst v') w') : wpList P ops Q (o :: rest) a w := by
  refine wpList_plain hgd fun K hK => ?_
  obtain ⟨v', w', hrun, h2, h3⟩ := app_rowS (P := P) w t o.type e z s bytes ht hinfo hzs hs0 hown A m c news hm hr h1 h63 hbytes hbase
  unfold Oper.wp
  simp [execOp, ho, resolve, invoke, builtin, hs, hx, hrun, Result.andThen]
  exact hK _ _ (h v' w' h2 h3)
theorem step_app_rowS {P : Program} {ops : Array Oper} {o : Oper} {a : Act} {w : World} {K : Act → World → Prop} {Q : Exit → Act → World → Prop} {E : Prop} (hgd : o.guard = none) (sl x : Operand) (t : TypeId)
    (ho : o.op = Op.call { callee := Callee.builtin Builtin.append, args := #[sl, x], argTypes := #[t, t] }) (e : TypeId) (z : Value) (s bytes : Nat) (ht : P.underlying t = some (.slice e))
    (hinfo : (P.info? e).map (fun i => (i.zero, i.size, i.bytes)) = some (some z, s, bytes)) (hzs : z.cells.size = s) (hs0 : 0 < s) (base n : Nat) (v : Value) (xs : List Value) (hs : a.eval sl = v) (hown : w.ownsRow base e s v n xs)
    (A : Option Addr) (m c : Nat) (news : List Value) (hx : a.eval x = .slice A m c) (hm : news.length = m * s) (hr : Row w A news) (h1 : ∀ u ∈ news, u.oneCell' = true)
    (h63 : n + m ≤ maxLen) (hbytes : (n + m) * bytes ≤ 140737488355328) (hbase : base ≤ w.heap.size)
    (h : ∀ v' w', w'.ownsRow base e s v' (n + m) (xs ++ news) → w.grownBy w' v.ownBlock → K (a.put o.dst v') w') :
    if Region.wanted o (yielded ops a.tmps) = true then Oper.wp P o a w K Q else E := by
  have hw : Region.wanted o (yielded ops a.tmps) = true := by simp [Region.wanted, hgd]
  rw [if_pos hw]
  obtain ⟨v', w', hrun, h2, h3⟩ := app_rowS (P := P) w t o.type e z s bytes ht hinfo hzs hs0 hown A m c news hm hr h1 h63 hbytes hbase
  unfold Oper.wp
  simp [execOp, ho, resolve, invoke, builtin, hs, hx, hrun, Result.andThen]
  exact h v' w' h2 h3
/-- 'copy(dst, src)' into a whole row, elements of s cells. -/
theorem copy_sliceS {P : Program} {w : World} {s base g n : Nat} {dT sT e : TypeId} {xs : List Value} (hu : P.underlying dT = some (.slice e)) (hsz : (P.info? e).map (·.size) = some s)
    (h : w.ownsRow base e s (.slice (some ⟨g, 0, none⟩) n n) n xs) (sa : Option Addr) (sCap : Nat) (ys : List Value) (hy : ys.length = n * s) (hr : Row w sa ys) (h1 : ∀ v ∈ ys, v.oneCell' = true) (hs0 : 0 < s) :
    ∃ w', (∀ ty, (Builtin.copy_ #[dT, sT] ty #[.slice (some ⟨g, 0, none⟩) n n, .slice sa n sCap]).run P w = .ok (goInt n) w') ∧
      w'.ownsRow base e s (.slice (some ⟨g, 0, none⟩) n n) n ys ∧ w.grownBy w' (some g) := by
  obtain ⟨i, hq, hi⟩ := Option.map_eq_some_iff.1 hsz
  by_cases hn : n = 0
  · subst hn
    have hy0 : ys = [] := List.eq_nil_of_length_eq_zero (by simpa using hy)
    have hx0 : xs = [] := List.eq_nil_of_length_eq_zero (by simpa using h.1)
    subst hy0 hx0
    refine ⟨w, fun ty => ?_, h, World.grownBy.refl _ _⟩
    have hl : ∀ (x : Addr), (loadCells x 0).run P w = .ok #[] w := fun x => by simpa using run_loadCells_list (P := P) w x [] (by simp)
    cases sa <;> simp [Builtin.copy_, run_underlying hu, Builtin.lenOf, Builtin.firstCells, sizeOf, typeInfo, hq, storeCells, hl]
  have hpos : 0 < ys.length := by rw [hy]; exact Nat.mul_pos (by omega) hs0
  rcases hr with rfl | ⟨b, off, rfl, hc⟩
  · simp at hpos
  obtain ⟨hx, hr⟩ := h
  rcases hr with ⟨hv, _⟩ | ⟨g', cap', cur, hv, hbg, hg, h1', h2, h3, h4⟩
  · simp at hv
  simp at hv
  obtain ⟨rfl, rfl⟩ := hv
  have hl := run_loadCells_list (P := P) w ⟨b, off, none⟩ ys (row_cells (.inr ⟨b, off, rfl, hc⟩))
  have hst := run_storeCells_at P g 0 e ys 0 cur w hg (by rw [h3]; omega) h1
  have hfull : (cur.toList.take (0 + 0) ++ ys ++ cur.toList.drop (0 + 0 + ys.length)) = ys := by
    rw [List.drop_eq_nil_of_le (by simp; omega)]; simp
  rw [hfull] at hst
  refine ⟨w.setRow g ys.toArray, fun ty => ?_, ⟨hy, .inr ⟨g, n, _, rfl, hbg, setRow_heap w g cur _ _ _ hg, Nat.le_refl _, h2, by simpa using hy, by rw [List.take_of_length_le (by simp; omega)]⟩⟩, ?_⟩
  · subst hi
    simp [Builtin.copy_, run_underlying hu, Builtin.lenOf, Builtin.firstCells, sizeOf, typeInfo, hq, ← hy, hl, hst]
  · exact ⟨rfl, rfl, rfl, by simp, fun k _ hk => setRow_other w g k _ (by intro e; subst e; exact hk rfl)⟩
/-- Only blocks whose elements are of type T have turned. -/
def Turned (T : TypeId) (w w' : World) : Prop := ∀ (k : Nat) (cs : Array Value) (t : TypeId) (fr : Nat × Nat), w.heap[k]? = some (.cells cs t fr) → t ≠ T → w'.heap[k]? = some (.cells cs t fr)
theorem Turned.refl (T : TypeId) (w : World) : Turned T w w := fun _ _ _ _ h _ => h
theorem Turned.trans {T : TypeId} {w w1 w2 : World} (h : Turned T w w1) (k : Turned T w1 w2) : Turned T w w2 := fun i cs t fr hi hn => k i cs t fr (h i cs t fr hi hn) hn
theorem Turned.below {T : TypeId} {w w' : World} (h : Below w.heap.size w w') : Turned T w w' := fun i cs t fr hi _ => kept_block hi h
/-- Marked, stored, appended to a row of elements of type T. -/
theorem Turned.own {s base n : Nat} {e : TypeId} {v : Value} {xs : List Value} {w w' : World} (h : w.ownsRow base e s v n xs) (hg : w.grownBy w' v.ownBlock) : Turned e w w' := by
  intro k cs t fr hk hn
  exact kept_grown hk hg (own_other h hk hn)
theorem own_turned {s base n : Nat} {e T : TypeId} {v : Value} {xs : List Value} {w w' : World} (h : w.ownsRow base e s v n xs) (ht : Turned T w w') (hn : e ≠ T) : w'.ownsRow base e s v n xs := by
  refine ⟨h.1, ?_⟩
  rcases h.2 with h2 | ⟨g, cap, cur, rfl, hg, hb, r⟩
  · exact .inl h2
  · exact .inr ⟨g, cap, cur, rfl, hg, ht g cur e _ hb hn, r⟩
theorem cells_lt {w : World} {v : Value} {k s base n : Nat} {e : TypeId} {xs : List Value} (h : w.ownsRow base e s v n xs) (hk : v.ownBlock = some k) : k < w.heap.size := (h.lt k hk).2
theorem turned_set {w : World} {b i : Nat} {cs : Array Value} {T : TypeId} {fr : Nat × Nat} (h : w.heap[b]? = some (.cells cs T fr)) (v : Value) : Turned T w (w.setCell ⟨b, i, none⟩ v) := by
  intro k cs' t fr' hk hn
  refine (Below.heap_setCell _ _ _ k ?_).trans hk
  intro e
  simp at e
  subst e
  rw [h] at hk
  simp at hk
  exact hn hk.2.1.symm
/-- A literal as a row. -/
theorem lit_rowB (w : World) (xs : List Value) (t : TypeId) : Row (w.alloc (.cells ⟨xs⟩ t)) (some ⟨w.heap.size, 0, none⟩) xs := by
  by_cases h : xs = []
  · exact .inl h
  · refine .inr ⟨w.heap.size, 0, rfl, fun i hi => ?_⟩
    simp
end Go.Proofs.Ytmkgddbdkpkgpaa
end
