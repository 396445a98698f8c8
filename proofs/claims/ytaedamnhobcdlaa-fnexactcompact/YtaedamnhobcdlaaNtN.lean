/- A plan's net, made once: the function that sync.Once calls. -/
import Derived.Test.YtaedamnhobcdlaaNtW
import Derived.Test.YtaedamnhobcdlaaAppK
import Derived.Test.YtaedamnhobcdlaaNtT
namespace Go.Proofs.Ytaedamnhobcdlaa
open Go.RowKit Go.Shelf
set_option linter.unusedVariables false
set_option linter.unusedSimpArgs false
set_option maxRecDepth 100000
attribute [local go_sem] Oper.semAt_some

/-- The cells of a plan: its size, its steps, the three of sync.Once, the net. -/
def planC (n : Nat) (sv : Value) (dn st se : Int) (z : Int) (v : Value) : Array Value := #[.int .i64 n, sv, .int .u32 dn, .int .i32 st, .int .u32 se, .int .i64 z, v]
/-- Behind k rounds: the plan in block pb holds a row of the first k wires; all that lay ahead of w lies as it lay, the plan apart. -/
def PlanAt (w : World) (pb n : Nat) (sv : Value) (dn st se : Int) (ws : List WireM) (k : Nat) (W : World) : Prop :=
  ∃ a cap, W.heap[pb]? = some (.cells (planC n sv dn st se n (.slice a k cap)) 113 (0, 0)) ∧ W.ownsRow w.heap.size 87 2 (.slice a k cap) k (flatW (ws.take k)) ∧ w.grownBy W (some pb)
theorem PlanAt.alloc {w W : World} {pb n k : Nat} {sv : Value} {dn st se : Int} {ws : List WireM} (h : PlanAt w pb n sv dn st se ws k W) (o : Obj) : PlanAt w pb n sv dn st se ws k (W.alloc o) := by
  obtain ⟨a, cap, h1, h2, h3⟩ := h
  exact ⟨a, cap, (alloc_old _ _ _ (cur_lt h1)).trans h1, h2.alloc o, grown_trans h3 (World.grownBy_alloc W o (some pb))⟩
theorem PlanAt.drew {w W : World} {pb n k : Nat} {sv : Value} {dn st se : Int} {ws : List WireM} (h : PlanAt w pb n sv dn st se ws k W) (j : Nat) : PlanAt w pb n sv dn st se ws k (W.drewN j) := by
  obtain ⟨a, cap, h1, h2, h3⟩ := h
  exact ⟨a, cap, h1, own_below h2 (belowN j), grown_trans h3 (drewN_grown W j (some pb))⟩
theorem PlanAt.put {w W : World} {pb n k r : Nat} {sv : Value} {dn st se : Int} {ws : List WireM} {o : Obj} (h : PlanAt w pb n sv dn st se ws k W) (hr : w.heap.size ≤ r) (ho : W.heap[r]? = some o) (hc : o.isCells = false) (o' : Obj) : PlanAt w pb n sv dn st se ws k (W.putObj r o') := by
  obtain ⟨a, cap, h1, h2, h3⟩ := h
  refine ⟨a, cap, (World.putObj_heap_other (fun e => ?_)).trans h1, ownsRow_putObj h2 o' ho hc, ⟨h3.os, h3.tape, h3.output, by have := h3.size; simpa using this, fun k hk hn => ?_⟩⟩
  · subst e; rw [h1] at ho; cases ho; cases hc
  · exact (World.putObj_heap_other (by omega)).trans (h3.block k hk hn)
/-- An append whose run is known, as one step of a region that draws its order. -/
theorem step_app_runS {P : Program} {ops : Array Oper} {o : Oper} {a : Act} {w : World} {K : Act → World → Prop} {Q : Exit → Act → World → Prop} {E : Prop} (hgd : o.guard = none) (sl x : Operand) (t ty : TypeId)
    (ho : o.op = Op.call { callee := Callee.builtin Builtin.append, args := #[sl, x], argTypes := #[t, t] } ∧ o.type = ty) (vs vx : Value) (hs : a.eval sl = vs) (hx : a.eval x = vx) (v' : Value) (w' : World)
    (hrun : (Builtin.append_ #[t, t] ty #[vs, vx]).run P w = .ok v' w') (h : K (a.put o.dst v') w') : if Region.wanted o (yielded ops a.tmps) = true then Oper.wp P o a w K Q else E := by
  have hw : Region.wanted o (yielded ops a.tmps) = true := by simp [Region.wanted, hgd]
  rw [if_pos hw]
  obtain ⟨ho, rfl⟩ := ho
  unfold Oper.wp
  simp [execOp, ho, resolve, invoke, builtin, hs, hx, hrun, Result.andThen]
  exact h
set_option maxHeartbeats 4000000 in
theorem net1C (m xb pb Bn n sf : Nat) (caps : Array Value) (σs : List (Nat → Nat)) (dn st se : Int) (w : World) (h64 : n ≤ 64) (hsf : ∀ args w, (callFunc sf args).run Try.prog w = .ok (.enter sf args) w)
    (hst : ∀ (m l B : Nat) (I : Nat → World → Prop) (Kp : World → World → Prop) (W : World), (∀ k W1, I k W1 → W1.cell? ⟨Bn, 0, none⟩ = some (.int .i64 n)) → SeqAll Try.prog m sf #[] caps σs.length l B I (StepV σs) Kp W)
    (hlen : (allW n σs).length ≤ 4096)
    (hx : w.heap[xb]? = some (.cells #[.pointer (some ⟨pb, 0, none⟩)] 99 (0, 0))) (hB : w.heap[Bn]? = some (.cells #[.int .i64 n] 3 (0, 0)))
    (hp : w.heap[pb]? = some (.cells (planC n (.func (.func sf) #[] caps) dn st se 0 (.slice none 0 0)) 113 (0, 0))) :
    CallsIn Fence.wide m Try.prog 98 #[.pointer (some ⟨xb, 0, none⟩)] w fun e w' => (∃ v, e = .returned v) ∧ PlanAt w pb n (.func (.func sf) #[] caps) dn st se (allW n σs) (allW n σs).length w' := by
  have hxp : xb ≠ pb := fun e => by subst e; rw [hx] at hp; cases hp
  have hBp : Bn ≠ pb := fun e => by subst e; rw [hB] at hp; cases hp
  have x0 : w.cell? ⟨xb, 0, none⟩ = some (.pointer (some ⟨pb, 0, none⟩)) := cur_cell hx 0
  have p0 : w.cell? ⟨pb, 0, none⟩ = some (.int .i64 n) := cur_cell hp 0
  have p5 : w.cell? ⟨pb, 5, none⟩ = some (.int .i64 0) := cur_cell hp 5
  have f5 := cur_free hp 5
  have hm : Try.prog.follows .mixedOrders = true := by kernel_rfl
  refine callsIn_of_wp_marks Try.func98 rfl trivial ?_
  simp only [Try.ntmps98, List.size_toArray, List.length_cons, List.length_nil, Nat.reduceAdd, Nat.reduceSub, Array.replicate_succ, Array.replicate_zero, List.push_toArray, List.append_toArray, List.nil_append, List.cons_append]
  gi_wp2
  refine wpIn_wide.2 ?_
  go_region
  obtain ⟨W2, hW2⟩ : ∃ W2, W2 = (w.setCell ⟨pb, 5, none⟩ (.int .i64 n)).drew := ⟨_, rfl⟩
  have s2 : W2.heap.size = w.heap.size := by rw [hW2, size_drew]; simp
  have P0 : PlanAt w pb n (.func (.func sf) #[] caps) dn st se (allW n σs) 0 W2 := by
    rw [hW2]
    have h1 := cur_set hp 5 (.int .i64 n)
    exact PlanAt.drew ⟨none, 0, h1, ⟨rfl, .inl ⟨rfl, rfl⟩⟩, set_grown _ _ _ _⟩ 1
  have x2 : W2.cell? ⟨xb, 0, none⟩ = some (.pointer (some ⟨pb, 0, none⟩)) := by rw [hW2]; exact cell_set x0 (by omega)
  rw [← hW2]
  clear hW2 p0 p5 f5 x0
  generalize hws : allW n σs = ws at *
  have hxk : ∀ k W, PlanAt w pb n (.func (.func sf) #[] caps) dn st se ws k W → W.heap[xb]? = some (.cells #[.pointer (some ⟨pb, 0, none⟩)] 99 (0, 0)) := fun k W h => by
    obtain ⟨a, cap, _, _, h3⟩ := h
    exact (h3.block xb (cur_lt hx) (by simp; omega)).trans hx
  have hBk : ∀ k W, PlanAt w pb n (.func (.func sf) #[] caps) dn st se ws k W → W.heap[Bn]? = some (.cells #[.int .i64 n] 3 (0, 0)) := fun k W h => by
    obtain ⟨a, cap, _, _, h3⟩ := h
    exact (h3.block Bn (cur_lt hB) (by simp; omega)).trans hB
  gi_wp2
  refine range_all (w := W2) (gf := 99) (first := #[.pointer (some ⟨pb, 0, none⟩)]) (lb := #[]) rfl Try.call99 ws.length rfl
    (PlanAt w pb n (.func (.func sf) #[] caps) dn st se ws) (fun k W o h => h.alloc o) (fun k W j h => h.drew j) (fun k W r o o' h hr ho hc => h.put (by omega) ho hc o')
    (WireV ws) Kpo (fun l A B C h k => h.trans k) (fun l W r r' h k o hk e _ => (World.putObj_heap_other hk).trans e) P0
    (fun k a' W => PlanAt w pb n (.func (.func sf) #[] caps) dn st se ws k W ∧ ∃ (h : k < ws.length) (bx : Nat), W.heap[bx]? = some (.cells #[.int .i64 ws[k].a, .int .i64 ws[k].b] 87 (0, 0)) ∧ (∀ a cap, W.cell? ⟨pb, 6, none⟩ = some (.slice a k cap) → Value.ownBlock (.slice a k cap) ≠ some bx) ∧
      a' = { tmps := #[.pointer (some ⟨xb, 0, none⟩), .pointer (some ⟨bx, 0, none⟩), .pointer (some ⟨pb, 0, none⟩), .pointer (some ⟨pb, 0, none⟩), .pointer (some ⟨pb, 0, none⟩), .pointer (some ⟨pb, 0, none⟩), .int .i64 n, .pointer (some ⟨pb, 0, none⟩), .pointer (some ⟨pb, 5, none⟩), .pointer (some ⟨pb, 5, none⟩), .pointer (some ⟨pb, 0, none⟩), .func (.func 99) #[.pointer (some ⟨pb, 0, none⟩)] #[], .agg #[.int .i64 ws[k].a, .int .i64 ws[k].b], undef, undef, undef, undef, undef, undef, undef, undef, undef, undef, undef, undef], defers := [] })
    (fun k a' W l r r' hl h ho => ⟨h.1.put (by omega) ho rfl _, by
      obtain ⟨h1, bx, h2, h4, h3⟩ := h.2
      obtain ⟨a0, c0, g1, _, _⟩ := h.1
      have hpl : pb ≠ l := fun e => by subst e; rw [g1] at ho; cases ho
      exact ⟨h1, bx, (World.putObj_heap_other (fun e => by subst e; rw [ho] at h2; cases h2)).trans h2, fun a cap e => h4 a cap ((World.cell?_of_block (a := ⟨pb, 6, none⟩) (World.putObj_heap_other (o := .loop r') hpl)).symm.trans e), h3⟩⟩)
    ?assign ?body ?seq ?done
  case assign =>
    rintro l k v W K hl hk hi ⟨hk', rfl⟩ hK
    gi_wp2
    exact hK _ _ (fun j o h _ => (alloc_old _ _ _ (Array.getElem?_eq_some_iff.1 h).1).trans h) (fun j o _ h _ => (alloc_old _ _ _ (Array.getElem?_eq_some_iff.1 h).1).trans h) ⟨hi.alloc _, hk, W.heap.size, alloc_at _ _ _ rfl, fun a cap e => by
      obtain ⟨a0, c0, g1, g2, _⟩ := hi
      have e0 : W.cell? ⟨pb, 6, none⟩ = some (.slice a0 k c0) := cur_cell g1 6
      have e1 := (cell_keep e0 (below_box (Below.refl _ _) (.cells #[.int .i64 ws[k].a, .int .i64 ws[k].b] 87))).symm.trans e
      simp at e1
      obtain ⟨rfl, rfl⟩ := e1
      intro hb
      have := (g2.lt _ hb).2
      omega, rfl⟩
  case seq =>
    intro l W hb h1 h2 hi
    rw [← hws]
    refine wiresIt m pb Bn n l sf caps σs _ W h64 hsf hst (fun k W1 h => ?_)
    rw [hws] at h
    obtain ⟨a, cap, g1, g2, g3⟩ := h
    exact ⟨cur_cell g1 0, cur_cell g1 1, cur_cell (hBk k W1 ⟨a, cap, g1, g2, g3⟩) 0⟩
  case done =>
    rintro W hi hD
    gi_wp2
    refine ⟨by simp, .inl ⟨_, _, rfl, run_takeDeferred hD, ?_⟩⟩
    exact ⟨_, results_none rfl _ _ _, ⟨_, rfl⟩, by rw [hws]; exact hi.put (by omega) hD rfl _⟩
  case body =>
    rintro l k a' W hl hk ⟨rl, hrl⟩ ⟨od, hod, hodc⟩ ⟨hi, hk', bx, hbx, hne, rfl⟩
    have x1 : W.cell? ⟨xb, 0, none⟩ = some (.pointer (some ⟨pb, 0, none⟩)) := cur_cell (hxk _ _ hi) 0
    obtain ⟨a, cap, g1, g2, g3⟩ := hi
    have hs : w.heap.size ≤ W.heap.size := g3.size
    have p6 : W.cell? ⟨pb, 6, none⟩ = some (.slice a k cap) := cur_cell g1 6
    have b0 : W.cell? ⟨bx, 0, none⟩ = some (.int .i64 ws[k].a) := cur_cell hbx 0
    have b1 : W.cell? ⟨bx, 1, none⟩ = some (.int .i64 ws[k].b) := cur_cell hbx 1
    obtain ⟨W3, hW3⟩ : ∃ W3, W3 = (W.alloc (.cells #[.int .i64 ws[k].a, .int .i64 ws[k].b] 87)).drew := ⟨_, rfl⟩
    have o3 : W3.ownsRow w.heap.size 87 2 (.slice a k cap) k (flatW (ws.take k)) := by rw [hW3]; exact own_below (g2.alloc _) (belowN 1)
    have r3 : Row W3 (some ⟨W.heap.size, 0, none⟩) (flatW [ws[k]]) := by
      rw [hW3]
      refine .inr ⟨_, _, rfl, fun i hi => ?_⟩
      have hi2 : i < 2 := by simpa [flatW] using hi
      have e := alloc_at W (.cells #[.int .i64 ws[k].a, .int .i64 ws[k].b] 87) _ rfl
      rw [Nat.zero_add]
      rcases (show i = 0 ∨ i = 1 from by omega) with rfl | rfl
      · exact cur_cell (w := (W.alloc (.cells #[.int .i64 ws[k].a, .int .i64 ws[k].b] 87)).drew) e 0
      · exact cur_cell (w := (W.alloc (.cells #[.int .i64 ws[k].a, .int .i64 ws[k].b] 87)).drew) e 1
    obtain ⟨v4, w4, hrun, o4, gr4⟩ := app_rowS (P := Try.prog) W3 34 34 87 _ 2 16 Try.underlying34 Try.infoWire rfl (by omega) o3 (some ⟨W.heap.size, 0, none⟩) 1 1 (flatW [ws[k]]) rfl r3 (flatW_one _) (by unfold maxLen; omega) (by omega) (by rw [hW3, size_drew]; simp; omega)
    obtain ⟨a4, c4, rfl⟩ := own_shape o4
    rw [hW3] at hrun
    have F4 : w4.heap[pb]? = some (.cells (planC n (.func (.func sf) #[] caps) dn st se n (.slice a k cap)) 113 (0, 0)) := kept_grown (by rw [hW3]; exact (alloc_old _ _ _ (cur_lt g1)).trans g1) gr4 (own_other o3 (by rw [hW3]; exact (alloc_old _ _ _ (cur_lt g1)).trans g1) (by decide))
    have y1 : w4.cell? ⟨xb, 0, none⟩ = some (.pointer (some ⟨pb, 0, none⟩)) := by
      have h := hxk k W ⟨a, cap, g1, g2, g3⟩
      have h' : W3.heap[xb]? = some (.cells #[.pointer (some ⟨pb, 0, none⟩)] 99 (0, 0)) := by rw [hW3]; exact (alloc_old _ _ _ (cur_lt h)).trans h
      exact cur_cell (kept_grown h' gr4 (own_other o3 h' (by decide))) 0
    have y6 : w4.cell? ⟨pb, 6, none⟩ = some (.slice a k cap) := cur_cell F4 6
    have f6 := cur_free F4 6
    have bx4 : w4.heap[bx]? = some (.cells #[.int .i64 ws[k].a, .int .i64 ws[k].b] 87 (0, 0)) := kept_grown (by rw [hW3]; exact (alloc_old _ _ _ (cur_lt hbx)).trans hbx) gr4 (hne a cap p6)
    have z0 : w4.cell? ⟨bx, 0, none⟩ = some (.int .i64 ws[k].a) := cur_cell bx4 0
    have z1 : w4.cell? ⟨bx, 1, none⟩ = some (.int .i64 ws[k].b) := cur_cell bx4 1
    gi_wp2
    refine region_in (fun w' => w'.cell? ⟨xb, 0, none⟩ = some (.pointer (some ⟨pb, 0, none⟩)) ∧ w'.cell? ⟨bx, 0, none⟩ = some (.int .i64 ws[k].a) ∧ w'.cell? ⟨bx, 1, none⟩ = some (.int .i64 ws[k].b)) hm (by kernel_rfl) (by rintro ⟨_, _, h⟩; exact h) ⟨x1, b0, b1⟩ (fun hS => ?_)
    refine wpAnyH_take (i := 0) (v := .pointer (some ⟨pb, 0, none⟩)) rfl (by kernel_rfl) (by kernel_rfl) (by kernel_rfl) (fun _ _ _ h => h) (Or.inl ⟨by rfl, ?_⟩) hS ?_
    · intro w' hSw
      obtain ⟨e0, e1, e2⟩ := hSw
      go_simp
    try simp only [Act.put, List.getElem_toArray, List.getElem_cons_zero, List.getElem_cons_succ, List.setIfInBounds_toArray, List.set_cons_zero, List.set_cons_succ]
    refine wpAnyH_take (i := 1) (v := .pointer (some ⟨pb, 0, none⟩)) rfl (by kernel_rfl) (by kernel_rfl) (by kernel_rfl) (fun _ _ _ h => h) (Or.inl ⟨by rfl, ?_⟩) hS ?_
    · intro w' hSw
      obtain ⟨e0, e1, e2⟩ := hSw
      go_simp
    try simp only [Act.put, List.getElem_toArray, List.getElem_cons_zero, List.getElem_cons_succ, List.setIfInBounds_toArray, List.set_cons_zero, List.set_cons_succ]
    refine wpAnyH_take (i := 6) (v := .agg #[.int .i64 ws[k].a, .int .i64 ws[k].b]) rfl (by kernel_rfl) (by kernel_rfl) (by kernel_rfl) (fun _ _ _ h => h) (Or.inl ⟨by rfl, ?_⟩) hS ?_
    · intro w' hSw
      obtain ⟨e0, e1, e2⟩ := hSw
      go_simp
    try simp only [Act.put, List.getElem_toArray, List.getElem_cons_zero, List.getElem_cons_succ, List.setIfInBounds_toArray, List.set_cons_zero, List.set_cons_succ]
    refine wpAnyH_take (i := 2) (v := .pointer (some ⟨pb, 0, none⟩)) rfl (by kernel_rfl) (by kernel_rfl) (by kernel_rfl) (fun _ _ _ h => h) (Or.inl ⟨by rfl, ?_⟩) hS ?_
    · intro w' hSw
      obtain ⟨e0, e1, e2⟩ := hSw
      go_simp
    try simp only [Act.put, List.getElem_toArray, List.getElem_cons_zero, List.getElem_cons_succ, List.setIfInBounds_toArray, List.set_cons_zero, List.set_cons_succ]
    refine wpAnyH_take (i := 3) (v := .pointer (some ⟨pb, 5, none⟩)) rfl (by kernel_rfl) (by kernel_rfl) (by kernel_rfl) (fun _ _ _ h => h) (Or.inl ⟨by rfl, ?_⟩) hS ?_
    · intro w' hSw
      obtain ⟨e0, e1, e2⟩ := hSw
      go_simp
    try simp only [Act.put, List.getElem_toArray, List.getElem_cons_zero, List.getElem_cons_succ, List.setIfInBounds_toArray, List.set_cons_zero, List.set_cons_succ]
    refine wpAnyH_take (i := 4) (v := .pointer (some ⟨pb, 6, none⟩)) rfl (by kernel_rfl) (by kernel_rfl) (by kernel_rfl) (fun _ _ _ h => h) (Or.inl ⟨by rfl, ?_⟩) hS ?_
    · intro w' hSw
      obtain ⟨e0, e1, e2⟩ := hSw
      go_simp
    try simp only [Act.put, List.getElem_toArray, List.getElem_cons_zero, List.getElem_cons_succ, List.setIfInBounds_toArray, List.set_cons_zero, List.set_cons_succ]
    have hbp : bx ≠ pb := fun e => by subst e; rw [hbx] at g1; injection g1 with g1; injection g1 with _ g1; exact absurd g1 (by decide)
    have FIN : roundEnd l W2.heap.size (Kpo l) (PlanAt w pb n (.func (.func sf) #[] caps) dn st se ws (k + 1)) W .normal { tmps := #[], defers := [] } (w4.setCell ⟨pb, 6, none⟩ (.slice a4 (k + 1) c4)) := by
      have hW3s : ∀ (j : Nat) (o : Obj), W.heap[j]? = some o → W3.heap[j]? = some o := fun j o h => by rw [hW3]; exact (alloc_old _ _ _ (Array.getElem?_eq_some_iff.1 h).1).trans h
      have keepJ : ∀ (j : Nat) (o : Obj), W.heap[j]? = some o → (∀ cs t fr, o = .cells cs t fr → t ≠ 113 ∧ t ≠ 87) → (w4.setCell ⟨pb, 6, none⟩ (.slice a4 (k + 1) c4)).heap[j]? = some o := fun j o h ho => by
        refine (Below.heap_setCell _ _ _ j (fun e => ?_)).trans ((gr4.block j (Array.getElem?_eq_some_iff.1 (hW3s j o h)).1 (fun e => ?_)).trans (hW3s j o h))
        · rw [show j = pb from e] at h
          rw [g1] at h
          injection h with h
          exact (ho _ _ _ h.symm).1 rfl
        · rcases o3.2 with ⟨hv, _⟩ | ⟨g', cap', cur, hv, _, hg', _⟩
          · rw [hv] at e; simp [Value.ownBlock] at e
          · rw [hv] at e
            simp [Value.ownBlock] at e
            subst e
            rw [hW3s _ _ h] at hg'
            injection hg' with hg'
            exact (ho _ _ _ hg').2 rfl
      refine ⟨(keepJ l _ hrl (fun cs t fr e => by cases e)).trans hrl.symm, (keepJ _ _ hod (fun cs t fr e => by rw [e] at hodc; simp [Obj.isCells] at hodc)).trans hod.symm, fun j o _ h ho => keepJ j o h ho, a4, c4, ?_, ?_, ?_⟩
      · have := cur_set F4 6 (.slice a4 (k + 1) c4)
        exact this
      · have e : flatW (ws.take (k + 1)) = flatW (ws.take k) ++ flatW [ws[k]] := by rw [List.take_succ_eq_append_getElem hk, flatW_app]
        rw [e]
        exact o4.kept (set_grown w4 pb 6 _) (.inr (own_other o4 F4 (by decide)))
      · have a1 : w.grownBy W3 (some pb) := by rw [hW3]; exact grown_trans g3 (grown_trans (World.grownBy_alloc W _ (some pb)) (drewN_grown _ 1 (some pb)))
        refine grown_trans (w1 := w4) ⟨gr4.os.trans a1.os, gr4.tape.trans a1.tape, gr4.output.trans a1.output, Nat.le_trans a1.size gr4.size, fun j hj hn => (gr4.block j (Nat.lt_of_lt_of_le hj a1.size) (fun e => ?_)).trans (a1.block j hj hn)⟩ (set_grown w4 pb 6 _)
        have := (o3.lt j e.symm).1
        omega
    refine wpAnyH_ready (rs := [5, 7]) (by kernel_rfl) (by simp) ?_
    refine AllReadyH.cons rfl (fun K hK => ?_) (AllReadyH.cons rfl (fun K hK => ?_) AllReadyH.nil)
    · go_simp
      refine hK.out _ _ ⟨x1, b0, b1⟩ (fun hS => ?_)
      clear hK K
      try simp only [Act.put, List.getElem_toArray, List.getElem_cons_zero, List.getElem_cons_succ, List.setIfInBounds_toArray, List.set_cons_zero, List.set_cons_succ]
      refine wpAnyH_ready (rs := [7]) (by kernel_rfl) (by simp) ?_
      refine AllReadyH.cons rfl (fun K hK => ?_) AllReadyH.nil
      go_simp
      refine hK.out _ _ ⟨cell_keep x1 (below_drew (below_box (Below.refl _ W) _)), cell_keep b0 (below_drew (below_box (Below.refl _ W) _)), cell_keep b1 (below_drew (below_box (Below.refl _ W) _))⟩ (fun hS => ?_)
      clear hK K
      try simp only [Act.put, List.getElem_toArray, List.getElem_cons_zero, List.getElem_cons_succ, List.setIfInBounds_toArray, List.set_cons_zero, List.set_cons_succ]
      refine wpAnyH_ready (rs := [8]) (by kernel_rfl) (by simp) ?_
      refine AllReadyH.cons rfl (fun K hK => ?_) AllReadyH.nil
      refine step_app_runS (by rfl) _ _ _ _ ⟨by rfl, by rfl⟩ (.slice a k cap) (.slice (some ⟨W.heap.size, 0, none⟩) 1 1) (by rfl) (by rfl) _ _ hrun ?_
      refine hK.out _ _ ⟨y1, z0, z1⟩ (fun hS => ?_)
      clear hK K
      try simp only [Act.put, List.getElem_toArray, List.getElem_cons_zero, List.getElem_cons_succ, List.setIfInBounds_toArray, List.set_cons_zero, List.set_cons_succ]
      refine wpAnyH_take (i := 9) (v := .pointer (some ⟨pb, 0, none⟩)) rfl (by kernel_rfl) (by kernel_rfl) (by kernel_rfl) (fun _ _ _ h => h) (Or.inl ⟨by rfl, ?_⟩) hS ?_
      · intro w' hSw
        obtain ⟨e0, e1, e2⟩ := hSw
        go_simp
      try simp only [Act.put, List.getElem_toArray, List.getElem_cons_zero, List.getElem_cons_succ, List.setIfInBounds_toArray, List.set_cons_zero, List.set_cons_succ]
      refine wpAnyH_take (i := 10) (v := .pointer (some ⟨pb, 5, none⟩)) rfl (by kernel_rfl) (by kernel_rfl) (by kernel_rfl) (fun _ _ _ h => h) (Or.inl ⟨by rfl, ?_⟩) hS ?_
      · intro w' hSw
        obtain ⟨e0, e1, e2⟩ := hSw
        go_simp
      try simp only [Act.put, List.getElem_toArray, List.getElem_cons_zero, List.getElem_cons_succ, List.setIfInBounds_toArray, List.set_cons_zero, List.set_cons_succ]
      refine wpAnyH_take (i := 11) (v := .pointer (some ⟨pb, 6, none⟩)) rfl (by kernel_rfl) (by kernel_rfl) (by kernel_rfl) (fun _ _ _ h => h) (Or.inl ⟨by rfl, ?_⟩) hS ?_
      · intro w' hSw
        obtain ⟨e0, e1, e2⟩ := hSw
        go_simp
      try simp only [Act.put, List.getElem_toArray, List.getElem_cons_zero, List.getElem_cons_succ, List.setIfInBounds_toArray, List.set_cons_zero, List.set_cons_succ]
      refine wpAnyH_ready (rs := [12]) (by kernel_rfl) (by simp) ?_
      refine AllReadyH.cons rfl (fun K hK => ?_) AllReadyH.nil
      go_simp
      refine hK.out _ _ ⟨cell_set y1 (by omega), cell_set z0 (by omega), cell_set z1 (by omega)⟩ (fun hS => ?_)
      clear hK K
      try simp only [Act.put, List.getElem_toArray, List.getElem_cons_zero, List.getElem_cons_succ, List.setIfInBounds_toArray, List.set_cons_zero, List.set_cons_succ]
      refine wpAnyH_done (by kernel_rfl) ?_ _
      gi_wp2
      exact FIN
    · go_simp
      refine hK.out _ _ ⟨cell_keep x1 (below_drew (below_box (Below.refl _ W) _)), cell_keep b0 (below_drew (below_box (Below.refl _ W) _)), cell_keep b1 (below_drew (below_box (Below.refl _ W) _))⟩ (fun hS => ?_)
      clear hK K
      try simp only [Act.put, List.getElem_toArray, List.getElem_cons_zero, List.getElem_cons_succ, List.setIfInBounds_toArray, List.set_cons_zero, List.set_cons_succ]
      refine wpAnyH_ready (rs := [5]) (by kernel_rfl) (by simp) ?_
      refine AllReadyH.cons rfl (fun K hK => ?_) AllReadyH.nil
      have p6' : (W.alloc (.cells #[.int .i64 ws[k].a, .int .i64 ws[k].b] 87)).cell? ⟨pb, 6, none⟩ = some (.slice a k cap) := cell_keep p6 (below_box (Below.refl _ W) _)
      go_simp
      refine hK.out _ _ ⟨cell_keep x1 (below_drew (below_box (Below.refl _ W) _)), cell_keep b0 (below_drew (below_box (Below.refl _ W) _)), cell_keep b1 (below_drew (below_box (Below.refl _ W) _))⟩ (fun hS => ?_)
      clear hK K
      try simp only [Act.put, List.getElem_toArray, List.getElem_cons_zero, List.getElem_cons_succ, List.setIfInBounds_toArray, List.set_cons_zero, List.set_cons_succ]
      refine wpAnyH_ready (rs := [8]) (by kernel_rfl) (by simp) ?_
      refine AllReadyH.cons rfl (fun K hK => ?_) AllReadyH.nil
      refine step_app_runS (by rfl) _ _ _ _ ⟨by rfl, by rfl⟩ (.slice a k cap) (.slice (some ⟨W.heap.size, 0, none⟩) 1 1) (by rfl) (by rfl) _ _ hrun ?_
      refine hK.out _ _ ⟨y1, z0, z1⟩ (fun hS => ?_)
      clear hK K
      try simp only [Act.put, List.getElem_toArray, List.getElem_cons_zero, List.getElem_cons_succ, List.setIfInBounds_toArray, List.set_cons_zero, List.set_cons_succ]
      refine wpAnyH_take (i := 9) (v := .pointer (some ⟨pb, 0, none⟩)) rfl (by kernel_rfl) (by kernel_rfl) (by kernel_rfl) (fun _ _ _ h => h) (Or.inl ⟨by rfl, ?_⟩) hS ?_
      · intro w' hSw
        obtain ⟨e0, e1, e2⟩ := hSw
        go_simp
      try simp only [Act.put, List.getElem_toArray, List.getElem_cons_zero, List.getElem_cons_succ, List.setIfInBounds_toArray, List.set_cons_zero, List.set_cons_succ]
      refine wpAnyH_take (i := 10) (v := .pointer (some ⟨pb, 5, none⟩)) rfl (by kernel_rfl) (by kernel_rfl) (by kernel_rfl) (fun _ _ _ h => h) (Or.inl ⟨by rfl, ?_⟩) hS ?_
      · intro w' hSw
        obtain ⟨e0, e1, e2⟩ := hSw
        go_simp
      try simp only [Act.put, List.getElem_toArray, List.getElem_cons_zero, List.getElem_cons_succ, List.setIfInBounds_toArray, List.set_cons_zero, List.set_cons_succ]
      refine wpAnyH_take (i := 11) (v := .pointer (some ⟨pb, 6, none⟩)) rfl (by kernel_rfl) (by kernel_rfl) (by kernel_rfl) (fun _ _ _ h => h) (Or.inl ⟨by rfl, ?_⟩) hS ?_
      · intro w' hSw
        obtain ⟨e0, e1, e2⟩ := hSw
        go_simp
      try simp only [Act.put, List.getElem_toArray, List.getElem_cons_zero, List.getElem_cons_succ, List.setIfInBounds_toArray, List.set_cons_zero, List.set_cons_succ]
      refine wpAnyH_ready (rs := [12]) (by kernel_rfl) (by simp) ?_
      refine AllReadyH.cons rfl (fun K hK => ?_) AllReadyH.nil
      go_simp
      refine hK.out _ _ ⟨cell_set y1 (by omega), cell_set z0 (by omega), cell_set z1 (by omega)⟩ (fun hS => ?_)
      clear hK K
      try simp only [Act.put, List.getElem_toArray, List.getElem_cons_zero, List.getElem_cons_succ, List.setIfInBounds_toArray, List.set_cons_zero, List.set_cons_succ]
      refine wpAnyH_done (by kernel_rfl) ?_ _
      gi_wp2
      exact FIN
end Go.Proofs.Ytaedamnhobcdlaa
