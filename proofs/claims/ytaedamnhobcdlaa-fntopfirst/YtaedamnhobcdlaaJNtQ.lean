/- NtW, NtN, NtO, NtQ in one. Written by tools/join.py. -/
import Derived.Test.YtaedamnhobcdlaaJNtI
import Derived.Test.YtaedamnhobcdlaaJApp
import Derived.Test.YtaedamnhobcdlaaJNtR
import Derived.Defers
import Derived.Laws.Pointers
import Derived.Laws.LoneSync
import Derived.RegionTactic
import Derived.RegionCalls
import Derived.Test.YtaedamnhobcdlaaJNet
section
namespace Go.Proofs.Ytaedamnhobcdlaa
open Go.RowKit Go.Shelf
set_option linter.unusedVariables false
set_option maxRecDepth 100000
attribute [local go_sem] Oper.semAt_some

/-- What a round over the wires keeps: every block but its loop's record, the plans and the rows of wires. -/
def Kpo (l : Nat) (W W' : World) : Prop := ∀ (k : Nat) (o : Obj), k ≠ l → W.heap[k]? = some o → (∀ cs t fr, o = .cells cs t fr → t ≠ 113 ∧ t ≠ 87) → W'.heap[k]? = some o
theorem Kpo.trans {l : Nat} {A B C : World} (h : Kpo l A B) (k : Kpo l B C) : Kpo l A C := fun i o hi e ho => k i o hi (h i o hi e ho) ho
theorem Kpo.keepInt {l : Nat} {W W' : World} {r : Loop} (h : Kpo l W W') (hl : W.heap[l]? = some (.loop r)) : KeepInt W W' := fun k cs fr e => h k _ (fun hk => by subst hk; rw [hl] at e; cases e) e (fun cs' t fr' he => by cases he; exact ⟨by decide, by decide⟩)
theorem KeepInt.put {W : World} {l : Nat} {r : Loop} (hl : W.heap[l]? = some (.loop r)) (o : Obj) : KeepInt W (W.putObj l o) := fun k cs fr e => (World.putObj_heap_other (fun hk => by subst hk; rw [hl] at e; cases e)).trans e
theorem KeepInt.drew (W : World) (j : Nat) : KeepInt W (W.drewN j) := fun _ _ _ h => h
def WireV (ws : List WireM) (k : Nat) (v : Value) (W : World) : Prop := ∃ h : k < ws.length, v = .agg #[.int .i64 ws[k].a, .int .i64 ws[k].b]
theorem WireV.mid {ws pre rest : List WireM} {t : WireM} {W : World} (e : ws = pre ++ t :: rest) : WireV ws pre.length (.agg #[.int .i64 t.a, .int .i64 t.b]) W := by
  subst e
  exact ⟨by simp, by simp⟩
theorem allW_take (n : Nat) (σs : List (Nat → Nat)) (s : Nat) (h : s < σs.length) : allW n σs = allW n (σs.take s) ++ (stepW σs[s] n ++ allW n (σs.drop (s + 1))) := by
  have e : σs = σs.take s ++ σs[s] :: σs.drop (s + 1) := by rw [← List.drop_eq_getElem_cons h, List.take_append_drop]
  conv => lhs; rw [e]
  rw [allW_app]; rfl
theorem allW_take_succ (n : Nat) (σs : List (Nat → Nat)) (s : Nat) (h : s < σs.length) : allW n (σs.take (s + 1)) = allW n (σs.take s) ++ stepW σs[s] n := by
  rw [List.take_succ_eq_append_getElem h, allW_app]
  simp [allW]
theorem stepW_split (σ : Nat → Nat) : ∀ (d a : Nat), ∃ rest, stepW σ (a + d) = stepW σ a ++ rest
  | 0, a => ⟨[], by simp⟩
  | d + 1, a => by
    obtain ⟨rest, h⟩ := stepW_split σ d a
    exact ⟨rest ++ wireAt σ (a + d), by rw [← Nat.add_assoc, stepW_succ, h, List.append_assoc]⟩
set_option maxHeartbeats 4000000 in
theorem wiresIt (m pb Bn n l sf : Nat) (caps : Array Value) (σs : List (Nat → Nat)) (I : Nat → World → Prop) (W : World) (h64 : n ≤ 64) (hsf : ∀ args w, (callFunc sf args).run Try.prog w = .ok (.enter sf args) w)
    (hst : ∀ (m l B : Nat) (I : Nat → World → Prop) (Kp : World → World → Prop) (W : World), (∀ k W1, I k W1 → W1.cell? ⟨Bn, 0, none⟩ = some (.int .i64 n)) → SeqAll Try.prog m sf #[] caps σs.length l B I (StepV σs) Kp W)
    (hI : ∀ k W1, I k W1 → W1.cell? ⟨pb, 0, none⟩ = some (.int .i64 n) ∧ W1.cell? ⟨pb, 1, none⟩ = some (.func (.func sf) #[] caps) ∧ W1.cell? ⟨Bn, 0, none⟩ = some (.int .i64 n)) :
    SeqAll Try.prog m 99 #[.pointer (some ⟨pb, 0, none⟩)] #[] (allW n σs).length l W.heap.size I (WireV (allW n σs)) (Kpo l) W := by
  intro J ja jd jp jr jy j0
  obtain ⟨rl, hl0⟩ := (jr _ _ j0).2
  have hlW : l < W.heap.size := (Array.getElem?_eq_some_iff.1 hl0).1
  show CallsIn Fence.wide m Try.prog 99 #[.pointer (some ⟨pb, 0, none⟩), .func (.yield l) #[] #[]] W _
  refine callsIn_of_wp_marks Try.func99 rfl trivial ?_
  simp only [Try.ntmps99, List.size_toArray, List.length_cons, List.length_nil, Nat.reduceAdd, Nat.reduceSub, Array.replicate_succ, Array.replicate_zero, List.push_toArray, List.append_toArray, List.nil_append, List.cons_append]
  have j2 := ja _ _ (.cells #[.func (.yield l) #[] #[]] 130) (ja _ _ (.cells #[.pointer (some ⟨pb, 0, none⟩)] 99) j0)
  have q1 := (hI _ _ (jr _ _ j2).1).2.1
  gi_wp2
  obtain ⟨W2, hW2⟩ : ∃ W2, W2 = (W.alloc (.cells #[.pointer (some ⟨pb, 0, none⟩)] 99)).alloc (.cells #[.func (.yield l) #[] #[]] 130) := ⟨_, rfl⟩
  have k0 : W2.heap[W.heap.size]? = some (.cells #[.pointer (some ⟨pb, 0, none⟩)] 99 (0, 0)) := by rw [hW2]; exact (alloc_old _ _ _ (by simp)).trans (alloc_at _ _ _ rfl)
  have k1 : W2.heap[W.heap.size + 1]? = some (.cells #[.func (.yield l) #[] #[]] 130 (0, 0)) := by rw [hW2]; exact alloc_at _ _ _ (by simp)
  have s2 : W2.heap.size = W.heap.size + 1 + 1 := by rw [hW2]; simp
  rw [← hW2] at j2 ⊢
  clear hW2 q1
  have hId : ∀ (k : Nat) (Wi : World), (J (allW n (σs.take k)).length Wi ∧ Wi.heap[W.heap.size]? = some (.cells #[.pointer (some ⟨pb, 0, none⟩)] 99 (0, 0)) ∧ Wi.heap[W.heap.size + 1]? = some (.cells #[.func (.yield l) #[] #[]] 130 (0, 0))) → ∀ (r : Nat) (o o' : Obj), W2.heap.size ≤ r → Wi.heap[r]? = some o → o.isCells = false →
      (J (allW n (σs.take k)).length (Wi.putObj r o') ∧ (Wi.putObj r o').heap[W.heap.size]? = some (.cells #[.pointer (some ⟨pb, 0, none⟩)] 99 (0, 0)) ∧ (Wi.putObj r o').heap[W.heap.size + 1]? = some (.cells #[.func (.yield l) #[] #[]] 130 (0, 0))) :=
    fun k Wi h r o o' hr ho hc => ⟨jp _ _ _ _ _ h.1 (by omega) ho hc, (World.putObj_heap_other (by omega)).trans h.2.1, (World.putObj_heap_other (by omega)).trans h.2.2⟩
  refine range_all (w := W2) (gf := sf) (first := #[]) (lb := caps) rfl hsf σs.length rfl
    (fun k Wi => J (allW n (σs.take k)).length Wi ∧ Wi.heap[W.heap.size]? = some (.cells #[.pointer (some ⟨pb, 0, none⟩)] 99 (0, 0)) ∧ Wi.heap[W.heap.size + 1]? = some (.cells #[.func (.yield l) #[] #[]] 130 (0, 0)))
    (fun k Wi o h => ⟨ja _ _ _ h.1, (alloc_old _ _ _ (cur_lt h.2.1)).trans h.2.1, (alloc_old _ _ _ (cur_lt h.2.2)).trans h.2.2⟩)
    (fun k Wi j h => ⟨jd _ _ _ h.1, h.2.1, h.2.2⟩)
    (fun k Wi r o o' h hr ho hc => hId k Wi h r o o' hr ho hc)
    (StepV σs) (fun _ _ _ => True) (fun _ _ _ _ _ _ => trivial) (fun _ _ _ _ _ => trivial)
    ⟨j2, k0, k1⟩
    (fun k a' Wi => (J (allW n (σs.take k)).length Wi ∧ Wi.heap[W.heap.size]? = some (.cells #[.pointer (some ⟨pb, 0, none⟩)] 99 (0, 0)) ∧ Wi.heap[W.heap.size + 1]? = some (.cells #[.func (.yield l) #[] #[]] 130 (0, 0))) ∧ ∃ v, StepV σs k v Wi ∧
      a' = { tmps := #[.pointer (some ⟨pb, 0, none⟩), .func (.yield l) #[] #[], .pointer (some ⟨W.heap.size, 0, none⟩), .pointer (some ⟨W.heap.size + 1, 0, none⟩), v, undef, undef, .pointer (some ⟨pb, 0, none⟩), .pointer (some ⟨pb, 0, none⟩), .pointer (some ⟨pb, 1, none⟩), .func (.func sf) #[] caps, v, undef, undef, undef, undef, undef, undef, undef, undef, undef, undef, undef, undef, undef, undef, undef, undef, undef, undef, undef, undef, undef, undef], defers := [] })
    (fun k a' Wi l' r r' hl' h ho => ⟨hId k Wi h.1 l' _ _ (by omega) ho rfl, by
      obtain ⟨v, ⟨hk, hv⟩, e⟩ := h.2
      exact ⟨v, ⟨hk, hv.keep (KeepInt.put ho _)⟩, e⟩⟩)
    ?assign ?body ?seq ?done
  case assign =>
    intro l' k v Wi K hl' hk hi hv hK
    gi_wp2
    exact hK _ _ (fun _ _ h _ => h) trivial ⟨hi, v, hv, rfl⟩
  case seq =>
    intro l' Wi hb h1 h2 hi
    exact hst m l' _ _ _ _ (fun k W1 h => (hI _ _ (jr _ _ h.1).1).2.2)
  case done =>
    rintro Wi ⟨hj, hb0, hb1⟩ hD
    rw [List.take_length] at hj
    gi_wp2
    refine ⟨by simp, .inl ⟨_, _, rfl, run_takeDeferred hD, ?_⟩⟩
    exact ⟨_, results_none rfl _ _ _, ⟨_, rfl⟩, jp _ _ _ _ _ hj (by omega) hD rfl⟩
  case body =>
    rintro l' k a' Wi hl' hk ⟨rl', hrl'⟩ ⟨od, hod, hodc⟩ ⟨⟨hj, hb0, hb1⟩, v, ⟨hk', hv⟩, rfl⟩
    obtain ⟨f, fc, rfl, hf, hcall⟩ := hv
    have c0 : Wi.cell? ⟨W.heap.size, 0, none⟩ = some (.pointer (some ⟨pb, 0, none⟩)) := cur_cell hb0 0
    have cn := (hI _ _ (jr _ _ hj).1).1
    have EA := Lib.hid (allW_take n σs k hk)
    have ES := Lib.hid (allW_take_succ n σs k hk)
    generalize σs[k] = σ at *
    generalize hT : allW n (σs.take k) = pre at *
    have HS0 : Hid (J (pre.length + (stepW σ 0).length) Wi ∧ Wi.heap[W.heap.size]? = some (.cells #[.pointer (some ⟨pb, 0, none⟩)] 99 (0, 0)) ∧ Wi.heap[W.heap.size + 1]? = some (.cells #[.func (.yield l) #[] #[]] 130 (0, 0)) ∧ Wi.heap[l']? = some (.loop rl') ∧ Wi.heap[W2.heap.size]? = some od ∧ KeepInt Wi Wi) := Lib.hid ⟨hj, hb0, hb1, hrl', hod, KeepInt.refl _⟩
    have HR : Hid (Wi.heap[l']? = some (.loop rl') ∧ Wi.heap[W2.heap.size]? = some od) := Lib.hid ⟨hrl', hod⟩
    have HL : Hid (W2.heap.size < l' ∧ l < W.heap.size ∧ od.isCells = false) := Lib.hid ⟨hl', hlW, hodc⟩
    clear hj hb0 hb1 hrl' hod
    gi_wp2
    gi_loopw [16, 5, 6] (fun i _ _ wr => ∃ a : Nat, a ≤ n ∧ i = .int .i64 a ∧ Hid (J (pre.length + (stepW σ a).length) wr ∧ wr.heap[W.heap.size]? = some (.cells #[.pointer (some ⟨pb, 0, none⟩)] 99 (0, 0)) ∧ wr.heap[W.heap.size + 1]? = some (.cells #[.func (.yield l) #[] #[]] 130 (0, 0)) ∧ wr.heap[l']? = some (.loop rl') ∧ wr.heap[W2.heap.size]? = some od ∧ KeepInt Wi wr)) (fun i _ _ _ => n - (intOf i).toNat)
    case atStart => exact ⟨0, Nat.zero_le _, rfl, HS0⟩
    case round =>
      clear HS0 c0 cn
      obtain ⟨a, ha, rfl, H⟩ := hrel
      by_cases hlt : a < n
      · have C := Lib.hid (hcall wr H.out.2.2.2.2.2 a (by omega))
        gi_wp2
        refine ⟨trivial, fun h => (by simp [Fence.wide] at h), ?_⟩
        refine (CallsIn.inRound l' (callsIn_wide.2 C.out)).mono ?_
        rintro e w1 ⟨rfl, j, rfl⟩
        clear C
        by_cases hst' : a < σ a
        · have HX : Hid ((stepW σ (a + 1)).length = (stepW σ a).length + 1) := Lib.hid (by rw [stepW_succ, wireAt_yes hst']; simp)
          obtain ⟨rest, hrest⟩ := stepW_split σ (n - (a + 1)) (a + 1)
          rw [show a + 1 + (n - (a + 1)) = n from by omega, stepW_succ, wireAt_yes hst'] at hrest
          have EW : allW n σs = (pre ++ stepW σ a) ++ ⟨(a : Int), (σ a : Int)⟩ :: (rest ++ allW n (σs.drop (k + 1))) := by rw [EA.out, hrest]; simp
          have hlen : pre.length + (stepW σ a).length = (pre ++ stepW σ a).length := by simp
          have hj1 := jd _ _ j H.out.1
          obtain ⟨rl1, hrl1⟩ := (jr _ _ hj1).2
          obtain ⟨fn, tmps, assign, body, hy, hR⟩ := jy _ (wr.drewN j) (.agg #[.int .i64 (a : Int), .int .i64 (σ a : Int)]) (by rw [EW, hlen]; simp) hj1 (by rw [hlen]; exact WireV.mid EW)
          have c1 : (wr.drewN j).cell? ⟨W.heap.size + 1, 0, none⟩ = some (.func (.yield l) #[] #[]) := cur_cell (show (wr.drewN j).heap[W.heap.size + 1]? = _ from H.out.2.2.1) 0
          have HX2 := Lib.hid hrl1
          clear hrest EW hlen hj1 hrl1
          gi_wp2
          refine ⟨fun h => (by simp [Fence.wide] at h), ?_⟩
          refine (show RoundIn (Fence.wide.inRound l') _ _ _ _ _ _ _ _ _ from round_any hR).mono ?_
          rintro e w2 ⟨rfl, hj2, hkp⟩
          have KI := Lib.hid (H.out.2.2.2.2.2.trans ((KeepInt.drew _ j).trans (hkp.keepInt HX2.out)))
          have N : Hid (J (pre.length + (stepW σ (a + 1)).length) w2 ∧ w2.heap[W.heap.size]? = some (.cells #[.pointer (some ⟨pb, 0, none⟩)] 99 (0, 0)) ∧ w2.heap[W.heap.size + 1]? = some (.cells #[.func (.yield l) #[] #[]] 130 (0, 0)) ∧ w2.heap[l']? = some (.loop rl') ∧ w2.heap[W2.heap.size]? = some od ∧ KeepInt Wi w2) := Lib.hid (by
            have hh := HL.out
            refine ⟨by rw [HX.out, ← Nat.add_assoc]; exact hj2, hkp _ _ (by omega) H.out.2.1 (fun cs t fr e => by cases e; exact ⟨by decide, by decide⟩), hkp _ _ (by omega) H.out.2.2.1 (fun cs t fr e => by cases e; exact ⟨by decide, by decide⟩), hkp _ _ (by omega) H.out.2.2.2.1 (fun cs t fr e => by cases e), hkp _ _ (by omega) H.out.2.2.2.2.1 (fun cs t fr e => by rw [e] at hh; exact absurd hh.2.2 (by simp [Obj.isCells])), KI.out⟩)
          clear hR hy hj2 hkp KI c1
          gi_wp2
          go_roundw
          case rel => exact ⟨a + 1, by omega, by go_num, N⟩
          case measure => simp [intOf]; omega
        · have HX : Hid ((stepW σ (a + 1)).length = (stepW σ a).length) := Lib.hid (by rw [stepW_succ, wireAt_no hst']; simp)
          gi_wp2
          refine ⟨fun _ h => (by cases h), ?_⟩
          gi_wp2
          go_roundw
          case rel => exact ⟨a + 1, by omega, by go_num, Lib.hid ⟨by rw [HX.out]; exact jd _ _ _ H.out.1, H.out.2.1, H.out.2.2.1, H.out.2.2.2.1, H.out.2.2.2.2.1, H.out.2.2.2.2.2.trans (KeepInt.drew _ _)⟩⟩
          case measure => simp [intOf]; omega
      · obtain rfl : a = n := by omega
        gi_wp2
        refine ⟨H.out.2.2.2.1.trans HR.out.1.symm, H.out.2.2.2.2.1.trans HR.out.2.symm, trivial, ?_, H.out.2.1, H.out.2.2.1⟩
        rw [ES.out, List.length_append]
        exact H.out.1
end Go.Proofs.Ytaedamnhobcdlaa
end

section
namespace Go.Proofs.Ytaedamnhobcdlaa
open Go.RowKit Go.Shelf
set_option linter.unusedVariables false
set_option linter.unusedSimpArgs false
set_option maxRecDepth 100000
attribute [local go_sem] Oper.semAt_some

/-- The cells of a plan: its size, its steps, the three of sync.Once, the net. -/
def planC (n : Nat) (sv : Value) (dn st se : Int) (z : Int) (v : Value) : Array Value := #[.int .i64 n, sv, .int .u32 dn, .int .i32 st, .int .u32 se, .int .i64 z, v]
/-- Behind k rounds: the plan in block pb holds a row of the first k wires; all that lay ahead of w lies as it lay, the plan apart. -/
def PlanAt (w : World) (pb n : Nat) (sv : Value) (dn st se : Int) (ws : List WireM) (k : Nat) (W : World) : Prop :=
  ∃ a cap, W.heap[pb]? = some (.cells (planC n sv dn st se n (.slice a k cap)) 113 (0, 0)) ∧ W.ownsRow w.heap.size 87 2 (.slice a k cap) k (flatW (ws.take k)) ∧ w.grownBy W (some pb)
theorem PlanAt.alloc {w W : World} {pb n k : Nat} {sv : Value} {dn st se : Int} {ws : List WireM} (h : PlanAt w pb n sv dn st se ws k W) (o : Obj) : PlanAt w pb n sv dn st se ws k (W.alloc o) := by
  obtain ⟨a, cap, h1, h2, h3⟩ := h
  exact ⟨a, cap, (alloc_old _ _ _ (cur_lt h1)).trans h1, h2.alloc o, grown_trans h3 (World.grownBy_alloc W o (some pb))⟩
theorem PlanAt.drew {w W : World} {pb n k : Nat} {sv : Value} {dn st se : Int} {ws : List WireM} (h : PlanAt w pb n sv dn st se ws k W) (j : Nat) : PlanAt w pb n sv dn st se ws k (W.drewN j) := by
  obtain ⟨a, cap, h1, h2, h3⟩ := h
  exact ⟨a, cap, h1, own_below h2 (belowN j), grown_trans h3 (drewN_grown W j (some pb))⟩
theorem PlanAt.put {w W : World} {pb n k r : Nat} {sv : Value} {dn st se : Int} {ws : List WireM} {o : Obj} (h : PlanAt w pb n sv dn st se ws k W) (hr : w.heap.size ≤ r) (ho : W.heap[r]? = some o) (hc : o.isCells = false) (o' : Obj) : PlanAt w pb n sv dn st se ws k (W.putObj r o') := by
  obtain ⟨a, cap, h1, h2, h3⟩ := h
  refine ⟨a, cap, (World.putObj_heap_other (fun e => ?_)).trans h1, ownsRow_putObj h2 o' ho hc, ⟨h3.os, h3.tape, h3.output, by have := h3.size; simpa using this, fun k hk hn => ?_⟩⟩
  · subst e; rw [h1] at ho; cases ho; cases hc
  · exact (World.putObj_heap_other (by omega)).trans (h3.block k hk hn)
/-- An append whose run is known, as one step of a region that draws its order. -/
theorem step_app_runS {P : Program} {ops : Array Oper} {o : Oper} {a : Act} {w : World} {K : Act → World → Prop} {Q : Exit → Act → World → Prop} {E : Prop} (hgd : o.guard = none) (sl x : Operand) (t ty : TypeId)
    (ho : o.op = Op.call { callee := Callee.builtin Builtin.append, args := #[sl, x], argTypes := #[t, t] } ∧ o.type = ty) (vs vx : Value) (hs : a.eval sl = vs) (hx : a.eval x = vx) (v' : Value) (w' : World)
    (hrun : (Builtin.append_ #[t, t] ty #[vs, vx]).run P w = .ok v' w') (h : K (a.put o.dst v') w') : if Region.wanted o (yielded ops a.tmps) = true then Oper.wp P o a w K Q else E := by
  have hw : Region.wanted o (yielded ops a.tmps) = true := by simp [Region.wanted, hgd]
  rw [if_pos hw]
  obtain ⟨ho, rfl⟩ := ho
  unfold Oper.wp
  simp [execOp, ho, resolve, invoke, builtin, hs, hx, hrun, Result.andThen]
  exact h
set_option maxHeartbeats 4000000 in
theorem net1C (m xb pb Bn n sf : Nat) (caps : Array Value) (σs : List (Nat → Nat)) (dn st se : Int) (w : World) (h64 : n ≤ 64) (hsf : ∀ args w, (callFunc sf args).run Try.prog w = .ok (.enter sf args) w)
    (hst : ∀ (m l B : Nat) (I : Nat → World → Prop) (Kp : World → World → Prop) (W : World), (∀ k W1, I k W1 → W1.cell? ⟨Bn, 0, none⟩ = some (.int .i64 n)) → SeqAll Try.prog m sf #[] caps σs.length l B I (StepV σs) Kp W)
    (hlen : (allW n σs).length ≤ 4096)
    (hx : w.heap[xb]? = some (.cells #[.pointer (some ⟨pb, 0, none⟩)] 99 (0, 0))) (hB : w.heap[Bn]? = some (.cells #[.int .i64 n] 3 (0, 0)))
    (hp : w.heap[pb]? = some (.cells (planC n (.func (.func sf) #[] caps) dn st se 0 (.slice none 0 0)) 113 (0, 0))) :
    CallsIn Fence.wide m Try.prog 98 #[.pointer (some ⟨xb, 0, none⟩)] w fun e w' => (∃ v, e = .returned v) ∧ PlanAt w pb n (.func (.func sf) #[] caps) dn st se (allW n σs) (allW n σs).length w' := by
  have hxp : xb ≠ pb := fun e => by subst e; rw [hx] at hp; cases hp
  have hBp : Bn ≠ pb := fun e => by subst e; rw [hB] at hp; cases hp
  have x0 : w.cell? ⟨xb, 0, none⟩ = some (.pointer (some ⟨pb, 0, none⟩)) := cur_cell hx 0
  have p0 : w.cell? ⟨pb, 0, none⟩ = some (.int .i64 n) := cur_cell hp 0
  have p5 : w.cell? ⟨pb, 5, none⟩ = some (.int .i64 0) := cur_cell hp 5
  have f5 := cur_free hp 5
  have hm : Try.prog.follows .mixedOrders = true := by kernel_rfl
  refine callsIn_of_wp_marks Try.func98 rfl trivial ?_
  simp only [Try.ntmps98, List.size_toArray, List.length_cons, List.length_nil, Nat.reduceAdd, Nat.reduceSub, Array.replicate_succ, Array.replicate_zero, List.push_toArray, List.append_toArray, List.nil_append, List.cons_append]
  gi_wp2
  refine wpIn_wide.2 ?_
  go_region
  obtain ⟨W2, hW2⟩ : ∃ W2, W2 = (w.setCell ⟨pb, 5, none⟩ (.int .i64 n)).drew := ⟨_, rfl⟩
  have s2 : W2.heap.size = w.heap.size := by rw [hW2, size_drew]; simp
  have P0 : PlanAt w pb n (.func (.func sf) #[] caps) dn st se (allW n σs) 0 W2 := by
    rw [hW2]
    have h1 := cur_set hp 5 (.int .i64 n)
    exact PlanAt.drew ⟨none, 0, h1, ⟨rfl, .inl ⟨rfl, rfl⟩⟩, set_grown _ _ _ _⟩ 1
  have x2 : W2.cell? ⟨xb, 0, none⟩ = some (.pointer (some ⟨pb, 0, none⟩)) := by rw [hW2]; exact cell_set x0 (by omega)
  rw [← hW2]
  clear hW2 p0 p5 f5 x0
  generalize hws : allW n σs = ws at *
  have hxk : ∀ k W, PlanAt w pb n (.func (.func sf) #[] caps) dn st se ws k W → W.heap[xb]? = some (.cells #[.pointer (some ⟨pb, 0, none⟩)] 99 (0, 0)) := fun k W h => by
    obtain ⟨a, cap, _, _, h3⟩ := h
    exact (h3.block xb (cur_lt hx) (by simp; omega)).trans hx
  have hBk : ∀ k W, PlanAt w pb n (.func (.func sf) #[] caps) dn st se ws k W → W.heap[Bn]? = some (.cells #[.int .i64 n] 3 (0, 0)) := fun k W h => by
    obtain ⟨a, cap, _, _, h3⟩ := h
    exact (h3.block Bn (cur_lt hB) (by simp; omega)).trans hB
  gi_wp2
  refine range_all (w := W2) (gf := 99) (first := #[.pointer (some ⟨pb, 0, none⟩)]) (lb := #[]) rfl Try.call99 ws.length rfl
    (PlanAt w pb n (.func (.func sf) #[] caps) dn st se ws) (fun k W o h => h.alloc o) (fun k W j h => h.drew j) (fun k W r o o' h hr ho hc => h.put (by omega) ho hc o')
    (WireV ws) Kpo (fun l A B C h k => h.trans k) (fun l W r r' h k o hk e _ => (World.putObj_heap_other hk).trans e) P0
    (fun k a' W => PlanAt w pb n (.func (.func sf) #[] caps) dn st se ws k W ∧ ∃ (h : k < ws.length) (bx : Nat), W.heap[bx]? = some (.cells #[.int .i64 ws[k].a, .int .i64 ws[k].b] 87 (0, 0)) ∧ (∀ a cap, W.cell? ⟨pb, 6, none⟩ = some (.slice a k cap) → Value.ownBlock (.slice a k cap) ≠ some bx) ∧
      a' = { tmps := #[.pointer (some ⟨xb, 0, none⟩), .pointer (some ⟨bx, 0, none⟩), .pointer (some ⟨pb, 0, none⟩), .pointer (some ⟨pb, 0, none⟩), .pointer (some ⟨pb, 0, none⟩), .pointer (some ⟨pb, 0, none⟩), .int .i64 n, .pointer (some ⟨pb, 0, none⟩), .pointer (some ⟨pb, 5, none⟩), .pointer (some ⟨pb, 5, none⟩), .pointer (some ⟨pb, 0, none⟩), .func (.func 99) #[.pointer (some ⟨pb, 0, none⟩)] #[], .agg #[.int .i64 ws[k].a, .int .i64 ws[k].b], undef, undef, undef, undef, undef, undef, undef, undef, undef, undef, undef, undef], defers := [] })
    (fun k a' W l r r' hl h ho => ⟨h.1.put (by omega) ho rfl _, by
      obtain ⟨h1, bx, h2, h4, h3⟩ := h.2
      obtain ⟨a0, c0, g1, _, _⟩ := h.1
      have hpl : pb ≠ l := fun e => by subst e; rw [g1] at ho; cases ho
      exact ⟨h1, bx, (World.putObj_heap_other (fun e => by subst e; rw [ho] at h2; cases h2)).trans h2, fun a cap e => h4 a cap ((World.cell?_of_block (a := ⟨pb, 6, none⟩) (World.putObj_heap_other (o := .loop r') hpl)).symm.trans e), h3⟩⟩)
    ?assign ?body ?seq ?done
  case assign =>
    rintro l k v W K hl hk hi ⟨hk', rfl⟩ hK
    gi_wp2
    exact hK _ _ (fun j o h _ => (alloc_old _ _ _ (Array.getElem?_eq_some_iff.1 h).1).trans h) (fun j o _ h _ => (alloc_old _ _ _ (Array.getElem?_eq_some_iff.1 h).1).trans h) ⟨hi.alloc _, hk, W.heap.size, alloc_at _ _ _ rfl, fun a cap e => by
      obtain ⟨a0, c0, g1, g2, _⟩ := hi
      have e0 : W.cell? ⟨pb, 6, none⟩ = some (.slice a0 k c0) := cur_cell g1 6
      have e1 := (cell_keep e0 (below_box (Below.refl _ _) (.cells #[.int .i64 ws[k].a, .int .i64 ws[k].b] 87))).symm.trans e
      simp at e1
      obtain ⟨rfl, rfl⟩ := e1
      intro hb
      have := (g2.lt _ hb).2
      omega, rfl⟩
  case seq =>
    intro l W hb h1 h2 hi
    rw [← hws]
    refine wiresIt m pb Bn n l sf caps σs _ W h64 hsf hst (fun k W1 h => ?_)
    rw [hws] at h
    obtain ⟨a, cap, g1, g2, g3⟩ := h
    exact ⟨cur_cell g1 0, cur_cell g1 1, cur_cell (hBk k W1 ⟨a, cap, g1, g2, g3⟩) 0⟩
  case done =>
    rintro W hi hD
    gi_wp2
    refine ⟨by simp, .inl ⟨_, _, rfl, run_takeDeferred hD, ?_⟩⟩
    exact ⟨_, results_none rfl _ _ _, ⟨_, rfl⟩, by rw [hws]; exact hi.put (by omega) hD rfl _⟩
  case body =>
    rintro l k a' W hl hk ⟨rl, hrl⟩ ⟨od, hod, hodc⟩ ⟨hi, hk', bx, hbx, hne, rfl⟩
    have x1 : W.cell? ⟨xb, 0, none⟩ = some (.pointer (some ⟨pb, 0, none⟩)) := cur_cell (hxk _ _ hi) 0
    obtain ⟨a, cap, g1, g2, g3⟩ := hi
    have hs : w.heap.size ≤ W.heap.size := g3.size
    have p6 : W.cell? ⟨pb, 6, none⟩ = some (.slice a k cap) := cur_cell g1 6
    have b0 : W.cell? ⟨bx, 0, none⟩ = some (.int .i64 ws[k].a) := cur_cell hbx 0
    have b1 : W.cell? ⟨bx, 1, none⟩ = some (.int .i64 ws[k].b) := cur_cell hbx 1
    obtain ⟨W3, hW3⟩ : ∃ W3, W3 = (W.alloc (.cells #[.int .i64 ws[k].a, .int .i64 ws[k].b] 87)).drew := ⟨_, rfl⟩
    have o3 : W3.ownsRow w.heap.size 87 2 (.slice a k cap) k (flatW (ws.take k)) := by rw [hW3]; exact own_below (g2.alloc _) (belowN 1)
    have r3 : Row W3 (some ⟨W.heap.size, 0, none⟩) (flatW [ws[k]]) := by
      rw [hW3]
      refine .inr ⟨_, _, rfl, fun i hi => ?_⟩
      have hi2 : i < 2 := by simpa [flatW] using hi
      have e := alloc_at W (.cells #[.int .i64 ws[k].a, .int .i64 ws[k].b] 87) _ rfl
      rw [Nat.zero_add]
      rcases (show i = 0 ∨ i = 1 from by omega) with rfl | rfl
      · exact cur_cell (w := (W.alloc (.cells #[.int .i64 ws[k].a, .int .i64 ws[k].b] 87)).drew) e 0
      · exact cur_cell (w := (W.alloc (.cells #[.int .i64 ws[k].a, .int .i64 ws[k].b] 87)).drew) e 1
    obtain ⟨v4, w4, hrun, o4, gr4⟩ := app_rowS (P := Try.prog) W3 34 34 87 _ 2 16 Try.underlying34 Try.infoWire rfl (by omega) o3 (some ⟨W.heap.size, 0, none⟩) 1 1 (flatW [ws[k]]) rfl r3 (flatW_one _) (by unfold maxLen; omega) (by omega) (by rw [hW3, size_drew]; simp; omega)
    obtain ⟨a4, c4, rfl⟩ := own_shape o4
    rw [hW3] at hrun
    have F4 : w4.heap[pb]? = some (.cells (planC n (.func (.func sf) #[] caps) dn st se n (.slice a k cap)) 113 (0, 0)) := kept_grown (by rw [hW3]; exact (alloc_old _ _ _ (cur_lt g1)).trans g1) gr4 (own_other o3 (by rw [hW3]; exact (alloc_old _ _ _ (cur_lt g1)).trans g1) (by decide))
    have y1 : w4.cell? ⟨xb, 0, none⟩ = some (.pointer (some ⟨pb, 0, none⟩)) := by
      have h := hxk k W ⟨a, cap, g1, g2, g3⟩
      have h' : W3.heap[xb]? = some (.cells #[.pointer (some ⟨pb, 0, none⟩)] 99 (0, 0)) := by rw [hW3]; exact (alloc_old _ _ _ (cur_lt h)).trans h
      exact cur_cell (kept_grown h' gr4 (own_other o3 h' (by decide))) 0
    have y6 : w4.cell? ⟨pb, 6, none⟩ = some (.slice a k cap) := cur_cell F4 6
    have f6 := cur_free F4 6
    have bx4 : w4.heap[bx]? = some (.cells #[.int .i64 ws[k].a, .int .i64 ws[k].b] 87 (0, 0)) := kept_grown (by rw [hW3]; exact (alloc_old _ _ _ (cur_lt hbx)).trans hbx) gr4 (hne a cap p6)
    have z0 : w4.cell? ⟨bx, 0, none⟩ = some (.int .i64 ws[k].a) := cur_cell bx4 0
    have z1 : w4.cell? ⟨bx, 1, none⟩ = some (.int .i64 ws[k].b) := cur_cell bx4 1
    gi_wp2
    refine region_in (fun w' => w'.cell? ⟨xb, 0, none⟩ = some (.pointer (some ⟨pb, 0, none⟩)) ∧ w'.cell? ⟨bx, 0, none⟩ = some (.int .i64 ws[k].a) ∧ w'.cell? ⟨bx, 1, none⟩ = some (.int .i64 ws[k].b)) hm (by kernel_rfl) (by rintro ⟨_, _, h⟩; exact h) ⟨x1, b0, b1⟩ (fun hS => ?_)
    refine wpAnyH_take (i := 0) (v := .pointer (some ⟨pb, 0, none⟩)) rfl (by kernel_rfl) (by kernel_rfl) (by kernel_rfl) (fun _ _ _ h => h) (Or.inl ⟨by rfl, ?_⟩) hS ?_
    · intro w' hSw
      obtain ⟨e0, e1, e2⟩ := hSw
      go_simp
    try simp only [Act.put, List.getElem_toArray, List.getElem_cons_zero, List.getElem_cons_succ, List.setIfInBounds_toArray, List.set_cons_zero, List.set_cons_succ]
    refine wpAnyH_take (i := 1) (v := .pointer (some ⟨pb, 0, none⟩)) rfl (by kernel_rfl) (by kernel_rfl) (by kernel_rfl) (fun _ _ _ h => h) (Or.inl ⟨by rfl, ?_⟩) hS ?_
    · intro w' hSw
      obtain ⟨e0, e1, e2⟩ := hSw
      go_simp
    try simp only [Act.put, List.getElem_toArray, List.getElem_cons_zero, List.getElem_cons_succ, List.setIfInBounds_toArray, List.set_cons_zero, List.set_cons_succ]
    refine wpAnyH_take (i := 6) (v := .agg #[.int .i64 ws[k].a, .int .i64 ws[k].b]) rfl (by kernel_rfl) (by kernel_rfl) (by kernel_rfl) (fun _ _ _ h => h) (Or.inl ⟨by rfl, ?_⟩) hS ?_
    · intro w' hSw
      obtain ⟨e0, e1, e2⟩ := hSw
      go_simp
    try simp only [Act.put, List.getElem_toArray, List.getElem_cons_zero, List.getElem_cons_succ, List.setIfInBounds_toArray, List.set_cons_zero, List.set_cons_succ]
    refine wpAnyH_take (i := 2) (v := .pointer (some ⟨pb, 0, none⟩)) rfl (by kernel_rfl) (by kernel_rfl) (by kernel_rfl) (fun _ _ _ h => h) (Or.inl ⟨by rfl, ?_⟩) hS ?_
    · intro w' hSw
      obtain ⟨e0, e1, e2⟩ := hSw
      go_simp
    try simp only [Act.put, List.getElem_toArray, List.getElem_cons_zero, List.getElem_cons_succ, List.setIfInBounds_toArray, List.set_cons_zero, List.set_cons_succ]
    refine wpAnyH_take (i := 3) (v := .pointer (some ⟨pb, 5, none⟩)) rfl (by kernel_rfl) (by kernel_rfl) (by kernel_rfl) (fun _ _ _ h => h) (Or.inl ⟨by rfl, ?_⟩) hS ?_
    · intro w' hSw
      obtain ⟨e0, e1, e2⟩ := hSw
      go_simp
    try simp only [Act.put, List.getElem_toArray, List.getElem_cons_zero, List.getElem_cons_succ, List.setIfInBounds_toArray, List.set_cons_zero, List.set_cons_succ]
    refine wpAnyH_take (i := 4) (v := .pointer (some ⟨pb, 6, none⟩)) rfl (by kernel_rfl) (by kernel_rfl) (by kernel_rfl) (fun _ _ _ h => h) (Or.inl ⟨by rfl, ?_⟩) hS ?_
    · intro w' hSw
      obtain ⟨e0, e1, e2⟩ := hSw
      go_simp
    try simp only [Act.put, List.getElem_toArray, List.getElem_cons_zero, List.getElem_cons_succ, List.setIfInBounds_toArray, List.set_cons_zero, List.set_cons_succ]
    have hbp : bx ≠ pb := fun e => by subst e; rw [hbx] at g1; injection g1 with g1; injection g1 with _ g1; exact absurd g1 (by decide)
    have FIN : roundEnd l W2.heap.size (Kpo l) (PlanAt w pb n (.func (.func sf) #[] caps) dn st se ws (k + 1)) W .normal { tmps := #[], defers := [] } (w4.setCell ⟨pb, 6, none⟩ (.slice a4 (k + 1) c4)) := by
      have hW3s : ∀ (j : Nat) (o : Obj), W.heap[j]? = some o → W3.heap[j]? = some o := fun j o h => by rw [hW3]; exact (alloc_old _ _ _ (Array.getElem?_eq_some_iff.1 h).1).trans h
      have keepJ : ∀ (j : Nat) (o : Obj), W.heap[j]? = some o → (∀ cs t fr, o = .cells cs t fr → t ≠ 113 ∧ t ≠ 87) → (w4.setCell ⟨pb, 6, none⟩ (.slice a4 (k + 1) c4)).heap[j]? = some o := fun j o h ho => by
        refine (Below.heap_setCell _ _ _ j (fun e => ?_)).trans ((gr4.block j (Array.getElem?_eq_some_iff.1 (hW3s j o h)).1 (fun e => ?_)).trans (hW3s j o h))
        · rw [show j = pb from e] at h
          rw [g1] at h
          injection h with h
          exact (ho _ _ _ h.symm).1 rfl
        · rcases o3.2 with ⟨hv, _⟩ | ⟨g', cap', cur, hv, _, hg', _⟩
          · rw [hv] at e; simp [Value.ownBlock] at e
          · rw [hv] at e
            simp [Value.ownBlock] at e
            subst e
            rw [hW3s _ _ h] at hg'
            injection hg' with hg'
            exact (ho _ _ _ hg').2 rfl
      refine ⟨(keepJ l _ hrl (fun cs t fr e => by cases e)).trans hrl.symm, (keepJ _ _ hod (fun cs t fr e => by rw [e] at hodc; simp [Obj.isCells] at hodc)).trans hod.symm, fun j o _ h ho => keepJ j o h ho, a4, c4, ?_, ?_, ?_⟩
      · have := cur_set F4 6 (.slice a4 (k + 1) c4)
        exact this
      · have e : flatW (ws.take (k + 1)) = flatW (ws.take k) ++ flatW [ws[k]] := by rw [List.take_succ_eq_append_getElem hk, flatW_app]
        rw [e]
        exact o4.kept (set_grown w4 pb 6 _) (.inr (own_other o4 F4 (by decide)))
      · have a1 : w.grownBy W3 (some pb) := by rw [hW3]; exact grown_trans g3 (grown_trans (World.grownBy_alloc W _ (some pb)) (drewN_grown _ 1 (some pb)))
        refine grown_trans (w1 := w4) ⟨gr4.os.trans a1.os, gr4.tape.trans a1.tape, gr4.output.trans a1.output, Nat.le_trans a1.size gr4.size, fun j hj hn => (gr4.block j (Nat.lt_of_lt_of_le hj a1.size) (fun e => ?_)).trans (a1.block j hj hn)⟩ (set_grown w4 pb 6 _)
        have := (o3.lt j e.symm).1
        omega
    refine wpAnyH_ready (rs := [5, 7]) (by kernel_rfl) (by simp) ?_
    refine AllReadyH.cons rfl (fun K hK => ?_) (AllReadyH.cons rfl (fun K hK => ?_) AllReadyH.nil)
    · go_simp
      refine hK.out _ _ ⟨x1, b0, b1⟩ (fun hS => ?_)
      clear hK K
      try simp only [Act.put, List.getElem_toArray, List.getElem_cons_zero, List.getElem_cons_succ, List.setIfInBounds_toArray, List.set_cons_zero, List.set_cons_succ]
      refine wpAnyH_ready (rs := [7]) (by kernel_rfl) (by simp) ?_
      refine AllReadyH.cons rfl (fun K hK => ?_) AllReadyH.nil
      go_simp
      refine hK.out _ _ ⟨cell_keep x1 (below_drew (below_box (Below.refl _ W) _)), cell_keep b0 (below_drew (below_box (Below.refl _ W) _)), cell_keep b1 (below_drew (below_box (Below.refl _ W) _))⟩ (fun hS => ?_)
      clear hK K
      try simp only [Act.put, List.getElem_toArray, List.getElem_cons_zero, List.getElem_cons_succ, List.setIfInBounds_toArray, List.set_cons_zero, List.set_cons_succ]
      refine wpAnyH_ready (rs := [8]) (by kernel_rfl) (by simp) ?_
      refine AllReadyH.cons rfl (fun K hK => ?_) AllReadyH.nil
      refine step_app_runS (by rfl) _ _ _ _ ⟨by rfl, by rfl⟩ (.slice a k cap) (.slice (some ⟨W.heap.size, 0, none⟩) 1 1) (by rfl) (by rfl) _ _ hrun ?_
      refine hK.out _ _ ⟨y1, z0, z1⟩ (fun hS => ?_)
      clear hK K
      try simp only [Act.put, List.getElem_toArray, List.getElem_cons_zero, List.getElem_cons_succ, List.setIfInBounds_toArray, List.set_cons_zero, List.set_cons_succ]
      refine wpAnyH_take (i := 9) (v := .pointer (some ⟨pb, 0, none⟩)) rfl (by kernel_rfl) (by kernel_rfl) (by kernel_rfl) (fun _ _ _ h => h) (Or.inl ⟨by rfl, ?_⟩) hS ?_
      · intro w' hSw
        obtain ⟨e0, e1, e2⟩ := hSw
        go_simp
      try simp only [Act.put, List.getElem_toArray, List.getElem_cons_zero, List.getElem_cons_succ, List.setIfInBounds_toArray, List.set_cons_zero, List.set_cons_succ]
      refine wpAnyH_take (i := 10) (v := .pointer (some ⟨pb, 5, none⟩)) rfl (by kernel_rfl) (by kernel_rfl) (by kernel_rfl) (fun _ _ _ h => h) (Or.inl ⟨by rfl, ?_⟩) hS ?_
      · intro w' hSw
        obtain ⟨e0, e1, e2⟩ := hSw
        go_simp
      try simp only [Act.put, List.getElem_toArray, List.getElem_cons_zero, List.getElem_cons_succ, List.setIfInBounds_toArray, List.set_cons_zero, List.set_cons_succ]
      refine wpAnyH_take (i := 11) (v := .pointer (some ⟨pb, 6, none⟩)) rfl (by kernel_rfl) (by kernel_rfl) (by kernel_rfl) (fun _ _ _ h => h) (Or.inl ⟨by rfl, ?_⟩) hS ?_
      · intro w' hSw
        obtain ⟨e0, e1, e2⟩ := hSw
        go_simp
      try simp only [Act.put, List.getElem_toArray, List.getElem_cons_zero, List.getElem_cons_succ, List.setIfInBounds_toArray, List.set_cons_zero, List.set_cons_succ]
      refine wpAnyH_ready (rs := [12]) (by kernel_rfl) (by simp) ?_
      refine AllReadyH.cons rfl (fun K hK => ?_) AllReadyH.nil
      go_simp
      refine hK.out _ _ ⟨cell_set y1 (by omega), cell_set z0 (by omega), cell_set z1 (by omega)⟩ (fun hS => ?_)
      clear hK K
      try simp only [Act.put, List.getElem_toArray, List.getElem_cons_zero, List.getElem_cons_succ, List.setIfInBounds_toArray, List.set_cons_zero, List.set_cons_succ]
      refine wpAnyH_done (by kernel_rfl) ?_ _
      gi_wp2
      exact FIN
    · go_simp
      refine hK.out _ _ ⟨cell_keep x1 (below_drew (below_box (Below.refl _ W) _)), cell_keep b0 (below_drew (below_box (Below.refl _ W) _)), cell_keep b1 (below_drew (below_box (Below.refl _ W) _))⟩ (fun hS => ?_)
      clear hK K
      try simp only [Act.put, List.getElem_toArray, List.getElem_cons_zero, List.getElem_cons_succ, List.setIfInBounds_toArray, List.set_cons_zero, List.set_cons_succ]
      refine wpAnyH_ready (rs := [5]) (by kernel_rfl) (by simp) ?_
      refine AllReadyH.cons rfl (fun K hK => ?_) AllReadyH.nil
      have p6' : (W.alloc (.cells #[.int .i64 ws[k].a, .int .i64 ws[k].b] 87)).cell? ⟨pb, 6, none⟩ = some (.slice a k cap) := cell_keep p6 (below_box (Below.refl _ W) _)
      go_simp
      refine hK.out _ _ ⟨cell_keep x1 (below_drew (below_box (Below.refl _ W) _)), cell_keep b0 (below_drew (below_box (Below.refl _ W) _)), cell_keep b1 (below_drew (below_box (Below.refl _ W) _))⟩ (fun hS => ?_)
      clear hK K
      try simp only [Act.put, List.getElem_toArray, List.getElem_cons_zero, List.getElem_cons_succ, List.setIfInBounds_toArray, List.set_cons_zero, List.set_cons_succ]
      refine wpAnyH_ready (rs := [8]) (by kernel_rfl) (by simp) ?_
      refine AllReadyH.cons rfl (fun K hK => ?_) AllReadyH.nil
      refine step_app_runS (by rfl) _ _ _ _ ⟨by rfl, by rfl⟩ (.slice a k cap) (.slice (some ⟨W.heap.size, 0, none⟩) 1 1) (by rfl) (by rfl) _ _ hrun ?_
      refine hK.out _ _ ⟨y1, z0, z1⟩ (fun hS => ?_)
      clear hK K
      try simp only [Act.put, List.getElem_toArray, List.getElem_cons_zero, List.getElem_cons_succ, List.setIfInBounds_toArray, List.set_cons_zero, List.set_cons_succ]
      refine wpAnyH_take (i := 9) (v := .pointer (some ⟨pb, 0, none⟩)) rfl (by kernel_rfl) (by kernel_rfl) (by kernel_rfl) (fun _ _ _ h => h) (Or.inl ⟨by rfl, ?_⟩) hS ?_
      · intro w' hSw
        obtain ⟨e0, e1, e2⟩ := hSw
        go_simp
      try simp only [Act.put, List.getElem_toArray, List.getElem_cons_zero, List.getElem_cons_succ, List.setIfInBounds_toArray, List.set_cons_zero, List.set_cons_succ]
      refine wpAnyH_take (i := 10) (v := .pointer (some ⟨pb, 5, none⟩)) rfl (by kernel_rfl) (by kernel_rfl) (by kernel_rfl) (fun _ _ _ h => h) (Or.inl ⟨by rfl, ?_⟩) hS ?_
      · intro w' hSw
        obtain ⟨e0, e1, e2⟩ := hSw
        go_simp
      try simp only [Act.put, List.getElem_toArray, List.getElem_cons_zero, List.getElem_cons_succ, List.setIfInBounds_toArray, List.set_cons_zero, List.set_cons_succ]
      refine wpAnyH_take (i := 11) (v := .pointer (some ⟨pb, 6, none⟩)) rfl (by kernel_rfl) (by kernel_rfl) (by kernel_rfl) (fun _ _ _ h => h) (Or.inl ⟨by rfl, ?_⟩) hS ?_
      · intro w' hSw
        obtain ⟨e0, e1, e2⟩ := hSw
        go_simp
      try simp only [Act.put, List.getElem_toArray, List.getElem_cons_zero, List.getElem_cons_succ, List.setIfInBounds_toArray, List.set_cons_zero, List.set_cons_succ]
      refine wpAnyH_ready (rs := [12]) (by kernel_rfl) (by simp) ?_
      refine AllReadyH.cons rfl (fun K hK => ?_) AllReadyH.nil
      go_simp
      refine hK.out _ _ ⟨cell_set y1 (by omega), cell_set z0 (by omega), cell_set z1 (by omega)⟩ (fun hS => ?_)
      clear hK K
      try simp only [Act.put, List.getElem_toArray, List.getElem_cons_zero, List.getElem_cons_succ, List.setIfInBounds_toArray, List.set_cons_zero, List.set_cons_succ]
      refine wpAnyH_done (by kernel_rfl) ?_ _
      gi_wp2
      exact FIN
end Go.Proofs.Ytaedamnhobcdlaa
end

section
namespace Go.Proofs.Ytaedamnhobcdlaa
open Go.RowKit
set_option linter.unusedVariables false
set_option linter.unusedSimpArgs false
set_option maxRecDepth 100000

theorem plan_set {w W : World} {pb n k : Nat} {sv : Value} {dn st se : Int} {ws : List WireM} (h : PlanAt w pb n sv dn st se ws k W) (d : Int) : PlanAt w pb n sv d st se ws k (W.setCell ⟨pb, 2, none⟩ (.int .u32 d)) := by
  obtain ⟨a, cap, h1, h2, h3⟩ := h
  exact ⟨a, cap, cur_set h1 2 _, h2.kept (set_grown W pb 2 _) (.inr (own_other h2 h1 (by decide))), grown_trans h3 (set_grown W pb 2 _)⟩
theorem plan_set3 {w W : World} {pb n k : Nat} {sv : Value} {dn st se : Int} {ws : List WireM} (h : PlanAt w pb n sv dn st se ws k W) (d : Int) : PlanAt w pb n sv dn d se ws k (W.setCell ⟨pb, 3, none⟩ (.int .i32 d)) := by
  obtain ⟨a, cap, h1, h2, h3⟩ := h
  exact ⟨a, cap, cur_set h1 3 _, h2.kept (set_grown W pb 3 _) (.inr (own_other h2 h1 (by decide))), grown_trans h3 (set_grown W pb 3 _)⟩
theorem noDisable (w : World) : (callFunc 118 #[]).run Try.prog w = .ok (.value (.tuple #[])) w := run_call_mark0 Try.func118 (by kernel_rfl) (by kernel_rfl) (by kernel_rfl) .disable (by kernel_rfl) w
theorem noEnable (w : World) : (callFunc 120 #[]).run Try.prog w = .ok (.value (.tuple #[])) w := run_call_mark0 Try.func120 (by kernel_rfl) (by kernel_rfl) (by kernel_rfl) .enable (by kernel_rfl) w
theorem noAcquire (a : Addr) (w : World) : (callFunc 121 #[.pointer (some a)]).run Try.prog w = .ok (.value (.tuple #[])) w := run_call_marked Try.func121 (by kernel_rfl) (by kernel_rfl) (by kernel_rfl) .acquire (by kernel_rfl) a w
theorem noRelease (a : Addr) (w : World) : (callFunc 123 #[.pointer (some a)]).run Try.prog w = .ok (.value (.tuple #[])) w := run_call_marked Try.func123 (by kernel_rfl) (by kernel_rfl) (by kernel_rfl) .releaseMerge (by kernel_rfl) a w
theorem storeD (a : Addr) (x : Value) (u : FrameMode) (w : World) (hc : w.cell? a = some x) (hz : w.frozen? a = false) :
    CallsD Try.prog 112 #[.pointer (some a), .bool true] u w fun e u' w' => u' = u ∧ (e = .returned (.tuple #[]) ∧ w' = w.drew.setCell a (.int .u32 1)) := by
  have hc' : w.drew.cell? a = some x := by go_simp
  have hz' : w.drew.frozen? a = false := by go_simp
  have hst := run_call_store (P := Try.prog) Try.func116 (by kernel_rfl) (by kernel_rfl) (by kernel_rfl) (by kernel_rfl) (k := .u32) (y := 1) hc' hz'
  go_enter_d Try.func112, Try.ntmps112
  go_wp2
  go_region_calls
  all_goals (go_end0; exact ⟨rfl, rfl⟩)
theorem unlockD (a : Addr) (u : FrameMode) (w : World) (hc : w.cell? a = some (.int .i32 1)) (hz : w.frozen? a = false) :
    CallsD Try.prog 111 #[.pointer (some a)] u w fun e u' w' => u' = u ∧ (e = .returned (.tuple #[]) ∧ w' = w.setCell a (.int .i32 0)) := by
  have hd := noDisable
  have he := noEnable
  have hr := noRelease
  have hadd := run_call_add (P := Try.prog) Try.func124 (by kernel_rfl) (by kernel_rfl) (by kernel_rfl) .i32 (by kernel_rfl) (y := -1) (s := 0) hc hz (by simp [go_sem]; rfl)
  have hcv := run_convert_to_unsafe (P := Try.prog) (src := 138) (dst := 142) Try.underlying138 Try.underlying142 (by kernel_rfl) hc
  go_enter_d Try.func111, Try.ntmps111
  go_wp2
  go_end0
  go_wp2
  go_end0
  exact ⟨rfl, rfl⟩
theorem lockFree (a : Addr) (w : World) (hc : w.cell? a = some (.int .i32 0)) (hz : w.frozen? a = false) :
    Calls Try.prog 110 #[.pointer (some a)] w fun e w' => e = .returned (.tuple #[]) ∧ w' = w.setCell a (.int .i32 1) := by
  have hd := noDisable
  have he := noEnable
  have ha := noAcquire
  have hcas := run_call_cas_hit (P := Try.prog) Try.func119 (by kernel_rfl) (by kernel_rfl) (by kernel_rfl) .i32 (by kernel_rfl) (y := 1) hc hz
  have hc' : (w.setCell a (.int .i32 1)).cell? a = some (.int .i32 1) := World.cell?_setCell_same w a _ hc
  have hcv := run_convert_to_unsafe (P := Try.prog) (src := 138) (dst := 142) Try.underlying138 Try.underlying142 (by kernel_rfl) hc'
  go_enter Try.func110, Try.ntmps110
  go_wp2
  first | go_end0 | (simp only [Exit.inBlock, Exit.then]; refine bodyPost_ret (results_none rfl _ _ _) rfl ?_) | refine bodyPost_ret (results_none rfl _ _ _) rfl ?_
  go_wp2
  go_end0
  exact ⟨rfl, rfl⟩
end Go.Proofs.Ytaedamnhobcdlaa
end

section
namespace Go.Proofs.Ytaedamnhobcdlaa
open Go.RowKit
set_option linter.unusedVariables false
set_option linter.unusedSimpArgs false
set_option maxRecDepth 100000

/-- What lies where a plan is asked for its net: the plan, its steps and what they hold. -/
structure PlanIn (pb Bn n sf : Nat) (caps : Array Value) (σs : List (Nat → Nat)) (dn st se : Int) (w : World) : Prop where
  h64 : n ≤ 64
  hsf : ∀ args w, (callFunc sf args).run Try.prog w = .ok (.enter sf args) w
  hst : ∀ (m l B : Nat) (I : Nat → World → Prop) (Kp : World → World → Prop) (W : World), (∀ k W1, I k W1 → W1.cell? ⟨Bn, 0, none⟩ = some (.int .i64 n)) → SeqAll Try.prog m sf #[] caps σs.length l B I (StepV σs) Kp W
  hlen : (allW n σs).length ≤ 4096
  hB : w.heap[Bn]? = some (.cells #[.int .i64 n] 3 (0, 0))
  hp : w.heap[pb]? = some (.cells (planC n (.func (.func sf) #[] caps) dn st se 0 (.slice none 0 0)) 113 (0, 0))
theorem PlanIn.ne {pb Bn n sf : Nat} {caps : Array Value} {σs : List (Nat → Nat)} {dn st se : Int} {w : World} (h : PlanIn pb Bn n sf caps σs dn st se w) : Bn ≠ pb := fun e => by
  have h1 := h.hB
  have h2 := h.hp
  rw [e, h2] at h1
  injection h1 with h1
  injection h1 with _ h1
  exact absurd h1 (by decide)
theorem PlanIn.lock {pb Bn n sf : Nat} {caps : Array Value} {σs : List (Nat → Nat)} {dn st se : Int} {w : World} (h : PlanIn pb Bn n sf caps σs dn st se w) (d : Int) : PlanIn pb Bn n sf caps σs dn d se (w.setCell ⟨pb, 3, none⟩ (.int .i32 d)) :=
  ⟨h.h64, h.hsf, h.hst, h.hlen, (Below.heap_setCell _ _ _ _ h.ne).trans h.hB, cur_set h.hp 3 _⟩
theorem PlanIn.below {pb Bn n sf : Nat} {caps : Array Value} {σs : List (Nat → Nat)} {dn st se : Int} {w w' : World} (h : PlanIn pb Bn n sf caps σs dn st se w) (hb : Below w.heap.size w w') : PlanIn pb Bn n sf caps σs dn st se w' :=
  ⟨h.h64, h.hsf, h.hst, h.hlen, kept_block h.hB hb, kept_block h.hp hb⟩
theorem PlanAt.base {w w0 W : World} {pb n k : Nat} {sv : Value} {dn st se : Int} {ws : List WireM} (h : PlanAt w pb n sv dn st se ws k W) (hs : w0.heap.size = w.heap.size) (hg : w0.grownBy w (some pb)) : PlanAt w0 pb n sv dn st se ws k W := by
  obtain ⟨a, cap, h1, h2, h3⟩ := h
  exact ⟨a, cap, h1, by rw [hs]; exact h2, grown_trans hg h3⟩
theorem loadC (a : Addr) (w : World) (h : w.cell? a = some (.int .u32 0)) : Calls Try.prog 106 #[.pointer (some a)] w fun e w' => e = .returned (.bool false) ∧ w' = w := by
  have hl := run_call_load (P := Try.prog) Try.func109 (by kernel_rfl) (by kernel_rfl) (by kernel_rfl) .u32 (by kernel_rfl) (w := w) (a := a) (x := 0) h
  go_enter Try.func106, Try.ntmps106
  go_wp2
  go_ret
  exact ⟨rfl, rfl⟩
set_option maxHeartbeats 2000000 in
theorem slowC (xb pb Bn n sf : Nat) (caps : Array Value) (σs : List (Nat → Nat)) (se : Int) (w : World) (h : PlanIn pb Bn n sf caps σs 0 0 se w) (hx : w.heap[xb]? = some (.cells #[.pointer (some ⟨pb, 0, none⟩)] 99 (0, 0))) :
    Calls Try.prog 107 #[.pointer (some ⟨pb, 2, none⟩), .func (.func 98) #[] #[.pointer (some ⟨xb, 0, none⟩)]] w fun e w' => e = .returned (.tuple #[]) ∧ PlanAt w pb n (.func (.func sf) #[] caps) 1 0 se (allW n σs) (allW n σs).length w' := by
  have hxp : xb ≠ pb := fun e => by
    have h2 := h.hp
    rw [← e, hx] at h2
    injection h2 with h2
    injection h2 with _ h2
    exact absurd h2 (by decide)
  have q3 : w.cell? ⟨pb, 3, none⟩ = some (.int .i32 0) := cur_cell h.hp 3
  have f3 := cur_free h.hp 3
  obtain ⟨w1, hw1⟩ : ∃ w1, w1 = w.setCell ⟨pb, 3, none⟩ (.int .i32 1) := ⟨_, rfl⟩
  have h1 := h.lock 1
  rw [← hw1] at h1
  have s1 : w.heap.size = w1.heap.size := by rw [hw1]; simp
  have G1 := Lib.hid (show w.grownBy w1 (some pb) from by rw [hw1]; exact set_grown _ _ _ _)
  have hx1 : w1.heap[xb]? = some (.cells #[.pointer (some ⟨pb, 0, none⟩)] 99 (0, 0)) := by rw [hw1]; exact (Below.heap_setCell _ _ _ _ hxp).trans hx
  have L := Lib.hid (lockFree ⟨pb, 3, none⟩ w q3 f3)
  rw [← hw1] at L
  have LD := Lib.hid (loadC ⟨pb, 2, none⟩ w1 (cur_cell h1.hp 2))
  have C := Lib.hid (callsIn_wide.1 (net1C 0 xb pb Bn n sf caps σs 0 1 se w1 h1.h64 h1.hsf h1.hst h1.hlen hx1 h1.hB h1.hp))
  have S1 := Lib.hid s1
  have hnot : ∀ (x : Bool) (w : World), (Op.unary .not (.bool x)).run Try.prog w = .ok (.bool (!x)) w := fun _ _ => rfl
  clear h h1 hx hx1 hw1 s1 q3 f3
  go_enter_defers Try.func107, Try.ntmps107
  go_wp2_with (go_at_call 110; refine L.out.mono ?_; rintro e w' ⟨rfl, rfl⟩)
  refine LD.out.mono ?_
  rintro e w2 ⟨rfl, rfl⟩
  clear L LD
  go_wp2_with fail
  refine C.out.mono ?_
  rintro e w3 ⟨⟨v, rfl⟩, hP⟩
  have P1 := Lib.hid (hP.base S1.out G1.out)
  obtain ⟨a, cap, g1, g2, g3⟩ := hP
  have F2 : Hid (w3.cell? ⟨pb, 2, none⟩ = some (.int .u32 0) ∧ w3.frozen? ⟨pb, 2, none⟩ = false) := Lib.hid ⟨cur_cell g1 2, cur_free g1 2⟩
  have F3 : Hid ((w3.drew.setCell ⟨pb, 2, none⟩ (.int .u32 1)).cell? ⟨pb, 3, none⟩ = some (.int .i32 1) ∧ (w3.drew.setCell ⟨pb, 2, none⟩ (.int .u32 1)).frozen? ⟨pb, 3, none⟩ = false) := Lib.hid ⟨(World.cell?_setCell_other _ ⟨pb, 2, none⟩ ⟨pb, 3, none⟩ _ (by simp)).trans (cur_cell (w := w3.drew) g1 3), (by rw [World.frozen?_setCell]; exact cur_free (w := w3.drew) g1 3)⟩
  clear g1 g2 g3 C
  go_wp2
  refine leaves_cons (f := 112) (args := #[.pointer (some ⟨pb, 2, none⟩), .bool true]) (by simp) (by simp [go_sem]) ?_
  refine (storeD ⟨pb, 2, none⟩ (.int .u32 0) .returning _ F2.out.1 F2.out.2).mono ?_
  rintro e u' w'' ⟨rfl, rfl, rfl⟩
  refine leaves_cons (f := 111) (args := #[.pointer (some ⟨pb, 3, none⟩)]) (by simp [settle]) (by simp [go_sem]) ?_
  refine (unlockD ⟨pb, 3, none⟩ _ _ F3.out.1 F3.out.2).mono ?_
  rintro e u' w'' ⟨rfl, rfl, rfl⟩
  have R := plan_set3 (plan_set (P1.out.drew 1) 1) 0
  simp [Leaves, settle, results, Try.results107]
  exact R
set_option maxHeartbeats 1000000 in
theorem doC (xb pb Bn n sf : Nat) (caps : Array Value) (σs : List (Nat → Nat)) (se : Int) (w : World) (h : PlanIn pb Bn n sf caps σs 0 0 se w) (hx : w.heap[xb]? = some (.cells #[.pointer (some ⟨pb, 0, none⟩)] 99 (0, 0))) :
    Calls Try.prog 97 #[.pointer (some ⟨pb, 2, none⟩), .func (.func 98) #[] #[.pointer (some ⟨xb, 0, none⟩)]] w fun e w' => e = .returned (.tuple #[]) ∧ PlanAt w pb n (.func (.func sf) #[] caps) 1 0 se (allW n σs) (allW n σs).length w' := by
  have LD := Lib.hid (loadC ⟨pb, 2, none⟩ w (cur_cell h.hp 2))
  have C := Lib.hid (slowC xb pb Bn n sf caps σs se w h hx)
  clear h hx
  go_enter Try.func97, Try.ntmps97
  go_wp2_with fail
  refine LD.out.mono ?_
  rintro e w2 ⟨rfl, rfl⟩
  clear LD
  go_wp2_with fail
  refine C.out.mono ?_
  rintro e w3 ⟨rfl, hP⟩
  go_wp2
  go_end0
  exact ⟨rfl, hP⟩
set_option maxHeartbeats 1000000 in
theorem netC (pb Bn n sf : Nat) (caps : Array Value) (σs : List (Nat → Nat)) (se : Int) (w : World) (h : PlanIn pb Bn n sf caps σs 0 0 se w) :
    Calls Try.prog 79 #[.pointer (some ⟨pb, 0, none⟩)] w fun e w' => ∃ c0 c1, e = .returned (.agg #[c0, c1]) ∧ NetOwn w.heap.size w'.heap.size [c0, c1] ⟨n, allW n σs⟩ w' ∧ w.grownBy w' (some pb) := by
  have hpl := cur_lt h.hp
  obtain ⟨w2, hw2⟩ : ∃ w2, w2 = (w.alloc (.cells #[.pointer (some ⟨pb, 0, none⟩)] 99)).alloc (.cells #[.int .i64 0, .slice none 0 0] 36) := ⟨_, rfl⟩
  have b2 : Below w.heap.size w w2 := by rw [hw2]; exact below_box (below_box (Below.refl _ _) _) _
  have hx : w2.heap[w.heap.size]? = some (.cells #[.pointer (some ⟨pb, 0, none⟩)] 99 (0, 0)) := by rw [hw2]; exact (alloc_old _ _ _ (by simp)).trans (alloc_at _ _ _ rfl)
  have hr : w2.heap[w.heap.size + 1]? = some (.cells #[.int .i64 0, .slice none 0 0] 36 (0, 0)) := by rw [hw2]; exact alloc_at _ _ _ (by simp)
  have s2 : w2.heap.size = w.heap.size + 1 + 1 := by rw [hw2]; simp
  have C := Lib.hid (doC w.heap.size pb Bn n sf caps σs se w2 (h.below b2) hx)
  have G2 := Lib.hid (show w.grownBy w2 (some pb) from by rw [hw2]; exact grown_trans (World.grownBy_alloc _ _ _) (World.grownBy_alloc _ _ _))
  have HH := Lib.hid (And.intro hx (And.intro hr (And.intro s2 hpl)))
  clear h b2 hx hr s2 hpl
  go_enter Try.func79, Try.ntmps79
  go_wp2_with fail
  rw [← hw2]
  clear hw2
  refine C.out.mono ?_
  rintro e w3 ⟨rfl, a, cap, g1, g2, g3⟩
  obtain ⟨hx, hr, s2, hpl⟩ := HH.out
  have x3 : w3.cell? ⟨w.heap.size, 0, none⟩ = some (.pointer (some ⟨pb, 0, none⟩)) := cur_cell (kept_grown hx g3 (by simp; omega)) 0
  have r3 := kept_grown hr g3 (by simp; omega)
  have r0 : w3.cell? ⟨w.heap.size + 1, 0, none⟩ = some (.int .i64 0) := cur_cell r3 0
  have r1 : w3.cell? ⟨w.heap.size + 1, 1, none⟩ = some (.slice none 0 0) := cur_cell r3 1
  have fr0 := cur_free r3 0
  have fr1 := cur_free r3 1
  have p5 : w3.cell? ⟨pb, 5, none⟩ = some (.int .i64 n) := cur_cell g1 5
  have p6 : w3.cell? ⟨pb, 6, none⟩ = some (.slice a (allW n σs).length cap) := cur_cell g1 6
  have O : Hid (WireSOwn w2.heap.size w3.heap.size [.slice a (allW n σs).length cap] (allW n σs) w3 ∧ w.grownBy w3 (some pb) ∧ w2.heap.size = w.heap.size + 1 + 1) := Lib.hid ⟨by rw [List.take_length] at g2; exact WireSOwn.mk g2, grown_trans G2.out g3, s2⟩
  clear g1 g2 g3 r3 hx hr s2 C G2 HH
  go_wp2
  refine bodyPost_ret (v := .agg #[.int .i64 n, .slice a (allW n σs).length cap]) (by simp [results, Try.results79, go_sem, r0, r1]) rfl ⟨_, _, rfl, ⟨_, rfl, ?_⟩, ?_⟩
  · have hs := O.out.2.2
    exact (((O.out.1.lies (Nat.le_refl _)).sup _ (fun k k1 k2 => (Below.heap_setCell _ _ _ k (by simp; omega)).trans (Below.heap_setCell _ _ _ k (by simp; omega))))).wide (by omega) (by simp)
  · refine ⟨O.out.2.1.os, O.out.2.1.tape, O.out.2.1.output, by simpa using O.out.2.1.size, fun k hk hn => ?_⟩
    exact (Below.heap_setCell _ _ _ k (by simp; omega)).trans ((Below.heap_setCell _ _ _ k (by simp; omega)).trans (O.out.2.1.block k hk hn))
end Go.Proofs.Ytaedamnhobcdlaa
end
