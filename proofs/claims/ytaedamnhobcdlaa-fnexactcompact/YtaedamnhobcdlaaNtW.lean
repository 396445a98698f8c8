/- The wires of a plan: an iterator that ranges over another one. -/
import Derived.Test.YtaedamnhobcdlaaNtI
namespace Go.Proofs.Ytaedamnhobcdlaa
open Go.RowKit Go.Shelf
set_option linter.unusedVariables false
set_option maxRecDepth 100000
attribute [local go_sem] Oper.semAt_some

/-- What a round over the wires keeps: every block but its loop's record, the plans and the rows of wires. -/
def Kpo (l : Nat) (W W' : World) : Prop := ∀ (k : Nat) (o : Obj), k ≠ l → W.heap[k]? = some o → (∀ cs t fr, o = .cells cs t fr → t ≠ 113 ∧ t ≠ 87) → W'.heap[k]? = some o
theorem Kpo.trans {l : Nat} {A B C : World} (h : Kpo l A B) (k : Kpo l B C) : Kpo l A C := fun i o hi e ho => k i o hi (h i o hi e ho) ho
theorem Kpo.keepInt {l : Nat} {W W' : World} {r : Loop} (h : Kpo l W W') (hl : W.heap[l]? = some (.loop r)) : KeepInt W W' := fun k cs fr e => h k _ (fun hk => by subst hk; rw [hl] at e; cases e) e (fun cs' t fr' he => by cases he; exact ⟨by decide, by decide⟩)
theorem KeepInt.put {W : World} {l : Nat} {r : Loop} (hl : W.heap[l]? = some (.loop r)) (o : Obj) : KeepInt W (W.putObj l o) := fun k cs fr e => (World.putObj_heap_other (fun hk => by subst hk; rw [hl] at e; cases e)).trans e
theorem KeepInt.drew (W : World) (j : Nat) : KeepInt W (W.drewN j) := fun _ _ _ h => h
def WireV (ws : List WireM) (k : Nat) (v : Value) (W : World) : Prop := ∃ h : k < ws.length, v = .agg #[.int .i64 ws[k].a, .int .i64 ws[k].b]
theorem WireV.mid {ws pre rest : List WireM} {t : WireM} {W : World} (e : ws = pre ++ t :: rest) : WireV ws pre.length (.agg #[.int .i64 t.a, .int .i64 t.b]) W := by
  subst e
  exact ⟨by simp, by simp⟩
theorem allW_take (n : Nat) (σs : List (Nat → Nat)) (s : Nat) (h : s < σs.length) : allW n σs = allW n (σs.take s) ++ (stepW σs[s] n ++ allW n (σs.drop (s + 1))) := by
  have e : σs = σs.take s ++ σs[s] :: σs.drop (s + 1) := by rw [← List.drop_eq_getElem_cons h, List.take_append_drop]
  conv => lhs; rw [e]
  rw [allW_app]; rfl
theorem allW_take_succ (n : Nat) (σs : List (Nat → Nat)) (s : Nat) (h : s < σs.length) : allW n (σs.take (s + 1)) = allW n (σs.take s) ++ stepW σs[s] n := by
  rw [List.take_succ_eq_append_getElem h, allW_app]
  simp [allW]
theorem stepW_split (σ : Nat → Nat) : ∀ (d a : Nat), ∃ rest, stepW σ (a + d) = stepW σ a ++ rest
  | 0, a => ⟨[], by simp⟩
  | d + 1, a => by
    obtain ⟨rest, h⟩ := stepW_split σ d a
    exact ⟨rest ++ wireAt σ (a + d), by rw [← Nat.add_assoc, stepW_succ, h, List.append_assoc]⟩
set_option maxHeartbeats 4000000 in
theorem wiresIt (m pb Bn n l sf : Nat) (caps : Array Value) (σs : List (Nat → Nat)) (I : Nat → World → Prop) (W : World) (h64 : n ≤ 64) (hsf : ∀ args w, (callFunc sf args).run Try.prog w = .ok (.enter sf args) w)
    (hst : ∀ (m l B : Nat) (I : Nat → World → Prop) (Kp : World → World → Prop) (W : World), (∀ k W1, I k W1 → W1.cell? ⟨Bn, 0, none⟩ = some (.int .i64 n)) → SeqAll Try.prog m sf #[] caps σs.length l B I (StepV σs) Kp W)
    (hI : ∀ k W1, I k W1 → W1.cell? ⟨pb, 0, none⟩ = some (.int .i64 n) ∧ W1.cell? ⟨pb, 1, none⟩ = some (.func (.func sf) #[] caps) ∧ W1.cell? ⟨Bn, 0, none⟩ = some (.int .i64 n)) :
    SeqAll Try.prog m 99 #[.pointer (some ⟨pb, 0, none⟩)] #[] (allW n σs).length l W.heap.size I (WireV (allW n σs)) (Kpo l) W := by
  intro J ja jd jp jr jy j0
  obtain ⟨rl, hl0⟩ := (jr _ _ j0).2
  have hlW : l < W.heap.size := (Array.getElem?_eq_some_iff.1 hl0).1
  show CallsIn Fence.wide m Try.prog 99 #[.pointer (some ⟨pb, 0, none⟩), .func (.yield l) #[] #[]] W _
  refine callsIn_of_wp_marks Try.func99 rfl trivial ?_
  simp only [Try.ntmps99, List.size_toArray, List.length_cons, List.length_nil, Nat.reduceAdd, Nat.reduceSub, Array.replicate_succ, Array.replicate_zero, List.push_toArray, List.append_toArray, List.nil_append, List.cons_append]
  have j2 := ja _ _ (.cells #[.func (.yield l) #[] #[]] 130) (ja _ _ (.cells #[.pointer (some ⟨pb, 0, none⟩)] 99) j0)
  have q1 := (hI _ _ (jr _ _ j2).1).2.1
  gi_wp2
  obtain ⟨W2, hW2⟩ : ∃ W2, W2 = (W.alloc (.cells #[.pointer (some ⟨pb, 0, none⟩)] 99)).alloc (.cells #[.func (.yield l) #[] #[]] 130) := ⟨_, rfl⟩
  have k0 : W2.heap[W.heap.size]? = some (.cells #[.pointer (some ⟨pb, 0, none⟩)] 99 (0, 0)) := by rw [hW2]; exact (alloc_old _ _ _ (by simp)).trans (alloc_at _ _ _ rfl)
  have k1 : W2.heap[W.heap.size + 1]? = some (.cells #[.func (.yield l) #[] #[]] 130 (0, 0)) := by rw [hW2]; exact alloc_at _ _ _ (by simp)
  have s2 : W2.heap.size = W.heap.size + 1 + 1 := by rw [hW2]; simp
  rw [← hW2] at j2 ⊢
  clear hW2 q1
  have hId : ∀ (k : Nat) (Wi : World), (J (allW n (σs.take k)).length Wi ∧ Wi.heap[W.heap.size]? = some (.cells #[.pointer (some ⟨pb, 0, none⟩)] 99 (0, 0)) ∧ Wi.heap[W.heap.size + 1]? = some (.cells #[.func (.yield l) #[] #[]] 130 (0, 0))) → ∀ (r : Nat) (o o' : Obj), W2.heap.size ≤ r → Wi.heap[r]? = some o → o.isCells = false →
      (J (allW n (σs.take k)).length (Wi.putObj r o') ∧ (Wi.putObj r o').heap[W.heap.size]? = some (.cells #[.pointer (some ⟨pb, 0, none⟩)] 99 (0, 0)) ∧ (Wi.putObj r o').heap[W.heap.size + 1]? = some (.cells #[.func (.yield l) #[] #[]] 130 (0, 0))) :=
    fun k Wi h r o o' hr ho hc => ⟨jp _ _ _ _ _ h.1 (by omega) ho hc, (World.putObj_heap_other (by omega)).trans h.2.1, (World.putObj_heap_other (by omega)).trans h.2.2⟩
  refine range_all (w := W2) (gf := sf) (first := #[]) (lb := caps) rfl hsf σs.length rfl
    (fun k Wi => J (allW n (σs.take k)).length Wi ∧ Wi.heap[W.heap.size]? = some (.cells #[.pointer (some ⟨pb, 0, none⟩)] 99 (0, 0)) ∧ Wi.heap[W.heap.size + 1]? = some (.cells #[.func (.yield l) #[] #[]] 130 (0, 0)))
    (fun k Wi o h => ⟨ja _ _ _ h.1, (alloc_old _ _ _ (cur_lt h.2.1)).trans h.2.1, (alloc_old _ _ _ (cur_lt h.2.2)).trans h.2.2⟩)
    (fun k Wi j h => ⟨jd _ _ _ h.1, h.2.1, h.2.2⟩)
    (fun k Wi r o o' h hr ho hc => hId k Wi h r o o' hr ho hc)
    (StepV σs) (fun _ _ _ => True) (fun _ _ _ _ _ _ => trivial) (fun _ _ _ _ _ => trivial)
    ⟨j2, k0, k1⟩
    (fun k a' Wi => (J (allW n (σs.take k)).length Wi ∧ Wi.heap[W.heap.size]? = some (.cells #[.pointer (some ⟨pb, 0, none⟩)] 99 (0, 0)) ∧ Wi.heap[W.heap.size + 1]? = some (.cells #[.func (.yield l) #[] #[]] 130 (0, 0))) ∧ ∃ v, StepV σs k v Wi ∧
      a' = { tmps := #[.pointer (some ⟨pb, 0, none⟩), .func (.yield l) #[] #[], .pointer (some ⟨W.heap.size, 0, none⟩), .pointer (some ⟨W.heap.size + 1, 0, none⟩), v, undef, undef, .pointer (some ⟨pb, 0, none⟩), .pointer (some ⟨pb, 0, none⟩), .pointer (some ⟨pb, 1, none⟩), .func (.func sf) #[] caps, v, undef, undef, undef, undef, undef, undef, undef, undef, undef, undef, undef, undef, undef, undef, undef, undef, undef, undef, undef, undef, undef, undef], defers := [] })
    (fun k a' Wi l' r r' hl' h ho => ⟨hId k Wi h.1 l' _ _ (by omega) ho rfl, by
      obtain ⟨v, ⟨hk, hv⟩, e⟩ := h.2
      exact ⟨v, ⟨hk, hv.keep (KeepInt.put ho _)⟩, e⟩⟩)
    ?assign ?body ?seq ?done
  case assign =>
    intro l' k v Wi K hl' hk hi hv hK
    gi_wp2
    exact hK _ _ (fun _ _ h _ => h) trivial ⟨hi, v, hv, rfl⟩
  case seq =>
    intro l' Wi hb h1 h2 hi
    exact hst m l' _ _ _ _ (fun k W1 h => (hI _ _ (jr _ _ h.1).1).2.2)
  case done =>
    rintro Wi ⟨hj, hb0, hb1⟩ hD
    rw [List.take_length] at hj
    gi_wp2
    refine ⟨by simp, .inl ⟨_, _, rfl, run_takeDeferred hD, ?_⟩⟩
    exact ⟨_, results_none rfl _ _ _, ⟨_, rfl⟩, jp _ _ _ _ _ hj (by omega) hD rfl⟩
  case body =>
    rintro l' k a' Wi hl' hk ⟨rl', hrl'⟩ ⟨od, hod, hodc⟩ ⟨⟨hj, hb0, hb1⟩, v, ⟨hk', hv⟩, rfl⟩
    obtain ⟨f, fc, rfl, hf, hcall⟩ := hv
    have c0 : Wi.cell? ⟨W.heap.size, 0, none⟩ = some (.pointer (some ⟨pb, 0, none⟩)) := cur_cell hb0 0
    have cn := (hI _ _ (jr _ _ hj).1).1
    have EA := Lib.hid (allW_take n σs k hk)
    have ES := Lib.hid (allW_take_succ n σs k hk)
    generalize σs[k] = σ at *
    generalize hT : allW n (σs.take k) = pre at *
    have HS0 : Hid (J (pre.length + (stepW σ 0).length) Wi ∧ Wi.heap[W.heap.size]? = some (.cells #[.pointer (some ⟨pb, 0, none⟩)] 99 (0, 0)) ∧ Wi.heap[W.heap.size + 1]? = some (.cells #[.func (.yield l) #[] #[]] 130 (0, 0)) ∧ Wi.heap[l']? = some (.loop rl') ∧ Wi.heap[W2.heap.size]? = some od ∧ KeepInt Wi Wi) := Lib.hid ⟨hj, hb0, hb1, hrl', hod, KeepInt.refl _⟩
    have HR : Hid (Wi.heap[l']? = some (.loop rl') ∧ Wi.heap[W2.heap.size]? = some od) := Lib.hid ⟨hrl', hod⟩
    have HL : Hid (W2.heap.size < l' ∧ l < W.heap.size ∧ od.isCells = false) := Lib.hid ⟨hl', hlW, hodc⟩
    clear hj hb0 hb1 hrl' hod
    gi_wp2
    gi_loopw [16, 5, 6] (fun i _ _ wr => ∃ a : Nat, a ≤ n ∧ i = .int .i64 a ∧ Hid (J (pre.length + (stepW σ a).length) wr ∧ wr.heap[W.heap.size]? = some (.cells #[.pointer (some ⟨pb, 0, none⟩)] 99 (0, 0)) ∧ wr.heap[W.heap.size + 1]? = some (.cells #[.func (.yield l) #[] #[]] 130 (0, 0)) ∧ wr.heap[l']? = some (.loop rl') ∧ wr.heap[W2.heap.size]? = some od ∧ KeepInt Wi wr)) (fun i _ _ _ => n - (intOf i).toNat)
    case atStart => exact ⟨0, Nat.zero_le _, rfl, HS0⟩
    case round =>
      clear HS0 c0 cn
      obtain ⟨a, ha, rfl, H⟩ := hrel
      by_cases hlt : a < n
      · have C := Lib.hid (hcall wr H.out.2.2.2.2.2 a (by omega))
        gi_wp2
        refine ⟨trivial, fun h => (by simp [Fence.wide] at h), ?_⟩
        refine (CallsIn.inRound l' (callsIn_wide.2 C.out)).mono ?_
        rintro e w1 ⟨rfl, j, rfl⟩
        clear C
        by_cases hst' : a < σ a
        · have HX : Hid ((stepW σ (a + 1)).length = (stepW σ a).length + 1) := Lib.hid (by rw [stepW_succ, wireAt_yes hst']; simp)
          obtain ⟨rest, hrest⟩ := stepW_split σ (n - (a + 1)) (a + 1)
          rw [show a + 1 + (n - (a + 1)) = n from by omega, stepW_succ, wireAt_yes hst'] at hrest
          have EW : allW n σs = (pre ++ stepW σ a) ++ ⟨(a : Int), (σ a : Int)⟩ :: (rest ++ allW n (σs.drop (k + 1))) := by rw [EA.out, hrest]; simp
          have hlen : pre.length + (stepW σ a).length = (pre ++ stepW σ a).length := by simp
          have hj1 := jd _ _ j H.out.1
          obtain ⟨rl1, hrl1⟩ := (jr _ _ hj1).2
          obtain ⟨fn, tmps, assign, body, hy, hR⟩ := jy _ (wr.drewN j) (.agg #[.int .i64 (a : Int), .int .i64 (σ a : Int)]) (by rw [EW, hlen]; simp) hj1 (by rw [hlen]; exact WireV.mid EW)
          have c1 : (wr.drewN j).cell? ⟨W.heap.size + 1, 0, none⟩ = some (.func (.yield l) #[] #[]) := cur_cell (show (wr.drewN j).heap[W.heap.size + 1]? = _ from H.out.2.2.1) 0
          have HX2 := Lib.hid hrl1
          clear hrest EW hlen hj1 hrl1
          gi_wp2
          refine ⟨fun h => (by simp [Fence.wide] at h), ?_⟩
          refine (show RoundIn (Fence.wide.inRound l') _ _ _ _ _ _ _ _ _ from round_any hR).mono ?_
          rintro e w2 ⟨rfl, hj2, hkp⟩
          have KI := Lib.hid (H.out.2.2.2.2.2.trans ((KeepInt.drew _ j).trans (hkp.keepInt HX2.out)))
          have N : Hid (J (pre.length + (stepW σ (a + 1)).length) w2 ∧ w2.heap[W.heap.size]? = some (.cells #[.pointer (some ⟨pb, 0, none⟩)] 99 (0, 0)) ∧ w2.heap[W.heap.size + 1]? = some (.cells #[.func (.yield l) #[] #[]] 130 (0, 0)) ∧ w2.heap[l']? = some (.loop rl') ∧ w2.heap[W2.heap.size]? = some od ∧ KeepInt Wi w2) := Lib.hid (by
            have hh := HL.out
            refine ⟨by rw [HX.out, ← Nat.add_assoc]; exact hj2, hkp _ _ (by omega) H.out.2.1 (fun cs t fr e => by cases e; exact ⟨by decide, by decide⟩), hkp _ _ (by omega) H.out.2.2.1 (fun cs t fr e => by cases e; exact ⟨by decide, by decide⟩), hkp _ _ (by omega) H.out.2.2.2.1 (fun cs t fr e => by cases e), hkp _ _ (by omega) H.out.2.2.2.2.1 (fun cs t fr e => by rw [e] at hh; exact absurd hh.2.2 (by simp [Obj.isCells])), KI.out⟩)
          clear hR hy hj2 hkp KI c1
          gi_wp2
          go_roundw
          case rel => exact ⟨a + 1, by omega, by go_num, N⟩
          case measure => simp [intOf]; omega
        · have HX : Hid ((stepW σ (a + 1)).length = (stepW σ a).length) := Lib.hid (by rw [stepW_succ, wireAt_no hst']; simp)
          gi_wp2
          refine ⟨fun _ h => (by cases h), ?_⟩
          gi_wp2
          go_roundw
          case rel => exact ⟨a + 1, by omega, by go_num, Lib.hid ⟨by rw [HX.out]; exact jd _ _ _ H.out.1, H.out.2.1, H.out.2.2.1, H.out.2.2.2.1, H.out.2.2.2.2.1, H.out.2.2.2.2.2.trans (KeepInt.drew _ _)⟩⟩
          case measure => simp [intOf]; omega
      · obtain rfl : a = n := by omega
        gi_wp2
        refine ⟨H.out.2.2.2.1.trans HR.out.1.symm, H.out.2.2.2.2.1.trans HR.out.2.symm, trivial, ?_, H.out.2.1, H.out.2.2.1⟩
        rw [ES.out, List.length_append]
        exact H.out.1
end Go.Proofs.Ytaedamnhobcdlaa
