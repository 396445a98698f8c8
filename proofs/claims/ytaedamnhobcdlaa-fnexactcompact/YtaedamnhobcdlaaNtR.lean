/- A range over a function whose body never leaves the loop: one law, at the wide fence; no program in it. -/
import Derived.RangeFuncNested
import Derived.RangeFuncBound
import Derived.RangeFuncCalls
import Derived.RangeFuncLeaves
import Derived.Test.YtaedamnhobcdlaaOwn
namespace Go.Proofs.Ytaedamnhobcdlaa
open Go.RowKit
set_option linter.unusedVariables false

theorem round_any {n m l : Nat} {P : Program} {f : FuncId} {tmps : Array Value} {assign body : Code} {w : World} {R : Ending → World → Prop} (h : RoundIn Fence.wide n P l f tmps assign body w R) : RoundIn Fence.wide m P l f tmps assign body w R :=
  ⟨h.1, fun c cs _ => h.2 c cs (room_wide _)⟩
theorem calls_any {n m : Nat} {P : Program} {f : FuncId} {args : Array Value} {w : World} {R : Ending → World → Prop} (h : CallsIn Fence.wide n P f args w R) : CallsIn Fence.wide m P f args w R := ⟨h.1, fun cs _ => h.2 cs (room_wide _)⟩
/-- How a round's body may end: off its end, the loop's record and the block for deferred calls as they lay. -/
def roundEnd (l D : Nat) (Kp : World → World → Prop) (I : World → Prop) (W : World) : Exit → Act → World → Prop
  | .normal, _, W' => W'.heap[l]? = W.heap[l]? ∧ W'.heap[D]? = W.heap[D]? ∧ Kp W W' ∧ I W'
  | .ret, _, _ => False
  | .exit _, _, _ => False
  | .goto _, _, _ => False
  | .panic _, _, _ => False
  | .outgrown, _, _ => False
/-- What an iterator is told of the caller's invariant, and what it owes: T rounds, the k-th at a value of which V k says what it is. -/
def SeqAll (P : Program) (n gf : Nat) (first lb : Array Value) (T l B : Nat) (I : Nat → World → Prop) (V : Nat → Value → World → Prop) (Kp : World → World → Prop) (W : World) : Prop :=
  ∀ J : Nat → World → Prop, (∀ k W o, J k W → J k (W.alloc o)) → (∀ k W j, J k W → J k (W.drewN j)) → (∀ (k : Nat) (W : World) (r : Nat) (o o' : Obj), J k W → B ≤ r → W.heap[r]? = some o → o.isCells = false → J k (W.putObj r o')) → (∀ k W1, J k W1 → I k W1 ∧ ∃ r, W1.heap[l]? = some (.loop r)) →
    (∀ k W1 v, k < T → J k W1 → V k v W1 → YieldAt Fence.wide n P l #[v] W1 fun e W' => e = .returned (.bool true) ∧ J (k + 1) W' ∧ Kp W1 W') → J 0 W →
    CallsIn Fence.wide n P gf (first ++ #[.func (.yield l) #[] #[]] ++ lb) W fun e W' => (∃ v, e = .returned v) ∧ J T W'
theorem putObj_get {W : World} {r : Nat} {o o' : Obj} (h : W.heap[r]? = some o) : (W.putObj r o').heap[r]? = some o' := World.putObj_heap_same (Array.getElem?_eq_some_iff.1 h).1

theorem range_all {P : Program} {g : Operand} {ps : Array Tmp} {assign body : Code} {Q : Exit → Act → World → Prop} {a : Act} {w : World} {n : Nat} {gf : Nat} {first lb : Array Value}
    (hg : a.eval g = .func (.func gf) first lb) (eg : ∀ args w, (callFunc gf args).run P w = .ok (.enter gf args) w) (T : Nat) (hps : ps.size = 1)
    (I : Nat → World → Prop) (hIa : ∀ k W o, I k W → I k (W.alloc o)) (hId : ∀ k W j, I k W → I k (W.drewN j)) (hIp : ∀ (k : Nat) (W : World) (r : Nat) (o o' : Obj), I k W → w.heap.size ≤ r → W.heap[r]? = some o → o.isCells = false → I k (W.putObj r o'))
    (V : Nat → Value → World → Prop) (Kp : Nat → World → World → Prop) (hKt : ∀ l A B C, Kp l A B → Kp l B C → Kp l A C) (hKb : ∀ (l : Nat) (W : World) (r r' : Loop), W.heap[l]? = some (.loop r) → Kp l W (W.putObj l (.loop r')))
    (h0 : I 0 w) (Ax : Nat → Act → World → Prop) (hAp : ∀ k a' W l r r', w.heap.size ≤ l → Ax k a' W → W.heap[l]? = some (.loop r) → Ax k a' (W.putObj l (.loop r')))
    (hassign : ∀ (l k : Nat) (v : Value) (W : World) (K : Act → World → Prop), w.heap.size ≤ l → k < T → I k W → V k v W → (∀ a' W', (∀ (j : Nat) (o : Obj), W.heap[j]? = some o → o.isCells = false → W'.heap[j]? = some o) → Kp l W W' → Ax k a' W' → K a' W') →
      assign.wpIn (Fence.wide.inRound l) n P (Exit.then K (fun _ _ _ => False)) { tmps := (ps.zip #[v]).foldl (fun t (p, v) => t.setIfInBounds p v) a.tmps, defers := [] } W)
    (hbody : ∀ (l k : Nat) (a' : Act) (W : World), w.heap.size < l → k < T → (∃ r, W.heap[l]? = some (.loop r)) → (∃ o : Obj, W.heap[w.heap.size]? = some o ∧ o.isCells = false) → Ax k a' W → body.wpIn (Fence.wide.inRound l) n P (roundEnd l w.heap.size (Kp l) (I (k + 1)) W) a' W)
    (hseq : ∀ (l : Nat) (W : World), Below w.heap.size w W → w.heap.size < l → l < W.heap.size → I 0 W → SeqAll P n gf first lb T l W.heap.size I V (Kp l) W)
    (hdone : ∀ (W : World), I T W → W.heap[w.heap.size]? = some (.deferred (some [])) → Q .normal { a with defers := { target := .collected w.heap.size, args := #[] } :: a.defers } W) :
    (Code.rangeFunc g ps assign body).wpIn Fence.wide n P Q a w := by
  refine wpIn_rangeFunc ?_
  intro fn hfn
  obtain ⟨rec, hrec⟩ : ∃ rec : LoopState → Loop, rec = fun st => { state := st, pending := none, fn, tmps := a.tmps, params := ps, assign, body, defers := w.heap.size } := ⟨_, rfl⟩
  obtain ⟨W1, hW1⟩ : ∃ W1, (w.alloc (.deferred (some []))).alloc (.loop (rec .ready)) = W1 := ⟨_, rfl⟩
  have hL1 : W1.heap[w.heap.size + 1]? = some (.loop (rec .ready)) := by
    rw [← hW1]; have := World.alloc_heap_new (w.alloc (.deferred (some []))) (.loop (rec .ready)); rwa [World.size_alloc] at this
  have hK1 : W1.heap[w.heap.size]? = some (.deferred (some [])) := by
    rw [← hW1]; exact (Below.heap_alloc _ _ _ (by simp)).trans (World.alloc_heap_new w _)
  have hI1 : I 0 W1 := by rw [← hW1]; exact hIa _ _ _ (hIa _ _ _ h0)
  have hb1 : Below w.heap.size w W1 := by rw [← hW1]; exact ((Below.refl _ w).alloc (Nat.le_refl _) _).alloc (by simp) _
  have hs1 : W1.heap.size = w.heap.size + 1 + 1 := by rw [← hW1]; simp
  refine ⟨w.heap.size + 1, [{ target := .collected w.heap.size, args := #[] }], W1, { target := .fn (.func gf) lb, args := first ++ #[.func (.yield (w.heap.size + 1)) #[] #[]] }, W1, gf,
    first ++ #[.func (.yield (w.heap.size + 1)) #[] #[]] ++ lb, W1, ?_, ?_, ?_, ?_, ?_, ?_⟩
  · rw [← hW1, hrec]; exact run_enterLoop_outer _ _ _ _ _
  · simp only [resolve, hg]
    simp [go_sem, Deferred.ofValue]
  · intro f' hf'; trivial
  · simp [invoke, go_sem, eg]
  · intro h; simp [Fence.wide] at h
  · refine (calls_any (hseq (w.heap.size + 1) W1 hb1 (by omega) (by omega) hI1
      (fun k W => I k W ∧ W.heap[w.heap.size + 1]? = some (.loop (rec .ready)) ∧ W.heap[w.heap.size]? = some (.deferred (some [])))
      (fun k W o h => ⟨hIa _ _ _ h.1, (Below.heap_alloc _ _ _ (Array.getElem?_eq_some_iff.1 h.2.1).1).trans h.2.1, (Below.heap_alloc _ _ _ (Array.getElem?_eq_some_iff.1 h.2.2).1).trans h.2.2⟩)
      (fun k W j h => ⟨hId _ _ _ h.1, h.2.1, h.2.2⟩)
      (fun k W r o o' h hr ho hc => ⟨hIp _ _ _ _ _ h.1 (by omega) ho hc, (World.putObj_heap_other (by omega)).trans h.2.1, (World.putObj_heap_other (by omega)).trans h.2.2⟩)
      (fun k W h => ⟨h.1, _, h.2.1⟩) ?_ ⟨hI1, hL1, hK1⟩)).mono ?_
    · rintro k W v hk ⟨hi, hl, hd⟩ hv
      have hy := run_yield (P := P) (args := #[v]) hl (by rw [hrec]; simp [hps])
      rw [hrec] at hy
      refine ⟨fn, _, assign, body, hy, roundIn_of_wpIn hfn (hassign _ k v W _ (by omega) hk hi hv ?_)⟩
      clear hy
      intro a' Wa hkeep hkp hax
      have hl' := hkeep _ _ hl rfl
      have hd' := hkeep _ _ hd rfl
      refine ⟨_, run_beginRound hl' (by rw [hrec]), ?_⟩
      have hl2 := putObj_get (o' := .loop { rec .ready with state := .busy }) hl'
      have hd2 : (Wa.putObj (w.heap.size + 1) (.loop { rec .ready with state := .busy })).heap[w.heap.size]? = some (.deferred (some [])) := (World.putObj_heap_other (by omega)).trans hd'
      have hk2 := hKt _ _ _ _ hkp (hKb _ _ _ { rec .ready with state := .busy } hl')
      refine wpIn_mono (hbody _ k a' _ (by omega) hk ⟨_, hl2⟩ ⟨_, hd2, rfl⟩ (hAp _ _ _ _ _ _ (by omega) hax hl')) ?_
      rintro e a3 W3 hp
      cases e with
      | normal =>
        obtain ⟨e1, e2, e3, e4⟩ := hp
        have hl3 := e1.trans hl2
        have hd3 := e2.trans hd2
        have hr := run_endRound (P := P) none hl3
        rw [hrec] at hr
        have hl4 := putObj_get (o' := .loop (rec .ready)) hl3
        rw [hrec] at hl4
        refine ⟨_, _, hr, rfl, ⟨hIp _ _ _ _ _ e4 (by omega) hl3 rfl, by rw [hrec]; exact hl4, (World.putObj_heap_other (by omega)).trans hd3⟩, hKt _ _ _ _ (hKt _ _ _ _ hk2 e3) (hKb _ _ _ _ hl3)⟩
      | ret => exact hp.elim
      | exit id => exact hp.elim
      | goto t => exact hp.elim
      | panic ch => exact hp.elim
      | outgrown => exact hp.elim
    · rintro e W2 ⟨⟨v, rfl⟩, hi, hl, hd⟩
      exact ⟨none, _, by have := run_endLoop (P := P) hl (by rw [hrec]; simp); rw [hrec] at this; exact this, hdone _ (hIp _ _ _ _ _ hi (by omega) hl rfl) ((World.putObj_heap_other (by omega)).trans hd)⟩
end Go.Proofs.Ytaedamnhobcdlaa
