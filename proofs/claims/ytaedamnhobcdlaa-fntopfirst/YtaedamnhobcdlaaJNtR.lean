/- NtR, NtT, Pow, BitsP in one. Written by tools/join.py. -/
import Derived.RangeFuncNested
import Derived.RangeFuncBound
import Derived.RangeFuncCalls
import Derived.RangeFuncLeaves
import Derived.Test.YtaedamnhobcdlaaJBase
import Derived.OrdersHeld
import Derived.OrdersIn
import Derived.Deep.RegionHeld3
import Derived.WalkKit
import Derived.Laws.BitsAllLaws
section
namespace Go.Proofs.Ytaedamnhobcdlaa
open Go.RowKit
set_option linter.unusedVariables false

theorem round_any {n m l : Nat} {P : Program} {f : FuncId} {tmps : Array Value} {assign body : Code} {w : World} {R : Ending → World → Prop} (h : RoundIn Fence.wide n P l f tmps assign body w R) : RoundIn Fence.wide m P l f tmps assign body w R :=
  ⟨h.1, fun c cs _ => h.2 c cs (room_wide _)⟩
theorem calls_any {n m : Nat} {P : Program} {f : FuncId} {args : Array Value} {w : World} {R : Ending → World → Prop} (h : CallsIn Fence.wide n P f args w R) : CallsIn Fence.wide m P f args w R := ⟨h.1, fun cs _ => h.2 cs (room_wide _)⟩
/-- How a round's body may end: off its end, the loop's record and the block for deferred calls as they lay. -/
def roundEnd (l D : Nat) (Kp : World → World → Prop) (I : World → Prop) (W : World) : Exit → Act → World → Prop
  | .normal, _, W' => W'.heap[l]? = W.heap[l]? ∧ W'.heap[D]? = W.heap[D]? ∧ Kp W W' ∧ I W'
  | .ret, _, _ => False
  | .exit _, _, _ => False
  | .goto _, _, _ => False
  | .panic _, _, _ => False
  | .outgrown, _, _ => False
/-- What an iterator is told of the caller's invariant, and what it owes: T rounds, the k-th at a value of which V k says what it is. -/
def SeqAll (P : Program) (n gf : Nat) (first lb : Array Value) (T l B : Nat) (I : Nat → World → Prop) (V : Nat → Value → World → Prop) (Kp : World → World → Prop) (W : World) : Prop :=
  ∀ J : Nat → World → Prop, (∀ k W o, J k W → J k (W.alloc o)) → (∀ k W j, J k W → J k (W.drewN j)) → (∀ (k : Nat) (W : World) (r : Nat) (o o' : Obj), J k W → B ≤ r → W.heap[r]? = some o → o.isCells = false → J k (W.putObj r o')) → (∀ k W1, J k W1 → I k W1 ∧ ∃ r, W1.heap[l]? = some (.loop r)) →
    (∀ k W1 v, k < T → J k W1 → V k v W1 → YieldAt Fence.wide n P l #[v] W1 fun e W' => e = .returned (.bool true) ∧ J (k + 1) W' ∧ Kp W1 W') → J 0 W →
    CallsIn Fence.wide n P gf (first ++ #[.func (.yield l) #[] #[]] ++ lb) W fun e W' => (∃ v, e = .returned v) ∧ J T W'
theorem putObj_get {W : World} {r : Nat} {o o' : Obj} (h : W.heap[r]? = some o) : (W.putObj r o').heap[r]? = some o' := World.putObj_heap_same (Array.getElem?_eq_some_iff.1 h).1

theorem range_all {P : Program} {g : Operand} {ps : Array Tmp} {assign body : Code} {Q : Exit → Act → World → Prop} {a : Act} {w : World} {n : Nat} {gf : Nat} {first lb : Array Value}
    (hg : a.eval g = .func (.func gf) first lb) (eg : ∀ args w, (callFunc gf args).run P w = .ok (.enter gf args) w) (T : Nat) (hps : ps.size = 1)
    (I : Nat → World → Prop) (hIa : ∀ k W o, I k W → I k (W.alloc o)) (hId : ∀ k W j, I k W → I k (W.drewN j)) (hIp : ∀ (k : Nat) (W : World) (r : Nat) (o o' : Obj), I k W → w.heap.size ≤ r → W.heap[r]? = some o → o.isCells = false → I k (W.putObj r o'))
    (V : Nat → Value → World → Prop) (Kp : Nat → World → World → Prop) (hKt : ∀ l A B C, Kp l A B → Kp l B C → Kp l A C) (hKb : ∀ (l : Nat) (W : World) (r r' : Loop), W.heap[l]? = some (.loop r) → Kp l W (W.putObj l (.loop r')))
    (h0 : I 0 w) (Ax : Nat → Act → World → Prop) (hAp : ∀ k a' W l r r', w.heap.size ≤ l → Ax k a' W → W.heap[l]? = some (.loop r) → Ax k a' (W.putObj l (.loop r')))
    (hassign : ∀ (l k : Nat) (v : Value) (W : World) (K : Act → World → Prop), w.heap.size ≤ l → k < T → I k W → V k v W → (∀ a' W', (∀ (j : Nat) (o : Obj), W.heap[j]? = some o → o.isCells = false → W'.heap[j]? = some o) → Kp l W W' → Ax k a' W' → K a' W') →
      assign.wpIn (Fence.wide.inRound l) n P (Exit.then K (fun _ _ _ => False)) { tmps := (ps.zip #[v]).foldl (fun t (p, v) => t.setIfInBounds p v) a.tmps, defers := [] } W)
    (hbody : ∀ (l k : Nat) (a' : Act) (W : World), w.heap.size < l → k < T → (∃ r, W.heap[l]? = some (.loop r)) → (∃ o : Obj, W.heap[w.heap.size]? = some o ∧ o.isCells = false) → Ax k a' W → body.wpIn (Fence.wide.inRound l) n P (roundEnd l w.heap.size (Kp l) (I (k + 1)) W) a' W)
    (hseq : ∀ (l : Nat) (W : World), Below w.heap.size w W → w.heap.size < l → l < W.heap.size → I 0 W → SeqAll P n gf first lb T l W.heap.size I V (Kp l) W)
    (hdone : ∀ (W : World), I T W → W.heap[w.heap.size]? = some (.deferred (some [])) → Q .normal { a with defers := { target := .collected w.heap.size, args := #[] } :: a.defers } W) :
    (Code.rangeFunc g ps assign body).wpIn Fence.wide n P Q a w := by
  refine wpIn_rangeFunc ?_
  intro fn hfn
  obtain ⟨rec, hrec⟩ : ∃ rec : LoopState → Loop, rec = fun st => { state := st, pending := none, fn, tmps := a.tmps, params := ps, assign, body, defers := w.heap.size } := ⟨_, rfl⟩
  obtain ⟨W1, hW1⟩ : ∃ W1, (w.alloc (.deferred (some []))).alloc (.loop (rec .ready)) = W1 := ⟨_, rfl⟩
  have hL1 : W1.heap[w.heap.size + 1]? = some (.loop (rec .ready)) := by
    rw [← hW1]; have := World.alloc_heap_new (w.alloc (.deferred (some []))) (.loop (rec .ready)); rwa [World.size_alloc] at this
  have hK1 : W1.heap[w.heap.size]? = some (.deferred (some [])) := by
    rw [← hW1]; exact (Below.heap_alloc _ _ _ (by simp)).trans (World.alloc_heap_new w _)
  have hI1 : I 0 W1 := by rw [← hW1]; exact hIa _ _ _ (hIa _ _ _ h0)
  have hb1 : Below w.heap.size w W1 := by rw [← hW1]; exact ((Below.refl _ w).alloc (Nat.le_refl _) _).alloc (by simp) _
  have hs1 : W1.heap.size = w.heap.size + 1 + 1 := by rw [← hW1]; simp
  refine ⟨w.heap.size + 1, [{ target := .collected w.heap.size, args := #[] }], W1, { target := .fn (.func gf) lb, args := first ++ #[.func (.yield (w.heap.size + 1)) #[] #[]] }, W1, gf,
    first ++ #[.func (.yield (w.heap.size + 1)) #[] #[]] ++ lb, W1, ?_, ?_, ?_, ?_, ?_, ?_⟩
  · rw [← hW1, hrec]; exact run_enterLoop_outer _ _ _ _ _
  · simp only [resolve, hg]
    simp [go_sem, Deferred.ofValue]
  · intro f' hf'; trivial
  · simp [invoke, go_sem, eg]
  · intro h; simp [Fence.wide] at h
  · refine (calls_any (hseq (w.heap.size + 1) W1 hb1 (by omega) (by omega) hI1
      (fun k W => I k W ∧ W.heap[w.heap.size + 1]? = some (.loop (rec .ready)) ∧ W.heap[w.heap.size]? = some (.deferred (some [])))
      (fun k W o h => ⟨hIa _ _ _ h.1, (Below.heap_alloc _ _ _ (Array.getElem?_eq_some_iff.1 h.2.1).1).trans h.2.1, (Below.heap_alloc _ _ _ (Array.getElem?_eq_some_iff.1 h.2.2).1).trans h.2.2⟩)
      (fun k W j h => ⟨hId _ _ _ h.1, h.2.1, h.2.2⟩)
      (fun k W r o o' h hr ho hc => ⟨hIp _ _ _ _ _ h.1 (by omega) ho hc, (World.putObj_heap_other (by omega)).trans h.2.1, (World.putObj_heap_other (by omega)).trans h.2.2⟩)
      (fun k W h => ⟨h.1, _, h.2.1⟩) ?_ ⟨hI1, hL1, hK1⟩)).mono ?_
    · rintro k W v hk ⟨hi, hl, hd⟩ hv
      have hy := run_yield (P := P) (args := #[v]) hl (by rw [hrec]; simp [hps])
      rw [hrec] at hy
      refine ⟨fn, _, assign, body, hy, roundIn_of_wpIn hfn (hassign _ k v W _ (by omega) hk hi hv ?_)⟩
      clear hy
      intro a' Wa hkeep hkp hax
      have hl' := hkeep _ _ hl rfl
      have hd' := hkeep _ _ hd rfl
      refine ⟨_, run_beginRound hl' (by rw [hrec]), ?_⟩
      have hl2 := putObj_get (o' := .loop { rec .ready with state := .busy }) hl'
      have hd2 : (Wa.putObj (w.heap.size + 1) (.loop { rec .ready with state := .busy })).heap[w.heap.size]? = some (.deferred (some [])) := (World.putObj_heap_other (by omega)).trans hd'
      have hk2 := hKt _ _ _ _ hkp (hKb _ _ _ { rec .ready with state := .busy } hl')
      refine wpIn_mono (hbody _ k a' _ (by omega) hk ⟨_, hl2⟩ ⟨_, hd2, rfl⟩ (hAp _ _ _ _ _ _ (by omega) hax hl')) ?_
      rintro e a3 W3 hp
      cases e with
      | normal =>
        obtain ⟨e1, e2, e3, e4⟩ := hp
        have hl3 := e1.trans hl2
        have hd3 := e2.trans hd2
        have hr := run_endRound (P := P) none hl3
        rw [hrec] at hr
        have hl4 := putObj_get (o' := .loop (rec .ready)) hl3
        rw [hrec] at hl4
        refine ⟨_, _, hr, rfl, ⟨hIp _ _ _ _ _ e4 (by omega) hl3 rfl, by rw [hrec]; exact hl4, (World.putObj_heap_other (by omega)).trans hd3⟩, hKt _ _ _ _ (hKt _ _ _ _ hk2 e3) (hKb _ _ _ _ hl3)⟩
      | ret => exact hp.elim
      | exit id => exact hp.elim
      | goto t => exact hp.elim
      | panic ch => exact hp.elim
      | outgrown => exact hp.elim
    · rintro e W2 ⟨⟨v, rfl⟩, hi, hl, hd⟩
      exact ⟨none, _, by have := run_endLoop (P := P) hl (by rw [hrec]; simp); rw [hrec] at this; exact this, hdone _ (hIp _ _ _ _ _ hi (by omega) hl rfl) ((World.putObj_heap_other (by omega)).trans hd)⟩
end Go.Proofs.Ytaedamnhobcdlaa
end

section
namespace Go.Proofs.Ytaedamnhobcdlaa
open Go.RowKit
set_option linter.unusedVariables false

def noDefer (o : Oper) : Bool := match o.op with | .defer _ => false | _ => true
theorem noDefer_ne {o : Oper} (h : noDefer o = true) : ∀ c, o.op ≠ .defer c := fun c e => by unfold noDefer at h; rw [e] at h; cases h
theorem rows_wide {n : Nat} {P : Program} {row : String} {args : Array Value} {w : World} {R : Value → World → Prop} (l : Nat) (h : Rows P row args w R) : RowsIn (Fence.wide.inRound l) n P row args w R :=
  fun c cs _ => let ⟨v, w', r, s⟩ := h c cs; ⟨v, w', r, (stepsIn_wide (P := P)).2 s⟩
theorem upon_in {P : Program} {o : Oper} {a : Act} {K : Act → World → Prop} {Q : Exit → Act → World → Prop} (l n : Nat) : ∀ r, o.upon P a K Q r → o.uponIn (Fence.wide.inRound l) n P a K Q r
  | .ok x w, h => by
    cases x with
    | value v => exact h
    | skip => exact h
    | defer d => exact h
    | enter f args => exact ⟨fun e => by simp [Fence.wide] at e, CallsIn.inRound l (callsIn_wide.2 h)⟩
    | row r args => exact ⟨fun e => by simp [Fence.wide] at e, rows_wide l h⟩
    | _ => exact h.elim
  | .halt x w, h => by
    cases x with
    | panic v => exact h
    | _ => exact h.elim
theorem any_in {P : Program} {md : Region.Mode} {ops : Array Oper} {Q : Exit → Act → World → Prop} (l n : Nat) (hd : ops.all noDefer = true) (hno : ¬ LetsOut Q) :
    ∀ (fuel : Nat) (listed : Array Bool) (a : Act) (w : World), wpAny P md ops Q fuel listed a w → wpAnyIn (Fence.wide.inRound l) n P md ops Q fuel listed a w
  | 0, _, _, _, h => h
  | fuel + 1, listed, a, w, h => by
    refine ⟨h.1, fun i hi => ?_⟩
    have hop := h.2 i hi
    unfold wpOp at hop
    unfold wpOpIn
    cases ho : ops[i]? with
    | none => simp only [ho] at hop ⊢; exact any_in l n hd hno fuel _ _ _ hop
    | some o =>
      simp only [ho] at hop ⊢
      by_cases hw : Region.wanted o (yielded ops a.tmps) = true
      · simp only [hw, if_true] at hop ⊢
        rcases hop with hop | hop
        · have hnd : noDefer o = true := by
            have := Array.all_eq_true_iff_forall_mem.1 hd o (Array.mem_of_getElem? ho)
            exact this
          refine ⟨fun f _ => trivial, ?_⟩
          rw [Oper.semAt_eq _ _ _ (noDefer_ne hnd)]
          have h2 := Oper.wp_mono (K' := fun a w => wpAnyIn (Fence.wide.inRound l) n P md ops Q fuel (listed.setIfInBounds i true) a w) (fun a w h => any_in l n hd hno fuel _ _ _ h) hop
          exact upon_in l n _ h2
        · exact absurd hop.2 hno
      · simp only [hw] at hop ⊢
        exact ⟨fun f _ => trivial, any_in l n hd hno fuel _ _ _ hop⟩
theorem region_in {P : Program} {ops : Array Oper} {Q : Exit → Act → World → Prop} {l n id : Nat} {a : Act} {w : World} (S : World → Prop) (hm : P.follows .mixedOrders = true) (hd : ops.all noDefer = true) (hno : ¬ LetsOut Q)
    (hS : S w.drew) (h : S w.drew → wpAnyH P .any ops Q S ops.size (Array.replicate ops.size false) a w.drew) : (Code.region id ops true).wpIn (Fence.wide.inRound l) n P Q a w :=
  wpIn_region_any hm (any_in l n hd hno _ _ _ _ (wpAny_of_held _ _ _ _ (h hS)))
end Go.Proofs.Ytaedamnhobcdlaa
end

section
namespace Go.Proofs.Ytaedamnhobcdlaa
open Go.RowKit
set_option linter.unusedVariables false

end Go.Proofs.Ytaedamnhobcdlaa
end

section
namespace Go.Proofs.Ytaedamnhobcdlaa
set_option linter.unusedVariables false

/-- The bits of a where m has a 1, and those of b where m has a 0. -/
def selN (m a b : Nat) : Nat := b ^^^ (m &&& (a ^^^ b))
theorem selN_bit (m a b i : Nat) : (selN m a b).testBit i = if m.testBit i then a.testBit i else b.testBit i := by
  unfold selN
  rw [Nat.testBit_xor, Nat.testBit_and, Nat.testBit_xor]
  cases m.testBit i <;> cases a.testBit i <;> cases b.testBit i <;> rfl
theorem selN_lt_pow {n m a b : Nat} (ha : a < 2 ^ n) (hb : b < 2 ^ n) : selN m a b < 2 ^ n :=
  Nat.xor_lt_two_pow hb (Nat.and_lt_two_pow _ (Nat.xor_lt_two_pow ha hb))
theorem selN_lt {m a b : Nat} (ha : a < 18446744073709551616) (hb : b < 18446744073709551616) : selN m a b < 18446744073709551616 := selN_lt_pow (n := 64) ha hb
theorem selN_lt8 {m a b : Nat} (ha : a < 256) (hb : b < 256) : selN m a b < 256 := selN_lt_pow (n := 8) ha hb
theorem selN_zero (a b : Nat) : selN 0 a b = b := by simp [selN]
theorem selN_ones {n m a b : Nat} (hm : ∀ i, i < n → m.testBit i = true) (ha : a < 2 ^ n) (hb : b < 2 ^ n) : selN m a b = a := by
  apply Nat.eq_of_testBit_eq
  intro i
  rw [selN_bit]
  by_cases h : i < n
  · rw [hm i h]; rfl
  · have h2 : 2 ^ n ≤ 2 ^ i := Nat.pow_le_pow_right (by omega) (by omega)
    rw [Nat.testBit_lt_two_pow (x := a) (Nat.lt_of_lt_of_le ha h2), Nat.testBit_lt_two_pow (x := b) (Nat.lt_of_lt_of_le hb h2)]; simp
theorem selN_all {a b : Nat} (ha : a < 18446744073709551616) (hb : b < 18446744073709551616) : selN 18446744073709551615 a b = a :=
  selN_ones (n := 64) (fun i hi => by rw [show (18446744073709551615 : Nat) = 2 ^ 64 - 1 from by decide, Nat.testBit_two_pow_sub_one]; simpa using hi) ha hb
theorem selN_all8 {a b : Nat} (ha : a < 256) (hb : b < 256) : selN 18446744073709551615 a b = a :=
  selN_ones (n := 8) (fun i hi => by rw [show (18446744073709551615 : Nat) = 2 ^ 64 - 1 from by decide, Nat.testBit_two_pow_sub_one]; simp; omega) ha hb
/-- Swapped back by the same mask. -/
theorem selN_back1 (m a b : Nat) : selN m (selN m a b) (selN m b a) = a := by
  apply Nat.eq_of_testBit_eq
  intro i
  simp only [selN_bit]
  cases m.testBit i <;> rfl
theorem selN_same (m a : Nat) : selN m a a = a := by
  apply Nat.eq_of_testBit_eq
  intro i
  rw [selN_bit]
  cases m.testBit i <;> rfl
/-- Of the mask only the lowest 8 bits are asked for bytes. -/
theorem selN_low8 {m a b : Nat} (ha : a < 256) (hb : b < 256) : selN (m % 256) a b = selN m a b := by
  apply Nat.eq_of_testBit_eq
  intro i
  rw [selN_bit, selN_bit, show (256 : Nat) = 2 ^ 8 from rfl, Nat.testBit_mod_two_pow]
  by_cases h : i < 8
  · simp [h]
  · have h2 : 2 ^ 8 ≤ 2 ^ i := Nat.pow_le_pow_right (by omega) (by omega)
    rw [Nat.testBit_lt_two_pow (x := a) (Nat.lt_of_lt_of_le ha h2), Nat.testBit_lt_two_pow (x := b) (Nat.lt_of_lt_of_le hb h2)]
    simp
theorem half_bit (x i : Nat) : x / 2 ^ i = 2 * (x / 2 ^ (i + 1)) + (x.testBit i).toNat := by
  rw [Nat.testBit_eq_decide_div_mod_eq, Nat.pow_succ, ← Nat.div_div_eq_div_mul]
  have := Nat.div_add_mod (x / 2 ^ i) 2
  rcases Nat.mod_two_eq_zero_or_one (x / 2 ^ i) with h | h <;> simp [h] <;> omega
theorem bit_and1 (x : Nat) : x &&& 1 = x % 2 := Nat.and_one_is_mod x
theorem bit_is (x i : Nat) : decide (x / 2 ^ i % 2 = 1) = x.testBit i := (Nat.testBit_eq_decide_div_mod_eq (x := x) (i := i)).symm

/-- All 64 bits 1 for true, all 0 for false. -/
def maskN (b : Bool) : Nat := if b then 18446744073709551615 else 0
theorem maskN_lt (b : Bool) : maskN b < 18446744073709551616 := by cases b <;> decide
/-- (d | -d) >> 63 is 0 for 0 alone. -/
theorem top_zero : (0 ||| (0 : Nat)) / 9223372036854775808 = 0 := by decide
theorem top_one {d : Nat} (h0 : 0 < d) (h : d < 18446744073709551616) : (d ||| (18446744073709551616 - d)) / 9223372036854775808 = 1 := by
  have hlt : d ||| (18446744073709551616 - d) < 2 ^ 64 := Nat.or_lt_two_pow (by omega) (by omega)
  have h1 : d ≤ d ||| (18446744073709551616 - d) := Nat.left_le_or
  have h2 : 18446744073709551616 - d ≤ d ||| (18446744073709551616 - d) := Nat.right_le_or
  omega
theorem xor_zero {a b : Nat} : a ^^^ b = 0 ↔ a = b := by
  constructor
  · intro h
    apply Nat.eq_of_testBit_eq
    intro i
    have := congrArg (fun x => x.testBit i) h
    simp only [Nat.testBit_xor, Nat.zero_testBit] at this
    revert this
    cases a.testBit i <;> cases b.testBit i <;> simp
  · rintro rfl; exact Nat.xor_self _

/-- The mask of the n lowest bits. -/
def lowN (n : Int) : Nat := 2 ^ min n.toNat 64 - 1
theorem pow64 {k : Nat} (h : k ≤ 64) : 2 ^ k ≤ 18446744073709551616 := Nat.pow_le_pow_right (n := 2) (by omega) h
theorem lowN_lt (n : Int) : lowN n < 18446744073709551616 := by
  unfold lowN
  have := pow64 (show min n.toNat 64 ≤ 64 by omega)
  omega
/-- How many of the f lowest bits are 1. -/
def popN : Nat → Nat → Nat
  | 0, _ => 0
  | f + 1, x => x % 2 + popN f (x / 2)
theorem pop_split : ∀ (f k x : Nat), popN (f + k) x = popN f (x % 2 ^ f) + popN k (x / 2 ^ f)
  | 0, k, x => by simp [popN]
  | f + 1, k, x => by
    rw [show f + 1 + k = (f + k) + 1 from by omega, popN, popN, pop_split f k (x / 2)]
    have e1 : x % 2 ^ (f + 1) % 2 = x % 2 := by
      rw [Nat.pow_succ, Nat.mod_mul_left_mod]
    have e2 : x % 2 ^ (f + 1) / 2 = x / 2 % 2 ^ f := by
      rw [Nat.pow_succ, Nat.mul_comm, Nat.mod_mul_right_div_self]
    have e3 : x / 2 ^ (f + 1) = x / 2 / 2 ^ f := by rw [Nat.div_div_eq_div_mul, Nat.pow_succ, Nat.mul_comm]
    rw [e1, e2, e3]; omega
theorem pop_le : ∀ (f x : Nat), popN f x ≤ f
  | 0, x => by simp [popN]
  | f + 1, x => by rw [popN]; have := pop_le f (x / 2); omega
end Go.Proofs.Ytaedamnhobcdlaa
end
