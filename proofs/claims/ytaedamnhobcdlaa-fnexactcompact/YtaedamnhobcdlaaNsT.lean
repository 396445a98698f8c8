/- A net's run is the run of its steps; the three nets are valid, sort, and keep the numbers. No program in it. -/
import Derived.Test.YtaedamnhobcdlaaNsS
import Derived.Test.YtaedamnhobcdlaaNeG
namespace Go.Proofs.Ytaedamnhobcdlaa
set_option linter.unusedVariables false
set_option linter.unusedSimpArgs false

def atF (l : List Int) : Nat → Int := fun i => l.getD i 0
theorem wireRun_at {n : Nat} {l : List Int} {t : WireM} (hl : l.length = n) (ht : WireOk n t) : atF (wireRun l t) = wireF min max (atF l) t.a.toNat t.b.toNat := by
  obtain ⟨p, q, e1, e2, h1, h2⟩ := ht
  funext i
  unfold atF wireRun wireF
  rw [e1, e2]
  simp only [Int.toNat_natCast, List.getD_eq_getElem?_getD, List.getElem?_set, List.length_set]
  by_cases c1 : i = q
  · subst c1
    simp [hl, h2]
  · by_cases c2 : i = p
    · subst c2
      have : ¬ q = i := fun e => c1 e.symm
      have h3 : i < n := by omega
      simp [this, c1, hl, h3]
    · have a1 : ¬ q = i := fun e => c1 e.symm
      have a2 : ¬ p = i := fun e => c2 e.symm
      simp [a1, a2, c1, c2]
theorem stepW_at {n : Nat} (σ : Nat → Nat) : ∀ (k : Nat) (l : List Int), l.length = n → k ≤ n → (∀ t ∈ stepW σ k, WireOk n t) → atF (runW (stepW σ k) l) = stepG min max σ k (atF l)
  | 0, l, hl, hk, h => rfl
  | k + 1, l, hl, hk, h => by
    rw [stepW_succ] at h ⊢
    have ih := stepW_at σ k l hl (by omega) (fun t ht => h t (List.mem_append_left _ ht))
    rw [runW_app]
    by_cases c : k < σ k
    · have hw := h ⟨(k : Int), (σ k : Int)⟩ (List.mem_append_right _ (by rw [wireAt_yes c]; simp))
      rw [wireAt_yes c]
      show atF (wireRun (runW (stepW σ k) l) ⟨(k : Int), (σ k : Int)⟩) = _
      rw [wireRun_at (by rw [runW_length]; exact hl) hw, ih]
      simp [stepG, c]
    · rw [wireAt_no c, runW_nil, ih]
      simp [stepG, c]
theorem allW_at {n : Nat} : ∀ (σs : List (Nat → Nat)) (l : List Int), l.length = n → (∀ t ∈ allW n σs, WireOk n t) → atF (runW (allW n σs) l) = runG min max n σs (atF l)
  | [], l, hl, h => rfl
  | σ :: σs, l, hl, h => by
    unfold allW at h ⊢
    rw [runW_app, allW_at σs _ (by rw [runW_length]; exact hl) (fun t ht => h t (List.mem_append_right _ ht)), stepW_at σ n l hl (Nat.le_refl _) (fun t ht => h t (List.mem_append_left _ ht))]
    rfl
/-- Steps that sort all lists of two values: their wires sort. -/
theorem allW_sorts {n : Nat} {σs : List (Nat → Nat)} (hs : ∀ f : Nat → Bool, leB n (runG (fun a b => a && b) (fun a b => a || b) n σs f)) (h : ∀ t ∈ allW n σs, WireOk n t) {l : List Int} (hl : l.length = n) : sortedB (runW (allW n σs) l) = true := by
  rw [sortedB_true]
  intro i hi
  rw [runW_length, hl] at hi
  have e := allW_at σs l hl h
  have h1 := zero_one n σs hs (atF l) i (i + 1) (by omega) hi
  rw [← e] at h1
  exact h1
theorem wireRun_count {n : Nat} {l : List Int} {t : WireM} (hl : l.length = n) (ht : WireOk n t) (x : Int) : (wireRun l t).count x = l.count x := by
  obtain ⟨p, q, e1, e2, h1, h2⟩ := ht
  unfold wireRun
  rw [e1, e2]
  simp only [Int.toNat_natCast]
  have hp : p < l.length := by omega
  have hq : q < l.length := by omega
  have gp : l.getD p 0 = l[p] := by simp [List.getD_eq_getElem?_getD, hp]
  have gq : l.getD q 0 = l[q] := by simp [List.getD_eq_getElem?_getD, hq]
  rw [gp, gq]
  have hs : ∀ u v : Int, ((l.set p u).set q v).count x = l.count x - (if l[p] == x then 1 else 0) + (if u == x then 1 else 0) - (if l[q] == x then 1 else 0) + (if v == x then 1 else 0) := fun u v => by
    rw [List.count_set (by simpa using hq), List.count_set hp, List.getElem_set_ne (by omega)]
  rw [hs]
  have hpos : ∀ (k : Nat) (hk : k < l.length), (if l[k] == x then 1 else 0) ≤ l.count x := fun k hk => by
    split
    · rename_i c
      have : l[k] = x := by simpa using c
      have h3 : x ∈ l := by rw [← this]; exact List.getElem_mem hk
      have := List.count_pos_iff.2 h3
      omega
    · omega
  have b1 := hpos p hp
  have b2 := hpos q hq
  by_cases c : l[p] ≤ l[q]
  · rw [Int.min_eq_left c, Int.max_eq_right c]
    omega
  · rw [Int.min_eq_right (by omega), Int.max_eq_left (by omega)]
    omega
theorem runW_count {n : Nat} : ∀ (ws : List WireM) (l : List Int), l.length = n → (∀ t ∈ ws, WireOk n t) → ∀ x, (runW ws l).count x = l.count x
  | [], l, hl, h, x => rfl
  | t :: ws, l, hl, h, x => by
    show (runW ws (wireRun l t)).count x = _
    rw [runW_count ws _ (by rw [wireRun_length]; exact hl) (fun u hu => h u (List.mem_cons_of_mem _ hu)), wireRun_count hl (h t (List.mem_cons_self ..))]
theorem bit_ok : ∀ n ∈ [1, 2, 4, 8, 16, 32, 64], netOkB (bitonicM n) = true := by decide +kernel
theorem oe_ok : ∀ n ∈ [1, 2, 4, 8, 16, 32, 64], netOkB (oddEvenM n) = true := by decide +kernel
theorem bub_ok : ∀ n ∈ List.range 40, netOkB (bubbleM ((n + 1 : Nat) : Int)) = true := by decide +kernel
theorem isTwo_pow {n : Nat} (h : isTwo n) : ∃ K, K ≤ 6 ∧ n = 2 ^ K := by
  unfold isTwo at h
  rcases h with rfl | rfl | rfl | rfl | rfl | rfl | rfl
  · exact ⟨0, by omega, rfl⟩
  · exact ⟨1, by omega, rfl⟩
  · exact ⟨2, by omega, rfl⟩
  · exact ⟨3, by omega, rfl⟩
  · exact ⟨4, by omega, rfl⟩
  · exact ⟨5, by omega, rfl⟩
  · exact ⟨6, by omega, rfl⟩
/-- A net that is valid, of n places, and sorts every list of n numbers. -/
structure GoodNet (m : NetM) (n : Nat) : Prop where
  ok : netOkB m = true
  size : m.n = (n : Int)
  sort : ∀ l : List Int, l.length = n → sortedB (runW m.ws l) = true
  count : ∀ (l : List Int) (x : Int), l.length = n → (runW m.ws l).count x = l.count x
theorem good_of {n : Nat} {σs : List (Nat → Nat)} (hok : netOkB ⟨(n : Int), allW n σs⟩ = true) (hs : ∀ f : Nat → Bool, leB n (runG (fun a b => a && b) (fun a b => a || b) n σs f)) : GoodNet ⟨(n : Int), allW n σs⟩ n := by
  obtain ⟨n', e, _, _, _, hw⟩ := netOkB_ok hok
  have : n = n' := by have := e; simp only [] at this; omega
  subst this
  exact ⟨hok, rfl, fun l hl => allW_sorts hs hw hl, fun l x hl => runW_count _ l hl hw x⟩
theorem bitonic_good {n : Nat} (h : isTwo n) : GoodNet (bitonicM n) n := by
  have hok : netOkB (bitonicM n) = true := bit_ok n (by unfold isTwo at h; rcases h with rfl | rfl | rfl | rfl | rfl | rfl | rfl <;> simp)
  have ht : twoZ (n : Int) = true := by unfold twoZ; simp only [decide_eq_true_eq]; exact ⟨by omega, by simpa using h⟩
  have e : bitonicM n = ⟨(n : Int), allW n (bitS n)⟩ := by unfold bitonicM; rw [if_pos ht]; simp
  rw [e] at hok ⊢
  obtain ⟨K, hK, rfl⟩ := isTwo_pow h
  exact good_of hok (bit_sorts K hK)
theorem oddEven_good {n : Nat} (h : isTwo n) : GoodNet (oddEvenM n) n := by
  have hok : netOkB (oddEvenM n) = true := oe_ok n (by unfold isTwo at h; rcases h with rfl | rfl | rfl | rfl | rfl | rfl | rfl <;> simp)
  have ht : twoZ (n : Int) = true := by unfold twoZ; simp only [decide_eq_true_eq]; exact ⟨by omega, by simpa using h⟩
  have e : oddEvenM n = ⟨(n : Int), allW n (oeS n)⟩ := by unfold oddEvenM; rw [if_pos ht]; simp
  rw [e] at hok ⊢
  obtain ⟨K, hK, rfl⟩ := isTwo_pow h
  exact good_of hok (oe_sorts K hK)
theorem bubble_good {n : Nat} (h : n < 40) : GoodNet (bubbleM ((n + 1 : Nat) : Int)) (n + 1) := by
  have hok : netOkB (bubbleM ((n + 1 : Nat) : Int)) = true := bub_ok n (by simpa using h)
  have e : bubbleM ((n + 1 : Nat) : Int) = ⟨((n + 1 : Nat) : Int), allW (n + 1) (bubS (n + 1 - 1))⟩ := by unfold bubbleM; rw [if_pos (by omega)]; simp
  rw [e] at hok ⊢
  exact good_of hok (bub_sorts (n + 1) (by omega))
end Go.Proofs.Ytaedamnhobcdlaa
