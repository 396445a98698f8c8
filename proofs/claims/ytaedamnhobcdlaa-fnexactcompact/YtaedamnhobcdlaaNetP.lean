/- Nets, plain: valid wires, a run, the rounds; no program in it. -/
import Derived.Test.YtaedamnhobcdlaaNetU
namespace Go.Proofs.Ytaedamnhobcdlaa
set_option linter.unusedVariables false

def wireB (n : Int) (t : WireM) : Bool := decide (0 ≤ t.a) && (decide (t.a < t.b) && decide (t.b < n))
def netOkB (m : NetM) : Bool := (decide (1 ≤ m.n) && decide (m.n ≤ 64)) && (decide (m.ws.length ≤ 2100) && m.ws.all (wireB m.n))
theorem netOkB_size {m : NetM} (h : ¬ (1 ≤ m.n ∧ m.n ≤ 64)) : netOkB m = false := by
  unfold netOkB
  by_cases h1 : 1 ≤ m.n
  · by_cases h2 : m.n ≤ 64
    · exact absurd ⟨h1, h2⟩ h
    · simp [h2]
  · simp [h1]
theorem netOkB_long {m : NetM} (h : 2100 < m.ws.length) : netOkB m = false := by
  unfold netOkB
  have : ¬ m.ws.length ≤ 2100 := by omega
  simp [this]
theorem netOkB_bad {m : NetM} {k : Nat} (hk : k < m.ws.length) (h : wireB m.n m.ws[k] = false) : netOkB m = false := by
  have : m.ws.all (wireB m.n) = false := by
    rw [List.all_eq_false]
    exact ⟨_, List.getElem_mem hk, by simp [h]⟩
  unfold netOkB
  simp [this]
theorem netOkB_all {m : NetM} (h1 : 1 ≤ m.n) (h2 : m.n ≤ 64) (h3 : m.ws.length ≤ 2100) (h4 : ∀ (j : Nat) (hj : j < m.ws.length), wireB m.n m.ws[j] = true) : netOkB m = true := by
  have : m.ws.all (wireB m.n) = true := by
    rw [List.all_eq_true]
    intro t ht
    obtain ⟨j, hj, rfl⟩ := List.mem_iff_getElem.1 ht
    exact h4 j hj
  unfold netOkB
  simp [h1, h2, h3]
  simpa using this
/-- A wire between two of n places. -/
def WireOk (n : Nat) (t : WireM) : Prop := ∃ p q : Nat, t.a = p ∧ t.b = q ∧ p < q ∧ q < n
theorem netOkB_ok {m : NetM} (h : netOkB m = true) : ∃ n : Nat, m.n = n ∧ 1 ≤ n ∧ n ≤ 64 ∧ m.ws.length ≤ 2100 ∧ ∀ t ∈ m.ws, WireOk n t := by
  unfold netOkB at h
  simp only [Bool.and_eq_true, decide_eq_true_eq, List.all_eq_true] at h
  obtain ⟨⟨h1, h2⟩, h3, h4⟩ := h
  refine ⟨m.n.toNat, by omega, by omega, by omega, h3, fun t ht => ?_⟩
  have := h4 t ht
  unfold wireB at this
  simp only [Bool.and_eq_true, decide_eq_true_eq] at this
  exact ⟨t.a.toNat, t.b.toNat, by omega, by omega, by omega, by omega⟩
theorem netOkB_of {m : NetM} {n : Nat} (h0 : m.n = n) (h1 : 1 ≤ n) (h2 : n ≤ 64) (h3 : m.ws.length ≤ 2100) (h4 : ∀ t ∈ m.ws, WireOk n t) : netOkB m = true := by
  refine netOkB_all (by omega) (by omega) h3 fun j hj => ?_
  obtain ⟨p, q, e1, e2, e3, e4⟩ := h4 _ (List.getElem_mem hj)
  unfold wireB
  rw [e1, e2, h0]
  simp only [Bool.and_eq_true, decide_eq_true_eq]
  omega

/-- One wire: the lesser of the two elements at its first place, the greater one at the second. -/
def wireRun (l : List Int) (t : WireM) : List Int := (l.set t.a.toNat (min (l.getD t.a.toNat 0) (l.getD t.b.toNat 0))).set t.b.toNat (max (l.getD t.a.toNat 0) (l.getD t.b.toNat 0))
def runW (ws : List WireM) (l : List Int) : List Int := ws.foldl wireRun l
theorem wireRun_length (l : List Int) (t : WireM) : (wireRun l t).length = l.length := by simp [wireRun]
theorem runW_length : ∀ (ws : List WireM) (l : List Int), (runW ws l).length = l.length
  | [], l => rfl
  | t :: ws, l => by show (runW ws (wireRun l t)).length = _; rw [runW_length ws, wireRun_length]
theorem runW_nil (l : List Int) : runW [] l = l := rfl
theorem runW_app (a b : List WireM) (l : List Int) : runW (a ++ b) l = runW b (runW a l) := by simp [runW]
theorem runW_take (ws : List WireM) (l : List Int) (k : Nat) (h : k < ws.length) : runW (ws.take (k + 1)) l = wireRun (runW (ws.take k) l) ws[k] := by
  rw [List.take_succ_eq_append_getElem h, runW_app]; rfl
def netRunM (m : NetM) (l : List Int) : List Int := if netOkB m = true ∧ (l.length : Int) = m.n then runW m.ws l else []
theorem netRunM_bd (m : NetM) (l : List Int) : (netRunM m l).length ≤ 64 := by
  unfold netRunM
  split
  · rename_i h
    obtain ⟨n, h0, h1, h2, _⟩ := netOkB_ok h.1
    rw [runW_length]; omega
  · simp

/-- The latest rounds of the places, and the latest of all. -/
def roundF (f : Nat → Int) (t : WireM) : Nat → Int := fun i => if i = t.a.toNat ∨ i = t.b.toNat then 1 + max (f t.a.toNat) (f t.b.toNat) else f i
def deepW : List WireM → (Nat → Int) → (Nat → Int)
  | [], f => f
  | t :: ws, f => deepW ws (roundF f t)
def mostW : List WireM → (Nat → Int) → Int → Int
  | [], _, d => d
  | t :: ws, f, d => mostW ws (roundF f t) (max d (1 + max (f t.a.toNat) (f t.b.toNat)))
theorem deepW_app (a b : List WireM) (f : Nat → Int) : deepW (a ++ b) f = deepW b (deepW a f) := by
  induction a generalizing f with
  | nil => rfl
  | cons t a ih => exact ih _
theorem mostW_app (a b : List WireM) (f : Nat → Int) (d : Int) : mostW (a ++ b) f d = mostW b (deepW a f) (mostW a f d) := by
  induction a generalizing f d with
  | nil => rfl
  | cons t a ih => exact ih _ _
theorem deepW_take (ws : List WireM) (f : Nat → Int) (k : Nat) (h : k < ws.length) : deepW (ws.take (k + 1)) f = roundF (deepW (ws.take k) f) ws[k] := by
  rw [List.take_succ_eq_append_getElem h, deepW_app]; rfl
theorem mostW_take (ws : List WireM) (f : Nat → Int) (d : Int) (k : Nat) (h : k < ws.length) :
    mostW (ws.take (k + 1)) f d = max (mostW (ws.take k) f d) (1 + max (deepW (ws.take k) f ws[k].a.toNat) (deepW (ws.take k) f ws[k].b.toNat)) := by
  rw [List.take_succ_eq_append_getElem h, mostW_app]; rfl
theorem deepW_bd : ∀ (ws : List WireM) (f : Nat → Int) (B : Int), (∀ i, 0 ≤ f i ∧ f i ≤ B) → ∀ i, 0 ≤ deepW ws f i ∧ deepW ws f i ≤ B + ws.length
  | [], f, B, h, i => by simpa [deepW] using h i
  | t :: ws, f, B, h, i => by
    have := deepW_bd ws (roundF f t) (B + 1) (fun j => by
      have h1 := h t.a.toNat
      have h2 := h t.b.toNat
      have h3 := h j
      unfold roundF
      split <;> omega) i
    simp [deepW]
    omega
theorem mostW_bd : ∀ (ws : List WireM) (f : Nat → Int) (d B : Int), (∀ i, 0 ≤ f i ∧ f i ≤ B) → 0 ≤ d → d ≤ B → 0 ≤ mostW ws f d ∧ mostW ws f d ≤ B + ws.length
  | [], f, d, B, h, h0, h1 => by simp [mostW]; omega
  | t :: ws, f, d, B, h, h0, h1 => by
    have g1 := h t.a.toNat
    have g2 := h t.b.toNat
    have := mostW_bd ws (roundF f t) (max d (1 + max (f t.a.toNat) (f t.b.toNat))) (B + 1) (fun j => by
      have h3 := h j
      unfold roundF
      split <;> omega) (by omega) (by omega)
    simp [mostW]
    omega
def depthZ (m : NetM) : Int := if netOkB m = true then mostW m.ws (fun _ => 0) 0 else -1

def joinB (x y : NetM) : Bool := netOkB x && (netOkB y && (decide (x.n = y.n) && decide (x.ws.length + y.ws.length ≤ 2100)))
def joinM (x y : NetM) : NetM := if joinB x y = true then ⟨x.n, x.ws ++ y.ws⟩ else ⟨0, []⟩
theorem joinB_ok {x y : NetM} (h : joinB x y = true) : netOkB x = true ∧ netOkB y = true ∧ x.n = y.n ∧ x.ws.length + y.ws.length ≤ 2100 := by
  unfold joinB at h
  simpa using h
theorem joinM_bd (x y : NetM) : mcNet (joinM x y) ≤ 4200 := by
  unfold joinM
  split
  · rename_i h
    obtain ⟨_, _, _, h4⟩ := joinB_ok h
    simp [mcNet]; omega
  · simp [mcNet]
end Go.Proofs.Ytaedamnhobcdlaa
