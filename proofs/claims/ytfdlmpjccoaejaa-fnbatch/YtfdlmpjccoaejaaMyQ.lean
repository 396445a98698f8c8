/- Bit-parallel columns, plain: the columns of the distances of beginnings; no program in it. -/
import Derived.Test.YtfdlmpjccoaejaaMyP
import Derived.Test.YtfdlmpjccoaejaaEdP
namespace Go.Proofs.Ytfdlmpjccoaejaa
set_option linter.unusedVariables false

theorem nine (p q A B C D E F G H I : Nat) : min (min (A + p) (min (B + 1) (C + 1)) + q) (min (min (D + p) (min (E + 1) (F + 1)) + 1) (min (G + p) (min (H + 1) (I + 1)) + 1)) =
    min (min (A + q) (min (D + 1) (G + 1)) + p) (min (min (B + q) (min (E + 1) (H + 1)) + 1) (min (C + q) (min (F + 1) (I + 1)) + 1)) := by
  simp only [← Nat.add_min_add_right]
  rw [Nat.add_right_comm A q p, Nat.add_right_comm D 1 p, Nat.add_right_comm G 1 p, Nat.add_right_comm B q 1, Nat.add_right_comm C q 1]
  generalize A + p + q = a
  generalize B + 1 + q = b
  generalize C + 1 + q = c
  generalize D + p + 1 = d
  generalize G + p + 1 = g
  simp only [Nat.min_assoc, Nat.min_comm, Nat.min_left_comm]
/-- The distance by the last bytes. -/
theorem dist_snoc (x y : UInt8) : ∀ l m : List UInt8, dist (l ++ [x]) (m ++ [y]) = min (dist l m + if x = y then 0 else 1) (min (dist l (m ++ [y]) + 1) (dist (l ++ [x]) m + 1))
  | [], [] => by
    show dist [x] [y] = _
    rw [dist_cons]
    simp only [dist_nil, dist_end, List.nil_append, List.length_nil, List.length_cons]
  | [], b :: m => by
    have h := dist_snoc x y [] m
    simp only [List.nil_append, List.cons_append] at h ⊢
    rw [dist_cons x b [] (m ++ [y]), dist_cons x b [] m, h]
    simp only [dist_nil, List.length_append, List.length_cons, List.length_nil]
    omega
  | a :: l, [] => by
    have h := dist_snoc x y l []
    simp only [List.nil_append, List.cons_append] at h ⊢
    rw [dist_cons a y (l ++ [x]) [], dist_cons a y l [], h]
    simp only [dist_end, List.length_append, List.length_cons, List.length_nil]
    omega
  | a :: l, b :: m => by
    have h1 := dist_snoc x y l m
    have h2 := dist_snoc x y l (b :: m)
    have h3 := dist_snoc x y (a :: l) m
    simp only [List.cons_append] at h1 h2 h3 ⊢
    rw [dist_cons a b (l ++ [x]) (m ++ [y]), h1, h2, h3, dist_cons a b l m, dist_cons a b l (m ++ [y]), dist_cons a b (l ++ [x]) m]
    exact nine _ _ _ _ _ _ _ _ _ _ _
termination_by l m => l.length + m.length

/-- The distance of the first i bytes of p and the first k of t. -/
def dZ (p t : List UInt8) (k i : Nat) : Int := (dist (p.take i) (t.take k) : Nat)
theorem dZ_zero (p t : List UInt8) (k : Nat) (hk : k ≤ t.length) : dZ p t k 0 = k := by
  unfold dZ; rw [List.take_zero, dist_nil, List.length_take]; omega
theorem dZ_first (p t : List UInt8) (i : Nat) (hi : i ≤ p.length) : dZ p t 0 i = i := by
  unfold dZ; rw [List.take_zero, dist_end, List.length_take]; omega
theorem dZ_next (p t : List UInt8) (k i : Nat) (hk : k < t.length) (hi : i < p.length) :
    dZ p t (k + 1) (i + 1) = min (dZ p t (k + 1) i + 1) (min (dZ p t k (i + 1) + 1) (dZ p t k i + if p[i] = t[k] then 0 else 1)) := by
  unfold dZ
  rw [List.take_succ_eq_append_getElem hk, List.take_succ_eq_append_getElem hi, dist_snoc]
  split <;> omega
theorem dZ_range (p t : List UInt8) (k i : Nat) : 0 ≤ dZ p t k i ∧ dZ p t k i ≤ max p.length t.length := by
  unfold dZ
  have := dist_max (p.take i) (t.take k)
  have h1 : (p.take i).length ≤ p.length := by rw [List.length_take]; omega
  have h2 : (t.take k).length ≤ t.length := by rw [List.length_take]; omega
  omega
theorem dZ_last (p t : List UInt8) : dZ p t t.length p.length = (dist p t : Nat) := by
  unfold dZ; rw [List.take_length, List.take_length]

/-- Where b stands in p. -/
def peqC (p : List UInt8) (b : UInt8) (i : Nat) : Bool := p[i]? == some b
def peqN (p : List UInt8) (b : UInt8) : Nat := bitsUp (peqC p b) p.length
theorem peq_bit {p : List UInt8} {b : UInt8} {i : Nat} (hi : i < p.length) : (peqN p b).testBit i = decide (p[i] = b) := by
  unfold peqN
  rw [bitsUp_bit]
  unfold peqC
  rw [List.getElem?_eq_getElem hi, Bool.eq_iff_iff]
  simp [hi]
theorem eZ_ext {d f : Nat → Int} {eq : Nat} : ∀ i, (∀ j, j ≤ i → d j = f j) → eZ d eq i = eZ f eq i
  | 0, h => by rw [eZ, eZ, h 0 (Nat.le_refl _)]
  | i + 1, h => by rw [eZ, eZ, eZ_ext i (fun j hj => h j (by omega)), h (i + 1) (Nat.le_refl _), h i (by omega)]
theorem eZ_dist (p t : List UInt8) (k : Nat) (hk : k < t.length) : ∀ i, i ≤ p.length → eZ (dZ p t k) (peqN p t[k]) i = dZ p t (k + 1) i
  | 0, _ => by rw [eZ, dZ_zero _ _ _ (by omega), dZ_zero _ _ _ (by omega)]; push_cast; rfl
  | i + 1, h => by
    rw [eZ, eZ_dist p t k hk i (by omega), dZ_next p t k i hk (by omega), peq_bit (by omega)]
    congr 2
    simp
/-- Neighbours in a column differ by at most 1. -/
theorem dZ_near (p t : List UInt8) : ∀ k, k ≤ t.length → ∀ i, i < p.length → -1 ≤ dZ p t k (i + 1) - dZ p t k i ∧ dZ p t k (i + 1) - dZ p t k i ≤ 1 := by
  intro k hk i hi
  unfold dZ
  rw [List.take_succ_eq_append_getElem hi]
  have a := dist_tri (p.take i ++ [p[i]]) (p.take i) (t.take k)
  have b := dist_tri (p.take i) (p.take i ++ [p[i]]) (t.take k)
  have c : dist (p.take i ++ [p[i]]) (p.take i) ≤ 1 := by
    have : ∀ l : List UInt8, ∀ x, dist (l ++ [x]) l ≤ 1 := by
      intro l x
      induction l with
      | nil => simp [dist_end]
      | cons y l ih => rw [List.cons_append, dist_cons, if_pos rfl]; omega
    exact this _ _
  rw [dist_comm (p.take i) (p.take i ++ [p[i]])] at b
  omega
/-- The column behind k bytes, as bits. -/
def colP (p t : List UInt8) (k : Nat) : Nat := bitsUp (fun i => decide (dZ p t k (i + 1) = dZ p t k i + 1)) p.length
def colM (p t : List UInt8) (k : Nat) : Nat := bitsUp (fun i => decide (dZ p t k (i + 1) = dZ p t k i - 1)) p.length
theorem sum_col (p t : List UInt8) (k : Nat) (hk : k ≤ t.length) : ∀ i, i ≤ p.length → sumB (colP p t k) (colM p t k) i = dZ p t k i - dZ p t k 0
  | 0, _ => by rw [sumB]; omega
  | i + 1, h => by
    have n := dZ_near p t k hk i (by omega)
    rw [sumB, sum_col p t k hk i (by omega)]
    unfold bI colP colM
    rw [bitsUp_bit, bitsUp_bit]
    have hi : i < p.length := by omega
    simp only [hi, decide_true, Bool.true_and, decide_eq_true_eq]
    generalize dZ p t k (i + 1) = x at *
    generalize dZ p t k i = y at *
    generalize dZ p t k 0 = z at *
    split <;> split <;> omega
theorem col_col (p t : List UInt8) (k : Nat) (hk : k ≤ t.length) (i : Nat) (hi : i ≤ p.length) : colZ (colP p t k) (colM p t k) (dZ p t k p.length) p.length i = dZ p t k i := by
  unfold colZ
  rw [sum_col p t k hk i hi, sum_col p t k hk p.length (Nat.le_refl _)]
  omega
theorem col_ok (p t : List UInt8) (k : Nat) (hk : k ≤ t.length) (hp : p.length ≤ 32) (ht : t.length ≤ 32) : BOk (colP p t k) (colM p t k) (dZ p t k p.length) p.length := by
  refine ⟨hp, ?_, bitsUp_lt _ _, bitsUp_lt _ _, fun i hi => ?_⟩
  · intro j h1 h2
    unfold colP at h1
    unfold colM at h2
    rw [bitsUp_bit] at h1 h2
    simp only [Bool.and_eq_true, decide_eq_true_eq] at h1 h2
    omega
  · rw [col_col p t k hk i hi]
    have := dZ_range p t k i
    omega
/-- The step's column is that behind one byte more. -/
theorem col_next (p t : List UInt8) (k : Nat) (hk : k < t.length) (hp : p.length ≤ 32) (ht : t.length ≤ 32) :
    nextPv (colP p t k) (colM p t k) (dZ p t k p.length) p.length (peqN p t[k]) = colP p t (k + 1) ∧ nextMv (colP p t k) (colM p t k) (dZ p t k p.length) p.length (peqN p t[k]) = colM p t (k + 1) ∧
    nextSc (colP p t k) (colM p t k) (dZ p t k p.length) p.length (peqN p t[k]) = dZ p t (k + 1) p.length := by
  have E : ∀ i, i ≤ p.length → eZ (colZ (colP p t k) (colM p t k) (dZ p t k p.length) p.length) (peqN p t[k]) i = dZ p t (k + 1) i := fun i hi => by
    rw [eZ_ext (f := dZ p t k) i (fun j hj => col_col p t k (by omega) j (by omega)), eZ_dist p t k hk i hi]
  refine ⟨?_, ?_, ?_⟩
  · unfold nextPv colP
    refine bitsUp_ext _ fun i hi => ?_
    have e1 := E (i + 1) (by omega)
    have e2 := E i (by omega)
    unfold colP at e1 e2
    rw [e1, e2]
  · unfold nextMv colM
    refine bitsUp_ext _ fun i hi => ?_
    have e1 := E (i + 1) (by omega)
    have e2 := E i (by omega)
    unfold colM at e1 e2
    rw [e1, e2]
  · unfold nextSc
    exact E p.length (Nat.le_refl _)
theorem col_first (p t : List UInt8) : colP p t 0 = 2 ^ p.length - 1 ∧ colM p t 0 = 0 ∧ dZ p t 0 p.length = p.length := by
  refine ⟨?_, ?_, dZ_first p t _ (Nat.le_refl _)⟩
  · rw [← bitsUp_true]
    unfold colP
    refine bitsUp_ext _ fun i hi => ?_
    rw [dZ_first _ _ _ (by omega), dZ_first _ _ _ (by omega)]
    simp
  · refine Eq.trans ?_ (bitsUp_false p.length)
    unfold colM
    refine bitsUp_ext _ fun i hi => ?_
    rw [dZ_first _ _ _ (by omega), dZ_first _ _ _ (by omega)]
    simp
    omega
end Go.Proofs.Ytfdlmpjccoaejaa
