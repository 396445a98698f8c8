/- Edit distance, plain: the distance of two lists of bytes, the edits, their cost. No program in it. -/
import Derived.WalkKit
namespace Go.Proofs.Ytfdlmpjccoaejaa
set_option linter.unusedVariables false

/-- One row: the distances of x and what follows from each tail of m; f: those of what follows. -/
def distGo (x : UInt8) (f : List UInt8 → Nat) : List UInt8 → Nat
  | [] => f [] + 1
  | y :: m => min (f m + if x = y then 0 else 1) (min (f (y :: m) + 1) (distGo x f m + 1))
/-- The least cost of edits that transform l into m. -/
def dist : List UInt8 → List UInt8 → Nat
  | [] => fun m => m.length
  | x :: l => distGo x (dist l)
theorem dist_nil (m : List UInt8) : dist [] m = m.length := rfl
theorem dist_end (l : List UInt8) : dist l [] = l.length := by
  induction l with
  | nil => rfl
  | cons x l ih => show dist l [] + 1 = _; rw [ih]; rfl
theorem dist_cons (x y : UInt8) (l m : List UInt8) : dist (x :: l) (y :: m) = min (dist l m + if x = y then 0 else 1) (min (dist l (y :: m) + 1) (dist (x :: l) m + 1)) := rfl

theorem dist_comm : ∀ l m : List UInt8, dist l m = dist m l
  | [], m => by rw [dist_nil, dist_end]
  | l, [] => by rw [dist_nil, dist_end]
  | x :: l, y :: m => by
    have h1 := dist_comm l m
    have h2 := dist_comm l (y :: m)
    have h3 := dist_comm (x :: l) m
    rw [dist_cons, dist_cons, h1, h2, h3]
    by_cases e : x = y
    · subst e; simp only [if_true]; omega
    · rw [if_neg e, if_neg (fun h => e h.symm)]; omega
termination_by l m => l.length + m.length
theorem dist_self (l : List UInt8) : dist l l = 0 := by
  induction l with
  | nil => rfl
  | cons x l ih => rw [dist_cons, ih, if_pos rfl]; omega
theorem dist_zero : ∀ l m : List UInt8, dist l m = 0 → l = m
  | [], m, h => by rw [dist_nil] at h; exact (List.eq_nil_of_length_eq_zero h).symm
  | l, [], h => by rw [dist_end] at h; exact List.eq_nil_of_length_eq_zero h
  | x :: l, y :: m, h => by
    rw [dist_cons] at h
    by_cases e : x = y
    · subst e
      have := dist_zero l m (by rw [if_pos rfl] at h; omega)
      rw [this]
    · rw [if_neg e] at h; omega
theorem dist_max : ∀ l m : List UInt8, dist l m ≤ max l.length m.length
  | [], m => by rw [dist_nil]; omega
  | l, [] => by rw [dist_end]; omega
  | x :: l, y :: m => by
    have := dist_max l m
    rw [dist_cons]
    simp only [List.length_cons]
    have : (if x = y then 0 else 1) ≤ 1 := by split <;> omega
    omega
theorem dist_gap : ∀ l m : List UInt8, l.length ≤ m.length + dist l m
  | [], m => by simp
  | l, [] => by rw [dist_end]; omega
  | x :: l, y :: m => by
    have h1 := dist_gap l m
    have h2 := dist_gap l (y :: m)
    have h3 := dist_gap (x :: l) m
    rw [dist_cons]
    simp only [List.length_cons] at *
    omega
termination_by l m => l.length + m.length
theorem dist_gap' (l m : List UInt8) : m.length ≤ l.length + dist l m := by rw [dist_comm]; exact dist_gap m l
/-- Upper bounds off one step. -/
theorem dist_del (x : UInt8) (l m : List UInt8) : dist (x :: l) m ≤ dist l m + 1 := by
  cases m with
  | nil => rw [dist_end, dist_end]; simp
  | cons y m => rw [dist_cons]; omega
theorem dist_ins (y : UInt8) (l m : List UInt8) : dist l (y :: m) ≤ dist l m + 1 := by
  rw [dist_comm l, dist_comm l]; exact dist_del y m l
theorem dist_sub (x y : UInt8) (l m : List UInt8) : dist (x :: l) (y :: m) ≤ dist l m + 1 := by
  rw [dist_cons]
  have : (if x = y then 0 else 1) ≤ 1 := by split <;> omega
  omega
theorem dist_keep (x : UInt8) (l m : List UInt8) : dist (x :: l) (x :: m) ≤ dist l m := by
  rw [dist_cons, if_pos rfl]; omega
theorem dist_tri : ∀ a b c : List UInt8, dist a c ≤ dist a b + dist b c
  | [], b, c => by rw [dist_nil, dist_nil]; exact dist_gap' b c
  | x :: a, b, [] => by rw [dist_end, dist_end]; have := dist_gap (x :: a) b; omega
  | x :: a, [], z :: c => by
    rw [dist_end, dist_nil]
    have := dist_max (x :: a) (z :: c)
    omega
  | x :: a, y :: b, z :: c => by
    have t1 := dist_tri a (y :: b) (z :: c)
    have t2 := dist_tri (x :: a) (y :: b) c
    have t3 := dist_tri (x :: a) b (z :: c)
    have t4 := dist_tri (x :: a) b c
    have t5 := dist_tri a b (z :: c)
    have t6 := dist_tri a b c
    have u1 := dist_del x a (z :: c)
    have u2 := dist_ins z (x :: a) c
    have u3 := dist_sub x z a c
    have u4 : x = z → dist (x :: a) (z :: c) ≤ dist a c := fun e => by subst e; exact dist_keep x a c
    have e1 := dist_cons x y a b
    have e2 := dist_cons y z b c
    by_cases h1 : x = y
    · by_cases h2 : y = z
      · rw [if_pos h1] at e1; rw [if_pos h2] at e2
        have := u4 (h1.trans h2)
        omega
      · rw [if_pos h1] at e1; rw [if_neg h2] at e2; omega
    · by_cases h2 : y = z
      · rw [if_neg h1] at e1; rw [if_pos h2] at e2; omega
      · rw [if_neg h1] at e1; rw [if_neg h2] at e2; omega
termination_by a b c => a.length + b.length + c.length

/-- How far an edit goes in both lists, and whether it is possible. -/
def passL (x : Nat) (a b : List UInt8) : Nat × Nat × Bool :=
  if x = 100 then (1, 0, !a.isEmpty) else if x = 105 then (0, 1, !b.isEmpty)
  else if x = 107 then (1, 1, match a, b with | p :: _, q :: _ => p == q | _, _ => false)
  else if x = 115 then (1, 1, match a, b with | p :: _, q :: _ => p != q | _, _ => false) else (0, 0, false)
def priceL (x : Nat) : Nat := if x = 107 then 0 else 1
/-- The cost of edits that transform a into b. -/
def costL : List UInt8 → List UInt8 → List UInt8 → Option Nat
  | [], a, b => if a.isEmpty && b.isEmpty then some 0 else none
  | e :: es, a, b => if (passL e.toNat a b).2.2 then (costL es (a.drop (passL e.toNat a b).1) (b.drop (passL e.toNat a b).2.1)).map (· + priceL e.toNat) else none
/-- One edit that is possible: no edit brings the distance down by more than its price. -/
theorem pass_dist (x : Nat) (a b : List UInt8) (h : (passL x a b).2.2 = true) : dist a b ≤ dist (a.drop (passL x a b).1) (b.drop (passL x a b).2.1) + priceL x := by
  unfold passL at h ⊢
  unfold priceL
  by_cases h1 : x = 100
  · simp only [h1, if_true] at h ⊢
    cases a with
    | nil => simp at h
    | cons p a => simpa using dist_del p a b
  · by_cases h2 : x = 105
    · simp only [h2] at h ⊢
      cases b with
      | nil => simp at h
      | cons q b => simpa using dist_ins q a b
    · by_cases h3 : x = 107
      · simp only [h3] at h ⊢
        cases a with
        | nil => simp at h
        | cons p a =>
          cases b with
          | nil => simp at h
          | cons q b =>
            simp at h
            subst h
            simpa using dist_keep p a b
      · by_cases h4 : x = 115
        · simp only [h4] at h ⊢
          cases a with
          | nil => simp at h
          | cons p a =>
            cases b with
            | nil => simp at h
            | cons q b => simpa using dist_sub p q a b
        · simp [h1, h2, h3, h4] at h
theorem cost_least : ∀ (e a b : List UInt8) (c : Nat), costL e a b = some c → dist a b ≤ c
  | [], a, b, c, h => by
    unfold costL at h
    split at h
    · rename_i h'
      simp at h'
      rw [h'.1, h'.2]
      exact Nat.zero_le _
    · cases h
  | e :: es, a, b, c, h => by
    unfold costL at h
    split at h
    · rename_i h'
      rw [Option.map_eq_some_iff] at h
      obtain ⟨d, hd, rfl⟩ := h
      have := cost_least es _ _ d hd
      have := pass_dist e.toNat a b h'
      omega
    · cases h

/-- The number that EditCost answers. -/
def costZ (e a b : List UInt8) : Int := if 32 < a.length ∨ 32 < b.length ∨ 64 < e.length then -1 else match costL e a b with | some c => (c : Int) | none => -1
def distZ (a b : List UInt8) : Int := if 32 < a.length ∨ 32 < b.length then -1 else (dist a b : Int)

/-- The least edit with which edits of least cost go on: its byte, and how far it goes. -/
def leastE (a b : List UInt8) : UInt8 × Nat × Nat :=
  if a.isEmpty = false ∧ dist a b = dist (a.drop 1) b + 1 then (100, 1, 0)
  else if b.isEmpty = false ∧ dist a b = dist a (b.drop 1) + 1 then (105, 0, 1)
  else if (a.isEmpty = false ∧ b.isEmpty = false ∧ a.head? = b.head?) ∧ dist a b = dist (a.drop 1) (b.drop 1) then (107, 1, 1) else (115, 1, 1)
/-- The edits that EditText answers. -/
def editsL : Nat → List UInt8 → List UInt8 → List UInt8
  | 0, _, _ => []
  | n + 1, a, b => if a.isEmpty && b.isEmpty then [] else (leastE a b).1 :: editsL n (a.drop (leastE a b).2.1) (b.drop (leastE a b).2.2)
def editTextL (a b : List UInt8) : List UInt8 := if 32 < a.length ∨ 32 < b.length then [] else editsL (a.length + b.length) a b
end Go.Proofs.Ytfdlmpjccoaejaa
