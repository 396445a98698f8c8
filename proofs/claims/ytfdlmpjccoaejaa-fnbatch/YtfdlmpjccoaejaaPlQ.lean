/- Chapter 7, plain: sums, comparisons and minima of numbers in planes, plane by plane; the models. -/
import Derived.Test.YtfdlmpjccoaejaaPlP
import Derived.Test.YtfdlmpjccoaejaaBitsP
namespace Go.Proofs.Ytfdlmpjccoaejaa
set_option linter.unusedVariables false

theorem getN_nil (l : Nat) : getN [] l = 0 := rfl
/-- A list of k numbers by their function. -/
def listN (k : Nat) (F : Nat → Nat) : List Nat := (List.range k).map F
theorem listN_length (k : Nat) (F : Nat → Nat) : (listN k F).length = k := by simp [listN]
theorem listN_at {k i : Nat} (F : Nat → Nat) (h : i < k) : (listN k F)[i]? = some (F i) := by simp [listN, h]
theorem listN_getD {k i : Nat} (F : Nat → Nat) (h : i < k) : (listN k F).getD i 0 = F i := by simp [listN, h]
theorem listN_snoc (k : Nat) (F : Nat → Nat) : listN (k + 1) F = listN k F ++ [F k] := by simp [listN, List.range_succ]
theorem listN_ext {k : Nat} {F G : Nat → Nat} (h : ∀ i, i < k → F i = G i) : listN k F = listN k G := by
  unfold listN
  exact List.map_congr_left fun i hi => h i (by simpa using hi)
theorem listN_self (l : List Nat) : listN l.length (fun i => l.getD i 0) = l := by
  apply List.ext_getElem?
  intro i
  by_cases h : i < l.length
  · rw [listN_at _ h]; simp [h]
  · rw [List.getElem?_eq_none (by rw [listN_length]; omega), List.getElem?_eq_none (by omega)]
theorem getD_lt {l : List Nat} {B : Nat} (hB : 0 < B) (h : ∀ x ∈ l, x < B) (i : Nat) : l.getD i 0 < B := by
  unfold List.getD
  cases e : l[i]? with
  | none => simpa using hB
  | some x => exact h x (List.mem_of_getElem? e)
theorem getN_listN_succ (k : Nat) (F : Nat → Nat) (l : Nat) : getN (listN (k + 1) F) l = getN (listN k F) l + 2 ^ k * ((F k).testBit l).toNat := by
  rw [listN_snoc, getN_snoc, listN_length]
/-- Two rows of planes with the same numbers in all lanes are the same. -/
theorem get_inj {a b : List Nat} (hl : a.length = b.length) (ha : ∀ x ∈ a, x < 18446744073709551616) (hb : ∀ x ∈ b, x < 18446744073709551616) (h : ∀ l, l < 64 → getN a l = getN b l) : a = b := by
  have h1 := put_get (list := listN 64 (fun l => getN a l)) ha (listN_length _ _) (fun l hl => by rw [listN_getD _ hl])
  have h2 := put_get (list := listN 64 (fun l => getN a l)) hb (listN_length _ _) (fun l hl => by rw [listN_getD _ hl, h l hl])
  rw [h1, h2, ← hl]

/- Sums. -/
def carR (s r : Nat → Nat) : Nat → Nat
  | 0 => 0
  | i + 1 => (s i &&& r i) ||| ((s i ^^^ r i) &&& carR s r i)
def outR (s r : Nat → Nat) (i : Nat) : Nat := (s i ^^^ r i) ^^^ carR s r i
theorem sum_all (s r : Nat → Nat) (l : Nat) : ∀ k, getN (listN k (outR s r)) l + 2 ^ k * ((carR s r k).testBit l).toNat = getN (listN k s) l + getN (listN k r) l
  | 0 => by simp [listN, getN, carR]
  | k + 1 => by
    have ih := sum_all s r l k
    rw [getN_listN_succ, getN_listN_succ, getN_listN_succ]
    have h := sum_step (P := 2 ^ k) (c := (carR s r k).testBit l) (x := (s k).testBit l) (y := (r k).testBit l) ih
    rw [← h, Nat.pow_succ, Nat.mul_comm (2 ^ k) 2]
    have e1 : (outR s r k).testBit l = ((s k).testBit l ^^ ((r k).testBit l ^^ (carR s r k).testBit l)) := by
      unfold outR; rw [Nat.testBit_xor, Nat.testBit_xor]; cases (s k).testBit l <;> cases (r k).testBit l <;> cases (carR s r k).testBit l <;> rfl
    have e2 : (carR s r (k + 1)).testBit l = (((s k).testBit l && (r k).testBit l) || ((carR s r k).testBit l && ((s k).testBit l || (r k).testBit l))) := by
      rw [carR, Nat.testBit_or, Nat.testBit_and, Nat.testBit_and, Nat.testBit_xor]; cases (s k).testBit l <;> cases (r k).testBit l <;> cases (carR s r k).testBit l <;> rfl
    rw [e1, e2]
theorem sum_mod (s r : Nat → Nat) (l k : Nat) : getN (listN k (outR s r)) l = (getN (listN k s) l + getN (listN k r) l) % 2 ^ k := by
  have h := sum_all s r l k
  have hlt := getN_lt (listN k (outR s r)) l
  rw [listN_length] at hlt
  rw [← h, Nat.add_mul_mod_self_left, Nat.mod_eq_of_lt hlt]
theorem carR_lt {s r : Nat → Nat} (hs : ∀ i, s i < 18446744073709551616) (hr : ∀ i, r i < 18446744073709551616) : ∀ i, carR s r i < 18446744073709551616
  | 0 => by simp [carR]
  | i + 1 => Nat.or_lt_two_pow (n := 64) (Nat.and_lt_two_pow _ (hr i)) (Nat.and_lt_two_pow _ (carR_lt hs hr i))
theorem outR_lt {s r : Nat → Nat} (hs : ∀ i, s i < 18446744073709551616) (hr : ∀ i, r i < 18446744073709551616) (i : Nat) : outR s r i < 18446744073709551616 :=
  Nat.xor_lt_two_pow (n := 64) (Nat.xor_lt_two_pow (n := 64) (hs i) (hr i)) (carR_lt hs hr i)
/-- A row added to a sum. -/
def addR (s r : List Nat) : List Nat := listN s.length (outR (fun i => s.getD i 0) (fun i => r.getD i 0))
theorem addR_length (s r : List Nat) : (addR s r).length = s.length := listN_length _ _
theorem addR_lt {s r : List Nat} (hs : ∀ x ∈ s, x < 18446744073709551616) (hr : ∀ x ∈ r, x < 18446744073709551616) : ∀ x ∈ addR s r, x < 18446744073709551616 := by
  intro x hx
  unfold addR listN at hx
  obtain ⟨i, _, rfl⟩ := List.mem_map.1 hx
  exact outR_lt (getD_lt (by omega) hs) (getD_lt (by omega) hr) i
theorem addR_get {s r : List Nat} (h : s.length = r.length) (l : Nat) : getN (addR s r) l = (getN s l + getN r l) % 2 ^ s.length := by
  unfold addR
  rw [sum_mod, listN_self, h, listN_self]
def zerosN (k : Nat) : List Nat := List.replicate k 0
theorem zerosN_get (k l : Nat) : getN (zerosN k) l = 0 := by
  unfold zerosN
  induction k with
  | zero => rfl
  | succ k ih => rw [List.replicate_succ, getN_cons, ih]; simp
theorem zerosN_lt (k : Nat) : ∀ x ∈ zerosN k, x < 18446744073709551616 := by
  intro x hx; have := List.eq_of_mem_replicate hx; omega
/-- Two rows added up. -/
def addTwo (k : Nat) (a b : List Nat) : List Nat := addR (addR (zerosN k) a) b
theorem addTwo_length (k : Nat) (a b : List Nat) : (addTwo k a b).length = k := by unfold addTwo; rw [addR_length, addR_length]; simp [zerosN]
theorem addTwo_lt {k : Nat} {a b : List Nat} (ha : ∀ x ∈ a, x < 18446744073709551616) (hb : ∀ x ∈ b, x < 18446744073709551616) : ∀ x ∈ addTwo k a b, x < 18446744073709551616 :=
  addR_lt (addR_lt (zerosN_lt k) ha) hb
theorem addTwo_get {a b : List Nat} (h : a.length = b.length) (l : Nat) : getN (addTwo a.length a b) l = (getN a l + getN b l) % 2 ^ a.length := by
  unfold addTwo
  have e1 : (addR (zerosN a.length) a).length = a.length := by rw [addR_length]; simp [zerosN]
  rw [addR_get (by rw [e1, h]), e1, addR_get (by simp [zerosN]), zerosN_get]
  have : (zerosN a.length).length = a.length := by simp [zerosN]
  rw [this, Nat.zero_add, Nat.mod_eq_of_lt (getN_lt a l)]
/- Less. -/
theorem selN_bit64 {m a b l : Nat} (hm : m < 18446744073709551616) (ha : a < 18446744073709551616) (hb : b < 18446744073709551616) : (selN m a b).testBit l = if m.testBit l then a.testBit l else b.testBit l := by
  unfold selN
  rw [Nat.testBit_xor, Nat.testBit_and, Nat.testBit_xor]
  cases m.testBit l <;> cases a.testBit l <;> cases b.testBit l <;> rfl
def lessR (a b : Nat → Nat) : Nat → Nat
  | 0 => 0
  | i + 1 => selN (a i ^^^ b i) (b i) (lessR a b i)
theorem lessR_lt {a b : Nat → Nat} (ha : ∀ i, a i < 18446744073709551616) (hb : ∀ i, b i < 18446744073709551616) : ∀ i, lessR a b i < 18446744073709551616
  | 0 => by simp [lessR]
  | i + 1 => selN_lt (hb i) (lessR_lt ha hb i)
theorem less_all {a b : Nat → Nat} (ha : ∀ i, a i < 18446744073709551616) (hb : ∀ i, b i < 18446744073709551616) (l : Nat) : ∀ k, (lessR a b k).testBit l = decide (getN (listN k a) l < getN (listN k b) l)
  | 0 => by simp [lessR, listN, getN]
  | k + 1 => by
    have ih := less_all ha hb l k
    have h1 := getN_lt (listN k a) l
    have h2 := getN_lt (listN k b) l
    rw [listN_length] at h1 h2
    rw [getN_listN_succ, getN_listN_succ, less_step h1 h2, lessR, selN_bit64 (Nat.xor_lt_two_pow (n := 64) (ha k) (hb k)) (hb k) (lessR_lt ha hb k), Nat.testBit_xor, ih]
    cases (a k).testBit l <;> cases (b k).testBit l <;> simp
def lessL (a b : List Nat) : Nat := bitsUp (fun l => decide (getN a l < getN b l)) 64
theorem lessL_lt (a b : List Nat) : lessL a b < 18446744073709551616 := bitsUp_lt _ 64
theorem less_is {a b : List Nat} (h : a.length = b.length) (ha : ∀ x ∈ a, x < 18446744073709551616) (hb : ∀ x ∈ b, x < 18446744073709551616) : lessR (fun i => a.getD i 0) (fun i => b.getD i 0) a.length = lessL a b := by
  have ga := getD_lt (B := 18446744073709551616) (by omega) ha
  have gb := getD_lt (B := 18446744073709551616) (by omega) hb
  refine bitsUp_is fun l => ?_
  rw [less_all ga gb, listN_self]
  have e : listN a.length (fun i => b.getD i 0) = b := by rw [h]; exact listN_self b
  rw [e]
  by_cases hl : l < 64
  · simp [hl]
  · have hz : ∀ c : List Nat, (∀ x ∈ c, x < 18446744073709551616) → getN c l = 0 := by
      intro c hc
      apply Nat.eq_of_testBit_eq
      intro j
      rw [getN_bit, bits_of_lt (n := 64) (getD_lt (by omega) hc j) (by omega)]
      simp
    rw [hz a ha, hz b hb]
    simp
/- The lesser. -/
theorem min_get {a b : List Nat} (h : a.length = b.length) (ha : ∀ x ∈ a, x < 18446744073709551616) (hb : ∀ x ∈ b, x < 18446744073709551616) {l : Nat} (hl : l < 64) :
    getN (listN a.length (fun i => selN (lessL a b) (a.getD i 0) (b.getD i 0))) l = min (getN a l) (getN b l) := by
  have ga := getD_lt (B := 18446744073709551616) (by omega) ha
  have gb := getD_lt (B := 18446744073709551616) (by omega) hb
  have hs : ∀ k, getN (listN k (fun i => selN (lessL a b) (a.getD i 0) (b.getD i 0))) l = if (lessL a b).testBit l then getN (listN k (fun i => a.getD i 0)) l else getN (listN k (fun i => b.getD i 0)) l := by
    intro k
    induction k with
    | zero => simp [listN, getN]
    | succ k ih =>
      rw [getN_listN_succ, getN_listN_succ, getN_listN_succ, ih, selN_bit64 (lessL_lt a b) (ga k) (gb k)]
      cases (lessL a b).testBit l <;> simp
  have e : listN a.length (fun i => b.getD i 0) = b := by rw [h]; exact listN_self b
  rw [hs, listN_self, e]
  unfold lessL
  rw [bitsUp_bit]
  by_cases hc : getN a l < getN b l
  · simp [hl, hc]; omega
  · simp [hc]; omega
/- What the statements compare. -/
def twinsB (a b : List Nat) : Bool := a.length == b.length && decide (a.length ≤ 16)
def addM (a b : List Nat) : List Nat := if twinsB a b then putN (listN 64 (fun l => (getN a l + getN b l) % 2 ^ a.length)) a.length else []
def minM (a b : List Nat) : List Nat := if twinsB a b then putN (listN 64 (fun l => min (getN a l) (getN b l))) a.length else []
def lessM (a b : List Nat) : Nat := if twinsB a b then lessL a b else 0
def inB (k : Nat) (z : Int) : Bool := decide (0 ≤ z) && decide (z < 2 ^ k)
def numsOkB (list : List Int) (k : Int) : Bool := decide (list.length ≤ 64) && decide (0 ≤ k) && decide (k ≤ 16) && list.all (inB k.toNat)
def numsM (list : List Int) (k : Int) : List Nat := if numsOkB list k then putN (list.map Int.toNat) k.toNat else []
def numZ (nums : List Nat) (lane : Int) : Int := if nums.length ≤ 16 ∧ 0 ≤ lane ∧ lane < 64 then (getN nums lane.toNat : Int) else -1
theorem twins_iff {a b : List Nat} : twinsB a b = true ↔ a.length = b.length ∧ a.length ≤ 16 := by unfold twinsB; simp
theorem addTwo_is {a b : List Nat} (h : a.length = b.length) (ha : ∀ x ∈ a, x < 18446744073709551616) (hb : ∀ x ∈ b, x < 18446744073709551616) : addTwo a.length a b = putN (listN 64 (fun l => (getN a l + getN b l) % 2 ^ a.length)) a.length := by
  have := put_get (nums := addTwo a.length a b) (list := listN 64 (fun l => (getN a l + getN b l) % 2 ^ a.length)) (addTwo_lt ha hb) (listN_length _ _) (fun l hl => by rw [listN_getD _ hl, addTwo_get h])
  rw [addTwo_length] at this
  exact this
theorem addM_is {a b : List Nat} (ht : twinsB a b = true) (ha : ∀ x ∈ a, x < 18446744073709551616) (hb : ∀ x ∈ b, x < 18446744073709551616) : addTwo a.length a b = addM a b := by
  unfold addM
  rw [if_pos ht]
  exact addTwo_is (twins_iff.1 ht).1 ha hb
theorem minM_is {a b : List Nat} (ht : twinsB a b = true) (ha : ∀ x ∈ a, x < 18446744073709551616) (hb : ∀ x ∈ b, x < 18446744073709551616) : listN a.length (fun i => selN (lessL a b) (a.getD i 0) (b.getD i 0)) = minM a b := by
  unfold minM
  rw [if_pos ht]
  have ga := getD_lt (B := 18446744073709551616) (by omega) ha
  have gb := getD_lt (B := 18446744073709551616) (by omega) hb
  have := put_get (nums := listN a.length (fun i => selN (lessL a b) (a.getD i 0) (b.getD i 0))) (list := listN 64 (fun l => min (getN a l) (getN b l))) (by
    intro x hx
    unfold listN at hx
    obtain ⟨i, _, rfl⟩ := List.mem_map.1 hx
    exact selN_lt (ga i) (gb i)) (listN_length _ _) (fun l hl => by rw [listN_getD _ hl, min_get (twins_iff.1 ht).1 ha hb hl])
  rw [listN_length] at this
  exact this
theorem addM_lt (a b : List Nat) : ∀ x ∈ addM a b, x < 18446744073709551616 := by
  unfold addM
  split
  · exact putN_lt _ _ (by rw [listN_length]; omega)
  · simp
theorem minM_lt (a b : List Nat) : ∀ x ∈ minM a b, x < 18446744073709551616 := by
  unfold minM
  split
  · exact putN_lt _ _ (by rw [listN_length]; omega)
  · simp
theorem numsM_lt (list : List Int) (k : Int) : ∀ x ∈ numsM list k, x < 18446744073709551616 := by
  unfold numsM
  split
  · rename_i h
    unfold numsOkB at h
    simp at h
    exact putN_lt _ _ (by simp; omega)
  · simp
theorem addM_length (a b : List Nat) : (addM a b).length ≤ 16 := by
  unfold addM
  split
  · rename_i h; rw [putN_length]; exact (twins_iff.1 h).2
  · simp
theorem minM_length (a b : List Nat) : (minM a b).length ≤ 16 := by
  unfold minM
  split
  · rename_i h; rw [putN_length]; exact (twins_iff.1 h).2
  · simp
theorem numsM_length (list : List Int) (k : Int) : (numsM list k).length ≤ 16 := by
  unfold numsM
  split
  · rename_i h
    unfold numsOkB at h
    simp at h
    rw [putN_length]; omega
  · simp
/- One number more in the planes. -/
theorem putN_getD_snoc (list : List Nat) (n k j : Nat) (h : j < k) : (putN (list ++ [n]) k).getD j 0 = (putN list k).getD j 0 + (if n.testBit j then 2 ^ list.length else 0) := by
  rw [putN_at _ _ _ h, putN_at _ _ _ h, List.length_append, List.length_singleton, bitsUp]
  have e1 : ∀ i, i < list.length → (list ++ [n]).getD i 0 = list.getD i 0 := by
    intro i hi
    simp [List.getD, List.getElem?_append_left hi]
  rw [bitsUp_ext (d := fun i => (list.getD i 0).testBit j) list.length (fun i hi => by rw [e1 i hi])]
  have e2 : (list ++ [n]).getD list.length 0 = n := by simp [List.getD]
  rw [e2]
theorem putN_getD_or (list : List Nat) (n k j : Nat) (h : j < k) : (putN (list ++ [n]) k).getD j 0 = (putN list k).getD j 0 ||| (if n.testBit j then 2 ^ list.length else 0) := by
  rw [putN_at _ _ _ h, putN_at _ _ _ h, List.length_append, List.length_singleton, bitsUp_or]
  have e1 : ∀ i, i < list.length → (list ++ [n]).getD i 0 = list.getD i 0 := by
    intro i hi
    simp [List.getD, List.getElem?_append_left hi]
  rw [bitsUp_ext (d := fun i => (list.getD i 0).testBit j) list.length (fun i hi => by rw [e1 i hi])]
  have e2 : (list ++ [n]).getD list.length 0 = n := by simp [List.getD]
  rw [e2]
theorem putN_nil (k : Nat) : putN [] k = zerosN k := by
  apply List.ext_getElem?
  intro i
  unfold putN zerosN
  by_cases h : i < k
  · simp [h, bitsUp]
  · simp [h]
end Go.Proofs.Ytfdlmpjccoaejaa
