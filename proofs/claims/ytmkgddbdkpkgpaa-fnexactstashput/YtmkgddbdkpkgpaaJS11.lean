/- TnP, StP in one. Written by tools/join2.py. -/
import Derived.Test.YtmkgddbdkpkgpaaJS2
import Derived.Test.YtmkgddbdkpkgpaaJS10
section
namespace Go.Proofs.Ytmkgddbdkpkgpaa
open Go.RowKit
set_option linter.unusedVariables false

def frameB (z v : Int) : Bool := logB z && (decide (1 ≤ v) && decide (v ≤ 200))
def blockOkB (m : BlkM) (z v : Int) : Bool := frameB z v && (decide (0 ≤ m.id) && (decide (m.id ≤ 255) && (leafB z m.leaf && decide ((m.data.length : Int) = v))))
def atB (l : List BlkM) (i : Nat) : BlkM := l.getD i zeroBlk
/-- What is asked of block i. -/
def goodB (l : List BlkM) (z v : Int) (i : Nat) : Bool := blockOkB (atB l i) z v && (decide (i = 0) || decide ((atB l (i - 1)).id < (atB l i).id))
def blocksOkB (l : List BlkM) (z v : Int) : Bool := frameB z v && (List.range l.length).all (goodB l z v)
def nodeOkB (l : NodeM) (z v : Int) : Bool := decide (l.length ≤ 4) && blocksOkB l z v
def nodeSizeZ (v : Int) : Int := if 1 ≤ v ∧ v ≤ 200 then 4 * (v + 3) else -1
theorem atB_get {l : List BlkM} {i : Nat} (h : i < l.length) : atB l i = l[i] := by unfold atB; rw [List.getD_eq_getElem?_getD]; simp [h]
theorem frameB_ok {z v : Int} (h : frameB z v = true) : ∃ g n : Nat, z = g ∧ v = n ∧ g ≤ 6 ∧ 1 ≤ n ∧ n ≤ 200 := by
  unfold frameB at h
  simp only [Bool.and_eq_true, decide_eq_true_eq] at h
  obtain ⟨g, rfl, hg⟩ := logB_ok h.1
  exact ⟨g, v.toNat, rfl, by omega, hg, by omega, by omega⟩
theorem blockOkB_ok {m : BlkM} {z v : Int} (h : blockOkB m z v = true) : frameB z v = true ∧ (0 ≤ m.id ∧ m.id ≤ 255) ∧ leafB z m.leaf = true ∧ (m.data.length : Int) = v := by
  unfold blockOkB at h
  simp only [Bool.and_eq_true, decide_eq_true_eq] at h
  exact ⟨h.1, ⟨h.2.1, h.2.2.1⟩, h.2.2.2.1, h.2.2.2.2⟩
theorem goodAll_take {l : List BlkM} {z v : Int} : ∀ k, (∀ i, i < k → goodB l z v i = true) → (List.range k).all (goodB l z v) = true := fun k h => by
  rw [List.all_eq_true]
  exact fun i hi => h i (List.mem_range.1 hi)
theorem blocksOkB_bad {l : List BlkM} {z v : Int} {i : Nat} (h : i < l.length) (hb : goodB l z v i = false) : blocksOkB l z v = false := by
  unfold blocksOkB
  have : (List.range l.length).all (goodB l z v) = false := by
    rw [List.all_eq_false]
    exact ⟨i, List.mem_range.2 h, by rw [hb]; decide⟩
  rw [this, Bool.and_false]
theorem blocksOkB_all {l : List BlkM} {z v : Int} (h : blocksOkB l z v = true) : frameB z v = true ∧ ∀ i, i < l.length → goodB l z v i = true := by
  unfold blocksOkB at h
  simp only [Bool.and_eq_true, List.all_eq_true] at h
  exact ⟨h.1, fun i hi => h.2 i (List.mem_range.2 hi)⟩
theorem blocksOkB_each {l : List BlkM} {z v : Int} (h : blocksOkB l z v = true) : ∀ m ∈ l, blockOkB m z v = true := fun m hm => by
  obtain ⟨i, hi, rfl⟩ := List.mem_iff_getElem.1 hm
  have := (blocksOkB_all h).2 i hi
  unfold goodB at this
  simp only [Bool.and_eq_true] at this
  rw [atB_get hi] at this
  exact this.1
/-- A block's bytes. -/
def encB (m : BlkM) : List UInt8 := 1 :: UInt8.ofNat m.id.toNat :: UInt8.ofNat m.leaf.toNat :: m.data
def encAll (l : List BlkM) : List UInt8 := l.flatMap encB
theorem encAll_snoc {l : List BlkM} {k : Nat} (h : k < l.length) : encAll (l.take (k + 1)) = encAll (l.take k) ++ encB l[k] := by
  unfold encAll; rw [List.take_succ_eq_append_getElem h, List.flatMap_append]; simp
theorem encAll_length {n : Nat} : ∀ {l : List BlkM}, (∀ m ∈ l, m.data.length = n) → (encAll l).length = l.length * (n + 3)
  | [], _ => by simp [encAll]
  | m :: l, h => by
    have h1 := h m (by simp)
    have h2 := encAll_length (l := l) (fun x hx => h x (List.mem_cons_of_mem _ hx))
    unfold encAll at h2 ⊢
    rw [List.flatMap_cons, List.length_append, h2, List.length_cons, Nat.add_mul]
    unfold encB
    simp [h1]; omega
def nodeOfL (l : NodeM) (z v : Int) : List UInt8 := if nodeOkB l z v = true then encAll l ++ List.replicate (4 * (v.toNat + 3) - (encAll l).length) 0 else []
theorem nodeOfL_no {l : NodeM} {z v : Int} (h : nodeOkB l z v = false) : nodeOfL l z v = [] := by unfold nodeOfL; rw [if_neg (by rw [h]; decide)]
theorem nodeOkB_ok {l : NodeM} {z v : Int} (h : nodeOkB l z v = true) : l.length ≤ 4 ∧ blocksOkB l z v = true := by
  unfold nodeOkB at h
  simpa using h
theorem nodeOfL_length {l : NodeM} {z v : Int} (h : nodeOkB l z v = true) : (nodeOfL l z v).length = 4 * (v.toNat + 3) ∧ (encAll l).length ≤ 4 * (v.toNat + 3) := by
  obtain ⟨h1, h2⟩ := nodeOkB_ok h
  have h3 : (encAll l).length = l.length * (v.toNat + 3) := encAll_length (fun m hm => by
    have := (blockOkB_ok (blocksOkB_each h2 m hm)).2.2.2
    omega)
  have h4 : l.length * (v.toNat + 3) ≤ 4 * (v.toNat + 3) := Nat.mul_le_mul_right _ h1
  unfold nodeOfL
  rw [if_pos h]
  simp; omega
theorem nodeOfL_bd (l : NodeM) (z v : Int) : (nodeOfL l z v).length ≤ 812 := by
  cases h : nodeOkB l z v
  · rw [nodeOfL_no h]; simp
  · have h1 := (nodeOfL_length h).1
    obtain ⟨g, n, rfl, rfl, _, h2, h3⟩ := frameB_ok (blocksOkB_all (nodeOkB_ok h).2).1
    rw [Int.toNat_natCast] at h1
    omega
end Go.Proofs.Ytmkgddbdkpkgpaa
end

section
namespace Go.Proofs.Ytmkgddbdkpkgpaa
open Go.RowKit
set_option linter.unusedVariables false

def idLt (x y : BlkM) : Prop := x.id < y.id
theorem goodB_succ {l : List BlkM} {z v : Int} {i : Nat} (h : goodB l z v (i + 1) = true) : (atB l i).id < (atB l (i + 1)).id := by
  unfold goodB at h
  simpa using (Bool.and_eq_true_iff.1 h).2
theorem pair_of_chain : ∀ {l : List BlkM}, (∀ i, i + 1 < l.length → (atB l i).id < (atB l (i + 1)).id) → l.Pairwise idLt
  | [], _ => List.Pairwise.nil
  | x :: l, h => by
    have ht : l.Pairwise idLt := pair_of_chain (fun i hi => h (i + 1) (by simpa using hi))
    refine List.Pairwise.cons (fun y hy => ?_) ht
    cases l with
    | nil => simp at hy
    | cons a t =>
      have h0 : x.id < a.id := h 0 (by simp)
      rcases List.mem_cons.1 hy with rfl | hy
      · exact h0
      · exact Int.lt_trans h0 ((List.pairwise_cons.1 ht).1 y hy)
theorem chain_of_pair {l : List BlkM} (h : l.Pairwise idLt) : ∀ i, i + 1 < l.length → (atB l i).id < (atB l (i + 1)).id := fun i hi => by
  rw [atB_get hi, atB_get (by omega)]
  exact List.pairwise_iff_getElem.1 h i (i + 1) (by omega) hi (by omega)
theorem blocksOkB_iff {l : List BlkM} {z v : Int} : blocksOkB l z v = true ↔ frameB z v = true ∧ (∀ m ∈ l, blockOkB m z v = true) ∧ l.Pairwise idLt := by
  constructor
  · intro h
    exact ⟨(blocksOkB_all h).1, blocksOkB_each h, pair_of_chain (fun i hi => goodB_succ ((blocksOkB_all h).2 (i + 1) hi))⟩
  · rintro ⟨h1, h2, h3⟩
    unfold blocksOkB
    rw [h1, Bool.true_and]
    refine goodAll_take _ (fun i hi => ?_)
    unfold goodB
    rw [atB_get hi, h2 _ (List.getElem_mem hi), Bool.true_and]
    cases i with
    | zero => rfl
    | succ i =>
      have := chain_of_pair h3 i hi
      rw [atB_get hi] at this
      simpa using this

def stashOkB (l : List BlkM) (z v : Int) : Bool := decide (l.length ≤ 128) && blocksOkB l z v
def withoutL (l : List BlkM) (i : Int) : List BlkM := l.filter (fun m => decide (m.id ≠ i))
/-- How many blocks at the beginning have a less Id. -/
def cntLess : List BlkM → Int → Nat
  | [], _ => 0
  | x :: l, i => if x.id < i then cntLess l i + 1 else 0
def insB (b : BlkM) : List BlkM → List BlkM
  | [] => [b]
  | x :: l => if x.id < b.id then x :: insB b l else b :: x :: l
theorem cntLess_le : ∀ (l : List BlkM) (i : Int), cntLess l i ≤ l.length
  | [], _ => Nat.le_refl _
  | x :: l, i => by unfold cntLess; split; have := cntLess_le l i; simp; omega; simp
theorem insB_at (b : BlkM) : ∀ l : List BlkM, l.take (cntLess l b.id) ++ b :: l.drop (cntLess l b.id) = insB b l
  | [] => rfl
  | x :: l => by
    unfold cntLess insB
    split
    · simp [insB_at b l]
    · simp
theorem insB_length (b : BlkM) : ∀ l : List BlkM, (insB b l).length = l.length + 1
  | [] => rfl
  | x :: l => by
    unfold insB
    split
    · simp [insB_length b l]
    · simp
theorem mem_insB (b m : BlkM) : ∀ l : List BlkM, m ∈ insB b l ↔ m = b ∨ m ∈ l
  | [] => by simp [insB]
  | x :: l => by
    unfold insB
    split
    · rw [List.mem_cons, mem_insB b m l, List.mem_cons]
      constructor
      · rintro (h | h | h)
        · exact .inr (.inl h)
        · exact .inl h
        · exact .inr (.inr h)
      · rintro (h | h | h)
        · exact .inr (.inl h)
        · exact .inl h
        · exact .inr (.inr h)
    · rw [List.mem_cons]
theorem insB_pair (b : BlkM) : ∀ {l : List BlkM}, l.Pairwise idLt → (∀ m ∈ l, m.id ≠ b.id) → (insB b l).Pairwise idLt
  | [], _, _ => by simp [insB]
  | x :: l, h, hn => by
    obtain ⟨h1, h2⟩ := List.pairwise_cons.1 h
    have hx := hn x (by simp)
    unfold insB
    split
    · rename_i hlt
      refine List.Pairwise.cons (fun y hy => ?_) (insB_pair b h2 (fun m hm => hn m (List.mem_cons_of_mem _ hm)))
      rcases (mem_insB b y l).1 hy with rfl | hy
      · exact hlt
      · exact h1 y hy
    · rename_i hlt
      have hbx : b.id < x.id := by omega
      refine List.Pairwise.cons (fun y hy => ?_) h
      rcases List.mem_cons.1 hy with rfl | hy
      · exact hbx
      · exact Int.lt_trans hbx (h1 y hy)
theorem withoutL_none {l : List BlkM} {i : Int} (h : ∀ m ∈ l, m.id ≠ i) : withoutL l i = l := by
  unfold withoutL
  rw [List.filter_eq_self]
  exact fun m hm => by simpa using h m hm
theorem withoutL_mem {l : List BlkM} {i : Int} {m : BlkM} : m ∈ withoutL l i ↔ m ∈ l ∧ m.id ≠ i := by unfold withoutL; rw [List.mem_filter]; simp
theorem withoutL_insB (b : BlkM) : ∀ {l : List BlkM}, (∀ m ∈ l, m.id ≠ b.id) → withoutL (insB b l) b.id = l
  | [], _ => by simp [insB, withoutL]
  | x :: l, hn => by
    have hx := hn x (by simp)
    have hl := fun m hm => hn m (List.mem_cons_of_mem x hm)
    unfold insB
    split
    · have ih := withoutL_insB b hl
      unfold withoutL at ih ⊢
      rw [List.filter_cons_of_pos (by simpa using hx), ih]
    · have := withoutL_none (l := x :: l) hn
      unfold withoutL at this ⊢
      rw [List.filter_cons_of_neg (by simp), this]
theorem find_insB (b : BlkM) : ∀ {l : List BlkM}, (∀ m ∈ l, m.id ≠ b.id) → (insB b l).find? (fun m => decide (m.id = b.id)) = some b
  | [], _ => by simp [insB]
  | x :: l, hn => by
    have hx := hn x (by simp)
    have hl := fun m hm => hn m (List.mem_cons_of_mem x hm)
    unfold insB
    split
    · rw [List.find?_cons_of_neg (by simpa using hx), find_insB b hl]
    · rw [List.find?_cons_of_pos (by simp)]
theorem withoutL_pair {l : List BlkM} {i : Int} (h : l.Pairwise idLt) : (withoutL l i).Pairwise idLt := h.filter _
theorem withoutL_le (l : List BlkM) (i : Int) : (withoutL l i).length ≤ l.length := List.length_filter_le _ _
/-- The models of StashPut, StashFind, StashDrop. -/
def sPutB (l : List BlkM) (b : BlkM) (z v : Int) : Bool := stashOkB l z v && (blockOkB b z v && !decide ((withoutL l b.id).length = 128))
def sPutM (l : List BlkM) (b : BlkM) (z v : Int) : List BlkM := if sPutB l b z v = true then insB b (withoutL l b.id) else []
def sFindB (l : List BlkM) (i : Int) : Bool := decide (l.length ≤ 128) && l.any (fun m => decide (m.id = i))
def sFindM (l : List BlkM) (i : Int) : BlkM := if sFindB l i = true then (l.find? (fun m => decide (m.id = i))).getD zeroBlk else zeroBlk
def sDropM (l : List BlkM) (i : Int) : List BlkM := if sFindB l i = true then withoutL l i else []
theorem stashOkB_iff {l : List BlkM} {z v : Int} : stashOkB l z v = true ↔ l.length ≤ 128 ∧ frameB z v = true ∧ (∀ m ∈ l, blockOkB m z v = true) ∧ l.Pairwise idLt := by
  unfold stashOkB
  rw [Bool.and_eq_true, decide_eq_true_eq, blocksOkB_iff]
/-- What is put is found, what is dropped is not, all others stay. -/
theorem stash_book {l : List BlkM} {b : BlkM} {z v : Int} (h : sPutB l b z v = true) : sFindB (sPutM l b z v) b.id = true ∧ sFindM (sPutM l b z v) b.id = b ∧ stashOkB (sPutM l b z v) z v = true ∧ sDropM (sPutM l b z v) b.id = withoutL l b.id ∧ sFindB (withoutL l b.id) b.id = false ∧ (sPutM l b z v).length = (withoutL l b.id).length + 1 := by
  have hM : sPutM l b z v = insB b (withoutL l b.id) := by unfold sPutM; rw [if_pos h]
  unfold sPutB at h
  simp only [Bool.and_eq_true, Bool.not_eq_true', decide_eq_false_iff_not] at h
  obtain ⟨h1, h2, h3⟩ := h
  obtain ⟨g1, g2, g3, g4⟩ := stashOkB_iff.1 h1
  have hle := withoutL_le l b.id
  have hn : ∀ m ∈ withoutL l b.id, m.id ≠ b.id := fun m hm => (withoutL_mem.1 hm).2
  have hF : sFindB (insB b (withoutL l b.id)) b.id = true := by
    unfold sFindB
    rw [insB_length, decide_eq_true (by omega), Bool.true_and, List.any_eq_true]
    exact ⟨b, (mem_insB b b _).2 (.inl rfl), by simp⟩
  rw [hM]
  refine ⟨hF, ?_, ?_, ?_, ?_, insB_length _ _⟩
  · unfold sFindM
    rw [if_pos hF, find_insB b hn]; rfl
  · rw [stashOkB_iff, insB_length]
    refine ⟨by omega, g2, fun m hm => ?_, insB_pair b (withoutL_pair g4) hn⟩
    rcases (mem_insB b m _).1 hm with rfl | hm
    · exact h2
    · exact g3 m (withoutL_mem.1 hm).1
  · unfold sDropM
    rw [if_pos hF, withoutL_insB b hn]
  · unfold sFindB
    have : (withoutL l b.id).any (fun m => decide (m.id = b.id)) = false := by
      rw [List.any_eq_false]
      exact fun m hm => by simpa using hn m hm
    rw [this, Bool.and_false]
end Go.Proofs.Ytmkgddbdkpkgpaa
end
