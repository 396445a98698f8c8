/- MemSweep, plain: what is answered. No program in it. -/
import Derived.Test.YticfnhbjoaecjaaDoorMemRM
import Derived.Test.YticfnhbjoaecjaaDoorMemK
namespace Go.Proofs.YticfnhbjoaecjaaDoor
open Go.RowKit
set_option linter.unusedVariables false

def sweepC (m : MemM) : Int := if memOkB m then (if 6000 < m.log.length + m.cells.length then 4 else 0) else 1
/-- The accesses of a sweep of the first n cells. -/
def sweepT (z : Int) (n : Nat) : List TouchM := (List.range n).map fun (i : Nat) => ⟨1, (i : Int), z⟩
theorem sweepT_len (z : Int) (n : Nat) : (sweepT z n).length = n := by simp [sweepT]
theorem sweepT_succ (z : Int) (n : Nat) : sweepT z (n + 1) = sweepT z n ++ [⟨1, (n : Int), z⟩] := by simp [sweepT, List.range_succ]
def sweepM (m : MemM) : MemM := if sweepC m = 0 then ⟨m.z, m.cells, m.log ++ sweepT m.z m.cells.length⟩ else memZ
def sweepD (m : MemM) : List UInt8 := if sweepC m = 0 then m.cells.flatten else []
theorem sweep_form {m : MemM} (h : memOkB m = false) : sweepC m = 1 := by unfold sweepC; rw [h]; rfl
theorem sweep_full {m : MemM} (h : memOkB m = true) (h2 : 6000 < m.log.length + m.cells.length) : sweepC m = 4 := by unfold sweepC; rw [h, if_pos h2]; rfl
theorem sweep_fine {m : MemM} (h : memOkB m = true) (h2 : ¬ 6000 < m.log.length + m.cells.length) : sweepC m = 0 := by unfold sweepC; rw [h, if_neg h2]; rfl
theorem sweep_no {m : MemM} {c : Int} (h : sweepC m = c) (hc : c ≠ 0) : sweepM m = memZ ∧ sweepD m = [] := by
  unfold sweepM sweepD; rw [h, if_neg hc, if_neg hc]; exact ⟨rfl, rfl⟩
theorem sweep_yes {m : MemM} (h : sweepC m = 0) : sweepM m = ⟨m.z, m.cells, m.log ++ sweepT m.z m.cells.length⟩ ∧ sweepD m = m.cells.flatten := by
  unfold sweepM sweepD; rw [h, if_pos rfl, if_pos rfl]; exact ⟨rfl, rfl⟩
theorem flatten_len : ∀ ls : List (List UInt8), ls.flatten.length = sumL ls
  | [] => rfl
  | l :: ls => by simp [sumL]
theorem sumL_le {z : Nat} : ∀ {ls : List (List UInt8)}, (∀ l ∈ ls, l.length ≤ z) → sumL ls ≤ ls.length * z
  | [], _ => by simp [sumL]
  | l :: ls, h => by
    have h1 := sumL_le (fun l hl => h l (List.mem_cons_of_mem _ hl)) (ls := ls)
    have h2 := h l List.mem_cons_self
    have e : sumL (l :: ls) = l.length + sumL ls := by simp [sumL]
    rw [e, List.length_cons, Nat.succ_mul]
    omega
theorem sum_small {m : MemM} (h : memOkB m = true) : sumL m.cells ≤ 128000 := by
  obtain ⟨h1, h2, h3, _, h5⟩ := mem_of h
  have := sumL_le (z := 1000) (ls := m.cells) (fun l hl => by have := h5 l hl; omega)
  omega
theorem sweep_ok {m : MemM} (h : sweepC m = 0) : memOkB m = true := by
  cases e : memOkB m
  · rw [sweep_form e] at h; omega
  · rfl
theorem sweepM_bd (m : MemM) (h : szMem m ≤ 1048576) : mcMem (sweepM m) ≤ 1000000000000 := by
  unfold sweepM
  split
  · unfold mcMem; unfold szMem at h; simp [sweepT_len]; omega
  · rw [memZ_mc]; omega
theorem sweepD_bd (m : MemM) : szByteS (sweepD m) ≤ 1000000000000 := by
  unfold sweepD szByteS
  split
  · rename_i hc
    have := sum_small (sweep_ok hc)
    rw [flatten_len]; omega
  · simp
/-- What a sweep leaves: a memory, and a row of bytes in blocks of its own. -/
def SweepRet (m : MemM) (w : World) (e : Ending) (w' : World) : Prop :=
  ∃ c0 c1 c2 d, e = .returned (.tuple #[.agg #[c0, c1, c2], d, .int .i64 (sweepC m)]) ∧ MemX w.heap.size w'.heap.size [c0, c1, c2] (sweepM m) [d] [sweepD m] w' ∧ Below w.heap.size w w'
theorem sweep_fail {m : MemM} {c : Int} {w w' : World} (h : sweepC m = c) (hc : c ≠ 0) (hb : Below w.heap.size w w') : SweepRet m w (.returned (.tuple #[.agg #[.int .i64 0, .slice none 0 0, .slice none 0 0], .slice none 0 0, .int .i64 c])) w' := by
  obtain ⟨h1, h2⟩ := sweep_no h hc
  refine ⟨_, _, _, _, by rw [h], ?_, hb⟩
  rw [h1, h2]
  refine ⟨none, 0, [], .slice none 0 0, rfl, World.ownsRow_nil _ _ _ _, fun k hk => by simp [Value.ownBlock] at hk, ?_, ⟨none, 0, rfl, World.ownsRow_nil _ _ _ _, fun k hk => by simp [Value.ownBlock] at hk⟩⟩
  refine ⟨rfl, fun i v l h1 h2 => ?_, fun i j u v k hij h1 h2 hk => ?_⟩
  · match i, h1, h2 with
    | 0, h1, h2 =>
      simp [memZ] at h1 h2
      subst h1 h2
      exact nilB _ _ _
    | i + 1, h1, h2 => simp at h1
  · match i, h1 with
    | 0, h1 => simp at h1; subst h1; simp [Value.ownBlock] at hk
    | i + 1, h1 => simp at h1
/-- A memory and a row of bytes, the cells below the row. -/
theorem sweep_join {lo mid hi : Nat} {z : Int} {a x : Option Addr} {n cap k xc : Nat} {d : Value} {ls : List (List UInt8)} {lg : List TouchM} {l : List UInt8} {w : World} (hc : CellSOwn lo mid [.slice a n cap] ls w) (hl : TouchSOwn lo hi [.slice x k xc] lg w) (hd : ByteSOwn mid hi [d] l w) (h1 : lo ≤ mid) (h2 : mid ≤ hi) :
    MemX lo hi [.int .i64 z, .slice a n cap, .slice x k xc] ⟨z, ls, lg⟩ [d] [l] w := by
  have ht : ∀ k, Value.ownBlock (.slice a n cap) = some k → k < hi := by
    obtain ⟨a', cap', _, e, _, ht, _⟩ := hc
    simp at e
    obtain ⟨rfl, rfl, rfl⟩ := e
    exact fun k hk => Nat.lt_of_lt_of_le (ht k hk) h2
  obtain ⟨rfl, vs, ho, hdat⟩ := hc.open
  have hlen := hdat.len
  refine ⟨a, cap, vs, .slice x k xc, rfl, ho, ht, ?_, hl⟩
  have key : ∀ y, d.ownBlock = some y → mid ≤ y := by
    obtain ⟨a, cap, hc, ho, _⟩ := hd
    simp at hc
    subst hc
    exact fun k hk => (ho.lt k hk).1
  have lts : ∀ (i : Nat) u y, vs[i]? = some u → u.ownBlock = some y → y < mid := by
    intro i u y hi hk
    have hil : i < vs.length := (List.getElem?_eq_some_iff.1 hi).1
    obtain ⟨a, cap, hc, _, hx⟩ := hdat.row i u (ls[i]'(by omega)) hi (List.getElem?_eq_getElem _)
    simp at hc
    subst hc
    exact hx y hk
  show Datas lo hi (vs ++ [d]) (ls ++ [l]) w
  refine ⟨by simp [hlen], fun i u m h3 h4 => ?_, fun i j u v y hij h3 h4 hy hx => ?_⟩
  · rcases Nat.lt_trichotomy i vs.length with hi | hi | hi
    · rw [List.getElem?_append_left hi] at h3
      rw [List.getElem?_append_left (by omega)] at h4
      exact (hdat.row i u m h3 h4).wide (Nat.le_refl _) h2
    · rw [List.getElem?_append_right (by omega)] at h3 h4
      rw [hi] at h3 h4
      simp [hlen] at h3 h4
      subst h3 h4
      exact hd.wide h1 (Nat.le_refl _)
    · rw [List.getElem?_eq_none (by simp; omega)] at h3; cases h3
  · rcases Nat.lt_trichotomy i vs.length with hi | hi | hi
    · rw [List.getElem?_append_left hi] at h3
      rcases Nat.lt_trichotomy j vs.length with hj | hj | hj
      · rw [List.getElem?_append_left hj] at h4
        exact hdat.apart i j u v y hij h3 h4 hy hx
      · rw [List.getElem?_append_right (by omega), hj] at h4
        simp at h4
        subst h4
        have a1 := key y hx
        have a2 := lts i u y h3 hy
        omega
      · rw [List.getElem?_eq_none (by simp; omega)] at h4; cases h4
    · rw [List.getElem?_append_right (by omega), hi] at h3
      simp at h3
      subst h3
      rcases Nat.lt_trichotomy j vs.length with hj | hj | hj
      · rw [List.getElem?_append_left hj] at h4
        have a1 := key y hy
        have a2 := lts j v y h4 hx
        omega
      · omega
      · rw [List.getElem?_eq_none (by simp; omega)] at h4; cases h4
    · rw [List.getElem?_eq_none (by simp; omega)] at h3; cases h3
theorem flat_snoc {ls : List (List UInt8)} {k : Nat} (h : k < ls.length) : (ls.take (k + 1)).flatten = (ls.take k).flatten ++ ls[k] := by
  rw [List.take_succ_eq_append_getElem h, List.flatten_append]; simp
end Go.Proofs.YticfnhbjoaecjaaDoor
