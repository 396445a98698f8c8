/- FnMemBook, the parts: the logs compared; what the accesses answer of a book's memory; a block of values known whole. -/
import Derived.Test.YticfnhbjoaecjaaDoorMemL
import Derived.Test.YticfnhbjoaecjaaDoorMemRM
import Derived.Test.YticfnhbjoaecjaaDoorMemSM
import Derived.Test.YticfnhbjoaecjaaDoorMemN
import Derived.Deep.QuietTactic
import Derived.BigQuiet
namespace Go.Proofs.YticfnhbjoaecjaaDoor
open Go.RowKit
set_option linter.unusedVariables false
set_option maxRecDepth 100000
set_option maxHeartbeats 800000 in
theorem lawsSameLog (a1 a2 : Option Addr) (c1 c2 : Nat) (l : List TouchM) (w : World) (h1 : l.length ≤ maxLen) (r1 : Row w a1 (flatT l)) (r2 : Row w a2 (flatT l)) :
    Calls Tryd.prog 11 #[.slice a1 l.length c1, .slice a2 l.length c2] w fun e w' => e = .returned (.bool true) ∧ ∃ n, w' = w.drewN n := by
  unfold maxLen at h1
  have R1 := Lib.hid r1
  have R2 := Lib.hid r2
  clear r1 r2
  go_enter Tryd.func11, Tryd.ntmps11
  go_wp2
  go_loopw [5] (fun i wr => ∃ k n : Nat, k ≤ l.length ∧ i = .int .i64 k ∧ wr = w.drewN n) (fun i _ => l.length - (intOf i).toNat)
  case atStart => exact ⟨0, 0, Nat.zero_le _, rfl, rfl⟩
  case round =>
    obtain ⟨k, n, hk, rfl, rfl⟩ := hrel
    by_cases hlt : k < l.length
    · obtain ⟨b1, o1, rfl, q0, q1, q2⟩ := R1.out.touch hlt
      obtain ⟨b2, o2, rfl, p0, p1, p2⟩ := R2.out.touch hlt
      generalize l[k].op = x at *
      generalize l[k].ad = y at *
      generalize l[k].len = z at *
      go_wp2
      go_quiet (fail)
      go_wp2
      go_roundw
      case rel => exact ⟨k + 1, _, by omega, by go_num, rfl⟩
      case measure => simp [intOf]; omega
    · go_wp2
      go_ret
      exact ⟨rfl, n, rfl⟩
/-- A memory of n cells of z bytes, whose log is of accesses within it. -/
structure BookM (n z : Nat) (m : MemM) : Prop where
  size : m.z = z
  count : m.cells.length = n
  each : ∀ c ∈ m.cells, c.length = z
  acc : ∀ t ∈ m.log, (t.op = 1 ∨ t.op = 2) ∧ 0 ≤ t.ad ∧ t.ad < n ∧ t.len = z
theorem BookM.ok {n z : Nat} {m : MemM} (h : BookM n z m) (hn : n ≤ 6) (hz : 1 ≤ z) (hz4 : z ≤ 4) (hl : m.log.length ≤ 40) : memOkB m = true := by
  refine mem_all ?_ ?_ ?_
  · rw [h.size]; unfold sizeB; simp; omega
  · refine cells_good (by rw [h.count]; omega) ?_
    rw [List.all_eq_true]
    intro c hc
    unfold cellB
    rw [h.size, h.each c hc]; simp
  · unfold logB
    rw [Bool.and_eq_true]
    refine ⟨by simp; omega, ?_⟩
    rw [List.all_eq_true]
    intro t ht
    obtain ⟨h1, h2, h3, h4⟩ := h.acc t ht
    unfold touchB
    rw [h.size, h.count]
    simp [h4, h2, h3]
    exact h1
theorem hasN_yes {n : Nat} {j : Nat} (h : j < n) : hasB n (j : Int) = true := by unfold hasB; simp; omega
theorem hasN_no {n : Nat} {j : Nat} (h : n ≤ j) : hasB n (j : Int) = false := by unfold hasB; simp; omega
theorem BookM.new (n z : Nat) (hn : n ≤ 6) (hz : 1 ≤ z) (hz4 : z ≤ 4) : BookM n z (memNewM (n : Int) (z : Int)) ∧ memNewM (n : Int) (z : Int) = ⟨z, List.replicate n (List.replicate z 0), []⟩ := by
  have e : memNewM (n : Int) (z : Int) = ⟨z, List.replicate n (List.replicate z 0), []⟩ := by
    rw [new_yes (newB_is (by omega))]; simp [zeros]
  rw [e]
  exact ⟨⟨rfl, by simp, fun c hc => by rw [List.eq_of_mem_replicate hc]; simp, fun t ht => by simp at ht⟩, rfl⟩
/-- A read within the memory. -/
theorem BookM.read {n z : Nat} {m : MemM} (h : BookM n z m) (hn : n ≤ 6) (hz : 1 ≤ z) (hz4 : z ≤ 4) (hl : m.log.length < 40) {j : Nat} (hj : j < n) :
    readC m (j : Int) = 0 ∧ readM m (j : Int) = ⟨m.z, m.cells, m.log ++ [⟨1, j, z⟩]⟩ ∧ readD m (j : Int) = m.cells.getD j [] ∧ BookM n z ⟨m.z, m.cells, m.log ++ [⟨1, j, z⟩]⟩ := by
  have hc : readC m (j : Int) = 0 := acc_fine (h.ok hn hz hz4 (by omega)) (by rw [h.count]; exact hasN_yes hj) rfl (by omega)
  refine ⟨hc, ?_, ?_, ⟨h.size, h.count, h.each, ?_⟩⟩
  · unfold readM; rw [if_pos hc, h.size]
  · unfold readD; rw [if_pos hc]; simp
  · intro t ht
    rcases List.mem_append.1 ht with h1 | h1
    · exact h.acc t h1
    · simp at h1; subst h1; exact ⟨.inl rfl, by simp, by simp; omega, rfl⟩
theorem BookM.readNo {n z : Nat} {m : MemM} (h : BookM n z m) (hn : n ≤ 6) (hz : 1 ≤ z) (hz4 : z ≤ 4) (hl : m.log.length ≤ 40) {j : Nat} (hj : n ≤ j) : readC m (j : Int) = 2 :=
  acc_addr (h.ok hn hz hz4 hl) (by rw [h.count]; exact hasN_no hj)
/-- A write within the memory. -/
theorem BookM.write {n z : Nat} {m : MemM} (h : BookM n z m) (hn : n ≤ 6) (hz : 1 ≤ z) (hz4 : z ≤ 4) (hl : m.log.length < 40) {j : Nat} (hj : j < n) {d : List UInt8} (hd : d.length = z) :
    writeC m (j : Int) d = 0 ∧ writeM m (j : Int) d = ⟨m.z, m.cells.set j d, m.log ++ [⟨2, j, z⟩]⟩ ∧ BookM n z ⟨m.z, m.cells.set j d, m.log ++ [⟨2, j, z⟩]⟩ := by
  have hc : writeC m (j : Int) d = 0 := acc_fine (h.ok hn hz hz4 (by omega)) (by rw [h.count]; exact hasN_yes hj) (by rw [h.size, hd]) (by omega)
  refine ⟨hc, ?_, ⟨h.size, by simp [h.count], ?_, ?_⟩⟩
  · unfold writeM; rw [if_pos hc, h.size]; simp
  · intro c hc'
    rcases List.mem_or_eq_of_mem_set hc' with h1 | h1
    · exact h.each c h1
    · rw [h1]; exact hd
  · intro t ht
    rcases List.mem_append.1 ht with h1 | h1
    · exact h.acc t h1
    · simp at h1; subst h1; exact ⟨.inr rfl, by simp, by simp; omega, rfl⟩
theorem BookM.writeNo {n z : Nat} {m : MemM} (h : BookM n z m) (hn : n ≤ 6) (hz : 1 ≤ z) (hz4 : z ≤ 4) (hl : m.log.length ≤ 40) {j : Nat} (hj : n ≤ j) (d : List UInt8) : writeC m (j : Int) d = 2 :=
  acc_addr (h.ok hn hz hz4 hl) (by rw [h.count]; exact hasN_no hj)
/-- The sweep. -/
theorem BookM.sweep {n z : Nat} {m : MemM} (h : BookM n z m) (hn : n ≤ 6) (hz : 1 ≤ z) (hz4 : z ≤ 4) (hl : m.log.length ≤ 40) : sweepC m = 0 ∧ sweepD m = m.cells.flatten := by
  have hc : sweepC m = 0 := sweep_fine (h.ok hn hz hz4 hl) (by rw [h.count]; omega)
  exact ⟨hc, (sweep_yes hc).2⟩
/-- The accesses fit an int. -/
theorem BookM.tbd {n z : Nat} {m : MemM} (h : BookM n z m) (hn : n ≤ 6) (hz4 : z ≤ 4) : ∀ t ∈ m.log, tbd t := by
  intro t ht
  obtain ⟨h1, h2, h3, h4⟩ := h.acc t ht
  unfold Go.Proofs.YticfnhbjoaecjaaDoor.tbd i64B
  omega
/-- n values, as cells; a block of them known whole. -/
def valsV (n : Nat) (V : Nat → Value) : Array Value := ((List.range n).map V).toArray
theorem valsV_at {n k : Nat} (V : Nat → Value) (h : k < n) : (valsV n V)[k]? = some (V k) := by simp [valsV, h]
theorem valsV_set (n : Nat) (V : Nat → Value) (k : Nat) (v : Value) : (valsV n V).setIfInBounds k v = valsV n (fun j => if j = k then v else V j) := by
  apply Array.ext_getElem?
  intro i
  rw [Array.getElem?_setIfInBounds]
  by_cases e : k = i
  · subst e
    by_cases hi : k < n
    · simp [valsV, hi]
    · simp [valsV, hi]
  · rw [if_neg e]
    by_cases hi : i < n
    · rw [valsV_at _ hi, valsV_at _ hi, if_neg (fun h => e h.symm)]
    · simp [valsV, hi]
def ValsAt (w : World) (b : Nat) (t : TypeId) (n : Nat) (V : Nat → Value) : Prop := w.heap[b]? = some (.cells (valsV n V) t (0, 0))
theorem ValsAt.cell {w : World} {b n : Nat} {t : TypeId} {V : Nat → Value} (h : ValsAt w b t n V) {k : Nat} (hk : k < n) : w.cell? ⟨b, k, none⟩ = some (V k) := (cur_cell h k).trans (valsV_at V hk)
theorem ValsAt.set {w : World} {b n : Nat} {t : TypeId} {V : Nat → Value} (h : ValsAt w b t n V) (k : Nat) (v : Value) : ValsAt (w.setCell ⟨b, k, none⟩ v) b t n (fun j => if j = k then v else V j) := by
  unfold ValsAt; rw [cur_set h, valsV_set]
theorem ValsAt.ext {w : World} {b n : Nat} {t : TypeId} {V V' : Nat → Value} (h : ValsAt w b t n V) (e : ∀ k, k < n → V k = V' k) : ValsAt w b t n V' := by
  unfold ValsAt at *
  rw [h]
  congr 2
  unfold valsV
  congr 1
  exact List.map_congr_left fun k hk => e k (by simpa using hk)
/-- The book: each cell's bytes as a text. -/
def bookV (cells : List (List UInt8)) : Nat → Value := fun i => .string (strL (cells.getD i []))
theorem bookV_set (cells : List (List UInt8)) (k : Nat) (d : List UInt8) (hk : k < cells.length) : ∀ j, j < cells.length → (if j = k then Value.string (strL d) else bookV cells j) = bookV (cells.set k d) j := by
  intro j hj
  unfold bookV
  by_cases e : j = k
  · subst e; simp [List.getD, hj]
  · rw [if_neg e]; simp only [List.getD]; rw [List.getElem?_set_ne (fun h => e h.symm)]
theorem own_vals {w : World} {base n g : Nat} {e : TypeId} {v : Value} (h : w.ownsRow base e 1 (.slice (some ⟨g, 0, none⟩) n n) n (List.replicate n v)) : ValsAt w g e n (fun _ => v) := by
  rcases h.2 with ⟨hv, _⟩ | ⟨g', cap', cur, hv, hbg, hg, h1', h2, h3, h4⟩
  · simp at hv
  simp at hv
  obtain ⟨rfl, rfl⟩ := hv
  have hcur : cur.toList = List.replicate n v := by rw [← h4, List.take_of_length_le (by simp [h3])]
  unfold ValsAt
  rw [hg]
  congr 2
  apply Array.toList_inj.1
  rw [hcur]
  unfold valsV
  apply List.ext_getElem <;> simp
end Go.Proofs.YticfnhbjoaecjaaDoor
