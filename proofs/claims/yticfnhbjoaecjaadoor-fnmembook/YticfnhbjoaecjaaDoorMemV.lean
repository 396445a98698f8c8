/- Chapter 4: accesses, rows of accesses, cells, memories: what lies in the world; plain facts. -/
import Derived.Test.YticfnhbjoaecjaaDoorByteSU
import Derived.Test.YticfnhbjoaecjaaDoorAppK
import Derived.Test.YticfnhbjoaecjaaDoorInts
namespace Go.Proofs.YticfnhbjoaecjaaDoor
open Go.RowKit
set_option linter.unusedVariables false

structure TouchM where
  op : Int
  ad : Int
  len : Int
deriving DecidableEq, Inhabited
def tcells (t : TouchM) : List Value := [.int .i64 t.op, .int .i64 t.ad, .int .i64 t.len]
def flatT : List TouchM → List Value
  | [] => []
  | t :: l => .int .i64 t.op :: .int .i64 t.ad :: .int .i64 t.len :: flatT l
theorem flatT_len : ∀ l : List TouchM, (flatT l).length = l.length * 3
  | [] => rfl
  | t :: l => by simp [flatT, flatT_len l]; omega
theorem flatT_app : ∀ l m : List TouchM, flatT (l ++ m) = flatT l ++ flatT m
  | [], m => rfl
  | t :: l, m => by simp [flatT, flatT_app l m]
theorem flatT_at : ∀ (l : List TouchM) (k : Nat) (h : k < l.length), (flatT l)[k * 3]? = some (.int .i64 l[k].op) ∧ (flatT l)[k * 3 + 1]? = some (.int .i64 l[k].ad) ∧ (flatT l)[k * 3 + 2]? = some (.int .i64 l[k].len)
  | [], k, h => by simp at h
  | t :: l, 0, h => by simp [flatT]
  | t :: l, k + 1, h => by
    have := flatT_at l k (by simpa using h)
    have e : (k + 1) * 3 = k * 3 + 1 + 1 + 1 := by omega
    rw [e]
    simpa [flatT] using this
theorem flatT_one : ∀ (l : List TouchM), ∀ v ∈ flatT l, v.oneCell' = true
  | [], v, h => by simp [flatT] at h
  | t :: l, v, h => by
    simp [flatT] at h
    rcases h with rfl | rfl | rfl | h
    · rfl
    · rfl
    · rfl
    · exact flatT_one l v h
theorem flatT_set : ∀ (l : List TouchM) (k : Nat) (h : k < l.length) (t : TouchM), (((flatT l).set (k * 3) (.int .i64 t.op)).set (k * 3 + 1) (.int .i64 t.ad)).set (k * 3 + 2) (.int .i64 t.len) = flatT (l.set k t)
  | [], k, h, t => by simp at h
  | u :: l, 0, h, t => by simp [flatT]
  | u :: l, k + 1, h, t => by
    have := flatT_set l k (by simpa using h) t
    have e : (k + 1) * 3 = k * 3 + 1 + 1 + 1 := by omega
    rw [e]
    simp only [flatT, List.set_cons_succ, List.cons.injEq, true_and]
    exact this
theorem flatT_inj : ∀ (l m : List TouchM), flatT l = flatT m → l = m
  | [], [], _ => rfl
  | [], t :: m, h => by simp [flatT] at h
  | t :: l, [], h => by simp [flatT] at h
  | t :: l, u :: m, h => by
    simp [flatT] at h
    obtain ⟨h1, h2, h3, h4⟩ := h
    rw [flatT_inj l m h4]
    cases t; cases u
    simp_all

/-- The one cell holds a slice of accesses that reads as l. -/
def TouchSIn (cs : List Value) (l : List TouchM) (w : World) : Prop := ∃ a cap, cs = [.slice a l.length cap] ∧ l.length ≤ cap ∧ l.length ≤ maxLen ∧ Row w a (flatT l)
def TouchSOwn (lo hi : Nat) (cs : List Value) (l : List TouchM) (w : World) : Prop :=
  ∃ a cap, cs = [.slice a l.length cap] ∧ w.ownsRow lo 35 3 (.slice a l.length cap) l.length (flatT l) ∧ ∀ k, Value.ownBlock (.slice a l.length cap) = some k → k < hi
theorem own_max {s w lo e a n cap xs} (h : World.ownsRow w lo e s (.slice a n cap) n xs) : n ≤ maxLen := by
  rcases h.2 with ⟨hv, hn⟩ | ⟨g, cap', cur, hv, _, _, _, h2, _⟩
  · rw [hn]; unfold maxLen; omega
  · simp at hv; omega
theorem TouchSOwn.read {lo hi : Nat} {cs : List Value} {l : List TouchM} {w : World} (h : TouchSOwn lo hi cs l w) : TouchSIn cs l w := by
  obtain ⟨a, cap, rfl, ho, _⟩ := h
  exact ⟨a, cap, rfl, own_cap ho, own_max ho, Row.of_own ho⟩
theorem TouchSOwn.lies {lo hi : Nat} {cs : List Value} {l : List TouchM} {w : World} (h : TouchSOwn lo hi cs l w) (ht : hi ≤ w.heap.size) : Lies w lo hi (TouchSOwn lo hi cs l) := by
  refine ⟨h, ht, fun w2 e => ?_⟩
  obtain ⟨a, cap, rfl, ho, hh⟩ := h
  exact ⟨a, cap, rfl, own_sup ho hh e, hh⟩
theorem TouchSIn.lies {cs : List Value} {l : List TouchM} {w : World} (h : TouchSIn cs l w) : Lies w 0 w.heap.size (TouchSIn cs l) := by
  obtain ⟨a, cap, rfl, h1, h2, hr⟩ := h
  exact ⟨⟨a, cap, rfl, h1, h2, hr⟩, Nat.le_refl _, fun w2 e => ⟨a, cap, rfl, h1, h2, (lies_row hr).sup w2 e⟩⟩
theorem TouchSOwn.wide {lo hi lo' hi' : Nat} {cs : List Value} {l : List TouchM} {w : World} (h : TouchSOwn lo hi cs l w) (h1 : lo' ≤ lo) (h2 : hi ≤ hi') : TouchSOwn lo' hi' cs l w := by
  obtain ⟨a, cap, rfl, ho, hh⟩ := h
  exact ⟨a, cap, rfl, own_base ho h1, fun k hk => Nat.lt_of_lt_of_le (hh k hk) h2⟩
theorem TouchSOwn.mk {lo n cap : Nat} {a : Option Addr} {l : List TouchM} {w : World} (h : w.ownsRow lo 35 3 (.slice a n cap) n (flatT l)) : TouchSOwn lo w.heap.size [.slice a n cap] l w := by
  have hn : l.length = n := by have := h.1; rw [flatT_len] at this; omega
  subst hn
  exact ⟨a, cap, rfl, h, own_top h⟩
theorem TouchSOwn.shape {lo hi : Nat} {c : Value} {l : List TouchM} {w : World} (h : TouchSOwn lo hi [c] l w) : ∃ a n cap, c = .slice a n cap := by
  obtain ⟨a, cap, hc, _⟩ := h
  simp at hc
  exact ⟨a, _, cap, hc⟩
theorem touchSIn_shape {c : Value} {l : List TouchM} {w : World} (h : TouchSIn [c] l w) : ∃ a cap, c = .slice a l.length cap ∧ l.length ≤ cap ∧ l.length ≤ maxLen ∧ Row w a (flatT l) := by
  obtain ⟨a, cap, hc, h1, h2, h3⟩ := h
  simp at hc
  exact ⟨a, cap, hc, h1, h2, h3⟩
theorem TouchSOwn.turned {T : TypeId} {lo hi : Nat} {cs : List Value} {l : List TouchM} {w w' : World} (h : TouchSOwn lo hi cs l w) (ht : Turned T w w') (hT : 35 ≠ T) : TouchSOwn lo hi cs l w' := by
  obtain ⟨a, cap, rfl, ho, hh⟩ := h
  exact ⟨a, cap, rfl, own_turned ho ht hT, hh⟩
def szTouchS (l : List TouchM) : Nat := l.length
/-- The marks k, k+1, .. of n accesses. -/
def marksT : Nat → Nat → List TouchM
  | _, 0 => []
  | k, n + 1 => ⟨(k : Int), ((k + 1 : Nat) : Int), ((k + 2 : Nat) : Int)⟩ :: marksT (k + 3) n
theorem marksT_length : ∀ k n, (marksT k n).length = n
  | _, 0 => rfl
  | k, n + 1 => by simp [marksT, marksT_length]
theorem marksT_at : ∀ (k n j : Nat) (h : j < (marksT k n).length), (marksT k n)[j] = ⟨((k + j * 3 : Nat) : Int), ((k + j * 3 + 1 : Nat) : Int), ((k + j * 3 + 2 : Nat) : Int)⟩
  | k, 0, j, h => by simp [marksT] at h
  | k, n + 1, 0, h => by simp [marksT]
  | k, n + 1, j + 1, h => by
    simp only [marksT, List.getElem_cons_succ]
    rw [marksT_at (k + 3) n j]
    congr 2 <;> omega

/-- The rows of bytes of a row of cells, each in memory of its own. -/
structure Datas (lo hi : Nat) (vs : List Value) (ls : List (List UInt8)) (w : World) : Prop where
  len : vs.length = ls.length
  row : ∀ (i : Nat) v l, vs[i]? = some v → ls[i]? = some l → ByteSOwn lo hi [v] l w
  apart : ∀ (i j : Nat) u v k, i ≠ j → vs[i]? = some u → vs[j]? = some v → u.ownBlock = some k → v.ownBlock ≠ some k
def CellSIn (cs : List Value) (ls : List (List UInt8)) (w : World) : Prop :=
  ∃ a cap vs, cs = [.slice a ls.length cap] ∧ ls.length ≤ cap ∧ ls.length ≤ maxLen ∧ Row w a vs ∧ vs.length = ls.length ∧ ∀ (i : Nat) v l, vs[i]? = some v → ls[i]? = some l → ByteSIn [v] l w
def CellSOwn (lo hi : Nat) (cs : List Value) (ls : List (List UInt8)) (w : World) : Prop :=
  ∃ a cap vs, cs = [.slice a ls.length cap] ∧ w.ownsRow lo 43 1 (.slice a ls.length cap) ls.length vs ∧ (∀ k, Value.ownBlock (.slice a ls.length cap) = some k → k < hi) ∧ Datas lo hi vs ls w
theorem CellSOwn.read {lo hi : Nat} {cs : List Value} {ls : List (List UInt8)} {w : World} (h : CellSOwn lo hi cs ls w) : CellSIn cs ls w := by
  obtain ⟨a, cap, vs, rfl, ho, _, hd⟩ := h
  exact ⟨a, cap, vs, rfl, own_cap ho, own_max ho, Row.of_own ho, hd.len, fun i v l h1 h2 => (hd.row i v l h1 h2).read⟩
theorem ByteSOwn.sup {lo hi : Nat} {cs : List Value} {l : List UInt8} {w w' : World} (h : ByteSOwn lo hi cs l w) (k : ∀ k, lo ≤ k → k < hi → w'.heap[k]? = w.heap[k]?) : ByteSOwn lo hi cs l w' := by
  obtain ⟨a, cap, rfl, ho, hh⟩ := h
  exact ⟨a, cap, rfl, own_sup ho hh k, hh⟩
theorem ByteSOwn.turned {T : TypeId} {lo hi : Nat} {cs : List Value} {l : List UInt8} {w w' : World} (h : ByteSOwn lo hi cs l w) (ht : Turned T w w') (hT : 5 ≠ T) : ByteSOwn lo hi cs l w' := by
  obtain ⟨a, cap, rfl, ho, hh⟩ := h
  exact ⟨a, cap, rfl, own_turned ho ht hT, hh⟩
theorem Datas.sup {lo hi : Nat} {vs : List Value} {ls : List (List UInt8)} {w w' : World} (h : Datas lo hi vs ls w) (k : ∀ k, lo ≤ k → k < hi → w'.heap[k]? = w.heap[k]?) : Datas lo hi vs ls w' :=
  ⟨h.len, fun i v l h1 h2 => (h.row i v l h1 h2).sup k, h.apart⟩
theorem Datas.turned {T : TypeId} {lo hi : Nat} {vs : List Value} {ls : List (List UInt8)} {w w' : World} (h : Datas lo hi vs ls w) (ht : Turned T w w') (hT : 5 ≠ T) : Datas lo hi vs ls w' :=
  ⟨h.len, fun i v l h1 h2 => (h.row i v l h1 h2).turned ht hT, h.apart⟩
theorem Datas.wide {lo hi lo' hi' : Nat} {vs : List Value} {ls : List (List UInt8)} {w : World} (h : Datas lo hi vs ls w) (h1 : lo' ≤ lo) (h2 : hi ≤ hi') : Datas lo' hi' vs ls w :=
  ⟨h.len, fun i v l a b => (h.row i v l a b).wide h1 h2, h.apart⟩
theorem Datas.below {lo hi : Nat} {vs : List Value} {ls : List (List UInt8)} {w w' : World} (h : Datas lo hi vs ls w) (ht : hi ≤ w.heap.size) (hb : Below w.heap.size w w') : Datas lo hi vs ls w' :=
  h.sup (fun k _ h2 => hb.block k (Nat.lt_of_lt_of_le h2 ht))
theorem Datas.nil (lo hi : Nat) (w : World) : Datas lo hi [] [] w := ⟨rfl, fun i v l h _ => by simp at h, fun i j u v k _ h _ _ => by simp at h⟩
/-- One row more, made just now. -/
theorem Datas.snoc {lo hi hi' : Nat} {vs : List Value} {ls : List (List UInt8)} {w w' : World} {v : Value} {l : List UInt8} (h : Datas lo hi vs ls w) (ht : hi ≤ w.heap.size) (hb : Below w.heap.size w w') (ho : ByteSOwn w.heap.size hi' [v] l w') (hl : lo ≤ w.heap.size) (hh : hi ≤ hi') :
    Datas lo hi' (vs ++ [v]) (ls ++ [l]) w' := by
  have h0 := (h.below ht hb).wide (Nat.le_refl lo) hh
  have hlen := h.len
  have key : ∀ k, v.ownBlock = some k → w.heap.size ≤ k := by
    obtain ⟨a, cap, hc, ho, _⟩ := ho
    simp at hc
    subst hc
    exact fun k hk => (ho.lt k hk).1
  have lts : ∀ (i : Nat) u k, vs[i]? = some u → u.ownBlock = some k → k < w.heap.size := by
    intro i u k hi hk
    have hil : i < vs.length := by
      rcases Nat.lt_or_ge i vs.length with h | h
      · exact h
      · rw [List.getElem?_eq_none h] at hi; cases hi
    obtain ⟨a, cap, hc, _, hx⟩ := h.row i u (ls[i]'(by omega)) hi (List.getElem?_eq_getElem _)
    simp at hc
    subst hc
    exact Nat.lt_of_lt_of_le (hx k hk) ht
  refine ⟨by simp [hlen], fun i u m h1 h2 => ?_, fun i j u x k hij h1 h2 hk => ?_⟩
  · rcases Nat.lt_trichotomy i vs.length with hi | hi | hi
    · rw [List.getElem?_append_left hi] at h1
      rw [List.getElem?_append_left (by omega)] at h2
      exact h0.row i u m h1 h2
    · rw [List.getElem?_append_right (by omega)] at h1 h2
      rw [hi] at h1 h2
      simp [hlen] at h1 h2
      subst h1 h2
      exact ho.wide hl (Nat.le_refl _)
    · rw [List.getElem?_eq_none (by simp; omega)] at h1; cases h1
  · intro hx
    rcases Nat.lt_trichotomy i vs.length with hi | hi | hi
    · rw [List.getElem?_append_left hi] at h1
      rcases Nat.lt_trichotomy j vs.length with hj | hj | hj
      · rw [List.getElem?_append_left hj] at h2
        exact h.apart i j u x k hij h1 h2 hk hx
      · rw [List.getElem?_append_right (by omega), hj] at h2
        simp at h2
        subst h2
        have a1 := key k hx
        have a2 := lts i u k h1 hk
        omega
      · rw [List.getElem?_eq_none (by simp; omega)] at h2; cases h2
    · rw [List.getElem?_append_right (by omega), hi] at h1
      simp at h1
      subst h1
      rcases Nat.lt_trichotomy j vs.length with hj | hj | hj
      · rw [List.getElem?_append_left hj] at h2
        have a1 := key k hk
        have a2 := lts j x k h2 hx
        omega
      · omega
      · rw [List.getElem?_eq_none (by simp; omega)] at h2; cases h2
    · rw [List.getElem?_eq_none (by simp; omega)] at h1; cases h1
/-- One row turned: the others lie in other blocks. -/
theorem Datas.set {lo hi i : Nat} {vs : List Value} {ls : List (List UInt8)} {w w' : World} {v : Value} {l : List UInt8} (h : Datas lo hi vs ls w) (hv : vs[i]? = some v) (hg : w.grownBy w' v.ownBlock) (ho : ByteSOwn lo hi [v] l w') : Datas lo hi vs (ls.set i l) w' := by
  have hil : i < vs.length := by
    rcases Nat.lt_or_ge i vs.length with h | h
    · exact h
    · rw [List.getElem?_eq_none h] at hv; cases hv
  have hlen := h.len
  refine ⟨by simp [hlen], fun j u m h1 h2 => ?_, h.apart⟩
  by_cases hij : i = j
  · subst hij
    rw [hv] at h1
    rw [List.getElem?_set_self (by omega)] at h2
    simp at h1 h2
    subst h1 h2
    exact ho
  · rw [List.getElem?_set_ne hij] at h2
    obtain ⟨a, cap, hc, hr, hh⟩ := h.row j u m h1 h2
    refine ⟨a, cap, hc, hr.kept hg ?_, hh⟩
    simp at hc
    cases hb : Value.ownBlock (.slice a m.length cap) with
    | none => exact .inl rfl
    | some k =>
      refine .inr fun e => ?_
      exact h.apart j i u v k (fun e => hij e.symm) h1 hv (by rw [hc, hb]) e.symm
theorem CellSOwn.sup {lo hi : Nat} {cs : List Value} {ls : List (List UInt8)} {w w' : World} (h : CellSOwn lo hi cs ls w) (k : ∀ k, lo ≤ k → k < hi → w'.heap[k]? = w.heap[k]?) : CellSOwn lo hi cs ls w' := by
  obtain ⟨a, cap, vs, rfl, ho, hh, hd⟩ := h
  exact ⟨a, cap, vs, rfl, own_sup ho hh k, hh, hd.sup k⟩
theorem CellSOwn.lies {lo hi : Nat} {cs : List Value} {ls : List (List UInt8)} {w : World} (h : CellSOwn lo hi cs ls w) (ht : hi ≤ w.heap.size) : Lies w lo hi (CellSOwn lo hi cs ls) :=
  ⟨h, ht, fun w2 e => h.sup e⟩
theorem CellSOwn.wide {lo hi lo' hi' : Nat} {cs : List Value} {ls : List (List UInt8)} {w : World} (h : CellSOwn lo hi cs ls w) (h1 : lo' ≤ lo) (h2 : hi ≤ hi') : CellSOwn lo' hi' cs ls w := by
  obtain ⟨a, cap, vs, rfl, ho, hh, hd⟩ := h
  exact ⟨a, cap, vs, rfl, own_base ho h1, fun k hk => Nat.lt_of_lt_of_le (hh k hk) h2, hd.wide h1 h2⟩
theorem CellSOwn.shape {lo hi : Nat} {c : Value} {ls : List (List UInt8)} {w : World} (h : CellSOwn lo hi [c] ls w) : ∃ a n cap, c = .slice a n cap := by
  obtain ⟨a, cap, vs, hc, _⟩ := h
  simp at hc
  exact ⟨a, _, cap, hc⟩
theorem CellSOwn.turned {T : TypeId} {lo hi : Nat} {cs : List Value} {ls : List (List UInt8)} {w w' : World} (h : CellSOwn lo hi cs ls w) (ht : Turned T w w') (hT : 43 ≠ T) (hU : 5 ≠ T) : CellSOwn lo hi cs ls w' := by
  obtain ⟨a, cap, vs, rfl, ho, hh, hd⟩ := h
  exact ⟨a, cap, vs, rfl, own_turned ho ht hT, hh, hd.turned ht hU⟩
theorem cellSIn_shape {c : Value} {ls : List (List UInt8)} {w : World} (h : CellSIn [c] ls w) : ∃ a cap vs, c = .slice a ls.length cap ∧ ls.length ≤ cap ∧ ls.length ≤ maxLen ∧ Row w a vs ∧ vs.length = ls.length ∧ ∀ (i : Nat) v l, vs[i]? = some v → ls[i]? = some l → ByteSIn [v] l w := by
  obtain ⟨a, cap, vs, hc, h1, h2, h3, h4, h5⟩ := h
  simp at hc
  exact ⟨a, cap, vs, hc, h1, h2, h3, h4, h5⟩
theorem CellSIn.lies {cs : List Value} {ls : List (List UInt8)} {w : World} (h : CellSIn cs ls w) : Lies w 0 w.heap.size (CellSIn cs ls) := by
  obtain ⟨a, cap, vs, rfl, h1, h2, h3, h4, h5⟩ := h
  exact ⟨⟨a, cap, vs, rfl, h1, h2, h3, h4, h5⟩, Nat.le_refl _, fun w2 e => ⟨a, cap, vs, rfl, h1, h2, (lies_row h3).sup w2 e, h4, fun i v l hv hl => (h5 i v l hv hl).lies.sup w2 e⟩⟩

structure MemM where
  z : Int
  cells : List (List UInt8)
  log : List TouchM
def MemIn (cs : List Value) (m : MemM) (w : World) : Prop := ∃ c1 c2, cs = [.int .i64 m.z, c1, c2] ∧ CellSIn [c1] m.cells w ∧ TouchSIn [c2] m.log w
def MemOwn (lo hi : Nat) (cs : List Value) (m : MemM) (w : World) : Prop := ∃ c1 c2, cs = [.int .i64 m.z, c1, c2] ∧ CellSOwn lo hi [c1] m.cells w ∧ TouchSOwn lo hi [c2] m.log w
theorem MemOwn.read {lo hi : Nat} {cs : List Value} {m : MemM} {w : World} (h : MemOwn lo hi cs m w) : MemIn cs m w := by
  obtain ⟨c1, c2, rfl, h1, h2⟩ := h
  exact ⟨c1, c2, rfl, h1.read, h2.read⟩
theorem MemOwn.lies {lo hi : Nat} {cs : List Value} {m : MemM} {w : World} (h : MemOwn lo hi cs m w) (ht : hi ≤ w.heap.size) : Lies w lo hi (MemOwn lo hi cs m) := by
  obtain ⟨c1, c2, rfl, h1, h2⟩ := h
  exact ⟨⟨c1, c2, rfl, h1, h2⟩, ht, fun w2 e => ⟨c1, c2, rfl, (h1.lies ht).sup w2 e, (h2.lies ht).sup w2 e⟩⟩
theorem MemIn.lies {cs : List Value} {m : MemM} {w : World} (h : MemIn cs m w) : Lies w 0 w.heap.size (MemIn cs m) := by
  obtain ⟨c1, c2, rfl, h1, h2⟩ := h
  exact ⟨⟨c1, c2, rfl, h1, h2⟩, Nat.le_refl _, fun w2 e => ⟨c1, c2, rfl, h1.lies.sup w2 e, h2.lies.sup w2 e⟩⟩
theorem MemOwn.wide {lo hi lo' hi' : Nat} {cs : List Value} {m : MemM} {w : World} (h : MemOwn lo hi cs m w) (h1 : lo' ≤ lo) (h2 : hi ≤ hi') : MemOwn lo' hi' cs m w := by
  obtain ⟨c1, c2, rfl, a, b⟩ := h
  exact ⟨c1, c2, rfl, a.wide h1 h2, b.wide h1 h2⟩
theorem MemOwn.shape {lo hi : Nat} {c0 c1 c2 : Value} {m : MemM} {w : World} (h : MemOwn lo hi [c0, c1, c2] m w) : ∃ z a n cap a' n' cap', c0 = .int .i64 z ∧ c1 = .slice a n cap ∧ c2 = .slice a' n' cap' := by
  obtain ⟨d1, d2, hc, h1, h2⟩ := h
  simp at hc
  obtain ⟨rfl, rfl, rfl⟩ := hc
  obtain ⟨a, n, cap, rfl⟩ := h1.shape
  obtain ⟨a', n', cap', rfl⟩ := h2.shape
  exact ⟨_, _, _, _, _, _, _, rfl, rfl, rfl⟩
theorem memIn_shape {c0 c1 c2 : Value} {m : MemM} {w : World} (h : MemIn [c0, c1, c2] m w) : c0 = .int .i64 m.z ∧ CellSIn [c1] m.cells w ∧ TouchSIn [c2] m.log w := by
  obtain ⟨d1, d2, hc, h1, h2⟩ := h
  simp at hc
  obtain ⟨rfl, rfl, rfl⟩ := hc
  exact ⟨rfl, h1, h2⟩
end Go.Proofs.YticfnhbjoaecjaaDoor
