/- RecU, Strs, RecMk, LwR in one. Written by tools/join.py. -/
import Derived.Test.YtaedamnhobcdlaaJRecP
import Derived.Test.YtaedamnhobcdlaaJInts
import Derived.Test.YtaedamnhobcdlaaJSeg
import Derived.Test.YtaedamnhobcdlaaJBase
import Derived.Deep.RegionHeld3
import Derived.Deep.QuietTactic
import Derived.BigQuiet
import Derived.Deep.RegionWith
import Derived.Deep.LoopGhost
section
namespace Go.Proofs.Ytaedamnhobcdlaa
open Go.RowKit Go.ChangeShapes Go.WideShapes Go.Deep
set_option linter.unusedVariables false
set_option linter.unusedSimpArgs false
set_option maxRecDepth 100000

def recL (r : RecM) : List Value := [.bool r.live, .int .i64 r.dist, .int .i64 r.weight, .string r.word]
theorem recL_len (r : RecM) : (recL r).length = 4 := rfl
theorem recL_one (r : RecM) : ∀ v ∈ recL r, v.oneCell' = true := by
  intro v hv
  simp only [recL, List.mem_cons, List.not_mem_nil, or_false] at hv
  rcases hv with rfl | rfl | rfl | rfl <;> rfl
theorem RecM.cells_list (r : RecM) : r.cells = ⟨recL r⟩ := rfl
def RecIn (cs : List Value) (m : RecM) (w : World) : Prop := cs = recL m
def RecOwn (lo hi : Nat) (cs : List Value) (m : RecM) (w : World) : Prop := cs = recL m
theorem RecOwn.read {lo hi : Nat} {cs : List Value} {m : RecM} {w : World} (h : RecOwn lo hi cs m w) : RecIn cs m w := h
theorem RecOwn.lies {lo hi : Nat} {cs : List Value} {m : RecM} {w : World} (h : RecOwn lo hi cs m w) (ht : hi ≤ w.heap.size) : Lies w lo hi (RecOwn lo hi cs m) := ⟨h, ht, fun _ _ => h⟩
theorem RecIn.lies {cs : List Value} {m : RecM} {w : World} (h : RecIn cs m w) : Lies w 0 w.heap.size (RecIn cs m) := ⟨h, Nat.le_refl _, fun _ _ => h⟩
theorem recIn_cells {c0 c1 c2 c3 : Value} {m : RecM} {w : World} (h : RecIn [c0, c1, c2, c3] m w) : c0 = .bool m.live ∧ c1 = .int .i64 m.dist ∧ c2 = .int .i64 m.weight ∧ c3 = .string m.word := by
  simpa [RecIn, recL] using h
theorem RecOwn.shape {lo hi : Nat} {c0 c1 c2 c3 : Value} {m : RecM} {w : World} (h : RecOwn lo hi [c0, c1, c2, c3] m w) : ∃ (x0 : Bool) (x1 : Int) (x2 : Int) (x3 : ByteArray), c0 = .bool x0 ∧ c1 = .int .i64 x1 ∧ c2 = .int .i64 x2 ∧ c3 = .string x3 := by
  obtain ⟨h0, h1, h2, h3⟩ := recIn_cells h.read
  exact ⟨_, _, _, _, h0, h1, h2, h3⟩
def recBd (m : RecM) : Prop := (-9223372036854775808 ≤ m.dist ∧ m.dist ≤ 9223372036854775807) ∧ (-9223372036854775808 ≤ m.weight ∧ m.weight ≤ 9223372036854775807) ∧ m.word.size ≤ maxLen
def szRec (m : RecM) : Nat := m.word.size
def RecRet (m : RecM) (w : World) (e : Ending) (w' : World) : Prop := ∃ c0 c1 c2 c3, e = .returned (.agg #[c0, c1, c2, c3]) ∧ RecOwn w.heap.size w'.heap.size [c0, c1, c2, c3] m w' ∧ Below w.heap.size w w'
def zeroRec : RecM := ⟨false, 0, 0, ⟨#[]⟩⟩
instance : Inhabited RecM := ⟨zeroRec⟩
theorem argRec {w : World} {v : Value} (h : Arg w 81 v) : ∃ (c0 c1 c2 c3 : Value) (m : RecM), v = .agg #[c0, c1, c2, c3] ∧ RecIn [c0, c1, c2, c3] m w ∧ recBd m := by
  obtain ⟨cs, rfl, hl, hr⟩ := h.agg Try.underlying81
  have hC : Try.prog.cellsOf 81 = 4 := by kernel_rfl
  have hC_bool : Try.prog.cellsOf 4 = 1 := by kernel_rfl
  have hC_int : Try.prog.cellsOf 3 = 1 := by kernel_rfl
  have hC_string : Try.prog.cellsOf 9 = 1 := by kernel_rfl
  rw [hC] at hl
  match cs, hl with
  | [c0, c1, c2, c3], _ =>
    have f0 := hr.field Try.underlying81 0 _ 4 1 [c0] rfl rfl hC_bool rfl
    have f1 := hr.field Try.underlying81 1 _ 3 1 [c1] rfl rfl hC_int rfl
    have f2 := hr.field Try.underlying81 2 _ 3 1 [c2] rfl rfl hC_int rfl
    have f3 := hr.field Try.underlying81 3 _ 9 1 [c3] rfl rfl hC_string rfl
    obtain ⟨z0, e0⟩ := f0.bool Try.underlying4
    obtain ⟨z1, e1, y1⟩ := f1.int Try.underlying3
    obtain ⟨z2, e2, y2⟩ := f2.int Try.underlying3
    obtain ⟨z3, e3, y3⟩ := f3.str Try.underlying9
    simp at e0 e1 e2 e3
    subst e0 e1 e2 e3
    exact ⟨_, _, _, _, ⟨z0, z1, z2, z3⟩, rfl, rfl, wf_i64 y1, wf_i64 y2, y3⟩
set_option maxHeartbeats 1000000 in
theorem lawsToRec (m : RecM) (w : World) : Calls Try.prog 61 #[.agg #[.bool m.live, .int .i64 m.dist, .int .i64 m.weight, .string m.word]] w fun e w' => e = .returned (.agg #[.bool m.live, .int .i64 m.dist, .int .i64 m.weight, .string m.word]) ∧ Below w.heap.size w w' := by
  obtain ⟨x0, x1, x2, x3⟩ := m
  go_enter Try.func61, Try.ntmps61
  go_wp2
  exact bodyPost_ret (v := .agg #[.bool x0, .int .i64 x1, .int .i64 x2, .string x3]) (by simp [results, Try.results61, go_sem]) rfl ⟨rfl, below_box (below_box (below_box (Below.refl _ _) _) _) _⟩
theorem uToRec (c0 c1 c2 c3 : Value) (m : RecM) (w : World) (hl : szRec m ≤ 1048576) (h : RecIn [c0, c1, c2, c3] m w) : Calls Try.prog 61 #[.agg #[c0, c1, c2, c3]] w (RecRet m w) := by
  obtain ⟨rfl, rfl, rfl, rfl⟩ := recIn_cells h
  refine (lawsToRec m w).mono ?_
  rintro e w' ⟨rfl, hb⟩
  exact ⟨_, _, _, _, rfl, rfl, hb⟩
set_option maxHeartbeats 1000000 in
theorem lawsEqRec (m : RecM) (w : World) : Calls Try.prog 62 #[.agg #[.bool m.live, .int .i64 m.dist, .int .i64 m.weight, .string m.word], .agg #[.bool m.live, .int .i64 m.dist, .int .i64 m.weight, .string m.word]] w (TruePost w) := by
  obtain ⟨x0, x1, x2, x3⟩ := m
  have hx0 : (x0 != x0) = false := by simp
  go_enter Try.func62, Try.ntmps62
  go_wp2
  go_ret
  exact ⟨rfl, below_box (below_box (Below.refl _ _) _) _⟩
theorem uEqRec (c0 c1 c2 c3 d0 d1 d2 d3 : Value) (m : RecM) (w : World) (h : RecIn [c0, c1, c2, c3] m w) (k : RecIn [d0, d1, d2, d3] m w) : Calls Try.prog 62 #[.agg #[c0, c1, c2, c3], .agg #[d0, d1, d2, d3]] w (TruePost w) := by
  obtain ⟨rfl, rfl, rfl, rfl⟩ := recIn_cells h
  obtain ⟨rfl, rfl, rfl, rfl⟩ := recIn_cells k
  exact lawsEqRec m w
set_option maxHeartbeats 1000000 in
theorem lawsSzRec (m : RecM) (left : Int) (w : World) (h0 : 0 ≤ left) (h1 : left ≤ 1048576) (hb : recBd m) : Calls Try.prog 60 #[.agg #[.bool m.live, .int .i64 m.dist, .int .i64 m.weight, .string m.word], .int .i64 left] w fun e w' => e = .returned (.int .i64 (szI left (szRec m))) ∧ Below w.heap.size w w' := by
  obtain ⟨x0, x1, x2, x3⟩ := m
  unfold recBd maxLen at hb
  unfold szRec
  simp only at hb ⊢
  by_cases g3 : left - (x3.size : Int) < 0
  · have H := Lib.hid (szI_no (left := left) (n := x3.size) (by omega))
    go_enter Try.func60, Try.ntmps60
    go_wp2
    go_ret
    exact ⟨ret_int H.out.symm, below_box (Below.refl _ _) _⟩
  have H : Hid (szI left (x3.size) = left - (x3.size : Int)) := Lib.hid (by rw [szI_yes (by omega)] <;> omega)
  go_enter Try.func60, Try.ntmps60
  go_wp2
  go_ret
  exact ⟨ret_int H.out.symm, below_box (Below.refl _ _) _⟩
theorem uSzRec (c0 c1 c2 c3 : Value) (m : RecM) (left : Int) (w : World) (h0 : 0 ≤ left) (h1 : left ≤ 1048576) (h : RecIn [c0, c1, c2, c3] m w) (hb : recBd m) : Calls Try.prog 60 #[.agg #[c0, c1, c2, c3], .int .i64 left] w fun e w' => e = .returned (.int .i64 (szI left (szRec m))) ∧ Below w.heap.size w w' := by
  obtain ⟨rfl, rfl, rfl, rfl⟩ := recIn_cells h
  exact lawsSzRec m left w h0 h1 hb
/-- The one cell holds a slice that reads as l. -/
def RecSIn (cs : List Value) (l : List RecM) (w : World) : Prop := ∃ a cap, cs = [.slice a l.length cap] ∧ l.length ≤ cap ∧ l.length ≤ maxLen ∧ Row w a (flatG recL l)
def RecSOwn (lo hi : Nat) (cs : List Value) (l : List RecM) (w : World) : Prop :=
  ∃ a cap, cs = [.slice a l.length cap] ∧ w.ownsRow lo 30 4 (.slice a l.length cap) l.length (flatG recL l) ∧ ∀ k, Value.ownBlock (.slice a l.length cap) = some k → k < hi
theorem own_maxRecS {s w lo e a n cap xs} (h : World.ownsRow w lo e s (.slice a n cap) n xs) : n ≤ maxLen := by
  rcases h.2 with ⟨hv, hn⟩ | ⟨g, cap', cur, hv, _, _, _, h2, _⟩
  · rw [hn]; unfold maxLen; omega
  · simp at hv; omega
theorem RecSOwn.read {lo hi : Nat} {cs : List Value} {l : List RecM} {w : World} (h : RecSOwn lo hi cs l w) : RecSIn cs l w := by
  obtain ⟨a, cap, rfl, ho, _⟩ := h
  exact ⟨a, cap, rfl, own_cap ho, own_maxRecS ho, Row.of_own ho⟩
theorem RecSOwn.lies {lo hi : Nat} {cs : List Value} {l : List RecM} {w : World} (h : RecSOwn lo hi cs l w) (ht : hi ≤ w.heap.size) : Lies w lo hi (RecSOwn lo hi cs l) := by
  refine ⟨h, ht, fun w2 e => ?_⟩
  obtain ⟨a, cap, rfl, ho, hh⟩ := h
  exact ⟨a, cap, rfl, own_sup ho hh e, hh⟩
theorem RecSIn.lies {cs : List Value} {l : List RecM} {w : World} (h : RecSIn cs l w) : Lies w 0 w.heap.size (RecSIn cs l) := by
  obtain ⟨a, cap, rfl, h1, h2, hr⟩ := h
  exact ⟨⟨a, cap, rfl, h1, h2, hr⟩, Nat.le_refl _, fun w2 e => ⟨a, cap, rfl, h1, h2, (lies_row hr).sup w2 e⟩⟩
theorem RecSIn.below {cs : List Value} {l : List RecM} {w w' : World} (h : RecSIn cs l w) (hb : Below w.heap.size w w') : RecSIn cs l w' := (h.lies.below hb).now
theorem RecSOwn.wide {lo hi lo' hi' : Nat} {cs : List Value} {l : List RecM} {w : World} (h : RecSOwn lo hi cs l w) (h1 : lo' ≤ lo) (h2 : hi ≤ hi') : RecSOwn lo' hi' cs l w := by
  obtain ⟨a, cap, rfl, ho, hh⟩ := h
  exact ⟨a, cap, rfl, own_base ho h1, fun k hk => Nat.lt_of_lt_of_le (hh k hk) h2⟩
theorem RecSOwn.mk {lo n cap : Nat} {a : Option Addr} {l : List RecM} {w : World} (h : w.ownsRow lo 30 4 (.slice a n cap) n (flatG recL l)) : RecSOwn lo w.heap.size [.slice a n cap] l w := by
  have hn : l.length = n := by have := h.1; rw [flatG_len recL_len] at this; omega
  subst hn
  exact ⟨a, cap, rfl, h, own_top h⟩
theorem RecSOwn.shape {lo hi : Nat} {c : Value} {l : List RecM} {w : World} (h : RecSOwn lo hi [c] l w) : ∃ a n cap, c = .slice a n cap := by
  obtain ⟨a, cap, hc, _⟩ := h
  simp at hc
  exact ⟨a, _, cap, hc⟩
theorem recSIn_shape {c : Value} {l : List RecM} {w : World} (h : RecSIn [c] l w) : ∃ a cap, c = .slice a l.length cap ∧ l.length ≤ cap ∧ l.length ≤ maxLen ∧ Row w a (flatG recL l) := by
  obtain ⟨a, cap, hc, h1, h2, h3⟩ := h
  simp at hc
  exact ⟨a, cap, hc, h1, h2, h3⟩
theorem RecSOwn.nil (lo hi : Nat) (w : World) : RecSOwn lo hi [.slice none 0 0] [] w := ⟨none, 0, rfl, ⟨rfl, .inl ⟨rfl, rfl⟩⟩, fun k hk => by simp [Value.ownBlock] at hk⟩
def RecSRet (l : List RecM) (w : World) (e : Ending) (w' : World) : Prop := ∃ c, e = .returned c ∧ RecSOwn w.heap.size w'.heap.size [c] l w' ∧ Below w.heap.size w w'
theorem Try.infoRec : (Try.prog.info? 30).map (fun i => (i.zero, i.size, i.bytes)) = some (some (.agg #[.bool false, .int .i64 0, .int .i64 0, .string ⟨#[]⟩]), 4, 40) := by kernel_rfl
/-- The cells of an element of a row. -/
theorem Row.rec {w : World} {a : Option Addr} {l : List RecM} (h : Row w a (flatG recL l)) {k : Nat} (hk : k < l.length) : ∃ b off, a = some ⟨b, off, none⟩ ∧ w.cell? ⟨b, off + k * 4, none⟩ = some (.bool l[k].live) ∧ w.cell? ⟨b, off + k * 4 + 1, none⟩ = some (.int .i64 l[k].dist) ∧ w.cell? ⟨b, off + k * 4 + 2, none⟩ = some (.int .i64 l[k].weight) ∧ w.cell? ⟨b, off + k * 4 + 3, none⟩ = some (.string l[k].word) := by
  obtain ⟨b, off, rfl, hc⟩ := h.elem recL_len (by decide) hk
  exact ⟨b, off, rfl, hc 0 (by decide), hc 1 (by decide), hc 2 (by decide), hc 3 (by decide)⟩
def sumRecS : List RecM → Nat
  | [] => 0
  | r :: l => szRec r + sumRecS l
theorem sumRecS_snoc : ∀ (l : List RecM) (r : RecM), sumRecS (l ++ [r]) = sumRecS l + szRec r
  | [], r => by simp [sumRecS]
  | t :: l, r => by simp only [List.cons_append, sumRecS, sumRecS_snoc l r]; omega
theorem sumRecS_take (l : List RecM) (k : Nat) : sumRecS (l.take k) ≤ sumRecS l := by
  induction l generalizing k with
  | nil => simp
  | cons t l ih =>
    cases k with
    | zero => simp [sumRecS]
    | succ k => simp only [List.take_succ_cons, sumRecS]; have := ih k; omega
def szRecS (l : List RecM) : Nat := l.length + sumRecS l
theorem Rd.recS {w : World} {c : Value} (h : Rd w 43 [c]) : ∃ l, RecSIn [c] l w ∧ ∀ t ∈ l, recBd t := by
  have hC : Try.prog.cellsOf 81 = 4 := by kernel_rfl
  have hC_bool : Try.prog.cellsOf 4 = 1 := by kernel_rfl
  have hC_int : Try.prog.cellsOf 3 = 1 := by kernel_rfl
  have hC_string : Try.prog.cellsOf 9 = 1 := by kernel_rfl
  rcases h.slice Try.underlying43 with h | ⟨a, len, cap, h, hl, hm, hi⟩
  · simp at h
    subst h
    exact ⟨[], ⟨none, 0, rfl, Nat.le_refl _, by unfold maxLen; simp, .inl rfl⟩, fun t h => by simp at h⟩
  · simp at h
    subst h
    have key : ∀ i, i < len → ∃ t : RecM, (∀ j, j < 4 → w.cell? ((a.add (i * 4)).add j) = (recL t)[j]?) ∧ recBd t := fun i hlt => by
      obtain ⟨cs', h1, h2⟩ := hi i (by omega)
      rw [hC] at h1
      obtain ⟨hcl, _⟩ := h2.struct Try.underlying81
      rw [hC] at hcl
      match cs', hcl with
      | [v0, v1, v2, v3], _ =>
        have f0 := h2.field Try.underlying81 0 _ 4 1 [v0] rfl rfl hC_bool rfl
        have f1 := h2.field Try.underlying81 1 _ 3 1 [v1] rfl rfl hC_int rfl
        have f2 := h2.field Try.underlying81 2 _ 3 1 [v2] rfl rfl hC_int rfl
        have f3 := h2.field Try.underlying81 3 _ 9 1 [v3] rfl rfl hC_string rfl
        obtain ⟨z0, e0⟩ := f0.bool Try.underlying4
        obtain ⟨z1, e1, y1⟩ := f1.int Try.underlying3
        obtain ⟨z2, e2, y2⟩ := f2.int Try.underlying3
        obtain ⟨z3, e3, y3⟩ := f3.str Try.underlying9
        simp at e0 e1 e2 e3
        subst e0 e1 e2 e3
        exact ⟨⟨z0, z1, z2, z3⟩, fun j hj => (World.cells?_some h1).2.2 j hj, wf_i64 y1, wf_i64 y2, y3⟩
    obtain ⟨V, hV⟩ := choose_lt key
    exact ⟨(List.range len).map V, ⟨some a, cap, by simp, by simpa using hl, by simp; omega, row_of_elems recL_len (by decide) V (fun i hi j hj => (hV i hi).1 j hj)⟩, fun t ht => by
      obtain ⟨i, hi, rfl⟩ := List.mem_map.1 ht
      exact (hV i (by simpa using hi)).2⟩
theorem argRecS {w : World} {v : Value} (h : Arg w 43 v) : ∃ c m, v = c ∧ RecSIn [c] m w ∧ ∀ t ∈ m, recBd t := by
  obtain ⟨a, len, cap, rfl, hr⟩ := h.slice Try.underlying43
  obtain ⟨l, h1, h2⟩ := Rd.recS hr
  exact ⟨_, l, rfl, h1, h2⟩
set_option maxHeartbeats 2000000 in
theorem uSzRecS (c : Value) (l : List RecM) (left : Int) (w : World) (h0 : 0 ≤ left) (h1 : left ≤ 1048576) (h : RecSIn [c] l w) (hb : ∀ t ∈ l, recBd t) :
    Calls Try.prog 28 #[c, .int .i64 left] w fun e w' => e = .returned (.int .i64 (szI left (szRecS l))) ∧ Below w.heap.size w w' := by
  obtain ⟨a, cap, rfl, _, h2, r⟩ := recSIn_shape h
  have HB := Lib.hid hb
  have RR := Lib.hid r
  unfold maxLen at h2
  clear h hb r
  by_cases g : left - (l.length : Int) < 0
  · have E : Hid (szI left (szRecS l) = -1) := Lib.hid (szI_no (by unfold szRecS; omega))
    go_enter Try.func28, Try.ntmps28
    go_wp2
    go_ret
    exact ⟨ret_int E.out.symm, Below.refl _ _⟩
  have SZ : Hid (szRecS l = l.length + sumRecS l) := Lib.hid rfl
  go_enter Try.func28, Try.ntmps28
  go_wp2
  go_loopw [1, 5] (fun lv i wr => ∃ (k : Nat) (z : Int), k ≤ l.length ∧ i = .int .i64 k ∧ lv = .int .i64 z ∧ 0 ≤ z ∧ z ≤ 1048576 ∧ Hid (z = left - l.length - sumRecS (l.take k)) ∧ Hid (Below w.heap.size w wr)) (fun _ i _ => l.length - (intOf i).toNat)
  case atStart => exact ⟨0, _, Nat.zero_le _, rfl, rfl, by omega, by omega, Lib.hid (by simp [sumRecS]), Lib.hid (Below.refl _ _)⟩
  case round =>
    obtain ⟨k, z, hk, rfl, rfl, hz0, hz1, HZ, B⟩ := hrel
    by_cases hlt : k < l.length
    · obtain ⟨b1, o1, rfl, q0, q1, q2, q3⟩ := (RR.out.below B.out).rec hlt
      have BD := Lib.hid (HB.out _ (List.getElem_mem hlt))
      have SK := Lib.hid (fun w => lawsSzRec l[k] z w hz0 hz1 BD.out)
      have HN : Hid (z - (szRec l[k] : Int) = left - l.length - sumRecS (l.take (k + 1))) := Lib.hid (by rw [List.take_succ_eq_append_getElem hlt, sumRecS_snoc, HZ.out]; omega)
      have HT := Lib.hid (sumRecS_take l (k + 1))
      generalize szRec l[k] = y at *
      generalize l[k].live = x0 at *
      generalize l[k].dist = x1 at *
      generalize l[k].weight = x2 at *
      generalize l[k].word = x3 at *
      go_wp2_with fail
      refine (SK.out _).mono ?_
      rintro e w2 ⟨rfl, hb⟩
      have B2 := Lib.hid (below_seq B.out hb)
      clear hb SK q0 q1 q2 q3
      by_cases g2 : z - (y : Int) < 0
      · rw [szI_no g2]
        have E : Hid (szI left (szRecS l) = -1) := Lib.hid (szI_no (by rw [SZ.out]; have := HN.out; have := HT.out; omega))
        go_wp2
        go_ret
        exact ⟨ret_int E.out.symm, B2.out⟩
      · rw [szI_yes g2]
        go_wp2
        go_roundw
        case rel => exact ⟨k + 1, _, by omega, by go_num, rfl, by omega, by omega, HN, B2⟩
        case measure => simp [intOf]; omega
    · have E : Hid (szI left (szRecS l) = z) := Lib.hid (by
        have e := HZ.out
        rw [List.take_of_length_le (by omega)] at e
        rw [szI_yes (by rw [SZ.out]; omega), SZ.out]; omega)
      go_wp2
      go_ret
      exact ⟨ret_int E.out.symm, B.out⟩
def copyRecS (l : List RecM) (k : Nat) : List RecM := l.take k ++ List.replicate (l.length - k) zeroRec
theorem copyRecS_length (l : List RecM) (k : Nat) (h : k ≤ l.length) : (copyRecS l k).length = l.length := by unfold copyRecS; simp; omega
theorem copyRecS_zero (l : List RecM) : copyRecS l 0 = List.replicate l.length zeroRec := by simp [copyRecS]
theorem copyRecS_set (l : List RecM) (k : Nat) (h : k < l.length) : (copyRecS l k).set k l[k] = copyRecS l (k + 1) := by
  unfold copyRecS
  rw [List.set_append_right _ _ (by simp; omega), show k - (l.take k).length = 0 from by simp; omega, List.take_succ_eq_append_getElem h, show l.length - k = (l.length - (k + 1)) + 1 from by omega, List.replicate_succ, List.set_cons_zero, List.append_assoc]
  rfl
theorem copyRecS_done (l : List RecM) : copyRecS l l.length = l := by unfold copyRecS; simp
set_option maxHeartbeats 2000000 in
theorem lawsToRecS (a : Option Addr) (cap : Nat) (l : List RecM) (w : World) (hl : l.length ≤ 1048576) (r : Row w a (flatG recL l)) :
    Calls Try.prog 30 #[.slice a l.length cap] w fun e w' => e = .returned (.slice (some ⟨w.heap.size, 0, none⟩) l.length l.length) ∧
      w'.ownsRow w.heap.size 30 4 (.slice (some ⟨w.heap.size, 0, none⟩) l.length l.length) l.length (flatG recL l) ∧ Below w.heap.size w w' := by
  have R := Lib.hid r
  clear r
  obtain ⟨i0, hi, hz0, hz1, hz2⟩ := info_parts Try.infoRec
  go_enter Try.func30, Try.ntmps30
  go_wp2_with (at_make; refine wpList_make_full _ rfl _ _ 24 rfl w.heap.size 30 i0 _ 4 Try.underlying24 hi hz0 hz1 .i64 .i64 _ _ l.length rfl rfl rfl rfl (by rw [hz2]; omega) (by unfold maxLen; omega) (Nat.le_refl _) ?_)
  clear hi hz0 hz1 hz2
  intro w1 hown hgr
  have hb1 : Below w.heap.size w w1 := grown_below hgr
  have hown' : w1.ownsRow w.heap.size 30 4 (.slice (some ⟨w.heap.size, 0, none⟩) l.length l.length) l.length (flatG recL (copyRecS l 0)) := by
    rw [copyRecS_zero, ← made_flat recL_len (by decide) zeroRec _ rfl]; exact hown
  clear hgr hown
  go_wp2
  go_loopw [4] (fun i wr => ∃ k : Nat, k ≤ l.length ∧ i = .int .i64 k ∧ wr.ownsRow w.heap.size 30 4 (.slice (some ⟨w.heap.size, 0, none⟩) l.length l.length) l.length (flatG recL (copyRecS l k)) ∧ Below w.heap.size w wr) (fun i _ => l.length - (intOf i).toNat)
  case atStart => exact ⟨0, Nat.zero_le _, rfl, hown', hb1⟩
  case round =>
    clear hown' hb1
    obtain ⟨k, hk, rfl, hown, hb⟩ := hrel
    by_cases hlt : k < l.length
    · obtain ⟨b1, o1, rfl, q0, q1, q2, q3⟩ := (R.out.below hb).rec hlt
      have hcl := copyRecS_length l k hk
      have G := Lib.hid (copyRecS_set l k hlt)
      have OW := Lib.hid hown
      have B := Lib.hid hb
      have TO := Lib.hid (fun w => lawsToRec l[k] w)
      clear hown hb
      obtain ⟨r, hr⟩ : ∃ r, l[k] = r := ⟨_, rfl⟩
      rw [hr] at G TO q0 q1 q2 q3
      clear hr
      obtain ⟨x0, x1, x2, x3⟩ := r
      simp only at TO q0 q1 q2 q3
      go_wp2_with fail
      refine (TO.out _).mono ?_
      rintro e w2 ⟨rfl, hb2⟩
      have own2 := own_below OW.out hb2
      have B2 := Lib.hid (below_seq B.out hb2)
      have f0 := own2.frozenAt (k * 4)
      have f1 := own2.frozenAt (k * 4 + 1)
      have f2 := own2.frozenAt (k * 4 + 2)
      have f3 := own2.frozenAt (k * 4 + 3)
      have cc := own_elem recL_len own2 (k := k) (by omega)
      obtain ⟨p, hp⟩ : ∃ p, (copyRecS l k)[k] = p := ⟨_, rfl⟩
      rw [hp] at cc
      obtain ⟨p0, p1, p2, p3⟩ := p
      have c0 : w2.cell? ⟨w.heap.size, k * 4, none⟩ = some (.bool p0) := cc 0 (by decide)
      have c1 : w2.cell? ⟨w.heap.size, k * 4 + 1, none⟩ = some (.int .i64 p1) := cc 1 (by decide)
      have c2 : w2.cell? ⟨w.heap.size, k * 4 + 2, none⟩ = some (.int .i64 p2) := cc 2 (by decide)
      have c3 : w2.cell? ⟨w.heap.size, k * 4 + 3, none⟩ = some (.string p3) := cc 3 (by decide)
      have X := Lib.hid (own_elem_set recL_len own2 (k := k) (by omega) ⟨x0, x1, x2, x3⟩)
      rw [G.out] at X
      clear own2 hb2 cc hp G TO q0 q1 q2 q3
      go_wp2
      go_roundw
      case rel => exact ⟨k + 1, by omega, by go_num, X.out.1, B2.out.grown X.out.2 B2.out.size (fun i hi => by cases hi; exact Nat.le_refl _)⟩
      case measure => simp [intOf]; omega
    · have hk' : k = l.length := by omega
      subst hk'
      rw [copyRecS_done] at hown
      have R2 := Lib.hid (And.intro hown hb)
      clear hown hb
      go_wp2
      go_ret
      exact ⟨rfl, R2.out.1, R2.out.2⟩
theorem uToRecS (c : Value) (l : List RecM) (w : World) (hl : szRecS l ≤ 1048576) (h : RecSIn [c] l w) : Calls Try.prog 30 #[c] w (RecSRet l w) := by
  obtain ⟨a, cap, rfl, _, _, r⟩ := recSIn_shape h
  refine (lawsToRecS a cap l w (by unfold szRecS at hl; omega) r).mono ?_
  rintro e w' ⟨rfl, ho, hb⟩
  exact ⟨_, rfl, RecSOwn.mk ho, hb⟩
set_option maxHeartbeats 4000000 in
theorem lawsEqRecS (a1 a2 : Option Addr) (c1 c2 : Nat) (l : List RecM) (w : World) (h1 : l.length ≤ maxLen) (r1 : Row w a1 (flatG recL l)) (r2 : Row w a2 (flatG recL l)) :
    Calls Try.prog 31 #[.slice a1 l.length c1, .slice a2 l.length c2] w (TruePost w) := by
  unfold maxLen at h1
  have R1 := Lib.hid r1
  have R2 := Lib.hid r2
  clear r1 r2
  go_enter Try.func31, Try.ntmps31
  go_wp2
  go_loopw [5] (fun i wr => ∃ k : Nat, k ≤ l.length ∧ i = .int .i64 k ∧ Below w.heap.size w wr) (fun i _ => l.length - (intOf i).toNat)
  case atStart => exact ⟨0, Nat.zero_le _, rfl, Below.refl _ _⟩
  case round =>
    obtain ⟨k, hk, rfl, hb⟩ := hrel
    by_cases hlt : k < l.length
    · obtain ⟨b1, o1, rfl, q0, q1, q2, q3⟩ := (R1.out.below hb).rec hlt
      obtain ⟨b2, o2, rfl, p0, p1, p2, p3⟩ := (R2.out.below hb).rec hlt
      have B := Lib.hid hb
      have EQ := Lib.hid (fun w => lawsEqRec l[k] w)
      clear hb
      obtain ⟨r, hr⟩ : ∃ r, l[k] = r := ⟨_, rfl⟩
      rw [hr] at EQ q0 q1 q2 q3 p0 p1 p2 p3
      clear hr
      obtain ⟨x0, x1, x2, x3⟩ := r
      simp only at EQ q0 q1 q2 q3 p0 p1 p2 p3
      have KP := Lib.hid (fun w' (hb : Below wr.heap.size wr w') => (show w'.cell? ⟨b1, o1 + k * 4, none⟩ = some (.bool x0) ∧ w'.cell? ⟨b1, o1 + k * 4 + 1, none⟩ = some (.int .i64 x1) ∧ w'.cell? ⟨b1, o1 + k * 4 + 2, none⟩ = some (.int .i64 x2) ∧ w'.cell? ⟨b1, o1 + k * 4 + 3, none⟩ = some (.string x3) ∧ w'.cell? ⟨b2, o2 + k * 4, none⟩ = some (.bool x0) ∧ w'.cell? ⟨b2, o2 + k * 4 + 1, none⟩ = some (.int .i64 x1) ∧ w'.cell? ⟨b2, o2 + k * 4 + 2, none⟩ = some (.int .i64 x2) ∧ w'.cell? ⟨b2, o2 + k * 4 + 3, none⟩ = some (.string x3) from ⟨cell_keep q0 hb, cell_keep q1 hb, cell_keep q2 hb, cell_keep q3 hb, cell_keep p0 hb, cell_keep p1 hb, cell_keep p2 hb, cell_keep p3 hb⟩))
      have HB := Lib.hid (below_drew (Below.refl wr.heap.size wr))
      have hk0 : (0 : Int) ≤ (k : Int) := by omega
      have hk1 : (k : Int) < (l.length : Int) := by omega
      go_wp2_with fail
      go_region_held3 (fun w' => w'.cell? ⟨b1, o1 + k * 4, none⟩ = some (.bool x0) ∧ w'.cell? ⟨b1, o1 + k * 4 + 1, none⟩ = some (.int .i64 x1) ∧ w'.cell? ⟨b1, o1 + k * 4 + 2, none⟩ = some (.int .i64 x2) ∧ w'.cell? ⟨b1, o1 + k * 4 + 3, none⟩ = some (.string x3) ∧ w'.cell? ⟨b2, o2 + k * 4, none⟩ = some (.bool x0) ∧ w'.cell? ⟨b2, o2 + k * 4 + 1, none⟩ = some (.int .i64 x1) ∧ w'.cell? ⟨b2, o2 + k * 4 + 2, none⟩ = some (.int .i64 x2) ∧ w'.cell? ⟨b2, o2 + k * 4 + 3, none⟩ = some (.string x3))
        (exact KP.out _ HB.out)
        ((go_at_call 62; refine (EQ.out _).mono ?_; rintro e w2 ⟨rfl, hb2⟩; have HB := Lib.hid (below_seq HB.out hb2); clear hb2))
      have B3 := Lib.hid (below_seq B.out HB.out)
      clear q0 q1 q2 q3 p0 p1 p2 p3 KP EQ HB
      go_wp2
      go_roundw
      case rel => exact ⟨k + 1, by omega, by go_num, B3.out⟩
      case measure => simp [intOf]; omega
    · have B := Lib.hid hb
      clear hb
      go_wp2
      go_ret
      exact ⟨rfl, B.out⟩
theorem uEqRecS (c d : Value) (l : List RecM) (w : World) (h : RecSIn [c] l w) (k : RecSIn [d] l w) : Calls Try.prog 31 #[c, d] w (TruePost w) := by
  obtain ⟨a, cap, rfl, _, h2, h3⟩ := recSIn_shape h
  obtain ⟨a', cap', rfl, _, _, k3⟩ := recSIn_shape k
  exact lawsEqRecS a a' cap cap' l w h2 h3 k3
end Go.Proofs.Ytaedamnhobcdlaa
end

section
namespace Go.Proofs.Ytaedamnhobcdlaa
open Go.RowKit
set_option linter.unusedVariables false

/-- The decimal digits of k ahead of acc. -/
def decF : Nat → Nat → List UInt8 → List UInt8
  | 0, _, acc => acc
  | f + 1, k, acc => if k = 0 then acc else decF f (k / 10) (UInt8.ofNat (48 + k % 10) :: acc)
def markL (k : Nat) : List UInt8 := if k = 0 then [109, 48] else 109 :: decF k k []
def mval (k : Nat) : Value := .string (strL (markL k))
theorem decF_zero (f : Nat) (acc : List UInt8) : decF f 0 acc = acc := by cases f <;> simp [decF]
theorem decF_step (f k : Nat) (acc : List UInt8) (h : 0 < k) : decF (f + 1) k acc = decF f (k / 10) (UInt8.ofNat (48 + k % 10) :: acc) := by
  simp [decF]; omega

theorem strL_cons (c : UInt8) (l : List UInt8) : strL [c] ++ strL l = strL (c :: l) := by
  unfold strL; apply ByteArray.ext; simp [ByteArray.data_append]
theorem digit_conv (w : World) (j : Nat) :
    (convert 22 9 (.slice (some ⟨w.heap.size, 0, none⟩) 1 1)).run Try.prog (w.alloc (.cells #[.int .u8 (48 + (j : Int) % 10)] 5)) = .ok (.string (strL [UInt8.ofNat (48 + j % 10)])) (w.alloc (.cells #[.int .u8 (48 + (j : Int) % 10)] 5)) := by
  have h := World.ownsRow_lit (base := 0) (e := 5) (size := 1) w #[.int .u8 (48 + (j : Int) % 10)] 1 (Nat.zero_le _) (by unfold maxLen; omega) rfl
  refine conv_own (base := 0) (l := [UInt8.ofNat (48 + j % 10)]) 1 rfl ?_
  have e : [UInt8.ofNat (48 + j % 10)].map bval = [.int .u8 (48 + (j : Int) % 10)] := by
    simp [bval]; omega
  rw [e]; exact h

set_option maxHeartbeats 800000 in
theorem lawsMarkText (k : Nat) (w : World) (hk : k ≤ 4611686018427387904) :
    Calls Try.prog 63 #[.int .i64 k] w fun e w' => e = .returned (mval k) ∧ Below w.heap.size w w' := by
  by_cases h0 : 0 < k
  · have HM : Hid (markL k = 109 :: decF k k []) := Lib.hid (by unfold markL; rw [if_neg (by omega)])
    go_enter Try.func63, Try.ntmps63
    go_wp2
    go_loopw [0, 3] (fun kv ov wr => ∃ (j f : Nat) (acc : List UInt8), j ≤ k ∧ j ≤ f ∧ acc.length + j ≤ k + 1000 ∧ kv = .int .i64 j ∧ ov = .string (strL acc) ∧ Hid (decF f j acc = decF k k []) ∧ Below w.heap.size w wr) (fun kv _ _ => (intOf kv).toNat)
    case atStart => exact ⟨k, k, [], Nat.le_refl _, Nat.le_refl _, by simp, rfl, rfl, Lib.hid rfl, Below.refl _ _⟩
    case round =>
      obtain ⟨j, f, acc, hj, hf, hac, rfl, rfl, H, hb⟩ := hrel
      by_cases hlt : 0 < j
      · obtain ⟨f', rfl⟩ : ∃ f', f = f' + 1 := ⟨f - 1, by omega⟩
        have H2 := H.out
        rw [decF_step f' j acc hlt] at H2
        have HD := Lib.hid H2
        clear H2
        have hcv := digit_conv wr j
        have hsz := hb.size
        obtain ⟨c, hc⟩ : ∃ c, c = UInt8.ofNat (48 + j % 10) := ⟨_, rfl⟩
        rw [← hc] at hcv HD
        have HA := Lib.hid (strL_cons c acc)
        have hs1 : (strL [c]).size + (strL acc).size ≤ 9223372036854775807 := by rw [strL_size, strL_size, List.length_singleton]; omega
        have B2 := Lib.hid (hb.alloc hsz (.cells #[.int .u8 (48 + (j : Int) % 10)] 5))
        clear hc H hb
        go_wp2
        go_roundw
        case rel => exact ⟨j / 10, f', c :: acc, by omega, by omega, by simp; omega, by go_num, by rw [HA.out], HD, B2.out⟩
        case measure => simp [intOf]; omega
      · have hj0 : j = 0 := by omega
        subst hj0
        have H2 := H.out
        rw [decF_zero] at H2
        have HD := Lib.hid H2
        have hs1 : (strL acc).size ≤ 5000000000000000000 := by rw [strL_size]; omega
        clear H2 H
        go_wp2
        go_ret
        exact ⟨ret_str (by rw [HM.out, ← HD.out]; exact strL_cons 109 acc), hb⟩
  · have hk0 : k = 0 := by omega
    subst hk0
    go_enter Try.func63, Try.ntmps63
    go_wp2
    go_ret
    exact ⟨rfl, Below.refl _ _⟩

theorem sval_at {l : List (List UInt8)} {k : Nat} (h : k < l.length) : (l.map sval)[k]? = some (.string (strL l[k])) := by simp [h, sval]
theorem seq_take {l m : List (List UInt8)} (hl : l.length = m.length) (k : Nat) (hk : l.length ≤ k) (h : l.take k = m.take k) : (l == m) = true := by
  rw [List.take_of_length_le hk, List.take_of_length_le (by omega)] at h; simp [h]
theorem seq_at {l m : List (List UInt8)} {k : Nat} (h1 : k < l.length) (h2 : k < m.length) (h : l[k] ≠ m[k]) : (l == m) = false := by
  rw [beq_eq_false_iff_ne]; intro e; subst e; exact h rfl
theorem seq_both {l m : List (List UInt8)} {k : Nat} (h1 : k < l.length) (h2 : k < m.length) (e : l.take k = m.take k) (h : l[k] = m[k]) : l.take (k + 1) = m.take (k + 1) := by
  rw [List.take_succ_eq_append_getElem h1, List.take_succ_eq_append_getElem h2, e, h]


/-- The marks k, k+1, .. (as texts). -/
def marksS (k n : Nat) : List Value := (List.range n).map fun i => mval (k + i)
theorem marksS_length (k n : Nat) : (marksS k n).length = n := by simp [marksS]
theorem marksS_succ (k n : Nat) : marksS k (n + 1) = marksS k n ++ [mval (k + n)] := by simp [marksS, List.range_succ]
theorem marksS_at {k n i : Nat} (h : i < n) : (marksS k n)[i]? = some (mval (k + i)) := by simp [marksS, h]
def markRowS (k j : Nat) (xs : List Value) : List Value := marksS k j ++ xs.drop j
theorem markRowS_zero (k : Nat) (xs : List Value) : markRowS k 0 xs = xs := by simp [markRowS, marksS]
theorem markRowS_set (k j : Nat) (xs : List Value) (h : j < xs.length) : (markRowS k j xs).set j (mval (k + j)) = markRowS k (j + 1) xs := by
  unfold markRowS
  rw [marksS_succ, List.set_append_right _ _ (by simp [marksS_length])]
  rw [show j - (marksS k j).length = 0 from by simp [marksS_length], List.drop_eq_getElem_cons h, List.set_cons_zero]
  simp
theorem markRowS_done (k : Nat) (xs : List Value) : markRowS k xs.length xs = marksS k xs.length := by simp [markRowS]
theorem markRowS_length (k j : Nat) (xs : List Value) (h : j ≤ xs.length) : (markRowS k j xs).length = xs.length := by simp [markRowS, marksS_length]; omega


theorem cell_below {w w' : World} {a : Addr} {v : Value} (h : w.cell? a = some v) (hb : Below w.heap.size w w') : w'.cell? a = some v := (hb.cell (block_lt_of_cell h)).trans h


end Go.Proofs.Ytaedamnhobcdlaa
end

section
namespace Go.Proofs.Ytaedamnhobcdlaa
open Go.RowKit
set_option linter.unusedVariables false
set_option maxRecDepth 100000

def mkRecAt (k : Nat) : RecM := ⟨decide (k % 3 = 0), ((k + 1 : Nat) : Int), ((k + 2 : Nat) : Int), strL (markL (k + 3))⟩
def marksR (k n : Nat) : List RecM := (List.range n).map fun i => mkRecAt (k + i * 4)
theorem marksR_length (k n : Nat) : (marksR k n).length = n := by simp [marksR]
theorem marksR_succ (k n : Nat) : marksR k (n + 1) = marksR k n ++ [mkRecAt (k + n * 4)] := by simp [marksR, List.range_succ]
theorem marksR_at {k n i : Nat} (h : i < (marksR k n).length) : (marksR k n)[i] = mkRecAt (k + i * 4) := by simp [marksR]
def markR (k j : Nat) (l : List RecM) : List RecM := marksR k j ++ l.drop j
theorem markR_zero (k : Nat) (l : List RecM) : markR k 0 l = l := by simp [markR, marksR]
theorem markR_length (k j : Nat) (l : List RecM) (h : j ≤ l.length) : (markR k j l).length = l.length := by simp [markR, marksR_length]; omega
theorem markR_set (k j : Nat) (l : List RecM) (h : j < l.length) : (markR k j l).set j (mkRecAt (k + j * 4)) = markR k (j + 1) l := by
  unfold markR
  rw [List.set_append_right _ _ (by rw [marksR_length]; omega), marksR_length, Nat.sub_self, List.drop_eq_getElem_cons h, List.set_cons_zero, marksR_succ, List.append_assoc]
  rfl
theorem markR_done (k : Nat) (l : List RecM) : markR k l.length l = marksR k l.length := by simp [markR]
def mcRecS (l : List RecM) : Nat := l.length * 4
theorem mcRecS_le {l : List RecM} (h : szRecS l ≤ 1048576) : mcRecS l ≤ 1000000000000 := by unfold szRecS at h; unfold mcRecS; omega
def mkRecS (k : Nat) (l : List RecM) : List RecM := marksR k l.length
set_option maxHeartbeats 2000000 in
theorem lawsMarkRecS (base g n cap k : Nat) (l : List RecM) (w : World) (hn : l.length = n) (hk : k + n * 4 ≤ 4611686018427387904) (hown : w.ownsRow base 30 4 (.slice (some ⟨g, 0, none⟩) n cap) n (flatG recL l)) :
    Calls Try.prog 32 #[.slice (some ⟨g, 0, none⟩) n cap, .int .i64 k] w fun e w' => e = .returned (.int .i64 ((k + n * 4 : Nat) : Int)) ∧ w'.ownsRow base 30 4 (.slice (some ⟨g, 0, none⟩) n cap) n (flatG recL (marksR k n)) ∧ w.grownBy w' (some g) := by
  subst hn
  have H0 := Lib.hid hown
  clear hown
  go_enter Try.func32, Try.ntmps32
  go_wp2
  go_loopw [1, 5] (fun kv i wr => ∃ j K : Nat, j ≤ l.length ∧ K ≤ 4611686018427387904 ∧ kv = .int .i64 (K : Int) ∧ i = .int .i64 j ∧ Hid (K = k + j * 4) ∧ Hid (wr.ownsRow base 30 4 (.slice (some ⟨g, 0, none⟩) l.length cap) l.length (flatG recL (markR k j l)) ∧ w.grownBy wr (some g))) (fun _ i _ => l.length - (intOf i).toNat)
  case atStart => exact ⟨0, k, Nat.zero_le _, by omega, rfl, rfl, Lib.hid (by omega), Lib.hid ⟨by rw [markR_zero]; exact H0.out, World.grownBy.refl _ _⟩⟩
  case round =>
    obtain ⟨j, K, hj, hK, rfl, rfl, HK, HO⟩ := hrel
    by_cases hlt : j < l.length
    · have hml := markR_length k j l hj
      have hown := HO.out.1
      have cc := own_elem recL_len hown (k := j) (by omega)
      obtain ⟨p, hp⟩ : ∃ p, (markR k j l)[j] = p := ⟨_, rfl⟩
      rw [hp] at cc
      obtain ⟨p0, p1, p2, p3⟩ := p
      have c0 : wr.cell? ⟨g, j * 4, none⟩ = some (.bool p0) := cc 0 (by decide)
      have c1 : wr.cell? ⟨g, j * 4 + 1, none⟩ = some (.int .i64 p1) := cc 1 (by decide)
      have c2 : wr.cell? ⟨g, j * 4 + 2, none⟩ = some (.int .i64 p2) := cc 2 (by decide)
      have c3 : wr.cell? ⟨g, j * 4 + 3, none⟩ = some (.string p3) := cc 3 (by decide)
      have f0 := hown.frozenAt (j * 4)
      have f1 := hown.frozenAt (j * 4 + 1)
      have f2 := hown.frozenAt (j * 4 + 2)
      have hKb : K + 4 ≤ 4611686018427387904 + 4 := by omega
      have T : Hid (∀ w, Calls Try.prog 63 #[.int .i64 ((K : Int) + 2 + 1)] w fun e w' => e = .returned (.string (strL (markL (K + 3)))) ∧ Below w.heap.size w w') := Lib.hid (fun w => by
        have := lawsMarkText (K + 3) w (by have := HK.out; omega)
        rw [show ((K + 3 : Nat) : Int) = (K : Int) + 2 + 1 from by omega] at this
        exact this)
      have M := Lib.hid (markR_set k j l hlt)
      have td : (K : Int).tmod 3 = (K : Int) % 3 := Int.tmod_eq_emod_of_nonneg (by omega)
      obtain ⟨q, hq⟩ : ∃ q, ((K : Int) % 3 == 0) = q := ⟨_, rfl⟩
      have EM : Hid (mkRecAt (k + j * 4) = ⟨q, (K : Int) + 1, (K : Int) + 2, strL (markL (K + 3))⟩) := Lib.hid (by
        unfold mkRecAt; rw [← HK.out, ← hq]
        have e : decide (K % 3 = 0) = ((K : Int) % 3 == 0) := by rw [Bool.eq_iff_iff]; simp; omega
        rw [e]
        rfl)
      rw [EM.out] at M
      obtain ⟨y, hy⟩ : ∃ y, strL (markL (K + 3)) = y := ⟨_, rfl⟩
      rw [hy] at T M
      clear EM hy
      obtain ⟨W3, hW3⟩ : ∃ W3, W3 = ((wr.setCell ⟨g, j * 4, none⟩ (.bool q)).setCell ⟨g, j * 4 + 1, none⟩ (.int .i64 ((K : Int) + 1))).setCell ⟨g, j * 4 + 2, none⟩ (.int .i64 ((K : Int) + 2)) := ⟨_, rfl⟩
      have O1 := hown.stored (j * 4) (.bool q)
      have O2 := O1.1.stored (j * 4 + 1) (.int .i64 ((K : Int) + 1))
      have O3 := O2.1.stored (j * 4 + 2) (.int .i64 ((K : Int) + 2))
      rw [← hW3] at O3
      have G3 := Lib.hid (grown_trans (grown_trans (grown_trans HO.out.2 O1.2) O2.2) O3.2)
      have F3 := Lib.hid (flatG_set recL_len ⟨q, (K : Int) + 1, (K : Int) + 2, y⟩ (markR k j l) j (by omega))
      rw [M.out] at F3
      have hlen : j * 4 + 3 < l.length * 4 := by omega
      have R3 := Lib.hid O3.1
      have C3 : Hid (∀ w' : World, Below W3.heap.size W3 w' → w'.cell? ⟨g, j * 4 + 3, none⟩ = some (.string p3)) := Lib.hid (fun w' hb => by
        have := (own_below R3.out hb).cellAt (j * 4 + 3) (by omega)
        rw [this, List.getElem?_set_ne (by omega), List.getElem?_set_ne (by omega), List.getElem?_set_ne (by omega), flatG_at recL_len _ j 3 (by omega) (by decide), hp]; rfl)
      clear O1 O2 O3 hown cc hp HO
      have a2 : (K : Int) + 1 + 1 = (K : Int) + 2 := by omega
      go_wp2_with fail
      rw [← hW3]
      clear hW3 c0 c1 c2 c3 f0 f1 f2
      refine (T.out _).mono ?_
      rintro e w2 ⟨rfl, hb⟩
      have O4 := own_below R3.out hb
      have f3 := O4.frozenAt (j * 4 + 3)
      have c3 := C3.out w2 hb
      have st := O4.stored (j * 4 + 3) (.string y)
      have R := Lib.hid (And.intro (show (w2.setCell ⟨g, j * 4 + 3, none⟩ (.string y)).ownsRow base 30 4 (.slice (some ⟨g, 0, none⟩) l.length cap) l.length (flatG recL (markR k (j + 1) l)) by rw [← F3.out]; exact st.1) (grown_trans (grown_trans G3.out (below_grown hb (some g))) st.2))
      clear st O4 hb T C3 R3 G3 F3 M
      go_wp2
      go_roundw
      case rel => exact ⟨j + 1, K + 4, by omega, by have := HK.out; omega, by go_num, by go_num, Lib.hid (by have := HK.out; omega), R⟩
      case measure => simp [intOf]; omega
    · have hj' : j = l.length := by omega
      subst hj'
      have h1 := HO.out.1
      rw [markR_done] at h1
      have e := HK.out
      have R := Lib.hid (And.intro h1 HO.out.2)
      have EK := Lib.hid e
      clear h1 HO e
      go_wp2
      go_ret
      exact ⟨ret_int (by rw [EK.out]), R.out.1, R.out.2⟩
set_option maxHeartbeats 400000 in
theorem lawsMarkRecSNil (c k : Nat) (w : World) (hk : k ≤ 4611686018427387904) : Calls Try.prog 32 #[.slice none 0 c, .int .i64 k] w fun e w' => e = .returned (.int .i64 k) ∧ w = w' := by
  go_enter Try.func32, Try.ntmps32
  go_wp2
  go_loopw [1, 5] (fun kv i wr => kv = .int .i64 k ∧ i = .int .i64 0 ∧ wr = w) (fun _ _ _ => 0)
  case atStart => exact ⟨rfl, rfl, rfl⟩
  case round =>
    obtain ⟨rfl, rfl, rfl⟩ := hrel
    go_wp2
    go_ret
    exact ⟨rfl, rfl⟩
theorem uMarkRecS (lo hi k : Nat) (c : Value) (l : List RecM) (w : World) (hk : k + mcRecS l ≤ 4611686018427387904) (h : RecSOwn lo hi [c] l w) :
    Calls Try.prog 32 #[c, .int .i64 k] w (MarkPost (RecSOwn lo hi [c] (mkRecS k l)) lo hi (k + mcRecS l) w) := by
  obtain ⟨a, cap, hc, ho, hh⟩ := h
  simp at hc
  subst hc
  unfold mcRecS at hk ⊢
  rcases ho.2 with ⟨hv, hn⟩ | ⟨g, cap', cur, hv, _⟩
  · simp at hv
    obtain ⟨rfl, h0, rfl⟩ := hv
    have e : l = [] := List.eq_nil_of_length_eq_zero (by omega)
    subst e
    refine (lawsMarkRecSNil _ k w (by omega)).mono ?_
    rintro e w' ⟨rfl, rfl⟩
    exact ⟨k, rfl, by simp, RecSOwn.nil _ _ _, Chg.refl _ _ _⟩
  · simp at hv
    obtain ⟨rfl, rfl⟩ := hv
    refine (lawsMarkRecS lo g l.length cap k l w rfl hk ho).mono ?_
    rintro e w' ⟨rfl, h1, h2⟩
    refine ⟨_, rfl, rfl, ⟨_, cap, by unfold mkRecS; rw [marksR_length], by unfold mkRecS; rw [marksR_length]; exact h1, by unfold mkRecS; rw [marksR_length]; exact hh⟩, Chg.of_grown h2 (fun b hb => ?_)⟩
    have hg : Value.ownBlock (.slice (some ⟨g, 0, none⟩) l.length cap) = some g := rfl
    simp at hb
    subst hb
    exact ⟨(ho.lt g hg).1, hh g hg⟩
set_option maxHeartbeats 2000000 in
theorem lawsHeldRecS (a : Option Addr) (n cap k : Nat) (w : World) (hk : k + n * 4 ≤ 4611686018427387904) (r : Row w a (flatG recL (marksR k n))) :
    Calls Try.prog 33 #[.slice a n cap, .int .i64 k] w fun e w' => e = .returned (.int .i64 ((k + n * 4 : Nat) : Int)) ∧ Below w.heap.size w w' := by
  have R := Lib.hid r
  clear r
  go_enter Try.func33, Try.ntmps33
  go_wp2
  go_loopw [1, 5] (fun kv i wr => ∃ j K : Nat, j ≤ n ∧ K ≤ 4611686018427387904 ∧ kv = .int .i64 (K : Int) ∧ i = .int .i64 j ∧ Hid (K = k + j * 4) ∧ Hid (Below w.heap.size w wr)) (fun _ i _ => n - (intOf i).toNat)
  case atStart => exact ⟨0, k, Nat.zero_le _, by omega, rfl, rfl, Lib.hid (by omega), Lib.hid (Below.refl _ _)⟩
  case round =>
    obtain ⟨j, K, hj, hK, rfl, rfl, HK, HB⟩ := hrel
    by_cases hlt : j < n
    · have hl : j < (marksR k n).length := by rw [marksR_length]; exact hlt
      obtain ⟨b1, o1, rfl, q0, q1, q2, q3⟩ := (R.out.below HB.out).rec hl
      rw [marksR_at hl] at q0 q1 q2 q3
      have T : Hid (∀ w, Calls Try.prog 63 #[.int .i64 ((K : Int) + 2 + 1)] w fun e w' => e = .returned (.string (strL (markL (K + 3)))) ∧ Below w.heap.size w w') := Lib.hid (fun w => by
        have := lawsMarkText (K + 3) w (by have := HK.out; omega)
        rw [show ((K + 3 : Nat) : Int) = (K : Int) + 2 + 1 from by omega] at this
        exact this)
      have td : (K : Int).tmod 3 = (K : Int) % 3 := Int.tmod_eq_emod_of_nonneg (by omega)
      have EM : mkRecAt (k + j * 4) = ⟨((K : Int) % 3 == 0), (K : Int) + 1, (K : Int) + 2, strL (markL (K + 3))⟩ := by
        unfold mkRecAt; rw [← HK.out]
        have e : decide (K % 3 = 0) = ((K : Int) % 3 == 0) := by rw [Bool.eq_iff_iff]; simp; omega
        rw [e]
        rfl
      rw [EM] at q0 q1 q2 q3
      obtain ⟨q, hq⟩ : ∃ q, ((K : Int) % 3 == 0) = q := ⟨_, rfl⟩
      obtain ⟨y, hy⟩ : ∃ y, strL (markL (K + 3)) = y := ⟨_, rfl⟩
      rw [hy] at T q3
      rw [hq] at q0
      simp only at q0 q1 q2 q3
      clear EM hy
      have a2 : (K : Int) + 1 + 1 = (K : Int) + 2 := by omega
      have hB : (y.toList == y.toList) = true := by simp
      have hqq : (q != q) = false := by simp
      have hj0 : (0 : Int) ≤ (j : Int) := by omega
      have hj1 : (j : Int) < (n : Int) := by omega
      have KP := Lib.hid (fun w' (hb : Below wr.heap.size wr w') => (show w'.cell? ⟨b1, o1 + j * 4 + 3, none⟩ = some (.string y) from cell_keep q3 hb))
      have HD := Lib.hid (below_drew (Below.refl wr.heap.size wr))
      go_wp2_with fail
      go_region_held3 (fun w' => w'.cell? ⟨b1, o1 + j * 4 + 3, none⟩ = some (.string y)) (exact KP.out _ HD.out)
        ((go_at_call 63; refine (T.out _).mono ?_; rintro e w2 ⟨rfl, hb2⟩; have HD := Lib.hid (below_seq HD.out hb2); clear hb2 T))
      have B2 := Lib.hid (below_seq HB.out HD.out)
      clear HD KP q0 q1 q2 q3 HB
      go_wp2
      go_roundw
      case rel => exact ⟨j + 1, K + 4, by omega, by have := HK.out; omega, by go_num, by go_num, Lib.hid (by have := HK.out; omega), B2⟩
      case measure => simp [intOf]; omega
    · have hj' : j = n := by omega
      subst hj'
      have EK := Lib.hid HK.out
      clear HK
      go_wp2
      go_ret
      exact ⟨ret_int (by rw [EK.out]), HB.out⟩
theorem uHeldRecS (k : Nat) (c : Value) (l : List RecM) (w : World) (hk : k + mcRecS l ≤ 4611686018427387904) (h : RecSIn [c] (mkRecS k l) w) :
    Calls Try.prog 33 #[c, .int .i64 k] w (HeldPost (k + mcRecS l) w) := by
  obtain ⟨a, cap, hc, _, _, hr⟩ := h
  simp at hc
  subst hc
  unfold mkRecS at hr ⊢
  rw [marksR_length]
  unfold mcRecS at hk ⊢
  exact (lawsHeldRecS a l.length cap k w hk hr).mono (by rintro e w' ⟨rfl, hb⟩; exact ⟨_, rfl, rfl, hb⟩)
end Go.Proofs.Ytaedamnhobcdlaa
end

section
namespace Go.Proofs.Ytaedamnhobcdlaa
open Go.RowKit
set_option linter.unusedVariables false
set_option linter.unusedSimpArgs false
set_option maxRecDepth 100000

def recEqB (x y : RecM) : Bool := (x.live == y.live && (decide (x.dist = y.dist) && (decide (x.weight = y.weight) && (x.word.toList == y.word.toList))))
theorem recEqB_self (x : RecM) : recEqB x x = true := by unfold recEqB; simp
theorem toList_inj {s t : ByteArray} (h : s.toList = t.toList) : s = t := by
  rw [toList_data, toList_data] at h
  obtain ⟨a⟩ := s
  obtain ⟨b⟩ := t
  have : a = b := Array.toList_inj.1 h
  rw [this]
theorem recEqB_eq {x y : RecM} (h : recEqB x y = true) : x = y := by
  unfold recEqB at h
  simp only [Bool.and_eq_true, beq_iff_eq, decide_eq_true_eq] at h
  obtain ⟨h1, h2, h3, h4⟩ := h
  obtain ⟨x0, x1, x2, x3⟩ := x
  obtain ⟨y0, y1, y2, y3⟩ := y
  simp only at h1 h2 h3 h4
  have := toList_inj h4
  subst h1 h2 h3 this
  rfl
theorem recEqB_diff {x y : RecM} (h : recEqB x y = false) : DiffR x y := by
  unfold DiffR
  by_cases h1 : x.live = y.live
  · by_cases h2 : x.dist = y.dist
    · by_cases h3 : x.weight = y.weight
      · refine .inr (.inr (.inr ⟨h1, h2, h3, fun h4 => ?_⟩))
        unfold recEqB at h
        simp [h1, h2, h3, h4] at h
      · exact .inr (.inr (.inl ⟨h1, h2, h3⟩))
    · exact .inr (.inl ⟨h1, h2⟩)
  · exact .inl h1
/-- How often a record is in a list. -/
def timesB (l : List RecM) (r : RecM) : Nat := (l.filter (recEqB · r)).length
theorem timesB_next {l : List RecM} {r : RecM} {k : Nat} (h : k < l.length) : timesB (l.take (k + 1)) r = timesB (l.take k) r + (if recEqB l[k] r = true then 1 else 0) := by
  unfold timesB
  rw [List.take_succ_eq_append_getElem h, List.filter_append, List.length_append]
  cases e : recEqB l[k] r <;> simp [e]
set_option maxHeartbeats 4000000 in
theorem lawsTimesIn (c : Value) (l : List RecM) (r : RecM) (w : World) (h : RecSIn [c] l w) : Calls Try.prog 15 #[c, .agg #[.bool r.live, .int .i64 r.dist, .int .i64 r.weight, .string r.word]] w fun e w' => e = .returned (.int .i64 (timesB l r : Int)) ∧ Below w.heap.size w w' := by
  obtain ⟨a, cap, rfl, hcap, hm, hr⟩ := recSIn_shape h
  have R := Lib.hid hr
  unfold maxLen at hm
  clear h hr
  obtain ⟨W1, hW1⟩ : ∃ W1, W1 = w.alloc (.cells #[.bool r.live, .int .i64 r.dist, .int .i64 r.weight, .string r.word] 30) := ⟨_, rfl⟩
  have K1 := Lib.hid (show W1.heap[w.heap.size]? = some (.cells #[.bool r.live, .int .i64 r.dist, .int .i64 r.weight, .string r.word] 30 (0, 0)) by rw [hW1]; exact alloc_at _ _ _ rfl)
  have B1 := Lib.hid (show Below w.heap.size w W1 by rw [hW1]; exact below_box (Below.refl _ w) _)
  go_enter Try.func15, Try.ntmps15
  go_wp2_with fail
  rw [← hW1]
  clear hW1
  go_loopg [5, 6] l.length (fun kk n i wr => ∃ k z : Nat, k ≤ l.length ∧ l.length - k = kk ∧ i = .int .i64 k ∧ n = .int .i64 z ∧ z ≤ k ∧ Hid (z = timesB (l.take k) r) ∧ Hid (wr.heap[w.heap.size]? = some (.cells #[.bool r.live, .int .i64 r.dist, .int .i64 r.weight, .string r.word] 30 (0, 0)) ∧ Below w.heap.size w wr))
  case atStart => exact ⟨0, 0, Nat.zero_le _, rfl, rfl, rfl, Nat.le_refl _, Lib.hid rfl, Lib.hid ⟨K1.out, B1.out⟩⟩
  case round =>
    clear K1 B1
    obtain ⟨k, z, hk, hkk, rfl, rfl, hz, HZ, H⟩ := hrel
    by_cases hlt : k < l.length
    · obtain ⟨b1, o1, rfl, q0, q1, q2, q3⟩ := (R.out.below H.out.2).rec hlt
      have NX := Lib.hid (timesB_next (r := r) hlt)
      obtain ⟨x, hx⟩ : ∃ x, l[k] = x := ⟨_, rfl⟩
      rw [hx] at NX q0 q1 q2 q3
      clear hx
      have t0 := cur_cell H.out.1 0
      have t1 := cur_cell H.out.1 1
      have t2 := cur_cell H.out.1 2
      have t3 := cur_cell H.out.1 3
      simp at t0 t1 t2 t3
      have HB := Lib.hid H.out.2
      have HK := Lib.hid H.out.1
      clear H
      have hk0 : (0 : Int) ≤ (k : Int) := by omega
      have hk1 : (k : Int) < (l.length : Int) := by omega
      have KF := Lib.hid (fun (W : World) (h : W.heap = wr.heap) => (show W.heap[w.heap.size]? = some (.cells #[.bool r.live, .int .i64 r.dist, .int .i64 r.weight, .string r.word] 30 (0, 0)) by rw [h]; exact HK.out))
      cases he : recEqB x r
      · have N := Lib.hid (show timesB (l.take (k + 1)) r = z by rw [NX.out, he, HZ.out]; rfl)
        have DD := recEqB_diff he
        clear NX he HZ
        obtain ⟨x0, x1, x2, x3⟩ := x
        obtain ⟨r0, r1, r2, r3⟩ := r
        unfold DiffR at DD
        simp only at DD q0 q1 q2 q3 t0 t1 t2 t3 KF HK
        rcases DD with hd | ⟨rfl, hd⟩ | ⟨rfl, rfl, hd⟩ | ⟨rfl, rfl, rfl, hd⟩
        all_goals
          have hd2 := fun e => hd (Eq.symm e)
          go_wp2_with fail
          go_quiet (fail)
          go_wp2
          go_roundg (l.length - (k + 1))
          case measure => omega
          case rel => exact ⟨k + 1, z, by omega, rfl, by go_num, rfl, by omega, Lib.hid N.out.symm, Lib.hid ⟨HK.out, below_seq HB.out (belowN _)⟩⟩
      · have N := Lib.hid (show timesB (l.take (k + 1)) r = z + 1 by rw [NX.out, he, HZ.out]; rfl)
        obtain rfl := recEqB_eq he
        clear NX he HZ
        go_wp2_with fail
        go_quiet (fail)
        go_wp2
        go_roundg (l.length - (k + 1))
        case measure => omega
        case rel => exact ⟨k + 1, z + 1, by omega, rfl, by go_num, by go_num, by omega, Lib.hid N.out.symm, Lib.hid ⟨HK.out, below_seq HB.out (belowN _)⟩⟩
    · have ek : l.take k = l := List.take_of_length_le (by omega)
      have HE := Lib.hid (show z = timesB l r by rw [← ek]; exact HZ.out)
      have HB := Lib.hid H.out.2
      clear ek HZ H
      go_wp2
      go_ret
      exact ⟨ret_int (by rw [HE.out]), HB.out⟩
set_option maxHeartbeats 2000000 in
theorem lawsSameRecs (c d : Value) (l : List RecM) (w : World) (h : RecSIn [c] l w) (k : RecSIn [d] l w) : Calls Try.prog 21 #[c, d] w (TruePost w) := by
  obtain ⟨a, cap, rfl, hcap, hm, hr⟩ := recSIn_shape h
  obtain ⟨a2, cap2, rfl, _, _, hr2⟩ := recSIn_shape k
  have R := Lib.hid hr
  have R2 := Lib.hid hr2
  unfold maxLen at hm
  clear h hr k hr2
  have hlB : ((l.length : Int) != (l.length : Int)) = false := by simp
  go_enter Try.func21, Try.ntmps21
  go_wp2_with fail
  go_loopg [5] l.length (fun kk i wr => ∃ k : Nat, k ≤ l.length ∧ l.length - k = kk ∧ i = .int .i64 k ∧ Hid (Below w.heap.size w wr))
  case atStart => exact ⟨0, Nat.zero_le _, rfl, rfl, Lib.hid (Below.refl _ _)⟩
  case round =>
    obtain ⟨k, hk, hkk, rfl, HB⟩ := hrel
    by_cases hlt : k < l.length
    · obtain ⟨b1, o1, rfl, q0, q1, q2, q3⟩ := (R.out.below HB.out).rec hlt
      obtain ⟨b2, o2, rfl, p0, p1, p2, p3⟩ := (R2.out.below HB.out).rec hlt
      obtain ⟨x, hx⟩ : ∃ x, l[k] = x := ⟨_, rfl⟩
      rw [hx] at q0 q1 q2 q3 p0 p1 p2 p3
      clear hx
      obtain ⟨x0, x1, x2, x3⟩ := x
      simp only at q0 q1 q2 q3 p0 p1 p2 p3
      have hk0 : (0 : Int) ≤ (k : Int) := by omega
      have hk1 : (k : Int) < (l.length : Int) := by omega
      go_wp2_with fail
      go_quiet (fail)
      go_wp2
      go_roundg (l.length - (k + 1))
      case measure => omega
      case rel => exact ⟨k + 1, by omega, rfl, by go_num, Lib.hid (below_seq HB.out (belowN _))⟩
    · clear R R2
      go_wp2
      go_ret
      exact ⟨rfl, HB.out⟩
end Go.Proofs.Ytaedamnhobcdlaa
end
