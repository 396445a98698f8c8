/- Go's Rec as a value, and rows of it, uniform. Written by tools/purerow.py. -/
import Derived.Test.YtaedamnhobcdlaaRecP
import Derived.Test.YtaedamnhobcdlaaFlatG
import Derived.Test.YtaedamnhobcdlaaInts
import Derived.Test.YtaedamnhobcdlaaSeg
import Derived.Test.YtaedamnhobcdlaaReads
import Derived.Test.YtaedamnhobcdlaaVals
import Derived.Deep.RegionHeld3
namespace Go.Proofs.Ytaedamnhobcdlaa
open Go.RowKit Go.ChangeShapes Go.WideShapes Go.Deep
set_option linter.unusedVariables false
set_option linter.unusedSimpArgs false
set_option maxRecDepth 100000

def recL (r : RecM) : List Value := [.bool r.live, .int .i64 r.dist, .int .i64 r.weight, .string r.word]
theorem recL_len (r : RecM) : (recL r).length = 4 := rfl
theorem recL_one (r : RecM) : ∀ v ∈ recL r, v.oneCell' = true := by
  intro v hv
  simp only [recL, List.mem_cons, List.not_mem_nil, or_false] at hv
  rcases hv with rfl | rfl | rfl | rfl <;> rfl
theorem RecM.cells_list (r : RecM) : r.cells = ⟨recL r⟩ := rfl
def RecIn (cs : List Value) (m : RecM) (w : World) : Prop := cs = recL m
def RecOwn (lo hi : Nat) (cs : List Value) (m : RecM) (w : World) : Prop := cs = recL m
theorem RecOwn.read {lo hi : Nat} {cs : List Value} {m : RecM} {w : World} (h : RecOwn lo hi cs m w) : RecIn cs m w := h
theorem RecOwn.lies {lo hi : Nat} {cs : List Value} {m : RecM} {w : World} (h : RecOwn lo hi cs m w) (ht : hi ≤ w.heap.size) : Lies w lo hi (RecOwn lo hi cs m) := ⟨h, ht, fun _ _ => h⟩
theorem RecIn.lies {cs : List Value} {m : RecM} {w : World} (h : RecIn cs m w) : Lies w 0 w.heap.size (RecIn cs m) := ⟨h, Nat.le_refl _, fun _ _ => h⟩
theorem recIn_cells {c0 c1 c2 c3 : Value} {m : RecM} {w : World} (h : RecIn [c0, c1, c2, c3] m w) : c0 = .bool m.live ∧ c1 = .int .i64 m.dist ∧ c2 = .int .i64 m.weight ∧ c3 = .string m.word := by
  simpa [RecIn, recL] using h
theorem RecOwn.shape {lo hi : Nat} {c0 c1 c2 c3 : Value} {m : RecM} {w : World} (h : RecOwn lo hi [c0, c1, c2, c3] m w) : ∃ (x0 : Bool) (x1 : Int) (x2 : Int) (x3 : ByteArray), c0 = .bool x0 ∧ c1 = .int .i64 x1 ∧ c2 = .int .i64 x2 ∧ c3 = .string x3 := by
  obtain ⟨h0, h1, h2, h3⟩ := recIn_cells h.read
  exact ⟨_, _, _, _, h0, h1, h2, h3⟩
def recBd (m : RecM) : Prop := (-9223372036854775808 ≤ m.dist ∧ m.dist ≤ 9223372036854775807) ∧ (-9223372036854775808 ≤ m.weight ∧ m.weight ≤ 9223372036854775807) ∧ m.word.size ≤ maxLen
def szRec (m : RecM) : Nat := m.word.size
def RecRet (m : RecM) (w : World) (e : Ending) (w' : World) : Prop := ∃ c0 c1 c2 c3, e = .returned (.agg #[c0, c1, c2, c3]) ∧ RecOwn w.heap.size w'.heap.size [c0, c1, c2, c3] m w' ∧ Below w.heap.size w w'
def zeroRec : RecM := ⟨false, 0, 0, ⟨#[]⟩⟩
instance : Inhabited RecM := ⟨zeroRec⟩
theorem argRec {w : World} {v : Value} (h : Arg w 81 v) : ∃ (c0 c1 c2 c3 : Value) (m : RecM), v = .agg #[c0, c1, c2, c3] ∧ RecIn [c0, c1, c2, c3] m w ∧ recBd m := by
  obtain ⟨cs, rfl, hl, hr⟩ := h.agg Try.underlying81
  have hC : Try.prog.cellsOf 81 = 4 := by kernel_rfl
  have hC_bool : Try.prog.cellsOf 4 = 1 := by kernel_rfl
  have hC_int : Try.prog.cellsOf 3 = 1 := by kernel_rfl
  have hC_string : Try.prog.cellsOf 9 = 1 := by kernel_rfl
  rw [hC] at hl
  match cs, hl with
  | [c0, c1, c2, c3], _ =>
    have f0 := hr.field Try.underlying81 0 _ 4 1 [c0] rfl rfl hC_bool rfl
    have f1 := hr.field Try.underlying81 1 _ 3 1 [c1] rfl rfl hC_int rfl
    have f2 := hr.field Try.underlying81 2 _ 3 1 [c2] rfl rfl hC_int rfl
    have f3 := hr.field Try.underlying81 3 _ 9 1 [c3] rfl rfl hC_string rfl
    obtain ⟨z0, e0⟩ := f0.bool Try.underlying4
    obtain ⟨z1, e1, y1⟩ := f1.int Try.underlying3
    obtain ⟨z2, e2, y2⟩ := f2.int Try.underlying3
    obtain ⟨z3, e3, y3⟩ := f3.str Try.underlying9
    simp at e0 e1 e2 e3
    subst e0 e1 e2 e3
    exact ⟨_, _, _, _, ⟨z0, z1, z2, z3⟩, rfl, rfl, wf_i64 y1, wf_i64 y2, y3⟩
set_option maxHeartbeats 1000000 in
theorem lawsToRec (m : RecM) (w : World) : Calls Try.prog 61 #[.agg #[.bool m.live, .int .i64 m.dist, .int .i64 m.weight, .string m.word]] w fun e w' => e = .returned (.agg #[.bool m.live, .int .i64 m.dist, .int .i64 m.weight, .string m.word]) ∧ Below w.heap.size w w' := by
  obtain ⟨x0, x1, x2, x3⟩ := m
  go_enter Try.func61, Try.ntmps61
  go_wp2
  exact bodyPost_ret (v := .agg #[.bool x0, .int .i64 x1, .int .i64 x2, .string x3]) (by simp [results, Try.results61, go_sem]) rfl ⟨rfl, below_box (below_box (below_box (Below.refl _ _) _) _) _⟩
theorem uToRec (c0 c1 c2 c3 : Value) (m : RecM) (w : World) (hl : szRec m ≤ 1048576) (h : RecIn [c0, c1, c2, c3] m w) : Calls Try.prog 61 #[.agg #[c0, c1, c2, c3]] w (RecRet m w) := by
  obtain ⟨rfl, rfl, rfl, rfl⟩ := recIn_cells h
  refine (lawsToRec m w).mono ?_
  rintro e w' ⟨rfl, hb⟩
  exact ⟨_, _, _, _, rfl, rfl, hb⟩
set_option maxHeartbeats 1000000 in
theorem lawsEqRec (m : RecM) (w : World) : Calls Try.prog 62 #[.agg #[.bool m.live, .int .i64 m.dist, .int .i64 m.weight, .string m.word], .agg #[.bool m.live, .int .i64 m.dist, .int .i64 m.weight, .string m.word]] w (TruePost w) := by
  obtain ⟨x0, x1, x2, x3⟩ := m
  have hx0 : (x0 != x0) = false := by simp
  go_enter Try.func62, Try.ntmps62
  go_wp2
  go_ret
  exact ⟨rfl, below_box (below_box (Below.refl _ _) _) _⟩
theorem uEqRec (c0 c1 c2 c3 d0 d1 d2 d3 : Value) (m : RecM) (w : World) (h : RecIn [c0, c1, c2, c3] m w) (k : RecIn [d0, d1, d2, d3] m w) : Calls Try.prog 62 #[.agg #[c0, c1, c2, c3], .agg #[d0, d1, d2, d3]] w (TruePost w) := by
  obtain ⟨rfl, rfl, rfl, rfl⟩ := recIn_cells h
  obtain ⟨rfl, rfl, rfl, rfl⟩ := recIn_cells k
  exact lawsEqRec m w
set_option maxHeartbeats 1000000 in
theorem lawsSzRec (m : RecM) (left : Int) (w : World) (h0 : 0 ≤ left) (h1 : left ≤ 1048576) (hb : recBd m) : Calls Try.prog 60 #[.agg #[.bool m.live, .int .i64 m.dist, .int .i64 m.weight, .string m.word], .int .i64 left] w fun e w' => e = .returned (.int .i64 (szI left (szRec m))) ∧ Below w.heap.size w w' := by
  obtain ⟨x0, x1, x2, x3⟩ := m
  unfold recBd maxLen at hb
  unfold szRec
  simp only at hb ⊢
  by_cases g3 : left - (x3.size : Int) < 0
  · have H := Lib.hid (szI_no (left := left) (n := x3.size) (by omega))
    go_enter Try.func60, Try.ntmps60
    go_wp2
    go_ret
    exact ⟨ret_int H.out.symm, below_box (Below.refl _ _) _⟩
  have H : Hid (szI left (x3.size) = left - (x3.size : Int)) := Lib.hid (by rw [szI_yes (by omega)] <;> omega)
  go_enter Try.func60, Try.ntmps60
  go_wp2
  go_ret
  exact ⟨ret_int H.out.symm, below_box (Below.refl _ _) _⟩
theorem uSzRec (c0 c1 c2 c3 : Value) (m : RecM) (left : Int) (w : World) (h0 : 0 ≤ left) (h1 : left ≤ 1048576) (h : RecIn [c0, c1, c2, c3] m w) (hb : recBd m) : Calls Try.prog 60 #[.agg #[c0, c1, c2, c3], .int .i64 left] w fun e w' => e = .returned (.int .i64 (szI left (szRec m))) ∧ Below w.heap.size w w' := by
  obtain ⟨rfl, rfl, rfl, rfl⟩ := recIn_cells h
  exact lawsSzRec m left w h0 h1 hb
/-- The one cell holds a slice that reads as l. -/
def RecSIn (cs : List Value) (l : List RecM) (w : World) : Prop := ∃ a cap, cs = [.slice a l.length cap] ∧ l.length ≤ cap ∧ l.length ≤ maxLen ∧ Row w a (flatG recL l)
def RecSOwn (lo hi : Nat) (cs : List Value) (l : List RecM) (w : World) : Prop :=
  ∃ a cap, cs = [.slice a l.length cap] ∧ w.ownsRow lo 30 4 (.slice a l.length cap) l.length (flatG recL l) ∧ ∀ k, Value.ownBlock (.slice a l.length cap) = some k → k < hi
theorem own_maxRecS {s w lo e a n cap xs} (h : World.ownsRow w lo e s (.slice a n cap) n xs) : n ≤ maxLen := by
  rcases h.2 with ⟨hv, hn⟩ | ⟨g, cap', cur, hv, _, _, _, h2, _⟩
  · rw [hn]; unfold maxLen; omega
  · simp at hv; omega
theorem RecSOwn.read {lo hi : Nat} {cs : List Value} {l : List RecM} {w : World} (h : RecSOwn lo hi cs l w) : RecSIn cs l w := by
  obtain ⟨a, cap, rfl, ho, _⟩ := h
  exact ⟨a, cap, rfl, own_cap ho, own_maxRecS ho, Row.of_own ho⟩
theorem RecSOwn.lies {lo hi : Nat} {cs : List Value} {l : List RecM} {w : World} (h : RecSOwn lo hi cs l w) (ht : hi ≤ w.heap.size) : Lies w lo hi (RecSOwn lo hi cs l) := by
  refine ⟨h, ht, fun w2 e => ?_⟩
  obtain ⟨a, cap, rfl, ho, hh⟩ := h
  exact ⟨a, cap, rfl, own_sup ho hh e, hh⟩
theorem RecSIn.lies {cs : List Value} {l : List RecM} {w : World} (h : RecSIn cs l w) : Lies w 0 w.heap.size (RecSIn cs l) := by
  obtain ⟨a, cap, rfl, h1, h2, hr⟩ := h
  exact ⟨⟨a, cap, rfl, h1, h2, hr⟩, Nat.le_refl _, fun w2 e => ⟨a, cap, rfl, h1, h2, (lies_row hr).sup w2 e⟩⟩
theorem RecSIn.below {cs : List Value} {l : List RecM} {w w' : World} (h : RecSIn cs l w) (hb : Below w.heap.size w w') : RecSIn cs l w' := (h.lies.below hb).now
theorem RecSOwn.wide {lo hi lo' hi' : Nat} {cs : List Value} {l : List RecM} {w : World} (h : RecSOwn lo hi cs l w) (h1 : lo' ≤ lo) (h2 : hi ≤ hi') : RecSOwn lo' hi' cs l w := by
  obtain ⟨a, cap, rfl, ho, hh⟩ := h
  exact ⟨a, cap, rfl, own_base ho h1, fun k hk => Nat.lt_of_lt_of_le (hh k hk) h2⟩
theorem RecSOwn.mk {lo n cap : Nat} {a : Option Addr} {l : List RecM} {w : World} (h : w.ownsRow lo 30 4 (.slice a n cap) n (flatG recL l)) : RecSOwn lo w.heap.size [.slice a n cap] l w := by
  have hn : l.length = n := by have := h.1; rw [flatG_len recL_len] at this; omega
  subst hn
  exact ⟨a, cap, rfl, h, own_top h⟩
theorem RecSOwn.shape {lo hi : Nat} {c : Value} {l : List RecM} {w : World} (h : RecSOwn lo hi [c] l w) : ∃ a n cap, c = .slice a n cap := by
  obtain ⟨a, cap, hc, _⟩ := h
  simp at hc
  exact ⟨a, _, cap, hc⟩
theorem recSIn_shape {c : Value} {l : List RecM} {w : World} (h : RecSIn [c] l w) : ∃ a cap, c = .slice a l.length cap ∧ l.length ≤ cap ∧ l.length ≤ maxLen ∧ Row w a (flatG recL l) := by
  obtain ⟨a, cap, hc, h1, h2, h3⟩ := h
  simp at hc
  exact ⟨a, cap, hc, h1, h2, h3⟩
theorem RecSOwn.nil (lo hi : Nat) (w : World) : RecSOwn lo hi [.slice none 0 0] [] w := ⟨none, 0, rfl, ⟨rfl, .inl ⟨rfl, rfl⟩⟩, fun k hk => by simp [Value.ownBlock] at hk⟩
def RecSRet (l : List RecM) (w : World) (e : Ending) (w' : World) : Prop := ∃ c, e = .returned c ∧ RecSOwn w.heap.size w'.heap.size [c] l w' ∧ Below w.heap.size w w'
theorem Try.infoRec : (Try.prog.info? 30).map (fun i => (i.zero, i.size, i.bytes)) = some (some (.agg #[.bool false, .int .i64 0, .int .i64 0, .string ⟨#[]⟩]), 4, 40) := by kernel_rfl
/-- The cells of an element of a row. -/
theorem Row.rec {w : World} {a : Option Addr} {l : List RecM} (h : Row w a (flatG recL l)) {k : Nat} (hk : k < l.length) : ∃ b off, a = some ⟨b, off, none⟩ ∧ w.cell? ⟨b, off + k * 4, none⟩ = some (.bool l[k].live) ∧ w.cell? ⟨b, off + k * 4 + 1, none⟩ = some (.int .i64 l[k].dist) ∧ w.cell? ⟨b, off + k * 4 + 2, none⟩ = some (.int .i64 l[k].weight) ∧ w.cell? ⟨b, off + k * 4 + 3, none⟩ = some (.string l[k].word) := by
  obtain ⟨b, off, rfl, hc⟩ := h.elem recL_len (by decide) hk
  exact ⟨b, off, rfl, hc 0 (by decide), hc 1 (by decide), hc 2 (by decide), hc 3 (by decide)⟩
def sumRecS : List RecM → Nat
  | [] => 0
  | r :: l => szRec r + sumRecS l
theorem sumRecS_snoc : ∀ (l : List RecM) (r : RecM), sumRecS (l ++ [r]) = sumRecS l + szRec r
  | [], r => by simp [sumRecS]
  | t :: l, r => by simp only [List.cons_append, sumRecS, sumRecS_snoc l r]; omega
theorem sumRecS_take (l : List RecM) (k : Nat) : sumRecS (l.take k) ≤ sumRecS l := by
  induction l generalizing k with
  | nil => simp
  | cons t l ih =>
    cases k with
    | zero => simp [sumRecS]
    | succ k => simp only [List.take_succ_cons, sumRecS]; have := ih k; omega
def szRecS (l : List RecM) : Nat := l.length + sumRecS l
theorem Rd.recS {w : World} {c : Value} (h : Rd w 43 [c]) : ∃ l, RecSIn [c] l w ∧ ∀ t ∈ l, recBd t := by
  have hC : Try.prog.cellsOf 81 = 4 := by kernel_rfl
  have hC_bool : Try.prog.cellsOf 4 = 1 := by kernel_rfl
  have hC_int : Try.prog.cellsOf 3 = 1 := by kernel_rfl
  have hC_string : Try.prog.cellsOf 9 = 1 := by kernel_rfl
  rcases h.slice Try.underlying43 with h | ⟨a, len, cap, h, hl, hm, hi⟩
  · simp at h
    subst h
    exact ⟨[], ⟨none, 0, rfl, Nat.le_refl _, by unfold maxLen; simp, .inl rfl⟩, fun t h => by simp at h⟩
  · simp at h
    subst h
    have key : ∀ i, i < len → ∃ t : RecM, (∀ j, j < 4 → w.cell? ((a.add (i * 4)).add j) = (recL t)[j]?) ∧ recBd t := fun i hlt => by
      obtain ⟨cs', h1, h2⟩ := hi i (by omega)
      rw [hC] at h1
      obtain ⟨hcl, _⟩ := h2.struct Try.underlying81
      rw [hC] at hcl
      match cs', hcl with
      | [v0, v1, v2, v3], _ =>
        have f0 := h2.field Try.underlying81 0 _ 4 1 [v0] rfl rfl hC_bool rfl
        have f1 := h2.field Try.underlying81 1 _ 3 1 [v1] rfl rfl hC_int rfl
        have f2 := h2.field Try.underlying81 2 _ 3 1 [v2] rfl rfl hC_int rfl
        have f3 := h2.field Try.underlying81 3 _ 9 1 [v3] rfl rfl hC_string rfl
        obtain ⟨z0, e0⟩ := f0.bool Try.underlying4
        obtain ⟨z1, e1, y1⟩ := f1.int Try.underlying3
        obtain ⟨z2, e2, y2⟩ := f2.int Try.underlying3
        obtain ⟨z3, e3, y3⟩ := f3.str Try.underlying9
        simp at e0 e1 e2 e3
        subst e0 e1 e2 e3
        exact ⟨⟨z0, z1, z2, z3⟩, fun j hj => (World.cells?_some h1).2.2 j hj, wf_i64 y1, wf_i64 y2, y3⟩
    obtain ⟨V, hV⟩ := choose_lt key
    exact ⟨(List.range len).map V, ⟨some a, cap, by simp, by simpa using hl, by simp; omega, row_of_elems recL_len (by decide) V (fun i hi j hj => (hV i hi).1 j hj)⟩, fun t ht => by
      obtain ⟨i, hi, rfl⟩ := List.mem_map.1 ht
      exact (hV i (by simpa using hi)).2⟩
theorem argRecS {w : World} {v : Value} (h : Arg w 43 v) : ∃ c m, v = c ∧ RecSIn [c] m w ∧ ∀ t ∈ m, recBd t := by
  obtain ⟨a, len, cap, rfl, hr⟩ := h.slice Try.underlying43
  obtain ⟨l, h1, h2⟩ := Rd.recS hr
  exact ⟨_, l, rfl, h1, h2⟩
set_option maxHeartbeats 2000000 in
theorem uSzRecS (c : Value) (l : List RecM) (left : Int) (w : World) (h0 : 0 ≤ left) (h1 : left ≤ 1048576) (h : RecSIn [c] l w) (hb : ∀ t ∈ l, recBd t) :
    Calls Try.prog 28 #[c, .int .i64 left] w fun e w' => e = .returned (.int .i64 (szI left (szRecS l))) ∧ Below w.heap.size w w' := by
  obtain ⟨a, cap, rfl, _, h2, r⟩ := recSIn_shape h
  have HB := Lib.hid hb
  have RR := Lib.hid r
  unfold maxLen at h2
  clear h hb r
  by_cases g : left - (l.length : Int) < 0
  · have E : Hid (szI left (szRecS l) = -1) := Lib.hid (szI_no (by unfold szRecS; omega))
    go_enter Try.func28, Try.ntmps28
    go_wp2
    go_ret
    exact ⟨ret_int E.out.symm, Below.refl _ _⟩
  have SZ : Hid (szRecS l = l.length + sumRecS l) := Lib.hid rfl
  go_enter Try.func28, Try.ntmps28
  go_wp2
  go_loopw [1, 5] (fun lv i wr => ∃ (k : Nat) (z : Int), k ≤ l.length ∧ i = .int .i64 k ∧ lv = .int .i64 z ∧ 0 ≤ z ∧ z ≤ 1048576 ∧ Hid (z = left - l.length - sumRecS (l.take k)) ∧ Hid (Below w.heap.size w wr)) (fun _ i _ => l.length - (intOf i).toNat)
  case atStart => exact ⟨0, _, Nat.zero_le _, rfl, rfl, by omega, by omega, Lib.hid (by simp [sumRecS]), Lib.hid (Below.refl _ _)⟩
  case round =>
    obtain ⟨k, z, hk, rfl, rfl, hz0, hz1, HZ, B⟩ := hrel
    by_cases hlt : k < l.length
    · obtain ⟨b1, o1, rfl, q0, q1, q2, q3⟩ := (RR.out.below B.out).rec hlt
      have BD := Lib.hid (HB.out _ (List.getElem_mem hlt))
      have SK := Lib.hid (fun w => lawsSzRec l[k] z w hz0 hz1 BD.out)
      have HN : Hid (z - (szRec l[k] : Int) = left - l.length - sumRecS (l.take (k + 1))) := Lib.hid (by rw [List.take_succ_eq_append_getElem hlt, sumRecS_snoc, HZ.out]; omega)
      have HT := Lib.hid (sumRecS_take l (k + 1))
      generalize szRec l[k] = y at *
      generalize l[k].live = x0 at *
      generalize l[k].dist = x1 at *
      generalize l[k].weight = x2 at *
      generalize l[k].word = x3 at *
      go_wp2_with fail
      refine (SK.out _).mono ?_
      rintro e w2 ⟨rfl, hb⟩
      have B2 := Lib.hid (below_seq B.out hb)
      clear hb SK q0 q1 q2 q3
      by_cases g2 : z - (y : Int) < 0
      · rw [szI_no g2]
        have E : Hid (szI left (szRecS l) = -1) := Lib.hid (szI_no (by rw [SZ.out]; have := HN.out; have := HT.out; omega))
        go_wp2
        go_ret
        exact ⟨ret_int E.out.symm, B2.out⟩
      · rw [szI_yes g2]
        go_wp2
        go_roundw
        case rel => exact ⟨k + 1, _, by omega, by go_num, rfl, by omega, by omega, HN, B2⟩
        case measure => simp [intOf]; omega
    · have E : Hid (szI left (szRecS l) = z) := Lib.hid (by
        have e := HZ.out
        rw [List.take_of_length_le (by omega)] at e
        rw [szI_yes (by rw [SZ.out]; omega), SZ.out]; omega)
      go_wp2
      go_ret
      exact ⟨ret_int E.out.symm, B.out⟩
def copyRecS (l : List RecM) (k : Nat) : List RecM := l.take k ++ List.replicate (l.length - k) zeroRec
theorem copyRecS_length (l : List RecM) (k : Nat) (h : k ≤ l.length) : (copyRecS l k).length = l.length := by unfold copyRecS; simp; omega
theorem copyRecS_zero (l : List RecM) : copyRecS l 0 = List.replicate l.length zeroRec := by simp [copyRecS]
theorem copyRecS_set (l : List RecM) (k : Nat) (h : k < l.length) : (copyRecS l k).set k l[k] = copyRecS l (k + 1) := by
  unfold copyRecS
  rw [List.set_append_right _ _ (by simp; omega), show k - (l.take k).length = 0 from by simp; omega, List.take_succ_eq_append_getElem h, show l.length - k = (l.length - (k + 1)) + 1 from by omega, List.replicate_succ, List.set_cons_zero, List.append_assoc]
  rfl
theorem copyRecS_done (l : List RecM) : copyRecS l l.length = l := by unfold copyRecS; simp
set_option maxHeartbeats 2000000 in
theorem lawsToRecS (a : Option Addr) (cap : Nat) (l : List RecM) (w : World) (hl : l.length ≤ 1048576) (r : Row w a (flatG recL l)) :
    Calls Try.prog 30 #[.slice a l.length cap] w fun e w' => e = .returned (.slice (some ⟨w.heap.size, 0, none⟩) l.length l.length) ∧
      w'.ownsRow w.heap.size 30 4 (.slice (some ⟨w.heap.size, 0, none⟩) l.length l.length) l.length (flatG recL l) ∧ Below w.heap.size w w' := by
  have R := Lib.hid r
  clear r
  obtain ⟨i0, hi, hz0, hz1, hz2⟩ := info_parts Try.infoRec
  go_enter Try.func30, Try.ntmps30
  go_wp2_with (at_make; refine wpList_make_full _ rfl _ _ 24 rfl w.heap.size 30 i0 _ 4 Try.underlying24 hi hz0 hz1 .i64 .i64 _ _ l.length rfl rfl rfl rfl (by rw [hz2]; omega) (by unfold maxLen; omega) (Nat.le_refl _) ?_)
  clear hi hz0 hz1 hz2
  intro w1 hown hgr
  have hb1 : Below w.heap.size w w1 := grown_below hgr
  have hown' : w1.ownsRow w.heap.size 30 4 (.slice (some ⟨w.heap.size, 0, none⟩) l.length l.length) l.length (flatG recL (copyRecS l 0)) := by
    rw [copyRecS_zero, ← made_flat recL_len (by decide) zeroRec _ rfl]; exact hown
  clear hgr hown
  go_wp2
  go_loopw [4] (fun i wr => ∃ k : Nat, k ≤ l.length ∧ i = .int .i64 k ∧ wr.ownsRow w.heap.size 30 4 (.slice (some ⟨w.heap.size, 0, none⟩) l.length l.length) l.length (flatG recL (copyRecS l k)) ∧ Below w.heap.size w wr) (fun i _ => l.length - (intOf i).toNat)
  case atStart => exact ⟨0, Nat.zero_le _, rfl, hown', hb1⟩
  case round =>
    clear hown' hb1
    obtain ⟨k, hk, rfl, hown, hb⟩ := hrel
    by_cases hlt : k < l.length
    · obtain ⟨b1, o1, rfl, q0, q1, q2, q3⟩ := (R.out.below hb).rec hlt
      have hcl := copyRecS_length l k hk
      have G := Lib.hid (copyRecS_set l k hlt)
      have OW := Lib.hid hown
      have B := Lib.hid hb
      have TO := Lib.hid (fun w => lawsToRec l[k] w)
      clear hown hb
      obtain ⟨r, hr⟩ : ∃ r, l[k] = r := ⟨_, rfl⟩
      rw [hr] at G TO q0 q1 q2 q3
      clear hr
      obtain ⟨x0, x1, x2, x3⟩ := r
      simp only at TO q0 q1 q2 q3
      go_wp2_with fail
      refine (TO.out _).mono ?_
      rintro e w2 ⟨rfl, hb2⟩
      have own2 := own_below OW.out hb2
      have B2 := Lib.hid (below_seq B.out hb2)
      have f0 := own2.frozenAt (k * 4)
      have f1 := own2.frozenAt (k * 4 + 1)
      have f2 := own2.frozenAt (k * 4 + 2)
      have f3 := own2.frozenAt (k * 4 + 3)
      have cc := own_elem recL_len own2 (k := k) (by omega)
      obtain ⟨p, hp⟩ : ∃ p, (copyRecS l k)[k] = p := ⟨_, rfl⟩
      rw [hp] at cc
      obtain ⟨p0, p1, p2, p3⟩ := p
      have c0 : w2.cell? ⟨w.heap.size, k * 4, none⟩ = some (.bool p0) := cc 0 (by decide)
      have c1 : w2.cell? ⟨w.heap.size, k * 4 + 1, none⟩ = some (.int .i64 p1) := cc 1 (by decide)
      have c2 : w2.cell? ⟨w.heap.size, k * 4 + 2, none⟩ = some (.int .i64 p2) := cc 2 (by decide)
      have c3 : w2.cell? ⟨w.heap.size, k * 4 + 3, none⟩ = some (.string p3) := cc 3 (by decide)
      have X := Lib.hid (own_elem_set recL_len own2 (k := k) (by omega) ⟨x0, x1, x2, x3⟩)
      rw [G.out] at X
      clear own2 hb2 cc hp G TO q0 q1 q2 q3
      go_wp2
      go_roundw
      case rel => exact ⟨k + 1, by omega, by go_num, X.out.1, B2.out.grown X.out.2 B2.out.size (fun i hi => by cases hi; exact Nat.le_refl _)⟩
      case measure => simp [intOf]; omega
    · have hk' : k = l.length := by omega
      subst hk'
      rw [copyRecS_done] at hown
      have R2 := Lib.hid (And.intro hown hb)
      clear hown hb
      go_wp2
      go_ret
      exact ⟨rfl, R2.out.1, R2.out.2⟩
theorem uToRecS (c : Value) (l : List RecM) (w : World) (hl : szRecS l ≤ 1048576) (h : RecSIn [c] l w) : Calls Try.prog 30 #[c] w (RecSRet l w) := by
  obtain ⟨a, cap, rfl, _, _, r⟩ := recSIn_shape h
  refine (lawsToRecS a cap l w (by unfold szRecS at hl; omega) r).mono ?_
  rintro e w' ⟨rfl, ho, hb⟩
  exact ⟨_, rfl, RecSOwn.mk ho, hb⟩
set_option maxHeartbeats 4000000 in
theorem lawsEqRecS (a1 a2 : Option Addr) (c1 c2 : Nat) (l : List RecM) (w : World) (h1 : l.length ≤ maxLen) (r1 : Row w a1 (flatG recL l)) (r2 : Row w a2 (flatG recL l)) :
    Calls Try.prog 31 #[.slice a1 l.length c1, .slice a2 l.length c2] w (TruePost w) := by
  unfold maxLen at h1
  have R1 := Lib.hid r1
  have R2 := Lib.hid r2
  clear r1 r2
  go_enter Try.func31, Try.ntmps31
  go_wp2
  go_loopw [5] (fun i wr => ∃ k : Nat, k ≤ l.length ∧ i = .int .i64 k ∧ Below w.heap.size w wr) (fun i _ => l.length - (intOf i).toNat)
  case atStart => exact ⟨0, Nat.zero_le _, rfl, Below.refl _ _⟩
  case round =>
    obtain ⟨k, hk, rfl, hb⟩ := hrel
    by_cases hlt : k < l.length
    · obtain ⟨b1, o1, rfl, q0, q1, q2, q3⟩ := (R1.out.below hb).rec hlt
      obtain ⟨b2, o2, rfl, p0, p1, p2, p3⟩ := (R2.out.below hb).rec hlt
      have B := Lib.hid hb
      have EQ := Lib.hid (fun w => lawsEqRec l[k] w)
      clear hb
      obtain ⟨r, hr⟩ : ∃ r, l[k] = r := ⟨_, rfl⟩
      rw [hr] at EQ q0 q1 q2 q3 p0 p1 p2 p3
      clear hr
      obtain ⟨x0, x1, x2, x3⟩ := r
      simp only at EQ q0 q1 q2 q3 p0 p1 p2 p3
      have KP := Lib.hid (fun w' (hb : Below wr.heap.size wr w') => (show w'.cell? ⟨b1, o1 + k * 4, none⟩ = some (.bool x0) ∧ w'.cell? ⟨b1, o1 + k * 4 + 1, none⟩ = some (.int .i64 x1) ∧ w'.cell? ⟨b1, o1 + k * 4 + 2, none⟩ = some (.int .i64 x2) ∧ w'.cell? ⟨b1, o1 + k * 4 + 3, none⟩ = some (.string x3) ∧ w'.cell? ⟨b2, o2 + k * 4, none⟩ = some (.bool x0) ∧ w'.cell? ⟨b2, o2 + k * 4 + 1, none⟩ = some (.int .i64 x1) ∧ w'.cell? ⟨b2, o2 + k * 4 + 2, none⟩ = some (.int .i64 x2) ∧ w'.cell? ⟨b2, o2 + k * 4 + 3, none⟩ = some (.string x3) from ⟨cell_keep q0 hb, cell_keep q1 hb, cell_keep q2 hb, cell_keep q3 hb, cell_keep p0 hb, cell_keep p1 hb, cell_keep p2 hb, cell_keep p3 hb⟩))
      have HB := Lib.hid (below_drew (Below.refl wr.heap.size wr))
      have hk0 : (0 : Int) ≤ (k : Int) := by omega
      have hk1 : (k : Int) < (l.length : Int) := by omega
      go_wp2_with fail
      go_region_held3 (fun w' => w'.cell? ⟨b1, o1 + k * 4, none⟩ = some (.bool x0) ∧ w'.cell? ⟨b1, o1 + k * 4 + 1, none⟩ = some (.int .i64 x1) ∧ w'.cell? ⟨b1, o1 + k * 4 + 2, none⟩ = some (.int .i64 x2) ∧ w'.cell? ⟨b1, o1 + k * 4 + 3, none⟩ = some (.string x3) ∧ w'.cell? ⟨b2, o2 + k * 4, none⟩ = some (.bool x0) ∧ w'.cell? ⟨b2, o2 + k * 4 + 1, none⟩ = some (.int .i64 x1) ∧ w'.cell? ⟨b2, o2 + k * 4 + 2, none⟩ = some (.int .i64 x2) ∧ w'.cell? ⟨b2, o2 + k * 4 + 3, none⟩ = some (.string x3))
        (exact KP.out _ HB.out)
        ((go_at_call 62; refine (EQ.out _).mono ?_; rintro e w2 ⟨rfl, hb2⟩; have HB := Lib.hid (below_seq HB.out hb2); clear hb2))
      have B3 := Lib.hid (below_seq B.out HB.out)
      clear q0 q1 q2 q3 p0 p1 p2 p3 KP EQ HB
      go_wp2
      go_roundw
      case rel => exact ⟨k + 1, by omega, by go_num, B3.out⟩
      case measure => simp [intOf]; omega
    · have B := Lib.hid hb
      clear hb
      go_wp2
      go_ret
      exact ⟨rfl, B.out⟩
theorem uEqRecS (c d : Value) (l : List RecM) (w : World) (h : RecSIn [c] l w) (k : RecSIn [d] l w) : Calls Try.prog 31 #[c, d] w (TruePost w) := by
  obtain ⟨a, cap, rfl, _, h2, h3⟩ := recSIn_shape h
  obtain ⟨a', cap', rfl, _, _, k3⟩ := recSIn_shape k
  exact lawsEqRecS a a' cap cap' l w h2 h3 k3
end Go.Proofs.Ytaedamnhobcdlaa
