/- WiV, NetU, NetP, NtP in one. Written by tools/join.py. -/
import Derived.Test.YtaedamnhobcdlaaJInts
import Derived.Test.YtaedamnhobcdlaaJApp
import Derived.Test.YtaedamnhobcdlaaJSeg
import Derived.Deep.QuietTactic
import Derived.BigQuiet
import Derived.Deep.RegionHeld3
section
namespace Go.Proofs.Ytaedamnhobcdlaa
open Go.RowKit Go.ChangeShapes Go.WideShapes Go.Deep
set_option maxRecDepth 100000
set_option linter.unusedVariables false

structure WireM where
  a : Int
  b : Int
deriving DecidableEq, Inhabited
def flatW : List WireM → List Value
  | [] => []
  | t :: l => .int .i64 t.a :: .int .i64 t.b :: flatW l
theorem flatW_len : ∀ l : List WireM, (flatW l).length = l.length * 2
  | [] => rfl
  | t :: l => by simp [flatW, flatW_len l]; omega
theorem flatW_app : ∀ l m : List WireM, flatW (l ++ m) = flatW l ++ flatW m
  | [], m => rfl
  | t :: l, m => by simp [flatW, flatW_app l m]
theorem flatW_at : ∀ (l : List WireM) (k : Nat) (h : k < l.length), (flatW l)[k * 2]? = some (.int .i64 l[k].a) ∧ (flatW l)[k * 2 + 1]? = some (.int .i64 l[k].b)
  | [], k, h => by simp at h
  | t :: l, 0, h => by simp [flatW]
  | t :: l, k + 1, h => by
    have := flatW_at l k (by simpa using h)
    have e : (k + 1) * 2 = k * 2 + 1 + 1 := by omega
    rw [e]
    simpa [flatW] using this
theorem flatW_one : ∀ (l : List WireM), ∀ v ∈ flatW l, v.oneCell' = true
  | [], v, h => by simp [flatW] at h
  | t :: l, v, h => by
    simp [flatW] at h
    rcases h with rfl | rfl | h
    · rfl
    · rfl
    · exact flatW_one l v h
theorem flatW_set : ∀ (l : List WireM) (k : Nat) (h : k < l.length) (t : WireM), ((flatW l).set (k * 2) (.int .i64 t.a)).set (k * 2 + 1) (.int .i64 t.b) = flatW (l.set k t)
  | [], k, h, t => by simp at h
  | u :: l, 0, h, t => by simp [flatW]
  | u :: l, k + 1, h, t => by
    have := flatW_set l k (by simpa using h) t
    have e : (k + 1) * 2 = k * 2 + 1 + 1 := by omega
    rw [e]
    simp only [flatW, List.set_cons_succ, List.cons.injEq, true_and]
    exact this
theorem flatW_take : ∀ (l : List WireM) (k : Nat), flatW (l.take k) = (flatW l).take (k * 2)
  | [], k => by simp [flatW]
  | t :: l, 0 => by simp [flatW]
  | t :: l, k + 1 => by
    have e : (k + 1) * 2 = k * 2 + 1 + 1 := by omega
    rw [e]; simp [flatW, flatW_take l k]
theorem flatW_drop : ∀ (l : List WireM) (k : Nat), flatW (l.drop k) = (flatW l).drop (k * 2)
  | [], k => by simp [flatW]
  | t :: l, 0 => by simp [flatW]
  | t :: l, k + 1 => by
    have e : (k + 1) * 2 = k * 2 + 1 + 1 := by omega
    rw [e]; simp [flatW, flatW_drop l k]

/-- The one cell holds a slice of wires that reads as l. -/
def WireSIn (cs : List Value) (l : List WireM) (w : World) : Prop := ∃ a cap, cs = [.slice a l.length cap] ∧ l.length ≤ cap ∧ l.length ≤ maxLen ∧ Row w a (flatW l)
def WireSOwn (lo hi : Nat) (cs : List Value) (l : List WireM) (w : World) : Prop :=
  ∃ a cap, cs = [.slice a l.length cap] ∧ w.ownsRow lo 87 2 (.slice a l.length cap) l.length (flatW l) ∧ ∀ k, Value.ownBlock (.slice a l.length cap) = some k → k < hi
theorem own_maxW {s w lo e a n cap xs} (h : World.ownsRow w lo e s (.slice a n cap) n xs) : n ≤ maxLen := by
  rcases h.2 with ⟨hv, hn⟩ | ⟨g, cap', cur, hv, _, _, _, h2, _⟩
  · rw [hn]; unfold maxLen; omega
  · simp at hv; omega
theorem WireSOwn.read {lo hi : Nat} {cs : List Value} {l : List WireM} {w : World} (h : WireSOwn lo hi cs l w) : WireSIn cs l w := by
  obtain ⟨a, cap, rfl, ho, _⟩ := h
  exact ⟨a, cap, rfl, own_cap ho, own_maxW ho, Row.of_own ho⟩
theorem WireSOwn.lies {lo hi : Nat} {cs : List Value} {l : List WireM} {w : World} (h : WireSOwn lo hi cs l w) (ht : hi ≤ w.heap.size) : Lies w lo hi (WireSOwn lo hi cs l) := by
  refine ⟨h, ht, fun w2 e => ?_⟩
  obtain ⟨a, cap, rfl, ho, hh⟩ := h
  exact ⟨a, cap, rfl, own_sup ho hh e, hh⟩
theorem WireSIn.lies {cs : List Value} {l : List WireM} {w : World} (h : WireSIn cs l w) : Lies w 0 w.heap.size (WireSIn cs l) := by
  obtain ⟨a, cap, rfl, h1, h2, hr⟩ := h
  exact ⟨⟨a, cap, rfl, h1, h2, hr⟩, Nat.le_refl _, fun w2 e => ⟨a, cap, rfl, h1, h2, (lies_row hr).sup w2 e⟩⟩
theorem WireSIn.below {cs : List Value} {l : List WireM} {w w' : World} (h : WireSIn cs l w) (hb : Below w.heap.size w w') : WireSIn cs l w' := (h.lies.below hb).now
theorem WireSOwn.wide {lo hi lo' hi' : Nat} {cs : List Value} {l : List WireM} {w : World} (h : WireSOwn lo hi cs l w) (h1 : lo' ≤ lo) (h2 : hi ≤ hi') : WireSOwn lo' hi' cs l w := by
  obtain ⟨a, cap, rfl, ho, hh⟩ := h
  exact ⟨a, cap, rfl, own_base ho h1, fun k hk => Nat.lt_of_lt_of_le (hh k hk) h2⟩
theorem WireSOwn.mk {lo n cap : Nat} {a : Option Addr} {l : List WireM} {w : World} (h : w.ownsRow lo 87 2 (.slice a n cap) n (flatW l)) : WireSOwn lo w.heap.size [.slice a n cap] l w := by
  have hn : l.length = n := by have := h.1; rw [flatW_len] at this; omega
  subst hn
  exact ⟨a, cap, rfl, h, own_top h⟩
theorem WireSOwn.shape {lo hi : Nat} {c : Value} {l : List WireM} {w : World} (h : WireSOwn lo hi [c] l w) : ∃ a n cap, c = .slice a n cap := by
  obtain ⟨a, cap, hc, _⟩ := h
  simp at hc
  exact ⟨a, _, cap, hc⟩
theorem wireSIn_shape {c : Value} {l : List WireM} {w : World} (h : WireSIn [c] l w) : ∃ a cap, c = .slice a l.length cap ∧ l.length ≤ cap ∧ l.length ≤ maxLen ∧ Row w a (flatW l) := by
  obtain ⟨a, cap, hc, h1, h2, h3⟩ := h
  simp at hc
  exact ⟨a, cap, hc, h1, h2, h3⟩
theorem WireSOwn.nil (lo hi c : Nat) (w : World) : WireSOwn lo hi [.slice none 0 0] [] w := ⟨none, 0, rfl, ⟨rfl, .inl ⟨rfl, rfl⟩⟩, fun k hk => by simp [Value.ownBlock] at hk⟩
def szWireS (l : List WireM) : Nat := l.length
/-- The marks k, k+1, .. of n wires. -/
def marksW : Nat → Nat → List WireM
  | _, 0 => []
  | k, n + 1 => ⟨(k : Int), ((k + 1 : Nat) : Int)⟩ :: marksW (k + 2) n
theorem marksW_length : ∀ k n, (marksW k n).length = n
  | _, 0 => rfl
  | k, n + 1 => by simp [marksW, marksW_length]
theorem marksW_at : ∀ (k n j : Nat) (h : j < (marksW k n).length), (marksW k n)[j] = ⟨((k + j * 2 : Nat) : Int), ((k + j * 2 + 1 : Nat) : Int)⟩
  | k, 0, j, h => by simp [marksW] at h
  | k, n + 1, 0, h => by simp [marksW]
  | k, n + 1, j + 1, h => by
    simp only [marksW, List.getElem_cons_succ]
    rw [marksW_at (k + 2) n j]
    congr 2 <;> omega
theorem Try.infoWire : (Try.prog.info? 87).map (fun i => (i.zero, i.size, i.bytes)) = some (some (.agg #[.int .i64 0, .int .i64 0]), 2, 16) := by kernel_rfl
set_option maxHeartbeats 400000 in
theorem lawsSzWireS (a : Option Addr) (n cap : Nat) (left : Int) (w : World) (hn : n ≤ maxLen) (h0 : 0 ≤ left) (h1 : left ≤ 1048576) :
    Calls Try.prog 64 #[.slice a n cap, .int .i64 left] w fun e w' => e = .returned (.int .i64 (szI left n)) ∧ w = w' := by
  unfold maxLen at hn
  by_cases h : left - (n : Int) < 0
  · have H := Lib.hid (szI_no h)
    go_enter Try.func64, Try.ntmps64
    go_wp2
    go_ret
    exact ⟨ret_int H.out.symm, rfl⟩
  · have H := Lib.hid (szI_yes h)
    go_enter Try.func64, Try.ntmps64
    go_wp2
    go_ret
    exact ⟨ret_int H.out.symm, rfl⟩
/-- The first k taken over, zeros behind. -/
def copyW (l : List WireM) (k : Nat) : List WireM := l.take k ++ List.replicate (l.length - k) ⟨0, 0⟩
theorem copyW_length (l : List WireM) (k : Nat) (h : k ≤ l.length) : (copyW l k).length = l.length := by unfold copyW; simp; omega
theorem copyW_zero (l : List WireM) : copyW l 0 = List.replicate l.length ⟨0, 0⟩ := by simp [copyW]
theorem copyW_set (l : List WireM) (k : Nat) (h : k < l.length) : (copyW l k).set k l[k] = copyW l (k + 1) := by
  unfold copyW
  rw [List.take_succ_eq_append_getElem h, List.set_append_right _ _ (by simp; omega)]
  obtain ⟨m, hm⟩ : ∃ m, l.length - k = m + 1 := ⟨l.length - k - 1, by omega⟩
  rw [hm, show l.length - (k + 1) = m from by omega, List.replicate_succ]
  rw [show k - (l.take k).length = 0 from by simp; omega]
  rw [List.set_cons_zero, List.append_assoc]; rfl
theorem copyW_done (l : List WireM) : copyW l l.length = l := by unfold copyW; simp
theorem made_wire (n : Nat) : (madeCells #[.int .i64 0, .int .i64 0] (n * 2)).toList = flatW (List.replicate n ⟨0, 0⟩) := by
  apply List.ext_getElem?
  intro j
  by_cases hj : j < n * 2
  · have hk : j / 2 < (List.replicate n (⟨0, 0⟩ : WireM)).length := by simp; omega
    obtain ⟨h0, h1⟩ := flatW_at (List.replicate n ⟨0, 0⟩) (j / 2) hk
    have hm : j % 2 = 0 ∨ j % 2 = 1 := by omega
    rcases hm with h | h
    · rw [show j / 2 * 2 = j from by omega] at h0
      rw [h0]; simp [madeCells, hj, h]
    · rw [show j / 2 * 2 + 1 = j from by omega] at h1
      rw [h1]; simp [madeCells, hj, h]
  · rw [List.getElem?_eq_none (by simp [madeCells]; omega), List.getElem?_eq_none (by rw [flatW_len]; simp; omega)]
set_option maxHeartbeats 400000 in
theorem lawsToWire (x y : Int) (w : World) :
    Calls Try.prog 88 #[.agg #[.int .i64 x, .int .i64 y]] w fun e w' => e = .returned (.agg #[.int .i64 x, .int .i64 y]) ∧ Below w.heap.size w w' := by
  go_enter Try.func88, Try.ntmps88
  go_wp2
  exact bodyPost_ret (v := .agg #[.int .i64 x, .int .i64 y]) (by simp [results, Try.results88, go_sem]) rfl ⟨rfl, (((Below.refl _ _).alloc (Nat.le_refl _) _).alloc (by simp) _).alloc (by simp; omega) _⟩
/-- The two cells of a wire in a row. -/
theorem Row.wire {w : World} {a : Option Addr} {l : List WireM} (h : Row w a (flatW l)) {k : Nat} (hk : k < l.length) : ∃ b off, a = some ⟨b, off, none⟩ ∧ w.cell? ⟨b, off + k * 2, none⟩ = some (.int .i64 l[k].a) ∧ w.cell? ⟨b, off + k * 2 + 1, none⟩ = some (.int .i64 l[k].b) := by
  have hl := flatW_len l
  obtain ⟨e0, e1⟩ := flatW_at l k hk
  rcases h with h | ⟨b, off, rfl, hc⟩
  · rw [h] at hl; simp at hl; omega
  · exact ⟨b, off, rfl, (hc _ (by omega)).trans e0, (hc (k * 2 + 1) (by omega)).trans e1⟩
/-- A wire stored into an owned row, cell by cell. -/
theorem own_wire {w : World} {base g n cap k : Nat} {e : TypeId} {l : List WireM} (h : w.ownsRow base e 2 (.slice (some ⟨g, 0, none⟩) n cap) n (flatW l)) (hk : k < l.length) (t : WireM) :
    ((w.setCell ⟨g, k * 2, none⟩ (.int .i64 t.a)).setCell ⟨g, k * 2 + 1, none⟩ (.int .i64 t.b)).ownsRow base e 2 (.slice (some ⟨g, 0, none⟩) n cap) n (flatW (l.set k t)) ∧
    w.grownBy ((w.setCell ⟨g, k * 2, none⟩ (.int .i64 t.a)).setCell ⟨g, k * 2 + 1, none⟩ (.int .i64 t.b)) (some g) := by
  obtain ⟨h1, g1⟩ := h.stored (k * 2) (.int .i64 t.a)
  obtain ⟨h2, g2⟩ := h1.stored (k * 2 + 1) (.int .i64 t.b)
  rw [flatW_set l k hk t] at h2
  exact ⟨h2, grown_trans g1 g2⟩
set_option maxHeartbeats 1000000 in
theorem lawsToWireS (a : Option Addr) (cap : Nat) (l : List WireM) (w : World) (hl : l.length ≤ 1048576) (r : Row w a (flatW l)) :
    Calls Try.prog 67 #[.slice a l.length cap] w fun e w' => e = .returned (.slice (some ⟨w.heap.size, 0, none⟩) l.length l.length) ∧
      w'.ownsRow w.heap.size 87 2 (.slice (some ⟨w.heap.size, 0, none⟩) l.length l.length) l.length (flatW l) ∧ Below w.heap.size w w' := by
  have R := Lib.hid r
  clear r
  obtain ⟨i0, hi, hz0, hz1, hz2⟩ := info_parts Try.infoWire
  go_enter Try.func67, Try.ntmps67
  go_wp2_with (at_make; refine wpList_make_full _ rfl _ _ 34 rfl w.heap.size 87 i0 _ 2 Try.underlying34 hi hz0 hz1 .i64 .i64 _ _ l.length rfl rfl rfl rfl (by rw [hz2]; omega) (by unfold maxLen; omega) (Nat.le_refl _) ?_)
  clear hi hz0 hz1 hz2
  intro w1 hown hgr
  have hb1 : Below w.heap.size w w1 := grown_below hgr
  have hown' : w1.ownsRow w.heap.size 87 2 (.slice (some ⟨w.heap.size, 0, none⟩) l.length l.length) l.length (flatW (copyW l 0)) := by
    rw [copyW_zero, ← made_wire]; exact hown
  clear hgr hown
  go_wp2
  go_loopw [4] (fun i wr => ∃ k : Nat, k ≤ l.length ∧ i = .int .i64 k ∧ wr.ownsRow w.heap.size 87 2 (.slice (some ⟨w.heap.size, 0, none⟩) l.length l.length) l.length (flatW (copyW l k)) ∧ Below w.heap.size w wr) (fun i _ => l.length - (intOf i).toNat)
  case atStart => exact ⟨0, Nat.zero_le _, rfl, hown', hb1⟩
  case round =>
    clear hown' hb1
    obtain ⟨k, hk, rfl, hown, hb⟩ := hrel
    by_cases hlt : k < l.length
    · obtain ⟨b1, o1, rfl, q0, q1⟩ := (R.out.below hb).wire hlt
      have hcl := copyW_length l k hk
      have G := Lib.hid (copyW_set l k hlt)
      have OW := Lib.hid hown
      have B := Lib.hid hb
      clear hown hb
      generalize hx : l[k].a = x at *
      generalize hy : l[k].b = y at *
      go_wp2_with fail
      refine (lawsToWire x y _).mono ?_
      rintro e w2 ⟨rfl, hb2⟩
      have own2 := own_below OW.out hb2
      have f0 := own2.frozenAt (k * 2)
      have f1 := own2.frozenAt (k * 2 + 1)
      have B2 := Lib.hid (below_seq B.out hb2)
      obtain ⟨u0, u1⟩ := flatW_at (copyW l k) k (by omega)
      have c0 := (own2.cellAt (k * 2) (by omega)).trans u0
      have c1 := (own2.cellAt (k * 2 + 1) (by omega)).trans u1
      generalize (copyW l k)[k].a = p0 at *
      generalize (copyW l k)[k].b = p1 at *
      have X := Lib.hid (own_wire (k := k) own2 (by omega) ⟨x, y⟩)
      clear own2 u0 u1 hb2 q0 q1
      go_wp2
      go_roundw
      case rel => exact ⟨k + 1, by omega, by go_num, by have h := X.out.1; rw [← hx, ← hy] at h; rw [← hx, ← hy, ← G.out]; exact h, B2.out.grown X.out.2 B2.out.size (fun i hi => by cases hi; exact Nat.le_refl _)⟩
      case measure => simp [intOf]; omega
    · have hk' : k = l.length := by omega
      subst hk'
      rw [copyW_done] at hown
      have R2 := Lib.hid (And.intro hown hb)
      clear hown hb
      go_wp2
      go_ret
      exact ⟨rfl, R2.out.1, R2.out.2⟩
set_option maxHeartbeats 400000 in
theorem lawsEqWire (x y : Int) (w : World) :
    Calls Try.prog 89 #[.agg #[.int .i64 x, .int .i64 y], .agg #[.int .i64 x, .int .i64 y]] w (TruePost w) := by
  go_enter Try.func89, Try.ntmps89
  go_wp2
  go_ret
  exact ⟨rfl, ((Below.refl _ _).alloc (Nat.le_refl _) _).alloc (by simp) _⟩
set_option maxHeartbeats 1000000 in
theorem lawsEqWireS (a1 a2 : Option Addr) (c1 c2 : Nat) (l : List WireM) (w : World) (h1 : l.length ≤ maxLen) (r1 : Row w a1 (flatW l)) (r2 : Row w a2 (flatW l)) :
    Calls Try.prog 68 #[.slice a1 l.length c1, .slice a2 l.length c2] w (TruePost w) := by
  unfold maxLen at h1
  have R1 := Lib.hid r1
  have R2 := Lib.hid r2
  clear r1 r2
  go_enter Try.func68, Try.ntmps68
  go_wp2
  go_loopw [5] (fun i wr => ∃ k : Nat, k ≤ l.length ∧ i = .int .i64 k ∧ Below w.heap.size w wr) (fun i _ => l.length - (intOf i).toNat)
  case atStart => exact ⟨0, Nat.zero_le _, rfl, Below.refl _ _⟩
  case round =>
    obtain ⟨k, hk, rfl, hb⟩ := hrel
    by_cases hlt : k < l.length
    · obtain ⟨b1, o1, rfl, q0, q1⟩ := (R1.out.below hb).wire hlt
      obtain ⟨b2, o2, rfl, p0, p1⟩ := (R2.out.below hb).wire hlt
      have B := Lib.hid hb
      clear hb
      generalize l[k].a = x at *
      generalize l[k].b = y at *
      go_wp2_with fail
      replace B := Lib.hid (below_drew B.out)
      go_region_held3 (fun w' => w'.cell? ⟨b1, o1 + k * 2, none⟩ = some (.int .i64 x) ∧ w'.cell? ⟨b1, o1 + k * 2 + 1, none⟩ = some (.int .i64 y) ∧ w'.cell? ⟨b2, o2 + k * 2, none⟩ = some (.int .i64 x) ∧ w'.cell? ⟨b2, o2 + k * 2 + 1, none⟩ = some (.int .i64 y))
        (first | go_keep | exact C2.out)
        ((go_at_call 89; refine (lawsEqWire x y _).mono ?_; rintro e w2 ⟨rfl, hb2⟩; have C2 := Lib.hid (And.intro (cell_keep (w := wr.drew) q0 hb2) (And.intro (cell_keep (w := wr.drew) q1 hb2) (And.intro (cell_keep (w := wr.drew) p0 hb2) (cell_keep (w := wr.drew) p1 hb2)))); replace B := Lib.hid (below_seq B.out hb2); clear hb2))
      clear q0 q1 p0 p1
      go_wp2
      go_roundw
      case rel => exact ⟨k + 1, by omega, by go_num, B.out⟩
      case measure => simp [intOf]; omega
    · have B := Lib.hid hb
      clear hb
      go_wp2
      go_ret
      exact ⟨rfl, B.out⟩
def markW (k j : Nat) (l : List WireM) : List WireM := marksW k j ++ l.drop j
theorem marksW_succ : ∀ k j, marksW k (j + 1) = marksW k j ++ [⟨((k + j * 2 : Nat) : Int), ((k + j * 2 + 1 : Nat) : Int)⟩]
  | k, 0 => by simp [marksW]
  | k, j + 1 => by
    rw [marksW, marksW_succ (k + 2) j]
    conv => rhs; rw [marksW]
    rw [show k + 2 + j * 2 = k + (j + 1) * 2 from by omega]
    rfl
theorem markW_zero (k : Nat) (l : List WireM) : markW k 0 l = l := by simp [markW, marksW]
theorem markW_length (k j : Nat) (l : List WireM) (h : j ≤ l.length) : (markW k j l).length = l.length := by simp [markW, marksW_length]; omega
theorem markW_done (k : Nat) (l : List WireM) : markW k l.length l = marksW k l.length := by simp [markW]
theorem markW_set (k j : Nat) (l : List WireM) (h : j < l.length) : (markW k j l).set j ⟨((k + j * 2 : Nat) : Int), ((k + j * 2 + 1 : Nat) : Int)⟩ = markW k (j + 1) l := by
  unfold markW
  rw [marksW_succ, List.set_append_right _ _ (by rw [marksW_length]; omega)]
  rw [show j - (marksW k j).length = 0 from by rw [marksW_length]; omega, List.drop_eq_getElem_cons h, List.set_cons_zero]
  simp
set_option maxHeartbeats 1000000 in
theorem lawsMarkWireS (base g n cap k : Nat) (l : List WireM) (w : World) (hn : l.length = n) (hk : k + n * 2 ≤ 4611686018427387904) (hown : w.ownsRow base 87 2 (.slice (some ⟨g, 0, none⟩) n cap) n (flatW l)) :
    Calls Try.prog 69 #[.slice (some ⟨g, 0, none⟩) n cap, .int .i64 k] w fun e w' => e = .returned (.int .i64 ((k + n * 2 : Nat) : Int)) ∧ w'.ownsRow base 87 2 (.slice (some ⟨g, 0, none⟩) n cap) n (flatW (marksW k n)) ∧ w.grownBy w' (some g) := by
  subst hn
  have H0 := Lib.hid hown
  clear hown
  go_enter Try.func69, Try.ntmps69
  go_wp2
  go_loopw [1, 5] (fun kv i wr => ∃ j : Nat, j ≤ l.length ∧ kv = .int .i64 ((k + j * 2 : Nat) : Int) ∧ i = .int .i64 j ∧ wr.ownsRow base 87 2 (.slice (some ⟨g, 0, none⟩) l.length cap) l.length (flatW (markW k j l)) ∧ w.grownBy wr (some g)) (fun _ i _ => l.length - (intOf i).toNat)
  case atStart => exact ⟨0, Nat.zero_le _, rfl, rfl, by rw [markW_zero]; exact H0.out, World.grownBy.refl _ _⟩
  case round =>
    obtain ⟨j, hj, rfl, rfl, hown, hg⟩ := hrel
    by_cases hlt : j < l.length
    · have hml := markW_length k j l hj
      have f0 := hown.frozenAt (j * 2)
      have f1 := hown.frozenAt (j * 2 + 1)
      obtain ⟨u0, u1⟩ := flatW_at (markW k j l) j (by omega)
      have c0 := (hown.cellAt (j * 2) (by omega)).trans u0
      have c1 := (hown.cellAt (j * 2 + 1) (by omega)).trans u1
      have X := Lib.hid (own_wire hown (by omega : j < (markW k j l).length) ⟨((k + j * 2 : Nat) : Int), ((k + j * 2 + 1 : Nat) : Int)⟩)
      have M := Lib.hid (markW_set k j l hlt)
      have HG := Lib.hid hg
      generalize (markW k j l)[j].a = p0 at *
      generalize (markW k j l)[j].b = p1 at *
      clear hown u0 u1 hg
      go_wp2
      go_roundw
      case rel =>
        have h1 := X.out.1
        have h2 := X.out.2
        rw [M.out] at h1
        refine ⟨j + 1, by omega, by go_num, by go_num, ?_, ?_⟩
        · simpa using h1
        · exact grown_trans HG.out (by simpa using h2)
      case measure => simp [intOf]; omega
    · have hj' : j = l.length := by omega
      subst hj'
      rw [markW_done] at hown
      have R := Lib.hid (And.intro hown hg)
      clear hown hg
      go_wp2
      go_ret
      exact ⟨rfl, R.out.1, R.out.2⟩
set_option maxHeartbeats 400000 in
theorem lawsMarkWireNil (c k : Nat) (w : World) (hk : k ≤ 4611686018427387904) :
    Calls Try.prog 69 #[.slice none 0 c, .int .i64 k] w fun e w' => e = .returned (.int .i64 k) ∧ w = w' := by
  go_enter Try.func69, Try.ntmps69
  go_wp2
  go_loop [1, 5] (fun kv i => kv = .int .i64 k ∧ i = .int .i64 0) (fun _ _ => 0)
  case atStart => exact ⟨rfl, rfl⟩
  case round =>
    obtain ⟨rfl, rfl⟩ := hrel
    go_wp2
    go_ret
    exact ⟨rfl, rfl⟩
theorem uMarkWireSG (lo hi k : Nat) (c : Value) (l : List WireM) (w : World) (hk : k + l.length * 2 ≤ 4611686018427387904) (h : WireSOwn lo hi [c] l w) :
    Calls Try.prog 69 #[c, .int .i64 k] w (MarkPost (WireSOwn lo hi [c] (marksW k l.length)) lo hi (k + l.length * 2) w) := by
  obtain ⟨a, cap, hc, ho, hh⟩ := h
  simp at hc
  subst hc
  rcases ho.2 with ⟨hv, hn⟩ | ⟨g, cap', cur, hv, _⟩
  · simp at hv
    obtain ⟨rfl, hl, rfl⟩ := hv
    rw [hl]
    refine (lawsMarkWireNil 0 k w (by omega)).mono ?_
    rintro e w' ⟨rfl, rfl⟩
    exact ⟨_, rfl, by simp, ⟨none, 0, rfl, ⟨rfl, .inl ⟨rfl, rfl⟩⟩, fun k hk => by simp [Value.ownBlock] at hk⟩, Chg.refl _ _ _⟩
  · simp at hv
    obtain ⟨rfl, rfl⟩ := hv
    refine (lawsMarkWireS lo g l.length cap k l w rfl hk ho).mono ?_
    rintro e w' ⟨rfl, h1, h2⟩
    exact ⟨_, rfl, rfl, ⟨_, cap, by rw [marksW_length], by rw [marksW_length]; exact h1, by rw [marksW_length]; exact hh⟩, Chg.of_grown h2 (fun i hi => ⟨(ho.lt i hi).1, hh i hi⟩)⟩
def i64W (z : Int) : Prop := -9223372036854775808 ≤ z ∧ z ≤ 9223372036854775807
def wbd (t : WireM) : Prop := i64W t.a ∧ i64W t.b
theorem cells?_two {w : World} {base : Nat} {a : Addr} {v0 v1 : Value} (h : w.cells? base a 2 = some [v0, v1]) : w.cell? (a.add 0) = some v0 ∧ w.cell? (a.add 1) = some v1 := by
  unfold World.cells? at h
  split at h
  · simp [List.range, List.range.loop, bind, Option.bind] at h
    split at h
    · cases h
    · rename_i x0 e0
      split at h
      · cases h
      · rename_i x1 e1
        simp at h
        obtain ⟨rfl, rfl⟩ := h
        exact ⟨e0, e1⟩
  · cases h
theorem Rd.wireS {w : World} {c : Value} (h : Rd w 48 [c]) : ∃ l, WireSIn [c] l w ∧ ∀ t ∈ l, wbd t := by
  have hC : Try.prog.cellsOf 121 = 2 := by kernel_rfl
  have hC1 : Try.prog.cellsOf 3 = 1 := by kernel_rfl
  rcases h.slice Try.underlying48 with h | ⟨a, len, cap, h, hl, hm, hi⟩
  · simp at h
    subst h
    exact ⟨[], ⟨none, 0, rfl, Nat.le_refl _, by unfold maxLen; simp, .inl rfl⟩, fun t h => by simp at h⟩
  · simp at h
    subst h
    have key : ∀ i, i < len → ∃ t : WireM, w.cell? ((a.add (i * 2)).add 0) = some (.int .i64 t.a) ∧ w.cell? ((a.add (i * 2)).add 1) = some (.int .i64 t.b) ∧ wbd t := fun i hlt => by
      obtain ⟨cs', h1, h2⟩ := hi i (by omega)
      rw [hC] at h1
      obtain ⟨hcl, _⟩ := h2.struct Try.underlying121
      rw [hC] at hcl
      match cs', hcl with
      | [v0, v1], _ =>
        have f0 := h2.field Try.underlying121 0 _ 3 1 [v0] rfl rfl hC1 rfl
        have f1 := h2.field Try.underlying121 1 _ 3 1 [v1] rfl rfl hC1 rfl
        obtain ⟨z0, e0, y0⟩ := f0.int Try.underlying3
        obtain ⟨z1, e1, y1⟩ := f1.int Try.underlying3
        simp at e0 e1
        subst e0 e1
        obtain ⟨q0, q1⟩ := cells?_two h1
        exact ⟨⟨z0, z1⟩, q0, q1, wf_i64 y0, wf_i64 y1⟩
    obtain ⟨V, hV⟩ := choose_lt key
    refine ⟨(List.range len).map V, ⟨some a, cap, by simp, by simpa using hl, by simp; omega, ?_⟩, fun t ht => by
      obtain ⟨i, hi, rfl⟩ := List.mem_map.1 ht
      exact (hV i (by simpa using hi)).2.2⟩
    by_cases h0 : len = 0
    · subst h0; exact .inl rfl
    · obtain ⟨b, off, spot⟩ := a
      have hspot : spot = none := by simpa [Addr.add] using World.cell?_spot (hV 0 (by omega)).1
      subst hspot
      have e1 : ∀ o k, (⟨b, o, none⟩ : Addr).add k = ⟨b, o + k, none⟩ := fun o k => by unfold Addr.add; split <;> simp_all
      have ea : ∀ i j, ((⟨b, off, none⟩ : Addr).add i).add j = ⟨b, off + (i + j), none⟩ := fun i j => by rw [e1, e1, Nat.add_assoc]
      refine .inr ⟨b, off, rfl, fun j hj => ?_⟩
      rw [flatW_len] at hj
      simp at hj
      have hk : j / 2 < ((List.range len).map V).length := by simp; omega
      obtain ⟨g0, g1⟩ := flatW_at ((List.range len).map V) (j / 2) hk
      obtain ⟨q0, q1, _⟩ := hV (j / 2) (by omega)
      rw [ea] at q0 q1
      have ev : ((List.range len).map V)[j / 2] = V (j / 2) := by simp
      rw [ev] at g0 g1
      have hm3 : j % 2 = 0 ∨ j % 2 = 1 := by omega
      rcases hm3 with h | h
      · rw [show j / 2 * 2 = j from by omega] at g0; rw [show j / 2 * 2 + 0 = j from by omega] at q0; rw [q0, g0]
      · rw [show j / 2 * 2 + 1 = j from by omega] at q1 g1; rw [q1, g1]
theorem uEqWireS (c d : Value) (l : List WireM) (w : World) (h : WireSIn [c] l w) (k : WireSIn [d] l w) : Calls Try.prog 68 #[c, d] w (TruePost w) := by
  obtain ⟨a, cap, rfl, _, h2, h3⟩ := wireSIn_shape h
  obtain ⟨a', cap', rfl, _, _, k3⟩ := wireSIn_shape k
  exact lawsEqWireS a a' cap cap' l w h2 h3 k3
end Go.Proofs.Ytaedamnhobcdlaa
end

section
namespace Go.Proofs.Ytaedamnhobcdlaa
open Go.RowKit
set_option linter.unusedVariables false
set_option maxRecDepth 100000

structure NetM where
  n : Int
  ws : List WireM
deriving DecidableEq, Inhabited
def NetIn (cs : List Value) (m : NetM) (w : World) : Prop := ∃ c1, cs = [.int .i64 m.n, c1] ∧ WireSIn [c1] m.ws w
def NetOwn (lo hi : Nat) (cs : List Value) (m : NetM) (w : World) : Prop := ∃ c1, cs = [.int .i64 m.n, c1] ∧ WireSOwn lo hi [c1] m.ws w
theorem NetOwn.read {lo hi : Nat} {cs : List Value} {m : NetM} {w : World} (h : NetOwn lo hi cs m w) : NetIn cs m w := by
  obtain ⟨c1, rfl, h1⟩ := h
  exact ⟨c1, rfl, h1.read⟩
theorem NetOwn.lies {lo hi : Nat} {cs : List Value} {m : NetM} {w : World} (h : NetOwn lo hi cs m w) (ht : hi ≤ w.heap.size) : Lies w lo hi (NetOwn lo hi cs m) := by
  obtain ⟨c1, rfl, h1⟩ := h
  exact ⟨⟨c1, rfl, h1⟩, ht, fun w2 e => ⟨c1, rfl, (h1.lies ht).sup w2 e⟩⟩
theorem NetOwn.wide {lo hi lo' hi' : Nat} {cs : List Value} {m : NetM} {w : World} (h : NetOwn lo hi cs m w) (h1 : lo' ≤ lo) (h2 : hi ≤ hi') : NetOwn lo' hi' cs m w := by
  obtain ⟨c1, rfl, k1⟩ := h
  exact ⟨c1, rfl, k1.wide h1 h2⟩
theorem NetIn.lies {cs : List Value} {m : NetM} {w : World} (h : NetIn cs m w) : Lies w 0 w.heap.size (NetIn cs m) := by
  obtain ⟨c1, rfl, h1⟩ := h
  exact ⟨⟨c1, rfl, h1⟩, Nat.le_refl _, fun w2 e => ⟨c1, rfl, h1.lies.sup w2 e⟩⟩
theorem NetIn.below {cs : List Value} {m : NetM} {w w' : World} (h : NetIn cs m w) (hb : Below w.heap.size w w') : NetIn cs m w' := (h.lies.below hb).now
theorem NetOwn.shape {lo hi : Nat} {c0 c1 : Value} {m : NetM} {w : World} (h : NetOwn lo hi [c0, c1] m w) : ∃ z a1 n1 k1, c0 = .int .i64 z ∧ c1 = .slice a1 n1 k1 := by
  obtain ⟨d1, hc, h1⟩ := h
  simp at hc
  obtain ⟨rfl, rfl⟩ := hc
  obtain ⟨a1, n1, k1, e1⟩ := h1.shape
  exact ⟨_, _, _, _, rfl, e1⟩
theorem netIn_shape {c0 c1 : Value} {m : NetM} {w : World} (h : NetIn [c0, c1] m w) : c0 = .int .i64 m.n ∧ WireSIn [c1] m.ws w := by
  obtain ⟨d1, hc, h1⟩ := h
  simp at hc
  obtain ⟨rfl, rfl⟩ := hc
  exact ⟨rfl, h1⟩
theorem netOwn_parts {lo hi : Nat} {c0 c1 : Value} {m : NetM} {w : World} (h : NetOwn lo hi [c0, c1] m w) : c0 = .int .i64 m.n ∧ WireSOwn lo hi [c1] m.ws w := by
  obtain ⟨d1, hc, h1⟩ := h
  simp at hc
  obtain ⟨rfl, rfl⟩ := hc
  exact ⟨rfl, h1⟩
/-- The cells, opened. -/
theorem netIn_cells {c0 c1 : Value} {m : NetM} {w : World} (h : NetIn [c0, c1] m w) : ∃ a1 k1, c0 = .int .i64 m.n ∧ c1 = .slice a1 m.ws.length k1 ∧ m.ws.length ≤ k1 ∧ m.ws.length ≤ maxLen ∧ Row w a1 (flatW m.ws) := by
  obtain ⟨rfl, h1⟩ := netIn_shape h
  obtain ⟨a1, k1, e1, m0, m1, r⟩ := wireSIn_shape h1
  exact ⟨a1, k1, rfl, e1, m0, m1, r⟩
def netBd (m : NetM) : Prop := i64W m.n ∧ ∀ t ∈ m.ws, wbd t
theorem argNet {w : World} {v : Value} (h : Arg w 50 v) : ∃ c0 c1 m, v = .agg #[c0, c1] ∧ NetIn [c0, c1] m w ∧ netBd m := by
  obtain ⟨cs, rfl, hl, hr⟩ := h.agg Try.underlying50
  have hC : Try.prog.cellsOf 50 = 2 := by kernel_rfl
  have hC0 : Try.prog.cellsOf 3 = 1 := by kernel_rfl
  have hC1 : Try.prog.cellsOf 48 = 1 := by kernel_rfl
  rw [hC] at hl
  match cs, hl with
  | [c0, c1], _ =>
    have f0 := hr.field Try.underlying50 0 _ 3 1 [c0] rfl rfl hC0 rfl
    have f1 := hr.field Try.underlying50 1 _ 48 1 [c1] rfl rfl hC1 rfl
    obtain ⟨z, e0, hz⟩ := f0.int Try.underlying3
    obtain ⟨l1, h1, b1⟩ := f1.wireS
    simp at e0
    subst e0
    exact ⟨_, _, ⟨z, l1⟩, rfl, ⟨_, rfl, h1⟩, wf_i64 hz, b1⟩
def szNet (m : NetM) : Nat := m.ws.length
def mcNet (m : NetM) : Nat := m.ws.length * 2
theorem mcNet_le {m : NetM} (h : szNet m ≤ 1048576) : mcNet m ≤ 1000000000000 := by unfold szNet at h; unfold mcNet; omega
def mkNet (k : Nat) (m : NetM) : NetM := ⟨m.n, marksW k m.ws.length⟩
def NetRet (m : NetM) (w : World) (e : Ending) (w' : World) : Prop := ∃ c0 c1, e = .returned (.agg #[c0, c1]) ∧ NetOwn w.heap.size w'.heap.size [c0, c1] m w' ∧ Below w.heap.size w w'
set_option maxHeartbeats 1000000 in
theorem uSzNet (c0 c1 : Value) (m : NetM) (left : Int) (w : World) (h0 : 0 ≤ left) (h1 : left ≤ 1048576) (h : NetIn [c0, c1] m w) :
    Calls Try.prog 34 #[.agg #[c0, c1], .int .i64 left] w fun e w' => e = .returned (.int .i64 (szI left (szNet m))) ∧ Below w.heap.size w w' := by
  obtain ⟨a1, cap1, rfl, rfl, p1, p2, _⟩ := netIn_cells h
  clear h
  have SZ : szNet m = m.ws.length := rfl
  rw [SZ]
  have S1 := Lib.hid (fun w => lawsSzWireS a1 m.ws.length cap1 left w p2 h0 h1)
  by_cases g1 : left - (m.ws.length : Int) < 0
  · rw [szI_no g1] at S1
    have E := Lib.hid (szI_no g1)
    clear SZ g1
    go_enter Try.func34, Try.ntmps34
    go_wp2_with fail
    refine (S1.out _).mono ?_
    rintro e w1 ⟨rfl, rfl⟩
    go_wp2
    go_ret
    exact ⟨ret_int E.out.symm, below_box (Below.refl _ _) _⟩
  · rw [szI_yes g1] at S1
    have E := Lib.hid (szI_yes g1)
    clear SZ
    go_enter Try.func34, Try.ntmps34
    go_wp2_with fail
    refine (S1.out _).mono ?_
    rintro e w1 ⟨rfl, rfl⟩
    go_wp2
    go_ret
    exact ⟨ret_int E.out.symm, below_box (Below.refl _ _) _⟩
set_option maxHeartbeats 1000000 in
theorem uEqNet (c0 c1 d0 d1 : Value) (m : NetM) (w : World) (h : NetIn [c0, c1] m w) (k : NetIn [d0, d1] m w) :
    Calls Try.prog 37 #[.agg #[c0, c1], .agg #[d0, d1]] w (TruePost w) := by
  obtain ⟨_, h1⟩ := netIn_shape h
  obtain ⟨_, k1⟩ := netIn_shape k
  obtain ⟨a1, x1, rfl, rfl, _⟩ := netIn_cells h
  obtain ⟨b1, y1, rfl, rfl, _⟩ := netIn_cells k
  have E1 := Lib.hid (fun w' (hb : Below w.heap.size w w') => uEqWireS _ _ m.ws w' (h1.below hb) (k1.below hb))
  have B2 := Lib.hid (below_box (below_box (Below.refl w.heap.size w) (.cells #[.int .i64 m.n, .slice a1 m.ws.length x1] 36)) (.cells #[.int .i64 m.n, .slice b1 m.ws.length y1] 36))
  clear h k h1 k1
  have hB : (m.n != m.n) = false := by simp
  go_enter Try.func37, Try.ntmps37
  go_wp2_with fail
  refine (E1.out _ B2.out).mono ?_
  rintro e w1 ⟨rfl, hb1⟩
  go_wp2
  go_ret
  exact ⟨rfl, below_seq B2.out hb1⟩
set_option maxHeartbeats 1000000 in
theorem uMarkNet (lo hi k : Nat) (c0 c1 : Value) (m : NetM) (w : World) (hk : k + mcNet m ≤ 4611686018427387904) (ht : hi ≤ w.heap.size) (h : NetOwn lo hi [c0, c1] m w) :
    Calls Try.prog 38 #[.agg #[c0, c1], .int .i64 k] w (MarkPost (NetOwn lo hi [c0, c1] (mkNet k m)) lo hi (k + mcNet m) w) := by
  obtain ⟨_, h1⟩ := netOwn_parts h
  obtain ⟨a1, x1, rfl, rfl, _⟩ := netIn_cells h.read
  unfold mcNet at *
  obtain ⟨w1, hw1⟩ : ∃ w1, w1 = w.alloc (.cells #[.int .i64 m.n, .slice a1 m.ws.length x1] 36) := ⟨_, rfl⟩
  have hb1 : Below w.heap.size w w1 := by rw [hw1]; exact below_box (Below.refl _ _) _
  have L1 := (h1.lies (by omega)).below hb1
  have M1 := Lib.hid (uMarkWireSG lo hi k (.slice a1 m.ws.length x1) m.ws w1 hk L1.now)
  have HB := Lib.hid hb1
  clear h h1 hb1 L1
  go_enter Try.func38, Try.ntmps38
  go_wp2_with fail
  rw [← hw1]
  clear hw1
  refine M1.out.mono ?_
  rintro e w2 ⟨k', rfl, hk', ho1, hc1⟩
  have HK := Lib.hid hk'
  have O1 := Lib.hid ho1
  have C1 := Lib.hid hc1
  clear ho1 hc1 M1 hk'
  go_wp2
  go_ret
  exact ⟨k', rfl, HK.out, ⟨_, rfl, O1.out⟩, (Chg.of_below HB.out).trans C1.out⟩
set_option maxHeartbeats 2000000 in
theorem uToNet (c0 c1 : Value) (m : NetM) (w : World) (hl : szNet m ≤ 1048576) (h : NetIn [c0, c1] m w) : Calls Try.prog 36 #[.agg #[c0, c1]] w (NetRet m w) := by
  obtain ⟨a1, cap1, rfl, rfl, _, _, r⟩ := netIn_cells h
  unfold szNet at hl
  clear h
  obtain ⟨p1, hp1⟩ : ∃ p1, p1 = m.ws.length := ⟨_, rfl⟩
  obtain ⟨w3, hw3⟩ : ∃ w3, w3 = ((w.alloc (.cells #[.int .i64 m.n, .slice a1 p1 cap1] 50)).alloc (.cells #[.int .i64 0, .slice none 0 0] 36)).alloc (.cells #[.int .i64 m.n, .slice none 0 0] 36) := ⟨_, rfl⟩
  have hb : Below w.heap.size w w3 := by rw [hw3]; exact below_box (below_box (below_box (Below.refl _ _) _) _) _
  have s3 : w3.heap.size = w.heap.size + 1 + 1 + 1 := by rw [hw3]; simp
  have kr : w3.heap[w.heap.size + 1]? = some (.cells #[.int .i64 0, .slice none 0 0] 36 (0, 0)) := by rw [hw3]; exact (alloc_old _ _ _ (by simp)).trans (alloc_at _ _ _ (by simp))
  have ko : w3.heap[w.heap.size + 1 + 1]? = some (.cells #[.int .i64 m.n, .slice none 0 0] 36 (0, 0)) := by rw [hw3]; exact alloc_at _ _ _ (by simp)
  have T1 := Lib.hid (lawsToWireS a1 cap1 m.ws w3 (by omega) (r.below hb))
  rw [← hp1] at T1 ⊢
  have H := Lib.hid (And.intro kr (And.intro ko hb))
  have HS3 := Lib.hid s3
  have HP := Lib.hid hp1
  clear hb kr ko r s3 hp1 hl
  go_enter Try.func36, Try.ntmps36
  go_wp2_with fail
  rw [← hw3]
  clear hw3
  refine T1.out.mono ?_
  rintro e w1 ⟨rfl, ho, hb⟩
  have s1 : w.heap.size + 1 + 1 + 1 ≤ w1.heap.size := by have := hb.size; have := HS3.out; omega
  rw [HS3.out] at ho
  have L1 := kept_block H.out.1 hb
  have L2 := kept_block H.out.2.1 hb
  have k1 : w1.cell? ⟨w.heap.size + 1 + 1, 1, none⟩ = some (.slice none 0 0) := cur_cell L2 1
  have k0 : w1.cell? ⟨w.heap.size + 1 + 1, 0, none⟩ = some (.int .i64 m.n) := cur_cell L2 0
  have i0 : w1.cell? ⟨w.heap.size + 1, 0, none⟩ = some (.int .i64 0) := cur_cell L1 0
  have i1 : w1.cell? ⟨w.heap.size + 1, 1, none⟩ = some (.slice none 0 0) := cur_cell L1 1
  have f1 := cur_free L2 1
  have g0 := cur_free L1 0
  have g1 := cur_free L1 1
  have OT := Lib.hid ((WireSOwn.mk ho).lies (Nat.le_refl _))
  have B1 := Lib.hid (below_seq H.out.2.2 hb)
  rw [HS3.out]
  clear ho hb T1 L1 L2 H HS3 HP
  go_wp2
  have ag : ∀ k, w.heap.size + 1 + 1 + 1 ≤ k → (((w1.setCell ⟨w.heap.size + 1 + 1, 1, none⟩ (.slice (some ⟨w.heap.size + 1 + 1 + 1, 0, none⟩) p1 p1)).setCell ⟨w.heap.size + 1, 0, none⟩ (.int .i64 m.n)).setCell ⟨w.heap.size + 1, 1, none⟩ (.slice (some ⟨w.heap.size + 1 + 1 + 1, 0, none⟩) p1 p1)).heap[k]? = w1.heap[k]? := fun k hk =>
    (Below.heap_setCell _ _ _ k (by simp; omega)).trans ((Below.heap_setCell _ _ _ k (by simp; omega)).trans (Below.heap_setCell _ _ _ k (by simp; omega)))
  exact bodyPost_ret (v := .agg #[.int .i64 m.n, .slice (some ⟨w.heap.size + 1 + 1 + 1, 0, none⟩) p1 p1]) (by simp [results, Try.results36, go_sem, i0, i1]) rfl
    ⟨_, _, rfl, ⟨_, rfl, (OT.out.sup _ (fun k h1 h2 => ag k h1)).wide (by omega) (by simp)⟩,
      ((B1.out.setCell (p := ⟨w.heap.size + 1 + 1, 1, none⟩) (by simp; omega) _).setCell (p := ⟨w.heap.size + 1, 0, none⟩) (by simp) _).setCell (p := ⟨w.heap.size + 1, 1, none⟩) (by simp) _⟩
end Go.Proofs.Ytaedamnhobcdlaa
end

section
namespace Go.Proofs.Ytaedamnhobcdlaa
set_option linter.unusedVariables false

def wireB (n : Int) (t : WireM) : Bool := decide (0 ≤ t.a) && (decide (t.a < t.b) && decide (t.b < n))
def netOkB (m : NetM) : Bool := (decide (1 ≤ m.n) && decide (m.n ≤ 64)) && (decide (m.ws.length ≤ 2100) && m.ws.all (wireB m.n))
theorem netOkB_size {m : NetM} (h : ¬ (1 ≤ m.n ∧ m.n ≤ 64)) : netOkB m = false := by
  unfold netOkB
  by_cases h1 : 1 ≤ m.n
  · by_cases h2 : m.n ≤ 64
    · exact absurd ⟨h1, h2⟩ h
    · simp [h2]
  · simp [h1]
theorem netOkB_long {m : NetM} (h : 2100 < m.ws.length) : netOkB m = false := by
  unfold netOkB
  have : ¬ m.ws.length ≤ 2100 := by omega
  simp [this]
theorem netOkB_bad {m : NetM} {k : Nat} (hk : k < m.ws.length) (h : wireB m.n m.ws[k] = false) : netOkB m = false := by
  have : m.ws.all (wireB m.n) = false := by
    rw [List.all_eq_false]
    exact ⟨_, List.getElem_mem hk, by simp [h]⟩
  unfold netOkB
  simp [this]
theorem netOkB_all {m : NetM} (h1 : 1 ≤ m.n) (h2 : m.n ≤ 64) (h3 : m.ws.length ≤ 2100) (h4 : ∀ (j : Nat) (hj : j < m.ws.length), wireB m.n m.ws[j] = true) : netOkB m = true := by
  have : m.ws.all (wireB m.n) = true := by
    rw [List.all_eq_true]
    intro t ht
    obtain ⟨j, hj, rfl⟩ := List.mem_iff_getElem.1 ht
    exact h4 j hj
  unfold netOkB
  simp [h1, h2, h3]
  simpa using this
/-- A wire between two of n places. -/
def WireOk (n : Nat) (t : WireM) : Prop := ∃ p q : Nat, t.a = p ∧ t.b = q ∧ p < q ∧ q < n
theorem netOkB_ok {m : NetM} (h : netOkB m = true) : ∃ n : Nat, m.n = n ∧ 1 ≤ n ∧ n ≤ 64 ∧ m.ws.length ≤ 2100 ∧ ∀ t ∈ m.ws, WireOk n t := by
  unfold netOkB at h
  simp only [Bool.and_eq_true, decide_eq_true_eq, List.all_eq_true] at h
  obtain ⟨⟨h1, h2⟩, h3, h4⟩ := h
  refine ⟨m.n.toNat, by omega, by omega, by omega, h3, fun t ht => ?_⟩
  have := h4 t ht
  unfold wireB at this
  simp only [Bool.and_eq_true, decide_eq_true_eq] at this
  exact ⟨t.a.toNat, t.b.toNat, by omega, by omega, by omega, by omega⟩
theorem netOkB_of {m : NetM} {n : Nat} (h0 : m.n = n) (h1 : 1 ≤ n) (h2 : n ≤ 64) (h3 : m.ws.length ≤ 2100) (h4 : ∀ t ∈ m.ws, WireOk n t) : netOkB m = true := by
  refine netOkB_all (by omega) (by omega) h3 fun j hj => ?_
  obtain ⟨p, q, e1, e2, e3, e4⟩ := h4 _ (List.getElem_mem hj)
  unfold wireB
  rw [e1, e2, h0]
  simp only [Bool.and_eq_true, decide_eq_true_eq]
  omega

/-- One wire: the lesser of the two elements at its first place, the greater one at the second. -/
def wireRun (l : List Int) (t : WireM) : List Int := (l.set t.a.toNat (min (l.getD t.a.toNat 0) (l.getD t.b.toNat 0))).set t.b.toNat (max (l.getD t.a.toNat 0) (l.getD t.b.toNat 0))
def runW (ws : List WireM) (l : List Int) : List Int := ws.foldl wireRun l
theorem wireRun_length (l : List Int) (t : WireM) : (wireRun l t).length = l.length := by simp [wireRun]
theorem runW_length : ∀ (ws : List WireM) (l : List Int), (runW ws l).length = l.length
  | [], l => rfl
  | t :: ws, l => by show (runW ws (wireRun l t)).length = _; rw [runW_length ws, wireRun_length]
theorem runW_nil (l : List Int) : runW [] l = l := rfl
theorem runW_app (a b : List WireM) (l : List Int) : runW (a ++ b) l = runW b (runW a l) := by simp [runW]
theorem runW_take (ws : List WireM) (l : List Int) (k : Nat) (h : k < ws.length) : runW (ws.take (k + 1)) l = wireRun (runW (ws.take k) l) ws[k] := by
  rw [List.take_succ_eq_append_getElem h, runW_app]; rfl
def netRunM (m : NetM) (l : List Int) : List Int := if netOkB m = true ∧ (l.length : Int) = m.n then runW m.ws l else []
theorem netRunM_bd (m : NetM) (l : List Int) : (netRunM m l).length ≤ 64 := by
  unfold netRunM
  split
  · rename_i h
    obtain ⟨n, h0, h1, h2, _⟩ := netOkB_ok h.1
    rw [runW_length]; omega
  · simp

/-- The latest rounds of the places, and the latest of all. -/
def roundF (f : Nat → Int) (t : WireM) : Nat → Int := fun i => if i = t.a.toNat ∨ i = t.b.toNat then 1 + max (f t.a.toNat) (f t.b.toNat) else f i
def deepW : List WireM → (Nat → Int) → (Nat → Int)
  | [], f => f
  | t :: ws, f => deepW ws (roundF f t)
def mostW : List WireM → (Nat → Int) → Int → Int
  | [], _, d => d
  | t :: ws, f, d => mostW ws (roundF f t) (max d (1 + max (f t.a.toNat) (f t.b.toNat)))
theorem deepW_app (a b : List WireM) (f : Nat → Int) : deepW (a ++ b) f = deepW b (deepW a f) := by
  induction a generalizing f with
  | nil => rfl
  | cons t a ih => exact ih _
theorem mostW_app (a b : List WireM) (f : Nat → Int) (d : Int) : mostW (a ++ b) f d = mostW b (deepW a f) (mostW a f d) := by
  induction a generalizing f d with
  | nil => rfl
  | cons t a ih => exact ih _ _
theorem deepW_take (ws : List WireM) (f : Nat → Int) (k : Nat) (h : k < ws.length) : deepW (ws.take (k + 1)) f = roundF (deepW (ws.take k) f) ws[k] := by
  rw [List.take_succ_eq_append_getElem h, deepW_app]; rfl
theorem mostW_take (ws : List WireM) (f : Nat → Int) (d : Int) (k : Nat) (h : k < ws.length) :
    mostW (ws.take (k + 1)) f d = max (mostW (ws.take k) f d) (1 + max (deepW (ws.take k) f ws[k].a.toNat) (deepW (ws.take k) f ws[k].b.toNat)) := by
  rw [List.take_succ_eq_append_getElem h, mostW_app]; rfl
theorem deepW_bd : ∀ (ws : List WireM) (f : Nat → Int) (B : Int), (∀ i, 0 ≤ f i ∧ f i ≤ B) → ∀ i, 0 ≤ deepW ws f i ∧ deepW ws f i ≤ B + ws.length
  | [], f, B, h, i => by simpa [deepW] using h i
  | t :: ws, f, B, h, i => by
    have := deepW_bd ws (roundF f t) (B + 1) (fun j => by
      have h1 := h t.a.toNat
      have h2 := h t.b.toNat
      have h3 := h j
      unfold roundF
      split <;> omega) i
    simp [deepW]
    omega
theorem mostW_bd : ∀ (ws : List WireM) (f : Nat → Int) (d B : Int), (∀ i, 0 ≤ f i ∧ f i ≤ B) → 0 ≤ d → d ≤ B → 0 ≤ mostW ws f d ∧ mostW ws f d ≤ B + ws.length
  | [], f, d, B, h, h0, h1 => by simp [mostW]; omega
  | t :: ws, f, d, B, h, h0, h1 => by
    have g1 := h t.a.toNat
    have g2 := h t.b.toNat
    have := mostW_bd ws (roundF f t) (max d (1 + max (f t.a.toNat) (f t.b.toNat))) (B + 1) (fun j => by
      have h3 := h j
      unfold roundF
      split <;> omega) (by omega) (by omega)
    simp [mostW]
    omega
def depthZ (m : NetM) : Int := if netOkB m = true then mostW m.ws (fun _ => 0) 0 else -1

def joinB (x y : NetM) : Bool := netOkB x && (netOkB y && (decide (x.n = y.n) && decide (x.ws.length + y.ws.length ≤ 2100)))
def joinM (x y : NetM) : NetM := if joinB x y = true then ⟨x.n, x.ws ++ y.ws⟩ else ⟨0, []⟩
theorem joinB_ok {x y : NetM} (h : joinB x y = true) : netOkB x = true ∧ netOkB y = true ∧ x.n = y.n ∧ x.ws.length + y.ws.length ≤ 2100 := by
  unfold joinB at h
  simpa using h
theorem joinM_bd (x y : NetM) : mcNet (joinM x y) ≤ 4200 := by
  unfold joinM
  split
  · rename_i h
    obtain ⟨_, _, _, h4⟩ := joinB_ok h
    simp [mcNet]; omega
  · simp [mcNet]
end Go.Proofs.Ytaedamnhobcdlaa
end

section
namespace Go.Proofs.Ytaedamnhobcdlaa
set_option linter.unusedVariables false

def wireAt (σ : Nat → Nat) (p : Nat) : List WireM := if p < σ p then [⟨(p : Int), (σ p : Int)⟩] else []
def stepW (σ : Nat → Nat) (n : Nat) : List WireM := (List.range n).flatMap (wireAt σ)
theorem stepW_zero (σ : Nat → Nat) : stepW σ 0 = [] := rfl
theorem stepW_succ (σ : Nat → Nat) (p : Nat) : stepW σ (p + 1) = stepW σ p ++ wireAt σ p := by
  unfold stepW
  rw [List.range_succ, List.flatMap_append]
  simp
theorem wireAt_yes {σ : Nat → Nat} {p : Nat} (h : p < σ p) : wireAt σ p = [⟨(p : Int), (σ p : Int)⟩] := by unfold wireAt; rw [if_pos h]
theorem wireAt_no {σ : Nat → Nat} {p : Nat} (h : ¬ p < σ p) : wireAt σ p = [] := by unfold wireAt; rw [if_neg h]
theorem wireAt_length (σ : Nat → Nat) (p : Nat) : (wireAt σ p).length ≤ 1 := by unfold wireAt; split <;> simp
theorem stepW_length (σ : Nat → Nat) : ∀ n, (stepW σ n).length ≤ n
  | 0 => Nat.le_refl _
  | n + 1 => by
    have h1 := stepW_length σ n
    have h2 := wireAt_length σ n
    rw [stepW_succ, List.length_append]
    omega
def neiF (r p : Nat) : Nat := if r ≤ p then p else p + 1
def mirF (s p : Nat) : Nat := if s / 2 ≤ p % s then p else p - p % s + s - 1 - p % s
def halF (h p : Nat) : Nat := if h ≤ p % (2 * h) then p else p + h
def oddF (s h p : Nat) : Nat := if s - h ≤ p % s ∨ p % s / h % 2 = 0 then p else p + h
/-- The wires of a list of steps, in order. -/
def allW (n : Nat) : List (Nat → Nat) → List WireM
  | [] => []
  | σ :: l => stepW σ n ++ allW n l
theorem allW_app (n : Nat) (a b : List (Nat → Nat)) : allW n (a ++ b) = allW n a ++ allW n b := by
  induction a with
  | nil => rfl
  | cons σ a ih => simp [allW, ih]
theorem allW_length (n : Nat) : ∀ l : List (Nat → Nat), (allW n l).length ≤ l.length * n
  | [] => by simp [allW]
  | σ :: l => by
    have h1 := stepW_length σ n
    have h2 := allW_length n l
    simp only [allW, List.length_append, List.length_cons, Nat.succ_mul]
    omega
/-- r, r - 1, .., 1. -/
def bubS : Nat → List (Nat → Nat)
  | 0 => []
  | r + 1 => neiF (r + 1) :: bubS r
theorem bubS_length : ∀ r, (bubS r).length = r
  | 0 => rfl
  | r + 1 => by simp [bubS, bubS_length r]
/-- h, h / 2, .., 1. -/
def downs (f : Nat → Nat → Nat) : Nat → Nat → List (Nat → Nat)
  | 0, _ => []
  | k + 1, h => if h = 0 then [] else f h :: downs f k (h / 2)
theorem downs_nil (f : Nat → Nat → Nat) (k : Nat) : downs f k 0 = [] := by cases k <;> simp [downs]
theorem downs_cons (f : Nat → Nat → Nat) (k h : Nat) (h0 : h ≠ 0) : downs f (k + 1) h = f h :: downs f k (h / 2) := by rw [downs, if_neg h0]
theorem downs_length (f : Nat → Nat → Nat) : ∀ k h, (downs f k h).length ≤ k
  | 0, _ => Nat.le_refl _
  | k + 1, h => by
    have := downs_length f k (h / 2)
    rw [downs]
    split
    · simp
    · simp; omega
/-- The steps for s, 2s, .. up to n: each a first step, then those for s / 4, s / 8, .., 1. -/
def ups (g : Nat → Nat → Nat) (f : Nat → Nat → Nat → Nat) (n : Nat) : Nat → Nat → List (Nat → Nat)
  | 0, _ => []
  | k + 1, s => if s ≤ n then (g s :: downs (f s) 6 (s / 4)) ++ ups g f n k (2 * s) else []
theorem ups_end (g : Nat → Nat → Nat) (f : Nat → Nat → Nat → Nat) (n k s : Nat) (h : n < s) : ups g f n k s = [] := by
  cases k with
  | zero => rfl
  | succ k => rw [ups, if_neg (by omega)]
theorem ups_length (g : Nat → Nat → Nat) (f : Nat → Nat → Nat → Nat) (n : Nat) : ∀ k s, (ups g f n k s).length ≤ 7 * k
  | 0, _ => Nat.le_refl _
  | k + 1, s => by
    have h1 := ups_length g f n k (2 * s)
    have h2 := downs_length (f s) 6 (s / 4)
    rw [ups]
    split
    · simp; omega
    · simp
def bitS (n : Nat) : List (Nat → Nat) := ups mirF (fun _ => halF) n 6 2
def oeS (n : Nat) : List (Nat → Nat) := ups (fun s => halF (s / 2)) oddF n 6 2
def isTwo (n : Nat) : Prop := n = 1 ∨ n = 2 ∨ n = 4 ∨ n = 8 ∨ n = 16 ∨ n = 32 ∨ n = 64
instance (n : Nat) : Decidable (isTwo n) := by unfold isTwo; infer_instance
def twoZ (z : Int) : Bool := decide (0 ≤ z ∧ isTwo z.toNat)
def bitonicM (z : Int) : NetM := if twoZ z = true then ⟨z, allW z.toNat (bitS z.toNat)⟩ else ⟨0, []⟩
def oddEvenM (z : Int) : NetM := if twoZ z = true then ⟨z, allW z.toNat (oeS z.toNat)⟩ else ⟨0, []⟩
def bubbleM (z : Int) : NetM := if 1 ≤ z ∧ z ≤ 64 then ⟨z, allW z.toNat (bubS (z.toNat - 1))⟩ else ⟨0, []⟩
theorem isTwo_le {n : Nat} (h : isTwo n) : 1 ≤ n ∧ n ≤ 64 := by unfold isTwo at h; omega
theorem twoZ_nat {z : Int} (h : twoZ z = true) : ∃ n : Nat, z = n ∧ isTwo n := by
  unfold twoZ at h
  simp only [decide_eq_true_eq] at h
  exact ⟨z.toNat, by omega, h.2⟩
theorem bubbleM_bd (z : Int) : mcNet (bubbleM z) ≤ 1000000000000 := by
  unfold bubbleM mcNet
  split
  · rename_i h
    have h1 := allW_length z.toNat (bubS (z.toNat - 1))
    rw [bubS_length] at h1
    have h2 : (z.toNat - 1) * z.toNat ≤ 64 * 64 := Nat.mul_le_mul (by omega) (by omega)
    simp only []
    omega
  · simp
theorem bitonicM_bd (z : Int) : mcNet (bitonicM z) ≤ 1000000000000 := by
  unfold bitonicM mcNet
  split
  · rename_i h
    obtain ⟨n, rfl, hn⟩ := twoZ_nat h
    have := isTwo_le hn
    have h1 := allW_length n (bitS n)
    have h3 : (bitS n).length ≤ 42 := ups_length _ _ n 6 2
    have h2 : (bitS n).length * n ≤ 42 * 64 := Nat.mul_le_mul h3 (by omega)
    simp only [Int.toNat_natCast]
    omega
  · simp
theorem oddEvenM_bd (z : Int) : mcNet (oddEvenM z) ≤ 1000000000000 := by
  unfold oddEvenM mcNet
  split
  · rename_i h
    obtain ⟨n, rfl, hn⟩ := twoZ_nat h
    have := isTwo_le hn
    have h1 := allW_length n (oeS n)
    have h3 : (oeS n).length ≤ 42 := ups_length _ _ n 6 2
    have h2 : (oeS n).length * n ≤ 42 * 64 := Nat.mul_le_mul h3 (by omega)
    simp only [Int.toNat_natCast]
    omega
  · simp
end Go.Proofs.Ytaedamnhobcdlaa
end
