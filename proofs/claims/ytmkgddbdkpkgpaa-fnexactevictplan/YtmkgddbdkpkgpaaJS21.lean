/- PutU in one. Written by tools/join2.py. -/
import Derived.Test.YtmkgddbdkpkgpaaJS3
import Derived.Test.YtmkgddbdkpkgpaaJS9
import Derived.Test.YtmkgddbdkpkgpaaJS8
import Derived.Test.YtmkgddbdkpkgpaaJS2
import Derived.Deep.RegionHeld3
section
namespace Go.Proofs.Ytmkgddbdkpkgpaa
open Go.RowKit Go.ChangeShapes Go.WideShapes Go.Deep
set_option linter.unusedVariables false
set_option linter.unusedSimpArgs false
set_option maxRecDepth 100000

structure PutM where
  lev : Int
  id : Int
def PutM.cells (r : PutM) : Array Value := #[.int .i64 r.lev, .int .i64 r.id]
def putL (r : PutM) : List Value := [.int .i64 r.lev, .int .i64 r.id]
theorem putL_len (r : PutM) : (putL r).length = 2 := rfl
theorem putL_one (r : PutM) : ∀ v ∈ putL r, v.oneCell' = true := by
  intro v hv
  simp only [putL, List.mem_cons, List.not_mem_nil, or_false] at hv
  rcases hv with rfl | rfl <;> rfl
theorem PutM.cells_list (r : PutM) : r.cells = ⟨putL r⟩ := rfl
def PutIn (cs : List Value) (m : PutM) (w : World) : Prop := cs = putL m
def PutOwn (lo hi : Nat) (cs : List Value) (m : PutM) (w : World) : Prop := cs = putL m
theorem PutOwn.read {lo hi : Nat} {cs : List Value} {m : PutM} {w : World} (h : PutOwn lo hi cs m w) : PutIn cs m w := h
theorem PutOwn.lies {lo hi : Nat} {cs : List Value} {m : PutM} {w : World} (h : PutOwn lo hi cs m w) (ht : hi ≤ w.heap.size) : Lies w lo hi (PutOwn lo hi cs m) := ⟨h, ht, fun _ _ => h⟩
theorem PutIn.lies {cs : List Value} {m : PutM} {w : World} (h : PutIn cs m w) : Lies w 0 w.heap.size (PutIn cs m) := ⟨h, Nat.le_refl _, fun _ _ => h⟩
theorem putIn_cells {c0 c1 : Value} {m : PutM} {w : World} (h : PutIn [c0, c1] m w) : c0 = .int .i64 m.lev ∧ c1 = .int .i64 m.id := by
  simpa [PutIn, putL] using h
theorem PutOwn.shape {lo hi : Nat} {c0 c1 : Value} {m : PutM} {w : World} (h : PutOwn lo hi [c0, c1] m w) : ∃ (x0 : Int) (x1 : Int), c0 = .int .i64 x0 ∧ c1 = .int .i64 x1 := by
  obtain ⟨h0, h1⟩ := putIn_cells h.read
  exact ⟨_, _, h0, h1⟩
def putBd (m : PutM) : Prop := (-9223372036854775808 ≤ m.lev ∧ m.lev ≤ 9223372036854775807) ∧ (-9223372036854775808 ≤ m.id ∧ m.id ≤ 9223372036854775807)
def szPut (m : PutM) : Nat := 0
def PutRet (m : PutM) (w : World) (e : Ending) (w' : World) : Prop := ∃ c0 c1, e = .returned (.agg #[c0, c1]) ∧ PutOwn w.heap.size w'.heap.size [c0, c1] m w' ∧ Below w.heap.size w w'
def zeroPut : PutM := ⟨0, 0⟩
instance : Inhabited PutM := ⟨zeroPut⟩
set_option maxHeartbeats 1000000 in
theorem lawsEqPut (m : PutM) (w : World) : Calls Try.prog 69 #[.agg #[.int .i64 m.lev, .int .i64 m.id], .agg #[.int .i64 m.lev, .int .i64 m.id]] w (TruePost w) := by
  obtain ⟨x0, x1⟩ := m
  go_enter Try.func69, Try.ntmps69
  go_wp2
  go_ret
  exact ⟨rfl, below_box (below_box (Below.refl _ _) _) _⟩
theorem uEqPut (c0 c1 d0 d1 : Value) (m : PutM) (w : World) (h : PutIn [c0, c1] m w) (k : PutIn [d0, d1] m w) : Calls Try.prog 69 #[.agg #[c0, c1], .agg #[d0, d1]] w (TruePost w) := by
  obtain ⟨rfl, rfl⟩ := putIn_cells h
  obtain ⟨rfl, rfl⟩ := putIn_cells k
  exact lawsEqPut m w
/-- The one cell holds a slice that reads as l. -/
def PutSIn (cs : List Value) (l : List PutM) (w : World) : Prop := ∃ a cap, cs = [.slice a l.length cap] ∧ l.length ≤ cap ∧ l.length ≤ maxLen ∧ Row w a (flatG putL l)
def PutSOwn (lo hi : Nat) (cs : List Value) (l : List PutM) (w : World) : Prop :=
  ∃ a cap, cs = [.slice a l.length cap] ∧ w.ownsRow lo 43 2 (.slice a l.length cap) l.length (flatG putL l) ∧ ∀ k, Value.ownBlock (.slice a l.length cap) = some k → k < hi
theorem own_maxPutS {s w lo e a n cap xs} (h : World.ownsRow w lo e s (.slice a n cap) n xs) : n ≤ maxLen := by
  rcases h.2 with ⟨hv, hn⟩ | ⟨g, cap', cur, hv, _, _, _, h2, _⟩
  · rw [hn]; unfold maxLen; omega
  · simp at hv; omega
theorem PutSOwn.read {lo hi : Nat} {cs : List Value} {l : List PutM} {w : World} (h : PutSOwn lo hi cs l w) : PutSIn cs l w := by
  obtain ⟨a, cap, rfl, ho, _⟩ := h
  exact ⟨a, cap, rfl, own_cap ho, own_maxPutS ho, Row.of_own ho⟩
theorem PutSOwn.lies {lo hi : Nat} {cs : List Value} {l : List PutM} {w : World} (h : PutSOwn lo hi cs l w) (ht : hi ≤ w.heap.size) : Lies w lo hi (PutSOwn lo hi cs l) := by
  refine ⟨h, ht, fun w2 e => ?_⟩
  obtain ⟨a, cap, rfl, ho, hh⟩ := h
  exact ⟨a, cap, rfl, own_sup ho hh e, hh⟩
theorem PutSIn.lies {cs : List Value} {l : List PutM} {w : World} (h : PutSIn cs l w) : Lies w 0 w.heap.size (PutSIn cs l) := by
  obtain ⟨a, cap, rfl, h1, h2, hr⟩ := h
  exact ⟨⟨a, cap, rfl, h1, h2, hr⟩, Nat.le_refl _, fun w2 e => ⟨a, cap, rfl, h1, h2, (lies_row hr).sup w2 e⟩⟩
theorem PutSIn.below {cs : List Value} {l : List PutM} {w w' : World} (h : PutSIn cs l w) (hb : Below w.heap.size w w') : PutSIn cs l w' := (h.lies.below hb).now
theorem PutSOwn.wide {lo hi lo' hi' : Nat} {cs : List Value} {l : List PutM} {w : World} (h : PutSOwn lo hi cs l w) (h1 : lo' ≤ lo) (h2 : hi ≤ hi') : PutSOwn lo' hi' cs l w := by
  obtain ⟨a, cap, rfl, ho, hh⟩ := h
  exact ⟨a, cap, rfl, own_base ho h1, fun k hk => Nat.lt_of_lt_of_le (hh k hk) h2⟩
theorem PutSOwn.mk {lo n cap : Nat} {a : Option Addr} {l : List PutM} {w : World} (h : w.ownsRow lo 43 2 (.slice a n cap) n (flatG putL l)) : PutSOwn lo w.heap.size [.slice a n cap] l w := by
  have hn : l.length = n := by have := h.1; rw [flatG_len putL_len] at this; omega
  subst hn
  exact ⟨a, cap, rfl, h, own_top h⟩
theorem PutSOwn.shape {lo hi : Nat} {c : Value} {l : List PutM} {w : World} (h : PutSOwn lo hi [c] l w) : ∃ a n cap, c = .slice a n cap := by
  obtain ⟨a, cap, hc, _⟩ := h
  simp at hc
  exact ⟨a, _, cap, hc⟩
theorem putSIn_shape {c : Value} {l : List PutM} {w : World} (h : PutSIn [c] l w) : ∃ a cap, c = .slice a l.length cap ∧ l.length ≤ cap ∧ l.length ≤ maxLen ∧ Row w a (flatG putL l) := by
  obtain ⟨a, cap, hc, h1, h2, h3⟩ := h
  simp at hc
  exact ⟨a, cap, hc, h1, h2, h3⟩
theorem PutSOwn.nil (lo hi : Nat) (w : World) : PutSOwn lo hi [.slice none 0 0] [] w := ⟨none, 0, rfl, ⟨rfl, .inl ⟨rfl, rfl⟩⟩, fun k hk => by simp [Value.ownBlock] at hk⟩
def PutSRet (l : List PutM) (w : World) (e : Ending) (w' : World) : Prop := ∃ c, e = .returned c ∧ PutSOwn w.heap.size w'.heap.size [c] l w' ∧ Below w.heap.size w w'
theorem Try.infoPut : (Try.prog.info? 43).map (fun i => (i.zero, i.size, i.bytes)) = some (some (.agg #[.int .i64 0, .int .i64 0]), 2, 16) := by kernel_rfl
/-- The cells of an element of a row. -/
theorem Row.put {w : World} {a : Option Addr} {l : List PutM} (h : Row w a (flatG putL l)) {k : Nat} (hk : k < l.length) : ∃ b off, a = some ⟨b, off, none⟩ ∧ w.cell? ⟨b, off + k * 2, none⟩ = some (.int .i64 l[k].lev) ∧ w.cell? ⟨b, off + k * 2 + 1, none⟩ = some (.int .i64 l[k].id) := by
  obtain ⟨b, off, rfl, hc⟩ := h.elem putL_len (by decide) hk
  exact ⟨b, off, rfl, hc 0 (by decide), hc 1 (by decide)⟩
def szPutS (l : List PutM) : Nat := l.length
set_option maxHeartbeats 4000000 in
theorem lawsEqPutS (a1 a2 : Option Addr) (c1 c2 : Nat) (l : List PutM) (w : World) (h1 : l.length ≤ maxLen) (r1 : Row w a1 (flatG putL l)) (r2 : Row w a2 (flatG putL l)) :
    Calls Try.prog 39 #[.slice a1 l.length c1, .slice a2 l.length c2] w (TruePost w) := by
  unfold maxLen at h1
  have R1 := Lib.hid r1
  have R2 := Lib.hid r2
  clear r1 r2
  go_enter Try.func39, Try.ntmps39
  go_wp2
  go_loopw [5] (fun i wr => ∃ k : Nat, k ≤ l.length ∧ i = .int .i64 k ∧ Below w.heap.size w wr) (fun i _ => l.length - (intOf i).toNat)
  case atStart => exact ⟨0, Nat.zero_le _, rfl, Below.refl _ _⟩
  case round =>
    obtain ⟨k, hk, rfl, hb⟩ := hrel
    by_cases hlt : k < l.length
    · obtain ⟨b1, o1, rfl, q0, q1⟩ := (R1.out.below hb).put hlt
      obtain ⟨b2, o2, rfl, p0, p1⟩ := (R2.out.below hb).put hlt
      have B := Lib.hid hb
      have EQ := Lib.hid (fun w => lawsEqPut l[k] w)
      clear hb
      obtain ⟨r, hr⟩ : ∃ r, l[k] = r := ⟨_, rfl⟩
      rw [hr] at EQ q0 q1 p0 p1
      clear hr
      obtain ⟨x0, x1⟩ := r
      simp only at EQ q0 q1 p0 p1
      have KP := Lib.hid (fun w' (hb : Below wr.heap.size wr w') => (show w'.cell? ⟨b1, o1 + k * 2, none⟩ = some (.int .i64 x0) ∧ w'.cell? ⟨b1, o1 + k * 2 + 1, none⟩ = some (.int .i64 x1) ∧ w'.cell? ⟨b2, o2 + k * 2, none⟩ = some (.int .i64 x0) ∧ w'.cell? ⟨b2, o2 + k * 2 + 1, none⟩ = some (.int .i64 x1) from ⟨cell_keep q0 hb, cell_keep q1 hb, cell_keep p0 hb, cell_keep p1 hb⟩))
      have HB := Lib.hid (below_drew (Below.refl wr.heap.size wr))
      have hk0 : (0 : Int) ≤ (k : Int) := by omega
      have hk1 : (k : Int) < (l.length : Int) := by omega
      go_wp2_with fail
      go_region_held3 (fun w' => w'.cell? ⟨b1, o1 + k * 2, none⟩ = some (.int .i64 x0) ∧ w'.cell? ⟨b1, o1 + k * 2 + 1, none⟩ = some (.int .i64 x1) ∧ w'.cell? ⟨b2, o2 + k * 2, none⟩ = some (.int .i64 x0) ∧ w'.cell? ⟨b2, o2 + k * 2 + 1, none⟩ = some (.int .i64 x1))
        (exact KP.out _ HB.out)
        ((go_at_call 69; refine (EQ.out _).mono ?_; rintro e w2 ⟨rfl, hb2⟩; have HB := Lib.hid (below_seq HB.out hb2); clear hb2))
      have B3 := Lib.hid (below_seq B.out HB.out)
      clear q0 q1 p0 p1 KP EQ HB
      go_wp2
      go_roundw
      case rel => exact ⟨k + 1, by omega, by go_num, B3.out⟩
      case measure => simp [intOf]; omega
    · have B := Lib.hid hb
      clear hb
      go_wp2
      go_ret
      exact ⟨rfl, B.out⟩
theorem uEqPutS (c d : Value) (l : List PutM) (w : World) (h : PutSIn [c] l w) (k : PutSIn [d] l w) : Calls Try.prog 39 #[c, d] w (TruePost w) := by
  obtain ⟨a, cap, rfl, _, h2, h3⟩ := putSIn_shape h
  obtain ⟨a', cap', rfl, _, _, k3⟩ := putSIn_shape k
  exact lawsEqPutS a a' cap cap' l w h2 h3 k3
end Go.Proofs.Ytmkgddbdkpkgpaa
end
