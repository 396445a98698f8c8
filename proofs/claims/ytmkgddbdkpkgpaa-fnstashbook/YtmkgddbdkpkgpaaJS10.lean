/- BlkV in one. Written by tools/join2.py. -/
import Derived.Test.YtmkgddbdkpkgpaaJS6
import Derived.Test.YtmkgddbdkpkgpaaJS8
import Derived.Test.YtmkgddbdkpkgpaaJS9
section
namespace Go.Proofs.Ytmkgddbdkpkgpaa
open Go.RowKit Go.ChangeShapes Go.WideShapes Go.Deep
set_option linter.unusedVariables false
set_option linter.unusedSimpArgs false
set_option maxRecDepth 100000

/-- Bytes that the call owns, with the block that they lie in. -/
def ByteSO (F : Foot) (lo : Nat) (cs : List Value) (l : List UInt8) (w : World) : Prop :=
  ∃ a cap, cs = [.slice a l.length cap] ∧ w.ownsRow lo 5 1 (.slice a l.length cap) l.length (l.map bval) ∧ ∀ b, F b ↔ (Value.slice a l.length cap).ownBlock = some b
theorem byteS_rdg : Rdg ByteSIn := ⟨by
  intro cs m w w' h k
  obtain ⟨a, cap, h1, h2, h3, h4⟩ := h
  exact ⟨a, cap, h1, h2, h3, (lies_row h4).sup w' (fun b _ hb => k b hb)⟩⟩
theorem byteS_ong : Ong ByteSO ByteSIn where
  sup := by
    rintro F lo cs m w w' ⟨a, cap, h1, h2, h3⟩ k
    exact ⟨a, cap, h1, own_keptF h2 (fun b hb => k b ((h3 b).2 hb)), h3⟩
  at_ := by
    rintro F lo cs m w ⟨a, cap, h1, h2, h3⟩ b hb
    exact h2.lt b ((h3 b).1 hb)
  low := by
    rintro F lo lo' cs m w ⟨a, cap, h1, h2, h3⟩ k
    exact ⟨a, cap, h1, own_base h2 k, h3⟩
  rd := by
    rintro F lo cs m w ⟨a, cap, rfl, h2, h3⟩
    refine ⟨a, cap, rfl, own_cap h2, ?_, Row.of_own h2⟩
    rcases h2.2 with ⟨hv, hn⟩ | ⟨g, cap', cur, hv, _, _, _, h2, _⟩
    · rw [hn]; unfold maxLen; omega
    · simp at hv; omega
theorem ByteSOwn.toO {lo hi : Nat} {cs : List Value} {l : List UInt8} {w : World} (h : ByteSOwn lo hi cs l w) : ∃ F, ByteSO F lo cs l w ∧ ∀ b, F b → b < hi := by
  obtain ⟨a, cap, rfl, h1, h2⟩ := h
  exact ⟨fun b => (Value.slice a l.length cap).ownBlock = some b, ⟨a, cap, rfl, h1, fun _ => Iff.rfl⟩, h2⟩
structure BlkM where
  id : Int
  leaf : Int
  data : List UInt8
def zeroBlk : BlkM := ⟨0, 0, []⟩
def blkBd (m : BlkM) : Prop := (-9223372036854775808 ≤ m.id ∧ m.id ≤ 9223372036854775807) ∧ (-9223372036854775808 ≤ m.leaf ∧ m.leaf ≤ 9223372036854775807)
def BlockIn (cs : List Value) (m : BlkM) (w : World) : Prop := ∃ c, cs = [.int .i64 m.id, .int .i64 m.leaf, c] ∧ ByteSIn [c] m.data w
def BlockO (F : Foot) (lo : Nat) (cs : List Value) (m : BlkM) (w : World) : Prop := ∃ c, cs = [.int .i64 m.id, .int .i64 m.leaf, c] ∧ ByteSO F lo [c] m.data w
theorem block_rdg : Rdg BlockIn := ⟨by
  rintro cs m w w' ⟨c, h1, h2⟩ k
  exact ⟨c, h1, byteS_rdg.keep h2 k⟩⟩
theorem block_ong : Ong BlockO BlockIn where
  sup := by
    rintro F lo cs m w w' ⟨c, h1, h2⟩ k
    exact ⟨c, h1, byteS_ong.sup h2 k⟩
  at_ := by
    rintro F lo cs m w ⟨c, h1, h2⟩
    exact byteS_ong.at_ h2
  low := by
    rintro F lo lo' cs m w ⟨c, h1, h2⟩ k
    exact ⟨c, h1, byteS_ong.low h2 k⟩
  rd := by
    rintro F lo cs m w ⟨c, h1, h2⟩
    exact ⟨c, h1, byteS_ong.rd h2⟩
theorem blockO_zero (lo : Nat) (w : World) : BlockO (fun _ => False) lo [.int .i64 0, .int .i64 0, .slice none 0 0] zeroBlk w :=
  ⟨.slice none 0 0, rfl, none, 0, rfl, ⟨rfl, .inl ⟨rfl, rfl⟩⟩, fun b => by simp [Value.ownBlock]⟩
def zeroElt : Elt BlkM 3 := ⟨[.int .i64 0, .int .i64 0, .slice none 0 0], zeroBlk, rfl, by intro v hv; simp at hv; rcases hv with rfl | rfl | rfl <;> rfl⟩
def BlockOwn (lo hi : Nat) (cs : List Value) (m : BlkM) (w : World) : Prop := SegO BlockO lo hi cs m w
def BlockSIn (cs : List Value) (l : List BlkM) (w : World) : Prop := NIn BlockIn 3 cs l w
theorem blockS_rdg : Rdg BlockSIn := nIn_rdg block_rdg 3
def BlockSO : Foot → Nat → List Value → List BlkM → World → Prop := NOwn BlockO 26 3
theorem blockS_ong : Ong BlockSO BlockSIn := nOwn_ong block_ong 26 3
def BlockSOwn (lo hi : Nat) (cs : List Value) (l : List BlkM) (w : World) : Prop := SegO BlockSO lo hi cs l w
abbrev NodeM := List BlkM
def NodeIn (cs : List Value) (l : NodeM) (w : World) : Prop := BlockSIn cs l w
def NodeOwn (lo hi : Nat) (cs : List Value) (l : NodeM) (w : World) : Prop := BlockSOwn lo hi cs l w
theorem BlockOwn.read {lo hi : Nat} {cs : List Value} {m : BlkM} {w : World} (h : BlockOwn lo hi cs m w) : BlockIn cs m w := block_ong.read h
theorem BlockOwn.lies {lo hi : Nat} {cs : List Value} {m : BlkM} {w : World} (h : BlockOwn lo hi cs m w) (ht : hi ≤ w.heap.size) : Lies w lo hi (BlockOwn lo hi cs m) := block_ong.lies h ht
theorem BlockOwn.wide {lo hi lo' hi' : Nat} {cs : List Value} {m : BlkM} {w : World} (h : BlockOwn lo hi cs m w) (h1 : lo' ≤ lo) (h2 : hi ≤ hi') : BlockOwn lo' hi' cs m w := block_ong.wide h h1 h2
theorem BlockIn.lies {cs : List Value} {m : BlkM} {w : World} (h : BlockIn cs m w) : Lies w 0 w.heap.size (BlockIn cs m) := block_rdg.lies h
theorem BlockSOwn.read {lo hi : Nat} {cs : List Value} {l : List BlkM} {w : World} (h : BlockSOwn lo hi cs l w) : BlockSIn cs l w := blockS_ong.read h
theorem BlockSOwn.lies {lo hi : Nat} {cs : List Value} {l : List BlkM} {w : World} (h : BlockSOwn lo hi cs l w) (ht : hi ≤ w.heap.size) : Lies w lo hi (BlockSOwn lo hi cs l) := blockS_ong.lies h ht
theorem BlockSOwn.wide {lo hi lo' hi' : Nat} {cs : List Value} {l : List BlkM} {w : World} (h : BlockSOwn lo hi cs l w) (h1 : lo' ≤ lo) (h2 : hi ≤ hi') : BlockSOwn lo' hi' cs l w := blockS_ong.wide h h1 h2
theorem BlockSIn.lies {cs : List Value} {l : List BlkM} {w : World} (h : BlockSIn cs l w) : Lies w 0 w.heap.size (BlockSIn cs l) := blockS_rdg.lies h
theorem NodeOwn.read {lo hi : Nat} {cs : List Value} {l : NodeM} {w : World} (h : NodeOwn lo hi cs l w) : NodeIn cs l w := blockS_ong.read h
theorem NodeOwn.lies {lo hi : Nat} {cs : List Value} {l : NodeM} {w : World} (h : NodeOwn lo hi cs l w) (ht : hi ≤ w.heap.size) : Lies w lo hi (NodeOwn lo hi cs l) := blockS_ong.lies h ht
theorem NodeOwn.wide {lo hi lo' hi' : Nat} {cs : List Value} {l : NodeM} {w : World} (h : NodeOwn lo hi cs l w) (h1 : lo' ≤ lo) (h2 : hi ≤ hi') : NodeOwn lo' hi' cs l w := blockS_ong.wide h h1 h2
theorem NodeIn.lies {cs : List Value} {l : NodeM} {w : World} (h : NodeIn cs l w) : Lies w 0 w.heap.size (NodeIn cs l) := blockS_rdg.lies h
theorem blockIn_cells {c0 c1 c2 : Value} {m : BlkM} {w : World} (h : BlockIn [c0, c1, c2] m w) : ∃ a cap, c0 = .int .i64 m.id ∧ c1 = .int .i64 m.leaf ∧ c2 = .slice a m.data.length cap ∧ m.data.length ≤ cap ∧ m.data.length ≤ maxLen ∧ Row w a (m.data.map bval) := by
  obtain ⟨c, hc, hb⟩ := h
  simp at hc
  obtain ⟨rfl, rfl, rfl⟩ := hc
  obtain ⟨a, cap, rfl, h1, h2, h3⟩ := byteSIn_shape hb
  exact ⟨a, cap, rfl, rfl, rfl, h1, h2, h3⟩
theorem BlockOwn.shape {lo hi : Nat} {c0 c1 c2 : Value} {m : BlkM} {w : World} (h : BlockOwn lo hi [c0, c1, c2] m w) : ∃ z0 z1 a n cap, c0 = .int .i64 z0 ∧ c1 = .int .i64 z1 ∧ c2 = .slice a n cap := by
  obtain ⟨a, cap, h0, h1, h2, _⟩ := blockIn_cells h.read
  exact ⟨_, _, a, _, cap, h0, h1, h2⟩
theorem blockSIn_shape {c : Value} {l : List BlkM} {w : World} (h : BlockSIn [c] l w) : ∃ a cap, ∃ es : List (Elt BlkM 3), c = .slice a l.length cap ∧ l.length ≤ cap ∧ l.length ≤ maxLen ∧ es.length = l.length ∧ Row w a (flatG eltL es) ∧ es.map Elt.m = l ∧ ∀ e ∈ es, BlockIn e.cs e.m w := by
  obtain ⟨a, cap, es, hc, h1, h2, h3, h4, h5⟩ := h
  have hl : es.length = l.length := by rw [← h4]; simp
  simp at hc
  rw [hl] at hc h1 h2
  exact ⟨a, cap, es, hc, h1, h2, hl, h3, h4, h5⟩
theorem BlockSOwn.shape {lo hi : Nat} {c : Value} {l : List BlkM} {w : World} (h : BlockSOwn lo hi [c] l w) : ∃ a n cap, c = .slice a n cap := by
  obtain ⟨a, cap, _, hc, _⟩ := blockSIn_shape h.read
  exact ⟨a, _, cap, hc⟩
theorem NodeOwn.shape {lo hi : Nat} {c : Value} {l : NodeM} {w : World} (h : NodeOwn lo hi [c] l w) : ∃ a n cap, c = .slice a n cap := BlockSOwn.shape h
/-- A block of a row that came in. -/
theorem Row.blk {w : World} {a : Option Addr} {es : List (Elt BlkM 3)} (h : Row w a (flatG eltL es)) (hd : ∀ e ∈ es, BlockIn e.cs e.m w) {l : List BlkM} (hl : es.map Elt.m = l) {k : Nat} (hk : k < l.length) :
    ∃ b off x cap, a = some ⟨b, off, none⟩ ∧ w.cell? ⟨b, off + k * 3, none⟩ = some (.int .i64 l[k].id) ∧ w.cell? ⟨b, off + k * 3 + 1, none⟩ = some (.int .i64 l[k].leaf) ∧ w.cell? ⟨b, off + k * 3 + 2, none⟩ = some (.slice x l[k].data.length cap) ∧ BlockIn [.int .i64 l[k].id, .int .i64 l[k].leaf, .slice x l[k].data.length cap] l[k] w := by
  have hke : k < es.length := by rw [← hl] at hk; simpa using hk
  obtain ⟨b, off, rfl, hc⟩ := h.elt (by decide) hke
  have hm : es[k].m = l[k] := by subst hl; simp
  obtain ⟨c, e1, e2⟩ := hd _ (List.getElem_mem hke)
  rw [hm] at e1 e2
  obtain ⟨x, cap, rfl, _⟩ := byteSIn_shape e2
  have c0 := hc 0 (by decide)
  have c1 := hc 1 (by decide)
  have c2 := hc 2 (by decide)
  rw [e1] at c0 c1 c2
  exact ⟨b, off, x, cap, rfl, c0, c1, c2, _, rfl, e2⟩
theorem Rd.block {w : World} {cs : List Value} (h : Rd w 51 cs) : ∃ m : BlkM, BlockIn cs m w ∧ blkBd m ∧ cs.length = 3 ∧ ∀ v ∈ cs, v.oneCell' = true := by
  have hC : Try.prog.cellsOf 51 = 3 := by kernel_rfl
  have hC_int : Try.prog.cellsOf 3 = 1 := by kernel_rfl
  have hC_s : Try.prog.cellsOf 22 = 1 := by kernel_rfl
  have hC_u : Try.prog.cellsOf 5 = 1 := by kernel_rfl
  obtain ⟨hcl, _⟩ := h.struct Try.underlying51
  rw [hC] at hcl
  match cs, hcl with
  | [v0, v1, v2], _ =>
    have f0 := h.field Try.underlying51 0 _ 3 1 [v0] rfl rfl hC_int rfl
    have f1 := h.field Try.underlying51 1 _ 3 1 [v1] rfl rfl hC_int rfl
    have f2 := h.field Try.underlying51 2 _ 22 1 [v2] rfl rfl hC_s rfl
    obtain ⟨z0, e0, y0⟩ := f0.int Try.underlying3
    obtain ⟨z1, e1, y1⟩ := f1.int Try.underlying3
    obtain ⟨x, xc, l, e2, g1, g2, g3, g4⟩ := f2.ints Try.underlying22 Try.underlying5 hC_u
    obtain ⟨m, d1, d2⟩ := bytes_of l g4
    simp at e0 e1 e2
    subst e0 e1 e2
    exact ⟨⟨z0, z1, m⟩, ⟨_, rfl, x, xc, by rw [d1], show m.length ≤ xc from by omega, show m.length ≤ maxLen from by omega, by rw [d2]; exact g3⟩, ⟨wf_i64 y0, wf_i64 y1⟩, rfl, by intro v hv; simp at hv; rcases hv with rfl | rfl | rfl <;> rfl⟩
theorem argBlock {w : World} {v : Value} (h : Arg w 51 v) : ∃ c0 c1 c2 m, v = .agg #[c0, c1, c2] ∧ BlockIn [c0, c1, c2] m w ∧ blkBd m := by
  obtain ⟨cs, rfl, _, hr⟩ := h.agg Try.underlying51
  obtain ⟨m, h1, h2, h3, _⟩ := Rd.block hr
  match cs, h3 with
  | [c0, c1, c2], _ => exact ⟨c0, c1, c2, m, rfl, h1, h2⟩
theorem Rd.blockS {w : World} {c : Value} (h : Rd w 47 [c]) : ∃ l, BlockSIn [c] l w ∧ ∀ t ∈ l, blkBd t := by
  have hC : Try.prog.cellsOf 51 = 3 := by kernel_rfl
  rcases h.slice Try.underlying47 with h | ⟨a, len, cap, h, hl, hm, hi⟩
  · simp at h
    subst h
    exact ⟨[], ⟨none, 0, [], rfl, Nat.le_refl _, by unfold maxLen; simp, .inl rfl, rfl, fun e he => by simp at he⟩, fun t h => by simp at h⟩
  · simp at h
    subst h
    have key : ∀ i, i < len → ∃ t : Elt BlkM 3, (∀ j, j < 3 → w.cell? ((a.add (i * 3)).add j) = (eltL t)[j]?) ∧ BlockIn t.cs t.m w ∧ blkBd t.m := fun i hlt => by
      obtain ⟨cs', h1, h2⟩ := hi i (by omega)
      rw [hC] at h1
      obtain ⟨m, k1, k2, k3, k4⟩ := Rd.block h2
      exact ⟨⟨cs', m, k3, k4⟩, fun j hj => (World.cells?_some h1).2.2 j hj, k1, k2⟩
    have : Inhabited (Elt BlkM 3) := ⟨zeroElt⟩
    obtain ⟨V, hV⟩ := choose_lt key
    refine ⟨((List.range len).map V).map Elt.m, ⟨some a, cap, (List.range len).map V, by simp, by simpa using hl, by simp; omega, row_of_elems eltL_len (by decide) V (fun i hi j hj => (hV i hi).1 j hj), rfl, fun e he => ?_⟩, fun t ht => ?_⟩
    · obtain ⟨i, hi, rfl⟩ := List.mem_map.1 he
      exact (hV i (by simpa using hi)).2.1
    · obtain ⟨e, he, rfl⟩ := List.mem_map.1 ht
      obtain ⟨i, hi, rfl⟩ := List.mem_map.1 he
      exact (hV i (by simpa using hi)).2.2
theorem argBlockS {w : World} {v : Value} (h : Arg w 47 v) : ∃ c m, v = c ∧ BlockSIn [c] m w ∧ ∀ t ∈ m, blkBd t := by
  obtain ⟨a, len, cap, rfl, hr⟩ := h.slice Try.underlying47
  obtain ⟨l, h1, h2⟩ := Rd.blockS hr
  exact ⟨_, l, rfl, h1, h2⟩
end Go.Proofs.Ytmkgddbdkpkgpaa
end
