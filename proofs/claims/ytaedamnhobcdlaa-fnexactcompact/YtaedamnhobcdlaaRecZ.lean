/- Behind 'x, y := f(toRec(a), toRec(b))': the orders in which the two variables' boxes may be made, brought to one. -/
import Derived.Test.YtaedamnhobcdlaaRecK
namespace Go.Proofs.Ytaedamnhobcdlaa
open Go.RowKit
set_option linter.unusedVariables false

/-- Boxes of zeros made ahead: where they lie. -/
structure RZ (W w : World) (L : List Nat) : Prop where
  B : Below W.heap.size W w
  Z : ∀ b ∈ L, w.heap[b]? = some (.cells #[.bool false, .int .i64 0, .int .i64 0, .string ⟨#[]⟩] 30 (0, 0)) ∧ W.heap.size ≤ b
  N : L.Nodup
section
variable {W w w' : World} {L : List Nat} {b c : Nat}
theorem RZ.start (W : World) : RZ W W.drew [] := ⟨belowN 1, fun b h => by simp at h, List.nodup_nil⟩
theorem RZ.call (h : RZ W w L) (hb : Below w.heap.size w w') : RZ W w' L := ⟨below_seq h.B hb, fun b k => ⟨kept_block (h.Z b k).1 hb, (h.Z b k).2⟩, h.N⟩
theorem RZ.box (h : RZ W w L) : RZ W (w.alloc (.cells #[.bool false, .int .i64 0, .int .i64 0, .string ⟨#[]⟩] 30)) (w.heap.size :: L) :=
  ⟨below_box h.B _, fun b k => by
    rcases List.mem_cons.1 k with rfl | k
    · exact ⟨alloc_at _ _ _ rfl, h.B.size⟩
    · exact ⟨(alloc_old _ _ _ (cur_lt (h.Z b k).1)).trans (h.Z b k).1, (h.Z b k).2⟩, List.nodup_cons.2 ⟨fun k => absurd (cur_lt (h.Z _ k).1) (Nat.lt_irrefl _), h.N⟩⟩
def ZFacts (w : World) (b : Nat) : Prop := (w.cell? ⟨b, 0, none⟩ = some (.bool false) ∧ w.cell? ⟨b, 1, none⟩ = some (.int .i64 0) ∧ w.cell? ⟨b, 2, none⟩ = some (.int .i64 0) ∧ w.cell? ⟨b, 3, none⟩ = some (.string ⟨#[]⟩)) ∧ (w.frozen? ⟨b, 0, none⟩ = false ∧ w.frozen? ⟨b, 1, none⟩ = false ∧ w.frozen? ⟨b, 2, none⟩ = false ∧ w.frozen? ⟨b, 3, none⟩ = false) ∧ (¬ b = w.heap.size ∧ ¬ w.heap.size = b) ∧ b < w.heap.size ∧ b < w.heap.size + 1
theorem ZFacts.of (h : w.heap[b]? = some (.cells #[.bool false, .int .i64 0, .int .i64 0, .string ⟨#[]⟩] 30 (0, 0))) : ZFacts w b :=
  ⟨⟨cur_cell h 0, cur_cell h 1, cur_cell h 2, cur_cell h 3⟩, ⟨cur_free h 0, cur_free h 1, cur_free h 2, cur_free h 3⟩, ⟨by have := cur_lt h; omega, by have := cur_lt h; omega⟩, cur_lt h, by have := cur_lt h; omega⟩
theorem RZ.at0 (h : RZ W w (b :: L)) : ZFacts w b := ZFacts.of (h.Z b (by simp)).1
theorem RZ.at1 (h : RZ W w (c :: b :: L)) : ZFacts w b ∧ ¬ b = c ∧ ¬ c = b :=
  ⟨ZFacts.of (h.Z b (by simp)).1, by have := h.N; simp at this; omega, by have := h.N; simp at this; omega⟩
/-- The world behind: all that lay lies; the two records in boxes. -/
structure PairCut (b6 b7 : Nat) (W wx : World) (x y : RecM) : Prop where
  B : Below W.heap.size W wx
  k6 : wx.heap[b6]? = some (.cells #[.bool x.live, .int .i64 x.dist, .int .i64 x.weight, .string x.word] 30 (0, 0))
  k7 : wx.heap[b7]? = some (.cells #[.bool y.live, .int .i64 y.dist, .int .i64 y.weight, .string y.word] 30 (0, 0))
  l6 : W.heap.size ≤ b6
  l7 : W.heap.size ≤ b7
abbrev setR (w : World) (b : Nat) (x : RecM) : World := (((w.setCell ⟨b, 0, none⟩ (.bool x.live)).setCell ⟨b, 1, none⟩ (.int .i64 x.dist)).setCell ⟨b, 2, none⟩ (.int .i64 x.weight)).setCell ⟨b, 3, none⟩ (.string x.word)
theorem setR_at {x : RecM} (h : w.heap[b]? = some (.cells #[.bool false, .int .i64 0, .int .i64 0, .string ⟨#[]⟩] 30 (0, 0))) : (setR w b x).heap[b]? = some (.cells #[.bool x.live, .int .i64 x.dist, .int .i64 x.weight, .string x.word] 30 (0, 0)) := by
  have := cur_set (cur_set (cur_set (cur_set h 0 (.bool x.live)) 1 (.int .i64 x.dist)) 2 (.int .i64 x.weight)) 3 (.string x.word)
  simpa [setR] using this
theorem setR_chg (x : RecM) : Chg b (b + 1) w (setR w b x) := chg_rec (Chg.refl _ _ w) ⟨Nat.le_refl _, by omega⟩ _ _ _ _
theorem setR_old {x : RecM} {o : Option Obj} (h : w.heap[c]? = o) (hc : c < w.heap.size) (hne : ¬ c = b) : (setR w b x).heap[c]? = o := ((setR_chg x).block c hc (by omega)).trans h
theorem setR_below {x : RecM} (h : Below W.heap.size W w) (hb : W.heap.size ≤ b) : Below W.heap.size W (setR w b x) := Chg.below h (setR_chg x) hb
theorem PairCut.old {x y : RecM} (h : RZ W w L) (hb : b ∈ L) (hc : c ∈ L) (hne : ¬ b = c) : PairCut b c W (setR (setR w b x) c y) x y :=
  ⟨setR_below (setR_below h.B (h.Z b hb).2) (h.Z c hc).2, setR_old (setR_at (h.Z b hb).1) (Nat.lt_of_lt_of_le (cur_lt (h.Z b hb).1) (setR_chg x).size) hne,
    setR_at (setR_old (h.Z c hc).1 (cur_lt (h.Z c hc).1) (fun e => hne e.symm)), (h.Z b hb).2, (h.Z c hc).2⟩
theorem PairCut.old01 {x y : RecM} (h : RZ W w [b, c]) : PairCut b c W (setR (setR w b x) c y) x y := PairCut.old h (by simp) (by simp) (by have := h.N; simp at this; omega)
theorem PairCut.old10 {x y : RecM} (h : RZ W w [b, c]) : PairCut c b W (setR (setR w c x) b y) x y := PairCut.old h (by simp) (by simp) (by have := h.N; simp at this; omega)
theorem PairCut.one {x y : RecM} (h : RZ W w [b]) : PairCut b w.heap.size W ((setR w b x).alloc (.cells #[.bool y.live, .int .i64 y.dist, .int .i64 y.weight, .string y.word] 30)) x y := by
  have hb : b ∈ [b] := by simp
  have e : (setR w b x).heap.size = w.heap.size := by simp [setR]
  exact ⟨below_box (setR_below h.B (h.Z b hb).2) _, (alloc_old _ _ _ (by rw [e]; exact cur_lt (h.Z b hb).1)).trans (setR_at (h.Z b hb).1), alloc_at _ _ _ e.symm, (h.Z b hb).2, h.B.size⟩
theorem PairCut.two {x y : RecM} (h : RZ W w [b]) : PairCut w.heap.size b W ((setR w b y).alloc (.cells #[.bool x.live, .int .i64 x.dist, .int .i64 x.weight, .string x.word] 30)) x y := by
  have hb : b ∈ [b] := by simp
  have e : (setR w b y).heap.size = w.heap.size := by simp [setR]
  exact ⟨below_box (setR_below h.B (h.Z b hb).2) _, alloc_at _ _ _ e.symm, (alloc_old _ _ _ (by rw [e]; exact cur_lt (h.Z b hb).1)).trans (setR_at (h.Z b hb).1), h.B.size, (h.Z b hb).2⟩
theorem PairCut.new {x y : RecM} (h : RZ W w []) : PairCut w.heap.size (w.heap.size + 1) W ((w.alloc (.cells #[.bool x.live, .int .i64 x.dist, .int .i64 x.weight, .string x.word] 30)).alloc (.cells #[.bool y.live, .int .i64 y.dist, .int .i64 y.weight, .string y.word] 30)) x y :=
  ⟨below_box (below_box h.B _) _, (alloc_old _ _ _ (by simp)).trans (alloc_at _ _ _ rfl), alloc_at _ _ _ (by simp), h.B.size, by have := h.B.size; omega⟩
theorem PairCut.wen {x y : RecM} (h : RZ W w []) : PairCut (w.heap.size + 1) w.heap.size W ((w.alloc (.cells #[.bool y.live, .int .i64 y.dist, .int .i64 y.weight, .string y.word] 30)).alloc (.cells #[.bool x.live, .int .i64 x.dist, .int .i64 x.weight, .string x.word] 30)) x y :=
  ⟨below_box (below_box h.B _) _, alloc_at _ _ _ (by simp), (alloc_old _ _ _ (by simp)).trans (alloc_at _ _ _ rfl), by have := h.B.size; omega, h.B.size⟩
end
def PairP (x y : RecM) (w : World) (e : Ending) (w' : World) : Prop := e = .returned (.tuple #[.agg #[.bool x.live, .int .i64 x.dist, .int .i64 x.weight, .string x.word], .agg #[.bool y.live, .int .i64 y.dist, .int .i64 y.weight, .string y.word]]) ∧ Below w.heap.size w w'
theorem PairP.of {x y : RecM} {w : World} {e : Ending} {w' : World} (h : PairRet x y w e w') : PairP x y w e w' := by
  obtain ⟨c0, c1, c2, c3, d0, d1, d2, d3, mid, rfl, h1, h2, _, _, hb⟩ := h
  obtain ⟨rfl, rfl, rfl, rfl⟩ := recIn_cells h1.read
  obtain ⟨rfl, rfl, rfl, rfl⟩ := recIn_cells h2.read
  exact ⟨rfl, hb⟩
theorem specPairP (a b : RecM) (w : World) (h1 : recBd a) (h2 : recBd b) : Calls Try.prog 66 #[.agg #[.bool a.live, .int .i64 a.dist, .int .i64 a.weight, .string a.word], .agg #[.bool b.live, .int .i64 b.dist, .int .i64 b.weight, .string b.word]] w (PairP (pairA a b) (pairB a b) w) :=
  (uSpecRecPair _ _ _ _ a _ _ _ _ b w rfl rfl h1 h2).mono fun _ _ h => PairP.of h
end Go.Proofs.Ytaedamnhobcdlaa
