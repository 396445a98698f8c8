/- NetRun, in the program and in the model. -/
import Derived.Test.YtaedamnhobcdlaaNeA
import Derived.Deep.DeepMust
import Derived.WalkSpells
namespace Go.Proofs.Ytaedamnhobcdlaa
open Go.RowKit
set_option linter.unusedVariables false
set_option maxRecDepth 100000

theorem ones_ivalR (l : List Int) : ∀ v ∈ l.map ival, v.oneCell' = true := ones_ival (fun z => rfl)
theorem lit_made (w : World) (base n : Nat) (hb : base ≤ w.heap.size) (hn : n = w.heap.size) : (w.alloc (.cells #[] 3)).ownsRow base 3 1 (.slice (some ⟨n, 0, none⟩) 0 0) 0 [] := by
  subst hn
  exact World.ownsRow_made w #[] 0 hb (by unfold maxLen; omega) rfl
theorem intSOwn_mid {lo n cap : Nat} {a : Option Addr} {l : List Int} {w : World} (h : w.ownsRow lo 3 1 (.slice a n cap) n (l.map ival)) (hn : 1 ≤ n) : ∃ g, a = some ⟨g, 0, none⟩ ∧ lo ≤ g := by
  rcases h.2 with ⟨hv, h0⟩ | ⟨g, cap', cur, hv, hg, _⟩
  · omega
  · simp at hv
    exact ⟨g, hv.1, hg⟩
theorem IntSOwn.nil (lo hi : Nat) (w : World) : IntSOwn lo hi [.slice none 0 0] [] w := ⟨none, 0, rfl, ⟨rfl, .inl ⟨rfl, rfl⟩⟩, fun k hk => by simp [Value.ownBlock] at hk⟩
theorem wireRun_set {l : List Int} {t : WireM} {p q : Nat} {x y : Int} (e1 : t.a = p) (e2 : t.b = q) (hx : l[p]? = some x) (hy : l[q]? = some y) : wireRun l t = (l.set p (min x y)).set q (max x y) := by
  unfold wireRun
  rw [e1, e2]
  simp [List.getD, hx, hy]
theorem runs_map (l : List Int) (p q : Nat) (u v : Int) : (((l.map ival).set p (.int .i64 u)).set q (.int .i64 v)) = ((l.set p u).set q v).map ival := by
  rw [List.map_set, List.map_set]; rfl
/-- Two elements stored into an owned row. -/
theorem own_two {w : World} {base g n cap : Nat} {l : List Int} (h : w.ownsRow base 3 1 (.slice (some ⟨g, 0, none⟩) n cap) n (l.map ival)) (p q : Nat) (u v : Int) :
    ((w.setCell ⟨g, p, none⟩ (.int .i64 u)).setCell ⟨g, q, none⟩ (.int .i64 v)).ownsRow base 3 1 (.slice (some ⟨g, 0, none⟩) n cap) n (((l.set p u).set q v).map ival) ∧
    w.grownBy ((w.setCell ⟨g, p, none⟩ (.int .i64 u)).setCell ⟨g, q, none⟩ (.int .i64 v)) (some g) := by
  obtain ⟨h1, g1⟩ := h.stored p (.int .i64 u)
  obtain ⟨h2, g2⟩ := h1.stored q (.int .i64 v)
  rw [runs_map] at h2
  exact ⟨h2, grown_trans g1 g2⟩
/-- The state of a run between two wires: the row g, as the first k wires leave it. -/
def RunAt (W w : World) (lo g cap : Nat) (ws : List WireM) (l : List Int) (k : Nat) : Prop :=
  w.ownsRow lo 3 1 (.slice (some ⟨g, 0, none⟩) l.length cap) l.length ((runW (ws.take k) l).map ival) ∧ Below lo W w
theorem RunAt.next {W w w' : World} {lo g cap k p q : Nat} {ws : List WireM} {l : List Int} {x y : Int} (h : RunAt W w lo g cap ws l k) (hk : k < ws.length) (hb : Below w.heap.size w w') (e1 : ws[k].a = p) (e2 : ws[k].b = q)
    (hx : (runW (ws.take k) l)[p]? = some x) (hy : (runW (ws.take k) l)[q]? = some y) (hlo : lo ≤ w.heap.size) (hg : lo ≤ g) :
    RunAt W ((w'.setCell ⟨g, p, none⟩ (.int .i64 (min x y))).setCell ⟨g, q, none⟩ (.int .i64 (max x y))) lo g cap ws l (k + 1) := by
  obtain ⟨h1, h2⟩ := h
  obtain ⟨r1, r2⟩ := own_two (own_below h1 hb) p q (min x y) (max x y)
  refine ⟨?_, ?_⟩
  · rw [runW_take ws l k hk, wireRun_set e1 e2 hx hy]; exact r1
  · have hs := hb.size
    exact (h2.trans (hb.mono hlo)).grown r2 (by omega) (fun i hi => by cases hi; exact hg)
theorem RunAt.box {W w : World} {lo g cap k : Nat} {ws : List WireM} {l : List Int} (h : RunAt W w lo g cap ws l k) (hl : lo ≤ W.heap.size) (o : Obj) : RunAt W (w.alloc o) lo g cap ws l k :=
  ⟨h.1.alloc o, h.2.alloc (Nat.le_trans hl h.2.size) o⟩
theorem max_min_lt {x y : Int} (h : x < y) : min x y = x ∧ max x y = y := by omega
theorem max_min_gt {x y : Int} (h : y < x) : min x y = y ∧ max x y = x := by omega
theorem max_min_eq {x y : Int} (h : x = y) : min x y = x ∧ max x y = x := by omega
end Go.Proofs.Ytaedamnhobcdlaa
