/- EvP in one. Written by tools/join2.py. -/
import Derived.Test.YtmkgddbdkpkgpaaJS11
import Derived.Test.YtmkgddbdkpkgpaaJS2
import Derived.Test.YtmkgddbdkpkgpaaJS21
import Derived.Test.YtmkgddbdkpkgpaaJS15
section
namespace Go.Proofs.Ytmkgddbdkpkgpaa
open Go.RowKit
set_option linter.unusedVariables false

/-- What stays, what goes, how many went to the level. -/
structure EvS where
  rest : List BlkM
  out : List PutM
  n : Nat
def evC (f : BlkM → Int) (lev : Int) (s : EvS) (m : BlkM) : Bool := sFindB s.rest m.id && (decide (s.n < 4) && decide (lev ≤ f m))
def evTake (lev : Int) (s : EvS) (m : BlkM) : EvS := ⟨withoutL s.rest m.id, s.out ++ [⟨lev, m.id⟩], s.n + 1⟩
def evStep (f : BlkM → Int) (lev : Int) (s : EvS) (m : BlkM) : EvS := if evC f lev s m = true then evTake lev s m else s
/-- The first k blocks tried at a level. -/
def evK (f : BlkM → Int) (lev : Int) (l : List BlkM) (s : EvS) (k : Nat) : EvS := (l.take k).foldl (evStep f lev) s
theorem evK_zero (f : BlkM → Int) (lev : Int) (l : List BlkM) (s : EvS) : evK f lev l s 0 = s := by simp [evK]
theorem evK_succ (f : BlkM → Int) (lev : Int) (l : List BlkM) (s : EvS) {k : Nat} (h : k < l.length) : evK f lev l s (k + 1) = evStep f lev (evK f lev l s k) l[k] := by
  unfold evK; rw [List.take_succ_eq_append_getElem h, List.foldl_append]; rfl
def evRow (f : BlkM → Int) (lev : Int) (l : List BlkM) (s : EvS) : EvS := evK f lev l ⟨s.rest, s.out, 0⟩ l.length
/-- The levels from g down to g + 1 - j. -/
def evAll (f : BlkM → Int) (g : Nat) (l : List BlkM) : Nat → EvS
  | 0 => ⟨l, [], 0⟩
  | j + 1 => evRow f ((g : Int) - (j : Int)) l (evAll f g l j)
def evOut (f : BlkM → Int) (g : Nat) (l : List BlkM) : List PutM := (evAll f g l (g + 1)).out
def evRest (f : BlkM → Int) (g : Nat) (l : List BlkM) : List BlkM := (evAll f g l (g + 1)).rest
def dropP (l : List BlkM) (p : List PutM) : List BlkM := p.foldl (fun r q => withoutL r q.id) l
theorem dropP_snoc (l : List BlkM) (p : List PutM) (q : PutM) : dropP l (p ++ [q]) = withoutL (dropP l p) q.id := by unfold dropP; rw [List.foldl_append]; rfl
theorem dropP_take (l : List BlkM) (p : List PutM) {k : Nat} (h : k < p.length) : dropP l (p.take (k + 1)) = withoutL (dropP l (p.take k)) p[k].id := by rw [List.take_succ_eq_append_getElem h, dropP_snoc]
theorem dropP_mem : ∀ (p : List PutM) (l : List BlkM) (m : BlkM), m ∈ dropP l p ↔ m ∈ l ∧ ∀ q ∈ p, q.id ≠ m.id
  | [], l, m => by simp [dropP]
  | q :: p, l, m => by
    have ih := dropP_mem p (withoutL l q.id) m
    show m ∈ dropP (withoutL l q.id) p ↔ _
    rw [ih, withoutL_mem]
    constructor
    · rintro ⟨⟨h1, h2⟩, h3⟩
      refine ⟨h1, fun r hr => ?_⟩
      rcases List.mem_cons.1 hr with rfl | hr
      · exact fun e => h2 e.symm
      · exact h3 r hr
    · rintro ⟨h1, h2⟩
      exact ⟨⟨h1, fun e => h2 q (by simp) e.symm⟩, fun r hr => h2 r (List.mem_cons_of_mem _ hr)⟩
theorem dropP_sz (l : List BlkM) : ∀ (p : List PutM) (l : List BlkM), szBlockS (dropP l p) ≤ szBlockS l
  | [], l => Nat.le_refl _
  | q :: p, l => Nat.le_trans (dropP_sz l p (withoutL l q.id)) (szBlockS_without l q.id)
/-- What holds all the way. -/
structure EvInv (l : List BlkM) (s : EvS) : Prop where
  rest : s.rest = dropP l s.out
  cap : s.n ≤ 4
theorem evStep_inv {l : List BlkM} {f : BlkM → Int} {lev : Int} {s : EvS} {m : BlkM} (h : EvInv l s) : EvInv l (evStep f lev s m) ∧ (evStep f lev s m).out.length + s.n = s.out.length + (evStep f lev s m).n := by
  unfold evStep
  split
  · rename_i hc
    unfold evC at hc
    simp only [Bool.and_eq_true, decide_eq_true_eq] at hc
    refine ⟨⟨?_, ?_⟩, ?_⟩
    · show withoutL s.rest m.id = dropP l (s.out ++ [⟨lev, m.id⟩])
      rw [dropP_snoc, h.rest]
    · show s.n + 1 ≤ 4
      omega
    · simp [evTake]; omega
  · exact ⟨h, rfl⟩
theorem evK_inv {l : List BlkM} {f : BlkM → Int} {lev : Int} {s : EvS} (h : EvInv l s) : ∀ k, k ≤ l.length → EvInv l (evK f lev l s k) ∧ (evK f lev l s k).out.length + s.n = s.out.length + (evK f lev l s k).n
  | 0, _ => by rw [evK_zero]; exact ⟨h, rfl⟩
  | k + 1, hk => by
    obtain ⟨h1, h2⟩ := evK_inv h (f := f) (lev := lev) k (by omega)
    rw [evK_succ _ _ _ _ (by omega)]
    obtain ⟨h3, h4⟩ := evStep_inv (f := f) (lev := lev) (m := l[k]) h1
    exact ⟨h3, by omega⟩
theorem evAll_inv (f : BlkM → Int) (g : Nat) (l : List BlkM) : ∀ j, EvInv l (evAll f g l j) ∧ (evAll f g l j).out.length ≤ 4 * j
  | 0 => ⟨⟨rfl, by simp [evAll]⟩, by simp [evAll]⟩
  | j + 1 => by
    obtain ⟨h1, h2⟩ := evAll_inv f g l j
    have h3 := evK_inv (l := l) (f := f) (lev := (g : Int) - (j : Int)) (s := ⟨(evAll f g l j).rest, (evAll f g l j).out, 0⟩) ⟨h1.rest, by simp⟩ l.length (Nat.le_refl _)
    refine ⟨h3.1, ?_⟩
    have h4 := h3.2
    have h5 := h3.1.cap
    simp only at h4
    show (evK f ((g : Int) - (j : Int)) l ⟨(evAll f g l j).rest, (evAll f g l j).out, 0⟩ l.length).out.length ≤ _
    omega
theorem evRest_eq (f : BlkM → Int) (g : Nat) (l : List BlkM) : evRest f g l = dropP l (evOut f g l) := (evAll_inv f g l (g + 1)).1.rest
def evF (z leaf : Int) (m : BlkM) : Int := meetZ z m.leaf leaf
def planB (l : List BlkM) (z v leaf : Int) : Bool := stashOkB l z v && leafB z leaf
def planZ (l : List BlkM) (z v leaf : Int) : List PutM := if planB l z v leaf = true then evOut (evF z leaf) z.toNat l else []
def restZ (l : List BlkM) (z v leaf : Int) : List BlkM := if planB l z v leaf = true then dropP l (planZ l z v leaf) else []
theorem planZ_no {l : List BlkM} {z v leaf : Int} (h : planB l z v leaf = false) : planZ l z v leaf = [] := by unfold planZ; rw [h]; rfl
theorem restZ_no {l : List BlkM} {z v leaf : Int} (h : planB l z v leaf = false) : restZ l z v leaf = [] := by unfold restZ; rw [h]; rfl
theorem planZ_len (l : List BlkM) (z v leaf : Int) : (planZ l z v leaf).length ≤ 28 := by
  unfold planZ
  split
  · rename_i h
    unfold planB at h
    obtain ⟨g, a, rfl, rfl, hg, _⟩ := leafB_ok (Bool.and_eq_true_iff.1 h).2
    have := (evAll_inv (evF g a) g l (g + 1)).2
    show (evAll (evF g a) g l (g + 1)).out.length ≤ 28
    omega
  · simp
end Go.Proofs.Ytmkgddbdkpkgpaa
end
