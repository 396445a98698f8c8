/- EvL in one. Written by tools/join2.py. -/
import Derived.Test.YtmkgddbdkpkgpaaJS22
import Derived.Test.YtmkgddbdkpkgpaaJS39
section
namespace Go.Proofs.Ytmkgddbdkpkgpaa
open Go.RowKit
set_option linter.unusedVariables false

def cntLev (p : List PutM) (L : Int) : Nat := p.countP (fun q => decide (q.lev = L))
theorem cntLev_snoc (p : List PutM) (q : PutM) (L : Int) : cntLev (p ++ [q]) L = cntLev p L + if q.lev = L then 1 else 0 := by
  unfold cntLev; rw [List.countP_append]; simp [List.countP_cons]
theorem cntLev_none {p : List PutM} {L : Int} (h : ∀ q ∈ p, q.lev ≠ L) : cntLev p L = 0 := by
  unfold cntLev; rw [List.countP_eq_zero]; intro q hq; simpa using h q hq
theorem same_id {l : List BlkM} (h : l.Pairwise idLt) : ∀ {a b : BlkM}, a ∈ l → b ∈ l → a.id = b.id → a = b := by
  intro a b ha hb e
  obtain ⟨i, hi, rfl⟩ := List.mem_iff_getElem.1 ha
  obtain ⟨j, hj, rfl⟩ := List.mem_iff_getElem.1 hb
  rcases Nat.lt_trichotomy i j with h1 | h1 | h1
  · have := List.pairwise_iff_getElem.1 h i j hi hj h1; unfold idLt at this; omega
  · subst h1; rfl
  · have := List.pairwise_iff_getElem.1 h j i hj hi h1; unfold idLt at this; omega
theorem without_one : ∀ {l : List BlkM} {i : Int}, l.Pairwise idLt → (∃ m ∈ l, m.id = i) → (withoutL l i).length + 1 = l.length
  | x :: l, i, h, hm => by
    obtain ⟨h1, h2⟩ := List.pairwise_cons.1 h
    by_cases hx : x.id = i
    · have e : withoutL (x :: l) i = l := by
        unfold withoutL
        rw [List.filter_cons_of_neg (by simp [hx])]
        rw [List.filter_eq_self]
        intro m hm
        have := h1 m hm
        unfold idLt at this
        simp; omega
      rw [e]; rfl
    · obtain ⟨m, hm, hmi⟩ := hm
      have hml : m ∈ l := by
        rcases List.mem_cons.1 hm with rfl | hm
        · exact absurd hmi hx
        · exact hm
      have ih := without_one h2 ⟨m, hml, hmi⟩
      unfold withoutL at ih ⊢
      rw [List.filter_cons_of_pos (by simpa using hx)]
      simpa using ih
theorem dropP_pair : ∀ (p : List PutM) {l : List BlkM}, l.Pairwise idLt → (dropP l p).Pairwise idLt
  | [], l, h => h
  | q :: p, l, h => dropP_pair p (withoutL_pair h)
structure EvI (l : List BlkM) (f : BlkM → Int) (g : Nat) (lev : Int) (s : EvS) : Prop where
  rest : s.rest = dropP l s.out
  lo : ∀ q ∈ s.out, lev ≤ q.lev ∧ q.lev ≤ g
  nd : s.out.Pairwise (fun p q => p.id ≠ q.id)
  fit : ∀ q ∈ s.out, ∀ m ∈ l, m.id = q.id → q.lev ≤ f m
  four : ∀ L, cntLev s.out L ≤ 4
  n : s.n = cntLev s.out lev
  full : ∀ m ∈ l, ∀ L, lev < L → L ≤ f m → (∀ q ∈ s.out, q.id = m.id → q.lev < L) → cntLev s.out L = 4
  len : s.rest.length + s.out.length = l.length
theorem find_rest {l : List BlkM} {s : EvS} {i : Int} (hr : s.rest = dropP l s.out) (hl : l.length ≤ 128) (hlen : s.rest.length + s.out.length = l.length) : sFindB s.rest i = true ↔ ∃ m ∈ l, m.id = i ∧ ∀ q ∈ s.out, q.id ≠ i := by
  unfold sFindB
  rw [decide_eq_true (by omega), Bool.true_and, List.any_eq_true, hr]
  constructor
  · rintro ⟨m, hm, hi⟩
    have hi := of_decide_eq_true hi
    obtain ⟨h1, h2⟩ := (dropP_mem s.out l m).1 hm
    exact ⟨m, h1, hi, fun q hq => by rw [← hi]; exact h2 q hq⟩
  · rintro ⟨m, h1, hi, h2⟩
    exact ⟨m, (dropP_mem s.out l m).2 ⟨h1, fun q hq => by rw [hi]; exact h2 q hq⟩, by simp [hi]⟩
theorem ev_step {l : List BlkM} {f : BlkM → Int} {g : Nat} {lev : Int} {s : EvS} {m : BlkM} (hl : l.length ≤ 128) (hp : l.Pairwise idLt) (hm : m ∈ l) (hg : lev ≤ g) (h : EvI l f g lev s) :
    EvI l f g lev (evStep f lev s m) ∧ (∀ q ∈ s.out, q ∈ (evStep f lev s m).out) ∧ s.n ≤ (evStep f lev s m).n ∧ (evStep f lev s m).n ≤ 4 ∧ (lev ≤ f m → (∃ q ∈ (evStep f lev s m).out, q.id = m.id) ∨ (evStep f lev s m).n = 4) := by
  have hn4 := h.four lev
  rw [← h.n] at hn4
  have FR := find_rest (i := m.id) h.rest hl h.len
  unfold evStep
  by_cases hc : evC f lev s m = true
  · rw [if_pos hc]
    unfold evC at hc
    simp only [Bool.and_eq_true, decide_eq_true_eq] at hc
    obtain ⟨c1, c2, c3⟩ := hc
    obtain ⟨m', hm', hid, hno⟩ := FR.1 c1
    have hmm : m' = m := same_id hp hm' hm hid
    have hsub : ∀ q ∈ s.out, q ∈ (evTake lev s m).out := fun q hq => List.mem_append.2 (.inl hq)
    have hin : (⟨lev, m.id⟩ : PutM) ∈ (evTake lev s m).out := List.mem_append.2 (.inr (by simp))
    have hc4 : ∀ L, cntLev (evTake lev s m).out L = cntLev s.out L + if lev = L then 1 else 0 := fun L => cntLev_snoc s.out ⟨lev, m.id⟩ L
    refine ⟨⟨?_, ?_, ?_, ?_, ?_, ?_, ?_, ?_⟩, hsub, Nat.le_succ _, ?_, fun _ => .inl ⟨_, hin, rfl⟩⟩
    · show withoutL s.rest m.id = dropP l (s.out ++ [⟨lev, m.id⟩])
      rw [dropP_snoc, h.rest]
    · intro q hq
      rcases List.mem_append.1 hq with hq | hq
      · exact h.lo q hq
      · simp at hq; subst hq; exact ⟨Int.le_refl _, hg⟩
    · show (s.out ++ [(⟨lev, m.id⟩ : PutM)]).Pairwise (fun p q => p.id ≠ q.id)
      rw [List.pairwise_append]
      refine ⟨h.nd, by simp, fun p hp2 q hq => ?_⟩
      simp at hq; subst hq
      exact hno p hp2
    · intro q hq k hk hki
      rcases List.mem_append.1 hq with hq | hq
      · exact h.fit q hq k hk hki
      · simp at hq; subst hq
        rw [same_id hp hk hm hki]; exact c3
    · intro L
      rw [hc4]
      by_cases e : lev = L
      · subst e; rw [if_pos rfl, ← h.n]; omega
      · rw [if_neg e]; exact h.four L
    · show s.n + 1 = _
      rw [hc4, if_pos rfl, h.n]
    · intro k hk L h1 h2 h3
      rw [hc4, if_neg (by omega)]
      exact h.full k hk L h1 h2 (fun q hq => h3 q (hsub q hq))
    · show (withoutL s.rest m.id).length + (s.out ++ [(⟨lev, m.id⟩ : PutM)]).length = l.length
      have hex : ∃ x ∈ s.rest, x.id = m.id := ⟨m, by rw [h.rest]; exact (dropP_mem s.out l m).2 ⟨hm, fun q hq => by have := hno q hq; exact this⟩, rfl⟩
      have := without_one (by rw [h.rest]; exact dropP_pair s.out hp) hex
      have hlen := h.len
      simp; omega
    · show s.n + 1 ≤ 4
      omega
  · rw [if_neg hc]
    refine ⟨h, fun q hq => hq, Nat.le_refl _, hn4, fun hf => ?_⟩
    by_cases h1 : sFindB s.rest m.id = true
    · right
      by_cases h2 : s.n < 4
      · exact absurd (by unfold evC; rw [h1, decide_eq_true h2, decide_eq_true hf]; rfl) hc
      · omega
    · left
      by_cases h3 : ∃ q ∈ s.out, q.id = m.id
      · exact h3
      · exact absurd (FR.2 ⟨m, hm, rfl, fun q hq e => h3 ⟨q, hq, e⟩⟩) h1
theorem ev_row {l : List BlkM} {f : BlkM → Int} {g : Nat} {lev : Int} {s : EvS} (hl : l.length ≤ 128) (hp : l.Pairwise idLt) (hg : lev ≤ g) (h : EvI l f g lev s) : ∀ k, k ≤ l.length → EvI l f g lev (evK f lev l s k) ∧ (∀ i (hi : i < l.length), i < k → lev ≤ f l[i] → (∃ q ∈ (evK f lev l s k).out, q.id = l[i].id) ∨ (evK f lev l s k).n = 4)
  | 0, _ => by rw [evK_zero]; exact ⟨h, fun i _ hi => by omega⟩
  | k + 1, hk => by
    obtain ⟨h1, h2⟩ := ev_row hl hp hg h k (by omega)
    rw [evK_succ _ _ _ _ (by omega)]
    obtain ⟨g1, g2, g3, g4, g5⟩ := ev_step (m := l[k]) hl hp (List.getElem_mem _) hg h1
    refine ⟨g1, fun i hi hik hf => ?_⟩
    by_cases e : i = k
    · subst e; exact g5 hf
    · rcases h2 i hi (by omega) hf with ⟨q, hq, hqi⟩ | h4
      · exact .inl ⟨q, g2 q hq, hqi⟩
      · exact .inr (by omega)
theorem ev_all {l : List BlkM} {f : BlkM → Int} {g : Nat} (hl : l.length ≤ 128) (hp : l.Pairwise idLt) (hf : ∀ m ∈ l, f m ≤ g) : ∀ j : Nat, EvI l f g ((g : Int) - (j : Int)) ⟨(evAll f g l j).rest, (evAll f g l j).out, 0⟩
  | 0 => ⟨rfl, by simp [evAll], by simp [evAll], by simp [evAll], fun L => by simp [evAll, cntLev], by simp [evAll, cntLev], fun m hm L h1 h2 => by have := hf m hm; simp at h1; omega, by simp [evAll]⟩
  | j + 1 => by
    have ih := ev_all hl hp hf j
    obtain ⟨h1, h2⟩ := ev_row hl hp (by omega) ih l.length (Nat.le_refl _)
    have e : evAll f g l (j + 1) = evK f ((g : Int) - (j : Int)) l ⟨(evAll f g l j).rest, (evAll f g l j).out, 0⟩ l.length := rfl
    rw [e]
    obtain ⟨S, hS⟩ : ∃ S, evK f ((g : Int) - (j : Int)) l ⟨(evAll f g l j).rest, (evAll f g l j).out, 0⟩ l.length = S := ⟨_, rfl⟩
    rw [hS] at h1 h2 ⊢
    refine ⟨h1.rest, fun q hq => ?_, h1.nd, h1.fit, h1.four, ?_, fun m hm L g1 g2 g3 => ?_, h1.len⟩
    · have := h1.lo q hq
      exact ⟨by omega, this.2⟩
    · symm
      exact cntLev_none (fun q hq => by have := (h1.lo q hq).1; omega)
    · by_cases e : L = (g : Int) - (j : Int)
      · subst e
        obtain ⟨i, hi, rfl⟩ := List.mem_iff_getElem.1 hm
        rcases h2 i hi hi g2 with ⟨q, hq, hqi⟩ | h4
        · have k1 := g3 q hq hqi
          have k2 := (h1.lo q hq).1
          omega
        · have := h1.n
          rw [h4] at this
          exact this.symm
      · exact h1.full m hm L (by omega) g2 g3
/-- The level at which a block lies by the plan, or -1. -/
def lvOf (p : List PutM) (i : Int) : Int := match p.find? (fun q => decide (q.id = i)) with | some q => q.lev | none => -1
theorem lvOf_no {p : List PutM} {i : Int} (h : ∀ q ∈ p, q.id ≠ i) : lvOf p i = -1 := by
  unfold lvOf
  rw [List.find?_eq_none.2 (fun q hq => by simpa using h q hq)]
theorem lvOf_snoc (p : List PutM) (q : PutM) (i : Int) (h : ∀ r ∈ p, r.id ≠ q.id) : lvOf (p ++ [q]) i = if q.id = i then q.lev else lvOf p i := by
  unfold lvOf
  rw [List.find?_append]
  by_cases e : q.id = i
  · rw [if_pos e, List.find?_eq_none.2 (fun r hr => by have := h r hr; simp; omega)]
    simp [e]
  · rw [if_neg e]
    cases hf : p.find? (fun q => decide (q.id = i)) with
    | some r => simp
    | none => simp [e]
theorem lvOf_at {p : List PutM} (hn : p.Pairwise (fun a b => a.id ≠ b.id)) {q : PutM} (hq : q ∈ p) : lvOf p q.id = q.lev := by
  induction p with
  | nil => simp at hq
  | cons x p ih =>
    obtain ⟨h1, h2⟩ := List.pairwise_cons.1 hn
    unfold lvOf at ih ⊢
    rcases List.mem_cons.1 hq with rfl | hq
    · simp
    · have hx := h1 q hq
      rw [List.find?_cons_of_neg (by simpa using hx)]
      exact ih h2 hq
/-- All that the law asks. -/
theorem ev_book {l : List BlkM} {f : BlkM → Int} {g : Nat} (hl : l.length ≤ 128) (hp : l.Pairwise idLt) (hf : ∀ m ∈ l, f m ≤ g) :
    (∀ q ∈ evOut f g l, 0 ≤ q.lev ∧ q.lev ≤ g) ∧ (evOut f g l).Pairwise (fun a b => a.id ≠ b.id) ∧ (∀ q ∈ evOut f g l, ∀ m ∈ l, m.id = q.id → q.lev ≤ f m) ∧ (∀ L, cntLev (evOut f g l) L ≤ 4) ∧ (∀ m ∈ l, ∀ L, lvOf (evOut f g l) m.id < L → L ≤ f m → cntLev (evOut f g l) L = 4) ∧ (dropP l (evOut f g l)).length + (evOut f g l).length = l.length := by
  have h := ev_all hl hp hf (g + 1)
  have hnd : (evOut f g l).Pairwise (fun a b => a.id ≠ b.id) := h.nd
  have hlo : ∀ q ∈ evOut f g l, 0 ≤ q.lev ∧ q.lev ≤ g := fun q hq => by
    -- the level 0 is the last one tried
    have h2 := ev_all hl hp hf g
    obtain ⟨h3, _⟩ := ev_row hl hp (by omega) h2 l.length (Nat.le_refl _)
    have e : evOut f g l = (evK f ((g : Int) - (g : Int)) l ⟨(evAll f g l g).rest, (evAll f g l g).out, 0⟩ l.length).out := rfl
    rw [e] at hq
    have := h3.lo q hq
    omega
  refine ⟨hlo, h.nd, h.fit, h.four, fun m hm L h1 h2 => ?_, ?_⟩
  · refine h.full m hm L ?_ h2 (fun q hq e => ?_)
    · by_cases hx : ∃ q ∈ evOut f g l, q.id = m.id
      · obtain ⟨q, hq, e⟩ := hx
        rw [← e, lvOf_at hnd hq] at h1
        have := (hlo q hq).1
        omega
      · rw [lvOf_no (fun q hq e => hx ⟨q, hq, e⟩)] at h1
        omega
    · rw [← e, lvOf_at hnd hq] at h1
      exact h1
  · have := h.len
    rw [h.rest] at this
    exact this
def usedF (p : List PutM) (k : Nat) : Nat → Int := fun L => (cntLev (p.take k) (L : Int) : Int)
def idAt (t : List BlkM) (j : Nat) : Int := (t.getD j zeroBlk).id
def lvlF (t : List BlkM) (p : List PutM) (k J : Nat) : Nat → Int := fun j => if j < J then lvOf (p.take (k + 1)) (idAt t j) else lvOf (p.take k) (idAt t j)
theorem idAt_get {t : List BlkM} {j : Nat} (h : j < t.length) : idAt t j = t[j].id := by unfold idAt; rw [List.getD_eq_getElem?_getD, List.getElem?_eq_getElem h]; rfl
theorem usedF_zero (p : List PutM) (L : Nat) : usedF p 0 L = 0 := by simp [usedF, cntLev]
theorem usedF_le {p : List PutM} {k : Nat} (h : ∀ L, cntLev p L ≤ 4) (L : Nat) : 0 ≤ usedF p k L ∧ usedF p k L ≤ 4 := by
  have h1 : cntLev (p.take k) (L : Int) ≤ cntLev p (L : Int) := by
    unfold cntLev
    exact (List.take_sublist k p).countP_le
  have := h (L : Int)
  unfold usedF
  omega
theorem usedF_set {p : List PutM} {k q : Nat} (hk : k < p.length) (hq : p[k].lev = q) : upd (usedF p k) q (usedF p k q + 1) = usedF p (k + 1) := by
  funext L
  unfold upd usedF
  rw [List.take_succ_eq_append_getElem hk, cntLev_snoc, hq]
  by_cases e : L = q
  · subst e; rw [if_pos rfl, if_pos rfl]; simp
  · rw [if_neg e, if_neg (by omega)]; simp
theorem lvlF_zero (t : List BlkM) (p : List PutM) (j : Nat) : lvlF t p 0 0 j = -1 := by simp [lvlF, lvOf]
theorem lvlF_start (t : List BlkM) (p : List PutM) (k n : Nat) (hn : n = t.length) : ∀ j, j < n → lvlF t p k n j = lvlF t p (k + 1) 0 j := fun j hj => by
  unfold lvlF; rw [if_pos hj, if_neg (by omega)]
theorem lvlF_keep {t : List BlkM} {p : List PutM} {k J : Nat} (hk : k < p.length) (hn : ∀ q ∈ p.take k, q.id ≠ p[k].id) (h : ¬ idAt t J = p[k].id) : ∀ j, lvlF t p k J j = lvlF t p k (J + 1) j := fun j => by
  unfold lvlF
  by_cases e : j < J
  · rw [if_pos e, if_pos (by omega)]
  · rw [if_neg e]
    by_cases e2 : j = J
    · subst e2
      rw [if_pos (by omega), List.take_succ_eq_append_getElem hk, lvOf_snoc _ _ _ hn, if_neg (fun e => h e.symm)]
    · rw [if_neg (by omega)]
theorem lvlF_set {t : List BlkM} {p : List PutM} {k J : Nat} (hk : k < p.length) (hn : ∀ q ∈ p.take k, q.id ≠ p[k].id) (h : idAt t J = p[k].id) : upd (lvlF t p k J) J p[k].lev = lvlF t p k (J + 1) := by
  funext j
  unfold upd lvlF
  by_cases e : j = J
  · subst e
    rw [if_pos rfl, if_pos (by omega), List.take_succ_eq_append_getElem hk, lvOf_snoc _ _ _ hn, if_pos h.symm]
  · rw [if_neg e]
    by_cases e2 : j < J
    · rw [if_pos e2, if_pos (by omega)]
    · rw [if_neg e2, if_neg (by omega)]
theorem lvlF_none {t : List BlkM} {p : List PutM} {k J : Nat} (hk : k < p.length) (hn : ∀ q ∈ p.take k, q.id ≠ p[k].id) (h : idAt t J = p[k].id) : lvlF t p k J J = -1 := by
  unfold lvlF
  rw [if_neg (by omega), lvOf_no]
  rw [h]; exact hn
theorem lvlF_end {t : List BlkM} {p : List PutM} (j : Nat) : lvlF t p p.length 0 j = lvOf p (idAt t j) := by
  unfold lvlF
  rw [if_neg (by omega), List.take_length]
theorem lvOf_bd {p : List PutM} {g : Nat} (h : ∀ q ∈ p, 0 ≤ q.lev ∧ q.lev ≤ g) (i : Int) : -1 ≤ lvOf p i ∧ lvOf p i ≤ g := by
  unfold lvOf
  cases hf : p.find? (fun q => decide (q.id = i)) with
  | none => simp <;> omega
  | some q => have := h q (List.mem_of_find?_eq_some hf); simp; omega
/-- All of it, by places, for a stash that is good and a leaf of the tree. -/
theorem plan_book {t : List BlkM} {g a : Nat} {y : Int} (hok : stashOkB t g y = true) (hg : g ≤ 6) (ha : a < 2 ^ g) :
    ∃ p, planZ t g y a = p ∧ (∀ k (hk : k < p.length), ∃ q : Nat, p[k].lev = q ∧ q ≤ g) ∧ (∀ k (hk : k < p.length), ∀ q ∈ p.take k, q.id ≠ p[k].id) ∧ (∀ k (hk : k < p.length) j (hj : j < t.length) (q : Nat), p[k].lev = q → t[j].id = p[k].id → onZ g (nd g a q) t[j].leaf = true) ∧ (∀ L, cntLev p L ≤ 4) ∧ (∀ j (hj : j < t.length) (L : Int), lvOf p t[j].id < L → L ≤ meetZ g t[j].leaf a → cntLev p L = 4) ∧ (dropP t p).length + p.length = t.length ∧ (∀ j (hj : j < t.length), -1 ≤ meetZ g t[j].leaf a ∧ meetZ g t[j].leaf a ≤ g) ∧ restZ t g y a = dropP t p ∧ (∀ i, -1 ≤ lvOf p i ∧ lvOf p i ≤ g) ∧ (∀ j (hj : j < t.length), 0 ≤ t[j].leaf ∧ t[j].leaf ≤ 64) := by
  obtain ⟨s1, s2, s3, s4⟩ := stashOkB_iff.1 hok
  have hpb : planB t g y a = true := by unfold planB; rw [hok, leafB_at hg ha]; rfl
  have leafs : ∀ j (hj : j < t.length), ∃ b : Nat, t[j].leaf = b ∧ b < 2 ^ g := fun j hj => by
    have h1 := s3 t[j] (List.getElem_mem hj)
    unfold blockOkB at h1
    simp only [Bool.and_eq_true] at h1
    obtain ⟨g', b, e1, e2, _, hb⟩ := leafB_ok h1.2.2.2.1
    have : g' = g := by omega
    subst this
    exact ⟨b, e2, hb⟩
  have meets : ∀ j (hj : j < t.length), -1 ≤ meetZ g t[j].leaf a ∧ meetZ g t[j].leaf a ≤ g := fun j hj => by
    obtain ⟨b, hb, hb2⟩ := leafs j hj
    rw [hb, meetZ_at hg hb2 ha]
    have := (meet_sym hg hb2 ha).2.2
    omega
  have hf : ∀ m ∈ t, evF g a m ≤ g := fun m hm => by
    obtain ⟨j, hj, rfl⟩ := List.mem_iff_getElem.1 hm
    exact (meets j hj).2
  obtain ⟨e1, e2, e3, e4, e5, e6⟩ := ev_book s1 s4 hf
  have hp : planZ t g y a = evOut (evF g a) g t := by unfold planZ; rw [if_pos hpb, Int.toNat_natCast]
  refine ⟨_, hp, fun k hk => ?_, fun k hk q hq => ?_, fun k hk j hj q hq hid => ?_, e4, fun j hj L h1 h2 => e5 _ (List.getElem_mem hj) L h1 h2, e6, meets, ?_, lvOf_bd e1, fun j hj => by obtain ⟨b, hb, hb2⟩ := leafs j hj; have := pow_64 hg; omega⟩
  · have := e1 _ (List.getElem_mem hk)
    exact ⟨(evOut (evF g a) g t)[k].lev.toNat, by omega, by omega⟩
  · obtain ⟨i, hi, rfl⟩ := List.mem_take_iff_getElem.1 hq
    exact List.pairwise_iff_getElem.1 e2 i k (by omega) hk (by omega)
  · have h1 := e3 _ (List.getElem_mem hk) _ (List.getElem_mem hj) hid
    rw [hq] at h1
    obtain ⟨b, hb, hb2⟩ := leafs j hj
    have h2 := meets j hj
    unfold evF at h1
    rw [hb] at h1 h2 ⊢
    rw [meetZ_at hg hb2 ha] at h1
    have hqg := (e1 _ (List.getElem_mem hk)).2
    rw [hq] at hqg
    have h3 := (meet_at hg ha hb2 (show q ≤ g by omega)).1
    have h4 := (meet_sym hg ha hb2).1
    rw [onZ_at hg hb2, h3]
    simp; omega
  · unfold restZ
    rw [if_pos hpb, hp]
end Go.Proofs.Ytmkgddbdkpkgpaa
end
