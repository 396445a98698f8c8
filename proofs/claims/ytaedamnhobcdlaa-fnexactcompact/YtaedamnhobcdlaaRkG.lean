/- Rankings, plain: Compact by the places of the records, through a net. No function of the program in it. -/
import Derived.Test.YtaedamnhobcdlaaRkL
namespace Go.Proofs.Ytaedamnhobcdlaa
open Go.RowKit
set_option linter.unusedVariables false

/-- A record and its place in a list. -/
structure PlM where
  rc : RecM
  pos : Int
def zeroP : PlM := ⟨zeroR, 0⟩
def placL (p : PlM) : List Value := recL p.rc ++ [.int .i64 p.pos]
theorem placL_len (p : PlM) : (placL p).length = 5 := rfl
theorem placL_one (p : PlM) : ∀ v ∈ placL p, v.oneCell' = true := by
  intro v hv
  rcases List.mem_append.1 hv with h | h
  · exact recL_one _ v h
  · simp at h; subst h; rfl
def aheadQ (p q : PlM) : Bool := p.rc.live && (!q.rc.live || decide (p.pos < q.pos))
def pairAQ (x y : PlM) : PlM := if aheadQ y x = true then y else x
def pairBQ (x y : PlM) : PlM := if aheadQ y x = true then x else y
def stepQ (l : List PlM) (a b : Nat) : List PlM := (l.set a (pairAQ (l.getD a zeroP) (l.getD b zeroP))).set b (pairBQ (l.getD a zeroP) (l.getD b zeroP))
theorem stepQ_length (l : List PlM) (a b : Nat) : (stepQ l a b).length = l.length := by simp [stepQ]
def wireQ (l : List PlM) (t : WireM) : List PlM := stepQ l t.a.toNat t.b.toNat
def runQ (ws : List WireM) (l : List PlM) : List PlM := ws.foldl wireQ l
theorem runQ_length : ∀ (ws : List WireM) (l : List PlM), (runQ ws l).length = l.length
  | [], l => rfl
  | t :: ws, l => by show (runQ ws (wireQ l t)).length = _; rw [runQ_length ws, wireQ, stepQ_length]
theorem runQ_next {ws : List WireM} {k : Nat} (h : k < ws.length) (l : List PlM) : runQ (ws.take (k + 1)) l = wireQ (runQ (ws.take k) l) ws[k] := by
  unfold runQ; rw [List.take_succ_eq_append_getElem h, List.foldl_append]; rfl
theorem stepQ_perm {O : List PlM} {p q : Nat} (hp : p < O.length) (hq : q < O.length) : (stepQ O p q).Perm O := by
  have gp : O.getD p zeroP = O[p] := by rw [List.getD_eq_getElem?_getD]; simp [hp]
  have gq : O.getD q zeroP = O[q] := by rw [List.getD_eq_getElem?_getD]; simp [hq]
  unfold stepQ pairAQ pairBQ
  rw [gp, gq]
  cases aheadQ O[q] O[p]
  · simp
  · simp only [if_true]
    exact swap_perm hp hq
theorem runQ_perm {n : Nat} : ∀ (ws : List WireM) (O : List PlM), O.length = n → (∀ t ∈ ws, WireOk n t) → (runQ ws O).Perm O
  | [], O, _, _ => List.Perm.refl _
  | t :: ws, O, hl, hw => by
    have h1 := runQ_perm ws (wireQ O t) (by rw [wireQ, stepQ_length, hl]) (fun x hx => hw x (List.mem_cons_of_mem _ hx))
    have ht := hw t (by simp)
    unfold WireOk at ht
    exact h1.trans (stepQ_perm (by omega) (by omega))
theorem runQ_mem {n : Nat} {ws : List WireM} {l : List PlM} (hl : l.length = n) (hw : ∀ t ∈ ws, WireOk n t) : ∀ t ∈ runQ ws l, t ∈ l := fun t ht => (runQ_perm ws l hl hw).mem_iff.1 ht
/-- The place that counts: empty ones stand behind all others. -/
def keyQ (p : PlM) : Int := if p.rc.live = true then p.pos else 64
def PlOk (p : PlM) : Prop := 0 ≤ p.pos ∧ p.pos < 64
theorem aheadQ_key {x y : PlM} (hx : PlOk x) (hy : PlOk y) : aheadQ y x = true ↔ keyQ y < keyQ x := by
  unfold PlOk at hx hy
  unfold aheadQ keyQ
  cases hx1 : x.rc.live <;> cases hy1 : y.rc.live <;> simp <;> omega
theorem pair_keyQ {x y : PlM} (hx : PlOk x) (hy : PlOk y) : keyQ (pairAQ x y) = min (keyQ x) (keyQ y) ∧ keyQ (pairBQ x y) = max (keyQ x) (keyQ y) := by
  have h := aheadQ_key hx hy
  unfold pairAQ pairBQ
  cases e : aheadQ y x
  · have : ¬ keyQ y < keyQ x := fun k => by rw [h.2 k] at e; cases e
    simp; omega
  · have := h.1 e
    simp; omega
theorem stepQ_map {O : List PlM} {n : Nat} {t : WireM} (hl : O.length = n) (ht : WireOk n t) (hO : ∀ p ∈ O, PlOk p) : (stepQ O t.a.toNat t.b.toNat).map keyQ = wireRun (O.map keyQ) t := by
  unfold WireOk at ht
  obtain ⟨p, q, hp, hq, hpq, hqn⟩ := ht
  rw [hp, hq]
  have hp1 : p < O.length := by omega
  have hq1 : q < O.length := by omega
  simp only [Int.toNat_natCast]
  unfold stepQ wireRun
  rw [hp, hq]
  simp only [Int.toNat_natCast]
  have gp : O.getD p zeroP = O[p] := by rw [List.getD_eq_getElem?_getD]; simp [hp1]
  have gq : O.getD q zeroP = O[q] := by rw [List.getD_eq_getElem?_getD]; simp [hq1]
  have mp : (O.map keyQ).getD p 0 = keyQ O[p] := by rw [List.getD_eq_getElem?_getD]; simp [hp1]
  have mq : (O.map keyQ).getD q 0 = keyQ O[q] := by rw [List.getD_eq_getElem?_getD]; simp [hq1]
  rw [gp, gq, mp, mq]
  obtain ⟨k1, k2⟩ := pair_keyQ (hO _ (List.getElem_mem hp1)) (hO _ (List.getElem_mem hq1))
  rw [List.map_set, List.map_set, k1, k2]
theorem runQ_map {n : Nat} : ∀ (ws : List WireM) (O : List PlM), O.length = n → (∀ t ∈ ws, WireOk n t) → (∀ p ∈ O, PlOk p) → (runQ ws O).map keyQ = runW ws (O.map keyQ)
  | [], O, _, _, _ => rfl
  | t :: ws, O, hl, hw, hO => by
    have h1 := stepQ_map hl (hw t (by simp)) hO
    have h2 : ∀ p ∈ wireQ O t, PlOk p := fun p hp => hO p (runQ_mem (ws := [t]) hl (fun x hx => by simp at hx; subst hx; exact hw _ (by simp)) p hp)
    show (runQ ws (wireQ O t)).map keyQ = runW ws (wireRun (O.map keyQ) t)
    rw [runQ_map ws (wireQ O t) (by rw [wireQ, stepQ_length, hl]) (fun x hx => hw x (List.mem_cons_of_mem _ hx)) h2]
    unfold wireQ
    rw [h1]
/-- The records with their places. -/
def plFrom : Nat → List RecM → List PlM
  | _, [] => []
  | i, r :: l => ⟨r, i⟩ :: plFrom (i + 1) l
theorem plFrom_length : ∀ (l : List RecM) (i : Nat), (plFrom i l).length = l.length
  | [], i => rfl
  | r :: l, i => by simp [plFrom, plFrom_length l]
theorem plFrom_get : ∀ (l : List RecM) (i k : Nat) (h : k < (plFrom i l).length), (plFrom i l)[k] = ⟨l[k]'(by rwa [plFrom_length] at h), (i + k : Nat)⟩
  | r :: l, i, 0, h => by simp [plFrom]
  | r :: l, i, k + 1, h => by
    simp only [plFrom, List.getElem_cons_succ]
    rw [plFrom_get l (i + 1) k (by simpa [plFrom] using h)]
    simp; omega
theorem plFrom_filter : ∀ (l : List RecM) (i : Nat), ((plFrom i l).filter (·.rc.live)).map (·.rc) = l.filter (·.live)
  | [], i => rfl
  | r :: l, i => by
    rw [plFrom]
    cases e : r.live
    · rw [List.filter_cons_of_neg (by simp [e]), List.filter_cons_of_neg (by simp [e]), plFrom_filter l]
    · rw [List.filter_cons_of_pos (by simp [e]), List.filter_cons_of_pos (by simp [e]), List.map_cons, plFrom_filter l]
theorem plFrom_mem {l : List RecM} {p : PlM} (h : p ∈ plFrom 0 l) : ∃ (k : Nat) (hk : k < l.length), p = ⟨l[k], k⟩ := by
  obtain ⟨k, hk, rfl⟩ := List.mem_iff_getElem.1 h
  exact ⟨k, by rwa [plFrom_length] at hk, by rw [plFrom_get]; simp⟩
theorem plFrom_pair (l : List RecM) : (plFrom 0 l).Pairwise (fun x y => x.pos < y.pos) := by
  rw [List.pairwise_iff_getElem]
  intro i j hi hj hij
  rw [plFrom_get, plFrom_get]
  simp; exact hij
/-- The places put side by side with empty ones: what the net is given. -/
def placesM (l : List RecM) (n : Nat) : List PlM := plFrom 0 l ++ List.replicate (n - l.length) zeroP
theorem placesM_length {l : List RecM} {n : Nat} (h : l.length ≤ n) : (placesM l n).length = n := by unfold placesM; simp [plFrom_length]; omega
theorem placesM_mem {l : List RecM} {n : Nat} (hl : l.length ≤ 64) {p : PlM} (h : p ∈ placesM l n) : PlOk p ∧ (p.rc.live = true → ∃ (k : Nat) (hk : k < l.length), p = ⟨l[k], k⟩) ∧ (p.rc ∈ l ∨ p.rc = zeroR) := by
  rcases List.mem_append.1 h with h | h
  · obtain ⟨k, hk, rfl⟩ := plFrom_mem h
    exact ⟨by unfold PlOk; simp; omega, fun _ => ⟨k, hk, rfl⟩, .inl (List.getElem_mem hk)⟩
  · obtain ⟨_, rfl⟩ := List.mem_replicate.1 h
    exact ⟨by unfold PlOk zeroP; simp, fun h => by simp [zeroP, zeroR] at h, .inr rfl⟩
theorem filter_split {R : List PlM} (h : R.Pairwise (fun x y => keyQ x ≤ keyQ y)) (hO : ∀ p ∈ R, PlOk p) : R = R.filter (·.rc.live) ++ R.filter (fun p => !p.rc.live) := by
  induction R with
  | nil => rfl
  | cons x R ih =>
    have hp := List.pairwise_cons.1 h
    have ih := ih hp.2 (fun p hp => hO p (List.mem_cons_of_mem _ hp))
    cases e : x.rc.live
    · have none : R.filter (·.rc.live) = [] := by
        rw [List.filter_eq_nil_iff]
        intro y hy hl
        have h1 := hp.1 y hy
        have h2 := hO y (List.mem_cons_of_mem _ hy)
        unfold PlOk at h2
        unfold keyQ at h1
        rw [e, hl] at h1
        simp at h1; omega
      rw [List.filter_cons_of_neg (by simp [e]), List.filter_cons_of_pos (by simp [e]), none, List.nil_append]
      rw [none, List.nil_append] at ih
      rw [← ih]
    · rw [List.filter_cons_of_pos (by simp [e]), List.filter_cons_of_neg (by simp [e]), List.cons_append, ← ih]
theorem net_compact {m : NetM} {n : Nat} (G : GoodNet m n) {l : List RecM} (hl : l.length ≤ n) (h64 : l.length ≤ 64) (hO : okAll l) : ((runQ m.ws (placesM l n)).take l.length).map (·.rc) = compactL l := by
  obtain ⟨n', e, _, _, _, hw⟩ := netOkB_ok G.ok
  have hn : n = n' := by have := G.size; omega
  subst hn
  have hlen := placesM_length hl
  have hP := runQ_perm m.ws (placesM l n) hlen hw
  have okR : ∀ p ∈ runQ m.ws (placesM l n), PlOk p := fun p hp => (placesM_mem h64 (hP.mem_iff.1 hp)).1
  have hS : (runQ m.ws (placesM l n)).Pairwise (fun x y => keyQ x ≤ keyQ y) := by
    have h1 := sorted_pairwise (G.sort ((placesM l n).map keyQ) (by simpa using hlen))
    rwa [← runQ_map m.ws (placesM l n) hlen hw (fun p hp => (placesM_mem h64 hp).1), List.pairwise_map] at h1
  have hRl : (runQ m.ws (placesM l n)).length = n := by rw [runQ_length, hlen]
  generalize runQ m.ws (placesM l n) = R at *
  have fL : R.filter (·.rc.live) = (plFrom 0 l).filter (·.rc.live) := by
    have hp1 : (R.filter (·.rc.live)).Perm ((plFrom 0 l).filter (·.rc.live)) := by
      have := hP.filter (·.rc.live)
      unfold placesM at this
      rw [List.filter_append] at this
      have e0 : (List.replicate (n - l.length) zeroP).filter (·.rc.live) = [] := by
        rw [List.filter_eq_nil_iff]; intro p hp; rw [(List.mem_replicate.1 hp).2]; simp [zeroP, zeroR]
      rwa [e0, List.append_nil] at this
    refine List.Perm.eq_of_pairwise (le := fun x y => keyQ x ≤ keyQ y) (fun a b ha hb x y => ?_) (hS.sublist List.filter_sublist) ?_ hp1
    · have ha := List.mem_filter.1 (hp1.mem_iff.1 ha)
      have hb := List.mem_filter.1 hb
      obtain ⟨i, hi, rfl⟩ := plFrom_mem ha.1
      obtain ⟨j, hj, rfl⟩ := plFrom_mem hb.1
      have h1 := ha.2
      have h2 := hb.2
      simp only at h1 h2
      unfold keyQ at x y
      simp only [h1, h2, if_true] at x y
      have : i = j := by omega
      subst this; rfl
    · refine ((plFrom_pair l).sublist List.filter_sublist).imp_of_mem (fun {a b} ha hb h => ?_)
      have h1 := (List.mem_filter.1 ha).2
      have h2 := (List.mem_filter.1 hb).2
      unfold keyQ
      simp only [h1, h2, if_true]
      omega
  have fD : (R.filter (fun p => !p.rc.live)).map (·.rc) = List.replicate (n - (l.filter (·.live)).length) zeroR := by
    rw [List.eq_replicate_iff]
    constructor
    · have h1 := congrArg List.length (filter_split hS okR)
      rw [List.length_append, hRl, fL] at h1
      have h2 := congrArg List.length (plFrom_filter l 0)
      rw [List.length_map] at h2 ⊢
      omega
    · intro r hr
      obtain ⟨p, hp, rfl⟩ := List.mem_map.1 hr
      have hp := List.mem_filter.1 hp
      rcases (placesM_mem h64 (hP.mem_iff.1 hp.1)).2.2 with h | h
      · exact live_or hO _ h (by simpa using hp.2)
      · exact h
  rw [List.map_take, filter_split hS okR, List.map_append, fD, fL, plFrom_filter]
  unfold compactL
  have hc := List.length_filter_le (·.live) l
  rw [List.take_append, List.take_of_length_le hc, List.take_replicate]
  congr 2
  omega
end Go.Proofs.Ytaedamnhobcdlaa
