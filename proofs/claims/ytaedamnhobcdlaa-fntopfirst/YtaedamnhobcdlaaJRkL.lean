/- RkN, RkL in one. Written by tools/join.py. -/
import Derived.Test.YtaedamnhobcdlaaJRecR
import Derived.Test.YtaedamnhobcdlaaJRkB
import Derived.Test.YtaedamnhobcdlaaJNs
import Derived.Test.YtaedamnhobcdlaaJRecU
section
namespace Go.Proofs.Ytaedamnhobcdlaa
open Go.RowKit
set_option linter.unusedVariables false

def okAll (l : List RecM) : Prop := ∀ t ∈ l, recOkB t = true
/-- x may stand ahead of y. -/
def leR (x y : RecM) : Prop := aheadB y x = false
theorem leR_key {x y : RecM} (hx : recOkB x = true) (hy : recOkB y = true) : leR x y ↔ keyZ x ≤ keyZ y := by
  unfold leR
  have h := key_less hy hx
  cases e : aheadB y x
  · have : ¬ keyZ y < keyZ x := fun k => by rw [h.2 k] at e; cases e
    simp; omega
  · have := h.1 e
    simp; omega
theorem leR_anti {x y : RecM} (hx : recOkB x = true) (hy : recOkB y = true) (h : leR x y) (k : leR y x) : x = y :=
  key_inj hx hy (Int.le_antisymm ((leR_key hx hy).1 h) ((leR_key hy hx).1 k))
theorem stepR_map {O : List RecM} {n : Nat} {t : WireM} (hl : O.length = n) (ht : WireOk n t) (hO : okAll O) : (stepR O t.a.toNat t.b.toNat).map keyZ = wireRun (O.map keyZ) t := by
  unfold WireOk at ht
  obtain ⟨p, q, hp, hq, hpq, hqn⟩ := ht
  rw [hp, hq]
  have hp1 : p < O.length := by omega
  have hq1 : q < O.length := by omega
  simp only [Int.toNat_natCast]
  unfold stepR wireRun
  rw [hp, hq]
  simp only [Int.toNat_natCast]
  have gp : O.getD p zeroR = O[p] := by rw [List.getD_eq_getElem?_getD]; simp [hp1]
  have gq : O.getD q zeroR = O[q] := by rw [List.getD_eq_getElem?_getD]; simp [hq1]
  have mp : (O.map keyZ).getD p 0 = keyZ O[p] := by rw [List.getD_eq_getElem?_getD]; simp [hp1]
  have mq : (O.map keyZ).getD q 0 = keyZ O[q] := by rw [List.getD_eq_getElem?_getD]; simp [hq1]
  rw [gp, gq, mp, mq]
  obtain ⟨k1, k2⟩ := pair_key (hO _ (List.getElem_mem hp1)) (hO _ (List.getElem_mem hq1))
  rw [List.map_set, List.map_set, k1, k2]
theorem runRm_ok {n : Nat} {ws : List WireM} {O : List RecM} (hl : O.length = n) (hw : ∀ t ∈ ws, WireOk n t) (hO : okAll O) : okAll (runRm ws O) := fun t ht => hO t (runRm_mem ws O hl hw t ht)
theorem runRm_map {n : Nat} : ∀ (ws : List WireM) (O : List RecM), O.length = n → (∀ t ∈ ws, WireOk n t) → okAll O → (runRm ws O).map keyZ = runW ws (O.map keyZ)
  | [], O, _, _, _ => rfl
  | t :: ws, O, hl, hw, hO => by
    have h1 := stepR_map hl (hw t (by simp)) hO
    have h2 := runRm_ok (ws := [t]) hl (fun x hx => by simp at hx; subst hx; exact hw _ (by simp)) hO
    show (runRm ws (wireRec O t)).map keyZ = runW ws (wireRun (O.map keyZ) t)
    rw [runRm_map ws (wireRec O t) (by rw [wireRec, stepR_length, hl]) (fun x hx => hw x (List.mem_cons_of_mem _ hx)) h2]
    unfold wireRec
    rw [h1]
theorem sorted_pairwise {l : List Int} (h : sortedB l = true) : l.Pairwise (· ≤ ·) := by
  have h := sortedB_true.1 h
  rw [List.pairwise_iff_getElem]
  intro i j hi hj hij
  have key : ∀ d, ∀ (hd : i + d < l.length), l[i] ≤ l[i + d] := fun d => by
    induction d with
    | zero => intro hd; exact Int.le_refl _
    | succ d ih =>
      intro hd
      have a := ih (by omega)
      have b := h (i + d) (by omega)
      have e1 : l.getD (i + d) 0 = l[i + d] := by rw [List.getD_eq_getElem?_getD, List.getElem?_eq_getElem (by omega)]; rfl
      have e2 : l.getD (i + d + 1) 0 = l[i + d + 1] := by rw [List.getD_eq_getElem?_getD, List.getElem?_eq_getElem (by omega)]; rfl
      rw [e1, e2] at b
      exact Int.le_trans a b
  have := key (j - i) (by omega)
  simpa [show i + (j - i) = j from by omega] using this
theorem swap_perm {α : Type} : ∀ {l : List α} {p q : Nat} (hp : p < l.length) (hq : q < l.length), ((l.set p l[q]).set q l[p]).Perm l := by
  intro l p q hp hq
  exact List.set_set_perm hp hq
theorem stepR_perm {O : List RecM} {p q : Nat} (hp : p < O.length) (hq : q < O.length) : (stepR O p q).Perm O := by
  have gp : O.getD p zeroR = O[p] := by rw [List.getD_eq_getElem?_getD]; simp [hp]
  have gq : O.getD q zeroR = O[q] := by rw [List.getD_eq_getElem?_getD]; simp [hq]
  unfold stepR pairA pairB
  rw [gp, gq]
  cases aheadB O[q] O[p]
  · simp
  · simp only [if_true]
    exact swap_perm hp hq
theorem runRm_perm {n : Nat} : ∀ (ws : List WireM) (O : List RecM), O.length = n → (∀ t ∈ ws, WireOk n t) → (runRm ws O).Perm O
  | [], O, _, _ => List.Perm.refl _
  | t :: ws, O, hl, hw => by
    have h1 := runRm_perm ws (wireRec O t) (by rw [wireRec, stepR_length, hl]) (fun x hx => hw x (List.mem_cons_of_mem _ hx))
    have ht := hw t (by simp)
    unfold WireOk at ht
    exact h1.trans (stepR_perm (by omega) (by omega))
theorem net_sorts {m : NetM} {n : Nat} (G : GoodNet m n) {O : List RecM} (hl : O.length = n) (hO : okAll O) : (runRm m.ws O).Pairwise leR ∧ (runRm m.ws O).Perm O := by
  obtain ⟨n', e, _, _, _, hw⟩ := netOkB_ok G.ok
  have : n = n' := by have := G.size; omega
  subst this
  refine ⟨?_, runRm_perm m.ws O hl hw⟩
  have h1 := sorted_pairwise (G.sort (O.map keyZ) (by simpa using hl))
  rw [← runRm_map m.ws O hl hw hO, List.pairwise_map] at h1
  have ok := runRm_ok hl hw hO
  exact h1.imp_of_mem (fun ha hb h => (leR_key (ok _ ha) (ok _ hb)).2 h)
/-- Records put in one by one. -/
theorem insR_perm (O : List RecM) (r : RecM) : (insR O r).Perm (r :: O) := by
  unfold insR
  have := List.perm_middle (a := r) (l₁ := O.take (posDown O r O.length)) (l₂ := O.drop (posDown O r O.length))
  rw [List.take_append_drop] at this
  exact this
theorem insAll_perm (l : List RecM) : (insAll l).Perm l := by
  have key : ∀ (l out : List RecM), (l.foldl insR out).Perm (out ++ l) := fun l => by
    induction l with
    | nil => intro out; simp
    | cons x l ih =>
      intro out
      refine (ih (insR out x)).trans ?_
      refine ((insR_perm out x).append_right l).trans ?_
      exact (List.perm_middle (a := x) (l₁ := out) (l₂ := l)).symm
  simpa [insAll] using key l []
theorem posDown_spec {O : List RecM} {r : RecM} : ∀ k, k ≤ O.length → (∀ i, posDown O r k ≤ i → i < k → aheadB r (O.getD i zeroR) = true) ∧ (0 < posDown O r k → aheadB r (O.getD (posDown O r k - 1) zeroR) = false)
  | 0, _ => ⟨fun i _ h => by omega, fun h => by simp [posDown] at h⟩
  | k + 1, hk => by
    obtain ⟨h1, h2⟩ := posDown_spec (O := O) (r := r) k (by omega)
    cases e : aheadB r (O.getD k zeroR)
    · rw [posDown, if_neg (by rw [e]; decide)]
      exact ⟨fun i a b => by omega, fun _ => by simpa using e⟩
    · rw [posDown, if_pos e]
      exact ⟨fun i a b => by
        rcases Nat.lt_or_ge i k with h | h
        · exact h1 i a h
        · have : i = k := by omega
          subst this; exact e, h2⟩
theorem insR_sorted {O : List RecM} {r : RecM} (hO : okAll O) (hr : recOkB r = true) (h : O.Pairwise leR) : (insR O r).Pairwise leR := by
  obtain ⟨s1, s2⟩ := posDown_spec (O := O) (r := r) O.length (Nat.le_refl _)
  have hp := posDown_le O r O.length
  unfold insR
  generalize posDown O r O.length = p at *
  have gd : ∀ i (hi : i < O.length), O.getD i zeroR = O[i] := fun i hi => by rw [List.getD_eq_getElem?_getD]; simp [hi]
  have hk := List.pairwise_iff_getElem.1 h
  have lo : ∀ x ∈ O.take p, leR x r := fun x hx => by
    obtain ⟨i, hi, rfl⟩ := List.mem_iff_getElem.1 hx
    simp at hi
    rw [List.getElem_take]
    have e := s2 (by omega)
    rw [gd (p - 1) (by omega)] at e
    have e1 : keyZ O[p - 1] ≤ keyZ r := (leR_key (hO _ (List.getElem_mem _)) hr).1 e
    have e2 : keyZ O[i] ≤ keyZ O[p - 1] := by
      rcases Nat.lt_or_ge i (p - 1) with h | h
      · exact (leR_key (hO _ (List.getElem_mem _)) (hO _ (List.getElem_mem _))).1 (hk i (p - 1) (by omega) (by omega) h)
      · have : i = p - 1 := by omega
        subst this; exact Int.le_refl _
    exact (leR_key (hO _ (List.getElem_mem _)) hr).2 (Int.le_trans e2 e1)
  have up : ∀ x ∈ O.drop p, leR r x := fun x hx => by
    obtain ⟨i, hi, rfl⟩ := List.mem_iff_getElem.1 hx
    simp at hi
    rw [List.getElem_drop]
    have e := s1 (p + i) (by omega) (by omega)
    rw [gd (p + i) (by omega)] at e
    have := (key_less hr (hO _ (List.getElem_mem _))).1 e
    exact (leR_key hr (hO _ (List.getElem_mem _))).2 (by omega)
  rw [List.pairwise_append]
  refine ⟨h.sublist (List.take_sublist _ _), List.pairwise_cons.2 ⟨up, h.sublist (List.drop_sublist _ _)⟩, fun x hx y hy => ?_⟩
  rcases List.mem_cons.1 hy with rfl | hy
  · exact lo x hx
  · have a := (leR_key (hO _ (List.mem_of_mem_take hx)) hr).1 (lo x hx)
    have b := (leR_key hr (hO _ (List.mem_of_mem_drop hy))).1 (up y hy)
    exact (leR_key (hO _ (List.mem_of_mem_take hx)) (hO _ (List.mem_of_mem_drop hy))).2 (Int.le_trans a b)
theorem insAll_sorted {l : List RecM} (hl : okAll l) : (insAll l).Pairwise leR := by
  have key : ∀ (l out : List RecM), okAll l → okAll out → out.Pairwise leR → (l.foldl insR out).Pairwise leR := fun l => by
    induction l with
    | nil => intro out _ _ h; exact h
    | cons x l ih =>
      intro out h1 h2 h3
      have hx := h1 x (by simp)
      exact ih _ (fun t ht => h1 t (List.mem_cons_of_mem _ ht)) (fun t ht => by
        rcases List.mem_cons.1 ((insR_perm out x).mem_iff.1 ht) with rfl | h
        · exact hx
        · exact h2 t h) (insR_sorted h2 hx h3)
  exact key l [] hl (fun t h => by simp at h) List.Pairwise.nil
theorem insAll_ok {l : List RecM} (hl : okAll l) : okAll (insAll l) := fun t ht => hl t ((insAll_perm l).mem_iff.1 ht)
/-- A good net, with empty records behind the list, ranks as the model does. -/
theorem net_rank {m : NetM} {n : Nat} (G : GoodNet m n) {l : List RecM} (hl : l.length ≤ n) (hO : okAll l) : runRm m.ws (l ++ List.replicate (n - l.length) zeroR) = insAll l ++ List.replicate (n - l.length) zeroR := by
  have ok1 : okAll (l ++ List.replicate (n - l.length) zeroR) := fun t ht => by
    rcases List.mem_append.1 ht with h | h
    · exact hO t h
    · rw [(List.mem_replicate.1 h).2]; rfl
  have ok2 : okAll (insAll l ++ List.replicate (n - l.length) zeroR) := fun t ht => by
    rcases List.mem_append.1 ht with h | h
    · exact insAll_ok hO t h
    · rw [(List.mem_replicate.1 h).2]; rfl
  obtain ⟨h1, h2⟩ := net_sorts G (O := l ++ List.replicate (n - l.length) zeroR) (by simp; omega) ok1
  have ok3 : okAll (runRm m.ws (l ++ List.replicate (n - l.length) zeroR)) := fun t ht => ok1 t (h2.mem_iff.1 ht)
  refine List.Perm.eq_of_pairwise (le := leR) (fun a b ha hb x y => leR_anti (ok3 a ha) (ok2 b hb) x y) h1 ?_ (h2.trans ((insAll_perm l).symm.append_right _))
  rw [List.pairwise_append]
  refine ⟨insAll_sorted hO, ?_, fun x hx y hy => ?_⟩
  · rw [List.pairwise_replicate]
    exact .inr ((leR_key rfl rfl).2 (Int.le_refl _))
  · rw [(List.mem_replicate.1 hy).2]
    exact (leR_key (insAll_ok hO x hx) rfl).2 (key_max (insAll_ok hO x hx))
end Go.Proofs.Ytaedamnhobcdlaa
end

section
namespace Go.Proofs.Ytaedamnhobcdlaa
open Go.RowKit
set_option linter.unusedVariables false

theorem recsOkB_all {l : List RecM} (h : recsOkB l = true) : okAll l := by
  have hl := recsOkB_len h
  rw [recsOkB_at hl, List.all_eq_true] at h
  exact h
theorem insAll_of_perm {a b : List RecM} (ha : okAll a) (h : a.Perm b) : insAll a = insAll b := by
  have hb : okAll b := fun t ht => ha t (h.mem_iff.2 ht)
  exact List.Perm.eq_of_pairwise (le := leR) (fun x y hx hy p q => leR_anti (insAll_ok ha x hx) (insAll_ok hb y hy) p q) (insAll_sorted ha) (insAll_sorted hb) (((insAll_perm a).trans h).trans (insAll_perm b).symm)
/-- A ranking has each record as often as the list. -/
theorem times_rank (l : List RecM) (r : RecM) : timesB (insAll l) r = timesB l r := ((insAll_perm l).filter _).length_eq
theorem times_pos {l : List RecM} {r : RecM} (h : r ∈ l) : 0 < timesB l r := List.length_pos_of_mem (List.mem_filter.2 ⟨h, recEqB_self r⟩)
/-- No record of a ranking is ahead of the one ahead of it. -/
theorem rank_adj {l : List RecM} (hl : okAll l) {i : Nat} (hi : i + 1 < (insAll l).length) : aheadB (insAll l)[i + 1] (insAll l)[i] = false :=
  List.pairwise_iff_getElem.1 (insAll_sorted hl) i (i + 1) (by omega) hi (by omega)
/-- Both nets find the ranking. -/
theorem net_take {m : NetM} {n : Nat} (G : GoodNet m n) {l : List RecM} (hl : l.length ≤ n) (hO : okAll l) : (runRm m.ws (l ++ List.replicate (n - l.length) zeroR)).take l.length = insAll l := by
  rw [net_rank G hl hO, ← insAll_length l, List.take_left]
/-- The list packed together: the same records. -/
theorem live_or {l : List RecM} (hO : okAll l) : ∀ t ∈ l, t.live = false → t = zeroR := fun t ht hl => by
  rcases recOkB_cases (hO t ht) with h | h
  · exact h
  · have := (liveB_ok h).1; rw [hl] at this; cases this
theorem filter_perm {α : Type} (p : α → Bool) : ∀ l : List α, (l.filter p ++ l.filter (fun x => !p x)).Perm l
  | [] => List.Perm.refl _
  | x :: l => by
    cases e : p x
    · rw [List.filter_cons_of_neg (by simp [e]), List.filter_cons_of_pos (by simp [e])]
      exact List.perm_middle.trans ((filter_perm p l).cons x)
    · rw [List.filter_cons_of_pos e, List.filter_cons_of_neg (by simp [e])]
      exact (filter_perm p l).cons x
theorem compact_perm {l : List RecM} (hO : okAll l) : (compactL l).Perm l := by
  have h := filter_perm (fun r : RecM => r.live) l
  have e : l.filter (fun x => !x.live) = List.replicate (l.length - (l.filter (fun r : RecM => r.live)).length) zeroR := by
    have hn := h.length_eq
    rw [List.length_append] at hn
    rw [List.eq_replicate_iff]
    refine ⟨by omega, fun t ht => ?_⟩
    have ht := List.mem_filter.1 ht
    exact live_or hO t ht.1 (by simpa using ht.2)
  rw [e] at h
  exact h
theorem compact_rank {l : List RecM} (hO : okAll l) : insAll (compactL l) = insAll l :=
  insAll_of_perm (fun t ht => hO t ((compact_perm hO).mem_iff.1 ht)) (compact_perm hO)
theorem compact_ok {l : List RecM} (h : recsOkB l = true) : recsOkB (compactL l) = true := by
  have hl := recsOkB_len h
  rw [recsOkB_at (by rw [compactL_length]; exact hl), List.all_eq_true]
  exact fun t ht => recsOkB_all h t ((compact_perm (recsOkB_all h)).mem_iff.1 ht)
/-- The first of a ranking hang on the Live records alone. -/
theorem top_compact {l : List RecM} (h : recsOkB l = true) (k : Int) : topM (compactL l) k = topM l k := by
  unfold topM topB
  rw [compact_ok h, h, compact_rank (recsOkB_all h), compactL_length]
theorem top_length {l : List RecM} {k : Nat} (h : topB l k = true) : (topM l k).length = k := by
  unfold topM
  rw [if_pos h]
  have := insAll_length l
  simp; omega
/-- The Live records of the packed list, one after the other. -/
theorem packed_at {l : List RecM} {i : Nat} (hi : i < l.length) (hl : l[i].live = true) : ((l.take i).filter (·.live)).length < (compactL l).length ∧ (compactL l).getD ((l.take i).filter (·.live)).length zeroR = l[i] := by
  have e : l.filter (·.live) = (l.take i).filter (·.live) ++ (l[i] :: (l.drop (i + 1)).filter (·.live)) := by
    conv => lhs; rw [← List.take_append_drop i l, List.drop_eq_getElem_cons hi]
    rw [List.filter_append, List.filter_cons_of_pos hl]
  have hlen : ((l.take i).filter (·.live)).length < (l.filter (·.live)).length := by rw [e]; simp
  refine ⟨by unfold compactL; simp; omega, ?_⟩
  unfold compactL
  rw [List.getD_eq_getElem?_getD, List.getElem?_append_left hlen, e, List.getElem?_append_right (Nat.le_refl _)]
  simp
/-- A record that is ahead of one of the first stands among them. -/
theorem top_has {l : List RecM} {k j : Nat} (h : topB l k = true) {x : RecM} (hx : x ∈ l) (hj : j < k) (ha : aheadB x ((topM l k).getD j zeroR) = true) : x ∈ topM l k := by
  have hok : recsOkB l = true := by unfold topB at h; simp only [Bool.and_eq_true] at h; exact h.1
  have hO := recsOkB_all hok
  have hxs : x ∈ insAll l := (insAll_perm l).mem_iff.2 hx
  obtain ⟨p, hp, rfl⟩ := List.mem_iff_getElem.1 hxs
  have e : topM l k = (insAll l ++ List.replicate (k - l.length) zeroR).take k := by unfold topM; rw [if_pos h]; simp
  rcases Nat.lt_or_ge p k with hpk | hpk
  · rw [e, List.mem_take_iff_getElem]
    exact ⟨p, by simp; omega, by rw [List.getElem_append_left hp]⟩
  · exfalso
    have ej : (topM l k).getD j zeroR = (insAll l)[j]'(by omega) := by
      rw [e, List.getD_eq_getElem?_getD, List.getElem?_take_of_lt hj, List.getElem?_append_left (by omega), List.getElem?_eq_getElem (by omega)]; rfl
    rw [ej] at ha
    have := List.pairwise_iff_getElem.1 (insAll_sorted hO) j p (by omega) hp (by omega)
    unfold leR at this
    rw [this] at ha; cases ha
end Go.Proofs.Ytaedamnhobcdlaa
end
