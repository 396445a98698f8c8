/- Rankings, plain: what the laws of chapter 10 say. No function of the program in it. -/
import Derived.Test.YtaedamnhobcdlaaRkN
import Derived.Test.YtaedamnhobcdlaaLwR
namespace Go.Proofs.Ytaedamnhobcdlaa
open Go.RowKit
set_option linter.unusedVariables false

theorem recsOkB_all {l : List RecM} (h : recsOkB l = true) : okAll l := by
  have hl := recsOkB_len h
  rw [recsOkB_at hl, List.all_eq_true] at h
  exact h
theorem insAll_of_perm {a b : List RecM} (ha : okAll a) (h : a.Perm b) : insAll a = insAll b := by
  have hb : okAll b := fun t ht => ha t (h.mem_iff.2 ht)
  exact List.Perm.eq_of_pairwise (le := leR) (fun x y hx hy p q => leR_anti (insAll_ok ha x hx) (insAll_ok hb y hy) p q) (insAll_sorted ha) (insAll_sorted hb) (((insAll_perm a).trans h).trans (insAll_perm b).symm)
/-- A ranking has each record as often as the list. -/
theorem times_rank (l : List RecM) (r : RecM) : timesB (insAll l) r = timesB l r := ((insAll_perm l).filter _).length_eq
theorem times_pos {l : List RecM} {r : RecM} (h : r ∈ l) : 0 < timesB l r := List.length_pos_of_mem (List.mem_filter.2 ⟨h, recEqB_self r⟩)
/-- No record of a ranking is ahead of the one ahead of it. -/
theorem rank_adj {l : List RecM} (hl : okAll l) {i : Nat} (hi : i + 1 < (insAll l).length) : aheadB (insAll l)[i + 1] (insAll l)[i] = false :=
  List.pairwise_iff_getElem.1 (insAll_sorted hl) i (i + 1) (by omega) hi (by omega)
/-- Both nets find the ranking. -/
theorem net_take {m : NetM} {n : Nat} (G : GoodNet m n) {l : List RecM} (hl : l.length ≤ n) (hO : okAll l) : (runRm m.ws (l ++ List.replicate (n - l.length) zeroR)).take l.length = insAll l := by
  rw [net_rank G hl hO, ← insAll_length l, List.take_left]
/-- The list packed together: the same records. -/
theorem live_or {l : List RecM} (hO : okAll l) : ∀ t ∈ l, t.live = false → t = zeroR := fun t ht hl => by
  rcases recOkB_cases (hO t ht) with h | h
  · exact h
  · have := (liveB_ok h).1; rw [hl] at this; cases this
theorem filter_perm {α : Type} (p : α → Bool) : ∀ l : List α, (l.filter p ++ l.filter (fun x => !p x)).Perm l
  | [] => List.Perm.refl _
  | x :: l => by
    cases e : p x
    · rw [List.filter_cons_of_neg (by simp [e]), List.filter_cons_of_pos (by simp [e])]
      exact List.perm_middle.trans ((filter_perm p l).cons x)
    · rw [List.filter_cons_of_pos e, List.filter_cons_of_neg (by simp [e])]
      exact (filter_perm p l).cons x
theorem compact_perm {l : List RecM} (hO : okAll l) : (compactL l).Perm l := by
  have h := filter_perm (fun r : RecM => r.live) l
  have e : l.filter (fun x => !x.live) = List.replicate (l.length - (l.filter (fun r : RecM => r.live)).length) zeroR := by
    have hn := h.length_eq
    rw [List.length_append] at hn
    rw [List.eq_replicate_iff]
    refine ⟨by omega, fun t ht => ?_⟩
    have ht := List.mem_filter.1 ht
    exact live_or hO t ht.1 (by simpa using ht.2)
  rw [e] at h
  exact h
theorem compact_rank {l : List RecM} (hO : okAll l) : insAll (compactL l) = insAll l :=
  insAll_of_perm (fun t ht => hO t ((compact_perm hO).mem_iff.1 ht)) (compact_perm hO)
theorem compact_ok {l : List RecM} (h : recsOkB l = true) : recsOkB (compactL l) = true := by
  have hl := recsOkB_len h
  rw [recsOkB_at (by rw [compactL_length]; exact hl), List.all_eq_true]
  exact fun t ht => recsOkB_all h t ((compact_perm (recsOkB_all h)).mem_iff.1 ht)
/-- The first of a ranking hang on the Live records alone. -/
theorem top_compact {l : List RecM} (h : recsOkB l = true) (k : Int) : topM (compactL l) k = topM l k := by
  unfold topM topB
  rw [compact_ok h, h, compact_rank (recsOkB_all h), compactL_length]
theorem top_length {l : List RecM} {k : Nat} (h : topB l k = true) : (topM l k).length = k := by
  unfold topM
  rw [if_pos h]
  have := insAll_length l
  simp; omega
/-- The Live records of the packed list, one after the other. -/
theorem packed_at {l : List RecM} {i : Nat} (hi : i < l.length) (hl : l[i].live = true) : ((l.take i).filter (·.live)).length < (compactL l).length ∧ (compactL l).getD ((l.take i).filter (·.live)).length zeroR = l[i] := by
  have e : l.filter (·.live) = (l.take i).filter (·.live) ++ (l[i] :: (l.drop (i + 1)).filter (·.live)) := by
    conv => lhs; rw [← List.take_append_drop i l, List.drop_eq_getElem_cons hi]
    rw [List.filter_append, List.filter_cons_of_pos hl]
  have hlen : ((l.take i).filter (·.live)).length < (l.filter (·.live)).length := by rw [e]; simp
  refine ⟨by unfold compactL; simp; omega, ?_⟩
  unfold compactL
  rw [List.getD_eq_getElem?_getD, List.getElem?_append_left hlen, e, List.getElem?_append_right (Nat.le_refl _)]
  simp
/-- A record that is ahead of one of the first stands among them. -/
theorem top_has {l : List RecM} {k j : Nat} (h : topB l k = true) {x : RecM} (hx : x ∈ l) (hj : j < k) (ha : aheadB x ((topM l k).getD j zeroR) = true) : x ∈ topM l k := by
  have hok : recsOkB l = true := by unfold topB at h; simp only [Bool.and_eq_true] at h; exact h.1
  have hO := recsOkB_all hok
  have hxs : x ∈ insAll l := (insAll_perm l).mem_iff.2 hx
  obtain ⟨p, hp, rfl⟩ := List.mem_iff_getElem.1 hxs
  have e : topM l k = (insAll l ++ List.replicate (k - l.length) zeroR).take k := by unfold topM; rw [if_pos h]; simp
  rcases Nat.lt_or_ge p k with hpk | hpk
  · rw [e, List.mem_take_iff_getElem]
    exact ⟨p, by simp; omega, by rw [List.getElem_append_left hp]⟩
  · exfalso
    have ej : (topM l k).getD j zeroR = (insAll l)[j]'(by omega) := by
      rw [e, List.getD_eq_getElem?_getD, List.getElem?_take_of_lt hj, List.getElem?_append_left (by omega), List.getElem?_eq_getElem (by omega)]; rfl
    rw [ej] at ha
    have := List.pairwise_iff_getElem.1 (insAll_sorted hO) j p (by omega) hp (by omega)
    unfold leR at this
    rw [this] at ha; cases ha
end Go.Proofs.Ytaedamnhobcdlaa
