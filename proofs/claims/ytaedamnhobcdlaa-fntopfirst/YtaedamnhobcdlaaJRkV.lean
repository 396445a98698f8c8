/- RkG, RkM, RkV in one. Written by tools/join.py. -/
import Derived.Test.YtaedamnhobcdlaaJRkL
import Derived.Test.YtaedamnhobcdlaaJRkJ
import Derived.Deep.RegionHeld3
import Derived.Deep.DeepCutAuto
import Derived.Deep.LoopGhost
import Derived.Test.YtaedamnhobcdlaaJRkO
section
namespace Go.Proofs.Ytaedamnhobcdlaa
open Go.RowKit
set_option linter.unusedVariables false

/-- A record and its place in a list. -/
structure PlM where
  rc : RecM
  pos : Int
def zeroP : PlM := ⟨zeroR, 0⟩
def placL (p : PlM) : List Value := recL p.rc ++ [.int .i64 p.pos]
theorem placL_len (p : PlM) : (placL p).length = 5 := rfl
theorem placL_one (p : PlM) : ∀ v ∈ placL p, v.oneCell' = true := by
  intro v hv
  rcases List.mem_append.1 hv with h | h
  · exact recL_one _ v h
  · simp at h; subst h; rfl
def aheadQ (p q : PlM) : Bool := p.rc.live && (!q.rc.live || decide (p.pos < q.pos))
def pairAQ (x y : PlM) : PlM := if aheadQ y x = true then y else x
def pairBQ (x y : PlM) : PlM := if aheadQ y x = true then x else y
def stepQ (l : List PlM) (a b : Nat) : List PlM := (l.set a (pairAQ (l.getD a zeroP) (l.getD b zeroP))).set b (pairBQ (l.getD a zeroP) (l.getD b zeroP))
theorem stepQ_length (l : List PlM) (a b : Nat) : (stepQ l a b).length = l.length := by simp [stepQ]
def wireQ (l : List PlM) (t : WireM) : List PlM := stepQ l t.a.toNat t.b.toNat
def runQ (ws : List WireM) (l : List PlM) : List PlM := ws.foldl wireQ l
theorem runQ_length : ∀ (ws : List WireM) (l : List PlM), (runQ ws l).length = l.length
  | [], l => rfl
  | t :: ws, l => by show (runQ ws (wireQ l t)).length = _; rw [runQ_length ws, wireQ, stepQ_length]
theorem runQ_next {ws : List WireM} {k : Nat} (h : k < ws.length) (l : List PlM) : runQ (ws.take (k + 1)) l = wireQ (runQ (ws.take k) l) ws[k] := by
  unfold runQ; rw [List.take_succ_eq_append_getElem h, List.foldl_append]; rfl
theorem stepQ_perm {O : List PlM} {p q : Nat} (hp : p < O.length) (hq : q < O.length) : (stepQ O p q).Perm O := by
  have gp : O.getD p zeroP = O[p] := by rw [List.getD_eq_getElem?_getD]; simp [hp]
  have gq : O.getD q zeroP = O[q] := by rw [List.getD_eq_getElem?_getD]; simp [hq]
  unfold stepQ pairAQ pairBQ
  rw [gp, gq]
  cases aheadQ O[q] O[p]
  · simp
  · simp only [if_true]
    exact swap_perm hp hq
theorem runQ_perm {n : Nat} : ∀ (ws : List WireM) (O : List PlM), O.length = n → (∀ t ∈ ws, WireOk n t) → (runQ ws O).Perm O
  | [], O, _, _ => List.Perm.refl _
  | t :: ws, O, hl, hw => by
    have h1 := runQ_perm ws (wireQ O t) (by rw [wireQ, stepQ_length, hl]) (fun x hx => hw x (List.mem_cons_of_mem _ hx))
    have ht := hw t (by simp)
    unfold WireOk at ht
    exact h1.trans (stepQ_perm (by omega) (by omega))
theorem runQ_mem {n : Nat} {ws : List WireM} {l : List PlM} (hl : l.length = n) (hw : ∀ t ∈ ws, WireOk n t) : ∀ t ∈ runQ ws l, t ∈ l := fun t ht => (runQ_perm ws l hl hw).mem_iff.1 ht
/-- The place that counts: empty ones stand behind all others. -/
def keyQ (p : PlM) : Int := if p.rc.live = true then p.pos else 64
def PlOk (p : PlM) : Prop := 0 ≤ p.pos ∧ p.pos < 64
theorem aheadQ_key {x y : PlM} (hx : PlOk x) (hy : PlOk y) : aheadQ y x = true ↔ keyQ y < keyQ x := by
  unfold PlOk at hx hy
  unfold aheadQ keyQ
  cases hx1 : x.rc.live <;> cases hy1 : y.rc.live <;> simp <;> omega
theorem pair_keyQ {x y : PlM} (hx : PlOk x) (hy : PlOk y) : keyQ (pairAQ x y) = min (keyQ x) (keyQ y) ∧ keyQ (pairBQ x y) = max (keyQ x) (keyQ y) := by
  have h := aheadQ_key hx hy
  unfold pairAQ pairBQ
  cases e : aheadQ y x
  · have : ¬ keyQ y < keyQ x := fun k => by rw [h.2 k] at e; cases e
    simp; omega
  · have := h.1 e
    simp; omega
theorem stepQ_map {O : List PlM} {n : Nat} {t : WireM} (hl : O.length = n) (ht : WireOk n t) (hO : ∀ p ∈ O, PlOk p) : (stepQ O t.a.toNat t.b.toNat).map keyQ = wireRun (O.map keyQ) t := by
  unfold WireOk at ht
  obtain ⟨p, q, hp, hq, hpq, hqn⟩ := ht
  rw [hp, hq]
  have hp1 : p < O.length := by omega
  have hq1 : q < O.length := by omega
  simp only [Int.toNat_natCast]
  unfold stepQ wireRun
  rw [hp, hq]
  simp only [Int.toNat_natCast]
  have gp : O.getD p zeroP = O[p] := by rw [List.getD_eq_getElem?_getD]; simp [hp1]
  have gq : O.getD q zeroP = O[q] := by rw [List.getD_eq_getElem?_getD]; simp [hq1]
  have mp : (O.map keyQ).getD p 0 = keyQ O[p] := by rw [List.getD_eq_getElem?_getD]; simp [hp1]
  have mq : (O.map keyQ).getD q 0 = keyQ O[q] := by rw [List.getD_eq_getElem?_getD]; simp [hq1]
  rw [gp, gq, mp, mq]
  obtain ⟨k1, k2⟩ := pair_keyQ (hO _ (List.getElem_mem hp1)) (hO _ (List.getElem_mem hq1))
  rw [List.map_set, List.map_set, k1, k2]
theorem runQ_map {n : Nat} : ∀ (ws : List WireM) (O : List PlM), O.length = n → (∀ t ∈ ws, WireOk n t) → (∀ p ∈ O, PlOk p) → (runQ ws O).map keyQ = runW ws (O.map keyQ)
  | [], O, _, _, _ => rfl
  | t :: ws, O, hl, hw, hO => by
    have h1 := stepQ_map hl (hw t (by simp)) hO
    have h2 : ∀ p ∈ wireQ O t, PlOk p := fun p hp => hO p (runQ_mem (ws := [t]) hl (fun x hx => by simp at hx; subst hx; exact hw _ (by simp)) p hp)
    show (runQ ws (wireQ O t)).map keyQ = runW ws (wireRun (O.map keyQ) t)
    rw [runQ_map ws (wireQ O t) (by rw [wireQ, stepQ_length, hl]) (fun x hx => hw x (List.mem_cons_of_mem _ hx)) h2]
    unfold wireQ
    rw [h1]
/-- The records with their places. -/
def plFrom : Nat → List RecM → List PlM
  | _, [] => []
  | i, r :: l => ⟨r, i⟩ :: plFrom (i + 1) l
theorem plFrom_length : ∀ (l : List RecM) (i : Nat), (plFrom i l).length = l.length
  | [], i => rfl
  | r :: l, i => by simp [plFrom, plFrom_length l]
theorem plFrom_get : ∀ (l : List RecM) (i k : Nat) (h : k < (plFrom i l).length), (plFrom i l)[k] = ⟨l[k]'(by rwa [plFrom_length] at h), (i + k : Nat)⟩
  | r :: l, i, 0, h => by simp [plFrom]
  | r :: l, i, k + 1, h => by
    simp only [plFrom, List.getElem_cons_succ]
    rw [plFrom_get l (i + 1) k (by simpa [plFrom] using h)]
    simp; omega
theorem plFrom_filter : ∀ (l : List RecM) (i : Nat), ((plFrom i l).filter (·.rc.live)).map (·.rc) = l.filter (·.live)
  | [], i => rfl
  | r :: l, i => by
    rw [plFrom]
    cases e : r.live
    · rw [List.filter_cons_of_neg (by simp [e]), List.filter_cons_of_neg (by simp [e]), plFrom_filter l]
    · rw [List.filter_cons_of_pos (by simp [e]), List.filter_cons_of_pos (by simp [e]), List.map_cons, plFrom_filter l]
theorem plFrom_mem {l : List RecM} {p : PlM} (h : p ∈ plFrom 0 l) : ∃ (k : Nat) (hk : k < l.length), p = ⟨l[k], k⟩ := by
  obtain ⟨k, hk, rfl⟩ := List.mem_iff_getElem.1 h
  exact ⟨k, by rwa [plFrom_length] at hk, by rw [plFrom_get]; simp⟩
theorem plFrom_pair (l : List RecM) : (plFrom 0 l).Pairwise (fun x y => x.pos < y.pos) := by
  rw [List.pairwise_iff_getElem]
  intro i j hi hj hij
  rw [plFrom_get, plFrom_get]
  simp; exact hij
/-- The places put side by side with empty ones: what the net is given. -/
def placesM (l : List RecM) (n : Nat) : List PlM := plFrom 0 l ++ List.replicate (n - l.length) zeroP
theorem placesM_length {l : List RecM} {n : Nat} (h : l.length ≤ n) : (placesM l n).length = n := by unfold placesM; simp [plFrom_length]; omega
theorem placesM_mem {l : List RecM} {n : Nat} (hl : l.length ≤ 64) {p : PlM} (h : p ∈ placesM l n) : PlOk p ∧ (p.rc.live = true → ∃ (k : Nat) (hk : k < l.length), p = ⟨l[k], k⟩) ∧ (p.rc ∈ l ∨ p.rc = zeroR) := by
  rcases List.mem_append.1 h with h | h
  · obtain ⟨k, hk, rfl⟩ := plFrom_mem h
    exact ⟨by unfold PlOk; simp; omega, fun _ => ⟨k, hk, rfl⟩, .inl (List.getElem_mem hk)⟩
  · obtain ⟨_, rfl⟩ := List.mem_replicate.1 h
    exact ⟨by unfold PlOk zeroP; simp, fun h => by simp [zeroP, zeroR] at h, .inr rfl⟩
theorem filter_split {R : List PlM} (h : R.Pairwise (fun x y => keyQ x ≤ keyQ y)) (hO : ∀ p ∈ R, PlOk p) : R = R.filter (·.rc.live) ++ R.filter (fun p => !p.rc.live) := by
  induction R with
  | nil => rfl
  | cons x R ih =>
    have hp := List.pairwise_cons.1 h
    have ih := ih hp.2 (fun p hp => hO p (List.mem_cons_of_mem _ hp))
    cases e : x.rc.live
    · have none : R.filter (·.rc.live) = [] := by
        rw [List.filter_eq_nil_iff]
        intro y hy hl
        have h1 := hp.1 y hy
        have h2 := hO y (List.mem_cons_of_mem _ hy)
        unfold PlOk at h2
        unfold keyQ at h1
        rw [e, hl] at h1
        simp at h1; omega
      rw [List.filter_cons_of_neg (by simp [e]), List.filter_cons_of_pos (by simp [e]), none, List.nil_append]
      rw [none, List.nil_append] at ih
      rw [← ih]
    · rw [List.filter_cons_of_pos (by simp [e]), List.filter_cons_of_neg (by simp [e]), List.cons_append, ← ih]
theorem net_compact {m : NetM} {n : Nat} (G : GoodNet m n) {l : List RecM} (hl : l.length ≤ n) (h64 : l.length ≤ 64) (hO : okAll l) : ((runQ m.ws (placesM l n)).take l.length).map (·.rc) = compactL l := by
  obtain ⟨n', e, _, _, _, hw⟩ := netOkB_ok G.ok
  have hn : n = n' := by have := G.size; omega
  subst hn
  have hlen := placesM_length hl
  have hP := runQ_perm m.ws (placesM l n) hlen hw
  have okR : ∀ p ∈ runQ m.ws (placesM l n), PlOk p := fun p hp => (placesM_mem h64 (hP.mem_iff.1 hp)).1
  have hS : (runQ m.ws (placesM l n)).Pairwise (fun x y => keyQ x ≤ keyQ y) := by
    have h1 := sorted_pairwise (G.sort ((placesM l n).map keyQ) (by simpa using hlen))
    rwa [← runQ_map m.ws (placesM l n) hlen hw (fun p hp => (placesM_mem h64 hp).1), List.pairwise_map] at h1
  have hRl : (runQ m.ws (placesM l n)).length = n := by rw [runQ_length, hlen]
  generalize runQ m.ws (placesM l n) = R at *
  have fL : R.filter (·.rc.live) = (plFrom 0 l).filter (·.rc.live) := by
    have hp1 : (R.filter (·.rc.live)).Perm ((plFrom 0 l).filter (·.rc.live)) := by
      have := hP.filter (·.rc.live)
      unfold placesM at this
      rw [List.filter_append] at this
      have e0 : (List.replicate (n - l.length) zeroP).filter (·.rc.live) = [] := by
        rw [List.filter_eq_nil_iff]; intro p hp; rw [(List.mem_replicate.1 hp).2]; simp [zeroP, zeroR]
      rwa [e0, List.append_nil] at this
    refine List.Perm.eq_of_pairwise (le := fun x y => keyQ x ≤ keyQ y) (fun a b ha hb x y => ?_) (hS.sublist List.filter_sublist) ?_ hp1
    · have ha := List.mem_filter.1 (hp1.mem_iff.1 ha)
      have hb := List.mem_filter.1 hb
      obtain ⟨i, hi, rfl⟩ := plFrom_mem ha.1
      obtain ⟨j, hj, rfl⟩ := plFrom_mem hb.1
      have h1 := ha.2
      have h2 := hb.2
      simp only at h1 h2
      unfold keyQ at x y
      simp only [h1, h2, if_true] at x y
      have : i = j := by omega
      subst this; rfl
    · refine ((plFrom_pair l).sublist List.filter_sublist).imp_of_mem (fun {a b} ha hb h => ?_)
      have h1 := (List.mem_filter.1 ha).2
      have h2 := (List.mem_filter.1 hb).2
      unfold keyQ
      simp only [h1, h2, if_true]
      omega
  have fD : (R.filter (fun p => !p.rc.live)).map (·.rc) = List.replicate (n - (l.filter (·.live)).length) zeroR := by
    rw [List.eq_replicate_iff]
    constructor
    · have h1 := congrArg List.length (filter_split hS okR)
      rw [List.length_append, hRl, fL] at h1
      have h2 := congrArg List.length (plFrom_filter l 0)
      rw [List.length_map] at h2 ⊢
      omega
    · intro r hr
      obtain ⟨p, hp, rfl⟩ := List.mem_map.1 hr
      have hp := List.mem_filter.1 hp
      rcases (placesM_mem h64 (hP.mem_iff.1 hp.1)).2.2 with h | h
      · exact live_or hO _ h (by simpa using hp.2)
      · exact h
  rw [List.map_take, filter_split hS okR, List.map_append, fD, fL, plFrom_filter]
  unfold compactL
  have hc := List.length_filter_le (·.live) l
  rw [List.take_append, List.take_of_length_le hc, List.take_replicate]
  congr 2
  omega
end Go.Proofs.Ytaedamnhobcdlaa
end

section
namespace Go.Proofs.Ytaedamnhobcdlaa
open Go.RowKit
set_option linter.unusedVariables false
set_option linter.unusedSimpArgs false
set_option maxRecDepth 100000

theorem chg_pl {lo hi : Nat} {W W' : World} (C : Chg lo hi W W') {R : Nat} (h1 : lo ≤ R ∧ R < hi) (v0 v1 v2 v3 v4 : Value) : Chg lo hi W (((((W'.setCell ⟨R, 0, none⟩ v0).setCell ⟨R, 1, none⟩ v1).setCell ⟨R, 2, none⟩ v2).setCell ⟨R, 3, none⟩ v3).setCell ⟨R, 4, none⟩ v4) :=
  chg_cell (chg_rec C h1 _ _ _ _) h1 4 _
theorem Try.infoPl : (Try.prog.info? 74).map (fun i => (i.zero, i.size, i.bytes)) = some (some (.agg #[.bool false, .int .i64 0, .int .i64 0, .string ⟨#[]⟩, .int .i64 0]), 5, 48) := by kernel_rfl
theorem byPlaceF (w : World) : Calls Try.prog 57 #[] w fun e w' => e = .returned (.agg #[.func (.func 85) #[] #[]]) ∧ Below w.heap.size w w' := by
  go_enter Try.func57, Try.ntmps57
  go_wp2
  exact bodyPost_ret (v := .agg #[.func (.func 85) #[] #[]]) (by simp [results, Try.results57, go_sem]) rfl ⟨rfl, below_box (Below.refl _ _) _⟩
set_option maxHeartbeats 1000000 in
theorem byPlaceC (a b : PlM) (w : World) : Calls Try.prog 85 #[.agg #[.bool a.rc.live, .int .i64 a.rc.dist, .int .i64 a.rc.weight, .string a.rc.word, .int .i64 a.pos], .agg #[.bool b.rc.live, .int .i64 b.rc.dist, .int .i64 b.rc.weight, .string b.rc.word, .int .i64 b.pos]] w fun e w' => e = .returned (.bool (aheadQ a b)) ∧ Below w.heap.size w w' := by
  obtain ⟨⟨la, da, ta, wa⟩, pa⟩ := a
  obtain ⟨⟨lb, db, tb, wb⟩, pb⟩ := b
  unfold aheadQ
  simp only
  cases la <;> cases lb
  all_goals
    go_enter Try.func85, Try.ntmps85
    go_wp2
    go_ret
    exact ⟨ret_bool (by simp), below_box (below_box (Below.refl _ _) _) _⟩
set_option maxHeartbeats 1000000 in
theorem cloneP (a : Option Addr) (cap : Nat) (l : List PlM) (w : World) (hl : l.length ≤ 64) (r : Row w a (flatG placL l)) : Calls Try.prog 103 #[.slice a l.length cap] w fun e w' => ∃ v, e = .returned v ∧ w'.ownsRow w.heap.size 74 5 v l.length (flatG placL l) ∧ Below w.heap.size w w' := by
  have R := Lib.hid r
  cases a with
  | none =>
    have e0 := row_none placL_len (by decide) r
    subst e0
    clear r R hl
    have hq : (binOp .eql 72 (.slice none 0 cap) (.slice none 0 0)).run Try.prog w = .ok (.bool true) w := by kernel_rfl
    go_enter Try.func103, Try.ntmps103
    go_wp2
    go_ret
    exact ⟨_, rfl, ⟨rfl, .inl ⟨rfl, rfl⟩⟩, Below.refl _ _⟩
  | some ad =>
    have RA := Lib.hid (r.below (below_box (Below.refl _ w) (.cells #[] 74)))
    clear r R
    have hq : (binOp .eql 72 (.slice (some ad) l.length cap) (.slice none 0 0)).run Try.prog w = .ok (.bool false) w := by kernel_rfl
    go_enter Try.func103, Try.ntmps103
    go_wp2_with (at_builtin; go_must (refine wp_app_rowS rfl _ _ 72 rfl 74 _ 5 48 Try.underlying72 Try.infoPl rfl (by omega) w.heap.size 0 (.slice (some ⟨w.heap.size, 0, none⟩) 0 0) [] (by rfl) (World.ownsRow_made w #[] 0 (Nat.le_refl _) (by unfold maxLen; omega) rfl) (some ad) l.length cap (flatG placL l) (by rfl) (flatG_len placL_len l) RA.out (flatG_one placL_one _) (by unfold maxLen; omega) (by omega) (by simp) ?_); intro v3 w3 ho3 hg3)
    rw [Nat.zero_add, List.nil_append] at ho3
    have Z := Lib.hid (And.intro ho3 ((below_box (Below.refl w.heap.size w) (.cells #[] 74)).grown hg3 (by simp) (fun g hg => by cases hg; exact Nat.le_refl _)))
    clear ho3 hg3 RA
    go_wp2
    go_ret
    exact ⟨_, rfl, Z.out.1, Z.out.2⟩
set_option maxHeartbeats 2000000 in
theorem pairP (a b : PlM) (w : World) : Calls Try.prog 104 #[.agg #[.func (.func 85) #[] #[]], .agg #[.bool a.rc.live, .int .i64 a.rc.dist, .int .i64 a.rc.weight, .string a.rc.word, .int .i64 a.pos], .agg #[.bool b.rc.live, .int .i64 b.rc.dist, .int .i64 b.rc.weight, .string b.rc.word, .int .i64 b.pos]] w fun e w' => e = .returned (.tuple #[.agg #[.bool (pairAQ a b).rc.live, .int .i64 (pairAQ a b).rc.dist, .int .i64 (pairAQ a b).rc.weight, .string (pairAQ a b).rc.word, .int .i64 (pairAQ a b).pos], .agg #[.bool (pairBQ a b).rc.live, .int .i64 (pairBQ a b).rc.dist, .int .i64 (pairBQ a b).rc.weight, .string (pairBQ a b).rc.word, .int .i64 (pairBQ a b).pos]]) ∧ Below w.heap.size w w' := by
  have AH := Lib.hid (fun w => byPlaceC b a w)
  unfold pairAQ pairBQ
  skip
  obtain ⟨⟨la, da, ta, wa⟩, pa⟩ := a
  obtain ⟨⟨lb, db, tb, wb⟩, pb⟩ := b
  simp only at AH ⊢
  generalize aheadQ ⟨⟨lb, db, tb, wb⟩, pb⟩ ⟨⟨la, da, ta, wa⟩, pa⟩ = q at *
  cases q
  all_goals
   obtain ⟨w0, hw0⟩ : ∃ w0, w0 = (((((w.alloc (.cells #[.func (.func 85) #[] #[]] 77)).alloc (.cells #[.bool la, .int .i64 da, .int .i64 ta, .string wa, .int .i64 pa] 74)).alloc (.cells #[.bool lb, .int .i64 db, .int .i64 tb, .string wb, .int .i64 pb] 74)).alloc (.cells #[.bool false, .int .i64 0, .int .i64 0, .string ⟨#[]⟩, .int .i64 0] 74)).alloc (.cells #[.bool false, .int .i64 0, .int .i64 0, .string ⟨#[]⟩, .int .i64 0] 74)) := ⟨_, rfl⟩
   have K0 := Lib.hid (show w0.heap[w.heap.size]? = some (.cells #[.func (.func 85) #[] #[]] 77 (0, 0)) by rw [hw0]; exact (alloc_old _ _ _ (by first | (simp; done) | (simp; omega))).trans ((alloc_old _ _ _ (by first | (simp; done) | (simp; omega))).trans ((alloc_old _ _ _ (by first | (simp; done) | (simp; omega))).trans ((alloc_old _ _ _ (by first | (simp; done) | (simp; omega))).trans (alloc_at _ _ _ (by simp))))))
   have K1 := Lib.hid (show w0.heap[w.heap.size + 1]? = some (.cells #[.bool la, .int .i64 da, .int .i64 ta, .string wa, .int .i64 pa] 74 (0, 0)) by rw [hw0]; exact (alloc_old _ _ _ (by first | (simp; done) | (simp; omega))).trans ((alloc_old _ _ _ (by first | (simp; done) | (simp; omega))).trans ((alloc_old _ _ _ (by first | (simp; done) | (simp; omega))).trans (alloc_at _ _ _ (by simp)))))
   have K2 := Lib.hid (show w0.heap[w.heap.size + 1 + 1]? = some (.cells #[.bool lb, .int .i64 db, .int .i64 tb, .string wb, .int .i64 pb] 74 (0, 0)) by rw [hw0]; exact (alloc_old _ _ _ (by first | (simp; done) | (simp; omega))).trans ((alloc_old _ _ _ (by first | (simp; done) | (simp; omega))).trans (alloc_at _ _ _ (by simp))))
   have K3 := Lib.hid (show w0.heap[w.heap.size + 1 + 1 + 1]? = some (.cells #[.bool false, .int .i64 0, .int .i64 0, .string ⟨#[]⟩, .int .i64 0] 74 (0, 0)) by rw [hw0]; exact (alloc_old _ _ _ (by first | (simp; done) | (simp; omega))).trans (alloc_at _ _ _ (by simp)))
   have K4 := Lib.hid (show w0.heap[w.heap.size + 1 + 1 + 1 + 1]? = some (.cells #[.bool false, .int .i64 0, .int .i64 0, .string ⟨#[]⟩, .int .i64 0] 74 (0, 0)) by rw [hw0]; exact alloc_at _ _ _ (by simp))
   have HB := Lib.hid (show Below w.heap.size w w0 by rw [hw0]; exact below_box (below_box (below_box (below_box (below_box (Below.refl _ w) _) _) _) _) _)
   have f0 := cur_cell K0.out 0
   have a0 := cur_cell K1.out 0
   have x0 := cur_cell K1.out 0
   have y0 := cur_cell K2.out 0
   have x1 := cur_cell K1.out 1
   have y1 := cur_cell K2.out 1
   have x2 := cur_cell K1.out 2
   have y2 := cur_cell K2.out 2
   have x3 := cur_cell K1.out 3
   have y3 := cur_cell K2.out 3
   have x4 := cur_cell K1.out 4
   have y4 := cur_cell K2.out 4
   simp at f0 x0 y0 x1 y1 x2 y2 x3 y3 x4 y4
   clear a0
   go_enter Try.func104, Try.ntmps104
   go_wp2_with fail
   rw [← hw0]
   clear hw0
   refine (AH.out _).mono ?_
   rintro e w1 ⟨rfl, hb⟩
   clear f0 x0 y0 x1 y1 x2 y2 x3 y3 x4 y4
   replace K1 := Lib.hid (kept_block K1.out hb)
   replace K2 := Lib.hid (kept_block K2.out hb)
   replace K3 := Lib.hid (kept_block K3.out hb)
   replace K4 := Lib.hid (kept_block K4.out hb)
   replace HB := Lib.hid (below_seq HB.out hb)
   clear hb AH K0
   have a0 := cur_cell K1.out 0
   have a1 := cur_cell K1.out 1
   have a2 := cur_cell K1.out 2
   have a3 := cur_cell K1.out 3
   have a4 := cur_cell K1.out 4
   have b0 := cur_cell K2.out 0
   have b1 := cur_cell K2.out 1
   have b2 := cur_cell K2.out 2
   have b3 := cur_cell K2.out 3
   have b4 := cur_cell K2.out 4
   have r0 := cur_cell K3.out 0
   have r1 := cur_cell K3.out 1
   have r2 := cur_cell K3.out 2
   have r3 := cur_cell K3.out 3
   have r4 := cur_cell K3.out 4
   have s0 := cur_cell K4.out 0
   have s1 := cur_cell K4.out 1
   have s2 := cur_cell K4.out 2
   have s3 := cur_cell K4.out 3
   have s4 := cur_cell K4.out 4
   have fr0 := cur_free K3.out 0
   have fr1 := cur_free K3.out 1
   have fr2 := cur_free K3.out 2
   have fr3 := cur_free K3.out 3
   have fr4 := cur_free K3.out 4
   have fs0 := cur_free K4.out 0
   have fs1 := cur_free K4.out 1
   have fs2 := cur_free K4.out 2
   have fs3 := cur_free K4.out 3
   have fs4 := cur_free K4.out 4
   simp at a0 a1 a2 a3 a4 b0 b1 b2 b3 b4 r0 r1 r2 r3 r4 s0 s1 s2 s3 s4
   have GV := Lib.hid (fun W' (C : Chg w.heap.size (w.heap.size + 5) w1 W') => Chg.below HB.out C (Nat.le_refl _))
   clear K1 K2 K3 K4
   go_wp2_with fail
   go_region
   go_wp2
   first
     | exact bodyPost_ret (v := .tuple #[.agg #[.bool la, .int .i64 da, .int .i64 ta, .string wa, .int .i64 pa], .agg #[.bool lb, .int .i64 db, .int .i64 tb, .string wb, .int .i64 pb]]) (by simp [results, Try.results104, go_sem, r0, r1, r2, r3, r4, s0, s1, s2, s3, s4]) rfl ⟨rfl, GV.out _ ((chg_pl (chg_pl (Chg.refl _ _ w1) ⟨by omega, by omega⟩ _ _ _ _ _) ⟨by omega, by omega⟩ _ _ _ _ _).trans (Chg.of_below (belowN 1)))⟩
     | exact bodyPost_ret (v := .tuple #[.agg #[.bool lb, .int .i64 db, .int .i64 tb, .string wb, .int .i64 pb], .agg #[.bool la, .int .i64 da, .int .i64 ta, .string wa, .int .i64 pa]]) (by simp [results, Try.results104, go_sem, r0, r1, r2, r3, r4, s0, s1, s2, s3, s4]) rfl ⟨rfl, GV.out _ ((chg_pl (chg_pl (Chg.refl _ _ w1) ⟨by omega, by omega⟩ _ _ _ _ _) ⟨by omega, by omega⟩ _ _ _ _ _).trans (Chg.of_below (belowN 1)))⟩
set_option maxHeartbeats 8000000 in
theorem runP (c0 c1 : Value) (n : Nat) (ws : List WireM) (a : Option Addr) (cap : Nat) (l : List PlM) (w : World) (h : NetIn [c0, c1] ⟨n, ws⟩ w) (hln : l.length = n) (hn1 : 1 ≤ n) (hn64 : n ≤ 64) (hws : ws.length ≤ 4096) (hwk : ∀ t ∈ ws, WireOk n t) (r : Row w a (flatG placL l)) : Calls Try.prog 86 #[.agg #[.func (.func 85) #[] #[]], .agg #[c0, c1], .slice a l.length cap] w fun e w' => ∃ G cp, e = .returned (.slice (some ⟨G, 0, none⟩) l.length cp) ∧ w'.ownsRow w.heap.size 74 5 (.slice (some ⟨G, 0, none⟩) l.length cp) l.length (flatG placL (runQ ws l)) ∧ Below w.heap.size w w' := by
  obtain ⟨aw, kw, rfl, rfl, hkw, hmw, rw_⟩ := netIn_cells h
  simp only at hkw hmw rw_ ⊢
  have RW := Lib.hid rw_
  have CL := Lib.hid (fun w' (hb : Below w.heap.size w w') => cloneP a cap l w' (by omega) (r.below hb))
  have HL := Lib.hid hln
  have WK := Lib.hid hwk
  have ML := Lib.hid (fun q => runQ_length (ws.take q) l)
  have hl1 : 1 ≤ l.length := by omega
  have hl64 : l.length ≤ 64 := by omega
  unfold maxLen at hmw
  clear h r rw_ hwk hln 
  obtain ⟨W0, hW0⟩ : ∃ W0, W0 = (w.alloc (.cells #[.func (.func 85) #[] #[]] 77)).alloc (.cells #[.int .i64 n, .slice aw ws.length kw] 36) := ⟨_, rfl⟩
  have K0 := Lib.hid (show W0.heap[w.heap.size]? = some (.cells #[.func (.func 85) #[] #[]] 77 (0, 0)) by rw [hW0]; exact (alloc_old _ _ _ (by simp)).trans (alloc_at _ _ _ rfl))
  have K1 := Lib.hid (show W0.heap[w.heap.size + 1]? = some (.cells #[.int .i64 n, .slice aw ws.length kw] 36 (0, 0)) by rw [hW0]; exact alloc_at _ _ _ (by simp))
  have B0 := Lib.hid (show Below w.heap.size w W0 by rw [hW0]; exact below_box (below_box (Below.refl _ w) _) _)
  go_enter Try.func86, Try.ntmps86
  go_wp2_with fail
  rw [← hW0]
  clear hW0
  refine (CL.out _ B0.out).mono ?_
  rintro e w1 ⟨v, rfl, ho, hb⟩
  obtain ⟨a5, cp, rfl⟩ := own_shape ho
  obtain ⟨G, rfl, hG⟩ := own_some ho (by omega)
  have k1' := kept_block K1.out hb
  have d0 := cur_cell k1' 1
  simp at d0
  have hTG : w.heap.size + 1 < G := Nat.lt_of_lt_of_le (cur_lt K1.out) hG
  have S0 := Lib.hid (And.intro (own_base ho B0.out.size) (And.intro (kept_block K0.out hb) (And.intro k1' (below_seq B0.out hb))))
  clear ho hb CL K0 K1 B0 k1' hG
  go_wp2_with fail
  go_loopg [15] ws.length (fun k i wr => ∃ q : Nat, q ≤ ws.length ∧ ws.length - q = k ∧ i = .int .i64 q ∧ Hid (wr.ownsRow w.heap.size 74 5 (.slice (some ⟨G, 0, none⟩) l.length cp) l.length (flatG placL (runQ (ws.take q) l)) ∧ wr.heap[w.heap.size]? = some (.cells #[.func (.func 85) #[] #[]] 77 (0, 0)) ∧ wr.heap[w.heap.size + 1]? = some (.cells #[.int .i64 n, .slice aw ws.length kw] 36 (0, 0)) ∧ Below w.heap.size w wr))
  case atStart => exact ⟨0, Nat.zero_le _, rfl, rfl, S0⟩
  case round =>
    clear S0 d0
    obtain ⟨q, hq, hk, rfl, H⟩ := hrel
    by_cases hlt : q < ws.length
    · obtain ⟨bw, ow, rfl, e0, e1⟩ := (RW.out.below H.out.2.2.2).wire hlt
      obtain ⟨A, B, hA, hB, hAB, hBn⟩ := WK.out _ (List.getElem_mem hlt)
      have NX := Lib.hid (runQ_next hlt l)
      unfold wireQ at NX
      rw [hA, hB, Int.toNat_natCast, Int.toNat_natCast] at NX
      rw [hA] at e0
      rw [hB] at e1
      have OL := Lib.hid (ML.out q)
      obtain ⟨O, hO⟩ : ∃ O, runQ (ws.take q) l = O := ⟨_, rfl⟩
      rw [hO] at H OL NX 
      clear hO hA hB
      have hln := HL.out
      have hAO : A < O.length := by rw [OL.out]; omega
      have hBO : B < O.length := by rw [OL.out]; omega
      obtain ⟨x, hx⟩ : ∃ x, O[A] = x := ⟨_, rfl⟩
      obtain ⟨y, hy⟩ : ∃ y, O[B] = y := ⟨_, rfl⟩
      have EX : O.getD A zeroP = x := by rw [← hx, List.getD_eq_getElem?_getD]; simp [hAO]
      have EY : O.getD B zeroP = y := by rw [← hy, List.getD_eq_getElem?_getD]; simp [hBO]
      unfold stepQ at NX
      rw [EX, EY] at NX
      have UP := Lib.hid (fun w' => pairP x y w' )
      obtain ⟨p, hp⟩ : ∃ p, pairAQ x y = p := ⟨_, rfl⟩
      obtain ⟨p2, hp2⟩ : ∃ p2, pairBQ x y = p2 := ⟨_, rfl⟩
      rw [hp, hp2] at NX UP
      clear EX EY hp hp2 
      have hA0 : (0 : Int) ≤ (A : Int) := by omega
      have hA1 : (A : Int) < (l.length : Int) := by omega
      have hB0 : (0 : Int) ≤ (B : Int) := by omega
      have hB1 : (B : Int) < (l.length : Int) := by omega
      clear hln
      obtain ⟨W7, hW7⟩ : ∃ W7, W7 = wr.alloc (.cells #[.int .i64 A, .int .i64 B] 87) := ⟨_, rfl⟩
      have BW := Lib.hid (show Below wr.heap.size wr W7 by rw [hW7]; exact below_box (Below.refl _ wr) _)
      have K7 := Lib.hid (show W7.heap[wr.heap.size]? = some (.cells #[.int .i64 A, .int .i64 B] 87 (0, 0)) by rw [hW7]; exact alloc_at _ _ _ rfl)
      have O7 := Lib.hid (own_below H.out.1 BW.out)
      have KF := Lib.hid (kept_block H.out.2.1 BW.out)
      have KT := Lib.hid (kept_block H.out.2.2.1 BW.out)
      have BB := Lib.hid (below_seq H.out.2.2.2 BW.out)
      have hGX : G < wr.heap.size := (H.out.1.lt G rfl).2
      have hX7 : wr.heap.size + 1 ≤ W7.heap.size := cur_lt K7.out
      go_upto_region 5 with fail
      rw [← hW7]
      clear hW7 e0 e1 H BW
      generalize wr.heap.size = X at *
      have DD := Lib.hid (below_drew (Below.refl W7.heap.size W7))
      have hDS : W7.drew.heap.size = W7.heap.size := rfl
      obtain ⟨WD, hWD⟩ : ∃ WD, WD = W7.drew := ⟨_, rfl⟩
      have OD := Lib.hid (show WD.ownsRow w.heap.size 74 5 (.slice (some ⟨G, 0, none⟩) l.length cp) l.length (flatG placL O) by rw [hWD]; exact own_below O7.out DD.out)
      have KXD := Lib.hid (show WD.heap[X]? = some (.cells #[.int .i64 A, .int .i64 B] 87 (0, 0)) by rw [hWD]; exact kept_block K7.out DD.out)
      have KFD := Lib.hid (show WD.heap[w.heap.size]? = some (.cells #[.func (.func 85) #[] #[]] 77 (0, 0)) by rw [hWD]; exact kept_block KF.out DD.out)
      have KTD := Lib.hid (show WD.heap[w.heap.size + 1]? = some (.cells #[.int .i64 n, .slice (some ⟨bw, ow, none⟩) ws.length kw] 36 (0, 0)) by rw [hWD]; exact kept_block KT.out DD.out)
      have BD := Lib.hid (show Below w.heap.size w WD by rw [hWD]; exact below_seq BB.out DD.out)
      clear DD hDS O7 K7 KF KT BB hX7
      have SF := Lib.hid (fun (w' : World) (h1 : w'.heap[X]? = some (.cells #[.int .i64 A, .int .i64 B] 87 (0, 0))) (h2 : w'.heap[w.heap.size]? = some (.cells #[.func (.func 85) #[] #[]] 77 (0, 0))) => (show w'.cell? ⟨X, 0, none⟩ = some (.int .i64 A) ∧ w'.cell? ⟨X, 1, none⟩ = some (.int .i64 B) ∧ w'.cell? ⟨w.heap.size, 0, none⟩ = some (.func (.func 85) #[] #[]) from ⟨cur_cell h1 0, cur_cell h1 1, cur_cell h2 0⟩))
      have nX : ¬ X = G := by omega
      have nF : ¬ w.heap.size = G := by omega
      have nT : ¬ w.heap.size + 1 = G := by omega
      refine wp_region_held_drew (S := (fun w' => w'.cell? ⟨X, 0, none⟩ = some (.int .i64 A) ∧ w'.cell? ⟨X, 1, none⟩ = some (.int .i64 B) ∧ w'.cell? ⟨w.heap.size, 0, none⟩ = some (.func (.func 85) #[] #[]))) (by kernel_rfl) (by rw [← hWD]; exact SF.out _ KXD.out KFD.out) (fun hHeld => ?_)
      rw [← hWD] at hHeld ⊢
      clear hWD
      refine wpAnyH_take (i := 0) (oi := ?oh_0) (v := ?vh_0) ?hih_0 (by kernel_rfl) (by kernel_rfl) (by kernel_rfl) ?hqh_0 ?hyh_0 (by assumption) ?rh_0
      case hih_0 => (simp only [List.getElem?_toArray, List.getElem?_cons_succ, List.getElem?_cons_zero]; rfl)
      case hqh_0 => exact fun _ _ _ h => h
      case hyh_0 =>
        refine Or.inl ⟨by rfl, ?_⟩; intro wq hSw; (try dsimp only at hSw); go_simp; (try with_reducible rfl); done
      try simp only [Act.put, List.setIfInBounds_toArray, List.set_cons_zero, List.set_cons_succ]
      refine wpAnyH_take (i := 1) (oi := ?oh_1) (v := ?vh_1) ?hih_1 (by kernel_rfl) (by kernel_rfl) (by kernel_rfl) ?hqh_1 ?hyh_1 (by assumption) ?rh_1
      case hih_1 => (simp only [List.getElem?_toArray, List.getElem?_cons_succ, List.getElem?_cons_zero]; rfl)
      case hqh_1 => exact fun _ _ _ h => h
      case hyh_1 =>
        refine Or.inl ⟨by rfl, ?_⟩; intro wq hSw; (try dsimp only at hSw); go_simp; (try with_reducible rfl); done
      try simp only [Act.put, List.setIfInBounds_toArray, List.set_cons_zero, List.set_cons_succ]
      refine wpAnyH_take (i := 2) (oi := ?oh_2) (v := ?vh_2) ?hih_2 (by kernel_rfl) (by kernel_rfl) (by kernel_rfl) ?hqh_2 ?hyh_2 (by assumption) ?rh_2
      case hih_2 => (simp only [List.getElem?_toArray, List.getElem?_cons_succ, List.getElem?_cons_zero]; rfl)
      case hqh_2 => exact fun _ _ _ h => h
      case hyh_2 =>
        refine Or.inl ⟨by rfl, ?_⟩; intro wq hSw; (try dsimp only at hSw); go_simp; (try with_reducible rfl); done
      try simp only [Act.put, List.setIfInBounds_toArray, List.set_cons_zero, List.set_cons_succ]
      refine wpAnyH_take (i := 3) (oi := ?oh_3) (v := ?vh_3) ?hih_3 (by kernel_rfl) (by kernel_rfl) (by kernel_rfl) ?hqh_3 ?hyh_3 (by assumption) ?rh_3
      case hih_3 => (simp only [List.getElem?_toArray, List.getElem?_cons_succ, List.getElem?_cons_zero]; rfl)
      case hqh_3 => exact fun _ _ _ h => h
      case hyh_3 =>
        refine Or.inl ⟨by rfl, ?_⟩; intro wq hSw; (try dsimp only at hSw); go_simp; (try with_reducible rfl); done
      try simp only [Act.put, List.setIfInBounds_toArray, List.set_cons_zero, List.set_cons_succ]
      refine wpAnyH_take (i := 4) (oi := ?oh_4) (v := ?vh_4) ?hih_4 (by kernel_rfl) (by kernel_rfl) (by kernel_rfl) ?hqh_4 ?hyh_4 (by assumption) ?rh_4
      case hih_4 => (simp only [List.getElem?_toArray, List.getElem?_cons_succ, List.getElem?_cons_zero]; rfl)
      case hqh_4 => exact fun _ _ _ h => h
      case hyh_4 =>
        refine Or.inl ⟨by rfl, ?_⟩; intro wq hSw; (try dsimp only at hSw); go_simp; (try with_reducible rfl); done
      try simp only [Act.put, List.setIfInBounds_toArray, List.set_cons_zero, List.set_cons_succ]
      refine wpAnyH_take (i := 5) (oi := ?oh_5) (v := ?vh_5) ?hih_5 (by kernel_rfl) (by kernel_rfl) (by kernel_rfl) ?hqh_5 ?hyh_5 (by assumption) ?rh_5
      case hih_5 => (simp only [List.getElem?_toArray, List.getElem?_cons_succ, List.getElem?_cons_zero]; rfl)
      case hqh_5 => exact fun _ _ _ h => h
      case hyh_5 =>
        refine Or.inl ⟨by rfl, ?_⟩; intro wq hSw; (try dsimp only at hSw); go_simp; (try with_reducible rfl); done
      try simp only [Act.put, List.setIfInBounds_toArray, List.set_cons_zero, List.set_cons_succ]
      refine wpAnyH_take (i := 6) (oi := ?oh_6) (v := ?vh_6) ?hih_6 (by kernel_rfl) (by kernel_rfl) (by kernel_rfl) ?hqh_6 ?hyh_6 (by assumption) ?rh_6
      case hih_6 => (simp only [List.getElem?_toArray, List.getElem?_cons_succ, List.getElem?_cons_zero]; rfl)
      case hqh_6 => exact fun _ _ _ h => h
      case hyh_6 =>
        refine Or.inl ⟨by rfl, ?_⟩; intro wq hSw; (try dsimp only at hSw); go_simp; (try with_reducible rfl); done
      try simp only [Act.put, List.setIfInBounds_toArray, List.set_cons_zero, List.set_cons_succ]
      refine wpAnyH_take (i := 7) (oi := ?oh_7) (v := ?vh_7) ?hih_7 (by kernel_rfl) (by kernel_rfl) (by kernel_rfl) ?hqh_7 ?hyh_7 (by assumption) ?rh_7
      case hih_7 => (simp only [List.getElem?_toArray, List.getElem?_cons_succ, List.getElem?_cons_zero]; rfl)
      case hqh_7 => exact fun _ _ _ h => h
      case hyh_7 =>
        refine Or.inl ⟨by rfl, ?_⟩; intro wq hSw; (try dsimp only at hSw); go_simp; (try with_reducible rfl); done
      try simp only [Act.put, List.setIfInBounds_toArray, List.set_cons_zero, List.set_cons_succ]
      refine wpAnyH_take (i := 8) (oi := ?oh_8) (v := ?vh_8) ?hih_8 (by kernel_rfl) (by kernel_rfl) (by kernel_rfl) ?hqh_8 ?hyh_8 (by assumption) ?rh_8
      case hih_8 => (simp only [List.getElem?_toArray, List.getElem?_cons_succ, List.getElem?_cons_zero]; rfl)
      case hqh_8 => exact fun _ _ _ h => h
      case hyh_8 =>
        refine Or.inl ⟨by rfl, ?_⟩; intro wq hSw; (try dsimp only at hSw); go_simp; (try with_reducible rfl); done
      try simp only [Act.put, List.setIfInBounds_toArray, List.set_cons_zero, List.set_cons_succ]
      refine wpAnyH_take (i := 9) (oi := ?oh_9) (v := ?vh_9) ?hih_9 (by kernel_rfl) (by kernel_rfl) (by kernel_rfl) ?hqh_9 ?hyh_9 (by assumption) ?rh_9
      case hih_9 => (simp only [List.getElem?_toArray, List.getElem?_cons_succ, List.getElem?_cons_zero]; rfl)
      case hqh_9 => exact fun _ _ _ h => h
      case hyh_9 =>
        refine Or.inl ⟨by rfl, ?_⟩; intro wq hSw; (try dsimp only at hSw); go_simp; (try with_reducible rfl); done
      try simp only [Act.put, List.setIfInBounds_toArray, List.set_cons_zero, List.set_cons_succ]
      refine wpAnyH_take (i := 10) (oi := ?oh_10) (v := ?vh_10) ?hih_10 (by kernel_rfl) (by kernel_rfl) (by kernel_rfl) ?hqh_10 ?hyh_10 (by assumption) ?rh_10
      case hih_10 => (simp only [List.getElem?_toArray, List.getElem?_cons_succ, List.getElem?_cons_zero]; rfl)
      case hqh_10 => exact fun _ _ _ h => h
      case hyh_10 =>
        refine Or.inl ⟨by rfl, ?_⟩; intro wq hSw; (try dsimp only at hSw); go_simp; (try with_reducible rfl); done
      try simp only [Act.put, List.setIfInBounds_toArray, List.set_cons_zero, List.set_cons_succ]
      refine wpAnyH_take (i := 12) (oi := ?oh_12) (v := ?vh_12) ?hih_12 (by kernel_rfl) (by kernel_rfl) (by kernel_rfl) ?hqh_12 ?hyh_12 (by assumption) ?rh_12
      case hih_12 => (simp only [List.getElem?_toArray, List.getElem?_cons_succ, List.getElem?_cons_zero]; rfl)
      case hqh_12 => exact fun _ _ _ h => h
      case hyh_12 =>
        refine Or.inl ⟨by rfl, ?_⟩; intro wq hSw; (try dsimp only at hSw); go_simp; (try with_reducible rfl); done
      try simp only [Act.put, List.setIfInBounds_toArray, List.set_cons_zero, List.set_cons_succ]
      refine wpAnyH_take (i := 13) (oi := ?oh_13) (v := ?vh_13) ?hih_13 (by kernel_rfl) (by kernel_rfl) (by kernel_rfl) ?hqh_13 ?hyh_13 (by assumption) ?rh_13
      case hih_13 => (simp only [List.getElem?_toArray, List.getElem?_cons_succ, List.getElem?_cons_zero]; rfl)
      case hqh_13 => exact fun _ _ _ h => h
      case hyh_13 =>
        refine Or.inl ⟨by rfl, ?_⟩; intro wq hSw; (try dsimp only at hSw); go_simp; (try with_reducible rfl); done
      try simp only [Act.put, List.setIfInBounds_toArray, List.set_cons_zero, List.set_cons_succ]
      refine wpAnyH_take (i := 14) (oi := ?oh_14) (v := ?vh_14) ?hih_14 (by kernel_rfl) (by kernel_rfl) (by kernel_rfl) ?hqh_14 ?hyh_14 (by assumption) ?rh_14
      case hih_14 => (simp only [List.getElem?_toArray, List.getElem?_cons_succ, List.getElem?_cons_zero]; rfl)
      case hqh_14 => exact fun _ _ _ h => h
      case hyh_14 =>
        refine Or.inl ⟨by rfl, ?_⟩; intro wq hSw; (try dsimp only at hSw); go_simp; (try with_reducible rfl); done
      try simp only [Act.put, List.setIfInBounds_toArray, List.set_cons_zero, List.set_cons_succ]
      refine wpAnyH_take (i := 15) (oi := ?oh_15) (v := ?vh_15) ?hih_15 (by kernel_rfl) (by kernel_rfl) (by kernel_rfl) ?hqh_15 ?hyh_15 (by assumption) ?rh_15
      case hih_15 => (simp only [List.getElem?_toArray, List.getElem?_cons_succ, List.getElem?_cons_zero]; rfl)
      case hqh_15 => exact fun _ _ _ h => h
      case hyh_15 =>
        refine Or.inl ⟨by rfl, ?_⟩; intro wq hSw; (try dsimp only at hSw); go_simp; (try with_reducible rfl); done
      try simp only [Act.put, List.setIfInBounds_toArray, List.set_cons_zero, List.set_cons_succ]
      have cx := own_elem placL_len OD.out (k := A) hAO
      rw [hx] at cx
      have cy := own_elem placL_len OD.out (k := B) hBO
      rw [hy] at cy
      have qx0 : WD.cell? ⟨G, A * 5, none⟩ = some (.bool x.rc.live) := cx 0 (by decide)
      have qx1 : WD.cell? ⟨G, A * 5 + 1, none⟩ = some (.int .i64 x.rc.dist) := cx 1 (by decide)
      have qx2 : WD.cell? ⟨G, A * 5 + 2, none⟩ = some (.int .i64 x.rc.weight) := cx 2 (by decide)
      have qx3 : WD.cell? ⟨G, A * 5 + 3, none⟩ = some (.string x.rc.word) := cx 3 (by decide)
      have qx4 : WD.cell? ⟨G, A * 5 + 4, none⟩ = some (.int .i64 x.pos) := cx 4 (by decide)
      have qy0 : WD.cell? ⟨G, B * 5, none⟩ = some (.bool y.rc.live) := cy 0 (by decide)
      have qy1 : WD.cell? ⟨G, B * 5 + 1, none⟩ = some (.int .i64 y.rc.dist) := cy 1 (by decide)
      have qy2 : WD.cell? ⟨G, B * 5 + 2, none⟩ = some (.int .i64 y.rc.weight) := cy 2 (by decide)
      have qy3 : WD.cell? ⟨G, B * 5 + 3, none⟩ = some (.string y.rc.word) := cy 3 (by decide)
      have qy4 : WD.cell? ⟨G, B * 5 + 4, none⟩ = some (.int .i64 y.pos) := cy 4 (by decide)
      clear cx cy
      refine wpAnyH_ready (rs := [11, 16]) (by kernel_rfl) (by simp) ?_
      refine AllReadyH.cons (by simp only [List.getElem?_toArray, List.getElem?_cons_succ, List.getElem?_cons_zero]; rfl) (fun K hK => ?wA) (AllReadyH.cons (by simp only [List.getElem?_toArray, List.getElem?_cons_succ, List.getElem?_cons_zero]; rfl) (fun K hK => ?wB) AllReadyH.nil)
      case wA =>
        go_simp
        refine hK.out _ _ (SF.out _ KXD.out KFD.out) (fun hHeld2 => ?_)
        clear hK K hHeld
        try simp only [Act.put, List.setIfInBounds_toArray, List.set_cons_zero, List.set_cons_succ]
        refine wpAnyH_ready (rs := [16]) (by kernel_rfl) (by simp) ?_
        refine AllReadyH.cons (by simp only [List.getElem?_toArray, List.getElem?_cons_succ, List.getElem?_cons_zero]; rfl) (fun K hK => ?_) AllReadyH.nil
        go_simp
        refine hK.out _ _ (SF.out _ KXD.out KFD.out) (fun hHeld16 => ?_)
        clear hK K hHeld2
        try simp only [Act.put, List.setIfInBounds_toArray, List.set_cons_zero, List.set_cons_succ]
        clear qx0 qx1 qx2 qx3 qx4 qy0 qy1 qy2 qy3 qy4
        refine wpAnyH_ready (rs := [17]) (by kernel_rfl) (by simp) ?_
        refine AllReadyH.cons (by simp only [List.getElem?_toArray, List.getElem?_cons_succ, List.getElem?_cons_zero]; rfl) (fun K hK => ?_) AllReadyH.nil
        go_simp
        go_at_call 104
        refine (UP.out _).mono ?_
        rintro e wc ⟨rfl, hbc⟩
        have OC := Lib.hid (own_below OD.out hbc)
        have KXC := Lib.hid (kept_block KXD.out hbc)
        have KFC := Lib.hid (kept_block KFD.out hbc)
        have KTC := Lib.hid (kept_block KTD.out hbc)
        have BC := Lib.hid (below_seq BD.out hbc)
        clear hbc UP OD KXD KFD KTD BD
        refine hK.out _ _ (SF.out _ KXC.out KFC.out) (fun hHeld17 => ?_)
        clear hK K hHeld16
        try simp only [Act.put, List.setIfInBounds_toArray, List.set_cons_zero, List.set_cons_succ]
        refine wpAnyH_take (i := 18) (oi := ?owAt_18) (v := ?vwAt_18) ?hiwAt_18 (by kernel_rfl) (by kernel_rfl) (by kernel_rfl) ?hqwAt_18 ?hywAt_18 (by assumption) ?rwAt_18
        case hiwAt_18 => (simp only [List.getElem?_toArray, List.getElem?_cons_succ, List.getElem?_cons_zero]; rfl)
        case hqwAt_18 => exact fun _ _ _ h => h
        case hywAt_18 =>
          refine Or.inl ⟨by rfl, ?_⟩; intro wq hSw; (try dsimp only at hSw); go_simp; (try with_reducible rfl); done
        try simp only [Act.put, List.setIfInBounds_toArray, List.set_cons_zero, List.set_cons_succ]
        refine wpAnyH_take (i := 19) (oi := ?owAt_19) (v := ?vwAt_19) ?hiwAt_19 (by kernel_rfl) (by kernel_rfl) (by kernel_rfl) ?hqwAt_19 ?hywAt_19 (by assumption) ?rwAt_19
        case hiwAt_19 => (simp only [List.getElem?_toArray, List.getElem?_cons_succ, List.getElem?_cons_zero]; rfl)
        case hqwAt_19 => exact fun _ _ _ h => h
        case hywAt_19 =>
          refine Or.inl ⟨by rfl, ?_⟩; intro wq hSw; (try dsimp only at hSw); go_simp; (try with_reducible rfl); done
        try simp only [Act.put, List.setIfInBounds_toArray, List.set_cons_zero, List.set_cons_succ]
        refine wpAnyH_take (i := 20) (oi := ?owAt_20) (v := ?vwAt_20) ?hiwAt_20 (by kernel_rfl) (by kernel_rfl) (by kernel_rfl) ?hqwAt_20 ?hywAt_20 (by assumption) ?rwAt_20
        case hiwAt_20 => (simp only [List.getElem?_toArray, List.getElem?_cons_succ, List.getElem?_cons_zero]; rfl)
        case hqwAt_20 => exact fun _ _ _ h => h
        case hywAt_20 =>
          refine Or.inl ⟨by rfl, ?_⟩; intro wq hSw; (try dsimp only at hSw); go_simp; (try with_reducible rfl); done
        try simp only [Act.put, List.setIfInBounds_toArray, List.set_cons_zero, List.set_cons_succ]
        refine wpAnyH_take (i := 21) (oi := ?owAt_21) (v := ?vwAt_21) ?hiwAt_21 (by kernel_rfl) (by kernel_rfl) (by kernel_rfl) ?hqwAt_21 ?hywAt_21 (by assumption) ?rwAt_21
        case hiwAt_21 => (simp only [List.getElem?_toArray, List.getElem?_cons_succ, List.getElem?_cons_zero]; rfl)
        case hqwAt_21 => exact fun _ _ _ h => h
        case hywAt_21 =>
          refine Or.inl ⟨by rfl, ?_⟩; intro wq hSw; (try dsimp only at hSw); go_simp; (try with_reducible rfl); done
        try simp only [Act.put, List.setIfInBounds_toArray, List.set_cons_zero, List.set_cons_succ]
        have O9 := Lib.hid (own_elem_set placL_len OC.out (k := A) hAO p)
        have hAO9 : (O.set A p).length = O.length := by simp
        have O10 := Lib.hid (own_elem_set placL_len O9.out.1 (k := B) (by rw [hAO9]; exact hBO) p2)
        have EF := Lib.hid (show (O.set A p).set B p2 = runQ (ws.take (q + 1)) l from NX.out.symm)
        have ccA := own_elem placL_len OC.out (k := A) hAO
        obtain ⟨oA, hoA⟩ : ∃ r, O[A] = r := ⟨_, rfl⟩
        rw [hoA] at ccA
        have ccB := own_elem placL_len O9.out.1 (k := B) (by rw [hAO9]; exact hBO)
        obtain ⟨oB, hoB⟩ : ∃ r, (O.set A p)[B]'(by rw [hAO9]; exact hBO) = r := ⟨_, rfl⟩
        rw [hoB] at ccB
        have fA0 := OC.out.frozenAt (A * 5)
        have cA0 : wc.cell? ⟨G, A * 5, none⟩ = some (.bool oA.rc.live) := ccA 0 (by decide)
        have fA1 := OC.out.frozenAt (A * 5 + 1)
        have cA1 : wc.cell? ⟨G, A * 5 + 1, none⟩ = some (.int .i64 oA.rc.dist) := ccA 1 (by decide)
        have fA2 := OC.out.frozenAt (A * 5 + 2)
        have cA2 : wc.cell? ⟨G, A * 5 + 2, none⟩ = some (.int .i64 oA.rc.weight) := ccA 2 (by decide)
        have fA3 := OC.out.frozenAt (A * 5 + 3)
        have cA3 : wc.cell? ⟨G, A * 5 + 3, none⟩ = some (.string oA.rc.word) := ccA 3 (by decide)
        have fA4 := OC.out.frozenAt (A * 5 + 4)
        have cA4 : wc.cell? ⟨G, A * 5 + 4, none⟩ = some (.int .i64 oA.pos) := ccA 4 (by decide)
        obtain ⟨W9, hW9⟩ : ∃ W9, W9 = setCellsL wc G (A * 5) (placL p) := ⟨_, rfl⟩
        rw [← hW9] at O9 O10 ccB
        have hb9 : ∀ b, ¬ b = G → W9.heap[b]? = wc.heap[b]? := fun b hb => by rw [hW9]; exact setCellsL_other hb _ _ _
        have KX9 := Lib.hid ((hb9 X nX).trans KXC.out)
        have KF9 := Lib.hid ((hb9 _ nF).trans KFC.out)
        have KT9 := Lib.hid ((hb9 _ nT).trans KTC.out)
        replace hW9 : W9 = (((((((((wc.setCell ⟨G, A * 5, none⟩ (.bool p.rc.live))).setCell ⟨G, A * 5 + 1, none⟩ (.int .i64 p.rc.dist))).setCell ⟨G, A * 5 + 2, none⟩ (.int .i64 p.rc.weight))).setCell ⟨G, A * 5 + 3, none⟩ (.string p.rc.word))).setCell ⟨G, A * 5 + 4, none⟩ (.int .i64 p.pos)) := hW9
        clear hb9 hoA ccA NX OC KXC KFC KTC
        refine wpAnyH_ready (rs := [22]) (by kernel_rfl) (by simp) ?_
        refine AllReadyH.cons (by simp only [List.getElem?_toArray, List.getElem?_cons_succ, List.getElem?_cons_zero]; rfl) (fun K hK => ?_) AllReadyH.nil
        go_simp
        rw [← hW9]
        clear hW9 fA0 cA0 fA1 cA1 fA2 cA2 fA3 cA3 fA4 cA4
        refine hK.out _ _ (SF.out _ KX9.out KF9.out) (fun hHeld22 => ?_)
        clear hK K hHeld17
        try simp only [Act.put, List.setIfInBounds_toArray, List.set_cons_zero, List.set_cons_succ]
        refine wpAnyH_take (i := 23) (oi := ?owAt_23) (v := ?vwAt_23) ?hiwAt_23 (by kernel_rfl) (by kernel_rfl) (by kernel_rfl) ?hqwAt_23 ?hywAt_23 (by assumption) ?rwAt_23
        case hiwAt_23 => (simp only [List.getElem?_toArray, List.getElem?_cons_succ, List.getElem?_cons_zero]; rfl)
        case hqwAt_23 => exact fun _ _ _ h => h
        case hywAt_23 =>
          refine Or.inl ⟨by rfl, ?_⟩; intro wq hSw; (try dsimp only at hSw); go_simp; (try with_reducible rfl); done
        try simp only [Act.put, List.setIfInBounds_toArray, List.set_cons_zero, List.set_cons_succ]
        have fB0 := O9.out.1.frozenAt (B * 5)
        have cB0 : W9.cell? ⟨G, B * 5, none⟩ = some (.bool oB.rc.live) := ccB 0 (by decide)
        have fB1 := O9.out.1.frozenAt (B * 5 + 1)
        have cB1 : W9.cell? ⟨G, B * 5 + 1, none⟩ = some (.int .i64 oB.rc.dist) := ccB 1 (by decide)
        have fB2 := O9.out.1.frozenAt (B * 5 + 2)
        have cB2 : W9.cell? ⟨G, B * 5 + 2, none⟩ = some (.int .i64 oB.rc.weight) := ccB 2 (by decide)
        have fB3 := O9.out.1.frozenAt (B * 5 + 3)
        have cB3 : W9.cell? ⟨G, B * 5 + 3, none⟩ = some (.string oB.rc.word) := ccB 3 (by decide)
        have fB4 := O9.out.1.frozenAt (B * 5 + 4)
        have cB4 : W9.cell? ⟨G, B * 5 + 4, none⟩ = some (.int .i64 oB.pos) := ccB 4 (by decide)
        obtain ⟨W10, hW10⟩ : ∃ W10, W10 = setCellsL W9 G (B * 5) (placL p2) := ⟨_, rfl⟩
        rw [← hW10] at O10
        have hb10 : ∀ b, ¬ b = G → W10.heap[b]? = W9.heap[b]? := fun b hb => by rw [hW10]; exact setCellsL_other hb _ _ _
        have KX10 := Lib.hid ((hb10 X nX).trans KX9.out)
        have KF10 := Lib.hid ((hb10 _ nF).trans KF9.out)
        have KT10 := Lib.hid ((hb10 _ nT).trans KT9.out)
        replace hW10 : W10 = (((((((((W9.setCell ⟨G, B * 5, none⟩ (.bool p2.rc.live))).setCell ⟨G, B * 5 + 1, none⟩ (.int .i64 p2.rc.dist))).setCell ⟨G, B * 5 + 2, none⟩ (.int .i64 p2.rc.weight))).setCell ⟨G, B * 5 + 3, none⟩ (.string p2.rc.word))).setCell ⟨G, B * 5 + 4, none⟩ (.int .i64 p2.pos)) := hW10
        have FZ := Lib.hid (show W10.ownsRow w.heap.size 74 5 (.slice (some ⟨G, 0, none⟩) l.length cp) l.length (flatG placL (runQ (ws.take (q + 1)) l)) ∧ W10.heap[w.heap.size]? = some (.cells #[.func (.func 85) #[] #[]] 77 (0, 0)) ∧ W10.heap[w.heap.size + 1]? = some (.cells #[.int .i64 n, .slice (some ⟨bw, ow, none⟩) ws.length kw] 36 (0, 0)) ∧ Below w.heap.size w W10 from ⟨by rw [← EF.out]; exact O10.out.1, KF10.out, KT10.out, (BC.out.grown O9.out.2 BC.out.size (fun g hg => by cases hg; omega)).grown O10.out.2 (Nat.le_trans BC.out.size O9.out.2.size) (fun g hg => by cases hg; omega)⟩)
        clear hb10 hoB ccB EF O9 O10 KX9 KF9 KT9 KF10 KT10 BC
        refine wpAnyH_ready (rs := [24]) (by kernel_rfl) (by simp) ?_
        refine AllReadyH.cons (by simp only [List.getElem?_toArray, List.getElem?_cons_succ, List.getElem?_cons_zero]; rfl) (fun K hK => ?_) AllReadyH.nil
        go_simp
        rw [← hW10]
        clear hW10 fB0 cB0 fB1 cB1 fB2 cB2 fB3 cB3 fB4 cB4
        refine hK.out _ _ ((SF.out _ KX10.out FZ.out.2.1)) (fun hHeld24 => ?_)
        clear hK K hHeld22
        try simp only [Act.put, List.setIfInBounds_toArray, List.set_cons_zero, List.set_cons_succ]
        refine wpAnyH_done (by kernel_rfl) ?_ _
        clear KX10 hHeld24
        go_wp2
        go_roundg (ws.length - (q + 1))
        case measure => omega
        case rel => exact ⟨q + 1, by omega, rfl, by go_num, FZ⟩
      case wB =>
        go_simp
        refine hK.out _ _ (SF.out _ KXD.out KFD.out) (fun hHeld2 => ?_)
        clear hK K hHeld
        try simp only [Act.put, List.setIfInBounds_toArray, List.set_cons_zero, List.set_cons_succ]
        refine wpAnyH_ready (rs := [11]) (by kernel_rfl) (by simp) ?_
        refine AllReadyH.cons (by simp only [List.getElem?_toArray, List.getElem?_cons_succ, List.getElem?_cons_zero]; rfl) (fun K hK => ?_) AllReadyH.nil
        go_simp
        refine hK.out _ _ (SF.out _ KXD.out KFD.out) (fun hHeld11 => ?_)
        clear hK K hHeld2
        try simp only [Act.put, List.setIfInBounds_toArray, List.set_cons_zero, List.set_cons_succ]
        clear qx0 qx1 qx2 qx3 qx4 qy0 qy1 qy2 qy3 qy4
        refine wpAnyH_ready (rs := [17]) (by kernel_rfl) (by simp) ?_
        refine AllReadyH.cons (by simp only [List.getElem?_toArray, List.getElem?_cons_succ, List.getElem?_cons_zero]; rfl) (fun K hK => ?_) AllReadyH.nil
        go_simp
        go_at_call 104
        refine (UP.out _).mono ?_
        rintro e wc ⟨rfl, hbc⟩
        have OC := Lib.hid (own_below OD.out hbc)
        have KXC := Lib.hid (kept_block KXD.out hbc)
        have KFC := Lib.hid (kept_block KFD.out hbc)
        have KTC := Lib.hid (kept_block KTD.out hbc)
        have BC := Lib.hid (below_seq BD.out hbc)
        clear hbc UP OD KXD KFD KTD BD
        refine hK.out _ _ (SF.out _ KXC.out KFC.out) (fun hHeld17 => ?_)
        clear hK K hHeld11
        try simp only [Act.put, List.setIfInBounds_toArray, List.set_cons_zero, List.set_cons_succ]
        refine wpAnyH_take (i := 18) (oi := ?owBt_18) (v := ?vwBt_18) ?hiwBt_18 (by kernel_rfl) (by kernel_rfl) (by kernel_rfl) ?hqwBt_18 ?hywBt_18 (by assumption) ?rwBt_18
        case hiwBt_18 => (simp only [List.getElem?_toArray, List.getElem?_cons_succ, List.getElem?_cons_zero]; rfl)
        case hqwBt_18 => exact fun _ _ _ h => h
        case hywBt_18 =>
          refine Or.inl ⟨by rfl, ?_⟩; intro wq hSw; (try dsimp only at hSw); go_simp; (try with_reducible rfl); done
        try simp only [Act.put, List.setIfInBounds_toArray, List.set_cons_zero, List.set_cons_succ]
        refine wpAnyH_take (i := 19) (oi := ?owBt_19) (v := ?vwBt_19) ?hiwBt_19 (by kernel_rfl) (by kernel_rfl) (by kernel_rfl) ?hqwBt_19 ?hywBt_19 (by assumption) ?rwBt_19
        case hiwBt_19 => (simp only [List.getElem?_toArray, List.getElem?_cons_succ, List.getElem?_cons_zero]; rfl)
        case hqwBt_19 => exact fun _ _ _ h => h
        case hywBt_19 =>
          refine Or.inl ⟨by rfl, ?_⟩; intro wq hSw; (try dsimp only at hSw); go_simp; (try with_reducible rfl); done
        try simp only [Act.put, List.setIfInBounds_toArray, List.set_cons_zero, List.set_cons_succ]
        refine wpAnyH_take (i := 20) (oi := ?owBt_20) (v := ?vwBt_20) ?hiwBt_20 (by kernel_rfl) (by kernel_rfl) (by kernel_rfl) ?hqwBt_20 ?hywBt_20 (by assumption) ?rwBt_20
        case hiwBt_20 => (simp only [List.getElem?_toArray, List.getElem?_cons_succ, List.getElem?_cons_zero]; rfl)
        case hqwBt_20 => exact fun _ _ _ h => h
        case hywBt_20 =>
          refine Or.inl ⟨by rfl, ?_⟩; intro wq hSw; (try dsimp only at hSw); go_simp; (try with_reducible rfl); done
        try simp only [Act.put, List.setIfInBounds_toArray, List.set_cons_zero, List.set_cons_succ]
        refine wpAnyH_take (i := 21) (oi := ?owBt_21) (v := ?vwBt_21) ?hiwBt_21 (by kernel_rfl) (by kernel_rfl) (by kernel_rfl) ?hqwBt_21 ?hywBt_21 (by assumption) ?rwBt_21
        case hiwBt_21 => (simp only [List.getElem?_toArray, List.getElem?_cons_succ, List.getElem?_cons_zero]; rfl)
        case hqwBt_21 => exact fun _ _ _ h => h
        case hywBt_21 =>
          refine Or.inl ⟨by rfl, ?_⟩; intro wq hSw; (try dsimp only at hSw); go_simp; (try with_reducible rfl); done
        try simp only [Act.put, List.setIfInBounds_toArray, List.set_cons_zero, List.set_cons_succ]
        have O9 := Lib.hid (own_elem_set placL_len OC.out (k := A) hAO p)
        have hAO9 : (O.set A p).length = O.length := by simp
        have O10 := Lib.hid (own_elem_set placL_len O9.out.1 (k := B) (by rw [hAO9]; exact hBO) p2)
        have EF := Lib.hid (show (O.set A p).set B p2 = runQ (ws.take (q + 1)) l from NX.out.symm)
        have ccA := own_elem placL_len OC.out (k := A) hAO
        obtain ⟨oA, hoA⟩ : ∃ r, O[A] = r := ⟨_, rfl⟩
        rw [hoA] at ccA
        have ccB := own_elem placL_len O9.out.1 (k := B) (by rw [hAO9]; exact hBO)
        obtain ⟨oB, hoB⟩ : ∃ r, (O.set A p)[B]'(by rw [hAO9]; exact hBO) = r := ⟨_, rfl⟩
        rw [hoB] at ccB
        have fA0 := OC.out.frozenAt (A * 5)
        have cA0 : wc.cell? ⟨G, A * 5, none⟩ = some (.bool oA.rc.live) := ccA 0 (by decide)
        have fA1 := OC.out.frozenAt (A * 5 + 1)
        have cA1 : wc.cell? ⟨G, A * 5 + 1, none⟩ = some (.int .i64 oA.rc.dist) := ccA 1 (by decide)
        have fA2 := OC.out.frozenAt (A * 5 + 2)
        have cA2 : wc.cell? ⟨G, A * 5 + 2, none⟩ = some (.int .i64 oA.rc.weight) := ccA 2 (by decide)
        have fA3 := OC.out.frozenAt (A * 5 + 3)
        have cA3 : wc.cell? ⟨G, A * 5 + 3, none⟩ = some (.string oA.rc.word) := ccA 3 (by decide)
        have fA4 := OC.out.frozenAt (A * 5 + 4)
        have cA4 : wc.cell? ⟨G, A * 5 + 4, none⟩ = some (.int .i64 oA.pos) := ccA 4 (by decide)
        obtain ⟨W9, hW9⟩ : ∃ W9, W9 = setCellsL wc G (A * 5) (placL p) := ⟨_, rfl⟩
        rw [← hW9] at O9 O10 ccB
        have hb9 : ∀ b, ¬ b = G → W9.heap[b]? = wc.heap[b]? := fun b hb => by rw [hW9]; exact setCellsL_other hb _ _ _
        have KX9 := Lib.hid ((hb9 X nX).trans KXC.out)
        have KF9 := Lib.hid ((hb9 _ nF).trans KFC.out)
        have KT9 := Lib.hid ((hb9 _ nT).trans KTC.out)
        replace hW9 : W9 = (((((((((wc.setCell ⟨G, A * 5, none⟩ (.bool p.rc.live))).setCell ⟨G, A * 5 + 1, none⟩ (.int .i64 p.rc.dist))).setCell ⟨G, A * 5 + 2, none⟩ (.int .i64 p.rc.weight))).setCell ⟨G, A * 5 + 3, none⟩ (.string p.rc.word))).setCell ⟨G, A * 5 + 4, none⟩ (.int .i64 p.pos)) := hW9
        clear hb9 hoA ccA NX OC KXC KFC KTC
        refine wpAnyH_ready (rs := [22]) (by kernel_rfl) (by simp) ?_
        refine AllReadyH.cons (by simp only [List.getElem?_toArray, List.getElem?_cons_succ, List.getElem?_cons_zero]; rfl) (fun K hK => ?_) AllReadyH.nil
        go_simp
        rw [← hW9]
        clear hW9 fA0 cA0 fA1 cA1 fA2 cA2 fA3 cA3 fA4 cA4
        refine hK.out _ _ (SF.out _ KX9.out KF9.out) (fun hHeld22 => ?_)
        clear hK K hHeld17
        try simp only [Act.put, List.setIfInBounds_toArray, List.set_cons_zero, List.set_cons_succ]
        refine wpAnyH_take (i := 23) (oi := ?owBt_23) (v := ?vwBt_23) ?hiwBt_23 (by kernel_rfl) (by kernel_rfl) (by kernel_rfl) ?hqwBt_23 ?hywBt_23 (by assumption) ?rwBt_23
        case hiwBt_23 => (simp only [List.getElem?_toArray, List.getElem?_cons_succ, List.getElem?_cons_zero]; rfl)
        case hqwBt_23 => exact fun _ _ _ h => h
        case hywBt_23 =>
          refine Or.inl ⟨by rfl, ?_⟩; intro wq hSw; (try dsimp only at hSw); go_simp; (try with_reducible rfl); done
        try simp only [Act.put, List.setIfInBounds_toArray, List.set_cons_zero, List.set_cons_succ]
        have fB0 := O9.out.1.frozenAt (B * 5)
        have cB0 : W9.cell? ⟨G, B * 5, none⟩ = some (.bool oB.rc.live) := ccB 0 (by decide)
        have fB1 := O9.out.1.frozenAt (B * 5 + 1)
        have cB1 : W9.cell? ⟨G, B * 5 + 1, none⟩ = some (.int .i64 oB.rc.dist) := ccB 1 (by decide)
        have fB2 := O9.out.1.frozenAt (B * 5 + 2)
        have cB2 : W9.cell? ⟨G, B * 5 + 2, none⟩ = some (.int .i64 oB.rc.weight) := ccB 2 (by decide)
        have fB3 := O9.out.1.frozenAt (B * 5 + 3)
        have cB3 : W9.cell? ⟨G, B * 5 + 3, none⟩ = some (.string oB.rc.word) := ccB 3 (by decide)
        have fB4 := O9.out.1.frozenAt (B * 5 + 4)
        have cB4 : W9.cell? ⟨G, B * 5 + 4, none⟩ = some (.int .i64 oB.pos) := ccB 4 (by decide)
        obtain ⟨W10, hW10⟩ : ∃ W10, W10 = setCellsL W9 G (B * 5) (placL p2) := ⟨_, rfl⟩
        rw [← hW10] at O10
        have hb10 : ∀ b, ¬ b = G → W10.heap[b]? = W9.heap[b]? := fun b hb => by rw [hW10]; exact setCellsL_other hb _ _ _
        have KX10 := Lib.hid ((hb10 X nX).trans KX9.out)
        have KF10 := Lib.hid ((hb10 _ nF).trans KF9.out)
        have KT10 := Lib.hid ((hb10 _ nT).trans KT9.out)
        replace hW10 : W10 = (((((((((W9.setCell ⟨G, B * 5, none⟩ (.bool p2.rc.live))).setCell ⟨G, B * 5 + 1, none⟩ (.int .i64 p2.rc.dist))).setCell ⟨G, B * 5 + 2, none⟩ (.int .i64 p2.rc.weight))).setCell ⟨G, B * 5 + 3, none⟩ (.string p2.rc.word))).setCell ⟨G, B * 5 + 4, none⟩ (.int .i64 p2.pos)) := hW10
        have FZ := Lib.hid (show W10.ownsRow w.heap.size 74 5 (.slice (some ⟨G, 0, none⟩) l.length cp) l.length (flatG placL (runQ (ws.take (q + 1)) l)) ∧ W10.heap[w.heap.size]? = some (.cells #[.func (.func 85) #[] #[]] 77 (0, 0)) ∧ W10.heap[w.heap.size + 1]? = some (.cells #[.int .i64 n, .slice (some ⟨bw, ow, none⟩) ws.length kw] 36 (0, 0)) ∧ Below w.heap.size w W10 from ⟨by rw [← EF.out]; exact O10.out.1, KF10.out, KT10.out, (BC.out.grown O9.out.2 BC.out.size (fun g hg => by cases hg; omega)).grown O10.out.2 (Nat.le_trans BC.out.size O9.out.2.size) (fun g hg => by cases hg; omega)⟩)
        clear hb10 hoB ccB EF O9 O10 KX9 KF9 KT9 KF10 KT10 BC
        refine wpAnyH_ready (rs := [24]) (by kernel_rfl) (by simp) ?_
        refine AllReadyH.cons (by simp only [List.getElem?_toArray, List.getElem?_cons_succ, List.getElem?_cons_zero]; rfl) (fun K hK => ?_) AllReadyH.nil
        go_simp
        rw [← hW10]
        clear hW10 fB0 cB0 fB1 cB1 fB2 cB2 fB3 cB3 fB4 cB4
        refine hK.out _ _ ((SF.out _ KX10.out FZ.out.2.1)) (fun hHeld24 => ?_)
        clear hK K hHeld22
        try simp only [Act.put, List.setIfInBounds_toArray, List.set_cons_zero, List.set_cons_succ]
        refine wpAnyH_done (by kernel_rfl) ?_ _
        clear KX10 hHeld24
        go_wp2
        go_roundg (ws.length - (q + 1))
        case measure => omega
        case rel => exact ⟨q + 1, by omega, rfl, by go_num, FZ⟩
    · have eq : q = ws.length := by omega
      subst eq
      have e2 : ws.take ws.length = ws := List.take_length
      rw [e2] at H
      have Z := Lib.hid (And.intro H.out.1 H.out.2.2.2)
      clear H e2
      go_wp2
      go_ret
      exact ⟨G, cp, rfl, Z.out.1, Z.out.2⟩
end Go.Proofs.Ytaedamnhobcdlaa
end

section
namespace Go.Proofs.Ytaedamnhobcdlaa
open Go.RowKit
set_option linter.unusedVariables false
set_option linter.unusedSimpArgs false
set_option maxRecDepth 100000

set_option maxHeartbeats 4000000 in
theorem sortP (a : Option Addr) (cap : Nat) (l : List PlM) (w : World) (hl : l.length ≤ 64) (r : Row w a (flatG placL l)) : Calls Try.prog 58 #[.agg #[.func (.func 85) #[] #[]], .slice a l.length cap] w fun e w' => ∃ G cp, e = .returned (.slice (some ⟨G, 0, none⟩) l.length cp) ∧ w'.ownsRow w.heap.size 74 5 (.slice (some ⟨G, 0, none⟩) l.length cp) l.length (flatG placL ((runQ (bitonicM (sizeUp l.length)).ws (l ++ List.replicate (sizeUp l.length - l.length) zeroP)).take l.length)) ∧ Below w.heap.size w w' := by
  have R := Lib.hid r
  have hsz := sizeUp_le hl
  have htwo := size_two hl
  have RS := Lib.hid (fun w' => uImplRankSize (l.length : Int) w' (by omega))
  rw [rankSizeZ_at hl] at RS
  obtain ⟨z, hz⟩ : ∃ z, sizeUp l.length = z := ⟨_, rfl⟩
  rw [hz] at hsz htwo RS ⊢
  clear hz
  have BT := Lib.hid (fun w' => uImplBitonic (z : Int) w' (by omega))
  have GN := bitonic_good htwo
  obtain ⟨NB, hNB⟩ : ∃ NB, bitonicM (z : Int) = NB := ⟨_, rfl⟩
  rw [hNB] at BT GN ⊢
  clear hNB htwo
  obtain ⟨n', e1, _, hn64, hws, hwk⟩ := netOkB_ok GN.ok
  obtain ⟨nz, ws⟩ := NB
  have e2 : nz = (z : Int) := GN.size
  subst e2
  simp only at e1 hws hwk BT ⊢
  have e3 : z = n' := by omega
  subst e3
  have hfl : (l ++ List.replicate (z - l.length) zeroP).length = z := by simp; omega
  have RN := Lib.hid (fun (c0 c1 : Value) (a' : Option Addr) (w' : World) (h : NetIn [c0, c1] ⟨(z : Int), ws⟩ w') (r' : Row w' a' (flatG placL (l ++ List.replicate (z - l.length) zeroP))) => runP c0 c1 z ws a' z (l ++ List.replicate (z - l.length) zeroP) w' h hfl (by omega) (by omega) (by omega) hwk r')
  rw [hfl] at RN
  have hl2 : l.length ≤ z := hsz.1
  have hs64 : z ≤ 64 := hsz.2.1
  have FC := Lib.hid (show flatG placL l ++ (flatG placL (List.replicate z zeroP)).drop (l.length * 5) = flatG placL (l ++ List.replicate (z - l.length) zeroP) by rw [flatG_app, ← flatG_drop placL_len, List.drop_replicate])
  have RL := Lib.hid (show (runQ ws (l ++ List.replicate (z - l.length) zeroP)).length = z by rw [runQ_length, hfl])
  have FL := Lib.hid (flatG_len placL_len l)
  have FO := Lib.hid (flatG_one placL_one l)
  clear r GN e1 hws hwk hn64 hsz hfl 
  obtain ⟨i0, hi, hz0, hz1, hz2⟩ := info_parts Try.infoPl
  obtain ⟨W0, hW0⟩ : ∃ W0, W0 = w.alloc (.cells #[.func (.func 85) #[] #[]] 77) := ⟨_, rfl⟩
  have K0 := Lib.hid (show W0.heap[w.heap.size]? = some (.cells #[.func (.func 85) #[] #[]] 77 (0, 0)) by rw [hW0]; exact alloc_at _ _ _ rfl)
  have B0 := Lib.hid (show Below w.heap.size w W0 by rw [hW0]; exact below_box (Below.refl _ w) _)
  go_enter Try.func58, Try.ntmps58
  go_wp2_with fail
  rw [← hW0]
  clear hW0
  refine (RS.out _).mono ?_
  rintro e w1 ⟨rfl, hb⟩
  have B1 := Lib.hid (below_seq B0.out hb)
  replace K0 := Lib.hid (kept_block K0.out hb)
  clear hb RS B0
  go_wp2_with fail
  refine (BT.out _).mono ?_
  rintro e w2 h2
  obtain ⟨c0, c1, rfl, ho, hb⟩ := h2
  have NI := Lib.hid ho.read
  obtain ⟨ad, kd, rfl, rfl, _⟩ := netIn_cells ho.read
  have B2 := Lib.hid (below_seq B1.out hb)
  replace K0 := Lib.hid (kept_block K0.out hb)
  clear hb ho B1 BT
  simp only at NI RN ⊢
  obtain ⟨W3, hW3⟩ : ∃ W3, W3 = w2.alloc (.cells #[.int .i64 z, .slice ad ws.length kd] 36) := ⟨_, rfl⟩
  have B23 := Lib.hid (show Below w2.heap.size w2 W3 by rw [hW3]; exact below_box (Below.refl _ w2) _)
  have K3 := Lib.hid (show W3.heap[w2.heap.size]? = some (.cells #[.int .i64 z, .slice ad ws.length kd] 36 (0, 0)) by rw [hW3]; exact alloc_at _ _ _ rfl)
  replace NI := Lib.hid (NI.out.below B23.out)
  replace K0 := Lib.hid (kept_block K0.out B23.out)
  replace B2 := Lib.hid (below_seq B2.out B23.out)
  have q0 := cur_cell K3.out 0
  simp at q0
  have hX : w2.heap.size < W3.heap.size := cur_lt K3.out
  clear B23
  go_wp2_with (at_make; refine wpList_make_full _ rfl _ _ 72 rfl w.heap.size 74 i0 _ 5 Try.underlying72 hi hz0 hz1 .i64 .i64 _ _ z rfl rfl rfl rfl (by rw [hz2]; omega) (by unfold maxLen; omega) (by have := B2.out.size; rw [hW3] at this; exact this) ?_)
  clear hi hz0 hz1 hz2
  intro w4 hown hgr
  rw [← hW3] at hgr
  have hsW : W3.heap.size = w2.heap.size + 1 := by rw [hW3]; simp
  clear hW3
  have hb4 : Below W3.heap.size W3 w4 := grown_below hgr
  have hown' : w4.ownsRow w.heap.size 74 5 (.slice (some ⟨w2.heap.size + 1, 0, none⟩) z z) z (flatG placL (List.replicate z zeroP)) := by
    rw [← made_flat placL_len (by decide) zeroP _ rfl]; exact hown
  have B4 := Lib.hid (below_seq B2.out hb4)
  have hmin : Nat.min l.length z = l.length := Nat.min_eq_left hl2
  obtain ⟨w5, hcp, hown5, hg5⟩ := copy_minS (P := Try.prog) (dT := 72) (sT := 72) Try.underlying72 (by kernel_rfl) hown' a l.length cap (flatG placL l) FL.out (R.out.below B4.out) FO.out (by decide)
  rw [hmin] at hcp hown5
  rw [List.take_of_length_le (by rw [FL.out]; exact Nat.le_refl _), FC.out] at hown5
  have hb5 := below_write hb4 hg5 (by omega)
  have K5 := Lib.hid (kept_block K0.out hb5)
  have N5 := Lib.hid (kept_block K3.out hb5)
  have NI5 := Lib.hid (NI.out.below hb5)
  have B5 := Lib.hid (below_seq B2.out hb5)
  have R5 := Lib.hid (Row.of_own hown5)
  clear hown hown' hown5 hgr hg5 hb4 hb5 B2 B4 K0 K3 NI hmin R FL FO FC q0
  have u0 := cur_cell K5.out 0
  have n0 := cur_cell N5.out 0
  have n1 := cur_cell N5.out 1
  simp at u0 n0 n1
  go_wp2_with fail
  refine (RN.out _ _ _ _ NI5.out R5.out).mono ?_
  rintro e w6 ⟨G, cp, rfl, ho, hb⟩
  have hcp6 := own_cap ho
  have hlc : l.length ≤ cp := by omega
  have Z := Lib.hid (own_prefix (k := l.length) ho hl2)
  have B6 := Lib.hid (below_seq B5.out hb)
  have hBB := B5.out.size
  clear ho hb NI5 R5 RN u0 n0 n1 hcp B5
  go_wp2
  all_goals
    go_ret
    exact ⟨G, cp, rfl, by rw [flatG_take placL_len]; exact own_base Z.out hBB, B6.out⟩
theorem own_low {s base n cap g : Nat} {e : TypeId} {xs : List Value} {w : World} (h : w.ownsRow base e s (.slice (some ⟨g, 0, none⟩) n cap) n xs) : base ≤ g := by
  rcases h.2 with ⟨h2, _⟩ | ⟨g', cap', cur, hv, hg, _⟩
  · simp at h2
  · simp at hv
    obtain ⟨rfl, _⟩ := hv
    exact hg
theorem own_keptB {s base n : Nat} {e : TypeId} {v : Value} {xs : List Value} {w w' : World} (h : w.ownsRow base e s v n xs) (hk : ∀ b, v.ownBlock = some b → w'.heap[b]? = w.heap[b]?) : w'.ownsRow base e s v n xs := by
  refine ⟨h.1, ?_⟩
  rcases h.2 with h2 | ⟨g, cap, cur, rfl, hg, hb, r⟩
  · exact .inl h2
  · exact .inr ⟨g, cap, cur, rfl, hg, (hk g rfl).trans hb, r⟩
theorem plFrom_snoc : ∀ (l : List RecM) (i : Nat) (r : RecM), plFrom i (l ++ [r]) = plFrom i l ++ [⟨r, (i + l.length : Nat)⟩]
  | [], i, r => by simp [plFrom]
  | x :: l, i, r => by
    simp only [plFrom, List.cons_append]
    rw [plFrom_snoc l (i + 1) r]
    simp; omega
/-- The places, filled up to k. -/
def plsM (l : List RecM) (k : Nat) : List PlM := plFrom 0 (l.take k) ++ List.replicate (l.length - k) zeroP
theorem plsM_length (l : List RecM) (k : Nat) (h : k ≤ l.length) : (plsM l k).length = l.length := by unfold plsM; simp [plFrom_length]; omega
theorem plsM_zero (l : List RecM) : plsM l 0 = List.replicate l.length zeroP := by simp [plsM, plFrom]
theorem plsM_set (l : List RecM) (k : Nat) (h : k < l.length) : (plsM l k).set k ⟨l[k], k⟩ = plsM l (k + 1) := by
  unfold plsM
  have hl : (plFrom 0 (l.take k)).length = k := by rw [plFrom_length]; simp; omega
  rw [List.set_append_right _ _ (by omega), show k - (plFrom 0 (l.take k)).length = 0 from by omega, List.take_succ_eq_append_getElem h, plFrom_snoc, show l.length - k = (l.length - (k + 1)) + 1 from by omega, List.replicate_succ, List.set_cons_zero, List.append_assoc]
  simp; omega
theorem plsM_done (l : List RecM) : plsM l l.length = plFrom 0 l := by unfold plsM; simp
/-- The records of places, taken over up to k. -/
def recsM (Q : List PlM) (k : Nat) : List RecM := (Q.take k).map (·.rc) ++ List.replicate (Q.length - k) zeroR
theorem recsM_length (l : List PlM) (k : Nat) (h : k ≤ l.length) : (recsM l k).length = l.length := by unfold recsM; simp; omega
theorem recsM_zero (l : List PlM) : recsM l 0 = List.replicate l.length zeroR := by simp [recsM]
theorem recsM_set (l : List PlM) (k : Nat) (h : k < l.length) : (recsM l k).set k l[k].rc = recsM l (k + 1) := by
  unfold recsM
  rw [List.set_append_right _ _ (by simp; omega), show k - ((l.take k).map (·.rc)).length = 0 from by simp; omega, List.take_succ_eq_append_getElem h, show l.length - k = (l.length - (k + 1)) + 1 from by omega, List.replicate_succ, List.set_cons_zero, List.map_append, List.append_assoc]
  rfl
theorem recsM_done (l : List PlM) : recsM l l.length = l.map (·.rc) := by unfold recsM; simp
/-- A record of a row of placed ones. -/
theorem own_pl {w : World} {base g n cap k : Nat} {e : TypeId} {l : List PlM} (h : w.ownsRow base e 5 (.slice (some ⟨g, 0, none⟩) n cap) n (flatG placL l)) (hk : k < l.length) : w.cell? ⟨g, k * 5, none⟩ = some (.bool l[k].rc.live) ∧ w.cell? ⟨g, k * 5 + 1, none⟩ = some (.int .i64 l[k].rc.dist) ∧ w.cell? ⟨g, k * 5 + 2, none⟩ = some (.int .i64 l[k].rc.weight) ∧ w.cell? ⟨g, k * 5 + 3, none⟩ = some (.string l[k].rc.word) ∧ w.cell? ⟨g, k * 5 + 4, none⟩ = some (.int .i64 l[k].pos) := by
  have cc := own_elem placL_len h hk
  exact ⟨cc 0 (by decide), cc 1 (by decide), cc 2 (by decide), cc 3 (by decide), cc 4 (by decide)⟩
set_option maxHeartbeats 8000000 in
theorem uImplCompact (c : Value) (l : List RecM) (w : World) (h : RecSIn [c] l w) (hb : ∀ t ∈ l, recBd t) : Calls Try.prog 25 #[c] w (RecSRet (compactM l) w) := by
  have RO := Lib.hid (uImplRecsOk c l w h hb)
  obtain ⟨a, cap, rfl, hcap, hm, r⟩ := recSIn_shape h
  have R := Lib.hid r
  clear h r hb
  cases ho : recsOkB l
  · have E := Lib.hid (show compactM l = [] by unfold compactM; simp [ho])
    rw [ho] at RO
    go_enter Try.func25, Try.ntmps25
    go_wp2_with fail
    refine RO.out.mono ?_
    rintro e w1 ⟨rfl, hb⟩
    have B1 := Lib.hid hb
    clear hb RO
    go_wp2
    go_ret
    exact ⟨_, rfl, by rw [E.out]; exact RecSOwn.nil _ _ _, B1.out⟩
  · have hl := recsOkB_len ho
    have E := Lib.hid (show compactM l = compactL l by unfold compactM; rw [if_pos ho])
    have hPL := plFrom_length l 0
    have ST := Lib.hid (fun (a' : Option Addr) (c' : Nat) (w' : World) (r' : Row w' a' (flatG placL (plFrom 0 l))) => sortP a' c' (plFrom 0 l) w' (by omega) r')
    have NC := Lib.hid (net_compact (bitonic_good (size_two hl)) (sizeUp_le hl).1 hl (recsOkB_all ho))
    unfold placesM at NC
    rw [hPL] at ST
    obtain ⟨Q, hQ⟩ : ∃ Q, (runQ (bitonicM (sizeUp l.length)).ws (plFrom 0 l ++ List.replicate (sizeUp l.length - l.length) zeroP)).take l.length = Q := ⟨_, rfl⟩
    have QL : Q.length = l.length := by
      rw [← hQ, List.length_take, runQ_length]
      have := (sizeUp_le hl).1
      simp [hPL]
    have EQ := Lib.hid QL
    rw [hQ] at ST NC
    clear hQ hPL QL
    rw [ho] at RO
    clear ho
    have QL := EQ.out
    obtain ⟨i0, hi, hz0, hz1, hz2⟩ := info_parts Try.infoPl
    obtain ⟨j0, gi, gz0, gz1, gz2⟩ := info_parts Try.infoRec
    clear QL
    go_enter Try.func25, Try.ntmps25
    go_wp2_with fail
    refine RO.out.mono ?_
    rintro e w1 ⟨rfl, hb⟩
    have B1 := Lib.hid hb
    clear hb RO
    go_wp2_with (at_make; refine wpList_make_full _ rfl _ _ 72 rfl w.heap.size 74 i0 _ 5 Try.underlying72 hi hz0 hz1 .i64 .i64 _ _ l.length rfl rfl rfl rfl (by rw [hz2]; omega) (by unfold maxLen; omega) B1.out.size ?_)
    clear hi hz0 hz1 hz2
    intro w2 hown hgr
    have hb2 : Below w1.heap.size w1 w2 := grown_below hgr
    have S0 := Lib.hid (show w2.ownsRow w.heap.size 74 5 (.slice (some ⟨w1.heap.size, 0, none⟩) l.length l.length) l.length (flatG placL (plsM l 0)) ∧ Below w.heap.size w w2 from ⟨by rw [plsM_zero, ← made_flat placL_len (by decide) zeroP _ rfl]; exact hown, below_seq B1.out hb2⟩)
    have hg1 : w.heap.size ≤ w1.heap.size := B1.out.size
    clear hown hgr hb2 B1
    generalize w1.heap.size = g1 at *
    go_wp2_with fail
    go_loopg [17] l.length (fun kk i wr => ∃ k : Nat, k ≤ l.length ∧ l.length - k = kk ∧ i = .int .i64 k ∧ Hid (wr.ownsRow w.heap.size 74 5 (.slice (some ⟨g1, 0, none⟩) l.length l.length) l.length (flatG placL (plsM l k)) ∧ Below w.heap.size w wr))
    case atStart => exact ⟨0, Nat.zero_le _, rfl, rfl, S0⟩
    case round =>
      clear S0
      obtain ⟨k, hk, hkk, rfl, H⟩ := hrel
      by_cases hlt : k < l.length
      · obtain ⟨b1, o1, rfl, q0, q1, q2, q3⟩ := (R.out.below H.out.2).rec hlt
        have hcl := plsM_length l k hk
        have G := Lib.hid (plsM_set l k hlt)
        obtain ⟨r, hr⟩ : ∃ r, l[k] = r := ⟨_, rfl⟩
        rw [hr] at G q0 q1 q2 q3
        clear hr
        obtain ⟨x0, x1, x2, x3⟩ := r
        simp only at q0 q1 q2 q3
        have hGX : g1 < wr.heap.size := (H.out.1.lt g1 rfl).2
        obtain ⟨W3, hW3⟩ : ∃ W3, W3 = wr.alloc (.cells #[.bool x0, .int .i64 x1, .int .i64 x2, .string x3] 30) := ⟨_, rfl⟩
        have HB := Lib.hid (show Below wr.heap.size wr W3 by rw [hW3]; exact below_box (Below.refl _ wr) _)
        have K3 := Lib.hid (show W3.heap[wr.heap.size]? = some (.cells #[.bool x0, .int .i64 x1, .int .i64 x2, .string x3] 30 (0, 0)) by rw [hW3]; exact alloc_at _ _ _ rfl)
        have O3 := Lib.hid (own_below H.out.1 HB.out)
        have B3 := Lib.hid (below_seq H.out.2 HB.out)
        have hkl : k < (plsM l k).length := by rw [hcl]; exact hlt
        have cc := own_elem placL_len O3.out hkl
        obtain ⟨p, hp⟩ : ∃ p, (plsM l k)[k] = p := ⟨_, rfl⟩
        rw [hp] at cc
        obtain ⟨⟨p0, p1, p2, p3⟩, p4⟩ := p
        have e0 := cur_cell K3.out 0
        have e1 := cur_cell K3.out 1
        have e2 := cur_cell K3.out 2
        have e3 := cur_cell K3.out 3
        simp at e0 e1 e2 e3
        have f0 := O3.out.frozenAt (k * 5)
        have f1 := O3.out.frozenAt (k * 5 + 1)
        have f2 := O3.out.frozenAt (k * 5 + 2)
        have f3 := O3.out.frozenAt (k * 5 + 3)
        have f4 := O3.out.frozenAt (k * 5 + 4)
        have c0 : W3.cell? ⟨g1, k * 5, none⟩ = some (.bool p0) := cc 0 (by decide)
        have c1 : W3.cell? ⟨g1, k * 5 + 1, none⟩ = some (.int .i64 p1) := cc 1 (by decide)
        have c2 : W3.cell? ⟨g1, k * 5 + 2, none⟩ = some (.int .i64 p2) := cc 2 (by decide)
        have c3 : W3.cell? ⟨g1, k * 5 + 3, none⟩ = some (.string p3) := cc 3 (by decide)
        have c4 : W3.cell? ⟨g1, k * 5 + 4, none⟩ = some (.int .i64 p4) := cc 4 (by decide)
        have X := Lib.hid (own_elem_set placL_len O3.out hkl ⟨⟨x0, x1, x2, x3⟩, k⟩)
        rw [G.out] at X
        have hk0 : (0 : Int) ≤ (k : Int) := by omega
        have hk1 : (k : Int) < (l.length : Int) := by omega
        clear cc hp G H K3 O3 hkl hcl HB
        have KB := Lib.hid (B3.out.grown X.out.2 B3.out.size (fun i hi => by cases hi; exact hg1))
        go_upto_region 7 with fail
        rw [← hW3]
        clear hW3 q0 q1 q2 q3
        go_wp2
        go_roundg (l.length - (k + 1))
        case measure => omega
        case rel => exact ⟨k + 1, by omega, rfl, by go_num, Lib.hid ⟨X.out.1, KB.out⟩⟩
      · have ek : k = l.length := by omega
        subst ek
        have P1 := Lib.hid (show wr.ownsRow w.heap.size 74 5 (.slice (some ⟨g1, 0, none⟩) l.length l.length) l.length (flatG placL (plFrom 0 l)) by have := H.out.1; rw [plsM_done] at this; exact this)
        have B2 := Lib.hid H.out.2
        obtain ⟨WR, hWR⟩ : ∃ WR, WR = wr := ⟨_, rfl⟩
        rw [← hWR] at P1 B2 ⊢
        clear hWR H
        go_wp2_with (at_make; refine wpList_make_full _ rfl _ _ 24 rfl w.heap.size 30 j0 _ 4 Try.underlying24 gi gz0 gz1 .i64 .i64 _ _ l.length rfl rfl rfl rfl (by rw [gz2]; omega) (by unfold maxLen; omega) B2.out.size ?_)
        clear gi gz0 gz1 gz2
        intro w3 hown hgr
        have hb3 : Below WR.heap.size WR w3 := grown_below hgr
        have C3 := Lib.hid (show w3.ownsRow w.heap.size 30 4 (.slice (some ⟨WR.heap.size, 0, none⟩) l.length l.length) l.length (flatG recL (recsM Q 0)) by rw [recsM_zero, EQ.out, ← made_flat recL_len (by decide) zeroR _ rfl]; exact hown)
        have P3 := Lib.hid (Row.of_own (own_below P1.out hb3))
        have B3 := Lib.hid (below_seq B2.out hb3)
        have hg2 : w.heap.size ≤ WR.heap.size := B2.out.size
        clear hown hgr hb3 B2 P1
        generalize WR.heap.size = g2 at *
        go_wp2_with fail
        refine (byPlaceF _).mono ?_
        rintro e w4 ⟨rfl, hb⟩
        have P4 := P3.out.below hb
        have C4 := Lib.hid (own_below C3.out hb)
        have B4 := Lib.hid (below_seq B3.out hb)
        clear hb P3 C3 B3
        have ST4 := Lib.hid (ST.out _ l.length w4 P4)
        clear P4 ST
        go_wp2_with fail
        refine ST4.out.mono ?_
        rintro e w5 ⟨GS, cp, rfl, hos, hb⟩
        have hs1 := B4.out.size
        have hgs : w4.heap.size ≤ GS := own_low hos
        have S1 := Lib.hid (show Hid (w5.ownsRow w.heap.size 74 5 (.slice (some ⟨GS, 0, none⟩) l.length cp) l.length (flatG placL Q)) ∧ w5.ownsRow w.heap.size 30 4 (.slice (some ⟨g2, 0, none⟩) l.length l.length) l.length (flatG recL (recsM Q 0)) ∧ Below w.heap.size w w5 from ⟨Lib.hid (own_base hos hs1), own_below C4.out hb, below_seq B4.out hb⟩)
        have hg24 : g2 < w4.heap.size := (C4.out.lt g2 rfl).2
        have hne : ¬ GS = g2 := by omega
        clear hos hb ST4 C4 B4 hs1 hgs hg24
        go_wp2_with fail
        go_loopg [36] l.length (fun kk i wr => ∃ k : Nat, k ≤ l.length ∧ l.length - k = kk ∧ i = .int .i64 k ∧ Hid (Hid (wr.ownsRow w.heap.size 74 5 (.slice (some ⟨GS, 0, none⟩) l.length cp) l.length (flatG placL Q)) ∧ wr.ownsRow w.heap.size 30 4 (.slice (some ⟨g2, 0, none⟩) l.length l.length) l.length (flatG recL (recsM Q k)) ∧ Below w.heap.size w wr))
        case atStart => exact ⟨0, Nat.zero_le _, rfl, rfl, S1⟩
        case round =>
          clear S1
          obtain ⟨k, hk, hkk, rfl, H⟩ := hrel
          by_cases hlt : k < l.length
          · have hkQ : k < Q.length := by rw [EQ.out]; exact hlt
            obtain ⟨q0, q1, q2, q3, q4⟩ := own_pl H.out.1.out hkQ
            have hcl : (recsM Q k).length = l.length := by rw [recsM_length Q k (by omega), EQ.out]
            have G := Lib.hid (recsM_set Q k hkQ)
            obtain ⟨r, hr⟩ : ∃ r, Q[k] = r := ⟨_, rfl⟩
            rw [hr] at G q0 q1 q2 q3 q4
            clear hr
            obtain ⟨⟨x0, x1, x2, x3⟩, x4⟩ := r
            simp only at q0 q1 q2 q3 q4 G
            have hGX : g2 < wr.heap.size := (H.out.2.1.lt g2 rfl).2
            obtain ⟨W3, hW3⟩ : ∃ W3, W3 = wr.alloc (.cells #[.bool x0, .int .i64 x1, .int .i64 x2, .string x3, .int .i64 x4] 74) := ⟨_, rfl⟩
            have HB := Lib.hid (show Below wr.heap.size wr W3 by rw [hW3]; exact below_box (Below.refl _ wr) _)
            have K3 := Lib.hid (show W3.heap[wr.heap.size]? = some (.cells #[.bool x0, .int .i64 x1, .int .i64 x2, .string x3, .int .i64 x4] 74 (0, 0)) by rw [hW3]; exact alloc_at _ _ _ rfl)
            have Q3 := Lib.hid (own_below H.out.1.out HB.out)
            have O3 := Lib.hid (own_below H.out.2.1 HB.out)
            have B3 := Lib.hid (below_seq H.out.2.2 HB.out)
            have hkl : k < (recsM Q k).length := by rw [hcl]; exact hlt
            have cc := own_elem recL_len O3.out hkl
            obtain ⟨p, hp⟩ : ∃ p, (recsM Q k)[k] = p := ⟨_, rfl⟩
            rw [hp] at cc
            obtain ⟨p0, p1, p2, p3⟩ := p
            have e0 := cur_cell K3.out 0
            have e1 := cur_cell K3.out 1
            have e2 := cur_cell K3.out 2
            have e3 := cur_cell K3.out 3
            simp at e0 e1 e2 e3
            have f0 := O3.out.frozenAt (k * 4)
            have f1 := O3.out.frozenAt (k * 4 + 1)
            have f2 := O3.out.frozenAt (k * 4 + 2)
            have f3 := O3.out.frozenAt (k * 4 + 3)
            have c0 : W3.cell? ⟨g2, k * 4, none⟩ = some (.bool p0) := cc 0 (by decide)
            have c1 : W3.cell? ⟨g2, k * 4 + 1, none⟩ = some (.int .i64 p1) := cc 1 (by decide)
            have c2 : W3.cell? ⟨g2, k * 4 + 2, none⟩ = some (.int .i64 p2) := cc 2 (by decide)
            have c3 : W3.cell? ⟨g2, k * 4 + 3, none⟩ = some (.string p3) := cc 3 (by decide)
            have X := Lib.hid (own_elem_set recL_len O3.out hkl ⟨x0, x1, x2, x3⟩)
            rw [G.out] at X
            obtain ⟨W4, hW4⟩ : ∃ W4, W4 = setCellsL W3 g2 (k * 4) (recL ⟨x0, x1, x2, x3⟩) := ⟨_, rfl⟩
            rw [← hW4] at X
            have Q4 := Lib.hid (show W4.ownsRow w.heap.size 74 5 (.slice (some ⟨GS, 0, none⟩) l.length cp) l.length (flatG placL Q) from own_keptB Q3.out (fun b hb => by rw [hW4]; exact setCellsL_other (by intro e; subst e; simp [Value.ownBlock] at hb; exact hne hb) _ _ _))
            have KB := Lib.hid (B3.out.grown X.out.2 B3.out.size (fun i hi => by cases hi; exact hg2))
            replace hW4 : W4 = (((W3.setCell ⟨g2, k * 4, none⟩ (.bool x0)).setCell ⟨g2, k * 4 + 1, none⟩ (.int .i64 x1)).setCell ⟨g2, k * 4 + 2, none⟩ (.int .i64 x2)).setCell ⟨g2, k * 4 + 3, none⟩ (.string x3) := hW4
            have hk0 : (0 : Int) ≤ (k : Int) := by omega
            have hk1 : (k : Int) < (l.length : Int) := by omega
            clear cc hp G H K3 O3 hkl hcl HB Q3 hkQ
            go_upto_region 13 with fail
            rw [← hW3]
            clear hW3 q0 q1 q2 q3 q4
            go_upto_region 14 with fail
            rw [← hW4]
            clear hW4 c0 c1 c2 c3 f0 f1 f2 f3 e0 e1 e2 e3
            go_wp2
            go_roundg (l.length - (k + 1))
            case measure => omega
            case rel => exact ⟨k + 1, by omega, rfl, by go_num, Lib.hid ⟨Lib.hid Q4.out, X.out.1, KB.out⟩⟩
          · have ek : k = l.length := by omega
            subst ek
            have hz : recsM Q l.length = compactL l := by rw [← EQ.out, recsM_done, NC.out]
            have Z := Lib.hid H.out.2.1
            rw [hz] at Z
            have B9 := Lib.hid H.out.2.2
            have CL := Lib.hid (compactL_length l)
            clear hz H
            go_wp2
            go_ret
            refine ⟨_, rfl, ?_, B9.out⟩
            rw [E.out]
            have z := Z.out
            rw [← CL.out] at z ⊢
            exact RecSOwn.mk z
end Go.Proofs.Ytaedamnhobcdlaa
end
