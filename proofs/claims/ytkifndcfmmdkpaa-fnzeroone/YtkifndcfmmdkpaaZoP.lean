/- The 0-1 principle for a given net; its first counterexample and the list before it; rounds of a join. Plain, no program in it. -/
import Derived.Test.YtkifndcfmmdkpaaNsT
namespace Go.Proofs.Ytkifndcfmmdkpaa
set_option linter.unusedVariables false

theorem getD_map0 (φ : Int → Int) (l : List Int) (i : Nat) (hi : i < l.length) : (l.map φ).getD i 0 = φ (l.getD i 0) := by
  simp [hi]
/-- A map that grows carries a wire. -/
theorem wireRun_map (φ : Int → Int) (hφ : ∀ x y, x ≤ y → φ x ≤ φ y) {n : Nat} {l : List Int} {t : WireM} (hl : l.length = n) (ht : WireOk n t) : (wireRun l t).map φ = wireRun (l.map φ) t := by
  obtain ⟨p, q, e1, e2, h1, h2⟩ := ht
  have ep : t.a.toNat = p := by omega
  have eq : t.b.toNat = q := by omega
  unfold wireRun
  rw [ep, eq, getD_map0 φ l p (by omega), getD_map0 φ l q (by omega), List.map_set, List.map_set]
  have m1 : φ (min (l.getD p 0) (l.getD q 0)) = min (φ (l.getD p 0)) (φ (l.getD q 0)) := by
    rcases Int.le_total (l.getD p 0) (l.getD q 0) with h | h
    · rw [Int.min_eq_left h, Int.min_eq_left (hφ _ _ h)]
    · rw [Int.min_eq_right h, Int.min_eq_right (hφ _ _ h)]
  have m2 : φ (max (l.getD p 0) (l.getD q 0)) = max (φ (l.getD p 0)) (φ (l.getD q 0)) := by
    rcases Int.le_total (l.getD p 0) (l.getD q 0) with h | h
    · rw [Int.max_eq_right h, Int.max_eq_right (hφ _ _ h)]
    · rw [Int.max_eq_left h, Int.max_eq_left (hφ _ _ h)]
  rw [m1, m2]
theorem runW_map (φ : Int → Int) (hφ : ∀ x y, x ≤ y → φ x ≤ φ y) {n : Nat} : ∀ (ws : List WireM) (l : List Int), l.length = n → (∀ t ∈ ws, WireOk n t) → (runW ws l).map φ = runW ws (l.map φ)
  | [], l, _, _ => rfl
  | t :: ws, l, hl, h => by
    show (runW ws (wireRun l t)).map φ = runW ws (wireRun (l.map φ) t)
    rw [runW_map φ hφ ws _ (by rw [wireRun_length, hl]) (fun u hu => h u (List.mem_cons_of_mem _ hu)), wireRun_map φ hφ hl (h t (List.mem_cons_self ..))]
/-- The number that a list of 0 and 1 is. -/
def numOf : List Int → Nat
  | [] => 0
  | x :: l => x.toNat * 2 ^ l.length + numOf l
theorem numOf_lt : ∀ l : List Int, (∀ x ∈ l, x = 0 ∨ x = 1) → numOf l < 2 ^ l.length
  | [], _ => by simp [numOf]
  | x :: l, h => by
    have ih := numOf_lt l (fun y hy => h y (List.mem_cons_of_mem _ hy))
    have hx := h x (List.mem_cons_self ..)
    simp only [numOf, List.length_cons, Nat.pow_succ]
    rcases hx with rfl | rfl
    · simp; omega
    · simp; omega
theorem digitsM_numOf : ∀ l : List Int, (∀ x ∈ l, x = 0 ∨ x = 1) → digitsM (numOf l) l.length = l
  | [], _ => rfl
  | x :: l, h => by
    have hl := fun y hy => h y (List.mem_cons_of_mem _ hy)
    have ih := digitsM_numOf l hl
    have hlt := numOf_lt l hl
    have hx := h x (List.mem_cons_self ..)
    have hpos : 0 < 2 ^ l.length := Nat.two_pow_pos _
    unfold digitsM at ih ⊢
    rw [List.length_cons, List.range_succ_eq_map, List.map_cons, List.map_map]
    congr 1
    · unfold digN
      simp only [numOf, Nat.add_sub_cancel, Nat.sub_zero]
      rcases hx with rfl | rfl
      · simp [Nat.div_eq_of_lt hlt]
      · have e : (Int.toNat 1 * 2 ^ l.length + numOf l) / 2 ^ l.length = 1 := by
          rw [show Int.toNat 1 = 1 from rfl, Nat.one_mul, Nat.add_div_left _ hpos, Nat.div_eq_of_lt hlt]
        rw [e]; rfl
    · refine Eq.trans ?_ ih
      refine List.map_congr_left fun i hi => ?_
      have hi' : i < l.length := List.mem_range.1 hi
      show ((digN (numOf (x :: l)) (l.length + 1) (i + 1) : Nat) : Int) = ((digN (numOf l) l.length i : Nat) : Int)
      unfold digN
      rw [show l.length + 1 - 1 - (i + 1) = l.length - 1 - i from by omega]
      obtain ⟨d, hd⟩ : ∃ d, l.length = (l.length - 1 - i) + 1 + d := ⟨i, by omega⟩
      have hp : 2 ^ l.length = 2 ^ (l.length - 1 - i) * (2 * 2 ^ d) := by
        conv => lhs; rw [hd]
        rw [Nat.pow_add, Nat.pow_succ, Nat.mul_assoc]
      generalize hc : l.length - 1 - i = c at *
      have hcp : 0 < 2 ^ c := Nat.two_pow_pos _
      simp only [numOf]
      rw [hp, show x.toNat * (2 ^ c * (2 * 2 ^ d)) = 2 ^ c * (2 * (x.toNat * 2 ^ d)) from by
        rw [Nat.mul_left_comm x.toNat, Nat.mul_left_comm x.toNat], Nat.mul_add_div hcp]
      congr 1
      omega
/-- What sorts all lists of 0 and 1 sorts all lists. -/
theorem zo_sorted {m : NetM} {n : Nat} (hn : m.n = n) (hw : ∀ t ∈ m.ws, WireOk n t) (hf : faultK m = none) {l : List Int} (hl : l.length = n) : sortedB (runW m.ws l) = true := by
  rw [sortedB_true]
  intro i hi
  rw [runW_length, hl] at hi
  obtain ⟨t, ht⟩ : ∃ t, t = (runW m.ws l).getD i 0 := ⟨_, rfl⟩
  rw [← ht]
  let φ : Int → Int := fun x => if t ≤ x then 1 else 0
  have hφ : ∀ x y, x ≤ y → φ x ≤ φ y := fun x y h => by
    show (if t ≤ x then (1 : Int) else 0) ≤ if t ≤ y then 1 else 0
    split <;> split <;> omega
  have hb : ∀ x ∈ l.map φ, x = 0 ∨ x = 1 := fun x hx => by
    obtain ⟨y, _, rfl⟩ := List.mem_map.1 hx
    show (if t ≤ y then (1 : Int) else 0) = 0 ∨ (if t ≤ y then (1 : Int) else 0) = 1
    split <;> simp
  have hlm : (l.map φ).length = n := by simp [hl]
  have hd := digitsM_numOf _ hb
  have hlt := numOf_lt _ hb
  rw [hlm] at hd hlt
  have hk : faultAt m (numOf (l.map φ)) = false := by
    have := List.find?_eq_none.1 hf (numOf (l.map φ)) (List.mem_range.2 (by rw [hn]; simpa using hlt))
    simpa using this
  unfold faultAt at hk
  rw [hn, Int.toNat_natCast, hd, ← runW_map φ hφ m.ws l hl hw] at hk
  have hs : sortedB ((runW m.ws l).map φ) = true := by simpa using hk
  have h1 := sortedB_true.1 hs i (by rw [List.length_map, runW_length, hl]; exact hi)
  rw [getD_map0 φ _ i (by rw [runW_length, hl]; omega), getD_map0 φ _ (i + 1) (by rw [runW_length, hl]; omega), ← ht] at h1
  have e1 : φ t = 1 := if_pos (Int.le_refl t)
  rw [e1] at h1
  by_cases c : t ≤ (runW m.ws l).getD (i + 1) 0
  · exact c
  · have : φ ((runW m.ws l).getD (i + 1) 0) = 0 := if_neg c
    omega
/-- The first counterexample: all lists before it are sorted. -/
theorem faultK_first {m : NetM} {k : Nat} (h : faultK m = some k) : k < 2 ^ m.n.toNat ∧ faultAt m k = true ∧ ∀ j, j < k → faultAt m j = false := by
  unfold faultK at h
  obtain ⟨h1, us, bs, h2, h3⟩ := List.find?_eq_some_iff_append.1 h
  have hlen : (List.range (2 ^ m.n.toNat)).length = (us ++ k :: bs).length := by rw [h2]
  have hk : k = us.length := by
    have e1 : (List.range (2 ^ m.n.toNat))[us.length]? = some k := by rw [h2]; simp
    rw [List.getElem?_range] at e1
    · simpa using e1.symm
    · rw [List.length_range, List.length_append, List.length_cons] at hlen; omega
  refine ⟨?_, by simpa using h1, fun j hj => ?_⟩
  · rw [List.length_range, List.length_append, List.length_cons] at hlen; omega
  · have e1 : (List.range (2 ^ m.n.toNat))[j]? = us[j]? := by rw [h2, List.getElem?_append_left (by omega)]
    have hjl : j < us.length := by omega
    rw [List.length_range, List.length_append, List.length_cons] at hlen
    rw [List.getElem?_range (by omega), List.getElem?_eq_getElem hjl] at e1
    have e2 : us[j] = j := by simpa using e1.symm
    have := h3 us[j] (List.getElem_mem hjl)
    rw [e2] at this
    simpa using this
theorem runW_zero {n : Nat} : ∀ (ws : List WireM), runW ws (List.replicate n 0) = List.replicate n 0
  | [] => rfl
  | t :: ws => by
    show runW ws (wireRun (List.replicate n 0) t) = _
    have e : wireRun (List.replicate n 0) t = List.replicate n 0 := by
      have g : ∀ i, (List.replicate n (0 : Int)).getD i 0 = 0 := fun i => by
        by_cases h : i < n
        · simp [h]
        · simp [h]
      unfold wireRun
      rw [g, g]
      apply List.ext_getElem?
      intro i
      simp
    rw [e, runW_zero ws]
theorem fault_pos {m : NetM} {k : Nat} (h : faultK m = some k) : 0 < k := by
  rcases Nat.eq_zero_or_pos k with rfl | h0
  · obtain ⟨_, h2, _⟩ := faultK_first h
    have e : digitsM 0 m.n.toNat = List.replicate m.n.toNat 0 := by
      unfold digitsM digN
      apply List.ext_getElem?
      intro i
      by_cases hi : i < m.n.toNat <;> simp [hi]
    unfold faultAt at h2
    rw [e, runW_zero] at h2
    have : sortedB (List.replicate m.n.toNat 0) = true := by
      rw [sortedB_true]
      intro i hi
      simp at hi
      simp [hi, show i < m.n.toNat from by omega]
    rw [this] at h2
    cases h2
  · exact h0
/-- While the list before is sought: the places from i on hold 1. -/
def befM (k n i : Nat) : List Int := (List.range n).map fun j => if j < i then ((digN k n j : Nat) : Int) else 1
theorem befM_length (k n i : Nat) : (befM k n i).length = n := by simp [befM]
theorem befM_full (k n : Nat) : befM k n n = digitsM k n := by
  unfold befM digitsM
  refine List.map_congr_left fun j hj => ?_
  rw [if_pos (List.mem_range.1 hj)]
theorem befM_at (k n i p : Nat) (hp : p < n) : (befM k n i).getD p 0 = if p < i then ((digN k n p : Nat) : Int) else 1 := by
  unfold befM; simp [hp]
theorem befM_set (k n p : Nat) (hp : p < n) : (befM k n (p + 1)).set p 1 = befM k n p := by
  apply List.ext_getElem?
  intro j
  by_cases hj : j < n
  · rw [List.getElem?_set]
    unfold befM
    simp [hj]
    grind
  · rw [List.getElem?_eq_none (by simp [befM]; omega), List.getElem?_eq_none (by simp [befM]; omega)]
theorem pred_div {a b : Nat} (ha : 0 < a) (hb : 0 < b) : (a * b - 1) / a = b - 1 := by
  obtain ⟨b, rfl⟩ : ∃ c, b = c + 1 := ⟨b - 1, by omega⟩
  rw [Nat.mul_succ, show a * b + a - 1 = a * b + (a - 1) from by omega, Nat.mul_add_div ha, Nat.div_eq_of_lt (by omega)]
  rfl
theorem low_zero {k : Nat} : ∀ c, (∀ d, d < c → k / 2 ^ d % 2 = 0) → k % 2 ^ c = 0
  | 0, _ => by simp [Nat.mod_one]
  | c + 1, h => by
    rw [Nat.mod_pow_succ, low_zero c (fun d hd => h d (by omega)), h c (by omega)]
    simp
theorem pred_digit {k c : Nat} (h0 : ∀ d, d < c → k / 2 ^ d % 2 = 0) (h1 : k / 2 ^ c % 2 = 1) : ∀ d, (k - 1) / 2 ^ d % 2 = if d < c then 1 else if d = c then 0 else k / 2 ^ d % 2 := by
  intro d
  have hm := low_zero c h0
  have hcp : 0 < 2 ^ c := Nat.two_pow_pos _
  obtain ⟨m, hk⟩ : ∃ m, k = 2 ^ c * m := ⟨k / 2 ^ c, by have := Nat.div_add_mod k (2 ^ c); omega⟩
  have hkm : k / 2 ^ c = m := by rw [hk, Nat.mul_div_cancel_left _ hcp]
  rw [hkm] at h1
  have hm0 : 0 < m := by omega
  by_cases hd : d < c
  · rw [if_pos hd]
    obtain ⟨e, rfl⟩ : ∃ e, c = d + 1 + e := ⟨c - d - 1, by omega⟩
    have hp : 2 ^ (d + 1 + e) * m = 2 ^ d * (2 * (2 ^ e * m)) := by rw [Nat.pow_add, Nat.pow_succ]; simp only [Nat.mul_assoc]
    have hpos : 0 < 2 ^ e * m := Nat.mul_pos (Nat.two_pow_pos _) hm0
    rw [hk, hp, pred_div (Nat.two_pow_pos _) (by omega)]
    omega
  · rw [if_neg hd]
    by_cases hd2 : d = c
    · subst hd2
      rw [if_pos rfl, hk, pred_div hcp hm0]
      omega
    · rw [if_neg hd2]
      obtain ⟨e, rfl⟩ : ∃ e, d = c + 1 + e := ⟨d - c - 1, by omega⟩
      have e1 : 2 ^ (c + 1 + e) = 2 ^ c * (2 * 2 ^ e) := by rw [Nat.pow_add, Nat.pow_succ, Nat.mul_assoc]
      rw [e1, ← Nat.div_div_eq_div_mul, ← Nat.div_div_eq_div_mul, ← Nat.div_div_eq_div_mul, ← Nat.div_div_eq_div_mul, hk, pred_div hcp hm0, Nat.mul_div_cancel_left _ hcp]
      rw [show (m - 1) / 2 = m / 2 from by omega]
/-- .. found. -/
theorem befM_pred {k n p : Nat} (hp : p < n) (h0 : ∀ j, p < j → j < n → digN k n j = 0) (h1 : digN k n p = 1) : (befM k n (p + 1)).set p 0 = digitsM (k - 1) n := by
  have P := pred_digit (k := k) (c := n - 1 - p) (fun d hd => by
    have := h0 (n - 1 - d) (by omega) (by omega)
    unfold digN at this
    rwa [show n - 1 - (n - 1 - d) = d from by omega] at this) h1
  apply List.ext_getElem?
  intro j
  by_cases hj : j < n
  · have hd : digN (k - 1) n j = if n - 1 - j < n - 1 - p then 1 else if n - 1 - j = n - 1 - p then 0 else digN k n j := P (n - 1 - j)
    rw [List.getElem?_set]
    unfold befM digitsM
    simp [hj, hd]
    grind
  · rw [List.getElem?_eq_none (by simp [befM]; omega), List.getElem?_eq_none (by simp [digitsM]; omega)]
theorem dig_zero {k n : Nat} (hk : k < 2 ^ n) (h0 : ∀ j, j < n → digN k n j = 0) : k = 0 := by
  have := low_zero (k := k) n (fun d hd => by
    have := h0 (n - 1 - d) (by omega)
    unfold digN at this
    rwa [show n - 1 - (n - 1 - d) = d from by omega] at this)
  rwa [Nat.mod_eq_of_lt hk] at this
theorem digN_two (k n i : Nat) : digN k n i = 0 ∨ digN k n i = 1 := by unfold digN; omega

/-- Rounds of a net behind another one. -/
theorem deepW_le : ∀ (ws : List WireM) (f : Nat → Int) (d : Int), (∀ i, f i ≤ d) → ∀ i, deepW ws f i ≤ mostW ws f d
  | [], f, d, h, i => h i
  | t :: ws, f, d, h, i => by
    show deepW ws (roundF f t) i ≤ mostW ws (roundF f t) _
    refine deepW_le ws _ _ (fun j => ?_) i
    have := h j
    unfold roundF
    split <;> omega
theorem mostW_ge : ∀ (ws : List WireM) (f : Nat → Int) (d : Int), d ≤ mostW ws f d
  | [], f, d => Int.le_refl _
  | t :: ws, f, d => by
    have := mostW_ge ws (roundF f t) (max d (1 + max (f t.a.toNat) (f t.b.toNat)))
    show d ≤ mostW ws (roundF f t) _
    omega
theorem roundF_le {f g : Nat → Int} {D : Int} (h : ∀ i, f i ≤ g i + D) (t : WireM) : ∀ i, roundF f t i ≤ roundF g t i + D := by
  intro i
  have h1 := h t.a.toNat
  have h2 := h t.b.toNat
  have h3 := h i
  unfold roundF
  split <;> omega
theorem mostW_le : ∀ (ws : List WireM) (f g : Nat → Int) (d e D : Int), (∀ i, f i ≤ g i + D) → d ≤ e + D → mostW ws f d ≤ mostW ws g e + D
  | [], f, g, d, e, D, _, h => h
  | t :: ws, f, g, d, e, D, h, hd => by
    refine mostW_le ws (roundF f t) (roundF g t) _ _ D (roundF_le h t) ?_
    have h1 := h t.a.toNat
    have h2 := h t.b.toNat
    omega
theorem depthZ_bd (m : NetM) : -1 ≤ depthZ m ∧ depthZ m ≤ 2100 := by
  unfold depthZ
  split
  · rename_i h
    obtain ⟨n, _, _, _, h4, _⟩ := netOkB_ok h
    have := mostW_bd m.ws (fun _ => 0) 0 0 (fun _ => by omega) (by omega) (by omega)
    omega
  · omega
theorem depth_join {x y : NetM} (h : joinB x y = true) : netOkB (joinM x y) = true ∧ depthZ (joinM x y) ≤ depthZ x + depthZ y ∧ depthZ x ≤ depthZ (joinM x y) := by
  obtain ⟨h1, h2, h3, h4⟩ := joinB_ok h
  obtain ⟨n, e1, n1, n2, _, w1⟩ := netOkB_ok h1
  obtain ⟨n', e2, _, _, _, w2⟩ := netOkB_ok h2
  have en : n' = n := by omega
  subst en
  have ej : joinM x y = ⟨x.n, x.ws ++ y.ws⟩ := by unfold joinM; rw [if_pos h]
  have ok : netOkB (joinM x y) = true := by
    rw [ej]
    refine netOkB_of (n := n') e1 n1 n2 (by simpa using h4) fun t ht => ?_
    rcases List.mem_append.1 ht with ht | ht
    · exact w1 t ht
    · exact w2 t ht
  refine ⟨ok, ?_, ?_⟩
  · unfold depthZ
    rw [if_pos ok, if_pos h1, if_pos h2, ej]
    show mostW (x.ws ++ y.ws) _ _ ≤ _
    rw [mostW_app]
    have := mostW_le y.ws (deepW x.ws fun _ => 0) (fun _ => 0) (mostW x.ws (fun _ => 0) 0) 0 (mostW x.ws (fun _ => 0) 0) (fun i => by have := deepW_le x.ws (fun _ => 0) 0 (fun _ => Int.le_refl _) i; simpa using this) (by omega)
    omega
  · unfold depthZ
    rw [if_pos ok, if_pos h1, ej]
    show _ ≤ mostW (x.ws ++ y.ws) _ _
    rw [mostW_app]
    exact mostW_ge _ _ _
theorem run_join {x y : NetM} (h : joinB x y = true) {l : List Int} (hl : (l.length : Int) = x.n) : netRunM (joinM x y) l = netRunM y (netRunM x l) := by
  obtain ⟨h1, h2, h3, h4⟩ := joinB_ok h
  obtain ⟨ok, _⟩ := depth_join h
  have ej : joinM x y = ⟨x.n, x.ws ++ y.ws⟩ := by unfold joinM; rw [if_pos h]
  have a : netRunM x l = runW x.ws l := by unfold netRunM; rw [if_pos ⟨h1, hl⟩]
  rw [a]
  have b : netRunM y (runW x.ws l) = runW y.ws (runW x.ws l) := by unfold netRunM; rw [if_pos ⟨h2, by rw [runW_length, hl, h3]⟩]
  rw [b]
  have c : netRunM (joinM x y) l = runW (x.ws ++ y.ws) l := by unfold netRunM; rw [if_pos ⟨ok, by rw [ej]; exact hl⟩, ej]
  rw [c, runW_app]
end Go.Proofs.Ytkifndcfmmdkpaa
