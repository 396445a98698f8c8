/- StS, StU in one. Written by tools/join2.py. -/
import Derived.Test.YtmkgddbdkpkgpaaJS11
import Derived.Test.YtmkgddbdkpkgpaaJS18
import Derived.Test.YtmkgddbdkpkgpaaJS16
section
namespace Go.Proofs.Ytmkgddbdkpkgpaa
open Go.RowKit
set_option linter.unusedVariables false
set_option linter.unusedSimpArgs false
set_option maxRecDepth 100000

theorem uSpecStashOk (c : Value) (l : List BlkM) (z v : Int) (w : World) (h : BlockSIn [c] l w) : Calls Try.prog 17 #[c, .int .i64 z, .int .i64 v] w fun e w' => e = .returned (.bool (stashOkB l z v)) ∧ Below w.heap.size w w' := by
  have BO := Lib.hid (uSpecBlocksOk c l z v _ h)
  obtain ⟨a, cap, es, rfl, _, g2, _⟩ := blockSIn_shape h
  unfold maxLen at g2
  unfold stashOkB
  clear h
  obtain ⟨n, hn⟩ : ∃ n, l.length = n := ⟨_, rfl⟩
  rw [hn] at BO g2 ⊢
  clear hn
  by_cases h4 : n ≤ 128
  · rw [decide_eq_true h4, Bool.true_and]
    have h4i : (n : Int) ≤ 128 := by omega
    go_enter Try.func17, Try.ntmps17
    go_wp2_with fail
    refine BO.out.mono ?_
    rintro e w1 ⟨rfl, hb⟩
    have B := Lib.hid hb
    clear hb BO
    go_wp2
    go_ret
    exact ⟨rfl, B.out⟩
  · rw [decide_eq_false h4, Bool.false_and]
    have h4i : ¬ (n : Int) ≤ 128 := by omega
    go_enter Try.func17, Try.ntmps17
    go_wp2
    go_ret
    exact ⟨rfl, Below.refl _ _⟩
end Go.Proofs.Ytmkgddbdkpkgpaa
end

section
namespace Go.Proofs.Ytmkgddbdkpkgpaa
open Go.RowKit
set_option linter.unusedVariables false
set_option linter.unusedSimpArgs false
set_option maxRecDepth 100000

theorem cntLess_lt : ∀ {l : List BlkM} {i : Int} {k : Nat}, k < cntLess l i → ∃ h : k < l.length, l[k].id < i
  | x :: l, i, k, h => by
    unfold cntLess at h
    split at h
    · rename_i hx
      cases k with
      | zero => exact ⟨by simp, hx⟩
      | succ k =>
        obtain ⟨h1, h2⟩ := cntLess_lt (l := l) (i := i) (k := k) (by omega)
        exact ⟨by simpa using h1, by simpa using h2⟩
    · omega
theorem cntLess_stop : ∀ {l : List BlkM} {i : Int} (h : cntLess l i < l.length), ¬ l[cntLess l i].id < i
  | x :: l, i, h => by
    by_cases hx : x.id < i
    · have e : cntLess (x :: l) i = cntLess l i + 1 := by rw [cntLess, if_pos hx]
      have h2 : cntLess l i < l.length := by rw [e] at h; simpa using h
      have := cntLess_stop h2
      simpa [e] using this
    · have e : cntLess (x :: l) i = 0 := by rw [cntLess, if_neg hx]
      simpa [e] using hx
/-- A row of blocks apart from a block that turns. -/
theorem blockS_apart {lo hi g : Nat} {c : Value} {l : List BlkM} {w w' : World} (h : BlockSOwn lo hi [c] l w) (hg : w.grownBy w' (some g)) (ha : g < lo ∨ hi ≤ g) : BlockSOwn lo hi [c] l w' := by
  obtain ⟨F, h1, h2⟩ := h
  refine ⟨F, blockS_ong.sup h1 (fun b hb => hg.block b (blockS_ong.at_ h1 b hb).2 (fun e => ?_)), h2⟩
  have e := Option.some.inj e
  have k1 := (blockS_ong.at_ h1 b hb).1
  have k2 := h2 b hb
  omega
/-- A new spine over blocks that are owned already. -/
theorem NRow.over {lo cap' : Nat} {a' : Option Addr} {es : List (Elt BlkM 3)} {G : Nat → Foot} {w : World} (hr : w.ownsRow lo 26 3 (.slice a' es.length cap') es.length (flatG eltL es)) (ho : ∀ i (h : i < es.length), BlockO (G i) lo es[i].cs es[i].m w) (hs : ∀ i j b, i < es.length → j < es.length → i ≠ j → G i b → ¬ G j b) : NRow BlockO 26 3 lo a' cap' es G w := by
  refine ⟨hr, ho, hs, fun i b hi hb => ?_⟩
  obtain ⟨c, _, x, cp, hc, hrr, hF⟩ := ho i hi
  have hbb := (hF b).1 hb
  rcases hrr.2 with ⟨hv, _⟩ | ⟨g, cap', cur, hv, _, hh, _⟩
  · rw [hv] at hbb; simp [Value.ownBlock] at hbb
  · rw [hv] at hbb
    simp [Value.ownBlock] at hbb
    subst hbb
    exact own_other hr hh (by decide)
/-- A block laid between the first k and the others. -/
theorem NRow.put {lo cap k cap' : Nat} {a a' : Option Addr} {es : List (Elt BlkM 3)} {G : Nat → Foot} {w w' : World} (h : NRow BlockO 26 3 lo a cap es G w) (hk : k ≤ es.length) (hb : ∀ b, (∃ i, i < es.length ∧ G i b) → w'.heap[b]? = w.heap[b]?) (F : Foot) (el : Elt BlkM 3) (he : BlockO F lo el.cs el.m w') (hd : ∀ i b, i < es.length → G i b → ¬ F b)
    (hr : w'.ownsRow lo 26 3 (.slice a' (es.length + 1) cap') (es.length + 1) (flatG eltL (es.take k) ++ el.cs ++ flatG eltL (es.drop k))) : ∃ G', NRow BlockO 26 3 lo a' cap' (es.take k ++ el :: es.drop k) G' w' := by
  have hl : (es.take k ++ el :: es.drop k).length = es.length + 1 := by simp; omega
  have htk : (es.take k).length = k := by simp; omega
  refine ⟨fun i => if i < k then G i else if i = k then F else G (i - 1), NRow.over ?_ (fun i hi => ?_) (fun i j b hi hj hij => ?_)⟩
  · rw [hl]
    have e : flatG eltL (es.take k ++ el :: es.drop k) = flatG eltL (es.take k) ++ el.cs ++ flatG eltL (es.drop k) := by rw [flatG_app, List.append_assoc]; rfl
    rw [e]; exact hr
  · rw [hl] at hi
    by_cases h1 : i < k
    · rw [if_pos h1]
      have e : (es.take k ++ el :: es.drop k)[i] = es[i] := by rw [List.getElem_append_left (by omega)]; simp
      rw [e]
      exact block_ong.sup (h.own i (by omega)) (fun b hG => hb b ⟨i, by omega, hG⟩)
    · rw [if_neg h1]
      by_cases h2 : i = k
      · subst h2
        rw [if_pos rfl]
        have e : (es.take i ++ el :: es.drop i)[i] = el := by rw [List.getElem_append_right (by omega)]; simp [htk]
        rw [e]; exact he
      · rw [if_neg h2]
        have e : (es.take k ++ el :: es.drop k)[i] = es[i - 1] := by
          rw [List.getElem_append_right (by omega)]
          simp only [htk]
          obtain ⟨t, ht⟩ : ∃ t, i - k = t + 1 := ⟨i - k - 1, by omega⟩
          simp only [ht, List.getElem_cons_succ, List.getElem_drop]
          congr 1; omega
        rw [e]
        exact block_ong.sup (h.own (i - 1) (by omega)) (fun b hG => hb b ⟨i - 1, by omega, hG⟩)
  · rw [hl] at hi hj
    by_cases h1 : i < k
    · rw [if_pos h1]
      by_cases h2 : j < k
      · rw [if_pos h2]; exact h.sep i j b (by omega) (by omega) hij
      · rw [if_neg h2]
        by_cases h3 : j = k
        · rw [if_pos h3]; exact hd i b (by omega)
        · rw [if_neg h3]; exact h.sep i (j - 1) b (by omega) (by omega) (by omega)
    · rw [if_neg h1]
      by_cases h2 : i = k
      · rw [if_pos h2]
        by_cases h3 : j < k
        · rw [if_pos h3]; exact fun x y => hd j b (by omega) y x
        · rw [if_neg h3, if_neg (by omega)]; exact fun x y => hd (j - 1) b (by omega) y x
      · rw [if_neg h2]
        by_cases h3 : j < k
        · rw [if_pos h3]; exact h.sep (i - 1) j b (by omega) (by omega) (by omega)
        · rw [if_neg h3]
          by_cases h4 : j = k
          · rw [if_pos h4]; exact hd (i - 1) b (by omega)
          · rw [if_neg h4]; exact h.sep (i - 1) (j - 1) b (by omega) (by omega) (by omega)
end Go.Proofs.Ytmkgddbdkpkgpaa
end
