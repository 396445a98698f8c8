/- Chapter 10 in the model: RankSize, RankSteps, Compact, TopK's small parts. -/
import Derived.Test.YtaedamnhobcdlaaRkP
import Derived.Test.YtaedamnhobcdlaaRecW
import Derived.Test.YtaedamnhobcdlaaAppK
import Derived.Deep.DeepMust
import Derived.Deep.RegionHeld3
namespace Go.Proofs.Ytaedamnhobcdlaa
open Go.RowKit
set_option linter.unusedVariables false
set_option linter.unusedSimpArgs false
set_option maxRecDepth 100000

set_option maxHeartbeats 1000000 in
theorem uSpecRankSize (n : Int) (w : World) (hb : -9223372036854775808 ≤ n ∧ n ≤ 9223372036854775807) : Calls Try.prog 26 #[.int .i64 n] w fun e w' => e = .returned (.int .i64 (rankSizeZ n)) ∧ Below w.heap.size w w' := by
  by_cases h0 : n < 0
  · have E := Lib.hid (rankSizeZ_no (.inl h0))
    go_enter Try.func26, Try.ntmps26
    go_wp2
    go_ret
    exact ⟨ret_int E.out.symm, Below.refl _ _⟩
  by_cases h1 : 64 < n
  · have E := Lib.hid (rankSizeZ_no (.inr h1))
    go_enter Try.func26, Try.ntmps26
    go_wp2
    go_ret
    exact ⟨ret_int E.out.symm, Below.refl _ _⟩
  obtain ⟨m, rfl⟩ : ∃ m : Nat, n = m := ⟨n.toNat, by omega⟩
  have E := Lib.hid (rankSizeZ_at (n := m) (by omega))
  have hm : m ≤ 64 := by omega
  go_enter Try.func26, Try.ntmps26
  go_wp2
  go_loop [3] (fun v => ∃ s : Nat, v = .int .i64 s ∧ s ≤ 64 ∧ Hid (dbl s m)) (fun v => 128 - (intOf v).toNat)
  case atStart => exact ⟨1, rfl, by omega, Lib.hid (dbl_start m)⟩
  case round =>
    obtain ⟨s, rfl, hs, D⟩ := hrel
    by_cases hlt : s < m
    · have N := Lib.hid (dbl_next D.out hm hlt)
      have hs2 := N.out.2
      have hp : 1 ≤ s := by rcases D.out.1 with h | h | h | h | h | h | h <;> omega
      go_wp2
      go_round
      case rel => exact ⟨2 * s, by go_num, by omega, Lib.hid N.out.1⟩
      case measure => simp [intOf]; omega
    · have F := Lib.hid (dbl_done D.out hm hlt)
      go_wp2
      go_ret
      exact ⟨ret_int (by rw [E.out, ← F.out]), Below.refl _ _⟩
theorem recsOkB_len {l : List RecM} (h : recsOkB l = true) : l.length ≤ 64 := by
  rcases Nat.lt_or_ge 64 l.length with h1 | h1
  · rw [recsOkB_long h1] at h; cases h
  · exact h1
/-- One record laid as a row, elements of four cells. -/
theorem lit_rec (w : World) (r : RecM) : Row (w.alloc (.cells #[.bool r.live, .int .i64 r.dist, .int .i64 r.weight, .string r.word] 30)) (some ⟨w.heap.size, 0, none⟩) (recL r) := lit_rowL w (recL r) 30
theorem flatG_one1 (r : RecM) : flatG recL [r] = recL r := by simp [flatG]
theorem app_low4 {B n : Nat} {w w1 : World} {v : Value} {xs : List Value} (hs : B ≤ w.heap.size) (hO : w.ownsRow B 30 4 v n xs) (o : Obj) (hg : (w.alloc o).grownBy w1 v.ownBlock) : Below B w w1 :=
  ((Below.refl B w).alloc hs o).grown hg (by simp; omega) (fun g hg => (hO.lt g hg).1)
theorem filter_next {l : List RecM} {k : Nat} (h : k < l.length) (hl : l[k].live = true) : (l.take (k + 1)).filter (·.live) = (l.take k).filter (·.live) ++ [l[k]] := by
  rw [List.take_succ_eq_append_getElem h, List.filter_append]; simp [hl]
theorem filter_skip {l : List RecM} {k : Nat} (h : k < l.length) (hl : l[k].live = false) : (l.take (k + 1)).filter (·.live) = (l.take k).filter (·.live) := by
  rw [List.take_succ_eq_append_getElem h, List.filter_append]; simp [hl]
set_option maxHeartbeats 4000000 in
theorem uSpecCompact (c : Value) (l : List RecM) (w : World) (h : RecSIn [c] l w) (hb : ∀ t ∈ l, recBd t) : Calls Try.prog 39 #[c] w (RecSRet (compactM l) w) := by
  have RO := Lib.hid (uSpecRecsOk c l w h hb)
  obtain ⟨a, cap, rfl, hcap, hm, r⟩ := recSIn_shape h
  have R := Lib.hid r
  clear h r hb
  cases ho : recsOkB l
  · have E := Lib.hid (show compactM l = [] by unfold compactM; simp [ho])
    rw [ho] at RO
    go_enter Try.func39, Try.ntmps39
    go_wp2_with fail
    refine RO.out.mono ?_
    rintro e w1 ⟨rfl, hb⟩
    have B1 := Lib.hid hb
    clear hb RO
    go_wp2
    go_ret
    exact ⟨_, rfl, by rw [E.out]; exact RecSOwn.nil _ _ _, B1.out⟩
  · have hl := recsOkB_len ho
    have E := Lib.hid (show compactM l = compactL l by unfold compactM; rw [if_pos ho])
    rw [ho] at RO
    go_enter Try.func39, Try.ntmps39
    go_wp2_with fail
    refine RO.out.mono ?_
    rintro e w1 ⟨rfl, hb⟩
    have hs1 := hb.size
    have S0 : Hid ((w1.alloc (.cells #[] 30)).ownsRow w.heap.size 30 4 (.slice (some ⟨w1.heap.size, 0, none⟩) 0 0) 0 [] ∧ Below w.heap.size w (w1.alloc (.cells #[] 30))) := Lib.hid ⟨World.ownsRow_made w1 #[] 0 hs1 (by unfold maxLen; omega) rfl, below_box hb _⟩
    clear hb RO
    go_wp2
    go_loopw [3, 4] (fun o i wr => ∃ (k m cp : Nat) (ad : Option Addr), k ≤ l.length ∧ i = .int .i64 k ∧ o = .slice ad m cp ∧ m ≤ k ∧ Hid (m = ((l.take k).filter (·.live)).length) ∧ Hid (wr.ownsRow w.heap.size 30 4 (.slice ad m cp) m (flatG recL ((l.take k).filter (·.live))) ∧ Below w.heap.size w wr)) (fun _ i _ => l.length - (intOf i).toNat)
    case atStart => exact ⟨0, 0, 0, _, Nat.zero_le _, rfl, rfl, Nat.le_refl _, Lib.hid (by simp), S0⟩
    case round =>
      clear S0
      obtain ⟨k, m, cp, ad, hk, rfl, rfl, hmk, HM, HO⟩ := hrel
      by_cases hlt : k < l.length
      · obtain ⟨b1, o1, rfl, q0, q1, q2, q3⟩ := (R.out.below HO.out.2).rec hlt
        have NX := Lib.hid (filter_next hlt)
        have SK := Lib.hid (filter_skip hlt)
        obtain ⟨r, hr⟩ : ∃ r, l[k] = r := ⟨_, rfl⟩
        rw [hr] at NX SK q0 q1 q2 q3
        clear hr
        obtain ⟨x0, x1, x2, x3⟩ := r
        simp only at NX SK q0 q1 q2 q3
        have hsz := HO.out.2.size
        cases x0
        · have N := Lib.hid (SK.out rfl)
          clear NX SK
          go_wp2
          go_roundw
          case rel => exact ⟨k + 1, m, cp, ad, by omega, by go_num, rfl, by omega, Lib.hid (by rw [N.out]; exact HM.out), Lib.hid (by rw [N.out]; exact HO.out)⟩
          case measure => simp [intOf]; omega
        · have N := Lib.hid (NX.out rfl)
          clear NX SK
          go_wp2_with (at_builtin; go_must (refine wp_app_rowS rfl _ _ 24 rfl 30 _ 4 40 Try.underlying24 Try.infoRec rfl (by omega) w.heap.size m (.slice ad m cp) (flatG recL ((l.take k).filter (·.live))) (by rfl) (HO.out.1.alloc _) (some ⟨wr.heap.size, 0, none⟩) 1 1 (recL ⟨true, x1, x2, x3⟩) (by rfl) rfl (lit_rec wr ⟨true, x1, x2, x3⟩) (recL_one _) (by unfold maxLen; omega) (by omega) (by simp; omega) ?_); intro v' w2 hown hgr)
          obtain ⟨a', c', rfl⟩ := own_shape hown
          have Z := Lib.hid (And.intro (show w2.ownsRow w.heap.size 30 4 (.slice a' (m + 1) c') (m + 1) (flatG recL ((l.take (k + 1)).filter (·.live))) by rw [N.out, flatG_app, flatG_one1]; exact hown) (HO.out.2.trans (app_low4 hsz HO.out.1 _ hgr)))
          clear hown hgr q0 q1 q2 q3 HO
          go_wp2
          go_roundw
          case rel => exact ⟨k + 1, m + 1, c', a', by omega, by go_num, rfl, by omega, Lib.hid (by rw [N.out, List.length_append, ← HM.out]; rfl), Z⟩
          case measure => simp [intOf]; omega
      · have ek : l.take k = l := List.take_of_length_le (by omega)
        have HF := Lib.hid (show m = (l.filter (·.live)).length by rw [← ek]; exact HM.out)
        have S1 := Lib.hid (show wr.ownsRow w.heap.size 30 4 (.slice ad m cp) m (flatG recL (l.filter (·.live) ++ List.replicate (m - (l.filter (·.live)).length) zeroR)) ∧ Below w.heap.size w wr by rw [← HF.out, Nat.sub_self, List.replicate_zero, List.append_nil]; rw [ek] at HO; exact HO.out)
        have hml : m ≤ l.length := by omega
        clear ek HM HO
        obtain ⟨WR, hWR⟩ : ∃ WR, WR = wr := ⟨_, rfl⟩
        rw [← hWR] at S1 ⊢
        clear hWR
        go_wp2
        go_loopw [3] (fun o wq => ∃ (j cq : Nat) (aq : Option Addr), j ≤ l.length ∧ o = .slice aq j cq ∧ Hid ((l.filter (·.live)).length ≤ j) ∧ Hid (wq.ownsRow w.heap.size 30 4 (.slice aq j cq) j (flatG recL (l.filter (·.live) ++ List.replicate (j - (l.filter (·.live)).length) zeroR)) ∧ Below w.heap.size w wq)) (fun o _ => l.length - lenOf o)
        case atStart => exact ⟨m, cp, ad, hml, rfl, Lib.hid (by rw [← HF.out]; exact Nat.le_refl _), S1⟩
        case round =>
          clear S1
          obtain ⟨j, cq, aq, hj, rfl, HJ, HO⟩ := hrel
          by_cases hjl : j < l.length
          · have hsz := HO.out.2.size
            go_wp2_with (at_builtin; go_must (refine wp_app_rowS rfl _ _ 24 rfl 30 _ 4 40 Try.underlying24 Try.infoRec rfl (by omega) w.heap.size j (.slice aq j cq) _ (by rfl) (HO.out.1.alloc _) (some ⟨_, 0, none⟩) 1 1 (recL zeroR) (by rfl) rfl (lit_rec _ zeroR) (recL_one _) (by unfold maxLen; omega) (by omega) (by simp; omega) ?_); intro v' w2 hown hgr)
            obtain ⟨a', c', rfl⟩ := own_shape hown
            have e1 : j + 1 - (l.filter (·.live)).length = (j - (l.filter (·.live)).length) + 1 := by have := HJ.out; omega
            have Z := Lib.hid (And.intro (show w2.ownsRow w.heap.size 30 4 (.slice a' (j + 1) c') (j + 1) (flatG recL (l.filter (·.live) ++ List.replicate (j + 1 - (l.filter (·.live)).length) zeroR)) by rw [e1, List.replicate_succ', ← List.append_assoc, flatG_app, flatG_one1]; exact hown) (HO.out.2.trans (app_low4 hsz HO.out.1 _ hgr)))
            clear hown hgr HO e1
            go_wp2
            go_roundw
            case rel => exact ⟨j + 1, c', a', by omega, rfl, Lib.hid (by have := HJ.out; omega), Z⟩
            case measure => simp [lenOf]; omega
          · have ej : j = l.length := by omega
            subst ej
            have Z := Lib.hid (RecSOwn.mk (l := compactL l) HO.out.1)
            have B := Lib.hid HO.out.2
            clear HO
            go_wp2
            go_ret
            exact ⟨_, rfl, by rw [E.out]; exact Z.out, B.out⟩
end Go.Proofs.Ytaedamnhobcdlaa
