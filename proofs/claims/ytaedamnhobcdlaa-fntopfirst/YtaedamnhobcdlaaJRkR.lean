/- RkS, RkR in one. Written by tools/join.py. -/
import Derived.Test.YtaedamnhobcdlaaJRecR
import Derived.Test.YtaedamnhobcdlaaJApp
import Derived.Deep.DeepMust
import Derived.Deep.RegionHeld3
import Derived.Deep.RegionLaw
import Derived.Deep.LoopGhost
import Derived.Deep.DeepCutAuto
import Derived.Deep.CutBlock
section
namespace Go.Proofs.Ytaedamnhobcdlaa
open Go.RowKit
set_option linter.unusedVariables false
set_option linter.unusedSimpArgs false
set_option maxRecDepth 100000

set_option maxHeartbeats 1000000 in
theorem uSpecRankSize (n : Int) (w : World) (hb : -9223372036854775808 ≤ n ∧ n ≤ 9223372036854775807) : Calls Try.prog 26 #[.int .i64 n] w fun e w' => e = .returned (.int .i64 (rankSizeZ n)) ∧ Below w.heap.size w w' := by
  by_cases h0 : n < 0
  · have E := Lib.hid (rankSizeZ_no (.inl h0))
    go_enter Try.func26, Try.ntmps26
    go_wp2
    go_ret
    exact ⟨ret_int E.out.symm, Below.refl _ _⟩
  by_cases h1 : 64 < n
  · have E := Lib.hid (rankSizeZ_no (.inr h1))
    go_enter Try.func26, Try.ntmps26
    go_wp2
    go_ret
    exact ⟨ret_int E.out.symm, Below.refl _ _⟩
  obtain ⟨m, rfl⟩ : ∃ m : Nat, n = m := ⟨n.toNat, by omega⟩
  have E := Lib.hid (rankSizeZ_at (n := m) (by omega))
  have hm : m ≤ 64 := by omega
  go_enter Try.func26, Try.ntmps26
  go_wp2
  go_loop [3] (fun v => ∃ s : Nat, v = .int .i64 s ∧ s ≤ 64 ∧ Hid (dbl s m)) (fun v => 128 - (intOf v).toNat)
  case atStart => exact ⟨1, rfl, by omega, Lib.hid (dbl_start m)⟩
  case round =>
    obtain ⟨s, rfl, hs, D⟩ := hrel
    by_cases hlt : s < m
    · have N := Lib.hid (dbl_next D.out hm hlt)
      have hs2 := N.out.2
      have hp : 1 ≤ s := by rcases D.out.1 with h | h | h | h | h | h | h <;> omega
      go_wp2
      go_round
      case rel => exact ⟨2 * s, by go_num, by omega, Lib.hid N.out.1⟩
      case measure => simp [intOf]; omega
    · have F := Lib.hid (dbl_done D.out hm hlt)
      go_wp2
      go_ret
      exact ⟨ret_int (by rw [E.out, ← F.out]), Below.refl _ _⟩
theorem recsOkB_len {l : List RecM} (h : recsOkB l = true) : l.length ≤ 64 := by
  rcases Nat.lt_or_ge 64 l.length with h1 | h1
  · rw [recsOkB_long h1] at h; cases h
  · exact h1
/-- One record laid as a row, elements of four cells. -/
theorem lit_rec (w : World) (r : RecM) : Row (w.alloc (.cells #[.bool r.live, .int .i64 r.dist, .int .i64 r.weight, .string r.word] 30)) (some ⟨w.heap.size, 0, none⟩) (recL r) := lit_rowL w (recL r) 30
theorem flatG_one1 (r : RecM) : flatG recL [r] = recL r := by simp [flatG]
theorem app_low4 {B n : Nat} {w w1 : World} {v : Value} {xs : List Value} (hs : B ≤ w.heap.size) (hO : w.ownsRow B 30 4 v n xs) (o : Obj) (hg : (w.alloc o).grownBy w1 v.ownBlock) : Below B w w1 :=
  ((Below.refl B w).alloc hs o).grown hg (by simp; omega) (fun g hg => (hO.lt g hg).1)
theorem filter_next {l : List RecM} {k : Nat} (h : k < l.length) (hl : l[k].live = true) : (l.take (k + 1)).filter (·.live) = (l.take k).filter (·.live) ++ [l[k]] := by
  rw [List.take_succ_eq_append_getElem h, List.filter_append]; simp [hl]
theorem filter_skip {l : List RecM} {k : Nat} (h : k < l.length) (hl : l[k].live = false) : (l.take (k + 1)).filter (·.live) = (l.take k).filter (·.live) := by
  rw [List.take_succ_eq_append_getElem h, List.filter_append]; simp [hl]
set_option maxHeartbeats 4000000 in
theorem uSpecCompact (c : Value) (l : List RecM) (w : World) (h : RecSIn [c] l w) (hb : ∀ t ∈ l, recBd t) : Calls Try.prog 39 #[c] w (RecSRet (compactM l) w) := by
  have RO := Lib.hid (uSpecRecsOk c l w h hb)
  obtain ⟨a, cap, rfl, hcap, hm, r⟩ := recSIn_shape h
  have R := Lib.hid r
  clear h r hb
  cases ho : recsOkB l
  · have E := Lib.hid (show compactM l = [] by unfold compactM; simp [ho])
    rw [ho] at RO
    go_enter Try.func39, Try.ntmps39
    go_wp2_with fail
    refine RO.out.mono ?_
    rintro e w1 ⟨rfl, hb⟩
    have B1 := Lib.hid hb
    clear hb RO
    go_wp2
    go_ret
    exact ⟨_, rfl, by rw [E.out]; exact RecSOwn.nil _ _ _, B1.out⟩
  · have hl := recsOkB_len ho
    have E := Lib.hid (show compactM l = compactL l by unfold compactM; rw [if_pos ho])
    rw [ho] at RO
    go_enter Try.func39, Try.ntmps39
    go_wp2_with fail
    refine RO.out.mono ?_
    rintro e w1 ⟨rfl, hb⟩
    have hs1 := hb.size
    have S0 : Hid ((w1.alloc (.cells #[] 30)).ownsRow w.heap.size 30 4 (.slice (some ⟨w1.heap.size, 0, none⟩) 0 0) 0 [] ∧ Below w.heap.size w (w1.alloc (.cells #[] 30))) := Lib.hid ⟨World.ownsRow_made w1 #[] 0 hs1 (by unfold maxLen; omega) rfl, below_box hb _⟩
    clear hb RO
    go_wp2
    go_loopw [3, 4] (fun o i wr => ∃ (k m cp : Nat) (ad : Option Addr), k ≤ l.length ∧ i = .int .i64 k ∧ o = .slice ad m cp ∧ m ≤ k ∧ Hid (m = ((l.take k).filter (·.live)).length) ∧ Hid (wr.ownsRow w.heap.size 30 4 (.slice ad m cp) m (flatG recL ((l.take k).filter (·.live))) ∧ Below w.heap.size w wr)) (fun _ i _ => l.length - (intOf i).toNat)
    case atStart => exact ⟨0, 0, 0, _, Nat.zero_le _, rfl, rfl, Nat.le_refl _, Lib.hid (by simp), S0⟩
    case round =>
      clear S0
      obtain ⟨k, m, cp, ad, hk, rfl, rfl, hmk, HM, HO⟩ := hrel
      by_cases hlt : k < l.length
      · obtain ⟨b1, o1, rfl, q0, q1, q2, q3⟩ := (R.out.below HO.out.2).rec hlt
        have NX := Lib.hid (filter_next hlt)
        have SK := Lib.hid (filter_skip hlt)
        obtain ⟨r, hr⟩ : ∃ r, l[k] = r := ⟨_, rfl⟩
        rw [hr] at NX SK q0 q1 q2 q3
        clear hr
        obtain ⟨x0, x1, x2, x3⟩ := r
        simp only at NX SK q0 q1 q2 q3
        have hsz := HO.out.2.size
        cases x0
        · have N := Lib.hid (SK.out rfl)
          clear NX SK
          go_wp2
          go_roundw
          case rel => exact ⟨k + 1, m, cp, ad, by omega, by go_num, rfl, by omega, Lib.hid (by rw [N.out]; exact HM.out), Lib.hid (by rw [N.out]; exact HO.out)⟩
          case measure => simp [intOf]; omega
        · have N := Lib.hid (NX.out rfl)
          clear NX SK
          go_wp2_with (at_builtin; go_must (refine wp_app_rowS rfl _ _ 24 rfl 30 _ 4 40 Try.underlying24 Try.infoRec rfl (by omega) w.heap.size m (.slice ad m cp) (flatG recL ((l.take k).filter (·.live))) (by rfl) (HO.out.1.alloc _) (some ⟨wr.heap.size, 0, none⟩) 1 1 (recL ⟨true, x1, x2, x3⟩) (by rfl) rfl (lit_rec wr ⟨true, x1, x2, x3⟩) (recL_one _) (by unfold maxLen; omega) (by omega) (by simp; omega) ?_); intro v' w2 hown hgr)
          obtain ⟨a', c', rfl⟩ := own_shape hown
          have Z := Lib.hid (And.intro (show w2.ownsRow w.heap.size 30 4 (.slice a' (m + 1) c') (m + 1) (flatG recL ((l.take (k + 1)).filter (·.live))) by rw [N.out, flatG_app, flatG_one1]; exact hown) (HO.out.2.trans (app_low4 hsz HO.out.1 _ hgr)))
          clear hown hgr q0 q1 q2 q3 HO
          go_wp2
          go_roundw
          case rel => exact ⟨k + 1, m + 1, c', a', by omega, by go_num, rfl, by omega, Lib.hid (by rw [N.out, List.length_append, ← HM.out]; rfl), Z⟩
          case measure => simp [intOf]; omega
      · have ek : l.take k = l := List.take_of_length_le (by omega)
        have HF := Lib.hid (show m = (l.filter (·.live)).length by rw [← ek]; exact HM.out)
        have S1 := Lib.hid (show wr.ownsRow w.heap.size 30 4 (.slice ad m cp) m (flatG recL (l.filter (·.live) ++ List.replicate (m - (l.filter (·.live)).length) zeroR)) ∧ Below w.heap.size w wr by rw [← HF.out, Nat.sub_self, List.replicate_zero, List.append_nil]; rw [ek] at HO; exact HO.out)
        have hml : m ≤ l.length := by omega
        clear ek HM HO
        obtain ⟨WR, hWR⟩ : ∃ WR, WR = wr := ⟨_, rfl⟩
        rw [← hWR] at S1 ⊢
        clear hWR
        go_wp2
        go_loopw [3] (fun o wq => ∃ (j cq : Nat) (aq : Option Addr), j ≤ l.length ∧ o = .slice aq j cq ∧ Hid ((l.filter (·.live)).length ≤ j) ∧ Hid (wq.ownsRow w.heap.size 30 4 (.slice aq j cq) j (flatG recL (l.filter (·.live) ++ List.replicate (j - (l.filter (·.live)).length) zeroR)) ∧ Below w.heap.size w wq)) (fun o _ => l.length - lenOf o)
        case atStart => exact ⟨m, cp, ad, hml, rfl, Lib.hid (by rw [← HF.out]; exact Nat.le_refl _), S1⟩
        case round =>
          clear S1
          obtain ⟨j, cq, aq, hj, rfl, HJ, HO⟩ := hrel
          by_cases hjl : j < l.length
          · have hsz := HO.out.2.size
            go_wp2_with (at_builtin; go_must (refine wp_app_rowS rfl _ _ 24 rfl 30 _ 4 40 Try.underlying24 Try.infoRec rfl (by omega) w.heap.size j (.slice aq j cq) _ (by rfl) (HO.out.1.alloc _) (some ⟨_, 0, none⟩) 1 1 (recL zeroR) (by rfl) rfl (lit_rec _ zeroR) (recL_one _) (by unfold maxLen; omega) (by omega) (by simp; omega) ?_); intro v' w2 hown hgr)
            obtain ⟨a', c', rfl⟩ := own_shape hown
            have e1 : j + 1 - (l.filter (·.live)).length = (j - (l.filter (·.live)).length) + 1 := by have := HJ.out; omega
            have Z := Lib.hid (And.intro (show w2.ownsRow w.heap.size 30 4 (.slice a' (j + 1) c') (j + 1) (flatG recL (l.filter (·.live) ++ List.replicate (j + 1 - (l.filter (·.live)).length) zeroR)) by rw [e1, List.replicate_succ', ← List.append_assoc, flatG_app, flatG_one1]; exact hown) (HO.out.2.trans (app_low4 hsz HO.out.1 _ hgr)))
            clear hown hgr HO e1
            go_wp2
            go_roundw
            case rel => exact ⟨j + 1, c', a', by omega, rfl, Lib.hid (by have := HJ.out; omega), Z⟩
            case measure => simp [lenOf]; omega
          · have ej : j = l.length := by omega
            subst ej
            have Z := Lib.hid (RecSOwn.mk (l := compactL l) HO.out.1)
            have B := Lib.hid HO.out.2
            clear HO
            go_wp2
            go_ret
            exact ⟨_, rfl, by rw [E.out]; exact Z.out, B.out⟩
end Go.Proofs.Ytaedamnhobcdlaa
end

section
namespace Go.Proofs.Ytaedamnhobcdlaa
open Go.RowKit
set_option linter.unusedVariables false
set_option linter.unusedSimpArgs false
set_option maxRecDepth 100000

theorem pos_yes {O : List RecM} {r : RecM} {q : Nat} (h : aheadB r (O.getD q zeroR) = true) : posDown O r (q + 1) = posDown O r q := by rw [posDown, if_pos h]
theorem pos_no {O : List RecM} {r : RecM} {q : Nat} (h : aheadB r (O.getD q zeroR) = false) : posDown O r (q + 1) = q + 1 := by rw [posDown, if_neg (by rw [h]; decide)]
theorem rank_next {l : List RecM} {k : Nat} (h : k < l.length) : insAll (l.take (k + 1)) = insR (insAll (l.take k)) l[k] := by
  rw [List.take_succ_eq_append_getElem h, insAll_snoc]
theorem insAll_bd {l : List RecM} (hb : ∀ t ∈ l, recBd t) : ∀ t ∈ insAll l, recBd t := by
  have key : ∀ (l out : List RecM), (∀ t ∈ l, recBd t) → (∀ t ∈ out, recBd t) → ∀ t ∈ l.foldl insR out, recBd t := fun l => by
    induction l with
    | nil => intro out _ h; exact h
    | cons x l ih =>
      intro out h1 h2
      refine ih _ (fun t ht => h1 t (List.mem_cons_of_mem _ ht)) (fun t ht => ?_)
      unfold insR at ht
      rcases List.mem_append.1 ht with ht | ht
      · exact h2 t (List.mem_of_mem_take ht)
      · rcases List.mem_cons.1 ht with rfl | ht
        · exact h1 _ (by simp)
        · exact h2 t (List.mem_of_mem_drop ht)
  exact key l [] hb (fun t h => by simp at h)
/-- A tail of a row of records, the address as the walk reckons it. -/
theorem row_tail {w : World} {g : Nat} {O : List RecM} (h : Row w (some ⟨g, 0, none⟩) (flatG recL O)) (p : Nat) (hp : p ≤ O.length) : Row w (some ⟨g, p * 4, none⟩) (flatG recL (O.drop p)) := by
  have hl := flatG_len recL_len O
  have := h.cut (p * 4) ((O.length - p) * 4) (by rw [hl]; omega)
  rw [Nat.zero_add, ← flatG_drop recL_len, List.take_of_length_le (by rw [flatG_len recL_len]; simp)] at this
  exact this
theorem row_head {w : World} {a : Option Addr} {O : List RecM} (h : Row w a (flatG recL O)) (p : Nat) (hp : p ≤ O.length) : Row w a (flatG recL (O.take p)) := by
  rcases h with h | ⟨b, off, rfl, hc⟩
  · left
    rw [flatG_take recL_len, h, List.take_nil]
  · refine .inr ⟨b, off, rfl, fun i hi => ?_⟩
    rw [flatG_take recL_len] at hi ⊢
    rw [hc i (by simp at hi; omega), List.getElem?_take_of_lt (by simp at hi; omega)]
theorem lit_rec4 (w : World) (r : RecM) : (w.alloc (.cells #[.bool r.live, .int .i64 r.dist, .int .i64 r.weight, .string r.word] 30)).ownsRow w.heap.size 30 4 (.slice (some ⟨w.heap.size, 0, none⟩) 1 1) 1 (recL r) :=
  ⟨rfl, .inr ⟨w.heap.size, 1, _, rfl, Nat.le_refl _, heap_alloc_new w _, Nat.le_refl _, by unfold maxLen; omega, rfl, rfl⟩⟩
set_option maxHeartbeats 8000000 in
theorem uSpecRank (c : Value) (l : List RecM) (w : World) (h : RecSIn [c] l w) (hb : ∀ t ∈ l, recBd t) : Calls Try.prog 29 #[c] w (RecSRet (rankM l) w) := by
  have RO := Lib.hid (uSpecRecsOk c l w h hb)
  obtain ⟨a, cap, rfl, hcap, hm, r⟩ := recSIn_shape h
  have R := Lib.hid r
  have HB := Lib.hid hb
  clear h r hb
  cases ho : recsOkB l
  · have E := Lib.hid (show rankM l = [] by unfold rankM; simp [ho])
    rw [ho] at RO
    go_enter Try.func29, Try.ntmps29
    go_wp2_with fail
    refine RO.out.mono ?_
    rintro e w1 ⟨rfl, hb⟩
    have B1 := Lib.hid hb
    clear hb RO
    go_wp2
    go_ret
    exact ⟨_, rfl, by rw [E.out]; exact RecSOwn.nil _ _ _, B1.out⟩
  · have hl := recsOkB_len ho
    have E := Lib.hid (show rankM l = insAll l by unfold rankM; rw [if_pos ho])
    rw [ho] at RO
    go_enter Try.func29, Try.ntmps29
    go_wp2_with fail
    refine RO.out.mono ?_
    rintro e w1 ⟨rfl, hb⟩
    have hs1 := hb.size
    have S0 : Hid ((w1.alloc (.cells #[] 30)).ownsRow w.heap.size 30 4 (.slice (some ⟨w1.heap.size, 0, none⟩) 0 0) 0 (flatG recL (insAll (l.take 0))) ∧ Below w.heap.size w (w1.alloc (.cells #[] 30))) := Lib.hid ⟨World.ownsRow_made w1 #[] 0 hs1 (by unfold maxLen; omega) rfl, below_box hb _⟩
    clear hb RO
    go_wp2_with fail
    go_loopg [3, 4] l.length (fun k o i wr => ∃ (m g cp : Nat), m ≤ l.length ∧ l.length - m = k ∧ i = .int .i64 m ∧ o = .slice (some ⟨g, 0, none⟩) m cp ∧ m ≤ cp ∧ Hid (wr.ownsRow w.heap.size 30 4 (.slice (some ⟨g, 0, none⟩) m cp) m (flatG recL (insAll (l.take m))) ∧ Below w.heap.size w wr))
    case atStart => exact ⟨0, _, 0, Nat.zero_le _, rfl, rfl, rfl, Nat.le_refl _, S0⟩
    case round =>
      clear S0
      obtain ⟨m, g, cp, hmk, hk, rfl, rfl, hcp, HO⟩ := hrel
      by_cases hlt : m < l.length
      · obtain ⟨b1, o1, rfl, q0, q1, q2, q3⟩ := (R.out.below HO.out.2).rec hlt
        have BD := Lib.hid (HB.out _ (List.getElem_mem hlt))
        have OB := Lib.hid (insAll_bd (l := l.take m) (fun t ht => HB.out t (List.mem_of_mem_take ht)))
        have OL := Lib.hid (show (insAll (l.take m)).length = m by rw [insAll_length]; simp; omega)
        have NX := Lib.hid (rank_next hlt)
        obtain ⟨r, hr⟩ : ∃ r, l[m] = r := ⟨_, rfl⟩
        rw [hr] at NX BD q0 q1 q2 q3
        clear hr
        obtain ⟨O, hO⟩ : ∃ O, insAll (l.take m) = O := ⟨_, rfl⟩
        rw [hO] at HO OB OL NX
        clear hO
        have hsz := HO.out.2.size
        obtain ⟨W0, hW0⟩ : ∃ W0, W0 = wr := ⟨_, rfl⟩
        rw [← hW0] at HO hsz q0 q1 q2 q3 ⊢
        clear hW0
        go_upto_block 2 with fail
        go_cut [5] (fun at_ wx => ∃ p : Nat, p ≤ m ∧ at_ = .int .i64 p ∧ Hid (posDown O r m = p) ∧ Hid (Below W0.heap.size W0 wx))
        case first =>
          obtain ⟨x0, x1, x2, x3⟩ := r
          simp only at q0 q1 q2 q3
          have QX := Lib.hid (And.intro q0 (And.intro q1 (And.intro q2 q3)))
          clear NX
          clear q0 q1 q2 q3
          go_wp2_with fail
          go_loopg [5] m (fun k2 at_ wq => ∃ p : Nat, p = k2 ∧ p ≤ m ∧ at_ = .int .i64 p ∧ Hid (posDown O ⟨x0, x1, x2, x3⟩ m = posDown O ⟨x0, x1, x2, x3⟩ p) ∧ Hid (Below W0.heap.size W0 wq))
          case atStart => exact ⟨m, rfl, Nat.le_refl _, rfl, Lib.hid rfl, Lib.hid (Below.refl _ _)⟩
          case round =>
            obtain ⟨p, rfl, hpm, rfl, HP, HW⟩ := hrel
            have HD := Lib.hid (below_drew (Below.refl wr.heap.size wr))
            rcases Nat.eq_zero_or_pos p with h0 | h0
            · subst h0
              go_upto_region 8 with fail
              refine wp_region_held_drew (S := (fun _ => True)) (by kernel_rfl) (trivial) (fun hHeld => ?_)
              refine wpAnyH_take (i := 0) (oi := ?oz_0) (v := ?vz_0) ?hiz_0 (by kernel_rfl) (by kernel_rfl) (by kernel_rfl) ?hqz_0 ?hyz_0 (by assumption) ?rz_0
              case hiz_0 => (simp only [List.getElem?_toArray, List.getElem?_cons_succ, List.getElem?_cons_zero]; rfl)
              case hqz_0 => exact fun _ _ _ h => h
              case hyz_0 =>
                first
                  | (refine Or.inl ⟨by rfl, ?_⟩; intro wq hSw; (try dsimp only at hSw); go_simp; (try with_reducible rfl); done)
                  | (refine Or.inr ⟨by rfl, ?_⟩; with_reducible rfl)
              try simp only [Act.put, List.setIfInBounds_toArray, List.set_cons_zero, List.set_cons_succ]
              refine wpAnyH_take (i := 1) (oi := ?oz_1) (v := ?vz_1) ?hiz_1 (by kernel_rfl) (by kernel_rfl) (by kernel_rfl) ?hqz_1 ?hyz_1 (by assumption) ?rz_1
              case hiz_1 => (simp only [List.getElem?_toArray, List.getElem?_cons_succ, List.getElem?_cons_zero]; rfl)
              case hqz_1 => exact fun _ _ _ h => h
              case hyz_1 =>
                first
                  | (refine Or.inl ⟨by rfl, ?_⟩; intro wq hSw; (try dsimp only at hSw); go_simp; (try with_reducible rfl); done)
                  | (refine Or.inr ⟨by rfl, ?_⟩; with_reducible rfl)
              try simp only [Act.put, List.setIfInBounds_toArray, List.set_cons_zero, List.set_cons_succ]
              refine wpAnyH_take (i := 2) (oi := ?oz_2) (v := ?vz_2) ?hiz_2 (by kernel_rfl) (by kernel_rfl) (by kernel_rfl) ?hqz_2 ?hyz_2 (by assumption) ?rz_2
              case hiz_2 => (simp only [List.getElem?_toArray, List.getElem?_cons_succ, List.getElem?_cons_zero]; rfl)
              case hqz_2 => exact fun _ _ _ h => h
              case hyz_2 =>
                first
                  | (refine Or.inl ⟨by rfl, ?_⟩; intro wq hSw; (try dsimp only at hSw); go_simp; (try with_reducible rfl); done)
                  | (refine Or.inr ⟨by rfl, ?_⟩; with_reducible rfl)
              try simp only [Act.put, List.setIfInBounds_toArray, List.set_cons_zero, List.set_cons_succ]
              refine wpAnyH_take (i := 3) (oi := ?oz_3) (v := ?vz_3) ?hiz_3 (by kernel_rfl) (by kernel_rfl) (by kernel_rfl) ?hqz_3 ?hyz_3 (by assumption) ?rz_3
              case hiz_3 => (simp only [List.getElem?_toArray, List.getElem?_cons_succ, List.getElem?_cons_zero]; rfl)
              case hqz_3 => exact fun _ _ _ h => h
              case hyz_3 =>
                first
                  | (refine Or.inl ⟨by rfl, ?_⟩; intro wq hSw; (try dsimp only at hSw); go_simp; (try with_reducible rfl); done)
                  | (refine Or.inr ⟨by rfl, ?_⟩; with_reducible rfl)
              try simp only [Act.put, List.setIfInBounds_toArray, List.set_cons_zero, List.set_cons_succ]
              refine wpAnyH_take (i := 4) (oi := ?oz_4) (v := ?vz_4) ?hiz_4 (by kernel_rfl) (by kernel_rfl) (by kernel_rfl) ?hqz_4 ?hyz_4 (by assumption) ?rz_4
              case hiz_4 => (simp only [List.getElem?_toArray, List.getElem?_cons_succ, List.getElem?_cons_zero]; rfl)
              case hqz_4 => exact fun _ _ _ h => h
              case hyz_4 =>
                first
                  | (refine Or.inl ⟨by rfl, ?_⟩; intro wq hSw; (try dsimp only at hSw); go_simp; (try with_reducible rfl); done)
                  | (refine Or.inr ⟨by rfl, ?_⟩; with_reducible rfl)
              try simp only [Act.put, List.setIfInBounds_toArray, List.set_cons_zero, List.set_cons_succ]
              refine wpAnyH_take (i := 5) (oi := ?oz_5) (v := ?vz_5) ?hiz_5 (by kernel_rfl) (by kernel_rfl) (by kernel_rfl) ?hqz_5 ?hyz_5 (by assumption) ?rz_5
              case hiz_5 => (simp only [List.getElem?_toArray, List.getElem?_cons_succ, List.getElem?_cons_zero]; rfl)
              case hqz_5 => exact fun _ _ _ h => h
              case hyz_5 =>
                first
                  | (refine Or.inl ⟨by rfl, ?_⟩; intro wq hSw; (try dsimp only at hSw); go_simp; (try with_reducible rfl); done)
                  | (refine Or.inr ⟨by rfl, ?_⟩; with_reducible rfl)
              try simp only [Act.put, List.setIfInBounds_toArray, List.set_cons_zero, List.set_cons_succ]
              refine wpAnyH_take (i := 6) (oi := ?oz_6) (v := ?vz_6) ?hiz_6 (by kernel_rfl) (by kernel_rfl) (by kernel_rfl) ?hqz_6 ?hyz_6 (by assumption) ?rz_6
              case hiz_6 => (simp only [List.getElem?_toArray, List.getElem?_cons_succ, List.getElem?_cons_zero]; rfl)
              case hqz_6 => exact fun _ _ _ h => h
              case hyz_6 =>
                first
                  | (refine Or.inl ⟨by rfl, ?_⟩; intro wq hSw; (try dsimp only at hSw); go_simp; (try with_reducible rfl); done)
                  | (refine Or.inr ⟨by rfl, ?_⟩; with_reducible rfl)
              try simp only [Act.put, List.setIfInBounds_toArray, List.set_cons_zero, List.set_cons_succ]
              refine wpAnyH_take (i := 7) (oi := ?oz_7) (v := ?vz_7) ?hiz_7 (by kernel_rfl) (by kernel_rfl) (by kernel_rfl) ?hqz_7 ?hyz_7 (by assumption) ?rz_7
              case hiz_7 => (simp only [List.getElem?_toArray, List.getElem?_cons_succ, List.getElem?_cons_zero]; rfl)
              case hqz_7 => exact fun _ _ _ h => h
              case hyz_7 =>
                first
                  | (refine Or.inl ⟨by rfl, ?_⟩; intro wq hSw; (try dsimp only at hSw); go_simp; (try with_reducible rfl); done)
                  | (refine Or.inr ⟨by rfl, ?_⟩; with_reducible rfl)
              try simp only [Act.put, List.setIfInBounds_toArray, List.set_cons_zero, List.set_cons_succ]
              refine wpAnyH_take (i := 8) (oi := ?oz_8) (v := ?vz_8) ?hiz_8 (by kernel_rfl) (by kernel_rfl) (by kernel_rfl) ?hqz_8 ?hyz_8 (by assumption) ?rz_8
              case hiz_8 => (simp only [List.getElem?_toArray, List.getElem?_cons_succ, List.getElem?_cons_zero]; rfl)
              case hqz_8 => exact fun _ _ _ h => h
              case hyz_8 =>
                first
                  | (refine Or.inl ⟨by rfl, ?_⟩; intro wq hSw; (try dsimp only at hSw); go_simp; (try with_reducible rfl); done)
                  | (refine Or.inr ⟨by rfl, ?_⟩; with_reducible rfl)
              try simp only [Act.put, List.setIfInBounds_toArray, List.set_cons_zero, List.set_cons_succ]
              refine wpAnyH_take (i := 9) (oi := ?oz_9) (v := ?vz_9) ?hiz_9 (by kernel_rfl) (by kernel_rfl) (by kernel_rfl) ?hqz_9 ?hyz_9 (by assumption) ?rz_9
              case hiz_9 => (simp only [List.getElem?_toArray, List.getElem?_cons_succ, List.getElem?_cons_zero]; rfl)
              case hqz_9 => exact fun _ _ _ h => h
              case hyz_9 =>
                first
                  | (refine Or.inl ⟨by rfl, ?_⟩; intro wq hSw; (try dsimp only at hSw); go_simp; (try with_reducible rfl); done)
                  | (refine Or.inr ⟨by rfl, ?_⟩; with_reducible rfl)
              try simp only [Act.put, List.setIfInBounds_toArray, List.set_cons_zero, List.set_cons_succ]
              refine wpAnyH_take (i := 10) (oi := ?oz_10) (v := ?vz_10) ?hiz_10 (by kernel_rfl) (by kernel_rfl) (by kernel_rfl) ?hqz_10 ?hyz_10 (by assumption) ?rz_10
              case hiz_10 => (simp only [List.getElem?_toArray, List.getElem?_cons_succ, List.getElem?_cons_zero]; rfl)
              case hqz_10 => exact fun _ _ _ h => h
              case hyz_10 =>
                first
                  | (refine Or.inl ⟨by rfl, ?_⟩; intro wq hSw; (try dsimp only at hSw); go_simp; (try with_reducible rfl); done)
                  | (refine Or.inr ⟨by rfl, ?_⟩; with_reducible rfl)
              try simp only [Act.put, List.setIfInBounds_toArray, List.set_cons_zero, List.set_cons_succ]
              refine wpAnyH_take (i := 11) (oi := ?oz_11) (v := ?vz_11) ?hiz_11 (by kernel_rfl) (by kernel_rfl) (by kernel_rfl) ?hqz_11 ?hyz_11 (by assumption) ?rz_11
              case hiz_11 => (simp only [List.getElem?_toArray, List.getElem?_cons_succ, List.getElem?_cons_zero]; rfl)
              case hqz_11 => exact fun _ _ _ h => h
              case hyz_11 =>
                first
                  | (refine Or.inl ⟨by rfl, ?_⟩; intro wq hSw; (try dsimp only at hSw); go_simp; (try with_reducible rfl); done)
                  | (refine Or.inr ⟨by rfl, ?_⟩; with_reducible rfl)
              try simp only [Act.put, List.setIfInBounds_toArray, List.set_cons_zero, List.set_cons_succ]
              refine wpAnyH_take (i := 12) (oi := ?oz_12) (v := ?vz_12) ?hiz_12 (by kernel_rfl) (by kernel_rfl) (by kernel_rfl) ?hqz_12 ?hyz_12 (by assumption) ?rz_12
              case hiz_12 => (simp only [List.getElem?_toArray, List.getElem?_cons_succ, List.getElem?_cons_zero]; rfl)
              case hqz_12 => exact fun _ _ _ h => h
              case hyz_12 =>
                first
                  | (refine Or.inl ⟨by rfl, ?_⟩; intro wq hSw; (try dsimp only at hSw); go_simp; (try with_reducible rfl); done)
                  | (refine Or.inr ⟨by rfl, ?_⟩; with_reducible rfl)
              try simp only [Act.put, List.setIfInBounds_toArray, List.set_cons_zero, List.set_cons_succ]
              refine wpAnyH_take (i := 13) (oi := ?oz_13) (v := ?vz_13) ?hiz_13 (by kernel_rfl) (by kernel_rfl) (by kernel_rfl) ?hqz_13 ?hyz_13 (by assumption) ?rz_13
              case hiz_13 => (simp only [List.getElem?_toArray, List.getElem?_cons_succ, List.getElem?_cons_zero]; rfl)
              case hqz_13 => exact fun _ _ _ h => h
              case hyz_13 =>
                first
                  | (refine Or.inl ⟨by rfl, ?_⟩; intro wq hSw; (try dsimp only at hSw); go_simp; (try with_reducible rfl); done)
                  | (refine Or.inr ⟨by rfl, ?_⟩; with_reducible rfl)
              try simp only [Act.put, List.setIfInBounds_toArray, List.set_cons_zero, List.set_cons_succ]
              refine wpAnyH_done (by kernel_rfl) ?_ _
              have B3 := Lib.hid (below_drew HW.out)
              go_wp2
              go_meet
              case rel => exact ⟨0, Nat.zero_le _, rfl, Lib.hid (by rw [HP.out]; rfl), B3⟩
            · obtain ⟨q, rfl⟩ : ∃ q, p = q + 1 := ⟨p - 1, by omega⟩
              have hqO : q < O.length := by rw [OL.out]; omega
              have cc := own_elem recL_len (own_below HO.out.1 HW.out) (k := q) hqO
              obtain ⟨y, hy⟩ : ∃ y, O[q] = y := ⟨_, rfl⟩
              have YB := OB.out _ (List.getElem_mem hqO)
              have gy : O.getD q zeroR = O[q] := by simp [List.getD_eq_getElem?_getD, hqO]
              rw [hy] at cc YB gy
              have AH := Lib.hid (fun w' => specRecAheadR ⟨x0, x1, x2, x3⟩ y w' BD.out.2.2 YB.2.2)
              have PY := Lib.hid (pos_yes (O := O) (r := ⟨x0, x1, x2, x3⟩) (q := q))
              have PN := Lib.hid (pos_no (O := O) (r := ⟨x0, x1, x2, x3⟩) (q := q))
              rw [gy] at PY PN
              obtain ⟨ah, hah⟩ : ∃ ah, aheadB ⟨x0, x1, x2, x3⟩ y = ah := ⟨_, rfl⟩
              rw [hah] at AH PY PN
              obtain ⟨y0, y1, y2, y3⟩ := y
              unfold RecM.cells at AH
              simp only at AH
              clear hah hy gy YB
              have c0 : wr.cell? ⟨g, q * 4, none⟩ = some (.bool y0) := cc 0 (by decide)
              have c1 : wr.cell? ⟨g, q * 4 + 1, none⟩ = some (.int .i64 y1) := cc 1 (by decide)
              have c2 : wr.cell? ⟨g, q * 4 + 2, none⟩ = some (.int .i64 y2) := cc 2 (by decide)
              have c3 : wr.cell? ⟨g, q * 4 + 3, none⟩ = some (.string y3) := cc 3 (by decide)
              have d0 := cell_keep QX.out.1 HW.out
              have d1 := cell_keep QX.out.2.1 HW.out
              have d2 := cell_keep QX.out.2.2.1 HW.out
              have d3 := cell_keep QX.out.2.2.2 HW.out
              have KS := Lib.hid (fun w' (hb : Below wr.heap.size wr w') => (show w'.cell? ⟨b1, o1 + m * 4, none⟩ = some (.bool x0) ∧ w'.cell? ⟨b1, o1 + m * 4 + 1, none⟩ = some (.int .i64 x1) ∧ w'.cell? ⟨b1, o1 + m * 4 + 2, none⟩ = some (.int .i64 x2) ∧ w'.cell? ⟨b1, o1 + m * 4 + 3, none⟩ = some (.string x3) ∧ w'.cell? ⟨g, q * 4, none⟩ = some (.bool y0) ∧ w'.cell? ⟨g, q * 4 + 1, none⟩ = some (.int .i64 y1) ∧ w'.cell? ⟨g, q * 4 + 2, none⟩ = some (.int .i64 y2) ∧ w'.cell? ⟨g, q * 4 + 3, none⟩ = some (.string y3) from ⟨cell_keep d0 hb, cell_keep d1 hb, cell_keep d2 hb, cell_keep d3 hb, cell_keep c0 hb, cell_keep c1 hb, cell_keep c2 hb, cell_keep c3 hb⟩))
              clear cc c0 c1 c2 c3 d0 d1 d2 d3
              have hq0 : (0 : Int) ≤ (q : Int) := by omega
              have hq1 : (q : Int) < (m : Int) := by omega
              have hm0 : (0 : Int) ≤ (m : Int) := by omega
              have hm1 : (m : Int) < (l.length : Int) := by omega
              have hp1 : (0 : Int) < (q : Int) + 1 := by omega
              have hs : (q : Int) + 1 - 1 = (q : Int) := by omega
              have hwq : IntKind.i64.wrap (q : Int) = (q : Int) := IntWalk.i64_in _ (by omega)
              go_upto_region 8 with fail
              cases ah
              · have P := Lib.hid (PN.out rfl)
                refine wp_region_held_drew (S := (fun w' => w'.cell? ⟨b1, o1 + m * 4, none⟩ = some (.bool x0) ∧ w'.cell? ⟨b1, o1 + m * 4 + 1, none⟩ = some (.int .i64 x1) ∧ w'.cell? ⟨b1, o1 + m * 4 + 2, none⟩ = some (.int .i64 x2) ∧ w'.cell? ⟨b1, o1 + m * 4 + 3, none⟩ = some (.string x3) ∧ w'.cell? ⟨g, q * 4, none⟩ = some (.bool y0) ∧ w'.cell? ⟨g, q * 4 + 1, none⟩ = some (.int .i64 y1) ∧ w'.cell? ⟨g, q * 4 + 2, none⟩ = some (.int .i64 y2) ∧ w'.cell? ⟨g, q * 4 + 3, none⟩ = some (.string y3))) (by kernel_rfl) (KS.out _ HD.out) (fun hHeld => ?_)
                refine wpAnyH_take (i := 0) (oi := ?oa1_0) (v := ?va1_0) ?hia1_0 (by kernel_rfl) (by kernel_rfl) (by kernel_rfl) ?hqa1_0 ?hya1_0 (by assumption) ?ra1_0
                case hia1_0 => (simp only [List.getElem?_toArray, List.getElem?_cons_succ, List.getElem?_cons_zero]; rfl)
                case hqa1_0 => exact fun _ _ _ h => h
                case hya1_0 =>
                  first
                    | (refine Or.inl ⟨by rfl, ?_⟩; intro wq hSw; (try dsimp only at hSw); go_simp; (try with_reducible rfl); done)
                    | (refine Or.inr ⟨by rfl, ?_⟩; with_reducible rfl)
                try simp only [Act.put, List.setIfInBounds_toArray, List.set_cons_zero, List.set_cons_succ]
                refine wpAnyH_take (i := 1) (oi := ?oa1_1) (v := ?va1_1) ?hia1_1 (by kernel_rfl) (by kernel_rfl) (by kernel_rfl) ?hqa1_1 ?hya1_1 (by assumption) ?ra1_1
                case hia1_1 => (simp only [List.getElem?_toArray, List.getElem?_cons_succ, List.getElem?_cons_zero]; rfl)
                case hqa1_1 => exact fun _ _ _ h => h
                case hya1_1 =>
                  first
                    | (refine Or.inl ⟨by rfl, ?_⟩; intro wq hSw; (try dsimp only at hSw); go_simp; (try with_reducible rfl); done)
                    | (refine Or.inr ⟨by rfl, ?_⟩; with_reducible rfl)
                try simp only [Act.put, List.setIfInBounds_toArray, List.set_cons_zero, List.set_cons_succ]
                refine wpAnyH_take (i := 2) (oi := ?oa1_2) (v := ?va1_2) ?hia1_2 (by kernel_rfl) (by kernel_rfl) (by kernel_rfl) ?hqa1_2 ?hya1_2 (by assumption) ?ra1_2
                case hia1_2 => (simp only [List.getElem?_toArray, List.getElem?_cons_succ, List.getElem?_cons_zero]; rfl)
                case hqa1_2 => exact fun _ _ _ h => h
                case hya1_2 =>
                  first
                    | (refine Or.inl ⟨by rfl, ?_⟩; intro wq hSw; (try dsimp only at hSw); go_simp; (try with_reducible rfl); done)
                    | (refine Or.inr ⟨by rfl, ?_⟩; with_reducible rfl)
                try simp only [Act.put, List.setIfInBounds_toArray, List.set_cons_zero, List.set_cons_succ]
                refine wpAnyH_take (i := 3) (oi := ?oa1_3) (v := ?va1_3) ?hia1_3 (by kernel_rfl) (by kernel_rfl) (by kernel_rfl) ?hqa1_3 ?hya1_3 (by assumption) ?ra1_3
                case hia1_3 => (simp only [List.getElem?_toArray, List.getElem?_cons_succ, List.getElem?_cons_zero]; rfl)
                case hqa1_3 => exact fun _ _ _ h => h
                case hya1_3 =>
                  first
                    | (refine Or.inl ⟨by rfl, ?_⟩; intro wq hSw; (try dsimp only at hSw); go_simp; (try with_reducible rfl); done)
                    | (refine Or.inr ⟨by rfl, ?_⟩; with_reducible rfl)
                try simp only [Act.put, List.setIfInBounds_toArray, List.set_cons_zero, List.set_cons_succ]
                refine wpAnyH_take (i := 4) (oi := ?oa1_4) (v := ?va1_4) ?hia1_4 (by kernel_rfl) (by kernel_rfl) (by kernel_rfl) ?hqa1_4 ?hya1_4 (by assumption) ?ra1_4
                case hia1_4 => (simp only [List.getElem?_toArray, List.getElem?_cons_succ, List.getElem?_cons_zero]; rfl)
                case hqa1_4 => exact fun _ _ _ h => h
                case hya1_4 =>
                  first
                    | (refine Or.inl ⟨by rfl, ?_⟩; intro wq hSw; (try dsimp only at hSw); go_simp; (try with_reducible rfl); done)
                    | (refine Or.inr ⟨by rfl, ?_⟩; with_reducible rfl)
                try simp only [Act.put, List.setIfInBounds_toArray, List.set_cons_zero, List.set_cons_succ]
                refine wpAnyH_take (i := 5) (oi := ?oa1_5) (v := ?va1_5) ?hia1_5 (by kernel_rfl) (by kernel_rfl) (by kernel_rfl) ?hqa1_5 ?hya1_5 (by assumption) ?ra1_5
                case hia1_5 => (simp only [List.getElem?_toArray, List.getElem?_cons_succ, List.getElem?_cons_zero]; rfl)
                case hqa1_5 => exact fun _ _ _ h => h
                case hya1_5 =>
                  first
                    | (refine Or.inl ⟨by rfl, ?_⟩; intro wq hSw; (try dsimp only at hSw); go_simp; (try with_reducible rfl); done)
                    | (refine Or.inr ⟨by rfl, ?_⟩; with_reducible rfl)
                try simp only [Act.put, List.setIfInBounds_toArray, List.set_cons_zero, List.set_cons_succ]
                refine wpAnyH_take (i := 6) (oi := ?oa1_6) (v := ?va1_6) ?hia1_6 (by kernel_rfl) (by kernel_rfl) (by kernel_rfl) ?hqa1_6 ?hya1_6 (by assumption) ?ra1_6
                case hia1_6 => (simp only [List.getElem?_toArray, List.getElem?_cons_succ, List.getElem?_cons_zero]; rfl)
                case hqa1_6 => exact fun _ _ _ h => h
                case hya1_6 =>
                  first
                    | (refine Or.inl ⟨by rfl, ?_⟩; intro wq hSw; (try dsimp only at hSw); go_simp; (try with_reducible rfl); done)
                    | (refine Or.inr ⟨by rfl, ?_⟩; with_reducible rfl)
                try simp only [Act.put, List.setIfInBounds_toArray, List.set_cons_zero, List.set_cons_succ]
                refine wpAnyH_take (i := 7) (oi := ?oa1_7) (v := ?va1_7) ?hia1_7 (by kernel_rfl) (by kernel_rfl) (by kernel_rfl) ?hqa1_7 ?hya1_7 (by assumption) ?ra1_7
                case hia1_7 => (simp only [List.getElem?_toArray, List.getElem?_cons_succ, List.getElem?_cons_zero]; rfl)
                case hqa1_7 => exact fun _ _ _ h => h
                case hya1_7 =>
                  first
                    | (refine Or.inl ⟨by rfl, ?_⟩; intro wq hSw; (try dsimp only at hSw); go_simp; (try with_reducible rfl); done)
                    | (refine Or.inr ⟨by rfl, ?_⟩; with_reducible rfl)
                try simp only [Act.put, List.setIfInBounds_toArray, List.set_cons_zero, List.set_cons_succ]
                refine wpAnyH_take (i := 8) (oi := ?oa1_8) (v := ?va1_8) ?hia1_8 (by kernel_rfl) (by kernel_rfl) (by kernel_rfl) ?hqa1_8 ?hya1_8 (by assumption) ?ra1_8
                case hia1_8 => (simp only [List.getElem?_toArray, List.getElem?_cons_succ, List.getElem?_cons_zero]; rfl)
                case hqa1_8 => exact fun _ _ _ h => h
                case hya1_8 =>
                  first
                    | (refine Or.inl ⟨by rfl, ?_⟩; intro wq hSw; (try dsimp only at hSw); go_simp; (try with_reducible rfl); done)
                    | (refine Or.inr ⟨by rfl, ?_⟩; with_reducible rfl)
                try simp only [Act.put, List.setIfInBounds_toArray, List.set_cons_zero, List.set_cons_succ]
                refine wpAnyH_take (i := 9) (oi := ?oa1_9) (v := ?va1_9) ?hia1_9 (by kernel_rfl) (by kernel_rfl) (by kernel_rfl) ?hqa1_9 ?hya1_9 (by assumption) ?ra1_9
                case hia1_9 => (simp only [List.getElem?_toArray, List.getElem?_cons_succ, List.getElem?_cons_zero]; rfl)
                case hqa1_9 => exact fun _ _ _ h => h
                case hya1_9 =>
                  first
                    | (refine Or.inl ⟨by rfl, ?_⟩; intro wq hSw; (try dsimp only at hSw); go_simp; (try with_reducible rfl); done)
                    | (refine Or.inr ⟨by rfl, ?_⟩; with_reducible rfl)
                try simp only [Act.put, List.setIfInBounds_toArray, List.set_cons_zero, List.set_cons_succ]
                refine wpAnyH_take (i := 10) (oi := ?oa1_10) (v := ?va1_10) ?hia1_10 (by kernel_rfl) (by kernel_rfl) (by kernel_rfl) ?hqa1_10 ?hya1_10 (by assumption) ?ra1_10
                case hia1_10 => (simp only [List.getElem?_toArray, List.getElem?_cons_succ, List.getElem?_cons_zero]; rfl)
                case hqa1_10 => exact fun _ _ _ h => h
                case hya1_10 =>
                  first
                    | (refine Or.inl ⟨by rfl, ?_⟩; intro wq hSw; (try dsimp only at hSw); go_simp; (try with_reducible rfl); done)
                    | (refine Or.inr ⟨by rfl, ?_⟩; with_reducible rfl)
                try simp only [Act.put, List.setIfInBounds_toArray, List.set_cons_zero, List.set_cons_succ]
                refine wpAnyH_take (i := 11) (oi := ?oa1_11) (v := ?va1_11) ?hia1_11 (by kernel_rfl) (by kernel_rfl) (by kernel_rfl) ?hqa1_11 ?hya1_11 (by assumption) ?ra1_11
                case hia1_11 => (simp only [List.getElem?_toArray, List.getElem?_cons_succ, List.getElem?_cons_zero]; rfl)
                case hqa1_11 => exact fun _ _ _ h => h
                case hya1_11 =>
                  first
                    | (refine Or.inl ⟨by rfl, ?_⟩; intro wq hSw; (try dsimp only at hSw); go_simp; (try with_reducible rfl); done)
                    | (refine Or.inr ⟨by rfl, ?_⟩; with_reducible rfl)
                try simp only [Act.put, List.setIfInBounds_toArray, List.set_cons_zero, List.set_cons_succ]
                refine wpAnyH_ready (rs := [12]) (by kernel_rfl) (by simp) ?_
                refine AllReadyH.cons (by simp only [List.getElem?_toArray, List.getElem?_cons_succ, List.getElem?_cons_zero]; rfl) (fun K hK => ?_) AllReadyH.nil
                go_simp
                go_at_call 16
                refine (AH.out _).mono ?_
                rintro e wn ⟨rfl, hb⟩
                replace HD := Lib.hid (below_seq HD.out hb)
                clear hb AH
                refine hK.out _ _ (KS.out _ HD.out) (fun hHeld12 => ?_)
                clear hK K hHeld
                try simp only [Act.put, List.setIfInBounds_toArray, List.set_cons_zero, List.set_cons_succ]
                refine wpAnyH_take (i := 13) (oi := ?oa1_13) (v := ?va1_13) ?hia1_13 (by kernel_rfl) (by kernel_rfl) (by kernel_rfl) ?hqa1_13 ?hya1_13 (by assumption) ?ra1_13
                case hia1_13 => (simp only [List.getElem?_toArray, List.getElem?_cons_succ, List.getElem?_cons_zero]; rfl)
                case hqa1_13 => exact fun _ _ _ h => h
                case hya1_13 =>
                  first
                    | (refine Or.inl ⟨by rfl, ?_⟩; intro wq hSw; (try dsimp only at hSw); go_simp; (try with_reducible rfl); done)
                    | (refine Or.inr ⟨by rfl, ?_⟩; with_reducible rfl)
                try simp only [Act.put, List.setIfInBounds_toArray, List.set_cons_zero, List.set_cons_succ]
                refine wpAnyH_done (by kernel_rfl) ?_ _
                have B3 := Lib.hid (below_seq HW.out HD.out)
                go_wp2
                go_meet
                case rel => exact ⟨q + 1, by omega, by go_num, Lib.hid (by rw [HP.out, P.out]), B3⟩
              · have P := Lib.hid (PY.out rfl)
                refine wp_region_held_drew (S := (fun w' => w'.cell? ⟨b1, o1 + m * 4, none⟩ = some (.bool x0) ∧ w'.cell? ⟨b1, o1 + m * 4 + 1, none⟩ = some (.int .i64 x1) ∧ w'.cell? ⟨b1, o1 + m * 4 + 2, none⟩ = some (.int .i64 x2) ∧ w'.cell? ⟨b1, o1 + m * 4 + 3, none⟩ = some (.string x3) ∧ w'.cell? ⟨g, q * 4, none⟩ = some (.bool y0) ∧ w'.cell? ⟨g, q * 4 + 1, none⟩ = some (.int .i64 y1) ∧ w'.cell? ⟨g, q * 4 + 2, none⟩ = some (.int .i64 y2) ∧ w'.cell? ⟨g, q * 4 + 3, none⟩ = some (.string y3))) (by kernel_rfl) (KS.out _ HD.out) (fun hHeld => ?_)
                refine wpAnyH_take (i := 0) (oi := ?oa2_0) (v := ?va2_0) ?hia2_0 (by kernel_rfl) (by kernel_rfl) (by kernel_rfl) ?hqa2_0 ?hya2_0 (by assumption) ?ra2_0
                case hia2_0 => (simp only [List.getElem?_toArray, List.getElem?_cons_succ, List.getElem?_cons_zero]; rfl)
                case hqa2_0 => exact fun _ _ _ h => h
                case hya2_0 =>
                  first
                    | (refine Or.inl ⟨by rfl, ?_⟩; intro wq hSw; (try dsimp only at hSw); go_simp; (try with_reducible rfl); done)
                    | (refine Or.inr ⟨by rfl, ?_⟩; with_reducible rfl)
                try simp only [Act.put, List.setIfInBounds_toArray, List.set_cons_zero, List.set_cons_succ]
                refine wpAnyH_take (i := 1) (oi := ?oa2_1) (v := ?va2_1) ?hia2_1 (by kernel_rfl) (by kernel_rfl) (by kernel_rfl) ?hqa2_1 ?hya2_1 (by assumption) ?ra2_1
                case hia2_1 => (simp only [List.getElem?_toArray, List.getElem?_cons_succ, List.getElem?_cons_zero]; rfl)
                case hqa2_1 => exact fun _ _ _ h => h
                case hya2_1 =>
                  first
                    | (refine Or.inl ⟨by rfl, ?_⟩; intro wq hSw; (try dsimp only at hSw); go_simp; (try with_reducible rfl); done)
                    | (refine Or.inr ⟨by rfl, ?_⟩; with_reducible rfl)
                try simp only [Act.put, List.setIfInBounds_toArray, List.set_cons_zero, List.set_cons_succ]
                refine wpAnyH_take (i := 2) (oi := ?oa2_2) (v := ?va2_2) ?hia2_2 (by kernel_rfl) (by kernel_rfl) (by kernel_rfl) ?hqa2_2 ?hya2_2 (by assumption) ?ra2_2
                case hia2_2 => (simp only [List.getElem?_toArray, List.getElem?_cons_succ, List.getElem?_cons_zero]; rfl)
                case hqa2_2 => exact fun _ _ _ h => h
                case hya2_2 =>
                  first
                    | (refine Or.inl ⟨by rfl, ?_⟩; intro wq hSw; (try dsimp only at hSw); go_simp; (try with_reducible rfl); done)
                    | (refine Or.inr ⟨by rfl, ?_⟩; with_reducible rfl)
                try simp only [Act.put, List.setIfInBounds_toArray, List.set_cons_zero, List.set_cons_succ]
                refine wpAnyH_take (i := 3) (oi := ?oa2_3) (v := ?va2_3) ?hia2_3 (by kernel_rfl) (by kernel_rfl) (by kernel_rfl) ?hqa2_3 ?hya2_3 (by assumption) ?ra2_3
                case hia2_3 => (simp only [List.getElem?_toArray, List.getElem?_cons_succ, List.getElem?_cons_zero]; rfl)
                case hqa2_3 => exact fun _ _ _ h => h
                case hya2_3 =>
                  first
                    | (refine Or.inl ⟨by rfl, ?_⟩; intro wq hSw; (try dsimp only at hSw); go_simp; (try with_reducible rfl); done)
                    | (refine Or.inr ⟨by rfl, ?_⟩; with_reducible rfl)
                try simp only [Act.put, List.setIfInBounds_toArray, List.set_cons_zero, List.set_cons_succ]
                refine wpAnyH_take (i := 4) (oi := ?oa2_4) (v := ?va2_4) ?hia2_4 (by kernel_rfl) (by kernel_rfl) (by kernel_rfl) ?hqa2_4 ?hya2_4 (by assumption) ?ra2_4
                case hia2_4 => (simp only [List.getElem?_toArray, List.getElem?_cons_succ, List.getElem?_cons_zero]; rfl)
                case hqa2_4 => exact fun _ _ _ h => h
                case hya2_4 =>
                  first
                    | (refine Or.inl ⟨by rfl, ?_⟩; intro wq hSw; (try dsimp only at hSw); go_simp; (try with_reducible rfl); done)
                    | (refine Or.inr ⟨by rfl, ?_⟩; with_reducible rfl)
                try simp only [Act.put, List.setIfInBounds_toArray, List.set_cons_zero, List.set_cons_succ]
                refine wpAnyH_take (i := 5) (oi := ?oa2_5) (v := ?va2_5) ?hia2_5 (by kernel_rfl) (by kernel_rfl) (by kernel_rfl) ?hqa2_5 ?hya2_5 (by assumption) ?ra2_5
                case hia2_5 => (simp only [List.getElem?_toArray, List.getElem?_cons_succ, List.getElem?_cons_zero]; rfl)
                case hqa2_5 => exact fun _ _ _ h => h
                case hya2_5 =>
                  first
                    | (refine Or.inl ⟨by rfl, ?_⟩; intro wq hSw; (try dsimp only at hSw); go_simp; (try with_reducible rfl); done)
                    | (refine Or.inr ⟨by rfl, ?_⟩; with_reducible rfl)
                try simp only [Act.put, List.setIfInBounds_toArray, List.set_cons_zero, List.set_cons_succ]
                refine wpAnyH_take (i := 6) (oi := ?oa2_6) (v := ?va2_6) ?hia2_6 (by kernel_rfl) (by kernel_rfl) (by kernel_rfl) ?hqa2_6 ?hya2_6 (by assumption) ?ra2_6
                case hia2_6 => (simp only [List.getElem?_toArray, List.getElem?_cons_succ, List.getElem?_cons_zero]; rfl)
                case hqa2_6 => exact fun _ _ _ h => h
                case hya2_6 =>
                  first
                    | (refine Or.inl ⟨by rfl, ?_⟩; intro wq hSw; (try dsimp only at hSw); go_simp; (try with_reducible rfl); done)
                    | (refine Or.inr ⟨by rfl, ?_⟩; with_reducible rfl)
                try simp only [Act.put, List.setIfInBounds_toArray, List.set_cons_zero, List.set_cons_succ]
                refine wpAnyH_take (i := 7) (oi := ?oa2_7) (v := ?va2_7) ?hia2_7 (by kernel_rfl) (by kernel_rfl) (by kernel_rfl) ?hqa2_7 ?hya2_7 (by assumption) ?ra2_7
                case hia2_7 => (simp only [List.getElem?_toArray, List.getElem?_cons_succ, List.getElem?_cons_zero]; rfl)
                case hqa2_7 => exact fun _ _ _ h => h
                case hya2_7 =>
                  first
                    | (refine Or.inl ⟨by rfl, ?_⟩; intro wq hSw; (try dsimp only at hSw); go_simp; (try with_reducible rfl); done)
                    | (refine Or.inr ⟨by rfl, ?_⟩; with_reducible rfl)
                try simp only [Act.put, List.setIfInBounds_toArray, List.set_cons_zero, List.set_cons_succ]
                refine wpAnyH_take (i := 8) (oi := ?oa2_8) (v := ?va2_8) ?hia2_8 (by kernel_rfl) (by kernel_rfl) (by kernel_rfl) ?hqa2_8 ?hya2_8 (by assumption) ?ra2_8
                case hia2_8 => (simp only [List.getElem?_toArray, List.getElem?_cons_succ, List.getElem?_cons_zero]; rfl)
                case hqa2_8 => exact fun _ _ _ h => h
                case hya2_8 =>
                  first
                    | (refine Or.inl ⟨by rfl, ?_⟩; intro wq hSw; (try dsimp only at hSw); go_simp; (try with_reducible rfl); done)
                    | (refine Or.inr ⟨by rfl, ?_⟩; with_reducible rfl)
                try simp only [Act.put, List.setIfInBounds_toArray, List.set_cons_zero, List.set_cons_succ]
                refine wpAnyH_take (i := 9) (oi := ?oa2_9) (v := ?va2_9) ?hia2_9 (by kernel_rfl) (by kernel_rfl) (by kernel_rfl) ?hqa2_9 ?hya2_9 (by assumption) ?ra2_9
                case hia2_9 => (simp only [List.getElem?_toArray, List.getElem?_cons_succ, List.getElem?_cons_zero]; rfl)
                case hqa2_9 => exact fun _ _ _ h => h
                case hya2_9 =>
                  first
                    | (refine Or.inl ⟨by rfl, ?_⟩; intro wq hSw; (try dsimp only at hSw); go_simp; (try with_reducible rfl); done)
                    | (refine Or.inr ⟨by rfl, ?_⟩; with_reducible rfl)
                try simp only [Act.put, List.setIfInBounds_toArray, List.set_cons_zero, List.set_cons_succ]
                refine wpAnyH_take (i := 10) (oi := ?oa2_10) (v := ?va2_10) ?hia2_10 (by kernel_rfl) (by kernel_rfl) (by kernel_rfl) ?hqa2_10 ?hya2_10 (by assumption) ?ra2_10
                case hia2_10 => (simp only [List.getElem?_toArray, List.getElem?_cons_succ, List.getElem?_cons_zero]; rfl)
                case hqa2_10 => exact fun _ _ _ h => h
                case hya2_10 =>
                  first
                    | (refine Or.inl ⟨by rfl, ?_⟩; intro wq hSw; (try dsimp only at hSw); go_simp; (try with_reducible rfl); done)
                    | (refine Or.inr ⟨by rfl, ?_⟩; with_reducible rfl)
                try simp only [Act.put, List.setIfInBounds_toArray, List.set_cons_zero, List.set_cons_succ]
                refine wpAnyH_take (i := 11) (oi := ?oa2_11) (v := ?va2_11) ?hia2_11 (by kernel_rfl) (by kernel_rfl) (by kernel_rfl) ?hqa2_11 ?hya2_11 (by assumption) ?ra2_11
                case hia2_11 => (simp only [List.getElem?_toArray, List.getElem?_cons_succ, List.getElem?_cons_zero]; rfl)
                case hqa2_11 => exact fun _ _ _ h => h
                case hya2_11 =>
                  first
                    | (refine Or.inl ⟨by rfl, ?_⟩; intro wq hSw; (try dsimp only at hSw); go_simp; (try with_reducible rfl); done)
                    | (refine Or.inr ⟨by rfl, ?_⟩; with_reducible rfl)
                try simp only [Act.put, List.setIfInBounds_toArray, List.set_cons_zero, List.set_cons_succ]
                refine wpAnyH_ready (rs := [12]) (by kernel_rfl) (by simp) ?_
                refine AllReadyH.cons (by simp only [List.getElem?_toArray, List.getElem?_cons_succ, List.getElem?_cons_zero]; rfl) (fun K hK => ?_) AllReadyH.nil
                go_simp
                go_at_call 16
                refine (AH.out _).mono ?_
                rintro e wn ⟨rfl, hb⟩
                replace HD := Lib.hid (below_seq HD.out hb)
                clear hb AH
                refine hK.out _ _ (KS.out _ HD.out) (fun hHeld12 => ?_)
                clear hK K hHeld
                try simp only [Act.put, List.setIfInBounds_toArray, List.set_cons_zero, List.set_cons_succ]
                refine wpAnyH_take (i := 13) (oi := ?oa2_13) (v := ?va2_13) ?hia2_13 (by kernel_rfl) (by kernel_rfl) (by kernel_rfl) ?hqa2_13 ?hya2_13 (by assumption) ?ra2_13
                case hia2_13 => (simp only [List.getElem?_toArray, List.getElem?_cons_succ, List.getElem?_cons_zero]; rfl)
                case hqa2_13 => exact fun _ _ _ h => h
                case hya2_13 =>
                  first
                    | (refine Or.inl ⟨by rfl, ?_⟩; intro wq hSw; (try dsimp only at hSw); go_simp; (try with_reducible rfl); done)
                    | (refine Or.inr ⟨by rfl, ?_⟩; with_reducible rfl)
                try simp only [Act.put, List.setIfInBounds_toArray, List.set_cons_zero, List.set_cons_succ]
                refine wpAnyH_done (by kernel_rfl) ?_ _
                have B3 := Lib.hid (below_seq HW.out HD.out)
                go_wp2
                go_roundg q
                case measure => omega
                case rel => exact ⟨q, rfl, by omega, by go_num, Lib.hid (by rw [HP.out, P.out]), B3⟩
        case rest =>
          obtain ⟨p, hpm, rfl, HP, HW⟩ := hcut
          generalize wc = W5 at *
          have RO1 := Lib.hid (Row.of_own (own_below HO.out.1 HW.out))
          have B0 := Lib.hid (below_seq HO.out.2 HW.out)
          have d0 := cell_keep q0 HW.out
          have d1 := cell_keep q1 HW.out
          have d2 := cell_keep q2 HW.out
          have d3 := cell_keep q3 HW.out
          have hpO : p ≤ O.length := by rw [OL.out]; exact hpm
          have HT := Lib.hid (row_tail RO1.out p hpO)
          have HH := Lib.hid (row_head RO1.out p hpO)
          have EI := Lib.hid (show flatG recL (insAll (l.take (m + 1))) = flatG recL (O.take p) ++ (recL r ++ flatG recL (O.drop p)) by
            rw [NX.out]; unfold insR; rw [OL.out, HP.out, flatG_app]; rfl)
          have hdl := Lib.hid (show (flatG recL (O.drop p)).length = (m - p) * 4 by rw [flatG_len recL_len]; simp [OL.out])
          have htl := Lib.hid (show (flatG recL (O.take p)).length = p * 4 by rw [flatG_len recL_len]; simp; omega)
          have hm0 : (0 : Int) ≤ (m : Int) := by omega
          have hm1 : (m : Int) < (l.length : Int) := by omega
          have hp0 : (0 : Int) ≤ (p : Int) := by omega
          have hp1 : (p : Int) ≤ (m : Int) := by omega
          have hcc : p < cp ∨ cp = p := by omega
          obtain ⟨x0, x1, x2, x3⟩ := r
          simp only at d0 d1 d2 d3
          have LO := Lib.hid (lit_rec4 W5 ⟨x0, x1, x2, x3⟩)
          clear HO HW q0 q1 q2 q3 NX HP RO1 hsz
          have h1m : 1 + (m - p) ≤ 65 := by omega
          have HR : Hid (Row W5 (if cp = p then some ⟨g, 0, none⟩ else some ⟨g, p * 4, none⟩) (flatG recL (O.drop p))) := Lib.hid (by
            split
            · left; rw [List.drop_eq_nil_of_le (by rw [OL.out]; omega)]; rfl
            · exact HT.out)
          clear hcc HT
          obtain ⟨A, hA⟩ : ∃ A, (if cp = p then some (⟨g, 0, none⟩ : Addr) else some ⟨g, p * 4, none⟩) = A := ⟨_, rfl⟩
          rw [hA] at HR
          go_upto_region 10 with fail
          go_cut [6] (fun v wx => ∃ (a2 : Option Addr) (c2 : Nat), v = .slice a2 (1 + (m - p)) c2 ∧ Hid (wx.ownsRow W5.heap.size 30 4 (.slice a2 (1 + (m - p)) c2) (1 + (m - p)) (recL ⟨x0, x1, x2, x3⟩ ++ flatG recL (O.drop p)) ∧ Below W5.heap.size W5 wx))
          case first =>
            have LD := Lib.hid (own_below LO.out (belowN 1))
            go_region_law (first
              | (refine step_app_rowS (by rfl) _ _ _ (by rfl) 30 _ 4 40 Try.underlying24 Try.infoRec rfl (by omega) W5.heap.size 1 (.slice (some ⟨W5.heap.size, 0, none⟩) 1 1) (recL ⟨x0, x1, x2, x3⟩) (by rfl) LD.out A (m - p) (cp - p) (flatG recL (O.drop p)) (by rfl) hdl.out (HR.out.below (below_drew (below_box (Below.refl _ W5) _))) (flatG_one recL_one _) (by unfold maxLen; omega) (by omega) (by simp) ?_; intro v2 w2 ho2 hg2))
            all_goals
              obtain ⟨a2, c2, rfl⟩ := own_shape ho2
              have Z := Lib.hid (And.intro ho2 ((below_drew (below_box (Below.refl W5.heap.size W5) _)).grown hg2 (by simp) (fun g hg => (LO.out.lt g hg).1)))
              clear ho2 hg2
              go_wp2_with fail
              go_meet
              exact ⟨a2, c2, rfl, Z⟩
          case rest =>
            obtain ⟨a2, c2, rfl, Z⟩ := hcut
            have RH := Lib.hid ((HH.out.below Z.out.2).below (below_box (Below.refl _ wc) (.cells #[] 30)))
            have ML := Lib.hid (World.ownsRow_made (size := 4) (e := 30) wc #[] 0 (Nat.le_refl wc.heap.size) (by unfold maxLen; omega) rfl)
            clear LO HR HH d0 d1 d2 d3
            go_wp2_with (at_builtin; first
              | (refine wp_app_rowS rfl _ _ 24 rfl 30 _ 4 40 Try.underlying24 Try.infoRec rfl (by omega) wc.heap.size 0 (.slice (some ⟨wc.heap.size, 0, none⟩) 0 0) [] (by rfl) ML.out (some ⟨g, 0, none⟩) p cp (flatG recL (O.take p)) (by rfl) htl.out RH.out (flatG_one recL_one _) (by unfold maxLen; omega) (by omega) (by simp) ?_; intro v3 w3 ho3 hg3; rw [Nat.zero_add, List.nil_append] at ho3; obtain ⟨a3, c3, rfl⟩ := own_shape ho3; have O3 := Lib.hid ho3; have B3 := Lib.hid ((below_box (Below.refl wc.heap.size wc) (.cells #[] 30)).grown hg3 (by simp) (fun g hg => (ML.out.lt g hg).1)); have R3 := Lib.hid (Row.of_own (own_below Z.out.1 B3.out)); clear ho3 hg3 ML)
              | (refine wp_app_rowS rfl _ _ 24 rfl 30 _ 4 40 Try.underlying24 Try.infoRec rfl (by omega) wc.heap.size p (.slice a3 p c3) (flatG recL (O.take p)) (by rfl) O3.out a2 (1 + (m - p)) c2 _ (by rfl) Z.out.1.1 R3.out (fun u hu => (List.mem_append.1 hu).elim (recL_one _ u) (flatG_one recL_one _ u)) (by unfold maxLen; omega) (by omega) B3.out.size ?_; intro v4 w4 ho4 hg4))
            rw [← EI.out, show p + (1 + (m - p)) = m + 1 from by omega] at ho4
            obtain ⟨a4, c4, rfl⟩ := own_shape ho4
            obtain ⟨g4, rfl, _⟩ := own_some ho4 (by omega)
            have hc4 := own_cap ho4
            have FZ := Lib.hid (And.intro (own_base ho4 (show w.heap.size ≤ wc.heap.size from Nat.le_trans B0.out.size Z.out.2.size)) (below_seq (below_seq B0.out Z.out.2) (B3.out.grown hg4 B3.out.size (fun g hg => (O3.out.lt g hg).1))))
            clear ho4 hg4 O3 B3 R3 Z EI B0 RH
            go_wp2
            go_roundg (l.length - (m + 1))
            case measure => omega
            case rel => exact ⟨m + 1, g4, c4, by omega, rfl, by go_num, rfl, hc4, FZ⟩
      · have em : m = l.length := by omega
        subst em
        have e2 : l.take l.length = l := List.take_length
        rw [e2] at HO
        have Z := Lib.hid (RecSOwn.mk (l := insAll l) HO.out.1)
        have B2 := Lib.hid HO.out.2
        clear HO
        go_wp2
        go_ret
        exact ⟨_, rfl, by rw [E.out]; exact Z.out, B2.out⟩
end Go.Proofs.Ytaedamnhobcdlaa
end
