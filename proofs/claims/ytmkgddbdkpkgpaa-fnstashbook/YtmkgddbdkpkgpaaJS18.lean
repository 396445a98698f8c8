/- TnS in one. Written by tools/join2.py. -/
import Derived.Test.YtmkgddbdkpkgpaaJS11
import Derived.Test.YtmkgddbdkpkgpaaJS17
import Derived.Deep.RegionHeld3
import Derived.Deep.DeepCutAuto
import Derived.Deep.LoopGhost
import Derived.IntWalk
section
namespace Go.Proofs.Ytmkgddbdkpkgpaa
open Go.RowKit
set_option linter.unusedVariables false
set_option linter.unusedSimpArgs false
set_option maxRecDepth 100000

theorem specFrame (z v : Int) (w : World) : Calls Try.prog 73 #[.int .i64 z, .int .i64 v] w fun e w' => e = .returned (.bool (frameB z v)) ∧ w = w' := by
  have LG := Lib.hid (fun w => specLog z w)
  unfold frameB
  obtain ⟨q, hq⟩ : ∃ q, logB z = q := ⟨_, rfl⟩
  rw [hq] at LG ⊢
  clear hq
  cases q
  · go_enter Try.func73, Try.ntmps73
    go_wp2_with fail
    refine (LG.out _).mono ?_
    rintro e w1 ⟨rfl, rfl⟩
    go_wp2
    go_ret
    exact ⟨ret_bool (by simp), rfl⟩
  · by_cases h1 : 1 ≤ v
    · by_cases h2 : v ≤ 200
      · go_enter Try.func73, Try.ntmps73
        go_wp2_with fail
        refine (LG.out _).mono ?_
        rintro e w1 ⟨rfl, rfl⟩
        go_wp2
        go_ret
        exact ⟨ret_bool (by simp [h1, h2]), rfl⟩
      · go_enter Try.func73, Try.ntmps73
        go_wp2_with fail
        refine (LG.out _).mono ?_
        rintro e w1 ⟨rfl, rfl⟩
        go_wp2
        go_ret
        exact ⟨ret_bool (by simp; omega), rfl⟩
    · go_enter Try.func73, Try.ntmps73
      go_wp2_with fail
      refine (LG.out _).mono ?_
      rintro e w1 ⟨rfl, rfl⟩
      go_wp2
      go_ret
      exact ⟨ret_bool (by simp; omega), rfl⟩
set_option maxHeartbeats 2000000 in
theorem specBlockOk (m : BlkM) (x : Option Addr) (cap : Nat) (z v : Int) (w : World) (hm : m.data.length ≤ maxLen) : Calls Try.prog 50 #[.agg #[.int .i64 m.id, .int .i64 m.leaf, .slice x m.data.length cap], .int .i64 z, .int .i64 v] w fun e w' => e = .returned (.bool (blockOkB m z v)) ∧ Below w.heap.size w w' := by
  have FR := Lib.hid (fun w => specFrame z v w)
  have LF := Lib.hid (fun w => specLeaf z m.leaf w)
  unfold blockOkB
  unfold maxLen at hm
  obtain ⟨id, leaf, data⟩ := m
  simp only at LF hm ⊢
  obtain ⟨n, hn⟩ : ∃ n, data.length = n := ⟨_, rfl⟩
  rw [hn] at hm ⊢
  clear hn
  have B := Lib.hid (below_box (Below.refl w.heap.size w) (.cells #[.int .i64 id, .int .i64 leaf, .slice x n cap] 26))
  obtain ⟨f, hf⟩ : ∃ f, frameB z v = f := ⟨_, rfl⟩
  rw [hf] at FR ⊢
  clear hf
  obtain ⟨q, hq⟩ : ∃ q, leafB z leaf = q := ⟨_, rfl⟩
  rw [hq] at LF ⊢
  clear hq
  cases f
  · go_enter Try.func50, Try.ntmps50
    go_wp2_with fail
    refine (FR.out _).mono ?_
    rintro e w1 ⟨rfl, rfl⟩
    go_wp2
    go_ret
    exact ⟨ret_bool (by simp), B.out⟩
  by_cases h0 : 0 ≤ id
  · by_cases h1 : id ≤ 255
    · cases q
      · go_enter Try.func50, Try.ntmps50
        go_wp2_with fail
        refine (FR.out _).mono ?_
        rintro e w1 ⟨rfl, rfl⟩
        go_wp2_with fail
        refine (LF.out _).mono ?_
        rintro e w1 ⟨rfl, rfl⟩
        go_wp2
        go_ret
        exact ⟨ret_bool (by simp), B.out⟩
      · go_enter Try.func50, Try.ntmps50
        go_wp2_with fail
        refine (FR.out _).mono ?_
        rintro e w1 ⟨rfl, rfl⟩
        go_wp2_with fail
        refine (LF.out _).mono ?_
        rintro e w1 ⟨rfl, rfl⟩
        go_wp2
        go_ret
        exact ⟨ret_bool (by simp [h0, h1]; first | rfl | (by_cases h : (n : Int) = v <;> simp [h])), B.out⟩
    · go_enter Try.func50, Try.ntmps50
      go_wp2_with fail
      refine (FR.out _).mono ?_
      rintro e w1 ⟨rfl, rfl⟩
      go_wp2
      go_ret
      exact ⟨ret_bool (by simp; omega), B.out⟩
  · go_enter Try.func50, Try.ntmps50
    go_wp2_with fail
    refine (FR.out _).mono ?_
    rintro e w1 ⟨rfl, rfl⟩
    go_wp2
    go_ret
    exact ⟨ret_bool (by simp; omega), B.out⟩
theorem uSpecBlockOk (c0 c1 c2 : Value) (m : BlkM) (z v : Int) (w : World) (h : BlockIn [c0, c1, c2] m w) : Calls Try.prog 50 #[.agg #[c0, c1, c2], .int .i64 z, .int .i64 v] w fun e w' => e = .returned (.bool (blockOkB m z v)) ∧ Below w.heap.size w w' := by
  obtain ⟨a, cap, rfl, rfl, rfl, _, hm, _⟩ := blockIn_cells h
  exact specBlockOk m a cap z v w hm
set_option maxHeartbeats 8000000 in
theorem uSpecBlocksOk (c : Value) (l : List BlkM) (z v : Int) (w : World) (h : BlockSIn [c] l w) : Calls Try.prog 57 #[c, .int .i64 z, .int .i64 v] w fun e w' => e = .returned (.bool (blocksOkB l z v)) ∧ Below w.heap.size w w' := by
  have FR := Lib.hid (fun w => specFrame z v w)
  obtain ⟨a, cap, es, rfl, g1, g2, g3, r1, r2, r3⟩ := blockSIn_shape h
  have L := Lib.hid (fun w' (hb : Below w.heap.size w w') => (blockS_rdg.below h hb : BlockSIn [.slice a l.length cap] l w'))
  unfold maxLen at g2
  clear h r1 r2 r3 g1 g3
  cases hf : frameB z v
  · have E := Lib.hid (show blocksOkB l z v = false by unfold blocksOkB; rw [hf]; rfl)
    rw [hf] at FR
    clear hf
    go_enter Try.func57, Try.ntmps57
    go_wp2_with fail
    refine (FR.out _).mono ?_
    rintro e w1 ⟨rfl, rfl⟩
    go_wp2
    go_ret
    exact ⟨ret_bool E.out.symm, Below.refl _ _⟩
  rw [hf] at FR
  have HF := Lib.hid hf
  clear hf
  go_enter Try.func57, Try.ntmps57
  go_wp2_with fail
  refine (FR.out _).mono ?_
  rintro e w1 ⟨rfl, rfl⟩
  clear FR
  go_wp2_with fail
  go_loopg [7] l.length (fun kk iv wr => ∃ i : Nat, i ≤ l.length ∧ l.length - i = kk ∧ iv = .int .i64 i ∧ Hid (∀ j, j < i → goodB l z v j = true) ∧ Hid (Below w.heap.size w wr))
  case atStart => exact ⟨0, Nat.zero_le _, rfl, rfl, Lib.hid (fun j hj => absurd hj (Nat.not_lt_zero j)), Lib.hid (Below.refl _ _)⟩
  case round =>
    obtain ⟨i, hi, hik, rfl, HG, HB⟩ := hrel
    by_cases hlt : i < l.length
    · obtain ⟨a', cap', es', e, u1, u2, u3, r1, r2, r3⟩ := blockSIn_shape (L.out wr HB.out)
      simp at e
      obtain ⟨rfl, rfl⟩ := e
      clear u1 u2 u3
      obtain ⟨b1, o1, x2, x4, rfl, q0, q1, q2, hy⟩ := r1.blk r3 r2 hlt
      have hdm : l[i].data.length ≤ maxLen := by obtain ⟨_, _, _, _, _, _, hm, _⟩ := blockIn_cells hy; exact hm
      have BO := Lib.hid (fun w' (hb : Below wr.heap.size wr w') => specBlockOk l[i] x2 x4 z v w' hdm)
      have GE := Lib.hid (show goodB l z v i = (blockOkB l[i] z v && (decide (i = 0) || decide ((atB l (i - 1)).id < l[i].id))) by unfold goodB; rw [atB_get hlt])
      have NX := Lib.hid (fun hg : goodB l z v i = true => show ∀ j, j < i + 1 → goodB l z v j = true from fun j hj => by
        rcases Nat.lt_or_ge j i with h | h
        · exact HG.out j h
        · have : j = i := by omega
          subst this; exact hg)
      have BAD := Lib.hid (fun hg : goodB l z v i = false => blocksOkB_bad hlt hg)
      obtain ⟨x3, hx3⟩ : ∃ x3, l[i].data.length = x3 := ⟨_, rfl⟩
      obtain ⟨x0, hx0⟩ : ∃ x0, l[i].id = x0 := ⟨_, rfl⟩
      obtain ⟨x1, hx1⟩ : ∃ x1, l[i].leaf = x1 := ⟨_, rfl⟩
      obtain ⟨ok, hok⟩ : ∃ ok, blockOkB l[i] z v = ok := ⟨_, rfl⟩
      rw [hx0, hx1, hx3, hok] at BO
      rw [hx0] at q0 GE
      rw [hx1] at q1
      rw [hx3] at q2
      rw [hok] at GE
      have hi0 : (0 : Int) ≤ (i : Int) := by omega
      have hi1 : (i : Int) < (l.length : Int) := by omega
      have HD := Lib.hid (below_drew (Below.refl wr.heap.size wr))
      cases ok
      · have hbad := BAD.out (by rw [GE.out]; rfl)
        have E := Lib.hid hbad
        have KS := Lib.hid (fun w' (hb : Below wr.heap.size wr w') => (show w'.cell? ⟨b1, o1 + i * 3, none⟩ = some (.int .i64 x0) ∧ w'.cell? ⟨b1, o1 + i * 3 + 1, none⟩ = some (.int .i64 x1) ∧ w'.cell? ⟨b1, o1 + i * 3 + 2, none⟩ = some (.slice x2 x3 x4) from ⟨cell_keep q0 hb, cell_keep q1 hb, cell_keep q2 hb⟩))
        clear hy r1 r2 r3 q0 q1 q2 hbad BAD NX GE hx0 hx1 hx3 hok hdm
        go_upto_region 6 with fail
        refine wp_region_held_drew (S := (fun w' => w'.cell? ⟨b1, o1 + i * 3, none⟩ = some (.int .i64 x0) ∧ w'.cell? ⟨b1, o1 + i * 3 + 1, none⟩ = some (.int .i64 x1) ∧ w'.cell? ⟨b1, o1 + i * 3 + 2, none⟩ = some (.slice x2 x3 x4))) (by kernel_rfl) (KS.out _ HD.out) (fun hHeld => ?_)
        refine wpAnyH_take (i := 0) (oi := ?oa_0) (v := ?va_0) ?hia_0 (by kernel_rfl) (by kernel_rfl) (by kernel_rfl) ?hqa_0 ?hya_0 (by assumption) ?ra_0
        case hia_0 => (simp only [List.getElem?_toArray, List.getElem?_cons_succ, List.getElem?_cons_zero]; rfl)
        case hqa_0 => exact fun _ _ _ h => h
        case hya_0 =>
          first
            | (refine Or.inl ⟨by rfl, ?_⟩; intro wq hSw; (try dsimp only at hSw); go_simp; (try with_reducible rfl); done)
            | (refine Or.inr ⟨by rfl, ?_⟩; with_reducible rfl)
        try simp only [Act.put, List.setIfInBounds_toArray, List.set_cons_zero, List.set_cons_succ]
        refine wpAnyH_take (i := 1) (oi := ?oa_1) (v := ?va_1) ?hia_1 (by kernel_rfl) (by kernel_rfl) (by kernel_rfl) ?hqa_1 ?hya_1 (by assumption) ?ra_1
        case hia_1 => (simp only [List.getElem?_toArray, List.getElem?_cons_succ, List.getElem?_cons_zero]; rfl)
        case hqa_1 => exact fun _ _ _ h => h
        case hya_1 =>
          first
            | (refine Or.inl ⟨by rfl, ?_⟩; intro wq hSw; (try dsimp only at hSw); go_simp; (try with_reducible rfl); done)
            | (refine Or.inr ⟨by rfl, ?_⟩; with_reducible rfl)
        try simp only [Act.put, List.setIfInBounds_toArray, List.set_cons_zero, List.set_cons_succ]
        refine wpAnyH_take (i := 2) (oi := ?oa_2) (v := ?va_2) ?hia_2 (by kernel_rfl) (by kernel_rfl) (by kernel_rfl) ?hqa_2 ?hya_2 (by assumption) ?ra_2
        case hia_2 => (simp only [List.getElem?_toArray, List.getElem?_cons_succ, List.getElem?_cons_zero]; rfl)
        case hqa_2 => exact fun _ _ _ h => h
        case hya_2 =>
          first
            | (refine Or.inl ⟨by rfl, ?_⟩; intro wq hSw; (try dsimp only at hSw); go_simp; (try with_reducible rfl); done)
            | (refine Or.inr ⟨by rfl, ?_⟩; with_reducible rfl)
        try simp only [Act.put, List.setIfInBounds_toArray, List.set_cons_zero, List.set_cons_succ]
        refine wpAnyH_take (i := 3) (oi := ?oa_3) (v := ?va_3) ?hia_3 (by kernel_rfl) (by kernel_rfl) (by kernel_rfl) ?hqa_3 ?hya_3 (by assumption) ?ra_3
        case hia_3 => (simp only [List.getElem?_toArray, List.getElem?_cons_succ, List.getElem?_cons_zero]; rfl)
        case hqa_3 => exact fun _ _ _ h => h
        case hya_3 =>
          first
            | (refine Or.inl ⟨by rfl, ?_⟩; intro wq hSw; (try dsimp only at hSw); go_simp; (try with_reducible rfl); done)
            | (refine Or.inr ⟨by rfl, ?_⟩; with_reducible rfl)
        try simp only [Act.put, List.setIfInBounds_toArray, List.set_cons_zero, List.set_cons_succ]
        refine wpAnyH_take (i := 4) (oi := ?oa_4) (v := ?va_4) ?hia_4 (by kernel_rfl) (by kernel_rfl) (by kernel_rfl) ?hqa_4 ?hya_4 (by assumption) ?ra_4
        case hia_4 => (simp only [List.getElem?_toArray, List.getElem?_cons_succ, List.getElem?_cons_zero]; rfl)
        case hqa_4 => exact fun _ _ _ h => h
        case hya_4 =>
          first
            | (refine Or.inl ⟨by rfl, ?_⟩; intro wq hSw; (try dsimp only at hSw); go_simp; (try with_reducible rfl); done)
            | (refine Or.inr ⟨by rfl, ?_⟩; with_reducible rfl)
        try simp only [Act.put, List.setIfInBounds_toArray, List.set_cons_zero, List.set_cons_succ]
        refine wpAnyH_take (i := 5) (oi := ?oa_5) (v := ?va_5) ?hia_5 (by kernel_rfl) (by kernel_rfl) (by kernel_rfl) ?hqa_5 ?hya_5 (by assumption) ?ra_5
        case hia_5 => (simp only [List.getElem?_toArray, List.getElem?_cons_succ, List.getElem?_cons_zero]; rfl)
        case hqa_5 => exact fun _ _ _ h => h
        case hya_5 =>
          first
            | (refine Or.inl ⟨by rfl, ?_⟩; intro wq hSw; (try dsimp only at hSw); go_simp; (try with_reducible rfl); done)
            | (refine Or.inr ⟨by rfl, ?_⟩; with_reducible rfl)
        try simp only [Act.put, List.setIfInBounds_toArray, List.set_cons_zero, List.set_cons_succ]
        refine wpAnyH_ready (rs := [6]) (by kernel_rfl) (by simp) ?_
        refine AllReadyH.cons (by simp only [List.getElem?_toArray, List.getElem?_cons_succ, List.getElem?_cons_zero]; rfl) (fun K hK => ?_) AllReadyH.nil
        go_simp
        go_at_call 50
        refine (BO.out _ HD.out).mono ?_
        rintro e wn ⟨rfl, hb⟩
        replace HD := Lib.hid (below_seq HD.out hb)
        clear hb
        refine hK.out _ _ (KS.out _ HD.out) (fun hHeld6 => ?_)
        clear hK K hHeld
        try simp only [Act.put, List.setIfInBounds_toArray, List.set_cons_zero, List.set_cons_succ]
        refine wpAnyH_take (i := 7) (oi := ?oa_7) (v := ?va_7) ?hia_7 (by kernel_rfl) (by kernel_rfl) (by kernel_rfl) ?hqa_7 ?hya_7 (by assumption) ?ra_7
        case hia_7 => (simp only [List.getElem?_toArray, List.getElem?_cons_succ, List.getElem?_cons_zero]; rfl)
        case hqa_7 => exact fun _ _ _ h => h
        case hya_7 =>
          first
            | (refine Or.inl ⟨by rfl, ?_⟩; intro wq hSw; (try dsimp only at hSw); go_simp; (try with_reducible rfl); done)
            | (refine Or.inr ⟨by rfl, ?_⟩; with_reducible rfl)
        try simp only [Act.put, List.setIfInBounds_toArray, List.set_cons_zero, List.set_cons_succ]
        refine wpAnyH_take (i := 8) (oi := ?oa_8) (v := ?va_8) ?hia_8 (by kernel_rfl) (by kernel_rfl) (by kernel_rfl) ?hqa_8 ?hya_8 (by assumption) ?ra_8
        case hia_8 => (simp only [List.getElem?_toArray, List.getElem?_cons_succ, List.getElem?_cons_zero]; rfl)
        case hqa_8 => exact fun _ _ _ h => h
        case hya_8 =>
          first
            | (refine Or.inl ⟨by rfl, ?_⟩; intro wq hSw; (try dsimp only at hSw); go_simp; (try with_reducible rfl); done)
            | (refine Or.inr ⟨by rfl, ?_⟩; with_reducible rfl)
        try simp only [Act.put, List.setIfInBounds_toArray, List.set_cons_zero, List.set_cons_succ]
        refine wpAnyH_take (i := 9) (oi := ?oa_9) (v := ?va_9) ?hia_9 (by kernel_rfl) (by kernel_rfl) (by kernel_rfl) ?hqa_9 ?hya_9 (by assumption) ?ra_9
        case hia_9 => (simp only [List.getElem?_toArray, List.getElem?_cons_succ, List.getElem?_cons_zero]; rfl)
        case hqa_9 => exact fun _ _ _ h => h
        case hya_9 =>
          first
            | (refine Or.inl ⟨by rfl, ?_⟩; intro wq hSw; (try dsimp only at hSw); go_simp; (try with_reducible rfl); done)
            | (refine Or.inr ⟨by rfl, ?_⟩; with_reducible rfl)
        try simp only [Act.put, List.setIfInBounds_toArray, List.set_cons_zero, List.set_cons_succ]
        refine wpAnyH_take (i := 10) (oi := ?oa_10) (v := ?va_10) ?hia_10 (by kernel_rfl) (by kernel_rfl) (by kernel_rfl) ?hqa_10 ?hya_10 (by assumption) ?ra_10
        case hia_10 => (simp only [List.getElem?_toArray, List.getElem?_cons_succ, List.getElem?_cons_zero]; rfl)
        case hqa_10 => exact fun _ _ _ h => h
        case hya_10 =>
          first
            | (refine Or.inl ⟨by rfl, ?_⟩; intro wq hSw; (try dsimp only at hSw); go_simp; (try with_reducible rfl); done)
            | (refine Or.inr ⟨by rfl, ?_⟩; with_reducible rfl)
        try simp only [Act.put, List.setIfInBounds_toArray, List.set_cons_zero, List.set_cons_succ]
        refine wpAnyH_take (i := 11) (oi := ?oa_11) (v := ?va_11) ?hia_11 (by kernel_rfl) (by kernel_rfl) (by kernel_rfl) ?hqa_11 ?hya_11 (by assumption) ?ra_11
        case hia_11 => (simp only [List.getElem?_toArray, List.getElem?_cons_succ, List.getElem?_cons_zero]; rfl)
        case hqa_11 => exact fun _ _ _ h => h
        case hya_11 =>
          first
            | (refine Or.inl ⟨by rfl, ?_⟩; intro wq hSw; (try dsimp only at hSw); go_simp; (try with_reducible rfl); done)
            | (refine Or.inr ⟨by rfl, ?_⟩; with_reducible rfl)
        try simp only [Act.put, List.setIfInBounds_toArray, List.set_cons_zero, List.set_cons_succ]
        refine wpAnyH_take (i := 12) (oi := ?oa_12) (v := ?va_12) ?hia_12 (by kernel_rfl) (by kernel_rfl) (by kernel_rfl) ?hqa_12 ?hya_12 (by assumption) ?ra_12
        case hia_12 => (simp only [List.getElem?_toArray, List.getElem?_cons_succ, List.getElem?_cons_zero]; rfl)
        case hqa_12 => exact fun _ _ _ h => h
        case hya_12 =>
          first
            | (refine Or.inl ⟨by rfl, ?_⟩; intro wq hSw; (try dsimp only at hSw); go_simp; (try with_reducible rfl); done)
            | (refine Or.inr ⟨by rfl, ?_⟩; with_reducible rfl)
        try simp only [Act.put, List.setIfInBounds_toArray, List.set_cons_zero, List.set_cons_succ]
        refine wpAnyH_take (i := 13) (oi := ?oa_13) (v := ?va_13) ?hia_13 (by kernel_rfl) (by kernel_rfl) (by kernel_rfl) ?hqa_13 ?hya_13 (by assumption) ?ra_13
        case hia_13 => (simp only [List.getElem?_toArray, List.getElem?_cons_succ, List.getElem?_cons_zero]; rfl)
        case hqa_13 => exact fun _ _ _ h => h
        case hya_13 =>
          first
            | (refine Or.inl ⟨by rfl, ?_⟩; intro wq hSw; (try dsimp only at hSw); go_simp; (try with_reducible rfl); done)
            | (refine Or.inr ⟨by rfl, ?_⟩; with_reducible rfl)
        try simp only [Act.put, List.setIfInBounds_toArray, List.set_cons_zero, List.set_cons_succ]
        refine wpAnyH_take (i := 14) (oi := ?oa_14) (v := ?va_14) ?hia_14 (by kernel_rfl) (by kernel_rfl) (by kernel_rfl) ?hqa_14 ?hya_14 (by assumption) ?ra_14
        case hia_14 => (simp only [List.getElem?_toArray, List.getElem?_cons_succ, List.getElem?_cons_zero]; rfl)
        case hqa_14 => exact fun _ _ _ h => h
        case hya_14 =>
          first
            | (refine Or.inl ⟨by rfl, ?_⟩; intro wq hSw; (try dsimp only at hSw); go_simp; (try with_reducible rfl); done)
            | (refine Or.inr ⟨by rfl, ?_⟩; with_reducible rfl)
        try simp only [Act.put, List.setIfInBounds_toArray, List.set_cons_zero, List.set_cons_succ]
        refine wpAnyH_take (i := 15) (oi := ?oa_15) (v := ?va_15) ?hia_15 (by kernel_rfl) (by kernel_rfl) (by kernel_rfl) ?hqa_15 ?hya_15 (by assumption) ?ra_15
        case hia_15 => (simp only [List.getElem?_toArray, List.getElem?_cons_succ, List.getElem?_cons_zero]; rfl)
        case hqa_15 => exact fun _ _ _ h => h
        case hya_15 =>
          first
            | (refine Or.inl ⟨by rfl, ?_⟩; intro wq hSw; (try dsimp only at hSw); go_simp; (try with_reducible rfl); done)
            | (refine Or.inr ⟨by rfl, ?_⟩; with_reducible rfl)
        try simp only [Act.put, List.setIfInBounds_toArray, List.set_cons_zero, List.set_cons_succ]
        refine wpAnyH_take (i := 16) (oi := ?oa_16) (v := ?va_16) ?hia_16 (by kernel_rfl) (by kernel_rfl) (by kernel_rfl) ?hqa_16 ?hya_16 (by assumption) ?ra_16
        case hia_16 => (simp only [List.getElem?_toArray, List.getElem?_cons_succ, List.getElem?_cons_zero]; rfl)
        case hqa_16 => exact fun _ _ _ h => h
        case hya_16 =>
          first
            | (refine Or.inl ⟨by rfl, ?_⟩; intro wq hSw; (try dsimp only at hSw); go_simp; (try with_reducible rfl); done)
            | (refine Or.inr ⟨by rfl, ?_⟩; with_reducible rfl)
        try simp only [Act.put, List.setIfInBounds_toArray, List.set_cons_zero, List.set_cons_succ]
        refine wpAnyH_take (i := 17) (oi := ?oa_17) (v := ?va_17) ?hia_17 (by kernel_rfl) (by kernel_rfl) (by kernel_rfl) ?hqa_17 ?hya_17 (by assumption) ?ra_17
        case hia_17 => (simp only [List.getElem?_toArray, List.getElem?_cons_succ, List.getElem?_cons_zero]; rfl)
        case hqa_17 => exact fun _ _ _ h => h
        case hya_17 =>
          first
            | (refine Or.inl ⟨by rfl, ?_⟩; intro wq hSw; (try dsimp only at hSw); go_simp; (try with_reducible rfl); done)
            | (refine Or.inr ⟨by rfl, ?_⟩; with_reducible rfl)
        try simp only [Act.put, List.setIfInBounds_toArray, List.set_cons_zero, List.set_cons_succ]
        refine wpAnyH_take (i := 18) (oi := ?oa_18) (v := ?va_18) ?hia_18 (by kernel_rfl) (by kernel_rfl) (by kernel_rfl) ?hqa_18 ?hya_18 (by assumption) ?ra_18
        case hia_18 => (simp only [List.getElem?_toArray, List.getElem?_cons_succ, List.getElem?_cons_zero]; rfl)
        case hqa_18 => exact fun _ _ _ h => h
        case hya_18 =>
          first
            | (refine Or.inl ⟨by rfl, ?_⟩; intro wq hSw; (try dsimp only at hSw); go_simp; (try with_reducible rfl); done)
            | (refine Or.inr ⟨by rfl, ?_⟩; with_reducible rfl)
        try simp only [Act.put, List.setIfInBounds_toArray, List.set_cons_zero, List.set_cons_succ]
        refine wpAnyH_take (i := 19) (oi := ?oa_19) (v := ?va_19) ?hia_19 (by kernel_rfl) (by kernel_rfl) (by kernel_rfl) ?hqa_19 ?hya_19 (by assumption) ?ra_19
        case hia_19 => (simp only [List.getElem?_toArray, List.getElem?_cons_succ, List.getElem?_cons_zero]; rfl)
        case hqa_19 => exact fun _ _ _ h => h
        case hya_19 =>
          first
            | (refine Or.inl ⟨by rfl, ?_⟩; intro wq hSw; (try dsimp only at hSw); go_simp; (try with_reducible rfl); done)
            | (refine Or.inr ⟨by rfl, ?_⟩; with_reducible rfl)
        try simp only [Act.put, List.setIfInBounds_toArray, List.set_cons_zero, List.set_cons_succ]
        refine wpAnyH_take (i := 20) (oi := ?oa_20) (v := ?va_20) ?hia_20 (by kernel_rfl) (by kernel_rfl) (by kernel_rfl) ?hqa_20 ?hya_20 (by assumption) ?ra_20
        case hia_20 => (simp only [List.getElem?_toArray, List.getElem?_cons_succ, List.getElem?_cons_zero]; rfl)
        case hqa_20 => exact fun _ _ _ h => h
        case hya_20 =>
          first
            | (refine Or.inl ⟨by rfl, ?_⟩; intro wq hSw; (try dsimp only at hSw); go_simp; (try with_reducible rfl); done)
            | (refine Or.inr ⟨by rfl, ?_⟩; with_reducible rfl)
        try simp only [Act.put, List.setIfInBounds_toArray, List.set_cons_zero, List.set_cons_succ]
        refine wpAnyH_take (i := 21) (oi := ?oa_21) (v := ?va_21) ?hia_21 (by kernel_rfl) (by kernel_rfl) (by kernel_rfl) ?hqa_21 ?hya_21 (by assumption) ?ra_21
        case hia_21 => (simp only [List.getElem?_toArray, List.getElem?_cons_succ, List.getElem?_cons_zero]; rfl)
        case hqa_21 => exact fun _ _ _ h => h
        case hya_21 =>
          first
            | (refine Or.inl ⟨by rfl, ?_⟩; intro wq hSw; (try dsimp only at hSw); go_simp; (try with_reducible rfl); done)
            | (refine Or.inr ⟨by rfl, ?_⟩; with_reducible rfl)
        try simp only [Act.put, List.setIfInBounds_toArray, List.set_cons_zero, List.set_cons_succ]
        refine wpAnyH_take (i := 22) (oi := ?oa_22) (v := ?va_22) ?hia_22 (by kernel_rfl) (by kernel_rfl) (by kernel_rfl) ?hqa_22 ?hya_22 (by assumption) ?ra_22
        case hia_22 => (simp only [List.getElem?_toArray, List.getElem?_cons_succ, List.getElem?_cons_zero]; rfl)
        case hqa_22 => exact fun _ _ _ h => h
        case hya_22 =>
          first
            | (refine Or.inl ⟨by rfl, ?_⟩; intro wq hSw; (try dsimp only at hSw); go_simp; (try with_reducible rfl); done)
            | (refine Or.inr ⟨by rfl, ?_⟩; with_reducible rfl)
        try simp only [Act.put, List.setIfInBounds_toArray, List.set_cons_zero, List.set_cons_succ]
        refine wpAnyH_take (i := 23) (oi := ?oa_23) (v := ?va_23) ?hia_23 (by kernel_rfl) (by kernel_rfl) (by kernel_rfl) ?hqa_23 ?hya_23 (by assumption) ?ra_23
        case hia_23 => (simp only [List.getElem?_toArray, List.getElem?_cons_succ, List.getElem?_cons_zero]; rfl)
        case hqa_23 => exact fun _ _ _ h => h
        case hya_23 =>
          first
            | (refine Or.inl ⟨by rfl, ?_⟩; intro wq hSw; (try dsimp only at hSw); go_simp; (try with_reducible rfl); done)
            | (refine Or.inr ⟨by rfl, ?_⟩; with_reducible rfl)
        try simp only [Act.put, List.setIfInBounds_toArray, List.set_cons_zero, List.set_cons_succ]
        refine wpAnyH_take (i := 24) (oi := ?oa_24) (v := ?va_24) ?hia_24 (by kernel_rfl) (by kernel_rfl) (by kernel_rfl) ?hqa_24 ?hya_24 (by assumption) ?ra_24
        case hia_24 => (simp only [List.getElem?_toArray, List.getElem?_cons_succ, List.getElem?_cons_zero]; rfl)
        case hqa_24 => exact fun _ _ _ h => h
        case hya_24 =>
          first
            | (refine Or.inl ⟨by rfl, ?_⟩; intro wq hSw; (try dsimp only at hSw); go_simp; (try with_reducible rfl); done)
            | (refine Or.inr ⟨by rfl, ?_⟩; with_reducible rfl)
        try simp only [Act.put, List.setIfInBounds_toArray, List.set_cons_zero, List.set_cons_succ]
        refine wpAnyH_take (i := 25) (oi := ?oa_25) (v := ?va_25) ?hia_25 (by kernel_rfl) (by kernel_rfl) (by kernel_rfl) ?hqa_25 ?hya_25 (by assumption) ?ra_25
        case hia_25 => (simp only [List.getElem?_toArray, List.getElem?_cons_succ, List.getElem?_cons_zero]; rfl)
        case hqa_25 => exact fun _ _ _ h => h
        case hya_25 =>
          first
            | (refine Or.inl ⟨by rfl, ?_⟩; intro wq hSw; (try dsimp only at hSw); go_simp; (try with_reducible rfl); done)
            | (refine Or.inr ⟨by rfl, ?_⟩; with_reducible rfl)
        try simp only [Act.put, List.setIfInBounds_toArray, List.set_cons_zero, List.set_cons_succ]
        refine wpAnyH_done (by kernel_rfl) ?_ _
        have B6 := Lib.hid (below_seq HB.out HD.out)
        clear KS HD BO
        go_wp2
        go_ret
        exact ⟨ret_bool E.out.symm, B6.out⟩
      · rcases Nat.eq_zero_or_pos i with h0 | h0
        · have hg := NX.out (by rw [GE.out, decide_eq_true h0]; rfl)
          have G2 := Lib.hid hg
          have KS := Lib.hid (fun w' (hb : Below wr.heap.size wr w') => (show w'.cell? ⟨b1, o1 + i * 3, none⟩ = some (.int .i64 x0) ∧ w'.cell? ⟨b1, o1 + i * 3 + 1, none⟩ = some (.int .i64 x1) ∧ w'.cell? ⟨b1, o1 + i * 3 + 2, none⟩ = some (.slice x2 x3 x4) from ⟨cell_keep q0 hb, cell_keep q1 hb, cell_keep q2 hb⟩))
          have hkz : ¬ (0 : Int) < (i : Int) := by omega
          have hkd : decide ((0 : Int) < (i : Int)) = false := by simp; omega
          have hkn : ¬ 0 < i := by omega
          have hkd2 : decide (0 < i) = false := by simp; omega
          clear hy r1 r2 r3 q0 q1 q2 hg BAD NX GE hx0 hx1 hx3 hok hdm h0
          go_upto_region 6 with fail
          refine wp_region_held_drew (S := (fun w' => w'.cell? ⟨b1, o1 + i * 3, none⟩ = some (.int .i64 x0) ∧ w'.cell? ⟨b1, o1 + i * 3 + 1, none⟩ = some (.int .i64 x1) ∧ w'.cell? ⟨b1, o1 + i * 3 + 2, none⟩ = some (.slice x2 x3 x4))) (by kernel_rfl) (KS.out _ HD.out) (fun hHeld => ?_)
          refine wpAnyH_take (i := 0) (oi := ?ob_0) (v := ?vb_0) ?hib_0 (by kernel_rfl) (by kernel_rfl) (by kernel_rfl) ?hqb_0 ?hyb_0 (by assumption) ?rb_0
          case hib_0 => (simp only [List.getElem?_toArray, List.getElem?_cons_succ, List.getElem?_cons_zero]; rfl)
          case hqb_0 => exact fun _ _ _ h => h
          case hyb_0 =>
            first
              | (refine Or.inl ⟨by rfl, ?_⟩; intro wq hSw; (try dsimp only at hSw); go_simp; (try with_reducible rfl); done)
              | (refine Or.inr ⟨by rfl, ?_⟩; with_reducible rfl)
          try simp only [Act.put, List.setIfInBounds_toArray, List.set_cons_zero, List.set_cons_succ]
          refine wpAnyH_take (i := 1) (oi := ?ob_1) (v := ?vb_1) ?hib_1 (by kernel_rfl) (by kernel_rfl) (by kernel_rfl) ?hqb_1 ?hyb_1 (by assumption) ?rb_1
          case hib_1 => (simp only [List.getElem?_toArray, List.getElem?_cons_succ, List.getElem?_cons_zero]; rfl)
          case hqb_1 => exact fun _ _ _ h => h
          case hyb_1 =>
            first
              | (refine Or.inl ⟨by rfl, ?_⟩; intro wq hSw; (try dsimp only at hSw); go_simp; (try with_reducible rfl); done)
              | (refine Or.inr ⟨by rfl, ?_⟩; with_reducible rfl)
          try simp only [Act.put, List.setIfInBounds_toArray, List.set_cons_zero, List.set_cons_succ]
          refine wpAnyH_take (i := 2) (oi := ?ob_2) (v := ?vb_2) ?hib_2 (by kernel_rfl) (by kernel_rfl) (by kernel_rfl) ?hqb_2 ?hyb_2 (by assumption) ?rb_2
          case hib_2 => (simp only [List.getElem?_toArray, List.getElem?_cons_succ, List.getElem?_cons_zero]; rfl)
          case hqb_2 => exact fun _ _ _ h => h
          case hyb_2 =>
            first
              | (refine Or.inl ⟨by rfl, ?_⟩; intro wq hSw; (try dsimp only at hSw); go_simp; (try with_reducible rfl); done)
              | (refine Or.inr ⟨by rfl, ?_⟩; with_reducible rfl)
          try simp only [Act.put, List.setIfInBounds_toArray, List.set_cons_zero, List.set_cons_succ]
          refine wpAnyH_take (i := 3) (oi := ?ob_3) (v := ?vb_3) ?hib_3 (by kernel_rfl) (by kernel_rfl) (by kernel_rfl) ?hqb_3 ?hyb_3 (by assumption) ?rb_3
          case hib_3 => (simp only [List.getElem?_toArray, List.getElem?_cons_succ, List.getElem?_cons_zero]; rfl)
          case hqb_3 => exact fun _ _ _ h => h
          case hyb_3 =>
            first
              | (refine Or.inl ⟨by rfl, ?_⟩; intro wq hSw; (try dsimp only at hSw); go_simp; (try with_reducible rfl); done)
              | (refine Or.inr ⟨by rfl, ?_⟩; with_reducible rfl)
          try simp only [Act.put, List.setIfInBounds_toArray, List.set_cons_zero, List.set_cons_succ]
          refine wpAnyH_take (i := 4) (oi := ?ob_4) (v := ?vb_4) ?hib_4 (by kernel_rfl) (by kernel_rfl) (by kernel_rfl) ?hqb_4 ?hyb_4 (by assumption) ?rb_4
          case hib_4 => (simp only [List.getElem?_toArray, List.getElem?_cons_succ, List.getElem?_cons_zero]; rfl)
          case hqb_4 => exact fun _ _ _ h => h
          case hyb_4 =>
            first
              | (refine Or.inl ⟨by rfl, ?_⟩; intro wq hSw; (try dsimp only at hSw); go_simp; (try with_reducible rfl); done)
              | (refine Or.inr ⟨by rfl, ?_⟩; with_reducible rfl)
          try simp only [Act.put, List.setIfInBounds_toArray, List.set_cons_zero, List.set_cons_succ]
          refine wpAnyH_take (i := 5) (oi := ?ob_5) (v := ?vb_5) ?hib_5 (by kernel_rfl) (by kernel_rfl) (by kernel_rfl) ?hqb_5 ?hyb_5 (by assumption) ?rb_5
          case hib_5 => (simp only [List.getElem?_toArray, List.getElem?_cons_succ, List.getElem?_cons_zero]; rfl)
          case hqb_5 => exact fun _ _ _ h => h
          case hyb_5 =>
            first
              | (refine Or.inl ⟨by rfl, ?_⟩; intro wq hSw; (try dsimp only at hSw); go_simp; (try with_reducible rfl); done)
              | (refine Or.inr ⟨by rfl, ?_⟩; with_reducible rfl)
          try simp only [Act.put, List.setIfInBounds_toArray, List.set_cons_zero, List.set_cons_succ]
          refine wpAnyH_ready (rs := [6]) (by kernel_rfl) (by simp) ?_
          refine AllReadyH.cons (by simp only [List.getElem?_toArray, List.getElem?_cons_succ, List.getElem?_cons_zero]; rfl) (fun K hK => ?_) AllReadyH.nil
          go_simp
          go_at_call 50
          refine (BO.out _ HD.out).mono ?_
          rintro e wn ⟨rfl, hb⟩
          replace HD := Lib.hid (below_seq HD.out hb)
          clear hb
          refine hK.out _ _ (KS.out _ HD.out) (fun hHeld6 => ?_)
          clear hK K hHeld
          try simp only [Act.put, List.setIfInBounds_toArray, List.set_cons_zero, List.set_cons_succ]
          refine wpAnyH_take (i := 7) (oi := ?ob_7) (v := ?vb_7) ?hib_7 (by kernel_rfl) (by kernel_rfl) (by kernel_rfl) ?hqb_7 ?hyb_7 (by assumption) ?rb_7
          case hib_7 => (simp only [List.getElem?_toArray, List.getElem?_cons_succ, List.getElem?_cons_zero]; rfl)
          case hqb_7 => exact fun _ _ _ h => h
          case hyb_7 =>
            first
              | (refine Or.inl ⟨by rfl, ?_⟩; intro wq hSw; (try dsimp only at hSw); go_simp; (try with_reducible rfl); done)
              | (refine Or.inr ⟨by rfl, ?_⟩; with_reducible rfl)
          try simp only [Act.put, List.setIfInBounds_toArray, List.set_cons_zero, List.set_cons_succ]
          refine wpAnyH_take (i := 8) (oi := ?ob_8) (v := ?vb_8) ?hib_8 (by kernel_rfl) (by kernel_rfl) (by kernel_rfl) ?hqb_8 ?hyb_8 (by assumption) ?rb_8
          case hib_8 => (simp only [List.getElem?_toArray, List.getElem?_cons_succ, List.getElem?_cons_zero]; rfl)
          case hqb_8 => exact fun _ _ _ h => h
          case hyb_8 =>
            first
              | (refine Or.inl ⟨by rfl, ?_⟩; intro wq hSw; (try dsimp only at hSw); go_simp; (try with_reducible rfl); done)
              | (refine Or.inr ⟨by rfl, ?_⟩; with_reducible rfl)
          try simp only [Act.put, List.setIfInBounds_toArray, List.set_cons_zero, List.set_cons_succ]
          refine wpAnyH_take (i := 9) (oi := ?ob_9) (v := ?vb_9) ?hib_9 (by kernel_rfl) (by kernel_rfl) (by kernel_rfl) ?hqb_9 ?hyb_9 (by assumption) ?rb_9
          case hib_9 => (simp only [List.getElem?_toArray, List.getElem?_cons_succ, List.getElem?_cons_zero]; rfl)
          case hqb_9 => exact fun _ _ _ h => h
          case hyb_9 =>
            first
              | (refine Or.inl ⟨by rfl, ?_⟩; intro wq hSw; (try dsimp only at hSw); go_simp; (try with_reducible rfl); done)
              | (refine Or.inr ⟨by rfl, ?_⟩; with_reducible rfl)
          try simp only [Act.put, List.setIfInBounds_toArray, List.set_cons_zero, List.set_cons_succ]
          refine wpAnyH_take (i := 10) (oi := ?ob_10) (v := ?vb_10) ?hib_10 (by kernel_rfl) (by kernel_rfl) (by kernel_rfl) ?hqb_10 ?hyb_10 (by assumption) ?rb_10
          case hib_10 => (simp only [List.getElem?_toArray, List.getElem?_cons_succ, List.getElem?_cons_zero]; rfl)
          case hqb_10 => exact fun _ _ _ h => h
          case hyb_10 =>
            first
              | (refine Or.inl ⟨by rfl, ?_⟩; intro wq hSw; (try dsimp only at hSw); go_simp; (try with_reducible rfl); done)
              | (refine Or.inr ⟨by rfl, ?_⟩; with_reducible rfl)
          try simp only [Act.put, List.setIfInBounds_toArray, List.set_cons_zero, List.set_cons_succ]
          refine wpAnyH_take (i := 11) (oi := ?ob_11) (v := ?vb_11) ?hib_11 (by kernel_rfl) (by kernel_rfl) (by kernel_rfl) ?hqb_11 ?hyb_11 (by assumption) ?rb_11
          case hib_11 => (simp only [List.getElem?_toArray, List.getElem?_cons_succ, List.getElem?_cons_zero]; rfl)
          case hqb_11 => exact fun _ _ _ h => h
          case hyb_11 =>
            first
              | (refine Or.inl ⟨by rfl, ?_⟩; intro wq hSw; (try dsimp only at hSw); go_simp; (try with_reducible rfl); done)
              | (refine Or.inr ⟨by rfl, ?_⟩; with_reducible rfl)
          try simp only [Act.put, List.setIfInBounds_toArray, List.set_cons_zero, List.set_cons_succ]
          refine wpAnyH_take (i := 12) (oi := ?ob_12) (v := ?vb_12) ?hib_12 (by kernel_rfl) (by kernel_rfl) (by kernel_rfl) ?hqb_12 ?hyb_12 (by assumption) ?rb_12
          case hib_12 => (simp only [List.getElem?_toArray, List.getElem?_cons_succ, List.getElem?_cons_zero]; rfl)
          case hqb_12 => exact fun _ _ _ h => h
          case hyb_12 =>
            first
              | (refine Or.inl ⟨by rfl, ?_⟩; intro wq hSw; (try dsimp only at hSw); go_simp; (try with_reducible rfl); done)
              | (refine Or.inr ⟨by rfl, ?_⟩; with_reducible rfl)
          try simp only [Act.put, List.setIfInBounds_toArray, List.set_cons_zero, List.set_cons_succ]
          refine wpAnyH_take (i := 13) (oi := ?ob_13) (v := ?vb_13) ?hib_13 (by kernel_rfl) (by kernel_rfl) (by kernel_rfl) ?hqb_13 ?hyb_13 (by assumption) ?rb_13
          case hib_13 => (simp only [List.getElem?_toArray, List.getElem?_cons_succ, List.getElem?_cons_zero]; rfl)
          case hqb_13 => exact fun _ _ _ h => h
          case hyb_13 =>
            first
              | (refine Or.inl ⟨by rfl, ?_⟩; intro wq hSw; (try dsimp only at hSw); go_simp; (try with_reducible rfl); done)
              | (refine Or.inr ⟨by rfl, ?_⟩; with_reducible rfl)
          try simp only [Act.put, List.setIfInBounds_toArray, List.set_cons_zero, List.set_cons_succ]
          refine wpAnyH_take (i := 14) (oi := ?ob_14) (v := ?vb_14) ?hib_14 (by kernel_rfl) (by kernel_rfl) (by kernel_rfl) ?hqb_14 ?hyb_14 (by assumption) ?rb_14
          case hib_14 => (simp only [List.getElem?_toArray, List.getElem?_cons_succ, List.getElem?_cons_zero]; rfl)
          case hqb_14 => exact fun _ _ _ h => h
          case hyb_14 =>
            first
              | (refine Or.inl ⟨by rfl, ?_⟩; intro wq hSw; (try dsimp only at hSw); go_simp; (try with_reducible rfl); done)
              | (refine Or.inr ⟨by rfl, ?_⟩; with_reducible rfl)
          try simp only [Act.put, List.setIfInBounds_toArray, List.set_cons_zero, List.set_cons_succ]
          refine wpAnyH_take (i := 15) (oi := ?ob_15) (v := ?vb_15) ?hib_15 (by kernel_rfl) (by kernel_rfl) (by kernel_rfl) ?hqb_15 ?hyb_15 (by assumption) ?rb_15
          case hib_15 => (simp only [List.getElem?_toArray, List.getElem?_cons_succ, List.getElem?_cons_zero]; rfl)
          case hqb_15 => exact fun _ _ _ h => h
          case hyb_15 =>
            first
              | (refine Or.inl ⟨by rfl, ?_⟩; intro wq hSw; (try dsimp only at hSw); go_simp; (try with_reducible rfl); done)
              | (refine Or.inr ⟨by rfl, ?_⟩; with_reducible rfl)
          try simp only [Act.put, List.setIfInBounds_toArray, List.set_cons_zero, List.set_cons_succ]
          refine wpAnyH_take (i := 16) (oi := ?ob_16) (v := ?vb_16) ?hib_16 (by kernel_rfl) (by kernel_rfl) (by kernel_rfl) ?hqb_16 ?hyb_16 (by assumption) ?rb_16
          case hib_16 => (simp only [List.getElem?_toArray, List.getElem?_cons_succ, List.getElem?_cons_zero]; rfl)
          case hqb_16 => exact fun _ _ _ h => h
          case hyb_16 =>
            first
              | (refine Or.inl ⟨by rfl, ?_⟩; intro wq hSw; (try dsimp only at hSw); go_simp; (try with_reducible rfl); done)
              | (refine Or.inr ⟨by rfl, ?_⟩; with_reducible rfl)
          try simp only [Act.put, List.setIfInBounds_toArray, List.set_cons_zero, List.set_cons_succ]
          refine wpAnyH_take (i := 17) (oi := ?ob_17) (v := ?vb_17) ?hib_17 (by kernel_rfl) (by kernel_rfl) (by kernel_rfl) ?hqb_17 ?hyb_17 (by assumption) ?rb_17
          case hib_17 => (simp only [List.getElem?_toArray, List.getElem?_cons_succ, List.getElem?_cons_zero]; rfl)
          case hqb_17 => exact fun _ _ _ h => h
          case hyb_17 =>
            first
              | (refine Or.inl ⟨by rfl, ?_⟩; intro wq hSw; (try dsimp only at hSw); go_simp; (try with_reducible rfl); done)
              | (refine Or.inr ⟨by rfl, ?_⟩; with_reducible rfl)
          try simp only [Act.put, List.setIfInBounds_toArray, List.set_cons_zero, List.set_cons_succ]
          refine wpAnyH_take (i := 18) (oi := ?ob_18) (v := ?vb_18) ?hib_18 (by kernel_rfl) (by kernel_rfl) (by kernel_rfl) ?hqb_18 ?hyb_18 (by assumption) ?rb_18
          case hib_18 => (simp only [List.getElem?_toArray, List.getElem?_cons_succ, List.getElem?_cons_zero]; rfl)
          case hqb_18 => exact fun _ _ _ h => h
          case hyb_18 =>
            first
              | (refine Or.inl ⟨by rfl, ?_⟩; intro wq hSw; (try dsimp only at hSw); go_simp; (try with_reducible rfl); done)
              | (refine Or.inr ⟨by rfl, ?_⟩; with_reducible rfl)
          try simp only [Act.put, List.setIfInBounds_toArray, List.set_cons_zero, List.set_cons_succ]
          refine wpAnyH_take (i := 19) (oi := ?ob_19) (v := ?vb_19) ?hib_19 (by kernel_rfl) (by kernel_rfl) (by kernel_rfl) ?hqb_19 ?hyb_19 (by assumption) ?rb_19
          case hib_19 => (simp only [List.getElem?_toArray, List.getElem?_cons_succ, List.getElem?_cons_zero]; rfl)
          case hqb_19 => exact fun _ _ _ h => h
          case hyb_19 =>
            first
              | (refine Or.inl ⟨by rfl, ?_⟩; intro wq hSw; (try dsimp only at hSw); go_simp; (try with_reducible rfl); done)
              | (refine Or.inr ⟨by rfl, ?_⟩; with_reducible rfl)
          try simp only [Act.put, List.setIfInBounds_toArray, List.set_cons_zero, List.set_cons_succ]
          refine wpAnyH_take (i := 20) (oi := ?ob_20) (v := ?vb_20) ?hib_20 (by kernel_rfl) (by kernel_rfl) (by kernel_rfl) ?hqb_20 ?hyb_20 (by assumption) ?rb_20
          case hib_20 => (simp only [List.getElem?_toArray, List.getElem?_cons_succ, List.getElem?_cons_zero]; rfl)
          case hqb_20 => exact fun _ _ _ h => h
          case hyb_20 =>
            first
              | (refine Or.inl ⟨by rfl, ?_⟩; intro wq hSw; (try dsimp only at hSw); go_simp; (try with_reducible rfl); done)
              | (refine Or.inr ⟨by rfl, ?_⟩; with_reducible rfl)
          try simp only [Act.put, List.setIfInBounds_toArray, List.set_cons_zero, List.set_cons_succ]
          refine wpAnyH_take (i := 21) (oi := ?ob_21) (v := ?vb_21) ?hib_21 (by kernel_rfl) (by kernel_rfl) (by kernel_rfl) ?hqb_21 ?hyb_21 (by assumption) ?rb_21
          case hib_21 => (simp only [List.getElem?_toArray, List.getElem?_cons_succ, List.getElem?_cons_zero]; rfl)
          case hqb_21 => exact fun _ _ _ h => h
          case hyb_21 =>
            first
              | (refine Or.inl ⟨by rfl, ?_⟩; intro wq hSw; (try dsimp only at hSw); go_simp; (try with_reducible rfl); done)
              | (refine Or.inr ⟨by rfl, ?_⟩; with_reducible rfl)
          try simp only [Act.put, List.setIfInBounds_toArray, List.set_cons_zero, List.set_cons_succ]
          refine wpAnyH_take (i := 22) (oi := ?ob_22) (v := ?vb_22) ?hib_22 (by kernel_rfl) (by kernel_rfl) (by kernel_rfl) ?hqb_22 ?hyb_22 (by assumption) ?rb_22
          case hib_22 => (simp only [List.getElem?_toArray, List.getElem?_cons_succ, List.getElem?_cons_zero]; rfl)
          case hqb_22 => exact fun _ _ _ h => h
          case hyb_22 =>
            first
              | (refine Or.inl ⟨by rfl, ?_⟩; intro wq hSw; (try dsimp only at hSw); go_simp; (try with_reducible rfl); done)
              | (refine Or.inr ⟨by rfl, ?_⟩; with_reducible rfl)
          try simp only [Act.put, List.setIfInBounds_toArray, List.set_cons_zero, List.set_cons_succ]
          refine wpAnyH_take (i := 23) (oi := ?ob_23) (v := ?vb_23) ?hib_23 (by kernel_rfl) (by kernel_rfl) (by kernel_rfl) ?hqb_23 ?hyb_23 (by assumption) ?rb_23
          case hib_23 => (simp only [List.getElem?_toArray, List.getElem?_cons_succ, List.getElem?_cons_zero]; rfl)
          case hqb_23 => exact fun _ _ _ h => h
          case hyb_23 =>
            first
              | (refine Or.inl ⟨by rfl, ?_⟩; intro wq hSw; (try dsimp only at hSw); go_simp; (try with_reducible rfl); done)
              | (refine Or.inr ⟨by rfl, ?_⟩; with_reducible rfl)
          try simp only [Act.put, List.setIfInBounds_toArray, List.set_cons_zero, List.set_cons_succ]
          refine wpAnyH_take (i := 24) (oi := ?ob_24) (v := ?vb_24) ?hib_24 (by kernel_rfl) (by kernel_rfl) (by kernel_rfl) ?hqb_24 ?hyb_24 (by assumption) ?rb_24
          case hib_24 => (simp only [List.getElem?_toArray, List.getElem?_cons_succ, List.getElem?_cons_zero]; rfl)
          case hqb_24 => exact fun _ _ _ h => h
          case hyb_24 =>
            first
              | (refine Or.inl ⟨by rfl, ?_⟩; intro wq hSw; (try dsimp only at hSw); go_simp; (try with_reducible rfl); done)
              | (refine Or.inr ⟨by rfl, ?_⟩; with_reducible rfl)
          try simp only [Act.put, List.setIfInBounds_toArray, List.set_cons_zero, List.set_cons_succ]
          refine wpAnyH_take (i := 25) (oi := ?ob_25) (v := ?vb_25) ?hib_25 (by kernel_rfl) (by kernel_rfl) (by kernel_rfl) ?hqb_25 ?hyb_25 (by assumption) ?rb_25
          case hib_25 => (simp only [List.getElem?_toArray, List.getElem?_cons_succ, List.getElem?_cons_zero]; rfl)
          case hqb_25 => exact fun _ _ _ h => h
          case hyb_25 =>
            first
              | (refine Or.inl ⟨by rfl, ?_⟩; intro wq hSw; (try dsimp only at hSw); go_simp; (try with_reducible rfl); done)
              | (refine Or.inr ⟨by rfl, ?_⟩; with_reducible rfl)
          try simp only [Act.put, List.setIfInBounds_toArray, List.set_cons_zero, List.set_cons_succ]
          refine wpAnyH_done (by kernel_rfl) ?_ _
          have B6 := Lib.hid (below_seq HB.out HD.out)
          clear KS HD BO
          go_wp2
          go_roundg (l.length - (i + 1))
          case measure => omega
          case rel => exact ⟨i + 1, by omega, rfl, by go_num, G2, B6⟩
        · obtain ⟨p, hp⟩ : ∃ p, i = p + 1 := ⟨i - 1, by omega⟩
          have hpl : p < l.length := by omega
          obtain ⟨b2, o2, x5, x6, e2, p0, pz1, pz2, pz3⟩ := r1.blk r3 r2 hpl
          simp at e2
          obtain ⟨rfl, rfl⟩ := e2
          have hat : atB l (i - 1) = l[p] := by rw [hp]; exact atB_get hpl
          rw [hat] at GE
          obtain ⟨y0, hy0⟩ : ∃ y0, l[p].id = y0 := ⟨_, rfl⟩
          rw [hy0] at p0 GE
          have hiz : decide (i = 0) = false := by simp; omega
          rw [hiz] at GE
          have KS := Lib.hid (fun w' (hb : Below wr.heap.size wr w') => (show w'.cell? ⟨b1, o1 + i * 3, none⟩ = some (.int .i64 x0) ∧ w'.cell? ⟨b1, o1 + i * 3 + 1, none⟩ = some (.int .i64 x1) ∧ w'.cell? ⟨b1, o1 + i * 3 + 2, none⟩ = some (.slice x2 x3 x4) ∧ w'.cell? ⟨b1, o1 + p * 3, none⟩ = some (.int .i64 y0) from ⟨cell_keep q0 hb, cell_keep q1 hb, cell_keep q2 hb, cell_keep p0 hb⟩))
          have hkz : (0 : Int) < (i : Int) := by omega
          have hkd : decide ((0 : Int) < (i : Int)) = true := by simp; omega
          have hkd2 : decide (0 < i) = true := by simp; omega
          have hw1 : IntKind.i64.wrap ((i : Int) - 1) = (p : Int) := by
            have := IntWalk.i64_in ((i : Int) - 1) (by omega)
            rw [this]; omega
          have hp0 : (0 : Int) ≤ (p : Int) := by omega
          have hp1 : (p : Int) < (l.length : Int) := by omega
          clear pz1 pz2 pz3
          clear hy r1 r2 r3 q0 q1 q2 p0 hx0 hx1 hx3 hok hdm hat hy0 hpl hp hiz
          by_cases hlt2 : y0 < x0
          · have hg := NX.out (by rw [GE.out, decide_eq_true hlt2]; rfl)
            have G2 := Lib.hid hg
            have hge : decide (x0 ≤ y0) = false := by simp; omega
            have hge2 : ¬ x0 ≤ y0 := by omega
            clear hg BAD NX GE
            go_upto_region 6 with fail
            refine wp_region_held_drew (S := (fun w' => w'.cell? ⟨b1, o1 + i * 3, none⟩ = some (.int .i64 x0) ∧ w'.cell? ⟨b1, o1 + i * 3 + 1, none⟩ = some (.int .i64 x1) ∧ w'.cell? ⟨b1, o1 + i * 3 + 2, none⟩ = some (.slice x2 x3 x4) ∧ w'.cell? ⟨b1, o1 + p * 3, none⟩ = some (.int .i64 y0))) (by kernel_rfl) (KS.out _ HD.out) (fun hHeld => ?_)
            refine wpAnyH_take (i := 0) (oi := ?oc_0) (v := ?vc_0) ?hic_0 (by kernel_rfl) (by kernel_rfl) (by kernel_rfl) ?hqc_0 ?hyc_0 (by assumption) ?rc_0
            case hic_0 => (simp only [List.getElem?_toArray, List.getElem?_cons_succ, List.getElem?_cons_zero]; rfl)
            case hqc_0 => exact fun _ _ _ h => h
            case hyc_0 =>
              first
                | (refine Or.inl ⟨by rfl, ?_⟩; intro wq hSw; (try dsimp only at hSw); go_simp; (try with_reducible rfl); done)
                | (refine Or.inr ⟨by rfl, ?_⟩; with_reducible rfl)
            try simp only [Act.put, List.setIfInBounds_toArray, List.set_cons_zero, List.set_cons_succ]
            refine wpAnyH_take (i := 1) (oi := ?oc_1) (v := ?vc_1) ?hic_1 (by kernel_rfl) (by kernel_rfl) (by kernel_rfl) ?hqc_1 ?hyc_1 (by assumption) ?rc_1
            case hic_1 => (simp only [List.getElem?_toArray, List.getElem?_cons_succ, List.getElem?_cons_zero]; rfl)
            case hqc_1 => exact fun _ _ _ h => h
            case hyc_1 =>
              first
                | (refine Or.inl ⟨by rfl, ?_⟩; intro wq hSw; (try dsimp only at hSw); go_simp; (try with_reducible rfl); done)
                | (refine Or.inr ⟨by rfl, ?_⟩; with_reducible rfl)
            try simp only [Act.put, List.setIfInBounds_toArray, List.set_cons_zero, List.set_cons_succ]
            refine wpAnyH_take (i := 2) (oi := ?oc_2) (v := ?vc_2) ?hic_2 (by kernel_rfl) (by kernel_rfl) (by kernel_rfl) ?hqc_2 ?hyc_2 (by assumption) ?rc_2
            case hic_2 => (simp only [List.getElem?_toArray, List.getElem?_cons_succ, List.getElem?_cons_zero]; rfl)
            case hqc_2 => exact fun _ _ _ h => h
            case hyc_2 =>
              first
                | (refine Or.inl ⟨by rfl, ?_⟩; intro wq hSw; (try dsimp only at hSw); go_simp; (try with_reducible rfl); done)
                | (refine Or.inr ⟨by rfl, ?_⟩; with_reducible rfl)
            try simp only [Act.put, List.setIfInBounds_toArray, List.set_cons_zero, List.set_cons_succ]
            refine wpAnyH_take (i := 3) (oi := ?oc_3) (v := ?vc_3) ?hic_3 (by kernel_rfl) (by kernel_rfl) (by kernel_rfl) ?hqc_3 ?hyc_3 (by assumption) ?rc_3
            case hic_3 => (simp only [List.getElem?_toArray, List.getElem?_cons_succ, List.getElem?_cons_zero]; rfl)
            case hqc_3 => exact fun _ _ _ h => h
            case hyc_3 =>
              first
                | (refine Or.inl ⟨by rfl, ?_⟩; intro wq hSw; (try dsimp only at hSw); go_simp; (try with_reducible rfl); done)
                | (refine Or.inr ⟨by rfl, ?_⟩; with_reducible rfl)
            try simp only [Act.put, List.setIfInBounds_toArray, List.set_cons_zero, List.set_cons_succ]
            refine wpAnyH_take (i := 4) (oi := ?oc_4) (v := ?vc_4) ?hic_4 (by kernel_rfl) (by kernel_rfl) (by kernel_rfl) ?hqc_4 ?hyc_4 (by assumption) ?rc_4
            case hic_4 => (simp only [List.getElem?_toArray, List.getElem?_cons_succ, List.getElem?_cons_zero]; rfl)
            case hqc_4 => exact fun _ _ _ h => h
            case hyc_4 =>
              first
                | (refine Or.inl ⟨by rfl, ?_⟩; intro wq hSw; (try dsimp only at hSw); go_simp; (try with_reducible rfl); done)
                | (refine Or.inr ⟨by rfl, ?_⟩; with_reducible rfl)
            try simp only [Act.put, List.setIfInBounds_toArray, List.set_cons_zero, List.set_cons_succ]
            refine wpAnyH_take (i := 5) (oi := ?oc_5) (v := ?vc_5) ?hic_5 (by kernel_rfl) (by kernel_rfl) (by kernel_rfl) ?hqc_5 ?hyc_5 (by assumption) ?rc_5
            case hic_5 => (simp only [List.getElem?_toArray, List.getElem?_cons_succ, List.getElem?_cons_zero]; rfl)
            case hqc_5 => exact fun _ _ _ h => h
            case hyc_5 =>
              first
                | (refine Or.inl ⟨by rfl, ?_⟩; intro wq hSw; (try dsimp only at hSw); go_simp; (try with_reducible rfl); done)
                | (refine Or.inr ⟨by rfl, ?_⟩; with_reducible rfl)
            try simp only [Act.put, List.setIfInBounds_toArray, List.set_cons_zero, List.set_cons_succ]
            refine wpAnyH_ready (rs := [6]) (by kernel_rfl) (by simp) ?_
            refine AllReadyH.cons (by simp only [List.getElem?_toArray, List.getElem?_cons_succ, List.getElem?_cons_zero]; rfl) (fun K hK => ?_) AllReadyH.nil
            go_simp
            go_at_call 50
            refine (BO.out _ HD.out).mono ?_
            rintro e wn ⟨rfl, hb⟩
            replace HD := Lib.hid (below_seq HD.out hb)
            clear hb
            refine hK.out _ _ (KS.out _ HD.out) (fun hHeld6 => ?_)
            clear hK K hHeld
            try simp only [Act.put, List.setIfInBounds_toArray, List.set_cons_zero, List.set_cons_succ]
            refine wpAnyH_take (i := 7) (oi := ?oc_7) (v := ?vc_7) ?hic_7 (by kernel_rfl) (by kernel_rfl) (by kernel_rfl) ?hqc_7 ?hyc_7 (by assumption) ?rc_7
            case hic_7 => (simp only [List.getElem?_toArray, List.getElem?_cons_succ, List.getElem?_cons_zero]; rfl)
            case hqc_7 => exact fun _ _ _ h => h
            case hyc_7 =>
              first
                | (refine Or.inl ⟨by rfl, ?_⟩; intro wq hSw; (try dsimp only at hSw); go_simp; (try with_reducible rfl); done)
                | (refine Or.inr ⟨by rfl, ?_⟩; with_reducible rfl)
            try simp only [Act.put, List.setIfInBounds_toArray, List.set_cons_zero, List.set_cons_succ]
            refine wpAnyH_take (i := 8) (oi := ?oc_8) (v := ?vc_8) ?hic_8 (by kernel_rfl) (by kernel_rfl) (by kernel_rfl) ?hqc_8 ?hyc_8 (by assumption) ?rc_8
            case hic_8 => (simp only [List.getElem?_toArray, List.getElem?_cons_succ, List.getElem?_cons_zero]; rfl)
            case hqc_8 => exact fun _ _ _ h => h
            case hyc_8 =>
              first
                | (refine Or.inl ⟨by rfl, ?_⟩; intro wq hSw; (try dsimp only at hSw); go_simp; (try with_reducible rfl); done)
                | (refine Or.inr ⟨by rfl, ?_⟩; with_reducible rfl)
            try simp only [Act.put, List.setIfInBounds_toArray, List.set_cons_zero, List.set_cons_succ]
            refine wpAnyH_take (i := 9) (oi := ?oc_9) (v := ?vc_9) ?hic_9 (by kernel_rfl) (by kernel_rfl) (by kernel_rfl) ?hqc_9 ?hyc_9 (by assumption) ?rc_9
            case hic_9 => (simp only [List.getElem?_toArray, List.getElem?_cons_succ, List.getElem?_cons_zero]; rfl)
            case hqc_9 => exact fun _ _ _ h => h
            case hyc_9 =>
              first
                | (refine Or.inl ⟨by rfl, ?_⟩; intro wq hSw; (try dsimp only at hSw); go_simp; (try with_reducible rfl); done)
                | (refine Or.inr ⟨by rfl, ?_⟩; with_reducible rfl)
            try simp only [Act.put, List.setIfInBounds_toArray, List.set_cons_zero, List.set_cons_succ]
            refine wpAnyH_take (i := 10) (oi := ?oc_10) (v := ?vc_10) ?hic_10 (by kernel_rfl) (by kernel_rfl) (by kernel_rfl) ?hqc_10 ?hyc_10 (by assumption) ?rc_10
            case hic_10 => (simp only [List.getElem?_toArray, List.getElem?_cons_succ, List.getElem?_cons_zero]; rfl)
            case hqc_10 => exact fun _ _ _ h => h
            case hyc_10 =>
              first
                | (refine Or.inl ⟨by rfl, ?_⟩; intro wq hSw; (try dsimp only at hSw); go_simp; (try with_reducible rfl); done)
                | (refine Or.inr ⟨by rfl, ?_⟩; with_reducible rfl)
            try simp only [Act.put, List.setIfInBounds_toArray, List.set_cons_zero, List.set_cons_succ]
            refine wpAnyH_take (i := 11) (oi := ?oc_11) (v := ?vc_11) ?hic_11 (by kernel_rfl) (by kernel_rfl) (by kernel_rfl) ?hqc_11 ?hyc_11 (by assumption) ?rc_11
            case hic_11 => (simp only [List.getElem?_toArray, List.getElem?_cons_succ, List.getElem?_cons_zero]; rfl)
            case hqc_11 => exact fun _ _ _ h => h
            case hyc_11 =>
              first
                | (refine Or.inl ⟨by rfl, ?_⟩; intro wq hSw; (try dsimp only at hSw); go_simp; (try with_reducible rfl); done)
                | (refine Or.inr ⟨by rfl, ?_⟩; with_reducible rfl)
            try simp only [Act.put, List.setIfInBounds_toArray, List.set_cons_zero, List.set_cons_succ]
            refine wpAnyH_take (i := 12) (oi := ?oc_12) (v := ?vc_12) ?hic_12 (by kernel_rfl) (by kernel_rfl) (by kernel_rfl) ?hqc_12 ?hyc_12 (by assumption) ?rc_12
            case hic_12 => (simp only [List.getElem?_toArray, List.getElem?_cons_succ, List.getElem?_cons_zero]; rfl)
            case hqc_12 => exact fun _ _ _ h => h
            case hyc_12 =>
              first
                | (refine Or.inl ⟨by rfl, ?_⟩; intro wq hSw; (try dsimp only at hSw); go_simp; (try with_reducible rfl); done)
                | (refine Or.inr ⟨by rfl, ?_⟩; with_reducible rfl)
            try simp only [Act.put, List.setIfInBounds_toArray, List.set_cons_zero, List.set_cons_succ]
            refine wpAnyH_take (i := 13) (oi := ?oc_13) (v := ?vc_13) ?hic_13 (by kernel_rfl) (by kernel_rfl) (by kernel_rfl) ?hqc_13 ?hyc_13 (by assumption) ?rc_13
            case hic_13 => (simp only [List.getElem?_toArray, List.getElem?_cons_succ, List.getElem?_cons_zero]; rfl)
            case hqc_13 => exact fun _ _ _ h => h
            case hyc_13 =>
              first
                | (refine Or.inl ⟨by rfl, ?_⟩; intro wq hSw; (try dsimp only at hSw); go_simp; (try with_reducible rfl); done)
                | (refine Or.inr ⟨by rfl, ?_⟩; with_reducible rfl)
            try simp only [Act.put, List.setIfInBounds_toArray, List.set_cons_zero, List.set_cons_succ]
            refine wpAnyH_take (i := 14) (oi := ?oc_14) (v := ?vc_14) ?hic_14 (by kernel_rfl) (by kernel_rfl) (by kernel_rfl) ?hqc_14 ?hyc_14 (by assumption) ?rc_14
            case hic_14 => (simp only [List.getElem?_toArray, List.getElem?_cons_succ, List.getElem?_cons_zero]; rfl)
            case hqc_14 => exact fun _ _ _ h => h
            case hyc_14 =>
              first
                | (refine Or.inl ⟨by rfl, ?_⟩; intro wq hSw; (try dsimp only at hSw); go_simp; (try with_reducible rfl); done)
                | (refine Or.inr ⟨by rfl, ?_⟩; with_reducible rfl)
            try simp only [Act.put, List.setIfInBounds_toArray, List.set_cons_zero, List.set_cons_succ]
            refine wpAnyH_take (i := 15) (oi := ?oc_15) (v := ?vc_15) ?hic_15 (by kernel_rfl) (by kernel_rfl) (by kernel_rfl) ?hqc_15 ?hyc_15 (by assumption) ?rc_15
            case hic_15 => (simp only [List.getElem?_toArray, List.getElem?_cons_succ, List.getElem?_cons_zero]; rfl)
            case hqc_15 => exact fun _ _ _ h => h
            case hyc_15 =>
              first
                | (refine Or.inl ⟨by rfl, ?_⟩; intro wq hSw; (try dsimp only at hSw); go_simp; (try with_reducible rfl); done)
                | (refine Or.inr ⟨by rfl, ?_⟩; with_reducible rfl)
            try simp only [Act.put, List.setIfInBounds_toArray, List.set_cons_zero, List.set_cons_succ]
            refine wpAnyH_take (i := 16) (oi := ?oc_16) (v := ?vc_16) ?hic_16 (by kernel_rfl) (by kernel_rfl) (by kernel_rfl) ?hqc_16 ?hyc_16 (by assumption) ?rc_16
            case hic_16 => (simp only [List.getElem?_toArray, List.getElem?_cons_succ, List.getElem?_cons_zero]; rfl)
            case hqc_16 => exact fun _ _ _ h => h
            case hyc_16 =>
              first
                | (refine Or.inl ⟨by rfl, ?_⟩; intro wq hSw; (try dsimp only at hSw); go_simp; (try with_reducible rfl); done)
                | (refine Or.inr ⟨by rfl, ?_⟩; with_reducible rfl)
            try simp only [Act.put, List.setIfInBounds_toArray, List.set_cons_zero, List.set_cons_succ]
            refine wpAnyH_take (i := 17) (oi := ?oc_17) (v := ?vc_17) ?hic_17 (by kernel_rfl) (by kernel_rfl) (by kernel_rfl) ?hqc_17 ?hyc_17 (by assumption) ?rc_17
            case hic_17 => (simp only [List.getElem?_toArray, List.getElem?_cons_succ, List.getElem?_cons_zero]; rfl)
            case hqc_17 => exact fun _ _ _ h => h
            case hyc_17 =>
              first
                | (refine Or.inl ⟨by rfl, ?_⟩; intro wq hSw; (try dsimp only at hSw); go_simp; (try with_reducible rfl); done)
                | (refine Or.inr ⟨by rfl, ?_⟩; with_reducible rfl)
            try simp only [Act.put, List.setIfInBounds_toArray, List.set_cons_zero, List.set_cons_succ]
            refine wpAnyH_take (i := 18) (oi := ?oc_18) (v := ?vc_18) ?hic_18 (by kernel_rfl) (by kernel_rfl) (by kernel_rfl) ?hqc_18 ?hyc_18 (by assumption) ?rc_18
            case hic_18 => (simp only [List.getElem?_toArray, List.getElem?_cons_succ, List.getElem?_cons_zero]; rfl)
            case hqc_18 => exact fun _ _ _ h => h
            case hyc_18 =>
              first
                | (refine Or.inl ⟨by rfl, ?_⟩; intro wq hSw; (try dsimp only at hSw); go_simp; (try with_reducible rfl); done)
                | (refine Or.inr ⟨by rfl, ?_⟩; with_reducible rfl)
            try simp only [Act.put, List.setIfInBounds_toArray, List.set_cons_zero, List.set_cons_succ]
            refine wpAnyH_take (i := 19) (oi := ?oc_19) (v := ?vc_19) ?hic_19 (by kernel_rfl) (by kernel_rfl) (by kernel_rfl) ?hqc_19 ?hyc_19 (by assumption) ?rc_19
            case hic_19 => (simp only [List.getElem?_toArray, List.getElem?_cons_succ, List.getElem?_cons_zero]; rfl)
            case hqc_19 => exact fun _ _ _ h => h
            case hyc_19 =>
              first
                | (refine Or.inl ⟨by rfl, ?_⟩; intro wq hSw; (try dsimp only at hSw); go_simp; (try with_reducible rfl); done)
                | (refine Or.inr ⟨by rfl, ?_⟩; with_reducible rfl)
            try simp only [Act.put, List.setIfInBounds_toArray, List.set_cons_zero, List.set_cons_succ]
            refine wpAnyH_take (i := 20) (oi := ?oc_20) (v := ?vc_20) ?hic_20 (by kernel_rfl) (by kernel_rfl) (by kernel_rfl) ?hqc_20 ?hyc_20 (by assumption) ?rc_20
            case hic_20 => (simp only [List.getElem?_toArray, List.getElem?_cons_succ, List.getElem?_cons_zero]; rfl)
            case hqc_20 => exact fun _ _ _ h => h
            case hyc_20 =>
              first
                | (refine Or.inl ⟨by rfl, ?_⟩; intro wq hSw; (try dsimp only at hSw); go_simp; (try with_reducible rfl); done)
                | (refine Or.inr ⟨by rfl, ?_⟩; with_reducible rfl)
            try simp only [Act.put, List.setIfInBounds_toArray, List.set_cons_zero, List.set_cons_succ]
            refine wpAnyH_take (i := 21) (oi := ?oc_21) (v := ?vc_21) ?hic_21 (by kernel_rfl) (by kernel_rfl) (by kernel_rfl) ?hqc_21 ?hyc_21 (by assumption) ?rc_21
            case hic_21 => (simp only [List.getElem?_toArray, List.getElem?_cons_succ, List.getElem?_cons_zero]; rfl)
            case hqc_21 => exact fun _ _ _ h => h
            case hyc_21 =>
              first
                | (refine Or.inl ⟨by rfl, ?_⟩; intro wq hSw; (try dsimp only at hSw); go_simp; (try with_reducible rfl); done)
                | (refine Or.inr ⟨by rfl, ?_⟩; with_reducible rfl)
            try simp only [Act.put, List.setIfInBounds_toArray, List.set_cons_zero, List.set_cons_succ]
            refine wpAnyH_take (i := 22) (oi := ?oc_22) (v := ?vc_22) ?hic_22 (by kernel_rfl) (by kernel_rfl) (by kernel_rfl) ?hqc_22 ?hyc_22 (by assumption) ?rc_22
            case hic_22 => (simp only [List.getElem?_toArray, List.getElem?_cons_succ, List.getElem?_cons_zero]; rfl)
            case hqc_22 => exact fun _ _ _ h => h
            case hyc_22 =>
              first
                | (refine Or.inl ⟨by rfl, ?_⟩; intro wq hSw; (try dsimp only at hSw); go_simp; (try with_reducible rfl); done)
                | (refine Or.inr ⟨by rfl, ?_⟩; with_reducible rfl)
            try simp only [Act.put, List.setIfInBounds_toArray, List.set_cons_zero, List.set_cons_succ]
            refine wpAnyH_take (i := 23) (oi := ?oc_23) (v := ?vc_23) ?hic_23 (by kernel_rfl) (by kernel_rfl) (by kernel_rfl) ?hqc_23 ?hyc_23 (by assumption) ?rc_23
            case hic_23 => (simp only [List.getElem?_toArray, List.getElem?_cons_succ, List.getElem?_cons_zero]; rfl)
            case hqc_23 => exact fun _ _ _ h => h
            case hyc_23 =>
              first
                | (refine Or.inl ⟨by rfl, ?_⟩; intro wq hSw; (try dsimp only at hSw); go_simp; (try with_reducible rfl); done)
                | (refine Or.inr ⟨by rfl, ?_⟩; with_reducible rfl)
            try simp only [Act.put, List.setIfInBounds_toArray, List.set_cons_zero, List.set_cons_succ]
            refine wpAnyH_take (i := 24) (oi := ?oc_24) (v := ?vc_24) ?hic_24 (by kernel_rfl) (by kernel_rfl) (by kernel_rfl) ?hqc_24 ?hyc_24 (by assumption) ?rc_24
            case hic_24 => (simp only [List.getElem?_toArray, List.getElem?_cons_succ, List.getElem?_cons_zero]; rfl)
            case hqc_24 => exact fun _ _ _ h => h
            case hyc_24 =>
              first
                | (refine Or.inl ⟨by rfl, ?_⟩; intro wq hSw; (try dsimp only at hSw); go_simp; (try with_reducible rfl); done)
                | (refine Or.inr ⟨by rfl, ?_⟩; with_reducible rfl)
            try simp only [Act.put, List.setIfInBounds_toArray, List.set_cons_zero, List.set_cons_succ]
            refine wpAnyH_take (i := 25) (oi := ?oc_25) (v := ?vc_25) ?hic_25 (by kernel_rfl) (by kernel_rfl) (by kernel_rfl) ?hqc_25 ?hyc_25 (by assumption) ?rc_25
            case hic_25 => (simp only [List.getElem?_toArray, List.getElem?_cons_succ, List.getElem?_cons_zero]; rfl)
            case hqc_25 => exact fun _ _ _ h => h
            case hyc_25 =>
              first
                | (refine Or.inl ⟨by rfl, ?_⟩; intro wq hSw; (try dsimp only at hSw); go_simp; (try with_reducible rfl); done)
                | (refine Or.inr ⟨by rfl, ?_⟩; with_reducible rfl)
            try simp only [Act.put, List.setIfInBounds_toArray, List.set_cons_zero, List.set_cons_succ]
            refine wpAnyH_done (by kernel_rfl) ?_ _
            have B6 := Lib.hid (below_seq HB.out HD.out)
            clear KS HD BO hw1
            go_wp2
            go_roundg (l.length - (i + 1))
            case measure => omega
            case rel => exact ⟨i + 1, by omega, rfl, by go_num, G2, B6⟩
          · have hbad := BAD.out (by rw [GE.out, decide_eq_false hlt2]; rfl)
            have E := Lib.hid hbad
            have hge : decide (x0 ≤ y0) = true := by simp; omega
            have hge2 : x0 ≤ y0 := by omega
            clear hbad BAD NX GE
            go_upto_region 6 with fail
            refine wp_region_held_drew (S := (fun w' => w'.cell? ⟨b1, o1 + i * 3, none⟩ = some (.int .i64 x0) ∧ w'.cell? ⟨b1, o1 + i * 3 + 1, none⟩ = some (.int .i64 x1) ∧ w'.cell? ⟨b1, o1 + i * 3 + 2, none⟩ = some (.slice x2 x3 x4) ∧ w'.cell? ⟨b1, o1 + p * 3, none⟩ = some (.int .i64 y0))) (by kernel_rfl) (KS.out _ HD.out) (fun hHeld => ?_)
            refine wpAnyH_take (i := 0) (oi := ?od_0) (v := ?vd_0) ?hid_0 (by kernel_rfl) (by kernel_rfl) (by kernel_rfl) ?hqd_0 ?hyd_0 (by assumption) ?rd_0
            case hid_0 => (simp only [List.getElem?_toArray, List.getElem?_cons_succ, List.getElem?_cons_zero]; rfl)
            case hqd_0 => exact fun _ _ _ h => h
            case hyd_0 =>
              first
                | (refine Or.inl ⟨by rfl, ?_⟩; intro wq hSw; (try dsimp only at hSw); go_simp; (try with_reducible rfl); done)
                | (refine Or.inr ⟨by rfl, ?_⟩; with_reducible rfl)
            try simp only [Act.put, List.setIfInBounds_toArray, List.set_cons_zero, List.set_cons_succ]
            refine wpAnyH_take (i := 1) (oi := ?od_1) (v := ?vd_1) ?hid_1 (by kernel_rfl) (by kernel_rfl) (by kernel_rfl) ?hqd_1 ?hyd_1 (by assumption) ?rd_1
            case hid_1 => (simp only [List.getElem?_toArray, List.getElem?_cons_succ, List.getElem?_cons_zero]; rfl)
            case hqd_1 => exact fun _ _ _ h => h
            case hyd_1 =>
              first
                | (refine Or.inl ⟨by rfl, ?_⟩; intro wq hSw; (try dsimp only at hSw); go_simp; (try with_reducible rfl); done)
                | (refine Or.inr ⟨by rfl, ?_⟩; with_reducible rfl)
            try simp only [Act.put, List.setIfInBounds_toArray, List.set_cons_zero, List.set_cons_succ]
            refine wpAnyH_take (i := 2) (oi := ?od_2) (v := ?vd_2) ?hid_2 (by kernel_rfl) (by kernel_rfl) (by kernel_rfl) ?hqd_2 ?hyd_2 (by assumption) ?rd_2
            case hid_2 => (simp only [List.getElem?_toArray, List.getElem?_cons_succ, List.getElem?_cons_zero]; rfl)
            case hqd_2 => exact fun _ _ _ h => h
            case hyd_2 =>
              first
                | (refine Or.inl ⟨by rfl, ?_⟩; intro wq hSw; (try dsimp only at hSw); go_simp; (try with_reducible rfl); done)
                | (refine Or.inr ⟨by rfl, ?_⟩; with_reducible rfl)
            try simp only [Act.put, List.setIfInBounds_toArray, List.set_cons_zero, List.set_cons_succ]
            refine wpAnyH_take (i := 3) (oi := ?od_3) (v := ?vd_3) ?hid_3 (by kernel_rfl) (by kernel_rfl) (by kernel_rfl) ?hqd_3 ?hyd_3 (by assumption) ?rd_3
            case hid_3 => (simp only [List.getElem?_toArray, List.getElem?_cons_succ, List.getElem?_cons_zero]; rfl)
            case hqd_3 => exact fun _ _ _ h => h
            case hyd_3 =>
              first
                | (refine Or.inl ⟨by rfl, ?_⟩; intro wq hSw; (try dsimp only at hSw); go_simp; (try with_reducible rfl); done)
                | (refine Or.inr ⟨by rfl, ?_⟩; with_reducible rfl)
            try simp only [Act.put, List.setIfInBounds_toArray, List.set_cons_zero, List.set_cons_succ]
            refine wpAnyH_take (i := 4) (oi := ?od_4) (v := ?vd_4) ?hid_4 (by kernel_rfl) (by kernel_rfl) (by kernel_rfl) ?hqd_4 ?hyd_4 (by assumption) ?rd_4
            case hid_4 => (simp only [List.getElem?_toArray, List.getElem?_cons_succ, List.getElem?_cons_zero]; rfl)
            case hqd_4 => exact fun _ _ _ h => h
            case hyd_4 =>
              first
                | (refine Or.inl ⟨by rfl, ?_⟩; intro wq hSw; (try dsimp only at hSw); go_simp; (try with_reducible rfl); done)
                | (refine Or.inr ⟨by rfl, ?_⟩; with_reducible rfl)
            try simp only [Act.put, List.setIfInBounds_toArray, List.set_cons_zero, List.set_cons_succ]
            refine wpAnyH_take (i := 5) (oi := ?od_5) (v := ?vd_5) ?hid_5 (by kernel_rfl) (by kernel_rfl) (by kernel_rfl) ?hqd_5 ?hyd_5 (by assumption) ?rd_5
            case hid_5 => (simp only [List.getElem?_toArray, List.getElem?_cons_succ, List.getElem?_cons_zero]; rfl)
            case hqd_5 => exact fun _ _ _ h => h
            case hyd_5 =>
              first
                | (refine Or.inl ⟨by rfl, ?_⟩; intro wq hSw; (try dsimp only at hSw); go_simp; (try with_reducible rfl); done)
                | (refine Or.inr ⟨by rfl, ?_⟩; with_reducible rfl)
            try simp only [Act.put, List.setIfInBounds_toArray, List.set_cons_zero, List.set_cons_succ]
            refine wpAnyH_ready (rs := [6]) (by kernel_rfl) (by simp) ?_
            refine AllReadyH.cons (by simp only [List.getElem?_toArray, List.getElem?_cons_succ, List.getElem?_cons_zero]; rfl) (fun K hK => ?_) AllReadyH.nil
            go_simp
            go_at_call 50
            refine (BO.out _ HD.out).mono ?_
            rintro e wn ⟨rfl, hb⟩
            replace HD := Lib.hid (below_seq HD.out hb)
            clear hb
            refine hK.out _ _ (KS.out _ HD.out) (fun hHeld6 => ?_)
            clear hK K hHeld
            try simp only [Act.put, List.setIfInBounds_toArray, List.set_cons_zero, List.set_cons_succ]
            refine wpAnyH_take (i := 7) (oi := ?od_7) (v := ?vd_7) ?hid_7 (by kernel_rfl) (by kernel_rfl) (by kernel_rfl) ?hqd_7 ?hyd_7 (by assumption) ?rd_7
            case hid_7 => (simp only [List.getElem?_toArray, List.getElem?_cons_succ, List.getElem?_cons_zero]; rfl)
            case hqd_7 => exact fun _ _ _ h => h
            case hyd_7 =>
              first
                | (refine Or.inl ⟨by rfl, ?_⟩; intro wq hSw; (try dsimp only at hSw); go_simp; (try with_reducible rfl); done)
                | (refine Or.inr ⟨by rfl, ?_⟩; with_reducible rfl)
            try simp only [Act.put, List.setIfInBounds_toArray, List.set_cons_zero, List.set_cons_succ]
            refine wpAnyH_take (i := 8) (oi := ?od_8) (v := ?vd_8) ?hid_8 (by kernel_rfl) (by kernel_rfl) (by kernel_rfl) ?hqd_8 ?hyd_8 (by assumption) ?rd_8
            case hid_8 => (simp only [List.getElem?_toArray, List.getElem?_cons_succ, List.getElem?_cons_zero]; rfl)
            case hqd_8 => exact fun _ _ _ h => h
            case hyd_8 =>
              first
                | (refine Or.inl ⟨by rfl, ?_⟩; intro wq hSw; (try dsimp only at hSw); go_simp; (try with_reducible rfl); done)
                | (refine Or.inr ⟨by rfl, ?_⟩; with_reducible rfl)
            try simp only [Act.put, List.setIfInBounds_toArray, List.set_cons_zero, List.set_cons_succ]
            refine wpAnyH_take (i := 9) (oi := ?od_9) (v := ?vd_9) ?hid_9 (by kernel_rfl) (by kernel_rfl) (by kernel_rfl) ?hqd_9 ?hyd_9 (by assumption) ?rd_9
            case hid_9 => (simp only [List.getElem?_toArray, List.getElem?_cons_succ, List.getElem?_cons_zero]; rfl)
            case hqd_9 => exact fun _ _ _ h => h
            case hyd_9 =>
              first
                | (refine Or.inl ⟨by rfl, ?_⟩; intro wq hSw; (try dsimp only at hSw); go_simp; (try with_reducible rfl); done)
                | (refine Or.inr ⟨by rfl, ?_⟩; with_reducible rfl)
            try simp only [Act.put, List.setIfInBounds_toArray, List.set_cons_zero, List.set_cons_succ]
            refine wpAnyH_take (i := 10) (oi := ?od_10) (v := ?vd_10) ?hid_10 (by kernel_rfl) (by kernel_rfl) (by kernel_rfl) ?hqd_10 ?hyd_10 (by assumption) ?rd_10
            case hid_10 => (simp only [List.getElem?_toArray, List.getElem?_cons_succ, List.getElem?_cons_zero]; rfl)
            case hqd_10 => exact fun _ _ _ h => h
            case hyd_10 =>
              first
                | (refine Or.inl ⟨by rfl, ?_⟩; intro wq hSw; (try dsimp only at hSw); go_simp; (try with_reducible rfl); done)
                | (refine Or.inr ⟨by rfl, ?_⟩; with_reducible rfl)
            try simp only [Act.put, List.setIfInBounds_toArray, List.set_cons_zero, List.set_cons_succ]
            refine wpAnyH_take (i := 11) (oi := ?od_11) (v := ?vd_11) ?hid_11 (by kernel_rfl) (by kernel_rfl) (by kernel_rfl) ?hqd_11 ?hyd_11 (by assumption) ?rd_11
            case hid_11 => (simp only [List.getElem?_toArray, List.getElem?_cons_succ, List.getElem?_cons_zero]; rfl)
            case hqd_11 => exact fun _ _ _ h => h
            case hyd_11 =>
              first
                | (refine Or.inl ⟨by rfl, ?_⟩; intro wq hSw; (try dsimp only at hSw); go_simp; (try with_reducible rfl); done)
                | (refine Or.inr ⟨by rfl, ?_⟩; with_reducible rfl)
            try simp only [Act.put, List.setIfInBounds_toArray, List.set_cons_zero, List.set_cons_succ]
            refine wpAnyH_take (i := 12) (oi := ?od_12) (v := ?vd_12) ?hid_12 (by kernel_rfl) (by kernel_rfl) (by kernel_rfl) ?hqd_12 ?hyd_12 (by assumption) ?rd_12
            case hid_12 => (simp only [List.getElem?_toArray, List.getElem?_cons_succ, List.getElem?_cons_zero]; rfl)
            case hqd_12 => exact fun _ _ _ h => h
            case hyd_12 =>
              first
                | (refine Or.inl ⟨by rfl, ?_⟩; intro wq hSw; (try dsimp only at hSw); go_simp; (try with_reducible rfl); done)
                | (refine Or.inr ⟨by rfl, ?_⟩; with_reducible rfl)
            try simp only [Act.put, List.setIfInBounds_toArray, List.set_cons_zero, List.set_cons_succ]
            refine wpAnyH_take (i := 13) (oi := ?od_13) (v := ?vd_13) ?hid_13 (by kernel_rfl) (by kernel_rfl) (by kernel_rfl) ?hqd_13 ?hyd_13 (by assumption) ?rd_13
            case hid_13 => (simp only [List.getElem?_toArray, List.getElem?_cons_succ, List.getElem?_cons_zero]; rfl)
            case hqd_13 => exact fun _ _ _ h => h
            case hyd_13 =>
              first
                | (refine Or.inl ⟨by rfl, ?_⟩; intro wq hSw; (try dsimp only at hSw); go_simp; (try with_reducible rfl); done)
                | (refine Or.inr ⟨by rfl, ?_⟩; with_reducible rfl)
            try simp only [Act.put, List.setIfInBounds_toArray, List.set_cons_zero, List.set_cons_succ]
            refine wpAnyH_take (i := 14) (oi := ?od_14) (v := ?vd_14) ?hid_14 (by kernel_rfl) (by kernel_rfl) (by kernel_rfl) ?hqd_14 ?hyd_14 (by assumption) ?rd_14
            case hid_14 => (simp only [List.getElem?_toArray, List.getElem?_cons_succ, List.getElem?_cons_zero]; rfl)
            case hqd_14 => exact fun _ _ _ h => h
            case hyd_14 =>
              first
                | (refine Or.inl ⟨by rfl, ?_⟩; intro wq hSw; (try dsimp only at hSw); go_simp; (try with_reducible rfl); done)
                | (refine Or.inr ⟨by rfl, ?_⟩; with_reducible rfl)
            try simp only [Act.put, List.setIfInBounds_toArray, List.set_cons_zero, List.set_cons_succ]
            refine wpAnyH_take (i := 15) (oi := ?od_15) (v := ?vd_15) ?hid_15 (by kernel_rfl) (by kernel_rfl) (by kernel_rfl) ?hqd_15 ?hyd_15 (by assumption) ?rd_15
            case hid_15 => (simp only [List.getElem?_toArray, List.getElem?_cons_succ, List.getElem?_cons_zero]; rfl)
            case hqd_15 => exact fun _ _ _ h => h
            case hyd_15 =>
              first
                | (refine Or.inl ⟨by rfl, ?_⟩; intro wq hSw; (try dsimp only at hSw); go_simp; (try with_reducible rfl); done)
                | (refine Or.inr ⟨by rfl, ?_⟩; with_reducible rfl)
            try simp only [Act.put, List.setIfInBounds_toArray, List.set_cons_zero, List.set_cons_succ]
            refine wpAnyH_take (i := 16) (oi := ?od_16) (v := ?vd_16) ?hid_16 (by kernel_rfl) (by kernel_rfl) (by kernel_rfl) ?hqd_16 ?hyd_16 (by assumption) ?rd_16
            case hid_16 => (simp only [List.getElem?_toArray, List.getElem?_cons_succ, List.getElem?_cons_zero]; rfl)
            case hqd_16 => exact fun _ _ _ h => h
            case hyd_16 =>
              first
                | (refine Or.inl ⟨by rfl, ?_⟩; intro wq hSw; (try dsimp only at hSw); go_simp; (try with_reducible rfl); done)
                | (refine Or.inr ⟨by rfl, ?_⟩; with_reducible rfl)
            try simp only [Act.put, List.setIfInBounds_toArray, List.set_cons_zero, List.set_cons_succ]
            refine wpAnyH_take (i := 17) (oi := ?od_17) (v := ?vd_17) ?hid_17 (by kernel_rfl) (by kernel_rfl) (by kernel_rfl) ?hqd_17 ?hyd_17 (by assumption) ?rd_17
            case hid_17 => (simp only [List.getElem?_toArray, List.getElem?_cons_succ, List.getElem?_cons_zero]; rfl)
            case hqd_17 => exact fun _ _ _ h => h
            case hyd_17 =>
              first
                | (refine Or.inl ⟨by rfl, ?_⟩; intro wq hSw; (try dsimp only at hSw); go_simp; (try with_reducible rfl); done)
                | (refine Or.inr ⟨by rfl, ?_⟩; with_reducible rfl)
            try simp only [Act.put, List.setIfInBounds_toArray, List.set_cons_zero, List.set_cons_succ]
            refine wpAnyH_take (i := 18) (oi := ?od_18) (v := ?vd_18) ?hid_18 (by kernel_rfl) (by kernel_rfl) (by kernel_rfl) ?hqd_18 ?hyd_18 (by assumption) ?rd_18
            case hid_18 => (simp only [List.getElem?_toArray, List.getElem?_cons_succ, List.getElem?_cons_zero]; rfl)
            case hqd_18 => exact fun _ _ _ h => h
            case hyd_18 =>
              first
                | (refine Or.inl ⟨by rfl, ?_⟩; intro wq hSw; (try dsimp only at hSw); go_simp; (try with_reducible rfl); done)
                | (refine Or.inr ⟨by rfl, ?_⟩; with_reducible rfl)
            try simp only [Act.put, List.setIfInBounds_toArray, List.set_cons_zero, List.set_cons_succ]
            refine wpAnyH_take (i := 19) (oi := ?od_19) (v := ?vd_19) ?hid_19 (by kernel_rfl) (by kernel_rfl) (by kernel_rfl) ?hqd_19 ?hyd_19 (by assumption) ?rd_19
            case hid_19 => (simp only [List.getElem?_toArray, List.getElem?_cons_succ, List.getElem?_cons_zero]; rfl)
            case hqd_19 => exact fun _ _ _ h => h
            case hyd_19 =>
              first
                | (refine Or.inl ⟨by rfl, ?_⟩; intro wq hSw; (try dsimp only at hSw); go_simp; (try with_reducible rfl); done)
                | (refine Or.inr ⟨by rfl, ?_⟩; with_reducible rfl)
            try simp only [Act.put, List.setIfInBounds_toArray, List.set_cons_zero, List.set_cons_succ]
            refine wpAnyH_take (i := 20) (oi := ?od_20) (v := ?vd_20) ?hid_20 (by kernel_rfl) (by kernel_rfl) (by kernel_rfl) ?hqd_20 ?hyd_20 (by assumption) ?rd_20
            case hid_20 => (simp only [List.getElem?_toArray, List.getElem?_cons_succ, List.getElem?_cons_zero]; rfl)
            case hqd_20 => exact fun _ _ _ h => h
            case hyd_20 =>
              first
                | (refine Or.inl ⟨by rfl, ?_⟩; intro wq hSw; (try dsimp only at hSw); go_simp; (try with_reducible rfl); done)
                | (refine Or.inr ⟨by rfl, ?_⟩; with_reducible rfl)
            try simp only [Act.put, List.setIfInBounds_toArray, List.set_cons_zero, List.set_cons_succ]
            refine wpAnyH_take (i := 21) (oi := ?od_21) (v := ?vd_21) ?hid_21 (by kernel_rfl) (by kernel_rfl) (by kernel_rfl) ?hqd_21 ?hyd_21 (by assumption) ?rd_21
            case hid_21 => (simp only [List.getElem?_toArray, List.getElem?_cons_succ, List.getElem?_cons_zero]; rfl)
            case hqd_21 => exact fun _ _ _ h => h
            case hyd_21 =>
              first
                | (refine Or.inl ⟨by rfl, ?_⟩; intro wq hSw; (try dsimp only at hSw); go_simp; (try with_reducible rfl); done)
                | (refine Or.inr ⟨by rfl, ?_⟩; with_reducible rfl)
            try simp only [Act.put, List.setIfInBounds_toArray, List.set_cons_zero, List.set_cons_succ]
            refine wpAnyH_take (i := 22) (oi := ?od_22) (v := ?vd_22) ?hid_22 (by kernel_rfl) (by kernel_rfl) (by kernel_rfl) ?hqd_22 ?hyd_22 (by assumption) ?rd_22
            case hid_22 => (simp only [List.getElem?_toArray, List.getElem?_cons_succ, List.getElem?_cons_zero]; rfl)
            case hqd_22 => exact fun _ _ _ h => h
            case hyd_22 =>
              first
                | (refine Or.inl ⟨by rfl, ?_⟩; intro wq hSw; (try dsimp only at hSw); go_simp; (try with_reducible rfl); done)
                | (refine Or.inr ⟨by rfl, ?_⟩; with_reducible rfl)
            try simp only [Act.put, List.setIfInBounds_toArray, List.set_cons_zero, List.set_cons_succ]
            refine wpAnyH_take (i := 23) (oi := ?od_23) (v := ?vd_23) ?hid_23 (by kernel_rfl) (by kernel_rfl) (by kernel_rfl) ?hqd_23 ?hyd_23 (by assumption) ?rd_23
            case hid_23 => (simp only [List.getElem?_toArray, List.getElem?_cons_succ, List.getElem?_cons_zero]; rfl)
            case hqd_23 => exact fun _ _ _ h => h
            case hyd_23 =>
              first
                | (refine Or.inl ⟨by rfl, ?_⟩; intro wq hSw; (try dsimp only at hSw); go_simp; (try with_reducible rfl); done)
                | (refine Or.inr ⟨by rfl, ?_⟩; with_reducible rfl)
            try simp only [Act.put, List.setIfInBounds_toArray, List.set_cons_zero, List.set_cons_succ]
            refine wpAnyH_take (i := 24) (oi := ?od_24) (v := ?vd_24) ?hid_24 (by kernel_rfl) (by kernel_rfl) (by kernel_rfl) ?hqd_24 ?hyd_24 (by assumption) ?rd_24
            case hid_24 => (simp only [List.getElem?_toArray, List.getElem?_cons_succ, List.getElem?_cons_zero]; rfl)
            case hqd_24 => exact fun _ _ _ h => h
            case hyd_24 =>
              first
                | (refine Or.inl ⟨by rfl, ?_⟩; intro wq hSw; (try dsimp only at hSw); go_simp; (try with_reducible rfl); done)
                | (refine Or.inr ⟨by rfl, ?_⟩; with_reducible rfl)
            try simp only [Act.put, List.setIfInBounds_toArray, List.set_cons_zero, List.set_cons_succ]
            refine wpAnyH_take (i := 25) (oi := ?od_25) (v := ?vd_25) ?hid_25 (by kernel_rfl) (by kernel_rfl) (by kernel_rfl) ?hqd_25 ?hyd_25 (by assumption) ?rd_25
            case hid_25 => (simp only [List.getElem?_toArray, List.getElem?_cons_succ, List.getElem?_cons_zero]; rfl)
            case hqd_25 => exact fun _ _ _ h => h
            case hyd_25 =>
              first
                | (refine Or.inl ⟨by rfl, ?_⟩; intro wq hSw; (try dsimp only at hSw); go_simp; (try with_reducible rfl); done)
                | (refine Or.inr ⟨by rfl, ?_⟩; with_reducible rfl)
            try simp only [Act.put, List.setIfInBounds_toArray, List.set_cons_zero, List.set_cons_succ]
            refine wpAnyH_done (by kernel_rfl) ?_ _
            have B6 := Lib.hid (below_seq HB.out HD.out)
            clear KS HD BO hw1
            go_wp2
            go_ret
            exact ⟨ret_bool E.out.symm, B6.out⟩
    · have E := Lib.hid (show blocksOkB l z v = true by
        unfold blocksOkB
        rw [HF.out, goodAll_take _ (fun j hj => HG.out j (by omega))]; rfl)
      go_wp2
      go_ret
      exact ⟨ret_bool E.out.symm, HB.out⟩
end Go.Proofs.Ytmkgddbdkpkgpaa
end
