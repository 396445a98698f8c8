/- TrS in one. Written by tools/join2.py. -/
import Derived.Test.YtmkgddbdkpkgpaaJS2
import Derived.Test.YtmkgddbdkpkgpaaJS16
import Derived.Test.YtmkgddbdkpkgpaaJS4
import Derived.Deep.DeepMust
import Derived.Deep.LoopGhost
import Derived.Deep.QuietTactic
section
namespace Go.Proofs.Ytmkgddbdkpkgpaa
open Go.RowKit
set_option linter.unusedVariables false
set_option linter.unusedSimpArgs false
set_option maxRecDepth 100000

/-- A row of one that is laid as a literal. -/
theorem own_one {base : Nat} (w : World) (v : Value) (e : TypeId) (hb : base ≤ w.heap.size) : (w.alloc (.cells #[v] e)).ownsRow base e 1 (.slice (some ⟨w.heap.size, 0, none⟩) 1 1) 1 [v] :=
  ⟨rfl, .inr ⟨w.heap.size, 1, #[v], rfl, hb, heap_alloc_new w _, Nat.le_refl _, by unfold maxLen; omega, rfl, rfl⟩⟩
theorem IntSOwn.nil (lo hi : Nat) (w : World) : IntSOwn lo hi [.slice none 0 0] [] w := ⟨none, 0, rfl, ⟨rfl, .inl ⟨rfl, rfl⟩⟩, fun k hk => by simp [Value.ownBlock] at hk⟩
theorem pathZ_bd (z l : Int) : szIntS (pathZ z l) ≤ 1000000000000 := by
  unfold szIntS
  cases h : leafB z l
  · rw [pathZ_no h]; simp
  · obtain ⟨g, a, rfl, rfl, hg, ha⟩ := leafB_ok h
    rw [pathZ_length hg ha]; omega
theorem specLog (z : Int) (w : World) : Calls Try.prog 77 #[.int .i64 z] w fun e w' => e = .returned (.bool (logB z)) ∧ w = w' := by
  unfold logB
  by_cases h0 : 0 ≤ z
  · by_cases h1 : z ≤ 6
    · go_enter Try.func77, Try.ntmps77
      go_wp2
      go_ret
      exact ⟨ret_bool (by simp [h0, h1]), rfl⟩
    · go_enter Try.func77, Try.ntmps77
      go_wp2
      go_ret
      exact ⟨ret_bool (by simp [h0, h1]), rfl⟩
  · go_enter Try.func77, Try.ntmps77
    go_wp2
    go_ret
    exact ⟨ret_bool (by simp; omega), rfl⟩
theorem specLeaf (z l : Int) (w : World) : Calls Try.prog 59 #[.int .i64 z, .int .i64 l] w fun e w' => e = .returned (.bool (leafB z l)) ∧ w = w' := by
  have LG := Lib.hid (fun w => specLog z w)
  cases hz : logB z
  · have E := Lib.hid (show leafB z l = false by unfold leafB; rw [hz]; rfl)
    rw [hz] at LG
    clear hz
    go_enter Try.func59, Try.ntmps59
    go_wp2_with fail
    refine (LG.out _).mono ?_
    rintro e w1 ⟨rfl, rfl⟩
    go_wp2
    go_ret
    exact ⟨ret_bool E.out.symm, rfl⟩
  · obtain ⟨g, rfl, hg⟩ := logB_ok hz
    rw [hz] at LG
    have PW := Lib.hid (fun w => specPow16 g w (by omega))
    by_cases h0 : 0 ≤ l
    · have E := Lib.hid (show leafB g l = decide (l < ((2 ^ g : Nat) : Int)) by unfold leafB; rw [hz, decide_eq_true h0]; simp)
      clear hz
      obtain ⟨p, hp⟩ : ∃ p, 2 ^ g = p := ⟨_, rfl⟩
      rw [hp] at PW E
      clear hp
      go_enter Try.func59, Try.ntmps59
      go_wp2_with fail
      refine (LG.out _).mono ?_
      rintro e w1 ⟨rfl, rfl⟩
      go_wp2_with fail
      refine (PW.out _).mono ?_
      rintro e w1 ⟨rfl, rfl⟩
      go_wp2
      go_ret
      exact ⟨ret_bool E.out.symm, rfl⟩
    · have E := Lib.hid (show leafB g l = false by unfold leafB; rw [decide_eq_false h0]; simp)
      clear hz
      go_enter Try.func59, Try.ntmps59
      go_wp2_with fail
      refine (LG.out _).mono ?_
      rintro e w1 ⟨rfl, rfl⟩
      go_wp2
      go_ret
      exact ⟨ret_bool E.out.symm, rfl⟩
set_option maxHeartbeats 2000000 in
theorem uSpecPathNodes (z l : Int) (w : World) (b0 : -9223372036854775808 ≤ z ∧ z ≤ 9223372036854775807) (b1 : -9223372036854775808 ≤ l ∧ l ≤ 9223372036854775807) : Calls Try.prog 24 #[.int .i64 z, .int .i64 l] w (IntSRet (pathZ z l) w) := by
  have LF := Lib.hid (fun w => specLeaf z l w)
  cases hz : leafB z l
  · have E := Lib.hid (pathZ_no hz)
    rw [hz] at LF
    clear hz
    go_enter Try.func24, Try.ntmps24
    go_wp2_with fail
    refine (LF.out _).mono ?_
    rintro e w1 ⟨rfl, rfl⟩
    go_wp2
    go_ret
    exact ⟨_, rfl, by rw [E.out]; exact IntSOwn.nil _ _ _, Below.refl _ _⟩
  · obtain ⟨g, a, rfl, rfl, hg, ha⟩ := leafB_ok hz
    rw [hz] at LF
    have PW := Lib.hid (fun w => specPow16 g w (by omega))
    have E := Lib.hid (show pathZ g a = (upN (2 ^ g + a) (g + 1)).map (fun n : Nat => (n : Int)) by rw [pathZ_at hg ha, upN_path])
    have hp64 := pow_64 hg
    have HP := Lib.hid (fun k (hk : k ≤ g) => halve_pos ha hk)
    have HE := Lib.hid (halve_end ha)
    clear hz b0 b1
    obtain ⟨p, hp⟩ : ∃ p, 2 ^ g = p := ⟨_, rfl⟩
    rw [hp] at PW E hp64 HP HE ha
    clear hp
    have S0 := Lib.hid (World.ownsRow_made (base := w.heap.size) (e := 3) (size := 1) w #[] 0 (Nat.le_refl _) (by unfold maxLen; omega) rfl)
    go_enter Try.func24, Try.ntmps24
    go_wp2_with fail
    refine (LF.out _).mono ?_
    rintro e w1 ⟨rfl, rfl⟩
    go_wp2_with fail
    refine (PW.out _).mono ?_
    rintro e w1 ⟨rfl, rfl⟩
    clear LF PW
    have hN : p + a < 128 := by omega
    have SS := Lib.hid (show (w.alloc (.cells #[] 3)).ownsRow w.heap.size 3 1 (.slice (some ⟨w.heap.size, 0, none⟩) 0 0) 0 ((upN (p + a) 0).map (fun n : Nat => ival (n : Int))) ∧ Below w.heap.size w (w.alloc (.cells #[] 3)) from ⟨S0.out, below_box (Below.refl _ w) _⟩)
    clear S0
    go_wp2_with fail
    go_loopg [5, 6] (g + 1) (fun kk o nv wr => ∃ (k cp : Nat) (ad : Option Addr), k ≤ g + 1 ∧ g + 1 - k = kk ∧ o = .slice ad k cp ∧ nv = .int .i64 ((p + a) / 2 ^ k : Nat) ∧ Hid (wr.ownsRow w.heap.size 3 1 (.slice ad k cp) k ((upN (p + a) k).map (fun n : Nat => ival (n : Int))) ∧ Below w.heap.size w wr))
    case atStart => exact ⟨0, 0, _, Nat.zero_le _, rfl, rfl, by simp, SS⟩
    case round =>
      clear SS
      obtain ⟨k, cp, ad, hk, hkk, rfl, rfl, H⟩ := hrel
      have hq : (p + a) / 2 ^ k ≤ 127 := Nat.le_trans (Nat.div_le_self _ _) (by omega)
      by_cases hlt : k ≤ g
      · have h1 := HP.out k hlt
        have NX := Lib.hid (halve_next (p + a) k)
        have UP := Lib.hid (show upN (p + a) (k + 1) = (p + a) / 2 ^ k :: upN (p + a) k from rfl)
        obtain ⟨q, hqq⟩ : ∃ q, (p + a) / 2 ^ k = q := ⟨_, rfl⟩
        rw [hqq] at hq h1 NX UP ⊢
        clear hqq
        have hsz := H.out.2.size
        have OL := Lib.hid (own_one (base := w.heap.size) wr (.int .i64 q) 3 hsz)
        have RO := Lib.hid ((Row.of_own H.out.1).below (below_box (Below.refl _ wr) (.cells #[.int .i64 q] 3)))
        go_wp2_with (at_builtin; go_must (refine wp_app_row rfl _ _ 41 rfl 3 (.int .i64 0) 8 Try.underlying41 Try.info3 rfl w.heap.size 1 (.slice (some ⟨wr.heap.size, 0, none⟩) 1 1) [.int .i64 q] (by rfl) OL.out ad k cp ((upN (p + a) k).map (fun n : Nat => ival (n : Int))) (by rfl) (by simp [upN_length]) RO.out (fun v hv => by obtain ⟨n, _, rfl⟩ := List.mem_map.1 hv; rfl) (by unfold maxLen; omega) (by omega) (by simp; omega) ?_); intro v' w3 hown hgr)
        rw [Nat.add_comm 1 k] at hown
        obtain ⟨a', c', rfl⟩ := own_shape hown
        have Z := Lib.hid (And.intro (show w3.ownsRow w.heap.size 3 1 (.slice a' (k + 1) c') (k + 1) ((upN (p + a) (k + 1)).map (fun n : Nat => ival (n : Int))) by rw [UP.out]; exact hown) (H.out.2.trans (((Below.refl w.heap.size wr).alloc hsz (.cells #[.int .i64 q] 3)).grown hgr (by simp; omega) (fun g hg => (by cases hg; exact hsz)))))
        clear hown hgr OL RO H UP
        go_wp2
        go_roundg (g + 1 - (k + 1))
        case measure => omega
        case rel => exact ⟨k + 1, c', a', by omega, rfl, rfl, by rw [← NX.out]; go_num, Z⟩
      · have hkg : k = g + 1 := by omega
        subst hkg
        have h0 := HE.out
        rw [h0]
        have Z := Lib.hid (IntSOwn.mk (l := (upN (p + a) (g + 1)).map (fun n : Nat => (n : Int))) (by have := H.out.1; rw [List.map_map]; exact this))
        have B := Lib.hid H.out.2
        clear H h0
        go_wp2
        go_ret
        exact ⟨_, rfl, by rw [E.out]; exact Z.out, B.out⟩
theorem any_take {l : List Int} {n : Int} {k : Nat} (h : k < l.length) (h1 : (l.take k).any (fun m => decide (m = n)) = false) (h2 : l[k] ≠ n) : (l.take (k + 1)).any (fun m => decide (m = n)) = false := by
  rw [List.take_succ_eq_append_getElem h, List.any_append, h1]; simp [h2]
set_option maxHeartbeats 2000000 in
theorem uSpecOnPath (z n l : Int) (w : World) (b0 : -9223372036854775808 ≤ z ∧ z ≤ 9223372036854775807) (b1 : -9223372036854775808 ≤ n ∧ n ≤ 9223372036854775807) (b2 : -9223372036854775808 ≤ l ∧ l ≤ 9223372036854775807) : Calls Try.prog 23 #[.int .i64 z, .int .i64 n, .int .i64 l] w fun e w' => e = .returned (.bool (onZ z n l)) ∧ Below w.heap.size w w' := by
  have PN := Lib.hid (uSpecPathNodes z l w b0 b2)
  unfold onZ
  obtain ⟨L, hL⟩ : ∃ L, pathZ z l = L := ⟨_, rfl⟩
  rw [hL] at PN ⊢
  clear hL
  go_enter Try.func23, Try.ntmps23
  go_wp2_with fail
  refine PN.out.mono ?_
  rintro e w1 ⟨c, rfl, ho, hb⟩
  obtain ⟨a, cap, rfl, hcap, hm, r⟩ := intSIn_shape ho.read
  unfold maxLen at hm
  have R := Lib.hid r
  have B1 := Lib.hid hb
  clear ho hb r PN
  go_wp2_with fail
  go_loopg [8] L.length (fun kk i wr => ∃ k : Nat, k ≤ L.length ∧ L.length - k = kk ∧ i = .int .i64 k ∧ wr = w1 ∧ Hid ((L.take k).any (fun m => decide (m = n)) = false))
  case atStart => exact ⟨0, Nat.zero_le _, rfl, rfl, rfl, Lib.hid rfl⟩
  case round =>
    obtain ⟨k, hk, hkk, rfl, rfl, H⟩ := hrel
    by_cases hlt : k < L.length
    · obtain ⟨b, off, rfl, q⟩ := R.out.at (i := k) (by simpa using hlt)
      obtain ⟨x, hx⟩ : ∃ x, L[k] = x := ⟨_, rfl⟩
      rw [List.getElem?_map, List.getElem?_eq_getElem hlt, hx] at q
      replace q : wr.cell? ⟨b, off + k, none⟩ = some (.int .i64 x) := q
      have hk0 : (0 : Int) ≤ (k : Int) := by omega
      have hk1 : (k : Int) < (L.length : Int) := by omega
      by_cases he : x = n
      · have A := Lib.hid (show L.any (fun m => decide (m = n)) = true from List.any_eq_true.2 ⟨x, hx ▸ List.getElem_mem hlt, by simp [he]⟩)
        subst he
        clear H hx
        go_wp2
        go_ret
        exact ⟨ret_bool A.out.symm, B1.out⟩
      · have N := Lib.hid (any_take hlt H.out (by rw [hx]; exact he))
        clear H hx
        go_wp2
        go_roundg (L.length - (k + 1))
        case measure => omega
        case rel => exact ⟨k + 1, by omega, rfl, by go_num, rfl, N⟩
    · have A := Lib.hid (show L.any (fun m => decide (m = n)) = false by have := H.out; rwa [List.take_of_length_le (by omega)] at this)
      clear H
      go_wp2
      go_ret
      exact ⟨ret_bool A.out.symm, B1.out⟩
theorem mtN_lt (g a b : Nat) : ∀ k, mtN g a b k ≤ k
  | 0 => Nat.le_refl _
  | k + 1 => by
    unfold mtN
    split
    · omega
    · exact Nat.le_trans (mtN_lt g a b k) (Nat.le_succ k)
set_option maxHeartbeats 2000000 in
theorem uSpecMeet (z a b : Int) (w : World) (b0 : -9223372036854775808 ≤ z ∧ z ≤ 9223372036854775807) (b1 : -9223372036854775808 ≤ a ∧ a ≤ 9223372036854775807) (b2 : -9223372036854775808 ≤ b ∧ b ≤ 9223372036854775807) : Calls Try.prog 22 #[.int .i64 z, .int .i64 a, .int .i64 b] w fun e w' => e = .returned (.int .i64 (meetZ z a b)) ∧ Below w.heap.size w w' := by
  have FA := Lib.hid (fun w' => specLeaf z a w')
  have FB := Lib.hid (fun w' => specLeaf z b w')
  have PA := Lib.hid (fun w' => uSpecPathNodes z a w' b0 b1)
  have PB := Lib.hid (fun w' => uSpecPathNodes z b w' b0 b2)
  cases ha : leafB z a
  · have E := Lib.hid (meetZ_no (b := b) (.inl ha))
    rw [ha] at FA
    clear ha
    go_enter Try.func22, Try.ntmps22
    go_wp2_with fail
    refine (FA.out _).mono ?_
    rintro e w1 ⟨rfl, rfl⟩
    go_wp2
    go_ret
    exact ⟨ret_int E.out.symm, Below.refl _ _⟩
  cases hb : leafB z b
  · have E := Lib.hid (meetZ_no (a := a) (.inr hb))
    rw [ha] at FA
    rw [hb] at FB
    clear ha hb
    go_enter Try.func22, Try.ntmps22
    go_wp2_with fail
    refine (FA.out _).mono ?_
    rintro e w1 ⟨rfl, rfl⟩
    go_wp2_with fail
    refine (FB.out _).mono ?_
    rintro e w1 ⟨rfl, rfl⟩
    go_wp2
    go_ret
    exact ⟨ret_int E.out.symm, Below.refl _ _⟩
  rw [ha] at FA
  rw [hb] at FB
  obtain ⟨g, x, rfl, rfl, hg, hx⟩ := leafB_ok ha
  obtain ⟨g', y, e1, rfl, _, hy⟩ := leafB_ok hb
  have e2 : g = g' := by omega
  subst e2
  have E := Lib.hid (meetZ_at hg hx hy)
  have LA := Lib.hid (pathZ_length hg hx)
  have LB := Lib.hid (pathZ_length hg hy)
  have GA := Lib.hid (fun i (hi : i < (pathZ g x).length) => pathZ_get hg hx hi)
  have GB := Lib.hid (fun i (hi : i < (pathZ g y).length) => pathZ_get hg hy hi)
  have MT := Lib.hid (fun k => show mtN g x y (k + 1) = if nd g x k = nd g y k then k else mtN g x y k by rw [mtN, beq_dec]; simp)
  have ML := Lib.hid (mtN_lt g x y)
  clear ha hb e1 hx hy
  obtain ⟨XA, hXA⟩ : ∃ XA, pathZ g x = XA := ⟨_, rfl⟩
  obtain ⟨XB, hXB⟩ : ∃ XB, pathZ g y = XB := ⟨_, rfl⟩
  rw [hXA] at PA LA GA
  rw [hXB] at PB LB GB
  clear hXA hXB
  go_enter Try.func22, Try.ntmps22
  go_wp2_with fail
  refine (FA.out _).mono ?_
  rintro e w1 ⟨rfl, rfl⟩
  go_wp2_with fail
  refine (FB.out _).mono ?_
  rintro e w1 ⟨rfl, rfl⟩
  go_wp2_with fail
  refine (PA.out _).mono ?_
  rintro e w1 ⟨c1, rfl, ho1, hb1⟩
  obtain ⟨a1, k1, rfl, _, _, r1⟩ := intSIn_shape ho1.read
  have B1 := Lib.hid hb1
  rw [LA.out]
  clear ho1 hb1 PA
  go_wp2_with fail
  refine (PB.out _).mono ?_
  rintro e w2 ⟨c2, rfl, ho2, hb2⟩
  obtain ⟨a2, k2, rfl, _, _, r2⟩ := intSIn_shape ho2.read
  have RA := Lib.hid (r1.below hb2)
  have RB := Lib.hid r2
  have B2 := Lib.hid (below_seq B1.out hb2)
  rw [LB.out]
  clear ho2 hb2 PB r1 r2 B1
  go_wp2_with fail
  go_loopg [9, 10] (g + 1) (fun kk mv iv wr => ∃ k : Nat, k ≤ g + 1 ∧ g + 1 - k = kk ∧ mv = .int .i64 (mtN g x y k) ∧ iv = .int .i64 k ∧ Hid (Below w2.heap.size w2 wr))
  case atStart => exact ⟨0, Nat.zero_le _, rfl, rfl, rfl, Lib.hid (Below.refl _ _)⟩
  case round =>
    obtain ⟨k, hk, hkk, rfl, rfl, HB⟩ := hrel
    have hml := ML.out k
    have MK := Lib.hid (MT.out k)
    by_cases hlt : k < g + 1
    · have hkA : k < XA.length := by rw [LA.out]; exact hlt
      have hkB : k < XB.length := by rw [LB.out]; exact hlt
      obtain ⟨d1, o1, rfl, q1⟩ := (RA.out.below HB.out).at (i := k) (by simpa using hkA)
      obtain ⟨d2, o2, rfl, q2⟩ := (RB.out.below HB.out).at (i := k) (by simpa using hkB)
      rw [List.getElem?_map, List.getElem?_eq_getElem hkA, GA.out k hkA] at q1
      rw [List.getElem?_map, List.getElem?_eq_getElem hkB, GB.out k hkB] at q2
      obtain ⟨u, hu⟩ : ∃ u, nd g x k = u := ⟨_, rfl⟩
      obtain ⟨v, hv⟩ : ∃ v, nd g y k = v := ⟨_, rfl⟩
      rw [hu] at q1 MK
      rw [hv] at q2 MK
      replace q1 : wr.cell? ⟨d1, o1 + k, none⟩ = some (.int .i64 u) := q1
      replace q2 : wr.cell? ⟨d2, o2 + k, none⟩ = some (.int .i64 v) := q2
      have hk0 : (0 : Int) ≤ (k : Int) := by omega
      have hk1 : (k : Int) < ((g + 1 : Nat) : Int) := by omega
      have hk2 : (k : Int) < (g : Int) + 1 := by omega
      obtain ⟨mm, hmm⟩ : ∃ mm, mtN g x y k = mm := ⟨_, rfl⟩
      rw [hmm] at MK hml ⊢
      clear hmm hu hv hkA hkB
      by_cases he : u = v
      · subst he
        have MY := Lib.hid (show mtN g x y (k + 1) = k by rw [MK.out, if_pos rfl])
        have hq : ((u : Int) == (u : Int)) = true := by simp
        clear MK
        go_wp2_with fail
        go_quiet (fail)
        go_wp2
        go_roundg (g + 1 - (k + 1))
        case measure => omega
        case rel => exact ⟨k + 1, by omega, rfl, by rw [MY.out], by go_num, Lib.hid (below_seq HB.out (belowN _))⟩
      · have MY := Lib.hid (show mtN g x y (k + 1) = mm by rw [MK.out, if_neg he])
        have hq : ((u : Int) == (v : Int)) = false := by simp; omega
        clear MK
        go_wp2_with fail
        go_quiet (fail)
        go_wp2
        go_roundg (g + 1 - (k + 1))
        case measure => omega
        case rel => exact ⟨k + 1, by omega, rfl, by rw [MY.out], by go_num, Lib.hid (below_seq HB.out (belowN _))⟩
    · have hkp : k = g + 1 := by omega
      subst hkp
      have B3 := Lib.hid (below_seq B2.out HB.out)
      clear MK
      go_wp2
      go_ret
      exact ⟨ret_int (by rw [E.out]), B3.out⟩
end Go.Proofs.Ytmkgddbdkpkgpaa
end
