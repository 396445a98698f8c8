/- NetFault, NetSorts, in the program and in the model. -/
import Derived.Test.YtkifndcfmmdkpaaNeG
namespace Go.Proofs.Ytkifndcfmmdkpaa
open Go.RowKit
set_option linter.unusedVariables false
set_option maxRecDepth 100000

/-- What the search for a fault leaves: nil if there is none, else the list, in memory of its own. -/
def FaultRet (m : NetM) (w : World) (e : Ending) (w' : World) : Prop :=
  ((faultK m = none ∧ e = .returned (.slice none 0 0)) ∨ (∃ k g n cap, faultK m = some k ∧ e = .returned (.slice (some ⟨g, 0, none⟩) n cap) ∧ n = m.n.toNat ∧ IntSOwn w.heap.size w'.heap.size [.slice (some ⟨g, 0, none⟩) n cap] (digitsM k m.n.toNat) w')) ∧ Below w.heap.size w w'
theorem two_shl (n : Nat) (h : n ≤ 12) : (2 ^ n : Nat) ≤ 4096 := Nat.pow_le_pow_right (n := 2) (by omega) h
set_option maxHeartbeats 4000000 in
theorem implFault (b : Nat) (c : Value) (m : NetM) (w : World) (h : NetAt w b c m) (hp : provB m = true) : Calls Try.prog 56 #[.pointer (some ⟨b, 0, none⟩)] w (FaultRet m w) := by
  obtain ⟨n, hn, h1, h2, h3, h4, _⟩ := provB_ok hp
  have hz : w.cell? ⟨b, 0, none⟩ = some (.int .i64 n) := by rw [← hn]; exact cur_cell h.1 0
  have A := Lib.hid h
  have PV : Hid (m.n = (n : Int)) := Lib.hid hn
  have RN := Lib.hid (fun l cl w' (hb : Below w.heap.size w w') (hl : IntSIn [cl] l w') (hle : l.length = n) => implRun b c cl m l w' (h.below hb) hl (by omega) (by omega) (by rw [hle]; exact h3))
  have eN : m.n.toNat = n := by omega
  have FS := Lib.hid (fun k => @faultK_some m k)
  have FN := Lib.hid (@faultK_none m)
  have FA : Hid (∀ k, faultAt m k = !sortedB (runW m.ws (digitsM k n))) := Lib.hid (fun k => by unfold faultAt; rw [eN])
  rw [eN] at FS FN
  have EN := Lib.hid eN
  have P12 := two_shl n h2
  obtain ⟨N, hN⟩ : ∃ N, N = 2 ^ n := ⟨_, rfl⟩
  have hw : wrap64 ((2 : Int) ^ n) = (N : Int) := by
    have e : ((2 : Int) ^ n) = (N : Int) := by rw [hN]; simp
    rw [e]; unfold wrap64; omega
  have hw2 : IntKind.i64.wrap ((2 : Int) ^ n) = (N : Int) := by
    have e : ((2 : Int) ^ n) = (N : Int) := by rw [hN]; simp
    rw [e]; exact wrap_small _ (by omega) (by omega)
  rw [← hN] at FS FN P12
  have HN := Lib.hid hN
  clear h h3 h4 hp hn eN hN
  go_enter Try.func56, Try.ntmps56
  go_wp2
  go_loopw [10, 3, 4] (fun i _ _ wr => ∃ k : Nat, k ≤ N ∧ i = .int .i64 k ∧ Hid (Below w.heap.size w wr ∧ ∀ j, j < k → faultAt m j = false)) (fun i _ _ _ => N - (intOf i).toNat)
  case atStart => exact ⟨0, Nat.zero_le _, rfl, Lib.hid ⟨Below.refl _ _, fun j hj => absurd hj (by omega)⟩⟩
  case round =>
    clear hz hw hw2
    obtain ⟨k, hk, rfl, H⟩ := hrel
    by_cases hlt : k < N
    · have hz : wr.cell? ⟨b, 0, none⟩ = some (.int .i64 n) := by rw [← PV.out]; exact cur_cell (A.out.below H.out.1).1 0
      have D := Lib.hid (implDigits k n wr h1 h2 (by rw [← HN.out]; exact hlt))
      go_wp2_with fail
      refine D.out.mono ?_
      rintro e w1 ⟨g, rfl, ho, hb1⟩
      have R1 := Lib.hid (RN.out _ _ w1 (below_seq H.out.1 hb1) ho.read (digitsM_length k n))
      have O1 := Lib.hid (ho.lies (Nat.le_refl _))
      have B1 := Lib.hid (below_seq H.out.1 hb1)
      have S1 : Hid (w.heap.size ≤ wr.heap.size) := Lib.hid H.out.1.size
      clear ho hb1 D hz
      go_wp2_with fail
      refine R1.out.mono ?_
      rintro e w2 ⟨d, rfl, ho, hb2⟩
      obtain ⟨x, xn, xc, rfl⟩ := ho.shape
      have IS := Lib.hid (implIsSorted _ _ w2 ho.read (by rw [runW_length, digitsM_length]; exact h1) (by rw [runW_length, digitsM_length]; omega))
      have B2 := Lib.hid (below_seq B1.out hb2)
      have O2 := Lib.hid (O1.out.below hb2)
      clear ho hb2 R1 O1 B1
      cases hs : sortedB (runW m.ws (digitsM k n)) with
      | true =>
        rw [hs] at IS
        have NF : Hid (∀ j, j < k + 1 → faultAt m j = false) := Lib.hid (fun j hj => by
          by_cases e : j = k
          · subst e; rw [FA.out, hs]; rfl
          · exact H.out.2 j (by omega))
        clear hs
        go_wp2_with fail
        refine IS.out.mono ?_
        rintro e w3 ⟨rfl, hb3⟩
        have B3 := Lib.hid (below_seq B2.out hb3)
        clear hb3
        go_wp2
        go_roundw
        case rel => exact ⟨k + 1, by omega, by go_num, Lib.hid ⟨B3.out, NF.out⟩⟩
        case measure => simp [intOf]; omega
      | false =>
        rw [hs] at IS
        have NF : Hid (faultK m = some k) := Lib.hid (FS.out k hlt (by rw [FA.out, hs]; rfl) H.out.2)
        clear hs
        go_wp2_with fail
        refine IS.out.mono ?_
        rintro e w3 ⟨rfl, hb3⟩
        have B3 := Lib.hid (below_seq B2.out hb3)
        have O3 := Lib.hid (O2.out.below hb3)
        clear hb3
        go_wp2
        go_ret
        exact ⟨.inr ⟨k, g, n, n, NF.out, rfl, EN.out.symm, by rw [EN.out]; exact O3.out.now.wide S1.out (O3.out.top)⟩, B3.out⟩
    · have NF : Hid (faultK m = none) := Lib.hid (FN.out (fun j hj => H.out.2 j (by omega)))
      go_wp2
      go_ret
      exact ⟨.inl ⟨NF.out, rfl⟩, H.out.1⟩
set_option maxHeartbeats 1000000 in
theorem implProvable (b : Nat) (c : Value) (m : NetM) (w : World) (h : NetAt w b c m) : Calls Try.prog 55 #[.pointer (some ⟨b, 0, none⟩)] w fun e w' => e = .returned (.bool (provB m)) ∧ Below w.heap.size w w' := by
  have V := Lib.hid (implValid b c m w h)
  have A := Lib.hid h
  clear h
  cases hv : netOkB m with
  | false =>
    have E : Hid (provB m = false) := Lib.hid (by unfold provB; simp [hv])
    rw [hv] at V
    clear hv
    go_enter Try.func55, Try.ntmps55
    go_wp2_with fail
    refine V.out.mono ?_
    rintro e w1 ⟨rfl, hb⟩
    go_wp2
    go_ret
    exact ⟨by rw [E.out]; rfl, hb⟩
  | true =>
    rw [hv] at V
    by_cases hn : m.n ≤ 12
    · have E : Hid (provB m = true) := Lib.hid (by unfold provB; simp [hv, hn])
      clear hv
      go_enter Try.func55, Try.ntmps55
      go_wp2_with fail
      refine V.out.mono ?_
      rintro e w1 ⟨rfl, hb⟩
      have hz : w1.cell? ⟨b, 0, none⟩ = some (.int .i64 m.n) := cur_cell (A.out.below hb).1 0
      go_wp2
      go_ret
      exact ⟨by rw [E.out]; rfl, hb⟩
    · have E : Hid (provB m = false) := Lib.hid (by unfold provB; simp [hv]; omega)
      clear hv
      go_enter Try.func55, Try.ntmps55
      go_wp2_with fail
      refine V.out.mono ?_
      rintro e w1 ⟨rfl, hb⟩
      have hz : w1.cell? ⟨b, 0, none⟩ = some (.int .i64 m.n) := cur_cell (A.out.below hb).1 0
      go_wp2
      go_ret
      exact ⟨by rw [E.out]; exact congrArg (fun b => Ending.returned (Value.bool b)) (decide_eq_false (by omega)), hb⟩
theorem faultM_no {m : NetM} (h : provB m = false) : faultM m = [] := by unfold faultM; simp [h]
theorem faultM_none {m : NetM} (h : faultK m = none) : faultM m = [] := by unfold faultM; simp [h]
theorem faultM_some {m : NetM} {k : Nat} (hp : provB m = true) (h : faultK m = some k) : faultM m = digitsM k m.n.toNat := by unfold faultM; simp [h, hp]
set_option maxHeartbeats 1000000 in
theorem uImplNetFault (c0 c1 : Value) (m : NetM) (w : World) (h : NetIn [c0, c1] m w) : Calls Try.prog 20 #[.agg #[c0, c1]] w (IntSRet (faultM m) w) := by
  have V := Lib.hid (implProvable w.heap.size c1 m _ (NetAt.box h))
  have A := Lib.hid (NetAt.box h)
  obtain ⟨a1, k1, rfl, rfl, _⟩ := netIn_cells h
  have B0 := Lib.hid (below_box (Below.refl w.heap.size w) (.cells #[.int .i64 m.n, .slice a1 m.ws.length k1] 26))
  clear h
  cases hp : provB m with
  | true =>
    have RN := Lib.hid (fun w' (hb : Below (w.heap.size + 1) (w.alloc (.cells #[.int .i64 m.n, .slice a1 m.ws.length k1] 26)) w') => implFault w.heap.size _ m w' (A.out.below (by rw [size_box]; exact hb)) hp)
    rw [hp] at V
    have HP := Lib.hid hp
    clear hp
    go_enter Try.func20, Try.ntmps20
    go_wp2_with fail
    refine V.out.mono ?_
    rintro e w1 ⟨rfl, hb⟩
    have R1 := Lib.hid (RN.out w1 (by rw [size_box] at hb; exact hb))
    have B1 := Lib.hid (below_seq B0.out hb)
    clear hb RN V A
    go_wp2_with fail
    refine R1.out.mono ?_
    rintro e w2 ⟨hd, hb2⟩
    have B2 := Lib.hid (below_seq B1.out hb2)
    rcases hd with ⟨hk, rfl⟩ | ⟨k, g, n, cap, hk, rfl, hn, ho⟩
    · have HK := Lib.hid hk
      clear hk
      go_wp2
      go_ret
      exact ⟨_, rfl, by rw [faultM_none HK.out]; exact IntSOwn.nil _ _ _, B2.out⟩
    · have O := Lib.hid (ho.wide (lo' := w.heap.size) B1.out.size (Nat.le_refl _))
      have HK := Lib.hid (faultM_some HP.out hk)
      clear hk hn ho
      go_wp2
      go_ret
      exact ⟨_, rfl, by rw [HK.out]; exact O.out, B2.out⟩
  | false =>
    rw [hp] at V
    have E := Lib.hid (faultM_no hp)
    clear hp
    go_enter Try.func20, Try.ntmps20
    go_wp2_with fail
    refine V.out.mono ?_
    rintro e w1 ⟨rfl, hb⟩
    have B1 := Lib.hid (below_seq B0.out hb)
    clear hb V A
    go_wp2
    go_ret
    exact ⟨_, rfl, by rw [E.out]; exact IntSOwn.nil _ _ _, B1.out⟩
set_option maxHeartbeats 1000000 in
theorem uImplNetSorts (c0 c1 : Value) (m : NetM) (w : World) (h : NetIn [c0, c1] m w) : Calls Try.prog 19 #[.agg #[c0, c1]] w fun e w' => e = .returned (.bool (sortsB m)) ∧ Below w.heap.size w w' := by
  have V := Lib.hid (implProvable w.heap.size c1 m _ (NetAt.box h))
  have A := Lib.hid (NetAt.box h)
  obtain ⟨a1, k1, rfl, rfl, _⟩ := netIn_cells h
  have B0 := Lib.hid (below_box (Below.refl w.heap.size w) (.cells #[.int .i64 m.n, .slice a1 m.ws.length k1] 26))
  have hnil : ∀ W a n c, (binOp .eql 28 (.slice a n c) (.slice none 0 0)).run Try.prog W = .ok (.bool a.isNone) W := fun W a n c => Lib.run_eql_slice_nil W _ _ _ _ _ _ _ Try.underlying28
  clear h
  cases hp : provB m with
  | true =>
    have RN := Lib.hid (fun w' (hb : Below (w.heap.size + 1) (w.alloc (.cells #[.int .i64 m.n, .slice a1 m.ws.length k1] 26)) w') => implFault w.heap.size _ m w' (A.out.below (by rw [size_box]; exact hb)) hp)
    rw [hp] at V
    have HP := Lib.hid hp
    clear hp
    go_enter Try.func19, Try.ntmps19
    go_wp2_with fail
    refine V.out.mono ?_
    rintro e w1 ⟨rfl, hb⟩
    have R1 := Lib.hid (RN.out w1 (by rw [size_box] at hb; exact hb))
    have B1 := Lib.hid (below_seq B0.out hb)
    clear hb RN V A
    go_wp2_with fail
    refine R1.out.mono ?_
    rintro e w2 ⟨hd, hb2⟩
    have B2 := Lib.hid (below_seq B1.out hb2)
    rcases hd with ⟨hk, rfl⟩ | ⟨k, g, n, cap, hk, rfl, hn, ho⟩
    · have E : Hid (sortsB m = true) := Lib.hid (by unfold sortsB; rw [HP.out, hk]; rfl)
      clear hk
      go_wp2
      go_ret
      exact ⟨by rw [E.out]; rfl, B2.out⟩
    · have E : Hid (sortsB m = false) := Lib.hid (by unfold sortsB; rw [HP.out, hk]; rfl)
      clear hk hn ho
      go_wp2
      go_ret
      exact ⟨by rw [E.out]; rfl, B2.out⟩
  | false =>
    rw [hp] at V
    have E : Hid (sortsB m = false) := Lib.hid (by unfold sortsB; rw [hp]; rfl)
    clear hp
    go_enter Try.func19, Try.ntmps19
    go_wp2_with fail
    refine V.out.mono ?_
    rintro e w1 ⟨rfl, hb⟩
    have B1 := Lib.hid (below_seq B0.out hb)
    clear hb V A
    go_wp2
    go_ret
    exact ⟨by rw [E.out]; rfl, B1.out⟩
end Go.Proofs.Ytkifndcfmmdkpaa
