/- Chapter 7 in the program: a number in all lanes, the lanes with a number, the first row of distances. -/
import Derived.Test.YtfdlmpjccoaejaaPlX
namespace Go.Proofs.Ytfdlmpjccoaejaa
open Go.RowKit
set_option linter.unusedVariables false
set_option maxRecDepth 100000

theorem all_neg (b : Bool) : IntKind.u64.wrap (-(((b.toNat : Nat)) : Int)) = ((allOf b : Nat) : Int) := by
  cases b
  · simp [allOf, IntKind.wrap_u64]
  · simp [allOf, IntKind.wrap_u64]
theorem and_bit (n i : Nat) (hn : n < 18446744073709551616) : bits .and .u64 ((n : Int) / 2 ^ i) 1 = (((n.testBit i).toNat : Nat) : Int) := by
  rw [show (n : Int) / 2 ^ i = ((n / 2 ^ i : Nat) : Int) from by simp, ← bitN, ← bit_and1]
  exact u64_and_nat _ 1 (Nat.lt_of_le_of_lt (Nat.div_le_self _ _) hn) (by omega)
theorem xor_max {x : Nat} (hx : x < 18446744073709551616) : bits .xor .u64 IntKind.u64.max (x : Int) = ((notN x : Nat) : Int) := by
  have e : 18446744073709551615 ^^^ x = notN x := by
    apply Nat.eq_of_testBit_eq
    intro i
    rw [Nat.testBit_xor, not_bit hx, show (18446744073709551615 : Nat) = 2 ^ 64 - 1 from by decide, Nat.testBit_two_pow_sub_one]
    by_cases h : i < 64
    · simp [h]
    · rw [bits_of_lt (n := 64) hx (by omega)]; simp [h]
  rw [← e]
  exact u64_xor_nat 18446744073709551615 x (by omega) hx
set_option maxHeartbeats 1000000 in
theorem implInAll (n : Nat) (w : World) (hn : n < 64) :
    Calls Try.prog 72 #[.int .i64 n] w (Uint64SRet (allN n) w) := by
  obtain ⟨i0, hi, hz0, hz1, hz2⟩ := info_parts Try.infoU64
  go_enter Try.func72, Try.ntmps72
  go_wp2_with (at_make; refine wpList_make_full _ rfl _ _ 26 rfl w.heap.size 43 i0 (.int .u64 0) 1 Try.underlying26 hi hz0 hz1 .i64 .i64 _ _ 6 rfl rfl rfl rfl (by rw [hz2]; omega) (by unfold maxLen; omega) (Nat.le_refl _) ?_)
  clear hi hz0 hz1 hz2
  intro w2 hown hgr
  rw [toList_madeCells_one] at hown
  have A0 : Hid (ArrU w2 w.heap.size 43 6 (progN (fun i => allOf (n.testBit i)) (fun _ => 0) 0) ∧ Below w.heap.size w w2) := Lib.hid ⟨by rw [progN_zero]; exact own_arrG hown, grown_below hgr⟩
  clear hown hgr
  go_wp2
  go_loopw [8, 4] (fun i _ wr => ∃ k : Nat, k ≤ 6 ∧ i = .int .i64 k ∧ Hid (ArrU wr w.heap.size 43 6 (progN (fun i => allOf (n.testBit i)) (fun _ => 0) k) ∧ Below w.heap.size w wr)) (fun i _ _ => 6 - (intOf i).toNat)
  case atStart => exact ⟨0, by omega, rfl, A0⟩
  case round =>
    clear A0
    obtain ⟨k, hk, rfl, H⟩ := hrel
    by_cases hlt : k < 6
    · have hc := H.out.1.cell hlt
      rw [progN_at] at hc
      have hf := H.out.1.free k
      have RS := Lib.hid (progN_set (fun i => allOf (n.testBit i)) (fun _ => 0) k)
      have R := Lib.hid (And.intro (H.out.1.set k (allOf (n.testBit k))) (H.out.2.setCell (p := ⟨w.heap.size, k, none⟩) (Nat.le_refl _) (.int .u64 ((allOf (n.testBit k) : Nat) : Int))))
      rw [RS.out] at R
      have q1 := and_bit n k (by omega)
      have q2 := all_neg (n.testBit k)
      have hbit : (n.testBit k).toNat ≤ 1 := Bool.toNat_le _
      have q0 : IntKind.u64.wrap (n : Int) = n := by rw [IntKind.wrap_u64]; omega
      generalize allOf (n.testBit k) = v at *
      generalize (n.testBit k).toNat = t at *
      clear H RS
      go_wp2
      go_roundw
      case rel => exact ⟨k + 1, by omega, by go_num, R⟩
      case measure => simp [intOf]; omega
    · have hk' : k = 6 := by omega
      subst hk'
      go_wp2
      go_ret
      exact ⟨_, rfl, H.out.1.mk (Nat.le_refl _) (by unfold maxLen; omega) (by rw [progN_done]; rfl), H.out.2⟩
set_option maxHeartbeats 1000000 in
theorem implLanesWith (c : Value) (l : List Nat) (n : Nat) (w : World) (h : Uint64SIn [c] l w) (hb : bd64 l) (hl : l.length ≤ 16) (hn : n < 64) :
    Calls Try.prog 92 #[c, .int .i64 n] w fun e w' => e = .returned (.int .u64 ((withN l n : Nat) : Int)) ∧ w = w' := by
  have H := Lib.hid h
  obtain ⟨a, cap, rfl, h1, h2, hr⟩ := uint64SIn_shape h
  clear h h1 hr h2
  have E : Hid (withN l n = notN (otherN (fun i => l.getD i 0) n l.length)) := Lib.hid rfl
  go_enter Try.func92, Try.ntmps92
  go_wp2
  go_loop [10, 5, 6, 7] (fun i o _ _ => ∃ k x : Nat, k ≤ l.length ∧ i = .int .i64 k ∧ o = .int .u64 (x : Int) ∧ Hid (x = otherN (fun i => l.getD i 0) n k)) (fun i _ _ _ => l.length - (intOf i).toNat)
  case atStart => exact ⟨0, 0, Nat.zero_le _, rfl, rfl, Lib.hid rfl⟩
  case round =>
    obtain ⟨k, x, hk, rfl, rfl, HX⟩ := hrel
    by_cases hlt : k < l.length
    · obtain ⟨b, off, cap', e, q⟩ := in_at H.out hlt
      simp at e
      obtain ⟨rfl, rfl⟩ := e
      have hu := hb.at k
      have hx : x < 18446744073709551616 := by rw [HX.out]; exact otherN_lt hb.at n k
      have HX2 : Hid (x ||| (l.getD k 0 ^^^ allOf (n.testBit k)) = otherN (fun i => l.getD i 0) n (k + 1)) := Lib.hid (by rw [otherN, HX.out])
      have q1 := and_bit n k (by omega)
      have q2 := all_neg (n.testBit k)
      have hbit : (n.testBit k).toNat ≤ 1 := Bool.toNat_le _
      have q0 : IntKind.u64.wrap (n : Int) = n := by rw [IntKind.wrap_u64]; omega
      have hv := allOf_lt (n.testBit k)
      generalize l.getD k 0 = u at *
      generalize allOf (n.testBit k) = v at *
      generalize (n.testBit k).toNat = t at *
      have q3 := u64_xor_nat u v hu hv
      have l3 : u ^^^ v < 18446744073709551616 := Nat.xor_lt_two_pow (n := 64) hu hv
      generalize u ^^^ v = y at *
      have q4 := u64_or_nat x y hx l3
      generalize x ||| y = z at *
      clear HX
      go_wp2
      go_round
      case rel => exact ⟨k + 1, z, by omega, by go_num, rfl, HX2⟩
      case measure => simp [intOf]; omega
    · have hx : x < 18446744073709551616 := by rw [HX.out]; exact otherN_lt hb.at n k
      have hk' : k = l.length := by omega
      have F : Hid (notN x = withN l n) := Lib.hid (by rw [E.out, HX.out, hk'])
      have q := xor_max hx
      generalize notN x = z at *
      clear hk'
      go_wp2
      go_ret
      exact ⟨ret_int (by rw [F.out]), rfl⟩
/-- A row of distances: 33 numbers in planes, each in 6 planes. -/
structure RowIn (V : Nat → Value) (N : Nat → List Nat) (w : World) : Prop where
  rd : ∀ j, j < 33 → Uint64SIn [V j] (N j) w
  six : ∀ j, j < 33 → (N j).length = 6
  bd : ∀ j, j < 33 → bd64 (N j)
theorem RowIn.below {V : Nat → Value} {N : Nat → List Nat} {w w' : World} (h : RowIn V N w) (hb : Below w.heap.size w w') : RowIn V N w' := ⟨fun j hj => (h.rd j hj).below hb, h.six, h.bd⟩
theorem RowIn.shape {V : Nat → Value} {N : Nat → List Nat} {w : World} (h : RowIn V N w) {j : Nat} (hj : j < 33) : ∃ a cap, V j = .slice a 6 cap := by
  obtain ⟨a, cap, e, _⟩ := uint64SIn_shape (h.rd j hj)
  rw [h.six j hj] at e
  exact ⟨a, cap, e⟩
theorem RowIn.one {V : Nat → Value} {N : Nat → List Nat} {w : World} (h : RowIn V N w) : ∀ j, j < 33 → (V j).oneCell' = true := fun j hj => by
  obtain ⟨a, cap, e⟩ := h.shape hj
  rw [e]; rfl
/-- What writes only a block of slices leaves numbers alone. -/
theorem in_keep {d : Value} {l : List Nat} {w w' : World} {L n : Nat} {t : TypeId} {V : Nat → Value} (h : Uint64SIn [d] l w) (hA : ArrG w L t n V) (hV : ∀ j, j < n → ∃ a x c, V j = .slice a x c) (hg : w.grownBy w' (some L)) : Uint64SIn [d] l w' := by
  obtain ⟨a, cap, rfl, h1, h2, hr⟩ := uint64SIn_shape h
  refine ⟨a, cap, rfl, h1, h2, ?_⟩
  rcases hr with h0 | ⟨b, off, rfl, hc⟩
  · exact .inl h0
  · by_cases hl : l.length = 0
    · left; rw [List.eq_nil_of_length_eq_zero hl]; rfl
    · refine .inr ⟨b, off, rfl, fun i hi => ?_⟩
      have hne : b ≠ L := by
        rintro rfl
        have h0 := hc 0 (by rw [List.length_map]; omega)
        rw [uval_at (show 0 < l.length by omega)] at h0
        have := cur_cell hA (off + 0)
        rw [h0] at this
        by_cases hof : off + 0 < n
        · rw [cellsG_at V hof] at this
          obtain ⟨x, y, z, e⟩ := hV _ hof
          rw [e] at this
          simp at this
        · rw [cellsG_no V (by omega)] at this
          simp at this
      have hi' : i < l.length := by simpa using hi
      have hci := hc i hi
      rw [uval_at hi'] at hci ⊢
      exact hg.cell hci (by simp; omega)
theorem RowIn.keep {V : Nat → Value} {N : Nat → List Nat} {w w' : World} {L : Nat} {t : TypeId} {U : Nat → Value} (h : RowIn V N w) (hA : ArrG w L t 33 U) (hU : ∀ j, j < 33 → ∃ a x c, U j = .slice a x c) (hg : w.grownBy w' (some L)) : RowIn V N w' := ⟨fun j hj => in_keep (h.rd j hj) hA hU hg, h.six, h.bd⟩
theorem RowIn.slices {V : Nat → Value} {N : Nat → List Nat} {w : World} (h : RowIn V N w) : ∀ j, j < 33 → ∃ a x c, V j = .slice a x c := fun j hj => by
  obtain ⟨a, cap, e⟩ := h.shape hj
  exact ⟨a, 6, cap, e⟩
theorem nil_slices : ∀ j, j < 33 → ∃ a x c, (fun _ : Nat => Value.slice none 0 0) j = .slice a x c := fun j _ => ⟨none, 0, 0, rfl⟩
/-- A row under construction: the first k are there. -/
structure RowUp (L R k : Nat) (V : Nat → Value) (N : Nat → List Nat) (W wr : World) : Prop where
  arr : ArrG wr L 75 33 V
  res : ArrG wr R 75 33 (fun _ => .slice none 0 0)
  low : Below W.heap.size W wr
  rd : ∀ j, j < k → Uint64SIn [V j] (N j) wr
  sl : ∀ j, ∃ a x c, V j = .slice a x c
  ord : W.heap.size ≤ R ∧ R < L
theorem RowUp.below {L R k : Nat} {V : Nat → Value} {N : Nat → List Nat} {W wr w' : World} (h : RowUp L R k V N W wr) (hb : Below wr.heap.size wr w') : RowUp L R k V N W w' :=
  ⟨h.arr.below hb, h.res.below hb, below_seq h.low hb, fun j hj => (h.rd j hj).below hb, h.sl, h.ord⟩
theorem RowUp.put {L R k : Nat} {V : Nat → Value} {N : Nat → List Nat} {W wr : World} {a : Option Addr} {x c : Nat} (h : RowUp L R k V N W wr) (hd : Uint64SIn [.slice a x c] (N k) wr) : RowUp L R (k + 1) (updG V k (.slice a x c)) N W (wr.setCell ⟨L, k, none⟩ (.slice a x c)) := by
  have hg := set_grown wr L k (.slice a x c)
  have hs : ∀ j, j < 33 → ∃ a x c, V j = .slice a x c := fun j _ => h.sl j
  have ho := h.ord
  refine ⟨h.arr.set k _, h.res.kept hg (by simp; omega), h.low.setCell (p := ⟨L, k, none⟩) (by simp; omega) _, fun j hj => ?_, fun j => ?_, ho⟩
  · unfold updG
    by_cases e : j = k
    · subst e; rw [if_pos rfl]; exact in_keep hd h.arr hs hg
    · rw [if_neg e]; exact in_keep (h.rd j (by omega)) h.arr hs hg
  · unfold updG
    split
    · exact ⟨_, _, _, rfl⟩
    · exact h.sl j
theorem RowUp.row {L R : Nat} {V : Nat → Value} {N : Nat → List Nat} {W wr : World} (h : RowUp L R 33 V N W wr) (h6 : ∀ j, j < 33 → (N j).length = 6) (hb : ∀ j, j < 33 → bd64 (N j)) : RowIn V N wr := ⟨h.rd, h6, hb⟩
theorem Try.zeroRow : (Try.prog.info? 75).map (·.zero) = some (some (.agg (cellsG 33 (fun _ => .slice none 0 0)))) := by kernel_rfl
theorem Try.sizeRow : (Try.prog.info? 75).map (·.size) = some 33 := by kernel_rfl
set_option maxHeartbeats 2000000 in
theorem implFirst (w : World) :
    Calls Try.prog 68 #[] w fun e w' => ∃ V, e = .returned (.agg (cellsG 33 V)) ∧ RowIn V allN w' ∧ Below w.heap.size w w' := by
  go_enter Try.func68, Try.ntmps68
  go_wp2_with (refine wp_arrG_new rfl 75 rfl 33 _ Try.zeroRow ?_)
  intro w1 A1 G1 S1
  go_wp2_with (refine wp_arrG_new rfl 75 rfl 33 _ Try.zeroRow ?_)
  intro w2 A2 G2 S2
  have B2 : Below w.heap.size w w2 := (grown_below G1).trans ((grown_below G2).mono (by omega))
  have A1' := A1.kept G2 (by simp)
  have H0 : Hid (RowUp (w.heap.size + 1) w.heap.size 0 (fun _ => .slice none 0 0) allN w w2) := Lib.hid ⟨A2, A1', B2, fun j hj => absurd hj (Nat.not_lt_zero _), fun j => ⟨none, 0, 0, rfl⟩, by omega⟩
  clear A1 A1' A2 G1 G2 B2 S1 S2
  go_wp2
  generalize w.heap.size + 1 = L at *
  go_loopw [3, 2] (fun i _ wr => ∃ (k : Nat) (V : Nat → Value), k ≤ 33 ∧ i = .int .i64 k ∧ Hid (RowUp L w.heap.size k V allN w wr)) (fun i _ _ => 33 - (intOf i).toNat)
  case atStart => exact ⟨0, _, by omega, rfl, H0⟩
  case round =>
    clear H0
    obtain ⟨k, V, hk, rfl, H⟩ := hrel
    by_cases hlt : k < 33
    · have C := Lib.hid (implInAll k wr (by omega))
      go_wp2_with fail
      refine C.out.mono ?_
      rintro e w3 ⟨c, rfl, ho, hb⟩
      obtain ⟨ax, nx, kx, rfl⟩ := ho.shape
      have H3 := Lib.hid (H.out.below hb)
      have hc := H3.out.arr.cell hlt
      obtain ⟨va, vx, vc, ev⟩ := H3.out.sl k
      rw [ev] at hc
      have hf := H3.out.arr.free k
      have R := Lib.hid (H3.out.put ho.read)
      clear H H3 ho hb C ev
      go_wp2
      go_roundw
      case rel => exact ⟨k + 1, _, by omega, by go_num, R⟩
      case measure => simp [intOf]; omega
    · have hk' : k = 33 := by omega
      subst hk'
      have RI := Lib.hid (H.out.row (fun j _ => allN_length j) (fun j _ => allN_lt j))
      go_wp2_with (first
        | refine wp_arrG_load rfl 75 _ rfl _ _ 33 _ _ Try.underlying75 rfl Try.sizeRow rfl H.out.arr ?_
        | (refine wp_arrG_store rfl 75 _ _ rfl _ 33 _ _ _ Try.sizeRow RI.out.one rfl rfl H.out.res ?_; intro w3 A3 G3 S3))
      refine ret_arrG Try.results68 rfl rfl A3 Try.underlying75 rfl Try.sizeRow ⟨V, rfl, RI.out.keep H.out.res nil_slices G3, ?_⟩
      exact below_write H.out.low G3 (Nat.le_refl _)
end Go.Proofs.Ytfdlmpjccoaejaa
