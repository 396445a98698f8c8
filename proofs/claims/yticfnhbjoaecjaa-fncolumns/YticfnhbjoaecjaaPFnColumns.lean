/- For every code: the law FnColumns answers true: the column behind the first n bytes of a drawn string contains, at each index, the distance of that beginning of the pattern from them. No condition. -/
import Derived.Test.YticfnhbjoaecjaaBase
import Derived.Test.YticfnhbjoaecjaaMyX
import Derived.Test.YticfnhbjoaecjaaEdS
import Derived.Test.YticfnhbjoaecjaaMyD
import Derived.Deep.RegionHeld3
namespace Go.Proofs.Yticfnhbjoaecjaa.fnColumns
open Go.ChangeShapes Go.WideShapes Go.ChangeAt Go.RowKit
open Go.ChangeMaps (open_string shut_string)
set_option linter.unusedVariables false

/-- A guarded call whose guard is met, as one step of a region that draws its order. -/
theorem step_callG {P : Program} {ops : Array Oper} {o : Oper} {a : Act} {w : World} {K : Act → World → Prop} {Q : Exit → Act → World → Prop} {E : Prop} (w0 : World) (hw : w = w0) (f : FuncId) (xs : Array Operand) (ts : Array TypeId)
    (ho : o.op = .call { callee := .value (.func f), args := xs, argTypes := ts }) (hwant : Region.wanted o (yielded ops a.tmps) = true) (args : Array Value) (hargs : xs.map a.eval = args) (hcf : ∀ args w, (callFunc f args).run P w = .ok (.enter f args) w)
    (R : Ending → World → Prop) (hc : Calls P f args w0 R) (h : ∀ e w', R e w' → ∃ v, e = .returned v ∧ K (a.put o.dst v) w') :
    if Region.wanted o (yielded ops a.tmps) = true then Oper.wp P o a w K Q else E := by
  subst hw
  rw [if_pos hwant]
  have hfun : a.eval (.func f) = .func (.func f) #[] #[] := rfl
  have hrun : (execOp a.eval o).run P w = .ok (.enter f args) w := by
    unfold execOp
    simp [ho, resolve, Deferred.ofValue, invoke, hfun, hargs, hcf]
  unfold Oper.wp
  rw [hrun, Oper.upon_enter]
  refine hc.mono fun e w' hh => ?_
  obtain ⟨v, rfl, hK⟩ := h e w' hh
  exact hK
theorem cell_keepC {w w' : World} {b o : Nat} {v : Value} (h : w.cell? ⟨b, o, none⟩ = some v) (hb : Below w.drew.heap.size w.drew w') : w'.cell? ⟨b, o, none⟩ = some v :=
  (hb.cell (p := ⟨b, o, none⟩) (block_lt_of_cell (w := w) h)).trans h
theorem ext_take (s : ByteArray) (b : Nat) : (s.extract 0 b).data.toList = s.data.toList.take b := by
  simp [ByteArray.data_extract]
theorem dist_cut (p t : ByteArray) (i k : Nat) (hp : p.size ≤ 32) (ht : t.size ≤ 32) : distZ (p.extract 0 i).data.toList (t.extract 0 k).data.toList = dZ p.data.toList t.data.toList k i := by
  rw [ext_take, ext_take]
  unfold distZ dZ
  rw [if_neg]
  rw [List.length_take, List.length_take, len_data, len_data]
  omega
theorem dist_cut2 (p t : ByteArray) (k : Nat) (hp : p.size ≤ 32) (ht : t.size ≤ 32) : distZ p.data.toList (t.extract 0 k).data.toList = dZ p.data.toList t.data.toList k p.size := by
  rw [← dist_cut p t p.size k hp ht, ext_take p p.size, List.take_of_length_le (by rw [len_data]; omega)]
/-- The column behind k bytes. -/
def colV (p t : ByteArray) (k : Nat) : Array Value := #[.int .u64 (colP p.data.toList t.data.toList k), .int .u64 (colM p.data.toList t.data.toList k), .int .i64 (dZ p.data.toList t.data.toList k p.size), .int .i64 p.size]
theorem colOk {p t : ByteArray} {k : Nat} (hk : k ≤ t.size) (hp : p.size ≤ 32) (ht : t.size ≤ 32) : BOk (colP p.data.toList t.data.toList k) (colM p.data.toList t.data.toList k) (dZ p.data.toList t.data.toList k p.size) p.size := by
  have := col_ok p.data.toList t.data.toList k (by rw [len_data]; exact hk) (by rw [len_data]; exact hp) (by rw [len_data]; exact ht)
  rw [len_data] at this
  exact this
theorem colSmall {p t : ByteArray} {k : Nat} (hk : k ≤ t.size) (hp : p.size ≤ 32) (ht : t.size ≤ 32) : colP p.data.toList t.data.toList k < 4294967297 ∧ colM p.data.toList t.data.toList k < 4294967297 ∧ 0 ≤ dZ p.data.toList t.data.toList k p.size ∧ dZ p.data.toList t.data.toList k p.size ≤ 32 := by
  have := col_small p.data.toList t.data.toList k (by rw [len_data]; exact hk) (by rw [len_data]; exact hp) (by rw [len_data]; exact ht)
  rw [len_data] at this
  exact this
theorem colIs {p t : ByteArray} {k : Nat} (hk : k ≤ t.size) (hp : p.size ≤ 32) (ht : t.size ≤ 32) (w : World) : Calls Try.prog 20 #[.agg (colV p t k)] w (IntSPost (listF (p.size + 1) (dZ p.data.toList t.data.toList k)) w) := by
  obtain ⟨b1, b2, b3, b4⟩ := colSmall hk hp ht
  have h := implBitsColumn (colP p.data.toList t.data.toList k) (colM p.data.toList t.data.toList k) (dZ p.data.toList t.data.toList k p.size) p.size w (by omega) (by omega) (by omega) (by omega)
  rw [okL_yes (colOk hk hp ht)] at h
  have e : listF (p.size + 1) (colZ (colP p.data.toList t.data.toList k) (colM p.data.toList t.data.toList k) (dZ p.data.toList t.data.toList k p.size) p.size) = listF (p.size + 1) (dZ p.data.toList t.data.toList k) := listF_ext fun i hi => by
    have := col_col p.data.toList t.data.toList k (by rw [len_data]; exact hk) i (by rw [len_data]; omega)
    rw [len_data] at this
    exact this
  rw [e] at h
  exact h
theorem colFine {p t : ByteArray} {k : Nat} (hk : k ≤ t.size) (hp : p.size ≤ 32) (ht : t.size ≤ 32) (w : World) : Calls Try.prog 21 #[.agg (colV p t k)] w fun e w' => e = .returned (.bool true) ∧ Below w.heap.size w w' := by
  obtain ⟨b1, b2, b3, b4⟩ := colSmall hk hp ht
  have h := implBitsOk (colP p.data.toList t.data.toList k) (colM p.data.toList t.data.toList k) (dZ p.data.toList t.data.toList k p.size) p.size w (by omega) (by omega) (by omega) (by omega)
  rw [okB_is (colOk hk hp ht)] at h
  exact h
theorem colStep {p t : ByteArray} {k : Nat} (hk : k < t.size) (hp : p.size ≤ 32) (ht : t.size ≤ 32) (w : World) : Calls Try.prog 22 #[.agg (colV p t k), .int .u64 ((peqZ p.data.toList t[k] : Nat) : Int)] w fun e w' => e = .returned (.agg (colV p t (k + 1))) ∧ Below w.heap.size w w' := by
  obtain ⟨b1, b2, b3, b4⟩ := colSmall (Nat.le_of_lt hk) hp ht
  have hl := peqN_lt (p := p.data.toList) (b := t[k]) (by rw [len_data]; omega)
  rw [peqZ_yes (by rw [len_data]; omega)]
  have h := implMyersStep (colP p.data.toList t.data.toList k) (colM p.data.toList t.data.toList k) (peqN p.data.toList t[k]) (dZ p.data.toList t.data.toList k p.size) p.size w (by omega) (by omega) (by omega) (by omega) (by omega)
  have nx := bstep_col p.data.toList t.data.toList k (by rw [len_data]; omega) (by rw [len_data]; omega) (by rw [len_data]; omega)
  have e : t.data.toList[k]'(by rw [len_data]; omega) = t[k] := rfl
  rw [e, len_data] at nx
  rw [nx] at h
  exact h
theorem colStart {p t : ByteArray} (hp : p.size ≤ 32) (w : World) : Calls Try.prog 19 #[.string p] w fun e w' => e = .returned (.agg (colV p t 0)) ∧ Below w.heap.size w w' := by
  have h := implStart p w (by unfold maxLen; omega)
  rw [startZ_yes (by rw [len_data]; exact hp), len_data] at h
  have F := col_first p.data.toList t.data.toList
  rw [len_data] at F
  unfold colV
  rw [F.1, F.2.1, F.2.2]
  exact h
set_option maxRecDepth 100000 in
set_option maxHeartbeats 4000000 in
theorem walk (a0 : Option Addr) (len0 cap0 : Nat) (z0 : List Int) (w : World) (w0 : IsRow .u8 w a0 len0 cap0 z0) :
    Calls Try.prog 4 #[.slice a0 len0 cap0] w fun e w' => e = .returned (.bool true) ∧ Below w.heap.size w w' := by
  obtain ⟨l, hl, hcap, hmax, hr⟩ := row_of_isRow w0
  clear w0
  subst hl
  have R := Lib.hid hr
  clear hr
  have hm : l.length ≤ maxLen := Nat.le_trans hcap hmax
  by_cases hbig : 1048576 < l.length
  · have hB : decide (1048576 < l.length) = true := by simp [hbig]
    go_enter Try.func4, Try.ntmps4
    go_wp2_with fail
    refine (bigIs a0 l.length cap0 _ hm).mono ?_
    rintro e w1 ⟨rfl, rfl⟩
    rw [hB]
    go_wp2
    go_ret
    exact ⟨rfl, Below.refl _ _⟩
  have hB : decide (1048576 < l.length) = false := by simp; omega
  have hl2 : l.length ≤ 1048576 := by omega
  go_enter Try.func4, Try.ntmps4
  go_wp2_with fail
  refine (bigIs a0 l.length cap0 _ hm).mono ?_
  rintro e w1 ⟨rfl, rfl⟩
  rw [hB]
  clear hB
  go_wp2_with fail
  refine (drawMyersRun a0 l cap0 _ hl2 R.out).mono ?_
  rintro e w2 ⟨p, t, rfl, hs, ht, hb2⟩
  have B2 := Lib.hid hb2
  clear hb2 R
  by_cases hg : 32 < p.size
  · go_wp2
    go_ret
    exact ⟨rfl, B2.out⟩
  by_cases hg2 : 32 < t.size
  · go_wp2
    go_ret
    exact ⟨rfl, B2.out⟩
  have hp : p.size ≤ 32 := by omega
  have htt : t.size ≤ 32 := by omega
  have C1 := Lib.hid (fun w => colStart (p := p) (t := t) hp w)
  have C2 := Lib.hid (fun k (hk : k ≤ t.size) w => colIs (p := p) (t := t) hk hp htt w)
  have C3 := Lib.hid (fun k (hk : k ≤ t.size) w => colFine (p := p) (t := t) hk hp htt w)
  have C4 := Lib.hid (fun k (hk : k < t.size) w => colStep (p := p) (t := t) hk hp htt w)
  have C5 := Lib.hid (fun (b : UInt8) (w : World) => implPeq p b w (by unfold maxLen; omega))
  have C6 : Hid (∀ i k w, Calls Try.prog 14 #[.string (p.extract 0 i), .string (t.extract 0 k)] w fun e w' => e = .returned (.int .i64 (dZ p.data.toList t.data.toList k i)) ∧ Below w.heap.size w w') := Lib.hid fun i k w => by
    have h := specDistance (p.extract 0 i) (t.extract 0 k) w (by unfold maxLen; simp; omega) (by unfold maxLen; simp; omega)
    rw [dist_cut p t i k hp htt] at h
    exact h
  have C7 : Hid (∀ k w, Calls Try.prog 14 #[.string p, .string (t.extract 0 k)] w fun e w' => e = .returned (.int .i64 (dZ p.data.toList t.data.toList k p.size)) ∧ Below w.heap.size w w') := Lib.hid fun k w => by
    have h := specDistance p (t.extract 0 k) w (by unfold maxLen; omega) (by unfold maxLen; simp; omega)
    rw [dist_cut2 p t k hp htt] at h
    exact h
  unfold colV at *
  clear hs ht
  go_wp2_with fail
  refine (C1.out _).mono ?_
  rintro e w3 ⟨rfl, hb3⟩
  have B1 := Lib.hid (below_box (below_seq B2.out hb3) (.cells #[.int .u64 (colP p.data.toList t.data.toList 0), .int .u64 (colM p.data.toList t.data.toList 0), .int .i64 (dZ p.data.toList t.data.toList 0 p.size), .int .i64 p.size] 32))
  have K1 := Lib.hid (alloc_at w3 (.cells #[.int .u64 (colP p.data.toList t.data.toList 0), .int .u64 (colM p.data.toList t.data.toList 0), .int .i64 (dZ p.data.toList t.data.toList 0 p.size), .int .i64 p.size] 32) w3.heap.size rfl)
  have hb1s := (below_seq B2.out hb3).size
  obtain ⟨g, hg0⟩ : ∃ g, g = w3.heap.size := ⟨_, rfl⟩
  rw [← hg0] at K1 hb1s
  clear hb3 B2 C1
  go_wp2
  rw [← hg0]
  clear hg0
  go_loopw [6, 7, 8] (fun i _ _ wr => ∃ k : Nat, k ≤ t.size + 1 ∧ i = .int .i64 k ∧ Hid ((k ≤ t.size → wr.heap[g]? = some (.cells #[.int .u64 (colP p.data.toList t.data.toList k), .int .u64 (colM p.data.toList t.data.toList k), .int .i64 (dZ p.data.toList t.data.toList k p.size), .int .i64 p.size] 32 (0, 0))) ∧ Below w.heap.size w wr)) (fun i _ _ _ => t.size + 1 - (intOf i).toNat)
  case atStart => exact ⟨0, Nat.zero_le _, rfl, Lib.hid ⟨fun _ => K1.out, B1.out⟩⟩
  case round =>
    clear K1 B1
    obtain ⟨k, hk, rfl, H⟩ := hrel
    by_cases hkt : k ≤ t.size
    · have D2 := Lib.hid (C2.out k hkt)
      have D3 := Lib.hid (C3.out k hkt)
      have D4 := Lib.hid (C4.out k)
      have D6 := Lib.hid (fun i => C6.out i k)
      have D7 := Lib.hid (C7.out k)
      generalize colP p.data.toList t.data.toList k = P at *
      generalize colM p.data.toList t.data.toList k = M at *
      generalize hf : dZ p.data.toList t.data.toList k = f at *
      have H1 := Lib.hid (And.intro (H.out.1 hkt) H.out.2)
      have c0 := cur_cell H1.out.1 0
      have c1 := cur_cell H1.out.1 1
      have c2 := cur_cell H1.out.1 2
      have c3 := cur_cell H1.out.1 3
      simp at c0 c1 c2 c3
      have hkt2 : (k : Int) ≤ (t.size : Int) := by omega
      clear H hf
      go_wp2_with fail
      refine (D2.out _).mono ?_
      rintro e w4 ⟨cd, rfl, ho4, hb4⟩
      obtain ⟨ad, capd, rfl, q4, q5, hrd⟩ := intSIn_shape ho4.read
      rw [listF_length] at *
      have H2 := Lib.hid (And.intro (kept_block H1.out.1 hb4) (And.intro hrd (below_seq H1.out.2 hb4)))
      clear ho4 hb4 q4 q5 hrd c0 c1 c2 c3 H1
      have c0 := cur_cell H2.out.1 0
      have c1 := cur_cell H2.out.1 1
      have c2 := cur_cell H2.out.1 2
      have c3 := cur_cell H2.out.1 3
      simp at c0 c1 c2 c3
      have hq0 : (((p.size + 1 : Nat) : Int) != (p.size : Int) + 1) = false := by simp
      have hq1 : ((p.size : Int) + 1 != (p.size : Int) + 1) = false := by simp
      have hq2 : (f p.size != f p.size) = false := by simp
      have hw0 : IntKind.i64.wrap ((p.size : Int) + 1) = (p.size : Int) + 1 := by rw [IntKind.wrap_i64]; omega
      go_wp2
      go_region_held3 (fun w' => w'.cell? ⟨g, 0, none⟩ = some (.int .u64 P) ∧ w'.cell? ⟨g, 1, none⟩ = some (.int .u64 M) ∧ w'.cell? ⟨g, 2, none⟩ = some (.int .i64 (f p.size)) ∧ w'.cell? ⟨g, 3, none⟩ = some (.int .i64 p.size))
        (first | go_keep | exact ⟨cur_cell H6.out.1 0, cur_cell H6.out.1 1, cur_cell H6.out.1 2, cur_cell H6.out.1 3⟩ | exact ⟨cur_cell H5.out.1 0, cur_cell H5.out.1 1, cur_cell H5.out.1 2, cur_cell H5.out.1 3⟩)
        (first
        | (go_at_call 14; refine (D7.out _).mono ?_; rintro e w5 ⟨rfl, hb5⟩; have H5 := Lib.hid (And.intro (kept_block (w := w4.drew) H2.out.1 hb5) (And.intro ((H2.out.2.1.below (belowN 1)).below hb5) (below_seq (below_drew H2.out.2.2) hb5))); clear hb5)
        | (go_at_call 21; refine (D3.out _).mono ?_; rintro e w6 ⟨rfl, hb6⟩; have H6 := Lib.hid (And.intro (kept_block H5.out.1 hb6) (And.intro (H5.out.2.1.below hb6) (below_seq H5.out.2.2 hb6))); clear hb6))
      clear c0 c1 c2 c3 H2 H5 hq0 hq1 hq2
      go_wp2
      go_loopw [8] (fun i wr => ∃ j : Nat, j ≤ p.size + 1 ∧ i = .int .i64 j ∧ Hid (wr.heap[g]? = some (.cells #[.int .u64 P, .int .u64 M, .int .i64 (f p.size), .int .i64 p.size] 32 (0, 0)) ∧ Row wr ad ((listF (p.size + 1) f).map ival) ∧ Below w.heap.size w wr)) (fun i _ => p.size + 1 - (intOf i).toNat)
      case atStart => exact ⟨0, Nat.zero_le _, rfl, H6⟩
      case round =>
        clear H6
        obtain ⟨j, hj, rfl, H⟩ := hrel
        by_cases hjl : j < p.size + 1
        · obtain ⟨b1, o1, rfl, q1⟩ := H.out.2.1.at (i := j) (by simpa [listF] using hjl)
          rw [ival_at (by simpa [listF] using hjl), listF_get] at q1
          have D8 := Lib.hid (D6.out j)
          obtain ⟨x, hx⟩ : ∃ x, x = f j := ⟨_, rfl⟩
          rw [← hx] at q1 D8
          have hqx : (x != x) = false := by simp
          have hjp : j ≤ p.size := by omega
          have j0 : (0 : Int) ≤ (j : Int) := by omega
          have j1 : (j : Int) < ((p.size + 1 : Nat) : Int) := by omega
          have j2 : (j : Int) < (p.size : Int) + 1 := by omega
          have j3 : (j : Int) ≤ (p.size : Int) := by omega
          clear hx
          go_wp2
          go_region_held3 (fun w' => w'.cell? ⟨b1, o1 + j, none⟩ = some (.int .i64 x))
            (first | go_keep | exact q9)
            ((go_at_call 14; refine (D8.out _).mono ?_; rintro e w7 ⟨rfl, hb7⟩; have H7 := Lib.hid (And.intro (kept_block (w := wr.drew) H.out.1 hb7) (And.intro ((H.out.2.1.below (belowN 1)).below hb7) (below_seq (below_drew H.out.2.2) hb7))); have q9 : w7.cell? ⟨b1, o1 + j, none⟩ = some (.int .i64 x) := cell_keepC q1 hb7; clear hb7))
          clear H q1
          go_wp2
          go_roundw
          case rel => exact ⟨j + 1, by omega, by go_num, H7⟩
          case measure => simp [intOf]; omega
        · have hj' : j = p.size + 1 := by omega
          subst hj'
          by_cases hkl : k < t.size
          · have STk := Lib.hid (D4.out hkl)
            have c0 := cur_cell H.out.1 0
            have c1 := cur_cell H.out.1 1
            have c2 := cur_cell H.out.1 2
            have c3 := cur_cell H.out.1 3
            simp at c0 c1 c2 c3
            have i0 : (0 : Int) ≤ (k : Int) := by omega
            have i1 : (k : Int) < (t.size : Int) := by omega
            generalize f p.size = Z at *
            go_wp2
            go_region_law (first
              | (refine step_callW wr.drew rfl (by rfl) 23 _ _ rfl _ (by kernel_rfl) Try.call23 _ (C5.out t[k] wr.drew) ?_; rintro e w8 ⟨rfl, hw8⟩; refine ⟨_, rfl, ?_⟩; have H8 := Lib.hid (show w8.heap[g]? = some (.cells #[.int .u64 P, .int .u64 M, .int .i64 Z, .int .i64 p.size] 32 (0, 0)) ∧ Below w.heap.size w w8 from (by obtain ⟨n, rfl⟩ := hw8; exact ⟨H.out.1, below_seq (below_drew H.out.2.2) (belowN n)⟩)); clear hw8; have d0 := cur_cell H8.out.1 0; have d1 := cur_cell H8.out.1 1; have d2 := cur_cell H8.out.1 2; have d3 := cur_cell H8.out.1 3; simp at d0 d1 d2 d3)
              | (refine step_callW w8 rfl (by rfl) 22 _ _ rfl _ (by kernel_rfl) Try.call22 _ (STk.out w8) ?_; rintro e w9 ⟨rfl, hb9⟩; refine ⟨_, rfl, ?_⟩; have H9 := Lib.hid (And.intro (kept_block H8.out.1 hb9) (below_seq H8.out.2 hb9)); have e0 := cur_cell H9.out.1 0; have e1 := cur_cell H9.out.1 1; have e2 := cur_cell H9.out.1 2; have e3 := cur_cell H9.out.1 3; simp at e0 e1 e2 e3; have f0 := cur_free H9.out.1 0; have f1 := cur_free H9.out.1 1; have f2 := cur_free H9.out.1 2; have f3 := cur_free H9.out.1 3))
            all_goals
              go_wp2
              go_roundw
              case rel => exact ⟨k + 1, by omega, by go_num, Lib.hid ⟨fun _ => set4 H9.out.1 _ _ _ _, below_set4 H9.out.2 hb1s _ _ _ _⟩⟩
              case measure => simp [intOf]; omega
          · have B9 := Lib.hid H.out.2.2
            clear H
            go_wp2
            go_roundw
            case rel => exact ⟨k + 1, by omega, by go_num, Lib.hid ⟨fun h => by omega, B9.out⟩⟩
            case measure => simp [intOf]; omega
    · go_wp2
      go_ret
      exact ⟨rfl, H.out.2⟩

set_option maxRecDepth 100000 in
theorem lifted (os : Os) (started : os.Started) (H : Type) (enc : TypeId × Value → H) :
    ReturnsInHanded {} Try.checked os 4 .any (Rows.fnColumnsSpec.pre6 enc Try.prog Try.f4 Rows.fnColumnsRow.domain false) (Rows.fnColumnsSpec.post enc Try.prog Try.f4 false true false false) := by
  refine returnsInHanded_of_change (C := Try.checked) own started (by kernel_rfl) Try.func4
    (ChangeSpec.witness6 (enc := enc) (C := Try.checked) false ⟨#[], #[.slice none 0 0], []⟩ 8 (by kernel_rfl) (by kernel_rfl) (by kernel_rfl) (by kernel_rfl)) ?_
  intro W base args ds gs before hval0 hW hcnd _
  have hval : ∀ (j : Nat) t v, Try.f4.params[j]? = some t → args[j]? = some v → Value.okWide Try.prog W .any base t v := hval0
  have hW' := hW
  obtain ⟨p, q, hA0, hV, rfl, hfz, hnd⟩ := hW
  have hA : DataW.TrodAll enc Try.prog W 0 (fun _ => true) true Try.f4.params.toList args.toList ds p := hA0
  rw [Try.params4] at hA hval
  obtain ⟨v0, vs0, d0, ds0, p0, q0, hargs, rfl, rfl, h0, r0⟩ := trodAll_cons hA
  obtain ⟨rfl, rfl, rfl⟩ := trodAll_nil r0
  obtain rfl : args = #[v0] := by cases args; simp_all
  obtain ⟨rfl, rfl⟩ := trodVars_none hV
  obtain ⟨a0, len0, cap0, rfl⟩ := okWide_slice Try.underlying22 (hval 0 22 v0 rfl rfl)
  have k0 := h0
  have lt0 : ∀ x ∈ p0, x.block < W.heap.size := by obtain ⟨m, hm⟩ := k0; exact DataW.trod_lt m _ _ _ hm
  obtain ⟨z0, w0⟩ : ∃ zs, IsRow .u8 W a0 len0 cap0 zs := by
    obtain ⟨fuel, hf⟩ := h0
    rcases open_ints Try.underlying22 Try.underlying5 (by kernel_rfl) hf with ⟨hcs, _⟩ | ⟨x, l, c, zs, hcs, _, hl, hm, hz, _, hcell, hwz⟩
    · simp [Value.cells] at hcs
      obtain ⟨rfl, rfl, rfl⟩ := hcs
      exact ⟨[], .inl ⟨rfl, rfl, rfl, rfl⟩⟩
    · simp [Value.cells] at hcs
      obtain ⟨rfl, rfl, rfl⟩ := hcs
      exact ⟨zs, .inr ⟨_, rfl, hl, hm, by simpa using hz, hcell, hwz⟩⟩
  clear hA0 hval0
  refine (walk a0 len0 cap0 z0 W w0).mono fun e W' ⟨he, bel⟩ => ?_
  subst he
  exact ⟨_, rfl, _, _, _, [], _, [], hW', trodAll_mk1 (shut_bool Try.underlying4 _), (trodAll_cons_mk (Below.trod laidOut (by kernel_rfl) (of_decide_eq_true (by kernel_rfl)) k0 bel lt0) trodAll_mk0), rfl, bel.frame _, fun h => by cases h⟩

theorem over : Rows.fnColumnsRow.holds Try.pinned (OpenSpec.ofChange Rows.fnColumnsSpec) :=
  OpenClaim.holds_of_wide 4 Try.f4 rfl rfl rfl rfl rfl rfl rfl ⟨rfl, rfl, rfl, rfl, rfl⟩ rfl rfl rfl rfl rfl (by kernel_rfl) Try.func4 (by kernel_rfl)
    (of_decide_eq_true (by kernel_rfl)) (by unfold Func.isWrapper; first | (rw [if_pos (by decide +kernel)]; kernel_rfl) | (rw [if_neg (by decide +kernel)]; exact ⟨rfl, rfl⟩))
    (fun os started H enc _ => lifted os started H enc)
end Go.Proofs.Yticfnhbjoaecjaa.fnColumns
namespace Go.Proofs.Yticfnhbjoaecjaa
theorem fnColumns_holds : Rows.FnColumnsSaid := fnColumns.over
end Go.Proofs.Yticfnhbjoaecjaa
