/- The text of a log, in the program. The table that strconv reads lies as the row lists it. -/
import Derived.Test.YticfnhbjoaecjaaDoorTchS
import Derived.Lib.LaidTab
import Derived.ProofKit
import Derived.LaidMore
import Derived.OpenShut
import Derived.Stop.Joined
namespace Go.Proofs.YticfnhbjoaecjaaDoor
open Go.RowKit
set_option linter.unusedVariables false
set_option maxRecDepth 100000

def Pow (W : World) : Prop := Lib.TabIs Tryd.prog W "internal/strconv.uint64pow10" .u64 Lib.pow10Tab
theorem gPow : Tryd.prog.globalNamed "internal/strconv.uint64pow10" = some 0 := by kernel_rfl
theorem tPow : (Tryd.prog.globals[0]?).map (·.type) = some 93 := by kernel_rfl
theorem Pow.stays {w w' : World} (h : Pow w) (hb : Below w.heap.size w w') : Pow w' := Joins.tab_stays gPow h hb (Nat.le_refl _)
theorem pow_data : (Rows.laid_internal_strconv_uint64pow10 : DataW Unit) = Lib.tabData .u64 Lib.pow10Tab := by kernel_rfl
theorem pow_of {W : World} (h : laidMetH Tryd.prog [("math/bits.deBruijn32tab", Rows.laid_math_bits_deBruijn32tab), ("math/bits.deBruijn64tab", Rows.laid_math_bits_deBruijn64tab), ("internal/strconv.uint64pow10", Rows.laid_internal_strconv_uint64pow10)] W) : Pow W := by
  rw [MakeChecks.laidMetH_plain _ _ _ (by kernel_rfl)] at h
  rw [pow_data] at h
  have c1 : Tryd.prog.cellsOf 84 = 1 := by kernel_rfl
  have c2 : Tryd.prog.cellsOf 93 = 20 := by kernel_rfl
  obtain ⟨ps, ⟨g0, t0, cs0, f0, p0, q0, _, _, _, _, h1, _⟩, _⟩ := h
  obtain ⟨g1, t1, cs1, f1, p1, q1, _, _, _, _, h2, _⟩ := h1
  obtain ⟨g', t', cs, fuel, p, q, hg', ht', hvar, hd, _, _⟩ := h2
  obtain rfl := Option.some.inj (gPow.symm.trans hg')
  obtain rfl := Option.some.inj (tPow.symm.trans ht')
  unfold Pow Lib.TabIs
  rw [hvar, ← Lib.cells_of_tab Tryd.underlying93 Tryd.underlying84 c1 c2 hd]
theorem implItoa (n : Int) (w : World) (h0 : -9223372036854775808 ≤ n) (h1 : n ≤ 9223372036854775807) (hp : Pow w) :
    Calls Tryd.prog 22 #[.int .i64 n] w fun e w' => e = .returned (.string (strL (Lib.itoa n))) ∧ Below w.heap.size w w' :=
  (Tryd.strconv_Itoa n h0 h1 w hp).mono fun e w' ⟨he, k, os, hw⟩ => ⟨he, by rw [hw]; exact Lib.below_grow _ w (Nat.le_refl _) k os⟩
set_option maxHeartbeats 400000 in
theorem implOpText (x : Int) (w : World) : Calls Tryd.prog 21 #[.int .i64 x] w fun e w' => e = .returned (.string (strL (opL x))) ∧ w = w' := by
  rcases op_cases x with ⟨n1, HO⟩ | ⟨n1, HO⟩ | ⟨n1, n2, HO⟩
  · have H := Lib.hid HO
    clear HO
    subst n1
    go_enter Tryd.func21, Tryd.ntmps21
    go_wp2
    go_ret
    exact ⟨ret_str (by rw [H.out]; rfl), rfl⟩
  · have H := Lib.hid HO
    clear HO
    subst n1
    go_enter Tryd.func21, Tryd.ntmps21
    go_wp2
    go_ret
    exact ⟨ret_str (by rw [H.out]; rfl), rfl⟩
  · have H := Lib.hid HO
    have d1 : (x == 1) = false := by simp [n1]
    have d2 : (x == 2) = false := by simp [n2]
    clear HO n1 n2
    go_enter Tryd.func21, Tryd.ntmps21
    go_wp2
    go_ret
    exact ⟨ret_str (by rw [H.out]; rfl), rfl⟩
theorem Tryd.infoStr : (Tryd.prog.info? 9).map (fun i => (i.zero, i.size, i.bytes)) = some (some (.string ⟨#[]⟩), 1, 16) := by kernel_rfl
/-- The words while they are being filled. -/
def sRow (l : List TouchM) (k : Nat) : List Value := ((l.take k).map fun t => Value.string (strL (touchL t))) ++ List.replicate (l.length - k) (.string ⟨#[]⟩)
theorem sRow_length (l : List TouchM) (k : Nat) (h : k ≤ l.length) : (sRow l k).length = l.length := by unfold sRow; simp; omega
theorem sRow_zero (l : List TouchM) : sRow l 0 = List.replicate l.length (.string ⟨#[]⟩) := by simp [sRow]
theorem sRow_set (l : List TouchM) (k : Nat) (h : k < l.length) : (sRow l k).set k (.string (strL (touchL l[k]))) = sRow l (k + 1) := by
  unfold sRow
  rw [List.take_succ_eq_append_getElem h, List.set_append_right _ _ (by simp; omega)]
  obtain ⟨m, hm⟩ : ∃ m, l.length - k = m + 1 := ⟨l.length - k - 1, by omega⟩
  rw [hm, show l.length - (k + 1) = m from by omega, List.replicate_succ]
  rw [show k - ((l.take k).map fun t => Value.string (strL (touchL t))).length = 0 from by simp; omega]
  rw [List.set_cons_zero, List.map_append, List.append_assoc]; rfl
theorem sRow_done (l : List TouchM) : sRow l l.length = l.map fun t => Value.string (strL (touchL t)) := by unfold sRow; simp
theorem str4 (O Y U : List UInt8) : strL O ++ strL Y ++ ⟨#[58]⟩ ++ strL U = strL (O ++ Y ++ [58] ++ U) := by
  apply ByteArray.ext
  simp [strL, ByteArray.data_append]
theorem opL_len (x : Int) : (opL x).length = 1 := by unfold opL; split <;> (try split) <;> rfl
theorem join_words (l : List TouchM) : Lib.join ((l.map fun t => strL (touchL t)).map (·.data.toList)) [32] = Lib.join (l.map touchL) [32] := by
  rw [List.map_map]; rfl
set_option maxHeartbeats 2000000 in
theorem uImplTouchText (c : Value) (l : List TouchM) (w : World) (h : TouchSIn [c] l w) (b0 : ∀ t ∈ l, tbd t) (hp : Pow w) : Calls Tryd.prog 12 #[c] w fun e w' => e = .returned (.string (strL (textL l))) ∧ Below w.heap.size w w' := by
  obtain ⟨a, cap, rfl, _, hm, hr⟩ := touchSIn_shape h
  have R := Lib.hid hr
  have BD := Lib.hid b0
  have HP := Lib.hid hp
  unfold maxLen at hm
  clear h hr b0 hp
  by_cases hl : 6000 < l.length
  · have H := Lib.hid (text_long hl)
    go_enter Tryd.func12, Tryd.ntmps12
    go_wp2
    go_ret
    exact ⟨ret_str (by rw [H.out]; rfl), Below.refl _ _⟩
  have HT := Lib.hid (text_fine hl)
  obtain ⟨i0, hi, hz0, hz1, hz2⟩ := info_parts Tryd.infoStr
  go_enter Tryd.func12, Tryd.ntmps12
  go_wp2_with (at_make; refine wpList_make_full _ rfl _ _ 30 rfl w.heap.size 9 i0 (.string ⟨#[]⟩) 1 Tryd.underlying30 hi hz0 hz1 .i64 .i64 _ _ l.length rfl rfl rfl rfl (by rw [hz2]; omega) (by unfold maxLen; omega) (Nat.le_refl _) ?_)
  clear hi hz0 hz1 hz2
  intro w1 hown hgr
  have hb1 := grown_below hgr
  rw [toList_madeCells_one, ← sRow_zero] at hown
  have O1 := Lib.hid hown
  have B1 := Lib.hid hb1
  clear hgr hown hb1
  go_wp2
  go_loopw [14] (fun iv wr => ∃ k : Nat, k ≤ l.length ∧ iv = .int .i64 k ∧ Hid (wr.ownsRow w.heap.size 9 1 (.slice (some ⟨w.heap.size, 0, none⟩) l.length l.length) l.length (sRow l k)) ∧ Hid (Below w.heap.size w wr)) (fun iv _ => l.length - (intOf iv).toNat)
  case atStart => exact ⟨0, Nat.zero_le _, rfl, O1, B1⟩
  case round =>
    clear O1 B1
    obtain ⟨k, hk, rfl, O1, B1⟩ := hrel
    have hsz : w.heap.size ≤ wr.heap.size := B1.out.size
    by_cases hlt : k < l.length
    · obtain ⟨b1, o1, rfl, q0, q1, q2⟩ := (R.out.below B1.out).touch hlt
      have TB := BD.out _ (List.getElem_mem hlt)
      have LY := itoa_len l[k].ad TB.2.1.1 TB.2.1.2
      have LU := itoa_len l[k].len TB.2.2.1 TB.2.2.2
      have LO := opL_len l[k].op
      have HL : Hid (touchL l[k] = opL l[k].op ++ Lib.itoa l[k].ad ++ [58] ++ Lib.itoa l[k].len) := Lib.hid rfl
      have NO := Lib.hid (fun w => implOpText l[k].op w)
      have NY := Lib.hid (fun w hp => implItoa l[k].ad w TB.2.1.1 TB.2.1.2 hp)
      have NU := Lib.hid (fun w hp => implItoa l[k].len w TB.2.2.1 TB.2.2.2 hp)
      have SR := Lib.hid (sRow_set l k hlt)
      have PW := Lib.hid (HP.out.stays B1.out)
      clear TB
      generalize touchL l[k] = tl at *
      generalize Lib.itoa l[k].ad = Y at *
      generalize Lib.itoa l[k].len = U at *
      generalize opL l[k].op = O at *
      generalize l[k].op = x at *
      generalize l[k].ad = y at *
      generalize l[k].len = u at *
      have hO : (strL O).size = 1 := LO
      have hY : (strL Y).size ≤ 21 := LY
      have hU : (strL U).size ≤ 21 := LU
      have n1 : ¬ 9223372036854775807 < (strL O).size + (strL Y).size := by omega
      have n2 : ¬ 9223372036854775807 < (strL O).size + (strL Y).size + 1 := by omega
      have n3 : ¬ 9223372036854775807 < (strL O).size + (strL Y).size + 1 + (strL U).size := by omega
      have hk0 : (0 : Int) ≤ (k : Int) := by omega
      have hk1 : (k : Int) < (l.length : Int) := by omega
      clear hO
      go_wp2
      obtain ⟨w2, hw2⟩ : ∃ w2, w2 = wr.alloc (.cells #[.int .i64 x, .int .i64 y, .int .i64 u] 35) := ⟨_, rfl⟩
      rw [← hw2]
      have f0 : w2.drew.cell? ⟨wr.heap.size, 0, none⟩ = some (.int .i64 x) := by rw [hw2]; exact cur_cell (alloc_at wr _ _ rfl) 0
      have f1 : w2.drew.cell? ⟨wr.heap.size, 1, none⟩ = some (.int .i64 y) := by rw [hw2]; exact cur_cell (alloc_at wr _ _ rfl) 1
      have f2 : w2.drew.cell? ⟨wr.heap.size, 2, none⟩ = some (.int .i64 u) := by rw [hw2]; exact cur_cell (alloc_at wr _ _ rfl) 2
      have B2 : Hid (Below w.heap.size w w2.drew) := Lib.hid (by rw [hw2]; exact below_drew (below_box B1.out _))
      have O2 : Hid (w2.drew.ownsRow w.heap.size 9 1 (.slice (some ⟨w.heap.size, 0, none⟩) l.length l.length) l.length (sRow l k)) := Lib.hid (by rw [hw2]; exact own_below (O1.out.alloc _) (belowN 1))
      have P2 := Lib.hid (HP.out.stays B2.out)
      clear hw2 O1 B1 PW q0 q1 q2
      have N0 := Lib.hid (NO.out w2.drew)
      have N1 := Lib.hid (NY.out w2.drew P2.out)
      have F2 := Lib.hid f2
      go_region_law (first
        | (refine step_callW w2.drew rfl (by rfl) 21 _ _ rfl _ (by kernel_rfl) Tryd.call21 _ N0.out ?_; rintro e w9 ⟨rfl, rfl⟩; refine ⟨_, rfl, ?_⟩)
        | (refine step_callW w2.drew rfl (by rfl) 22 _ _ rfl _ (by kernel_rfl) Tryd.call22 _ N1.out ?_; rintro e w3 ⟨rfl, hb3⟩; refine ⟨_, rfl, ?_⟩; have B3 := Lib.hid (below_seq B2.out hb3); have O3 := Lib.hid (own_below O2.out hb3); have P3 := Lib.hid (HP.out.stays B3.out); have g2 : w3.cell? ⟨wr.heap.size, 2, none⟩ = some (.int .i64 u) := cell_keep F2.out hb3; clear hb3)
        | (refine step_callW w3 rfl (by rfl) 22 _ _ rfl _ (by kernel_rfl) Tryd.call22 _ (NU.out w3 P3.out) ?_; rintro e w4 ⟨rfl, hb4⟩; refine ⟨_, rfl, ?_⟩; have B4 := Lib.hid (below_seq B3.out hb4); have O4 := Lib.hid (own_below O3.out hb4); have hf := O4.out.frozenAt k; have hc : w4.cell? ⟨w.heap.size, k, none⟩ = some ((sRow l k)[k]'(by rw [sRow_length _ _ hk]; exact hlt)) := (O4.out.cellAt k (by omega)).trans (List.getElem?_eq_getElem _); clear hb4))
      all_goals
        clear hc hf
        go_wp2
        go_roundw
        case rel => exact ⟨k + 1, by omega, by go_num, Lib.hid (own_xs (O4.out.stored k _).1 (by rw [← SR.out, HL.out, ← str4])), Lib.hid (below_write B4.out (O4.out.stored k _).2 (Nat.le_refl _))⟩
        case measure => simp [intOf]; omega
    · have hk' : k = l.length := by omega
      subst hk'
      have hown := O1.out
      rw [sRow_done] at hown
      have hjl := join_len l BD.out
      have J := Lib.hid (Tryd.strings_Join w.heap.size 0 l.length (l.map fun t => strL (touchL t)) ⟨#[32]⟩ wr (fun j x hx => by
        have hj : j < l.length := by
          rcases Nat.lt_or_ge j l.length with h | h
          · exact h
          · rw [List.getElem?_eq_none (by simpa using h)] at hx; cases hx
        rw [Nat.zero_add, hown.cellAt j (by omega)]
        simp [hj] at hx ⊢
        exact hx) (hown.lt w.heap.size rfl).2 (by simp; omega) (by simp) (by rw [join_words]; omega))
      rw [List.length_map] at J
      have HX : Hid ((⟨(Lib.join ((l.map fun t => strL (touchL t)).map (·.data.toList)) (⟨#[32]⟩ : ByteArray).data.toList).toArray⟩ : ByteArray) = strL (textL l)) := Lib.hid (by rw [HT.out]; unfold strL; congr 2; exact join_words l)
      clear hown hjl O1
      go_wp2_with fail
      refine J.out.mono ?_
      rintro e w5 ⟨rfl, hb5⟩
      have B5 := Lib.hid (below_seq B1.out hb5)
      clear hb5 J
      go_wp2
      go_ret
      exact ⟨ret_str (by have hx := HX.out; rw [List.map_map] at hx; exact hx), B5.out⟩
end Go.Proofs.YticfnhbjoaecjaaDoor
