/- The text of a log, in the model of the document. -/
import Derived.Test.YticfnhbjoaecjaaDoorTchTxt
namespace Go.Proofs.YticfnhbjoaecjaaDoor
open Go.RowKit
set_option linter.unusedVariables false
set_option maxRecDepth 100000

theorem own_xs {w : World} {s base n : Nat} {e : TypeId} {v : Value} {xs ys : List Value} (h : w.ownsRow base e s v n xs) (hx : xs = ys) : w.ownsRow base e s v n ys := by rw [← hx]; exact h
set_option maxHeartbeats 8000000 in
theorem uSpecTouchText (c : Value) (l : List TouchM) (w : World) (h : TouchSIn [c] l w) (b0 : ∀ t ∈ l, tbd t) : Calls Tryd.prog 13 #[c] w fun e w' => e = .returned (.string (strL (textL l))) ∧ Below w.heap.size w w' := by
  obtain ⟨a, cap, rfl, _, hm, hr⟩ := touchSIn_shape h
  have R := Lib.hid hr
  have BD := Lib.hid b0
  unfold maxLen at hm
  clear h hr b0
  by_cases hl : 6000 < l.length
  · have H := Lib.hid (text_long hl)
    go_enter Tryd.func13, Tryd.ntmps13
    go_wp2
    go_ret
    exact ⟨ret_str (by rw [H.out]; rfl), Below.refl _ _⟩
  have HT := Lib.hid (text_fine hl)
  go_enter Tryd.func13, Tryd.ntmps13
  go_wp2
  go_loopw [3, 4, 5] (fun o i _ wr => ∃ (k : Nat) (acc : List UInt8) (ao : Option Addr) (oc : Nat), k ≤ l.length ∧ i = .int .i64 k ∧ o = .slice ao acc.length oc ∧ wr.ownsRow w.heap.size 5 1 (.slice ao acc.length oc) acc.length (acc.map bval) ∧ Hid (acc = Lib.join ((l.take k).map touchL) [32]) ∧ Below w.heap.size w wr) (fun _ i _ _ => l.length - (intOf i).toNat)
  case atStart => exact ⟨0, [], _, _, Nat.zero_le _, rfl, rfl, World.ownsRow_made w #[] 0 (Nat.le_refl _) (by unfold maxLen; omega) rfl, Lib.hid (by simp [Lib.join_nil]), (Below.refl _ _).alloc (Nat.le_refl _) _⟩
  case round =>
    obtain ⟨k, acc, ao, oc, hk, rfl, rfl, hown, HA, hb⟩ := hrel
    have OW := Lib.hid hown
    have HB := Lib.hid hb
    have hsz : w.heap.size ≤ wr.heap.size := hb.size
    by_cases hlt : k < l.length
    · obtain ⟨b1, o1, rfl, q0, q1, q2⟩ := R.out.touch hlt
      have TB := BD.out _ (List.getElem_mem hlt)
      have CK : Hid (∀ w', Below w.heap.size w w' → w'.cell? ⟨b1, o1 + k * 3, none⟩ = some (.int .i64 l[k].op)) := Lib.hid (fun w' hb => cell_keep q0 hb)
      have CA : Hid (∀ w', Below w.heap.size w w' → w'.cell? ⟨b1, o1 + k * 3 + 1, none⟩ = some (.int .i64 l[k].ad)) := Lib.hid (fun w' hb => cell_keep q1 hb)
      have CL : Hid (∀ w', Below w.heap.size w w' → w'.cell? ⟨b1, o1 + k * 3 + 2, none⟩ = some (.int .i64 l[k].len)) := Lib.hid (fun w' hb => cell_keep q2 hb)
      have e00 : wr.cell? ⟨b1, o1 + k * 3, none⟩ = some (.int .i64 l[k].op) := CK.out wr hb
      have NY := Lib.hid (fun w => specNum l[k].ad w TB.2.1.1 TB.2.1.2)
      have NU := Lib.hid (fun w => specNum l[k].len w TB.2.2.1 TB.2.2.2)
      have LY := itoa_len l[k].ad TB.2.1.1 TB.2.1.2
      have LU := itoa_len l[k].len TB.2.2.1 TB.2.2.2
      have HJ : Hid (Lib.join ((l.take (k + 1)).map touchL) [32] = if (l.take k).map touchL = [] then touchL l[k] else acc ++ [32] ++ touchL l[k]) := Lib.hid (by
        rw [List.take_succ_eq_append_getElem hlt, List.map_append, List.map_singleton, join_snoc, HA.out])
      have HL : Hid (touchL l[k] = opL l[k].op ++ Lib.itoa l[k].ad ++ [58] ++ Lib.itoa l[k].len) := Lib.hid rfl
      have hal : acc.length ≤ 270000 := by
        have h1 := join_len (l.take k) (fun t ht => BD.out t (List.mem_of_mem_take ht))
        rw [← HA.out, List.length_take] at h1
        omega
      have HA0 : Hid (k = 0 → acc = []) := Lib.hid (fun h => by rw [HA.out, h]; rfl)
      have HKE : Hid (¬ 0 < k → (l.take k).map touchL = []) := Lib.hid (fun h => by rw [show k = 0 from by omega]; rfl)
      have HK0 : Hid (0 < k → (l.take k).map touchL ≠ []) := Lib.hid (fun h e => by have h2 := congrArg List.length e; rw [List.length_map, List.length_take, List.length_nil] at h2; omega)
      clear hown hb q0 q1 q2 TB HA
      generalize touchL l[k] = tl at *
      generalize l[k].op = x at *
      generalize Lib.itoa l[k].ad = Y at *
      generalize Lib.itoa l[k].len = U at *
      generalize l[k].ad = y at *
      generalize l[k].len = u at *
      have hY : (strL Y).size ≤ 21 := LY
      have hU : (strL U).size ≤ 21 := LU
      have hs1 : (strL Y).size ≤ 9223372036854775806 := by omega
      have hs2 : (strL Y).size + 1 + (strL U).size ≤ 9223372036854775807 := by omega
      have hn1 : ¬ 9223372036854775807 < (strL Y).size + 1 := by omega
      have hn2 : ¬ 9223372036854775807 < (strL Y).size + 1 + (strL U).size := by omega
      have HSZ : Hid ((strL Y ++ ⟨#[58]⟩ ++ strL U).size = Y.length + 1 + U.length) := Lib.hid (by simp [ByteArray.size_append]; rfl)
      have HSM : Hid ((strL Y ++ ⟨#[58]⟩ ++ strL U).size = (strL Y).size + 1 + (strL U).size) := Lib.hid (by simp [ByteArray.size_append]; rfl)
      have HDT : Hid ((strL Y ++ ⟨#[58]⟩ ++ strL U).data.toList = Y ++ [58] ++ U) := Lib.hid (by simp [ByteArray.data_append, strL])
      by_cases hk0 : 0 < k
      · rcases op_cases x with ⟨n1, HO⟩ | ⟨n1, HO⟩ | ⟨n1, n2, HO⟩
        · have d1 : (x == 1) = true := by simp [n1]
          have d2 : (x == 2) = false := by simp [n1]
          clear n1
          go_wp2_with (first
            | (at_builtin; refine wp_app_row rfl _ _ 22 rfl 5 (.int .u8 0) 1 Tryd.underlying22 Tryd.info5 rfl w.heap.size acc.length (.slice ao acc.length oc) (acc.map bval) (by rfl) (OW.out.alloc (.cells #[.int .u8 32] 5)) (some ⟨wr.heap.size, 0, none⟩) 1 1 [.int .u8 32] (by rfl) rfl (row_one wr (.int .u8 32) 5) (by simp [Value.oneCell']) (by unfold maxLen; omega) (by omega) (by simp; omega) ?_; intro v1 w1 ho1 hg1; obtain ⟨a1, c1, rfl⟩ := own_shape ho1; have B1 := Lib.hid ((below_box HB.out (.cells #[.int .u8 32] 5)).grown hg1 (by simp; omega) (fun g hg => (OW.out.lt g hg).1)); have O1 := Lib.hid ho1; have s1 : w.heap.size ≤ w1.heap.size := B1.out.size; have e0 : w1.cell? ⟨b1, o1 + k * 3, none⟩ = some (.int .i64 x) := CK.out w1 B1.out; clear ho1 hg1)
            | (at_builtin; refine wp_app_row rfl _ _ 22 rfl 5 (.int .u8 0) 1 Tryd.underlying22 Tryd.info5 rfl w.heap.size (acc.length + 1) (.slice a1 (acc.length + 1) c1) (acc.map bval ++ [.int .u8 32]) (by rfl) (O1.out.alloc (.cells #[.int .u8 114] 5)) (some ⟨w1.heap.size, 0, none⟩) 1 1 [.int .u8 114] (by rfl) rfl (row_one w1 (.int .u8 114) 5) (by simp [Value.oneCell']) (by unfold maxLen; omega) (by omega) (by simp; omega) ?_; intro v2 w2 ho2 hg2; obtain ⟨a2, c2, rfl⟩ := own_shape ho2; have B2 := Lib.hid ((below_box B1.out (.cells #[.int .u8 114] 5)).grown hg2 (by simp; omega) (fun g hg => (O1.out.lt g hg).1)); have O2 := Lib.hid ho2; clear ho2 hg2))
          have s2 : w.heap.size ≤ w2.heap.size := B2.out.size
          have a0 : w2.drew.cell? ⟨b1, o1 + k * 3 + 1, none⟩ = some (.int .i64 y) := CA.out w2 B2.out
          have l0 : w2.drew.cell? ⟨b1, o1 + k * 3 + 2, none⟩ = some (.int .i64 u) := CL.out w2 B2.out
          have N1 := Lib.hid (NY.out w2.drew)
          go_region_law (first
            | (refine step_callW w2.drew rfl (by rfl) 24 _ _ (by rfl) _ (by kernel_rfl) Tryd.call24 _ N1.out ?_; rintro e w3 ⟨rfl, hb3⟩; refine ⟨_, rfl, ?_⟩; have B3 := Lib.hid (below_seq (below_drew B2.out) hb3); have O3 := Lib.hid (own_below (own_below O2.out (belowN 1)) hb3); have l3 : w3.cell? ⟨b1, o1 + k * 3 + 2, none⟩ = some (.int .i64 u) := CL.out w3 B3.out; clear hb3)
            | (refine step_callW w3 rfl (by rfl) 24 _ _ (by rfl) _ (by kernel_rfl) Tryd.call24 _ (NU.out w3) ?_; rintro e w4 ⟨rfl, hb4⟩; refine ⟨_, rfl, ?_⟩; have B4 := Lib.hid (below_seq B3.out hb4); have O4 := Lib.hid (own_below O3.out hb4); have cv := fun s => Lib.run_convert_string_bytes (P := Tryd.prog) w4 9 22 5 s Tryd.underlying9 Tryd.underlying22 Tryd.underlying5; clear hb4)
            | (refine step_app_rowW _ rfl (by rfl) _ _ _ (by rfl) 5 (.int .u8 0) 1 Tryd.underlying22 Tryd.info5 rfl w.heap.size _ _ _ (own_below O4.out (Lib.bytesWorld_below w4 5 _)) (by rfl) (some ⟨w4.heap.size, 0, none⟩) ((strL Y).size + 1 + (strL U).size) _ _ (by rfl) (by rw [List.length_map, len_data, ByteArray.size_append, ByteArray.size_append]; rfl) (row_bytes w4 5 _) (ones_bvn _) (by unfold maxLen; omega) (by omega) (by rw [Lib.bytesWorld_size]; have := B4.out.size; omega) ?_; intro v5 w5 ho5 hg5; obtain ⟨a5, c5, rfl⟩ := own_shape ho5; have B5 := Lib.hid ((below_seq B4.out (Lib.bytesWorld_below w4 5 _)).grown hg5 (by rw [Lib.bytesWorld_size]; have := B4.out.size; omega) (fun g hg => (O4.out.lt g hg).1)); have O5 := Lib.hid ho5; clear ho5 hg5))
          all_goals
            have eL : acc.length + 1 + 1 + ((strL Y).size + 1 + (strL U).size) = (acc ++ [32] ++ [114] ++ Y ++ [58] ++ U).length := by simp [strL_size]; omega
            have h5 := own_xs O5.out (show _ = (acc ++ [32] ++ [114] ++ Y ++ [58] ++ U).map bval from by simp [ByteArray.data_append, strL, bval])
            rw [eL] at h5
            have O6 := Lib.hid h5
            have EL := Lib.hid eL
            have J5 : Hid ((acc ++ [32] ++ [114] ++ Y ++ [58] ++ U) = Lib.join ((l.take (k + 1)).map touchL) [32]) := Lib.hid (by rw [HJ.out, if_neg (HK0.out hk0), HL.out, HO]; simp)
            clear h5 eL cv
            go_wp2
            go_roundw
            case rel => exact ⟨k + 1, (acc ++ [32] ++ [114] ++ Y ++ [58] ++ U), a5, c5, by omega, by go_num, by rw [← EL.out], O6.out, J5, B5.out⟩
            case measure => simp [intOf]; omega
        · have d1 : (x == 1) = false := by simp [n1]
          have d2 : (x == 2) = true := by simp [n1]
          clear n1
          go_wp2_with (first
            | (at_builtin; refine wp_app_row rfl _ _ 22 rfl 5 (.int .u8 0) 1 Tryd.underlying22 Tryd.info5 rfl w.heap.size acc.length (.slice ao acc.length oc) (acc.map bval) (by rfl) (OW.out.alloc (.cells #[.int .u8 32] 5)) (some ⟨wr.heap.size, 0, none⟩) 1 1 [.int .u8 32] (by rfl) rfl (row_one wr (.int .u8 32) 5) (by simp [Value.oneCell']) (by unfold maxLen; omega) (by omega) (by simp; omega) ?_; intro v1 w1 ho1 hg1; obtain ⟨a1, c1, rfl⟩ := own_shape ho1; have B1 := Lib.hid ((below_box HB.out (.cells #[.int .u8 32] 5)).grown hg1 (by simp; omega) (fun g hg => (OW.out.lt g hg).1)); have O1 := Lib.hid ho1; have s1 : w.heap.size ≤ w1.heap.size := B1.out.size; have e0 : w1.cell? ⟨b1, o1 + k * 3, none⟩ = some (.int .i64 x) := CK.out w1 B1.out; clear ho1 hg1)
            | (at_builtin; refine wp_app_row rfl _ _ 22 rfl 5 (.int .u8 0) 1 Tryd.underlying22 Tryd.info5 rfl w.heap.size (acc.length + 1) (.slice a1 (acc.length + 1) c1) (acc.map bval ++ [.int .u8 32]) (by rfl) (O1.out.alloc (.cells #[.int .u8 119] 5)) (some ⟨w1.heap.size, 0, none⟩) 1 1 [.int .u8 119] (by rfl) rfl (row_one w1 (.int .u8 119) 5) (by simp [Value.oneCell']) (by unfold maxLen; omega) (by omega) (by simp; omega) ?_; intro v2 w2 ho2 hg2; obtain ⟨a2, c2, rfl⟩ := own_shape ho2; have B2 := Lib.hid ((below_box B1.out (.cells #[.int .u8 119] 5)).grown hg2 (by simp; omega) (fun g hg => (O1.out.lt g hg).1)); have O2 := Lib.hid ho2; clear ho2 hg2))
          have s2 : w.heap.size ≤ w2.heap.size := B2.out.size
          have a0 : w2.drew.cell? ⟨b1, o1 + k * 3 + 1, none⟩ = some (.int .i64 y) := CA.out w2 B2.out
          have l0 : w2.drew.cell? ⟨b1, o1 + k * 3 + 2, none⟩ = some (.int .i64 u) := CL.out w2 B2.out
          have N1 := Lib.hid (NY.out w2.drew)
          go_region_law (first
            | (refine step_callW w2.drew rfl (by rfl) 24 _ _ (by rfl) _ (by kernel_rfl) Tryd.call24 _ N1.out ?_; rintro e w3 ⟨rfl, hb3⟩; refine ⟨_, rfl, ?_⟩; have B3 := Lib.hid (below_seq (below_drew B2.out) hb3); have O3 := Lib.hid (own_below (own_below O2.out (belowN 1)) hb3); have l3 : w3.cell? ⟨b1, o1 + k * 3 + 2, none⟩ = some (.int .i64 u) := CL.out w3 B3.out; clear hb3)
            | (refine step_callW w3 rfl (by rfl) 24 _ _ (by rfl) _ (by kernel_rfl) Tryd.call24 _ (NU.out w3) ?_; rintro e w4 ⟨rfl, hb4⟩; refine ⟨_, rfl, ?_⟩; have B4 := Lib.hid (below_seq B3.out hb4); have O4 := Lib.hid (own_below O3.out hb4); have cv := fun s => Lib.run_convert_string_bytes (P := Tryd.prog) w4 9 22 5 s Tryd.underlying9 Tryd.underlying22 Tryd.underlying5; clear hb4)
            | (refine step_app_rowW _ rfl (by rfl) _ _ _ (by rfl) 5 (.int .u8 0) 1 Tryd.underlying22 Tryd.info5 rfl w.heap.size _ _ _ (own_below O4.out (Lib.bytesWorld_below w4 5 _)) (by rfl) (some ⟨w4.heap.size, 0, none⟩) ((strL Y).size + 1 + (strL U).size) _ _ (by rfl) (by rw [List.length_map, len_data, ByteArray.size_append, ByteArray.size_append]; rfl) (row_bytes w4 5 _) (ones_bvn _) (by unfold maxLen; omega) (by omega) (by rw [Lib.bytesWorld_size]; have := B4.out.size; omega) ?_; intro v5 w5 ho5 hg5; obtain ⟨a5, c5, rfl⟩ := own_shape ho5; have B5 := Lib.hid ((below_seq B4.out (Lib.bytesWorld_below w4 5 _)).grown hg5 (by rw [Lib.bytesWorld_size]; have := B4.out.size; omega) (fun g hg => (O4.out.lt g hg).1)); have O5 := Lib.hid ho5; clear ho5 hg5))
          all_goals
            have eL : acc.length + 1 + 1 + ((strL Y).size + 1 + (strL U).size) = (acc ++ [32] ++ [119] ++ Y ++ [58] ++ U).length := by simp [strL_size]; omega
            have h5 := own_xs O5.out (show _ = (acc ++ [32] ++ [119] ++ Y ++ [58] ++ U).map bval from by simp [ByteArray.data_append, strL, bval])
            rw [eL] at h5
            have O6 := Lib.hid h5
            have EL := Lib.hid eL
            have J5 : Hid ((acc ++ [32] ++ [119] ++ Y ++ [58] ++ U) = Lib.join ((l.take (k + 1)).map touchL) [32]) := Lib.hid (by rw [HJ.out, if_neg (HK0.out hk0), HL.out, HO]; simp)
            clear h5 eL cv
            go_wp2
            go_roundw
            case rel => exact ⟨k + 1, (acc ++ [32] ++ [119] ++ Y ++ [58] ++ U), a5, c5, by omega, by go_num, by rw [← EL.out], O6.out, J5, B5.out⟩
            case measure => simp [intOf]; omega
        · have d1 : (x == 1) = false := by simp [n1]
          have d2 : (x == 2) = false := by simp [n2]
          clear n1 n2
          go_wp2_with (first
            | (at_builtin; refine wp_app_row rfl _ _ 22 rfl 5 (.int .u8 0) 1 Tryd.underlying22 Tryd.info5 rfl w.heap.size acc.length (.slice ao acc.length oc) (acc.map bval) (by rfl) (OW.out.alloc (.cells #[.int .u8 32] 5)) (some ⟨wr.heap.size, 0, none⟩) 1 1 [.int .u8 32] (by rfl) rfl (row_one wr (.int .u8 32) 5) (by simp [Value.oneCell']) (by unfold maxLen; omega) (by omega) (by simp; omega) ?_; intro v1 w1 ho1 hg1; obtain ⟨a1, c1, rfl⟩ := own_shape ho1; have B1 := Lib.hid ((below_box HB.out (.cells #[.int .u8 32] 5)).grown hg1 (by simp; omega) (fun g hg => (OW.out.lt g hg).1)); have O1 := Lib.hid ho1; have s1 : w.heap.size ≤ w1.heap.size := B1.out.size; have e0 : w1.cell? ⟨b1, o1 + k * 3, none⟩ = some (.int .i64 x) := CK.out w1 B1.out; clear ho1 hg1)
            | (at_builtin; refine wp_app_row rfl _ _ 22 rfl 5 (.int .u8 0) 1 Tryd.underlying22 Tryd.info5 rfl w.heap.size (acc.length + 1) (.slice a1 (acc.length + 1) c1) (acc.map bval ++ [.int .u8 32]) (by rfl) (O1.out.alloc (.cells #[.int .u8 63] 5)) (some ⟨w1.heap.size, 0, none⟩) 1 1 [.int .u8 63] (by rfl) rfl (row_one w1 (.int .u8 63) 5) (by simp [Value.oneCell']) (by unfold maxLen; omega) (by omega) (by simp; omega) ?_; intro v2 w2 ho2 hg2; obtain ⟨a2, c2, rfl⟩ := own_shape ho2; have B2 := Lib.hid ((below_box B1.out (.cells #[.int .u8 63] 5)).grown hg2 (by simp; omega) (fun g hg => (O1.out.lt g hg).1)); have O2 := Lib.hid ho2; clear ho2 hg2))
          have s2 : w.heap.size ≤ w2.heap.size := B2.out.size
          have a0 : w2.drew.cell? ⟨b1, o1 + k * 3 + 1, none⟩ = some (.int .i64 y) := CA.out w2 B2.out
          have l0 : w2.drew.cell? ⟨b1, o1 + k * 3 + 2, none⟩ = some (.int .i64 u) := CL.out w2 B2.out
          have N1 := Lib.hid (NY.out w2.drew)
          go_region_law (first
            | (refine step_callW w2.drew rfl (by rfl) 24 _ _ (by rfl) _ (by kernel_rfl) Tryd.call24 _ N1.out ?_; rintro e w3 ⟨rfl, hb3⟩; refine ⟨_, rfl, ?_⟩; have B3 := Lib.hid (below_seq (below_drew B2.out) hb3); have O3 := Lib.hid (own_below (own_below O2.out (belowN 1)) hb3); have l3 : w3.cell? ⟨b1, o1 + k * 3 + 2, none⟩ = some (.int .i64 u) := CL.out w3 B3.out; clear hb3)
            | (refine step_callW w3 rfl (by rfl) 24 _ _ (by rfl) _ (by kernel_rfl) Tryd.call24 _ (NU.out w3) ?_; rintro e w4 ⟨rfl, hb4⟩; refine ⟨_, rfl, ?_⟩; have B4 := Lib.hid (below_seq B3.out hb4); have O4 := Lib.hid (own_below O3.out hb4); have cv := fun s => Lib.run_convert_string_bytes (P := Tryd.prog) w4 9 22 5 s Tryd.underlying9 Tryd.underlying22 Tryd.underlying5; clear hb4)
            | (refine step_app_rowW _ rfl (by rfl) _ _ _ (by rfl) 5 (.int .u8 0) 1 Tryd.underlying22 Tryd.info5 rfl w.heap.size _ _ _ (own_below O4.out (Lib.bytesWorld_below w4 5 _)) (by rfl) (some ⟨w4.heap.size, 0, none⟩) ((strL Y).size + 1 + (strL U).size) _ _ (by rfl) (by rw [List.length_map, len_data, ByteArray.size_append, ByteArray.size_append]; rfl) (row_bytes w4 5 _) (ones_bvn _) (by unfold maxLen; omega) (by omega) (by rw [Lib.bytesWorld_size]; have := B4.out.size; omega) ?_; intro v5 w5 ho5 hg5; obtain ⟨a5, c5, rfl⟩ := own_shape ho5; have B5 := Lib.hid ((below_seq B4.out (Lib.bytesWorld_below w4 5 _)).grown hg5 (by rw [Lib.bytesWorld_size]; have := B4.out.size; omega) (fun g hg => (O4.out.lt g hg).1)); have O5 := Lib.hid ho5; clear ho5 hg5))
          all_goals
            have eL : acc.length + 1 + 1 + ((strL Y).size + 1 + (strL U).size) = (acc ++ [32] ++ [63] ++ Y ++ [58] ++ U).length := by simp [strL_size]; omega
            have h5 := own_xs O5.out (show _ = (acc ++ [32] ++ [63] ++ Y ++ [58] ++ U).map bval from by simp [ByteArray.data_append, strL, bval])
            rw [eL] at h5
            have O6 := Lib.hid h5
            have EL := Lib.hid eL
            have J5 : Hid ((acc ++ [32] ++ [63] ++ Y ++ [58] ++ U) = Lib.join ((l.take (k + 1)).map touchL) [32]) := Lib.hid (by rw [HJ.out, if_neg (HK0.out hk0), HL.out, HO]; simp)
            clear h5 eL cv
            go_wp2
            go_roundw
            case rel => exact ⟨k + 1, (acc ++ [32] ++ [63] ++ Y ++ [58] ++ U), a5, c5, by omega, by go_num, by rw [← EL.out], O6.out, J5, B5.out⟩
            case measure => simp [intOf]; omega
      · rcases op_cases x with ⟨n1, HO⟩ | ⟨n1, HO⟩ | ⟨n1, n2, HO⟩
        · have d1 : (x == 1) = true := by simp [n1]
          have d2 : (x == 2) = false := by simp [n1]
          clear n1
          go_wp2_with (first
            | (at_builtin; refine wp_app_row rfl _ _ 22 rfl 5 (.int .u8 0) 1 Tryd.underlying22 Tryd.info5 rfl w.heap.size acc.length (.slice ao acc.length oc) (acc.map bval) (by rfl) (OW.out.alloc (.cells #[.int .u8 114] 5)) (some ⟨wr.heap.size, 0, none⟩) 1 1 [.int .u8 114] (by rfl) rfl (row_one wr (.int .u8 114) 5) (by simp [Value.oneCell']) (by unfold maxLen; omega) (by omega) (by simp; omega) ?_; intro v2 w2 ho2 hg2; obtain ⟨a2, c2, rfl⟩ := own_shape ho2; have B2 := Lib.hid ((below_box HB.out (.cells #[.int .u8 114] 5)).grown hg2 (by simp; omega) (fun g hg => (OW.out.lt g hg).1)); have O2 := Lib.hid ho2; clear ho2 hg2))
          have s2 : w.heap.size ≤ w2.heap.size := B2.out.size
          have a0 : w2.drew.cell? ⟨b1, o1 + k * 3 + 1, none⟩ = some (.int .i64 y) := CA.out w2 B2.out
          have l0 : w2.drew.cell? ⟨b1, o1 + k * 3 + 2, none⟩ = some (.int .i64 u) := CL.out w2 B2.out
          have N1 := Lib.hid (NY.out w2.drew)
          go_region_law (first
            | (refine step_callW w2.drew rfl (by rfl) 24 _ _ (by rfl) _ (by kernel_rfl) Tryd.call24 _ N1.out ?_; rintro e w3 ⟨rfl, hb3⟩; refine ⟨_, rfl, ?_⟩; have B3 := Lib.hid (below_seq (below_drew B2.out) hb3); have O3 := Lib.hid (own_below (own_below O2.out (belowN 1)) hb3); have l3 : w3.cell? ⟨b1, o1 + k * 3 + 2, none⟩ = some (.int .i64 u) := CL.out w3 B3.out; clear hb3)
            | (refine step_callW w3 rfl (by rfl) 24 _ _ (by rfl) _ (by kernel_rfl) Tryd.call24 _ (NU.out w3) ?_; rintro e w4 ⟨rfl, hb4⟩; refine ⟨_, rfl, ?_⟩; have B4 := Lib.hid (below_seq B3.out hb4); have O4 := Lib.hid (own_below O3.out hb4); have cv := fun s => Lib.run_convert_string_bytes (P := Tryd.prog) w4 9 22 5 s Tryd.underlying9 Tryd.underlying22 Tryd.underlying5; clear hb4)
            | (refine step_app_rowW _ rfl (by rfl) _ _ _ (by rfl) 5 (.int .u8 0) 1 Tryd.underlying22 Tryd.info5 rfl w.heap.size _ _ _ (own_below O4.out (Lib.bytesWorld_below w4 5 _)) (by rfl) (some ⟨w4.heap.size, 0, none⟩) ((strL Y).size + 1 + (strL U).size) _ _ (by rfl) (by rw [List.length_map, len_data, ByteArray.size_append, ByteArray.size_append]; rfl) (row_bytes w4 5 _) (ones_bvn _) (by unfold maxLen; omega) (by omega) (by rw [Lib.bytesWorld_size]; have := B4.out.size; omega) ?_; intro v5 w5 ho5 hg5; obtain ⟨a5, c5, rfl⟩ := own_shape ho5; have B5 := Lib.hid ((below_seq B4.out (Lib.bytesWorld_below w4 5 _)).grown hg5 (by rw [Lib.bytesWorld_size]; have := B4.out.size; omega) (fun g hg => (O4.out.lt g hg).1)); have O5 := Lib.hid ho5; clear ho5 hg5))
          all_goals
            have eL : acc.length + 1 + ((strL Y).size + 1 + (strL U).size) = (acc ++ [114] ++ Y ++ [58] ++ U).length := by simp [strL_size]; omega
            have h5 := own_xs O5.out (show _ = (acc ++ [114] ++ Y ++ [58] ++ U).map bval from by simp [ByteArray.data_append, strL, bval])
            rw [eL] at h5
            have O6 := Lib.hid h5
            have EL := Lib.hid eL
            have J5 : Hid ((acc ++ [114] ++ Y ++ [58] ++ U) = Lib.join ((l.take (k + 1)).map touchL) [32]) := Lib.hid (by rw [HJ.out, if_pos (HKE.out hk0), HL.out, HO, HA0.out (by omega)]; simp)
            clear h5 eL cv
            go_wp2
            go_roundw
            case rel => exact ⟨k + 1, (acc ++ [114] ++ Y ++ [58] ++ U), a5, c5, by omega, by go_num, by rw [← EL.out], O6.out, J5, B5.out⟩
            case measure => simp [intOf]; omega
        · have d1 : (x == 1) = false := by simp [n1]
          have d2 : (x == 2) = true := by simp [n1]
          clear n1
          go_wp2_with (first
            | (at_builtin; refine wp_app_row rfl _ _ 22 rfl 5 (.int .u8 0) 1 Tryd.underlying22 Tryd.info5 rfl w.heap.size acc.length (.slice ao acc.length oc) (acc.map bval) (by rfl) (OW.out.alloc (.cells #[.int .u8 119] 5)) (some ⟨wr.heap.size, 0, none⟩) 1 1 [.int .u8 119] (by rfl) rfl (row_one wr (.int .u8 119) 5) (by simp [Value.oneCell']) (by unfold maxLen; omega) (by omega) (by simp; omega) ?_; intro v2 w2 ho2 hg2; obtain ⟨a2, c2, rfl⟩ := own_shape ho2; have B2 := Lib.hid ((below_box HB.out (.cells #[.int .u8 119] 5)).grown hg2 (by simp; omega) (fun g hg => (OW.out.lt g hg).1)); have O2 := Lib.hid ho2; clear ho2 hg2))
          have s2 : w.heap.size ≤ w2.heap.size := B2.out.size
          have a0 : w2.drew.cell? ⟨b1, o1 + k * 3 + 1, none⟩ = some (.int .i64 y) := CA.out w2 B2.out
          have l0 : w2.drew.cell? ⟨b1, o1 + k * 3 + 2, none⟩ = some (.int .i64 u) := CL.out w2 B2.out
          have N1 := Lib.hid (NY.out w2.drew)
          go_region_law (first
            | (refine step_callW w2.drew rfl (by rfl) 24 _ _ (by rfl) _ (by kernel_rfl) Tryd.call24 _ N1.out ?_; rintro e w3 ⟨rfl, hb3⟩; refine ⟨_, rfl, ?_⟩; have B3 := Lib.hid (below_seq (below_drew B2.out) hb3); have O3 := Lib.hid (own_below (own_below O2.out (belowN 1)) hb3); have l3 : w3.cell? ⟨b1, o1 + k * 3 + 2, none⟩ = some (.int .i64 u) := CL.out w3 B3.out; clear hb3)
            | (refine step_callW w3 rfl (by rfl) 24 _ _ (by rfl) _ (by kernel_rfl) Tryd.call24 _ (NU.out w3) ?_; rintro e w4 ⟨rfl, hb4⟩; refine ⟨_, rfl, ?_⟩; have B4 := Lib.hid (below_seq B3.out hb4); have O4 := Lib.hid (own_below O3.out hb4); have cv := fun s => Lib.run_convert_string_bytes (P := Tryd.prog) w4 9 22 5 s Tryd.underlying9 Tryd.underlying22 Tryd.underlying5; clear hb4)
            | (refine step_app_rowW _ rfl (by rfl) _ _ _ (by rfl) 5 (.int .u8 0) 1 Tryd.underlying22 Tryd.info5 rfl w.heap.size _ _ _ (own_below O4.out (Lib.bytesWorld_below w4 5 _)) (by rfl) (some ⟨w4.heap.size, 0, none⟩) ((strL Y).size + 1 + (strL U).size) _ _ (by rfl) (by rw [List.length_map, len_data, ByteArray.size_append, ByteArray.size_append]; rfl) (row_bytes w4 5 _) (ones_bvn _) (by unfold maxLen; omega) (by omega) (by rw [Lib.bytesWorld_size]; have := B4.out.size; omega) ?_; intro v5 w5 ho5 hg5; obtain ⟨a5, c5, rfl⟩ := own_shape ho5; have B5 := Lib.hid ((below_seq B4.out (Lib.bytesWorld_below w4 5 _)).grown hg5 (by rw [Lib.bytesWorld_size]; have := B4.out.size; omega) (fun g hg => (O4.out.lt g hg).1)); have O5 := Lib.hid ho5; clear ho5 hg5))
          all_goals
            have eL : acc.length + 1 + ((strL Y).size + 1 + (strL U).size) = (acc ++ [119] ++ Y ++ [58] ++ U).length := by simp [strL_size]; omega
            have h5 := own_xs O5.out (show _ = (acc ++ [119] ++ Y ++ [58] ++ U).map bval from by simp [ByteArray.data_append, strL, bval])
            rw [eL] at h5
            have O6 := Lib.hid h5
            have EL := Lib.hid eL
            have J5 : Hid ((acc ++ [119] ++ Y ++ [58] ++ U) = Lib.join ((l.take (k + 1)).map touchL) [32]) := Lib.hid (by rw [HJ.out, if_pos (HKE.out hk0), HL.out, HO, HA0.out (by omega)]; simp)
            clear h5 eL cv
            go_wp2
            go_roundw
            case rel => exact ⟨k + 1, (acc ++ [119] ++ Y ++ [58] ++ U), a5, c5, by omega, by go_num, by rw [← EL.out], O6.out, J5, B5.out⟩
            case measure => simp [intOf]; omega
        · have d1 : (x == 1) = false := by simp [n1]
          have d2 : (x == 2) = false := by simp [n2]
          clear n1 n2
          go_wp2_with (first
            | (at_builtin; refine wp_app_row rfl _ _ 22 rfl 5 (.int .u8 0) 1 Tryd.underlying22 Tryd.info5 rfl w.heap.size acc.length (.slice ao acc.length oc) (acc.map bval) (by rfl) (OW.out.alloc (.cells #[.int .u8 63] 5)) (some ⟨wr.heap.size, 0, none⟩) 1 1 [.int .u8 63] (by rfl) rfl (row_one wr (.int .u8 63) 5) (by simp [Value.oneCell']) (by unfold maxLen; omega) (by omega) (by simp; omega) ?_; intro v2 w2 ho2 hg2; obtain ⟨a2, c2, rfl⟩ := own_shape ho2; have B2 := Lib.hid ((below_box HB.out (.cells #[.int .u8 63] 5)).grown hg2 (by simp; omega) (fun g hg => (OW.out.lt g hg).1)); have O2 := Lib.hid ho2; clear ho2 hg2))
          have s2 : w.heap.size ≤ w2.heap.size := B2.out.size
          have a0 : w2.drew.cell? ⟨b1, o1 + k * 3 + 1, none⟩ = some (.int .i64 y) := CA.out w2 B2.out
          have l0 : w2.drew.cell? ⟨b1, o1 + k * 3 + 2, none⟩ = some (.int .i64 u) := CL.out w2 B2.out
          have N1 := Lib.hid (NY.out w2.drew)
          go_region_law (first
            | (refine step_callW w2.drew rfl (by rfl) 24 _ _ (by rfl) _ (by kernel_rfl) Tryd.call24 _ N1.out ?_; rintro e w3 ⟨rfl, hb3⟩; refine ⟨_, rfl, ?_⟩; have B3 := Lib.hid (below_seq (below_drew B2.out) hb3); have O3 := Lib.hid (own_below (own_below O2.out (belowN 1)) hb3); have l3 : w3.cell? ⟨b1, o1 + k * 3 + 2, none⟩ = some (.int .i64 u) := CL.out w3 B3.out; clear hb3)
            | (refine step_callW w3 rfl (by rfl) 24 _ _ (by rfl) _ (by kernel_rfl) Tryd.call24 _ (NU.out w3) ?_; rintro e w4 ⟨rfl, hb4⟩; refine ⟨_, rfl, ?_⟩; have B4 := Lib.hid (below_seq B3.out hb4); have O4 := Lib.hid (own_below O3.out hb4); have cv := fun s => Lib.run_convert_string_bytes (P := Tryd.prog) w4 9 22 5 s Tryd.underlying9 Tryd.underlying22 Tryd.underlying5; clear hb4)
            | (refine step_app_rowW _ rfl (by rfl) _ _ _ (by rfl) 5 (.int .u8 0) 1 Tryd.underlying22 Tryd.info5 rfl w.heap.size _ _ _ (own_below O4.out (Lib.bytesWorld_below w4 5 _)) (by rfl) (some ⟨w4.heap.size, 0, none⟩) ((strL Y).size + 1 + (strL U).size) _ _ (by rfl) (by rw [List.length_map, len_data, ByteArray.size_append, ByteArray.size_append]; rfl) (row_bytes w4 5 _) (ones_bvn _) (by unfold maxLen; omega) (by omega) (by rw [Lib.bytesWorld_size]; have := B4.out.size; omega) ?_; intro v5 w5 ho5 hg5; obtain ⟨a5, c5, rfl⟩ := own_shape ho5; have B5 := Lib.hid ((below_seq B4.out (Lib.bytesWorld_below w4 5 _)).grown hg5 (by rw [Lib.bytesWorld_size]; have := B4.out.size; omega) (fun g hg => (O4.out.lt g hg).1)); have O5 := Lib.hid ho5; clear ho5 hg5))
          all_goals
            have eL : acc.length + 1 + ((strL Y).size + 1 + (strL U).size) = (acc ++ [63] ++ Y ++ [58] ++ U).length := by simp [strL_size]; omega
            have h5 := own_xs O5.out (show _ = (acc ++ [63] ++ Y ++ [58] ++ U).map bval from by simp [ByteArray.data_append, strL, bval])
            rw [eL] at h5
            have O6 := Lib.hid h5
            have EL := Lib.hid eL
            have J5 : Hid ((acc ++ [63] ++ Y ++ [58] ++ U) = Lib.join ((l.take (k + 1)).map touchL) [32]) := Lib.hid (by rw [HJ.out, if_pos (HKE.out hk0), HL.out, HO, HA0.out (by omega)]; simp)
            clear h5 eL cv
            go_wp2
            go_roundw
            case rel => exact ⟨k + 1, (acc ++ [63] ++ Y ++ [58] ++ U), a5, c5, by omega, by go_num, by rw [← EL.out], O6.out, J5, B5.out⟩
            case measure => simp [intOf]; omega
    · have hk' : k = l.length := by omega
      subst hk'
      rw [List.take_of_length_le (Nat.le_refl _)] at HA
      have ht : acc = textL l := by rw [HT.out]; exact HA.out
      rw [ht] at hown
      have hcv := conv_any hown
      rw [← ht] at hcv
      have HX := Lib.hid ht
      clear ht hown
      go_wp2
      go_ret
      exact ⟨ret_str (by rw [HX.out]), hb⟩
end Go.Proofs.YticfnhbjoaecjaaDoor
