/- Chapter 7 in the model: the strings of planes; whether planes are valid. -/
import Derived.Test.YtfdlmpjccoaejaaPlJ
namespace Go.Proofs.Ytfdlmpjccoaejaa
open Go.RowKit
set_option linter.unusedVariables false
set_option maxRecDepth 100000

def wordsUp (m : PlanesM) (k : Nat) : List (List UInt8) := (List.range k).map (fun l => wordS m l 32)
theorem wordsUp_snoc (m : PlanesM) (k : Nat) : (wordsUp m (k + 1)).map sval = (wordsUp m k).map sval ++ [.string (strL (wordS m k 32))] := by simp [wordsUp, List.range_succ, sval]
theorem wordS_len (m : PlanesM) (l : Nat) : ∀ p, (wordS m l p).length ≤ p
  | 0 => by simp [wordS]
  | p + 1 => by
    have := wordS_len m l p
    rw [wordS, List.length_append]
    split <;> simp <;> omega
theorem nil_strsW (w : World) : (w.alloc (.cells #[] 9)).ownsRow w.heap.size 9 1 (.slice (some ⟨w.heap.size, 0, none⟩) 0 0) 0 [] := World.ownsRow_made w #[] 0 (Nat.le_refl _) (by unfold maxLen; omega) rfl
theorem nil_bytesW (w : World) : (w.alloc (.cells #[] 5)).ownsRow w.heap.size 5 1 (.slice (some ⟨w.heap.size, 0, none⟩) 0 0) 0 [] := World.ownsRow_made w #[] 0 (Nat.le_refl _) (by unfold maxLen; omega) rfl
theorem cut_in {a : Option Addr} {cap : Nat} {l : List Nat} {w : World} (h : Uint64SIn [.slice a l.length cap] l w) (hl : l.length = 160) {p : Nat} (hp : p < 32) : Uint64SIn [.slice (Option.map (fun x => x.add (5 * p)) a) 5 (cap - 5 * p)] ((l.drop (5 * p)).take 5) w := by
  obtain ⟨a1, cap1, e, hc, h1, r1⟩ := uint64SIn_shape h
  simp at e
  obtain ⟨rfl, rfl⟩ := e
  have LL : ((l.drop (5 * p)).take 5).length = 5 := by rw [List.length_take, List.length_drop]; omega
  refine ⟨_, cap - 5 * p, by rw [LL], by rw [LL]; omega, by rw [LL]; unfold maxLen; omega, ?_⟩
  have := r1.map_cut (5 * p) 5 (by simp; omega)
  rw [← List.map_drop, ← List.map_take] at this
  exact this
set_option maxHeartbeats 4000000 in
theorem specWordsL (c0 c1 c2 : Value) (m : PlanesM) (w : World) (h : PlanesIn [c0, c1, c2] m w) (hb : planesBd m) (hn0 : 0 ≤ m.n) (hn1 : m.n ≤ 64) (h160 : m.lts.length = 160) :
    Calls Try.prog 84 #[.agg #[c0, c1, c2]] w (StringSRet (wordsS m) w) := by
  obtain ⟨a1, x1, a2, x2, rfl, rfl, rfl, l1, l2⟩ := planesIn_cells h
  obtain ⟨_, h1, h2⟩ := planesIn_shape h
  obtain ⟨x160, hx2⟩ : ∃ x, 160 + x = x2 := by obtain ⟨_, _, e, hc, _⟩ := uint64SIn_shape h2; simp at e; exact ⟨x2 - 160, by omega⟩
  have G : Hid (∀ (p ln : Nat) w', p < 32 → ln < 64 → Below w.heap.size w w' → Calls Try.prog 85 #[.slice (Option.map (fun x => x.add (5 * p)) a2) 5 (x2 - 5 * p), .int .i64 ln] w' fun e w'' => e = .returned (.int .i64 ((laneN m ln p : Nat) : Int)) ∧ w' = w'') := Lib.hid (fun p ln w' hp hl hb' => specGet _ _ ln w' (cut_in (h2.below hb') h160 hp) (fun x hx => hb.2.2 x (List.mem_of_mem_drop (List.mem_of_mem_take hx))) (by rw [List.length_take]; omega) hl)
  obtain ⟨n, hn⟩ : ∃ n : Nat, m.n = n := ⟨m.n.toNat, by omega⟩
  have hn64 : n ≤ 64 := by omega
  have WU : Hid (wordsUp m n = wordsS m) := Lib.hid (by unfold wordsUp wordsS; rw [hn]; rfl)
  have hx160 : (160 : Nat) ≤ x2 := by omega
  have H160 := Lib.hid h160
  rw [hn]
  rw [h160]
  clear h h1 h2 hb hn0 hn1 hn h160 l1 l2 hx2
  have A0 : Hid (((w.alloc (.cells #[.int .i64 n, .slice a1 m.len.length x1, .slice a2 160 x2] 28)).alloc (.cells #[] 9)).ownsRow (w.heap.size + 1) 9 1 (.slice (some ⟨w.heap.size + 1, 0, none⟩) 0 0) 0 ((wordsUp m 0).map sval) ∧ ((w.alloc (.cells #[.int .i64 n, .slice a1 m.len.length x1, .slice a2 160 x2] 28)).alloc (.cells #[] 9)).heap[w.heap.size]? = some (.cells #[.int .i64 n, .slice a1 m.len.length x1, .slice a2 160 x2] 28 (0, 0)) ∧ Below w.heap.size w ((w.alloc (.cells #[.int .i64 n, .slice a1 m.len.length x1, .slice a2 160 x2] 28)).alloc (.cells #[] 9))) := Lib.hid ⟨by
      have := nil_strsW (w.alloc (.cells #[.int .i64 n, .slice a1 m.len.length x1, .slice a2 160 x2] 28))
      rw [size_box] at this
      exact this, (alloc_old _ _ _ (by simp)).trans (alloc_at _ _ _ rfl), below_box (below_box (Below.refl _ _) _) _⟩
  go_enter Try.func84, Try.ntmps84
  go_wp2
  generalize (w.alloc (.cells #[.int .i64 n, .slice a1 m.len.length x1, .slice a2 160 x2] 28)).alloc (.cells #[] 9) = w2 at *
  go_loopw [3, 4, 5, 6, 7] (fun o i _ _ _ wr => ∃ (k cl : Nat) (al : Option Addr), k ≤ n ∧ i = .int .i64 k ∧ o = .slice al k cl ∧ Hid (wr.ownsRow (w.heap.size + 1) 9 1 (.slice al k cl) k ((wordsUp m k).map sval) ∧ wr.heap[w.heap.size]? = some (.cells #[.int .i64 n, .slice a1 m.len.length x1, .slice a2 160 x2] 28 (0, 0)) ∧ Below w.heap.size w wr)) (fun _ i _ _ _ _ => n - (intOf i).toNat)
  case atStart => exact ⟨0, 0, _, Nat.zero_le _, rfl, rfl, A0⟩
  case round =>
    clear A0
    obtain ⟨k, cl, al, hk, rfl, rfl, H⟩ := hrel
    have q0 := cur_cell H.out.2.1 0
    simp at q0
    by_cases hlt : k < n
    · go_wp2
      clear q0
      obtain ⟨V, hV⟩ : ∃ V, V = wr := ⟨_, rfl⟩
      subst hV
      have A1 : Hid ((V.alloc (.cells #[] 5)).ownsRow V.heap.size 5 1 (.slice (some ⟨V.heap.size, 0, none⟩) 0 0) 0 ((wordS m k 0).map bval) ∧ Below V.heap.size V (V.alloc (.cells #[] 5))) := Lib.hid ⟨nil_bytesW V, below_box (Below.refl _ _) _⟩
      go_loopw [5, 6, 7] (fun o i _ wq => ∃ (p j c : Nat) (ad : Option Addr), p ≤ 32 ∧ j ≤ 32 ∧ i = .int .i64 p ∧ o = .slice ad j c ∧ Hid (j = (wordS m k p).length) ∧ Hid (wq.ownsRow V.heap.size 5 1 (.slice ad j c) j ((wordS m k p).map bval) ∧ Below V.heap.size V wq)) (fun _ i _ _ => 32 - (intOf i).toNat)
      case atStart => exact ⟨0, 0, 0, _, by omega, by omega, rfl, rfl, Lib.hid rfl, A1⟩
      case round =>
        clear A1
        obtain ⟨p, j, c, ad, hp, hj, rfl, rfl, HJ, I⟩ := hrel
        by_cases hp32 : p < 32
        · have q2 := cur_cell (kept_block H.out.2.1 I.out.2) 2
          simp at q2
          have C := Lib.hid (G.out p k wr hp32 (by omega) (below_seq H.out.2.2 I.out.2))
          have hx := laneN_lt m k p
          have WSu : wordS m k (p + 1) = wordS m k p ++ if 0 < laneN m k p then [UInt8.ofNat (96 + laneN m k p)] else [] := rfl
          have hb8 := Lib.hid (letV_bval m k p)
          unfold letV at hb8
          have hwl := wordS_len m k (p + 1)
          have s1 : 5 * (p : Int) + 5 ≤ 160 := by omega
          by_cases hpos : 0 < laneN m k p
          · have e1 : (wordS m k (p + 1)).map bval = (wordS m k p).map bval ++ [.int .u8 (((96 + laneN m k p : Nat)) : Int)] := by
              rw [WSu, if_pos hpos, List.map_append, hb8.out]; rfl
            have SN := Lib.hid e1
            have HJ2 : Hid (j + 1 = (wordS m k (p + 1)).length) := Lib.hid (by rw [WSu, if_pos hpos, List.length_append, HJ.out]; rfl)
            have hj2 : j + 1 ≤ 32 := by rw [HJ2.out]; omega
            clear WSu hb8 e1 hwl
            generalize laneN m k p = x at *
            have hq : IntKind.u8.wrap (96 + (x : Int)) = ((96 + x : Nat) : Int) := by rw [IntKind.wrap_u8']; omega
            have hsz := I.out.2.size
            go_wp2_with fail
            refine C.out.mono ?_
            rintro e w3 ⟨rfl, rfl⟩
            go_wp2_with (at_builtin; go_must (refine wp_app_row rfl _ _ 22 rfl 5 (.int .u8 0) 1 Try.underlying22 Try.info5 rfl V.heap.size j (.slice ad j c) _ (by rfl) (I.out.1.alloc _) (some ⟨wr.heap.size, 0, none⟩) 1 1 [.int .u8 (((96 + x : Nat)) : Int)] (by rfl) rfl (row_one wr (.int .u8 (((96 + x : Nat)) : Int)) 5) (by simp [Value.oneCell']) (by unfold maxLen; omega) (by omega) (by simp; omega) ?_); intro v3 w3 ho3 hg3; rw [← SN.out] at ho3; have F3 := Lib.hid (And.intro ho3 (app_below I.out.2 I.out.1 _ hg3)); obtain ⟨a3, c3, rfl⟩ := own_shape ho3; clear ho3 hg3)
            go_roundw
            case rel => exact ⟨p + 1, j + 1, c3, a3, by omega, hj2, by go_num, rfl, HJ2, F3⟩
            case measure => simp [intOf]; omega
          · have e1 : wordS m k (p + 1) = wordS m k p := by rw [WSu, if_neg hpos, List.append_nil]
            have I2 : Hid (wr.ownsRow V.heap.size 5 1 (.slice ad j c) j ((wordS m k (p + 1)).map bval) ∧ Below V.heap.size V wr) := Lib.hid (by rw [e1]; exact I.out)
            have HJ2 : Hid (j = (wordS m k (p + 1)).length) := Lib.hid (by rw [e1, HJ.out])
            clear WSu hb8 e1 hwl I HJ
            generalize laneN m k p = x at *
            go_wp2_with fail
            refine C.out.mono ?_
            rintro e w3 ⟨rfl, rfl⟩
            go_wp2
            go_roundw
            case rel => exact ⟨p + 1, j, c, ad, by omega, hj, by go_num, rfl, HJ2, I2⟩
            case measure => simp [intOf]; omega
        · have hp' : p = 32 := by omega
          subst hp'
          have hcv := conv_any I.out.1
          have SN := Lib.hid (wordsUp_snoc m k)
          obtain ⟨S, hS⟩ : ∃ S, S = strL (wordS m k 32) := ⟨_, rfl⟩
          rw [← hS] at hcv SN
          clear hS
          have HW : Hid (wr.ownsRow (w.heap.size + 1) 9 1 (.slice al k cl) k ((wordsUp m k).map sval) ∧ wr.heap[w.heap.size]? = some (.cells #[.int .i64 n, .slice a1 m.len.length x1, .slice a2 160 x2] 28 (0, 0)) ∧ Below w.heap.size w wr) := Lib.hid ⟨own_below H.out.1 I.out.2, kept_block H.out.2.1 I.out.2, below_seq H.out.2.2 I.out.2⟩
          have hws : w.heap.size < wr.heap.size := cur_lt HW.out.2.1
          have FIN : Hid (∀ v3 w3, (wr.alloc (.cells #[.string S] 9)).grownBy w3 (Value.ownBlock (.slice al k cl)) → w3.heap[w.heap.size]? = some (.cells #[.int .i64 n, .slice a1 m.len.length x1, .slice a2 160 x2] 28 (0, 0)) ∧ Below w.heap.size w w3 ∧ v3 = v3) := Lib.hid (fun (v3 : Value) w3 hg => by
            refine ⟨kept_grown ((alloc_old _ _ _ hws).trans HW.out.2.1) hg (own_ne HW.out.1 (by omega)), ?_, rfl⟩
            exact (below_box HW.out.2.2 _).grown hg (by simp; omega) (fun g hg => by have := (HW.out.1.lt g hg).1; omega))
          clear H I HJ
          go_wp2_with (at_builtin; go_must (refine wp_app_row rfl _ _ 24 rfl 9 (.string ⟨#[]⟩) 16 Try.underlying24 Try.infoStr rfl (w.heap.size + 1) k (.slice al k cl) _ (by rfl) (HW.out.1.alloc _) (some ⟨wr.heap.size, 0, none⟩) 1 1 [.string S] (by rfl) rfl (row_one wr (.string S) 9) (by simp [Value.oneCell']) (by unfold maxLen; omega) (by omega) (by simp; omega) ?_); intro v3 w3 ho3 hg3; have F3 := Lib.hid (FIN.out v3 w3 hg3); rw [← SN.out] at ho3; have O3 := Lib.hid ho3; obtain ⟨a3, c3, rfl⟩ := own_shape ho3; clear ho3 hg3)
          go_roundw
          case rel => exact ⟨k + 1, c3, a3, by omega, by go_num, rfl, Lib.hid ⟨O3.out, F3.out.1, F3.out.2.1⟩⟩
          case measure => simp [intOf]; omega
    · have hk' : k = n := by omega
      subst hk'
      have O : Hid (StringSOwn w.heap.size wr.heap.size [.slice al k cl] (wordsS m) wr) := Lib.hid (by have := StringSOwn.mk H.out.1; rw [WU.out] at this; exact this.wide (by omega) (Nat.le_refl _))
      go_wp2
      go_ret
      exact ⟨_, rfl, O.out, H.out.2.2⟩
/-- How far two rows agree. -/
def agreeB (a b : List Nat) (k : Nat) : Bool := decide (a.take k = b.take k)
theorem agree_step {a b : List Nat} {k : Nat} (h1 : k < a.length) (h2 : k < b.length) : agreeB a b (k + 1) = (agreeB a b k && (a.getD k 0 == b.getD k 0)) := by
  unfold agreeB
  rw [List.take_succ_eq_append_getElem h1, List.take_succ_eq_append_getElem h2]
  have e1 : a.getD k 0 = a[k] := by rw [List.getD_eq_getElem?_getD, List.getElem?_eq_getElem h1]; rfl
  have e2 : b.getD k 0 = b[k] := by rw [List.getD_eq_getElem?_getD, List.getElem?_eq_getElem h2]; rfl
  rw [e1, e2, Bool.eq_iff_iff]
  have hl : (a.take k).length = (b.take k).length := by rw [List.length_take, List.length_take]; omega
  simp only [decide_eq_true_eq, Bool.and_eq_true, beq_iff_eq]
  constructor
  · intro h
    have := List.append_inj h hl
    exact ⟨this.1, by simpa using this.2⟩
  · rintro ⟨h, h'⟩
    rw [h, h']
theorem agree_all {a b : List Nat} {k : Nat} (h1 : a.length = k) (h2 : b.length = k) : agreeB a b k = (b == a) := by
  unfold agreeB
  rw [List.take_of_length_le (by omega), List.take_of_length_le (by omega), Bool.eq_iff_iff]
  simp only [decide_eq_true_eq, beq_iff_eq]
  exact ⟨fun h => h.symm, fun h => h.symm⟩
theorem wordsS_small (m : PlanesM) : ∀ s ∈ wordsS m, s.length ≤ maxLen := by
  intro s hs
  unfold wordsS at hs
  obtain ⟨l, _, rfl⟩ := List.mem_map.1 hs
  have := wordS_len m l 32
  unfold maxLen
  omega
set_option maxHeartbeats 4000000 in
theorem specPlanesOk (c0 c1 c2 : Value) (m : PlanesM) (w : World) (h : PlanesIn [c0, c1, c2] m w) (hb : planesBd m) :
    Calls Try.prog 40 #[.agg #[c0, c1, c2]] w fun e w' => e = .returned (.bool (planesOkB m)) ∧ Below w.heap.size w w' := by
  obtain ⟨a1, x1, a2, x2, rfl, rfl, rfl, l1, l2⟩ := planesIn_cells h
  unfold maxLen at l1 l2
  have B1 := Lib.hid (below_box (Below.refl w.heap.size w) (.cells #[.int .i64 m.n, .slice a1 m.len.length x1, .slice a2 m.lts.length x2] 28))
  by_cases g1 : m.n < 0
  · have E := Lib.hid (fits_no (.inl g1))
    go_enter Try.func40, Try.ntmps40
    go_wp2
    go_ret
    exact ⟨ret_bool E.out.symm, B1.out⟩
  by_cases g2 : 64 < m.n
  · have E := Lib.hid (fits_no (m := m) (.inr (.inl g2)))
    go_enter Try.func40, Try.ntmps40
    go_wp2
    go_ret
    exact ⟨ret_bool E.out.symm, B1.out⟩
  by_cases g3 : ¬ m.len.length = 6
  · have E := Lib.hid (fits_no (m := m) (.inr (.inr (.inl g3))))
    have hB : ((m.len.length : Int) != 6) = true := by simp; omega
    go_enter Try.func40, Try.ntmps40
    go_wp2
    go_ret
    exact ⟨ret_bool E.out.symm, B1.out⟩
  rw [Decidable.not_not] at g3
  have hB6 : ((m.len.length : Int) != 6) = false := by simp [g3]
  by_cases g4 : ¬ m.lts.length = 160
  · have E := Lib.hid (fits_no (m := m) (.inr (.inr (.inr g4))))
    have hB : ((m.lts.length : Int) != 160) = true := by simp; omega
    clear g3
    go_enter Try.func40, Try.ntmps40
    go_wp2
    go_ret
    exact ⟨ret_bool E.out.symm, B1.out⟩
  rw [Decidable.not_not] at g4
  have hB160 : ((m.lts.length : Int) != 160) = false := by simp [g4]
  have OK : Hid (planesOkB m = (planesB (wordsS m) && (lensN (wordsS m) == m.len) && (lettersN (wordsS m) 32 == m.lts))) := Lib.hid (by unfold planesOkB; rw [fits_yes (by omega) (by omega) g3 g4])
  have WD := Lib.hid (specWordsL _ _ _ m _ ((h.lies.below B1.out).now) hb (by omega) (by omega) g4)
  have WS := Lib.hid (wordsS_small m)
  have HM := Lib.hid h
  have G34 := Lib.hid (And.intro g3 g4)
  have k3 : 6 ≤ m.len.length := by omega
  have k4 : 160 ≤ m.lts.length := by omega
  have BLK := Lib.hid (alloc_at w (.cells #[.int .i64 m.n, .slice a1 m.len.length x1, .slice a2 m.lts.length x2] 28) _ rfl)
  clear g3 g4 h hb
  go_enter Try.func40, Try.ntmps40
  go_wp2_with fail
  refine WD.out.mono ?_
  rintro e w2 ⟨c, rfl, ho2, hb2⟩
  obtain ⟨ax, nx, kx, rfl⟩ := ho2.shape
  have PO := Lib.hid (specPlanesOf _ (wordsS m) w2 ho2.read WS.out)
  have K2 := Lib.hid (And.intro (kept_block BLK.out hb2) (below_seq B1.out hb2))
  clear ho2 hb2 WD BLK B1
  go_wp2_with fail
  refine PO.out.mono ?_
  rintro e w4 ⟨d0, d1, d2, rfl, ho4, hb4⟩
  obtain ⟨z, b1, n1, k1, b2, n2, k2, rfl, rfl, rfl⟩ := ho4.shape
  have K4 := Lib.hid (And.intro (kept_block K2.out.1 hb4) (below_seq K2.out.2 hb4))
  obtain ⟨w5, hw5⟩ : ∃ w5, w5 = w4.alloc (.cells #[.int .i64 z, .slice b1 n1 k1, .slice b2 n2 k2] 28) := ⟨_, rfl⟩
  have hb5 : Below w4.heap.size w4 w5 := by rw [hw5]; exact below_box (Below.refl _ _) _
  have blk5 : w5.heap[w4.heap.size]? = some (.cells #[.int .i64 z, .slice b1 n1 k1, .slice b2 n2 k2] 28 (0, 0)) := by rw [hw5]; exact alloc_at _ _ _ rfl
  have K5 := Lib.hid (And.intro (kept_block K4.out.1 hb5) (And.intro (below_seq K4.out.2 hb5) blk5))
  have RD := Lib.hid ((ho4.read.lies.below hb5).now)
  have HW5 := Lib.hid hw5
  clear ho4 hb4 K2 K4 PO hb5 blk5 hw5
  cases hP : planesB (wordsS m)
  · rw [hP] at OK
    have E : Hid (planesOkB m = false) := Lib.hid (by rw [OK.out]; rfl)
    clear OK hP
    go_wp2
    go_ret
    rw [← HW5.out]
    exact ⟨ret_bool E.out.symm, K5.out.2.1⟩
  · rw [hP] at OK
    have eM : planesOfM (wordsS m) = planesOf (wordsS m) := by unfold planesOfM; rw [hP]; rfl
    rw [eM] at RD
    obtain ⟨ez, r1, r2⟩ := planesIn_shape RD.out
    obtain ⟨_, s1, s2⟩ := planesIn_shape ((HM.out.lies.below K5.out.2.1).now)
    have p1 : (planesOf (wordsS m)).len = lensN (wordsS m) := rfl
    have p2 : (planesOf (wordsS m)).lts = lettersN (wordsS m) 32 := rfl
    rw [p1] at r1
    rw [p2] at r2
    have z1 : (lensN (wordsS m)).length = 6 := putN_length _ _
    have z2 : (lettersN (wordsS m) 32).length = 160 := lettersN_length _ _
    generalize lensN (wordsS m) = L1 at *
    generalize lettersN (wordsS m) 32 = L2 at *
    obtain ⟨_, k1', e1, _, _, _⟩ := uint64SIn_shape r1
    simp at e1
    obtain ⟨rfl, rfl, rfl⟩ := e1
    obtain ⟨_, k2', e2, _, _, _⟩ := uint64SIn_shape r2
    simp at e2
    obtain ⟨rfl, rfl, rfl⟩ := e2
    have R := Lib.hid (And.intro (And.intro r1 r2) (And.intro s1 s2))
    have Z := Lib.hid (And.intro z1 z2)
    have y1 : 6 ≤ L1.length := by omega
    have y2 : 160 ≤ L2.length := by omega
    clear r1 r2 s1 s2 p1 p2 eM hP RD HM z1 z2 ez
    go_wp2
    rw [← HW5.out]
    go_loopw [4, 5] (fun b i wr => ∃ k : Nat, k ≤ 6 ∧ i = .int .i64 k ∧ b = .bool (agreeB m.len L1 k) ∧ Hid (Below w5.heap.size w5 wr)) (fun _ i _ => 6 - (intOf i).toNat)
    case atStart => exact ⟨0, by omega, rfl, rfl, Lib.hid (Below.refl _ _)⟩
    case round =>
      obtain ⟨k, hk, rfl, rfl, HB⟩ := hrel
      by_cases hlt : k < 6
      · obtain ⟨y1b, y1o, y1c, ey1, v1⟩ := in_at (R.out.1.1.below HB.out) (i := k) (by omega)
        obtain ⟨s1b, s1o, s1c, es1, v2⟩ := in_at (R.out.2.1.below HB.out) (i := k) (by omega)
        simp at ey1 es1
        obtain ⟨rfl, rfl⟩ := ey1
        obtain ⟨rfl, rfl⟩ := es1
        have c1 : wr.cell? ⟨w.heap.size, 1, none⟩ = some (.slice (some ⟨s1b, s1o, none⟩) m.len.length x1) := cur_cell (kept_block K5.out.1 HB.out) 1
        have c2 : wr.cell? ⟨w4.heap.size, 1, none⟩ = some (.slice (some ⟨y1b, y1o, none⟩) L1.length k1) := cur_cell (kept_block K5.out.2.2 HB.out) 1
        have AS := Lib.hid (agree_step (a := m.len) (b := L1) (k := k) (by omega) (by omega))
        have i1 : (k : Int) < (m.len.length : Int) := by omega
        have i2 : (k : Int) < (L1.length : Int) := by omega
        cases hA : agreeB m.len L1 k
        · rw [hA] at AS
          have A2 : Hid (agreeB m.len L1 (k + 1) = false) := Lib.hid (by rw [AS.out]; rfl)
          clear AS hA
          go_wp2
          go_quiet (fail)
          go_wp2
          go_roundw
          case rel => exact ⟨k + 1, by omega, by go_num, by rw [A2.out], Lib.hid (below_seq HB.out (belowN _))⟩
          case measure => simp [intOf]; omega
        · rw [hA] at AS
          generalize m.len.getD k 0 = x at *
          generalize L1.getD k 0 = y at *
          have e9 : ((x : Int) == (y : Int)) = (x == y) := by rw [Bool.eq_iff_iff]; simp; omega
          cases hxy : (x == y)
          · rw [hxy] at AS e9
            have A2 : Hid (agreeB m.len L1 (k + 1) = false) := Lib.hid (by rw [AS.out]; rfl)
            clear AS hA hxy
            go_wp2
            go_quiet (fail)
            go_wp2
            go_roundw
            case rel => exact ⟨k + 1, by omega, by go_num, by rw [A2.out], Lib.hid (below_seq HB.out (belowN _))⟩
            case measure => simp [intOf]; omega
          · rw [hxy] at AS e9
            have A2 : Hid (agreeB m.len L1 (k + 1) = true) := Lib.hid (by rw [AS.out]; rfl)
            clear AS hA hxy
            go_wp2
            go_quiet (fail)
            go_wp2
            go_roundw
            case rel => exact ⟨k + 1, by omega, by go_num, by rw [A2.out], Lib.hid (below_seq HB.out (belowN _))⟩
            case measure => simp [intOf]; omega
      · have hk' : k = 6 := by omega
        subst hk'
        have A6 : agreeB m.len L1 6 = (L1 == m.len) := agree_all G34.out.1 Z.out.1
        rw [A6]
        have OK2 : Hid (planesOkB m = ((L1 == m.len) && (L2 == m.lts))) := Lib.hid (by rw [OK.out]; simp)
        generalize (L1 == m.len) = f at *
        clear A6 OK
        go_wp2
        go_loopw [4, 6] (fun b i wq => ∃ k : Nat, k ≤ 160 ∧ i = .int .i64 k ∧ b = .bool (f && agreeB m.lts L2 k) ∧ Hid (Below w5.heap.size w5 wq)) (fun _ i _ => 160 - (intOf i).toNat)
        case atStart => exact ⟨0, by omega, rfl, by cases f <;> rfl, HB⟩
        case round =>
          clear HB
          obtain ⟨k, hk, rfl, rfl, HB⟩ := hrel
          by_cases hlt : k < 160
          · obtain ⟨y1b, y1o, y1c, ey1, v1⟩ := in_at (R.out.1.2.below HB.out) (i := k) (by omega)
            obtain ⟨s1b, s1o, s1c, es1, v2⟩ := in_at (R.out.2.2.below HB.out) (i := k) (by omega)
            simp at ey1 es1
            obtain ⟨rfl, rfl⟩ := ey1
            obtain ⟨rfl, rfl⟩ := es1
            have c1 : wr.cell? ⟨w.heap.size, 2, none⟩ = some (.slice (some ⟨s1b, s1o, none⟩) m.lts.length x2) := cur_cell (kept_block K5.out.1 HB.out) 2
            have c2 : wr.cell? ⟨w4.heap.size, 2, none⟩ = some (.slice (some ⟨y1b, y1o, none⟩) L2.length k2) := cur_cell (kept_block K5.out.2.2 HB.out) 2
            have AS := Lib.hid (agree_step (a := m.lts) (b := L2) (k := k) (by omega) (by omega))
            have i1 : (k : Int) < (m.lts.length : Int) := by omega
            have i2 : (k : Int) < (L2.length : Int) := by omega
            cases hA : (f && agreeB m.lts L2 k)
            · have A2 : Hid ((f && agreeB m.lts L2 (k + 1)) = false) := Lib.hid (by rw [AS.out, ← Bool.and_assoc, hA]; rfl)
              clear AS hA
              go_wp2
              go_quiet (fail)
              go_wp2
              go_roundw
              case rel => exact ⟨k + 1, by omega, by go_num, by rw [A2.out], Lib.hid (below_seq HB.out (belowN _))⟩
              case measure => simp [intOf]; omega
            · generalize m.lts.getD k 0 = x at *
              generalize L2.getD k 0 = y at *
              have e9 : ((x : Int) == (y : Int)) = (x == y) := by rw [Bool.eq_iff_iff]; simp; omega
              have A2 : Hid ((f && agreeB m.lts L2 (k + 1)) = (x == y)) := Lib.hid (by rw [AS.out, ← Bool.and_assoc, hA]; rfl)
              clear AS hA
              cases hxy : (x == y)
              · rw [hxy] at A2 e9
                clear hxy
                go_wp2
                go_quiet (fail)
                go_wp2
                go_roundw
                case rel => exact ⟨k + 1, by omega, by go_num, by rw [A2.out], Lib.hid (below_seq HB.out (belowN _))⟩
                case measure => simp [intOf]; omega
              · rw [hxy] at A2 e9
                clear hxy
                go_wp2
                go_quiet (fail)
                go_wp2
                go_roundw
                case rel => exact ⟨k + 1, by omega, by go_num, by rw [A2.out], Lib.hid (below_seq HB.out (belowN _))⟩
                case measure => simp [intOf]; omega
          · have hk' : k = 160 := by omega
            subst hk'
            have E : Hid ((f && agreeB m.lts L2 160) = planesOkB m) := Lib.hid (by rw [agree_all G34.out.2 Z.out.2, OK2.out])
            go_wp2
            go_ret
            exact ⟨ret_bool E.out, below_seq K5.out.2.1 HB.out⟩
set_option maxHeartbeats 400000 in
theorem specPlanesWords (c0 c1 c2 : Value) (m : PlanesM) (w : World) (h : PlanesIn [c0, c1, c2] m w) (hb : planesBd m) :
    Calls Try.prog 42 #[.agg #[c0, c1, c2]] w (StringSRet (wordsM m) w) := by
  obtain ⟨a1, x1, a2, x2, rfl, rfl, rfl, l1, l2⟩ := planesIn_cells h
  have B1 := Lib.hid (below_box (Below.refl w.heap.size w) (.cells #[.int .i64 m.n, .slice a1 m.len.length x1, .slice a2 m.lts.length x2] 28))
  have C := Lib.hid (specPlanesOk _ _ _ m _ ((h.lies.below B1.out).now) hb)
  have BLK := Lib.hid (alloc_at w (.cells #[.int .i64 m.n, .slice a1 m.len.length x1, .slice a2 m.lts.length x2] 28) _ rfl)
  cases hP : planesOkB m
  · rw [hP] at C
    have N := Lib.hid (nil_words hP)
    clear h hb l1 l2 hP
    go_enter Try.func42, Try.ntmps42
    go_wp2_with fail
    refine C.out.mono ?_
    rintro e w2 ⟨rfl, hb2⟩
    go_wp2
    go_ret
    exact ⟨_, rfl, N.out _ _ _, below_seq B1.out hb2⟩
  · rw [hP] at C
    have hf := hP
    unfold planesOkB okOf fitsB at hf
    simp only [Bool.and_eq_true, decide_eq_true_eq] at hf
    have WD := Lib.hid (fun w' (hb' : Below w.heap.size w w') => specWordsL _ _ _ m w' ((h.lies.below hb').now) hb hf.1.1.1.1.1.1 hf.1.1.1.1.1.2 hf.1.1.1.2)
    have EW : Hid (wordsM m = wordsS m) := Lib.hid (by unfold wordsM; rw [hP, if_pos rfl])
    clear h hb l1 l2 hP hf
    go_enter Try.func42, Try.ntmps42
    go_wp2_with fail
    refine C.out.mono ?_
    rintro e w2 ⟨rfl, hb2⟩
    have K2 := Lib.hid (And.intro (kept_block BLK.out hb2) (below_seq B1.out hb2))
    have q0 := cur_cell K2.out.1 0
    have q1 := cur_cell K2.out.1 1
    have q2 := cur_cell K2.out.1 2
    simp at q0 q1 q2
    clear hb2 C BLK B1
    go_wp2_with fail
    refine (WD.out _ K2.out.2).mono ?_
    rintro e w3 ⟨c, rfl, ho3, hb3⟩
    obtain ⟨a, n, k, rfl⟩ := ho3.shape
    go_wp2
    go_ret
    exact ⟨_, rfl, by rw [EW.out]; exact ho3.wide K2.out.2.size (Nat.le_refl _), below_seq K2.out.2 hb3⟩
end Go.Proofs.Ytfdlmpjccoaejaa
