/- Chapter 7 in the program: letters, the planes of strings. -/
import Derived.Test.YtfdlmpjccoaejaaPlU
import Derived.Test.YtfdlmpjccoaejaaWord
import Derived.Deep.RegionLawGrows
namespace Go.Proofs.Ytfdlmpjccoaejaa
open Go.RowKit
set_option linter.unusedVariables false
set_option maxRecDepth 100000

set_option maxHeartbeats 400000 in
theorem implLetter (c : UInt8) (w : World) :
    Calls Try.prog 70 #[.int .u8 (c.toNat : Int)] w fun e w' => e = .returned (.int .i64 ((letN c : Nat) : Int)) ∧ w = w' := by
  have hc := c.toNat_lt
  by_cases h1 : c.toNat < 97
  · have E : Hid (letN c = 0) := Lib.hid (by unfold letN lowB; rw [if_neg]; simp; omega)
    generalize c.toNat = x at *
    go_enter Try.func70, Try.ntmps70
    go_wp2
    go_ret
    exact ⟨ret_int (by rw [E.out]; rfl), rfl⟩
  by_cases h2 : 122 < c.toNat
  · have E : Hid (letN c = 0) := Lib.hid (by unfold letN lowB; rw [if_neg]; simp; omega)
    generalize c.toNat = x at *
    go_enter Try.func70, Try.ntmps70
    go_wp2
    go_ret
    exact ⟨ret_int (by rw [E.out]; rfl), rfl⟩
  have E : Hid (letN c = c.toNat - 96) := Lib.hid (by unfold letN lowB; rw [if_pos]; simp; omega)
  generalize letN c = L at *
  generalize c.toNat = x at *
  have hq : IntKind.u8.wrap ((x : Int) - 97) = (x : Int) - 97 := by rw [IntKind.wrap_u8']; omega
  go_enter Try.func70, Try.ntmps70
  go_wp2
  go_ret
  exact ⟨ret_int (by rw [E.out]; omega), rfl⟩
theorem letN_at {w : List UInt8} (h : strB w = true) {p : Nat} (hp : p < w.length) : letN w[p] = letAt p w := by
  have hl := str_low h w[p] (List.getElem_mem hp)
  have e : w.getD p 0 = w[p] := by simp [List.getD, hp]
  have hB : lowB w[p] = true := by simp [lowB, hl.1, hl.2]
  unfold letAt letN
  rw [if_pos hp, e, if_pos hB]
theorem letAt_no {w : List UInt8} {p : Nat} (hp : ¬ p < w.length) : letAt p w = 0 := by unfold letAt; rw [if_neg hp]
/-- A whole block of integers is a row of the call's own. -/
theorem ints_own {w : World} {b n base : Nat} {F : Nat → Value} {l : List Int} (h : ArrG w b 3 n F) (hb : base ≤ b) (hn : n ≤ maxLen) (hl : l.length = n) (he : ∀ i (hi : i < l.length), F i = ival l[i]) : IntSOwn base w.heap.size [.slice (some ⟨b, 0, none⟩) n n] l w := by
  have := ArrG.own h hb hn
  have e : (List.range n).map F = l.map ival := by
    apply List.ext_getElem
    · simp [hl]
    intro i h1 h2
    simp only [List.getElem_map, List.getElem_range]
    exact he i (by simpa using h2)
  rw [e] at this
  exact IntSOwn.mk this
def iF (F : Nat → Nat) : Nat → Value := fun i => .int .i64 ((F i : Nat) : Int)
theorem intsN_own {w : World} {b n base : Nat} {F : Nat → Nat} {G : Nat → Value} (h : ArrG w b 3 n G) (hG : ∀ i, i < n → G i = iF F i) (hb : base ≤ b) (hn : n ≤ maxLen) : IntSOwn base w.heap.size [.slice (some ⟨b, 0, none⟩) n n] (intsN n F) w :=
  ints_own h hb hn (intsN_length _ _) (fun i hi => by
    rw [hG i (by simpa [intsN_length] using hi)]
    simp [intsN, iF, ival])
theorem map_letAt (ws : List (List UInt8)) (p : Nat) : listN ws.length (fun i => letAt p (ws.getD i [])) = ws.map (letAt p) := by
  apply List.ext_getElem
  · simp [listN]
  intro i h1 h2
  have hi : i < ws.length := by simpa using h2
  simp [listN, List.getD, hi]
theorem map_len (ws : List (List UInt8)) : listN ws.length (fun i => (ws.getD i []).length) = ws.map List.length := by
  apply List.ext_getElem
  · simp [listN]
  intro i h1 h2
  have hi : i < ws.length := by simpa using h2
  simp [listN, List.getD, hi]
theorem nums_ints {k n : Nat} {F : Nat → Nat} (hk : k ≤ 64) (hn : n ≤ 16) (h : ∀ i, i < k → F i < 2 ^ n) : numsM (intsN k F) n = putN (listN k F) n := by
  rw [nums_all (by rw [intsN_length]; exact hk) hn (fun i hi => ?_), intsN_nats]
  have hik : i < k := by simpa [intsN_length] using hi
  rw [inB_of]
  have := h i hik
  simp only [intsN, List.getElem_map, List.getElem_range]
  refine ⟨by omega, ?_⟩
  have : ((F i : Nat) : Int) < ((2 ^ n : Nat) : Int) := by omega
  simpa using this
theorem strB_at {ws : List (List UInt8)} (h : planesB ws = true) (i : Nat) : strB (ws.getD i []) = true := by
  unfold List.getD
  cases e : ws[i]? with
  | none => rfl
  | some w => exact (planesB_iff.1 h).2 w (List.mem_of_getElem? e)
set_option maxHeartbeats 1000000 in
theorem implLettersAt (c : Value) (ws : List (List UInt8)) (p : Nat) (w : World) (h : StringSIn [c] ws w) (hB : planesB ws = true) (hp : p < 32) :
    Calls Try.prog 66 #[c, .int .i64 p] w (IntSRet (intsN ws.length (fun i => letAt p (ws.getD i []))) w) := by
  have HI := Lib.hid h
  obtain ⟨a, cap, rfl, _, h2, _⟩ := stringSIn_shape h
  have hl := (planesB_iff.1 hB).1
  have HB := Lib.hid hB
  clear h h2 hB
  obtain ⟨i0, hi, hz0, hz1, hz2⟩ := info_parts Try.info3
  go_enter Try.func66, Try.ntmps66
  go_wp2_with (at_make; refine wpList_make_full _ rfl _ _ 36 rfl w.heap.size 3 i0 (.int .i64 0) 1 Try.underlying36 hi hz0 hz1 .i64 .i64 _ _ ws.length rfl rfl rfl rfl (by rw [hz2]; omega) (by unfold maxLen; omega) (Nat.le_refl _) ?_)
  clear hi hz0 hz1 hz2
  intro w2 hown hgr
  rw [toList_madeCells_one] at hown
  have A0 : Hid (ArrG w2 w.heap.size 3 ws.length (progG (iF (fun i => letAt p (ws.getD i []))) (fun _ => .int .i64 0) 0) ∧ Below w.heap.size w w2) := Lib.hid ⟨by rw [progG_zero]; exact own_arrG hown, grown_below hgr⟩
  clear hown hgr
  go_wp2
  go_loopw [13, 6, 7] (fun i _ _ wr => ∃ k : Nat, k ≤ ws.length ∧ i = .int .i64 k ∧ Hid (ArrG wr w.heap.size 3 ws.length (progG (iF (fun i => letAt p (ws.getD i []))) (fun _ => .int .i64 0) k) ∧ Below w.heap.size w wr)) (fun i _ _ _ => ws.length - (intOf i).toNat)
  case atStart => exact ⟨0, Nat.zero_le _, rfl, A0⟩
  case round =>
    clear A0
    obtain ⟨k, hk, rfl, H⟩ := hrel
    by_cases hlt : k < ws.length
    · obtain ⟨b1, o1, cap1', e1, q1⟩ := str_at (HI.out.below H.out.2) hlt
      simp at e1
      obtain ⟨rfl, rfl⟩ := e1
      have eg : ws.getD k [] = ws[k] := by simp [List.getD, hlt]
      have hs := strB_at HB.out k
      rw [eg] at hs
      have RS := Lib.hid (progG_set (iF (fun i => letAt p (ws.getD i []))) (fun _ => .int .i64 0) k)
      by_cases hpl : p < ws[k].length
      · have hc := H.out.1.cell hlt
        rw [progG_at] at hc
        have hf := H.out.1.free k
        have R := Lib.hid (And.intro (H.out.1.set k (iF (fun i => letAt p (ws.getD i [])) k)) (H.out.2.setCell (p := ⟨w.heap.size, k, none⟩) (Nat.le_refl _) (iF (fun i => letAt p (ws.getD i [])) k)))
        rw [RS.out] at R
        have hsz : p < (strL ws[k]).size := by rw [strL_size]; exact hpl
        have e2 : letN ((strL ws[k])[p]'hsz) = letAt p ws[k] := letN_at hs hpl
        have ei : iF (fun i => letAt p (ws.getD i [])) k = .int .i64 ((letN ((strL ws[k])[p]'hsz) : Nat) : Int) := by unfold iF; simp only [eg, e2]
        rw [ei] at R
        have L := Lib.hid (fun w => implLetter ((strL ws[k])[p]'hsz) w)
        clear H RS ei eg hs hpl e2
        generalize strL ws[k] = y at *
        generalize hL : letN y[p] = v at *
        clear hL
        go_wp2_with fail
        refine (L.out _).mono ?_
        rintro e w3 ⟨rfl, rfl⟩
        go_wp2
        go_roundw
        case rel => exact ⟨k + 1, by omega, by go_num, R⟩
        case measure => simp [intOf]; omega
      · have R : Hid (ArrG wr w.heap.size 3 ws.length (progG (iF (fun i => letAt p (ws.getD i []))) (fun _ => .int .i64 0) (k + 1)) ∧ Below w.heap.size w wr) := Lib.hid ⟨H.out.1.ext (fun i hi => by
          unfold progG
          by_cases e : i = k
          · subst e; rw [if_neg (by omega), if_pos (by omega)]; unfold iF; simp only [eg, letAt_no hpl]; rfl
          · by_cases hij : i < k
            · rw [if_pos hij, if_pos (by omega)]
            · rw [if_neg hij, if_neg (by omega)]), H.out.2⟩
        have hsz : ¬ p < (strL ws[k]).size := by rw [strL_size]; exact hpl
        clear H RS eg hs hpl
        generalize strL ws[k] = y at *
        go_wp2
        go_roundw
        case rel => exact ⟨k + 1, by omega, by go_num, R⟩
        case measure => simp [intOf]; omega
    · have hk' : k = ws.length := by omega
      subst hk'
      go_wp2
      go_ret
      exact ⟨_, rfl, intsN_own H.out.1 (fun i hi => by unfold progG; rw [if_pos hi]) (Nat.le_refl _) (by unfold maxLen; omega), H.out.2⟩
set_option maxHeartbeats 1000000 in
theorem implEqual (c d : Value) (l1 l2 : List Nat) (w : World) (h : Uint64SIn [c] l1 w) (k : Uint64SIn [d] l2 w) :
    Calls Try.prog 91 #[c, d] w fun e w' => e = .returned (.bool (l1 == l2)) ∧ Below w.heap.size w w' := by
  obtain ⟨a1, cap1, rfl, _, h1, r1⟩ := uint64SIn_shape h
  obtain ⟨a2, cap2, rfl, _, h2, r2⟩ := uint64SIn_shape k
  clear h k
  unfold maxLen at h1 h2
  by_cases hl : l1.length = l2.length
  · have hlB : ((l1.length : Int) != (l2.length : Int)) = false := by simp [hl]
    have HL := Lib.hid hl
    have hll : l1.length ≤ l2.length := by omega
    clear hl
    have R1 := Lib.hid r1
    have R2 := Lib.hid r2
    clear r1 r2
    go_enter Try.func91, Try.ntmps91
    go_wp2
    go_loopw [13, 5] (fun i _ wr => ∃ k : Nat, k ≤ l1.length ∧ i = .int .i64 k ∧ Hid (l1.take k = l2.take k) ∧ Hid (Below w.heap.size w wr)) (fun i _ _ => l1.length - (intOf i).toNat)
    case atStart => exact ⟨0, Nat.zero_le _, rfl, Lib.hid rfl, Lib.hid (Below.refl _ _)⟩
    case round =>
      obtain ⟨k, hk, rfl, H, HB⟩ := hrel
      by_cases hlt : k < l1.length
      · have hlt2 : k < l2.length := by omega
        obtain ⟨b1, o1, rfl, q1⟩ := (R1.out.below HB.out).at (i := k) (by simpa using hlt)
        obtain ⟨b2, o2, rfl, q2⟩ := (R2.out.below HB.out).at (i := k) (by simpa using hlt2)
        rw [uval_at hlt] at q1
        rw [uval_at hlt2] at q2
        have E1 := Lib.hid (nbeq_at hlt hlt2)
        have E2 := Lib.hid (ntake_both hlt hlt2 H.out)
        generalize l1[k] = x at *
        generalize l2[k] = y at *
        by_cases hxy : x = y
        · subst hxy
          have E3 := Lib.hid (E2.out rfl)
          go_wp2
          go_quiet (fail)
          go_wp2
          go_roundw
          case rel => exact ⟨k + 1, by omega, by go_num, E3, Lib.hid (below_seq HB.out (belowN _))⟩
          case measure => simp [intOf]; omega
        · have hB : ((x : Int) != (y : Int)) = true := by simp; omega
          have E3 := Lib.hid (E1.out hxy)
          go_wp2
          go_quiet (fail)
          go_wp2
          go_ret
          exact ⟨ret_bool E3.out.symm, below_seq HB.out (belowN _)⟩
      · have E3 := Lib.hid (nbeq_take HL.out k (by omega) H.out)
        go_wp2
        go_ret
        exact ⟨ret_bool E3.out.symm, HB.out⟩
  · have HE : Hid ((l1 == l2) = false) := Lib.hid (by rw [beq_eq_false_iff_ne]; intro e; subst e; exact hl rfl)
    have hlB : ((l1.length : Int) != (l2.length : Int)) = true := by simp; omega
    clear hl
    go_enter Try.func91, Try.ntmps91
    go_wp2
    go_ret
    exact ⟨ret_bool HE.out.symm, Below.refl _ _⟩
set_option maxHeartbeats 400000 in
theorem implPlanesAt (c : Value) (l : List Nat) (p : Nat) (w : World) (h : Uint64SIn [c] l w) (hl : l.length = 160) (hp : p < 32) :
    Calls Try.prog 93 #[c, .int .i64 p] w fun e w' => (∃ d, e = .returned d ∧ Uint64SIn [d] ((l.drop (5 * p)).take 5) w) ∧ w = w' := by
  obtain ⟨a1, cap1, rfl, hc, h1, r1⟩ := uint64SIn_shape h
  clear h
  unfold maxLen at h1
  have R : Hid (Row w (Option.map (fun x => x.add (5 * p)) a1) (((l.drop (5 * p)).take 5).map uval)) := Lib.hid (by
    have := r1.map_cut (5 * p) 5 (by simp; omega)
    rw [← List.map_drop, ← List.map_take] at this
    exact this)
  have LL : Hid (((l.drop (5 * p)).take 5).length = 5) := Lib.hid (by rw [List.length_take, List.length_drop]; omega)
  rw [hl] at hc ⊢
  clear r1 hl
  go_enter Try.func93, Try.ntmps93
  go_wp2
  go_ret
  refine ⟨⟨.slice (Option.map (fun x => x.add (p * 5)) a1) ((p + 1) * 5 - p * 5) (cap1 - p * 5), rfl, ⟨_, cap1 - p * 5, ?_, ?_, ?_, R.out⟩⟩, rfl⟩
  · rw [LL.out, show (p + 1) * 5 - p * 5 = 5 from by omega, Nat.mul_comm p 5]
  · rw [LL.out]; omega
  · rw [LL.out]; unfold maxLen; omega
theorem toL_empty (l : List UInt8) : (strL l).toList.isEmpty = l.isEmpty := by
  have e : (strL l).toList = l := ByteArray.toList_mk _
  rw [e]
/-- What PlanesOf answers. -/
def planesOfM (ws : List (List UInt8)) : PlanesM := if planesB ws then planesOf ws else ⟨0, [], []⟩
def PlanesOfRet (ws : List (List UInt8)) (w : World) (e : Ending) (w' : World) : Prop := ∃ c0 c1 c2, e = .returned (.tuple #[.agg #[c0, c1, c2], .bool (planesB ws)]) ∧ PlanesOwn w.heap.size w'.heap.size [c0, c1, c2] (planesOfM ws) w' ∧ Below w.heap.size w w'
theorem planes_long {ws : List (List UInt8)} (h : 64 < ws.length) : planesB ws = false := by unfold planesB; simp; omega
theorem planes_bad {ws : List (List UInt8)} {i : Nat} (hi : i < ws.length) (h : strB ws[i] = false) : planesB ws = false := by
  rw [Bool.eq_false_iff]
  intro c
  rw [(planesB_iff.1 c).2 _ (List.getElem_mem hi)] at h
  cases h
theorem zero_own (lo hi : Nat) (h : lo ≤ hi) (w : World) : PlanesOwn lo hi [.int .i64 0, .slice none 0 0, .slice none 0 0] ⟨0, [], []⟩ w := ⟨_, _, lo, rfl, nil_own _ _ _, nil_own _ _ _, Nat.le_refl _, h⟩
theorem ones_uv (l : List Nat) : ∀ u ∈ l.map uval, u.oneCell' = true := by
  intro u hu
  obtain ⟨z, _, rfl⟩ := List.mem_map.1 hu
  rfl
/-- Planes under construction: the struct in block B, its letters so far in blocks above, the answer's variable in block R. -/
structure PlBox (B R : Nat) (n : Int) (c1 : Value) (lens : List Nat) (al : Option Addr) (m cl : Nat) (lts : List Nat) (W wr : World) : Prop where
  box : wr.heap[B]? = some (.cells #[.int .i64 n, c1, .slice al m cl] 28 (0, 0))
  own : wr.ownsRow (B + 1) 43 1 (.slice al m cl) m (lts.map uval)
  res : wr.heap[R]? = some (.cells #[.int .i64 0, .slice none 0 0, .slice none 0 0] 28 (0, 0))
  len : Uint64SOwn (R + 1) B [c1] lens wr
  low : Below W.heap.size W wr
  ord : W.heap.size = R ∧ R < B
theorem PlBox.below {B R m cl : Nat} {n : Int} {c1 : Value} {lens lts : List Nat} {al : Option Addr} {W wr w' : World} (h : PlBox B R n c1 lens al m cl lts W wr) (hb : Below wr.heap.size wr w') : PlBox B R n c1 lens al m cl lts W w' :=
  ⟨kept_block h.box hb, own_below h.own hb, kept_block h.res hb, ((h.len.lies (Nat.le_of_lt (cur_lt h.box))).below hb).now, below_seq h.low hb, h.ord⟩
theorem PlBox.app {B R m m' cl : Nat} {n : Int} {c1 : Value} {lens lts lts' : List Nat} {al : Option Addr} {W wr w' : World} {v : Value} (h : PlBox B R n c1 lens al m cl lts W wr)
    (ho : w'.ownsRow (B + 1) 43 1 v m' (lts'.map uval)) (hg : wr.grownBy w' (Value.ownBlock (.slice al m cl))) : ∃ a' c', v = .slice a' m' c' ∧ PlBox B R n c1 lens a' m' c' lts' W (w'.setCell ⟨B, 2, none⟩ v) := by
  obtain ⟨a', c', rfl⟩ := own_shape ho
  have hlt := cur_lt h.box
  obtain ⟨hW, hRB⟩ := h.ord
  have nB : Value.ownBlock (.slice al m cl) ≠ some B := own_ne h.own (by omega)
  have nR : Value.ownBlock (.slice al m cl) ≠ some R := own_ne h.own (by omega)
  have nB' : Value.ownBlock (.slice a' m' c') ≠ some B := own_ne ho (by omega)
  have b1 := kept_grown h.box hg nB
  have C1 : Chg (B + 1) wr.heap.size wr w' := Chg.of_grown hg (fun k hk => h.own.lt k hk)
  have C2 : Chg B (B + 1) w' (w'.setCell ⟨B, 2, none⟩ (.slice a' m' c')) := Chg.of_grown (set_grown w' B 2 _) (fun k hk => by simp at hk; omega)
  refine ⟨a', c', rfl, ?_, own_set ho nB' _, ?_, ?_, ?_, hW, hRB⟩
  · have := cur_set b1 2 (.slice a' m' c')
    simpa using this
  · exact kept_grown (kept_grown h.res hg nR) (set_grown w' B 2 _) (by simp; omega)
  · exact (((h.len.lies (Nat.le_of_lt hlt)).chg C1 (.inl (by omega))).chg C2 (.inl (Nat.le_refl _))).now
  · exact (h.low.grown hg h.low.size (fun g hg => by have := (h.own.lt g hg).1; omega)).setCell (p := ⟨B, 2, none⟩) (by simp; omega) _
theorem PlBox.cell {B R m cl : Nat} {n : Int} {c1 : Value} {lens lts : List Nat} {al : Option Addr} {W wr : World} (h : PlBox B R n c1 lens al m cl lts W wr) : wr.cell? ⟨B, 2, none⟩ = some (.slice al m cl) := cur_cell h.box 2
/-- What the struct of planes answers with. -/
theorem PlBox.fin {B R m cl : Nat} {n : Int} {c1 : Value} {lens lts : List Nat} {al : Option Addr} {W wr : World} (h : PlBox B R n c1 lens al m cl lts W wr) (w' : World) (hk : ∀ k, k ≠ R → w'.heap[k]? = wr.heap[k]?) (hs : wr.heap.size = w'.heap.size) : PlanesOwn R w'.heap.size [.int .i64 n, c1, .slice al m cl] ⟨n, lens, lts⟩ w' := by
  have hlt := cur_lt h.box
  obtain ⟨hW, hRB⟩ := h.ord
  have e1 := (h.len.lies (Nat.le_of_lt hlt)).sup w' (fun k k1 k2 => hk k (by omega))
  have e2 := own_sup h.own (own_top h.own) (w2 := w') (fun k k1 k2 => hk k (by omega))
  exact ⟨_, _, B, rfl, e1.wide (by omega) (Nat.le_refl _), (Uint64SOwn.mk e2).wide (by omega) (Nat.le_refl _), by omega, by omega⟩
set_option maxHeartbeats 4000000 in
theorem implPlanesOf (c : Value) (ws : List (List UInt8)) (w : World) (h : StringSIn [c] ws w) (hb : ∀ s ∈ ws, s.length ≤ maxLen) :
    Calls Try.prog 18 #[c] w (PlanesOfRet ws w) := by
  have HI := Lib.hid h
  obtain ⟨a, cap, rfl, _, h2, _⟩ := stringSIn_shape h
  have HB := Lib.hid hb
  unfold maxLen at h2
  clear h hb
  by_cases g1 : 64 < ws.length
  · have P := Lib.hid (planes_long g1)
    go_enter Try.func18, Try.ntmps18
    go_wp2
    exact bodyPost_ret (v := .tuple #[.agg #[.int .i64 0, .slice none 0 0, .slice none 0 0], .bool false]) (by simp [results, Try.results18, go_sem]) rfl
      ⟨_, _, _, by rw [P.out], by unfold planesOfM; rw [P.out]; exact zero_own _ _ (by simp) _, below_box (Below.refl _ _) _⟩
  obtain ⟨i0, hi, hz0, hz1, hz2⟩ := info_parts Try.info3
  go_enter Try.func18, Try.ntmps18
  go_wp2_with (at_make; refine wpList_make_full _ rfl _ _ 36 rfl (w.heap.size + 1) 3 i0 (.int .i64 0) 1 Try.underlying36 hi hz0 hz1 .i64 .i64 _ _ ws.length rfl rfl rfl rfl (by rw [hz2]; omega) (by unfold maxLen; omega) (by simp) ?_)
  clear hi hz0 hz1 hz2
  intro w2 hown hgr
  rw [toList_madeCells_one] at hown
  have A0 : Hid (ArrG w2 (w.heap.size + 1) 3 ws.length (progG (iF (fun i => (ws.getD i []).length)) (fun _ => .int .i64 0) 0) ∧ w2.heap[w.heap.size]? = some (.cells #[.int .i64 0, .slice none 0 0, .slice none 0 0] 28 (0, 0)) ∧ Below w.heap.size w w2 ∧ ∀ i (hi : i < ws.length), i < 0 → strB ws[i] = true) := Lib.hid ⟨by rw [progG_zero]; simpa using own_arrG hown, kept_grown (alloc_at w _ _ rfl) hgr (by simp), below_seq (below_box (Below.refl _ _) _) (grown_below hgr), fun i _ h => absurd h (Nat.not_lt_zero _)⟩
  clear hown hgr
  go_wp2
  have hL : w.heap.size < w.heap.size + 1 := by omega
  generalize w.heap.size + 1 = L at *
  go_loopw [18, 5, 6] (fun i _ _ wr => ∃ k : Nat, k ≤ ws.length ∧ i = .int .i64 k ∧ Hid (ArrG wr L 3 ws.length (progG (iF (fun i => (ws.getD i []).length)) (fun _ => .int .i64 0) k) ∧ wr.heap[w.heap.size]? = some (.cells #[.int .i64 0, .slice none 0 0, .slice none 0 0] 28 (0, 0)) ∧ Below w.heap.size w wr ∧ ∀ i (hi : i < ws.length), i < k → strB ws[i] = true)) (fun i _ _ _ => ws.length - (intOf i).toNat)
  case atStart => exact ⟨0, Nat.zero_le _, rfl, A0⟩
  case round =>
    clear A0
    obtain ⟨k, hk, rfl, H⟩ := hrel
    by_cases hlt : k < ws.length
    · obtain ⟨b1, o1, cap1', e1, q1⟩ := str_at (HI.out.below H.out.2.2.1) hlt
      simp at e1
      obtain ⟨rfl, rfl⟩ := e1
      have eg : ws.getD k [] = ws[k] := by simp [List.getD, hlt]
      have RS := Lib.hid (progG_set (iF (fun i => (ws.getD i []).length)) (fun _ => .int .i64 0) k)
      have hc := H.out.1.cell hlt
      rw [progG_at] at hc
      have hf := H.out.1.free k
      have R := Lib.hid (And.intro (H.out.1.set k (iF (fun i => (ws.getD i []).length) k)) (And.intro (kept_grown H.out.2.1 (set_grown wr L k (iF (fun i => (ws.getD i []).length) k)) (by simp; omega)) (H.out.2.2.1.setCell (p := ⟨L, k, none⟩) (by simp; omega) (iF (fun i => (ws.getD i []).length) k))))
      rw [RS.out] at R
      have ei : iF (fun i => (ws.getD i []).length) k = .int .i64 (((strL ws[k]).size : Nat) : Int) := by unfold iF; simp only [eg, strL_size]
      rw [ei] at R
      have hsz : (strL ws[k]).size ≤ maxLen := by rw [strL_size]; exact HB.out _ (List.getElem_mem hlt)
      have H2 : Hid (strB ws[k] = true → ∀ i (hi : i < ws.length), i < k + 1 → strB ws[i] = true) := Lib.hid (fun hB i hi h => by
        by_cases e : i = k
        · subst e; exact hB
        · exact H.out.2.2.2 i hi (by omega))
      have W := Lib.hid (fun w => implWordOk (strL ws[k]) w hsz)
      rw [strL_data] at W
      have N := Lib.hid (planes_bad (ws := ws) hlt)
      unfold maxLen at hsz
      have em : (strL ws[k]).toList.isEmpty = ws[k].isEmpty := toL_empty _
      have eS : strB ws[k] = (ws[k].isEmpty || wordB ws[k]) := rfl
      clear RS ei eg
      cases h1 : ws[k].isEmpty
      · rw [h1] at em eS
        cases h3 : wordB ws[k]
        · rw [h3] at W eS
          have P := Lib.hid (N.out eS)
          have i0 := cur_cell H.out.2.1 0
          have i1 := cur_cell H.out.2.1 1
          have i2 := cur_cell H.out.2.1 2
          simp at i0 i1 i2
          have g0 := cur_free H.out.2.1 0
          have g1 := cur_free H.out.2.1 1
          have g2 := cur_free H.out.2.1 2
          clear R h1 h3 H2 N eS
          generalize strL ws[k] = y at *
          go_wp2_with fail
          refine (W.out _).mono ?_
          rintro e w3 ⟨rfl, rfl⟩
          go_wp2
          exact bodyPost_ret (v := .tuple #[.agg #[.int .i64 0, .slice none 0 0, .slice none 0 0], .bool false]) (by simp [results, Try.results18, go_sem, i0, i1, i2]) rfl
            ⟨_, _, _, by rw [P.out], by unfold planesOfM; rw [P.out]; exact zero_own _ _ (by have := H.out.2.2.1.size; simp; omega) _, ((H.out.2.2.1.setCell (p := ⟨w.heap.size, 0, none⟩) (by simp) _).setCell (p := ⟨w.heap.size, 1, none⟩) (by simp) _).setCell (p := ⟨w.heap.size, 2, none⟩) (by simp) _⟩
        · rw [h3] at W eS
          have R2 := Lib.hid (H2.out eS)
          clear h1 h3 H2 N eS H
          generalize strL ws[k] = y at *
          go_wp2_with fail
          refine (W.out _).mono ?_
          rintro e w3 ⟨rfl, rfl⟩
          go_wp2
          go_roundw
          case rel => exact ⟨k + 1, by omega, by go_num, Lib.hid ⟨R.out.1, R.out.2.1, R.out.2.2, R2.out⟩⟩
          case measure => simp [intOf]; omega
      · rw [h1] at em eS
        have R2 := Lib.hid (H2.out (by rw [eS]; rfl))
        clear h1 H2 N eS H W
        generalize strL ws[k] = y at *
        go_wp2
        go_roundw
        case rel => exact ⟨k + 1, by omega, by go_num, Lib.hid ⟨R.out.1, R.out.2.1, R.out.2.2, R2.out⟩⟩
        case measure => simp [intOf]; omega
    · have hk' : k = ws.length := by omega
      subst hk'
      have PB : Hid (planesB ws = true) := Lib.hid (planesB_iff.2 ⟨by omega, fun s hs => by obtain ⟨i, hi, rfl⟩ := List.mem_iff_getElem.1 hs; exact H.out.2.2.2 i hi hi⟩)
      have NS : Hid (numsM (intsN ws.length (fun i => (ws.getD i []).length)) ((6 : Nat) : Int) = lensN ws) := Lib.hid (by
        rw [nums_ints (by omega) (by omega) (fun i hi => by have := str_len (strB_at PB.out i); omega), map_len]; rfl)
      have NC := Lib.hid (implNumsOf _ _ ((6 : Nat) : Int) wr ((intsN_own (F := fun i => (ws.getD i []).length) H.out.1 (fun i hi => by unfold progG; rw [if_pos hi]) (Nat.zero_le _) (by unfold maxLen; omega)).read))
      rw [NS.out] at NC
      have H4 := Lib.hid (And.intro H.out.2.1 H.out.2.2.1)
      clear H NS
      go_wp2_with fail
      refine NC.out.mono ?_
      rintro e w4 ⟨c1, rfl, ho4, hb4⟩
      obtain ⟨a1, n1, k1, rfl⟩ := ho4.shape
      have X0 : Hid (PlBox w4.heap.size w.heap.size ws.length (.slice a1 n1 k1) (lensN ws) none 0 0 [] w (w4.alloc (.cells #[.int .i64 ws.length, .slice a1 n1 k1, .slice none 0 0] 28))) := Lib.hid (by
        have hb' := below_box (Below.refl w4.heap.size w4) (.cells #[.int .i64 ws.length, .slice a1 n1 k1, .slice none 0 0] 28)
        have h1 := kept_block H4.out.1 hb4
        refine ⟨alloc_at _ _ _ rfl, ⟨rfl, .inl ⟨rfl, rfl⟩⟩, kept_block h1 hb', (((ho4.wide (cur_lt H4.out.1) (Nat.le_refl _)).lies (Nat.le_refl _)).below hb').now, below_seq (below_seq H4.out.2 hb4) hb', rfl, cur_lt h1⟩)
      clear ho4 hb4 H4 NC
      go_wp2
      generalize w4.heap.size = B at *
      generalize w4.alloc (.cells #[.int .i64 ws.length, .slice a1 n1 k1, .slice none 0 0] 28) = w5 at *
      go_loopw [42, 8] (fun i _ wr => ∃ (p m : Nat) (al : Option Addr) (cl : Nat), p ≤ 32 ∧ m ≤ 160 ∧ Hid (m = 5 * p) ∧ i = .int .i64 p ∧ Hid (PlBox B w.heap.size ws.length (.slice a1 n1 k1) (lensN ws) al m cl (lettersN ws p) w wr)) (fun i _ _ => 32 - (intOf i).toNat)
      case atStart => exact ⟨0, 0, none, 0, by omega, by omega, Lib.hid rfl, rfl, X0⟩
      case round =>
        clear X0
        obtain ⟨p, m, al, cl, hp, hm, HM, rfl, X⟩ := hrel
        by_cases hlt : p < 32
        · have q0 := X.out.cell
          have LA := Lib.hid (implLettersAt (.slice a ws.length cap) ws p wr.drew ((HI.out.below X.out.low).below (belowN 1)) PB.out hlt)
          have NU : numsM (intsN ws.length (fun i => letAt p (ws.getD i []))) ((5 : Nat) : Int) = putN (ws.map (letAt p)) 5 := by
            rw [nums_ints (by omega) (by omega) (fun i hi => letAt_lt (strB_at PB.out i) p), map_letAt]
          have NO : Hid (∀ c w', IntSIn [c] (intsN ws.length (fun i => letAt p (ws.getD i []))) w' → Calls Try.prog 27 #[c, .int .i64 ((5 : Nat) : Int)] w' (Uint64SRet (putN (ws.map (letAt p)) 5) w')) := Lib.hid (fun c w' h => by
            have := implNumsOf c _ ((5 : Nat) : Int) w' h
            rw [NU] at this
            exact this)
          have PL : (putN (ws.map (letAt p)) 5).length = 5 := putN_length _ _
          have LS := lettersN_succ ws p
          have LS2 : (lettersN ws (p + 1)).map uval = (lettersN ws p).map uval ++ (putN (ws.map (letAt p)) 5).map uval := by rw [LS, List.map_append]
          have HLS := Lib.hid LS2
          have HPL := Lib.hid PL
          have hm2 : m + 5 ≤ 160 := by have := HM.out; omega
          have HM2 : Hid (m + 5 = 5 * (p + 1)) := Lib.hid (by have := HM.out; omega)
          clear NU LS LS2 PL
          generalize intsN ws.length (fun i => letAt p (ws.getD i [])) = IL at *
          generalize putN (ws.map (letAt p)) 5 = P5 at *
          have X1 := Lib.hid (X.out.below (belowN 1))
          go_wp2
          go_region_law (first
            | (refine step_callW wr.drew rfl (by rfl) 66 _ _ rfl _ (by kernel_rfl) Try.call66 _ LA.out ?_; rintro e w6 ⟨c6, rfl, ho6, hb6⟩; refine ⟨_, rfl, ?_⟩; have X6 := Lib.hid (X1.out.below hb6); have N6 := Lib.hid (NO.out c6 w6 ho6.read); obtain ⟨a6, n6, k6, rfl⟩ := ho6.shape; have q6 := X6.out.cell; clear ho6 hb6)
            | (refine step_callW w6 rfl (by rfl) 27 _ _ rfl _ (by kernel_rfl) Try.call27 _ N6.out ?_; rintro e w7 ⟨c7, rfl, ho7, hb7⟩; refine ⟨_, rfl, ?_⟩; have X7 := Lib.hid (X6.out.below hb7); obtain ⟨a7, k7, rfl, _, _, r7⟩ := uint64SIn_shape ho7.read; rw [HPL.out]; have R7 := Lib.hid r7; have q7 := X7.out.cell; clear ho7 hb7 r7)
            | (refine step_app_rowW w7 rfl (by rfl) _ _ 26 rfl 43 (.int .u64 0) 8 Try.underlying26 Try.infoU64 rfl (B + 1) m (.slice al m cl) ((lettersN ws p).map uval) X7.out.own (by rfl) a7 5 k7 (P5.map uval) (by rfl) (by rw [List.length_map, HPL.out]) R7.out (ones_uv P5) (by unfold maxLen; omega) (by omega) (cur_lt X7.out.box) ?_; intro v8 w8 o8 g8; rw [← HLS.out] at o8; obtain ⟨a8, c8, rfl, x8⟩ := X7.out.app o8 g8; have X8 := Lib.hid x8; have q8 : w8.cell? ⟨B, 2, none⟩ = some (.slice al m cl) := (by have := kept_grown X7.out.box g8 (own_ne X7.out.own (by omega)); exact cur_cell this 2); have f8 : w8.frozen? ⟨B, 2, none⟩ = false := (by have := kept_grown X7.out.box g8 (own_ne X7.out.own (by omega)); exact cur_free this 2); clear o8 g8 x8))
          all_goals
            go_wp2
            go_roundw
            case rel => exact ⟨p + 1, m + 5, a8, c8, by omega, by omega, HM2, by go_num, X8⟩
            case measure => simp [intOf]; omega
        · have hp' : p = 32 := by omega
          subst hp'
          have i0 : wr.cell? ⟨w.heap.size, 0, none⟩ = some (.int .i64 0) := cur_cell X.out.res 0
          have i1 : wr.cell? ⟨w.heap.size, 1, none⟩ = some (.slice none 0 0) := cur_cell X.out.res 1
          have i2 : wr.cell? ⟨w.heap.size, 2, none⟩ = some (.slice none 0 0) := cur_cell X.out.res 2
          have g0 := cur_free X.out.res 0
          have g1 := cur_free X.out.res 1
          have g2 := cur_free X.out.res 2
          have j0 : wr.cell? ⟨B, 0, none⟩ = some (.int .i64 ws.length) := cur_cell X.out.box 0
          have j1 : wr.cell? ⟨B, 1, none⟩ = some (.slice a1 n1 k1) := cur_cell X.out.box 1
          have j2 := X.out.cell
          go_wp2
          refine bodyPost_ret (v := .tuple #[.agg #[.int .i64 ws.length, .slice a1 n1 k1, .slice al m cl], .bool true]) (by simp [results, Try.results18, go_sem, i0, i1, i2]) rfl ⟨_, _, _, by rw [PB.out], ?_, ?_⟩
          · unfold planesOfM
            rw [PB.out]
            exact X.out.fin _ (fun k hk => (Below.heap_setCell _ _ _ k (by simpa using hk)).trans ((Below.heap_setCell _ _ _ k (by simpa using hk)).trans (Below.heap_setCell _ _ _ k (by simpa using hk)))) (by simp)
          · exact ((X.out.low.setCell (p := ⟨w.heap.size, 0, none⟩) (by simp) _).setCell (p := ⟨w.heap.size, 1, none⟩) (by simp) _).setCell (p := ⟨w.heap.size, 2, none⟩) (by simp) _
end Go.Proofs.Ytfdlmpjccoaejaa
