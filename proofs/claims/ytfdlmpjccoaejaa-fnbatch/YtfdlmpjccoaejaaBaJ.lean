/- Chapter 7 in the program: the row of a pattern with one byte more; the distance at the own length. -/
import Derived.Test.YtfdlmpjccoaejaaBaI
import Derived.Test.YtfdlmpjccoaejaaBaP
import Derived.Deep.RegionLawGrows
namespace Go.Proofs.Ytfdlmpjccoaejaa
open Go.RowKit
set_option linter.unusedVariables false
set_option maxRecDepth 100000

/-- Two slices in a block made for them, and addRows over it. -/
theorem add_two (a1 a2 : Option Addr) (x1 x2 k1 k2 : Nat) (a b : List Nat) (w : World) (h : Uint64SIn [.slice a1 x1 k1] a w) (k : Uint64SIn [.slice a2 x2 k2] b w) (la : a.length = 6) (lb : b.length = 6) (ha : bd64 a) (hb : bd64 b) :
    Calls Try.prog 80 #[.int .i64 6, .slice (some ⟨w.heap.size, 0, none⟩) 2 2] (w.alloc (.cells #[.slice a1 x1 k1, .slice a2 x2 k2] 26)) fun e w' => ∃ c, e = .returned c ∧ Uint64SIn [c] (addTwo 6 a b) w' ∧ Below w.heap.size w w' := by
  have hb1 := below_box (Below.refl w.heap.size w) (.cells #[.slice a1 x1 k1, .slice a2 x2 k2] 26)
  have blk := alloc_at w (.cells #[.slice a1 x1 k1, .slice a2 x2 k2] 26) _ rfl
  refine (implAddRows 6 w.heap.size (.slice a1 x1 k1) (.slice a2 x2 k2) a b _ (by omega) (cur_cell blk 0) (cur_cell blk 1) (h.below hb1) (k.below hb1) la lb ha hb).mono ?_
  rintro e w' ⟨c, rfl, ho, hb2⟩
  exact ⟨c, rfl, ho.read, below_seq hb1 hb2⟩
set_option maxHeartbeats 8000000 in
theorem implNext (V : Nat → Value) (N : Nat → List Nat) (c2 : Value) (m : PlanesM) (num : Nat) (w : World) (hR : RowIn V N w) (hI : Uint64SIn [c2] m.lts w) (h160 : m.lts.length = 160) (hb : bd64 m.lts) (hnum : num < 32) :
    Calls Try.prog 69 #[.agg (cellsG 33 V), c2, .int .i64 num] w fun e w' => ∃ V', e = .returned (.agg (cellsG 33 V')) ∧ RowIn V' (nextR N m num) w' ∧ Below w.heap.size w w' := by
  obtain ⟨a2, x2, rfl, _, _, _⟩ := uint64SIn_shape hI
  have HR := Lib.hid hR
  have HI := Lib.hid hI
  have H160 := Lib.hid h160
  have HB := Lib.hid hb
  have PA := Lib.hid (fun (p : Nat) w' (hp : p < 32) (hb' : Below w.heap.size w w') => implPlanesAt _ m.lts p w' (hI.below hb') h160 hp)
  have LW : Hid (∀ (p : Nat) d w', Uint64SIn [d] ((m.lts.drop (5 * p)).take 5) w' → Calls Try.prog 92 #[d, .int .i64 num] w' fun e w'' => e = .returned (.int .u64 ((withN ((m.lts.drop (5 * p)).take 5) num : Nat) : Int)) ∧ w' = w'') := Lib.hid (fun p d w' hd => implLanesWith d _ num w' hd (fun x hx => hb x (List.mem_of_mem_drop (List.mem_of_mem_take hx))) (by rw [List.length_take]; omega) (by omega))
  clear hR hI h160 hb
  go_enter Try.func69, Try.ntmps69
  go_wp2_with (refine wp_arrG_box rfl 75 _ rfl 33 V rfl ?_)
  intro w1 A1 G1 S1
  go_wp2_with (refine wp_arrG_new rfl 75 rfl 33 _ Try.zeroRow ?_)
  intro w2 A2 G2 S2
  go_wp2_with (refine wp_arrG_new rfl 75 rfl 33 _ Try.zeroRow ?_)
  intro w3 A3 G3 S3
  have B3 : Below w.heap.size w w3 := ((grown_below G1).trans ((grown_below G2).mono (by omega))).trans ((grown_below G3).mono (by omega))
  have A1' : ArrG w3 w.heap.size 75 33 V := (A1.kept G2 (by simp)).kept G3 (by simp)
  have A2' := A2.kept G3 (by simp)
  have X0 : Hid (RowUp (w.heap.size + 1 + 1) (w.heap.size + 1) 0 (fun _ => .slice none 0 0) (nextR N m num) w w3) := Lib.hid ⟨A3, A2', B3, fun j hj => absurd hj (Nat.not_lt_zero _), fun j => ⟨none, 0, 0, rfl⟩, by omega⟩
  have Y0 := Lib.hid (And.intro A1' (HR.out.below B3))
  have hsz3 : w.heap.size + 1 + 1 < w3.heap.size := A3.lt
  clear A1 A1' A2 A2' A3 G1 G2 G3 B3 S1 S2 S3
  have C4 := Lib.hid (implInAll 1 w3 (by omega))
  go_wp2_with fail
  refine C4.out.mono ?_
  rintro e w4 ⟨c8, rfl, ho8, hb4⟩
  obtain ⟨a8, n8, k8, rfl⟩ := ho8.shape
  have X4 := Lib.hid (X0.out.below hb4)
  have Y4 := Lib.hid (And.intro (Y0.out.1.below hb4) (And.intro (Y0.out.2.below hb4) ho8.read))
  obtain ⟨v0a, v0c, ev0⟩ := Y4.out.2.1.shape (j := 0) (by omega)
  have q0 := Y4.out.1.cell (k := 0) (by omega)
  rw [ev0] at q0
  have I0 := Y4.out.2.1.rd 0 (by omega)
  rw [ev0] at I0
  have C5 := Lib.hid (add_two v0a a8 6 n8 v0c k8 (N 0) (allN 1) w4 I0 Y4.out.2.2 (Y4.out.2.1.six 0 (by omega)) (allN_length 1) (Y4.out.2.1.bd 0 (by omega)) (allN_lt 1))
  clear ho8 hb4 X0 Y0 C4 ev0 I0
  go_wp2_with fail
  refine C5.out.mono ?_
  rintro e w5 ⟨c5, rfl, i5, hb5⟩
  obtain ⟨a5, n5, k5, rfl⟩ : ∃ a n k, c5 = .slice a n k := by obtain ⟨a, k, e, _⟩ := uint64SIn_shape i5; exact ⟨_, _, _, e⟩
  have X5 := Lib.hid (X4.out.below hb5)
  have hc := X5.out.arr.cell (k := 0) (by omega)
  obtain ⟨va, vx, vc, ev⟩ := X5.out.sl 0
  rw [ev] at hc
  have hf := X5.out.arr.free 0
  have X6 := Lib.hid (X5.out.put (a := a5) (x := n5) (c := k5) i5)
  have Y6 : Hid (ArrG (w5.setCell ⟨w.heap.size + 1 + 1, 0, none⟩ (.slice a5 n5 k5)) w.heap.size 75 33 V ∧ RowIn V N (w5.setCell ⟨w.heap.size + 1 + 1, 0, none⟩ (.slice a5 n5 k5)) ∧ Uint64SIn [.slice a8 n8 k8] (allN 1) (w5.setCell ⟨w.heap.size + 1 + 1, 0, none⟩ (.slice a5 n5 k5))) := Lib.hid ⟨(Y4.out.1.below hb5).kept (set_grown _ _ _ _) (by simp; omega), (Y4.out.2.1.below hb5).keep X5.out.arr (fun j _ => X5.out.sl j) (set_grown _ _ _ _), in_keep (Y4.out.2.2.below hb5) X5.out.arr (fun j _ => X5.out.sl j) (set_grown _ _ _ _)⟩
  clear X4 Y4 X5 i5 hb5 C5 ev q0
  go_wp2
  clear hc hf
  generalize w5.setCell ⟨w.heap.size + 1 + 1, 0, none⟩ (.slice a5 n5 k5) = w6 at *
  obtain ⟨i0, hi, hz0, hz1, hz2⟩ := info_parts Try.infoU64
  go_loopw [20, 9, 10, 11, 12] (fun i _ _ _ _ wr => ∃ (k : Nat) (U : Nat → Value), k ≤ 32 ∧ i = .int .i64 k ∧ Hid (RowUp (w.heap.size + 1 + 1) (w.heap.size + 1) (k + 1) U (nextR N m num) w wr ∧ ArrG wr w.heap.size 75 33 V ∧ RowIn V N wr ∧ Uint64SIn [.slice a8 n8 k8] (allN 1) wr)) (fun i _ _ _ _ _ => 32 - (intOf i).toNat)
  case atStart => exact ⟨0, _, by omega, rfl, Lib.hid ⟨X6.out, Y6.out⟩⟩
  case round =>
    clear X6 Y6
    obtain ⟨k, U, hk, rfl, H⟩ := hrel
    by_cases hlt : k < 32
    · have hd : decide ((k : Int) < 32) = true := by simp; omega
      go_wp2_with (at_make; refine wpList_make_full _ rfl _ _ 26 rfl wr.heap.size 43 i0 (.int .u64 0) 1 Try.underlying26 hi hz0 hz1 .i64 .i64 _ _ 6 rfl rfl rfl rfl (by rw [hz2]; omega) (by unfold maxLen; omega) (Nat.le_refl _) ?_)
      intro w7 hown hgr
      rw [toList_madeCells_one] at hown
      have hb7 := grown_below hgr
      have U7 : ArrU w7 wr.heap.size 43 6 (fun _ => 0) := own_arrG hown
      have B7 := Lib.hid hb7
      have P7 := Lib.hid (PA.out k w7 (by omega) (below_seq H.out.1.low hb7))
      clear hown hgr hd
      go_wp2_with fail
      refine P7.out.mono ?_
      rintro e w' ⟨⟨d, rfl, hd⟩, rfl⟩
      have L7 := Lib.hid (LW.out k d _ hd)
      have lw := withN_lt ((m.lts.drop (5 * k)).take 5) num
      clear P7 hd
      go_wp2_with fail
      refine L7.out.mono ?_
      rintro e w' ⟨rfl, rfl⟩
      have qx := xor_max lw
      have hc := U7.cell (k := 0) (by omega)
      have hf := U7.free 0
      have D8 : Hid (Uint64SIn [.slice (some ⟨wr.heap.size, 0, none⟩) 6 6] (diffN m num k) (w7.setCell ⟨wr.heap.size, 0, none⟩ (.int .u64 ((notN (withN ((m.lts.drop (5 * k)).take 5) num) : Nat) : Int)))) := Lib.hid ((U7.set 0 _).mk (Nat.zero_le _) (by unfold maxLen; omega) (by
        unfold diffN; rfl)).read
      have B8 : Hid (Below wr.heap.size wr (w7.setCell ⟨wr.heap.size, 0, none⟩ (.int .u64 ((notN (withN ((m.lts.drop (5 * k)).take 5) num) : Nat) : Int)))) := Lib.hid (hb7.setCell (p := ⟨wr.heap.size, 0, none⟩) (Nat.le_refl _) _)
      generalize notN (withN ((m.lts.drop (5 * k)).take 5) num) = nv at *
      generalize withN ((m.lts.drop (5 * k)).take 5) num = wv at *
      clear L7 U7 B7 hb7
      obtain ⟨vka, vkc, evk⟩ := H.out.2.2.1.shape (j := k) (by omega)
      have q8 := (H.out.2.1.below B8.out).cell (k := k) (by omega)
      rw [evk] at q8
      have hS8 : (w7.setCell ⟨wr.heap.size, 0, none⟩ (.int .u64 ((nv : Nat) : Int))).heap.size = w7.heap.size := by simp
      have Ik := (H.out.2.2.1.below B8.out).rd k (by omega)
      rw [evk] at Ik
      have C9 : Hid (Calls Try.prog 80 #[.int .i64 6, .slice (some ⟨w7.heap.size, 0, none⟩) 2 2] ((w7.setCell ⟨wr.heap.size, 0, none⟩ (.int .u64 ((nv : Nat) : Int))).alloc (.cells #[.slice vka 6 vkc, .slice (some ⟨wr.heap.size, 0, none⟩) 6 6] 26)) fun e w' => ∃ c, e = .returned c ∧ Uint64SIn [c] (addTwo 6 (N k) (diffN m num k)) w' ∧ Below wr.heap.size wr w') := Lib.hid (by
        have := add_two vka (some ⟨wr.heap.size, 0, none⟩) 6 6 vkc 6 (N k) (diffN m num k) _ Ik D8.out (H.out.2.2.1.six k (by omega)) (diffN_length _ _ _) (H.out.2.2.1.bd k (by omega)) (diffN_lt _ _ _)
        rw [hS8] at this
        refine this.mono ?_
        rintro e w' ⟨c, h1, h2, h3⟩
        exact ⟨c, h1, h2, below_seq B8.out (by rw [hS8]; exact h3)⟩)
      clear hS8 Ik evk D8
      go_wp2_with fail
      refine C9.out.mono ?_
      rintro e w9 ⟨c9, rfl, i9, hb9⟩
      obtain ⟨a9, n9, k9, rfl⟩ : ∃ a n k, c9 = .slice a n k := by obtain ⟨a, k, e, _⟩ := uint64SIn_shape i9; exact ⟨_, _, _, e⟩
      clear C9 q8 hc hf B8 qx
      have B9 := Lib.hid hb9
      have I9 := Lib.hid i9
      obtain ⟨vna, vnc, evn⟩ := H.out.2.2.1.shape (j := k + 1) (by omega)
      obtain ⟨ua, ux, uc, eu⟩ := H.out.1.sl k
      have q9 := (H.out.2.1.below hb9).cell (k := k + 1) (by omega)
      have u9 := (H.out.1.below hb9).arr.cell (k := k) (by omega)
      rw [evn] at q9
      rw [eu] at u9
      have In := (H.out.2.2.1.below hb9).rd (k + 1) (by omega)
      have Iu := (H.out.1.below hb9).rd k (by omega)
      rw [evn] at In
      rw [eu] at Iu
      have bN := H.out.2.2.1.bd (k + 1) (by omega)
      have b0 := H.out.2.2.1.bd 0 (by omega)
      have l6 := H.out.2.2.1.six (k + 1) (by omega)
      have NM := Lib.hid (implNumsMin _ _ (N (k + 1)) (nextR N m num k) w9.drew (In.below (belowN 1)) (Iu.below (belowN 1)) bN (nextR_lt m num b0 k))
      have I8 := Lib.hid ((H.out.2.2.2.below hb9).below (belowN 1))
      have AT : Hid (∀ (a : Option Addr) (n c : Nat) w', Uint64SIn [.slice a n c] (minM (N (k + 1)) (nextR N m num k)) w' → Uint64SIn [.slice a8 n8 k8] (allN 1) w' → Calls Try.prog 80 #[.int .i64 6, .slice (some ⟨w'.heap.size, 0, none⟩) 2 2] (w'.alloc (.cells #[.slice a n c, .slice a8 n8 k8] 26)) fun e w'' => ∃ c, e = .returned c ∧ Uint64SIn [c] (addTwo 6 (minM (N (k + 1)) (nextR N m num k)) (allN 1)) w'' ∧ Below w'.heap.size w' w'') := Lib.hid (fun a n c w' h1 h2 => add_two a a8 n n8 c k8 _ _ w' h1 h2 (by rw [minM_len (twins6 l6 (nextR_length _ _ _))]; exact l6) (allN_length 1) (minM_lt _ _) (allN_lt 1))
      have i1 : (0 : Int) ≤ (k : Int) := by omega
      have i2 : (k : Int) + 1 < 33 := by omega
      have i3 : (k : Int) < 33 := by omega
      have hwk : IntKind.i64.wrap ((k : Int) + 1) = (k : Int) + 1 := by simp [IntKind.wrap, IntKind.bits, IntKind.signed]; omega
      have htn : ((k : Int) + 1).toNat = k + 1 := by omega
      have i4 : (0 : Int) ≤ (k : Int) + 1 := by omega
      have q9d : w9.drew.cell? ⟨w.heap.size, k + 1, none⟩ = some (.slice vna 6 vnc) := q9
      have u9d : w9.drew.cell? ⟨w.heap.size + 1 + 1, k, none⟩ = some (.slice ua ux uc) := u9
      clear i9 hb9 evn eu In Iu bN l6
      go_wp2
      go_region_law (first
        | (refine step_callW w9.drew rfl (by rfl) 29 _ _ rfl _ (by kernel_rfl) Try.call29 _ NM.out ?_; rintro e w10 ⟨c10, rfl, ho10, hb10⟩; refine ⟨_, rfl, ?_⟩; obtain ⟨a10, n10, k10, rfl⟩ := ho10.shape; have B10 := Lib.hid hb10; have C11 := Lib.hid (AT.out a10 n10 k10 w10 ho10.read (I8.out.below hb10)); clear ho10 hb10)
        | (refine step_callW (w10.alloc (.cells #[.slice a10 n10 k10, .slice a8 n8 k8] 26)) rfl (by rfl) 80 _ _ rfl _ (by kernel_rfl) Try.call80 _ C11.out ?_; rintro e w11 ⟨c11, rfl, i11, hb11⟩; refine ⟨_, rfl, ?_⟩; have B11 := Lib.hid hb11; have I11 := Lib.hid i11; clear i11 hb11))
      all_goals
        obtain ⟨a11, n11, k11, rfl⟩ : ∃ a n k, c11 = .slice a n k := by obtain ⟨a, k, e, _⟩ := uint64SIn_shape I11.out; exact ⟨_, _, _, e⟩
        have BB := Lib.hid (below_seq (below_drew (Below.refl w9.heap.size w9)) (below_seq B10.out B11.out))
        have C12 := Lib.hid (implNumsMin _ _ _ _ w11 (I9.out.below BB.out) I11.out (addTwo_lt (H.out.2.2.1.bd k (by omega)) (diffN_lt m num k)) (addTwo_lt (minM_lt _ _) (allN_lt 1)))
        go_wp2_with fail
        refine C12.out.mono ?_
        rintro e w12 ⟨c12, rfl, ho12, hb12⟩
        obtain ⟨a12, n12, k12, rfl⟩ := ho12.shape
        have hb := below_seq (below_seq B9.out BB.out) hb12
        have X12 := Lib.hid (H.out.1.below hb)
        have hc := X12.out.arr.cell (k := k + 1) (by omega)
        obtain ⟨va', vx', vc', ev'⟩ := X12.out.sl (k + 1)
        rw [ev'] at hc
        have hf := X12.out.arr.free (k + 1)
        have R1 := Lib.hid (X12.out.put (a := a12) (x := n12) (c := k12) ho12.read)
        have R2 : Hid (ArrG (w12.setCell ⟨w.heap.size + 1 + 1, k + 1, none⟩ (.slice a12 n12 k12)) w.heap.size 75 33 V ∧ RowIn V N (w12.setCell ⟨w.heap.size + 1 + 1, k + 1, none⟩ (.slice a12 n12 k12)) ∧ Uint64SIn [.slice a8 n8 k8] (allN 1) (w12.setCell ⟨w.heap.size + 1 + 1, k + 1, none⟩ (.slice a12 n12 k12))) := Lib.hid ⟨(H.out.2.1.below hb).kept (set_grown _ _ _ _) (by simp; omega), (H.out.2.2.1.below hb).keep X12.out.arr (fun j _ => X12.out.sl j) (set_grown _ _ _ _), in_keep (H.out.2.2.2.below hb) X12.out.arr (fun j _ => X12.out.sl j) (set_grown _ _ _ _)⟩
        clear X12 hb ho12 hb12 C12 ev' H
        go_wp2
        go_roundw
        case rel => exact ⟨k + 1, _, by omega, by go_num, Lib.hid ⟨R1.out, R2.out⟩⟩
        case measure => simp [intOf]; omega
    · have hk' : k = 32 := by omega
      subst hk'
      have RI := Lib.hid (H.out.1.row (fun j _ => nextR_length m num j) (fun j _ => nextR_lt m num (H.out.2.2.1.bd 0 (by omega)) j))
      go_wp2_with (first
        | refine wp_arrG_load rfl 75 _ rfl _ _ 33 _ _ Try.underlying75 rfl Try.sizeRow rfl H.out.1.arr ?_
        | (refine wp_arrG_store rfl 75 _ _ rfl _ 33 _ _ _ Try.sizeRow RI.out.one rfl rfl H.out.1.res ?_; intro w7 A7 G7 S7))
      refine ret_arrG Try.results69 rfl rfl A7 Try.underlying75 rfl Try.sizeRow ⟨U, rfl, RI.out.keep H.out.1.res nil_slices G7, ?_⟩
      exact below_write H.out.1.low G7 (by omega)
end Go.Proofs.Ytfdlmpjccoaejaa
