/- The table of least costs, in the program: its rows are arrays. -/
import Derived.Test.YtfdlmpjccoaejaaBase
import Derived.Test.YtfdlmpjccoaejaaEdC
import Derived.Test.YtfdlmpjccoaejaaArr
import Derived.Test.YtfdlmpjccoaejaaCopy
import Derived.Deep.RegionLaw
import Derived.BigRegion
namespace Go.Proofs.Ytfdlmpjccoaejaa
open Go.RowKit
set_option linter.unusedVariables false

theorem Try.zero41 : (Try.prog.info? 93).map (·.zero) = some (some (.agg (cellsA 33 fun _ => 0))) := by kernel_rfl
theorem Try.size41 : (Try.prog.info? 93).map (·.size) = some 33 := by kernel_rfl
theorem Try.zero43 : (Try.prog.info? 95).map (·.zero) = some (some (.agg (cellsA 1089 fun _ => 0))) := by kernel_rfl
theorem Try.size43 : (Try.prog.info? 95).map (·.size) = some 1089 := by kernel_rfl

/-- What a call that answers a row leaves. -/
def RowPost (w : World) (f : Nat → Int → Prop) (e : Ending) (w' : World) : Prop := ∃ F, e = .returned (.agg (cellsA 33 F)) ∧ (∀ j, f j (F j)) ∧ Below w.heap.size w w'

def lastF (n k : Nat) : Nat → Int := fun j => if j < k then (n : Int) - (j : Int) else 0
theorem lastF_succ (n k : Nat) : ∀ j, upd (lastF n k) k ((n : Int) - (k : Int)) j = lastF n (k + 1) j := by
  intro j
  unfold upd lastF
  by_cases e : j = k
  · subst e; rw [if_pos rfl, if_pos (by omega)]
  · rw [if_neg e]
    by_cases h : j < k
    · rw [if_pos h, if_pos (by omega)]
    · rw [if_neg h, if_neg (by omega)]
set_option maxRecDepth 100000 in
set_option maxHeartbeats 1600000 in
theorem implLastRow (n : Nat) (w : World) (hn : n ≤ 32) :
    Calls Try.prog 100 #[.int .i64 n] w fun e w' => e = .returned (.agg (cellsA 33 (lastF n n))) ∧ Below w.heap.size w w' := by
  go_enter Try.func100, Try.ntmps100
  go_wp2_with (refine wp_arr_new rfl 93 rfl 33 _ Try.zero41 ?_)
  intro w1 A1 G1 S1
  go_wp2_with (refine wp_arr_new rfl 93 rfl 33 _ Try.zero41 ?_)
  intro w2 A2 G2 S2
  have B2 : Below w.heap.size w w2 := (grown_below G1).trans ((grown_below G2).mono (by omega))
  have A1' := A1.kept G2 (by simp)
  have H := Lib.hid (And.intro A2 (And.intro A1' B2))
  clear A1 A1' A2 G1 G2 B2
  go_wp2
  go_loopw [6, 4] (fun iv _ wr => ∃ k : Nat, k ≤ n ∧ iv = .int .i64 k ∧ wr.heap.size = w.heap.size + 1 + 1 ∧ Hid (ArrAt wr (w.heap.size + 1) 93 33 (lastF n k) ∧ ArrAt wr w.heap.size 93 33 (fun _ => 0) ∧ Below w.heap.size w wr)) (fun iv _ _ => n - (intOf iv).toNat)
  case atStart => exact ⟨0, Nat.zero_le _, rfl, S2, Lib.hid ⟨H.out.1.ext (fun j _ => by unfold lastF; rw [if_neg (by omega)]), H.out.2⟩⟩
  case round =>
    clear H
    obtain ⟨k, hk, rfl, hsz, H⟩ := hrel
    by_cases hlt : k < n
    · have hc := H.out.1.cell (k := k) (by omega)
      have hf := H.out.1.free k
      have R := Lib.hid (And.intro ((H.out.1.set k ((n : Int) - (k : Int))).ext (fun j _ => lastF_succ n k j)) (And.intro (H.out.2.1.kept (set_grown wr (w.heap.size + 1) k (.int .i64 ((n : Int) - (k : Int)))) (by simp)) (H.out.2.2.setCell (p := ⟨w.heap.size + 1, k, none⟩) (by simp) (.int .i64 ((n : Int) - (k : Int))))))
      clear H
      go_wp2
      go_roundw
      case rel => exact ⟨k + 1, by omega, by go_num, by simpa using hsz, R⟩
      case measure => simp [intOf]; omega
    · have hk' : k = n := by omega
      subst hk'
      go_wp2_with (first
        | refine wp_arr_load rfl 93 _ rfl _ _ 33 _ _ Try.underlying93 rfl Try.size41 rfl H.out.1 ?_
        | (refine wp_arr_store rfl 93 _ _ rfl _ 33 _ _ _ Try.size41 rfl rfl H.out.2.1 ?_; intro w3 A3 G3 S3))
      refine ret_arr Try.results100 rfl rfl A3 Try.underlying93 rfl Try.size41 ⟨rfl, ?_⟩
      exact below_write H.out.2.2 G3 (Nat.le_refl _)

theorem Try.sizeInt : (Try.prog.info? 3).map (·.size) = some 1 := by kernel_rfl
/-- The least of three, as the program has it. -/
def min3 (x y z : Int) : Int := if z < (if y < x then y else x) then z else (if y < x then y else x)
theorem min3_eq (x y z : Int) : min3 x y z = min x (min y z) := by
  unfold min3; split <;> split <;> omega
theorem run_min3 {P : Program} (w : World) (ts : Array TypeId) (t : TypeId) (x y z : Int) : (Builtin.min_ ts t #[.int .i64 x, .int .i64 y, .int .i64 z]).run P w = .ok (.int .i64 (min3 x y z)) w := by
  simp [Builtin.min_, Builtin.min2, min3]
theorem row_step {w wr : World} {f G : Nat → Int} {v : Int} (h1 : ArrAt wr (w.heap.size + 1 + 1) 93 33 G) (h2 : ArrAt wr w.heap.size 93 33 f) (h3 : ArrAt wr (w.heap.size + 1) 93 33 (fun _ => 0)) (h4 : Below w.heap.size w wr) (k : Nat) :
    ArrAt (wr.setCell ⟨w.heap.size + 1 + 1, k, none⟩ (.int .i64 v)) (w.heap.size + 1 + 1) 93 33 (upd G k v) ∧ ArrAt (wr.setCell ⟨w.heap.size + 1 + 1, k, none⟩ (.int .i64 v)) w.heap.size 93 33 f ∧
    ArrAt (wr.setCell ⟨w.heap.size + 1 + 1, k, none⟩ (.int .i64 v)) (w.heap.size + 1) 93 33 (fun _ => 0) ∧ Below w.heap.size w (wr.setCell ⟨w.heap.size + 1 + 1, k, none⟩ (.int .i64 v)) := by
  have G5 := set_grown wr (w.heap.size + 1 + 1) k (.int .i64 v)
  exact ⟨h1.set k v, h2.kept G5 (by simp; omega), h3.kept G5 (by simp), below_write h4 G5 (by omega)⟩
theorem val_step {b : ByteArray} {X : UInt8} {A : List UInt8} {f G : Nat → Int} {k : Nat} {v : Int} (h : (∀ i, k + 1 ≤ i → i ≤ b.size → G i = dist (X :: A) (b.data.toList.drop i)) ∧ ∀ i, i < k → G i = f (i + 1)) (hv : v = dist (X :: A) (b.data.toList.drop k)) :
    (∀ i, k ≤ i → i ≤ b.size → upd G k v i = dist (X :: A) (b.data.toList.drop i)) ∧ ∀ i, i < k → upd G k v i = f (i + 1) := by
  refine ⟨fun i h1 h2 => ?_, fun i hi => ?_⟩
  · by_cases e : i = k
    · subst e; rw [upd_same, hv]
    · rw [upd_other _ _ _ _ e]; exact h.1 i (by omega) h2
  · rw [upd_other _ _ _ _ (by omega)]; exact h.2 i hi
theorem val_keep {b : ByteArray} {X : UInt8} {A : List UInt8} {f G : Nat → Int} {k : Nat} (h : (∀ i, k + 1 ≤ i → i ≤ b.size → G i = dist (X :: A) (b.data.toList.drop i)) ∧ ∀ i, i < k + 1 → G i = f (i + 1)) (u : Int) :
    (∀ i, k + 1 ≤ i → i ≤ b.size → upd G k u i = dist (X :: A) (b.data.toList.drop i)) ∧ ∀ i, i < k → upd G k u i = f (i + 1) :=
  ⟨fun i h1 h2 => by rw [upd_other _ _ _ _ (by omega)]; exact h.1 i h1 h2, fun i hi => by rw [upd_other _ _ _ _ (by omega)]; exact h.2 i (by omega)⟩
theorem ahead_eq {X y : UInt8} {A D : List UInt8} {v F1 F0 G1 : Int} (hq : (X != y) = false) (hG1 : G1 = dist (X :: A) D) (hF1 : F1 = dist A D) (hF0 : F0 = dist A (y :: D)) (hv : v = min3 F1 (F0 + 1) (G1 + 1)) : v = dist (X :: A) (y :: D) := by
  have : X = y := by simpa using hq
  rw [hv, min3_eq, dist_cons, if_pos this, hG1, hF1, hF0]; omega
theorem ahead_ne {X y : UInt8} {A D : List UInt8} {v F1 F0 G1 : Int} (hq : (X != y) = true) (hG1 : G1 = dist (X :: A) D) (hF1 : F1 = dist A D) (hF0 : F0 = dist A (y :: D)) (hv : v = min3 (F1 + 1) (F0 + 1) (G1 + 1)) : v = dist (X :: A) (y :: D) := by
  have : ¬ X = y := by simpa using hq
  rw [hv, min3_eq, dist_cons, if_neg this, hG1, hF1, hF0]; omega
set_option maxRecDepth 100000 in
set_option maxHeartbeats 4000000 in
theorem implRowAhead (f : Nat → Int) (X : UInt8) (b : ByteArray) (A : List UInt8) (w : World) (hb : b.size ≤ 32) (hA : A.length ≤ 32) (hf : ∀ j, j ≤ b.size → f j = dist A (b.data.toList.drop j)) :
    Calls Try.prog 101 #[.agg (cellsA 33 f), .int .u8 X.toNat, .string b] w fun e w' => ∃ g, e = .returned (.agg (cellsA 33 g)) ∧ (∀ j, j ≤ b.size → g j = dist (X :: A) (b.data.toList.drop j)) ∧ Below w.heap.size w w' := by
  have FB : ∀ j, j ≤ b.size → 0 ≤ f j ∧ f j ≤ 32 := fun j hj => by
    rw [hf j hj]
    have := dist_max A (b.data.toList.drop j)
    have : (b.data.toList.drop j).length ≤ 32 := by rw [List.length_drop, len_data]; omega
    omega
  have HF := Lib.hid hf
  have HFB := Lib.hid FB
  clear hf FB
  go_enter Try.func101, Try.ntmps101
  go_wp2_with (refine wp_arr_box rfl 93 _ rfl 33 f rfl ?_)
  intro w1 A1 G1 S1
  go_wp2_with (refine wp_arr_new rfl 93 rfl 33 _ Try.zero41 ?_)
  intro w2 A2 G2 S2
  go_wp2_with (refine wp_arr_new rfl 93 rfl 33 _ Try.zero41 ?_)
  intro w3 A3 G3 S3
  have B3 : Below w.heap.size w w3 := ((grown_below G1).trans ((grown_below G2).mono (by omega))).trans ((grown_below G3).mono (by omega))
  have A1' := (A1.kept G2 (by simp)).kept G3 (by simp)
  have A2' := A2.kept G3 (by simp)
  clear A1 A2 G1 G2 G3
  have A3d : ArrAt w3.drew (w.heap.size + 1 + 1) 93 33 (fun _ => 0) := A3
  have A1d : ArrAt w3.drew w.heap.size 93 33 f := A1'
  obtain ⟨w4, hcp, A4, G4, S4⟩ := arr_copy (P := Try.prog) (w := w3.drew) (dT := 36) (sT := 36) (m := b.size) (c := 33) (o := 1) (sLen := 32) (sCap := 32) Try.underlying36 Try.sizeInt A3d A1d (by rw [show Nat.min 32 b.size = min 32 b.size from rfl]; omega) (by omega) (by omega)
  have hb0 : (0 : Int) ≤ (b.size : Int) := by omega
  have hb1 : (b.size : Int) ≤ 33 := by omega
  have HC := Lib.hid hcp
  clear hcp
  go_wp2
  go_region_law (refine step_copy_run (by rfl) _ _ _ _ (by rfl) _ _ _ _ (by rfl) (by rfl) HC.out ?_)
  have B4 : Below w.heap.size w w4 := below_write (B3.trans (belowN 1 |>.mono (by omega))) G4 (by omega)
  have A1'' := A1d.kept G4 (by first | (simp; omega) | simp)
  have A2'' := (show ArrAt w3.drew (w.heap.size + 1) 93 33 (fun _ => 0) from A2').kept G4 (by first | (simp; omega) | simp)
  have S5 : w4.heap.size = w.heap.size + 1 + 1 + 1 := S4.trans S3
  clear A1' A2' A1d A3d A3 G4 S4 S3 S2 S1 B3 HC
  have fb := HFB.out b.size (Nat.le_refl _)
  have hcB := A1''.cell (k := b.size) (by omega)
  have hcR := A4.cell (k := b.size) (by omega)
  have hfR := A4.free b.size
  have A5 := A4.set b.size (f b.size + 1)
  have G5 := set_grown w4 (w.heap.size + 1 + 1) b.size (.int .i64 (f b.size + 1))
  have H : Hid (ArrAt (w4.setCell ⟨w.heap.size + 1 + 1, b.size, none⟩ (.int .i64 (f b.size + 1))) (w.heap.size + 1 + 1) 93 33 (upd (seg (fun _ => 0) 0 b.size fun j => f (1 + j)) b.size (f b.size + 1)) ∧
    ArrAt (w4.setCell ⟨w.heap.size + 1 + 1, b.size, none⟩ (.int .i64 (f b.size + 1))) w.heap.size 93 33 f ∧ ArrAt (w4.setCell ⟨w.heap.size + 1 + 1, b.size, none⟩ (.int .i64 (f b.size + 1))) (w.heap.size + 1) 93 33 (fun _ => 0) ∧ Below w.heap.size w (w4.setCell ⟨w.heap.size + 1 + 1, b.size, none⟩ (.int .i64 (f b.size + 1)))) :=
    Lib.hid ⟨A5, A1''.kept G5 (by first | (simp; omega) | simp), A2''.kept G5 (by first | (simp; omega) | simp), below_write B4 G5 (by omega)⟩
  clear A5 G5 A1'' A2'' A4 B4
  go_wp2
  go_loopw [8] (fun jv wr => ∃ (k : Nat) (G : Nat → Int), k ≤ b.size ∧ jv = .int .i64 ((k : Int) - 1) ∧ Hid (ArrAt wr (w.heap.size + 1 + 1) 93 33 G ∧ ArrAt wr w.heap.size 93 33 f ∧ ArrAt wr (w.heap.size + 1) 93 33 (fun _ => 0) ∧ Below w.heap.size w wr) ∧
    Hid ((∀ i, k ≤ i → i ≤ b.size → G i = dist (X :: A) (b.data.toList.drop i)) ∧ ∀ i, i < k → G i = f (i + 1))) (fun jv _ => ((intOf jv) + 1).toNat)
  case atStart =>
    refine ⟨b.size, _, Nat.le_refl _, rfl, H, Lib.hid ⟨fun i h1 h2 => ?_, fun i hi => ?_⟩⟩
    · obtain rfl : i = b.size := by omega
      rw [upd_same, HF.out _ (Nat.le_refl _), drop_past b _ (Nat.le_refl _), dist_end, dist_end]; simp
    · rw [upd_other _ _ _ _ (by omega)]
      have := seg_in (fun _ => 0) (fun j => f (1 + j)) 0 b.size i hi
      rw [Nat.zero_add] at this
      rw [this, Nat.add_comm]
  case round =>
    clear H hcB hcR hfR S5
    obtain ⟨k, G, hk, rfl, H, HG⟩ := hrel
    cases k with
    | zero =>
      go_wp2_with (first
        | refine wp_arr_load rfl 93 _ rfl _ _ 33 _ _ Try.underlying93 rfl Try.size41 rfl H.out.1 ?_
        | (refine wp_arr_store rfl 93 _ _ rfl _ 33 _ _ _ Try.size41 rfl rfl H.out.2.2.1 ?_; intro w3 A3 G3 S3))
      refine ret_arr Try.results101 rfl rfl A3 Try.underlying93 rfl Try.size41 ⟨G, rfl, fun j hj => HG.out.1 j (Nat.zero_le _) hj, ?_⟩
      exact below_write H.out.2.2.2 G3 (by omega)
    | succ k =>
      have ek : ((k + 1 : Nat) : Int) - 1 = (k : Int) := by omega
      rw [ek]
      clear ek
      have hlt : k < b.size := by omega
      have f1 := HFB.out (k + 1) (by omega)
      have f0 := HFB.out k (by omega)
      have g0 : G k = f (k + 1) := HG.out.2 k (by omega)
      have g1 : G (k + 1) = dist (X :: A) (b.data.toList.drop (k + 1)) := HG.out.1 (k + 1) (Nat.le_refl _) (by omega)
      have g1b : 0 ≤ G (k + 1) ∧ G (k + 1) ≤ 33 := by
        rw [g1]
        have := dist_max (X :: A) (b.data.toList.drop (k + 1))
        have : (b.data.toList.drop (k + 1)).length ≤ 32 := by rw [List.length_drop, len_data]; omega
        simp at *
        omega
      have V := Lib.hid (And.intro g0 (And.intro g1 (And.intro (HF.out (k + 1) (by omega)) (And.intro (HF.out k (by omega)) (drop_byte b k hlt)))))
      clear g1
      have hx : X.toNat < 256 := X.toNat_lt
      have hcG := H.out.1.cell (k := k) (by omega)
      rw [g0] at hcG
      have hfG := H.out.1.free k
      have BB := byte_bne X b[k]
      clear g0
      cases hq : (X != b[k])
      · rw [hq] at BB
        have Q := Lib.hid hq
        clear hq
        have hcF := H.out.2.1.cell (k := k) (by omega)
        have hcG1 := H.out.1.cell (k := k + 1) (by omega)
        obtain ⟨v, hv⟩ : ∃ v, v = min3 (f (k + 1)) (f k + 1) (G (k + 1) + 1) := ⟨_, rfl⟩
        have hmin := fun w ts t => run_min3 (P := Try.prog) w ts t (f (k + 1)) (f k + 1) (G (k + 1) + 1)
        rw [← hv] at hmin
        have HV := Lib.hid hv
        clear hv
        have W : v = dist (X :: A) (b.data.toList.drop k) := by rw [V.out.2.2.2.2]; exact ahead_eq Q.out V.out.2.1 V.out.2.2.1 (by rw [← V.out.2.2.2.2]; exact V.out.2.2.2.1) HV.out
        have HW := Lib.hid W
        clear W
        have RR := Lib.hid (row_step (v := v) (H.out.1.drew 1) (H.out.2.1.drew 1) (H.out.2.2.1.drew 1) (H.out.2.2.2.trans ((belowN 1).mono (H.out.2.2.2.size))) k)
        have RV := Lib.hid (val_step (v := v) ⟨HG.out.1, fun i hi => HG.out.2 i (by omega)⟩ HW.out)
        go_wp2
        go_region
        go_wp2
        go_roundw
        case rel => exact ⟨k, upd G k v, by omega, by go_num, RR, RV⟩
        case measure => simp [intOf]
      · rw [hq] at BB
        have Q := Lib.hid hq
        clear hq
        obtain ⟨v, hv⟩ : ∃ v, v = min3 (f (k + 1) + 1) (f k + 1) (G (k + 1) + 1) := ⟨_, rfl⟩
        have hmin := fun w ts t => run_min3 (P := Try.prog) w ts t (f (k + 1) + 1) (f k + 1) (G (k + 1) + 1)
        rw [← hv] at hmin
        have HV := Lib.hid hv
        clear hv
        have W : v = dist (X :: A) (b.data.toList.drop k) := by rw [V.out.2.2.2.2]; exact ahead_ne Q.out V.out.2.1 V.out.2.2.1 (by rw [← V.out.2.2.2.2]; exact V.out.2.2.2.1) HV.out
        have HW := Lib.hid W
        clear W
        go_wp2
        obtain ⟨w9, hw9⟩ : ∃ w9, w9 = wr.setCell ⟨w.heap.size + 1 + 1, k, none⟩ (.int .i64 (f (k + 1) + 1)) := ⟨_, rfl⟩
        rw [← hw9]
        have R9 := row_step (v := f (k + 1) + 1) H.out.1 H.out.2.1 H.out.2.2.1 H.out.2.2.2 k
        rw [← hw9] at R9
        clear hcG hfG hw9
        have hcG := R9.1.cell (k := k) (by omega)
        rw [upd_same] at hcG
        have hfG := R9.1.free k
        have hcF := R9.2.1.cell (k := k) (by omega)
        have hcG1 := R9.1.cell (k := k + 1) (by omega)
        rw [upd_other _ _ _ _ (by omega)] at hcG1
        have RR := Lib.hid (row_step (v := v) (R9.1.drew 1) (R9.2.1.drew 1) (R9.2.2.1.drew 1) (R9.2.2.2.trans ((belowN 1).mono (R9.2.2.2.size))) k)
        have RV := Lib.hid (val_step (v := v) (val_keep HG.out (f (k + 1) + 1)) HW.out)
        clear R9
        go_region
        go_wp2
        go_roundw
        case rel => exact ⟨k, upd (upd G k (f (k + 1) + 1)) k v, by omega, by go_num, RR, RV⟩
        case measure => simp [intOf]
end Go.Proofs.Ytfdlmpjccoaejaa
