/- NtX, NtS in one. Written by tools/join.py. -/
import Derived.Test.YtaedamnhobcdlaaJNtQ
import Derived.Test.YtaedamnhobcdlaaJNeG
import Derived.Deep.DeepMust
section
namespace Go.Proofs.Ytaedamnhobcdlaa
open Go.RowKit
set_option linter.unusedVariables false
set_option linter.unusedSimpArgs false
set_option maxRecDepth 100000

set_option maxHeartbeats 1000000 in
theorem newNetC (Bn n sf : Nat) (caps : Array Value) (σs : List (Nat → Nat)) (w : World) (h64 : n ≤ 64) (hsf : ∀ args w, (callFunc sf args).run Try.prog w = .ok (.enter sf args) w)
    (hst : ∀ (m l B : Nat) (I : Nat → World → Prop) (Kp : World → World → Prop) (W : World), (∀ k W1, I k W1 → W1.cell? ⟨Bn, 0, none⟩ = some (.int .i64 n)) → SeqAll Try.prog m sf #[] caps σs.length l B I (StepV σs) Kp W)
    (hlen : (allW n σs).length ≤ 4096) (hB : w.heap[Bn]? = some (.cells #[.int .i64 n] 3 (0, 0))) :
    Calls Try.prog 52 #[.int .i64 n, .func (.func sf) #[] caps] w (NetRet ⟨n, allW n σs⟩ w) := by
  obtain ⟨w2, hw2⟩ : ∃ w2, w2 = (w.alloc (.cells #[.int .i64 0, .slice none 0 0] 36)).alloc (.cells (planC n (.func (.func sf) #[] caps) 0 0 0 0 (.slice none 0 0)) 113) := ⟨_, rfl⟩
  have b2 : Below w.heap.size w w2 := by rw [hw2]; exact below_box (below_box (Below.refl _ _) _) _
  have hr : w2.heap[w.heap.size]? = some (.cells #[.int .i64 0, .slice none 0 0] 36 (0, 0)) := by rw [hw2]; exact (alloc_old _ _ _ (by simp)).trans (alloc_at _ _ _ rfl)
  have hp : w2.heap[w.heap.size + 1]? = some (.cells (planC n (.func (.func sf) #[] caps) 0 0 0 0 (.slice none 0 0)) 113 (0, 0)) := by rw [hw2]; exact alloc_at _ _ _ (by simp)
  have s2 : w2.heap.size = w.heap.size + 1 + 1 := by rw [hw2]; simp
  have C := Lib.hid (netC (w.heap.size + 1) Bn n sf caps σs 0 w2 ⟨h64, hsf, hst, hlen, kept_block hB b2, hp⟩)
  have HH := Lib.hid (And.intro hr (And.intro s2 b2))
  clear hsf hst hB hp hr s2 b2
  go_enter Try.func52, Try.ntmps52
  go_wp2_with fail
  have hw2' := hw2
  unfold planC at hw2'
  rw [← hw2']
  clear hw2 hw2'
  refine C.out.mono ?_
  rintro e w3 ⟨c0, c1, rfl, ho, hg⟩
  obtain ⟨z, a1, n1, k1, rfl, rfl⟩ := ho.shape
  obtain ⟨hr, s2, b2⟩ := HH.out
  have r3 := kept_grown hr hg (by simp)
  have r0 : w3.cell? ⟨w.heap.size, 0, none⟩ = some (.int .i64 0) := cur_cell r3 0
  have r1 : w3.cell? ⟨w.heap.size, 1, none⟩ = some (.slice none 0 0) := cur_cell r3 1
  have fr0 := cur_free r3 0
  have fr1 := cur_free r3 1
  have O : Hid (NetOwn w2.heap.size w3.heap.size [.int .i64 z, .slice a1 n1 k1] ⟨n, allW n σs⟩ w3 ∧ Below w.heap.size w w3 ∧ w2.heap.size = w.heap.size + 1 + 1) := Lib.hid ⟨ho, b2.grown hg b2.size (fun i hi => by cases hi; simp), s2⟩
  clear ho hg r3 hr s2 b2 HH C
  go_wp2
  refine bodyPost_ret (v := .agg #[.int .i64 z, .slice a1 n1 k1]) (by simp [results, Try.results52, go_sem, r0, r1]) rfl ⟨_, _, rfl, ?_, (O.out.2.1.setCell (p := ⟨w.heap.size, 0, none⟩) (by simp) _).setCell (p := ⟨w.heap.size, 1, none⟩) (by simp) _⟩
  have hs := O.out.2.2
  exact (((O.out.1.lies (Nat.le_refl _)).sup _ (fun k k1 k2 => (Below.heap_setCell _ _ _ k (by simp; omega)).trans (Below.heap_setCell _ _ _ k (by simp; omega))))).wide (by omega) (by simp)
theorem netZero_ret (w : World) (u v : Value) : NetOwn w.heap.size ((w.alloc (.cells #[u, v] 36)).heap.size) [.int .i64 0, .slice none 0 0] ⟨0, []⟩ (w.alloc (.cells #[u, v] 36)) := ⟨_, rfl, WireSOwn.nil _ _ 0 _⟩
theorem two_and : ∀ n : Nat, n ≤ 64 → 1 ≤ n → (bits .and .i64 (n : Int) ((n : Int) - 1) == 0) = decide (isTwo n) := by
  intro n h1 h2
  have : ∀ k : Fin 64, (bits .and .i64 ((k.1 + 1 : Nat) : Int) (((k.1 + 1 : Nat) : Int) - 1) == 0) = decide (isTwo (k.1 + 1)) := by decide +kernel
  have h := this ⟨n - 1, by omega⟩
  simp only [show n - 1 + 1 = n from by omega] at h
  exact h
theorem implTwo (n : Nat) (w : World) (h1 : 1 ≤ n) (h2 : n ≤ 64) : Calls Try.prog 51 #[.int .i64 n] w fun e w' => e = .returned (.bool (decide (isTwo n))) ∧ w = w' := by
  have H := Lib.hid (two_and n h2 h1)
  go_enter Try.func51, Try.ntmps51
  go_wp2
  go_ret
  refine ⟨?_, rfl⟩
  exact congrArg (fun b => Ending.returned (Value.bool b)) H.out
theorem implBitSteps (n : Nat) (w : World) : Calls Try.prog 53 #[.int .i64 n] w fun e w' => e = .returned (.func (.func 80) #[] #[.pointer (some ⟨w.heap.size, 0, none⟩)]) ∧ w' = w.alloc (.cells #[.int .i64 n] 3) := by
  go_enter Try.func53, Try.ntmps53
  go_wp2
  go_ret
  exact ⟨rfl, rfl⟩
theorem implOeSteps (n : Nat) (w : World) : Calls Try.prog 54 #[.int .i64 n] w fun e w' => e = .returned (.func (.func 83) #[] #[.pointer (some ⟨w.heap.size, 0, none⟩)]) ∧ w' = w.alloc (.cells #[.int .i64 n] 3) := by
  go_enter Try.func54, Try.ntmps54
  go_wp2
  go_ret
  exact ⟨rfl, rfl⟩
/-- A net in a result's cells: the box at r holds zeros, then the net. -/
theorem net_stored {w w1 w3 : World} {z : Int} {a1 : Option Addr} {n1 k1 : Nat} {m : NetM} (ho : NetOwn w1.heap.size w3.heap.size [.int .i64 z, .slice a1 n1 k1] m w3) (hs : w.heap.size < w1.heap.size) (hb : Below w.heap.size w w3) (u v : Value) :
    NetOwn w.heap.size ((w3.setCell ⟨w.heap.size, 0, none⟩ u).setCell ⟨w.heap.size, 1, none⟩ v).heap.size [.int .i64 z, .slice a1 n1 k1] m ((w3.setCell ⟨w.heap.size, 0, none⟩ u).setCell ⟨w.heap.size, 1, none⟩ v) ∧ Below w.heap.size w ((w3.setCell ⟨w.heap.size, 0, none⟩ u).setCell ⟨w.heap.size, 1, none⟩ v) :=
  ⟨(((ho.lies (Nat.le_refl _)).sup _ (fun k k1 k2 => (Below.heap_setCell _ _ _ k (by simp; omega)).trans (Below.heap_setCell _ _ _ k (by simp; omega))))).wide (by omega) (by simp), (hb.setCell (p := ⟨w.heap.size, 0, none⟩) (by simp) _).setCell (p := ⟨w.heap.size, 1, none⟩) (by simp) _⟩
set_option maxHeartbeats 1000000 in
theorem uImplBitonic (z : Int) (w : World) (b0 : -9223372036854775808 ≤ z ∧ z ≤ 9223372036854775807) : Calls Try.prog 19 #[.int .i64 z] w (NetRet (bitonicM z) w) := by
  have SO := Lib.hid (implSizeOk z)
  by_cases h : 1 ≤ z ∧ z ≤ 64
  · rw [show decide (1 ≤ z ∧ z ≤ 64) = true from decide_eq_true h] at SO
    obtain ⟨n, rfl⟩ : ∃ n : Nat, z = n := ⟨z.toNat, by omega⟩
    have TW := Lib.hid (fun w => implTwo n w (by omega) (by omega))
    by_cases ht : isTwo n
    · rw [show decide (isTwo n) = true from decide_eq_true ht] at TW
      have E : Hid (bitonicM (n : Int) = ⟨n, allW n (bitS n)⟩) := Lib.hid (by unfold bitonicM twoZ; simp [ht])
      obtain ⟨w1, hw1⟩ : ∃ w1, w1 = w.alloc (.cells #[.int .i64 0, .slice none 0 0] 36) := ⟨_, rfl⟩
      have hr : w1.heap[w.heap.size]? = some (.cells #[.int .i64 0, .slice none 0 0] 36 (0, 0)) := by rw [hw1]; exact alloc_at _ _ _ rfl
      have b1 : Below w.heap.size w w1 := by rw [hw1]; exact below_box (Below.refl _ _) _
      have ST := Lib.hid (implBitSteps n w1)
      have hlen : (allW n (bitS n)).length ≤ 4096 := by
        have h1 := allW_length n (bitS n)
        have h3 : (bitS n).length ≤ 42 := ups_length _ _ n 6 2
        have h2 : (bitS n).length * n ≤ 42 * 64 := Nat.mul_le_mul h3 (by omega)
        omega
      have NN := Lib.hid (newNetC w1.heap.size n 80 #[.pointer (some ⟨w1.heap.size, 0, none⟩)] (bitS n) (w1.alloc (.cells #[.int .i64 n] 3)) (by omega) Try.call80 (fun m l B I Kp W hI => bitIt m w1.heap.size n l B I Kp W (by omega) (by omega) hI) hlen (alloc_at _ _ _ rfl))
      have HH := Lib.hid (And.intro hr b1)
      clear hr b1 hlen ht
      go_enter Try.func19, Try.ntmps19
      go_wp2_with fail
      refine (SO.out _).mono ?_
      rintro e w2 ⟨rfl, rfl⟩
      go_wp2_with fail
      refine (TW.out _).mono ?_
      rintro e w2 ⟨rfl, rfl⟩
      go_wp2_with fail
      rw [← hw1]
      clear hw1
      refine ST.out.mono ?_
      rintro e w2 ⟨rfl, rfl⟩
      go_wp2_with fail
      refine NN.out.mono ?_
      rintro e w3 ⟨c0, c1, rfl, ho, hb⟩
      obtain ⟨y, a1, n1, k1, rfl, rfl⟩ := ho.shape
      have B3 := below_seq (below_box HH.out.2 (.cells #[.int .i64 n] 3)) hb
      have r3 := kept_block (kept_block HH.out.1 (below_box (Below.refl _ _) (.cells #[.int .i64 n] 3))) hb
      have r0 : w3.cell? ⟨w.heap.size, 0, none⟩ = some (.int .i64 0) := cur_cell r3 0
      have r1 : w3.cell? ⟨w.heap.size, 1, none⟩ = some (.slice none 0 0) := cur_cell r3 1
      have fr0 := cur_free r3 0
      have fr1 := cur_free r3 1
      have R := Lib.hid (fun u v => net_stored (w := w) ho (by have := cur_lt HH.out.1; simp; omega) B3 u v)
      clear ho hb B3 r3 HH NN ST SO TW
      go_wp2
      exact bodyPost_ret (v := .agg #[.int .i64 y, .slice a1 n1 k1]) (by simp [results, Try.results19, go_sem, r0, r1]) rfl ⟨_, _, rfl, by rw [E.out]; exact (R.out _ _).1, (R.out _ _).2⟩
    · rw [show decide (isTwo n) = false from decide_eq_false ht] at TW
      have E : Hid (bitonicM (n : Int) = ⟨0, []⟩) := Lib.hid (by unfold bitonicM twoZ; simp [ht])
      clear ht
      go_enter Try.func19, Try.ntmps19
      go_wp2_with fail
      refine (SO.out _).mono ?_
      rintro e w2 ⟨rfl, rfl⟩
      go_wp2_with fail
      refine (TW.out _).mono ?_
      rintro e w2 ⟨rfl, rfl⟩
      go_wp2
      exact bodyPost_ret (v := .agg #[.int .i64 0, .slice none 0 0]) (by simp [results, Try.results19, go_sem]) rfl ⟨_, _, rfl, by rw [E.out]; exact netZero_ret w _ _, below_box (Below.refl _ _) _⟩
  · rw [show decide (1 ≤ z ∧ z ≤ 64) = false from decide_eq_false h] at SO
    have E : Hid (bitonicM z = ⟨0, []⟩) := Lib.hid (by
      unfold bitonicM
      rw [if_neg (fun hz => ?_)]
      obtain ⟨n, rfl, hn⟩ := twoZ_nat hz
      have := isTwo_le hn
      omega)
    go_enter Try.func19, Try.ntmps19
    go_wp2_with fail
    refine (SO.out _).mono ?_
    rintro e w2 ⟨rfl, rfl⟩
    go_wp2
    exact bodyPost_ret (v := .agg #[.int .i64 0, .slice none 0 0]) (by simp [results, Try.results19, go_sem]) rfl ⟨_, _, rfl, by rw [E.out]; exact netZero_ret w _ _, below_box (Below.refl _ _) _⟩
set_option maxHeartbeats 1000000 in
theorem uImplOddEven (z : Int) (w : World) (b0 : -9223372036854775808 ≤ z ∧ z ≤ 9223372036854775807) : Calls Try.prog 20 #[.int .i64 z] w (NetRet (oddEvenM z) w) := by
  have SO := Lib.hid (implSizeOk z)
  by_cases h : 1 ≤ z ∧ z ≤ 64
  · rw [show decide (1 ≤ z ∧ z ≤ 64) = true from decide_eq_true h] at SO
    obtain ⟨n, rfl⟩ : ∃ n : Nat, z = n := ⟨z.toNat, by omega⟩
    have TW := Lib.hid (fun w => implTwo n w (by omega) (by omega))
    by_cases ht : isTwo n
    · rw [show decide (isTwo n) = true from decide_eq_true ht] at TW
      have E : Hid (oddEvenM (n : Int) = ⟨n, allW n (oeS n)⟩) := Lib.hid (by unfold oddEvenM twoZ; simp [ht])
      obtain ⟨w1, hw1⟩ : ∃ w1, w1 = w.alloc (.cells #[.int .i64 0, .slice none 0 0] 36) := ⟨_, rfl⟩
      have hr : w1.heap[w.heap.size]? = some (.cells #[.int .i64 0, .slice none 0 0] 36 (0, 0)) := by rw [hw1]; exact alloc_at _ _ _ rfl
      have b1 : Below w.heap.size w w1 := by rw [hw1]; exact below_box (Below.refl _ _) _
      have ST := Lib.hid (implOeSteps n w1)
      have hlen : (allW n (oeS n)).length ≤ 4096 := by
        have h1 := allW_length n (oeS n)
        have h3 : (oeS n).length ≤ 42 := ups_length _ _ n 6 2
        have h2 : (oeS n).length * n ≤ 42 * 64 := Nat.mul_le_mul h3 (by omega)
        omega
      have NN := Lib.hid (newNetC w1.heap.size n 83 #[.pointer (some ⟨w1.heap.size, 0, none⟩)] (oeS n) (w1.alloc (.cells #[.int .i64 n] 3)) (by omega) Try.call83 (fun m l B I Kp W hI => oeIt m w1.heap.size n l B I Kp W (by omega) (by omega) hI) hlen (alloc_at _ _ _ rfl))
      have HH := Lib.hid (And.intro hr b1)
      clear hr b1 hlen ht
      go_enter Try.func20, Try.ntmps20
      go_wp2_with fail
      refine (SO.out _).mono ?_
      rintro e w2 ⟨rfl, rfl⟩
      go_wp2_with fail
      refine (TW.out _).mono ?_
      rintro e w2 ⟨rfl, rfl⟩
      go_wp2_with fail
      rw [← hw1]
      clear hw1
      refine ST.out.mono ?_
      rintro e w2 ⟨rfl, rfl⟩
      go_wp2_with fail
      refine NN.out.mono ?_
      rintro e w3 ⟨c0, c1, rfl, ho, hb⟩
      obtain ⟨y, a1, n1, k1, rfl, rfl⟩ := ho.shape
      have B3 := below_seq (below_box HH.out.2 (.cells #[.int .i64 n] 3)) hb
      have r3 := kept_block (kept_block HH.out.1 (below_box (Below.refl _ _) (.cells #[.int .i64 n] 3))) hb
      have r0 : w3.cell? ⟨w.heap.size, 0, none⟩ = some (.int .i64 0) := cur_cell r3 0
      have r1 : w3.cell? ⟨w.heap.size, 1, none⟩ = some (.slice none 0 0) := cur_cell r3 1
      have fr0 := cur_free r3 0
      have fr1 := cur_free r3 1
      have R := Lib.hid (fun u v => net_stored (w := w) ho (by have := cur_lt HH.out.1; simp; omega) B3 u v)
      clear ho hb B3 r3 HH NN ST SO TW
      go_wp2
      exact bodyPost_ret (v := .agg #[.int .i64 y, .slice a1 n1 k1]) (by simp [results, Try.results20, go_sem, r0, r1]) rfl ⟨_, _, rfl, by rw [E.out]; exact (R.out _ _).1, (R.out _ _).2⟩
    · rw [show decide (isTwo n) = false from decide_eq_false ht] at TW
      have E : Hid (oddEvenM (n : Int) = ⟨0, []⟩) := Lib.hid (by unfold oddEvenM twoZ; simp [ht])
      clear ht
      go_enter Try.func20, Try.ntmps20
      go_wp2_with fail
      refine (SO.out _).mono ?_
      rintro e w2 ⟨rfl, rfl⟩
      go_wp2_with fail
      refine (TW.out _).mono ?_
      rintro e w2 ⟨rfl, rfl⟩
      go_wp2
      exact bodyPost_ret (v := .agg #[.int .i64 0, .slice none 0 0]) (by simp [results, Try.results20, go_sem]) rfl ⟨_, _, rfl, by rw [E.out]; exact netZero_ret w _ _, below_box (Below.refl _ _) _⟩
  · rw [show decide (1 ≤ z ∧ z ≤ 64) = false from decide_eq_false h] at SO
    have E : Hid (oddEvenM z = ⟨0, []⟩) := Lib.hid (by
      unfold oddEvenM
      rw [if_neg (fun hz => ?_)]
      obtain ⟨n, rfl, hn⟩ := twoZ_nat hz
      have := isTwo_le hn
      omega)
    go_enter Try.func20, Try.ntmps20
    go_wp2_with fail
    refine (SO.out _).mono ?_
    rintro e w2 ⟨rfl, rfl⟩
    go_wp2
    exact bodyPost_ret (v := .agg #[.int .i64 0, .slice none 0 0]) (by simp [results, Try.results20, go_sem]) rfl ⟨_, _, rfl, by rw [E.out]; exact netZero_ret w _ _, below_box (Below.refl _ _) _⟩
end Go.Proofs.Ytaedamnhobcdlaa
end

section
namespace Go.Proofs.Ytaedamnhobcdlaa
open Go.RowKit
set_option linter.unusedVariables false
set_option linter.unusedSimpArgs false
set_option maxRecDepth 100000

/-- A net under construction: the result's box holds zeros, the variable's box a net of the wires ws, in memory of its own. -/
def SBox (w : World) (n : Nat) (ws : List WireM) (a : Option Addr) (cap : Nat) (W : World) : Prop :=
  W.heap[w.heap.size]? = some (.cells #[.int .i64 0, .slice none 0 0] 36 (0, 0)) ∧ W.heap[w.heap.size + 1]? = some (.cells #[.int .i64 n, .slice a ws.length cap] 36 (0, 0)) ∧
  W.ownsRow (w.heap.size + 1 + 1) 87 2 (.slice a ws.length cap) ws.length (flatW ws) ∧ Below w.heap.size w W ∧ w.heap.size + 1 + 1 ≤ W.heap.size
theorem SBox.start (w : World) (n : Nat) : SBox w n [] none 0 ((w.alloc (.cells #[.int .i64 0, .slice none 0 0] 36)).alloc (.cells #[.int .i64 n, .slice none 0 0] 36)) :=
  ⟨(alloc_old _ _ _ (by simp)).trans (alloc_at _ _ _ rfl), alloc_at _ _ _ (by simp), ⟨rfl, .inl ⟨rfl, rfl⟩⟩, below_box (below_box (Below.refl _ _) _) _, by simp⟩
/-- One wire more. -/
theorem SBox.push {w W w1 : World} {n cap : Nat} {ws : List WireM} {a a' : Option Addr} {cap' m : Nat} {t : WireM} {o : Obj} (h : SBox w n ws a cap W) (ho : w1.ownsRow (w.heap.size + 1 + 1) 87 2 (.slice a' m cap') m (flatW ws ++ flatW [t])) (hg : (W.alloc o).grownBy w1 (Value.ownBlock (.slice a ws.length cap))) (hm : m = ws.length + 1) :
    SBox w n (ws ++ [t]) a' cap' (w1.setCell ⟨w.heap.size + 1, 1, none⟩ (.slice a' m cap')) ∧ w1.cell? ⟨w.heap.size + 1, 1, none⟩ = some (.slice a ws.length cap) ∧ w1.frozen? ⟨w.heap.size + 1, 1, none⟩ = false := by
  obtain ⟨h1, h2, h3, h4, h5⟩ := h
  have o3 := h3.alloc o
  have k2 : (W.alloc o).heap[w.heap.size + 1]? = _ := (alloc_old _ _ _ (cur_lt h2)).trans h2
  have k1 : (W.alloc o).heap[w.heap.size]? = _ := (alloc_old _ _ _ (cur_lt h1)).trans h1
  have q2 := kept_grown k2 hg (own_other o3 k2 (by decide))
  have q1 := kept_grown k1 hg (own_other o3 k1 (by decide))
  subst hm
  refine ⟨⟨(Below.heap_setCell _ _ _ _ (by simp)).trans q1, ?_, ?_, ?_, ?_⟩, cur_cell q2 1, cur_free q2 1⟩
  · have := cur_set q2 1 (.slice a' (ws.length + 1) cap')
    simpa using this
  · have := ho.kept (set_grown w1 (w.heap.size + 1) 1 (.slice a' (ws.length + 1) cap')) (.inr (own_other ho q2 (by decide)))
    rw [flatW_app]
    simpa using this
  · exact ((below_box h4 o).grown hg (by simp; omega) (fun i hi => by have := (h3.lt i hi).1; omega)).setCell (p := ⟨w.heap.size + 1, 1, none⟩) (by simp) _
  · have := hg.size
    simp at this ⊢
    omega
theorem SBox.row (W : World) (t : WireM) : Row (W.alloc (.cells #[.int .i64 t.a, .int .i64 t.b] 87)) (some ⟨W.heap.size, 0, none⟩) (flatW [t]) := by
  refine .inr ⟨_, _, rfl, fun i hi => ?_⟩
  have hi2 : i < 2 := by simpa [flatW] using hi
  have e := alloc_at W (.cells #[.int .i64 t.a, .int .i64 t.b] 87) _ rfl
  rw [Nat.zero_add]
  rcases (show i = 0 ∨ i = 1 from by omega) with rfl | rfl
  · exact cur_cell e 0
  · exact cur_cell e 1
/-- The net returned. -/
theorem SBox.fin {w W : World} {n cap : Nat} {ws : List WireM} {a : Option Addr} (h : SBox w n ws a cap W) (u v : Value) :
    NetOwn w.heap.size ((W.setCell ⟨w.heap.size, 0, none⟩ u).setCell ⟨w.heap.size, 1, none⟩ v).heap.size [.int .i64 n, .slice a ws.length cap] ⟨n, ws⟩ ((W.setCell ⟨w.heap.size, 0, none⟩ u).setCell ⟨w.heap.size, 1, none⟩ v) ∧ Below w.heap.size w ((W.setCell ⟨w.heap.size, 0, none⟩ u).setCell ⟨w.heap.size, 1, none⟩ v) := by
  obtain ⟨h1, h2, h3, h4, h5⟩ := h
  refine ⟨⟨_, rfl, ?_⟩, (h4.setCell (p := ⟨w.heap.size, 0, none⟩) (by simp) _).setCell (p := ⟨w.heap.size, 1, none⟩) (by simp) _⟩
  exact (((WireSOwn.mk h3).lies (Nat.le_refl _)).sup _ (fun k k1 k2 => (Below.heap_setCell _ _ _ k (by simp; omega)).trans (Below.heap_setCell _ _ _ k (by simp; omega)))).wide (by omega) (by simp)
theorem nei_stop (r : Nat) : ∀ n, r ≤ n → stepW (neiF r) n = stepW (neiF r) r
  | 0, h => by obtain rfl : r = 0 := by omega
               rfl
  | n + 1, h => by
    by_cases e : r = n + 1
    · rw [e]
    · rw [stepW_succ, nei_stop r n (by omega), wireAt_no (by unfold neiF; rw [if_pos (by omega)]; omega), List.append_nil]
end Go.Proofs.Ytaedamnhobcdlaa
end
