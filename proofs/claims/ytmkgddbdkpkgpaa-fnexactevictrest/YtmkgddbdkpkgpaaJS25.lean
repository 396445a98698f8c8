/- BlkL, PutMk in one. Written by tools/join2.py. -/
import Derived.Test.YtmkgddbdkpkgpaaJS24
import Derived.Test.YtmkgddbdkpkgpaaJS21
section
namespace Go.Proofs.Ytmkgddbdkpkgpaa
open Go.RowKit
set_option linter.unusedVariables false
set_option linter.unusedSimpArgs false
set_option maxRecDepth 100000

set_option maxHeartbeats 2000000 in
theorem uHeldBlockS (k : Nat) (c : Value) (l : List BlkM) (w : World) (hk : k + mcBlockS l ≤ 4611686018427387904) (h : BlockSIn [c] (mkBlockS k l) w) :
    Calls Try.prog 35 #[c, .int .i64 k] w (HeldPost (k + mcBlockS l) w) := by
  obtain ⟨a, cap, es, rfl, _, g2, g3, r1, r2, r3⟩ := blockSIn_shape h
  rw [mkBlockS_length] at g2 g3 ⊢
  have R := Lib.hid (And.intro r1 (And.intro r2 r3))
  unfold maxLen at g2
  clear h r1 r2 r3 g3
  go_enter Try.func35, Try.ntmps35
  go_wp2_with fail
  go_loopg [1, 5] l.length (fun kk kv iv wr => ∃ j s : Nat, j ≤ l.length ∧ l.length - j = kk ∧ kv = .int .i64 s ∧ iv = .int .i64 j ∧ wr = w ∧ Hid (s = k + mcBlockS (l.take j)))
  case atStart => exact ⟨0, k, Nat.zero_le _, rfl, rfl, rfl, rfl, Lib.hid (by simp [mcBlockS, sumD])⟩
  case round =>
    obtain ⟨j, s, hj, hjk, rfl, rfl, rfl, HS⟩ := hrel
    by_cases hlt : j < l.length
    · have hjm : j < (mkBlockS k l).length := by rw [mkBlockS_length]; exact hlt
      obtain ⟨b, off, x, yc, rfl, q0, q1, q2, hy⟩ := R.out.1.blk R.out.2.2 R.out.2.1 hjm
      rw [mkBlockS_at k l j hlt, ← HS.out] at q0 q1 q2 hy
      simp only [marks_length] at q0 q1 q2 hy
      have S1 := Lib.hid (mcBlockS_snoc l j hlt)
      have S2 := Lib.hid (mcBlockS_part l (j + 1))
      have hsz : s + 2 + l[j].data.length ≤ 4611686018427387904 := by have := S1.out; have := S2.out; have := HS.out; omega
      obtain ⟨cc, hcc, hb⟩ := hy
      simp at hcc
      subst hcc
      obtain ⟨x', c', e, _, _, hr⟩ := byteSIn_shape hb
      simp [marks_length] at e
      obtain ⟨rfl, rfl⟩ := e
      have M := Lib.hid (lawsHeldByteS x l[j].data.length yc (s + 2) wr hsz hr)
      clear hb hr hjm
      obtain ⟨n, hn⟩ : ∃ n, l[j].data.length = n := ⟨_, rfl⟩
      rw [hn] at M S1 hsz q2
      clear hn
      have hs0 : ((s : Int) != (s : Int)) = false := by simp
      have hs1 : ((s : Int) + 1 != (s : Int) + 1) = false := by simp
      go_wp2_with fail
      refine M.out.mono ?_
      rintro e w2 ⟨rfl, rfl⟩
      have N : Hid (s + 2 + n = k + mcBlockS (l.take (j + 1))) := Lib.hid (by have := S1.out; have := HS.out; omega)
      go_wp2
      go_roundg (l.length - (j + 1))
      case measure => omega
      case rel => exact ⟨j + 1, s + 2 + n, by omega, rfl, by go_num, by go_num, rfl, N⟩
    · have hj' : j = l.length := by omega
      subst hj'
      have HE := HS.out
      rw [List.take_length] at HE
      subst HE
      clear HS
      go_wp2
      go_ret
      exact ⟨_, rfl, rfl, Below.refl _ _⟩
end Go.Proofs.Ytmkgddbdkpkgpaa
end

section
namespace Go.Proofs.Ytmkgddbdkpkgpaa
open Go.RowKit
set_option linter.unusedVariables false
set_option linter.unusedSimpArgs false
set_option maxRecDepth 100000

def mkPutAt (k : Nat) : PutM := ⟨(k : Int), ((k + 1 : Nat) : Int)⟩
def marksP (k n : Nat) : List PutM := (List.range n).map fun i => mkPutAt (k + i * 2)
theorem marksP_length (k n : Nat) : (marksP k n).length = n := by simp [marksP]
theorem marksP_succ (k n : Nat) : marksP k (n + 1) = marksP k n ++ [mkPutAt (k + n * 2)] := by simp [marksP, List.range_succ]
theorem marksP_at {k n i : Nat} (h : i < (marksP k n).length) : (marksP k n)[i] = mkPutAt (k + i * 2) := by simp [marksP]
def markP (k j : Nat) (l : List PutM) : List PutM := marksP k j ++ l.drop j
theorem markP_zero (k : Nat) (l : List PutM) : markP k 0 l = l := by simp [markP, marksP]
theorem markP_length (k j : Nat) (l : List PutM) (h : j ≤ l.length) : (markP k j l).length = l.length := by simp [markP, marksP_length]; omega
theorem markP_set (k j : Nat) (l : List PutM) (h : j < l.length) : (markP k j l).set j (mkPutAt (k + j * 2)) = markP k (j + 1) l := by
  unfold markP
  rw [List.set_append_right _ _ (by rw [marksP_length]; omega), marksP_length, Nat.sub_self, List.drop_eq_getElem_cons h, List.set_cons_zero, marksP_succ, List.append_assoc]
  rfl
theorem markP_done (k : Nat) (l : List PutM) : markP k l.length l = marksP k l.length := by simp [markP]
def mcPutS (l : List PutM) : Nat := l.length * 2
def mkPutS (k : Nat) (l : List PutM) : List PutM := marksP k l.length
set_option maxHeartbeats 1000000 in
theorem lawsMarkPutS (base g n cap k : Nat) (l : List PutM) (w : World) (hn : l.length = n) (hk : k + n * 2 ≤ 4611686018427387904) (hown : w.ownsRow base 43 2 (.slice (some ⟨g, 0, none⟩) n cap) n (flatG putL l)) :
    Calls Try.prog 40 #[.slice (some ⟨g, 0, none⟩) n cap, .int .i64 k] w fun e w' => e = .returned (.int .i64 ((k + n * 2 : Nat) : Int)) ∧ w'.ownsRow base 43 2 (.slice (some ⟨g, 0, none⟩) n cap) n (flatG putL (marksP k n)) ∧ w.grownBy w' (some g) := by
  subst hn
  have H0 := Lib.hid hown
  clear hown
  go_enter Try.func40, Try.ntmps40
  go_wp2
  go_loopw [1, 5] (fun kv i wr => ∃ j K : Nat, j ≤ l.length ∧ K ≤ 4611686018427387904 ∧ kv = .int .i64 (K : Int) ∧ i = .int .i64 j ∧ Hid (K = k + j * 2) ∧ Hid (wr.ownsRow base 43 2 (.slice (some ⟨g, 0, none⟩) l.length cap) l.length (flatG putL (markP k j l)) ∧ w.grownBy wr (some g))) (fun _ i _ => l.length - (intOf i).toNat)
  case atStart => exact ⟨0, k, Nat.zero_le _, by omega, rfl, rfl, Lib.hid (by omega), Lib.hid ⟨by rw [markP_zero]; exact H0.out, World.grownBy.refl _ _⟩⟩
  case round =>
    obtain ⟨j, K, hj, hK, rfl, rfl, HK, HO⟩ := hrel
    by_cases hlt : j < l.length
    · have hml := markP_length k j l hj
      have hown := HO.out.1
      have cc := own_elem putL_len hown (k := j) (by omega)
      obtain ⟨p, hp⟩ : ∃ p, (markP k j l)[j] = p := ⟨_, rfl⟩
      rw [hp] at cc
      obtain ⟨p0, p1⟩ := p
      have c0 : wr.cell? ⟨g, j * 2, none⟩ = some (.int .i64 p0) := cc 0 (by decide)
      have c1 : wr.cell? ⟨g, j * 2 + 1, none⟩ = some (.int .i64 p1) := cc 1 (by decide)
      have f0 := hown.frozenAt (j * 2)
      have f1 := hown.frozenAt (j * 2 + 1)
      have O1 := hown.stored (j * 2) (.int .i64 (K : Int))
      have O2 := O1.1.stored (j * 2 + 1) (.int .i64 ((K : Int) + 1))
      have F3 := flatG_set putL_len ⟨(K : Int), (K : Int) + 1⟩ (markP k j l) j (by omega)
      have EM : mkPutAt (k + j * 2) = ⟨(K : Int), (K : Int) + 1⟩ := by unfold mkPutAt; rw [← HK.out]; rfl
      have M := markP_set k j l hlt
      rw [EM] at M
      rw [M] at F3
      have R := Lib.hid (And.intro (show ((wr.setCell ⟨g, j * 2, none⟩ (.int .i64 (K : Int))).setCell ⟨g, j * 2 + 1, none⟩ (.int .i64 ((K : Int) + 1))).ownsRow base 43 2 (.slice (some ⟨g, 0, none⟩) l.length cap) l.length (flatG putL (markP k (j + 1) l)) by rw [← F3]; exact O2.1) (grown_trans (grown_trans HO.out.2 O1.2) O2.2))
      have hlen : j * 2 + 1 < l.length * 2 := by omega
      have hKb : K + 2 ≤ 4611686018427387904 + 2 := by omega
      clear O1 O2 hown cc hp HO F3 EM M
      have a2 : (K : Int) + 1 + 1 = (K : Int) + 2 := by omega
      go_wp2
      go_roundw
      case rel => exact ⟨j + 1, K + 2, by omega, by have := HK.out; omega, by go_num, by go_num, Lib.hid (by have := HK.out; omega), R⟩
      case measure => simp [intOf]; omega
    · have hj' : j = l.length := by omega
      subst hj'
      have h1 := HO.out.1
      rw [markP_done] at h1
      have e := HK.out
      have R := Lib.hid (And.intro h1 HO.out.2)
      have EK := Lib.hid e
      clear h1 HO e
      go_wp2
      go_ret
      exact ⟨ret_int (by rw [EK.out]), R.out.1, R.out.2⟩
set_option maxHeartbeats 400000 in
theorem lawsMarkPutSNil (c k : Nat) (w : World) (hk : k ≤ 4611686018427387904) : Calls Try.prog 40 #[.slice none 0 c, .int .i64 k] w fun e w' => e = .returned (.int .i64 k) ∧ w = w' := by
  go_enter Try.func40, Try.ntmps40
  go_wp2
  go_loopw [1, 5] (fun kv i wr => kv = .int .i64 k ∧ i = .int .i64 0 ∧ wr = w) (fun _ _ _ => 0)
  case atStart => exact ⟨rfl, rfl, rfl⟩
  case round =>
    obtain ⟨rfl, rfl, rfl⟩ := hrel
    go_wp2
    go_ret
    exact ⟨rfl, rfl⟩
theorem uMarkPutS (lo hi k : Nat) (c : Value) (l : List PutM) (w : World) (hk : k + mcPutS l ≤ 4611686018427387904) (h : PutSOwn lo hi [c] l w) :
    Calls Try.prog 40 #[c, .int .i64 k] w (MarkPost (PutSOwn lo hi [c] (mkPutS k l)) lo hi (k + mcPutS l) w) := by
  obtain ⟨a, cap, hc, ho, hh⟩ := h
  simp at hc
  subst hc
  unfold mcPutS at hk ⊢
  rcases ho.2 with ⟨hv, hn⟩ | ⟨g, cap', cur, hv, _⟩
  · simp at hv
    obtain ⟨rfl, h0, rfl⟩ := hv
    have e : l = [] := List.eq_nil_of_length_eq_zero (by omega)
    subst e
    refine (lawsMarkPutSNil _ k w (by omega)).mono ?_
    rintro e w' ⟨rfl, rfl⟩
    exact ⟨k, rfl, by simp, PutSOwn.nil _ _ _, Chg.refl _ _ _⟩
  · simp at hv
    obtain ⟨rfl, rfl⟩ := hv
    refine (lawsMarkPutS lo g l.length cap k l w rfl hk ho).mono ?_
    rintro e w' ⟨rfl, h1, h2⟩
    refine ⟨_, rfl, rfl, ⟨_, cap, by unfold mkPutS; rw [marksP_length], by unfold mkPutS; rw [marksP_length]; exact h1, by unfold mkPutS; rw [marksP_length]; exact hh⟩, Chg.of_grown h2 (fun b hb => ?_)⟩
    exact ⟨(ho.lt b hb).1, hh b hb⟩
set_option maxHeartbeats 1000000 in
theorem uHeldPutS (k : Nat) (c : Value) (l : List PutM) (w : World) (hk : k + mcPutS l ≤ 4611686018427387904) (h : PutSIn [c] (mkPutS k l) w) :
    Calls Try.prog 41 #[c, .int .i64 k] w (HeldPost (k + mcPutS l) w) := by
  obtain ⟨a, cap, rfl, _, hm, hr⟩ := putSIn_shape h
  unfold mkPutS at hm hr ⊢
  unfold mcPutS at hk ⊢
  rw [marksP_length] at hm ⊢
  generalize l.length = n at *
  have R := Lib.hid hr
  unfold maxLen at hm
  clear h hr
  go_enter Try.func41, Try.ntmps41
  go_wp2
  go_loopw [1, 5] (fun kv i wr => ∃ j K : Nat, j ≤ n ∧ K ≤ 4611686018427387904 ∧ kv = .int .i64 (K : Int) ∧ i = .int .i64 j ∧ wr = w ∧ Hid (K = k + j * 2)) (fun _ i _ => n - (intOf i).toNat)
  case atStart => exact ⟨0, k, Nat.zero_le _, by omega, rfl, rfl, rfl, Lib.hid (by omega)⟩
  case round =>
    obtain ⟨j, K, hj, hK, rfl, rfl, rfl, HK⟩ := hrel
    by_cases hlt : j < n
    · obtain ⟨b1, o1, rfl, q0, q1⟩ := R.out.put (k := j) (by rw [marksP_length]; exact hlt)
      rw [marksP_at, ← HK.out] at q0 q1
      replace q0 : wr.cell? ⟨b1, o1 + j * 2, none⟩ = some (.int .i64 (K : Int)) := q0
      replace q1 : wr.cell? ⟨b1, o1 + j * 2 + 1, none⟩ = some (.int .i64 ((K : Int) + 1)) := q1
      have a2 : (K : Int) + 1 + 1 = (K : Int) + 2 := by omega
      have hs0 : ((K : Int) != (K : Int)) = false := by simp
      have hs1 : ((K : Int) + 1 != (K : Int) + 1) = false := by simp
      go_wp2
      go_roundw
      case rel => exact ⟨j + 1, K + 2, by omega, by have := HK.out; omega, by go_num, by go_num, by first | rfl | trivial, Lib.hid (by have := HK.out; omega)⟩
      case measure => simp [intOf]; omega
    · have hj' : j = n := by omega
      subst hj'
      have EK := Lib.hid HK.out
      go_wp2
      go_ret
      exact ⟨K, rfl, by rw [EK.out], Below.refl _ _⟩
def mkBlock (k : Nat) (m : BlkM) : BlkM := ⟨m.id, m.leaf, marks k m.data.length⟩
set_option maxHeartbeats 1000000 in
theorem uMarkBlock (lo hi k : Nat) (c0 c1 c2 : Value) (m : BlkM) (w : World) (hk : k + szBlock m ≤ 4611686018427387904) (hh : hi ≤ w.heap.size) (h : BlockOwn lo hi [c0, c1, c2] m w) :
    Calls Try.prog 34 #[.agg #[c0, c1, c2], .int .i64 k] w (MarkPost (BlockOwn lo hi [c0, c1, c2] (mkBlock k m)) lo hi (k + szBlock m) w) := by
  have hs := h
  obtain ⟨F, ⟨c, hc, hb⟩, hF⟩ := hs
  obtain ⟨x, xc, hx, ho, hFb⟩ := hb
  simp at hc hx
  obtain ⟨rfl, rfl, rfl⟩ := hc
  subst hx
  have B := Lib.hid (below_box (Below.refl w.heap.size w) (.cells #[.int .i64 m.id, .int .i64 m.leaf, .slice x m.data.length xc] 26))
  have M := Lib.hid (uMarkByteS lo hi k (.slice x m.data.length xc) m.data _ hk (((ByteSOwn.lies (⟨x, xc, rfl, ho, fun b hb => hF b ((hFb b).2 hb)⟩ : ByteSOwn lo hi [.slice x m.data.length xc] m.data w) hh).below B.out).now))
  have FIN := Lib.hid (show ∀ w', ByteSOwn lo hi [.slice x m.data.length xc] (mkByteS k m.data) w' → BlockOwn lo hi [.int .i64 m.id, .int .i64 m.leaf, .slice x m.data.length xc] (mkBlock k m) w' from fun w' hw => by
    obtain ⟨F', f1, f2⟩ := hw.toO
    exact ⟨F', ⟨_, rfl, f1⟩, f2⟩)
  unfold szBlock
  clear h ho hF hFb hk hh
  obtain ⟨n, hn⟩ : ∃ n, m.data.length = n := ⟨_, rfl⟩
  obtain ⟨d, hd⟩ : ∃ d, m.data = d := ⟨_, rfl⟩
  have hdl : szByteS d = n := by rw [← hd]; exact hn
  rw [hn, hd] at M FIN
  rw [hdl] at M
  rw [hn] at B ⊢
  clear hd hdl
  go_enter Try.func34, Try.ntmps34
  go_wp2_with fail
  refine M.out.mono ?_
  rintro e w1 ⟨k', rfl, rfl, h1, h2⟩
  have Z := Lib.hid (And.intro (FIN.out w1 h1) ((Chg.of_below B.out).trans h2))
  clear h1 h2 M FIN
  go_wp2
  go_ret
  exact ⟨_, rfl, rfl, Z.out.1, Z.out.2⟩
set_option maxHeartbeats 1000000 in
theorem uHeldBlock (k : Nat) (c0 c1 c2 : Value) (m : BlkM) (w : World) (hk : k + szBlock m ≤ 4611686018427387904) (h : BlockIn [c0, c1, c2] (mkBlock k m) w) :
    Calls Try.prog 37 #[.agg #[c0, c1, c2], .int .i64 k] w (HeldPost (k + szBlock m) w) := by
  obtain ⟨x, xc, rfl, rfl, rfl, _, _, hr⟩ := blockIn_cells h
  have B := Lib.hid (below_box (Below.refl w.heap.size w) (.cells #[.int .i64 (mkBlock k m).id, .int .i64 (mkBlock k m).leaf, .slice x (mkBlock k m).data.length xc] 26))
  have hn : (mkBlock k m).data.length = m.data.length := by simp [mkBlock, marks_length]
  have M := Lib.hid (lawsHeldByteS x m.data.length xc k _ hk (hr.below B.out))
  rw [hn] at B M ⊢
  generalize (mkBlock k m).id = z0 at *
  generalize (mkBlock k m).leaf = z1 at *
  unfold szBlock
  generalize m.data.length = n at *
  clear h hr hn hk
  go_enter Try.func37, Try.ntmps37
  go_wp2_with fail
  refine M.out.mono ?_
  rintro e w1 ⟨rfl, rfl⟩
  go_wp2
  go_ret
  exact ⟨_, rfl, rfl, B.out⟩
end Go.Proofs.Ytmkgddbdkpkgpaa
end
