/- The laws' own helpers over blocks and nodes: held; a node marked. -/
import Derived.Test.YtmndkpicbmffnaaBlkK
namespace Go.Proofs.Ytmndkpicbmffnaa
open Go.RowKit
set_option linter.unusedVariables false
set_option linter.unusedSimpArgs false
set_option maxRecDepth 100000

set_option maxHeartbeats 2000000 in
theorem uHeldBlockS (k : Nat) (c : Value) (l : List BlkM) (w : World) (hk : k + mcBlockS l ≤ 4611686018427387904) (h : BlockSIn [c] (mkBlockS k l) w) :
    Calls Try.prog 58 #[c, .int .i64 k] w (HeldPost (k + mcBlockS l) w) := by
  obtain ⟨a, cap, es, rfl, _, g2, g3, r1, r2, r3⟩ := blockSIn_shape h
  rw [mkBlockS_length] at g2 g3 ⊢
  have R := Lib.hid (And.intro r1 (And.intro r2 r3))
  unfold maxLen at g2
  clear h r1 r2 r3 g3
  go_enter Try.func58, Try.ntmps58
  go_wp2_with fail
  go_loopg [1, 5] l.length (fun kk kv iv wr => ∃ j s : Nat, j ≤ l.length ∧ l.length - j = kk ∧ kv = .int .i64 s ∧ iv = .int .i64 j ∧ wr = w ∧ Hid (s = k + mcBlockS (l.take j)))
  case atStart => exact ⟨0, k, Nat.zero_le _, rfl, rfl, rfl, rfl, Lib.hid (by simp [mcBlockS, sumD])⟩
  case round =>
    obtain ⟨j, s, hj, hjk, rfl, rfl, rfl, HS⟩ := hrel
    by_cases hlt : j < l.length
    · have hjm : j < (mkBlockS k l).length := by rw [mkBlockS_length]; exact hlt
      obtain ⟨b, off, x, yc, rfl, q0, q1, q2, hy⟩ := R.out.1.blk R.out.2.2 R.out.2.1 hjm
      rw [mkBlockS_at k l j hlt, ← HS.out] at q0 q1 q2 hy
      simp only [marks_length] at q0 q1 q2 hy
      have S1 := Lib.hid (mcBlockS_snoc l j hlt)
      have S2 := Lib.hid (mcBlockS_part l (j + 1))
      have hsz : s + 2 + l[j].data.length ≤ 4611686018427387904 := by have := S1.out; have := S2.out; have := HS.out; omega
      obtain ⟨cc, hcc, hb⟩ := hy
      simp at hcc
      subst hcc
      obtain ⟨x', c', e, _, _, hr⟩ := byteSIn_shape hb
      simp [marks_length] at e
      obtain ⟨rfl, rfl⟩ := e
      have M := Lib.hid (lawsHeldByteS x l[j].data.length yc (s + 2) wr hsz hr)
      clear hb hr hjm
      obtain ⟨n, hn⟩ : ∃ n, l[j].data.length = n := ⟨_, rfl⟩
      rw [hn] at M S1 hsz q2
      clear hn
      have hs0 : ((s : Int) != (s : Int)) = false := by simp
      have hs1 : ((s : Int) + 1 != (s : Int) + 1) = false := by simp
      go_wp2_with fail
      refine M.out.mono ?_
      rintro e w2 ⟨rfl, rfl⟩
      have N : Hid (s + 2 + n = k + mcBlockS (l.take (j + 1))) := Lib.hid (by have := S1.out; have := HS.out; omega)
      go_wp2
      go_roundg (l.length - (j + 1))
      case measure => omega
      case rel => exact ⟨j + 1, s + 2 + n, by omega, rfl, by go_num, by go_num, rfl, N⟩
    · have hj' : j = l.length := by omega
      subst hj'
      have HE := HS.out
      rw [List.take_length] at HE
      subst HE
      clear HS
      go_wp2
      go_ret
      exact ⟨_, rfl, rfl, Below.refl _ _⟩
theorem uMarkNode (lo hi k : Nat) (c : Value) (l : NodeM) (w : World) (hk : k + mcNode l ≤ 4611686018427387904) (hh : hi ≤ w.heap.size) (h : NodeOwn lo hi [c] l w) :
    Calls Try.prog 35 #[.agg #[c], .int .i64 k] w (MarkPost (NodeOwn lo hi [c] (mkNode k l)) lo hi (k + mcNode l) w) := by
  have hb0 := below_box (Below.refl w.heap.size w) (.cells #[c] 26)
  have M := Lib.hid (uMarkBlockS lo hi k c l _ hk ((BlockSOwn.lies h hh).below hb0).now)
  obtain ⟨a, n, cap, rfl⟩ := h.shape
  have B := Lib.hid hb0
  unfold mcNode
  have hk2 : k + mcBlockS l ≤ 4611686018427387904 := hk
  clear h hb0
  go_enter Try.func35, Try.ntmps35
  go_wp2_with fail
  refine M.out.mono ?_
  rintro e w1 ⟨k', rfl, rfl, h1, h2⟩
  have Z := Lib.hid (And.intro h1 ((Chg.of_below B.out).trans h2))
  clear h1 h2 M
  go_wp2
  go_ret
  exact ⟨_, rfl, rfl, Z.out.1, Z.out.2⟩
theorem uHeldNode (k : Nat) (c : Value) (l : NodeM) (w : World) (hk : k + mcNode l ≤ 4611686018427387904) (h : NodeIn [c] (mkNode k l) w) :
    Calls Try.prog 40 #[.agg #[c], .int .i64 k] w (HeldPost (k + mcNode l) w) := by
  have hb0 := below_box (Below.refl w.heap.size w) (.cells #[c] 26)
  have M := Lib.hid (uHeldBlockS k c l _ hk (blockS_rdg.below h hb0))
  obtain ⟨a, cap, es, rfl, _⟩ := blockSIn_shape h
  have B := Lib.hid hb0
  unfold mcNode
  have hk2 : k + mcBlockS l ≤ 4611686018427387904 := hk
  clear h hb0
  go_enter Try.func40, Try.ntmps40
  go_wp2_with fail
  refine M.out.mono ?_
  rintro e w1 ⟨k', rfl, rfl, hb⟩
  have Z := Lib.hid (below_seq B.out hb)
  clear hb M
  go_wp2
  go_ret
  exact ⟨_, rfl, rfl, Z.out⟩
end Go.Proofs.Ytmndkpicbmffnaa
