/- Two drawn rows of bytes and a mask: what 'DrawBytesSwap' leaves. -/
import Derived.Test.YtigigmffigjpeaaCurM
import Derived.Deep.AppendLies
import Derived.OwnWalk
import Derived.Deep.DeepMust
namespace Go.Proofs.Ytigigmffigjpeaa
open Go.RowKit
set_option linter.unusedVariables false

/-- 'append(s, u)' onto a row that the call owns: the row lies where it lay, or in a new block. -/
theorem wp_app_one {P : Program} {w0 : World} {ops : Array Oper} {rest : List Oper} {o : Oper} {a : Act} {Q : Exit → Act → World → Prop} (hgd : o.guard = none) (s x : Operand) (t : TypeId)
    (ho : o.op = Op.call { callee := Callee.builtin Builtin.append, args := #[s, x], argTypes := #[t, t] }) (e : TypeId) (z : Value) (bytes : Nat) (ht : P.underlying t = some (.slice e))
    (hinfo : (P.info? e).map (fun i => (i.zero, i.size, i.bytes)) = some (some z, 1, bytes)) (hzs : z.cells.size = 1) (base n : Nat) (v : Value) (xs : List Value) (hs : a.eval s = v) (u : Value) (hown : w0.ownsRow base e 1 v n xs)
    (hx : a.eval x = .slice (some ⟨w0.heap.size, 0, none⟩) 1 1) (h1 : u.oneCell' = true) (h63 : n + 1 ≤ maxLen) (hbytes : (n + 1) * bytes ≤ 140737488355328) (hbase : base ≤ w0.heap.size)
    (h : ∀ g cap w', w'.ownsRow base e 1 (.slice (some ⟨g, 0, none⟩) (n + 1) cap) (n + 1) (xs ++ [u]) → (w0.alloc (.cells #[u] e)).grownBy w' v.ownBlock → (v.ownBlock = some g ∨ g = w0.heap.size + 1) → wpList P ops Q rest (a.put o.dst (.slice (some ⟨g, 0, none⟩) (n + 1) cap)) w') :
    wpList P ops Q (o :: rest) a (w0.alloc (.cells #[u] e)) := by
  obtain ⟨i0, hi, hz0, hz1, hz2⟩ := info_parts hinfo
  refine wpList_append_lies _ hgd s x t ho base e i0 z 1 bytes ht hi hz0 hz1 hz2 hzs (by omega) v n xs hs (hown.alloc _) _ 1 1 [u] hx rfl (row_cells (row_one w0 u e)) (by simpa using h1) (by omega) h63 hbytes (by simp; omega) (w0.heap.size + 1) (by simp) ?_
  intro g cap w' h2 h3 h4 _
  exact h g cap w' h2 h3 h4
/-- While 'DrawBytesSwap' runs: two rows of the call's own, apart; the cursor lies below them. -/
structure DS (w W : World) (a : Option Addr) (l : List UInt8) (cap m : Nat) (va : Value) (na : Nat) (la : List UInt8) (vb : Value) (nb : Nat) (lb : List UInt8) : Prop where
  oa : W.ownsRow (w.heap.size + 1) 5 1 va na (la.map bval)
  ob : W.ownsRow (w.heap.size + 1) 5 1 vb nb (lb.map bval)
  ne : ∀ g, va.ownBlock = some g → vb.ownBlock ≠ some g
  I : CurI W w.heap.size a l cap m
  B : Below w.heap.size w W
theorem DS.symm {w W : World} {a : Option Addr} {l : List UInt8} {cap m : Nat} {va : Value} {na : Nat} {la : List UInt8} {vb : Value} {nb : Nat} {lb : List UInt8} (s : DS w W a l cap m va na la vb nb lb) : DS w W a l cap m vb nb lb va na la :=
  ⟨s.ob, s.oa, fun g h k => s.ne g k h, s.I, s.B⟩
theorem DS.pick {w W W' : World} {a : Option Addr} {l : List UInt8} {cap m m' : Nat} {va : Value} {na : Nat} {la : List UInt8} {vb : Value} {nb : Nat} {lb : List UInt8} (s : DS w W a l cap m va na la vb nb lb) (hI : CurI W' w.heap.size a l cap m') (hg : W.grownBy W' (some w.heap.size)) : DS w W' a l cap m' va na la vb nb lb :=
  ⟨s.oa.kept hg (own_apart s.oa (by omega)), s.ob.kept hg (own_apart s.ob (by omega)), s.ne, hI, below_write s.B hg (Nat.le_refl _)⟩
theorem DS.app {w W W' : World} {a : Option Addr} {l : List UInt8} {cap m : Nat} {va : Value} {na : Nat} {la : List UInt8} {vb : Value} {nb : Nat} {lb : List UInt8} {g c : Nat} {u : UInt8} (s : DS w W a l cap m va na la vb nb lb)
    (ho : W'.ownsRow (w.heap.size + 1) 5 1 (.slice (some ⟨g, 0, none⟩) (na + 1) c) (na + 1) (la.map bval ++ [bval u])) (hg : (W.alloc (.cells #[bval u] 5)).grownBy W' va.ownBlock) (hl : va.ownBlock = some g ∨ g = W.heap.size + 1) :
    DS w W' a l cap m (.slice (some ⟨g, 0, none⟩) (na + 1) c) (na + 1) (la ++ [u]) vb nb lb := by
  have hs := s.I.lt
  have BB : Below (w.heap.size + 1) W W' := ((Below.refl (w.heap.size + 1) W).alloc (by omega) (.cells #[bval u] 5)).grown hg (by simp; omega) (fun k hk => (s.oa.lt k hk).1)
  refine ⟨by rw [List.map_append]; exact ho, (s.ob.alloc _).kept hg ?_, fun k hk => ?_, s.I.low BB (by omega), s.B.trans (BB.mono (by omega))⟩
  · cases hb : vb.ownBlock with
    | none => exact .inl rfl
    | some k => exact .inr fun e => s.ne k e.symm hb
  · simp [Value.ownBlock] at hk
    subst hk
    rcases hl with h | h
    · exact s.ne _ h
    · intro e
      have := (s.ob.lt _ e).2
      omega
theorem own_in {w : World} {base n : Nat} {v : Value} {l : List UInt8} (h : w.ownsRow base 5 1 v n (l.map bval)) : ByteSIn [v] l w := by
  obtain ⟨a, cap, rfl⟩ := own_shape h
  exact (ByteSOwn.mk h).read
/-- What is drawn: a mask, two rows of at most 20 bytes. -/
def DrawnSwap (w : World) (e : Ending) (w' : World) : Prop :=
  ∃ (m : Nat) (c d : Value) (l1 l2 : List UInt8), e = .returned (.tuple #[.int .u64 m, c, d]) ∧ m < 18446744073709551616 ∧ ByteSIn [c] l1 w' ∧ ByteSIn [d] l2 w' ∧ l1.length ≤ 20 ∧ l2.length ≤ 20 ∧ Below w.heap.size w w'
set_option maxHeartbeats 4000000 in
theorem drawSwap (a : Option Addr) (l : List UInt8) (cap : Nat) (w : World) (hl : l.length ≤ 1048576) (r : Row w a (l.map bval)) :
    Calls Try.prog 21 #[.slice a l.length cap] w (DrawnSwap w) := by
  have R := Lib.hid r
  clear r
  go_enter Try.func21, Try.ntmps21
  go_wp2_with fail
  refine (curOpen a l cap _ hl R.out).mono ?_
  rintro e w1 ⟨rfl, hI1, hb1⟩
  have I1 := Lib.hid hI1
  have B1 := Lib.hid hb1
  clear hI1 hb1
  go_wp2_with fail
  refine (curBits w.heap.size a l cap 0 _ hl (by omega) I1.out).mono ?_
  rintro e w2 ⟨x, rfl, hx, hI2, hg2⟩
  have B2 := below_write B1.out hg2 (Nat.le_refl _)
  have hs2 := hI2.lt
  have S : Hid (DS w ((w2.alloc (.cells #[] 5)).alloc (.cells #[] 5)) a l cap 9 (.slice (some ⟨w2.heap.size, 0, none⟩) 0 0) 0 [] (.slice (some ⟨w2.heap.size + 1, 0, none⟩) 0 0) 0 []) := Lib.hid
    ⟨(World.ownsRow_made (e := 5) (size := 1) w2 #[] 0 (by omega) (by unfold maxLen; omega) rfl).alloc _, by
      have := World.ownsRow_made (base := w.heap.size + 1) (e := 5) (size := 1) (w2.alloc (.cells #[] 5)) #[] 0 (by simp; omega) (by unfold maxLen; omega) rfl
      simpa using this,
      fun g h k => by simp [Value.ownBlock] at h k; omega, (hI2.below ((Below.refl _ _).alloc (Nat.le_refl _) _)).below ((Below.refl _ _).alloc (Nat.le_refl _) _), below_box (below_box B2 _) _⟩
  clear hI2 hg2 I1 B1 R B2
  go_wp2_with fail
  refine (curPick w.heap.size a l cap 9 20 _ hl (by omega) (by omega) S.out.I).mono ?_
  rintro e w3 ⟨n, rfl, hn, hI3, hg3⟩
  have hn20 : n ≤ 20 := by omega
  replace S := Lib.hid (S.out.pick hI3 hg3)
  clear hI3 hg3 hn
  go_wp2
  go_loopw [7, 8, 9] (fun va vb k wr => ∃ (q : Nat) (la lb : List UInt8) (xa xb : Option Addr) (ca cb : Nat), q ≤ n ∧ k = .int .i64 ((n : Int) - (q : Int)) ∧ va = .slice xa q ca ∧ vb = .slice xb q cb ∧ DS w wr a l cap (10 + 2 * q) va q la vb q lb) (fun _ _ k _ => (intOf k).toNat)
  case atStart => exact ⟨0, [], [], _, _, _, _, Nat.zero_le _, by simp, rfl, rfl, S.out⟩
  case round =>
    clear S
    obtain ⟨q, la, lb, xa, xb, ca, cb, hq, rfl, rfl, rfl, hS⟩ := hrel
    have S := Lib.hid hS
    clear hS
    by_cases hlt : q < n
    · go_wp2_with fail
      refine (curPick w.heap.size a l cap _ 256 _ hl (by omega) (by omega) S.out.I).mono ?_
      rintro e w4 ⟨r4, rfl, hr4, hI4, hg4⟩
      have hr4' : r4 < 256 := by omega
      have S4 := S.out.pick hI4 hg4
      clear hI4 hg4 S
      have HU : Hid (Value.int .u8 (r4 : Int) = bval (UInt8.ofNat r4)) := Lib.hid (by unfold bval; rw [UInt8.toNat_ofNat', Nat.mod_eq_of_lt (by omega)])
      have O4 := S4.oa
      have hs4 := S4.I.lt
      go_wp2_with (at_builtin; go_must (rw [HU.out]; refine wp_app_one (w0 := w4) rfl _ _ 22 rfl 5 (.int .u8 0) 1 Try.underlying22 Try.info5 rfl (w.heap.size + 1) q _ _ (by rfl) (bval (UInt8.ofNat r4)) O4 (by rfl) rfl (by unfold maxLen; omega) (by omega) (by omega) ?_); intro g5 c5 w5 ho5 hg5 hl5)
      have S5 := Lib.hid (S4.app ho5 hg5 hl5)
      clear S4 O4 ho5 hg5 hl5 HU hs4
      go_wp2_with fail
      refine (curPick w.heap.size a l cap _ 256 _ hl (by omega) (by omega) S5.out.I).mono ?_
      rintro e w6 ⟨r6, rfl, hr6, hI6, hg6⟩
      have hr6' : r6 < 256 := by omega
      have S6 := S5.out.pick hI6 hg6
      clear hI6 hg6 S5
      have HU : Hid (Value.int .u8 (r6 : Int) = bval (UInt8.ofNat r6)) := Lib.hid (by unfold bval; rw [UInt8.toNat_ofNat', Nat.mod_eq_of_lt (by omega)])
      have O6 := S6.ob
      have hs6 := S6.I.lt
      go_wp2_with (at_builtin; go_must (rw [HU.out]; refine wp_app_one (w0 := w6) rfl _ _ 22 rfl 5 (.int .u8 0) 1 Try.underlying22 Try.info5 rfl (w.heap.size + 1) q _ _ (by rfl) (bval (UInt8.ofNat r6)) O6 (by rfl) rfl (by unfold maxLen; omega) (by omega) (by omega) ?_); intro g7 c7 w7 ho7 hg7 hl7)
      have S7 := Lib.hid (S6.symm.app ho7 hg7 hl7).symm
      clear S6 O6 ho7 hg7 hl7 HU hs6
      go_wp2
      go_roundw
      case rel => exact ⟨q + 1, _, _, _, _, _, _, by omega, by go_num, rfl, rfl, S7.out⟩
      case measure => simp [intOf]; omega
    · have hq' : q = n := by omega
      subst hq'
      go_wp2_with fail
      refine (curOnce w.heap.size a l cap _ 9 _ hl (by omega) (by omega) S.out.I).mono ?_
      rintro e w4 ⟨z, rfl, hI4, hg4⟩
      replace S := Lib.hid (S.out.pick hI4 hg4)
      clear hI4 hg4
      have hla : la.length = q := by simpa using S.out.oa.1
      have hlb : lb.length = q := by simpa using S.out.ob.1
      cases z
      · go_wp2
        go_ret3
        exact ⟨x, _, _, la, lb, rfl, hx, own_in S.out.oa, own_in S.out.ob, by omega, by omega, S.out.B⟩
      · go_wp2_with fail
        refine (curBytes w.heap.size a l cap _ 9 _ hl (by omega) (by omega) S.out.I).mono ?_
        rintro e w5 ⟨c, bs, rfl, ho5, hbs, hI5, hg5⟩
        obtain ⟨x5, n5, k5, rfl⟩ := ho5.shape
        have S5 := Lib.hid (S.out.pick hI5 hg5)
        have O5 := Lib.hid ho5
        clear hI5 hg5 S ho5
        go_wp2
        go_ret3
        exact ⟨x, _, _, la, bs, rfl, hx, own_in S5.out.oa, O5.out.read, by omega, by omega, S5.out.B⟩
end Go.Proofs.Ytigigmffigjpeaa
