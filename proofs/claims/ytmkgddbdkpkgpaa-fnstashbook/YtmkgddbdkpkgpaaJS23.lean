/- EvQ in one. Written by tools/join2.py. -/
import Derived.Test.YtmkgddbdkpkgpaaJS22
import Derived.Test.YtmkgddbdkpkgpaaJS16
import Derived.Test.YtmkgddbdkpkgpaaJS19
import Derived.Test.YtmkgddbdkpkgpaaJS17
section
namespace Go.Proofs.Ytmkgddbdkpkgpaa
open Go.RowKit
set_option linter.unusedVariables false
set_option linter.unusedSimpArgs false
set_option maxRecDepth 100000

/-- A row of blocks stays where a row of other elements grows. -/
theorem blockS_other {lo hi base s n : Nat} {c v : Value} {t : TypeId} {xs : List Value} {l : List BlkM} {w w' : World} (h : BlockSOwn lo hi [c] l w) (ho : w.ownsRow base t s v n xs) (h1 : 26 ≠ t) (h2 : 5 ≠ t) (hg : w.grownBy w' v.ownBlock) : BlockSOwn lo hi [c] l w' := by
  obtain ⟨F, ⟨a, cap, es, G, hc, hm, hn, hF⟩, hhi⟩ := h
  have key : ∀ b, rowF (.slice a es.length cap) es.length G b → v.ownBlock ≠ some b := by
    rintro b (hb | ⟨i, hi, hb⟩)
    · rcases hn.row.2 with ⟨hv, _⟩ | ⟨g, cap', cur, hv, _, hh, _⟩
      · rw [hv] at hb; simp [Value.ownBlock] at hb
      · rw [hv] at hb
        simp [Value.ownBlock] at hb
        subst hb
        exact own_other ho hh h1
    · obtain ⟨c2, _, x, cp, hc2, hr, hFb⟩ := hn.own i hi
      have hbb := (hFb b).1 hb
      rcases hr.2 with ⟨hv, _⟩ | ⟨g, cap', cur, hv, _, hh, _⟩
      · rw [hv] at hbb; simp [Value.ownBlock] at hbb
      · rw [hv] at hbb
        simp [Value.ownBlock] at hbb
        subst hbb
        exact own_other ho hh h2
  refine ⟨F, ⟨a, cap, es, G, hc, hm, hn.sup block_ong (fun b hb => hg.block b (hn.at_ block_ong b hb).2 (fun e => key b hb e.symm)), hF⟩, hhi⟩
theorem BlockSOwn.below {lo hi : Nat} {c : Value} {l : List BlkM} {w w' : World} (h : BlockSOwn lo hi [c] l w) (hb : Below w.heap.size w w') : BlockSOwn lo hi [c] l w' := by
  obtain ⟨F, h1, h2⟩ := h
  exact ⟨F, blockS_ong.sup h1 (fun b hF => hb.block b (blockS_ong.at_ h1 b hF).2), h2⟩
theorem BlockSOwn.top {lo hi : Nat} {c : Value} {l : List BlkM} {w : World} (h : BlockSOwn lo hi [c] l w) : BlockSOwn lo w.heap.size [c] l w := by
  obtain ⟨F, h1, h2⟩ := h
  exact ⟨F, h1, fun b hF => (blockS_ong.at_ h1 b hF).2⟩
theorem PutSOwn.below {lo hi : Nat} {c : Value} {l : List PutM} {w w' : World} (h : PutSOwn lo hi [c] l w) (hb : Below w.heap.size w w') : PutSOwn lo hi [c] l w' := by
  obtain ⟨a, cap, hc, ho, hh⟩ := h
  exact ⟨a, cap, hc, own_below ho hb, hh⟩
/-- A state of the plan in memory. -/
def EvW (w : World) (ao : Option Addr) (co : Nat) (cr : Value) (s : EvS) (wr : World) : Prop :=
  wr.ownsRow w.heap.size 43 2 (.slice ao s.out.length co) s.out.length (flatG putL s.out) ∧ BlockSOwn w.heap.size wr.heap.size [cr] s.rest wr ∧ Below w.heap.size w wr
theorem EvW.below {w wr w' : World} {ao : Option Addr} {co : Nat} {cr : Value} {s : EvS} (h : EvW w ao co cr s wr) (hb : Below wr.heap.size wr w') : EvW w ao co cr s w' :=
  ⟨own_below h.1 hb, (h.2.1.below hb).top, below_seq h.2.2 hb⟩
theorem EvW.put {w wr w3 w5 : World} {ao : Option Addr} {co : Nat} {cr v : Value} {s : EvS} {lev : Int} {m : BlkM} (h : EvW w ao co cr s wr) (hv : w3 = wr.alloc (.cells #[.int .i64 lev, .int .i64 m.id] 43)) (ho : w5.ownsRow w.heap.size 43 2 v (s.out.length + 1) (flatG putL s.out ++ [.int .i64 lev, .int .i64 m.id])) (hg : w3.grownBy w5 (Value.slice ao s.out.length co).ownBlock) :
    ∃ a5 c5, v = .slice a5 (s.out.length + 1) c5 ∧ w5.ownsRow w.heap.size 43 2 (.slice a5 (s.out.length + 1) c5) (s.out.length + 1) (flatG putL (s.out ++ [⟨lev, m.id⟩])) ∧ BlockSOwn w.heap.size w5.heap.size [cr] s.rest w5 ∧ Below w.heap.size w w5 := by
  obtain ⟨a5, c5, rfl⟩ := own_shape ho
  subst hv
  have bx := below_box (Below.refl wr.heap.size wr) (.cells #[.int .i64 lev, .int .i64 m.id] 43)
  have o3 := own_below h.1 bx
  have b3 := h.2.1.below bx
  refine ⟨a5, c5, rfl, by rw [flatG_app]; simpa [flatG, putL] using ho, (blockS_other b3 o3 (by decide) (by decide) hg).top, (below_seq h.2.2 bx).grown hg (by have := h.2.2.size; simp; omega) (fun b hb => (h.1.lt b hb).1)⟩
set_option maxHeartbeats 400000 in
theorem uSpecEvictPlan (c : Value) (l : List BlkM) (z v leaf : Int) (w : World) (h : BlockSIn [c] l w) (b1 : -9223372036854775808 ≤ z ∧ z ≤ 9223372036854775807) (b2 : -9223372036854775808 ≤ v ∧ v ≤ 9223372036854775807) (b3 : -9223372036854775808 ≤ leaf ∧ leaf ≤ 9223372036854775807) (hs : szBlockS l ≤ 1048576) : Calls Try.prog 20 #[c, .int .i64 z, .int .i64 v, .int .i64 leaf] w (PutSRet (planZ l z v leaf) w) := by
  have OK := Lib.hid (uSpecStashOk c l z v w h)
  have LF := Lib.hid (fun w => specLeaf z leaf w)
  have HH := Lib.hid (fun w' (hb : Below w.heap.size w w') => (blockS_rdg.below h hb : BlockSIn [c] l w'))
  obtain ⟨aa, capa, es, rfl, _, hmax, _⟩ := blockSIn_shape h
  have BB := Lib.hid (And.intro b1 b3)
  cases hok : stashOkB l z v
  · have E := Lib.hid (planZ_no (leaf := leaf) (show planB l z v leaf = false by unfold planB; rw [hok]; rfl))
    rw [hok] at OK
    clear hok h
    go_enter Try.func20, Try.ntmps20
    go_wp2_with fail
    refine OK.out.mono ?_
    rintro e w1 ⟨rfl, hb⟩
    have B := Lib.hid hb
    clear hb OK
    go_wp2
    go_ret
    exact ⟨_, rfl, by rw [E.out]; exact PutSOwn.nil _ _ _, B.out⟩
  cases hlf : leafB z leaf
  · have E := Lib.hid (planZ_no (leaf := leaf) (show planB l z v leaf = false by unfold planB; rw [hlf, Bool.and_false]))
    rw [hok] at OK
    rw [hlf] at LF
    clear hok hlf h
    go_enter Try.func20, Try.ntmps20
    go_wp2_with fail
    refine OK.out.mono ?_
    rintro e w1 ⟨rfl, hb⟩
    have B := Lib.hid hb
    clear hb OK
    go_wp2_with fail
    refine (LF.out _).mono ?_
    rintro e w1 ⟨rfl, rfl⟩
    go_wp2
    go_ret
    exact ⟨_, rfl, by rw [E.out]; exact PutSOwn.nil _ _ _, B.out⟩
  obtain ⟨g, a, rfl, rfl, hg, ha⟩ := leafB_ok hlf
  have E := Lib.hid (show planZ l g v a = (evAll (evF g a) g l (g + 1)).out by unfold planZ planB; rw [hok, hlf, Int.toNat_natCast]; rfl)
  obtain ⟨s1, s2, s3, s4⟩ := stashOkB_iff.1 hok
  have ML := Lib.hid (show ∀ k (hk : k < l.length), -9223372036854775808 ≤ l[k].leaf ∧ l[k].leaf ≤ 9223372036854775807 from fun k hk => by
    have h1 := s3 l[k] (List.getElem_mem hk)
    unfold blockOkB at h1
    simp only [Bool.and_eq_true] at h1
    obtain ⟨g', a', _, e2, hg', ha'⟩ := leafB_ok h1.2.2.2.1
    have := pow_64 hg'
    omega)
  have MT := Lib.hid (show ∀ k (hk : k < l.length) w', Calls Try.prog 22 #[.int .i64 g, .int .i64 l[k].leaf, .int .i64 a] w' fun e w'' => e = .returned (.int .i64 (evF g a l[k])) ∧ Below w'.heap.size w' w'' from fun k hk w' => uSpecMeet g l[k].leaf a w' b1 (ML.out k hk) b3)
  rw [hok] at OK
  rw [hlf] at LF
  clear s2 s3 s4 ML hlf hok
  generalize evF g a = f at *
  have CP := Lib.hid (fun w' hb => uSpecCopy _ l w' hs (HH.out w' hb))
  have IV := Lib.hid (fun j => evAll_inv f g l j)
  have HS := Lib.hid hs
  have CE := Lib.hid (fun w' (hb : Below w.heap.size w w') k (hk : k < l.length) => (show ∃ b off x cap, aa = some ⟨b, off, none⟩ ∧ w'.cell? ⟨b, off + k * 3, none⟩ = some (.int .i64 l[k].id) ∧ w'.cell? ⟨b, off + k * 3 + 1, none⟩ = some (.int .i64 l[k].leaf) ∧ w'.cell? ⟨b, off + k * 3 + 2, none⟩ = some (.slice x l[k].data.length cap) from by
    obtain ⟨a', cap', es', hc, _, _, _, r1, r2, r3⟩ := blockSIn_shape (HH.out w' hb)
    simp at hc
    obtain ⟨rfl, rfl⟩ := hc
    obtain ⟨b, off, x, cap, h1, h2, h3, h4, _⟩ := Row.blk r1 r3 r2 hk
    exact ⟨b, off, x, cap, h1, h2, h3, h4⟩))
  clear h hs b1 b2 b3
  unfold maxLen at hmax
  go_enter Try.func20, Try.ntmps20
  go_wp2_with fail
  refine OK.out.mono ?_
  rintro e w1 ⟨rfl, hb⟩
  have B := Lib.hid hb
  clear hb OK
  go_wp2_with fail
  refine (LF.out _).mono ?_
  rintro e w1 ⟨rfl, rfl⟩
  clear LF
  have BX := Lib.hid (below_seq B.out (below_box (Below.refl w1.heap.size w1) (.cells #[] 43)))
  have OX := Lib.hid (World.ownsRow_made (base := w.heap.size) (e := 43) (size := 2) w1 #[] 0 B.out.size (by unfold maxLen; omega) rfl)
  have C := Lib.hid (CP.out _ BX.out)
  go_wp2_with fail
  refine C.out.mono ?_
  rintro e w3 ⟨cr, rfl, ho, hb⟩
  have S0 := Lib.hid (show EvW w (some ⟨w1.heap.size, 0, none⟩) 0 cr (evAll f g l 0) w3 from ⟨own_below OX.out hb, ho.wide BX.out.size (Nat.le_refl _), below_seq BX.out hb⟩)
  clear ho hb C CP B OX BX
  go_wp2_with fail
  go_loopg [9, 10, 11] (g + 1) (fun kk ov rv lv wr => ∃ (j : Nat) (ao : Option Addr) (co : Nat) (cr : Value) (S : EvS), j ≤ g + 1 ∧ g + 1 - j = kk ∧ ov = .slice ao S.out.length co ∧ cr = rv ∧ lv = .int .i64 ((g : Int) - (j : Int)) ∧ Hid (S = evAll f g l j) ∧ Hid (EvW w ao co cr S wr))
  case atStart => exact ⟨0, _, _, _, _, Nat.zero_le _, rfl, rfl, rfl, by simp, Lib.hid rfl, S0⟩
  case round =>
    clear S0
    obtain ⟨j, ao, co, cr, S, hj, hjj, rfl, rfl, rfl, HS1, HW⟩ := hrel
    by_cases hlt : j < g + 1
    · have I1 := (IV.out j).1
      rw [← HS1.out] at I1
      have I2 := (IV.out j).2
      rw [← HS1.out] at I2
      have NX := Lib.hid (show evAll f g l (j + 1) = evK f ((g : Int) - (j : Int)) l ⟨S.rest, S.out, 0⟩ l.length by rw [HS1.out]; rfl)
      have KI := Lib.hid (fun k hk => evK_inv (l := l) (f := f) (lev := (g : Int) - (j : Int)) (s := ⟨S.rest, S.out, 0⟩) ⟨I1.rest, by simp⟩ k hk)
      have hlev : decide (0 ≤ (g : Int) - (j : Int)) = true := by simp; omega
      have hl0 : (0 : Int) ≤ (g : Int) - (j : Int) := by omega
      have hl6 : (g : Int) - (j : Int) ≤ 6 := by omega
      have LN := Lib.hid (show ((g : Int) - (j : Int)) - 1 = (g : Int) - ((j + 1 : Nat) : Int) by omega)
      have hol : S.out.length ≤ 28 := by omega
      obtain ⟨lev, hv⟩ : ∃ x, (g : Int) - (j : Int) = x := ⟨_, rfl⟩
      rw [hv] at hlev hl0 hl6 NX KI LN ⊢
      clear hv I1 I2 HS1
      have W0 := Lib.hid (show EvW w ao co cr ⟨S.rest, S.out, 0⟩ wr from HW.out)
      clear HW
      go_wp2_with fail
      go_loopg [9, 10, 12, 13] l.length (fun kk ov rv nv iv wr => ∃ (k : Nat) (ao : Option Addr) (co : Nat) (cr : Value) (s : EvS), k ≤ l.length ∧ l.length - k = kk ∧ ov = .slice ao s.out.length co ∧ cr = rv ∧ nv = .int .i64 s.n ∧ iv = .int .i64 k ∧ Hid (s = evK f lev l ⟨S.rest, S.out, 0⟩ k) ∧ Hid (EvW w ao co cr s wr))
      case atStart => exact ⟨0, _, _, _, ⟨S.rest, S.out, 0⟩, Nat.zero_le _, rfl, rfl, rfl, rfl, rfl, Lib.hid (evK_zero _ _ _ _).symm, W0⟩
      case round =>
        clear W0
        obtain ⟨k, ao, co, cr, s, hk, hkk, rfl, rfl, rfl, rfl, HS2, HW⟩ := hrel
        by_cases hlk : k < l.length
        · have I1 := (KI.out k hk).1
          rw [← HS2.out] at I1
          have I2 := (KI.out k hk).2
          rw [← HS2.out] at I2
          have hs4 := I1.cap
          have hso : s.out.length ≤ 32 := by have := I2; simp only [Nat.add_zero] at this; omega
          have hsz : szBlockS s.rest ≤ 1048576 := by rw [I1.rest]; exact Nat.le_trans (dropP_sz l _ l) HS.out
          have NK := Lib.hid (show evK f lev l ⟨S.rest, S.out, 0⟩ (k + 1) = evStep f lev s l[k] by rw [evK_succ _ _ _ _ hlk, ← HS2.out])
          have CC := Lib.hid (fun w' hb => CE.out w' hb k hlk)
          obtain ⟨b, off, x, cap, hab, q0, q1, q2⟩ := CC.out w (Below.refl _ _)
          subst hab
          have T0 := Lib.hid (fun w' (hb : Below w.heap.size w w') => (cell_keep q0 hb))
          have T1 := Lib.hid (fun w' (hb : Below w.heap.size w w') => (cell_keep q1 hb))
          have MK := Lib.hid (MT.out k hlk)
          obtain ⟨m, hm⟩ : ∃ m, l[k] = m := ⟨_, rfl⟩
          rw [hm] at NK T0 T1 MK
          clear hm q0 q1 q2 CC I1 I2 HS2
          have SF := Lib.hid (specStashFind cr s.rest m.id wr HW.out.2.1.read hsz)
          have t0 := T0.out wr HW.out.2.2
          have hkI : (k : Int) < (l.length : Int) := by omega
          have hk0 : (0 : Int) ≤ (k : Int) := by omega
          have EC := Lib.hid (show evC f lev s m = (sFindB s.rest m.id && (decide (s.n < 4) && decide (lev ≤ f m))) from rfl)
          have ES := Lib.hid (show evStep f lev s m = if evC f lev s m = true then evTake lev s m else s from rfl)
          go_wp2_with fail
          refine SF.out.mono ?_
          rintro e w4 ⟨c0, c1, c2, rfl, ho, hb⟩
          obtain ⟨z0, z1, xa, xn, xc, rfl, rfl, rfl⟩ := ho.shape
          have W5 := Lib.hid (HW.out.below (below_box hb (.cells #[.int .i64 z0, .int .i64 z1, .slice xa xn xc] 26)))
          have t1 := T1.out _ W5.out.2.2
          clear ho hb SF HW t0
          obtain ⟨w5, hw5⟩ : ∃ w5, w4.alloc (.cells #[.int .i64 z0, .int .i64 z1, .slice xa xn xc] 26) = w5 := ⟨_, rfl⟩
          cases hq : sFindB s.rest m.id
          · have NE := Lib.hid (show s = evK f lev l ⟨S.rest, S.out, 0⟩ (k + 1) by rw [NK.out, ES.out, EC.out, hq]; rfl)
            clear hq EC ES NK T0 T1 MK
            rw [hw5] at W5
            clear t1
            go_wp2
            go_roundg (l.length - (k + 1))
            case measure => omega
            case rel => exact ⟨k + 1, _, _, _, _, by omega, rfl, rfl, rfl, rfl, by go_num, NE, W5⟩
          · rw [hw5] at W5 t1
            obtain ⟨u, hu⟩ : ∃ u, f m = u := ⟨_, rfl⟩
            rw [hu] at MK EC
            rw [hq] at EC
            clear hq hu
            by_cases hn : s.n < 4
            · have hn4 : decide ((s.n : Int) < 4) = true := by simp; omega
              go_wp2_with fail
              refine (MK.out _).mono ?_
              rintro e w6 ⟨rfl, hb6⟩
              have W6 := Lib.hid (W5.out.below hb6)
              clear hb6 W5 MK t1 hw5
              by_cases hm : lev ≤ u
              · have hm4 : decide (lev ≤ u) = true := by simpa using hm
                have NE := Lib.hid (show evTake lev s m = evK f lev l ⟨S.rest, S.out, 0⟩ (k + 1) by rw [NK.out, ES.out, EC.out, decide_eq_true hn, hm4]; rfl)
                have t0 := T0.out w6 W6.out.2.2
                have ROW := Lib.hid (own_below W6.out.1 (below_box (Below.refl w6.heap.size w6) (.cells #[.int .i64 lev, .int .i64 m.id] 43)))
                have PU := Lib.hid (fun v7 w7 ho hg => W6.out.put (v := v7) (w5 := w7) (lev := lev) (m := m) rfl ho hg)
                have hsz6 := W6.out.2.2.size
                clear EC ES NK W6
                obtain ⟨n, hn'⟩ : ∃ n, s.out.length = n := ⟨_, rfl⟩
                have HN := Lib.hid hn'
                rw [hn'] at ROW PU hso ⊢
                clear hn'
                go_wp2_with (at_builtin; go_must (refine wp_app_rowS rfl _ _ 38 rfl 43 _ 2 16 Try.underlying38 Try.infoPut rfl (by omega) w.heap.size n (.slice ao n co) (flatG putL s.out) (by rfl) ROW.out (some ⟨w6.heap.size, 0, none⟩) 1 1 [.int .i64 lev, .int .i64 m.id] (by rfl) rfl (lit_rowB w6 [.int .i64 lev, .int .i64 m.id] 43) (by intro u hu; simp at hu; rcases hu with rfl | rfl <;> rfl) (by unfold maxLen; omega) (by omega) (by simp; omega) ?_); intro v7 w7 ho7 hg7; obtain ⟨a7, c7, rfl, o7, r7, b7⟩ := PU.out v7 w7 ho7 hg7; have O7 := Lib.hid (And.intro o7 b7); have WO := Lib.hid (uSpecWithout cr s.rest m.id w7 hsz r7.read); have t7 := T0.out w7 b7; clear PU ROW ho7 hg7 o7 r7 b7 t0)
                refine WO.out.mono ?_
                rintro e w8 ⟨c8, rfl, ho8, hb8⟩
                have Z := Lib.hid (show EvW w a7 c7 c8 (evTake lev s m) w8 from ⟨by have := own_below O7.out.1 hb8; simp only [evTake, List.length_append, List.length_singleton]; rw [HN.out]; exact this, ho8.wide O7.out.2.size (Nat.le_refl _), below_seq O7.out.2 hb8⟩)
                clear ho8 hb8 WO O7 T0 T1 t7
                go_wp2
                go_roundg (l.length - (k + 1))
                case measure => omega
                case rel => exact ⟨k + 1, _, _, _, _, by omega, rfl, by simp only [evTake, List.length_append, List.length_singleton]; rw [HN.out], rfl, by simp only [evTake]; go_num, by go_num, NE, Z⟩
              · have hm4 : decide (lev ≤ u) = false := by simpa using hm
                have NE := Lib.hid (show s = evK f lev l ⟨S.rest, S.out, 0⟩ (k + 1) by rw [NK.out, ES.out, EC.out, hm4, Bool.and_false, Bool.and_false]; rfl)
                clear EC ES NK T0 T1
                go_wp2
                go_roundg (l.length - (k + 1))
                case measure => omega
                case rel => exact ⟨k + 1, _, _, _, _, by omega, rfl, rfl, rfl, rfl, by go_num, NE, W6⟩
            · have hn4 : decide ((s.n : Int) < 4) = false := by simp; omega
              have NE := Lib.hid (show s = evK f lev l ⟨S.rest, S.out, 0⟩ (k + 1) by rw [NK.out, ES.out, EC.out, decide_eq_false hn, Bool.false_and, Bool.and_false]; rfl)
              clear EC ES NK T0 T1 MK t1
              go_wp2
              go_roundg (l.length - (k + 1))
              case measure => omega
              case rel => exact ⟨k + 1, _, _, _, _, by omega, rfl, rfl, rfl, rfl, by go_num, NE, W5⟩
        · have hkl : k = l.length := by omega
          have hge : ¬ (k : Int) < (l.length : Int) := by omega
          have hge2 : decide ((k : Int) < (l.length : Int)) = false := by simpa using hge
          have NE := Lib.hid (show s = evAll f g l (j + 1) by rw [NX.out, ← hkl]; exact HS2.out)
          clear HS2
          go_wp2
          go_roundg (g + 1 - (j + 1))
          case measure => omega
          case rel => exact ⟨j + 1, _, _, _, _, by omega, rfl, rfl, rfl, by rw [← LN.out], NE, HW⟩
    · have hjg : j = g + 1 := by omega
      have hlev : (g : Int) - (j : Int) = -1 := by omega
      rw [hlev]
      have Z := Lib.hid (PutSOwn.mk (l := S.out) HW.out.1)
      have B := Lib.hid HW.out.2.2
      have E2 := Lib.hid (show planZ l g v a = S.out by rw [E.out, HS1.out, hjg])
      clear HW HS1 E
      go_wp2
      go_ret
      exact ⟨_, rfl, by rw [E2.out]; exact Z.out, B.out⟩
end Go.Proofs.Ytmkgddbdkpkgpaa
end
