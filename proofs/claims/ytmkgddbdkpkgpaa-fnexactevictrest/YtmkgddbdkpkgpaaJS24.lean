/- EvR, BlkK in one. Written by tools/join2.py. -/
import Derived.Test.YtmkgddbdkpkgpaaJS23
import Derived.Test.YtmkgddbdkpkgpaaJS13
import Derived.Deep.DeepCutAuto
section
namespace Go.Proofs.Ytmkgddbdkpkgpaa
open Go.RowKit
set_option linter.unusedVariables false
set_option linter.unusedSimpArgs false
set_option maxRecDepth 100000

set_option maxHeartbeats 1000000 in
theorem uSpecEvictRest (c : Value) (l : List BlkM) (z v leaf : Int) (w : World) (h : BlockSIn [c] l w) (b1 : -9223372036854775808 ≤ z ∧ z ≤ 9223372036854775807) (b2 : -9223372036854775808 ≤ v ∧ v ≤ 9223372036854775807) (b3 : -9223372036854775808 ≤ leaf ∧ leaf ≤ 9223372036854775807) (hs : szBlockS l ≤ 1048576) : Calls Try.prog 42 #[c, .int .i64 z, .int .i64 v, .int .i64 leaf] w (BlockSRet (restZ l z v leaf) w) := by
  have OK := Lib.hid (uSpecStashOk c l z v w h)
  have LF := Lib.hid (fun w => specLeaf z leaf w)
  have CP := Lib.hid (fun w' (hb : Below w.heap.size w w') => uSpecCopy c l w' hs (blockS_rdg.below h hb))
  have PL := Lib.hid (fun w' (hb : Below w.heap.size w w') => uSpecEvictPlan c l z v leaf w' (blockS_rdg.below h hb) b1 b2 b3 hs)
  have HS := Lib.hid hs
  obtain ⟨aa, capa, es, rfl, _, hmax, _⟩ := blockSIn_shape h
  clear h hs
  cases hok : stashOkB l z v
  · have E := Lib.hid (restZ_no (leaf := leaf) (show planB l z v leaf = false by unfold planB; rw [hok]; rfl))
    rw [hok] at OK
    clear hok
    go_enter Try.func42, Try.ntmps42
    go_wp2_with fail
    refine OK.out.mono ?_
    rintro e w1 ⟨rfl, hb⟩
    have B := Lib.hid hb
    clear hb OK
    go_wp2
    go_ret
    exact ⟨_, rfl, by rw [E.out]; exact BlockSOwn.nil _ _ _, B.out⟩
  cases hlf : leafB z leaf
  · have E := Lib.hid (restZ_no (leaf := leaf) (show planB l z v leaf = false by unfold planB; rw [hlf, Bool.and_false]))
    rw [hok] at OK
    rw [hlf] at LF
    clear hok hlf
    go_enter Try.func42, Try.ntmps42
    go_wp2_with fail
    refine OK.out.mono ?_
    rintro e w1 ⟨rfl, hb⟩
    have B := Lib.hid hb
    clear hb OK
    go_wp2_with fail
    refine (LF.out _).mono ?_
    rintro e w1 ⟨rfl, rfl⟩
    go_wp2
    go_ret
    exact ⟨_, rfl, by rw [E.out]; exact BlockSOwn.nil _ _ _, B.out⟩
  have E := Lib.hid (show restZ l z v leaf = dropP l (planZ l z v leaf) by unfold restZ planB; rw [hok, hlf]; rfl)
  have PN := planZ_len l z v leaf
  rw [hok] at OK
  rw [hlf] at LF
  clear hok hlf
  obtain ⟨p, hp⟩ : ∃ p, planZ l z v leaf = p := ⟨_, rfl⟩
  rw [hp] at PN PL E
  clear hp
  go_enter Try.func42, Try.ntmps42
  go_wp2_with fail
  refine OK.out.mono ?_
  rintro e w1 ⟨rfl, hb⟩
  have B := Lib.hid hb
  clear hb OK
  go_wp2_with fail
  refine (LF.out _).mono ?_
  rintro e w1 ⟨rfl, rfl⟩
  clear LF
  have C := Lib.hid (CP.out _ B.out)
  go_wp2_with fail
  refine C.out.mono ?_
  rintro e w3 ⟨cr, rfl, ho, hb⟩
  have R3 := Lib.hid (And.intro (ho.wide B.out.size (Nat.le_refl _)) (below_seq B.out hb))
  clear ho hb C CP B
  have C := Lib.hid (PL.out _ R3.out.2)
  go_wp2_with fail
  refine C.out.mono ?_
  rintro e w4 ⟨cp, rfl, ho, hb⟩
  obtain ⟨ap, kp, rfl, _, _, rp⟩ := putSIn_shape ho.read
  have RP := Lib.hid (fun w' (hb : Below w4.heap.size w4 w') => (rp.below hb))
  have R4 := Lib.hid (And.intro (R3.out.1.below hb).top (below_seq R3.out.2 hb))
  clear ho hb C PL R3 rp
  go_wp2_with fail
  go_loopg [9, 11] p.length (fun kk rv iv wr => ∃ (k : Nat) (cr : Value), k ≤ p.length ∧ p.length - k = kk ∧ cr = rv ∧ iv = .int .i64 k ∧ Hid (Below w4.heap.size w4 wr) ∧ Hid (BlockSOwn w.heap.size wr.heap.size [cr] (dropP l (p.take k)) wr))
  case atStart => exact ⟨0, _, Nat.zero_le _, rfl, rfl, rfl, Lib.hid (Below.refl _ _), Lib.hid R4.out.1⟩
  case round =>
    obtain ⟨k, cr, hk, hkk, rfl, rfl, HB, HO⟩ := hrel
    by_cases hlt : k < p.length
    · obtain ⟨b, off, rfl, q0, q1⟩ := (RP.out wr HB.out).put hlt
      have DT := Lib.hid (dropP_take l p hlt)
      have WO := Lib.hid (uSpecWithout cr (dropP l (p.take k)) p[k].id wr (Nat.le_trans (dropP_sz l _ l) HS.out) HO.out.read)
      rw [← DT.out] at WO
      generalize p[k].id = x at *
      have hlI : (k : Int) < (p.length : Int) := by omega
      have hk0 : (0 : Int) ≤ (k : Int) := by omega
      have SZ := Lib.hid (show w.heap.size ≤ wr.heap.size from Nat.le_trans R4.out.2.size HB.out.size)
      clear HO DT q0
      go_wp2_with fail
      refine WO.out.mono ?_
      rintro e w5 ⟨c5, rfl, ho, hb⟩
      have H5 := Lib.hid (below_seq HB.out hb)
      have O5 := Lib.hid (ho.wide SZ.out (Nat.le_refl _))
      clear ho hb WO HB SZ q1
      go_wp2
      go_roundg (p.length - (k + 1))
      case measure => omega
      case rel => exact ⟨k + 1, _, by omega, rfl, rfl, by go_num, H5, O5⟩
    · have hkl : k = p.length := by omega
      have hge : ¬ (k : Int) < (p.length : Int) := by omega
      subst hkl
      have O5 := Lib.hid HO.out
      rw [List.take_length] at O5
      have B5 := Lib.hid (below_seq R4.out.2 HB.out)
      clear HO HB R4 RP
      go_wp2
      go_ret
      exact ⟨_, rfl, by rw [E.out]; exact O5.out, B5.out⟩
end Go.Proofs.Ytmkgddbdkpkgpaa
end

section
namespace Go.Proofs.Ytmkgddbdkpkgpaa
open Go.RowKit
set_option linter.unusedVariables false
set_option linter.unusedSimpArgs false
set_option maxRecDepth 100000

def mcBlockS (l : List BlkM) : Nat := 2 * l.length + sumD l
def mkBlockS : Nat → List BlkM → List BlkM
  | _, [] => []
  | k, m :: l => ⟨(k : Int), ((k + 1 : Nat) : Int), marks (k + 2) m.data.length⟩ :: mkBlockS (k + 2 + m.data.length) l
def mcNode (l : NodeM) : Nat := mcBlockS l
def mkNode (k : Nat) (l : NodeM) : NodeM := mkBlockS k l
theorem mkBlockS_length : ∀ k l, (mkBlockS k l).length = l.length
  | _, [] => rfl
  | k, m :: l => by simp [mkBlockS, mkBlockS_length]
theorem mcBlockS_cons (m : BlkM) (l : List BlkM) : mcBlockS (m :: l) = 2 + m.data.length + mcBlockS l := by unfold mcBlockS sumD; simp; omega
theorem mkBlockS_snoc : ∀ k l m, mkBlockS k (l ++ [m]) = mkBlockS k l ++ [⟨((k + mcBlockS l : Nat) : Int), ((k + mcBlockS l + 1 : Nat) : Int), marks (k + mcBlockS l + 2) m.data.length⟩]
  | k, [], m => by simp [mkBlockS, mcBlockS, sumD]
  | k, x :: l, m => by
    simp only [mkBlockS, List.cons_append, mkBlockS_snoc (k + 2 + x.data.length) l m, mcBlockS_cons]
    have e : k + 2 + x.data.length + mcBlockS l = k + (2 + x.data.length + mcBlockS l) := by omega
    rw [e]
theorem mkBlockS_at : ∀ (k : Nat) (l : List BlkM) (j : Nat) (h : j < l.length), (mkBlockS k l)[j]'(by rw [mkBlockS_length]; exact h) = ⟨((k + mcBlockS (l.take j) : Nat) : Int), ((k + mcBlockS (l.take j) + 1 : Nat) : Int), marks (k + mcBlockS (l.take j) + 2) l[j].data.length⟩
  | _, [], j, h => by simp at h
  | k, m :: l, 0, h => by simp [mkBlockS, mcBlockS, sumD]
  | k, m :: l, j + 1, h => by
    have := mkBlockS_at (k + 2 + m.data.length) l j (by simpa using h)
    simp only [mkBlockS, List.getElem_cons_succ, List.take_succ_cons, this, mcBlockS_cons]
    have e : k + 2 + m.data.length + mcBlockS (l.take j) = k + (2 + m.data.length + mcBlockS (l.take j)) := by omega
    rw [e]
theorem mcBlockS_snoc (l : List BlkM) (k : Nat) (h : k < l.length) : mcBlockS (l.take (k + 1)) = mcBlockS (l.take k) + 2 + l[k].data.length := by
  unfold mcBlockS
  rw [sumD_snoc l k h]
  simp; omega
theorem mcBlockS_part (l : List BlkM) (k : Nat) : mcBlockS (l.take k) ≤ mcBlockS l := by
  have h1 := sumD_part l k
  have h2 : (l.take k).length ≤ l.length := by rw [List.length_take]; exact Nat.min_le_right _ _
  unfold mcBlockS; omega
def mkBj (k j : Nat) (l : List BlkM) : List BlkM := mkBlockS k (l.take j) ++ l.drop j
theorem mkBj_zero (k : Nat) (l : List BlkM) : mkBj k 0 l = l := by simp [mkBj, mkBlockS]
theorem mkBj_done (k : Nat) (l : List BlkM) : mkBj k l.length l = mkBlockS k l := by simp [mkBj]
theorem mkBj_length (k j : Nat) (l : List BlkM) (h : j ≤ l.length) : (mkBj k j l).length = l.length := by simp [mkBj, mkBlockS_length]; omega
theorem mkBj_at (k j : Nat) (l : List BlkM) (h : j < l.length) : (mkBj k j l)[j]'(by rw [mkBj_length k j l (by omega)]; exact h) = l[j] := by
  unfold mkBj
  rw [List.getElem_append_right (by rw [mkBlockS_length, List.length_take]; omega)]
  simp [mkBlockS_length, Nat.min_eq_left (Nat.le_of_lt h)]
theorem mkBj_set (k j : Nat) (l : List BlkM) (h : j < l.length) : (mkBj k j l).set j ⟨((k + mcBlockS (l.take j) : Nat) : Int), ((k + mcBlockS (l.take j) + 1 : Nat) : Int), marks (k + mcBlockS (l.take j) + 2) l[j].data.length⟩ = mkBj k (j + 1) l := by
  unfold mkBj
  rw [List.take_succ_eq_append_getElem h, mkBlockS_snoc, List.set_append_right _ _ (by rw [mkBlockS_length, List.length_take]; omega)]
  rw [show j - (mkBlockS k (l.take j)).length = 0 from by rw [mkBlockS_length, List.length_take]; omega, List.drop_eq_getElem_cons h, List.set_cons_zero]
  simp
theorem set_same {xs : List Value} {i : Nat} {v : Value} (h : xs[i]? = some v) : xs.set i v = xs := by
  apply List.ext_getElem?
  intro j
  rw [List.getElem?_set]
  split
  · rename_i e
    subst e
    split
    · exact h.symm
    · rename_i hn; rw [List.getElem?_eq_none (by omega)] at h; cases h
  · rfl
theorem flat_set2 {es : List (Elt BlkM 3)} {j : Nat} (hj : j < es.length) {c0 c1 c2 v0 v1 : Value} (h : es[j].cs = [c0, c1, c2]) (e : Elt BlkM 3) (he : e.cs = [v0, v1, c2]) : ((flatG eltL es).set (j * 3) v0).set (j * 3 + 1) v1 = flatG eltL (es.set j e) := by
  have h1 := flatG_set eltL_len e es j hj
  have h2 : eltL e = [v0, v1, c2] := he
  rw [h2] at h1
  simp only [setsL] at h1
  rw [← h1]
  refine (set_same ?_).symm
  have hl := flatG_len eltL_len es
  have h3 := flatG_at eltL_len es j 2 hj (by decide)
  have h4 : eltL es[j] = [c0, c1, c2] := h
  rw [h4] at h3
  rw [List.getElem?_set_ne (by omega), List.getElem?_set_ne (by omega)]
  exact h3
/-- An element marked in place. -/
theorem NRow.mark {lo g cap n z j s : Nat} {x : Option Addr} {es : List (Elt BlkM 3)} {G : Nat → Foot} {wr w2 : World} (h : NRow BlockO 26 3 lo (some ⟨g, 0, Option.none⟩) cap es G wr) (hj : j < es.length) {c0 c1 : Value} (hc : es[j].cs = [c0, c1, .slice x n z])
    (hG : ∀ b, G j b ↔ (Value.slice x n z).ownBlock = some b) (e : Elt BlkM 3) (he : e.cs = [.int .i64 (s : Int), .int .i64 ((s + 1 : Nat) : Int), .slice x n z]) (hm : e.m = ⟨(s : Int), ((s + 1 : Nat) : Int), marks (s + 2) n⟩)
    (ho : w2.ownsRow lo 5 1 (.slice x n z) n ((marks (s + 2) n).map bval)) (hg : ((wr.setCell ⟨g, j * 3, Option.none⟩ (.int .i64 (s : Int))).setCell ⟨g, j * 3 + 1, Option.none⟩ (.int .i64 ((s + 1 : Nat) : Int))).grownBy w2 (Value.slice x n z).ownBlock) :
    NRow BlockO 26 3 lo (some ⟨g, 0, Option.none⟩) cap (es.set j e) G w2 ∧ ChgF (rowF (.slice (some ⟨g, 0, Option.none⟩) es.length cap) es.length G) wr w2 := by
  have r1 := h.row.stored (j * 3) (.int .i64 (s : Int))
  have r2 := r1.1.stored (j * 3 + 1) (.int .i64 ((s + 1 : Nat) : Int))
  rw [flat_set2 hj hc e he] at r2
  have hgw : g < wr.heap.size := (h.row.lt g rfl).2
  have hsz : wr.heap.size ≤ ((wr.setCell ⟨g, j * 3, Option.none⟩ (.int .i64 (s : Int))).setCell ⟨g, j * 3 + 1, Option.none⟩ (.int .i64 ((s + 1 : Nat) : Int))).heap.size := Nat.le_trans r1.2.size r2.2.size
  have hne : ∀ b, (Value.slice x n z).ownBlock = some b → ¬ b = g := fun b hb e => by
    subst e
    exact h.off j b hj ((hG b).2 hb) rfl
  have keep : ∀ b, b < wr.heap.size → ¬ b = g → (Value.slice x n z).ownBlock ≠ some b → w2.heap[b]? = wr.heap[b]? := fun b hb h1 h2 => by
    rw [hg.block b (Nat.lt_of_lt_of_le hb hsz) (fun e => h2 e.symm)]
    exact (r2.2.block b (Nat.lt_of_lt_of_le hb r1.2.size) (fun e => h1 (by cases e; rfl))).trans (r1.2.block b hb (fun e => h1 (by cases e; rfl)))
  have hfn : (fun i => if i = j then G j else G i) = G := by
    funext i
    split
    · rename_i e; rw [e]
    · rfl
  have X := h.set (w' := w2) block_ong hj (G j) e (own_keptF r2.1 (fun b hb => by
      cases hb
      exact hg.block g (Nat.lt_of_lt_of_le hgw hsz) (fun e => hne g e.symm rfl))) (by
      rw [he, hm]
      refine ⟨_, rfl, x, z, ?_, ?_, fun b => ?_⟩
      · simp only [marks_length]
      · simp only [marks_length]; exact ho
      · simp only [marks_length]; exact hG b) (fun i b hi hij hGi => keep b (block_ong.at_ (h.own i hi) b hGi).2 (fun e => by subst e; exact h.off i b hi hGi rfl) (fun e => h.sep i j b hi hj hij hGi ((hG b).2 e))) (fun i b hi hij hGi => h.sep i j b hi hj hij hGi) (fun b hb => h.off j b hj hb)
  rw [hfn] at X
  refine ⟨X, ?_⟩
  have c1 : ChgF (rowF (.slice (some ⟨g, 0, Option.none⟩) es.length cap) es.length G) wr _ := (ChgF.of_grown r1.2 (fun b hb => .inl hb)).trans (ChgF.of_grown r2.2 (fun b hb => .inl hb))
  exact c1.trans (ChgF.of_grown hg (fun b hb => .inr ⟨j, hj, (hG b).2 hb⟩))
/-- Marked: what stands in the blocks of F, and nothing else that lay there. -/
def MarkPostF (P : World → Prop) (F : Foot) (K : Nat) (w : World) (e : Ending) (w' : World) : Prop := ∃ k' : Nat, e = .returned (.int .i64 (k' : Int)) ∧ k' = K ∧ P w' ∧ ChgF F w w'
theorem MarkPostF.seg {α : Type} {O : Foot → Nat → List Value → α → World → Prop} {F : Foot} {lo hi K : Nat} {cs : List Value} {m : α} {w w' : World} {e : Ending} (h : MarkPostF (O F lo cs m) F K w e w') (k1 : ∀ b, F b → b < hi) (k2 : ∀ b, F b → lo ≤ b) : MarkPost (SegO O lo hi cs m) lo hi K w e w' := by
  obtain ⟨k', h1, h2, h3, h4⟩ := h
  exact ⟨k', h1, h2, ⟨F, h3, k1⟩, h4.chg (fun b hb => ⟨k2 b hb, k1 b hb⟩)⟩
set_option maxHeartbeats 2000000 in
theorem uMarkBlockSF (F : Foot) (lo k : Nat) (c : Value) (l : List BlkM) (w : World) (hk : k + mcBlockS l ≤ 4611686018427387904) (h : BlockSO F lo [c] l w) :
    Calls Try.prog 33 #[c, .int .i64 k] w (MarkPostF (BlockSO F lo [c] (mkBlockS k l)) F (k + mcBlockS l) w) := by
  obtain ⟨a, cap, es0, G, hc, hm0, hn0, hF⟩ := h
  simp at hc
  subst hc
  have hl0 : es0.length = l.length := by rw [← hm0]; simp
  have hmax := hn0.max
  rw [hl0] at hF hmax ⊢
  have FW := Lib.hid hF
  have S0 := Lib.hid (show ∃ es : List (Elt BlkM 3), es.length = l.length ∧ es.map Elt.m = mkBj k 0 l ∧ NRow BlockO 26 3 lo a cap es G w ∧ ChgF (rowF (.slice a l.length cap) l.length G) w w from ⟨es0, hl0, by rw [mkBj_zero]; exact hm0, hn0, ChgF.refl _ _⟩)
  unfold maxLen at hmax
  clear hm0 hn0 hl0 hF
  go_enter Try.func33, Try.ntmps33
  go_wp2_with fail
  go_loopg [1, 5] l.length (fun kk kv iv wr => ∃ j s : Nat, j ≤ l.length ∧ l.length - j = kk ∧ kv = .int .i64 s ∧ iv = .int .i64 j ∧ Hid (s = k + mcBlockS (l.take j)) ∧ Hid (∃ es : List (Elt BlkM 3), es.length = l.length ∧ es.map Elt.m = mkBj k j l ∧ NRow BlockO 26 3 lo a cap es G wr ∧ ChgF (rowF (.slice a l.length cap) l.length G) w wr))
  case atStart => exact ⟨0, k, Nat.zero_le _, rfl, rfl, rfl, Lib.hid (by simp [mcBlockS, sumD]), S0⟩
  case round =>
    clear S0
    obtain ⟨j, s, hj, hjk, rfl, rfl, HS, H⟩ := hrel
    by_cases hlt : j < l.length
    · obtain ⟨es, hel, hem, hn, hch⟩ := H.out
      have hje : j < es.length := by omega
      obtain ⟨g, rfl, _⟩ := own_some hn.row (by omega)
      have hmj : es[j].m = l[j] := by
        have h1 : (es.map Elt.m)[j]'(by simpa using hje) = es[j].m := by simp
        rw [← h1]
        simp only [hem]
        exact mkBj_at k j l hlt
      obtain ⟨c2, hcs, x, z, hc2, hob, hGj⟩ := hn.own j hje
      rw [hmj] at hcs hc2 hob hGj
      simp at hc2
      subst hc2
      have S1 := Lib.hid (mcBlockS_snoc l j hlt)
      have S2 := Lib.hid (mcBlockS_part l (j + 1))
      have MS := Lib.hid (mkBj_set k j l hlt)
      rw [← HS.out] at MS
      have hsz : s + 2 + l[j].data.length ≤ 4611686018427387904 := by have := S1.out; have := S2.out; have := HS.out; omega
      obtain ⟨n, hnn⟩ : ∃ n, l[j].data.length = n := ⟨_, rfl⟩
      rw [hnn] at hcs hob hGj S1 MS hsz
      have cc := own_elem eltL_len hn.row hje
      rw [show eltL es[j] = [.int .i64 l[j].id, .int .i64 l[j].leaf, .slice x n z] from hcs] at cc
      obtain ⟨z0, hz0⟩ : ∃ z0, l[j].id = z0 := ⟨_, rfl⟩
      obtain ⟨z1, hz1⟩ : ∃ z1, l[j].leaf = z1 := ⟨_, rfl⟩
      rw [hz0, hz1] at cc hcs
      have f0 := hn.row.frozenAt (j * 3)
      have f1 := hn.row.frozenAt (j * 3 + 1)
      have q0 : wr.cell? ⟨g, j * 3, none⟩ = some (.int .i64 z0) := cc 0 (by decide)
      have q1 : wr.cell? ⟨g, j * 3 + 1, none⟩ = some (.int .i64 z1) := cc 1 (by decide)
      have q2 : wr.cell? ⟨g, j * 3 + 2, none⟩ = some (.slice x n z) := cc 2 (by decide)
      obtain ⟨W2, hW2⟩ : ∃ W2, W2 = (wr.setCell ⟨g, j * 3, none⟩ (.int .i64 (s : Int))).setCell ⟨g, j * 3 + 1, none⟩ (.int .i64 ((s + 1 : Nat) : Int)) := ⟨_, rfl⟩
      have hgn : ∀ b, (Value.slice x n z).ownBlock = some b → ¬ b = g := fun b hb e => by
        subst e
        exact hn.off j b hje ((hGj b).2 hb) rfl
      have hob2 : W2.ownsRow lo 5 1 (.slice x n z) n (l[j].data.map bval) := own_keptF hob (fun b hb => by
        rw [hW2]
        exact (Below.heap_setCell _ _ _ b (by simpa using hgn b hb)).trans (Below.heap_setCell _ _ _ b (by simpa using hgn b hb)))
      have MK := Lib.hid (lawsMarkByteAny lo n z (s + 2) x _ W2 hsz hob2)
      have NM := Lib.hid (fun w2 ho hg => NRow.mark (s := s) (w2 := w2) hn hje hcs hGj ⟨[.int .i64 (s : Int), .int .i64 ((s + 1 : Nat) : Int), .slice x n z], ⟨(s : Int), ((s + 1 : Nat) : Int), marks (s + 2) n⟩, rfl, by intro v hv; simp at hv; rcases hv with rfl | rfl | rfl <;> rfl⟩ rfl rfl ho hg)
      rw [← hW2] at NM
      have EL := Lib.hid hel
      have EM := Lib.hid hem
      have CH := Lib.hid hch
      have W2q : W2.cell? ⟨g, j * 3 + 2, none⟩ = some (.slice x n z) := by rw [hW2, World.cell?_setCell_other _ _ _ _ (by simp), World.cell?_setCell_other _ _ _ _ (by simp)]; exact q2
      clear hn hcs hob hob2 hGj hgn cc hmj hel hem hch H hz0 hz1 hnn q2
      have hw2' : W2 = (wr.setCell ⟨g, j * 3, none⟩ (.int .i64 (s : Int))).setCell ⟨g, j * 3 + 1, none⟩ (.int .i64 ((s : Int) + 1)) := by rw [hW2]; simp
      clear hW2
      go_upto_region 8 with fail
      rw [← hw2']
      clear hw2' q0 q1 f0 f1
      go_wp2_with fail
      refine MK.out.mono ?_
      rintro e w3 ⟨rfl, h1, h2⟩
      have N : Hid (s + 2 + n = k + mcBlockS (l.take (j + 1))) := Lib.hid (by have := S1.out; have := HS.out; omega)
      obtain ⟨X1, X2⟩ := NM.out w3 h1 h2
      rw [EL.out] at X2
      have X := Lib.hid (show ∃ es : List (Elt BlkM 3), es.length = l.length ∧ es.map Elt.m = mkBj k (j + 1) l ∧ NRow BlockO 26 3 lo (some ⟨g, 0, none⟩) cap es G w3 ∧ ChgF (rowF (.slice (some ⟨g, 0, none⟩) l.length cap) l.length G) w w3 from ⟨_, by simpa using EL.out, by rw [List.map_set, EM.out]; exact MS.out, X1, CH.out.trans X2⟩)
      clear X1 X2 h1 h2 MK NM EL EM CH MS HS
      go_wp2
      go_roundg (l.length - (j + 1))
      case measure => omega
      case rel => exact ⟨j + 1, s + 2 + n, by omega, rfl, by go_num, by go_num, N, X⟩
    · have hj' : j = l.length := by omega
      subst hj'
      have HE := HS.out
      rw [List.take_length] at HE
      have Z := Lib.hid (show BlockSO F lo [.slice a l.length cap] (mkBlockS k l) wr ∧ ChgF F w wr by
        obtain ⟨es, hel, hem, hn, hch⟩ := H.out
        rw [mkBj_done] at hem
        exact ⟨⟨a, cap, es, G, by rw [hel], hem, hn, by rw [hel]; exact FW.out⟩, hch.mono (fun b hb => (FW.out b).2 hb)⟩)
      clear H HS
      subst HE
      go_wp2
      go_ret
      exact ⟨_, rfl, rfl, Z.out.1, Z.out.2⟩
theorem uMarkBlockS (lo hi k : Nat) (c : Value) (l : List BlkM) (w : World) (hk : k + mcBlockS l ≤ 4611686018427387904) (h : BlockSOwn lo hi [c] l w) :
    Calls Try.prog 33 #[c, .int .i64 k] w (MarkPost (BlockSOwn lo hi [c] (mkBlockS k l)) lo hi (k + mcBlockS l) w) := by
  obtain ⟨F, h1, h2⟩ := h
  exact (uMarkBlockSF F lo k c l w hk h1).mono (fun e w' k => k.seg (O := BlockSO) h2 (fun b hb => (blockS_ong.at_ h1 b hb).1))
end Go.Proofs.Ytmkgddbdkpkgpaa
end
