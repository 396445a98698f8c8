/- TnF in one. Written by tools/join2.py. -/
import Derived.Test.YtmkgddbdkpkgpaaJS31
import Derived.Test.YtmkgddbdkpkgpaaJS24
section
namespace Go.Proofs.Ytmkgddbdkpkgpaa
open Go.RowKit
set_option linter.unusedVariables false
set_option linter.unusedSimpArgs false
set_option maxRecDepth 100000

theorem flat_set1 {es : List (Elt BlkM 3)} {j i : Nat} (hj : j < es.length) (hi : i < 3) (v : Value) (e : Elt BlkM 3) (he : e.cs = es[j].cs.set i v) : (flatG eltL es).set (j * 3 + i) v = flatG eltL (es.set j e) := by
  have hl := flatG_len eltL_len es
  apply List.ext_getElem?
  intro n
  by_cases hn : n < es.length * 3
  · obtain ⟨q, r, hr, rfl⟩ : ∃ q r, r < 3 ∧ n = q * 3 + r := ⟨n / 3, n % 3, Nat.mod_lt _ (by decide), by omega⟩
    have hq : q < es.length := by omega
    rw [flatG_at eltL_len (es.set j e) q r (by simpa using hq) hr, List.getElem?_set]
    have h3 : es[j].cs.length = 3 := es[j].len
    by_cases hqj : q = j
    · subst hqj
      rw [List.getElem_set_self]
      show _ = e.cs[r]?
      rw [he, List.getElem?_set]
      by_cases hri : i = r
      · subst hri
        rw [if_pos rfl, if_pos (by omega), if_pos rfl, if_pos (by omega)]
      · rw [if_neg (by omega), if_neg hri, flatG_at eltL_len es q r hq hr]; rfl
    · rw [if_neg (by omega), List.getElem_set_ne (Ne.symm hqj), flatG_at eltL_len es q r hq hr]
  · rw [List.getElem?_eq_none (by simp; omega), List.getElem?_eq_none (by rw [flatG_len eltL_len]; simp; omega)]
def elt3 (c0 c1 c2 : Value) (m : BlkM) (h0 : c0.oneCell' = true) (h1 : c1.oneCell' = true) (h2 : c2.oneCell' = true) : Elt BlkM 3 := ⟨[c0, c1, c2], m, rfl, by intro u hu; simp at hu; rcases hu with rfl | rfl | rfl <;> assumption⟩
theorem lit4b_at {x0 x1 x2 x3 : Int} (h0 : -9223372036854775808 ≤ x0 ∧ x0 ≤ 9223372036854775807) (h1 : -9223372036854775808 ≤ x1 ∧ x1 ≤ 9223372036854775807) (h2 : -9223372036854775808 ≤ x2 ∧ x2 ≤ 9223372036854775807) (h3 : -9223372036854775808 ≤ x3 ∧ x3 ≤ 9223372036854775807) (r : Nat) (h : r < 4) :
    ∃ u : Int, (-9223372036854775808 ≤ u ∧ u ≤ 9223372036854775807) ∧ (#[.int .i64 x0, .int .i64 x1, .int .i64 x2, .int .i64 x3] : Array Value)[r]? = some (.int .i64 u) := by
  rcases (show r = 0 ∨ r = 1 ∨ r = 2 ∨ r = 3 from by omega) with rfl | rfl | rfl | rfl
  · exact ⟨x0, h0, rfl⟩
  · exact ⟨x1, h1, rfl⟩
  · exact ⟨x2, h2, rfl⟩
  · exact ⟨x3, h3, rfl⟩
/-- What is known of a drawn block that may be bad. -/
def blkT (t : BlkM) : Prop := blkBd t ∧ t.data.length ≤ 8
theorem blkS_T {v : Nat} (hv : v ≤ 8) {t : BlkM} (h : blkS v t) : blkT t := by
  obtain ⟨h1, h2, h3⟩ := h
  exact ⟨⟨by omega, by omega⟩, by omega⟩
section
variable {P Q : BlkM → Prop} {w W W' : World} {b : Nat} {a : Option Addr} {l : List UInt8} {cap m m' : Nat} {ao : Option Addr} {co g : Nat} {es : List (Elt BlkM 3)} {F : Nat → Foot}
theorem BsSt.weak (s : BsSt P w W b a l cap m ao co es F) (h : ∀ t, P t → Q t) : BsSt Q w W b a l cap m ao co es F := ⟨s.row, fun e he => h _ (s.bd e he), s.h, s.I, s.G⟩
theorem BsSt.cells (s : BsSt P w W b a l cap m (some ⟨g, 0, none⟩) co es F) {j : Nat} (hj : j < es.length) : ∃ x n z, es[j].cs = [.int .i64 es[j].m.id, .int .i64 es[j].m.leaf, .slice x n z] ∧ W.cell? ⟨g, j * 3, none⟩ = some (.int .i64 es[j].m.id) ∧ W.cell? ⟨g, j * 3 + 1, none⟩ = some (.int .i64 es[j].m.leaf) ∧ W.cell? ⟨g, j * 3 + 2, none⟩ = some (.slice x n z) := by
  obtain ⟨c2, hcs, x, z, hc2, hob, hGj⟩ := s.row.own j hj
  simp at hc2
  subst hc2
  have cc := own_elem eltL_len s.row.row hj
  rw [show eltL es[j] = [.int .i64 es[j].m.id, .int .i64 es[j].m.leaf, .slice x es[j].m.data.length z] from hcs] at cc
  exact ⟨x, _, z, hcs, cc 0 (by decide), cc 1 (by decide), cc 2 (by decide)⟩
theorem BsSt.id_at (s : BsSt P w W b a l cap m (some ⟨g, 0, none⟩) co es F) {j : Nat} (hj : j < es.length) : W.cell? ⟨g, j * 3, none⟩ = some (.int .i64 es[j].m.id) := by
  obtain ⟨_, _, _, _, h, _⟩ := s.cells hj
  exact h
theorem BsSt.id_0 (s : BsSt P w W b a l cap m (some ⟨g, 0, none⟩) co es F) {z : Int} (hz : ∃ h : 0 < es.length, es[0].m.id = z) : W.cell? ⟨g, 0, none⟩ = some (.int .i64 z) := by
  obtain ⟨hj, rfl⟩ := hz
  have := s.id_at hj
  rwa [Nat.zero_mul] at this
theorem BsSt.put (s : BsSt P w W b a l cap m (some ⟨g, 0, none⟩) co es F) {j i : Nat} (hj : j < es.length) (hi : i < 3) (v : Value) (e : Elt BlkM 3) (he : e.cs = es[j].cs.set i v) (hm : P e.m) (f : Foot) (hel : BlockO f w.heap.size e.cs e.m (W.setCell ⟨g, j * 3 + i, none⟩ v))
    (hsep : ∀ i b, i < es.length → i ≠ j → F i b → ¬ f b) (hoff : ∀ b, f b → b ≠ g) : BsSt P w (W.setCell ⟨g, j * 3 + i, none⟩ v) b a l cap m (some ⟨g, 0, none⟩) co (es.set j e) (fun i => if i = j then f else F i) := by
  have hb := s.h
  have hgl : w.heap.size ≤ g := (s.row.row.lt g rfl).1
  have r1 := (s.row.row.stored (j * 3 + i) v).1
  rw [flat_set1 hj hi v e he] at r1
  have BB : Below w.heap.size W (W.setCell ⟨g, j * 3 + i, none⟩ v) := (Below.refl w.heap.size W).setCell (p := ⟨g, j * 3 + i, none⟩) hgl _
  refine ⟨s.row.set block_ong hj f e r1 hel (fun k x hk hkj hx => Below.heap_setCell _ _ _ x (by
    have := s.row.off k x hk hx
    intro e; simp at e; subst e; exact this rfl)) hsep (fun x hx e => hoff x hx (by cases e; rfl)), fun t ht => ?_, hb, s.I.low BB hb, grown_low s.G BB⟩
  rcases List.mem_or_eq_of_mem_set ht with h | h
  · exact s.bd t h
  · rw [h]; exact hm
theorem BsSt.off (s : BsSt P w W b a l cap m (some ⟨g, 0, none⟩) co es F) {j : Nat} (hj : j < es.length) (x : Nat) (h : F j x) : x ≠ g := fun e => by
  subst e
  exact s.row.off j x hj h rfl
theorem BsSt.put0 (s : BsSt blkT w W b a l cap m (some ⟨g, 0, none⟩) co es F) {j : Nat} (hj : j < es.length) (z : Int) (hz : -9223372036854775808 ≤ z ∧ z ≤ 9223372036854775807) :
    ∃ (es' : List (Elt BlkM 3)) (F' : Nat → Foot), es'.length = es.length ∧ BsSt blkT w (W.setCell ⟨g, j * 3, none⟩ (.int .i64 z)) b a l cap m (some ⟨g, 0, none⟩) co es' F' := by
  obtain ⟨c2, hcs, hO⟩ := s.row.own j hj
  have hp := s.bd _ (List.getElem_mem hj)
  have h1 := es[j].one
  rw [hcs] at h1
  refine ⟨_, _, by simp, s.put (i := 0) hj (by decide) (.int .i64 z) (elt3 (.int .i64 z) (.int .i64 es[j].m.leaf) c2 ⟨z, es[j].m.leaf, es[j].m.data⟩ rfl rfl (h1 _ (by simp))) (by show [Value.int .i64 z, .int .i64 es[j].m.leaf, c2] = _; rw [hcs]; rfl) ⟨⟨hz, hp.1.2⟩, hp.2⟩ (F j) ⟨c2, rfl, byteS_ong.sup hO (fun x hx => Below.heap_setCell _ _ _ x (by simpa using s.off hj x hx))⟩ (fun i x hi hij hx => s.row.sep i j x hi hj hij hx) (fun x hx => s.off hj x hx)⟩
theorem BsSt.put1 (s : BsSt blkT w W b a l cap m (some ⟨g, 0, none⟩) co es F) {j : Nat} (hj : j < es.length) (z : Int) (hz : -9223372036854775808 ≤ z ∧ z ≤ 9223372036854775807) :
    ∃ (es' : List (Elt BlkM 3)) (F' : Nat → Foot), es'.length = es.length ∧ BsSt blkT w (W.setCell ⟨g, j * 3 + 1, none⟩ (.int .i64 z)) b a l cap m (some ⟨g, 0, none⟩) co es' F' := by
  obtain ⟨c2, hcs, hO⟩ := s.row.own j hj
  have hp := s.bd _ (List.getElem_mem hj)
  have h1 := es[j].one
  rw [hcs] at h1
  refine ⟨_, _, by simp, s.put (i := 1) hj (by decide) (.int .i64 z) (elt3 (.int .i64 es[j].m.id) (.int .i64 z) c2 ⟨es[j].m.id, z, es[j].m.data⟩ rfl rfl (h1 _ (by simp))) (by show [Value.int .i64 es[j].m.id, .int .i64 z, c2] = _; rw [hcs]; rfl) ⟨⟨hp.1.1, hz⟩, hp.2⟩ (F j) ⟨c2, rfl, byteS_ong.sup hO (fun x hx => Below.heap_setCell _ _ _ x (by simpa using s.off hj x hx))⟩ (fun i x hi hij hx => s.row.sep i j x hi hj hij hx) (fun x hx => s.off hj x hx)⟩
theorem BsSt.put2 {w4 : World} (s : BsSt blkT w W b a l cap m (some ⟨g, 0, none⟩) co es F) {j : Nat} (hj : j < es.length) {c : Value} {bs : List UInt8} (ho : ByteSOwn W.heap.size w4.heap.size [c] bs w4) (hc : c.oneCell' = true) (hbs : bs.length ≤ 8) (hI : CurI w4 b a l cap m') (hg : W.grownBy w4 (some b)) :
    ∃ (es' : List (Elt BlkM 3)) (F' : Nat → Foot), es'.length = es.length ∧ BsSt blkT w (w4.setCell ⟨g, j * 3 + 2, none⟩ c) b a l cap m' (some ⟨g, 0, none⟩) co es' F' := by
  have s4 := s.pick hI hg
  obtain ⟨c2, hcs, hO⟩ := s.row.own j hj
  have hp := s.bd _ (List.getElem_mem hj)
  obtain ⟨f, f1, f2⟩ := ho.toO
  have fat := byteS_ong.at_ f1
  have hgw : g < W.heap.size := (s.row.row.lt g rfl).2
  have hsz : w.heap.size ≤ W.heap.size := s.G.size
  have hfg : ∀ x, f x → x ≠ g := fun x hx => by have := (fat x hx).1; omega
  refine ⟨_, _, by simp, s4.put (i := 2) hj (by decide) c (elt3 (.int .i64 es[j].m.id) (.int .i64 es[j].m.leaf) c ⟨es[j].m.id, es[j].m.leaf, bs⟩ rfl rfl hc) (by show [Value.int .i64 es[j].m.id, .int .i64 es[j].m.leaf, c] = _; rw [hcs]; rfl) ⟨hp.1, hbs⟩ f ⟨c, rfl, byteS_ong.low (byteS_ong.sup f1 (fun x hx => Below.heap_setCell _ _ _ x (by simpa using hfg x hx))) hsz⟩ (fun i x hi hij hx hfx => by have h1 := (block_ong.at_ (s.row.own i hi) x hx).2; have h2 := (fat x hfx).1; omega) hfg⟩
end
/-- What 'badBlocks' leaves: the row, one block turned. -/
def DrawnBad (w : World) (b : Nat) (a : Option Addr) (l : List UInt8) (cap m : Nat) (ao : Option Addr) (co n : Nat) (e : Ending) (w' : World) : Prop :=
  e = .returned (.slice ao n co) ∧ ∃ (es : List (Elt BlkM 3)) (F : Nat → Foot), es.length = n ∧ BsSt blkT w w' b a l cap m ao co es F
set_option maxHeartbeats 8000000 in
theorem curBadBlocks (w0 : World) (b : Nat) (a : Option Addr) (l : List UInt8) (cap m n : Nat) (ao : Option Addr) (co : Nat) (es : List (Elt BlkM 3)) (F : Nat → Foot) (w : World) (hl : l.length ≤ 1048576) (hm : m ≤ 100000000000000000) (hn : es.length = n) (hn2 : n ≤ 1000) (s : BsSt blkT w0 w b a l cap m ao co es F) :
    Calls Try.prog 72 #[.pointer (some ⟨b, 0, none⟩), .slice ao n co] w (DrawnBad w0 b a l cap (m + 20) ao co n) := by
  have S0 := Lib.hid s
  have EL := Lib.hid hn
  by_cases h0 : n = 0
  · subst h0
    have SE := Lib.hid (show DrawnBad w0 b a l cap (m + 20) ao co 0 (.returned (.slice ao 0 co)) w from ⟨rfl, es, F, hn, s.more (by omega)⟩)
    clear s S0 hn EL
    go_enter Try.func72, Try.ntmps72
    go_wp2
    go_ret
    exact SE.out
  · have hnB : ((n : Int) == 0) = false := by simp; omega
    have hrow := s.row.row
    rw [hn] at hrow
    obtain ⟨g, rfl, _⟩ := own_some hrow (by omega)
    clear hrow s hn
    go_enter Try.func72, Try.ntmps72
    go_wp2_with fail
    refine (curPick b a l cap m n _ hl (by omega) (by omega) S0.out.I).mono ?_
    rintro e w1 ⟨p, rfl, hp, hI, hg⟩
    have hpn : p < n := by omega
    have hpi : (p : Int) < (n : Int) := by omega
    have S1 := Lib.hid (S0.out.pick hI hg)
    clear hI hg S0 hp
    go_wp2_with fail
    refine (curPick b a l cap _ 12 _ hl (by omega) (by omega) S1.out.I).mono ?_
    rintro e w2 ⟨t, rfl, ht, hI, hg⟩
    have S2 := Lib.hid (S1.out.pick hI hg)
    clear hI hg S1 ht
    go_upto_block 0 with fail
    go_cut [] (fun wx => Hid (∃ (es' : List (Elt BlkM 3)) (F' : Nat → Foot), es'.length = n ∧ BsSt blkT w0 wx b a l cap (m + 20) (some ⟨g, 0, none⟩) co es' F'))
    case first =>
      by_cases e0 : t = 0
      · subst e0
        have hl0 : 0 < es.length := by rw [EL.out]; omega
        have hlp : p < es.length := by rw [EL.out]; exact hpn
        have hb0 := (S2.out.bd _ (List.getElem_mem hl0)).1.1
        obtain ⟨id0, hid0⟩ : ∃ z, es[0].m.id = z := ⟨_, rfl⟩
        rw [hid0] at hb0
        have Z0 : Hid (∃ h : 0 < es.length, es[0].m.id = id0) := Lib.hid ⟨hl0, hid0⟩
        clear hid0
        have SD := Lib.hid (S2.out.below (belowN 1))
        have ID := Lib.hid SD.out.I
        have k2 := S2.out.id_0 Z0.out
        have hn0 : 0 < n := by omega
        have hn0i : (0 : Int) < (n : Int) := by omega
        clear S2
        go_upto_region 6 with fail
        go_region_law (first
          | (refine step_callW w2.drew rfl (by rfl) 49 _ _ rfl _ (by kernel_rfl) Try.call49 _ (curRaw b a l cap _ _ hl (by omega) ID.out) ?_; rintro e w3 ⟨z0, rfl, hz0, hI, hg⟩; refine ⟨_, rfl, ?_⟩; have S3 := Lib.hid (SD.out.pick hI hg); have S3L := Lib.hid (S3.out.below (below_box (Below.refl _ w3) (.cells #[.int .i64 z0, .int .i64 255, .int .i64 256, .int .i64 id0] 3))); have k3 := S3.out.id_0 Z0.out; clear hI hg SD ID)
          | (refine step_callW w3 rfl (by rfl) 46 _ _ rfl _ (by kernel_rfl) Try.call46 _ (curPick b a l cap _ 4 _ hl (by omega) (by omega) S3.out.I) ?_; rintro e w4 ⟨p4, rfl, hp4, hI, hg⟩; refine ⟨_, rfl, ?_⟩; have p4i : (p4 : Int) < 4 := (by omega); obtain ⟨u, hu, hul⟩ := lit4b_at (x0 := z0) (x1 := 255) (x2 := 256) (x3 := id0) hz0 (by omega) (by omega) hb0 p4 (by omega); have S4 := Lib.hid (S3.out.pick hI hg); have S5 := Lib.hid (S4.out.below (below_box (Below.refl _ w4) (.cells #[.int .i64 z0, .int .i64 255, .int .i64 256, .int .i64 id0] 3))); have k4 := S4.out.id_0 Z0.out; have q1 := (lit_new w4 #[.int .i64 z0, .int .i64 255, .int .i64 256, .int .i64 id0] 3 p4).trans hul; have kp := S5.out.id_at hlp; have fp := S5.out.row.row.frozenAt (p * 3); have SZ := Lib.hid (S5.out.put0 hlp u hu); clear hI hg S3 S3L hul hp4)
          | (refine step_callW (w3.alloc (.cells #[.int .i64 z0, .int .i64 255, .int .i64 256, .int .i64 id0] 3)) rfl (by rfl) 46 _ _ rfl _ (by kernel_rfl) Try.call46 _ (curPick b a l cap _ 4 _ hl (by omega) (by omega) S3L.out.I) ?_; rintro e w4 ⟨p4, rfl, hp4, hI, hg⟩; refine ⟨_, rfl, ?_⟩; have p4i : (p4 : Int) < 4 := (by omega); obtain ⟨u, hu, hul⟩ := lit4b_at (x0 := z0) (x1 := 255) (x2 := 256) (x3 := id0) hz0 (by omega) (by omega) hb0 p4 (by omega); have S4 := Lib.hid (S3L.out.pick hI hg); have q1 : w4.cell? ⟨w3.heap.size, p4, none⟩ = some (.int .i64 u) := hg.cell ((lit_new w3 _ 3 p4).trans hul) (by have h1 := S3.out.I.lt; simp; omega); have kp := S4.out.id_at hlp; have fp := S4.out.row.row.frozenAt (p * 3); have SZ := Lib.hid (S4.out.put0 hlp u hu); clear hI hg S3 S3L hul hp4))
        all_goals (go_wp2_with fail; go_meet)
        all_goals (
          obtain ⟨es', F', h1, h2⟩ := SZ.out
          exact Lib.hid ⟨es', F', h1.trans EL.out, h2.more (by omega)⟩)
      · have t0B : ((t : Int) == 0) = false := by simp; omega
        by_cases e1 : t = 1
        · subst e1
          go_wp2_with fail
          refine (curRaw b a l cap _ _ hl (by omega) S2.out.I).mono ?_
          rintro e w3 ⟨z, rfl, hz, hI, hg⟩
          have S3 := Lib.hid (S2.out.pick hI hg)
          obtain ⟨x, nx, zx, _, c0, c1, c2⟩ := S3.out.cells (j := p) (by rw [EL.out]; exact hpn)
          have f1 := S3.out.row.row.frozenAt (p * 3 + 1)
          have SZ := Lib.hid (S3.out.put1 (j := p) (by rw [EL.out]; exact hpn) z hz)
          clear hI hg S2
          go_wp2_with fail
          go_meet
          case rel =>
            obtain ⟨es', F', h1, h2⟩ := SZ.out
            exact Lib.hid ⟨es', F', h1.trans EL.out, h2.more (by omega)⟩
        · have t1B : ((t : Int) == 1) = false := by simp; omega
          by_cases e2 : t = 2
          · subst e2
            go_wp2_with fail
            refine (curBytes b a l cap _ 6 _ hl (by omega) (by omega) S2.out.I).mono ?_
            rintro e w3 ⟨c, bs, rfl, ho, hbs, hI, hg⟩
            have S3 := Lib.hid (S2.out.pick hI hg)
            obtain ⟨x, nx, zx, _, c0, c1, c2⟩ := S3.out.cells (j := p) (by rw [EL.out]; exact hpn)
            have f1 := S3.out.row.row.frozenAt (p * 3 + 2)
            obtain ⟨ac, cc, hc, _⟩ := byteSIn_shape ho.read
            subst hc
            have SZ := Lib.hid (S2.out.put2 (j := p) (by rw [EL.out]; exact hpn) ho rfl (by omega) hI hg)
            clear hI hg S2 ho
            go_wp2_with fail
            go_meet
            case rel =>
              obtain ⟨es', F', h1, h2⟩ := SZ.out
              exact Lib.hid ⟨es', F', h1.trans EL.out, h2.more (by omega)⟩
          · have t2B : ((t : Int) == 2) = false := by simp; omega
            go_wp2_with fail
            go_meet
            case rel => exact Lib.hid ⟨es, F, EL.out, S2.out.more (by omega)⟩
    case rest =>
      have SE := Lib.hid (show DrawnBad w0 b a l cap (m + 20) (some ⟨g, 0, none⟩) co n (.returned (.slice (some ⟨g, 0, none⟩) n co)) wc from ⟨rfl, hcut.out⟩)
      clear hcut
      go_wp2
      go_ret
      exact SE.out
end Go.Proofs.Ytmkgddbdkpkgpaa
end
