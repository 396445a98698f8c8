/- StD in one. Written by tools/join2.py. -/
import Derived.Test.YtmkgddbdkpkgpaaJS33
import Derived.Test.YtmkgddbdkpkgpaaJS19
import Derived.Deep.RegionHeld3
import Derived.Deep.DeepCutAuto
import Derived.Deep.CutBlock
section
namespace Go.Proofs.Ytmkgddbdkpkgpaa
open Go.RowKit
set_option linter.unusedVariables false
set_option linter.unusedSimpArgs false
set_option maxRecDepth 100000

theorem lit3_at (p : Nat) (h : p < 3) : ∃ u : Nat, u ≤ 30 ∧ (#[.int .i64 4, .int .i64 14, .int .i64 30] : Array Value)[p]? = some (.int .i64 (u : Int)) := by
  rcases (show p = 0 ∨ p = 1 ∨ p = 2 from by omega) with rfl | rfl | rfl
  · exact ⟨4, by omega, rfl⟩
  · exact ⟨14, by omega, rfl⟩
  · exact ⟨30, by omega, rfl⟩
theorem BsSt.base {P : BlkM → Prop} {w W W' : World} {b : Nat} {a : Option Addr} {l : List UInt8} {cap m : Nat} {ao : Option Addr} {co : Nat} {es : List (Elt BlkM 3)} {F : Nat → Foot} (s : BsSt P W W' b a l cap m ao co es F) (hg : w.grownBy W (some b)) (hb : b < w.heap.size) : BsSt P w W' b a l cap m ao co es F :=
  ⟨s.row.low block_ong hg.size, s.bd, hb, s.I, grown_trans hg s.G⟩
/-- What a drawing of a stash leaves. -/
def DrawnStash (b : Nat) (a : Option Addr) (l : List UInt8) (cap m : Nat) (w : World) (e : Ending) (w' : World) : Prop :=
  ∃ (ao : Option Addr) (co n : Nat) (x y : Int), e = .returned (.tuple #[.slice ao n co, .int .i64 x, .int .i64 y]) ∧ n ≤ 200 ∧ (-9223372036854775808 ≤ x ∧ x ≤ 9223372036854775807) ∧ (-9223372036854775808 ≤ y ∧ y ≤ 9223372036854775807) ∧ ∃ (es : List (Elt BlkM 3)) (F : Nat → Foot), es.length = n ∧ BsSt blkT w w' b a l cap m ao co es F
set_option maxHeartbeats 4000000 in
theorem curStash (b : Nat) (a : Option Addr) (l : List UInt8) (cap m : Nat) (w : World) (hl : l.length ≤ 1048576) (hm : m ≤ 10000000000000000) (h : CurI w b a l cap m) :
    Calls Try.prog 44 #[.pointer (some ⟨b, 0, none⟩)] w (DrawnStash b a l cap (m + 1000) w) := by
  have I0 := Lib.hid h
  have hbw := h.lt
  clear h
  go_enter Try.func44, Try.ntmps44
  go_wp2_with fail
  refine (curFrame b a l cap m _ hl (by omega) I0.out).mono ?_
  rintro e w2 ⟨x, y, rfl, hx, hy, hI, hg⟩
  have I2 := Lib.hid hI
  have G2 := Lib.hid hg
  have HX := Lib.hid hx
  have HY := Lib.hid hy
  have hb2 : b < w2.heap.size := hI.lt
  obtain ⟨g, hg4, CL⟩ := specClip x
  have CLH := Lib.hid CL
  obtain ⟨u0, v, hv1, hv5, hmax, hmin⟩ := clip_at 1 5 1 5 rfl rfl (by omega) y
  clear hI hg I0 hx hy CL
  go_upto_region 2 with fail
  go_cut [7] (fun vl wx => ∃ (ao : Option Addr) (co n : Nat), vl = .slice ao n co ∧ n ≤ 30 ∧ Hid (∃ (es : List (Elt BlkM 3)) (F : Nat → Foot), es.length = n ∧ BsSt blkT w2 wx b a l cap (m + 400) ao co es F))
  case first =>
    refine wp_region_held_drew (S := fun _ => True) (by kernel_rfl) trivial (fun hHeld => ?_)
    refine wpAnyH_take (i := 0) (oi := ?on_0) (v := ?vn_0) ?hin_0 (by kernel_rfl) (by kernel_rfl) (by kernel_rfl) ?hqn_0 ?hyn_0 (by assumption) ?rn_0
    case hin_0 => (simp only [List.getElem?_toArray, List.getElem?_cons_succ, List.getElem?_cons_zero]; rfl)
    case hqn_0 => exact fun _ _ _ h => h
    case hyn_0 =>
      refine Or.inl ⟨by rfl, ?_⟩; intro wq hSw; (try dsimp only at hSw); go_simp; (try with_reducible rfl); done
    try simp only [Act.put, List.setIfInBounds_toArray, List.set_cons_zero, List.set_cons_succ]
    refine wpAnyH_take (i := 2) (oi := ?on_2) (v := ?vn_2) ?hin_2 (by kernel_rfl) (by kernel_rfl) (by kernel_rfl) ?hqn_2 ?hyn_2 (by assumption) ?rn_2
    case hin_2 => (simp only [List.getElem?_toArray, List.getElem?_cons_succ, List.getElem?_cons_zero]; rfl)
    case hqn_2 => exact fun _ _ _ h => h
    case hyn_2 =>
      refine Or.inl ⟨by rfl, ?_⟩; intro wq hSw; (try dsimp only at hSw); go_simp; (try with_reducible rfl); done
    try simp only [Act.put, List.setIfInBounds_toArray, List.set_cons_zero, List.set_cons_succ]
    refine wpAnyH_take (i := 6) (oi := ?on_6) (v := ?vn_6) ?hin_6 (by kernel_rfl) (by kernel_rfl) (by kernel_rfl) ?hqn_6 ?hyn_6 (by assumption) ?rn_6
    case hin_6 => (simp only [List.getElem?_toArray, List.getElem?_cons_succ, List.getElem?_cons_zero]; rfl)
    case hqn_6 => exact fun _ _ _ h => h
    case hyn_6 =>
      refine Or.inl ⟨by rfl, ?_⟩; intro wq hSw; (try dsimp only at hSw); go_simp; (try with_reducible rfl); done
    try simp only [Act.put, List.setIfInBounds_toArray, List.set_cons_zero, List.set_cons_succ]
    refine wpAnyH_take (i := 8) (oi := ?on_8) (v := ?vn_8) ?hin_8 (by kernel_rfl) (by kernel_rfl) (by kernel_rfl) ?hqn_8 ?hyn_8 (by assumption) ?rn_8
    case hin_8 => (simp only [List.getElem?_toArray, List.getElem?_cons_succ, List.getElem?_cons_zero]; rfl)
    case hqn_8 => exact fun _ _ _ h => h
    case hyn_8 =>
      refine Or.inl ⟨by rfl, ?_⟩; intro wq hSw; (try dsimp only at hSw); go_simp; (try with_reducible rfl); done
    try simp only [Act.put, List.setIfInBounds_toArray, List.set_cons_zero, List.set_cons_succ]
    refine wpAnyH_take (i := 9) (oi := ?on_9) (v := ?vn_9) ?hin_9 (by kernel_rfl) (by kernel_rfl) (by kernel_rfl) ?hqn_9 ?hyn_9 (by assumption) ?rn_9
    case hin_9 => (simp only [List.getElem?_toArray, List.getElem?_cons_succ, List.getElem?_cons_zero]; rfl)
    case hqn_9 => exact fun _ _ _ h => h
    case hyn_9 =>
      refine Or.inl ⟨by rfl, ?_⟩; intro wq hSw; (try dsimp only at hSw); go_simp; (try with_reducible rfl); done
    try simp only [Act.put, List.setIfInBounds_toArray, List.set_cons_zero, List.set_cons_succ]
    refine wpAnyH_take (i := 10) (oi := ?on_10) (v := ?vn_10) ?hin_10 (by kernel_rfl) (by kernel_rfl) (by kernel_rfl) ?hqn_10 ?hyn_10 (by assumption) ?rn_10
    case hin_10 => (simp only [List.getElem?_toArray, List.getElem?_cons_succ, List.getElem?_cons_zero]; rfl)
    case hqn_10 => exact fun _ _ _ h => h
    case hyn_10 =>
      refine Or.inl ⟨by rfl, ?_⟩; intro wq hSw; (try dsimp only at hSw); go_simp; (try with_reducible rfl); done
    try simp only [Act.put, List.setIfInBounds_toArray, List.set_cons_zero, List.set_cons_succ]
    have I0 := Lib.hid (I2.out.below (belowN 1))
    have G0 := Lib.hid (drewN_grown w2 1 (some b))
    refine wpAnyH_ready (rs := [1, 3]) (by kernel_rfl) (by simp) ?_
    refine AllReadyH.cons (by simp only [List.getElem?_toArray, List.getElem?_cons_succ, List.getElem?_cons_zero]; rfl) (fun K hK => ?xp) (AllReadyH.cons (by simp only [List.getElem?_toArray, List.getElem?_cons_succ, List.getElem?_cons_zero]; rfl) (fun K hK => ?yp) AllReadyH.nil)
    case xp =>
      have bxpl := below_box (Below.refl w2.drew.heap.size w2.drew) (.cells #[.int .i64 4, .int .i64 14, .int .i64 30] 3)
      have Ipl := Lib.hid (I0.out.below bxpl)
      have Gpl := Lib.hid (grown_trans G0.out (World.grownBy_alloc w2.drew (.cells #[.int .i64 4, .int .i64 14, .int .i64 30] 3) (some b)))
      have Hpl : Hid ((World.heap (w2.drew.alloc (.cells #[.int .i64 4, .int .i64 14, .int .i64 30] 3)))[w2.heap.size]? = some (.cells #[.int .i64 4, .int .i64 14, .int .i64 30] 3 (0, 0))) := Lib.hid (alloc_at w2.drew (.cells #[.int .i64 4, .int .i64 14, .int .i64 30] 3) _ (by simp))
      clear bxpl
      go_simp
      refine hK.out _ _ trivial (fun hH1 => ?_)
      clear hK K hHeld
      try simp only [Act.put, List.setIfInBounds_toArray, List.set_cons_zero, List.set_cons_succ]
      refine wpAnyH_ready (rs := [3]) (by kernel_rfl) (by simp) ?_
      refine AllReadyH.cons (by simp only [List.getElem?_toArray, List.getElem?_cons_succ, List.getElem?_cons_zero]; rfl) (fun K hK => ?_) AllReadyH.nil
      refine step_callW (w2.drew.alloc (.cells #[.int .i64 4, .int .i64 14, .int .i64 30] 3)) rfl (by rfl) 46 _ _ rfl _ (by kernel_rfl) Try.call46 _ (curPick b a l cap _ 3 _ hl (by omega) (by omega) Ipl.out) ?_
      rintro e wplp ⟨p, rfl, hp, hI, hg⟩
      refine ⟨_, rfl, ?_⟩
      have Iplp := Lib.hid hI
      have Gplp := Lib.hid (grown_trans Gpl.out hg)
      have hp3 : p < 3 := by omega
      have Hplp := Lib.hid (kept_grown Hpl.out hg (by intro e; have e := Option.some.inj e; omega))
      clear hI hg hp
      have hbwplp : b < wplp.heap.size := Iplp.out.lt
      refine hK.out _ _ trivial (fun hH3 => ?_)
      clear hK K hH1
      try simp only [Act.put, List.setIfInBounds_toArray, List.set_cons_zero, List.set_cons_succ]
      obtain ⟨u, hu, hul⟩ := lit3_at p hp3
      have hp0 : (0 : Int) ≤ (p : Int) := by omega
      have hp1 : (p : Int) < 3 := by omega
      have qplpi := (cur_cell Hplp.out p).trans hul
      refine wpAnyH_take (i := 4) (oi := ?onplpi_4) (v := ?vnplpi_4) ?hinplpi_4 (by kernel_rfl) (by kernel_rfl) (by kernel_rfl) ?hqnplpi_4 ?hynplpi_4 (by assumption) ?rnplpi_4
      case hinplpi_4 => (simp only [List.getElem?_toArray, List.getElem?_cons_succ, List.getElem?_cons_zero]; rfl)
      case hqnplpi_4 => exact fun _ _ _ h => h
      case hynplpi_4 =>
        refine Or.inl ⟨by rfl, ?_⟩; intro wq hSw; (try dsimp only at hSw); go_simp; (try with_reducible rfl); done
      try simp only [Act.put, List.setIfInBounds_toArray, List.set_cons_zero, List.set_cons_succ]
      refine wpAnyH_ready (rs := [5, 7]) (by kernel_rfl) (by simp) ?_
      refine AllReadyH.cons (by simp only [List.getElem?_toArray, List.getElem?_cons_succ, List.getElem?_cons_zero]; rfl) (fun K hK => ?xplpi) (AllReadyH.cons (by simp only [List.getElem?_toArray, List.getElem?_cons_succ, List.getElem?_cons_zero]; rfl) (fun K hK => ?yplpi) AllReadyH.nil)
      case xplpi =>
        go_simp
        refine hK.out _ _ trivial (fun hH4 => ?_)
        clear hK K hH3
        try simp only [Act.put, List.setIfInBounds_toArray, List.set_cons_zero, List.set_cons_succ]
        clear qplpi
        refine wpAnyH_ready (rs := [7]) (by kernel_rfl) (by simp) ?_
        refine AllReadyH.cons (by simp only [List.getElem?_toArray, List.getElem?_cons_succ, List.getElem?_cons_zero]; rfl) (fun K hK => ?_) AllReadyH.nil
        refine step_callW wplp rfl (by rfl) 47 _ _ rfl _ (by kernel_rfl) Try.call47 _ (CLH.out _) ?_
        rintro e wplpidc ⟨rfl, hwplpidc⟩
        replace hwplpidc := hwplpidc.symm
        subst hwplpidc
        refine ⟨_, rfl, ?_⟩
        refine hK.out _ _ trivial (fun hH6 => ?_)
        clear hK K hH4
        try simp only [Act.put, List.setIfInBounds_toArray, List.set_cons_zero, List.set_cons_succ]
        refine wpAnyH_ready (rs := [11]) (by kernel_rfl) (by simp) ?_
        refine AllReadyH.cons (by simp only [List.getElem?_toArray, List.getElem?_cons_succ, List.getElem?_cons_zero]; rfl) (fun K hK => ?_) AllReadyH.nil
        refine step_callW wplp rfl (by rfl) 71 _ _ rfl _ (by kernel_rfl) Try.call71 _ (curBlocks b a l cap _ u g v _ hl (by omega) (by omega) (by omega) (by omega) Iplp.out) ?_
        rintro e wz ⟨ao, co, es, F, rfl, hel, hS⟩
        refine ⟨_, rfl, ?_⟩
        have Z := Lib.hid (show ∃ (es' : List (Elt BlkM 3)) (F' : Nat → Foot), es'.length = es.length ∧ BsSt blkT w2 wz b a l cap (m + 400) ao co es' F' from ⟨es, F, rfl, ((hS.weak (fun t ht => blkS_T (by omega) ht)).more (by omega)).base Gplp.out hb2⟩)
        have hel30 : es.length ≤ 30 := by omega
        clear hS hel
        refine hK.out _ _ trivial (fun hH7 => ?_)
        clear hK K hH6
        try simp only [Act.put, List.setIfInBounds_toArray, List.set_cons_zero, List.set_cons_succ]
        refine wpAnyH_ready (rs := [12]) (by kernel_rfl) (by simp) ?_
        refine AllReadyH.cons (by simp only [List.getElem?_toArray, List.getElem?_cons_succ, List.getElem?_cons_zero]; rfl) (fun K hK => ?_) AllReadyH.nil
        go_simp
        refine hK.out _ _ trivial (fun hH8 => ?_)
        clear hK K hH7
        try simp only [Act.put, List.setIfInBounds_toArray, List.set_cons_zero, List.set_cons_succ]
        refine wpAnyH_done (by kernel_rfl) ?_ _
        go_wp2_with fail
        go_meet
        exact ⟨_, _, _, rfl, hel30, Z⟩
      case yplpi =>
        refine step_callW wplp rfl (by rfl) 47 _ _ rfl _ (by kernel_rfl) Try.call47 _ (CLH.out _) ?_
        rintro e wplpic ⟨rfl, hwplpic⟩
        replace hwplpic := hwplpic.symm
        subst hwplpic
        refine ⟨_, rfl, ?_⟩
        refine hK.out _ _ trivial (fun hH5 => ?_)
        clear hK K hH3
        try simp only [Act.put, List.setIfInBounds_toArray, List.set_cons_zero, List.set_cons_succ]
        refine wpAnyH_ready (rs := [5]) (by kernel_rfl) (by simp) ?_
        refine AllReadyH.cons (by simp only [List.getElem?_toArray, List.getElem?_cons_succ, List.getElem?_cons_zero]; rfl) (fun K hK => ?_) AllReadyH.nil
        go_simp
        refine hK.out _ _ trivial (fun hH9 => ?_)
        clear hK K hH5
        try simp only [Act.put, List.setIfInBounds_toArray, List.set_cons_zero, List.set_cons_succ]
        clear qplpi
        refine wpAnyH_ready (rs := [11]) (by kernel_rfl) (by simp) ?_
        refine AllReadyH.cons (by simp only [List.getElem?_toArray, List.getElem?_cons_succ, List.getElem?_cons_zero]; rfl) (fun K hK => ?_) AllReadyH.nil
        refine step_callW wplp rfl (by rfl) 71 _ _ rfl _ (by kernel_rfl) Try.call71 _ (curBlocks b a l cap _ u g v _ hl (by omega) (by omega) (by omega) (by omega) Iplp.out) ?_
        rintro e wz ⟨ao, co, es, F, rfl, hel, hS⟩
        refine ⟨_, rfl, ?_⟩
        have Z := Lib.hid (show ∃ (es' : List (Elt BlkM 3)) (F' : Nat → Foot), es'.length = es.length ∧ BsSt blkT w2 wz b a l cap (m + 400) ao co es' F' from ⟨es, F, rfl, ((hS.weak (fun t ht => blkS_T (by omega) ht)).more (by omega)).base Gplp.out hb2⟩)
        have hel30 : es.length ≤ 30 := by omega
        clear hS hel
        refine hK.out _ _ trivial (fun hH10 => ?_)
        clear hK K hH9
        try simp only [Act.put, List.setIfInBounds_toArray, List.set_cons_zero, List.set_cons_succ]
        refine wpAnyH_ready (rs := [12]) (by kernel_rfl) (by simp) ?_
        refine AllReadyH.cons (by simp only [List.getElem?_toArray, List.getElem?_cons_succ, List.getElem?_cons_zero]; rfl) (fun K hK => ?_) AllReadyH.nil
        go_simp
        refine hK.out _ _ trivial (fun hH11 => ?_)
        clear hK K hH10
        try simp only [Act.put, List.setIfInBounds_toArray, List.set_cons_zero, List.set_cons_succ]
        refine wpAnyH_done (by kernel_rfl) ?_ _
        go_wp2_with fail
        go_meet
        exact ⟨_, _, _, rfl, hel30, Z⟩
    case yp =>
      refine step_callW w2.drew rfl (by rfl) 46 _ _ rfl _ (by kernel_rfl) Try.call46 _ (curPick b a l cap _ 3 _ hl (by omega) (by omega) I0.out) ?_
      rintro e wpp ⟨p, rfl, hp, hI, hg⟩
      refine ⟨_, rfl, ?_⟩
      have Ipp := Lib.hid hI
      have Gpp := Lib.hid (grown_trans G0.out hg)
      have hp3 : p < 3 := by omega
      clear hI hg hp
      have hbwpp : b < wpp.heap.size := Ipp.out.lt
      refine hK.out _ _ trivial (fun hH2 => ?_)
      clear hK K hHeld
      try simp only [Act.put, List.setIfInBounds_toArray, List.set_cons_zero, List.set_cons_succ]
      refine wpAnyH_ready (rs := [1, 7]) (by kernel_rfl) (by simp) ?_
      refine AllReadyH.cons (by simp only [List.getElem?_toArray, List.getElem?_cons_succ, List.getElem?_cons_zero]; rfl) (fun K hK => ?xpp) (AllReadyH.cons (by simp only [List.getElem?_toArray, List.getElem?_cons_succ, List.getElem?_cons_zero]; rfl) (fun K hK => ?ypp) AllReadyH.nil)
      case xpp =>
        have bxppl := below_box (Below.refl wpp.heap.size wpp) (.cells #[.int .i64 4, .int .i64 14, .int .i64 30] 3)
        have Ippl := Lib.hid (Ipp.out.below bxppl)
        have Gppl := Lib.hid (grown_trans Gpp.out (World.grownBy_alloc wpp (.cells #[.int .i64 4, .int .i64 14, .int .i64 30] 3) (some b)))
        have Hppl : Hid ((World.heap (wpp.alloc (.cells #[.int .i64 4, .int .i64 14, .int .i64 30] 3)))[wpp.heap.size]? = some (.cells #[.int .i64 4, .int .i64 14, .int .i64 30] 3 (0, 0))) := Lib.hid (alloc_at wpp (.cells #[.int .i64 4, .int .i64 14, .int .i64 30] 3) _ (by simp))
        clear bxppl
        go_simp
        refine hK.out _ _ trivial (fun hH12 => ?_)
        clear hK K hH2
        try simp only [Act.put, List.setIfInBounds_toArray, List.set_cons_zero, List.set_cons_succ]
        obtain ⟨u, hu, hul⟩ := lit3_at p hp3
        have hp0 : (0 : Int) ≤ (p : Int) := by omega
        have hp1 : (p : Int) < 3 := by omega
        have qppli := (cur_cell Hppl.out p).trans hul
        refine wpAnyH_take (i := 4) (oi := ?onppli_4) (v := ?vnppli_4) ?hinppli_4 (by kernel_rfl) (by kernel_rfl) (by kernel_rfl) ?hqnppli_4 ?hynppli_4 (by assumption) ?rnppli_4
        case hinppli_4 => (simp only [List.getElem?_toArray, List.getElem?_cons_succ, List.getElem?_cons_zero]; rfl)
        case hqnppli_4 => exact fun _ _ _ h => h
        case hynppli_4 =>
          refine Or.inl ⟨by rfl, ?_⟩; intro wq hSw; (try dsimp only at hSw); go_simp; (try with_reducible rfl); done
        try simp only [Act.put, List.setIfInBounds_toArray, List.set_cons_zero, List.set_cons_succ]
        refine wpAnyH_ready (rs := [5, 7]) (by kernel_rfl) (by simp) ?_
        refine AllReadyH.cons (by simp only [List.getElem?_toArray, List.getElem?_cons_succ, List.getElem?_cons_zero]; rfl) (fun K hK => ?xppli) (AllReadyH.cons (by simp only [List.getElem?_toArray, List.getElem?_cons_succ, List.getElem?_cons_zero]; rfl) (fun K hK => ?yppli) AllReadyH.nil)
        case xppli =>
          go_simp
          refine hK.out _ _ trivial (fun hH14 => ?_)
          clear hK K hH12
          try simp only [Act.put, List.setIfInBounds_toArray, List.set_cons_zero, List.set_cons_succ]
          clear qppli
          refine wpAnyH_ready (rs := [7]) (by kernel_rfl) (by simp) ?_
          refine AllReadyH.cons (by simp only [List.getElem?_toArray, List.getElem?_cons_succ, List.getElem?_cons_zero]; rfl) (fun K hK => ?_) AllReadyH.nil
          refine step_callW (wpp.alloc (.cells #[.int .i64 4, .int .i64 14, .int .i64 30] 3)) rfl (by rfl) 47 _ _ rfl _ (by kernel_rfl) Try.call47 _ (CLH.out _) ?_
          rintro e wpplidc ⟨rfl, hwpplidc⟩
          replace hwpplidc := hwpplidc.symm
          subst hwpplidc
          refine ⟨_, rfl, ?_⟩
          refine hK.out _ _ trivial (fun hH16 => ?_)
          clear hK K hH14
          try simp only [Act.put, List.setIfInBounds_toArray, List.set_cons_zero, List.set_cons_succ]
          refine wpAnyH_ready (rs := [11]) (by kernel_rfl) (by simp) ?_
          refine AllReadyH.cons (by simp only [List.getElem?_toArray, List.getElem?_cons_succ, List.getElem?_cons_zero]; rfl) (fun K hK => ?_) AllReadyH.nil
          refine step_callW (wpp.alloc (.cells #[.int .i64 4, .int .i64 14, .int .i64 30] 3)) rfl (by rfl) 71 _ _ rfl _ (by kernel_rfl) Try.call71 _ (curBlocks b a l cap _ u g v _ hl (by omega) (by omega) (by omega) (by omega) Ippl.out) ?_
          rintro e wz ⟨ao, co, es, F, rfl, hel, hS⟩
          refine ⟨_, rfl, ?_⟩
          have Z := Lib.hid (show ∃ (es' : List (Elt BlkM 3)) (F' : Nat → Foot), es'.length = es.length ∧ BsSt blkT w2 wz b a l cap (m + 400) ao co es' F' from ⟨es, F, rfl, ((hS.weak (fun t ht => blkS_T (by omega) ht)).more (by omega)).base Gppl.out hb2⟩)
          have hel30 : es.length ≤ 30 := by omega
          clear hS hel
          refine hK.out _ _ trivial (fun hH17 => ?_)
          clear hK K hH16
          try simp only [Act.put, List.setIfInBounds_toArray, List.set_cons_zero, List.set_cons_succ]
          refine wpAnyH_ready (rs := [12]) (by kernel_rfl) (by simp) ?_
          refine AllReadyH.cons (by simp only [List.getElem?_toArray, List.getElem?_cons_succ, List.getElem?_cons_zero]; rfl) (fun K hK => ?_) AllReadyH.nil
          go_simp
          refine hK.out _ _ trivial (fun hH18 => ?_)
          clear hK K hH17
          try simp only [Act.put, List.setIfInBounds_toArray, List.set_cons_zero, List.set_cons_succ]
          refine wpAnyH_done (by kernel_rfl) ?_ _
          go_wp2_with fail
          go_meet
          exact ⟨_, _, _, rfl, hel30, Z⟩
        case yppli =>
          refine step_callW (wpp.alloc (.cells #[.int .i64 4, .int .i64 14, .int .i64 30] 3)) rfl (by rfl) 47 _ _ rfl _ (by kernel_rfl) Try.call47 _ (CLH.out _) ?_
          rintro e wpplic ⟨rfl, hwpplic⟩
          replace hwpplic := hwpplic.symm
          subst hwpplic
          refine ⟨_, rfl, ?_⟩
          refine hK.out _ _ trivial (fun hH15 => ?_)
          clear hK K hH12
          try simp only [Act.put, List.setIfInBounds_toArray, List.set_cons_zero, List.set_cons_succ]
          refine wpAnyH_ready (rs := [5]) (by kernel_rfl) (by simp) ?_
          refine AllReadyH.cons (by simp only [List.getElem?_toArray, List.getElem?_cons_succ, List.getElem?_cons_zero]; rfl) (fun K hK => ?_) AllReadyH.nil
          go_simp
          refine hK.out _ _ trivial (fun hH19 => ?_)
          clear hK K hH15
          try simp only [Act.put, List.setIfInBounds_toArray, List.set_cons_zero, List.set_cons_succ]
          clear qppli
          refine wpAnyH_ready (rs := [11]) (by kernel_rfl) (by simp) ?_
          refine AllReadyH.cons (by simp only [List.getElem?_toArray, List.getElem?_cons_succ, List.getElem?_cons_zero]; rfl) (fun K hK => ?_) AllReadyH.nil
          refine step_callW (wpp.alloc (.cells #[.int .i64 4, .int .i64 14, .int .i64 30] 3)) rfl (by rfl) 71 _ _ rfl _ (by kernel_rfl) Try.call71 _ (curBlocks b a l cap _ u g v _ hl (by omega) (by omega) (by omega) (by omega) Ippl.out) ?_
          rintro e wz ⟨ao, co, es, F, rfl, hel, hS⟩
          refine ⟨_, rfl, ?_⟩
          have Z := Lib.hid (show ∃ (es' : List (Elt BlkM 3)) (F' : Nat → Foot), es'.length = es.length ∧ BsSt blkT w2 wz b a l cap (m + 400) ao co es' F' from ⟨es, F, rfl, ((hS.weak (fun t ht => blkS_T (by omega) ht)).more (by omega)).base Gppl.out hb2⟩)
          have hel30 : es.length ≤ 30 := by omega
          clear hS hel
          refine hK.out _ _ trivial (fun hH20 => ?_)
          clear hK K hH19
          try simp only [Act.put, List.setIfInBounds_toArray, List.set_cons_zero, List.set_cons_succ]
          refine wpAnyH_ready (rs := [12]) (by kernel_rfl) (by simp) ?_
          refine AllReadyH.cons (by simp only [List.getElem?_toArray, List.getElem?_cons_succ, List.getElem?_cons_zero]; rfl) (fun K hK => ?_) AllReadyH.nil
          go_simp
          refine hK.out _ _ trivial (fun hH21 => ?_)
          clear hK K hH20
          try simp only [Act.put, List.setIfInBounds_toArray, List.set_cons_zero, List.set_cons_succ]
          refine wpAnyH_done (by kernel_rfl) ?_ _
          go_wp2_with fail
          go_meet
          exact ⟨_, _, _, rfl, hel30, Z⟩
      case ypp =>
        refine step_callW wpp rfl (by rfl) 47 _ _ rfl _ (by kernel_rfl) Try.call47 _ (CLH.out _) ?_
        rintro e wppc ⟨rfl, hwppc⟩
        replace hwppc := hwppc.symm
        subst hwppc
        refine ⟨_, rfl, ?_⟩
        refine hK.out _ _ trivial (fun hH13 => ?_)
        clear hK K hH2
        try simp only [Act.put, List.setIfInBounds_toArray, List.set_cons_zero, List.set_cons_succ]
        refine wpAnyH_ready (rs := [1]) (by kernel_rfl) (by simp) ?_
        refine AllReadyH.cons (by simp only [List.getElem?_toArray, List.getElem?_cons_succ, List.getElem?_cons_zero]; rfl) (fun K hK => ?_) AllReadyH.nil
        have bxppcl := below_box (Below.refl wpp.heap.size wpp) (.cells #[.int .i64 4, .int .i64 14, .int .i64 30] 3)
        have Ippcl := Lib.hid (Ipp.out.below bxppcl)
        have Gppcl := Lib.hid (grown_trans Gpp.out (World.grownBy_alloc wpp (.cells #[.int .i64 4, .int .i64 14, .int .i64 30] 3) (some b)))
        have Hppcl : Hid ((World.heap (wpp.alloc (.cells #[.int .i64 4, .int .i64 14, .int .i64 30] 3)))[wpp.heap.size]? = some (.cells #[.int .i64 4, .int .i64 14, .int .i64 30] 3 (0, 0))) := Lib.hid (alloc_at wpp (.cells #[.int .i64 4, .int .i64 14, .int .i64 30] 3) _ (by simp))
        clear bxppcl
        go_simp
        refine hK.out _ _ trivial (fun hH22 => ?_)
        clear hK K hH13
        try simp only [Act.put, List.setIfInBounds_toArray, List.set_cons_zero, List.set_cons_succ]
        obtain ⟨u, hu, hul⟩ := lit3_at p hp3
        have hp0 : (0 : Int) ≤ (p : Int) := by omega
        have hp1 : (p : Int) < 3 := by omega
        have qppcli := (cur_cell Hppcl.out p).trans hul
        refine wpAnyH_take (i := 4) (oi := ?onppcli_4) (v := ?vnppcli_4) ?hinppcli_4 (by kernel_rfl) (by kernel_rfl) (by kernel_rfl) ?hqnppcli_4 ?hynppcli_4 (by assumption) ?rnppcli_4
        case hinppcli_4 => (simp only [List.getElem?_toArray, List.getElem?_cons_succ, List.getElem?_cons_zero]; rfl)
        case hqnppcli_4 => exact fun _ _ _ h => h
        case hynppcli_4 =>
          refine Or.inl ⟨by rfl, ?_⟩; intro wq hSw; (try dsimp only at hSw); go_simp; (try with_reducible rfl); done
        try simp only [Act.put, List.setIfInBounds_toArray, List.set_cons_zero, List.set_cons_succ]
        refine wpAnyH_ready (rs := [5]) (by kernel_rfl) (by simp) ?_
        refine AllReadyH.cons (by simp only [List.getElem?_toArray, List.getElem?_cons_succ, List.getElem?_cons_zero]; rfl) (fun K hK => ?_) AllReadyH.nil
        go_simp
        refine hK.out _ _ trivial (fun hH23 => ?_)
        clear hK K hH22
        try simp only [Act.put, List.setIfInBounds_toArray, List.set_cons_zero, List.set_cons_succ]
        clear qppcli
        refine wpAnyH_ready (rs := [11]) (by kernel_rfl) (by simp) ?_
        refine AllReadyH.cons (by simp only [List.getElem?_toArray, List.getElem?_cons_succ, List.getElem?_cons_zero]; rfl) (fun K hK => ?_) AllReadyH.nil
        refine step_callW (wpp.alloc (.cells #[.int .i64 4, .int .i64 14, .int .i64 30] 3)) rfl (by rfl) 71 _ _ rfl _ (by kernel_rfl) Try.call71 _ (curBlocks b a l cap _ u g v _ hl (by omega) (by omega) (by omega) (by omega) Ippcl.out) ?_
        rintro e wz ⟨ao, co, es, F, rfl, hel, hS⟩
        refine ⟨_, rfl, ?_⟩
        have Z := Lib.hid (show ∃ (es' : List (Elt BlkM 3)) (F' : Nat → Foot), es'.length = es.length ∧ BsSt blkT w2 wz b a l cap (m + 400) ao co es' F' from ⟨es, F, rfl, ((hS.weak (fun t ht => blkS_T (by omega) ht)).more (by omega)).base Gppcl.out hb2⟩)
        have hel30 : es.length ≤ 30 := by omega
        clear hS hel
        refine hK.out _ _ trivial (fun hH24 => ?_)
        clear hK K hH23
        try simp only [Act.put, List.setIfInBounds_toArray, List.set_cons_zero, List.set_cons_succ]
        refine wpAnyH_ready (rs := [12]) (by kernel_rfl) (by simp) ?_
        refine AllReadyH.cons (by simp only [List.getElem?_toArray, List.getElem?_cons_succ, List.getElem?_cons_zero]; rfl) (fun K hK => ?_) AllReadyH.nil
        go_simp
        refine hK.out _ _ trivial (fun hH25 => ?_)
        clear hK K hH24
        try simp only [Act.put, List.setIfInBounds_toArray, List.set_cons_zero, List.set_cons_succ]
        refine wpAnyH_done (by kernel_rfl) ?_ _
        go_wp2_with fail
        go_meet
        exact ⟨_, _, _, rfl, hel30, Z⟩
  case rest =>
    obtain ⟨ao, co, n, rfl, hn30, HS⟩ := hcut
    clear CLH hmax hmin
    generalize wc = w3 at *
    obtain ⟨es, F, hel, S⟩ := HS.out
    have IS := Lib.hid S.I
    have SK := Lib.hid S
    have HEL := Lib.hid hel
    clear HS S hel
    go_wp2_with fail
    refine (curOnce b a l cap _ 5 _ hl (by omega) (by omega) IS.out).mono ?_
    rintro e w4 ⟨f, rfl, hI, hg⟩
    have S4 := Lib.hid (SK.out.pick hI hg)
    clear hI hg SK IS
    go_upto_if 27 with fail
    go_cut [7] (fun vl wx => vl = .slice ao n co ∧ Hid (∃ (es : List (Elt BlkM 3)) (F : Nat → Foot), es.length = n ∧ BsSt blkT w2 wx b a l cap (m + 430) ao co es F))
    case first =>
      cases f
      · have Z := Lib.hid (show ∃ (es : List (Elt BlkM 3)) (F : Nat → Foot), es.length = n ∧ BsSt blkT w2 w4 b a l cap (m + 430) ao co es F from ⟨es, F, HEL.out, S4.out.more (by omega)⟩)
        clear S4 HEL
        go_wp2_with fail
        go_meet
        exact ⟨rfl, Z⟩
      · go_wp2_with fail
        refine (curBadBlocks w2 b a l cap _ n ao co es F _ hl (by omega) HEL.out (by omega) S4.out).mono ?_
        rintro e w5 ⟨rfl, es', F', hn', hS⟩
        have Z := Lib.hid (show ∃ (es : List (Elt BlkM 3)) (F : Nat → Foot), es.length = n ∧ BsSt blkT w2 w5 b a l cap (m + 430) ao co es F from ⟨es', F', hn', hS.more (by omega)⟩)
        clear S4 HEL hS
        go_wp2_with fail
        go_meet
        exact ⟨rfl, Z⟩
    case rest =>
      obtain ⟨rfl, HS2⟩ := hcut
      clear S4 HEL
      generalize wc = w5 at *
      obtain ⟨es, F, hel, S⟩ := HS2.out
      have IS := Lib.hid S.I
      have SK := Lib.hid S
      have HEL := Lib.hid hel
      clear HS2 S hel
      go_wp2_with fail
      refine (curOnce b a l cap _ 20 _ hl (by omega) (by omega) IS.out).mono ?_
      rintro e w6 ⟨f2, rfl, hI, hg⟩
      have S6 := Lib.hid (SK.out.pick hI hg)
      have I6 := Lib.hid hI
      have hb6 : b < w6.heap.size := hI.lt
      clear hI hg SK IS
      go_upto_if 32 with fail
      go_cut [7] (fun vl wx => ∃ (ao : Option Addr) (co n : Nat), vl = .slice ao n co ∧ n ≤ 200 ∧ Hid (∃ (es : List (Elt BlkM 3)) (F : Nat → Foot), es.length = n ∧ BsSt blkT w2 wx b a l cap (m + 1000) ao co es F))
      case first =>
        cases f2
        · have Z := Lib.hid (show ∃ (es : List (Elt BlkM 3)) (F : Nat → Foot), es.length = n ∧ BsSt blkT w2 w6 b a l cap (m + 1000) ao co es F from ⟨es, F, HEL.out, S6.out.more (by omega)⟩)
          clear S6 HEL
          go_wp2_with fail
          go_meet
          exact ⟨_, _, _, rfl, by omega, Z⟩
        · have G6 := Lib.hid S6.out.G
          have M0 := Lib.hid (BsSt.made (P := blkT) (w := w6) (W := w6.alloc (.cells #[] 26)) hb6 (I6.out.below (below_box (Below.refl _ _) _)) (World.grownBy.refl _ _))
          clear S6 HEL
          obtain ⟨u1, v1, hv11, hv15, hmax, hmin⟩ := clip_at 1 5 1 5 rfl rfl (by omega) y
          obtain ⟨i0, hi, hz0, hz1, hz2⟩ := info_parts Try.info5
          go_wp2_with fail
          go_loopg [7, 8] 129 (fun kk ov iv wr => ∃ (k : Nat) (ao : Option Addr) (co : Nat), k ≤ 129 ∧ 129 - k = kk ∧ ov = .slice ao k co ∧ iv = .int .i64 k ∧ Hid (∃ (es : List (Elt BlkM 3)) (F : Nat → Foot), es.length = k ∧ BsSt blkT w6 wr b a l cap (m + 431 + k) ao co es F))
          case atStart => exact ⟨0, _, _, by omega, rfl, rfl, rfl, Lib.hid ⟨[], _, rfl, M0.out⟩⟩
          case round =>
            clear M0
            obtain ⟨k, ao, co, hk, hkk, rfl, rfl, HS⟩ := hrel
            obtain ⟨es, F, hel, S⟩ := HS.out
            have IS := Lib.hid S.I
            have SK := Lib.hid S
            have HEL := Lib.hid hel
            clear HS S hel
            go_wp2_with fail
            refine (curPick b a l cap _ 2 _ hl (by omega) (by omega) IS.out).mono ?_
            rintro e w7 ⟨r, rfl, hr, hI, hg⟩
            have hr1 : r ≤ 1 := by omega
            have S7 := Lib.hid (SK.out.pick hI hg)
            clear hI hg SK IS hr
            by_cases hlt : (k : Int) < 128 + (r : Int)
            · have hk128 : k ≤ 128 := by omega
              go_wp2_with (at_make; refine wpList_make_full _ rfl _ _ 22 rfl w7.heap.size 5 i0 (.int .u8 0) 1 Try.underlying22 hi hz0 hz1 .i64 .i64 _ _ v1 rfl rfl rfl rfl (by rw [hz2]; omega) (by unfold maxLen; omega) (by simp) ?_)
              intro w8 hown hgr
              rw [toList_madeCells_one] at hown
              have hown2 : w8.ownsRow w7.heap.size 5 1 (.slice (some ⟨w7.heap.size, 0, none⟩) v1 v1) v1 ((List.replicate v1 (0 : UInt8)).map bval) := by simpa [bval] using hown
              obtain ⟨x8, hx8⟩ : ∃ x, x = (some ⟨w7.heap.size, 0, none⟩ : Option Addr) := ⟨_, rfl⟩
              have BO : BlockOwn w7.heap.size w8.heap.size [.int .i64 (k : Int), .int .i64 0, .slice (some ⟨w7.heap.size, 0, none⟩) v1 v1] ⟨(k : Int), 0, List.replicate v1 0⟩ w8 := by
                obtain ⟨f, f1, f2⟩ := (ByteSOwn.mk hown2).toO
                exact ⟨f, ⟨_, rfl, f1⟩, f2⟩
              have b8 := grown_below hgr
              have SN := Lib.hid (fun v5 w5 ho5 hg5 => S7.out.snoc (v5 := v5) (w5 := w5) (r := ⟨(k : Int), 0, List.replicate v1 0⟩) rfl rfl ⟨⟨⟨by simp only; omega, by simp only; omega⟩, ⟨by simp only; omega, by simp only; omega⟩⟩, by simp; omega⟩ BO rfl (S7.out.I.below b8) (below_grown b8 (some b)) ho5 hg5)
              rw [HEL.out] at SN
              have ROW := Lib.hid (own_below S7.out.row.row (below_seq b8 (below_box (Below.refl w8.heap.size w8) (.cells #[.int .i64 (k : Int), .int .i64 0, .slice (some ⟨w7.heap.size, 0, none⟩) v1 v1] 26))))
              rw [HEL.out] at ROW
              have hs8 : w6.heap.size ≤ w8.heap.size := Nat.le_trans S7.out.G.size hgr.size
              clear hown hown2 hgr BO b8 S7 HEL hx8
              go_wp2_with (at_builtin; go_must (refine wp_app_rowS rfl _ _ 24 rfl 26 _ 3 40 Try.underlying24 Try.infoBlk rfl (by omega) w6.heap.size k (.slice ao k co) (flatG eltL es) (by rfl) ROW.out (some ⟨w8.heap.size, 0, none⟩) 1 1 [.int .i64 (k : Int), .int .i64 0, .slice (some ⟨w7.heap.size, 0, none⟩) v1 v1] (by rfl) rfl (lit_rowB w8 [.int .i64 (k : Int), .int .i64 0, .slice (some ⟨w7.heap.size, 0, none⟩) v1 v1] 26) (by intro u hu; simp at hu; rcases hu with rfl | rfl | rfl <;> rfl) (by unfold maxLen; omega) (by omega) (by simp; omega) ?_); intro v5 w5 ho5 hg5)
              obtain ⟨a5, c5, rfl, es', F', p1, p2⟩ := SN.out v5 w5 ho5 hg5
              have Z := Lib.hid (show ∃ (es : List (Elt BlkM 3)) (F : Nat → Foot), es.length = k + 1 ∧ BsSt blkT w6 w5 b a l cap (m + 431 + (k + 1)) a5 c5 es F from ⟨es', F', p1, p2.more (by omega)⟩)
              clear SN ROW ho5 hg5 p1 p2
              go_wp2
              go_roundg (129 - (k + 1))
              case measure => omega
              case rel => exact ⟨k + 1, _, _, by omega, rfl, by go_num, by go_num, Z⟩
            · have Z := Lib.hid (show ∃ (es : List (Elt BlkM 3)) (F : Nat → Foot), es.length = k ∧ BsSt blkT w2 w7 b a l cap (m + 1000) ao co es F from ⟨es, F, HEL.out, (S7.out.more (by omega)).base G6.out hb2⟩)
              clear S7 HEL
              go_wp2_with fail
              go_meet
              exact ⟨_, _, _, rfl, by omega, Z⟩
      case rest =>
        obtain ⟨ao', co', n', rfl, hn', HS⟩ := hcut
        have Z := Lib.hid (show DrawnStash b a l cap (m + 1000) w (.returned (.tuple #[.slice ao' n' co', .int .i64 x, .int .i64 y])) wc from by
          obtain ⟨es', F', h1, h2⟩ := HS.out
          exact ⟨ao', co', n', x, y, rfl, hn', HX.out, HY.out, es', F', h1, h2.base G2.out hbw⟩)
        clear HS S6 HEL I6 I2 G2 HX HY
        go_wp2
        exact bodyPost_ret (v := .tuple #[.slice ao' n' co', .int .i64 x, .int .i64 y]) (by simp [results, Try.results44, go_sem]) rfl Z.out
end Go.Proofs.Ytmkgddbdkpkgpaa
end
