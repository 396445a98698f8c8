/- StJ in one. Written by tools/join2.py. -/
import Derived.Test.YtmkgddbdkpkgpaaJS35
section
namespace Go.Proofs.Ytmkgddbdkpkgpaa
open Go.RowKit
set_option linter.unusedVariables false
set_option linter.unusedSimpArgs false
set_option maxRecDepth 100000

theorem lit2_at (p1 p2 : Nat) (h1 : p1 < 20) (h : p2 < 2) : ∃ u : Nat, u ≤ 200 ∧ (#[.int .i64 (p1 : Int), .int .i64 200] : Array Value)[p2]? = some (.int .i64 (u : Int)) := by
  rcases (show p2 = 0 ∨ p2 = 1 from by omega) with rfl | rfl
  · exact ⟨p1, by omega, rfl⟩
  · exact ⟨200, by omega, rfl⟩
theorem own_box3x {lo hi b : Nat} {cs : List Value} {m : BlkM} {w : World} (h : BlockOwn lo hi cs m w) (hb : b < lo ∨ hi ≤ b) (v0 v1 v2 : Value) : BlockOwn lo hi cs m (((w.setCell ⟨b, 0, none⟩ v0).setCell ⟨b, 1, none⟩ v1).setCell ⟨b, 2, none⟩ v2) := by
  obtain ⟨F, h1, h2⟩ := h
  refine ⟨F, block_ong.sup h1 (fun x hx => ?_), h2⟩
  have k1 := (block_ong.at_ h1 x hx).1
  have k2 := h2 x hx
  rw [Below.heap_setCell _ _ _ x (by simp; omega), Below.heap_setCell _ _ _ x (by simp; omega), Below.heap_setCell _ _ _ x (by simp; omega)]
/-- While the block is at hand: it lies in block T. -/
structure PSt (w3 W : World) (b : Nat) (a : Option Addr) (l : List UInt8) (cap m T : Nat) (r : BlkM) (a' : Option Addr) (q c' : Nat) : Prop where
  tb : W.heap[T]? = some (.cells #[.int .i64 r.id, .int .i64 r.leaf, .slice a' q c'] 26 (0, 0))
  ow : ∃ lo hi, BlockOwn lo hi [.int .i64 r.id, .int .i64 r.leaf, .slice a' q c'] r W ∧ w3.heap.size ≤ lo ∧ hi ≤ W.heap.size ∧ (T < lo ∨ hi ≤ T)
  hT : w3.heap.size ≤ T
  bd : blkBd r ∧ r.data.length ≤ 8
  I : CurI W b a l cap m
  G : w3.grownBy W (some b)
  h : b < w3.heap.size
theorem PSt.store {w3 U : World} {b : Nat} {a : Option Addr} {l : List UInt8} {cap m m' T lo hi : Nat} {r : BlkM} {a' : Option Addr} {q c' : Nat} {r0 r1 : Int} (hz : U.heap[T]? = some (.cells #[.int .i64 0, .int .i64 0, .slice none 0 0] 26 (0, 0))) (ho : BlockOwn lo hi [.int .i64 r0, .int .i64 r1, .slice a' q c'] r U) (hs : (T < lo ∨ hi ≤ T) ∧ hi ≤ U.heap.size) (hlo : w3.heap.size ≤ lo) (hT : w3.heap.size ≤ T) (hbd : blkBd r ∧ r.data.length ≤ 8) (hI : CurI U b a l cap m) (hm : m ≤ m') (hG : w3.grownBy U (some b)) (hb : b < w3.heap.size) (h0 : r.id = r0) (h1 : r.leaf = r1) (h2 : r.data.length = q) :
    PSt w3 (((U.setCell ⟨T, 0, none⟩ (.int .i64 r0)).setCell ⟨T, 1, none⟩ (.int .i64 r1)).setCell ⟨T, 2, none⟩ (.slice a' q c')) b a l cap m' T r a' q c' := by
  subst h0 h1
  have B : Below w3.heap.size U (((U.setCell ⟨T, 0, none⟩ (.int .i64 r.id)).setCell ⟨T, 1, none⟩ (.int .i64 r.leaf)).setCell ⟨T, 2, none⟩ (.slice a' q c')) := (((Below.refl w3.heap.size U).setCell (p := ⟨T, 0, none⟩) hT _).setCell (p := ⟨T, 1, none⟩) hT _).setCell (p := ⟨T, 2, none⟩) hT _
  have hc := cur_set (cur_set (cur_set hz 0 (.int .i64 r.id)) 1 (.int .i64 r.leaf)) 2 (.slice a' q c')
  exact ⟨by simpa using hc, ⟨lo, hi, own_box3x ho hs.1 _ _ _, hlo, Nat.le_trans hs.2 B.size, hs.1⟩, hT, hbd, (hI.low B hb).more hm, grown_low hG B, hb⟩
theorem PSt.fresh {w3 U : World} {b : Nat} {a : Option Addr} {l : List UInt8} {cap m m' lo hi : Nat} {r : BlkM} {a' : Option Addr} {q c' : Nat} {r0 r1 : Int} (ho : BlockOwn lo hi [.int .i64 r0, .int .i64 r1, .slice a' q c'] r U) (hlo : w3.heap.size ≤ lo) (hbd : blkBd r ∧ r.data.length ≤ 8) (hI : CurI U b a l cap m) (hm : m ≤ m') (hG : w3.grownBy U (some b)) (hb : b < w3.heap.size) (h0 : r.id = r0) (h1 : r.leaf = r1) (h2 : r.data.length = q) :
    PSt w3 (U.alloc (.cells #[.int .i64 r0, .int .i64 r1, .slice a' q c'] 26)) b a l cap m' U.heap.size r a' q c' := by
  subst h0 h1
  have B := below_box (Below.refl U.heap.size U) (.cells #[.int .i64 r.id, .int .i64 r.leaf, .slice a' q c'] 26)
  obtain ⟨F, f1, f2⟩ := ho
  have f3 : ∀ x, F x → x < U.heap.size := fun x hx => (block_ong.at_ f1 x hx).2
  exact ⟨alloc_at _ _ _ rfl, ⟨lo, U.heap.size, ⟨F, block_ong.sup f1 (fun x hx => alloc_old _ _ _ (f3 x hx)), f3⟩, hlo, B.size, .inr (Nat.le_refl _)⟩, hG.size, hbd, (hI.below B).more hm, grown_trans hG (World.grownBy_alloc U _ (some b)), hb⟩
theorem PSt.pick {w3 W W' : World} {b : Nat} {a : Option Addr} {l : List UInt8} {cap m m' T : Nat} {r : BlkM} {a' : Option Addr} {q c' : Nat} (s : PSt w3 W b a l cap m T r a' q c') (hI : CurI W' b a l cap m') (hg : W.grownBy W' (some b)) : PSt w3 W' b a l cap m' T r a' q c' := by
  obtain ⟨lo, hi, ⟨F, f1, f2⟩, h1, h2, h3⟩ := s.ow
  have hb := s.h
  have hT := s.hT
  refine ⟨kept_grown s.tb hg (fun e => by have e := Option.some.inj e; omega), ⟨lo, hi, ⟨F, block_ong.sup f1 (fun x hx => hg.block x (block_ong.at_ f1 x hx).2 (fun e => by have e := Option.some.inj e; have := (block_ong.at_ f1 x hx).1; omega)), f2⟩, h1, Nat.le_trans h2 hg.size, h3⟩, s.hT, s.bd, hI, grown_trans s.G hg, hb⟩
theorem PSt.leaf {w3 W : World} {b : Nat} {a : Option Addr} {l : List UInt8} {cap m T : Nat} {r : BlkM} {a' : Option Addr} {q c' : Nat} (s : PSt w3 W b a l cap m T r a' q c') {z : Int} (hz : -9223372036854775808 ≤ z ∧ z ≤ 9223372036854775807) : PSt w3 (W.setCell ⟨T, 1, none⟩ (.int .i64 z)) b a l cap m T ⟨r.id, z, r.data⟩ a' q c' := by
  have hT := s.hT
  have B : Below w3.heap.size W (W.setCell ⟨T, 1, none⟩ (.int .i64 z)) := (Below.refl w3.heap.size W).setCell (p := ⟨T, 1, none⟩) hT _
  have hc := cur_set s.tb 1 (.int .i64 z)
  obtain ⟨lo, hi, ⟨F, ⟨c, hcc, hO⟩, f2⟩, h1, h2, h3⟩ := s.ow
  refine ⟨by simpa using hc, ⟨lo, hi, ⟨F, ⟨c, by simpa using hcc, byteS_ong.sup hO (fun x hx => ?_)⟩, f2⟩, h1, Nat.le_trans h2 B.size, h3⟩, hT, ⟨⟨s.bd.1.1, hz⟩, s.bd.2⟩, s.I.low B s.h, grown_low s.G B, s.h⟩
  have k1 := (byteS_ong.at_ hO x hx).1
  have k2 := f2 x hx
  exact Below.heap_setCell _ _ _ x (by simp; omega)
theorem PSt.more {w3 W : World} {b : Nat} {a : Option Addr} {l : List UInt8} {cap m m' T : Nat} {r : BlkM} {a' : Option Addr} {q c' : Nat} (s : PSt w3 W b a l cap m T r a' q c') (h : m ≤ m') : PSt w3 W b a l cap m' T r a' q c' := ⟨s.tb, s.ow, s.hT, s.bd, s.I.more h, s.G, s.h⟩
theorem ownS_box3 {lo hi b : Nat} {c : Value} {l : List BlkM} {w : World} (h : BlockSOwn lo hi [c] l w) (hb : b < lo) (v0 v1 v2 : Value) : BlockSOwn lo hi [c] l (((w.setCell ⟨b, 0, none⟩ v0).setCell ⟨b, 1, none⟩ v1).setCell ⟨b, 2, none⟩ v2) := by
  obtain ⟨F, h1, h2⟩ := h
  refine ⟨F, blockS_ong.sup h1 (fun x hx => ?_), h2⟩
  have := (blockS_ong.at_ h1 x hx).1
  rw [Below.heap_setCell _ _ _ x (by simp; omega), Below.heap_setCell _ _ _ x (by simp; omega), Below.heap_setCell _ _ _ x (by simp; omega)]
/-- What DrawStashPut leaves. -/
def DrawnSp (w : World) (e : Ending) (w' : World) : Prop :=
  ∃ (c : Value) (t : List BlkM) (c0 c1 c2 : Value) (r : BlkM) (x y : Int), e = .returned (.tuple #[c, .agg #[c0, c1, c2], .int .i64 x, .int .i64 y]) ∧ BlockSOwn w.heap.size w'.heap.size [c] t w' ∧ BlockOwn w.heap.size w'.heap.size [c0, c1, c2] r w' ∧ szBlockS t ≤ 2000 ∧ szBlock r ≤ 8 ∧ blkBd r ∧ (-9223372036854775808 ≤ x ∧ x ≤ 9223372036854775807) ∧ (-9223372036854775808 ≤ y ∧ y ≤ 9223372036854775807) ∧ Below w.heap.size w w'
set_option maxHeartbeats 8000000 in
theorem drawStashPut (a : Option Addr) (l : List UInt8) (cap : Nat) (w : World) (hl : l.length ≤ 1048576) (r : Row w a (l.map bval)) : Calls Try.prog 12 #[.slice a l.length cap] w (DrawnSp w) := by
  have R := Lib.hid (r.below (below_box (Below.refl w.heap.size w) (.cells #[.int .i64 0, .int .i64 0, .slice none 0 0] 26)))
  clear r
  go_enter Try.func12, Try.ntmps12
  go_wp2_with fail
  refine (curOpen a l cap _ hl R.out).mono ?_
  rintro e w1 ⟨rfl, hI1, hb1⟩
  have B1 := Lib.hid (below_seq (below_box (Below.refl w.heap.size w) (.cells #[.int .i64 0, .int .i64 0, .slice none 0 0] 26)) hb1)
  have K1 := Lib.hid (kept_block (alloc_at w (.cells #[.int .i64 0, .int .i64 0, .slice none 0 0] 26) _ rfl) hb1)
  simp only [size_box] at hI1 ⊢
  have I1 := Lib.hid hI1
  obtain ⟨b, hbb⟩ : ∃ b, w.heap.size + 1 = b := ⟨_, rfl⟩
  rw [hbb] at I1 ⊢
  have hbs : w.heap.size < b := by omega
  obtain ⟨m, hm⟩ : ∃ m : Nat, m = 1000 := ⟨_, rfl⟩
  clear hI1 hb1 R
  go_wp2_with fail
  refine (curStash b a l cap 0 _ hl (by omega) I1.out).mono ?_
  rintro e w3 ⟨ao, co, n, x, y, rfl, hn, hx, hy, es, F, hel, hS⟩
  have S3 := Lib.hid hS
  have HX := Lib.hid hx
  have HY := Lib.hid hy
  have HEL := Lib.hid hel
  have I3 := Lib.hid (show CurI w3 b a l cap m from hS.I.more (by omega))
  have hb1 : b < w1.heap.size := hS.h
  have K3 := Lib.hid (kept_grown K1.out hS.G (by simp; omega))
  have hb3 : b < w3.heap.size := hS.I.lt
  obtain ⟨g, hg4, CL⟩ := specClip x
  have CLH := Lib.hid CL
  obtain ⟨u0, v, hv1, hv5, hmax, hmin⟩ := clip_at 1 5 1 5 rfl rfl (by omega) y
  clear hS hx hy hel I1 K1 CL
  go_upto_region 3 with fail
  go_cut [10] (fun p wx => ∃ (T : Nat) (r : BlkM) (a' : Option Addr) (q c' : Nat), p = .pointer (some ⟨T, 0, none⟩) ∧ Hid (PSt w3 wx b a l cap (m + 60) T r a' q c'))
  case first =>
    refine wp_region_held_drew (S := fun _ => True) (by kernel_rfl) trivial (fun hHeld => ?_)
    refine wpAnyH_take (i := 0) (oi := ?on_0) (v := ?vn_0) ?hin_0 (by kernel_rfl) (by kernel_rfl) (by kernel_rfl) ?hqn_0 ?hyn_0 (by assumption) ?rn_0
    case hin_0 => (simp only [List.getElem?_toArray, List.getElem?_cons_succ, List.getElem?_cons_zero]; rfl)
    case hqn_0 => exact fun _ _ _ h => h
    case hyn_0 =>
      refine Or.inl ⟨by rfl, ?_⟩; intro wq hSw; (try dsimp only at hSw); go_simp; (try with_reducible rfl); done
    try simp only [Act.put, List.setIfInBounds_toArray, List.set_cons_zero, List.set_cons_succ]
    refine wpAnyH_take (i := 1) (oi := ?on_1) (v := ?vn_1) ?hin_1 (by kernel_rfl) (by kernel_rfl) (by kernel_rfl) ?hqn_1 ?hyn_1 (by assumption) ?rn_1
    case hin_1 => (simp only [List.getElem?_toArray, List.getElem?_cons_succ, List.getElem?_cons_zero]; rfl)
    case hqn_1 => exact fun _ _ _ h => h
    case hyn_1 =>
      refine Or.inl ⟨by rfl, ?_⟩; intro wq hSw; (try dsimp only at hSw); go_simp; (try with_reducible rfl); done
    try simp only [Act.put, List.setIfInBounds_toArray, List.set_cons_zero, List.set_cons_succ]
    refine wpAnyH_take (i := 4) (oi := ?on_4) (v := ?vn_4) ?hin_4 (by kernel_rfl) (by kernel_rfl) (by kernel_rfl) ?hqn_4 ?hyn_4 (by assumption) ?rn_4
    case hin_4 => (simp only [List.getElem?_toArray, List.getElem?_cons_succ, List.getElem?_cons_zero]; rfl)
    case hqn_4 => exact fun _ _ _ h => h
    case hyn_4 =>
      refine Or.inl ⟨by rfl, ?_⟩; intro wq hSw; (try dsimp only at hSw); go_simp; (try with_reducible rfl); done
    try simp only [Act.put, List.setIfInBounds_toArray, List.set_cons_zero, List.set_cons_succ]
    refine wpAnyH_take (i := 8) (oi := ?on_8) (v := ?vn_8) ?hin_8 (by kernel_rfl) (by kernel_rfl) (by kernel_rfl) ?hqn_8 ?hyn_8 (by assumption) ?rn_8
    case hin_8 => (simp only [List.getElem?_toArray, List.getElem?_cons_succ, List.getElem?_cons_zero]; rfl)
    case hqn_8 => exact fun _ _ _ h => h
    case hyn_8 =>
      refine Or.inl ⟨by rfl, ?_⟩; intro wq hSw; (try dsimp only at hSw); go_simp; (try with_reducible rfl); done
    try simp only [Act.put, List.setIfInBounds_toArray, List.set_cons_zero, List.set_cons_succ]
    refine wpAnyH_take (i := 10) (oi := ?on_10) (v := ?vn_10) ?hin_10 (by kernel_rfl) (by kernel_rfl) (by kernel_rfl) ?hqn_10 ?hyn_10 (by assumption) ?rn_10
    case hin_10 => (simp only [List.getElem?_toArray, List.getElem?_cons_succ, List.getElem?_cons_zero]; rfl)
    case hqn_10 => exact fun _ _ _ h => h
    case hyn_10 =>
      refine Or.inl ⟨by rfl, ?_⟩; intro wq hSw; (try dsimp only at hSw); go_simp; (try with_reducible rfl); done
    try simp only [Act.put, List.setIfInBounds_toArray, List.set_cons_zero, List.set_cons_succ]
    refine wpAnyH_take (i := 11) (oi := ?on_11) (v := ?vn_11) ?hin_11 (by kernel_rfl) (by kernel_rfl) (by kernel_rfl) ?hqn_11 ?hyn_11 (by assumption) ?rn_11
    case hin_11 => (simp only [List.getElem?_toArray, List.getElem?_cons_succ, List.getElem?_cons_zero]; rfl)
    case hqn_11 => exact fun _ _ _ h => h
    case hyn_11 =>
      refine Or.inl ⟨by rfl, ?_⟩; intro wq hSw; (try dsimp only at hSw); go_simp; (try with_reducible rfl); done
    try simp only [Act.put, List.setIfInBounds_toArray, List.set_cons_zero, List.set_cons_succ]
    refine wpAnyH_take (i := 12) (oi := ?on_12) (v := ?vn_12) ?hin_12 (by kernel_rfl) (by kernel_rfl) (by kernel_rfl) ?hqn_12 ?hyn_12 (by assumption) ?rn_12
    case hin_12 => (simp only [List.getElem?_toArray, List.getElem?_cons_succ, List.getElem?_cons_zero]; rfl)
    case hqn_12 => exact fun _ _ _ h => h
    case hyn_12 =>
      refine Or.inl ⟨by rfl, ?_⟩; intro wq hSw; (try dsimp only at hSw); go_simp; (try with_reducible rfl); done
    try simp only [Act.put, List.setIfInBounds_toArray, List.set_cons_zero, List.set_cons_succ]
    have I0 := Lib.hid (I3.out.below (belowN 1))
    have G0 := Lib.hid (drewN_grown w3 1 (some b))
    refine wpAnyH_ready (rs := [2, 14]) (by kernel_rfl) (by simp) ?_
    refine AllReadyH.cons (by simp only [List.getElem?_toArray, List.getElem?_cons_succ, List.getElem?_cons_zero]; rfl) (fun K hK => ?rp2) (AllReadyH.cons (by simp only [List.getElem?_toArray, List.getElem?_cons_succ, List.getElem?_cons_zero]; rfl) (fun K hK => ?rp14) AllReadyH.nil)
    case rp2 =>
      refine step_callW w3.drew rfl (by rfl) 46 _ _ rfl _ (by kernel_rfl) Try.call46 _ (curPick b a l cap _ 20 _ hl (by omega) (by omega) I0.out) ?_
      rintro e wpp1 ⟨p1, rfl, hp, hI, hg⟩
      refine ⟨_, rfl, ?_⟩
      have Ipp1 := Lib.hid hI
      have Gpp1 := Lib.hid (grown_trans G0.out hg)
      have hp20 : p1 < 20 := by omega
      clear hI hg
      have hbwpp1 : b < wpp1.heap.size := Ipp1.out.lt
      clear hp
      refine hK.out _ _ trivial (fun hH1 => ?_)
      clear hK K hHeld
      try simp only [Act.put, List.setIfInBounds_toArray, List.set_cons_zero, List.set_cons_succ]
      refine wpAnyH_ready (rs := [3, 5, 14]) (by kernel_rfl) (by simp) ?_
      refine AllReadyH.cons (by simp only [List.getElem?_toArray, List.getElem?_cons_succ, List.getElem?_cons_zero]; rfl) (fun K hK => ?rpp13) (AllReadyH.cons (by simp only [List.getElem?_toArray, List.getElem?_cons_succ, List.getElem?_cons_zero]; rfl) (fun K hK => ?rpp15) (AllReadyH.cons (by simp only [List.getElem?_toArray, List.getElem?_cons_succ, List.getElem?_cons_zero]; rfl) (fun K hK => ?rpp114) AllReadyH.nil))
      case rpp13 =>
        have bxpp1l := below_box (Below.refl wpp1.heap.size wpp1) (.cells #[.int .i64 (p1 : Int), .int .i64 200] 3)
        have Ipp1l := Lib.hid (Ipp1.out.below bxpp1l)
        have Gpp1l := Lib.hid (grown_trans Gpp1.out (World.grownBy_alloc wpp1 (.cells #[.int .i64 (p1 : Int), .int .i64 200] 3) (some b)))
        have Hpp1l : Hid ((World.heap (wpp1.alloc (.cells #[.int .i64 (p1 : Int), .int .i64 200] 3)))[wpp1.heap.size]? = some (.cells #[.int .i64 (p1 : Int), .int .i64 200] 3 (0, 0))) := Lib.hid (alloc_at wpp1 (.cells #[.int .i64 (p1 : Int), .int .i64 200] 3) _ (by simp))
        clear bxpp1l
        go_simp
        refine hK.out _ _ trivial (fun hH2 => ?_)
        clear hK K hH1
        try simp only [Act.put, List.setIfInBounds_toArray, List.set_cons_zero, List.set_cons_succ]
        refine wpAnyH_ready (rs := [5, 14]) (by kernel_rfl) (by simp) ?_
        refine AllReadyH.cons (by simp only [List.getElem?_toArray, List.getElem?_cons_succ, List.getElem?_cons_zero]; rfl) (fun K hK => ?rpp1l5) (AllReadyH.cons (by simp only [List.getElem?_toArray, List.getElem?_cons_succ, List.getElem?_cons_zero]; rfl) (fun K hK => ?rpp1l14) AllReadyH.nil)
        case rpp1l5 =>
          refine step_callW (wpp1.alloc (.cells #[.int .i64 (p1 : Int), .int .i64 200] 3)) rfl (by rfl) 46 _ _ rfl _ (by kernel_rfl) Try.call46 _ (curPick b a l cap _ 2 _ hl (by omega) (by omega) Ipp1l.out) ?_
          rintro e wpp1lp2 ⟨p2, rfl, hp, hI, hg⟩
          refine ⟨_, rfl, ?_⟩
          have Ipp1lp2 := Lib.hid hI
          have Gpp1lp2 := Lib.hid (grown_trans Gpp1l.out hg)
          have Hpp1lp2 := Lib.hid (kept_grown Hpp1l.out hg (by intro e; have e := Option.some.inj e; omega))
          have hp2 : p2 < 2 := by omega
          clear hI hg
          have hbwpp1lp2 : b < wpp1lp2.heap.size := Ipp1lp2.out.lt
          clear hp
          refine hK.out _ _ trivial (fun hH3 => ?_)
          clear hK K hH2
          try simp only [Act.put, List.setIfInBounds_toArray, List.set_cons_zero, List.set_cons_succ]
          obtain ⟨u, hu, hul⟩ := lit2_at p1 p2 hp20 hp2
          have hp0 : (0 : Int) ≤ (p2 : Int) := by omega
          have hp1 : (p2 : Int) < 2 := by omega
          have qpp1lp2i := (cur_cell Hpp1lp2.out p2).trans hul
          refine wpAnyH_take (i := 6) (oi := ?onpp1lp2i_6) (v := ?vnpp1lp2i_6) ?hinpp1lp2i_6 (by kernel_rfl) (by kernel_rfl) (by kernel_rfl) ?hqnpp1lp2i_6 ?hynpp1lp2i_6 (by assumption) ?rnpp1lp2i_6
          case hinpp1lp2i_6 => (simp only [List.getElem?_toArray, List.getElem?_cons_succ, List.getElem?_cons_zero]; rfl)
          case hqnpp1lp2i_6 => exact fun _ _ _ h => h
          case hynpp1lp2i_6 =>
            refine Or.inl ⟨by rfl, ?_⟩; intro wq hSw; (try dsimp only at hSw); go_simp; (try with_reducible rfl); done
          try simp only [Act.put, List.setIfInBounds_toArray, List.set_cons_zero, List.set_cons_succ]
          refine wpAnyH_ready (rs := [7, 9, 14]) (by kernel_rfl) (by simp) ?_
          refine AllReadyH.cons (by simp only [List.getElem?_toArray, List.getElem?_cons_succ, List.getElem?_cons_zero]; rfl) (fun K hK => ?rpp1lp2i7) (AllReadyH.cons (by simp only [List.getElem?_toArray, List.getElem?_cons_succ, List.getElem?_cons_zero]; rfl) (fun K hK => ?rpp1lp2i9) (AllReadyH.cons (by simp only [List.getElem?_toArray, List.getElem?_cons_succ, List.getElem?_cons_zero]; rfl) (fun K hK => ?rpp1lp2i14) AllReadyH.nil))
          case rpp1lp2i7 =>
            have qdpp1lp2id : World.cell? wpp1lp2 ⟨wpp1.heap.size, p2, none⟩ = some (.int .i64 (u : Int)) := (cur_cell Hpp1lp2.out p2).trans hul
            go_simp
            refine hK.out _ _ trivial (fun hH4 => ?_)
            clear hK K hH3
            try simp only [Act.put, List.setIfInBounds_toArray, List.set_cons_zero, List.set_cons_succ]
            clear qdpp1lp2id
            refine wpAnyH_ready (rs := [9, 14]) (by kernel_rfl) (by simp) ?_
            refine AllReadyH.cons (by simp only [List.getElem?_toArray, List.getElem?_cons_succ, List.getElem?_cons_zero]; rfl) (fun K hK => ?rpp1lp2id9) (AllReadyH.cons (by simp only [List.getElem?_toArray, List.getElem?_cons_succ, List.getElem?_cons_zero]; rfl) (fun K hK => ?rpp1lp2id14) AllReadyH.nil)
            case rpp1lp2id9 =>
              refine step_callW wpp1lp2 rfl (by rfl) 47 _ _ rfl _ (by kernel_rfl) Try.call47 _ (CLH.out _) ?_
              rintro e wpp1lp2idc ⟨rfl, hwpp1lp2idc⟩
              replace hwpp1lp2idc := hwpp1lp2idc.symm
              subst hwpp1lp2idc
              refine ⟨_, rfl, ?_⟩
              refine hK.out _ _ trivial (fun hH5 => ?_)
              clear hK K hH4
              try simp only [Act.put, List.setIfInBounds_toArray, List.set_cons_zero, List.set_cons_succ]
              refine wpAnyH_ready (rs := [13, 14]) (by kernel_rfl) (by simp) ?_
              refine AllReadyH.cons (by simp only [List.getElem?_toArray, List.getElem?_cons_succ, List.getElem?_cons_zero]; rfl) (fun K hK => ?rpp1lp2idc13) (AllReadyH.cons (by simp only [List.getElem?_toArray, List.getElem?_cons_succ, List.getElem?_cons_zero]; rfl) (fun K hK => ?rpp1lp2idc14) AllReadyH.nil)
              case rpp1lp2idc13 =>
                refine step_callW wpp1lp2 rfl (by rfl) 45 _ _ rfl _ (by kernel_rfl) Try.call45 _ (curBlock b a l cap _ (u : Int) g v _ hl (by omega) (by omega) (by omega) (by omega) Ipp1lp2.out) ?_
                rintro e wpp1lp2idcb ⟨r, a9, c9, rfl, hrz, hrl, hrv, ho, hI, hg⟩
                refine ⟨_, rfl, ?_⟩
                have Ipp1lp2idcb := Lib.hid hI
                have Gpp1lp2idcb := Lib.hid (grown_trans Gpp1lp2.out hg)
                have Hpp1lp2idcb := Lib.hid (kept_grown Hpp1lp2.out hg (by intro e; have e := Option.some.inj e; omega))
                have OBpp1lp2idcb := Lib.hid ho
                have hsopp1lp2idcb := hg.size
                have hbd : blkBd r ∧ r.data.length ≤ 8 := ⟨⟨by omega, by omega⟩, by omega⟩
                clear ho hrz hrl hrv
                obtain ⟨r0, hr0⟩ : ∃ z, r.id = z := ⟨_, rfl⟩
                obtain ⟨r1, hr1⟩ : ∃ z, r.leaf = z := ⟨_, rfl⟩
                obtain ⟨rq, hrq⟩ : ∃ z, r.data.length = z := ⟨_, rfl⟩
                rw [hr0, hr1, hrq] at OBpp1lp2idcb ⊢
                clear hI hg
                have hbwpp1lp2idcb : b < wpp1lp2idcb.heap.size := Ipp1lp2idcb.out.lt
                refine hK.out _ _ trivial (fun hH6 => ?_)
                clear hK K hH5
                try simp only [Act.put, List.setIfInBounds_toArray, List.set_cons_zero, List.set_cons_succ]
                refine wpAnyH_ready (rs := [14]) (by kernel_rfl) (by simp) ?_
                refine AllReadyH.cons (by simp only [List.getElem?_toArray, List.getElem?_cons_succ, List.getElem?_cons_zero]; rfl) (fun K hK => ?_) AllReadyH.nil
                have bxpp1lp2idcbz := below_box (Below.refl wpp1lp2idcb.heap.size wpp1lp2idcb) (.cells #[.int .i64 0, .int .i64 0, .slice none 0 0] 26)
                have Ipp1lp2idcbz := Lib.hid (Ipp1lp2idcb.out.below bxpp1lp2idcbz)
                have Gpp1lp2idcbz := Lib.hid (grown_trans Gpp1lp2idcb.out (World.grownBy_alloc wpp1lp2idcb (.cells #[.int .i64 0, .int .i64 0, .slice none 0 0] 26) (some b)))
                have Hpp1lp2idcbz := Lib.hid (kept_block Hpp1lp2idcb.out bxpp1lp2idcbz)
                have OBpp1lp2idcbz := Lib.hid (((BlockOwn.lies OBpp1lp2idcb.out (Nat.le_refl _)).below bxpp1lp2idcbz).now)
                have HZpp1lp2idcbz : Hid ((World.heap (wpp1lp2idcb.alloc (.cells #[.int .i64 0, .int .i64 0, .slice none 0 0] 26)))[wpp1lp2idcb.heap.size]? = some (.cells #[.int .i64 0, .int .i64 0, .slice none 0 0] 26 (0, 0))) := Lib.hid (alloc_at wpp1lp2idcb (.cells #[.int .i64 0, .int .i64 0, .slice none 0 0] 26) _ (by simp))
                clear bxpp1lp2idcbz
                go_simp
                refine hK.out _ _ trivial (fun hH7 => ?_)
                clear hK K hH6
                try simp only [Act.put, List.setIfInBounds_toArray, List.set_cons_zero, List.set_cons_succ]
                refine wpAnyH_ready (rs := [15]) (by kernel_rfl) (by simp) ?_
                refine AllReadyH.cons (by simp only [List.getElem?_toArray, List.getElem?_cons_succ, List.getElem?_cons_zero]; rfl) (fun K hK => ?_) AllReadyH.nil
                have z0 := cur_cell HZpp1lp2idcbz.out 0
                have z1 := cur_cell HZpp1lp2idcbz.out 1
                have z2 := cur_cell HZpp1lp2idcbz.out 2
                have f0 := cur_free HZpp1lp2idcbz.out 0
                have f1 := cur_free HZpp1lp2idcbz.out 1
                have f2 := cur_free HZpp1lp2idcbz.out 2
                simp at z0 z1 z2
                have Z := Lib.hid (PSt.fresh (w3 := w3) (m' := m + 60) OBpp1lp2idcb.out Gpp1lp2.out.size hbd Ipp1lp2idcb.out (by omega) Gpp1lp2idcb.out hb3 hr0 hr1 hrq)
                go_simp
                refine hK.out _ _ trivial (fun hH8 => ?_)
                clear hK K hH7
                try simp only [Act.put, List.setIfInBounds_toArray, List.set_cons_zero, List.set_cons_succ]
                clear z0 z1 z2 f0 f1 f2
                refine wpAnyH_done (by kernel_rfl) ?_ _
                go_wp2_with fail
                go_meet
                exact ⟨_, r, _, _, _, rfl, Z⟩
              case rpp1lp2idc14 =>
                have bxpp1lp2idcz := below_box (Below.refl wpp1lp2.heap.size wpp1lp2) (.cells #[.int .i64 0, .int .i64 0, .slice none 0 0] 26)
                have Ipp1lp2idcz := Lib.hid (Ipp1lp2.out.below bxpp1lp2idcz)
                have Gpp1lp2idcz := Lib.hid (grown_trans Gpp1lp2.out (World.grownBy_alloc wpp1lp2 (.cells #[.int .i64 0, .int .i64 0, .slice none 0 0] 26) (some b)))
                have Hpp1lp2idcz := Lib.hid (kept_block Hpp1lp2.out bxpp1lp2idcz)
                have HZpp1lp2idcz : Hid ((World.heap (wpp1lp2.alloc (.cells #[.int .i64 0, .int .i64 0, .slice none 0 0] 26)))[wpp1lp2.heap.size]? = some (.cells #[.int .i64 0, .int .i64 0, .slice none 0 0] 26 (0, 0))) := Lib.hid (alloc_at wpp1lp2 (.cells #[.int .i64 0, .int .i64 0, .slice none 0 0] 26) _ (by simp))
                clear bxpp1lp2idcz
                go_simp
                refine hK.out _ _ trivial (fun hH9 => ?_)
                clear hK K hH5
                try simp only [Act.put, List.setIfInBounds_toArray, List.set_cons_zero, List.set_cons_succ]
                refine wpAnyH_ready (rs := [13]) (by kernel_rfl) (by simp) ?_
                refine AllReadyH.cons (by simp only [List.getElem?_toArray, List.getElem?_cons_succ, List.getElem?_cons_zero]; rfl) (fun K hK => ?_) AllReadyH.nil
                refine step_callW (wpp1lp2.alloc (.cells #[.int .i64 0, .int .i64 0, .slice none 0 0] 26)) rfl (by rfl) 45 _ _ rfl _ (by kernel_rfl) Try.call45 _ (curBlock b a l cap _ (u : Int) g v _ hl (by omega) (by omega) (by omega) (by omega) Ipp1lp2idcz.out) ?_
                rintro e wpp1lp2idczb ⟨r, a9, c9, rfl, hrz, hrl, hrv, ho, hI, hg⟩
                refine ⟨_, rfl, ?_⟩
                have Ipp1lp2idczb := Lib.hid hI
                have Gpp1lp2idczb := Lib.hid (grown_trans Gpp1lp2idcz.out hg)
                have Hpp1lp2idczb := Lib.hid (kept_grown Hpp1lp2idcz.out hg (by intro e; have e := Option.some.inj e; omega))
                have HZpp1lp2idczb := Lib.hid (kept_grown HZpp1lp2idcz.out hg (by intro e; have e := Option.some.inj e; omega))
                have OBpp1lp2idczb := Lib.hid ho
                have hsopp1lp2idczb := hg.size
                have hbd : blkBd r ∧ r.data.length ≤ 8 := ⟨⟨by omega, by omega⟩, by omega⟩
                clear ho hrz hrl hrv
                obtain ⟨r0, hr0⟩ : ∃ z, r.id = z := ⟨_, rfl⟩
                obtain ⟨r1, hr1⟩ : ∃ z, r.leaf = z := ⟨_, rfl⟩
                obtain ⟨rq, hrq⟩ : ∃ z, r.data.length = z := ⟨_, rfl⟩
                rw [hr0, hr1, hrq] at OBpp1lp2idczb ⊢
                clear hI hg
                have hbwpp1lp2idczb : b < wpp1lp2idczb.heap.size := Ipp1lp2idczb.out.lt
                refine hK.out _ _ trivial (fun hH10 => ?_)
                clear hK K hH9
                try simp only [Act.put, List.setIfInBounds_toArray, List.set_cons_zero, List.set_cons_succ]
                refine wpAnyH_ready (rs := [15]) (by kernel_rfl) (by simp) ?_
                refine AllReadyH.cons (by simp only [List.getElem?_toArray, List.getElem?_cons_succ, List.getElem?_cons_zero]; rfl) (fun K hK => ?_) AllReadyH.nil
                have z0 := cur_cell HZpp1lp2idczb.out 0
                have z1 := cur_cell HZpp1lp2idczb.out 1
                have z2 := cur_cell HZpp1lp2idczb.out 2
                have f0 := cur_free HZpp1lp2idczb.out 0
                have f1 := cur_free HZpp1lp2idczb.out 1
                have f2 := cur_free HZpp1lp2idczb.out 2
                simp at z0 z1 z2
                have Z := Lib.hid (PSt.store (w3 := w3) (m' := m + 60) HZpp1lp2idczb.out OBpp1lp2idczb.out ⟨.inl (cur_lt HZpp1lp2idcz.out), Nat.le_refl _⟩ Gpp1lp2idcz.out.size (Nat.le_trans Gpp1lp2.out.size (by simp)) hbd Ipp1lp2idczb.out (by omega) Gpp1lp2idczb.out hb3 hr0 hr1 hrq)
                go_simp
                refine hK.out _ _ trivial (fun hH11 => ?_)
                clear hK K hH10
                try simp only [Act.put, List.setIfInBounds_toArray, List.set_cons_zero, List.set_cons_succ]
                clear z0 z1 z2 f0 f1 f2
                refine wpAnyH_done (by kernel_rfl) ?_ _
                go_wp2_with fail
                go_meet
                exact ⟨_, r, _, _, _, rfl, Z⟩
            case rpp1lp2id14 =>
              have bxpp1lp2idz := below_box (Below.refl wpp1lp2.heap.size wpp1lp2) (.cells #[.int .i64 0, .int .i64 0, .slice none 0 0] 26)
              have Ipp1lp2idz := Lib.hid (Ipp1lp2.out.below bxpp1lp2idz)
              have Gpp1lp2idz := Lib.hid (grown_trans Gpp1lp2.out (World.grownBy_alloc wpp1lp2 (.cells #[.int .i64 0, .int .i64 0, .slice none 0 0] 26) (some b)))
              have Hpp1lp2idz := Lib.hid (kept_block Hpp1lp2.out bxpp1lp2idz)
              have HZpp1lp2idz : Hid ((World.heap (wpp1lp2.alloc (.cells #[.int .i64 0, .int .i64 0, .slice none 0 0] 26)))[wpp1lp2.heap.size]? = some (.cells #[.int .i64 0, .int .i64 0, .slice none 0 0] 26 (0, 0))) := Lib.hid (alloc_at wpp1lp2 (.cells #[.int .i64 0, .int .i64 0, .slice none 0 0] 26) _ (by simp))
              clear bxpp1lp2idz
              go_simp
              refine hK.out _ _ trivial (fun hH12 => ?_)
              clear hK K hH4
              try simp only [Act.put, List.setIfInBounds_toArray, List.set_cons_zero, List.set_cons_succ]
              refine wpAnyH_ready (rs := [9]) (by kernel_rfl) (by simp) ?_
              refine AllReadyH.cons (by simp only [List.getElem?_toArray, List.getElem?_cons_succ, List.getElem?_cons_zero]; rfl) (fun K hK => ?_) AllReadyH.nil
              refine step_callW (wpp1lp2.alloc (.cells #[.int .i64 0, .int .i64 0, .slice none 0 0] 26)) rfl (by rfl) 47 _ _ rfl _ (by kernel_rfl) Try.call47 _ (CLH.out _) ?_
              rintro e wpp1lp2idzc ⟨rfl, hwpp1lp2idzc⟩
              replace hwpp1lp2idzc := hwpp1lp2idzc.symm
              subst hwpp1lp2idzc
              refine ⟨_, rfl, ?_⟩
              refine hK.out _ _ trivial (fun hH13 => ?_)
              clear hK K hH12
              try simp only [Act.put, List.setIfInBounds_toArray, List.set_cons_zero, List.set_cons_succ]
              refine wpAnyH_ready (rs := [13]) (by kernel_rfl) (by simp) ?_
              refine AllReadyH.cons (by simp only [List.getElem?_toArray, List.getElem?_cons_succ, List.getElem?_cons_zero]; rfl) (fun K hK => ?_) AllReadyH.nil
              refine step_callW (wpp1lp2.alloc (.cells #[.int .i64 0, .int .i64 0, .slice none 0 0] 26)) rfl (by rfl) 45 _ _ rfl _ (by kernel_rfl) Try.call45 _ (curBlock b a l cap _ (u : Int) g v _ hl (by omega) (by omega) (by omega) (by omega) Ipp1lp2idz.out) ?_
              rintro e wpp1lp2idzcb ⟨r, a9, c9, rfl, hrz, hrl, hrv, ho, hI, hg⟩
              refine ⟨_, rfl, ?_⟩
              have Ipp1lp2idzcb := Lib.hid hI
              have Gpp1lp2idzcb := Lib.hid (grown_trans Gpp1lp2idz.out hg)
              have Hpp1lp2idzcb := Lib.hid (kept_grown Hpp1lp2idz.out hg (by intro e; have e := Option.some.inj e; omega))
              have HZpp1lp2idzcb := Lib.hid (kept_grown HZpp1lp2idz.out hg (by intro e; have e := Option.some.inj e; omega))
              have OBpp1lp2idzcb := Lib.hid ho
              have hsopp1lp2idzcb := hg.size
              have hbd : blkBd r ∧ r.data.length ≤ 8 := ⟨⟨by omega, by omega⟩, by omega⟩
              clear ho hrz hrl hrv
              obtain ⟨r0, hr0⟩ : ∃ z, r.id = z := ⟨_, rfl⟩
              obtain ⟨r1, hr1⟩ : ∃ z, r.leaf = z := ⟨_, rfl⟩
              obtain ⟨rq, hrq⟩ : ∃ z, r.data.length = z := ⟨_, rfl⟩
              rw [hr0, hr1, hrq] at OBpp1lp2idzcb ⊢
              clear hI hg
              have hbwpp1lp2idzcb : b < wpp1lp2idzcb.heap.size := Ipp1lp2idzcb.out.lt
              refine hK.out _ _ trivial (fun hH14 => ?_)
              clear hK K hH13
              try simp only [Act.put, List.setIfInBounds_toArray, List.set_cons_zero, List.set_cons_succ]
              refine wpAnyH_ready (rs := [15]) (by kernel_rfl) (by simp) ?_
              refine AllReadyH.cons (by simp only [List.getElem?_toArray, List.getElem?_cons_succ, List.getElem?_cons_zero]; rfl) (fun K hK => ?_) AllReadyH.nil
              have z0 := cur_cell HZpp1lp2idzcb.out 0
              have z1 := cur_cell HZpp1lp2idzcb.out 1
              have z2 := cur_cell HZpp1lp2idzcb.out 2
              have f0 := cur_free HZpp1lp2idzcb.out 0
              have f1 := cur_free HZpp1lp2idzcb.out 1
              have f2 := cur_free HZpp1lp2idzcb.out 2
              simp at z0 z1 z2
              have Z := Lib.hid (PSt.store (w3 := w3) (m' := m + 60) HZpp1lp2idzcb.out OBpp1lp2idzcb.out ⟨.inl (cur_lt HZpp1lp2idz.out), Nat.le_refl _⟩ Gpp1lp2idz.out.size (Nat.le_trans Gpp1lp2.out.size (by simp)) hbd Ipp1lp2idzcb.out (by omega) Gpp1lp2idzcb.out hb3 hr0 hr1 hrq)
              go_simp
              refine hK.out _ _ trivial (fun hH15 => ?_)
              clear hK K hH14
              try simp only [Act.put, List.setIfInBounds_toArray, List.set_cons_zero, List.set_cons_succ]
              clear z0 z1 z2 f0 f1 f2
              refine wpAnyH_done (by kernel_rfl) ?_ _
              go_wp2_with fail
              go_meet
              exact ⟨_, r, _, _, _, rfl, Z⟩
          case rpp1lp2i9 =>
            refine step_callW wpp1lp2 rfl (by rfl) 47 _ _ rfl _ (by kernel_rfl) Try.call47 _ (CLH.out _) ?_
            rintro e wpp1lp2ic ⟨rfl, hwpp1lp2ic⟩
            replace hwpp1lp2ic := hwpp1lp2ic.symm
            subst hwpp1lp2ic
            refine ⟨_, rfl, ?_⟩
            refine hK.out _ _ trivial (fun hH16 => ?_)
            clear hK K hH3
            try simp only [Act.put, List.setIfInBounds_toArray, List.set_cons_zero, List.set_cons_succ]
            refine wpAnyH_ready (rs := [7, 14]) (by kernel_rfl) (by simp) ?_
            refine AllReadyH.cons (by simp only [List.getElem?_toArray, List.getElem?_cons_succ, List.getElem?_cons_zero]; rfl) (fun K hK => ?rpp1lp2ic7) (AllReadyH.cons (by simp only [List.getElem?_toArray, List.getElem?_cons_succ, List.getElem?_cons_zero]; rfl) (fun K hK => ?rpp1lp2ic14) AllReadyH.nil)
            case rpp1lp2ic7 =>
              have qdpp1lp2icd : World.cell? wpp1lp2 ⟨wpp1.heap.size, p2, none⟩ = some (.int .i64 (u : Int)) := (cur_cell Hpp1lp2.out p2).trans hul
              go_simp
              refine hK.out _ _ trivial (fun hH17 => ?_)
              clear hK K hH16
              try simp only [Act.put, List.setIfInBounds_toArray, List.set_cons_zero, List.set_cons_succ]
              clear qdpp1lp2icd
              refine wpAnyH_ready (rs := [13, 14]) (by kernel_rfl) (by simp) ?_
              refine AllReadyH.cons (by simp only [List.getElem?_toArray, List.getElem?_cons_succ, List.getElem?_cons_zero]; rfl) (fun K hK => ?rpp1lp2icd13) (AllReadyH.cons (by simp only [List.getElem?_toArray, List.getElem?_cons_succ, List.getElem?_cons_zero]; rfl) (fun K hK => ?rpp1lp2icd14) AllReadyH.nil)
              case rpp1lp2icd13 =>
                refine step_callW wpp1lp2 rfl (by rfl) 45 _ _ rfl _ (by kernel_rfl) Try.call45 _ (curBlock b a l cap _ (u : Int) g v _ hl (by omega) (by omega) (by omega) (by omega) Ipp1lp2.out) ?_
                rintro e wpp1lp2icdb ⟨r, a9, c9, rfl, hrz, hrl, hrv, ho, hI, hg⟩
                refine ⟨_, rfl, ?_⟩
                have Ipp1lp2icdb := Lib.hid hI
                have Gpp1lp2icdb := Lib.hid (grown_trans Gpp1lp2.out hg)
                have Hpp1lp2icdb := Lib.hid (kept_grown Hpp1lp2.out hg (by intro e; have e := Option.some.inj e; omega))
                have OBpp1lp2icdb := Lib.hid ho
                have hsopp1lp2icdb := hg.size
                have hbd : blkBd r ∧ r.data.length ≤ 8 := ⟨⟨by omega, by omega⟩, by omega⟩
                clear ho hrz hrl hrv
                obtain ⟨r0, hr0⟩ : ∃ z, r.id = z := ⟨_, rfl⟩
                obtain ⟨r1, hr1⟩ : ∃ z, r.leaf = z := ⟨_, rfl⟩
                obtain ⟨rq, hrq⟩ : ∃ z, r.data.length = z := ⟨_, rfl⟩
                rw [hr0, hr1, hrq] at OBpp1lp2icdb ⊢
                clear hI hg
                have hbwpp1lp2icdb : b < wpp1lp2icdb.heap.size := Ipp1lp2icdb.out.lt
                refine hK.out _ _ trivial (fun hH18 => ?_)
                clear hK K hH17
                try simp only [Act.put, List.setIfInBounds_toArray, List.set_cons_zero, List.set_cons_succ]
                refine wpAnyH_ready (rs := [14]) (by kernel_rfl) (by simp) ?_
                refine AllReadyH.cons (by simp only [List.getElem?_toArray, List.getElem?_cons_succ, List.getElem?_cons_zero]; rfl) (fun K hK => ?_) AllReadyH.nil
                have bxpp1lp2icdbz := below_box (Below.refl wpp1lp2icdb.heap.size wpp1lp2icdb) (.cells #[.int .i64 0, .int .i64 0, .slice none 0 0] 26)
                have Ipp1lp2icdbz := Lib.hid (Ipp1lp2icdb.out.below bxpp1lp2icdbz)
                have Gpp1lp2icdbz := Lib.hid (grown_trans Gpp1lp2icdb.out (World.grownBy_alloc wpp1lp2icdb (.cells #[.int .i64 0, .int .i64 0, .slice none 0 0] 26) (some b)))
                have Hpp1lp2icdbz := Lib.hid (kept_block Hpp1lp2icdb.out bxpp1lp2icdbz)
                have OBpp1lp2icdbz := Lib.hid (((BlockOwn.lies OBpp1lp2icdb.out (Nat.le_refl _)).below bxpp1lp2icdbz).now)
                have HZpp1lp2icdbz : Hid ((World.heap (wpp1lp2icdb.alloc (.cells #[.int .i64 0, .int .i64 0, .slice none 0 0] 26)))[wpp1lp2icdb.heap.size]? = some (.cells #[.int .i64 0, .int .i64 0, .slice none 0 0] 26 (0, 0))) := Lib.hid (alloc_at wpp1lp2icdb (.cells #[.int .i64 0, .int .i64 0, .slice none 0 0] 26) _ (by simp))
                clear bxpp1lp2icdbz
                go_simp
                refine hK.out _ _ trivial (fun hH19 => ?_)
                clear hK K hH18
                try simp only [Act.put, List.setIfInBounds_toArray, List.set_cons_zero, List.set_cons_succ]
                refine wpAnyH_ready (rs := [15]) (by kernel_rfl) (by simp) ?_
                refine AllReadyH.cons (by simp only [List.getElem?_toArray, List.getElem?_cons_succ, List.getElem?_cons_zero]; rfl) (fun K hK => ?_) AllReadyH.nil
                have z0 := cur_cell HZpp1lp2icdbz.out 0
                have z1 := cur_cell HZpp1lp2icdbz.out 1
                have z2 := cur_cell HZpp1lp2icdbz.out 2
                have f0 := cur_free HZpp1lp2icdbz.out 0
                have f1 := cur_free HZpp1lp2icdbz.out 1
                have f2 := cur_free HZpp1lp2icdbz.out 2
                simp at z0 z1 z2
                have Z := Lib.hid (PSt.fresh (w3 := w3) (m' := m + 60) OBpp1lp2icdb.out Gpp1lp2.out.size hbd Ipp1lp2icdb.out (by omega) Gpp1lp2icdb.out hb3 hr0 hr1 hrq)
                go_simp
                refine hK.out _ _ trivial (fun hH20 => ?_)
                clear hK K hH19
                try simp only [Act.put, List.setIfInBounds_toArray, List.set_cons_zero, List.set_cons_succ]
                clear z0 z1 z2 f0 f1 f2
                refine wpAnyH_done (by kernel_rfl) ?_ _
                go_wp2_with fail
                go_meet
                exact ⟨_, r, _, _, _, rfl, Z⟩
              case rpp1lp2icd14 =>
                have bxpp1lp2icdz := below_box (Below.refl wpp1lp2.heap.size wpp1lp2) (.cells #[.int .i64 0, .int .i64 0, .slice none 0 0] 26)
                have Ipp1lp2icdz := Lib.hid (Ipp1lp2.out.below bxpp1lp2icdz)
                have Gpp1lp2icdz := Lib.hid (grown_trans Gpp1lp2.out (World.grownBy_alloc wpp1lp2 (.cells #[.int .i64 0, .int .i64 0, .slice none 0 0] 26) (some b)))
                have Hpp1lp2icdz := Lib.hid (kept_block Hpp1lp2.out bxpp1lp2icdz)
                have HZpp1lp2icdz : Hid ((World.heap (wpp1lp2.alloc (.cells #[.int .i64 0, .int .i64 0, .slice none 0 0] 26)))[wpp1lp2.heap.size]? = some (.cells #[.int .i64 0, .int .i64 0, .slice none 0 0] 26 (0, 0))) := Lib.hid (alloc_at wpp1lp2 (.cells #[.int .i64 0, .int .i64 0, .slice none 0 0] 26) _ (by simp))
                clear bxpp1lp2icdz
                go_simp
                refine hK.out _ _ trivial (fun hH21 => ?_)
                clear hK K hH17
                try simp only [Act.put, List.setIfInBounds_toArray, List.set_cons_zero, List.set_cons_succ]
                refine wpAnyH_ready (rs := [13]) (by kernel_rfl) (by simp) ?_
                refine AllReadyH.cons (by simp only [List.getElem?_toArray, List.getElem?_cons_succ, List.getElem?_cons_zero]; rfl) (fun K hK => ?_) AllReadyH.nil
                refine step_callW (wpp1lp2.alloc (.cells #[.int .i64 0, .int .i64 0, .slice none 0 0] 26)) rfl (by rfl) 45 _ _ rfl _ (by kernel_rfl) Try.call45 _ (curBlock b a l cap _ (u : Int) g v _ hl (by omega) (by omega) (by omega) (by omega) Ipp1lp2icdz.out) ?_
                rintro e wpp1lp2icdzb ⟨r, a9, c9, rfl, hrz, hrl, hrv, ho, hI, hg⟩
                refine ⟨_, rfl, ?_⟩
                have Ipp1lp2icdzb := Lib.hid hI
                have Gpp1lp2icdzb := Lib.hid (grown_trans Gpp1lp2icdz.out hg)
                have Hpp1lp2icdzb := Lib.hid (kept_grown Hpp1lp2icdz.out hg (by intro e; have e := Option.some.inj e; omega))
                have HZpp1lp2icdzb := Lib.hid (kept_grown HZpp1lp2icdz.out hg (by intro e; have e := Option.some.inj e; omega))
                have OBpp1lp2icdzb := Lib.hid ho
                have hsopp1lp2icdzb := hg.size
                have hbd : blkBd r ∧ r.data.length ≤ 8 := ⟨⟨by omega, by omega⟩, by omega⟩
                clear ho hrz hrl hrv
                obtain ⟨r0, hr0⟩ : ∃ z, r.id = z := ⟨_, rfl⟩
                obtain ⟨r1, hr1⟩ : ∃ z, r.leaf = z := ⟨_, rfl⟩
                obtain ⟨rq, hrq⟩ : ∃ z, r.data.length = z := ⟨_, rfl⟩
                rw [hr0, hr1, hrq] at OBpp1lp2icdzb ⊢
                clear hI hg
                have hbwpp1lp2icdzb : b < wpp1lp2icdzb.heap.size := Ipp1lp2icdzb.out.lt
                refine hK.out _ _ trivial (fun hH22 => ?_)
                clear hK K hH21
                try simp only [Act.put, List.setIfInBounds_toArray, List.set_cons_zero, List.set_cons_succ]
                refine wpAnyH_ready (rs := [15]) (by kernel_rfl) (by simp) ?_
                refine AllReadyH.cons (by simp only [List.getElem?_toArray, List.getElem?_cons_succ, List.getElem?_cons_zero]; rfl) (fun K hK => ?_) AllReadyH.nil
                have z0 := cur_cell HZpp1lp2icdzb.out 0
                have z1 := cur_cell HZpp1lp2icdzb.out 1
                have z2 := cur_cell HZpp1lp2icdzb.out 2
                have f0 := cur_free HZpp1lp2icdzb.out 0
                have f1 := cur_free HZpp1lp2icdzb.out 1
                have f2 := cur_free HZpp1lp2icdzb.out 2
                simp at z0 z1 z2
                have Z := Lib.hid (PSt.store (w3 := w3) (m' := m + 60) HZpp1lp2icdzb.out OBpp1lp2icdzb.out ⟨.inl (cur_lt HZpp1lp2icdz.out), Nat.le_refl _⟩ Gpp1lp2icdz.out.size (Nat.le_trans Gpp1lp2.out.size (by simp)) hbd Ipp1lp2icdzb.out (by omega) Gpp1lp2icdzb.out hb3 hr0 hr1 hrq)
                go_simp
                refine hK.out _ _ trivial (fun hH23 => ?_)
                clear hK K hH22
                try simp only [Act.put, List.setIfInBounds_toArray, List.set_cons_zero, List.set_cons_succ]
                clear z0 z1 z2 f0 f1 f2
                refine wpAnyH_done (by kernel_rfl) ?_ _
                go_wp2_with fail
                go_meet
                exact ⟨_, r, _, _, _, rfl, Z⟩
            case rpp1lp2ic14 =>
              have bxpp1lp2icz := below_box (Below.refl wpp1lp2.heap.size wpp1lp2) (.cells #[.int .i64 0, .int .i64 0, .slice none 0 0] 26)
              have Ipp1lp2icz := Lib.hid (Ipp1lp2.out.below bxpp1lp2icz)
              have Gpp1lp2icz := Lib.hid (grown_trans Gpp1lp2.out (World.grownBy_alloc wpp1lp2 (.cells #[.int .i64 0, .int .i64 0, .slice none 0 0] 26) (some b)))
              have Hpp1lp2icz := Lib.hid (kept_block Hpp1lp2.out bxpp1lp2icz)
              have HZpp1lp2icz : Hid ((World.heap (wpp1lp2.alloc (.cells #[.int .i64 0, .int .i64 0, .slice none 0 0] 26)))[wpp1lp2.heap.size]? = some (.cells #[.int .i64 0, .int .i64 0, .slice none 0 0] 26 (0, 0))) := Lib.hid (alloc_at wpp1lp2 (.cells #[.int .i64 0, .int .i64 0, .slice none 0 0] 26) _ (by simp))
              clear bxpp1lp2icz
              go_simp
              refine hK.out _ _ trivial (fun hH24 => ?_)
              clear hK K hH16
              try simp only [Act.put, List.setIfInBounds_toArray, List.set_cons_zero, List.set_cons_succ]
              refine wpAnyH_ready (rs := [7]) (by kernel_rfl) (by simp) ?_
              refine AllReadyH.cons (by simp only [List.getElem?_toArray, List.getElem?_cons_succ, List.getElem?_cons_zero]; rfl) (fun K hK => ?_) AllReadyH.nil
              have qdpp1lp2iczd : World.cell? (wpp1lp2.alloc (.cells #[.int .i64 0, .int .i64 0, .slice none 0 0] 26)) ⟨wpp1.heap.size, p2, none⟩ = some (.int .i64 (u : Int)) := (cur_cell Hpp1lp2icz.out p2).trans hul
              go_simp
              refine hK.out _ _ trivial (fun hH25 => ?_)
              clear hK K hH24
              try simp only [Act.put, List.setIfInBounds_toArray, List.set_cons_zero, List.set_cons_succ]
              clear qdpp1lp2iczd
              refine wpAnyH_ready (rs := [13]) (by kernel_rfl) (by simp) ?_
              refine AllReadyH.cons (by simp only [List.getElem?_toArray, List.getElem?_cons_succ, List.getElem?_cons_zero]; rfl) (fun K hK => ?_) AllReadyH.nil
              refine step_callW (wpp1lp2.alloc (.cells #[.int .i64 0, .int .i64 0, .slice none 0 0] 26)) rfl (by rfl) 45 _ _ rfl _ (by kernel_rfl) Try.call45 _ (curBlock b a l cap _ (u : Int) g v _ hl (by omega) (by omega) (by omega) (by omega) Ipp1lp2icz.out) ?_
              rintro e wpp1lp2iczdb ⟨r, a9, c9, rfl, hrz, hrl, hrv, ho, hI, hg⟩
              refine ⟨_, rfl, ?_⟩
              have Ipp1lp2iczdb := Lib.hid hI
              have Gpp1lp2iczdb := Lib.hid (grown_trans Gpp1lp2icz.out hg)
              have Hpp1lp2iczdb := Lib.hid (kept_grown Hpp1lp2icz.out hg (by intro e; have e := Option.some.inj e; omega))
              have HZpp1lp2iczdb := Lib.hid (kept_grown HZpp1lp2icz.out hg (by intro e; have e := Option.some.inj e; omega))
              have OBpp1lp2iczdb := Lib.hid ho
              have hsopp1lp2iczdb := hg.size
              have hbd : blkBd r ∧ r.data.length ≤ 8 := ⟨⟨by omega, by omega⟩, by omega⟩
              clear ho hrz hrl hrv
              obtain ⟨r0, hr0⟩ : ∃ z, r.id = z := ⟨_, rfl⟩
              obtain ⟨r1, hr1⟩ : ∃ z, r.leaf = z := ⟨_, rfl⟩
              obtain ⟨rq, hrq⟩ : ∃ z, r.data.length = z := ⟨_, rfl⟩
              rw [hr0, hr1, hrq] at OBpp1lp2iczdb ⊢
              clear hI hg
              have hbwpp1lp2iczdb : b < wpp1lp2iczdb.heap.size := Ipp1lp2iczdb.out.lt
              refine hK.out _ _ trivial (fun hH26 => ?_)
              clear hK K hH25
              try simp only [Act.put, List.setIfInBounds_toArray, List.set_cons_zero, List.set_cons_succ]
              refine wpAnyH_ready (rs := [15]) (by kernel_rfl) (by simp) ?_
              refine AllReadyH.cons (by simp only [List.getElem?_toArray, List.getElem?_cons_succ, List.getElem?_cons_zero]; rfl) (fun K hK => ?_) AllReadyH.nil
              have z0 := cur_cell HZpp1lp2iczdb.out 0
              have z1 := cur_cell HZpp1lp2iczdb.out 1
              have z2 := cur_cell HZpp1lp2iczdb.out 2
              have f0 := cur_free HZpp1lp2iczdb.out 0
              have f1 := cur_free HZpp1lp2iczdb.out 1
              have f2 := cur_free HZpp1lp2iczdb.out 2
              simp at z0 z1 z2
              have Z := Lib.hid (PSt.store (w3 := w3) (m' := m + 60) HZpp1lp2iczdb.out OBpp1lp2iczdb.out ⟨.inl (cur_lt HZpp1lp2icz.out), Nat.le_refl _⟩ Gpp1lp2icz.out.size (Nat.le_trans Gpp1lp2.out.size (by simp)) hbd Ipp1lp2iczdb.out (by omega) Gpp1lp2iczdb.out hb3 hr0 hr1 hrq)
              go_simp
              refine hK.out _ _ trivial (fun hH27 => ?_)
              clear hK K hH26
              try simp only [Act.put, List.setIfInBounds_toArray, List.set_cons_zero, List.set_cons_succ]
              clear z0 z1 z2 f0 f1 f2
              refine wpAnyH_done (by kernel_rfl) ?_ _
              go_wp2_with fail
              go_meet
              exact ⟨_, r, _, _, _, rfl, Z⟩
          case rpp1lp2i14 =>
            have bxpp1lp2iz := below_box (Below.refl wpp1lp2.heap.size wpp1lp2) (.cells #[.int .i64 0, .int .i64 0, .slice none 0 0] 26)
            have Ipp1lp2iz := Lib.hid (Ipp1lp2.out.below bxpp1lp2iz)
            have Gpp1lp2iz := Lib.hid (grown_trans Gpp1lp2.out (World.grownBy_alloc wpp1lp2 (.cells #[.int .i64 0, .int .i64 0, .slice none 0 0] 26) (some b)))
            have Hpp1lp2iz := Lib.hid (kept_block Hpp1lp2.out bxpp1lp2iz)
            have HZpp1lp2iz : Hid ((World.heap (wpp1lp2.alloc (.cells #[.int .i64 0, .int .i64 0, .slice none 0 0] 26)))[wpp1lp2.heap.size]? = some (.cells #[.int .i64 0, .int .i64 0, .slice none 0 0] 26 (0, 0))) := Lib.hid (alloc_at wpp1lp2 (.cells #[.int .i64 0, .int .i64 0, .slice none 0 0] 26) _ (by simp))
            clear bxpp1lp2iz
            go_simp
            refine hK.out _ _ trivial (fun hH28 => ?_)
            clear hK K hH3
            try simp only [Act.put, List.setIfInBounds_toArray, List.set_cons_zero, List.set_cons_succ]
            refine wpAnyH_ready (rs := [7, 9]) (by kernel_rfl) (by simp) ?_
            refine AllReadyH.cons (by simp only [List.getElem?_toArray, List.getElem?_cons_succ, List.getElem?_cons_zero]; rfl) (fun K hK => ?rpp1lp2iz7) (AllReadyH.cons (by simp only [List.getElem?_toArray, List.getElem?_cons_succ, List.getElem?_cons_zero]; rfl) (fun K hK => ?rpp1lp2iz9) AllReadyH.nil)
            case rpp1lp2iz7 =>
              have qdpp1lp2izd : World.cell? (wpp1lp2.alloc (.cells #[.int .i64 0, .int .i64 0, .slice none 0 0] 26)) ⟨wpp1.heap.size, p2, none⟩ = some (.int .i64 (u : Int)) := (cur_cell Hpp1lp2iz.out p2).trans hul
              go_simp
              refine hK.out _ _ trivial (fun hH29 => ?_)
              clear hK K hH28
              try simp only [Act.put, List.setIfInBounds_toArray, List.set_cons_zero, List.set_cons_succ]
              clear qdpp1lp2izd
              refine wpAnyH_ready (rs := [9]) (by kernel_rfl) (by simp) ?_
              refine AllReadyH.cons (by simp only [List.getElem?_toArray, List.getElem?_cons_succ, List.getElem?_cons_zero]; rfl) (fun K hK => ?_) AllReadyH.nil
              refine step_callW (wpp1lp2.alloc (.cells #[.int .i64 0, .int .i64 0, .slice none 0 0] 26)) rfl (by rfl) 47 _ _ rfl _ (by kernel_rfl) Try.call47 _ (CLH.out _) ?_
              rintro e wpp1lp2izdc ⟨rfl, hwpp1lp2izdc⟩
              replace hwpp1lp2izdc := hwpp1lp2izdc.symm
              subst hwpp1lp2izdc
              refine ⟨_, rfl, ?_⟩
              refine hK.out _ _ trivial (fun hH30 => ?_)
              clear hK K hH29
              try simp only [Act.put, List.setIfInBounds_toArray, List.set_cons_zero, List.set_cons_succ]
              refine wpAnyH_ready (rs := [13]) (by kernel_rfl) (by simp) ?_
              refine AllReadyH.cons (by simp only [List.getElem?_toArray, List.getElem?_cons_succ, List.getElem?_cons_zero]; rfl) (fun K hK => ?_) AllReadyH.nil
              refine step_callW (wpp1lp2.alloc (.cells #[.int .i64 0, .int .i64 0, .slice none 0 0] 26)) rfl (by rfl) 45 _ _ rfl _ (by kernel_rfl) Try.call45 _ (curBlock b a l cap _ (u : Int) g v _ hl (by omega) (by omega) (by omega) (by omega) Ipp1lp2iz.out) ?_
              rintro e wpp1lp2izdcb ⟨r, a9, c9, rfl, hrz, hrl, hrv, ho, hI, hg⟩
              refine ⟨_, rfl, ?_⟩
              have Ipp1lp2izdcb := Lib.hid hI
              have Gpp1lp2izdcb := Lib.hid (grown_trans Gpp1lp2iz.out hg)
              have Hpp1lp2izdcb := Lib.hid (kept_grown Hpp1lp2iz.out hg (by intro e; have e := Option.some.inj e; omega))
              have HZpp1lp2izdcb := Lib.hid (kept_grown HZpp1lp2iz.out hg (by intro e; have e := Option.some.inj e; omega))
              have OBpp1lp2izdcb := Lib.hid ho
              have hsopp1lp2izdcb := hg.size
              have hbd : blkBd r ∧ r.data.length ≤ 8 := ⟨⟨by omega, by omega⟩, by omega⟩
              clear ho hrz hrl hrv
              obtain ⟨r0, hr0⟩ : ∃ z, r.id = z := ⟨_, rfl⟩
              obtain ⟨r1, hr1⟩ : ∃ z, r.leaf = z := ⟨_, rfl⟩
              obtain ⟨rq, hrq⟩ : ∃ z, r.data.length = z := ⟨_, rfl⟩
              rw [hr0, hr1, hrq] at OBpp1lp2izdcb ⊢
              clear hI hg
              have hbwpp1lp2izdcb : b < wpp1lp2izdcb.heap.size := Ipp1lp2izdcb.out.lt
              refine hK.out _ _ trivial (fun hH31 => ?_)
              clear hK K hH30
              try simp only [Act.put, List.setIfInBounds_toArray, List.set_cons_zero, List.set_cons_succ]
              refine wpAnyH_ready (rs := [15]) (by kernel_rfl) (by simp) ?_
              refine AllReadyH.cons (by simp only [List.getElem?_toArray, List.getElem?_cons_succ, List.getElem?_cons_zero]; rfl) (fun K hK => ?_) AllReadyH.nil
              have z0 := cur_cell HZpp1lp2izdcb.out 0
              have z1 := cur_cell HZpp1lp2izdcb.out 1
              have z2 := cur_cell HZpp1lp2izdcb.out 2
              have f0 := cur_free HZpp1lp2izdcb.out 0
              have f1 := cur_free HZpp1lp2izdcb.out 1
              have f2 := cur_free HZpp1lp2izdcb.out 2
              simp at z0 z1 z2
              have Z := Lib.hid (PSt.store (w3 := w3) (m' := m + 60) HZpp1lp2izdcb.out OBpp1lp2izdcb.out ⟨.inl (cur_lt HZpp1lp2iz.out), Nat.le_refl _⟩ Gpp1lp2iz.out.size (Nat.le_trans Gpp1lp2.out.size (by simp)) hbd Ipp1lp2izdcb.out (by omega) Gpp1lp2izdcb.out hb3 hr0 hr1 hrq)
              go_simp
              refine hK.out _ _ trivial (fun hH32 => ?_)
              clear hK K hH31
              try simp only [Act.put, List.setIfInBounds_toArray, List.set_cons_zero, List.set_cons_succ]
              clear z0 z1 z2 f0 f1 f2
              refine wpAnyH_done (by kernel_rfl) ?_ _
              go_wp2_with fail
              go_meet
              exact ⟨_, r, _, _, _, rfl, Z⟩
            case rpp1lp2iz9 =>
              refine step_callW (wpp1lp2.alloc (.cells #[.int .i64 0, .int .i64 0, .slice none 0 0] 26)) rfl (by rfl) 47 _ _ rfl _ (by kernel_rfl) Try.call47 _ (CLH.out _) ?_
              rintro e wpp1lp2izc ⟨rfl, hwpp1lp2izc⟩
              replace hwpp1lp2izc := hwpp1lp2izc.symm
              subst hwpp1lp2izc
              refine ⟨_, rfl, ?_⟩
              refine hK.out _ _ trivial (fun hH33 => ?_)
              clear hK K hH28
              try simp only [Act.put, List.setIfInBounds_toArray, List.set_cons_zero, List.set_cons_succ]
              refine wpAnyH_ready (rs := [7]) (by kernel_rfl) (by simp) ?_
              refine AllReadyH.cons (by simp only [List.getElem?_toArray, List.getElem?_cons_succ, List.getElem?_cons_zero]; rfl) (fun K hK => ?_) AllReadyH.nil
              have qdpp1lp2izcd : World.cell? (wpp1lp2.alloc (.cells #[.int .i64 0, .int .i64 0, .slice none 0 0] 26)) ⟨wpp1.heap.size, p2, none⟩ = some (.int .i64 (u : Int)) := (cur_cell Hpp1lp2iz.out p2).trans hul
              go_simp
              refine hK.out _ _ trivial (fun hH34 => ?_)
              clear hK K hH33
              try simp only [Act.put, List.setIfInBounds_toArray, List.set_cons_zero, List.set_cons_succ]
              clear qdpp1lp2izcd
              refine wpAnyH_ready (rs := [13]) (by kernel_rfl) (by simp) ?_
              refine AllReadyH.cons (by simp only [List.getElem?_toArray, List.getElem?_cons_succ, List.getElem?_cons_zero]; rfl) (fun K hK => ?_) AllReadyH.nil
              refine step_callW (wpp1lp2.alloc (.cells #[.int .i64 0, .int .i64 0, .slice none 0 0] 26)) rfl (by rfl) 45 _ _ rfl _ (by kernel_rfl) Try.call45 _ (curBlock b a l cap _ (u : Int) g v _ hl (by omega) (by omega) (by omega) (by omega) Ipp1lp2iz.out) ?_
              rintro e wpp1lp2izcdb ⟨r, a9, c9, rfl, hrz, hrl, hrv, ho, hI, hg⟩
              refine ⟨_, rfl, ?_⟩
              have Ipp1lp2izcdb := Lib.hid hI
              have Gpp1lp2izcdb := Lib.hid (grown_trans Gpp1lp2iz.out hg)
              have Hpp1lp2izcdb := Lib.hid (kept_grown Hpp1lp2iz.out hg (by intro e; have e := Option.some.inj e; omega))
              have HZpp1lp2izcdb := Lib.hid (kept_grown HZpp1lp2iz.out hg (by intro e; have e := Option.some.inj e; omega))
              have OBpp1lp2izcdb := Lib.hid ho
              have hsopp1lp2izcdb := hg.size
              have hbd : blkBd r ∧ r.data.length ≤ 8 := ⟨⟨by omega, by omega⟩, by omega⟩
              clear ho hrz hrl hrv
              obtain ⟨r0, hr0⟩ : ∃ z, r.id = z := ⟨_, rfl⟩
              obtain ⟨r1, hr1⟩ : ∃ z, r.leaf = z := ⟨_, rfl⟩
              obtain ⟨rq, hrq⟩ : ∃ z, r.data.length = z := ⟨_, rfl⟩
              rw [hr0, hr1, hrq] at OBpp1lp2izcdb ⊢
              clear hI hg
              have hbwpp1lp2izcdb : b < wpp1lp2izcdb.heap.size := Ipp1lp2izcdb.out.lt
              refine hK.out _ _ trivial (fun hH35 => ?_)
              clear hK K hH34
              try simp only [Act.put, List.setIfInBounds_toArray, List.set_cons_zero, List.set_cons_succ]
              refine wpAnyH_ready (rs := [15]) (by kernel_rfl) (by simp) ?_
              refine AllReadyH.cons (by simp only [List.getElem?_toArray, List.getElem?_cons_succ, List.getElem?_cons_zero]; rfl) (fun K hK => ?_) AllReadyH.nil
              have z0 := cur_cell HZpp1lp2izcdb.out 0
              have z1 := cur_cell HZpp1lp2izcdb.out 1
              have z2 := cur_cell HZpp1lp2izcdb.out 2
              have f0 := cur_free HZpp1lp2izcdb.out 0
              have f1 := cur_free HZpp1lp2izcdb.out 1
              have f2 := cur_free HZpp1lp2izcdb.out 2
              simp at z0 z1 z2
              have Z := Lib.hid (PSt.store (w3 := w3) (m' := m + 60) HZpp1lp2izcdb.out OBpp1lp2izcdb.out ⟨.inl (cur_lt HZpp1lp2iz.out), Nat.le_refl _⟩ Gpp1lp2iz.out.size (Nat.le_trans Gpp1lp2.out.size (by simp)) hbd Ipp1lp2izcdb.out (by omega) Gpp1lp2izcdb.out hb3 hr0 hr1 hrq)
              go_simp
              refine hK.out _ _ trivial (fun hH36 => ?_)
              clear hK K hH35
              try simp only [Act.put, List.setIfInBounds_toArray, List.set_cons_zero, List.set_cons_succ]
              clear z0 z1 z2 f0 f1 f2
              refine wpAnyH_done (by kernel_rfl) ?_ _
              go_wp2_with fail
              go_meet
              exact ⟨_, r, _, _, _, rfl, Z⟩
        case rpp1l14 =>
          have bxpp1lz := below_box (Below.refl (wpp1.alloc (.cells #[.int .i64 (p1 : Int), .int .i64 200] 3)).heap.size (wpp1.alloc (.cells #[.int .i64 (p1 : Int), .int .i64 200] 3))) (.cells #[.int .i64 0, .int .i64 0, .slice none 0 0] 26)
          have Ipp1lz := Lib.hid (Ipp1l.out.below bxpp1lz)
          have Gpp1lz := Lib.hid (grown_trans Gpp1l.out (World.grownBy_alloc (wpp1.alloc (.cells #[.int .i64 (p1 : Int), .int .i64 200] 3)) (.cells #[.int .i64 0, .int .i64 0, .slice none 0 0] 26) (some b)))
          have Hpp1lz := Lib.hid (kept_block Hpp1l.out bxpp1lz)
          have HZpp1lz : Hid ((World.heap ((wpp1.alloc (.cells #[.int .i64 (p1 : Int), .int .i64 200] 3)).alloc (.cells #[.int .i64 0, .int .i64 0, .slice none 0 0] 26)))[wpp1.heap.size + 1]? = some (.cells #[.int .i64 0, .int .i64 0, .slice none 0 0] 26 (0, 0))) := Lib.hid (alloc_at (wpp1.alloc (.cells #[.int .i64 (p1 : Int), .int .i64 200] 3)) (.cells #[.int .i64 0, .int .i64 0, .slice none 0 0] 26) _ (by simp))
          clear bxpp1lz
          go_simp
          refine hK.out _ _ trivial (fun hH37 => ?_)
          clear hK K hH2
          try simp only [Act.put, List.setIfInBounds_toArray, List.set_cons_zero, List.set_cons_succ]
          refine wpAnyH_ready (rs := [5]) (by kernel_rfl) (by simp) ?_
          refine AllReadyH.cons (by simp only [List.getElem?_toArray, List.getElem?_cons_succ, List.getElem?_cons_zero]; rfl) (fun K hK => ?_) AllReadyH.nil
          refine step_callW ((wpp1.alloc (.cells #[.int .i64 (p1 : Int), .int .i64 200] 3)).alloc (.cells #[.int .i64 0, .int .i64 0, .slice none 0 0] 26)) rfl (by rfl) 46 _ _ rfl _ (by kernel_rfl) Try.call46 _ (curPick b a l cap _ 2 _ hl (by omega) (by omega) Ipp1lz.out) ?_
          rintro e wpp1lzp2 ⟨p2, rfl, hp, hI, hg⟩
          refine ⟨_, rfl, ?_⟩
          have Ipp1lzp2 := Lib.hid hI
          have Gpp1lzp2 := Lib.hid (grown_trans Gpp1lz.out hg)
          have Hpp1lzp2 := Lib.hid (kept_grown Hpp1lz.out hg (by intro e; have e := Option.some.inj e; omega))
          have HZpp1lzp2 := Lib.hid (kept_grown HZpp1lz.out hg (by intro e; have e := Option.some.inj e; omega))
          have hp2 : p2 < 2 := by omega
          clear hI hg
          have hbwpp1lzp2 : b < wpp1lzp2.heap.size := Ipp1lzp2.out.lt
          clear hp
          refine hK.out _ _ trivial (fun hH38 => ?_)
          clear hK K hH37
          try simp only [Act.put, List.setIfInBounds_toArray, List.set_cons_zero, List.set_cons_succ]
          obtain ⟨u, hu, hul⟩ := lit2_at p1 p2 hp20 hp2
          have hp0 : (0 : Int) ≤ (p2 : Int) := by omega
          have hp1 : (p2 : Int) < 2 := by omega
          have qpp1lzp2i := (cur_cell Hpp1lzp2.out p2).trans hul
          refine wpAnyH_take (i := 6) (oi := ?onpp1lzp2i_6) (v := ?vnpp1lzp2i_6) ?hinpp1lzp2i_6 (by kernel_rfl) (by kernel_rfl) (by kernel_rfl) ?hqnpp1lzp2i_6 ?hynpp1lzp2i_6 (by assumption) ?rnpp1lzp2i_6
          case hinpp1lzp2i_6 => (simp only [List.getElem?_toArray, List.getElem?_cons_succ, List.getElem?_cons_zero]; rfl)
          case hqnpp1lzp2i_6 => exact fun _ _ _ h => h
          case hynpp1lzp2i_6 =>
            refine Or.inl ⟨by rfl, ?_⟩; intro wq hSw; (try dsimp only at hSw); go_simp; (try with_reducible rfl); done
          try simp only [Act.put, List.setIfInBounds_toArray, List.set_cons_zero, List.set_cons_succ]
          refine wpAnyH_ready (rs := [7, 9]) (by kernel_rfl) (by simp) ?_
          refine AllReadyH.cons (by simp only [List.getElem?_toArray, List.getElem?_cons_succ, List.getElem?_cons_zero]; rfl) (fun K hK => ?rpp1lzp2i7) (AllReadyH.cons (by simp only [List.getElem?_toArray, List.getElem?_cons_succ, List.getElem?_cons_zero]; rfl) (fun K hK => ?rpp1lzp2i9) AllReadyH.nil)
          case rpp1lzp2i7 =>
            have qdpp1lzp2id : World.cell? wpp1lzp2 ⟨wpp1.heap.size, p2, none⟩ = some (.int .i64 (u : Int)) := (cur_cell Hpp1lzp2.out p2).trans hul
            go_simp
            refine hK.out _ _ trivial (fun hH39 => ?_)
            clear hK K hH38
            try simp only [Act.put, List.setIfInBounds_toArray, List.set_cons_zero, List.set_cons_succ]
            clear qdpp1lzp2id
            refine wpAnyH_ready (rs := [9]) (by kernel_rfl) (by simp) ?_
            refine AllReadyH.cons (by simp only [List.getElem?_toArray, List.getElem?_cons_succ, List.getElem?_cons_zero]; rfl) (fun K hK => ?_) AllReadyH.nil
            refine step_callW wpp1lzp2 rfl (by rfl) 47 _ _ rfl _ (by kernel_rfl) Try.call47 _ (CLH.out _) ?_
            rintro e wpp1lzp2idc ⟨rfl, hwpp1lzp2idc⟩
            replace hwpp1lzp2idc := hwpp1lzp2idc.symm
            subst hwpp1lzp2idc
            refine ⟨_, rfl, ?_⟩
            refine hK.out _ _ trivial (fun hH40 => ?_)
            clear hK K hH39
            try simp only [Act.put, List.setIfInBounds_toArray, List.set_cons_zero, List.set_cons_succ]
            refine wpAnyH_ready (rs := [13]) (by kernel_rfl) (by simp) ?_
            refine AllReadyH.cons (by simp only [List.getElem?_toArray, List.getElem?_cons_succ, List.getElem?_cons_zero]; rfl) (fun K hK => ?_) AllReadyH.nil
            refine step_callW wpp1lzp2 rfl (by rfl) 45 _ _ rfl _ (by kernel_rfl) Try.call45 _ (curBlock b a l cap _ (u : Int) g v _ hl (by omega) (by omega) (by omega) (by omega) Ipp1lzp2.out) ?_
            rintro e wpp1lzp2idcb ⟨r, a9, c9, rfl, hrz, hrl, hrv, ho, hI, hg⟩
            refine ⟨_, rfl, ?_⟩
            have Ipp1lzp2idcb := Lib.hid hI
            have Gpp1lzp2idcb := Lib.hid (grown_trans Gpp1lzp2.out hg)
            have Hpp1lzp2idcb := Lib.hid (kept_grown Hpp1lzp2.out hg (by intro e; have e := Option.some.inj e; omega))
            have HZpp1lzp2idcb := Lib.hid (kept_grown HZpp1lzp2.out hg (by intro e; have e := Option.some.inj e; omega))
            have OBpp1lzp2idcb := Lib.hid ho
            have hsopp1lzp2idcb := hg.size
            have hbd : blkBd r ∧ r.data.length ≤ 8 := ⟨⟨by omega, by omega⟩, by omega⟩
            clear ho hrz hrl hrv
            obtain ⟨r0, hr0⟩ : ∃ z, r.id = z := ⟨_, rfl⟩
            obtain ⟨r1, hr1⟩ : ∃ z, r.leaf = z := ⟨_, rfl⟩
            obtain ⟨rq, hrq⟩ : ∃ z, r.data.length = z := ⟨_, rfl⟩
            rw [hr0, hr1, hrq] at OBpp1lzp2idcb ⊢
            clear hI hg
            have hbwpp1lzp2idcb : b < wpp1lzp2idcb.heap.size := Ipp1lzp2idcb.out.lt
            refine hK.out _ _ trivial (fun hH41 => ?_)
            clear hK K hH40
            try simp only [Act.put, List.setIfInBounds_toArray, List.set_cons_zero, List.set_cons_succ]
            refine wpAnyH_ready (rs := [15]) (by kernel_rfl) (by simp) ?_
            refine AllReadyH.cons (by simp only [List.getElem?_toArray, List.getElem?_cons_succ, List.getElem?_cons_zero]; rfl) (fun K hK => ?_) AllReadyH.nil
            have z0 := cur_cell HZpp1lzp2idcb.out 0
            have z1 := cur_cell HZpp1lzp2idcb.out 1
            have z2 := cur_cell HZpp1lzp2idcb.out 2
            have f0 := cur_free HZpp1lzp2idcb.out 0
            have f1 := cur_free HZpp1lzp2idcb.out 1
            have f2 := cur_free HZpp1lzp2idcb.out 2
            simp at z0 z1 z2
            have Z := Lib.hid (PSt.store (w3 := w3) (m' := m + 60) HZpp1lzp2idcb.out OBpp1lzp2idcb.out ⟨.inl (cur_lt HZpp1lzp2.out), Nat.le_refl _⟩ Gpp1lzp2.out.size (Nat.le_trans Gpp1l.out.size (by simp)) hbd Ipp1lzp2idcb.out (by omega) Gpp1lzp2idcb.out hb3 hr0 hr1 hrq)
            go_simp
            refine hK.out _ _ trivial (fun hH42 => ?_)
            clear hK K hH41
            try simp only [Act.put, List.setIfInBounds_toArray, List.set_cons_zero, List.set_cons_succ]
            clear z0 z1 z2 f0 f1 f2
            refine wpAnyH_done (by kernel_rfl) ?_ _
            go_wp2_with fail
            go_meet
            exact ⟨_, r, _, _, _, rfl, Z⟩
          case rpp1lzp2i9 =>
            refine step_callW wpp1lzp2 rfl (by rfl) 47 _ _ rfl _ (by kernel_rfl) Try.call47 _ (CLH.out _) ?_
            rintro e wpp1lzp2ic ⟨rfl, hwpp1lzp2ic⟩
            replace hwpp1lzp2ic := hwpp1lzp2ic.symm
            subst hwpp1lzp2ic
            refine ⟨_, rfl, ?_⟩
            refine hK.out _ _ trivial (fun hH43 => ?_)
            clear hK K hH38
            try simp only [Act.put, List.setIfInBounds_toArray, List.set_cons_zero, List.set_cons_succ]
            refine wpAnyH_ready (rs := [7]) (by kernel_rfl) (by simp) ?_
            refine AllReadyH.cons (by simp only [List.getElem?_toArray, List.getElem?_cons_succ, List.getElem?_cons_zero]; rfl) (fun K hK => ?_) AllReadyH.nil
            have qdpp1lzp2icd : World.cell? wpp1lzp2 ⟨wpp1.heap.size, p2, none⟩ = some (.int .i64 (u : Int)) := (cur_cell Hpp1lzp2.out p2).trans hul
            go_simp
            refine hK.out _ _ trivial (fun hH44 => ?_)
            clear hK K hH43
            try simp only [Act.put, List.setIfInBounds_toArray, List.set_cons_zero, List.set_cons_succ]
            clear qdpp1lzp2icd
            refine wpAnyH_ready (rs := [13]) (by kernel_rfl) (by simp) ?_
            refine AllReadyH.cons (by simp only [List.getElem?_toArray, List.getElem?_cons_succ, List.getElem?_cons_zero]; rfl) (fun K hK => ?_) AllReadyH.nil
            refine step_callW wpp1lzp2 rfl (by rfl) 45 _ _ rfl _ (by kernel_rfl) Try.call45 _ (curBlock b a l cap _ (u : Int) g v _ hl (by omega) (by omega) (by omega) (by omega) Ipp1lzp2.out) ?_
            rintro e wpp1lzp2icdb ⟨r, a9, c9, rfl, hrz, hrl, hrv, ho, hI, hg⟩
            refine ⟨_, rfl, ?_⟩
            have Ipp1lzp2icdb := Lib.hid hI
            have Gpp1lzp2icdb := Lib.hid (grown_trans Gpp1lzp2.out hg)
            have Hpp1lzp2icdb := Lib.hid (kept_grown Hpp1lzp2.out hg (by intro e; have e := Option.some.inj e; omega))
            have HZpp1lzp2icdb := Lib.hid (kept_grown HZpp1lzp2.out hg (by intro e; have e := Option.some.inj e; omega))
            have OBpp1lzp2icdb := Lib.hid ho
            have hsopp1lzp2icdb := hg.size
            have hbd : blkBd r ∧ r.data.length ≤ 8 := ⟨⟨by omega, by omega⟩, by omega⟩
            clear ho hrz hrl hrv
            obtain ⟨r0, hr0⟩ : ∃ z, r.id = z := ⟨_, rfl⟩
            obtain ⟨r1, hr1⟩ : ∃ z, r.leaf = z := ⟨_, rfl⟩
            obtain ⟨rq, hrq⟩ : ∃ z, r.data.length = z := ⟨_, rfl⟩
            rw [hr0, hr1, hrq] at OBpp1lzp2icdb ⊢
            clear hI hg
            have hbwpp1lzp2icdb : b < wpp1lzp2icdb.heap.size := Ipp1lzp2icdb.out.lt
            refine hK.out _ _ trivial (fun hH45 => ?_)
            clear hK K hH44
            try simp only [Act.put, List.setIfInBounds_toArray, List.set_cons_zero, List.set_cons_succ]
            refine wpAnyH_ready (rs := [15]) (by kernel_rfl) (by simp) ?_
            refine AllReadyH.cons (by simp only [List.getElem?_toArray, List.getElem?_cons_succ, List.getElem?_cons_zero]; rfl) (fun K hK => ?_) AllReadyH.nil
            have z0 := cur_cell HZpp1lzp2icdb.out 0
            have z1 := cur_cell HZpp1lzp2icdb.out 1
            have z2 := cur_cell HZpp1lzp2icdb.out 2
            have f0 := cur_free HZpp1lzp2icdb.out 0
            have f1 := cur_free HZpp1lzp2icdb.out 1
            have f2 := cur_free HZpp1lzp2icdb.out 2
            simp at z0 z1 z2
            have Z := Lib.hid (PSt.store (w3 := w3) (m' := m + 60) HZpp1lzp2icdb.out OBpp1lzp2icdb.out ⟨.inl (cur_lt HZpp1lzp2.out), Nat.le_refl _⟩ Gpp1lzp2.out.size (Nat.le_trans Gpp1l.out.size (by simp)) hbd Ipp1lzp2icdb.out (by omega) Gpp1lzp2icdb.out hb3 hr0 hr1 hrq)
            go_simp
            refine hK.out _ _ trivial (fun hH46 => ?_)
            clear hK K hH45
            try simp only [Act.put, List.setIfInBounds_toArray, List.set_cons_zero, List.set_cons_succ]
            clear z0 z1 z2 f0 f1 f2
            refine wpAnyH_done (by kernel_rfl) ?_ _
            go_wp2_with fail
            go_meet
            exact ⟨_, r, _, _, _, rfl, Z⟩
      case rpp15 =>
        refine step_callW wpp1 rfl (by rfl) 46 _ _ rfl _ (by kernel_rfl) Try.call46 _ (curPick b a l cap _ 2 _ hl (by omega) (by omega) Ipp1.out) ?_
        rintro e wpp1p2 ⟨p2, rfl, hp, hI, hg⟩
        refine ⟨_, rfl, ?_⟩
        have Ipp1p2 := Lib.hid hI
        have Gpp1p2 := Lib.hid (grown_trans Gpp1.out hg)
        have hp2 : p2 < 2 := by omega
        clear hI hg
        have hbwpp1p2 : b < wpp1p2.heap.size := Ipp1p2.out.lt
        clear hp
        refine hK.out _ _ trivial (fun hH47 => ?_)
        clear hK K hH1
        try simp only [Act.put, List.setIfInBounds_toArray, List.set_cons_zero, List.set_cons_succ]
        refine wpAnyH_ready (rs := [3, 9, 14]) (by kernel_rfl) (by simp) ?_
        refine AllReadyH.cons (by simp only [List.getElem?_toArray, List.getElem?_cons_succ, List.getElem?_cons_zero]; rfl) (fun K hK => ?rpp1p23) (AllReadyH.cons (by simp only [List.getElem?_toArray, List.getElem?_cons_succ, List.getElem?_cons_zero]; rfl) (fun K hK => ?rpp1p29) (AllReadyH.cons (by simp only [List.getElem?_toArray, List.getElem?_cons_succ, List.getElem?_cons_zero]; rfl) (fun K hK => ?rpp1p214) AllReadyH.nil))
        case rpp1p23 =>
          have bxpp1p2l := below_box (Below.refl wpp1p2.heap.size wpp1p2) (.cells #[.int .i64 (p1 : Int), .int .i64 200] 3)
          have Ipp1p2l := Lib.hid (Ipp1p2.out.below bxpp1p2l)
          have Gpp1p2l := Lib.hid (grown_trans Gpp1p2.out (World.grownBy_alloc wpp1p2 (.cells #[.int .i64 (p1 : Int), .int .i64 200] 3) (some b)))
          have Hpp1p2l : Hid ((World.heap (wpp1p2.alloc (.cells #[.int .i64 (p1 : Int), .int .i64 200] 3)))[wpp1p2.heap.size]? = some (.cells #[.int .i64 (p1 : Int), .int .i64 200] 3 (0, 0))) := Lib.hid (alloc_at wpp1p2 (.cells #[.int .i64 (p1 : Int), .int .i64 200] 3) _ (by simp))
          clear bxpp1p2l
          go_simp
          refine hK.out _ _ trivial (fun hH48 => ?_)
          clear hK K hH47
          try simp only [Act.put, List.setIfInBounds_toArray, List.set_cons_zero, List.set_cons_succ]
          obtain ⟨u, hu, hul⟩ := lit2_at p1 p2 hp20 hp2
          have hp0 : (0 : Int) ≤ (p2 : Int) := by omega
          have hp1 : (p2 : Int) < 2 := by omega
          have qpp1p2li := (cur_cell Hpp1p2l.out p2).trans hul
          refine wpAnyH_take (i := 6) (oi := ?onpp1p2li_6) (v := ?vnpp1p2li_6) ?hinpp1p2li_6 (by kernel_rfl) (by kernel_rfl) (by kernel_rfl) ?hqnpp1p2li_6 ?hynpp1p2li_6 (by assumption) ?rnpp1p2li_6
          case hinpp1p2li_6 => (simp only [List.getElem?_toArray, List.getElem?_cons_succ, List.getElem?_cons_zero]; rfl)
          case hqnpp1p2li_6 => exact fun _ _ _ h => h
          case hynpp1p2li_6 =>
            refine Or.inl ⟨by rfl, ?_⟩; intro wq hSw; (try dsimp only at hSw); go_simp; (try with_reducible rfl); done
          try simp only [Act.put, List.setIfInBounds_toArray, List.set_cons_zero, List.set_cons_succ]
          refine wpAnyH_ready (rs := [7, 9, 14]) (by kernel_rfl) (by simp) ?_
          refine AllReadyH.cons (by simp only [List.getElem?_toArray, List.getElem?_cons_succ, List.getElem?_cons_zero]; rfl) (fun K hK => ?rpp1p2li7) (AllReadyH.cons (by simp only [List.getElem?_toArray, List.getElem?_cons_succ, List.getElem?_cons_zero]; rfl) (fun K hK => ?rpp1p2li9) (AllReadyH.cons (by simp only [List.getElem?_toArray, List.getElem?_cons_succ, List.getElem?_cons_zero]; rfl) (fun K hK => ?rpp1p2li14) AllReadyH.nil))
          case rpp1p2li7 =>
            have qdpp1p2lid : World.cell? (wpp1p2.alloc (.cells #[.int .i64 (p1 : Int), .int .i64 200] 3)) ⟨wpp1p2.heap.size, p2, none⟩ = some (.int .i64 (u : Int)) := (cur_cell Hpp1p2l.out p2).trans hul
            go_simp
            refine hK.out _ _ trivial (fun hH49 => ?_)
            clear hK K hH48
            try simp only [Act.put, List.setIfInBounds_toArray, List.set_cons_zero, List.set_cons_succ]
            clear qdpp1p2lid
            refine wpAnyH_ready (rs := [9, 14]) (by kernel_rfl) (by simp) ?_
            refine AllReadyH.cons (by simp only [List.getElem?_toArray, List.getElem?_cons_succ, List.getElem?_cons_zero]; rfl) (fun K hK => ?rpp1p2lid9) (AllReadyH.cons (by simp only [List.getElem?_toArray, List.getElem?_cons_succ, List.getElem?_cons_zero]; rfl) (fun K hK => ?rpp1p2lid14) AllReadyH.nil)
            case rpp1p2lid9 =>
              refine step_callW (wpp1p2.alloc (.cells #[.int .i64 (p1 : Int), .int .i64 200] 3)) rfl (by rfl) 47 _ _ rfl _ (by kernel_rfl) Try.call47 _ (CLH.out _) ?_
              rintro e wpp1p2lidc ⟨rfl, hwpp1p2lidc⟩
              replace hwpp1p2lidc := hwpp1p2lidc.symm
              subst hwpp1p2lidc
              refine ⟨_, rfl, ?_⟩
              refine hK.out _ _ trivial (fun hH50 => ?_)
              clear hK K hH49
              try simp only [Act.put, List.setIfInBounds_toArray, List.set_cons_zero, List.set_cons_succ]
              refine wpAnyH_ready (rs := [13, 14]) (by kernel_rfl) (by simp) ?_
              refine AllReadyH.cons (by simp only [List.getElem?_toArray, List.getElem?_cons_succ, List.getElem?_cons_zero]; rfl) (fun K hK => ?rpp1p2lidc13) (AllReadyH.cons (by simp only [List.getElem?_toArray, List.getElem?_cons_succ, List.getElem?_cons_zero]; rfl) (fun K hK => ?rpp1p2lidc14) AllReadyH.nil)
              case rpp1p2lidc13 =>
                refine step_callW (wpp1p2.alloc (.cells #[.int .i64 (p1 : Int), .int .i64 200] 3)) rfl (by rfl) 45 _ _ rfl _ (by kernel_rfl) Try.call45 _ (curBlock b a l cap _ (u : Int) g v _ hl (by omega) (by omega) (by omega) (by omega) Ipp1p2l.out) ?_
                rintro e wpp1p2lidcb ⟨r, a9, c9, rfl, hrz, hrl, hrv, ho, hI, hg⟩
                refine ⟨_, rfl, ?_⟩
                have Ipp1p2lidcb := Lib.hid hI
                have Gpp1p2lidcb := Lib.hid (grown_trans Gpp1p2l.out hg)
                have Hpp1p2lidcb := Lib.hid (kept_grown Hpp1p2l.out hg (by intro e; have e := Option.some.inj e; omega))
                have OBpp1p2lidcb := Lib.hid ho
                have hsopp1p2lidcb := hg.size
                have hbd : blkBd r ∧ r.data.length ≤ 8 := ⟨⟨by omega, by omega⟩, by omega⟩
                clear ho hrz hrl hrv
                obtain ⟨r0, hr0⟩ : ∃ z, r.id = z := ⟨_, rfl⟩
                obtain ⟨r1, hr1⟩ : ∃ z, r.leaf = z := ⟨_, rfl⟩
                obtain ⟨rq, hrq⟩ : ∃ z, r.data.length = z := ⟨_, rfl⟩
                rw [hr0, hr1, hrq] at OBpp1p2lidcb ⊢
                clear hI hg
                have hbwpp1p2lidcb : b < wpp1p2lidcb.heap.size := Ipp1p2lidcb.out.lt
                refine hK.out _ _ trivial (fun hH51 => ?_)
                clear hK K hH50
                try simp only [Act.put, List.setIfInBounds_toArray, List.set_cons_zero, List.set_cons_succ]
                refine wpAnyH_ready (rs := [14]) (by kernel_rfl) (by simp) ?_
                refine AllReadyH.cons (by simp only [List.getElem?_toArray, List.getElem?_cons_succ, List.getElem?_cons_zero]; rfl) (fun K hK => ?_) AllReadyH.nil
                have bxpp1p2lidcbz := below_box (Below.refl wpp1p2lidcb.heap.size wpp1p2lidcb) (.cells #[.int .i64 0, .int .i64 0, .slice none 0 0] 26)
                have Ipp1p2lidcbz := Lib.hid (Ipp1p2lidcb.out.below bxpp1p2lidcbz)
                have Gpp1p2lidcbz := Lib.hid (grown_trans Gpp1p2lidcb.out (World.grownBy_alloc wpp1p2lidcb (.cells #[.int .i64 0, .int .i64 0, .slice none 0 0] 26) (some b)))
                have Hpp1p2lidcbz := Lib.hid (kept_block Hpp1p2lidcb.out bxpp1p2lidcbz)
                have OBpp1p2lidcbz := Lib.hid (((BlockOwn.lies OBpp1p2lidcb.out (Nat.le_refl _)).below bxpp1p2lidcbz).now)
                have HZpp1p2lidcbz : Hid ((World.heap (wpp1p2lidcb.alloc (.cells #[.int .i64 0, .int .i64 0, .slice none 0 0] 26)))[wpp1p2lidcb.heap.size]? = some (.cells #[.int .i64 0, .int .i64 0, .slice none 0 0] 26 (0, 0))) := Lib.hid (alloc_at wpp1p2lidcb (.cells #[.int .i64 0, .int .i64 0, .slice none 0 0] 26) _ (by simp))
                clear bxpp1p2lidcbz
                go_simp
                refine hK.out _ _ trivial (fun hH52 => ?_)
                clear hK K hH51
                try simp only [Act.put, List.setIfInBounds_toArray, List.set_cons_zero, List.set_cons_succ]
                refine wpAnyH_ready (rs := [15]) (by kernel_rfl) (by simp) ?_
                refine AllReadyH.cons (by simp only [List.getElem?_toArray, List.getElem?_cons_succ, List.getElem?_cons_zero]; rfl) (fun K hK => ?_) AllReadyH.nil
                have z0 := cur_cell HZpp1p2lidcbz.out 0
                have z1 := cur_cell HZpp1p2lidcbz.out 1
                have z2 := cur_cell HZpp1p2lidcbz.out 2
                have f0 := cur_free HZpp1p2lidcbz.out 0
                have f1 := cur_free HZpp1p2lidcbz.out 1
                have f2 := cur_free HZpp1p2lidcbz.out 2
                simp at z0 z1 z2
                have Z := Lib.hid (PSt.fresh (w3 := w3) (m' := m + 60) OBpp1p2lidcb.out Gpp1p2l.out.size hbd Ipp1p2lidcb.out (by omega) Gpp1p2lidcb.out hb3 hr0 hr1 hrq)
                go_simp
                refine hK.out _ _ trivial (fun hH53 => ?_)
                clear hK K hH52
                try simp only [Act.put, List.setIfInBounds_toArray, List.set_cons_zero, List.set_cons_succ]
                clear z0 z1 z2 f0 f1 f2
                refine wpAnyH_done (by kernel_rfl) ?_ _
                go_wp2_with fail
                go_meet
                exact ⟨_, r, _, _, _, rfl, Z⟩
              case rpp1p2lidc14 =>
                have bxpp1p2lidcz := below_box (Below.refl (wpp1p2.alloc (.cells #[.int .i64 (p1 : Int), .int .i64 200] 3)).heap.size (wpp1p2.alloc (.cells #[.int .i64 (p1 : Int), .int .i64 200] 3))) (.cells #[.int .i64 0, .int .i64 0, .slice none 0 0] 26)
                have Ipp1p2lidcz := Lib.hid (Ipp1p2l.out.below bxpp1p2lidcz)
                have Gpp1p2lidcz := Lib.hid (grown_trans Gpp1p2l.out (World.grownBy_alloc (wpp1p2.alloc (.cells #[.int .i64 (p1 : Int), .int .i64 200] 3)) (.cells #[.int .i64 0, .int .i64 0, .slice none 0 0] 26) (some b)))
                have Hpp1p2lidcz := Lib.hid (kept_block Hpp1p2l.out bxpp1p2lidcz)
                have HZpp1p2lidcz : Hid ((World.heap ((wpp1p2.alloc (.cells #[.int .i64 (p1 : Int), .int .i64 200] 3)).alloc (.cells #[.int .i64 0, .int .i64 0, .slice none 0 0] 26)))[wpp1p2.heap.size + 1]? = some (.cells #[.int .i64 0, .int .i64 0, .slice none 0 0] 26 (0, 0))) := Lib.hid (alloc_at (wpp1p2.alloc (.cells #[.int .i64 (p1 : Int), .int .i64 200] 3)) (.cells #[.int .i64 0, .int .i64 0, .slice none 0 0] 26) _ (by simp))
                clear bxpp1p2lidcz
                go_simp
                refine hK.out _ _ trivial (fun hH54 => ?_)
                clear hK K hH50
                try simp only [Act.put, List.setIfInBounds_toArray, List.set_cons_zero, List.set_cons_succ]
                refine wpAnyH_ready (rs := [13]) (by kernel_rfl) (by simp) ?_
                refine AllReadyH.cons (by simp only [List.getElem?_toArray, List.getElem?_cons_succ, List.getElem?_cons_zero]; rfl) (fun K hK => ?_) AllReadyH.nil
                refine step_callW ((wpp1p2.alloc (.cells #[.int .i64 (p1 : Int), .int .i64 200] 3)).alloc (.cells #[.int .i64 0, .int .i64 0, .slice none 0 0] 26)) rfl (by rfl) 45 _ _ rfl _ (by kernel_rfl) Try.call45 _ (curBlock b a l cap _ (u : Int) g v _ hl (by omega) (by omega) (by omega) (by omega) Ipp1p2lidcz.out) ?_
                rintro e wpp1p2lidczb ⟨r, a9, c9, rfl, hrz, hrl, hrv, ho, hI, hg⟩
                refine ⟨_, rfl, ?_⟩
                have Ipp1p2lidczb := Lib.hid hI
                have Gpp1p2lidczb := Lib.hid (grown_trans Gpp1p2lidcz.out hg)
                have Hpp1p2lidczb := Lib.hid (kept_grown Hpp1p2lidcz.out hg (by intro e; have e := Option.some.inj e; omega))
                have HZpp1p2lidczb := Lib.hid (kept_grown HZpp1p2lidcz.out hg (by intro e; have e := Option.some.inj e; omega))
                have OBpp1p2lidczb := Lib.hid ho
                have hsopp1p2lidczb := hg.size
                have hbd : blkBd r ∧ r.data.length ≤ 8 := ⟨⟨by omega, by omega⟩, by omega⟩
                clear ho hrz hrl hrv
                obtain ⟨r0, hr0⟩ : ∃ z, r.id = z := ⟨_, rfl⟩
                obtain ⟨r1, hr1⟩ : ∃ z, r.leaf = z := ⟨_, rfl⟩
                obtain ⟨rq, hrq⟩ : ∃ z, r.data.length = z := ⟨_, rfl⟩
                rw [hr0, hr1, hrq] at OBpp1p2lidczb ⊢
                clear hI hg
                have hbwpp1p2lidczb : b < wpp1p2lidczb.heap.size := Ipp1p2lidczb.out.lt
                refine hK.out _ _ trivial (fun hH55 => ?_)
                clear hK K hH54
                try simp only [Act.put, List.setIfInBounds_toArray, List.set_cons_zero, List.set_cons_succ]
                refine wpAnyH_ready (rs := [15]) (by kernel_rfl) (by simp) ?_
                refine AllReadyH.cons (by simp only [List.getElem?_toArray, List.getElem?_cons_succ, List.getElem?_cons_zero]; rfl) (fun K hK => ?_) AllReadyH.nil
                have z0 := cur_cell HZpp1p2lidczb.out 0
                have z1 := cur_cell HZpp1p2lidczb.out 1
                have z2 := cur_cell HZpp1p2lidczb.out 2
                have f0 := cur_free HZpp1p2lidczb.out 0
                have f1 := cur_free HZpp1p2lidczb.out 1
                have f2 := cur_free HZpp1p2lidczb.out 2
                simp at z0 z1 z2
                have Z := Lib.hid (PSt.store (w3 := w3) (m' := m + 60) HZpp1p2lidczb.out OBpp1p2lidczb.out ⟨.inl (cur_lt HZpp1p2lidcz.out), Nat.le_refl _⟩ Gpp1p2lidcz.out.size (Nat.le_trans Gpp1p2l.out.size (by simp)) hbd Ipp1p2lidczb.out (by omega) Gpp1p2lidczb.out hb3 hr0 hr1 hrq)
                go_simp
                refine hK.out _ _ trivial (fun hH56 => ?_)
                clear hK K hH55
                try simp only [Act.put, List.setIfInBounds_toArray, List.set_cons_zero, List.set_cons_succ]
                clear z0 z1 z2 f0 f1 f2
                refine wpAnyH_done (by kernel_rfl) ?_ _
                go_wp2_with fail
                go_meet
                exact ⟨_, r, _, _, _, rfl, Z⟩
            case rpp1p2lid14 =>
              have bxpp1p2lidz := below_box (Below.refl (wpp1p2.alloc (.cells #[.int .i64 (p1 : Int), .int .i64 200] 3)).heap.size (wpp1p2.alloc (.cells #[.int .i64 (p1 : Int), .int .i64 200] 3))) (.cells #[.int .i64 0, .int .i64 0, .slice none 0 0] 26)
              have Ipp1p2lidz := Lib.hid (Ipp1p2l.out.below bxpp1p2lidz)
              have Gpp1p2lidz := Lib.hid (grown_trans Gpp1p2l.out (World.grownBy_alloc (wpp1p2.alloc (.cells #[.int .i64 (p1 : Int), .int .i64 200] 3)) (.cells #[.int .i64 0, .int .i64 0, .slice none 0 0] 26) (some b)))
              have Hpp1p2lidz := Lib.hid (kept_block Hpp1p2l.out bxpp1p2lidz)
              have HZpp1p2lidz : Hid ((World.heap ((wpp1p2.alloc (.cells #[.int .i64 (p1 : Int), .int .i64 200] 3)).alloc (.cells #[.int .i64 0, .int .i64 0, .slice none 0 0] 26)))[wpp1p2.heap.size + 1]? = some (.cells #[.int .i64 0, .int .i64 0, .slice none 0 0] 26 (0, 0))) := Lib.hid (alloc_at (wpp1p2.alloc (.cells #[.int .i64 (p1 : Int), .int .i64 200] 3)) (.cells #[.int .i64 0, .int .i64 0, .slice none 0 0] 26) _ (by simp))
              clear bxpp1p2lidz
              go_simp
              refine hK.out _ _ trivial (fun hH57 => ?_)
              clear hK K hH49
              try simp only [Act.put, List.setIfInBounds_toArray, List.set_cons_zero, List.set_cons_succ]
              refine wpAnyH_ready (rs := [9]) (by kernel_rfl) (by simp) ?_
              refine AllReadyH.cons (by simp only [List.getElem?_toArray, List.getElem?_cons_succ, List.getElem?_cons_zero]; rfl) (fun K hK => ?_) AllReadyH.nil
              refine step_callW ((wpp1p2.alloc (.cells #[.int .i64 (p1 : Int), .int .i64 200] 3)).alloc (.cells #[.int .i64 0, .int .i64 0, .slice none 0 0] 26)) rfl (by rfl) 47 _ _ rfl _ (by kernel_rfl) Try.call47 _ (CLH.out _) ?_
              rintro e wpp1p2lidzc ⟨rfl, hwpp1p2lidzc⟩
              replace hwpp1p2lidzc := hwpp1p2lidzc.symm
              subst hwpp1p2lidzc
              refine ⟨_, rfl, ?_⟩
              refine hK.out _ _ trivial (fun hH58 => ?_)
              clear hK K hH57
              try simp only [Act.put, List.setIfInBounds_toArray, List.set_cons_zero, List.set_cons_succ]
              refine wpAnyH_ready (rs := [13]) (by kernel_rfl) (by simp) ?_
              refine AllReadyH.cons (by simp only [List.getElem?_toArray, List.getElem?_cons_succ, List.getElem?_cons_zero]; rfl) (fun K hK => ?_) AllReadyH.nil
              refine step_callW ((wpp1p2.alloc (.cells #[.int .i64 (p1 : Int), .int .i64 200] 3)).alloc (.cells #[.int .i64 0, .int .i64 0, .slice none 0 0] 26)) rfl (by rfl) 45 _ _ rfl _ (by kernel_rfl) Try.call45 _ (curBlock b a l cap _ (u : Int) g v _ hl (by omega) (by omega) (by omega) (by omega) Ipp1p2lidz.out) ?_
              rintro e wpp1p2lidzcb ⟨r, a9, c9, rfl, hrz, hrl, hrv, ho, hI, hg⟩
              refine ⟨_, rfl, ?_⟩
              have Ipp1p2lidzcb := Lib.hid hI
              have Gpp1p2lidzcb := Lib.hid (grown_trans Gpp1p2lidz.out hg)
              have Hpp1p2lidzcb := Lib.hid (kept_grown Hpp1p2lidz.out hg (by intro e; have e := Option.some.inj e; omega))
              have HZpp1p2lidzcb := Lib.hid (kept_grown HZpp1p2lidz.out hg (by intro e; have e := Option.some.inj e; omega))
              have OBpp1p2lidzcb := Lib.hid ho
              have hsopp1p2lidzcb := hg.size
              have hbd : blkBd r ∧ r.data.length ≤ 8 := ⟨⟨by omega, by omega⟩, by omega⟩
              clear ho hrz hrl hrv
              obtain ⟨r0, hr0⟩ : ∃ z, r.id = z := ⟨_, rfl⟩
              obtain ⟨r1, hr1⟩ : ∃ z, r.leaf = z := ⟨_, rfl⟩
              obtain ⟨rq, hrq⟩ : ∃ z, r.data.length = z := ⟨_, rfl⟩
              rw [hr0, hr1, hrq] at OBpp1p2lidzcb ⊢
              clear hI hg
              have hbwpp1p2lidzcb : b < wpp1p2lidzcb.heap.size := Ipp1p2lidzcb.out.lt
              refine hK.out _ _ trivial (fun hH59 => ?_)
              clear hK K hH58
              try simp only [Act.put, List.setIfInBounds_toArray, List.set_cons_zero, List.set_cons_succ]
              refine wpAnyH_ready (rs := [15]) (by kernel_rfl) (by simp) ?_
              refine AllReadyH.cons (by simp only [List.getElem?_toArray, List.getElem?_cons_succ, List.getElem?_cons_zero]; rfl) (fun K hK => ?_) AllReadyH.nil
              have z0 := cur_cell HZpp1p2lidzcb.out 0
              have z1 := cur_cell HZpp1p2lidzcb.out 1
              have z2 := cur_cell HZpp1p2lidzcb.out 2
              have f0 := cur_free HZpp1p2lidzcb.out 0
              have f1 := cur_free HZpp1p2lidzcb.out 1
              have f2 := cur_free HZpp1p2lidzcb.out 2
              simp at z0 z1 z2
              have Z := Lib.hid (PSt.store (w3 := w3) (m' := m + 60) HZpp1p2lidzcb.out OBpp1p2lidzcb.out ⟨.inl (cur_lt HZpp1p2lidz.out), Nat.le_refl _⟩ Gpp1p2lidz.out.size (Nat.le_trans Gpp1p2l.out.size (by simp)) hbd Ipp1p2lidzcb.out (by omega) Gpp1p2lidzcb.out hb3 hr0 hr1 hrq)
              go_simp
              refine hK.out _ _ trivial (fun hH60 => ?_)
              clear hK K hH59
              try simp only [Act.put, List.setIfInBounds_toArray, List.set_cons_zero, List.set_cons_succ]
              clear z0 z1 z2 f0 f1 f2
              refine wpAnyH_done (by kernel_rfl) ?_ _
              go_wp2_with fail
              go_meet
              exact ⟨_, r, _, _, _, rfl, Z⟩
          case rpp1p2li9 =>
            refine step_callW (wpp1p2.alloc (.cells #[.int .i64 (p1 : Int), .int .i64 200] 3)) rfl (by rfl) 47 _ _ rfl _ (by kernel_rfl) Try.call47 _ (CLH.out _) ?_
            rintro e wpp1p2lic ⟨rfl, hwpp1p2lic⟩
            replace hwpp1p2lic := hwpp1p2lic.symm
            subst hwpp1p2lic
            refine ⟨_, rfl, ?_⟩
            refine hK.out _ _ trivial (fun hH61 => ?_)
            clear hK K hH48
            try simp only [Act.put, List.setIfInBounds_toArray, List.set_cons_zero, List.set_cons_succ]
            refine wpAnyH_ready (rs := [7, 14]) (by kernel_rfl) (by simp) ?_
            refine AllReadyH.cons (by simp only [List.getElem?_toArray, List.getElem?_cons_succ, List.getElem?_cons_zero]; rfl) (fun K hK => ?rpp1p2lic7) (AllReadyH.cons (by simp only [List.getElem?_toArray, List.getElem?_cons_succ, List.getElem?_cons_zero]; rfl) (fun K hK => ?rpp1p2lic14) AllReadyH.nil)
            case rpp1p2lic7 =>
              have qdpp1p2licd : World.cell? (wpp1p2.alloc (.cells #[.int .i64 (p1 : Int), .int .i64 200] 3)) ⟨wpp1p2.heap.size, p2, none⟩ = some (.int .i64 (u : Int)) := (cur_cell Hpp1p2l.out p2).trans hul
              go_simp
              refine hK.out _ _ trivial (fun hH62 => ?_)
              clear hK K hH61
              try simp only [Act.put, List.setIfInBounds_toArray, List.set_cons_zero, List.set_cons_succ]
              clear qdpp1p2licd
              refine wpAnyH_ready (rs := [13, 14]) (by kernel_rfl) (by simp) ?_
              refine AllReadyH.cons (by simp only [List.getElem?_toArray, List.getElem?_cons_succ, List.getElem?_cons_zero]; rfl) (fun K hK => ?rpp1p2licd13) (AllReadyH.cons (by simp only [List.getElem?_toArray, List.getElem?_cons_succ, List.getElem?_cons_zero]; rfl) (fun K hK => ?rpp1p2licd14) AllReadyH.nil)
              case rpp1p2licd13 =>
                refine step_callW (wpp1p2.alloc (.cells #[.int .i64 (p1 : Int), .int .i64 200] 3)) rfl (by rfl) 45 _ _ rfl _ (by kernel_rfl) Try.call45 _ (curBlock b a l cap _ (u : Int) g v _ hl (by omega) (by omega) (by omega) (by omega) Ipp1p2l.out) ?_
                rintro e wpp1p2licdb ⟨r, a9, c9, rfl, hrz, hrl, hrv, ho, hI, hg⟩
                refine ⟨_, rfl, ?_⟩
                have Ipp1p2licdb := Lib.hid hI
                have Gpp1p2licdb := Lib.hid (grown_trans Gpp1p2l.out hg)
                have Hpp1p2licdb := Lib.hid (kept_grown Hpp1p2l.out hg (by intro e; have e := Option.some.inj e; omega))
                have OBpp1p2licdb := Lib.hid ho
                have hsopp1p2licdb := hg.size
                have hbd : blkBd r ∧ r.data.length ≤ 8 := ⟨⟨by omega, by omega⟩, by omega⟩
                clear ho hrz hrl hrv
                obtain ⟨r0, hr0⟩ : ∃ z, r.id = z := ⟨_, rfl⟩
                obtain ⟨r1, hr1⟩ : ∃ z, r.leaf = z := ⟨_, rfl⟩
                obtain ⟨rq, hrq⟩ : ∃ z, r.data.length = z := ⟨_, rfl⟩
                rw [hr0, hr1, hrq] at OBpp1p2licdb ⊢
                clear hI hg
                have hbwpp1p2licdb : b < wpp1p2licdb.heap.size := Ipp1p2licdb.out.lt
                refine hK.out _ _ trivial (fun hH63 => ?_)
                clear hK K hH62
                try simp only [Act.put, List.setIfInBounds_toArray, List.set_cons_zero, List.set_cons_succ]
                refine wpAnyH_ready (rs := [14]) (by kernel_rfl) (by simp) ?_
                refine AllReadyH.cons (by simp only [List.getElem?_toArray, List.getElem?_cons_succ, List.getElem?_cons_zero]; rfl) (fun K hK => ?_) AllReadyH.nil
                have bxpp1p2licdbz := below_box (Below.refl wpp1p2licdb.heap.size wpp1p2licdb) (.cells #[.int .i64 0, .int .i64 0, .slice none 0 0] 26)
                have Ipp1p2licdbz := Lib.hid (Ipp1p2licdb.out.below bxpp1p2licdbz)
                have Gpp1p2licdbz := Lib.hid (grown_trans Gpp1p2licdb.out (World.grownBy_alloc wpp1p2licdb (.cells #[.int .i64 0, .int .i64 0, .slice none 0 0] 26) (some b)))
                have Hpp1p2licdbz := Lib.hid (kept_block Hpp1p2licdb.out bxpp1p2licdbz)
                have OBpp1p2licdbz := Lib.hid (((BlockOwn.lies OBpp1p2licdb.out (Nat.le_refl _)).below bxpp1p2licdbz).now)
                have HZpp1p2licdbz : Hid ((World.heap (wpp1p2licdb.alloc (.cells #[.int .i64 0, .int .i64 0, .slice none 0 0] 26)))[wpp1p2licdb.heap.size]? = some (.cells #[.int .i64 0, .int .i64 0, .slice none 0 0] 26 (0, 0))) := Lib.hid (alloc_at wpp1p2licdb (.cells #[.int .i64 0, .int .i64 0, .slice none 0 0] 26) _ (by simp))
                clear bxpp1p2licdbz
                go_simp
                refine hK.out _ _ trivial (fun hH64 => ?_)
                clear hK K hH63
                try simp only [Act.put, List.setIfInBounds_toArray, List.set_cons_zero, List.set_cons_succ]
                refine wpAnyH_ready (rs := [15]) (by kernel_rfl) (by simp) ?_
                refine AllReadyH.cons (by simp only [List.getElem?_toArray, List.getElem?_cons_succ, List.getElem?_cons_zero]; rfl) (fun K hK => ?_) AllReadyH.nil
                have z0 := cur_cell HZpp1p2licdbz.out 0
                have z1 := cur_cell HZpp1p2licdbz.out 1
                have z2 := cur_cell HZpp1p2licdbz.out 2
                have f0 := cur_free HZpp1p2licdbz.out 0
                have f1 := cur_free HZpp1p2licdbz.out 1
                have f2 := cur_free HZpp1p2licdbz.out 2
                simp at z0 z1 z2
                have Z := Lib.hid (PSt.fresh (w3 := w3) (m' := m + 60) OBpp1p2licdb.out Gpp1p2l.out.size hbd Ipp1p2licdb.out (by omega) Gpp1p2licdb.out hb3 hr0 hr1 hrq)
                go_simp
                refine hK.out _ _ trivial (fun hH65 => ?_)
                clear hK K hH64
                try simp only [Act.put, List.setIfInBounds_toArray, List.set_cons_zero, List.set_cons_succ]
                clear z0 z1 z2 f0 f1 f2
                refine wpAnyH_done (by kernel_rfl) ?_ _
                go_wp2_with fail
                go_meet
                exact ⟨_, r, _, _, _, rfl, Z⟩
              case rpp1p2licd14 =>
                have bxpp1p2licdz := below_box (Below.refl (wpp1p2.alloc (.cells #[.int .i64 (p1 : Int), .int .i64 200] 3)).heap.size (wpp1p2.alloc (.cells #[.int .i64 (p1 : Int), .int .i64 200] 3))) (.cells #[.int .i64 0, .int .i64 0, .slice none 0 0] 26)
                have Ipp1p2licdz := Lib.hid (Ipp1p2l.out.below bxpp1p2licdz)
                have Gpp1p2licdz := Lib.hid (grown_trans Gpp1p2l.out (World.grownBy_alloc (wpp1p2.alloc (.cells #[.int .i64 (p1 : Int), .int .i64 200] 3)) (.cells #[.int .i64 0, .int .i64 0, .slice none 0 0] 26) (some b)))
                have Hpp1p2licdz := Lib.hid (kept_block Hpp1p2l.out bxpp1p2licdz)
                have HZpp1p2licdz : Hid ((World.heap ((wpp1p2.alloc (.cells #[.int .i64 (p1 : Int), .int .i64 200] 3)).alloc (.cells #[.int .i64 0, .int .i64 0, .slice none 0 0] 26)))[wpp1p2.heap.size + 1]? = some (.cells #[.int .i64 0, .int .i64 0, .slice none 0 0] 26 (0, 0))) := Lib.hid (alloc_at (wpp1p2.alloc (.cells #[.int .i64 (p1 : Int), .int .i64 200] 3)) (.cells #[.int .i64 0, .int .i64 0, .slice none 0 0] 26) _ (by simp))
                clear bxpp1p2licdz
                go_simp
                refine hK.out _ _ trivial (fun hH66 => ?_)
                clear hK K hH62
                try simp only [Act.put, List.setIfInBounds_toArray, List.set_cons_zero, List.set_cons_succ]
                refine wpAnyH_ready (rs := [13]) (by kernel_rfl) (by simp) ?_
                refine AllReadyH.cons (by simp only [List.getElem?_toArray, List.getElem?_cons_succ, List.getElem?_cons_zero]; rfl) (fun K hK => ?_) AllReadyH.nil
                refine step_callW ((wpp1p2.alloc (.cells #[.int .i64 (p1 : Int), .int .i64 200] 3)).alloc (.cells #[.int .i64 0, .int .i64 0, .slice none 0 0] 26)) rfl (by rfl) 45 _ _ rfl _ (by kernel_rfl) Try.call45 _ (curBlock b a l cap _ (u : Int) g v _ hl (by omega) (by omega) (by omega) (by omega) Ipp1p2licdz.out) ?_
                rintro e wpp1p2licdzb ⟨r, a9, c9, rfl, hrz, hrl, hrv, ho, hI, hg⟩
                refine ⟨_, rfl, ?_⟩
                have Ipp1p2licdzb := Lib.hid hI
                have Gpp1p2licdzb := Lib.hid (grown_trans Gpp1p2licdz.out hg)
                have Hpp1p2licdzb := Lib.hid (kept_grown Hpp1p2licdz.out hg (by intro e; have e := Option.some.inj e; omega))
                have HZpp1p2licdzb := Lib.hid (kept_grown HZpp1p2licdz.out hg (by intro e; have e := Option.some.inj e; omega))
                have OBpp1p2licdzb := Lib.hid ho
                have hsopp1p2licdzb := hg.size
                have hbd : blkBd r ∧ r.data.length ≤ 8 := ⟨⟨by omega, by omega⟩, by omega⟩
                clear ho hrz hrl hrv
                obtain ⟨r0, hr0⟩ : ∃ z, r.id = z := ⟨_, rfl⟩
                obtain ⟨r1, hr1⟩ : ∃ z, r.leaf = z := ⟨_, rfl⟩
                obtain ⟨rq, hrq⟩ : ∃ z, r.data.length = z := ⟨_, rfl⟩
                rw [hr0, hr1, hrq] at OBpp1p2licdzb ⊢
                clear hI hg
                have hbwpp1p2licdzb : b < wpp1p2licdzb.heap.size := Ipp1p2licdzb.out.lt
                refine hK.out _ _ trivial (fun hH67 => ?_)
                clear hK K hH66
                try simp only [Act.put, List.setIfInBounds_toArray, List.set_cons_zero, List.set_cons_succ]
                refine wpAnyH_ready (rs := [15]) (by kernel_rfl) (by simp) ?_
                refine AllReadyH.cons (by simp only [List.getElem?_toArray, List.getElem?_cons_succ, List.getElem?_cons_zero]; rfl) (fun K hK => ?_) AllReadyH.nil
                have z0 := cur_cell HZpp1p2licdzb.out 0
                have z1 := cur_cell HZpp1p2licdzb.out 1
                have z2 := cur_cell HZpp1p2licdzb.out 2
                have f0 := cur_free HZpp1p2licdzb.out 0
                have f1 := cur_free HZpp1p2licdzb.out 1
                have f2 := cur_free HZpp1p2licdzb.out 2
                simp at z0 z1 z2
                have Z := Lib.hid (PSt.store (w3 := w3) (m' := m + 60) HZpp1p2licdzb.out OBpp1p2licdzb.out ⟨.inl (cur_lt HZpp1p2licdz.out), Nat.le_refl _⟩ Gpp1p2licdz.out.size (Nat.le_trans Gpp1p2l.out.size (by simp)) hbd Ipp1p2licdzb.out (by omega) Gpp1p2licdzb.out hb3 hr0 hr1 hrq)
                go_simp
                refine hK.out _ _ trivial (fun hH68 => ?_)
                clear hK K hH67
                try simp only [Act.put, List.setIfInBounds_toArray, List.set_cons_zero, List.set_cons_succ]
                clear z0 z1 z2 f0 f1 f2
                refine wpAnyH_done (by kernel_rfl) ?_ _
                go_wp2_with fail
                go_meet
                exact ⟨_, r, _, _, _, rfl, Z⟩
            case rpp1p2lic14 =>
              have bxpp1p2licz := below_box (Below.refl (wpp1p2.alloc (.cells #[.int .i64 (p1 : Int), .int .i64 200] 3)).heap.size (wpp1p2.alloc (.cells #[.int .i64 (p1 : Int), .int .i64 200] 3))) (.cells #[.int .i64 0, .int .i64 0, .slice none 0 0] 26)
              have Ipp1p2licz := Lib.hid (Ipp1p2l.out.below bxpp1p2licz)
              have Gpp1p2licz := Lib.hid (grown_trans Gpp1p2l.out (World.grownBy_alloc (wpp1p2.alloc (.cells #[.int .i64 (p1 : Int), .int .i64 200] 3)) (.cells #[.int .i64 0, .int .i64 0, .slice none 0 0] 26) (some b)))
              have Hpp1p2licz := Lib.hid (kept_block Hpp1p2l.out bxpp1p2licz)
              have HZpp1p2licz : Hid ((World.heap ((wpp1p2.alloc (.cells #[.int .i64 (p1 : Int), .int .i64 200] 3)).alloc (.cells #[.int .i64 0, .int .i64 0, .slice none 0 0] 26)))[wpp1p2.heap.size + 1]? = some (.cells #[.int .i64 0, .int .i64 0, .slice none 0 0] 26 (0, 0))) := Lib.hid (alloc_at (wpp1p2.alloc (.cells #[.int .i64 (p1 : Int), .int .i64 200] 3)) (.cells #[.int .i64 0, .int .i64 0, .slice none 0 0] 26) _ (by simp))
              clear bxpp1p2licz
              go_simp
              refine hK.out _ _ trivial (fun hH69 => ?_)
              clear hK K hH61
              try simp only [Act.put, List.setIfInBounds_toArray, List.set_cons_zero, List.set_cons_succ]
              refine wpAnyH_ready (rs := [7]) (by kernel_rfl) (by simp) ?_
              refine AllReadyH.cons (by simp only [List.getElem?_toArray, List.getElem?_cons_succ, List.getElem?_cons_zero]; rfl) (fun K hK => ?_) AllReadyH.nil
              have qdpp1p2liczd : World.cell? ((wpp1p2.alloc (.cells #[.int .i64 (p1 : Int), .int .i64 200] 3)).alloc (.cells #[.int .i64 0, .int .i64 0, .slice none 0 0] 26)) ⟨wpp1p2.heap.size, p2, none⟩ = some (.int .i64 (u : Int)) := (cur_cell Hpp1p2licz.out p2).trans hul
              go_simp
              refine hK.out _ _ trivial (fun hH70 => ?_)
              clear hK K hH69
              try simp only [Act.put, List.setIfInBounds_toArray, List.set_cons_zero, List.set_cons_succ]
              clear qdpp1p2liczd
              refine wpAnyH_ready (rs := [13]) (by kernel_rfl) (by simp) ?_
              refine AllReadyH.cons (by simp only [List.getElem?_toArray, List.getElem?_cons_succ, List.getElem?_cons_zero]; rfl) (fun K hK => ?_) AllReadyH.nil
              refine step_callW ((wpp1p2.alloc (.cells #[.int .i64 (p1 : Int), .int .i64 200] 3)).alloc (.cells #[.int .i64 0, .int .i64 0, .slice none 0 0] 26)) rfl (by rfl) 45 _ _ rfl _ (by kernel_rfl) Try.call45 _ (curBlock b a l cap _ (u : Int) g v _ hl (by omega) (by omega) (by omega) (by omega) Ipp1p2licz.out) ?_
              rintro e wpp1p2liczdb ⟨r, a9, c9, rfl, hrz, hrl, hrv, ho, hI, hg⟩
              refine ⟨_, rfl, ?_⟩
              have Ipp1p2liczdb := Lib.hid hI
              have Gpp1p2liczdb := Lib.hid (grown_trans Gpp1p2licz.out hg)
              have Hpp1p2liczdb := Lib.hid (kept_grown Hpp1p2licz.out hg (by intro e; have e := Option.some.inj e; omega))
              have HZpp1p2liczdb := Lib.hid (kept_grown HZpp1p2licz.out hg (by intro e; have e := Option.some.inj e; omega))
              have OBpp1p2liczdb := Lib.hid ho
              have hsopp1p2liczdb := hg.size
              have hbd : blkBd r ∧ r.data.length ≤ 8 := ⟨⟨by omega, by omega⟩, by omega⟩
              clear ho hrz hrl hrv
              obtain ⟨r0, hr0⟩ : ∃ z, r.id = z := ⟨_, rfl⟩
              obtain ⟨r1, hr1⟩ : ∃ z, r.leaf = z := ⟨_, rfl⟩
              obtain ⟨rq, hrq⟩ : ∃ z, r.data.length = z := ⟨_, rfl⟩
              rw [hr0, hr1, hrq] at OBpp1p2liczdb ⊢
              clear hI hg
              have hbwpp1p2liczdb : b < wpp1p2liczdb.heap.size := Ipp1p2liczdb.out.lt
              refine hK.out _ _ trivial (fun hH71 => ?_)
              clear hK K hH70
              try simp only [Act.put, List.setIfInBounds_toArray, List.set_cons_zero, List.set_cons_succ]
              refine wpAnyH_ready (rs := [15]) (by kernel_rfl) (by simp) ?_
              refine AllReadyH.cons (by simp only [List.getElem?_toArray, List.getElem?_cons_succ, List.getElem?_cons_zero]; rfl) (fun K hK => ?_) AllReadyH.nil
              have z0 := cur_cell HZpp1p2liczdb.out 0
              have z1 := cur_cell HZpp1p2liczdb.out 1
              have z2 := cur_cell HZpp1p2liczdb.out 2
              have f0 := cur_free HZpp1p2liczdb.out 0
              have f1 := cur_free HZpp1p2liczdb.out 1
              have f2 := cur_free HZpp1p2liczdb.out 2
              simp at z0 z1 z2
              have Z := Lib.hid (PSt.store (w3 := w3) (m' := m + 60) HZpp1p2liczdb.out OBpp1p2liczdb.out ⟨.inl (cur_lt HZpp1p2licz.out), Nat.le_refl _⟩ Gpp1p2licz.out.size (Nat.le_trans Gpp1p2l.out.size (by simp)) hbd Ipp1p2liczdb.out (by omega) Gpp1p2liczdb.out hb3 hr0 hr1 hrq)
              go_simp
              refine hK.out _ _ trivial (fun hH72 => ?_)
              clear hK K hH71
              try simp only [Act.put, List.setIfInBounds_toArray, List.set_cons_zero, List.set_cons_succ]
              clear z0 z1 z2 f0 f1 f2
              refine wpAnyH_done (by kernel_rfl) ?_ _
              go_wp2_with fail
              go_meet
              exact ⟨_, r, _, _, _, rfl, Z⟩
          case rpp1p2li14 =>
            have bxpp1p2liz := below_box (Below.refl (wpp1p2.alloc (.cells #[.int .i64 (p1 : Int), .int .i64 200] 3)).heap.size (wpp1p2.alloc (.cells #[.int .i64 (p1 : Int), .int .i64 200] 3))) (.cells #[.int .i64 0, .int .i64 0, .slice none 0 0] 26)
            have Ipp1p2liz := Lib.hid (Ipp1p2l.out.below bxpp1p2liz)
            have Gpp1p2liz := Lib.hid (grown_trans Gpp1p2l.out (World.grownBy_alloc (wpp1p2.alloc (.cells #[.int .i64 (p1 : Int), .int .i64 200] 3)) (.cells #[.int .i64 0, .int .i64 0, .slice none 0 0] 26) (some b)))
            have Hpp1p2liz := Lib.hid (kept_block Hpp1p2l.out bxpp1p2liz)
            have HZpp1p2liz : Hid ((World.heap ((wpp1p2.alloc (.cells #[.int .i64 (p1 : Int), .int .i64 200] 3)).alloc (.cells #[.int .i64 0, .int .i64 0, .slice none 0 0] 26)))[wpp1p2.heap.size + 1]? = some (.cells #[.int .i64 0, .int .i64 0, .slice none 0 0] 26 (0, 0))) := Lib.hid (alloc_at (wpp1p2.alloc (.cells #[.int .i64 (p1 : Int), .int .i64 200] 3)) (.cells #[.int .i64 0, .int .i64 0, .slice none 0 0] 26) _ (by simp))
            clear bxpp1p2liz
            go_simp
            refine hK.out _ _ trivial (fun hH73 => ?_)
            clear hK K hH48
            try simp only [Act.put, List.setIfInBounds_toArray, List.set_cons_zero, List.set_cons_succ]
            refine wpAnyH_ready (rs := [7, 9]) (by kernel_rfl) (by simp) ?_
            refine AllReadyH.cons (by simp only [List.getElem?_toArray, List.getElem?_cons_succ, List.getElem?_cons_zero]; rfl) (fun K hK => ?rpp1p2liz7) (AllReadyH.cons (by simp only [List.getElem?_toArray, List.getElem?_cons_succ, List.getElem?_cons_zero]; rfl) (fun K hK => ?rpp1p2liz9) AllReadyH.nil)
            case rpp1p2liz7 =>
              have qdpp1p2lizd : World.cell? ((wpp1p2.alloc (.cells #[.int .i64 (p1 : Int), .int .i64 200] 3)).alloc (.cells #[.int .i64 0, .int .i64 0, .slice none 0 0] 26)) ⟨wpp1p2.heap.size, p2, none⟩ = some (.int .i64 (u : Int)) := (cur_cell Hpp1p2liz.out p2).trans hul
              go_simp
              refine hK.out _ _ trivial (fun hH74 => ?_)
              clear hK K hH73
              try simp only [Act.put, List.setIfInBounds_toArray, List.set_cons_zero, List.set_cons_succ]
              clear qdpp1p2lizd
              refine wpAnyH_ready (rs := [9]) (by kernel_rfl) (by simp) ?_
              refine AllReadyH.cons (by simp only [List.getElem?_toArray, List.getElem?_cons_succ, List.getElem?_cons_zero]; rfl) (fun K hK => ?_) AllReadyH.nil
              refine step_callW ((wpp1p2.alloc (.cells #[.int .i64 (p1 : Int), .int .i64 200] 3)).alloc (.cells #[.int .i64 0, .int .i64 0, .slice none 0 0] 26)) rfl (by rfl) 47 _ _ rfl _ (by kernel_rfl) Try.call47 _ (CLH.out _) ?_
              rintro e wpp1p2lizdc ⟨rfl, hwpp1p2lizdc⟩
              replace hwpp1p2lizdc := hwpp1p2lizdc.symm
              subst hwpp1p2lizdc
              refine ⟨_, rfl, ?_⟩
              refine hK.out _ _ trivial (fun hH75 => ?_)
              clear hK K hH74
              try simp only [Act.put, List.setIfInBounds_toArray, List.set_cons_zero, List.set_cons_succ]
              refine wpAnyH_ready (rs := [13]) (by kernel_rfl) (by simp) ?_
              refine AllReadyH.cons (by simp only [List.getElem?_toArray, List.getElem?_cons_succ, List.getElem?_cons_zero]; rfl) (fun K hK => ?_) AllReadyH.nil
              refine step_callW ((wpp1p2.alloc (.cells #[.int .i64 (p1 : Int), .int .i64 200] 3)).alloc (.cells #[.int .i64 0, .int .i64 0, .slice none 0 0] 26)) rfl (by rfl) 45 _ _ rfl _ (by kernel_rfl) Try.call45 _ (curBlock b a l cap _ (u : Int) g v _ hl (by omega) (by omega) (by omega) (by omega) Ipp1p2liz.out) ?_
              rintro e wpp1p2lizdcb ⟨r, a9, c9, rfl, hrz, hrl, hrv, ho, hI, hg⟩
              refine ⟨_, rfl, ?_⟩
              have Ipp1p2lizdcb := Lib.hid hI
              have Gpp1p2lizdcb := Lib.hid (grown_trans Gpp1p2liz.out hg)
              have Hpp1p2lizdcb := Lib.hid (kept_grown Hpp1p2liz.out hg (by intro e; have e := Option.some.inj e; omega))
              have HZpp1p2lizdcb := Lib.hid (kept_grown HZpp1p2liz.out hg (by intro e; have e := Option.some.inj e; omega))
              have OBpp1p2lizdcb := Lib.hid ho
              have hsopp1p2lizdcb := hg.size
              have hbd : blkBd r ∧ r.data.length ≤ 8 := ⟨⟨by omega, by omega⟩, by omega⟩
              clear ho hrz hrl hrv
              obtain ⟨r0, hr0⟩ : ∃ z, r.id = z := ⟨_, rfl⟩
              obtain ⟨r1, hr1⟩ : ∃ z, r.leaf = z := ⟨_, rfl⟩
              obtain ⟨rq, hrq⟩ : ∃ z, r.data.length = z := ⟨_, rfl⟩
              rw [hr0, hr1, hrq] at OBpp1p2lizdcb ⊢
              clear hI hg
              have hbwpp1p2lizdcb : b < wpp1p2lizdcb.heap.size := Ipp1p2lizdcb.out.lt
              refine hK.out _ _ trivial (fun hH76 => ?_)
              clear hK K hH75
              try simp only [Act.put, List.setIfInBounds_toArray, List.set_cons_zero, List.set_cons_succ]
              refine wpAnyH_ready (rs := [15]) (by kernel_rfl) (by simp) ?_
              refine AllReadyH.cons (by simp only [List.getElem?_toArray, List.getElem?_cons_succ, List.getElem?_cons_zero]; rfl) (fun K hK => ?_) AllReadyH.nil
              have z0 := cur_cell HZpp1p2lizdcb.out 0
              have z1 := cur_cell HZpp1p2lizdcb.out 1
              have z2 := cur_cell HZpp1p2lizdcb.out 2
              have f0 := cur_free HZpp1p2lizdcb.out 0
              have f1 := cur_free HZpp1p2lizdcb.out 1
              have f2 := cur_free HZpp1p2lizdcb.out 2
              simp at z0 z1 z2
              have Z := Lib.hid (PSt.store (w3 := w3) (m' := m + 60) HZpp1p2lizdcb.out OBpp1p2lizdcb.out ⟨.inl (cur_lt HZpp1p2liz.out), Nat.le_refl _⟩ Gpp1p2liz.out.size (Nat.le_trans Gpp1p2l.out.size (by simp)) hbd Ipp1p2lizdcb.out (by omega) Gpp1p2lizdcb.out hb3 hr0 hr1 hrq)
              go_simp
              refine hK.out _ _ trivial (fun hH77 => ?_)
              clear hK K hH76
              try simp only [Act.put, List.setIfInBounds_toArray, List.set_cons_zero, List.set_cons_succ]
              clear z0 z1 z2 f0 f1 f2
              refine wpAnyH_done (by kernel_rfl) ?_ _
              go_wp2_with fail
              go_meet
              exact ⟨_, r, _, _, _, rfl, Z⟩
            case rpp1p2liz9 =>
              refine step_callW ((wpp1p2.alloc (.cells #[.int .i64 (p1 : Int), .int .i64 200] 3)).alloc (.cells #[.int .i64 0, .int .i64 0, .slice none 0 0] 26)) rfl (by rfl) 47 _ _ rfl _ (by kernel_rfl) Try.call47 _ (CLH.out _) ?_
              rintro e wpp1p2lizc ⟨rfl, hwpp1p2lizc⟩
              replace hwpp1p2lizc := hwpp1p2lizc.symm
              subst hwpp1p2lizc
              refine ⟨_, rfl, ?_⟩
              refine hK.out _ _ trivial (fun hH78 => ?_)
              clear hK K hH73
              try simp only [Act.put, List.setIfInBounds_toArray, List.set_cons_zero, List.set_cons_succ]
              refine wpAnyH_ready (rs := [7]) (by kernel_rfl) (by simp) ?_
              refine AllReadyH.cons (by simp only [List.getElem?_toArray, List.getElem?_cons_succ, List.getElem?_cons_zero]; rfl) (fun K hK => ?_) AllReadyH.nil
              have qdpp1p2lizcd : World.cell? ((wpp1p2.alloc (.cells #[.int .i64 (p1 : Int), .int .i64 200] 3)).alloc (.cells #[.int .i64 0, .int .i64 0, .slice none 0 0] 26)) ⟨wpp1p2.heap.size, p2, none⟩ = some (.int .i64 (u : Int)) := (cur_cell Hpp1p2liz.out p2).trans hul
              go_simp
              refine hK.out _ _ trivial (fun hH79 => ?_)
              clear hK K hH78
              try simp only [Act.put, List.setIfInBounds_toArray, List.set_cons_zero, List.set_cons_succ]
              clear qdpp1p2lizcd
              refine wpAnyH_ready (rs := [13]) (by kernel_rfl) (by simp) ?_
              refine AllReadyH.cons (by simp only [List.getElem?_toArray, List.getElem?_cons_succ, List.getElem?_cons_zero]; rfl) (fun K hK => ?_) AllReadyH.nil
              refine step_callW ((wpp1p2.alloc (.cells #[.int .i64 (p1 : Int), .int .i64 200] 3)).alloc (.cells #[.int .i64 0, .int .i64 0, .slice none 0 0] 26)) rfl (by rfl) 45 _ _ rfl _ (by kernel_rfl) Try.call45 _ (curBlock b a l cap _ (u : Int) g v _ hl (by omega) (by omega) (by omega) (by omega) Ipp1p2liz.out) ?_
              rintro e wpp1p2lizcdb ⟨r, a9, c9, rfl, hrz, hrl, hrv, ho, hI, hg⟩
              refine ⟨_, rfl, ?_⟩
              have Ipp1p2lizcdb := Lib.hid hI
              have Gpp1p2lizcdb := Lib.hid (grown_trans Gpp1p2liz.out hg)
              have Hpp1p2lizcdb := Lib.hid (kept_grown Hpp1p2liz.out hg (by intro e; have e := Option.some.inj e; omega))
              have HZpp1p2lizcdb := Lib.hid (kept_grown HZpp1p2liz.out hg (by intro e; have e := Option.some.inj e; omega))
              have OBpp1p2lizcdb := Lib.hid ho
              have hsopp1p2lizcdb := hg.size
              have hbd : blkBd r ∧ r.data.length ≤ 8 := ⟨⟨by omega, by omega⟩, by omega⟩
              clear ho hrz hrl hrv
              obtain ⟨r0, hr0⟩ : ∃ z, r.id = z := ⟨_, rfl⟩
              obtain ⟨r1, hr1⟩ : ∃ z, r.leaf = z := ⟨_, rfl⟩
              obtain ⟨rq, hrq⟩ : ∃ z, r.data.length = z := ⟨_, rfl⟩
              rw [hr0, hr1, hrq] at OBpp1p2lizcdb ⊢
              clear hI hg
              have hbwpp1p2lizcdb : b < wpp1p2lizcdb.heap.size := Ipp1p2lizcdb.out.lt
              refine hK.out _ _ trivial (fun hH80 => ?_)
              clear hK K hH79
              try simp only [Act.put, List.setIfInBounds_toArray, List.set_cons_zero, List.set_cons_succ]
              refine wpAnyH_ready (rs := [15]) (by kernel_rfl) (by simp) ?_
              refine AllReadyH.cons (by simp only [List.getElem?_toArray, List.getElem?_cons_succ, List.getElem?_cons_zero]; rfl) (fun K hK => ?_) AllReadyH.nil
              have z0 := cur_cell HZpp1p2lizcdb.out 0
              have z1 := cur_cell HZpp1p2lizcdb.out 1
              have z2 := cur_cell HZpp1p2lizcdb.out 2
              have f0 := cur_free HZpp1p2lizcdb.out 0
              have f1 := cur_free HZpp1p2lizcdb.out 1
              have f2 := cur_free HZpp1p2lizcdb.out 2
              simp at z0 z1 z2
              have Z := Lib.hid (PSt.store (w3 := w3) (m' := m + 60) HZpp1p2lizcdb.out OBpp1p2lizcdb.out ⟨.inl (cur_lt HZpp1p2liz.out), Nat.le_refl _⟩ Gpp1p2liz.out.size (Nat.le_trans Gpp1p2l.out.size (by simp)) hbd Ipp1p2lizcdb.out (by omega) Gpp1p2lizcdb.out hb3 hr0 hr1 hrq)
              go_simp
              refine hK.out _ _ trivial (fun hH81 => ?_)
              clear hK K hH80
              try simp only [Act.put, List.setIfInBounds_toArray, List.set_cons_zero, List.set_cons_succ]
              clear z0 z1 z2 f0 f1 f2
              refine wpAnyH_done (by kernel_rfl) ?_ _
              go_wp2_with fail
              go_meet
              exact ⟨_, r, _, _, _, rfl, Z⟩
        case rpp1p29 =>
          refine step_callW wpp1p2 rfl (by rfl) 47 _ _ rfl _ (by kernel_rfl) Try.call47 _ (CLH.out _) ?_
          rintro e wpp1p2c ⟨rfl, hwpp1p2c⟩
          replace hwpp1p2c := hwpp1p2c.symm
          subst hwpp1p2c
          refine ⟨_, rfl, ?_⟩
          refine hK.out _ _ trivial (fun hH82 => ?_)
          clear hK K hH47
          try simp only [Act.put, List.setIfInBounds_toArray, List.set_cons_zero, List.set_cons_succ]
          refine wpAnyH_ready (rs := [3, 14]) (by kernel_rfl) (by simp) ?_
          refine AllReadyH.cons (by simp only [List.getElem?_toArray, List.getElem?_cons_succ, List.getElem?_cons_zero]; rfl) (fun K hK => ?rpp1p2c3) (AllReadyH.cons (by simp only [List.getElem?_toArray, List.getElem?_cons_succ, List.getElem?_cons_zero]; rfl) (fun K hK => ?rpp1p2c14) AllReadyH.nil)
          case rpp1p2c3 =>
            have bxpp1p2cl := below_box (Below.refl wpp1p2.heap.size wpp1p2) (.cells #[.int .i64 (p1 : Int), .int .i64 200] 3)
            have Ipp1p2cl := Lib.hid (Ipp1p2.out.below bxpp1p2cl)
            have Gpp1p2cl := Lib.hid (grown_trans Gpp1p2.out (World.grownBy_alloc wpp1p2 (.cells #[.int .i64 (p1 : Int), .int .i64 200] 3) (some b)))
            have Hpp1p2cl : Hid ((World.heap (wpp1p2.alloc (.cells #[.int .i64 (p1 : Int), .int .i64 200] 3)))[wpp1p2.heap.size]? = some (.cells #[.int .i64 (p1 : Int), .int .i64 200] 3 (0, 0))) := Lib.hid (alloc_at wpp1p2 (.cells #[.int .i64 (p1 : Int), .int .i64 200] 3) _ (by simp))
            clear bxpp1p2cl
            go_simp
            refine hK.out _ _ trivial (fun hH83 => ?_)
            clear hK K hH82
            try simp only [Act.put, List.setIfInBounds_toArray, List.set_cons_zero, List.set_cons_succ]
            obtain ⟨u, hu, hul⟩ := lit2_at p1 p2 hp20 hp2
            have hp0 : (0 : Int) ≤ (p2 : Int) := by omega
            have hp1 : (p2 : Int) < 2 := by omega
            have qpp1p2cli := (cur_cell Hpp1p2cl.out p2).trans hul
            refine wpAnyH_take (i := 6) (oi := ?onpp1p2cli_6) (v := ?vnpp1p2cli_6) ?hinpp1p2cli_6 (by kernel_rfl) (by kernel_rfl) (by kernel_rfl) ?hqnpp1p2cli_6 ?hynpp1p2cli_6 (by assumption) ?rnpp1p2cli_6
            case hinpp1p2cli_6 => (simp only [List.getElem?_toArray, List.getElem?_cons_succ, List.getElem?_cons_zero]; rfl)
            case hqnpp1p2cli_6 => exact fun _ _ _ h => h
            case hynpp1p2cli_6 =>
              refine Or.inl ⟨by rfl, ?_⟩; intro wq hSw; (try dsimp only at hSw); go_simp; (try with_reducible rfl); done
            try simp only [Act.put, List.setIfInBounds_toArray, List.set_cons_zero, List.set_cons_succ]
            refine wpAnyH_ready (rs := [7, 14]) (by kernel_rfl) (by simp) ?_
            refine AllReadyH.cons (by simp only [List.getElem?_toArray, List.getElem?_cons_succ, List.getElem?_cons_zero]; rfl) (fun K hK => ?rpp1p2cli7) (AllReadyH.cons (by simp only [List.getElem?_toArray, List.getElem?_cons_succ, List.getElem?_cons_zero]; rfl) (fun K hK => ?rpp1p2cli14) AllReadyH.nil)
            case rpp1p2cli7 =>
              have qdpp1p2clid : World.cell? (wpp1p2.alloc (.cells #[.int .i64 (p1 : Int), .int .i64 200] 3)) ⟨wpp1p2.heap.size, p2, none⟩ = some (.int .i64 (u : Int)) := (cur_cell Hpp1p2cl.out p2).trans hul
              go_simp
              refine hK.out _ _ trivial (fun hH84 => ?_)
              clear hK K hH83
              try simp only [Act.put, List.setIfInBounds_toArray, List.set_cons_zero, List.set_cons_succ]
              clear qdpp1p2clid
              refine wpAnyH_ready (rs := [13, 14]) (by kernel_rfl) (by simp) ?_
              refine AllReadyH.cons (by simp only [List.getElem?_toArray, List.getElem?_cons_succ, List.getElem?_cons_zero]; rfl) (fun K hK => ?rpp1p2clid13) (AllReadyH.cons (by simp only [List.getElem?_toArray, List.getElem?_cons_succ, List.getElem?_cons_zero]; rfl) (fun K hK => ?rpp1p2clid14) AllReadyH.nil)
              case rpp1p2clid13 =>
                refine step_callW (wpp1p2.alloc (.cells #[.int .i64 (p1 : Int), .int .i64 200] 3)) rfl (by rfl) 45 _ _ rfl _ (by kernel_rfl) Try.call45 _ (curBlock b a l cap _ (u : Int) g v _ hl (by omega) (by omega) (by omega) (by omega) Ipp1p2cl.out) ?_
                rintro e wpp1p2clidb ⟨r, a9, c9, rfl, hrz, hrl, hrv, ho, hI, hg⟩
                refine ⟨_, rfl, ?_⟩
                have Ipp1p2clidb := Lib.hid hI
                have Gpp1p2clidb := Lib.hid (grown_trans Gpp1p2cl.out hg)
                have Hpp1p2clidb := Lib.hid (kept_grown Hpp1p2cl.out hg (by intro e; have e := Option.some.inj e; omega))
                have OBpp1p2clidb := Lib.hid ho
                have hsopp1p2clidb := hg.size
                have hbd : blkBd r ∧ r.data.length ≤ 8 := ⟨⟨by omega, by omega⟩, by omega⟩
                clear ho hrz hrl hrv
                obtain ⟨r0, hr0⟩ : ∃ z, r.id = z := ⟨_, rfl⟩
                obtain ⟨r1, hr1⟩ : ∃ z, r.leaf = z := ⟨_, rfl⟩
                obtain ⟨rq, hrq⟩ : ∃ z, r.data.length = z := ⟨_, rfl⟩
                rw [hr0, hr1, hrq] at OBpp1p2clidb ⊢
                clear hI hg
                have hbwpp1p2clidb : b < wpp1p2clidb.heap.size := Ipp1p2clidb.out.lt
                refine hK.out _ _ trivial (fun hH85 => ?_)
                clear hK K hH84
                try simp only [Act.put, List.setIfInBounds_toArray, List.set_cons_zero, List.set_cons_succ]
                refine wpAnyH_ready (rs := [14]) (by kernel_rfl) (by simp) ?_
                refine AllReadyH.cons (by simp only [List.getElem?_toArray, List.getElem?_cons_succ, List.getElem?_cons_zero]; rfl) (fun K hK => ?_) AllReadyH.nil
                have bxpp1p2clidbz := below_box (Below.refl wpp1p2clidb.heap.size wpp1p2clidb) (.cells #[.int .i64 0, .int .i64 0, .slice none 0 0] 26)
                have Ipp1p2clidbz := Lib.hid (Ipp1p2clidb.out.below bxpp1p2clidbz)
                have Gpp1p2clidbz := Lib.hid (grown_trans Gpp1p2clidb.out (World.grownBy_alloc wpp1p2clidb (.cells #[.int .i64 0, .int .i64 0, .slice none 0 0] 26) (some b)))
                have Hpp1p2clidbz := Lib.hid (kept_block Hpp1p2clidb.out bxpp1p2clidbz)
                have OBpp1p2clidbz := Lib.hid (((BlockOwn.lies OBpp1p2clidb.out (Nat.le_refl _)).below bxpp1p2clidbz).now)
                have HZpp1p2clidbz : Hid ((World.heap (wpp1p2clidb.alloc (.cells #[.int .i64 0, .int .i64 0, .slice none 0 0] 26)))[wpp1p2clidb.heap.size]? = some (.cells #[.int .i64 0, .int .i64 0, .slice none 0 0] 26 (0, 0))) := Lib.hid (alloc_at wpp1p2clidb (.cells #[.int .i64 0, .int .i64 0, .slice none 0 0] 26) _ (by simp))
                clear bxpp1p2clidbz
                go_simp
                refine hK.out _ _ trivial (fun hH86 => ?_)
                clear hK K hH85
                try simp only [Act.put, List.setIfInBounds_toArray, List.set_cons_zero, List.set_cons_succ]
                refine wpAnyH_ready (rs := [15]) (by kernel_rfl) (by simp) ?_
                refine AllReadyH.cons (by simp only [List.getElem?_toArray, List.getElem?_cons_succ, List.getElem?_cons_zero]; rfl) (fun K hK => ?_) AllReadyH.nil
                have z0 := cur_cell HZpp1p2clidbz.out 0
                have z1 := cur_cell HZpp1p2clidbz.out 1
                have z2 := cur_cell HZpp1p2clidbz.out 2
                have f0 := cur_free HZpp1p2clidbz.out 0
                have f1 := cur_free HZpp1p2clidbz.out 1
                have f2 := cur_free HZpp1p2clidbz.out 2
                simp at z0 z1 z2
                have Z := Lib.hid (PSt.fresh (w3 := w3) (m' := m + 60) OBpp1p2clidb.out Gpp1p2cl.out.size hbd Ipp1p2clidb.out (by omega) Gpp1p2clidb.out hb3 hr0 hr1 hrq)
                go_simp
                refine hK.out _ _ trivial (fun hH87 => ?_)
                clear hK K hH86
                try simp only [Act.put, List.setIfInBounds_toArray, List.set_cons_zero, List.set_cons_succ]
                clear z0 z1 z2 f0 f1 f2
                refine wpAnyH_done (by kernel_rfl) ?_ _
                go_wp2_with fail
                go_meet
                exact ⟨_, r, _, _, _, rfl, Z⟩
              case rpp1p2clid14 =>
                have bxpp1p2clidz := below_box (Below.refl (wpp1p2.alloc (.cells #[.int .i64 (p1 : Int), .int .i64 200] 3)).heap.size (wpp1p2.alloc (.cells #[.int .i64 (p1 : Int), .int .i64 200] 3))) (.cells #[.int .i64 0, .int .i64 0, .slice none 0 0] 26)
                have Ipp1p2clidz := Lib.hid (Ipp1p2cl.out.below bxpp1p2clidz)
                have Gpp1p2clidz := Lib.hid (grown_trans Gpp1p2cl.out (World.grownBy_alloc (wpp1p2.alloc (.cells #[.int .i64 (p1 : Int), .int .i64 200] 3)) (.cells #[.int .i64 0, .int .i64 0, .slice none 0 0] 26) (some b)))
                have Hpp1p2clidz := Lib.hid (kept_block Hpp1p2cl.out bxpp1p2clidz)
                have HZpp1p2clidz : Hid ((World.heap ((wpp1p2.alloc (.cells #[.int .i64 (p1 : Int), .int .i64 200] 3)).alloc (.cells #[.int .i64 0, .int .i64 0, .slice none 0 0] 26)))[wpp1p2.heap.size + 1]? = some (.cells #[.int .i64 0, .int .i64 0, .slice none 0 0] 26 (0, 0))) := Lib.hid (alloc_at (wpp1p2.alloc (.cells #[.int .i64 (p1 : Int), .int .i64 200] 3)) (.cells #[.int .i64 0, .int .i64 0, .slice none 0 0] 26) _ (by simp))
                clear bxpp1p2clidz
                go_simp
                refine hK.out _ _ trivial (fun hH88 => ?_)
                clear hK K hH84
                try simp only [Act.put, List.setIfInBounds_toArray, List.set_cons_zero, List.set_cons_succ]
                refine wpAnyH_ready (rs := [13]) (by kernel_rfl) (by simp) ?_
                refine AllReadyH.cons (by simp only [List.getElem?_toArray, List.getElem?_cons_succ, List.getElem?_cons_zero]; rfl) (fun K hK => ?_) AllReadyH.nil
                refine step_callW ((wpp1p2.alloc (.cells #[.int .i64 (p1 : Int), .int .i64 200] 3)).alloc (.cells #[.int .i64 0, .int .i64 0, .slice none 0 0] 26)) rfl (by rfl) 45 _ _ rfl _ (by kernel_rfl) Try.call45 _ (curBlock b a l cap _ (u : Int) g v _ hl (by omega) (by omega) (by omega) (by omega) Ipp1p2clidz.out) ?_
                rintro e wpp1p2clidzb ⟨r, a9, c9, rfl, hrz, hrl, hrv, ho, hI, hg⟩
                refine ⟨_, rfl, ?_⟩
                have Ipp1p2clidzb := Lib.hid hI
                have Gpp1p2clidzb := Lib.hid (grown_trans Gpp1p2clidz.out hg)
                have Hpp1p2clidzb := Lib.hid (kept_grown Hpp1p2clidz.out hg (by intro e; have e := Option.some.inj e; omega))
                have HZpp1p2clidzb := Lib.hid (kept_grown HZpp1p2clidz.out hg (by intro e; have e := Option.some.inj e; omega))
                have OBpp1p2clidzb := Lib.hid ho
                have hsopp1p2clidzb := hg.size
                have hbd : blkBd r ∧ r.data.length ≤ 8 := ⟨⟨by omega, by omega⟩, by omega⟩
                clear ho hrz hrl hrv
                obtain ⟨r0, hr0⟩ : ∃ z, r.id = z := ⟨_, rfl⟩
                obtain ⟨r1, hr1⟩ : ∃ z, r.leaf = z := ⟨_, rfl⟩
                obtain ⟨rq, hrq⟩ : ∃ z, r.data.length = z := ⟨_, rfl⟩
                rw [hr0, hr1, hrq] at OBpp1p2clidzb ⊢
                clear hI hg
                have hbwpp1p2clidzb : b < wpp1p2clidzb.heap.size := Ipp1p2clidzb.out.lt
                refine hK.out _ _ trivial (fun hH89 => ?_)
                clear hK K hH88
                try simp only [Act.put, List.setIfInBounds_toArray, List.set_cons_zero, List.set_cons_succ]
                refine wpAnyH_ready (rs := [15]) (by kernel_rfl) (by simp) ?_
                refine AllReadyH.cons (by simp only [List.getElem?_toArray, List.getElem?_cons_succ, List.getElem?_cons_zero]; rfl) (fun K hK => ?_) AllReadyH.nil
                have z0 := cur_cell HZpp1p2clidzb.out 0
                have z1 := cur_cell HZpp1p2clidzb.out 1
                have z2 := cur_cell HZpp1p2clidzb.out 2
                have f0 := cur_free HZpp1p2clidzb.out 0
                have f1 := cur_free HZpp1p2clidzb.out 1
                have f2 := cur_free HZpp1p2clidzb.out 2
                simp at z0 z1 z2
                have Z := Lib.hid (PSt.store (w3 := w3) (m' := m + 60) HZpp1p2clidzb.out OBpp1p2clidzb.out ⟨.inl (cur_lt HZpp1p2clidz.out), Nat.le_refl _⟩ Gpp1p2clidz.out.size (Nat.le_trans Gpp1p2cl.out.size (by simp)) hbd Ipp1p2clidzb.out (by omega) Gpp1p2clidzb.out hb3 hr0 hr1 hrq)
                go_simp
                refine hK.out _ _ trivial (fun hH90 => ?_)
                clear hK K hH89
                try simp only [Act.put, List.setIfInBounds_toArray, List.set_cons_zero, List.set_cons_succ]
                clear z0 z1 z2 f0 f1 f2
                refine wpAnyH_done (by kernel_rfl) ?_ _
                go_wp2_with fail
                go_meet
                exact ⟨_, r, _, _, _, rfl, Z⟩
            case rpp1p2cli14 =>
              have bxpp1p2cliz := below_box (Below.refl (wpp1p2.alloc (.cells #[.int .i64 (p1 : Int), .int .i64 200] 3)).heap.size (wpp1p2.alloc (.cells #[.int .i64 (p1 : Int), .int .i64 200] 3))) (.cells #[.int .i64 0, .int .i64 0, .slice none 0 0] 26)
              have Ipp1p2cliz := Lib.hid (Ipp1p2cl.out.below bxpp1p2cliz)
              have Gpp1p2cliz := Lib.hid (grown_trans Gpp1p2cl.out (World.grownBy_alloc (wpp1p2.alloc (.cells #[.int .i64 (p1 : Int), .int .i64 200] 3)) (.cells #[.int .i64 0, .int .i64 0, .slice none 0 0] 26) (some b)))
              have Hpp1p2cliz := Lib.hid (kept_block Hpp1p2cl.out bxpp1p2cliz)
              have HZpp1p2cliz : Hid ((World.heap ((wpp1p2.alloc (.cells #[.int .i64 (p1 : Int), .int .i64 200] 3)).alloc (.cells #[.int .i64 0, .int .i64 0, .slice none 0 0] 26)))[wpp1p2.heap.size + 1]? = some (.cells #[.int .i64 0, .int .i64 0, .slice none 0 0] 26 (0, 0))) := Lib.hid (alloc_at (wpp1p2.alloc (.cells #[.int .i64 (p1 : Int), .int .i64 200] 3)) (.cells #[.int .i64 0, .int .i64 0, .slice none 0 0] 26) _ (by simp))
              clear bxpp1p2cliz
              go_simp
              refine hK.out _ _ trivial (fun hH91 => ?_)
              clear hK K hH83
              try simp only [Act.put, List.setIfInBounds_toArray, List.set_cons_zero, List.set_cons_succ]
              refine wpAnyH_ready (rs := [7]) (by kernel_rfl) (by simp) ?_
              refine AllReadyH.cons (by simp only [List.getElem?_toArray, List.getElem?_cons_succ, List.getElem?_cons_zero]; rfl) (fun K hK => ?_) AllReadyH.nil
              have qdpp1p2clizd : World.cell? ((wpp1p2.alloc (.cells #[.int .i64 (p1 : Int), .int .i64 200] 3)).alloc (.cells #[.int .i64 0, .int .i64 0, .slice none 0 0] 26)) ⟨wpp1p2.heap.size, p2, none⟩ = some (.int .i64 (u : Int)) := (cur_cell Hpp1p2cliz.out p2).trans hul
              go_simp
              refine hK.out _ _ trivial (fun hH92 => ?_)
              clear hK K hH91
              try simp only [Act.put, List.setIfInBounds_toArray, List.set_cons_zero, List.set_cons_succ]
              clear qdpp1p2clizd
              refine wpAnyH_ready (rs := [13]) (by kernel_rfl) (by simp) ?_
              refine AllReadyH.cons (by simp only [List.getElem?_toArray, List.getElem?_cons_succ, List.getElem?_cons_zero]; rfl) (fun K hK => ?_) AllReadyH.nil
              refine step_callW ((wpp1p2.alloc (.cells #[.int .i64 (p1 : Int), .int .i64 200] 3)).alloc (.cells #[.int .i64 0, .int .i64 0, .slice none 0 0] 26)) rfl (by rfl) 45 _ _ rfl _ (by kernel_rfl) Try.call45 _ (curBlock b a l cap _ (u : Int) g v _ hl (by omega) (by omega) (by omega) (by omega) Ipp1p2cliz.out) ?_
              rintro e wpp1p2clizdb ⟨r, a9, c9, rfl, hrz, hrl, hrv, ho, hI, hg⟩
              refine ⟨_, rfl, ?_⟩
              have Ipp1p2clizdb := Lib.hid hI
              have Gpp1p2clizdb := Lib.hid (grown_trans Gpp1p2cliz.out hg)
              have Hpp1p2clizdb := Lib.hid (kept_grown Hpp1p2cliz.out hg (by intro e; have e := Option.some.inj e; omega))
              have HZpp1p2clizdb := Lib.hid (kept_grown HZpp1p2cliz.out hg (by intro e; have e := Option.some.inj e; omega))
              have OBpp1p2clizdb := Lib.hid ho
              have hsopp1p2clizdb := hg.size
              have hbd : blkBd r ∧ r.data.length ≤ 8 := ⟨⟨by omega, by omega⟩, by omega⟩
              clear ho hrz hrl hrv
              obtain ⟨r0, hr0⟩ : ∃ z, r.id = z := ⟨_, rfl⟩
              obtain ⟨r1, hr1⟩ : ∃ z, r.leaf = z := ⟨_, rfl⟩
              obtain ⟨rq, hrq⟩ : ∃ z, r.data.length = z := ⟨_, rfl⟩
              rw [hr0, hr1, hrq] at OBpp1p2clizdb ⊢
              clear hI hg
              have hbwpp1p2clizdb : b < wpp1p2clizdb.heap.size := Ipp1p2clizdb.out.lt
              refine hK.out _ _ trivial (fun hH93 => ?_)
              clear hK K hH92
              try simp only [Act.put, List.setIfInBounds_toArray, List.set_cons_zero, List.set_cons_succ]
              refine wpAnyH_ready (rs := [15]) (by kernel_rfl) (by simp) ?_
              refine AllReadyH.cons (by simp only [List.getElem?_toArray, List.getElem?_cons_succ, List.getElem?_cons_zero]; rfl) (fun K hK => ?_) AllReadyH.nil
              have z0 := cur_cell HZpp1p2clizdb.out 0
              have z1 := cur_cell HZpp1p2clizdb.out 1
              have z2 := cur_cell HZpp1p2clizdb.out 2
              have f0 := cur_free HZpp1p2clizdb.out 0
              have f1 := cur_free HZpp1p2clizdb.out 1
              have f2 := cur_free HZpp1p2clizdb.out 2
              simp at z0 z1 z2
              have Z := Lib.hid (PSt.store (w3 := w3) (m' := m + 60) HZpp1p2clizdb.out OBpp1p2clizdb.out ⟨.inl (cur_lt HZpp1p2cliz.out), Nat.le_refl _⟩ Gpp1p2cliz.out.size (Nat.le_trans Gpp1p2cl.out.size (by simp)) hbd Ipp1p2clizdb.out (by omega) Gpp1p2clizdb.out hb3 hr0 hr1 hrq)
              go_simp
              refine hK.out _ _ trivial (fun hH94 => ?_)
              clear hK K hH93
              try simp only [Act.put, List.setIfInBounds_toArray, List.set_cons_zero, List.set_cons_succ]
              clear z0 z1 z2 f0 f1 f2
              refine wpAnyH_done (by kernel_rfl) ?_ _
              go_wp2_with fail
              go_meet
              exact ⟨_, r, _, _, _, rfl, Z⟩
          case rpp1p2c14 =>
            have bxpp1p2cz := below_box (Below.refl wpp1p2.heap.size wpp1p2) (.cells #[.int .i64 0, .int .i64 0, .slice none 0 0] 26)
            have Ipp1p2cz := Lib.hid (Ipp1p2.out.below bxpp1p2cz)
            have Gpp1p2cz := Lib.hid (grown_trans Gpp1p2.out (World.grownBy_alloc wpp1p2 (.cells #[.int .i64 0, .int .i64 0, .slice none 0 0] 26) (some b)))
            have HZpp1p2cz : Hid ((World.heap (wpp1p2.alloc (.cells #[.int .i64 0, .int .i64 0, .slice none 0 0] 26)))[wpp1p2.heap.size]? = some (.cells #[.int .i64 0, .int .i64 0, .slice none 0 0] 26 (0, 0))) := Lib.hid (alloc_at wpp1p2 (.cells #[.int .i64 0, .int .i64 0, .slice none 0 0] 26) _ (by simp))
            clear bxpp1p2cz
            go_simp
            refine hK.out _ _ trivial (fun hH95 => ?_)
            clear hK K hH82
            try simp only [Act.put, List.setIfInBounds_toArray, List.set_cons_zero, List.set_cons_succ]
            refine wpAnyH_ready (rs := [3]) (by kernel_rfl) (by simp) ?_
            refine AllReadyH.cons (by simp only [List.getElem?_toArray, List.getElem?_cons_succ, List.getElem?_cons_zero]; rfl) (fun K hK => ?_) AllReadyH.nil
            have bxpp1p2czl := below_box (Below.refl (wpp1p2.alloc (.cells #[.int .i64 0, .int .i64 0, .slice none 0 0] 26)).heap.size (wpp1p2.alloc (.cells #[.int .i64 0, .int .i64 0, .slice none 0 0] 26))) (.cells #[.int .i64 (p1 : Int), .int .i64 200] 3)
            have Ipp1p2czl := Lib.hid (Ipp1p2cz.out.below bxpp1p2czl)
            have Gpp1p2czl := Lib.hid (grown_trans Gpp1p2cz.out (World.grownBy_alloc (wpp1p2.alloc (.cells #[.int .i64 0, .int .i64 0, .slice none 0 0] 26)) (.cells #[.int .i64 (p1 : Int), .int .i64 200] 3) (some b)))
            have HZpp1p2czl := Lib.hid (kept_block HZpp1p2cz.out bxpp1p2czl)
            have Hpp1p2czl : Hid ((World.heap ((wpp1p2.alloc (.cells #[.int .i64 0, .int .i64 0, .slice none 0 0] 26)).alloc (.cells #[.int .i64 (p1 : Int), .int .i64 200] 3)))[wpp1p2.heap.size + 1]? = some (.cells #[.int .i64 (p1 : Int), .int .i64 200] 3 (0, 0))) := Lib.hid (alloc_at (wpp1p2.alloc (.cells #[.int .i64 0, .int .i64 0, .slice none 0 0] 26)) (.cells #[.int .i64 (p1 : Int), .int .i64 200] 3) _ (by simp))
            clear bxpp1p2czl
            go_simp
            refine hK.out _ _ trivial (fun hH96 => ?_)
            clear hK K hH95
            try simp only [Act.put, List.setIfInBounds_toArray, List.set_cons_zero, List.set_cons_succ]
            obtain ⟨u, hu, hul⟩ := lit2_at p1 p2 hp20 hp2
            have hp0 : (0 : Int) ≤ (p2 : Int) := by omega
            have hp1 : (p2 : Int) < 2 := by omega
            have qpp1p2czli := (cur_cell Hpp1p2czl.out p2).trans hul
            refine wpAnyH_take (i := 6) (oi := ?onpp1p2czli_6) (v := ?vnpp1p2czli_6) ?hinpp1p2czli_6 (by kernel_rfl) (by kernel_rfl) (by kernel_rfl) ?hqnpp1p2czli_6 ?hynpp1p2czli_6 (by assumption) ?rnpp1p2czli_6
            case hinpp1p2czli_6 => (simp only [List.getElem?_toArray, List.getElem?_cons_succ, List.getElem?_cons_zero]; rfl)
            case hqnpp1p2czli_6 => exact fun _ _ _ h => h
            case hynpp1p2czli_6 =>
              refine Or.inl ⟨by rfl, ?_⟩; intro wq hSw; (try dsimp only at hSw); go_simp; (try with_reducible rfl); done
            try simp only [Act.put, List.setIfInBounds_toArray, List.set_cons_zero, List.set_cons_succ]
            refine wpAnyH_ready (rs := [7]) (by kernel_rfl) (by simp) ?_
            refine AllReadyH.cons (by simp only [List.getElem?_toArray, List.getElem?_cons_succ, List.getElem?_cons_zero]; rfl) (fun K hK => ?_) AllReadyH.nil
            have qdpp1p2czlid : World.cell? ((wpp1p2.alloc (.cells #[.int .i64 0, .int .i64 0, .slice none 0 0] 26)).alloc (.cells #[.int .i64 (p1 : Int), .int .i64 200] 3)) ⟨wpp1p2.heap.size + 1, p2, none⟩ = some (.int .i64 (u : Int)) := (cur_cell Hpp1p2czl.out p2).trans hul
            go_simp
            refine hK.out _ _ trivial (fun hH97 => ?_)
            clear hK K hH96
            try simp only [Act.put, List.setIfInBounds_toArray, List.set_cons_zero, List.set_cons_succ]
            clear qdpp1p2czlid
            refine wpAnyH_ready (rs := [13]) (by kernel_rfl) (by simp) ?_
            refine AllReadyH.cons (by simp only [List.getElem?_toArray, List.getElem?_cons_succ, List.getElem?_cons_zero]; rfl) (fun K hK => ?_) AllReadyH.nil
            refine step_callW ((wpp1p2.alloc (.cells #[.int .i64 0, .int .i64 0, .slice none 0 0] 26)).alloc (.cells #[.int .i64 (p1 : Int), .int .i64 200] 3)) rfl (by rfl) 45 _ _ rfl _ (by kernel_rfl) Try.call45 _ (curBlock b a l cap _ (u : Int) g v _ hl (by omega) (by omega) (by omega) (by omega) Ipp1p2czl.out) ?_
            rintro e wpp1p2czlidb ⟨r, a9, c9, rfl, hrz, hrl, hrv, ho, hI, hg⟩
            refine ⟨_, rfl, ?_⟩
            have Ipp1p2czlidb := Lib.hid hI
            have Gpp1p2czlidb := Lib.hid (grown_trans Gpp1p2czl.out hg)
            have Hpp1p2czlidb := Lib.hid (kept_grown Hpp1p2czl.out hg (by intro e; have e := Option.some.inj e; omega))
            have HZpp1p2czlidb := Lib.hid (kept_grown HZpp1p2czl.out hg (by intro e; have e := Option.some.inj e; omega))
            have OBpp1p2czlidb := Lib.hid ho
            have hsopp1p2czlidb := hg.size
            have hbd : blkBd r ∧ r.data.length ≤ 8 := ⟨⟨by omega, by omega⟩, by omega⟩
            clear ho hrz hrl hrv
            obtain ⟨r0, hr0⟩ : ∃ z, r.id = z := ⟨_, rfl⟩
            obtain ⟨r1, hr1⟩ : ∃ z, r.leaf = z := ⟨_, rfl⟩
            obtain ⟨rq, hrq⟩ : ∃ z, r.data.length = z := ⟨_, rfl⟩
            rw [hr0, hr1, hrq] at OBpp1p2czlidb ⊢
            clear hI hg
            have hbwpp1p2czlidb : b < wpp1p2czlidb.heap.size := Ipp1p2czlidb.out.lt
            refine hK.out _ _ trivial (fun hH98 => ?_)
            clear hK K hH97
            try simp only [Act.put, List.setIfInBounds_toArray, List.set_cons_zero, List.set_cons_succ]
            refine wpAnyH_ready (rs := [15]) (by kernel_rfl) (by simp) ?_
            refine AllReadyH.cons (by simp only [List.getElem?_toArray, List.getElem?_cons_succ, List.getElem?_cons_zero]; rfl) (fun K hK => ?_) AllReadyH.nil
            have z0 := cur_cell HZpp1p2czlidb.out 0
            have z1 := cur_cell HZpp1p2czlidb.out 1
            have z2 := cur_cell HZpp1p2czlidb.out 2
            have f0 := cur_free HZpp1p2czlidb.out 0
            have f1 := cur_free HZpp1p2czlidb.out 1
            have f2 := cur_free HZpp1p2czlidb.out 2
            simp at z0 z1 z2
            have Z := Lib.hid (PSt.store (w3 := w3) (m' := m + 60) HZpp1p2czlidb.out OBpp1p2czlidb.out ⟨.inl (cur_lt HZpp1p2czl.out), Nat.le_refl _⟩ Gpp1p2czl.out.size (Nat.le_trans Gpp1p2.out.size (by simp)) hbd Ipp1p2czlidb.out (by omega) Gpp1p2czlidb.out hb3 hr0 hr1 hrq)
            go_simp
            refine hK.out _ _ trivial (fun hH99 => ?_)
            clear hK K hH98
            try simp only [Act.put, List.setIfInBounds_toArray, List.set_cons_zero, List.set_cons_succ]
            clear z0 z1 z2 f0 f1 f2
            refine wpAnyH_done (by kernel_rfl) ?_ _
            go_wp2_with fail
            go_meet
            exact ⟨_, r, _, _, _, rfl, Z⟩
        case rpp1p214 =>
          have bxpp1p2z := below_box (Below.refl wpp1p2.heap.size wpp1p2) (.cells #[.int .i64 0, .int .i64 0, .slice none 0 0] 26)
          have Ipp1p2z := Lib.hid (Ipp1p2.out.below bxpp1p2z)
          have Gpp1p2z := Lib.hid (grown_trans Gpp1p2.out (World.grownBy_alloc wpp1p2 (.cells #[.int .i64 0, .int .i64 0, .slice none 0 0] 26) (some b)))
          have HZpp1p2z : Hid ((World.heap (wpp1p2.alloc (.cells #[.int .i64 0, .int .i64 0, .slice none 0 0] 26)))[wpp1p2.heap.size]? = some (.cells #[.int .i64 0, .int .i64 0, .slice none 0 0] 26 (0, 0))) := Lib.hid (alloc_at wpp1p2 (.cells #[.int .i64 0, .int .i64 0, .slice none 0 0] 26) _ (by simp))
          clear bxpp1p2z
          go_simp
          refine hK.out _ _ trivial (fun hH100 => ?_)
          clear hK K hH47
          try simp only [Act.put, List.setIfInBounds_toArray, List.set_cons_zero, List.set_cons_succ]
          refine wpAnyH_ready (rs := [3, 9]) (by kernel_rfl) (by simp) ?_
          refine AllReadyH.cons (by simp only [List.getElem?_toArray, List.getElem?_cons_succ, List.getElem?_cons_zero]; rfl) (fun K hK => ?rpp1p2z3) (AllReadyH.cons (by simp only [List.getElem?_toArray, List.getElem?_cons_succ, List.getElem?_cons_zero]; rfl) (fun K hK => ?rpp1p2z9) AllReadyH.nil)
          case rpp1p2z3 =>
            have bxpp1p2zl := below_box (Below.refl (wpp1p2.alloc (.cells #[.int .i64 0, .int .i64 0, .slice none 0 0] 26)).heap.size (wpp1p2.alloc (.cells #[.int .i64 0, .int .i64 0, .slice none 0 0] 26))) (.cells #[.int .i64 (p1 : Int), .int .i64 200] 3)
            have Ipp1p2zl := Lib.hid (Ipp1p2z.out.below bxpp1p2zl)
            have Gpp1p2zl := Lib.hid (grown_trans Gpp1p2z.out (World.grownBy_alloc (wpp1p2.alloc (.cells #[.int .i64 0, .int .i64 0, .slice none 0 0] 26)) (.cells #[.int .i64 (p1 : Int), .int .i64 200] 3) (some b)))
            have HZpp1p2zl := Lib.hid (kept_block HZpp1p2z.out bxpp1p2zl)
            have Hpp1p2zl : Hid ((World.heap ((wpp1p2.alloc (.cells #[.int .i64 0, .int .i64 0, .slice none 0 0] 26)).alloc (.cells #[.int .i64 (p1 : Int), .int .i64 200] 3)))[wpp1p2.heap.size + 1]? = some (.cells #[.int .i64 (p1 : Int), .int .i64 200] 3 (0, 0))) := Lib.hid (alloc_at (wpp1p2.alloc (.cells #[.int .i64 0, .int .i64 0, .slice none 0 0] 26)) (.cells #[.int .i64 (p1 : Int), .int .i64 200] 3) _ (by simp))
            clear bxpp1p2zl
            go_simp
            refine hK.out _ _ trivial (fun hH101 => ?_)
            clear hK K hH100
            try simp only [Act.put, List.setIfInBounds_toArray, List.set_cons_zero, List.set_cons_succ]
            obtain ⟨u, hu, hul⟩ := lit2_at p1 p2 hp20 hp2
            have hp0 : (0 : Int) ≤ (p2 : Int) := by omega
            have hp1 : (p2 : Int) < 2 := by omega
            have qpp1p2zli := (cur_cell Hpp1p2zl.out p2).trans hul
            refine wpAnyH_take (i := 6) (oi := ?onpp1p2zli_6) (v := ?vnpp1p2zli_6) ?hinpp1p2zli_6 (by kernel_rfl) (by kernel_rfl) (by kernel_rfl) ?hqnpp1p2zli_6 ?hynpp1p2zli_6 (by assumption) ?rnpp1p2zli_6
            case hinpp1p2zli_6 => (simp only [List.getElem?_toArray, List.getElem?_cons_succ, List.getElem?_cons_zero]; rfl)
            case hqnpp1p2zli_6 => exact fun _ _ _ h => h
            case hynpp1p2zli_6 =>
              refine Or.inl ⟨by rfl, ?_⟩; intro wq hSw; (try dsimp only at hSw); go_simp; (try with_reducible rfl); done
            try simp only [Act.put, List.setIfInBounds_toArray, List.set_cons_zero, List.set_cons_succ]
            refine wpAnyH_ready (rs := [7, 9]) (by kernel_rfl) (by simp) ?_
            refine AllReadyH.cons (by simp only [List.getElem?_toArray, List.getElem?_cons_succ, List.getElem?_cons_zero]; rfl) (fun K hK => ?rpp1p2zli7) (AllReadyH.cons (by simp only [List.getElem?_toArray, List.getElem?_cons_succ, List.getElem?_cons_zero]; rfl) (fun K hK => ?rpp1p2zli9) AllReadyH.nil)
            case rpp1p2zli7 =>
              have qdpp1p2zlid : World.cell? ((wpp1p2.alloc (.cells #[.int .i64 0, .int .i64 0, .slice none 0 0] 26)).alloc (.cells #[.int .i64 (p1 : Int), .int .i64 200] 3)) ⟨wpp1p2.heap.size + 1, p2, none⟩ = some (.int .i64 (u : Int)) := (cur_cell Hpp1p2zl.out p2).trans hul
              go_simp
              refine hK.out _ _ trivial (fun hH102 => ?_)
              clear hK K hH101
              try simp only [Act.put, List.setIfInBounds_toArray, List.set_cons_zero, List.set_cons_succ]
              clear qdpp1p2zlid
              refine wpAnyH_ready (rs := [9]) (by kernel_rfl) (by simp) ?_
              refine AllReadyH.cons (by simp only [List.getElem?_toArray, List.getElem?_cons_succ, List.getElem?_cons_zero]; rfl) (fun K hK => ?_) AllReadyH.nil
              refine step_callW ((wpp1p2.alloc (.cells #[.int .i64 0, .int .i64 0, .slice none 0 0] 26)).alloc (.cells #[.int .i64 (p1 : Int), .int .i64 200] 3)) rfl (by rfl) 47 _ _ rfl _ (by kernel_rfl) Try.call47 _ (CLH.out _) ?_
              rintro e wpp1p2zlidc ⟨rfl, hwpp1p2zlidc⟩
              replace hwpp1p2zlidc := hwpp1p2zlidc.symm
              subst hwpp1p2zlidc
              refine ⟨_, rfl, ?_⟩
              refine hK.out _ _ trivial (fun hH103 => ?_)
              clear hK K hH102
              try simp only [Act.put, List.setIfInBounds_toArray, List.set_cons_zero, List.set_cons_succ]
              refine wpAnyH_ready (rs := [13]) (by kernel_rfl) (by simp) ?_
              refine AllReadyH.cons (by simp only [List.getElem?_toArray, List.getElem?_cons_succ, List.getElem?_cons_zero]; rfl) (fun K hK => ?_) AllReadyH.nil
              refine step_callW ((wpp1p2.alloc (.cells #[.int .i64 0, .int .i64 0, .slice none 0 0] 26)).alloc (.cells #[.int .i64 (p1 : Int), .int .i64 200] 3)) rfl (by rfl) 45 _ _ rfl _ (by kernel_rfl) Try.call45 _ (curBlock b a l cap _ (u : Int) g v _ hl (by omega) (by omega) (by omega) (by omega) Ipp1p2zl.out) ?_
              rintro e wpp1p2zlidcb ⟨r, a9, c9, rfl, hrz, hrl, hrv, ho, hI, hg⟩
              refine ⟨_, rfl, ?_⟩
              have Ipp1p2zlidcb := Lib.hid hI
              have Gpp1p2zlidcb := Lib.hid (grown_trans Gpp1p2zl.out hg)
              have Hpp1p2zlidcb := Lib.hid (kept_grown Hpp1p2zl.out hg (by intro e; have e := Option.some.inj e; omega))
              have HZpp1p2zlidcb := Lib.hid (kept_grown HZpp1p2zl.out hg (by intro e; have e := Option.some.inj e; omega))
              have OBpp1p2zlidcb := Lib.hid ho
              have hsopp1p2zlidcb := hg.size
              have hbd : blkBd r ∧ r.data.length ≤ 8 := ⟨⟨by omega, by omega⟩, by omega⟩
              clear ho hrz hrl hrv
              obtain ⟨r0, hr0⟩ : ∃ z, r.id = z := ⟨_, rfl⟩
              obtain ⟨r1, hr1⟩ : ∃ z, r.leaf = z := ⟨_, rfl⟩
              obtain ⟨rq, hrq⟩ : ∃ z, r.data.length = z := ⟨_, rfl⟩
              rw [hr0, hr1, hrq] at OBpp1p2zlidcb ⊢
              clear hI hg
              have hbwpp1p2zlidcb : b < wpp1p2zlidcb.heap.size := Ipp1p2zlidcb.out.lt
              refine hK.out _ _ trivial (fun hH104 => ?_)
              clear hK K hH103
              try simp only [Act.put, List.setIfInBounds_toArray, List.set_cons_zero, List.set_cons_succ]
              refine wpAnyH_ready (rs := [15]) (by kernel_rfl) (by simp) ?_
              refine AllReadyH.cons (by simp only [List.getElem?_toArray, List.getElem?_cons_succ, List.getElem?_cons_zero]; rfl) (fun K hK => ?_) AllReadyH.nil
              have z0 := cur_cell HZpp1p2zlidcb.out 0
              have z1 := cur_cell HZpp1p2zlidcb.out 1
              have z2 := cur_cell HZpp1p2zlidcb.out 2
              have f0 := cur_free HZpp1p2zlidcb.out 0
              have f1 := cur_free HZpp1p2zlidcb.out 1
              have f2 := cur_free HZpp1p2zlidcb.out 2
              simp at z0 z1 z2
              have Z := Lib.hid (PSt.store (w3 := w3) (m' := m + 60) HZpp1p2zlidcb.out OBpp1p2zlidcb.out ⟨.inl (cur_lt HZpp1p2zl.out), Nat.le_refl _⟩ Gpp1p2zl.out.size (Nat.le_trans Gpp1p2.out.size (by simp)) hbd Ipp1p2zlidcb.out (by omega) Gpp1p2zlidcb.out hb3 hr0 hr1 hrq)
              go_simp
              refine hK.out _ _ trivial (fun hH105 => ?_)
              clear hK K hH104
              try simp only [Act.put, List.setIfInBounds_toArray, List.set_cons_zero, List.set_cons_succ]
              clear z0 z1 z2 f0 f1 f2
              refine wpAnyH_done (by kernel_rfl) ?_ _
              go_wp2_with fail
              go_meet
              exact ⟨_, r, _, _, _, rfl, Z⟩
            case rpp1p2zli9 =>
              refine step_callW ((wpp1p2.alloc (.cells #[.int .i64 0, .int .i64 0, .slice none 0 0] 26)).alloc (.cells #[.int .i64 (p1 : Int), .int .i64 200] 3)) rfl (by rfl) 47 _ _ rfl _ (by kernel_rfl) Try.call47 _ (CLH.out _) ?_
              rintro e wpp1p2zlic ⟨rfl, hwpp1p2zlic⟩
              replace hwpp1p2zlic := hwpp1p2zlic.symm
              subst hwpp1p2zlic
              refine ⟨_, rfl, ?_⟩
              refine hK.out _ _ trivial (fun hH106 => ?_)
              clear hK K hH101
              try simp only [Act.put, List.setIfInBounds_toArray, List.set_cons_zero, List.set_cons_succ]
              refine wpAnyH_ready (rs := [7]) (by kernel_rfl) (by simp) ?_
              refine AllReadyH.cons (by simp only [List.getElem?_toArray, List.getElem?_cons_succ, List.getElem?_cons_zero]; rfl) (fun K hK => ?_) AllReadyH.nil
              have qdpp1p2zlicd : World.cell? ((wpp1p2.alloc (.cells #[.int .i64 0, .int .i64 0, .slice none 0 0] 26)).alloc (.cells #[.int .i64 (p1 : Int), .int .i64 200] 3)) ⟨wpp1p2.heap.size + 1, p2, none⟩ = some (.int .i64 (u : Int)) := (cur_cell Hpp1p2zl.out p2).trans hul
              go_simp
              refine hK.out _ _ trivial (fun hH107 => ?_)
              clear hK K hH106
              try simp only [Act.put, List.setIfInBounds_toArray, List.set_cons_zero, List.set_cons_succ]
              clear qdpp1p2zlicd
              refine wpAnyH_ready (rs := [13]) (by kernel_rfl) (by simp) ?_
              refine AllReadyH.cons (by simp only [List.getElem?_toArray, List.getElem?_cons_succ, List.getElem?_cons_zero]; rfl) (fun K hK => ?_) AllReadyH.nil
              refine step_callW ((wpp1p2.alloc (.cells #[.int .i64 0, .int .i64 0, .slice none 0 0] 26)).alloc (.cells #[.int .i64 (p1 : Int), .int .i64 200] 3)) rfl (by rfl) 45 _ _ rfl _ (by kernel_rfl) Try.call45 _ (curBlock b a l cap _ (u : Int) g v _ hl (by omega) (by omega) (by omega) (by omega) Ipp1p2zl.out) ?_
              rintro e wpp1p2zlicdb ⟨r, a9, c9, rfl, hrz, hrl, hrv, ho, hI, hg⟩
              refine ⟨_, rfl, ?_⟩
              have Ipp1p2zlicdb := Lib.hid hI
              have Gpp1p2zlicdb := Lib.hid (grown_trans Gpp1p2zl.out hg)
              have Hpp1p2zlicdb := Lib.hid (kept_grown Hpp1p2zl.out hg (by intro e; have e := Option.some.inj e; omega))
              have HZpp1p2zlicdb := Lib.hid (kept_grown HZpp1p2zl.out hg (by intro e; have e := Option.some.inj e; omega))
              have OBpp1p2zlicdb := Lib.hid ho
              have hsopp1p2zlicdb := hg.size
              have hbd : blkBd r ∧ r.data.length ≤ 8 := ⟨⟨by omega, by omega⟩, by omega⟩
              clear ho hrz hrl hrv
              obtain ⟨r0, hr0⟩ : ∃ z, r.id = z := ⟨_, rfl⟩
              obtain ⟨r1, hr1⟩ : ∃ z, r.leaf = z := ⟨_, rfl⟩
              obtain ⟨rq, hrq⟩ : ∃ z, r.data.length = z := ⟨_, rfl⟩
              rw [hr0, hr1, hrq] at OBpp1p2zlicdb ⊢
              clear hI hg
              have hbwpp1p2zlicdb : b < wpp1p2zlicdb.heap.size := Ipp1p2zlicdb.out.lt
              refine hK.out _ _ trivial (fun hH108 => ?_)
              clear hK K hH107
              try simp only [Act.put, List.setIfInBounds_toArray, List.set_cons_zero, List.set_cons_succ]
              refine wpAnyH_ready (rs := [15]) (by kernel_rfl) (by simp) ?_
              refine AllReadyH.cons (by simp only [List.getElem?_toArray, List.getElem?_cons_succ, List.getElem?_cons_zero]; rfl) (fun K hK => ?_) AllReadyH.nil
              have z0 := cur_cell HZpp1p2zlicdb.out 0
              have z1 := cur_cell HZpp1p2zlicdb.out 1
              have z2 := cur_cell HZpp1p2zlicdb.out 2
              have f0 := cur_free HZpp1p2zlicdb.out 0
              have f1 := cur_free HZpp1p2zlicdb.out 1
              have f2 := cur_free HZpp1p2zlicdb.out 2
              simp at z0 z1 z2
              have Z := Lib.hid (PSt.store (w3 := w3) (m' := m + 60) HZpp1p2zlicdb.out OBpp1p2zlicdb.out ⟨.inl (cur_lt HZpp1p2zl.out), Nat.le_refl _⟩ Gpp1p2zl.out.size (Nat.le_trans Gpp1p2.out.size (by simp)) hbd Ipp1p2zlicdb.out (by omega) Gpp1p2zlicdb.out hb3 hr0 hr1 hrq)
              go_simp
              refine hK.out _ _ trivial (fun hH109 => ?_)
              clear hK K hH108
              try simp only [Act.put, List.setIfInBounds_toArray, List.set_cons_zero, List.set_cons_succ]
              clear z0 z1 z2 f0 f1 f2
              refine wpAnyH_done (by kernel_rfl) ?_ _
              go_wp2_with fail
              go_meet
              exact ⟨_, r, _, _, _, rfl, Z⟩
          case rpp1p2z9 =>
            refine step_callW (wpp1p2.alloc (.cells #[.int .i64 0, .int .i64 0, .slice none 0 0] 26)) rfl (by rfl) 47 _ _ rfl _ (by kernel_rfl) Try.call47 _ (CLH.out _) ?_
            rintro e wpp1p2zc ⟨rfl, hwpp1p2zc⟩
            replace hwpp1p2zc := hwpp1p2zc.symm
            subst hwpp1p2zc
            refine ⟨_, rfl, ?_⟩
            refine hK.out _ _ trivial (fun hH110 => ?_)
            clear hK K hH100
            try simp only [Act.put, List.setIfInBounds_toArray, List.set_cons_zero, List.set_cons_succ]
            refine wpAnyH_ready (rs := [3]) (by kernel_rfl) (by simp) ?_
            refine AllReadyH.cons (by simp only [List.getElem?_toArray, List.getElem?_cons_succ, List.getElem?_cons_zero]; rfl) (fun K hK => ?_) AllReadyH.nil
            have bxpp1p2zcl := below_box (Below.refl (wpp1p2.alloc (.cells #[.int .i64 0, .int .i64 0, .slice none 0 0] 26)).heap.size (wpp1p2.alloc (.cells #[.int .i64 0, .int .i64 0, .slice none 0 0] 26))) (.cells #[.int .i64 (p1 : Int), .int .i64 200] 3)
            have Ipp1p2zcl := Lib.hid (Ipp1p2z.out.below bxpp1p2zcl)
            have Gpp1p2zcl := Lib.hid (grown_trans Gpp1p2z.out (World.grownBy_alloc (wpp1p2.alloc (.cells #[.int .i64 0, .int .i64 0, .slice none 0 0] 26)) (.cells #[.int .i64 (p1 : Int), .int .i64 200] 3) (some b)))
            have HZpp1p2zcl := Lib.hid (kept_block HZpp1p2z.out bxpp1p2zcl)
            have Hpp1p2zcl : Hid ((World.heap ((wpp1p2.alloc (.cells #[.int .i64 0, .int .i64 0, .slice none 0 0] 26)).alloc (.cells #[.int .i64 (p1 : Int), .int .i64 200] 3)))[wpp1p2.heap.size + 1]? = some (.cells #[.int .i64 (p1 : Int), .int .i64 200] 3 (0, 0))) := Lib.hid (alloc_at (wpp1p2.alloc (.cells #[.int .i64 0, .int .i64 0, .slice none 0 0] 26)) (.cells #[.int .i64 (p1 : Int), .int .i64 200] 3) _ (by simp))
            clear bxpp1p2zcl
            go_simp
            refine hK.out _ _ trivial (fun hH111 => ?_)
            clear hK K hH110
            try simp only [Act.put, List.setIfInBounds_toArray, List.set_cons_zero, List.set_cons_succ]
            obtain ⟨u, hu, hul⟩ := lit2_at p1 p2 hp20 hp2
            have hp0 : (0 : Int) ≤ (p2 : Int) := by omega
            have hp1 : (p2 : Int) < 2 := by omega
            have qpp1p2zcli := (cur_cell Hpp1p2zcl.out p2).trans hul
            refine wpAnyH_take (i := 6) (oi := ?onpp1p2zcli_6) (v := ?vnpp1p2zcli_6) ?hinpp1p2zcli_6 (by kernel_rfl) (by kernel_rfl) (by kernel_rfl) ?hqnpp1p2zcli_6 ?hynpp1p2zcli_6 (by assumption) ?rnpp1p2zcli_6
            case hinpp1p2zcli_6 => (simp only [List.getElem?_toArray, List.getElem?_cons_succ, List.getElem?_cons_zero]; rfl)
            case hqnpp1p2zcli_6 => exact fun _ _ _ h => h
            case hynpp1p2zcli_6 =>
              refine Or.inl ⟨by rfl, ?_⟩; intro wq hSw; (try dsimp only at hSw); go_simp; (try with_reducible rfl); done
            try simp only [Act.put, List.setIfInBounds_toArray, List.set_cons_zero, List.set_cons_succ]
            refine wpAnyH_ready (rs := [7]) (by kernel_rfl) (by simp) ?_
            refine AllReadyH.cons (by simp only [List.getElem?_toArray, List.getElem?_cons_succ, List.getElem?_cons_zero]; rfl) (fun K hK => ?_) AllReadyH.nil
            have qdpp1p2zclid : World.cell? ((wpp1p2.alloc (.cells #[.int .i64 0, .int .i64 0, .slice none 0 0] 26)).alloc (.cells #[.int .i64 (p1 : Int), .int .i64 200] 3)) ⟨wpp1p2.heap.size + 1, p2, none⟩ = some (.int .i64 (u : Int)) := (cur_cell Hpp1p2zcl.out p2).trans hul
            go_simp
            refine hK.out _ _ trivial (fun hH112 => ?_)
            clear hK K hH111
            try simp only [Act.put, List.setIfInBounds_toArray, List.set_cons_zero, List.set_cons_succ]
            clear qdpp1p2zclid
            refine wpAnyH_ready (rs := [13]) (by kernel_rfl) (by simp) ?_
            refine AllReadyH.cons (by simp only [List.getElem?_toArray, List.getElem?_cons_succ, List.getElem?_cons_zero]; rfl) (fun K hK => ?_) AllReadyH.nil
            refine step_callW ((wpp1p2.alloc (.cells #[.int .i64 0, .int .i64 0, .slice none 0 0] 26)).alloc (.cells #[.int .i64 (p1 : Int), .int .i64 200] 3)) rfl (by rfl) 45 _ _ rfl _ (by kernel_rfl) Try.call45 _ (curBlock b a l cap _ (u : Int) g v _ hl (by omega) (by omega) (by omega) (by omega) Ipp1p2zcl.out) ?_
            rintro e wpp1p2zclidb ⟨r, a9, c9, rfl, hrz, hrl, hrv, ho, hI, hg⟩
            refine ⟨_, rfl, ?_⟩
            have Ipp1p2zclidb := Lib.hid hI
            have Gpp1p2zclidb := Lib.hid (grown_trans Gpp1p2zcl.out hg)
            have Hpp1p2zclidb := Lib.hid (kept_grown Hpp1p2zcl.out hg (by intro e; have e := Option.some.inj e; omega))
            have HZpp1p2zclidb := Lib.hid (kept_grown HZpp1p2zcl.out hg (by intro e; have e := Option.some.inj e; omega))
            have OBpp1p2zclidb := Lib.hid ho
            have hsopp1p2zclidb := hg.size
            have hbd : blkBd r ∧ r.data.length ≤ 8 := ⟨⟨by omega, by omega⟩, by omega⟩
            clear ho hrz hrl hrv
            obtain ⟨r0, hr0⟩ : ∃ z, r.id = z := ⟨_, rfl⟩
            obtain ⟨r1, hr1⟩ : ∃ z, r.leaf = z := ⟨_, rfl⟩
            obtain ⟨rq, hrq⟩ : ∃ z, r.data.length = z := ⟨_, rfl⟩
            rw [hr0, hr1, hrq] at OBpp1p2zclidb ⊢
            clear hI hg
            have hbwpp1p2zclidb : b < wpp1p2zclidb.heap.size := Ipp1p2zclidb.out.lt
            refine hK.out _ _ trivial (fun hH113 => ?_)
            clear hK K hH112
            try simp only [Act.put, List.setIfInBounds_toArray, List.set_cons_zero, List.set_cons_succ]
            refine wpAnyH_ready (rs := [15]) (by kernel_rfl) (by simp) ?_
            refine AllReadyH.cons (by simp only [List.getElem?_toArray, List.getElem?_cons_succ, List.getElem?_cons_zero]; rfl) (fun K hK => ?_) AllReadyH.nil
            have z0 := cur_cell HZpp1p2zclidb.out 0
            have z1 := cur_cell HZpp1p2zclidb.out 1
            have z2 := cur_cell HZpp1p2zclidb.out 2
            have f0 := cur_free HZpp1p2zclidb.out 0
            have f1 := cur_free HZpp1p2zclidb.out 1
            have f2 := cur_free HZpp1p2zclidb.out 2
            simp at z0 z1 z2
            have Z := Lib.hid (PSt.store (w3 := w3) (m' := m + 60) HZpp1p2zclidb.out OBpp1p2zclidb.out ⟨.inl (cur_lt HZpp1p2zcl.out), Nat.le_refl _⟩ Gpp1p2zcl.out.size (Nat.le_trans Gpp1p2.out.size (by simp)) hbd Ipp1p2zclidb.out (by omega) Gpp1p2zclidb.out hb3 hr0 hr1 hrq)
            go_simp
            refine hK.out _ _ trivial (fun hH114 => ?_)
            clear hK K hH113
            try simp only [Act.put, List.setIfInBounds_toArray, List.set_cons_zero, List.set_cons_succ]
            clear z0 z1 z2 f0 f1 f2
            refine wpAnyH_done (by kernel_rfl) ?_ _
            go_wp2_with fail
            go_meet
            exact ⟨_, r, _, _, _, rfl, Z⟩
      case rpp114 =>
        have bxpp1z := below_box (Below.refl wpp1.heap.size wpp1) (.cells #[.int .i64 0, .int .i64 0, .slice none 0 0] 26)
        have Ipp1z := Lib.hid (Ipp1.out.below bxpp1z)
        have Gpp1z := Lib.hid (grown_trans Gpp1.out (World.grownBy_alloc wpp1 (.cells #[.int .i64 0, .int .i64 0, .slice none 0 0] 26) (some b)))
        have HZpp1z : Hid ((World.heap (wpp1.alloc (.cells #[.int .i64 0, .int .i64 0, .slice none 0 0] 26)))[wpp1.heap.size]? = some (.cells #[.int .i64 0, .int .i64 0, .slice none 0 0] 26 (0, 0))) := Lib.hid (alloc_at wpp1 (.cells #[.int .i64 0, .int .i64 0, .slice none 0 0] 26) _ (by simp))
        clear bxpp1z
        go_simp
        refine hK.out _ _ trivial (fun hH115 => ?_)
        clear hK K hH1
        try simp only [Act.put, List.setIfInBounds_toArray, List.set_cons_zero, List.set_cons_succ]
        refine wpAnyH_ready (rs := [3, 5]) (by kernel_rfl) (by simp) ?_
        refine AllReadyH.cons (by simp only [List.getElem?_toArray, List.getElem?_cons_succ, List.getElem?_cons_zero]; rfl) (fun K hK => ?rpp1z3) (AllReadyH.cons (by simp only [List.getElem?_toArray, List.getElem?_cons_succ, List.getElem?_cons_zero]; rfl) (fun K hK => ?rpp1z5) AllReadyH.nil)
        case rpp1z3 =>
          have bxpp1zl := below_box (Below.refl (wpp1.alloc (.cells #[.int .i64 0, .int .i64 0, .slice none 0 0] 26)).heap.size (wpp1.alloc (.cells #[.int .i64 0, .int .i64 0, .slice none 0 0] 26))) (.cells #[.int .i64 (p1 : Int), .int .i64 200] 3)
          have Ipp1zl := Lib.hid (Ipp1z.out.below bxpp1zl)
          have Gpp1zl := Lib.hid (grown_trans Gpp1z.out (World.grownBy_alloc (wpp1.alloc (.cells #[.int .i64 0, .int .i64 0, .slice none 0 0] 26)) (.cells #[.int .i64 (p1 : Int), .int .i64 200] 3) (some b)))
          have HZpp1zl := Lib.hid (kept_block HZpp1z.out bxpp1zl)
          have Hpp1zl : Hid ((World.heap ((wpp1.alloc (.cells #[.int .i64 0, .int .i64 0, .slice none 0 0] 26)).alloc (.cells #[.int .i64 (p1 : Int), .int .i64 200] 3)))[wpp1.heap.size + 1]? = some (.cells #[.int .i64 (p1 : Int), .int .i64 200] 3 (0, 0))) := Lib.hid (alloc_at (wpp1.alloc (.cells #[.int .i64 0, .int .i64 0, .slice none 0 0] 26)) (.cells #[.int .i64 (p1 : Int), .int .i64 200] 3) _ (by simp))
          clear bxpp1zl
          go_simp
          refine hK.out _ _ trivial (fun hH116 => ?_)
          clear hK K hH115
          try simp only [Act.put, List.setIfInBounds_toArray, List.set_cons_zero, List.set_cons_succ]
          refine wpAnyH_ready (rs := [5]) (by kernel_rfl) (by simp) ?_
          refine AllReadyH.cons (by simp only [List.getElem?_toArray, List.getElem?_cons_succ, List.getElem?_cons_zero]; rfl) (fun K hK => ?_) AllReadyH.nil
          refine step_callW ((wpp1.alloc (.cells #[.int .i64 0, .int .i64 0, .slice none 0 0] 26)).alloc (.cells #[.int .i64 (p1 : Int), .int .i64 200] 3)) rfl (by rfl) 46 _ _ rfl _ (by kernel_rfl) Try.call46 _ (curPick b a l cap _ 2 _ hl (by omega) (by omega) Ipp1zl.out) ?_
          rintro e wpp1zlp2 ⟨p2, rfl, hp, hI, hg⟩
          refine ⟨_, rfl, ?_⟩
          have Ipp1zlp2 := Lib.hid hI
          have Gpp1zlp2 := Lib.hid (grown_trans Gpp1zl.out hg)
          have Hpp1zlp2 := Lib.hid (kept_grown Hpp1zl.out hg (by intro e; have e := Option.some.inj e; omega))
          have HZpp1zlp2 := Lib.hid (kept_grown HZpp1zl.out hg (by intro e; have e := Option.some.inj e; omega))
          have hp2 : p2 < 2 := by omega
          clear hI hg
          have hbwpp1zlp2 : b < wpp1zlp2.heap.size := Ipp1zlp2.out.lt
          clear hp
          refine hK.out _ _ trivial (fun hH117 => ?_)
          clear hK K hH116
          try simp only [Act.put, List.setIfInBounds_toArray, List.set_cons_zero, List.set_cons_succ]
          obtain ⟨u, hu, hul⟩ := lit2_at p1 p2 hp20 hp2
          have hp0 : (0 : Int) ≤ (p2 : Int) := by omega
          have hp1 : (p2 : Int) < 2 := by omega
          have qpp1zlp2i := (cur_cell Hpp1zlp2.out p2).trans hul
          refine wpAnyH_take (i := 6) (oi := ?onpp1zlp2i_6) (v := ?vnpp1zlp2i_6) ?hinpp1zlp2i_6 (by kernel_rfl) (by kernel_rfl) (by kernel_rfl) ?hqnpp1zlp2i_6 ?hynpp1zlp2i_6 (by assumption) ?rnpp1zlp2i_6
          case hinpp1zlp2i_6 => (simp only [List.getElem?_toArray, List.getElem?_cons_succ, List.getElem?_cons_zero]; rfl)
          case hqnpp1zlp2i_6 => exact fun _ _ _ h => h
          case hynpp1zlp2i_6 =>
            refine Or.inl ⟨by rfl, ?_⟩; intro wq hSw; (try dsimp only at hSw); go_simp; (try with_reducible rfl); done
          try simp only [Act.put, List.setIfInBounds_toArray, List.set_cons_zero, List.set_cons_succ]
          refine wpAnyH_ready (rs := [7, 9]) (by kernel_rfl) (by simp) ?_
          refine AllReadyH.cons (by simp only [List.getElem?_toArray, List.getElem?_cons_succ, List.getElem?_cons_zero]; rfl) (fun K hK => ?rpp1zlp2i7) (AllReadyH.cons (by simp only [List.getElem?_toArray, List.getElem?_cons_succ, List.getElem?_cons_zero]; rfl) (fun K hK => ?rpp1zlp2i9) AllReadyH.nil)
          case rpp1zlp2i7 =>
            have qdpp1zlp2id : World.cell? wpp1zlp2 ⟨wpp1.heap.size + 1, p2, none⟩ = some (.int .i64 (u : Int)) := (cur_cell Hpp1zlp2.out p2).trans hul
            go_simp
            refine hK.out _ _ trivial (fun hH118 => ?_)
            clear hK K hH117
            try simp only [Act.put, List.setIfInBounds_toArray, List.set_cons_zero, List.set_cons_succ]
            clear qdpp1zlp2id
            refine wpAnyH_ready (rs := [9]) (by kernel_rfl) (by simp) ?_
            refine AllReadyH.cons (by simp only [List.getElem?_toArray, List.getElem?_cons_succ, List.getElem?_cons_zero]; rfl) (fun K hK => ?_) AllReadyH.nil
            refine step_callW wpp1zlp2 rfl (by rfl) 47 _ _ rfl _ (by kernel_rfl) Try.call47 _ (CLH.out _) ?_
            rintro e wpp1zlp2idc ⟨rfl, hwpp1zlp2idc⟩
            replace hwpp1zlp2idc := hwpp1zlp2idc.symm
            subst hwpp1zlp2idc
            refine ⟨_, rfl, ?_⟩
            refine hK.out _ _ trivial (fun hH119 => ?_)
            clear hK K hH118
            try simp only [Act.put, List.setIfInBounds_toArray, List.set_cons_zero, List.set_cons_succ]
            refine wpAnyH_ready (rs := [13]) (by kernel_rfl) (by simp) ?_
            refine AllReadyH.cons (by simp only [List.getElem?_toArray, List.getElem?_cons_succ, List.getElem?_cons_zero]; rfl) (fun K hK => ?_) AllReadyH.nil
            refine step_callW wpp1zlp2 rfl (by rfl) 45 _ _ rfl _ (by kernel_rfl) Try.call45 _ (curBlock b a l cap _ (u : Int) g v _ hl (by omega) (by omega) (by omega) (by omega) Ipp1zlp2.out) ?_
            rintro e wpp1zlp2idcb ⟨r, a9, c9, rfl, hrz, hrl, hrv, ho, hI, hg⟩
            refine ⟨_, rfl, ?_⟩
            have Ipp1zlp2idcb := Lib.hid hI
            have Gpp1zlp2idcb := Lib.hid (grown_trans Gpp1zlp2.out hg)
            have Hpp1zlp2idcb := Lib.hid (kept_grown Hpp1zlp2.out hg (by intro e; have e := Option.some.inj e; omega))
            have HZpp1zlp2idcb := Lib.hid (kept_grown HZpp1zlp2.out hg (by intro e; have e := Option.some.inj e; omega))
            have OBpp1zlp2idcb := Lib.hid ho
            have hsopp1zlp2idcb := hg.size
            have hbd : blkBd r ∧ r.data.length ≤ 8 := ⟨⟨by omega, by omega⟩, by omega⟩
            clear ho hrz hrl hrv
            obtain ⟨r0, hr0⟩ : ∃ z, r.id = z := ⟨_, rfl⟩
            obtain ⟨r1, hr1⟩ : ∃ z, r.leaf = z := ⟨_, rfl⟩
            obtain ⟨rq, hrq⟩ : ∃ z, r.data.length = z := ⟨_, rfl⟩
            rw [hr0, hr1, hrq] at OBpp1zlp2idcb ⊢
            clear hI hg
            have hbwpp1zlp2idcb : b < wpp1zlp2idcb.heap.size := Ipp1zlp2idcb.out.lt
            refine hK.out _ _ trivial (fun hH120 => ?_)
            clear hK K hH119
            try simp only [Act.put, List.setIfInBounds_toArray, List.set_cons_zero, List.set_cons_succ]
            refine wpAnyH_ready (rs := [15]) (by kernel_rfl) (by simp) ?_
            refine AllReadyH.cons (by simp only [List.getElem?_toArray, List.getElem?_cons_succ, List.getElem?_cons_zero]; rfl) (fun K hK => ?_) AllReadyH.nil
            have z0 := cur_cell HZpp1zlp2idcb.out 0
            have z1 := cur_cell HZpp1zlp2idcb.out 1
            have z2 := cur_cell HZpp1zlp2idcb.out 2
            have f0 := cur_free HZpp1zlp2idcb.out 0
            have f1 := cur_free HZpp1zlp2idcb.out 1
            have f2 := cur_free HZpp1zlp2idcb.out 2
            simp at z0 z1 z2
            have Z := Lib.hid (PSt.store (w3 := w3) (m' := m + 60) HZpp1zlp2idcb.out OBpp1zlp2idcb.out ⟨.inl (cur_lt HZpp1zlp2.out), Nat.le_refl _⟩ Gpp1zlp2.out.size (Nat.le_trans Gpp1.out.size (by simp)) hbd Ipp1zlp2idcb.out (by omega) Gpp1zlp2idcb.out hb3 hr0 hr1 hrq)
            go_simp
            refine hK.out _ _ trivial (fun hH121 => ?_)
            clear hK K hH120
            try simp only [Act.put, List.setIfInBounds_toArray, List.set_cons_zero, List.set_cons_succ]
            clear z0 z1 z2 f0 f1 f2
            refine wpAnyH_done (by kernel_rfl) ?_ _
            go_wp2_with fail
            go_meet
            exact ⟨_, r, _, _, _, rfl, Z⟩
          case rpp1zlp2i9 =>
            refine step_callW wpp1zlp2 rfl (by rfl) 47 _ _ rfl _ (by kernel_rfl) Try.call47 _ (CLH.out _) ?_
            rintro e wpp1zlp2ic ⟨rfl, hwpp1zlp2ic⟩
            replace hwpp1zlp2ic := hwpp1zlp2ic.symm
            subst hwpp1zlp2ic
            refine ⟨_, rfl, ?_⟩
            refine hK.out _ _ trivial (fun hH122 => ?_)
            clear hK K hH117
            try simp only [Act.put, List.setIfInBounds_toArray, List.set_cons_zero, List.set_cons_succ]
            refine wpAnyH_ready (rs := [7]) (by kernel_rfl) (by simp) ?_
            refine AllReadyH.cons (by simp only [List.getElem?_toArray, List.getElem?_cons_succ, List.getElem?_cons_zero]; rfl) (fun K hK => ?_) AllReadyH.nil
            have qdpp1zlp2icd : World.cell? wpp1zlp2 ⟨wpp1.heap.size + 1, p2, none⟩ = some (.int .i64 (u : Int)) := (cur_cell Hpp1zlp2.out p2).trans hul
            go_simp
            refine hK.out _ _ trivial (fun hH123 => ?_)
            clear hK K hH122
            try simp only [Act.put, List.setIfInBounds_toArray, List.set_cons_zero, List.set_cons_succ]
            clear qdpp1zlp2icd
            refine wpAnyH_ready (rs := [13]) (by kernel_rfl) (by simp) ?_
            refine AllReadyH.cons (by simp only [List.getElem?_toArray, List.getElem?_cons_succ, List.getElem?_cons_zero]; rfl) (fun K hK => ?_) AllReadyH.nil
            refine step_callW wpp1zlp2 rfl (by rfl) 45 _ _ rfl _ (by kernel_rfl) Try.call45 _ (curBlock b a l cap _ (u : Int) g v _ hl (by omega) (by omega) (by omega) (by omega) Ipp1zlp2.out) ?_
            rintro e wpp1zlp2icdb ⟨r, a9, c9, rfl, hrz, hrl, hrv, ho, hI, hg⟩
            refine ⟨_, rfl, ?_⟩
            have Ipp1zlp2icdb := Lib.hid hI
            have Gpp1zlp2icdb := Lib.hid (grown_trans Gpp1zlp2.out hg)
            have Hpp1zlp2icdb := Lib.hid (kept_grown Hpp1zlp2.out hg (by intro e; have e := Option.some.inj e; omega))
            have HZpp1zlp2icdb := Lib.hid (kept_grown HZpp1zlp2.out hg (by intro e; have e := Option.some.inj e; omega))
            have OBpp1zlp2icdb := Lib.hid ho
            have hsopp1zlp2icdb := hg.size
            have hbd : blkBd r ∧ r.data.length ≤ 8 := ⟨⟨by omega, by omega⟩, by omega⟩
            clear ho hrz hrl hrv
            obtain ⟨r0, hr0⟩ : ∃ z, r.id = z := ⟨_, rfl⟩
            obtain ⟨r1, hr1⟩ : ∃ z, r.leaf = z := ⟨_, rfl⟩
            obtain ⟨rq, hrq⟩ : ∃ z, r.data.length = z := ⟨_, rfl⟩
            rw [hr0, hr1, hrq] at OBpp1zlp2icdb ⊢
            clear hI hg
            have hbwpp1zlp2icdb : b < wpp1zlp2icdb.heap.size := Ipp1zlp2icdb.out.lt
            refine hK.out _ _ trivial (fun hH124 => ?_)
            clear hK K hH123
            try simp only [Act.put, List.setIfInBounds_toArray, List.set_cons_zero, List.set_cons_succ]
            refine wpAnyH_ready (rs := [15]) (by kernel_rfl) (by simp) ?_
            refine AllReadyH.cons (by simp only [List.getElem?_toArray, List.getElem?_cons_succ, List.getElem?_cons_zero]; rfl) (fun K hK => ?_) AllReadyH.nil
            have z0 := cur_cell HZpp1zlp2icdb.out 0
            have z1 := cur_cell HZpp1zlp2icdb.out 1
            have z2 := cur_cell HZpp1zlp2icdb.out 2
            have f0 := cur_free HZpp1zlp2icdb.out 0
            have f1 := cur_free HZpp1zlp2icdb.out 1
            have f2 := cur_free HZpp1zlp2icdb.out 2
            simp at z0 z1 z2
            have Z := Lib.hid (PSt.store (w3 := w3) (m' := m + 60) HZpp1zlp2icdb.out OBpp1zlp2icdb.out ⟨.inl (cur_lt HZpp1zlp2.out), Nat.le_refl _⟩ Gpp1zlp2.out.size (Nat.le_trans Gpp1.out.size (by simp)) hbd Ipp1zlp2icdb.out (by omega) Gpp1zlp2icdb.out hb3 hr0 hr1 hrq)
            go_simp
            refine hK.out _ _ trivial (fun hH125 => ?_)
            clear hK K hH124
            try simp only [Act.put, List.setIfInBounds_toArray, List.set_cons_zero, List.set_cons_succ]
            clear z0 z1 z2 f0 f1 f2
            refine wpAnyH_done (by kernel_rfl) ?_ _
            go_wp2_with fail
            go_meet
            exact ⟨_, r, _, _, _, rfl, Z⟩
        case rpp1z5 =>
          refine step_callW (wpp1.alloc (.cells #[.int .i64 0, .int .i64 0, .slice none 0 0] 26)) rfl (by rfl) 46 _ _ rfl _ (by kernel_rfl) Try.call46 _ (curPick b a l cap _ 2 _ hl (by omega) (by omega) Ipp1z.out) ?_
          rintro e wpp1zp2 ⟨p2, rfl, hp, hI, hg⟩
          refine ⟨_, rfl, ?_⟩
          have Ipp1zp2 := Lib.hid hI
          have Gpp1zp2 := Lib.hid (grown_trans Gpp1z.out hg)
          have HZpp1zp2 := Lib.hid (kept_grown HZpp1z.out hg (by intro e; have e := Option.some.inj e; omega))
          have hp2 : p2 < 2 := by omega
          clear hI hg
          have hbwpp1zp2 : b < wpp1zp2.heap.size := Ipp1zp2.out.lt
          clear hp
          refine hK.out _ _ trivial (fun hH126 => ?_)
          clear hK K hH115
          try simp only [Act.put, List.setIfInBounds_toArray, List.set_cons_zero, List.set_cons_succ]
          refine wpAnyH_ready (rs := [3, 9]) (by kernel_rfl) (by simp) ?_
          refine AllReadyH.cons (by simp only [List.getElem?_toArray, List.getElem?_cons_succ, List.getElem?_cons_zero]; rfl) (fun K hK => ?rpp1zp23) (AllReadyH.cons (by simp only [List.getElem?_toArray, List.getElem?_cons_succ, List.getElem?_cons_zero]; rfl) (fun K hK => ?rpp1zp29) AllReadyH.nil)
          case rpp1zp23 =>
            have bxpp1zp2l := below_box (Below.refl wpp1zp2.heap.size wpp1zp2) (.cells #[.int .i64 (p1 : Int), .int .i64 200] 3)
            have Ipp1zp2l := Lib.hid (Ipp1zp2.out.below bxpp1zp2l)
            have Gpp1zp2l := Lib.hid (grown_trans Gpp1zp2.out (World.grownBy_alloc wpp1zp2 (.cells #[.int .i64 (p1 : Int), .int .i64 200] 3) (some b)))
            have HZpp1zp2l := Lib.hid (kept_block HZpp1zp2.out bxpp1zp2l)
            have Hpp1zp2l : Hid ((World.heap (wpp1zp2.alloc (.cells #[.int .i64 (p1 : Int), .int .i64 200] 3)))[wpp1zp2.heap.size]? = some (.cells #[.int .i64 (p1 : Int), .int .i64 200] 3 (0, 0))) := Lib.hid (alloc_at wpp1zp2 (.cells #[.int .i64 (p1 : Int), .int .i64 200] 3) _ (by simp))
            clear bxpp1zp2l
            go_simp
            refine hK.out _ _ trivial (fun hH127 => ?_)
            clear hK K hH126
            try simp only [Act.put, List.setIfInBounds_toArray, List.set_cons_zero, List.set_cons_succ]
            obtain ⟨u, hu, hul⟩ := lit2_at p1 p2 hp20 hp2
            have hp0 : (0 : Int) ≤ (p2 : Int) := by omega
            have hp1 : (p2 : Int) < 2 := by omega
            have qpp1zp2li := (cur_cell Hpp1zp2l.out p2).trans hul
            refine wpAnyH_take (i := 6) (oi := ?onpp1zp2li_6) (v := ?vnpp1zp2li_6) ?hinpp1zp2li_6 (by kernel_rfl) (by kernel_rfl) (by kernel_rfl) ?hqnpp1zp2li_6 ?hynpp1zp2li_6 (by assumption) ?rnpp1zp2li_6
            case hinpp1zp2li_6 => (simp only [List.getElem?_toArray, List.getElem?_cons_succ, List.getElem?_cons_zero]; rfl)
            case hqnpp1zp2li_6 => exact fun _ _ _ h => h
            case hynpp1zp2li_6 =>
              refine Or.inl ⟨by rfl, ?_⟩; intro wq hSw; (try dsimp only at hSw); go_simp; (try with_reducible rfl); done
            try simp only [Act.put, List.setIfInBounds_toArray, List.set_cons_zero, List.set_cons_succ]
            refine wpAnyH_ready (rs := [7, 9]) (by kernel_rfl) (by simp) ?_
            refine AllReadyH.cons (by simp only [List.getElem?_toArray, List.getElem?_cons_succ, List.getElem?_cons_zero]; rfl) (fun K hK => ?rpp1zp2li7) (AllReadyH.cons (by simp only [List.getElem?_toArray, List.getElem?_cons_succ, List.getElem?_cons_zero]; rfl) (fun K hK => ?rpp1zp2li9) AllReadyH.nil)
            case rpp1zp2li7 =>
              have qdpp1zp2lid : World.cell? (wpp1zp2.alloc (.cells #[.int .i64 (p1 : Int), .int .i64 200] 3)) ⟨wpp1zp2.heap.size, p2, none⟩ = some (.int .i64 (u : Int)) := (cur_cell Hpp1zp2l.out p2).trans hul
              go_simp
              refine hK.out _ _ trivial (fun hH128 => ?_)
              clear hK K hH127
              try simp only [Act.put, List.setIfInBounds_toArray, List.set_cons_zero, List.set_cons_succ]
              clear qdpp1zp2lid
              refine wpAnyH_ready (rs := [9]) (by kernel_rfl) (by simp) ?_
              refine AllReadyH.cons (by simp only [List.getElem?_toArray, List.getElem?_cons_succ, List.getElem?_cons_zero]; rfl) (fun K hK => ?_) AllReadyH.nil
              refine step_callW (wpp1zp2.alloc (.cells #[.int .i64 (p1 : Int), .int .i64 200] 3)) rfl (by rfl) 47 _ _ rfl _ (by kernel_rfl) Try.call47 _ (CLH.out _) ?_
              rintro e wpp1zp2lidc ⟨rfl, hwpp1zp2lidc⟩
              replace hwpp1zp2lidc := hwpp1zp2lidc.symm
              subst hwpp1zp2lidc
              refine ⟨_, rfl, ?_⟩
              refine hK.out _ _ trivial (fun hH129 => ?_)
              clear hK K hH128
              try simp only [Act.put, List.setIfInBounds_toArray, List.set_cons_zero, List.set_cons_succ]
              refine wpAnyH_ready (rs := [13]) (by kernel_rfl) (by simp) ?_
              refine AllReadyH.cons (by simp only [List.getElem?_toArray, List.getElem?_cons_succ, List.getElem?_cons_zero]; rfl) (fun K hK => ?_) AllReadyH.nil
              refine step_callW (wpp1zp2.alloc (.cells #[.int .i64 (p1 : Int), .int .i64 200] 3)) rfl (by rfl) 45 _ _ rfl _ (by kernel_rfl) Try.call45 _ (curBlock b a l cap _ (u : Int) g v _ hl (by omega) (by omega) (by omega) (by omega) Ipp1zp2l.out) ?_
              rintro e wpp1zp2lidcb ⟨r, a9, c9, rfl, hrz, hrl, hrv, ho, hI, hg⟩
              refine ⟨_, rfl, ?_⟩
              have Ipp1zp2lidcb := Lib.hid hI
              have Gpp1zp2lidcb := Lib.hid (grown_trans Gpp1zp2l.out hg)
              have Hpp1zp2lidcb := Lib.hid (kept_grown Hpp1zp2l.out hg (by intro e; have e := Option.some.inj e; omega))
              have HZpp1zp2lidcb := Lib.hid (kept_grown HZpp1zp2l.out hg (by intro e; have e := Option.some.inj e; omega))
              have OBpp1zp2lidcb := Lib.hid ho
              have hsopp1zp2lidcb := hg.size
              have hbd : blkBd r ∧ r.data.length ≤ 8 := ⟨⟨by omega, by omega⟩, by omega⟩
              clear ho hrz hrl hrv
              obtain ⟨r0, hr0⟩ : ∃ z, r.id = z := ⟨_, rfl⟩
              obtain ⟨r1, hr1⟩ : ∃ z, r.leaf = z := ⟨_, rfl⟩
              obtain ⟨rq, hrq⟩ : ∃ z, r.data.length = z := ⟨_, rfl⟩
              rw [hr0, hr1, hrq] at OBpp1zp2lidcb ⊢
              clear hI hg
              have hbwpp1zp2lidcb : b < wpp1zp2lidcb.heap.size := Ipp1zp2lidcb.out.lt
              refine hK.out _ _ trivial (fun hH130 => ?_)
              clear hK K hH129
              try simp only [Act.put, List.setIfInBounds_toArray, List.set_cons_zero, List.set_cons_succ]
              refine wpAnyH_ready (rs := [15]) (by kernel_rfl) (by simp) ?_
              refine AllReadyH.cons (by simp only [List.getElem?_toArray, List.getElem?_cons_succ, List.getElem?_cons_zero]; rfl) (fun K hK => ?_) AllReadyH.nil
              have z0 := cur_cell HZpp1zp2lidcb.out 0
              have z1 := cur_cell HZpp1zp2lidcb.out 1
              have z2 := cur_cell HZpp1zp2lidcb.out 2
              have f0 := cur_free HZpp1zp2lidcb.out 0
              have f1 := cur_free HZpp1zp2lidcb.out 1
              have f2 := cur_free HZpp1zp2lidcb.out 2
              simp at z0 z1 z2
              have Z := Lib.hid (PSt.store (w3 := w3) (m' := m + 60) HZpp1zp2lidcb.out OBpp1zp2lidcb.out ⟨.inl (cur_lt HZpp1zp2l.out), Nat.le_refl _⟩ Gpp1zp2l.out.size (Nat.le_trans Gpp1.out.size (by simp)) hbd Ipp1zp2lidcb.out (by omega) Gpp1zp2lidcb.out hb3 hr0 hr1 hrq)
              go_simp
              refine hK.out _ _ trivial (fun hH131 => ?_)
              clear hK K hH130
              try simp only [Act.put, List.setIfInBounds_toArray, List.set_cons_zero, List.set_cons_succ]
              clear z0 z1 z2 f0 f1 f2
              refine wpAnyH_done (by kernel_rfl) ?_ _
              go_wp2_with fail
              go_meet
              exact ⟨_, r, _, _, _, rfl, Z⟩
            case rpp1zp2li9 =>
              refine step_callW (wpp1zp2.alloc (.cells #[.int .i64 (p1 : Int), .int .i64 200] 3)) rfl (by rfl) 47 _ _ rfl _ (by kernel_rfl) Try.call47 _ (CLH.out _) ?_
              rintro e wpp1zp2lic ⟨rfl, hwpp1zp2lic⟩
              replace hwpp1zp2lic := hwpp1zp2lic.symm
              subst hwpp1zp2lic
              refine ⟨_, rfl, ?_⟩
              refine hK.out _ _ trivial (fun hH132 => ?_)
              clear hK K hH127
              try simp only [Act.put, List.setIfInBounds_toArray, List.set_cons_zero, List.set_cons_succ]
              refine wpAnyH_ready (rs := [7]) (by kernel_rfl) (by simp) ?_
              refine AllReadyH.cons (by simp only [List.getElem?_toArray, List.getElem?_cons_succ, List.getElem?_cons_zero]; rfl) (fun K hK => ?_) AllReadyH.nil
              have qdpp1zp2licd : World.cell? (wpp1zp2.alloc (.cells #[.int .i64 (p1 : Int), .int .i64 200] 3)) ⟨wpp1zp2.heap.size, p2, none⟩ = some (.int .i64 (u : Int)) := (cur_cell Hpp1zp2l.out p2).trans hul
              go_simp
              refine hK.out _ _ trivial (fun hH133 => ?_)
              clear hK K hH132
              try simp only [Act.put, List.setIfInBounds_toArray, List.set_cons_zero, List.set_cons_succ]
              clear qdpp1zp2licd
              refine wpAnyH_ready (rs := [13]) (by kernel_rfl) (by simp) ?_
              refine AllReadyH.cons (by simp only [List.getElem?_toArray, List.getElem?_cons_succ, List.getElem?_cons_zero]; rfl) (fun K hK => ?_) AllReadyH.nil
              refine step_callW (wpp1zp2.alloc (.cells #[.int .i64 (p1 : Int), .int .i64 200] 3)) rfl (by rfl) 45 _ _ rfl _ (by kernel_rfl) Try.call45 _ (curBlock b a l cap _ (u : Int) g v _ hl (by omega) (by omega) (by omega) (by omega) Ipp1zp2l.out) ?_
              rintro e wpp1zp2licdb ⟨r, a9, c9, rfl, hrz, hrl, hrv, ho, hI, hg⟩
              refine ⟨_, rfl, ?_⟩
              have Ipp1zp2licdb := Lib.hid hI
              have Gpp1zp2licdb := Lib.hid (grown_trans Gpp1zp2l.out hg)
              have Hpp1zp2licdb := Lib.hid (kept_grown Hpp1zp2l.out hg (by intro e; have e := Option.some.inj e; omega))
              have HZpp1zp2licdb := Lib.hid (kept_grown HZpp1zp2l.out hg (by intro e; have e := Option.some.inj e; omega))
              have OBpp1zp2licdb := Lib.hid ho
              have hsopp1zp2licdb := hg.size
              have hbd : blkBd r ∧ r.data.length ≤ 8 := ⟨⟨by omega, by omega⟩, by omega⟩
              clear ho hrz hrl hrv
              obtain ⟨r0, hr0⟩ : ∃ z, r.id = z := ⟨_, rfl⟩
              obtain ⟨r1, hr1⟩ : ∃ z, r.leaf = z := ⟨_, rfl⟩
              obtain ⟨rq, hrq⟩ : ∃ z, r.data.length = z := ⟨_, rfl⟩
              rw [hr0, hr1, hrq] at OBpp1zp2licdb ⊢
              clear hI hg
              have hbwpp1zp2licdb : b < wpp1zp2licdb.heap.size := Ipp1zp2licdb.out.lt
              refine hK.out _ _ trivial (fun hH134 => ?_)
              clear hK K hH133
              try simp only [Act.put, List.setIfInBounds_toArray, List.set_cons_zero, List.set_cons_succ]
              refine wpAnyH_ready (rs := [15]) (by kernel_rfl) (by simp) ?_
              refine AllReadyH.cons (by simp only [List.getElem?_toArray, List.getElem?_cons_succ, List.getElem?_cons_zero]; rfl) (fun K hK => ?_) AllReadyH.nil
              have z0 := cur_cell HZpp1zp2licdb.out 0
              have z1 := cur_cell HZpp1zp2licdb.out 1
              have z2 := cur_cell HZpp1zp2licdb.out 2
              have f0 := cur_free HZpp1zp2licdb.out 0
              have f1 := cur_free HZpp1zp2licdb.out 1
              have f2 := cur_free HZpp1zp2licdb.out 2
              simp at z0 z1 z2
              have Z := Lib.hid (PSt.store (w3 := w3) (m' := m + 60) HZpp1zp2licdb.out OBpp1zp2licdb.out ⟨.inl (cur_lt HZpp1zp2l.out), Nat.le_refl _⟩ Gpp1zp2l.out.size (Nat.le_trans Gpp1.out.size (by simp)) hbd Ipp1zp2licdb.out (by omega) Gpp1zp2licdb.out hb3 hr0 hr1 hrq)
              go_simp
              refine hK.out _ _ trivial (fun hH135 => ?_)
              clear hK K hH134
              try simp only [Act.put, List.setIfInBounds_toArray, List.set_cons_zero, List.set_cons_succ]
              clear z0 z1 z2 f0 f1 f2
              refine wpAnyH_done (by kernel_rfl) ?_ _
              go_wp2_with fail
              go_meet
              exact ⟨_, r, _, _, _, rfl, Z⟩
          case rpp1zp29 =>
            refine step_callW wpp1zp2 rfl (by rfl) 47 _ _ rfl _ (by kernel_rfl) Try.call47 _ (CLH.out _) ?_
            rintro e wpp1zp2c ⟨rfl, hwpp1zp2c⟩
            replace hwpp1zp2c := hwpp1zp2c.symm
            subst hwpp1zp2c
            refine ⟨_, rfl, ?_⟩
            refine hK.out _ _ trivial (fun hH136 => ?_)
            clear hK K hH126
            try simp only [Act.put, List.setIfInBounds_toArray, List.set_cons_zero, List.set_cons_succ]
            refine wpAnyH_ready (rs := [3]) (by kernel_rfl) (by simp) ?_
            refine AllReadyH.cons (by simp only [List.getElem?_toArray, List.getElem?_cons_succ, List.getElem?_cons_zero]; rfl) (fun K hK => ?_) AllReadyH.nil
            have bxpp1zp2cl := below_box (Below.refl wpp1zp2.heap.size wpp1zp2) (.cells #[.int .i64 (p1 : Int), .int .i64 200] 3)
            have Ipp1zp2cl := Lib.hid (Ipp1zp2.out.below bxpp1zp2cl)
            have Gpp1zp2cl := Lib.hid (grown_trans Gpp1zp2.out (World.grownBy_alloc wpp1zp2 (.cells #[.int .i64 (p1 : Int), .int .i64 200] 3) (some b)))
            have HZpp1zp2cl := Lib.hid (kept_block HZpp1zp2.out bxpp1zp2cl)
            have Hpp1zp2cl : Hid ((World.heap (wpp1zp2.alloc (.cells #[.int .i64 (p1 : Int), .int .i64 200] 3)))[wpp1zp2.heap.size]? = some (.cells #[.int .i64 (p1 : Int), .int .i64 200] 3 (0, 0))) := Lib.hid (alloc_at wpp1zp2 (.cells #[.int .i64 (p1 : Int), .int .i64 200] 3) _ (by simp))
            clear bxpp1zp2cl
            go_simp
            refine hK.out _ _ trivial (fun hH137 => ?_)
            clear hK K hH136
            try simp only [Act.put, List.setIfInBounds_toArray, List.set_cons_zero, List.set_cons_succ]
            obtain ⟨u, hu, hul⟩ := lit2_at p1 p2 hp20 hp2
            have hp0 : (0 : Int) ≤ (p2 : Int) := by omega
            have hp1 : (p2 : Int) < 2 := by omega
            have qpp1zp2cli := (cur_cell Hpp1zp2cl.out p2).trans hul
            refine wpAnyH_take (i := 6) (oi := ?onpp1zp2cli_6) (v := ?vnpp1zp2cli_6) ?hinpp1zp2cli_6 (by kernel_rfl) (by kernel_rfl) (by kernel_rfl) ?hqnpp1zp2cli_6 ?hynpp1zp2cli_6 (by assumption) ?rnpp1zp2cli_6
            case hinpp1zp2cli_6 => (simp only [List.getElem?_toArray, List.getElem?_cons_succ, List.getElem?_cons_zero]; rfl)
            case hqnpp1zp2cli_6 => exact fun _ _ _ h => h
            case hynpp1zp2cli_6 =>
              refine Or.inl ⟨by rfl, ?_⟩; intro wq hSw; (try dsimp only at hSw); go_simp; (try with_reducible rfl); done
            try simp only [Act.put, List.setIfInBounds_toArray, List.set_cons_zero, List.set_cons_succ]
            refine wpAnyH_ready (rs := [7]) (by kernel_rfl) (by simp) ?_
            refine AllReadyH.cons (by simp only [List.getElem?_toArray, List.getElem?_cons_succ, List.getElem?_cons_zero]; rfl) (fun K hK => ?_) AllReadyH.nil
            have qdpp1zp2clid : World.cell? (wpp1zp2.alloc (.cells #[.int .i64 (p1 : Int), .int .i64 200] 3)) ⟨wpp1zp2.heap.size, p2, none⟩ = some (.int .i64 (u : Int)) := (cur_cell Hpp1zp2cl.out p2).trans hul
            go_simp
            refine hK.out _ _ trivial (fun hH138 => ?_)
            clear hK K hH137
            try simp only [Act.put, List.setIfInBounds_toArray, List.set_cons_zero, List.set_cons_succ]
            clear qdpp1zp2clid
            refine wpAnyH_ready (rs := [13]) (by kernel_rfl) (by simp) ?_
            refine AllReadyH.cons (by simp only [List.getElem?_toArray, List.getElem?_cons_succ, List.getElem?_cons_zero]; rfl) (fun K hK => ?_) AllReadyH.nil
            refine step_callW (wpp1zp2.alloc (.cells #[.int .i64 (p1 : Int), .int .i64 200] 3)) rfl (by rfl) 45 _ _ rfl _ (by kernel_rfl) Try.call45 _ (curBlock b a l cap _ (u : Int) g v _ hl (by omega) (by omega) (by omega) (by omega) Ipp1zp2cl.out) ?_
            rintro e wpp1zp2clidb ⟨r, a9, c9, rfl, hrz, hrl, hrv, ho, hI, hg⟩
            refine ⟨_, rfl, ?_⟩
            have Ipp1zp2clidb := Lib.hid hI
            have Gpp1zp2clidb := Lib.hid (grown_trans Gpp1zp2cl.out hg)
            have Hpp1zp2clidb := Lib.hid (kept_grown Hpp1zp2cl.out hg (by intro e; have e := Option.some.inj e; omega))
            have HZpp1zp2clidb := Lib.hid (kept_grown HZpp1zp2cl.out hg (by intro e; have e := Option.some.inj e; omega))
            have OBpp1zp2clidb := Lib.hid ho
            have hsopp1zp2clidb := hg.size
            have hbd : blkBd r ∧ r.data.length ≤ 8 := ⟨⟨by omega, by omega⟩, by omega⟩
            clear ho hrz hrl hrv
            obtain ⟨r0, hr0⟩ : ∃ z, r.id = z := ⟨_, rfl⟩
            obtain ⟨r1, hr1⟩ : ∃ z, r.leaf = z := ⟨_, rfl⟩
            obtain ⟨rq, hrq⟩ : ∃ z, r.data.length = z := ⟨_, rfl⟩
            rw [hr0, hr1, hrq] at OBpp1zp2clidb ⊢
            clear hI hg
            have hbwpp1zp2clidb : b < wpp1zp2clidb.heap.size := Ipp1zp2clidb.out.lt
            refine hK.out _ _ trivial (fun hH139 => ?_)
            clear hK K hH138
            try simp only [Act.put, List.setIfInBounds_toArray, List.set_cons_zero, List.set_cons_succ]
            refine wpAnyH_ready (rs := [15]) (by kernel_rfl) (by simp) ?_
            refine AllReadyH.cons (by simp only [List.getElem?_toArray, List.getElem?_cons_succ, List.getElem?_cons_zero]; rfl) (fun K hK => ?_) AllReadyH.nil
            have z0 := cur_cell HZpp1zp2clidb.out 0
            have z1 := cur_cell HZpp1zp2clidb.out 1
            have z2 := cur_cell HZpp1zp2clidb.out 2
            have f0 := cur_free HZpp1zp2clidb.out 0
            have f1 := cur_free HZpp1zp2clidb.out 1
            have f2 := cur_free HZpp1zp2clidb.out 2
            simp at z0 z1 z2
            have Z := Lib.hid (PSt.store (w3 := w3) (m' := m + 60) HZpp1zp2clidb.out OBpp1zp2clidb.out ⟨.inl (cur_lt HZpp1zp2cl.out), Nat.le_refl _⟩ Gpp1zp2cl.out.size (Nat.le_trans Gpp1.out.size (by simp)) hbd Ipp1zp2clidb.out (by omega) Gpp1zp2clidb.out hb3 hr0 hr1 hrq)
            go_simp
            refine hK.out _ _ trivial (fun hH140 => ?_)
            clear hK K hH139
            try simp only [Act.put, List.setIfInBounds_toArray, List.set_cons_zero, List.set_cons_succ]
            clear z0 z1 z2 f0 f1 f2
            refine wpAnyH_done (by kernel_rfl) ?_ _
            go_wp2_with fail
            go_meet
            exact ⟨_, r, _, _, _, rfl, Z⟩
    case rp14 =>
      have bxpz := below_box (Below.refl w3.drew.heap.size w3.drew) (.cells #[.int .i64 0, .int .i64 0, .slice none 0 0] 26)
      have Ipz := Lib.hid (I0.out.below bxpz)
      have Gpz := Lib.hid (grown_trans G0.out (World.grownBy_alloc w3.drew (.cells #[.int .i64 0, .int .i64 0, .slice none 0 0] 26) (some b)))
      have HZpz : Hid ((World.heap (w3.drew.alloc (.cells #[.int .i64 0, .int .i64 0, .slice none 0 0] 26)))[w3.heap.size]? = some (.cells #[.int .i64 0, .int .i64 0, .slice none 0 0] 26 (0, 0))) := Lib.hid (alloc_at w3.drew (.cells #[.int .i64 0, .int .i64 0, .slice none 0 0] 26) _ (by simp))
      clear bxpz
      go_simp
      refine hK.out _ _ trivial (fun hH141 => ?_)
      clear hK K hHeld
      try simp only [Act.put, List.setIfInBounds_toArray, List.set_cons_zero, List.set_cons_succ]
      refine wpAnyH_ready (rs := [2]) (by kernel_rfl) (by simp) ?_
      refine AllReadyH.cons (by simp only [List.getElem?_toArray, List.getElem?_cons_succ, List.getElem?_cons_zero]; rfl) (fun K hK => ?_) AllReadyH.nil
      refine step_callW (w3.drew.alloc (.cells #[.int .i64 0, .int .i64 0, .slice none 0 0] 26)) rfl (by rfl) 46 _ _ rfl _ (by kernel_rfl) Try.call46 _ (curPick b a l cap _ 20 _ hl (by omega) (by omega) Ipz.out) ?_
      rintro e wpzp1 ⟨p1, rfl, hp, hI, hg⟩
      refine ⟨_, rfl, ?_⟩
      have Ipzp1 := Lib.hid hI
      have Gpzp1 := Lib.hid (grown_trans Gpz.out hg)
      have HZpzp1 := Lib.hid (kept_grown HZpz.out hg (by intro e; have e := Option.some.inj e; omega))
      have hp20 : p1 < 20 := by omega
      clear hI hg
      have hbwpzp1 : b < wpzp1.heap.size := Ipzp1.out.lt
      clear hp
      refine hK.out _ _ trivial (fun hH142 => ?_)
      clear hK K hH141
      try simp only [Act.put, List.setIfInBounds_toArray, List.set_cons_zero, List.set_cons_succ]
      refine wpAnyH_ready (rs := [3, 5]) (by kernel_rfl) (by simp) ?_
      refine AllReadyH.cons (by simp only [List.getElem?_toArray, List.getElem?_cons_succ, List.getElem?_cons_zero]; rfl) (fun K hK => ?rpzp13) (AllReadyH.cons (by simp only [List.getElem?_toArray, List.getElem?_cons_succ, List.getElem?_cons_zero]; rfl) (fun K hK => ?rpzp15) AllReadyH.nil)
      case rpzp13 =>
        have bxpzp1l := below_box (Below.refl wpzp1.heap.size wpzp1) (.cells #[.int .i64 (p1 : Int), .int .i64 200] 3)
        have Ipzp1l := Lib.hid (Ipzp1.out.below bxpzp1l)
        have Gpzp1l := Lib.hid (grown_trans Gpzp1.out (World.grownBy_alloc wpzp1 (.cells #[.int .i64 (p1 : Int), .int .i64 200] 3) (some b)))
        have HZpzp1l := Lib.hid (kept_block HZpzp1.out bxpzp1l)
        have Hpzp1l : Hid ((World.heap (wpzp1.alloc (.cells #[.int .i64 (p1 : Int), .int .i64 200] 3)))[wpzp1.heap.size]? = some (.cells #[.int .i64 (p1 : Int), .int .i64 200] 3 (0, 0))) := Lib.hid (alloc_at wpzp1 (.cells #[.int .i64 (p1 : Int), .int .i64 200] 3) _ (by simp))
        clear bxpzp1l
        go_simp
        refine hK.out _ _ trivial (fun hH143 => ?_)
        clear hK K hH142
        try simp only [Act.put, List.setIfInBounds_toArray, List.set_cons_zero, List.set_cons_succ]
        refine wpAnyH_ready (rs := [5]) (by kernel_rfl) (by simp) ?_
        refine AllReadyH.cons (by simp only [List.getElem?_toArray, List.getElem?_cons_succ, List.getElem?_cons_zero]; rfl) (fun K hK => ?_) AllReadyH.nil
        refine step_callW (wpzp1.alloc (.cells #[.int .i64 (p1 : Int), .int .i64 200] 3)) rfl (by rfl) 46 _ _ rfl _ (by kernel_rfl) Try.call46 _ (curPick b a l cap _ 2 _ hl (by omega) (by omega) Ipzp1l.out) ?_
        rintro e wpzp1lp2 ⟨p2, rfl, hp, hI, hg⟩
        refine ⟨_, rfl, ?_⟩
        have Ipzp1lp2 := Lib.hid hI
        have Gpzp1lp2 := Lib.hid (grown_trans Gpzp1l.out hg)
        have Hpzp1lp2 := Lib.hid (kept_grown Hpzp1l.out hg (by intro e; have e := Option.some.inj e; omega))
        have HZpzp1lp2 := Lib.hid (kept_grown HZpzp1l.out hg (by intro e; have e := Option.some.inj e; omega))
        have hp2 : p2 < 2 := by omega
        clear hI hg
        have hbwpzp1lp2 : b < wpzp1lp2.heap.size := Ipzp1lp2.out.lt
        clear hp
        refine hK.out _ _ trivial (fun hH144 => ?_)
        clear hK K hH143
        try simp only [Act.put, List.setIfInBounds_toArray, List.set_cons_zero, List.set_cons_succ]
        obtain ⟨u, hu, hul⟩ := lit2_at p1 p2 hp20 hp2
        have hp0 : (0 : Int) ≤ (p2 : Int) := by omega
        have hp1 : (p2 : Int) < 2 := by omega
        have qpzp1lp2i := (cur_cell Hpzp1lp2.out p2).trans hul
        refine wpAnyH_take (i := 6) (oi := ?onpzp1lp2i_6) (v := ?vnpzp1lp2i_6) ?hinpzp1lp2i_6 (by kernel_rfl) (by kernel_rfl) (by kernel_rfl) ?hqnpzp1lp2i_6 ?hynpzp1lp2i_6 (by assumption) ?rnpzp1lp2i_6
        case hinpzp1lp2i_6 => (simp only [List.getElem?_toArray, List.getElem?_cons_succ, List.getElem?_cons_zero]; rfl)
        case hqnpzp1lp2i_6 => exact fun _ _ _ h => h
        case hynpzp1lp2i_6 =>
          refine Or.inl ⟨by rfl, ?_⟩; intro wq hSw; (try dsimp only at hSw); go_simp; (try with_reducible rfl); done
        try simp only [Act.put, List.setIfInBounds_toArray, List.set_cons_zero, List.set_cons_succ]
        refine wpAnyH_ready (rs := [7, 9]) (by kernel_rfl) (by simp) ?_
        refine AllReadyH.cons (by simp only [List.getElem?_toArray, List.getElem?_cons_succ, List.getElem?_cons_zero]; rfl) (fun K hK => ?rpzp1lp2i7) (AllReadyH.cons (by simp only [List.getElem?_toArray, List.getElem?_cons_succ, List.getElem?_cons_zero]; rfl) (fun K hK => ?rpzp1lp2i9) AllReadyH.nil)
        case rpzp1lp2i7 =>
          have qdpzp1lp2id : World.cell? wpzp1lp2 ⟨wpzp1.heap.size, p2, none⟩ = some (.int .i64 (u : Int)) := (cur_cell Hpzp1lp2.out p2).trans hul
          go_simp
          refine hK.out _ _ trivial (fun hH145 => ?_)
          clear hK K hH144
          try simp only [Act.put, List.setIfInBounds_toArray, List.set_cons_zero, List.set_cons_succ]
          clear qdpzp1lp2id
          refine wpAnyH_ready (rs := [9]) (by kernel_rfl) (by simp) ?_
          refine AllReadyH.cons (by simp only [List.getElem?_toArray, List.getElem?_cons_succ, List.getElem?_cons_zero]; rfl) (fun K hK => ?_) AllReadyH.nil
          refine step_callW wpzp1lp2 rfl (by rfl) 47 _ _ rfl _ (by kernel_rfl) Try.call47 _ (CLH.out _) ?_
          rintro e wpzp1lp2idc ⟨rfl, hwpzp1lp2idc⟩
          replace hwpzp1lp2idc := hwpzp1lp2idc.symm
          subst hwpzp1lp2idc
          refine ⟨_, rfl, ?_⟩
          refine hK.out _ _ trivial (fun hH146 => ?_)
          clear hK K hH145
          try simp only [Act.put, List.setIfInBounds_toArray, List.set_cons_zero, List.set_cons_succ]
          refine wpAnyH_ready (rs := [13]) (by kernel_rfl) (by simp) ?_
          refine AllReadyH.cons (by simp only [List.getElem?_toArray, List.getElem?_cons_succ, List.getElem?_cons_zero]; rfl) (fun K hK => ?_) AllReadyH.nil
          refine step_callW wpzp1lp2 rfl (by rfl) 45 _ _ rfl _ (by kernel_rfl) Try.call45 _ (curBlock b a l cap _ (u : Int) g v _ hl (by omega) (by omega) (by omega) (by omega) Ipzp1lp2.out) ?_
          rintro e wpzp1lp2idcb ⟨r, a9, c9, rfl, hrz, hrl, hrv, ho, hI, hg⟩
          refine ⟨_, rfl, ?_⟩
          have Ipzp1lp2idcb := Lib.hid hI
          have Gpzp1lp2idcb := Lib.hid (grown_trans Gpzp1lp2.out hg)
          have Hpzp1lp2idcb := Lib.hid (kept_grown Hpzp1lp2.out hg (by intro e; have e := Option.some.inj e; omega))
          have HZpzp1lp2idcb := Lib.hid (kept_grown HZpzp1lp2.out hg (by intro e; have e := Option.some.inj e; omega))
          have OBpzp1lp2idcb := Lib.hid ho
          have hsopzp1lp2idcb := hg.size
          have hbd : blkBd r ∧ r.data.length ≤ 8 := ⟨⟨by omega, by omega⟩, by omega⟩
          clear ho hrz hrl hrv
          obtain ⟨r0, hr0⟩ : ∃ z, r.id = z := ⟨_, rfl⟩
          obtain ⟨r1, hr1⟩ : ∃ z, r.leaf = z := ⟨_, rfl⟩
          obtain ⟨rq, hrq⟩ : ∃ z, r.data.length = z := ⟨_, rfl⟩
          rw [hr0, hr1, hrq] at OBpzp1lp2idcb ⊢
          clear hI hg
          have hbwpzp1lp2idcb : b < wpzp1lp2idcb.heap.size := Ipzp1lp2idcb.out.lt
          refine hK.out _ _ trivial (fun hH147 => ?_)
          clear hK K hH146
          try simp only [Act.put, List.setIfInBounds_toArray, List.set_cons_zero, List.set_cons_succ]
          refine wpAnyH_ready (rs := [15]) (by kernel_rfl) (by simp) ?_
          refine AllReadyH.cons (by simp only [List.getElem?_toArray, List.getElem?_cons_succ, List.getElem?_cons_zero]; rfl) (fun K hK => ?_) AllReadyH.nil
          have z0 := cur_cell HZpzp1lp2idcb.out 0
          have z1 := cur_cell HZpzp1lp2idcb.out 1
          have z2 := cur_cell HZpzp1lp2idcb.out 2
          have f0 := cur_free HZpzp1lp2idcb.out 0
          have f1 := cur_free HZpzp1lp2idcb.out 1
          have f2 := cur_free HZpzp1lp2idcb.out 2
          simp at z0 z1 z2
          have Z := Lib.hid (PSt.store (w3 := w3) (m' := m + 60) HZpzp1lp2idcb.out OBpzp1lp2idcb.out ⟨.inl (cur_lt HZpzp1lp2.out), Nat.le_refl _⟩ Gpzp1lp2.out.size (Nat.le_trans G0.out.size (by simp)) hbd Ipzp1lp2idcb.out (by omega) Gpzp1lp2idcb.out hb3 hr0 hr1 hrq)
          go_simp
          refine hK.out _ _ trivial (fun hH148 => ?_)
          clear hK K hH147
          try simp only [Act.put, List.setIfInBounds_toArray, List.set_cons_zero, List.set_cons_succ]
          clear z0 z1 z2 f0 f1 f2
          refine wpAnyH_done (by kernel_rfl) ?_ _
          go_wp2_with fail
          go_meet
          exact ⟨_, r, _, _, _, rfl, Z⟩
        case rpzp1lp2i9 =>
          refine step_callW wpzp1lp2 rfl (by rfl) 47 _ _ rfl _ (by kernel_rfl) Try.call47 _ (CLH.out _) ?_
          rintro e wpzp1lp2ic ⟨rfl, hwpzp1lp2ic⟩
          replace hwpzp1lp2ic := hwpzp1lp2ic.symm
          subst hwpzp1lp2ic
          refine ⟨_, rfl, ?_⟩
          refine hK.out _ _ trivial (fun hH149 => ?_)
          clear hK K hH144
          try simp only [Act.put, List.setIfInBounds_toArray, List.set_cons_zero, List.set_cons_succ]
          refine wpAnyH_ready (rs := [7]) (by kernel_rfl) (by simp) ?_
          refine AllReadyH.cons (by simp only [List.getElem?_toArray, List.getElem?_cons_succ, List.getElem?_cons_zero]; rfl) (fun K hK => ?_) AllReadyH.nil
          have qdpzp1lp2icd : World.cell? wpzp1lp2 ⟨wpzp1.heap.size, p2, none⟩ = some (.int .i64 (u : Int)) := (cur_cell Hpzp1lp2.out p2).trans hul
          go_simp
          refine hK.out _ _ trivial (fun hH150 => ?_)
          clear hK K hH149
          try simp only [Act.put, List.setIfInBounds_toArray, List.set_cons_zero, List.set_cons_succ]
          clear qdpzp1lp2icd
          refine wpAnyH_ready (rs := [13]) (by kernel_rfl) (by simp) ?_
          refine AllReadyH.cons (by simp only [List.getElem?_toArray, List.getElem?_cons_succ, List.getElem?_cons_zero]; rfl) (fun K hK => ?_) AllReadyH.nil
          refine step_callW wpzp1lp2 rfl (by rfl) 45 _ _ rfl _ (by kernel_rfl) Try.call45 _ (curBlock b a l cap _ (u : Int) g v _ hl (by omega) (by omega) (by omega) (by omega) Ipzp1lp2.out) ?_
          rintro e wpzp1lp2icdb ⟨r, a9, c9, rfl, hrz, hrl, hrv, ho, hI, hg⟩
          refine ⟨_, rfl, ?_⟩
          have Ipzp1lp2icdb := Lib.hid hI
          have Gpzp1lp2icdb := Lib.hid (grown_trans Gpzp1lp2.out hg)
          have Hpzp1lp2icdb := Lib.hid (kept_grown Hpzp1lp2.out hg (by intro e; have e := Option.some.inj e; omega))
          have HZpzp1lp2icdb := Lib.hid (kept_grown HZpzp1lp2.out hg (by intro e; have e := Option.some.inj e; omega))
          have OBpzp1lp2icdb := Lib.hid ho
          have hsopzp1lp2icdb := hg.size
          have hbd : blkBd r ∧ r.data.length ≤ 8 := ⟨⟨by omega, by omega⟩, by omega⟩
          clear ho hrz hrl hrv
          obtain ⟨r0, hr0⟩ : ∃ z, r.id = z := ⟨_, rfl⟩
          obtain ⟨r1, hr1⟩ : ∃ z, r.leaf = z := ⟨_, rfl⟩
          obtain ⟨rq, hrq⟩ : ∃ z, r.data.length = z := ⟨_, rfl⟩
          rw [hr0, hr1, hrq] at OBpzp1lp2icdb ⊢
          clear hI hg
          have hbwpzp1lp2icdb : b < wpzp1lp2icdb.heap.size := Ipzp1lp2icdb.out.lt
          refine hK.out _ _ trivial (fun hH151 => ?_)
          clear hK K hH150
          try simp only [Act.put, List.setIfInBounds_toArray, List.set_cons_zero, List.set_cons_succ]
          refine wpAnyH_ready (rs := [15]) (by kernel_rfl) (by simp) ?_
          refine AllReadyH.cons (by simp only [List.getElem?_toArray, List.getElem?_cons_succ, List.getElem?_cons_zero]; rfl) (fun K hK => ?_) AllReadyH.nil
          have z0 := cur_cell HZpzp1lp2icdb.out 0
          have z1 := cur_cell HZpzp1lp2icdb.out 1
          have z2 := cur_cell HZpzp1lp2icdb.out 2
          have f0 := cur_free HZpzp1lp2icdb.out 0
          have f1 := cur_free HZpzp1lp2icdb.out 1
          have f2 := cur_free HZpzp1lp2icdb.out 2
          simp at z0 z1 z2
          have Z := Lib.hid (PSt.store (w3 := w3) (m' := m + 60) HZpzp1lp2icdb.out OBpzp1lp2icdb.out ⟨.inl (cur_lt HZpzp1lp2.out), Nat.le_refl _⟩ Gpzp1lp2.out.size (Nat.le_trans G0.out.size (by simp)) hbd Ipzp1lp2icdb.out (by omega) Gpzp1lp2icdb.out hb3 hr0 hr1 hrq)
          go_simp
          refine hK.out _ _ trivial (fun hH152 => ?_)
          clear hK K hH151
          try simp only [Act.put, List.setIfInBounds_toArray, List.set_cons_zero, List.set_cons_succ]
          clear z0 z1 z2 f0 f1 f2
          refine wpAnyH_done (by kernel_rfl) ?_ _
          go_wp2_with fail
          go_meet
          exact ⟨_, r, _, _, _, rfl, Z⟩
      case rpzp15 =>
        refine step_callW wpzp1 rfl (by rfl) 46 _ _ rfl _ (by kernel_rfl) Try.call46 _ (curPick b a l cap _ 2 _ hl (by omega) (by omega) Ipzp1.out) ?_
        rintro e wpzp1p2 ⟨p2, rfl, hp, hI, hg⟩
        refine ⟨_, rfl, ?_⟩
        have Ipzp1p2 := Lib.hid hI
        have Gpzp1p2 := Lib.hid (grown_trans Gpzp1.out hg)
        have HZpzp1p2 := Lib.hid (kept_grown HZpzp1.out hg (by intro e; have e := Option.some.inj e; omega))
        have hp2 : p2 < 2 := by omega
        clear hI hg
        have hbwpzp1p2 : b < wpzp1p2.heap.size := Ipzp1p2.out.lt
        clear hp
        refine hK.out _ _ trivial (fun hH153 => ?_)
        clear hK K hH142
        try simp only [Act.put, List.setIfInBounds_toArray, List.set_cons_zero, List.set_cons_succ]
        refine wpAnyH_ready (rs := [3, 9]) (by kernel_rfl) (by simp) ?_
        refine AllReadyH.cons (by simp only [List.getElem?_toArray, List.getElem?_cons_succ, List.getElem?_cons_zero]; rfl) (fun K hK => ?rpzp1p23) (AllReadyH.cons (by simp only [List.getElem?_toArray, List.getElem?_cons_succ, List.getElem?_cons_zero]; rfl) (fun K hK => ?rpzp1p29) AllReadyH.nil)
        case rpzp1p23 =>
          have bxpzp1p2l := below_box (Below.refl wpzp1p2.heap.size wpzp1p2) (.cells #[.int .i64 (p1 : Int), .int .i64 200] 3)
          have Ipzp1p2l := Lib.hid (Ipzp1p2.out.below bxpzp1p2l)
          have Gpzp1p2l := Lib.hid (grown_trans Gpzp1p2.out (World.grownBy_alloc wpzp1p2 (.cells #[.int .i64 (p1 : Int), .int .i64 200] 3) (some b)))
          have HZpzp1p2l := Lib.hid (kept_block HZpzp1p2.out bxpzp1p2l)
          have Hpzp1p2l : Hid ((World.heap (wpzp1p2.alloc (.cells #[.int .i64 (p1 : Int), .int .i64 200] 3)))[wpzp1p2.heap.size]? = some (.cells #[.int .i64 (p1 : Int), .int .i64 200] 3 (0, 0))) := Lib.hid (alloc_at wpzp1p2 (.cells #[.int .i64 (p1 : Int), .int .i64 200] 3) _ (by simp))
          clear bxpzp1p2l
          go_simp
          refine hK.out _ _ trivial (fun hH154 => ?_)
          clear hK K hH153
          try simp only [Act.put, List.setIfInBounds_toArray, List.set_cons_zero, List.set_cons_succ]
          obtain ⟨u, hu, hul⟩ := lit2_at p1 p2 hp20 hp2
          have hp0 : (0 : Int) ≤ (p2 : Int) := by omega
          have hp1 : (p2 : Int) < 2 := by omega
          have qpzp1p2li := (cur_cell Hpzp1p2l.out p2).trans hul
          refine wpAnyH_take (i := 6) (oi := ?onpzp1p2li_6) (v := ?vnpzp1p2li_6) ?hinpzp1p2li_6 (by kernel_rfl) (by kernel_rfl) (by kernel_rfl) ?hqnpzp1p2li_6 ?hynpzp1p2li_6 (by assumption) ?rnpzp1p2li_6
          case hinpzp1p2li_6 => (simp only [List.getElem?_toArray, List.getElem?_cons_succ, List.getElem?_cons_zero]; rfl)
          case hqnpzp1p2li_6 => exact fun _ _ _ h => h
          case hynpzp1p2li_6 =>
            refine Or.inl ⟨by rfl, ?_⟩; intro wq hSw; (try dsimp only at hSw); go_simp; (try with_reducible rfl); done
          try simp only [Act.put, List.setIfInBounds_toArray, List.set_cons_zero, List.set_cons_succ]
          refine wpAnyH_ready (rs := [7, 9]) (by kernel_rfl) (by simp) ?_
          refine AllReadyH.cons (by simp only [List.getElem?_toArray, List.getElem?_cons_succ, List.getElem?_cons_zero]; rfl) (fun K hK => ?rpzp1p2li7) (AllReadyH.cons (by simp only [List.getElem?_toArray, List.getElem?_cons_succ, List.getElem?_cons_zero]; rfl) (fun K hK => ?rpzp1p2li9) AllReadyH.nil)
          case rpzp1p2li7 =>
            have qdpzp1p2lid : World.cell? (wpzp1p2.alloc (.cells #[.int .i64 (p1 : Int), .int .i64 200] 3)) ⟨wpzp1p2.heap.size, p2, none⟩ = some (.int .i64 (u : Int)) := (cur_cell Hpzp1p2l.out p2).trans hul
            go_simp
            refine hK.out _ _ trivial (fun hH155 => ?_)
            clear hK K hH154
            try simp only [Act.put, List.setIfInBounds_toArray, List.set_cons_zero, List.set_cons_succ]
            clear qdpzp1p2lid
            refine wpAnyH_ready (rs := [9]) (by kernel_rfl) (by simp) ?_
            refine AllReadyH.cons (by simp only [List.getElem?_toArray, List.getElem?_cons_succ, List.getElem?_cons_zero]; rfl) (fun K hK => ?_) AllReadyH.nil
            refine step_callW (wpzp1p2.alloc (.cells #[.int .i64 (p1 : Int), .int .i64 200] 3)) rfl (by rfl) 47 _ _ rfl _ (by kernel_rfl) Try.call47 _ (CLH.out _) ?_
            rintro e wpzp1p2lidc ⟨rfl, hwpzp1p2lidc⟩
            replace hwpzp1p2lidc := hwpzp1p2lidc.symm
            subst hwpzp1p2lidc
            refine ⟨_, rfl, ?_⟩
            refine hK.out _ _ trivial (fun hH156 => ?_)
            clear hK K hH155
            try simp only [Act.put, List.setIfInBounds_toArray, List.set_cons_zero, List.set_cons_succ]
            refine wpAnyH_ready (rs := [13]) (by kernel_rfl) (by simp) ?_
            refine AllReadyH.cons (by simp only [List.getElem?_toArray, List.getElem?_cons_succ, List.getElem?_cons_zero]; rfl) (fun K hK => ?_) AllReadyH.nil
            refine step_callW (wpzp1p2.alloc (.cells #[.int .i64 (p1 : Int), .int .i64 200] 3)) rfl (by rfl) 45 _ _ rfl _ (by kernel_rfl) Try.call45 _ (curBlock b a l cap _ (u : Int) g v _ hl (by omega) (by omega) (by omega) (by omega) Ipzp1p2l.out) ?_
            rintro e wpzp1p2lidcb ⟨r, a9, c9, rfl, hrz, hrl, hrv, ho, hI, hg⟩
            refine ⟨_, rfl, ?_⟩
            have Ipzp1p2lidcb := Lib.hid hI
            have Gpzp1p2lidcb := Lib.hid (grown_trans Gpzp1p2l.out hg)
            have Hpzp1p2lidcb := Lib.hid (kept_grown Hpzp1p2l.out hg (by intro e; have e := Option.some.inj e; omega))
            have HZpzp1p2lidcb := Lib.hid (kept_grown HZpzp1p2l.out hg (by intro e; have e := Option.some.inj e; omega))
            have OBpzp1p2lidcb := Lib.hid ho
            have hsopzp1p2lidcb := hg.size
            have hbd : blkBd r ∧ r.data.length ≤ 8 := ⟨⟨by omega, by omega⟩, by omega⟩
            clear ho hrz hrl hrv
            obtain ⟨r0, hr0⟩ : ∃ z, r.id = z := ⟨_, rfl⟩
            obtain ⟨r1, hr1⟩ : ∃ z, r.leaf = z := ⟨_, rfl⟩
            obtain ⟨rq, hrq⟩ : ∃ z, r.data.length = z := ⟨_, rfl⟩
            rw [hr0, hr1, hrq] at OBpzp1p2lidcb ⊢
            clear hI hg
            have hbwpzp1p2lidcb : b < wpzp1p2lidcb.heap.size := Ipzp1p2lidcb.out.lt
            refine hK.out _ _ trivial (fun hH157 => ?_)
            clear hK K hH156
            try simp only [Act.put, List.setIfInBounds_toArray, List.set_cons_zero, List.set_cons_succ]
            refine wpAnyH_ready (rs := [15]) (by kernel_rfl) (by simp) ?_
            refine AllReadyH.cons (by simp only [List.getElem?_toArray, List.getElem?_cons_succ, List.getElem?_cons_zero]; rfl) (fun K hK => ?_) AllReadyH.nil
            have z0 := cur_cell HZpzp1p2lidcb.out 0
            have z1 := cur_cell HZpzp1p2lidcb.out 1
            have z2 := cur_cell HZpzp1p2lidcb.out 2
            have f0 := cur_free HZpzp1p2lidcb.out 0
            have f1 := cur_free HZpzp1p2lidcb.out 1
            have f2 := cur_free HZpzp1p2lidcb.out 2
            simp at z0 z1 z2
            have Z := Lib.hid (PSt.store (w3 := w3) (m' := m + 60) HZpzp1p2lidcb.out OBpzp1p2lidcb.out ⟨.inl (cur_lt HZpzp1p2l.out), Nat.le_refl _⟩ Gpzp1p2l.out.size (Nat.le_trans G0.out.size (by simp)) hbd Ipzp1p2lidcb.out (by omega) Gpzp1p2lidcb.out hb3 hr0 hr1 hrq)
            go_simp
            refine hK.out _ _ trivial (fun hH158 => ?_)
            clear hK K hH157
            try simp only [Act.put, List.setIfInBounds_toArray, List.set_cons_zero, List.set_cons_succ]
            clear z0 z1 z2 f0 f1 f2
            refine wpAnyH_done (by kernel_rfl) ?_ _
            go_wp2_with fail
            go_meet
            exact ⟨_, r, _, _, _, rfl, Z⟩
          case rpzp1p2li9 =>
            refine step_callW (wpzp1p2.alloc (.cells #[.int .i64 (p1 : Int), .int .i64 200] 3)) rfl (by rfl) 47 _ _ rfl _ (by kernel_rfl) Try.call47 _ (CLH.out _) ?_
            rintro e wpzp1p2lic ⟨rfl, hwpzp1p2lic⟩
            replace hwpzp1p2lic := hwpzp1p2lic.symm
            subst hwpzp1p2lic
            refine ⟨_, rfl, ?_⟩
            refine hK.out _ _ trivial (fun hH159 => ?_)
            clear hK K hH154
            try simp only [Act.put, List.setIfInBounds_toArray, List.set_cons_zero, List.set_cons_succ]
            refine wpAnyH_ready (rs := [7]) (by kernel_rfl) (by simp) ?_
            refine AllReadyH.cons (by simp only [List.getElem?_toArray, List.getElem?_cons_succ, List.getElem?_cons_zero]; rfl) (fun K hK => ?_) AllReadyH.nil
            have qdpzp1p2licd : World.cell? (wpzp1p2.alloc (.cells #[.int .i64 (p1 : Int), .int .i64 200] 3)) ⟨wpzp1p2.heap.size, p2, none⟩ = some (.int .i64 (u : Int)) := (cur_cell Hpzp1p2l.out p2).trans hul
            go_simp
            refine hK.out _ _ trivial (fun hH160 => ?_)
            clear hK K hH159
            try simp only [Act.put, List.setIfInBounds_toArray, List.set_cons_zero, List.set_cons_succ]
            clear qdpzp1p2licd
            refine wpAnyH_ready (rs := [13]) (by kernel_rfl) (by simp) ?_
            refine AllReadyH.cons (by simp only [List.getElem?_toArray, List.getElem?_cons_succ, List.getElem?_cons_zero]; rfl) (fun K hK => ?_) AllReadyH.nil
            refine step_callW (wpzp1p2.alloc (.cells #[.int .i64 (p1 : Int), .int .i64 200] 3)) rfl (by rfl) 45 _ _ rfl _ (by kernel_rfl) Try.call45 _ (curBlock b a l cap _ (u : Int) g v _ hl (by omega) (by omega) (by omega) (by omega) Ipzp1p2l.out) ?_
            rintro e wpzp1p2licdb ⟨r, a9, c9, rfl, hrz, hrl, hrv, ho, hI, hg⟩
            refine ⟨_, rfl, ?_⟩
            have Ipzp1p2licdb := Lib.hid hI
            have Gpzp1p2licdb := Lib.hid (grown_trans Gpzp1p2l.out hg)
            have Hpzp1p2licdb := Lib.hid (kept_grown Hpzp1p2l.out hg (by intro e; have e := Option.some.inj e; omega))
            have HZpzp1p2licdb := Lib.hid (kept_grown HZpzp1p2l.out hg (by intro e; have e := Option.some.inj e; omega))
            have OBpzp1p2licdb := Lib.hid ho
            have hsopzp1p2licdb := hg.size
            have hbd : blkBd r ∧ r.data.length ≤ 8 := ⟨⟨by omega, by omega⟩, by omega⟩
            clear ho hrz hrl hrv
            obtain ⟨r0, hr0⟩ : ∃ z, r.id = z := ⟨_, rfl⟩
            obtain ⟨r1, hr1⟩ : ∃ z, r.leaf = z := ⟨_, rfl⟩
            obtain ⟨rq, hrq⟩ : ∃ z, r.data.length = z := ⟨_, rfl⟩
            rw [hr0, hr1, hrq] at OBpzp1p2licdb ⊢
            clear hI hg
            have hbwpzp1p2licdb : b < wpzp1p2licdb.heap.size := Ipzp1p2licdb.out.lt
            refine hK.out _ _ trivial (fun hH161 => ?_)
            clear hK K hH160
            try simp only [Act.put, List.setIfInBounds_toArray, List.set_cons_zero, List.set_cons_succ]
            refine wpAnyH_ready (rs := [15]) (by kernel_rfl) (by simp) ?_
            refine AllReadyH.cons (by simp only [List.getElem?_toArray, List.getElem?_cons_succ, List.getElem?_cons_zero]; rfl) (fun K hK => ?_) AllReadyH.nil
            have z0 := cur_cell HZpzp1p2licdb.out 0
            have z1 := cur_cell HZpzp1p2licdb.out 1
            have z2 := cur_cell HZpzp1p2licdb.out 2
            have f0 := cur_free HZpzp1p2licdb.out 0
            have f1 := cur_free HZpzp1p2licdb.out 1
            have f2 := cur_free HZpzp1p2licdb.out 2
            simp at z0 z1 z2
            have Z := Lib.hid (PSt.store (w3 := w3) (m' := m + 60) HZpzp1p2licdb.out OBpzp1p2licdb.out ⟨.inl (cur_lt HZpzp1p2l.out), Nat.le_refl _⟩ Gpzp1p2l.out.size (Nat.le_trans G0.out.size (by simp)) hbd Ipzp1p2licdb.out (by omega) Gpzp1p2licdb.out hb3 hr0 hr1 hrq)
            go_simp
            refine hK.out _ _ trivial (fun hH162 => ?_)
            clear hK K hH161
            try simp only [Act.put, List.setIfInBounds_toArray, List.set_cons_zero, List.set_cons_succ]
            clear z0 z1 z2 f0 f1 f2
            refine wpAnyH_done (by kernel_rfl) ?_ _
            go_wp2_with fail
            go_meet
            exact ⟨_, r, _, _, _, rfl, Z⟩
        case rpzp1p29 =>
          refine step_callW wpzp1p2 rfl (by rfl) 47 _ _ rfl _ (by kernel_rfl) Try.call47 _ (CLH.out _) ?_
          rintro e wpzp1p2c ⟨rfl, hwpzp1p2c⟩
          replace hwpzp1p2c := hwpzp1p2c.symm
          subst hwpzp1p2c
          refine ⟨_, rfl, ?_⟩
          refine hK.out _ _ trivial (fun hH163 => ?_)
          clear hK K hH153
          try simp only [Act.put, List.setIfInBounds_toArray, List.set_cons_zero, List.set_cons_succ]
          refine wpAnyH_ready (rs := [3]) (by kernel_rfl) (by simp) ?_
          refine AllReadyH.cons (by simp only [List.getElem?_toArray, List.getElem?_cons_succ, List.getElem?_cons_zero]; rfl) (fun K hK => ?_) AllReadyH.nil
          have bxpzp1p2cl := below_box (Below.refl wpzp1p2.heap.size wpzp1p2) (.cells #[.int .i64 (p1 : Int), .int .i64 200] 3)
          have Ipzp1p2cl := Lib.hid (Ipzp1p2.out.below bxpzp1p2cl)
          have Gpzp1p2cl := Lib.hid (grown_trans Gpzp1p2.out (World.grownBy_alloc wpzp1p2 (.cells #[.int .i64 (p1 : Int), .int .i64 200] 3) (some b)))
          have HZpzp1p2cl := Lib.hid (kept_block HZpzp1p2.out bxpzp1p2cl)
          have Hpzp1p2cl : Hid ((World.heap (wpzp1p2.alloc (.cells #[.int .i64 (p1 : Int), .int .i64 200] 3)))[wpzp1p2.heap.size]? = some (.cells #[.int .i64 (p1 : Int), .int .i64 200] 3 (0, 0))) := Lib.hid (alloc_at wpzp1p2 (.cells #[.int .i64 (p1 : Int), .int .i64 200] 3) _ (by simp))
          clear bxpzp1p2cl
          go_simp
          refine hK.out _ _ trivial (fun hH164 => ?_)
          clear hK K hH163
          try simp only [Act.put, List.setIfInBounds_toArray, List.set_cons_zero, List.set_cons_succ]
          obtain ⟨u, hu, hul⟩ := lit2_at p1 p2 hp20 hp2
          have hp0 : (0 : Int) ≤ (p2 : Int) := by omega
          have hp1 : (p2 : Int) < 2 := by omega
          have qpzp1p2cli := (cur_cell Hpzp1p2cl.out p2).trans hul
          refine wpAnyH_take (i := 6) (oi := ?onpzp1p2cli_6) (v := ?vnpzp1p2cli_6) ?hinpzp1p2cli_6 (by kernel_rfl) (by kernel_rfl) (by kernel_rfl) ?hqnpzp1p2cli_6 ?hynpzp1p2cli_6 (by assumption) ?rnpzp1p2cli_6
          case hinpzp1p2cli_6 => (simp only [List.getElem?_toArray, List.getElem?_cons_succ, List.getElem?_cons_zero]; rfl)
          case hqnpzp1p2cli_6 => exact fun _ _ _ h => h
          case hynpzp1p2cli_6 =>
            refine Or.inl ⟨by rfl, ?_⟩; intro wq hSw; (try dsimp only at hSw); go_simp; (try with_reducible rfl); done
          try simp only [Act.put, List.setIfInBounds_toArray, List.set_cons_zero, List.set_cons_succ]
          refine wpAnyH_ready (rs := [7]) (by kernel_rfl) (by simp) ?_
          refine AllReadyH.cons (by simp only [List.getElem?_toArray, List.getElem?_cons_succ, List.getElem?_cons_zero]; rfl) (fun K hK => ?_) AllReadyH.nil
          have qdpzp1p2clid : World.cell? (wpzp1p2.alloc (.cells #[.int .i64 (p1 : Int), .int .i64 200] 3)) ⟨wpzp1p2.heap.size, p2, none⟩ = some (.int .i64 (u : Int)) := (cur_cell Hpzp1p2cl.out p2).trans hul
          go_simp
          refine hK.out _ _ trivial (fun hH165 => ?_)
          clear hK K hH164
          try simp only [Act.put, List.setIfInBounds_toArray, List.set_cons_zero, List.set_cons_succ]
          clear qdpzp1p2clid
          refine wpAnyH_ready (rs := [13]) (by kernel_rfl) (by simp) ?_
          refine AllReadyH.cons (by simp only [List.getElem?_toArray, List.getElem?_cons_succ, List.getElem?_cons_zero]; rfl) (fun K hK => ?_) AllReadyH.nil
          refine step_callW (wpzp1p2.alloc (.cells #[.int .i64 (p1 : Int), .int .i64 200] 3)) rfl (by rfl) 45 _ _ rfl _ (by kernel_rfl) Try.call45 _ (curBlock b a l cap _ (u : Int) g v _ hl (by omega) (by omega) (by omega) (by omega) Ipzp1p2cl.out) ?_
          rintro e wpzp1p2clidb ⟨r, a9, c9, rfl, hrz, hrl, hrv, ho, hI, hg⟩
          refine ⟨_, rfl, ?_⟩
          have Ipzp1p2clidb := Lib.hid hI
          have Gpzp1p2clidb := Lib.hid (grown_trans Gpzp1p2cl.out hg)
          have Hpzp1p2clidb := Lib.hid (kept_grown Hpzp1p2cl.out hg (by intro e; have e := Option.some.inj e; omega))
          have HZpzp1p2clidb := Lib.hid (kept_grown HZpzp1p2cl.out hg (by intro e; have e := Option.some.inj e; omega))
          have OBpzp1p2clidb := Lib.hid ho
          have hsopzp1p2clidb := hg.size
          have hbd : blkBd r ∧ r.data.length ≤ 8 := ⟨⟨by omega, by omega⟩, by omega⟩
          clear ho hrz hrl hrv
          obtain ⟨r0, hr0⟩ : ∃ z, r.id = z := ⟨_, rfl⟩
          obtain ⟨r1, hr1⟩ : ∃ z, r.leaf = z := ⟨_, rfl⟩
          obtain ⟨rq, hrq⟩ : ∃ z, r.data.length = z := ⟨_, rfl⟩
          rw [hr0, hr1, hrq] at OBpzp1p2clidb ⊢
          clear hI hg
          have hbwpzp1p2clidb : b < wpzp1p2clidb.heap.size := Ipzp1p2clidb.out.lt
          refine hK.out _ _ trivial (fun hH166 => ?_)
          clear hK K hH165
          try simp only [Act.put, List.setIfInBounds_toArray, List.set_cons_zero, List.set_cons_succ]
          refine wpAnyH_ready (rs := [15]) (by kernel_rfl) (by simp) ?_
          refine AllReadyH.cons (by simp only [List.getElem?_toArray, List.getElem?_cons_succ, List.getElem?_cons_zero]; rfl) (fun K hK => ?_) AllReadyH.nil
          have z0 := cur_cell HZpzp1p2clidb.out 0
          have z1 := cur_cell HZpzp1p2clidb.out 1
          have z2 := cur_cell HZpzp1p2clidb.out 2
          have f0 := cur_free HZpzp1p2clidb.out 0
          have f1 := cur_free HZpzp1p2clidb.out 1
          have f2 := cur_free HZpzp1p2clidb.out 2
          simp at z0 z1 z2
          have Z := Lib.hid (PSt.store (w3 := w3) (m' := m + 60) HZpzp1p2clidb.out OBpzp1p2clidb.out ⟨.inl (cur_lt HZpzp1p2cl.out), Nat.le_refl _⟩ Gpzp1p2cl.out.size (Nat.le_trans G0.out.size (by simp)) hbd Ipzp1p2clidb.out (by omega) Gpzp1p2clidb.out hb3 hr0 hr1 hrq)
          go_simp
          refine hK.out _ _ trivial (fun hH167 => ?_)
          clear hK K hH166
          try simp only [Act.put, List.setIfInBounds_toArray, List.set_cons_zero, List.set_cons_succ]
          clear z0 z1 z2 f0 f1 f2
          refine wpAnyH_done (by kernel_rfl) ?_ _
          go_wp2_with fail
          go_meet
          exact ⟨_, r, _, _, _, rfl, Z⟩
  case rest =>
    obtain ⟨T, r, a', q, c', rfl, HP⟩ := hcut
    clear CLH hmax hmin
    generalize wc = w4 at *
    have IS := Lib.hid HP.out.I
    go_wp2_with fail
    refine (curOnce b a l cap _ 9 _ hl (by omega) (by omega) IS.out).mono ?_
    rintro e w5 ⟨f, rfl, hI, hg⟩
    have P5 := Lib.hid (HP.out.pick hI hg)
    have I5 := Lib.hid hI
    clear hI hg IS HP
    go_upto_if 34 with fail
    go_cut [] (fun wx => ∃ r2 : BlkM, Hid (PSt w3 wx b a l cap (m + 80) T r2 a' q c'))
    case first =>
      cases f
      · have Z := Lib.hid (show PSt w3 w5 b a l cap (m + 80) T r a' q c' from P5.out.more (by omega))
        clear P5 I5
        go_wp2_with fail
        go_meet
        exact ⟨r, Z⟩
      · go_wp2_with fail
        refine (curRaw b a l cap _ _ hl (by omega) I5.out).mono ?_
        rintro e w6 ⟨z, rfl, hz, hI, hg⟩
        have P6 := P5.out.pick hI hg
        have t1 := cur_cell P6.tb 1
        have f1 := cur_free P6.tb 1
        simp at t1
        have Z := Lib.hid (show PSt w3 _ b a l cap (m + 80) T _ a' q c' from (P6.leaf hz).more (by omega))
        clear P5 I5 hI hg P6
        go_wp2_with fail
        go_meet
        exact ⟨_, Z⟩
    case rest =>
      obtain ⟨r2, HP⟩ := hcut
      clear P5 I5
      generalize wc = w6 at *
      have tb := HP.out.tb
      have t0 := cur_cell tb 0
      have t1 := cur_cell tb 1
      have t2 := cur_cell tb 2
      have K6 := kept_grown K3.out HP.out.G (by intro e; have e := Option.some.inj e; omega)
      have k0 := cur_cell K6 0
      have k1 := cur_cell K6 1
      have k2 := cur_cell K6 2
      have f0 := cur_free K6 0
      have f1 := cur_free K6 1
      have f2 := cur_free K6 2
      simp at t0 t1 t2 k0 k1 k2
      have hT := HP.out.hT
      have hw13 : w1.heap.size ≤ w3.heap.size := S3.out.G.size
      have hTw : ¬ T = w.heap.size := by omega
      have Z := Lib.hid (show DrawnSp w (.returned (.tuple #[.slice ao n co, .agg #[.int .i64 r2.id, .int .i64 r2.leaf, .slice a' q c'], .int .i64 x, .int .i64 y])) (((w6.setCell ⟨w.heap.size, 0, none⟩ (.int .i64 r2.id)).setCell ⟨w.heap.size, 1, none⟩ (.int .i64 r2.leaf)).setCell ⟨w.heap.size, 2, none⟩ (.slice a' q c')).drew from by
        have S6 := S3.out.pick HP.out.I HP.out.G
        obtain ⟨t, ht, hp, ho⟩ := S6.owned HEL.out
        obtain ⟨lo, hi, hbo, hlo, hhi, _⟩ := HP.out.ow
        have hB := (((below_write B1.out S6.G (by omega)).setCell (p := ⟨w.heap.size, 0, none⟩) (Nat.le_refl _) (.int .i64 r2.id)).setCell (p := ⟨w.heap.size, 1, none⟩) (Nat.le_refl _) (.int .i64 r2.leaf)).setCell (p := ⟨w.heap.size, 2, none⟩) (Nat.le_refl _) (.slice a' q c')
        have e7 : (((w6.setCell ⟨w.heap.size, 0, none⟩ (.int .i64 r2.id)).setCell ⟨w.heap.size, 1, none⟩ (.int .i64 r2.leaf)).setCell ⟨w.heap.size, 2, none⟩ (.slice a' q c')).heap.size = w6.heap.size := by simp
        exact ⟨_, t, _, _, _, r2, x, y, rfl, ((BlockSOwn.lies (ownS_box3 ho (by omega) _ _ _) (by rw [e7]; exact Nat.le_refl _)).below (belowN 1)).now.wide (by omega) (by rw [size_drew, e7]; exact Nat.le_refl _), ((BlockOwn.lies ((own_box3x hbo (.inl (by omega)) _ _ _).wide (lo' := w.heap.size) (hi' := w6.heap.size) (by omega) (by omega)) (by rw [e7]; exact Nat.le_refl _)).below (belowN 1)).now.wide (Nat.le_refl _) (by rw [size_drew, e7]; exact Nat.le_refl _), szBlockS_small (fun m hm => (hp m hm).2) (by omega), by have := HP.out.bd.2; unfold szBlock; omega, HP.out.bd.1, HX.out, HY.out, below_drew hB⟩)
      have KR : (((w6.setCell ⟨w.heap.size, 0, none⟩ (.int .i64 r2.id)).setCell ⟨w.heap.size, 1, none⟩ (.int .i64 r2.leaf)).setCell ⟨w.heap.size, 2, none⟩ (.slice a' q c')).drew.heap[w.heap.size]? = some (.cells #[.int .i64 r2.id, .int .i64 r2.leaf, .slice a' q c'] 26 (0, 0)) := by
        have h := cur_set (cur_set (cur_set K6 0 (.int .i64 r2.id)) 1 (.int .i64 r2.leaf)) 2 (.slice a' q c')
        have h2 : (((w6.setCell ⟨w.heap.size, 0, none⟩ (.int .i64 r2.id)).setCell ⟨w.heap.size, 1, none⟩ (.int .i64 r2.leaf)).setCell ⟨w.heap.size, 2, none⟩ (.slice a' q c')).heap[w.heap.size]? = some (.cells #[.int .i64 r2.id, .int .i64 r2.leaf, .slice a' q c'] 26 (0, 0)) := by simpa using h
        exact h2
      have c0 := cur_cell KR 0
      have c1 := cur_cell KR 1
      have c2 := cur_cell KR 2
      simp at c0 c1 c2
      have CC := Lib.hid (And.intro c0 (And.intro c1 c2))
      have HH := Lib.hid (show ∀ v0 v1 v2, let w' := ((w6.drew.setCell ⟨w.heap.size, 0, none⟩ v0).setCell ⟨w.heap.size, 1, none⟩ v1).setCell ⟨w.heap.size, 2, none⟩ v2; w'.cell? ⟨T, 0, none⟩ = some (.int .i64 r2.id) ∧ w'.cell? ⟨T, 1, none⟩ = some (.int .i64 r2.leaf) ∧ w'.cell? ⟨T, 2, none⟩ = some (.slice a' q c') from fun v0 v1 v2 => by
        have h : ((((w6.drew.setCell ⟨w.heap.size, 0, none⟩ v0).setCell ⟨w.heap.size, 1, none⟩ v1).setCell ⟨w.heap.size, 2, none⟩ v2)).heap[T]? = w6.heap[T]? := by
          rw [Below.heap_setCell _ _ _ T (by simp; omega), Below.heap_setCell _ _ _ T (by simp; omega), Below.heap_setCell _ _ _ T (by simp; omega)]; rfl
        have hh := h.trans tb
        exact ⟨cur_cell hh 0, cur_cell hh 1, cur_cell hh 2⟩)
      clear S3 HX HY HEL HP B1 K3 K6 tb I3 KR c0 c1 c2
      go_wp2_with fail
      go_upto_region 6 with fail
      refine wp_region_held_drew (S := (fun w' => w'.cell? ⟨T, 0, none⟩ = some (.int .i64 r2.id) ∧ w'.cell? ⟨T, 1, none⟩ = some (.int .i64 r2.leaf) ∧ w'.cell? ⟨T, 2, none⟩ = some (.slice a' q c'))) (by kernel_rfl) ⟨t0, t1, t2⟩ (fun hHeld => ?_)
      refine wpAnyH_take (i := 0) (oi := ?om_0) (v := ?vm_0) ?him_0 (by kernel_rfl) (by kernel_rfl) (by kernel_rfl) ?hqm_0 ?hym_0 (by assumption) ?rm_0
      case him_0 => (simp only [List.getElem?_toArray, List.getElem?_cons_succ, List.getElem?_cons_zero]; rfl)
      case hqm_0 => exact fun _ _ _ h => h
      case hym_0 =>
        refine Or.inl ⟨by rfl, ?_⟩; intro wq hSw; (try dsimp only at hSw); go_simp; (try with_reducible rfl); done
      try simp only [Act.put, List.setIfInBounds_toArray, List.set_cons_zero, List.set_cons_succ]
      refine wpAnyH_take (i := 1) (oi := ?om_1) (v := ?vm_1) ?him_1 (by kernel_rfl) (by kernel_rfl) (by kernel_rfl) ?hqm_1 ?hym_1 (by assumption) ?rm_1
      case him_1 => (simp only [List.getElem?_toArray, List.getElem?_cons_succ, List.getElem?_cons_zero]; rfl)
      case hqm_1 => exact fun _ _ _ h => h
      case hym_1 =>
        refine Or.inl ⟨by rfl, ?_⟩; intro wq hSw; (try dsimp only at hSw); go_simp; (try with_reducible rfl); done
      try simp only [Act.put, List.setIfInBounds_toArray, List.set_cons_zero, List.set_cons_succ]
      refine wpAnyH_take (i := 2) (oi := ?om_2) (v := ?vm_2) ?him_2 (by kernel_rfl) (by kernel_rfl) (by kernel_rfl) ?hqm_2 ?hym_2 (by assumption) ?rm_2
      case him_2 => (simp only [List.getElem?_toArray, List.getElem?_cons_succ, List.getElem?_cons_zero]; rfl)
      case hqm_2 => exact fun _ _ _ h => h
      case hym_2 =>
        refine Or.inl ⟨by rfl, ?_⟩; intro wq hSw; (try dsimp only at hSw); go_simp; (try with_reducible rfl); done
      try simp only [Act.put, List.setIfInBounds_toArray, List.set_cons_zero, List.set_cons_succ]
      refine wpAnyH_take (i := 3) (oi := ?om_3) (v := ?vm_3) ?him_3 (by kernel_rfl) (by kernel_rfl) (by kernel_rfl) ?hqm_3 ?hym_3 (by assumption) ?rm_3
      case him_3 => (simp only [List.getElem?_toArray, List.getElem?_cons_succ, List.getElem?_cons_zero]; rfl)
      case hqm_3 => exact fun _ _ _ h => h
      case hym_3 =>
        refine Or.inl ⟨by rfl, ?_⟩; intro wq hSw; (try dsimp only at hSw); go_simp; (try with_reducible rfl); done
      try simp only [Act.put, List.setIfInBounds_toArray, List.set_cons_zero, List.set_cons_succ]
      refine wpAnyH_take (i := 4) (oi := ?om_4) (v := ?vm_4) ?him_4 (by kernel_rfl) (by kernel_rfl) (by kernel_rfl) ?hqm_4 ?hym_4 (by assumption) ?rm_4
      case him_4 => (simp only [List.getElem?_toArray, List.getElem?_cons_succ, List.getElem?_cons_zero]; rfl)
      case hqm_4 => exact fun _ _ _ h => h
      case hym_4 =>
        refine Or.inl ⟨by rfl, ?_⟩; intro wq hSw; (try dsimp only at hSw); go_simp; (try with_reducible rfl); done
      try simp only [Act.put, List.setIfInBounds_toArray, List.set_cons_zero, List.set_cons_succ]
      refine wpAnyH_ready (rs := [5]) (by kernel_rfl) (by simp) ?_
      refine AllReadyH.cons (by simp only [List.getElem?_toArray, List.getElem?_cons_succ, List.getElem?_cons_zero]; rfl) (fun K hK => ?_) AllReadyH.nil
      go_simp
      refine hK.out _ _ (HH.out _ _ _) (fun hH6 => ?_)
      clear hK K hHeld
      try simp only [Act.put, List.setIfInBounds_toArray, List.set_cons_zero, List.set_cons_succ]
      refine wpAnyH_take (i := 6) (oi := ?om_6) (v := ?vm_6) ?him_6 (by kernel_rfl) (by kernel_rfl) (by kernel_rfl) ?hqm_6 ?hym_6 (by assumption) ?rm_6
      case him_6 => (simp only [List.getElem?_toArray, List.getElem?_cons_succ, List.getElem?_cons_zero]; rfl)
      case hqm_6 => exact fun _ _ _ h => h
      case hym_6 =>
        refine Or.inl ⟨by rfl, ?_⟩; intro wq hSw; (try dsimp only at hSw); go_simp; (try with_reducible rfl); done
      try simp only [Act.put, List.setIfInBounds_toArray, List.set_cons_zero, List.set_cons_succ]
      refine wpAnyH_take (i := 7) (oi := ?om_7) (v := ?vm_7) ?him_7 (by kernel_rfl) (by kernel_rfl) (by kernel_rfl) ?hqm_7 ?hym_7 (by assumption) ?rm_7
      case him_7 => (simp only [List.getElem?_toArray, List.getElem?_cons_succ, List.getElem?_cons_zero]; rfl)
      case hqm_7 => exact fun _ _ _ h => h
      case hym_7 =>
        refine Or.inl ⟨by rfl, ?_⟩; intro wq hSw; (try dsimp only at hSw); go_simp; (try with_reducible rfl); done
      try simp only [Act.put, List.setIfInBounds_toArray, List.set_cons_zero, List.set_cons_succ]
      refine wpAnyH_done (by kernel_rfl) ?_ _
      go_wp2
      obtain ⟨c0, c1, c2⟩ := CC.out
      exact bodyPost_ret (v := .tuple #[.slice ao n co, .agg #[.int .i64 r2.id, .int .i64 r2.leaf, .slice a' q c'], .int .i64 x, .int .i64 y]) (by simp [results, Try.results12, go_sem, c0, c1, c2]) rfl Z.out
end Go.Proofs.Ytmkgddbdkpkgpaa
end
