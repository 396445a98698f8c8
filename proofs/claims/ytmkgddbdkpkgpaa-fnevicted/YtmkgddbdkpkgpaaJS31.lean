/- TnQ, TnE in one. Written by tools/join2.py. -/
import Derived.Test.YtmkgddbdkpkgpaaJS27
import Derived.Test.YtmkgddbdkpkgpaaJS13
import Derived.Test.YtmkgddbdkpkgpaaJS30
section
namespace Go.Proofs.Ytmkgddbdkpkgpaa
open Go.RowKit
set_option linter.unusedVariables false
set_option linter.unusedSimpArgs false
set_option maxRecDepth 100000

end Go.Proofs.Ytmkgddbdkpkgpaa
end

section
namespace Go.Proofs.Ytmkgddbdkpkgpaa
open Go.RowKit
set_option linter.unusedVariables false
set_option linter.unusedSimpArgs false
set_option maxRecDepth 100000

/-- What is known of a drawn block. -/
def blkS (v : Nat) (t : BlkM) : Prop := (0 ≤ t.id ∧ t.id ≤ 1000) ∧ (0 ≤ t.leaf ∧ t.leaf ≤ 64) ∧ t.data.length = v
/-- While blocks are drawn. -/
structure BsSt (P : BlkM → Prop) (w W : World) (b : Nat) (a : Option Addr) (l : List UInt8) (cap m : Nat) (ao : Option Addr) (co : Nat) (es : List (Elt BlkM 3)) (F : Nat → Foot) : Prop where
  row : NRow BlockO 26 3 w.heap.size ao co es F W
  bd : ∀ e ∈ es, P e.m
  h : b < w.heap.size
  I : CurI W b a l cap m
  G : w.grownBy W (some b)
section
variable {P : BlkM → Prop} {w W W' : World} {b : Nat} {a : Option Addr} {l : List UInt8} {cap m m' : Nat} {ao : Option Addr} {co : Nat} {es : List (Elt BlkM 3)} {F : Nat → Foot}
theorem NRow.picked (s : NRow BlockO 26 3 w.heap.size ao co es F W) (h : b < w.heap.size) (hg : W.grownBy W' (some b)) : NRow BlockO 26 3 w.heap.size ao co es F W' :=
  s.sup block_ong (fun x hx => hg.block x (s.at_ block_ong x hx).2 (fun e => by have := (s.at_ block_ong x hx).1; simp at e; omega))
theorem BsSt.pick (s : BsSt P w W b a l cap m ao co es F) (hI : CurI W' b a l cap m') (hg : W.grownBy W' (some b)) : BsSt P w W' b a l cap m' ao co es F :=
  ⟨s.row.picked s.h hg, s.bd, s.h, hI, grown_trans s.G hg⟩
theorem BsSt.below (s : BsSt P w W b a l cap m ao co es F) (hb : Below W.heap.size W W') : BsSt P w W' b a l cap m ao co es F :=
  ⟨s.row.below block_ong hb, s.bd, s.h, s.I.below hb, grown_trans s.G (below_grown hb _)⟩
theorem BsSt.more (s : BsSt P w W b a l cap m ao co es F) (hm : m ≤ m') : BsSt P w W b a l cap m' ao co es F := ⟨s.row, s.bd, s.h, s.I.more hm, s.G⟩
theorem BsSt.made (hb : b < w.heap.size) (hI : CurI W b a l cap m) (hg : (w.alloc (.cells #[] 26)).grownBy W (some b)) : BsSt P w W b a l cap m (some ⟨w.heap.size, 0, none⟩) 0 [] (fun _ _ => False) := by
  have O0 : (w.alloc (.cells #[] 26)).ownsRow w.heap.size 26 3 (.slice (some ⟨w.heap.size, 0, none⟩) 0 0) 0 [] := World.ownsRow_made w #[] 0 (Nat.le_refl _) (by unfold maxLen; omega) rfl
  exact ⟨⟨O0.kept hg (own_apart O0 hb), fun i hi => by simp at hi, fun i j x hi => by simp at hi, fun i x hi => by simp at hi⟩, by simp, hb, hI, grown_trans (World.grownBy_alloc w _ (some b)) hg⟩
theorem BsSt.snoc {w4 w5 : World} (s : BsSt P w W b a l cap m ao co es F) {c0 c1 c2 : Value} {r : BlkM} (hc0 : c0 = .int .i64 r.id) (hc1 : c1 = .int .i64 r.leaf) (hr : P r) (ho : BlockOwn W.heap.size w4.heap.size [c0, c1, c2] r w4) (h2 : c2.oneCell' = true) (hI : CurI w4 b a l cap m') (hg : W.grownBy w4 (some b))
    {v5 : Value} (ho5 : w5.ownsRow w.heap.size 26 3 v5 (es.length + 1) (flatG eltL es ++ [c0, c1, c2])) (hg5 : (w4.alloc (.cells #[c0, c1, c2] 26)).grownBy w5 (Value.slice ao es.length co).ownBlock) :
    ∃ a5 c5, v5 = .slice a5 (es.length + 1) c5 ∧ ∃ (es' : List (Elt BlkM 3)) (F' : Nat → Foot), es'.length = es.length + 1 ∧ BsSt P w w5 b a l cap m' a5 c5 es' F' := by
  subst hc0 hc1
  have bx := below_box (Below.refl w4.heap.size w4) (.cells #[.int .i64 r.id, .int .i64 r.leaf, c2] 26)
  have r4 := s.row.picked s.h hg
  have r5 := r4.below block_ong bx
  obtain ⟨f, f1, f2⟩ := ho
  have fat := block_ong.at_ f1
  have f3 := block_ong.sup (w' := w4.alloc (.cells #[.int .i64 r.id, .int .i64 r.leaf, c2] 26)) f1 (fun x hx => alloc_old _ _ _ (f2 x hx))
  have hsz : w.heap.size ≤ W.heap.size := s.G.size
  obtain ⟨el, hecs, hem⟩ : ∃ e : Elt BlkM 3, e.cs = [.int .i64 r.id, .int .i64 r.leaf, c2] ∧ e.m = r := ⟨⟨[.int .i64 r.id, .int .i64 r.leaf, c2], r, rfl, by intro u hu; simp at hu; rcases hu with rfl | rfl | rfl; rfl; rfl; exact h2⟩, rfl, rfl⟩
  have gat := fun i x hi hx => (block_ong.at_ (s.row.own i hi) x hx).2
  have ob := fun x hx => s.row.row.lt x hx
  obtain ⟨a5, c5, hv, nr⟩ := r5.snoc f el (by rw [hecs, hem]; exact block_ong.low f3 hsz)
    (fun i x hi hx hF => by have h1 := gat i x hi hx; have h2 := (fat x hF).1; omega) (fun x hF hx => by have h1 := (ob x hx).2; have h2 := (fat x hF).1; omega) (v5 := v5) (by rw [hecs]; exact ho5) hg5
  have hl5 : (es ++ [el]).length = es.length + 1 := by simp
  rw [hl5] at hv
  have hb := s.h
  have BB : Below w.heap.size (w4.alloc (.cells #[.int .i64 r.id, .int .i64 r.leaf, c2] 26)) w5 := (Below.refl w.heap.size _).grown hg5 (by have := hg.size; simp; omega) (fun x hx => (ob x hx).1)
  refine ⟨a5, c5, hv, _, _, hl5, nr, fun e he => ?_, hb, (hI.below bx).low BB hb, grown_low (grown_trans (grown_trans s.G hg) (below_grown bx _)) BB⟩
  rcases List.mem_append.1 he with he | he
  · exact s.bd e he
  · simp at he
    rw [he, hem]
    exact hr
end
/-- What a drawing of blocks leaves. -/
def DrawnBlks (b : Nat) (a : Option Addr) (l : List UInt8) (cap m v n : Nat) (w : World) (e : Ending) (w' : World) : Prop :=
  ∃ (ao : Option Addr) (co : Nat) (es : List (Elt BlkM 3)) (F : Nat → Foot), e = .returned (.slice ao es.length co) ∧ es.length ≤ n ∧ BsSt (blkS v) w w' b a l cap m ao co es F
set_option maxHeartbeats 8000000 in
theorem curBlocks (b : Nat) (a : Option Addr) (l : List UInt8) (cap m n g v : Nat) (w : World) (hl : l.length ≤ 1048576) (hm : m ≤ 100000000000000000) (hn : n ≤ 100) (hg : g ≤ 6) (hv : v ≤ 8) (h : CurI w b a l cap m) :
    Calls Try.prog 71 #[.pointer (some ⟨b, 0, none⟩), .int .i64 n, .int .i64 g, .int .i64 v] w (DrawnBlks b a l cap (m + 2 + 10 * n) v n w) := by
  have hbl := h.lt
  have I0 := Lib.hid (h.below (below_box (Below.refl _ w) (.cells #[] 26)))
  have hn1 : IntKind.i64.wrap ((n : Int) + 1) = ((n + 1 : Nat) : Int) := IntWalk.i64_in _ (by omega)
  clear h
  go_enter Try.func71, Try.ntmps71
  go_wp2_with fail
  refine (curPick b a l cap m 3 _ hl (by omega) (by omega) I0.out).mono ?_
  rintro e w1 ⟨i0, rfl, hi0, hI, hg1⟩
  have hi0 : i0 ≤ 2 := by omega
  have S1 := Lib.hid (BsSt.made (P := blkS v) hbl hI hg1)
  clear hI hg1 I0
  go_wp2_with fail
  refine (curPick b a l cap _ (n + 1) _ hl (by omega) (by omega) S1.out.I).mono ?_
  rintro e w2 ⟨r, rfl, hr, hI, hg2⟩
  have hr : r ≤ n := by omega
  have S2 := Lib.hid (S1.out.pick hI hg2)
  clear hI hg2 S1
  go_wp2_with fail
  go_loopg [9, 10, 11] r (fun kk o i k wr => ∃ (q : Nat) (ao : Option Addr) (co : Nat) (es : List (Elt BlkM 3)) (F : Nat → Foot) (z : Nat), q ≤ r ∧ r - q = kk ∧ k = .int .i64 ((r - q : Nat) : Int) ∧ es.length = q ∧ o = .slice ao q co ∧ z ≤ 2 + 4 * q ∧ i = .int .i64 z ∧ Hid (BsSt (blkS v) w wr b a l cap (m + 2 + 10 * q) ao co es F))
  case atStart => exact ⟨0, _, _, _, _, i0, Nat.zero_le _, rfl, rfl, rfl, rfl, by omega, rfl, S2⟩
  case round =>
    clear S2
    obtain ⟨q, ao, co, es, F, z, hq, hkk, rfl, hel, rfl, hz, rfl, S⟩ := hrel
    by_cases hlt : q < r
    · have hpos : (0 : Int) < ((r - q : Nat) : Int) := by omega
      have hk1 : IntKind.i64.wrap (((r - q : Nat) : Int) - 1) = ((r - (q + 1) : Nat) : Int) := by rw [IntWalk.i64_in _ (by omega)]; omega
      have hz1 : IntKind.i64.wrap ((z : Int) + 1) = ((z + 1 : Nat) : Int) := IntWalk.i64_in _ (by omega)
      go_wp2_with fail
      refine (curBlock b a l cap _ z g v _ hl (by omega) hg hv (by omega) S.out.I).mono ?_
      rintro e w4 ⟨t, a', c', rfl, hid, hlf, hdl, ho, hI, hg4⟩
      have hrow := (S.out.row.picked S.out.h hg4).below block_ong (below_box (Below.refl w4.heap.size w4) (.cells #[.int .i64 t.id, .int .i64 t.leaf, .slice a' t.data.length c'] 26))
      have hrw := hrow.row
      rw [hel] at hrw
      have ROW := Lib.hid hrw
      have hsz : w.heap.size ≤ w4.heap.size := by have h1 := S.out.G.size; have h2 := hg4.size; omega
      have SN := Lib.hid (fun (v5 : Value) (w5 : World) ho5 hg5 => S.out.snoc (w5 := w5) (v5 := v5) rfl rfl (r := t) ⟨by omega, hlf, hdl⟩ ho rfl hI hg4 ho5 hg5)
      rw [hel] at SN
      clear ho hI hg4 hrow hrw S hid hdl
      go_wp2_with (at_builtin; go_must (refine wp_app_rowS rfl _ _ 24 rfl 26 _ 3 40 Try.underlying24 Try.infoBlk rfl (by omega) w.heap.size q (.slice ao q co) (flatG eltL es) (by rfl) ROW.out (some ⟨w4.heap.size, 0, none⟩) 1 1 [.int .i64 t.id, .int .i64 t.leaf, .slice a' t.data.length c'] (by rfl) rfl (lit_rowB w4 [.int .i64 t.id, .int .i64 t.leaf, .slice a' t.data.length c'] 26) (by intro u hu; simp at hu; rcases hu with rfl | rfl | rfl <;> rfl) (by unfold maxLen; omega) (by omega) (by simp; omega) ?_; intro v5 w5 ho5 hg5; obtain ⟨a5, c5, rfl, es', F', hl', hS5⟩ := SN.out v5 w5 ho5 hg5; have S5 := Lib.hid hS5; clear ho5 hg5 hS5 SN ROW))
      refine (curPick b a l cap _ 4 _ hl (by omega) (by omega) S5.out.I).mono ?_
      rintro e w6 ⟨p, rfl, hp, hI, hg6⟩
      have hp4 : p ≤ 3 := by omega
      have S6 := Lib.hid (S5.out.pick hI hg6)
      have hz2 : IntKind.i64.wrap (((z + 1 : Nat) : Int) + (p : Int)) = ((z + 1 + p : Nat) : Int) := by rw [IntWalk.i64_in _ (by omega)]; omega
      clear hI hg6 S5
      go_wp2_with fail
      go_roundg (r - (q + 1))
      case measure => omega
      case rel => exact ⟨q + 1, _, _, _, _, z + 1 + p, by omega, rfl, by first | rfl | (congr 1; omega), hl', rfl, by omega, rfl, Lib.hid (S6.out.more (by omega))⟩
    · have hqr : r - q = 0 := by omega
      have SE := Lib.hid (S.out.more (m' := m + 2 + 10 * n) (by omega))
      clear S
      rw [hqr]
      subst hel
      go_wp2
      go_ret
      exact ⟨ao, co, es, F, rfl, by omega, SE.out⟩
end Go.Proofs.Ytmkgddbdkpkgpaa
end
