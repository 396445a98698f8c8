/- TnD in one. Written by tools/join2.py. -/
import Derived.Test.YtmkgddbdkpkgpaaJS27
import Derived.Test.YtmkgddbdkpkgpaaJS29
import Derived.Test.YtmkgddbdkpkgpaaJS28
import Derived.Test.YtmkgddbdkpkgpaaJS16
import Derived.Deep.RegionLaw
import Derived.IntWalk
import Derived.Deep.DeepCutAuto
import Derived.Deep.CutBlock
section
namespace Go.Proofs.Ytmkgddbdkpkgpaa
open Go.RowKit
set_option linter.unusedVariables false
set_option linter.unusedSimpArgs false
set_option maxRecDepth 100000

theorem pow_16 {g : Nat} (h : g ≤ 6) : 1 ≤ 2 ^ g ∧ 2 ^ g ≤ 64 := by
  rcases (show g = 0 ∨ g = 1 ∨ g = 2 ∨ g = 3 ∨ g = 4 ∨ g = 5 ∨ g = 6 from by omega) with rfl | rfl | rfl | rfl | rfl | rfl | rfl <;> decide
/-- What a drawing of a block leaves. -/
def DrawnBlk (b : Nat) (a : Option Addr) (l : List UInt8) (cap m : Nat) (z : Int) (v : Nat) (w : World) (e : Ending) (w' : World) : Prop :=
  ∃ (r : BlkM) (a' : Option Addr) (cap' : Nat), e = .returned (.agg #[.int .i64 r.id, .int .i64 r.leaf, .slice a' r.data.length cap']) ∧ r.id = z ∧ (0 ≤ r.leaf ∧ r.leaf ≤ 64) ∧ r.data.length = v ∧ BlockOwn w.heap.size w'.heap.size [.int .i64 r.id, .int .i64 r.leaf, .slice a' r.data.length cap'] r w' ∧ CurI w' b a l cap m ∧ w.grownBy w' (some b)
/-- While a block is drawn: it lies in block T, its bytes behind it; the answer's place is the first new block. -/
structure BkSt (w W : World) (b T : Nat) (a : Option Addr) (l : List UInt8) (cap m : Nat) (z f : Int) (a' : Option Addr) (q c' : Nat) (bs : List UInt8) : Prop where
  tb : W.heap[T]? = some (.cells #[.int .i64 z, .int .i64 f, .slice a' q c'] 26 (0, 0))
  rb : W.heap[w.heap.size]? = some (.cells #[.int .i64 0, .int .i64 0, .slice none 0 0] 26 (0, 0))
  h : w.heap.size < T ∧ b < w.heap.size
  len : bs.length = q
  ow : W.ownsRow (T + 1) 5 1 (.slice a' q c') q (bs.map bval)
  I : CurI W b a l cap m
  G : w.grownBy W (some b)
section
variable {w W W' : World} {b T : Nat} {a : Option Addr} {l : List UInt8} {cap m m' : Nat} {z f : Int} {a' : Option Addr} {q c' : Nat} {bs : List UInt8}
theorem BkSt.pick (s : BkSt w W b T a l cap m z f a' q c' bs) (hI : CurI W' b a l cap m') (hg : W.grownBy W' (some b)) : BkSt w W' b T a l cap m' z f a' q c' bs := by
  obtain ⟨h1, h2⟩ := s.h
  exact ⟨kept_grown s.tb hg (by simp; omega), kept_grown s.rb hg (by simp; omega), s.h, s.len, s.ow.kept hg (own_apart s.ow (by omega)), hI, grown_trans s.G hg⟩
theorem BkSt.below (s : BkSt w W b T a l cap m z f a' q c' bs) (hb : Below W.heap.size W W') : BkSt w W' b T a l cap m z f a' q c' bs :=
  ⟨kept_block s.tb hb, kept_block s.rb hb, s.h, s.len, own_below s.ow hb, s.I.below hb, grown_trans s.G (below_grown hb _)⟩
theorem BkSt.more (s : BkSt w W b T a l cap m z f a' q c' bs) (hm : m ≤ m') : BkSt w W b T a l cap m' z f a' q c' bs := ⟨s.tb, s.rb, s.h, s.len, s.ow, s.I.more hm, s.G⟩
theorem BkSt.low (s : BkSt w W b T a l cap m z f a' q c' bs) (hg : W.grownBy W' (Value.slice a' q c').ownBlock) : Below (T + 1) W W' :=
  (Below.refl (T + 1) W).grown hg (cur_lt s.tb) (fun x hx => (s.ow.lt x hx).1)
theorem BkSt.old (s : BkSt w W b T a l cap m z f a' q c' bs) (hg : W.grownBy W' (Value.slice a' q c').ownBlock) : W'.heap[T]? = some (.cells #[.int .i64 z, .int .i64 f, .slice a' q c'] 26 (0, 0)) :=
  ((s.low hg).block T (by omega)).trans s.tb
theorem BkSt.app (s : BkSt w W b T a l cap m z f a' q c' bs) {a6 : Option Addr} {c6 : Nat} {x : UInt8} (ho : W'.ownsRow (T + 1) 5 1 (.slice a6 (q + 1) c6) (q + 1) ((bs ++ [x]).map bval)) (hg : W.grownBy W' (Value.slice a' q c').ownBlock) :
    BkSt w (W'.setCell ⟨T, 2, none⟩ (.slice a6 (q + 1) c6)) b T a l cap m z f a6 (q + 1) c6 (bs ++ [x]) := by
  obtain ⟨h1, h2⟩ := s.h
  have BL := s.low hg
  have B2 : Below T W (W'.setCell ⟨T, 2, none⟩ (.slice a6 (q + 1) c6)) := (BL.mono (B' := T) (Nat.le_succ T)).setCell (p := ⟨T, 2, none⟩) (Nat.le_refl _) _
  have k3 : Below W'.heap.size W' W' := Below.refl _ _
  refine ⟨cur_set (s.old hg) 2 _, (B2.block _ h1).trans s.rb, s.h, by simp [s.len], own_keptF ho (fun x hx => Below.heap_setCell _ _ _ x (by have := (ho.lt x hx).1; simp; omega)), s.I.low B2 (by omega), grown_low s.G (B2.mono (by omega))⟩
theorem BkSt.laid {w1 : World} {m : Nat} (hb : b < w.heap.size) (hI : CurI w1 b a l cap m) (hg : (w.alloc (.cells #[.int .i64 0, .int .i64 0, .slice none 0 0] 26)).grownBy w1 (some b)) (z f : Int) :
    BkSt w (w1.alloc (.cells #[.int .i64 z, .int .i64 f, .slice none 0 0] 26)) b w1.heap.size a l cap m z f none 0 0 [] := by
  have hs := hg.size
  simp at hs
  have kr := kept_grown (alloc_at w (.cells #[.int .i64 0, .int .i64 0, .slice none 0 0] 26) _ rfl) hg (by simp; omega)
  have bb := below_box (Below.refl w1.heap.size w1) (.cells #[.int .i64 z, .int .i64 f, .slice none 0 0] 26)
  exact ⟨alloc_at _ _ _ rfl, kept_block kr bb, ⟨by omega, hb⟩, rfl, ⟨rfl, .inl ⟨rfl, rfl⟩⟩, hI.below bb, grown_trans (grown_trans (World.grownBy_alloc w _ (some b)) hg) (World.grownBy_alloc w1 _ (some b))⟩
theorem BkSt.done (s : BkSt w W b T a l cap m z f a' q c' bs) (hf : 0 ≤ f ∧ f ≤ 64) (v0 v1 v2 : Value) :
    DrawnBlk b a l cap m z q w (.returned (.agg #[.int .i64 z, .int .i64 f, .slice a' q c'])) (((W.setCell ⟨w.heap.size, 0, none⟩ v0).setCell ⟨w.heap.size, 1, none⟩ v1).setCell ⟨w.heap.size, 2, none⟩ v2) := by
  obtain ⟨h1, h2⟩ := s.h
  have BB : Below w.heap.size W (((W.setCell ⟨w.heap.size, 0, none⟩ v0).setCell ⟨w.heap.size, 1, none⟩ v1).setCell ⟨w.heap.size, 2, none⟩ v2) :=
    (((Below.refl w.heap.size W).setCell (p := ⟨w.heap.size, 0, none⟩) (Nat.le_refl _) _).setCell (p := ⟨w.heap.size, 1, none⟩) (Nat.le_refl _) _).setCell (p := ⟨w.heap.size, 2, none⟩) (Nat.le_refl _) _
  have ow2 := own_base (base' := w.heap.size) (own_keptF s.ow (fun x hx => (show (((W.setCell ⟨w.heap.size, 0, none⟩ v0).setCell ⟨w.heap.size, 1, none⟩ v1).setCell ⟨w.heap.size, 2, none⟩ v2).heap[x]? = W.heap[x]? from by
    have := (s.ow.lt x hx).1
    exact (Below.heap_setCell _ _ _ x (by simp; omega)).trans ((Below.heap_setCell _ _ _ x (by simp; omega)).trans (Below.heap_setCell _ _ _ x (by simp; omega)))))) (by omega)
  have hlen := s.len
  subst hlen
  obtain ⟨F, f1, f2⟩ := (ByteSOwn.mk ow2).toO
  exact ⟨⟨z, f, bs⟩, a', c', rfl, rfl, hf, rfl, ⟨F, ⟨_, rfl, f1⟩, fun x hx => (byteS_ong.at_ f1 x hx).2⟩, s.I.low BB h2, grown_low s.G BB⟩
theorem blk_app (s : BkSt w W b T a l cap m z f a' q c' bs) {r : Nat} (hr : r < 256) {v6 : Value} (ho : W'.ownsRow (T + 1) 5 1 v6 (q + 1) (bs.map bval ++ [.int .u8 (r : Int)])) (hg : W.grownBy W' (Value.slice a' q c').ownBlock) :
    ∃ a6 c6, v6 = .slice a6 (q + 1) c6 ∧ ∃ bs', BkSt w (W'.setCell ⟨T, 2, none⟩ (.slice a6 (q + 1) c6)) b T a l cap m z f a6 (q + 1) c6 bs' := by
  obtain ⟨a6, c6, rfl⟩ := own_shape ho
  have e : Value.int .u8 (r : Int) = bval (UInt8.ofNat r) := by unfold bval; rw [UInt8.toNat_ofNat', Nat.mod_eq_of_lt (by omega)]
  rw [e] at ho
  exact ⟨a6, c6, rfl, _, s.app (x := UInt8.ofNat r) (by rw [List.map_append]; exact ho) hg⟩
end
set_option maxHeartbeats 8000000 in
theorem curBlock (b : Nat) (a : Option Addr) (l : List UInt8) (cap m : Nat) (z : Int) (g v : Nat) (w : World) (hl : l.length ≤ 1048576) (hm : m ≤ 1000000000000000000) (hg : g ≤ 6) (hv : v ≤ 8) (hz : -9223372036854775808 ≤ z ∧ z ≤ 9223372036854775807) (h : CurI w b a l cap m) :
    Calls Try.prog 45 #[.pointer (some ⟨b, 0, none⟩), .int .i64 z, .int .i64 g, .int .i64 v] w (DrawnBlk b a l cap (m + 1 + v) z v w) := by
  have hbl := h.lt
  have I0 := Lib.hid (h.below (below_box (Below.refl _ w) (.cells #[.int .i64 0, .int .i64 0, .slice none 0 0] 26)))
  have PW := Lib.hid (fun w => specPow16 g w (by omega))
  have hp := pow_16 hg
  obtain ⟨p, hpe⟩ : ∃ p, 2 ^ g = p := ⟨_, rfl⟩
  rw [hpe] at PW hp
  clear h hpe
  go_enter Try.func45, Try.ntmps45
  go_wp2_with fail
  refine (PW.out _).mono ?_
  rintro e w1 ⟨rfl, rfl⟩
  go_wp2_with fail
  refine (curPick b a l cap m p _ hl (by omega) (by omega) I0.out).mono ?_
  rintro e w1 ⟨f, rfl, hf, hI, hg1⟩
  have hf64 : f ≤ 64 := by omega
  have S0 := Lib.hid (BkSt.laid hbl hI hg1 z f)
  have hws : w.heap.size < w1.heap.size := by have := hg1.size; simp at this; omega
  clear hI hg1 I0 PW hf
  go_wp2_with fail
  generalize w1.heap.size = T at *
  go_loopg [] v (fun kk wr => ∃ (q : Nat) (a' : Option Addr) (c' : Nat) (bs : List UInt8), q ≤ v ∧ v - q = kk ∧ Hid (BkSt w wr b T a l cap (m + 1 + q) z f a' q c' bs))
  case atStart => exact ⟨0, _, _, _, Nat.zero_le _, rfl, S0⟩
  case round =>
    clear S0
    obtain ⟨q, a', c', bs, hq, hkk, S⟩ := hrel
    have t2 := cur_cell S.out.tb 2
    simp at t2
    have hlen := S.out.len
    by_cases hlt : q < v
    · have hltI : (q : Int) < (v : Int) := by omega
      have S1 := Lib.hid (S.out.below (belowN 1))
      have ID := Lib.hid S1.out.I
      clear S
      go_upto_region 3 with fail
      go_region_law (first
        | (refine step_callW wr.drew rfl (by rfl) 46 _ _ rfl _ (by kernel_rfl) Try.call46 _ (curPick b a l cap _ 256 _ hl (by omega) (by omega) ID.out) ?_; rintro e w4 ⟨r4, rfl, hr4, hI4, hg4⟩; refine ⟨_, rfl, ?_⟩; have hr4' : r4 < 256 := (by omega); have hw8 : IntKind.u8.wrap (r4 : Int) = (r4 : Int) := IntWalk.u8_in _ (by omega); have S4 := Lib.hid (S1.out.pick hI4 hg4); have S5 := Lib.hid (S4.out.below (below_box (Below.refl _ w4) (.cells #[.int .u8 (r4 : Int)] 5))); have u2 := cur_cell S4.out.tb 2; have u3 := cur_cell S5.out.tb 2; simp at u2 u3; clear hI4 hg4 S1 ID)
        | (refine step_app_row (by rfl) _ _ 22 rfl 5 (.int .u8 0) 1 Try.underlying22 Try.info5 rfl (T + 1) q (.slice a' q c') (bs.map bval) (by rfl) S5.out.ow (some ⟨w4.heap.size, 0, none⟩) 1 1 [.int .u8 (r4 : Int)] (by rfl) rfl (lit_rowB w4 [.int .u8 (r4 : Int)] 5) (by intro u hu; simp at hu; rcases hu with rfl; rfl) (by unfold maxLen; omega) (by omega) (by have := cur_lt S5.out.tb; omega) ?_; intro v6 w6 ho6 hg6; have k6 := cur_cell (S5.out.old hg6) 2; have f6 := cur_free (S5.out.old hg6) 2; obtain ⟨a6, c6, rfl, bs6, hS6⟩ := blk_app S5.out hr4' ho6 hg6; have S6 := Lib.hid hS6; simp at k6; clear ho6 hg6 hS6))
      all_goals (go_wp2_with fail; go_roundg (v - (q + 1)))
      all_goals first | omega | exact ⟨q + 1, _, _, _, by omega, rfl, Lib.hid (S6.out.more (by omega))⟩
    · have hge : ¬ (q : Int) < (v : Int) := by omega
      have hqv : q = v := by omega
      have t0 := cur_cell S.out.tb 0
      have t1 := cur_cell S.out.tb 1
      have r0 := cur_cell S.out.rb 0
      have r1 := cur_cell S.out.rb 1
      have r2 := cur_cell S.out.rb 2
      have f0 := cur_free S.out.rb 0
      have f1 := cur_free S.out.rb 1
      have f2 := cur_free S.out.rb 2
      simp at t0 t1 r0 r1 r2
      have SD := Lib.hid (S.out.done (by omega))
      rw [hqv] at SD
      clear S
      go_wp2
      exact bodyPost_ret (v := .agg #[.int .i64 z, .int .i64 (f : Int), .slice a' v c']) (by simp [results, Try.results45, go_sem, r0, r1, r2]) rfl (SD.out _ _ _)
end Go.Proofs.Ytmkgddbdkpkgpaa
end
