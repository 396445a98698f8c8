/- The drawn tape: what 'tape' and 'badTape' leave. -/
import Derived.Test.YtkecejimakclgaaCurN
import Derived.Test.YtkecejimakclgaaApp
import Derived.Test.YtkecejimakclgaaTapeU
import Derived.Deep.RegionLaw
import Derived.Deep.RegionHeld3
namespace Go.Proofs.Ytkecejimakclgaa
open Go.RowKit
set_option linter.unusedVariables false

/-- What a drawing of a tape leaves. -/
def DrawnTape (b : Nat) (a : Option Addr) (l : List UInt8) (cap m k : Nat) (w : World) (e : Ending) (w' : World) : Prop :=
  ∃ (c0 c1 : Value) (t : TapeM), e = .returned (.agg #[c0, c1]) ∧ TapeOwn w.heap.size w'.heap.size [c0, c1] t w' ∧ t.l.length ≤ k ∧ CurI w' b a l cap m ∧ w.grownBy w' (some b)
theorem IntSOwn.sup' {lo hi b i : Nat} {cs : List Value} {l : List Int} {w : World} (h : IntSOwn lo hi cs l w) (hb : b < lo ∨ hi ≤ b) (v : Value) : IntSOwn lo hi cs l (w.setCell ⟨b, i, none⟩ v) := by
  obtain ⟨a, cap, rfl, ho, hh⟩ := h
  refine ⟨a, cap, rfl, own_sup ho hh (fun k h1 h2 => ?_), hh⟩
  exact Below.heap_setCell w _ v k (by simp; omega)
set_option maxHeartbeats 2000000 in
theorem curTape (b : Nat) (a : Option Addr) (l : List UInt8) (cap m n : Nat) (w : World) (hl : l.length ≤ 1048576) (hm : m ≤ 1000000000000000000) (hn : n ≤ 10000) (h : CurI w b a l cap m) :
    Calls Try.prog 40 #[.pointer (some ⟨b, 0, none⟩), .int .i64 n] w
      (fun e w' => ∃ (c0 c1 : Value) (t : List Int), e = .returned (.agg #[c0, c1]) ∧ TapeOwn w.heap.size w'.heap.size [c0, c1] ⟨t, 0⟩ w' ∧ t.length = n ∧ (∀ z ∈ t, drawB z = true) ∧ CurI w' b a l cap (m + 3 * n) ∧ w.grownBy w' (some b)) := by
  have hbl := h.lt
  have hb0 : Below w.heap.size w ((w.alloc (.cells #[.slice none 0 0, .int .i64 0] 26)).alloc (.cells #[.slice none 0 0, .int .i64 0] 26)) := ((Below.refl _ _).alloc (Nat.le_refl _) _).alloc (by simp) _
  have I0 := Lib.hid (h.below hb0)
  have G0 := Lib.hid (below_grown hb0 (some b))
  clear h hb0
  go_enter Try.func40, Try.ntmps40
  go_wp2
  go_loopw [] (fun wr => ∃ (q : Nat) (ao : Option Addr) (c1 : Nat) (t : List Int), q ≤ n ∧ t.length = q ∧ (∀ z ∈ t, drawB z = true) ∧ wr.heap[w.heap.size + 1]? = some (.cells #[.slice ao q c1, .int .i64 0] 26 (0, 0)) ∧
      wr.heap[w.heap.size]? = some (.cells #[.slice none 0 0, .int .i64 0] 26 (0, 0)) ∧ wr.ownsRow (w.heap.size + 2) 3 1 (.slice ao q c1) q (t.map ival) ∧ CurI wr b a l cap (m + 3 * q) ∧ w.grownBy wr (some b))
    (fun wr => n - lenAt wr ⟨w.heap.size + 1, 0, none⟩)
  case atStart =>
    exact ⟨0, none, 0, [], Nat.zero_le _, rfl, fun z hz => by simp at hz, alloc_at _ _ _ (by simp), (alloc_old _ _ _ (by simp)).trans (alloc_at _ _ _ rfl), World.ownsRow_nil _ _ 3 1, I0.out, G0.out⟩
  case round =>
    clear I0 G0
    obtain ⟨q, ao, c1, t, hq, ht, hd, hT, hR, hown, hI, hg⟩ := hrel
    have cT0 : wr.cell? ⟨w.heap.size + 1, 0, none⟩ = some (.slice ao q c1) := cur_cell hT 0
    have HT := Lib.hid ht
    have HD := Lib.hid hd
    have KT := Lib.hid hT
    have KR := Lib.hid hR
    have OW := Lib.hid hown
    have II := Lib.hid hI
    have GG := Lib.hid hg
    have hsz : w.heap.size + 2 ≤ wr.heap.size := by have := cur_lt hT; omega
    clear ht hd hT hR hown hI hg
    by_cases hlt : q < n
    · have I1 := Lib.hid (II.out.below (belowN 1))
      have W := Lib.hid (curWide b a l cap (m + 3 * q) 65536 wr.drew hl (by omega) (by omega) (by omega) I1.out)
      go_wp2_with fail
      go_region_law (first
        | (refine step_call (by rfl) 45 #[.pointer (some ⟨b, 0, none⟩), .int .i64 65536] (by kernel_rfl) _ W.out ?_; rintro e w4 ⟨r, rfl, hr, hI4, hg4⟩; refine ⟨_, rfl, ?_⟩; have G4 := Lib.hid (grown_trans (drewN_grown wr 1 (some b)) hg4); have I4 := Lib.hid hI4; have cT4 : w4.cell? ⟨w.heap.size + 1, 0, none⟩ = some (.slice ao q c1) := hg4.cell cT0 (by simp; omega); have hs4 : w.heap.size + 2 ≤ w4.heap.size := Nat.le_trans hsz hg4.size; have cT5 : (w4.alloc (.cells #[.int .i64 (r : Int)] 3)).cell? ⟨w.heap.size + 1, 0, none⟩ = some (.slice ao q c1) := (World.cell?_alloc_lt _ _ _ (by simp; omega)).trans cT4; clear hg4 hI4)
        | (refine step_app_row (by rfl) _ _ _ (by rfl) 3 (.int .i64 0) 8 Try.underlying24 Try.info3 rfl (w.heap.size + 2) q (.slice ao q c1) (t.map ival) (by rfl) ((OW.out.kept G4.out (own_apart OW.out (by omega))).alloc _) (some ⟨w4.heap.size, 0, none⟩) 1 1 [.int .i64 r] (by rfl) rfl (row_one w4 (.int .i64 r) 3) (by simp [Value.oneCell']) (by unfold maxLen; omega) (by omega) (by simp; omega) ?_; intro v' w6 hown6 hg6; obtain ⟨a6, c6, rfl⟩ := own_shape hown6; have kT6 := kept_grown (kept_grown (kept_grown KT.out G4.out (by simp; omega)) (World.grownBy_alloc w4 (.cells #[.int .i64 r] 3) none) (by simp)) hg6 (own_ne OW.out (by omega)); have cT6 : w6.cell? ⟨w.heap.size + 1, 0, none⟩ = some (.slice ao q c1) := cur_cell kT6 0; have fT6 := cur_free kT6 0))
      all_goals
        have BB : Below w.heap.size w4 (w6.setCell ⟨w.heap.size + 1, 0, none⟩ (.slice a6 (q + 1) c6)) := (((Below.refl w.heap.size w4).alloc (by omega) (.cells #[.int .i64 (r : Int)] 3)).grown hg6 (by simp; omega) (fun g hg => by have := (OW.out.lt g hg).1; omega)).setCell (p := ⟨w.heap.size + 1, 0, none⟩) (by simp) _
        have kT7 := cur_set kT6 0 (.slice a6 (q + 1) c6)
        have kR7 : (w6.setCell ⟨w.heap.size + 1, 0, none⟩ (.slice a6 (q + 1) c6)).heap[w.heap.size]? = some (.cells #[.slice none 0 0, .int .i64 0] 26 (0, 0)) := (Below.heap_setCell w6 _ _ _ (by simp)).trans (kept_grown (kept_grown (kept_grown KR.out G4.out (by simp; omega)) (World.grownBy_alloc w4 (.cells #[.int .i64 (r : Int)] 3) none) (by simp)) hg6 (own_ne OW.out (by omega)))
        have o7 : (w6.setCell ⟨w.heap.size + 1, 0, none⟩ (.slice a6 (q + 1) c6)).ownsRow (w.heap.size + 2) 3 1 (.slice a6 (q + 1) c6) (q + 1) ((t ++ [(r : Int)]).map ival) := by
          rw [List.map_append]; exact ownsRow_setCell_below hown6 (by simp) _
        have i7 := I4.out.low BB hbl
        have g7 := grown_low (grown_trans GG.out G4.out) BB
        have hd7 : ∀ z ∈ t ++ [(r : Int)], drawB z = true := by
          intro z hz
          rcases List.mem_append.1 hz with h | h
          · exact HD.out z h
          · simp at h; subst h; exact draw_yes (by omega) (by omega)
        have X := Lib.hid (And.intro kT7 (And.intro kR7 (And.intro o7 (And.intro i7 (And.intro g7 hd7)))))
        have LA := Lib.hid (lenAt_eq cT0)
        have LB := Lib.hid (lenAt_eq (cur_cell kT7 0))
        clear BB kT7 kR7 o7 i7 g7 hd7 cT0 cT4 cT5 cT6 fT6 kT6 hg6 hown6
        go_wp2
        go_roundw
        case rel => exact ⟨q + 1, a6, c6, t ++ [(r : Int)], by omega, by simp [HT.out], X.out.2.2.2.2.2, X.out.1, X.out.2.1, X.out.2.2.1, X.out.2.2.2.1.more (by omega), X.out.2.2.2.2.1⟩
        case measure => rw [LA.out, LB.out]; omega
    · obtain rfl : q = n := by omega
      have cT1 : wr.cell? ⟨w.heap.size + 1, 1, none⟩ = some (.int .i64 0) := cur_cell KT.out 1
      have k0 : wr.cell? ⟨w.heap.size, 0, none⟩ = some (.slice none 0 0) := cur_cell KR.out 0
      have k1 : wr.cell? ⟨w.heap.size, 1, none⟩ = some (.int .i64 0) := cur_cell KR.out 1
      have f0 := cur_free KR.out 0
      have f1 := cur_free KR.out 1
      go_wp2
      have o7 := ownsRow_setCell_below (ownsRow_setCell_below OW.out (a := ⟨w.heap.size, 0, none⟩) (by simp) (.slice ao q c1)) (a := ⟨w.heap.size, 1, none⟩) (by simp) (.int .i64 0)
      have BB : Below w.heap.size wr ((wr.setCell ⟨w.heap.size, 0, none⟩ (.slice ao q c1)).setCell ⟨w.heap.size, 1, none⟩ (.int .i64 0)) := ((Below.refl w.heap.size wr).setCell (p := ⟨w.heap.size, 0, none⟩) (Nat.le_refl _) _).setCell (p := ⟨w.heap.size, 1, none⟩) (Nat.le_refl _) _
      exact bodyPost_ret (v := .agg #[.slice ao q c1, .int .i64 0]) (by simp [results, Try.results40, go_sem, k0, k1]) rfl
        ⟨_, _, t, rfl, ⟨_, rfl, IntSOwn.mk (own_base o7 (by omega))⟩, HT.out, HD.out, II.out.low BB hbl, grown_low GG.out BB⟩
theorem two_at (z y : Int) (r : Nat) (h : r < 2 ∨ r = 0) : ∃ x : Int, (#[.int .i64 z, .int .i64 y] : Array Value)[r]? = some (.int .i64 x) := by
  rcases (show r = 0 ∨ r = 1 from by omega) with rfl | rfl
  · exact ⟨z, rfl⟩
  · exact ⟨y, rfl⟩
/-- While 'badTape' runs: the tape lies in block T, the answer's place is the first new block, the draws are the call's own. -/
structure BadSt (w W : World) (b T : Nat) (a : Option Addr) (l : List UInt8) (cap m : Nat) (ao : Option Addr) (n c1 : Nat) (t : List Int) (z : Int) : Prop where
  tb : W.heap[T]? = some (.cells #[.slice ao n c1, .int .i64 z] 26 (0, 0))
  rb : W.heap[w.heap.size]? = some (.cells #[.slice none 0 0, .int .i64 0] 26 (0, 0))
  O : W.ownsRow (w.heap.size + 1) 3 1 (.slice ao n c1) n (t.map ival)
  h : w.heap.size < T ∧ b < w.heap.size
  I : CurI W b a l cap m
  G : w.grownBy W (some b)
theorem BadSt.pick {w W W' : World} {b T : Nat} {a : Option Addr} {l : List UInt8} {cap m m' : Nat} {ao : Option Addr} {n c1 : Nat} {t : List Int} {z : Int} (s : BadSt w W b T a l cap m ao n c1 t z) (hI : CurI W' b a l cap m') (hg : W.grownBy W' (some b)) : BadSt w W' b T a l cap m' ao n c1 t z := by
  obtain ⟨h1, h2⟩ := s.h
  exact ⟨kept_grown s.tb hg (by simp; omega), kept_grown s.rb hg (by simp; omega), s.O.kept hg (own_apart s.O (by omega)), s.h, hI, grown_trans s.G hg⟩
theorem BadSt.below {w W W' : World} {b T : Nat} {a : Option Addr} {l : List UInt8} {cap m : Nat} {ao : Option Addr} {n c1 : Nat} {t : List Int} {z : Int} (s : BadSt w W b T a l cap m ao n c1 t z) (hb : Below W.heap.size W W') : BadSt w W' b T a l cap m ao n c1 t z :=
  ⟨kept_block s.tb hb, kept_block s.rb hb, own_below s.O hb, s.h, s.I.below hb, grown_trans s.G (below_grown hb _)⟩
theorem BadSt.setAt {w W : World} {b T : Nat} {a : Option Addr} {l : List UInt8} {cap m : Nat} {ao : Option Addr} {n c1 : Nat} {t : List Int} {z : Int} (s : BadSt w W b T a l cap m ao n c1 t z) (z' : Int) : BadSt w (W.setCell ⟨T, 1, none⟩ (.int .i64 z')) b T a l cap m ao n c1 t z' := by
  obtain ⟨h1, h2⟩ := s.h
  have BB : Below w.heap.size W (W.setCell ⟨T, 1, none⟩ (.int .i64 z')) := (Below.refl w.heap.size W).setCell (p := ⟨T, 1, none⟩) (by simp; omega) _
  exact ⟨cur_set s.tb 1 _, (Below.heap_setCell W _ _ _ (by simp; omega)).trans s.rb, own_set s.O (own_other s.O s.tb (by decide)) _, s.h, s.I.low BB h2, grown_low s.G BB⟩
theorem BadSt.setDraws {w W : World} {b T : Nat} {a : Option Addr} {l : List UInt8} {cap m : Nat} {ao ao' : Option Addr} {n n' c1 c1' : Nat} {t t' : List Int} {z : Int} (s : BadSt w W b T a l cap m ao n c1 t z)
    (ho : W.ownsRow (w.heap.size + 1) 3 1 (.slice ao' n' c1') n' (t'.map ival)) : BadSt w (W.setCell ⟨T, 0, none⟩ (.slice ao' n' c1')) b T a l cap m ao' n' c1' t' z := by
  obtain ⟨h1, h2⟩ := s.h
  have BB : Below w.heap.size W (W.setCell ⟨T, 0, none⟩ (.slice ao' n' c1')) := (Below.refl w.heap.size W).setCell (p := ⟨T, 0, none⟩) (by simp; omega) _
  exact ⟨cur_set s.tb 0 _, (Below.heap_setCell W _ _ _ (by simp; omega)).trans s.rb, own_set ho (own_other ho s.tb (by decide)) _, s.h, s.I.low BB h2, grown_low s.G BB⟩
theorem bad_app {w W : World} {b T : Nat} {a : Option Addr} {l : List UInt8} {cap m : Nat} {ao ao' : Option Addr} {n n' c1 c1' : Nat} {t' : List Int} {z : Int} (tb : W.heap[T]? = some (.cells #[.slice ao n c1, .int .i64 z] 26 (0, 0)))
    (rb : W.heap[w.heap.size]? = some (.cells #[.slice none 0 0, .int .i64 0] 26 (0, 0))) (ho : W.ownsRow (w.heap.size + 1) 3 1 (.slice ao' n' c1') n' (t'.map ival)) (h : w.heap.size < T ∧ b < w.heap.size) (I : CurI W b a l cap m) (G : w.grownBy W (some b)) :
    BadSt w (W.setCell ⟨T, 0, none⟩ (.slice ao' n' c1')) b T a l cap m ao' n' c1' t' z := by
  have BB : Below w.heap.size W (W.setCell ⟨T, 0, none⟩ (.slice ao' n' c1')) := (Below.refl w.heap.size W).setCell (p := ⟨T, 0, none⟩) (by simp; omega) _
  exact ⟨cur_set tb 0 _, (Below.heap_setCell W _ _ _ (by simp; omega)).trans rb, own_set ho (own_other ho tb (by decide)) _, h, I.low BB h.2, grown_low G BB⟩
theorem BadSt.more {w W : World} {b T : Nat} {a : Option Addr} {l : List UInt8} {cap m m' : Nat} {ao : Option Addr} {n c1 : Nat} {t : List Int} {z : Int} (s : BadSt w W b T a l cap m ao n c1 t z) (h : m ≤ m') : BadSt w W b T a l cap m' ao n c1 t z := ⟨s.tb, s.rb, s.O, s.h, s.I.more h, s.G⟩
theorem BadSt.done {w W : World} {b T : Nat} {a : Option Addr} {l : List UInt8} {cap m k : Nat} {ao : Option Addr} {n c1 : Nat} {t : List Int} {z : Int} (s : BadSt w W b T a l cap m ao n c1 t z) (hk : n ≤ k) :
    DrawnTape b a l cap m k w (.returned (.agg #[.slice ao n c1, .int .i64 z])) ((W.setCell ⟨w.heap.size, 0, none⟩ (.slice ao n c1)).setCell ⟨w.heap.size, 1, none⟩ (.int .i64 z)) := by
  obtain ⟨h1, h2⟩ := s.h
  have BB : Below w.heap.size W ((W.setCell ⟨w.heap.size, 0, none⟩ (.slice ao n c1)).setCell ⟨w.heap.size, 1, none⟩ (.int .i64 z)) := ((Below.refl w.heap.size W).setCell (p := ⟨w.heap.size, 0, none⟩) (Nat.le_refl _) _).setCell (p := ⟨w.heap.size, 1, none⟩) (Nat.le_refl _) _
  have o2 := ownsRow_setCell_below (ownsRow_setCell_below s.O (a := ⟨w.heap.size, 0, none⟩) (by simp) (.slice ao n c1)) (a := ⟨w.heap.size, 1, none⟩) (by simp) (.int .i64 z)
  have hn : t.length = n := by simpa using s.O.1
  exact ⟨_, _, ⟨t, z⟩, rfl, ⟨_, rfl, IntSOwn.mk (own_base o2 (by omega))⟩, by simp only; omega, s.I.low BB h2, grown_low s.G BB⟩

set_option maxHeartbeats 4000000 in
theorem curBadTape (b : Nat) (a : Option Addr) (l : List UInt8) (cap m : Nat) (w : World) (hl : l.length ≤ 1048576) (hm : m ≤ 100000000000000000) (h : CurI w b a l cap m) :
    Calls Try.prog 30 #[.pointer (some ⟨b, 0, none⟩)] w (DrawnTape b a l cap (m + 130) 4001 w) := by
  have hbl := h.lt
  have hb0 : Below w.heap.size w (w.alloc (.cells #[.slice none 0 0, .int .i64 0] 26)) := (Below.refl _ _).alloc (Nat.le_refl _) _
  have I0 := Lib.hid (h.below hb0)
  have G0 := Lib.hid (below_grown hb0 (some b))
  have K0 := Lib.hid (alloc_at w (.cells #[.slice none 0 0, .int .i64 0] 26) _ rfl)
  clear h hb0
  go_enter Try.func30, Try.ntmps30
  go_wp2_with fail
  refine (curSize b a l cap m 40 _ hl (by omega) (by omega) I0.out).mono ?_
  rintro e w1 ⟨q, rfl, hq, hI1, hg1⟩
  have hq40 : q ≤ 40 := by omega
  have I1 := Lib.hid hI1
  have G1 := Lib.hid (grown_trans G0.out hg1)
  have K1 := Lib.hid (kept_grown K0.out hg1 (by simp; omega))
  have s1 : w.heap.size + 1 ≤ w1.heap.size := cur_lt K1.out
  clear hI1 hg1 I0 G0 K0
  go_wp2_with fail
  refine (curTape b a l cap _ q _ hl (by omega) (by omega) I1.out).mono ?_
  rintro e w2 ⟨x0, x1, t, rfl, ho, ht, hd, hI2, hg2⟩
  obtain ⟨ao, n, c1, z0, rfl, rfl⟩ := ho.shape
  obtain ⟨cc, hcc, ho⟩ := ho
  simp at hcc
  obtain ⟨rfl, rfl⟩ := hcc
  obtain ⟨a', c', e1, ho, _⟩ := ho
  simp at e1
  obtain ⟨rfl, rfl, rfl⟩ := e1
  have s2 : w1.heap.size ≤ w2.heap.size := hg2.size
  have hn40 : t.length ≤ 40 := by omega
  have S2 : Hid (BadSt w (w2.alloc (.cells #[.slice ao t.length c1, .int .i64 0] 26)) b w2.heap.size a l cap (m + 1 + 3 * q) ao t.length c1 t 0) := Lib.hid
    ⟨alloc_at _ _ _ rfl, kept_grown (kept_grown K1.out hg2 (by simp; omega)) (World.grownBy_alloc w2 _ none) (by simp), own_base (ho.alloc _) (by omega), ⟨by omega, hbl⟩, hI2.below ((Below.refl _ _).alloc (Nat.le_refl _) _), grown_trans (grown_trans G1.out hg2) (World.grownBy_alloc w2 _ (some b))⟩
  clear hI2 hg2 I1 G1 K1 ho ht hd
  generalize t.length = n at *
  go_wp2_with fail
  refine (curPick b a l cap _ (n + 1) _ hl (by omega) (by omega) S2.out.I).mono ?_
  rintro e w3 ⟨r3, rfl, hr3, hI3, hg3⟩
  have S3 := S2.out.pick hI3 hg3
  have f1 := cur_free S3.tb 1
  have cT1 : w3.cell? ⟨w2.heap.size, 1, none⟩ = some (.int .i64 0) := cur_cell S3.tb 1
  have S3' := Lib.hid (S3.setAt r3)
  clear hI3 hg3 S3 S2
  generalize hW : w3.setCell ⟨w2.heap.size, 1, none⟩ (.int .i64 r3) = W3 at *
  go_wp2_with fail
  clear f1 cT1 hW
  refine (curPick b a l cap _ 9 _ hl (by omega) (by omega) S3'.out.I).mono ?_
  rintro e w4 ⟨r4, rfl, hr4, hI4, hg4⟩
  have S4 := Lib.hid (S3'.out.pick hI4 hg4)
  clear hI4 hg4 S3'
  by_cases h0 : r4 = 0
  · subst h0
    have cT0 : w4.cell? ⟨w2.heap.size, 0, none⟩ = some (.slice ao n c1) := cur_cell S4.out.tb 0
    have RW := Lib.hid (curRaw b a l cap _ w4.drew hl (by omega) (S4.out.below (belowN 1)).I)
    go_wp2_with fail
    go_region_law (first
      | (refine step_call (by rfl) 43 #[.pointer (some ⟨b, 0, none⟩)] (by kernel_rfl) _ RW.out ?_; rintro e w5 ⟨z, rfl, hz, hI5, hg5⟩; refine ⟨_, rfl, ?_⟩; have S5 := Lib.hid ((S4.out.below (belowN 1)).pick hI5 hg5); have cT5 : w5.cell? ⟨w2.heap.size, 0, none⟩ = some (.slice ao n c1) := cur_cell S5.out.tb 0; have hb5 : b < w5.heap.size := hI5.lt; have SB := Lib.hid (S5.out.below (W' := w5.alloc (.cells #[.int .i64 z, .int .i64 (n : Int)] 3)) ((Below.refl _ _).alloc (Nat.le_refl _) _)); have PA := Lib.hid (curPick b a l cap _ 2 _ hl (by omega) (by omega) S5.out.I); have PB := Lib.hid (curPick b a l cap _ 2 _ hl (by omega) (by omega) SB.out.I); clear hI5 hg5)
      | (refine step_call (by rfl) 42 #[.pointer (some ⟨b, 0, none⟩), .int .i64 2] (by kernel_rfl) _ PB.out ?_; rintro e w6 ⟨r6, rfl, hr6, hI6, hg6⟩; refine ⟨_, rfl, ?_⟩; obtain ⟨x, hx⟩ := two_at z n r6 hr6; have hr62 : r6 < 2 := (by omega); have hr63 : (r6 : Int) < 2 := (by omega); have hr60 : (0 : Int) ≤ (r6 : Int) := (by omega); have hq6 : w6.cell? ⟨w5.heap.size, r6, none⟩ = some (.int .i64 x) := hg6.cell ((lit_new w5 #[.int .i64 z, .int .i64 (n : Int)] 3 r6).trans hx) (by simp; omega); have S6 := SB.out.pick hI6 hg6; have pT0 : w6.cell? ⟨w2.heap.size, 0, none⟩ = some (.slice ao n c1) := cur_cell S6.tb 0; have pR0 : w6.cell? ⟨w.heap.size, 0, none⟩ = some (.slice none 0 0) := cur_cell S6.rb 0; have pR1 : w6.cell? ⟨w.heap.size, 1, none⟩ = some (.int .i64 0) := cur_cell S6.rb 1; have pf0 := cur_free S6.rb 0; have pf1 := cur_free S6.rb 1; have cT61 : w6.cell? ⟨w2.heap.size, 1, none⟩ = some (.int .i64 r3) := cur_cell S6.tb 1; have fT61 := cur_free S6.tb 1; have SF := Lib.hid (S6.setAt x); clear hI6 hg6 hx S6)
      | (refine step_call (by rfl) 42 #[.pointer (some ⟨b, 0, none⟩), .int .i64 2] (by kernel_rfl) _ PA.out ?_; rintro e w6 ⟨r6, rfl, hr6, hI6, hg6⟩; refine ⟨_, rfl, ?_⟩; obtain ⟨x, hx⟩ := two_at z n r6 hr6; have hr62 : r6 < 2 := (by omega); have hr63 : (r6 : Int) < 2 := (by omega); have hr60 : (0 : Int) ≤ (r6 : Int) := (by omega); have hq6 : (w6.alloc (.cells #[.int .i64 z, .int .i64 (n : Int)] 3)).cell? ⟨w6.heap.size, r6, none⟩ = some (.int .i64 x) := (lit_new w6 #[.int .i64 z, .int .i64 (n : Int)] 3 r6).trans hx; have S6 := S5.out.pick hI6 hg6; have cT60 : w6.cell? ⟨w2.heap.size, 0, none⟩ = some (.slice ao n c1) := cur_cell S6.tb 0; have S7 := S6.below (W' := w6.alloc (.cells #[.int .i64 z, .int .i64 (n : Int)] 3)) ((Below.refl _ _).alloc (Nat.le_refl _) _); have pT0 : (w6.alloc (.cells #[.int .i64 z, .int .i64 (n : Int)] 3)).cell? ⟨w2.heap.size, 0, none⟩ = some (.slice ao n c1) := cur_cell S7.tb 0; have pR0 : (w6.alloc (.cells #[.int .i64 z, .int .i64 (n : Int)] 3)).cell? ⟨w.heap.size, 0, none⟩ = some (.slice none 0 0) := cur_cell S7.rb 0; have pR1 : (w6.alloc (.cells #[.int .i64 z, .int .i64 (n : Int)] 3)).cell? ⟨w.heap.size, 1, none⟩ = some (.int .i64 0) := cur_cell S7.rb 1; have pf0 := cur_free S7.rb 0; have pf1 := cur_free S7.rb 1; have cT61 : (w6.alloc (.cells #[.int .i64 z, .int .i64 (n : Int)] 3)).cell? ⟨w2.heap.size, 1, none⟩ = some (.int .i64 r3) := cur_cell S7.tb 1; have fT61 := cur_free S7.tb 1; have SF := Lib.hid (S7.setAt x); clear hI6 hg6 hx S6 S7))
    all_goals
      have hTR : w.heap.size < w2.heap.size := S4.out.h.1
      have hTR2 : ¬ w2.heap.size = w.heap.size := by omega
      have hTR3 : ¬ w.heap.size = w2.heap.size := by omega
      clear hq6
      go_wp2
      exact bodyPost_ret (v := .agg #[.slice ao n c1, .int .i64 x]) (by simp [results, Try.results30, go_sem, pR0, pR1]) rfl ((SF.out.more (by omega)).done (by omega))
  have hr0 : ((r4 : Int) == 0) = false := by simp; omega
  by_cases h1 : r4 = 1
  · subst h1
    have cT0 : w4.cell? ⟨w2.heap.size, 0, none⟩ = some (.slice ao n c1) := cur_cell S4.out.tb 0
    have RW := Lib.hid (curRaw b a l cap _ w4.drew hl (by omega) (S4.out.below (belowN 1)).I)
    go_wp2_with fail
    go_region_law (first
      | (refine step_call (by rfl) 43 #[.pointer (some ⟨b, 0, none⟩)] (by kernel_rfl) _ RW.out ?_; rintro e w5 ⟨z, rfl, hz, hI5, hg5⟩; refine ⟨_, rfl, ?_⟩; have S5 := Lib.hid ((S4.out.below (belowN 1)).pick hI5 hg5); have cT5 : w5.cell? ⟨w2.heap.size, 0, none⟩ = some (.slice ao n c1) := cur_cell S5.out.tb 0; have SB := Lib.hid (S5.out.below (W' := w5.alloc (.cells #[.int .i64 z] 3)) ((Below.refl _ _).alloc (Nat.le_refl _) _)); have cTB : (w5.alloc (.cells #[.int .i64 z] 3)).cell? ⟨w2.heap.size, 0, none⟩ = some (.slice ao n c1) := cur_cell SB.out.tb 0; have hs5 : w.heap.size + 1 ≤ w5.heap.size := cur_lt S5.out.rb; clear hI5 hg5)
      | (refine step_app_row (by rfl) _ _ _ (by rfl) 3 (.int .i64 0) 8 Try.underlying24 Try.info3 rfl (w.heap.size + 1) n (.slice ao n c1) (t.map ival) (by rfl) SB.out.O (some ⟨w5.heap.size, 0, none⟩) 1 1 [.int .i64 z] (by rfl) rfl (row_one w5 (.int .i64 z) 3) (by simp [Value.oneCell']) (by unfold maxLen; omega) (by omega) (by simp; omega) ?_; intro v' w6 hown6 hg6; obtain ⟨a6, c6, rfl⟩ := own_shape hown6; have kT6 := kept_grown SB.out.tb hg6 (own_other SB.out.O SB.out.tb (by decide)); have kR6 := kept_grown SB.out.rb hg6 (own_other SB.out.O SB.out.rb (by decide)); have BW : Below w.heap.size (w5.alloc (.cells #[.int .i64 z] 3)) w6 := (Below.refl _ _).grown hg6 (by simp; omega) (fun g hg => (by have := (SB.out.O.lt g hg).1; omega)); have hmap : t.map ival ++ [.int .i64 z] = (t ++ [z]).map ival := (by rw [List.map_append]; rfl); rw [hmap] at hown6; have cT6 : w6.cell? ⟨w2.heap.size, 0, none⟩ = some (.slice ao n c1) := cur_cell kT6 0; have pT1 : w6.cell? ⟨w2.heap.size, 1, none⟩ = some (.int .i64 r3) := cur_cell kT6 1; have pR0 : w6.cell? ⟨w.heap.size, 0, none⟩ = some (.slice none 0 0) := cur_cell kR6 0; have pR1 : w6.cell? ⟨w.heap.size, 1, none⟩ = some (.int .i64 0) := cur_cell kR6 1; have pf0 := cur_free kR6 0; have pf1 := cur_free kR6 1; have fT0 := cur_free kT6 0; have SF := Lib.hid (bad_app kT6 kR6 hown6 SB.out.h (SB.out.I.low BW SB.out.h.2) (grown_low SB.out.G BW)); clear kT6 kR6 BW hmap hown6 hg6))
    all_goals
      have hTR : w.heap.size < w2.heap.size := S4.out.h.1
      have hTR2 : ¬ w2.heap.size = w.heap.size := by omega
      have hTR3 : ¬ w.heap.size = w2.heap.size := by omega
      go_wp2
      exact bodyPost_ret (v := .agg #[.slice a6 (n + 1) c6, .int .i64 r3]) (by simp [results, Try.results30, go_sem, pR0, pR1]) rfl ((SF.out.more (by omega)).done (by omega))
  have hr1 : ((r4 : Int) == 1) = false := by simp; omega
  by_cases h2 : r4 = 2
  · subst h2
    go_wp2_with fail
    refine (curOnce b a l cap _ 4 _ hl (by omega) (by omega) S4.out.I).mono ?_
    rintro e w5 ⟨z, rfl, hI5, hg5⟩
    have S5 := Lib.hid (S4.out.pick hI5 hg5)
    clear hI5 hg5
    cases z
    · have cT0 : w5.cell? ⟨w2.heap.size, 0, none⟩ = some (.slice ao n c1) := cur_cell S5.out.tb 0
      have cT1 : w5.cell? ⟨w2.heap.size, 1, none⟩ = some (.int .i64 r3) := cur_cell S5.out.tb 1
      have k0 : w5.cell? ⟨w.heap.size, 0, none⟩ = some (.slice none 0 0) := cur_cell S5.out.rb 0
      have k1 : w5.cell? ⟨w.heap.size, 1, none⟩ = some (.int .i64 0) := cur_cell S5.out.rb 1
      have f0 := cur_free S5.out.rb 0
      have f1 := cur_free S5.out.rb 1
      go_wp2
      exact bodyPost_ret (v := .agg #[.slice ao n c1, .int .i64 r3]) (by simp [results, Try.results30, go_sem, k0, k1]) rfl ((S5.out.more (by omega)).done (by omega))
    · go_wp2_with fail
      refine (curPick b a l cap _ 2 _ hl (by omega) (by omega) S5.out.I).mono ?_
      rintro e w6 ⟨r6, rfl, hr6, hI6, hg6⟩
      have hr62 : r6 < 2 := by omega
      have S6 := Lib.hid (S5.out.pick hI6 hg6)
      clear hI6 hg6
      obtain ⟨i0, hi, hz0, hz1, hz2⟩ := info_parts Try.info3
      have HI := Lib.hid (And.intro hi (And.intro hz0 (And.intro hz1 hz2)))
      clear hi hz0 hz1 hz2
      go_wp2_with (at_make; (refine wpList_make_full _ rfl _ _ 24 rfl w6.heap.size 3 i0 (.int .i64 0) 1 Try.underlying24 HI.out.1 HI.out.2.1 HI.out.2.2.1 .i64 .i64 _ _ (4000 + r6) rfl rfl (by omega) (by omega) (by rw [HI.out.2.2.2]; omega) (by unfold maxLen; omega) (Nat.le_refl _) ?_))
      intro w7 hown hgr
      have S7 := S6.out.below (grown_below hgr)
      have hs6 : w.heap.size + 1 ≤ w6.heap.size := cur_lt S6.out.rb
      rw [toList_madeCells_one] at hown
      have hown' : w7.ownsRow (w.heap.size + 1) 3 1 (.slice (some ⟨w6.heap.size, 0, none⟩) (4000 + r6) (4000 + r6)) (4000 + r6) ((List.replicate (4000 + r6) (0 : Int)).map ival) := by
        rw [List.map_replicate]; exact own_base hown hs6
      have SF := Lib.hid (S7.setDraws hown')
      have cT0 : w7.cell? ⟨w2.heap.size, 0, none⟩ = some (.slice ao n c1) := cur_cell S7.tb 0
      have cT1 : w7.cell? ⟨w2.heap.size, 1, none⟩ = some (.int .i64 r3) := cur_cell S7.tb 1
      have k0 : w7.cell? ⟨w.heap.size, 0, none⟩ = some (.slice none 0 0) := cur_cell S7.rb 0
      have k1 : w7.cell? ⟨w.heap.size, 1, none⟩ = some (.int .i64 0) := cur_cell S7.rb 1
      have f0 := cur_free S7.rb 0
      have f1 := cur_free S7.rb 1
      have fT := cur_free S7.tb 0
      have hTR : w.heap.size < w2.heap.size := S4.out.h.1
      have hTR2 : ¬ w2.heap.size = w.heap.size := by omega
      have hTR3 : ¬ w.heap.size = w2.heap.size := by omega
      clear hown hown' hgr S7
      generalize hN : 4000 + r6 = N at *
      have hN2 : N ≤ 4001 := by omega
      clear hN
      go_wp2
      exact bodyPost_ret (v := .agg #[.slice (some ⟨w6.heap.size, 0, none⟩) N N, .int .i64 r3]) (by simp [results, Try.results30, go_sem, k0, k1]) rfl ((SF.out.more (by omega)).done (by omega))
  have hr2 : ((r4 : Int) == 2) = false := by simp; omega
  have cT0 : w4.cell? ⟨w2.heap.size, 0, none⟩ = some (.slice ao n c1) := cur_cell S4.out.tb 0
  have cT1 : w4.cell? ⟨w2.heap.size, 1, none⟩ = some (.int .i64 r3) := cur_cell S4.out.tb 1
  have k0 : w4.cell? ⟨w.heap.size, 0, none⟩ = some (.slice none 0 0) := cur_cell S4.out.rb 0
  have k1 : w4.cell? ⟨w.heap.size, 1, none⟩ = some (.int .i64 0) := cur_cell S4.out.rb 1
  have f0 := cur_free S4.out.rb 0
  have f1 := cur_free S4.out.rb 1
  go_wp2
  exact bodyPost_ret (v := .agg #[.slice ao n c1, .int .i64 r3]) (by simp [results, Try.results30, go_sem, k0, k1]) rfl ((S4.out.more (by omega)).done (by omega))
end Go.Proofs.Ytkecejimakclgaa
