/- The cursor over a code that the laws draw their inputs from: what 'pick' leaves. -/
import Derived.Test.YtmdgigaplfbcpaaBase
import Derived.Test.YtmdgigaplfbcpaaBytes
import Derived.Deep.QuietTactic
import Derived.BigQuiet
namespace Go.Proofs.Ytmdgigaplfbcpaa
open Go.RowKit
set_option linter.unusedVariables false

/-- The cursor lies whole in block b, over the code l; at most m numbers have been taken. -/
structure CurI (w : World) (b : Nat) (a : Option Addr) (l : List UInt8) (cap m : Nat) : Prop where
  blk : ∃ at' seed : Nat, w.heap[b]? = some (.cells #[.slice a l.length cap, .int .i64 at', .int .i64 seed] 54 (0, 0)) ∧ at' ≤ m ∧ seed ≤ 65536
  row : Row w a (l.map bval)
  lo : l = [] ∨ ∀ x, a = some x → x.block < b

theorem cur_cell {w : World} {b : Nat} {cs : Array Value} {t : TypeId} (h : w.heap[b]? = some (.cells cs t (0, 0))) (i : Nat) : w.cell? ⟨b, i, none⟩ = cs[i]? := by
  unfold World.cell?; rw [h]; rfl
theorem cur_free {w : World} {b : Nat} {cs : Array Value} {t : TypeId} (h : w.heap[b]? = some (.cells cs t (0, 0))) (i : Nat) : w.frozen? ⟨b, i, none⟩ = false := by
  unfold World.frozen?; simp [h]
theorem cur_lt {w : World} {b : Nat} {o : Obj} (h : w.heap[b]? = some o) : b < w.heap.size := (Array.getElem?_eq_some_iff.1 h).1
theorem Row.grown {w w' : World} {a : Option Addr} {xs : List Value} {b : Nat} (h : Row w a xs) (hg : w.grownBy w' (some b)) (hne : xs = [] ∨ ∀ x, a = some x → x.block < b) : Row w' a xs := by
  rcases h with h | ⟨c, off, rfl, h⟩
  · exact .inl h
  · rcases hne with e | hne
    · exact .inl e
    refine .inr ⟨c, off, rfl, fun i hi => ?_⟩
    have h1 := h i hi
    rw [List.getElem?_eq_getElem hi] at h1 ⊢
    exact hg.cell h1 (by have := hne _ rfl; simp at this ⊢; omega)
theorem Row.low {w w' : World} {a : Option Addr} {xs : List Value} {b B : Nat} (h : Row w a xs) (hg : Below B w w') (hne : xs = [] ∨ ∀ x, a = some x → x.block < b) (hB : b ≤ B) : Row w' a xs := by
  rcases h with h | ⟨c, off, rfl, h⟩
  · exact .inl h
  · rcases hne with e | hne
    · exact .inl e
    refine .inr ⟨c, off, rfl, fun i hi => ?_⟩
    rw [← h i hi]
    exact hg.cell (by have := hne _ rfl; simp at this ⊢; omega)
theorem lo_map {a : Option Addr} {l : List UInt8} {b : Nat} (h : l = [] ∨ ∀ x, a = some x → x.block < b) : l.map bval = [] ∨ ∀ x, a = some x → x.block < b := by
  rcases h with h | h
  · exact .inl (by rw [h]; rfl)
  · exact .inr h
theorem lo_at {a : Option Addr} {l : List UInt8} {b : Nat} (h : l = [] ∨ ∀ x, a = some x → x.block < b) (hl : 0 < l.length) {x : Addr} (e : a = some x) : x.block ≠ b := by
  rcases h with h | h
  · subst h; simp at hl
  · have := h x e; omega
theorem CurI.low {w w' : World} {b B : Nat} {a : Option Addr} {l : List UInt8} {cap m : Nat} (h : CurI w b a l cap m) (hb : Below B w w') (hB : b < B) : CurI w' b a l cap m := by
  obtain ⟨at', seed, hk, h1, h2⟩ := h.blk
  exact ⟨⟨at', seed, (hb.block b hB).trans hk, h1, h2⟩, h.row.low hb (lo_map h.lo) (Nat.le_of_lt hB), h.lo⟩
theorem CurI.below {w w' : World} {b : Nat} {a : Option Addr} {l : List UInt8} {cap m : Nat} (h : CurI w b a l cap m) (hb : Below w.heap.size w w') : CurI w' b a l cap m := by
  obtain ⟨at', seed, hk, h1, h2⟩ := h.blk
  exact ⟨⟨at', seed, (hb.block b (cur_lt hk)).trans hk, h1, h2⟩, h.row.below hb, h.lo⟩
theorem CurI.more {w : World} {b : Nat} {a : Option Addr} {l : List UInt8} {cap m m' : Nat} (h : CurI w b a l cap m) (hm : m ≤ m') : CurI w b a l cap m' := by
  obtain ⟨at', seed, hk, h1, h2⟩ := h.blk
  exact ⟨⟨at', seed, hk, Nat.le_trans h1 hm, h2⟩, h.row, h.lo⟩
theorem CurI.lt {w : World} {b : Nat} {a : Option Addr} {l : List UInt8} {cap m : Nat} (h : CurI w b a l cap m) : b < w.heap.size := by
  obtain ⟨_, _, hk, _⟩ := h.blk
  exact cur_lt hk

/-- What 'pick' leaves: a number below n; only the cursor's block has turned. -/
def PickPost (b : Nat) (a : Option Addr) (l : List UInt8) (cap m n : Nat) (w : World) (e : Ending) (w' : World) : Prop :=
  ∃ r : Nat, e = .returned (.int .i64 r) ∧ (r < n ∨ r = 0) ∧ CurI w' b a l cap (m + 1) ∧ w.grownBy w' (some b)

theorem cur_set {w : World} {b : Nat} {cs : Array Value} {t : TypeId} (h : w.heap[b]? = some (.cells cs t (0, 0))) (i : Nat) (v : Value) :
    (w.setCell ⟨b, i, none⟩ v).heap[b]? = some (.cells (cs.setIfInBounds i v) t (0, 0)) := by
  simp [World.setCell, Array.getElem?_modify, h]
theorem set_grown (w : World) (b i : Nat) (v : Value) : w.grownBy (w.setCell ⟨b, i, none⟩ v) (some b) :=
  ⟨rfl, rfl, rfl, by simp [World.setCell], fun k _ hk => Below.heap_setCell w _ v k (by intro e; subst e; exact hk rfl)⟩
theorem drewN_grown (w : World) (n : Nat) (row : Option Nat) : w.grownBy (w.drewN n) row := ⟨rfl, rfl, rfl, Nat.le_refl _, fun _ _ _ => rfl⟩

theorem pick_end {w' : World} {b : Nat} {a : Option Addr} {l : List UInt8} {cap m at' seed : Nat} (hk : w'.heap[b]? = some (.cells #[.slice a l.length cap, .int .i64 at', .int .i64 seed] 54 (0, 0)))
    (hr : Row w' a (l.map bval)) (hne : l = [] ∨ ∀ x, a = some x → x.block < b) (ha : at' ≤ m) (hs : seed ≤ 65536) : CurI (w'.setCell ⟨b, 1, none⟩ (.int .i64 ((at' : Int) + 1))) b a l cap (m + 1) :=
  ⟨⟨at' + 1, seed, by rw [cur_set hk]; rfl, by omega, hs⟩, hr.grown (set_grown _ _ _ _) (lo_map hne), hne⟩

set_option maxHeartbeats 1000000 in
theorem curPick (b : Nat) (a : Option Addr) (l : List UInt8) (cap m n : Nat) (w : World) (hl : l.length ≤ 1048576) (hm : m ≤ 4611686018427387904) (hn : n ≤ 4611686018427387904) (h : CurI w b a l cap m) :
    Calls Try.prog 38 #[.pointer (some ⟨b, 0, none⟩), .int .i64 n] w (PickPost b a l cap m n w) := by
  by_cases hn2 : n < 2
  · have H := Lib.hid (h.more (Nat.le_succ m))
    clear h
    go_enter Try.func38, Try.ntmps38
    go_wp2
    go_ret
    exact ⟨0, rfl, .inr rfl, H.out, World.grownBy.refl _ _⟩
  obtain ⟨at', seed, hk, ha, hs⟩ := h.blk
  have hc0 : w.cell? ⟨b, 0, none⟩ = some (.slice a l.length cap) := cur_cell hk 0
  have hc1 : w.cell? ⟨b, 1, none⟩ = some (.int .i64 at') := cur_cell hk 1
  have hc2 : w.cell? ⟨b, 2, none⟩ = some (.int .i64 seed) := cur_cell hk 2
  have hf1 := cur_free hk 1
  have hf2 := cur_free hk 2
  have HR := Lib.hid h.row
  have HN := Lib.hid h.lo
  have HK := Lib.hid hk
  clear h hk
  by_cases hlt : at' < l.length
  · obtain ⟨cb, off, rfl, q1⟩ := HR.out.at (i := at') (by simpa using hlt)
    rw [bval_at hlt] at q1
    have hx : l[at'].toNat < 256 := l[at'].toNat_lt
    generalize l[at'].toNat = x at *
    go_enter Try.func38, Try.ntmps38
    go_wp2
    go_quiet (fail)
    go_wp2
    go_quiet (fail)
    go_wp2
    go_ret
    exact ⟨x % n, ret_int (by omega), .inl (Nat.mod_lt _ (by omega)), pick_end (w' := w.drewN _) HK.out (HR.out.drewN _) HN.out ha hs, grown_trans (drewN_grown w _ _) (set_grown _ _ _ _)⟩
  · by_cases h0 : 0 < l.length
    · have hmod : at' % l.length < l.length := Nat.mod_lt _ h0
      obtain ⟨cb, off, rfl, q1⟩ := HR.out.at (i := at' % l.length) (by simpa using hmod)
      rw [bval_at hmod] at q1
      have hx : l[at' % l.length].toNat < 256 := l[at' % l.length].toNat_lt
      generalize l[at' % l.length].toNat = x at *
      obtain ⟨sd, hsd, hsb⟩ : ∃ sd : Nat, ((seed : Int) * 1103 + 12345) % 65521 = (sd : Int) ∧ sd ≤ 65536 := ⟨(seed * 1103 + 12345) % 65521, by omega, by omega⟩
      have HD := Lib.hid hsd
      clear hsd
      have hmi : ((at' : Int) % (l.length : Int)).toNat = at' % l.length := by omega
      have hm1 : 0 ≤ (at' : Int) % (l.length : Int) := by omega
      have hm2 : (at' : Int) % (l.length : Int) < (l.length : Int) := by omega
      have hmt : (at' : Int).tmod (l.length : Int) = ((at' % l.length : Nat) : Int) := by rw [Int.tmod_eq_emod_of_nonneg (by omega)]; omega
      have hdt : (sd : Int).tdiv 7 = ((sd / 7 : Nat) : Int) := by rw [Int.tdiv_eq_ediv_of_nonneg (by omega)]; omega
      have hwr : IntKind.i64.wrap (((sd / 7 : Nat) : Int) + (x : Int)) = ((sd / 7 + x : Nat) : Int) := by rw [IntWalk.i64_in _ (by omega)]; omega
      go_enter Try.func38, Try.ntmps38
      go_wp2
      go_quiet (fail)
      go_wp2
      rw [HD.out]
      have K2 := cur_set (w := w.drewN nq) HK.out 2 (.int .i64 sd)
      have G2 := grown_trans (drewN_grown w nq (some b)) (set_grown (w.drewN nq) b 2 (.int .i64 sd))
      have d2 := G2.cell q1 (by have := lo_at HN.out h0 rfl; simpa using this)
      have R2 := HR.out.grown G2 (lo_map HN.out)
      generalize hW : (w.drewN nq).setCell ⟨b, 2, none⟩ (.int .i64 sd) = W at *
      clear hW hc0 hc1 hc2 hf1 hf2 q1
      have K2 : W.heap[b]? = some (.cells #[.slice (some ⟨cb, off, none⟩) l.length cap, .int .i64 at', .int .i64 sd] 54 (0, 0)) := K2
      have hc0 : W.cell? ⟨b, 0, none⟩ = some (.slice (some ⟨cb, off, none⟩) l.length cap) := cur_cell K2 0
      have hc1 : W.cell? ⟨b, 1, none⟩ = some (.int .i64 at') := cur_cell K2 1
      have hc2 : W.cell? ⟨b, 2, none⟩ = some (.int .i64 sd) := cur_cell K2 2
      have hf1 := cur_free K2 1
      have KK := Lib.hid K2
      have GG := Lib.hid G2
      have RR := Lib.hid R2
      clear K2 G2 R2
      go_quiet (fail)
      go_wp2
      go_ret
      exact ⟨(sd / 7 + x) % n, ret_int (by simp), .inl (Nat.mod_lt _ (by omega)), pick_end (w' := W.drewN _) KK.out (RR.out.drewN _) HN.out ha hsb, grown_trans GG.out (grown_trans (drewN_grown W _ _) (set_grown _ _ _ _))⟩
    · have hl0 : l.length = 0 := by omega
      obtain ⟨sd, hsd, hsb⟩ : ∃ sd : Nat, ((seed : Int) * 1103 + 12345) % 65521 = (sd : Int) ∧ sd ≤ 65536 := ⟨(seed * 1103 + 12345) % 65521, by omega, by omega⟩
      have HD := Lib.hid hsd
      clear hsd
      go_enter Try.func38, Try.ntmps38
      go_wp2
      go_quiet (fail)
      go_wp2
      rw [HD.out]
      have K2 := cur_set (w := w.drewN nq) HK.out 2 (.int .i64 sd)
      have G2 := grown_trans (drewN_grown w nq (some b)) (set_grown (w.drewN nq) b 2 (.int .i64 sd))
      have R2 := HR.out.grown G2 (lo_map HN.out)
      go_ret
      exact ⟨0, rfl, .inr rfl, pick_end K2 R2 HN.out ha hsb, grown_trans G2 (set_grown _ _ _ _)⟩

/-- Of the blocks that lay there only b has turned, and what has come since may have been written. -/
theorem grown_low {w w1 w2 : World} {b : Nat} (h : w.grownBy w1 (some b)) (k : Below w.heap.size w1 w2) : w.grownBy w2 (some b) :=
  ⟨k.os.trans h.os, k.tape.trans h.tape, k.output.trans h.output, Nat.le_trans h.size k.size, fun i hi hn => (k.block i hi).trans (h.block i hi hn)⟩

set_option maxHeartbeats 400000 in
theorem curOpen (a : Option Addr) (l : List UInt8) (cap : Nat) (w : World) (hl : l.length ≤ 1048576) (r : Row w a (l.map bval)) :
    Calls Try.prog 35 #[.slice a l.length cap] w fun e w' => e = .returned (.pointer (some ⟨w.heap.size, 0, none⟩)) ∧ CurI w' w.heap.size a l cap 0 ∧ Below w.heap.size w w' := by
  have R := Lib.hid r
  clear r
  go_enter Try.func35, Try.ntmps35
  go_wp2
  go_ret
  have hbel : Below w.heap.size w (w.alloc (Obj.cells #[.slice a l.length cap, .int .i64 0, .int .i64 (59 + (l.length : Int) % 1000)] 54)) := (Below.refl _ _).alloc (Nat.le_refl _) _
  refine ⟨rfl, ⟨⟨0, 59 + l.length % 1000, ?_, Nat.le_refl _, by omega⟩, R.out.below hbel, ?_⟩, hbel⟩
  · rw [heap_alloc_new]
    simp
  · rcases R.out with e | ⟨c, off, rfl, h⟩
    · exact .inl (by simpa using e)
    · by_cases h0 : l = []
      · exact .inl h0
      · refine .inr fun x hx => ?_
        have hp : 0 < l.length := List.length_pos_iff.2 h0
        have h1 := h 0 (by simpa using hp)
        rw [List.getElem?_eq_getElem (by simpa using hp)] at h1
        have := block_lt_of_cell h1
        cases hx; exact this

/-- What is owned from 'base' on is not block b below it. -/
theorem own_apart {w : World} {base n b : Nat} {e : TypeId} {v : Value} {xs : List Value} (h : w.ownsRow base e 1 v n xs) (hb : b < base) : v.ownBlock = none ∨ v.ownBlock ≠ some b := by
  refine .inr fun e => ?_
  have := (h.lt b e).1
  omega
theorem Try.info3 : (Try.prog.info? 3).map (fun i => (i.zero, i.size, i.bytes)) = some (some (.int .i64 0), 1, 8) := by kernel_rfl

/-- What a drawing of a text leaves: a text of at most k bytes; only the cursor's block has turned. -/
def DrawnStr (b : Nat) (a : Option Addr) (l : List UInt8) (cap m k : Nat) (w : World) (e : Ending) (w' : World) : Prop :=
  ∃ s : ByteArray, e = .returned (.string s) ∧ s.size ≤ k ∧ CurI w' b a l cap m ∧ w.grownBy w' (some b)

set_option maxHeartbeats 1000000 in
theorem curWord (b : Nat) (a : Option Addr) (l : List UInt8) (cap m : Nat) (w : World) (hl : l.length ≤ 1048576) (hm : m ≤ 4000000000000000000) (h : CurI w b a l cap m) :
    Calls Try.prog 47 #[.pointer (some ⟨b, 0, none⟩)] w (DrawnStr b a l cap (m + 66) 32 w) := by
  have hbl := h.lt
  have H0 := Lib.hid (h.below ((Below.refl _ _).alloc (Nat.le_refl _) (.cells #[.int .i64 3, .int .i64 5, .int .i64 8, .int .i64 32] 3)))
  have G0 := Lib.hid (World.grownBy_alloc w (.cells #[.int .i64 3, .int .i64 5, .int .i64 8, .int .i64 32] 3) (some b))
  clear h
  go_enter Try.func47, Try.ntmps47
  go_wp2_with fail
  refine (curPick b a l cap m 4 _ hl (by omega) (by omega) H0.out).mono ?_
  rintro e w1 ⟨r, rfl, hr, hI1, hg1⟩
  have I1 := Lib.hid hI1
  have G1 := Lib.hid (grown_trans G0.out hg1)
  have k1 : ∀ i v, (#[.int .i64 3, .int .i64 5, .int .i64 8, .int .i64 32] : Array Value)[i]? = some v → w1.cell? ⟨w.heap.size, i, none⟩ = some v := fun i v hv => hg1.cell (by simpa using hv) (by simp; omega)
  clear hI1 hg1
  have hr4 : r < 4 := by omega
  have hrow : ∃ q : Nat, q ≤ 32 ∧ 2 ≤ q ∧ w1.cell? ⟨w.heap.size, r, none⟩ = some (.int .i64 q) := by
    rcases (show r = 0 ∨ r = 1 ∨ r = 2 ∨ r = 3 from by omega) with rfl | rfl | rfl | rfl
    · exact ⟨3, by omega, by omega, k1 0 _ rfl⟩
    · exact ⟨5, by omega, by omega, k1 1 _ rfl⟩
    · exact ⟨8, by omega, by omega, k1 2 _ rfl⟩
    · exact ⟨32, by omega, by omega, k1 3 _ rfl⟩
  obtain ⟨q, hq, hq2, hcq⟩ := hrow
  clear k1
  go_wp2_with fail
  refine (curPick b a l cap (m + 1) q _ hl (by omega) (by omega) I1.out).mono ?_
  rintro e w2 ⟨r2, rfl, hr2, hI2, hg2⟩
  have hr2' : r2 < 32 := by omega
  have I2 := Lib.hid hI2
  have G2 := Lib.hid (grown_trans G1.out hg2)
  clear hI2 hg2 I1 G1 H0 G0 hcq
  have hsz2 : w.heap.size ≤ w2.heap.size := G2.out.size
  go_wp2
  go_loopw [4] (fun v wr => ∃ (q1 : Nat) (ao : Option Addr) (cap1 : Nat) (bs : List UInt8), q1 ≤ r2 + 1 ∧ bs.length = q1 ∧ v = .slice ao q1 cap1 ∧
      wr.ownsRow w.heap.size 5 1 (.slice ao q1 cap1) q1 (bs.map bval) ∧ CurI wr b a l cap (m + 2 + 2 * q1) ∧ w.grownBy wr (some b)) (fun v _ => r2 + 1 - lenOf v)
  case atStart =>
    refine ⟨0, _, _, [], Nat.zero_le _, rfl, rfl, World.ownsRow_made w2 #[] 0 hsz2 (by unfold maxLen; omega) rfl, I2.out.below ((Below.refl _ _).alloc (Nat.le_refl _) _), ?_⟩
    exact grown_trans G2.out (World.grownBy_alloc w2 _ (some b))
  case round =>
    clear I2 G2
    obtain ⟨q1, ao, cap1, bs, hq1, hbs, rfl, hown, hI, hg⟩ := hrel
    have HB := Lib.hid hbs
    clear hbs
    have hszr : w.heap.size ≤ wr.heap.size := hg.size
    by_cases hlt : q1 < r2 + 1
    · have I3 := Lib.hid (hI.below ((Below.refl _ _).alloc (Nat.le_refl _) (.cells #[.int .i64 2, .int .i64 3, .int .i64 26] 3)))
      have O3 := Lib.hid (hown.alloc (.cells #[.int .i64 2, .int .i64 3, .int .i64 26] 3))
      have G3 := Lib.hid (grown_trans hg (World.grownBy_alloc wr (.cells #[.int .i64 2, .int .i64 3, .int .i64 26] 3) (some b)))
      clear hown hI hg
      go_wp2_with fail
      refine (curPick b a l cap _ 3 _ hl (by omega) (by omega) I3.out).mono ?_
      rintro e w4 ⟨r4, rfl, hr4, hI4, hg4⟩
      have k4 : ∀ i v, (#[.int .i64 2, .int .i64 3, .int .i64 26] : Array Value)[i]? = some v → w4.cell? ⟨wr.heap.size, i, none⟩ = some v := fun i v hv => hg4.cell (by simpa using hv) (by simp; omega)
      have O4 := Lib.hid (O3.out.kept hg4 (own_apart O3.out hbl))
      have I4 := Lib.hid hI4
      have G4 := Lib.hid (grown_trans G3.out hg4)
      clear hI4 hg4 I3 O3 G3
      have hrow : ∃ q : Nat, q ≤ 26 ∧ 2 ≤ q ∧ w4.cell? ⟨wr.heap.size, r4, none⟩ = some (.int .i64 q) := by
        rcases (show r4 = 0 ∨ r4 = 1 ∨ r4 = 2 from by omega) with rfl | rfl | rfl
        · exact ⟨2, by omega, by omega, k4 0 _ rfl⟩
        · exact ⟨3, by omega, by omega, k4 1 _ rfl⟩
        · exact ⟨26, by omega, by omega, k4 2 _ rfl⟩
      obtain ⟨q5, hq5, hq52, hcq⟩ := hrow
      have hr43 : r4 < 3 := by omega
      clear k4
      go_wp2_with fail
      refine (curPick b a l cap _ q5 _ hl (by omega) (by omega) I4.out).mono ?_
      rintro e w5 ⟨r5, rfl, hr5, hI5, hg5⟩
      have hr5' : r5 < 26 := by omega
      have O5 := O4.out.kept hg5 (own_apart O4.out hbl)
      have I5 := Lib.hid hI5
      have G5 := Lib.hid (grown_trans G4.out hg5)
      have hsz5 : w.heap.size ≤ w5.heap.size := G5.out.size
      clear hI5 hg5 I4 O4 G4 hcq
      have HU : Hid (Value.int .u8 (97 + (r5 : Int)) = bval (UInt8.ofNat (97 + r5))) := Lib.hid (by unfold bval; simp; omega)
      have h1u : (bval (UInt8.ofNat (97 + r5))).oneCell' = true := rfl
      go_wp2_with (at_builtin; rw [HU.out]; refine wp_app1 w5 w5 (bval (UInt8.ofNat (97 + r5))) rfl _ _ 22 rfl w.heap.size 5 (.int .u8 0) 1 Try.underlying22 Try.info5 rfl _ _ _ (by rfl) O5 (by rfl) h1u (by unfold maxLen; omega) (by omega) hsz5 (Below.refl _ _) ?_; clear O5; intro v' w6 O6 B6)
      obtain ⟨a6, cap6, rfl⟩ := own_shape O6
      go_roundw
      case rel => exact ⟨q1 + 1, a6, cap6, bs ++ [UInt8.ofNat (97 + r5)], by omega, by simp [HB.out], rfl, by rw [List.map_append]; exact O6, (I5.out.low B6 hbl).more (by omega), grown_low G5.out B6⟩
      case measure => simp [lenOf]; omega
    · have hcv := conv_any hown
      have II := Lib.hid (hI.more (show m + 2 + 2 * q1 ≤ m + 66 by omega))
      have GG := Lib.hid hg
      clear hI hg hown
      go_wp2
      go_ret
      exact ⟨strL bs, rfl, by rw [strL_size, HB.out]; omega, II.out, GG.out⟩
end Go.Proofs.Ytmdgigaplfbcpaa
