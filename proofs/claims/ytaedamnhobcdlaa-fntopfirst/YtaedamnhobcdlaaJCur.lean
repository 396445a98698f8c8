/- Cur, CurN, CurW, CurWW, Bad, DrewP in one. Written by tools/join.py. -/
import Derived.Test.YtaedamnhobcdlaaJBase
import Derived.Deep.QuietTactic
import Derived.BigQuiet
import Derived.Deep.RegionWith
import Derived.Test.YtaedamnhobcdlaaJSeg
section
namespace Go.Proofs.Ytaedamnhobcdlaa
open Go.RowKit
set_option linter.unusedVariables false

/-- The cursor lies whole in block b, over the code l; at most m numbers have been taken. -/
structure CurI (w : World) (b : Nat) (a : Option Addr) (l : List UInt8) (cap m : Nat) : Prop where
  blk : ∃ at' seed : Nat, w.heap[b]? = some (.cells #[.slice a l.length cap, .int .i64 at', .int .i64 seed] 94 (0, 0)) ∧ at' ≤ m ∧ seed ≤ 65536
  row : Row w a (l.map bval)
  lo : l = [] ∨ ∀ x, a = some x → x.block < b

theorem lo_map {a : Option Addr} {l : List UInt8} {b : Nat} (h : l = [] ∨ ∀ x, a = some x → x.block < b) : l.map bval = [] ∨ ∀ x, a = some x → x.block < b := by
  rcases h with h | h
  · exact .inl (by rw [h]; rfl)
  · exact .inr h
theorem lo_at {a : Option Addr} {l : List UInt8} {b : Nat} (h : l = [] ∨ ∀ x, a = some x → x.block < b) (hl : 0 < l.length) {x : Addr} (e : a = some x) : x.block ≠ b := by
  rcases h with h | h
  · subst h; simp at hl
  · have := h x e; omega
theorem CurI.low {w w' : World} {b B : Nat} {a : Option Addr} {l : List UInt8} {cap m : Nat} (h : CurI w b a l cap m) (hb : Below B w w') (hB : b < B) : CurI w' b a l cap m := by
  obtain ⟨at', seed, hk, h1, h2⟩ := h.blk
  exact ⟨⟨at', seed, (hb.block b hB).trans hk, h1, h2⟩, h.row.low hb (lo_map h.lo) (Nat.le_of_lt hB), h.lo⟩
theorem CurI.below {w w' : World} {b : Nat} {a : Option Addr} {l : List UInt8} {cap m : Nat} (h : CurI w b a l cap m) (hb : Below w.heap.size w w') : CurI w' b a l cap m := by
  obtain ⟨at', seed, hk, h1, h2⟩ := h.blk
  exact ⟨⟨at', seed, (hb.block b (cur_lt hk)).trans hk, h1, h2⟩, h.row.below hb, h.lo⟩
theorem CurI.more {w : World} {b : Nat} {a : Option Addr} {l : List UInt8} {cap m m' : Nat} (h : CurI w b a l cap m) (hm : m ≤ m') : CurI w b a l cap m' := by
  obtain ⟨at', seed, hk, h1, h2⟩ := h.blk
  exact ⟨⟨at', seed, hk, Nat.le_trans h1 hm, h2⟩, h.row, h.lo⟩
theorem CurI.lt {w : World} {b : Nat} {a : Option Addr} {l : List UInt8} {cap m : Nat} (h : CurI w b a l cap m) : b < w.heap.size := by
  obtain ⟨_, _, hk, _⟩ := h.blk
  exact cur_lt hk

/-- What 'pick' leaves: a number below n; only the cursor's block has turned. -/
def PickPost (b : Nat) (a : Option Addr) (l : List UInt8) (cap m n : Nat) (w : World) (e : Ending) (w' : World) : Prop :=
  ∃ r : Nat, e = .returned (.int .i64 r) ∧ (r < n ∨ r = 0) ∧ CurI w' b a l cap (m + 1) ∧ w.grownBy w' (some b)

theorem pick_end {w' : World} {b : Nat} {a : Option Addr} {l : List UInt8} {cap m at' seed : Nat} (hk : w'.heap[b]? = some (.cells #[.slice a l.length cap, .int .i64 at', .int .i64 seed] 94 (0, 0)))
    (hr : Row w' a (l.map bval)) (hne : l = [] ∨ ∀ x, a = some x → x.block < b) (ha : at' ≤ m) (hs : seed ≤ 65536) : CurI (w'.setCell ⟨b, 1, none⟩ (.int .i64 ((at' : Int) + 1))) b a l cap (m + 1) :=
  ⟨⟨at' + 1, seed, by rw [cur_set hk]; rfl, by omega, hs⟩, hr.grown (set_grown _ _ _ _) (lo_map hne), hne⟩

set_option maxHeartbeats 1000000 in
theorem curPick (b : Nat) (a : Option Addr) (l : List UInt8) (cap m n : Nat) (w : World) (hl : l.length ≤ 1048576) (hm : m ≤ 4611686018427387904) (hn : n ≤ 4611686018427387904) (h : CurI w b a l cap m) :
    Calls Try.prog 55 #[.pointer (some ⟨b, 0, none⟩), .int .i64 n] w (PickPost b a l cap m n w) := by
  by_cases hn2 : n < 2
  · have H := Lib.hid (h.more (Nat.le_succ m))
    clear h
    go_enter Try.func55, Try.ntmps55
    go_wp2
    go_ret
    exact ⟨0, rfl, .inr rfl, H.out, World.grownBy.refl _ _⟩
  obtain ⟨at', seed, hk, ha, hs⟩ := h.blk
  have hc0 : w.cell? ⟨b, 0, none⟩ = some (.slice a l.length cap) := cur_cell hk 0
  have hc1 : w.cell? ⟨b, 1, none⟩ = some (.int .i64 at') := cur_cell hk 1
  have hc2 : w.cell? ⟨b, 2, none⟩ = some (.int .i64 seed) := cur_cell hk 2
  have hf1 := cur_free hk 1
  have hf2 := cur_free hk 2
  have HR := Lib.hid h.row
  have HN := Lib.hid h.lo
  have HK := Lib.hid hk
  clear h hk
  by_cases hlt : at' < l.length
  · obtain ⟨cb, off, rfl, q1⟩ := HR.out.at (i := at') (by simpa using hlt)
    rw [bval_at hlt] at q1
    have hx : l[at'].toNat < 256 := l[at'].toNat_lt
    generalize l[at'].toNat = x at *
    go_enter Try.func55, Try.ntmps55
    go_wp2
    go_quiet (fail)
    go_wp2
    go_quiet (fail)
    go_wp2
    go_ret
    exact ⟨x % n, ret_int (by omega), .inl (Nat.mod_lt _ (by omega)), pick_end (w' := w.drewN _) HK.out (HR.out.drewN _) HN.out ha hs, grown_trans (drewN_grown w _ _) (set_grown _ _ _ _)⟩
  · by_cases h0 : 0 < l.length
    · have hmod : at' % l.length < l.length := Nat.mod_lt _ h0
      obtain ⟨cb, off, rfl, q1⟩ := HR.out.at (i := at' % l.length) (by simpa using hmod)
      rw [bval_at hmod] at q1
      have hx : l[at' % l.length].toNat < 256 := l[at' % l.length].toNat_lt
      generalize l[at' % l.length].toNat = x at *
      obtain ⟨sd, hsd, hsb⟩ : ∃ sd : Nat, ((seed : Int) * 1103 + 12345) % 65521 = (sd : Int) ∧ sd ≤ 65536 := ⟨(seed * 1103 + 12345) % 65521, by omega, by omega⟩
      have HD := Lib.hid hsd
      clear hsd
      have hmi : ((at' : Int) % (l.length : Int)).toNat = at' % l.length := by omega
      have hm1 : 0 ≤ (at' : Int) % (l.length : Int) := by omega
      have hm2 : (at' : Int) % (l.length : Int) < (l.length : Int) := by omega
      have hmt : (at' : Int).tmod (l.length : Int) = ((at' % l.length : Nat) : Int) := by rw [Int.tmod_eq_emod_of_nonneg (by omega)]; omega
      have hdt : (sd : Int).tdiv 7 = ((sd / 7 : Nat) : Int) := by rw [Int.tdiv_eq_ediv_of_nonneg (by omega)]; omega
      have hwr : IntKind.i64.wrap (((sd / 7 : Nat) : Int) + (x : Int)) = ((sd / 7 + x : Nat) : Int) := by rw [IntWalk.i64_in _ (by omega)]; omega
      go_enter Try.func55, Try.ntmps55
      go_wp2
      go_quiet (fail)
      go_wp2
      rw [HD.out]
      have K2 := cur_set (w := w.drewN nq) HK.out 2 (.int .i64 sd)
      have G2 := grown_trans (drewN_grown w nq (some b)) (set_grown (w.drewN nq) b 2 (.int .i64 sd))
      have d2 := G2.cell q1 (by have := lo_at HN.out h0 rfl; simpa using this)
      have R2 := HR.out.grown G2 (lo_map HN.out)
      generalize hW : (w.drewN nq).setCell ⟨b, 2, none⟩ (.int .i64 sd) = W at *
      clear hW hc0 hc1 hc2 hf1 hf2 q1
      have K2 : W.heap[b]? = some (.cells #[.slice (some ⟨cb, off, none⟩) l.length cap, .int .i64 at', .int .i64 sd] 94 (0, 0)) := K2
      have hc0 : W.cell? ⟨b, 0, none⟩ = some (.slice (some ⟨cb, off, none⟩) l.length cap) := cur_cell K2 0
      have hc1 : W.cell? ⟨b, 1, none⟩ = some (.int .i64 at') := cur_cell K2 1
      have hc2 : W.cell? ⟨b, 2, none⟩ = some (.int .i64 sd) := cur_cell K2 2
      have hf1 := cur_free K2 1
      have KK := Lib.hid K2
      have GG := Lib.hid G2
      have RR := Lib.hid R2
      clear K2 G2 R2
      go_quiet (fail)
      go_wp2
      go_ret
      exact ⟨(sd / 7 + x) % n, ret_int (by simp), .inl (Nat.mod_lt _ (by omega)), pick_end (w' := W.drewN _) KK.out (RR.out.drewN _) HN.out ha hsb, grown_trans GG.out (grown_trans (drewN_grown W _ _) (set_grown _ _ _ _))⟩
    · have hl0 : l.length = 0 := by omega
      obtain ⟨sd, hsd, hsb⟩ : ∃ sd : Nat, ((seed : Int) * 1103 + 12345) % 65521 = (sd : Int) ∧ sd ≤ 65536 := ⟨(seed * 1103 + 12345) % 65521, by omega, by omega⟩
      have HD := Lib.hid hsd
      clear hsd
      go_enter Try.func55, Try.ntmps55
      go_wp2
      go_quiet (fail)
      go_wp2
      rw [HD.out]
      have K2 := cur_set (w := w.drewN nq) HK.out 2 (.int .i64 sd)
      have G2 := grown_trans (drewN_grown w nq (some b)) (set_grown (w.drewN nq) b 2 (.int .i64 sd))
      have R2 := HR.out.grown G2 (lo_map HN.out)
      go_ret
      exact ⟨0, rfl, .inr rfl, pick_end K2 R2 HN.out ha hsb, grown_trans G2 (set_grown _ _ _ _)⟩

set_option maxHeartbeats 400000 in
theorem curOpen (a : Option Addr) (l : List UInt8) (cap : Nat) (w : World) (hl : l.length ≤ 1048576) (r : Row w a (l.map bval)) :
    Calls Try.prog 41 #[.slice a l.length cap] w fun e w' => e = .returned (.pointer (some ⟨w.heap.size, 0, none⟩)) ∧ CurI w' w.heap.size a l cap 0 ∧ Below w.heap.size w w' := by
  have R := Lib.hid r
  clear r
  go_enter Try.func41, Try.ntmps41
  go_wp2
  go_ret
  have hbel : Below w.heap.size w (w.alloc (Obj.cells #[.slice a l.length cap, .int .i64 0, .int .i64 (59 + (l.length : Int) % 1000)] 94)) := (Below.refl _ _).alloc (Nat.le_refl _) _
  refine ⟨rfl, ⟨⟨0, 59 + l.length % 1000, ?_, Nat.le_refl _, by omega⟩, R.out.below hbel, ?_⟩, hbel⟩
  · rw [heap_alloc_new]
    simp
  · rcases R.out with e | ⟨c, off, rfl, h⟩
    · exact .inl (by simpa using e)
    · by_cases h0 : l = []
      · exact .inl h0
      · refine .inr fun x hx => ?_
        have hp : 0 < l.length := List.length_pos_iff.2 h0
        have h1 := h 0 (by simpa using hp)
        rw [List.getElem?_eq_getElem (by simpa using hp)] at h1
        have := block_lt_of_cell h1
        cases hx; exact this

end Go.Proofs.Ytaedamnhobcdlaa
end

section
namespace Go.Proofs.Ytaedamnhobcdlaa
open Go.RowKit
set_option linter.unusedVariables false

theorem lit_new (w : World) (cs : Array Value) (t : TypeId) (r : Nat) : (w.alloc (.cells cs t)).cell? ⟨w.heap.size, r, none⟩ = cs[r]? := by simp
/-- What a drawing of a number leaves. -/
def DrawnInt (b : Nat) (a : Option Addr) (l : List UInt8) (cap m : Nat) (w : World) (e : Ending) (w' : World) : Prop :=
  ∃ z : Int, e = .returned (.int .i64 z) ∧ (-9223372036854775808 ≤ z ∧ z ≤ 9223372036854775807) ∧ CurI w' b a l cap m ∧ w.grownBy w' (some b)

def lits8 : Array Value := #[.int .i64 9223372036854775807, .int .i64 (-9223372036854775808), .int .i64 4611686018427387904, .int .i64 65535, .int .i64 65536, .int .i64 (-1000), .int .i64 2147483648, .int .i64 4294967296]
theorem lits8_at (r : Nat) (h : r < 8 ∨ r = 0) : ∃ z : Int, (-9223372036854775808 ≤ z ∧ z ≤ 9223372036854775807) ∧ lits8[r]? = some (.int .i64 z) := by
  rcases (show r = 0 ∨ r = 1 ∨ r = 2 ∨ r = 3 ∨ r = 4 ∨ r = 5 ∨ r = 6 ∨ r = 7 from by omega) with rfl | rfl | rfl | rfl | rfl | rfl | rfl | rfl
  · exact ⟨9223372036854775807, by omega, rfl⟩
  · exact ⟨-9223372036854775808, by omega, rfl⟩
  · exact ⟨4611686018427387904, by omega, rfl⟩
  · exact ⟨65535, by omega, rfl⟩
  · exact ⟨65536, by omega, rfl⟩
  · exact ⟨-1000, by omega, rfl⟩
  · exact ⟨2147483648, by omega, rfl⟩
  · exact ⟨4294967296, by omega, rfl⟩

set_option maxHeartbeats 1000000 in
theorem curRaw (b : Nat) (a : Option Addr) (l : List UInt8) (cap m : Nat) (w : World) (hl : l.length ≤ 1048576) (hm : m ≤ 4000000000000000000) (h : CurI w b a l cap m) :
    Calls Try.prog 56 #[.pointer (some ⟨b, 0, none⟩)] w (DrawnInt b a l cap (m + 2) w) := by
  have H := Lib.hid h
  clear h
  go_enter Try.func56, Try.ntmps56
  go_wp2_with fail
  refine (curPick b a l cap m 8 _ hl (by omega) (by omega) H.out).mono ?_
  rintro e w1 ⟨r, rfl, hr, hI1, hg1⟩
  have I1 := Lib.hid hI1
  have G1 := Lib.hid hg1
  have hbl := hI1.lt
  clear hI1 hg1 H
  by_cases h0 : r = 0
  · subst h0
    go_wp2_with fail
    refine (curPick b a l cap _ 256 _ hl (by omega) (by omega) I1.out).mono ?_
    rintro e w2 ⟨k, rfl, hk, hI2, hg2⟩
    have hk' : k < 256 := by omega
    have I2 := Lib.hid hI2
    have G2 := Lib.hid (grown_trans G1.out hg2)
    clear hI2 hg2 I1 G1
    go_wp2
    go_ret
    exact ⟨_, rfl, by omega, I2.out, G2.out⟩
  have hr0 : ((r : Int) == 0) = false := by simp; omega
  by_cases h1 : r = 1
  · subst h1
    have IB := Lib.hid (I1.out.below (w' := w1.alloc (.cells lits8 3)) ((Below.refl _ _).alloc (Nat.le_refl _) _))
    go_wp2_with fail
    refine (curPick b a l cap _ 8 _ hl (by omega) (by omega) IB.out).mono ?_
    rintro e w2 ⟨k, rfl, hk, hI2, hg2⟩
    obtain ⟨z, hz, hzl⟩ := lits8_at k hk
    have hk8 : k < 8 := by omega
    have hq : w2.cell? ⟨w1.heap.size, k, none⟩ = some (.int .i64 z) := hg2.cell ((lit_new w1 lits8 3 k).trans hzl) (by simp; omega)
    have I2 := Lib.hid hI2
    have G2 := Lib.hid (grown_trans G1.out (grown_trans (World.grownBy_alloc w1 (.cells lits8 3) (some b)) hg2))
    clear hI2 hg2 I1 G1 IB hzl
    go_wp2
    go_ret
    exact ⟨z, rfl, hz, I2.out, G2.out⟩
  have hr1 : ((r : Int) == 1) = false := by simp; omega
  go_wp2_with fail
  refine (curPick b a l cap _ 14 _ hl (by omega) (by omega) I1.out).mono ?_
  rintro e w2 ⟨k, rfl, hk, hI2, hg2⟩
  have hk' : k < 14 := by omega
  have I2 := Lib.hid hI2
  have G2 := Lib.hid (grown_trans G1.out hg2)
  clear hI2 hg2 I1 G1
  go_wp2
  go_ret
  exact ⟨_, rfl, by omega, I2.out, G2.out⟩
set_option maxHeartbeats 1000000 in
theorem curSize (b : Nat) (a : Option Addr) (l : List UInt8) (cap m n : Nat) (w : World) (hl : l.length ≤ 1048576) (hm : m ≤ 4000000000000000000) (hn : n ≤ 1000000) (h : CurI w b a l cap m) :
    Calls Try.prog 90 #[.pointer (some ⟨b, 0, none⟩), .int .i64 n] w (PickPost b a l cap m (n + 1) w) := by
  obtain ⟨at', seed, hk, ha, hs⟩ := h.blk
  have hc0 : w.cell? ⟨b, 0, none⟩ = some (.slice a l.length cap) := cur_cell hk 0
  have H := Lib.hid h
  clear h hk
  have hmd : (l.length : Int).tdiv 8 = (l.length : Int) / 8 := Int.tdiv_eq_ediv_of_nonneg (by omega)
  go_enter Try.func90, Try.ntmps90
  go_wp2_with fail
  all_goals
    first
    | (rw [show (n : Int) + 1 = ((n + 1 : Nat) : Int) from by omega]
       refine (curPick b a l cap m (n + 1) _ hl (by omega) (by omega) H.out).mono ?_)
    | (rw [show 1 + (l.length : Int) / 8 + 1 = ((1 + l.length / 8 + 1 : Nat) : Int) from by omega]
       refine (curPick b a l cap m (1 + l.length / 8 + 1) _ hl (by omega) (by omega) H.out).mono ?_)
    rintro e w1 ⟨r, rfl, hr, hI1, hg1⟩
    have I1 := Lib.hid hI1
    have G1 := Lib.hid hg1
    have hr' : r < n + 1 ∨ r = 0 := by omega
    clear hI1 hg1 H hr
    go_wp2
    go_ret
    exact ⟨r, rfl, hr', I1.out, G1.out⟩
/-- What a drawing of a bool leaves. -/
def DrawnBool (b : Nat) (a : Option Addr) (l : List UInt8) (cap m : Nat) (w : World) (e : Ending) (w' : World) : Prop :=
  ∃ z : Bool, e = .returned (.bool z) ∧ CurI w' b a l cap m ∧ w.grownBy w' (some b)
set_option maxHeartbeats 1000000 in
theorem curOnce (b : Nat) (a : Option Addr) (l : List UInt8) (cap m n : Nat) (w : World) (hl : l.length ≤ 1048576) (hm : m ≤ 4000000000000000000) (hn : n ≤ 1000000) (h : CurI w b a l cap m) :
    Calls Try.prog 91 #[.pointer (some ⟨b, 0, none⟩), .int .i64 n] w (DrawnBool b a l cap (m + 1) w) := by
  have H := Lib.hid h
  clear h
  go_enter Try.func91, Try.ntmps91
  go_wp2_with fail
  refine (curPick b a l cap m n _ hl (by omega) (by omega) H.out).mono ?_
  rintro e w1 ⟨r, rfl, hr, hI1, hg1⟩
  have I1 := Lib.hid hI1
  have G1 := Lib.hid hg1
  clear hI1 hg1 H
  go_wp2
  go_ret
  exact ⟨_, rfl, I1.out, G1.out⟩
set_option maxHeartbeats 1000000 in
theorem curWide (b : Nat) (a : Option Addr) (l : List UInt8) (cap m n : Nat) (w : World) (hl : l.length ≤ 1048576) (hm : m ≤ 4000000000000000000) (hn : n ≤ 1000000) (hn0 : 0 < n) (h : CurI w b a l cap m) :
    Calls Try.prog 93 #[.pointer (some ⟨b, 0, none⟩), .int .i64 n] w (PickPost b a l cap (m + 2) n w) := by
  have H := Lib.hid h
  clear h
  go_enter Try.func93, Try.ntmps93
  go_wp2_with fail
  refine (curPick b a l cap m 256 _ hl (by omega) (by omega) H.out).mono ?_
  rintro e w1 ⟨r, rfl, hr, hI1, hg1⟩
  have I1 := Lib.hid hI1
  have G1 := Lib.hid hg1
  have hr' : r < 256 := by omega
  clear hI1 hg1 H
  go_wp2_with fail
  refine (curPick b a l cap _ 256 _ hl (by omega) (by omega) I1.out).mono ?_
  rintro e w2 ⟨r2, rfl, hr2, hI2, hg2⟩
  have I2 := Lib.hid hI2
  have G2 := Lib.hid (grown_trans G1.out hg2)
  have hr2' : r2 < 256 := by omega
  clear hI2 hg2 I1 G1
  go_wp2_with fail
  refine (curPick b a l cap _ 256 _ hl (by omega) (by omega) I2.out).mono ?_
  rintro e w3 ⟨r3, rfl, hr3, hI3, hg3⟩
  have I3 := Lib.hid hI3
  have G3 := Lib.hid (grown_trans G2.out hg3)
  have hr3' : r3 < 256 := by omega
  clear hI3 hg3 I2 G2
  go_wp2
  go_ret
  exact ⟨(65536 * r + 256 * r2 + r3) % n, ret_int (by simp [Int.natCast_emod]), .inl (Nat.mod_lt _ hn0), I3.out, G3.out⟩
end Go.Proofs.Ytaedamnhobcdlaa
end

section
namespace Go.Proofs.Ytaedamnhobcdlaa
open Go.RowKit
set_option linter.unusedVariables false

/-- What a drawing of a text leaves: a text of at most k bytes; only the cursor's block has turned. -/
def DrawnStr (b : Nat) (a : Option Addr) (l : List UInt8) (cap m k : Nat) (w : World) (e : Ending) (w' : World) : Prop :=
  ∃ s : ByteArray, e = .returned (.string s) ∧ s.size ≤ k ∧ CurI w' b a l cap m ∧ w.grownBy w' (some b)

set_option maxRecDepth 100000 in
set_option maxHeartbeats 1000000 in
theorem curWord (b : Nat) (a : Option Addr) (l : List UInt8) (cap m : Nat) (w : World) (hl : l.length ≤ 1048576) (hm : m ≤ 4000000000000000000) (h : CurI w b a l cap m) :
    Calls Try.prog 94 #[.pointer (some ⟨b, 0, none⟩)] w (DrawnStr b a l cap (m + 66) 32 w) := by
  have hbl := h.lt
  have H0 := Lib.hid (h.below ((Below.refl _ _).alloc (Nat.le_refl _) (.cells #[.int .i64 3, .int .i64 5, .int .i64 8, .int .i64 32] 3)))
  have G0 := Lib.hid (World.grownBy_alloc w (.cells #[.int .i64 3, .int .i64 5, .int .i64 8, .int .i64 32] 3) (some b))
  clear h
  go_enter Try.func94, Try.ntmps94
  go_wp2_with fail
  refine (curPick b a l cap m 4 _ hl (by omega) (by omega) H0.out).mono ?_
  rintro e w1 ⟨r, rfl, hr, hI1, hg1⟩
  have I1 := Lib.hid hI1
  have G1 := Lib.hid (grown_trans G0.out hg1)
  have k1 : ∀ i v, (#[.int .i64 3, .int .i64 5, .int .i64 8, .int .i64 32] : Array Value)[i]? = some v → w1.cell? ⟨w.heap.size, i, none⟩ = some v := fun i v hv => hg1.cell (by simpa using hv) (by simp; omega)
  clear hI1 hg1
  have hr4 : r < 4 := by omega
  have hrow : ∃ q : Nat, q ≤ 32 ∧ 2 ≤ q ∧ w1.cell? ⟨w.heap.size, r, none⟩ = some (.int .i64 q) := by
    rcases (show r = 0 ∨ r = 1 ∨ r = 2 ∨ r = 3 from by omega) with rfl | rfl | rfl | rfl
    · exact ⟨3, by omega, by omega, k1 0 _ rfl⟩
    · exact ⟨5, by omega, by omega, k1 1 _ rfl⟩
    · exact ⟨8, by omega, by omega, k1 2 _ rfl⟩
    · exact ⟨32, by omega, by omega, k1 3 _ rfl⟩
  obtain ⟨q, hq, hq2, hcq⟩ := hrow
  clear k1
  go_wp2_with fail
  refine (curPick b a l cap (m + 1) q _ hl (by omega) (by omega) I1.out).mono ?_
  rintro e w2 ⟨r2, rfl, hr2, hI2, hg2⟩
  have hr2' : r2 < 32 := by omega
  have I2 := Lib.hid hI2
  have G2 := Lib.hid (grown_trans G1.out hg2)
  clear hI2 hg2 I1 G1 H0 G0 hcq
  have hsz2 : w.heap.size ≤ w2.heap.size := G2.out.size
  go_wp2
  go_loopw [4] (fun v wr => ∃ (q1 : Nat) (ao : Option Addr) (cap1 : Nat) (bs : List UInt8), q1 ≤ r2 + 1 ∧ bs.length = q1 ∧ v = .slice ao q1 cap1 ∧
      wr.ownsRow w.heap.size 5 1 (.slice ao q1 cap1) q1 (bs.map bval) ∧ CurI wr b a l cap (m + 2 + 2 * q1) ∧ w.grownBy wr (some b)) (fun v _ => r2 + 1 - lenOf v)
  case atStart =>
    refine ⟨0, _, _, [], Nat.zero_le _, rfl, rfl, World.ownsRow_made w2 #[] 0 hsz2 (by unfold maxLen; omega) rfl, I2.out.below ((Below.refl _ _).alloc (Nat.le_refl _) _), ?_⟩
    exact grown_trans G2.out (World.grownBy_alloc w2 _ (some b))
  case round =>
    clear I2 G2
    obtain ⟨q1, ao, cap1, bs, hq1, hbs, rfl, hown, hI, hg⟩ := hrel
    have HB := Lib.hid hbs
    clear hbs
    have hszr : w.heap.size ≤ wr.heap.size := hg.size
    by_cases hlt : q1 < r2 + 1
    · have I3 := Lib.hid (hI.below ((Below.refl _ _).alloc (Nat.le_refl _) (.cells #[.int .i64 2, .int .i64 3, .int .i64 26] 3)))
      have O3 := Lib.hid (hown.alloc (.cells #[.int .i64 2, .int .i64 3, .int .i64 26] 3))
      have G3 := Lib.hid (grown_trans hg (World.grownBy_alloc wr (.cells #[.int .i64 2, .int .i64 3, .int .i64 26] 3) (some b)))
      clear hown hI hg
      go_wp2_with fail
      refine (curPick b a l cap _ 3 _ hl (by omega) (by omega) I3.out).mono ?_
      rintro e w4 ⟨r4, rfl, hr4, hI4, hg4⟩
      have k4 : ∀ i v, (#[.int .i64 2, .int .i64 3, .int .i64 26] : Array Value)[i]? = some v → w4.cell? ⟨wr.heap.size, i, none⟩ = some v := fun i v hv => hg4.cell (by simpa using hv) (by simp; omega)
      have O4 := Lib.hid (O3.out.kept hg4 (own_apart O3.out hbl))
      have I4 := Lib.hid hI4
      have G4 := Lib.hid (grown_trans G3.out hg4)
      clear hI4 hg4 I3 O3 G3
      have hrow : ∃ q : Nat, q ≤ 26 ∧ 2 ≤ q ∧ w4.cell? ⟨wr.heap.size, r4, none⟩ = some (.int .i64 q) := by
        rcases (show r4 = 0 ∨ r4 = 1 ∨ r4 = 2 from by omega) with rfl | rfl | rfl
        · exact ⟨2, by omega, by omega, k4 0 _ rfl⟩
        · exact ⟨3, by omega, by omega, k4 1 _ rfl⟩
        · exact ⟨26, by omega, by omega, k4 2 _ rfl⟩
      obtain ⟨q5, hq5, hq52, hcq⟩ := hrow
      have hr43 : r4 < 3 := by omega
      clear k4
      go_wp2_with fail
      refine (curPick b a l cap _ q5 _ hl (by omega) (by omega) I4.out).mono ?_
      rintro e w5 ⟨r5, rfl, hr5, hI5, hg5⟩
      have hr5' : r5 < 26 := by omega
      have O5 := O4.out.kept hg5 (own_apart O4.out hbl)
      have I5 := Lib.hid hI5
      have G5 := Lib.hid (grown_trans G4.out hg5)
      have hsz5 : w.heap.size ≤ w5.heap.size := G5.out.size
      clear hI5 hg5 I4 O4 G4 hcq
      have HU : Hid (Value.int .u8 (97 + (r5 : Int)) = bval (UInt8.ofNat (97 + r5))) := Lib.hid (by unfold bval; simp; omega)
      have h1u : (bval (UInt8.ofNat (97 + r5))).oneCell' = true := rfl
      go_wp2_with (at_builtin; rw [HU.out]; refine wp_app1 w5 w5 (bval (UInt8.ofNat (97 + r5))) rfl _ _ 22 rfl w.heap.size 5 (.int .u8 0) 1 Try.underlying22 Try.info5 rfl _ _ _ (by rfl) O5 (by rfl) h1u (by unfold maxLen; omega) (by omega) hsz5 (Below.refl _ _) ?_; clear O5; intro v' w6 O6 B6)
      obtain ⟨a6, cap6, rfl⟩ := own_shape O6
      go_roundw
      case rel => exact ⟨q1 + 1, a6, cap6, bs ++ [UInt8.ofNat (97 + r5)], by omega, by simp [HB.out], rfl, by rw [List.map_append]; exact O6, (I5.out.low B6 hbl).more (by omega), grown_low G5.out B6⟩
      case measure => simp [lenOf]; omega
    · have hcv := conv_any hown
      have II := Lib.hid (hI.more (show m + 2 + 2 * q1 ≤ m + 66 by omega))
      have GG := Lib.hid hg
      clear hI hg hown
      go_wp2
      go_ret
      exact ⟨strL bs, rfl, by rw [strL_size, HB.out]; omega, II.out, GG.out⟩
end Go.Proofs.Ytaedamnhobcdlaa
end

section
namespace Go.Proofs.Ytaedamnhobcdlaa
open Go.RowKit
set_option linter.unusedVariables false

theorem low97 {r : Nat} (h : r < 26) : lowB (UInt8.ofNat (97 + r)) = true := by
  have e : (UInt8.ofNat (97 + r)).toNat = 97 + r := by rw [UInt8.toNat_ofNat']; exact Nat.mod_eq_of_lt (by omega)
  unfold lowB
  rw [e]
  simp
  omega
def DrawnWord (b : Nat) (a : Option Addr) (l : List UInt8) (cap m : Nat) (w : World) (e : Ending) (w' : World) : Prop :=
  ∃ s : ByteArray, e = .returned (.string s) ∧ wordB s.data.toList = true ∧ CurI w' b a l cap m ∧ w.grownBy w' (some b)
set_option maxRecDepth 100000 in
set_option maxHeartbeats 1000000 in
theorem curWordW (b : Nat) (a : Option Addr) (l : List UInt8) (cap m : Nat) (w : World) (hl : l.length ≤ 1048576) (hm : m ≤ 4000000000000000000) (h : CurI w b a l cap m) :
    Calls Try.prog 94 #[.pointer (some ⟨b, 0, none⟩)] w (DrawnWord b a l cap (m + 66) w) := by
  have hbl := h.lt
  have H0 := Lib.hid (h.below ((Below.refl _ _).alloc (Nat.le_refl _) (.cells #[.int .i64 3, .int .i64 5, .int .i64 8, .int .i64 32] 3)))
  have G0 := Lib.hid (World.grownBy_alloc w (.cells #[.int .i64 3, .int .i64 5, .int .i64 8, .int .i64 32] 3) (some b))
  clear h
  go_enter Try.func94, Try.ntmps94
  go_wp2_with fail
  refine (curPick b a l cap m 4 _ hl (by omega) (by omega) H0.out).mono ?_
  rintro e w1 ⟨r, rfl, hr, hI1, hg1⟩
  have I1 := Lib.hid hI1
  have G1 := Lib.hid (grown_trans G0.out hg1)
  have k1 : ∀ i v, (#[.int .i64 3, .int .i64 5, .int .i64 8, .int .i64 32] : Array Value)[i]? = some v → w1.cell? ⟨w.heap.size, i, none⟩ = some v := fun i v hv => hg1.cell (by simpa using hv) (by simp; omega)
  clear hI1 hg1
  have hr4 : r < 4 := by omega
  have hrow : ∃ q : Nat, q ≤ 32 ∧ 2 ≤ q ∧ w1.cell? ⟨w.heap.size, r, none⟩ = some (.int .i64 q) := by
    rcases (show r = 0 ∨ r = 1 ∨ r = 2 ∨ r = 3 from by omega) with rfl | rfl | rfl | rfl
    · exact ⟨3, by omega, by omega, k1 0 _ rfl⟩
    · exact ⟨5, by omega, by omega, k1 1 _ rfl⟩
    · exact ⟨8, by omega, by omega, k1 2 _ rfl⟩
    · exact ⟨32, by omega, by omega, k1 3 _ rfl⟩
  obtain ⟨q, hq, hq2, hcq⟩ := hrow
  clear k1
  go_wp2_with fail
  refine (curPick b a l cap (m + 1) q _ hl (by omega) (by omega) I1.out).mono ?_
  rintro e w2 ⟨r2, rfl, hr2, hI2, hg2⟩
  have hr2' : r2 < 32 := by omega
  have I2 := Lib.hid hI2
  have G2 := Lib.hid (grown_trans G1.out hg2)
  clear hI2 hg2 I1 G1 H0 G0 hcq
  have hsz2 : w.heap.size ≤ w2.heap.size := G2.out.size
  go_wp2
  go_loopw [4] (fun v wr => ∃ (q1 : Nat) (ao : Option Addr) (cap1 : Nat) (bs : List UInt8), q1 ≤ r2 + 1 ∧ (bs.length = q1 ∧ bs.all lowB = true) ∧ v = .slice ao q1 cap1 ∧
      wr.ownsRow w.heap.size 5 1 (.slice ao q1 cap1) q1 (bs.map bval) ∧ CurI wr b a l cap (m + 2 + 2 * q1) ∧ w.grownBy wr (some b)) (fun v _ => r2 + 1 - lenOf v)
  case atStart =>
    refine ⟨0, _, _, [], Nat.zero_le _, ⟨rfl, rfl⟩, rfl, World.ownsRow_made w2 #[] 0 hsz2 (by unfold maxLen; omega) rfl, I2.out.below ((Below.refl _ _).alloc (Nat.le_refl _) _), ?_⟩
    exact grown_trans G2.out (World.grownBy_alloc w2 _ (some b))
  case round =>
    clear I2 G2
    obtain ⟨q1, ao, cap1, bs, hq1, hbs, rfl, hown, hI, hg⟩ := hrel
    have HB := Lib.hid hbs
    clear hbs
    have hszr : w.heap.size ≤ wr.heap.size := hg.size
    by_cases hlt : q1 < r2 + 1
    · have I3 := Lib.hid (hI.below ((Below.refl _ _).alloc (Nat.le_refl _) (.cells #[.int .i64 2, .int .i64 3, .int .i64 26] 3)))
      have O3 := Lib.hid (hown.alloc (.cells #[.int .i64 2, .int .i64 3, .int .i64 26] 3))
      have G3 := Lib.hid (grown_trans hg (World.grownBy_alloc wr (.cells #[.int .i64 2, .int .i64 3, .int .i64 26] 3) (some b)))
      clear hown hI hg
      go_wp2_with fail
      refine (curPick b a l cap _ 3 _ hl (by omega) (by omega) I3.out).mono ?_
      rintro e w4 ⟨r4, rfl, hr4, hI4, hg4⟩
      have k4 : ∀ i v, (#[.int .i64 2, .int .i64 3, .int .i64 26] : Array Value)[i]? = some v → w4.cell? ⟨wr.heap.size, i, none⟩ = some v := fun i v hv => hg4.cell (by simpa using hv) (by simp; omega)
      have O4 := Lib.hid (O3.out.kept hg4 (own_apart O3.out hbl))
      have I4 := Lib.hid hI4
      have G4 := Lib.hid (grown_trans G3.out hg4)
      clear hI4 hg4 I3 O3 G3
      have hrow : ∃ q : Nat, q ≤ 26 ∧ 2 ≤ q ∧ w4.cell? ⟨wr.heap.size, r4, none⟩ = some (.int .i64 q) := by
        rcases (show r4 = 0 ∨ r4 = 1 ∨ r4 = 2 from by omega) with rfl | rfl | rfl
        · exact ⟨2, by omega, by omega, k4 0 _ rfl⟩
        · exact ⟨3, by omega, by omega, k4 1 _ rfl⟩
        · exact ⟨26, by omega, by omega, k4 2 _ rfl⟩
      obtain ⟨q5, hq5, hq52, hcq⟩ := hrow
      have hr43 : r4 < 3 := by omega
      clear k4
      go_wp2_with fail
      refine (curPick b a l cap _ q5 _ hl (by omega) (by omega) I4.out).mono ?_
      rintro e w5 ⟨r5, rfl, hr5, hI5, hg5⟩
      have hr5' : r5 < 26 := by omega
      have O5 := O4.out.kept hg5 (own_apart O4.out hbl)
      have I5 := Lib.hid hI5
      have G5 := Lib.hid (grown_trans G4.out hg5)
      have hsz5 : w.heap.size ≤ w5.heap.size := G5.out.size
      clear hI5 hg5 I4 O4 G4 hcq
      have HU : Hid (Value.int .u8 (97 + (r5 : Int)) = bval (UInt8.ofNat (97 + r5))) := Lib.hid (by unfold bval; simp; omega)
      have h1u : (bval (UInt8.ofNat (97 + r5))).oneCell' = true := rfl
      go_wp2_with (at_builtin; rw [HU.out]; refine wp_app1 w5 w5 (bval (UInt8.ofNat (97 + r5))) rfl _ _ 22 rfl w.heap.size 5 (.int .u8 0) 1 Try.underlying22 Try.info5 rfl _ _ _ (by rfl) O5 (by rfl) h1u (by unfold maxLen; omega) (by omega) hsz5 (Below.refl _ _) ?_; clear O5; intro v' w6 O6 B6)
      obtain ⟨a6, cap6, rfl⟩ := own_shape O6
      go_roundw
      case rel => exact ⟨q1 + 1, a6, cap6, bs ++ [UInt8.ofNat (97 + r5)], by omega, ⟨by simp [HB.out.1], by rw [List.all_append, HB.out.2, Bool.true_and, List.all_cons, low97 hr5']; rfl⟩, rfl, by rw [List.map_append]; exact O6, (I5.out.low B6 hbl).more (by omega), grown_low G5.out B6⟩
      case measure => simp [lenOf]; omega
    · have hcv := conv_any hown
      have II := Lib.hid (hI.more (show m + 2 + 2 * q1 ≤ m + 66 by omega))
      have GG := Lib.hid hg
      clear hI hg hown
      go_wp2
      go_ret
      exact ⟨strL bs, rfl, by rw [strL_data]; unfold wordB; rw [HB.out.2, HB.out.1]; simp; omega, II.out, GG.out⟩
end Go.Proofs.Ytaedamnhobcdlaa
end

section
namespace Go.Proofs.Ytaedamnhobcdlaa
open Go.RowKit
set_option linter.unusedVariables false

def lits6 : Array Value := #[.string ⟨#[]⟩, .string ⟨#[65]⟩, .string ⟨#[45]⟩, .string ⟨#[0]⟩, .string ⟨#[122, 122]⟩, .string ⟨#[123]⟩]
theorem lits6_at (r : Nat) (h : r < 6 ∨ r = 0) : ∃ x : ByteArray, x.size ≤ 2 ∧ lits6[r]? = some (.string x) := by
  rcases (show r = 0 ∨ r = 1 ∨ r = 2 ∨ r = 3 ∨ r = 4 ∨ r = 5 from by omega) with rfl | rfl | rfl | rfl | rfl | rfl
  · exact ⟨_, by decide, rfl⟩
  · exact ⟨_, by decide, rfl⟩
  · exact ⟨_, by decide, rfl⟩
  · exact ⟨_, by decide, rfl⟩
  · exact ⟨_, by decide, rfl⟩
  · exact ⟨_, by decide, rfl⟩

set_option maxHeartbeats 2000000 in
theorem curBadWord (b : Nat) (a : Option Addr) (l : List UInt8) (cap m : Nat) (w : World) (hl : l.length ≤ 1048576) (hm : m ≤ 4000000000000000000) (h : CurI w b a l cap m) :
    Calls Try.prog 92 #[.pointer (some ⟨b, 0, none⟩)] w (DrawnStr b a l cap (m + 69) 96 w) := by
  have H := Lib.hid h
  clear h
  go_enter Try.func92, Try.ntmps92
  go_wp2_with fail
  refine (curWord b a l cap m _ hl hm H.out).mono ?_
  rintro e w1 ⟨s, rfl, hs, hI1, hg1⟩
  have I1 := Lib.hid hI1
  have G1 := Lib.hid hg1
  clear hI1 hg1 H
  go_wp2_with fail
  refine (curPick b a l cap _ 9 _ hl (by omega) (by omega) I1.out).mono ?_
  rintro e w2 ⟨r, rfl, hr, hI2, hg2⟩
  have I2 := Lib.hid hI2
  have G2 := Lib.hid (grown_trans G1.out hg2)
  clear hI2 hg2 I1 G1
  by_cases h0 : r = 0
  · subst h0
    go_wp2_with fail
    refine (curPick b a l cap _ (s.size + 1) _ hl (by omega) (by omega) I2.out).mono ?_
    rintro e w3 ⟨k, rfl, hk, hI3, hg3⟩
    have hks : k ≤ s.size := by omega
    have I3 := Lib.hid hI3
    have G3 := Lib.hid (grown_trans G2.out hg3)
    have hb3 := I3.out.lt
    clear hI3 hg3 I2 G2
    have IA := Lib.hid (I3.out.below (w' := w3.drew) (belowN 1))
    have IB := Lib.hid (I3.out.below (w' := (w3.alloc (.cells lits6 9)).drew) (((Below.refl _ _).alloc (Nat.le_refl _) _).drew))
    go_wp2
    go_region_with (go_at_call 55; refine (curPick b a l cap (m + 66 + 1 + 1) 6 _ hl (by omega) (by omega) (by first | exact IA.out | exact IB.out)).mono ?_; rintro e w4 ⟨r4, rfl, hr4, hI4, hg4⟩; obtain ⟨x, hx, hxl⟩ := lits6_at r4 hr4; have hr46 : r4 < 6 := (by omega); first | (have hq : w4.cell? ⟨w3.heap.size, r4, none⟩ = some (.string x) := hg4.cell ((lit_new w3 lits6 9 r4).trans hxl) (by simp; omega)) | (have hq : (w4.alloc (.cells #[.string ⟨#[]⟩, .string ⟨#[65]⟩, .string ⟨#[45]⟩, .string ⟨#[0]⟩, .string ⟨#[122, 122]⟩, .string ⟨#[123]⟩] 9)).cell? ⟨w4.heap.size, r4, none⟩ = some (.string x) := (lit_new w4 lits6 9 r4).trans hxl))
    all_goals
      clear hq
      go_wp2
      go_ret
    · exact ⟨_, rfl, by simp only [ByteArray.size_append, ByteArray.size_extract]; omega, hI4.more (by omega), grown_trans (grown_trans G3.out (grown_trans (World.grownBy_alloc w3 (.cells lits6 9) (some b)) (drewN_grown _ 1 _))) hg4⟩
    · exact ⟨_, rfl, by simp only [ByteArray.size_append, ByteArray.size_extract]; omega, (hI4.below ((Below.refl _ _).alloc (Nat.le_refl _) _)).more (by omega), grown_trans (grown_trans G3.out (grown_trans (drewN_grown _ 1 _) hg4)) (World.grownBy_alloc w4 _ (some b))⟩
  · have hr0 : ((r : Int) == 0) = false := by simp; omega
    by_cases h1 : r = 1
    · subst h1
      go_wp2
      go_ret
      exact ⟨_, rfl, Nat.zero_le _, I2.out.more (by omega), G2.out⟩
    · have hr1 : ((r : Int) == 1) = false := by simp; omega
      by_cases h2 : r = 2
      · subst h2
        go_wp2_with fail
        refine (curPick b a l cap _ 33 _ hl (by omega) (by omega) I2.out).mono ?_
        rintro e w3 ⟨k, rfl, hk, hI3, hg3⟩
        have hk2 : k ≤ 32 := by omega
        have I3 := Lib.hid hI3
        have G3 := Lib.hid (grown_trans G2.out hg3)
        clear hI3 hg3 I2 G2
        go_wp2
        go_ret
        exact ⟨_, rfl, by simp only [ByteArray.size_append, ByteArray.size_extract]; omega, I3.out.more (by omega), G3.out⟩
      · have hr2 : ((r : Int) == 2) = false := by simp; omega
        go_wp2
        go_ret
        exact ⟨_, rfl, by omega, I2.out.more (by omega), G2.out⟩
end Go.Proofs.Ytaedamnhobcdlaa
end

section
namespace Go.Proofs.Ytaedamnhobcdlaa
open Go.RowKit
set_option linter.unusedVariables false

/-- Behind the opening of the cursor and drawings: all that lay lies on but the cursor's block, which is new. -/
structure Drew (w W : World) (b : Nat) (a : Option Addr) (l : List UInt8) (cap m : Nat) : Prop where
  I : CurI W b a l cap m
  B : Below w.heap.size w W
  lo : w.heap.size ≤ b
section
variable {w W W' : World} {b : Nat} {a : Option Addr} {l : List UInt8} {cap m m' : Nat}
theorem Drew.pick (s : Drew w W b a l cap m) (hI : CurI W' b a l cap m') (hg : W.grownBy W' (some b)) : Drew w W' b a l cap m' := ⟨hI, below_write s.B hg s.lo, s.lo⟩
theorem Drew.below (s : Drew w W b a l cap m) (hb : Below W.heap.size W W') : Drew w W' b a l cap m := ⟨s.I.below hb, below_seq s.B hb, s.lo⟩
theorem Drew.set (s : Drew w W b a l cap m) {R k : Nat} (h : b < R) (u : Value) : Drew w (W.setCell ⟨R, k, none⟩ u) b a l cap m := by
  have BB : Below R W (W.setCell ⟨R, k, none⟩ u) := (Below.refl _ W).setCell (p := ⟨R, k, none⟩) (Nat.le_refl _) _
  exact ⟨s.I.low BB h, s.B.trans (BB.mono (by have := s.lo; omega)), s.lo⟩
theorem Drew.more (s : Drew w W b a l cap m) (hm : m ≤ m') : Drew w W b a l cap m' := ⟨s.I.more hm, s.B, s.lo⟩
end
theorem chg_set {lo hi : Nat} {W W' : World} (C : Chg lo hi W W') {R : Nat} (h1 : lo ≤ R) (h2 : R < hi) (k : Nat) (u : Value) : Chg lo hi W (W'.setCell ⟨R, k, none⟩ u) :=
  C.trans (Chg.of_grown (set_grown W' R k u) (fun j hj => by cases hj; exact ⟨h1, h2⟩))
end Go.Proofs.Ytaedamnhobcdlaa
end
