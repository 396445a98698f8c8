/- Cur, CurN in one. Written by tools/join2.py. -/
import Derived.Test.YtmkgddbdkpkgpaaJS1
import Derived.Test.YtmkgddbdkpkgpaaJS2
import Derived.Deep.QuietTactic
import Derived.BigQuiet
import Derived.Deep.RegionWith
section
namespace Go.Proofs.Ytmkgddbdkpkgpaa
open Go.RowKit
set_option linter.unusedVariables false

/-- The cursor lies whole in block b, over the code l; at most m numbers have been taken. -/
structure CurI (w : World) (b : Nat) (a : Option Addr) (l : List UInt8) (cap m : Nat) : Prop where
  blk : ∃ at' seed : Nat, w.heap[b]? = some (.cells #[.slice a l.length cap, .int .i64 at', .int .i64 seed] 84 (0, 0)) ∧ at' ≤ m ∧ seed ≤ 65536
  row : Row w a (l.map bval)
  lo : l = [] ∨ ∀ x, a = some x → x.block < b

theorem lo_map {a : Option Addr} {l : List UInt8} {b : Nat} (h : l = [] ∨ ∀ x, a = some x → x.block < b) : l.map bval = [] ∨ ∀ x, a = some x → x.block < b := by
  rcases h with h | h
  · exact .inl (by rw [h]; rfl)
  · exact .inr h
theorem lo_at {a : Option Addr} {l : List UInt8} {b : Nat} (h : l = [] ∨ ∀ x, a = some x → x.block < b) (hl : 0 < l.length) {x : Addr} (e : a = some x) : x.block ≠ b := by
  rcases h with h | h
  · subst h; simp at hl
  · have := h x e; omega
theorem CurI.low {w w' : World} {b B : Nat} {a : Option Addr} {l : List UInt8} {cap m : Nat} (h : CurI w b a l cap m) (hb : Below B w w') (hB : b < B) : CurI w' b a l cap m := by
  obtain ⟨at', seed, hk, h1, h2⟩ := h.blk
  exact ⟨⟨at', seed, (hb.block b hB).trans hk, h1, h2⟩, h.row.low hb (lo_map h.lo) (Nat.le_of_lt hB), h.lo⟩
theorem CurI.below {w w' : World} {b : Nat} {a : Option Addr} {l : List UInt8} {cap m : Nat} (h : CurI w b a l cap m) (hb : Below w.heap.size w w') : CurI w' b a l cap m := by
  obtain ⟨at', seed, hk, h1, h2⟩ := h.blk
  exact ⟨⟨at', seed, (hb.block b (cur_lt hk)).trans hk, h1, h2⟩, h.row.below hb, h.lo⟩
theorem CurI.more {w : World} {b : Nat} {a : Option Addr} {l : List UInt8} {cap m m' : Nat} (h : CurI w b a l cap m) (hm : m ≤ m') : CurI w b a l cap m' := by
  obtain ⟨at', seed, hk, h1, h2⟩ := h.blk
  exact ⟨⟨at', seed, hk, Nat.le_trans h1 hm, h2⟩, h.row, h.lo⟩
theorem CurI.lt {w : World} {b : Nat} {a : Option Addr} {l : List UInt8} {cap m : Nat} (h : CurI w b a l cap m) : b < w.heap.size := by
  obtain ⟨_, _, hk, _⟩ := h.blk
  exact cur_lt hk

/-- What 'pick' leaves: a number below n; only the cursor's block has turned. -/
def PickPost (b : Nat) (a : Option Addr) (l : List UInt8) (cap m n : Nat) (w : World) (e : Ending) (w' : World) : Prop :=
  ∃ r : Nat, e = .returned (.int .i64 r) ∧ (r < n ∨ r = 0) ∧ CurI w' b a l cap (m + 1) ∧ w.grownBy w' (some b)

theorem pick_end {w' : World} {b : Nat} {a : Option Addr} {l : List UInt8} {cap m at' seed : Nat} (hk : w'.heap[b]? = some (.cells #[.slice a l.length cap, .int .i64 at', .int .i64 seed] 84 (0, 0)))
    (hr : Row w' a (l.map bval)) (hne : l = [] ∨ ∀ x, a = some x → x.block < b) (ha : at' ≤ m) (hs : seed ≤ 65536) : CurI (w'.setCell ⟨b, 1, none⟩ (.int .i64 ((at' : Int) + 1))) b a l cap (m + 1) :=
  ⟨⟨at' + 1, seed, by rw [cur_set hk]; rfl, by omega, hs⟩, hr.grown (set_grown _ _ _ _) (lo_map hne), hne⟩

set_option maxHeartbeats 1000000 in
theorem curPick (b : Nat) (a : Option Addr) (l : List UInt8) (cap m n : Nat) (w : World) (hl : l.length ≤ 1048576) (hm : m ≤ 4611686018427387904) (hn : n ≤ 4611686018427387904) (h : CurI w b a l cap m) :
    Calls Try.prog 46 #[.pointer (some ⟨b, 0, none⟩), .int .i64 n] w (PickPost b a l cap m n w) := by
  by_cases hn2 : n < 2
  · have H := Lib.hid (h.more (Nat.le_succ m))
    clear h
    go_enter Try.func46, Try.ntmps46
    go_wp2
    go_ret
    exact ⟨0, rfl, .inr rfl, H.out, World.grownBy.refl _ _⟩
  obtain ⟨at', seed, hk, ha, hs⟩ := h.blk
  have hc0 : w.cell? ⟨b, 0, none⟩ = some (.slice a l.length cap) := cur_cell hk 0
  have hc1 : w.cell? ⟨b, 1, none⟩ = some (.int .i64 at') := cur_cell hk 1
  have hc2 : w.cell? ⟨b, 2, none⟩ = some (.int .i64 seed) := cur_cell hk 2
  have hf1 := cur_free hk 1
  have hf2 := cur_free hk 2
  have HR := Lib.hid h.row
  have HN := Lib.hid h.lo
  have HK := Lib.hid hk
  clear h hk
  by_cases hlt : at' < l.length
  · obtain ⟨cb, off, rfl, q1⟩ := HR.out.at (i := at') (by simpa using hlt)
    rw [bval_at hlt] at q1
    have hx : l[at'].toNat < 256 := l[at'].toNat_lt
    generalize l[at'].toNat = x at *
    go_enter Try.func46, Try.ntmps46
    go_wp2
    go_quiet (fail)
    go_wp2
    go_quiet (fail)
    go_wp2
    go_ret
    exact ⟨x % n, ret_int (by omega), .inl (Nat.mod_lt _ (by omega)), pick_end (w' := w.drewN _) HK.out (HR.out.drewN _) HN.out ha hs, grown_trans (drewN_grown w _ _) (set_grown _ _ _ _)⟩
  · by_cases h0 : 0 < l.length
    · have hmod : at' % l.length < l.length := Nat.mod_lt _ h0
      obtain ⟨cb, off, rfl, q1⟩ := HR.out.at (i := at' % l.length) (by simpa using hmod)
      rw [bval_at hmod] at q1
      have hx : l[at' % l.length].toNat < 256 := l[at' % l.length].toNat_lt
      generalize l[at' % l.length].toNat = x at *
      obtain ⟨sd, hsd, hsb⟩ : ∃ sd : Nat, ((seed : Int) * 1103 + 12345) % 65521 = (sd : Int) ∧ sd ≤ 65536 := ⟨(seed * 1103 + 12345) % 65521, by omega, by omega⟩
      have HD := Lib.hid hsd
      clear hsd
      have hmi : ((at' : Int) % (l.length : Int)).toNat = at' % l.length := by omega
      have hm1 : 0 ≤ (at' : Int) % (l.length : Int) := by omega
      have hm2 : (at' : Int) % (l.length : Int) < (l.length : Int) := by omega
      have hmt : (at' : Int).tmod (l.length : Int) = ((at' % l.length : Nat) : Int) := by rw [Int.tmod_eq_emod_of_nonneg (by omega)]; omega
      have hdt : (sd : Int).tdiv 7 = ((sd / 7 : Nat) : Int) := by rw [Int.tdiv_eq_ediv_of_nonneg (by omega)]; omega
      have hwr : IntKind.i64.wrap (((sd / 7 : Nat) : Int) + (x : Int)) = ((sd / 7 + x : Nat) : Int) := by rw [IntWalk.i64_in _ (by omega)]; omega
      go_enter Try.func46, Try.ntmps46
      go_wp2
      go_quiet (fail)
      go_wp2
      rw [HD.out]
      have K2 := cur_set (w := w.drewN nq) HK.out 2 (.int .i64 sd)
      have G2 := grown_trans (drewN_grown w nq (some b)) (set_grown (w.drewN nq) b 2 (.int .i64 sd))
      have d2 := G2.cell q1 (by have := lo_at HN.out h0 rfl; simpa using this)
      have R2 := HR.out.grown G2 (lo_map HN.out)
      generalize hW : (w.drewN nq).setCell ⟨b, 2, none⟩ (.int .i64 sd) = W at *
      clear hW hc0 hc1 hc2 hf1 hf2 q1
      have K2 : W.heap[b]? = some (.cells #[.slice (some ⟨cb, off, none⟩) l.length cap, .int .i64 at', .int .i64 sd] 84 (0, 0)) := K2
      have hc0 : W.cell? ⟨b, 0, none⟩ = some (.slice (some ⟨cb, off, none⟩) l.length cap) := cur_cell K2 0
      have hc1 : W.cell? ⟨b, 1, none⟩ = some (.int .i64 at') := cur_cell K2 1
      have hc2 : W.cell? ⟨b, 2, none⟩ = some (.int .i64 sd) := cur_cell K2 2
      have hf1 := cur_free K2 1
      have KK := Lib.hid K2
      have GG := Lib.hid G2
      have RR := Lib.hid R2
      clear K2 G2 R2
      go_quiet (fail)
      go_wp2
      go_ret
      exact ⟨(sd / 7 + x) % n, ret_int (by simp), .inl (Nat.mod_lt _ (by omega)), pick_end (w' := W.drewN _) KK.out (RR.out.drewN _) HN.out ha hsb, grown_trans GG.out (grown_trans (drewN_grown W _ _) (set_grown _ _ _ _))⟩
    · have hl0 : l.length = 0 := by omega
      obtain ⟨sd, hsd, hsb⟩ : ∃ sd : Nat, ((seed : Int) * 1103 + 12345) % 65521 = (sd : Int) ∧ sd ≤ 65536 := ⟨(seed * 1103 + 12345) % 65521, by omega, by omega⟩
      have HD := Lib.hid hsd
      clear hsd
      go_enter Try.func46, Try.ntmps46
      go_wp2
      go_quiet (fail)
      go_wp2
      rw [HD.out]
      have K2 := cur_set (w := w.drewN nq) HK.out 2 (.int .i64 sd)
      have G2 := grown_trans (drewN_grown w nq (some b)) (set_grown (w.drewN nq) b 2 (.int .i64 sd))
      have R2 := HR.out.grown G2 (lo_map HN.out)
      go_ret
      exact ⟨0, rfl, .inr rfl, pick_end K2 R2 HN.out ha hsb, grown_trans G2 (set_grown _ _ _ _)⟩

set_option maxHeartbeats 400000 in
theorem curOpen (a : Option Addr) (l : List UInt8) (cap : Nat) (w : World) (hl : l.length ≤ 1048576) (r : Row w a (l.map bval)) :
    Calls Try.prog 43 #[.slice a l.length cap] w fun e w' => e = .returned (.pointer (some ⟨w.heap.size, 0, none⟩)) ∧ CurI w' w.heap.size a l cap 0 ∧ Below w.heap.size w w' := by
  have R := Lib.hid r
  clear r
  go_enter Try.func43, Try.ntmps43
  go_wp2
  go_ret
  have hbel : Below w.heap.size w (w.alloc (Obj.cells #[.slice a l.length cap, .int .i64 0, .int .i64 (59 + (l.length : Int) % 1000)] 84)) := (Below.refl _ _).alloc (Nat.le_refl _) _
  refine ⟨rfl, ⟨⟨0, 59 + l.length % 1000, ?_, Nat.le_refl _, by omega⟩, R.out.below hbel, ?_⟩, hbel⟩
  · rw [heap_alloc_new]
    simp
  · rcases R.out with e | ⟨c, off, rfl, h⟩
    · exact .inl (by simpa using e)
    · by_cases h0 : l = []
      · exact .inl h0
      · refine .inr fun x hx => ?_
        have hp : 0 < l.length := List.length_pos_iff.2 h0
        have h1 := h 0 (by simpa using hp)
        rw [List.getElem?_eq_getElem (by simpa using hp)] at h1
        have := block_lt_of_cell h1
        cases hx; exact this

end Go.Proofs.Ytmkgddbdkpkgpaa
end

section
namespace Go.Proofs.Ytmkgddbdkpkgpaa
open Go.RowKit
set_option linter.unusedVariables false

theorem lit_new (w : World) (cs : Array Value) (t : TypeId) (r : Nat) : (w.alloc (.cells cs t)).cell? ⟨w.heap.size, r, none⟩ = cs[r]? := by simp
/-- What a drawing of a number leaves. -/
def DrawnInt (b : Nat) (a : Option Addr) (l : List UInt8) (cap m : Nat) (w : World) (e : Ending) (w' : World) : Prop :=
  ∃ z : Int, e = .returned (.int .i64 z) ∧ (-9223372036854775808 ≤ z ∧ z ≤ 9223372036854775807) ∧ CurI w' b a l cap m ∧ w.grownBy w' (some b)

def lits8 : Array Value := #[.int .i64 9223372036854775807, .int .i64 (-9223372036854775808), .int .i64 4611686018427387904, .int .i64 65535, .int .i64 65536, .int .i64 (-1000), .int .i64 2147483648, .int .i64 4294967296]
theorem lits8_at (r : Nat) (h : r < 8 ∨ r = 0) : ∃ z : Int, (-9223372036854775808 ≤ z ∧ z ≤ 9223372036854775807) ∧ lits8[r]? = some (.int .i64 z) := by
  rcases (show r = 0 ∨ r = 1 ∨ r = 2 ∨ r = 3 ∨ r = 4 ∨ r = 5 ∨ r = 6 ∨ r = 7 from by omega) with rfl | rfl | rfl | rfl | rfl | rfl | rfl | rfl
  · exact ⟨9223372036854775807, by omega, rfl⟩
  · exact ⟨-9223372036854775808, by omega, rfl⟩
  · exact ⟨4611686018427387904, by omega, rfl⟩
  · exact ⟨65535, by omega, rfl⟩
  · exact ⟨65536, by omega, rfl⟩
  · exact ⟨-1000, by omega, rfl⟩
  · exact ⟨2147483648, by omega, rfl⟩
  · exact ⟨4294967296, by omega, rfl⟩

set_option maxHeartbeats 1000000 in
theorem curRaw (b : Nat) (a : Option Addr) (l : List UInt8) (cap m : Nat) (w : World) (hl : l.length ≤ 1048576) (hm : m ≤ 4000000000000000000) (h : CurI w b a l cap m) :
    Calls Try.prog 49 #[.pointer (some ⟨b, 0, none⟩)] w (DrawnInt b a l cap (m + 2) w) := by
  have H := Lib.hid h
  clear h
  go_enter Try.func49, Try.ntmps49
  go_wp2_with fail
  refine (curPick b a l cap m 8 _ hl (by omega) (by omega) H.out).mono ?_
  rintro e w1 ⟨r, rfl, hr, hI1, hg1⟩
  have I1 := Lib.hid hI1
  have G1 := Lib.hid hg1
  have hbl := hI1.lt
  clear hI1 hg1 H
  by_cases h0 : r = 0
  · subst h0
    go_wp2_with fail
    refine (curPick b a l cap _ 256 _ hl (by omega) (by omega) I1.out).mono ?_
    rintro e w2 ⟨k, rfl, hk, hI2, hg2⟩
    have hk' : k < 256 := by omega
    have I2 := Lib.hid hI2
    have G2 := Lib.hid (grown_trans G1.out hg2)
    clear hI2 hg2 I1 G1
    go_wp2
    go_ret
    exact ⟨_, rfl, by omega, I2.out, G2.out⟩
  have hr0 : ((r : Int) == 0) = false := by simp; omega
  by_cases h1 : r = 1
  · subst h1
    have IB := Lib.hid (I1.out.below (w' := w1.alloc (.cells lits8 3)) ((Below.refl _ _).alloc (Nat.le_refl _) _))
    go_wp2_with fail
    refine (curPick b a l cap _ 8 _ hl (by omega) (by omega) IB.out).mono ?_
    rintro e w2 ⟨k, rfl, hk, hI2, hg2⟩
    obtain ⟨z, hz, hzl⟩ := lits8_at k hk
    have hk8 : k < 8 := by omega
    have hq : w2.cell? ⟨w1.heap.size, k, none⟩ = some (.int .i64 z) := hg2.cell ((lit_new w1 lits8 3 k).trans hzl) (by simp; omega)
    have I2 := Lib.hid hI2
    have G2 := Lib.hid (grown_trans G1.out (grown_trans (World.grownBy_alloc w1 (.cells lits8 3) (some b)) hg2))
    clear hI2 hg2 I1 G1 IB hzl
    go_wp2
    go_ret
    exact ⟨z, rfl, hz, I2.out, G2.out⟩
  have hr1 : ((r : Int) == 1) = false := by simp; omega
  go_wp2_with fail
  refine (curPick b a l cap _ 14 _ hl (by omega) (by omega) I1.out).mono ?_
  rintro e w2 ⟨k, rfl, hk, hI2, hg2⟩
  have hk' : k < 14 := by omega
  have I2 := Lib.hid hI2
  have G2 := Lib.hid (grown_trans G1.out hg2)
  clear hI2 hg2 I1 G1
  go_wp2
  go_ret
  exact ⟨_, rfl, by omega, I2.out, G2.out⟩
set_option maxHeartbeats 1000000 in
theorem curSize (b : Nat) (a : Option Addr) (l : List UInt8) (cap m n : Nat) (w : World) (hl : l.length ≤ 1048576) (hm : m ≤ 4000000000000000000) (hn : n ≤ 1000000) (h : CurI w b a l cap m) :
    Calls Try.prog 87 #[.pointer (some ⟨b, 0, none⟩), .int .i64 n] w (PickPost b a l cap m (n + 1) w) := by
  obtain ⟨at', seed, hk, ha, hs⟩ := h.blk
  have hc0 : w.cell? ⟨b, 0, none⟩ = some (.slice a l.length cap) := cur_cell hk 0
  have H := Lib.hid h
  clear h hk
  have hmd : (l.length : Int).tdiv 8 = (l.length : Int) / 8 := Int.tdiv_eq_ediv_of_nonneg (by omega)
  go_enter Try.func87, Try.ntmps87
  go_wp2_with fail
  all_goals
    first
    | (rw [show (n : Int) + 1 = ((n + 1 : Nat) : Int) from by omega]
       refine (curPick b a l cap m (n + 1) _ hl (by omega) (by omega) H.out).mono ?_)
    | (rw [show 1 + (l.length : Int) / 8 + 1 = ((1 + l.length / 8 + 1 : Nat) : Int) from by omega]
       refine (curPick b a l cap m (1 + l.length / 8 + 1) _ hl (by omega) (by omega) H.out).mono ?_)
    rintro e w1 ⟨r, rfl, hr, hI1, hg1⟩
    have I1 := Lib.hid hI1
    have G1 := Lib.hid hg1
    have hr' : r < n + 1 ∨ r = 0 := by omega
    clear hI1 hg1 H hr
    go_wp2
    go_ret
    exact ⟨r, rfl, hr', I1.out, G1.out⟩
/-- What a drawing of a bool leaves. -/
def DrawnBool (b : Nat) (a : Option Addr) (l : List UInt8) (cap m : Nat) (w : World) (e : Ending) (w' : World) : Prop :=
  ∃ z : Bool, e = .returned (.bool z) ∧ CurI w' b a l cap m ∧ w.grownBy w' (some b)
set_option maxHeartbeats 1000000 in
theorem curOnce (b : Nat) (a : Option Addr) (l : List UInt8) (cap m n : Nat) (w : World) (hl : l.length ≤ 1048576) (hm : m ≤ 4000000000000000000) (hn : n ≤ 1000000) (h : CurI w b a l cap m) :
    Calls Try.prog 48 #[.pointer (some ⟨b, 0, none⟩), .int .i64 n] w (DrawnBool b a l cap (m + 1) w) := by
  have H := Lib.hid h
  clear h
  go_enter Try.func48, Try.ntmps48
  go_wp2_with fail
  refine (curPick b a l cap m n _ hl (by omega) (by omega) H.out).mono ?_
  rintro e w1 ⟨r, rfl, hr, hI1, hg1⟩
  have I1 := Lib.hid hI1
  have G1 := Lib.hid hg1
  clear hI1 hg1 H
  go_wp2
  go_ret
  exact ⟨_, rfl, I1.out, G1.out⟩
end Go.Proofs.Ytmkgddbdkpkgpaa
end
