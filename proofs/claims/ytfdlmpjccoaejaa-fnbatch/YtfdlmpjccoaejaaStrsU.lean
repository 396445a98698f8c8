/- Slices of strings in the laws' uniform form: read, owned; the helpers over them. -/
import Derived.Test.YtfdlmpjccoaejaaStrs
import Derived.Test.YtfdlmpjccoaejaaSeg
import Derived.Test.YtfdlmpjccoaejaaReads
import Derived.Test.YtfdlmpjccoaejaaArrG
import Derived.Test.YtfdlmpjccoaejaaInts
namespace Go.Proofs.Ytfdlmpjccoaejaa
open Go.RowKit Go.ChangeShapes Go.WideShapes Go.Deep
set_option linter.unusedVariables false

/-- The one cell holds a slice that reads as l. -/
def StringSIn (cs : List Value) (l : List (List UInt8)) (w : World) : Prop := ∃ a cap, cs = [.slice a l.length cap] ∧ l.length ≤ cap ∧ l.length ≤ maxLen ∧ Row w a (l.map sval)
/-- .. and lies in blocks from lo to hi, which the call owns. -/
def StringSOwn (lo hi : Nat) (cs : List Value) (l : List (List UInt8)) (w : World) : Prop :=
  ∃ a cap, cs = [.slice a l.length cap] ∧ w.ownsRow lo 9 1 (.slice a l.length cap) l.length (l.map sval) ∧ ∀ k, Value.ownBlock (.slice a l.length cap) = some k → k < hi
theorem StringSOwn.read {lo hi : Nat} {cs : List Value} {l : List (List UInt8)} {w : World} (h : StringSOwn lo hi cs l w) : StringSIn cs l w := by
  obtain ⟨a, cap, rfl, ho, _⟩ := h
  have hc := own_cap ho
  refine ⟨a, cap, rfl, hc, ?_, Row.of_own ho⟩
  rcases ho.2 with ⟨hv, hn⟩ | ⟨g, cap', cur, hv, _, _, _, h2, _⟩
  · rw [hn]; unfold maxLen; omega
  · simp at hv; omega
theorem StringSOwn.lies {lo hi : Nat} {cs : List Value} {l : List (List UInt8)} {w : World} (h : StringSOwn lo hi cs l w) (ht : hi ≤ w.heap.size) : Lies w lo hi (StringSOwn lo hi cs l) := by
  refine ⟨h, ht, fun w2 e => ?_⟩
  obtain ⟨a, cap, rfl, ho, hh⟩ := h
  exact ⟨a, cap, rfl, own_sup ho hh e, hh⟩
theorem StringSIn.lies {cs : List Value} {l : List (List UInt8)} {w : World} (h : StringSIn cs l w) : Lies w 0 w.heap.size (StringSIn cs l) := by
  obtain ⟨a, cap, rfl, h1, h2, hr⟩ := h
  exact ⟨⟨a, cap, rfl, h1, h2, hr⟩, Nat.le_refl _, fun w2 e => ⟨a, cap, rfl, h1, h2, (lies_row hr).sup w2 e⟩⟩
theorem StringSOwn.wide {lo hi lo' hi' : Nat} {cs : List Value} {l : List (List UInt8)} {w : World} (h : StringSOwn lo hi cs l w) (h1 : lo' ≤ lo) (h2 : hi ≤ hi') : StringSOwn lo' hi' cs l w := by
  obtain ⟨a, cap, rfl, ho, hh⟩ := h
  exact ⟨a, cap, rfl, own_base ho h1, fun k hk => Nat.lt_of_lt_of_le (hh k hk) h2⟩
theorem StringSOwn.mk {lo n cap : Nat} {a : Option Addr} {l : List (List UInt8)} {w : World} (h : w.ownsRow lo 9 1 (.slice a n cap) n (l.map sval)) : StringSOwn lo w.heap.size [.slice a n cap] l w := by
  have hn : l.length = n := by simpa using h.1
  subst hn
  exact ⟨a, cap, rfl, h, own_top h⟩
def sumL : List (List UInt8) → Nat
  | [] => 0
  | s :: r => s.length + sumL r
theorem sumL_snoc : ∀ (l : List (List UInt8)) (s : List UInt8), sumL (l ++ [s]) = sumL l + s.length
  | [], s => by simp [sumL]
  | x :: l, s => by rw [List.cons_append, sumL, sumL, sumL_snoc l s]; omega
theorem sumL_take (l : List (List UInt8)) (k : Nat) : sumL (l.take k) ≤ sumL l := by
  induction l generalizing k with
  | nil => simp
  | cons x l ih =>
    cases k with
    | zero => simp [sumL]
    | succ k => rw [List.take_succ_cons, sumL, sumL]; have := ih k; omega
def szStringS (l : List (List UInt8)) : Nat := l.length + sumL l
def mcStringS (l : List (List UInt8)) : Nat := l.length
theorem mcStringS_le {l : List (List UInt8)} (h : szStringS l ≤ 1048576) : mcStringS l ≤ 1000000000000 := by unfold szStringS at h; unfold mcStringS; omega
def mkStringS (k : Nat) (l : List (List UInt8)) : List (List UInt8) := (List.range l.length).map fun i => markL (k + i)
theorem mkStringS_length (k : Nat) (l : List (List UInt8)) : (mkStringS k l).length = l.length := by simp [mkStringS]
theorem mkStringS_row (k : Nat) (l : List (List UInt8)) : (mkStringS k l).map sval = marksS k l.length := by
  unfold mkStringS marksS
  rw [List.map_map]
  rfl
theorem StringSOwn.shape {lo hi : Nat} {c : Value} {l : List (List UInt8)} {w : World} (h : StringSOwn lo hi [c] l w) : ∃ a n cap, c = .slice a n cap := by
  obtain ⟨a, cap, hc, _⟩ := h
  simp at hc
  exact ⟨a, _, cap, hc⟩
theorem stringSIn_shape {c : Value} {l : List (List UInt8)} {w : World} (h : StringSIn [c] l w) : ∃ a cap, c = .slice a l.length cap ∧ l.length ≤ cap ∧ l.length ≤ maxLen ∧ Row w a (l.map sval) := by
  obtain ⟨a, cap, hc, h1, h2, h3⟩ := h
  simp at hc
  exact ⟨a, cap, hc, h1, h2, h3⟩
theorem uMarkStringS (lo hi k : Nat) (c : Value) (l : List (List UInt8)) (w : World) (hk : k + mcStringS l ≤ 4611686018427387904) (h : StringSOwn lo hi [c] l w) :
    Calls Try.prog 36 #[c, .int .i64 k] w (MarkPost (StringSOwn lo hi [c] (mkStringS k l)) lo hi (k + mcStringS l) w) := by
  obtain ⟨a, cap, hc, ho, hh⟩ := h
  simp at hc
  subst hc
  rcases ho.2 with ⟨hv, hn⟩ | ⟨g, cap', cur, hv, _⟩
  · simp at hv
    obtain ⟨rfl, h0, rfl⟩ := hv
    have e : l = [] := List.eq_nil_of_length_eq_zero (by omega)
    subst e
    refine (lawsMarkStringSNil k w).mono ?_
    rintro e w' ⟨rfl, rfl⟩
    exact ⟨k, rfl, rfl, ⟨none, 0, rfl, ⟨rfl, .inl ⟨rfl, rfl⟩⟩, fun k hk => by simp [Value.ownBlock] at hk⟩, Chg.refl _ _ _⟩
  · simp at hv
    obtain ⟨rfl, rfl⟩ := hv
    refine (lawsMarkStringS lo g l.length cap k _ w hk ho).mono ?_
    rintro e w' ⟨rfl, h1, h2⟩
    refine ⟨_, rfl, rfl, ⟨_, cap, by rw [mkStringS_length], by rw [mkStringS_length, mkStringS_row]; exact h1, by rw [mkStringS_length]; exact hh⟩, Chg.of_grown h2 (fun b hb => ?_)⟩
    have hg : Value.ownBlock (.slice (some ⟨g, 0, none⟩) l.length cap) = some g := rfl
    simp at hb
    subst hb
    exact ⟨(ho.lt g hg).1, hh g hg⟩
theorem uHeldStringS (k : Nat) (c : Value) (l : List (List UInt8)) (w : World) (hk : k + mcStringS l ≤ 4611686018427387904) (h : StringSIn [c] (mkStringS k l) w) :
    Calls Try.prog 43 #[c, .int .i64 k] w (HeldPost (k + mcStringS l) w) := by
  obtain ⟨a, cap, hc, _, _, hr⟩ := h
  simp at hc
  subst hc
  rw [mkStringS_row] at hr
  rw [mkStringS_length]
  exact (lawsHeldStringS a l.length cap k w hk hr).mono (by rintro e w' ⟨rfl, hb⟩; exact ⟨_, rfl, rfl, hb⟩)
theorem uEqStringS (c d : Value) (l : List (List UInt8)) (w : World) (h1 : StringSIn [c] l w) (h2 : StringSIn [d] l w) :
    Calls Try.prog 35 #[c, d] w (TruePost w) := by
  obtain ⟨a, cap, hc, _, hm1, hr⟩ := h1
  obtain ⟨a2, cap2, hc2, _, hm2, hr2⟩ := h2
  simp at hc hc2
  subst hc hc2
  refine (lawsEqStringS a a2 cap cap2 l l w hm1 hm2 hr hr2).mono ?_
  rintro e w' ⟨rfl, n, rfl⟩
  exact ⟨by rw [beq_self_eq_true], belowN n⟩
def StringSRet (l : List (List UInt8)) (w : World) (e : Ending) (w' : World) : Prop := ∃ c, e = .returned c ∧ StringSOwn w.heap.size w'.heap.size [c] l w' ∧ Below w.heap.size w w'
theorem nil_strs (lo hi : Nat) (w : World) : StringSOwn lo hi [.slice none 0 0] [] w := ⟨none, 0, rfl, ⟨rfl, .inl ⟨rfl, rfl⟩⟩, fun k hk => by simp [Value.ownBlock] at hk⟩
theorem StringSIn.below {c : Value} {l : List (List UInt8)} {w w' : World} (h : StringSIn [c] l w) (hb : Below w.heap.size w w') : StringSIn [c] l w' := (h.lies.below hb).now
/-- A row of strings read at a place. -/
theorem str_at {c : Value} {l : List (List UInt8)} {w : World} (h : StringSIn [c] l w) {i : Nat} (hi : i < l.length) : ∃ b off cap, c = .slice (some ⟨b, off, none⟩) l.length cap ∧ w.cell? ⟨b, off + i, none⟩ = some (.string (strL l[i])) := by
  obtain ⟨a, cap, rfl, _, _, hr⟩ := stringSIn_shape h
  obtain ⟨b, off, rfl, q⟩ := hr.at (i := i) (by simpa using hi)
  exact ⟨b, off, cap, rfl, q.trans (sval_at hi)⟩
theorem Try.infoStr : (Try.prog.info? 9).map (fun i => (i.zero, i.size, i.bytes)) = some (some (.string ⟨#[]⟩), 1, 16) := by kernel_rfl
/-- The first k by G, the others by Z. -/
def progG (G Z : Nat → Value) (k : Nat) : Nat → Value := fun i => if i < k then G i else Z i
theorem progG_set (G Z : Nat → Value) (k : Nat) : updG (progG G Z k) k (G k) = progG G Z (k + 1) := by
  funext j
  unfold updG progG
  by_cases e : j = k
  · subst e; simp
  · rw [if_neg e]
    by_cases h : j < k
    · rw [if_pos h, if_pos (by omega)]
    · rw [if_neg h, if_neg (by omega)]
theorem progG_zero (G Z : Nat → Value) : progG G Z 0 = Z := by funext j; unfold progG; simp
theorem progG_at (G Z : Nat → Value) (k : Nat) : progG G Z k k = Z k := by unfold progG; rw [if_neg (by omega)]
/-- A whole block of strings is a row of the call's own. -/
theorem strs_own {w : World} {b n base : Nat} {F : Nat → Value} {l : List (List UInt8)} (h : ArrG w b 9 n F) (hb : base ≤ b) (hn : n ≤ maxLen) (hl : l.length = n) (he : ∀ i (hi : i < l.length), F i = sval l[i]) : StringSOwn base w.heap.size [.slice (some ⟨b, 0, none⟩) n n] l w := by
  have := ArrG.own h hb hn
  have e : (List.range n).map F = l.map sval := by
    apply List.ext_getElem
    · simp [hl]
    intro i h1 h2
    simp only [List.getElem_map, List.getElem_range]
    exact he i (by simpa using h2)
  rw [e] at this
  exact StringSOwn.mk this
set_option maxRecDepth 100000 in
set_option maxHeartbeats 1000000 in
theorem uToStringS (c : Value) (l : List (List UInt8)) (w : World) (hl : szStringS l ≤ 1048576) (h : StringSIn [c] l w) : Calls Try.prog 33 #[c] w (StringSRet l w) := by
  have HI := Lib.hid h
  obtain ⟨a, cap, rfl, _, h2, _⟩ := stringSIn_shape h
  have hl2 : l.length ≤ 1048576 := by unfold szStringS at hl; omega
  clear h hl h2
  obtain ⟨i0, hi, hz0, hz1, hz2⟩ := info_parts Try.infoStr
  go_enter Try.func33, Try.ntmps33
  go_wp2_with (at_make; refine wpList_make_full _ rfl _ _ 24 rfl w.heap.size 9 i0 (.string ⟨#[]⟩) 1 Try.underlying24 hi hz0 hz1 .i64 .i64 _ _ l.length rfl rfl rfl rfl (by rw [hz2]; omega) (by unfold maxLen; omega) (Nat.le_refl _) ?_)
  clear hi hz0 hz1 hz2
  intro w2 hown hgr
  rw [toList_madeCells_one] at hown
  have A0 : Hid (ArrG w2 w.heap.size 9 l.length (progG (fun i => sval (l.getD i [])) (fun _ => .string ⟨#[]⟩) 0) ∧ Below w.heap.size w w2) := Lib.hid ⟨by rw [progG_zero]; exact own_arrG hown, grown_below hgr⟩
  clear hown hgr
  go_wp2
  go_loopw [4] (fun i wr => ∃ k : Nat, k ≤ l.length ∧ i = .int .i64 k ∧ Hid (ArrG wr w.heap.size 9 l.length (progG (fun i => sval (l.getD i [])) (fun _ => .string ⟨#[]⟩) k) ∧ Below w.heap.size w wr)) (fun i _ => l.length - (intOf i).toNat)
  case atStart => exact ⟨0, Nat.zero_le _, rfl, A0⟩
  case round =>
    clear A0
    obtain ⟨k, hk, rfl, H⟩ := hrel
    by_cases hlt : k < l.length
    · obtain ⟨b1, o1, cap1', e1, q1⟩ := str_at (HI.out.below H.out.2) hlt
      simp at e1
      obtain ⟨rfl, rfl⟩ := e1
      have hc := H.out.1.cell hlt
      rw [progG_at] at hc
      have hf := H.out.1.free k
      have RS := Lib.hid (progG_set (fun i => sval (l.getD i [])) (fun _ => .string ⟨#[]⟩) k)
      have R := Lib.hid (And.intro (H.out.1.set k (sval (l.getD k []))) (H.out.2.setCell (p := ⟨w.heap.size, k, none⟩) (Nat.le_refl _) (sval (l.getD k []))))
      rw [RS.out] at R
      have eg : sval (l.getD k []) = .string (strL l[k]) := by simp [sval, List.getD, hlt]
      rw [eg] at R
      clear H RS eg
      generalize strL l[k] = y at *
      go_wp2
      go_roundw
      case rel => exact ⟨k + 1, by omega, by go_num, R⟩
      case measure => simp [intOf]; omega
    · have hk' : k = l.length := by omega
      subst hk'
      go_wp2
      go_ret
      exact ⟨_, rfl, strs_own H.out.1 (Nat.le_refl _) (by unfold maxLen; omega) rfl (fun i hi => by unfold progG; rw [if_pos hi]; simp [List.getD, hi]), H.out.2⟩
set_option maxRecDepth 100000 in
set_option maxHeartbeats 1000000 in
theorem uSzStringS (c : Value) (l : List (List UInt8)) (left : Int) (w : World) (h0 : 0 ≤ left) (h1 : left ≤ 1048576) (h : StringSIn [c] l w) (hb : ∀ s ∈ l, s.length ≤ maxLen) :
    Calls Try.prog 32 #[c, .int .i64 left] w fun e w' => e = .returned (.int .i64 (szI left (szStringS l))) ∧ Below w.heap.size w w' := by
  have HI := Lib.hid h
  obtain ⟨a, cap, rfl, _, h2, _⟩ := stringSIn_shape h
  have HB := Lib.hid hb
  unfold maxLen at h2
  clear h hb
  by_cases g : left - (l.length : Int) < 0
  · have E : Hid (szI left (szStringS l) = -1) := Lib.hid (szI_no (by unfold szStringS; omega))
    go_enter Try.func32, Try.ntmps32
    go_wp2
    go_ret
    exact ⟨ret_int E.out.symm, Below.refl _ _⟩
  have SZ : Hid (szStringS l = l.length + sumL l) := Lib.hid rfl
  go_enter Try.func32, Try.ntmps32
  go_wp2
  go_loop [1, 5] (fun lv i => ∃ (k : Nat) (z : Int), k ≤ l.length ∧ i = .int .i64 k ∧ lv = .int .i64 z ∧ 0 ≤ z ∧ z ≤ 1048576 ∧ Hid (z = left - l.length - sumL (l.take k))) (fun _ i => l.length - (intOf i).toNat)
  case atStart => exact ⟨0, _, Nat.zero_le _, rfl, rfl, by omega, by omega, Lib.hid (by simp [sumL])⟩
  case round =>
    obtain ⟨k, z, hk, rfl, rfl, hz0, hz1, HZ⟩ := hrel
    by_cases hlt : k < l.length
    · obtain ⟨b1, o1, cap1', e1, q1⟩ := str_at HI.out hlt
      simp at e1
      obtain ⟨rfl, rfl⟩ := e1
      have hs : (strL l[k]).size ≤ 9223372036854775807 := by have := HB.out _ (List.getElem_mem hlt); unfold maxLen at this; rw [strL_size]; omega
      have HN : Hid (z - ((strL l[k]).size : Int) = left - l.length - sumL (l.take (k + 1))) := Lib.hid (by rw [List.take_succ_eq_append_getElem hlt, sumL_snoc, HZ.out, strL_size]; omega)
      have HT := Lib.hid (sumL_take l (k + 1))
      generalize strL l[k] = y at *
      by_cases g2 : z - (y.size : Int) < 0
      · have E : Hid (szI left (szStringS l) = -1) := Lib.hid (szI_no (by rw [SZ.out]; have := HN.out; have := HT.out; omega))
        go_wp2
        go_ret
        exact ⟨ret_int E.out.symm, Below.refl _ _⟩
      · go_wp2
        go_round
        case rel => exact ⟨k + 1, _, by omega, by go_num, rfl, by omega, by omega, HN⟩
        case measure => simp [intOf]; omega
    · have E : Hid (szI left (szStringS l) = z) := Lib.hid (by
        have e := HZ.out
        rw [List.take_of_length_le (by omega)] at e
        rw [szI_yes (by rw [SZ.out]; omega), SZ.out]; omega)
      go_wp2
      go_ret
      exact ⟨ret_int E.out.symm, Below.refl _ _⟩
/-- A slice of strings. -/
theorem Rd.strs {w : World} {t e : TypeId} {cs : List Value} (h : Rd w t cs) (ht : Try.prog.underlying t = some (.slice e)) (he : Try.prog.underlying e = some .string) (hc : Try.prog.cellsOf e = 1) :
    ∃ (a : Option Addr) (cap : Nat) (l : List (List UInt8)), cs = [.slice a l.length cap] ∧ l.length ≤ cap ∧ cap ≤ maxLen ∧ Row w a (l.map sval) ∧ ∀ z ∈ l, z.length ≤ maxLen := by
  rcases h.slice ht with rfl | ⟨a, len, cap, rfl, hl, hm, hi⟩
  · exact ⟨none, 0, [], rfl, Nat.le_refl _, by unfold maxLen; omega, .inl rfl, fun z hz => by simp at hz⟩
  · have key : ∀ i, i < len → ∃ z : List UInt8, w.cell? (a.add i) = some (sval z) ∧ z.length ≤ maxLen := fun i hlt => by
      obtain ⟨cs', h1, h2⟩ := hi i (by omega)
      rw [hc, Nat.mul_one] at h1
      obtain ⟨z, rfl, hz⟩ := h2.str he
      exact ⟨z.data.toList, cell_of_cells?_one h1, by rw [len_data]; exact hz⟩
    obtain ⟨V, hV⟩ := choose_lt key
    refine ⟨some a, cap, (List.range len).map V, by simp, by simpa using hl, hm, ?_, ?_⟩
    · by_cases h0 : len = 0
      · subst h0; exact .inl rfl
      · obtain ⟨b, off, spot⟩ := a
        have hspot : spot = none := by simpa [Addr.add] using World.cell?_spot (hV 0 (by omega)).1
        subst hspot
        refine .inr ⟨b, off, rfl, fun i hi => ?_⟩
        have hlt : i < len := by simpa using hi
        have e := (hV i hlt).1
        have ea : (⟨b, off, none⟩ : Addr).add i = ⟨b, off + i, none⟩ := by simp [Addr.add]
        rw [ea] at e
        rw [e]
        simp [hlt]
    · intro z hz
      obtain ⟨i, hi, rfl⟩ := List.mem_map.1 hz
      exact (hV i (by simpa using hi)).2
theorem argStringS {w : World} {v : Value} (h : Arg w 24 v) : ∃ c m, v = c ∧ StringSIn [c] m w ∧ ∀ s ∈ m, s.length ≤ maxLen := by
  obtain ⟨a, len, cap, rfl, hr⟩ := h.slice Try.underlying24
  obtain ⟨a', cap', l, hc, h1, h2, h3, h4⟩ := hr.strs Try.underlying24 Try.underlying9 (by kernel_rfl)
  simp at hc
  obtain ⟨rfl, rfl, rfl⟩ := hc
  exact ⟨_, l, rfl, ⟨a, cap, rfl, by omega, by omega, h3⟩, h4⟩
end Go.Proofs.Ytfdlmpjccoaejaa
