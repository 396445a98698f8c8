/- What 'Unpad' answers, in the model of the document and in the program. -/
import Derived.Test.YtkcplnmhonhmaaaBase
import Derived.Test.YtkcplnmhonhmaaaPad
import Derived.Test.YtkcplnmhonhmaaaBigIs
import Derived.Deep.RegionWith
namespace Go.Proofs.Ytkcplnmhonhmaaa
open Go.RowKit
set_option linter.unusedVariables false

/-- string(b) of a slice of bytes that lies in memory, cut or not. -/
theorem conv_row {w : World} {b off n cap : Nat} {l : List UInt8} (hn : l.length = n) (h : ∀ i, i < l.length → w.cell? ⟨b, off + i, none⟩ = (l.map bval)[i]?) :
    (convert 22 9 (.slice (some ⟨b, off, none⟩) n cap)).run Try.prog w = .ok (.string (strL l)) w := by
  have e : strL l = strOfNums (l.map fun c => (c.toNat : Int)) := by
    unfold strL strOfNums; congr 1; simp [Function.comp_def]
  rw [e]
  refine run_convert_bytes_arg w 22 5 Try.underlying22 Try.underlying5 b off n cap _ (by simpa using hn) ?_ 9 Try.underlying9
  intro i hi
  rw [h i (by omega)]
  have hl : i < l.length := by omega
  simp [bval, hl]

theorem strL_toList (l : List UInt8) : (strL l).toList = l := ByteArray.toList_mk l

set_option maxHeartbeats 400000 in
theorem bytesEqual (b1 o1 n1 c1 b2 o2 n2 c2 : Nat) (l1 l2 : List UInt8) (w : World) (hn1 : l1.length = n1) (hn2 : l2.length = n2)
    (r1 : ∀ i, i < l1.length → w.cell? ⟨b1, o1 + i, none⟩ = (l1.map bval)[i]?) (r2 : ∀ i, i < l2.length → w.cell? ⟨b2, o2 + i, none⟩ = (l2.map bval)[i]?) :
    Calls Try.prog 43 #[.slice (some ⟨b1, o1, none⟩) n1 c1, .slice (some ⟨b2, o2, none⟩) n2 c2] w fun e w' => e = .returned (.bool (l1 == l2)) ∧ w = w' := by
  have v1 := conv_row (cap := c1) hn1 r1
  have v2 := conv_row (cap := c2) hn2 r2
  clear r1 r2
  go_enter Try.func43, Try.ntmps43
  go_wp2
  go_ret
  exact ⟨ret_bool (by rw [strL_toList, strL_toList]), rfl⟩

/-- The word that a padded form tells of. -/
def inner (d : List UInt8) : List UInt8 := (d.drop 1).take (d.getD 0 0).toNat
def unpB (d : List UInt8) : Bool := decide (d.length = 33) && decide ((d.getD 0 0).toNat ≤ 32) && wordB (inner d) && (padL (inner d) == d)
def unpL (d : List UInt8) : List UInt8 := if unpB d then inner d else []
theorem ret_pair {a b : ByteArray} {c d : Bool} (h : a = b) (k : c = d) : Ending.returned (.tuple #[.string a, .bool c]) = .returned (.tuple #[.string b, .bool d]) := by rw [h, k]
theorem unp_no {d : List UInt8} (h : unpB d = false) : unpL d = [] := by unfold unpL; rw [h]; rfl
theorem unp_yes {d : List UInt8} (h : unpB d = true) : unpL d = inner d := by unfold unpL; rw [h]; rfl
theorem unp_len {d : List UInt8} (h : d.length ≠ 33) : unpB d = false := by unfold unpB; simp [h]
theorem unp_big {d : List UInt8} (h : ¬ (d.getD 0 0).toNat ≤ 32) : unpB d = false := by unfold unpB; simp only [h, decide_false, Bool.and_false, Bool.false_and]
theorem unp_small {d : List UInt8} (h : (d.getD 0 0).toNat < 1) : unpB d = false := by
  have e : inner d = [] := by unfold inner; rw [show (d.getD 0 0).toNat = 0 from by omega, List.take_zero]
  unfold unpB; rw [e]; simp [wordB]
theorem unp_word {d : List UInt8} (h : wordB (inner d) = false) : unpB d = false := by unfold unpB; simp only [h, Bool.and_false, Bool.false_and]
theorem unp_at {d : List UInt8} (h1 : d.length = 33) (h2 : (d.getD 0 0).toNat ≤ 32) (h3 : wordB (inner d) = true) : unpB d = (padL (inner d) == d) := by
  unfold unpB; simp only [h1, h2, h3, decide_true, Bool.true_and]
theorem inner_length {d : List UInt8} (h1 : d.length = 33) (h2 : (d.getD 0 0).toNat ≤ 32) : (inner d).length = (d.getD 0 0).toNat := by
  unfold inner; rw [List.length_take, List.length_drop, h1]; omega
theorem inner_row {w : World} {b off : Nat} {d : List UInt8} (h1 : d.length = 33) (h : ∀ i, i < (d.map bval).length → w.cell? ⟨b, off + i, none⟩ = (d.map bval)[i]?) :
    ∀ i, i < (inner d).length → w.cell? ⟨b, off + 1 + i, none⟩ = ((inner d).map bval)[i]? := by
  intro i hi
  have hi' : i < (d.getD 0 0).toNat ∧ 1 + i < d.length := by
    unfold inner at hi; rw [List.length_take, List.length_drop] at hi; omega
  rw [Nat.add_assoc, h (1 + i) (by simpa using hi'.2)]
  unfold inner
  rw [List.map_take, List.map_drop, List.getElem?_take_of_lt hi'.1, List.getElem?_drop]

theorem own_cells {w : World} {base g n cap : Nat} {l : List UInt8} (h : w.ownsRow base 5 1 (.slice (some ⟨g, 0, none⟩) n cap) n (l.map bval)) (hn : l.length = n) :
    ∀ i, i < l.length → w.cell? ⟨g, 0 + i, none⟩ = (l.map bval)[i]? := by
  intro i hi; rw [Nat.zero_add]; exact h.cellAt i (by omega)
theorem cells_below {w w' : World} {b off : Nat} {l : List UInt8} (h : ∀ i, i < l.length → w.cell? ⟨b, off + i, none⟩ = (l.map bval)[i]?) (hb : Below w.heap.size w w') :
    ∀ i, i < l.length → w'.cell? ⟨b, off + i, none⟩ = (l.map bval)[i]? := by
  intro i hi
  have h1 := h i hi
  rw [← h1]
  refine hb.cell ?_
  rw [List.getElem?_eq_getElem (by simpa using hi)] at h1
  exact block_lt_of_cell h1

set_option maxHeartbeats 1000000 in
theorem implUnpad (cap : Nat) (a : Option Addr) (d : List UInt8) (w : World) (hl : d.length ≤ maxLen) (hcap : d.length ≤ cap) (r : Row w a (d.map bval)) :
    Calls Try.prog 42 #[.slice a d.length cap] w fun e w' => e = .returned (.tuple #[.string (strL (unpL d)), .bool (unpB d)]) ∧ Below w.heap.size w w' := by
  unfold maxLen at hl
  by_cases h1 : d.length = 33
  · rcases r with r | ⟨b, off, rfl, r⟩
    · simp at r; subst r; simp at h1
    have c0 := r 0 (by simp [h1])
    have h0 : 0 < d.length := by omega
    rw [bval_at h0] at c0
    have hg : d.getD 0 0 = d[0] := by simp [List.getD, h0]
    have hx : d[0].toNat < 256 := d[0].toNat_lt
    rw [Nat.add_zero] at c0
    have U1 := Lib.hid (fun k => unp_big (d := d) k)
    have U2 := Lib.hid (fun k => unp_word (d := d) k)
    have U3 := Lib.hid (fun k => unp_at (d := d) h1 k)
    have LI := Lib.hid (fun k => inner_length (d := d) h1 k)
    have RI := Lib.hid (inner_row h1 r)
    have R : Hid (∀ i, i < d.length → w.cell? ⟨b, off + i, none⟩ = (d.map bval)[i]?) := Lib.hid (fun i hi => r i (by simpa using hi))
    have H1 := Lib.hid h1
    have hB : ((d.length : Int) != 33) = false := by simp [h1]
    have hd1 : 33 ≤ d.length := by omega
    have hd2 : d.length ≤ 33 := by omega
    rw [hg] at U1 U3 LI
    clear r h1 hg
    generalize d[0].toNat = n at *
    by_cases h2 : n ≤ 32
    · have LI' := LI.out h2
      have hcv := conv_row (cap := cap - 1) LI' RI.out
      have LL := Lib.hid LI'
      clear LI' LI U1 RI
      have hs : (strL (inner d)).size ≤ maxLen := by rw [strL_size, LL.out]; unfold maxLen; omega
      go_enter Try.func42, Try.ntmps42
      go_wp2_with fail
      refine (implWordOk _ _ hs).mono ?_
      rintro e w' ⟨rfl, rfl⟩
      rw [strL_data]
      cases hw : wordB (inner d)
      · have e := U2.out hw
        have E := Lib.hid (And.intro (unp_no e) e)
        clear e hw
        go_wp2
        go_ret2
        exact ⟨ret_pair (by rw [E.out.1]; rfl) E.out.2.symm, Below.refl _ _⟩
      · have E3 := Lib.hid (U3.out h2 hw)
        clear hw
        go_wp2_with fail
        refine (implPad _ _ hs).mono ?_
        rintro e w2 ⟨rfl, hA2, hb2⟩
        rw [strL_data] at hA2
        have A2 := Lib.hid hA2
        have B2 := Lib.hid hb2
        clear hA2 hb2
        have EQ := Lib.hid (bytesEqual w.heap.size 0 33 33 b off d.length cap (padL (inner d)) d w2 (padL_length _) rfl (own_cells A2.out (padL_length _)) (cells_below R.out B2.out))
        go_wp2_with fail
        refine EQ.out.mono ?_
        rintro e w3 ⟨rfl, rfl⟩
        cases hq : (padL (inner d) == d)
        · have e := E3.out.trans hq
          have E := Lib.hid (And.intro (unp_no e) e)
          clear e hq
          go_wp2
          go_ret2
          exact ⟨ret_pair (by rw [E.out.1]; rfl) E.out.2.symm, B2.out⟩
        · have e := E3.out.trans hq
          have E := Lib.hid (And.intro (unp_yes e) e)
          clear e hq
          go_wp2
          go_ret2
          exact ⟨ret_pair (by rw [E.out.1]) E.out.2.symm, B2.out⟩
    · have e := U1.out h2
      have E := Lib.hid (And.intro (unp_no e) e)
      clear e U1 U2 U3 LI RI
      go_enter Try.func42, Try.ntmps42
      go_wp2
      go_ret2
      exact ⟨ret_pair (by rw [E.out.1]; rfl) E.out.2.symm, Below.refl _ _⟩
  · have e := unp_len h1
    have E := Lib.hid (And.intro (unp_no e) e)
    clear e
    have hB : ((d.length : Int) != 33) = true := by simp; omega
    go_enter Try.func42, Try.ntmps42
    go_wp2
    go_ret2
    exact ⟨ret_pair (by rw [E.out.1]; rfl) E.out.2.symm, Below.refl _ _⟩

set_option maxHeartbeats 1000000 in
theorem specUnpad (cap : Nat) (a : Option Addr) (d : List UInt8) (w : World) (hl : d.length ≤ maxLen) (hcap : d.length ≤ cap) (r : Row w a (d.map bval)) :
    Calls Try.prog 50 #[.slice a d.length cap] w fun e w' => e = .returned (.tuple #[.string (strL (unpL d)), .bool (unpB d)]) ∧ Below w.heap.size w w' := by
  unfold maxLen at hl
  by_cases h1 : d.length = 33
  · rcases r with r | ⟨b, off, rfl, r⟩
    · simp at r; subst r; simp at h1
    have c0 := r 0 (by simp [h1])
    have h0 : 0 < d.length := by omega
    rw [bval_at h0] at c0
    have hg : d.getD 0 0 = d[0] := by simp [List.getD, h0]
    have hx : d[0].toNat < 256 := d[0].toNat_lt
    rw [Nat.add_zero] at c0
    have U0 := Lib.hid (fun k => unp_small (d := d) k)
    have U1 := Lib.hid (fun k => unp_big (d := d) k)
    have U2 := Lib.hid (fun k => unp_word (d := d) k)
    have U3 := Lib.hid (fun k => unp_at (d := d) h1 k)
    have LI := Lib.hid (fun k => inner_length (d := d) h1 k)
    have RI := Lib.hid (inner_row h1 r)
    have R : Hid (∀ i, i < d.length → w.cell? ⟨b, off + i, none⟩ = (d.map bval)[i]?) := Lib.hid (fun i hi => r i (by simpa using hi))
    have H1 := Lib.hid h1
    have hB : ((d.length : Int) != 33) = false := by simp [h1]
    have hd1 : 33 ≤ d.length := by omega
    have hd2 : d.length ≤ 33 := by omega
    rw [hg] at U0 U1 U3 LI
    clear r h1 hg
    generalize d[0].toNat = n at *
    by_cases h3 : n < 1
    · have e := U0.out h3
      have E := Lib.hid (And.intro (unp_no e) e)
      clear e U1 U2 U3 LI RI
      go_enter Try.func50, Try.ntmps50
      go_wp2
      go_ret2
      exact ⟨ret_pair (by rw [E.out.1]; rfl) E.out.2.symm, Below.refl _ _⟩
    by_cases h2 : n ≤ 32
    · have LI' := LI.out h2
      have hcv := conv_row (cap := cap - 1) LI' RI.out
      have LL := Lib.hid LI'
      clear LI' LI U1 RI U0
      have hs : (strL (inner d)).size ≤ maxLen := by rw [strL_size, LL.out]; unfold maxLen; omega
      have hcd := conv_row (w := w.drew) (cap := cap) rfl R.out
      have CW := Lib.hid (fun w => specWordOk (strL (inner d)) w hs)
      have CP := Lib.hid (fun w => specPad (strL (inner d)) w hs)
      have ST := Lib.hid (strL_toList (inner d))
      rw [strL_data] at CW CP
      obtain ⟨x, hx⟩ : ∃ x, x = strL (inner d) := ⟨_, rfl⟩
      rw [← hx] at hcv CW CP ST
      have HX := Lib.hid hx
      clear hx hs
      cases hw : wordB (inner d)
      · have e := U2.out hw
        have E := Lib.hid (And.intro (unp_no e) e)
        rw [hw] at CW
        clear e hw
        go_enter Try.func50, Try.ntmps50
        go_wp2_with fail
        clear hcv hcd
        go_quiet ((go_at_call 41; exact Calls.quiet_of_same ((CW.out _).mono fun _ _ h => ⟨h.1, h.2.symm⟩)))
        go_wp2
        go_ret2
        exact ⟨ret_pair (by rw [E.out.1]; rfl) E.out.2.symm, belowN _⟩
      · have E3 := Lib.hid (U3.out h2 hw)
        rw [hw] at CW
        clear hw
        cases hq : (padL (inner d) == d)
        · have e := E3.out.trans hq
          have E := Lib.hid (And.intro (unp_no e) e)
          have hne : ((strL (padL (inner d))).toList == (strL d).toList) = false := by rw [strL_toList, strL_toList, hq]
          clear e hq
          go_enter Try.func50, Try.ntmps50
          go_wp2_with fail
          clear hcv
          go_region_with (first
            | (go_at_call 41; refine (CW.out _).mono ?_; rintro e w' ⟨rfl, rfl⟩)
            | (go_at_call 49; refine (CP.out _).mono ?_; rintro e w2 ⟨rfl, hA2, hb2⟩; have hq1 : (convert 22 9 (.slice (some ⟨w.heap.size, 0, none⟩) 33 33)).run Try.prog w2 = .ok (.string (strL (padL (inner d)))) w2 := conv_any hA2; have hq2 := conv_row (cap := cap) rfl (cells_below (w := w.drew) R.out hb2)))
          all_goals
            go_wp2
            go_ret2
            exact ⟨ret_pair (by rw [E.out.1]; rfl) E.out.2.symm, (Below.refl _ _).drew.trans hb2⟩
        · have e := E3.out.trans hq
          have E := Lib.hid (And.intro (unp_yes e) e)
          have hne : ((strL (padL (inner d))).toList == (strL d).toList) = true := by rw [strL_toList, strL_toList, hq]
          clear e hq
          go_enter Try.func50, Try.ntmps50
          go_wp2_with fail
          clear hcv
          go_region_with (first
            | (go_at_call 41; refine (CW.out _).mono ?_; rintro e w' ⟨rfl, rfl⟩)
            | (go_at_call 49; refine (CP.out _).mono ?_; rintro e w2 ⟨rfl, hA2, hb2⟩; have hq1 : (convert 22 9 (.slice (some ⟨w.heap.size, 0, none⟩) 33 33)).run Try.prog w2 = .ok (.string (strL (padL (inner d)))) w2 := conv_any hA2; have hq2 := conv_row (cap := cap) rfl (cells_below (w := w.drew) R.out hb2)))
          all_goals
            go_wp2
            go_ret2
            exact ⟨ret_pair (by rw [E.out.1, HX.out]) E.out.2.symm, (Below.refl _ _).drew.trans hb2⟩
    · have e := U1.out h2
      have E := Lib.hid (And.intro (unp_no e) e)
      clear e U1 U2 U3 LI RI U0
      go_enter Try.func50, Try.ntmps50
      go_wp2
      go_ret2
      exact ⟨ret_pair (by rw [E.out.1]; rfl) E.out.2.symm, Below.refl _ _⟩
  · have e := unp_len h1
    have E := Lib.hid (And.intro (unp_no e) e)
    clear e
    have hB : ((d.length : Int) != 33) = true := by simp; omega
    go_enter Try.func50, Try.ntmps50
    go_wp2
    go_ret2
    exact ⟨ret_pair (by rw [E.out.1]; rfl) E.out.2.symm, Below.refl _ _⟩
end Go.Proofs.Ytkcplnmhonhmaaa
