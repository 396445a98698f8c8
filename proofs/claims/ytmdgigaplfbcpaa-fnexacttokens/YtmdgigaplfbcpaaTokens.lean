/- What 'Tokens' answers, in the model of the document and in the program. -/
import Derived.Test.YtmdgigaplfbcpaaBase
import Derived.Test.YtmdgigaplfbcpaaToks
import Derived.Deep.QuietTactic
import Derived.BigQuiet
namespace Go.Proofs.Ytmdgigaplfbcpaa
open Go.RowKit
set_option linter.unusedVariables false

def gapN (n : Nat) : Bool := n == 9 || n == 10 || n == 13 || n == 32
theorem gapN_eq {n : Nat} (h : n = 9 ∨ n = 10 ∨ n = 13 ∨ n = 32) : gapN n = true := by rcases h with rfl | rfl | rfl | rfl <;> rfl
theorem gapN_ne {n : Nat} (h1 : n ≠ 9) (h2 : n ≠ 10) (h3 : n ≠ 13) (h4 : n ≠ 32) : gapN n = false := by simp [gapN, h1, h2, h3, h4]

set_option maxHeartbeats 800000 in
theorem specGap (c : UInt8) (w : World) :
    Calls Try.prog 41 #[.int .u8 c.toNat] w fun e w' => e = .returned (.bool (gapU c)) ∧ w = w' := by
  have hg : gapU c = gapN c.toNat := rfl
  rw [hg]
  clear hg
  generalize c.toNat = n
  by_cases h1 : n = 9
  · subst h1
    go_enter Try.func41, Try.ntmps41
    go_wp2
    go_ret
    exact ⟨rfl, rfl⟩
  by_cases h2 : n = 10
  · subst h2
    go_enter Try.func41, Try.ntmps41
    go_wp2
    go_ret
    exact ⟨rfl, rfl⟩
  by_cases h3 : n = 13
  · subst h3
    go_enter Try.func41, Try.ntmps41
    go_wp2
    go_ret
    exact ⟨rfl, rfl⟩
  by_cases h4 : n = 32
  · subst h4
    go_enter Try.func41, Try.ntmps41
    go_wp2
    go_ret
    exact ⟨rfl, rfl⟩
  have G := Lib.hid (gapN_ne h1 h2 h3 h4)
  have b1 : ((n : Int) == 9) = false := by simp; omega
  have b2 : ((n : Int) == 10) = false := by simp; omega
  have b3 : ((n : Int) == 13) = false := by simp; omega
  have b4 : ((n : Int) == 32) = false := by simp; omega
  clear h1 h2 h3 h4
  go_enter Try.func41, Try.ntmps41
  go_wp2
  go_ret
  exact ⟨ret_bool G.out.symm, rfl⟩

set_option maxHeartbeats 800000 in
theorem implSep (n : Nat) (w : World) :
    Calls Try.prog 42 #[.int .i32 n] w fun e w' => e = .returned (.bool (gapN n)) ∧ w = w' := by
  by_cases h1 : n = 9
  · subst h1
    go_enter Try.func42, Try.ntmps42
    go_wp2
    go_ret
    exact ⟨rfl, rfl⟩
  by_cases h2 : n = 10
  · subst h2
    go_enter Try.func42, Try.ntmps42
    go_wp2
    go_ret
    exact ⟨rfl, rfl⟩
  by_cases h3 : n = 13
  · subst h3
    go_enter Try.func42, Try.ntmps42
    go_wp2
    go_ret
    exact ⟨rfl, rfl⟩
  by_cases h4 : n = 32
  · subst h4
    go_enter Try.func42, Try.ntmps42
    go_wp2
    go_ret
    exact ⟨rfl, rfl⟩
  have G := Lib.hid (gapN_ne h1 h2 h3 h4)
  have b1 : ((n : Int) == 9) = false := by simp; omega
  have b2 : ((n : Int) == 10) = false := by simp; omega
  have b3 : ((n : Int) == 13) = false := by simp; omega
  have b4 : ((n : Int) == 32) = false := by simp; omega
  clear h1 h2 h3 h4
  go_enter Try.func42, Try.ntmps42
  go_wp2
  go_ret
  exact ⟨ret_bool G.out.symm, rfl⟩

theorem form_nil {t : List UInt8} (h : foldL t = []) : form t = [63] := by unfold form; rw [if_pos h]
theorem form_some {t : List UInt8} (h : foldL t ≠ []) : form t = foldL t := by unfold form; rw [if_neg h]

set_option maxHeartbeats 800000 in
theorem implTokenForm (s : ByteArray) (w : World) (hs : s.size ≤ maxLen) :
    Calls Try.prog 43 #[.string s] w fun e w' => e = .returned (.string (strL (form s.data.toList))) ∧ Below w.heap.size w w' := by
  go_enter Try.func43, Try.ntmps43
  go_wp2_with fail
  refine (implFold s _ hs).mono ?_
  rintro e w1 ⟨rfl, hb⟩
  by_cases h : foldL s.data.toList = []
  · have F := Lib.hid (form_nil h)
    rw [h, strL_empty]
    clear h
    go_wp2
    go_ret
    exact ⟨ret_str (by rw [F.out]; rfl), hb⟩
  · have F := Lib.hid (form_some h)
    have h1 : (strL (foldL s.data.toList)).toList.isEmpty = false := by
      rw [show (strL (foldL s.data.toList)).toList = foldL s.data.toList from ByteArray.toList_mk _]
      cases e : foldL s.data.toList with
      | nil => exact absurd e h
      | cons _ _ => rfl
    clear h
    obtain ⟨x, hx⟩ : ∃ x, x = strL (foldL s.data.toList) := ⟨_, rfl⟩
    rw [← hx] at h1 ⊢
    have HX := Lib.hid hx
    clear hx
    go_wp2
    go_ret
    exact ⟨ret_str (by rw [F.out, HX.out]), hb⟩

theorem Try.info9 : (Try.prog.info? 9).map (fun i => (i.zero, i.size, i.bytes)) = some (some (.string ⟨#[]⟩), 1, 16) := by kernel_rfl
/-- The list while it is being filled. -/
def tokRow (l : List UInt8) (k slots : Nat) : List Value := (toks l k).map sval ++ List.replicate (slots - (toks l k).length) (.string ⟨#[]⟩)
theorem tokRow_length (l : List UInt8) (k slots : Nat) (h : (toks l k).length ≤ slots) : (tokRow l k slots).length = slots := by simp [tokRow]; omega
theorem tokRow_zero (l : List UInt8) (slots : Nat) : tokRow l 0 slots = List.replicate slots (.string ⟨#[]⟩) := by simp [tokRow, toks]
theorem tokRow_set (l : List UInt8) (k q slots : Nat) (t : List UInt8) (h : (toks l k).length < slots) (e : toks l q = toks l k ++ [t]) : (tokRow l k slots).set (toks l k).length (sval t) = tokRow l q slots := by
  unfold tokRow
  rw [e, List.set_append_right _ _ (by simp)]
  obtain ⟨m, hm⟩ : ∃ m, slots - (toks l k).length = m + 1 := ⟨slots - (toks l k).length - 1, by omega⟩
  rw [hm, List.length_append, List.length_singleton, show slots - ((toks l k).length + 1) = m from by omega, List.replicate_succ]
  rw [List.length_map, Nat.sub_self, List.set_cons_zero, List.map_append, List.append_assoc]; rfl
theorem tokRow_same (l : List UInt8) (k q slots : Nat) (e : toks l q = toks l k) : tokRow l k slots = tokRow l q slots := by unfold tokRow; rw [e]

/-- text + " " -/
def plus (s : ByteArray) : ByteArray := s ++ ⟨#[32]⟩
theorem plus_size (s : ByteArray) : (plus s).size = s.size + 1 := by unfold plus; rw [ByteArray.size_append]; rfl
theorem plus_data (s : ByteArray) : (plus s).data.toList = s.data.toList ++ [32] := by
  unfold plus; rw [ByteArray.data_append]; simp
theorem plus_at (s : ByteArray) (j : Nat) (h : j < (plus s).size) : (plus s)[j] = byteAt s.data.toList j := by
  have hl := len_data s
  have e : (plus s)[j] = (plus s).data.toList[j]'(by rw [len_data]; exact h) := rfl
  have e2 : (plus s).data.toList[j]? = some (plus s)[j] := by rw [e]; exact List.getElem?_eq_getElem _
  clear e
  generalize (plus s)[j] = v at *
  rw [plus_data] at e2
  rw [plus_size] at h
  by_cases h1 : j < s.data.toList.length
  · rw [byteAt_in h1]
    rw [List.getElem?_append_left h1, List.getElem?_eq_getElem h1] at e2
    simpa using e2.symm
  · have : j = s.data.toList.length := by omega
    subst this
    rw [byteAt_end (Nat.le_refl _)]
    rw [List.getElem?_append_right (Nat.le_refl _), Nat.sub_self] at e2
    simpa using e2.symm
theorem gap_small {c : UInt8} (h : gapU c = true) : c.toNat < 128 := by
  unfold gapU at h; simp at h; omega
theorem gap_big {c : UInt8} (h : 128 ≤ c.toNat) : gapU c = false := by
  unfold gapU; simp; omega
theorem next_gap (P : Program) (s : ByteArray) (p : Nat) (h : p < s.size + 1) (hg : gapU (byteAt s.data.toList p) = true) :
    ∃ r : Nat, gapN r = true ∧ ∀ (w : World) (k : Nat) (ty : TypeId), w.heap[k]? = some (.stringIter (plus s) p) →
      (Instr.next (.pointer (some ⟨k, 0, none⟩)) true ty).run P w = .ok (.tuple #[.bool true, .int .i64 p, .int .i32 r]) (w.iterAt k (plus s) (p + 1)) := by
  have hp : p < (plus s).size := by rw [plus_size]; exact h
  have ha : ((plus s)[p]'hp).toNat < 128 := by rw [plus_at]; exact gap_small hg
  refine ⟨((plus s)[p]'hp).toNat, ?_, fun w k ty hk => Lib.run_next_ascii_at w k (plus s) p ty hk hp ha⟩
  rw [plus_at]; exact hg
theorem next_plain (P : Program) (s : ByteArray) (p : Nat) (h : p < s.size + 1) (hg : gapU (byteAt s.data.toList p) = false) :
    ∃ r wd : Nat, gapN r = false ∧ 1 ≤ wd ∧ p + wd ≤ s.size + 1 ∧ (∀ j, p ≤ j → j < p + wd → gapU (byteAt s.data.toList j) = false) ∧ r ≤ 2147483647 ∧ ∀ (w : World) (k : Nat) (ty : TypeId), w.heap[k]? = some (.stringIter (plus s) p) →
      (Instr.next (.pointer (some ⟨k, 0, none⟩)) true ty).run P w = .ok (.tuple #[.bool true, .int .i64 p, .int .i32 r]) (w.iterAt k (plus s) (p + wd)) := by
  have hp : p < (plus s).size := by rw [plus_size]; exact h
  by_cases ha : ((plus s)[p]'hp).toNat < 128
  · refine ⟨((plus s)[p]'hp).toNat, 1, ?_, Nat.le_refl _, by omega, ?_, by omega, fun w k ty hk => Lib.run_next_ascii_at w k (plus s) p ty hk hp ha⟩
    · rw [plus_at]; exact hg
    · intro j h1 h2
      rw [show j = p from by omega]; exact hg
  · have hs := decode_skips (plus s) p hp (by omega)
    have hh := decode_high (plus s) p hp (by omega)
    have hz := plus_size s
    refine ⟨(Utf8.decode (plus s) p).1, (Utf8.decode (plus s) p).2, ?_, hh.2, by omega, ?_, decode_le _ _, fun w k ty hk => Lib.run_next_any_at w k (plus s) p ty hk hp⟩
    · exact gapN_ne (by omega) (by omega) (by omega) (by omega)
    · intro j h1 h2
      have := hs.2 j h1 h2 (by omega)
      rw [plus_at] at this
      exact gap_big this
theorem own_iter {w : World} {base n k g cap : Nat} {e : TypeId} {xs : List Value} (h : w.ownsRow base e 1 (.slice (some ⟨g, 0, none⟩) n cap) n xs) (hk : g ≠ k) (s : ByteArray) (p : Nat) :
    (w.iterAt k s p).ownsRow base e 1 (.slice (some ⟨g, 0, none⟩) n cap) n xs := by
  refine h.kept (row := some k) ⟨rfl, rfl, rfl, by rw [Lib.iterAt_size]; exact Nat.le_refl _, fun i _ hi => Lib.iterAt_other w k i s p (by intro e; subst e; exact hi rfl)⟩ (.inr ?_)
  simp [Value.ownBlock, hk]
theorem below_seq' {B : Nat} {w w1 w2 : World} (h : Below B w w1) (k : Below w1.heap.size w1 w2) (hB : B ≤ w1.heap.size := by omega) : Below B w w2 := h.trans (k.mono hB)
theorem iterPos_at (w : World) (k : Nat) (s : ByteArray) (p : Nat) (h : w.heap[k]? = some (.stringIter s p)) : w.iterPos k = p := by unfold World.iterPos; rw [h]
theorem extract_list (s : ByteArray) (a b : Nat) : (s.extract a b).data.toList = (s.data.toList.drop a).take (b - a) := by
  rw [ByteArray.data_extract, Array.toList_extract]

/-- What 'Tokens' leaves: the list in new memory and true; or nil and false. -/
def TokPost (l : List UInt8) (n slots : Nat) (w : World) (e : Ending) (w' : World) : Prop :=
  Below w.heap.size w w' ∧ (((toks l n).length ≤ slots ∧ ∃ g cap, w.heap.size ≤ g ∧ e = .returned (.tuple #[.slice (some ⟨g, 0, none⟩) slots cap, .bool true]) ∧ w'.ownsRow w.heap.size 9 1 (.slice (some ⟨g, 0, none⟩) slots cap) slots (tokRow l n slots)) ∨
    (slots < (toks l n).length ∧ e = .returned (.tuple #[.slice none 0 0, .bool false])))

set_option maxHeartbeats 1600000 in
theorem implTokensIn (s : ByteArray) (slots : Nat) (w : World) (hs : s.size ≤ 2000) (h1 : 1 ≤ slots) (h2 : slots ≤ 16) :
    Calls Try.prog 19 #[.string s, .int .i64 slots] w (TokPost s.data.toList s.size slots w) := by
  have HL := Lib.hid (len_data s)
  obtain ⟨i0, hi, hz0, hz1, hz2⟩ := info_parts Try.info9
  go_enter Try.func19, Try.ntmps19
  go_wp2_with (at_make; refine wpList_make_full _ rfl _ _ 32 rfl w.heap.size 9 i0 (.string ⟨#[]⟩) 1 Try.underlying32 hi hz0 hz1 .i64 .i64 _ _ slots rfl rfl rfl rfl (by rw [hz2]; omega) (by unfold maxLen; omega) (Nat.le_refl _) ?_)
  clear hi hz0 hz1 hz2
  intro w1 hown hgr
  have hb1 : Below w.heap.size w w1 := grown_below hgr
  rw [toList_madeCells_one, ← tokRow_zero s.data.toList] at hown
  clear hgr
  have hlt := (hown.lt _ rfl).2
  go_wp2
  obtain ⟨I, hI⟩ : ∃ I, I = w1.heap.size := ⟨_, rfl⟩
  have hst : (w1.iter (s ++ ⟨#[32]⟩) 0).heap[I]? = some (.stringIter (plus s) 0) := by rw [hI]; exact World.iter_heap w1 _ 0
  have how : (w1.iter (s ++ ⟨#[32]⟩) 0).ownsRow w.heap.size 9 1 (.slice (some ⟨w.heap.size, 0, none⟩) slots slots) slots (tokRow s.data.toList 0 slots) := hown.alloc _
  have hbo : Below w.heap.size w (w1.iter (s ++ ⟨#[32]⟩) 0) := hb1.alloc (Nat.le_of_lt hlt) _
  rw [← hI]
  rw [← hI] at hlt
  clear hI hown hb1
  go_loopw [7, 8] (fun c b wr => ∃ p bg : Nat, p ≤ s.size + 1 ∧ bg ≤ p ∧ c = .int .i64 ((toks s.data.toList bg).length : Int) ∧ b = .int .i64 bg ∧ Hid (Seg s.data.toList bg p) ∧ (toks s.data.toList bg).length ≤ slots ∧
      wr.ownsRow w.heap.size 9 1 (.slice (some ⟨w.heap.size, 0, none⟩) slots slots) slots (tokRow s.data.toList bg slots) ∧ wr.heap[I]? = some (.stringIter (plus s) p) ∧ Below w.heap.size w wr) (fun _ _ wr => s.size + 1 - wr.iterPos I)
  case atStart => exact ⟨0, 0, by omega, by omega, rfl, rfl, Lib.hid (Seg.zero _), by simp [toks], how, hst, hbo⟩
  case round =>
    clear how hst hbo
    obtain ⟨p, bg, hp, hbg, rfl, rfl, SG, hcnt, hown, hit, hb⟩ := hrel
    by_cases hlp : p < s.size + 1
    · cases hg : gapU (byteAt s.data.toList p)
      · obtain ⟨r, wd, hr, hw1, hw2, hw3, hr2, hnx⟩ := next_plain Try.prog s p hlp hg
        have hnx' := fun ty => hnx wr I ty hit
        have R := Lib.hid (And.intro (own_iter hown (k := I) (by omega) (plus s) (p + wd)) (And.intro (Lib.iterAt_heap wr I (plus s) p (p + wd) hit) (Lib.below_iterAt hb (k := I) (by omega) (plus s) (p + wd))))
        have SG2 := Lib.hid (SG.out.more hw3)
        have IP := Lib.hid (iterPos_at _ _ _ _ hit)
        have HR := Lib.hid hr
        clear hnx hown hit hb hw3 hg hr
        go_wp2_with (go_at_call 42; refine (implSep r _).mono ?_; rintro e w' ⟨rfl, rfl⟩; rw [HR.out])
        go_roundw
        case rel => exact ⟨p + wd, bg, hw2, by omega, rfl, rfl, SG2, hcnt, R.out.1, R.out.2.1, R.out.2.2⟩
        case measure => rw [IP.out, iterPos_at _ _ _ _ R.out.2.1]; omega
      · obtain ⟨r, hr, hnx⟩ := next_gap Try.prog s p hlp hg
        have hnx' := fun ty => hnx wr I ty hit
        have IP := Lib.hid (iterPos_at _ _ _ _ hit)
        have HR := Lib.hid hr
        have SG2 := Lib.hid (Seg.next hg)
        have O1 := own_iter hown (k := I) (by omega) (plus s) (p + 1)
        have T1 := Lib.iterAt_heap wr I (plus s) p (p + 1) hit
        have B1 := Lib.below_iterAt hb (k := I) (by omega) (plus s) (p + 1)
        clear hnx hown hit hb hr
        generalize hW : wr.iterAt I (plus s) (p + 1) = wi at *
        clear hW
        by_cases hlb : bg < p
        · have hcl := SG.out.close hlb (by rw [HL.out]; omega) hg
          by_cases hmy : (toks s.data.toList bg).length < slots
          case neg =>
            have hbad : slots < (toks s.data.toList s.size).length := by
              have m1 := toks_mono (l := s.data.toList) (a := p + 1) (b := s.size + 1) (by omega)
              have m2 := toks_past s.data.toList (s.size + 1) (by rw [HL.out]; omega)
              rw [HL.out] at m2
              rw [m2, hcl] at m1
              simp at m1
              omega
            have heq : (((toks s.data.toList bg).length : Int) == (slots : Int)) = true := by simp; omega
            have BB := Lib.hid B1
            clear hcl O1 T1 B1
            go_wp2_with (go_at_call 42; refine (implSep r _).mono ?_; rintro e w' ⟨rfl, rfl⟩; rw [HR.out])
            go_ret2
            exact ⟨BB.out, .inr ⟨hbad, rfl⟩⟩
          have hmx : (toks s.data.toList (p + 1)).length ≤ slots := by rw [hcl]; simp; omega
          have hn1 : ((toks s.data.toList bg).length : Int) + 1 = ((toks s.data.toList (p + 1)).length : Int) := by rw [hcl]; simp
          have hset := tokRow_set s.data.toList bg (p + 1) slots _ hmy hcl
          have hxt := extract_list s bg p
          have HX := Lib.hid hxt
          have HN := Lib.hid hn1
          have HC := Lib.hid hcl
          have HS := Lib.hid hset
          have hne : (((toks s.data.toList bg).length : Int) == (slots : Int)) = false := by simp; omega
          clear hset hcl hxt hn1
          have hxs : (s.extract bg p).size ≤ maxLen := by rw [ByteArray.size_extract]; unfold maxLen; omega
          have hps : p ≤ s.size := by omega
          go_wp2_with (go_at_call 42; refine (implSep r _).mono ?_; rintro e w' ⟨rfl, rfl⟩; rw [HR.out])
          refine (implTokenForm _ _ hxs).mono ?_
          rintro e w2 ⟨rfl, hb2⟩
          rw [HX.out]
          have O2 := own_below O1 hb2
          have T2 : w2.heap[I]? = some (.stringIter (plus s) (p + 1)) := by
            rw [hb2.block I (Array.getElem?_eq_some_iff.1 T1).1]; exact T1
          have hf := O2.frozenAt (toks s.data.toList bg).length
          have hc : w2.cell? ⟨w.heap.size, (toks s.data.toList bg).length, none⟩ = some ((tokRow s.data.toList bg slots)[(toks s.data.toList bg).length]'(by rw [tokRow_length _ _ _ hcnt]; exact hmy)) := by
            rw [O2.cellAt _ (by omega), List.getElem?_eq_getElem]
          have st := O2.stored (toks s.data.toList bg).length (sval (form (List.take (p - bg) (List.drop bg s.data.toList))))
          rw [HS.out] at st
          have T3 : (w2.setCell ⟨w.heap.size, (toks s.data.toList bg).length, none⟩ (sval (form (List.take (p - bg) (List.drop bg s.data.toList))))).heap[I]? = some (.stringIter (plus s) (p + 1)) := by
            rw [Below.heap_setCell _ _ _ _ (by simp; omega)]; exact T2
          have hszi : w.heap.size ≤ wi.heap.size := B1.size
          have R := Lib.hid (And.intro st.1 (And.intro T3 ((below_seq' B1 hb2).setCell (p := ⟨w.heap.size, (toks s.data.toList bg).length, none⟩) (Nat.le_refl _) (sval (form (List.take (p - bg) (List.drop bg s.data.toList)))))))
          unfold sval at R
          clear st T3 T2 O2 O1 T1 B1 hb2
          generalize strL (form (List.take (p - bg) (List.drop bg s.data.toList))) = y at *
          go_wp2
          go_roundw
          case rel => exact ⟨p + 1, p + 1, by omega, Nat.le_refl _, by rw [← HN.out], by go_num, SG2, hmx, R.out.1, R.out.2.1, R.out.2.2⟩
          case measure => rw [IP.out, iterPos_at _ _ _ _ R.out.2.1]; omega
        · have hbp : bg = p := by omega
          subst hbp
          have hid := Seg.idle hg
          have R := Lib.hid (And.intro O1 (And.intro T1 B1))
          have HI := Lib.hid hid
          clear O1 T1 B1 hid
          go_wp2_with (go_at_call 42; refine (implSep r _).mono ?_; rintro e w' ⟨rfl, rfl⟩; rw [HR.out])
          go_roundw
          case rel => exact ⟨bg + 1, bg + 1, by omega, Nat.le_refl _, by rw [HI.out], by go_num, SG2, by rw [HI.out]; exact hcnt, by rw [← tokRow_same _ _ _ _ HI.out]; exact R.out.1, R.out.2.1, R.out.2.2⟩
          case measure => rw [IP.out, iterPos_at _ _ _ _ R.out.2.1]; omega
    · have hp' : p = s.size + 1 := by omega
      subst hp'
      have hnx := fun ty => Lib.run_next_end_at (P := Try.prog) wr I (plus s) (s.size + 1) ty hit (by rw [plus_size]; omega)
      have hfl := SG.out
      rw [← HL.out] at hfl
      have hbe := hfl.full (by rw [HL.out]; exact hbg)
      rw [HL.out] at hbe
      subst hbe
      have e1 : toks s.data.toList s.size = toks s.data.toList (s.size + 1) := by
        have m2 := toks_past s.data.toList (s.size + 1) (by rw [HL.out]; omega)
        rw [HL.out] at m2; exact m2.symm
      rw [tokRow_same _ _ _ _ e1] at hown
      rw [← e1] at hcnt
      have R := Lib.hid (And.intro hown hb)
      clear hown hb e1 hfl hit
      go_wp2
      go_ret2
      exact ⟨R.out.2, .inl ⟨hcnt, _, _, Nat.le_refl _, rfl, R.out.1⟩⟩

theorem gap_at (s : ByteArray) (k : Nat) (h : k < s.size) : byteAt s.data.toList k = s[k] := by
  rw [byteAt_in (by rw [len_data]; exact h)]; rfl
def tokVals (l : List UInt8) (k : Nat) : List Value := (toks l k).map sval
theorem tokVals_same {l : List UInt8} {k q : Nat} (e : toks l q = toks l k) : tokVals l q = tokVals l k := by unfold tokVals; rw [e]
theorem tokVals_snoc {l : List UInt8} {k q : Nat} {t : List UInt8} (e : toks l q = toks l k ++ [t]) : tokVals l q = tokVals l k ++ [sval t] := by unfold tokVals; rw [e]; simp
def padVals (l : List UInt8) (n q : Nat) : List Value := tokVals l n ++ List.replicate (q - (toks l n).length) (.string ⟨#[]⟩)
theorem padVals_start (l : List UInt8) (n : Nat) : padVals l n (toks l n).length = tokVals l n := by simp [padVals]
theorem padVals_snoc (l : List UInt8) (n q : Nat) (h : (toks l n).length ≤ q) : padVals l n (q + 1) = padVals l n q ++ [.string ⟨#[]⟩] := by
  unfold padVals
  rw [show q + 1 - (toks l n).length = (q - (toks l n).length) + 1 from by omega, List.replicate_succ', List.append_assoc]
theorem padVals_done (l : List UInt8) (n slots : Nat) : padVals l n slots = tokRow l n slots := rfl
theorem start_of {l : List UInt8} {k : Nat} (h1 : gapU (byteAt l k) = false) (h2 : k = 0 ∨ gapU (byteAt l (k - 1)) = true) : startB l k = true := by
  unfold startB; rw [h1]; rcases h2 with h | h <;> simp [h]
theorem start_then {l : List UInt8} {k : Nat} (h : startB l k = true) : k = 0 ∨ gapU (byteAt l (k - 1)) = true := by
  unfold startB at h; simp at h; exact h.2
theorem not_start {l : List UInt8} {k : Nat} (h1 : gapU (byteAt l k) = false) (h : startB l k = false) : 0 < k ∧ gapU (byteAt l (k - 1)) = false := by
  unfold startB at h; rw [h1] at h; simp at h; exact ⟨by omega, h.2⟩
theorem tok_step {l : List UInt8} {k m : Nat} (hs : startB l k = true) (h : Seg l k m) (hle : k ≤ m) (hp : m ≤ l.length) (hg : gapU (byteAt l m) = true) :
    toks l (k + 1) = toks l k ++ [form ((l.drop k).take (m - k))] := by rw [toks_yes hs, h.tok hle hp hg]
theorem start_not {l : List UInt8} {k : Nat} (h0 : 0 < k) (h2 : gapU (byteAt l (k - 1)) = false) : startB l k = false := by
  unfold startB; rw [h2]; simp; omega
theorem start_gap {l : List UInt8} {k : Nat} (h2 : gapU (byteAt l k) = true) : startB l k = false := by
  unfold startB; rw [h2]; simp

set_option maxHeartbeats 3200000 in
theorem specTokensIn (s : ByteArray) (slots : Nat) (w : World) (hs : s.size ≤ 2000) (h1 : 1 ≤ slots) (h2 : slots ≤ 16) :
    Calls Try.prog 18 #[.string s, .int .i64 slots] w (TokPost s.data.toList s.size slots w) := by
  have HL := Lib.hid (len_data s)
  go_enter Try.func18, Try.ntmps18
  go_wp2
  go_loopw [6, 7] (fun v i wr => ∃ (k : Nat) (a : Option Addr) (cap : Nat), k ≤ s.size ∧ v = .slice a (toks s.data.toList k).length cap ∧ i = .int .i64 k ∧ (toks s.data.toList k).length ≤ slots ∧
      wr.ownsRow w.heap.size 9 1 (.slice a (toks s.data.toList k).length cap) (toks s.data.toList k).length (tokVals s.data.toList k) ∧ Below w.heap.size w wr) (fun _ i _ => s.size - (intOf i).toNat)
  case atStart => exact ⟨0, _, _, Nat.zero_le _, rfl, rfl, Nat.zero_le _, World.ownsRow_made w #[] 0 (Nat.le_refl _) (by unfold maxLen; omega) rfl, (Below.refl _ _).alloc (Nat.le_refl _) _⟩
  case round =>
    obtain ⟨k, a, cap, hk, rfl, rfl, hcnt, hown, hb⟩ := hrel
    by_cases hlt : k < s.size
    · have hga := gap_at s k hlt
      cases hg : gapU s[k]
      · cases hstb : startB s.data.toList k
        · obtain ⟨h0, hpg⟩ := not_start (by rw [hga]; exact hg) hstb
          have hlt' : k - 1 < s.size := by omega
          have hgb := gap_at s (k - 1) hlt'
          have hkm : ((k : Int) - 1).toNat = k - 1 := by omega
          have hk1 : 1 ≤ (k : Int) := by omega
          rw [hgb] at hpg
          have ht := toks_no hstb
          have HT := Lib.hid ht
          have G1 := Lib.hid hg
          have G2 := Lib.hid hpg
          have R := Lib.hid (And.intro hown hb)
          clear hstb ht hg hpg hga hgb hown hb
          go_wp2_with fail
          refine (specGap _ _).mono ?_
          rintro e w' ⟨rfl, rfl⟩
          rw [G1.out]
          go_wp2_with fail
          refine (specGap _ _).mono ?_
          rintro e w' ⟨rfl, rfl⟩
          rw [G2.out]
          go_wp2
          go_roundw
          case rel => exact ⟨k + 1, a, cap, by omega, by rw [HT.out], by go_num, by rw [HT.out]; exact hcnt, by rw [tokVals_same HT.out, HT.out]; exact R.out.1, R.out.2⟩
          case measure => simp [intOf]; omega
        · have hsg : Seg s.data.toList k k := ⟨fun j a b => absurd b (by omega), start_then hstb⟩
          have SG := Lib.hid hsg
          have STB := Lib.hid hstb
          have HST := Lib.hid (start_then hstb)
          have G1 := Lib.hid hg
          have R := Lib.hid (And.intro hown hb)
          clear hsg hstb hg hga hown hb
          rcases Nat.eq_zero_or_pos k with hk0 | h0
          · have hkn : ¬ (0 : Int) < (k : Int) := by omega
            clear hk0
            go_wp2_with (go_at_call 41; refine (specGap _ _).mono ?_; rintro e w' ⟨rfl, rfl⟩; rw [G1.out])
            go_loop [8] (fun e => ∃ m : Nat, k ≤ m ∧ m ≤ s.size ∧ e = .int .i64 m ∧ Hid (Seg s.data.toList k m)) (fun e => s.size - (intOf e).toNat)
            case atStart => exact ⟨k, Nat.le_refl _, hk, rfl, SG⟩
            case round =>
              obtain ⟨m, hkm2, hm, rfl, SM⟩ := hrel
              by_cases hgo : ∃ hml : m < s.size, gapU s[m] = false
              · obtain ⟨hml, hgm⟩ := hgo
                have hgc := gap_at s m hml
                have SM2 := Lib.hid (SM.out.more (q := m + 1) (fun j a b => by rw [show j = m from by omega, hgc]; exact hgm))
                have GM := Lib.hid hgm
                clear hgm hgc
                go_wp2_with (go_at_call 41; refine (specGap _ _).mono ?_; rintro e w' ⟨rfl, rfl⟩; rw [GM.out])
                go_round
                case rel => exact ⟨m + 1, by omega, by omega, by go_num, SM2⟩
                case measure => simp [intOf]; omega
              · have hgm : gapU (byteAt s.data.toList m) = true := by
                  by_cases hml : m < s.size
                  · rw [gap_at s m hml]
                    cases e : gapU s[m]
                    · exact absurd ⟨hml, e⟩ hgo
                    · rfl
                  · rw [byteAt_end (by rw [len_data]; omega)]; rfl
                have hcl := tok_step STB.out SM.out hkm2 (by rw [HL.out]; exact hm) hgm
                have HC := Lib.hid hcl
                have HF := Lib.hid (extract_list s k m)
                have hxs : (s.extract k m).size ≤ maxLen := by rw [ByteArray.size_extract]; unfold maxLen; omega
                have hlen1 : (toks s.data.toList (k + 1)).length = (toks s.data.toList k).length + 1 := by rw [hcl]; simp
                have HLN := Lib.hid hlen1
                have HGM : Hid (∀ hml : m < s.size, gapU s[m] = true) := Lib.hid (fun hml => by rw [← gap_at s m hml]; exact hgm)
                clear hcl hgm hgo hlen1
                by_cases hfull : (toks s.data.toList k).length < slots
                · have hne : (((toks s.data.toList k).length : Int) == (slots : Int)) = false := by simp; omega
                  have hsz := R.out.2.size
                  by_cases hml : m < s.size
                  all_goals
                    go_wp2_with (go_at_call 41; refine (specGap _ _).mono ?_; rintro e w' ⟨rfl, rfl⟩; rw [HGM.out hml])
                    refine (specFold _ _ hxs).mono ?_
                    rintro e w2 ⟨rfl, hb2⟩
                    rw [HF.out]
                    have O2 := own_below R.out.1 hb2
                    have B2 := below_seq' R.out.2 hb2 hsz
                    have hsz2 := B2.size
                    by_cases hfo : foldL (List.take (m - k) (List.drop k s.data.toList)) = []
                    · have HU : Hid (Value.string ⟨#[63]⟩ = sval (form (List.take (m - k) (List.drop k s.data.toList)))) := Lib.hid (by rw [form_nil hfo]; rfl)
                      have h1u : (sval (form (List.take (m - k) (List.drop k s.data.toList)))).oneCell' = true := rfl
                      rw [hfo, strL_empty]
                      clear hfo hb2
                      go_wp2_with (at_builtin; rw [HU.out]; refine wp_app1 w w2 (sval (form (List.take (m - k) (List.drop k s.data.toList)))) rfl _ _ 32 rfl w.heap.size 9 (.string ⟨#[]⟩) 16 Try.underlying32 Try.info9 rfl _ _ _ (by rfl) O2 (by rfl) h1u (by unfold maxLen; omega) (by omega) hsz2 B2 ?_; clear O2 B2; intro v' w3 O3 B3)
                      obtain ⟨a3, cap3, rfl⟩ := own_shape O3
                      go_roundw
                      case rel => exact ⟨k + 1, a3, cap3, by omega, by rw [HLN.out], by go_num, by rw [HLN.out]; omega, by rw [HLN.out, tokVals_snoc HC.out]; exact O3, B3⟩
                      case measure => simp [intOf]; omega
                    · have e1 : (strL (foldL (List.take (m - k) (List.drop k s.data.toList)))).toList.isEmpty = false := by
                        rw [show (strL (foldL (List.take (m - k) (List.drop k s.data.toList)))).toList = foldL (List.take (m - k) (List.drop k s.data.toList)) from ByteArray.toList_mk _]
                        cases e : foldL (List.take (m - k) (List.drop k s.data.toList)) with
                        | nil => exact absurd e hfo
                        | cons _ _ => rfl
                      obtain ⟨x, hx⟩ : ∃ x, x = strL (foldL (List.take (m - k) (List.drop k s.data.toList))) := ⟨_, rfl⟩
                      have HU : Hid (Value.string x = sval (form (List.take (m - k) (List.drop k s.data.toList)))) := Lib.hid (by rw [form_some hfo, hx]; rfl)
                      rw [← hx] at e1 ⊢
                      have h1u : (sval (form (List.take (m - k) (List.drop k s.data.toList)))).oneCell' = true := rfl
                      clear hfo hb2 hx
                      go_wp2_with (at_builtin; rw [HU.out]; refine wp_app1 w w2 (sval (form (List.take (m - k) (List.drop k s.data.toList)))) rfl _ _ 32 rfl w.heap.size 9 (.string ⟨#[]⟩) 16 Try.underlying32 Try.info9 rfl _ _ _ (by rfl) O2 (by rfl) h1u (by unfold maxLen; omega) (by omega) hsz2 B2 ?_; clear O2 B2; intro v' w3 O3 B3)
                      obtain ⟨a3, cap3, rfl⟩ := own_shape O3
                      go_roundw
                      case rel => exact ⟨k + 1, a3, cap3, by omega, by rw [HLN.out], by go_num, by rw [HLN.out]; omega, by rw [HLN.out, tokVals_snoc HC.out]; exact O3, B3⟩
                      case measure => simp [intOf]; omega
                · have heq : (((toks s.data.toList k).length : Int) == (slots : Int)) = true := by simp; omega
                  have hbad : slots < (toks s.data.toList s.size).length := by
                    have m1 := toks_mono (l := s.data.toList) (a := k + 1) (b := s.size) (by omega)
                    rw [HLN.out] at m1
                    omega
                  by_cases hml : m < s.size
                  all_goals
                    go_wp2_with (go_at_call 41; refine (specGap _ _).mono ?_; rintro e w' ⟨rfl, rfl⟩; rw [HGM.out hml])
                    go_ret2
                    exact ⟨R.out.2, .inr ⟨hbad, rfl⟩⟩
          · have hlt' : k - 1 < s.size := by omega
            have hgb := gap_at s (k - 1) hlt'
            have hkm : ((k : Int) - 1).toNat = k - 1 := by omega
            have hk1 : 1 ≤ (k : Int) := by omega
            have G2 : Hid (gapU s[k - 1] = true) := Lib.hid (by
              rcases HST.out with e | e
              · omega
              · rw [← hgb]; exact e)
            clear hgb
            go_wp2_with fail
            refine (specGap _ _).mono ?_
            rintro e w' ⟨rfl, rfl⟩
            rw [G1.out]
            go_wp2_with fail
            refine (specGap _ _).mono ?_
            rintro e w' ⟨rfl, rfl⟩
            rw [G2.out]
            go_wp2
            go_loop [8] (fun e => ∃ m : Nat, k ≤ m ∧ m ≤ s.size ∧ e = .int .i64 m ∧ Hid (Seg s.data.toList k m)) (fun e => s.size - (intOf e).toNat)
            case atStart => exact ⟨k, Nat.le_refl _, hk, rfl, SG⟩
            case round =>
              obtain ⟨m, hkm2, hm, rfl, SM⟩ := hrel
              by_cases hgo : ∃ hml : m < s.size, gapU s[m] = false
              · obtain ⟨hml, hgm⟩ := hgo
                have hgc := gap_at s m hml
                have SM2 := Lib.hid (SM.out.more (q := m + 1) (fun j a b => by rw [show j = m from by omega, hgc]; exact hgm))
                have GM := Lib.hid hgm
                clear hgm hgc
                go_wp2_with (go_at_call 41; refine (specGap _ _).mono ?_; rintro e w' ⟨rfl, rfl⟩; rw [GM.out])
                go_round
                case rel => exact ⟨m + 1, by omega, by omega, by go_num, SM2⟩
                case measure => simp [intOf]; omega
              · have hgm : gapU (byteAt s.data.toList m) = true := by
                  by_cases hml : m < s.size
                  · rw [gap_at s m hml]
                    cases e : gapU s[m]
                    · exact absurd ⟨hml, e⟩ hgo
                    · rfl
                  · rw [byteAt_end (by rw [len_data]; omega)]; rfl
                have hcl := tok_step STB.out SM.out hkm2 (by rw [HL.out]; exact hm) hgm
                have HC := Lib.hid hcl
                have HF := Lib.hid (extract_list s k m)
                have hxs : (s.extract k m).size ≤ maxLen := by rw [ByteArray.size_extract]; unfold maxLen; omega
                have hlen1 : (toks s.data.toList (k + 1)).length = (toks s.data.toList k).length + 1 := by rw [hcl]; simp
                have HLN := Lib.hid hlen1
                have HGM : Hid (∀ hml : m < s.size, gapU s[m] = true) := Lib.hid (fun hml => by rw [← gap_at s m hml]; exact hgm)
                clear hcl hgm hgo hlen1
                by_cases hfull : (toks s.data.toList k).length < slots
                · have hne : (((toks s.data.toList k).length : Int) == (slots : Int)) = false := by simp; omega
                  have hsz := R.out.2.size
                  by_cases hml : m < s.size
                  all_goals
                    go_wp2_with (go_at_call 41; refine (specGap _ _).mono ?_; rintro e w' ⟨rfl, rfl⟩; rw [HGM.out hml])
                    refine (specFold _ _ hxs).mono ?_
                    rintro e w2 ⟨rfl, hb2⟩
                    rw [HF.out]
                    have O2 := own_below R.out.1 hb2
                    have B2 := below_seq' R.out.2 hb2 hsz
                    have hsz2 := B2.size
                    by_cases hfo : foldL (List.take (m - k) (List.drop k s.data.toList)) = []
                    · have HU : Hid (Value.string ⟨#[63]⟩ = sval (form (List.take (m - k) (List.drop k s.data.toList)))) := Lib.hid (by rw [form_nil hfo]; rfl)
                      have h1u : (sval (form (List.take (m - k) (List.drop k s.data.toList)))).oneCell' = true := rfl
                      rw [hfo, strL_empty]
                      clear hfo hb2
                      go_wp2_with (at_builtin; rw [HU.out]; refine wp_app1 w w2 (sval (form (List.take (m - k) (List.drop k s.data.toList)))) rfl _ _ 32 rfl w.heap.size 9 (.string ⟨#[]⟩) 16 Try.underlying32 Try.info9 rfl _ _ _ (by rfl) O2 (by rfl) h1u (by unfold maxLen; omega) (by omega) hsz2 B2 ?_; clear O2 B2; intro v' w3 O3 B3)
                      obtain ⟨a3, cap3, rfl⟩ := own_shape O3
                      go_roundw
                      case rel => exact ⟨k + 1, a3, cap3, by omega, by rw [HLN.out], by go_num, by rw [HLN.out]; omega, by rw [HLN.out, tokVals_snoc HC.out]; exact O3, B3⟩
                      case measure => simp [intOf]; omega
                    · have e1 : (strL (foldL (List.take (m - k) (List.drop k s.data.toList)))).toList.isEmpty = false := by
                        rw [show (strL (foldL (List.take (m - k) (List.drop k s.data.toList)))).toList = foldL (List.take (m - k) (List.drop k s.data.toList)) from ByteArray.toList_mk _]
                        cases e : foldL (List.take (m - k) (List.drop k s.data.toList)) with
                        | nil => exact absurd e hfo
                        | cons _ _ => rfl
                      obtain ⟨x, hx⟩ : ∃ x, x = strL (foldL (List.take (m - k) (List.drop k s.data.toList))) := ⟨_, rfl⟩
                      have HU : Hid (Value.string x = sval (form (List.take (m - k) (List.drop k s.data.toList)))) := Lib.hid (by rw [form_some hfo, hx]; rfl)
                      rw [← hx] at e1 ⊢
                      have h1u : (sval (form (List.take (m - k) (List.drop k s.data.toList)))).oneCell' = true := rfl
                      clear hfo hb2 hx
                      go_wp2_with (at_builtin; rw [HU.out]; refine wp_app1 w w2 (sval (form (List.take (m - k) (List.drop k s.data.toList)))) rfl _ _ 32 rfl w.heap.size 9 (.string ⟨#[]⟩) 16 Try.underlying32 Try.info9 rfl _ _ _ (by rfl) O2 (by rfl) h1u (by unfold maxLen; omega) (by omega) hsz2 B2 ?_; clear O2 B2; intro v' w3 O3 B3)
                      obtain ⟨a3, cap3, rfl⟩ := own_shape O3
                      go_roundw
                      case rel => exact ⟨k + 1, a3, cap3, by omega, by rw [HLN.out], by go_num, by rw [HLN.out]; omega, by rw [HLN.out, tokVals_snoc HC.out]; exact O3, B3⟩
                      case measure => simp [intOf]; omega
                · have heq : (((toks s.data.toList k).length : Int) == (slots : Int)) = true := by simp; omega
                  have hbad : slots < (toks s.data.toList s.size).length := by
                    have m1 := toks_mono (l := s.data.toList) (a := k + 1) (b := s.size) (by omega)
                    rw [HLN.out] at m1
                    omega
                  by_cases hml : m < s.size
                  all_goals
                    go_wp2_with (go_at_call 41; refine (specGap _ _).mono ?_; rintro e w' ⟨rfl, rfl⟩; rw [HGM.out hml])
                    go_ret2
                    exact ⟨R.out.2, .inr ⟨hbad, rfl⟩⟩
      · have ht := toks_no (start_gap (l := s.data.toList) (k := k) (by rw [hga]; exact hg))
        have HT := Lib.hid ht
        have G1 := Lib.hid hg
        have R := Lib.hid (And.intro hown hb)
        clear ht hg hga hown hb
        go_wp2_with (go_at_call 41; refine (specGap _ _).mono ?_; rintro e w' ⟨rfl, rfl⟩; rw [G1.out])
        go_roundw
        case rel => exact ⟨k + 1, a, cap, by omega, by rw [HT.out], by go_num, by rw [HT.out]; exact hcnt, by rw [tokVals_same HT.out, HT.out]; exact R.out.1, R.out.2⟩
        case measure => simp [intOf]; omega
    · have hk' : k = s.size := by omega
      subst hk'
      have N0 := Lib.hid (And.intro hown hb)
      clear hown hb
      go_wp2
      go_loopw [6] (fun v wr => ∃ (q : Nat) (a : Option Addr) (cap : Nat), (toks s.data.toList s.size).length ≤ q ∧ q ≤ slots ∧ v = .slice a q cap ∧
        wr.ownsRow w.heap.size 9 1 (.slice a q cap) q (padVals s.data.toList s.size q) ∧ Below w.heap.size w wr) (fun v _ => slots - lenOf v)
      case atStart => exact ⟨_, a, cap, Nat.le_refl _, hcnt, rfl, by rw [padVals_start]; exact N0.out.1, N0.out.2⟩
      case round =>
        obtain ⟨q, a, cap, hq1, hq2, rfl, hown, hb⟩ := hrel
        by_cases hql : q < slots
        · have hsz := hb.size
          have HP := Lib.hid (padVals_snoc s.data.toList s.size q hq1)
          go_wp2_with (at_builtin; refine wp_app1 w wr (.string ⟨#[]⟩) rfl _ _ 32 rfl w.heap.size 9 (.string ⟨#[]⟩) 16 Try.underlying32 Try.info9 rfl _ _ _ (by rfl) hown (by rfl) rfl (by unfold maxLen; omega) (by omega) hsz hb ?_; clear hown hb; intro v' w3 O3 B3)
          obtain ⟨a3, cap3, rfl⟩ := own_shape O3
          go_roundw
          case rel => exact ⟨q + 1, a3, cap3, by omega, by omega, rfl, by rw [HP.out]; exact O3, B3⟩
          case measure => simp [lenOf]; omega
        · have hq' : q = slots := by omega
          subst hq'
          obtain ⟨g, rfl, hg⟩ := own_some hown (by omega)
          rw [padVals_done] at hown
          have R := Lib.hid (And.intro hown hb)
          clear hown hb
          go_wp2
          go_ret2
          exact ⟨R.out.2, .inl ⟨hcnt, g, cap, hg, rfl, R.out.1⟩⟩

set_option maxHeartbeats 400000 in
theorem specTokensOut (s : ByteArray) (z : Int) (w : World) (hs : s.size ≤ maxLen) (h : 2000 < s.size ∨ z < 1 ∨ 16 < z) :
    Calls Try.prog 18 #[.string s, .int .i64 z] w fun e w' => e = .returned (.tuple #[.slice none 0 0, .bool false]) ∧ w = w' := by
  unfold maxLen at hs
  by_cases h1 : 2000 < s.size
  · go_enter Try.func18, Try.ntmps18
    go_wp2
    go_ret2
    exact ⟨rfl, rfl⟩
  by_cases h2 : z < 1
  · go_enter Try.func18, Try.ntmps18
    go_wp2
    go_ret2
    exact ⟨rfl, rfl⟩
  have h3 : 16 < z := by omega
  clear h
  go_enter Try.func18, Try.ntmps18
  go_wp2
  go_ret2
  exact ⟨rfl, rfl⟩

set_option maxHeartbeats 400000 in
theorem implTokensOut (s : ByteArray) (z : Int) (w : World) (hs : s.size ≤ maxLen) (h : 2000 < s.size ∨ z < 1 ∨ 16 < z) :
    Calls Try.prog 19 #[.string s, .int .i64 z] w fun e w' => e = .returned (.tuple #[.slice none 0 0, .bool false]) ∧ w = w' := by
  unfold maxLen at hs
  by_cases h1 : 2000 < s.size
  · go_enter Try.func19, Try.ntmps19
    go_wp2
    go_ret2
    exact ⟨rfl, rfl⟩
  by_cases h2 : z < 1
  · go_enter Try.func19, Try.ntmps19
    go_wp2
    go_ret2
    exact ⟨rfl, rfl⟩
  have h3 : 16 < z := by omega
  clear h
  go_enter Try.func19, Try.ntmps19
  go_wp2
  go_ret2
  exact ⟨rfl, rfl⟩

def tokStrs (l : List UInt8) (n slots : Nat) : List (List UInt8) := toks l n ++ List.replicate (slots - (toks l n).length) []
theorem tokStrs_row (l : List UInt8) (n slots : Nat) : tokRow l n slots = (tokStrs l n slots).map sval := by
  unfold tokRow tokStrs; rw [List.map_append, List.map_replicate]; rfl
theorem tokStrs_length (l : List UInt8) (n slots : Nat) (h : (toks l n).length ≤ slots) : (tokStrs l n slots).length = slots := by
  unfold tokStrs; simp; omega
end Go.Proofs.Ytmdgigaplfbcpaa
