/- Chapter 10 in the program: RankSize, RankSteps, the sorter's small parts. -/
import Derived.Test.YtaedamnhobcdlaaRkT
import Derived.Test.YtaedamnhobcdlaaRkN
import Derived.Test.YtaedamnhobcdlaaNtX
import Derived.Test.YtaedamnhobcdlaaRecK
import Derived.Test.YtaedamnhobcdlaaRecZ
import Derived.Laws.EntriesVeiled
namespace Go.Proofs.Ytaedamnhobcdlaa
open Go.RowKit
set_option linter.unusedVariables false
set_option linter.unusedSimpArgs false
set_option maxRecDepth 100000

set_option maxHeartbeats 1000000 in
theorem uImplRankSize (n : Int) (w : World) (hb : -9223372036854775808 ≤ n ∧ n ≤ 9223372036854775807) : Calls Try.prog 17 #[.int .i64 n] w fun e w' => e = .returned (.int .i64 (rankSizeZ n)) ∧ Below w.heap.size w w' := by
  by_cases h0 : n < 0
  · have E := Lib.hid (rankSizeZ_no (.inl h0))
    go_enter Try.func17, Try.ntmps17
    go_wp2
    go_ret
    exact ⟨ret_int E.out.symm, Below.refl _ _⟩
  by_cases h1 : 64 < n
  · have E := Lib.hid (rankSizeZ_no (.inr h1))
    go_enter Try.func17, Try.ntmps17
    go_wp2
    go_ret
    exact ⟨ret_int E.out.symm, Below.refl _ _⟩
  obtain ⟨m, rfl⟩ : ∃ m : Nat, n = m := ⟨n.toNat, by omega⟩
  have E := Lib.hid (rankSizeZ_at (n := m) (by omega))
  have hm : m ≤ 64 := by omega
  go_enter Try.func17, Try.ntmps17
  go_wp2
  go_loop [3] (fun v => ∃ s : Nat, v = .int .i64 s ∧ s ≤ 64 ∧ Hid (dbl s m)) (fun v => 128 - (intOf v).toNat)
  case atStart => exact ⟨1, rfl, by omega, Lib.hid (dbl_start m)⟩
  case round =>
    obtain ⟨s, rfl, hs, D⟩ := hrel
    by_cases hlt : s < m
    · have N := Lib.hid (dbl_next D.out hm hlt)
      have hs2 := N.out.2
      have hp : 1 ≤ s := by rcases D.out.1 with h | h | h | h | h | h | h <;> omega
      go_wp2
      go_round
      case rel => exact ⟨2 * s, by go_num, by omega, Lib.hid N.out.1⟩
      case measure => simp [intOf]; omega
    · have F := Lib.hid (dbl_done D.out hm hlt)
      go_wp2
      go_ret
      exact ⟨ret_int (by rw [E.out, ← F.out]), Below.refl _ _⟩
set_option maxHeartbeats 2000000 in
theorem uImplRankSteps (n : Int) (w : World) (hb : -9223372036854775808 ≤ n ∧ n ≤ 9223372036854775807) : Calls Try.prog 22 #[.int .i64 n] w fun e w' => e = .returned (.int .i64 (rankStepsZ n)) ∧ Below w.heap.size w w' := by
  have RS := Lib.hid (fun w' => uImplRankSize n w' hb)
  by_cases hbad : n < 0 ∨ 64 < n
  · have E := Lib.hid (show rankStepsZ n = -1 by unfold rankStepsZ; rw [if_pos hbad])
    rw [rankSizeZ_no hbad] at RS
    clear hbad
    go_enter Try.func22, Try.ntmps22
    go_wp2_with fail
    refine (RS.out _).mono ?_
    rintro e w1 ⟨rfl, hb⟩
    have B := Lib.hid hb
    clear hb
    go_wp2
    go_ret
    exact ⟨ret_int E.out.symm, B.out⟩
  · have E := Lib.hid (show rankStepsZ n = ((bitonicM (rankSizeZ n)).ws.length : Int) by unfold rankStepsZ; rw [if_neg hbad])
    obtain ⟨m, rfl⟩ : ∃ m : Nat, n = m := ⟨n.toNat, by omega⟩
    have hs := sizeUp_le (n := m) (by omega)
    rw [rankSizeZ_at (by omega)] at RS E
    have BT := Lib.hid (fun w' => uImplBitonic (sizeUp m : Int) w' (by omega))
    have hsp : (0 : Int) ≤ (sizeUp m : Int) := by omega
    generalize sizeUp m = s at *
    clear hbad
    go_enter Try.func22, Try.ntmps22
    go_wp2_with fail
    refine (RS.out _).mono ?_
    rintro e w1 ⟨rfl, hb⟩
    have B := Lib.hid hb
    clear hb
    go_wp2_with fail
    refine (BT.out _).mono ?_
    rintro e w3 h3
    obtain ⟨c0, c1, rfl, ho, hb⟩ := h3
    obtain ⟨ad, kd, rfl, rfl, _⟩ := netIn_cells ho.read
    replace B := Lib.hid (below_seq B.out hb)
    clear hb ho
    go_wp2_with fail
    rw [net_field]
    simp only [Result.andThen]
    rw [Oper.upon_value]
    go_wp2
    go_ret
    exact ⟨ret_int E.out.symm, B.out⟩
theorem byRankC (w : World) : Calls Try.prog 44 #[] w fun e w' => e = .returned (.agg #[.func (.func 74) #[] #[]]) ∧ Below w.heap.size w w' := by
  go_enter Try.func44, Try.ntmps44
  go_wp2
  exact bodyPost_ret (v := .agg #[.func (.func 74) #[] #[]]) (by simp [results, Try.results44, go_sem]) rfl ⟨rfl, below_box (Below.refl _ _) _⟩
/-- A row out of no memory has no elements. -/
theorem row_none {α : Type} {f : α → List Value} {s : Nat} (hf : ∀ x, (f x).length = s) (h0 : 0 < s) {w : World} {l : List α} (h : Row w none (flatG f l)) : l = [] := by
  rcases h with h | ⟨b, off, hb, _⟩
  · have := flatG_len hf l
    rw [h] at this
    rcases l with _ | ⟨x, l⟩
    · rfl
    · simp only [List.length_nil, List.length_cons] at this
      have := Nat.mul_pos (show 0 < l.length + 1 by omega) h0
      omega
  · cases hb
theorem flatG_nil {α : Type} (f : α → List Value) : flatG f [] = [] := rfl
theorem Try.infoRecM : (Try.prog.info? 30).map (fun i => (i.zero, i.size, i.bytes)) = some (some (.agg #[.bool false, .int .i64 0, .int .i64 0, .string ⟨#[]⟩]), 4, 40) := Try.infoRec
set_option maxHeartbeats 1000000 in
theorem cloneR (a : Option Addr) (cap : Nat) (l : List RecM) (w : World) (hl : l.length ≤ 64) (r : Row w a (flatG recL l)) : Calls Try.prog 77 #[.slice a l.length cap] w fun e w' => ∃ v, e = .returned v ∧ w'.ownsRow w.heap.size 30 4 v l.length (flatG recL l) ∧ Below w.heap.size w w' := by
  have R := Lib.hid r
  cases a with
  | none =>
    have e0 := row_none recL_len (by decide) r
    subst e0
    clear r R hl
    go_enter Try.func77, Try.ntmps77
    have hq : (binOp .eql 24 (.slice none 0 cap) (.slice none 0 0)).run Try.prog w = .ok (.bool true) w := by kernel_rfl
    go_wp2
    go_ret
    exact ⟨_, rfl, ⟨rfl, .inl ⟨rfl, rfl⟩⟩, Below.refl _ _⟩
  | some ad =>
    have RA := Lib.hid (r.below (below_box (Below.refl _ w) (.cells #[] 30)))
    clear r R
    go_enter Try.func77, Try.ntmps77
    have hq : (binOp .eql 24 (.slice (some ad) l.length cap) (.slice none 0 0)).run Try.prog w = .ok (.bool false) w := by kernel_rfl
    go_wp2_with (at_builtin; go_must (refine wp_app_rowS rfl _ _ 24 rfl 30 _ 4 40 Try.underlying24 Try.infoRecM rfl (by omega) w.heap.size 0 (.slice (some ⟨w.heap.size, 0, none⟩) 0 0) [] (by rfl) (World.ownsRow_made w #[] 0 (Nat.le_refl _) (by unfold maxLen; omega) rfl) (some ad) l.length cap (flatG recL l) (by rfl) (flatG_len recL_len l) RA.out (flatG_one recL_one _) (by unfold maxLen; omega) (by omega) (by simp) ?_); intro v3 w3 ho3 hg3)
    rw [Nat.zero_add, List.nil_append] at ho3
    have Z := Lib.hid (And.intro ho3 ((below_box (Below.refl w.heap.size w) (.cells #[] 30)).grown hg3 (by simp) (fun g hg => by cases hg; exact Nat.le_refl _)))
    clear ho3 hg3 RA
    go_wp2
    go_ret
    exact ⟨_, rfl, Z.out.1, Z.out.2⟩
end Go.Proofs.Ytaedamnhobcdlaa
