/- Lists of words drawn. -/
import Derived.Test.YtfdlmpjccoaejaaCurWW
import Derived.Test.YtfdlmpjccoaejaaCurN
import Derived.Test.YtfdlmpjccoaejaaDrN
import Derived.Test.YtfdlmpjccoaejaaPlT
namespace Go.Proofs.Ytfdlmpjccoaejaa
open Go.RowKit
set_option linter.unusedVariables false
set_option maxRecDepth 100000

def strsB (ws : List (List UInt8)) : Prop := ∀ s ∈ ws, strB s = true
theorem strB_word {s : List UInt8} (h : wordB s = true) : strB s = true := by unfold strB; rw [h]; simp
theorem strsB_snoc {ws : List (List UInt8)} {s : List UInt8} (h : strsB ws) (hs : strB s = true) : strsB (ws ++ [s]) := by
  intro x hx
  rcases List.mem_append.1 hx with h1 | h1
  · exact h x h1
  · have : x = s := by simpa using h1
    rw [this]; exact hs
theorem map_snoc (ws : List (List UInt8)) (s : ByteArray) : (ws ++ [s.data.toList]).map sval = ws.map sval ++ [.string s] := by
  rw [List.map_append]
  rfl
def DrawnWords (b : Nat) (a : Option Addr) (l : List UInt8) (cap m n : Nat) (w : World) (e : Ending) (w' : World) : Prop :=
  ∃ (c : Value) (ws : List (List UInt8)), e = .returned c ∧ StringSOwn w.heap.size w'.heap.size [c] ws w' ∧ ws.length ≤ n ∧ strsB ws ∧ CurI w' b a l cap m ∧ w.grownBy w' (some b)
set_option maxHeartbeats 4000000 in
theorem curWords (b : Nat) (a : Option Addr) (l : List UInt8) (cap m n : Nat) (w : World) (hl : l.length ≤ 1048576) (hm : m ≤ 1000000000000000000) (hn : n ≤ 1000) (h : CurI w b a l cap m) :
    Calls Try.prog 58 #[.pointer (some ⟨b, 0, none⟩), .int .i64 n] w (DrawnWords b a l cap (m + 1 + 67 * n) n w) := by
  have hbl := h.lt
  have H := Lib.hid (h.below ((Below.refl _ _).alloc (Nat.le_refl _) (.cells #[] 9)))
  clear h
  go_enter Try.func58, Try.ntmps58
  go_wp2_with fail
  refine (curSize b a l cap m n _ hl (by omega) (by omega) H.out).mono ?_
  rintro e w1 ⟨r, rfl, hr, hI1, hg1⟩
  have hrn : r ≤ n := by omega
  have O0 := nil_strsW w
  have X1 : Hid (w1.ownsRow w.heap.size 9 1 (.slice (some ⟨w.heap.size, 0, none⟩) 0 0) 0 (([] : List (List UInt8)).map sval) ∧ CurI w1 b a l cap (m + 1) ∧ w.grownBy w1 (some b)) := Lib.hid ⟨O0.kept hg1 (own_apart O0 hbl), hI1, grown_trans (World.grownBy_alloc w (.cells #[] 9) (some b)) hg1⟩
  clear O0 hI1 hg1 H hr
  go_wp2
  go_loopw [5, 6, 7] (fun o k _ wr => ∃ (q : Nat) (ao : Option Addr) (c1 : Nat) (ws : List (List UInt8)), q ≤ r ∧ k = .int .i64 ((r : Int) - (q : Int)) ∧ o = .slice ao q c1 ∧ Hid (ws.length = q ∧ strsB ws) ∧ Hid (wr.ownsRow w.heap.size 9 1 (.slice ao q c1) q (ws.map sval) ∧ CurI wr b a l cap (m + 1 + 67 * q) ∧ w.grownBy wr (some b))) (fun _ k _ _ => (intOf k).toNat)
  case atStart => exact ⟨0, _, _, [], Nat.zero_le _, by simp, rfl, Lib.hid ⟨rfl, fun s hs => by simp at hs⟩, X1⟩
  case round =>
    clear X1
    obtain ⟨q, ao, c1, ws, hq, rfl, rfl, HB, H⟩ := hrel
    by_cases hlt : q < r
    · go_wp2_with fail
      refine (curWordW b a l cap _ _ hl (by omega) H.out.2.1).mono ?_
      rintro e w4 ⟨s, rfl, hs, hI4, hg4⟩
      have O4 := Lib.hid (H.out.1.kept hg4 (own_apart H.out.1 hbl))
      have G4 := Lib.hid (grown_trans H.out.2.2 hg4)
      have I4 := Lib.hid hI4
      have HS := Lib.hid hs
      clear hI4 hg4 H hs
      go_wp2_with fail
      refine (curOnce b a l cap _ 6 _ hl (by omega) (by omega) I4.out).mono ?_
      rintro e w5 ⟨f, rfl, hI5, hg5⟩
      have O5 := Lib.hid (O4.out.kept hg5 (own_apart O4.out hbl))
      have G5 := Lib.hid (grown_trans G4.out hg5)
      have I5 := Lib.hid hI5
      have hsz : w.heap.size ≤ w5.heap.size := G5.out.size
      clear hI5 hg5 O4 G4 I4
      cases f
      · have SN := Lib.hid (map_snoc ws s)
        have HB2 : Hid ((ws ++ [s.data.toList]).length = q + 1 ∧ strsB (ws ++ [s.data.toList])) := Lib.hid ⟨by simp [HB.out.1], strsB_snoc HB.out.2 (strB_word HS.out)⟩
        go_wp2_with (at_builtin; go_must (refine wp_app_row rfl _ _ 24 rfl 9 (.string ⟨#[]⟩) 16 Try.underlying24 Try.infoStr rfl w.heap.size q (.slice ao q c1) (ws.map sval) (by rfl) (O5.out.alloc _) (some ⟨w5.heap.size, 0, none⟩) 1 1 [.string s] (by rfl) rfl (row_one w5 (.string s) 9) (by simp [Value.oneCell']) (by unfold maxLen; omega) (by omega) (by simp; omega) ?_); intro v6 w6 ho6 hg6; have LW := app_low hsz O5.out _ hg6; rw [← SN.out] at ho6; have X6 := Lib.hid (And.intro ho6 (And.intro (I5.out.low LW hbl) (grown_low G5.out LW))); obtain ⟨a6, c6, rfl⟩ := own_shape ho6; clear ho6 hg6 LW)
        go_roundw
        case rel => exact ⟨q + 1, a6, c6, _, by omega, by go_num, rfl, HB2, Lib.hid ⟨X6.out.1, X6.out.2.1.more (by omega), X6.out.2.2⟩⟩
        case measure => simp [intOf]; omega
      · have SN := Lib.hid (map_snoc ws ⟨#[]⟩)
        have HB2 : Hid ((ws ++ [(⟨#[]⟩ : ByteArray).data.toList]).length = q + 1 ∧ strsB (ws ++ [(⟨#[]⟩ : ByteArray).data.toList])) := Lib.hid ⟨by simp [HB.out.1], strsB_snoc HB.out.2 rfl⟩
        go_wp2_with (at_builtin; go_must (refine wp_app_row rfl _ _ 24 rfl 9 (.string ⟨#[]⟩) 16 Try.underlying24 Try.infoStr rfl w.heap.size q (.slice ao q c1) (ws.map sval) (by rfl) (O5.out.alloc _) (some ⟨w5.heap.size, 0, none⟩) 1 1 [.string ⟨#[]⟩] (by rfl) rfl (row_one w5 (.string ⟨#[]⟩) 9) (by simp [Value.oneCell']) (by unfold maxLen; omega) (by omega) (by simp; omega) ?_); intro v6 w6 ho6 hg6; have LW := app_low hsz O5.out _ hg6; rw [← SN.out] at ho6; have X6 := Lib.hid (And.intro ho6 (And.intro (I5.out.low LW hbl) (grown_low G5.out LW))); obtain ⟨a6, c6, rfl⟩ := own_shape ho6; clear ho6 hg6 LW)
        go_roundw
        case rel => exact ⟨q + 1, a6, c6, _, by omega, by go_num, rfl, HB2, Lib.hid ⟨X6.out.1, X6.out.2.1.more (by omega), X6.out.2.2⟩⟩
        case measure => simp [intOf]; omega
    · have hq' : q = r := by omega
      subst hq'
      go_wp2
      go_ret
      exact ⟨_, ws, rfl, StringSOwn.mk H.out.1, by rw [HB.out.1]; exact hrn, HB.out.2, H.out.2.1.more (by omega), H.out.2.2⟩
end Go.Proofs.Ytfdlmpjccoaejaa
