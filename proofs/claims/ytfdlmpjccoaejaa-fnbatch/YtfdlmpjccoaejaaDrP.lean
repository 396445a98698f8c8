/- Chapter 7 drawn: lists of strings. -/
import Derived.Test.YtfdlmpjccoaejaaCurP
import Derived.Test.YtfdlmpjccoaejaaBad
namespace Go.Proofs.Ytfdlmpjccoaejaa
open Go.RowKit
set_option linter.unusedVariables false
set_option maxRecDepth 100000

def DrawnList (w : World) (e : Ending) (w' : World) : Prop :=
  ∃ (c : Value) (ws : List (List UInt8)), e = .returned c ∧ StringSIn [c] ws w' ∧ ws.length ≤ 100 ∧ (∀ s ∈ ws, s.length ≤ maxLen) ∧ Below w.heap.size w w'
theorem small_str {s : List UInt8} (h : strB s = true) : s.length ≤ maxLen := by have := str_len h; unfold maxLen; omega
theorem small_snoc {ws : List (List UInt8)} {s : List UInt8} (h : ∀ s ∈ ws, s.length ≤ maxLen) (hs : s.length ≤ maxLen) : ∀ x ∈ ws ++ [s], x.length ≤ maxLen := by
  intro x hx
  rcases List.mem_append.1 hx with h1 | h1
  · exact h x h1
  · have : x = s := by simpa using h1
    rw [this]; exact hs
set_option maxHeartbeats 4000000 in
theorem drawPlanesOf (a : Option Addr) (l : List UInt8) (cap : Nat) (w : World) (hl : l.length ≤ 1048576) (r : Row w a (l.map bval)) :
    Calls Try.prog 15 #[.slice a l.length cap] w (DrawnList w) := by
  have CO := Lib.hid (curOpen a l cap w hl r)
  clear r
  go_enter Try.func15, Try.ntmps15
  go_wp2_with fail
  refine CO.out.mono ?_
  rintro e w1 ⟨rfl, hI1, hB1⟩
  have I1 := Lib.hid hI1
  have B1 := Lib.hid hB1
  have hb1 : w.heap.size < w1.heap.size := hI1.lt
  clear hI1 hB1 CO
  go_wp2_with fail
  refine (curWords w.heap.size a l cap _ 12 _ hl (by omega) (by omega) I1.out).mono ?_
  rintro e w2 ⟨c, ws, rfl, ho2, hlen, hst, hI2, hg2⟩
  obtain ⟨ad, cp, e2, ow, _⟩ := ho2
  simp at e2
  subst e2
  have HS : Hid (ws.length ≤ 12 ∧ ∀ s ∈ ws, s.length ≤ maxLen) := Lib.hid ⟨hlen, fun s hs => small_str (hst s hs)⟩
  have X2 : Hid (w2.ownsRow (w.heap.size + 1) 9 1 (.slice ad ws.length cp) ws.length (ws.map sval) ∧ CurI w2 w.heap.size a l cap 1000 ∧ Below w.heap.size w w2) := Lib.hid ⟨own_base ow hb1, hI2.more (by omega), below_write B1.out hg2 (Nat.le_refl _)⟩
  obtain ⟨q, hq⟩ : ∃ q, ws.length = q := ⟨_, rfl⟩
  have HQ := Lib.hid hq
  rw [hq] at X2 hlen ⊢
  clear ow hst hI2 hg2 I1 B1 hq
  go_wp2_with fail
  refine (curPick w.heap.size a l cap _ 8 _ hl (by omega) (by omega) X2.out.2.1).mono ?_
  rintro e w3 ⟨t, rfl, ht, hI3, hg3⟩
  have X3 : Hid (w3.ownsRow (w.heap.size + 1) 9 1 (.slice ad q cp) q (ws.map sval) ∧ CurI w3 w.heap.size a l cap 1001 ∧ Below w.heap.size w w3) := Lib.hid ⟨X2.out.1.kept hg3 (own_apart X2.out.1 (by omega)), hI3, below_write X2.out.2.2 hg3 (Nat.le_refl _)⟩
  have hb3 : w.heap.size < w3.heap.size := hI3.lt
  clear X2 hI3 hg3 ht
  have MK : Hid (∀ (wz : World) (ad' : Option Addr) (q' c' : Nat) (ws' : List (List UInt8)), wz.ownsRow (w.heap.size + 1) 9 1 (.slice ad' q' c') q' (ws'.map sval) → ws'.length ≤ 100 → (∀ s ∈ ws', s.length ≤ maxLen) → Below w.heap.size w wz → DrawnList w (.returned (.slice ad' q' c')) wz) := Lib.hid (fun wz ad' q' c' ws' h1 h2 h3 h4 => ⟨_, ws', rfl, (StringSOwn.mk h1).read, h2, h3, h4⟩)
  by_cases t0 : t = 0
  · subst t0
    go_wp2_with fail
    refine (curBadWord w.heap.size a l cap _ _ hl (by omega) X3.out.2.1).mono ?_
    rintro e w4 ⟨s, rfl, hs, hI4, hg4⟩
    have O4 := Lib.hid (X3.out.1.kept hg4 (own_apart X3.out.1 (by omega)))
    have B4 := Lib.hid (below_write X3.out.2.2 hg4 (Nat.le_refl _))
    have hsz : w.heap.size + 1 ≤ w4.heap.size := hI4.lt
    have SN := Lib.hid (map_snoc ws s)
    have HW := Lib.hid (small_snoc (s := s.data.toList) HS.out.2 (by rw [len_data]; unfold maxLen; omega))
    clear hI4 hg4 X3
    go_wp2_with (at_builtin; go_must (refine wp_app_row rfl _ _ 24 rfl 9 (.string ⟨#[]⟩) 16 Try.underlying24 Try.infoStr rfl (w.heap.size + 1) q (.slice ad q cp) (ws.map sval) (by rfl) (O4.out.alloc _) (some ⟨w4.heap.size, 0, none⟩) 1 1 [.string s] (by rfl) rfl (row_one w4 (.string s) 9) (by simp [Value.oneCell']) (by unfold maxLen; omega) (by omega) (by simp; omega) ?_); intro v6 w6 ho6 hg6; have LW := app_low hsz O4.out _ hg6; rw [← SN.out] at ho6; have X6 := Lib.hid (And.intro ho6 (B4.out.trans (LW.mono (by omega)))); obtain ⟨a6, c6, rfl⟩ := own_shape ho6; clear ho6 hg6 LW)
    go_ret
    exact MK.out _ _ _ _ _ X6.out.1 (by have := HS.out.1; simp; omega) HW.out X6.out.2
  have t0B : ((t : Int) == 0) = false := by simp; omega
  by_cases t1 : t = 1
  · subst t1
    go_wp2
    go_loopw [4] (fun v wr => ∃ (q c : Nat) (ad : Option Addr) (ws : List (List UInt8)), q ≤ 65 ∧ v = .slice ad q c ∧ Hid (ws.length = q ∧ ∀ s ∈ ws, s.length ≤ maxLen) ∧ Hid (wr.ownsRow (w.heap.size + 1) 9 1 (.slice ad q c) q (ws.map sval) ∧ CurI wr w.heap.size a l cap (1001 + 100 * q) ∧ Below w.heap.size w wr)) (fun v _ => 66 - lenOf v)
    case atStart => exact ⟨q, cp, ad, ws, by omega, rfl, Lib.hid ⟨HQ.out, HS.out.2⟩, Lib.hid ⟨X3.out.1, X3.out.2.1.more (by omega), X3.out.2.2⟩⟩
    case round =>
      clear X3 HS HQ
      obtain ⟨q, c, ad, ws, hq, rfl, HW, H⟩ := hrel
      go_wp2_with fail
      refine (curPick w.heap.size a l cap _ 2 _ hl (by omega) (by omega) H.out.2.1).mono ?_
      rintro e w4 ⟨x, rfl, hx, hI4, hg4⟩
      have hx2 : x < 2 := by omega
      have X4 : Hid (w4.ownsRow (w.heap.size + 1) 9 1 (.slice ad q c) q (ws.map sval) ∧ CurI w4 w.heap.size a l cap (1001 + 100 * q + 1) ∧ Below w.heap.size w w4) := Lib.hid ⟨H.out.1.kept hg4 (own_apart H.out.1 (by omega)), hI4, below_write H.out.2.2 hg4 (Nat.le_refl _)⟩
      clear H hI4 hg4 hx
      by_cases hlt : q < 64 + x
      · go_wp2_with fail
        refine (curWordW w.heap.size a l cap _ _ hl (by omega) X4.out.2.1).mono ?_
        rintro e w5 ⟨s, rfl, hs, hI5, hg5⟩
        have O5 := Lib.hid (X4.out.1.kept hg5 (own_apart X4.out.1 (by omega)))
        have B5 := Lib.hid (below_write X4.out.2.2 hg5 (Nat.le_refl _))
        have I5 := Lib.hid hI5
        have hsz : w.heap.size + 1 ≤ w5.heap.size := hI5.lt
        have SN := Lib.hid (map_snoc ws s)
        have HW2 : Hid ((ws ++ [s.data.toList]).length = q + 1 ∧ ∀ x ∈ ws ++ [s.data.toList], x.length ≤ maxLen) := Lib.hid ⟨by simp [HW.out.1], small_snoc HW.out.2 (small_str (strB_word hs))⟩
        clear hI5 hg5 X4 hs
        go_wp2_with (at_builtin; go_must (refine wp_app_row rfl _ _ 24 rfl 9 (.string ⟨#[]⟩) 16 Try.underlying24 Try.infoStr rfl (w.heap.size + 1) q (.slice ad q c) (ws.map sval) (by rfl) (O5.out.alloc _) (some ⟨w5.heap.size, 0, none⟩) 1 1 [.string s] (by rfl) rfl (row_one w5 (.string s) 9) (by simp [Value.oneCell']) (by unfold maxLen; omega) (by omega) (by simp; omega) ?_); intro v6 w6 ho6 hg6; have LW := app_low hsz O5.out _ hg6; rw [← SN.out] at ho6; have X6 := Lib.hid (And.intro ho6 (And.intro (I5.out.low LW (by omega)) (B5.out.trans (LW.mono (by omega))))); obtain ⟨a6, c6, rfl⟩ := own_shape ho6; clear ho6 hg6 LW)
        go_roundw
        case rel => exact ⟨q + 1, c6, a6, _, by omega, rfl, HW2, Lib.hid ⟨X6.out.1, X6.out.2.1.more (by omega), X6.out.2.2⟩⟩
        case measure => simp [lenOf]; omega
      · go_wp2
        go_ret
        exact MK.out _ _ _ _ _ X4.out.1 (by have := HW.out.1; omega) HW.out.2 X4.out.2.2
  have t1B : ((t : Int) == 1) = false := by simp; omega
  go_wp2
  go_ret
  exact MK.out _ _ _ _ _ X3.out.1 (by have := HS.out.1; omega) HS.out.2 X3.out.2.2
end Go.Proofs.Ytfdlmpjccoaejaa
