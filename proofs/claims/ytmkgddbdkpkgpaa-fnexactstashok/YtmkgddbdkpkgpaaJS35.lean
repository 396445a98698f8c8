/- TrH, TrD, StG in one. Written by tools/join2.py. -/
import Derived.Test.YtmkgddbdkpkgpaaJS17
import Derived.Test.YtmkgddbdkpkgpaaJS28
import Derived.Deep.RegionLaw
import Derived.IntWalk
import Derived.Deep.DeepCutAuto
import Derived.Test.YtmkgddbdkpkgpaaJS34
section
namespace Go.Proofs.Ytmkgddbdkpkgpaa
open Go.RowKit
set_option linter.unusedVariables false

def i64T (z : Int) : Prop := -9223372036854775808 ≤ z ∧ z ≤ 9223372036854775807
end Go.Proofs.Ytmkgddbdkpkgpaa
end

section
namespace Go.Proofs.Ytmkgddbdkpkgpaa
open Go.RowKit
set_option linter.unusedVariables false
set_option linter.unusedSimpArgs false
set_option maxRecDepth 100000

theorem lit4_at {x0 x1 x2 x3 : Int} (h0 : -9223372036854775808 ≤ x0 ∧ x0 ≤ 9223372036854775807) (h1 : -9223372036854775808 ≤ x1 ∧ x1 ≤ 9223372036854775807) (h2 : -9223372036854775808 ≤ x2 ∧ x2 ≤ 9223372036854775807) (h3 : -9223372036854775808 ≤ x3 ∧ x3 ≤ 9223372036854775807) (r : Nat) (h : r < 4) :
    ∃ u : Int, (-9223372036854775808 ≤ u ∧ u ≤ 9223372036854775807) ∧ (#[.int .i64 x0, .int .i64 x1, .int .i64 x2, .int .i64 x3] : Array Value)[r]? = some (.int .i64 u) := by
  rcases (show r = 0 ∨ r = 1 ∨ r = 2 ∨ r = 3 from by omega) with rfl | rfl | rfl | rfl
  · exact ⟨x0, h0, rfl⟩
  · exact ⟨x1, h1, rfl⟩
  · exact ⟨x2, h2, rfl⟩
  · exact ⟨x3, h3, rfl⟩
set_option maxHeartbeats 2000000 in
theorem curLeaf (b : Nat) (a : Option Addr) (l : List UInt8) (cap m : Nat) (z : Int) (w : World) (hl : l.length ≤ 1048576) (hm : m ≤ 3000000000000000000) (h : CurI w b a l cap m) :
    Calls Try.prog 58 #[.pointer (some ⟨b, 0, none⟩), .int .i64 z] w (DrawnInt b a l cap (m + 3) w) := by
  have H := Lib.hid h
  have LG := Lib.hid (fun w => specLog z w)
  clear h
  cases hz : logB z
  · rw [hz] at LG
    clear hz
    go_enter Try.func58, Try.ntmps58
    go_wp2_with fail
    refine (LG.out _).mono ?_
    rintro e w1 ⟨rfl, rfl⟩
    go_wp2_with fail
    refine (curRaw b a l cap _ _ hl (by omega) H.out).mono ?_
    rintro e w2 ⟨u, rfl, hu, hI, hg⟩
    have Z := Lib.hid (And.intro (hI.more (m' := m + 3) (by omega)) hg)
    clear hI hg H
    go_wp2
    go_ret
    exact ⟨u, rfl, hu, Z.out.1, Z.out.2⟩
  · obtain ⟨g, rfl, hg6⟩ := logB_ok hz
    rw [hz] at LG
    have PW := Lib.hid (fun w => specPow16 g w (by omega))
    have hp64 := pow_64 hg6
    clear hz
    obtain ⟨p, hp⟩ : ∃ p, 2 ^ g = p := ⟨_, rfl⟩
    rw [hp] at PW hp64
    clear hp
    go_enter Try.func58, Try.ntmps58
    go_wp2_with fail
    refine (LG.out _).mono ?_
    rintro e w1 ⟨rfl, rfl⟩
    go_wp2_with fail
    refine (curOnce b a l cap m 9 _ hl (by omega) (by omega) H.out).mono ?_
    rintro e w2 ⟨q, rfl, hI, hg⟩
    have I2 := Lib.hid hI
    have G2 := Lib.hid hg
    clear hI hg H LG
    cases q
    · go_wp2_with fail
      refine (PW.out _).mono ?_
      rintro e w3 ⟨rfl, rfl⟩
      go_wp2_with fail
      refine (curPick b a l cap _ p _ hl (by omega) (by omega) I2.out).mono ?_
      rintro e w3 ⟨r, rfl, hr, hI, hg⟩
      have hr2 : (r : Int) ≤ 64 := by omega
      have Z := Lib.hid (And.intro (hI.more (m' := m + 3) (by omega)) (grown_trans G2.out hg))
      clear hI hg I2 G2
      go_wp2
      go_ret
      exact ⟨r, rfl, by omega, Z.out.1, Z.out.2⟩
    · go_wp2_with fail
      refine (curRaw b a l cap _ _ hl (by omega) I2.out).mono ?_
      rintro e w3 ⟨u, rfl, hu, hI, hg⟩
      have Z := Lib.hid (And.intro (hI.more (m' := m + 3) (by omega)) (grown_trans G2.out hg))
      clear hI hg I2 G2
      go_wp2
      go_ret
      exact ⟨u, rfl, hu, Z.out.1, Z.out.2⟩
end Go.Proofs.Ytmkgddbdkpkgpaa
end

section
namespace Go.Proofs.Ytmkgddbdkpkgpaa
open Go.RowKit
set_option linter.unusedVariables false
set_option linter.unusedSimpArgs false
set_option maxRecDepth 100000

theorem szBlockS_small {t : List BlkM} (h : ∀ m ∈ t, m.data.length ≤ 8) (hl : t.length ≤ 200) : szBlockS t ≤ 2000 := by
  have key : ∀ t : List BlkM, (∀ m ∈ t, m.data.length ≤ 8) → sumD t ≤ t.length * 8 := by
    intro t
    induction t with
    | nil => intro _; simp [sumD]
    | cons m t ih =>
      intro h
      rw [sumD_cons]
      have h1 := h m (by simp)
      have h2 := ih (fun x hx => h x (List.mem_cons_of_mem _ hx))
      simp only [List.length_cons]
      omega
  have := key t h
  unfold szBlockS
  omega
/-- A drawn row, told as one that is owned. -/
theorem BsSt.owned {P : BlkM → Prop} {w W : World} {b : Nat} {a : Option Addr} {l : List UInt8} {cap m : Nat} {ao : Option Addr} {co n : Nat} {es : List (Elt BlkM 3)} {F : Nat → Foot} (s : BsSt P w W b a l cap m ao co es F) (hn : es.length = n) : ∃ t : List BlkM, t.length = n ∧ (∀ k ∈ t, P k) ∧ BlockSOwn w.heap.size W.heap.size [.slice ao n co] t W := by
  subst hn
  refine ⟨es.map Elt.m, by simp, fun k hk => ?_, nrow_own s.row⟩
  obtain ⟨e, he, rfl⟩ := List.mem_map.1 hk
  exact s.bd e he
/-- What DrawEvictPlan leaves. -/
def DrawnEv (w : World) (e : Ending) (w' : World) : Prop :=
  ∃ (c : Value) (t : List BlkM) (x y z : Int), e = .returned (.tuple #[c, .int .i64 x, .int .i64 y, .int .i64 z]) ∧ BlockSOwn w.heap.size w'.heap.size [c] t w' ∧ szBlockS t ≤ 2000 ∧ t.length ≤ 200 ∧ (-9223372036854775808 ≤ x ∧ x ≤ 9223372036854775807) ∧ (-9223372036854775808 ≤ y ∧ y ≤ 9223372036854775807) ∧ (-9223372036854775808 ≤ z ∧ z ≤ 9223372036854775807) ∧ Below w.heap.size w w'
set_option maxHeartbeats 2000000 in
theorem drawEvictPlan (a : Option Addr) (l : List UInt8) (cap : Nat) (w : World) (hl : l.length ≤ 1048576) (r : Row w a (l.map bval)) : Calls Try.prog 19 #[.slice a l.length cap] w (DrawnEv w) := by
  have R := Lib.hid r
  clear r
  go_enter Try.func19, Try.ntmps19
  go_wp2_with fail
  refine (curOpen a l cap _ hl R.out).mono ?_
  rintro e w1 ⟨rfl, hI1, hb1⟩
  have B1 := Lib.hid hb1
  have I1 := Lib.hid hI1
  obtain ⟨b, hbb⟩ : ∃ b, w.heap.size = b := ⟨_, rfl⟩
  rw [hbb] at I1 ⊢
  clear hI1 hb1 R
  go_wp2_with fail
  refine (curStash b a l cap 0 _ hl (by omega) I1.out).mono ?_
  rintro e w2 ⟨ao, co, n, x, y, rfl, hn, hx, hy, es, F, hel, hS⟩
  have S2 := Lib.hid hS
  have HX := Lib.hid hx
  have HY := Lib.hid hy
  have HEL := Lib.hid hel
  have IS := Lib.hid hS.I
  clear hS hx hy hel I1
  go_wp2_with fail
  refine (curLeaf b a l cap _ x _ hl (by omega) IS.out).mono ?_
  rintro e w3 ⟨z, rfl, hz, hI, hg⟩
  have S3 := Lib.hid (S2.out.pick hI hg)
  have HZ := Lib.hid hz
  have Z := Lib.hid (show DrawnEv w (.returned (.tuple #[.slice ao n co, .int .i64 x, .int .i64 y, .int .i64 z])) w3 from by
    obtain ⟨t, ht, hp, ho⟩ := S3.out.owned HEL.out
    exact ⟨_, t, x, y, z, rfl, ho.wide B1.out.size (Nat.le_refl _), szBlockS_small (fun m hm => (hp m hm).2) (by omega), by omega, HX.out, HY.out, HZ.out, below_write B1.out S3.out.G (by omega)⟩)
  clear hI hg hz S2 S3 HX HY HZ HEL IS B1
  go_wp2
  exact bodyPost_ret (v := .tuple #[.slice ao n co, .int .i64 x, .int .i64 y, .int .i64 z]) (by simp [results, Try.results19, go_sem]) rfl Z.out
end Go.Proofs.Ytmkgddbdkpkgpaa
end
