/- StW in one. Written by tools/join2.py. -/
import Derived.Test.YtmkgddbdkpkgpaaJS14
section
namespace Go.Proofs.Ytmkgddbdkpkgpaa
open Go.RowKit
set_option linter.unusedVariables false
set_option linter.unusedSimpArgs false
set_option maxRecDepth 100000

theorem sumD_cons (m : BlkM) (l : List BlkM) : sumD (m :: l) = m.data.length + sumD l := by unfold sumD; simp
theorem sumD_filter (p : BlkM → Bool) : ∀ l : List BlkM, sumD (l.filter p) ≤ sumD l
  | [] => Nat.le_refl _
  | m :: l => by
    have := sumD_filter p l
    rw [List.filter_cons, sumD_cons]
    split
    · rw [sumD_cons]; omega
    · omega
theorem szBlockS_filter (p : BlkM → Bool) (l : List BlkM) : szBlockS (l.filter p) ≤ szBlockS l := by
  unfold szBlockS
  have h1 := sumD_filter p l
  have h2 := List.length_filter_le p l
  omega
theorem szBlockS_without (l : List BlkM) (i : Int) : szBlockS (withoutL l i) ≤ szBlockS l := szBlockS_filter _ l
theorem without_take (l : List BlkM) (i : Int) {k : Nat} (h : k < l.length) : withoutL (l.take (k + 1)) i = withoutL (l.take k) i ++ if l[k].id = i then [] else [l[k]] := by
  unfold withoutL
  rw [List.take_succ_eq_append_getElem h, List.filter_append]
  congr 1
  by_cases e : l[k].id = i
  · simp [e]
  · simp [e]
set_option maxHeartbeats 2000000 in
theorem uSpecWithoutS (c : Value) (l : List BlkM) (i : Int) (w : World) (hs : szBlockS l ≤ 1048576) (h : BlockSIn [c] l w) : Calls Try.prog 51 #[c, .int .i64 i] w (BlockSRetS (withoutL l i) w) := by
  obtain ⟨aa, capa, es, rfl, _, hmax, _, r1, r2, r3⟩ := blockSIn_shape h
  have CP := Lib.hid (fun c w' (hb : BlockSIn [c] (withoutL l i) w') => uSpecCopyS c (withoutL l i) w' (Nat.le_trans (Nat.le_trans (szBlockS_without l i) hs) (by decide)) hb)
  have EL : Hid (∀ k (hk : k < l.length), ∃ b off x cap, aa = some ⟨b, off, none⟩ ∧ w.cell? ⟨b, off + k * 3, none⟩ = some (.int .i64 l[k].id) ∧ w.cell? ⟨b, off + k * 3 + 1, none⟩ = some (.int .i64 l[k].leaf) ∧ w.cell? ⟨b, off + k * 3 + 2, none⟩ = some (.slice x l[k].data.length cap) ∧ BlockIn [.int .i64 l[k].id, .int .i64 l[k].leaf, .slice x l[k].data.length cap] l[k] w) := Lib.hid (fun k hk => Row.blk r1 r3 r2 hk)
  have hn : l.length ≤ 1048576 := by unfold szBlockS at hs; omega
  have WT := Lib.hid (fun k (hk : k < l.length) => without_take l i hk)
  have WL := Lib.hid (fun k => show (withoutL (l.take k) i).length ≤ k from Nat.le_trans (withoutL_le _ _) (by rw [List.length_take]; omega))
  have O0 : (w.alloc (.cells #[] 26)).ownsRow w.heap.size 26 3 (.slice (some ⟨w.heap.size, 0, none⟩) 0 0) 0 [] := World.ownsRow_made w #[] 0 (Nat.le_refl _) (by unfold maxLen; omega) rfl
  have S0 := Lib.hid (show ∃ es : List (Elt BlkM 3), es.length = 0 ∧ es.map Elt.m = withoutL (l.take 0) i ∧ (∀ e ∈ es, BlockIn e.cs e.m w) ∧ (w.alloc (.cells #[] 26)).ownsRow w.heap.size 26 3 (.slice (some ⟨w.heap.size, 0, none⟩) 0 0) 0 (flatG eltL es) ∧ Below w.heap.size w (w.alloc (.cells #[] 26)) from ⟨[], rfl, by simp [withoutL], by simp, O0, below_box (Below.refl _ w) _⟩)
  clear h hs O0 r1 r2 r3
  unfold maxLen at hmax
  go_enter Try.func51, Try.ntmps51
  go_wp2_with fail
  go_loopg [5, 6] l.length (fun kk ov iv wr => ∃ (k n : Nat) (ao : Option Addr) (co : Nat), k ≤ l.length ∧ n ≤ k ∧ l.length - k = kk ∧ ov = .slice ao n co ∧ iv = .int .i64 k ∧ Hid (∃ es : List (Elt BlkM 3), es.length = n ∧ es.map Elt.m = withoutL (l.take k) i ∧ (∀ e ∈ es, BlockIn e.cs e.m w) ∧ wr.ownsRow w.heap.size 26 3 (.slice ao n co) n (flatG eltL es) ∧ Below w.heap.size w wr))
  case atStart => exact ⟨0, 0, _, _, Nat.zero_le _, Nat.le_refl _, rfl, rfl, rfl, S0⟩
  case round =>
    clear S0
    obtain ⟨k, n, ao, co, hk, hnk, hkk, rfl, rfl, S⟩ := hrel
    by_cases hlt : k < l.length
    · have hltI : (k : Int) < (l.length : Int) := by omega
      have hk0 : (0 : Int) ≤ (k : Int) := by omega
      have TK := Lib.hid (WT.out k hlt)
      obtain ⟨es, e1, e2, e3, e4, e5⟩ := S.out
      obtain ⟨b, off, x, z, hab, q0, q1, q2, qi⟩ := EL.out k hlt
      subst hab
      obtain ⟨m, hm⟩ : ∃ m, l[k] = m := ⟨_, rfl⟩
      rw [hm] at qi q0 q1 q2 TK
      clear hm
      obtain ⟨zi, zf, d⟩ := m
      simp only at qi q0 q1 q2 TK
      have t0 := cell_keep q0 e5
      have t1 := cell_keep q1 e5
      have t2 := cell_keep q2 e5
      obtain ⟨dn, hdn⟩ : ∃ n, d.length = n := ⟨_, rfl⟩
      rw [hdn] at qi t2
      by_cases he : zi = i
      · have hne : (zi != i) = false := by simp [he]
        have Z := Lib.hid (show ∃ es : List (Elt BlkM 3), es.length = n ∧ es.map Elt.m = withoutL (l.take (k + 1)) i ∧ (∀ e ∈ es, BlockIn e.cs e.m w) ∧ wr.ownsRow w.heap.size 26 3 (.slice ao n co) n (flatG eltL es) ∧ Below w.heap.size w wr from ⟨es, e1, by rw [TK.out, if_pos he, List.append_nil]; exact e2, e3, e4, e5⟩)
        clear e1 e2 e3 e4 e5 S TK qi q0 q1 q2 hdn
        go_wp2
        go_roundg (l.length - (k + 1))
        case measure => omega
        case rel => exact ⟨k + 1, n, _, _, by omega, by omega, rfl, rfl, by go_num, Z⟩
      · have hne : (zi != i) = true := by simp [he]
        obtain ⟨el, hecs, hem⟩ : ∃ e : Elt BlkM 3, e.cs = [.int .i64 zi, .int .i64 zf, .slice x dn z] ∧ e.m = ⟨zi, zf, d⟩ := ⟨⟨[.int .i64 zi, .int .i64 zf, .slice x dn z], ⟨zi, zf, d⟩, rfl, by intro u hu; simp at hu; rcases hu with rfl | rfl | rfl <;> rfl⟩, rfl, rfl⟩
        have bx := below_box (Below.refl wr.heap.size wr) (.cells #[.int .i64 zi, .int .i64 zf, .slice x dn z] 26)
        have ROW := Lib.hid (own_keptF (w' := wr.alloc (.cells #[.int .i64 zi, .int .i64 zf, .slice x dn z] 26)) e4 (fun bb hbb => bx.block bb (e4.lt bb hbb).2))
        have FIN := Lib.hid (show ∀ v5 w5, World.ownsRow w5 w.heap.size 26 3 v5 (n + 1) (flatG eltL es ++ [.int .i64 zi, .int .i64 zf, .slice x dn z]) → (wr.alloc (.cells #[.int .i64 zi, .int .i64 zf, .slice x dn z] 26)).grownBy w5 (Value.slice ao n co).ownBlock → ∃ a5 c5, v5 = .slice a5 (n + 1) c5 ∧ ∃ es : List (Elt BlkM 3), es.length = n + 1 ∧ es.map Elt.m = withoutL (l.take (k + 1)) i ∧ (∀ e ∈ es, BlockIn e.cs e.m w) ∧ w5.ownsRow w.heap.size 26 3 (.slice a5 (n + 1) c5) (n + 1) (flatG eltL es) ∧ Below w.heap.size w w5 from fun v5 w5 ho hg => by
          obtain ⟨a5, c5, rfl⟩ := own_shape ho
          refine ⟨a5, c5, rfl, es ++ [el], by simp [e1], by rw [List.map_append, e2, TK.out, if_neg he]; simp [hem], fun e he => ?_, by rw [flatG_snoc, hecs]; exact ho, (below_seq e5 bx).grown hg (by have := e5.size; simp; omega) (fun bb hbb => (e4.lt bb hbb).1)⟩
          rcases List.mem_append.1 he with he | he
          · exact e3 e he
          · simp at he; subst he; rw [hecs, hem]; exact qi)
        have hsz := e5.size
        have hle := e1
        clear e1 e2 e3 e4 e5 S TK qi q0 q1 q2 hdn hecs hem
        go_wp2_with (at_builtin; go_must (refine wp_app_rowS rfl _ _ 24 rfl 26 _ 3 40 Try.underlying24 Try.infoBlk rfl (by omega) w.heap.size n (.slice ao n co) (flatG eltL es) (by rfl) ROW.out (some ⟨wr.heap.size, 0, none⟩) 1 1 [.int .i64 zi, .int .i64 zf, .slice x dn z] (by rfl) rfl (lit_rowB wr [.int .i64 zi, .int .i64 zf, .slice x dn z] 26) (by intro u hu; simp at hu; rcases hu with rfl | rfl | rfl <;> rfl) (by unfold maxLen; omega) (by omega) (by simp; omega) ?_); intro v5 w5 ho5 hg5)
        obtain ⟨a5, c5, rfl, Z0⟩ := FIN.out v5 w5 ho5 hg5
        have Z := Lib.hid Z0
        clear Z0 ho5 hg5 FIN ROW bx
        go_wp2
        go_roundg (l.length - (k + 1))
        case measure => omega
        case rel => exact ⟨k + 1, n + 1, _, _, by omega, by omega, rfl, by go_num, by go_num, Z⟩
    · have hkl : k = l.length := by omega
      have hge : ¬ (k : Int) < (l.length : Int) := by omega
      subst hkl
      obtain ⟨es, e1, e2, e3, e4, e5⟩ := S.out
      rw [List.take_length] at e2
      have BI : BlockSIn [.slice ao n co] (withoutL l i) wr := ⟨ao, co, es, by rw [e1], by rw [e1]; exact own_cap e4, by rw [e1]; unfold maxLen; omega, Row.of_own e4, e2, fun e he => block_rdg.below (e3 e he) e5⟩
      have C := Lib.hid (CP.out _ wr BI)
      have B := Lib.hid e5
      clear S EL e1 e2 e3 e4 e5 BI CP WT WL
      go_wp2_with fail
      refine C.out.mono ?_
      rintro e w5 ⟨g5, c5, rfl, ho, hb⟩
      have Z := Lib.hid (And.intro (ho.wide B.out.size (Nat.le_refl _)) (below_seq B.out hb))
      clear ho hb C
      go_wp2
      go_ret
      exact ⟨_, _, rfl, Z.out.1, Z.out.2⟩
theorem uSpecWithout (c : Value) (l : List BlkM) (i : Int) (w : World) (hs : szBlockS l ≤ 1048576) (h : BlockSIn [c] l w) : Calls Try.prog 51 #[c, .int .i64 i] w (BlockSRet (withoutL l i) w) :=
  (uSpecWithoutS c l i w hs h).mono fun e w' h => by
    obtain ⟨g, k, rfl, h1, h2⟩ := h
    exact ⟨_, rfl, h1, h2⟩
end Go.Proofs.Ytmkgddbdkpkgpaa
end
