/- StF, Pow, IntsU in one. Written by tools/join2.py. -/
import Derived.Test.YtmkgddbdkpkgpaaJS15
import Derived.Test.YtmkgddbdkpkgpaaJS1
import Derived.Test.YtmkgddbdkpkgpaaJS9
import Derived.Test.YtmkgddbdkpkgpaaJS3
section
namespace Go.Proofs.Ytmkgddbdkpkgpaa
open Go.RowKit
set_option linter.unusedVariables false
set_option linter.unusedSimpArgs false
set_option maxRecDepth 100000

theorem find_at {l : List BlkM} {i : Int} {k : Nat} (hk : k < l.length) (h1 : (l.take k).any (fun m => decide (m.id = i)) = false) (h2 : l[k].id = i) : l.any (fun m => decide (m.id = i)) = true ∧ l.find? (fun m => decide (m.id = i)) = some l[k] := by
  have e : l = l.take k ++ l[k] :: l.drop (k + 1) := by rw [← List.drop_eq_getElem_cons hk]; exact (List.take_append_drop k l).symm
  constructor
  · exact List.any_eq_true.2 ⟨_, List.getElem_mem hk, by simp [h2]⟩
  · obtain ⟨m, hm⟩ : ∃ m, l[k] = m := ⟨_, rfl⟩
    rw [hm] at e h2 ⊢
    rw [e, List.find?_append]
    have : (l.take k).find? (fun m => decide (m.id = i)) = none := by
      rw [List.find?_eq_none]
      intro x hx
      rw [List.any_eq_false] at h1
      exact h1 x hx
    rw [this]
    simp [h2]
theorem anyB_take {l : List BlkM} {i : Int} {k : Nat} (hk : k < l.length) (h1 : (l.take k).any (fun m => decide (m.id = i)) = false) (h2 : l[k].id ≠ i) : (l.take (k + 1)).any (fun m => decide (m.id = i)) = false := by
  rw [List.take_succ_eq_append_getElem hk, List.any_append, h1]; simp [h2]
theorem szBlockS_one {l : List BlkM} {k : Nat} (hk : k < l.length) : szBlockS [l[k]] ≤ szBlockS l := by
  have h1 := sumD_snoc l k hk
  have h2 := sumD_part l (k + 1)
  unfold szBlockS
  simp only [List.length_singleton]
  rw [sumD_cons]
  show 1 + (l[k].data.length + 0) ≤ _
  omega
theorem getElem_getD {l : List BlkM} {k : Nat} (hk : k < l.length) : l.getD k zeroBlk = l[k] := by rw [List.getD_eq_getElem?_getD, List.getElem?_eq_getElem hk]; rfl
/-- One block of a row, as a row. -/
theorem row_blk1 {w : World} {b o cap : Nat} {x : Option Addr} {z : Nat} {m : BlkM} (hc : 1 ≤ cap) (q0 : w.cell? ⟨b, o, none⟩ = some (.int .i64 m.id)) (q1 : w.cell? ⟨b, o + 1, none⟩ = some (.int .i64 m.leaf)) (q2 : w.cell? ⟨b, o + 2, none⟩ = some (.slice x m.data.length z)) (h : BlockIn [.int .i64 m.id, .int .i64 m.leaf, .slice x m.data.length z] m w) : BlockSIn [.slice (some ⟨b, o, none⟩) 1 cap] [m] w := by
  obtain ⟨el, hecs, hem⟩ : ∃ e : Elt BlkM 3, e.cs = [.int .i64 m.id, .int .i64 m.leaf, .slice x m.data.length z] ∧ e.m = m := ⟨⟨[.int .i64 m.id, .int .i64 m.leaf, .slice x m.data.length z], m, rfl, by intro u hu; simp at hu; rcases hu with rfl | rfl | rfl <;> rfl⟩, rfl, rfl⟩
  refine ⟨_, cap, [el], rfl, hc, by unfold maxLen; simp, .inr ⟨b, o, rfl, fun j hj => ?_⟩, by simp [hem], fun e he => by simp at he; subst he; rw [hecs, hem]; exact h⟩
  have hf : flatG eltL [el] = [.int .i64 m.id, .int .i64 m.leaf, .slice x m.data.length z] := by simp [flatG, eltL, hecs]
  have hj3 : j < 3 := by rw [hf] at hj; simpa using hj
  rw [hf]
  rcases (show j = 0 ∨ j = 1 ∨ j = 2 from by omega) with rfl | rfl | rfl
  · exact q0
  · exact q1
  · exact q2
/-- A block of an owned row. -/
theorem BlockSOwn.blk {lo hi : Nat} {c : Value} {l : List BlkM} {w : World} (h : BlockSOwn lo hi [c] l w) {k : Nat} (hk : k < l.length) : ∃ g cap x z, c = .slice (some ⟨g, 0, none⟩) l.length cap ∧ l.length ≤ cap ∧ g < w.heap.size ∧ w.cell? ⟨g, k * 3, none⟩ = some (.int .i64 l[k].id) ∧ w.cell? ⟨g, k * 3 + 1, none⟩ = some (.int .i64 l[k].leaf) ∧ w.cell? ⟨g, k * 3 + 2, none⟩ = some (.slice x l[k].data.length z) ∧ BlockOwn lo hi [.int .i64 l[k].id, .int .i64 l[k].leaf, .slice x l[k].data.length z] l[k] w := by
  obtain ⟨F, ⟨a', cap', es, G, hc, hm, hn, hF⟩, hhi⟩ := h
  simp at hc
  subst hc
  have hl : es.length = l.length := by rw [← hm]; simp
  have hke : k < es.length := by omega
  have hmk : es[k].m = l[k] := by subst hm; simp
  obtain ⟨g, rfl, _⟩ := own_some hn.row (by omega)
  obtain ⟨c2, hcs, x, z, hc2, hob, hGj⟩ := hn.own k hke
  simp at hc2
  subst hc2
  have cc := own_elem eltL_len hn.row hke
  rw [show eltL es[k] = [.int .i64 es[k].m.id, .int .i64 es[k].m.leaf, .slice x es[k].m.data.length z] from hcs, hmk] at cc
  have hcap := own_cap hn.row
  refine ⟨g, cap', x, z, by rw [hl], by omega, (hn.row.lt g rfl).2, cc 0 (by decide), cc 1 (by decide), cc 2 (by decide), G k, ?_, fun b hb => hhi b ((hF b).2 (.inr ⟨k, hke, hb⟩))⟩
  have := hn.own k hke
  rw [hcs, hmk] at this
  exact this
theorem own_zero (lo hi : Nat) (w : World) : BlockOwn lo hi [.int .i64 0, .int .i64 0, .slice none 0 0] zeroBlk w := ⟨fun _ => False, blockO_zero lo w, fun _ h => h.elim⟩
theorem own_box3 {lo hi b : Nat} {cs : List Value} {m : BlkM} {w : World} (h : BlockOwn lo hi cs m w) (hb : b < lo) (v0 v1 v2 : Value) : BlockOwn lo hi cs m (((w.setCell ⟨b, 0, none⟩ v0).setCell ⟨b, 1, none⟩ v1).setCell ⟨b, 2, none⟩ v2) := by
  obtain ⟨F, h1, h2⟩ := h
  refine ⟨F, block_ong.sup h1 (fun x hx => ?_), h2⟩
  have := (block_ong.at_ h1 x hx).1
  rw [Below.heap_setCell _ _ _ x (by simp; omega), Below.heap_setCell _ _ _ x (by simp; omega), Below.heap_setCell _ _ _ x (by simp; omega)]
set_option maxHeartbeats 2000000 in
theorem specStashFind (c : Value) (l : List BlkM) (i : Int) (w : World) (h : BlockSIn [c] l w) (hs : szBlockS l ≤ 1048576) : Calls Try.prog 36 #[c, .int .i64 i] w fun e w' => ∃ c0 c1 c2, e = .returned (.tuple #[.agg #[c0, c1, c2], .bool (sFindB l i)]) ∧ BlockOwn w.heap.size w'.heap.size [c0, c1, c2] (sFindM l i) w' ∧ Below w.heap.size w w' := by
  obtain ⟨aa, capa, es, rfl, hcap, hmax, _, r1, r2, r3⟩ := blockSIn_shape h
  have hn : l.length ≤ 1048576 := by unfold szBlockS at hs; omega
  have HS := Lib.hid hs
  have EL : Hid (∀ k (hk : k < l.length), ∃ b off x cap, aa = some ⟨b, off, none⟩ ∧ w.cell? ⟨b, off + k * 3, none⟩ = some (.int .i64 l[k].id) ∧ w.cell? ⟨b, off + k * 3 + 1, none⟩ = some (.int .i64 l[k].leaf) ∧ w.cell? ⟨b, off + k * 3 + 2, none⟩ = some (.slice x l[k].data.length cap) ∧ BlockIn [.int .i64 l[k].id, .int .i64 l[k].leaf, .slice x l[k].data.length cap] l[k] w) := Lib.hid (fun k hk => Row.blk r1 r3 r2 hk)
  unfold maxLen at hmax
  clear h r1 r2 r3 hs
  have NO := Lib.hid (show sFindB l i = false → sFindM l i = zeroBlk from fun e => by unfold sFindM; rw [e]; rfl)
  by_cases h128 : l.length ≤ 128
  · have hI : (l.length : Int) ≤ 128 := by omega
    have BX := Lib.hid (below_box (Below.refl _ w) (.cells #[.int .i64 0, .int .i64 0, .slice none 0 0] 26))
    go_enter Try.func36, Try.ntmps36
    go_wp2_with fail
    go_loopg [6] l.length (fun kk iv wr => ∃ k : Nat, k ≤ l.length ∧ l.length - k = kk ∧ iv = .int .i64 k ∧ wr = w.alloc (.cells #[.int .i64 0, .int .i64 0, .slice none 0 0] 26) ∧ Hid ((l.take k).any (fun m => decide (m.id = i)) = false))
    case atStart => exact ⟨0, Nat.zero_le _, rfl, rfl, rfl, Lib.hid (by simp)⟩
    case round =>
      obtain ⟨k, hk, hkk, rfl, rfl, H⟩ := hrel
      by_cases hlt : k < l.length
      · have hltI : (k : Int) < (l.length : Int) := by omega
        have hk0 : (0 : Int) ≤ (k : Int) := by omega
        obtain ⟨b, off, x, z, hab, q0, q1, q2, qi⟩ := EL.out k hlt
        subst hab
        have t0 := cell_keep q0 BX.out
        have t1 := cell_keep q1 BX.out
        have t2 := cell_keep q2 BX.out
        have ti := block_rdg.below qi BX.out
        by_cases he : l[k].id = i
        · have F1 := Lib.hid (find_at hlt H.out he)
          have SB := Lib.hid (show sFindB l i = true by unfold sFindB; rw [decide_eq_true h128, F1.out.1]; rfl)
          have SM := Lib.hid (show sFindM l i = l[k] by unfold sFindM; rw [if_pos SB.out, F1.out.2]; rfl)
          have CP := Lib.hid (uSpecCopy _ [l[k]] _ (Nat.le_trans (szBlockS_one hlt) HS.out) (row_blk1 (cap := capa - k) (by omega) t0 t1 t2 ti))
          obtain ⟨m, hm⟩ : ∃ m, l[k] = m := ⟨_, rfl⟩
          rw [hm] at CP SM he t0 t1 t2
          clear hm q0 q1 q2 qi ti F1 H NO
          have hkc : (k : Int) ≤ (k : Int) + 1 := by omega
          have hkd : (k : Int) + 1 ≤ (capa : Int) := by omega
          have hke : (k + 1) - k = 1 := by omega
          have hkf : ((k : Int) + 1 - (k : Int)).toNat = 1 := by omega
          have hde : (m.id == i) = true := by simp [he]
          go_wp2_with fail
          refine CP.out.mono ?_
          rintro e w5 ⟨c5, rfl, ho, hb⟩
          obtain ⟨g, cg, y, zy, rfl, _, hg, u0, u1, u2, ob⟩ := ho.blk (k := 0) (by simp)
          have BW := Lib.hid (below_seq BX.out hb)
          have W5 := Lib.hid (kept_block (alloc_at w (.cells #[.int .i64 0, .int .i64 0, .slice none 0 0] 26) _ rfl) hb)
          simp only [size_box] at hb ho u0 u1 u2 hg ob ⊢
          have k0 := cur_cell W5.out 0
          have k1 := cur_cell W5.out 1
          have k2 := cur_cell W5.out 2
          have f0 := cur_free W5.out 0
          have f1 := cur_free W5.out 1
          have f2 := cur_free W5.out 2
          simp at k0 k1 k2 u0 u1 u2
          have Z := Lib.hid (And.intro ((own_box3 ob (show w.heap.size < w.heap.size + 1 by omega) (.int .i64 m.id) (.int .i64 m.leaf) (.slice y m.data.length zy)).wide (show w.heap.size ≤ w.heap.size + 1 by omega) (Nat.le_refl _)) (((BW.out.setCell (p := ⟨w.heap.size, 0, none⟩) (by simp) (.int .i64 m.id)).setCell (p := ⟨w.heap.size, 1, none⟩) (by simp) (.int .i64 m.leaf)).setCell (p := ⟨w.heap.size, 2, none⟩) (by simp) (.slice y m.data.length zy)))
          clear ho hb ob W5 CP he hde
          go_wp2
          exact bodyPost_ret (v := .tuple #[.agg #[.int .i64 m.id, .int .i64 m.leaf, .slice y m.data.length zy], .bool true]) (by simp [results, Try.results36, go_sem, k0, k1, k2]) rfl ⟨_, _, _, by rw [SB.out], by rw [SM.out]; simpa using Z.out.1, Z.out.2⟩
        · have HN := Lib.hid (anyB_take hlt H.out he)
          have hde : (l[k].id == i) = false := by simp [he]
          obtain ⟨zi, hzi⟩ : ∃ z, l[k].id = z := ⟨_, rfl⟩
          rw [hzi] at t0 hde
          clear hzi q0 q1 q2 qi ti t1 t2 H NO he
          go_wp2
          go_roundg (l.length - (k + 1))
          case measure => omega
          case rel => exact ⟨k + 1, by omega, rfl, by go_num, rfl, HN⟩
      · have hge : ¬ (k : Int) < (l.length : Int) := by omega
        have E := Lib.hid (show sFindB l i = false by
          have := H.out
          rw [List.take_of_length_le (by omega)] at this
          unfold sFindB; rw [this, Bool.and_false])
        have c0 := cur_cell (alloc_at w (.cells #[.int .i64 0, .int .i64 0, .slice none 0 0] 26) _ rfl) 0
        clear H
        go_wp2
        exact bodyPost_ret (v := .tuple #[.agg #[.int .i64 0, .int .i64 0, .slice none 0 0], .bool false]) (by simp [results, Try.results36, go_sem]) rfl ⟨_, _, _, by rw [E.out], by rw [NO.out E.out]; exact own_zero _ _ _, BX.out⟩
  · have hI : ¬ (l.length : Int) ≤ 128 := by omega
    have E := Lib.hid (show sFindB l i = false by unfold sFindB; rw [decide_eq_false h128]; rfl)
    have BX := Lib.hid (below_box (Below.refl _ w) (.cells #[.int .i64 0, .int .i64 0, .slice none 0 0] 26))
    by_cases h0 : l.length = 0
    · omega
    · have h0I : (0 : Int) < (l.length : Int) := by omega
      go_enter Try.func36, Try.ntmps36
      go_wp2_with fail
      go_loopg [6] 0 (fun kk iv wr => kk = 0 ∧ iv = .int .i64 0 ∧ wr = w.alloc (.cells #[.int .i64 0, .int .i64 0, .slice none 0 0] 26))
      case atStart => exact ⟨rfl, rfl, rfl⟩
      case round =>
        obtain ⟨rfl, rfl, rfl⟩ := hrel
        go_wp2
        exact bodyPost_ret (v := .tuple #[.agg #[.int .i64 0, .int .i64 0, .slice none 0 0], .bool false]) (by simp [results, Try.results36, go_sem]) rfl ⟨_, _, _, by rw [E.out], by rw [NO.out E.out]; exact own_zero _ _ _, BX.out⟩
set_option maxHeartbeats 2000000 in
theorem specStashDrop (c : Value) (l : List BlkM) (i : Int) (w : World) (h : BlockSIn [c] l w) (hs : szBlockS l ≤ 1048576) : Calls Try.prog 38 #[c, .int .i64 i] w fun e w' => ∃ c0, e = .returned (.tuple #[c0, .bool (sFindB l i)]) ∧ BlockSOwn w.heap.size w'.heap.size [c0] (sDropM l i) w' ∧ Below w.heap.size w w' := by
  have FD := Lib.hid (specStashFind c l i w h hs)
  have WO := Lib.hid (fun w' (hb : Below w.heap.size w w') => uSpecWithout c l i w' hs (blockS_rdg.below h hb))
  have DR := Lib.hid (show sDropM l i = if sFindB l i = true then withoutL l i else [] from rfl)
  obtain ⟨aa, capa, es, rfl, hcap, hmax, _⟩ := blockSIn_shape h
  clear h hs
  cases hf : sFindB l i
  · have E := Lib.hid (show sDropM l i = [] by rw [DR.out, hf]; rfl)
    rw [hf] at FD
    clear hf DR
    go_enter Try.func38, Try.ntmps38
    go_wp2_with fail
    refine FD.out.mono ?_
    rintro e w1 ⟨c0, c1, c2, rfl, ho, hb⟩
    obtain ⟨z0, z1, a, n, cap, rfl, rfl, rfl⟩ := ho.shape
    have B := Lib.hid (below_box hb (.cells #[.int .i64 z0, .int .i64 z1, .slice a n cap] 26))
    clear hb ho FD
    go_wp2
    exact bodyPost_ret (v := .tuple #[.slice none 0 0, .bool false]) (by simp [results, Try.results38, go_sem]) rfl ⟨_, by first | rfl | rw [hf], by rw [E.out]; exact BlockSOwn.nil _ _ _, B.out⟩
  · have E := Lib.hid (show sDropM l i = withoutL l i by rw [DR.out, hf]; rfl)
    rw [hf] at FD
    clear hf DR
    go_enter Try.func38, Try.ntmps38
    go_wp2_with fail
    refine FD.out.mono ?_
    rintro e w1 ⟨c0, c1, c2, rfl, ho, hb⟩
    obtain ⟨z0, z1, a, n, cap, rfl, rfl, rfl⟩ := ho.shape
    have B := Lib.hid (below_box hb (.cells #[.int .i64 z0, .int .i64 z1, .slice a n cap] 26))
    have C := Lib.hid (WO.out _ B.out)
    clear hb ho FD WO
    go_wp2_with fail
    refine C.out.mono ?_
    rintro e w5 ⟨c5, rfl, ho, hb⟩
    have Z := Lib.hid (And.intro (ho.wide B.out.size (Nat.le_refl _)) (below_seq B.out hb))
    clear ho hb C
    go_wp2
    exact bodyPost_ret (v := .tuple #[c5, .bool true]) (by simp [results, Try.results38, go_sem]) rfl ⟨_, by first | rfl | rw [hf], by rw [E.out]; exact Z.out.1, Z.out.2⟩
end Go.Proofs.Ytmkgddbdkpkgpaa
end

section
namespace Go.Proofs.Ytmkgddbdkpkgpaa
open Go.RowKit
set_option linter.unusedVariables false

set_option maxHeartbeats 400000 in
theorem specPow16 (n : Nat) (w : World) (hn : n ≤ 16) :
    Calls Try.prog 62 #[.int .i64 n] w fun e w' => e = .returned (.int .i64 ((2 ^ n : Nat) : Int)) ∧ w = w' := by
  go_enter Try.func62, Try.ntmps62
  go_wp2
  go_loop [0, 3] (fun i o => ∃ k : Nat, k ≤ n ∧ i = .int .i64 k ∧ o = .int .i64 ((2 ^ (n - k) : Nat) : Int)) (fun i _ => (intOf i).toNat)
  case atStart => exact ⟨n, Nat.le_refl _, rfl, by simp⟩
  case round =>
    obtain ⟨k, hk, rfl, rfl⟩ := hrel
    have hp : 2 ^ (n - k) ≤ 65536 := Nat.pow_le_pow_right (n := 2) (by omega) (show n - k ≤ 16 by omega)
    by_cases hlt : 0 < k
    · have HP : Hid (2 ^ (n - (k - 1)) = 2 * 2 ^ (n - k)) := Lib.hid (by rw [show n - (k - 1) = n - k + 1 from by omega, Nat.pow_succ, Nat.mul_comm])
      generalize 2 ^ (n - k) = x at *
      go_wp2
      go_round
      case rel => exact ⟨k - 1, by omega, by congr 1; omega, by rw [HP.out]; congr 1⟩
      case measure => simp [intOf]; omega
    · have hk0 : k = 0 := by omega
      subst hk0
      go_wp2
      go_ret
      exact ⟨rfl, rfl⟩
end Go.Proofs.Ytmkgddbdkpkgpaa
end

section
namespace Go.Proofs.Ytmkgddbdkpkgpaa
open Go.RowKit
set_option linter.unusedVariables false

/-- The one cell holds a slice that reads as l. -/
def IntSIn (cs : List Value) (l : List Int) (w : World) : Prop := ∃ a cap, cs = [.slice a l.length cap] ∧ l.length ≤ cap ∧ l.length ≤ maxLen ∧ Row w a (l.map ival)
/-- .. and lies in blocks from lo to hi, which the call owns. -/
def IntSOwn (lo hi : Nat) (cs : List Value) (l : List Int) (w : World) : Prop :=
  ∃ a cap, cs = [.slice a l.length cap] ∧ w.ownsRow lo 3 1 (.slice a l.length cap) l.length (l.map ival) ∧ ∀ k, Value.ownBlock (.slice a l.length cap) = some k → k < hi
theorem IntSOwn.read {lo hi : Nat} {cs : List Value} {l : List Int} {w : World} (h : IntSOwn lo hi cs l w) : IntSIn cs l w := by
  obtain ⟨a, cap, rfl, ho, _⟩ := h
  have hc := own_cap ho
  refine ⟨a, cap, rfl, hc, ?_, Row.of_own ho⟩
  rcases ho.2 with ⟨hv, hn⟩ | ⟨g, cap', cur, hv, _, _, _, h2, _⟩
  · rw [hn]; unfold maxLen; omega
  · simp at hv; omega
theorem IntSOwn.lies {lo hi : Nat} {cs : List Value} {l : List Int} {w : World} (h : IntSOwn lo hi cs l w) (ht : hi ≤ w.heap.size) : Lies w lo hi (IntSOwn lo hi cs l) := by
  refine ⟨h, ht, fun w2 e => ?_⟩
  obtain ⟨a, cap, rfl, ho, hh⟩ := h
  exact ⟨a, cap, rfl, own_sup ho hh e, hh⟩
theorem IntSIn.lies {cs : List Value} {l : List Int} {w : World} (h : IntSIn cs l w) : Lies w 0 w.heap.size (IntSIn cs l) := by
  obtain ⟨a, cap, rfl, h1, h2, hr⟩ := h
  exact ⟨⟨a, cap, rfl, h1, h2, hr⟩, Nat.le_refl _, fun w2 e => ⟨a, cap, rfl, h1, h2, (lies_row hr).sup w2 e⟩⟩
theorem IntSOwn.wide {lo hi lo' hi' : Nat} {cs : List Value} {l : List Int} {w : World} (h : IntSOwn lo hi cs l w) (h1 : lo' ≤ lo) (h2 : hi ≤ hi') : IntSOwn lo' hi' cs l w := by
  obtain ⟨a, cap, rfl, ho, hh⟩ := h
  exact ⟨a, cap, rfl, own_base ho h1, fun k hk => Nat.lt_of_lt_of_le (hh k hk) h2⟩
theorem IntSOwn.mk {lo n cap : Nat} {a : Option Addr} {l : List Int} {w : World} (h : w.ownsRow lo 3 1 (.slice a n cap) n (l.map ival)) : IntSOwn lo w.heap.size [.slice a n cap] l w := by
  have hn : l.length = n := by simpa using h.1
  subst hn
  exact ⟨a, cap, rfl, h, own_top h⟩
def szIntS (l : List Int) : Nat := l.length
def mkIntS (k : Nat) (l : List Int) : List Int := marksI k l.length
theorem IntSOwn.shape {lo hi : Nat} {c : Value} {l : List Int} {w : World} (h : IntSOwn lo hi [c] l w) : ∃ a n cap, c = .slice a n cap := by
  obtain ⟨a, cap, hc, _⟩ := h
  simp at hc
  exact ⟨a, _, cap, hc⟩
theorem intSIn_shape {c : Value} {l : List Int} {w : World} (h : IntSIn [c] l w) : ∃ a cap, c = .slice a l.length cap ∧ l.length ≤ cap ∧ l.length ≤ maxLen ∧ Row w a (l.map ival) := by
  obtain ⟨a, cap, hc, h1, h2, h3⟩ := h
  simp at hc
  exact ⟨a, cap, hc, h1, h2, h3⟩
def IntSRet (l : List Int) (w : World) (e : Ending) (w' : World) : Prop := ∃ c, e = .returned c ∧ IntSOwn w.heap.size w'.heap.size [c] l w' ∧ Below w.heap.size w w'
end Go.Proofs.Ytmkgddbdkpkgpaa
end
