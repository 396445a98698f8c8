/- The program's reading and writing of a cell in use; a memory opened for one access. -/
import Derived.Test.YticfnhbjoaecjaaDoorMemQ
namespace Go.Proofs.YticfnhbjoaecjaaDoor
open Go.RowKit
set_option linter.unusedVariables false
set_option maxRecDepth 100000

/-- The bytes of a cell in use. -/
theorem CellSOwn.at {lo hi n cap : Nat} {a : Option Addr} {ls : List (List UInt8)} {w : World} (h : CellSOwn lo hi [.slice a n cap] ls w) {k : Nat} (hk : k < ls.length) :
    ∃ g x xc, a = some ⟨g, 0, none⟩ ∧ w.cell? ⟨g, k, none⟩ = some (.slice x ls[k].length xc) ∧ ByteSOwn lo hi [.slice x ls[k].length xc] ls[k] w := by
  obtain ⟨hn, vs, ho, hd⟩ := h.open
  obtain ⟨g, rfl, _⟩ := own_some ho (by omega)
  have hl := hd.len
  have hv : vs[k]? = some (vs[k]'(by omega)) := List.getElem?_eq_getElem _
  have hb := hd.row k _ ls[k] hv (List.getElem?_eq_getElem _)
  obtain ⟨x, xc, e, _⟩ := byteSIn_shape hb.read
  rw [e] at hv hb
  exact ⟨g, x, xc, rfl, (ho.cellAt k (by omega)).trans hv, hb⟩
set_option maxHeartbeats 1000000 in
theorem implRead (lo hi hl b : Nat) (z : Int) (a : Option Addr) (n cap : Nat) (x : Option Addr) (k xc : Nat) (ls : List (List UInt8)) (lg : List TouchM) (j : Nat) (w : World) (h : Obs lo hi hl b z a n cap x k xc ls lg w) (hg : lg.length < 6000) (hlo : lo ≤ w.heap.size) (hlb : lo ≤ b) (hhl : hl ≤ w.heap.size) (hhi : hi ≤ w.heap.size)
    (hj : j < ls.length) (hn : ls.length ≤ 128) (hz : ls[j].length ≤ 1000) :
    Calls Tryd.prog 17 #[.pointer (some ⟨b, 0, none⟩), .int .i64 j] w fun e w' => ∃ c x' xc' wm mid, e = .returned c ∧ Obs lo hi mid b z a n cap x' (k + 1) xc' ls (lg ++ [⟨1, j, z⟩]) w' ∧ ByteSOwn mid w'.heap.size [c] ls[j] w' ∧ Turned 35 w wm ∧ Turned 54 wm w' ∧ Below lo w w' ∧ w.heap.size ≤ mid ∧ mid ≤ w'.heap.size := by
  have T := Lib.hid (implTouch lo hi hl b z a n cap x k xc ls lg 1 j w h hg hlo hlb hhl)
  clear h
  go_enter Tryd.func17, Tryd.ntmps17
  go_wp2_with fail
  refine T.out.mono ?_
  rintro e w1 ⟨x', xc', wm, rfl, hO, hT1, hT2, hB, hs⟩
  obtain ⟨g, y, yc, rfl, q, hy⟩ := hO.cells.at hj
  have k1 : w1.cell? ⟨b, 1, none⟩ = some (.slice (some ⟨g, 0, none⟩) n cap) := cur_cell hO.box 1
  obtain ⟨hnl, _⟩ := hO.cells.open
  have CB := Lib.hid (implCloneBytes _ ls[j] w1 hz hy.read)
  have HO := Lib.hid hO
  have HT := Lib.hid (And.intro hT1 (And.intro hT2 (And.intro hB hs)))
  have hhi1 : hi ≤ w1.heap.size := by omega
  clear hO hT1 hT2 hB hy T
  subst hnl
  go_wp2_with fail
  refine CB.out.mono ?_
  rintro e w2 ⟨c, rfl, ho, hb⟩
  obtain ⟨p, pn, pc, rfl⟩ := ho.shape
  have Q := Lib.hid (HO.out.below hhi1 (Nat.le_refl _) hb)
  have O := Lib.hid ho
  have BB := Lib.hid (HT.out.2.2.1.trans (hb.mono (by omega)))
  have TB := Lib.hid (HT.out.2.1.trans (Turned.below hb))
  have s2 : w1.heap.size ≤ w2.heap.size := hb.size
  clear ho hb CB
  go_wp2
  go_ret
  exact ⟨_, x', xc', wm, w1.heap.size, rfl, Q.out, O.out, HT.out.1, TB.out, BB.out, HT.out.2.2.2, s2⟩
set_option maxHeartbeats 1000000 in
theorem implWrite (lo hi hl b : Nat) (z : Int) (a : Option Addr) (n cap : Nat) (x : Option Addr) (k xc : Nat) (ls : List (List UInt8)) (lg : List TouchM) (j : Nat) (d : Value) (l : List UInt8) (w : World) (h : Obs lo hi hl b z a n cap x k xc ls lg w) (hg : lg.length < 6000) (hlo : lo ≤ w.heap.size) (hlb : lo ≤ b) (hhl : hl ≤ w.heap.size) (hhi : hi ≤ w.heap.size)
    (hj : j < ls.length) (hn : ls.length ≤ 128) (hz : l.length = ls[j].length) (hp : 0 < l.length) (hd : Lies w 0 lo (ByteSIn [d] l)) :
    Calls Tryd.prog 16 #[.pointer (some ⟨b, 0, none⟩), .int .i64 j, d] w fun e w' => ∃ x' xc', e = .returned (.tuple #[]) ∧ Obs lo hi w'.heap.size b z a n cap x' (k + 1) xc' (ls.set j l) (lg ++ [⟨2, j, z⟩]) w' ∧ Below lo w w' ∧ w.heap.size ≤ w'.heap.size := by
  have T := Lib.hid (implTouch lo hi hl b z a n cap x k xc ls lg 2 j w h hg hlo hlb hhl)
  obtain ⟨da, dc, rfl, _⟩ := byteSIn_shape hd.now
  have HD := Lib.hid hd
  clear h hd
  go_enter Tryd.func16, Tryd.ntmps16
  go_wp2_with fail
  refine T.out.mono ?_
  rintro e w1 ⟨x', xc', wm, rfl, hO, hT1, hT2, hB, hs⟩
  obtain ⟨hnl, vs, hro, hdat⟩ := hO.cells.open
  subst hnl
  obtain ⟨g, rfl, _⟩ := own_some hro (by omega)
  have hlen := hdat.len
  have hv : vs[j]? = some (vs[j]'(by omega)) := List.getElem?_eq_getElem _
  have hbo := hdat.row j _ ls[j] hv (List.getElem?_eq_getElem _)
  obtain ⟨y, yc, e, _⟩ := byteSIn_shape hbo.read
  rw [e] at hv hbo
  have q : w1.cell? ⟨g, j, none⟩ = some (.slice y ls[j].length yc) := (hro.cellAt j (by omega)).trans hv
  obtain ⟨y', yc', e', hown, htop⟩ := hbo
  simp at e'
  obtain ⟨rfl, rfl⟩ := e'
  rw [← hz] at q hown hv htop
  obtain ⟨gy, rfl, _⟩ := own_some hown hp
  have k1 : w1.cell? ⟨b, 1, none⟩ = some (.slice (some ⟨g, 0, none⟩) ls.length cap) := cur_cell hO.box 1
  have hD1 := HD.out.chg (w' := w1) (lo' := lo) (hi' := w.heap.size) ⟨hB.os, hB.tape, hB.output, hs, fun i h1 h2 => hB.block i (by omega)⟩ (.inl (Nat.le_refl _))
  obtain ⟨da', dc', e', _, _, hrd⟩ := byteSIn_shape hD1.now
  simp at e'
  obtain ⟨rfl, rfl⟩ := e'
  obtain ⟨w2, hcp, hown2, hg2⟩ := copy_cap (P := Tryd.prog) (dT := 22) (sT := 22) Tryd.underlying22 Tryd.size5 hown da dc (l.map bval) (by simp) hrd (ones_bval' l) hp
  have T5 := Turned.own hown hg2
  have D2 := hdat.set hv hg2 ⟨some ⟨gy, 0, none⟩, yc, rfl, hown2, htop⟩
  have C2 : CellSOwn lo hi [.slice (some ⟨g, 0, none⟩) ls.length cap] (ls.set j l) w2 := ⟨some ⟨g, 0, none⟩, cap, vs, by simp, by simpa using own_turned hro T5 (by decide), by
    obtain ⟨a0, cap0, vs0, e0, _, ht0, _⟩ := hO.cells
    simp at e0
    obtain ⟨rfl, rfl⟩ := e0
    simpa using ht0, D2⟩
  have Q : Hid (Obs lo hi w2.heap.size b z (some ⟨g, 0, none⟩) ls.length cap x' (k + 1) xc' (ls.set j l) (lg ++ [⟨2, j, z⟩]) w2) := Lib.hid ⟨T5 _ _ _ _ hO.box (by decide), C2, (hO.log.turned T5 (by decide)).wide (Nat.le_refl _) hg2.size⟩
  have BB := Lib.hid (hB.trans ((Below.refl lo w1).grown hg2 (by omega) (fun i hi => by have := (hown.lt i hi).1; exact this)))
  have s2 : w.heap.size ≤ w2.heap.size := Nat.le_trans hs hg2.size
  clear hO hT1 hT2 hB hro hdat hv hown htop hown2 hg2 T5 D2 C2 hD1 hrd T e hz
  go_wp2
  exact bodyPost_end (v := .tuple #[]) (by simp [results, Tryd.results16, go_sem]) rfl ⟨x', xc', rfl, Q.out, BB.out, s2⟩
end Go.Proofs.YticfnhbjoaecjaaDoor
