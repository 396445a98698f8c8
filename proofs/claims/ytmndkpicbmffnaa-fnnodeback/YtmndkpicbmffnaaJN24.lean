/- BlkN in one. Written by tools/join2.py. -/
import Derived.Test.YtmndkpicbmffnaaJN16
import Derived.Test.YtmndkpicbmffnaaJN23
section
namespace Go.Proofs.Ytmndkpicbmffnaa
open Go.RowKit
set_option linter.unusedVariables false
set_option linter.unusedSimpArgs false

theorem flatG_snoc {es : List (Elt BlkM 3)} (e : Elt BlkM 3) : flatG eltL (es ++ [e]) = flatG eltL es ++ e.cs := by rw [flatG_app]; simp [flatG, eltL]
theorem NRow.none (lo : Nat) (G : Nat → Foot) (w : World) : NRow BlockO 40 3 lo none 0 [] G w :=
  ⟨⟨rfl, .inl ⟨rfl, rfl⟩⟩, fun i h => by simp at h, fun i j b h => by simp at h, fun i b h => by simp at h⟩
/-- One block more. -/
theorem NRow.snoc {lo cap : Nat} {a : Option Addr} {es : List (Elt BlkM 3)} {G : Nat → Foot} {w w5 : World} (h : NRow BlockO 40 3 lo a cap es G w) (F : Foot) (e : Elt BlkM 3) (he : BlockO F lo e.cs e.m w)
    (hsep : ∀ i b, i < es.length → G i b → ¬ F b) (hoff : ∀ b, F b → (Value.slice a es.length cap).ownBlock ≠ some b) {v5 : Value} (ho : w5.ownsRow lo 40 3 v5 (es.length + 1) (flatG eltL es ++ e.cs)) (hg : w.grownBy w5 (Value.slice a es.length cap).ownBlock) :
    ∃ a5 cap5, v5 = .slice a5 (es ++ [e]).length cap5 ∧ NRow BlockO 40 3 lo a5 cap5 (es ++ [e]) (fun i => if i = es.length then F else G i) w5 := by
  obtain ⟨a5, cap5, rfl⟩ := own_shape ho
  have hlen : (es ++ [e]).length = es.length + 1 := by simp
  have keep : ∀ {F' : Foot} {cs : List Value} {m : BlkM}, BlockO F' lo cs m w → (∀ b, F' b → (Value.slice a es.length cap).ownBlock ≠ some b) → BlockO F' lo cs m w5 := fun k1 k2 =>
    block_ong.sup k1 (fun b hb => hg.block b (block_ong.at_ k1 b hb).2 (fun e => k2 b hb e.symm))
  have other : ∀ {F' : Foot} {cs : List Value} {m : BlkM}, BlockO F' lo cs m w5 → ∀ b, F' b → (Value.slice a5 (es.length + 1) cap5).ownBlock ≠ some b := fun k1 b hb => by
    obtain ⟨c, _, x, cp, hc, hr, hF⟩ := k1
    have hbb := (hF b).1 hb
    rcases hr.2 with ⟨hv, _⟩ | ⟨g, cap', cur, hv, _, hh, _⟩
    · rw [hv] at hbb; simp [Value.ownBlock] at hbb
    · rw [hv] at hbb
      simp [Value.ownBlock] at hbb
      subst hbb
      exact own_other ho hh (by decide)
  have own5 : ∀ i (hi : i < es.length), BlockO (G i) lo es[i].cs es[i].m w5 := fun i hi => keep (h.own i hi) (fun b hb => h.off i b hi hb)
  have he5 := keep he hoff
  refine ⟨a5, cap5, by rw [hlen], ⟨by rw [hlen, flatG_snoc]; exact ho, fun i hi => ?_, fun i j b hi hj hij => ?_, fun i b hi => ?_⟩⟩
  · rcases Nat.lt_or_ge i es.length with h1 | h1
    · rw [if_neg (by omega), List.getElem_append_left h1]
      exact own5 i h1
    · have hie : i = es.length := by omega
      subst hie
      rw [if_pos rfl, List.getElem_append_right (Nat.le_refl _)]
      simpa using he5
  · rcases Nat.lt_or_ge i es.length with h1 | h1
    · rw [if_neg (by omega)]
      rcases Nat.lt_or_ge j es.length with h2 | h2
      · rw [if_neg (by omega)]; exact h.sep i j b h1 h2 hij
      · rw [if_pos (by omega)]; exact hsep i b h1
    · rw [if_pos (by omega)]
      rcases Nat.lt_or_ge j es.length with h2 | h2
      · rw [if_neg (by omega)]; exact fun h3 h4 => hsep j b h2 h4 h3
      · omega
  · rw [hlen]
    rcases Nat.lt_or_ge i es.length with h1 | h1
    · rw [if_neg (by omega)]; exact fun hb => other (own5 i h1) b hb
    · rw [if_pos (by omega)]; exact fun hb => other he5 b hb
theorem BlockSOwn.nil (lo hi : Nat) (w : World) : BlockSOwn lo hi [.slice none 0 0] [] w :=
  ⟨fun _ => False, ⟨none, 0, [], fun _ _ => False, rfl, rfl, NRow.none _ _ _, fun b => by simp [rowF, Value.ownBlock]⟩, fun b h => h.elim⟩
theorem nrow_own {lo cap : Nat} {a : Option Addr} {es : List (Elt BlkM 3)} {G : Nat → Foot} {w : World} (h : NRow BlockO 40 3 lo a cap es G w) : BlockSOwn lo w.heap.size [.slice a es.length cap] (es.map Elt.m) w :=
  ⟨rowF (.slice a es.length cap) es.length G, ⟨a, cap, es, G, rfl, rfl, h, fun b => Iff.rfl⟩, fun b hb => (h.at_ block_ong b hb).2⟩
/-- .. at an address. -/
def BlockSRetS (l : List BlkM) (w : World) (e : Ending) (w' : World) : Prop := ∃ g cap, e = .returned (.slice (some ⟨g, 0, none⟩) l.length cap) ∧ BlockSOwn w.heap.size w'.heap.size [.slice (some ⟨g, 0, none⟩) l.length cap] l w' ∧ Below w.heap.size w w'
/-- A block as it stands in the bytes. -/
def blkAt (d : List UInt8) (v t : Nat) : BlkM := ⟨((d.getD (t + 1) 0).toNat : Int), ((d.getD (t + 2) 0).toNat : Int), (d.drop (t + 3)).take v⟩
def firstN (d : List UInt8) (v k : Nat) : List BlkM := (List.range k).map (fun j => blkAt d v (j * (v + 3)))
theorem firstN_length (d : List UInt8) (v k : Nat) : (firstN d v k).length = k := by simp [firstN]
theorem firstN_snoc (d : List UInt8) (v k : Nat) : firstN d v (k + 1) = firstN d v k ++ [blkAt d v (k * (v + 3))] := by unfold firstN; rw [List.range_succ, List.map_append]; rfl
/-- How many blocks stand one behind the other, from number k on (f at most). -/
def cntUp (d : List UInt8) (v : Nat) : Nat → Nat → Nat
  | 0, k => k
  | f + 1, k => if d.getD (k * (v + 3)) 0 = 1 then cntUp d v f (k + 1) else k
def cntN (d : List UInt8) (v : Nat) : Nat := cntUp d v 4 0
theorem cntUp_le (d : List UInt8) (v : Nat) : ∀ f k, cntUp d v f k ≤ k + f
  | 0, k => by unfold cntUp; omega
  | f + 1, k => by
    unfold cntUp
    split
    · have := cntUp_le d v f (k + 1); omega
    · omega
theorem cntN_le (d : List UInt8) (v : Nat) : cntN d v ≤ 4 := by have := cntUp_le d v 4 0; unfold cntN; omega
def candN (d : List UInt8) (v : Nat) : List BlkM := firstN d v (cntN d v)
def readNB (d : List UInt8) (z v : Int) : Bool := frameB z v && (decide ((d.length : Int) = nodeSizeZ v) && decide (nodeOfL (candN d v.toNat) z v = d))
def readNM (d : List UInt8) (z v : Int) : NodeM := if readNB d z v = true then candN d v.toNat else []
end Go.Proofs.Ytmndkpicbmffnaa
end
