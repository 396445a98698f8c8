/- Vals, BigIs, TrP, TrQ in one. Written by tools/join2.py. -/
import Derived.Test.YtmkgddbdkpkgpaaJS1
import Derived.Laws.BytesArg
section
namespace Go.Proofs.Ytmkgddbdkpkgpaa
open Go.RowKit

def bval (c : UInt8) : Value := .int .u8 c.toNat
def strL (l : List UInt8) : ByteArray := ⟨l.toArray⟩
def sval (l : List UInt8) : Value := .string (strL l)
def ival (z : Int) : Value := .int .i64 z
theorem bval_at {l : List UInt8} {k : Nat} (h : k < l.length) : (l.map bval)[k]? = some (.int .u8 (l[k].toNat : Int)) := by
  simp [h, bval]
theorem ival_at {l : List Int} {k : Nat} (h : k < l.length) : (l.map ival)[k]? = some (.int .i64 l[k]) := by simp [h, ival]
theorem strL_empty : strL [] = ⟨#[]⟩ := rfl
theorem strL_data (l : List UInt8) : (strL l).data.toList = l := rfl
theorem strL_size (l : List UInt8) : (strL l).size = l.length := rfl
theorem Try.info3 : (Try.prog.info? 3).map (fun i => (i.zero, i.size, i.bytes)) = some (some (.int .i64 0), 1, 8) := by kernel_rfl
theorem Try.info5 : (Try.prog.info? 5).map (fun i => (i.zero, i.size, i.bytes)) = some (some (.int .u8 0), 1, 1) := by kernel_rfl
/-- string(b) of a row of bytes that the call owns. -/
theorem conv_own {w : World} {base g cap : Nat} {l : List UInt8} (n : Nat) (hn : l.length = n) (h : w.ownsRow base 5 1 (.slice (some ⟨g, 0, none⟩) n cap) n (l.map bval)) :
    (convert 22 9 (.slice (some ⟨g, 0, none⟩) n cap)).run Try.prog w = .ok (.string (strL l)) w := by
  have e : strL l = strOfNums (l.map fun c => (c.toNat : Int)) := by
    unfold strL strOfNums; congr 1; simp [Function.comp_def]
  rw [e]
  refine run_convert_bytes_arg w 22 5 Try.underlying22 Try.underlying5 g 0 n cap _ (by simpa using hn) ?_ 9 Try.underlying9
  intro i hi
  have := h.cellAt i (by omega)
  rw [Nat.zero_add, this]
  have hl : i < l.length := by omega
  simp [bval, hl]

/-- string(b) of whatever the call owns. -/
theorem conv_any {w : World} {base n : Nat} {v : Value} {l : List UInt8} (h : w.ownsRow base 5 1 v n (l.map bval)) :
    (convert 22 9 v).run Try.prog w = .ok (.string (strL l)) w := by
  have hl : l.length = n := by simpa using h.1
  rcases h.2 with ⟨rfl, hn⟩ | ⟨g, cap, cur, rfl, _⟩
  · have : l = [] := List.eq_nil_of_length_eq_zero (by omega)
    subst this
    exact run_convert_bytes_nil w 22 5 Try.underlying22 Try.underlying5 0 0 9 Try.underlying9
  · exact conv_own n hl h
end Go.Proofs.Ytmkgddbdkpkgpaa
end

section
namespace Go.Proofs.Ytmkgddbdkpkgpaa
open Go.RowKit
set_option linter.unusedVariables false
set_option maxHeartbeats 400000 in
theorem bigIs (a : Option Addr) (n cap : Nat) (w : World) (hn : n ≤ maxLen) :
    Calls Try.prog 11 #[.slice a n cap] w fun e w' => e = .returned (.bool (decide (1048576 < n))) ∧ w = w' := by
  unfold maxLen at hn
  go_enter Try.func11, Try.ntmps11
  go_wp2
  go_ret
  exact ⟨ret_bool (by simp; omega), rfl⟩
/-- What came in as a slice of bytes lies in memory as a list of bytes. -/
theorem row_of_isRow {w : World} {a : Option Addr} {len cap : Nat} {zs : List Int} (h : IsRow .u8 w a len cap zs) :
    ∃ l : List UInt8, l.length = len ∧ len ≤ cap ∧ cap ≤ maxLen ∧ Row w a (l.map bval) := by
  rcases h with ⟨rfl, rfl, rfl, rfl⟩ | ⟨x, rfl, hl, hm, hz, hcell, hwf⟩
  · exact ⟨[], rfl, Nat.le_refl _, by unfold maxLen; omega, .inl rfl⟩
  · refine ⟨(zs.take len).map fun n => UInt8.ofNat n.toNat, by simp; omega, hl, hm, ?_⟩
    by_cases h0 : len = 0
    · subst h0; exact .inl (by simp)
    · obtain ⟨b, off, spot⟩ := x
      have hc := hcell 0 (by omega)
      have hspot : spot = none := by simpa [Addr.add] using World.cell?_spot hc
      subst hspot
      refine .inr ⟨b, off, rfl, fun i hi => ?_⟩
      have hi' : i < len := by simp at hi; omega
      have hiz : i < zs.length := by omega
      have e := hcell i hiz
      have hw : 0 ≤ zs[i] ∧ zs[i] ≤ 255 := by
        have := hwf zs[i] (List.getElem_mem hiz)
        simpa using bounds_u8 this
      have ea : (⟨b, off, none⟩ : Addr).add i = ⟨b, off + i, none⟩ := by simp [Addr.add]
      rw [ea] at e
      rw [e]
      have e2 : ((zs[i].toNat % 256 : Nat) : Int) = zs[i] := by omega
      simp [bval, hi', hiz, e2]
end Go.Proofs.Ytmkgddbdkpkgpaa
end

section
namespace Go.Proofs.Ytmkgddbdkpkgpaa
open Go.RowKit
set_option linter.unusedVariables false

theorem rangeAll {p : Nat → Bool} : ∀ {n : Nat}, (List.range n).all p = true → ∀ i, i < n → p i = true := fun {n} h i hi => by
  rw [List.all_eq_true] at h
  exact h i (List.mem_range.2 hi)
/-- The node at level i of the path of leaf l in a tree of 2^g leaves. -/
def nd (g l i : Nat) : Nat := (2 ^ g + l) / 2 ^ (g - i)
def pthN (g l : Nat) : List Nat := (List.range (g + 1)).map (nd g l)
theorem pthN_length (g l : Nat) : (pthN g l).length = g + 1 := by simp [pthN]
theorem pthN_get (g l i : Nat) (h : i < (pthN g l).length) : (pthN g l)[i] = nd g l i := by simp [pthN]
/-- The nodes from number k on up: what the halving has laid. -/
def upN (N : Nat) : Nat → List Nat
  | 0 => []
  | k + 1 => N / 2 ^ k :: upN N k
theorem upN_length (N : Nat) : ∀ k, (upN N k).length = k
  | 0 => rfl
  | k + 1 => by simp [upN, upN_length N k]
theorem upN_get (N : Nat) : ∀ k i (h : i < (upN N k).length), (upN N k)[i] = N / 2 ^ (k - 1 - i)
  | k + 1, 0, h => by simp [upN]
  | k + 1, i + 1, h => by
    simp only [upN, List.getElem_cons_succ]
    rw [upN_get N k i (by simpa [upN] using h)]
    have : k - 1 - i = k + 1 - 1 - (i + 1) := by omega
    rw [this]
theorem upN_path (g l : Nat) : upN (2 ^ g + l) (g + 1) = pthN g l := by
  apply List.ext_getElem (by rw [upN_length, pthN_length])
  intro i h1 h2
  rw [upN_get, pthN_get]
  unfold nd
  congr 2
theorem halve_pos {g l k : Nat} (hl : l < 2 ^ g) (hk : k ≤ g) : 1 ≤ (2 ^ g + l) / 2 ^ k := by
  rw [Nat.le_div_iff_mul_le (Nat.two_pow_pos k), Nat.one_mul]
  have := Nat.pow_le_pow_right (show 0 < 2 by omega) hk
  omega
theorem halve_end {g l : Nat} (hl : l < 2 ^ g) : (2 ^ g + l) / 2 ^ (g + 1) = 0 := by
  apply Nat.div_eq_of_lt
  rw [Nat.pow_succ]; omega
theorem halve_next (N k : Nat) : N / 2 ^ k / 2 = N / 2 ^ (k + 1) := by rw [Nat.div_div_eq_div_mul, Nat.pow_succ]
/-- Node n lies on the path of leaf l. -/
def onN (g n l : Nat) : Bool := (List.range (g + 1)).any fun i => Nat.beq (nd g l i) n
theorem onN_any (g n l : Nat) : onN g n l = (pthN g l).any (fun m => Nat.beq m n) := by unfold onN pthN; rw [List.any_map]; rfl
def lvN (n : Nat) : Nat := Nat.log2 n
def loN (g n : Nat) : Nat := (n - 2 ^ lvN n) * 2 ^ (g - lvN n)
def hiN (g n : Nat) : Nat := loN g n + (2 ^ (g - lvN n) - 1)
/-- The level of the last node that both paths have in common, of those ahead of k. -/
def mtN (g a b : Nat) : Nat → Nat
  | 0 => 0
  | k + 1 => if Nat.beq (nd g a k) (nd g b k) = true then k else mtN g a b k
def ckCover (g : Nat) : Bool := (List.range (2 ^ (g + 1))).all fun n => Nat.beq n 0 || ((List.range (2 ^ g)).all (fun l => onN g n l == (Nat.ble (loN g n) l && Nat.ble l (hiN g n))) && (Nat.ble (hiN g n + 1) (2 ^ g) && (Nat.beq (hiN g n + 1) (loN g n + 2 ^ (g - lvN n)) && Nat.ble (lvN n) g)))
theorem cover_all : (List.range 7).all ckCover = true := by decide +kernel
theorem cover {g n : Nat} (hg : g ≤ 6) (h1 : 1 ≤ n) (h2 : n < 2 ^ (g + 1)) : (∀ l, l < 2 ^ g → onN g n l = (decide (loN g n ≤ l) && decide (l ≤ hiN g n))) ∧ hiN g n < 2 ^ g ∧ hiN g n + 1 = loN g n + 2 ^ (g - lvN n) ∧ lvN n ≤ g := by
  have h := rangeAll (rangeAll cover_all g (by omega)) n h2
  have hn : Nat.beq n 0 = false := by
    cases e : Nat.beq n 0
    · rfl
    · have := Nat.eq_of_beq_eq_true e; omega
  rw [hn, Bool.false_or] at h
  simp only [Bool.and_eq_true] at h
  obtain ⟨h1, h3, h4, h5⟩ := h
  refine ⟨fun l hl => ?_, by have := Nat.le_of_ble_eq_true h3; omega, Nat.eq_of_beq_eq_true h4, Nat.le_of_ble_eq_true h5⟩
  have := rangeAll h1 l hl
  simp only [beq_iff_eq] at this
  rw [this]
  have e1 : ∀ a b, Nat.ble a b = decide (a ≤ b) := fun a b => by
    by_cases h : a ≤ b
    · rw [Nat.ble_eq_true_of_le h, decide_eq_true h]
    · cases e : Nat.ble a b
      · rw [decide_eq_false h]
      · exact absurd (Nat.le_of_ble_eq_true e) h
  rw [e1, e1]
/-- The halving of a node comes to the root at its level. -/
def ckLevel (n : Nat) : Bool := Nat.beq n 0 || (List.range 8).all fun k => (Nat.ble 2 (n / 2 ^ k) == Nat.ble (k + 1) (lvN n))
theorem level_all : (List.range 128).all ckLevel = true := by decide +kernel
theorem lvN_le : ∀ n, n < 128 → lvN n ≤ 6 := by
  have : (List.range 128).all (fun n => Nat.ble (lvN n) 6) = true := by decide +kernel
  exact fun n hn => Nat.le_of_ble_eq_true (rangeAll this n hn)
theorem level_step {n k : Nat} (h1 : 1 ≤ n) (h2 : n ≤ 127) (hk : k ≤ lvN n) : (1 < n / 2 ^ k ↔ k < lvN n) := by
  have hl := lvN_le n (by omega)
  have h := rangeAll level_all n (by omega)
  have hn : Nat.beq n 0 = false := by
    cases e : Nat.beq n 0
    · rfl
    · have := Nat.eq_of_beq_eq_true e; omega
  unfold ckLevel at h
  rw [hn, Bool.false_or] at h
  have h := rangeAll h k (by omega)
  simp only [beq_iff_eq] at h
  constructor
  · intro a
    rw [Nat.ble_eq_true_of_le (show 2 ≤ n / 2 ^ k from a)] at h
    exact Nat.le_of_ble_eq_true h.symm
  · intro a
    rw [Nat.ble_eq_true_of_le (show k + 1 ≤ lvN n from a)] at h
    exact Nat.le_of_ble_eq_true h
/-- What FnMeet says of two leaves at a level. -/
def ckMeet1 (g a b m i : Nat) : Bool :=
  (onN g (nd g a i) b == Nat.ble i m) && ((Nat.beq (nd g a i) (nd g b i) == Nat.ble i m) && (Nat.beq (lvN (nd g a i)) i && (Nat.ble (loN g (nd g a i)) a && (Nat.ble a (hiN g (nd g a i)) && ((Nat.ble (loN g (nd g a i)) b && Nat.ble b (hiN g (nd g a i))) == Nat.ble i m)))))
def ckMeet (g : Nat) : Bool := (List.range (2 ^ g)).all fun a => (List.range (2 ^ g)).all fun b => (List.range (g + 1)).all (fun i => ckMeet1 g a b (mtN g a b (g + 1)) i) && (Nat.beq (mtN g b a (g + 1)) (mtN g a b (g + 1)) && (Nat.beq (nd g a 0) 1 && Nat.ble (mtN g a b (g + 1)) g))
set_option maxHeartbeats 4000000 in
theorem meet_all : (List.range 7).all ckMeet = true := by decide +kernel
end Go.Proofs.Ytmkgddbdkpkgpaa
end

section
namespace Go.Proofs.Ytmkgddbdkpkgpaa
open Go.RowKit
set_option linter.unusedVariables false

theorem ble_dec (a b : Nat) : Nat.ble a b = decide (a ≤ b) := by
  by_cases h : a ≤ b
  · rw [Nat.ble_eq_true_of_le h, decide_eq_true h]
  · cases e : Nat.ble a b
    · rw [decide_eq_false h]
    · exact absurd (Nat.le_of_ble_eq_true e) h
theorem beq_dec (a b : Nat) : Nat.beq a b = decide (a = b) := by
  by_cases h : a = b
  · subst h; rw [decide_eq_true rfl]; exact Nat.beq_refl a
  · cases e : Nat.beq a b
    · rw [decide_eq_false h]
    · exact absurd (Nat.eq_of_beq_eq_true e) h
def logB (z : Int) : Bool := decide (0 ≤ z) && decide (z ≤ 6)
theorem logB_ok {z : Int} (h : logB z = true) : ∃ g : Nat, z = g ∧ g ≤ 6 := by
  unfold logB at h
  simp only [Bool.and_eq_true, decide_eq_true_eq] at h
  exact ⟨z.toNat, by omega, by omega⟩
theorem logB_at {g : Nat} (h : g ≤ 6) : logB g = true := by unfold logB; simp; omega
def leafB (z l : Int) : Bool := logB z && (decide (0 ≤ l) && decide (l < (2 ^ z.toNat : Nat)))
theorem leafB_ok {z l : Int} (h : leafB z l = true) : ∃ g a : Nat, z = g ∧ l = a ∧ g ≤ 6 ∧ a < 2 ^ g := by
  unfold leafB at h
  simp only [Bool.and_eq_true, decide_eq_true_eq] at h
  obtain ⟨g, rfl, hg⟩ := logB_ok h.1
  refine ⟨g, l.toNat, rfl, by omega, hg, ?_⟩
  have := h.2.2
  rw [Int.toNat_natCast] at this
  omega
theorem leafB_at {g a : Nat} (h : g ≤ 6) (ha : a < 2 ^ g) : leafB g a = true := by
  unfold leafB; rw [logB_at h]; simp only [Int.toNat_natCast, Bool.true_and, Bool.and_eq_true, decide_eq_true_eq]; omega
theorem pow_64 {g : Nat} (h : g ≤ 6) : 1 ≤ 2 ^ g ∧ 2 ^ g ≤ 64 := ⟨Nat.two_pow_pos g, Nat.pow_le_pow_right (by omega) h⟩
def treeNodesZ (z : Int) : Int := if logB z = true then 2 * (2 ^ z.toNat : Nat) - 1 else -1
theorem treeNodesZ_at {g : Nat} (h : g ≤ 6) : treeNodesZ g = ((2 ^ (g + 1) : Nat) : Int) - 1 := by
  unfold treeNodesZ; rw [if_pos (logB_at h), Int.toNat_natCast, Nat.pow_succ]; omega
theorem treeNodesZ_no {z : Int} (h : logB z = false) : treeNodesZ z = -1 := by unfold treeNodesZ; rw [if_neg (by rw [h]; decide)]
def pathZ (z l : Int) : List Int := if leafB z l = true then (pthN z.toNat l.toNat).map (fun n : Nat => (n : Int)) else []
theorem pathZ_at {g a : Nat} (h : g ≤ 6) (ha : a < 2 ^ g) : pathZ g a = (pthN g a).map (fun n : Nat => (n : Int)) := by unfold pathZ; rw [if_pos (leafB_at h ha)]; simp
theorem pathZ_no {z l : Int} (h : leafB z l = false) : pathZ z l = [] := by unfold pathZ; rw [if_neg (by rw [h]; decide)]
theorem pathZ_length {g a : Nat} (h : g ≤ 6) (ha : a < 2 ^ g) : (pathZ g a).length = g + 1 := by rw [pathZ_at h ha, List.length_map, pthN_length]
theorem pathZ_get {g a i : Nat} (h : g ≤ 6) (ha : a < 2 ^ g) (hi : i < (pathZ g a).length) : (pathZ g a)[i] = (nd g a i : Int) := by
  simp only [pathZ_at h ha, List.getElem_map, pthN_get]
def onZ (z n l : Int) : Bool := (pathZ z l).any (fun m => decide (m = n))
theorem onZ_no {z n l : Int} (h : leafB z l = false) : onZ z n l = false := by unfold onZ; rw [pathZ_no h]; rfl
theorem onZ_neg {z n l : Int} (hn : n < 0) : onZ z n l = false := by
  unfold onZ pathZ
  split
  · rw [List.any_map, List.any_eq_false]
    intro m _
    simp; omega
  · rfl
theorem onZ_at {g n a : Nat} (h : g ≤ 6) (ha : a < 2 ^ g) : onZ g n a = onN g n a := by
  unfold onZ
  rw [onN_any, pathZ_at h ha, List.any_map]
  congr 1
  funext m
  rw [beq_dec]
  simp only [Function.comp_apply, decide_eq_decide]
  exact Int.ofNat_inj
def levelZ (n : Int) : Int := if 1 ≤ n ∧ n ≤ 127 then (lvN n.toNat : Int) else -1
theorem levelZ_at {n : Nat} (h1 : 1 ≤ n) (h2 : n ≤ 127) : levelZ n = lvN n := by unfold levelZ; rw [if_pos (by omega)]; simp
theorem levelZ_no {n : Int} (h : ¬ (1 ≤ n ∧ n ≤ 127)) : levelZ n = -1 := by unfold levelZ; rw [if_neg h]
def nodeB (z n : Int) : Bool := decide (1 ≤ n) && decide (n ≤ treeNodesZ z)
theorem nodeB_ok {z n : Int} (h : nodeB z n = true) : ∃ g m : Nat, z = g ∧ n = m ∧ g ≤ 6 ∧ 1 ≤ m ∧ m < 2 ^ (g + 1) := by
  unfold nodeB at h
  simp only [Bool.and_eq_true, decide_eq_true_eq] at h
  cases e : logB z
  · rw [treeNodesZ_no e] at h; omega
  · obtain ⟨g, rfl, hg⟩ := logB_ok e
    rw [treeNodesZ_at hg] at h
    exact ⟨g, n.toNat, rfl, by omega, hg, by omega, by omega⟩
def lowZ (z n : Int) : Int := if nodeB z n = true then (loN z.toNat n.toNat : Int) else -1
def highZ (z n : Int) : Int := if nodeB z n = true then (hiN z.toNat n.toNat : Int) else -1
theorem nodeB_at {g m : Nat} (h : g ≤ 6) (h1 : 1 ≤ m) (h2 : m < 2 ^ (g + 1)) : nodeB g m = true := by
  unfold nodeB; rw [treeNodesZ_at h]; simp only [Bool.and_eq_true, decide_eq_true_eq]; omega
theorem lowZ_at {g m : Nat} (h : g ≤ 6) (h1 : 1 ≤ m) (h2 : m < 2 ^ (g + 1)) : lowZ g m = loN g m := by unfold lowZ; rw [if_pos (nodeB_at h h1 h2)]; simp
theorem highZ_at {g m : Nat} (h : g ≤ 6) (h1 : 1 ≤ m) (h2 : m < 2 ^ (g + 1)) : highZ g m = hiN g m := by unfold highZ; rw [if_pos (nodeB_at h h1 h2)]; simp
theorem lowZ_no {z n : Int} (h : nodeB z n = false) : lowZ z n = -1 := by unfold lowZ; rw [if_neg (by rw [h]; decide)]
theorem highZ_no {z n : Int} (h : nodeB z n = false) : highZ z n = -1 := by unfold highZ; rw [if_neg (by rw [h]; decide)]
def meetZ (z a b : Int) : Int := if (leafB z a && leafB z b) = true then (mtN z.toNat a.toNat b.toNat (z.toNat + 1) : Int) else -1
theorem meetZ_at {g a b : Nat} (h : g ≤ 6) (ha : a < 2 ^ g) (hb : b < 2 ^ g) : meetZ g a b = mtN g a b (g + 1) := by
  unfold meetZ; rw [leafB_at h ha, leafB_at h hb]; simp
theorem meetZ_no {z a b : Int} (h : leafB z a = false ∨ leafB z b = false) : meetZ z a b = -1 := by
  unfold meetZ
  rw [if_neg]
  rcases h with h | h <;> rw [h] <;> simp
/-- A node of a path is a node of the tree. -/
theorem nd_node {g a i : Nat} (ha : a < 2 ^ g) (hi : i ≤ g) : 1 ≤ nd g a i ∧ nd g a i < 2 ^ (g + 1) := by
  unfold nd
  refine ⟨halve_pos ha (by omega), Nat.lt_of_le_of_lt (Nat.div_le_self _ _) ?_⟩
  rw [Nat.pow_succ]; omega
/-- What two leaves have in common at a level. -/
theorem meet_at {g a b i : Nat} (hg : g ≤ 6) (ha : a < 2 ^ g) (hb : b < 2 ^ g) (hi : i ≤ g) :
    onN g (nd g a i) b = decide (i ≤ mtN g a b (g + 1)) ∧ decide (nd g a i = nd g b i) = decide (i ≤ mtN g a b (g + 1)) ∧ lvN (nd g a i) = i ∧ loN g (nd g a i) ≤ a ∧ a ≤ hiN g (nd g a i) ∧ (decide (loN g (nd g a i) ≤ b) && decide (b ≤ hiN g (nd g a i))) = decide (i ≤ mtN g a b (g + 1)) := by
  have h := rangeAll (rangeAll (rangeAll meet_all g (by omega)) a ha) b hb
  simp only [Bool.and_eq_true] at h
  have h1 := rangeAll h.1 i (by omega)
  unfold ckMeet1 at h1
  simp only [Bool.and_eq_true, beq_iff_eq, ble_dec, beq_dec, decide_eq_true_eq] at h1
  obtain ⟨k1, k2, k3, k4, k5, k6⟩ := h1
  exact ⟨k1, k2, k3, k4, k5, k6⟩
theorem meet_sym {g a b : Nat} (hg : g ≤ 6) (ha : a < 2 ^ g) (hb : b < 2 ^ g) : mtN g b a (g + 1) = mtN g a b (g + 1) ∧ nd g a 0 = 1 ∧ mtN g a b (g + 1) ≤ g := by
  have h := rangeAll (rangeAll (rangeAll meet_all g (by omega)) a ha) b hb
  simp only [Bool.and_eq_true, ble_dec, beq_dec, decide_eq_true_eq] at h
  exact h.2
/-- The leaves of a node found one after the other: what the search has come to. -/
def scanF (lo hi k : Nat) : Int × Int := if k ≤ lo then (-1, -1) else ((lo : Int), if k ≤ hi then (k : Int) - 1 else hi)
theorem scanF_next {lo hi k : Nat} (h : lo ≤ hi) : scanF lo hi (k + 1) = if (decide (lo ≤ k) && decide (k ≤ hi)) = true then ((if (scanF lo hi k).1 < 0 then (k : Int) else (scanF lo hi k).1), (k : Int)) else scanF lo hi k := by
  unfold scanF
  by_cases h1 : lo ≤ k
  · by_cases h2 : k ≤ hi
    · rw [if_neg (by omega), decide_eq_true h1, decide_eq_true h2]
      by_cases h3 : k ≤ lo
      · have : k = lo := by omega
        subst this
        simp; omega
      · rw [if_neg h3]
        simp
        constructor
        · omega
        · intro; omega
    · have e1 : ¬ k + 1 ≤ lo := by omega
      have e2 : ¬ k ≤ lo := by omega
      have e3 : ¬ k + 1 ≤ hi := by omega
      simp [e1, e2, e3, h1, h2]
  · rw [if_pos (by omega), decide_eq_false h1, Bool.false_and, if_neg (by simp), if_pos (by omega)]
theorem scanF_end {lo hi n : Nat} (h : lo ≤ hi) (hn : hi < n) : scanF lo hi n = ((lo : Int), (hi : Int)) := by
  unfold scanF; rw [if_neg (by omega)]
  split
  · congr 1; omega
  · rfl
end Go.Proofs.Ytmkgddbdkpkgpaa
end
