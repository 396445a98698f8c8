/- StX, AppZ in one. Written by tools/join2.py. -/
import Derived.Test.YtmkgddbdkpkgpaaJS20
import Derived.Test.YtmkgddbdkpkgpaaJS24
import Derived.Test.YtmkgddbdkpkgpaaJS25
import Derived.Test.YtmkgddbdkpkgpaaJS4
import Derived.Lib.AppendZerosOnto
section
namespace Go.Proofs.Ytmkgddbdkpkgpaa
open Go.RowKit
set_option linter.unusedVariables false

def i64S (z : Int) : Prop := -9223372036854775808 ≤ z ∧ z ≤ 9223372036854775807
theorem szBlockS_append (a b : List BlkM) : szBlockS (a ++ b) = szBlockS a + szBlockS b := by unfold szBlockS; rw [sumD_app, List.length_append]; omega
theorem szBlockS_ins (b : BlkM) (l : List BlkM) : szBlockS (insB b l) = szBlockS l + 1 + b.data.length := by
  rw [← insB_at b l, szBlockS_append]
  have h : szBlockS l = szBlockS (l.take (cntLess l b.id)) + szBlockS (l.drop (cntLess l b.id)) := by rw [← szBlockS_append, List.take_append_drop]
  have h2 : szBlockS (b :: l.drop (cntLess l b.id)) = szBlockS (l.drop (cntLess l b.id)) + 1 + b.data.length := by unfold szBlockS; rw [sumD_cons]; simp; omega
  omega
theorem mcB_le (l : List BlkM) : mcBlockS l ≤ 2 * szBlockS l := by unfold mcBlockS szBlockS; omega
theorem sPutM_bd (l : List BlkM) (b : BlkM) (z v : Int) (h : szBlockS l ≤ 1048576) (hb : szBlock b ≤ 1048576) : mcBlockS (sPutM l b z v) ≤ 1000000000000 := by
  have h1 := mcB_le (sPutM l b z v)
  have h2 : szBlockS (sPutM l b z v) ≤ 4194304 := by
    unfold sPutM
    unfold szBlock at hb
    split
    · rw [szBlockS_ins]
      have := szBlockS_without l b.id
      omega
    · simp [szBlockS, sumD]
  omega
theorem sFindM_bd (l : List BlkM) (i : Int) (h : szBlockS l ≤ 1048576) : szBlock (sFindM l i) ≤ 1000000000000 := by
  unfold sFindM
  split
  · cases hf : l.find? (fun m => decide (m.id = i)) with
    | none => show szBlock zeroBlk ≤ _; simp [szBlock, zeroBlk]
    | some m =>
      show szBlock m ≤ _
      have hm := List.mem_of_find?_eq_some hf
      obtain ⟨k, hk, rfl⟩ := List.mem_iff_getElem.1 hm
      have := szBlockS_one hk
      unfold szBlockS at this
      rw [sumD_cons] at this
      unfold szBlock
      unfold szBlockS at h
      omega
  · simp [szBlock, zeroBlk]
theorem sDropM_bd (l : List BlkM) (i : Int) (h : szBlockS l ≤ 1048576) : mcBlockS (sDropM l i) ≤ 1000000000000 := by
  have h1 := mcB_le (sDropM l i)
  have h2 : szBlockS (sDropM l i) ≤ 1048576 := by
    unfold sDropM
    split
    · exact Nat.le_trans (szBlockS_without l i) h
    · simp [szBlockS, sumD]
  omega
theorem planZ_bd (l : List BlkM) (z v leaf : Int) : mcPutS (planZ l z v leaf) ≤ 1000000000000 := by
  have := planZ_len l z v leaf
  unfold mcPutS; omega
theorem restZ_bd (l : List BlkM) (z v leaf : Int) (h : szBlockS l ≤ 1048576) : mcBlockS (restZ l z v leaf) ≤ 1000000000000 := by
  have h1 := mcB_le (restZ l z v leaf)
  have h2 : szBlockS (restZ l z v leaf) ≤ 1048576 := by
    unfold restZ
    split
    · exact Nat.le_trans (dropP_sz l _ l) h
    · simp [szBlockS, sumD]
  omega
def StPutPost (l : List BlkM) (m : BlkM) (z v : Int) (w : World) (e : Ending) (w' : World) : Prop := ∃ r, e = .returned (.tuple #[r, .bool (sPutB l m z v)]) ∧ BlockSOwn w.heap.size w'.heap.size [r] (sPutM l m z v) w' ∧ Below w.heap.size w w'
def StFindPost (l : List BlkM) (i : Int) (w : World) (e : Ending) (w' : World) : Prop := ∃ c0 c1 c2, e = .returned (.tuple #[.agg #[c0, c1, c2], .bool (sFindB l i)]) ∧ BlockOwn w.heap.size w'.heap.size [c0, c1, c2] (sFindM l i) w' ∧ Below w.heap.size w w'
def StDropPost (l : List BlkM) (i : Int) (w : World) (e : Ending) (w' : World) : Prop := ∃ c0, e = .returned (.tuple #[c0, .bool (sFindB l i)]) ∧ BlockSOwn w.heap.size w'.heap.size [c0] (sDropM l i) w' ∧ Below w.heap.size w w'
theorem uSpecStashPut (c : Value) (l : List BlkM) (c0 c1 c2 : Value) (m : BlkM) (z v : Int) (w : World) (h : BlockSIn [c] l w) (hm : BlockIn [c0, c1, c2] m w) (b2 : -9223372036854775808 ≤ z ∧ z ≤ 9223372036854775807) (b3 : -9223372036854775808 ≤ v ∧ v ≤ 9223372036854775807) (hs : szBlockS l ≤ 1048576) (hsb : szBlock m ≤ 1048576) : Calls Try.prog 13 #[c, .agg #[c0, c1, c2], .int .i64 z, .int .i64 v] w fun e w' => ∃ r, e = .returned (.tuple #[r, .bool (sPutB l m z v)]) ∧ BlockSOwn w.heap.size w'.heap.size [r] (sPutM l m z v) w' ∧ Below w.heap.size w w' := specStashPut c l c0 c1 c2 m z v w h hm hs hsb
theorem uSpecStashFind (c : Value) (l : List BlkM) (i : Int) (w : World) (h : BlockSIn [c] l w) (b1 : -9223372036854775808 ≤ i ∧ i ≤ 9223372036854775807) (hs : szBlockS l ≤ 1048576) : Calls Try.prog 36 #[c, .int .i64 i] w fun e w' => ∃ c0 c1 c2, e = .returned (.tuple #[.agg #[c0, c1, c2], .bool (sFindB l i)]) ∧ BlockOwn w.heap.size w'.heap.size [c0, c1, c2] (sFindM l i) w' ∧ Below w.heap.size w w' := specStashFind c l i w h hs
theorem uSpecStashDrop (c : Value) (l : List BlkM) (i : Int) (w : World) (h : BlockSIn [c] l w) (b1 : -9223372036854775808 ≤ i ∧ i ≤ 9223372036854775807) (hs : szBlockS l ≤ 1048576) : Calls Try.prog 38 #[c, .int .i64 i] w fun e w' => ∃ c0, e = .returned (.tuple #[c0, .bool (sFindB l i)]) ∧ BlockSOwn w.heap.size w'.heap.size [c0] (sDropM l i) w' ∧ Below w.heap.size w w' := specStashDrop c l i w h hs
structure Impl13 : Prop where
  ok : ∀ (c : Value) (l : List BlkM) (z v : Int) (w : World), BlockSIn [c] l w → Calls Try.prog 28 #[c, .int .i64 z, .int .i64 v] w fun e w' => e = .returned (.bool (stashOkB l z v)) ∧ Below w.heap.size w w'
  put : ∀ (c : Value) (l : List BlkM) (c0 c1 c2 : Value) (m : BlkM) (z v : Int) (w : World), BlockSIn [c] l w → BlockIn [c0, c1, c2] m w → i64S z → i64S v → szBlockS l ≤ 1048576 → szBlock m ≤ 1048576 → Calls Try.prog 14 #[c, .agg #[c0, c1, c2], .int .i64 z, .int .i64 v] w (StPutPost l m z v w)
  find : ∀ (c : Value) (l : List BlkM) (i : Int) (w : World), BlockSIn [c] l w → i64S i → szBlockS l ≤ 1048576 → Calls Try.prog 15 #[c, .int .i64 i] w (StFindPost l i w)
  drop : ∀ (c : Value) (l : List BlkM) (i : Int) (w : World), BlockSIn [c] l w → i64S i → szBlockS l ≤ 1048576 → Calls Try.prog 16 #[c, .int .i64 i] w (StDropPost l i w)
  plan : ∀ (c : Value) (l : List BlkM) (z v leaf : Int) (w : World), BlockSIn [c] l w → i64S z → i64S v → i64S leaf → szBlockS l ≤ 1048576 → Calls Try.prog 21 #[c, .int .i64 z, .int .i64 v, .int .i64 leaf] w (PutSRet (planZ l z v leaf) w)
  rest : ∀ (c : Value) (l : List BlkM) (z v leaf : Int) (w : World), BlockSIn [c] l w → i64S z → i64S v → i64S leaf → szBlockS l ≤ 1048576 → Calls Try.prog 25 #[c, .int .i64 z, .int .i64 v, .int .i64 leaf] w (BlockSRet (restZ l z v leaf) w)
end Go.Proofs.Ytmkgddbdkpkgpaa
end

section
namespace Go.Proofs.Ytmkgddbdkpkgpaa
open Go.RowKit
set_option linter.unusedVariables false
set_option linter.unusedSimpArgs false

theorem zeroCells_one (v : Value) (k : Nat) : (Builtin.zeroCells #[v] k).toList = List.replicate k v := by
  apply List.ext_getElem?
  intro j
  have hs : (Builtin.zeroCells #[v] k).size = k := by simp [Builtin.zeroCells]
  by_cases hj : j < k
  · rw [List.getElem?_eq_getElem (by simpa [hs] using hj), List.getElem?_eq_getElem (by simpa using hj)]
    simp [Builtin.zeroCells, Nat.mod_one]
  · rw [List.getElem?_eq_none (by rw [Array.length_toList, hs]; omega), List.getElem?_eq_none (by simp; omega)]
theorem app_zeros {P : Program} (w : World) (t tn ty e : TypeId) (i : TypeInfo) (z : Value) (kn : IntKind) (bytes : Nat) (ht : P.underlying t = some (.slice e)) (htn : P.underlying tn = some (.int kn)) (hi : P.info? e = some i) (hz : i.zero = some z)
    (hsize : i.size = 1) (hby : i.bytes = bytes) (hzc : z.cells = #[z]) (hz1 : z.oneCell' = true) {base n : Nat} {v : Value} {xs : List Value} (hown : w.ownsRow base e 1 v n xs) (k : Nat)
    (h63 : n + k ≤ maxLen) (hbytes : (n + k) * bytes ≤ 140737488355328) (hbase : base ≤ w.heap.size) :
    ∃ v' w', (Builtin.append_ #[t, tn] ty #[v, .int .i64 k]).run P w = .ok v' w' ∧ w'.ownsRow base e 1 v' (n + k) (xs ++ List.replicate k z) ∧ w.grownBy w' v.ownBlock := by
  subst hby
  have hsmall : n + k ≤ 9223372036854775807 := by simp only [maxLen] at h63; omega
  have hkb : k * i.bytes ≤ 140737488355328 := Nat.le_trans (Nat.mul_le_mul_right _ (by omega)) hbytes
  have hlen : (xs ++ List.replicate k z).length = (n + k) * 1 := by rw [List.length_append, hown.1]; simp
  have hw : IntKind.i64.wrap (k : Int) = k := by rw [IntKind.wrap_i64]; omega
  have hw0 : IntKind.i64.wrap 0 = 0 := by decide
  have hneg : ¬ ((k : Int) < 0) := by omega
  have h48i : ¬ (281474976710656 < (k : Int) * (i.bytes : Int)) := by rw [← Int.natCast_mul]; omega
  have grown : ∀ (old : Nat), old < n + k → ∀ (row : Option Nat),
      (w.drew.alloc (.cells (xs.toArray ++ Builtin.zeroCells z.cells k ++ Builtin.zeroCells z.cells (grownCap w (n + k) old e - (n + k))) e)).ownsRow base e 1
        (.slice (some ⟨w.heap.size, 0, none⟩) (n + k) (grownCap w (n + k) old e)) (n + k) (xs ++ List.replicate k z) ∧
      w.grownBy (w.drew.alloc (.cells (xs.toArray ++ Builtin.zeroCells z.cells k ++ Builtin.zeroCells z.cells (grownCap w (n + k) old e - (n + k))) e)) row := by
    intro old ho row
    have hge := grownCap_ge w (n + k) old e
    have hcm : grownCap w (n + k) old e ≤ maxLen := grownCap_le_maxLen w (n + k) old e h63
    refine ⟨⟨hlen, .inr ⟨w.heap.size, _, _, rfl, hbase, heap_alloc_new w.drew _, hge, hcm, ?_, ?_⟩⟩, ⟨rfl, rfl, rfl, by simp, fun j hj _ => alloc_old w.drew _ j hj⟩⟩
    · have := hown.1
      simp only [Array.size_append, List.size_toArray, size_zeroCells, hzc]
      simp
      omega
    · simp only [Array.toList_append, List.append_assoc, hzc, zeroCells_one]
      rw [← List.append_assoc, ← hlen]
      exact List.take_left
  rcases hown.2 with ⟨rfl, rfl⟩ | ⟨g, cap, cur, rfl, hbg, hg, hnc, hcm, hcs, htake⟩
  · have hx : xs = [] := List.eq_nil_of_length_eq_zero (by simpa using hown.1)
    subst hx
    by_cases hk : k = 0
    · subst hk
      refine ⟨.slice none 0 0, w, ?_, by simpa using World.ownsRow_nil w base e 1, World.grownBy.refl _ _⟩
      simp [Builtin.append_, run_underlying ht, run_underlying htn, sizeOf, typeInfo, zeroValue, hi, hz, asInt, asIntOf, hsize, hw0]
    · have hr := Lib.run_append_nil_zeros (P := P) w t tn ty e i z .i64 kn ht htn hi hz k (by omega) (by omega) (by omega) (by omega)
      have hgr := grown 0 (by omega) (Value.ownBlock (.slice none 0 0))
      simp only [Nat.zero_add, List.nil_append, Array.empty_append] at hgr ⊢
      exact ⟨_, _, hr, hgr.1, hgr.2⟩
  · by_cases hroom : n + k ≤ cap
    · have hcur : cur.size = cap := by simpa using hcs
      have hst := run_storeCells_at P g n e (List.replicate k z) 0 cur w hg (by simp; omega) (fun v hv => by rw [(List.mem_replicate.1 hv).2]; exact hz1)
      have hadd : (⟨g, 0, none⟩ : Addr).add n = ⟨g, n, none⟩ := by first | (simp [Addr.add]; done) | (unfold Addr.add; split <;> simp_all)
      refine ⟨.slice (some ⟨g, 0, none⟩) (n + k) cap, w.setRow g (cur.toList.take (n + 0) ++ List.replicate k z ++ cur.toList.drop (n + 0 + (List.replicate k z).length)).toArray, ?_, ⟨hlen, .inr ⟨g, cap, _, rfl, hbg, setRow_heap w g cur _ e _ hg, hroom, hcm, ?_, ?_⟩⟩, ⟨rfl, rfl, rfl, by simp, fun j _ hj => setRow_other w g j _ (fun e => hj (by simp [Value.ownBlock, e]))⟩⟩
      · by_cases hk : k = 0
        · subst hk
          have hself : (cur.toList.take (n + 0) ++ List.replicate 0 z ++ cur.toList.drop (n + 0 + (List.replicate 0 z).length)).toArray = cur := by
            show (cur.toList.take n ++ [] ++ cur.toList.drop n).toArray = cur
            rw [List.append_nil, List.take_append_drop]
          rw [hself, setRow_self w g cur e (0, 0) hg]
          simp [Builtin.append_, run_underlying ht, run_underlying htn, sizeOf, typeInfo, zeroValue, hi, hz, asInt, asIntOf, hsize, hnc, storeCells, hw0]
        · have hst2 : (storeCells ⟨g, n, none⟩ (Builtin.zeroCells #[z] k).toList).run P w = .ok () (w.setRow g (cur.toList.take (n + 0) ++ List.replicate k z ++ cur.toList.drop (n + 0 + (List.replicate k z).length)).toArray) := by rw [zeroCells_one]; exact hst
          simp [Builtin.append_, run_underlying ht, run_underlying htn, sizeOf, typeInfo, zeroValue, hi, hz, asInt, asIntOf, hsize, hw, hneg, h48i, hroom, hk, hadd, hzc, hst2]
      · simp; omega
      · have h1 : cur.toList.take n = xs := by simpa using htake
        have h2 := hlen
        simp only [Nat.add_zero, h1]
        rw [← hlen]
        exact List.take_left
    · have holds : ∀ j u, xs[j]? = some u → w.cell? ((⟨g, 0, none⟩ : Addr).add j) = some u := hown.cells (g := g) rfl
      have hold : (Builtin.firstCells i.size n (.slice (some ⟨g, 0, none⟩) n cap)).run P w.drew = .ok xs.toArray w.drew := by
        have hl := run_loadCells_list (P := P) w.drew ⟨g, 0, none⟩ xs holds
        have hx : xs.length = n := by simpa using hown.1
        rw [hsize]
        simp [Builtin.firstCells, ← hx, hl]
      have hr := Lib.run_append_grow_zeros (P := P) w t tn ty e i z .i64 kn ht htn hi hz (some ⟨g, 0, none⟩) n cap xs hold k (by omega) (by omega) (by omega) (by omega) (by omega) (growslice_fits (by omega) hbytes)
      have hgr := grown cap (by omega) (Value.ownBlock (.slice (some ⟨g, 0, none⟩) n cap))
      exact ⟨_, _, hr, hgr.1, hgr.2⟩
end Go.Proofs.Ytmkgddbdkpkgpaa
end
