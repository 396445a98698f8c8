/- MpP, ShI in one. Written by tools/join2.py. -/
import Derived.Test.YtmkgddbdkpkgpaaJS11
import Derived.Maps.OwnSet
import Derived.Maps.Ext
import Derived.Lib.SlKeysI
import Derived.Shelf.SlIterI.Nil
import Derived.Shelf.SlIterI.Sorted
import Derived.Shelf.SortM.Plain
import Derived.Shelf.SortM.SortNone
import Derived.Ground.GgzProg
import Derived.Ground.SlgmProg
import Derived.Shelf.SlGeneric
import Derived.Test.YtmkgddbdkpkgpaaProg
section
namespace Go.Proofs.Ytmkgddbdkpkgpaa
open Go.RowKit Go.Maps
set_option linter.unusedVariables false

abbrev BElt := Elt BlkM 3
/-- An element as the value that the map holds. -/
def vE (e : BElt) : Value := .agg e.cs.toArray
/-- How an element reads: as itself. -/
def blkE (v : Value) : Option (DataW Value × List MemPlace) := some (.held v, [])
def kL (i : Int) : Lit := .int .i64 i
def entE (e : BElt) : Lit × DataW Value := (kL e.m.id, .held (vE e))
def mapD (es : List BElt) : DataW Value := .map (es.map entE)
def idsE (es : List BElt) : List Int := es.map (fun e => e.m.id)
def dropE (es : List BElt) (i : Int) : List BElt := es.filter (fun e => decide (e.m.id ≠ i))
def insE (b : BElt) : List BElt → List BElt
  | [] => [b]
  | x :: l => if x.m.id < b.m.id then x :: insE b l else b :: x :: l
def eltLt (x y : BElt) : Prop := x.m.id < y.m.id
theorem eltLt_map {es : List BElt} : es.Pairwise eltLt ↔ (es.map Elt.m).Pairwise idLt := by rw [List.pairwise_map]; exact Iff.rfl
theorem kL_same (i j : Int) : (kL i).sameKey (kL j) = decide (i = j) := by simp [kL, Lit.sameKey]
theorem kL_before (i j : Int) : (kL i).before (kL j) = decide (i < j) := rfl
theorem idsE_map (es : List BElt) : idsE es = (es.map Elt.m).map BlkM.id := by unfold idsE; rw [List.map_map]; rfl
theorem dropE_map (es : List BElt) (i : Int) : (dropE es i).map Elt.m = withoutL (es.map Elt.m) i := by
  unfold dropE withoutL
  rw [List.filter_map]; rfl
theorem insE_map (b : BElt) : ∀ es : List BElt, (insE b es).map Elt.m = insB b.m (es.map Elt.m)
  | [] => rfl
  | x :: l => by
    unfold insE
    rw [List.map_cons]
    unfold insB
    split <;> simp [insE_map b l]
theorem mem_insE (b x : BElt) : ∀ es : List BElt, x ∈ insE b es ↔ x = b ∨ x ∈ es
  | [] => by simp [insE]
  | y :: l => by
    unfold insE
    split
    · rw [List.mem_cons, mem_insE b x l, List.mem_cons]
      constructor
      · rintro (h | h | h)
        · exact .inr (.inl h)
        · exact .inl h
        · exact .inr (.inr h)
      · rintro (h | h | h)
        · exact .inr (.inl h)
        · exact .inl h
        · exact .inr (.inr h)
    · rw [List.mem_cons]
theorem mem_dropE {es : List BElt} {i : Int} {x : BElt} : x ∈ dropE es i ↔ x ∈ es ∧ x.m.id ≠ i := by unfold dropE; rw [List.mem_filter]; simp
theorem dropE_pair {es : List BElt} (h : es.Pairwise eltLt) (i : Int) : (dropE es i).Pairwise eltLt := h.filter _
theorem insE_last (b : BElt) : ∀ es : List BElt, (∀ x ∈ es, x.m.id < b.m.id) → insE b es = es ++ [b]
  | [], _ => rfl
  | x :: l, h => by
    unfold insE
    rw [if_pos (h x (by simp)), insE_last b l (fun y hy => h y (List.mem_cons_of_mem _ hy))]; rfl
theorem dropE_none {es : List BElt} {i : Int} (h : ∀ x ∈ es, x.m.id ≠ i) : dropE es i = es := by
  unfold dropE
  rw [List.filter_eq_self]
  exact fun x hx => by simpa using h x hx
theorem take_put {es : List BElt} (h : es.Pairwise eltLt) {k : Nat} (hk : k < es.length) : insE es[k] (dropE (es.take k) es[k].m.id) = es.take (k + 1) := by
  have hl : ∀ x ∈ es.take k, x.m.id < es[k].m.id := by
    intro x hx
    obtain ⟨j, hj, rfl⟩ := List.mem_iff_getElem.1 hx
    rw [List.length_take] at hj
    rw [List.getElem_take]
    exact List.pairwise_iff_getElem.1 h j k (by omega) hk (by omega)
  rw [dropE_none (fun x hx => Int.ne_of_lt (hl x hx)), insE_last _ _ hl, List.take_succ_eq_append_getElem hk]
theorem filter_mapD (es : List BElt) (i : Int) : (es.map entE).filter (fun p => !p.1.sameKey (kL i)) = (dropE es i).map entE := by
  unfold dropE
  rw [List.filter_map]
  congr 1
  refine List.filter_congr (fun x _ => ?_)
  show (!(kL x.m.id).sameKey (kL i)) = _
  rw [kL_same]
  simp
theorem insert_mapD (b : BElt) : ∀ es : List BElt, (∀ x ∈ es, x.m.id ≠ b.m.id) → DataW.insert (entE b) (es.map entE) = (insE b es).map entE
  | [], _ => rfl
  | x :: l, h => by
    have hx := h x (by simp)
    rw [List.map_cons]
    unfold DataW.insert insE
    show (if (kL b.m.id).before (kL x.m.id) = true then _ else _) = _
    rw [kL_before]
    by_cases hlt : x.m.id < b.m.id
    · rw [if_pos hlt, if_neg (by simp; omega), insert_mapD b l (fun y hy => h y (List.mem_cons_of_mem _ hy))]; rfl
    · rw [if_neg hlt, if_pos (by simp; omega)]; rfl
theorem put_mapD (b : BElt) (es : List BElt) : (mapD es).put (kL b.m.id) (.held (vE b)) = mapD (insE b (dropE es b.m.id)) := by
  unfold mapD
  rw [DataW.put_eq]
  unfold ChangeMaps.putKey
  have e : (es.map entE).filter (ChangeMaps.notKey (kL b.m.id)) = (dropE es b.m.id).map entE := filter_mapD es b.m.id
  rw [e]
  exact congrArg DataW.map (insert_mapD b _ (fun x hx => (mem_dropE.1 hx).2))
theorem put_last (b : BElt) (es : List BElt) (h : ∀ x ∈ es, x.m.id < b.m.id) : (mapD es).put (kL b.m.id) (.held (vE b)) = mapD (es ++ [b]) := by
  rw [put_mapD, dropE_none (fun x hx => Int.ne_of_lt (h x hx)), insE_last b es h]
theorem del_mapD (es : List BElt) (i : Int) : (mapD es).del (kL i) = mapD (dropE es i) := by
  unfold mapD
  rw [DataW.del_eq]
  exact congrArg DataW.map (filter_mapD es i)
theorem has_mapD (es : List BElt) (i : Int) : Maps.has (mapD es) (kL i) = (es.map Elt.m).any (fun m => decide (m.id = i)) := by
  unfold mapD
  rw [has_eq, List.any_map, List.any_map]
  congr 1
  funext x
  exact kL_same _ _
theorem size_mapD (es : List BElt) : Maps.size (mapD es) = es.length := by simp [mapD, Maps.size]
theorem keys_mapD (es : List BElt) : intKeys (mapD es) = idsE es := by
  show (es.map entE).map (fun p => _root_.Go.intOf p.1) = _
  unfold idsE
  rw [List.map_map]; rfl
theorem find_elt : ∀ {es : List BElt}, es.Pairwise eltLt → ∀ {x : BElt}, x ∈ es → (es.map entE).find? (fun p => p.1.sameKey (kL x.m.id)) = some (entE x)
  | [], _, x, hx => by simp at hx
  | y :: l, h, x, hx => by
    obtain ⟨h1, h2⟩ := List.pairwise_cons.1 h
    rw [List.map_cons]
    rcases List.mem_cons.1 hx with rfl | hx
    · rw [List.find?_cons_of_pos (by show (kL x.m.id).sameKey _ = true; rw [kL_same]; simp)]
    · have : y.m.id < x.m.id := h1 x hx
      rw [List.find?_cons_of_neg (by show ¬ (kL y.m.id).sameKey _ = true; rw [kL_same]; simp; omega)]
      exact find_elt h2 hx
theorem at_mapD {es : List BElt} (h : es.Pairwise eltLt) {x : BElt} (hx : x ∈ es) (z : DataW Value) : (mapD es).atKey (kL x.m.id) z = .held (vE x) := by
  simp [mapD, DataW.atKey, find_elt h hx, entE]
theorem sort_ids {es : List BElt} (h : es.Pairwise eltLt) {ss : List Int} (hs : ss.Perm (intKeys (mapD es))) : ss.mergeSort (fun x y => decide (x ≤ y)) = idsE es := by
  rw [keys_mapD] at hs
  have h1 : ss.mergeSort leI = (idsE es).mergeSort leI := mergeSort_of_perm_i hs
  refine h1.trans (List.mergeSort_of_pairwise ?_)
  unfold idsE
  rw [List.pairwise_map]
  refine h.imp (fun {x y} hxy => ?_)
  have : x.m.id < y.m.id := hxy
  simp only [decide_eq_true_eq]
  omega
end Go.Proofs.Ytmkgddbdkpkgpaa
end

section
namespace Go.Proofs
open Go.Shelf
def Try.keysA_ren : Go.Shelf.Ren := ⟨fun | 7 => 83 | 10 => 90 | n => n, fun | 23 => 73 | 26 => 3 | 3 => 26 | 28 => 92 | 0 => 0 | 27 => 91 | 33 => 68 | 4 => 4 | n => n, fun | n => n⟩
theorem Try.keysA : Go.Proofs.SlLaysZI.n7 Try.prog Try.keysA_ren := {
  mixed := by kernel_rfl
  f7 := ⟨Try.f83.name, by decide, Try.func83.trans (congrArg some (by kernel_rfl))⟩
  f10 := ⟨Try.f90.name, by decide, Try.func90.trans (congrArg some (by kernel_rfl))⟩
  t0 := Try.underlying0
  a0 := Try.isAgg0
  z0 := Try.sizeOf0
  v0 := Try.zeroValue0
  t4 := Try.underlying4
  a4 := Try.isAgg4
  z4 := Try.sizeOf4
  v4 := Try.zeroValue4
  t23 := Try.underlying73
  a23 := Try.isAgg73
  z23 := Try.sizeOf73
  v23 := Try.zeroValue73
  t26 := Try.underlying3
  a26 := Try.isAgg3
  z26 := Try.sizeOf3
  v26 := Try.zeroValue3
  t27 := Try.underlying91
  a27 := Try.isAgg91
  z27 := Try.sizeOf91
  v27 := Try.zeroValue91
  t28 := Try.underlying92
  a28 := Try.isAgg92
  z28 := Try.sizeOf92
  v28 := Try.zeroValue92
  t33 := Try.underlying68
  a33 := Try.isAgg68
  z33 := Try.sizeOf68
  v33 := Try.zeroValue68 }
def Try.sortedA_ren : Go.Shelf.Ren := ⟨fun | 6 => 82 | 8 => 88 | 9 => 89 | 11 => 91 | 13 => 93 | 12 => 92 | 23 => 103 | 24 => 104 | 14 => 94 | 15 => 95 | 16 => 96 | 17 => 97 | 18 => 98 | 19 => 99 | 20 => 100 | 21 => 101 | 22 => 102 | 25 => 105 | 26 => 106 | 27 => 107 | 28 => 108 | 29 => 109 | 30 => 110 | 31 => 111 | n => n, fun | 26 => 3 | 28 => 92 | 24 => 41 | 0 => 0 | 3 => 3 | 37 => 99 | 48 => 109 | 50 => 111 | 4 => 4 | 40 => 102 | 39 => 101 | 45 => 106 | 5 => 5 | 9 => 9 | 51 => 112 | 55 => 116 | 57 => 118 | 58 => 85 | 33 => 68 | n => n, fun | n => n⟩
theorem Try.sortedA : Go.Proofs.SlLaysZI.n6 Try.prog Try.sortedA_ren := {
  mixed := by kernel_rfl
  f6 := ⟨Try.f82.name, by decide, Try.func82.trans (congrArg some (by kernel_rfl))⟩
  f8 := ⟨Try.f88.name, by decide, Try.func88.trans (congrArg some (by kernel_rfl))⟩
  f11 := ⟨Try.f91.name, by decide, Try.func91.trans (congrArg some (by kernel_rfl))⟩
  t0 := Try.underlying0
  a0 := Try.isAgg0
  z0 := Try.sizeOf0
  v0 := Try.zeroValue0
  t24 := Try.underlying41
  a24 := Try.isAgg41
  z24 := Try.sizeOf41
  v24 := Try.zeroValue41
  t26 := Try.underlying3
  a26 := Try.isAgg3
  z26 := Try.sizeOf3
  v26 := Try.zeroValue3
  t28 := Try.underlying92
  a28 := Try.isAgg92
  z28 := Try.sizeOf92
  v28 := Try.zeroValue92
  i26 := by kernel_rfl }
def Try.sortA_ren : Go.Shelf.Ren := ⟨fun | 5 => 89 | 8 => 93 | 7 => 92 | 19 => 103 | 20 => 104 | 10 => 94 | 11 => 95 | 12 => 96 | 13 => 97 | 14 => 98 | 15 => 99 | 16 => 100 | 17 => 101 | 18 => 102 | 30 => 105 | 31 => 106 | 32 => 107 | 33 => 108 | 34 => 109 | 35 => 110 | 40 => 111 | n => n, fun | 23 => 41 | 25 => 3 | 3 => 3 | 32 => 99 | 22 => 41 | 0 => 0 | 44 => 109 | 46 => 111 | 4 => 4 | 36 => 102 | 35 => 101 | 41 => 106 | 5 => 5 | 9 => 9 | 53 => 112 | 57 => 116 | 63 => 118 | 64 => 85 | n => n, fun | n => n⟩
theorem Try.sortA : Go.Proofs.SlLaysM.n5 Try.prog Try.sortA_ren := {
  mixed := by kernel_rfl
  f5 := ⟨Try.f89.name, by decide, Try.func89.trans (congrArg some (by kernel_rfl))⟩
  f7 := ⟨Try.f92.name, by decide, Try.func92.trans (congrArg some (by kernel_rfl))⟩
  f8 := Try.func93.trans (congrArg some (by kernel_rfl))
  f10 := ⟨Try.f94.name, by decide, Try.func94.trans (congrArg some (by kernel_rfl))⟩
  f11 := ⟨Try.f95.name, by decide, Try.func95.trans (congrArg some (by kernel_rfl))⟩
  f12 := ⟨Try.f96.name, by decide, Try.func96.trans (congrArg some (by kernel_rfl))⟩
  f13 := ⟨Try.f97.name, by decide, Try.func97.trans (congrArg some (by kernel_rfl))⟩
  f14 := ⟨Try.f98.name, by decide, Try.func98.trans (congrArg some (by kernel_rfl))⟩
  f15 := ⟨Try.f99.name, by decide, Try.func99.trans (congrArg some (by kernel_rfl))⟩
  f16 := ⟨Try.f100.name, by decide, Try.func100.trans (congrArg some (by kernel_rfl))⟩
  f17 := ⟨Try.f101.name, by decide, Try.func101.trans (congrArg some (by kernel_rfl))⟩
  f18 := ⟨Try.f102.name, by decide, Try.func102.trans (congrArg some (by kernel_rfl))⟩
  f19 := Try.func103.trans (congrArg some (by kernel_rfl))
  f20 := Try.func104.trans (congrArg some (by kernel_rfl))
  f30 := ⟨Try.f105.name, by decide, Try.func105.trans (congrArg some (by kernel_rfl))⟩
  f31 := Try.func106.trans (congrArg some (by kernel_rfl))
  f32 := Try.func107.trans (congrArg some (by kernel_rfl))
  f33 := ⟨Try.f108.name, by decide, Try.func108.trans (congrArg some (by kernel_rfl))⟩
  f34 := ⟨Try.f109.name, by decide, Try.func109.trans (congrArg some (by kernel_rfl))⟩
  f35 := ⟨Try.f110.name, by decide, Try.func110.trans (congrArg some (by kernel_rfl))⟩
  f40 := ⟨Try.f111.name, by decide, Try.func111.trans (congrArg some (by kernel_rfl))⟩
  t0 := Try.underlying0
  a0 := Try.isAgg0
  z0 := Try.sizeOf0
  v0 := Try.zeroValue0
  t3 := Try.underlying3
  a3 := Try.isAgg3
  z3 := Try.sizeOf3
  v3 := Try.zeroValue3
  t4 := Try.underlying4
  a4 := Try.isAgg4
  z4 := Try.sizeOf4
  v4 := Try.zeroValue4
  t5 := Try.underlying5
  a5 := Try.isAgg5
  z5 := Try.sizeOf5
  v5 := Try.zeroValue5
  t9 := Try.underlying9
  a9 := Try.isAgg9
  z9 := Try.sizeOf9
  v9 := Try.zeroValue9
  t22 := Try.underlying41
  a22 := Try.isAgg41
  z22 := Try.sizeOf41
  v22 := Try.zeroValue41
  t23 := Try.underlying41
  a23 := Try.isAgg41
  z23 := Try.sizeOf41
  v23 := Try.zeroValue41
  t25 := Try.underlying3
  a25 := Try.isAgg3
  z25 := Try.sizeOf3
  v25 := Try.zeroValue3
  t32 := Try.underlying99
  a32 := Try.isAgg99
  z32 := Try.sizeOf99
  v32 := Try.zeroValue99
  t35 := Try.underlying101
  a35 := Try.isAgg101
  z35 := Try.sizeOf101
  v35 := Try.zeroValue101
  t36 := Try.underlying102
  a36 := Try.isAgg102
  z36 := Try.sizeOf102
  v36 := Try.zeroValue102
  t41 := Try.underlying106
  a41 := Try.isAgg106
  z41 := Try.sizeOf106
  v41 := Try.zeroValue106
  t44 := Try.underlying109
  a44 := Try.isAgg109
  z44 := Try.sizeOf109
  v44 := Try.zeroValue109
  t46 := Try.underlying111
  a46 := Try.isAgg111
  z46 := Try.sizeOf111
  v46 := Try.zeroValue111
  t53 := Try.underlying112
  a53 := Try.isAgg112
  z53 := Try.sizeOf112
  v53 := Try.zeroValue112
  t57 := Try.underlying116
  a57 := Try.isAgg116
  z57 := Try.sizeOf116
  v57 := Try.zeroValue116
  t63 := Try.underlying118
  a63 := Try.isAgg118
  z63 := Try.sizeOf118
  v63 := Try.zeroValue118
  t64 := Try.underlying85
  a64 := Try.isAgg85
  z64 := Try.sizeOf85
  v64 := Try.zeroValue85 }
end Go.Proofs
end
