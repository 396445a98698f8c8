/- MpB, MpI in one. Written by tools/join2.py. -/
import Derived.Test.YtmkgddbdkpkgpaaJS43
import Derived.Test.YtmkgddbdkpkgpaaJS10
import Derived.Shelf.SlIterI.Nil
import Derived.Shelf.SlIterI.Sorted
import Derived.Shelf.SortM.Plain
import Derived.Shelf.SortM.SortNone
import Derived.Maps.OwnOps
import Derived.Maps.OwnSet
import Derived.Test.YtmkgddbdkpkgpaaJS39
import Derived.Test.YtmkgddbdkpkgpaaJS13
import Derived.Test.YtmkgddbdkpkgpaaJS26
import Derived.Deep.DeepCutAuto
section
namespace Go.Proofs.Ytmkgddbdkpkgpaa
open Go.RowKit Go.Maps Go.Sort Go.Shelf
set_option linter.unusedVariables false
set_option linter.unusedSimpArgs false
set_option maxRecDepth 100000

theorem mapTy : Try.prog.underlying 73 = some (.map 3 26) := by kernel_rfl
theorem intTy : Try.prog.underlying 3 = some (.int .i64) := by kernel_rfl
theorem lawK : Keyed Try.prog 3 := int_keyed intTy
def zeroV : Value := .agg #[.int .i64 0, .int .i64 0, .slice none 0 0]
theorem zeroBK (w : World) : (zeroValue 26).run Try.prog w = .ok zeroV w := by kernel_rfl
/-- Block b is a map that holds the elements es by their Ids. -/
def OwnsB (w : World) (b n : Nat) (es : List BElt) : Prop := w.ownsMap Try.prog 3 blkE b n (mapD es)
theorem OwnsB.made (w : World) : OwnsB (w.alloc (.map #[] 0)) w.heap.size 0 [] := World.ownsMap_made w _ _ _
theorem OwnsB.lt {w : World} {b n : Nat} {es : List BElt} (h : OwnsB w b n es) : b < w.heap.size := World.ownsMap.lt h
theorem OwnsB.mono {w : World} {b n n' : Nat} {es : List BElt} (h : OwnsB w b n es) (k : n ≤ n') : OwnsB w b n' es := World.ownsMap.mono h k
theorem OwnsB.block {w w' : World} {b n : Nat} {es : List BElt} (h : OwnsB w b n es) (k : w'.heap[b]? = w.heap[b]?) : OwnsB w' b n es := by
  obtain ⟨es', clock, hb, F, hs, hD⟩ := h
  exact ⟨es', clock, k.trans hb, F, hs, hD⟩
theorem OwnsB.below {w w' : World} {b n : Nat} {es : List BElt} (h : OwnsB w b n es) (k : Below w.heap.size w w') : OwnsB w' b n es := h.block (k.block b h.lt)
theorem OwnsB.lies {w : World} {b n : Nat} {es : List BElt} (h : OwnsB w b n es) : Lies w b (b + 1) (fun w => OwnsB w b n es) :=
  ⟨h, h.lt, fun w' k => h.block (k b (Nat.le_refl _) (Nat.lt_succ_self _))⟩
def wfZ (i : Int) : Prop := (Lit.int .i64 i).wf = true
theorem wfZ_mk {i : Int} (h : -9223372036854775808 ≤ i ∧ i ≤ 9223372036854775807) : wfZ i := WalkArith.wf_i64 h
theorem keyZ {i : Int} (h : wfZ i) : keyOf Try.prog 3 (.int .i64 i) = some (kL i) := keyOf_int_mk intTy h
section
variable {ops : Array Oper} {rest : List Oper} {o : Oper} {a : Act} {Q : Exit → Act → World → Prop} {w : World} {b n : Nat} {es : List BElt} {i : Int}
/-- 'v, ok := m[i]'. -/
theorem wp_look_ok (hg : o.guard = none) (m x : Operand) (hop : o.op = Op.lookup 73 m x true) (hm : a.eval m = .map (some b)) (hown : OwnsB w b n es) (hx : a.eval x = .int .i64 i) (hw : wfZ i)
    (v : Value) (h : Bool) (hat : (mapD es).atKey (kL i) (.held zeroV) = .held v) (hh : Maps.has (mapD es) (kL i) = h) (hK : wpList Try.prog ops Q rest (a.put o.dst (.tuple #[v, .bool h])) w) : wpList Try.prog ops Q (o :: rest) a w := by
  refine wpList_lookup_own_ok w hg m x _ hop _ _ lawK mapTy blkE (zeroBK w) (.held zeroV) [] rfl b n _ hm hown _ _ hx (keyZ hw) (fun v' ps hv => ?_)
  rw [hat] at hv
  simp only [blkE, Option.some.injEq, Prod.mk.injEq, DataW.held.injEq] at hv
  rw [hv.1, hh]
  exact hK
/-- 'm[i]'. -/
theorem wp_look (hg : o.guard = none) (m x : Operand) (hop : o.op = Op.lookup 73 m x false) (hm : a.eval m = .map (some b)) (hown : OwnsB w b n es) (hx : a.eval x = .int .i64 i) (hw : wfZ i)
    (v : Value) (hat : (mapD es).atKey (kL i) (.held zeroV) = .held v) (hK : wpList Try.prog ops Q rest (a.put o.dst v) w) : wpList Try.prog ops Q (o :: rest) a w := by
  refine wpList_plain hg fun K' hK' => ?_
  obtain ⟨v', ps, hrun, hv⟩ := World.ownsMap.lookup hown lawK mapTy (zeroBK w) (zd := .held zeroV) (zp := []) rfl (keyZ hw)
  rw [hat] at hv
  simp only [blkE, Option.some.injEq, Prod.mk.injEq, DataW.held.injEq] at hv
  rw [hv.1] at hrun
  unfold Oper.wp
  simp [execOp, hop, hm, hx, hrun, Result.andThen]
  exact hK' _ _ hK
/-- 'm[i] = v'. -/
theorem wp_store (hg : o.guard = none) (m x y : Operand) (hop : o.op = Op.mapUpdate 73 m x y) (hm : a.eval m = .map (some b)) (hown : OwnsB w b n es) (hn : n ≤ 1000) (e : BElt) (zi : Int) (v : Value) (hzi : e.m.id = zi) (hve : vE e = v) (hx : a.eval x = .int .i64 zi) (hv : a.eval y = v) (hw : wfZ zi)
    (hK : ∀ w', OwnsB w' b (n + 1) (insE e (dropE es e.m.id)) → w.grownBy w' (some b) → wpList Try.prog ops Q rest (a.put o.dst undef) w') : wpList Try.prog ops Q (o :: rest) a w := by
  subst hzi hve
  exact wpList_mapUpdate_own w hg m x y _ hop _ _ lawK mapTy blkE b n _ hm hown (by unfold maxLen; omega) _ _ _ hx hv (keyZ hw) (.held (vE e)) [] rfl (fun w' h1 h2 => hK w' (by unfold OwnsB; rw [← put_mapD]; exact h1) h2)
/-- 'delete(m, i)'. -/
theorem wp_delete (hg : o.guard = none) (m x : Operand) (hop : o.op = Op.call { callee := Callee.builtin Builtin.delete, args := #[m, x], argTypes := #[73, 3] }) (hm : a.eval m = .map (some b)) (hown : OwnsB w b n es) (hx : a.eval x = .int .i64 i) (hw : wfZ i)
    (hK : ∀ w', OwnsB w' b n (dropE es i) → w.grownBy w' (some b) → wpList Try.prog ops Q rest (a.put o.dst (.tuple #[])) w') : wpList Try.prog ops Q (o :: rest) a w :=
  wpList_delete_own w hg m x _ _ hop _ lawK mapTy blkE b n _ hm hown _ _ hx (keyZ hw) (fun w' h1 h2 => hK w' (by unfold OwnsB; rw [← del_mapD]; exact h1) h2.grown)
/-- 'len(m)'. -/
theorem wp_lenB (hg : o.guard = none) (m : Operand) (hop : o.op = Op.call { callee := Callee.builtin Builtin.len, args := #[m], argTypes := #[73] }) (hm : a.eval m = .map (some b)) (hown : OwnsB w b n es)
    (hK : wpList Try.prog ops Q rest (a.put o.dst (.int .i64 es.length)) w) : wpList Try.prog ops Q (o :: rest) a w :=
  wpList_len_own w hg m _ hop _ _ mapTy blkE b n _ hm hown (by rw [size_mapD]; exact hK)
end
theorem sortsA (m : Nat) : AnyZI.SortsIn Try.prog Try.sortedA_ren Fence.wide m :=
  ⟨fun blk off cap ss W hH hblk hsz => callsIn_wide.2 (AnyM.slices_Sort_int Try.sortA blk off cap ss W hH hblk hsz),
   fun p cap W => callsIn_wide.2 (AnyM.slices_Sort_int_none Try.sortA p cap W)⟩
set_option maxHeartbeats 1000000 in
theorem sortedKeys (b nn : Nat) (D0 : DataW Value) (R : Value → Option (DataW Value × List MemPlace)) (w : World) (hown : w.ownsMap Try.prog 3 R b nn D0) (hmax : Maps.size D0 ≤ maxLen) (hbytes : Maps.size D0 * 8 ≤ 140737488355328) :
    Calls Try.prog 75 #[.map (some b)] w fun e w' => ∃ (v : Value) (ss : List Int), e = .returned v ∧ ss.Perm (intKeys D0) ∧
      w'.ownsRow w.heap.size 3 1 v ss.length ((ss.mergeSort (fun x y => decide (x ≤ y))).map encZ) ∧ (v = .slice none 0 0 ↔ ss = []) ∧ Below w.heap.size w w' := by
  refine (callsIn_wide (n := 6)).1 ?_
  have hbl := hown.lt
  have hseq : SeqGives Fence.wide 2 Try.prog 90 #[.pointer (some ⟨w.heap.size, 0, none⟩)] encZ (fun ss => ss.Perm (intKeys D0)) (Maps.size D0) (w.alloc (.cells #[.map (some b)] 73)) :=
    AnyZI.keys_gives (ρ := Try.keysA_ren) { Try.keysA with } Fence.wide _ trivial rfl (by omega) w.heap.size b nn D0 _ (by simp) (by simp) (by
      obtain ⟨es, clock, hb, Ft, hs, hD⟩ := hown
      exact ⟨es, clock, (Below.heap_alloc _ _ b hbl).trans hb, Ft, hs, hD⟩)
  have cK : ∀ mb W, CallsIn Fence.wide 5 Try.prog 83 #[.map mb] W fun e w' => e = .returned (.func (.func 90) #[] #[.pointer (some ⟨W.heap.size, 0, none⟩)]) ∧ w' = W.alloc (.cells #[.map mb] 73) := fun mb W => AnyZI.keys_in Try.keysA Fence.wide 5 trivial rfl mb W
  have cS := AnyZI.sorted_in Try.sortedA Fence.wide 5 trivial trivial trivial trivial rfl (by omega) (sortsA _) (enters_of Try.func89 (by kernel_rfl) rfl) 90 #[.pointer (some ⟨w.heap.size, 0, none⟩)] trivial (enters_of Try.func90 (by kernel_rfl) rfl) _ _ hmax hbytes _ hseq
  change CallsIn _ _ Try.prog 82 _ _ _ at cS
  have hfK : Fence.wide.fn 83 := trivial
  have hfS : Fence.wide.fn 82 := trivial
  refine callsIn_of_wp Try.func75 rfl trivial ?_ rfl
  simp only [Try.ntmps75, List.size_toArray, List.length_cons, List.length_nil, Nat.reduceAdd, Nat.reduceSub, Array.replicate_succ, Array.replicate_zero, List.push_toArray, List.append_toArray, List.nil_append, List.cons_append]
  gi_wp2_with (first
    | (gi_at_call 83; refine (cK _ _).mono ?_; rintro e w' ⟨rfl, rfl⟩)
    | (gi_at_call 82; refine cS.mono ?_; rintro e w' ⟨v, ss, rfl, hS, hrow, hnil, hb⟩))
  go_ret
  exact ⟨v, ss, rfl, hS, ownsRow_base_a hrow (by simp), hnil, ((Below.refl _ w).alloc (Nat.le_refl _) _).trans (hb.mono (by simp))⟩
theorem implSortedIds {es : List BElt} (hp : es.Pairwise eltLt) (hl : es.length ≤ 1000) {b nn : Nat} {w : World} (hown : OwnsB w b nn es) :
    Calls Try.prog 75 #[.map (some b)] w fun e w' => ∃ (a : Option Addr) (cap : Nat), e = .returned (.slice a es.length cap) ∧ w'.ownsRow w.heap.size 3 1 (.slice a es.length cap) es.length ((idsE es).map encZ) ∧ Below w.heap.size w w' := by
  refine (sortedKeys b nn _ _ w hown (by rw [size_mapD]; unfold maxLen; omega) (by rw [size_mapD]; omega)).mono ?_
  rintro e w' ⟨v, ss, rfl, hS, hrow, _, hb⟩
  have hlen : ss.length = es.length := by rw [hS.length_eq, keys_mapD]; unfold idsE; simp
  rw [sort_ids hp hS, hlen] at hrow
  rcases hrow.2 with ⟨hv, hn⟩ | ⟨g, cap, cur, hv, _⟩
  · subst hv
    rw [hn] at hrow ⊢
    exact ⟨none, 0, rfl, hrow, hb⟩
  · subst hv
    exact ⟨_, cap, rfl, hrow, hb⟩
end Go.Proofs.Ytmkgddbdkpkgpaa
end

section
namespace Go.Proofs.Ytmkgddbdkpkgpaa
open Go.RowKit Go.Maps
set_option linter.unusedVariables false
set_option linter.unusedSimpArgs false
set_option maxRecDepth 100000

theorem blk_cs {e : BElt} {w : World} (h : BlockIn e.cs e.m w) : ∃ x z, e.cs = [.int .i64 e.m.id, .int .i64 e.m.leaf, .slice x e.m.data.length z] := by
  obtain ⟨c, hc, hb⟩ := h
  obtain ⟨a, cap, rfl, _⟩ := byteSIn_shape hb
  exact ⟨a, cap, hc⟩
set_option maxHeartbeats 2000000 in
theorem implBlocksById (aa : Option Addr) (capa : Nat) (es : List BElt) (w : World) (hcap : es.length ≤ capa) (hl : es.length ≤ 200) (hp : es.Pairwise eltLt) (hw : ∀ e ∈ es, wfZ e.m.id) (r : Row w aa (flatG eltL es)) (hin : ∀ e ∈ es, BlockIn e.cs e.m w) :
    Calls Try.prog 54 #[.slice aa es.length capa] w fun e w' => ∃ b, e = .returned (.map (some b)) ∧ w.heap.size ≤ b ∧ OwnsB w' b es.length es ∧ Below w.heap.size w w' := by
  have EL := Lib.hid (show ∀ k (hk : k < es.length), ∃ b off x z, aa = some ⟨b, off, none⟩ ∧ w.cell? ⟨b, off + k * 3, none⟩ = some (.int .i64 es[k].m.id) ∧ w.cell? ⟨b, off + k * 3 + 1, none⟩ = some (.int .i64 es[k].m.leaf) ∧ w.cell? ⟨b, off + k * 3 + 2, none⟩ = some (.slice x es[k].m.data.length z) ∧ vE es[k] = .agg #[.int .i64 es[k].m.id, .int .i64 es[k].m.leaf, .slice x es[k].m.data.length z] ∧ wfZ es[k].m.id from fun k hk => by
    obtain ⟨b, off, rfl, hc⟩ := r.elt (by decide) hk
    obtain ⟨x, z, hcs⟩ := blk_cs (hin _ (List.getElem_mem hk))
    rw [hcs] at hc
    exact ⟨b, off, x, z, rfl, hc 0 (by decide), hc 1 (by decide), hc 2 (by decide), by unfold vE; rw [hcs], hw _ (List.getElem_mem hk)⟩)
  have TP := Lib.hid (fun k (hk : k < es.length) => take_put hp hk)
  have hmm : (Instr.makeMap 73 (some (.int .i64 (es.length : Int)))).run Try.prog w = .ok (.map (some w.heap.size)) (w.alloc (.map #[] 0)) := by
    simp [Instr.makeMap, run_underlying mapTy, run_underlying intTy, asInt, asIntOf, Result.andThen]
  have S0 := Lib.hid (show OwnsB (w.alloc (.map #[] 0)) w.heap.size 0 (es.take 0) ∧ Below w.heap.size w (w.alloc (.map #[] 0)) from ⟨by rw [List.take_zero]; exact OwnsB.made w, below_box (Below.refl _ _) _⟩)
  clear r hin hw hp
  go_enter Try.func54, Try.ntmps54
  go_wp2_with fail
  go_loopg [11] es.length (fun kk iv wr => ∃ k : Nat, k ≤ es.length ∧ es.length - k = kk ∧ iv = .int .i64 k ∧ Hid (OwnsB wr w.heap.size k (es.take k) ∧ Below w.heap.size w wr))
  case atStart => exact ⟨0, Nat.zero_le _, rfl, rfl, S0⟩
  case round =>
    clear S0 hmm
    obtain ⟨k, hk, hkk, rfl, S⟩ := hrel
    by_cases hlt : k < es.length
    · have hltI : (k : Int) < (es.length : Int) := by omega
      have hk0 : (0 : Int) ≤ (k : Int) := by omega
      have TK := Lib.hid (TP.out k hlt)
      obtain ⟨b, off, x, z, hab, q0, q1, q2, qv, qw⟩ := EL.out k hlt
      subst hab
      have t0 := cell_keep q0 S.out.2
      have t1 := cell_keep q1 S.out.2
      have t2 := cell_keep q2 S.out.2
      have hsz := S.out.2.size
      obtain ⟨el, hel⟩ : ∃ e, es[k] = e := ⟨_, rfl⟩
      rw [hel] at TK t0 t1 t2 qv qw
      obtain ⟨zi, hzi⟩ : ∃ z, el.m.id = z := ⟨_, rfl⟩
      obtain ⟨zf, hzf⟩ : ∃ z, el.m.leaf = z := ⟨_, rfl⟩
      obtain ⟨dn, hdn⟩ : ∃ n, el.m.data.length = n := ⟨_, rfl⟩
      rw [hzi] at t0 qv qw
      rw [hzf] at t1 qv
      rw [hdn] at t2 qv
      have BX := below_box (Below.refl wr.heap.size wr) (.cells #[.int .i64 zi, .int .i64 zf, .slice x dn z] 26)
      have OW := Lib.hid (S.out.1.below BX)
      have BW := Lib.hid (below_seq S.out.2 BX)
      have QV := Lib.hid (And.intro qv (And.intro qw hzi))
      clear q0 q1 q2 qv qw hel hzi hzf hdn S BX
      go_wp2_with (at_mapUpdate; go_must (refine wp_store rfl _ _ _ rfl (b := w.heap.size) rfl OW.out (by omega) el zi _ QV.out.2.2 QV.out.1 rfl rfl QV.out.2.1 ?_); intro w5 ho5 hg5)
      rw [TK.out] at ho5
      have Z := Lib.hid (And.intro ho5 (below_write BW.out hg5 (Nat.le_refl _)))
      clear ho5 hg5 OW BW QV
      go_wp2
      go_roundg (es.length - (k + 1))
      case measure => omega
      case rel => exact ⟨k + 1, by omega, rfl, by go_num, Z⟩
    · have hge : ¬ (k : Int) < (es.length : Int) := by omega
      have hkl : k = es.length := by omega
      subst hkl
      have Z := S.out
      rw [List.take_length] at Z
      have ZZ := Lib.hid Z
      clear Z S
      go_wp2
      go_ret
      exact ⟨_, rfl, Nat.le_refl _, ZZ.out.1, ZZ.out.2⟩
set_option maxHeartbeats 2000000 in
theorem implInOrder {b nn : Nat} {es : List BElt} {w : World} (hown : OwnsB w b nn es) (hl : es.length ≤ 200) (hp : es.Pairwise eltLt) (hw : ∀ e ∈ es, wfZ e.m.id) (hin : ∀ e ∈ es, BlockIn e.cs e.m w) (hd : ∀ e ∈ es, e.m.data.length ≤ 4000000) :
    Calls Try.prog 55 #[.map (some b)] w (BlockSRet (es.map Elt.m) w) := by
  have SI := Lib.hid (implSortedIds hp (by omega) hown)
  have EL := Lib.hid (show ∀ k (hk : k < es.length), ∃ x z, (mapD es).atKey (kL es[k].m.id) (.held zeroV) = .held (.agg #[.int .i64 es[k].m.id, .int .i64 es[k].m.leaf, .slice x es[k].m.data.length z]) ∧ BlockIn [.int .i64 es[k].m.id, .int .i64 es[k].m.leaf, .slice x es[k].m.data.length z] es[k].m w ∧ wfZ es[k].m.id ∧ es[k].m.data.length ≤ 4000000 from fun k hk => by
    have hm := List.getElem_mem hk
    have h1 := hin _ hm
    obtain ⟨x, z, hcs⟩ := blk_cs h1
    rw [hcs] at h1
    refine ⟨x, z, ?_, h1, hw _ hm, hd _ hm⟩
    rw [at_mapD hp hm]
    unfold vE
    rw [hcs])
  have OW := Lib.hid hown
  have hlt := hown.lt
  clear hown hin hw hd hp
  go_enter Try.func55, Try.ntmps55
  go_wp2_with fail
  refine SI.out.mono ?_
  rintro e w1 ⟨ar, cr, rfl, hro, hb1⟩
  have B1 := Lib.hid hb1
  have RO := Lib.hid (Row.of_own hro)
  have OW1 := Lib.hid (OW.out.below hb1)
  have S0 := Lib.hid (show ∃ (es' : List BElt) (F : Nat → Foot), es'.length = 0 ∧ es'.map Elt.m = (es.map Elt.m).take 0 ∧ NRow BlockO 26 3 w1.heap.size none 0 es' F w1 ∧ Below w1.heap.size w1 w1 from ⟨[], fun _ _ => False, rfl, by simp, NRow.none _ _ _, Below.refl _ w1⟩)
  clear hro hb1 SI OW
  go_wp2_with fail
  go_loopg [3, 9] es.length (fun kk ov iv wr => ∃ (k co : Nat) (ao : Option Addr), k ≤ es.length ∧ es.length - k = kk ∧ ov = .slice ao k co ∧ iv = .int .i64 k ∧ Hid (∃ (es' : List BElt) (F : Nat → Foot), es'.length = k ∧ es'.map Elt.m = (es.map Elt.m).take k ∧ NRow BlockO 26 3 w1.heap.size ao co es' F wr ∧ Below w1.heap.size w1 wr))
  case atStart => exact ⟨0, 0, none, Nat.zero_le _, rfl, rfl, rfl, S0⟩
  case round =>
    clear S0
    obtain ⟨k, co, ao, hk, hkk, rfl, rfl, S⟩ := hrel
    by_cases hltk : k < es.length
    · have hltI : (k : Int) < (es.length : Int) := by omega
      have hk0 : (0 : Int) ≤ (k : Int) := by omega
      obtain ⟨es', F, e1, e2, e3, e4⟩ := S.out
      obtain ⟨g, og, hg, hc⟩ := ((lies_row RO.out).below e4).now.at (i := k) (by unfold idsE; simpa using hltk)
      subst hg
      have c0 : wr.cell? ⟨g, og + k, none⟩ = some (.int .i64 es[k].m.id) := by
        rw [hc]
        unfold idsE
        simp [hltk]
      obtain ⟨x, z, qa, qi, qw, SK⟩ := EL.out k hltk
      have ti := block_rdg.below (block_rdg.below qi B1.out) e4
      have OW := Lib.hid (OW1.out.below e4)
      have TE := Lib.hid (show (es.map Elt.m).take (k + 1) = (es.map Elt.m).take k ++ [es[k].m] by rw [List.take_succ_eq_append_getElem (by simpa using hltk)]; simp)
      obtain ⟨m, hm⟩ : ∃ m, es[k].m = m := ⟨_, rfl⟩
      rw [hm] at c0 qa ti qw SK TE
      have hsz := e4.size
      have PU := Lib.hid (fun w3 g3 c2 ho h2 v5 w5 ho5 hg5 => NRow.push (w3 := w3) (v5 := v5) (w5 := w5) (c2 := c2) (r := m) e3 e4 g3 ho h2 ho5 hg5)
      have ROW := Lib.hid (fun w' (hb : Below wr.heap.size wr w') => (e3.below block_ong hb).row)
      rw [e1] at ROW
      rw [e1, e2, ← TE.out] at PU
      have CL := Lib.hid (implClone _ _ _ m _ ti SK)
      have QW := Lib.hid (And.intro qa qw)
      have BW := Lib.hid e4
      obtain ⟨dn, hdn⟩ : ∃ dn, m.data.length = dn := ⟨_, rfl⟩
      obtain ⟨zi, hzi⟩ : ∃ z, m.id = z := ⟨_, rfl⟩
      obtain ⟨zf, hzf⟩ : ∃ z, m.leaf = z := ⟨_, rfl⟩
      rw [hzi, hzf] at PU CL QW
      rw [hdn] at CL QW
      rw [hzi] at c0
      clear hm hc qa qw qi ti SK TE S e1 e2 e3 e4 hdn hzi hzf
      go_wp2_with (first
        | (at_lookup; go_must (refine wp_look rfl _ _ rfl (b := b) rfl OW.out rfl QW.out.2 _ QW.out.1 ?_)))
      refine CL.out.mono ?_
      rintro e w3 ⟨a, cc, rfl, ho, hb⟩
      have R3 := Lib.hid (ROW.out _ (below_seq hb (below_box (Below.refl w3.heap.size w3) (.cells #[.int .i64 zi, .int .i64 zf, .slice a dn cc] 26))))
      have HO := Lib.hid ho
      have G3 := Lib.hid hb
      have hs3 : w1.heap.size ≤ w3.heap.size := Nat.le_trans hsz hb.size
      clear ho hb CL ROW OW QW
      go_wp2_with (at_builtin; go_must (refine wp_app_rowS rfl _ _ 24 rfl 26 _ 3 40 Try.underlying24 Try.infoBlk rfl (by omega) w1.heap.size k (.slice ao k co) _ (by rfl) R3.out (some ⟨w3.heap.size, 0, none⟩) 1 1 [.int .i64 zi, .int .i64 zf, .slice a dn cc] (by rfl) rfl (lit_rowB w3 [.int .i64 zi, .int .i64 zf, .slice a dn cc] 26) (by intro u hu; simp at hu; rcases hu with rfl | rfl | rfl <;> rfl) (by unfold maxLen; omega) (by omega) (by simp; omega) ?_); intro v5 w5 ho5 hg5)
      obtain ⟨a5, c5, rfl, Z0⟩ := PU.out w3 G3.out _ HO.out rfl v5 w5 ho5 hg5
      have Z := Lib.hid Z0
      clear Z0 ho5 hg5 PU R3 HO G3
      go_wp2
      go_roundg (es.length - (k + 1))
      case measure => omega
      case rel => exact ⟨k + 1, c5, a5, by omega, rfl, by go_num, by go_num, Z⟩
    · have hge : ¬ (k : Int) < (es.length : Int) := by omega
      have hkl : k = es.length := by omega
      subst hkl
      obtain ⟨es', F, e1, e2, e3, e4⟩ := S.out
      rw [List.take_of_length_le (by simp)] at e2
      have BO := nrow_own e3
      rw [e2, e1] at BO
      have Z := Lib.hid (And.intro (BO.wide B1.out.size (Nat.le_refl _)) (below_seq B1.out e4))
      clear S e1 e2 e3 e4 BO EL OW1 RO B1
      go_wp2
      go_ret
      exact ⟨_, rfl, Z.out.1, Z.out.2⟩
end Go.Proofs.Ytmkgddbdkpkgpaa
end
