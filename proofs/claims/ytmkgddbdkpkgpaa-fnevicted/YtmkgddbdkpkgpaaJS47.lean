/- MpK, StI in one. Written by tools/join2.py. -/
import Derived.Test.YtmkgddbdkpkgpaaJS46
import Derived.Test.YtmkgddbdkpkgpaaJS42
import Derived.Test.YtmkgddbdkpkgpaaJS26
import Derived.Test.YtmkgddbdkpkgpaaJS45
section
namespace Go.Proofs.Ytmkgddbdkpkgpaa
open Go.RowKit Go.Maps
set_option linter.unusedVariables false
set_option linter.unusedSimpArgs false
set_option maxRecDepth 100000

theorem blockOkB_leaf {m : BlkM} {z v : Int} (h : blockOkB m z v = true) : -9223372036854775808 ≤ m.leaf ∧ m.leaf ≤ 9223372036854775807 := by
  unfold blockOkB at h
  simp only [Bool.and_eq_true] at h
  obtain ⟨g', a', _, e2, hg', ha'⟩ := leafB_ok h.2.2.2.1
  have := pow_64 hg'
  omega
theorem blockOkB_wfK {m : BlkM} {z v : Int} (h : blockOkB m z v = true) : wfZ m.id := by
  unfold blockOkB at h
  simp only [Bool.and_eq_true, decide_eq_true_eq] at h
  exact wfZ_mk (by omega)
/-- What both calls have: the map of the blocks, and the eviction. -/
structure EvHave (aa : Option Addr) (capa : Nat) (es : List BElt) (l : List BlkM) (z v : Int) (g a : Nat) (w : World) : Prop where
  rows : es.map Elt.m = l
  len : es.length = l.length
  le : l.length ≤ 128
  map : ∀ w', Below w.heap.size w w' → Calls Try.prog 54 #[.slice aa l.length capa] w' fun e w'' => ∃ b, e = .returned (.map (some b)) ∧ w'.heap.size ≤ b ∧ OwnsB w'' b es.length es ∧ Below w'.heap.size w' w''
  evict : ∀ b w', Below w.heap.size w w' → OwnsB w' b es.length es → Calls Try.prog 61 #[.map (some b), .int .i64 g, .int .i64 a] w' (EvPost g a es b es.length w')
  order : ∀ b rs w', Below w.heap.size w w' → OwnsB w' b es.length rs → rs.Pairwise eltLt → (∀ e ∈ rs, e ∈ es) → rs.length ≤ es.length → Calls Try.prog 55 #[.map (some b)] w' (BlockSRet (rs.map Elt.m) w')
theorem evHave {aa : Option Addr} {capa : Nat} {es : List BElt} {l : List BlkM} {z v : Int} {g a : Nat} {w : World} (hcap : l.length ≤ capa) (hes : es.length = l.length) (r1 : Row w aa (flatG eltL es)) (r2 : es.map Elt.m = l) (r3 : ∀ e ∈ es, BlockIn e.cs e.m w) (hok : stashOkB l z v = true) (hg : g ≤ 6) (ha : a < 2 ^ g) (hs : szBlockS l ≤ 1048576) : EvHave aa capa es l z v g a w := by
  obtain ⟨s1, s2, s3, s4⟩ := stashOkB_iff.1 hok
  have hp : es.Pairwise eltLt := by rw [eltLt_map, r2]; exact s4
  have hb : ∀ e ∈ es, blockOkB e.m z v = true := fun e he => s3 _ (by rw [← r2]; exact List.mem_map_of_mem he)
  have hd : ∀ e ∈ es, e.m.data.length ≤ 4000000 := fun e he => by
    have hm : e.m ∈ l := by rw [← r2]; exact List.mem_map_of_mem he
    obtain ⟨k, hk, hk2⟩ := List.mem_iff_getElem.1 hm
    rw [← hk2]
    have h1 := sumD_snoc l k hk
    have h2 := sumD_part l (k + 1)
    unfold szBlockS at hs
    omega
  have p6 := pow_64 hg
  refine ⟨r2, hes, s1, fun w' hw => ?_, fun b w' hw ho => ?_, fun b rs w' hw ho hp' hsub hle => ?_⟩
  · rw [← hes]
    exact implBlocksById aa capa es w' (by omega) (by omega) hp (fun e he => blockOkB_wfK (hb e he)) ((lies_row r1).below hw).now (fun e he => block_rdg.below (r3 e he) hw)
  · exact implEvict ho (by omega) hp (fun e he => blockOkB_wfK (hb e he)) (fun e he => block_rdg.below (r3 e he) hw) (fun e he => blockOkB_leaf (hb e he)) hg (by omega)
  · exact implInOrder ho (by omega) hp' (fun e he => blockOkB_wfK (hb e (hsub e he))) (fun e he => block_rdg.below (r3 e (hsub e he)) hw) (fun e he => hd e (hsub e he))
set_option maxHeartbeats 1000000 in
theorem uImplEvictPlan (c : Value) (l : List BlkM) (z v leaf : Int) (w : World) (h : BlockSIn [c] l w) (b1 : -9223372036854775808 ≤ z ∧ z ≤ 9223372036854775807) (b2 : -9223372036854775808 ≤ v ∧ v ≤ 9223372036854775807) (b3 : -9223372036854775808 ≤ leaf ∧ leaf ≤ 9223372036854775807) (hs : szBlockS l ≤ 1048576) : Calls Try.prog 21 #[c, .int .i64 z, .int .i64 v, .int .i64 leaf] w (PutSRet (planZ l z v leaf) w) := by
  have OK := Lib.hid (uImplStashOk c l z v w h)
  have LF := Lib.hid (fun w => implLeafOk z leaf w)
  obtain ⟨aa, capa, es, rfl, hcap, hmax, hes, r1, r2, r3⟩ := blockSIn_shape h
  clear h
  cases hok : stashOkB l z v
  · have E := Lib.hid (planZ_no (leaf := leaf) (show planB l z v leaf = false by unfold planB; rw [hok]; rfl))
    rw [hok] at OK
    clear hok r1 r2 r3
    go_enter Try.func21, Try.ntmps21
    go_wp2_with fail
    refine OK.out.mono ?_
    rintro e w1 ⟨rfl, hb⟩
    have B := Lib.hid hb
    clear hb OK
    go_wp2
    go_ret
    exact ⟨_, rfl, by rw [E.out]; exact PutSOwn.nil _ _ _, B.out⟩
  cases hlf : leafB z leaf
  · have E := Lib.hid (planZ_no (leaf := leaf) (show planB l z v leaf = false by unfold planB; rw [hlf, Bool.and_false]))
    rw [hok] at OK
    rw [hlf] at LF
    clear hok hlf r1 r2 r3
    go_enter Try.func21, Try.ntmps21
    go_wp2_with fail
    refine OK.out.mono ?_
    rintro e w1 ⟨rfl, hb⟩
    have B := Lib.hid hb
    clear hb OK
    go_wp2_with fail
    refine (LF.out _).mono ?_
    rintro e w1 ⟨rfl, rfl⟩
    go_wp2
    go_ret
    exact ⟨_, rfl, by rw [E.out]; exact PutSOwn.nil _ _ _, B.out⟩
  obtain ⟨g, a, rfl, rfl, hg, ha⟩ := leafB_ok hlf
  have E := Lib.hid (show planZ l g v a = (evAll (evF g a) g l (g + 1)).out by unfold planZ planB; rw [hok, hlf, Int.toNat_natCast]; rfl)
  have H := Lib.hid (evHave hcap hes r1 r2 r3 hok hg ha hs)
  rw [hok] at OK
  rw [hlf] at LF
  clear hok hlf r1 r2 r3 hcap hs
  go_enter Try.func21, Try.ntmps21
  go_wp2_with fail
  refine OK.out.mono ?_
  rintro e w1 ⟨rfl, hb⟩
  have B := Lib.hid hb
  clear hb OK
  go_wp2_with fail
  refine (LF.out _).mono ?_
  rintro e w1 ⟨rfl, rfl⟩
  go_wp2_with fail
  refine (H.out.map _ B.out).mono ?_
  rintro e w2 ⟨b, rfl, hbb, ho, hb⟩
  have hwb : w.heap.size ≤ b := Nat.le_trans B.out.size hbb
  have B2 := Lib.hid (below_seq B.out hb)
  have EV := Lib.hid (H.out.evict b w2 B2.out ho)
  clear ho hb
  go_wp2_with fail
  refine EV.out.mono ?_
  rintro e w3 ⟨r, rs, rfl, hpu, _, _, _, _, _, hch⟩
  rw [H.out.rows] at hpu
  have Z := Lib.hid (And.intro (hpu.wide B2.out.size (Nat.le_refl _)) (Chg.below B2.out hch hwb))
  clear hpu hch
  obtain ⟨a3, n3, c3, rfl⟩ := Z.out.1.shape
  go_wp2
  go_ret
  exact ⟨_, rfl, by rw [E.out]; exact Z.out.1, Z.out.2⟩
set_option maxHeartbeats 1000000 in
theorem uImplEvictRest (c : Value) (l : List BlkM) (z v leaf : Int) (w : World) (h : BlockSIn [c] l w) (b1 : -9223372036854775808 ≤ z ∧ z ≤ 9223372036854775807) (b2 : -9223372036854775808 ≤ v ∧ v ≤ 9223372036854775807) (b3 : -9223372036854775808 ≤ leaf ∧ leaf ≤ 9223372036854775807) (hs : szBlockS l ≤ 1048576) : Calls Try.prog 25 #[c, .int .i64 z, .int .i64 v, .int .i64 leaf] w (BlockSRet (restZ l z v leaf) w) := by
  have OK := Lib.hid (uImplStashOk c l z v w h)
  have LF := Lib.hid (fun w => implLeafOk z leaf w)
  obtain ⟨aa, capa, es, rfl, hcap, hmax, hes, r1, r2, r3⟩ := blockSIn_shape h
  clear h
  cases hok : stashOkB l z v
  · have E := Lib.hid (restZ_no (leaf := leaf) (show planB l z v leaf = false by unfold planB; rw [hok]; rfl))
    rw [hok] at OK
    clear hok r1 r2 r3
    go_enter Try.func25, Try.ntmps25
    go_wp2_with fail
    refine OK.out.mono ?_
    rintro e w1 ⟨rfl, hb⟩
    have B := Lib.hid hb
    clear hb OK
    go_wp2
    go_ret
    exact ⟨_, rfl, by rw [E.out]; exact BlockSOwn.nil _ _ _, B.out⟩
  cases hlf : leafB z leaf
  · have E := Lib.hid (restZ_no (leaf := leaf) (show planB l z v leaf = false by unfold planB; rw [hlf, Bool.and_false]))
    rw [hok] at OK
    rw [hlf] at LF
    clear hok hlf r1 r2 r3
    go_enter Try.func25, Try.ntmps25
    go_wp2_with fail
    refine OK.out.mono ?_
    rintro e w1 ⟨rfl, hb⟩
    have B := Lib.hid hb
    clear hb OK
    go_wp2_with fail
    refine (LF.out _).mono ?_
    rintro e w1 ⟨rfl, rfl⟩
    go_wp2
    go_ret
    exact ⟨_, rfl, by rw [E.out]; exact BlockSOwn.nil _ _ _, B.out⟩
  obtain ⟨g, a, rfl, rfl, hg, ha⟩ := leafB_ok hlf
  have E := Lib.hid (show restZ l g v a = (evAll (evF g a) g l (g + 1)).rest by
    have e2 := evRest_eq (evF g a) g l
    unfold evRest evOut at e2
    rw [e2]
    unfold restZ planZ planB; rw [hok, hlf, Int.toNat_natCast]; rfl)
  have H := Lib.hid (evHave hcap hes r1 r2 r3 hok hg ha hs)
  rw [hok] at OK
  rw [hlf] at LF
  clear hok hlf r1 r2 r3 hcap hs
  go_enter Try.func25, Try.ntmps25
  go_wp2_with fail
  refine OK.out.mono ?_
  rintro e w1 ⟨rfl, hb⟩
  have B := Lib.hid hb
  clear hb OK
  go_wp2_with fail
  refine (LF.out _).mono ?_
  rintro e w1 ⟨rfl, rfl⟩
  go_wp2_with fail
  refine (H.out.map _ B.out).mono ?_
  rintro e w2 ⟨b, rfl, hbb, ho, hb⟩
  have hwb : w.heap.size ≤ b := Nat.le_trans B.out.size hbb
  have B2 := Lib.hid (below_seq B.out hb)
  have EV := Lib.hid (H.out.evict b w2 B2.out ho)
  clear ho hb
  go_wp2_with fail
  refine EV.out.mono ?_
  rintro e w3 ⟨r, rs, rfl, hpu, ho, hr, hpr, hsub, hle, hch⟩
  obtain ⟨a3, n3, c3, rfl⟩ := hpu.shape
  rw [H.out.rows] at hr
  have B3 := Lib.hid (Chg.below B2.out hch hwb)
  have IO := Lib.hid (H.out.order b rs w3 B3.out ho hpr hsub hle)
  rw [hr] at IO
  clear hpu hch ho hr hpr hsub hle
  go_wp2_with fail
  refine IO.out.mono ?_
  rintro e w4 ⟨r4, rfl, ho, hb⟩
  have Z := Lib.hid (And.intro (ho.wide B3.out.size (Nat.le_refl _)) (below_seq B3.out hb))
  clear ho hb
  obtain ⟨a4, n4, c4, rfl⟩ := Z.out.1.shape
  go_wp2
  go_ret
  exact ⟨_, rfl, by rw [E.out]; exact Z.out.1, Z.out.2⟩
end Go.Proofs.Ytmkgddbdkpkgpaa
end

section
namespace Go.Proofs.Ytmkgddbdkpkgpaa
open Go.RowKit
set_option linter.unusedVariables false

theorem uImplStashFind (c : Value) (l : List BlkM) (i : Int) (w : World) (h : BlockSIn [c] l w) (b1 : -9223372036854775808 ≤ i ∧ i ≤ 9223372036854775807) (hs : szBlockS l ≤ 1048576) : Calls Try.prog 15 #[c, .int .i64 i] w fun e w' => ∃ c0 c1 c2, e = .returned (.tuple #[.agg #[c0, c1, c2], .bool (sFindB l i)]) ∧ BlockOwn w.heap.size w'.heap.size [c0, c1, c2] (sFindM l i) w' ∧ Below w.heap.size w w' := implStashFind c l i w h hs
theorem uImplStashDrop (c : Value) (l : List BlkM) (i : Int) (w : World) (h : BlockSIn [c] l w) (b1 : -9223372036854775808 ≤ i ∧ i ≤ 9223372036854775807) (hs : szBlockS l ≤ 1048576) : Calls Try.prog 16 #[c, .int .i64 i] w fun e w' => ∃ c0, e = .returned (.tuple #[c0, .bool (sFindB l i)]) ∧ BlockSOwn w.heap.size w'.heap.size [c0] (sDropM l i) w' ∧ Below w.heap.size w w' := implStashDrop c l i w h hs
theorem impl13 : Impl13 :=
  ⟨uImplStashOk, uImplStashPut, uImplStashFind, uImplStashDrop, uImplEvictPlan, uImplEvictRest⟩
end Go.Proofs.Ytmkgddbdkpkgpaa
end
