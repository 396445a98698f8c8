/- TnH, TnK in one. Written by tools/join2.py. -/
import Derived.Test.YtmndkpicbmffnaaJN37
import Derived.Test.YtmndkpicbmffnaaJN24
section
namespace Go.Proofs.Ytmndkpicbmffnaa
open Go.RowKit
set_option linter.unusedVariables false
set_option linter.unusedSimpArgs false
set_option maxRecDepth 100000

theorem maxZ (p t : Int) : ∀ w ts ty, (Builtin.max_ ts ty #[.int .i64 p, .int .i64 t]).run Try.prog w = .ok (.int .i64 (if p ≤ t then t else p)) w := by
  intro w ts ty
  by_cases h : p ≤ t
  · rw [if_pos h]; simp [Builtin.max_, Builtin.max2]; omega
  · rw [if_neg h]; simp [Builtin.max_, Builtin.max2]; omega
theorem minZ (p t : Int) : ∀ w ts ty, (Builtin.min_ ts ty #[.int .i64 p, .int .i64 t]).run Try.prog w = .ok (.int .i64 (if t ≤ p then t else p)) w := by
  intro w ts ty
  by_cases h : t ≤ p
  · rw [if_pos h]; simp [Builtin.min_, Builtin.min2]; omega
  · rw [if_neg h]; simp [Builtin.min_, Builtin.min2]; omega
/-- min(hi, max(lo, t)). -/
theorem clip_at (lo hi : Nat) (p q : Int) (hp : p = (lo : Int)) (hq : q = (hi : Int)) (hlh : lo ≤ hi) (t : Int) : ∃ (u : Int) (g : Nat), lo ≤ g ∧ g ≤ hi ∧ (∀ w ts ty, (Builtin.max_ ts ty #[.int .i64 p, .int .i64 t]).run Try.prog w = .ok (.int .i64 u) w) ∧ (∀ w ts ty, (Builtin.min_ ts ty #[.int .i64 q, .int .i64 u]).run Try.prog w = .ok (.int .i64 (g : Int)) w) := by
  subst hp hq
  have h1 := maxZ lo t
  obtain ⟨u, hu, hlu⟩ : ∃ u, (if (lo : Int) ≤ t then t else (lo : Int)) = u ∧ (lo : Int) ≤ u := ⟨_, rfl, by split <;> omega⟩
  rw [hu] at h1
  have h2 := minZ hi u
  obtain ⟨g, hg, h3, h4⟩ : ∃ g : Nat, (if u ≤ (hi : Int) then u else (hi : Int)) = (g : Int) ∧ lo ≤ g ∧ g ≤ hi := by
    by_cases h : u ≤ (hi : Int)
    · exact ⟨u.toNat, by rw [if_pos h]; omega, by omega, by omega⟩
    · exact ⟨hi, by rw [if_neg h], hlh, Nat.le_refl _⟩
  rw [hg] at h2
  exact ⟨u, g, h3, h4, h1, h2⟩
theorem specClip (t : Int) : ∃ g : Nat, g ≤ 4 ∧ ∀ w, Calls Try.prog 45 #[.int .i64 t] w fun e w' => e = .returned (.int .i64 (g : Int)) ∧ w' = w := by
  obtain ⟨u, g, _, h4, hmax, hmin⟩ := clip_at 0 4 0 4 rfl rfl (by omega) t
  refine ⟨g, h4, fun w => ?_⟩
  go_enter Try.func45, Try.ntmps45
  go_wp2
  go_ret
  exact ⟨rfl, rfl⟩
/-- What a drawing of a node leaves. -/
def DrawnNode (w : World) (e : Ending) (w' : World) : Prop :=
  ∃ (c : Value) (t : NodeM) (x y : Int), e = .returned (.tuple #[.agg #[c], .int .i64 x, .int .i64 y]) ∧ NodeOwn w.heap.size w'.heap.size [c] t w' ∧ (∀ k ∈ t, blkT k) ∧ t.length ≤ 1000 ∧ (-9223372036854775808 ≤ x ∧ x ≤ 9223372036854775807) ∧ (-9223372036854775808 ≤ y ∧ y ≤ 9223372036854775807) ∧ Below w.heap.size w w'
theorem drawnNode_end {w w2 W : World} {P : BlkM → Prop} {b : Nat} {a : Option Addr} {l : List UInt8} {cap m : Nat} {ao : Option Addr} {co n : Nat} {es : List (Elt BlkM 3)} {F : Nat → Foot} {x y : Int} (s : BsSt blkT w2 W b a l cap m ao co es F) (hn : es.length = n) (hn2 : n ≤ 1000) (hx : -9223372036854775808 ≤ x ∧ x ≤ 9223372036854775807) (hy : -9223372036854775808 ≤ y ∧ y ≤ 9223372036854775807)
    (hB : Below w.heap.size w w2) (hb : w.heap.size ≤ b) (hlt : w.heap.size < w2.heap.size) : DrawnNode w (.returned (.tuple #[.agg #[.slice ao n co], .int .i64 x, .int .i64 y])) (W.setCell ⟨w.heap.size, 0, none⟩ (.slice ao n co)) := by
  subst hn
  have n6 := s.row.sup block_ong (w' := W.setCell ⟨w.heap.size, 0, none⟩ (.slice ao es.length co)) (fun z hz => Below.heap_setCell _ _ _ z (by have := (s.row.at_ block_ong z hz).1; simp; omega))
  refine ⟨_, es.map Elt.m, x, y, rfl, nrow_own (n6.low block_ong (by omega)), fun k hk => ?_, by simpa using hn2, hx, hy, (below_write hB s.G hb).setCell (p := ⟨w.heap.size, 0, none⟩) (Nat.le_refl _) _⟩
  obtain ⟨e, he, rfl⟩ := List.mem_map.1 hk
  exact s.bd e he
set_option maxHeartbeats 2000000 in
theorem drawNodeOf (a : Option Addr) (l : List UInt8) (cap : Nat) (w : World) (hl : l.length ≤ 1048576) (r : Row w a (l.map bval)) : Calls Try.prog 11 #[.slice a l.length cap] w (DrawnNode w) := by
  have R := Lib.hid (r.below (below_box (Below.refl w.heap.size w) (.cells #[.slice none 0 0] 26)))
  clear r
  go_enter Try.func11, Try.ntmps11
  go_wp2_with fail
  refine (curOpen a l cap _ hl R.out).mono ?_
  rintro e w1 ⟨rfl, hI1, hb1⟩
  have B1 := Lib.hid (below_seq (below_box (Below.refl w.heap.size w) (.cells #[.slice none 0 0] 26)) hb1)
  have K1 := Lib.hid (kept_block (alloc_at w (.cells #[.slice none 0 0] 26) _ rfl) hb1)
  simp only [size_box] at hI1 ⊢
  have I1 := Lib.hid hI1
  obtain ⟨b, hbb⟩ : ∃ b, w.heap.size + 1 = b := ⟨_, rfl⟩
  rw [hbb] at I1 ⊢
  have hbs : w.heap.size < b := by omega
  clear hI1 hb1 R
  go_wp2_with fail
  refine (curFrame b a l cap 0 _ hl (by omega) I1.out).mono ?_
  rintro e w2 ⟨x, y, rfl, hx, hy, hI, hg⟩
  have I2 := Lib.hid hI
  have B2 := Lib.hid (below_write B1.out hg (by omega))
  have K2 := Lib.hid (kept_grown K1.out hg (by simp; omega))
  have HX := Lib.hid hx
  have HY := Lib.hid hy
  obtain ⟨g, hg4, CL⟩ := specClip x
  have CLH := Lib.hid CL
  obtain ⟨u, v, hv1, hv5, hmax, hmin⟩ := clip_at 1 5 1 5 rfl rfl (by omega) y
  clear hI hg I1 B1 K1 hx hy CL
  go_wp2_with fail
  refine (CLH.out _).mono ?_
  rintro e w3 ⟨rfl, rfl⟩
  go_wp2_with fail
  refine (curBlocks b a l cap _ 5 g v _ hl (by omega) (by omega) (by omega) (by omega) I2.out).mono ?_
  rintro e w4 ⟨ao, co, es, F, rfl, hel, hS⟩
  have S4 := Lib.hid (hS.weak (fun t ht => blkS_T (by omega) ht))
  have K4 := Lib.hid (kept_grown K2.out hS.G (by simp; omega))
  obtain ⟨n, hn⟩ : ∃ n, es.length = n := ⟨_, rfl⟩
  rw [hn]
  have HN := Lib.hid hn
  have hn5 : n ≤ 5 := by omega
  clear hS hn hel I2 hmax hmin CLH
  go_wp2_with fail
  refine (curBadBlocks _ b a l cap _ n ao co es F _ hl (by omega) HN.out (by omega) S4.out).mono ?_
  rintro e w5 ⟨rfl, es', F', hn', hS⟩
  have k5 := kept_grown K2.out hS.G (by simp; omega)
  have c5 := cur_cell k5 0
  have f5 := cur_free k5 0
  simp at c5
  have hlt2 : w.heap.size < w3.heap.size := by have h1 := cur_lt K2.out; exact h1
  have Z := Lib.hid (drawnNode_end (P := blkT) hS hn' (by omega) HX.out HY.out B2.out (by omega) hlt2)
  clear hS k5 K2 K4 S4 B2 HX HY
  go_wp2
  exact bodyPost_ret (v := .tuple #[.agg #[.slice ao n co], .int .i64 x, .int .i64 y]) (by simp [results, Try.results11, go_sem, c5]) rfl Z.out
end Go.Proofs.Ytmndkpicbmffnaa
end

section
namespace Go.Proofs.Ytmndkpicbmffnaa
open Go.RowKit
set_option linter.unusedVariables false

theorem enc_at {l : List BlkM} {n : Nat} (h : ∀ m ∈ l, m.data.length = n) {k : Nat} (hk : k < l.length) (r : List UInt8) : ∃ r', (encAll l ++ r).drop (k * (n + 3)) = encB l[k] ++ r' := by
  have h1 : (encAll (l.take k)).length = k * (n + 3) := by
    rw [encAll_length (n := n) (fun m hm => h m (List.mem_of_mem_take hm)), List.length_take, Nat.min_eq_left (Nat.le_of_lt hk)]
  have h2 : encAll l = encAll (l.take k) ++ (encB l[k] ++ encAll (l.drop (k + 1))) := by
    have e : l = l.take k ++ l[k] :: l.drop (k + 1) := by rw [← List.drop_eq_getElem_cons hk, List.take_append_drop]
    unfold encAll
    rw [← List.flatMap_cons, ← List.flatMap_append, ← e]
  refine ⟨encAll (l.drop (k + 1)) ++ r, ?_⟩
  rw [h2, List.append_assoc, ← h1, List.drop_left, List.append_assoc]
theorem enc_end {l : List BlkM} {n : Nat} (h : ∀ m ∈ l, m.data.length = n) (r : List UInt8) : (encAll l ++ r).drop (l.length * (n + 3)) = r := by
  rw [← encAll_length h, List.drop_left]
theorem getD_drop (d : List UInt8) (t i : Nat) : d.getD (t + i) 0 = (d.drop t).getD i 0 := by
  rw [List.getD_eq_getElem?_getD, List.getD_eq_getElem?_getD, List.getElem?_drop]
theorem byte_back {z : Int} (h0 : 0 ≤ z) (h1 : z ≤ 255) : (((UInt8.ofNat z.toNat).toNat : Nat) : Int) = z := by
  rw [UInt8.toNat_ofNat', Nat.mod_eq_of_lt (by omega)]; omega
theorem blkAt_of {d : List UInt8} {n t : Nat} {m : BlkM} {r : List UInt8} (h : d.drop t = encB m ++ r) (hd : m.data.length = n) (hid : 0 ≤ m.id ∧ m.id ≤ 255) (hlf : 0 ≤ m.leaf ∧ m.leaf ≤ 255) : blkAt d n t = m ∧ d.getD t 0 = 1 := by
  have e0 := getD_drop d t 0
  have e1 := getD_drop d t 1
  have e2 := getD_drop d t 2
  have e3 : d.drop (t + 3) = (d.drop t).drop 3 := by rw [List.drop_drop]
  rw [h] at e0 e1 e2 e3
  unfold encB at e0 e1 e2 e3
  simp at e0 e1 e2 e3
  refine ⟨?_, by rw [List.getD_eq_getElem?_getD]; exact e0⟩
  unfold blkAt
  rw [List.getD_eq_getElem?_getD, List.getD_eq_getElem?_getD, e1, e2, e3, byte_back hid.1 hid.2, byte_back hlf.1 hlf.2, ← hd, List.take_left]
theorem cntUp_of {d : List UInt8} {n c : Nat} (hone : ∀ j, j < c → d.getD (j * (n + 3)) 0 = 1) (hstop : c < 4 → ¬ d.getD (c * (n + 3)) 0 = 1) (hc : c ≤ 4) : ∀ f k, k + f = 4 → k ≤ c → cntUp d n f k = c
  | 0, k, hf, hk => by unfold cntUp; omega
  | f + 1, k, hf, hk => by
    unfold cntUp
    by_cases h : k < c
    · rw [if_pos (hone k h)]; exact cntUp_of hone hstop hc f (k + 1) (by omega) h
    · have e : k = c := by omega
      subst e
      rw [if_neg (hstop (by omega))]
theorem leaf_255 {z t : Int} (h : leafB z t = true) : 0 ≤ t ∧ t ≤ 255 := by
  obtain ⟨g, a, rfl, rfl, hg, ha⟩ := leafB_ok h
  have := pow_64 hg
  omega
theorem node_back {l : NodeM} {z v : Int} (h : nodeOkB l z v = true) : readNB (nodeOfL l z v) z v = true ∧ readNM (nodeOfL l z v) z v = l := by
  obtain ⟨h1, h2⟩ := nodeOkB_ok h
  have hf := (blocksOkB_all h2).1
  obtain ⟨g, n, rfl, rfl, hg6, hn1, hn2⟩ := frameB_ok hf
  have hall : ∀ m ∈ l, m.data.length = n := fun m hm => by have := (blockOkB_ok (blocksOkB_each h2 m hm)).2.2.2; omega
  have hlen := nodeOfL_length h
  rw [Int.toNat_natCast] at hlen
  have hd : nodeOfL l g n = encAll l ++ List.replicate (4 * (n + 3) - (encAll l).length) 0 := by unfold nodeOfL; rw [if_pos h, Int.toNat_natCast]
  have hcand : candN (nodeOfL l g n) n = l := by
    have hat : ∀ k (hk : k < l.length), blkAt (nodeOfL l g n) n (k * (n + 3)) = l[k] ∧ (nodeOfL l g n).getD (k * (n + 3)) 0 = 1 := fun k hk => by
      obtain ⟨r', hr⟩ := enc_at hall hk (List.replicate (4 * (n + 3) - (encAll l).length) 0)
      have ok := blockOkB_ok (blocksOkB_each h2 _ (List.getElem_mem hk))
      rw [← hd] at hr
      exact blkAt_of hr (hall _ (List.getElem_mem hk)) ok.2.1 (leaf_255 ok.2.2.1)
    have hcnt : cntN (nodeOfL l g n) n = l.length := cntUp_of (fun j hj => (hat j hj).2) (fun hc => by
      have e := getD_drop (nodeOfL l g n) (l.length * (n + 3)) 0
      have e2 := enc_end hall (List.replicate (4 * (n + 3) - (encAll l).length) 0)
      rw [← hd] at e2
      rw [Nat.add_zero, e2] at e
      rw [e, List.getD_eq_getElem?_getD, List.getElem?_replicate]
      split <;> decide) h1 4 0 rfl (Nat.zero_le _)
    unfold candN firstN
    rw [hcnt]
    apply List.ext_getElem
    · simp
    · intro k k1 k2
      simp
      exact (hat k k2).1
  have hB : readNB (nodeOfL l g n) g n = true := by
    unfold readNB
    rw [hf, Int.toNat_natCast, hcand, hlen.1]
    unfold nodeSizeZ
    rw [if_pos (by omega)]
    simp
  refine ⟨hB, ?_⟩
  unfold readNM
  rw [if_pos hB, Int.toNat_natCast, hcand]
/-- Every node of a width has as many bytes. -/
theorem node_len {l : NodeM} {z v : Int} (h : nodeOkB l z v = true) : (nodeOfL l z v).length = (nodeOfL [] z v).length ∧ ((nodeOfL l z v).length : Int) = nodeSizeZ v := by
  obtain ⟨h1, h2⟩ := nodeOkB_ok h
  have hf := (blocksOkB_all h2).1
  have h0 : nodeOkB [] z v = true := by unfold nodeOkB blocksOkB; rw [hf]; rfl
  obtain ⟨g, n, rfl, rfl, hg6, hn1, hn2⟩ := frameB_ok hf
  rw [(nodeOfL_length h).1, (nodeOfL_length h0).1]
  refine ⟨rfl, ?_⟩
  unfold nodeSizeZ
  rw [if_pos (by omega)]
  omega
end Go.Proofs.Ytmndkpicbmffnaa
end
