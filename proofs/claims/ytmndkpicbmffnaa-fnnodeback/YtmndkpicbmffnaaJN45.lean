/- TnU in one. Written by tools/join2.py. -/
import Derived.Test.YtmndkpicbmffnaaJN43
import Derived.Test.YtmndkpicbmffnaaJN21
import Derived.Test.YtmndkpicbmffnaaJN44
import Derived.Deep.DeepMust
section
namespace Go.Proofs.Ytmndkpicbmffnaa
open Go.RowKit
set_option linter.unusedVariables false
set_option linter.unusedSimpArgs false
set_option maxRecDepth 100000

/-- A row and what lies behind it, as one row. -/
theorem own_whole {w : World} {base g n cap : Nat} {e : TypeId} {xs : List Value} (h : w.ownsRow base e 1 (.slice (some ⟨g, 0, none⟩) n cap) n xs) : ∃ ys, ys.take n = xs ∧ n ≤ cap ∧ w.ownsRow base e 1 (.slice (some ⟨g, 0, none⟩) cap cap) cap ys := by
  rcases h.2 with ⟨hv, _⟩ | ⟨g', cap', cur, hv, hbg, hg, h1, h2, h3, h4⟩
  · simp at hv
  simp at hv
  obtain ⟨rfl, rfl⟩ := hv
  refine ⟨cur.toList, by simpa using h4, h1, by simpa using h3, .inr ⟨g, cap, cur, rfl, hbg, hg, Nat.le_refl _, h2, h3, ?_⟩⟩
  rw [List.take_of_length_le (by simp [h3])]
/-- .. and its first part alone. -/
theorem own_part {w : World} {base g n cap : Nat} {e : TypeId} {ys : List Value} (h : w.ownsRow base e 1 (.slice (some ⟨g, 0, none⟩) cap cap) cap ys) (hn : n ≤ cap) : w.ownsRow base e 1 (.slice (some ⟨g, 0, none⟩) n cap) n (ys.take n) := by
  have hl : ys.length = cap := by simpa using h.1
  rcases h.2 with ⟨hv, _⟩ | ⟨g', cap', cur, hv, hbg, hg, h1, h2, h3, h4⟩
  · simp at hv
  simp at hv
  obtain ⟨rfl, rfl⟩ := hv
  have hc : cur.toList = ys := by rw [← h4, List.take_of_length_le (by simp [h3])]
  refine ⟨by simp; omega, .inr ⟨g, cap, cur, rfl, hbg, hg, hn, h2, h3, ?_⟩⟩
  rw [hc]; simp
theorem clear_part {P : Program} {w : World} {base g n k m : Nat} {T e : TypeId} {z : Value} {xs : List Value} (hu : P.underlying T = some (.slice e)) (hv : ∀ w, (zeroValue e).run P w = .ok z w) (hz : z.cells = #[z]) (h1 : z.oneCell' = true) (h : w.ownsRow base e 1 (.slice (some ⟨g, 0, none⟩) n n) n xs) (hk : k + m ≤ n) (hm : 0 < m) (c : Nat) :
    ∃ w', (∀ ty, (Builtin.clear_ #[T] ty #[.slice (some ⟨g, k, none⟩) m c]).run P w = .ok (.tuple #[]) w') ∧ w'.ownsRow base e 1 (.slice (some ⟨g, 0, none⟩) n n) n (xs.take k ++ (List.replicate m z ++ xs.drop (k + m))) ∧ w.grownBy w' (some g) := by
  have hx : xs.length = n := by simpa using h.1
  have hs := own_setsL (List.replicate m z) w xs k h
  rw [← setCells_L] at hs
  refine ⟨_, fun ty => Lib.run_clear_slice w T e ty z hu hv hz h1 g k m c (by omega) (fun j hj => ?_) (fun j hj => h.frozenAt (k + j)), ?_, hs.2⟩
  · rw [h.cellAt (k + j) (by omega), List.getElem?_eq_getElem (by omega)]; rfl
  · have e1 : setsL xs k (List.replicate m z) = xs.take k ++ (List.replicate m z ++ xs.drop (k + m)) := by
      have hp := setsL_full (xs.take k) (List.replicate m z) ((xs.drop k).take m) (by simp; omega)
      rw [List.length_take, Nat.min_eq_left (by omega)] at hp
      have hq := setsL_left (xs.take (k + m)) (xs.drop (k + m)) (List.replicate m z) k (by simp; omega)
      rw [List.take_append_drop, List.take_add, hp] at hq
      rw [hq, List.append_assoc]
    rw [e1] at hs
    exact hs.1
theorem two_parts {α : Type} {A Y R : List α} {off a : Nat} (hA : A.length = off) (hY : Y.length = a) (j : Nat) : (A ++ (Y ++ R)).take (off + a) = A ++ Y ∧ (A ++ (Y ++ R)).drop (off + a + j) = R.drop j := by
  have hl : (A ++ Y).length = off + a := by rw [List.length_append, hA, hY]
  rw [← List.append_assoc, ← hl]
  exact ⟨List.take_left' rfl, List.drop_length_add_append ..⟩
set_option maxHeartbeats 4000000 in
theorem implWriteBlock (g off k c N base B : Nat) (xs : List Value) (c0 c1 c2 : Value) (m : BlkM) (w : World) (HO : w.ownsRow base 5 1 (.slice (some ⟨g, 0, none⟩) N N) N xs) (hB : B ≤ base)
    (HI : ∀ w', Below B w w' → BlockIn [c0, c1, c2] m w') (hid : 0 ≤ m.id ∧ m.id ≤ 255) (hlf : 0 ≤ m.leaf ∧ m.leaf ≤ 255) (hd1 : 1 ≤ m.data.length) (hd : m.data.length ≤ 200) (hk : m.data.length + 3 ≤ k) (hN : off + k ≤ N) (hkc : k ≤ c) (hcm : c ≤ maxLen) :
    Calls Try.prog 64 #[.slice (some ⟨g, off, none⟩) k c, .agg #[c0, c1, c2]] w fun e w' => ∃ o' c', e = .returned (.slice (some ⟨g, o', none⟩) (k - (m.data.length + 3)) c') ∧ (o' = off + (m.data.length + 3) ∨ k = m.data.length + 3) ∧ k - (m.data.length + 3) ≤ c' ∧ c' ≤ maxLen ∧
      w'.ownsRow base 5 1 (.slice (some ⟨g, 0, none⟩) N N) N (xs.take off ++ ((encB m).map bval ++ xs.drop (off + (m.data.length + 3)))) ∧ Below base w w' := by
  obtain ⟨x, cap, rfl, rfl, rfl, _, hm, hr0⟩ := blockIn_cells (HI w (Below.refl _ _))
  have hx1 : ∃ b o, x = some ⟨b, o, none⟩ := by
    rcases hr0 with h | ⟨b, o, rfl, _⟩
    · have : m.data = [] := by simpa using h
      rw [this] at hd1; simp at hd1
    · exact ⟨b, o, rfl⟩
  obtain ⟨b, o, rfl⟩ := hx1
  have RX := Lib.hid (fun w' (hb : Below B w w') => show ∀ i, i < (m.data.map bval).length → w'.cell? ⟨b, o + i, none⟩ = (m.data.map bval)[i]? from fun i hi => by
    obtain ⟨a', cap', _, _, e, _, _, hr⟩ := blockIn_cells (HI w' hb)
    simp at e
    obtain ⟨rfl, rfl⟩ := e
    obtain ⟨b', o', e, hc⟩ := hr.at hi
    simp at e
    obtain ⟨rfl, rfl⟩ := e
    exact hc)
  have hgw := (HO.lt g rfl)
  unfold encB
  obtain ⟨id, leaf, data⟩ := m
  simp only at RX hid hlf hd1 hd hk hm ⊢
  have SS := Lib.hid (fun w => implSlotSize data.length w hd)
  obtain ⟨d, hdd⟩ : ∃ d, data.length = d := ⟨_, rfl⟩
  have DL := Lib.hid hdd
  rw [hdd] at hd1 hd hk hm SS ⊢
  unfold maxLen at hcm hm
  have h0w : IntKind.u8.wrap id = id := by rw [IntKind.wrap_u8']; omega
  have h1w : IntKind.u8.wrap leaf = leaf := by rw [IntKind.wrap_u8']; omega
  obtain ⟨W1, hW1⟩ : ∃ W1, W1 = (w.alloc (.cells #[.int .i64 id, .int .i64 leaf, .slice (some ⟨b, o, none⟩) d cap] 40)).alloc (.cells #[.int .u8 1, .int .u8 id, .int .u8 leaf] 78) := ⟨_, rfl⟩
  have K1 : W1.heap[w.heap.size]? = some (.cells #[.int .i64 id, .int .i64 leaf, .slice (some ⟨b, o, none⟩) d cap] 40 (0, 0)) := by rw [hW1]; exact (alloc_old _ _ _ (by simp)).trans (alloc_at _ _ _ rfl)
  have H1 : W1.heap[w.heap.size + 1]? = some (.cells #[.int .u8 1, .int .u8 id, .int .u8 leaf] 78 (0, 0)) := by rw [hW1]; exact alloc_at _ _ _ (by simp)
  have B1 : Below w.heap.size w W1 := by rw [hW1]; exact below_box (below_box (Below.refl _ w) _) _
  have O1 := own_below HO B1
  obtain ⟨W2, hcp, O2, G2⟩ := copy_part (P := Try.prog) (dT := 22) (sT := 22) Try.underlying22 (by kernel_rfl) O1 off k c hN (w.heap.size + 1) 0 3 3 [.int .u8 1, .int .u8 id, .int .u8 leaf] (by show 3 = min 3 k; omega)
    (fun i hi => by simp at hi; rcases (show i = 0 ∨ i = 1 ∨ i = 2 by omega) with rfl | rfl | rfl <;> exact cur_cell H1 _) (by intro v hv; simp at hv; rcases hv with rfl | rfl | rfl <;> rfl)
  have C1 := Lib.hid hcp
  have KB := Lib.hid (kept_grown K1 G2 (by simp; omega))
  have BB2 : Below base w W2 := (B1.mono (by omega)).grown G2 (by have := B1.size; omega) (fun q hq => by cases hq; exact hgw.1)
  have HD := Lib.hid (below_drew (Below.refl W2.heap.size W2))
  have CL := Lib.hid (fun w' (hb : Below W2.heap.size W2 w') => (cur_cell (kept_block KB.out hb) 2 : w'.cell? ⟨w.heap.size, 2, none⟩ = some (.slice (some ⟨b, o, none⟩) d cap)))
  obtain ⟨W3, hcp2, O3, G3⟩ := copy_part (P := Try.prog) (dT := 22) (sT := 22) Try.underlying22 (by kernel_rfl) (own_below O2 HD.out) (off + 3) (k - 3) (c - 3) (by omega) b o d cap (data.map bval) (by rw [List.length_map, hdd]; show d = min d (k - 3); omega)
    (RX.out _ ((BB2.mono hB).drew)) (by intro v hv; obtain ⟨z, _, rfl⟩ := List.mem_map.1 hv; rfl)
  have C2 := Lib.hid hcp2
  have BB3 := Lib.hid (BB2.drew.grown G3 (by have := BB2.size; show base ≤ W2.heap.size; omega) (fun q hq => by cases hq; exact hgw.1))
  have KB3 := Lib.hid (kept_grown (kept_block KB.out HD.out) G3 (by simp; omega))
  have hxl : xs.length = N := by simpa using HO.1
  have OO := Lib.hid (show W3.ownsRow base 5 1 (.slice (some ⟨g, 0, none⟩) N N) N (xs.take off ++ ((1 :: UInt8.ofNat id.toNat :: UInt8.ofNat leaf.toNat :: data).map bval ++ xs.drop (off + (d + 3)))) by
    obtain ⟨t1, t2⟩ := two_parts (A := xs.take off) (Y := [.int .u8 1, .int .u8 id, .int .u8 leaf]) (R := xs.drop (off + 3)) (off := off) (a := 3) (by simp; omega) rfl d
    have h := O3
    rw [List.length_map, hdd] at h
    simp only [List.length_cons, List.length_nil, Nat.zero_add] at h
    rw [t1, t2, List.drop_drop] at h
    simp only [List.map_cons, byte_ofZ hid.1 hid.2, byte_ofZ hlf.1 hlf.2, bval_one]
    rw [show off + (d + 3) = off + 3 + d by omega]
    simpa [List.append_assoc] using h)
  have c3 := cur_cell KB3.out 2
  have e3 : 3 + d + (off + 0) = off + (d + 3) := by omega
  clear hcp hcp2 O1 O2 O3 G2 G3 BB2 B1 K1 H1 HO HI hr0
  have hk3 : 3 ≤ k := by omega
  have hk3i : (3 : Int) ≤ (k : Int) := by omega
  have hkdi : ((d + 3 : Nat) : Int) ≤ (k : Int) := by omega
  have hkdi2 : (d : Int) + 3 ≤ (k : Int) := by omega
  have hc3 : ¬ c = 3 := by omega
  have hc3' : 3 ≤ c := by omega
  have hcp := C1.out
  rw [hW1] at hcp
  go_enter Try.func64, Try.ntmps64
  go_upto_region 3 with fail
  clear hcp hW1 h0w h1w
  have cl := CL.out _ HD.out
  go_region_law (first
    | (refine step_copy_run (by rfl) _ _ _ _ (by rfl) _ _ _ _ (by rfl) (by rfl) C2.out ?_))
  all_goals
    clear C1 C2 CL cl HD
    go_wp2_with fail
    refine (SS.out _).mono ?_
    rintro e w1 ⟨rfl, rfl⟩
    by_cases hcd : c = d + 3
    · have hkd : k = d + 3 := by omega
      subst hkd
      subst hcd
      go_wp2
      go_ret
      exact ⟨_, _, rfl, by unfold maxLen; omega, OO.out, BB3.out⟩
    · have h5 : d + 3 ≤ c := by omega
      go_wp2
      go_ret
      exact ⟨_, _, rfl, .inl rfl, by omega, by unfold maxLen; omega, OO.out, BB3.out⟩
end Go.Proofs.Ytmndkpicbmffnaa
end
