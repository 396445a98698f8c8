/- TnM in one. Written by tools/join2.py. -/
import Derived.Test.YtmkgddbdkpkgpaaJS24
import Derived.Test.YtmkgddbdkpkgpaaJS2
import Derived.Deep.RegionHeld3
import Derived.Deep.LoopGhost
import Derived.IntWalk
section
namespace Go.Proofs.Ytmkgddbdkpkgpaa
open Go.RowKit
set_option linter.unusedVariables false
set_option linter.unusedSimpArgs false
set_option maxRecDepth 100000

theorem BlockSOwn.elt {lo hi n cap : Nat} {a : Option Addr} {l : List BlkM} {w : World} (h : BlockSOwn lo hi [.slice a n cap] l w) {k : Nat} (hk : k < l.length) : ∃ g x z, a = some ⟨g, 0, none⟩ ∧ g < w.heap.size ∧
    ∀ w', Below w.heap.size w w' → w'.cell? ⟨g, k * 3, none⟩ = some (.int .i64 (l.getD k zeroBlk).id) ∧ w'.cell? ⟨g, k * 3 + 1, none⟩ = some (.int .i64 (l.getD k zeroBlk).leaf) ∧ w'.cell? ⟨g, k * 3 + 2, none⟩ = some (.slice x (l.getD k zeroBlk).data.length z) ∧ (convert 22 9 (.slice x (l.getD k zeroBlk).data.length z)).run Try.prog w' = .ok (.string (strL (l.getD k zeroBlk).data)) w' := by
  obtain ⟨F, ⟨a', cap', es, G, hc, hm, hn, _⟩, _⟩ := h
  simp at hc
  obtain ⟨rfl, rfl, rfl⟩ := hc
  have hke : k < es.length := by rw [← hm] at hk; simpa using hk
  have hmk : es[k].m = l.getD k zeroBlk := by subst hm; rw [List.getD_eq_getElem?_getD]; simp [hke]
  obtain ⟨g, rfl, _⟩ := own_some hn.row (by omega)
  obtain ⟨c2, hcs, x, z, hc2, hob, hGj⟩ := hn.own k hke
  simp at hc2
  subst hc2
  refine ⟨g, x, z, rfl, (hn.row.lt g rfl).2, fun w' hb => ?_⟩
  have cc := own_elem eltL_len (own_below hn.row hb) hke
  rw [show eltL es[k] = [.int .i64 es[k].m.id, .int .i64 es[k].m.leaf, .slice x es[k].m.data.length z] from hcs, hmk] at cc
  rw [hmk] at hob
  exact ⟨cc 0 (by decide), cc 1 (by decide), cc 2 (by decide), conv_any (own_below hob hb)⟩
set_option maxHeartbeats 4000000 in
theorem uSameBlocks (lo hi lo' hi' : Nat) (ca cb : Value) (l : List BlkM) (w : World) (h : BlockSOwn lo hi [ca] l w) (h' : BlockSOwn lo' hi' [cb] l w) : Calls Try.prog 18 #[ca, cb] w fun e w' => e = .returned (.bool true) ∧ Below w.heap.size w w' := by
  obtain ⟨aa, capa, _, rfl, _, hmax, _⟩ := blockSIn_shape h.read
  obtain ⟨ab, capb, _, rfl, _⟩ := blockSIn_shape h'.read
  have EA := Lib.hid (fun k (hk : k < l.length) => h.elt hk)
  have EB := Lib.hid (fun k (hk : k < l.length) => h'.elt hk)
  unfold maxLen at hmax
  clear h h'
  obtain ⟨n, hn⟩ : ∃ n, l.length = n := ⟨_, rfl⟩
  rw [hn] at EA EB hmax ⊢
  clear hn
  go_enter Try.func18, Try.ntmps18
  go_wp2_with fail
  go_loopg [5] n (fun kk iv wr => ∃ k : Nat, k ≤ n ∧ n - k = kk ∧ iv = .int .i64 k ∧ Hid (Below w.heap.size w wr))
  case atStart => exact ⟨0, Nat.zero_le _, rfl, rfl, Lib.hid (Below.refl _ _)⟩
  case round =>
    obtain ⟨k, hk, hkk, rfl, B⟩ := hrel
    by_cases hlt : k < n
    · have hltI : (k : Int) < (n : Int) := by omega
      obtain ⟨ga, xa, za, rfl, _, CA⟩ := EA.out k hlt
      obtain ⟨gb, xb, zb, rfl, _, CB⟩ := EB.out k hlt
      have KD := Lib.hid (fun w' (hb : Below wr.heap.size wr w') => And.intro (CA w' (below_seq B.out hb)) (CB w' (below_seq B.out hb)))
      clear CA CB
      obtain ⟨b, hbk⟩ : ∃ b, l.getD k zeroBlk = b := ⟨_, rfl⟩
      rw [hbk] at KD
      clear hbk
      obtain ⟨zi, zf, bd⟩ := b
      simp only at KD
      obtain ⟨s, hs⟩ : ∃ s, strL bd = s := ⟨_, rfl⟩
      obtain ⟨m, hm⟩ : ∃ m, bd.length = m := ⟨_, rfl⟩
      rw [hs, hm] at KD
      clear hs hm
      replace KD : Hid (∀ w', Below wr.heap.size wr w' → (fun w' => w'.cell? ⟨ga, k * 3, none⟩ = some (.int .i64 zi) ∧ w'.cell? ⟨ga, k * 3 + 1, none⟩ = some (.int .i64 zf) ∧ w'.cell? ⟨ga, k * 3 + 2, none⟩ = some (.slice xa m za) ∧ w'.cell? ⟨gb, k * 3, none⟩ = some (.int .i64 zi) ∧ w'.cell? ⟨gb, k * 3 + 1, none⟩ = some (.int .i64 zf) ∧ w'.cell? ⟨gb, k * 3 + 2, none⟩ = some (.slice xb m zb) ∧ (convert 22 9 (.slice xa m za)).run Try.prog w' = .ok (.string s) w' ∧ (convert 22 9 (.slice xb m zb)).run Try.prog w' = .ok (.string s) w') w') := Lib.hid (fun w' hb => by obtain ⟨⟨h1, h2, h3, h4⟩, h5, h6, h7, h8⟩ := KD.out w' hb; exact ⟨h1, h2, h3, h5, h6, h7, h4, h8⟩)
      go_upto_region 6 with fail
      refine wp_region_held_drew (S := (fun w' => w'.cell? ⟨ga, k * 3, none⟩ = some (.int .i64 zi) ∧ w'.cell? ⟨ga, k * 3 + 1, none⟩ = some (.int .i64 zf) ∧ w'.cell? ⟨ga, k * 3 + 2, none⟩ = some (.slice xa m za) ∧ w'.cell? ⟨gb, k * 3, none⟩ = some (.int .i64 zi) ∧ w'.cell? ⟨gb, k * 3 + 1, none⟩ = some (.int .i64 zf) ∧ w'.cell? ⟨gb, k * 3 + 2, none⟩ = some (.slice xb m zb) ∧ (convert 22 9 (.slice xa m za)).run Try.prog w' = .ok (.string s) w' ∧ (convert 22 9 (.slice xb m zb)).run Try.prog w' = .ok (.string s) w')) (by kernel_rfl) (KD.out _ (belowN 1)) (fun hHeld => ?_)
      refine wpAnyH_take (i := 0) (oi := ?osb_0) (v := ?vsb_0) ?hisb_0 (by kernel_rfl) (by kernel_rfl) (by kernel_rfl) ?hqsb_0 ?hysb_0 (by assumption) ?rsb_0
      case hisb_0 => (simp only [List.getElem?_toArray, List.getElem?_cons_succ, List.getElem?_cons_zero]; rfl)
      case hqsb_0 => exact fun _ _ _ h => h
      case hysb_0 =>
        first
          | (refine Or.inl ⟨by rfl, ?_⟩; intro wq hSw; (try dsimp only at hSw); go_simp; (try with_reducible rfl); done)
          | (refine Or.inr ⟨by rfl, ?_⟩; with_reducible rfl)
      try simp only [Act.put, List.setIfInBounds_toArray, List.set_cons_zero, List.set_cons_succ]
      refine wpAnyH_take (i := 1) (oi := ?osb_1) (v := ?vsb_1) ?hisb_1 (by kernel_rfl) (by kernel_rfl) (by kernel_rfl) ?hqsb_1 ?hysb_1 (by assumption) ?rsb_1
      case hisb_1 => (simp only [List.getElem?_toArray, List.getElem?_cons_succ, List.getElem?_cons_zero]; rfl)
      case hqsb_1 => exact fun _ _ _ h => h
      case hysb_1 =>
        first
          | (refine Or.inl ⟨by rfl, ?_⟩; intro wq hSw; (try dsimp only at hSw); go_simp; (try with_reducible rfl); done)
          | (refine Or.inr ⟨by rfl, ?_⟩; with_reducible rfl)
      try simp only [Act.put, List.setIfInBounds_toArray, List.set_cons_zero, List.set_cons_succ]
      refine wpAnyH_take (i := 2) (oi := ?osb_2) (v := ?vsb_2) ?hisb_2 (by kernel_rfl) (by kernel_rfl) (by kernel_rfl) ?hqsb_2 ?hysb_2 (by assumption) ?rsb_2
      case hisb_2 => (simp only [List.getElem?_toArray, List.getElem?_cons_succ, List.getElem?_cons_zero]; rfl)
      case hqsb_2 => exact fun _ _ _ h => h
      case hysb_2 =>
        first
          | (refine Or.inl ⟨by rfl, ?_⟩; intro wq hSw; (try dsimp only at hSw); go_simp; (try with_reducible rfl); done)
          | (refine Or.inr ⟨by rfl, ?_⟩; with_reducible rfl)
      try simp only [Act.put, List.setIfInBounds_toArray, List.set_cons_zero, List.set_cons_succ]
      refine wpAnyH_take (i := 3) (oi := ?osb_3) (v := ?vsb_3) ?hisb_3 (by kernel_rfl) (by kernel_rfl) (by kernel_rfl) ?hqsb_3 ?hysb_3 (by assumption) ?rsb_3
      case hisb_3 => (simp only [List.getElem?_toArray, List.getElem?_cons_succ, List.getElem?_cons_zero]; rfl)
      case hqsb_3 => exact fun _ _ _ h => h
      case hysb_3 =>
        first
          | (refine Or.inl ⟨by rfl, ?_⟩; intro wq hSw; (try dsimp only at hSw); go_simp; (try with_reducible rfl); done)
          | (refine Or.inr ⟨by rfl, ?_⟩; with_reducible rfl)
      try simp only [Act.put, List.setIfInBounds_toArray, List.set_cons_zero, List.set_cons_succ]
      refine wpAnyH_take (i := 4) (oi := ?osb_4) (v := ?vsb_4) ?hisb_4 (by kernel_rfl) (by kernel_rfl) (by kernel_rfl) ?hqsb_4 ?hysb_4 (by assumption) ?rsb_4
      case hisb_4 => (simp only [List.getElem?_toArray, List.getElem?_cons_succ, List.getElem?_cons_zero]; rfl)
      case hqsb_4 => exact fun _ _ _ h => h
      case hysb_4 =>
        first
          | (refine Or.inl ⟨by rfl, ?_⟩; intro wq hSw; (try dsimp only at hSw); go_simp; (try with_reducible rfl); done)
          | (refine Or.inr ⟨by rfl, ?_⟩; with_reducible rfl)
      try simp only [Act.put, List.setIfInBounds_toArray, List.set_cons_zero, List.set_cons_succ]
      refine wpAnyH_take (i := 5) (oi := ?osb_5) (v := ?vsb_5) ?hisb_5 (by kernel_rfl) (by kernel_rfl) (by kernel_rfl) ?hqsb_5 ?hysb_5 (by assumption) ?rsb_5
      case hisb_5 => (simp only [List.getElem?_toArray, List.getElem?_cons_succ, List.getElem?_cons_zero]; rfl)
      case hqsb_5 => exact fun _ _ _ h => h
      case hysb_5 =>
        first
          | (refine Or.inl ⟨by rfl, ?_⟩; intro wq hSw; (try dsimp only at hSw); go_simp; (try with_reducible rfl); done)
          | (refine Or.inr ⟨by rfl, ?_⟩; with_reducible rfl)
      try simp only [Act.put, List.setIfInBounds_toArray, List.set_cons_zero, List.set_cons_succ]
      refine wpAnyH_take (i := 6) (oi := ?osb_6) (v := ?vsb_6) ?hisb_6 (by kernel_rfl) (by kernel_rfl) (by kernel_rfl) ?hqsb_6 ?hysb_6 (by assumption) ?rsb_6
      case hisb_6 => (simp only [List.getElem?_toArray, List.getElem?_cons_succ, List.getElem?_cons_zero]; rfl)
      case hqsb_6 => exact fun _ _ _ h => h
      case hysb_6 =>
        first
          | (refine Or.inl ⟨by rfl, ?_⟩; intro wq hSw; (try dsimp only at hSw); go_simp; (try with_reducible rfl); done)
          | (refine Or.inr ⟨by rfl, ?_⟩; with_reducible rfl)
      try simp only [Act.put, List.setIfInBounds_toArray, List.set_cons_zero, List.set_cons_succ]
      refine wpAnyH_take (i := 7) (oi := ?osb_7) (v := ?vsb_7) ?hisb_7 (by kernel_rfl) (by kernel_rfl) (by kernel_rfl) ?hqsb_7 ?hysb_7 (by assumption) ?rsb_7
      case hisb_7 => (simp only [List.getElem?_toArray, List.getElem?_cons_succ, List.getElem?_cons_zero]; rfl)
      case hqsb_7 => exact fun _ _ _ h => h
      case hysb_7 =>
        first
          | (refine Or.inl ⟨by rfl, ?_⟩; intro wq hSw; (try dsimp only at hSw); go_simp; (try with_reducible rfl); done)
          | (refine Or.inr ⟨by rfl, ?_⟩; with_reducible rfl)
      try simp only [Act.put, List.setIfInBounds_toArray, List.set_cons_zero, List.set_cons_succ]
      refine wpAnyH_take (i := 8) (oi := ?osb_8) (v := ?vsb_8) ?hisb_8 (by kernel_rfl) (by kernel_rfl) (by kernel_rfl) ?hqsb_8 ?hysb_8 (by assumption) ?rsb_8
      case hisb_8 => (simp only [List.getElem?_toArray, List.getElem?_cons_succ, List.getElem?_cons_zero]; rfl)
      case hqsb_8 => exact fun _ _ _ h => h
      case hysb_8 =>
        first
          | (refine Or.inl ⟨by rfl, ?_⟩; intro wq hSw; (try dsimp only at hSw); go_simp; (try with_reducible rfl); done)
          | (refine Or.inr ⟨by rfl, ?_⟩; with_reducible rfl)
      try simp only [Act.put, List.setIfInBounds_toArray, List.set_cons_zero, List.set_cons_succ]
      refine wpAnyH_take (i := 9) (oi := ?osb_9) (v := ?vsb_9) ?hisb_9 (by kernel_rfl) (by kernel_rfl) (by kernel_rfl) ?hqsb_9 ?hysb_9 (by assumption) ?rsb_9
      case hisb_9 => (simp only [List.getElem?_toArray, List.getElem?_cons_succ, List.getElem?_cons_zero]; rfl)
      case hqsb_9 => exact fun _ _ _ h => h
      case hysb_9 =>
        first
          | (refine Or.inl ⟨by rfl, ?_⟩; intro wq hSw; (try dsimp only at hSw); go_simp; (try with_reducible rfl); done)
          | (refine Or.inr ⟨by rfl, ?_⟩; with_reducible rfl)
      try simp only [Act.put, List.setIfInBounds_toArray, List.set_cons_zero, List.set_cons_succ]
      refine wpAnyH_take (i := 10) (oi := ?osb_10) (v := ?vsb_10) ?hisb_10 (by kernel_rfl) (by kernel_rfl) (by kernel_rfl) ?hqsb_10 ?hysb_10 (by assumption) ?rsb_10
      case hisb_10 => (simp only [List.getElem?_toArray, List.getElem?_cons_succ, List.getElem?_cons_zero]; rfl)
      case hqsb_10 => exact fun _ _ _ h => h
      case hysb_10 =>
        first
          | (refine Or.inl ⟨by rfl, ?_⟩; intro wq hSw; (try dsimp only at hSw); go_simp; (try with_reducible rfl); done)
          | (refine Or.inr ⟨by rfl, ?_⟩; with_reducible rfl)
      try simp only [Act.put, List.setIfInBounds_toArray, List.set_cons_zero, List.set_cons_succ]
      refine wpAnyH_take (i := 11) (oi := ?osb_11) (v := ?vsb_11) ?hisb_11 (by kernel_rfl) (by kernel_rfl) (by kernel_rfl) ?hqsb_11 ?hysb_11 (by assumption) ?rsb_11
      case hisb_11 => (simp only [List.getElem?_toArray, List.getElem?_cons_succ, List.getElem?_cons_zero]; rfl)
      case hqsb_11 => exact fun _ _ _ h => h
      case hysb_11 =>
        first
          | (refine Or.inl ⟨by rfl, ?_⟩; intro wq hSw; (try dsimp only at hSw); go_simp; (try with_reducible rfl); done)
          | (refine Or.inr ⟨by rfl, ?_⟩; with_reducible rfl)
      try simp only [Act.put, List.setIfInBounds_toArray, List.set_cons_zero, List.set_cons_succ]
      refine wpAnyH_take (i := 12) (oi := ?osb_12) (v := ?vsb_12) ?hisb_12 (by kernel_rfl) (by kernel_rfl) (by kernel_rfl) ?hqsb_12 ?hysb_12 (by assumption) ?rsb_12
      case hisb_12 => (simp only [List.getElem?_toArray, List.getElem?_cons_succ, List.getElem?_cons_zero]; rfl)
      case hqsb_12 => exact fun _ _ _ h => h
      case hysb_12 =>
        first
          | (refine Or.inl ⟨by rfl, ?_⟩; intro wq hSw; (try dsimp only at hSw); go_simp; (try with_reducible rfl); done)
          | (refine Or.inr ⟨by rfl, ?_⟩; with_reducible rfl)
      try simp only [Act.put, List.setIfInBounds_toArray, List.set_cons_zero, List.set_cons_succ]
      refine wpAnyH_take (i := 13) (oi := ?osb_13) (v := ?vsb_13) ?hisb_13 (by kernel_rfl) (by kernel_rfl) (by kernel_rfl) ?hqsb_13 ?hysb_13 (by assumption) ?rsb_13
      case hisb_13 => (simp only [List.getElem?_toArray, List.getElem?_cons_succ, List.getElem?_cons_zero]; rfl)
      case hqsb_13 => exact fun _ _ _ h => h
      case hysb_13 =>
        first
          | (refine Or.inl ⟨by rfl, ?_⟩; intro wq hSw; (try dsimp only at hSw); go_simp; (try with_reducible rfl); done)
          | (refine Or.inr ⟨by rfl, ?_⟩; with_reducible rfl)
      try simp only [Act.put, List.setIfInBounds_toArray, List.set_cons_zero, List.set_cons_succ]
      refine wpAnyH_take (i := 14) (oi := ?osb_14) (v := ?vsb_14) ?hisb_14 (by kernel_rfl) (by kernel_rfl) (by kernel_rfl) ?hqsb_14 ?hysb_14 (by assumption) ?rsb_14
      case hisb_14 => (simp only [List.getElem?_toArray, List.getElem?_cons_succ, List.getElem?_cons_zero]; rfl)
      case hqsb_14 => exact fun _ _ _ h => h
      case hysb_14 =>
        first
          | (refine Or.inl ⟨by rfl, ?_⟩; intro wq hSw; (try dsimp only at hSw); go_simp; (try with_reducible rfl); done)
          | (refine Or.inr ⟨by rfl, ?_⟩; with_reducible rfl)
      try simp only [Act.put, List.setIfInBounds_toArray, List.set_cons_zero, List.set_cons_succ]
      refine wpAnyH_take (i := 15) (oi := ?osb_15) (v := ?vsb_15) ?hisb_15 (by kernel_rfl) (by kernel_rfl) (by kernel_rfl) ?hqsb_15 ?hysb_15 (by assumption) ?rsb_15
      case hisb_15 => (simp only [List.getElem?_toArray, List.getElem?_cons_succ, List.getElem?_cons_zero]; rfl)
      case hqsb_15 => exact fun _ _ _ h => h
      case hysb_15 =>
        first
          | (refine Or.inl ⟨by rfl, ?_⟩; intro wq hSw; (try dsimp only at hSw); go_simp; (try with_reducible rfl); done)
          | (refine Or.inr ⟨by rfl, ?_⟩; with_reducible rfl)
      try simp only [Act.put, List.setIfInBounds_toArray, List.set_cons_zero, List.set_cons_succ]
      refine wpAnyH_take (i := 16) (oi := ?osb_16) (v := ?vsb_16) ?hisb_16 (by kernel_rfl) (by kernel_rfl) (by kernel_rfl) ?hqsb_16 ?hysb_16 (by assumption) ?rsb_16
      case hisb_16 => (simp only [List.getElem?_toArray, List.getElem?_cons_succ, List.getElem?_cons_zero]; rfl)
      case hqsb_16 => exact fun _ _ _ h => h
      case hysb_16 =>
        first
          | (refine Or.inl ⟨by rfl, ?_⟩; intro wq hSw; (try dsimp only at hSw); go_simp; (try with_reducible rfl); done)
          | (refine Or.inr ⟨by rfl, ?_⟩; with_reducible rfl)
      try simp only [Act.put, List.setIfInBounds_toArray, List.set_cons_zero, List.set_cons_succ]
      refine wpAnyH_take (i := 17) (oi := ?osb_17) (v := ?vsb_17) ?hisb_17 (by kernel_rfl) (by kernel_rfl) (by kernel_rfl) ?hqsb_17 ?hysb_17 (by assumption) ?rsb_17
      case hisb_17 => (simp only [List.getElem?_toArray, List.getElem?_cons_succ, List.getElem?_cons_zero]; rfl)
      case hqsb_17 => exact fun _ _ _ h => h
      case hysb_17 =>
        first
          | (refine Or.inl ⟨by rfl, ?_⟩; intro wq hSw; (try dsimp only at hSw); go_simp; (try with_reducible rfl); done)
          | (refine Or.inr ⟨by rfl, ?_⟩; with_reducible rfl)
      try simp only [Act.put, List.setIfInBounds_toArray, List.set_cons_zero, List.set_cons_succ]
      refine wpAnyH_take (i := 18) (oi := ?osb_18) (v := ?vsb_18) ?hisb_18 (by kernel_rfl) (by kernel_rfl) (by kernel_rfl) ?hqsb_18 ?hysb_18 (by assumption) ?rsb_18
      case hisb_18 => (simp only [List.getElem?_toArray, List.getElem?_cons_succ, List.getElem?_cons_zero]; rfl)
      case hqsb_18 => exact fun _ _ _ h => h
      case hysb_18 =>
        first
          | (refine Or.inl ⟨by rfl, ?_⟩; intro wq hSw; (try dsimp only at hSw); go_simp; (try with_reducible rfl); done)
          | (refine Or.inr ⟨by rfl, ?_⟩; with_reducible rfl)
      try simp only [Act.put, List.setIfInBounds_toArray, List.set_cons_zero, List.set_cons_succ]
      refine wpAnyH_take (i := 19) (oi := ?osb_19) (v := ?vsb_19) ?hisb_19 (by kernel_rfl) (by kernel_rfl) (by kernel_rfl) ?hqsb_19 ?hysb_19 (by assumption) ?rsb_19
      case hisb_19 => (simp only [List.getElem?_toArray, List.getElem?_cons_succ, List.getElem?_cons_zero]; rfl)
      case hqsb_19 => exact fun _ _ _ h => h
      case hysb_19 =>
        first
          | (refine Or.inl ⟨by rfl, ?_⟩; intro wq hSw; (try dsimp only at hSw); go_simp; (try with_reducible rfl); done)
          | (refine Or.inr ⟨by rfl, ?_⟩; with_reducible rfl)
      try simp only [Act.put, List.setIfInBounds_toArray, List.set_cons_zero, List.set_cons_succ]
      refine wpAnyH_take (i := 20) (oi := ?osb_20) (v := ?vsb_20) ?hisb_20 (by kernel_rfl) (by kernel_rfl) (by kernel_rfl) ?hqsb_20 ?hysb_20 (by assumption) ?rsb_20
      case hisb_20 => (simp only [List.getElem?_toArray, List.getElem?_cons_succ, List.getElem?_cons_zero]; rfl)
      case hqsb_20 => exact fun _ _ _ h => h
      case hysb_20 =>
        first
          | (refine Or.inl ⟨by rfl, ?_⟩; intro wq hSw; (try dsimp only at hSw); go_simp; (try with_reducible rfl); done)
          | (refine Or.inr ⟨by rfl, ?_⟩; with_reducible rfl)
      try simp only [Act.put, List.setIfInBounds_toArray, List.set_cons_zero, List.set_cons_succ]
      refine wpAnyH_take (i := 21) (oi := ?osb_21) (v := ?vsb_21) ?hisb_21 (by kernel_rfl) (by kernel_rfl) (by kernel_rfl) ?hqsb_21 ?hysb_21 (by assumption) ?rsb_21
      case hisb_21 => (simp only [List.getElem?_toArray, List.getElem?_cons_succ, List.getElem?_cons_zero]; rfl)
      case hqsb_21 => exact fun _ _ _ h => h
      case hysb_21 =>
        first
          | (refine Or.inl ⟨by rfl, ?_⟩; intro wq hSw; (try dsimp only at hSw); go_simp; (try with_reducible rfl); done)
          | (refine Or.inr ⟨by rfl, ?_⟩; with_reducible rfl)
      try simp only [Act.put, List.setIfInBounds_toArray, List.set_cons_zero, List.set_cons_succ]
      refine wpAnyH_take (i := 22) (oi := ?osb_22) (v := ?vsb_22) ?hisb_22 (by kernel_rfl) (by kernel_rfl) (by kernel_rfl) ?hqsb_22 ?hysb_22 (by assumption) ?rsb_22
      case hisb_22 => (simp only [List.getElem?_toArray, List.getElem?_cons_succ, List.getElem?_cons_zero]; rfl)
      case hqsb_22 => exact fun _ _ _ h => h
      case hysb_22 =>
        first
          | (refine Or.inl ⟨by rfl, ?_⟩; intro wq hSw; (try dsimp only at hSw); go_simp; (try with_reducible rfl); done)
          | (refine Or.inr ⟨by rfl, ?_⟩; with_reducible rfl)
      try simp only [Act.put, List.setIfInBounds_toArray, List.set_cons_zero, List.set_cons_succ]
      refine wpAnyH_take (i := 23) (oi := ?osb_23) (v := ?vsb_23) ?hisb_23 (by kernel_rfl) (by kernel_rfl) (by kernel_rfl) ?hqsb_23 ?hysb_23 (by assumption) ?rsb_23
      case hisb_23 => (simp only [List.getElem?_toArray, List.getElem?_cons_succ, List.getElem?_cons_zero]; rfl)
      case hqsb_23 => exact fun _ _ _ h => h
      case hysb_23 =>
        first
          | (refine Or.inl ⟨by rfl, ?_⟩; intro wq hSw; (try dsimp only at hSw); go_simp; (try with_reducible rfl); done)
          | (refine Or.inr ⟨by rfl, ?_⟩; with_reducible rfl)
      try simp only [Act.put, List.setIfInBounds_toArray, List.set_cons_zero, List.set_cons_succ]
      refine wpAnyH_take (i := 24) (oi := ?osb_24) (v := ?vsb_24) ?hisb_24 (by kernel_rfl) (by kernel_rfl) (by kernel_rfl) ?hqsb_24 ?hysb_24 (by assumption) ?rsb_24
      case hisb_24 => (simp only [List.getElem?_toArray, List.getElem?_cons_succ, List.getElem?_cons_zero]; rfl)
      case hqsb_24 => exact fun _ _ _ h => h
      case hysb_24 =>
        first
          | (refine Or.inl ⟨by rfl, ?_⟩; intro wq hSw; (try dsimp only at hSw); go_simp; (try with_reducible rfl); done)
          | (refine Or.inr ⟨by rfl, ?_⟩; with_reducible rfl)
      try simp only [Act.put, List.setIfInBounds_toArray, List.set_cons_zero, List.set_cons_succ]
      refine wpAnyH_take (i := 25) (oi := ?osb_25) (v := ?vsb_25) ?hisb_25 (by kernel_rfl) (by kernel_rfl) (by kernel_rfl) ?hqsb_25 ?hysb_25 (by assumption) ?rsb_25
      case hisb_25 => (simp only [List.getElem?_toArray, List.getElem?_cons_succ, List.getElem?_cons_zero]; rfl)
      case hqsb_25 => exact fun _ _ _ h => h
      case hysb_25 =>
        first
          | (refine Or.inl ⟨by rfl, ?_⟩; intro wq hSw; (try dsimp only at hSw); go_simp; (try with_reducible rfl); done)
          | (refine Or.inr ⟨by rfl, ?_⟩; with_reducible rfl)
      try simp only [Act.put, List.setIfInBounds_toArray, List.set_cons_zero, List.set_cons_succ]
      refine wpAnyH_take (i := 26) (oi := ?osb_26) (v := ?vsb_26) ?hisb_26 (by kernel_rfl) (by kernel_rfl) (by kernel_rfl) ?hqsb_26 ?hysb_26 (by assumption) ?rsb_26
      case hisb_26 => (simp only [List.getElem?_toArray, List.getElem?_cons_succ, List.getElem?_cons_zero]; rfl)
      case hqsb_26 => exact fun _ _ _ h => h
      case hysb_26 =>
        first
          | (refine Or.inl ⟨by rfl, ?_⟩; intro wq hSw; (try dsimp only at hSw); go_simp; (try with_reducible rfl); done)
          | (refine Or.inr ⟨by rfl, ?_⟩; with_reducible rfl)
      try simp only [Act.put, List.setIfInBounds_toArray, List.set_cons_zero, List.set_cons_succ]
      refine wpAnyH_take (i := 27) (oi := ?osb_27) (v := ?vsb_27) ?hisb_27 (by kernel_rfl) (by kernel_rfl) (by kernel_rfl) ?hqsb_27 ?hysb_27 (by assumption) ?rsb_27
      case hisb_27 => (simp only [List.getElem?_toArray, List.getElem?_cons_succ, List.getElem?_cons_zero]; rfl)
      case hqsb_27 => exact fun _ _ _ h => h
      case hysb_27 =>
        first
          | (refine Or.inl ⟨by rfl, ?_⟩; intro wq hSw; (try dsimp only at hSw); go_simp; (try with_reducible rfl); done)
          | (refine Or.inr ⟨by rfl, ?_⟩; with_reducible rfl)
      try simp only [Act.put, List.setIfInBounds_toArray, List.set_cons_zero, List.set_cons_succ]
      refine wpAnyH_take (i := 28) (oi := ?osb_28) (v := ?vsb_28) ?hisb_28 (by kernel_rfl) (by kernel_rfl) (by kernel_rfl) ?hqsb_28 ?hysb_28 (by assumption) ?rsb_28
      case hisb_28 => (simp only [List.getElem?_toArray, List.getElem?_cons_succ, List.getElem?_cons_zero]; rfl)
      case hqsb_28 => exact fun _ _ _ h => h
      case hysb_28 =>
        first
          | (refine Or.inl ⟨by rfl, ?_⟩; intro wq hSw; (try dsimp only at hSw); go_simp; (try with_reducible rfl); done)
          | (refine Or.inr ⟨by rfl, ?_⟩; with_reducible rfl)
      try simp only [Act.put, List.setIfInBounds_toArray, List.set_cons_zero, List.set_cons_succ]
      refine wpAnyH_take (i := 29) (oi := ?osb_29) (v := ?vsb_29) ?hisb_29 (by kernel_rfl) (by kernel_rfl) (by kernel_rfl) ?hqsb_29 ?hysb_29 (by assumption) ?rsb_29
      case hisb_29 => (simp only [List.getElem?_toArray, List.getElem?_cons_succ, List.getElem?_cons_zero]; rfl)
      case hqsb_29 => exact fun _ _ _ h => h
      case hysb_29 =>
        first
          | (refine Or.inl ⟨by rfl, ?_⟩; intro wq hSw; (try dsimp only at hSw); go_simp; (try with_reducible rfl); done)
          | (refine Or.inr ⟨by rfl, ?_⟩; with_reducible rfl)
      try simp only [Act.put, List.setIfInBounds_toArray, List.set_cons_zero, List.set_cons_succ]
      refine wpAnyH_take (i := 30) (oi := ?osb_30) (v := ?vsb_30) ?hisb_30 (by kernel_rfl) (by kernel_rfl) (by kernel_rfl) ?hqsb_30 ?hysb_30 (by assumption) ?rsb_30
      case hisb_30 => (simp only [List.getElem?_toArray, List.getElem?_cons_succ, List.getElem?_cons_zero]; rfl)
      case hqsb_30 => exact fun _ _ _ h => h
      case hysb_30 =>
        first
          | (refine Or.inl ⟨by rfl, ?_⟩; intro wq hSw; (try dsimp only at hSw); go_simp; (try with_reducible rfl); done)
          | (refine Or.inr ⟨by rfl, ?_⟩; with_reducible rfl)
      try simp only [Act.put, List.setIfInBounds_toArray, List.set_cons_zero, List.set_cons_succ]
      refine wpAnyH_take (i := 31) (oi := ?osb_31) (v := ?vsb_31) ?hisb_31 (by kernel_rfl) (by kernel_rfl) (by kernel_rfl) ?hqsb_31 ?hysb_31 (by assumption) ?rsb_31
      case hisb_31 => (simp only [List.getElem?_toArray, List.getElem?_cons_succ, List.getElem?_cons_zero]; rfl)
      case hqsb_31 => exact fun _ _ _ h => h
      case hysb_31 =>
        first
          | (refine Or.inl ⟨by rfl, ?_⟩; intro wq hSw; (try dsimp only at hSw); go_simp; (try with_reducible rfl); done)
          | (refine Or.inr ⟨by rfl, ?_⟩; with_reducible rfl)
      try simp only [Act.put, List.setIfInBounds_toArray, List.set_cons_zero, List.set_cons_succ]
      refine wpAnyH_take (i := 32) (oi := ?osb_32) (v := ?vsb_32) ?hisb_32 (by kernel_rfl) (by kernel_rfl) (by kernel_rfl) ?hqsb_32 ?hysb_32 (by assumption) ?rsb_32
      case hisb_32 => (simp only [List.getElem?_toArray, List.getElem?_cons_succ, List.getElem?_cons_zero]; rfl)
      case hqsb_32 => exact fun _ _ _ h => h
      case hysb_32 =>
        first
          | (refine Or.inl ⟨by rfl, ?_⟩; intro wq hSw; (try dsimp only at hSw); go_simp; (try with_reducible rfl); done)
          | (refine Or.inr ⟨by rfl, ?_⟩; with_reducible rfl)
      try simp only [Act.put, List.setIfInBounds_toArray, List.set_cons_zero, List.set_cons_succ]
      refine wpAnyH_take (i := 33) (oi := ?osb_33) (v := ?vsb_33) ?hisb_33 (by kernel_rfl) (by kernel_rfl) (by kernel_rfl) ?hqsb_33 ?hysb_33 (by assumption) ?rsb_33
      case hisb_33 => (simp only [List.getElem?_toArray, List.getElem?_cons_succ, List.getElem?_cons_zero]; rfl)
      case hqsb_33 => exact fun _ _ _ h => h
      case hysb_33 =>
        first
          | (refine Or.inl ⟨by rfl, ?_⟩; intro wq hSw; (try dsimp only at hSw); go_simp; (try with_reducible rfl); done)
          | (refine Or.inr ⟨by rfl, ?_⟩; with_reducible rfl)
      try simp only [Act.put, List.setIfInBounds_toArray, List.set_cons_zero, List.set_cons_succ]
      refine wpAnyH_take (i := 34) (oi := ?osb_34) (v := ?vsb_34) ?hisb_34 (by kernel_rfl) (by kernel_rfl) (by kernel_rfl) ?hqsb_34 ?hysb_34 (by assumption) ?rsb_34
      case hisb_34 => (simp only [List.getElem?_toArray, List.getElem?_cons_succ, List.getElem?_cons_zero]; rfl)
      case hqsb_34 => exact fun _ _ _ h => h
      case hysb_34 =>
        first
          | (refine Or.inl ⟨by rfl, ?_⟩; intro wq hSw; (try dsimp only at hSw); go_simp; (try with_reducible rfl); done)
          | (refine Or.inr ⟨by rfl, ?_⟩; with_reducible rfl)
      try simp only [Act.put, List.setIfInBounds_toArray, List.set_cons_zero, List.set_cons_succ]
      refine wpAnyH_take (i := 35) (oi := ?osb_35) (v := ?vsb_35) ?hisb_35 (by kernel_rfl) (by kernel_rfl) (by kernel_rfl) ?hqsb_35 ?hysb_35 (by assumption) ?rsb_35
      case hisb_35 => (simp only [List.getElem?_toArray, List.getElem?_cons_succ, List.getElem?_cons_zero]; rfl)
      case hqsb_35 => exact fun _ _ _ h => h
      case hysb_35 =>
        first
          | (refine Or.inl ⟨by rfl, ?_⟩; intro wq hSw; (try dsimp only at hSw); go_simp; (try with_reducible rfl); done)
          | (refine Or.inr ⟨by rfl, ?_⟩; with_reducible rfl)
      try simp only [Act.put, List.setIfInBounds_toArray, List.set_cons_zero, List.set_cons_succ]
      refine wpAnyH_take (i := 36) (oi := ?osb_36) (v := ?vsb_36) ?hisb_36 (by kernel_rfl) (by kernel_rfl) (by kernel_rfl) ?hqsb_36 ?hysb_36 (by assumption) ?rsb_36
      case hisb_36 => (simp only [List.getElem?_toArray, List.getElem?_cons_succ, List.getElem?_cons_zero]; rfl)
      case hqsb_36 => exact fun _ _ _ h => h
      case hysb_36 =>
        first
          | (refine Or.inl ⟨by rfl, ?_⟩; intro wq hSw; (try dsimp only at hSw); go_simp; (try with_reducible rfl); done)
          | (refine Or.inr ⟨by rfl, ?_⟩; with_reducible rfl)
      try simp only [Act.put, List.setIfInBounds_toArray, List.set_cons_zero, List.set_cons_succ]
      refine wpAnyH_take (i := 37) (oi := ?osb_37) (v := ?vsb_37) ?hisb_37 (by kernel_rfl) (by kernel_rfl) (by kernel_rfl) ?hqsb_37 ?hysb_37 (by assumption) ?rsb_37
      case hisb_37 => (simp only [List.getElem?_toArray, List.getElem?_cons_succ, List.getElem?_cons_zero]; rfl)
      case hqsb_37 => exact fun _ _ _ h => h
      case hysb_37 =>
        first
          | (refine Or.inl ⟨by rfl, ?_⟩; intro wq hSw; (try dsimp only at hSw); go_simp; (try with_reducible rfl); done)
          | (refine Or.inr ⟨by rfl, ?_⟩; with_reducible rfl)
      try simp only [Act.put, List.setIfInBounds_toArray, List.set_cons_zero, List.set_cons_succ]
      refine wpAnyH_take (i := 38) (oi := ?osb_38) (v := ?vsb_38) ?hisb_38 (by kernel_rfl) (by kernel_rfl) (by kernel_rfl) ?hqsb_38 ?hysb_38 (by assumption) ?rsb_38
      case hisb_38 => (simp only [List.getElem?_toArray, List.getElem?_cons_succ, List.getElem?_cons_zero]; rfl)
      case hqsb_38 => exact fun _ _ _ h => h
      case hysb_38 =>
        first
          | (refine Or.inl ⟨by rfl, ?_⟩; intro wq hSw; (try dsimp only at hSw); go_simp; (try with_reducible rfl); done)
          | (refine Or.inr ⟨by rfl, ?_⟩; with_reducible rfl)
      try simp only [Act.put, List.setIfInBounds_toArray, List.set_cons_zero, List.set_cons_succ]
      refine wpAnyH_done (by kernel_rfl) ?_ _
      go_wp2_with fail
      go_roundg (n - (k + 1))
      case measure => omega
      case rel => exact ⟨k + 1, by omega, rfl, by go_num, Lib.hid (below_drew B.out)⟩
    · have hge : ¬ (k : Int) < (n : Int) := by omega
      go_wp2
      go_ret
      exact ⟨rfl, B.out⟩
end Go.Proofs.Ytmkgddbdkpkgpaa
end
