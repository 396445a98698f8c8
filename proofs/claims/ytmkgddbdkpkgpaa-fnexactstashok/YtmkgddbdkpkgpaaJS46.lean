/- MpE in one. Written by tools/join2.py. -/
import Derived.Test.YtmkgddbdkpkgpaaJS44
import Derived.Test.YtmkgddbdkpkgpaaJS23
import Derived.Test.YtmkgddbdkpkgpaaJS40
section
namespace Go.Proofs.Ytmkgddbdkpkgpaa
open Go.RowKit Go.Maps
set_option linter.unusedVariables false
set_option linter.unusedSimpArgs false
set_option maxRecDepth 100000

theorem Chg.newer {lo hi : Nat} {w1 wr w5 : World} {row : Option Nat} (h : Chg lo hi w1 wr) (hg : wr.grownBy w5 row) (hr : ∀ x, row = some x → w1.heap.size ≤ x) : Chg lo hi w1 w5 :=
  ⟨hg.os.trans h.os, hg.tape.trans h.tape, hg.output.trans h.output, Nat.le_trans h.size hg.size, fun k hk hn => (hg.block k (Nat.lt_of_lt_of_le hk h.size) (fun e => by have := hr k e.symm; omega)).trans (h.block k hk hn)⟩
/-- A state of the plan: the row, the map of what stays. -/
structure EvB (w1 : World) (b nn : Nat) (es rs : List BElt) (ao : Option Addr) (co : Nat) (s : EvS) (wr : World) : Prop where
  row : wr.ownsRow w1.heap.size 43 2 (.slice ao s.out.length co) s.out.length (flatG putL s.out)
  map : OwnsB wr b nn rs
  rest : rs.map Elt.m = s.rest
  pair : rs.Pairwise eltLt
  sub : ∀ e ∈ rs, e ∈ es
  len : rs.length ≤ es.length
  chg : Chg b (b + 1) w1 wr
  low : b < w1.heap.size
theorem EvB.below {w1 wr w' : World} {b nn : Nat} {es rs : List BElt} {ao : Option Addr} {co : Nat} {s : EvS} (h : EvB w1 b nn es rs ao co s wr) (hb : Below wr.heap.size wr w') : EvB w1 b nn es rs ao co s w' :=
  ⟨own_below h.row hb, h.map.below hb, h.rest, h.pair, h.sub, h.len, h.chg.trans (Chg.of_below hb), h.low⟩
theorem EvB.put {w1 wr w5 : World} {b nn : Nat} {es rs : List BElt} {ao : Option Addr} {co : Nat} {s : EvS} {lev zi : Int} {v : Value} (h : EvB w1 b nn es rs ao co s wr)
    (ho : w5.ownsRow w1.heap.size 43 2 v (s.out.length + 1) (flatG putL s.out ++ [.int .i64 lev, .int .i64 zi])) (hg : (wr.alloc (.cells #[.int .i64 lev, .int .i64 zi] 43)).grownBy w5 (Value.slice ao s.out.length co).ownBlock) :
    ∃ a5 c5, v = .slice a5 (s.out.length + 1) c5 ∧ OwnsB w5 b nn rs ∧ (∀ w6, w5.grownBy w6 (some b) → OwnsB w6 b nn (dropE rs zi) → EvB w1 b nn es (dropE rs zi) a5 c5 ⟨withoutL s.rest zi, s.out ++ [⟨lev, zi⟩], s.n + 1⟩ w6) := by
  obtain ⟨a5, c5, rfl⟩ := own_shape ho
  have bx := below_box (Below.refl wr.heap.size wr) (.cells #[.int .i64 lev, .int .i64 zi] 43)
  have k3 := h.below bx
  have hne : ∀ x, (Value.slice ao s.out.length co).ownBlock = some x → w1.heap.size ≤ x := fun x hx => (h.row.lt x hx).1
  have hlow := h.low
  have m5 : OwnsB w5 b nn rs := k3.map.block (hg.block b k3.map.lt (fun e => by have := hne b e.symm; omega))
  have e5 : Chg b (b + 1) w1 w5 := k3.chg.newer hg hne
  refine ⟨a5, c5, rfl, m5, fun w6 hg6 hm6 => ⟨?_, hm6, ?_, dropE_pair h.pair zi, fun e he => h.sub e (mem_dropE.1 he).1, Nat.le_trans (List.length_filter_le _ _) h.len, e5.trans (Chg.of_grown hg6 (fun k hk => by cases hk; omega)), h.low⟩⟩
  · have e6 : (s.out ++ [(⟨lev, zi⟩ : PutM)]).length = s.out.length + 1 := by simp
    show w6.ownsRow w1.heap.size 43 2 (.slice a5 (s.out ++ [(⟨lev, zi⟩ : PutM)]).length c5) (s.out ++ [(⟨lev, zi⟩ : PutM)]).length (flatG putL (s.out ++ [⟨lev, zi⟩]))
    rw [e6, flatG_app]
    have o6 : w6.ownsRow w1.heap.size 43 2 (.slice a5 (s.out.length + 1) c5) (s.out.length + 1) (flatG putL s.out ++ [.int .i64 lev, .int .i64 zi]) := own_keptF ho (fun x hx => hg6.block x (ho.lt x hx).2 (fun e => by
      have := (ho.lt x hx).1
      simp at e
      omega))
    simpa [flatG, putL] using o6
  · rw [dropE_map, h.rest]
theorem elt_same {es : List BElt} (hp : es.Pairwise eltLt) {x y : BElt} (hx : x ∈ es) (hy : y ∈ es) (h : x.m.id = y.m.id) : x = y := by
  obtain ⟨i, hi, rfl⟩ := List.mem_iff_getElem.1 hx
  obtain ⟨j, hj, rfl⟩ := List.mem_iff_getElem.1 hy
  rw [List.pairwise_iff_getElem] at hp
  rcases Nat.lt_trichotomy i j with h1 | rfl | h1
  · have h2 : es[i].m.id < es[j].m.id := hp i j hi hj h1
    omega
  · rfl
  · have h2 : es[j].m.id < es[i].m.id := hp j i hj hi h1
    omega
/-- What a look at a block of the list finds in the map. -/
theorem look_mapD {es rs : List BElt} (hp : es.Pairwise eltLt) (hr : rs.Pairwise eltLt) (hs : ∀ e ∈ rs, e ∈ es) (hl : rs.length ≤ 128) {x : BElt} (hx : x ∈ es) :
    Maps.has (mapD rs) (kL x.m.id) = sFindB (rs.map Elt.m) x.m.id ∧ (sFindB (rs.map Elt.m) x.m.id = true → (mapD rs).atKey (kL x.m.id) (.held zeroV) = .held (vE x)) ∧ (sFindB (rs.map Elt.m) x.m.id = false → (mapD rs).atKey (kL x.m.id) (.held zeroV) = .held zeroV) := by
  have h1 : Maps.has (mapD rs) (kL x.m.id) = sFindB (rs.map Elt.m) x.m.id := by
    rw [has_mapD]
    unfold sFindB
    rw [List.length_map, decide_eq_true hl, Bool.true_and]
  refine ⟨h1, fun h => ?_, fun h => Maps.atKey_of_not_has (h1.trans h) _⟩
  unfold sFindB at h
  rw [Bool.and_eq_true] at h
  obtain ⟨m, hm, hd⟩ := List.any_eq_true.1 h.2
  obtain ⟨y, hy, rfl⟩ := List.mem_map.1 hm
  have he := elt_same hp (hs y hy) hx (by simpa using hd)
  subst he
  exact at_mapD hr hy _
def EvPost (g : Nat) (a : Int) (es : List BElt) (b nn : Nat) (w : World) (e : Ending) (w' : World) : Prop :=
  ∃ (r : Value) (rs : List BElt), e = .returned r ∧ PutSOwn w.heap.size w'.heap.size [r] (evAll (evF g a) g (es.map Elt.m) (g + 1)).out w' ∧ OwnsB w' b nn rs ∧ rs.map Elt.m = (evAll (evF g a) g (es.map Elt.m) (g + 1)).rest ∧ rs.Pairwise eltLt ∧ (∀ e ∈ rs, e ∈ es) ∧ rs.length ≤ es.length ∧ Chg b (b + 1) w w'
set_option maxHeartbeats 4000000 in
theorem implEvict {b nn g : Nat} {a : Int} {es : List BElt} {w : World} (hown : OwnsB w b nn es) (hl : es.length ≤ 128) (hp : es.Pairwise eltLt) (hw : ∀ e ∈ es, wfZ e.m.id) (hin : ∀ e ∈ es, BlockIn e.cs e.m w) (hlf : ∀ e ∈ es, -9223372036854775808 ≤ e.m.leaf ∧ e.m.leaf ≤ 9223372036854775807) (hg : g ≤ 6) (hleaf : -9223372036854775808 ≤ a ∧ a ≤ 9223372036854775807) :
    Calls Try.prog 61 #[.map (some b), .int .i64 g, .int .i64 a] w (EvPost g a es b nn w) := by
  have SI := Lib.hid (implSortedIds hp (by omega) hown)
  have EL := Lib.hid (show ∀ k (hk : k < es.length), ∃ x z, vE es[k] = .agg #[.int .i64 es[k].m.id, .int .i64 es[k].m.leaf, .slice x es[k].m.data.length z] ∧ wfZ es[k].m.id ∧ es[k] ∈ es from fun k hk => by
    have hm := List.getElem_mem hk
    obtain ⟨x, z, hcs⟩ := blk_cs (hin _ hm)
    exact ⟨x, z, by unfold vE; rw [hcs], hw _ hm, hm⟩)
  have LK := Lib.hid (fun rs hr hs hl x hx => look_mapD (es := es) (rs := rs) hp hr hs hl (x := x) hx)
  have MT := Lib.hid (show ∀ k (hk : k < es.length) w', Calls Try.prog 80 #[.int .i64 g, .int .i64 es[k].m.leaf, .int .i64 a] w' fun e w'' => e = .returned (.int .i64 (evF g a es[k].m)) ∧ Below w'.heap.size w' w'' from fun k hk w' => uImplMeet g es[k].m.leaf a w' (by omega) (hlf _ (List.getElem_mem hk)) hleaf)
  have OW := Lib.hid hown
  have HP := Lib.hid hp
  have hbl := hown.lt
  unfold EvPost
  have LM : ∃ l, es.map Elt.m = l := ⟨_, rfl⟩
  obtain ⟨l, hl2⟩ := LM
  have ML := Lib.hid (show ∀ k (hk : k < es.length) (hk2 : k < l.length), l[k] = es[k].m from fun k hk hk2 => by subst hl2; simp)
  have LL := Lib.hid (show l.length = es.length by subst hl2; simp)
  have RL := Lib.hid hl2
  rw [hl2]
  clear hin hw hp hlf hleaf hown hl2
  generalize evF g a = f at *
  have IV := Lib.hid (fun j => evAll_inv f g l j)
  go_enter Try.func61, Try.ntmps61
  go_wp2_with fail
  refine SI.out.mono ?_
  rintro e w1 ⟨ar, cr, rfl, hro, hb1⟩
  have B1 := Lib.hid hb1
  have RO := Lib.hid (lies_made hro)
  have hsz1 := hb1.size
  have S0 := Lib.hid (show EvB w1 b nn es es none 0 (evAll f g l 0) w1 from ⟨⟨rfl, .inl ⟨rfl, rfl⟩⟩, OW.out.below hb1, RL.out, HP.out, fun _ h => h, Nat.le_refl _, Chg.refl _ _ _, by omega⟩)
  clear hro hb1 SI OW HP
  go_wp2_with fail
  go_loopg [7, 9] (g + 1) (fun kk ov lv wr => ∃ (j : Nat) (ao : Option Addr) (co : Nat) (S : EvS) (rs : List BElt), j ≤ g + 1 ∧ g + 1 - j = kk ∧ ov = .slice ao S.out.length co ∧ lv = .int .i64 ((g : Int) - (j : Int)) ∧ Hid (S = evAll f g l j) ∧ Hid (EvB w1 b nn es rs ao co S wr))
  case atStart => exact ⟨0, none, 0, _, es, Nat.zero_le _, rfl, rfl, by simp, Lib.hid rfl, S0⟩
  case round =>
    clear S0
    obtain ⟨j, ao, co, S, rs, hj, hjj, rfl, rfl, HS1, HW⟩ := hrel
    by_cases hlt : j < g + 1
    · have I1 := (IV.out j).1
      rw [← HS1.out] at I1
      have I2 := (IV.out j).2
      rw [← HS1.out] at I2
      have NX := Lib.hid (show evAll f g l (j + 1) = evK f ((g : Int) - (j : Int)) l ⟨S.rest, S.out, 0⟩ l.length by rw [HS1.out]; rfl)
      have KI := Lib.hid (fun k hk => evK_inv (l := l) (f := f) (lev := (g : Int) - (j : Int)) (s := ⟨S.rest, S.out, 0⟩) ⟨I1.rest, by simp⟩ k hk)
      have hl0 : (0 : Int) ≤ (g : Int) - (j : Int) := by omega
      have hlev : decide (0 ≤ (g : Int) - (j : Int)) = true := by simp; omega
      have hl6 : (g : Int) - (j : Int) ≤ 6 := by omega
      have LN := Lib.hid (show ((g : Int) - (j : Int)) - 1 = (g : Int) - ((j + 1 : Nat) : Int) by omega)
      have hol : S.out.length ≤ 28 := by omega
      obtain ⟨lev, hv⟩ : ∃ x, (g : Int) - (j : Int) = x := ⟨_, rfl⟩
      rw [hv] at hlev hl0 hl6 NX KI LN ⊢
      clear hv I1 I2 HS1
      have W0 := Lib.hid (show EvB w1 b nn es rs ao co ⟨S.rest, S.out, 0⟩ wr from ⟨HW.out.row, HW.out.map, HW.out.rest, HW.out.pair, HW.out.sub, HW.out.len, HW.out.chg, HW.out.low⟩)
      clear HW
      obtain ⟨wO, hwO⟩ : ∃ x, x = wr := ⟨_, rfl⟩
      subst hwO
      go_wp2_with fail
      go_loopg [7, 10, 24] es.length (fun kk ov nv iv wr => ∃ (k : Nat) (ao : Option Addr) (co : Nat) (s : EvS) (rs : List BElt), k ≤ es.length ∧ es.length - k = kk ∧ ov = .slice ao s.out.length co ∧ nv = .int .i64 (4 - (s.n : Int)) ∧ iv = .int .i64 k ∧ Hid (s = evK f lev l ⟨S.rest, S.out, 0⟩ k) ∧ Hid (EvB w1 b nn es rs ao co s wr))
      case atStart => exact ⟨0, _, _, ⟨S.rest, S.out, 0⟩, rs, Nat.zero_le _, rfl, rfl, by simp, rfl, Lib.hid (evK_zero _ _ _ _).symm, W0⟩
      case round =>
        clear W0
        obtain ⟨k, ao, co, s, rs, hk, hkk, rfl, rfl, rfl, HS2, HW⟩ := hrel
        by_cases hlk : k < es.length
        · have hkI : (k : Int) < (es.length : Int) := by omega
          have hk0 : (0 : Int) ≤ (k : Int) := by omega
          have hll : k < l.length := by rw [LL.out]; exact hlk
          have I1 := (KI.out k (Nat.le_of_lt hll)).1
          rw [← HS2.out] at I1
          have I2 := (KI.out k (Nat.le_of_lt hll)).2
          rw [← HS2.out] at I2
          have hs4 := I1.cap
          have hso : s.out.length ≤ 32 := by have := I2; simp only [Nat.add_zero] at this; omega
          have NK := Lib.hid (show evK f lev l ⟨S.rest, S.out, 0⟩ (k + 1) = evStep f lev s es[k].m by rw [evK_succ _ _ _ _ hll, ← HS2.out, ML.out k hlk hll])
          obtain ⟨x, z, qv, qw, qm⟩ := EL.out k hlk
          have L3 := LK.out rs HW.out.pair HW.out.sub (Nat.le_trans HW.out.len hl) es[k] qm
          rw [HW.out.rest, qv] at L3
          obtain ⟨gr, og, hgr, hc⟩ := (Row.of_own (RO.out.chg HW.out.chg (.inr (by omega))).now).at (i := k) (by unfold idsE; simpa using hlk)
          subst hgr
          have t0 : wr.cell? ⟨gr, og + k, none⟩ = some (.int .i64 es[k].m.id) := by
            rw [hc]
            unfold idsE
            simp [hlk]
          have MK := Lib.hid (MT.out k hlk)
          obtain ⟨m, hm⟩ : ∃ m, es[k].m = m := ⟨_, rfl⟩
          rw [hm] at NK L3 t0 MK qw
          have EC := Lib.hid (show evC f lev s m = (sFindB s.rest m.id && (decide (s.n < 4) && decide (lev ≤ f m))) from rfl)
          have ES := Lib.hid (show evStep f lev s m = if evC f lev s m = true then evTake lev s m else s from rfl)
          obtain ⟨u, hu⟩ : ∃ u, f m = u := ⟨_, rfl⟩
          rw [hu] at MK EC
          obtain ⟨dn, hdn⟩ : ∃ n, m.data.length = n := ⟨_, rfl⟩
          rw [hdn] at L3
          obtain ⟨zf, hzf⟩ : ∃ z, m.leaf = z := ⟨_, rfl⟩
          rw [hzf] at L3 MK
          have ET := Lib.hid (show evTake lev s m = ⟨withoutL s.rest m.id, s.out ++ [⟨lev, m.id⟩], s.n + 1⟩ from rfl)
          obtain ⟨zi, hzi⟩ : ∃ z, m.id = z := ⟨_, rfl⟩
          rw [hzi] at L3 t0 qw EC ET
          have QH := Lib.hid L3.1
          have QT := Lib.hid L3.2.1
          have QF := Lib.hid L3.2.2
          have QW := Lib.hid qw
          have OW := Lib.hid HW.out.map
          clear hc I1 I2 HS2 hu hdn hzf hzi hm L3 qv qw qm
          cases hq : sFindB s.rest zi
          · have NE := Lib.hid (show s = evK f lev l ⟨S.rest, S.out, 0⟩ (k + 1) by rw [NK.out, ES.out, EC.out, hq]; rfl)
            have QA := Lib.hid (show (mapD rs).atKey (kL zi) (.held zeroV) = .held (.agg #[.int .i64 0, .int .i64 0, .slice none 0 0]) from QF.out hq)
            have W5 := Lib.hid (HW.out.below (below_box (Below.refl _ _) (.cells #[.int .i64 0, .int .i64 0, .slice none 0 0] 26)))
            rw [hq] at QH
            clear hq EC ES NK MK QT QF ET HW
            go_wp2_with (at_lookup; go_must (refine wp_look_ok rfl _ _ rfl (b := b) rfl OW.out rfl QW.out _ false QA.out QH.out ?_))
            go_roundg (es.length - (k + 1))
            case measure => omega
            case rel => exact ⟨k + 1, _, _, _, _, by omega, rfl, rfl, rfl, by go_num, NE, W5⟩
          · have QA := Lib.hid (QT.out hq)
            have W5 := Lib.hid (HW.out.below (below_box (Below.refl _ _) (.cells #[.int .i64 zi, .int .i64 zf, .slice x dn z] 26)))
            rw [hq] at QH EC
            clear hq QT QF HW
            obtain ⟨q, hqq⟩ : ∃ q, 4 - (s.n : Int) = q := ⟨_, rfl⟩
            have HQ := Lib.hid hqq
            by_cases hn : s.n < 4
            · have hq0 : 0 < q := by omega
              have hq4 : q ≤ 4 := by omega
              have hqe : (q == 0) = false := by simp; omega
              rw [hqq]
              clear hqq
              go_wp2_with (at_lookup; go_must (refine wp_look_ok rfl _ _ rfl (b := b) rfl OW.out rfl QW.out _ true QA.out QH.out ?_))
              refine (MK.out _).mono ?_
              rintro e w6 ⟨rfl, hb6⟩
              have W6 := Lib.hid (W5.out.below hb6)
              clear hb6 W5 MK OW QA QH
              by_cases hm : lev ≤ u
              · have hm4 : decide (lev ≤ u) = true := by simpa using hm
                have hm5 : decide (u < lev) = false := by simp; omega
                have NE := Lib.hid (show evTake lev s m = evK f lev l ⟨S.rest, S.out, 0⟩ (k + 1) by rw [NK.out, ES.out, EC.out, decide_eq_true hn, hm4]; rfl)
                rw [ET.out] at NE
                have ROW := Lib.hid (own_below W6.out.row (below_box (Below.refl w6.heap.size w6) (.cells #[.int .i64 lev, .int .i64 zi] 43)))
                have PU := Lib.hid (fun v7 w7 ho hg => W6.out.put (v := v7) (w5 := w7) (lev := lev) (zi := zi) ho hg)
                have hsz6 := W6.out.chg.size
                have e9 : q - 1 = 4 - ((s.n + 1 : Nat) : Int) := by have := HQ.out; omega
                have E9 := Lib.hid e9
                clear EC ES NK W6 ET e9 hm4
                obtain ⟨n, hn'⟩ : ∃ n, s.out.length = n := ⟨_, rfl⟩
                have HN := Lib.hid hn'
                rw [hn'] at ROW PU hso ⊢
                clear hn'
                go_wp2_with (first
                  | (at_delete; go_must (refine wp_delete rfl _ _ rfl (b := b) rfl M7.out rfl QW.out ?_); intro w8 ho8 hg8)
                  | (at_builtin; go_must (refine wp_app_rowS rfl _ _ 38 rfl 43 _ 2 16 Try.underlying38 Try.infoPut rfl (by omega) w1.heap.size n (.slice ao n co) (flatG putL s.out) (by rfl) ROW.out (some ⟨w6.heap.size, 0, none⟩) 1 1 [.int .i64 lev, .int .i64 zi] (by rfl) rfl (lit_rowB w6 [.int .i64 lev, .int .i64 zi] 43) (by intro u hu; simp at hu; rcases hu with rfl | rfl <;> rfl) (by unfold maxLen; omega) (by omega) (by simp; omega) ?_); intro v7 w7 ho7 hg7; obtain ⟨a7, c7, rfl, m7, z7⟩ := PU.out v7 w7 ho7 hg7; have M7 := Lib.hid m7; have Z7 := Lib.hid z7; clear PU ROW ho7 hg7 m7 z7))
                have Z := Lib.hid (Z7.out w8 hg8 ho8)
                clear Z7 M7 hg8 ho8
                go_roundg (es.length - (k + 1))
                case measure => omega
                case rel => exact ⟨k + 1, _, _, _, _, by omega, rfl, by simp only [List.length_append, List.length_singleton]; rw [HN.out], by rw [← E9.out], by go_num, NE, Z⟩
              · have hm4 : decide (lev ≤ u) = false := by simpa using hm
                have hm5 : decide (u < lev) = true := by simp; omega
                have NE := Lib.hid (show s = evK f lev l ⟨S.rest, S.out, 0⟩ (k + 1) by rw [NK.out, ES.out, EC.out, hm4, Bool.and_false, Bool.and_false]; rfl)
                clear EC ES NK ET hm4
                go_wp2
                go_roundg (es.length - (k + 1))
                case measure => omega
                case rel => exact ⟨k + 1, _, _, _, _, by omega, rfl, rfl, by rw [HQ.out], by go_num, NE, W6⟩
            · have hq0 : q = 0 := by omega
              have NE := Lib.hid (show s = evK f lev l ⟨S.rest, S.out, 0⟩ (k + 1) by rw [NK.out, ES.out, EC.out, decide_eq_false hn, Bool.false_and, Bool.and_false]; rfl)
              rw [hqq, hq0]
              clear EC ES NK MK ET hqq
              go_wp2_with (at_lookup; go_must (refine wp_look_ok rfl _ _ rfl (b := b) rfl OW.out rfl QW.out _ true QA.out QH.out ?_))
              go_roundg (es.length - (k + 1))
              case measure => omega
              case rel => exact ⟨k + 1, _, _, _, _, by omega, rfl, rfl, by rw [← hq0, HQ.out], by go_num, NE, W5⟩
        · have hkl : k = es.length := by omega
          have hge : ¬ (k : Int) < (es.length : Int) := by omega
          have hge2 : decide ((k : Int) < (es.length : Int)) = false := by simpa using hge
          have NE := Lib.hid (show s = evAll f g l (j + 1) by rw [NX.out, LL.out, ← hkl]; exact HS2.out)
          clear HS2
          go_wp2
          go_roundg (g + 1 - (j + 1))
          case measure => omega
          case rel => exact ⟨j + 1, _, _, _, _, by omega, rfl, rfl, by rw [← LN.out], NE, HW⟩
    · have hjg : j = g + 1 := by omega
      have hlev : (g : Int) - (j : Int) = -1 := by omega
      rw [hlev]
      have Z := Lib.hid ((PutSOwn.mk (l := S.out) HW.out.row).wide hsz1 (Nat.le_refl _))
      have C := Lib.hid ((Chg.of_below (lo := b) (hi := b + 1) B1.out).trans HW.out.chg)
      have E2 := Lib.hid (show S = evAll f g l (g + 1) by rw [HS1.out, hjg])
      have H2 := Lib.hid HW.out
      clear HW HS1
      go_wp2
      go_ret
      rw [← E2.out]
      exact ⟨_, rs, rfl, Z.out, H2.out.map, H2.out.rest, H2.out.pair, H2.out.sub, H2.out.len, C.out⟩
end Go.Proofs.Ytmkgddbdkpkgpaa
end
