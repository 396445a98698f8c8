/- sync.Once calls the function that makes a plan's net; newNet. -/
import Derived.Test.YtaedamnhobcdlaaNtO
import Derived.Test.YtaedamnhobcdlaaNetU
namespace Go.Proofs.Ytaedamnhobcdlaa
open Go.RowKit
set_option linter.unusedVariables false
set_option linter.unusedSimpArgs false
set_option maxRecDepth 100000

/-- What lies where a plan is asked for its net: the plan, its steps and what they hold. -/
structure PlanIn (pb Bn n sf : Nat) (caps : Array Value) (σs : List (Nat → Nat)) (dn st se : Int) (w : World) : Prop where
  h64 : n ≤ 64
  hsf : ∀ args w, (callFunc sf args).run Try.prog w = .ok (.enter sf args) w
  hst : ∀ (m l B : Nat) (I : Nat → World → Prop) (Kp : World → World → Prop) (W : World), (∀ k W1, I k W1 → W1.cell? ⟨Bn, 0, none⟩ = some (.int .i64 n)) → SeqAll Try.prog m sf #[] caps σs.length l B I (StepV σs) Kp W
  hlen : (allW n σs).length ≤ 4096
  hB : w.heap[Bn]? = some (.cells #[.int .i64 n] 3 (0, 0))
  hp : w.heap[pb]? = some (.cells (planC n (.func (.func sf) #[] caps) dn st se 0 (.slice none 0 0)) 113 (0, 0))
theorem PlanIn.ne {pb Bn n sf : Nat} {caps : Array Value} {σs : List (Nat → Nat)} {dn st se : Int} {w : World} (h : PlanIn pb Bn n sf caps σs dn st se w) : Bn ≠ pb := fun e => by
  have h1 := h.hB
  have h2 := h.hp
  rw [e, h2] at h1
  injection h1 with h1
  injection h1 with _ h1
  exact absurd h1 (by decide)
theorem PlanIn.lock {pb Bn n sf : Nat} {caps : Array Value} {σs : List (Nat → Nat)} {dn st se : Int} {w : World} (h : PlanIn pb Bn n sf caps σs dn st se w) (d : Int) : PlanIn pb Bn n sf caps σs dn d se (w.setCell ⟨pb, 3, none⟩ (.int .i32 d)) :=
  ⟨h.h64, h.hsf, h.hst, h.hlen, (Below.heap_setCell _ _ _ _ h.ne).trans h.hB, cur_set h.hp 3 _⟩
theorem PlanIn.below {pb Bn n sf : Nat} {caps : Array Value} {σs : List (Nat → Nat)} {dn st se : Int} {w w' : World} (h : PlanIn pb Bn n sf caps σs dn st se w) (hb : Below w.heap.size w w') : PlanIn pb Bn n sf caps σs dn st se w' :=
  ⟨h.h64, h.hsf, h.hst, h.hlen, kept_block h.hB hb, kept_block h.hp hb⟩
theorem PlanAt.base {w w0 W : World} {pb n k : Nat} {sv : Value} {dn st se : Int} {ws : List WireM} (h : PlanAt w pb n sv dn st se ws k W) (hs : w0.heap.size = w.heap.size) (hg : w0.grownBy w (some pb)) : PlanAt w0 pb n sv dn st se ws k W := by
  obtain ⟨a, cap, h1, h2, h3⟩ := h
  exact ⟨a, cap, h1, by rw [hs]; exact h2, grown_trans hg h3⟩
theorem loadC (a : Addr) (w : World) (h : w.cell? a = some (.int .u32 0)) : Calls Try.prog 106 #[.pointer (some a)] w fun e w' => e = .returned (.bool false) ∧ w' = w := by
  have hl := run_call_load (P := Try.prog) Try.func109 (by kernel_rfl) (by kernel_rfl) (by kernel_rfl) .u32 (by kernel_rfl) (w := w) (a := a) (x := 0) h
  go_enter Try.func106, Try.ntmps106
  go_wp2
  go_ret
  exact ⟨rfl, rfl⟩
set_option maxHeartbeats 2000000 in
theorem slowC (xb pb Bn n sf : Nat) (caps : Array Value) (σs : List (Nat → Nat)) (se : Int) (w : World) (h : PlanIn pb Bn n sf caps σs 0 0 se w) (hx : w.heap[xb]? = some (.cells #[.pointer (some ⟨pb, 0, none⟩)] 99 (0, 0))) :
    Calls Try.prog 107 #[.pointer (some ⟨pb, 2, none⟩), .func (.func 98) #[] #[.pointer (some ⟨xb, 0, none⟩)]] w fun e w' => e = .returned (.tuple #[]) ∧ PlanAt w pb n (.func (.func sf) #[] caps) 1 0 se (allW n σs) (allW n σs).length w' := by
  have hxp : xb ≠ pb := fun e => by
    have h2 := h.hp
    rw [← e, hx] at h2
    injection h2 with h2
    injection h2 with _ h2
    exact absurd h2 (by decide)
  have q3 : w.cell? ⟨pb, 3, none⟩ = some (.int .i32 0) := cur_cell h.hp 3
  have f3 := cur_free h.hp 3
  obtain ⟨w1, hw1⟩ : ∃ w1, w1 = w.setCell ⟨pb, 3, none⟩ (.int .i32 1) := ⟨_, rfl⟩
  have h1 := h.lock 1
  rw [← hw1] at h1
  have s1 : w.heap.size = w1.heap.size := by rw [hw1]; simp
  have G1 := Lib.hid (show w.grownBy w1 (some pb) from by rw [hw1]; exact set_grown _ _ _ _)
  have hx1 : w1.heap[xb]? = some (.cells #[.pointer (some ⟨pb, 0, none⟩)] 99 (0, 0)) := by rw [hw1]; exact (Below.heap_setCell _ _ _ _ hxp).trans hx
  have L := Lib.hid (lockFree ⟨pb, 3, none⟩ w q3 f3)
  rw [← hw1] at L
  have LD := Lib.hid (loadC ⟨pb, 2, none⟩ w1 (cur_cell h1.hp 2))
  have C := Lib.hid (callsIn_wide.1 (net1C 0 xb pb Bn n sf caps σs 0 1 se w1 h1.h64 h1.hsf h1.hst h1.hlen hx1 h1.hB h1.hp))
  have S1 := Lib.hid s1
  have hnot : ∀ (x : Bool) (w : World), (Op.unary .not (.bool x)).run Try.prog w = .ok (.bool (!x)) w := fun _ _ => rfl
  clear h h1 hx hx1 hw1 s1 q3 f3
  go_enter_defers Try.func107, Try.ntmps107
  go_wp2_with (go_at_call 110; refine L.out.mono ?_; rintro e w' ⟨rfl, rfl⟩)
  refine LD.out.mono ?_
  rintro e w2 ⟨rfl, rfl⟩
  clear L LD
  go_wp2_with fail
  refine C.out.mono ?_
  rintro e w3 ⟨⟨v, rfl⟩, hP⟩
  have P1 := Lib.hid (hP.base S1.out G1.out)
  obtain ⟨a, cap, g1, g2, g3⟩ := hP
  have F2 : Hid (w3.cell? ⟨pb, 2, none⟩ = some (.int .u32 0) ∧ w3.frozen? ⟨pb, 2, none⟩ = false) := Lib.hid ⟨cur_cell g1 2, cur_free g1 2⟩
  have F3 : Hid ((w3.drew.setCell ⟨pb, 2, none⟩ (.int .u32 1)).cell? ⟨pb, 3, none⟩ = some (.int .i32 1) ∧ (w3.drew.setCell ⟨pb, 2, none⟩ (.int .u32 1)).frozen? ⟨pb, 3, none⟩ = false) := Lib.hid ⟨(World.cell?_setCell_other _ ⟨pb, 2, none⟩ ⟨pb, 3, none⟩ _ (by simp)).trans (cur_cell (w := w3.drew) g1 3), (by rw [World.frozen?_setCell]; exact cur_free (w := w3.drew) g1 3)⟩
  clear g1 g2 g3 C
  go_wp2
  refine leaves_cons (f := 112) (args := #[.pointer (some ⟨pb, 2, none⟩), .bool true]) (by simp) (by simp [go_sem]) ?_
  refine (storeD ⟨pb, 2, none⟩ (.int .u32 0) .returning _ F2.out.1 F2.out.2).mono ?_
  rintro e u' w'' ⟨rfl, rfl, rfl⟩
  refine leaves_cons (f := 111) (args := #[.pointer (some ⟨pb, 3, none⟩)]) (by simp [settle]) (by simp [go_sem]) ?_
  refine (unlockD ⟨pb, 3, none⟩ _ _ F3.out.1 F3.out.2).mono ?_
  rintro e u' w'' ⟨rfl, rfl, rfl⟩
  have R := plan_set3 (plan_set (P1.out.drew 1) 1) 0
  simp [Leaves, settle, results, Try.results107]
  exact R
set_option maxHeartbeats 1000000 in
theorem doC (xb pb Bn n sf : Nat) (caps : Array Value) (σs : List (Nat → Nat)) (se : Int) (w : World) (h : PlanIn pb Bn n sf caps σs 0 0 se w) (hx : w.heap[xb]? = some (.cells #[.pointer (some ⟨pb, 0, none⟩)] 99 (0, 0))) :
    Calls Try.prog 97 #[.pointer (some ⟨pb, 2, none⟩), .func (.func 98) #[] #[.pointer (some ⟨xb, 0, none⟩)]] w fun e w' => e = .returned (.tuple #[]) ∧ PlanAt w pb n (.func (.func sf) #[] caps) 1 0 se (allW n σs) (allW n σs).length w' := by
  have LD := Lib.hid (loadC ⟨pb, 2, none⟩ w (cur_cell h.hp 2))
  have C := Lib.hid (slowC xb pb Bn n sf caps σs se w h hx)
  clear h hx
  go_enter Try.func97, Try.ntmps97
  go_wp2_with fail
  refine LD.out.mono ?_
  rintro e w2 ⟨rfl, rfl⟩
  clear LD
  go_wp2_with fail
  refine C.out.mono ?_
  rintro e w3 ⟨rfl, hP⟩
  go_wp2
  go_end0
  exact ⟨rfl, hP⟩
set_option maxHeartbeats 1000000 in
theorem netC (pb Bn n sf : Nat) (caps : Array Value) (σs : List (Nat → Nat)) (se : Int) (w : World) (h : PlanIn pb Bn n sf caps σs 0 0 se w) :
    Calls Try.prog 79 #[.pointer (some ⟨pb, 0, none⟩)] w fun e w' => ∃ c0 c1, e = .returned (.agg #[c0, c1]) ∧ NetOwn w.heap.size w'.heap.size [c0, c1] ⟨n, allW n σs⟩ w' ∧ w.grownBy w' (some pb) := by
  have hpl := cur_lt h.hp
  obtain ⟨w2, hw2⟩ : ∃ w2, w2 = (w.alloc (.cells #[.pointer (some ⟨pb, 0, none⟩)] 99)).alloc (.cells #[.int .i64 0, .slice none 0 0] 36) := ⟨_, rfl⟩
  have b2 : Below w.heap.size w w2 := by rw [hw2]; exact below_box (below_box (Below.refl _ _) _) _
  have hx : w2.heap[w.heap.size]? = some (.cells #[.pointer (some ⟨pb, 0, none⟩)] 99 (0, 0)) := by rw [hw2]; exact (alloc_old _ _ _ (by simp)).trans (alloc_at _ _ _ rfl)
  have hr : w2.heap[w.heap.size + 1]? = some (.cells #[.int .i64 0, .slice none 0 0] 36 (0, 0)) := by rw [hw2]; exact alloc_at _ _ _ (by simp)
  have s2 : w2.heap.size = w.heap.size + 1 + 1 := by rw [hw2]; simp
  have C := Lib.hid (doC w.heap.size pb Bn n sf caps σs se w2 (h.below b2) hx)
  have G2 := Lib.hid (show w.grownBy w2 (some pb) from by rw [hw2]; exact grown_trans (World.grownBy_alloc _ _ _) (World.grownBy_alloc _ _ _))
  have HH := Lib.hid (And.intro hx (And.intro hr (And.intro s2 hpl)))
  clear h b2 hx hr s2 hpl
  go_enter Try.func79, Try.ntmps79
  go_wp2_with fail
  rw [← hw2]
  clear hw2
  refine C.out.mono ?_
  rintro e w3 ⟨rfl, a, cap, g1, g2, g3⟩
  obtain ⟨hx, hr, s2, hpl⟩ := HH.out
  have x3 : w3.cell? ⟨w.heap.size, 0, none⟩ = some (.pointer (some ⟨pb, 0, none⟩)) := cur_cell (kept_grown hx g3 (by simp; omega)) 0
  have r3 := kept_grown hr g3 (by simp; omega)
  have r0 : w3.cell? ⟨w.heap.size + 1, 0, none⟩ = some (.int .i64 0) := cur_cell r3 0
  have r1 : w3.cell? ⟨w.heap.size + 1, 1, none⟩ = some (.slice none 0 0) := cur_cell r3 1
  have fr0 := cur_free r3 0
  have fr1 := cur_free r3 1
  have p5 : w3.cell? ⟨pb, 5, none⟩ = some (.int .i64 n) := cur_cell g1 5
  have p6 : w3.cell? ⟨pb, 6, none⟩ = some (.slice a (allW n σs).length cap) := cur_cell g1 6
  have O : Hid (WireSOwn w2.heap.size w3.heap.size [.slice a (allW n σs).length cap] (allW n σs) w3 ∧ w.grownBy w3 (some pb) ∧ w2.heap.size = w.heap.size + 1 + 1) := Lib.hid ⟨by rw [List.take_length] at g2; exact WireSOwn.mk g2, grown_trans G2.out g3, s2⟩
  clear g1 g2 g3 r3 hx hr s2 C G2 HH
  go_wp2
  refine bodyPost_ret (v := .agg #[.int .i64 n, .slice a (allW n σs).length cap]) (by simp [results, Try.results79, go_sem, r0, r1]) rfl ⟨_, _, rfl, ⟨_, rfl, ?_⟩, ?_⟩
  · have hs := O.out.2.2
    exact (((O.out.1.lies (Nat.le_refl _)).sup _ (fun k k1 k2 => (Below.heap_setCell _ _ _ k (by simp; omega)).trans (Below.heap_setCell _ _ _ k (by simp; omega))))).wide (by omega) (by simp)
  · refine ⟨O.out.2.1.os, O.out.2.1.tape, O.out.2.1.output, by simpa using O.out.2.1.size, fun k hk hn => ?_⟩
    exact (Below.heap_setCell _ _ _ k (by simp; omega)).trans ((Below.heap_setCell _ _ _ k (by simp; omega)).trans (O.out.2.1.block k hk hn))
end Go.Proofs.Ytaedamnhobcdlaa
