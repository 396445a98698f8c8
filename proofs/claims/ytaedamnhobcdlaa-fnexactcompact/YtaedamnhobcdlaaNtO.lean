/- sync.Once, the lock free and the function not yet called; a plan's net. -/
import Derived.Test.YtaedamnhobcdlaaNtN
import Derived.Defers
import Derived.Laws.Pointers
import Derived.Laws.LoneSync
import Derived.RegionTactic
import Derived.RegionCalls
namespace Go.Proofs.Ytaedamnhobcdlaa
open Go.RowKit
set_option linter.unusedVariables false
set_option linter.unusedSimpArgs false
set_option maxRecDepth 100000

theorem plan_set {w W : World} {pb n k : Nat} {sv : Value} {dn st se : Int} {ws : List WireM} (h : PlanAt w pb n sv dn st se ws k W) (d : Int) : PlanAt w pb n sv d st se ws k (W.setCell ⟨pb, 2, none⟩ (.int .u32 d)) := by
  obtain ⟨a, cap, h1, h2, h3⟩ := h
  exact ⟨a, cap, cur_set h1 2 _, h2.kept (set_grown W pb 2 _) (.inr (own_other h2 h1 (by decide))), grown_trans h3 (set_grown W pb 2 _)⟩
theorem plan_set3 {w W : World} {pb n k : Nat} {sv : Value} {dn st se : Int} {ws : List WireM} (h : PlanAt w pb n sv dn st se ws k W) (d : Int) : PlanAt w pb n sv dn d se ws k (W.setCell ⟨pb, 3, none⟩ (.int .i32 d)) := by
  obtain ⟨a, cap, h1, h2, h3⟩ := h
  exact ⟨a, cap, cur_set h1 3 _, h2.kept (set_grown W pb 3 _) (.inr (own_other h2 h1 (by decide))), grown_trans h3 (set_grown W pb 3 _)⟩
theorem noDisable (w : World) : (callFunc 118 #[]).run Try.prog w = .ok (.value (.tuple #[])) w := run_call_mark0 Try.func118 (by kernel_rfl) (by kernel_rfl) (by kernel_rfl) .disable (by kernel_rfl) w
theorem noEnable (w : World) : (callFunc 120 #[]).run Try.prog w = .ok (.value (.tuple #[])) w := run_call_mark0 Try.func120 (by kernel_rfl) (by kernel_rfl) (by kernel_rfl) .enable (by kernel_rfl) w
theorem noAcquire (a : Addr) (w : World) : (callFunc 121 #[.pointer (some a)]).run Try.prog w = .ok (.value (.tuple #[])) w := run_call_marked Try.func121 (by kernel_rfl) (by kernel_rfl) (by kernel_rfl) .acquire (by kernel_rfl) a w
theorem noRelease (a : Addr) (w : World) : (callFunc 123 #[.pointer (some a)]).run Try.prog w = .ok (.value (.tuple #[])) w := run_call_marked Try.func123 (by kernel_rfl) (by kernel_rfl) (by kernel_rfl) .releaseMerge (by kernel_rfl) a w
theorem storeD (a : Addr) (x : Value) (u : FrameMode) (w : World) (hc : w.cell? a = some x) (hz : w.frozen? a = false) :
    CallsD Try.prog 112 #[.pointer (some a), .bool true] u w fun e u' w' => u' = u ∧ (e = .returned (.tuple #[]) ∧ w' = w.drew.setCell a (.int .u32 1)) := by
  have hc' : w.drew.cell? a = some x := by go_simp
  have hz' : w.drew.frozen? a = false := by go_simp
  have hst := run_call_store (P := Try.prog) Try.func116 (by kernel_rfl) (by kernel_rfl) (by kernel_rfl) (by kernel_rfl) (k := .u32) (y := 1) hc' hz'
  go_enter_d Try.func112, Try.ntmps112
  go_wp2
  go_region_calls
  all_goals (go_end0; exact ⟨rfl, rfl⟩)
theorem unlockD (a : Addr) (u : FrameMode) (w : World) (hc : w.cell? a = some (.int .i32 1)) (hz : w.frozen? a = false) :
    CallsD Try.prog 111 #[.pointer (some a)] u w fun e u' w' => u' = u ∧ (e = .returned (.tuple #[]) ∧ w' = w.setCell a (.int .i32 0)) := by
  have hd := noDisable
  have he := noEnable
  have hr := noRelease
  have hadd := run_call_add (P := Try.prog) Try.func124 (by kernel_rfl) (by kernel_rfl) (by kernel_rfl) .i32 (by kernel_rfl) (y := -1) (s := 0) hc hz (by simp [go_sem]; rfl)
  have hcv := run_convert_to_unsafe (P := Try.prog) (src := 138) (dst := 142) Try.underlying138 Try.underlying142 (by kernel_rfl) hc
  go_enter_d Try.func111, Try.ntmps111
  go_wp2
  go_end0
  go_wp2
  go_end0
  exact ⟨rfl, rfl⟩
theorem lockFree (a : Addr) (w : World) (hc : w.cell? a = some (.int .i32 0)) (hz : w.frozen? a = false) :
    Calls Try.prog 110 #[.pointer (some a)] w fun e w' => e = .returned (.tuple #[]) ∧ w' = w.setCell a (.int .i32 1) := by
  have hd := noDisable
  have he := noEnable
  have ha := noAcquire
  have hcas := run_call_cas_hit (P := Try.prog) Try.func119 (by kernel_rfl) (by kernel_rfl) (by kernel_rfl) .i32 (by kernel_rfl) (y := 1) hc hz
  have hc' : (w.setCell a (.int .i32 1)).cell? a = some (.int .i32 1) := World.cell?_setCell_same w a _ hc
  have hcv := run_convert_to_unsafe (P := Try.prog) (src := 138) (dst := 142) Try.underlying138 Try.underlying142 (by kernel_rfl) hc'
  go_enter Try.func110, Try.ntmps110
  go_wp2
  first | go_end0 | (simp only [Exit.inBlock, Exit.then]; refine bodyPost_ret (results_none rfl _ _ _) rfl ?_) | refine bodyPost_ret (results_none rfl _ _ _) rfl ?_
  go_wp2
  go_end0
  exact ⟨rfl, rfl⟩
end Go.Proofs.Ytaedamnhobcdlaa
