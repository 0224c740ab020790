/- The example of the law's own: awake gives true, whatever lies in memory. -/
import Derived.Test.YtegomicpolnpoaaVB
import Derived.Test.YtegomicpolnpoaaChecked
import Derived.KernelRfl
namespace Go.Proofs.Ytegomicpolnpoaa
open Go.Ev Go.RowKit
def saysTrue : Option (SV × List SO) → Bool
  | some (.bool true, _) => true
  | _ => false
theorem saysTrue_of {x : Option (SV × List SO)} (h : saysTrue x = true) : ∃ H, x = some (.bool true, H) := by
  unfold saysTrue at h
  split at h
  · exact ⟨_, rfl⟩
  · cases h
def noHooks : Hooks := fun _ _ _ => none
theorem noHooks_ok (P : Program) (ν : Nat → Value) (w0 : World) : HookOk P ν w0 noHooks := by
  intro E H w g args vs v H' hk hW ha
  cases hk
set_option maxRecDepth 100000 in
theorem awake_runs : saysTrue (callAt Try.prog (fun _ => []) noHooks 20000 18 [] []) = true := by kernel_rfl

theorem awake_any (w : World) : Calls Try.prog 18 #[] w fun e w' => e = .returned (.bool true) ∧ Below w.heap.size w w' := by
  obtain ⟨H', hr⟩ := saysTrue_of awake_runs
  refine (call_run (ν := fun _ => .bool true) (noHooks_ok _ _ w) (fun g hg => absurd rfl hg) (by simp [dens]) hr).mono fun e w' ⟨E', u, he, hu, hW⟩ => ?_
  simp [den] at hu; subst hu
  exact ⟨he, hW.below⟩
theorem ints_dens (ν : Nat → Value) : ∀ l : List Int, dens ν [] (l.map (SV.int .i64)) = some (l.map (Value.int .i64))
  | [] => rfl
  | n :: r => dens_cons.2 ⟨_, _, by simp [den], ints_dens ν r, rfl⟩
end Go.Proofs.Ytegomicpolnpoaa
