/- VolumeChains: for any list of numbers and any number the law returns true, and its arguments read afterwards as before. No condition but the row's own cells. -/
import Derived.Test.YthfagnbecocgdaaRows
import Derived.Test.YthfagnbecocgdaaHD
import Derived.Test.YthfagnbecocgdaaMA
import Derived.WalkKit
import Derived.ProofKit
import Derived.OpenShut
import Derived.SizedLaws
import Derived.Carry
namespace Go.Proofs.Ythfagnbecocgdaa.volumeChains
open Go.ChangeShapes Go.WideShapes Go.ChangeAt Go.RowKit
set_option linter.unusedVariables false

theorem own : ownKnob Try.prog.godebug = none := by kernel_rfl
theorem laidOut : laidOutB Try.prog = true := by kernel_rfl

set_option maxRecDepth 100000 in
theorem lifted (os : Os) (started : os.Started) (H : Type) (enc : TypeId × Value → H) :
    ReturnsInHanded {} Try.checked os 5 .any (Rows.volumeChainsSpec.pre6 enc Try.prog Try.f5 Rows.volumeChainsRow.domain false) (Rows.volumeChainsSpec.post enc Try.prog Try.f5 false true false false) := by
  refine returnsInHanded_of_change_sized (C := Try.checked) own started (by kernel_rfl) Try.func5
    (ChangeSpec.witness6 (enc := enc) (C := Try.checked) false ⟨#[], #[.slice none 0 0, .int .i64 0], []⟩ 8 (by kernel_rfl) (by kernel_rfl) (by kernel_rfl) (by kernel_rfl)) ?_
  intro W base args ds gs before hval0 hW hcnd hsz _
  have hval : ∀ (j : Nat) t v, Try.f5.params[j]? = some t → args[j]? = some v → Value.okWide Try.prog W .any base t v := hval0
  have hW' := hW
  obtain ⟨p, q, hA0, hV, rfl, hfz, hnd⟩ := hW
  have hA : DataW.TrodAll enc Try.prog W 0 (fun _ => true) true Try.f5.params.toList args.toList ds p := hA0
  rw [Try.params5] at hA hval
  obtain ⟨v0, vs0, d0, ds0, p0, q0, hargs, rfl, rfl, h0, r0⟩ := trodAll_cons hA
  obtain ⟨v1, vs1, d1, ds1, p1, q1, rfl, rfl, rfl, h1, r1⟩ := trodAll_cons r0
  obtain ⟨rfl, rfl, rfl⟩ := trodAll_nil r1
  obtain rfl : args = #[v0, v1] := by cases args; simp_all
  obtain ⟨rfl, rfl⟩ := trodVars_none hV
  have hsz' : (DataW.weightsEach Try.prog [40, 3] [d0, d1]).all (· ≤ reachBytes) = true := by
    have := hsz
    rw [Try.params5] at this
    exact this
  simp only [DataW.weightsEach, List.append_nil, List.all_append, Bool.and_eq_true] at hsz'
  obtain ⟨l, hl⟩ := row_arg Try.underlying40 (hval 0 40 v0 rfl rfl) h0 hsz'.1
  obtain ⟨a1, rfl, rfl, rfl, w1⟩ := open_int Try.underlying3 (hval 1 3 v1 rfl rfl) h1
  have hlt : ∀ x ∈ p0, x.block < W.heap.size := fun x hx => hW'.lt x (by simp [hx])
  refine (chainsLaw_any l v0 a1 (int_wf w1) W hl).mono fun e W' ⟨he, hbl⟩ => ?_
  subst he
  refine ⟨_, rfl, [d0, .lit (.int .i64 a1)], [], p0 ++ ([] ++ []) ++ [], [], p0 ++ ([] ++ []), [], hW', ?_, ?_, ?_, hbl.frame _, fun h => by cases h⟩
  · exact trodAll_cons_mk (shut_bool Try.underlying4 true) trodAll_mk0
  · show DataW.TrodAll enc Try.prog W' 0 (fun b => decide (b < W.heap.size)) true Try.f5.params.toList [v0, .int .i64 a1] [d0, .lit (.int .i64 a1)] (p0 ++ ([] ++ []))
    rw [Try.params5]
    exact trodAll_cons_mk (Below.trod laidOut (by kernel_rfl) (of_decide_eq_true (by kernel_rfl)) h0 hbl hlt) (trodAll_cons_mk (shut_int Try.underlying3 w1) trodAll_mk0)
  · first | rfl | simp

theorem over : Rows.volumeChainsRow.holds Try.pinned (OpenSpec.ofChange Rows.volumeChainsSpec) :=
  OpenClaim.holds_of_wide 5 Try.f5 rfl rfl rfl rfl rfl rfl rfl ⟨rfl, rfl, rfl, rfl, rfl⟩ rfl rfl rfl rfl rfl (by kernel_rfl) Try.func5 (by kernel_rfl)
    (of_decide_eq_true (by kernel_rfl)) (by unfold Func.isWrapper; first | (rw [if_pos (by decide +kernel)]; kernel_rfl) | (rw [if_neg (by decide +kernel)]; exact ⟨rfl, rfl⟩))
    (fun os started H enc _ => lifted os started H enc)
end Go.Proofs.Ythfagnbecocgdaa.volumeChains
namespace Go.Proofs.Ythfagnbecocgdaa
theorem volumeChains_holds : Rows.VolumeChainsSaid := volumeChains.over
#print axioms volumeChains_holds
end Go.Proofs.Ythfagnbecocgdaa
