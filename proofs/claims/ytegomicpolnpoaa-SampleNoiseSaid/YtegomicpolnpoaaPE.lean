/- SampleNoise: for any encoding, any seed and any block the law returns true, and its arguments read afterwards as before. No condition but the row's own cells. -/
import Derived.Test.YtegomicpolnpoaaRows
import Derived.Test.YtegomicpolnpoaaXN
import Derived.Test.YtegomicpolnpoaaMA
import Derived.WalkKit
import Derived.ProofKit
import Derived.OpenShut
import Derived.SizedLaws
import Derived.Carry
namespace Go.Proofs.Ytegomicpolnpoaa.sampleNoise
open Go.ChangeShapes Go.WideShapes Go.ChangeAt Go.RowKit
set_option linter.unusedVariables false

theorem own : ownKnob Try.prog.godebug = none := by kernel_rfl
theorem laidOut : laidOutB Try.prog = true := by kernel_rfl

set_option maxRecDepth 100000 in
theorem lifted (os : Os) (started : os.Started) (H : Type) (enc : TypeId × Value → H) :
    ReturnsInHanded {} Try.checked os 7 .any (Rows.sampleNoiseSpec.pre6 enc Try.prog Try.f7 Rows.sampleNoiseRow.domain false) (Rows.sampleNoiseSpec.post enc Try.prog Try.f7 false true false false) := by
  refine returnsInHanded_of_change_sized (C := Try.checked) own started (by kernel_rfl) Try.func7
    (ChangeSpec.witness6 (enc := enc) (C := Try.checked) false ⟨#[], #[.int .i64 0, .int .i64 0, .slice none 0 0], []⟩ 4 (by kernel_rfl) (by kernel_rfl) (by kernel_rfl) (by kernel_rfl)) ?_
  intro W base args ds gs before hval0 hW hcnd hsz _
  have hval : ∀ (j : Nat) t v, Try.f7.params[j]? = some t → args[j]? = some v → Value.okWide Try.prog W .any base t v := hval0
  have hW' := hW
  obtain ⟨p, q, hA0, hV, rfl, hfz, hnd⟩ := hW
  have hA : DataW.TrodAll enc Try.prog W 0 (fun _ => true) true Try.f7.params.toList args.toList ds p := hA0
  rw [Try.params7] at hA hval
  obtain ⟨v0, v1, v2, d0, d1, d2, p0, p1, p2, rfl, rfl, rfl, h0, h1, h2⟩ := trodAll_three hA
  obtain ⟨rfl, rfl⟩ := trodVars_none hV
  have hsz' : (DataW.weightsEach Try.prog [3, 3, 30] [d0, d1, d2]).all (· ≤ reachBytes) = true := by
    have := hsz
    rw [Try.params7] at this
    exact this
  simp only [DataW.weightsEach, List.append_nil, List.all_append, Bool.and_eq_true] at hsz'
  obtain ⟨m, hm⟩ := mat_arg Try.underlying30 (hval 2 30 v2 rfl rfl) h2 hsz'.2.2
  obtain ⟨a0, rfl, rfl, rfl, w0⟩ := open_int Try.underlying3 (hval 0 3 v0 rfl rfl) h0
  obtain ⟨a1, rfl, rfl, rfl, w1⟩ := open_int Try.underlying3 (hval 1 3 v1 rfl rfl) h1
  have hlt : ∀ x ∈ [] ++ [] ++ p2 ++ [], x.block < W.heap.size := fun x hx => hW'.lt x hx
  refine (noiseLaw_any a0 a1 m v2 W hm).mono fun e W' ⟨he, hbl⟩ => ?_
  subst he
  refine ⟨_, rfl, [.lit (.int .i64 a0), .lit (.int .i64 a1), d2], [], [] ++ [] ++ p2 ++ [], [], [] ++ ([] ++ p2), [], hW', ?_, ?_, ?_, hbl.frame _, fun h => by cases h⟩
  · exact trodAll_mk1 (shut_bool Try.underlying4 true)
  · show DataW.TrodAll enc Try.prog W' 0 (fun b => decide (b < W.heap.size)) true Try.f7.params.toList [.int .i64 a0, .int .i64 a1, v2] [.lit (.int .i64 a0), .lit (.int .i64 a1), d2] ([] ++ ([] ++ p2))
    rw [Try.params7]
    exact trodAll_mk3 (shut_int Try.underlying3 w0) (shut_int Try.underlying3 w1) (Below.trod laidOut (by kernel_rfl) (of_decide_eq_true (by kernel_rfl)) h2 hbl (fun x hx => hlt x (by simp [hx])))
  · first | rfl | simp

theorem over : Rows.sampleNoiseRow.holds Try.pinned (OpenSpec.ofChange Rows.sampleNoiseSpec) :=
  OpenClaim.holds_of_wide 7 Try.f7 rfl rfl rfl rfl rfl rfl rfl ⟨rfl, rfl, rfl, rfl, rfl⟩ rfl rfl rfl rfl rfl (by kernel_rfl) Try.func7 (by kernel_rfl)
    (of_decide_eq_true (by kernel_rfl)) (by unfold Func.isWrapper; first | (rw [if_pos (by decide +kernel)]; kernel_rfl) | (rw [if_neg (by decide +kernel)]; exact ⟨rfl, rfl⟩))
    (fun os started H enc _ => lifted os started H enc)
end Go.Proofs.Ytegomicpolnpoaa.sampleNoise
namespace Go.Proofs.Ytegomicpolnpoaa
theorem sampleNoise_holds : Rows.SampleNoiseSaid := sampleNoise.over
#print axioms sampleNoise_holds
end Go.Proofs.Ytegomicpolnpoaa
