/- SampleCuts: for any block, any two numbers and any list of blocks the law returns true, and its arguments read afterwards as before. No condition but the row's own cells. -/
import Derived.Test.YtegomicpolnpoaaRows
import Derived.Test.YtegomicpolnpoaaTM
import Derived.Test.YtegomicpolnpoaaMB
import Derived.WalkKit
import Derived.ProofKit
import Derived.OpenShut
import Derived.SizedLaws
import Derived.Carry
namespace Go.Proofs.Ytegomicpolnpoaa.sampleCuts
open Go.ChangeShapes Go.WideShapes Go.ChangeAt Go.RowKit
set_option linter.unusedVariables false

theorem own : ownKnob Try.prog.godebug = none := by kernel_rfl
theorem laidOut : laidOutB Try.prog = true := by kernel_rfl

set_option maxRecDepth 100000 in
theorem lifted (os : Os) (started : os.Started) (H : Type) (enc : TypeId × Value → H) :
    ReturnsInHanded {} Try.checked os 8 .any (Rows.sampleCutsSpec.pre6 enc Try.prog Try.f8 Rows.sampleCutsRow.domain false) (Rows.sampleCutsSpec.post enc Try.prog Try.f8 false true false false) := by
  refine returnsInHanded_of_change_sized (C := Try.checked) own started (by kernel_rfl) Try.func8
    (ChangeSpec.witness6 (enc := enc) (C := Try.checked) false ⟨#[], #[.slice none 0 0, .int .i64 0, .int .i64 0, .slice none 0 0], []⟩ 8 (by kernel_rfl) (by kernel_rfl) (by kernel_rfl) (by kernel_rfl)) ?_
  intro W base args ds gs before hval0 hW hcnd hsz _
  have hval : ∀ (j : Nat) t v, Try.f8.params[j]? = some t → args[j]? = some v → Value.okWide Try.prog W .any base t v := hval0
  have hW' := hW
  obtain ⟨p, q, hA0, hV, rfl, hfz, hnd⟩ := hW
  have hA : DataW.TrodAll enc Try.prog W 0 (fun _ => true) true Try.f8.params.toList args.toList ds p := hA0
  rw [Try.params8] at hA hval
  obtain ⟨v0, v1, v2, v3, d0, d1, d2, d3, p0, p1, p2, p3, rfl, rfl, rfl, h0, h1, h2, h3⟩ := trodAll_four hA
  obtain ⟨rfl, rfl⟩ := trodVars_none hV
  have hsz' : (DataW.weightsEach Try.prog [30, 3, 3, 47] [d0, d1, d2, d3]).all (· ≤ reachBytes) = true := by
    have := hsz
    rw [Try.params8] at this
    exact this
  simp only [DataW.weightsEach, List.append_nil, List.all_append, Bool.and_eq_true] at hsz'
  obtain ⟨b, hb⟩ := mat_arg Try.underlying30 (hval 0 30 v0 rfl rfl) h0 hsz'.1
  obtain ⟨l, hl⟩ := blks_arg Try.underlying47 (hval 3 47 v3 rfl rfl) h3 hsz'.2.2.2
  obtain ⟨a1, rfl, rfl, rfl, w1⟩ := open_int Try.underlying3 (hval 1 3 v1 rfl rfl) h1
  obtain ⟨a2, rfl, rfl, rfl, w2⟩ := open_int Try.underlying3 (hval 2 3 v2 rfl rfl) h2
  have hlt : ∀ x ∈ p0 ++ [] ++ [] ++ p3 ++ [], x.block < W.heap.size := fun x hx => hW'.lt x hx
  refine (cutsLaw_any b l v0 v3 a1 a2 W hb hl).mono fun e W' ⟨he, hbl⟩ => ?_
  subst he
  refine ⟨_, rfl, [d0, .lit (.int .i64 a1), .lit (.int .i64 a2), d3], [], p0 ++ [] ++ [] ++ p3 ++ [], [], p0 ++ ([] ++ ([] ++ p3)), [], hW', ?_, ?_, ?_, hbl.frame _, fun h => by cases h⟩
  · exact trodAll_mk1 (shut_bool Try.underlying4 true)
  · show DataW.TrodAll enc Try.prog W' 0 (fun b => decide (b < W.heap.size)) true Try.f8.params.toList [v0, .int .i64 a1, .int .i64 a2, v3] [d0, .lit (.int .i64 a1), .lit (.int .i64 a2), d3] (p0 ++ ([] ++ ([] ++ p3)))
    rw [Try.params8]
    exact trodAll_mk4 (Below.trod laidOut (by kernel_rfl) (of_decide_eq_true (by kernel_rfl)) h0 hbl (fun x hx => hlt x (by simp [hx]))) (shut_int Try.underlying3 w1) (shut_int Try.underlying3 w2) (Below.trod laidOut (by kernel_rfl) (of_decide_eq_true (by kernel_rfl)) h3 hbl (fun x hx => hlt x (by simp [hx])))
  · first | rfl | simp

theorem over : Rows.sampleCutsRow.holds Try.pinned (OpenSpec.ofChange Rows.sampleCutsSpec) :=
  OpenClaim.holds_of_wide 8 Try.f8 rfl rfl rfl rfl rfl rfl rfl ⟨rfl, rfl, rfl, rfl, rfl⟩ rfl rfl rfl rfl rfl (by kernel_rfl) Try.func8 (by kernel_rfl)
    (of_decide_eq_true (by kernel_rfl)) (by unfold Func.isWrapper; first | (rw [if_pos (by decide +kernel)]; kernel_rfl) | (rw [if_neg (by decide +kernel)]; exact ⟨rfl, rfl⟩))
    (fun os started H enc _ => lifted os started H enc)
end Go.Proofs.Ytegomicpolnpoaa.sampleCuts
namespace Go.Proofs.Ytegomicpolnpoaa
theorem sampleCuts_holds : Rows.SampleCutsSaid := sampleCuts.over
#print axioms sampleCuts_holds
end Go.Proofs.Ytegomicpolnpoaa
