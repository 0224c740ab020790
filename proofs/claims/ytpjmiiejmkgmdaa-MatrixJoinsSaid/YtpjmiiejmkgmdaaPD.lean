/- MatrixJoins: for any two matrices and block the law returns true, and its arguments read afterwards as before. No condition but the row's own cells. -/
import Derived.Test.YtpjmiiejmkgmdaaRows
import Derived.Test.YtpjmiiejmkgmdaaRD
import Derived.Test.YtpjmiiejmkgmdaaMA
import Derived.WalkKit
import Derived.ProofKit
import Derived.OpenShut
import Derived.SizedLaws
namespace Go.Proofs.Ytpjmiiejmkgmdaa.matrixJoins
open Go.ChangeShapes Go.WideShapes Go.ChangeAt Go.RowKit
set_option linter.unusedVariables false

theorem own : ownKnob Try.prog.godebug = none := by kernel_rfl
theorem laidOut : laidOutB Try.prog = true := by kernel_rfl

set_option maxRecDepth 100000 in
theorem lifted (os : Os) (started : os.Started) (H : Type) (enc : TypeId × Value → H) :
    ReturnsInHanded {} Try.checked os 6 .any (Rows.matrixJoinsSpec.pre6 enc Try.prog Try.f6 Rows.matrixJoinsRow.domain false) (Rows.matrixJoinsSpec.post enc Try.prog Try.f6 false true false false) := by
  refine returnsInHanded_of_change_sized (C := Try.checked) own started (by kernel_rfl) Try.func6
    (ChangeSpec.witness6 (enc := enc) (C := Try.checked) false ⟨#[], #[.slice none 0 0, .slice none 0 0, .slice none 0 0], []⟩ 8 (by kernel_rfl) (by kernel_rfl) (by kernel_rfl) (by kernel_rfl)) ?_
  intro W base args ds gs before hval0 hW hcnd hsz _
  have hval : ∀ (j : Nat) t v, Try.f6.params[j]? = some t → args[j]? = some v → Value.okWide Try.prog W .any base t v := hval0
  have hW' := hW
  obtain ⟨p, q, hA0, hV, rfl, hfz, hnd⟩ := hW
  have hA : DataW.TrodAll enc Try.prog W 0 (fun _ => true) true Try.f6.params.toList args.toList ds p := hA0
  rw [Try.params6] at hA hval
  obtain ⟨v0, v1, v2, d0, d1, d2, p0, p1, p2, rfl, rfl, rfl, h0, h1, h2⟩ := trodAll_three hA
  obtain ⟨rfl, rfl⟩ := trodVars_none hV
  have hsz' : (DataW.weightsEach Try.prog [24, 24, 38] [d0, d1, d2]).all (· ≤ reachBytes) = true := by
    have := hsz
    rw [Try.params6] at this
    exact this
  simp only [DataW.weightsEach, List.append_nil, List.all_append, Bool.and_eq_true] at hsz'
  obtain ⟨m, hm⟩ := mat_arg Try.underlying24 (hval 0 24 v0 rfl rfl) h0 hsz'.1
  obtain ⟨s, hs⟩ := mat_arg Try.underlying24 (hval 1 24 v1 rfl rfl) h1 hsz'.2.1
  obtain ⟨b, hb⟩ := mat_arg Try.underlying38 (hval 2 38 v2 rfl rfl) h2 hsz'.2.2
  have hlt : ∀ x ∈ p0 ++ p1 ++ p2 ++ [], x.block < W.heap.size := fun x hx => hW'.lt x hx
  refine (joinsLaw_any m s b v0 v1 v2 W hm hs hb).mono fun e W' ⟨he, hbl⟩ => ?_
  subst he
  refine ⟨_, rfl, [d0, d1, d2], [], p0 ++ p1 ++ p2 ++ [], [], p0 ++ (p1 ++ p2), [], hW', ?_, ?_, ?_, hbl.frame _, fun h => by cases h⟩
  · exact trodAll_mk1 (shut_bool Try.underlying4 true)
  · show DataW.TrodAll enc Try.prog W' 0 (fun b => decide (b < W.heap.size)) true Try.f6.params.toList [v0, v1, v2] [d0, d1, d2] (p0 ++ (p1 ++ p2))
    rw [Try.params6]
    exact trodAll_mk3 (Below.trod laidOut (by kernel_rfl) (of_decide_eq_true (by kernel_rfl)) h0 hbl (fun x hx => hlt x (by simp [hx]))) (Below.trod laidOut (by kernel_rfl) (of_decide_eq_true (by kernel_rfl)) h1 hbl (fun x hx => hlt x (by simp [hx]))) (Below.trod laidOut (by kernel_rfl) (of_decide_eq_true (by kernel_rfl)) h2 hbl (fun x hx => hlt x (by simp [hx])))
  · first | rfl | simp

theorem over : Rows.matrixJoinsRow.holds Try.pinned (OpenSpec.ofChange Rows.matrixJoinsSpec) :=
  OpenClaim.holds_of_wide 6 Try.f6 rfl rfl rfl rfl rfl rfl rfl ⟨rfl, rfl, rfl, rfl, rfl⟩ rfl rfl rfl rfl rfl (by kernel_rfl) Try.func6 (by kernel_rfl)
    (of_decide_eq_true (by kernel_rfl)) (by unfold Func.isWrapper; first | (rw [if_pos (by decide +kernel)]; kernel_rfl) | (rw [if_neg (by decide +kernel)]; exact ⟨rfl, rfl⟩))
    (fun os started H enc _ => lifted os started H enc)
end Go.Proofs.Ytpjmiiejmkgmdaa.matrixJoins
namespace Go.Proofs.Ytpjmiiejmkgmdaa
theorem matrixJoins_holds : Rows.MatrixJoinsSaid := matrixJoins.over
#print axioms matrixJoins_holds
end Go.Proofs.Ytpjmiiejmkgmdaa
