/- SampleBlocks: for any encoding, any order and any block the law returns true, and its arguments read afterwards as before. No condition but the row's own cells. -/
import Derived.Test.YtegomicpolnpoaaRows
import Derived.Test.YtegomicpolnpoaaWB
import Derived.Test.YtegomicpolnpoaaWC
import Derived.Test.YtegomicpolnpoaaWD
import Derived.Test.YtegomicpolnpoaaMA
import Derived.WalkKit
import Derived.ProofKit
import Derived.OpenShut
import Derived.SizedLaws
import Derived.Carry
namespace Go.Proofs.Ytegomicpolnpoaa
open Go.RowKit Go.Deep Go.Shelf

theorem blocksLaw_any (n : Int) (p : Bool) (m : List (List Int)) (v : Value) (w : World) (hM : MatIn w m v) :
    Calls Try.prog 4 #[.int .i64 n, .bool p, v] w fun e w' => e = .returned (.bool true) ∧ Below w.heap.size w w' := by
  have hB := both_any n p m v w hM
  by_cases hv : validB m = true
  · by_cases hn : encB n = true
    · obtain ⟨e1, e2⟩ := encB_t hn
      obtain ⟨e, rfl⟩ : ∃ e : Nat, n = e := ⟨n.toNat, by omega⟩
      have h1 : 1 ≤ e := by omega
      have h8 : e ≤ 8 := by omega
      rw [show encA (e : Int) p m = (bytesOf e p m, 0) from by unfold encA; rw [if_pos hv, if_pos hn, Int.toNat_natCast]] at hB
      obtain ⟨hr1, hr8, hc4, hc⟩ := validB_parts hv
      have hok := validB_smp hv
      have hD := fun X => decode_yes h1 h8 p m.length (cols m) hr1 hr8 hc4 (bytesOf e p m) bytesOf_size X
      have hF : ∀ i j, i < m.length → j < cols m → nearP (unitN e) ((m.getD i []).getD j 0) (decV e p m.length (cols m) (bytesOf e p m) (i, j)) := fun i j hi hj => by
        rw [decV_back h1 h8 hc (x := (i, j)) hi hj]
        exact near h1 h8 (hok i j hi hj)
      by_cases q1 : e ≤ 2
      · rw [show unitN e = 65536 from by unfold unitN; rw [if_pos q1]] at hF
        exact blocks_8 h1 h8 p m v w hM hv _ _ _ _ hB _ hD hF q1
      · by_cases q2 : e ≤ 4
        · rw [show unitN e = 256 from by unfold unitN; rw [if_neg q1, if_pos q2]] at hF
          exact blocks_16 h1 h8 p m v w hM hv _ _ _ _ hB _ hD hF q1 q2
        · rw [show unitN e = 1 from by unfold unitN; rw [if_neg q1, if_neg q2]] at hF
          exact blocks_24 h1 h8 p m v w hM hv _ _ _ _ hB _ hD hF q1 q2
    · rw [show encA n p m = (⟨#[]⟩, 7) from by unfold encA; rw [if_pos hv, if_neg hn]] at hB
      exact blocks_none n p m v w hM _ 7 _ _ _ hB (.inr rfl)
  · rw [show encA n p m = (⟨#[]⟩, 1) from by unfold encA; rw [if_neg hv]] at hB
    exact blocks_none n p m v w hM _ 1 _ _ _ hB (.inl rfl)
end Go.Proofs.Ytegomicpolnpoaa
namespace Go.Proofs.Ytegomicpolnpoaa.sampleBlocks
open Go.ChangeShapes Go.WideShapes Go.ChangeAt Go.RowKit
set_option linter.unusedVariables false

theorem own : ownKnob Try.prog.godebug = none := by kernel_rfl
theorem laidOut : laidOutB Try.prog = true := by kernel_rfl

set_option maxRecDepth 100000 in
theorem lifted (os : Os) (started : os.Started) (H : Type) (enc : TypeId × Value → H) :
    ReturnsInHanded {} Try.checked os 4 .any (Rows.sampleBlocksSpec.pre6 enc Try.prog Try.f4 Rows.sampleBlocksRow.domain false) (Rows.sampleBlocksSpec.post enc Try.prog Try.f4 false true false false) := by
  refine returnsInHanded_of_change_sized (C := Try.checked) own started (by kernel_rfl) Try.func4
    (ChangeSpec.witness6 (enc := enc) (C := Try.checked) false ⟨#[], #[.int .i64 0, .bool false, .slice none 0 0], []⟩ 4 (by kernel_rfl) (by kernel_rfl) (by kernel_rfl) (by kernel_rfl)) ?_
  intro W base args ds gs before hval0 hW hcnd hsz _
  have hval : ∀ (j : Nat) t v, Try.f4.params[j]? = some t → args[j]? = some v → Value.okWide Try.prog W .any base t v := hval0
  have hW' := hW
  obtain ⟨p, q, hA0, hV, rfl, hfz, hnd⟩ := hW
  have hA : DataW.TrodAll enc Try.prog W 0 (fun _ => true) true Try.f4.params.toList args.toList ds p := hA0
  rw [Try.params4] at hA hval
  obtain ⟨v0, v1, v2, d0, d1, d2, p0, p1, p2, rfl, rfl, rfl, h0, h1, h2⟩ := trodAll_three hA
  obtain ⟨rfl, rfl⟩ := trodVars_none hV
  have hsz' : (DataW.weightsEach Try.prog [3, 4, 30] [d0, d1, d2]).all (· ≤ reachBytes) = true := by
    have := hsz
    rw [Try.params4] at this
    exact this
  simp only [DataW.weightsEach, List.append_nil, List.all_append, Bool.and_eq_true] at hsz'
  obtain ⟨m, hm⟩ := mat_arg Try.underlying30 (hval 2 30 v2 rfl rfl) h2 hsz'.2.2
  obtain ⟨a0, rfl, rfl, rfl, w0⟩ := open_int Try.underlying3 (hval 0 3 v0 rfl rfl) h0
  obtain ⟨a1, rfl, rfl, rfl⟩ := open_bool Try.underlying4 (hval 1 4 v1 rfl rfl) h1
  have hlt : ∀ x ∈ [] ++ [] ++ p2 ++ [], x.block < W.heap.size := fun x hx => hW'.lt x hx
  refine (blocksLaw_any a0 a1 m v2 W hm).mono fun e W' ⟨he, hbl⟩ => ?_
  subst he
  refine ⟨_, rfl, [.lit (.int .i64 a0), .lit (.bool a1), d2], [], [] ++ [] ++ p2 ++ [], [], [] ++ ([] ++ p2), [], hW', ?_, ?_, ?_, hbl.frame _, fun h => by cases h⟩
  · exact trodAll_mk1 (shut_bool Try.underlying4 true)
  · show DataW.TrodAll enc Try.prog W' 0 (fun b => decide (b < W.heap.size)) true Try.f4.params.toList [.int .i64 a0, .bool a1, v2] [.lit (.int .i64 a0), .lit (.bool a1), d2] ([] ++ ([] ++ p2))
    rw [Try.params4]
    exact trodAll_mk3 (shut_int Try.underlying3 w0) (shut_bool Try.underlying4 a1) (Below.trod laidOut (by kernel_rfl) (of_decide_eq_true (by kernel_rfl)) h2 hbl (fun x hx => hlt x (by simp [hx])))
  · first | rfl | simp

theorem over : Rows.sampleBlocksRow.holds Try.pinned (OpenSpec.ofChange Rows.sampleBlocksSpec) :=
  OpenClaim.holds_of_wide 4 Try.f4 rfl rfl rfl rfl rfl rfl rfl ⟨rfl, rfl, rfl, rfl, rfl⟩ rfl rfl rfl rfl rfl (by kernel_rfl) Try.func4 (by kernel_rfl)
    (of_decide_eq_true (by kernel_rfl)) (by unfold Func.isWrapper; first | (rw [if_pos (by decide +kernel)]; kernel_rfl) | (rw [if_neg (by decide +kernel)]; exact ⟨rfl, rfl⟩))
    (fun os started H enc _ => lifted os started H enc)
end Go.Proofs.Ytegomicpolnpoaa.sampleBlocks
namespace Go.Proofs.Ytegomicpolnpoaa
theorem sampleBlocks_holds : Rows.SampleBlocksSaid := sampleBlocks.over
#print axioms sampleBlocks_holds
end Go.Proofs.Ytegomicpolnpoaa
