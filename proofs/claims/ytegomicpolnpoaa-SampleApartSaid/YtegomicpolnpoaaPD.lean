/- SampleApart: for any encoding, seed and shape, any block and any number the law returns true, and its arguments read afterwards as before. No condition but the row's own cells. -/
import Derived.Test.YtegomicpolnpoaaRows
import Derived.Test.YtegomicpolnpoaaXI
import Derived.Test.YtegomicpolnpoaaMA
import Derived.WalkKit
import Derived.ProofKit
import Derived.OpenShut
import Derived.SizedLaws
import Derived.Carry
namespace Go.Proofs.Ytegomicpolnpoaa
open Go.RowKit Go.Deep Go.Shelf

theorem apartLaw_any (n seed at' : Int) (sh : Bool) (m : List (List Int)) (v : Value) (w : World) (hM : MatIn w m v) :
    Calls Try.prog 9 #[.int .i64 n, .int .i64 seed, .bool sh, v, .int .i64 at'] w fun e w' => e = .returned (.bool true) ∧ Below w.heap.size w w' := by
  by_cases hv : validB m = true
  · obtain ⟨N, hN⟩ : ∃ N : Nat, (N : Int) = at' % 16777216 % ((cols m : Int) + 1) := ⟨(at' % 16777216 % ((cols m : Int) + 1)).toNat, Int.toNat_of_nonneg (Int.emod_nonneg _ (by omega))⟩
    have hn : N ≤ cols m := by have := Int.emod_lt_of_pos (at' % 16777216) (show (0:Int) < (cols m : Int) + 1 by omega); omega
    have hv0 := part_valid0 hv hn
    have hv1 := part_valid1 hv hn
    obtain ⟨hr1, hr8, hc4, hc⟩ := validB_parts hv
    obtain ⟨T, U, k, hS, hT, hU, hTU⟩ : ∃ (T U : ByteArray) (k : Int), encA n false m = (T ++ U, k) ∧ encA n false (partM m 0 N) = (T, k) ∧ encA n false (partM m N (cols m)) = (U, k) ∧ T.size + U.size ≤ 200000 := by
      by_cases hn8 : encB n = true
      · refine ⟨bytesOf n.toNat false (partM m 0 N), bytesOf n.toNat false (partM m N (cols m)), 0, ?_, ?_, ?_, ?_⟩
        · unfold encA; rw [if_pos hv, if_pos hn8, bytes_cut hv hn]
        · unfold encA; rw [if_pos hv0, if_pos hn8]
        · unfold encA; rw [if_pos hv1, if_pos hn8]
        · rw [← ByteArray.size_append, ← bytes_cut hv hn, show (bytesOf n.toNat false m).size = m.length * cols m * wid n.toNat from by unfold bytesOf; rw [laidS_size, Nat.mul_comm, Nat.mul_comm (cols m)]]
          obtain ⟨e1, e2⟩ := encB_t hn8
          have h2 : wid n.toNat ≤ 4 := by unfold wid; omega
          calc m.length * cols m * wid n.toNat ≤ m.length * cols m * 4 := Nat.mul_le_mul_left _ h2
            _ ≤ 32768 * 4 := Nat.mul_le_mul_right _ (mul_le8 hr8 (Nat.le_refl _) hc4)
            _ ≤ 200000 := by decide
      · refine ⟨⟨#[]⟩, ⟨#[]⟩, 7, ?_, ?_, ?_, by decide⟩
        · unfold encA; rw [if_pos hv, if_neg hn8]; rfl
        · unfold encA; rw [if_pos hv0, if_neg hn8]
        · unfold encA; rw [if_pos hv1, if_neg hn8]
    by_cases hK : dithE n seed m.length = 0
    · have hne : encB n = true ∧ n ≤ 4 := by
        unfold dithE at hK
        by_cases q1 : encB n = false
        · rw [if_pos q1] at hK; cases hK
        · rw [if_neg q1] at hK
          split at hK
          · cases hK
          · split at hK
            · cases hK
            · split at hK
              · cases hK
              · exact ⟨by simpa using q1, by omega⟩
      obtain ⟨e1, e2⟩ := encB_t hne.1
      obtain ⟨e, rfl⟩ : ∃ e : Nat, n = e := ⟨n.toNat, by omega⟩
      exact apart_ok e seed at' sh m v w hM hv N hN T U k hS hT hU hTU e (by omega) (by omega) rfl hK
    · exact apart_none n seed at' sh m v w hM hv N hN _ T U k hS hT hU hTU rfl hK
  · exact apart_inv n seed at' sh m v w hM (by simpa using hv)
end Go.Proofs.Ytegomicpolnpoaa
namespace Go.Proofs.Ytegomicpolnpoaa.sampleApart
open Go.ChangeShapes Go.WideShapes Go.ChangeAt Go.RowKit
set_option linter.unusedVariables false

section
variable {H : Type} {enc : TypeId × Value → H} {P : Program} {w : World} {base : Nat} {spare : Nat → Bool} {held : Bool}
theorem trodAll_five {t0 t1 t2 t3 t4 : TypeId} {args : Array Value} {ds : List (DataW H)} {ps : List MemPlace} (h : DataW.TrodAll enc P w base spare held [t0, t1, t2, t3, t4] args.toList ds ps) :
    ∃ v0 v1 v2 v3 v4 d0 d1 d2 d3 d4 p0 p1 p2 p3 p4, args = #[v0, v1, v2, v3, v4] ∧ ds = [d0, d1, d2, d3, d4] ∧ ps = p0 ++ p1 ++ p2 ++ p3 ++ p4 ∧ DataW.Trod enc P w base spare held t0 v0 d0 p0 ∧ DataW.Trod enc P w base spare held t1 v1 d1 p1 ∧ DataW.Trod enc P w base spare held t2 v2 d2 p2 ∧ DataW.Trod enc P w base spare held t3 v3 d3 p3 ∧ DataW.Trod enc P w base spare held t4 v4 d4 p4 := by
  obtain ⟨v0, vs0, d0, ds0, p0, q0, hargs, rfl, rfl, hd0, hrest⟩ := trodAll_cons h
  obtain ⟨v1, vs1, d1, ds1, p1, q1, rfl, rfl, rfl, hd1, hrest1⟩ := trodAll_cons hrest
  obtain ⟨v2, vs2, d2, ds2, p2, q2, rfl, rfl, rfl, hd2, hrest2⟩ := trodAll_cons hrest1
  obtain ⟨v3, vs3, d3, ds3, p3, q3, rfl, rfl, rfl, hd3, hrest3⟩ := trodAll_cons hrest2
  obtain ⟨v4, vs4, d4, ds4, p4, q4, rfl, rfl, rfl, hd4, hrest4⟩ := trodAll_cons hrest3
  obtain ⟨rfl, rfl, rfl⟩ := trodAll_nil hrest4
  exact ⟨v0, v1, v2, v3, v4, d0, d1, d2, d3, d4, p0, p1, p2, p3, p4, by cases args; simp_all, rfl, by simp, hd0, hd1, hd2, hd3, hd4⟩
theorem trodAll_mk5 {t0 t1 t2 t3 t4 : TypeId} {v0 v1 v2 v3 v4 : Value} {d0 d1 d2 d3 d4 : DataW H} {p0 p1 p2 p3 p4 : List MemPlace} (h0 : DataW.Trod enc P w base spare held t0 v0 d0 p0) (h1 : DataW.Trod enc P w base spare held t1 v1 d1 p1) (h2 : DataW.Trod enc P w base spare held t2 v2 d2 p2) (h3 : DataW.Trod enc P w base spare held t3 v3 d3 p3) (h4 : DataW.Trod enc P w base spare held t4 v4 d4 p4) :
    DataW.TrodAll enc P w base spare held [t0, t1, t2, t3, t4] [v0, v1, v2, v3, v4] [d0, d1, d2, d3, d4] (p0 ++ (p1 ++ (p2 ++ (p3 ++ p4)))) := ⟨p0, p1 ++ (p2 ++ (p3 ++ p4)), h0, trodAll_mk4 h1 h2 h3 h4, rfl⟩
end
theorem own : ownKnob Try.prog.godebug = none := by kernel_rfl
theorem laidOut : laidOutB Try.prog = true := by kernel_rfl

set_option maxRecDepth 100000 in
theorem lifted (os : Os) (started : os.Started) (H : Type) (enc : TypeId × Value → H) :
    ReturnsInHanded {} Try.checked os 9 .any (Rows.sampleApartSpec.pre6 enc Try.prog Try.f9 Rows.sampleApartRow.domain false) (Rows.sampleApartSpec.post enc Try.prog Try.f9 false true false false) := by
  refine returnsInHanded_of_change_sized (C := Try.checked) own started (by kernel_rfl) Try.func9
    (ChangeSpec.witness6 (enc := enc) (C := Try.checked) false ⟨#[], #[.int .i64 0, .int .i64 0, .bool false, .slice none 0 0, .int .i64 0], []⟩ 9 (by kernel_rfl) (by kernel_rfl) (by kernel_rfl) (by kernel_rfl)) ?_
  intro W base args ds gs before hval0 hW hcnd hsz _
  have hval : ∀ (j : Nat) t v, Try.f9.params[j]? = some t → args[j]? = some v → Value.okWide Try.prog W .any base t v := hval0
  have hW' := hW
  obtain ⟨p, q, hA0, hV, rfl, hfz, hnd⟩ := hW
  have hA : DataW.TrodAll enc Try.prog W 0 (fun _ => true) true Try.f9.params.toList args.toList ds p := hA0
  rw [Try.params9] at hA hval
  obtain ⟨v0, v1, v2, v3, v4, d0, d1, d2, d3, d4, p0, p1, p2, p3, p4, rfl, rfl, rfl, h0, h1, h2, h3, h4⟩ := trodAll_five hA
  obtain ⟨rfl, rfl⟩ := trodVars_none hV
  have hsz' : (DataW.weightsEach Try.prog [3, 3, 4, 30, 3] [d0, d1, d2, d3, d4]).all (· ≤ reachBytes) = true := by
    have := hsz
    rw [Try.params9] at this
    exact this
  simp only [DataW.weightsEach, List.append_nil, List.all_append, Bool.and_eq_true] at hsz'
  obtain ⟨m, hm⟩ := mat_arg Try.underlying30 (hval 3 30 v3 rfl rfl) h3 hsz'.2.2.2.1
  obtain ⟨a0, rfl, rfl, rfl, w0⟩ := open_int Try.underlying3 (hval 0 3 v0 rfl rfl) h0
  obtain ⟨a1, rfl, rfl, rfl, w1⟩ := open_int Try.underlying3 (hval 1 3 v1 rfl rfl) h1
  obtain ⟨a2, rfl, rfl, rfl⟩ := open_bool Try.underlying4 (hval 2 4 v2 rfl rfl) h2
  obtain ⟨a4, rfl, rfl, rfl, w4⟩ := open_int Try.underlying3 (hval 4 3 v4 rfl rfl) h4
  have hlt : ∀ x ∈ [] ++ [] ++ [] ++ p3 ++ [] ++ [], x.block < W.heap.size := fun x hx => hW'.lt x (by simpa using hx)
  refine (apartLaw_any a0 a1 a4 a2 m v3 W hm).mono fun e W' ⟨he, hbl⟩ => ?_
  subst he
  refine ⟨_, rfl, [.lit (.int .i64 a0), .lit (.int .i64 a1), .lit (.bool a2), d3, .lit (.int .i64 a4)], [], [] ++ [] ++ [] ++ p3 ++ [] ++ [], [], [] ++ ([] ++ ([] ++ (p3 ++ []))), [], hW', ?_, ?_, ?_, hbl.frame _, fun h => by cases h⟩
  · exact trodAll_mk1 (shut_bool Try.underlying4 true)
  · show DataW.TrodAll enc Try.prog W' 0 (fun b => decide (b < W.heap.size)) true Try.f9.params.toList [.int .i64 a0, .int .i64 a1, .bool a2, v3, .int .i64 a4] [.lit (.int .i64 a0), .lit (.int .i64 a1), .lit (.bool a2), d3, .lit (.int .i64 a4)] ([] ++ ([] ++ ([] ++ (p3 ++ []))))
    rw [Try.params9]
    exact trodAll_mk5 (shut_int Try.underlying3 w0) (shut_int Try.underlying3 w1) (shut_bool Try.underlying4 a2) (Below.trod laidOut (by kernel_rfl) (of_decide_eq_true (by kernel_rfl)) h3 hbl (fun x hx => hlt x (by simp [hx]))) (shut_int Try.underlying3 w4)
  · first | rfl | simp

theorem over : Rows.sampleApartRow.holds Try.pinned (OpenSpec.ofChange Rows.sampleApartSpec) :=
  OpenClaim.holds_of_wide 9 Try.f9 rfl rfl rfl rfl rfl rfl rfl ⟨rfl, rfl, rfl, rfl, rfl⟩ rfl rfl rfl rfl rfl (by kernel_rfl) Try.func9 (by kernel_rfl)
    (of_decide_eq_true (by kernel_rfl)) (by unfold Func.isWrapper; first | (rw [if_pos (by decide +kernel)]; kernel_rfl) | (rw [if_neg (by decide +kernel)]; exact ⟨rfl, rfl⟩))
    (fun os started H enc _ => lifted os started H enc)
end Go.Proofs.Ytegomicpolnpoaa.sampleApart
namespace Go.Proofs.Ytegomicpolnpoaa
theorem sampleApart_holds : Rows.SampleApartSaid := sampleApart.over
#print axioms sampleApart_holds
end Go.Proofs.Ytegomicpolnpoaa
