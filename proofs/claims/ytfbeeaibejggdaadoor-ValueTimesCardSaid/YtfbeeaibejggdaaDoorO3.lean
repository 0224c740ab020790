/- ValueTimes: for any value and any three numbers the law returns true, and its arguments read afterwards as before. No condition but the row's own cells. -/
import Derived.Test.YtfbeeaibejggdaaDoorK1
import Derived.Test.YtfbeeaibejggdaaDoorCards
import Derived.Test.YtfbeeaibejggdaaDoorTie
import Derived.Test.YtfbeeaibejggdaaDoorO2
namespace Go.Proofs.YtfbeeaibejggdaaDoor
open Go.ChangeShapes Go.WideShapes Go.ChangeAt Go.WideMaps Go.WideElems Go.RowKit

theorem valueTimes_calls (t : T) (v : Value) (time fr til : Int) (w : World) (hr : Rep w t v) (hl : HasLaid w) :
    Calls Tryd.prog 7 #[v, .int .i64 time, .int .i64 fr, .int .i64 til] w fun e w' => e = .returned (.bool true) ∧ Below w.heap.size w w' := by
  cases hlt : decide (0 < weightT t 3000) with
  | false => exact times_dark t v time fr til w hr hl hlt
  | true =>
    by_cases h0 : (cutV t fr til).2 = 0
    · have hgood : validB t = true ∧ t.kind = 10 ∧ 0 ≤ fr ∧ fr ≤ til ∧ til ≤ 1000000000 := by
        rw [cutV] at h0
        split at h0
        · rename_i h1
          split at h0
          · rename_i h2
            split at h0
            · simp at h0
            · rename_i h3
              exact ⟨h1, h2, by omega, by omega, by omega⟩
          · simp at h0
        · simp at h0
      obtain ⟨h1, h2, h3, h4, h5⟩ := hgood
      obtain ⟨kd, n, s, keys, kids⟩ := t
      simp only [T.kind] at h2
      subst h2
      exact times_ok n s keys kids v time fr til w hr hl hlt h1 h3 h4 h5
    · exact times_bad t v time fr til w hr hl hlt _ rfl (by simp [h0])

set_option maxRecDepth 100000 in
theorem valueTimes_lifted (os : Os) (started : os.Started) (H : Type) (enc : TypeId × Value → H) :
    ReturnsInHanded {} Tryd.checked os 7 .any (fun w args => (Rows.valueTimesSpec.pre enc Tryd.prog Tryd.f7 [] false w args ∧ laidMetH Tryd.prog laidHas w) ∧ sizedMet enc Tryd.prog Tryd.f7 (OpenSpec.ofChange Rows.valueTimesSpec) false w args)
      (Rows.valueTimesSpec.post enc Tryd.prog Tryd.f7 false true false false) := by
  refine returnsInHanded_of_change_and (C := Tryd.checked) (X := fun w _ => laidMetH Tryd.prog laidHas w) (fun _ _ _ hh h => h.of_heap hh) own started (by kernel_rfl) Tryd.func7
    (ChangeSpec.witness_shaped (enc := enc) (C := Tryd.checked) (os := os) (X := fun w _ => laidMetH Tryd.prog laidHas w) false (World.doorLaid Tryd.prog 400 os) #[nilV, .int .i64 0, .int .i64 0, .int .i64 0] 8 rfl (World.shaped_of_RefB (by kernel_rfl) (by kernel_rfl)) (by kernel_rfl) (by kernel_rfl) (by kernel_rfl) (door_met os _)) ?_
  intro W base args ds gs before hval0 hW _ hsz hL _
  have hval : ∀ (j : Nat) t v, Tryd.f7.params[j]? = some t → args[j]? = some v → Value.okWide Tryd.prog W .any base t v := hval0
  have hW' := hW
  obtain ⟨p, q, hA0, hV, rfl, hfz, hnd⟩ := hW
  have hA : DataW.TrodAll enc Tryd.prog W 0 (fun _ => true) true Tryd.f7.params.toList args.toList ds p := hA0
  rw [Tryd.params7] at hA hval
  obtain ⟨v0, v1, v2, v3, d0, d1, d2, d3, p0, p1, p2, p3, rfl, rfl, rfl, h0, h1, h2, h3⟩ := trodAll_four hA
  obtain ⟨rfl, rfl⟩ := trodVars_none hV
  have hsz' : (DataW.weightsEach Tryd.prog [25, 3, 3, 3] [d0, d1, d2, d3]).all (· ≤ reachBytes) = true := by
    have := hsz
    rw [Tryd.params7] at this
    exact this
  simp only [DataW.weightsEach, List.append_nil, List.all_append, Bool.and_eq_true] at hsz'
  obtain ⟨t, ht⟩ := tree_arg (hval 0 25 v0 rfl rfl) h0 hsz'.1
  obtain ⟨n1, rfl, _⟩ := open_int Tryd.underlying3 (hval 1 3 v1 rfl rfl) h1
  obtain ⟨n2, rfl, _⟩ := open_int Tryd.underlying3 (hval 2 3 v2 rfl rfl) h2
  obtain ⟨n3, rfl, _⟩ := open_int Tryd.underlying3 (hval 3 3 v3 rfl rfl) h3
  have hlt : ∀ x ∈ p0 ++ p1 ++ p2 ++ p3 ++ [], x.block < W.heap.size := fun x hx => hW'.lt x hx
  refine (valueTimes_calls t v0 n1 n2 n3 W ht (has_of_laid hL)).mono fun e W' ⟨he, hbl⟩ => ?_
  subst he
  refine ⟨_, rfl, [d0, d1, d2, d3], [], p0 ++ p1 ++ p2 ++ p3 ++ [], [], p0 ++ (p1 ++ (p2 ++ p3)), [], hW', ?_, ?_, ?_, hbl.frame _, fun h => by cases h⟩
  · exact trodAll_mk1 (shut_bool Tryd.underlying4 true)
  · show DataW.TrodAll enc Tryd.prog W' 0 (fun b => decide (b < W.heap.size)) true Tryd.f7.params.toList [v0, .int .i64 n1, .int .i64 n2, .int .i64 n3] [d0, d1, d2, d3] (p0 ++ (p1 ++ (p2 ++ p3)))
    rw [Tryd.params7]
    exact trodAll_mk4 (Below.trod laidOut (by kernel_rfl) (of_decide_eq_true (by kernel_rfl)) h0 hbl (fun x hx => hlt x (by simp [hx]))) (Below.trod laidOut (by kernel_rfl) (of_decide_eq_true (by kernel_rfl)) h1 hbl (fun x hx => hlt x (by simp [hx])))
      (Below.trod laidOut (by kernel_rfl) (of_decide_eq_true (by kernel_rfl)) h2 hbl (fun x hx => hlt x (by simp [hx]))) (Below.trod laidOut (by kernel_rfl) (of_decide_eq_true (by kernel_rfl)) h3 hbl (fun x hx => hlt x (by simp [hx])))
  · rfl

theorem valueTimes_row : Rows.ValueTimesSaid :=
  OpenClaim.holds_of_wide 7 Tryd.f7 rfl rfl rfl rfl rfl rfl rfl ⟨rfl, rfl, rfl, rfl, rfl⟩ rfl rfl rfl rfl rfl (by kernel_rfl) Tryd.func7 (by kernel_rfl)
    (of_decide_eq_true (by kernel_rfl)) (by unfold Func.isWrapper; first | (rw [if_pos (by decide +kernel)]; kernel_rfl) | (rw [if_neg (by decide +kernel)]; exact ⟨rfl, rfl⟩))
    (fun os started H enc _ => valueTimes_lifted os started H enc)

theorem valueTimes_holds : Rows.ValueTimesCardSaid :=
  Claim7.holds_tied_plain_at .later [] [.data] true (true, "2e5f88aca82d1f0ef6d09e66e8077cf2c5c5b1ec69a1929176104ed28deaccfb") true
    valueTimes_row (fun _ h => by cases h) (by kernel_rfl) (fun _ h => by cases h) valueTimes_row_tie rfl ⟨rfl, rfl⟩ (by kernel_rfl) rfl
    (fun f fn hf hfn => by
      obtain rfl : f = 7 := Option.some.inj ((show Tryd.prog.funcNamed "continuo/continuolaw01.ValueTimes" = some 7 by kernel_rfl).symm.trans hf) |>.symm
      obtain rfl : fn = Tryd.f7 := (Option.some.inj (Tryd.func7.symm.trans hfn)).symm
      exact ⟨by kernel_rfl, fun j t ht => by
        rw [Tryd.params7] at ht
        have hm : t ∈ [25, 3, 3, 3] := by simpa using Array.mem_of_getElem? ht
        have hall : ([25, 3, 3, 3].all fun u => !Tryd.prog.wantsStandIn u) = true := by kernel_rfl
        exact (show Tryd.prog.wantsStandIn t = false by simpa using List.all_eq_true.1 hall t hm)⟩)
    (by kernel_rfl)
#print axioms valueTimes_holds
end Go.Proofs.YtfbeeaibejggdaaDoor
