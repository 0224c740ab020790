import Derived.Test.YtfbeeaibejggdaaDoorD1
namespace Go.Proofs.YtfbeeaibejggdaaDoor
open Go.RowKit

theorem good_valid (t : T) : Good (preT t 1) ↔ validB t = true := by
  have hlen := preT_len t 1
  constructor
  · intro hg
    have hall : ∀ x ∈ preT t 1, x.2 ≤ 10 ∧ soundB x.1 = true := fun x hx => by
      obtain ⟨p, r, h⟩ := List.append_of_mem hx
      have := hg p x r h
      unfold goodStep at this
      simp only [Bool.and_eq_true, decide_eq_true_eq] at this
      exact ⟨by omega, this.1.1.2⟩
    have h1 : shapedB t = true := (shaped_iff t 1).2 fun x hx => (hall x hx).2
    have h2 : deepT t ≤ 10 := by
      obtain ⟨x, hx, h⟩ := level_at t 1
      have := (hall x hx).1
      omega
    have h3 : countT t ≤ 500 := by
      rcases List.eq_nil_or_concat (preT t 1) with h | ⟨p, x, h⟩
      · rw [h] at hlen; simp at hlen; omega
      · rw [List.concat_eq_append] at h
        have := hg p x [] h
        unfold goodStep at this
        simp only [Bool.and_eq_true, decide_eq_true_eq] at this
        rw [h, List.length_append] at hlen
        simp at hlen
        omega
    have h4 := good_sum hg
    rw [← written_own t 1 h1] at h4
    unfold validB
    rw [h1, decide_eq_true (by omega : (deepT t : Int) ≤ 10), decide_eq_true (by omega : (countT t : Int) ≤ 500), decide_eq_true h4]
    rfl
  · intro hv p x r h
    unfold validB at hv
    simp only [Bool.and_eq_true, decide_eq_true_eq] at hv
    obtain ⟨⟨⟨h1, h2⟩, h3⟩, h4⟩ := hv
    have hx : x ∈ preT t 1 := by rw [h]; simp
    have s1 := (shaped_iff t 1).1 h1 x hx
    have s2 := level_le t 1 x hx
    have s3 := kids_behind t 1 p r x h
    rw [written_own t 1 h1, h, sumOwn_append, sumOwn] at h4
    have s4 := sum_lo r
    rw [h, List.length_append, List.length_cons] at hlen
    unfold goodStep
    rw [s1, decide_eq_true (by omega : (x.2 : Int) ≤ 10), decide_eq_true (by omega : (p.length : Int) + 1 + x.1.kids.length ≤ 500), decide_eq_true (by omega : sumOwn p + ownT x.1 ≤ 65536)]
    rfl

/-- What measure answers. -/
def measureV (t : T) : Value := if validB t then .tuple #[.int .i64 (countT t), .int .i64 ((writtenT t).size : Nat), .bool true] else .tuple #[.int .i64 0, .int .i64 0, .bool false]

theorem measure_val (t : T) (v : Value) (w : World) (hr : Rep w t v) (hl : HasLaid w) (hc : costT t ≤ 3000) :
    Calls Tryd.prog 37 #[v] w fun e w' => e = .returned (measureV t) ∧ Below w.heap.size w w' := by
  refine (measure_any t v w hr hl hc).mono fun e w' => ?_
  rintro ⟨⟨hg, rfl⟩ | ⟨hg, rfl⟩, hb⟩
  · have hv := (good_valid t).1 hg
    refine ⟨?_, hb⟩
    have h1 : shapedB t = true := by unfold validB at hv; simp only [Bool.and_eq_true] at hv; exact hv.1.1.1
    rw [measureV, if_pos hv, written_own t 1 h1]
  · have hv : ¬ validB t = true := fun h => hg ((good_valid t).2 h)
    exact ⟨by rw [measureV, if_neg hv], hb⟩

set_option maxHeartbeats 1000000 in
theorem valid_any (t : T) (v : Value) (w : World) (hr : Rep w t v) (hl : HasLaid w) (hc : costT t ≤ 3000) :
    Calls Tryd.prog 16 #[v] w fun e w' => e = .returned (.bool (validB t)) ∧ Below w.heap.size w w' := by
  obtain ⟨ka, va, kc, vc, rfl, _, _, _, _, _, _, _⟩ := rep_agg hr
  have hm := measure_val t _ _ (Rep.mono (same_alloc w (.cells #[.int .i64 t.kind, .int .i64 t.n, .string t.s, .slice ka t.keys.length kc, .slice va t.kids.length vc] 25)) _ _ hr) (hl.mono (same_alloc w _)) hc
  cases hv : validB t with
  | true =>
    rw [measureV, if_pos hv] at hm
    clear hv
    go_enter Tryd.func16, Tryd.ntmps16
    go_wp2_with (go_at_call 37; refine hm.mono ?_; rintro e w1 ⟨rfl, hb1⟩)
    go_ret
    exact ⟨rfl, box_out (box_first hb1)⟩
  | false =>
    rw [measureV, if_neg (by rw [hv]; simp)] at hm
    clear hv
    go_enter Tryd.func16, Tryd.ntmps16
    go_wp2_with (go_at_call 37; refine hm.mono ?_; rintro e w1 ⟨rfl, hb1⟩)
    go_ret
    exact ⟨rfl, box_out (box_first hb1)⟩
end Go.Proofs.YtfbeeaibejggdaaDoor
