import Derived.Test.YtfbeeaibejggdaaDoorDA
import Derived.Test.YtfbeeaibejggdaaDoorE1
namespace Go.Proofs.YtfbeeaibejggdaaDoor
open Go.RowKit

def encodeV (t : T) : Value := if validB t then .tuple #[.string (writtenT t), .int .i64 0] else .tuple #[.string ⟨#[]⟩, .int .i64 1]
def sizeV (t : T) : Value := if validB t then .tuple #[.int .i64 ((writtenT t).size : Nat), .int .i64 0] else .tuple #[.int .i64 0, .int .i64 1]
def countV (t : T) : Value := if validB t then .tuple #[.int .i64 (countT t), .int .i64 0] else .tuple #[.int .i64 0, .int .i64 1]
theorem valid_shaped {t : T} (h : validB t = true) : shapedB t = true := by unfold validB at h; simp only [Bool.and_eq_true] at h; exact h.1.1.1

set_option maxHeartbeats 1000000 in
theorem refEncode_any (t : T) (v : Value) (w : World) (hr : Rep w t v) (hc : costT t ≤ 3000) :
    Calls Tryd.prog 11 #[v] w fun e w' => e = .returned (encodeV t) ∧ Below w.heap.size w w' := by
  obtain ⟨ka, va, kc, vc, rfl, _, _, _, _, _, _, _⟩ := rep_agg hr
  have hr1 := Rep.mono (same_alloc w (.cells #[.int .i64 t.kind, .int .i64 t.n, .string t.s, .slice ka t.keys.length kc, .slice va t.kids.length vc] 25)) _ _ hr
  have hm := refValid_any t _ _ hr1 hc
  cases hv : validB t with
  | true =>
    have hw := written_any t (valid_shaped hv) hc
    unfold WrittenAt at hw
    rw [encodeV, if_pos hv]
    rw [hv] at hm
    clear hv
    go_enter Tryd.func11, Tryd.ntmps11
    go_wp2_with (first | (go_at_call 17; refine hm.mono ?_; rintro e w1 ⟨rfl, hb1⟩; obtain ⟨x0, x1, x2, x3, x4⟩ := box_at (box_first hb1)) | (go_at_call 36; refine (hw _ _ (Rep.mono (Same.of_box (box_first hb1)) _ _ hr)).mono ?_; rintro e w2 ⟨rfl, hb2⟩))
    go_ret2
    exact ⟨rfl, box_out (box_next (box_first hb1) hb2)⟩
  | false =>
    rw [encodeV, if_neg (by rw [hv]; simp)]
    rw [hv] at hm
    clear hv
    go_enter Tryd.func11, Tryd.ntmps11
    go_wp2_with (go_at_call 17; refine hm.mono ?_; rintro e w1 ⟨rfl, hb1⟩)
    go_ret2
    exact ⟨rfl, box_out (box_first hb1)⟩

set_option maxHeartbeats 1000000 in
theorem refSize_any (t : T) (v : Value) (w : World) (hr : Rep w t v) (hc : costT t ≤ 3000) :
    Calls Tryd.prog 13 #[v] w fun e w' => e = .returned (sizeV t) ∧ Below w.heap.size w w' := by
  obtain ⟨ka, va, kc, vc, rfl, _, _, _, _, _, _, _⟩ := rep_agg hr
  have hm := refEncode_any t _ _ (Rep.mono (same_alloc w (.cells #[.int .i64 t.kind, .int .i64 t.n, .string t.s, .slice ka t.keys.length kc, .slice va t.kids.length vc] 25)) _ _ hr) hc
  cases hv : validB t with
  | true =>
    rw [sizeV, if_pos hv]
    rw [encodeV, if_pos hv] at hm
    clear hv
    go_enter Tryd.func13, Tryd.ntmps13
    go_wp2_with (go_at_call 11; refine hm.mono ?_; rintro e w1 ⟨rfl, hb1⟩)
    go_ret2
    exact ⟨rfl, box_out (box_first hb1)⟩
  | false =>
    rw [sizeV, if_neg (by rw [hv]; simp)]
    rw [encodeV, if_neg (by rw [hv]; simp)] at hm
    clear hv
    go_enter Tryd.func13, Tryd.ntmps13
    go_wp2_with (go_at_call 11; refine hm.mono ?_; rintro e w1 ⟨rfl, hb1⟩)
    go_ret2
    exact ⟨rfl, box_out (box_first hb1)⟩

set_option maxHeartbeats 1000000 in
theorem refCount_any (t : T) (v : Value) (w : World) (hr : Rep w t v) (hc : costT t ≤ 3000) :
    Calls Tryd.prog 15 #[v] w fun e w' => e = .returned (countV t) ∧ Below w.heap.size w w' := by
  have hcc := count_cost t
  obtain ⟨ka, va, kc, vc, rfl, _, _, _, _, _, _, _⟩ := rep_agg hr
  have hr1 := Rep.mono (same_alloc w (.cells #[.int .i64 t.kind, .int .i64 t.n, .string t.s, .slice ka t.keys.length kc, .slice va t.kids.length vc] 25)) _ _ hr
  have hm := refValid_any t _ _ hr1 hc
  cases hv : validB t with
  | true =>
    rw [countV, if_pos hv]
    rw [hv] at hm
    clear hv
    go_enter Tryd.func15, Tryd.ntmps15
    go_wp2_with (first | (go_at_call 17; refine hm.mono ?_; rintro e w1 ⟨rfl, hb1⟩; obtain ⟨x0, x1, x2, x3, x4⟩ := box_at (box_first hb1)) | (go_at_call 38; refine (counted_any t _ _ (Rep.mono (Same.of_box (box_first hb1)) _ _ hr) (by omega)).mono ?_; rintro e w2 ⟨rfl, hb2⟩))
    go_ret2
    exact ⟨rfl, box_out (box_next (box_first hb1) hb2)⟩
  | false =>
    rw [countV, if_neg (by rw [hv]; simp)]
    rw [hv] at hm
    clear hv
    go_enter Tryd.func15, Tryd.ntmps15
    go_wp2_with (go_at_call 17; refine hm.mono ?_; rintro e w1 ⟨rfl, hb1⟩)
    go_ret2
    exact ⟨rfl, box_out (box_first hb1)⟩

set_option maxHeartbeats 1000000 in
theorem size_any (t : T) (v : Value) (w : World) (hr : Rep w t v) (hl : HasLaid w) (hc : costT t ≤ 3000) :
    Calls Tryd.prog 12 #[v] w fun e w' => e = .returned (sizeV t) ∧ Below w.heap.size w w' := by
  obtain ⟨ka, va, kc, vc, rfl, _, _, _, _, _, _, _⟩ := rep_agg hr
  have hm := measure_val t _ _ (Rep.mono (same_alloc w (.cells #[.int .i64 t.kind, .int .i64 t.n, .string t.s, .slice ka t.keys.length kc, .slice va t.kids.length vc] 25)) _ _ hr) (hl.mono (same_alloc w _)) hc
  cases hv : validB t with
  | true =>
    rw [sizeV, if_pos hv]
    rw [measureV, if_pos hv] at hm
    clear hv
    go_enter Tryd.func12, Tryd.ntmps12
    go_wp2_with (go_at_call 37; refine hm.mono ?_; rintro e w1 ⟨rfl, hb1⟩)
    go_ret2
    exact ⟨rfl, box_out (box_first hb1)⟩
  | false =>
    rw [sizeV, if_neg (by rw [hv]; simp)]
    rw [measureV, if_neg (by rw [hv]; simp)] at hm
    clear hv
    go_enter Tryd.func12, Tryd.ntmps12
    go_wp2_with (go_at_call 37; refine hm.mono ?_; rintro e w1 ⟨rfl, hb1⟩)
    go_ret2
    exact ⟨rfl, box_out (box_first hb1)⟩

set_option maxHeartbeats 1000000 in
theorem count_any (t : T) (v : Value) (w : World) (hr : Rep w t v) (hl : HasLaid w) (hc : costT t ≤ 3000) :
    Calls Tryd.prog 14 #[v] w fun e w' => e = .returned (countV t) ∧ Below w.heap.size w w' := by
  obtain ⟨ka, va, kc, vc, rfl, _, _, _, _, _, _, _⟩ := rep_agg hr
  have hm := measure_val t _ _ (Rep.mono (same_alloc w (.cells #[.int .i64 t.kind, .int .i64 t.n, .string t.s, .slice ka t.keys.length kc, .slice va t.kids.length vc] 25)) _ _ hr) (hl.mono (same_alloc w _)) hc
  cases hv : validB t with
  | true =>
    rw [countV, if_pos hv]
    rw [measureV, if_pos hv] at hm
    clear hv
    go_enter Tryd.func14, Tryd.ntmps14
    go_wp2_with (go_at_call 37; refine hm.mono ?_; rintro e w1 ⟨rfl, hb1⟩)
    go_ret2
    exact ⟨rfl, box_out (box_first hb1)⟩
  | false =>
    rw [countV, if_neg (by rw [hv]; simp)]
    rw [measureV, if_neg (by rw [hv]; simp)] at hm
    clear hv
    go_enter Tryd.func14, Tryd.ntmps14
    go_wp2_with (go_at_call 37; refine hm.mono ?_; rintro e w1 ⟨rfl, hb1⟩)
    go_ret2
    exact ⟨rfl, box_out (box_first hb1)⟩
end Go.Proofs.YtfbeeaibejggdaaDoor
