import Derived.Test.YtfbeeaibejggdaaDoorA9
namespace Go.Proofs.YtfbeeaibejggdaaDoor
open Go.RowKit

mutual
theorem count_cost : ∀ t : T, countT t ≤ costT t
  | .mk _ _ s keys kids => by rw [countT, costT]; have := countL_cost kids; omega
theorem countL_cost : ∀ l : List T, countL l ≤ costL l
  | [] => by simp [countL, costL]
  | t :: r => by rw [countL, costL]; have := count_cost t; have := countL_cost r; omega
end
mutual
theorem deep_count : ∀ t : T, deepT t ≤ countT t
  | .mk _ _ s keys kids => by rw [countT, deepT]; have := deepL_count kids; omega
theorem deepL_count : ∀ l : List T, deepL l ≤ countL l
  | [] => by simp [countL, deepL]
  | t :: r => by rw [countL, deepL]; have := deep_count t; have := deepL_count r; omega
end

def validB (t : T) : Bool := shapedB t && decide ((deepT t : Int) ≤ 10) && decide ((countT t : Int) ≤ 500) && decide (((writtenT t).size : Int) ≤ 65536)

theorem rep_agg {w : World} {t : T} {v : Value} (h : Rep w t v) : ∃ (ka va : Option Addr) (kc vc : Nat), v = .agg #[.int .i64 t.kind, .int .i64 t.n, .string t.s, .slice ka t.keys.length kc, .slice va t.kids.length vc] ∧
      I64 t.kind ∧ I64 t.n ∧ t.s.size ≤ 140737488355328 ∧ t.keys.length ≤ 17592186044416 ∧ t.kids.length ≤ 17592186044416 ∧ KeysIn w ka t.keys ∧ KidsIn w va 0 t.kids := by
  obtain ⟨kd, n, s, keys, kids⟩ := t
  exact rep_mk h

set_option maxHeartbeats 1000000 in
theorem refValid_any (t0 : T) (v : Value) (w : World) (hr : Rep w t0 v) (hc : costT t0 ≤ 3000) :
    Calls Tryd.prog 17 #[v] w fun e w' => e = .returned (.bool (validB t0)) ∧ Below w.heap.size w w' := by
  have hc1 := count_cost t0
  have hc2 := deep_count t0
  have hsz := written_size t0
  obtain ⟨ka, va, kc, vc, rfl, _, _, _, _, _, _, _⟩ := rep_agg hr
  have hr1 := Rep.mono (same_alloc w (.cells #[.int .i64 t0.kind, .int .i64 t0.n, .string t0.s, .slice ka t0.keys.length kc, .slice va t0.kids.length vc] 25)) _ _ hr
  have HV : validB t0 = (shapedB t0 && decide ((deepT t0 : Int) ≤ 10) && decide ((countT t0 : Int) ≤ 500) && decide (((writtenT t0).size : Int) ≤ 65536)) := rfl
  rw [HV]
  have hd : deepT t0 ≤ 1000000 := by omega
  have hn : countT t0 ≤ 1000000 := by omega
  have hw : (writtenT t0).size ≤ 1000000 := by omega
  clear hc1 hc2 hsz HV
  cases hs : shapedB t0 with
  | false =>
    have Hs := Lib.hid hs
    have hsc := shaped_any t0
    unfold ShapedAt at hsc
    rw [hs] at hsc
    clear hs
    go_enter Tryd.func17, Tryd.ntmps17
    go_wp2_with (go_at_call 39; (with_reducible refine (hsc _ _ hr1).mono ?_); rintro e w1 ⟨rfl, hb1⟩)
    go_ret
    exact ⟨ret_bool (by simp), box_out (box_first hb1)⟩
  | true =>
    have hwr := written_any t0 hs hc
    unfold WrittenAt at hwr
    have hsc := shaped_any t0
    unfold ShapedAt at hsc
    rw [hs] at hsc
    clear hs
    go_enter Tryd.func17, Tryd.ntmps17
    go_wp2_with (first
      | (go_at_call 39; (with_reducible refine (hsc _ _ hr1).mono ?_); rintro e w1 ⟨rfl, hb1⟩; have hb2 := box_first hb1; obtain ⟨x0, x1, x2, x3, x4⟩ := box_at hb2; have hr2 := Rep.mono (Same.of_box hb2) _ _ hr)
      | (go_at_call 40; (with_reducible refine (deep_any _ _ _ hr2 hd).mono ?_); rintro e w2 ⟨rfl, hb3⟩; have hb4 := box_next hb2 hb3; obtain ⟨y0, y1, y2, y3, y4⟩ := box_at hb4; have hr3 := Rep.mono (Same.of_box hb4) _ _ hr)
      | (go_at_call 38; (with_reducible refine (counted_any _ _ _ hr3 hn).mono ?_); rintro e w3 ⟨rfl, hb5⟩; have hb6 := box_next hb4 hb5; obtain ⟨q0, q1, q2, q3, q4⟩ := box_at hb6; have hr4 := Rep.mono (Same.of_box hb6) _ _ hr)
      | (go_at_call 36; (with_reducible refine (hwr _ _ hr4).mono ?_); rintro e w4 ⟨rfl, hb7⟩))
    all_goals
      go_ret
      refine ⟨ret_bool ?_, box_out (by first | exact box_next hb6 hb7 | exact hb6 | exact hb4)⟩
      clear hr hr1 hr2
      try clear hr3
      try clear hr4
      try simp only [*]
      simp
      try omega
end Go.Proofs.YtfbeeaibejggdaaDoor
