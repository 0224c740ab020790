/- The document's Cut where it tells an error. -/
import Derived.Test.YtfbeeaibejggdaaDoorNA
namespace Go.Proofs.YtfbeeaibejggdaaDoor
open Go.RowKit Go.Lib

set_option maxRecDepth 100000 in
set_option maxHeartbeats 1600000 in
theorem refCut_bad (t : T) (v : Value) (fr til : Int) (w : World) (hr : Rep w t v) (hc : costT t ≤ 3000) (hv : validB t = false) : Calls Tryd.prog 32 #[v, .int .i64 fr, .int .i64 til] w (CutPost t fr til w) := by
  have hr0 := hr
  obtain ⟨ka, va, kc, vc, rfl, _, _, _, _, _, _, _⟩ := rep_agg hr
  have hW : Same w ((w.alloc (.cells #[.int .i64 t.kind, .int .i64 t.n, .string t.s, .slice ka t.keys.length kc, .slice va t.kids.length vc] 25)).alloc (.cells #[.int .i64 0, .int .i64 0, .string ⟨#[]⟩, .slice none 0 0, .slice none 0 0] 25)) :=
    Same.of_below (((Below.refl _ w).alloc (Nat.le_refl _) _).alloc (by simp) _)
  have hm := refValid_any t _ _ (Rep.mono hW _ _ hr0) hc
  rw [hv] at hm
  have hV : Hid (cutV t fr til = (zeroT, 1)) := Lib.hid (by rw [cutV, hv]; rfl)
  clear hv hW
  go_enter Tryd.func32, Tryd.ntmps32
  go_wp2_with (go_at_call 17; refine hm.mono ?_; rintro e w1 ⟨rfl, hb1⟩; have hi := In2.ofBelow hb1; obtain ⟨⟨b0, b1, b2, b3, b4⟩, d0, d1, d2, d3, d4⟩ := five_all (zero_stored hi))
  refine bodyPost_ret (v := .tuple #[.agg #[.int .i64 0, .int .i64 0, .string ⟨#[]⟩, .slice none 0 0, .slice none 0 0], .int .i64 1]) (by simp [results, Tryd.results32, go_sem, b0, b1, b2, b3, b4]) rfl ⟨0, 0, ⟨#[]⟩, none, 0, 0, none, 0, 0, by rw [hV.out], by rw [hV.out]; exact zero_rep _, ?_⟩
  exact ((((hi.out.setCell (by simp) _).setCell (by simp) _).setCell (by simp) _).setCell (by simp) _).setCell (by simp) _

set_option maxRecDepth 100000 in
set_option maxHeartbeats 1600000 in
theorem refCut_other (t : T) (v : Value) (fr til : Int) (w : World) (hr : Rep w t v) (hc : costT t ≤ 3000) (hv : validB t = true) (hk : t.kind ≠ 10) : Calls Tryd.prog 32 #[v, .int .i64 fr, .int .i64 til] w (CutPost t fr til w) := by
  have hr0 := hr
  obtain ⟨ka, va, kc, vc, rfl, _, _, _, _, _, _, _⟩ := rep_agg hr
  have hW : Same w ((w.alloc (.cells #[.int .i64 t.kind, .int .i64 t.n, .string t.s, .slice ka t.keys.length kc, .slice va t.kids.length vc] 25)).alloc (.cells #[.int .i64 0, .int .i64 0, .string ⟨#[]⟩, .slice none 0 0, .slice none 0 0] 25)) :=
    Same.of_below (((Below.refl _ w).alloc (Nat.le_refl _) _).alloc (by simp) _)
  have hm := refValid_any t _ _ (Rep.mono hW _ _ hr0) hc
  rw [hv] at hm
  have hV : Hid (cutV t fr til = (zeroT, 10)) := Lib.hid (by rw [cutV, hv, if_pos rfl, if_neg hk])
  have hk' : (t.kind != 10) = true := by simp [hk]
  clear hv hW hk
  go_enter Tryd.func32, Tryd.ntmps32
  go_wp2_with (go_at_call 17; refine hm.mono ?_; rintro e w1 ⟨rfl, hb1⟩; have hi := In2.ofBelow hb1; obtain ⟨⟨b0, b1, b2, b3, b4⟩, d0, d1, d2, d3, d4⟩ := five_all (zero_stored hi); obtain ⟨⟨x0, x1, x2, x3, x4⟩, _⟩ := In2.cells (y0 := .int .i64 0) (y1 := .int .i64 0) (y2 := .string ⟨#[]⟩) (y3 := .slice none 0 0) (y4 := .slice none 0 0) hi)
  refine bodyPost_ret (v := .tuple #[.agg #[.int .i64 0, .int .i64 0, .string ⟨#[]⟩, .slice none 0 0, .slice none 0 0], .int .i64 10]) (by simp [results, Tryd.results32, go_sem, b0, b1, b2, b3, b4]) rfl ⟨0, 0, ⟨#[]⟩, none, 0, 0, none, 0, 0, by rw [hV.out], by rw [hV.out]; exact zero_rep _, ?_⟩
  exact ((((hi.out.setCell (by simp) _).setCell (by simp) _).setCell (by simp) _).setCell (by simp) _).setCell (by simp) _

set_option maxRecDepth 100000 in
set_option maxHeartbeats 1600000 in
theorem refCut_range (t : T) (v : Value) (fr til : Int) (w : World) (hr : Rep w t v) (hc : costT t ≤ 3000) (hv : validB t = true) (hk : t.kind = 10) (hx : fr < 0 ∨ til < fr ∨ 1000000000 < til) : Calls Tryd.prog 32 #[v, .int .i64 fr, .int .i64 til] w (CutPost t fr til w) := by
  have hr0 := hr
  obtain ⟨ka, va, kc, vc, rfl, _, _, _, _, _, _, _⟩ := rep_agg hr
  have hW : Same w ((w.alloc (.cells #[.int .i64 t.kind, .int .i64 t.n, .string t.s, .slice ka t.keys.length kc, .slice va t.kids.length vc] 25)).alloc (.cells #[.int .i64 0, .int .i64 0, .string ⟨#[]⟩, .slice none 0 0, .slice none 0 0] 25)) :=
    Same.of_below (((Below.refl _ w).alloc (Nat.le_refl _) _).alloc (by simp) _)
  have hm := refValid_any t _ _ (Rep.mono hW _ _ hr0) hc
  rw [hv] at hm
  have hV : Hid (cutV t fr til = (zeroT, 7)) := Lib.hid (by rw [cutV, hv, if_pos rfl, if_pos hk, if_pos hx])
  have hk' : (t.kind != 10) = false := by simp [hk]
  obtain ⟨kd, hkd⟩ : ∃ kd, t.kind = kd := ⟨_, rfl⟩
  rw [hkd] at hm hk'
  clear hv hW hk
  by_cases h1 : fr < 0
  · clear hx
    rw [hkd]
    clear hkd
    go_enter Tryd.func32, Tryd.ntmps32
    go_wp2_with (go_at_call 17; refine hm.mono ?_; rintro e w1 ⟨rfl, hb1⟩; have hi := In2.ofBelow hb1; obtain ⟨⟨b0, b1, b2, b3, b4⟩, d0, d1, d2, d3, d4⟩ := five_all (zero_stored hi); obtain ⟨⟨x0, x1, x2, x3, x4⟩, _⟩ := In2.cells (y0 := .int .i64 0) (y1 := .int .i64 0) (y2 := .string ⟨#[]⟩) (y3 := .slice none 0 0) (y4 := .slice none 0 0) hi)
    refine bodyPost_ret (v := .tuple #[.agg #[.int .i64 0, .int .i64 0, .string ⟨#[]⟩, .slice none 0 0, .slice none 0 0], .int .i64 7]) (by simp [results, Tryd.results32, go_sem, b0, b1, b2, b3, b4]) rfl ⟨0, 0, ⟨#[]⟩, none, 0, 0, none, 0, 0, by rw [hV.out], by rw [hV.out]; exact zero_rep _, ?_⟩
    exact ((((hi.out.setCell (by simp) _).setCell (by simp) _).setCell (by simp) _).setCell (by simp) _).setCell (by simp) _
  · by_cases h2 : til < fr
    · clear hx
      rw [hkd]
      clear hkd
      go_enter Tryd.func32, Tryd.ntmps32
      go_wp2_with (go_at_call 17; refine hm.mono ?_; rintro e w1 ⟨rfl, hb1⟩; have hi := In2.ofBelow hb1; obtain ⟨⟨b0, b1, b2, b3, b4⟩, d0, d1, d2, d3, d4⟩ := five_all (zero_stored hi); obtain ⟨⟨x0, x1, x2, x3, x4⟩, _⟩ := In2.cells (y0 := .int .i64 0) (y1 := .int .i64 0) (y2 := .string ⟨#[]⟩) (y3 := .slice none 0 0) (y4 := .slice none 0 0) hi)
      refine bodyPost_ret (v := .tuple #[.agg #[.int .i64 0, .int .i64 0, .string ⟨#[]⟩, .slice none 0 0, .slice none 0 0], .int .i64 7]) (by simp [results, Tryd.results32, go_sem, b0, b1, b2, b3, b4]) rfl ⟨0, 0, ⟨#[]⟩, none, 0, 0, none, 0, 0, by rw [hV.out], by rw [hV.out]; exact zero_rep _, ?_⟩
      exact ((((hi.out.setCell (by simp) _).setCell (by simp) _).setCell (by simp) _).setCell (by simp) _).setCell (by simp) _
    · have h3 : 1000000000 < til := by omega
      clear hx
      rw [hkd]
      clear hkd
      go_enter Tryd.func32, Tryd.ntmps32
      go_wp2_with (go_at_call 17; refine hm.mono ?_; rintro e w1 ⟨rfl, hb1⟩; have hi := In2.ofBelow hb1; obtain ⟨⟨b0, b1, b2, b3, b4⟩, d0, d1, d2, d3, d4⟩ := five_all (zero_stored hi); obtain ⟨⟨x0, x1, x2, x3, x4⟩, _⟩ := In2.cells (y0 := .int .i64 0) (y1 := .int .i64 0) (y2 := .string ⟨#[]⟩) (y3 := .slice none 0 0) (y4 := .slice none 0 0) hi)
      refine bodyPost_ret (v := .tuple #[.agg #[.int .i64 0, .int .i64 0, .string ⟨#[]⟩, .slice none 0 0, .slice none 0 0], .int .i64 7]) (by simp [results, Tryd.results32, go_sem, b0, b1, b2, b3, b4]) rfl ⟨0, 0, ⟨#[]⟩, none, 0, 0, none, 0, 0, by rw [hV.out], by rw [hV.out]; exact zero_rep _, ?_⟩
      exact ((((hi.out.setCell (by simp) _).setCell (by simp) _).setCell (by simp) _).setCell (by simp) _).setCell (by simp) _
end Go.Proofs.YtfbeeaibejggdaaDoor
