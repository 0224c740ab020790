/- The example of the document, and which values are looked at. -/
import Derived.Test.YtfbeeaibejggdaaDoorI1
import Derived.Test.YtfbeeaibejggdaaDoorE3
namespace Go.Proofs.YtfbeeaibejggdaaDoor
open Go.RowKit

def fiveT : T := .mk 3 5 ⟨#[]⟩ [] []
def fiveS : ByteArray := ⟨#[8, 0, 0, 0, 3, 0, 0, 0, 5, 0, 0, 0, 0, 0, 0, 0]⟩
theorem five_written : writtenT fiveT = fiveS := by
  unfold fiveT
  rw [writtenT, bodyL]
  decide +kernel
theorem five_valid : validB fiveT = true := by
  have h : (writtenT fiveT).size = 16 := by rw [five_written]; rfl
  unfold validB
  rw [h]
  unfold fiveT
  rw [shapedB, deepT, deepL, countT, countL]
  decide +kernel
theorem five_rep (w : World) : Rep w fiveT (.agg #[.int .i64 3, .int .i64 5, .string ⟨#[]⟩, .slice none 0 0, .slice none 0 0]) := by
  unfold fiveT Rep
  refine ⟨none, none, 0, 0, rfl, by unfold I64; omega, by unfold I64; omega, by decide, by simp, by simp, fun i hi => by simp at hi, ?_⟩
  unfold KidsIn
  trivial

theorem awake_any (w : World) (hl : HasLaid w) : Calls Tryd.prog 9 #[] w fun e w' => e = .returned (.bool true) ∧ Below w.heap.size w w' := by
  have h := encode_any fiveT _ w (five_rep w) hl (by unfold fiveT; rw [costT, costL]; decide)
  rw [encodeV, if_pos five_valid, five_written] at h
  unfold fiveS at h
  go_enter Tryd.func9, Tryd.ntmps9
  go_wp2_with (go_at_call 10; refine h.mono ?_; rintro e w1 ⟨rfl, hb1⟩)
  go_ret
  exact ⟨rfl, hb1⟩

theorem light_any (t : T) (v : Value) (w : World) (hr : Rep w t v) : Calls Tryd.prog 8 #[v] w fun e w' => e = .returned (.bool (decide (0 < weightT t 3000))) ∧ Below w.heap.size w w' := by
  obtain ⟨ka, va, kc, vc, rfl, _, _, _, _, _, _, _⟩ := rep_agg hr
  have h := weight_any _ t _ 3000 _ (Nat.le_refl _) (Rep.mono (same_alloc w (.cells #[.int .i64 t.kind, .int .i64 t.n, .string t.s, .slice ka t.keys.length kc, .slice va t.kids.length vc] 25)) _ _ hr) (by omega) (by omega)
  go_enter Tryd.func8, Tryd.ntmps8
  go_wp2_with (go_at_call 33; refine h.mono ?_; rintro e w1 ⟨rfl, hb1⟩)
  go_ret
  exact ⟨ret_bool (by simp), box_out (box_first hb1)⟩

theorem light_cost {t : T} (h : decide (0 < weightT t 3000) = true) : costT t ≤ 3000 := by
  have h1 := of_decide_eq_true h
  have h2 := weight_cost t 3000 h1
  omega
end Go.Proofs.YtfbeeaibejggdaaDoor
