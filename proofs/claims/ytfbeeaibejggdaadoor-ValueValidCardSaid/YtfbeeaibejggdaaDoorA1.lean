import Derived.Test.YtfbeeaibejggdaaDoorProg
import Derived.Test.YtfbeeaibejggdaaDoorBase
import Derived.BigGuardPart
import Derived.Outline
namespace Go.Proofs.YtfbeeaibejggdaaDoor
open Go.RowKit

set_option maxHeartbeats 400000 in
theorem weight_any (N : Nat) : ∀ (t : T) (v : Value) (left : Int) (w : World), SizeOf.sizeOf t ≤ N → Rep w t v → 0 < left → left ≤ 3000 →
    Calls Tryd.prog 33 #[v, .int .i64 left] w fun e w' => e = .returned (.int .i64 (weightT t left)) ∧ Below w.heap.size w w' := by
  induction N with
  | zero => intro t; cases t; intro _ _ _ h; simp at h
  | succ N ih =>
    rintro ⟨kd, n, s, keys, kids⟩ v left w hN hr h1 h2
    unfold Rep at hr
    obtain ⟨ka, va, kc, vc, rfl, _, _, hs, hkl, hvl, _, hkids⟩ := hr
    have hs0 : 0 ≤ (s.size : Int) / 64 := by omega
    have hs1 : (s.size : Int) / 64 ≤ 140737488355328 := by omega
    go_enter Tryd.func33, Tryd.ntmps33
    go_wp2_with fail
    go_loopw [1, 5] (fun l i wr => ∃ (k : Nat), i = .int .i64 k ∧ k ≤ kids.length ∧ l = .int .i64 (weightL (kids.take k) (left - 1 - keys.length - s.size / 64)) ∧ Below (w.heap.size + 1) (w.alloc (.cells #[.int .i64 kd, .int .i64 n, .string s, .slice ka keys.length kc, .slice va kids.length vc] 25)) wr) (fun _ i _ => kids.length - (intOf i).toNat)
    case atStart => exact ⟨0, rfl, Nat.zero_le _, by simp [weightL], Below.refl _ _⟩
    case round =>
      obtain ⟨k, rfl, hk, rfl, hb⟩ := hrel
      have hc4 : wr.cell? ⟨w.heap.size, 4, none⟩ = some (.slice va kids.length vc) := by rw [hb.cell (by simp)]; simp [go_sem]
      by_cases hlt : k < kids.length
      · by_cases hq : 0 < weightL (kids.take k) (left - 1 - keys.length - s.size / 64)
        · obtain ⟨b, off, v0, v1, v2, v3, v4, rfl, g0, g1, g2, g3, g4, hrk⟩ := KidsIn.at kids 0 k hlt (KidsIn.mono (Same.of_box hb) _ _ _ hkids)
          simp only [Nat.zero_add] at g0 g1 g2 g3 g4
          have hsz := kid_size hN hlt
          have hle : weightL (kids.take k) (left - 1 - keys.length - s.size / 64) ≤ 3000 := by have := weightL_le' (kids.take k) (left - 1 - keys.length - s.size / 64); omega
          have hn := weightL_snoc kids[k] (kids.take k) (left - 1 - keys.length - s.size / 64)
          rw [← take_next kids k hlt, if_pos hq] at hn
          have Hn := Lib.hid hn
          clear hn
          go_wp2_with (go_at_call 33; refine (ih _ _ _ _ hsz hrk hq hle).mono ?_; rintro e w1 ⟨rfl, hb1⟩)
          go_roundw
          case rel => exact ⟨k + 1, by go_num, by omega, by rw [Hn.out], hb.trans (hb1.mono (by have := hb.size; simp at this; omega))⟩
          case measure => simp [intOf]; omega
        · go_wp2_with fail
          go_ret
          refine ⟨?_, ?_⟩
          · rw [weightT, weightL_stop kids k _ (by omega)]; rfl
          · exact (((Below.refl _ _).alloc (Nat.le_refl _) _).trans (hb.mono (by omega)))
      · go_wp2_with fail
        go_ret
        refine ⟨?_, ?_⟩
        · rw [weightT, take_end _ _ hk hlt]; rfl
        · exact (((Below.refl _ _).alloc (Nat.le_refl _) _).trans (hb.mono (by omega)))
/-- Has a value none of the fields that are not allowed? -/
def bareB (t : T) (fn fs fk fkids : Bool) : Bool := (fn || decide (t.n = 0)) && (fs || t.s.toList.isEmpty) && (fk || (t.keys.length : Int) == 0) && (fkids || (t.kids.length : Int) == 0)

set_option maxHeartbeats 1000000 in
theorem bare_any (t : T) (v : Value) (w : World) (hr : Rep w t v) (fn fs fk fkids : Bool) :
    Calls Tryd.prog 65 #[v, .bool fn, .bool fs, .bool fk, .bool fkids] w fun e w' => e = .returned (.bool (bareB t fn fs fk fkids)) ∧ Below w.heap.size w w' := by
  obtain ⟨kd, n, s, keys, kids⟩ := t
  unfold Rep at hr
  obtain ⟨ka, va, kc, vc, rfl, _, _, _, _, _, _, _⟩ := hr
  go_enter Tryd.func65, Tryd.ntmps65
  go_wp2
  all_goals
    go_ret
    exact ⟨by simp only [bareB, T.n, T.s, T.keys, T.kids]; generalize (keys.length : Int) = a at *; generalize (kids.length : Int) = b at *; simp_all, (Below.refl _ _).alloc (Nat.le_refl _) _⟩
end Go.Proofs.YtfbeeaibejggdaaDoor
