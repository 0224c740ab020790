/- Deals that are valid: the program's side. -/
import Derived.Test.YtinlcgcnjlifkaaSH
namespace Go.Proofs.Ytinlcgcnjlifkaa
open Go.RowKit Go.Shelf Go.Deep

def dealB (c b z s a k : Int) : Bool := inB c 1 64 && (shapeB b z s a && (inB k 0 7 && (decide (z % s = 0) && decide (endK 0 z a (c.toNat * b.toNat) ≤ 1000000))))
theorem shapeB_t {b z s a : Int} (h : shapeB b z s a = true) : (1 ≤ b ∧ b ≤ 8) ∧ (1 ≤ z ∧ z ≤ 65536) ∧ (1 ≤ s ∧ s ≤ 256) ∧ (1 ≤ a ∧ a ≤ 256) ∧ twoB a = true := by
  simp only [shapeB, Bool.and_eq_true] at h
  exact ⟨inB_t h.1.1, inB_t h.1.2.1, inB_t h.1.2.2.1, inB_t h.1.2.2.2, h.2⟩
set_option maxHeartbeats 1000000 in
set_option maxRecDepth 100000 in
theorem valid46_any (c b z s a k : Int) (w : World) : Calls Try.prog 46 #[.agg #[.int .i64 c, .int .i64 b, .int .i64 z, .int .i64 s, .int .i64 a, .int .i64 k]] w (BoolB (dealB c b z s a k) w) := by
  have H := Lib.hid within_any
  have HS := Lib.hid shaped_any
  cases h1 : inB c 1 64 with
  | false =>
    go_enter Try.func46, Try.ntmps46
    go_wp2_with (first
      | (go_at_call 18; (with_reducible refine (H.out _ _ _ _).mono ?_); rintro e w1 ⟨rfl, rfl⟩)
      | (go_at_call 34; (with_reducible refine (HS.out _ _ _ _ _).mono ?_); rintro e w1 ⟨rfl, rfl⟩))
    go_ret
    exact ⟨by simp [dealB, h1], below_box _ _⟩
  | true =>
    cases h2 : shapeB b z s a with
    | false =>
      go_enter Try.func46, Try.ntmps46
      go_wp2_with (first
        | (go_at_call 18; (with_reducible refine (H.out _ _ _ _).mono ?_); rintro e w1 ⟨rfl, rfl⟩)
        | (go_at_call 34; (with_reducible refine (HS.out _ _ _ _ _).mono ?_); rintro e w1 ⟨rfl, rfl⟩))
      go_ret
      exact ⟨by simp [dealB, h1, h2], below_box _ _⟩
    | true =>
      obtain ⟨b1, b2, b3, b4, _⟩ := shapeB_t h2
      have c1 := inB_t h1
      cases h3 : inB k 0 7 with
      | false =>
        clear b1 b2 b3 b4 c1
        go_enter Try.func46, Try.ntmps46
        go_wp2_with (first
          | (go_at_call 18; (with_reducible refine (H.out _ _ _ _).mono ?_); rintro e w1 ⟨rfl, rfl⟩)
          | (go_at_call 34; (with_reducible refine (HS.out _ _ _ _ _).mono ?_); rintro e w1 ⟨rfl, rfl⟩))
        go_ret
        exact ⟨by simp [dealB, h1, h2, h3], below_box _ _⟩
      | true =>
        have e1 : ¬ s = 0 := by omega
        have e2 : z.tmod s = z % s := Int.tmod_eq_emod_of_nonneg (by omega)
        have e3 : wrap64 (z % s) = z % s := by
          have q1 := Int.emod_nonneg z e1
          have q2 := Int.emod_lt_of_pos z (show 0 < s by omega)
          unfold wrap64; omega
        have HEND : Hid (∀ x, Calls Try.prog 32 #[.agg #[.int .i64 c, .int .i64 b, .int .i64 z, .int .i64 s, .int .i64 a, .int .i64 k], .int .i64 0] x fun e w' => e = .returned (.int .i64 (endK 0 z a (c.toNat * b.toNat))) ∧ Below x.heap.size x w') := Lib.hid fun x => by
          have h9 := end_any ⟨c.toNat, b.toNat, z, s, a, k⟩ ⟨by dsimp only; omega, by dsimp only; omega, b2, b4⟩ 0 ⟨by decide, by decide⟩ x
          simp only [DealP.v, Int.toNat_of_nonneg (show 0 ≤ c by omega), Int.toNat_of_nonneg (show 0 ≤ b by omega)] at h9
          exact h9
        clear b1 b2 b3 b4 c1
        by_cases h4 : z % s = 0
        · have h4' : (z % s == 0) = true := by simpa using h4
          obtain ⟨m, hm⟩ : ∃ m, endK 0 z a (c.toNat * b.toNat) = m := ⟨_, rfl⟩
          rw [hm] at HEND
          have HM := Lib.hid hm
          clear hm
          have HD : Hid (dealB c b z s a k = decide (m ≤ 1000000)) := Lib.hid (by unfold dealB; rw [h1, h2, h3, HM.out]; simp [h4])
          go_enter Try.func46, Try.ntmps46
          go_wp2_with (first
            | (go_at_call 18; (with_reducible refine (H.out _ _ _ _).mono ?_); rintro e w1 ⟨rfl, rfl⟩)
            | (go_at_call 34; (with_reducible refine (HS.out _ _ _ _ _).mono ?_); rintro e w1 ⟨rfl, rfl⟩)
            | (go_at_call 32; (with_reducible refine (HEND.out _).mono ?_); rintro e w1 ⟨rfl, hb⟩; have HB := Lib.hid hb; clear hb))
          go_ret
          exact ⟨by rw [HD.out]; rfl, Below.then (below_box _ _) (Nat.le_refl _) HB.out⟩
        · have h4' : (z % s == 0) = false := by simpa using h4
          have HD : Hid (dealB c b z s a k = false) := Lib.hid (by unfold dealB; rw [h1, h2, h3]; simp [h4])
          go_enter Try.func46, Try.ntmps46
          go_wp2_with (first
            | (go_at_call 18; (with_reducible refine (H.out _ _ _ _).mono ?_); rintro e w1 ⟨rfl, rfl⟩)
            | (go_at_call 34; (with_reducible refine (HS.out _ _ _ _ _).mono ?_); rintro e w1 ⟨rfl, rfl⟩))
          go_ret
          exact ⟨by rw [HD.out]; rfl, below_box _ _⟩
end Go.Proofs.Ytinlcgcnjlifkaa
