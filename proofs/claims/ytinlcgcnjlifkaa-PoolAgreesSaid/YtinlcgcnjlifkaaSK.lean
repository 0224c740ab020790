/- Deals that are valid: the document's side; what is not valid, refused. -/
import Derived.Test.YtinlcgcnjlifkaaSJ
namespace Go.Proofs.Ytinlcgcnjlifkaa
open Go.RowKit Go.Shelf Go.Deep

set_option maxHeartbeats 2000000 in
set_option maxRecDepth 100000 in
theorem refValid23_any (c b z s a k : Int) (w : World) : Calls Try.prog 23 #[.agg #[.int .i64 c, .int .i64 b, .int .i64 z, .int .i64 s, .int .i64 a, .int .i64 k]] w (BoolB (dealB c b z s a k) w) := by
  have H := Lib.hid in_any
  have HT := Lib.hid refTwo_any
  have e : dealB c b z s a k = (inB c 1 64 && (inB b 1 8 && (inB s 1 256 && (inB z 1 65536 && (decide (z % s = 0) && (twoB a && (inB k 0 7 && decide (endK 0 z a (c.toNat * b.toNat) ≤ 1000000)))))))) := by
    rw [Bool.eq_iff_iff]
    simp only [dealB, shapeB, Bool.and_eq_true]
    constructor
    · rintro ⟨c1, ⟨⟨c2, c3, c4, c5⟩, c6⟩, c7, c8, c9⟩
      exact ⟨c1, c2, c4, c3, c8, c6, c7, c9⟩
    · rintro ⟨c1, c2, c4, c3, c8, c6, c7, c9⟩
      exact ⟨c1, ⟨⟨c2, c3, c4, two_one c6⟩, c6⟩, c7, c8, c9⟩
  rw [e]
  clear e
  cases h1 : inB c 1 64 with
  | false =>
    go_enter Try.func23, Try.ntmps23
    go_wp2_with (first
      | (go_at_call 20; (with_reducible refine (H.out _ _ _ _).mono ?_); rintro e w1 ⟨rfl, rfl⟩)
      | (go_at_call 35; (with_reducible refine (HT.out _ _).mono ?_); rintro e w1 ⟨rfl, rfl⟩))
    go_ret
    exact ⟨by simp [h1], below_box _ _⟩
  | true =>
    cases h2 : inB b 1 8 with
    | false =>
      go_enter Try.func23, Try.ntmps23
      go_wp2_with (first
        | (go_at_call 20; (with_reducible refine (H.out _ _ _ _).mono ?_); rintro e w1 ⟨rfl, rfl⟩)
        | (go_at_call 35; (with_reducible refine (HT.out _ _).mono ?_); rintro e w1 ⟨rfl, rfl⟩))
      go_ret
      exact ⟨by simp [h1, h2], below_box _ _⟩
    | true =>
      cases h3 : inB s 1 256 with
      | false =>
        go_enter Try.func23, Try.ntmps23
        go_wp2_with (first
          | (go_at_call 20; (with_reducible refine (H.out _ _ _ _).mono ?_); rintro e w1 ⟨rfl, rfl⟩)
          | (go_at_call 35; (with_reducible refine (HT.out _ _).mono ?_); rintro e w1 ⟨rfl, rfl⟩))
        go_ret
        exact ⟨by simp [h1, h2, h3], below_box _ _⟩
      | true =>
        cases h4 : inB z 1 65536 with
        | false =>
          go_enter Try.func23, Try.ntmps23
          go_wp2_with (first
            | (go_at_call 20; (with_reducible refine (H.out _ _ _ _).mono ?_); rintro e w1 ⟨rfl, rfl⟩)
            | (go_at_call 35; (with_reducible refine (HT.out _ _).mono ?_); rintro e w1 ⟨rfl, rfl⟩))
          go_ret
          exact ⟨by simp [h1, h2, h3, h4], below_box _ _⟩
        | true =>
          have g3 := inB_t h3; have g4 := inB_t h4
          have e1 : ¬ s = 0 := by omega
          have e2 : z.tmod s = z % s := Int.tmod_eq_emod_of_nonneg (by omega)
          have e3 : wrap64 (z % s) = z % s := by
            have q1 := Int.emod_nonneg z e1
            have q2 := Int.emod_lt_of_pos z (show 0 < s by omega)
            unfold wrap64; omega
          clear g3 g4
          by_cases h5 : z % s = 0
          rotate_left
          · have h5f : (z % s == 0) = false := by simpa using h5
            have h5d : decide (z % s = 0) = false := by simpa using h5
            go_enter Try.func23, Try.ntmps23
            go_wp2_with (first
              | (go_at_call 20; (with_reducible refine (H.out _ _ _ _).mono ?_); rintro e w1 ⟨rfl, rfl⟩)
              | (go_at_call 35; (with_reducible refine (HT.out _ _).mono ?_); rintro e w1 ⟨rfl, rfl⟩))
            go_ret
            exact ⟨by simp [h1, h2, h3, h4, h5d], below_box _ _⟩
          have h5t : (z % s == 0) = true := by simpa using h5
          have h5d : decide (z % s = 0) = true := by simpa using h5
          cases h6 : twoB a with
          | false =>
            go_enter Try.func23, Try.ntmps23
            go_wp2_with (first
              | (go_at_call 20; (with_reducible refine (H.out _ _ _ _).mono ?_); rintro e w1 ⟨rfl, rfl⟩)
              | (go_at_call 35; (with_reducible refine (HT.out _ _).mono ?_); rintro e w1 ⟨rfl, rfl⟩))
            go_ret
            exact ⟨by simp [h1, h2, h3, h4, h5d, h6], below_box _ _⟩
          | true =>
            cases h7 : inB k 0 7 with
            | false =>
              go_enter Try.func23, Try.ntmps23
              go_wp2_with (first
                | (go_at_call 20; (with_reducible refine (H.out _ _ _ _).mono ?_); rintro e w1 ⟨rfl, rfl⟩)
                | (go_at_call 35; (with_reducible refine (HT.out _ _).mono ?_); rintro e w1 ⟨rfl, rfl⟩))
              go_ret
              exact ⟨by simp [h1, h2, h3, h4, h5d, h6, h7], below_box _ _⟩
            | true =>
              have g1 := inB_t h1; have g2 := inB_t h2; have g3 := inB_t h3; have g4 := inB_t h4; have g6 := inB_t (two_one h6)
              have HEND : Hid (∀ x, Calls Try.prog 33 #[.agg #[.int .i64 c, .int .i64 b, .int .i64 z, .int .i64 s, .int .i64 a, .int .i64 k], .int .i64 0] x fun e w' => ∃ v, e = .returned (.tuple #[v, .int .i64 (endK 0 z a (c.toNat * b.toNat))]) ∧ Below x.heap.size x w') := Lib.hid fun x => by
                have h9 := refLaid_any ⟨c.toNat, b.toNat, z, s, a, k⟩ ⟨by dsimp only; omega, by dsimp only; omega, by dsimp only; omega, by dsimp only; omega⟩ 0 ⟨by decide, by decide⟩ x
                simp only [DealP.v, Int.toNat_of_nonneg (show 0 ≤ c by omega), Int.toNat_of_nonneg (show 0 ≤ b by omega)] at h9
                exact h9.mono fun e w' h => by
                  obtain ⟨v, h1, _, h2⟩ := h
                  exact ⟨v, h1, h2⟩
              clear g1 g2 g3 g4 g6
              obtain ⟨m, hm⟩ : ∃ m, endK 0 z a (c.toNat * b.toNat) = m := ⟨_, rfl⟩
              rw [hm] at HEND ⊢
              clear hm
              go_enter Try.func23, Try.ntmps23
              go_wp2_with (first
                | (go_at_call 20; (with_reducible refine (H.out _ _ _ _).mono ?_); rintro e w1 ⟨rfl, rfl⟩)
                | (go_at_call 35; (with_reducible refine (HT.out _ _).mono ?_); rintro e w1 ⟨rfl, rfl⟩)
                | (go_at_call 33; (with_reducible refine (HEND.out _).mono ?_); rintro e w1 ⟨v, rfl, hb⟩; have HB := Lib.hid hb; clear hb))
              go_ret
              exact ⟨by simp [h1, h2, h3, h4, h5d, h6, h7], Below.then (below_box _ _) (Nat.le_refl _) HB.out⟩

def MustB (b : Bool) (w : World) (e : Ending) (w' : World) : Prop := e = (if b then .returned (.tuple #[]) else .panicked (misfit 1)) ∧ Below w.heap.size w w'
set_option maxRecDepth 100000 in
theorem mustDeal_any (c b z s a k : Int) (w : World) : Calls Try.prog 26 #[.agg #[.int .i64 c, .int .i64 b, .int .i64 z, .int .i64 s, .int .i64 a, .int .i64 k]] w (MustB (dealB c b z s a k) w) := by
  have HV := Lib.hid (valid46_any c b z s a k)
  have HY := Lib.hid (must_yes 1)
  have HN := Lib.hid (must_no 1)
  cases hd : dealB c b z s a k with
  | true =>
    rw [hd] at HV
    go_enter Try.func26, Try.ntmps26
    go_wp2_with (first
      | (go_at_call 46; (with_reducible refine (HV.out _).mono ?_); rintro e w1 ⟨rfl, hb⟩; have HB := Lib.hid hb; clear hb)
      | (go_at_call 17; (with_reducible refine (HY.out _).mono ?_); rintro e w1 ⟨rfl, rfl⟩))
    go_end0
    exact ⟨rfl, Below.then (below_box _ _) (Nat.le_refl _) HB.out⟩
  | false =>
    rw [hd] at HV
    go_enter Try.func26, Try.ntmps26
    go_wp2_with (first
      | (go_at_call 46; (with_reducible refine (HV.out _).mono ?_); rintro e w1 ⟨rfl, hb⟩; have HB := Lib.hid hb; clear hb)
      | (go_at_call 17; (with_reducible refine (HN.out _).mono ?_); rintro e w1 ⟨rfl, rfl⟩))
    exact ⟨rfl, rfl, Below.then (below_box _ _) (Nat.le_refl _) HB.out⟩
set_option maxRecDepth 100000 in
theorem mustWish_any (d : Wish) (w : World) : Calls Try.prog 16 #[d.v] w (MustB d.ok w) := by
  have HV := Lib.hid (valid_any d)
  obtain ⟨ok, hok⟩ : ∃ ok, d.ok = ok := ⟨_, rfl⟩
  rw [hok] at HV ⊢
  clear hok
  obtain ⟨a1, a2, a3, a4, a5, a6, a7⟩ := d
  have HY := Lib.hid (must_yes 1)
  have HN := Lib.hid (must_no 1)
  show Calls Try.prog 16 #[.agg #[.int .i64 a1, .int .i64 a2, .int .i64 a3, .int .i64 a4, .int .i64 a5, .int .i64 a6, .int .i64 a7]] w _
  replace HV : Hid (∀ x, Calls Try.prog 10 #[.agg #[.int .i64 a1, .int .i64 a2, .int .i64 a3, .int .i64 a4, .int .i64 a5, .int .i64 a6, .int .i64 a7]] x (BoolB ok x)) := HV
  cases ok with
  | true =>
    go_enter Try.func16, Try.ntmps16
    go_wp2_with (first
      | (go_at_call 10; (with_reducible refine (HV.out _).mono ?_); rintro e w1 ⟨rfl, hb⟩; have HB := Lib.hid hb; clear hb)
      | (go_at_call 17; (with_reducible refine (HY.out _).mono ?_); rintro e w1 ⟨rfl, rfl⟩))
    go_end0
    exact ⟨rfl, Below.then (below_box _ _) (Nat.le_refl _) HB.out⟩
  | false =>
    go_enter Try.func16, Try.ntmps16
    go_wp2_with (first
      | (go_at_call 10; (with_reducible refine (HV.out _).mono ?_); rintro e w1 ⟨rfl, hb⟩; have HB := Lib.hid hb; clear hb)
      | (go_at_call 17; (with_reducible refine (HN.out _).mono ?_); rintro e w1 ⟨rfl, rfl⟩))
    exact ⟨rfl, rfl, Below.then (below_box _ _) (Nat.le_refl _) HB.out⟩
end Go.Proofs.Ytinlcgcnjlifkaa
