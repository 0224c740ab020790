/- Wishes that are valid: both sides. -/
import Derived.Test.YtinlcgcnjlifkaaSA
namespace Go.Proofs.Ytinlcgcnjlifkaa
open Go.RowKit Go.Shelf Go.Deep

structure Wish where
  least : Int
  most : Int
  blocks : Int
  size : Int
  stride : Int
  align : Int
  kinds : Int
abbrev Wish.c (d : Wish) : Array Value := #[.int .i64 d.least, .int .i64 d.most, .int .i64 d.blocks, .int .i64 d.size, .int .i64 d.stride, .int .i64 d.align, .int .i64 d.kinds]
abbrev Wish.v (d : Wish) : Value := .agg #[.int .i64 d.least, .int .i64 d.most, .int .i64 d.blocks, .int .i64 d.size, .int .i64 d.stride, .int .i64 d.align, .int .i64 d.kinds]
def Wish.ok (d : Wish) : Bool := inB d.least 1 d.most && (decide (d.most ≤ 64) && (shapeB d.blocks d.size d.stride d.align && (decide (d.stride ≤ d.size) && inB d.kinds 1 255)))
def BoolB (b : Bool) (w : World) (e : Ending) (w' : World) : Prop := e = .returned (.bool b) ∧ Below w.heap.size w w'
theorem below_box (w : World) (o : Obj) : Below w.heap.size w (w.alloc o) := (Below.refl _ w).alloc (Nat.le_refl _) _
set_option maxRecDepth 100000 in
theorem valid_any (d : Wish) (w : World) : Calls Try.prog 10 #[d.v] w (BoolB d.ok w) := by
  have H := Lib.hid within_any
  have HS := Lib.hid shaped_any
  obtain ⟨a1, a2, a3, a4, a5, a6, a7⟩ := d
  show Calls Try.prog 10 #[.agg #[.int .i64 a1, .int .i64 a2, .int .i64 a3, .int .i64 a4, .int .i64 a5, .int .i64 a6, .int .i64 a7]] w _
  cases h1 : inB a1 1 a2 with
  | false =>
    go_enter Try.func10, Try.ntmps10
    go_wp2_with (first
      | (go_at_call 18; (with_reducible refine (H.out _ _ _ _).mono ?_); rintro e w1 ⟨rfl, rfl⟩)
      | (go_at_call 34; (with_reducible refine (HS.out _ _ _ _ _).mono ?_); rintro e w1 ⟨rfl, rfl⟩))
    go_ret
    exact ⟨by (simp [Wish.ok, h1]; try (intros; omega)), below_box _ _⟩
  | true =>
    by_cases h2 : a2 ≤ 64
    · skip
      cases h3 : shapeB a3 a4 a5 a6 with
      | false =>
        go_enter Try.func10, Try.ntmps10
        go_wp2_with (first
          | (go_at_call 18; (with_reducible refine (H.out _ _ _ _).mono ?_); rintro e w1 ⟨rfl, rfl⟩)
          | (go_at_call 34; (with_reducible refine (HS.out _ _ _ _ _).mono ?_); rintro e w1 ⟨rfl, rfl⟩))
        go_ret
        exact ⟨by (simp [Wish.ok, h1, h2, h3]; try (intros; omega)), below_box _ _⟩
      | true =>
        by_cases h4 : a5 ≤ a4
        · skip
          cases h5 : inB a7 1 255 with
          | false =>
            go_enter Try.func10, Try.ntmps10
            go_wp2_with (first
              | (go_at_call 18; (with_reducible refine (H.out _ _ _ _).mono ?_); rintro e w1 ⟨rfl, rfl⟩)
              | (go_at_call 34; (with_reducible refine (HS.out _ _ _ _ _).mono ?_); rintro e w1 ⟨rfl, rfl⟩))
            go_ret
            exact ⟨by (simp [Wish.ok, h1, h2, h3, h4, h5]; try (intros; omega)), below_box _ _⟩
          | true =>
            go_enter Try.func10, Try.ntmps10
            go_wp2_with (first
              | (go_at_call 18; (with_reducible refine (H.out _ _ _ _).mono ?_); rintro e w1 ⟨rfl, rfl⟩)
              | (go_at_call 34; (with_reducible refine (HS.out _ _ _ _ _).mono ?_); rintro e w1 ⟨rfl, rfl⟩))
            go_ret
            exact ⟨by (simp [Wish.ok, h1, h2, h3, h4, h5]; try (intros; omega)), below_box _ _⟩
        · skip
          go_enter Try.func10, Try.ntmps10
          go_wp2_with (first
            | (go_at_call 18; (with_reducible refine (H.out _ _ _ _).mono ?_); rintro e w1 ⟨rfl, rfl⟩)
            | (go_at_call 34; (with_reducible refine (HS.out _ _ _ _ _).mono ?_); rintro e w1 ⟨rfl, rfl⟩))
          go_ret
          exact ⟨by (simp [Wish.ok, h1, h2, h3, h4]; try (intros; omega)), below_box _ _⟩
    · skip
      go_enter Try.func10, Try.ntmps10
      go_wp2_with (first
        | (go_at_call 18; (with_reducible refine (H.out _ _ _ _).mono ?_); rintro e w1 ⟨rfl, rfl⟩)
        | (go_at_call 34; (with_reducible refine (HS.out _ _ _ _ _).mono ?_); rintro e w1 ⟨rfl, rfl⟩))
      go_ret
      exact ⟨by (simp [Wish.ok, h1, h2]; try (intros; omega)), below_box _ _⟩
theorem two_one {a : Int} (h : twoB a = true) : inB a 1 256 = true := by
  obtain ⟨h1, h2⟩ := twoB_t h
  simp [inB, h1, h2]
set_option maxRecDepth 100000 in
theorem refValid_any (d : Wish) (w : World) : Calls Try.prog 11 #[d.v] w (BoolB d.ok w) := by
  have H := Lib.hid in_any
  have HT := Lib.hid refTwo_any
  obtain ⟨a1, a2, a3, a4, a5, a6, a7⟩ := d
  have e : (Wish.mk a1 a2 a3 a4 a5 a6 a7).ok = (inB a1 1 64 && (inB a2 a1 64 && (inB a3 1 8 && (inB a5 1 256 && (inB a4 a5 65536 && (twoB a6 && inB a7 1 255)))))) := by
    rw [Bool.eq_iff_iff]
    simp only [Wish.ok, shapeB, Bool.and_eq_true, decide_eq_true_eq]
    constructor
    · rintro ⟨b1, b2, ⟨⟨b3, b4, b5, b6⟩, b7⟩, b8, b9⟩
      have c1 := inB_t b1; have c4 := inB_t b4; have c5 := inB_t b5
      exact ⟨by simp [inB]; omega, by simp [inB]; omega, b3, b5, by simp [inB]; omega, b7, b9⟩
    · rintro ⟨b1, b2, b3, b5, b4, b7, b9⟩
      have c1 := inB_t b1; have c2 := inB_t b2; have c4 := inB_t b4; have c5 := inB_t b5
      exact ⟨by simp [inB]; omega, by omega, ⟨⟨b3, by simp [inB]; omega, b5, two_one b7⟩, b7⟩, by omega, b9⟩
  rw [e]
  clear e
  show Calls Try.prog 11 #[.agg #[.int .i64 a1, .int .i64 a2, .int .i64 a3, .int .i64 a4, .int .i64 a5, .int .i64 a6, .int .i64 a7]] w _
  cases h1 : inB a1 1 64 with
  | false =>
    go_enter Try.func11, Try.ntmps11
    go_wp2_with (first
      | (go_at_call 20; (with_reducible refine (H.out _ _ _ _).mono ?_); rintro e w1 ⟨rfl, rfl⟩)
      | (go_at_call 35; (with_reducible refine (HT.out _ _).mono ?_); rintro e w1 ⟨rfl, rfl⟩))
    go_ret
    exact ⟨by simp [h1], below_box _ _⟩
  | true =>
    cases h2 : inB a2 a1 64 with
    | false =>
      go_enter Try.func11, Try.ntmps11
      go_wp2_with (first
        | (go_at_call 20; (with_reducible refine (H.out _ _ _ _).mono ?_); rintro e w1 ⟨rfl, rfl⟩)
        | (go_at_call 35; (with_reducible refine (HT.out _ _).mono ?_); rintro e w1 ⟨rfl, rfl⟩))
      go_ret
      exact ⟨by simp [h1, h2], below_box _ _⟩
    | true =>
      cases h3 : inB a3 1 8 with
      | false =>
        go_enter Try.func11, Try.ntmps11
        go_wp2_with (first
          | (go_at_call 20; (with_reducible refine (H.out _ _ _ _).mono ?_); rintro e w1 ⟨rfl, rfl⟩)
          | (go_at_call 35; (with_reducible refine (HT.out _ _).mono ?_); rintro e w1 ⟨rfl, rfl⟩))
        go_ret
        exact ⟨by simp [h1, h2, h3], below_box _ _⟩
      | true =>
        cases h4 : inB a5 1 256 with
        | false =>
          go_enter Try.func11, Try.ntmps11
          go_wp2_with (first
            | (go_at_call 20; (with_reducible refine (H.out _ _ _ _).mono ?_); rintro e w1 ⟨rfl, rfl⟩)
            | (go_at_call 35; (with_reducible refine (HT.out _ _).mono ?_); rintro e w1 ⟨rfl, rfl⟩))
          go_ret
          exact ⟨by simp [h1, h2, h3, h4], below_box _ _⟩
        | true =>
          cases h5 : inB a4 a5 65536 with
          | false =>
            go_enter Try.func11, Try.ntmps11
            go_wp2_with (first
              | (go_at_call 20; (with_reducible refine (H.out _ _ _ _).mono ?_); rintro e w1 ⟨rfl, rfl⟩)
              | (go_at_call 35; (with_reducible refine (HT.out _ _).mono ?_); rintro e w1 ⟨rfl, rfl⟩))
            go_ret
            exact ⟨by simp [h1, h2, h3, h4, h5], below_box _ _⟩
          | true =>
            cases h6 : twoB a6 with
            | false =>
              go_enter Try.func11, Try.ntmps11
              go_wp2_with (first
                | (go_at_call 20; (with_reducible refine (H.out _ _ _ _).mono ?_); rintro e w1 ⟨rfl, rfl⟩)
                | (go_at_call 35; (with_reducible refine (HT.out _ _).mono ?_); rintro e w1 ⟨rfl, rfl⟩))
              go_ret
              exact ⟨by simp [h1, h2, h3, h4, h5, h6], below_box _ _⟩
            | true =>
              cases h7 : inB a7 1 255 with
              | false =>
                go_enter Try.func11, Try.ntmps11
                go_wp2_with (first
                  | (go_at_call 20; (with_reducible refine (H.out _ _ _ _).mono ?_); rintro e w1 ⟨rfl, rfl⟩)
                  | (go_at_call 35; (with_reducible refine (HT.out _ _).mono ?_); rintro e w1 ⟨rfl, rfl⟩))
                go_ret
                exact ⟨by simp [h1, h2, h3, h4, h5, h6, h7], below_box _ _⟩
              | true =>
                go_enter Try.func11, Try.ntmps11
                go_wp2_with (first
                  | (go_at_call 20; (with_reducible refine (H.out _ _ _ _).mono ?_); rintro e w1 ⟨rfl, rfl⟩)
                  | (go_at_call 35; (with_reducible refine (HT.out _ _).mono ?_); rintro e w1 ⟨rfl, rfl⟩))
                go_ret
                exact ⟨by simp [h1, h2, h3, h4, h5, h6, h7], below_box _ _⟩
end Go.Proofs.Ytinlcgcnjlifkaa
