/- LayoutUsual: for any numbers the law returns true. -/
import Derived.Test.YtpjmiiejmkgmdaaCA
import Derived.Test.YtpjmiiejmkgmdaaAB
namespace Go.Proofs.Ytpjmiiejmkgmdaa
open Go.RowKit

theorem nat_of {n : Int} (h : 0 ≤ n) : ∃ k : Nat, n = k := ⟨n.toNat, by omega⟩
theorem usual_both (n : Int) : ∃ l k, (∀ w, Calls Try.prog 18 #[.int .i64 n] w (RowAns w l k)) ∧ ∀ w, Calls Try.prog 19 #[.int .i64 n] w (RowAns w l k) := by
  cases h : chB n with
  | false => exact ⟨_, _, usual_out h, refUsual_out h⟩
  | true =>
    obtain ⟨h1, h2⟩ := chB_t h
    obtain ⟨k, rfl⟩ := nat_of (n := n) (by omega)
    exact ⟨_, _, usual_in (by omega) (by omega), refUsual_in (by omega) (by omega)⟩
theorem identity_both (n : Int) : ∃ l k, (∀ w, Calls Try.prog 20 #[.int .i64 n] w (MatAns w l k)) ∧ ∀ w, Calls Try.prog 21 #[.int .i64 n] w (MatAns w l k) := by
  cases h : chB n with
  | false => exact ⟨_, _, identity_out h, refIdentity_out h⟩
  | true =>
    obtain ⟨h1, h2⟩ := chB_t h
    obtain ⟨k, rfl⟩ := nat_of (n := n) (by omega)
    exact ⟨_, _, identity_in (by omega) (by omega), refIdentity_in (by omega) (by omega)⟩
theorem silent_both (n m : Int) : ∃ l k, (∀ w, Calls Try.prog 22 #[.int .i64 n, .int .i64 m] w (MatAns w l k)) ∧ ∀ w, Calls Try.prog 23 #[.int .i64 n, .int .i64 m] w (MatAns w l k) := by
  cases h : (chB n && frB m) with
  | false => exact ⟨_, _, silent_out h, refSilent_out h⟩
  | true =>
    rw [Bool.and_eq_true] at h
    obtain ⟨h1, h2⟩ := chB_t h.1
    obtain ⟨h3, h4⟩ := frB_t h.2
    obtain ⟨k, rfl⟩ := nat_of (n := n) (by omega)
    obtain ⟨j, rfl⟩ := nat_of (n := m) (by omega)
    exact ⟨_, _, silent_in (by omega) (by omega) (by omega), refSilent_in (by omega) (by omega) (by omega)⟩

theorem Below.then {B : Nat} {w w1 w2 : World} (h : Below B w w1) (hB : B ≤ w.heap.size) (h2 : Below w1.heap.size w1 w2) : Below B w w2 := h.trans (h2.mono (Nat.le_trans hB h.size))

set_option maxHeartbeats 1000000 in
set_option maxRecDepth 100000 in
theorem usualLaw_any (n m : Int) (w : World) : Calls Try.prog 4 #[.int .i64 n, .int .i64 m] w fun e w' => e = .returned (.bool true) ∧ Below w.heap.size w w' := by
  obtain ⟨l, k, u1, u2⟩ := usual_both n
  obtain ⟨M, k2, i1, i2⟩ := identity_both n
  obtain ⟨S, k3, s1, s2⟩ := silent_both n m
  have U1 := Lib.hid u1
  have U2 := Lib.hid u2
  have I1 := Lib.hid i1
  have I2 := Lib.hid i2
  have S1 := Lib.hid s1
  have S2 := Lib.hid s2
  clear u1 u2 i1 i2 s1 s2
  go_enter Try.func4, Try.ntmps4
  go_wp2_with (first
    | (go_at_call 18; (with_reducible refine (U1.out _).mono ?_); rintro e w1 ⟨v1, rfl, r1, b1⟩)
    | (go_at_call 19; (with_reducible refine (U2.out _).mono ?_); rintro e w2 ⟨v2, rfl, r2, b2⟩)
    | (go_at_call 20; (with_reducible refine (I1.out _).mono ?_); rintro e w3 ⟨v3, rfl, r3, b3⟩)
    | (go_at_call 21; (with_reducible refine (I2.out _).mono ?_); rintro e w4 ⟨v4, rfl, r4, b4⟩)
    | (go_at_call 22; (with_reducible refine (S1.out _).mono ?_); rintro e w5 ⟨v5, rfl, r5, b5⟩)
    | (go_at_call 23; (with_reducible refine (S2.out _).mono ?_); rintro e w6 ⟨v6, rfl, r6, b6⟩))
  have e56 := b6
  have e46 := Below.then b5 (Nat.le_refl _) e56
  have e36 := Below.then b4 (Nat.le_refl _) e46
  have e26 := Below.then b3 (Nat.le_refl _) e36
  have e16 := Below.then b2 (Nat.le_refl _) e26
  have e06 := Below.then b1 (Nat.le_refl _) e16
  have c1 := sameRow_any l l v1 v2 w6 (r1.mono (Same.of_below e16)) (r2.mono (Same.of_below e26))
  have c2 : ∀ x, Below w6.heap.size w6 x → Calls Try.prog 15 #[v3, .int .i64 k2, v4, .int .i64 k2] x fun e w' => e = .returned (.bool true) ∧ Below x.heap.size x w' := fun x hx => by
    have := matrices_any M M v3 v4 k2 k2 x (r3.mono (Same.of_below (Below.then e36 (Nat.le_refl _) (hx.mono (Nat.le_refl _))))) (r4.mono (Same.of_below (Below.then e46 (Nat.le_refl _) (hx.mono (Nat.le_refl _)))))
    simpa using this
  have c3 : ∀ x, Below w6.heap.size w6 x → Calls Try.prog 25 #[v5, v6] x fun e w' => e = .returned (.bool true) ∧ Below x.heap.size x w' := fun x hx => by
    have := sameBlock_any S S v5 v6 x (r5.mono (Same.of_below (Below.then e56 (Nat.le_refl _) (hx.mono (Nat.le_refl _))))) (r6.mono (Same.of_below hx))
    simpa using this
  simp only [decide_true] at c1
  have C2 := Lib.hid c2
  have C3 := Lib.hid c3
  clear c2 c3 r1 r2 r3 r4 r5 r6 b1 b2 b3 b4 b5 b6 e16 e26 e36 e46 e56 U1 U2 I1 I2 S1 S2
  go_wp2_with (first
    | (go_at_call 24; (with_reducible refine c1.mono ?_); rintro e w7 ⟨rfl, b7⟩)
    | (go_at_call 15; (with_reducible refine (C2.out _ b7).mono ?_); rintro e w8 ⟨rfl, b8⟩; have b68 := Below.then b7 (Nat.le_refl _) b8)
    | (go_at_call 25; (with_reducible refine (C3.out _ b68).mono ?_); rintro e w9 ⟨rfl, b9⟩; have b69 := Below.then b68 (Nat.le_refl _) b9)
    | (go_at_call 8; (with_reducible refine (awake_any _).mono ?_); rintro e w10 ⟨rfl, b10⟩))
  go_ret
  exact ⟨rfl, Below.then e06 (Nat.le_refl _) (Below.then b69 (Nat.le_refl _) b10)⟩
end Go.Proofs.Ytpjmiiejmkgmdaa
