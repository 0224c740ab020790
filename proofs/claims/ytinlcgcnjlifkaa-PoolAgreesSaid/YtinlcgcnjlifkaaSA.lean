/- Numbers within bounds, powers of two, multiples: both sides. -/
import Derived.Test.YtinlcgcnjlifkaaHA
namespace Go.Proofs.Ytinlcgcnjlifkaa
open Go.RowKit Go.Shelf Go.Deep

def inB (n a b : Int) : Bool := decide (a ≤ n) && decide (n ≤ b)
theorem inB_t {n a b : Int} (h : inB n a b = true) : a ≤ n ∧ n ≤ b := by simpa [inB] using h
theorem inB_f {n a b : Int} (h : inB n a b = false) : n < a ∨ b < n := by simp [inB] at h; omega
def pow2 : List Int := [1, 2, 4, 8, 16, 32, 64, 128, 256]
def twoB (n : Int) : Bool := pow2.contains n
theorem twoB_t {n : Int} (h : twoB n = true) : 1 ≤ n ∧ n ≤ 256 := by
  have : n ∈ pow2 := by simpa [twoB] using h
  simp [pow2] at this; omega
theorem twoB_bits : ∀ n : Nat, n < 256 → decide (bits BinOp.and IntKind.i64 ((n : Int) + 1) (n : Int) = 0) = twoB ((n : Int) + 1) := by
  decide +kernel
/-- The least multiple that is not below. -/
def up (n k : Int) : Int := (n + k - 1) / k * k
theorem up_bd {n k : Int} (h0 : 0 ≤ n) (hk : 1 ≤ k) : n ≤ up n k ∧ up n k < n + k ∧ k ∣ up n k := by
  have h1 := Int.mul_ediv_add_emod (n + k - 1) k
  have h2 := Int.emod_nonneg (n + k - 1) (show k ≠ 0 by omega)
  have h3 := Int.emod_lt_of_pos (n + k - 1) (show 0 < k by omega)
  unfold up
  rw [Int.mul_comm ((n + k - 1) / k) k]
  refine ⟨by omega, by omega, Int.dvd_mul_right _ _⟩
set_option maxRecDepth 100000 in
theorem within_any (n a b : Int) (w : World) : Calls Try.prog 18 #[.int .i64 n, .int .i64 a, .int .i64 b] w fun e w' => e = .returned (.bool (inB n a b)) ∧ w = w' := by
  by_cases h : a ≤ n
  · go_enter Try.func18, Try.ntmps18
    go_wp2_with fail
    go_ret
    exact ⟨by simp [inB, h], rfl⟩
  · go_enter Try.func18, Try.ntmps18
    go_wp2_with fail
    go_ret
    exact ⟨by rw [inB, decide_eq_false (by omega)]; rfl, rfl⟩
set_option maxRecDepth 100000 in
theorem in_any (n a b : Int) (w : World) : Calls Try.prog 20 #[.int .i64 n, .int .i64 a, .int .i64 b] w fun e w' => e = .returned (.bool (inB n a b)) ∧ w = w' := by
  by_cases h : a ≤ n
  · go_enter Try.func20, Try.ntmps20
    go_wp2_with fail
    go_ret
    exact ⟨by simp [inB, h], rfl⟩
  · go_enter Try.func20, Try.ntmps20
    go_wp2_with fail
    go_ret
    exact ⟨by rw [inB, decide_eq_false (by omega)]; rfl, rfl⟩
theorem up_nums {n k : Int} (h0 : 0 ≤ n) (hn : n ≤ 2000000000) (hk : 1 ≤ k) (hk2 : k ≤ 65536) : wrap64 (n + k) = n + k ∧ wrap64 (n + k - 1) = n + k - 1 ∧ wrap64 ((n + k - 1) / k) = (n + k - 1) / k ∧ wrap64 ((n + k - 1) / k * k) = up n k ∧ ¬ k = 0 := by
  obtain ⟨h1, h2, _⟩ := up_bd h0 hk
  have h3 : (n + k - 1) / k ≤ n + k - 1 := Int.ediv_le_self _ (by omega)
  have h4 : 0 ≤ (n + k - 1) / k := Int.ediv_nonneg (by omega) (by omega)
  unfold up at h1 h2 ⊢
  generalize (n + k - 1) / k = q at *
  generalize q * k = p at *
  exact ⟨by unfold wrap64; omega, by unfold wrap64; omega, by unfold wrap64; omega, by unfold wrap64; omega, by omega⟩
set_option maxRecDepth 100000 in
theorem multiple_any (n k : Int) (h0 : 0 ≤ n) (hn : n ≤ 2000000000) (hk : 1 ≤ k) (hk2 : k ≤ 65536) (w : World) : Calls Try.prog 51 #[.int .i64 n, .int .i64 k] w fun e w' => e = .returned (.int .i64 (up n k)) ∧ w = w' := by
  obtain ⟨a1, a2, a3, a4, a5⟩ := up_nums h0 hn hk hk2
  have a6 : (0 : Int) ≤ n + k - 1 := by omega
  have a7 : (0 : Int) < k := by omega
  go_enter Try.func51, Try.ntmps51
  go_wp2_with fail
  go_ret
  exact ⟨by rw [← a4]; rfl, rfl⟩
set_option maxRecDepth 100000 in
theorem refUp_any (n k : Int) (h0 : 0 ≤ n) (hn : n ≤ 2000000000) (hk : 1 ≤ k) (hk2 : k ≤ 65536) (w : World) : Calls Try.prog 22 #[.int .i64 n, .int .i64 k] w fun e w' => e = .returned (.int .i64 (up n k)) ∧ w = w' := by
  obtain ⟨a1, a2, a3, a4, a5⟩ := up_nums h0 hn hk hk2
  have a6 : (0 : Int) ≤ n + k - 1 := by omega
  have a7 : (0 : Int) < k := by omega
  go_enter Try.func22, Try.ntmps22
  go_wp2_with fail
  go_ret
  exact ⟨by rw [← a4]; rfl, rfl⟩
/-- What wishes and deals have in common. -/
def shapeB (b z s a : Int) : Bool := (inB b 1 8 && (inB z 1 65536 && (inB s 1 256 && inB a 1 256))) && twoB a
theorem twoB_and {a : Int} (h : inB a 1 256 = true) : decide (bits BinOp.and IntKind.i64 a (a - 1) = 0) = twoB a := by
  obtain ⟨h1, h2⟩ := inB_t h
  have := twoB_bits (a - 1).toNat (by omega)
  rw [show (((a - 1).toNat : Nat) : Int) = a - 1 by omega, show a - 1 + 1 = a by omega] at this
  exact this
set_option maxRecDepth 100000 in
theorem shaped_any (b z s a : Int) (w : World) : Calls Try.prog 34 #[.int .i64 b, .int .i64 z, .int .i64 s, .int .i64 a] w fun e w' => e = .returned (.bool (shapeB b z s a)) ∧ w = w' := by
  have H := Lib.hid within_any
  cases h1 : inB b 1 8 with
  | false =>
    go_enter Try.func34, Try.ntmps34
    go_wp2_with (go_at_call 18; (with_reducible refine (H.out _ _ _ _).mono ?_); rintro e w1 ⟨rfl, rfl⟩)
    go_ret
    exact ⟨by simp [shapeB, h1], rfl⟩
  | true =>
    cases h2 : inB z 1 65536 with
    | false =>
      go_enter Try.func34, Try.ntmps34
      go_wp2_with (go_at_call 18; (with_reducible refine (H.out _ _ _ _).mono ?_); rintro e w1 ⟨rfl, rfl⟩)
      go_ret
      exact ⟨by simp [shapeB, h1, h2], rfl⟩
    | true =>
      cases h3 : inB s 1 256 with
      | false =>
        go_enter Try.func34, Try.ntmps34
        go_wp2_with (go_at_call 18; (with_reducible refine (H.out _ _ _ _).mono ?_); rintro e w1 ⟨rfl, rfl⟩)
        go_ret
        exact ⟨by simp [shapeB, h1, h2, h3], rfl⟩
      | true =>
        cases h4 : inB a 1 256 with
        | false =>
          go_enter Try.func34, Try.ntmps34
          go_wp2_with (go_at_call 18; (with_reducible refine (H.out _ _ _ _).mono ?_); rintro e w1 ⟨rfl, rfl⟩)
          go_ret
          exact ⟨by simp [shapeB, h1, h2, h3, h4], rfl⟩
        | true =>
          have e1 : wrap64 (a - 1) = a - 1 := by obtain ⟨q1, q2⟩ := inB_t h4; unfold wrap64; omega
          have e2 : IntKind.i64.wrap (a - 1) = a - 1 := by obtain ⟨q1, q2⟩ := inB_t h4; rw [IntKind.wrap_i64]; omega
          have e3 := twoB_and h4
          have HE := Lib.hid e3
          go_enter Try.func34, Try.ntmps34
          go_wp2_with (go_at_call 18; (with_reducible refine (H.out _ _ _ _).mono ?_); rintro e w1 ⟨rfl, rfl⟩)
          go_ret
          exact ⟨by rw [shapeB, h1, h2, h3, h4, ← HE.out]; rfl, rfl⟩
set_option maxHeartbeats 1000000 in
set_option maxRecDepth 100000 in
theorem refTwo_any (n : Int) (w : World) : Calls Try.prog 35 #[.int .i64 n] w fun e w' => e = .returned (.bool (twoB n)) ∧ w = w' := by
  go_enter Try.func35, Try.ntmps35
  go_wp2_with fail
  go_loop [3] (fun i => ∃ j : Nat, i = .int .i64 (2 ^ j) ∧ j ≤ 9 ∧ ∀ k, k < j → n ≠ 2 ^ k) (fun i => 1000 - (intOf i).toNat)
  case atStart => exact ⟨0, rfl, by decide, fun k hk => absurd hk (Nat.not_lt_zero _)⟩
  case round =>
    obtain ⟨j, rfl, hj, hk⟩ := hrel
    have HK := Lib.hid hk
    clear hk
    have hc : j = 0 ∨ j = 1 ∨ j = 2 ∨ j = 3 ∨ j = 4 ∨ j = 5 ∨ j = 6 ∨ j = 7 ∨ j = 8 ∨ j = 9 := by omega
    by_cases h9 : j = 9
    · subst h9
      have HN : Hid (twoB n = false) := Lib.hid (by
        have k0 := HK.out 0 (by decide); have k1 := HK.out 1 (by decide); have k2 := HK.out 2 (by decide); have k3 := HK.out 3 (by decide); have k4 := HK.out 4 (by decide); have k5 := HK.out 5 (by decide); have k6 := HK.out 6 (by decide); have k7 := HK.out 7 (by decide); have k8 := HK.out 8 (by decide)
        simp [twoB, pow2]
        omega)
      go_wp2_with fail
      go_ret
      exact ⟨by rw [HN.out]; rfl, rfl⟩
    · obtain ⟨p, hp⟩ : ∃ p : Int, (2 : Int) ^ j = p := ⟨_, rfl⟩
      have hb : 1 ≤ p ∧ p ≤ 256 ∧ twoB p = true ∧ (2 : Int) ^ (j + 1) = 2 * p := by
        rw [← hp]
        rcases hc with rfl | rfl | rfl | rfl | rfl | rfl | rfl | rfl | rfl | rfl
        all_goals first | exact absurd rfl h9 | decide
      have HP := Lib.hid (And.intro hp hb)
      rw [hp]
      obtain ⟨b1, b2, _, _⟩ := hb
      clear hp hc
      have w4 : ¬ (256 : Int) < p := by omega
      by_cases e : p = n
      · subst e
        go_wp2_with fail
        go_ret
        exact ⟨rfl, rfl⟩
      · have e1 : (p == n) = false := by simpa using e
        have e2 : wrap64 (2 * p) = 2 * p := by unfold wrap64; omega
        have HE := Lib.hid e
        go_wp2_with fail
        go_round
        case rel => exact ⟨j + 1, by rw [HP.out.2.2.2.2], by omega, fun k hk => by
          by_cases ek : k = j
          · subst ek; rw [HP.out.1]; exact fun h => HE.out h.symm
          · exact HK.out k (by omega)⟩
        case measure => simp [intOf]; omega
end Go.Proofs.Ytinlcgcnjlifkaa
