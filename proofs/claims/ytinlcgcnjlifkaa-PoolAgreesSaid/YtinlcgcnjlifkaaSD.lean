/- Bits of a number; whether a list has a number. -/
import Derived.Test.YtinlcgcnjlifkaaSB
namespace Go.Proofs.Ytinlcgcnjlifkaa
open Go.RowKit Go.Shelf Go.Deep

def bitB (n : Int) (k : Nat) : Bool := decide (n / 2 ^ k % 2 = 1)
theorem half_step (n : Int) (j : Nat) : n / 2 ^ j / 2 = n / 2 ^ (j + 1) := by
  rw [Int.pow_succ, Int.ediv_ediv_of_nonneg (Int.pow_nonneg (by decide))]
set_option maxHeartbeats 1000000 in
set_option maxRecDepth 100000 in
theorem refBit_any (n : Int) (k : Nat) (h0 : 0 ≤ n) (h1 : n ≤ 65536) (hk : k ≤ 100) (w : World) : Calls Try.prog 21 #[.int .i64 n, .int .i64 k] w fun e w' => e = .returned (.bool (bitB n k)) ∧ w = w' := by
  have HB : Hid (∀ j : Nat, 0 ≤ n / 2 ^ j ∧ n / 2 ^ j ≤ 65536) := Lib.hid fun j => by
    have hp : (0 : Int) < 2 ^ j := Int.pow_pos (by decide)
    have h2 := Int.ediv_nonneg h0 (Int.le_of_lt hp)
    have h3 := Int.ediv_le_self (2 ^ j) h0
    exact ⟨h2, by omega⟩
  have HS := Lib.hid (half_step n)
  have H0 : Hid (n = n / 2 ^ 0) := Lib.hid (by simp)
  have HK := Lib.hid hk
  clear h0 h1 hk
  go_enter Try.func21, Try.ntmps21
  go_wp2_with fail
  go_loop [5, 0] (fun i v => ∃ j : Nat, i = .int .i64 j ∧ j ≤ k ∧ v = .int .i64 (n / 2 ^ j)) (fun i _ => k - (intOf i).toNat)
  case atStart => exact ⟨0, rfl, Nat.zero_le _, by rw [← H0.out]⟩
  case round =>
    obtain ⟨j, rfl, hj, rfl⟩ := hrel
    obtain ⟨b1, b2⟩ := HB.out j
    have hs := HS.out j
    obtain ⟨m, hm⟩ : ∃ m, n / 2 ^ j = m := ⟨_, rfl⟩
    rw [hm] at b1 b2 hs ⊢
    have HM := Lib.hid hm
    have HSS := Lib.hid hs
    clear hm hs
    by_cases hlt : j < k
    · have w4 : (j : Int) < (k : Int) := by omega
      have e1 : wrap64 (m / 2) = m / 2 := by unfold wrap64; omega
      have HLT := Lib.hid hlt
      have hj2 : (j : Int) ≤ 100 := by have := HK.out; omega
      go_wp2_with fail
      go_round
      case rel => exact ⟨j + 1, by go_num, HLT.out, by rw [← HSS.out]⟩
      case measure => have := HLT.out; simp [intOf]; omega
    · have w4 : ¬ (j : Int) < (k : Int) := by omega
      obtain rfl : j = k := by omega
      have e1 : m.tmod 2 = m % 2 := Int.tmod_eq_emod_of_nonneg b1
      have HR : Hid (bitB n j = (m % 2 == 1)) := Lib.hid (by
        unfold bitB
        rw [HM.out]
        by_cases h : m % 2 = 1
        · simp [h]
        · simp [h])
      go_wp2_with fail
      go_ret
      exact ⟨by rw [HR.out]; rfl, rfl⟩
set_option maxHeartbeats 1000000 in
set_option maxRecDepth 100000 in
theorem index_any (l : List Int) (v : Value) (x : Int) (w : World) (h : RowIn w l v) : Calls Try.prog 47 #[v, .int .i64 x] w fun e w' => ∃ k : Int, e = .returned (.int .i64 k) ∧ (0 ≤ k ↔ x ∈ l) ∧ w = w' := by
  obtain ⟨a, ca, rfl, hin, hl, _⟩ := h
  have HIN := Lib.hid hin
  clear hin
  go_enter Try.func47, Try.ntmps47
  go_wp2_with fail
  go_loop [8] (fun i => ∃ j : Nat, i = .int .i64 j ∧ j ≤ l.length ∧ ∀ q, q < j → l.getD q 0 ≠ x) (fun i => l.length - (intOf i).toNat)
  case atStart => exact ⟨0, rfl, Nat.zero_le _, fun q hq => absurd hq (Nat.not_lt_zero _)⟩
  case round =>
    obtain ⟨j, rfl, hj, hno⟩ := hrel
    have HNO := Lib.hid hno
    clear hno
    by_cases hlt : j < l.length
    · have w4 : (j : Int) < (l.length : Int) := by omega
      have w5 : (0 : Int) ≤ (j : Int) := by omega
      obtain ⟨b, o, rfl, hc, _⟩ := HIN.out j hlt
      obtain ⟨y, hy⟩ : ∃ y, l.getD j 0 = y := ⟨_, rfl⟩
      rw [hy] at hc
      have HY := Lib.hid hy
      have HLT := Lib.hid hlt
      clear hy
      by_cases e : x = y
      · have HC : Hid (x ∈ l) := Lib.hid (by
          rw [e, ← HY.out]
          rw [show l.getD j 0 = l[j]'HLT.out by simp [List.getD, HLT.out]]
          exact List.getElem_mem _)
        subst e
        go_wp2_with fail
        go_ret
        exact ⟨j, rfl, ⟨fun _ => HC.out, fun _ => by omega⟩, rfl⟩
      · have e1 : (x == y) = false := by simpa using e
        have HE := Lib.hid e
        go_wp2_with fail
        go_round
        case rel => exact ⟨j + 1, by go_num, HLT.out, fun q hq => by
          by_cases eq : q = j
          · subst eq; rw [HY.out]; exact fun h => HE.out h.symm
          · exact HNO.out q (by omega)⟩
        case measure => have := HLT.out; simp [intOf]; omega
    · have w4 : ¬ (j : Int) < (l.length : Int) := by omega
      obtain rfl : j = l.length := by omega
      have HC : Hid (¬ x ∈ l) := Lib.hid (by
        intro h
        obtain ⟨q, hq, he⟩ := List.getElem_of_mem h
        exact HNO.out q hq (by rw [← he]; simp [List.getD, hq]))
      go_wp2_with fail
      go_ret
      exact ⟨-1, rfl, ⟨fun h => absurd h (by decide), fun h => absurd h HC.out⟩, rfl⟩
set_option maxRecDepth 100000 in
theorem contains_any (l : List Int) (v : Value) (x : Int) (w : World) (h : RowIn w l v) : Calls Try.prog 27 #[v, .int .i64 x] w fun e w' => e = .returned (.bool (l.contains x)) ∧ w = w' := by
  have hi := index_any l v x w h
  obtain ⟨a, ca, rfl, _, _, _⟩ := h
  go_enter Try.func27, Try.ntmps27
  go_wp2_with (go_at_call 47; (with_reducible refine hi.mono ?_); rintro e w1 ⟨k, rfl, hk, rfl⟩; have HK := Lib.hid hk; clear hk hi)
  go_ret
  refine ⟨?_, rfl⟩
  by_cases hx : x ∈ l
  · simp [hx, HK.out.2 hx]
  · have h9 : k < 0 := Int.not_le.1 fun h => hx (HK.out.1 h)
    simp [hx, h9]
end Go.Proofs.Ytinlcgcnjlifkaa
