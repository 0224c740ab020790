/- The least common multiple, both ways. -/
import Derived.Test.YtlpdeadmiinhoaaGreatDoorGD
namespace Go.Proofs.YtlpdeadmiinhoaaGreatDoor
open Go.RowKit

def lcmI (a b : Int) : Int := (Int.lcm a b : Int)
theorem lcmI_pos {a b : Int} (ha : 1 ≤ a) (hb : 1 ≤ b) : 1 ≤ lcmI a b := by
  have := Int.lcm_pos (m := a) (n := b) (by omega) (by omega)
  unfold lcmI; omega
theorem lcmI_le {a b : Int} (ha : 1 ≤ a) (hb : 1 ≤ b) : lcmI a b ≤ a * b :=
  Int.le_of_dvd (Int.mul_pos (by omega) (by omega)) (lcm_dvd_of _ _ _ ⟨b, rfl⟩ ⟨a, Int.mul_comm _ _⟩)
theorem lcmI_le' {a b : Int} (ha : 1 ≤ a) (hb : 1 ≤ b) (ha' : a ≤ 1000) (hb' : b ≤ 1000) : lcmI a b ≤ 1000000 := by
  have h1 := lcmI_le ha hb
  have h2 : a * b ≤ 1000 * b := Int.mul_le_mul_of_nonneg_right ha' (by omega)
  omega
theorem lcm_hit {a b n : Int} (ha : 1 ≤ a) (hb : 1 ≤ b) (hn : 1 ≤ n) (hle : n ≤ lcmI a b) (hd : a ∣ n) (hr : n % b = 0) : n = lcmI a b := by
  have h := lcm_dvd_of a b n hd (Int.dvd_of_emod_eq_zero hr)
  have := Int.le_of_dvd (by omega) h
  unfold lcmI at hle ⊢
  omega
theorem lcm_miss {a b n : Int} (ha : 1 ≤ a) (hle : n ≤ lcmI a b) (hd : a ∣ n) (hr : ¬ n % b = 0) : n + a ≤ lcmI a b := by
  have hL : a ∣ lcmI a b := Int.dvd_lcm_left _ _
  have hne : n ≠ lcmI a b := fun e => hr (by rw [e]; exact Int.emod_eq_zero_of_dvd (Int.dvd_lcm_right _ _))
  have := Int.le_of_dvd (by omega) (Int.dvd_sub hL hd)
  omega

set_option maxHeartbeats 400000 in
theorem lcm_any (a b : Int) (w : World) (ha : 1 ≤ a) (hb : 1 ≤ b) (ha' : a ≤ 1000) (hb' : b ≤ 1000) :
    Calls Tryz.prog 98 #[.int .i64 a, .int .i64 b] w fun e w' => e = .returned (.int .i64 (lcmI a b)) ∧ w = w' := by
  have hL := lcmI_le' ha hb ha' hb'
  have hp := lcmI_pos ha hb
  have h0 : a ≤ lcmI a b := Int.le_of_dvd (by omega) (Int.dvd_lcm_left _ _)
  obtain ⟨L, hLL⟩ : ∃ L, lcmI a b = L := ⟨_, rfl⟩
  have HL := Lib.hid hLL
  rw [hLL] at hL hp h0 ⊢
  have hb0 : ¬ b = 0 := by omega
  clear hLL
  go_enter Tryz.func98, Tryz.ntmps98
  go_wp2_with fail
  go_loop [5] (fun i => ∃ n : Int, i = .int .i64 n ∧ 1 ≤ n ∧ n ≤ L ∧ a ∣ n) (fun i => (L - intOf i).toNat)
  case atStart => exact ⟨a, rfl, ha, h0, Int.dvd_refl _⟩
  case round =>
    obtain ⟨n, rfl, hn1, hn2, hd⟩ := hrel
    have Hd := Lib.hid hd
    clear hd
    by_cases hr : n % b = 0
    · have HE : Hid (n = L) := Lib.hid (by rw [← HL.out]; exact lcm_hit ha hb hn1 (by rw [HL.out]; exact hn2) Hd.out hr)
      go_wp2_with fail
      go_ret
      exact ⟨ret_int HE.out, rfl⟩
    · have HE : Hid (n + a ≤ L) := Lib.hid (by rw [← HL.out]; exact lcm_miss ha (by rw [HL.out]; exact hn2) Hd.out hr)
      go_wp2_with fail
      go_round
      case rel => exact ⟨n + a, rfl, by omega, HE.out, Int.dvd_add Hd.out (Int.dvd_refl _)⟩
      case measure => have := HE.out; simp [intOf]; omega

theorem gcd_step (x y : Nat) : Nat.gcd y (x % y) = Nat.gcd x y := by
  rw [Nat.gcd_comm x y, Nat.gcd_rec y x, Nat.gcd_comm]
theorem lcm_of_gcd {a b g : Nat} (ha : 1 ≤ a) (hg : Nat.gcd a b = g) : a / g * b = Nat.lcm a b := by
  have hd : g ∣ a := hg ▸ Nat.gcd_dvd_left a b
  obtain ⟨q, hq⟩ := hd
  have hg0 : 0 < g := by
    rcases Nat.eq_zero_or_pos g with h | h
    · rw [h, Nat.zero_mul] at hq; omega
    · exact h
  unfold Nat.lcm
  rw [hg, hq, Nat.mul_div_cancel_left _ hg0, Nat.mul_assoc, Nat.mul_div_cancel_left _ hg0]

set_option maxHeartbeats 400000 in
theorem leastMultiple_nat (a b : Nat) (w : World) (ha : 1 ≤ a) (hb : 1 ≤ b) (ha' : a ≤ 1000) (hb' : b ≤ 1000) :
    Calls Tryz.prog 191 #[.int .i64 a, .int .i64 b] w fun e w' => e = .returned (.int .i64 (lcmI a b)) ∧ Below w.heap.size w w' := by
  have HR := Lib.hid fun (g : Nat) (h : Nat.gcd a b = g) => lcm_of_gcd (b := b) ha h
  go_enter Tryz.func191, Tryz.ntmps191
  go_wp2_with fail
  go_loopw [5, 6] (fun i j wr => ∃ x y : Nat, i = .int .i64 x ∧ j = .int .i64 y ∧ 1 ≤ x ∧ x ≤ 1000 ∧ y ≤ 1000 ∧ Nat.gcd x y = Nat.gcd a b ∧ Below w.heap.size w wr) (fun _ j _ => (intOf j).toNat)
  case atStart => exact ⟨a, b, rfl, rfl, ha, ha', hb', rfl, Below.refl _ _⟩
  case round =>
    obtain ⟨x, y, rfl, rfl, hx1, hx2, hy, hg, hbl⟩ := hrel
    have Hg := Lib.hid hg
    clear hg
    by_cases h0 : 0 < y
    · have hy0 : ¬ (y : Int) = 0 := by omega
      have hm : (x : Int).tmod (y : Int) = ((x % y : Nat) : Int) := by rw [Int.tmod_eq_emod_of_nonneg (by omega)]; rfl
      have Hlt : Hid (x % y < y) := Lib.hid (Nat.mod_lt _ h0)
      have HG : Hid (Nat.gcd y (x % y) = Nat.gcd a b) := Lib.hid ((gcd_step x y).trans Hg.out)
      go_wp2_with fail
      go_quiet (fail)
      go_wp2_with fail
      go_roundw
      case rel => exact ⟨y, x % y, rfl, rfl, by omega, by omega, by have := Hlt.out; omega, HG.out, below_drewN hbl _⟩
      case measure => have := Hlt.out; simp [intOf]; omega
    · obtain rfl : y = 0 := by omega
      have hgx : Nat.gcd a b = x := by rw [← Hg.out]; simp
      have hr := HR.out x hgx
      have hq : (a : Int).tdiv (x : Int) = ((a / x : Nat) : Int) := by rw [Int.tdiv_eq_ediv_of_nonneg (by omega)]; rfl
      have hx0 : ¬ (x : Int) = 0 := by omega
      have hle : a / x ≤ 1000 := Nat.le_trans (Nat.div_le_self _ _) ha'
      have hmul : ((a / x : Nat) : Int) * (b : Int) = lcmI a b := by
        have : ((a / x * b : Nat) : Int) = lcmI a b := by rw [hr]; rfl
        rw [← this, Int.natCast_mul]
      have Hmul := Lib.hid hmul
      clear hgx hr hmul
      obtain ⟨q, hqq⟩ : ∃ q, a / x = q := ⟨_, rfl⟩
      rw [hqq] at hq hle Hmul
      have hqb : (q : Int) * (b : Int) ≤ 1000 * 1000 := by
        have h1 : (q : Int) * b ≤ 1000 * b := Int.mul_le_mul_of_nonneg_right (by omega) (by omega)
        omega
      have hqb0 : 0 ≤ (q : Int) * (b : Int) := Int.mul_nonneg (by omega) (by omega)
      clear hqq
      go_wp2_with fail
      go_ret
      exact ⟨ret_int Hmul.out, hbl⟩
end Go.Proofs.YtlpdeadmiinhoaaGreatDoor
