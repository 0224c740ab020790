/- MatrixNormal: the plain part, and the law. -/
import Derived.Test.YtpjmiiejmkgmdaaJC
import Derived.Test.YtpjmiiejmkgmdaaED
import Derived.Test.YtpjmiiejmkgmdaaDA
namespace Go.Proofs.Ytpjmiiejmkgmdaa
open Go.RowKit Go.Deep

theorem absI_nonneg (n : Int) : 0 ≤ absI n := by unfold absI; omega
theorem absI_nat (n : Int) : absI n = (n.natAbs : Int) := by unfold absI; omega
theorem scaled_mul {l : List Int} (h : ¬ sumA l ≤ 65536) (x : Int) : sumA l * absI (scaled l x) ≤ 65536 * absI x := by
  unfold scaled
  rw [if_neg h]
  have hS : 0 < sumA l := by omega
  have h3 : (x * 65536).natAbs = x.natAbs * 65536 := by rw [Int.natAbs_mul]; rfl
  have h4 : (sumA l).natAbs * ((x.natAbs * 65536) / (sumA l).natAbs) ≤ x.natAbs * 65536 := Nat.mul_div_le _ _
  have h6 : (((sumA l).natAbs * ((x.natAbs * 65536) / (sumA l).natAbs) : Nat) : Int) ≤ ((x.natAbs * 65536 : Nat) : Int) := Int.ofNat_le.2 h4
  rw [Int.natCast_mul, Int.natCast_mul] at h6
  have h5 : ((sumA l).natAbs : Int) = sumA l := by omega
  rw [absI_nat, absI_nat, Int.natAbs_tdiv, h3]
  rw [h5] at h6
  generalize ((x.natAbs * 65536 / (sumA l).natAbs : Nat) : Int) = q at *
  omega
theorem sumTo_scaled {l : List Int} (h : ¬ sumA l ≤ 65536) : ∀ k, k ≤ l.length → sumA l * sumTo (normalR l) k ≤ 65536 * sumTo l k
  | 0, _ => by simp [sumTo]
  | k + 1, hk => by
    have ih := sumTo_scaled h k (by omega)
    have hs := scaled_mul h (l.getD k 0)
    rw [sumTo_succ, sumTo_succ, normalR_at (by omega), Int.mul_add, Int.mul_add]
    omega
theorem normalR_sum (l : List Int) : sumA (normalR l) ≤ 65536 := by
  by_cases h : sumA l ≤ 65536
  · rw [normalR_id h]; exact h
  · have h1 := sumTo_scaled h l.length (Nat.le_refl _)
    have e : sumTo (normalR l) l.length = sumA (normalR l) := by unfold sumA; rw [normalR_len]
    have e2 : sumTo l l.length = sumA l := rfl
    rw [e, e2] at h1
    have hS : 0 < sumA l := by omega
    by_cases hc : sumA (normalR l) ≤ 65536
    · exact hc
    · have : sumA l * 65537 ≤ sumA l * sumA (normalR l) := Int.mul_le_mul_of_nonneg_left (by omega) (by omega)
      omega

theorem negM_row (b : List (List Int)) (k : Nat) : (negM b).getD k [] = negR (b.getD k []) := by
  by_cases h : k < b.length
  · simp [negM, List.getD, h]
  · rw [getD_out (by simpa [negM] using Nat.le_of_not_lt h), getD_out (by omega)]; rfl
theorem negR_get (l : List Int) (i : Nat) : (negR l).getD i 0 = -(l.getD i 0) := by
  by_cases h : i < l.length
  · exact negR_at h
  · rw [getD_out (by simpa [negR] using Nat.le_of_not_lt h), getD_out (by omega)]; rfl
theorem cols_neg (b : List (List Int)) : cols (negM b) = cols b := by unfold cols; rw [negM_row]; simp [negR]
theorem cellM_neg (b : List (List Int)) (k f : Nat) : cellM (negM b) k f = -cellM b k f := by unfold cellM; rw [negM_row, negR_get]
theorem dotTo_neg (r : List Int) (b : List (List Int)) (f : Nat) : ∀ k, dotTo r (negM b) f k = -dotTo r b f k
  | 0 => by simp [dotTo]
  | k + 1 => by rw [dotTo_succ, dotTo_succ, dotTo_neg r b f k, cellM_neg, Int.mul_neg]; omega
theorem negM_tab (r c : Nat) (F : Nat → Nat → Int) : negM (tabM r c F) = tabM r c fun i f => -F i f := by simp [negM, negR, tabM, Function.comp_def]
theorem applyM_neg (m b : List (List Int)) : applyM m (negM b) = negM (applyM m b) := by
  unfold applyM
  rw [negM_tab, cols_neg]
  unfold tabM
  refine List.map_congr_left fun i _ => List.map_congr_left fun f _ => ?_
  dsimp only
  rw [dotTo_neg, clipI_neg (by omega)]
theorem within_neg {k : Int} (l : List Int) : within k (negR l) = within k l := by
  unfold within negR
  rw [List.all_map]
  congr 1
  funext x
  simp only [Function.comp, inB]
  rw [Bool.eq_iff_iff]; simp; omega
theorem validB_neg (b : List (List Int)) : validB (negM b) = validB b := by
  unfold validB
  rw [cols_neg, show (negM b).length = b.length by simp [negM]]
  congr 1
  unfold negM
  rw [List.all_map]
  congr 1
  funext l
  simp only [Function.comp, rowOk, within_neg]
  simp [negR]
theorem applyE_neg (m b : List (List Int)) : applyE m (negM b) = applyE m b := by
  unfold applyE
  rw [validB_neg, show (negM b).length = b.length by simp [negM]]
theorem applyM_bd (m b : List (List Int)) (j f : Nat) : ((applyM m b).getD j []).length ≤ cols b ∧ (((applyM m b).getD j []).getD f 0).natAbs ≤ 8388607 := by
  by_cases hj : j < m.length
  · rw [show (applyM m b).getD j [] = _ from tabM_row _ hj]
    refine ⟨by simp, ?_⟩
    by_cases hf : f < cols b
    · have h := clipI_bd (k := 8388607) (by omega) (dotTo (m.getD j []) b f (m.getD j []).length)
      simp only [List.getD, List.getElem?_map, List.getElem?_range hf, Option.map_some, Option.getD_some]
      simp only [List.getD] at h
      omega
    · rw [getD_out (by simp; omega)]; simp
  · rw [show (applyM m b).getD j [] = [] from getD_out (by simp [applyM, tabM_len]; omega)]; simp
theorem negM_twice (b : List (List Int)) : negM (negM b) = b := by simp [negM, negR, Function.comp_def]
end Go.Proofs.Ytpjmiiejmkgmdaa
