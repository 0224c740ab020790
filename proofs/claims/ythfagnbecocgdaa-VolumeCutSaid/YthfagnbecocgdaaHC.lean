/- Percent: both sides; VolumeChains' law. -/
import Derived.Test.YthfagnbecocgdaaHB
import Derived.Test.YthfagnbecocgdaaVC
namespace Go.Proofs.Ythfagnbecocgdaa
open Go.RowKit Go.Shelf Go.Deep

theorem row_new (w : World) (g : Int) (hg : I64 g) : RowIn (w.alloc (.cells #[.int .i64 g] 3)) [g] (.slice (some ⟨w.heap.size, 0, none⟩) 1 1) := by
  refine ⟨some ⟨w.heap.size, 0, none⟩, 1, rfl, fun i hi => ?_, by simp, by simp⟩
  simp at hi; subst hi
  exact ⟨w.heap.size, 0, rfl, by simp [go_sem], by simpa using hg⟩
theorem row_new3 (w : World) (a b c : Int) (ha : I64 a) (hb : I64 b) (hc : I64 c) : RowIn (w.alloc (.cells #[.int .i64 a, .int .i64 b, .int .i64 c] 3)) [a, b, c] (.slice (some ⟨w.heap.size, 0, none⟩) 3 3) := by
  refine ⟨some ⟨w.heap.size, 0, none⟩, 3, rfl, fun i hi => ?_, by simp, by simp⟩
  simp at hi
  refine ⟨w.heap.size, 0, rfl, ?_, ?_⟩
  · have : i = 0 ∨ i = 1 ∨ i = 2 := by omega
    rcases this with rfl | rfl | rfl <;> simp [go_sem]
  · have : i = 0 ∨ i = 1 ∨ i = 2 := by omega
    rcases this with rfl | rfl | rfl <;> simpa

def least (g : Int) (n : Nat) : Prop := n ≤ 200 ∧ g ≤ cub n ∧ ∀ i, i < n → cub i < g
theorem cub200 : cub 200 = 524288 := by decide
theorem least_ex {g : Int} (h : g ≤ 524288) : ∃ n, least g n := by
  have key : ∀ m : Nat, m ≤ 200 → g ≤ cub m → ∃ n, least g n := by
    intro m
    induction m using Nat.strongRecOn with
    | _ m ih =>
      intro hm hg
      by_cases hx : ∃ i, i < m ∧ g ≤ cub i
      · obtain ⟨i, hi, hgi⟩ := hx
        exact ih i hi (by omega) hgi
      · refine ⟨m, hm, hg, fun i hi => ?_⟩
        by_cases hc : cub i < g
        · exact hc
        · exact absurd ⟨i, hi, by omega⟩ hx
  exact key 200 (Nat.le_refl _) (by rw [show ((200 : Nat) : Int) = 200 from rfl, cub200]; exact h)
theorem pct_nat {n : Nat} (h : n ≤ 200) : pctB n = true := by simp [pctB]; omega

set_option maxHeartbeats 1000000 in
set_option maxRecDepth 100000 in
theorem percent1_yes {g : Int} (hg : gainB g = true) (h : g ≤ 524288) {n : Nat} (hn : least g n) (B : Nat) (w : World) (hc : w.cell? ⟨B, 0, none⟩ = some (.int .i64 g)) : Calls Try.prog 94 #[at0 B] w (Gives (isV (.int .i64 n)) w) := by
  obtain ⟨g0, g1⟩ := gainB_t hg
  have hga := gains_yes (l := [g]) (show allG [g] = true by simp [allG, hg]) _ _ (row_new w g (by unfold I64; omega))
  have H93 : Hid (∀ k : Nat, k ≤ 200 → ∀ x, Calls Try.prog 93 #[.int .i64 k] x fun e w' => e = .returned (.int .i64 (cub k)) ∧ w' = x) := Lib.hid fun k hk x => (cubic0_any (pct_nat hk) x).mono fun e w' ⟨h1, h2⟩ => ⟨h1, h2.symm⟩
  have H200 : Hid (∀ x, Calls Try.prog 93 #[.int .i64 200] x fun e w' => e = .returned (.int .i64 524288) ∧ w' = x) := Lib.hid fun x => by
    have := H93.out 200 (Nat.le_refl _) x
    rwa [show ((200 : Nat) : Int) = 200 from rfl, cub200] at this
  have HMU : Hid (∀ x, Calls Try.prog 50 #[.bool true, .int .i64 8] x fun e w' => e = .returned (.tuple #[]) ∧ w' = x) := Lib.hid fun x => (must_yes 8 x).mono fun e w' ⟨h1, h2⟩ => ⟨h1, h2.symm⟩
  have HX : Hid (∀ x, Below w.heap.size w x → x.cell? ⟨B, 0, none⟩ = some (.int .i64 g)) := Lib.hid fun x hx => (Same.of_below hx).cell hc
  have HB0 : Hid (Below w.heap.size w (w.alloc (.cells #[.int .i64 g] 3))) := Lib.hid ((Below.refl _ w).alloc (Nat.le_refl _) _)
  have HN := Lib.hid hn
  have h1 := HX.out _ HB0.out
  have hnn := hn.1
  clear hg hn
  go_enter Try.func94, Try.ntmps94
  go_upto_region 2 with (go_at_call 61; (with_reducible refine hga.mono ?_); rintro e w1 ⟨rfl, rfl⟩)
  have q1 : decide (g ≤ 524288) = true := by simpa using h
  go_quiet ((first | (go_at_call 93; with_reducible exact Calls.quiet_of_same (H200.out _)) | (go_at_call 50; with_reducible exact Calls.quiet_of_same (HMU.out _))))
  clear h1 hga q1 hc
  generalize hwx : (w.alloc _).drewN _ = wx
  have hb0 : Below w.heap.size w wx := by rw [← hwx]; exact below_drewN HB0.out _
  clear hwx
  go_wp2_with fail
  go_loopw [2] (fun i wr => ∃ j : Nat, i = .int .i64 j ∧ j ≤ n ∧ Below w.heap.size w wr) (fun i _ => n - (intOf i).toNat)
  case atStart => exact ⟨0, rfl, Nat.zero_le _, hb0⟩
  case round =>
    clear hb0
    obtain ⟨j, rfl, hj, hbl⟩ := hrel
    have h1 := HX.out _ hbl
    have hq := H93.out j (by omega)
    have hcase : (j < n ∧ cub j < g) ∨ (j = n ∧ ¬ cub j < g) := by
      by_cases e : j < n
      · exact .inl ⟨e, HN.out.2.2 j e⟩
      · obtain rfl : j = n := by omega
        exact .inr ⟨rfl, by have := HN.out.2.1; omega⟩
    obtain ⟨c, hcj⟩ : ∃ c, cub j = c := ⟨_, rfl⟩
    rw [hcj] at hq hcase
    have HQ := Lib.hid hq
    have HBL := Lib.hid hbl
    clear hq hcj hbl
    rcases hcase with ⟨hlt, hcg⟩ | ⟨rfl, hcg⟩
    · have q2 : decide (c < g) = true := by simpa using hcg
      go_wp2_with fail
      go_quiet ((go_at_call 93; with_reducible exact Calls.quiet_of_same (HQ.out _)))
      go_wp2_with fail
      go_roundw
      case rel => exact ⟨j + 1, by go_num, by omega, below_drewN HBL.out _⟩
      case measure => simp [intOf]; omega
    · have q2 : decide (c < g) = false := by simpa using hcg
      go_wp2_with fail
      go_quiet ((go_at_call 93; with_reducible exact Calls.quiet_of_same (HQ.out _)))
      go_wp2_with fail
      go_ret
      exact ⟨_, rfl, rfl, below_drewN HBL.out _⟩

set_option maxHeartbeats 1000000 in
set_option maxRecDepth 100000 in
theorem percent1_high {g : Int} (hg : gainB g = true) (h : ¬ g ≤ 524288) (B : Nat) (w : World) (hc : w.cell? ⟨B, 0, none⟩ = some (.int .i64 g)) : Calls Try.prog 94 #[at0 B] w (LeavesX 8 w) := by
  obtain ⟨g0, g1⟩ := gainB_t hg
  have hga := gains_yes (l := [g]) (show allG [g] = true by simp [allG, hg]) _ _ (row_new w g (by unfold I64; omega))
  have H200 : Hid (∀ x, Calls Try.prog 93 #[.int .i64 200] x fun e w' => e = .returned (.int .i64 524288) ∧ w' = x) := Lib.hid fun x => by
    have := cubic0_any (pct_nat (Nat.le_refl 200)) x
    rw [show ((200 : Nat) : Int) = 200 from rfl, cub200] at this
    exact this.mono fun e w' ⟨h1, h2⟩ => ⟨h1, h2.symm⟩
  have HMU := Lib.hid (must_no 8)
  have HX : Hid (∀ x, Below w.heap.size w x → x.cell? ⟨B, 0, none⟩ = some (.int .i64 g) ∧ Below w.heap.size w x) := Lib.hid fun x hx => ⟨(Same.of_below hx).cell hc, hx⟩
  have HB0 : Hid (Below w.heap.size w (w.alloc (.cells #[.int .i64 g] 3))) := Lib.hid ((Below.refl _ w).alloc (Nat.le_refl _) _)
  have h1 := (HX.out _ HB0.out).1
  clear hg
  go_enter Try.func94, Try.ntmps94
  go_upto_region 2 with (go_at_call 61; (with_reducible refine hga.mono ?_); rintro e w1 ⟨rfl, rfl⟩)
  clear h1 hga hc
  refine region_T (S := fun wx => wx.cell? ⟨B, 0, none⟩ = some (.int .i64 g) ∧ Below w.heap.size w wx) [3] (by kernel_rfl) (HX.out _ HB0.out.drew) (fun _ => ?_)
  have hS0 := HX.out _ HB0.out.drew
  obtain ⟨W, hW⟩ : ∃ W, (w.alloc (.cells #[.int .i64 g] 3)).drew = W := ⟨_, rfl⟩
  rw [hW] at hS0 ⊢
  clear hW
  refine anyT_take (i := 0) (v := ?_) rfl (by kernel_rfl) (by kernel_rfl) (by kernel_rfl) (by kernel_rfl) (fun _ _ _ h => h) (Or.inl ⟨by rfl, ?_⟩) (by assumption) ?_
  rotate_left
  focus ((intro wq hSw; (try dsimp only at hSw); go_simp); try with_reducible rfl)
  try simp only [Act.put, List.setIfInBounds_toArray, List.set_cons_zero, List.set_cons_succ]
  refine anyT_one (i := 1) (by kernel_rfl) rfl (fun K hK => ?_)
  go_simp
  refine (H200.out _).mono ?_
  rintro e wk ⟨rfl, rfl⟩
  go_simp
  refine hK.out _ _ (fun _ => hS0) ?_
  clear hK K
  try simp only [Act.put, List.setIfInBounds_toArray, List.set_cons_zero, List.set_cons_succ]
  refine anyT_one (i := 2) (by kernel_rfl) rfl (fun K hK => ?_)
  have q1 : decide (g ≤ 524288) = false := by simpa using h
  go_simp
  refine hK.out _ _ (fun _ => hS0) ?_
  clear hK K
  try simp only [Act.put, List.setIfInBounds_toArray, List.set_cons_zero, List.set_cons_succ]
  refine anyT_one (i := 3) (by kernel_rfl) rfl (fun K hK => ?_)
  go_simp
  refine (HMU.out _).mono ?_
  rintro e wk ⟨rfl, rfl⟩
  go_simp
  exact ⟨rfl, rfl, hS0.2⟩
theorem percent1_no {g : Int} (hI : I64 g) (hg : gainB g = false) (B : Nat) (w : World) (hc : w.cell? ⟨B, 0, none⟩ = some (.int .i64 g)) : Calls Try.prog 94 #[at0 B] w (LeavesX 7 w) := by
  have hga := gains_no (l := [g]) (show allG [g] = false by simp [allG, hg]) _ _ (row_new w g hI)
  have HB0 : Hid (Below w.heap.size w (w.alloc (.cells #[.int .i64 g] 3))) := Lib.hid ((Below.refl _ w).alloc (Nat.le_refl _) _)
  clear hg hI
  go_enter Try.func94, Try.ntmps94
  go_wp2_with (go_at_call 61; (with_reducible refine hga.mono ?_); rintro e w1 ⟨rfl, rfl⟩)
  exact ⟨rfl, rfl, HB0.out⟩
end Go.Proofs.Ythfagnbecocgdaa
