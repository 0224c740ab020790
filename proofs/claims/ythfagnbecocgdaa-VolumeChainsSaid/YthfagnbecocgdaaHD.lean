/- Percent, whole, on both sides; VolumeChains' law. -/
import Derived.Test.YthfagnbecocgdaaHC
namespace Go.Proofs.Ythfagnbecocgdaa
open Go.RowKit Go.Shelf Go.Deep

set_option maxRecDepth 100000 in
theorem percent_of {g : Int} (a k : Int) (w : World)
    (h : (k = 0 ∧ ∀ B (x : World), x.cell? ⟨B, 0, none⟩ = some (.int .i64 g) → Calls Try.prog 94 #[at0 B] x (Gives (isV (.int .i64 a)) x)) ∨ (a = 0 ∧ ∀ B (x : World), x.cell? ⟨B, 0, none⟩ = some (.int .i64 g) → Calls Try.prog 94 #[at0 B] x (LeavesX k x))) :
    Calls Try.prog 36 #[.int .i64 g] w (IntAns w a k) := by
  have hmf := makes
  obtain ⟨X, hX⟩ : ∃ X, Obj.cells #[.int .i64 g] 3 = X := ⟨_, rfl⟩
  have hbel : Below w.heap.size w (w.alloc X) := (Below.refl _ w).alloc (Nat.le_refl _) _
  have ce : ∀ Z, ((w.alloc X).alloc Z).cell? ⟨w.heap.size, 0, none⟩ = some (.int .i64 g) := fun Z => by
    refine (Same.alloc _ Z).cell ?_; rw [← hX]; simp [go_sem]
  rcases h with ⟨rfl, h⟩ | ⟨rfl, h⟩
  · have hf := fitted87_ok 94 #[at0 w.heap.size] (w.alloc X) (isV (.int .i64 a)) (fun _ _ _ _ h => h) (enters_of Try.func94 (by kernel_rfl) rfl _) (h _ _ (ce _))
    subst hX
    have HBL := Lib.hid hbel
    clear hbel ce h
    go_enter Try.func36, Try.ntmps36
    go_wp2_with (go_at_call 87; (with_reducible refine hf.mono ?_); rintro e w1 ⟨u, rfl, rfl, hb1⟩)
    go_ret2
    exact ⟨rfl, HBL.out.trans (hb1.mono HBL.out.size)⟩
  · have hf := fitted87_no 94 #[at0 w.heap.size] k (w.alloc X) (enters_of Try.func94 (by kernel_rfl) rfl _) (h _ _ (ce _))
    subst hX
    have HBL := Lib.hid hbel
    clear hbel ce h
    go_enter Try.func36, Try.ntmps36
    go_wp2_with (go_at_call 87; (with_reducible refine hf.mono ?_); rintro e w1 ⟨rfl, hb1⟩)
    go_ret2
    exact ⟨rfl, HBL.out.trans (hb1.mono HBL.out.size)⟩

theorem cub_hi {n : Int} (h0 : 0 ≤ n) (h : n ≤ 200) : cub n ≤ 524288 := by
  obtain ⟨_, c3, c4⟩ := cub_bd h0 h
  unfold cub
  obtain ⟨a, ha⟩ : ∃ a, n * n * n = a := ⟨_, rfl⟩
  rw [ha] at c3 c4 ⊢
  rw [rnd_nn (by omega)]
  omega
theorem refCubicN {j : Nat} (hj : j ≤ 200) (w : World) : Calls Try.prog 35 #[.int .i64 j] w (IntAns w (cub j) 0) := by
  have := refCubic_any j w
  rwa [show cubR j = cub j by simp [cubR, pct_nat hj], show cubK j = 0 by simp [cubK, pct_nat hj]] at this
set_option maxHeartbeats 1000000 in
set_option maxRecDepth 100000 in
theorem refPercent_yes {g : Int} (hg : gainB g = true) {n : Nat} (hn : least g n) (w : World) : Calls Try.prog 37 #[.int .i64 g] w (IntAns w n 0) := by
  have h75 := gain_any g w
  rw [hg] at h75
  have H35 := Lib.hid (fun (k : Nat) (hk : k ≤ 200) (x : World) => refCubicN hk x)
  have HN := Lib.hid hn
  have hnn := hn.1
  clear hg hn
  go_enter Try.func37, Try.ntmps37
  go_wp2_with (go_at_call 75; (with_reducible refine h75.mono ?_); rintro e w1 ⟨rfl, rfl⟩)
  go_loopw [4] (fun i wr => ∃ j : Nat, i = .int .i64 j ∧ j ≤ n ∧ Below w.heap.size w wr) (fun i _ => n - (intOf i).toNat)
  case atStart => exact ⟨0, rfl, Nat.zero_le _, Below.refl _ _⟩
  case round =>
    obtain ⟨j, rfl, hj, hbl⟩ := hrel
    have hq := H35.out j (by omega) wr
    have w4 : (j : Int) ≤ 200 := by omega
    have hcase : (j < n ∧ cub j < g) ∨ (j = n ∧ ¬ cub j < g) := by
      by_cases e : j < n
      · exact .inl ⟨e, HN.out.2.2 j e⟩
      · obtain rfl : j = n := by omega
        exact .inr ⟨rfl, by have := HN.out.2.1; omega⟩
    obtain ⟨c, hcj⟩ : ∃ c, cub j = c := ⟨_, rfl⟩
    rw [hcj] at hq hcase
    have HBL := Lib.hid hbl
    clear hcj hbl
    rcases hcase with ⟨hlt, hcg⟩ | ⟨rfl, hcg⟩
    · have q2 : ¬ g ≤ c := by omega
      go_wp2_with (go_at_call 35; (with_reducible refine hq.mono ?_); rintro e w1 ⟨rfl, hb1⟩)
      go_roundw
      case rel => exact ⟨j + 1, by go_num, by omega, Below.then HBL.out (Nat.le_refl _) hb1⟩
      case measure => simp [intOf]; omega
    · have q2 : g ≤ c := by omega
      go_wp2_with (go_at_call 35; (with_reducible refine hq.mono ?_); rintro e w1 ⟨rfl, hb1⟩)
      go_ret2
      exact ⟨rfl, Below.then HBL.out (Nat.le_refl _) hb1⟩
set_option maxHeartbeats 1000000 in
set_option maxRecDepth 100000 in
theorem refPercent_high {g : Int} (hg : gainB g = true) (h : ¬ g ≤ 524288) (w : World) : Calls Try.prog 37 #[.int .i64 g] w (IntAns w 0 8) := by
  have h75 := gain_any g w
  rw [hg] at h75
  have H35 := Lib.hid (fun (k : Nat) (hk : k ≤ 200) (x : World) => refCubicN hk x)
  have HHI : Hid (∀ k : Nat, k ≤ 200 → cub k ≤ 524288) := Lib.hid fun k hk => cub_hi (by omega) (by omega)
  clear hg
  go_enter Try.func37, Try.ntmps37
  go_wp2_with (go_at_call 75; (with_reducible refine h75.mono ?_); rintro e w1 ⟨rfl, rfl⟩)
  go_loopw [4] (fun i wr => ∃ j : Nat, i = .int .i64 j ∧ j ≤ 201 ∧ Below w.heap.size w wr) (fun i _ => 201 - (intOf i).toNat)
  case atStart => exact ⟨0, rfl, Nat.zero_le _, Below.refl _ _⟩
  case round =>
    obtain ⟨j, rfl, hj, hbl⟩ := hrel
    by_cases hlt : j ≤ 200
    · have w4 : (j : Int) ≤ 200 := by omega
      have hq := H35.out j hlt wr
      have hh := HHI.out j hlt
      obtain ⟨c, hcj⟩ : ∃ c, cub j = c := ⟨_, rfl⟩
      rw [hcj] at hq hh
      have HBL := Lib.hid hbl
      clear hcj hbl
      have q2 : ¬ g ≤ c := by omega
      go_wp2_with (go_at_call 35; (with_reducible refine hq.mono ?_); rintro e w1 ⟨rfl, hb1⟩)
      go_roundw
      case rel => exact ⟨j + 1, by go_num, by omega, Below.then HBL.out (Nat.le_refl _) hb1⟩
      case measure => simp [intOf]; omega
    · have w4 : ¬ (j : Int) ≤ 200 := by omega
      go_wp2_with fail
      go_ret2
      exact ⟨rfl, hbl⟩
set_option maxRecDepth 100000 in
theorem refPercent_no {g : Int} (hg : gainB g = false) (w : World) : Calls Try.prog 37 #[.int .i64 g] w (IntAns w 0 7) := by
  have h75 := gain_any g w
  rw [hg] at h75
  clear hg
  go_enter Try.func37, Try.ntmps37
  go_wp2_with (go_at_call 75; (with_reducible refine h75.mono ?_); rintro e w1 ⟨rfl, rfl⟩)
  go_ret2
  exact ⟨rfl, Below.refl _ _⟩
theorem percent_both {g : Int} (hI : I64 g) : ∃ a k, (∀ w, Calls Try.prog 36 #[.int .i64 g] w (IntAns w a k)) ∧ ∀ w, Calls Try.prog 37 #[.int .i64 g] w (IntAns w a k) := by
  cases hg : gainB g with
  | false => exact ⟨0, 7, fun w => percent_of 0 7 w (.inr ⟨rfl, fun B x hc => percent1_no hI hg B x hc⟩), refPercent_no hg⟩
  | true =>
    by_cases h : g ≤ 524288
    · obtain ⟨n, hn⟩ := least_ex h
      exact ⟨n, 0, fun w => percent_of n 0 w (.inl ⟨rfl, fun B x hc => percent1_yes hg h hn B x hc⟩), refPercent_yes hg hn⟩
    · exact ⟨0, 8, fun w => percent_of 0 8 w (.inr ⟨rfl, fun B x hc => percent1_high hg h B x hc⟩), refPercent_high hg h⟩

theorem rnd_mul {n : Int} (h : 0 ≤ n) : rnd (65536 * n) 65536 = n := by rw [rnd_nn (by omega)]; omega
theorem rnd_mul' {n : Int} (h : 0 ≤ n) : rnd (n * 65536) 65536 = n := by rw [rnd_nn (by omega)]; omega
theorem chain_one (n : Int) : (chainK [65536, n, 65536] = 7) ∨ (chainK [65536, n, 65536] = 0 ∧ chainR [65536, n, 65536] = n) := by
  cases h : gainB n with
  | false =>
    left
    have : allG [65536, n, 65536] = false := by simp [allG, h]
    simp [chainK, this]
  | true =>
    right
    have h2 : allG [65536, n, 65536] = true := by simp [allG, h]; decide
    obtain ⟨h0, h1⟩ := gainB_t h
    refine ⟨by simp [chainK, h2], ?_⟩
    rw [show chainR [65536, n, 65536] = chn [65536, n, 65536] 3 by simp [chainR, h2]]
    have e1 : chn [65536, n, 65536] 1 = 65536 := by simp only [chn, List.getD_cons_zero]; decide
    have e2 : chn [65536, n, 65536] 2 = n := by
      show bnd (rnd (chn [65536, n, 65536] 1 * n) 65536) 655360 = n
      rw [e1, rnd_mul h0]; unfold bnd; omega
    show bnd (rnd (chn [65536, n, 65536] 2 * 65536) 65536) 655360 = n
    rw [e2, rnd_mul' h0]; unfold bnd; omega

set_option maxRecDepth 100000 in
set_option maxHeartbeats 2000000 in
theorem chainsLaw_any (l : List Int) (v : Value) (n : Int) (hI : I64 n) (w : World) (hv : RowIn w l v) : Calls Try.prog 5 #[v, .int .i64 n] w fun e w' => e = .returned (.bool true) ∧ Below w.heap.size w w' := by
  obtain ⟨a3, k3, p3, q3⟩ := percent_both hI
  have P1 := Lib.hid (chain_any l v w hv)
  have Q1 := Lib.hid (fun (x : World) (hx : Below w.heap.size w x) => refChain_any l v x (hv.mono (Same.of_below hx)))
  have P2 := Lib.hid (cubic_any n)
  have Q2 := Lib.hid (refCubic_any n)
  have P3 := Lib.hid p3
  have Q3 := Lib.hid q3
  have H4 := Lib.hid (fun (x : World) => chain_any [65536, n, 65536] _ _ (row_new3 x 65536 n 65536 (by unfold I64; omega) hI (by unfold I64; omega)))
  have hone := chain_one n
  have HAW := Lib.hid awake_any
  generalize chainR l = r1 at *
  generalize chainK l = k1 at *
  generalize cubR n = r2 at *
  generalize cubK n = k2 at *
  generalize chainR [65536, n, 65536] = r4 at *
  generalize chainK [65536, n, 65536] = k4 at *
  obtain ⟨a, ca, rfl, _, hl, _⟩ := hv
  clear p3 q3 hI
  by_cases hlen : 1000 < (l.length : Int)
  · clear hone
    go_enter Try.func5, Try.ntmps5
    go_wp2_with (go_at_call 9; (with_reducible refine (HAW.out _).mono ?_); rintro e w1 ⟨rfl, b1⟩)
    go_ret
    exact ⟨rfl, b1⟩
  · rcases hone with rfl | ⟨rfl, rfl⟩
    all_goals
      go_enter Try.func5, Try.ntmps5
      go_wp2_with (first
        | (go_at_call 32; (with_reducible refine P1.out.mono ?_); rintro e w1 ⟨rfl, b1⟩; have B1 := Lib.hid b1; clear b1)
        | (go_at_call 33; (with_reducible refine (Q1.out _ B1.out).mono ?_); rintro e w2 ⟨rfl, b2⟩; have B2 := Lib.hid (Below.then B1.out (Nat.le_refl _) b2); clear b2)
        | (go_at_call 34; (with_reducible refine (P2.out _).mono ?_); rintro e w3 ⟨rfl, b3⟩; have B3 := Lib.hid (Below.then B2.out (Nat.le_refl _) b3); clear b3)
        | (go_at_call 35; (with_reducible refine (Q2.out _).mono ?_); rintro e w4 ⟨rfl, b4⟩; have B4 := Lib.hid (Below.then B3.out (Nat.le_refl _) b4); clear b4)
        | (go_at_call 36; (with_reducible refine (P3.out _).mono ?_); rintro e w5 ⟨rfl, b5⟩; have B5 := Lib.hid (Below.then B4.out (Nat.le_refl _) b5); clear b5)
        | (go_at_call 37; (with_reducible refine (Q3.out _).mono ?_); rintro e w6 ⟨rfl, b6⟩; have B6 := Lib.hid (Below.then B5.out (Nat.le_refl _) b6); clear b6)
        | (go_at_call 32; (with_reducible refine (H4.out _).mono ?_); rintro e w7 ⟨rfl, b7⟩; have B7 := Lib.hid (Below.then (B6.out.alloc B6.out.size _) (Nat.le_refl _) b7); clear b7)
        | (go_at_call 9; (with_reducible refine (HAW.out _).mono ?_); rintro e w9 ⟨rfl, b9⟩; have B9 := Lib.hid (Below.then B7.out (Nat.le_refl _) b9); clear b9))
      go_ret
      exact ⟨rfl, B9.out⟩
end Go.Proofs.Ythfagnbecocgdaa
