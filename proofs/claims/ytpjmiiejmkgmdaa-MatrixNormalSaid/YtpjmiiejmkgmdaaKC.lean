/- MatrixNormal: the law. -/
import Derived.Test.YtpjmiiejmkgmdaaKA
import Derived.Test.YtpjmiiejmkgmdaaKB
namespace Go.Proofs.Ytpjmiiejmkgmdaa
open Go.RowKit Go.Deep

set_option maxHeartbeats 2000000 in
set_option maxRecDepth 100000 in
theorem normalLaw_dark (m b : List (List Int)) (va vb : Value) (w : World) (ha : MatIn w m va) (hb : MatIn w b vb) (hd : (smallN 12 m && smallN 300 b && validM m) = false) :
    Calls Try.prog 7 #[va, vb] w fun e w' => e = .returned (.bool true) ∧ Below w.heap.size w w' := by
  have h26 := small_b m va w ha
  have h27 := light_b b vb w hb
  have h34 := refValidMatrix_any m va w ha
  cases h1 : smallN 12 m with
  | false =>
    rw [h1] at h26
    clear hd h1 h27 h34 ha hb
    go_enter Try.func7, Try.ntmps7
    go_wp2_with (first | (go_at_call 26; (with_reducible refine h26.mono ?_); rintro e w1 ⟨rfl, rfl⟩) | (go_at_call 8; (with_reducible refine (awake_any _).mono ?_); rintro e w2 ⟨rfl, b2⟩))
    go_ret
    exact ⟨rfl, b2⟩
  | true =>
    rw [h1] at h26
    cases h2 : smallN 300 b with
    | false =>
      rw [h2] at h27
      clear hd h1 h2 h34 ha hb
      go_enter Try.func7, Try.ntmps7
      go_wp2_with (first | (go_at_call 26; (with_reducible refine h26.mono ?_); rintro e w1 ⟨rfl, rfl⟩) | (go_at_call 27; (with_reducible refine h27.mono ?_); rintro e w1 ⟨rfl, rfl⟩) | (go_at_call 8; (with_reducible refine (awake_any _).mono ?_); rintro e w2 ⟨rfl, b2⟩))
      go_ret
      exact ⟨rfl, b2⟩
    | true =>
      rw [h2] at h27
      have h3 : validM m = false := by simpa [h1, h2] using hd
      rw [h3] at h34
      clear hd h1 h2 h3 ha hb
      go_enter Try.func7, Try.ntmps7
      go_wp2_with (first | (go_at_call 26; (with_reducible refine h26.mono ?_); rintro e w1 ⟨rfl, rfl⟩) | (go_at_call 27; (with_reducible refine h27.mono ?_); rintro e w1 ⟨rfl, rfl⟩) | (go_at_call 34; (with_reducible refine h34.mono ?_); rintro e w1 ⟨rfl, b1⟩) | (go_at_call 8; (with_reducible refine (awake_any _).mono ?_); rintro e w2 ⟨rfl, b2⟩))
      go_ret
      exact ⟨rfl, Below.then b1 (Nat.le_refl _) b2⟩

set_option maxHeartbeats 1000000 in
set_option maxRecDepth 100000 in
theorem normalLaw_light (m b : List (List Int)) (va vb : Value) (w : World) (ha : MatIn w m va) (hb : MatIn w b vb) (hs1 : smallN 12 m = true) (hs2 : smallN 300 b = true) (hvm : validM m = true) :
    Calls Try.prog 7 #[va, vb] w fun e w' => e = .returned (.bool true) ∧ Below w.heap.size w w' := by
  have h26 := small_b m va w ha
  have h27 := light_b b vb w hb
  have h34 := refValidMatrix_any m va w ha
  rw [hs1] at h26
  rw [hs2] at h27
  rw [hvm] at h34
  obtain ⟨pm1, pm2, pm3, pm4⟩ := validM_parts hvm
  have HA := Lib.hid (fun (x : World) (hx : Below w.heap.size w x) => ha.mono (Same.of_below hx))
  have HB := Lib.hid (fun (x : World) (hx : Below w.heap.size w x) => hb.mono (Same.of_below hx))
  have H28 := Lib.hid (fun (x : World) (hx : Below w.heap.size w x) => normalM_yes m va x (ha.mono (Same.of_below hx)) hvm)
  have hlenN : (normalM m).length = m.length := by simp [normalM]
  obtain ⟨a, ca, rfl, hin, _, _⟩ := id ha
  clear hs1 hs2 ha hb
  have HVM := Lib.hid hvm
  clear hvm
  go_enter Try.func7, Try.ntmps7
  go_wp2_with (first
    | (go_at_call 26; (with_reducible refine h26.mono ?_); rintro e w1 ⟨rfl, rfl⟩)
    | (go_at_call 27; (with_reducible refine h27.mono ?_); rintro e w1 ⟨rfl, rfl⟩)
    | (go_at_call 34; (with_reducible refine h34.mono ?_); rintro e w1 ⟨rfl, b1⟩; have B1 := Lib.hid b1; clear b1)
    | (go_at_call 28; (with_reducible refine (H28.out _ B1.out).mono ?_); rintro e w2 ⟨vn, rfl, hn, b2⟩; obtain ⟨an, cn, rfl, hnin, _, _⟩ := hn; rw [hlenN]; have HN := Lib.hid hnin; have B2 := Lib.hid (Below.then B1.out (Nat.le_refl _) b2); clear hnin b2))
  go_loopw [7] (fun i wr => ∃ j : Nat, i = .int .i64 j ∧ j ≤ m.length ∧ Below w2.heap.size w2 wr) (fun i _ => m.length - (intOf i).toNat)
  case atStart => exact ⟨0, rfl, Nat.zero_le _, Below.refl _ _⟩
  case round =>
    obtain ⟨j, rfl, hj, hbl⟩ := hrel
    by_cases hlt : j < m.length
    · obtain ⟨bn, on, un, rfl, hcn, hun⟩ := (RowsIn.mono (Same.of_below hbl) HN.out) j (by omega)
      obtain ⟨bm, om, um, rfl, hcm, hum⟩ := (RowsIn.mono (Same.of_below (Below.then B2.out (Nat.le_refl _) hbl)) hin) j hlt
      have e1 : (normalM m).getD j [] = normalR (m.getD j []) := by simp [normalM, List.getD, hlt]
      rw [e1] at hun
      have hp8 := pm3 j hlt
      have hpb := pm4 j
      obtain ⟨p, hp⟩ : ∃ p, m.getD j [] = p := ⟨_, rfl⟩
      rw [hp] at hun hum hp8 hpb
      clear e1 hp
      have hpl : p.length ≤ 8 := by omega
      have hnb : ∀ k, ((normalR p).getD k 0).natAbs ≤ 655360 := fun k => by
        by_cases hk : k < p.length
        · rw [normalR_at hk]
          have h1 := hpb k
          unfold scaled
          split
          · exact h1
          · rename_i hs
            have h2 := scaled_mul hs (p.getD k 0)
            have h3 : scaled p (p.getD k 0) = (p.getD k 0 * 65536).tdiv (sumA p) := by unfold scaled; rw [if_neg hs]
            rw [h3, absI_nat, absI_nat] at h2
            have h4 : (65537 : Int) * (((p.getD k 0 * 65536).tdiv (sumA p)).natAbs : Int) ≤ sumA p * (((p.getD k 0 * 65536).tdiv (sumA p)).natAbs : Int) := Int.mul_le_mul_of_nonneg_right (by omega) (by omega)
            omega
        · rw [getD_out (by rw [normalR_len]; omega)]; simp
      have hsn : ∀ n, Calls Try.prog 39 #[un] (wr.drewN n) fun e w' => e = .returned (.int .i64 (sumA (normalR p))) ∧ w' = wr.drewN n := fun n =>
        (sum_any _ _ (wr.drewN n) (hun.mono (Same.drewN wr n)) (by rw [normalR_len]; exact hpl) hnb).mono fun e w' ⟨h1, h2⟩ => ⟨h1, h2.symm⟩
      have hsm : ∀ n, Calls Try.prog 39 #[um] (wr.drewN n) fun e w' => e = .returned (.int .i64 (sumA p)) ∧ w' = wr.drewN n := fun n =>
        (sum_any _ _ (wr.drewN n) (hum.mono (Same.drewN wr n)) hpl hpb).mono fun e w' ⟨h1, h2⟩ => ⟨h1, h2.symm⟩
      have hsame : ∀ n, Calls Try.prog 24 #[un, um] (wr.drewN n) fun e w' => e = .returned (.bool (decide (normalR p = p))) ∧ ∃ k, w' = (wr.drewN n).drewN k := fun n =>
        sameRow_drew _ _ _ _ (wr.drewN n) (hun.mono (Same.drewN wr n)) (hum.mono (Same.drewN wr n))
      have hsum := normalR_sum p
      have hid := fun h => normalR_id (l := p) h
      obtain ⟨au, cu, rfl, _, _, _⟩ := hun
      obtain ⟨am, cm, rfl, _, _, _⟩ := hum
      have w4 : (j : Int) < (m.length : Int) := by omega
      obtain ⟨sn, hsn'⟩ : ∃ x, sumA (normalR p) = x := ⟨_, rfl⟩
      obtain ⟨sm, hsm'⟩ : ∃ x, sumA p = x := ⟨_, rfl⟩
      rw [hsn'] at hsn hsum
      rw [hsm'] at hsm hid
      have t1 : ¬ 65536 < sn := by omega
      have t1' : decide (65536 < sn) = false := by simpa using hsum
      have HSN := Lib.hid hsn
      have HSM := Lib.hid hsm
      have HSA := Lib.hid hsame
      have HID := Lib.hid hid
      have HBL := Lib.hid hbl
      clear hsn' hsm' hsn hsm hsame hid hnb hpb hp8 hsum hbl
      by_cases h2 : sm ≤ 65536
      · have t2' : decide (sm ≤ 65536) = true := by simpa using h2
        have hsx : decide (normalR p = p) = true := by simpa using HID.out h2
        rw [hsx] at HSA
        clear hsx
        go_wp2_with fail
        go_quiet ((first | (go_at_call 39; with_reducible exact Calls.quiet_of_same (HSN.out _)) | (go_at_call 39; with_reducible exact Calls.quiet_of_same (HSM.out _)) | (go_at_call 24; with_reducible exact Calls.quiet_of (HSA.out _))))
        go_wp2_with fail
        go_roundw
        case rel => exact ⟨j + 1, by go_num, by omega, below_drewN HBL.out _⟩
        case measure => simp [intOf]; omega
      · have t2' : decide (sm ≤ 65536) = false := by simpa using h2
        go_wp2_with fail
        go_quiet ((first | (go_at_call 39; with_reducible exact Calls.quiet_of_same (HSN.out _)) | (go_at_call 39; with_reducible exact Calls.quiet_of_same (HSM.out _)) | (go_at_call 24; with_reducible exact Calls.quiet_of (HSA.out _))))
        go_wp2_with fail
        go_roundw
        case rel => exact ⟨j + 1, by go_num, by omega, below_drewN HBL.out _⟩
        case measure => simp [intOf]; omega
    · have w4 : ¬ (j : Int) < (m.length : Int) := by omega
      have b3 := Below.then B2.out (Nat.le_refl _) hbl
      have h31 := apply_any m b _ vb wr (HA.out wr b3) (HB.out wr b3)
      have B3 := Lib.hid b3
      clear b3 hbl pm1 pm2 pm3 pm4 hlenN
      by_cases hE : applyE m b = 0
      · obtain ⟨_, hvb, _⟩ := applyE_zero hE
        obtain ⟨pb1, pb2, pb3, pb4⟩ := validB_parts hvb
        have HT := Lib.hid (fun (x : World) (hx : Below w.heap.size w x) => turned_any b vb x (HB.out x hx) pb1.2 (fun j hj => by rw [pb3 j hj]; exact pb2) pb4)
        have HX := Lib.hid (fun (v : Value) (x : World) (hx : MatIn x (applyM m b) v) => turned_any (applyM m b) v x hx (by rw [show (applyM m b).length = m.length by simp [applyM, tabM_len]]; have := (validM_parts HVM.out).1.2; omega) (fun j _ => Nat.le_trans (applyM_bd m b j 0).1 pb2) (fun j f => (applyM_bd m b j f).2))
        have hE2 : applyE m (negM b) = 0 := by rw [applyE_neg]; exact hE
        have hR1 : applyR m b = applyM m b := by simp [applyR, hE]
        have hR2 : applyR m (negM b) = negM (applyM m b) := by simp [applyR, hE2, applyM_neg]
        rw [hR1, hE] at h31
        have H2 := Lib.hid (fun (va vn : Value) (x : World) (h1 : MatIn x m va) (h2 : MatIn x (negM b) vn) => apply_any m (negM b) va vn x h1 h2)
        rw [hR2, hE2] at H2
        clear hE hvb pb1 pb2 pb3 pb4 hE2 hR1 hR2
        go_wp2_with (first
          | (go_at_call 31; (with_reducible refine h31.mono ?_); rintro e w4 ⟨x4, rfl, m4, b4⟩; have M4 := Lib.hid m4; have B4 := Lib.hid (Below.then B3.out (Nat.le_refl _) b4); clear m4 b4)
          | (go_at_call 40; (with_reducible refine (HT.out _ B4.out).mono ?_); rintro e w5 ⟨x5, rfl, m5, b5⟩; have M5 := Lib.hid m5; have M4b := Lib.hid (M4.out.mono (Same.of_below b5)); have B5 := Lib.hid (Below.then B4.out (Nat.le_refl _) b5); clear m5 b5)
          | (go_at_call 31; (with_reducible refine (H2.out _ _ _ (HA.out _ B5.out) M5.out).mono ?_); rintro e w6 ⟨x6, rfl, m6, b6⟩; have M6 := Lib.hid m6; have M4c := Lib.hid (M4b.out.mono (Same.of_below b6)); have B6 := Lib.hid (Below.then B5.out (Nat.le_refl _) b6); clear m6 b6)
          | (go_at_call 40; (with_reducible refine (HX.out _ _ M4c.out).mono ?_); rintro e w7 ⟨x7, rfl, m7, b7⟩; have h25 := sameBlock_any _ _ x7 x6 w7 m7 (M6.out.mono (Same.of_below b7)); rw [decide_eq_true rfl] at h25; have B7 := Lib.hid (Below.then B6.out (Nat.le_refl _) b7); clear m7 b7)
          | (go_at_call 25; (with_reducible refine h25.mono ?_); rintro e w8 ⟨rfl, b8⟩; have B8 := Lib.hid (Below.then B7.out (Nat.le_refl _) b8); clear b8)
          | (go_at_call 8; (with_reducible refine (awake_any _).mono ?_); rintro e w9 ⟨rfl, b9⟩))
        go_ret
        exact ⟨rfl, Below.then B8.out (Nat.le_refl _) b9⟩
      · have e1 : (applyE m b != 0) = true := by simpa using hE
        obtain ⟨E, hEE⟩ : ∃ E, applyE m b = E := ⟨_, rfl⟩
        rw [hEE] at h31 e1
        clear hE hEE
        go_wp2_with (first
          | (go_at_call 31; (with_reducible refine h31.mono ?_); rintro e w4 ⟨x4, rfl, m4, b4⟩; have B4 := Lib.hid (Below.then B3.out (Nat.le_refl _) b4); clear m4 b4)
          | (go_at_call 8; (with_reducible refine (awake_any _).mono ?_); rintro e w9 ⟨rfl, b9⟩))
        go_ret
        exact ⟨rfl, Below.then B4.out (Nat.le_refl _) b9⟩

theorem normalLaw_any (m b : List (List Int)) (va vb : Value) (w : World) (ha : MatIn w m va) (hb : MatIn w b vb) :
    Calls Try.prog 7 #[va, vb] w fun e w' => e = .returned (.bool true) ∧ Below w.heap.size w w' := by
  cases h1 : smallN 12 m && smallN 300 b && validM m with
  | false => exact normalLaw_dark m b va vb w ha hb h1
  | true =>
    simp only [Bool.and_eq_true] at h1
    exact normalLaw_light m b va vb w ha hb h1.1.1 h1.1.2 h1.2
end Go.Proofs.Ytpjmiiejmkgmdaa
