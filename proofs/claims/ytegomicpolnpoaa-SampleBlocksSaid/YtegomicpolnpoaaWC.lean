/- SampleBlocks' law: what comes back is near. -/
import Derived.Test.YtegomicpolnpoaaWA
import Derived.BigQuiet
namespace Go.Proofs.Ytegomicpolnpoaa
open Go.RowKit Go.Deep Go.Shelf

set_option maxHeartbeats 8000000 in
set_option maxRecDepth 100000 in
theorem blocks_16 {e : Nat} (h1 : 1 ≤ e) (h8 : e ≤ 8) (p : Bool) (m : List (List Int)) (v : Value) (w : World) (hM : MatIn w m v) (hv : validB m = true) (S : ByteArray) (P Q : List Int) (kp : Int) (hB : Both w e p v (S, 0) P Q kp)
    (F : Nat → Nat → Int) (hD : ∀ X, Calls Try.prog 27 #[.int .i64 e, .bool p, .int .i64 m.length, .string S] X (GridAns X m.length (cols m) F))
    (hF : ∀ i j, i < m.length → j < cols m → nearP 256 ((m.getD i []).getD j 0) (F i j)) (q1 : ¬ e ≤ 2) (q2 : e ≤ 4) :
    Calls Try.prog 4 #[.int .i64 e, .bool p, v] w fun e w' => e = .returned (.bool true) ∧ Below w.heap.size w w' := by
  have qd1 : decide ((e : Int) ≤ 2) = false := decide_eq_false (by omega)
  have qd2 : decide ((e : Int) ≤ 4) = true := decide_eq_true (by omega)
  have h19 := light_any m v w hM
  obtain ⟨hr1, hr8, hc4, hc⟩ := validB_parts hv
  have hok := validB_smp hv
  obtain ⟨a, ca, rfl, _, hal, _⟩ := id hM
  have HM := Lib.hid hM
  have HC' := Lib.hid hc
  have HOK := Lib.hid hok
  have HNEAR := Lib.hid hF
  have HA := Lib.hid hB.a
  have HBb := Lib.hid hB.b
  have HC := Lib.hid hB.c
  have HD := Lib.hid hB.d
  have HE := Lib.hid hB.e
  have HF := Lib.hid hB.f
  have HSR := Lib.hid sameRow_self
  have HAW := Lib.hid awake_any
  have HDEC := Lib.hid hD
  unfold StrAns at HA HBb
  unfold RowsTold at HC HD HE HF
  unfold GridAns at HDEC
  dsimp only at HA HBb
  clear hM hB hD hc hok hv hF
  go_enter Try.func4, Try.ntmps4
  go_wp2_with (go_at_call 19; (with_reducible refine h19.mono ?_); rintro e w1 ⟨sb, rfl, rfl⟩; cases sb)
  · go_wp2_with (go_at_call 18; (with_reducible refine (HAW.out _).mono ?_); rintro e wz ⟨rfl, hbz⟩; have HZ := Lib.hid hbz; clear hbz)
    go_ret
    exact ⟨rfl, HZ.out⟩
  · go_wp2_with (first
      | (go_at_call 20; (with_reducible refine (HA.out _ (Below.refl _ _)).mono ?_); rintro e w1 ⟨rfl, hb⟩; have B1 := Lib.hid hb; clear hb)
      | (go_at_call 21; (with_reducible refine (HBb.out _ B1.out).mono ?_); rintro e w2 ⟨rfl, hb⟩; have B2 := Lib.hid (Below.then B1.out (Nat.le_refl _) hb); clear hb)
      | (go_at_call 22; (with_reducible refine (HC.out _ B2.out).mono ?_); rintro e w3 ⟨pu, rfl, hr, hb⟩; have B3 := Lib.hid (Below.then B2.out (Nat.le_refl _) hb); have R3 := Lib.hid hr; clear hb hr)
      | (go_at_call 23; (with_reducible refine (HD.out _ B3.out).mono ?_); rintro e w4 ⟨qu, rfl, hr, hb⟩; have B4 := Lib.hid (Below.then B3.out (Nat.le_refl _) hb); have R4 := Lib.hid (And.intro (R3.out.mono (Same.of_below hb)) hr); clear hb hr)
      | (go_at_call 24; (with_reducible refine (HE.out _ B4.out).mono ?_); rintro e w5 ⟨xu, rfl, hr, hb⟩; have B5 := Lib.hid (Below.then B4.out (Nat.le_refl _) hb); have R5 := Lib.hid (And.intro (R4.out.1.mono (Same.of_below hb)) (And.intro (R4.out.2.mono (Same.of_below hb)) hr)); clear hb hr)
      | (go_at_call 25; (with_reducible refine (HF.out _ B5.out).mono ?_); rintro e w6 ⟨yu, rfl, hr, hb⟩; have B6 := Lib.hid (Below.then B5.out (Nat.le_refl _) hb); have R6 := Lib.hid (And.intro (R5.out.1.mono (Same.of_below hb)) (And.intro (R5.out.2.1.mono (Same.of_below hb)) (And.intro (R5.out.2.2.mono (Same.of_below hb)) hr))); clear hb hr)
      | (go_at_call 26; (with_reducible refine (HSR.out _ _ _ _ R6.out.1 R6.out.2.1).mono ?_); rintro e w7 ⟨rfl, hb⟩; have B7 := Lib.hid (Below.then B6.out (Nat.le_refl _) hb); have R7 := Lib.hid (And.intro (R6.out.2.2.1.mono (Same.of_below hb)) (R6.out.2.2.2.mono (Same.of_below hb))); clear hb)
      | (go_at_call 26; (with_reducible refine (HSR.out _ _ _ _ R7.out.1 R7.out.2).mono ?_); rintro e w8 ⟨rfl, hb⟩; have B8 := Lib.hid (Below.then B7.out (Nat.le_refl _) hb); clear hb)
        | (go_at_call 27; (with_reducible refine (HDEC.out _).mono ?_); rintro e w9 ⟨ru, rfl, ⟨N, hN, rfl, hgr⟩, hb⟩; have B9 := Lib.hid (Below.then B8.out (Nat.le_refl _) hb); have G9 := Lib.hid hgr; clear hb hgr hN))
    have HG := Lib.hid (fun X (h : Below w9.heap.size w9 X) => G9.out.below h)
    clear B1 B2 B3 B4 B5 B6 B7 B8 R3 R4 R5 R6 R7 G9
    go_loopw [21] (fun i wr => ∃ j : Nat, i = .int .i64 j ∧ j ≤ m.length ∧ Below w9.heap.size w9 wr) (fun i _ => m.length - (RowKit.intOf i).toNat)
    case atStart => exact ⟨0, rfl, Nat.zero_le _, Below.refl _ _⟩
    case round =>
      obtain ⟨j, rfl, hj, hbl⟩ := hrel
      by_cases hlt : j < m.length
      · have w4 : (j : Int) < (m.length : Int) := by omega
        have d1 : decide (j < m.length) = true := decide_eq_true hlt
        have d2 : decide ((j : Int) < (m.length : Int)) = true := decide_eq_true w4
        obtain ⟨a', cap', b, off, u, e1, e2, hcu, hru⟩ := row_in (HM.out.mono (Same.of_below (Below.then B9.out (Nat.le_refl _) hbl))) hlt
        simp only [Value.slice.injEq, true_and] at e1
        obtain ⟨rfl, rfl⟩ := e1
        subst e2
        have hck := HC'.out j hlt
        have HOKJ := Lib.hid (fun k hk => HOK.out j k hlt hk)
        have HNJ := Lib.hid (fun k hk => HNEAR.out j k hlt hk)
        have hgr := HG.out _ hbl
        have htop := hgr.top.cell (i := j) hlt
        rw [show topZ N (cols m) m.length j = .slice (some ⟨N + 1 + j, 0, none⟩) (cols m) (cols m) from by unfold topZ; rw [if_pos hlt]] at htop
        have hrowc := fun k (hk : k < cols m) => (hgr.rows j hlt).cell (i := k) hk
        generalize m.getD j [] = rw' at *
        obtain ⟨ar, cr, rfl, hint, hl2, hcap2⟩ := hru
        rw [hck] at hl2 hcap2 hcu
        have HINT := Lib.hid hint
        have HRC := Lib.hid hrowc
        have HB := Lib.hid hbl
        clear hint hrowc hbl hgr
        have hmx : Try.prog.follows .mixedOrders = true := by kernel_rfl
        go_wp2_with fail
        go_quiet (fail)
        go_wp2_with fail
        obtain ⟨wo, hwo⟩ : ∃ wo : World, wo = wr.drewN nq := ⟨_, rfl⟩
        have HB2 : Hid (Below w9.heap.size w9 wo) := Lib.hid (by rw [hwo]; exact below_drewN HB.out _)
        have hcu2 : wo.cell? ⟨b, off + j, none⟩ = some (.slice ar (cols m) cr) := by rw [hwo]; exact hcu
        have htop2 : wo.cell? ⟨N, j, none⟩ = some (.slice (some ⟨N + 1 + j, 0, none⟩) (cols m) (cols m)) := by rw [hwo]; exact htop
        have HINT2 : Hid (IntsIn wo ar rw') := Lib.hid (by rw [hwo]; exact HINT.out)
        have HRC2 : Hid (∀ k, k < cols m → wo.cell? ⟨N + 1 + j, k, none⟩ = some (.int .i64 (F j k))) := Lib.hid (by rw [hwo]; exact HRC.out)
        rw [← hwo]
        clear hwo hcu htop HINT HRC HB
        go_loopw [22] (fun i wx => ∃ k : Nat, i = .int .i64 k ∧ k ≤ cols m ∧ Below wo.heap.size wo wx) (fun i _ => cols m - (RowKit.intOf i).toNat)
        case atStart => exact ⟨0, rfl, Nat.zero_le _, Below.refl _ _⟩
        case round =>
          obtain ⟨k, rfl, hk, hbx⟩ := hrel
          have hcu := (Same.of_below hbx).cell hcu2
          have htop := (Same.of_below hbx).cell htop2
          by_cases hlt2 : k < cols m
          · have w5 : (k : Int) < (cols m : Int) := by omega
            have d3 : decide (k < cols m) = true := decide_eq_true hlt2
            have d4 : decide ((k : Int) < (cols m : Int)) = true := decide_eq_true (by omega)
            obtain ⟨b2, o2, rfl, hc2, hI2⟩ := (HINT2.out.mono (Same.of_below hbx)) k (by rw [hck]; exact hlt2)
            have hrc := (Same.of_below hbx).cell (HRC2.out k hlt2)
            have hnear := HNJ.out k hlt2
            have hoks := HOKJ.out k hlt2
            obtain ⟨sv, hsv⟩ : ∃ sv, rw'.getD k 0 = sv := ⟨_, rfl⟩
            obtain ⟨rv, hrv⟩ : ∃ rv, F j k = rv := ⟨_, rfl⟩
            rw [hsv] at hc2 hnear hoks
            rw [hrv] at hrc hnear
            clear hsv hrv hI2
            have HBX := Lib.hid hbx
            clear hbx hcu2 htop2
            have hrb : -16777214 ≤ rv - sv ∧ rv - sv ≤ 16777214 := by
              have h3 := hnear.2.2
              unfold okS at h3 hoks
              omega
            have w6 : IntKind.i64.wrap (rv - sv) = rv - sv := IntWalk.i64_in _ (by omega)
            have H28 := Lib.hid (fun X => above_big (rv - sv) (by omega) (by omega) X)
            have H28b := Lib.hid (fun X => above_big sv (by unfold okS at hoks; omega) (by unfold okS at hoks; omega) X)
            obtain ⟨Fr, hFr⟩ : ∃ Fr, max (rv - sv) (-(rv - sv)) = Fr := ⟨_, rfl⟩
            obtain ⟨Ab, hAb⟩ : ∃ Ab, max sv (-sv) = Ab := ⟨_, rfl⟩
            have hFr0 : 0 ≤ Fr ∧ Fr ≤ 16777214 := by omega
            have hAb0 : 0 ≤ Ab ∧ Ab ≤ 8388607 := by unfold okS at hoks; omega
            have hno : Fr ≤ 128 ∨ ¬ Ab < 8388607 - 256 := by
              have h2 := hnear.2.1
              rw [hAb, hFr] at h2
              by_cases q : Ab < 8388607 - 256
              · exact .inl (h2 q)
              · exact .inr q
            rw [hFr] at H28
            rw [hAb] at H28b
            clear hnear hoks hFr hAb
            go_wp2_with fail
            refine region_T (S := fun wx => wx = wr.drew) [] (by kernel_rfl) rfl (fun _ => ?_)
            refine anyT_take (i := 0) (v := ?_) rfl (by kernel_rfl) (by kernel_rfl) (by kernel_rfl) (by kernel_rfl) (fun _ _ _ h => h) (Or.inl ⟨by rfl, ?_⟩) (rfl) ?_
            rotate_left
            focus ((intro wq hSw; subst hSw; go_simp); try with_reducible rfl)
            try simp only [Act.put, List.getElem_toArray, List.getElem_cons_succ, List.getElem_cons_zero, List.setIfInBounds_toArray, List.set_cons_zero, List.set_cons_succ]
            refine anyT_take (i := 1) (v := ?_) rfl (by kernel_rfl) (by kernel_rfl) (by kernel_rfl) (by kernel_rfl) (fun _ _ _ h => h) (Or.inl ⟨by rfl, ?_⟩) (rfl) ?_
            rotate_left
            focus ((intro wq hSw; subst hSw; go_simp); try with_reducible rfl)
            try simp only [Act.put, List.getElem_toArray, List.getElem_cons_succ, List.getElem_cons_zero, List.setIfInBounds_toArray, List.set_cons_zero, List.set_cons_succ]
            refine anyT_take (i := 2) (v := ?_) rfl (by kernel_rfl) (by kernel_rfl) (by kernel_rfl) (by kernel_rfl) (fun _ _ _ h => h) (Or.inl ⟨by rfl, ?_⟩) (rfl) ?_
            rotate_left
            focus ((intro wq hSw; subst hSw; go_simp); try with_reducible rfl)
            try simp only [Act.put, List.getElem_toArray, List.getElem_cons_succ, List.getElem_cons_zero, List.setIfInBounds_toArray, List.set_cons_zero, List.set_cons_succ]
            refine anyT_take (i := 3) (v := ?_) rfl (by kernel_rfl) (by kernel_rfl) (by kernel_rfl) (by kernel_rfl) (fun _ _ _ h => h) (Or.inl ⟨by rfl, ?_⟩) (rfl) ?_
            rotate_left
            focus ((intro wq hSw; subst hSw; go_simp); try with_reducible rfl)
            try simp only [Act.put, List.getElem_toArray, List.getElem_cons_succ, List.getElem_cons_zero, List.setIfInBounds_toArray, List.set_cons_zero, List.set_cons_succ]
            refine anyT_take (i := 4) (v := ?_) rfl (by kernel_rfl) (by kernel_rfl) (by kernel_rfl) (by kernel_rfl) (fun _ _ _ h => h) (Or.inl ⟨by rfl, ?_⟩) (rfl) ?_
            rotate_left
            focus ((intro wq hSw; subst hSw; go_simp); try with_reducible rfl)
            try simp only [Act.put, List.getElem_toArray, List.getElem_cons_succ, List.getElem_cons_zero, List.setIfInBounds_toArray, List.set_cons_zero, List.set_cons_succ]
            refine anyT_take (i := 5) (v := ?_) rfl (by kernel_rfl) (by kernel_rfl) (by kernel_rfl) (by kernel_rfl) (fun _ _ _ h => h) (Or.inl ⟨by rfl, ?_⟩) (rfl) ?_
            rotate_left
            focus ((intro wq hSw; subst hSw; go_simp); try with_reducible rfl)
            try simp only [Act.put, List.getElem_toArray, List.getElem_cons_succ, List.getElem_cons_zero, List.setIfInBounds_toArray, List.set_cons_zero, List.set_cons_succ]
            refine anyT_take (i := 6) (v := ?_) rfl (by kernel_rfl) (by kernel_rfl) (by kernel_rfl) (by kernel_rfl) (fun _ _ _ h => h) (Or.inl ⟨by rfl, ?_⟩) (rfl) ?_
            rotate_left
            focus ((intro wq hSw; subst hSw; go_simp); try with_reducible rfl)
            try simp only [Act.put, List.getElem_toArray, List.getElem_cons_succ, List.getElem_cons_zero, List.setIfInBounds_toArray, List.set_cons_zero, List.set_cons_succ]
            refine anyT_take (i := 7) (v := ?_) rfl (by kernel_rfl) (by kernel_rfl) (by kernel_rfl) (by kernel_rfl) (fun _ _ _ h => h) (Or.inl ⟨by rfl, ?_⟩) (rfl) ?_
            rotate_left
            focus ((intro wq hSw; subst hSw; go_simp); try with_reducible rfl)
            try simp only [Act.put, List.getElem_toArray, List.getElem_cons_succ, List.getElem_cons_zero, List.setIfInBounds_toArray, List.set_cons_zero, List.set_cons_succ]
            refine anyT_take (i := 8) (v := ?_) rfl (by kernel_rfl) (by kernel_rfl) (by kernel_rfl) (by kernel_rfl) (fun _ _ _ h => h) (Or.inl ⟨by rfl, ?_⟩) (rfl) ?_
            rotate_left
            focus ((intro wq hSw; subst hSw; go_simp); try with_reducible rfl)
            try simp only [Act.put, List.getElem_toArray, List.getElem_cons_succ, List.getElem_cons_zero, List.setIfInBounds_toArray, List.set_cons_zero, List.set_cons_succ]
            refine anyT_take (i := 9) (v := ?_) rfl (by kernel_rfl) (by kernel_rfl) (by kernel_rfl) (by kernel_rfl) (fun _ _ _ h => h) (Or.inl ⟨by rfl, ?_⟩) (rfl) ?_
            rotate_left
            focus ((intro wq hSw; subst hSw; go_simp); try with_reducible rfl)
            try simp only [Act.put, List.getElem_toArray, List.getElem_cons_succ, List.getElem_cons_zero, List.setIfInBounds_toArray, List.set_cons_zero, List.set_cons_succ]
            refine anyT_take (i := 10) (v := ?_) rfl (by kernel_rfl) (by kernel_rfl) (by kernel_rfl) (by kernel_rfl) (fun _ _ _ h => h) (Or.inl ⟨by rfl, ?_⟩) (rfl) ?_
            rotate_left
            focus ((intro wq hSw; subst hSw; go_simp); try with_reducible rfl)
            try simp only [Act.put, List.getElem_toArray, List.getElem_cons_succ, List.getElem_cons_zero, List.setIfInBounds_toArray, List.set_cons_zero, List.set_cons_succ]
            refine anyT_take (i := 11) (v := ?_) rfl (by kernel_rfl) (by kernel_rfl) (by kernel_rfl) (by kernel_rfl) (fun _ _ _ h => h) (Or.inl ⟨by rfl, ?_⟩) (rfl) ?_
            rotate_left
            focus ((intro wq hSw; subst hSw; go_simp); try with_reducible rfl)
            try simp only [Act.put, List.getElem_toArray, List.getElem_cons_succ, List.getElem_cons_zero, List.setIfInBounds_toArray, List.set_cons_zero, List.set_cons_succ]
            refine anyT_take (i := 12) (v := ?_) rfl (by kernel_rfl) (by kernel_rfl) (by kernel_rfl) (by kernel_rfl) (fun _ _ _ h => h) (Or.inl ⟨by rfl, ?_⟩) (rfl) ?_
            rotate_left
            focus ((intro wq hSw; subst hSw; go_simp); try with_reducible rfl)
            try simp only [Act.put, List.getElem_toArray, List.getElem_cons_succ, List.getElem_cons_zero, List.setIfInBounds_toArray, List.set_cons_zero, List.set_cons_succ]
            refine anyT_take (i := 13) (v := ?_) rfl (by kernel_rfl) (by kernel_rfl) (by kernel_rfl) (by kernel_rfl) (fun _ _ _ h => h) (Or.inl ⟨by rfl, ?_⟩) (rfl) ?_
            rotate_left
            focus ((intro wq hSw; subst hSw; go_simp); try with_reducible rfl)
            try simp only [Act.put, List.getElem_toArray, List.getElem_cons_succ, List.getElem_cons_zero, List.setIfInBounds_toArray, List.set_cons_zero, List.set_cons_succ]
            refine anyT_take (i := 14) (v := ?_) rfl (by kernel_rfl) (by kernel_rfl) (by kernel_rfl) (by kernel_rfl) (fun _ _ _ h => h) (Or.inl ⟨by rfl, ?_⟩) (rfl) ?_
            rotate_left
            focus ((intro wq hSw; subst hSw; go_simp); try with_reducible rfl)
            try simp only [Act.put, List.getElem_toArray, List.getElem_cons_succ, List.getElem_cons_zero, List.setIfInBounds_toArray, List.set_cons_zero, List.set_cons_succ]
            refine anyT_one (i := 15) (by kernel_rfl) rfl (fun K hK => ?_)
            go_simp
            refine (H28.out _).mono ?_
            rintro y wk ⟨rfl, rfl⟩
            go_simp
            refine hK.out _ _ (fun _ => rfl) ?_
            clear hK K
            try simp only [Act.put, List.getElem_toArray, List.getElem_cons_succ, List.getElem_cons_zero, List.setIfInBounds_toArray, List.set_cons_zero, List.set_cons_succ]
            refine anyT_take (i := 16) (v := ?_) rfl (by kernel_rfl) (by kernel_rfl) (by kernel_rfl) (by kernel_rfl) (fun _ _ _ h => h) (Or.inl ⟨by rfl, ?_⟩) (rfl) ?_
            rotate_left
            focus ((intro wq hSw; subst hSw; go_simp); try with_reducible rfl)
            try simp only [Act.put, List.getElem_toArray, List.getElem_cons_succ, List.getElem_cons_zero, List.setIfInBounds_toArray, List.set_cons_zero, List.set_cons_succ]
            refine anyT_done (by kernel_rfl) ?_ _
            by_cases g2 : 128 < Fr
            · have g3 : ¬ Ab < 8388607 - 256 := by omega
              go_wp2_with (go_at_call 28; (with_reducible refine (H28b.out _).mono ?_); rintro y wk ⟨rfl, rfl⟩)
              go_roundw
              case rel => exact ⟨k + 1, by go_num, by omega, HBX.out.drew⟩
              case measure => simp [RowKit.intOf]; omega
            · go_wp2_with fail
              go_roundw
              case rel => exact ⟨k + 1, by go_num, by omega, HBX.out.drew⟩
              case measure => simp [RowKit.intOf]; omega
          · obtain rfl : k = cols m := by omega
            have HBX := Lib.hid hbx
            clear hbx
            go_wp2_with fail
            go_roundw
            case rel => exact ⟨j + 1, by go_num, by omega, Below.then HB2.out (Nat.le_refl _) HBX.out⟩
            case measure => simp [RowKit.intOf]; omega
      · obtain rfl : j = m.length := by omega
        have HB := Lib.hid hbl
        clear hbl
        go_wp2_with (go_at_call 18; (with_reducible refine (HAW.out _).mono ?_); rintro e wz ⟨rfl, hbz⟩; have HZ := Lib.hid hbz; clear hbz)
        go_ret
        exact ⟨rfl, Below.then (Below.then B9.out (Nat.le_refl _) HB.out) (Nat.le_refl _) HZ.out⟩
end Go.Proofs.Ytegomicpolnpoaa
