/- ValidChoice of the document's answers at steps. -/
import Derived.Test.YtlpdeadmiinhoaaGreatDoorFB
namespace Go.Proofs.YtlpdeadmiinhoaaGreatDoor
open Go.RowKit

set_option maxRecDepth 100000 in
set_option maxHeartbeats 3200000 in
theorem refValid_four (kd d : Int) (l : List Int) (v : Value) (w : World) (hc : ChIn w ⟨kd, d, l⟩ v) (hk : kd = 4) :
    Calls Tryz.prog 15 #[v] w fun e w' => e = .returned (.bool (validC ⟨kd, d, l⟩)) ∧ Below w.heap.size w w' := by
  have hc0 := hc
  obtain ⟨a, cap, rfl, hk1, hd1, hl, hin, hcap⟩ := hc
  obtain rfl : kd = 4 := hk
  simp only at hl hin hcap ⊢
  obtain ⟨X, hX⟩ : ∃ X : Obj, X = .cells #[.int .i64 4, .int .i64 d, .slice a l.length cap] 24 := ⟨_, rfl⟩
  have HH := Lib.hid fun (wr : World) (hi : In1 w X wr) (h : HasOk ⟨4, d, l⟩) => calls_in1 hi (has1_any ⟨4, d, l⟩ _ d wr (hc0.mono hi.same) h)
  have HIn := Lib.hid fun (wr : World) (hi : In1 w X wr) => hin.mono hi.same
  have HC := Lib.hid fun (wr : World) (h : In1 w X wr) => In1.cells3 (hX ▸ h)
  have HF : In1 w X (w.alloc (.cells #[.int .i64 4, .int .i64 d, .slice a l.length cap] 24)) := hX ▸ In1.first w X
  clear hin hcap hX hc0
  obtain ⟨V, hV⟩ : ∃ V, validC ⟨4, d, l⟩ = V := ⟨_, rfl⟩
  have HV := Lib.hid hV
  rw [hV]
  clear hV hk1 hd1
  go_enter Tryz.func15, Tryz.ntmps15
  go_wp2_with fail
  go_loopw [3] (fun i wr => ∃ (k : Nat), i = .int .i64 k ∧ k ≤ l.length ∧ (∀ j, j < k → bAt l j = true) ∧ In1 w X wr) (fun i _ => l.length - (intOf i).toNat)
  case atStart => exact ⟨0, rfl, Nat.zero_le _, fun _ h => absurd h (Nat.not_lt_zero _), HF⟩
  case round =>
    obtain ⟨k, rfl, hkl, hok, hi⟩ := hrel
    have Hok := Lib.hid hok
    clear hok HF
    obtain ⟨p0, p1, p2⟩ := HC.out wr hi
    by_cases hlt : k < l.length
    · obtain ⟨b, off, rfl, hcell, _⟩ := HIn.out wr hi k hlt
      obtain ⟨x, hx⟩ : ∃ x, l.getD k 0 = x := ⟨_, rfl⟩
      rw [hx] at hcell
      have Hx := Lib.hid hx
      clear hx
      by_cases h1 : x < 0
      · go_wp2_with fail
        go_ret
        exact ⟨ret_bool ((valid_nob (boundB_no hlt (bAt_no Hx (Or.inl h1)))).symm.trans HV.out), hi.out⟩
      by_cases h2 : 1000000000 < x
      · go_wp2_with fail
        go_ret
        exact ⟨ret_bool ((valid_nob (boundB_no hlt (bAt_no Hx (Or.inr h2)))).symm.trans HV.out), hi.out⟩
      · have Hok1 : Hid (∀ j, j < k + 1 → bAt l j = true) := Lib.hid (ok_snoc Hok (bAt_mk Hx h1 h2))
        clear Hok
        go_wp2_with fail
        go_loopw [4] (fun i wr2 => i = .int .i64 0 ∧ wr2 = wr) (fun _ _ => 0)
        case atStart => exact ⟨rfl, rfl⟩
        case round =>
          obtain ⟨rfl, rfl⟩ := hrel
          go_wp2_with fail
          all_goals
            go_roundw
            case rel => exact ⟨k + 1, by go_num, by omega, Hok1.out, hi⟩
            case measure => simp [intOf]; omega
    · have Hbd : Hid (boundB l = true) := Lib.hid (boundB_yes fun j hj => Hok.out j (by omega))
      clear Hok
      obtain ⟨B, hB⟩ : ∃ B, (Ch.mk 4 d l).has d = B := ⟨_, rfl⟩
      rw [hB] at HH
      have HBB := Lib.hid hB
      clear hB
      by_cases n2 : l.length = 3
      · have g1 : ((l.length : Int) == 3) = true := by simp [n2]
        obtain ⟨b, off, rfl, c0, _⟩ := HIn.out wr hi 0 (by omega)
        obtain ⟨b', off', hbo, c1, _⟩ := HIn.out wr hi 1 (by omega)
        cases hbo
        simp only [Nat.add_zero] at c0
        obtain ⟨x, hx⟩ : ∃ x, l.getD 0 0 = x := ⟨_, rfl⟩
        obtain ⟨y, hy⟩ : ∃ y, l.getD 1 0 = y := ⟨_, rfl⟩
        have Hx := Lib.hid hx
        have Hy := Lib.hid hy
        rw [hx] at c0
        rw [hy] at c1
        clear hx hy
        have m0 : 0 < l.length := by omega
        have m1 : (0 : Int) < (l.length : Int) := by omega
        have m2 : (1 : Int) < (l.length : Int) := by omega
        obtain ⟨b', off', hbo, c2, _⟩ := HIn.out wr hi 2 (by omega)
        cases hbo
        obtain ⟨z, hz⟩ : ∃ z, l.getD 2 0 = z := ⟨_, rfl⟩
        have Hz := Lib.hid hz
        rw [hz] at c2
        clear hz
        have m3 : (2 : Int) < (l.length : Int) := by omega
        have Hn := Lib.hid n2
        clear n2
        by_cases hle : x ≤ y
        · have dle : decide (x ≤ y) = true := by simpa using hle
          by_cases hz1 : 1 ≤ z
          · have dz1 : decide (1 ≤ z) = true := by simpa using hz1
            by_cases hz2 : z ≤ 1000
            · have dz2 : decide (z ≤ 1000) = true := by simpa using hz2
              have HS : Hid (shapeB ⟨4, d, l⟩ = true) := Lib.hid (by unfold shapeB Ch.sp; rw [if_neg (by simp), if_neg (by simp), if_neg (by simp), if_pos rfl]; simp only [if_true, Hx.out, Hy.out, Hz.out, Hn.out, Bool.and_eq_true, decide_eq_true_eq, beq_iff_eq]; exact ⟨⟨⟨trivial, hle⟩, hz1⟩, hz2⟩)
              go_upto_region 21 with fail
              go_quiet (fail)
              go_wp2_with (go_at_call 20; (with_reducible refine (HH.out _ (hi.drewN _) (hasOk_shape Hbd.out HS.out)).mono ?_); rintro e w1 ⟨rfl, hi1⟩)
              go_ret
              exact ⟨ret_bool (HBB.out.symm.trans ((valid_of Hbd.out HS.out).symm.trans HV.out)), hi1.out⟩
            · have dz2 : decide (z ≤ 1000) = false := by simpa using hz2
              have HS : Hid (V = false) := Lib.hid (HV.out.symm.trans (valid_no (by unfold shapeB Ch.sp; rw [if_neg (by simp), if_neg (by simp), if_neg (by simp), if_pos rfl]; simp only [if_true, Hx.out, Hy.out, Hz.out, Bool.and_eq_false_iff, decide_eq_false_iff_not]; exact Or.inr hz2)))
              go_upto_region 21 with fail
              go_quiet (fail)
              go_wp2_with fail
              go_ret
              exact ⟨ret_bool HS.out.symm, (hi.drewN _).out⟩
          · have dz1 : decide (1 ≤ z) = false := by simpa using hz1
            have HS : Hid (V = false) := Lib.hid (HV.out.symm.trans (valid_no (by unfold shapeB Ch.sp; rw [if_neg (by simp), if_neg (by simp), if_neg (by simp), if_pos rfl]; simp only [if_true, Hx.out, Hy.out, Hz.out, Bool.and_eq_false_iff, decide_eq_false_iff_not]; exact Or.inl (Or.inr hz1))))
            go_upto_region 21 with fail
            go_quiet (fail)
            go_wp2_with fail
            go_ret
            exact ⟨ret_bool HS.out.symm, (hi.drewN _).out⟩
        · have dle : decide (x ≤ y) = false := by simpa using hle
          have HS : Hid (V = false) := Lib.hid (HV.out.symm.trans (valid_no (by unfold shapeB Ch.sp; rw [if_neg (by simp), if_neg (by simp), if_neg (by simp), if_pos rfl]; simp only [if_true, Hx.out, Hy.out, Hz.out, Bool.and_eq_false_iff, decide_eq_false_iff_not]; exact Or.inl (Or.inl (Or.inr hle)))))
          go_upto_region 21 with fail
          go_quiet (fail)
          go_wp2_with fail
          go_ret
          exact ⟨ret_bool HS.out.symm, (hi.drewN _).out⟩
      · have HS : Hid (V = false) := Lib.hid (HV.out.symm.trans (valid_no (by unfold shapeB; simp [n2])))
        have g1 : ((l.length : Int) == 3) = false := by simp; omega
        clear n2
        go_upto_region 21 with fail
        go_quiet (fail)
        go_wp2_with fail
        go_ret
        exact ⟨ret_bool HS.out.symm, (hi.drewN _).out⟩

end Go.Proofs.YtlpdeadmiinhoaaGreatDoor
