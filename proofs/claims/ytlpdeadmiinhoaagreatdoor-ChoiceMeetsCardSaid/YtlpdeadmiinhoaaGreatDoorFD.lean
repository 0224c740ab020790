/- ValidChoice of the document's answers at lists; at all. -/
import Derived.Test.YtlpdeadmiinhoaaGreatDoorFC
namespace Go.Proofs.YtlpdeadmiinhoaaGreatDoor
open Go.RowKit

theorem fresh_no {l : List Int} {k : Nat} {x : Int} {j : Nat} (hx : Hid (l.getD k 0 = x)) (hjk : j < k) (hk : k < l.length) {y : Int} (hy : Hid (l.getD j 0 = y)) (h : (y == x) = true) : freshAt l k = false := by
  unfold freshAt
  rw [hx.out]
  have hlen : j < (l.take k).length := by rw [List.length_take]; omega
  have e : (l.take k).getD j 0 = y := by rw [← hy.out]; simp [List.getD, hjk]
  rw [contains_at hlen (Lib.hid e) (by simp only [beq_iff_eq] at h ⊢; exact h.symm)]
  rfl
theorem fresh_yes {l : List Int} {k : Nat} {x : Int} (hx : Hid (l.getD k 0 = x)) (hk : k < l.length) (h : Hid (∀ j, j < k → (x == l.getD j 0) = false)) : freshAt l k = true := by
  unfold freshAt
  rw [hx.out, not_contains (Lib.hid fun j hj => by
    rw [List.length_take] at hj
    have e : (l.take k).getD j 0 = l.getD j 0 := by simp [List.getD, show j < k by omega]
    rw [e]
    exact h.out j (by omega))]
  rfl
theorem shape_two_no {d : Int} {l : List Int} {k : Nat} (hk : k < l.length) (h : freshAt l k = false) : shapeB ⟨2, d, l⟩ = false := by
  unfold shapeB
  have : distinctB l = false := all_no hk h
  simp [this]

set_option maxRecDepth 100000 in
set_option maxHeartbeats 3200000 in
theorem refValid_two (kd d : Int) (l : List Int) (v : Value) (w : World) (hc : ChIn w ⟨kd, d, l⟩ v) (hk : kd = 2) :
    Calls Tryz.prog 15 #[v] w fun e w' => e = .returned (.bool (validC ⟨kd, d, l⟩)) ∧ Below w.heap.size w w' := by
  have hc0 := hc
  obtain ⟨a, cap, rfl, hk1, hd1, hl, hin, hcap⟩ := hc
  obtain rfl : kd = 2 := hk
  simp only at hl hin hcap ⊢
  obtain ⟨X, hX⟩ : ∃ X : Obj, X = .cells #[.int .i64 2, .int .i64 d, .slice a l.length cap] 24 := ⟨_, rfl⟩
  have HH := Lib.hid fun (wr : World) (hi : In1 w X wr) (h : HasOk ⟨2, d, l⟩) => calls_in1 hi (has1_any ⟨2, d, l⟩ _ d wr (hc0.mono hi.same) h)
  have HIn := Lib.hid fun (wr : World) (hi : In1 w X wr) => hin.mono hi.same
  have HC := Lib.hid fun (wr : World) (h : In1 w X wr) => In1.cells3 (hX ▸ h)
  have HF : In1 w X (w.alloc (.cells #[.int .i64 2, .int .i64 d, .slice a l.length cap] 24)) := hX ▸ In1.first w X
  clear hin hcap hX hc0
  obtain ⟨V, hV⟩ : ∃ V, validC ⟨2, d, l⟩ = V := ⟨_, rfl⟩
  have HV := Lib.hid hV
  rw [hV]
  clear hV hk1 hd1
  go_enter Tryz.func15, Tryz.ntmps15
  go_wp2_with fail
  go_loopw [3] (fun i wr => ∃ (k : Nat), i = .int .i64 k ∧ k ≤ l.length ∧ (∀ j, j < k → (bAt l j && freshAt l j) = true) ∧ In1 w X wr) (fun i _ => l.length - (intOf i).toNat)
  case atStart => exact ⟨0, rfl, Nat.zero_le _, fun _ h => absurd h (Nat.not_lt_zero _), HF⟩
  case round =>
    obtain ⟨k, rfl, hkl, hok, hi⟩ := hrel
    have Hok := Lib.hid hok
    clear hok HF
    obtain ⟨p0, p1, p2⟩ := HC.out wr hi
    by_cases hlt : k < l.length
    · obtain ⟨b, off, rfl, hcell, _⟩ := HIn.out wr hi k hlt
      obtain ⟨x, hx⟩ : ∃ x, l.getD k 0 = x := ⟨_, rfl⟩
      rw [hx] at hcell
      have Hx := Lib.hid hx
      clear hx
      by_cases h1 : x < 0
      · go_wp2_with fail
        go_ret
        exact ⟨ret_bool ((valid_nob (boundB_no hlt (bAt_no Hx (Or.inl h1)))).symm.trans HV.out), hi.out⟩
      by_cases h2 : 1000000000 < x
      · go_wp2_with fail
        go_ret
        exact ⟨ret_bool ((valid_nob (boundB_no hlt (bAt_no Hx (Or.inr h2)))).symm.trans HV.out), hi.out⟩
      · have Hb : Hid (bAt l k = true) := Lib.hid (bAt_mk Hx h1 h2)
        go_wp2_with fail
        obtain ⟨wo, rfl⟩ : ∃ wo : World, wo = wr := ⟨_, rfl⟩
        clear hcell p0 p1 p2
        go_loopw [4] (fun i wr2 => ∃ (p : Nat), i = .int .i64 p ∧ p ≤ k ∧ (∀ j, j < p → (x == l.getD j 0) = false) ∧ In1 w X wr2) (fun i _ => k - (intOf i).toNat)
        case atStart => exact ⟨0, rfl, Nat.zero_le _, fun _ h => absurd h (Nat.not_lt_zero _), hi⟩
        case round =>
          obtain ⟨p, rfl, hpk, hne, hi2⟩ := hrel
          have Hne := Lib.hid hne
          clear hne
          rename_i wr2 _
          obtain ⟨q0, q1, q2⟩ := HC.out _ hi2
          by_cases hplt : p < k
          · obtain ⟨b', off', hbo, hc1, _⟩ := HIn.out _ hi2 k hlt
            cases hbo
            obtain ⟨b', off', hbo, hc2, _⟩ := HIn.out _ hi2 p (by omega)
            cases hbo
            rw [Hx.out] at hc1
            obtain ⟨y, hy⟩ : ∃ y, l.getD p 0 = y := ⟨_, rfl⟩
            rw [hy] at hc2
            have Hy := Lib.hid hy
            clear hy
            have i1 : (p : Int) < (l.length : Int) := by omega
            have i2 : (k : Int) < (l.length : Int) := by omega
            have i3 : (0 : Int) ≤ (p : Int) := by omega
            have i4 : (0 : Int) ≤ (k : Int) := by omega
            have i5 : p < l.length := by omega
            cases hyx : (y == x) with
            | true =>
              have HS : Hid (V = false) := Lib.hid (HV.out.symm.trans (valid_no (shape_two_no hlt (fresh_no Hx hplt hlt Hy hyx))))
              go_wp2_with fail
              go_quiet (fail)
              go_wp2_with fail
              go_ret
              exact ⟨ret_bool HS.out.symm, (hi2.drewN _).out⟩
            | false =>
              have Hn : Hid ((x == l.getD p 0) = false) := Lib.hid (by rw [Hy.out]; simp only [beq_eq_false_iff_ne, ne_eq] at hyx ⊢; exact fun e => hyx e.symm)
              go_wp2_with fail
              go_quiet (fail)
              go_wp2_with fail
              go_roundw
              case rel => exact ⟨p + 1, by go_num, by omega, no_snoc Hne Hn.out, hi2.drewN _⟩
              case measure => simp [intOf]; omega
          · have Hf : Hid (freshAt l k = true) := Lib.hid (fresh_yes Hx hlt (Lib.hid fun j hj => Hne.out j (by omega)))
            go_wp2_with fail
            all_goals
              go_roundw
              case rel => exact ⟨k + 1, by go_num, by omega, ok_snoc Hok (by rw [Hb.out, Hf.out]; rfl), hi2⟩
              case measure => simp [intOf]; omega
    · have Hbd : Hid (boundB l = true) := Lib.hid (boundB_yes fun j hj => by have := Hok.out j (by omega); rw [Bool.and_eq_true] at this; exact this.1)
      have Hdd : Hid (distinctB l = true) := Lib.hid (all_yes fun j hj => by have := Hok.out j (by omega); rw [Bool.and_eq_true] at this; exact this.2)
      clear Hok
      obtain ⟨B, hB⟩ : ∃ B, (Ch.mk 2 d l).has d = B := ⟨_, rfl⟩
      rw [hB] at HH
      have HBB := Lib.hid hB
      clear hB
      by_cases n1 : 1 ≤ l.length
      · by_cases n20 : l.length ≤ 20
        · have HS : Hid (shapeB ⟨2, d, l⟩ = true) := Lib.hid (by unfold shapeB; simp [n1, n20, Hdd.out])
          have g1 : (1 : Int) ≤ (l.length : Int) := by omega
          have g2 : (l.length : Int) ≤ 20 := by omega
          go_wp2_with (go_at_call 20; (with_reducible refine (HH.out _ hi (hasOk_shape Hbd.out HS.out)).mono ?_); rintro e w1 ⟨rfl, hi1⟩)
          go_ret
          exact ⟨ret_bool (HBB.out.symm.trans ((valid_of Hbd.out HS.out).symm.trans HV.out)), hi1.out⟩
        · have HS : Hid (V = false) := Lib.hid (HV.out.symm.trans (valid_no (by unfold shapeB; simp [n20])))
          have g1 : (1 : Int) ≤ (l.length : Int) := by omega
          have g2 : ¬ (l.length : Int) ≤ 20 := by omega
          go_wp2_with fail
          go_ret
          exact ⟨ret_bool HS.out.symm, hi.out⟩
      · have HS : Hid (V = false) := Lib.hid (HV.out.symm.trans (valid_no (by unfold shapeB; simp [n1])))
        have g1 : ¬ (1 : Int) ≤ (l.length : Int) := by omega
        go_wp2_with fail
        go_ret
        exact ⟨ret_bool HS.out.symm, hi.out⟩

theorem refValid_any (c : Ch) (v : Value) (w : World) (hc : ChIn w c v) :
    Calls Tryz.prog 15 #[v] w fun e w' => e = .returned (.bool (validC c)) ∧ Below w.heap.size w w' := by
  obtain ⟨kd, d, l⟩ := c
  by_cases k1 : kd = 1
  · exact refValid_one kd d l v w hc k1
  by_cases k2 : kd = 2
  · exact refValid_two kd d l v w hc k2
  by_cases k3 : kd = 3
  · exact refValid_three kd d l v w hc k3
  by_cases k4 : kd = 4
  · exact refValid_four kd d l v w hc k4
  · exact refValid_other kd d l v w hc ⟨k1, k2, k3, k4⟩
end Go.Proofs.YtlpdeadmiinhoaaGreatDoor
