/- Valid matrices: the document's answer. -/
import Derived.Test.YtpjmiiejmkgmdaaEB
namespace Go.Proofs.Ytpjmiiejmkgmdaa
open Go.RowKit

theorem refValidM_eq {m : List (List Int)} (h : m.all (rowOk 655360 (cols m)) = true) : validM m = (chB m.length && chB (cols m)) := by simp [validM, h]
theorem validM_no {m : List (List Int)} {k : Nat} (hk : k < m.length) (h : rowOk 655360 (cols m) (m.getD k []) = false) : validM m = false := by
  simp only [validM, all_no_at (d := []) hk h, Bool.and_false]

set_option maxHeartbeats 2000000 in
set_option maxRecDepth 100000 in
theorem refValidMatrix_any (m : List (List Int)) (v : Value) (w : World) (hv : MatIn w m v) :
    Calls Try.prog 34 #[v] w fun e w' => e = .returned (.bool (validM m)) ∧ Below w.heap.size w w' := by
  obtain ⟨a, ca, rfl, hin, hal, _⟩ := hv
  obtain ⟨C, hC⟩ : ∃ C, cols m = C := ⟨_, rfl⟩
  have hno : ∀ k, k < m.length → rowOk 655360 C (m.getD k []) = false → validM m = false := fun k hk h => validM_no hk (by rw [hC]; exact h)
  have hyes : (∀ q, q < m.length → rowOk 655360 C (m.getD q []) = true) → validM m = (chB m.length && chB C) := fun h => by
    rw [refValidM_eq (all_yes_of (d := []) fun q hq => by rw [hC]; exact h q hq), hC]
  have hz : 0 < m.length → ∃ b o a0 c0, a = some ⟨b, o, none⟩ ∧ w.cell? ⟨b, o, none⟩ = some (.slice a0 C c0) := fun hpos => by
    obtain ⟨b0, o0, u0, rfl, hc0, a0, c0, rfl, _, _, _⟩ := hin 0 hpos
    exact ⟨b0, o0, a0, c0, rfl, by rw [← hC]; exact hc0⟩
  obtain ⟨R, hR⟩ : ∃ R, validM m = R := ⟨_, rfl⟩
  rw [hR] at hno hyes ⊢
  have Hno := Lib.hid hno
  have Hyes := Lib.hid hyes
  have Hz := Lib.hid hz
  clear hno hyes hz hR hC
  go_enter Try.func34, Try.ntmps34
  go_wp2_with fail
  go_loopw [3] (fun i wr => ∃ j : Nat, i = .int .i64 j ∧ j ≤ m.length ∧ (∀ q, q < j → rowOk 655360 C (m.getD q []) = true) ∧ Below w.heap.size w wr) (fun i _ => m.length - (intOf i).toNat)
  case atStart => exact ⟨0, rfl, Nat.zero_le _, fun _ h => absurd h (Nat.not_lt_zero _), Below.refl _ _⟩
  case round =>
    obtain ⟨j, rfl, hj, hok, hbl⟩ := hrel
    have Hok := Lib.hid hok
    clear hok
    by_cases hlt : j < m.length
    · obtain ⟨ba, off, a0, c0, rfl, hc0⟩ := Hz.out (by omega)
      obtain ⟨_, _, u, hab, hcj, hu⟩ := hin j hlt
      simp only [Option.some.injEq, Addr.mk.injEq, and_true] at hab
      obtain ⟨rfl, rfl⟩ := hab
      have hposI : (0 : Int) < (m.length : Int) := by omega
      obtain ⟨p, hp⟩ : ∃ p, m.getD j [] = p := ⟨_, rfl⟩
      rw [hp] at hu
      obtain ⟨aj, cj, rfl, hpin, _, _⟩ := hu
      have Hp := Lib.hid hp
      clear hp
      have HC := Lib.hid (fun (x : World) (hx : Below w.heap.size w x) => And.intro ((Same.of_below hx).cell hc0) ((Same.of_below hx).cell hcj))
      obtain ⟨k0, kj⟩ := HC.out wr hbl
      clear hc0 hcj
      have w4 : (j : Int) < (m.length : Int) := by omega
      by_cases g1 : p.length = C
      · have e1 : ((p.length : Int) != (C : Int)) = false := by simp; omega
        have G1 := Lib.hid g1
        clear g1
        go_wp2_with fail
        go_quiet (fail)
        go_wp2_with fail
        clear e1 k0 kj
        generalize hwx : wr.drewN _ = wx
        have hbx : Below w.heap.size w wx := by rw [← hwx]; exact below_drewN hbl _
        clear hwx hbl
        obtain ⟨wo, rfl⟩ : ∃ wo : World, wo = wx := ⟨_, rfl⟩
        go_loopw [4] (fun i wr => ∃ k : Nat, i = .int .i64 k ∧ k ≤ p.length ∧ (∀ q, q < k → inB 655360 (p.getD q 0) = true) ∧ Below w.heap.size w wr) (fun i _ => p.length - (intOf i).toNat)
        case atStart => exact ⟨0, rfl, Nat.zero_le _, fun _ h => absurd h (Nat.not_lt_zero _), hbx⟩
        case round =>
          clear hbx
          obtain ⟨k, rfl, hk, hok2, hbl⟩ := hrel
          have Hok2 := Lib.hid hok2
          clear hok2
          obtain ⟨k0, kj⟩ := HC.out wr hbl
          clear k0
          by_cases hlt2 : k < p.length
          · obtain ⟨bp, op, rfl, hcp, _⟩ := (hpin.mono (Same.of_below hbl)) k hlt2
            obtain ⟨x, hx⟩ : ∃ x, p.getD k 0 = x := ⟨_, rfl⟩
            rw [hx] at hcp
            have Hx := Lib.hid hx
            clear hx
            have w5 : (k : Int) < (p.length : Int) := by omega
            by_cases g2 : x < -655360
            · go_wp2_with fail
              go_ret
              refine ⟨ret_bool ?_, hbl⟩
              refine (Hno.out j hlt ?_).symm
              rw [Hp.out]
              have : within 655360 p = false := all_no_at (d := 0) hlt2 (by rw [Hx.out]; simp [inB]; omega)
              simp [rowOk, this]
            · by_cases g3 : 655360 < x
              · go_wp2_with fail
                go_ret
                refine ⟨ret_bool ?_, hbl⟩
                refine (Hno.out j hlt ?_).symm
                rw [Hp.out]
                have : within 655360 p = false := all_no_at (d := 0) hlt2 (by rw [Hx.out]; simp [inB]; omega)
                simp [rowOk, this]
              · go_wp2_with fail
                go_roundw
                case rel =>
                  refine ⟨k + 1, by go_num, by omega, fun q hq => ?_, hbl⟩
                  by_cases ej : q = k
                  · subst ej; rw [Hx.out]; simp [inB]; omega
                  · exact Hok2.out q (by omega)
                case measure => simp [intOf]; omega
          · have w5 : ¬ (k : Int) < (p.length : Int) := by omega
            have hall : within 655360 p = true := all_yes_of (d := 0) fun q hq => Hok2.out q (by omega)
            have Hall := Lib.hid hall
            clear hall
            go_wp2_with fail
            go_roundw
            case rel =>
              refine ⟨j + 1, by go_num, by omega, fun q hq => ?_, hbl⟩
              by_cases ej : q = j
              · subst ej; rw [Hp.out]; simp [rowOk, G1.out, Hall.out]
              · exact Hok.out q (by omega)
            case measure => simp [intOf]; omega
      · have e1 : ((p.length : Int) != (C : Int)) = true := by simp; omega
        have G1 := Lib.hid g1
        clear g1
        go_wp2_with fail
        go_quiet (fail)
        go_wp2_with fail
        go_ret
        refine ⟨ret_bool ?_, below_drewN hbl _⟩
        exact (Hno.out j hlt (by rw [Hp.out]; simp [rowOk, G1.out])).symm
    · have w4 : ¬ (j : Int) < (m.length : Int) := by omega
      have hR := Hyes.out fun q hq => Hok.out q (by omega)
      by_cases hpos : 0 < m.length
      · obtain ⟨ba, off, a0, c0, rfl, hc0⟩ := Hz.out hpos
        have k0 := (Same.of_below hbl).cell hc0
        clear hc0
        have hposI : (0 : Int) < (m.length : Int) := by omega
        have h1 : (1 : Int) ≤ (m.length : Int) := by omega
        by_cases h2 : (m.length : Int) ≤ 8
        · by_cases h3 : (1 : Int) ≤ (C : Int)
          · by_cases h4 : (C : Int) ≤ 8
            · have hb : R = true := by rw [hR]; simp [chB]; omega
              subst hb
              clear hR
              go_wp2_with fail
              go_ret
              exact ⟨rfl, hbl⟩
            · have hb : R = false := by rw [hR]; simp [chB]; omega
              subst hb
              clear hR
              go_wp2_with fail
              go_ret
              exact ⟨rfl, hbl⟩
          · have hb : R = false := by rw [hR]; simp [chB]; omega
            subst hb
            clear hR
            go_wp2_with fail
            go_ret
            exact ⟨rfl, hbl⟩
        · have hb : R = false := by rw [hR]; simp [chB]; omega
          subst hb
          clear hR
          go_wp2_with fail
          go_ret
          exact ⟨rfl, hbl⟩
      · have h1 : ¬ (1 : Int) ≤ (m.length : Int) := by omega
        have hb : R = false := by rw [hR]; simp [chB]; omega
        subst hb
        clear hR
        go_wp2_with fail
        go_ret
        exact ⟨rfl, hbl⟩
end Go.Proofs.Ytpjmiiejmkgmdaa
